/-
  DERIVED. GIVEN WITH THE SEED: THE CARDS: each row of YtegegoapcdmlhaaGreatDoorRows.lean that lists a variable, with what it lists TIED to the program's text (the seventh form; the later family's looks); each row that meets fmt, with fmt's text TOLD by the authors' own Lean function (tested against real Go, not proved from fmt's source: count such statements apart). THE CARD IS WHAT COUNTS. Prove the row's statement (the work); the ties are given (YtegegoapcdmlhaaGreatDoorTie.lean); close each card by the builder's one call (the guide's Derived/Test/ToyasCard.lean, 'card_holds'). Laid BY PROGRAM, IN A SANDBOX (cutbox-door.mjs). By AI agents, Wed Nov 11 2026. No macro, syntax, notation, axiom, sorry.
-/
import Derived.Test.YtegegoapcdmlhaaGreatDoorRows
import GoSem.ClaimSeven
namespace Go.Proofs.YtegegoapcdmlhaaGreatDoor
namespace Rows

/-- THE TIED CARD OF 'rootcellarlaw11.BatchApplies'. -/
def batchAppliesCard : Claim7 := { stood := { row := batchAppliesRow, standIns := [], harness := (true, "ba564ac9887e94a1111f98eb8fba5f20fdfd242b5288308918990016c8090ded"), looks := false }, kinds := [], alts := [], laidByText := true, laidKinds := [.data, .data], laidTests := true, laidLooks := .later }
def BatchAppliesCardSaid : Prop := Claim7.holds Tryz.pinned (.plain (OpenSpec.ofChange batchAppliesSpec)) batchAppliesCard

/-- THE TIED CARD OF 'rootcellarlaw11.BatchSingles'. -/
def batchSinglesCard : Claim7 := { stood := { row := batchSinglesRow, standIns := [], harness := (true, "ba564ac9887e94a1111f98eb8fba5f20fdfd242b5288308918990016c8090ded"), looks := false }, kinds := [], alts := [], laidByText := true, laidKinds := [.data, .data], laidTests := true, laidLooks := .later }
def BatchSinglesCardSaid : Prop := Claim7.holds Tryz.pinned (.plain (OpenSpec.ofChange batchSinglesSpec)) batchSinglesCard

/-- THE TIED CARD OF 'rootcellarlaw15.DictScript'. -/
def dictScriptCard : Claim7 := { stood := { row := dictScriptRow, standIns := [], harness := (true, "ba564ac9887e94a1111f98eb8fba5f20fdfd242b5288308918990016c8090ded"), looks := false }, kinds := [], alts := [], laidByText := true, laidKinds := [.data, .data], laidTests := true, laidLooks := .later }
def DictScriptCardSaid : Prop := Claim7.holds Tryz.pinned (.plain (OpenSpec.ofChange dictScriptSpec)) dictScriptCard

/-- THE TIED CARD OF 'rootcellarlaw15.DictSound'. -/
def dictSoundCard : Claim7 := { stood := { row := dictSoundRow, standIns := [], harness := (true, "ba564ac9887e94a1111f98eb8fba5f20fdfd242b5288308918990016c8090ded"), looks := false }, kinds := [], alts := [], laidByText := true, laidKinds := [.data, .data], laidTests := true, laidLooks := .later }
def DictSoundCardSaid : Prop := Claim7.holds Tryz.pinned (.plain (OpenSpec.ofChange dictSoundSpec)) dictSoundCard

/-- THE TIED CARD OF 'rootcellarlaw15.DictBack'. -/
def dictBackCard : Claim7 := { stood := { row := dictBackRow, standIns := [], harness := (true, "ba564ac9887e94a1111f98eb8fba5f20fdfd242b5288308918990016c8090ded"), looks := false }, kinds := [], alts := [], laidByText := true, laidKinds := [.data, .data], laidTests := true, laidLooks := .later }
def DictBackCardSaid : Prop := Claim7.holds Tryz.pinned (.plain (OpenSpec.ofChange dictBackSpec)) dictBackCard

/-- THE TIED CARD OF 'rootcellarlaw15.DictNil'. -/
def dictNilCard : Claim7 := { stood := { row := dictNilRow, standIns := [], harness := (true, "ba564ac9887e94a1111f98eb8fba5f20fdfd242b5288308918990016c8090ded"), looks := false }, kinds := [], alts := [], laidByText := true, laidKinds := [.data, .data], laidTests := true, laidLooks := .later }
def DictNilCardSaid : Prop := Claim7.holds Tryz.pinned (.plain (OpenSpec.ofChange dictNilSpec)) dictNilCard

/-- THE SECOND FORM's CARD OF 'rootcellarlaw11.BatchApplies'. -/
def batchAppliesUptoCard : Claim7 := { stood := { row := batchAppliesUptoRow, standIns := [], harness := (true, "ba564ac9887e94a1111f98eb8fba5f20fdfd242b5288308918990016c8090ded"), looks := false }, kinds := [], alts := [], laidByText := true, laidKinds := [.data, .data], laidTests := true, laidLooks := .later }
def BatchAppliesUptoCardSaid : Prop := Claim7.holds Tryz.pinned (.plain (OpenSpec.upto batchAppliesSpec)) batchAppliesUptoCard

/-- THE SECOND FORM's CARD OF 'rootcellarlaw11.BatchSingles'. -/
def batchSinglesUptoCard : Claim7 := { stood := { row := batchSinglesUptoRow, standIns := [], harness := (true, "ba564ac9887e94a1111f98eb8fba5f20fdfd242b5288308918990016c8090ded"), looks := false }, kinds := [], alts := [], laidByText := true, laidKinds := [.data, .data], laidTests := true, laidLooks := .later }
def BatchSinglesUptoCardSaid : Prop := Claim7.holds Tryz.pinned (.plain (OpenSpec.upto batchSinglesSpec)) batchSinglesUptoCard

/-- THE SECOND FORM's CARD OF 'rootcellarlaw15.DictScript'. -/
def dictScriptUptoCard : Claim7 := { stood := { row := dictScriptUptoRow, standIns := [], harness := (true, "ba564ac9887e94a1111f98eb8fba5f20fdfd242b5288308918990016c8090ded"), looks := false }, kinds := [], alts := [], laidByText := true, laidKinds := [.data, .data], laidTests := true, laidLooks := .later }
def DictScriptUptoCardSaid : Prop := Claim7.holds Tryz.pinned (.plain (OpenSpec.upto dictScriptSpec)) dictScriptUptoCard

/-- THE SECOND FORM's CARD OF 'rootcellarlaw15.DictSound'. -/
def dictSoundUptoCard : Claim7 := { stood := { row := dictSoundUptoRow, standIns := [], harness := (true, "ba564ac9887e94a1111f98eb8fba5f20fdfd242b5288308918990016c8090ded"), looks := false }, kinds := [], alts := [], laidByText := true, laidKinds := [.data, .data], laidTests := true, laidLooks := .later }
def DictSoundUptoCardSaid : Prop := Claim7.holds Tryz.pinned (.plain (OpenSpec.upto dictSoundSpec)) dictSoundUptoCard

/-- THE SECOND FORM's CARD OF 'rootcellarlaw15.DictBack'. -/
def dictBackUptoCard : Claim7 := { stood := { row := dictBackUptoRow, standIns := [], harness := (true, "ba564ac9887e94a1111f98eb8fba5f20fdfd242b5288308918990016c8090ded"), looks := false }, kinds := [], alts := [], laidByText := true, laidKinds := [.data, .data], laidTests := true, laidLooks := .later }
def DictBackUptoCardSaid : Prop := Claim7.holds Tryz.pinned (.plain (OpenSpec.upto dictBackSpec)) dictBackUptoCard

/-- THE SECOND FORM's CARD OF 'rootcellarlaw15.DictNil'. -/
def dictNilUptoCard : Claim7 := { stood := { row := dictNilUptoRow, standIns := [], harness := (true, "ba564ac9887e94a1111f98eb8fba5f20fdfd242b5288308918990016c8090ded"), looks := false }, kinds := [], alts := [], laidByText := true, laidKinds := [.data, .data], laidTests := true, laidLooks := .later }
def DictNilUptoCardSaid : Prop := Claim7.holds Tryz.pinned (.plain (OpenSpec.upto dictNilSpec)) dictNilUptoCard
end Rows
end Go.Proofs.YtegegoapcdmlhaaGreatDoor
