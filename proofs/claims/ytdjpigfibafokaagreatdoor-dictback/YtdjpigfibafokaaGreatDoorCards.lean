/-
  DERIVED. GIVEN WITH THE SEED: THE CARDS: each row of YtdjpigfibafokaaGreatDoorRows.lean that lists a variable, with what it lists TIED to the program's text (the seventh form; the later family's looks); each row that meets fmt, with fmt's text TOLD by the authors' own Lean function (tested against real Go, not proved from fmt's source: count such statements apart). THE CARD IS WHAT COUNTS. Prove the row's statement (the work); the ties are given (YtdjpigfibafokaaGreatDoorTie.lean); close each card by the builder's one call (the guide's Derived/Test/ToyasCard.lean, 'card_holds'). Laid BY PROGRAM, IN A SANDBOX (cutbox-door.mjs). By AI agents, Wed Nov 11 2026. No macro, syntax, notation, axiom, sorry.
-/
import Derived.Test.YtdjpigfibafokaaGreatDoorRows
import GoSem.ClaimSeven
namespace Go.Proofs.YtdjpigfibafokaaGreatDoor
namespace Rows

/-- THE TIED CARD OF 'rootcellarlaw15.DictScript'. -/
def dictScriptCard : Claim7 := { stood := { row := dictScriptRow, standIns := [], harness := (true, "84c436328c38df3adafe77fe21d908d5080a79b89f9a1681bc8b2875ad5bf10f"), looks := false }, kinds := [], alts := [], laidByText := true, laidKinds := [.data, .data], laidTests := true, laidLooks := .later }
def DictScriptCardSaid : Prop := Claim7.holds Tryz.pinned (.plain (OpenSpec.ofChange dictScriptSpec)) dictScriptCard

/-- THE TIED CARD OF 'rootcellarlaw15.DictSound'. -/
def dictSoundCard : Claim7 := { stood := { row := dictSoundRow, standIns := [], harness := (true, "84c436328c38df3adafe77fe21d908d5080a79b89f9a1681bc8b2875ad5bf10f"), looks := false }, kinds := [], alts := [], laidByText := true, laidKinds := [.data, .data], laidTests := true, laidLooks := .later }
def DictSoundCardSaid : Prop := Claim7.holds Tryz.pinned (.plain (OpenSpec.ofChange dictSoundSpec)) dictSoundCard

/-- THE TIED CARD OF 'rootcellarlaw15.DictBack'. -/
def dictBackCard : Claim7 := { stood := { row := dictBackRow, standIns := [], harness := (true, "84c436328c38df3adafe77fe21d908d5080a79b89f9a1681bc8b2875ad5bf10f"), looks := false }, kinds := [], alts := [], laidByText := true, laidKinds := [.data, .data], laidTests := true, laidLooks := .later }
def DictBackCardSaid : Prop := Claim7.holds Tryz.pinned (.plain (OpenSpec.ofChange dictBackSpec)) dictBackCard

/-- THE TIED CARD OF 'rootcellarlaw16.ProofTells'. -/
def proofTellsCard : Claim7 := { stood := { row := proofTellsRow, standIns := [], harness := (true, "84c436328c38df3adafe77fe21d908d5080a79b89f9a1681bc8b2875ad5bf10f"), looks := false }, kinds := [], alts := [], laidByText := true, laidKinds := [.data, .data], laidTests := true, laidLooks := .later }
def ProofTellsCardSaid : Prop := Claim7.holds Tryz.pinned (.plain (OpenSpec.ofChange proofTellsSpec)) proofTellsCard

/-- THE TIED CARD OF 'rootcellarlaw16.ProofHolds'. -/
def proofHoldsCard : Claim7 := { stood := { row := proofHoldsRow, standIns := [], harness := (true, "84c436328c38df3adafe77fe21d908d5080a79b89f9a1681bc8b2875ad5bf10f"), looks := false }, kinds := [], alts := [], laidByText := true, laidKinds := [.data, .data], laidTests := true, laidLooks := .later }
def ProofHoldsCardSaid : Prop := Claim7.holds Tryz.pinned (.plain (OpenSpec.ofChange proofHoldsSpec)) proofHoldsCard

/-- THE SECOND FORM's CARD OF 'rootcellarlaw15.DictScript'. -/
def dictScriptUptoCard : Claim7 := { stood := { row := dictScriptUptoRow, standIns := [], harness := (true, "84c436328c38df3adafe77fe21d908d5080a79b89f9a1681bc8b2875ad5bf10f"), looks := false }, kinds := [], alts := [], laidByText := true, laidKinds := [.data, .data], laidTests := true, laidLooks := .later }
def DictScriptUptoCardSaid : Prop := Claim7.holds Tryz.pinned (.plain (OpenSpec.upto dictScriptSpec)) dictScriptUptoCard

/-- THE SECOND FORM's CARD OF 'rootcellarlaw15.DictSound'. -/
def dictSoundUptoCard : Claim7 := { stood := { row := dictSoundUptoRow, standIns := [], harness := (true, "84c436328c38df3adafe77fe21d908d5080a79b89f9a1681bc8b2875ad5bf10f"), looks := false }, kinds := [], alts := [], laidByText := true, laidKinds := [.data, .data], laidTests := true, laidLooks := .later }
def DictSoundUptoCardSaid : Prop := Claim7.holds Tryz.pinned (.plain (OpenSpec.upto dictSoundSpec)) dictSoundUptoCard

/-- THE SECOND FORM's CARD OF 'rootcellarlaw15.DictBack'. -/
def dictBackUptoCard : Claim7 := { stood := { row := dictBackUptoRow, standIns := [], harness := (true, "84c436328c38df3adafe77fe21d908d5080a79b89f9a1681bc8b2875ad5bf10f"), looks := false }, kinds := [], alts := [], laidByText := true, laidKinds := [.data, .data], laidTests := true, laidLooks := .later }
def DictBackUptoCardSaid : Prop := Claim7.holds Tryz.pinned (.plain (OpenSpec.upto dictBackSpec)) dictBackUptoCard

/-- THE SECOND FORM's CARD OF 'rootcellarlaw16.ProofTells'. -/
def proofTellsUptoCard : Claim7 := { stood := { row := proofTellsUptoRow, standIns := [], harness := (true, "84c436328c38df3adafe77fe21d908d5080a79b89f9a1681bc8b2875ad5bf10f"), looks := false }, kinds := [], alts := [], laidByText := true, laidKinds := [.data, .data], laidTests := true, laidLooks := .later }
def ProofTellsUptoCardSaid : Prop := Claim7.holds Tryz.pinned (.plain (OpenSpec.upto proofTellsSpec)) proofTellsUptoCard

/-- THE SECOND FORM's CARD OF 'rootcellarlaw16.ProofHolds'. -/
def proofHoldsUptoCard : Claim7 := { stood := { row := proofHoldsUptoRow, standIns := [], harness := (true, "84c436328c38df3adafe77fe21d908d5080a79b89f9a1681bc8b2875ad5bf10f"), looks := false }, kinds := [], alts := [], laidByText := true, laidKinds := [.data, .data], laidTests := true, laidLooks := .later }
def ProofHoldsUptoCardSaid : Prop := Claim7.holds Tryz.pinned (.plain (OpenSpec.upto proofHoldsSpec)) proofHoldsUptoCard
end Rows
end Go.Proofs.YtdjpigfibafokaaGreatDoor
