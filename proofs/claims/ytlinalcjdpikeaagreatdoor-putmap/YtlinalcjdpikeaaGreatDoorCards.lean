/-
  DERIVED. GIVEN WITH THE SEED: THE CARDS: each row of YtlinalcjdpikeaaGreatDoorRows.lean that lists a variable, with what it lists TIED to the program's text (the seventh form; the later family's looks); each row that meets fmt, with fmt's text TOLD by the authors' own Lean function (tested against real Go, not proved from fmt's source: count such statements apart). THE CARD IS WHAT COUNTS. Prove the row's statement (the work); the ties are given (YtlinalcjdpikeaaGreatDoorTie.lean); close each card by the builder's one call (the guide's Derived/Test/ToyasCard.lean, 'card_holds'). Laid BY PROGRAM, IN A SANDBOX (cutbox-door.mjs). By AI agents, Wed Nov 11 2026. No macro, syntax, notation, axiom, sorry.
-/
import Derived.Test.YtlinalcjdpikeaaGreatDoorRows
import GoSem.ClaimSeven
namespace Go.Proofs.YtlinalcjdpikeaaGreatDoor
namespace Rows

/-- THE TIED CARD OF 'rootcellarlaw07.StoreScript'. -/
def storeScriptCard : Claim7 := { stood := { row := storeScriptRow, standIns := [], harness := (true, "fd399de3476f2d06916c705c4bdf57e6df547609a730c12fa2809f500d1b51ca"), looks := false }, kinds := [], alts := [], laidByText := true, laidKinds := [.data, .data], laidTests := true, laidLooks := .later }
def StoreScriptCardSaid : Prop := Claim7.holds Tryz.pinned (.plain (OpenSpec.ofChange storeScriptSpec)) storeScriptCard

/-- THE TIED CARD OF 'rootcellarlaw09.PutScript'. -/
def putScriptCard : Claim7 := { stood := { row := putScriptRow, standIns := [], harness := (true, "fd399de3476f2d06916c705c4bdf57e6df547609a730c12fa2809f500d1b51ca"), looks := false }, kinds := [], alts := [], laidByText := true, laidKinds := [.data, .data], laidTests := true, laidLooks := .later }
def PutScriptCardSaid : Prop := Claim7.holds Tryz.pinned (.plain (OpenSpec.ofChange putScriptSpec)) putScriptCard

/-- THE TIED CARD OF 'rootcellarlaw09.PutOther'. -/
def putOtherCard : Claim7 := { stood := { row := putOtherRow, standIns := [], harness := (true, "fd399de3476f2d06916c705c4bdf57e6df547609a730c12fa2809f500d1b51ca"), looks := false }, kinds := [], alts := [], laidByText := true, laidKinds := [.data, .data], laidTests := true, laidLooks := .later }
def PutOtherCardSaid : Prop := Claim7.holds Tryz.pinned (.plain (OpenSpec.ofChange putOtherSpec)) putOtherCard

/-- THE TIED CARD OF 'rootcellarlaw09.PutMap'. -/
def putMapCard : Claim7 := { stood := { row := putMapRow, standIns := [], harness := (true, "fd399de3476f2d06916c705c4bdf57e6df547609a730c12fa2809f500d1b51ca"), looks := false }, kinds := [], alts := [], laidByText := true, laidKinds := [.data, .data], laidTests := true, laidLooks := .later }
def PutMapCardSaid : Prop := Claim7.holds Tryz.pinned (.plain (OpenSpec.ofChange putMapSpec)) putMapCard

/-- THE SECOND FORM's CARD OF 'rootcellarlaw07.StoreScript'. -/
def storeScriptUptoCard : Claim7 := { stood := { row := storeScriptUptoRow, standIns := [], harness := (true, "fd399de3476f2d06916c705c4bdf57e6df547609a730c12fa2809f500d1b51ca"), looks := false }, kinds := [], alts := [], laidByText := true, laidKinds := [.data, .data], laidTests := true, laidLooks := .later }
def StoreScriptUptoCardSaid : Prop := Claim7.holds Tryz.pinned (.plain (OpenSpec.upto storeScriptSpec)) storeScriptUptoCard

/-- THE SECOND FORM's CARD OF 'rootcellarlaw09.PutScript'. -/
def putScriptUptoCard : Claim7 := { stood := { row := putScriptUptoRow, standIns := [], harness := (true, "fd399de3476f2d06916c705c4bdf57e6df547609a730c12fa2809f500d1b51ca"), looks := false }, kinds := [], alts := [], laidByText := true, laidKinds := [.data, .data], laidTests := true, laidLooks := .later }
def PutScriptUptoCardSaid : Prop := Claim7.holds Tryz.pinned (.plain (OpenSpec.upto putScriptSpec)) putScriptUptoCard

/-- THE SECOND FORM's CARD OF 'rootcellarlaw09.PutOther'. -/
def putOtherUptoCard : Claim7 := { stood := { row := putOtherUptoRow, standIns := [], harness := (true, "fd399de3476f2d06916c705c4bdf57e6df547609a730c12fa2809f500d1b51ca"), looks := false }, kinds := [], alts := [], laidByText := true, laidKinds := [.data, .data], laidTests := true, laidLooks := .later }
def PutOtherUptoCardSaid : Prop := Claim7.holds Tryz.pinned (.plain (OpenSpec.upto putOtherSpec)) putOtherUptoCard

/-- THE SECOND FORM's CARD OF 'rootcellarlaw09.PutMap'. -/
def putMapUptoCard : Claim7 := { stood := { row := putMapUptoRow, standIns := [], harness := (true, "fd399de3476f2d06916c705c4bdf57e6df547609a730c12fa2809f500d1b51ca"), looks := false }, kinds := [], alts := [], laidByText := true, laidKinds := [.data, .data], laidTests := true, laidLooks := .later }
def PutMapUptoCardSaid : Prop := Claim7.holds Tryz.pinned (.plain (OpenSpec.upto putMapSpec)) putMapUptoCard
end Rows
end Go.Proofs.YtlinalcjdpikeaaGreatDoor
