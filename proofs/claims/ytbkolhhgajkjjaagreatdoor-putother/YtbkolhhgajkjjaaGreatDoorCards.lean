/-
  DERIVED. GIVEN WITH THE SEED: THE CARDS: each row of YtbkolhhgajkjjaaGreatDoorRows.lean that lists a variable, with what it lists TIED to the program's text (the seventh form; the later family's looks); each row that meets fmt, with fmt's text TOLD by the authors' own Lean function (tested against real Go, not proved from fmt's source: count such statements apart). THE CARD IS WHAT COUNTS. Prove the row's statement (the work); the ties are given (YtbkolhhgajkjjaaGreatDoorTie.lean); close each card by the builder's one call (the guide's Derived/Test/ToyasCard.lean, 'card_holds'). Laid BY PROGRAM, IN A SANDBOX (cutbox-door.mjs). By AI agents, Wed Nov 11 2026. No macro, syntax, notation, axiom, sorry.
-/
import Derived.Test.YtbkolhhgajkjjaaGreatDoorRows
import GoSem.ClaimSeven
namespace Go.Proofs.YtbkolhhgajkjjaaGreatDoor
namespace Rows

/-- THE TIED CARD OF 'rootcellarlaw07.StoreScript'. -/
def storeScriptCard : Claim7 := { stood := { row := storeScriptRow, standIns := [], harness := (true, "07597280168ee3ed2535d6a6bd1aa8c73074fc522ea67197fefa7bf5f37f8fc6"), looks := false }, kinds := [], alts := [], laidByText := true, laidKinds := [.data, .data], laidTests := true, laidLooks := .later }
def StoreScriptCardSaid : Prop := Claim7.holds Tryz.pinned (.plain (OpenSpec.ofChange storeScriptSpec)) storeScriptCard

/-- THE TIED CARD OF 'rootcellarlaw09.PutScript'. -/
def putScriptCard : Claim7 := { stood := { row := putScriptRow, standIns := [], harness := (true, "07597280168ee3ed2535d6a6bd1aa8c73074fc522ea67197fefa7bf5f37f8fc6"), looks := false }, kinds := [], alts := [], laidByText := true, laidKinds := [.data, .data], laidTests := true, laidLooks := .later }
def PutScriptCardSaid : Prop := Claim7.holds Tryz.pinned (.plain (OpenSpec.ofChange putScriptSpec)) putScriptCard

/-- THE TIED CARD OF 'rootcellarlaw09.PutOther'. -/
def putOtherCard : Claim7 := { stood := { row := putOtherRow, standIns := [], harness := (true, "07597280168ee3ed2535d6a6bd1aa8c73074fc522ea67197fefa7bf5f37f8fc6"), looks := false }, kinds := [], alts := [], laidByText := true, laidKinds := [.data, .data], laidTests := true, laidLooks := .later }
def PutOtherCardSaid : Prop := Claim7.holds Tryz.pinned (.plain (OpenSpec.ofChange putOtherSpec)) putOtherCard

/-- THE TIED CARD OF 'rootcellarlaw10.DropScript'. -/
def dropScriptCard : Claim7 := { stood := { row := dropScriptRow, standIns := [], harness := (true, "07597280168ee3ed2535d6a6bd1aa8c73074fc522ea67197fefa7bf5f37f8fc6"), looks := false }, kinds := [], alts := [], laidByText := true, laidKinds := [.data, .data], laidTests := true, laidLooks := .later }
def DropScriptCardSaid : Prop := Claim7.holds Tryz.pinned (.plain (OpenSpec.ofChange dropScriptSpec)) dropScriptCard

/-- THE TIED CARD OF 'rootcellarlaw10.DropOther'. -/
def dropOtherCard : Claim7 := { stood := { row := dropOtherRow, standIns := [], harness := (true, "07597280168ee3ed2535d6a6bd1aa8c73074fc522ea67197fefa7bf5f37f8fc6"), looks := false }, kinds := [], alts := [], laidByText := true, laidKinds := [.data, .data], laidTests := true, laidLooks := .later }
def DropOtherCardSaid : Prop := Claim7.holds Tryz.pinned (.plain (OpenSpec.ofChange dropOtherSpec)) dropOtherCard

/-- THE SECOND FORM's CARD OF 'rootcellarlaw07.StoreScript'. -/
def storeScriptUptoCard : Claim7 := { stood := { row := storeScriptUptoRow, standIns := [], harness := (true, "07597280168ee3ed2535d6a6bd1aa8c73074fc522ea67197fefa7bf5f37f8fc6"), looks := false }, kinds := [], alts := [], laidByText := true, laidKinds := [.data, .data], laidTests := true, laidLooks := .later }
def StoreScriptUptoCardSaid : Prop := Claim7.holds Tryz.pinned (.plain (OpenSpec.upto storeScriptSpec)) storeScriptUptoCard

/-- THE SECOND FORM's CARD OF 'rootcellarlaw09.PutScript'. -/
def putScriptUptoCard : Claim7 := { stood := { row := putScriptUptoRow, standIns := [], harness := (true, "07597280168ee3ed2535d6a6bd1aa8c73074fc522ea67197fefa7bf5f37f8fc6"), looks := false }, kinds := [], alts := [], laidByText := true, laidKinds := [.data, .data], laidTests := true, laidLooks := .later }
def PutScriptUptoCardSaid : Prop := Claim7.holds Tryz.pinned (.plain (OpenSpec.upto putScriptSpec)) putScriptUptoCard

/-- THE SECOND FORM's CARD OF 'rootcellarlaw09.PutOther'. -/
def putOtherUptoCard : Claim7 := { stood := { row := putOtherUptoRow, standIns := [], harness := (true, "07597280168ee3ed2535d6a6bd1aa8c73074fc522ea67197fefa7bf5f37f8fc6"), looks := false }, kinds := [], alts := [], laidByText := true, laidKinds := [.data, .data], laidTests := true, laidLooks := .later }
def PutOtherUptoCardSaid : Prop := Claim7.holds Tryz.pinned (.plain (OpenSpec.upto putOtherSpec)) putOtherUptoCard

/-- THE SECOND FORM's CARD OF 'rootcellarlaw10.DropScript'. -/
def dropScriptUptoCard : Claim7 := { stood := { row := dropScriptUptoRow, standIns := [], harness := (true, "07597280168ee3ed2535d6a6bd1aa8c73074fc522ea67197fefa7bf5f37f8fc6"), looks := false }, kinds := [], alts := [], laidByText := true, laidKinds := [.data, .data], laidTests := true, laidLooks := .later }
def DropScriptUptoCardSaid : Prop := Claim7.holds Tryz.pinned (.plain (OpenSpec.upto dropScriptSpec)) dropScriptUptoCard

/-- THE SECOND FORM's CARD OF 'rootcellarlaw10.DropOther'. -/
def dropOtherUptoCard : Claim7 := { stood := { row := dropOtherUptoRow, standIns := [], harness := (true, "07597280168ee3ed2535d6a6bd1aa8c73074fc522ea67197fefa7bf5f37f8fc6"), looks := false }, kinds := [], alts := [], laidByText := true, laidKinds := [.data, .data], laidTests := true, laidLooks := .later }
def DropOtherUptoCardSaid : Prop := Claim7.holds Tryz.pinned (.plain (OpenSpec.upto dropOtherSpec)) dropOtherUptoCard
end Rows
end Go.Proofs.YtbkolhhgajkjjaaGreatDoor
