/-
  DERIVED. GIVEN WITH THE SEED: THE CARDS: each row of YtpbmpmiicdpehabGreatDoorRows.lean that lists a variable, with what it lists TIED to the program's text (the seventh form; the later family's looks); each row that meets fmt, with fmt's text TOLD by the authors' own Lean function (tested against real Go, not proved from fmt's source: count such statements apart). THE CARD IS WHAT COUNTS. Prove the row's statement (the work); the ties are given (YtpbmpmiicdpehabGreatDoorTie.lean); close each card by the builder's one call (the guide's Derived/Test/ToyasCard.lean, 'card_holds'). Laid BY PROGRAM, IN A SANDBOX (cutbox-door.mjs). By AI agents, Wed Nov 11 2026. No macro, syntax, notation, axiom, sorry.
-/
import Derived.Test.YtpbmpmiicdpehabGreatDoorRows
import GoSem.ClaimSeven
namespace Go.Proofs.YtpbmpmiicdpehabGreatDoor
namespace Rows

/-- THE TIED CARD OF 'rootcellarlaw10.DropMap'. -/
def dropMapCard : Claim7 := { stood := { row := dropMapRow, standIns := [], harness := (true, "5f77d18c21860ce058ee14c9ac3fe19c582b4d23b7b48855f9bcfc3fc3e9238b"), looks := false }, kinds := [], alts := [], laidByText := true, laidKinds := [.data, .data], laidTests := true, laidLooks := .later }
def DropMapCardSaid : Prop := Claim7.holds Tryz.pinned (.plain (OpenSpec.ofChange dropMapSpec)) dropMapCard

/-- THE TIED CARD OF 'rootcellarlaw10.DropBack'. -/
def dropBackCard : Claim7 := { stood := { row := dropBackRow, standIns := [], harness := (true, "5f77d18c21860ce058ee14c9ac3fe19c582b4d23b7b48855f9bcfc3fc3e9238b"), looks := false }, kinds := [], alts := [], laidByText := true, laidKinds := [.data, .data], laidTests := true, laidLooks := .later }
def DropBackCardSaid : Prop := Claim7.holds Tryz.pinned (.plain (OpenSpec.ofChange dropBackSpec)) dropBackCard

/-- THE SECOND FORM's CARD OF 'rootcellarlaw10.DropMap'. -/
def dropMapUptoCard : Claim7 := { stood := { row := dropMapUptoRow, standIns := [], harness := (true, "5f77d18c21860ce058ee14c9ac3fe19c582b4d23b7b48855f9bcfc3fc3e9238b"), looks := false }, kinds := [], alts := [], laidByText := true, laidKinds := [.data, .data], laidTests := true, laidLooks := .later }
def DropMapUptoCardSaid : Prop := Claim7.holds Tryz.pinned (.plain (OpenSpec.upto dropMapSpec)) dropMapUptoCard

/-- THE SECOND FORM's CARD OF 'rootcellarlaw10.DropBack'. -/
def dropBackUptoCard : Claim7 := { stood := { row := dropBackUptoRow, standIns := [], harness := (true, "5f77d18c21860ce058ee14c9ac3fe19c582b4d23b7b48855f9bcfc3fc3e9238b"), looks := false }, kinds := [], alts := [], laidByText := true, laidKinds := [.data, .data], laidTests := true, laidLooks := .later }
def DropBackUptoCardSaid : Prop := Claim7.holds Tryz.pinned (.plain (OpenSpec.upto dropBackSpec)) dropBackUptoCard
end Rows
end Go.Proofs.YtpbmpmiicdpehabGreatDoor
