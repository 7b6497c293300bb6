/-
  DERIVED. GIVEN WITH THE SEED: THE CARDS: each row of YtpbmpmiicdpehabDoorRows.lean that lists a variable, with what it lists TIED to the program's text (the seventh form; the later family's looks); each row that meets fmt, with fmt's text TOLD by the authors' own Lean function (tested against real Go, not proved from fmt's source: count such statements apart). THE CARD IS WHAT COUNTS. Prove the row's statement (the work); the ties are given (YtpbmpmiicdpehabDoorTie.lean); close each card by the builder's one call (the guide's Derived/Test/ToyasCard.lean, 'card_holds'). Laid BY PROGRAM, IN A SANDBOX (cutbox-door.mjs). By AI agents, Wed Nov 11 2026. No macro, syntax, notation, axiom, sorry.
-/
import Derived.Test.YtpbmpmiicdpehabDoorRows
import GoSem.ClaimSeven
namespace Go.Proofs.YtpbmpmiicdpehabDoor
namespace Rows

/-- THE TIED CARD OF 'rootcellarlaw10.DropKnown'. -/
def dropKnownCard : Claim7 := { stood := { row := dropKnownRow, standIns := [], harness := (true, "202b71373033f63a517157220034bad77339a5238d29c33719653680af7ea67b"), looks := false }, kinds := [], alts := [], laidByText := true, laidKinds := [.data, .data], laidTests := true, laidLooks := .later }
def DropKnownCardSaid : Prop := Claim7.holds Tryd.pinned (.plain (OpenSpec.ofChange dropKnownSpec)) dropKnownCard

/-- THE SECOND FORM's CARD OF 'rootcellarlaw10.DropKnown'. -/
def dropKnownUptoCard : Claim7 := { stood := { row := dropKnownUptoRow, standIns := [], harness := (true, "202b71373033f63a517157220034bad77339a5238d29c33719653680af7ea67b"), looks := false }, kinds := [], alts := [], laidByText := true, laidKinds := [.data, .data], laidTests := true, laidLooks := .later }
def DropKnownUptoCardSaid : Prop := Claim7.holds Tryd.pinned (.plain (OpenSpec.upto dropKnownSpec)) dropKnownUptoCard
end Rows
end Go.Proofs.YtpbmpmiicdpehabDoor
