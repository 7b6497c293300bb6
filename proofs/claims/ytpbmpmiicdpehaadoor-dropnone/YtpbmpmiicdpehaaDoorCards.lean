/-
  DERIVED. GIVEN WITH THE SEED: THE CARDS: each row of YtpbmpmiicdpehaaDoorRows.lean that lists a variable, with what it lists TIED to the program's text (the seventh form; the later family's looks); each row that meets fmt, with fmt's text TOLD by the authors' own Lean function (tested against real Go, not proved from fmt's source: count such statements apart). THE CARD IS WHAT COUNTS. Prove the row's statement (the work); the ties are given (YtpbmpmiicdpehaaDoorTie.lean); close each card by the builder's one call (the guide's Derived/Test/ToyasCard.lean, 'card_holds'). Laid BY PROGRAM, IN A SANDBOX (cutbox-door.mjs). By AI agents, Wed Nov 11 2026. No macro, syntax, notation, axiom, sorry.
-/
import Derived.Test.YtpbmpmiicdpehaaDoorRows
import GoSem.ClaimSeven
namespace Go.Proofs.YtpbmpmiicdpehaaDoor
namespace Rows

/-- THE TIED CARD OF 'rootcellarlaw10.DropNone'. -/
def dropNoneCard : Claim7 := { stood := { row := dropNoneRow, standIns := [], harness := (true, "192879afd32082817544cf5935e4e810ac25371a33e4f1689d267cd97b12c80c"), looks := false }, kinds := [], alts := [], laidByText := true, laidKinds := [.data, .data], laidTests := true, laidLooks := .later }
def DropNoneCardSaid : Prop := Claim7.holds Tryd.pinned (.plain (OpenSpec.ofChange dropNoneSpec)) dropNoneCard

/-- THE SECOND FORM's CARD OF 'rootcellarlaw10.DropNone'. -/
def dropNoneUptoCard : Claim7 := { stood := { row := dropNoneUptoRow, standIns := [], harness := (true, "192879afd32082817544cf5935e4e810ac25371a33e4f1689d267cd97b12c80c"), looks := false }, kinds := [], alts := [], laidByText := true, laidKinds := [.data, .data], laidTests := true, laidLooks := .later }
def DropNoneUptoCardSaid : Prop := Claim7.holds Tryd.pinned (.plain (OpenSpec.upto dropNoneSpec)) dropNoneUptoCard
end Rows
end Go.Proofs.YtpbmpmiicdpehaaDoor
