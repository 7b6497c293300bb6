/-
  DERIVED. GIVEN WITH THE SEED: THE CARDS: each row of YtlinalcjdpikeaaDoorRows.lean that lists a variable, with what it lists TIED to the program's text (the seventh form; the later family's looks); each row that meets fmt, with fmt's text TOLD by the authors' own Lean function (tested against real Go, not proved from fmt's source: count such statements apart). THE CARD IS WHAT COUNTS. Prove the row's statement (the work); the ties are given (YtlinalcjdpikeaaDoorTie.lean); close each card by the builder's one call (the guide's Derived/Test/ToyasCard.lean, 'card_holds'). Laid BY PROGRAM, IN A SANDBOX (cutbox-door.mjs). By AI agents, Wed Nov 11 2026. No macro, syntax, notation, axiom, sorry.
-/
import Derived.Test.YtlinalcjdpikeaaDoorRows
import GoSem.ClaimSeven
namespace Go.Proofs.YtlinalcjdpikeaaDoor
namespace Rows

/-- THE TIED CARD OF 'rootcellarlaw09.PutNone'. -/
def putNoneCard : Claim7 := { stood := { row := putNoneRow, standIns := [], harness := (true, "3a372466e1cae8a292c4f2829ef76f63ab6c1506a6b5e89cc4afacd29844c32f"), looks := false }, kinds := [], alts := [], laidByText := true, laidKinds := [.data, .data], laidTests := true, laidLooks := .later }
def PutNoneCardSaid : Prop := Claim7.holds Tryd.pinned (.plain (OpenSpec.ofChange putNoneSpec)) putNoneCard

/-- THE TIED CARD OF 'rootcellarlaw09.PutTurns'. -/
def putTurnsCard : Claim7 := { stood := { row := putTurnsRow, standIns := [], harness := (true, "3a372466e1cae8a292c4f2829ef76f63ab6c1506a6b5e89cc4afacd29844c32f"), looks := false }, kinds := [], alts := [], laidByText := true, laidKinds := [.data, .data], laidTests := true, laidLooks := .later }
def PutTurnsCardSaid : Prop := Claim7.holds Tryd.pinned (.plain (OpenSpec.ofChange putTurnsSpec)) putTurnsCard

/-- THE SECOND FORM's CARD OF 'rootcellarlaw09.PutNone'. -/
def putNoneUptoCard : Claim7 := { stood := { row := putNoneUptoRow, standIns := [], harness := (true, "3a372466e1cae8a292c4f2829ef76f63ab6c1506a6b5e89cc4afacd29844c32f"), looks := false }, kinds := [], alts := [], laidByText := true, laidKinds := [.data, .data], laidTests := true, laidLooks := .later }
def PutNoneUptoCardSaid : Prop := Claim7.holds Tryd.pinned (.plain (OpenSpec.upto putNoneSpec)) putNoneUptoCard

/-- THE SECOND FORM's CARD OF 'rootcellarlaw09.PutTurns'. -/
def putTurnsUptoCard : Claim7 := { stood := { row := putTurnsUptoRow, standIns := [], harness := (true, "3a372466e1cae8a292c4f2829ef76f63ab6c1506a6b5e89cc4afacd29844c32f"), looks := false }, kinds := [], alts := [], laidByText := true, laidKinds := [.data, .data], laidTests := true, laidLooks := .later }
def PutTurnsUptoCardSaid : Prop := Claim7.holds Tryd.pinned (.plain (OpenSpec.upto putTurnsSpec)) putTurnsUptoCard
end Rows
end Go.Proofs.YtlinalcjdpikeaaDoor
