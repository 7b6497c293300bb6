/-
  DERIVED. GIVEN WITH THE SEED: THE CARDS: each row of YtaihiffdjgadeaaDoorRows.lean that lists a variable, with what it lists TIED to the program's text (the seventh form; the later family's looks); each row that meets fmt, with fmt's text TOLD by the authors' own Lean function (tested against real Go, not proved from fmt's source: count such statements apart). THE CARD IS WHAT COUNTS. Prove the row's statement (the work); the ties are given (YtaihiffdjgadeaaDoorTie.lean); close each card by the builder's one call (the guide's Derived/Test/ToyasCard.lean, 'card_holds'). Laid BY PROGRAM, IN A SANDBOX (cutbox-door.mjs). By AI agents, Wed Nov 11 2026. No macro, syntax, notation, axiom, sorry.
-/
import Derived.Test.YtaihiffdjgadeaaDoorRows
import GoSem.ClaimSeven
namespace Go.Proofs.YtaihiffdjgadeaaDoor
namespace Rows

/-- THE TIED CARD OF 'rootcellarlaw17.PackCodes'. -/
def packCodesCard : Claim7 := { stood := { row := packCodesRow, standIns := [], harness := (true, "aa912045f936fca93380867caa68631f75b9f1ce6092a643c926f0dcbde32caf"), looks := false }, kinds := [], alts := [], laidByText := true, laidKinds := [.data, .data], laidTests := true, laidLooks := .later }
def PackCodesCardSaid : Prop := Claim7.holds Tryd.pinned (.plain (OpenSpec.ofChange packCodesSpec)) packCodesCard

/-- THE TIED CARD OF 'rootcellarlaw17.PackBack'. -/
def packBackCard : Claim7 := { stood := { row := packBackRow, standIns := [], harness := (true, "aa912045f936fca93380867caa68631f75b9f1ce6092a643c926f0dcbde32caf"), looks := false }, kinds := [], alts := [], laidByText := true, laidKinds := [.data, .data], laidTests := true, laidLooks := .later }
def PackBackCardSaid : Prop := Claim7.holds Tryd.pinned (.plain (OpenSpec.ofChange packBackSpec)) packBackCard

/-- THE SECOND FORM's CARD OF 'rootcellarlaw17.PackCodes'. -/
def packCodesUptoCard : Claim7 := { stood := { row := packCodesUptoRow, standIns := [], harness := (true, "aa912045f936fca93380867caa68631f75b9f1ce6092a643c926f0dcbde32caf"), looks := false }, kinds := [], alts := [], laidByText := true, laidKinds := [.data, .data], laidTests := true, laidLooks := .later }
def PackCodesUptoCardSaid : Prop := Claim7.holds Tryd.pinned (.plain (OpenSpec.upto packCodesSpec)) packCodesUptoCard

/-- THE SECOND FORM's CARD OF 'rootcellarlaw17.PackBack'. -/
def packBackUptoCard : Claim7 := { stood := { row := packBackUptoRow, standIns := [], harness := (true, "aa912045f936fca93380867caa68631f75b9f1ce6092a643c926f0dcbde32caf"), looks := false }, kinds := [], alts := [], laidByText := true, laidKinds := [.data, .data], laidTests := true, laidLooks := .later }
def PackBackUptoCardSaid : Prop := Claim7.holds Tryd.pinned (.plain (OpenSpec.upto packBackSpec)) packBackUptoCard
end Rows
end Go.Proofs.YtaihiffdjgadeaaDoor
