/-
  DERIVED. GIVEN WITH THE SEED: THE CARDS: each row of YtabiglnmfdpcfaaGreatDoorRows.lean that lists a variable, with what it lists TIED to the program's text (the seventh form; the later family's looks); each row that meets fmt, with fmt's text TOLD by the authors' own Lean function (tested against real Go, not proved from fmt's source: count such statements apart). THE CARD IS WHAT COUNTS. Prove the row's statement (the work); the ties are given (YtabiglnmfdpcfaaGreatDoorTie.lean); close each card by the builder's one call (the guide's Derived/Test/ToyasCard.lean, 'card_holds'). Laid BY PROGRAM, IN A SANDBOX (cutbox-door.mjs). By AI agents, Wed Nov 11 2026. No macro, syntax, notation, axiom, sorry.
-/
import Derived.Test.YtabiglnmfdpcfaaGreatDoorRows
import GoSem.ClaimSeven
namespace Go.Proofs.YtabiglnmfdpcfaaGreatDoor
namespace Rows

/-- THE TIED CARD OF 'rootcellarlaw11.BatchApplies'. -/
def batchAppliesCard : Claim7 := { stood := { row := batchAppliesRow, standIns := [], harness := (true, "9e53ca064beb260b1796de00f1e0162c94f15791a003392b6ec00109eba6cdd1"), looks := false }, kinds := [], alts := [], laidByText := true, laidKinds := [.data, .data], laidTests := true, laidLooks := .later }
def BatchAppliesCardSaid : Prop := Claim7.holds Tryz.pinned (.plain (OpenSpec.ofChange batchAppliesSpec)) batchAppliesCard

/-- THE TIED CARD OF 'rootcellarlaw11.BatchSingles'. -/
def batchSinglesCard : Claim7 := { stood := { row := batchSinglesRow, standIns := [], harness := (true, "9e53ca064beb260b1796de00f1e0162c94f15791a003392b6ec00109eba6cdd1"), looks := false }, kinds := [], alts := [], laidByText := true, laidKinds := [.data, .data], laidTests := true, laidLooks := .later }
def BatchSinglesCardSaid : Prop := Claim7.holds Tryz.pinned (.plain (OpenSpec.ofChange batchSinglesSpec)) batchSinglesCard

/-- THE SECOND FORM's CARD OF 'rootcellarlaw11.BatchApplies'. -/
def batchAppliesUptoCard : Claim7 := { stood := { row := batchAppliesUptoRow, standIns := [], harness := (true, "9e53ca064beb260b1796de00f1e0162c94f15791a003392b6ec00109eba6cdd1"), looks := false }, kinds := [], alts := [], laidByText := true, laidKinds := [.data, .data], laidTests := true, laidLooks := .later }
def BatchAppliesUptoCardSaid : Prop := Claim7.holds Tryz.pinned (.plain (OpenSpec.upto batchAppliesSpec)) batchAppliesUptoCard

/-- THE SECOND FORM's CARD OF 'rootcellarlaw11.BatchSingles'. -/
def batchSinglesUptoCard : Claim7 := { stood := { row := batchSinglesUptoRow, standIns := [], harness := (true, "9e53ca064beb260b1796de00f1e0162c94f15791a003392b6ec00109eba6cdd1"), looks := false }, kinds := [], alts := [], laidByText := true, laidKinds := [.data, .data], laidTests := true, laidLooks := .later }
def BatchSinglesUptoCardSaid : Prop := Claim7.holds Tryz.pinned (.plain (OpenSpec.upto batchSinglesSpec)) batchSinglesUptoCard
end Rows
end Go.Proofs.YtabiglnmfdpcfaaGreatDoor
