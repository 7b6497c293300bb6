/-
  DERIVED. GIVEN WITH THE SEED: THE CARDS: each row of YtjcklpdifanjlaaDoorRows.lean that lists a variable, with what it lists TIED to the program's text (the seventh form; the later family's looks); each row that meets fmt, with fmt's text TOLD by the authors' own Lean function (tested against real Go, not proved from fmt's source: count such statements apart). THE CARD IS WHAT COUNTS. Prove the row's statement (the work); the ties are given (YtjcklpdifanjlaaDoorTie.lean); close each card by the builder's one call (the guide's Derived/Test/ToyasCard.lean, 'card_holds'). Laid BY PROGRAM, IN A SANDBOX (cutbox-door.mjs). By AI agents, Wed Nov 11 2026. No macro, syntax, notation, axiom, sorry.
-/
import Derived.Test.YtjcklpdifanjlaaDoorRows
import GoSem.ClaimSeven
namespace Go.Proofs.YtjcklpdifanjlaaDoor
namespace Rows

/-- THE TIED CARD OF 'rootcellarlaw05.NodeCodes'. -/
def nodeCodesCard : Claim7 := { stood := { row := nodeCodesRow, standIns := [], harness := (true, "a32835ff3214a7c9b48e06adb15f3c54e6832b676f5fbbdcb4797436fd1643fc"), looks := false }, kinds := [], alts := [], laidByText := true, laidKinds := [.data, .data], laidTests := true, laidLooks := .later }
def NodeCodesCardSaid : Prop := Claim7.holds Tryd.pinned (.plain (OpenSpec.ofChange nodeCodesSpec)) nodeCodesCard

/-- THE TIED CARD OF 'rootcellarlaw05.NodeRoots'. -/
def nodeRootsCard : Claim7 := { stood := { row := nodeRootsRow, standIns := [], harness := (true, "a32835ff3214a7c9b48e06adb15f3c54e6832b676f5fbbdcb4797436fd1643fc"), looks := false }, kinds := [], alts := [], laidByText := true, laidKinds := [.data, .data], laidTests := true, laidLooks := .later }
def NodeRootsCardSaid : Prop := Claim7.holds Tryd.pinned (.plain (OpenSpec.ofChange nodeRootsSpec)) nodeRootsCard

/-- THE TIED CARD OF 'rootcellarlaw05.NodeWays'. -/
def nodeWaysCard : Claim7 := { stood := { row := nodeWaysRow, standIns := [], harness := (true, "a32835ff3214a7c9b48e06adb15f3c54e6832b676f5fbbdcb4797436fd1643fc"), looks := false }, kinds := [], alts := [], laidByText := true, laidKinds := [.data, .data], laidTests := true, laidLooks := .later }
def NodeWaysCardSaid : Prop := Claim7.holds Tryd.pinned (.plain (OpenSpec.ofChange nodeWaysSpec)) nodeWaysCard

/-- THE TIED CARD OF 'rootcellarlaw05.NodeBack'. -/
def nodeBackCard : Claim7 := { stood := { row := nodeBackRow, standIns := [], harness := (true, "a32835ff3214a7c9b48e06adb15f3c54e6832b676f5fbbdcb4797436fd1643fc"), looks := false }, kinds := [], alts := [], laidByText := true, laidKinds := [.data, .data], laidTests := true, laidLooks := .later }
def NodeBackCardSaid : Prop := Claim7.holds Tryd.pinned (.plain (OpenSpec.ofChange nodeBackSpec)) nodeBackCard

/-- THE TIED CARD OF 'rootcellarlaw05.NodeOrder'. -/
def nodeOrderCard : Claim7 := { stood := { row := nodeOrderRow, standIns := [], harness := (true, "a32835ff3214a7c9b48e06adb15f3c54e6832b676f5fbbdcb4797436fd1643fc"), looks := false }, kinds := [], alts := [], laidByText := true, laidKinds := [.data, .data], laidTests := true, laidLooks := .later }
def NodeOrderCardSaid : Prop := Claim7.holds Tryd.pinned (.plain (OpenSpec.ofChange nodeOrderSpec)) nodeOrderCard

/-- THE SECOND FORM's CARD OF 'rootcellarlaw05.NodeCodes'. -/
def nodeCodesUptoCard : Claim7 := { stood := { row := nodeCodesUptoRow, standIns := [], harness := (true, "a32835ff3214a7c9b48e06adb15f3c54e6832b676f5fbbdcb4797436fd1643fc"), looks := false }, kinds := [], alts := [], laidByText := true, laidKinds := [.data, .data], laidTests := true, laidLooks := .later }
def NodeCodesUptoCardSaid : Prop := Claim7.holds Tryd.pinned (.plain (OpenSpec.upto nodeCodesSpec)) nodeCodesUptoCard

/-- THE SECOND FORM's CARD OF 'rootcellarlaw05.NodeRoots'. -/
def nodeRootsUptoCard : Claim7 := { stood := { row := nodeRootsUptoRow, standIns := [], harness := (true, "a32835ff3214a7c9b48e06adb15f3c54e6832b676f5fbbdcb4797436fd1643fc"), looks := false }, kinds := [], alts := [], laidByText := true, laidKinds := [.data, .data], laidTests := true, laidLooks := .later }
def NodeRootsUptoCardSaid : Prop := Claim7.holds Tryd.pinned (.plain (OpenSpec.upto nodeRootsSpec)) nodeRootsUptoCard

/-- THE SECOND FORM's CARD OF 'rootcellarlaw05.NodeWays'. -/
def nodeWaysUptoCard : Claim7 := { stood := { row := nodeWaysUptoRow, standIns := [], harness := (true, "a32835ff3214a7c9b48e06adb15f3c54e6832b676f5fbbdcb4797436fd1643fc"), looks := false }, kinds := [], alts := [], laidByText := true, laidKinds := [.data, .data], laidTests := true, laidLooks := .later }
def NodeWaysUptoCardSaid : Prop := Claim7.holds Tryd.pinned (.plain (OpenSpec.upto nodeWaysSpec)) nodeWaysUptoCard

/-- THE SECOND FORM's CARD OF 'rootcellarlaw05.NodeBack'. -/
def nodeBackUptoCard : Claim7 := { stood := { row := nodeBackUptoRow, standIns := [], harness := (true, "a32835ff3214a7c9b48e06adb15f3c54e6832b676f5fbbdcb4797436fd1643fc"), looks := false }, kinds := [], alts := [], laidByText := true, laidKinds := [.data, .data], laidTests := true, laidLooks := .later }
def NodeBackUptoCardSaid : Prop := Claim7.holds Tryd.pinned (.plain (OpenSpec.upto nodeBackSpec)) nodeBackUptoCard

/-- THE SECOND FORM's CARD OF 'rootcellarlaw05.NodeOrder'. -/
def nodeOrderUptoCard : Claim7 := { stood := { row := nodeOrderUptoRow, standIns := [], harness := (true, "a32835ff3214a7c9b48e06adb15f3c54e6832b676f5fbbdcb4797436fd1643fc"), looks := false }, kinds := [], alts := [], laidByText := true, laidKinds := [.data, .data], laidTests := true, laidLooks := .later }
def NodeOrderUptoCardSaid : Prop := Claim7.holds Tryd.pinned (.plain (OpenSpec.upto nodeOrderSpec)) nodeOrderUptoCard
end Rows
end Go.Proofs.YtjcklpdifanjlaaDoor
