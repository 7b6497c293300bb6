/-
  DERIVED. GIVEN WITH THE SEED: THE CARDS: each row of YtlinalcjdpikeabDoorRows.lean that lists a variable, with what it lists TIED to the program's text (the seventh form; the later family's looks); each row that meets fmt, with fmt's text TOLD by the authors' own Lean function (tested against real Go, not proved from fmt's source: count such statements apart). THE CARD IS WHAT COUNTS. Prove the row's statement (the work); the ties are given (YtlinalcjdpikeabDoorTie.lean); close each card by the builder's one call (the guide's Derived/Test/ToyasCard.lean, 'card_holds'). Laid BY PROGRAM, IN A SANDBOX (cutbox-door.mjs). By AI agents, Wed Nov 11 2026. No macro, syntax, notation, axiom, sorry.
-/
import Derived.Test.YtlinalcjdpikeabDoorRows
import GoSem.ClaimSeven
namespace Go.Proofs.YtlinalcjdpikeabDoor
namespace Rows

/-- THE TIED CARD OF 'rootcellarlaw09.PutRoom'. -/
def putRoomCard : Claim7 := { stood := { row := putRoomRow, standIns := [], harness := (true, "2515cdc9efd0fe2bccaaedf48ff2c78aff1f7debab2db478d4ff3ed51eb2bd9b"), looks := false }, kinds := [], alts := [], laidByText := true, laidKinds := [.data, .data], laidTests := true, laidLooks := .later }
def PutRoomCardSaid : Prop := Claim7.holds Tryd.pinned (.plain (OpenSpec.ofChange putRoomSpec)) putRoomCard

/-- THE TIED CARD OF 'rootcellarlaw09.PutKnown'. -/
def putKnownCard : Claim7 := { stood := { row := putKnownRow, standIns := [], harness := (true, "2515cdc9efd0fe2bccaaedf48ff2c78aff1f7debab2db478d4ff3ed51eb2bd9b"), looks := false }, kinds := [], alts := [], laidByText := true, laidKinds := [.data, .data], laidTests := true, laidLooks := .later }
def PutKnownCardSaid : Prop := Claim7.holds Tryd.pinned (.plain (OpenSpec.ofChange putKnownSpec)) putKnownCard

/-- THE SECOND FORM's CARD OF 'rootcellarlaw09.PutRoom'. -/
def putRoomUptoCard : Claim7 := { stood := { row := putRoomUptoRow, standIns := [], harness := (true, "2515cdc9efd0fe2bccaaedf48ff2c78aff1f7debab2db478d4ff3ed51eb2bd9b"), looks := false }, kinds := [], alts := [], laidByText := true, laidKinds := [.data, .data], laidTests := true, laidLooks := .later }
def PutRoomUptoCardSaid : Prop := Claim7.holds Tryd.pinned (.plain (OpenSpec.upto putRoomSpec)) putRoomUptoCard

/-- THE SECOND FORM's CARD OF 'rootcellarlaw09.PutKnown'. -/
def putKnownUptoCard : Claim7 := { stood := { row := putKnownUptoRow, standIns := [], harness := (true, "2515cdc9efd0fe2bccaaedf48ff2c78aff1f7debab2db478d4ff3ed51eb2bd9b"), looks := false }, kinds := [], alts := [], laidByText := true, laidKinds := [.data, .data], laidTests := true, laidLooks := .later }
def PutKnownUptoCardSaid : Prop := Claim7.holds Tryd.pinned (.plain (OpenSpec.upto putKnownSpec)) putKnownUptoCard
end Rows
end Go.Proofs.YtlinalcjdpikeabDoor
