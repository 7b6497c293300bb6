/-
  DERIVED. GIVEN WITH THE SEED: THE CARDS: each row of YtjikgagaalbaeaaGreatDoorRows.lean that lists a variable, with what it lists TIED to the program's text (the seventh form; the later family's looks); each row that meets fmt, with fmt's text TOLD by the authors' own Lean function (tested against real Go, not proved from fmt's source: count such statements apart). THE CARD IS WHAT COUNTS. Prove the row's statement (the work); the ties are given (YtjikgagaalbaeaaGreatDoorTie.lean); close each card by the builder's one call (the guide's Derived/Test/ToyasCard.lean, 'card_holds'). Laid BY PROGRAM, IN A SANDBOX (cutbox-door.mjs). By AI agents, Wed Nov 11 2026. No macro, syntax, notation, axiom, sorry.
-/
import Derived.Test.YtjikgagaalbaeaaGreatDoorRows
import GoSem.ClaimSeven
namespace Go.Proofs.YtjikgagaalbaeaaGreatDoor
namespace Rows

/-- THE TIED CARD OF 'rootcellarlaw07.StoreScript'. -/
def storeScriptCard : Claim7 := { stood := { row := storeScriptRow, standIns := [], harness := (true, "e98746ebc8d64a351fd76fb9878bc6cb35646d711f5c91c7d75c043208d80282"), looks := false }, kinds := [], alts := [], laidByText := true, laidKinds := [.data, .data], laidTests := true, laidLooks := .later }
def StoreScriptCardSaid : Prop := Claim7.holds Tryz.pinned (.plain (OpenSpec.ofChange storeScriptSpec)) storeScriptCard

/-- THE TIED CARD OF 'rootcellarlaw07.StoreTrees'. -/
def storeTreesCard : Claim7 := { stood := { row := storeTreesRow, standIns := [], harness := (true, "e98746ebc8d64a351fd76fb9878bc6cb35646d711f5c91c7d75c043208d80282"), looks := false }, kinds := [], alts := [], laidByText := true, laidKinds := [.data, .data], laidTests := true, laidLooks := .later }
def StoreTreesCardSaid : Prop := Claim7.holds Tryz.pinned (.plain (OpenSpec.ofChange storeTreesSpec)) storeTreesCard

/-- THE SECOND FORM's CARD OF 'rootcellarlaw07.StoreScript'. -/
def storeScriptUptoCard : Claim7 := { stood := { row := storeScriptUptoRow, standIns := [], harness := (true, "e98746ebc8d64a351fd76fb9878bc6cb35646d711f5c91c7d75c043208d80282"), looks := false }, kinds := [], alts := [], laidByText := true, laidKinds := [.data, .data], laidTests := true, laidLooks := .later }
def StoreScriptUptoCardSaid : Prop := Claim7.holds Tryz.pinned (.plain (OpenSpec.upto storeScriptSpec)) storeScriptUptoCard

/-- THE SECOND FORM's CARD OF 'rootcellarlaw07.StoreTrees'. -/
def storeTreesUptoCard : Claim7 := { stood := { row := storeTreesUptoRow, standIns := [], harness := (true, "e98746ebc8d64a351fd76fb9878bc6cb35646d711f5c91c7d75c043208d80282"), looks := false }, kinds := [], alts := [], laidByText := true, laidKinds := [.data, .data], laidTests := true, laidLooks := .later }
def StoreTreesUptoCardSaid : Prop := Claim7.holds Tryz.pinned (.plain (OpenSpec.upto storeTreesSpec)) storeTreesUptoCard
end Rows
end Go.Proofs.YtjikgagaalbaeaaGreatDoor
