/- The document's schedule of a block (rootcellarref02.words), as a contract. -/
import Derived.Test.YtlinalcjdpikeabDoorPr17
import Derived.RegionTactic
import Derived.Test.YtlinalcjdpikeabDoorPr18
import Derived.Test.YtlinalcjdpikeabDoorPr06
namespace Go.Proofs.YtlinalcjdpikeabDoor
set_option maxRecDepth 20000
open Go.RowKit

/-- The first i bytes of word t of a block, as a number. -/
def acc (b : List Int) (t : Nat) : Nat → Int
  | 0 => 0
  | i + 1 => acc b t i * 256 + b.getD (4 * t + i) 0
theorem acc_bd (b : List Int) (t : Nat) (h : Bytes b) : ∀ i, 0 ≤ acc b t i ∧ acc b t i < 256 ^ i
  | 0 => ⟨by simp [acc], by simp [acc]⟩
  | i + 1 => by
    have h1 := acc_bd b t h i
    have h2 := getD_bytes h (4 * t + i)
    simp only [acc]
    rw [Int.pow_succ]
    omega
theorem acc_four (b ws : List Int) (t : Nat) (ht : t < 16) : acc b t 4 = nextWord b ws t := by
  simp only [acc, nextWord, if_pos ht, Nat.add_zero]
  omega

theorem getD_set (l : List Int) (t : Nat) (x : Int) (h : t < l.length) : (l.set t x).getD t 0 = x := by
  rw [List.getD, List.getElem?_set_self h]
  rfl

theorem set_there (b : List Int) (t : Nat) (ht : t < 64) : (sch b t ++ List.replicate (64 - t) 0).set t (acc b t 0) = sch b t ++ List.replicate (64 - t) 0 := by
  rw [show 64 - t = (64 - (t + 1)) + 1 by omega, List.replicate_succ, List.set_append_right _ _ (by rw [sch_length]; omega), sch_length, Nat.sub_self, List.set_cons_zero]
  rfl

end Go.Proofs.YtlinalcjdpikeabDoor

/- The document's block step (rootcellarref02.Step), as a contract. -/
namespace Go.Proofs.YtlinalcjdpikeabDoor
set_option maxRecDepth 20000
open Go.RowKit

theorem drewN_grow {w : World} (n : Nat) : Below w.heap.size w (w.drewN n) := below_drewN (Below.refl _ _) n

end Go.Proofs.YtlinalcjdpikeabDoor
