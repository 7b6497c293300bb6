/- octet.Put16, octet.Put32 and the statements' Pick, as contracts. -/
import Derived.Test.YtgkkmkgkgojmiaaMem2
namespace Go.Proofs.Ytgkkmkgkgojmiaa
open Go.RowKit

/-- What Put16 and Put32 leave: the error and the bytes. -/
def PutPost (n : Int) (zs : List Int) (w : World) (e : Ending) (w' : World) : Prop := ∃ v sp, e = .returned (.tuple #[v, .int .i64 n]) ∧ Own w.heap.size w' v zs sp ∧ Below w.heap.size w w'

theorem lit_own (w : World) (zs : List Int) (h : Bytes zs) (hl : zs.length ≤ 100) : Own w.heap.size (w.alloc (.cells (B zs) 5)) (.slice (some ⟨w.heap.size, 0, none⟩) zs.length zs.length) zs [] :=
  ⟨h, Bytes.nil, by simp [maxLen]; omega, .inr ⟨w.heap.size, [], Nat.le_refl _, rfl, by simp; exact heap_alloc_new w _⟩⟩

theorem tmod_mod (x n : Int) : x.tmod n % n = x % n := by
  have h := Int.mul_tdiv_add_tmod x n
  conv => rhs; rw [← h]
  rw [Int.add_comm, Int.add_mul_emod_self_left]

theorem tmod_neg (x n : Int) (hn : 0 < n) (h : x.tmod n < 0) : x.tmod n + n = x % n := by
  rw [← tmod_mod x n]
  have h1 := Int.lt_tmod_of_pos x hn
  rw [← Int.add_emod_right, Int.emod_eq_of_lt (by omega) (by omega)]

theorem tmod_pos (x n : Int) (hn : 0 < n) (h : ¬ x.tmod n < 0) : x.tmod n = x % n := by
  rw [← tmod_mod x n]
  have h1 := Int.tmod_lt_of_pos x hn
  rw [Int.emod_eq_of_lt (by omega) h1]

set_option maxHeartbeats 400000 in
theorem pick_any (x n : Int) (w : World) (hn : 0 < n) (hm : n ≤ 9223372036854775807) : Calls Try.prog 29 #[.int .i64 x, .int .i64 n] w fun e w' => e = .returned (.int .i64 (x % n)) ∧ w' = w := by
  go_enter Try.func29, Try.ntmps29
  go_wp2
  · have e := tmod_neg x n hn (by omega)
    have hb := Int.emod_lt_of_pos x hn
    have hc := Int.emod_nonneg x (show n ≠ 0 by omega)
    go_ret
    refine ⟨?_, rfl⟩
    show Ending.returned (.int .i64 (wrap64 (x.tmod n + n))) = _
    rw [e, Go.IntWalk.wrap64_in _ (by omega)]
  · have e := tmod_pos x n hn (by omega)
    go_ret
    refine ⟨?_, rfl⟩
    show Ending.returned (.int .i64 (x.tmod n)) = _
    rw [e]

end Go.Proofs.Ytgkkmkgkgojmiaa
