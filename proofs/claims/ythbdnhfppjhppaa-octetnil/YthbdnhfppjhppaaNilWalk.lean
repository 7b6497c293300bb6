/- OctetNil's walk: the law returns true at every n, and nothing that was in memory turns. -/
import Derived.Test.YthbdnhfppjhppaaOctet2
namespace Go.Proofs.Ythbdnhfppjhppaa
open Go.RowKit

/-- What a reader tells that is none, or that New did not make: every call at once. -/
structure NoReader (r : Value) (w : World) : Prop where
  byte : Calls Try.prog 35 #[r] w fun e w' => e = .returned (.int .u8 0) ∧ w' = w
  u16 : Calls Try.prog 33 #[r] w fun e w' => e = .returned (.int .i64 0) ∧ w' = w
  u32 : Calls Try.prog 34 #[r] w fun e w' => e = .returned (.int .i64 0) ∧ w' = w
  take : ∀ n, Calls Try.prog 31 #[r, .int .i64 n] w fun e w' => e = .returned (.slice none 0 0) ∧ w' = w
  left : Calls Try.prog 27 #[r] w fun e w' => e = .returned (.int .i64 0) ∧ w' = w
  bad : Calls Try.prog 28 #[r] w fun e w' => e = .returned (.bool false) ∧ w' = w
  done : Calls Try.prog 29 #[r] w fun e w' => e = .returned (.bool false) ∧ w' = w

theorem noReader_nil (w : World) : NoReader (.pointer none) w where
  byte := byte_of _ 0 w (· = w) (number_none _ 1 w w (cut_nil 1 w)) (by omega) (by omega)
  u16 := u16_of _ 0 w (· = w) (number_none _ 2 w w (cut_nil 2 w))
  u32 := u32_of _ 0 w (· = w) (number_none _ 4 w w (cut_nil 4 w))
  take := fun n => take_none _ n w (· = w) (cut_nil n w)
  left := left_nil w
  bad := bad_nil w
  done := done_nil w

theorem noReader_zero (b o : Nat) (w : World) (hm : w.cell? ⟨b, o + 1, none⟩ = some (.bool false)) (hd : w.cell? ⟨b, o + 2, none⟩ = some (.bool false)) : NoReader (.pointer (some ⟨b, o, none⟩)) w where
  byte := byte_of _ 0 w (· = w) (number_none _ 1 w w (cut_not b o false false 1 w hm hd rfl)) (by omega) (by omega)
  u16 := u16_of _ 0 w (· = w) (number_none _ 2 w w (cut_not b o false false 2 w hm hd rfl))
  u32 := u32_of _ 0 w (· = w) (number_none _ 4 w w (cut_not b o false false 4 w hm hd rfl))
  take := fun n => take_none _ n w (· = w) (cut_not b o false false n w hm hd rfl)
  left := left_not b o false false w hm hd rfl
  bad := bad_at b o false w hd
  done := done_not b o false false w hm hd rfl

theorem zero_cells (w : World) (sl : Obj) : NoReader (.pointer (some ⟨w.heap.size, 0, none⟩)) ((w.alloc (.cells #[.slice none 0 0, .bool false, .bool false] 63)).alloc sl) := by
  have h : ((w.alloc (.cells #[.slice none 0 0, .bool false, .bool false] 63)).alloc sl).heap[w.heap.size]? = some (.cells #[.slice none 0 0, .bool false, .bool false] 63 (0, 0)) := heap_alloc2_old w _ sl
  refine noReader_zero _ _ _ ?_ ?_
  · rw [cell_of_row _ _ _ _ _ _ h]; rfl
  · rw [cell_of_row _ _ _ _ _ _ h]; rfl

set_option maxHeartbeats 1000000 in
theorem nil_walk (n : Int) (w : World) :
    Calls Try.prog 7 #[.int .i64 n] w fun e w' => e = .returned (.bool true) ∧ Below w.heap.size w w' := by
  go_enter Try.func7, Try.ntmps7
  go_wp2_with fail
  refine wp_loop_rounds 3 ?_
  rw [rounds_succ]
  go_wp2_with (first | (go_at_call 35; refine (noReader_nil _).byte.mono ?_; rintro e w' ⟨rfl, rfl⟩) | (go_at_call 33; refine (noReader_nil _).u16.mono ?_; rintro e w' ⟨rfl, rfl⟩) | (go_at_call 34; refine (noReader_nil _).u32.mono ?_; rintro e w' ⟨rfl, rfl⟩) | (go_at_call 31; refine ((noReader_nil _).take _).mono ?_; rintro e w' ⟨rfl, rfl⟩) | (go_at_call 27; refine (noReader_nil _).left.mono ?_; rintro e w' ⟨rfl, rfl⟩) | (go_at_call 28; refine (noReader_nil _).bad.mono ?_; rintro e w' ⟨rfl, rfl⟩) | (go_at_call 29; refine (noReader_nil _).done.mono ?_; rintro e w' ⟨rfl, rfl⟩))
  rw [rounds_succ]
  go_wp2_with (first | (go_at_call 35; refine (zero_cells w _).byte.mono ?_; rintro e w' ⟨rfl, rfl⟩) | (go_at_call 33; refine (zero_cells w _).u16.mono ?_; rintro e w' ⟨rfl, rfl⟩) | (go_at_call 34; refine (zero_cells w _).u32.mono ?_; rintro e w' ⟨rfl, rfl⟩) | (go_at_call 31; refine ((zero_cells w _).take _).mono ?_; rintro e w' ⟨rfl, rfl⟩) | (go_at_call 27; refine (zero_cells w _).left.mono ?_; rintro e w' ⟨rfl, rfl⟩) | (go_at_call 28; refine (zero_cells w _).bad.mono ?_; rintro e w' ⟨rfl, rfl⟩) | (go_at_call 29; refine (zero_cells w _).done.mono ?_; rintro e w' ⟨rfl, rfl⟩))
  rw [rounds_succ]
  go_wp2_with fail
  refine (new_any _ [] _ (Reads.nil _) (by simp)).mono ?_
  rintro e w1 ⟨b1, o1, rfl, hb1, _, hR1, hw1⟩
  go_wp2_with fail
  refine (new_any _ [] _ (Reads.nil _) (by simp)).mono ?_
  rintro e w2 ⟨b2, o2, rfl, hb2, _, hR2, hw2⟩
  go_wp2_with fail
  refine (rd_done b2 [] false w2 o2 hR2).mono ?_
  rintro e w3 ⟨rfl, rfl⟩
  go_wp2_with fail
  go_ret
  refine ⟨rfl, ?_⟩
  exact grow_trans (grow_trans (grow_alloc2 w _ _) hw1) hw2

end Go.Proofs.Ythbdnhfppjhppaa
