/- octet's Reader, its exported calls: each of Byte, U16, U32, Take, Left, Bad, Done as a contract over a reader of New's, over the zero Reader and over nil. -/
import Derived.Test.YthbdnhfppjhppaaOctet1
namespace Go.Proofs.Ythbdnhfppjhppaa
open Go.RowKit

set_option maxHeartbeats 400000 in
theorem byte_of (r : Value) (x : Int) (w : World) (R : World → Prop) (h : Calls Try.prog 45 #[r, .int .i64 1] w fun e w' => e = .returned (.int .i64 x) ∧ R w') (h1 : 0 ≤ x) (h2 : x ≤ 255) :
    Calls Try.prog 35 #[r] w fun e w' => e = .returned (.int .u8 x) ∧ R w' := by
  have HH : Hid (Calls Try.prog 45 #[r, .int .i64 1] w fun e w' => e = .returned (.int .i64 x) ∧ R w') := h
  clear h
  go_enter Try.func35, Try.ntmps35
  go_wp2_with (go_at_call 45; refine HH.out.mono ?_; rintro e w1 ⟨rfl, hR⟩)
  go_ret
  exact ⟨by simp, hR⟩

set_option maxHeartbeats 400000 in
theorem u16_of (r : Value) (x : Int) (w : World) (R : World → Prop) (h : Calls Try.prog 45 #[r, .int .i64 2] w fun e w' => e = .returned (.int .i64 x) ∧ R w') :
    Calls Try.prog 33 #[r] w fun e w' => e = .returned (.int .i64 x) ∧ R w' := by
  have HH : Hid (Calls Try.prog 45 #[r, .int .i64 2] w fun e w' => e = .returned (.int .i64 x) ∧ R w') := h
  clear h
  go_enter Try.func33, Try.ntmps33
  go_wp2_with (go_at_call 45; refine HH.out.mono ?_; rintro e w1 ⟨rfl, hR⟩)
  go_ret
  exact ⟨rfl, hR⟩

set_option maxHeartbeats 400000 in
theorem u32_of (r : Value) (x : Int) (w : World) (R : World → Prop) (h : Calls Try.prog 45 #[r, .int .i64 4] w fun e w' => e = .returned (.int .i64 x) ∧ R w') :
    Calls Try.prog 34 #[r] w fun e w' => e = .returned (.int .i64 x) ∧ R w' := by
  have HH : Hid (Calls Try.prog 45 #[r, .int .i64 4] w fun e w' => e = .returned (.int .i64 x) ∧ R w') := h
  clear h
  go_enter Try.func34, Try.ntmps34
  go_wp2_with (go_at_call 45; refine HH.out.mono ?_; rintro e w1 ⟨rfl, hR⟩)
  go_ret
  exact ⟨rfl, hR⟩

set_option maxHeartbeats 400000 in
theorem take_of (r : Value) (n : Int) (zs : List Int) (w : World) (R : World → Prop) (hl : zs.length ≤ 140737488355328)
    (h : Calls Try.prog 44 #[r, .int .i64 n] w fun e w' => ∃ v, e = .returned v ∧ Reads w' v zs ∧ R w') :
    Calls Try.prog 31 #[r, .int .i64 n] w fun e w' => ∃ w1 a c sp, e = .returned (.slice a zs.length c) ∧ R w1 ∧ Own w1.heap.size w' (.slice a zs.length c) zs sp ∧ Below w1.heap.size w1 w' := by
  have HH : Hid (Calls Try.prog 44 #[r, .int .i64 n] w fun e w' => ∃ v, e = .returned v ∧ Reads w' v zs ∧ R w') := h
  clear h
  go_enter Try.func31, Try.ntmps31
  go_wp2_with (first | (go_at_call 44; refine HH.out.mono ?_; rintro e w1 ⟨v, rfl, hv, hR⟩) | (go_at_call 40; refine (clone_any _ zs _ hv hl).mono ?_; rintro e w2 ⟨a, c, sp, rfl, h5, h6⟩))
  go_ret
  exact ⟨w1, a, c, sp, rfl, hR, h5, h6⟩

set_option maxHeartbeats 400000 in
theorem take_none (r : Value) (n : Int) (w : World) (R : World → Prop)
    (h : Calls Try.prog 44 #[r, .int .i64 n] w fun e w' => e = .returned (.slice none 0 0) ∧ R w') :
    Calls Try.prog 31 #[r, .int .i64 n] w fun e w' => e = .returned (.slice none 0 0) ∧ R w' := by
  have HH : Hid (Calls Try.prog 44 #[r, .int .i64 n] w fun e w' => e = .returned (.slice none 0 0) ∧ R w') := h
  clear h
  go_enter Try.func31, Try.ntmps31
  go_wp2_with (first | (go_at_call 44; refine HH.out.mono ?_; rintro e w1 ⟨rfl, hR⟩) | (go_at_call 40; refine (clone_nil _).mono ?_; rintro e w2 ⟨rfl, rfl⟩))
  go_ret
  exact ⟨rfl, hR⟩

/-! ### Left, Bad, Done -/
theorem left_nil (w : World) : Calls Try.prog 27 #[.pointer none] w fun e w' => e = .returned (.int .i64 0) ∧ w' = w := by
  go_enter Try.func27, Try.ntmps27
  go_wp2_with (go_at_call 43; refine (good_nil _).mono ?_; rintro e w' ⟨rfl, rfl⟩)
  go_ret
  exact ⟨rfl, rfl⟩
theorem bad_nil (w : World) : Calls Try.prog 28 #[.pointer none] w fun e w' => e = .returned (.bool false) ∧ w' = w := by
  go_enter Try.func28, Try.ntmps28
  go_wp2
  go_ret
  exact ⟨rfl, rfl⟩
theorem done_nil (w : World) : Calls Try.prog 29 #[.pointer none] w fun e w' => e = .returned (.bool false) ∧ w' = w := by
  go_enter Try.func29, Try.ntmps29
  go_wp2_with (go_at_call 43; refine (good_nil _).mono ?_; rintro e w' ⟨rfl, rfl⟩)
  go_ret
  exact ⟨rfl, rfl⟩

set_option maxHeartbeats 400000 in
theorem left_not (b o : Nat) (m d : Bool) (w : World) (hm : w.cell? ⟨b, o + 1, none⟩ = some (.bool m)) (hd : w.cell? ⟨b, o + 2, none⟩ = some (.bool d)) (hn : (m && !d) = false) :
    Calls Try.prog 27 #[.pointer (some ⟨b, o, none⟩)] w fun e w' => e = .returned (.int .i64 0) ∧ w' = w := by
  go_enter Try.func27, Try.ntmps27
  go_wp2_with (go_at_call 43; refine (good_at _ _ _ _ _ hm hd).mono ?_; rintro e w' ⟨rfl, rfl⟩)
  go_ret
  exact ⟨rfl, rfl⟩
set_option maxHeartbeats 400000 in
theorem left_ok (b o : Nat) (a : Option Addr) (l c : Nat) (w : World) (hr : w.cell? ⟨b, o, none⟩ = some (.slice a l c)) (hm : w.cell? ⟨b, o + 1, none⟩ = some (.bool true)) (hd : w.cell? ⟨b, o + 2, none⟩ = some (.bool false)) :
    Calls Try.prog 27 #[.pointer (some ⟨b, o, none⟩)] w fun e w' => e = .returned (.int .i64 l) ∧ w' = w := by
  go_enter Try.func27, Try.ntmps27
  go_wp2_with (go_at_call 43; refine (good_at _ _ _ _ _ hm hd).mono ?_; rintro e w' ⟨rfl, rfl⟩)
  go_ret
  exact ⟨rfl, rfl⟩
set_option maxHeartbeats 400000 in
theorem bad_at (b o : Nat) (d : Bool) (w : World) (hd : w.cell? ⟨b, o + 2, none⟩ = some (.bool d)) :
    Calls Try.prog 28 #[.pointer (some ⟨b, o, none⟩)] w fun e w' => e = .returned (.bool d) ∧ w' = w := by
  go_enter Try.func28, Try.ntmps28
  go_wp2
  go_ret
  exact ⟨rfl, rfl⟩
set_option maxHeartbeats 400000 in
theorem done_not (b o : Nat) (m d : Bool) (w : World) (hm : w.cell? ⟨b, o + 1, none⟩ = some (.bool m)) (hd : w.cell? ⟨b, o + 2, none⟩ = some (.bool d)) (hn : (m && !d) = false) :
    Calls Try.prog 29 #[.pointer (some ⟨b, o, none⟩)] w fun e w' => e = .returned (.bool false) ∧ w' = w := by
  go_enter Try.func29, Try.ntmps29
  go_wp2_with (go_at_call 43; refine (good_at _ _ _ _ _ hm hd).mono ?_; rintro e w' ⟨rfl, rfl⟩)
  go_ret
  exact ⟨rfl, rfl⟩
set_option maxHeartbeats 400000 in
theorem done_ok (b o : Nat) (a : Option Addr) (l c : Nat) (w : World) (hr : w.cell? ⟨b, o, none⟩ = some (.slice a l c)) (hm : w.cell? ⟨b, o + 1, none⟩ = some (.bool true)) (hd : w.cell? ⟨b, o + 2, none⟩ = some (.bool false)) :
    Calls Try.prog 29 #[.pointer (some ⟨b, o, none⟩)] w fun e w' => e = .returned (.bool (l == 0)) ∧ w' = w := by
  go_enter Try.func29, Try.ntmps29
  go_wp2_with (go_at_call 43; refine (good_at _ _ _ _ _ hm hd).mono ?_; rintro e w' ⟨rfl, rfl⟩)
  go_ret
  refine ⟨?_, rfl⟩
  cases l <;> rfl

theorem rd_left (b : Nat) (zs : List Int) (bad : Bool) (w : World) (o : Option Nat) (h : Rd w b o zs bad) :
    Calls Try.prog 27 #[.pointer (some ⟨b, 0, none⟩)] w fun e w' => e = .returned (.int .i64 (if bad then 0 else zs.length : Nat)) ∧ w' = w := by
  obtain ⟨a, c, h1, h2, c0, c1, c2, hf, hlc, hl, hx, rfl⟩ := h.cells
  cases bad
  · exact left_ok b 0 a _ c w c0 c1 c2
  · exact left_not b 0 true true w c1 c2 rfl
theorem rd_bad (b : Nat) (zs : List Int) (bad : Bool) (w : World) (o : Option Nat) (h : Rd w b o zs bad) :
    Calls Try.prog 28 #[.pointer (some ⟨b, 0, none⟩)] w fun e w' => e = .returned (.bool bad) ∧ w' = w := by
  obtain ⟨a, c, h1, h2, c0, c1, c2, hf, hlc, hl, hx, rfl⟩ := h.cells
  exact bad_at b 0 bad w c2
theorem rd_done (b : Nat) (zs : List Int) (bad : Bool) (w : World) (o : Option Nat) (h : Rd w b o zs bad) :
    Calls Try.prog 29 #[.pointer (some ⟨b, 0, none⟩)] w fun e w' => e = .returned (.bool (!bad && zs.length == 0)) ∧ w' = w := by
  obtain ⟨a, c, h1, h2, c0, c1, c2, hf, hlc, hl, hx, rfl⟩ := h.cells
  cases bad
  · exact done_ok b 0 a _ c w c0 c1 c2
  · exact done_not b 0 true true w c1 c2 rfl

end Go.Proofs.Ythbdnhfppjhppaa
