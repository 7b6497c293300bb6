/- The calls of octet's Reader, each as a contract: what it returns and what it leaves in memory. No condition beyond what each theorem names. -/
import Derived.Test.YthbdnhfppjhppaaProg
import Derived.Test.YthbdnhfppjhppaaPlain
namespace Go.Proofs.Ythbdnhfppjhppaa
open Go.RowKit

set_option maxHeartbeats 400000 in
theorem good_nil (w : World) :
    Calls Try.prog 43 #[.pointer none] w fun e w' => e = .returned (.bool false) ∧ w' = w := by
  go_enter Try.func43, Try.ntmps43
  go_wp2
  go_ret
  exact ⟨rfl, rfl⟩

set_option maxHeartbeats 400000 in
theorem good_at (b o : Nat) (m d : Bool) (w : World) (hm : w.cell? ⟨b, o + 1, none⟩ = some (.bool m)) (hd : w.cell? ⟨b, o + 2, none⟩ = some (.bool d)) :
    Calls Try.prog 43 #[.pointer (some ⟨b, o, none⟩)] w fun e w' => e = .returned (.bool (m && !d)) ∧ w' = w := by
  cases m <;> cases d
  all_goals
    go_enter Try.func43, Try.ntmps43
    go_wp2
    go_ret
    exact ⟨rfl, rfl⟩

set_option maxHeartbeats 400000 in
theorem cut_nil (n : Int) (w : World) :
    Calls Try.prog 44 #[.pointer none, .int .i64 n] w fun e w' => e = .returned (.slice none 0 0) ∧ w' = w := by
  go_enter Try.func44, Try.ntmps44
  go_wp2_with (go_at_call 43; refine (good_nil _).mono ?_; rintro e w' ⟨rfl, rfl⟩)
  go_ret
  exact ⟨rfl, rfl⟩

set_option maxHeartbeats 400000 in
theorem cut_not (b o : Nat) (m d : Bool) (n : Int) (w : World) (hm : w.cell? ⟨b, o + 1, none⟩ = some (.bool m)) (hd : w.cell? ⟨b, o + 2, none⟩ = some (.bool d)) (hn : (m && !d) = false) :
    Calls Try.prog 44 #[.pointer (some ⟨b, o, none⟩), .int .i64 n] w fun e w' => e = .returned (.slice none 0 0) ∧ w' = w := by
  go_enter Try.func44, Try.ntmps44
  go_wp2_with (go_at_call 43; refine (good_at _ _ _ _ _ hm hd).mono ?_; rintro e w' ⟨rfl, rfl⟩)
  go_ret
  exact ⟨rfl, rfl⟩

set_option maxHeartbeats 400000 in
theorem cut_bad (b o : Nat) (a : Option Addr) (l c : Nat) (n : Int) (w : World) (hr : w.cell? ⟨b, o, none⟩ = some (.slice a l c)) (hm : w.cell? ⟨b, o + 1, none⟩ = some (.bool true)) (hd : w.cell? ⟨b, o + 2, none⟩ = some (.bool false)) (hf : w.frozen? ⟨b, o + 2, none⟩ = false) (hn : n < 0 ∨ (l : Int) < n) :
    Calls Try.prog 44 #[.pointer (some ⟨b, o, none⟩), .int .i64 n] w fun e w' => e = .returned (.slice none 0 0) ∧ w' = w.setCell ⟨b, o + 2, none⟩ (.bool true) := by
  by_cases h0 : n < 0
  all_goals
    go_enter Try.func44, Try.ntmps44
    go_wp2_with (go_at_call 43; refine (good_at _ _ _ _ _ hm hd).mono ?_; rintro e w' ⟨rfl, rfl⟩)
    go_ret
    exact ⟨rfl, rfl⟩

/-- Where a slice begins once n of its bytes are cut off. -/
def moved (a : Option Addr) (c n : Nat) : Option Addr := if c = n then a else a.map fun x => x.add n

set_option maxHeartbeats 400000 in
theorem cut_ok (b o : Nat) (a : Option Addr) (l c : Nat) (n : Nat) (w : World) (hr : w.cell? ⟨b, o, none⟩ = some (.slice a l c)) (hm : w.cell? ⟨b, o + 1, none⟩ = some (.bool true)) (hd : w.cell? ⟨b, o + 2, none⟩ = some (.bool false)) (hf : w.frozen? ⟨b, o, none⟩ = false) (hn : n ≤ l) (hlc : l ≤ c) :
    Calls Try.prog 44 #[.pointer (some ⟨b, o, none⟩), .int .i64 n] w fun e w' => e = .returned (.slice a n c) ∧ w' = w.setCell ⟨b, o, none⟩ (.slice (moved a c n) (l - n) (c - n)) := by
  have h0 : ¬ (n : Int) < 0 := by omega
  by_cases hcn : c = n
  · have : l = n := by omega
    subst this; subst hcn
    simp only [moved, if_true]
    go_enter Try.func44, Try.ntmps44
    go_wp2_with (go_at_call 43; refine (good_at _ _ _ _ _ hm hd).mono ?_; rintro e w' ⟨rfl, rfl⟩)
    go_ret
    exact ⟨by simp, by simp⟩
  · simp only [moved, if_neg hcn]
    go_enter Try.func44, Try.ntmps44
    go_wp2_with (go_at_call 43; refine (good_at _ _ _ _ _ hm hd).mono ?_; rintro e w' ⟨rfl, rfl⟩)
    go_ret
    exact ⟨by simp, by simp⟩

set_option maxHeartbeats 400000 in
theorem number_none (r : Value) (n : Int) (w w1 : World) (hc : Calls Try.prog 44 #[r, .int .i64 n] w fun e w' => e = .returned (.slice none 0 0) ∧ w' = w1) :
    Calls Try.prog 45 #[r, .int .i64 n] w fun e w' => e = .returned (.int .i64 0) ∧ w' = w1 := by
  have H : Hid (Calls Try.prog 44 #[r, .int .i64 n] w fun e w' => e = .returned (.slice none 0 0) ∧ w' = w1) := hc
  clear hc
  go_enter Try.func45, Try.ntmps45
  go_wp2_with (go_at_call 44; refine H.out.mono ?_; rintro e w' ⟨rfl, rfl⟩)
  refine wp_loop_rounds 1 ?_
  rw [rounds_succ]
  go_wp2
  go_ret
  exact ⟨rfl, rfl⟩

set_option maxHeartbeats 400000 in
theorem number_row (r : Value) (g off c n : Nat) (zs : List Int) (w w1 : World) (hz : zs.length = n) (hb : Bytes zs) (hcell : ∀ i, i < n → w1.cell? ⟨g, off + i, none⟩ = some (.int .u8 (zs.getD i 0))) (h4 : n ≤ 4)
    (hc : Calls Try.prog 44 #[r, .int .i64 n] w fun e w' => e = .returned (.slice (some ⟨g, off, none⟩) n c) ∧ w' = w1) :
    Calls Try.prog 45 #[r, .int .i64 n] w fun e w' => e = .returned (.int .i64 (numOf zs)) ∧ w' = w1 := by
  have HH : Hid (Calls Try.prog 44 #[r, .int .i64 n] w fun e w' => e = .returned (.slice (some ⟨g, off, none⟩) n c) ∧ w' = w1) := hc
  have HB : Hid (Bytes zs) := hb
  have HZ : Hid (zs.length = n) := hz
  clear hc hb hz
  go_enter Try.func45, Try.ntmps45
  go_wp2_with (go_at_call 44; refine HH.out.mono ?_; rintro e w' ⟨rfl, rfl⟩)
  go_loop [5, 12] (fun s i => ∃ k : Nat, k ≤ n ∧ i = .int .i64 k ∧ s = .int .i64 (numOf (zs.take k))) (fun _ i => n - (intOf i).toNat)
  case atStart => exact ⟨0, Nat.zero_le _, rfl, rfl⟩
  case round =>
    obtain ⟨k, hk, rfl, rfl⟩ := hrel
    by_cases hlt : k < n
    · have hx := hcell k hlt
      clear hcell
      go_wp2
      exact ⟨⟨k + 1, by omega, by go_num, by rw [numOf_round zs HB.out k (by have := HZ.out; omega) (by omega)]⟩, by simp [intOf]; omega⟩
    · go_wp2
      go_ret
      exact ⟨by rw [List.take_of_length_le (by have := HZ.out; omega)]; rfl, rfl⟩

end Go.Proofs.Ythbdnhfppjhppaa
