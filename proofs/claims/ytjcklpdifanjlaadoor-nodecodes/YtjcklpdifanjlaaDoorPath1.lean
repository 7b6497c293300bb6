/- path.isBit, isDepth, Of, Bytes, Bit, Compare, as contracts. -/
import Derived.Test.YtjcklpdifanjlaaDoorPathByte
import Derived.Test.YtjcklpdifanjlaaDoorArrMem
import Derived.Laws.Cover3
namespace Go.Proofs.YtjcklpdifanjlaaDoor
set_option maxRecDepth 20000
open Go.RowKit

theorem zero_path : ∀ w, (zeroValue 24).run Tryd.prog w = .ok (.agg (B (List.replicate 32 0))) w := Tryd.zeroValue24
theorem size_path : (Tryd.prog.info? 24).map (·.size) = some 32 := by kernel_rfl
theorem u_path : Tryd.prog.underlying 24 = some (.array 32 5) := Tryd.underlying24

set_option maxHeartbeats 400000 in
theorem isBit_any (d : Int) (w : World) : Calls Tryd.prog 69 #[.int .i64 d] w fun e w' => e = .returned (.bool (decide (0 ≤ d ∧ d < 256))) ∧ w' = w := by
  by_cases h0 : 0 ≤ d
  · by_cases h1 : d < 256
    · have e : decide (0 ≤ d ∧ d < 256) = true := decide_eq_true ⟨h0, h1⟩
      rw [e]
      go_enter Tryd.func69, Tryd.ntmps69
      go_wp2
      go_ret
      exact ⟨rfl, rfl⟩
    · have e : decide (0 ≤ d ∧ d < 256) = false := decide_eq_false (fun h => h1 h.2)
      rw [e]
      go_enter Tryd.func69, Tryd.ntmps69
      go_wp2
      go_ret
      exact ⟨rfl, rfl⟩
  · have e : decide (0 ≤ d ∧ d < 256) = false := decide_eq_false (fun h => h0 h.1)
    rw [e]
    go_enter Tryd.func69, Tryd.ntmps69
    go_wp2
    go_ret
    exact ⟨rfl, rfl⟩

set_option maxHeartbeats 400000 in
theorem isDepth_any (d : Int) (w : World) : Calls Tryd.prog 95 #[.int .i64 d] w fun e w' => e = .returned (.bool (decide (0 ≤ d ∧ d ≤ 256))) ∧ w' = w := by
  by_cases h0 : 0 ≤ d
  · by_cases h1 : d ≤ 256
    · have e : decide (0 ≤ d ∧ d ≤ 256) = true := decide_eq_true ⟨h0, h1⟩
      rw [e]
      go_enter Tryd.func95, Tryd.ntmps95
      go_wp2
      go_ret
      exact ⟨rfl, rfl⟩
    · have e : decide (0 ≤ d ∧ d ≤ 256) = false := decide_eq_false (fun h => h1 h.2)
      rw [e]
      go_enter Tryd.func95, Tryd.ntmps95
      go_wp2
      go_ret
      exact ⟨rfl, rfl⟩
  · have e : decide (0 ≤ d ∧ d ≤ 256) = false := decide_eq_false (fun h => h0 h.1)
    rw [e]
    go_enter Tryd.func95, Tryd.ntmps95
    go_wp2
    go_ret
    exact ⟨rfl, rfl⟩

theorem and_one (y : Int) (hy : 0 ≤ y ∧ y ≤ 255) : bits .and .u8 y 1 = y % 2 := by
  obtain ⟨n, hn, rfl⟩ := nat_of y hy
  have := u8_and_nat n 1 hn (by omega)
  rw [Nat.and_one_is_mod] at this
  rw [show (1 : Int) = ((1 : Nat) : Int) from rfl, this]
  omega

theorem shr_byte (y : Int) (hy : 0 ≤ y ∧ y ≤ 255) (k : Nat) : 0 ≤ y / 2 ^ k ∧ y / 2 ^ k ≤ 255 :=
  ⟨Int.ediv_nonneg hy.1 (Int.pow_nonneg (by omega)), Int.le_trans (Int.ediv_le_self _ hy.1) hy.2⟩

theorem bit_word (xs : List Int) (hx : Key xs) (d : Nat) : wrap64 (bits .and .u8 (xs[d / 8]?.getD 0 / 2 ^ (7 - d % 8)) 1) = kb xs d := by
  have h := shr_byte _ (hx.byte (d / 8)) (7 - d % 8)
  have e : xs[d / 8]?.getD 0 = xs.getD (d / 8) 0 := by simp [List.getD]
  rw [e, and_one _ h, Go.IntWalk.wrap64_in _ (by omega)]
  rfl

set_option maxHeartbeats 1000000 in
theorem bit_in (xs : List Int) (d : Nat) (w : World) (hx : Key xs) (hd : d < 256) : Calls Tryd.prog 37 #[.agg (B xs), .int .i64 d] w fun e w' => e = .returned (.int .i64 (kb xs d)) ∧ Below w.heap.size w w' := by
  have HI : Hid (∀ w, Calls Tryd.prog 69 #[.int .i64 (d : Int)] w fun e w' => e = .returned (.bool true) ∧ w' = w) := by
    intro w
    have := isBit_any d w
    rw [decide_eq_true (by omega)] at this
    exact this
  have HW := hidden (bit_word xs hx d)
  have h2 : ((d / 8 : Nat) : Int) < 32 := by omega
  go_enter Tryd.func37, Tryd.ntmps37
  go_wp2_with (first | (go_at_call 69; refine (HI.out _).mono ?_; rintro e w2 ⟨rfl, rfl⟩) | (refine wpList_bx _ rfl _ _ rfl _ rfl ?_; intro w1 g1 hg1 hl1 B1 b1; have c1 := B1.bcell (d / 8) (by rw [hx.1]; omega)))
  go_ret
  exact ⟨by rw [HW.out]; rfl, b1⟩

set_option maxHeartbeats 1000000 in
theorem bit_out (v : Value) (cs : Array Value) (hv : v = .agg cs) (d : Int) (w : World) (hd : ¬ (0 ≤ d ∧ d < 256)) : Calls Tryd.prog 37 #[v, .int .i64 d] w fun e w' => e = .returned (.int .i64 (-1)) ∧ Below w.heap.size w w' := by
  subst hv
  have HI : Hid (∀ w, Calls Tryd.prog 69 #[.int .i64 d] w fun e w' => e = .returned (.bool false) ∧ w' = w) := by
    intro w
    have := isBit_any d w
    rw [decide_eq_false hd] at this
    exact this
  clear hd
  go_enter Tryd.func37, Tryd.ntmps37
  go_wp2_with (first | (go_at_call 69; refine (HI.out _).mono ?_; rintro e w2 ⟨rfl, rfl⟩) | (refine wpList_bx _ rfl _ _ rfl _ rfl ?_; intro w1 g1 hg1 hl1 B1 b1))
  go_ret
  exact ⟨rfl, b1⟩

theorem Blk.key_reads {w : World} {g : Nat} {xs : List Int} (h : Blk w g 24 (B xs)) (hx : Key xs) : Reads w (.slice (some ⟨g, 0, none⟩) 32 32) xs := by
  have e : (.slice (some ⟨g, 0, none⟩) 32 32 : Value) = .slice (some ⟨g, 0, none⟩) xs.length 32 := by rw [hx.1]
  rw [e]
  refine ⟨_, _, rfl, by rw [hx.1]; omega, fun h => by simp at h, hx.2, fun _ => ⟨g, 0, rfl, fun i hi => ?_⟩⟩
  rw [Nat.zero_add]
  exact h.bcell i hi

set_option maxHeartbeats 1000000 in
theorem pcompare_any (xs ys : List Int) (w : World) (hx : Key xs) (hy : Key ys) : Calls Tryd.prog 79 #[.agg (B xs), .agg (B ys)] w fun e w' => e = .returned (.int .i64 (cmp xs ys)) ∧ Below w.heap.size w w' := by
  go_enter Tryd.func79, Tryd.ntmps79
  go_wp2_with (first | (have hz := hl1; clear hz; refine wpList_bx _ rfl _ _ rfl _ rfl ?_; intro w2 g2 hg2 hl2 B2 b2) | (refine wpList_bx _ rfl _ _ rfl _ rfl ?_; intro w1 g1 hg1 hl1 B1 b1))
  have c2 := grow_trans b1 b2
  have HC : Hid (∀ w', Below w2.heap.size w2 w' → Calls Tryd.prog 94 #[.slice (some ⟨g1, 0, none⟩) 32 32, .slice (some ⟨g2, 0, none⟩) 32 32] w' fun e w'' => e = .returned (.int .i64 (cmp xs ys)) ∧ w'' = w') :=
    fun w' hw' => compare_any _ _ xs ys w' (((B1.grow b2).grow hw').key_reads hx) ((B2.grow hw').key_reads hy)
  clear hx hy
  go_quiet ((go_at_call 94; exact Calls.quiet_of_same (HC.out _ (below_drewN (Below.refl _ _) _))))
  go_wp2
  go_ret
  exact ⟨rfl, below_drewN c2 _⟩

/-- What a call leaves that tells a key, and an error's number. -/
def KeyPost (p : List Int → Prop) (n : Int) (w : World) (e : Ending) (w' : World) : Prop := ∃ ys, p ys ∧ e = .returned (.tuple #[.agg (B ys), .int .i64 n]) ∧ Below w.heap.size w w'

theorem key_zero : Key (List.replicate 32 0) := ⟨by simp, fun z hz => by have := List.eq_of_mem_replicate hz; omega⟩

end Go.Proofs.YtjcklpdifanjlaaDoor
