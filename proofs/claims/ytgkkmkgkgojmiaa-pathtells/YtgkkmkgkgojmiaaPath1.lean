/- path.isBit, isDepth, Of, Bytes, Bit, Compare, as contracts. -/
import Derived.Test.YtgkkmkgkgojmiaaPathByte
import Derived.Test.YtgkkmkgkgojmiaaArrMem
import Derived.Laws.Cover3
namespace Go.Proofs.Ytgkkmkgkgojmiaa
open Go.RowKit

theorem zero_path : ∀ w, (zeroValue 24).run Try.prog w = .ok (.agg (B (List.replicate 32 0))) w := Try.zeroValue24
theorem size_path : (Try.prog.info? 24).map (·.size) = some 32 := by kernel_rfl
theorem u_path : Try.prog.underlying 24 = some (.array 32 5) := Try.underlying24

set_option maxHeartbeats 400000 in
theorem isBit_any (d : Int) (w : World) : Calls Try.prog 31 #[.int .i64 d] w fun e w' => e = .returned (.bool (decide (0 ≤ d ∧ d < 256))) ∧ w' = w := by
  by_cases h0 : 0 ≤ d
  · by_cases h1 : d < 256
    · have e : decide (0 ≤ d ∧ d < 256) = true := decide_eq_true ⟨h0, h1⟩
      rw [e]
      go_enter Try.func31, Try.ntmps31
      go_wp2
      go_ret
      exact ⟨rfl, rfl⟩
    · have e : decide (0 ≤ d ∧ d < 256) = false := decide_eq_false (fun h => h1 h.2)
      rw [e]
      go_enter Try.func31, Try.ntmps31
      go_wp2
      go_ret
      exact ⟨rfl, rfl⟩
  · have e : decide (0 ≤ d ∧ d < 256) = false := decide_eq_false (fun h => h0 h.1)
    rw [e]
    go_enter Try.func31, Try.ntmps31
    go_wp2
    go_ret
    exact ⟨rfl, rfl⟩

set_option maxHeartbeats 400000 in
theorem isDepth_any (d : Int) (w : World) : Calls Try.prog 34 #[.int .i64 d] w fun e w' => e = .returned (.bool (decide (0 ≤ d ∧ d ≤ 256))) ∧ w' = w := by
  by_cases h0 : 0 ≤ d
  · by_cases h1 : d ≤ 256
    · have e : decide (0 ≤ d ∧ d ≤ 256) = true := decide_eq_true ⟨h0, h1⟩
      rw [e]
      go_enter Try.func34, Try.ntmps34
      go_wp2
      go_ret
      exact ⟨rfl, rfl⟩
    · have e : decide (0 ≤ d ∧ d ≤ 256) = false := decide_eq_false (fun h => h1 h.2)
      rw [e]
      go_enter Try.func34, Try.ntmps34
      go_wp2
      go_ret
      exact ⟨rfl, rfl⟩
  · have e : decide (0 ≤ d ∧ d ≤ 256) = false := decide_eq_false (fun h => h0 h.1)
    rw [e]
    go_enter Try.func34, Try.ntmps34
    go_wp2
    go_ret
    exact ⟨rfl, rfl⟩

set_option maxHeartbeats 1000000 in
theorem pbytes_any (xs : List Int) (w : World) : Calls Try.prog 9 #[.agg (B xs)] w fun e w' => ∃ g, e = .returned (.slice (some ⟨g, 0, none⟩) 32 32) ∧ w.heap.size ≤ g ∧ Blk w' g 24 (B xs) ∧ Below w.heap.size w w' := by
  go_enter Try.func9, Try.ntmps9
  go_wp2_with (refine wpList_bx _ rfl _ _ rfl _ rfl ?_; intro w1 g1 hg1 hl1 B1 b1)
  go_ret
  exact ⟨g1, rfl, hg1, B1, b1⟩

theorem and_one (y : Int) (hy : 0 ≤ y ∧ y ≤ 255) : bits .and .u8 y 1 = y % 2 := by
  obtain ⟨n, hn, rfl⟩ := nat_of y hy
  have := u8_and_nat n 1 hn (by omega)
  rw [Nat.and_one_is_mod] at this
  rw [show (1 : Int) = ((1 : Nat) : Int) from rfl, this]
  omega

theorem shr_byte (y : Int) (hy : 0 ≤ y ∧ y ≤ 255) (k : Nat) : 0 ≤ y / 2 ^ k ∧ y / 2 ^ k ≤ 255 :=
  ⟨Int.ediv_nonneg hy.1 (Int.pow_nonneg (by omega)), Int.le_trans (Int.ediv_le_self _ hy.1) hy.2⟩

theorem bit_word (xs : List Int) (hx : Key xs) (d : Nat) : wrap64 (bits .and .u8 (xs[d / 8]?.getD 0 / 2 ^ (7 - d % 8)) 1) = kb xs d := by
  have h := shr_byte _ (hx.byte (d / 8)) (7 - d % 8)
  have e : xs[d / 8]?.getD 0 = xs.getD (d / 8) 0 := by simp [List.getD]
  rw [e, and_one _ h, Go.IntWalk.wrap64_in _ (by omega)]
  rfl

set_option maxHeartbeats 1000000 in
theorem bit_in (xs : List Int) (d : Nat) (w : World) (hx : Key xs) (hd : d < 256) : Calls Try.prog 14 #[.agg (B xs), .int .i64 d] w fun e w' => e = .returned (.int .i64 (kb xs d)) ∧ Below w.heap.size w w' := by
  have HI : Hid (∀ w, Calls Try.prog 31 #[.int .i64 (d : Int)] w fun e w' => e = .returned (.bool true) ∧ w' = w) := by
    intro w
    have := isBit_any d w
    rw [decide_eq_true (by omega)] at this
    exact this
  have HW := hidden (bit_word xs hx d)
  have h2 : ((d / 8 : Nat) : Int) < 32 := by omega
  go_enter Try.func14, Try.ntmps14
  go_wp2_with (first | (go_at_call 31; refine (HI.out _).mono ?_; rintro e w2 ⟨rfl, rfl⟩) | (refine wpList_bx _ rfl _ _ rfl _ rfl ?_; intro w1 g1 hg1 hl1 B1 b1; have c1 := B1.bcell (d / 8) (by rw [hx.1]; omega)))
  go_ret
  exact ⟨by rw [HW.out]; rfl, b1⟩

set_option maxHeartbeats 1000000 in
theorem bit_out (v : Value) (cs : Array Value) (hv : v = .agg cs) (d : Int) (w : World) (hd : ¬ (0 ≤ d ∧ d < 256)) : Calls Try.prog 14 #[v, .int .i64 d] w fun e w' => e = .returned (.int .i64 (-1)) ∧ Below w.heap.size w w' := by
  subst hv
  have HI : Hid (∀ w, Calls Try.prog 31 #[.int .i64 d] w fun e w' => e = .returned (.bool false) ∧ w' = w) := by
    intro w
    have := isBit_any d w
    rw [decide_eq_false hd] at this
    exact this
  clear hd
  go_enter Try.func14, Try.ntmps14
  go_wp2_with (first | (go_at_call 31; refine (HI.out _).mono ?_; rintro e w2 ⟨rfl, rfl⟩) | (refine wpList_bx _ rfl _ _ rfl _ rfl ?_; intro w1 g1 hg1 hl1 B1 b1))
  go_ret
  exact ⟨rfl, b1⟩

theorem Blk.key_reads {w : World} {g : Nat} {xs : List Int} (h : Blk w g 24 (B xs)) (hx : Key xs) : Reads w (.slice (some ⟨g, 0, none⟩) 32 32) xs := by
  have e : (.slice (some ⟨g, 0, none⟩) 32 32 : Value) = .slice (some ⟨g, 0, none⟩) xs.length 32 := by rw [hx.1]
  rw [e]
  refine ⟨_, _, rfl, by rw [hx.1]; omega, fun h => by simp at h, hx.2, fun _ => ⟨g, 0, rfl, fun i hi => ?_⟩⟩
  rw [Nat.zero_add]
  exact h.bcell i hi

set_option maxHeartbeats 1000000 in
theorem pcompare_any (xs ys : List Int) (w : World) (hx : Key xs) (hy : Key ys) : Calls Try.prog 18 #[.agg (B xs), .agg (B ys)] w fun e w' => e = .returned (.int .i64 (cmp xs ys)) ∧ Below w.heap.size w w' := by
  go_enter Try.func18, Try.ntmps18
  go_wp2_with (first | (have hz := hl1; clear hz; refine wpList_bx _ rfl _ _ rfl _ rfl ?_; intro w2 g2 hg2 hl2 B2 b2) | (refine wpList_bx _ rfl _ _ rfl _ rfl ?_; intro w1 g1 hg1 hl1 B1 b1))
  have c2 := grow_trans b1 b2
  have HC : Hid (∀ w', Below w2.heap.size w2 w' → Calls Try.prog 33 #[.slice (some ⟨g1, 0, none⟩) 32 32, .slice (some ⟨g2, 0, none⟩) 32 32] w' fun e w'' => e = .returned (.int .i64 (cmp xs ys)) ∧ w'' = w') :=
    fun w' hw' => compare_any _ _ xs ys w' (((B1.grow b2).grow hw').key_reads hx) ((B2.grow hw').key_reads hy)
  clear hx hy
  go_quiet ((go_at_call 33; exact Calls.quiet_of_same (HC.out _ (below_drewN (Below.refl _ _) _))))
  go_wp2
  go_ret
  exact ⟨rfl, below_drewN c2 _⟩

/-- What a call leaves that tells a key, and an error's number. -/
def KeyPost (p : List Int → Prop) (n : Int) (w : World) (e : Ending) (w' : World) : Prop := ∃ ys, p ys ∧ e = .returned (.tuple #[.agg (B ys), .int .i64 n]) ∧ Below w.heap.size w w'

theorem key_zero : Key (List.replicate 32 0) := ⟨by simp, fun z hz => by have := List.eq_of_mem_replicate hz; omega⟩

set_option maxHeartbeats 1000000 in
theorem of_in (v : Value) (xs : List Int) (w : World) (h : Reads w v xs) (hl : xs.length = 32) : Calls Try.prog 7 #[v] w (KeyPost (fun ys => ys = xs) 0 w) := by
  have HB : Hid (Bytes xs) := by obtain ⟨_, _, _, _, _, hb, _⟩ := h; exact hb
  have HR := hidden h
  obtain ⟨a, c, rfl, h1, _, _, h4⟩ := h
  obtain ⟨b, off, rfl, hc⟩ := h4 (by omega)
  have hcell : ∀ i, i < 32 → w.cell? ⟨b, off + i, none⟩ = some (.int .u8 (xs.getD i 0)) := fun i hi => hc i (by omega)
  have hra : w.rangeAt b off (B xs).toList := by
    intro i v hv
    rw [B_toList] at hv
    have hi : i < xs.length := by
      have := (List.getElem?_eq_some_iff.1 hv).1
      simpa using this
    rw [hc i hi]
    simpa [List.getD, hi] using hv
  have HRA : Hid (∀ w', Below w.heap.size w w' → w'.rangeAt b off (B xs).toList) := fun w' hw' i v hv => (hw'.cell (p := ⟨b, off + i, none⟩) (block_lt_of_cell (hra i v hv))).trans (hra i v hv)
  have hiX : (Try.prog.info? 24).map (·.size) = some (B xs).toList.length := by rw [B_toList, List.length_map, hl]; exact size_path
  have hsX : (B xs).size = 32 := by rw [B_size]; exact hl
  have hiX2 : (Try.prog.info? 24).map (·.size) = some (B xs).size := by rw [hsX]; exact size_path
  have hat : ∀ w, (Instr.arrayAt 24 (.slice (some ⟨b, off, none⟩) 32 c)).run Try.prog w = .ok (.pointer (some ⟨b, off, none⟩)) w := fun w => run_arrayAt w 24 _ 32 _ 32 c u_path (by omega)
  rw [hl] at h1 ⊢
  clear h4 hc hra
  go_enter Try.func7, Try.ntmps7
  go_wp2_with (first | (refine wpList_al _ rfl _ rfl _ zero_path ?_; intro w1 g1 hg1 hl1 B1 b1) | (refine wpList_load_mid rfl _ _ rfl b off rfl (B xs).toList _ (HRA.out _ b1) u_path rfl hiX ?_; rw [Array.toArray_toList]) | (refine wpList_sto _ rfl _ _ _ rfl g1 _ (B xs) rfl rfl B1 hiX2 (by rw [hsX, B_size]; simp) (B_one _) ?_; intro w2 B2 g2))
  exact bodyPost_ret (v := .tuple #[.agg (B xs), .int .i64 0]) (results_row_tmp rfl _ _ g1 _ _ _ _ rfl rfl B2 u_path hiX2) rfl ⟨xs, rfl, rfl, below_row b1 g2 hg1⟩

set_option maxHeartbeats 1000000 in
theorem of_out (v : Value) (xs : List Int) (w : World) (h : Reads w v xs) (hl : xs.length ≠ 32) : Calls Try.prog 7 #[v] w (KeyPost (fun ys => ys = List.replicate 32 0) 3 w) := by
  obtain ⟨a, c, rfl, _, _, _, _⟩ := h
  have h2 : decide ((xs.length : Int) = 32) = false := decide_eq_false (by omega)
  have h3 : ¬ (xs.length : Int) = 32 := by omega
  go_enter Try.func7, Try.ntmps7
  go_wp2_with (first | (refine wpList_al _ rfl _ rfl _ zero_path ?_; intro w1 g1 hg1 hl1 B1 b1) | (refine wpList_bld _ rfl _ _ rfl (B (List.replicate 32 0)) (by kernel_rfl) ?_) | (refine wpList_sto _ rfl _ _ _ rfl g1 _ (B (List.replicate 32 0)) rfl rfl B1 (by kernel_rfl) rfl (B_one _) ?_; intro w2 B2 g2))
  exact bodyPost_ret (v := .tuple #[.agg (B (List.replicate 32 0)), .int .i64 3]) (results_row_tmp rfl _ _ g1 _ _ _ _ rfl rfl B2 u_path (by kernel_rfl)) rfl ⟨_, rfl, rfl, below_row b1 g2 hg1⟩

end Go.Proofs.Ytgkkmkgkgojmiaa
