/- path.Under, Flip, fill, First, Last, Next, as contracts. -/
import Derived.Test.YtgkkmkgkgojmiaaPath2
namespace Go.Proofs.Ytgkkmkgkgojmiaa
open Go.RowKit

/-- d is a depth, and the first d bits of both are the same. -/
def Und (xs ys : List Int) (d : Int) : Prop := 0 ≤ d ∧ d ≤ 256 ∧ ∀ j : Nat, (j : Int) < d → kb xs j = kb ys j

theorem und_common {xs ys : List Int} {c : Nat} (h : IsCommon xs ys c) (d : Int) (h0 : 0 ≤ d) (h1 : d ≤ 256) : d ≤ (c : Int) ↔ Und xs ys d := by
  constructor
  · intro hd
    exact ⟨h0, h1, fun j hj => h.2.1 j (by omega)⟩
  · intro hd
    rcases Int.lt_or_le (c : Int) d with e | e
    · exact absurd (hd.2.2 c e) (h.2.2 (by omega))
    · exact e

set_option maxHeartbeats 1000000 in
theorem under_any (xs ys : List Int) (d : Int) (w : World) (hx : Key xs) (hy : Key ys) : Calls Try.prog 20 #[.agg (B xs), .agg (B ys), .int .i64 d] w fun e w' => ∃ b : Bool, (b = true ↔ Und xs ys d) ∧ e = .returned (.bool b) ∧ Below w.heap.size w w' := by
  have HX := hidden hx
  have HY := hidden hy
  have hiX : (Try.prog.info? 24).map (·.size) = some (B xs).size := by rw [B_size, hx.1]; exact size_path
  have hiY : (Try.prog.info? 24).map (·.size) = some (B ys).size := by rw [B_size, hy.1]; exact size_path
  have HI := isDepth_any d
  clear hx hy
  by_cases hd : 0 ≤ d ∧ d ≤ 256
  · rw [decide_eq_true hd] at HI
    have HI' := hidden HI
    have HD := hidden hd
    clear HI hd
    go_enter Try.func20, Try.ntmps20
    go_wp2_with (first | (have hz := hl1; clear hz; refine wpList_bx _ rfl _ _ rfl _ rfl ?_; intro w2 g2 hg2 hl2 B2 b2; have B1' := B1.grow b2) | (refine wpList_bx _ rfl _ _ rfl _ rfl ?_; intro w1 g1 hg1 hl1 B1 b1) | (go_at_call 34; refine (HI'.out _).mono ?_; rintro e w3 ⟨rfl, rfl⟩) | (refine wpList_ldg _ rfl _ _ rfl g1 _ rfl B1' _ _ u_path hiX ?_) | (refine wpList_ldg _ rfl _ _ rfl g2 _ rfl B2 _ _ u_path hiY ?_) | (go_at_call 16; refine (common_any xs ys _ HX.out HY.out).mono ?_; rintro e w4 ⟨c, hc, rfl, b4⟩; have HC := hidden hc; clear hc))
    go_ret
    exact ⟨_, decide_eq_true_iff.trans (und_common HC.out d HD.out.1 HD.out.2), rfl, grow_trans (grow_trans b1 b2) b4⟩
  · rw [decide_eq_false hd] at HI
    have HI' := hidden HI
    have HD := hidden hd
    clear HI hd
    go_enter Try.func20, Try.ntmps20
    go_wp2_with (first | (have hz := hl1; clear hz; refine wpList_bx _ rfl _ _ rfl _ rfl ?_; intro w2 g2 hg2 hl2 B2 b2; have B1' := B1.grow b2) | (refine wpList_bx _ rfl _ _ rfl _ rfl ?_; intro w1 g1 hg1 hl1 B1 b1) | (go_at_call 34; refine (HI'.out _).mono ?_; rintro e w3 ⟨rfl, rfl⟩))
    go_ret
    exact ⟨false, Iff.intro (fun h => absurd h (by decide)) (fun h => absurd ⟨h.1, h.2.1⟩ HD.out), rfl, grow_trans b1 b2⟩

set_option maxHeartbeats 1000000 in
theorem flip_out (xs : List Int) (d : Int) (w : World) (hd : ¬ (0 ≤ d ∧ d < 256)) : Calls Try.prog 22 #[.agg (B xs), .int .i64 d] w (KeyPost (fun ys => ys = List.replicate 32 0) 2 w) := by
  have HI := isBit_any d
  rw [decide_eq_false hd] at HI
  have HI' := hidden HI
  clear HI hd
  go_enter Try.func22, Try.ntmps22
  go_wp2_with (first | (refine wpList_bx _ rfl _ _ rfl _ rfl ?_; intro w1 g1 hg1 hl1 B1 b1) | (refine wpList_al _ rfl _ rfl _ zero_path ?_; intro w2 g2 hg2 hl2 B2 b2) | (go_at_call 31; refine (HI'.out _).mono ?_; rintro e w3 ⟨rfl, rfl⟩) | (refine wpList_bld _ rfl _ _ rfl (B (List.replicate 32 0)) (by kernel_rfl) ?_) | (refine wpList_sto _ rfl _ _ _ rfl g2 _ (B (List.replicate 32 0)) rfl rfl B2 (by kernel_rfl) rfl (B_one _) ?_; intro w4 B4 g4))
  exact bodyPost_ret (v := .tuple #[.agg (B (List.replicate 32 0)), .int .i64 2]) (results_row_tmp rfl _ _ g2 _ _ _ _ rfl rfl B4 u_path (by kernel_rfl)) rfl ⟨_, rfl, rfl, below_row (grow_trans b1 b2) g4 (Nat.le_trans b1.size hg2)⟩

theorem pow_byte (k : Nat) (hk : k < 8) : (2 : Int) ^ (7 - k) % 256 = 2 ^ (7 - k) := by
  have h := (show ∀ k, k < 8 → 2 ^ (7 - k) % 256 = 2 ^ (7 - k) from by decide +kernel) k hk
  have e : (2 : Int) ^ (7 - k) = ((2 ^ (7 - k) : Nat) : Int) := by rw [Int.natCast_pow]; rfl
  rw [e]
  exact (Int.natCast_emod _ _).symm.trans (congrArg _ h)

theorem flip_key (xs : List Int) (d : Nat) (hx : Key xs) (hd : d < 256) : IsFlip xs d (xs.set (d / 8) (bits .xor .u8 (xs[d / 8]?.getD 0) (2 ^ (7 - d % 8) % 256))) := by
  have e0 : xs[d / 8]?.getD 0 = xs.getD (d / 8) 0 := by simp [List.getD]
  rw [e0, pow_byte _ (by omega)]
  refine ⟨hx.set _ _ (bits_byte _ _ _), fun j hj => ?_⟩
  rw [kb_set _ _ _ _ (by rw [hx.1]; omega)]
  by_cases e : j / 8 = d / 8
  · rw [if_pos e, bt_flip _ (hx.byte _) _ _ (by omega) (by omega)]
    unfold kb
    rw [e]
    by_cases q : j % 8 = d % 8
    · rw [if_pos q, if_pos (by omega)]
    · rw [if_neg q, if_neg (by omega)]
  · rw [if_neg e, if_neg (by omega)]

theorem Blk.bset {w : World} {g : Nat} {t : TypeId} {zs : List Int} (h : Blk w g t (B zs)) (i : Nat) (z : Int) : Blk (w.setCell ⟨g, i, none⟩ (.int .u8 z)) g t (B (zs.set i z)) := by
  have := h.set i (.int .u8 z)
  rw [B_set] at this
  exact this

theorem key_size {xs : List Int} (h : Key xs) : (Try.prog.info? 24).map (·.size) = some (B xs).size := by rw [B_size, h.1]; exact size_path

set_option maxHeartbeats 2000000 in
theorem flip_in (xs : List Int) (d : Nat) (w : World) (hx : Key xs) (hd : d < 256) : Calls Try.prog 22 #[.agg (B xs), .int .i64 d] w (KeyPost (IsFlip xs d) 0 w) := by
  have HX := hidden hx
  have HF := hidden (flip_key xs d hx hd)
  have HI := isBit_any d
  rw [decide_eq_true (by omega)] at HI
  have HI' := hidden HI
  have h2 : ((d / 8 : Nat) : Int) < 32 := by omega
  clear HI hx
  go_enter Try.func22, Try.ntmps22
  go_wp2_with (first | (refine wpList_bx _ rfl _ _ rfl _ rfl ?_; intro w1 g1 hg1 hl1 B1 b1) | (refine wpList_al _ rfl _ rfl _ zero_path ?_; intro w2 g2 hg2 hl2 B2 b2; have B1' := B1.grow b2; have c1 := B1'.bcell (d / 8) (by rw [HX.out.1]; omega); have f1 := B1'.frozen (d / 8)) | (go_at_call 31; refine (HI'.out _).mono ?_; rintro e w3 ⟨rfl, rfl⟩))
  go_region
  generalize bits .xor .u8 (xs[d / 8]?.getD 0) (2 ^ (7 - d % 8) % 256) = z at *
  have B4 := (B1'.bset (d / 8) z).drew
  have B5 := (B2.other (d / 8) (.int .u8 z) (g' := g1) (by omega)).drew
  have c4 : Below w.heap.size w (w3.setCell ⟨g1, d / 8, none⟩ (.int .u8 z)).drew := (setCell_below _ _ (grow_trans b1 b2) hg1).drew
  generalize (w3.setCell ⟨g1, d / 8, none⟩ (.int .u8 z)).drew = w4 at *
  have hs := key_size HF.out.1
  have HZ : Hid ((B (xs.set (d / 8) z)).size = 32) := by rw [B_size]; exact HF.out.1.1
  generalize xs.set (d / 8) z = zs at *
  clear c1 f1 B1 B1' B2
  go_wp2_with (first | (refine wpList_ld _ rfl _ _ rfl g1 _ rfl B4 _ _ u_path hs ?_) | (refine wpList_sto _ rfl _ _ _ rfl g2 _ (B zs) rfl rfl B5 hs (by rw [HZ.out, B_size]; simp) (B_one _) ?_; intro w5 B6 g5))
  exact bodyPost_ret (v := .tuple #[.agg (B zs), .int .i64 0]) (results_row_tmp rfl _ _ g2 _ _ _ _ rfl rfl B6 u_path hs) rfl ⟨_, HF.out, rfl, below_row c4 g5 (Nat.le_trans b1.size hg2)⟩

end Go.Proofs.Ytgkkmkgkgojmiaa
