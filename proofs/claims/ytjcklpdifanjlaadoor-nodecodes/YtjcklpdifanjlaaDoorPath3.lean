/- path.Under, Flip, fill, First, Last, Next, as contracts. -/
import Derived.Test.YtjcklpdifanjlaaDoorPath2
namespace Go.Proofs.YtjcklpdifanjlaaDoor
set_option maxRecDepth 20000
open Go.RowKit

/-- d is a depth, and the first d bits of both are the same. -/
def Und (xs ys : List Int) (d : Int) : Prop := 0 ≤ d ∧ d ≤ 256 ∧ ∀ j : Nat, (j : Int) < d → kb xs j = kb ys j

theorem und_common {xs ys : List Int} {c : Nat} (h : IsCommon xs ys c) (d : Int) (h0 : 0 ≤ d) (h1 : d ≤ 256) : d ≤ (c : Int) ↔ Und xs ys d := by
  constructor
  · intro hd
    exact ⟨h0, h1, fun j hj => h.2.1 j (by omega)⟩
  · intro hd
    rcases Int.lt_or_le (c : Int) d with e | e
    · exact absurd (hd.2.2 c e) (h.2.2 (by omega))
    · exact e

set_option maxHeartbeats 1000000 in
theorem under_any (xs ys : List Int) (d : Int) (w : World) (hx : Key xs) (hy : Key ys) : Calls Tryd.prog 80 #[.agg (B xs), .agg (B ys), .int .i64 d] w fun e w' => ∃ b : Bool, (b = true ↔ Und xs ys d) ∧ e = .returned (.bool b) ∧ Below w.heap.size w w' := by
  have HX := hidden hx
  have HY := hidden hy
  have hiX : (Tryd.prog.info? 24).map (·.size) = some (B xs).size := by rw [B_size, hx.1]; exact size_path
  have hiY : (Tryd.prog.info? 24).map (·.size) = some (B ys).size := by rw [B_size, hy.1]; exact size_path
  have HI := isDepth_any d
  clear hx hy
  by_cases hd : 0 ≤ d ∧ d ≤ 256
  · rw [decide_eq_true hd] at HI
    have HI' := hidden HI
    have HD := hidden hd
    clear HI hd
    go_enter Tryd.func80, Tryd.ntmps80
    go_wp2_with (first | (have hz := hl1; clear hz; refine wpList_bx _ rfl _ _ rfl _ rfl ?_; intro w2 g2 hg2 hl2 B2 b2; have B1' := B1.grow b2) | (refine wpList_bx _ rfl _ _ rfl _ rfl ?_; intro w1 g1 hg1 hl1 B1 b1) | (go_at_call 95; refine (HI'.out _).mono ?_; rintro e w3 ⟨rfl, rfl⟩) | (refine wpList_ldg _ rfl _ _ rfl g1 _ rfl B1' _ _ u_path hiX ?_) | (refine wpList_ldg _ rfl _ _ rfl g2 _ rfl B2 _ _ u_path hiY ?_) | (go_at_call 96; refine (common_any xs ys _ HX.out HY.out).mono ?_; rintro e w4 ⟨c, hc, rfl, b4⟩; have HC := hidden hc; clear hc))
    go_ret
    exact ⟨_, decide_eq_true_iff.trans (und_common HC.out d HD.out.1 HD.out.2), rfl, grow_trans (grow_trans b1 b2) b4⟩
  · rw [decide_eq_false hd] at HI
    have HI' := hidden HI
    have HD := hidden hd
    clear HI hd
    go_enter Tryd.func80, Tryd.ntmps80
    go_wp2_with (first | (have hz := hl1; clear hz; refine wpList_bx _ rfl _ _ rfl _ rfl ?_; intro w2 g2 hg2 hl2 B2 b2; have B1' := B1.grow b2) | (refine wpList_bx _ rfl _ _ rfl _ rfl ?_; intro w1 g1 hg1 hl1 B1 b1) | (go_at_call 95; refine (HI'.out _).mono ?_; rintro e w3 ⟨rfl, rfl⟩))
    go_ret
    exact ⟨false, Iff.intro (fun h => absurd h (by decide)) (fun h => absurd ⟨h.1, h.2.1⟩ HD.out), rfl, grow_trans b1 b2⟩

theorem pow_byte (k : Nat) (hk : k < 8) : (2 : Int) ^ (7 - k) % 256 = 2 ^ (7 - k) := by
  have h := (show ∀ k, k < 8 → 2 ^ (7 - k) % 256 = 2 ^ (7 - k) from by decide +kernel) k hk
  have e : (2 : Int) ^ (7 - k) = ((2 ^ (7 - k) : Nat) : Int) := by rw [Int.natCast_pow]; rfl
  rw [e]
  exact (Int.natCast_emod _ _).symm.trans (congrArg _ h)

theorem flip_key (xs : List Int) (d : Nat) (hx : Key xs) (hd : d < 256) : IsFlip xs d (xs.set (d / 8) (bits .xor .u8 (xs[d / 8]?.getD 0) (2 ^ (7 - d % 8) % 256))) := by
  have e0 : xs[d / 8]?.getD 0 = xs.getD (d / 8) 0 := by simp [List.getD]
  rw [e0, pow_byte _ (by omega)]
  refine ⟨hx.set _ _ (bits_byte _ _ _), fun j hj => ?_⟩
  rw [kb_set _ _ _ _ (by rw [hx.1]; omega)]
  by_cases e : j / 8 = d / 8
  · rw [if_pos e, bt_flip _ (hx.byte _) _ _ (by omega) (by omega)]
    unfold kb
    rw [e]
    by_cases q : j % 8 = d % 8
    · rw [if_pos q, if_pos (by omega)]
    · rw [if_neg q, if_neg (by omega)]
  · rw [if_neg e, if_neg (by omega)]

theorem Blk.bset {w : World} {g : Nat} {t : TypeId} {zs : List Int} (h : Blk w g t (B zs)) (i : Nat) (z : Int) : Blk (w.setCell ⟨g, i, none⟩ (.int .u8 z)) g t (B (zs.set i z)) := by
  have := h.set i (.int .u8 z)
  rw [B_set] at this
  exact this

theorem key_size {xs : List Int} (h : Key xs) : (Tryd.prog.info? 24).map (·.size) = some (B xs).size := by rw [B_size, h.1]; exact size_path

end Go.Proofs.YtjcklpdifanjlaaDoor
