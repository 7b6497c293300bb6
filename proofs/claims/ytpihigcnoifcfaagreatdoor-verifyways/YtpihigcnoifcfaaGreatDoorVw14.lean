/- path.Under, Flip, fill, First, Last, Next, as contracts. -/
import Derived.Test.YtpihigcnoifcfaaGreatDoorVw13
namespace Go.Proofs.YtpihigcnoifcfaaGreatDoor
set_option maxRecDepth 20000
open Go.RowKit

/-- d is a depth, and the first d bits of both are the same. -/
def Und (xs ys : List Int) (d : Int) : Prop := 0 ≤ d ∧ d ≤ 256 ∧ ∀ j : Nat, (j : Int) < d → kb xs j = kb ys j

theorem und_common {xs ys : List Int} {c : Nat} (h : IsCommon xs ys c) (d : Int) (h0 : 0 ≤ d) (h1 : d ≤ 256) : d ≤ (c : Int) ↔ Und xs ys d := by
  constructor
  · intro hd
    exact ⟨h0, h1, fun j hj => h.2.1 j (by omega)⟩
  · intro hd
    rcases Int.lt_or_le (c : Int) d with e | e
    · exact absurd (hd.2.2 c e) (h.2.2 (by omega))
    · exact e

set_option maxHeartbeats 1000000 in
theorem under_any (xs ys : List Int) (d : Int) (w : World) (hx : Key xs) (hy : Key ys) : Calls Tryz.prog 46 #[.agg (B xs), .agg (B ys), .int .i64 d] w fun e w' => ∃ b : Bool, (b = true ↔ Und xs ys d) ∧ e = .returned (.bool b) ∧ Below w.heap.size w w' := by
  have HX := hidden hx
  have HY := hidden hy
  have hiX : (Tryz.prog.info? 24).map (·.size) = some (B xs).size := by rw [B_size, hx.1]; exact size_path
  have hiY : (Tryz.prog.info? 24).map (·.size) = some (B ys).size := by rw [B_size, hy.1]; exact size_path
  have HI := isDepth_any d
  clear hx hy
  by_cases hd : 0 ≤ d ∧ d ≤ 256
  · rw [decide_eq_true hd] at HI
    have HI' := hidden HI
    have HD := hidden hd
    clear HI hd
    go_enter Tryz.func46, Tryz.ntmps46
    go_wp2_with (first | (have hz := hl1; clear hz; refine wpList_bx _ rfl _ _ rfl _ rfl ?_; intro w2 g2 hg2 hl2 B2 b2; have B1' := B1.grow b2) | (refine wpList_bx _ rfl _ _ rfl _ rfl ?_; intro w1 g1 hg1 hl1 B1 b1) | (go_at_call 69; refine (HI'.out _).mono ?_; rintro e w3 ⟨rfl, rfl⟩) | (refine wpList_ldg _ rfl _ _ rfl g1 _ rfl B1' _ _ u_path hiX ?_) | (refine wpList_ldg _ rfl _ _ rfl g2 _ rfl B2 _ _ u_path hiY ?_) | (go_at_call 70; refine (common_any xs ys _ HX.out HY.out).mono ?_; rintro e w4 ⟨c, hc, rfl, b4⟩; have HC := hidden hc; clear hc))
    go_ret
    exact ⟨_, decide_eq_true_iff.trans (und_common HC.out d HD.out.1 HD.out.2), rfl, grow_trans (grow_trans b1 b2) b4⟩
  · rw [decide_eq_false hd] at HI
    have HI' := hidden HI
    have HD := hidden hd
    clear HI hd
    go_enter Tryz.func46, Tryz.ntmps46
    go_wp2_with (first | (have hz := hl1; clear hz; refine wpList_bx _ rfl _ _ rfl _ rfl ?_; intro w2 g2 hg2 hl2 B2 b2; have B1' := B1.grow b2) | (refine wpList_bx _ rfl _ _ rfl _ rfl ?_; intro w1 g1 hg1 hl1 B1 b1) | (go_at_call 69; refine (HI'.out _).mono ?_; rintro e w3 ⟨rfl, rfl⟩))
    go_ret
    exact ⟨false, Iff.intro (fun h => absurd h (by decide)) (fun h => absurd ⟨h.1, h.2.1⟩ HD.out), rfl, grow_trans b1 b2⟩

theorem pow_byte (k : Nat) (hk : k < 8) : (2 : Int) ^ (7 - k) % 256 = 2 ^ (7 - k) := by
  have h := (show ∀ k, k < 8 → 2 ^ (7 - k) % 256 = 2 ^ (7 - k) from by decide +kernel) k hk
  have e : (2 : Int) ^ (7 - k) = ((2 ^ (7 - k) : Nat) : Int) := by rw [Int.natCast_pow]; rfl
  rw [e]
  exact (Int.natCast_emod _ _).symm.trans (congrArg _ h)

theorem flip_key (xs : List Int) (d : Nat) (hx : Key xs) (hd : d < 256) : IsFlip xs d (xs.set (d / 8) (bits .xor .u8 (xs[d / 8]?.getD 0) (2 ^ (7 - d % 8) % 256))) := by
  have e0 : xs[d / 8]?.getD 0 = xs.getD (d / 8) 0 := by simp [List.getD]
  rw [e0, pow_byte _ (by omega)]
  refine ⟨hx.set _ _ (bits_byte _ _ _), fun j hj => ?_⟩
  rw [kb_set _ _ _ _ (by rw [hx.1]; omega)]
  by_cases e : j / 8 = d / 8
  · rw [if_pos e, bt_flip _ (hx.byte _) _ _ (by omega) (by omega)]
    unfold kb
    rw [e]
    by_cases q : j % 8 = d % 8
    · rw [if_pos q, if_pos (by omega)]
    · rw [if_neg q, if_neg (by omega)]
  · rw [if_neg e, if_neg (by omega)]

theorem Blk.bset {w : World} {g : Nat} {t : TypeId} {zs : List Int} (h : Blk w g t (B zs)) (i : Nat) (z : Int) : Blk (w.setCell ⟨g, i, none⟩ (.int .u8 z)) g t (B (zs.set i z)) := by
  have := h.set i (.int .u8 z)
  rw [B_set] at this
  exact this

theorem key_size {xs : List Int} (h : Key xs) : (Tryz.prog.info? 24).map (·.size) = some (B xs).size := by rw [B_size, h.1]; exact size_path

end Go.Proofs.YtpihigcnoifcfaaGreatDoor

/- path.fill, First, Last, as contracts. -/
namespace Go.Proofs.YtpihigcnoifcfaaGreatDoor
set_option maxRecDepth 20000
open Go.RowKit

/-- What stands in the key while it is filled up: behind the byte i the bytes up to k are r. -/
def FilledB (xs : List Int) (i : Nat) (z r : Int) (k : Nat) (ys : List Int) : Prop := Key ys ∧ ∀ j, j < 32 → ys.getD j 0 = if j < i then xs.getD j 0 else if j = i then z else if j < k then r else xs.getD j 0

theorem fill_key {xs ys : List Int} {d : Nat} {z r b : Int} (hz : ∀ j, j < 8 → bt z j = if j < d % 8 then bt (xs.getD (d / 8) 0) j else bt r j) (hr : ∀ j, j < 8 → bt r j = b) (h : FilledB xs (d / 8) z r 32 ys) : IsFill xs d b ys := by
  refine ⟨h.1, fun j hj => ?_⟩
  have := h.2 (j / 8) (by omega)
  unfold kb
  rw [this]
  rcases Nat.lt_trichotomy (j / 8) (d / 8) with e | e | e
  · rw [if_pos e, if_pos (by omega)]
  · rw [if_neg (by omega), if_pos e, hz _ (by omega), hr _ (by omega)]
    by_cases q : j % 8 < d % 8
    · rw [if_pos q, if_pos (by omega), e]
    · rw [if_neg q, if_neg (by omega)]
  · rw [if_neg (by omega), if_neg (by omega), if_pos (by omega), if_neg (by omega), hr _ (by omega)]

theorem FilledB.step {xs ys : List Int} {i k : Nat} {z r : Int} (h : FilledB xs i z r k ys) (hk : k < 32) (hi : i < k) (hr : 0 ≤ r ∧ r ≤ 255) : FilledB xs i z r (k + 1) (ys.set k r) := by
  refine ⟨h.1.set k r hr, fun j hj => ?_⟩
  rw [key_getD_set _ _ _ _ (by rw [h.1.1]; exact hk), h.2 j hj]
  by_cases e : j = k
  · rw [if_pos e, if_neg (by omega), if_neg (by omega), if_pos (by omega)]
  · rw [if_neg e]
    by_cases q : j < i
    · rw [if_pos q, if_pos q]
    · rw [if_neg q, if_neg q]
      by_cases q2 : j = i
      · rw [if_pos q2, if_pos q2]
      · rw [if_neg q2, if_neg q2]
        by_cases q3 : j < k
        · rw [if_pos q3, if_pos (by omega)]
        · rw [if_neg q3, if_neg (by omega)]

theorem FilledB.start {xs : List Int} (hx : Key xs) {i : Nat} {z r : Int} (hi : i < 32) (hz : 0 ≤ z ∧ z ≤ 255) : FilledB xs i z r (i + 1) (xs.set i z) := by
  refine ⟨hx.set i z hz, fun j hj => ?_⟩
  rw [key_getD_set _ _ _ _ (by rw [hx.1]; exact hi)]
  by_cases e : j = i
  · rw [if_pos e, if_neg (by omega), if_pos e]
  · rw [if_neg e, if_neg e]
    by_cases q : j < i
    · rw [if_pos q]
    · rw [if_neg q, if_neg (by omega)]

theorem fill_byte (xs : List Int) (hx : Key xs) (i k : Nat) (hk : k < 8) (r : Int) (hr : 0 ≤ r ∧ r ≤ 255) : ∀ j, j < 8 → bt (bits .or .u8 (bits .andNot .u8 (xs[i]?.getD 0) (255 / 2 ^ k)) (bits .and .u8 r (255 / 2 ^ k))) j = if j < k then bt (xs.getD i 0) j else bt r j := by
  intro j hj
  have e0 : xs[i]?.getD 0 = xs.getD i 0 := by simp [List.getD]
  rw [e0]
  exact bt_fill _ _ (hx.byte i) hr k j hk hj

theorem zero_all (ys : List Int) (h : ys = List.replicate 32 0) : Key ys := by rw [h]; exact key_zero

end Go.Proofs.YtpihigcnoifcfaaGreatDoor

/- path.Next, as a contract. -/
namespace Go.Proofs.YtpihigcnoifcfaaGreatDoor
set_option maxRecDepth 20000
open Go.RowKit

/-- What a call leaves that tells the next key, or that there is none. -/
def NextPost (xs : List Int) (w : World) (e : Ending) (w' : World) : Prop := ∃ ys b, ((b = true ∧ IsNext xs ys) ∨ (b = false ∧ IsLast xs ∧ ys = List.replicate 32 0)) ∧ e = .returned (.tuple #[.agg (B ys), .bool b]) ∧ Below w.heap.size w w'

/-- While one is carried: all bytes from k on were 255 and are 0. -/
def Carried (xs : List Int) (k : Nat) (ys : List Int) : Prop := Key ys ∧ (∀ j, k ≤ j → j < 32 → xs.getD j 0 = 255) ∧ ∀ j, j < 32 → ys.getD j 0 = if j < k then xs.getD j 0 else 0

theorem Carried.start {xs : List Int} (hx : Key xs) : Carried xs 32 xs := ⟨hx, fun j h1 h2 => by omega, fun j hj => by rw [if_pos hj]⟩

theorem Carried.step {xs ys : List Int} {k : Nat} (h : Carried xs (k + 1) ys) (hk : k < 32) (hx : xs.getD k 0 = 255) : Carried xs k (ys.set k 0) := by
  refine ⟨h.1.set k 0 (by omega), fun j h1 h2 => ?_, fun j hj => ?_⟩
  · rcases Nat.lt_or_ge k j with e | e
    · exact h.2.1 j e h2
    · have : j = k := by omega
      subst this
      exact hx
  · rw [key_getD_set _ _ _ _ (by rw [h.1.1]; exact hk), h.2.2 j hj]
    by_cases e : j = k
    · rw [if_pos e, if_neg (by omega)]
    · rw [if_neg e]
      by_cases q : j < k
      · rw [if_pos q, if_pos (by omega)]
      · rw [if_neg q, if_neg (by omega)]

theorem Carried.last {xs ys : List Int} (h : Carried xs 0 ys) : IsLast xs := fun j hj => by
  unfold kb
  rw [h.2.1 (j / 8) (by omega) (by omega)]
  exact bt_full _ (by omega)

theorem Carried.next {xs ys : List Int} {k : Nat} (hx : Key xs) (h : Carried xs (k + 1) ys) (hk : k < 32) (hn : xs.getD k 0 ≠ 255) : IsNext xs (ys.set k (xs.getD k 0 + 1)) := by
  have hb := hx.byte k
  obtain ⟨m, hm, a1, a2, a3, a4⟩ := bt_next (xs.getD k 0) (by omega)
  have hl : k < ys.length := by rw [h.1.1]; exact hk
  have hget : ∀ j, j < 256 → kb (ys.set k (xs.getD k 0 + 1)) j = if j / 8 = k then bt (xs.getD k 0 + 1) (j % 8) else if j / 8 < k then kb xs j else 0 := by
    intro j hj
    rw [kb_set _ _ _ _ hl]
    by_cases e : j / 8 = k
    · rw [if_pos e, if_pos e]
    · rw [if_neg e, if_neg e]
      unfold kb
      rw [h.2.2 (j / 8) (by omega)]
      by_cases q : j / 8 < k
      · rw [if_pos (by omega), if_pos q]
      · rw [if_neg (by omega), if_neg q, bt_zero]
  refine ⟨h.1.set k _ (by omega), 8 * k + m, by omega, ?_, ?_, fun j hj => ?_, fun j hj hj2 => ?_⟩
  · unfold kb
    rw [show (8 * k + m) / 8 = k by omega, show (8 * k + m) % 8 = m by omega]
    exact a1
  · rw [hget _ (by omega), if_pos (by omega), show (8 * k + m) % 8 = m by omega]
    exact a2
  · rw [hget _ (by omega)]
    by_cases e : j / 8 = k
    · rw [if_pos e, a3 _ (by omega)]
      unfold kb
      rw [e]
    · rw [if_neg e, if_pos (by omega)]
  · rw [hget _ hj2]
    by_cases e : j / 8 = k
    · rw [if_pos e]
      have := a4 (j % 8) (by omega) (by omega)
      unfold kb
      rw [e]
      exact this
    · rw [if_neg e, if_neg (by omega)]
      refine ⟨?_, rfl⟩
      unfold kb
      rw [h.2.1 (j / 8) (by omega) (by omega)]
      exact bt_full _ (by omega)

end Go.Proofs.YtpihigcnoifcfaaGreatDoor
