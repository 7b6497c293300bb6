/- path.Under, Flip, fill, First, Last, Next, as contracts. -/
import Derived.Test.YtnnmfgnommbmkaaGreatDoorLa01
import Derived.Test.YtnnmfgnommbmkaaGreatDoorLa05
namespace Go.Proofs.YtnnmfgnommbmkaaGreatDoor
set_option maxRecDepth 20000
open Go.RowKit

def Und (xs ys : List Int) (d : Int) : Prop := 0 ≤ d ∧ d ≤ 256 ∧ ∀ j : Nat, (j : Int) < d → kb xs j = kb ys j

theorem und_common {xs ys : List Int} {c : Nat} (h : IsCommon xs ys c) (d : Int) (h0 : 0 ≤ d) (h1 : d ≤ 256) : d ≤ (c : Int) ↔ Und xs ys d := by
  constructor
  · intro hd
    exact ⟨h0, h1, fun j hj => h.2.1 j (by omega)⟩
  · intro hd
    rcases Int.lt_or_le (c : Int) d with e | e
    · exact absurd (hd.2.2 c e) (h.2.2 (by omega))
    · exact e

set_option maxHeartbeats 1000000 in
theorem under_any (xs ys : List Int) (d : Int) (w : World) (hx : Key xs) (hy : Key ys) : Calls Tryz.prog 56 #[.agg (B xs), .agg (B ys), .int .i64 d] w fun e w' => ∃ b : Bool, (b = true ↔ Und xs ys d) ∧ e = .returned (.bool b) ∧ Below w.heap.size w w' := by
  have HX := hidden hx
  have HY := hidden hy
  have hiX : (Tryz.prog.info? 32).map (·.size) = some (B xs).size := by rw [B_size, hx.1]; exact size_path
  have hiY : (Tryz.prog.info? 32).map (·.size) = some (B ys).size := by rw [B_size, hy.1]; exact size_path
  have HI := isDepth_any d
  clear hx hy
  by_cases hd : 0 ≤ d ∧ d ≤ 256
  · rw [decide_eq_true hd] at HI
    have HI' := hidden HI
    have HD := hidden hd
    clear HI hd
    go_enter Tryz.func56, Tryz.ntmps56
    go_wp2_with (first | (have hz := hl1; clear hz; refine wpList_bx _ rfl _ _ rfl _ rfl ?_; intro w2 g2 hg2 hl2 B2 b2; have B1' := B1.grow b2) | (refine wpList_bx _ rfl _ _ rfl _ rfl ?_; intro w1 g1 hg1 hl1 B1 b1) | (go_at_call 85; refine (HI'.out _).mono ?_; rintro e w3 ⟨rfl, rfl⟩) | (refine wpList_ldg _ rfl _ _ rfl g1 _ rfl B1' _ _ u_path hiX ?_) | (refine wpList_ldg _ rfl _ _ rfl g2 _ rfl B2 _ _ u_path hiY ?_) | (go_at_call 86; refine (common_any xs ys _ HX.out HY.out).mono ?_; rintro e w4 ⟨c, hc, rfl, b4⟩; have HC := hidden hc; clear hc))
    go_ret
    exact ⟨_, decide_eq_true_iff.trans (und_common HC.out d HD.out.1 HD.out.2), rfl, grow_trans (grow_trans b1 b2) b4⟩
  · rw [decide_eq_false hd] at HI
    have HI' := hidden HI
    have HD := hidden hd
    clear HI hd
    go_enter Tryz.func56, Tryz.ntmps56
    go_wp2_with (first | (have hz := hl1; clear hz; refine wpList_bx _ rfl _ _ rfl _ rfl ?_; intro w2 g2 hg2 hl2 B2 b2; have B1' := B1.grow b2) | (refine wpList_bx _ rfl _ _ rfl _ rfl ?_; intro w1 g1 hg1 hl1 B1 b1) | (go_at_call 85; refine (HI'.out _).mono ?_; rintro e w3 ⟨rfl, rfl⟩))
    go_ret
    exact ⟨false, Iff.intro (fun h => absurd h (by decide)) (fun h => absurd ⟨h.1, h.2.1⟩ HD.out), rfl, grow_trans b1 b2⟩

theorem Blk.bset {w : World} {g : Nat} {t : TypeId} {zs : List Int} (h : Blk w g t (B zs)) (i : Nat) (z : Int) : Blk (w.setCell ⟨g, i, none⟩ (.int .u8 z)) g t (B (zs.set i z)) := by
  have := h.set i (.int .u8 z)
  rw [B_set] at this
  exact this

theorem key_size {xs : List Int} (h : Key xs) : (Tryz.prog.info? 32).map (·.size) = some (B xs).size := by rw [B_size, h.1]; exact size_path

end Go.Proofs.YtnnmfgnommbmkaaGreatDoor

namespace Go.Proofs.YtnnmfgnommbmkaaGreatDoor
set_option maxRecDepth 20000
open Go.RowKit

def FilledB (xs : List Int) (i : Nat) (z r : Int) (k : Nat) (ys : List Int) : Prop := Key ys ∧ ∀ j, j < 32 → ys.getD j 0 = if j < i then xs.getD j 0 else if j = i then z else if j < k then r else xs.getD j 0

theorem fill_key {xs ys : List Int} {d : Nat} {z r b : Int} (hz : ∀ j, j < 8 → bt z j = if j < d % 8 then bt (xs.getD (d / 8) 0) j else bt r j) (hr : ∀ j, j < 8 → bt r j = b) (h : FilledB xs (d / 8) z r 32 ys) : IsFill xs d b ys := by
  refine ⟨h.1, fun j hj => ?_⟩
  have := h.2 (j / 8) (by omega)
  unfold kb
  rw [this]
  rcases Nat.lt_trichotomy (j / 8) (d / 8) with e | e | e
  · rw [if_pos e, if_pos (by omega)]
  · rw [if_neg (by omega), if_pos e, hz _ (by omega), hr _ (by omega)]
    by_cases q : j % 8 < d % 8
    · rw [if_pos q, if_pos (by omega), e]
    · rw [if_neg q, if_neg (by omega)]
  · rw [if_neg (by omega), if_neg (by omega), if_pos (by omega), if_neg (by omega), hr _ (by omega)]

theorem FilledB.step {xs ys : List Int} {i k : Nat} {z r : Int} (h : FilledB xs i z r k ys) (hk : k < 32) (hi : i < k) (hr : 0 ≤ r ∧ r ≤ 255) : FilledB xs i z r (k + 1) (ys.set k r) := by
  refine ⟨h.1.set k r hr, fun j hj => ?_⟩
  rw [key_getD_set _ _ _ _ (by rw [h.1.1]; exact hk), h.2 j hj]
  by_cases e : j = k
  · rw [if_pos e, if_neg (by omega), if_neg (by omega), if_pos (by omega)]
  · rw [if_neg e]
    by_cases q : j < i
    · rw [if_pos q, if_pos q]
    · rw [if_neg q, if_neg q]
      by_cases q2 : j = i
      · rw [if_pos q2, if_pos q2]
      · rw [if_neg q2, if_neg q2]
        by_cases q3 : j < k
        · rw [if_pos q3, if_pos (by omega)]
        · rw [if_neg q3, if_neg (by omega)]

theorem FilledB.start {xs : List Int} (hx : Key xs) {i : Nat} {z r : Int} (hi : i < 32) (hz : 0 ≤ z ∧ z ≤ 255) : FilledB xs i z r (i + 1) (xs.set i z) := by
  refine ⟨hx.set i z hz, fun j hj => ?_⟩
  rw [key_getD_set _ _ _ _ (by rw [hx.1]; exact hi)]
  by_cases e : j = i
  · rw [if_pos e, if_neg (by omega), if_pos e]
  · rw [if_neg e, if_neg e]
    by_cases q : j < i
    · rw [if_pos q]
    · rw [if_neg q, if_neg (by omega)]

theorem fill_byte (xs : List Int) (hx : Key xs) (i k : Nat) (hk : k < 8) (r : Int) (hr : 0 ≤ r ∧ r ≤ 255) : ∀ j, j < 8 → bt (bits .or .u8 (bits .andNot .u8 (xs[i]?.getD 0) (255 / 2 ^ k)) (bits .and .u8 r (255 / 2 ^ k))) j = if j < k then bt (xs.getD i 0) j else bt r j := by
  intro j hj
  have e0 : xs[i]?.getD 0 = xs.getD i 0 := by simp [List.getD]
  rw [e0]
  exact bt_fill _ _ (hx.byte i) hr k j hk hj

set_option maxHeartbeats 4000000 in
theorem fill_in (xs : List Int) (d : Nat) (r b : Int) (w : World) (hx : Key xs) (hd : d ≤ 256) (hr0 : 0 ≤ r) (hr1 : r ≤ 255) (hb : ∀ j, j < 8 → bt r j = b) : Calls Tryz.prog 132 #[.agg (B xs), .int .i64 d, .int .u8 r] w (KeyPost (IsFill xs d b) 0 w) := by
  have HX := hidden hx
  have HB := hidden hb
  have HI := isDepth_any d
  rw [decide_eq_true (by omega)] at HI
  have HI' := hidden HI
  have hs := key_size hx
  have HZ : Hid ((B xs).size = 32) := by rw [B_size]; exact hx.1
  clear HI hx hb
  by_cases hdd : d = 256
  · have HF : Hid (IsFill xs d b xs) := ⟨HX.out, fun j hj => by rw [if_pos (by omega)]⟩
    have h1 : ((d : Int) == 256) = true := by rw [hdd]; rfl
    clear hdd
    go_enter Tryz.func132, Tryz.ntmps132
    go_wp2_with (first | (refine wpList_bx _ rfl _ _ rfl _ rfl ?_; intro w1 g1 hg1 hl1 B1 b1) | (refine wpList_al _ rfl _ rfl _ zero_path ?_; intro w2 g2 hg2 hl2 B2 b2; have B1' := B1.grow b2) | (go_at_call 85; refine (HI'.out _).mono ?_; rintro e w3 ⟨rfl, rfl⟩) | (refine wpList_ld _ rfl _ _ rfl g1 _ rfl B1' _ _ u_path hs ?_) | (refine wpList_sto _ rfl _ _ _ rfl g2 _ (B xs) rfl rfl B2 hs (by rw [HZ.out, B_size]; simp) (B_one _) ?_; intro w5 B6 g5))
    exact bodyPost_ret (v := .tuple #[.agg (B xs), .int .i64 0]) (results_row_tmp rfl _ _ g2 _ _ _ _ rfl rfl B6 u_path hs) rfl ⟨_, HF.out, rfl, below_row (grow_trans b1 b2) g5 (Nat.le_trans b1.size hg2)⟩
  · have h1 : ((d : Int) == 256) = false := by rw [beq_eq_false_iff_ne]; omega
    have h2 : ((d / 8 : Nat) : Int) < 32 := by omega
    have h3 : d < 256 := by omega
    clear hdd
    have HBY := hidden (fill_byte xs HX.out (d / 8) (d % 8) (by omega) r ⟨hr0, hr1⟩)
    go_enter Tryz.func132, Tryz.ntmps132
    go_wp2_with (first | (refine wpList_bx _ rfl _ _ rfl _ rfl ?_; intro w1 g1 hg1 hl1 B1 b1) | (refine wpList_al _ rfl _ rfl _ zero_path ?_; intro w2 g2 hg2 hl2 B2 b2; have B1' := B1.grow b2; have c1 := B1'.bcell (d / 8) (by rw [HX.out.1]; omega); have f1 := B1'.frozen (d / 8)) | (go_at_call 85; refine (HI'.out _).mono ?_; rintro e w3 ⟨rfl, rfl⟩))
    go_quiet (fail)
    go_wp2_with fail
    have HF0 := hidden (fun ys h => fill_key (xs := xs) (ys := ys) (d := d) HBY.out HB.out h)
    have HZB := bits_byte .or (bits .andNot .u8 (xs[d / 8]?.getD 0) (255 / 2 ^ (d % 8))) (bits .and .u8 r (255 / 2 ^ (d % 8)))
    generalize bits .or .u8 (bits .andNot .u8 (xs[d / 8]?.getD 0) (255 / 2 ^ (d % 8))) (bits .and .u8 r (255 / 2 ^ (d % 8))) = z at *
    generalize bits .andNot .u8 (xs[d / 8]?.getD 0) (255 / 2 ^ (d % 8)) = z1 at *
    generalize bits .and .u8 r (255 / 2 ^ (d % 8)) = z2 at *
    generalize (255 : Int) / 2 ^ (d % 8) = z3 at *
    generalize xs[d / 8]?.getD 0 = z4 at *
    generalize (d : Int) % 8 = z5 at *
    have e1 : (d : Int) / 8 = ((d / 8 : Nat) : Int) := by omega
    rw [e1]
    clear e1 HBY
    have h4 : d / 8 < 32 := by omega
    generalize d / 8 = i at *
    have HS := hidden (FilledB.start (r := r) HX.out h4 HZB)
    have B4 := (show Blk (w3.drewN nq) g1 _ _ from B1').bset i z
    have B5 := (show Blk (w3.drewN nq) g2 _ _ from B2).other i (.int .u8 z) (g' := g1) (by omega)
    have c4 : Below w.heap.size w ((w3.drewN nq).setCell ⟨g1, i, none⟩ (.int .u8 z)) := setCell_below _ _ (below_drewN (grow_trans b1 b2) nq) hg1
    generalize (w3.drewN nq).setCell ⟨g1, i, none⟩ (.int .u8 z) = w4 at *
    have hg3 : w.heap.size ≤ g2 := Nat.le_trans b1.size hg2
    have hne : g2 ≠ g1 := by omega
    clear c1 f1 B1 B1' B2 b1 b2 hl1 hl2 hg2
    go_loopw [8] (fun s wr => ∃ (k : Nat) (ys : List Int), i < k ∧ k ≤ 32 ∧ s = .int .i64 k ∧ Hid (FilledB xs i z r k ys) ∧ Hid (Blk wr g1 32 (B ys)) ∧ Hid (Blk wr g2 32 (B (List.replicate 32 0))) ∧ Hid (Below w.heap.size w wr)) (fun s _ => 32 - (intOf s).toNat)
    case atStart => exact ⟨i + 1, _, by omega, by omega, by go_num, HS, B4, B5, c4⟩
    case round =>
      clear B4 B5 c4 HS
      obtain ⟨k, ys, hk1, hk2, rfl, hF, hB, hC, hb⟩ := hrel
      by_cases hk : k < 32
      · have c1 := hB.out.bcell k (by rw [hF.out.1.1]; exact hk)
        have f1 := hB.out.frozen k
        have hk' : (k : Int) < 32 := by omega
        go_wp2
        exact ⟨⟨k + 1, _, by omega, by omega, by go_num, hF.out.step hk hk1 ⟨hr0, hr1⟩, hB.out.bset k r, hC.out.other k _ hne, setCell_below _ _ hb.out hg1⟩, by simp [intOf]; omega⟩
      · obtain rfl : k = 32 := by omega
        have hs := key_size hF.out.1
        have HZ : Hid ((B ys).size = 32) := by rw [B_size]; exact hF.out.1.1
        go_wp2_with (first | (refine wpList_ld _ rfl _ _ rfl g1 _ rfl hB.out _ _ u_path hs ?_) | (refine wpList_sto _ rfl _ _ _ rfl g2 _ (B ys) rfl rfl hC.out hs (by rw [HZ.out, B_size]; simp) (B_one _) ?_; intro w5 B6 g5))
        exact bodyPost_ret (v := .tuple #[.agg (B ys), .int .i64 0]) (results_row_tmp rfl _ _ g2 _ _ _ _ rfl rfl B6 u_path hs) rfl ⟨_, HF0.out _ hF.out, rfl, below_row hb.out g5 hg3⟩

set_option maxHeartbeats 1000000 in
theorem first_of (xs : List Int) (d : Int) (w : World) (hx : Key xs) (p : List Int → Prop) (n : Int) (hp : ∀ ys, p ys → Key ys) (hc : ∀ w', Calls Tryz.prog 132 #[.agg (B xs), .int .i64 d, .int .u8 0] w' (KeyPost p n w')) : Calls Tryz.prog 118 #[.agg (B xs), .int .i64 d] w (KeyPost p n w) := by
  have hs := key_size hx
  have HC := hidden hc
  have HP := hidden hp
  clear hc hx hp
  go_enter Tryz.func118, Tryz.ntmps118
  go_wp2_with (first | (refine wpList_bx _ rfl _ _ rfl _ rfl ?_; intro w1 g1 hg1 hl1 B1 b1) | (refine wpList_al _ rfl _ rfl _ zero_path ?_; intro w2 g2 hg2 hl2 B2 b2; have B1' := B1.grow b2) | (refine wpList_ld _ rfl _ _ rfl g1 _ rfl B1' _ _ u_path hs ?_) | (go_at_call 132; refine (HC.out _).mono ?_; rintro e w3 ⟨ys, hys, rfl, b3⟩; have B2' := B2.grow b3; have HY := hidden hys; have hs2 := key_size (HP.out _ hys); have HZ : Hid ((B ys).size = 32) := (by rw [B_size]; exact (HP.out _ hys).1); clear hys) | (refine wpList_sto _ rfl _ _ _ rfl g2 _ (B ys) rfl rfl B2' hs2 (by rw [HZ.out, B_size]; simp) (B_one _) ?_; intro w5 B6 g5))
  exact bodyPost_ret (v := .tuple #[.agg (B ys), .int .i64 n]) (results_row_tmp rfl _ _ g2 _ _ _ _ rfl rfl B6 u_path hs2) rfl ⟨_, HY.out, rfl, below_row (grow_trans (grow_trans b1 b2) b3) g5 (Nat.le_trans b1.size hg2)⟩

theorem first_in (xs : List Int) (d : Nat) (w : World) (hx : Key xs) (hd : d ≤ 256) : Calls Tryz.prog 118 #[.agg (B xs), .int .i64 d] w (KeyPost (IsFill xs d 0) 0 w) :=
  first_of xs d w hx _ 0 (fun _ h => h.1) fun w' => fill_in xs d 0 0 w' hx hd (by omega) (by omega) (fun j _ => bt_zero j)

end Go.Proofs.YtnnmfgnommbmkaaGreatDoor

namespace Go.Proofs.YtnnmfgnommbmkaaGreatDoor
set_option maxRecDepth 20000
open Go.RowKit

def NextPost (xs : List Int) (w : World) (e : Ending) (w' : World) : Prop := ∃ ys b, ((b = true ∧ IsNext xs ys) ∨ (b = false ∧ IsLast xs ∧ ys = List.replicate 32 0)) ∧ e = .returned (.tuple #[.agg (B ys), .bool b]) ∧ Below w.heap.size w w'

def Carried (xs : List Int) (k : Nat) (ys : List Int) : Prop := Key ys ∧ (∀ j, k ≤ j → j < 32 → xs.getD j 0 = 255) ∧ ∀ j, j < 32 → ys.getD j 0 = if j < k then xs.getD j 0 else 0

theorem Carried.start {xs : List Int} (hx : Key xs) : Carried xs 32 xs := ⟨hx, fun j h1 h2 => by omega, fun j hj => by rw [if_pos hj]⟩

theorem Carried.step {xs ys : List Int} {k : Nat} (h : Carried xs (k + 1) ys) (hk : k < 32) (hx : xs.getD k 0 = 255) : Carried xs k (ys.set k 0) := by
  refine ⟨h.1.set k 0 (by omega), fun j h1 h2 => ?_, fun j hj => ?_⟩
  · rcases Nat.lt_or_ge k j with e | e
    · exact h.2.1 j e h2
    · have : j = k := by omega
      subst this
      exact hx
  · rw [key_getD_set _ _ _ _ (by rw [h.1.1]; exact hk), h.2.2 j hj]
    by_cases e : j = k
    · rw [if_pos e, if_neg (by omega)]
    · rw [if_neg e]
      by_cases q : j < k
      · rw [if_pos q, if_pos (by omega)]
      · rw [if_neg q, if_neg (by omega)]

theorem Carried.last {xs ys : List Int} (h : Carried xs 0 ys) : IsLast xs := fun j hj => by
  unfold kb
  rw [h.2.1 (j / 8) (by omega) (by omega)]
  exact bt_full _ (by omega)

theorem Carried.next {xs ys : List Int} {k : Nat} (hx : Key xs) (h : Carried xs (k + 1) ys) (hk : k < 32) (hn : xs.getD k 0 ≠ 255) : IsNext xs (ys.set k (xs.getD k 0 + 1)) := by
  have hb := hx.byte k
  obtain ⟨m, hm, a1, a2, a3, a4⟩ := bt_next (xs.getD k 0) (by omega)
  have hl : k < ys.length := by rw [h.1.1]; exact hk
  have hget : ∀ j, j < 256 → kb (ys.set k (xs.getD k 0 + 1)) j = if j / 8 = k then bt (xs.getD k 0 + 1) (j % 8) else if j / 8 < k then kb xs j else 0 := by
    intro j hj
    rw [kb_set _ _ _ _ hl]
    by_cases e : j / 8 = k
    · rw [if_pos e, if_pos e]
    · rw [if_neg e, if_neg e]
      unfold kb
      rw [h.2.2 (j / 8) (by omega)]
      by_cases q : j / 8 < k
      · rw [if_pos (by omega), if_pos q]
      · rw [if_neg (by omega), if_neg q, bt_zero]
  refine ⟨h.1.set k _ (by omega), 8 * k + m, by omega, ?_, ?_, fun j hj => ?_, fun j hj hj2 => ?_⟩
  · unfold kb
    rw [show (8 * k + m) / 8 = k by omega, show (8 * k + m) % 8 = m by omega]
    exact a1
  · rw [hget _ (by omega), if_pos (by omega), show (8 * k + m) % 8 = m by omega]
    exact a2
  · rw [hget _ (by omega)]
    by_cases e : j / 8 = k
    · rw [if_pos e, a3 _ (by omega)]
      unfold kb
      rw [e]
    · rw [if_neg e, if_pos (by omega)]
  · rw [hget _ hj2]
    by_cases e : j / 8 = k
    · rw [if_pos e]
      have := a4 (j % 8) (by omega) (by omega)
      unfold kb
      rw [e]
      exact this
    · rw [if_neg e, if_neg (by omega)]
      refine ⟨?_, rfl⟩
      unfold kb
      rw [h.2.1 (j / 8) (by omega) (by omega)]
      exact bt_full _ (by omega)

set_option maxHeartbeats 2000000 in
theorem next_any (xs : List Int) (w : World) (hx : Key xs) : Calls Tryz.prog 32 #[.agg (B xs)] w (NextPost xs w) := by
  have HX := hidden hx
  clear hx
  go_enter Tryz.func32, Tryz.ntmps32
  go_wp2_with (first | (refine wpList_bx _ rfl _ _ rfl _ rfl ?_; intro w1 g1 hg1 hl1 B1 b1) | (refine wpList_al _ rfl _ rfl _ zero_path ?_; intro w2 g2 hg2 hl2 B2 b2; have B1' := B1.grow b2))
  have hg3 : w.heap.size ≤ g2 := Nat.le_trans b1.size hg2
  have hne : g2 ≠ g1 := by omega
  have c2 := grow_trans b1 b2
  have HS := hidden (Carried.start HX.out)
  have HB1 := hidden B1'
  have HB2 := hidden B2
  clear B1 B1' B2 b1 b2 hl1 hl2 hg2
  go_loopw [4] (fun s wr => ∃ (i : Int) (k : Nat) (ys : List Int), s = .int .i64 i ∧ i + 1 = k ∧ k ≤ 32 ∧ Hid (Carried xs k ys) ∧ Hid (Blk wr g1 32 (B ys)) ∧ Hid (Blk wr g2 32 (B (List.replicate 32 0))) ∧ Hid (Below w.heap.size w wr)) (fun s _ => (intOf s + 1).toNat)
  case atStart => exact ⟨31, 32, xs, rfl, by omega, by omega, HS, HB1, HB2, c2⟩
  case round =>
    clear HS HB1 HB2 c2
    obtain ⟨i, k, ys, rfl, hik, hk, hF, hB, hC, hb⟩ := hrel
    cases k with
    | zero =>
      obtain rfl : i = -1 := by omega
      go_wp2_with (first | (refine wpList_bld _ rfl _ _ rfl (B (List.replicate 32 0)) (by kernel_rfl) ?_) | (refine wpList_sto _ rfl _ _ _ rfl g2 _ (B (List.replicate 32 0)) rfl rfl hC.out (by kernel_rfl) rfl (B_one _) ?_; intro w4 B4 g4))
      exact bodyPost_ret (v := .tuple #[.agg (B (List.replicate 32 0)), .bool false]) (results_row_tmp rfl _ _ g2 _ _ _ _ rfl rfl B4 u_path (by kernel_rfl)) rfl ⟨_, false, Or.inr ⟨rfl, hF.out.last, rfl⟩, rfl, below_row hb.out g4 hg3⟩
    | succ k =>
      obtain rfl : i = (k : Int) := by omega
      have hk2 : k < 32 := by omega
      have c1 := hB.out.bcell k (by rw [hF.out.1.1]; exact hk2)
      have f1 := hB.out.frozen k
      have hk' : (k : Int) < 32 := by omega
      have e1 : ys.getD k 0 = xs.getD k 0 := by rw [hF.out.2.2 k hk2, if_pos (by omega)]
      have hby := HX.out.byte k
      rw [e1] at c1
      clear e1
      by_cases hx : xs.getD k 0 = 255
      · have HST := hidden (hF.out.step hk2 hx)
        rw [hx] at c1
        clear hx
        go_wp2
        exact ⟨⟨(k : Int) - 1, k, _, by go_num, by omega, by omega, HST, hB.out.bset k 0, hC.out.other k _ hne, setCell_below _ _ hb.out hg1⟩, by simp [intOf]⟩
      · have HN := hidden (hF.out.next HX.out hk2 hx)
        generalize xs.getD k 0 = x at *
        have e2 : (x + 1) % 256 = x + 1 := by omega
        have e3 : (x + 1 != 0) = true := by rw [bne_iff_ne]; omega
        have hs := key_size HN.out.1
        have HZ : Hid ((B (ys.set k (x + 1))).size = 32) := by rw [B_size]; exact HN.out.1.1
        go_wp2_with (first | (refine wpList_ld _ rfl _ _ rfl g1 _ rfl (hB.out.bset k (x + 1)) _ _ u_path hs ?_) | (refine wpList_sto _ rfl _ _ _ rfl g2 _ (B (ys.set k (x + 1))) rfl rfl (hC.out.other k (.int .u8 (x + 1)) hne) hs (by rw [HZ.out, B_size]; simp) (B_one _) ?_; intro w4 B4 g4))
        exact bodyPost_ret (v := .tuple #[.agg (B (ys.set k (x + 1))), .bool true]) (results_row_tmp rfl _ _ g2 _ _ _ _ rfl rfl B4 u_path hs) rfl ⟨_, true, Or.inl ⟨rfl, HN.out⟩, rfl, below_row (setCell_below _ _ hb.out hg1) g4 hg3⟩
end Go.Proofs.YtnnmfgnommbmkaaGreatDoor
