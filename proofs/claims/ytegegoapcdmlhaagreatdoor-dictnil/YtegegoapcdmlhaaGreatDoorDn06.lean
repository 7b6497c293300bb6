/- path.fill, First, Last, as contracts. -/
import Derived.Test.YtegegoapcdmlhaaGreatDoorDn05
namespace Go.Proofs.YtegegoapcdmlhaaGreatDoor
set_option maxRecDepth 20000
open Go.RowKit

set_option maxHeartbeats 1000000 in
theorem fill_out (xs : List Int) (d r : Int) (w : World) (hd : ¬ (0 ≤ d ∧ d ≤ 256)) : Calls Tryz.prog 246 #[.agg (B xs), .int .i64 d, .int .u8 r] w (KeyPost (fun ys => ys = List.replicate 32 0) 2 w) := by
  have HI := isDepth_any d
  rw [decide_eq_false hd] at HI
  have HI' := hidden HI
  clear HI hd
  go_enter Tryz.func246, Tryz.ntmps246
  go_wp2_with (first | (refine wpList_bx _ rfl _ _ rfl _ rfl ?_; intro w1 g1 hg1 hl1 B1 b1) | (refine wpList_al _ rfl _ rfl _ zero_path ?_; intro w2 g2 hg2 hl2 B2 b2) | (go_at_call 245; refine (HI'.out _).mono ?_; rintro e w3 ⟨rfl, rfl⟩) | (refine wpList_bld _ rfl _ _ rfl (B (List.replicate 32 0)) (by kernel_rfl) ?_) | (refine wpList_sto _ rfl _ _ _ rfl g2 _ (B (List.replicate 32 0)) rfl rfl B2 (by kernel_rfl) rfl (B_one _) ?_; intro w4 B4 g4))
  exact bodyPost_ret (v := .tuple #[.agg (B (List.replicate 32 0)), .int .i64 2]) (results_row_tmp rfl _ _ g2 _ _ _ _ rfl rfl B4 u_path (by kernel_rfl)) rfl ⟨_, rfl, rfl, below_row (grow_trans b1 b2) g4 (Nat.le_trans b1.size hg2)⟩

/-- What stands in the key while it is filled up: behind the byte i the bytes up to k are r. -/
def FilledB (xs : List Int) (i : Nat) (z r : Int) (k : Nat) (ys : List Int) : Prop := Key ys ∧ ∀ j, j < 32 → ys.getD j 0 = if j < i then xs.getD j 0 else if j = i then z else if j < k then r else xs.getD j 0

theorem fill_key {xs ys : List Int} {d : Nat} {z r b : Int} (hz : ∀ j, j < 8 → bt z j = if j < d % 8 then bt (xs.getD (d / 8) 0) j else bt r j) (hr : ∀ j, j < 8 → bt r j = b) (h : FilledB xs (d / 8) z r 32 ys) : IsFill xs d b ys := by
  refine ⟨h.1, fun j hj => ?_⟩
  have := h.2 (j / 8) (by omega)
  unfold kb
  rw [this]
  rcases Nat.lt_trichotomy (j / 8) (d / 8) with e | e | e
  · rw [if_pos e, if_pos (by omega)]
  · rw [if_neg (by omega), if_pos e, hz _ (by omega), hr _ (by omega)]
    by_cases q : j % 8 < d % 8
    · rw [if_pos q, if_pos (by omega), e]
    · rw [if_neg q, if_neg (by omega)]
  · rw [if_neg (by omega), if_neg (by omega), if_pos (by omega), if_neg (by omega), hr _ (by omega)]

theorem FilledB.step {xs ys : List Int} {i k : Nat} {z r : Int} (h : FilledB xs i z r k ys) (hk : k < 32) (hi : i < k) (hr : 0 ≤ r ∧ r ≤ 255) : FilledB xs i z r (k + 1) (ys.set k r) := by
  refine ⟨h.1.set k r hr, fun j hj => ?_⟩
  rw [key_getD_set _ _ _ _ (by rw [h.1.1]; exact hk), h.2 j hj]
  by_cases e : j = k
  · rw [if_pos e, if_neg (by omega), if_neg (by omega), if_pos (by omega)]
  · rw [if_neg e]
    by_cases q : j < i
    · rw [if_pos q, if_pos q]
    · rw [if_neg q, if_neg q]
      by_cases q2 : j = i
      · rw [if_pos q2, if_pos q2]
      · rw [if_neg q2, if_neg q2]
        by_cases q3 : j < k
        · rw [if_pos q3, if_pos (by omega)]
        · rw [if_neg q3, if_neg (by omega)]

theorem FilledB.start {xs : List Int} (hx : Key xs) {i : Nat} {z r : Int} (hi : i < 32) (hz : 0 ≤ z ∧ z ≤ 255) : FilledB xs i z r (i + 1) (xs.set i z) := by
  refine ⟨hx.set i z hz, fun j hj => ?_⟩
  rw [key_getD_set _ _ _ _ (by rw [hx.1]; exact hi)]
  by_cases e : j = i
  · rw [if_pos e, if_neg (by omega), if_pos e]
  · rw [if_neg e, if_neg e]
    by_cases q : j < i
    · rw [if_pos q]
    · rw [if_neg q, if_neg (by omega)]

theorem fill_byte (xs : List Int) (hx : Key xs) (i k : Nat) (hk : k < 8) (r : Int) (hr : 0 ≤ r ∧ r ≤ 255) : ∀ j, j < 8 → bt (bits .or .u8 (bits .andNot .u8 (xs[i]?.getD 0) (255 / 2 ^ k)) (bits .and .u8 r (255 / 2 ^ k))) j = if j < k then bt (xs.getD i 0) j else bt r j := by
  intro j hj
  have e0 : xs[i]?.getD 0 = xs.getD i 0 := by simp [List.getD]
  rw [e0]
  exact bt_fill _ _ (hx.byte i) hr k j hk hj

set_option maxHeartbeats 4000000 in
theorem fill_in (xs : List Int) (d : Nat) (r b : Int) (w : World) (hx : Key xs) (hd : d ≤ 256) (hr0 : 0 ≤ r) (hr1 : r ≤ 255) (hb : ∀ j, j < 8 → bt r j = b) : Calls Tryz.prog 246 #[.agg (B xs), .int .i64 d, .int .u8 r] w (KeyPost (IsFill xs d b) 0 w) := by
  have HX := hidden hx
  have HB := hidden hb
  have HI := isDepth_any d
  rw [decide_eq_true (by omega)] at HI
  have HI' := hidden HI
  have hs := key_size hx
  have HZ : Hid ((B xs).size = 32) := by rw [B_size]; exact hx.1
  clear HI hx hb
  by_cases hdd : d = 256
  · have HF : Hid (IsFill xs d b xs) := ⟨HX.out, fun j hj => by rw [if_pos (by omega)]⟩
    have h1 : ((d : Int) == 256) = true := by rw [hdd]; rfl
    clear hdd
    go_enter Tryz.func246, Tryz.ntmps246
    go_wp2_with (first | (refine wpList_bx _ rfl _ _ rfl _ rfl ?_; intro w1 g1 hg1 hl1 B1 b1) | (refine wpList_al _ rfl _ rfl _ zero_path ?_; intro w2 g2 hg2 hl2 B2 b2; have B1' := B1.grow b2) | (go_at_call 245; refine (HI'.out _).mono ?_; rintro e w3 ⟨rfl, rfl⟩) | (refine wpList_ld _ rfl _ _ rfl g1 _ rfl B1' _ _ u_path hs ?_) | (refine wpList_sto _ rfl _ _ _ rfl g2 _ (B xs) rfl rfl B2 hs (by rw [HZ.out, B_size]; simp) (B_one _) ?_; intro w5 B6 g5))
    exact bodyPost_ret (v := .tuple #[.agg (B xs), .int .i64 0]) (results_row_tmp rfl _ _ g2 _ _ _ _ rfl rfl B6 u_path hs) rfl ⟨_, HF.out, rfl, below_row (grow_trans b1 b2) g5 (Nat.le_trans b1.size hg2)⟩
  · have h1 : ((d : Int) == 256) = false := by rw [beq_eq_false_iff_ne]; omega
    have h2 : ((d / 8 : Nat) : Int) < 32 := by omega
    have h3 : d < 256 := by omega
    clear hdd
    have HBY := hidden (fill_byte xs HX.out (d / 8) (d % 8) (by omega) r ⟨hr0, hr1⟩)
    go_enter Tryz.func246, Tryz.ntmps246
    go_wp2_with (first | (refine wpList_bx _ rfl _ _ rfl _ rfl ?_; intro w1 g1 hg1 hl1 B1 b1) | (refine wpList_al _ rfl _ rfl _ zero_path ?_; intro w2 g2 hg2 hl2 B2 b2; have B1' := B1.grow b2; have c1 := B1'.bcell (d / 8) (by rw [HX.out.1]; omega); have f1 := B1'.frozen (d / 8)) | (go_at_call 245; refine (HI'.out _).mono ?_; rintro e w3 ⟨rfl, rfl⟩))
    go_quiet (fail)
    go_wp2_with fail
    have HF0 := hidden (fun ys h => fill_key (xs := xs) (ys := ys) (d := d) HBY.out HB.out h)
    have HZB := bits_byte .or (bits .andNot .u8 (xs[d / 8]?.getD 0) (255 / 2 ^ (d % 8))) (bits .and .u8 r (255 / 2 ^ (d % 8)))
    generalize bits .or .u8 (bits .andNot .u8 (xs[d / 8]?.getD 0) (255 / 2 ^ (d % 8))) (bits .and .u8 r (255 / 2 ^ (d % 8))) = z at *
    generalize bits .andNot .u8 (xs[d / 8]?.getD 0) (255 / 2 ^ (d % 8)) = z1 at *
    generalize bits .and .u8 r (255 / 2 ^ (d % 8)) = z2 at *
    generalize (255 : Int) / 2 ^ (d % 8) = z3 at *
    generalize xs[d / 8]?.getD 0 = z4 at *
    generalize (d : Int) % 8 = z5 at *
    have e1 : (d : Int) / 8 = ((d / 8 : Nat) : Int) := by omega
    rw [e1]
    clear e1 HBY
    have h4 : d / 8 < 32 := by omega
    generalize d / 8 = i at *
    have HS := hidden (FilledB.start (r := r) HX.out h4 HZB)
    have B4 := (show Blk (w3.drewN nq) g1 _ _ from B1').bset i z
    have B5 := (show Blk (w3.drewN nq) g2 _ _ from B2).other i (.int .u8 z) (g' := g1) (by omega)
    have c4 : Below w.heap.size w ((w3.drewN nq).setCell ⟨g1, i, none⟩ (.int .u8 z)) := setCell_below _ _ (below_drewN (grow_trans b1 b2) nq) hg1
    generalize (w3.drewN nq).setCell ⟨g1, i, none⟩ (.int .u8 z) = w4 at *
    have hg3 : w.heap.size ≤ g2 := Nat.le_trans b1.size hg2
    have hne : g2 ≠ g1 := by omega
    clear c1 f1 B1 B1' B2 b1 b2 hl1 hl2 hg2
    go_loopw [8] (fun s wr => ∃ (k : Nat) (ys : List Int), i < k ∧ k ≤ 32 ∧ s = .int .i64 k ∧ Hid (FilledB xs i z r k ys) ∧ Hid (Blk wr g1 34 (B ys)) ∧ Hid (Blk wr g2 34 (B (List.replicate 32 0))) ∧ Hid (Below w.heap.size w wr)) (fun s _ => 32 - (intOf s).toNat)
    case atStart => exact ⟨i + 1, _, by omega, by omega, by go_num, HS, B4, B5, c4⟩
    case round =>
      clear B4 B5 c4 HS
      obtain ⟨k, ys, hk1, hk2, rfl, hF, hB, hC, hb⟩ := hrel
      by_cases hk : k < 32
      · have c1 := hB.out.bcell k (by rw [hF.out.1.1]; exact hk)
        have f1 := hB.out.frozen k
        have hk' : (k : Int) < 32 := by omega
        go_wp2
        exact ⟨⟨k + 1, _, by omega, by omega, by go_num, hF.out.step hk hk1 ⟨hr0, hr1⟩, hB.out.bset k r, hC.out.other k _ hne, setCell_below _ _ hb.out hg1⟩, by simp [intOf]; omega⟩
      · obtain rfl : k = 32 := by omega
        have hs := key_size hF.out.1
        have HZ : Hid ((B ys).size = 32) := by rw [B_size]; exact hF.out.1.1
        go_wp2_with (first | (refine wpList_ld _ rfl _ _ rfl g1 _ rfl hB.out _ _ u_path hs ?_) | (refine wpList_sto _ rfl _ _ _ rfl g2 _ (B ys) rfl rfl hC.out hs (by rw [HZ.out, B_size]; simp) (B_one _) ?_; intro w5 B6 g5))
        exact bodyPost_ret (v := .tuple #[.agg (B ys), .int .i64 0]) (results_row_tmp rfl _ _ g2 _ _ _ _ rfl rfl B6 u_path hs) rfl ⟨_, HF0.out _ hF.out, rfl, below_row hb.out g5 hg3⟩

set_option maxHeartbeats 1000000 in
theorem first_of (xs : List Int) (d : Int) (w : World) (hx : Key xs) (p : List Int → Prop) (n : Int) (hp : ∀ ys, p ys → Key ys) (hc : ∀ w', Calls Tryz.prog 246 #[.agg (B xs), .int .i64 d, .int .u8 0] w' (KeyPost p n w')) : Calls Tryz.prog 214 #[.agg (B xs), .int .i64 d] w (KeyPost p n w) := by
  have hs := key_size hx
  have HC := hidden hc
  have HP := hidden hp
  clear hc hx hp
  go_enter Tryz.func214, Tryz.ntmps214
  go_wp2_with (first | (refine wpList_bx _ rfl _ _ rfl _ rfl ?_; intro w1 g1 hg1 hl1 B1 b1) | (refine wpList_al _ rfl _ rfl _ zero_path ?_; intro w2 g2 hg2 hl2 B2 b2; have B1' := B1.grow b2) | (refine wpList_ld _ rfl _ _ rfl g1 _ rfl B1' _ _ u_path hs ?_) | (go_at_call 246; refine (HC.out _).mono ?_; rintro e w3 ⟨ys, hys, rfl, b3⟩; have B2' := B2.grow b3; have HY := hidden hys; have hs2 := key_size (HP.out _ hys); have HZ : Hid ((B ys).size = 32) := (by rw [B_size]; exact (HP.out _ hys).1); clear hys) | (refine wpList_sto _ rfl _ _ _ rfl g2 _ (B ys) rfl rfl B2' hs2 (by rw [HZ.out, B_size]; simp) (B_one _) ?_; intro w5 B6 g5))
  exact bodyPost_ret (v := .tuple #[.agg (B ys), .int .i64 n]) (results_row_tmp rfl _ _ g2 _ _ _ _ rfl rfl B6 u_path hs2) rfl ⟨_, HY.out, rfl, below_row (grow_trans (grow_trans b1 b2) b3) g5 (Nat.le_trans b1.size hg2)⟩

theorem zero_all (ys : List Int) (h : ys = List.replicate 32 0) : Key ys := by rw [h]; exact key_zero

theorem first_in (xs : List Int) (d : Nat) (w : World) (hx : Key xs) (hd : d ≤ 256) : Calls Tryz.prog 214 #[.agg (B xs), .int .i64 d] w (KeyPost (IsFill xs d 0) 0 w) :=
  first_of xs d w hx _ 0 (fun _ h => h.1) fun w' => fill_in xs d 0 0 w' hx hd (by omega) (by omega) (fun j _ => bt_zero j)

theorem first_out (xs : List Int) (d : Int) (w : World) (hx : Key xs) (hd : ¬ (0 ≤ d ∧ d ≤ 256)) : Calls Tryz.prog 214 #[.agg (B xs), .int .i64 d] w (KeyPost (fun ys => ys = List.replicate 32 0) 2 w) :=
  first_of xs d w hx _ 2 zero_all fun w' => fill_out xs d 0 w' hd

end Go.Proofs.YtegegoapcdmlhaaGreatDoor

/- path.Next, as a contract. -/
namespace Go.Proofs.YtegegoapcdmlhaaGreatDoor
set_option maxRecDepth 20000
open Go.RowKit

/-- What a call leaves that tells the next key, or that there is none. -/
def NextPost (xs : List Int) (w : World) (e : Ending) (w' : World) : Prop := ∃ ys b, ((b = true ∧ IsNext xs ys) ∨ (b = false ∧ IsLast xs ∧ ys = List.replicate 32 0)) ∧ e = .returned (.tuple #[.agg (B ys), .bool b]) ∧ Below w.heap.size w w'

/-- While one is carried: all bytes from k on were 255 and are 0. -/
def Carried (xs : List Int) (k : Nat) (ys : List Int) : Prop := Key ys ∧ (∀ j, k ≤ j → j < 32 → xs.getD j 0 = 255) ∧ ∀ j, j < 32 → ys.getD j 0 = if j < k then xs.getD j 0 else 0

theorem Carried.start {xs : List Int} (hx : Key xs) : Carried xs 32 xs := ⟨hx, fun j h1 h2 => by omega, fun j hj => by rw [if_pos hj]⟩

theorem Carried.step {xs ys : List Int} {k : Nat} (h : Carried xs (k + 1) ys) (hk : k < 32) (hx : xs.getD k 0 = 255) : Carried xs k (ys.set k 0) := by
  refine ⟨h.1.set k 0 (by omega), fun j h1 h2 => ?_, fun j hj => ?_⟩
  · rcases Nat.lt_or_ge k j with e | e
    · exact h.2.1 j e h2
    · have : j = k := by omega
      subst this
      exact hx
  · rw [key_getD_set _ _ _ _ (by rw [h.1.1]; exact hk), h.2.2 j hj]
    by_cases e : j = k
    · rw [if_pos e, if_neg (by omega)]
    · rw [if_neg e]
      by_cases q : j < k
      · rw [if_pos q, if_pos (by omega)]
      · rw [if_neg q, if_neg (by omega)]

theorem Carried.last {xs ys : List Int} (h : Carried xs 0 ys) : IsLast xs := fun j hj => by
  unfold kb
  rw [h.2.1 (j / 8) (by omega) (by omega)]
  exact bt_full _ (by omega)

theorem Carried.next {xs ys : List Int} {k : Nat} (hx : Key xs) (h : Carried xs (k + 1) ys) (hk : k < 32) (hn : xs.getD k 0 ≠ 255) : IsNext xs (ys.set k (xs.getD k 0 + 1)) := by
  have hb := hx.byte k
  obtain ⟨m, hm, a1, a2, a3, a4⟩ := bt_next (xs.getD k 0) (by omega)
  have hl : k < ys.length := by rw [h.1.1]; exact hk
  have hget : ∀ j, j < 256 → kb (ys.set k (xs.getD k 0 + 1)) j = if j / 8 = k then bt (xs.getD k 0 + 1) (j % 8) else if j / 8 < k then kb xs j else 0 := by
    intro j hj
    rw [kb_set _ _ _ _ hl]
    by_cases e : j / 8 = k
    · rw [if_pos e, if_pos e]
    · rw [if_neg e, if_neg e]
      unfold kb
      rw [h.2.2 (j / 8) (by omega)]
      by_cases q : j / 8 < k
      · rw [if_pos (by omega), if_pos q]
      · rw [if_neg (by omega), if_neg q, bt_zero]
  refine ⟨h.1.set k _ (by omega), 8 * k + m, by omega, ?_, ?_, fun j hj => ?_, fun j hj hj2 => ?_⟩
  · unfold kb
    rw [show (8 * k + m) / 8 = k by omega, show (8 * k + m) % 8 = m by omega]
    exact a1
  · rw [hget _ (by omega), if_pos (by omega), show (8 * k + m) % 8 = m by omega]
    exact a2
  · rw [hget _ (by omega)]
    by_cases e : j / 8 = k
    · rw [if_pos e, a3 _ (by omega)]
      unfold kb
      rw [e]
    · rw [if_neg e, if_pos (by omega)]
  · rw [hget _ hj2]
    by_cases e : j / 8 = k
    · rw [if_pos e]
      have := a4 (j % 8) (by omega) (by omega)
      unfold kb
      rw [e]
      exact this
    · rw [if_neg e, if_neg (by omega)]
      refine ⟨?_, rfl⟩
      unfold kb
      rw [h.2.1 (j / 8) (by omega) (by omega)]
      exact bt_full _ (by omega)

end Go.Proofs.YtegegoapcdmlhaaGreatDoor

/- path's functions by what their answers are, the answer given ahead; what follows of a key's bits. -/
namespace Go.Proofs.YtegegoapcdmlhaaGreatDoor
set_option maxRecDepth 20000
open Go.RowKit

theorem common_ex (xs ys : List Int) : ∃ c, IsCommon xs ys c := by
  have key : ∀ n, n ≤ 256 → (∃ c, c < n ∧ (∀ j, j < c → kb xs j = kb ys j) ∧ kb xs c ≠ kb ys c) ∨ ∀ j, j < n → kb xs j = kb ys j := by
    intro n
    induction n with
    | zero => exact fun _ => Or.inr fun j hj => by omega
    | succ n ih =>
      intro hn
      rcases ih (by omega) with ⟨c, h1, h2⟩ | h
      · exact Or.inl ⟨c, by omega, h2⟩
      · by_cases e : kb xs n = kb ys n
        · refine Or.inr fun j hj => ?_
          rcases Nat.lt_or_ge j n with q | q
          · exact h j q
          · have : j = n := by omega
            subst this
            exact e
        · exact Or.inl ⟨n, by omega, h, e⟩
  rcases key 256 (by omega) with ⟨c, h1, h2, h3⟩ | h
  · exact ⟨c, by omega, h2, fun _ => h3⟩
  · exact ⟨256, by omega, h, fun h => by omega⟩

theorem of_at (v : Value) (xs : List Int) (w : World) (h : Reads w v xs) (hl : xs.length = 32) : Calls Tryz.prog 130 #[v] w fun e w' => e = .returned (.tuple #[.agg (B xs), .int .i64 0]) ∧ Below w.heap.size w w' := by
  refine (of_in v xs w h hl).mono ?_
  rintro e w' ⟨ys, h, rfl, b⟩
  rw [h]
  exact ⟨rfl, b⟩

theorem common_at (xs ys : List Int) (c : Nat) (w : World) (hx : Key xs) (hy : Key ys) (hc : IsCommon xs ys c) : Calls Tryz.prog 236 #[.agg (B xs), .agg (B ys)] w fun e w' => e = .returned (.int .i64 c) ∧ Below w.heap.size w w' := by
  refine (common_any xs ys w hx hy).mono ?_
  rintro e w' ⟨c', h, rfl, b⟩
  rw [h.one hc]
  exact ⟨rfl, b⟩

theorem under_at (xs ys : List Int) (d : Int) (b : Bool) (w : World) (hx : Key xs) (hy : Key ys) (hb : b = true ↔ Und xs ys d) : Calls Tryz.prog 213 #[.agg (B xs), .agg (B ys), .int .i64 d] w fun e w' => e = .returned (.bool b) ∧ Below w.heap.size w w' := by
  refine (under_any xs ys d w hx hy).mono ?_
  rintro e w' ⟨b', h, rfl, q⟩
  have : b' = b := Bool.eq_iff_iff.2 (h.trans hb.symm)
  rw [this]
  exact ⟨rfl, q⟩

/-- What Bit tells. -/
def kbi (xs : List Int) (d : Int) : Int := if 0 ≤ d ∧ d < 256 then kb xs d.toNat else -1

theorem bit_any (xs : List Int) (d : Int) (w : World) (hx : Key xs) : Calls Tryz.prog 60 #[.agg (B xs), .int .i64 d] w fun e w' => e = .returned (.int .i64 (kbi xs d)) ∧ Below w.heap.size w w' := by
  unfold kbi
  by_cases h : 0 ≤ d ∧ d < 256
  · rw [if_pos h]
    have e : d = ((d.toNat : Nat) : Int) := by omega
    have := bit_in xs d.toNat w hx (by omega)
    rw [← e] at this
    exact this
  · rw [if_neg h]
    exact bit_out _ _ rfl d w h

theorem cmp_neg {xs ys : List Int} (hx : Key xs) (hy : Key ys) : cmp xs ys = -cmp ys xs := by
  rcases cmp_key hx hy with ⟨a, e⟩ | ⟨a, e⟩ | ⟨a, e⟩ <;> rcases cmp_key hy hx with ⟨b, f⟩ | ⟨b, f⟩ | ⟨b, f⟩
  · omega
  · rw [e] at f; exact f.ne.elim
  · rw [e] at f; exact f.ne.elim
  · rw [f] at e; exact e.ne.elim
  · exact (e.not f).elim
  · omega
  · rw [f] at e; exact e.ne.elim
  · omega
  · exact (e.not f).elim

theorem cmp_self {xs : List Int} (hx : Key xs) : cmp xs xs = 0 := by
  rcases cmp_key hx hx with ⟨a, _⟩ | ⟨_, e⟩ | ⟨_, e⟩
  · exact a
  · exact e.ne.elim
  · exact e.ne.elim

theorem cmp_bit {xs ys : List Int} (hx : Key xs) (hy : Key ys) {c : Nat} (hc : IsCommon xs ys c) (h : c < 256) : cmp xs ys = 2 * kb xs c - 1 := by
  rcases hc.ahead h with ⟨a, b, d⟩ | ⟨a, b, d⟩ <;> rcases cmp_key hx hy with ⟨e, f⟩ | ⟨e, f⟩ | ⟨e, f⟩
  · rw [f] at a; exact a.ne.elim
  · omega
  · exact (a.not f).elim
  · rw [f] at a; exact a.ne.elim
  · exact (a.not f).elim
  · omega

theorem cmp_le {xs ys : List Int} (hx : Key xs) (hy : Key ys) : cmp xs ys ≤ 0 ↔ ¬ Ahead ys xs := by
  rcases cmp_key hx hy with ⟨a, e⟩ | ⟨a, e⟩ | ⟨a, e⟩
  · subst e
    exact ⟨fun _ h => h.ne, fun _ => by omega⟩
  · exact ⟨fun _ h => e.not h, fun _ => by omega⟩
  · exact ⟨fun h => by omega, fun h => absurd e h⟩
theorem cmp_lt {xs ys : List Int} (hx : Key xs) (hy : Key ys) : cmp xs ys < 0 ↔ Ahead xs ys := by
  rcases cmp_key hx hy with ⟨a, e⟩ | ⟨a, e⟩ | ⟨a, e⟩
  · subst e
    exact ⟨fun h => by omega, fun h => h.ne.elim⟩
  · exact ⟨fun _ => e, fun _ => by omega⟩
  · exact ⟨fun h => by omega, fun h => (e.not h).elim⟩

/-- The keys under a top at d are those from the first up to the last. -/
theorem und_within {xs ts fs zs : List Int} {d : Nat} (hd : d ≤ 256) (ha : IsFill ts d 0 fs) (hz : IsFill ts d 1 zs) : Und xs ts d ↔ ¬ Ahead xs fs ∧ ¬ Ahead zs xs := by
  constructor
  · rintro ⟨_, _, h⟩
    refine ⟨?_, ?_⟩
    · rintro ⟨c, hc, _, h1, h2⟩
      rw [ha.2 c hc] at h2
      by_cases q : c < d
      · rw [if_pos q, ← h c (by omega)] at h2; omega
      · rw [if_neg q] at h2; omega
    · rintro ⟨c, hc, _, h1, h2⟩
      rw [hz.2 c hc] at h1
      by_cases q : c < d
      · rw [if_pos q, ← h c (by omega)] at h1; omega
      · rw [if_neg q] at h1; omega
  · rintro ⟨h1, h2⟩
    refine ⟨by omega, by omega, ?_⟩
    obtain ⟨c, hc⟩ := common_ex xs ts
    by_cases q : d ≤ c
    · exact fun j hj => hc.2.1 j (by omega)
    · exfalso
      have hs : ∀ (b : Int) (ys : List Int), IsFill ts d b ys → ∀ j, j < d → kb ys j = kb ts j := fun b ys h j hj => by rw [h.2 j (by omega), if_pos hj]
      rcases hc.ahead (by omega) with ⟨_, a, b⟩ | ⟨_, a, b⟩
      · exact h1 ⟨c, by omega, fun j hj => by rw [hs 0 fs ha j (by omega)]; exact hc.2.1 j hj, a, by rw [hs 0 fs ha c (by omega)]; exact b⟩
      · exact h2 ⟨c, by omega, fun j hj => by rw [hs 1 zs hz j (by omega)]; exact (hc.2.1 j hj).symm, by rw [hs 1 zs hz c (by omega)]; exact b, a⟩

theorem und_fill {ts fs : List Int} {d : Nat} {b : Int} (hd : d ≤ 256) (ha : IsFill ts d b fs) : Und fs ts d := ⟨by omega, by omega, fun j hj => by rw [ha.2 j (by omega), if_pos (by omega)]⟩

theorem IsFill.whole {ts fs : List Int} {b : Int} (ht : Key ts) (ha : IsFill ts 256 b fs) : fs = ts := key_ext ha.1 ht fun j hj => by rw [ha.2 j hj, if_pos hj]

/-- The next key is behind, and none stands between. -/
theorem IsNext.behind {xs ys : List Int} (h : IsNext xs ys) : Ahead xs ys := by
  obtain ⟨_, k, hk, a, b, c, _⟩ := h
  exact ⟨k, hk, fun j hj => (c j hj).symm, a, b⟩
theorem IsNext.least {xs ys ts : List Int} (h : IsNext xs ys) (ht : Ahead xs ts) : ¬ Ahead ts ys := by
  obtain ⟨_, k, hk, x0, y1, same, rest⟩ := h
  obtain ⟨c, hc, c1, c2, c3⟩ := ht
  rintro ⟨e, he, e1, e2, e3⟩
  have hck : c ≤ k := by
    rcases Nat.lt_or_ge k c with q | q
    · have := rest c q hc; omega
    · exact q
  rcases Nat.lt_trichotomy e c with q | q | q
  · have h1 := c1 e q
    have h2 := same e (by omega)
    omega
  · subst q; omega
  · have h1 := e1 c q
    rcases Nat.lt_or_ge c k with p | p
    · have h2 := same c p; omega
    · have : c = k := by omega
      subst this
      have := rest e q he
      omega
theorem IsLast.none {xs ts : List Int} (h : IsLast xs) : ¬ Ahead xs ts := by
  rintro ⟨c, hc, _, c2, _⟩
  have := h c hc
  omega

theorem IsFlip.twice {xs ys zs : List Int} {d : Nat} (hx : Key xs) (h : IsFlip xs d ys) (k : IsFlip ys d zs) : zs = xs := key_ext k.1 hx fun j hj => by
  rw [k.2 j hj, h.2 j hj]
  by_cases e : j = d
  · rw [if_pos e, if_pos e]; omega
  · rw [if_neg e, if_neg e]
theorem IsFlip.common {xs ys : List Int} {d : Nat} (hd : d < 256) (h : IsFlip xs d ys) : IsCommon ys xs d := by
  refine ⟨by omega, fun j hj => by rw [h.2 j (by omega), if_neg (by omega)], fun _ e => ?_⟩
  rw [h.2 d hd, if_pos rfl] at e
  have := kb_two xs d
  omega
theorem IsFlip.unlike {xs ys : List Int} {d : Nat} (hd : d < 256) (h : IsFlip xs d ys) : ys ≠ xs := by
  rintro rfl
  exact (h.common hd).2.2 hd rfl

end Go.Proofs.YtegegoapcdmlhaaGreatDoor
