/- path.Next, as a contract. -/
import Derived.Test.YtgkkmkgkgojmiaaPath4
namespace Go.Proofs.Ytgkkmkgkgojmiaa
open Go.RowKit

/-- What a call leaves that tells the next key, or that there is none. -/
def NextPost (xs : List Int) (w : World) (e : Ending) (w' : World) : Prop := ∃ ys b, ((b = true ∧ IsNext xs ys) ∨ (b = false ∧ IsLast xs ∧ ys = List.replicate 32 0)) ∧ e = .returned (.tuple #[.agg (B ys), .bool b]) ∧ Below w.heap.size w w'

/-- While one is carried: all bytes from k on were 255 and are 0. -/
def Carried (xs : List Int) (k : Nat) (ys : List Int) : Prop := Key ys ∧ (∀ j, k ≤ j → j < 32 → xs.getD j 0 = 255) ∧ ∀ j, j < 32 → ys.getD j 0 = if j < k then xs.getD j 0 else 0

theorem Carried.start {xs : List Int} (hx : Key xs) : Carried xs 32 xs := ⟨hx, fun j h1 h2 => by omega, fun j hj => by rw [if_pos hj]⟩

theorem Carried.step {xs ys : List Int} {k : Nat} (h : Carried xs (k + 1) ys) (hk : k < 32) (hx : xs.getD k 0 = 255) : Carried xs k (ys.set k 0) := by
  refine ⟨h.1.set k 0 (by omega), fun j h1 h2 => ?_, fun j hj => ?_⟩
  · rcases Nat.lt_or_ge k j with e | e
    · exact h.2.1 j e h2
    · have : j = k := by omega
      subst this
      exact hx
  · rw [key_getD_set _ _ _ _ (by rw [h.1.1]; exact hk), h.2.2 j hj]
    by_cases e : j = k
    · rw [if_pos e, if_neg (by omega)]
    · rw [if_neg e]
      by_cases q : j < k
      · rw [if_pos q, if_pos (by omega)]
      · rw [if_neg q, if_neg (by omega)]

theorem Carried.last {xs ys : List Int} (h : Carried xs 0 ys) : IsLast xs := fun j hj => by
  unfold kb
  rw [h.2.1 (j / 8) (by omega) (by omega)]
  exact bt_full _ (by omega)

theorem Carried.next {xs ys : List Int} {k : Nat} (hx : Key xs) (h : Carried xs (k + 1) ys) (hk : k < 32) (hn : xs.getD k 0 ≠ 255) : IsNext xs (ys.set k (xs.getD k 0 + 1)) := by
  have hb := hx.byte k
  obtain ⟨m, hm, a1, a2, a3, a4⟩ := bt_next (xs.getD k 0) (by omega)
  have hl : k < ys.length := by rw [h.1.1]; exact hk
  have hget : ∀ j, j < 256 → kb (ys.set k (xs.getD k 0 + 1)) j = if j / 8 = k then bt (xs.getD k 0 + 1) (j % 8) else if j / 8 < k then kb xs j else 0 := by
    intro j hj
    rw [kb_set _ _ _ _ hl]
    by_cases e : j / 8 = k
    · rw [if_pos e, if_pos e]
    · rw [if_neg e, if_neg e]
      unfold kb
      rw [h.2.2 (j / 8) (by omega)]
      by_cases q : j / 8 < k
      · rw [if_pos (by omega), if_pos q]
      · rw [if_neg (by omega), if_neg q, bt_zero]
  refine ⟨h.1.set k _ (by omega), 8 * k + m, by omega, ?_, ?_, fun j hj => ?_, fun j hj hj2 => ?_⟩
  · unfold kb
    rw [show (8 * k + m) / 8 = k by omega, show (8 * k + m) % 8 = m by omega]
    exact a1
  · rw [hget _ (by omega), if_pos (by omega), show (8 * k + m) % 8 = m by omega]
    exact a2
  · rw [hget _ (by omega)]
    by_cases e : j / 8 = k
    · rw [if_pos e, a3 _ (by omega)]
      unfold kb
      rw [e]
    · rw [if_neg e, if_pos (by omega)]
  · rw [hget _ hj2]
    by_cases e : j / 8 = k
    · rw [if_pos e]
      have := a4 (j % 8) (by omega) (by omega)
      unfold kb
      rw [e]
      exact this
    · rw [if_neg e, if_neg (by omega)]
      refine ⟨?_, rfl⟩
      unfold kb
      rw [h.2.1 (j / 8) (by omega) (by omega)]
      exact bt_full _ (by omega)

set_option maxHeartbeats 2000000 in
theorem next_any (xs : List Int) (w : World) (hx : Key xs) : Calls Try.prog 27 #[.agg (B xs)] w (NextPost xs w) := by
  have HX := hidden hx
  clear hx
  go_enter Try.func27, Try.ntmps27
  go_wp2_with (first | (refine wpList_bx _ rfl _ _ rfl _ rfl ?_; intro w1 g1 hg1 hl1 B1 b1) | (refine wpList_al _ rfl _ rfl _ zero_path ?_; intro w2 g2 hg2 hl2 B2 b2; have B1' := B1.grow b2))
  have hg3 : w.heap.size ≤ g2 := Nat.le_trans b1.size hg2
  have hne : g2 ≠ g1 := by omega
  have c2 := grow_trans b1 b2
  have HS := hidden (Carried.start HX.out)
  have HB1 := hidden B1'
  have HB2 := hidden B2
  clear B1 B1' B2 b1 b2 hl1 hl2 hg2
  go_loopw [4] (fun s wr => ∃ (i : Int) (k : Nat) (ys : List Int), s = .int .i64 i ∧ i + 1 = k ∧ k ≤ 32 ∧ Hid (Carried xs k ys) ∧ Hid (Blk wr g1 24 (B ys)) ∧ Hid (Blk wr g2 24 (B (List.replicate 32 0))) ∧ Hid (Below w.heap.size w wr)) (fun s _ => (intOf s + 1).toNat)
  case atStart => exact ⟨31, 32, xs, rfl, by omega, by omega, HS, HB1, HB2, c2⟩
  case round =>
    clear HS HB1 HB2 c2
    obtain ⟨i, k, ys, rfl, hik, hk, hF, hB, hC, hb⟩ := hrel
    cases k with
    | zero =>
      obtain rfl : i = -1 := by omega
      go_wp2_with (first | (refine wpList_bld _ rfl _ _ rfl (B (List.replicate 32 0)) (by kernel_rfl) ?_) | (refine wpList_sto _ rfl _ _ _ rfl g2 _ (B (List.replicate 32 0)) rfl rfl hC.out (by kernel_rfl) rfl (B_one _) ?_; intro w4 B4 g4))
      exact bodyPost_ret (v := .tuple #[.agg (B (List.replicate 32 0)), .bool false]) (results_row_tmp rfl _ _ g2 _ _ _ _ rfl rfl B4 u_path (by kernel_rfl)) rfl ⟨_, false, Or.inr ⟨rfl, hF.out.last, rfl⟩, rfl, below_row hb.out g4 hg3⟩
    | succ k =>
      obtain rfl : i = (k : Int) := by omega
      have hk2 : k < 32 := by omega
      have c1 := hB.out.bcell k (by rw [hF.out.1.1]; exact hk2)
      have f1 := hB.out.frozen k
      have hk' : (k : Int) < 32 := by omega
      have e1 : ys.getD k 0 = xs.getD k 0 := by rw [hF.out.2.2 k hk2, if_pos (by omega)]
      have hby := HX.out.byte k
      rw [e1] at c1
      clear e1
      by_cases hx : xs.getD k 0 = 255
      · have HST := hidden (hF.out.step hk2 hx)
        rw [hx] at c1
        clear hx
        go_wp2
        exact ⟨⟨(k : Int) - 1, k, _, by go_num, by omega, by omega, HST, hB.out.bset k 0, hC.out.other k _ hne, setCell_below _ _ hb.out hg1⟩, by simp [intOf]⟩
      · have HN := hidden (hF.out.next HX.out hk2 hx)
        generalize xs.getD k 0 = x at *
        have e2 : (x + 1) % 256 = x + 1 := by omega
        have e3 : (x + 1 != 0) = true := by rw [bne_iff_ne]; omega
        have hs := key_size HN.out.1
        have HZ : Hid ((B (ys.set k (x + 1))).size = 32) := by rw [B_size]; exact HN.out.1.1
        go_wp2_with (first | (refine wpList_ld _ rfl _ _ rfl g1 _ rfl (hB.out.bset k (x + 1)) _ _ u_path hs ?_) | (refine wpList_sto _ rfl _ _ _ rfl g2 _ (B (ys.set k (x + 1))) rfl rfl (hC.out.other k (.int .u8 (x + 1)) hne) hs (by rw [HZ.out, B_size]; simp) (B_one _) ?_; intro w4 B4 g4))
        exact bodyPost_ret (v := .tuple #[.agg (B (ys.set k (x + 1))), .bool true]) (results_row_tmp rfl _ _ g2 _ _ _ _ rfl rfl B4 u_path hs) rfl ⟨_, true, Or.inl ⟨rfl, HN.out⟩, rfl, below_row (setCell_below _ _ hb.out hg1) g4 hg3⟩
end Go.Proofs.Ytgkkmkgkgojmiaa
