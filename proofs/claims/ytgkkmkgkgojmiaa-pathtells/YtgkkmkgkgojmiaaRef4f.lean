/- The document's Filled and Next (rootcellarref04), as contracts. -/
import Derived.Test.YtgkkmkgkgojmiaaRef4e
namespace Go.Proofs.Ytgkkmkgkgojmiaa
open Go.RowKit

set_option maxHeartbeats 1000000 in
theorem rfilled_out (xs : List Int) (d b : Int) (w : World) (hd : ¬ (0 ≤ d ∧ d ≤ 256)) : Calls Try.prog 25 #[.agg (B xs), .int .i64 d, .int .i64 b] w (KeyPost (fun ys => ys = List.replicate 32 0) 2 w) := by
  have hs := b32_size key_zero
  by_cases h0 : d < 0
  · have t0 : decide (d < 0) = true := decide_eq_true h0
    clear hd h0
    go_enter Try.func25, Try.ntmps25
    go_wp2_with (first | (refine wpList_bx _ rfl _ _ rfl _ rfl ?_; intro w1 g1 hg1 hl1 B1 b1) | (refine wpList_al _ rfl _ rfl _ zero_b32 ?_; intro w2 g2 hg2 hl2 B2 b2) | (refine wpList_bld _ rfl _ _ rfl (B (List.replicate 32 0)) (by kernel_rfl) ?_) | (refine wpList_sto _ rfl _ _ _ rfl g2 _ (B (List.replicate 32 0)) rfl rfl B2 hs rfl (B_one _) ?_; intro w4 B4 g4))
    exact bodyPost_ret (v := .tuple #[.agg (B (List.replicate 32 0)), .int .i64 2]) (results_row_tmp rfl _ _ g2 _ _ _ _ rfl rfl B4 u_b32 hs) rfl ⟨_, rfl, rfl, below_row (grow_trans b1 b2) g4 (Nat.le_trans b1.size hg2)⟩
  · have t0 : decide (d < 0) = false := decide_eq_false h0
    have t1 : decide (256 < d) = true := decide_eq_true (by omega)
    clear hd h0
    go_enter Try.func25, Try.ntmps25
    go_wp2_with (first | (refine wpList_bx _ rfl _ _ rfl _ rfl ?_; intro w1 g1 hg1 hl1 B1 b1) | (refine wpList_al _ rfl _ rfl _ zero_b32 ?_; intro w2 g2 hg2 hl2 B2 b2) | (refine wpList_bld _ rfl _ _ rfl (B (List.replicate 32 0)) (by kernel_rfl) ?_) | (refine wpList_sto _ rfl _ _ _ rfl g2 _ (B (List.replicate 32 0)) rfl rfl B2 hs rfl (B_one _) ?_; intro w4 B4 g4))
    exact bodyPost_ret (v := .tuple #[.agg (B (List.replicate 32 0)), .int .i64 2]) (results_row_tmp rfl _ _ g2 _ _ _ _ rfl rfl B4 u_b32 hs) rfl ⟨_, rfl, rfl, below_row (grow_trans b1 b2) g4 (Nat.le_trans b1.size hg2)⟩

/-- From the bit d up to k the bits are as said. -/
def Part (xs : List Int) (d : Nat) (b : Int) (k : Nat) (ys : List Int) : Prop := Key ys ∧ ∀ j, j < 256 → kb ys j = if d ≤ j ∧ j < k then b else kb xs j
theorem Part.start {xs : List Int} (hx : Key xs) (d : Nat) (b : Int) : Part xs d b d xs := ⟨hx, fun j _ => by rw [if_neg (by omega)]⟩
theorem Part.step {xs ys zs : List Int} {d k : Nat} {b : Int} (h : Part xs d b k ys) (hs : IsSet ys k b zs) (hk : d ≤ k) : Part xs d b (k + 1) zs := by
  refine ⟨hs.1, fun j hj => ?_⟩
  rw [hs.2 j hj, h.2 j hj]
  by_cases e : j = k
  · rw [if_pos e, if_pos (by omega)]
  · rw [if_neg e]
    by_cases q : d ≤ j ∧ j < k
    · rw [if_pos q, if_pos (by omega)]
    · rw [if_neg q, if_neg (by omega)]
theorem Part.fill {xs ys : List Int} {d : Nat} {b : Int} (h : Part xs d b 256 ys) : IsFill xs d b ys := by
  refine ⟨h.1, fun j hj => ?_⟩
  rw [h.2 j hj]
  by_cases q : j < d
  · rw [if_pos q, if_neg (by omega)]
  · rw [if_neg q, if_pos (by omega)]

set_option maxHeartbeats 4000000 in
theorem rfilled_in (xs : List Int) (d : Nat) (b : Int) (w : World) (hx : Key xs) (hd : d ≤ 256) (hb : b = 0 ∨ b = 1) : Calls Try.prog 25 #[.agg (B xs), .int .i64 d, .int .i64 b] w (KeyPost (IsFill xs d b) 0 w) := by
  have t0 : decide ((d : Int) < 0) = false := decide_eq_false (by omega)
  have t1 : decide ((256 : Int) < (d : Int)) = false := decide_eq_false (by omega)
  have HX := hidden hx
  have HBB := hidden hb
  clear hx hb
  go_enter Try.func25, Try.ntmps25
  go_wp2_with (first | (refine wpList_bx _ rfl _ _ rfl _ rfl ?_; intro w1 g1 hg1 hl1 B1 b1) | (refine wpList_al _ rfl _ rfl _ zero_b32 ?_; intro w2 g2 hg2 hl2 B2 b2; have B1' := B1.grow b2))
  have c2 := grow_trans b1 b2
  have hg3 : w.heap.size ≤ g2 := Nat.le_trans b1.size hg2
  have hne : g2 ≠ g1 := by omega
  have HB1 := hidden B1'
  have HB2 := hidden B2
  have HS := hidden (Part.start HX.out d b)
  clear B1 B1' B2 b1 b2 hl1 hl2 hg2
  go_loopw [8] (fun s wr => ∃ (k : Nat) (ys : List Int), d ≤ k ∧ k ≤ 256 ∧ s = .int .i64 k ∧ Hid (Part xs d b k ys) ∧ Hid (Blk wr g1 23 (B ys)) ∧ Hid (Blk wr g2 23 (B (List.replicate 32 0))) ∧ Hid (Below w.heap.size w wr)) (fun s _ => 256 - (intOf s).toNat)
  case atStart => exact ⟨d, xs, by omega, hd, rfl, HS, HB1, HB2, c2⟩
  case round =>
    clear HB1 HB2 c2 HS
    obtain ⟨k, ys, hk1, hk2, rfl, hF, hB, hC, hb⟩ := hrel
    have hs := b32_size hF.out.1
    by_cases hk : k < 256
    · have hk' : (k : Int) < 256 := by omega
      go_wp2_with (first | (refine wpList_ld _ rfl _ _ rfl g1 _ rfl hB.out _ _ u_b32 hs ?_) | (go_at_call 35; refine (rset_in ys k b _ hF.out.1 hk HBB.out).mono ?_; rintro e w4 ⟨zs, hzs, rfl, b4⟩; have hs2 := b32_size hzs.1; have HZ : Hid ((B zs).size = (B ys).size) := (by rw [B_size, B_size, hzs.1.1, hF.out.1.1]; rfl); have HY := hidden (hF.out.step hzs hk1); clear hzs; have B4 := hB.out.grow b4) | (refine wpList_sto _ rfl _ _ _ rfl g1 _ (B zs) rfl rfl B4 hs2 (by rw [HZ.out]) (B_one _) ?_; intro w5 B6 g5))
      exact ⟨⟨k + 1, zs, by omega, by omega, by go_num, HY, B6, (hC.out.grow b4).kept g5 hne, below_row (grow_trans hb.out b4) g5 hg1⟩, by simp [intOf]; omega⟩
    · obtain rfl : k = 256 := by omega
      have HZ : Hid ((B ys).size = 32) := by rw [B_size]; exact hF.out.1.1
      go_wp2_with (first | (refine wpList_ld _ rfl _ _ rfl g1 _ rfl hB.out _ _ u_b32 hs ?_) | (refine wpList_sto _ rfl _ _ _ rfl g2 _ (B ys) rfl rfl hC.out hs (by rw [HZ.out, B_size]; simp) (B_one _) ?_; intro w5 B6 g5))
      exact bodyPost_ret (v := .tuple #[.agg (B ys), .int .i64 0]) (results_row_tmp rfl _ _ g2 _ _ _ _ rfl rfl B6 u_b32 hs) rfl ⟨_, hF.out.fill, rfl, below_row hb.out g5 hg3⟩

theorem next_of {xs us zs : List Int} {m : Nat} (hm : m < 256) (h0 : kb xs m = 0) (hr : ∀ j, m + 1 ≤ j → j < 256 → kb xs j = 1) (hu : IsSet xs m 1 us) (hz : IsFill us (m + 1) 0 zs) : IsNext xs zs := by
  have h : ∀ j, j < 256 → kb zs j = if j < m then kb xs j else if j = m then 1 else 0 := by
    intro j hj
    rw [hz.2 j hj]
    by_cases q : j < m
    · rw [if_pos (by omega), if_pos q, hu.2 j hj, if_neg (by omega)]
    · by_cases q2 : j = m
      · rw [if_pos (by omega), if_neg q, if_pos q2, hu.2 j hj, if_pos q2]
      · rw [if_neg (by omega), if_neg q, if_neg q2]
  refine ⟨hz.1, m, hm, h0, ?_, fun j hj => ?_, fun j hj hj2 => ⟨hr j hj hj2, ?_⟩⟩
  · rw [h m hm, if_neg (by omega), if_pos rfl]
  · rw [h j (by omega), if_pos hj]
  · rw [h j hj2, if_neg (by omega), if_neg (by omega)]

set_option maxHeartbeats 4000000 in
theorem rnext_any (xs : List Int) (w : World) (hx : Key xs) : Calls Try.prog 28 #[.agg (B xs)] w (NextPost xs w) := by
  have HX := hidden hx
  have hs := b32_size hx
  clear hx
  go_enter Try.func28, Try.ntmps28
  go_wp2_with (first | (refine wpList_bx _ rfl _ _ rfl _ rfl ?_; intro w1 g1 hg1 hl1 B1 b1) | (refine wpList_al _ rfl _ rfl _ zero_b32 ?_; intro w2 g2 hg2 hl2 B2 b2; have B1' := B1.grow b2))
  have hg3 : w.heap.size ≤ g2 := Nat.le_trans b1.size hg2
  have c2 := grow_trans b1 b2
  have HB : Hid (∀ w', Below w2.heap.size w2 w' → Blk w' g1 23 (B xs) ∧ Blk w' g2 23 (B (List.replicate 32 0))) := fun w' hw' => ⟨B1'.grow hw', B2.grow hw'⟩
  have hg4 : g2 < w2.heap.size := hl2
  clear B1 B1' B2 b1 b2 hl1 hl2 hg2 hg1
  go_loopw [4] (fun s wr => ∃ (i : Int) (k : Nat), s = .int .i64 i ∧ i + 1 = k ∧ k ≤ 256 ∧ Hid (∀ j, k ≤ j → j < 256 → kb xs j = 1) ∧ Hid (Below w2.heap.size w2 wr)) (fun s _ => (intOf s + 1).toNat)
  case atStart => exact ⟨255, 256, rfl, by omega, by omega, fun j h1 h2 => by omega, Below.refl _ _⟩
  case round =>
    obtain ⟨i, k, rfl, hik, hk, hF, hb⟩ := hrel
    obtain ⟨wz, rfl⟩ : ∃ x, x = wr := ⟨_, rfl⟩
    have hB := (HB.out _ hb.out).1
    have hC := (HB.out _ hb.out).2
    cases k with
    | zero =>
      obtain rfl : i = -1 := by omega
      have hs0 := b32_size key_zero
      go_wp2_with (first | (refine wpList_bld _ rfl _ _ rfl (B (List.replicate 32 0)) (by kernel_rfl) ?_) | (refine wpList_sto _ rfl _ _ _ rfl g2 _ (B (List.replicate 32 0)) rfl rfl hC hs0 rfl (B_one _) ?_; intro w4 B4 g4))
      exact bodyPost_ret (v := .tuple #[.agg (B (List.replicate 32 0)), .bool false]) (results_row_tmp rfl _ _ g2 _ _ _ _ rfl rfl B4 u_b32 hs0) rfl ⟨_, false, Or.inr ⟨rfl, fun j hj => hF.out j (by omega) hj, rfl⟩, rfl, below_row (grow_trans c2 hb.out) g4 hg3⟩
    | succ k =>
      obtain rfl : i = (k : Int) := by omega
      have hk2 : k < 256 := by omega
      have hk' : (k : Int) < 256 := by omega
      obtain ⟨x, hx⟩ : ∃ x, x = kb xs k := ⟨_, rfl⟩
      have hx2 : x = 0 ∨ x = 1 := by rw [hx]; exact kb_two xs k
      have cB : Hid (∀ w', Calls Try.prog 15 #[.agg (B xs), .int .i64 k] w' fun e w'' => e = .returned (.int .i64 x) ∧ Below w'.heap.size w' w'') := by
        intro w'
        rw [hx]
        exact rbit_in xs k w' HX.out hk2
      have HK := hidden hx
      clear hx
      rcases hx2 with rfl | rfl
      · have e1 : ((k + 1 : Nat) : Int) = (k : Int) + 1 := by omega
        have cF : Hid (∀ us w', Key us → Calls Try.prog 25 #[.agg (B us), .int .i64 ((k : Int) + 1), .int .i64 0] w' (KeyPost (IsFill us (k + 1) 0) 0 w')) := by
          intro us w' hu
          have := rfilled_in us (k + 1) 0 w' hu (by omega) (Or.inl rfl)
          rw [e1] at this
          exact this
        clear e1 hik
        go_wp2_with (first
          | (have hx := b3; clear hx; refine wpList_ld _ rfl _ _ rfl g1 _ rfl B3 _ _ u_b32 hs ?_)
          | (refine wpList_ld _ rfl _ _ rfl g1 _ rfl hB _ _ u_b32 hs ?_)
          | (go_at_call 15; refine (cB.out _).mono ?_; rintro e w3 ⟨rfl, b3⟩; have B3 := hB.grow b3)
          | (go_at_call 35; refine (rset_in xs k 1 _ HX.out hk2 (Or.inr rfl)).mono ?_; rintro e w4 ⟨us, hus, rfl, b4⟩; have HU := hidden hus; clear hus)
          | (go_at_call 25; refine (cF.out us _ HU.out.1).mono ?_; rintro e w5 ⟨zs, hzs, rfl, b5⟩; have hs2 := b32_size hzs.1; have HZ : Hid ((B zs).size = 32) := (by rw [B_size]; exact hzs.1.1); have HN := hidden (next_of hk2 HK.out.symm hF.out HU.out hzs); clear hzs)
          | (refine wpList_al _ rfl _ rfl _ zero_b32 ?_; intro w6 g6 hg6 hl6 B6 b6)
          | (refine wpList_sto _ rfl _ _ _ rfl g6 _ (B zs) rfl rfl B6 hs2 (by rw [HZ.out, B_size]; simp) (B_one _) ?_; intro w7 B7 g7)
          | (refine wpList_ld _ rfl _ _ rfl g6 _ rfl B7 _ _ u_b32 hs2 ?_)
          | (have hz := b6; clear hz; have bz := grow_trans (grow_trans (grow_trans b3 b4) b5) b6; have hne : g2 ≠ g6 := (by have h1 := hb.out.size; have h2 := b3.size; have h3 := b4.size; have h4 := b5.size; omega); refine wpList_sto _ rfl _ _ _ rfl g2 _ (B zs) rfl rfl ((hC.grow bz).kept g7 hne) hs2 (by rw [HZ.out, B_size]; simp) (B_one _) ?_; intro w8 B8 g8))
        have c7 := grow_trans (grow_trans c2 hb.out) bz
        have hg9 : w.heap.size ≤ g6 := by
          have h0 := (grow_trans c2 hb.out).size
          have h2 := b3.size
          have h3 := b4.size
          have h4 := b5.size
          omega
        exact bodyPost_ret (v := .tuple #[.agg (B zs), .bool true]) (results_row_tmp rfl _ _ g2 _ _ _ _ rfl rfl B8 u_b32 hs2) rfl ⟨_, true, Or.inl ⟨rfl, HN.out⟩, rfl, below_row (below_row c7 g7 hg9) g8 hg3⟩
      · have HK1 : Hid (∀ j, k ≤ j → j < 256 → kb xs j = 1) := fun j h1 h2 => by
          rcases Nat.lt_or_ge k j with e | e
          · exact hF.out j e h2
          · have : j = k := by omega
            subst this
            exact HK.out.symm
        clear hik
        go_wp2_with (first | (refine wpList_ld _ rfl _ _ rfl g1 _ rfl hB _ _ u_b32 hs ?_) | (go_at_call 15; refine (cB.out _).mono ?_; rintro e w3 ⟨rfl, b3⟩))
        exact ⟨⟨(k : Int) - 1, k, by go_num, by omega, by omega, HK1, grow_trans hb.out b3⟩, by simp [intOf]⟩

end Go.Proofs.Ytgkkmkgkgojmiaa
