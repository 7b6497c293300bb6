/- The document's digests (rootcellarref03), and Entry of both, as contracts. -/
import Derived.Test.YtjcklpdifanjlaaDoorTagOf
import Derived.Test.YtjcklpdifanjlaaDoorRefSum
import Derived.Laws.ResultCell
namespace Go.Proofs.YtjcklpdifanjlaaDoor
set_option maxRecDepth 20000
open Go.RowKit

set_option maxHeartbeats 1000000 in
theorem refOf_any (t : Int) (v : Value) (ps : List (List Int)) (w : World) (h0 : 0 ≤ t) (h1 : t ≤ 255) (h : Parts w v ps) (hl : 1 + ps.flatten.length ≤ 140737488355328 - 4096) :
    Calls Tryd.prog 83 #[.int .u8 t, v] w (DigPost (t :: ps.flatten) w) := by
  have HT : Hid (∀ w', Below w.heap.size w w' → Calls Tryd.prog 72 #[.int .u8 t, v] w' (JoinPost (t :: ps.flatten) w')) := by
    intro w' hw'
    obtain ⟨a, cap, V, rfl, q1, q2, q3, q4⟩ := h
    refine refText_any t _ ps w' h0 h1 ⟨a, cap, V, rfl, q1, q2, fun hp => ?_, fun i hi => (q4 i hi).grow hw'⟩ (by omega)
    obtain ⟨b, off, e, hc⟩ := q3 hp
    exact ⟨b, off, e, fun i hi => (hw'.cell (p := ⟨b, off + i, none⟩) (block_lt_of_cell (hc i hi))).trans (hc i hi)⟩
  obtain ⟨D, hD⟩ : ∃ D, D = dig (t :: ps.flatten) := ⟨_, rfl⟩
  have HD := hidden hD
  have HSZ : Hid ((B D).size = 32) := by rw [B_size, hD]; exact dig_length _
  have HS : Hid (∀ u w', Reads w' u (t :: ps.flatten) → Calls Tryd.prog 40 #[u] w' fun e w'' => e = .returned (.agg (B D)) ∧ Below w'.heap.size w' w'') := by
    intro u w' hu
    rw [hD]
    exact refSum_any u _ w' hu (by rw [List.length_cons]; omega)
  clear h hD hl
  go_enter Tryd.func83, Tryd.ntmps83
  go_wp2_with (first | (refine wpList_al _ rfl _ rfl _ zero_b32 ?_; intro w1 g1 hg1 hl1 B1 b1) | (go_at_call 72; refine (HT.out w1 b1).mono ?_; rintro e w2 ⟨u, sp, rfl, hO, b2⟩; have hR := hO.reads; clear hO) | (go_at_call 40; refine (HS.out u w2 hR).mono ?_; rintro e w3 ⟨rfl, b3⟩; have B3 := (B1.grow b2).grow b3) | (refine wpList_sto _ rfl _ _ _ rfl g1 _ _ rfl rfl B3 (by rw [HSZ.out]; exact size_b32) (by rw [HSZ.out, B_size]; simp) (B_one _) ?_; intro w4 B4 g4))
  exact bodyPost_ret (v := .agg (B D)) (results_cell_row rfl _ _ g1 _ _ _ _ rfl B4 Tryd.underlying23 rfl (by rw [HSZ.out]; exact size_b32)) rfl ⟨by rw [HD.out], below_row (grow_trans (grow_trans b1 b2) b3) g4 hg1⟩

set_option maxHeartbeats 1000000 in
theorem refEmpty_any (w : World) : Calls Tryd.prog 73 #[] w (DigPost [0] w) := by
  obtain ⟨D, hD⟩ : ∃ D, D = dig [0] := ⟨_, rfl⟩
  have HD := hidden hD
  have HSZ : Hid ((B D).size = 32) := by rw [B_size, hD]; exact dig_length _
  have H : Hid (∀ w', Calls Tryd.prog 83 #[.int .u8 0, .slice none 0 0] w' fun e w'' => e = .returned (.agg (B D)) ∧ Below w'.heap.size w' w'') := by
    intro w'
    rw [hD]
    exact refOf_any 0 _ [] w' (by omega) (by omega) (parts_nil w') (by simp)
  clear hD
  go_enter Tryd.func73, Tryd.ntmps73
  go_wp2_with (first | (refine wpList_al _ rfl _ rfl _ zero_b32 ?_; intro w1 g1 hg1 hl1 B1 b1) | (go_at_call 83; refine (H.out _).mono ?_; rintro e w2 ⟨rfl, b2⟩; have B2 := B1.grow b2) | (refine wpList_sto _ rfl _ _ _ rfl g1 _ _ rfl rfl B2 (by rw [HSZ.out]; exact size_b32) (by rw [HSZ.out, B_size]; simp) (B_one _) ?_; intro w3 B3 g3))
  exact bodyPost_ret (v := .agg (B D)) (results_cell_row rfl _ _ g1 _ _ _ _ rfl B3 Tryd.underlying23 rfl (by rw [HSZ.out]; exact size_b32)) rfl ⟨by rw [HD.out], below_row (grow_trans b1 b2) g3 hg1⟩

set_option maxHeartbeats 1000000 in
theorem refValue_any (v : Value) (zs : List Int) (w : World) (h : Reads w v zs) (hl : zs.length < 140737488355328 - 4096) : Calls Tryd.prog 59 #[v] w (DigPost (3 :: zs) w) := by
  obtain ⟨D, hD⟩ : ∃ D, D = dig (3 :: zs) := ⟨_, rfl⟩
  have HD := hidden hD
  have HSZ : Hid ((B D).size = 32) := by rw [B_size, hD]; exact dig_length _
  have H : Hid (∀ w', Below w.heap.size w w' → Calls Tryd.prog 83 #[.int .u8 3, .slice (some ⟨w'.heap.size, 0, none⟩) 1 1] (w'.alloc (.cells #[v] 28)) fun e w'' => e = .returned (.agg (B D)) ∧ Below w'.heap.size w' w'') := by
    intro w' hb
    have h1 := refOf_any 3 _ [zs] _ (by omega) (by omega) (parts_one w' v zs (h.grow hb)) (by simp; omega)
    rw [show [zs].flatten = zs by simp] at h1
    rw [hD]
    exact h1.mono fun e w'' ⟨h2, h3⟩ => ⟨h2, grow_trans (grow_alloc _ _) h3⟩
  obtain ⟨va, vc, rfl, _, _, _, _⟩ := h
  clear hD
  go_enter Tryd.func59, Tryd.ntmps59
  go_wp2_with (first | (refine wpList_al _ rfl _ rfl _ zero_b32 ?_; intro w1 g1 hg1 hl1 B1 b1) | (go_at_call 83; refine (H.out w1 b1).mono ?_; rintro e w2 ⟨rfl, b2⟩; have B2 := B1.grow b2) | (refine wpList_sto _ rfl _ _ _ rfl g1 _ _ rfl rfl B2 (by rw [HSZ.out]; exact size_b32) (by rw [HSZ.out, B_size]; simp) (B_one _) ?_; intro w3 B3 g3))
  exact bodyPost_ret (v := .agg (B D)) (results_cell_row rfl _ _ g1 _ _ _ _ rfl B3 Tryd.underlying23 rfl (by rw [HSZ.out]; exact size_b32)) rfl ⟨by rw [HD.out], below_row (grow_trans b1 b2) g3 hg1⟩

set_option maxHeartbeats 2000000 in
theorem refLeaf_any (K A : List Int) (w : World) (hk : K.length = 32) (ha : A.length = 32) (bk : Bytes K) (ba : Bytes A) : Calls Tryd.prog 74 #[.agg (B K), .agg (B A)] w (DigPost (1 :: (K ++ A)) w) := by
  obtain ⟨D, hD⟩ : ∃ D, D = dig (1 :: (K ++ A)) := ⟨_, rfl⟩
  have HD := hidden hD
  have HSZ : Hid ((B D).size = 32) := by rw [B_size, hD]; exact dig_length _
  have HKZ : Hid ((B K).size = 32) := by rw [B_size]; exact hk
  have HAZ : Hid ((B A).size = 32) := by rw [B_size]; exact ha
  have HT : Hid (∀ w', Calls Tryd.prog 44 #[.agg (B K), .agg (B A)] w' (JoinPost (1 :: (K ++ A)) w')) := fun w' => refLeafText_any K A w' hk ha bk ba
  have HS : Hid (∀ u w', Reads w' u (1 :: (K ++ A)) → Calls Tryd.prog 40 #[u] w' fun e w'' => e = .returned (.agg (B D)) ∧ Below w'.heap.size w' w'') := by
    intro u w' hu
    rw [hD]
    exact refSum_any u _ w' hu (by simp [hk, ha])
  clear hD hk ha bk ba
  go_enter Tryd.func74, Tryd.ntmps74
  go_wp2_with (first
    | (refine wpList_al _ rfl _ rfl _ zero_b32 ?_; intro w3 g3 hg3 hl3 B3 b3; have B1' := (B1.grow b2).grow b3; have B2' := B2.grow b3)
    | (have hx := hl1; clear hx; refine wpList_bx _ rfl _ _ rfl _ rfl ?_; intro w2 g2 hg2 hl2 B2 b2) | (refine wpList_bx _ rfl _ _ rfl _ rfl ?_; intro w1 g1 hg1 hl1 B1 b1)
    | (refine wpList_ld _ rfl _ _ rfl g1 _ rfl B1' _ _ Tryd.underlying23 (by rw [HKZ.out]; exact size_b32) ?_)
    | (refine wpList_ld _ rfl _ _ rfl g2 _ rfl B2' _ _ Tryd.underlying23 (by rw [HAZ.out]; exact size_b32) ?_)
    | (go_at_call 44; refine (HT.out w3).mono ?_; rintro e w4 ⟨u, sp, rfl, hO, b4⟩; have hR := hO.reads; clear hO)
    | (go_at_call 40; refine (HS.out u w4 hR).mono ?_; rintro e w5 ⟨rfl, b5⟩; have B5 := (B3.grow b4).grow b5)
    | (refine wpList_sto _ rfl _ _ _ rfl g3 _ _ rfl rfl B5 (by rw [HSZ.out]; exact size_b32) (by rw [HSZ.out, B_size]; simp) (B_one _) ?_; intro w6 B6 g6))
  have c2 := b1.trans (b2.mono b1.size)
  have c5 := grow_trans (grow_trans (grow_trans c2 b3) b4) b5
  exact bodyPost_ret (v := .agg (B D)) (results_cell_row rfl _ _ g3 _ _ _ _ rfl B6 Tryd.underlying23 rfl (by rw [HSZ.out]; exact size_b32)) rfl ⟨by rw [HD.out], below_row c5 g6 (Nat.le_trans c2.size hg3)⟩

set_option maxHeartbeats 2000000 in
theorem refInner_any (K A : List Int) (w : World) (hk : K.length = 32) (ha : A.length = 32) (bk : Bytes K) (ba : Bytes A) : Calls Tryd.prog 63 #[.agg (B K), .agg (B A)] w (DigPost (2 :: (K ++ A)) w) := by
  obtain ⟨D, hD⟩ : ∃ D, D = dig (2 :: (K ++ A)) := ⟨_, rfl⟩
  have HD := hidden hD
  have HSZ : Hid ((B D).size = 32) := by rw [B_size, hD]; exact dig_length _
  have HKZ : Hid ((B K).size = 32) := by rw [B_size]; exact hk
  have HAZ : Hid ((B A).size = 32) := by rw [B_size]; exact ha
  have HT : Hid (∀ w', Calls Tryd.prog 45 #[.agg (B K), .agg (B A)] w' (JoinPost (2 :: (K ++ A)) w')) := fun w' => refInnerText_any K A w' hk ha bk ba
  have HS : Hid (∀ u w', Reads w' u (2 :: (K ++ A)) → Calls Tryd.prog 40 #[u] w' fun e w'' => e = .returned (.agg (B D)) ∧ Below w'.heap.size w' w'') := by
    intro u w' hu
    rw [hD]
    exact refSum_any u _ w' hu (by simp [hk, ha])
  clear hD hk ha bk ba
  go_enter Tryd.func63, Tryd.ntmps63
  go_wp2_with (first
    | (refine wpList_al _ rfl _ rfl _ zero_b32 ?_; intro w3 g3 hg3 hl3 B3 b3; have B1' := (B1.grow b2).grow b3; have B2' := B2.grow b3)
    | (have hx := hl1; clear hx; refine wpList_bx _ rfl _ _ rfl _ rfl ?_; intro w2 g2 hg2 hl2 B2 b2) | (refine wpList_bx _ rfl _ _ rfl _ rfl ?_; intro w1 g1 hg1 hl1 B1 b1)
    | (refine wpList_ld _ rfl _ _ rfl g1 _ rfl B1' _ _ Tryd.underlying23 (by rw [HKZ.out]; exact size_b32) ?_)
    | (refine wpList_ld _ rfl _ _ rfl g2 _ rfl B2' _ _ Tryd.underlying23 (by rw [HAZ.out]; exact size_b32) ?_)
    | (go_at_call 45; refine (HT.out w3).mono ?_; rintro e w4 ⟨u, sp, rfl, hO, b4⟩; have hR := hO.reads; clear hO)
    | (go_at_call 40; refine (HS.out u w4 hR).mono ?_; rintro e w5 ⟨rfl, b5⟩; have B5 := (B3.grow b4).grow b5)
    | (refine wpList_sto _ rfl _ _ _ rfl g3 _ _ rfl rfl B5 (by rw [HSZ.out]; exact size_b32) (by rw [HSZ.out, B_size]; simp) (B_one _) ?_; intro w6 B6 g6))
  have c2 := b1.trans (b2.mono b1.size)
  have c5 := grow_trans (grow_trans (grow_trans c2 b3) b4) b5
  exact bodyPost_ret (v := .agg (B D)) (results_cell_row rfl _ _ g3 _ _ _ _ rfl B6 Tryd.underlying23 rfl (by rw [HSZ.out]; exact size_b32)) rfl ⟨by rw [HD.out], below_row c5 g6 (Nat.le_trans c2.size hg3)⟩

end Go.Proofs.YtjcklpdifanjlaaDoor
