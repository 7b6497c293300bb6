/- The document's digests (rootcellarref03), and Entry of both, as contracts. -/
import Derived.Test.YtjcklpdifanjlaaDoorOr20
import Derived.Test.YtjcklpdifanjlaaDoorOr26
import Derived.Laws.ResultCell
import Derived.Test.YtjcklpdifanjlaaDoorOr23
namespace Go.Proofs.YtjcklpdifanjlaaDoor
set_option maxRecDepth 20000
open Go.RowKit

set_option maxHeartbeats 1000000 in
theorem refOf_any (t : Int) (v : Value) (ps : List (List Int)) (w : World) (h0 : 0 ≤ t) (h1 : t ≤ 255) (h : Parts w v ps) (hl : 1 + ps.flatten.length ≤ 140737488355328 - 4096) :
    Calls Tryd.prog 83 #[.int .u8 t, v] w (DigPost (t :: ps.flatten) w) := by
  have HT : Hid (∀ w', Below w.heap.size w w' → Calls Tryd.prog 72 #[.int .u8 t, v] w' (JoinPost (t :: ps.flatten) w')) := by
    intro w' hw'
    obtain ⟨a, cap, V, rfl, q1, q2, q3, q4⟩ := h
    refine refText_any t _ ps w' h0 h1 ⟨a, cap, V, rfl, q1, q2, fun hp => ?_, fun i hi => (q4 i hi).grow hw'⟩ (by omega)
    obtain ⟨b, off, e, hc⟩ := q3 hp
    exact ⟨b, off, e, fun i hi => (hw'.cell (p := ⟨b, off + i, none⟩) (block_lt_of_cell (hc i hi))).trans (hc i hi)⟩
  obtain ⟨D, hD⟩ : ∃ D, D = dig (t :: ps.flatten) := ⟨_, rfl⟩
  have HD := hidden hD
  have HSZ : Hid ((B D).size = 32) := by rw [B_size, hD]; exact dig_length _
  have HS : Hid (∀ u w', Reads w' u (t :: ps.flatten) → Calls Tryd.prog 40 #[u] w' fun e w'' => e = .returned (.agg (B D)) ∧ Below w'.heap.size w' w'') := by
    intro u w' hu
    rw [hD]
    exact refSum_any u _ w' hu (by rw [List.length_cons]; omega)
  clear h hD hl
  go_enter Tryd.func83, Tryd.ntmps83
  go_wp2_with (first | (refine wpList_al _ rfl _ rfl _ zero_b32 ?_; intro w1 g1 hg1 hl1 B1 b1) | (go_at_call 72; refine (HT.out w1 b1).mono ?_; rintro e w2 ⟨u, sp, rfl, hO, b2⟩; have hR := hO.reads; clear hO) | (go_at_call 40; refine (HS.out u w2 hR).mono ?_; rintro e w3 ⟨rfl, b3⟩; have B3 := (B1.grow b2).grow b3) | (refine wpList_sto _ rfl _ _ _ rfl g1 _ _ rfl rfl B3 (by rw [HSZ.out]; exact size_b32) (by rw [HSZ.out, B_size]; simp) (B_one _) ?_; intro w4 B4 g4))
  exact bodyPost_ret (v := .agg (B D)) (results_cell_row rfl _ _ g1 _ _ _ _ rfl B4 Tryd.underlying23 rfl (by rw [HSZ.out]; exact size_b32)) rfl ⟨by rw [HD.out], below_row (grow_trans (grow_trans b1 b2) b3) g4 hg1⟩

set_option maxHeartbeats 1000000 in
theorem refEmpty_any (w : World) : Calls Tryd.prog 73 #[] w (DigPost [0] w) := by
  obtain ⟨D, hD⟩ : ∃ D, D = dig [0] := ⟨_, rfl⟩
  have HD := hidden hD
  have HSZ : Hid ((B D).size = 32) := by rw [B_size, hD]; exact dig_length _
  have H : Hid (∀ w', Calls Tryd.prog 83 #[.int .u8 0, .slice none 0 0] w' fun e w'' => e = .returned (.agg (B D)) ∧ Below w'.heap.size w' w'') := by
    intro w'
    rw [hD]
    exact refOf_any 0 _ [] w' (by omega) (by omega) (parts_nil w') (by simp)
  clear hD
  go_enter Tryd.func73, Tryd.ntmps73
  go_wp2_with (first | (refine wpList_al _ rfl _ rfl _ zero_b32 ?_; intro w1 g1 hg1 hl1 B1 b1) | (go_at_call 83; refine (H.out _).mono ?_; rintro e w2 ⟨rfl, b2⟩; have B2 := B1.grow b2) | (refine wpList_sto _ rfl _ _ _ rfl g1 _ _ rfl rfl B2 (by rw [HSZ.out]; exact size_b32) (by rw [HSZ.out, B_size]; simp) (B_one _) ?_; intro w3 B3 g3))
  exact bodyPost_ret (v := .agg (B D)) (results_cell_row rfl _ _ g1 _ _ _ _ rfl B3 Tryd.underlying23 rfl (by rw [HSZ.out]; exact size_b32)) rfl ⟨by rw [HD.out], below_row (grow_trans b1 b2) g3 hg1⟩

set_option maxHeartbeats 1000000 in
theorem refValue_any (v : Value) (zs : List Int) (w : World) (h : Reads w v zs) (hl : zs.length < 140737488355328 - 4096) : Calls Tryd.prog 59 #[v] w (DigPost (3 :: zs) w) := by
  obtain ⟨D, hD⟩ : ∃ D, D = dig (3 :: zs) := ⟨_, rfl⟩
  have HD := hidden hD
  have HSZ : Hid ((B D).size = 32) := by rw [B_size, hD]; exact dig_length _
  have H : Hid (∀ w', Below w.heap.size w w' → Calls Tryd.prog 83 #[.int .u8 3, .slice (some ⟨w'.heap.size, 0, none⟩) 1 1] (w'.alloc (.cells #[v] 28)) fun e w'' => e = .returned (.agg (B D)) ∧ Below w'.heap.size w' w'') := by
    intro w' hb
    have h1 := refOf_any 3 _ [zs] _ (by omega) (by omega) (parts_one w' v zs (h.grow hb)) (by simp; omega)
    rw [show [zs].flatten = zs by simp] at h1
    rw [hD]
    exact h1.mono fun e w'' ⟨h2, h3⟩ => ⟨h2, grow_trans (grow_alloc _ _) h3⟩
  obtain ⟨va, vc, rfl, _, _, _, _⟩ := h
  clear hD
  go_enter Tryd.func59, Tryd.ntmps59
  go_wp2_with (first | (refine wpList_al _ rfl _ rfl _ zero_b32 ?_; intro w1 g1 hg1 hl1 B1 b1) | (go_at_call 83; refine (H.out w1 b1).mono ?_; rintro e w2 ⟨rfl, b2⟩; have B2 := B1.grow b2) | (refine wpList_sto _ rfl _ _ _ rfl g1 _ _ rfl rfl B2 (by rw [HSZ.out]; exact size_b32) (by rw [HSZ.out, B_size]; simp) (B_one _) ?_; intro w3 B3 g3))
  exact bodyPost_ret (v := .agg (B D)) (results_cell_row rfl _ _ g1 _ _ _ _ rfl B3 Tryd.underlying23 rfl (by rw [HSZ.out]; exact size_b32)) rfl ⟨by rw [HD.out], below_row (grow_trans b1 b2) g3 hg1⟩

set_option maxHeartbeats 2000000 in
theorem refLeaf_any (K A : List Int) (w : World) (hk : K.length = 32) (ha : A.length = 32) (bk : Bytes K) (ba : Bytes A) : Calls Tryd.prog 74 #[.agg (B K), .agg (B A)] w (DigPost (1 :: (K ++ A)) w) := by
  obtain ⟨D, hD⟩ : ∃ D, D = dig (1 :: (K ++ A)) := ⟨_, rfl⟩
  have HD := hidden hD
  have HSZ : Hid ((B D).size = 32) := by rw [B_size, hD]; exact dig_length _
  have HKZ : Hid ((B K).size = 32) := by rw [B_size]; exact hk
  have HAZ : Hid ((B A).size = 32) := by rw [B_size]; exact ha
  have HT : Hid (∀ w', Calls Tryd.prog 44 #[.agg (B K), .agg (B A)] w' (JoinPost (1 :: (K ++ A)) w')) := fun w' => refLeafText_any K A w' hk ha bk ba
  have HS : Hid (∀ u w', Reads w' u (1 :: (K ++ A)) → Calls Tryd.prog 40 #[u] w' fun e w'' => e = .returned (.agg (B D)) ∧ Below w'.heap.size w' w'') := by
    intro u w' hu
    rw [hD]
    exact refSum_any u _ w' hu (by simp [hk, ha])
  clear hD hk ha bk ba
  go_enter Tryd.func74, Tryd.ntmps74
  go_wp2_with (first
    | (refine wpList_al _ rfl _ rfl _ zero_b32 ?_; intro w3 g3 hg3 hl3 B3 b3; have B1' := (B1.grow b2).grow b3; have B2' := B2.grow b3)
    | (have hx := hl1; clear hx; refine wpList_bx _ rfl _ _ rfl _ rfl ?_; intro w2 g2 hg2 hl2 B2 b2) | (refine wpList_bx _ rfl _ _ rfl _ rfl ?_; intro w1 g1 hg1 hl1 B1 b1)
    | (refine wpList_ld _ rfl _ _ rfl g1 _ rfl B1' _ _ Tryd.underlying23 (by rw [HKZ.out]; exact size_b32) ?_)
    | (refine wpList_ld _ rfl _ _ rfl g2 _ rfl B2' _ _ Tryd.underlying23 (by rw [HAZ.out]; exact size_b32) ?_)
    | (go_at_call 44; refine (HT.out w3).mono ?_; rintro e w4 ⟨u, sp, rfl, hO, b4⟩; have hR := hO.reads; clear hO)
    | (go_at_call 40; refine (HS.out u w4 hR).mono ?_; rintro e w5 ⟨rfl, b5⟩; have B5 := (B3.grow b4).grow b5)
    | (refine wpList_sto _ rfl _ _ _ rfl g3 _ _ rfl rfl B5 (by rw [HSZ.out]; exact size_b32) (by rw [HSZ.out, B_size]; simp) (B_one _) ?_; intro w6 B6 g6))
  have c2 := b1.trans (b2.mono b1.size)
  have c5 := grow_trans (grow_trans (grow_trans c2 b3) b4) b5
  exact bodyPost_ret (v := .agg (B D)) (results_cell_row rfl _ _ g3 _ _ _ _ rfl B6 Tryd.underlying23 rfl (by rw [HSZ.out]; exact size_b32)) rfl ⟨by rw [HD.out], below_row c5 g6 (Nat.le_trans c2.size hg3)⟩

set_option maxHeartbeats 2000000 in
theorem refInner_any (K A : List Int) (w : World) (hk : K.length = 32) (ha : A.length = 32) (bk : Bytes K) (ba : Bytes A) : Calls Tryd.prog 63 #[.agg (B K), .agg (B A)] w (DigPost (2 :: (K ++ A)) w) := by
  obtain ⟨D, hD⟩ : ∃ D, D = dig (2 :: (K ++ A)) := ⟨_, rfl⟩
  have HD := hidden hD
  have HSZ : Hid ((B D).size = 32) := by rw [B_size, hD]; exact dig_length _
  have HKZ : Hid ((B K).size = 32) := by rw [B_size]; exact hk
  have HAZ : Hid ((B A).size = 32) := by rw [B_size]; exact ha
  have HT : Hid (∀ w', Calls Tryd.prog 45 #[.agg (B K), .agg (B A)] w' (JoinPost (2 :: (K ++ A)) w')) := fun w' => refInnerText_any K A w' hk ha bk ba
  have HS : Hid (∀ u w', Reads w' u (2 :: (K ++ A)) → Calls Tryd.prog 40 #[u] w' fun e w'' => e = .returned (.agg (B D)) ∧ Below w'.heap.size w' w'') := by
    intro u w' hu
    rw [hD]
    exact refSum_any u _ w' hu (by simp [hk, ha])
  clear hD hk ha bk ba
  go_enter Tryd.func63, Tryd.ntmps63
  go_wp2_with (first
    | (refine wpList_al _ rfl _ rfl _ zero_b32 ?_; intro w3 g3 hg3 hl3 B3 b3; have B1' := (B1.grow b2).grow b3; have B2' := B2.grow b3)
    | (have hx := hl1; clear hx; refine wpList_bx _ rfl _ _ rfl _ rfl ?_; intro w2 g2 hg2 hl2 B2 b2) | (refine wpList_bx _ rfl _ _ rfl _ rfl ?_; intro w1 g1 hg1 hl1 B1 b1)
    | (refine wpList_ld _ rfl _ _ rfl g1 _ rfl B1' _ _ Tryd.underlying23 (by rw [HKZ.out]; exact size_b32) ?_)
    | (refine wpList_ld _ rfl _ _ rfl g2 _ rfl B2' _ _ Tryd.underlying23 (by rw [HAZ.out]; exact size_b32) ?_)
    | (go_at_call 45; refine (HT.out w3).mono ?_; rintro e w4 ⟨u, sp, rfl, hO, b4⟩; have hR := hO.reads; clear hO)
    | (go_at_call 40; refine (HS.out u w4 hR).mono ?_; rintro e w5 ⟨rfl, b5⟩; have B5 := (B3.grow b4).grow b5)
    | (refine wpList_sto _ rfl _ _ _ rfl g3 _ _ rfl rfl B5 (by rw [HSZ.out]; exact size_b32) (by rw [HSZ.out, B_size]; simp) (B_one _) ?_; intro w6 B6 g6))
  have c2 := b1.trans (b2.mono b1.size)
  have c5 := grow_trans (grow_trans (grow_trans c2 b3) b4) b5
  exact bodyPost_ret (v := .agg (B D)) (results_cell_row rfl _ _ g3 _ _ _ _ rfl B6 Tryd.underlying23 rfl (by rw [HSZ.out]; exact size_b32)) rfl ⟨by rw [HD.out], below_row c5 g6 (Nat.le_trans c2.size hg3)⟩

end Go.Proofs.YtjcklpdifanjlaaDoor

/- The document's root at a depth, as a contract. -/
namespace Go.Proofs.YtjcklpdifanjlaaDoor
set_option maxRecDepth 20000
open Go.RowKit

theorem b32_facts (D : List Int) (h : D.length = 32) : (Tryd.prog.info? 23).map (·.size) = some (B D).size ∧ (B (List.replicate 32 0)).size = (B D).size := ⟨by rw [B_size, h]; exact size_b32, by rw [B_size, B_size, h]; rfl⟩

set_option maxHeartbeats 2000000 in
theorem refAt_none (d : Int) (a : Option Addr) (cap : Nat) (w : World) : Calls Tryd.prog 51 #[.slice a 0 cap, .int .i64 d] w fun e w' => e = .returned (.agg (B emD)) ∧ Below w.heap.size w w' := by
  obtain ⟨D, hD⟩ : ∃ D, D = emD := ⟨_, rfl⟩
  have HF := hidden (b32_facts D (by rw [hD]; exact dig_length _))
  have HE : Hid (∀ w', Calls Tryd.prog 73 #[] w' fun e w'' => e = .returned (.agg (B D)) ∧ Below w'.heap.size w' w'') := fun w' => by rw [hD]; exact refEmpty_any w'
  rw [← hD]
  clear hD
  go_enter Tryd.func51, Tryd.ntmps51
  go_wp2_with (first
    | ((with_reducible refine at_ald 4 ?_); refine wpList_al _ rfl _ rfl _ zero_b32 ?_; intro w1 g1 hg1 hl1 B1 b1)
    | (go_at_call 73; refine (HE.out _).mono ?_; rintro e w2 ⟨rfl, b2⟩; have B2 := B1.grow b2)
    | ((with_reducible refine at_st 4 ?_); refine wpList_sto _ rfl _ _ _ rfl g1 _ (B D) rfl rfl B2 HF.out.1 HF.out.2 (B_one _) ?_; intro w3 B3 r3))
  exact bodyPost_ret (v := .agg (B D)) (results_cell_row rfl _ _ g1 _ _ _ _ rfl B3 Tryd.underlying23 rfl HF.out.1) rfl ⟨rfl, below_row (grow_trans b1 b2) r3 hg1⟩

set_option maxHeartbeats 2000000 in
theorem refAt_leaf (d : Int) (g off cap : Nat) (E : Ent) (u : Value) (w : World) (hk : Key E.1) (hu : Reads w u E.2) (hl : E.2.length ≤ 1024) (hr : w.rangeAt g off (encP E.1 u)) : Calls Tryd.prog 51 #[.slice (some ⟨g, off, none⟩) 1 cap, .int .i64 d] w fun e w' => e = .returned (.agg (B (enD E))) ∧ Below w.heap.size w w' := by
  obtain ⟨D, hD⟩ : ∃ D, D = enD E := ⟨_, rfl⟩
  have HF := hidden (b32_facts D (by rw [hD]; exact dig_length _))
  obtain ⟨A, hA⟩ : ∃ A, A = vaD E.2 := ⟨_, rfl⟩
  have HVa : Hid (∀ w', Below w.heap.size w w' → Calls Tryd.prog 59 #[u] w' fun e w'' => e = .returned (.agg (B A)) ∧ Below w'.heap.size w' w'') := fun w' hb => by rw [hA]; exact refValue_any u _ w' (hu.grow hb) (by omega)
  have HE : Hid (∀ w', Calls Tryd.prog 74 #[.agg (B E.1), .agg (B A)] w' fun e w'' => e = .returned (.agg (B D)) ∧ Below w'.heap.size w' w'') := fun w' => by rw [hD, hA]; exact refLeaf_any E.1 (vaD E.2) w' hk.1 (dig_length _) hk.2 (dig_bytes _)
  have HR : Hid (∀ w', Below w.heap.size w w' → w'.rangeAt g off (B E.1).toList ∧ w'.cell? ⟨g, off + 32, none⟩ = some u) := fun w' hw' => ⟨rng_key (rng_grow hr hw'), rng_val (rng_grow hr hw') hk.1⟩
  have HLK : Hid ((Tryd.prog.info? 24).map (·.size) = some (B E.1).toList.length) := by show _ = _; rw [B_toList, List.length_map, hk.1]; exact sz_path
  obtain ⟨K, hK⟩ : ∃ K, K = E.1 := ⟨_, rfl⟩
  rw [← hK] at HE HR HLK
  rw [← hD]
  obtain ⟨ua, uc, rfl, _, _, _, _⟩ := hu
  obtain ⟨L, hL⟩ : ∃ L, L = E.2.length := ⟨_, rfl⟩
  rw [← hL] at HVa HR
  clear hD hK hA hr hk hl hL
  go_enter Tryd.func51, Tryd.ntmps51
  go_wp2_with (first
    | ((with_reducible refine at_ald 4 ?_); refine wpList_al _ rfl _ rfl _ zero_b32 ?_; intro w1 g1 hg1 hl1 B1 b1))
  have d0 : Below w.heap.size w w1.drew := grow_trans b1 (Below.refl _ _).drew
  refine wp_region_held_drew (S := fun w' => w'.rangeAt g off (B K).toList ∧ w'.cell? ⟨g, off + 32, none⟩ = some (.slice ua L uc)) (by kernel_rfl) (HR.out _ d0) (fun hHeld => ?_)
  refine wpAnyH_take (i := 0) (v := .slice (some ⟨g, off, none⟩) 1 cap) rfl (by kernel_rfl) (by kernel_rfl) (by kernel_rfl) (fun _ _ _ h => h) (Or.inl ⟨by rfl, fun w hS => by go_simp⟩) hHeld ?_
  simp only [Act.put, List.getElem_toArray, List.getElem_cons_zero, List.setIfInBounds_toArray, List.set_cons_zero, List.set_cons_succ]
  refine wpAnyH_take (i := 1) (v := .pointer (some ⟨g, off, none⟩)) rfl (by kernel_rfl) (by kernel_rfl) (by kernel_rfl) (fun _ _ _ h => h) (Or.inl ⟨by rfl, fun w hS => by go_simp⟩) hHeld ?_
  simp only [Act.put, List.getElem_toArray, List.getElem_cons_zero, List.getElem_cons_succ, List.setIfInBounds_toArray, List.set_cons_zero, List.set_cons_succ]
  refine wpAnyH_take (i := 2) (v := .pointer (some ⟨g, off, none⟩)) rfl (by kernel_rfl) (by kernel_rfl) (by kernel_rfl) (fun _ _ _ h => h) (Or.inl ⟨by rfl, fun w hS => by go_simp⟩) hHeld ?_
  simp only [Act.put, List.getElem_toArray, List.getElem_cons_zero, List.getElem_cons_succ, List.setIfInBounds_toArray, List.set_cons_zero, List.set_cons_succ]
  refine wpAnyH_take (i := 3) (v := .agg (B K)) rfl (by kernel_rfl) (by kernel_rfl) (by kernel_rfl) (fun _ _ _ h => h) (yieldsIf_load_mid rfl 24 (.tmp 14) rfl g off rfl (B K).toList _ (fun w hS => hS.1) Tryd.underlying24 rfl HLK.out) hHeld ?_
  simp only [Act.put, List.getElem_toArray, List.getElem_cons_zero, List.getElem_cons_succ, List.setIfInBounds_toArray, List.set_cons_zero, List.set_cons_succ]
  refine wpAnyH_take (i := 4) (v := .slice (some ⟨g, off, none⟩) 1 cap) rfl (by kernel_rfl) (by kernel_rfl) (by kernel_rfl) (fun _ _ _ h => h) (Or.inl ⟨by rfl, fun w hS => by go_simp⟩) hHeld ?_
  simp only [Act.put, List.getElem_toArray, List.getElem_cons_zero, List.getElem_cons_succ, List.setIfInBounds_toArray, List.set_cons_zero, List.set_cons_succ]
  refine wpAnyH_take (i := 5) (v := .pointer (some ⟨g, off, none⟩)) rfl (by kernel_rfl) (by kernel_rfl) (by kernel_rfl) (fun _ _ _ h => h) (Or.inl ⟨by rfl, fun w hS => by go_simp⟩) hHeld ?_
  simp only [Act.put, List.getElem_toArray, List.getElem_cons_zero, List.getElem_cons_succ, List.setIfInBounds_toArray, List.set_cons_zero, List.set_cons_succ]
  refine wpAnyH_take (i := 6) (v := .pointer (some ⟨g, off + 32, none⟩)) rfl (by kernel_rfl) (by kernel_rfl) (by kernel_rfl) (fun _ _ _ h => h) (Or.inl ⟨by rfl, fun w hS => by go_simp⟩) hHeld ?_
  simp only [Act.put, List.getElem_toArray, List.getElem_cons_zero, List.getElem_cons_succ, List.setIfInBounds_toArray, List.set_cons_zero, List.set_cons_succ]
  refine wpAnyH_take (i := 7) (v := .slice ua L uc) rfl (by kernel_rfl) (by kernel_rfl) (by kernel_rfl) (fun _ _ _ h => h) (Or.inl ⟨by rfl, fun w hS => by (have s1 := hS.2; go_simp)⟩) hHeld ?_
  simp only [Act.put, List.getElem_toArray, List.getElem_cons_zero, List.getElem_cons_succ, List.setIfInBounds_toArray, List.set_cons_zero, List.set_cons_succ]
  refine wpAnyH_ready (rs := [8]) (by kernel_rfl) (by simp) ?_
  refine AllReadyH.cons rfl (fun KQ hK => ?_) AllReadyH.nil
  go_simp
  refine (HVa.out _ d0).mono ?_
  rintro e x1 ⟨rfl, a1⟩
  have d1 := grow_trans d0 a1
  refine hK.out _ _ (HR.out _ d1) (fun hHeld => ?_)
  clear hK KQ
  refine wpAnyH_ready (rs := [9]) (by kernel_rfl) (by simp) ?_
  refine AllReadyH.cons rfl (fun KQ hK => ?_) AllReadyH.nil
  go_simp
  refine (HE.out _).mono ?_
  rintro e x2 ⟨rfl, a2⟩
  have d2 := grow_trans d1 a2
  refine hK.out _ _ (HR.out _ d2) (fun hHeld => ?_)
  clear hK KQ
  refine wpAnyH_ready (rs := [10]) (by kernel_rfl) (by simp) ?_
  refine AllReadyH.cons rfl (fun KQ hK => ?_) AllReadyH.nil
  refine step_sto _ rfl _ _ _ rfl g1 _ (B D) rfl rfl ((B1.drew.grow a1).grow a2) HF.out.1 HF.out.2 (B_one _) ?_
  intro w4 B4 g4
  have c4 := below_row d2 g4 hg1
  refine hK.out _ _ (HR.out _ c4) (fun hHeld => ?_)
  clear hK KQ
  refine wpAnyH_done (by kernel_rfl) ?_ _
  go_wp2_with fail
  exact bodyPost_ret (v := .agg (B D)) (results_cell_row rfl _ _ g1 _ _ _ _ rfl B4 Tryd.underlying23 rfl HF.out.1) rfl ⟨rfl, c4⟩

theorem rt_length (n d : Nat) (es : List Ent) : (rt n d es).length = 32 := by
  match n, es with
  | _, [] => rw [rt_nil]; exact dig_length _
  | _, [x] => rw [rt_one]; exact dig_length _
  | 0, _ :: _ :: _ => exact dig_length _
  | n + 1, a :: b :: l => rw [rt_more n d _ (by simp)]; exact dig_length _
theorem rt_bytes (n d : Nat) (es : List Ent) : Bytes (rt n d es) := by
  match n, es with
  | _, [] => rw [rt_nil]; exact dig_bytes _
  | _, [x] => rw [rt_one]; exact dig_bytes _
  | 0, _ :: _ :: _ => exact dig_bytes _
  | n + 1, a :: b :: l => rw [rt_more n d _ (by simp)]; exact dig_bytes _

set_option maxHeartbeats 4000000 in
theorem refAt_more (d : Nat) (a : Option Addr) (m cap : Nat) (es : List Ent) (R0 R1 : List Int) (w : World) (hd : d < 256) (hm : 2 ≤ m) (l0 : R0.length = 32) (l1 : R1.length = 32) (y0 : Bytes R0) (y1 : Bytes R1)
    (hp : ∀ w' b, Below w.heap.size w w' → Calls Tryd.prog 58 #[.slice a m cap, .int .i64 d, .int .i64 b] w' (SidePost es d b w'))
    (h0 : ∀ w' v V, PrAt w' v V (sideOf es d 0) → Calls Tryd.prog 51 #[v, .int .i64 ((d : Int) + 1)] w' fun e w'' => e = .returned (.agg (B R0)) ∧ Below w'.heap.size w' w'')
    (h1 : ∀ w' v V, PrAt w' v V (sideOf es d 1) → Calls Tryd.prog 51 #[v, .int .i64 ((d : Int) + 1)] w' fun e w'' => e = .returned (.agg (B R1)) ∧ Below w'.heap.size w' w'') :
    Calls Tryd.prog 51 #[.slice a m cap, .int .i64 d] w fun e w' => e = .returned (.agg (B (inD R0 R1))) ∧ Below w.heap.size w w' := by
  have HP := hidden hp
  have H0 := hidden h0
  have H1 := hidden h1
  obtain ⟨D, hD⟩ : ∃ D, D = inD R0 R1 := ⟨_, rfl⟩
  have HF := hidden (b32_facts D (by rw [hD]; exact dig_length _))
  have HI : Hid (∀ w', Calls Tryd.prog 63 #[.agg (B R0), .agg (B R1)] w' fun e w'' => e = .returned (.agg (B D)) ∧ Below w'.heap.size w' w'') := fun w' => by rw [hD]; exact refInner_any R0 R1 w' l0 l1 y0 y1
  have hw : IntKind.i64.wrap ((d : Int) + 1) = (d : Int) + 1 := by rw [IntKind.wrap_i64]; omega
  have e0 : ((m : Int) == 0) = false := by simp; omega
  have e1 : ((m : Int) == 1) = false := by simp; omega
  rw [← hD]
  clear hD hp h0 h1 l0 l1 y0 y1 hm hd
  go_enter Tryd.func51, Tryd.ntmps51
  go_wp2_with (first
    | ((with_reducible refine at_ald 4 ?_); refine wpList_al _ rfl _ rfl _ zero_b32 ?_; intro w1 g1 hg1 hl1 B1 b1; have KB := hidden B1.kp; have c := b1)
    | (go_at_call 58; have mk := mk1; refine (HP.out _ _ c).mono ?_; rintro e w4 ⟨v1, V1, rfl, p1, q4⟩; clear mk mk1; have HP1 := hidden p1; clear p1; have cc := grow_trans c q4; clear c; have c := cc; clear cc; replace KB := hidden (KB.out.step q4); have mk2 : Hid True := trivial)
    | (go_at_call 58; refine (HP.out _ _ c).mono ?_; rintro e w2 ⟨v0, V0, rfl, p0, q2⟩; have HP0 := hidden p0; clear p0; have cc := grow_trans c q2; clear c; have c := cc; clear cc; replace KB := hidden (KB.out.step q2))
    | (go_at_call 51; have mk := mk2; refine (H1.out _ _ _ HP1.out).mono ?_; rintro e w5 ⟨rfl, q5⟩; clear mk mk2; have cc := grow_trans c q5; clear c; have c := cc; clear cc; replace KB := hidden (KB.out.step q5))
    | (go_at_call 51; refine (H0.out _ _ _ HP0.out).mono ?_; rintro e w3 ⟨rfl, q3⟩; have mk1 : Hid True := trivial; have cc := grow_trans c q3; clear c; have c := cc; clear cc; replace KB := hidden (KB.out.step q3))
    | (go_at_call 63; refine (HI.out _).mono ?_; rintro e w6 ⟨rfl, q6⟩; have cc := grow_trans c q6; clear c; have c := cc; clear cc; replace KB := hidden (KB.out.step q6))
    | ((with_reducible refine at_st 4 ?_); refine wpList_sto _ rfl _ _ _ rfl g1 _ (B D) rfl rfl KB.out.now HF.out.1 HF.out.2 (B_one _) ?_; intro w7 B7 r7))
  exact bodyPost_ret (v := .agg (B D)) (results_cell_row rfl _ _ g1 _ _ _ _ rfl B7 Tryd.underlying23 rfl HF.out.1) rfl ⟨rfl, below_row c r7 hg1⟩

/-- All keys have the same first d bits. -/
def SamE (es : List Ent) (d : Nat) : Prop := ∀ a ∈ es, ∀ b ∈ es, ∀ j, j < d → kb a.1 j = kb b.1 j
theorem SamE.side {es : List Ent} {d : Nat} (hd : d < 256) (b : Int) (h : SamE es d) : SamE (sideOf es d b) (d + 1) := by
  intro x hx y hy j hj
  unfold sideOf at hx hy
  rw [List.mem_filter, beq_iff_eq, kbi_in _ _ hd] at hx hy
  by_cases e : j = d
  · rw [e, hx.2, hy.2]
  · exact h x hx.1 y hy.1 j (by omega)
theorem SamE.few {es : List Ent} (hk : ∀ e ∈ es, Key e.1) (ha : Apart1 es) (h : SamE es 256) : es.length ≤ 1 := by
  match es, hk, ha, h with
  | [], _, _, _ => simp
  | e :: r, hk, ha, h => exact Share.few (key := e.1) hk ha (fun x hx j hj => h x hx e (by simp) j hj)

theorem refAt_any : ∀ (n d : Nat) (es : List Ent) (v : Value) (V : Nat → Value) (w : World), d + n = 256 → es.length ≤ 4096 → Apart1 es → SamE es d → (∀ e ∈ es, e.2.length ≤ 1024) → PrAt w v V es →
    Calls Tryd.prog 51 #[v, .int .i64 d] w fun e w' => e = .returned (.agg (B (rt n d es))) ∧ Below w.heap.size w w' := by
  have one : ∀ (n d : Nat) (E : Ent) (a : Option Addr) (cap : Nat) (V : Nat → Value) (w : World), E.2.length ≤ 1024 → PrAt w (.slice a 1 cap) V [E] → Calls Tryd.prog 51 #[.slice a 1 cap, .int .i64 d] w fun e w' => e = .returned (.agg (B (rt n d [E]))) ∧ Below w.heap.size w w' := by
    intro n d E a cap V w hl hv
    obtain ⟨a', cap', e, _, hc, hr⟩ := hv
    injection e with e1 e2 e3
    subst e1
    subst e3
    obtain ⟨g, off, rfl, hcc⟩ := hc (by simp)
    have h0 := hcc 0 (by simp)
    rw [Nat.zero_mul, Nat.add_zero] at h0
    obtain ⟨k0, r0⟩ := hr 0 (by simp)
    rw [rt_one]
    exact refAt_leaf d g off cap E (V 0) w k0 r0 hl h0
  intro n
  induction n with
  | zero =>
    intro d es v V w hd hn ha hs hlen hv
    obtain rfl : d = 256 := by omega
    have hf := SamE.few hv.keys ha hs
    have hv' := hv
    obtain ⟨a, cap, rfl, _⟩ := hv'
    match es, hf, hv, hlen with
    | [], _, _, _ => rw [rt_nil]; exact refAt_none (256 : Nat) a cap w
    | [E], _, hv, hlen => exact one 0 256 E a cap V w (hlen E (by simp)) hv
  | succ n ih =>
    intro d es v V w hd hn ha hs hlen hv
    have hv' := hv
    obtain ⟨a, cap, rfl, _⟩ := hv'
    match es, hn, ha, hs, hlen, hv with
    | [], _, _, _, _, _ => rw [rt_nil]; exact refAt_none d a cap w
    | [E], _, _, _, hlen, hv => exact one (n + 1) d E a cap V w (hlen E (by simp)) hv
    | x :: y :: es, hn, ha, hs, hlen, hv =>
      rw [rt_more n d _ (by simp)]
      have hi : ∀ b w' v V, PrAt w' v V (sideOf (x :: y :: es) d b) → Calls Tryd.prog 51 #[v, .int .i64 ((d : Int) + 1)] w' fun e w'' => e = .returned (.agg (B (rt n (d + 1) (sideOf (x :: y :: es) d b)))) ∧ Below w'.heap.size w' w'' := by
        intro b w' v V hv
        have := ih (d + 1) (sideOf (x :: y :: es) d b) v V w' (by omega) (Nat.le_trans (List.length_filter_le _ _) hn) (ha.side d b) (hs.side (by omega) b) (fun e he => hlen e (List.mem_filter.1 he).1) hv
        rwa [show ((d + 1 : Nat) : Int) = (d : Int) + 1 by omega] at this
      exact refAt_more d a _ cap (x :: y :: es) _ _ w (by omega) (by simp) (rt_length _ _ _) (rt_length _ _ _) (rt_bytes _ _ _) (rt_bytes _ _ _) (fun w' b hb => refSide_any _ V (x :: y :: es) d b w' (hv.grow hb) hn) (hi 0) (hi 1)

end Go.Proofs.YtjcklpdifanjlaaDoor
