/- The document's digests (rootcellarref03), and Entry of both, as contracts. -/
import Derived.Test.YtacfhkaihcclaaaDoorTagOf
import Derived.Test.YtacfhkaihcclaaaDoorRefSum
import Derived.Laws.ResultCell
namespace Go.Proofs.YtacfhkaihcclaaaDoor
open Go.RowKit

theorem results_row_tmp {fn : Func} {p u : Tmp} {ty : TypeId} (h : fn.results = #[.cell p ty, .tmp u]) (tmps : Array Value) (w : World) (g : Nat) (cs : Array Value) (n : Nat) (el : TypeId) (x : Value) (hp : tmps.getD p undef = .pointer (some ⟨g, 0, none⟩)) (hx : tmps.getD u undef = x) (hg : Blk w g ty cs)
    (hu : Tryd.prog.underlying ty = some (.array n el)) (hi : (Tryd.prog.info? ty).map (·.size) = some cs.size) :
    (results fn tmps).run Tryd.prog w = .ok (.tuple #[.agg cs, x]) w := by
  rw [results_cell_tmp h, hp, hx]
  simp [asAddr, run_loadVar_row w g ty ty cs (0, 0) _ hg hu rfl hi]

set_option maxHeartbeats 1000000 in
theorem refOf_any (t : Int) (v : Value) (ps : List (List Int)) (w : World) (h0 : 0 ≤ t) (h1 : t ≤ 255) (h : Parts w v ps) (hl : 1 + ps.flatten.length ≤ 140737488355328 - 4096) :
    Calls Tryd.prog 8 #[.int .u8 t, v] w (DigPost (t :: ps.flatten) w) := by
  have HT : Hid (∀ w', Below w.heap.size w w' → Calls Tryd.prog 31 #[.int .u8 t, v] w' (JoinPost (t :: ps.flatten) w')) := by
    intro w' hw'
    obtain ⟨a, cap, V, rfl, q1, q2, q3, q4⟩ := h
    refine refText_any t _ ps w' h0 h1 ⟨a, cap, V, rfl, q1, q2, fun hp => ?_, fun i hi => (q4 i hi).grow hw'⟩ (by omega)
    obtain ⟨b, off, e, hc⟩ := q3 hp
    exact ⟨b, off, e, fun i hi => (hw'.cell (p := ⟨b, off + i, none⟩) (block_lt_of_cell (hc i hi))).trans (hc i hi)⟩
  obtain ⟨D, hD⟩ : ∃ D, D = dig (t :: ps.flatten) := ⟨_, rfl⟩
  have HD := hidden hD
  have HSZ : Hid ((B D).size = 32) := by rw [B_size, hD]; exact dig_length _
  have HS : Hid (∀ u w', Reads w' u (t :: ps.flatten) → Calls Tryd.prog 20 #[u] w' fun e w'' => e = .returned (.agg (B D)) ∧ Below w'.heap.size w' w'') := by
    intro u w' hu
    rw [hD]
    exact refSum_any u _ w' hu (by rw [List.length_cons]; omega)
  clear h hD hl
  go_enter Tryd.func8, Tryd.ntmps8
  go_wp2_with (first | (refine wpList_al _ rfl _ rfl _ zero_b32 ?_; intro w1 g1 hg1 hl1 B1 b1) | (go_at_call 31; refine (HT.out w1 b1).mono ?_; rintro e w2 ⟨u, sp, rfl, hO, b2⟩; have hR := hO.reads; clear hO) | (go_at_call 20; refine (HS.out u w2 hR).mono ?_; rintro e w3 ⟨rfl, b3⟩; have B3 := (B1.grow b2).grow b3) | (refine wpList_sto _ rfl _ _ _ rfl g1 _ _ rfl rfl B3 (by rw [HSZ.out]; exact size_b32) (by rw [HSZ.out, B_size]; simp) (B_one _) ?_; intro w4 B4 g4))
  exact bodyPost_ret (v := .agg (B D)) (results_cell_row rfl _ _ g1 _ _ _ _ rfl B4 Tryd.underlying23 rfl (by rw [HSZ.out]; exact size_b32)) rfl ⟨by rw [HD.out], below_row (grow_trans (grow_trans b1 b2) b3) g4 hg1⟩

set_option maxHeartbeats 1000000 in
theorem refEmpty_any (w : World) : Calls Tryd.prog 10 #[] w (DigPost [0] w) := by
  obtain ⟨D, hD⟩ : ∃ D, D = dig [0] := ⟨_, rfl⟩
  have HD := hidden hD
  have HSZ : Hid ((B D).size = 32) := by rw [B_size, hD]; exact dig_length _
  have H : Hid (∀ w', Calls Tryd.prog 8 #[.int .u8 0, .slice none 0 0] w' fun e w'' => e = .returned (.agg (B D)) ∧ Below w'.heap.size w' w'') := by
    intro w'
    rw [hD]
    exact refOf_any 0 _ [] w' (by omega) (by omega) (parts_nil w') (by simp)
  clear hD
  go_enter Tryd.func10, Tryd.ntmps10
  go_wp2_with (first | (refine wpList_al _ rfl _ rfl _ zero_b32 ?_; intro w1 g1 hg1 hl1 B1 b1) | (go_at_call 8; refine (H.out _).mono ?_; rintro e w2 ⟨rfl, b2⟩; have B2 := B1.grow b2) | (refine wpList_sto _ rfl _ _ _ rfl g1 _ _ rfl rfl B2 (by rw [HSZ.out]; exact size_b32) (by rw [HSZ.out, B_size]; simp) (B_one _) ?_; intro w3 B3 g3))
  exact bodyPost_ret (v := .agg (B D)) (results_cell_row rfl _ _ g1 _ _ _ _ rfl B3 Tryd.underlying23 rfl (by rw [HSZ.out]; exact size_b32)) rfl ⟨by rw [HD.out], below_row (grow_trans b1 b2) g3 hg1⟩

set_option maxHeartbeats 1000000 in
theorem refValue_any (v : Value) (zs : List Int) (w : World) (h : Reads w v zs) (hl : zs.length < 140737488355328 - 4096) : Calls Tryd.prog 12 #[v] w (DigPost (3 :: zs) w) := by
  obtain ⟨D, hD⟩ : ∃ D, D = dig (3 :: zs) := ⟨_, rfl⟩
  have HD := hidden hD
  have HSZ : Hid ((B D).size = 32) := by rw [B_size, hD]; exact dig_length _
  have H : Hid (∀ w', Below w.heap.size w w' → Calls Tryd.prog 8 #[.int .u8 3, .slice (some ⟨w'.heap.size, 0, none⟩) 1 1] (w'.alloc (.cells #[v] 25)) fun e w'' => e = .returned (.agg (B D)) ∧ Below w'.heap.size w' w'') := by
    intro w' hb
    have h1 := refOf_any 3 _ [zs] _ (by omega) (by omega) (parts_one w' v zs (h.grow hb)) (by simp; omega)
    rw [show [zs].flatten = zs by simp] at h1
    rw [hD]
    exact h1.mono fun e w'' ⟨h2, h3⟩ => ⟨h2, grow_trans (grow_alloc _ _) h3⟩
  obtain ⟨va, vc, rfl, _, _, _, _⟩ := h
  clear hD
  go_enter Tryd.func12, Tryd.ntmps12
  go_wp2_with (first | (refine wpList_al _ rfl _ rfl _ zero_b32 ?_; intro w1 g1 hg1 hl1 B1 b1) | (go_at_call 8; refine (H.out w1 b1).mono ?_; rintro e w2 ⟨rfl, b2⟩; have B2 := B1.grow b2) | (refine wpList_sto _ rfl _ _ _ rfl g1 _ _ rfl rfl B2 (by rw [HSZ.out]; exact size_b32) (by rw [HSZ.out, B_size]; simp) (B_one _) ?_; intro w3 B3 g3))
  exact bodyPost_ret (v := .agg (B D)) (results_cell_row rfl _ _ g1 _ _ _ _ rfl B3 Tryd.underlying23 rfl (by rw [HSZ.out]; exact size_b32)) rfl ⟨by rw [HD.out], below_row (grow_trans b1 b2) g3 hg1⟩

set_option maxHeartbeats 2000000 in
theorem refLeaf_any (K A : List Int) (w : World) (hk : K.length = 32) (ha : A.length = 32) (bk : Bytes K) (ba : Bytes A) : Calls Tryd.prog 14 #[.agg (B K), .agg (B A)] w (DigPost (1 :: (K ++ A)) w) := by
  obtain ⟨D, hD⟩ : ∃ D, D = dig (1 :: (K ++ A)) := ⟨_, rfl⟩
  have HD := hidden hD
  have HSZ : Hid ((B D).size = 32) := by rw [B_size, hD]; exact dig_length _
  have HKZ : Hid ((B K).size = 32) := by rw [B_size]; exact hk
  have HAZ : Hid ((B A).size = 32) := by rw [B_size]; exact ha
  have HT : Hid (∀ w', Calls Tryd.prog 32 #[.agg (B K), .agg (B A)] w' (JoinPost (1 :: (K ++ A)) w')) := fun w' => refLeafText_any K A w' hk ha bk ba
  have HS : Hid (∀ u w', Reads w' u (1 :: (K ++ A)) → Calls Tryd.prog 20 #[u] w' fun e w'' => e = .returned (.agg (B D)) ∧ Below w'.heap.size w' w'') := by
    intro u w' hu
    rw [hD]
    exact refSum_any u _ w' hu (by simp [hk, ha])
  clear hD hk ha bk ba
  go_enter Tryd.func14, Tryd.ntmps14
  go_wp2_with (first
    | (refine wpList_al _ rfl _ rfl _ zero_b32 ?_; intro w3 g3 hg3 hl3 B3 b3; have B1' := (B1.grow b2).grow b3; have B2' := B2.grow b3)
    | (have hx := hl1; clear hx; refine wpList_bx _ rfl _ _ rfl _ rfl ?_; intro w2 g2 hg2 hl2 B2 b2) | (refine wpList_bx _ rfl _ _ rfl _ rfl ?_; intro w1 g1 hg1 hl1 B1 b1)
    | (refine wpList_ld _ rfl _ _ rfl g1 _ rfl B1' _ _ Tryd.underlying23 (by rw [HKZ.out]; exact size_b32) ?_)
    | (refine wpList_ld _ rfl _ _ rfl g2 _ rfl B2' _ _ Tryd.underlying23 (by rw [HAZ.out]; exact size_b32) ?_)
    | (go_at_call 32; refine (HT.out w3).mono ?_; rintro e w4 ⟨u, sp, rfl, hO, b4⟩; have hR := hO.reads; clear hO)
    | (go_at_call 20; refine (HS.out u w4 hR).mono ?_; rintro e w5 ⟨rfl, b5⟩; have B5 := (B3.grow b4).grow b5)
    | (refine wpList_sto _ rfl _ _ _ rfl g3 _ _ rfl rfl B5 (by rw [HSZ.out]; exact size_b32) (by rw [HSZ.out, B_size]; simp) (B_one _) ?_; intro w6 B6 g6))
  have c2 := b1.trans (b2.mono b1.size)
  have c5 := grow_trans (grow_trans (grow_trans c2 b3) b4) b5
  exact bodyPost_ret (v := .agg (B D)) (results_cell_row rfl _ _ g3 _ _ _ _ rfl B6 Tryd.underlying23 rfl (by rw [HSZ.out]; exact size_b32)) rfl ⟨by rw [HD.out], below_row c5 g6 (Nat.le_trans c2.size hg3)⟩

set_option maxHeartbeats 2000000 in
theorem refInner_any (K A : List Int) (w : World) (hk : K.length = 32) (ha : A.length = 32) (bk : Bytes K) (ba : Bytes A) : Calls Tryd.prog 16 #[.agg (B K), .agg (B A)] w (DigPost (2 :: (K ++ A)) w) := by
  obtain ⟨D, hD⟩ : ∃ D, D = dig (2 :: (K ++ A)) := ⟨_, rfl⟩
  have HD := hidden hD
  have HSZ : Hid ((B D).size = 32) := by rw [B_size, hD]; exact dig_length _
  have HKZ : Hid ((B K).size = 32) := by rw [B_size]; exact hk
  have HAZ : Hid ((B A).size = 32) := by rw [B_size]; exact ha
  have HT : Hid (∀ w', Calls Tryd.prog 33 #[.agg (B K), .agg (B A)] w' (JoinPost (2 :: (K ++ A)) w')) := fun w' => refInnerText_any K A w' hk ha bk ba
  have HS : Hid (∀ u w', Reads w' u (2 :: (K ++ A)) → Calls Tryd.prog 20 #[u] w' fun e w'' => e = .returned (.agg (B D)) ∧ Below w'.heap.size w' w'') := by
    intro u w' hu
    rw [hD]
    exact refSum_any u _ w' hu (by simp [hk, ha])
  clear hD hk ha bk ba
  go_enter Tryd.func16, Tryd.ntmps16
  go_wp2_with (first
    | (refine wpList_al _ rfl _ rfl _ zero_b32 ?_; intro w3 g3 hg3 hl3 B3 b3; have B1' := (B1.grow b2).grow b3; have B2' := B2.grow b3)
    | (have hx := hl1; clear hx; refine wpList_bx _ rfl _ _ rfl _ rfl ?_; intro w2 g2 hg2 hl2 B2 b2) | (refine wpList_bx _ rfl _ _ rfl _ rfl ?_; intro w1 g1 hg1 hl1 B1 b1)
    | (refine wpList_ld _ rfl _ _ rfl g1 _ rfl B1' _ _ Tryd.underlying23 (by rw [HKZ.out]; exact size_b32) ?_)
    | (refine wpList_ld _ rfl _ _ rfl g2 _ rfl B2' _ _ Tryd.underlying23 (by rw [HAZ.out]; exact size_b32) ?_)
    | (go_at_call 33; refine (HT.out w3).mono ?_; rintro e w4 ⟨u, sp, rfl, hO, b4⟩; have hR := hO.reads; clear hO)
    | (go_at_call 20; refine (HS.out u w4 hR).mono ?_; rintro e w5 ⟨rfl, b5⟩; have B5 := (B3.grow b4).grow b5)
    | (refine wpList_sto _ rfl _ _ _ rfl g3 _ _ rfl rfl B5 (by rw [HSZ.out]; exact size_b32) (by rw [HSZ.out, B_size]; simp) (B_one _) ?_; intro w6 B6 g6))
  have c2 := b1.trans (b2.mono b1.size)
  have c5 := grow_trans (grow_trans (grow_trans c2 b3) b4) b5
  exact bodyPost_ret (v := .agg (B D)) (results_cell_row rfl _ _ g3 _ _ _ _ rfl B6 Tryd.underlying23 rfl (by rw [HSZ.out]; exact size_b32)) rfl ⟨by rw [HD.out], below_row c5 g6 (Nat.le_trans c2.size hg3)⟩

set_option maxHeartbeats 1000000 in
theorem entry_long (K : List Int) (v : Value) (zs : List Int) (w : World) (h : Reads w v zs) (hl : 1024 < zs.length) (hm : zs.length ≤ 140737488355328) : Calls Tryd.prog 17 #[.agg (B K), v] w fun e w' => e = .returned (.tuple #[.agg (B (List.replicate 32 0)), .int .i64 4]) ∧ Below w.heap.size w w' := by
  obtain ⟨va, vc, rfl, _, _, _, _⟩ := h
  have hgt : (1024 : Int) < (zs.length : Int) := by omega
  generalize zs.length = n at *
  go_enter Tryd.func17, Tryd.ntmps17
  go_wp2_with (first
    | (refine wpList_bx _ rfl _ _ rfl _ rfl ?_; intro w1 g1 hg1 hl1 B1 b1)
    | (refine wpList_al _ rfl _ rfl _ zero_hash ?_; intro w2 g2 hg2 hl2 B2 b2)
    | (refine wpList_bld _ rfl _ _ rfl (B (List.replicate 32 0)) (by kernel_rfl) ?_)
    | (refine wpList_sto _ rfl _ _ _ rfl g2 _ _ rfl rfl B2 (by rw [B_size]; exact size_hash) rfl (B_one _) ?_; intro w3 B3 g3))
  exact bodyPost_ret (v := .tuple #[.agg (B (List.replicate 32 0)), .int .i64 4]) (results_row_tmp rfl _ _ g2 _ _ _ _ rfl rfl B3 Tryd.underlying26 (by rw [B_size]; exact size_hash)) rfl ⟨rfl, below_row (grow_trans b1 b2) g3 (Nat.le_trans b1.size hg2)⟩

set_option maxHeartbeats 2000000 in
theorem entry_short (K : List Int) (v : Value) (zs : List Int) (w : World) (hk : K.length = 32) (bk : Bytes K) (h : Reads w v zs) (hL : Laid w) (hl : zs.length ≤ 1024) : Calls Tryd.prog 17 #[.agg (B K), v] w fun e w' => e = .returned (.tuple #[.agg (B (dig (1 :: (K ++ dig (3 :: zs))))), .int .i64 0]) ∧ Below w.heap.size w w' := by
  obtain ⟨D, hD⟩ : ∃ D, D = dig (1 :: (K ++ dig (3 :: zs))) := ⟨_, rfl⟩
  obtain ⟨E, hE⟩ : ∃ E, E = dig (3 :: zs) := ⟨_, rfl⟩
  have HD := hidden hD
  have HSZ : Hid ((B D).size = 32) := by rw [B_size, hD]; exact dig_length _
  have HKZ : Hid ((B K).size = 32) := by rw [B_size]; exact hk
  have HV : Hid (∀ w', Below w.heap.size w w' → Calls Tryd.prog 11 #[v] w' fun e w'' => e = .returned (.agg (B E)) ∧ Below w'.heap.size w' w'') := by
    intro w' hw'
    rw [hE]
    exact value_any v zs w' (h.grow hw') (hL.grow hw') (by omega)
  have HF : Hid (∀ w', Below w.heap.size w w' → Calls Tryd.prog 13 #[.agg (B K), .agg (B E)] w' fun e w'' => e = .returned (.agg (B D)) ∧ Below w'.heap.size w' w'') := by
    intro w' hw'
    rw [hD, ← hE]
    exact leaf_any K E w' hk (by rw [hE]; exact dig_length _) bk (by rw [hE]; exact dig_bytes _) (hL.grow hw')
  rw [← hD]
  obtain ⟨va, vc, rfl, _, _, _, _⟩ := h
  have hgt : ¬ (1024 : Int) < (zs.length : Int) := by omega
  generalize zs.length = n at *
  clear hD hE hk bk
  go_enter Tryd.func17, Tryd.ntmps17
  go_wp2_with (first
    | (refine wpList_bx _ rfl _ _ rfl _ rfl ?_; intro w1 g1 hg1 hl1 B1 b1)
    | (refine wpList_al _ rfl _ rfl _ zero_hash ?_; intro w2 g2 hg2 hl2 B2 b2))
  have c2 := b1.trans (b2.mono b1.size)
  have HB1 := hidden (B1.grow b2)
  have HB2 := hidden B2
  have hd2 : Below w2.heap.size w2 w2.drew := (Below.refl _ _).drew
  have hiK : (Tryd.prog.info? 24).map (·.size) = some (B K).toList.length := by rw [Array.length_toList, HKZ.out]; kernel_rfl
  clear B1 B2
  refine wp_region_held_drew (S := fun w' => w'.rangeAt g1 0 (B K).toList) (by kernel_rfl) ((HB1.out.grow hd2).range) (fun hHeld => ?_)
  refine wpAnyH_take (i := 0) (v := .agg (B K)) rfl (by kernel_rfl) (by kernel_rfl) (by kernel_rfl) (fun _ _ _ h => h) (yieldsIf_load_mid rfl 24 (.tmp 2) rfl g1 0 rfl (B K).toList _ (fun w hS => hS) Tryd.underlying24 rfl hiK) hHeld ?_
  simp only [Act.put, List.getElem_toArray, List.getElem_cons_zero, List.setIfInBounds_toArray, List.set_cons_zero, List.set_cons_succ]
  refine wpAnyH_take (i := 1) (v := .slice va n vc) rfl (by kernel_rfl) (by kernel_rfl) (by kernel_rfl) (fun _ _ _ h => h) (Or.inl ⟨by rfl, fun w hS => by go_simp⟩) hHeld ?_
  simp only [Act.put, List.getElem_toArray, List.getElem_cons_zero, List.getElem_cons_succ, List.setIfInBounds_toArray, List.set_cons_zero, List.set_cons_succ]
  refine wpAnyH_ready (rs := [2]) (by kernel_rfl) (by simp) ?_
  refine AllReadyH.cons rfl (fun K1 hK => ?_) AllReadyH.nil
  go_simp
  refine (HV.out _ (grow_trans c2 hd2)).mono ?_
  rintro e w3 ⟨rfl, b3⟩
  have hd3 := grow_trans hd2 b3
  refine hK.out _ _ ((HB1.out.grow hd3).range) (fun hHeld => ?_)
  clear hK K1
  refine wpAnyH_ready (rs := [3]) (by kernel_rfl) (by simp) ?_
  refine AllReadyH.cons rfl (fun K1 hK => ?_) AllReadyH.nil
  go_simp
  refine (HF.out _ (grow_trans c2 hd3)).mono ?_
  rintro e w4 ⟨rfl, b4⟩
  have hd4 := grow_trans hd3 b4
  refine hK.out _ _ ((HB1.out.grow hd4).range) (fun hHeld => ?_)
  clear hK K1
  have B4 := HB2.out.grow hd4
  refine wpAnyH_ready (rs := [4]) (by kernel_rfl) (by simp) ?_
  refine AllReadyH.cons rfl (fun K1 hK => ?_) AllReadyH.nil
  refine step_sto _ rfl _ _ _ rfl g2 _ (B D) rfl rfl B4 (by rw [HSZ.out]; exact size_hash) (by rw [HSZ.out, B_size]; simp) (B_one _) ?_
  intro w5 B5 g5
  refine hK.out _ _ (((HB1.out.grow hd4).kept g5 (by omega)).range) (fun hHeld => ?_)
  clear hK K1
  refine wpAnyH_take (i := 5) (v := .int .i64 0) rfl (by kernel_rfl) (by kernel_rfl) (by kernel_rfl) (fun _ _ _ h => h) (Or.inl ⟨by rfl, fun w hS => by go_simp⟩) hHeld ?_
  simp only [Act.put, List.getElem_toArray, List.getElem_cons_zero, List.getElem_cons_succ, List.setIfInBounds_toArray, List.set_cons_zero, List.set_cons_succ]
  refine wpAnyH_done (by kernel_rfl) ?_ _
  go_wp2_with fail
  exact bodyPost_ret (v := .tuple #[.agg (B D), .int .i64 0]) (results_row_tmp rfl _ _ g2 _ _ _ _ rfl rfl B5 Tryd.underlying26 (by rw [HSZ.out]; exact size_hash)) rfl ⟨rfl, below_row (grow_trans c2 hd4) g5 (Nat.le_trans b1.size hg2)⟩

set_option maxHeartbeats 1000000 in
theorem refEntry_long (K : List Int) (v : Value) (zs : List Int) (w : World) (h : Reads w v zs) (hl : 1024 < zs.length) (hm : zs.length ≤ 140737488355328) : Calls Tryd.prog 18 #[.agg (B K), v] w fun e w' => e = .returned (.tuple #[.agg (B (List.replicate 32 0)), .int .i64 4]) ∧ Below w.heap.size w w' := by
  obtain ⟨va, vc, rfl, _, _, _, _⟩ := h
  have hgt : (1024 : Int) < (zs.length : Int) := by omega
  generalize zs.length = n at *
  go_enter Tryd.func18, Tryd.ntmps18
  go_wp2_with (first
    | (refine wpList_bx _ rfl _ _ rfl _ rfl ?_; intro w1 g1 hg1 hl1 B1 b1)
    | (refine wpList_al _ rfl _ rfl _ zero_b32 ?_; intro w2 g2 hg2 hl2 B2 b2)
    | (refine wpList_bld _ rfl _ _ rfl (B (List.replicate 32 0)) (by kernel_rfl) ?_)
    | (refine wpList_sto _ rfl _ _ _ rfl g2 _ _ rfl rfl B2 (by rw [B_size]; exact size_b32) rfl (B_one _) ?_; intro w3 B3 g3))
  exact bodyPost_ret (v := .tuple #[.agg (B (List.replicate 32 0)), .int .i64 4]) (results_row_tmp rfl _ _ g2 _ _ _ _ rfl rfl B3 Tryd.underlying23 (by rw [B_size]; exact size_b32)) rfl ⟨rfl, below_row (grow_trans b1 b2) g3 (Nat.le_trans b1.size hg2)⟩

set_option maxHeartbeats 2000000 in
theorem refEntry_short (K : List Int) (v : Value) (zs : List Int) (w : World) (hk : K.length = 32) (bk : Bytes K) (h : Reads w v zs) (hl : zs.length ≤ 1024) : Calls Tryd.prog 18 #[.agg (B K), v] w fun e w' => e = .returned (.tuple #[.agg (B (dig (1 :: (K ++ dig (3 :: zs))))), .int .i64 0]) ∧ Below w.heap.size w w' := by
  obtain ⟨D, hD⟩ : ∃ D, D = dig (1 :: (K ++ dig (3 :: zs))) := ⟨_, rfl⟩
  obtain ⟨E, hE⟩ : ∃ E, E = dig (3 :: zs) := ⟨_, rfl⟩
  have HD := hidden hD
  have HSZ : Hid ((B D).size = 32) := by rw [B_size, hD]; exact dig_length _
  have HKZ : Hid ((B K).size = 32) := by rw [B_size]; exact hk
  have HV : Hid (∀ w', Below w.heap.size w w' → Calls Tryd.prog 12 #[v] w' fun e w'' => e = .returned (.agg (B E)) ∧ Below w'.heap.size w' w'') := by
    intro w' hw'
    rw [hE]
    exact refValue_any v zs w' (h.grow hw') (by omega)
  have HF : Hid (∀ w', Below w.heap.size w w' → Calls Tryd.prog 14 #[.agg (B K), .agg (B E)] w' fun e w'' => e = .returned (.agg (B D)) ∧ Below w'.heap.size w' w'') := by
    intro w' hw'
    rw [hD, ← hE]
    exact refLeaf_any K E w' hk (by rw [hE]; exact dig_length _) bk (by rw [hE]; exact dig_bytes _)
  rw [← hD]
  obtain ⟨va, vc, rfl, _, _, _, _⟩ := h
  have hgt : ¬ (1024 : Int) < (zs.length : Int) := by omega
  generalize zs.length = n at *
  clear hD hE hk bk
  go_enter Tryd.func18, Tryd.ntmps18
  go_wp2_with (first
    | (refine wpList_bx _ rfl _ _ rfl _ rfl ?_; intro w1 g1 hg1 hl1 B1 b1)
    | (refine wpList_al _ rfl _ rfl _ zero_b32 ?_; intro w2 g2 hg2 hl2 B2 b2))
  have c2 := b1.trans (b2.mono b1.size)
  have HB1 := hidden (B1.grow b2)
  have HB2 := hidden B2
  have hd2 : Below w2.heap.size w2 w2.drew := (Below.refl _ _).drew
  have hiK : (Tryd.prog.info? 23).map (·.size) = some (B K).toList.length := by rw [Array.length_toList, HKZ.out]; kernel_rfl
  clear B1 B2
  refine wp_region_held_drew (S := fun w' => w'.rangeAt g1 0 (B K).toList) (by kernel_rfl) ((HB1.out.grow hd2).range) (fun hHeld => ?_)
  refine wpAnyH_take (i := 0) (v := .agg (B K)) rfl (by kernel_rfl) (by kernel_rfl) (by kernel_rfl) (fun _ _ _ h => h) (yieldsIf_load_mid rfl 23 (.tmp 2) rfl g1 0 rfl (B K).toList _ (fun w hS => hS) Tryd.underlying23 rfl hiK) hHeld ?_
  simp only [Act.put, List.getElem_toArray, List.getElem_cons_zero, List.setIfInBounds_toArray, List.set_cons_zero, List.set_cons_succ]
  refine wpAnyH_take (i := 1) (v := .slice va n vc) rfl (by kernel_rfl) (by kernel_rfl) (by kernel_rfl) (fun _ _ _ h => h) (Or.inl ⟨by rfl, fun w hS => by go_simp⟩) hHeld ?_
  simp only [Act.put, List.getElem_toArray, List.getElem_cons_zero, List.getElem_cons_succ, List.setIfInBounds_toArray, List.set_cons_zero, List.set_cons_succ]
  refine wpAnyH_ready (rs := [2]) (by kernel_rfl) (by simp) ?_
  refine AllReadyH.cons rfl (fun K1 hK => ?_) AllReadyH.nil
  go_simp
  refine (HV.out _ (grow_trans c2 hd2)).mono ?_
  rintro e w3 ⟨rfl, b3⟩
  have hd3 := grow_trans hd2 b3
  refine hK.out _ _ ((HB1.out.grow hd3).range) (fun hHeld => ?_)
  clear hK K1
  refine wpAnyH_ready (rs := [3]) (by kernel_rfl) (by simp) ?_
  refine AllReadyH.cons rfl (fun K1 hK => ?_) AllReadyH.nil
  go_simp
  refine (HF.out _ (grow_trans c2 hd3)).mono ?_
  rintro e w4 ⟨rfl, b4⟩
  have hd4 := grow_trans hd3 b4
  refine hK.out _ _ ((HB1.out.grow hd4).range) (fun hHeld => ?_)
  clear hK K1
  have B4 := HB2.out.grow hd4
  refine wpAnyH_ready (rs := [4]) (by kernel_rfl) (by simp) ?_
  refine AllReadyH.cons rfl (fun K1 hK => ?_) AllReadyH.nil
  refine step_sto _ rfl _ _ _ rfl g2 _ (B D) rfl rfl B4 (by rw [HSZ.out]; exact size_b32) (by rw [HSZ.out, B_size]; simp) (B_one _) ?_
  intro w5 B5 g5
  refine hK.out _ _ (((HB1.out.grow hd4).kept g5 (by omega)).range) (fun hHeld => ?_)
  clear hK K1
  refine wpAnyH_take (i := 5) (v := .int .i64 0) rfl (by kernel_rfl) (by kernel_rfl) (by kernel_rfl) (fun _ _ _ h => h) (Or.inl ⟨by rfl, fun w hS => by go_simp⟩) hHeld ?_
  simp only [Act.put, List.getElem_toArray, List.getElem_cons_zero, List.getElem_cons_succ, List.setIfInBounds_toArray, List.set_cons_zero, List.set_cons_succ]
  refine wpAnyH_done (by kernel_rfl) ?_ _
  go_wp2_with fail
  exact bodyPost_ret (v := .tuple #[.agg (B D), .int .i64 0]) (results_row_tmp rfl _ _ g2 _ _ _ _ rfl rfl B5 Tryd.underlying23 (by rw [HSZ.out]; exact size_b32)) rfl ⟨rfl, below_row (grow_trans c2 hd4) g5 (Nat.le_trans b1.size hg2)⟩

end Go.Proofs.YtacfhkaihcclaaaDoor
