/- The document's Decode of nodes, as a contract. -/
import Derived.Test.YtjcklpdifanjlaaDoorNodeRef2
import Derived.Test.YtjcklpdifanjlaaDoorRef4c
namespace Go.Proofs.YtjcklpdifanjlaaDoor
set_option maxRecDepth 20000
open Go.RowKit

theorem reads_seg {w : World} {b off c : Nat} {zs : List Int} (hc : ∀ i, i < zs.length → w.cell? ⟨b, off + i, none⟩ = some (.int .u8 (zs.getD i 0))) (o n : Nat) (xs : List Int) (hs : Seg zs o xs) (hn : xs.length = n) (hb : Bytes xs) (hcap : n ≤ c) : Reads w (.slice (some ⟨b, off + o, none⟩) n c) xs := by
  subst hn
  refine ⟨_, _, rfl, hcap, fun h => (by cases h), hb, fun _ => ⟨b, off + o, rfl, fun i hi => ?_⟩⟩
  have h1 := hs i xs[i] (by simp)
  obtain ⟨h2, h3⟩ := List.getElem?_eq_some_iff.1 h1
  rw [Nat.add_assoc, hc (o + i) h2]
  simp [List.getD, h2, h3, hi]

set_option maxHeartbeats 2000000 in
theorem refDecode_leaf (v : Value) (zs : List Int) (w : World) (h : Reads w v zs) (hl : zs.length = 65) (h0 : zs.getD 0 0 = 1) : Calls Tryd.prog 14 #[v] w (DecPost zs w) := by
  obtain ⟨fs, hu⟩ := u_node
  have HU := hidden hu
  obtain ⟨a, c, rfl, h1, _, hby, h4⟩ := h
  obtain ⟨b, off, rfl, hc⟩ := h4 (by omega)
  obtain ⟨A, hAd⟩ : ∃ A, A = dcA zs := ⟨_, rfl⟩
  obtain ⟨V, hVd⟩ : ∃ V, V = dcB zs := ⟨_, rfl⟩
  have hA : A.length = 32 := by rw [hAd]; exact dcA_length zs hl
  have hV : V.length = 32 := by rw [hVd]; exact dcB_length zs hl
  have bA : Bytes A := by rw [hAd]; exact dcA_bytes zs hby
  have bV : Bytes V := by rw [hVd]; exact dcB_bytes zs hby
  have hck : ∀ w', Below w.heap.size w w' → ∀ i, i < zs.length → w'.cell? ⟨b, off + i, none⟩ = some (.int .u8 (zs.getD i 0)) := fun w' hw' i hi => (hw'.cell (p := ⟨b, off + i, none⟩) (block_lt_of_cell (hc i hi))).trans (hc i hi)
  have HC0 : Hid (∀ w', Below w.heap.size w w' → w'.cell? ⟨b, off, none⟩ = some (.int .u8 1)) := fun w' hw' => by
    have := hck w' hw' 0 (by omega)
    rwa [h0, Nat.add_zero] at this
  have HOA : Hid (∀ w', Below w.heap.size w w' → Calls Tryd.prog 47 #[.slice (some ⟨b, off + 1, none⟩) 32 (c - 1)] w' fun e w'' => e = .returned (.tuple #[.agg (B A), .int .i64 0]) ∧ Below w'.heap.size w' w'') := fun w' hw' => rof_in _ A w' (reads_seg (hck w' hw') 1 32 A (by rw [hAd]; exact dc_segA zs) hA bA (by omega)) hA
  have HOV : Hid (∀ w', Below w.heap.size w w' → Calls Tryd.prog 47 #[.slice (some ⟨b, off + 33, none⟩) 32 (c - 33)] w' fun e w'' => e = .returned (.tuple #[.agg (B V), .int .i64 0]) ∧ Below w'.heap.size w' w'') := fun w' hw' => rof_in _ V w' (reads_seg (hck w' hw') 33 32 V (by rw [hVd]; exact dc_segB zs) hV bV (by omega)) hV
  have HB : Hid (Tryd.prog.built 27 [(0, .int .u8 1), (1, .agg (B A)), (2, .agg (B V))] = some (B (nd 1 A V z32 z32))) := built_leaf A V hA hV
  have HN : Hid (Nd 1 A V z32 z32) := ⟨by omega, by omega, hA, hV, rfl, rfl, bA, bV, z32_bytes, z32_bytes⟩
  have HX : Hid (∀ w', Below w.heap.size w w' → DecPost zs w (.returned (.tuple #[.agg (B (nd 1 A V z32 z32)), .int .i64 0])) w') := fun w' hb => ⟨by
    have e1 : dcN zs = nd 1 A V z32 z32 := by rw [dcN, if_pos ⟨hl, h0⟩, hAd, hVd]
    have e2 : dcE zs = 0 := by rw [dcE, if_pos ⟨hl, h0⟩]
    rw [e1, e2], hb⟩
  obtain ⟨R, hR⟩ : ∃ R, R = nd 1 A V z32 z32 := ⟨_, rfl⟩
  have HRS : Hid ((B R).size = 129) := by show _ = _; rw [hR]; exact HN.out.size
  rw [← hR] at HB HX
  have HSA : Hid ((Tryd.prog.info? 23).map (·.size) = some (B A).size) := by show _ = _; rw [B_size, hA]; exact size_b32
  have HSV : Hid ((Tryd.prog.info? 23).map (·.size) = some (B V).size) := by show _ = _; rw [B_size, hV]; exact size_b32
  have HZA : Hid ((B (List.replicate 32 0)).size = (B A).size) := by show _ = _; rw [B_size, B_size, hA]; rfl
  have HZV : Hid ((B (List.replicate 32 0)).size = (B V).size) := by show _ = _; rw [B_size, B_size, hV]; rfl
  rw [hl] at h1 ⊢
  have hc1 : (33 : Int) ≤ (c : Int) := by omega
  have hif1 : (if c - 1 = 0 then off else off + 1) = off + 1 := if_neg (by omega)
  have hif2 : (if c - 33 = 0 then off else off + 33) = off + 33 := if_neg (by omega)
  have hne1 : ¬ c = 1 := by omega
  have hne33 : ¬ c = 33 := by omega
  clear h4 hc hAd hVd hA hV hu hR h0 hby hck bA bV
  go_enter Tryd.func14, Tryd.ntmps14
  go_wp2_with (first
    | ((with_reducible refine at_ald 2 ?_); refine wpList_al _ rfl _ rfl _ zero_node ?_; intro w1 g2 hg2 hl1 B2 b1; have ck := HC0.out _ b1; have KA := hidden B2.kp; have c1 := b1)
    | (go_at_call 47; have mk := mk1; refine (HOV.out _ c1).mono ?_; rintro e w5 ⟨rfl, q5⟩; clear mk mk1; have cc := grow_trans c1 q5; clear c1; have c1 := cc; clear cc; replace KA := hidden (KA.out.step q5); replace KB := hidden (KB.out.step q5); replace ck := HC0.out _ c1)
    | (go_at_call 47; refine (HOA.out _ c1).mono ?_; rintro e w2 ⟨rfl, q2⟩; have mk1 : Hid True := trivial; have cc := grow_trans c1 q2; clear c1; have c1 := cc; clear cc; replace KA := hidden (KA.out.step q2); replace ck := HC0.out _ c1)
    | ((with_reducible refine at_ald 4 ?_); refine wpList_al _ rfl _ rfl _ zero_b32 ?_; intro w3 g4 hg4 hl3 B4 q3)
    | ((with_reducible refine at_st 4 ?_); refine wpList_sto _ rfl _ _ _ rfl g4 _ (B A) rfl rfl B4 HSA.out HZA.out (B_one _) ?_; intro w4 by4 r4; have q4 := below_row q3 r4 hg4; have cc := grow_trans c1 q4; clear c1; have c1 := cc; clear cc; replace KA := hidden (KA.out.step q4); have KB := hidden by4.kp; replace ck := HC0.out _ c1)
    | ((with_reducible refine at_ald 6 ?_); refine wpList_al _ rfl _ rfl _ zero_b32 ?_; intro w6 g6 hg6 hl6 B6 q6)
    | ((with_reducible refine at_st 6 ?_); refine wpList_sto _ rfl _ _ _ rfl g6 _ (B V) rfl rfl B6 HSV.out HZV.out (B_one _) ?_; intro w7 by7 r7; have q7 := below_row q6 r7 hg6; have cc := grow_trans c1 q7; clear c1; have c1 := cc; clear cc; replace KA := hidden (KA.out.step q7); replace KB := hidden (KB.out.step q7); have KC := hidden by7.kp; replace ck := HC0.out _ c1)
    | ((with_reducible refine at_ldd 50 4 ?_); refine wpList_ld _ rfl _ _ rfl g4 _ rfl KB.out.now _ _ Tryd.underlying23 HSA.out ?_)
    | ((with_reducible refine at_ldd 51 6 ?_); refine wpList_ld _ rfl _ _ rfl g6 _ rfl KC.out.now _ _ Tryd.underlying23 HSV.out ?_)
    | ((with_reducible refine at_bdd 52 ?_); refine wpList_bld _ rfl _ _ rfl _ (by rw [List.map_toArray]; exact HB.out) ?_)
    | ((with_reducible refine at_st 2 ?_); refine wpList_sto _ rfl _ _ _ rfl g2 _ (B R) rfl rfl KA.out.now (by rw [HRS.out]; exact size_node) (by rw [HRS.out]; rfl) (B_one _) ?_; intro w8 B8 r8))
  exact bodyPost_ret (v := .tuple #[.agg (B R), .int .i64 0]) (results_agg_tmp rfl _ _ g2 _ _ rfl rfl B8 HU.out (by rw [HRS.out]; exact size_node)) rfl (HX.out _ (below_row c1 r8 hg2))

set_option maxHeartbeats 2000000 in
theorem refDecode_inner (v : Value) (zs : List Int) (w : World) (h : Reads w v zs) (hl : zs.length = 65) (h0 : zs.getD 0 0 = 2) : Calls Tryd.prog 14 #[v] w (DecPost zs w) := by
  obtain ⟨fs, hu⟩ := u_node
  have HU := hidden hu
  obtain ⟨a, c, rfl, h1, _, hby, h4⟩ := h
  obtain ⟨b, off, rfl, hc⟩ := h4 (by omega)
  obtain ⟨A, hAd⟩ : ∃ A, A = dcA zs := ⟨_, rfl⟩
  obtain ⟨V, hVd⟩ : ∃ V, V = dcB zs := ⟨_, rfl⟩
  have hA : A.length = 32 := by rw [hAd]; exact dcA_length zs hl
  have hV : V.length = 32 := by rw [hVd]; exact dcB_length zs hl
  have bA : Bytes A := by rw [hAd]; exact dcA_bytes zs hby
  have bV : Bytes V := by rw [hVd]; exact dcB_bytes zs hby
  have hck : ∀ w', Below w.heap.size w w' → ∀ i, i < zs.length → w'.cell? ⟨b, off + i, none⟩ = some (.int .u8 (zs.getD i 0)) := fun w' hw' i hi => (hw'.cell (p := ⟨b, off + i, none⟩) (block_lt_of_cell (hc i hi))).trans (hc i hi)
  have HC0 : Hid (∀ w', Below w.heap.size w w' → w'.cell? ⟨b, off, none⟩ = some (.int .u8 2)) := fun w' hw' => by
    have := hck w' hw' 0 (by omega)
    rwa [h0, Nat.add_zero] at this
  have HOA : Hid (∀ w', Below w.heap.size w w' → Calls Tryd.prog 47 #[.slice (some ⟨b, off + 1, none⟩) 32 (c - 1)] w' fun e w'' => e = .returned (.tuple #[.agg (B A), .int .i64 0]) ∧ Below w'.heap.size w' w'') := fun w' hw' => rof_in _ A w' (reads_seg (hck w' hw') 1 32 A (by rw [hAd]; exact dc_segA zs) hA bA (by omega)) hA
  have HOV : Hid (∀ w', Below w.heap.size w w' → Calls Tryd.prog 47 #[.slice (some ⟨b, off + 33, none⟩) 32 (c - 33)] w' fun e w'' => e = .returned (.tuple #[.agg (B V), .int .i64 0]) ∧ Below w'.heap.size w' w'') := fun w' hw' => rof_in _ V w' (reads_seg (hck w' hw') 33 32 V (by rw [hVd]; exact dc_segB zs) hV bV (by omega)) hV
  have HB : Hid (Tryd.prog.built 27 [(0, .int .u8 2), (3, .agg (B A)), (4, .agg (B V))] = some (B (nd 2 z32 z32 A V))) := built_inner A V hA hV
  have HN : Hid (Nd 2 z32 z32 A V) := ⟨by omega, by omega, rfl, rfl, hA, hV, z32_bytes, z32_bytes, bA, bV⟩
  have HX : Hid (∀ w', Below w.heap.size w w' → DecPost zs w (.returned (.tuple #[.agg (B (nd 2 z32 z32 A V)), .int .i64 0])) w') := fun w' hb => ⟨by
    have e1 : dcN zs = nd 2 z32 z32 A V := by rw [dcN, if_neg (by omega), if_pos ⟨hl, h0⟩, hAd, hVd]
    have e2 : dcE zs = 0 := by rw [dcE, if_neg (by omega), if_pos ⟨hl, h0⟩]
    rw [e1, e2], hb⟩
  obtain ⟨R, hR⟩ : ∃ R, R = nd 2 z32 z32 A V := ⟨_, rfl⟩
  have HRS : Hid ((B R).size = 129) := by show _ = _; rw [hR]; exact HN.out.size
  rw [← hR] at HB HX
  have HSA : Hid ((Tryd.prog.info? 23).map (·.size) = some (B A).size) := by show _ = _; rw [B_size, hA]; exact size_b32
  have HSV : Hid ((Tryd.prog.info? 23).map (·.size) = some (B V).size) := by show _ = _; rw [B_size, hV]; exact size_b32
  have HZA : Hid ((B (List.replicate 32 0)).size = (B A).size) := by show _ = _; rw [B_size, B_size, hA]; rfl
  have HZV : Hid ((B (List.replicate 32 0)).size = (B V).size) := by show _ = _; rw [B_size, B_size, hV]; rfl
  rw [hl] at h1 ⊢
  have hc1 : (33 : Int) ≤ (c : Int) := by omega
  have hif1 : (if c - 1 = 0 then off else off + 1) = off + 1 := if_neg (by omega)
  have hif2 : (if c - 33 = 0 then off else off + 33) = off + 33 := if_neg (by omega)
  have hne1 : ¬ c = 1 := by omega
  have hne33 : ¬ c = 33 := by omega
  clear h4 hc hAd hVd hA hV hu hR h0 hby hck bA bV
  go_enter Tryd.func14, Tryd.ntmps14
  go_wp2_with (first
    | ((with_reducible refine at_ald 2 ?_); refine wpList_al _ rfl _ rfl _ zero_node ?_; intro w1 g2 hg2 hl1 B2 b1; have ck := HC0.out _ b1; have KA := hidden B2.kp; have c1 := b1)
    | (go_at_call 47; have mk := mk1; refine (HOV.out _ c1).mono ?_; rintro e w5 ⟨rfl, q5⟩; clear mk mk1; have cc := grow_trans c1 q5; clear c1; have c1 := cc; clear cc; replace KA := hidden (KA.out.step q5); replace KB := hidden (KB.out.step q5); replace ck := HC0.out _ c1)
    | (go_at_call 47; refine (HOA.out _ c1).mono ?_; rintro e w2 ⟨rfl, q2⟩; have mk1 : Hid True := trivial; have cc := grow_trans c1 q2; clear c1; have c1 := cc; clear cc; replace KA := hidden (KA.out.step q2); replace ck := HC0.out _ c1)
    | ((with_reducible refine at_ald 4 ?_); refine wpList_al _ rfl _ rfl _ zero_b32 ?_; intro w3 g4 hg4 hl3 B4 q3)
    | ((with_reducible refine at_st 4 ?_); refine wpList_sto _ rfl _ _ _ rfl g4 _ (B A) rfl rfl B4 HSA.out HZA.out (B_one _) ?_; intro w4 by4 r4; have q4 := below_row q3 r4 hg4; have cc := grow_trans c1 q4; clear c1; have c1 := cc; clear cc; replace KA := hidden (KA.out.step q4); have KB := hidden by4.kp; replace ck := HC0.out _ c1)
    | ((with_reducible refine at_ald 6 ?_); refine wpList_al _ rfl _ rfl _ zero_b32 ?_; intro w6 g6 hg6 hl6 B6 q6)
    | ((with_reducible refine at_st 6 ?_); refine wpList_sto _ rfl _ _ _ rfl g6 _ (B V) rfl rfl B6 HSV.out HZV.out (B_one _) ?_; intro w7 by7 r7; have q7 := below_row q6 r7 hg6; have cc := grow_trans c1 q7; clear c1; have c1 := cc; clear cc; replace KA := hidden (KA.out.step q7); replace KB := hidden (KB.out.step q7); have KC := hidden by7.kp; replace ck := HC0.out _ c1)
    | ((with_reducible refine at_ldd 53 4 ?_); refine wpList_ld _ rfl _ _ rfl g4 _ rfl KB.out.now _ _ Tryd.underlying23 HSA.out ?_)
    | ((with_reducible refine at_ldd 54 6 ?_); refine wpList_ld _ rfl _ _ rfl g6 _ rfl KC.out.now _ _ Tryd.underlying23 HSV.out ?_)
    | ((with_reducible refine at_bdd 55 ?_); refine wpList_bld _ rfl _ _ rfl _ (by rw [List.map_toArray]; exact HB.out) ?_)
    | ((with_reducible refine at_st 2 ?_); refine wpList_sto _ rfl _ _ _ rfl g2 _ (B R) rfl rfl KA.out.now (by rw [HRS.out]; exact size_node) (by rw [HRS.out]; rfl) (B_one _) ?_; intro w8 B8 r8))
  exact bodyPost_ret (v := .tuple #[.agg (B R), .int .i64 0]) (results_agg_tmp rfl _ _ g2 _ _ rfl rfl B8 HU.out (by rw [HRS.out]; exact size_node)) rfl (HX.out _ (below_row c1 r8 hg2))

set_option maxHeartbeats 2000000 in
theorem refDecode_empty (v : Value) (zs : List Int) (w : World) (h : Reads w v zs) (hl : zs.length = 1) (h0 : zs.getD 0 0 = 0) (hx1 : dcN zs = nd 0 z32 z32 z32 z32) (hx2 : dcE zs = 0) : Calls Tryd.prog 14 #[v] w (DecPost zs w) := by
  obtain ⟨fs, hu⟩ := u_node
  have HU := hidden hu
  have HX : Hid (∀ w', Below w.heap.size w w' → DecPost zs w (.returned (.tuple #[.agg (B (nd 0 z32 z32 z32 z32)), .int .i64 0])) w') := fun w' hb => ⟨by rw [hx1, hx2], hb⟩
  obtain ⟨R, hR⟩ : ∃ R, R = nd 0 z32 z32 z32 z32 := ⟨_, rfl⟩
  have HRS : Hid ((B R).size = 129) := by show _ = _; rw [hR]; exact z_nd.size
  have HB : Hid (Tryd.prog.built 27 [] = some (B R)) := by rw [hR]; exact built_empty
  rw [← hR] at HX
  obtain ⟨a, c, rfl, hcap, _, _, h4⟩ := h
  obtain ⟨b, off, rfl, hc⟩ := h4 (by omega)
  have HC0 : Hid (∀ w', Below w.heap.size w w' → w'.cell? ⟨b, off, none⟩ = some (.int .u8 (zs.getD 0 0))) := fun w' hw' => by
    have := (hw'.cell (p := ⟨b, off + 0, none⟩) (block_lt_of_cell (hc 0 (by omega)))).trans (hc 0 (by omega))
    rwa [Nat.add_zero] at this
  obtain ⟨z, hz⟩ : ∃ z, z = zs.getD 0 0 := ⟨_, rfl⟩
  rw [← hz] at HC0 h0
  rw [hl]
  have z0 : (z == 0) = true := by simp [h0]
  clear hc h4 hu hR hx1 hx2 hcap hl hz h0
  go_enter Tryd.func14, Tryd.ntmps14
  go_wp2_with (first
    | ((with_reducible refine at_ald 2 ?_); refine wpList_al _ rfl _ rfl _ zero_node ?_; intro w1 g2 hg2 hl1 B2 b1; have ck := HC0.out _ b1)
    | ((with_reducible refine at_bd ?_); refine wpList_bld _ rfl _ _ rfl _ (by rw [List.map_toArray]; exact HB.out) ?_)
    | ((with_reducible refine at_st 2 ?_); refine wpList_sto _ rfl _ _ _ rfl g2 _ (B R) rfl rfl B2 (by rw [HRS.out]; exact size_node) (by rw [HRS.out]; rfl) (B_one _) ?_; intro w8 B8 r8))
  exact bodyPost_ret (v := .tuple #[.agg (B R), .int .i64 0]) (results_agg_tmp rfl _ _ g2 _ _ rfl rfl B8 HU.out (by rw [HRS.out]; exact size_node)) rfl (HX.out _ (below_row b1 r8 hg2))

set_option maxHeartbeats 2000000 in
theorem refDecode_one (v : Value) (zs : List Int) (w : World) (h : Reads w v zs) (hl : zs.length = 1) (h0 : zs.getD 0 0 ≠ 0) (hx1 : dcN zs = nd 0 z32 z32 z32 z32) (hx2 : dcE zs = 10) : Calls Tryd.prog 14 #[v] w (DecPost zs w) := by
  obtain ⟨fs, hu⟩ := u_node
  have HU := hidden hu
  have HX : Hid (∀ w', Below w.heap.size w w' → DecPost zs w (.returned (.tuple #[.agg (B (nd 0 z32 z32 z32 z32)), .int .i64 10])) w') := fun w' hb => ⟨by rw [hx1, hx2], hb⟩
  obtain ⟨R, hR⟩ : ∃ R, R = nd 0 z32 z32 z32 z32 := ⟨_, rfl⟩
  have HRS : Hid ((B R).size = 129) := by show _ = _; rw [hR]; exact z_nd.size
  have HB : Hid (Tryd.prog.built 27 [] = some (B R)) := by rw [hR]; exact built_empty
  rw [← hR] at HX
  obtain ⟨a, c, rfl, hcap, _, _, h4⟩ := h
  obtain ⟨b, off, rfl, hc⟩ := h4 (by omega)
  have HC0 : Hid (∀ w', Below w.heap.size w w' → w'.cell? ⟨b, off, none⟩ = some (.int .u8 (zs.getD 0 0))) := fun w' hw' => by
    have := (hw'.cell (p := ⟨b, off + 0, none⟩) (block_lt_of_cell (hc 0 (by omega)))).trans (hc 0 (by omega))
    rwa [Nat.add_zero] at this
  obtain ⟨z, hz⟩ : ∃ z, z = zs.getD 0 0 := ⟨_, rfl⟩
  rw [← hz] at HC0 h0
  rw [hl]
  have z0 : (z == 0) = false := by simp [h0]
  clear hc h4 hu hR hx1 hx2 hcap hl hz h0
  go_enter Tryd.func14, Tryd.ntmps14
  go_wp2_with (first
    | ((with_reducible refine at_ald 2 ?_); refine wpList_al _ rfl _ rfl _ zero_node ?_; intro w1 g2 hg2 hl1 B2 b1; have ck := HC0.out _ b1)
    | ((with_reducible refine at_bd ?_); refine wpList_bld _ rfl _ _ rfl _ (by rw [List.map_toArray]; exact HB.out) ?_)
    | ((with_reducible refine at_st 2 ?_); refine wpList_sto _ rfl _ _ _ rfl g2 _ (B R) rfl rfl B2 (by rw [HRS.out]; exact size_node) (by rw [HRS.out]; rfl) (B_one _) ?_; intro w8 B8 r8))
  exact bodyPost_ret (v := .tuple #[.agg (B R), .int .i64 10]) (results_agg_tmp rfl _ _ g2 _ _ rfl rfl B8 HU.out (by rw [HRS.out]; exact size_node)) rfl (HX.out _ (below_row b1 r8 hg2))

set_option maxHeartbeats 2000000 in
theorem refDecode_odd (v : Value) (zs : List Int) (w : World) (h : Reads w v zs) (hl : zs.length = 65) (h0 : zs.getD 0 0 ≠ 1 ∧ zs.getD 0 0 ≠ 2) (hx1 : dcN zs = nd 0 z32 z32 z32 z32) (hx2 : dcE zs = 10) : Calls Tryd.prog 14 #[v] w (DecPost zs w) := by
  obtain ⟨fs, hu⟩ := u_node
  have HU := hidden hu
  have HX : Hid (∀ w', Below w.heap.size w w' → DecPost zs w (.returned (.tuple #[.agg (B (nd 0 z32 z32 z32 z32)), .int .i64 10])) w') := fun w' hb => ⟨by rw [hx1, hx2], hb⟩
  obtain ⟨R, hR⟩ : ∃ R, R = nd 0 z32 z32 z32 z32 := ⟨_, rfl⟩
  have HRS : Hid ((B R).size = 129) := by show _ = _; rw [hR]; exact z_nd.size
  have HB : Hid (Tryd.prog.built 27 [] = some (B R)) := by rw [hR]; exact built_empty
  rw [← hR] at HX
  obtain ⟨a, c, rfl, hcap, _, _, h4⟩ := h
  obtain ⟨b, off, rfl, hc⟩ := h4 (by omega)
  have HC0 : Hid (∀ w', Below w.heap.size w w' → w'.cell? ⟨b, off, none⟩ = some (.int .u8 (zs.getD 0 0))) := fun w' hw' => by
    have := (hw'.cell (p := ⟨b, off + 0, none⟩) (block_lt_of_cell (hc 0 (by omega)))).trans (hc 0 (by omega))
    rwa [Nat.add_zero] at this
  obtain ⟨z, hz⟩ : ∃ z, z = zs.getD 0 0 := ⟨_, rfl⟩
  rw [← hz] at HC0 h0
  rw [hl]
  have z0 : (z == 1) = false := by simp [h0.1]
  have z2 : (z == 2) = false := by simp [h0.2]
  have z1' : (z != 1) = true := by simp [h0.1]
  have z2' : (z != 2) = true := by simp [h0.2]
  clear hc h4 hu hR hx1 hx2 hcap hl hz h0
  go_enter Tryd.func14, Tryd.ntmps14
  go_wp2_with (first
    | ((with_reducible refine at_ald 2 ?_); refine wpList_al _ rfl _ rfl _ zero_node ?_; intro w1 g2 hg2 hl1 B2 b1; have ck := HC0.out _ b1)
    | ((with_reducible refine at_bd ?_); refine wpList_bld _ rfl _ _ rfl _ (by rw [List.map_toArray]; exact HB.out) ?_)
    | ((with_reducible refine at_st 2 ?_); refine wpList_sto _ rfl _ _ _ rfl g2 _ (B R) rfl rfl B2 (by rw [HRS.out]; exact size_node) (by rw [HRS.out]; rfl) (B_one _) ?_; intro w8 B8 r8))
  exact bodyPost_ret (v := .tuple #[.agg (B R), .int .i64 10]) (results_agg_tmp rfl _ _ g2 _ _ rfl rfl B8 HU.out (by rw [HRS.out]; exact size_node)) rfl (HX.out _ (below_row b1 r8 hg2))

set_option maxHeartbeats 2000000 in
theorem refDecode_len (v : Value) (zs : List Int) (w : World) (h : Reads w v zs) (hl : zs.length ≠ 1) (h0 : zs.length ≠ 65) (hx1 : dcN zs = nd 0 z32 z32 z32 z32) (hx2 : dcE zs = 10) : Calls Tryd.prog 14 #[v] w (DecPost zs w) := by
  obtain ⟨fs, hu⟩ := u_node
  have HU := hidden hu
  have HX : Hid (∀ w', Below w.heap.size w w' → DecPost zs w (.returned (.tuple #[.agg (B (nd 0 z32 z32 z32 z32)), .int .i64 10])) w') := fun w' hb => ⟨by rw [hx1, hx2], hb⟩
  obtain ⟨R, hR⟩ : ∃ R, R = nd 0 z32 z32 z32 z32 := ⟨_, rfl⟩
  have HRS : Hid ((B R).size = 129) := by show _ = _; rw [hR]; exact z_nd.size
  have HB : Hid (Tryd.prog.built 27 [] = some (B R)) := by rw [hR]; exact built_empty
  rw [← hR] at HX
  obtain ⟨a, c, rfl, hcap, _, _, h4⟩ := h
  have n1 : ((zs.length : Int) == 1) = false := by simp; omega
  have n2 : ((zs.length : Int) == 65) = false := by simp; omega
  have n3 : ((zs.length : Int) != 65) = true := by simp; omega
  clear h4 hu hR hx1 hx2 hcap hl h0
  go_enter Tryd.func14, Tryd.ntmps14
  go_wp2_with (first
    | ((with_reducible refine at_ald 2 ?_); refine wpList_al _ rfl _ rfl _ zero_node ?_; intro w1 g2 hg2 hl1 B2 b1)
    | ((with_reducible refine at_bd ?_); refine wpList_bld _ rfl _ _ rfl _ (by rw [List.map_toArray]; exact HB.out) ?_)
    | ((with_reducible refine at_st 2 ?_); refine wpList_sto _ rfl _ _ _ rfl g2 _ (B R) rfl rfl B2 (by rw [HRS.out]; exact size_node) (by rw [HRS.out]; rfl) (B_one _) ?_; intro w8 B8 r8))
  exact bodyPost_ret (v := .tuple #[.agg (B R), .int .i64 10]) (results_agg_tmp rfl _ _ g2 _ _ rfl rfl B8 HU.out (by rw [HRS.out]; exact size_node)) rfl (HX.out _ (below_row b1 r8 hg2))

theorem refDecode_any (v : Value) (zs : List Int) (w : World) (h : Reads w v zs) : Calls Tryd.prog 14 #[v] w (DecPost zs w) := by
  by_cases h1 : zs.length = 65 ∧ zs.getD 0 0 = 1
  · exact refDecode_leaf v zs w h h1.1 h1.2
  · by_cases h2 : zs.length = 65 ∧ zs.getD 0 0 = 2
    · exact refDecode_inner v zs w h h2.1 h2.2
    · have hx1 : dcN zs = nd 0 z32 z32 z32 z32 := by rw [dcN, if_neg h1, if_neg h2]
      by_cases h3 : zs.length = 1 ∧ zs.getD 0 0 = 0
      · exact refDecode_empty v zs w h h3.1 h3.2 hx1 (by rw [dcE, if_neg h1, if_neg h2, if_pos h3])
      · have hx2 : dcE zs = 10 := by rw [dcE, if_neg h1, if_neg h2, if_neg h3]
        by_cases l1 : zs.length = 1
        · exact refDecode_one v zs w h l1 (fun e => h3 ⟨l1, e⟩) hx1 hx2
        · by_cases l2 : zs.length = 65
          · exact refDecode_odd v zs w h l2 ⟨fun e => h1 ⟨l2, e⟩, fun e => h2 ⟨l2, e⟩⟩ hx1 hx2
          · exact refDecode_len v zs w h l1 l2 hx1 hx2

end Go.Proofs.YtjcklpdifanjlaaDoor
