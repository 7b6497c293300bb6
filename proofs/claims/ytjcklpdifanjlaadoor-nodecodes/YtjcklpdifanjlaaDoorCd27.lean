/- The document's Decode of nodes, as a contract. -/
import Derived.Test.YtjcklpdifanjlaaDoorCd20
import Derived.Test.YtjcklpdifanjlaaDoorCd26
import Derived.Test.YtjcklpdifanjlaaDoorCd07
import Derived.Deep.RegionHeld2
import Derived.Deep.QuietTactic
import Derived.BigQuiet
namespace Go.Proofs.YtjcklpdifanjlaaDoor
set_option maxRecDepth 20000
open Go.RowKit

theorem reads_seg {w : World} {b off c : Nat} {zs : List Int} (hc : ∀ i, i < zs.length → w.cell? ⟨b, off + i, none⟩ = some (.int .u8 (zs.getD i 0))) (o n : Nat) (xs : List Int) (hs : Seg zs o xs) (hn : xs.length = n) (hb : Bytes xs) (hcap : n ≤ c) : Reads w (.slice (some ⟨b, off + o, none⟩) n c) xs := by
  subst hn
  refine ⟨_, _, rfl, hcap, fun h => (by cases h), hb, fun _ => ⟨b, off + o, rfl, fun i hi => ?_⟩⟩
  have h1 := hs i xs[i] (by simp)
  obtain ⟨h2, h3⟩ := List.getElem?_eq_some_iff.1 h1
  rw [Nat.add_assoc, hc (o + i) h2]
  simp [List.getD, h2, h3, hi]

set_option maxHeartbeats 2000000 in
theorem refDecode_leaf (v : Value) (zs : List Int) (w : World) (h : Reads w v zs) (hl : zs.length = 65) (h0 : zs.getD 0 0 = 1) : Calls Tryd.prog 14 #[v] w (DecPost zs w) := by
  obtain ⟨fs, hu⟩ := u_node
  have HU := hidden hu
  obtain ⟨a, c, rfl, h1, _, hby, h4⟩ := h
  obtain ⟨b, off, rfl, hc⟩ := h4 (by omega)
  obtain ⟨A, hAd⟩ : ∃ A, A = dcA zs := ⟨_, rfl⟩
  obtain ⟨V, hVd⟩ : ∃ V, V = dcB zs := ⟨_, rfl⟩
  have hA : A.length = 32 := by rw [hAd]; exact dcA_length zs hl
  have hV : V.length = 32 := by rw [hVd]; exact dcB_length zs hl
  have bA : Bytes A := by rw [hAd]; exact dcA_bytes zs hby
  have bV : Bytes V := by rw [hVd]; exact dcB_bytes zs hby
  have hck : ∀ w', Below w.heap.size w w' → ∀ i, i < zs.length → w'.cell? ⟨b, off + i, none⟩ = some (.int .u8 (zs.getD i 0)) := fun w' hw' i hi => (hw'.cell (p := ⟨b, off + i, none⟩) (block_lt_of_cell (hc i hi))).trans (hc i hi)
  have HC0 : Hid (∀ w', Below w.heap.size w w' → w'.cell? ⟨b, off, none⟩ = some (.int .u8 1)) := fun w' hw' => by
    have := hck w' hw' 0 (by omega)
    rwa [h0, Nat.add_zero] at this
  have HOA : Hid (∀ w', Below w.heap.size w w' → Calls Tryd.prog 47 #[.slice (some ⟨b, off + 1, none⟩) 32 (c - 1)] w' fun e w'' => e = .returned (.tuple #[.agg (B A), .int .i64 0]) ∧ Below w'.heap.size w' w'') := fun w' hw' => rof_in _ A w' (reads_seg (hck w' hw') 1 32 A (by rw [hAd]; exact dc_segA zs) hA bA (by omega)) hA
  have HOV : Hid (∀ w', Below w.heap.size w w' → Calls Tryd.prog 47 #[.slice (some ⟨b, off + 33, none⟩) 32 (c - 33)] w' fun e w'' => e = .returned (.tuple #[.agg (B V), .int .i64 0]) ∧ Below w'.heap.size w' w'') := fun w' hw' => rof_in _ V w' (reads_seg (hck w' hw') 33 32 V (by rw [hVd]; exact dc_segB zs) hV bV (by omega)) hV
  have HB : Hid (Tryd.prog.built 27 [(0, .int .u8 1), (1, .agg (B A)), (2, .agg (B V))] = some (B (nd 1 A V z32 z32))) := built_leaf A V hA hV
  have HN : Hid (Nd 1 A V z32 z32) := ⟨by omega, by omega, hA, hV, rfl, rfl, bA, bV, z32_bytes, z32_bytes⟩
  have HX : Hid (∀ w', Below w.heap.size w w' → DecPost zs w (.returned (.tuple #[.agg (B (nd 1 A V z32 z32)), .int .i64 0])) w') := fun w' hb => ⟨by
    have e1 : dcN zs = nd 1 A V z32 z32 := by rw [dcN, if_pos ⟨hl, h0⟩, hAd, hVd]
    have e2 : dcE zs = 0 := by rw [dcE, if_pos ⟨hl, h0⟩]
    rw [e1, e2], hb⟩
  obtain ⟨R, hR⟩ : ∃ R, R = nd 1 A V z32 z32 := ⟨_, rfl⟩
  have HRS : Hid ((B R).size = 129) := by show _ = _; rw [hR]; exact HN.out.size
  rw [← hR] at HB HX
  have HSA : Hid ((Tryd.prog.info? 23).map (·.size) = some (B A).size) := by show _ = _; rw [B_size, hA]; exact size_b32
  have HSV : Hid ((Tryd.prog.info? 23).map (·.size) = some (B V).size) := by show _ = _; rw [B_size, hV]; exact size_b32
  have HZA : Hid ((B (List.replicate 32 0)).size = (B A).size) := by show _ = _; rw [B_size, B_size, hA]; rfl
  have HZV : Hid ((B (List.replicate 32 0)).size = (B V).size) := by show _ = _; rw [B_size, B_size, hV]; rfl
  rw [hl] at h1 ⊢
  have hc1 : (33 : Int) ≤ (c : Int) := by omega
  have hif1 : (if c - 1 = 0 then off else off + 1) = off + 1 := if_neg (by omega)
  have hif2 : (if c - 33 = 0 then off else off + 33) = off + 33 := if_neg (by omega)
  have hne1 : ¬ c = 1 := by omega
  have hne33 : ¬ c = 33 := by omega
  clear h4 hc hAd hVd hA hV hu hR h0 hby hck bA bV
  go_enter Tryd.func14, Tryd.ntmps14
  go_wp2_with (first
    | ((with_reducible refine at_ald 2 ?_); refine wpList_al _ rfl _ rfl _ zero_node ?_; intro w1 g2 hg2 hl1 B2 b1; have ck := HC0.out _ b1; have KA := hidden B2.kp; have c1 := b1)
    | (go_at_call 47; have mk := mk1; refine (HOV.out _ c1).mono ?_; rintro e w5 ⟨rfl, q5⟩; clear mk mk1; have cc := grow_trans c1 q5; clear c1; have c1 := cc; clear cc; replace KA := hidden (KA.out.step q5); replace KB := hidden (KB.out.step q5); replace ck := HC0.out _ c1)
    | (go_at_call 47; refine (HOA.out _ c1).mono ?_; rintro e w2 ⟨rfl, q2⟩; have mk1 : Hid True := trivial; have cc := grow_trans c1 q2; clear c1; have c1 := cc; clear cc; replace KA := hidden (KA.out.step q2); replace ck := HC0.out _ c1)
    | ((with_reducible refine at_ald 4 ?_); refine wpList_al _ rfl _ rfl _ zero_b32 ?_; intro w3 g4 hg4 hl3 B4 q3)
    | ((with_reducible refine at_st 4 ?_); refine wpList_sto _ rfl _ _ _ rfl g4 _ (B A) rfl rfl B4 HSA.out HZA.out (B_one _) ?_; intro w4 by4 r4; have q4 := below_row q3 r4 hg4; have cc := grow_trans c1 q4; clear c1; have c1 := cc; clear cc; replace KA := hidden (KA.out.step q4); have KB := hidden by4.kp; replace ck := HC0.out _ c1)
    | ((with_reducible refine at_ald 6 ?_); refine wpList_al _ rfl _ rfl _ zero_b32 ?_; intro w6 g6 hg6 hl6 B6 q6)
    | ((with_reducible refine at_st 6 ?_); refine wpList_sto _ rfl _ _ _ rfl g6 _ (B V) rfl rfl B6 HSV.out HZV.out (B_one _) ?_; intro w7 by7 r7; have q7 := below_row q6 r7 hg6; have cc := grow_trans c1 q7; clear c1; have c1 := cc; clear cc; replace KA := hidden (KA.out.step q7); replace KB := hidden (KB.out.step q7); have KC := hidden by7.kp; replace ck := HC0.out _ c1)
    | ((with_reducible refine at_ldd 50 4 ?_); refine wpList_ld _ rfl _ _ rfl g4 _ rfl KB.out.now _ _ Tryd.underlying23 HSA.out ?_)
    | ((with_reducible refine at_ldd 51 6 ?_); refine wpList_ld _ rfl _ _ rfl g6 _ rfl KC.out.now _ _ Tryd.underlying23 HSV.out ?_)
    | ((with_reducible refine at_bdd 52 ?_); refine wpList_bld _ rfl _ _ rfl _ (by rw [List.map_toArray]; exact HB.out) ?_)
    | ((with_reducible refine at_st 2 ?_); refine wpList_sto _ rfl _ _ _ rfl g2 _ (B R) rfl rfl KA.out.now (by rw [HRS.out]; exact size_node) (by rw [HRS.out]; rfl) (B_one _) ?_; intro w8 B8 r8))
  exact bodyPost_ret (v := .tuple #[.agg (B R), .int .i64 0]) (results_agg_tmp rfl _ _ g2 _ _ rfl rfl B8 HU.out (by rw [HRS.out]; exact size_node)) rfl (HX.out _ (below_row c1 r8 hg2))

set_option maxHeartbeats 2000000 in
theorem refDecode_inner (v : Value) (zs : List Int) (w : World) (h : Reads w v zs) (hl : zs.length = 65) (h0 : zs.getD 0 0 = 2) : Calls Tryd.prog 14 #[v] w (DecPost zs w) := by
  obtain ⟨fs, hu⟩ := u_node
  have HU := hidden hu
  obtain ⟨a, c, rfl, h1, _, hby, h4⟩ := h
  obtain ⟨b, off, rfl, hc⟩ := h4 (by omega)
  obtain ⟨A, hAd⟩ : ∃ A, A = dcA zs := ⟨_, rfl⟩
  obtain ⟨V, hVd⟩ : ∃ V, V = dcB zs := ⟨_, rfl⟩
  have hA : A.length = 32 := by rw [hAd]; exact dcA_length zs hl
  have hV : V.length = 32 := by rw [hVd]; exact dcB_length zs hl
  have bA : Bytes A := by rw [hAd]; exact dcA_bytes zs hby
  have bV : Bytes V := by rw [hVd]; exact dcB_bytes zs hby
  have hck : ∀ w', Below w.heap.size w w' → ∀ i, i < zs.length → w'.cell? ⟨b, off + i, none⟩ = some (.int .u8 (zs.getD i 0)) := fun w' hw' i hi => (hw'.cell (p := ⟨b, off + i, none⟩) (block_lt_of_cell (hc i hi))).trans (hc i hi)
  have HC0 : Hid (∀ w', Below w.heap.size w w' → w'.cell? ⟨b, off, none⟩ = some (.int .u8 2)) := fun w' hw' => by
    have := hck w' hw' 0 (by omega)
    rwa [h0, Nat.add_zero] at this
  have HOA : Hid (∀ w', Below w.heap.size w w' → Calls Tryd.prog 47 #[.slice (some ⟨b, off + 1, none⟩) 32 (c - 1)] w' fun e w'' => e = .returned (.tuple #[.agg (B A), .int .i64 0]) ∧ Below w'.heap.size w' w'') := fun w' hw' => rof_in _ A w' (reads_seg (hck w' hw') 1 32 A (by rw [hAd]; exact dc_segA zs) hA bA (by omega)) hA
  have HOV : Hid (∀ w', Below w.heap.size w w' → Calls Tryd.prog 47 #[.slice (some ⟨b, off + 33, none⟩) 32 (c - 33)] w' fun e w'' => e = .returned (.tuple #[.agg (B V), .int .i64 0]) ∧ Below w'.heap.size w' w'') := fun w' hw' => rof_in _ V w' (reads_seg (hck w' hw') 33 32 V (by rw [hVd]; exact dc_segB zs) hV bV (by omega)) hV
  have HB : Hid (Tryd.prog.built 27 [(0, .int .u8 2), (3, .agg (B A)), (4, .agg (B V))] = some (B (nd 2 z32 z32 A V))) := built_inner A V hA hV
  have HN : Hid (Nd 2 z32 z32 A V) := ⟨by omega, by omega, rfl, rfl, hA, hV, z32_bytes, z32_bytes, bA, bV⟩
  have HX : Hid (∀ w', Below w.heap.size w w' → DecPost zs w (.returned (.tuple #[.agg (B (nd 2 z32 z32 A V)), .int .i64 0])) w') := fun w' hb => ⟨by
    have e1 : dcN zs = nd 2 z32 z32 A V := by rw [dcN, if_neg (by omega), if_pos ⟨hl, h0⟩, hAd, hVd]
    have e2 : dcE zs = 0 := by rw [dcE, if_neg (by omega), if_pos ⟨hl, h0⟩]
    rw [e1, e2], hb⟩
  obtain ⟨R, hR⟩ : ∃ R, R = nd 2 z32 z32 A V := ⟨_, rfl⟩
  have HRS : Hid ((B R).size = 129) := by show _ = _; rw [hR]; exact HN.out.size
  rw [← hR] at HB HX
  have HSA : Hid ((Tryd.prog.info? 23).map (·.size) = some (B A).size) := by show _ = _; rw [B_size, hA]; exact size_b32
  have HSV : Hid ((Tryd.prog.info? 23).map (·.size) = some (B V).size) := by show _ = _; rw [B_size, hV]; exact size_b32
  have HZA : Hid ((B (List.replicate 32 0)).size = (B A).size) := by show _ = _; rw [B_size, B_size, hA]; rfl
  have HZV : Hid ((B (List.replicate 32 0)).size = (B V).size) := by show _ = _; rw [B_size, B_size, hV]; rfl
  rw [hl] at h1 ⊢
  have hc1 : (33 : Int) ≤ (c : Int) := by omega
  have hif1 : (if c - 1 = 0 then off else off + 1) = off + 1 := if_neg (by omega)
  have hif2 : (if c - 33 = 0 then off else off + 33) = off + 33 := if_neg (by omega)
  have hne1 : ¬ c = 1 := by omega
  have hne33 : ¬ c = 33 := by omega
  clear h4 hc hAd hVd hA hV hu hR h0 hby hck bA bV
  go_enter Tryd.func14, Tryd.ntmps14
  go_wp2_with (first
    | ((with_reducible refine at_ald 2 ?_); refine wpList_al _ rfl _ rfl _ zero_node ?_; intro w1 g2 hg2 hl1 B2 b1; have ck := HC0.out _ b1; have KA := hidden B2.kp; have c1 := b1)
    | (go_at_call 47; have mk := mk1; refine (HOV.out _ c1).mono ?_; rintro e w5 ⟨rfl, q5⟩; clear mk mk1; have cc := grow_trans c1 q5; clear c1; have c1 := cc; clear cc; replace KA := hidden (KA.out.step q5); replace KB := hidden (KB.out.step q5); replace ck := HC0.out _ c1)
    | (go_at_call 47; refine (HOA.out _ c1).mono ?_; rintro e w2 ⟨rfl, q2⟩; have mk1 : Hid True := trivial; have cc := grow_trans c1 q2; clear c1; have c1 := cc; clear cc; replace KA := hidden (KA.out.step q2); replace ck := HC0.out _ c1)
    | ((with_reducible refine at_ald 4 ?_); refine wpList_al _ rfl _ rfl _ zero_b32 ?_; intro w3 g4 hg4 hl3 B4 q3)
    | ((with_reducible refine at_st 4 ?_); refine wpList_sto _ rfl _ _ _ rfl g4 _ (B A) rfl rfl B4 HSA.out HZA.out (B_one _) ?_; intro w4 by4 r4; have q4 := below_row q3 r4 hg4; have cc := grow_trans c1 q4; clear c1; have c1 := cc; clear cc; replace KA := hidden (KA.out.step q4); have KB := hidden by4.kp; replace ck := HC0.out _ c1)
    | ((with_reducible refine at_ald 6 ?_); refine wpList_al _ rfl _ rfl _ zero_b32 ?_; intro w6 g6 hg6 hl6 B6 q6)
    | ((with_reducible refine at_st 6 ?_); refine wpList_sto _ rfl _ _ _ rfl g6 _ (B V) rfl rfl B6 HSV.out HZV.out (B_one _) ?_; intro w7 by7 r7; have q7 := below_row q6 r7 hg6; have cc := grow_trans c1 q7; clear c1; have c1 := cc; clear cc; replace KA := hidden (KA.out.step q7); replace KB := hidden (KB.out.step q7); have KC := hidden by7.kp; replace ck := HC0.out _ c1)
    | ((with_reducible refine at_ldd 53 4 ?_); refine wpList_ld _ rfl _ _ rfl g4 _ rfl KB.out.now _ _ Tryd.underlying23 HSA.out ?_)
    | ((with_reducible refine at_ldd 54 6 ?_); refine wpList_ld _ rfl _ _ rfl g6 _ rfl KC.out.now _ _ Tryd.underlying23 HSV.out ?_)
    | ((with_reducible refine at_bdd 55 ?_); refine wpList_bld _ rfl _ _ rfl _ (by rw [List.map_toArray]; exact HB.out) ?_)
    | ((with_reducible refine at_st 2 ?_); refine wpList_sto _ rfl _ _ _ rfl g2 _ (B R) rfl rfl KA.out.now (by rw [HRS.out]; exact size_node) (by rw [HRS.out]; rfl) (B_one _) ?_; intro w8 B8 r8))
  exact bodyPost_ret (v := .tuple #[.agg (B R), .int .i64 0]) (results_agg_tmp rfl _ _ g2 _ _ rfl rfl B8 HU.out (by rw [HRS.out]; exact size_node)) rfl (HX.out _ (below_row c1 r8 hg2))

set_option maxHeartbeats 2000000 in
theorem refDecode_empty (v : Value) (zs : List Int) (w : World) (h : Reads w v zs) (hl : zs.length = 1) (h0 : zs.getD 0 0 = 0) (hx1 : dcN zs = nd 0 z32 z32 z32 z32) (hx2 : dcE zs = 0) : Calls Tryd.prog 14 #[v] w (DecPost zs w) := by
  obtain ⟨fs, hu⟩ := u_node
  have HU := hidden hu
  have HX : Hid (∀ w', Below w.heap.size w w' → DecPost zs w (.returned (.tuple #[.agg (B (nd 0 z32 z32 z32 z32)), .int .i64 0])) w') := fun w' hb => ⟨by rw [hx1, hx2], hb⟩
  obtain ⟨R, hR⟩ : ∃ R, R = nd 0 z32 z32 z32 z32 := ⟨_, rfl⟩
  have HRS : Hid ((B R).size = 129) := by show _ = _; rw [hR]; exact z_nd.size
  have HB : Hid (Tryd.prog.built 27 [] = some (B R)) := by rw [hR]; exact built_empty
  rw [← hR] at HX
  obtain ⟨a, c, rfl, hcap, _, _, h4⟩ := h
  obtain ⟨b, off, rfl, hc⟩ := h4 (by omega)
  have HC0 : Hid (∀ w', Below w.heap.size w w' → w'.cell? ⟨b, off, none⟩ = some (.int .u8 (zs.getD 0 0))) := fun w' hw' => by
    have := (hw'.cell (p := ⟨b, off + 0, none⟩) (block_lt_of_cell (hc 0 (by omega)))).trans (hc 0 (by omega))
    rwa [Nat.add_zero] at this
  obtain ⟨z, hz⟩ : ∃ z, z = zs.getD 0 0 := ⟨_, rfl⟩
  rw [← hz] at HC0 h0
  rw [hl]
  have z0 : (z == 0) = true := by simp [h0]
  clear hc h4 hu hR hx1 hx2 hcap hl hz h0
  go_enter Tryd.func14, Tryd.ntmps14
  go_wp2_with (first
    | ((with_reducible refine at_ald 2 ?_); refine wpList_al _ rfl _ rfl _ zero_node ?_; intro w1 g2 hg2 hl1 B2 b1; have ck := HC0.out _ b1)
    | ((with_reducible refine at_bd ?_); refine wpList_bld _ rfl _ _ rfl _ (by rw [List.map_toArray]; exact HB.out) ?_)
    | ((with_reducible refine at_st 2 ?_); refine wpList_sto _ rfl _ _ _ rfl g2 _ (B R) rfl rfl B2 (by rw [HRS.out]; exact size_node) (by rw [HRS.out]; rfl) (B_one _) ?_; intro w8 B8 r8))
  exact bodyPost_ret (v := .tuple #[.agg (B R), .int .i64 0]) (results_agg_tmp rfl _ _ g2 _ _ rfl rfl B8 HU.out (by rw [HRS.out]; exact size_node)) rfl (HX.out _ (below_row b1 r8 hg2))

set_option maxHeartbeats 2000000 in
theorem refDecode_one (v : Value) (zs : List Int) (w : World) (h : Reads w v zs) (hl : zs.length = 1) (h0 : zs.getD 0 0 ≠ 0) (hx1 : dcN zs = nd 0 z32 z32 z32 z32) (hx2 : dcE zs = 10) : Calls Tryd.prog 14 #[v] w (DecPost zs w) := by
  obtain ⟨fs, hu⟩ := u_node
  have HU := hidden hu
  have HX : Hid (∀ w', Below w.heap.size w w' → DecPost zs w (.returned (.tuple #[.agg (B (nd 0 z32 z32 z32 z32)), .int .i64 10])) w') := fun w' hb => ⟨by rw [hx1, hx2], hb⟩
  obtain ⟨R, hR⟩ : ∃ R, R = nd 0 z32 z32 z32 z32 := ⟨_, rfl⟩
  have HRS : Hid ((B R).size = 129) := by show _ = _; rw [hR]; exact z_nd.size
  have HB : Hid (Tryd.prog.built 27 [] = some (B R)) := by rw [hR]; exact built_empty
  rw [← hR] at HX
  obtain ⟨a, c, rfl, hcap, _, _, h4⟩ := h
  obtain ⟨b, off, rfl, hc⟩ := h4 (by omega)
  have HC0 : Hid (∀ w', Below w.heap.size w w' → w'.cell? ⟨b, off, none⟩ = some (.int .u8 (zs.getD 0 0))) := fun w' hw' => by
    have := (hw'.cell (p := ⟨b, off + 0, none⟩) (block_lt_of_cell (hc 0 (by omega)))).trans (hc 0 (by omega))
    rwa [Nat.add_zero] at this
  obtain ⟨z, hz⟩ : ∃ z, z = zs.getD 0 0 := ⟨_, rfl⟩
  rw [← hz] at HC0 h0
  rw [hl]
  have z0 : (z == 0) = false := by simp [h0]
  clear hc h4 hu hR hx1 hx2 hcap hl hz h0
  go_enter Tryd.func14, Tryd.ntmps14
  go_wp2_with (first
    | ((with_reducible refine at_ald 2 ?_); refine wpList_al _ rfl _ rfl _ zero_node ?_; intro w1 g2 hg2 hl1 B2 b1; have ck := HC0.out _ b1)
    | ((with_reducible refine at_bd ?_); refine wpList_bld _ rfl _ _ rfl _ (by rw [List.map_toArray]; exact HB.out) ?_)
    | ((with_reducible refine at_st 2 ?_); refine wpList_sto _ rfl _ _ _ rfl g2 _ (B R) rfl rfl B2 (by rw [HRS.out]; exact size_node) (by rw [HRS.out]; rfl) (B_one _) ?_; intro w8 B8 r8))
  exact bodyPost_ret (v := .tuple #[.agg (B R), .int .i64 10]) (results_agg_tmp rfl _ _ g2 _ _ rfl rfl B8 HU.out (by rw [HRS.out]; exact size_node)) rfl (HX.out _ (below_row b1 r8 hg2))

set_option maxHeartbeats 2000000 in
theorem refDecode_odd (v : Value) (zs : List Int) (w : World) (h : Reads w v zs) (hl : zs.length = 65) (h0 : zs.getD 0 0 ≠ 1 ∧ zs.getD 0 0 ≠ 2) (hx1 : dcN zs = nd 0 z32 z32 z32 z32) (hx2 : dcE zs = 10) : Calls Tryd.prog 14 #[v] w (DecPost zs w) := by
  obtain ⟨fs, hu⟩ := u_node
  have HU := hidden hu
  have HX : Hid (∀ w', Below w.heap.size w w' → DecPost zs w (.returned (.tuple #[.agg (B (nd 0 z32 z32 z32 z32)), .int .i64 10])) w') := fun w' hb => ⟨by rw [hx1, hx2], hb⟩
  obtain ⟨R, hR⟩ : ∃ R, R = nd 0 z32 z32 z32 z32 := ⟨_, rfl⟩
  have HRS : Hid ((B R).size = 129) := by show _ = _; rw [hR]; exact z_nd.size
  have HB : Hid (Tryd.prog.built 27 [] = some (B R)) := by rw [hR]; exact built_empty
  rw [← hR] at HX
  obtain ⟨a, c, rfl, hcap, _, _, h4⟩ := h
  obtain ⟨b, off, rfl, hc⟩ := h4 (by omega)
  have HC0 : Hid (∀ w', Below w.heap.size w w' → w'.cell? ⟨b, off, none⟩ = some (.int .u8 (zs.getD 0 0))) := fun w' hw' => by
    have := (hw'.cell (p := ⟨b, off + 0, none⟩) (block_lt_of_cell (hc 0 (by omega)))).trans (hc 0 (by omega))
    rwa [Nat.add_zero] at this
  obtain ⟨z, hz⟩ : ∃ z, z = zs.getD 0 0 := ⟨_, rfl⟩
  rw [← hz] at HC0 h0
  rw [hl]
  have z0 : (z == 1) = false := by simp [h0.1]
  have z2 : (z == 2) = false := by simp [h0.2]
  have z1' : (z != 1) = true := by simp [h0.1]
  have z2' : (z != 2) = true := by simp [h0.2]
  clear hc h4 hu hR hx1 hx2 hcap hl hz h0
  go_enter Tryd.func14, Tryd.ntmps14
  go_wp2_with (first
    | ((with_reducible refine at_ald 2 ?_); refine wpList_al _ rfl _ rfl _ zero_node ?_; intro w1 g2 hg2 hl1 B2 b1; have ck := HC0.out _ b1)
    | ((with_reducible refine at_bd ?_); refine wpList_bld _ rfl _ _ rfl _ (by rw [List.map_toArray]; exact HB.out) ?_)
    | ((with_reducible refine at_st 2 ?_); refine wpList_sto _ rfl _ _ _ rfl g2 _ (B R) rfl rfl B2 (by rw [HRS.out]; exact size_node) (by rw [HRS.out]; rfl) (B_one _) ?_; intro w8 B8 r8))
  exact bodyPost_ret (v := .tuple #[.agg (B R), .int .i64 10]) (results_agg_tmp rfl _ _ g2 _ _ rfl rfl B8 HU.out (by rw [HRS.out]; exact size_node)) rfl (HX.out _ (below_row b1 r8 hg2))

set_option maxHeartbeats 2000000 in
theorem refDecode_len (v : Value) (zs : List Int) (w : World) (h : Reads w v zs) (hl : zs.length ≠ 1) (h0 : zs.length ≠ 65) (hx1 : dcN zs = nd 0 z32 z32 z32 z32) (hx2 : dcE zs = 10) : Calls Tryd.prog 14 #[v] w (DecPost zs w) := by
  obtain ⟨fs, hu⟩ := u_node
  have HU := hidden hu
  have HX : Hid (∀ w', Below w.heap.size w w' → DecPost zs w (.returned (.tuple #[.agg (B (nd 0 z32 z32 z32 z32)), .int .i64 10])) w') := fun w' hb => ⟨by rw [hx1, hx2], hb⟩
  obtain ⟨R, hR⟩ : ∃ R, R = nd 0 z32 z32 z32 z32 := ⟨_, rfl⟩
  have HRS : Hid ((B R).size = 129) := by show _ = _; rw [hR]; exact z_nd.size
  have HB : Hid (Tryd.prog.built 27 [] = some (B R)) := by rw [hR]; exact built_empty
  rw [← hR] at HX
  obtain ⟨a, c, rfl, hcap, _, _, h4⟩ := h
  have n1 : ((zs.length : Int) == 1) = false := by simp; omega
  have n2 : ((zs.length : Int) == 65) = false := by simp; omega
  have n3 : ((zs.length : Int) != 65) = true := by simp; omega
  clear h4 hu hR hx1 hx2 hcap hl h0
  go_enter Tryd.func14, Tryd.ntmps14
  go_wp2_with (first
    | ((with_reducible refine at_ald 2 ?_); refine wpList_al _ rfl _ rfl _ zero_node ?_; intro w1 g2 hg2 hl1 B2 b1)
    | ((with_reducible refine at_bd ?_); refine wpList_bld _ rfl _ _ rfl _ (by rw [List.map_toArray]; exact HB.out) ?_)
    | ((with_reducible refine at_st 2 ?_); refine wpList_sto _ rfl _ _ _ rfl g2 _ (B R) rfl rfl B2 (by rw [HRS.out]; exact size_node) (by rw [HRS.out]; rfl) (B_one _) ?_; intro w8 B8 r8))
  exact bodyPost_ret (v := .tuple #[.agg (B R), .int .i64 10]) (results_agg_tmp rfl _ _ g2 _ _ rfl rfl B8 HU.out (by rw [HRS.out]; exact size_node)) rfl (HX.out _ (below_row b1 r8 hg2))

theorem refDecode_any (v : Value) (zs : List Int) (w : World) (h : Reads w v zs) : Calls Tryd.prog 14 #[v] w (DecPost zs w) := by
  by_cases h1 : zs.length = 65 ∧ zs.getD 0 0 = 1
  · exact refDecode_leaf v zs w h h1.1 h1.2
  · by_cases h2 : zs.length = 65 ∧ zs.getD 0 0 = 2
    · exact refDecode_inner v zs w h h2.1 h2.2
    · have hx1 : dcN zs = nd 0 z32 z32 z32 z32 := by rw [dcN, if_neg h1, if_neg h2]
      by_cases h3 : zs.length = 1 ∧ zs.getD 0 0 = 0
      · exact refDecode_empty v zs w h h3.1 h3.2 hx1 (by rw [dcE, if_neg h1, if_neg h2, if_pos h3])
      · have hx2 : dcE zs = 10 := by rw [dcE, if_neg h1, if_neg h2, if_neg h3]
        by_cases l1 : zs.length = 1
        · exact refDecode_one v zs w h l1 (fun e => h3 ⟨l1, e⟩) hx1 hx2
        · by_cases l2 : zs.length = 65
          · exact refDecode_odd v zs w h l2 ⟨fun e => h1 ⟨l2, e⟩, fun e => h2 ⟨l2, e⟩⟩ hx1 hx2
          · exact refDecode_len v zs w h l1 l2 hx1 hx2

end Go.Proofs.YtjcklpdifanjlaaDoor

/- ApartBytes, as a contract: lists of bytes of the call's own, no two of one block, are told to be apart, and behind the call memory is as it was. -/
namespace Go.Proofs.YtjcklpdifanjlaaDoor
set_option maxRecDepth 20000
open Go.RowKit

theorem u_lists : Tryd.prog.underlying 47 = some (.slice 28) := Tryd.underlying47
theorem u_strings : Tryd.prog.underlying 90 = some (.slice 9) := Tryd.underlying90
theorem info_string : (Tryd.prog.info? 9).map (fun i => (i.zero, i.size, i.bytes)) = some (some (.string ByteArray.empty), 1, 16) := by kernel_rfl

/-- Block g holds just these texts. -/
def SRow (w : World) (g : Nat) (ss : List ByteArray) : Prop := w.heap[g]? = some (.cells (ss.map Value.string).toArray 9 (0, 0))

theorem SRow.cell {w : World} {g : Nat} {ss : List ByteArray} (h : SRow w g ss) (i : Nat) (hi : i < ss.length) : w.cell? ⟨g, i, none⟩ = some (.string (ss.getD i ByteArray.empty)) := by
  rw [cell_of_row w g i _ _ _ h]
  simp [List.getD, hi]
theorem SRow.frozen {w : World} {g : Nat} {ss : List ByteArray} (h : SRow w g ss) (i : Nat) : w.frozen? ⟨g, i, none⟩ = false := frozen_of_row w g i _ _ h
theorem SRow.set {w : World} {g : Nat} {ss : List ByteArray} (h : SRow w g ss) (i : Nat) (s : ByteArray) : SRow (w.setCell ⟨g, i, none⟩ (.string s)) g (ss.set i s) := by
  unfold SRow
  rw [heap_setCell_same w g i _ _ _ h]
  congr 2
  apply Array.ext'
  simp [List.map_set]
theorem SRow.of_block {w w' : World} {g : Nat} {ss : List ByteArray} (h : SRow w g ss) (k : w'.heap[g]? = w.heap[g]?) : SRow w' g ss := by unfold SRow at *; rw [k]; exact h

/-- make([]string, n). -/
theorem wpList_mks {ops : Array Oper} {rest : List Oper} {o : Oper} {a : Act} {Q : Exit → Act → World → Prop} (w : World) (hgd : o.guard = none) (x y : Operand)
    (hop : o.op = Op.makeSlice 90 x y) (kl kc : IntKind) (L C : Int) (n : Nat) (hx : a.eval x = .int kl L) (hy : a.eval y = .int kc C) (hL : L = (n : Int)) (hC : C = (n : Int)) (hn : n ≤ 17592186044416)
    (h : ∀ w', SRow w' w.heap.size (List.replicate n ByteArray.empty) → Below w.heap.size w w' → w'.heap.size = w.heap.size + 1 → wpList Tryd.prog ops Q rest (a.put o.dst (.slice (some ⟨w.heap.size, 0, none⟩) n n)) w') :
    wpList Tryd.prog ops Q (o :: rest) a w := by
  refine wpList_plain hgd fun K hK => ?_
  obtain ⟨i, hi, hz, hs, hby⟩ := info_parts info_string
  subst hL
  subst hC
  have hr := run_make (P := Tryd.prog) w 90 9 i _ u_strings hi hz kl kc n n (by omega) (by omega) (by rw [hby]; omega) (by omega)
  rw [hs, Nat.mul_one] at hr
  simp only [Int.toNat_natCast] at hr
  have hm : madeCells (Value.cells (.string ByteArray.empty)) n = ((List.replicate n ByteArray.empty).map Value.string).toArray := by
    apply Array.ext'
    have h := toList_madeCells_one (.string ByteArray.empty) n
    simp only [Value.cells] at *
    rw [h]
    simp
  rw [hm] at hr
  unfold Oper.wp
  simp [execOp, hop, hx, hy, hr, Result.andThen]
  exact hK _ _ (h _ (by unfold SRow; rw [show ((List.replicate n ByteArray.empty).map Value.string).toArray = Array.replicate n (Value.string ByteArray.empty) by simp]; exact heap_alloc_new w _) (grow_alloc w _) (by simp))

/-- Of a slice of the call's own, its room with it. -/
theorem Own.full {b : Nat} {w : World} {a : Option Addr} {l c : Nat} {zs sp : List Int} (h : Own b w (.slice a l c) zs sp) : Reads w (.slice a c c) (zs ++ sp) ∧ c = zs.length + sp.length ∧ l = zs.length ∧ c ≤ maxLen := by
  obtain ⟨h1, h2, h3, h4⟩ := h
  rcases h4 with ⟨e, rfl, rfl⟩ | ⟨g, rest, hg, e, h5⟩
  · injection e with e1 e2 e3
    subst e1; subst e2; subst e3
    exact ⟨Reads.nil _, rfl, rfl, by simp [maxLen]⟩
  · injection e with e1 e2 e3
    subst e1; subst e2; subst e3
    refine ⟨⟨_, _, by rw [List.length_append], by simp, fun h => by simp at h, h1.append h2, fun _ => ⟨g, 0, rfl, fun i hi => ?_⟩⟩, rfl, rfl, h3⟩
    rw [Nat.zero_add, h5.cell i (by simp at hi ⊢; omega)]
    simp only [List.getD]
    rw [List.getElem?_append_left hi]

/-- OverBytes, and OverBytes once more: as it was. -/
theorem over_pair (base : Nat) (v : Value) (zs sp : List Int) (w : World) (h : Own base w v zs sp) :
    Calls Tryd.prog 49 #[v] w fun e w1 => e = .returned (.tuple #[]) ∧ w.grownBy w1 v.ownBlock ∧ w1.heap.size = w.heap.size ∧
      ∀ w2, (∀ k, v.ownBlock = some k → w2.heap[k]? = w1.heap[k]?) → Calls Tryd.prog 49 #[v] w2 fun e w3 => e = .returned (.tuple #[]) ∧ w2.grownBy w3 v.ownBlock ∧ w3.heap.size = w2.heap.size ∧ ∀ k, v.ownBlock = some k → w3.heap[k]? = w.heap[k]? := by
  obtain ⟨h1, h2, h3, h4⟩ := h
  rcases h4 with ⟨rfl, rfl, rfl⟩ | ⟨g, rest, hg, rfl, hr⟩
  · refine (over_nil w).mono ?_
    rintro e w' ⟨rfl, rfl⟩
    refine ⟨rfl, World.grownBy.refl _ _, rfl, fun w2 _ => ?_⟩
    refine (over_nil w2).mono ?_
    rintro e w3 ⟨rfl, rfl⟩
    exact ⟨rfl, World.grownBy.refl _ _, rfl, fun k hk => by simp [Value.ownBlock] at hk⟩
  · have := over_row g zs.length (zs ++ sp) rest w hr (by simpa using h3)
    rw [List.length_append] at this
    refine this.mono ?_
    rintro e w1 ⟨rfl, hr1, hg1, hs1⟩
    refine ⟨rfl, hg1, hs1, fun w2 hw2 => ?_⟩
    have hr2 : Row w2 g ((zs ++ sp).map x5 ++ rest) := hr1.of_block (hw2 g rfl)
    have this2 := over_row g zs.length ((zs ++ sp).map x5) rest w2 hr2 (by simpa using h3)
    rw [List.length_map, List.length_append] at this2
    refine this2.mono ?_
    rintro e w3 ⟨rfl, hr3, hg3, hs3⟩
    refine ⟨rfl, hg3, hs3, fun k hk => ?_⟩
    simp only [Value.ownBlock, Option.some.injEq] at hk
    subst hk
    rw [map_x5 (h1.append h2)] at hr3
    unfold Row at hr hr3
    rw [hr, hr3]

/-- The lists that are held against each other. -/
structure Lists (base gl off n : Nat) (V : Nat → Value) (Z S : Nat → List Int) (w : World) : Prop where
  cell : ∀ i, i < n → w.cell? ⟨gl, off + i, none⟩ = some (V i)
  own : ∀ i, i < n → Own base w (V i) (Z i) (S i)
  apart : ∀ i k, i < n → k < n → i ≠ k → ∀ g, (V i).ownBlock = some g → (V k).ownBlock ≠ some g
  far : ∀ i, i < n → (V i).ownBlock ≠ some gl

theorem Lists.of_block {base gl off n : Nat} {V : Nat → Value} {Z S : Nat → List Int} {w w' : World} (h : Lists base gl off n V Z S w) (hw : ∀ k, k < w.heap.size → w'.heap[k]? = w.heap[k]?) : Lists base gl off n V Z S w' where
  cell := fun i hi => by
    have := h.cell i hi
    have hlt := block_lt_of_cell this
    rw [World.cell?_of_block (w := w) (hw _ hlt)]
    exact this
  own := fun i hi => (h.own i hi).of_block fun k hk => hw k ((h.own i hi).lt k hk).2
  apart := h.apart
  far := h.far

/-- The text of list k, its room with it. -/
def txt (Z S : Nat → List Int) (k : Nat) : ByteArray := strOfNums (Z k ++ S k)

theorem txts_set (Z S : Nat → List Int) (n k : Nat) (h : k < n) : ((List.range k).map (txt Z S) ++ List.replicate (n - k) ByteArray.empty).set k (txt Z S k) = (List.range (k + 1)).map (txt Z S) ++ List.replicate (n - (k + 1)) ByteArray.empty := by
  have e : List.replicate (n - k) ByteArray.empty = ByteArray.empty :: List.replicate (n - (k + 1)) ByteArray.empty := by
    rw [show n - k = (n - (k + 1)) + 1 by omega]; rfl
  rw [e, List.set_append_right _ _ (by simp), List.range_succ]
  simp

set_option maxRecDepth 100000 in
set_option maxHeartbeats 4000000 in
theorem apart_walk (base gl off n cap : Nat) (V : Nat → Value) (Z S : Nat → List Int) (w : World) (hn : n ≤ 17592186044416) (h : Lists base gl off n V Z S w) (hcap : n ≤ cap) :
    Calls Tryd.prog 19 #[.slice (some ⟨gl, off, none⟩) n cap] w fun e w' => e = .returned (.bool true) ∧ Below w.heap.size w w' := by
  have H := hidden h
  clear h
  go_enter Tryd.func19, Tryd.ntmps19
  go_wp2_with fail
  go_loopw [3] (fun i wr => ∃ k : Nat, k ≤ n ∧ i = .int .i64 k ∧ Below w.heap.size w wr) (fun i _ => n - (intOf i).toNat)
  case atStart => exact ⟨0, by omega, rfl, Below.refl _ _⟩
  case round =>
    obtain ⟨i, hi, rfl, hb⟩ := hrel
    obtain ⟨wo, rfl⟩ : ∃ x, x = wr := ⟨_, rfl⟩
    by_cases hlt : i < n
    · have HW := hidden (H.out.of_block (w' := wo) (fun k hk => hb.block k hk))
      go_wp2_with (at_make; refine wpList_mks _ rfl _ _ rfl _ _ _ _ n rfl rfl rfl rfl hn ?_; intro w1 hr1 hb1 hs1)
      have HR1 : Hid (SRow w1 wo.heap.size ((List.range 0).map (txt Z S) ++ List.replicate (n - 0) ByteArray.empty)) := by
        show SRow _ _ _
        simpa using hr1
      clear hr1
      go_loopw [5] (fun j wk => ∃ k : Nat, k ≤ n ∧ j = .int .i64 k ∧ Hid (SRow wk wo.heap.size ((List.range k).map (txt Z S) ++ List.replicate (n - k) ByteArray.empty)) ∧ Below wo.heap.size wo wk ∧ wk.heap.size = wo.heap.size + 1) (fun j _ => n - (intOf j).toNat)
      case atStart => exact ⟨0, by omega, rfl, HR1, hb1, hs1⟩
      case round =>
        obtain ⟨k, hk, rfl, hS, hbk, hsk⟩ := hrel
        obtain ⟨wk, rfl⟩ : ∃ x, x = wr := ⟨_, rfl⟩
        by_cases hkn : k < n
        · obtain ⟨a, c, hv⟩ := (HW.out.own k hkn).slice
          have hcell := HW.out.cell k hkn
          have hown := HW.out.own k hkn
          rw [hv] at hcell hown
          have hful := hown.full
          generalize (Z k).length = l at *
          have HC : Hid (∀ w', Below wo.heap.size wo w' → w'.cell? ⟨gl, off + k, none⟩ = some (.slice a l c) ∧ (convert 28 9 (.slice a c c)).run Tryd.prog w' = .ok (.string (txt Z S k)) w') :=
            fun w' hw' => ⟨(hw'.cell (p := ⟨gl, off + k, none⟩) (block_lt_of_cell hcell)).trans hcell, conv_reads (hful.1.grow hw')⟩
          have hcm : c ≤ 9223372036854775807 := by have := hful.2.2.2; simp only [maxLen] at this; omega
          have hsc := hS.out.cell k (by simp; omega)
          have hsf := hS.out.frozen k
          have kk : (k : Int) < (n : Int) := by omega
          have k0 : (0 : Int) ≤ (k : Int) := by omega
          have HTS : Hid (SRow (wk.setCell ⟨wo.heap.size, k, none⟩ (.string (txt Z S k))) wo.heap.size ((List.range (k + 1)).map (txt Z S) ++ List.replicate (n - (k + 1)) ByteArray.empty)) := by
            have := hS.out.set k (txt Z S k)
            rw [txts_set Z S n k hkn] at this
            exact this
          generalize txt Z S k = tx at *
          generalize ((List.range k).map (txt Z S) ++ List.replicate (n - k) ByteArray.empty).getD k ByteArray.empty = old at *
          have hbd := hbk.drew
          have hbs : Below wo.heap.size wo ((wk.setCell ⟨wo.heap.size, k, none⟩ (.string tx)).drew) := (hbk.setCell (Nat.le_refl _) _).drew
          clear hown hful hcell
          go_wp2_with fail
          go_region_held2 (fun w' => w'.cell? ⟨gl, off + k, none⟩ = some (.slice a l c) ∧ (convert 28 9 (.slice a c c)).run Tryd.prog w' = .ok (.string tx) w')
            (first | exact HC.out _ hbd | exact HC.out _ hbs)
            (fail)
          go_wp2
          exact ⟨⟨k + 1, by omega, by go_num, HTS, hbs, by simpa using hsk⟩, by simp [intOf]; omega⟩
        · have hke : k = n := by omega
          subst hke
          have HLk := hidden (HW.out.of_block (w' := wk) (fun j hj => hbk.block j hj))
          obtain ⟨a, c, hv⟩ := (HW.out.own i hlt).slice
          have hci := HLk.out.cell i hlt
          rw [hv] at hci
          have hgl : gl < wo.heap.size := block_lt_of_cell (HW.out.cell i hlt)
          have HOV := hidden (over_pair base (V i) (Z i) (S i) wk (HLk.out.own i hlt))
          have hfar := HW.out.far i hlt
          have HFAR := hidden hfar
          have HV := hidden hv
          have ki : (i : Int) < (k : Int) := by omega
          have i0 : (0 : Int) ≤ (i : Int) := by omega
          rw [hv] at HOV
          generalize (Z i).length = l at *
          clear hv hfar
          go_wp2_with (go_at_call 49; refine HOV.out.mono ?_; rintro e w2 ⟨rfl, hg2, hs2, hpair⟩)
          have HPR := hidden hpair
          have HG2 := hidden hg2
          clear hpair hg2
          -- what holds behind the first writing over
          have hci2 : w2.cell? ⟨gl, off + i, none⟩ = some (.slice a l c) := by
            refine HG2.out.cell hci ?_
            intro e
            exact HFAR.out (by rw [HV.out]; exact e.symm)
          have HT : Hid (∀ j, j < k → j ≠ i → ∃ aj lj cj, w2.cell? ⟨gl, off + j, none⟩ = some (.slice aj lj cj) ∧ cj ≤ 9223372036854775807 ∧ (∀ d, (convert 28 9 (.slice aj cj cj)).run Tryd.prog (w2.drewN d) = .ok (.string (txt Z S j)) (w2.drewN d)) ∧ w2.cell? ⟨wo.heap.size, j, none⟩ = some (.string (txt Z S j))) := by
            intro j hj hji
            obtain ⟨aj, cj, hvj⟩ := (HW.out.own j hj).slice
            have hcj := HLk.out.cell j hj
            have hoj := HLk.out.own j hj
            have hne : (V j).ownBlock ≠ (Value.slice a l c).ownBlock ∨ (V j).ownBlock = none := by
              cases hb : (V j).ownBlock with
              | none => exact .inr rfl
              | some g =>
                refine .inl (fun e => ?_)
                exact HW.out.apart j i hj hlt hji g hb (by rw [HV.out]; exact e.symm)
            have hoj2 : Own base w2 (V j) (Z j) (S j) := by
              refine hoj.of_block (fun g hg => HG2.out.block g (hoj.lt g hg).2 ?_)
              rcases hne with h | h
              · rw [← hg]; exact h
              · rw [h] at hg; cases hg
            rw [hvj] at hcj hoj2
            have hful := hoj2.full
            refine ⟨aj, _, cj, HG2.out.cell hcj ?_, by have := hful.2.2.2; simp only [maxLen] at this; omega, fun d => ?_, ?_⟩
            · intro e
              exact HFAR.out (by rw [HV.out]; exact e.symm)
            · exact conv_reads (hful.1.grow (below_drewN (Below.refl _ _) d))
            · have hsc := hS.out.cell j (by simp; omega)
              have e1 : ((List.range k).map (txt Z S) ++ List.replicate (k - k) ByteArray.empty).getD j ByteArray.empty = txt Z S j := by
                simp [List.getD, hj]
              rw [e1] at hsc
              refine HG2.out.cell hsc ?_
              intro e
              have := (HLk.out.own i hlt).lt wo.heap.size (by rw [HV.out]; exact e.symm)
              have h3 := (HW.out.own i hlt).lt wo.heap.size (by rw [HV.out]; exact e.symm)
              omega
          go_wp2_with fail
          go_loopw [6] (fun j wl => ∃ (m d : Nat), m ≤ k ∧ j = .int .i64 m ∧ wl = w2.drewN d) (fun j _ => k - (intOf j).toNat)
          case atStart => exact ⟨0, 0, by omega, rfl, rfl⟩
          case round =>
            obtain ⟨m, d, hm, rfl, rfl⟩ := hrel
            by_cases hmk : m < k
            · by_cases hmi : m = i
              · subst hmi
                go_wp2_with fail
                go_quiet (fail)
                go_wp2
                exact ⟨⟨m + 1, _, by omega, by go_num, rfl⟩, by simp [intOf]; omega⟩
              · obtain ⟨aj, lj, cj, q1, q2, q3, q4⟩ := HT.out m hmk hmi
                have hne : ((m : Int) != (i : Int)) = true := by rw [bne_iff_ne]; omega
                have m1 : (m : Int) < (k : Int) := by omega
                have m0 : (0 : Int) ≤ (m : Int) := by omega
                generalize txt Z S m = tx at *
                go_wp2_with fail
                go_quiet (fail)
                go_wp2
                exact ⟨⟨m + 1, _, by omega, by go_num, rfl⟩, by simp [intOf]; omega⟩
            · go_wp2_with fail
              refine (HPR.out (w2.drewN d) (fun _ _ => rfl)).mono ?_
              rintro e w3 ⟨rfl, hg3, hs3, hback⟩
              have hbel : Below w.heap.size w w3 := by
                have hg2 := HG2.out
                refine hb.trans ⟨?_, ?_, ?_, ?_, fun b hb' => ?_⟩
                · exact hg3.os.trans (hg2.os.trans hbk.os)
                · exact hg3.tape.trans (hg2.tape.trans hbk.tape)
                · exact hg3.output.trans (hg2.output.trans hbk.output)
                · have h1 := hg3.size
                  have h2 := hg2.size
                  have h3 := hbk.size
                  have h4 : (w2.drewN d).heap.size = w2.heap.size := rfl
                  omega
                · have hbo : b < wo.heap.size := Nat.lt_of_lt_of_le hb' hb.size
                  by_cases he : (Value.slice a l c).ownBlock = some b
                  · rw [hback b he]
                    exact hbk.block b hbo
                  · have h1 := hg3.block b (by show b < w2.heap.size; omega) (fun e => he e.symm)
                    have h2 := hg2.block b (by omega) (fun e => he e.symm)
                    have h3 : (w2.drewN d).heap[b]? = w2.heap[b]? := rfl
                    rw [h1, h3, h2]
                    exact hbk.block b hbo
              clear HPR HG2 hback hg3
              go_wp2
              exact ⟨⟨i + 1, by omega, by go_num, hbel⟩, by simp [intOf]; omega⟩
    · go_wp2
      go_ret
      exact ⟨rfl, hb⟩

end Go.Proofs.YtjcklpdifanjlaaDoor
