/- The document's Of and Compare (rootcellarref04), as contracts. -/
import Derived.Test.YtpihigcnoifcfaaDoorVr29
import Derived.Test.YtpihigcnoifcfaaDoorVr26
import Derived.Test.YtpihigcnoifcfaaDoorVr19
namespace Go.Proofs.YtpihigcnoifcfaaDoor
set_option maxRecDepth 20000
open Go.RowKit

/-- The first k bytes are laid. -/
def Cop (xs : List Int) (k : Nat) (ys : List Int) : Prop := ys.length = 32 ∧ ∀ j, j < 32 → ys.getD j 0 = if j < k then xs.getD j 0 else 0
theorem Cop.start (xs : List Int) : Cop xs 0 (List.replicate 32 0) := ⟨by simp, fun j hj => by rw [if_neg (by omega)]; rw [List.getD_eq_getElem?_getD, List.getElem?_replicate, if_pos hj]; rfl⟩
theorem Cop.step {xs ys : List Int} {k : Nat} (h : Cop xs k ys) (hk : k < 32) : Cop xs (k + 1) (ys.set k (xs.getD k 0)) := by
  refine ⟨by rw [List.length_set]; exact h.1, fun j hj => ?_⟩
  rw [key_getD_set _ _ _ _ (by rw [h.1]; exact hk), h.2 j hj]
  by_cases e : j = k
  · subst e
    rw [if_pos rfl, if_pos (by omega)]
  · rw [if_neg e]
    by_cases q : j < k
    · rw [if_pos q, if_pos (by omega)]
    · rw [if_neg q, if_neg (by omega)]
theorem Cop.all {xs ys : List Int} (h : Cop xs 32 ys) (hl : xs.length = 32) : ys = xs := by
  apply List.ext_getElem (by rw [h.1, hl])
  intro j h1 h2
  have := h.2 j (by have := h.1; omega)
  rw [if_pos (by have := h.1; omega)] at this
  simpa [List.getD, h1, h2] using this

set_option maxHeartbeats 2000000 in
theorem rof_in (v : Value) (xs : List Int) (w : World) (h : Reads w v xs) (hl : xs.length = 32) : Calls Tryd.prog 72 #[v] w fun e w' => e = .returned (.tuple #[.agg (B xs), .int .i64 0]) ∧ Below w.heap.size w w' := by
  have HBY : Hid (Bytes xs) := by obtain ⟨_, _, _, _, _, hb, _⟩ := h; exact hb
  obtain ⟨a, c, rfl, h1, _, _, h4⟩ := h
  obtain ⟨b, off, rfl, hc⟩ := h4 (by omega)
  have HC : Hid (∀ w', Below w.heap.size w w' → ∀ i, i < 32 → w'.cell? ⟨b, off + i, none⟩ = some (.int .u8 (xs.getD i 0))) := fun w' hw' i hi => (hw'.cell (p := ⟨b, off + i, none⟩) (block_lt_of_cell (hc i (by omega)))).trans (hc i (by omega))
  have HL := hidden hl
  have hs := b32_size (xs := xs) ⟨hl, HBY.out⟩
  have HZ : Hid ((B xs).size = 32) := by rw [B_size]; exact hl
  have hsz : ∀ ys : List Int, ys.length = 32 → (Tryd.prog.info? 22).map (·.size) = some (B ys).size := fun ys h => by rw [B_size, h]; exact size_b32
  have HSZ := hidden hsz
  rw [hl] at h1 ⊢
  clear h4 hc hl hsz
  go_enter Tryd.func72, Tryd.ntmps72
  go_wp2_with (first | (have hx := hl1; clear hx; refine wpList_al _ rfl _ rfl _ zero_b32 ?_; intro w2 g2 hg2 hl2 B2 b2; have B1' := B1.grow b2) | (refine wpList_al _ rfl _ rfl _ zero_b32 ?_; intro w1 g1 hg1 hl1 B1 b1))
  have c2 := grow_trans b1 b2
  have hg3 : w.heap.size ≤ g2 := Nat.le_trans b1.size hg2
  have hne : g1 ≠ g2 := by omega
  have HB1 := hidden B1'
  have HB2 := hidden B2
  clear B1 B1' B2 b1 b2 hl1 hl2 hg2
  go_loopw [5] (fun s wr => ∃ (k : Nat) (ys : List Int), k ≤ 32 ∧ s = .int .i64 k ∧ Hid (Cop xs k ys) ∧ Hid (Blk wr g1 22 (B (List.replicate 32 0))) ∧ Hid (Blk wr g2 22 (B ys)) ∧ Hid (Below w.heap.size w wr)) (fun s _ => 32 - (intOf s).toNat)
  case atStart => exact ⟨0, _, by omega, rfl, Cop.start xs, HB1, HB2, c2⟩
  case round =>
    clear HB1 HB2 c2
    obtain ⟨k, ys, hk, rfl, hF, hB, hC, hb⟩ := hrel
    by_cases hk2 : k < 32
    · have hk' : (k : Int) < 32 := by omega
      have c1 := HC.out _ hb.out k hk2
      have c3 := hC.out.bcell k (by rw [hF.out.1]; exact hk2)
      have f3 := hC.out.frozen k
      have HST := hidden (hF.out.step hk2)
      generalize xs.getD k 0 = x at *
      go_wp2
      exact ⟨⟨k + 1, _, by omega, by go_num, HST, hB.out.other k _ hne, hC.out.bset k x, setCell_below _ _ hb.out hg3⟩, by simp [intOf]; omega⟩
    · obtain rfl : k = 32 := by omega
      have hyx := hF.out.all HL.out
      rw [hyx] at hC
      go_wp2_with (first | (refine wpList_ld _ rfl _ _ rfl g2 _ rfl hC.out _ _ u_b32 hs ?_) | (refine wpList_sto _ rfl _ _ _ rfl g1 _ (B xs) rfl rfl hB.out hs (by rw [HZ.out, B_size]; simp) (B_one _) ?_; intro w5 B6 g5))
      exact bodyPost_ret (v := .tuple #[.agg (B xs), .int .i64 0]) (results_row_tmp rfl _ _ g1 _ _ _ _ rfl rfl B6 u_b32 hs) rfl ⟨rfl, below_row hb.out g5 hg1⟩

set_option maxHeartbeats 1000000 in
theorem rof_out (v : Value) (xs : List Int) (w : World) (h : Reads w v xs) (hl : xs.length ≠ 32) : Calls Tryd.prog 72 #[v] w fun e w' => e = .returned (.tuple #[.agg (B (List.replicate 32 0)), .int .i64 3]) ∧ Below w.heap.size w w' := by
  obtain ⟨a, c, rfl, _, _, _, _⟩ := h
  have h2 : decide ((xs.length : Int) = 32) = false := decide_eq_false (by omega)
  have h3 : ¬ (xs.length : Int) = 32 := by omega
  have hs := b32_size key_zero
  go_enter Tryd.func72, Tryd.ntmps72
  go_wp2_with (first | (have hx := hl1; clear hx; refine wpList_al _ rfl _ rfl _ zero_b32 ?_; intro w2 g2 hg2 hl2 B2 b2; have B1' := B1.grow b2) | (refine wpList_al _ rfl _ rfl _ zero_b32 ?_; intro w1 g1 hg1 hl1 B1 b1) | (refine wpList_ld _ rfl _ _ rfl g2 _ rfl B2 _ _ u_b32 hs ?_) | (refine wpList_sto _ rfl _ _ _ rfl g1 _ (B (List.replicate 32 0)) rfl rfl B1' hs rfl (B_one _) ?_; intro w5 B6 g5))
  exact bodyPost_ret (v := .tuple #[.agg (B (List.replicate 32 0)), .int .i64 3]) (results_row_tmp rfl _ _ g1 _ _ _ _ rfl rfl B6 u_b32 hs) rfl ⟨rfl, below_row (grow_trans b1 b2) g5 hg1⟩

end Go.Proofs.YtpihigcnoifcfaaDoor

/- The document's Decode of nodes, as a contract. -/
namespace Go.Proofs.YtpihigcnoifcfaaDoor
set_option maxRecDepth 20000
open Go.RowKit

theorem reads_seg {w : World} {b off c : Nat} {zs : List Int} (hc : ∀ i, i < zs.length → w.cell? ⟨b, off + i, none⟩ = some (.int .u8 (zs.getD i 0))) (o n : Nat) (xs : List Int) (hs : Seg zs o xs) (hn : xs.length = n) (hb : Bytes xs) (hcap : n ≤ c) : Reads w (.slice (some ⟨b, off + o, none⟩) n c) xs := by
  subst hn
  refine ⟨_, _, rfl, hcap, fun h => (by cases h), hb, fun _ => ⟨b, off + o, rfl, fun i hi => ?_⟩⟩
  have h1 := hs i xs[i] (by simp)
  obtain ⟨h2, h3⟩ := List.getElem?_eq_some_iff.1 h1
  rw [Nat.add_assoc, hc (o + i) h2]
  simp [List.getD, h2, h3, hi]

set_option maxHeartbeats 2000000 in
theorem refDecode_leaf (v : Value) (zs : List Int) (w : World) (h : Reads w v zs) (hl : zs.length = 65) (h0 : zs.getD 0 0 = 1) : Calls Tryd.prog 59 #[v] w (DecPost zs w) := by
  obtain ⟨fs, hu⟩ := u_node
  have HU := hidden hu
  obtain ⟨a, c, rfl, h1, _, hby, h4⟩ := h
  obtain ⟨b, off, rfl, hc⟩ := h4 (by omega)
  obtain ⟨A, hAd⟩ : ∃ A, A = dcA zs := ⟨_, rfl⟩
  obtain ⟨V, hVd⟩ : ∃ V, V = dcB zs := ⟨_, rfl⟩
  have hA : A.length = 32 := by rw [hAd]; exact dcA_length zs hl
  have hV : V.length = 32 := by rw [hVd]; exact dcB_length zs hl
  have bA : Bytes A := by rw [hAd]; exact dcA_bytes zs hby
  have bV : Bytes V := by rw [hVd]; exact dcB_bytes zs hby
  have hck : ∀ w', Below w.heap.size w w' → ∀ i, i < zs.length → w'.cell? ⟨b, off + i, none⟩ = some (.int .u8 (zs.getD i 0)) := fun w' hw' i hi => (hw'.cell (p := ⟨b, off + i, none⟩) (block_lt_of_cell (hc i hi))).trans (hc i hi)
  have HC0 : Hid (∀ w', Below w.heap.size w w' → w'.cell? ⟨b, off, none⟩ = some (.int .u8 1)) := fun w' hw' => by
    have := hck w' hw' 0 (by omega)
    rwa [h0, Nat.add_zero] at this
  have HOA : Hid (∀ w', Below w.heap.size w w' → Calls Tryd.prog 72 #[.slice (some ⟨b, off + 1, none⟩) 32 (c - 1)] w' fun e w'' => e = .returned (.tuple #[.agg (B A), .int .i64 0]) ∧ Below w'.heap.size w' w'') := fun w' hw' => rof_in _ A w' (reads_seg (hck w' hw') 1 32 A (by rw [hAd]; exact dc_segA zs) hA bA (by omega)) hA
  have HOV : Hid (∀ w', Below w.heap.size w w' → Calls Tryd.prog 72 #[.slice (some ⟨b, off + 33, none⟩) 32 (c - 33)] w' fun e w'' => e = .returned (.tuple #[.agg (B V), .int .i64 0]) ∧ Below w'.heap.size w' w'') := fun w' hw' => rof_in _ V w' (reads_seg (hck w' hw') 33 32 V (by rw [hVd]; exact dc_segB zs) hV bV (by omega)) hV
  have HB : Hid (Tryd.prog.built 44 [(0, .int .u8 1), (1, .agg (B A)), (2, .agg (B V))] = some (B (nd 1 A V z32 z32))) := built_leaf A V hA hV
  have HN : Hid (Nd 1 A V z32 z32) := ⟨by omega, by omega, hA, hV, rfl, rfl, bA, bV, z32_bytes, z32_bytes⟩
  have HX : Hid (∀ w', Below w.heap.size w w' → DecPost zs w (.returned (.tuple #[.agg (B (nd 1 A V z32 z32)), .int .i64 0])) w') := fun w' hb => ⟨by
    have e1 : dcN zs = nd 1 A V z32 z32 := by rw [dcN, if_pos ⟨hl, h0⟩, hAd, hVd]
    have e2 : dcE zs = 0 := by rw [dcE, if_pos ⟨hl, h0⟩]
    rw [e1, e2], hb⟩
  obtain ⟨R, hR⟩ : ∃ R, R = nd 1 A V z32 z32 := ⟨_, rfl⟩
  have HRS : Hid ((B R).size = 129) := by show _ = _; rw [hR]; exact HN.out.size
  rw [← hR] at HB HX
  have HSA : Hid ((Tryd.prog.info? 22).map (·.size) = some (B A).size) := by show _ = _; rw [B_size, hA]; exact size_b32
  have HSV : Hid ((Tryd.prog.info? 22).map (·.size) = some (B V).size) := by show _ = _; rw [B_size, hV]; exact size_b32
  have HZA : Hid ((B (List.replicate 32 0)).size = (B A).size) := by show _ = _; rw [B_size, B_size, hA]; rfl
  have HZV : Hid ((B (List.replicate 32 0)).size = (B V).size) := by show _ = _; rw [B_size, B_size, hV]; rfl
  rw [hl] at h1 ⊢
  have hc1 : (33 : Int) ≤ (c : Int) := by omega
  have hif1 : (if c - 1 = 0 then off else off + 1) = off + 1 := if_neg (by omega)
  have hif2 : (if c - 33 = 0 then off else off + 33) = off + 33 := if_neg (by omega)
  have hne1 : ¬ c = 1 := by omega
  have hne33 : ¬ c = 33 := by omega
  clear h4 hc hAd hVd hA hV hu hR h0 hby hck bA bV
  go_enter Tryd.func59, Tryd.ntmps59
  go_wp2_with (first
    | ((with_reducible refine at_ald 2 ?_); refine wpList_al _ rfl _ rfl _ zero_node ?_; intro w1 g2 hg2 hl1 B2 b1; have ck := HC0.out _ b1; have KA := hidden B2.kp; have c1 := b1)
    | (go_at_call 72; have mk := mk1; refine (HOV.out _ c1).mono ?_; rintro e w5 ⟨rfl, q5⟩; clear mk mk1; have cc := grow_trans c1 q5; clear c1; have c1 := cc; clear cc; replace KA := hidden (KA.out.step q5); replace KB := hidden (KB.out.step q5); replace ck := HC0.out _ c1)
    | (go_at_call 72; refine (HOA.out _ c1).mono ?_; rintro e w2 ⟨rfl, q2⟩; have mk1 : Hid True := trivial; have cc := grow_trans c1 q2; clear c1; have c1 := cc; clear cc; replace KA := hidden (KA.out.step q2); replace ck := HC0.out _ c1)
    | ((with_reducible refine at_ald 4 ?_); refine wpList_al _ rfl _ rfl _ zero_b32 ?_; intro w3 g4 hg4 hl3 B4 q3)
    | ((with_reducible refine at_st 4 ?_); refine wpList_sto _ rfl _ _ _ rfl g4 _ (B A) rfl rfl B4 HSA.out HZA.out (B_one _) ?_; intro w4 by4 r4; have q4 := below_row q3 r4 hg4; have cc := grow_trans c1 q4; clear c1; have c1 := cc; clear cc; replace KA := hidden (KA.out.step q4); have KB := hidden by4.kp; replace ck := HC0.out _ c1)
    | ((with_reducible refine at_ald 6 ?_); refine wpList_al _ rfl _ rfl _ zero_b32 ?_; intro w6 g6 hg6 hl6 B6 q6)
    | ((with_reducible refine at_st 6 ?_); refine wpList_sto _ rfl _ _ _ rfl g6 _ (B V) rfl rfl B6 HSV.out HZV.out (B_one _) ?_; intro w7 by7 r7; have q7 := below_row q6 r7 hg6; have cc := grow_trans c1 q7; clear c1; have c1 := cc; clear cc; replace KA := hidden (KA.out.step q7); replace KB := hidden (KB.out.step q7); have KC := hidden by7.kp; replace ck := HC0.out _ c1)
    | ((with_reducible refine at_ldd 50 4 ?_); refine wpList_ld _ rfl _ _ rfl g4 _ rfl KB.out.now _ _ Tryd.underlying22 HSA.out ?_)
    | ((with_reducible refine at_ldd 51 6 ?_); refine wpList_ld _ rfl _ _ rfl g6 _ rfl KC.out.now _ _ Tryd.underlying22 HSV.out ?_)
    | ((with_reducible refine at_bdd 52 ?_); refine wpList_bld _ rfl _ _ rfl _ (by rw [List.map_toArray]; exact HB.out) ?_)
    | ((with_reducible refine at_st 2 ?_); refine wpList_sto _ rfl _ _ _ rfl g2 _ (B R) rfl rfl KA.out.now (by rw [HRS.out]; exact size_node) (by rw [HRS.out]; rfl) (B_one _) ?_; intro w8 B8 r8))
  exact bodyPost_ret (v := .tuple #[.agg (B R), .int .i64 0]) (results_agg_tmp rfl _ _ g2 _ _ rfl rfl B8 HU.out (by rw [HRS.out]; exact size_node)) rfl (HX.out _ (below_row c1 r8 hg2))

set_option maxHeartbeats 2000000 in
theorem refDecode_inner (v : Value) (zs : List Int) (w : World) (h : Reads w v zs) (hl : zs.length = 65) (h0 : zs.getD 0 0 = 2) : Calls Tryd.prog 59 #[v] w (DecPost zs w) := by
  obtain ⟨fs, hu⟩ := u_node
  have HU := hidden hu
  obtain ⟨a, c, rfl, h1, _, hby, h4⟩ := h
  obtain ⟨b, off, rfl, hc⟩ := h4 (by omega)
  obtain ⟨A, hAd⟩ : ∃ A, A = dcA zs := ⟨_, rfl⟩
  obtain ⟨V, hVd⟩ : ∃ V, V = dcB zs := ⟨_, rfl⟩
  have hA : A.length = 32 := by rw [hAd]; exact dcA_length zs hl
  have hV : V.length = 32 := by rw [hVd]; exact dcB_length zs hl
  have bA : Bytes A := by rw [hAd]; exact dcA_bytes zs hby
  have bV : Bytes V := by rw [hVd]; exact dcB_bytes zs hby
  have hck : ∀ w', Below w.heap.size w w' → ∀ i, i < zs.length → w'.cell? ⟨b, off + i, none⟩ = some (.int .u8 (zs.getD i 0)) := fun w' hw' i hi => (hw'.cell (p := ⟨b, off + i, none⟩) (block_lt_of_cell (hc i hi))).trans (hc i hi)
  have HC0 : Hid (∀ w', Below w.heap.size w w' → w'.cell? ⟨b, off, none⟩ = some (.int .u8 2)) := fun w' hw' => by
    have := hck w' hw' 0 (by omega)
    rwa [h0, Nat.add_zero] at this
  have HOA : Hid (∀ w', Below w.heap.size w w' → Calls Tryd.prog 72 #[.slice (some ⟨b, off + 1, none⟩) 32 (c - 1)] w' fun e w'' => e = .returned (.tuple #[.agg (B A), .int .i64 0]) ∧ Below w'.heap.size w' w'') := fun w' hw' => rof_in _ A w' (reads_seg (hck w' hw') 1 32 A (by rw [hAd]; exact dc_segA zs) hA bA (by omega)) hA
  have HOV : Hid (∀ w', Below w.heap.size w w' → Calls Tryd.prog 72 #[.slice (some ⟨b, off + 33, none⟩) 32 (c - 33)] w' fun e w'' => e = .returned (.tuple #[.agg (B V), .int .i64 0]) ∧ Below w'.heap.size w' w'') := fun w' hw' => rof_in _ V w' (reads_seg (hck w' hw') 33 32 V (by rw [hVd]; exact dc_segB zs) hV bV (by omega)) hV
  have HB : Hid (Tryd.prog.built 44 [(0, .int .u8 2), (3, .agg (B A)), (4, .agg (B V))] = some (B (nd 2 z32 z32 A V))) := built_inner A V hA hV
  have HN : Hid (Nd 2 z32 z32 A V) := ⟨by omega, by omega, rfl, rfl, hA, hV, z32_bytes, z32_bytes, bA, bV⟩
  have HX : Hid (∀ w', Below w.heap.size w w' → DecPost zs w (.returned (.tuple #[.agg (B (nd 2 z32 z32 A V)), .int .i64 0])) w') := fun w' hb => ⟨by
    have e1 : dcN zs = nd 2 z32 z32 A V := by rw [dcN, if_neg (by omega), if_pos ⟨hl, h0⟩, hAd, hVd]
    have e2 : dcE zs = 0 := by rw [dcE, if_neg (by omega), if_pos ⟨hl, h0⟩]
    rw [e1, e2], hb⟩
  obtain ⟨R, hR⟩ : ∃ R, R = nd 2 z32 z32 A V := ⟨_, rfl⟩
  have HRS : Hid ((B R).size = 129) := by show _ = _; rw [hR]; exact HN.out.size
  rw [← hR] at HB HX
  have HSA : Hid ((Tryd.prog.info? 22).map (·.size) = some (B A).size) := by show _ = _; rw [B_size, hA]; exact size_b32
  have HSV : Hid ((Tryd.prog.info? 22).map (·.size) = some (B V).size) := by show _ = _; rw [B_size, hV]; exact size_b32
  have HZA : Hid ((B (List.replicate 32 0)).size = (B A).size) := by show _ = _; rw [B_size, B_size, hA]; rfl
  have HZV : Hid ((B (List.replicate 32 0)).size = (B V).size) := by show _ = _; rw [B_size, B_size, hV]; rfl
  rw [hl] at h1 ⊢
  have hc1 : (33 : Int) ≤ (c : Int) := by omega
  have hif1 : (if c - 1 = 0 then off else off + 1) = off + 1 := if_neg (by omega)
  have hif2 : (if c - 33 = 0 then off else off + 33) = off + 33 := if_neg (by omega)
  have hne1 : ¬ c = 1 := by omega
  have hne33 : ¬ c = 33 := by omega
  clear h4 hc hAd hVd hA hV hu hR h0 hby hck bA bV
  go_enter Tryd.func59, Tryd.ntmps59
  go_wp2_with (first
    | ((with_reducible refine at_ald 2 ?_); refine wpList_al _ rfl _ rfl _ zero_node ?_; intro w1 g2 hg2 hl1 B2 b1; have ck := HC0.out _ b1; have KA := hidden B2.kp; have c1 := b1)
    | (go_at_call 72; have mk := mk1; refine (HOV.out _ c1).mono ?_; rintro e w5 ⟨rfl, q5⟩; clear mk mk1; have cc := grow_trans c1 q5; clear c1; have c1 := cc; clear cc; replace KA := hidden (KA.out.step q5); replace KB := hidden (KB.out.step q5); replace ck := HC0.out _ c1)
    | (go_at_call 72; refine (HOA.out _ c1).mono ?_; rintro e w2 ⟨rfl, q2⟩; have mk1 : Hid True := trivial; have cc := grow_trans c1 q2; clear c1; have c1 := cc; clear cc; replace KA := hidden (KA.out.step q2); replace ck := HC0.out _ c1)
    | ((with_reducible refine at_ald 4 ?_); refine wpList_al _ rfl _ rfl _ zero_b32 ?_; intro w3 g4 hg4 hl3 B4 q3)
    | ((with_reducible refine at_st 4 ?_); refine wpList_sto _ rfl _ _ _ rfl g4 _ (B A) rfl rfl B4 HSA.out HZA.out (B_one _) ?_; intro w4 by4 r4; have q4 := below_row q3 r4 hg4; have cc := grow_trans c1 q4; clear c1; have c1 := cc; clear cc; replace KA := hidden (KA.out.step q4); have KB := hidden by4.kp; replace ck := HC0.out _ c1)
    | ((with_reducible refine at_ald 6 ?_); refine wpList_al _ rfl _ rfl _ zero_b32 ?_; intro w6 g6 hg6 hl6 B6 q6)
    | ((with_reducible refine at_st 6 ?_); refine wpList_sto _ rfl _ _ _ rfl g6 _ (B V) rfl rfl B6 HSV.out HZV.out (B_one _) ?_; intro w7 by7 r7; have q7 := below_row q6 r7 hg6; have cc := grow_trans c1 q7; clear c1; have c1 := cc; clear cc; replace KA := hidden (KA.out.step q7); replace KB := hidden (KB.out.step q7); have KC := hidden by7.kp; replace ck := HC0.out _ c1)
    | ((with_reducible refine at_ldd 53 4 ?_); refine wpList_ld _ rfl _ _ rfl g4 _ rfl KB.out.now _ _ Tryd.underlying22 HSA.out ?_)
    | ((with_reducible refine at_ldd 54 6 ?_); refine wpList_ld _ rfl _ _ rfl g6 _ rfl KC.out.now _ _ Tryd.underlying22 HSV.out ?_)
    | ((with_reducible refine at_bdd 55 ?_); refine wpList_bld _ rfl _ _ rfl _ (by rw [List.map_toArray]; exact HB.out) ?_)
    | ((with_reducible refine at_st 2 ?_); refine wpList_sto _ rfl _ _ _ rfl g2 _ (B R) rfl rfl KA.out.now (by rw [HRS.out]; exact size_node) (by rw [HRS.out]; rfl) (B_one _) ?_; intro w8 B8 r8))
  exact bodyPost_ret (v := .tuple #[.agg (B R), .int .i64 0]) (results_agg_tmp rfl _ _ g2 _ _ rfl rfl B8 HU.out (by rw [HRS.out]; exact size_node)) rfl (HX.out _ (below_row c1 r8 hg2))

set_option maxHeartbeats 2000000 in
theorem refDecode_empty (v : Value) (zs : List Int) (w : World) (h : Reads w v zs) (hl : zs.length = 1) (h0 : zs.getD 0 0 = 0) (hx1 : dcN zs = nd 0 z32 z32 z32 z32) (hx2 : dcE zs = 0) : Calls Tryd.prog 59 #[v] w (DecPost zs w) := by
  obtain ⟨fs, hu⟩ := u_node
  have HU := hidden hu
  have HX : Hid (∀ w', Below w.heap.size w w' → DecPost zs w (.returned (.tuple #[.agg (B (nd 0 z32 z32 z32 z32)), .int .i64 0])) w') := fun w' hb => ⟨by rw [hx1, hx2], hb⟩
  obtain ⟨R, hR⟩ : ∃ R, R = nd 0 z32 z32 z32 z32 := ⟨_, rfl⟩
  have HRS : Hid ((B R).size = 129) := by show _ = _; rw [hR]; exact z_nd.size
  have HB : Hid (Tryd.prog.built 44 [] = some (B R)) := by rw [hR]; exact built_empty
  rw [← hR] at HX
  obtain ⟨a, c, rfl, hcap, _, _, h4⟩ := h
  obtain ⟨b, off, rfl, hc⟩ := h4 (by omega)
  have HC0 : Hid (∀ w', Below w.heap.size w w' → w'.cell? ⟨b, off, none⟩ = some (.int .u8 (zs.getD 0 0))) := fun w' hw' => by
    have := (hw'.cell (p := ⟨b, off + 0, none⟩) (block_lt_of_cell (hc 0 (by omega)))).trans (hc 0 (by omega))
    rwa [Nat.add_zero] at this
  obtain ⟨z, hz⟩ : ∃ z, z = zs.getD 0 0 := ⟨_, rfl⟩
  rw [← hz] at HC0 h0
  rw [hl]
  have z0 : (z == 0) = true := by simp [h0]
  clear hc h4 hu hR hx1 hx2 hcap hl hz h0
  go_enter Tryd.func59, Tryd.ntmps59
  go_wp2_with (first
    | ((with_reducible refine at_ald 2 ?_); refine wpList_al _ rfl _ rfl _ zero_node ?_; intro w1 g2 hg2 hl1 B2 b1; have ck := HC0.out _ b1)
    | ((with_reducible refine at_bd ?_); refine wpList_bld _ rfl _ _ rfl _ (by rw [List.map_toArray]; exact HB.out) ?_)
    | ((with_reducible refine at_st 2 ?_); refine wpList_sto _ rfl _ _ _ rfl g2 _ (B R) rfl rfl B2 (by rw [HRS.out]; exact size_node) (by rw [HRS.out]; rfl) (B_one _) ?_; intro w8 B8 r8))
  exact bodyPost_ret (v := .tuple #[.agg (B R), .int .i64 0]) (results_agg_tmp rfl _ _ g2 _ _ rfl rfl B8 HU.out (by rw [HRS.out]; exact size_node)) rfl (HX.out _ (below_row b1 r8 hg2))

set_option maxHeartbeats 2000000 in
theorem refDecode_one (v : Value) (zs : List Int) (w : World) (h : Reads w v zs) (hl : zs.length = 1) (h0 : zs.getD 0 0 ≠ 0) (hx1 : dcN zs = nd 0 z32 z32 z32 z32) (hx2 : dcE zs = 10) : Calls Tryd.prog 59 #[v] w (DecPost zs w) := by
  obtain ⟨fs, hu⟩ := u_node
  have HU := hidden hu
  have HX : Hid (∀ w', Below w.heap.size w w' → DecPost zs w (.returned (.tuple #[.agg (B (nd 0 z32 z32 z32 z32)), .int .i64 10])) w') := fun w' hb => ⟨by rw [hx1, hx2], hb⟩
  obtain ⟨R, hR⟩ : ∃ R, R = nd 0 z32 z32 z32 z32 := ⟨_, rfl⟩
  have HRS : Hid ((B R).size = 129) := by show _ = _; rw [hR]; exact z_nd.size
  have HB : Hid (Tryd.prog.built 44 [] = some (B R)) := by rw [hR]; exact built_empty
  rw [← hR] at HX
  obtain ⟨a, c, rfl, hcap, _, _, h4⟩ := h
  obtain ⟨b, off, rfl, hc⟩ := h4 (by omega)
  have HC0 : Hid (∀ w', Below w.heap.size w w' → w'.cell? ⟨b, off, none⟩ = some (.int .u8 (zs.getD 0 0))) := fun w' hw' => by
    have := (hw'.cell (p := ⟨b, off + 0, none⟩) (block_lt_of_cell (hc 0 (by omega)))).trans (hc 0 (by omega))
    rwa [Nat.add_zero] at this
  obtain ⟨z, hz⟩ : ∃ z, z = zs.getD 0 0 := ⟨_, rfl⟩
  rw [← hz] at HC0 h0
  rw [hl]
  have z0 : (z == 0) = false := by simp [h0]
  clear hc h4 hu hR hx1 hx2 hcap hl hz h0
  go_enter Tryd.func59, Tryd.ntmps59
  go_wp2_with (first
    | ((with_reducible refine at_ald 2 ?_); refine wpList_al _ rfl _ rfl _ zero_node ?_; intro w1 g2 hg2 hl1 B2 b1; have ck := HC0.out _ b1)
    | ((with_reducible refine at_bd ?_); refine wpList_bld _ rfl _ _ rfl _ (by rw [List.map_toArray]; exact HB.out) ?_)
    | ((with_reducible refine at_st 2 ?_); refine wpList_sto _ rfl _ _ _ rfl g2 _ (B R) rfl rfl B2 (by rw [HRS.out]; exact size_node) (by rw [HRS.out]; rfl) (B_one _) ?_; intro w8 B8 r8))
  exact bodyPost_ret (v := .tuple #[.agg (B R), .int .i64 10]) (results_agg_tmp rfl _ _ g2 _ _ rfl rfl B8 HU.out (by rw [HRS.out]; exact size_node)) rfl (HX.out _ (below_row b1 r8 hg2))

set_option maxHeartbeats 2000000 in
theorem refDecode_odd (v : Value) (zs : List Int) (w : World) (h : Reads w v zs) (hl : zs.length = 65) (h0 : zs.getD 0 0 ≠ 1 ∧ zs.getD 0 0 ≠ 2) (hx1 : dcN zs = nd 0 z32 z32 z32 z32) (hx2 : dcE zs = 10) : Calls Tryd.prog 59 #[v] w (DecPost zs w) := by
  obtain ⟨fs, hu⟩ := u_node
  have HU := hidden hu
  have HX : Hid (∀ w', Below w.heap.size w w' → DecPost zs w (.returned (.tuple #[.agg (B (nd 0 z32 z32 z32 z32)), .int .i64 10])) w') := fun w' hb => ⟨by rw [hx1, hx2], hb⟩
  obtain ⟨R, hR⟩ : ∃ R, R = nd 0 z32 z32 z32 z32 := ⟨_, rfl⟩
  have HRS : Hid ((B R).size = 129) := by show _ = _; rw [hR]; exact z_nd.size
  have HB : Hid (Tryd.prog.built 44 [] = some (B R)) := by rw [hR]; exact built_empty
  rw [← hR] at HX
  obtain ⟨a, c, rfl, hcap, _, _, h4⟩ := h
  obtain ⟨b, off, rfl, hc⟩ := h4 (by omega)
  have HC0 : Hid (∀ w', Below w.heap.size w w' → w'.cell? ⟨b, off, none⟩ = some (.int .u8 (zs.getD 0 0))) := fun w' hw' => by
    have := (hw'.cell (p := ⟨b, off + 0, none⟩) (block_lt_of_cell (hc 0 (by omega)))).trans (hc 0 (by omega))
    rwa [Nat.add_zero] at this
  obtain ⟨z, hz⟩ : ∃ z, z = zs.getD 0 0 := ⟨_, rfl⟩
  rw [← hz] at HC0 h0
  rw [hl]
  have z0 : (z == 1) = false := by simp [h0.1]
  have z2 : (z == 2) = false := by simp [h0.2]
  have z1' : (z != 1) = true := by simp [h0.1]
  have z2' : (z != 2) = true := by simp [h0.2]
  clear hc h4 hu hR hx1 hx2 hcap hl hz h0
  go_enter Tryd.func59, Tryd.ntmps59
  go_wp2_with (first
    | ((with_reducible refine at_ald 2 ?_); refine wpList_al _ rfl _ rfl _ zero_node ?_; intro w1 g2 hg2 hl1 B2 b1; have ck := HC0.out _ b1)
    | ((with_reducible refine at_bd ?_); refine wpList_bld _ rfl _ _ rfl _ (by rw [List.map_toArray]; exact HB.out) ?_)
    | ((with_reducible refine at_st 2 ?_); refine wpList_sto _ rfl _ _ _ rfl g2 _ (B R) rfl rfl B2 (by rw [HRS.out]; exact size_node) (by rw [HRS.out]; rfl) (B_one _) ?_; intro w8 B8 r8))
  exact bodyPost_ret (v := .tuple #[.agg (B R), .int .i64 10]) (results_agg_tmp rfl _ _ g2 _ _ rfl rfl B8 HU.out (by rw [HRS.out]; exact size_node)) rfl (HX.out _ (below_row b1 r8 hg2))

set_option maxHeartbeats 2000000 in
theorem refDecode_len (v : Value) (zs : List Int) (w : World) (h : Reads w v zs) (hl : zs.length ≠ 1) (h0 : zs.length ≠ 65) (hx1 : dcN zs = nd 0 z32 z32 z32 z32) (hx2 : dcE zs = 10) : Calls Tryd.prog 59 #[v] w (DecPost zs w) := by
  obtain ⟨fs, hu⟩ := u_node
  have HU := hidden hu
  have HX : Hid (∀ w', Below w.heap.size w w' → DecPost zs w (.returned (.tuple #[.agg (B (nd 0 z32 z32 z32 z32)), .int .i64 10])) w') := fun w' hb => ⟨by rw [hx1, hx2], hb⟩
  obtain ⟨R, hR⟩ : ∃ R, R = nd 0 z32 z32 z32 z32 := ⟨_, rfl⟩
  have HRS : Hid ((B R).size = 129) := by show _ = _; rw [hR]; exact z_nd.size
  have HB : Hid (Tryd.prog.built 44 [] = some (B R)) := by rw [hR]; exact built_empty
  rw [← hR] at HX
  obtain ⟨a, c, rfl, hcap, _, _, h4⟩ := h
  have n1 : ((zs.length : Int) == 1) = false := by simp; omega
  have n2 : ((zs.length : Int) == 65) = false := by simp; omega
  have n3 : ((zs.length : Int) != 65) = true := by simp; omega
  clear h4 hu hR hx1 hx2 hcap hl h0
  go_enter Tryd.func59, Tryd.ntmps59
  go_wp2_with (first
    | ((with_reducible refine at_ald 2 ?_); refine wpList_al _ rfl _ rfl _ zero_node ?_; intro w1 g2 hg2 hl1 B2 b1)
    | ((with_reducible refine at_bd ?_); refine wpList_bld _ rfl _ _ rfl _ (by rw [List.map_toArray]; exact HB.out) ?_)
    | ((with_reducible refine at_st 2 ?_); refine wpList_sto _ rfl _ _ _ rfl g2 _ (B R) rfl rfl B2 (by rw [HRS.out]; exact size_node) (by rw [HRS.out]; rfl) (B_one _) ?_; intro w8 B8 r8))
  exact bodyPost_ret (v := .tuple #[.agg (B R), .int .i64 10]) (results_agg_tmp rfl _ _ g2 _ _ rfl rfl B8 HU.out (by rw [HRS.out]; exact size_node)) rfl (HX.out _ (below_row b1 r8 hg2))

theorem refDecode_any (v : Value) (zs : List Int) (w : World) (h : Reads w v zs) : Calls Tryd.prog 59 #[v] w (DecPost zs w) := by
  by_cases h1 : zs.length = 65 ∧ zs.getD 0 0 = 1
  · exact refDecode_leaf v zs w h h1.1 h1.2
  · by_cases h2 : zs.length = 65 ∧ zs.getD 0 0 = 2
    · exact refDecode_inner v zs w h h2.1 h2.2
    · have hx1 : dcN zs = nd 0 z32 z32 z32 z32 := by rw [dcN, if_neg h1, if_neg h2]
      by_cases h3 : zs.length = 1 ∧ zs.getD 0 0 = 0
      · exact refDecode_empty v zs w h h3.1 h3.2 hx1 (by rw [dcE, if_neg h1, if_neg h2, if_pos h3])
      · have hx2 : dcE zs = 10 := by rw [dcE, if_neg h1, if_neg h2, if_neg h3]
        by_cases l1 : zs.length = 1
        · exact refDecode_one v zs w h l1 (fun e => h3 ⟨l1, e⟩) hx1 hx2
        · by_cases l2 : zs.length = 65
          · exact refDecode_odd v zs w h l2 ⟨fun e => h1 ⟨l2, e⟩, fun e => h2 ⟨l2, e⟩⟩ hx1 hx2
          · exact refDecode_len v zs w h l1 l2 hx1 hx2

end Go.Proofs.YtpihigcnoifcfaaDoor

/- The document's Check and Encode of layer 17, as contracts. -/
namespace Go.Proofs.YtpihigcnoifcfaaDoor
set_option maxRecDepth 20000
open Go.RowKit

set_option maxHeartbeats 2000000 in
theorem rpcheck_any (s : Value) (hs : List (List Int)) (k : Int) (a b c d : List Int) (w : World) (hh : HsAt w s hs) (hN : Nd k a b c d) :
    Calls Tryd.prog 60 #[.agg (encR s (nd k a b c d)).toArray] w fun e w' => e = .returned (.int .i64 (chE hs k a b c d)) ∧ Below w.heap.size w w' := by
  obtain ⟨sa, sc, rfl, _⟩ := hh
  have HC : Hid (∀ w', Calls Tryd.prog 34 #[.agg (B (nd k a b c d))] w' fun e w'' => e = .returned (.int .i64 (okE k a b c d)) ∧ Below w'.heap.size w' w'') := fun w' => refCheck_any k a b c d w' hN
  have HL := hidden hN.length
  obtain ⟨n, hnn⟩ : ∃ n, n = hs.length := ⟨_, rfl⟩
  obtain ⟨E, hE⟩ : ∃ E, E = chE hs k a b c d := ⟨_, rfl⟩
  have hE2 : E = if 256 < n then 4 else if k = 2 then 2 else okE k a b c d := by rw [hE, hnn]; rfl
  have hO : okE k a b c d = 0 ∨ okE k a b c d = 2 := by unfold okE; split <;> simp
  have HK : Hid (∀ (s : Value) w g t, Blk w g t (encR s (nd k a b c d)).toArray → w.cell? ⟨g, 1, none⟩ = some (.int .u8 k)) := fun s w g t h => proof_kind h
  obtain ⟨N, hNn⟩ : ∃ N, N = nd k a b c d := ⟨_, rfl⟩
  rw [← hnn, ← hE, ← hNn]
  rw [← hNn] at HC HL HK
  obtain ⟨O, hOO⟩ : ∃ O, O = okE k a b c d := ⟨_, rfl⟩
  rw [← hOO] at HC hE2 hO
  clear hE hnn hNn hN hOO
  by_cases h1 : 256 < n
  · have z1 : (256 : Int) < (n : Int) := by omega
    rw [if_pos h1] at hE2
    subst hE2
    clear h1
    go_enter Tryd.func60, Tryd.ntmps60
    go_wp2_with (first
      | ((with_reducible refine at_bxd 1 ?_); refine wpList_bx _ rfl _ _ rfl _ rfl ?_; intro w1 g1 hg1 hl1 B1 b1; have cx := proof_side B1))
    go_ret
    exact ⟨rfl, b1⟩
  · have z1 : ¬ (256 : Int) < (n : Int) := by omega
    rw [if_neg h1] at hE2
    rcases hO with rfl | rfl
    · by_cases h2 : k = 2
      · rw [if_pos h2] at hE2
        subst hE2
        have z2 : (k == 2) = true := by simp [h2]
        clear h1
        go_enter Tryd.func60, Tryd.ntmps60
        go_wp2_with (first
          | ((with_reducible refine at_bxd 1 ?_); refine wpList_bx _ rfl _ _ rfl _ rfl ?_; intro w1 g1 hg1 hl1 B1 b1; have cx := proof_side B1)
          | ((with_reducible refine at_ldd 8 7 ?_); refine wpList_lde _ rfl _ rfl g1 _ _ N rfl B1 HL.out ?_)
          | (go_at_call 34; refine (HC.out _).mono ?_; rintro e w2 ⟨rfl, b2⟩; have ck := HK.out _ _ _ _ (B1.grow b2)))
        go_ret
        exact ⟨rfl, grow_trans b1 b2⟩
      · rw [if_neg h2] at hE2
        subst hE2
        have z2 : (k == 2) = false := by simp [h2]
        clear h1
        go_enter Tryd.func60, Tryd.ntmps60
        go_wp2_with (first
          | ((with_reducible refine at_bxd 1 ?_); refine wpList_bx _ rfl _ _ rfl _ rfl ?_; intro w1 g1 hg1 hl1 B1 b1; have cx := proof_side B1)
          | ((with_reducible refine at_ldd 8 7 ?_); refine wpList_lde _ rfl _ rfl g1 _ _ N rfl B1 HL.out ?_)
          | (go_at_call 34; refine (HC.out _).mono ?_; rintro e w2 ⟨rfl, b2⟩; have ck := HK.out _ _ _ _ (B1.grow b2)))
        go_ret
        exact ⟨rfl, grow_trans b1 b2⟩
    · have hE3 : E = 2 := by rw [hE2]; split <;> rfl
      subst hE3
      clear h1 hE2
      go_enter Tryd.func60, Tryd.ntmps60
      go_wp2_with (first
        | ((with_reducible refine at_bxd 1 ?_); refine wpList_bx _ rfl _ _ rfl _ rfl ?_; intro w1 g1 hg1 hl1 B1 b1; have cx := proof_side B1)
        | ((with_reducible refine at_ldd 8 7 ?_); refine wpList_lde _ rfl _ rfl g1 _ _ N rfl B1 HL.out ?_)
        | (go_at_call 34; refine (HC.out _).mono ?_; rintro e w2 ⟨rfl, b2⟩))
      go_ret
      exact ⟨rfl, grow_trans b1 b2⟩

theorem own_blk {b : Nat} {w : World} {v : Value} {zs sp : List Int} {g : Nat} {t : TypeId} {cs : Array Value} (h : Own b w v zs sp) (hb : Blk w g t cs) (ht : t ≠ 5) : v.ownBlock ≠ some g := by
  obtain ⟨_, _, _, h4⟩ := h
  rcases h4 with ⟨rfl, _⟩ | ⟨g', hid, _, rfl, hr⟩
  · simp [Value.ownBlock]
  · intro e
    obtain rfl : g' = g := by simpa [Value.ownBlock] using e
    unfold Row at hr
    unfold Blk at hb
    rw [hr] at hb
    injection hb with hb
    injection hb with _ h2
    exact ht h2.symm

theorem bitsOf_snoc (G : Nat → Bool) (q : Nat) : bitsOf G (q + 1) = bitsOf G q ++ [v8 G q 8] := by simp [bitsOf, List.range_succ]

set_option maxRecDepth 100000 in
set_option maxHeartbeats 8000000 in
theorem rpencode_any (s : Value) (hs : List (List Int)) (k : Int) (a b c d : List Int) (w : World) (hh : HsAt w s hs) (hN : Nd k a b c d) :
    Calls Tryd.prog 33 #[.agg (encR s (nd k a b c d)).toArray] w (EncPP hs k a b c d w) := by
  have HL := hidden hN.length
  have hDg : Dg hs := hh.dgs
  have HC : Hid (∀ w', Below w.heap.size w w' → Calls Tryd.prog 60 #[.agg (encR s (nd k a b c d)).toArray] w' fun e w'' => e = .returned (.int .i64 (chE hs k a b c d)) ∧ Below w'.heap.size w' w'') := fun w' h => rpcheck_any s hs k a b c d w' (hh.grow h) hN
  have HEn : Hid (∀ w', Calls Tryd.prog 61 #[.agg (B (nd k a b c d))] w' (EncPost k a b c d w')) := fun w' => refEncode_any k a b c d w' hN
  have HPost : Hid (∀ v sp w', Own w.heap.size w' v (exP hs k a b c d) sp → Below w.heap.size w w' → EncPP hs k a b c d w (.returned (.tuple #[v, .int .i64 (chE hs k a b c d)])) w') := fun v sp w' h1 h2 => ⟨v, sp, rfl, h1, h2⟩
  generalize HE : EncPP hs k a b c d w = Post at HPost ⊢
  clear HE
  by_cases h0 : chE hs k a b c d = 0
  · have hex : exP hs k a b c d = pkE hs k a b c d := if_pos h0
    obtain ⟨hn, hk2, ho⟩ := chE_ok h0
    have hoE : okE k a b c d = 0 := by rw [okE, ho]; rfl
    rw [hex] at HPost
    rw [h0] at HC HPost
    have HEn2 : Hid (∀ w', Calls Tryd.prog 61 #[.agg (B (nd k a b c d))] w' fun e w'' => ∃ v sp, e = .returned (.tuple #[v, .int .i64 0]) ∧ Own w'.heap.size w'' v (txN k a b c d) sp ∧ Below w'.heap.size w' w'') := fun w' => by
      have := HEn.out w'
      unfold EncPost at this
      rwa [hoE] at this
    have HTx := hidden (txN_bytes hN)
    have HTs : Hid ((txN k a b c d).length ≤ 65) := txN_short hN
    have HPE : Hid (pkE hs k a b c d = ([(hs.length : Int) / 256, (hs.length : Int) % 256] ++ bitsOf (mk hs) (by7 hs.length)) ++ wrL (hs.take hs.length) ++ txN k a b c d) := by
      show _ = _
      rw [List.take_length, pkE, hdL, bitsL]
      simp only [List.append_assoc]
    rw [HPE.out] at HPost
    obtain ⟨sa, sc, rfl, _, hrow, hdg⟩ := hh
    obtain ⟨n, hnn⟩ : ∃ n, n = hs.length := ⟨_, rfl⟩
    have HNN := hidden hnn
    have HR : Hid (∀ k, k < n → ∃ g off, sa = some ⟨g, off, none⟩ ∧ w.rangeAt g (off + k * 32) (B (hs.getD k [])).toList ∧ (hs.getD k []).length = 32 ∧ Bytes (hs.getD k [])) := fun k hk => by
      rw [hnn] at hk
      obtain ⟨g, off, e, h⟩ := hrow (by omega)
      exact ⟨g, off, e, h k hk, hdg k hk⟩
    have HWN : Hid (∀ k, (wrL (hs.take k)).length ≤ 8192) := fun k => by
      have hd : Dg (hs.take k) := fun x hx => hDg x (List.mem_of_mem_take hx)
      have := wrL_length_le hd
      rw [List.length_take] at this
      omega
    have HMk : Hid (∀ j, mk hs j = if j < n then decide (hs.getD j [] ≠ emD) else false) := fun j => by
      rw [mk, hnn]
      by_cases h : j < hs.length
      · rw [if_pos h]; simp [List.getD, h]
      · rw [if_neg h]; simp [List.getD, List.getElem?_eq_none (Nat.le_of_not_lt h)]
    rw [← hnn] at HC HPost hn ⊢
    have HSz := hidden (encR_sz (.slice sa n sc) (nd k a b c d) HL.out)
    obtain ⟨N, hNn⟩ : ∃ N, N = nd k a b c d := ⟨_, rfl⟩
    rw [← hNn] at HC HL HEn2 HSz ⊢
    obtain ⟨TX, hT⟩ : ∃ TX, TX = txN k a b c d := ⟨_, rfl⟩
    rw [← hT] at HEn2 HTx HPost HTs
    obtain ⟨m, hm⟩ : ∃ m, m = by7 n := ⟨_, rfl⟩
    rw [← hm] at HPost
    have HM : Hid (n ≤ 8 * m ∧ m ≤ 32 ∧ ∀ q, 8 * q < n ↔ q < m) := by
      refine ⟨?_, ?_, fun q => ?_⟩ <;> rw [hm] <;> unfold by7 <;> omega
    obtain ⟨D, hD⟩ : ∃ D, D = emD := ⟨_, rfl⟩
    have HD := hidden hD
    have HEM : Hid (∀ w', Calls Tryd.prog 58 #[] w' fun e w'' => e = .returned (.agg (B D)) ∧ Below w'.heap.size w' w'') := fun w' => by rw [hD]; exact refEmpty_any w'
    have HSZ : Hid ((Tryd.prog.info? 23).map (·.size) = some (B D).size) := by show _ = _; rw [B_size, hD, emD_length]; exact sz_hash
    have HS2 : Hid ((B (List.replicate 32 0)).size = (B D).size) := by show _ = _; rw [B_size, B_size, hD, emD_length]; rfl
    have HDL : Hid (D.length = 32) := by show _ = _; rw [hD, emD_length]
    have HLD : Hid ((Tryd.prog.info? 23).map (·.size) = some (B D).toList.length) := by show _ = _; rw [Array.length_toList]; exact HSZ.out
    rw [← hD] at HMk
    obtain ⟨fp, hup⟩ := u_proof
    have HUP := hidden hup
    have HN6 : Hid (n ≤ 256) := hn
    have hb1 : IntKind.u8.wrap ((n : Int) / 256) = (n : Int) / 256 := by rw [IntKind.wrap_u8']; omega
    have hb2 : IntKind.u8.wrap ((n : Int) % 256) = (n : Int) % 256 := by rw [IntKind.wrap_u8']; omega
    have z0 : (0 : Int) ≤ (n : Int) := by omega
    have z6 : (n : Int) ≤ 256 := by omega
    clear HEn hn hex hnn hNn hT hN h0 ho hoE hk2 hup HPE hrow hdg hDg hm hD
    go_enter Tryd.func33, Tryd.ntmps33
    go_wp2_with (first
      | ((with_reducible refine at_bxd 1 ?_); refine wpList_bx _ rfl _ _ rfl _ rfl ?_; intro w1 g1 hg1 hl1 B1 b1; have HG1 := hidden hg1; have HB1 := hidden B1; have Hb1 := hidden b1; clear hg1 hl1 B1 b1)
      | ((with_reducible refine at_ldd 15 1 ?_); refine wpList_lds _ rfl _ _ rfl g1 _ _ rfl HB1.out HUP.out HSz.out ?_)
      | (go_at_call 60; refine (HC.out _ Hb1.out).mono ?_; rintro e w2 ⟨rfl, b2⟩; have HB2 := hidden (HB1.out.grow b2); have Hb2 := hidden (grow_trans Hb1.out b2); clear b2; have cx := proof_side HB2.out)
      | (go_at_call 58; refine (HEM.out _).mono ?_; rintro e w3 ⟨rfl, b3⟩; have HO3 := hidden ((lit_own w2 [(n : Int) / 256, (n : Int) % 256] (by intro z hz; simp only [List.mem_cons, List.not_mem_nil, or_false] at hz; omega) (by simp)).grow b3); have HB3 := hidden ((HB2.out.grow (grow_alloc _ _)).grow b3); have Hb3 := hidden (grow_trans (grow_trans Hb2.out (grow_alloc _ _)) b3); clear b3 cx)
      | ((with_reducible refine at_ald 7 ?_); refine wpList_al _ rfl _ rfl _ zero_hash ?_; intro w4 g7 hg7 hl7 B7 b4; have HG7 := hidden hg7; have HB7 := hidden B7; have Hb4 := hidden b4; clear hg7 hl7 B7 b4)
      | ((with_reducible refine at_st 7 ?_); refine wpList_sto _ rfl _ _ _ rfl g7 _ _ rfl rfl HB7.out HSZ.out HS2.out (B_one _) ?_; intro w5 B5 r5; have HD5 := hidden B5; have b5 := below_row Hb4.out r5 HG7.out; have HO5 := hidden (HO3.out.grow b5); have HB5 := hidden (HB3.out.grow b5); have Hb5 := hidden (grow_trans Hb3.out b5); clear B5 r5 b5))
    have HO5' : Hid (Own w.heap.size w5 (.slice (some ⟨w2.heap.size, 0, none⟩) 2 2) ([(n : Int) / 256, (n : Int) % 256] ++ bitsOf (mk hs) 0) []) := (HO5.out.mono Hb2.out.size)
    have HSA : Hid (∀ w' g t, Blk w' g t (encR (.slice sa n sc) N).toArray → w'.cell? ⟨g, 0, none⟩ = some (.slice sa n sc)) := fun w' g t h => proof_side h
    have hN6 : n ≤ 256 := HN6.out
    generalize hRN : encR (.slice sa n sc) N = RN at *
    have HRN := hidden hRN
    clear HO5 HO3 HB3 Hb3 HB7 HG7 Hb4 HEM HB2 Hb2 HB1 Hb1 HG1 HC hb1 hb2 hRN
    go_wp2
    go_loopw [8, 6] (fun iv ov wr => ∃ (q i : Nat) (sp : List Int) (u : Value), q ≤ m ∧ iv = .int .i64 (i : Int) ∧ u = ov ∧ Hid (i = 8 * q) ∧ Hid (Own w.heap.size wr u ([(n : Int) / 256, (n : Int) % 256] ++ bitsOf (mk hs) q) sp) ∧ Hid (Blk wr g7 23 (B D)) ∧ Hid (Blk wr g1 46 RN.toArray) ∧ Hid (Below w.heap.size w wr)) (fun iv _ _ => n + 8 - (intOf iv).toNat)
    case atStart => exact ⟨0, 0, [], _, by omega, rfl, rfl, rfl, HO5'.out, HD5.out, HB5.out, Hb5.out⟩
    case round =>
      obtain ⟨q, i, sp, u, hq, rfl, rfl, hiq, hO, hB7, hB1, hBw⟩ := hrel
      have hi8 : i = 8 * q := hiq.out
      have hm6 : n ≤ 8 * m ∧ m ≤ 32 := ⟨HM.out.1, HM.out.2.1⟩
      have hqm : 8 * q < n ↔ q < m := HM.out.2.2 q
      by_cases hlt : i < n
      · have z1 : (i : Int) < (n : Int) := by omega
        have hqlt : q < m := by omega
        have HI8 := hidden hi8
        clear hi8 hiq hqm
        have cx := HSA.out _ _ _ hB1.out
        clear cx
        go_wp2
        obtain ⟨wo, hwo⟩ : ∃ wo, wo = wr := ⟨_, rfl⟩
        subst hwo
        go_loopw [10, 9] (fun kv vv wr => ∃ j : Nat, j ≤ 8 ∧ kv = .int .i64 (j : Int) ∧ vv = .int .i64 (v8 (mk hs) q j) ∧ Hid (Below wo.heap.size wo wr)) (fun kv _ _ => 8 - (intOf kv).toNat)
        case atStart => exact ⟨0, by omega, rfl, rfl, Below.refl _ _⟩
        case round =>
          obtain ⟨j, hj, rfl, rfl, hBq⟩ := hrel
          by_cases hj8 : j < 8
          · have y1 : (j : Int) < 8 := by omega
            obtain ⟨V, hV⟩ : ∃ V, V = v8 (mk hs) q j := ⟨_, rfl⟩
            have hV2 : 0 ≤ V ∧ V ≤ 255 := by
              have h1 := v8_in (mk hs) q j
              have h2 := (show ∀ j, j < 8 → 2 ^ j ≤ 128 from by decide +kernel) j hj8
              have h3 : (2 : Int) ^ j ≤ 128 := by exact_mod_cast h2
              rw [hV]
              omega
            have hVn : v8 (mk hs) q (j + 1) = 2 * V + bI (mk hs (i + j)) := by rw [hV, HI8.out]; rfl
            have HVn := hidden hVn
            rw [← hV]
            have hV3 := hV2.1
            have hV4 := hV2.2
            have w1' : IntKind.i64.wrap ((i : Int) + (j : Int)) = (i : Int) + (j : Int) := by rw [IntKind.wrap_i64]; omega
            have w2' : IntKind.i64.wrap (2 * V) = 2 * V := by rw [IntKind.wrap_i64]; omega
            have hmk := HMk.out (i + j)
            clear hV hV2 hVn
            by_cases hij : i + j < n
            · rw [if_pos hij] at hmk
              obtain ⟨gx, ox, rfl, hra, h32, hby⟩ := HR.out (i + j) hij
              obtain ⟨J, hJ⟩ : ∃ J, J = hs.getD (i + j) [] := ⟨_, rfl⟩
              have hJe : mk hs (i + j) = decide (J ≠ D) := by
                rw [hmk, hJ]
              rw [← hJ] at hra h32 hby
              have y2 : (i : Int) + (j : Int) < (n : Int) := by omega
              have y3 : (0 : Int) ≤ (i : Int) + (j : Int) := by omega
              have y4 : ((i : Int) + (j : Int)).toNat = i + j := by omega
              have HLJ : Hid ((Tryd.prog.info? 23).map (·.size) = some (B J).toList.length) := by show _ = _; rw [B_toList, List.length_map, h32]; exact sz_hash
              have HRA : Hid (∀ w', Below wr.heap.size wr w' → w'.rangeAt gx (ox + (i + j) * 32) (B J).toList) := fun w' h => rng_grow (rng_grow hra (grow_trans hBw.out hBq.out)) h
              have HCX : Hid (∀ w', Below wr.heap.size wr w' → w'.cell? ⟨g1, 0, none⟩ = some (.slice (some ⟨gx, ox, none⟩) n sc) ∧ w'.rangeAt g7 0 (B D).toList) := fun w' h => ⟨HSA.out _ _ _ ((hB1.out.grow hBq.out).grow h), ((hB7.out.grow hBq.out).grow h).range⟩
              have hEq : ∀ w, (Op.equalIn 10000 23 (.agg (B J)) (.agg (B D))).run Tryd.prog w = .ok (decide (J = D)) w := fun w => hash_eq J D h32 HDL.out w
              rw [hJe] at HVn
              clear hra h32 hby hJ hmk hJe
              by_cases hJD : J = D
              · rw [decide_eq_true hJD] at hEq
                have HVm : Hid (v8 (mk hs) q (j + 1) = 2 * V) := by show _ = _; rw [HVn.out]; simp [hJD, bI]
                clear hJD HVn
                go_wp2
                refine wp_region_held_drew (S := fun w' => Below wr.heap.size wr w') (by kernel_rfl) ((Below.refl _ _).drew) (fun hHeld => ?_)
                refine wpAnyH_take (i := 0) (v := .int .i64 (i : Int)) rfl (by kernel_rfl) (by kernel_rfl) (by kernel_rfl) (fun _ _ _ h => h) (Or.inl ⟨by rfl, fun w hS => by go_simp⟩) hHeld ?_
                simp only [Act.put, List.getElem_toArray, List.getElem_cons_zero, List.setIfInBounds_toArray, List.set_cons_zero, List.set_cons_succ]
                refine wpAnyH_take (i := 1) (v := .int .i64 (j : Int)) rfl (by kernel_rfl) (by kernel_rfl) (by kernel_rfl) (fun _ _ _ h => h) (Or.inl ⟨by rfl, fun w hS => by go_simp⟩) hHeld ?_
                simp only [Act.put, List.getElem_toArray, List.getElem_cons_zero, List.getElem_cons_succ, List.setIfInBounds_toArray, List.set_cons_zero, List.set_cons_succ]
                refine wpAnyH_take (i := 2) (v := .int .i64 ((i : Int) + (j : Int))) rfl (by kernel_rfl) (by kernel_rfl) (by kernel_rfl) (fun _ _ _ h => h) (Or.inl ⟨by rfl, fun w hS => by go_simp⟩) hHeld ?_
                simp only [Act.put, List.getElem_toArray, List.getElem_cons_zero, List.getElem_cons_succ, List.setIfInBounds_toArray, List.set_cons_zero, List.set_cons_succ]
                refine wpAnyH_take (i := 3) (v := .int .i64 (n : Int)) rfl (by kernel_rfl) (by kernel_rfl) (by kernel_rfl) (fun _ _ _ h => h) (Or.inl ⟨by rfl, fun w hS => by go_simp⟩) hHeld ?_
                simp only [Act.put, List.getElem_toArray, List.getElem_cons_zero, List.getElem_cons_succ, List.setIfInBounds_toArray, List.set_cons_zero, List.set_cons_succ]
                refine wpAnyH_take (i := 4) (v := .bool true) rfl (by kernel_rfl) (by kernel_rfl) (by kernel_rfl) (fun _ _ _ h => h) (Or.inl ⟨by rfl, fun w hS => by go_simp⟩) hHeld ?_
                simp only [Act.put, List.getElem_toArray, List.getElem_cons_zero, List.getElem_cons_succ, List.setIfInBounds_toArray, List.set_cons_zero, List.set_cons_succ]
                refine wpAnyH_take (i := 5) (v := .bool true) rfl (by kernel_rfl) (by kernel_rfl) (by kernel_rfl) (fun _ _ _ h => h) (Or.inl ⟨by rfl, fun w hS => by go_simp⟩) hHeld ?_
                simp only [Act.put, List.getElem_toArray, List.getElem_cons_zero, List.getElem_cons_succ, List.setIfInBounds_toArray, List.set_cons_zero, List.set_cons_succ]
                refine wpAnyH_take (i := 6) (v := .pointer (some ⟨g1, 0, none⟩)) rfl (by kernel_rfl) (by kernel_rfl) (by kernel_rfl) (fun _ _ _ h => h) (Or.inl ⟨by rfl, fun w hS => by go_simp⟩) hHeld ?_
                simp only [Act.put, List.getElem_toArray, List.getElem_cons_zero, List.getElem_cons_succ, List.setIfInBounds_toArray, List.set_cons_zero, List.set_cons_succ]
                refine wpAnyH_take (i := 7) (v := .slice (some ⟨gx, ox, none⟩) n sc) rfl (by kernel_rfl) (by kernel_rfl) (by kernel_rfl) (fun _ _ _ h => h) (Or.inl ⟨by rfl, fun w hS => by (have q1 := (HCX.out _ hS).1; go_simp)⟩) hHeld ?_
                simp only [Act.put, List.getElem_toArray, List.getElem_cons_zero, List.getElem_cons_succ, List.setIfInBounds_toArray, List.set_cons_zero, List.set_cons_succ]
                refine wpAnyH_take (i := 8) (v := .int .i64 (i : Int)) rfl (by kernel_rfl) (by kernel_rfl) (by kernel_rfl) (fun _ _ _ h => h) (Or.inl ⟨by rfl, fun w hS => by go_simp⟩) hHeld ?_
                simp only [Act.put, List.getElem_toArray, List.getElem_cons_zero, List.getElem_cons_succ, List.setIfInBounds_toArray, List.set_cons_zero, List.set_cons_succ]
                refine wpAnyH_take (i := 9) (v := .int .i64 (j : Int)) rfl (by kernel_rfl) (by kernel_rfl) (by kernel_rfl) (fun _ _ _ h => h) (Or.inl ⟨by rfl, fun w hS => by go_simp⟩) hHeld ?_
                simp only [Act.put, List.getElem_toArray, List.getElem_cons_zero, List.getElem_cons_succ, List.setIfInBounds_toArray, List.set_cons_zero, List.set_cons_succ]
                refine wpAnyH_take (i := 10) (v := .int .i64 ((i : Int) + (j : Int))) rfl (by kernel_rfl) (by kernel_rfl) (by kernel_rfl) (fun _ _ _ h => h) (Or.inl ⟨by rfl, fun w hS => by go_simp⟩) hHeld ?_
                simp only [Act.put, List.getElem_toArray, List.getElem_cons_zero, List.getElem_cons_succ, List.setIfInBounds_toArray, List.set_cons_zero, List.set_cons_succ]
                refine wpAnyH_take (i := 11) (v := .pointer (some ⟨gx, ox + (i + j) * 32, none⟩)) rfl (by kernel_rfl) (by kernel_rfl) (by kernel_rfl) (fun _ _ _ h => h) (Or.inl ⟨by rfl, fun w hS => by go_simp⟩) hHeld ?_
                simp only [Act.put, List.getElem_toArray, List.getElem_cons_zero, List.getElem_cons_succ, List.setIfInBounds_toArray, List.set_cons_zero, List.set_cons_succ]
                refine wpAnyH_take (i := 12) (v := .agg (B J)) rfl (by kernel_rfl) (by kernel_rfl) (by kernel_rfl) (fun _ _ _ h => h) (yieldsIf_load_mid rfl 23 (.tmp 53) rfl gx (ox + (i + j) * 32) rfl (B J).toList _ (fun w hS => HRA.out _ hS) Tryd.underlying23 rfl HLJ.out) hHeld ?_
                simp only [Act.put, List.getElem_toArray, List.getElem_cons_zero, List.getElem_cons_succ, List.setIfInBounds_toArray, List.set_cons_zero, List.set_cons_succ]
                refine wpAnyH_take (i := 13) (v := .agg (B D)) rfl (by kernel_rfl) (by kernel_rfl) (by kernel_rfl) (fun _ _ _ h => h) (yieldsIf_load_mid rfl 23 (.tmp 7) rfl g7 0 rfl (B D).toList _ (fun w hS => (HCX.out _ hS).2) Tryd.underlying23 rfl HLD.out) hHeld ?_
                simp only [Act.put, List.getElem_toArray, List.getElem_cons_zero, List.getElem_cons_succ, List.setIfInBounds_toArray, List.set_cons_zero, List.set_cons_succ]
                refine wpAnyH_take (i := 14) (v := .bool false) rfl (by kernel_rfl) (by kernel_rfl) (by kernel_rfl) (fun _ _ _ h => h) (Or.inl ⟨by rfl, fun w hS => by go_simp⟩) hHeld ?_
                simp only [Act.put, List.getElem_toArray, List.getElem_cons_zero, List.getElem_cons_succ, List.setIfInBounds_toArray, List.set_cons_zero, List.set_cons_succ]
                refine wpAnyH_take (i := 15) (v := .bool false) rfl (by kernel_rfl) (by kernel_rfl) (by kernel_rfl) (fun _ _ _ h => h) (Or.inl ⟨by rfl, fun w hS => by go_simp⟩) hHeld ?_
                simp only [Act.put, List.getElem_toArray, List.getElem_cons_zero, List.getElem_cons_succ, List.setIfInBounds_toArray, List.set_cons_zero, List.set_cons_succ]
                refine wpAnyH_done (by kernel_rfl) ?_ _
                have HH : Hid (Below wr.heap.size wr wr.drew) := (Below.refl _ _).drew
                go_wp2
                exact ⟨⟨j + 1, by omega, by go_num, by rw [HVm.out], grow_trans hBq.out HH.out⟩, by simp [intOf]; omega⟩
              · rw [decide_eq_false hJD] at hEq
                have HVm : Hid (v8 (mk hs) q (j + 1) = 2 * V + 1) := by show _ = _; rw [HVn.out]; simp [hJD, bI]
                clear hJD HVn
                go_wp2
                refine wp_region_held_drew (S := fun w' => Below wr.heap.size wr w') (by kernel_rfl) ((Below.refl _ _).drew) (fun hHeld => ?_)
                refine wpAnyH_take (i := 0) (v := .int .i64 (i : Int)) rfl (by kernel_rfl) (by kernel_rfl) (by kernel_rfl) (fun _ _ _ h => h) (Or.inl ⟨by rfl, fun w hS => by go_simp⟩) hHeld ?_
                simp only [Act.put, List.getElem_toArray, List.getElem_cons_zero, List.setIfInBounds_toArray, List.set_cons_zero, List.set_cons_succ]
                refine wpAnyH_take (i := 1) (v := .int .i64 (j : Int)) rfl (by kernel_rfl) (by kernel_rfl) (by kernel_rfl) (fun _ _ _ h => h) (Or.inl ⟨by rfl, fun w hS => by go_simp⟩) hHeld ?_
                simp only [Act.put, List.getElem_toArray, List.getElem_cons_zero, List.getElem_cons_succ, List.setIfInBounds_toArray, List.set_cons_zero, List.set_cons_succ]
                refine wpAnyH_take (i := 2) (v := .int .i64 ((i : Int) + (j : Int))) rfl (by kernel_rfl) (by kernel_rfl) (by kernel_rfl) (fun _ _ _ h => h) (Or.inl ⟨by rfl, fun w hS => by go_simp⟩) hHeld ?_
                simp only [Act.put, List.getElem_toArray, List.getElem_cons_zero, List.getElem_cons_succ, List.setIfInBounds_toArray, List.set_cons_zero, List.set_cons_succ]
                refine wpAnyH_take (i := 3) (v := .int .i64 (n : Int)) rfl (by kernel_rfl) (by kernel_rfl) (by kernel_rfl) (fun _ _ _ h => h) (Or.inl ⟨by rfl, fun w hS => by go_simp⟩) hHeld ?_
                simp only [Act.put, List.getElem_toArray, List.getElem_cons_zero, List.getElem_cons_succ, List.setIfInBounds_toArray, List.set_cons_zero, List.set_cons_succ]
                refine wpAnyH_take (i := 4) (v := .bool true) rfl (by kernel_rfl) (by kernel_rfl) (by kernel_rfl) (fun _ _ _ h => h) (Or.inl ⟨by rfl, fun w hS => by go_simp⟩) hHeld ?_
                simp only [Act.put, List.getElem_toArray, List.getElem_cons_zero, List.getElem_cons_succ, List.setIfInBounds_toArray, List.set_cons_zero, List.set_cons_succ]
                refine wpAnyH_take (i := 5) (v := .bool true) rfl (by kernel_rfl) (by kernel_rfl) (by kernel_rfl) (fun _ _ _ h => h) (Or.inl ⟨by rfl, fun w hS => by go_simp⟩) hHeld ?_
                simp only [Act.put, List.getElem_toArray, List.getElem_cons_zero, List.getElem_cons_succ, List.setIfInBounds_toArray, List.set_cons_zero, List.set_cons_succ]
                refine wpAnyH_take (i := 6) (v := .pointer (some ⟨g1, 0, none⟩)) rfl (by kernel_rfl) (by kernel_rfl) (by kernel_rfl) (fun _ _ _ h => h) (Or.inl ⟨by rfl, fun w hS => by go_simp⟩) hHeld ?_
                simp only [Act.put, List.getElem_toArray, List.getElem_cons_zero, List.getElem_cons_succ, List.setIfInBounds_toArray, List.set_cons_zero, List.set_cons_succ]
                refine wpAnyH_take (i := 7) (v := .slice (some ⟨gx, ox, none⟩) n sc) rfl (by kernel_rfl) (by kernel_rfl) (by kernel_rfl) (fun _ _ _ h => h) (Or.inl ⟨by rfl, fun w hS => by (have q1 := (HCX.out _ hS).1; go_simp)⟩) hHeld ?_
                simp only [Act.put, List.getElem_toArray, List.getElem_cons_zero, List.getElem_cons_succ, List.setIfInBounds_toArray, List.set_cons_zero, List.set_cons_succ]
                refine wpAnyH_take (i := 8) (v := .int .i64 (i : Int)) rfl (by kernel_rfl) (by kernel_rfl) (by kernel_rfl) (fun _ _ _ h => h) (Or.inl ⟨by rfl, fun w hS => by go_simp⟩) hHeld ?_
                simp only [Act.put, List.getElem_toArray, List.getElem_cons_zero, List.getElem_cons_succ, List.setIfInBounds_toArray, List.set_cons_zero, List.set_cons_succ]
                refine wpAnyH_take (i := 9) (v := .int .i64 (j : Int)) rfl (by kernel_rfl) (by kernel_rfl) (by kernel_rfl) (fun _ _ _ h => h) (Or.inl ⟨by rfl, fun w hS => by go_simp⟩) hHeld ?_
                simp only [Act.put, List.getElem_toArray, List.getElem_cons_zero, List.getElem_cons_succ, List.setIfInBounds_toArray, List.set_cons_zero, List.set_cons_succ]
                refine wpAnyH_take (i := 10) (v := .int .i64 ((i : Int) + (j : Int))) rfl (by kernel_rfl) (by kernel_rfl) (by kernel_rfl) (fun _ _ _ h => h) (Or.inl ⟨by rfl, fun w hS => by go_simp⟩) hHeld ?_
                simp only [Act.put, List.getElem_toArray, List.getElem_cons_zero, List.getElem_cons_succ, List.setIfInBounds_toArray, List.set_cons_zero, List.set_cons_succ]
                refine wpAnyH_take (i := 11) (v := .pointer (some ⟨gx, ox + (i + j) * 32, none⟩)) rfl (by kernel_rfl) (by kernel_rfl) (by kernel_rfl) (fun _ _ _ h => h) (Or.inl ⟨by rfl, fun w hS => by go_simp⟩) hHeld ?_
                simp only [Act.put, List.getElem_toArray, List.getElem_cons_zero, List.getElem_cons_succ, List.setIfInBounds_toArray, List.set_cons_zero, List.set_cons_succ]
                refine wpAnyH_take (i := 12) (v := .agg (B J)) rfl (by kernel_rfl) (by kernel_rfl) (by kernel_rfl) (fun _ _ _ h => h) (yieldsIf_load_mid rfl 23 (.tmp 53) rfl gx (ox + (i + j) * 32) rfl (B J).toList _ (fun w hS => HRA.out _ hS) Tryd.underlying23 rfl HLJ.out) hHeld ?_
                simp only [Act.put, List.getElem_toArray, List.getElem_cons_zero, List.getElem_cons_succ, List.setIfInBounds_toArray, List.set_cons_zero, List.set_cons_succ]
                refine wpAnyH_take (i := 13) (v := .agg (B D)) rfl (by kernel_rfl) (by kernel_rfl) (by kernel_rfl) (fun _ _ _ h => h) (yieldsIf_load_mid rfl 23 (.tmp 7) rfl g7 0 rfl (B D).toList _ (fun w hS => (HCX.out _ hS).2) Tryd.underlying23 rfl HLD.out) hHeld ?_
                simp only [Act.put, List.getElem_toArray, List.getElem_cons_zero, List.getElem_cons_succ, List.setIfInBounds_toArray, List.set_cons_zero, List.set_cons_succ]
                refine wpAnyH_take (i := 14) (v := .bool true) rfl (by kernel_rfl) (by kernel_rfl) (by kernel_rfl) (fun _ _ _ h => h) (Or.inl ⟨by rfl, fun w hS => by go_simp⟩) hHeld ?_
                simp only [Act.put, List.getElem_toArray, List.getElem_cons_zero, List.getElem_cons_succ, List.setIfInBounds_toArray, List.set_cons_zero, List.set_cons_succ]
                refine wpAnyH_take (i := 15) (v := .bool true) rfl (by kernel_rfl) (by kernel_rfl) (by kernel_rfl) (fun _ _ _ h => h) (Or.inl ⟨by rfl, fun w hS => by go_simp⟩) hHeld ?_
                simp only [Act.put, List.getElem_toArray, List.getElem_cons_zero, List.getElem_cons_succ, List.setIfInBounds_toArray, List.set_cons_zero, List.set_cons_succ]
                refine wpAnyH_done (by kernel_rfl) ?_ _
                have HH : Hid (Below wr.heap.size wr wr.drew) := (Below.refl _ _).drew
                go_wp2
                exact ⟨⟨j + 1, by omega, by go_num, by rw [HVm.out], grow_trans hBq.out HH.out⟩, by simp [intOf]; omega⟩
            · rw [if_neg hij] at hmk
              have y2 : ¬ (i : Int) + (j : Int) < (n : Int) := by omega
              rw [hmk] at HVn
              have HVm : Hid (v8 (mk hs) q (j + 1) = 2 * V) := by show _ = _; rw [HVn.out]; simp [bI]
              clear HVn hmk
              go_wp2
              refine wp_region_held_drew (S := fun w' => Below wr.heap.size wr w') (by kernel_rfl) ((Below.refl _ _).drew) (fun hHeld => ?_)
              refine wpAnyH_take (i := 0) (v := .int .i64 (i : Int)) rfl (by kernel_rfl) (by kernel_rfl) (by kernel_rfl) (fun _ _ _ h => h) (Or.inl ⟨by rfl, fun w hS => by go_simp⟩) hHeld ?_
              simp only [Act.put, List.getElem_toArray, List.getElem_cons_zero, List.setIfInBounds_toArray, List.set_cons_zero, List.set_cons_succ]
              refine wpAnyH_take (i := 1) (v := .int .i64 (j : Int)) rfl (by kernel_rfl) (by kernel_rfl) (by kernel_rfl) (fun _ _ _ h => h) (Or.inl ⟨by rfl, fun w hS => by go_simp⟩) hHeld ?_
              simp only [Act.put, List.getElem_toArray, List.getElem_cons_zero, List.getElem_cons_succ, List.setIfInBounds_toArray, List.set_cons_zero, List.set_cons_succ]
              refine wpAnyH_take (i := 2) (v := .int .i64 ((i : Int) + (j : Int))) rfl (by kernel_rfl) (by kernel_rfl) (by kernel_rfl) (fun _ _ _ h => h) (Or.inl ⟨by rfl, fun w hS => by go_simp⟩) hHeld ?_
              simp only [Act.put, List.getElem_toArray, List.getElem_cons_zero, List.getElem_cons_succ, List.setIfInBounds_toArray, List.set_cons_zero, List.set_cons_succ]
              refine wpAnyH_take (i := 3) (v := .int .i64 (n : Int)) rfl (by kernel_rfl) (by kernel_rfl) (by kernel_rfl) (fun _ _ _ h => h) (Or.inl ⟨by rfl, fun w hS => by go_simp⟩) hHeld ?_
              simp only [Act.put, List.getElem_toArray, List.getElem_cons_zero, List.getElem_cons_succ, List.setIfInBounds_toArray, List.set_cons_zero, List.set_cons_succ]
              refine wpAnyH_take (i := 4) (v := .bool false) rfl (by kernel_rfl) (by kernel_rfl) (by kernel_rfl) (fun _ _ _ h => h) (Or.inl ⟨by rfl, fun w hS => by go_simp⟩) hHeld ?_
              simp only [Act.put, List.getElem_toArray, List.getElem_cons_zero, List.getElem_cons_succ, List.setIfInBounds_toArray, List.set_cons_zero, List.set_cons_succ]
              refine wpAnyH_take (i := 5) (v := .bool false) rfl (by kernel_rfl) (by kernel_rfl) (by kernel_rfl) (fun _ _ _ h => h) (Or.inl ⟨by rfl, fun w hS => by go_simp⟩) hHeld ?_
              simp only [Act.put, List.getElem_toArray, List.getElem_cons_zero, List.getElem_cons_succ, List.setIfInBounds_toArray, List.set_cons_zero, List.set_cons_succ]
              refine wpAnyH_take (i := 6) (v := undef) rfl (by kernel_rfl) (by kernel_rfl) (by kernel_rfl) (fun _ _ _ h => h) (Or.inr ⟨by rfl, rfl⟩) hHeld ?_
              simp only [Act.put, List.getElem_toArray, List.getElem_cons_zero, List.getElem_cons_succ, List.setIfInBounds_toArray, List.set_cons_zero, List.set_cons_succ]
              refine wpAnyH_take (i := 7) (v := undef) rfl (by kernel_rfl) (by kernel_rfl) (by kernel_rfl) (fun _ _ _ h => h) (Or.inr ⟨by rfl, rfl⟩) hHeld ?_
              simp only [Act.put, List.getElem_toArray, List.getElem_cons_zero, List.getElem_cons_succ, List.setIfInBounds_toArray, List.set_cons_zero, List.set_cons_succ]
              refine wpAnyH_take (i := 8) (v := undef) rfl (by kernel_rfl) (by kernel_rfl) (by kernel_rfl) (fun _ _ _ h => h) (Or.inr ⟨by rfl, rfl⟩) hHeld ?_
              simp only [Act.put, List.getElem_toArray, List.getElem_cons_zero, List.getElem_cons_succ, List.setIfInBounds_toArray, List.set_cons_zero, List.set_cons_succ]
              refine wpAnyH_take (i := 9) (v := undef) rfl (by kernel_rfl) (by kernel_rfl) (by kernel_rfl) (fun _ _ _ h => h) (Or.inr ⟨by rfl, rfl⟩) hHeld ?_
              simp only [Act.put, List.getElem_toArray, List.getElem_cons_zero, List.getElem_cons_succ, List.setIfInBounds_toArray, List.set_cons_zero, List.set_cons_succ]
              refine wpAnyH_take (i := 10) (v := undef) rfl (by kernel_rfl) (by kernel_rfl) (by kernel_rfl) (fun _ _ _ h => h) (Or.inr ⟨by rfl, rfl⟩) hHeld ?_
              simp only [Act.put, List.getElem_toArray, List.getElem_cons_zero, List.getElem_cons_succ, List.setIfInBounds_toArray, List.set_cons_zero, List.set_cons_succ]
              refine wpAnyH_take (i := 11) (v := undef) rfl (by kernel_rfl) (by kernel_rfl) (by kernel_rfl) (fun _ _ _ h => h) (Or.inr ⟨by rfl, rfl⟩) hHeld ?_
              simp only [Act.put, List.getElem_toArray, List.getElem_cons_zero, List.getElem_cons_succ, List.setIfInBounds_toArray, List.set_cons_zero, List.set_cons_succ]
              refine wpAnyH_take (i := 12) (v := undef) rfl (by kernel_rfl) (by kernel_rfl) (by kernel_rfl) (fun _ _ _ h => h) (Or.inr ⟨by rfl, rfl⟩) hHeld ?_
              simp only [Act.put, List.getElem_toArray, List.getElem_cons_zero, List.getElem_cons_succ, List.setIfInBounds_toArray, List.set_cons_zero, List.set_cons_succ]
              refine wpAnyH_take (i := 13) (v := undef) rfl (by kernel_rfl) (by kernel_rfl) (by kernel_rfl) (fun _ _ _ h => h) (Or.inr ⟨by rfl, rfl⟩) hHeld ?_
              simp only [Act.put, List.getElem_toArray, List.getElem_cons_zero, List.getElem_cons_succ, List.setIfInBounds_toArray, List.set_cons_zero, List.set_cons_succ]
              refine wpAnyH_take (i := 14) (v := undef) rfl (by kernel_rfl) (by kernel_rfl) (by kernel_rfl) (fun _ _ _ h => h) (Or.inr ⟨by rfl, rfl⟩) hHeld ?_
              simp only [Act.put, List.getElem_toArray, List.getElem_cons_zero, List.getElem_cons_succ, List.setIfInBounds_toArray, List.set_cons_zero, List.set_cons_succ]
              refine wpAnyH_take (i := 15) (v := .bool false) rfl (by kernel_rfl) (by kernel_rfl) (by kernel_rfl) (fun _ _ _ h => h) (Or.inl ⟨by rfl, fun w hS => by go_simp⟩) hHeld ?_
              simp only [Act.put, List.getElem_toArray, List.getElem_cons_zero, List.getElem_cons_succ, List.setIfInBounds_toArray, List.set_cons_zero, List.set_cons_succ]
              refine wpAnyH_done (by kernel_rfl) ?_ _
              have HH : Hid (Below wr.heap.size wr wr.drew) := (Below.refl _ _).drew
              go_wp2
              exact ⟨⟨j + 1, by omega, by go_num, by rw [HVm.out], grow_trans hBq.out HH.out⟩, by simp [intOf]; omega⟩
          · obtain rfl : j = 8 := by omega
            obtain ⟨V, hV⟩ : ∃ V, V = v8 (mk hs) q 8 := ⟨_, rfl⟩
            have hV2 := v8_byte (mk hs) q
            have HSn : Hid ([(n : Int) / 256, (n : Int) % 256] ++ bitsOf (mk hs) (q + 1) = ([(n : Int) / 256, (n : Int) % 256] ++ bitsOf (mk hs) q) ++ [V]) := by show _ = _; rw [bitsOf_snoc, hV, List.append_assoc]
            rw [← hV] at hV2 ⊢
            have wb : IntKind.u8.wrap V = V := by rw [IntKind.wrap_u8']; omega
            have y1 : ¬ (8 : Int) < 8 := by omega
            have HOq := hidden ((hO.out.grow hBq.out).grow (grow_alloc wr (.cells #[.int .u8 V] 5)))
            have HRq := hidden (lit_own wr [V] (by intro z hz; simp only [List.mem_cons, List.not_mem_nil, or_false] at hz; omega) (by simp)).reads
            have HLq : Hid (([(n : Int) / 256, (n : Int) % 256] ++ bitsOf (mk hs) q).length + [V].length ≤ 140737488355328) := by show _ ≤ _; simp only [List.length_append, List.length_cons, List.length_nil, bitsOf_length]; omega
            have HSz' : Hid (w.heap.size ≤ (wr.alloc (.cells #[.int .u8 V] 5)).heap.size) := (grow_trans (grow_trans hBw.out hBq.out) (grow_alloc _ _)).size
            clear hV hV2
            go_wp2_with (at_builtin; refine wpList_app _ rfl _ _ rfl w.heap.size _ _ ([(n : Int) / 256, (n : Int) % 256] ++ bitsOf (mk hs) q) sp [V] HOq.out HRq.out rfl rfl HLq.out HSz'.out ?_; intro v9 w9 sp9 o9 gr9 wh9 nl9)
            have hbq := grow_trans hBq.out (grow_alloc wr (.cells #[.int .u8 V] 5))
            refine ⟨⟨q + 1, i + 8, sp9, _, by omega, by go_num, rfl, ?_, ?_, ?_, ?_, ?_⟩, by simp [intOf]; omega⟩
            · have := HI8.out
              show _ = _
              omega
            · show Own _ _ _ _ _
              rw [HSn.out]
              exact o9
            · exact (hB7.out.grow hbq).keptO gr9 (Ne.symm (own_blk HOq.out (hB7.out.grow hbq) (by decide)))
            · exact (hB1.out.grow hbq).keptO gr9 (Ne.symm (own_blk HOq.out (hB1.out.grow hbq) (by decide)))
            · exact own_below (grow_trans hBw.out hbq) HOq.out gr9
      · have hqm2 : q = m := by omega
        have z1 : ¬ (i : Int) < (n : Int) := by omega
        rw [hqm2] at hO
        clear hiq hqm hqm2 HMk HM hi8
        obtain ⟨wo, hwo⟩ : ∃ wo, wo = wr := ⟨_, rfl⟩
        subst hwo
        go_wp2
        go_loopw [11, 6] (fun iv ov wr => ∃ (k : Nat) (sp : List Int) (u : Value), k ≤ n ∧ iv = .int .i64 (k : Int) ∧ u = ov ∧ Hid (Own w.heap.size wr u ([(n : Int) / 256, (n : Int) % 256] ++ bitsOf (mk hs) m ++ wrL (hs.take k)) sp) ∧ Hid (Blk wr g7 23 (B D)) ∧ Hid (Blk wr g1 46 RN.toArray) ∧ Hid (Below w.heap.size w wr)) (fun iv _ _ => n - (intOf iv).toNat)
        case atStart => exact ⟨0, sp, _, by omega, rfl, rfl, by show Own _ _ _ _ _; rw [List.take_zero, wrL_nil, List.append_nil]; exact hO.out, hB7.out, hB1.out, hBw.out⟩
        case round =>
          obtain ⟨k, sp, u, hk, rfl, rfl, hO, hB7, hB1, hBw⟩ := hrel
          by_cases hlt : k < n
          · obtain ⟨gx, ox, rfl, hra, h32, hby⟩ := HR.out k hlt
            have z1 : (k : Int) < (n : Int) := by omega
            have z0 : (0 : Int) ≤ (k : Int) := by omega
            have hlk : k < hs.length := by rw [← HNN.out]; exact hlt
            have HWM := hidden (wr_more hlk)
            obtain ⟨J, hJ⟩ : ∃ J, J = hs.getD k [] := ⟨_, rfl⟩
            rw [← hJ] at hra h32 hby HWM
            have HJL := hidden h32
            have HJB := hidden hby
            have HRA : Hid (∀ w', Below wr.heap.size wr w' → w'.rangeAt gx (ox + k * 32) (B J).toList) := fun w' h => rng_grow (rng_grow hra hBw.out) h
            have HCX : Hid (∀ w', Below wr.heap.size wr w' → w'.cell? ⟨g1, 0, none⟩ = some (.slice (some ⟨gx, ox, none⟩) n sc) ∧ w'.rangeAt g7 0 (B D).toList) := fun w' h => ⟨HSA.out _ _ _ (hB1.out.grow h), (hB7.out.grow h).range⟩
            have HLJ : Hid ((Tryd.prog.info? 23).map (·.size) = some (B J).toList.length) := by show _ = _; rw [B_toList, List.length_map, h32]; exact sz_hash
            have HLJ2 : Hid ((Tryd.prog.info? 23).map (·.size) = some (B J).size) := by show _ = _; rw [B_size, h32]; exact sz_hash
            have HLJ3 : Hid ((B (List.replicate 32 0)).size = (B J).size) := by show _ = _; rw [B_size, B_size, h32]; rfl
            have hEq : ∀ w, (Op.equalIn 10000 23 (.agg (B J)) (.agg (B D))).run Tryd.prog w = .ok (decide (J = D)) w := fun w => hash_eq J D h32 HDL.out w
            clear hra h32 hby hJ hlk
            by_cases hJD : J = D
            · rw [decide_eq_true hJD] at hEq
              have HWM2 : Hid (wrL (hs.take (k + 1)) = wrL (hs.take k)) := by show _ = _; rw [HWM.out, wrL_one, if_pos (by rw [hJD, HD.out]), List.append_nil]
              clear hJD HWM
              go_wp2
              refine wp_region_held_drew (S := fun w' => Below wr.heap.size wr w') (by kernel_rfl) ((Below.refl _ _).drew) (fun hHeld => ?_)
              refine wpAnyH_take (i := 0) (v := .pointer (some ⟨g1, 0, none⟩)) rfl (by kernel_rfl) (by kernel_rfl) (by kernel_rfl) (fun _ _ _ h => h) (Or.inl ⟨by rfl, fun w hS => by go_simp⟩) hHeld ?_
              simp only [Act.put, List.getElem_toArray, List.getElem_cons_zero, List.setIfInBounds_toArray, List.set_cons_zero, List.set_cons_succ]
              refine wpAnyH_take (i := 1) (v := .slice (some ⟨gx, ox, none⟩) n sc) rfl (by kernel_rfl) (by kernel_rfl) (by kernel_rfl) (fun _ _ _ h => h) (Or.inl ⟨by rfl, fun w hS => by (have q1 := (HCX.out _ hS).1; go_simp)⟩) hHeld ?_
              simp only [Act.put, List.getElem_toArray, List.getElem_cons_zero, List.getElem_cons_succ, List.setIfInBounds_toArray, List.set_cons_zero, List.set_cons_succ]
              refine wpAnyH_take (i := 2) (v := .int .i64 (k : Int)) rfl (by kernel_rfl) (by kernel_rfl) (by kernel_rfl) (fun _ _ _ h => h) (Or.inl ⟨by rfl, fun w hS => by go_simp⟩) hHeld ?_
              simp only [Act.put, List.getElem_toArray, List.getElem_cons_zero, List.getElem_cons_succ, List.setIfInBounds_toArray, List.set_cons_zero, List.set_cons_succ]
              refine wpAnyH_take (i := 3) (v := .pointer (some ⟨gx, ox + k * 32, none⟩)) rfl (by kernel_rfl) (by kernel_rfl) (by kernel_rfl) (fun _ _ _ h => h) (Or.inl ⟨by rfl, fun w hS => by go_simp⟩) hHeld ?_
              simp only [Act.put, List.getElem_toArray, List.getElem_cons_zero, List.getElem_cons_succ, List.setIfInBounds_toArray, List.set_cons_zero, List.set_cons_succ]
              refine wpAnyH_take (i := 4) (v := .agg (B J)) rfl (by kernel_rfl) (by kernel_rfl) (by kernel_rfl) (fun _ _ _ h => h) (yieldsIf_load_mid rfl 23 (.tmp 73) rfl gx (ox + k * 32) rfl (B J).toList _ (fun w hS => HRA.out _ hS) Tryd.underlying23 rfl HLJ.out) hHeld ?_
              simp only [Act.put, List.getElem_toArray, List.getElem_cons_zero, List.getElem_cons_succ, List.setIfInBounds_toArray, List.set_cons_zero, List.set_cons_succ]
              refine wpAnyH_take (i := 5) (v := .agg (B D)) rfl (by kernel_rfl) (by kernel_rfl) (by kernel_rfl) (fun _ _ _ h => h) (yieldsIf_load_mid rfl 23 (.tmp 7) rfl g7 0 rfl (B D).toList _ (fun w hS => (HCX.out _ hS).2) Tryd.underlying23 rfl HLD.out) hHeld ?_
              simp only [Act.put, List.getElem_toArray, List.getElem_cons_zero, List.getElem_cons_succ, List.setIfInBounds_toArray, List.set_cons_zero, List.set_cons_succ]
              refine wpAnyH_take (i := 6) (v := .bool false) rfl (by kernel_rfl) (by kernel_rfl) (by kernel_rfl) (fun _ _ _ h => h) (Or.inl ⟨by rfl, fun w hS => by go_simp⟩) hHeld ?_
              simp only [Act.put, List.getElem_toArray, List.getElem_cons_zero, List.getElem_cons_succ, List.setIfInBounds_toArray, List.set_cons_zero, List.set_cons_succ]
              refine wpAnyH_done (by kernel_rfl) ?_ _
              have HH : Hid (Below wr.heap.size wr wr.drew) := (Below.refl _ _).drew
              generalize wr.drew = w6' at HH ⊢
              go_wp2
              refine ⟨⟨k + 1, sp, _, by omega, by go_num, rfl, ?_, hB7.out.grow HH.out, hB1.out.grow HH.out, grow_trans hBw.out HH.out⟩, by simp [intOf]; omega⟩
              show Own _ _ _ _ _
              rw [HWM2.out]
              exact hO.out.grow HH.out
            · rw [decide_eq_false hJD] at hEq
              have HWM2 : Hid (wrL (hs.take (k + 1)) = wrL (hs.take k) ++ J) := by show _ = _; rw [HWM.out, wrL_one, if_neg (by rw [← HD.out]; exact hJD)]
              clear hJD HWM
              go_wp2
              refine wp_region_held_drew (S := fun w' => Below wr.heap.size wr w') (by kernel_rfl) ((Below.refl _ _).drew) (fun hHeld => ?_)
              refine wpAnyH_take (i := 0) (v := .pointer (some ⟨g1, 0, none⟩)) rfl (by kernel_rfl) (by kernel_rfl) (by kernel_rfl) (fun _ _ _ h => h) (Or.inl ⟨by rfl, fun w hS => by go_simp⟩) hHeld ?_
              simp only [Act.put, List.getElem_toArray, List.getElem_cons_zero, List.setIfInBounds_toArray, List.set_cons_zero, List.set_cons_succ]
              refine wpAnyH_take (i := 1) (v := .slice (some ⟨gx, ox, none⟩) n sc) rfl (by kernel_rfl) (by kernel_rfl) (by kernel_rfl) (fun _ _ _ h => h) (Or.inl ⟨by rfl, fun w hS => by (have q1 := (HCX.out _ hS).1; go_simp)⟩) hHeld ?_
              simp only [Act.put, List.getElem_toArray, List.getElem_cons_zero, List.getElem_cons_succ, List.setIfInBounds_toArray, List.set_cons_zero, List.set_cons_succ]
              refine wpAnyH_take (i := 2) (v := .int .i64 (k : Int)) rfl (by kernel_rfl) (by kernel_rfl) (by kernel_rfl) (fun _ _ _ h => h) (Or.inl ⟨by rfl, fun w hS => by go_simp⟩) hHeld ?_
              simp only [Act.put, List.getElem_toArray, List.getElem_cons_zero, List.getElem_cons_succ, List.setIfInBounds_toArray, List.set_cons_zero, List.set_cons_succ]
              refine wpAnyH_take (i := 3) (v := .pointer (some ⟨gx, ox + k * 32, none⟩)) rfl (by kernel_rfl) (by kernel_rfl) (by kernel_rfl) (fun _ _ _ h => h) (Or.inl ⟨by rfl, fun w hS => by go_simp⟩) hHeld ?_
              simp only [Act.put, List.getElem_toArray, List.getElem_cons_zero, List.getElem_cons_succ, List.setIfInBounds_toArray, List.set_cons_zero, List.set_cons_succ]
              refine wpAnyH_take (i := 4) (v := .agg (B J)) rfl (by kernel_rfl) (by kernel_rfl) (by kernel_rfl) (fun _ _ _ h => h) (yieldsIf_load_mid rfl 23 (.tmp 73) rfl gx (ox + k * 32) rfl (B J).toList _ (fun w hS => HRA.out _ hS) Tryd.underlying23 rfl HLJ.out) hHeld ?_
              simp only [Act.put, List.getElem_toArray, List.getElem_cons_zero, List.getElem_cons_succ, List.setIfInBounds_toArray, List.set_cons_zero, List.set_cons_succ]
              refine wpAnyH_take (i := 5) (v := .agg (B D)) rfl (by kernel_rfl) (by kernel_rfl) (by kernel_rfl) (fun _ _ _ h => h) (yieldsIf_load_mid rfl 23 (.tmp 7) rfl g7 0 rfl (B D).toList _ (fun w hS => (HCX.out _ hS).2) Tryd.underlying23 rfl HLD.out) hHeld ?_
              simp only [Act.put, List.getElem_toArray, List.getElem_cons_zero, List.getElem_cons_succ, List.setIfInBounds_toArray, List.set_cons_zero, List.set_cons_succ]
              refine wpAnyH_take (i := 6) (v := .bool true) rfl (by kernel_rfl) (by kernel_rfl) (by kernel_rfl) (fun _ _ _ h => h) (Or.inl ⟨by rfl, fun w hS => by go_simp⟩) hHeld ?_
              simp only [Act.put, List.getElem_toArray, List.getElem_cons_zero, List.getElem_cons_succ, List.setIfInBounds_toArray, List.set_cons_zero, List.set_cons_succ]
              refine wpAnyH_done (by kernel_rfl) ?_ _
              have HH : Hid (Below wr.heap.size wr wr.drew) := (Below.refl _ _).drew
              generalize wr.drew = w6' at HH ⊢
              have cx := (HCX.out _ HH.out).1
              go_wp2_with (first
                | ((with_reducible refine at_ldd 81 80 ?_); refine wpList_load_mid rfl _ _ rfl gx (ox + k * 32) rfl (B J).toList _ (HRA.out _ HH.out) Tryd.underlying23 rfl HLJ.out ?_; rw [Array.toArray_toList])
                | ((with_reducible refine at_ald 12 ?_); refine wpList_al _ rfl _ rfl _ zero_hash ?_; intro w6 g6 hg6 hl6 B6 b6; have HG6 := hidden hg6; have HB6 := hidden B6; have Hb6 := hidden b6; clear hg6 hl6 B6 b6)
                | ((with_reducible refine at_st 12 ?_); refine wpList_sto _ rfl _ _ _ rfl g6 _ (B J) rfl rfl HB6.out HLJ2.out HLJ3.out (B_one _) ?_; intro w7 B7 r7; have hb7 := grow_trans HH.out (below_row Hb6.out r7 HG6.out); have HO7 := hidden (hO.out.grow hb7); have HB77 := hidden (hB7.out.grow hb7); have HB17 := hidden (hB1.out.grow hb7); have HBw7 := hidden (grow_trans hBw.out hb7); have HJR := hidden (B7.readsN HJB.out 32 HJL.out); have HLW : Hid (w.heap.size ≤ w7.heap.size) := HBw7.out.size; have HLN : Hid (([(n : Int) / 256, (n : Int) % 256] ++ bitsOf (mk hs) m ++ wrL (hs.take k)).length + J.length ≤ 140737488355328) := (by show _ ≤ _; have h1 := HWN.out k; have h2 := HJL.out; simp only [List.length_append, List.length_cons, List.length_nil, bitsOf_length]; omega); clear B7 r7 hb7)
                | (at_builtin; refine wpList_app _ rfl _ _ rfl w.heap.size _ _ ([(n : Int) / 256, (n : Int) % 256] ++ bitsOf (mk hs) m ++ wrL (hs.take k)) sp J HO7.out HJR.out rfl rfl HLN.out HLW.out ?_; intro v9 w9 sp9 o9 gr9 wh9 nl9))
              refine ⟨⟨k + 1, sp9, _, by omega, by go_num, rfl, ?_, ?_, ?_, ?_⟩, by simp [intOf]; omega⟩
              · show Own _ _ _ _ _
                rw [HWM2.out, ← List.append_assoc]
                exact o9
              · exact HB77.out.keptO gr9 (Ne.symm (own_blk HO7.out HB77.out (by decide)))
              · exact HB17.out.keptO gr9 (Ne.symm (own_blk HO7.out HB17.out (by decide)))
              · exact own_below HBw7.out HO7.out gr9
          · have hkn : k = n := by omega
            have z1 : ¬ (k : Int) < (n : Int) := by omega
            rw [hkn] at hO
            rw [← HRN.out] at hB1
            clear hkn
            go_wp2_with (first
              | ((with_reducible refine at_ldd 87 86 ?_); refine wpList_lde _ rfl _ rfl g1 _ _ N rfl hB1.out HL.out ?_)
              | (go_at_call 61; refine (HEn2.out _).mono ?_; rintro e w4 ⟨v4, sp4, rfl, o4, b4⟩; obtain ⟨a4, c4, rfl⟩ := o4.slice; have HO4 := hidden o4.reads; have HO := hidden (hO.out.grow b4); have Hb4 := hidden (grow_trans hBw.out b4); have HLW : Hid (w.heap.size ≤ w4.heap.size) := Hb4.out.size; have HLN : Hid (([(n : Int) / 256, (n : Int) % 256] ++ bitsOf (mk hs) m ++ wrL (hs.take n)).length + TX.length ≤ 140737488355328) := (by show _ ≤ _; have h1 := HWN.out n; have h2 := HTs.out; simp only [List.length_append, List.length_cons, List.length_nil, bitsOf_length]; omega); clear b4 o4)
              | (at_builtin; refine wpList_app _ rfl _ _ rfl w.heap.size _ _ ([(n : Int) / 256, (n : Int) % 256] ++ bitsOf (mk hs) m ++ wrL (hs.take n)) sp TX HO.out HO4.out rfl rfl HLN.out HLW.out ?_; intro v9 w9 sp9 o9 gr9 wh9 nl9))
            exact HPost.out v9 sp9 w9 o9 (own_below Hb4.out HO.out gr9)
  · have hex : exP hs k a b c d = [] := if_neg h0
    rw [hex] at HPost
    obtain ⟨E, hE⟩ : ∃ E, E = chE hs k a b c d := ⟨_, rfl⟩
    rw [← hE] at HC HPost h0
    obtain ⟨sa, sc, rfl, _⟩ := hh
    obtain ⟨n, hnn⟩ : ∃ n, n = hs.length := ⟨_, rfl⟩
    rw [← hnn] at HC ⊢
    have HSz := hidden (encR_sz (.slice sa n sc) (nd k a b c d) HL.out)
    obtain ⟨N, hNn⟩ : ∃ N, N = nd k a b c d := ⟨_, rfl⟩
    rw [← hNn] at HC HSz ⊢
    obtain ⟨fp, hup⟩ := u_proof
    have HUP := hidden hup
    have h24 : E = 2 ∨ E = 4 := by have := chE_in hs k a b c d; rw [← hE] at this; omega
    clear HEn hex hE hnn hNn hN hup h0 hDg
    rcases h24 with rfl | rfl
    all_goals (
      go_enter Tryd.func33, Tryd.ntmps33
      go_wp2_with (first
        | ((with_reducible refine at_bxd 1 ?_); refine wpList_bx _ rfl _ _ rfl _ rfl ?_; intro w1 g1 hg1 hl1 B1 b1; have HB1 := hidden B1; have Hb1 := hidden b1; clear hg1 hl1 B1 b1)
        | ((with_reducible refine at_ldd 15 1 ?_); refine wpList_lds _ rfl _ _ rfl g1 _ _ rfl HB1.out HUP.out HSz.out ?_)
        | (go_at_call 60; refine (HC.out _ Hb1.out).mono ?_; rintro e w2 ⟨rfl, b2⟩; have Hb2 := hidden (grow_trans Hb1.out b2); clear b2))
      exact HPost.out _ [] w2 (Own.nil _ _) Hb2.out)

end Go.Proofs.YtpihigcnoifcfaaDoor
