/- TagTexts' walk: the law returns true at every key, value and digests, and nothing that was in memory turns. -/
import Derived.Test.YtacfhkaihcclaaaTagNew
import Derived.Test.YtacfhkaihcclaaaApart
import Derived.Deep.CutRange
namespace Go.Proofs.Ytacfhkaihcclaaa
open Go.RowKit

theorem lists_new (base : Nat) (w : World) (vs : List Value) (Zs Ss : List (List Int)) (G : List Nat) (n : Nat) (hv : vs.length = n) (hg : G.length = n) (hO : ∀ i, i < n → Own base w (vs.getD i undef) (Zs.getD i []) (Ss.getD i []))
    (hG : ∀ i, i < n → (vs.getD i undef).ownBlock = some (G.getD i 0)) (hN : G.Nodup) : Lists base w.heap.size 0 n (fun i => vs.getD i undef) (fun i => Zs.getD i []) (fun i => Ss.getD i []) (w.alloc (.cells vs.toArray 24)) where
  cell := fun i hi => by
    have hr : (w.alloc (.cells vs.toArray 24)).heap[w.heap.size]? = some (.cells vs.toArray 24 (0, 0)) := heap_alloc_new w _
    rw [cell_of_row _ _ _ _ _ _ hr]
    simp [List.getD, hv, hi]
  own := fun i hi => (hO i hi).grow (grow_alloc w _)
  apart := fun i k hi hk hne g e e2 => by
    rw [hG i hi] at e
    rw [hG k hk] at e2
    injection e with e
    injection e2 with e2
    have h1 : i < G.length := by omega
    have h2 : k < G.length := by omega
    have h3 : G[i] = G[k] := by
      simp only [List.getD, List.getElem?_eq_getElem h1, List.getElem?_eq_getElem h2, Option.getD_some] at e e2
      rw [e, e2]
    have hP := List.pairwise_iff_getElem.1 hN
    rcases Nat.lt_or_gt_of_ne hne with h | h
    · exact hP i k h1 h2 h h3
    · exact hP k i h2 h1 h h3.symm
  far := fun i hi e => by
    have := ((hO i hi).lt _ e).2
    omega

/-- The list of texts that are held against each other, laid. -/
def Held (w0 : World) (Zs : List (List Int)) (n : Nat) (v : Value) (w : World) : Prop := ∃ gl V S, v = .slice (some ⟨gl, 0, none⟩) n n ∧ Lists w0.heap.size gl 0 n V (fun i => Zs.getD i []) S w ∧ Below w0.heap.size w0 w

set_option maxHeartbeats 4000000 in
set_option maxRecDepth 10000 in
theorem tagTexts_walk (v : Value) (zs KK A C : List Int) (w : World) (hr : Reads w v zs) (hlen : zs.length ≤ 140737488355328 - 4096) (hk : KK.length = 32) (ha : A.length = 32) (hc : C.length = 32) (bk : Bytes KK) (ba : Bytes A) (bc : Bytes C) :
    Calls Try.prog 3 #[.agg (B KK), v, .agg (B A), .agg (B C)] w fun e w' => e = .returned (.bool true) ∧ Below w.heap.size w w' := by
  obtain ⟨Zs, hZs⟩ : ∃ Zs, Zs = [[0], [0], 3 :: zs, 1 :: (KK ++ A), 2 :: (A ++ C), 1 :: (KK ++ A), zs] := ⟨_, rfl⟩
  have HZ := hidden hZs
  have HR := hidden hr
  have HK := hidden hk
  have HA := hidden ha
  have HC := hidden hc
  have BK := hidden bk
  have BA := hidden ba
  have BC := hidden bc
  have HZB : Hid (Bytes zs) := by
    obtain ⟨_, _, _, _, _, hb, _⟩ := hr
    exact hb
  obtain ⟨va, vc, rfl, _, _, _, _⟩ := hr
  clear hZs hk ha hc bk ba bc
  go_enter Try.func3, Try.ntmps3
  go_wp2_with (first | (have hx := hl2; clear hx; refine wpList_bx _ rfl _ _ rfl _ rfl ?_; intro w3 g3 hg3 hl3 B3 b3) | (have hx := hl1; clear hx; refine wpList_bx _ rfl _ _ rfl _ rfl ?_; intro w2 g2 hg2 hl2 B2 b2) | (refine wpList_bx _ rfl _ _ rfl _ rfl ?_; intro w1 g1 hg1 hl1 B1 b1))
  have c2 := b1.trans (b2.mono b1.size)
  have c3 := c2.trans (b3.mono c2.size)
  have R3 := HR.out.grow c3
  refine (lent_any _ zs w3 R3 (by omega)).mono ?_
  rintro e w4 ⟨rfl, row4, b4, s4⟩
  have c4 := c3.trans (b4.mono c3.size)
  have HS : Hid (∀ w', Below w4.heap.size w4 w' → w'.rangeAt g1 0 (B KK).toList ∧ w'.rangeAt g2 0 (B A).toList ∧ w'.rangeAt g3 0 (B C).toList) := by
    intro w' hw'
    have b34 := grow_trans b4 hw'
    exact ⟨(((B1.grow b2).grow b3).grow b34).range, ((B2.grow b3).grow b34).range, (B3.grow b34).range⟩
  have HP : Hid (∀ w', Below w4.heap.size w4 w' → Reads w' (.slice (some ⟨w3.heap.size, 0, none⟩) zs.length (zs.length + 5)) zs) := by
    intro w' hw'
    have h1 := Own.mk (base := w3.heap.size) HZB.out (marks_bytes zs.length) (by rw [marks_length]; simp only [maxLen]; omega) (Nat.le_refl _) row4
    rw [marks_length] at h1
    exact (h1.grow hw').reads
  have HROW := hidden row4
  have HS4 := hidden s4
  have hu1 : Try.prog.underlying 23 = some (.array 32 5) := Try.underlying23
  have hu2 : Try.prog.underlying 25 = some (.array 32 5) := Try.underlying25
  have hiK : (Try.prog.info? 23).map (·.size) = some (B KK).toList.length := by rw [B_toList, List.length_map, HK.out]; kernel_rfl
  have hiA : (Try.prog.info? 25).map (·.size) = some (B A).toList.length := by rw [B_toList, List.length_map, HA.out]; kernel_rfl
  have hiC : (Try.prog.info? 25).map (·.size) = some (B C).toList.length := by rw [B_toList, List.length_map, HC.out]; kernel_rfl
  obtain ⟨gp, hgp⟩ : ∃ gp, gp = w3.heap.size := ⟨_, rfl⟩
  rw [← hgp] at HROW HP ⊢
  have HGP := hidden hgp
  have hc3 := c3.size
  clear hgp s4 row4 B1 B2 B3 R3
  have hd4 : Below w4.heap.size w4 w4.drew := (Below.refl _ _).drew
  go_upto_region 2 with fail
  go_cut [10] from 15 (fun s wx => Held w Zs 7 s wx ∧ Below w4.heap.size w4 wx)
  case first =>
    refine wp_region_held_drew (S := fun w' => w'.rangeAt g1 0 (B KK).toList ∧ w'.rangeAt g2 0 (B A).toList ∧ w'.rangeAt g3 0 (B C).toList) (by kernel_rfl) (HS.out _ hd4) (fun hHeld => ?_)
    refine wpAnyH_take (i := 4) (v := .agg (B KK)) rfl (by kernel_rfl) (by kernel_rfl) (by kernel_rfl) (fun _ _ _ h => h) (yieldsIf_load_mid rfl 23 (.tmp 4) rfl g1 0 rfl (B KK).toList _ (fun w hS => hS.1) hu1 rfl hiK) hHeld ?_
    simp only [Act.put, List.getElem_toArray, List.getElem_cons_zero, List.getElem_cons_succ, List.setIfInBounds_toArray, List.set_cons_zero, List.set_cons_succ]
    refine wpAnyH_take (i := 5) (v := .agg (B A)) rfl (by kernel_rfl) (by kernel_rfl) (by kernel_rfl) (fun _ _ _ h => h) (yieldsIf_load_mid rfl 25 (.tmp 6) rfl g2 0 rfl (B A).toList _ (fun w hS => hS.2.1) hu2 rfl hiA) hHeld ?_
    simp only [Act.put, List.getElem_toArray, List.getElem_cons_zero, List.getElem_cons_succ, List.setIfInBounds_toArray, List.set_cons_zero, List.set_cons_succ]
    refine wpAnyH_take (i := 7) (v := .agg (B A)) rfl (by kernel_rfl) (by kernel_rfl) (by kernel_rfl) (fun _ _ _ h => h) (yieldsIf_load_mid rfl 25 (.tmp 6) rfl g2 0 rfl (B A).toList _ (fun w hS => hS.2.1) hu2 rfl hiA) hHeld ?_
    simp only [Act.put, List.getElem_toArray, List.getElem_cons_zero, List.getElem_cons_succ, List.setIfInBounds_toArray, List.set_cons_zero, List.set_cons_succ]
    refine wpAnyH_take (i := 8) (v := .agg (B C)) rfl (by kernel_rfl) (by kernel_rfl) (by kernel_rfl) (fun _ _ _ h => h) (yieldsIf_load_mid rfl 25 (.tmp 7) rfl g3 0 rfl (B C).toList _ (fun w hS => hS.2.2) hu2 rfl hiC) hHeld ?_
    simp only [Act.put, List.getElem_toArray, List.getElem_cons_zero, List.getElem_cons_succ, List.setIfInBounds_toArray, List.set_cons_zero, List.set_cons_succ]
    refine wpAnyH_take (i := 10) (v := .agg (B KK)) rfl (by kernel_rfl) (by kernel_rfl) (by kernel_rfl) (fun _ _ _ h => h) (yieldsIf_load_mid rfl 23 (.tmp 4) rfl g1 0 rfl (B KK).toList _ (fun w hS => hS.1) hu1 rfl hiK) hHeld ?_
    simp only [Act.put, List.getElem_toArray, List.getElem_cons_zero, List.getElem_cons_succ, List.setIfInBounds_toArray, List.set_cons_zero, List.set_cons_succ]
    refine wpAnyH_take (i := 11) (v := .agg (B A)) rfl (by kernel_rfl) (by kernel_rfl) (by kernel_rfl) (fun _ _ _ h => h) (yieldsIf_load_mid rfl 25 (.tmp 6) rfl g2 0 rfl (B A).toList _ (fun w hS => hS.2.1) hu2 rfl hiA) hHeld ?_
    simp only [Act.put, List.getElem_toArray, List.getElem_cons_zero, List.getElem_cons_succ, List.setIfInBounds_toArray, List.set_cons_zero, List.set_cons_succ]
    refine wpAnyH_take (i := 2) (v := .slice (some ⟨gp, 0, none⟩) zs.length (zs.length + 5)) rfl (by kernel_rfl) (by kernel_rfl) (by kernel_rfl) (fun _ _ _ h => h) (Or.inl ⟨by rfl, fun w hS => by go_simp⟩) hHeld ?_
    simp only [Act.put, List.getElem_toArray, List.getElem_cons_zero, List.getElem_cons_succ, List.setIfInBounds_toArray, List.set_cons_zero, List.set_cons_succ]
    refine wpAnyH_take (i := 13) (v := .slice (some ⟨gp, 0, none⟩) zs.length (zs.length + 5)) rfl (by kernel_rfl) (by kernel_rfl) (by kernel_rfl) (fun _ _ _ h => h) (Or.inl ⟨by rfl, fun w hS => by go_simp⟩) hHeld ?_
    simp only [Act.put, List.getElem_toArray, List.getElem_cons_zero, List.getElem_cons_succ, List.setIfInBounds_toArray, List.set_cons_zero, List.set_cons_succ]
    refine wpAnyH_ready (rs := [0]) (by kernel_rfl) (by simp) ?_
    refine AllReadyH.cons rfl (fun K hK => ?_) AllReadyH.nil
    go_simp
    refine (emptyText_new _).mono ?_
    rintro e x1 ⟨G1, C1, S1, rfl, l1, m1, O1, a1⟩
    have d1 := grow_trans hd4 a1
    refine hK.out _ _ (HS.out _ d1) (fun hHeld => ?_)
    clear hK K
    refine wpAnyH_ready (rs := [1]) (by kernel_rfl) (by simp) ?_
    refine AllReadyH.cons rfl (fun K hK => ?_) AllReadyH.nil
    go_simp
    refine (emptyText_new _).mono ?_
    rintro e x2 ⟨G2, C2, S2, rfl, l2, m2, O2, a2⟩
    have d2 := grow_trans d1 a2
    refine hK.out _ _ (HS.out _ d2) (fun hHeld => ?_)
    clear hK K
    refine wpAnyH_ready (rs := [3]) (by kernel_rfl) (by simp) ?_
    refine AllReadyH.cons rfl (fun K hK => ?_) AllReadyH.nil
    go_simp
    refine (valueText_new _ zs _ (HP.out _ d2) (by omega)).mono ?_
    rintro e x3 ⟨G3, C3, S3, rfl, l3, m3, O3, a3⟩
    have d3 := grow_trans d2 a3
    refine hK.out _ _ (HS.out _ d3) (fun hHeld => ?_)
    clear hK K
    refine wpAnyH_ready (rs := [6]) (by kernel_rfl) (by simp) ?_
    refine AllReadyH.cons rfl (fun K hK => ?_) AllReadyH.nil
    go_simp
    refine (leafText_new KK A _ HK.out HA.out BK.out BA.out).mono ?_
    rintro e x4 ⟨G4, C4, S4, rfl, l4, m4, O4, a4⟩
    have d4 := grow_trans d3 a4
    refine hK.out _ _ (HS.out _ d4) (fun hHeld => ?_)
    clear hK K
    refine wpAnyH_ready (rs := [9]) (by kernel_rfl) (by simp) ?_
    refine AllReadyH.cons rfl (fun K hK => ?_) AllReadyH.nil
    go_simp
    refine (innerText_new A C _ HA.out HC.out BA.out BC.out).mono ?_
    rintro e x5 ⟨G5, C5, S5, rfl, l5, m5, O5, a5⟩
    have d5 := grow_trans d4 a5
    refine hK.out _ _ (HS.out _ d5) (fun hHeld => ?_)
    clear hK K
    refine wpAnyH_ready (rs := [12]) (by kernel_rfl) (by simp) ?_
    refine AllReadyH.cons rfl (fun K hK => ?_) AllReadyH.nil
    go_simp
    refine (leafText_new KK A _ HK.out HA.out BK.out BA.out).mono ?_
    rintro e x6 ⟨G6, C6, S6, rfl, l6, m6, O6, a6⟩
    have d6 := grow_trans d5 a6
    refine hK.out _ _ (HS.out _ d6) (fun hHeld => ?_)
    clear hK K
    refine wpAnyH_ready (rs := [14]) (by kernel_rfl) (by simp) ?_
    refine AllReadyH.cons rfl (fun K hK => ?_) AllReadyH.nil
    go_simp
    refine hK.out _ _ (HS.out _ (grow_trans d6 (grow_alloc _ _))) (fun hHeld => ?_)
    clear hK K
    refine wpAnyH_take (i := 15) (v := .slice (some ⟨x6.heap.size, 0, none⟩) 7 7) rfl (by kernel_rfl) (by kernel_rfl) (by kernel_rfl) (fun _ _ _ h => h) (Or.inl ⟨by rfl, fun w hS => by go_simp⟩) hHeld ?_
    simp only [Act.put, List.getElem_toArray, List.getElem_cons_zero, List.getElem_cons_succ, List.setIfInBounds_toArray, List.set_cons_zero, List.set_cons_succ]
    refine wpAnyH_done (by kernel_rfl) ?_ _
    have l1' : w4.heap.size ≤ G1 := l1
    have q5 := a6
    have q4 := grow_trans a5 q5
    have q3 := grow_trans a4 q4
    have q2 := grow_trans a3 q3
    have q1 := grow_trans a2 q2
    have hgp := HGP.out
    have hs4 := HS4.out
    have hOP : Own w.heap.size x6 (.slice (some ⟨gp, 0, none⟩) zs.length (zs.length + 5)) zs (marks zs.length) := by
      have h1 := Own.mk (base := w.heap.size) HZB.out (marks_bytes zs.length) (by rw [marks_length]; simp only [maxLen]; omega) (by omega) HROW.out
      rw [marks_length] at h1
      exact h1.grow d6
    have hH : Held w Zs 7 (.slice (some ⟨x6.heap.size, 0, none⟩) 7 7) (x6.alloc (.cells #[.slice (some ⟨G1, 0, none⟩) 1 C1, .slice (some ⟨G2, 0, none⟩) 1 C2, .slice (some ⟨G3, 0, none⟩) (zs.length + 1) C3, .slice (some ⟨G4, 0, none⟩) 65 C4, .slice (some ⟨G5, 0, none⟩) 65 C5, .slice (some ⟨G6, 0, none⟩) 65 C6, .slice (some ⟨gp, 0, none⟩) zs.length (zs.length + 5)] 24)) := by
      rw [HZ.out]
      refine ⟨x6.heap.size, _, _, rfl, lists_new w.heap.size x6 [.slice (some ⟨G1, 0, none⟩) 1 C1, .slice (some ⟨G2, 0, none⟩) 1 C2, .slice (some ⟨G3, 0, none⟩) (zs.length + 1) C3, .slice (some ⟨G4, 0, none⟩) 65 C4, .slice (some ⟨G5, 0, none⟩) 65 C5, .slice (some ⟨G6, 0, none⟩) 65 C6, .slice (some ⟨gp, 0, none⟩) zs.length (zs.length + 5)] _ [S1, S2, S3, S4, S5, S6, marks zs.length] [G1, G2, G3, G4, G5, G6, gp] 7 rfl rfl ?_ ?_ ?_, grow_trans (grow_trans c4 d6) (grow_alloc _ _)⟩
      · have z4 : w.heap.size ≤ w4.heap.size := c4.size
        have z1 := a1.size
        have z2 := a2.size
        have z3 := a3.size
        have z5 := a4.size
        have z6 := a5.size
        have z0 : w4.heap.size ≤ x1.heap.size := z1
        intro i hi
        match i, hi with
        | 0, _ => exact (O1.grow q1).mono z4
        | 1, _ => exact (O2.grow q2).mono (by omega)
        | 2, _ => exact (O3.grow q3).mono (by omega)
        | 3, _ => exact (O4.grow q4).mono (by omega)
        | 4, _ => exact (O5.grow q5).mono (by omega)
        | 5, _ => exact O6.mono (by omega)
        | 6, _ => exact hOP
      · intro i hi
        match i, hi with
        | 0, _ => rfl
        | 1, _ => rfl
        | 2, _ => rfl
        | 3, _ => rfl
        | 4, _ => rfl
        | 5, _ => rfl
        | 6, _ => rfl
      · simp only [List.nodup_cons, List.mem_cons, List.not_mem_nil, or_false, not_or, not_false_iff, List.nodup_nil, and_true]
        omega
    have hB : Below w4.heap.size w4 (x6.alloc (.cells #[.slice (some ⟨G1, 0, none⟩) 1 C1, .slice (some ⟨G2, 0, none⟩) 1 C2, .slice (some ⟨G3, 0, none⟩) (zs.length + 1) C3, .slice (some ⟨G4, 0, none⟩) 65 C4, .slice (some ⟨G5, 0, none⟩) 65 C5, .slice (some ⟨G6, 0, none⟩) 65 C6, .slice (some ⟨gp, 0, none⟩) zs.length (zs.length + 5)] 24)) := grow_trans d6 (grow_alloc _ _)
    clear hHeld O1 O2 O3 O4 O5 O6 q1 q2 q3 q4 q5 l1 l1' l2 l3 l4 l5 l6 m1 m2 m3 m4 m5 m6 a1 a2 a3 a4 a5 a6 d1 d2 d3 d4 d5 d6 hOP hgp hs4
    go_wp2_with fail
    go_meet
    case rel => exact ⟨hH, hB⟩
  case rest =>
    obtain ⟨⟨gl, V, SS, rfl, HLs, hbw⟩, hb4c⟩ := hcut
    have HLL := hidden HLs
    have HSc : Hid (∀ w', Below wc.heap.size wc w' → w'.rangeAt g1 0 (B KK).toList ∧ w'.rangeAt g2 0 (B A).toList ∧ w'.rangeAt g3 0 (B C).toList) := fun w' hw' => HS.out w' (grow_trans hb4c hw')
    have HV : Hid (∀ w', Below wc.heap.size wc w' → Reads w' (.slice va zs.length vc) zs) := fun w' hw' => HR.out.grow (grow_trans hbw hw')
    have hdc : Below wc.heap.size wc wc.drew := (Below.refl _ _).drew
    clear HLs HS HP HROW hb4c
    go_upto_region 3 with fail
    go_cut [11] from 30 (fun s wx => Parts wx s Zs ∧ Below wc.heap.size wc wx)
    case first =>
      refine wp_region_held_drew (S := fun w' => w'.rangeAt g1 0 (B KK).toList ∧ w'.rangeAt g2 0 (B A).toList ∧ w'.rangeAt g3 0 (B C).toList) (by kernel_rfl) (HSc.out _ hdc) (fun hHeld => ?_)
      refine wpAnyH_take (i := 5) (v := .agg (B KK)) rfl (by kernel_rfl) (by kernel_rfl) (by kernel_rfl) (fun _ _ _ h => h) (yieldsIf_load_mid rfl 23 (.tmp 4) rfl g1 0 rfl (B KK).toList _ (fun w hS => hS.1) hu1 rfl hiK) hHeld ?_
      simp only [Act.put, List.getElem_toArray, List.getElem_cons_zero, List.getElem_cons_succ, List.setIfInBounds_toArray, List.set_cons_zero, List.set_cons_succ]
      refine wpAnyH_take (i := 6) (v := .agg (B A)) rfl (by kernel_rfl) (by kernel_rfl) (by kernel_rfl) (fun _ _ _ h => h) (yieldsIf_load_mid rfl 25 (.tmp 6) rfl g2 0 rfl (B A).toList _ (fun w hS => hS.2.1) hu2 rfl hiA) hHeld ?_
      simp only [Act.put, List.getElem_toArray, List.getElem_cons_zero, List.getElem_cons_succ, List.setIfInBounds_toArray, List.set_cons_zero, List.set_cons_succ]
      refine wpAnyH_take (i := 8) (v := .agg (B A)) rfl (by kernel_rfl) (by kernel_rfl) (by kernel_rfl) (fun _ _ _ h => h) (yieldsIf_load_mid rfl 25 (.tmp 6) rfl g2 0 rfl (B A).toList _ (fun w hS => hS.2.1) hu2 rfl hiA) hHeld ?_
      simp only [Act.put, List.getElem_toArray, List.getElem_cons_zero, List.getElem_cons_succ, List.setIfInBounds_toArray, List.set_cons_zero, List.set_cons_succ]
      refine wpAnyH_take (i := 9) (v := .agg (B C)) rfl (by kernel_rfl) (by kernel_rfl) (by kernel_rfl) (fun _ _ _ h => h) (yieldsIf_load_mid rfl 25 (.tmp 7) rfl g3 0 rfl (B C).toList _ (fun w hS => hS.2.2) hu2 rfl hiC) hHeld ?_
      simp only [Act.put, List.getElem_toArray, List.getElem_cons_zero, List.getElem_cons_succ, List.setIfInBounds_toArray, List.set_cons_zero, List.set_cons_succ]
      refine wpAnyH_take (i := 11) (v := .agg (B KK)) rfl (by kernel_rfl) (by kernel_rfl) (by kernel_rfl) (fun _ _ _ h => h) (yieldsIf_load_mid rfl 23 (.tmp 4) rfl g1 0 rfl (B KK).toList _ (fun w hS => hS.1) hu1 rfl hiK) hHeld ?_
      simp only [Act.put, List.getElem_toArray, List.getElem_cons_zero, List.getElem_cons_succ, List.setIfInBounds_toArray, List.set_cons_zero, List.set_cons_succ]
      refine wpAnyH_take (i := 12) (v := .agg (B A)) rfl (by kernel_rfl) (by kernel_rfl) (by kernel_rfl) (fun _ _ _ h => h) (yieldsIf_load_mid rfl 25 (.tmp 6) rfl g2 0 rfl (B A).toList _ (fun w hS => hS.2.1) hu2 rfl hiA) hHeld ?_
      simp only [Act.put, List.getElem_toArray, List.getElem_cons_zero, List.getElem_cons_succ, List.setIfInBounds_toArray, List.set_cons_zero, List.set_cons_succ]
      refine wpAnyH_take (i := 2) (v := .slice va zs.length vc) rfl (by kernel_rfl) (by kernel_rfl) (by kernel_rfl) (fun _ _ _ h => h) (Or.inl ⟨by rfl, fun w hS => by go_simp⟩) hHeld ?_
      simp only [Act.put, List.getElem_toArray, List.getElem_cons_zero, List.getElem_cons_succ, List.setIfInBounds_toArray, List.set_cons_zero, List.set_cons_succ]
      refine wpAnyH_take (i := 14) (v := .slice va zs.length vc) rfl (by kernel_rfl) (by kernel_rfl) (by kernel_rfl) (fun _ _ _ h => h) (Or.inl ⟨by rfl, fun w hS => by go_simp⟩) hHeld ?_
      simp only [Act.put, List.getElem_toArray, List.getElem_cons_zero, List.getElem_cons_succ, List.setIfInBounds_toArray, List.set_cons_zero, List.set_cons_succ]
      refine wpAnyH_ready (rs := [0, 3]) (by kernel_rfl) (by simp) ?_
      refine AllReadyH.cons rfl (fun K hK => ?_) (AllReadyH.cons rfl (fun K hK => ?_) AllReadyH.nil)
      · go_simp
        refine (refText_nil _).mono ?_
        rintro e y1 ⟨G1, C1, S1, rfl, l1, m1, O1, a1⟩
        have d1 := grow_trans hdc a1
        have R1 := O1.reads
        clear O1 l1 m1
        refine hK.out _ _ (HSc.out _ d1) (fun hHeld => ?_)
        clear hK K
        refine wpAnyH_ready (rs := [1, 3]) (by kernel_rfl) (by simp) ?_
        refine AllReadyH.cons rfl (fun K hK => ?_) (AllReadyH.cons rfl (fun K hK => ?_) AllReadyH.nil)
        · go_simp
          refine (refText_nil _).mono ?_
          rintro e y2 ⟨G2, C2, S2, rfl, l2, m2, O2, a2⟩
          have d2 := grow_trans d1 a2
          have R2 := O2.reads
          clear O2 l2 m2
          have R1_2 := R1.grow a2
          refine hK.out _ _ (HSc.out _ d2) (fun hHeld => ?_)
          clear hK K
          refine wpAnyH_ready (rs := [3]) (by kernel_rfl) (by simp) ?_
          refine AllReadyH.cons rfl (fun K hK => ?_) AllReadyH.nil
          go_simp
          have hq0 := parts_one y2 (.slice va zs.length vc) zs (HV.out _ d2)
          have dq := grow_trans d2 (grow_alloc y2 (.cells #[.slice va zs.length vc] 24))
          have R1_q := R1_2.grow (grow_alloc y2 (.cells #[.slice va zs.length vc] 24))
          have R2_q := R2.grow (grow_alloc y2 (.cells #[.slice va zs.length vc] 24))
          refine hK.out _ _ (HSc.out _ dq) (fun hHeld => ?_)
          clear hK K
          refine wpAnyH_ready (rs := [4]) (by kernel_rfl) (by simp) ?_
          refine AllReadyH.cons rfl (fun K hK => ?_) AllReadyH.nil
          go_simp
          refine (refText_one _ zs _ hq0 (by omega)).mono ?_
          rintro e y3 ⟨G3, C3, S3, rfl, l3, m3, O3, a3⟩
          have d3 := grow_trans dq a3
          have hq3 := hq0.grow a3
          have R3 := O3.reads
          clear O3 l3 m3
          have R1_3 := R1_q.grow a3
          have R2_3 := R2_q.grow a3
          refine hK.out _ _ (HSc.out _ d3) (fun hHeld => ?_)
          clear hK K
          refine wpAnyH_ready (rs := [7]) (by kernel_rfl) (by simp) ?_
          refine AllReadyH.cons rfl (fun K hK => ?_) AllReadyH.nil
          go_simp
          refine (refLeafText_new KK A _ HK.out HA.out BK.out BA.out).mono ?_
          rintro e y4 ⟨G4, C4, S4, rfl, l4, m4, O4, a4⟩
          have d4 := grow_trans d3 a4
          have R4 := O4.reads
          clear O4 l4 m4
          have R1_4 := R1_3.grow a4
          have R2_4 := R2_3.grow a4
          have R3_4 := R3.grow a4
          refine hK.out _ _ (HSc.out _ d4) (fun hHeld => ?_)
          clear hK K
          refine wpAnyH_ready (rs := [10]) (by kernel_rfl) (by simp) ?_
          refine AllReadyH.cons rfl (fun K hK => ?_) AllReadyH.nil
          go_simp
          refine (refInnerText_new A C _ HA.out HC.out BA.out BC.out).mono ?_
          rintro e y5 ⟨G5, C5, S5, rfl, l5, m5, O5, a5⟩
          have d5 := grow_trans d4 a5
          have R5 := O5.reads
          clear O5 l5 m5
          have R1_5 := R1_4.grow a5
          have R2_5 := R2_4.grow a5
          have R3_5 := R3_4.grow a5
          have R4_5 := R4.grow a5
          refine hK.out _ _ (HSc.out _ d5) (fun hHeld => ?_)
          clear hK K
          refine wpAnyH_ready (rs := [13]) (by kernel_rfl) (by simp) ?_
          refine AllReadyH.cons rfl (fun K hK => ?_) AllReadyH.nil
          go_simp
          refine (refLeafText_new KK A _ HK.out HA.out BK.out BA.out).mono ?_
          rintro e y6 ⟨G6, C6, S6, rfl, l6, m6, O6, a6⟩
          have d6 := grow_trans d5 a6
          have R6 := O6.reads
          clear O6 l6 m6
          have R1_6 := R1_5.grow a6
          have R2_6 := R2_5.grow a6
          have R3_6 := R3_5.grow a6
          have R4_6 := R4_5.grow a6
          have R5_6 := R5.grow a6
          refine hK.out _ _ (HSc.out _ d6) (fun hHeld => ?_)
          clear hK K
          refine wpAnyH_ready (rs := [15]) (by kernel_rfl) (by simp) ?_
          refine AllReadyH.cons rfl (fun K hK => ?_) AllReadyH.nil
          go_simp
          refine hK.out _ _ (HSc.out _ (grow_trans d6 (grow_alloc _ _))) (fun hHeld => ?_)
          clear hK K
          refine wpAnyH_take (i := 16) (v := .slice (some ⟨y6.heap.size, 0, none⟩) 7 7) rfl (by kernel_rfl) (by kernel_rfl) (by kernel_rfl) (fun _ _ _ h => h) (Or.inl ⟨by rfl, fun w hS => by go_simp⟩) hHeld ?_
          simp only [Act.put, List.getElem_toArray, List.getElem_cons_zero, List.getElem_cons_succ, List.setIfInBounds_toArray, List.set_cons_zero, List.set_cons_succ]
          refine wpAnyH_done (by kernel_rfl) ?_ _
          have RV := HV.out _ d6
          have hPa := parts_new y6 [.slice (some ⟨G1, 0, none⟩) 1 C1, .slice (some ⟨G2, 0, none⟩) 1 C2, .slice (some ⟨G3, 0, none⟩) (zs.length + 1) C3, .slice (some ⟨G4, 0, none⟩) 65 C4, .slice (some ⟨G5, 0, none⟩) 65 C5, .slice (some ⟨G6, 0, none⟩) 65 C6, .slice va zs.length vc] Zs 7 (by rw [HZ.out]; rfl) rfl (by omega) (by
            rw [HZ.out]
            intro i hi
            match i, hi with
            | 0, _ => exact R1_6
            | 1, _ => exact R2_6
            | 2, _ => exact R3_6
            | 3, _ => exact R4_6
            | 4, _ => exact R5_6
            | 5, _ => exact R6
            | 6, _ => exact RV)
          have hBe := grow_trans d6 (grow_alloc y6 (.cells [.slice (some ⟨G1, 0, none⟩) 1 C1, .slice (some ⟨G2, 0, none⟩) 1 C2, .slice (some ⟨G3, 0, none⟩) (zs.length + 1) C3, .slice (some ⟨G4, 0, none⟩) 65 C4, .slice (some ⟨G5, 0, none⟩) 65 C5, .slice (some ⟨G6, 0, none⟩) 65 C6, .slice va zs.length vc].toArray 24))
          clear hHeld RV
          go_wp2_with fail
          go_meet
          case rel => exact ⟨hPa, hBe⟩
        · go_simp
          have hq0 := parts_one y1 (.slice va zs.length vc) zs (HV.out _ d1)
          have dq := grow_trans d1 (grow_alloc y1 (.cells #[.slice va zs.length vc] 24))
          have R1_q := R1.grow (grow_alloc y1 (.cells #[.slice va zs.length vc] 24))
          refine hK.out _ _ (HSc.out _ dq) (fun hHeld => ?_)
          clear hK K
          refine wpAnyH_ready (rs := [1]) (by kernel_rfl) (by simp) ?_
          refine AllReadyH.cons rfl (fun K hK => ?_) AllReadyH.nil
          go_simp
          refine (refText_nil _).mono ?_
          rintro e y2 ⟨G2, C2, S2, rfl, l2, m2, O2, a2⟩
          have d2 := grow_trans dq a2
          have hq2 := hq0.grow a2
          have R2 := O2.reads
          clear O2 l2 m2
          have R1_2 := R1_q.grow a2
          refine hK.out _ _ (HSc.out _ d2) (fun hHeld => ?_)
          clear hK K
          refine wpAnyH_ready (rs := [4]) (by kernel_rfl) (by simp) ?_
          refine AllReadyH.cons rfl (fun K hK => ?_) AllReadyH.nil
          go_simp
          refine (refText_one _ zs _ hq2 (by omega)).mono ?_
          rintro e y3 ⟨G3, C3, S3, rfl, l3, m3, O3, a3⟩
          have d3 := grow_trans d2 a3
          have hq3 := hq2.grow a3
          have R3 := O3.reads
          clear O3 l3 m3
          have R1_3 := R1_2.grow a3
          have R2_3 := R2.grow a3
          refine hK.out _ _ (HSc.out _ d3) (fun hHeld => ?_)
          clear hK K
          refine wpAnyH_ready (rs := [7]) (by kernel_rfl) (by simp) ?_
          refine AllReadyH.cons rfl (fun K hK => ?_) AllReadyH.nil
          go_simp
          refine (refLeafText_new KK A _ HK.out HA.out BK.out BA.out).mono ?_
          rintro e y4 ⟨G4, C4, S4, rfl, l4, m4, O4, a4⟩
          have d4 := grow_trans d3 a4
          have R4 := O4.reads
          clear O4 l4 m4
          have R1_4 := R1_3.grow a4
          have R2_4 := R2_3.grow a4
          have R3_4 := R3.grow a4
          refine hK.out _ _ (HSc.out _ d4) (fun hHeld => ?_)
          clear hK K
          refine wpAnyH_ready (rs := [10]) (by kernel_rfl) (by simp) ?_
          refine AllReadyH.cons rfl (fun K hK => ?_) AllReadyH.nil
          go_simp
          refine (refInnerText_new A C _ HA.out HC.out BA.out BC.out).mono ?_
          rintro e y5 ⟨G5, C5, S5, rfl, l5, m5, O5, a5⟩
          have d5 := grow_trans d4 a5
          have R5 := O5.reads
          clear O5 l5 m5
          have R1_5 := R1_4.grow a5
          have R2_5 := R2_4.grow a5
          have R3_5 := R3_4.grow a5
          have R4_5 := R4.grow a5
          refine hK.out _ _ (HSc.out _ d5) (fun hHeld => ?_)
          clear hK K
          refine wpAnyH_ready (rs := [13]) (by kernel_rfl) (by simp) ?_
          refine AllReadyH.cons rfl (fun K hK => ?_) AllReadyH.nil
          go_simp
          refine (refLeafText_new KK A _ HK.out HA.out BK.out BA.out).mono ?_
          rintro e y6 ⟨G6, C6, S6, rfl, l6, m6, O6, a6⟩
          have d6 := grow_trans d5 a6
          have R6 := O6.reads
          clear O6 l6 m6
          have R1_6 := R1_5.grow a6
          have R2_6 := R2_5.grow a6
          have R3_6 := R3_5.grow a6
          have R4_6 := R4_5.grow a6
          have R5_6 := R5.grow a6
          refine hK.out _ _ (HSc.out _ d6) (fun hHeld => ?_)
          clear hK K
          refine wpAnyH_ready (rs := [15]) (by kernel_rfl) (by simp) ?_
          refine AllReadyH.cons rfl (fun K hK => ?_) AllReadyH.nil
          go_simp
          refine hK.out _ _ (HSc.out _ (grow_trans d6 (grow_alloc _ _))) (fun hHeld => ?_)
          clear hK K
          refine wpAnyH_take (i := 16) (v := .slice (some ⟨y6.heap.size, 0, none⟩) 7 7) rfl (by kernel_rfl) (by kernel_rfl) (by kernel_rfl) (fun _ _ _ h => h) (Or.inl ⟨by rfl, fun w hS => by go_simp⟩) hHeld ?_
          simp only [Act.put, List.getElem_toArray, List.getElem_cons_zero, List.getElem_cons_succ, List.setIfInBounds_toArray, List.set_cons_zero, List.set_cons_succ]
          refine wpAnyH_done (by kernel_rfl) ?_ _
          have RV := HV.out _ d6
          have hPa := parts_new y6 [.slice (some ⟨G1, 0, none⟩) 1 C1, .slice (some ⟨G2, 0, none⟩) 1 C2, .slice (some ⟨G3, 0, none⟩) (zs.length + 1) C3, .slice (some ⟨G4, 0, none⟩) 65 C4, .slice (some ⟨G5, 0, none⟩) 65 C5, .slice (some ⟨G6, 0, none⟩) 65 C6, .slice va zs.length vc] Zs 7 (by rw [HZ.out]; rfl) rfl (by omega) (by
            rw [HZ.out]
            intro i hi
            match i, hi with
            | 0, _ => exact R1_6
            | 1, _ => exact R2_6
            | 2, _ => exact R3_6
            | 3, _ => exact R4_6
            | 4, _ => exact R5_6
            | 5, _ => exact R6
            | 6, _ => exact RV)
          have hBe := grow_trans d6 (grow_alloc y6 (.cells [.slice (some ⟨G1, 0, none⟩) 1 C1, .slice (some ⟨G2, 0, none⟩) 1 C2, .slice (some ⟨G3, 0, none⟩) (zs.length + 1) C3, .slice (some ⟨G4, 0, none⟩) 65 C4, .slice (some ⟨G5, 0, none⟩) 65 C5, .slice (some ⟨G6, 0, none⟩) 65 C6, .slice va zs.length vc].toArray 24))
          clear hHeld RV
          go_wp2_with fail
          go_meet
          case rel => exact ⟨hPa, hBe⟩
      · go_simp
        have hq0 := parts_one wc.drew (.slice va zs.length vc) zs (HV.out _ hdc)
        have dq := grow_trans hdc (grow_alloc wc.drew (.cells #[.slice va zs.length vc] 24))
        refine hK.out _ _ (HSc.out _ dq) (fun hHeld => ?_)
        clear hK K
        refine wpAnyH_ready (rs := [0]) (by kernel_rfl) (by simp) ?_
        refine AllReadyH.cons rfl (fun K hK => ?_) AllReadyH.nil
        go_simp
        refine (refText_nil _).mono ?_
        rintro e y1 ⟨G1, C1, S1, rfl, l1, m1, O1, a1⟩
        have d1 := grow_trans dq a1
        have hq1 := hq0.grow a1
        have R1 := O1.reads
        clear O1 l1 m1
        refine hK.out _ _ (HSc.out _ d1) (fun hHeld => ?_)
        clear hK K
        refine wpAnyH_ready (rs := [1]) (by kernel_rfl) (by simp) ?_
        refine AllReadyH.cons rfl (fun K hK => ?_) AllReadyH.nil
        go_simp
        refine (refText_nil _).mono ?_
        rintro e y2 ⟨G2, C2, S2, rfl, l2, m2, O2, a2⟩
        have d2 := grow_trans d1 a2
        have hq2 := hq1.grow a2
        have R2 := O2.reads
        clear O2 l2 m2
        have R1_2 := R1.grow a2
        refine hK.out _ _ (HSc.out _ d2) (fun hHeld => ?_)
        clear hK K
        refine wpAnyH_ready (rs := [4]) (by kernel_rfl) (by simp) ?_
        refine AllReadyH.cons rfl (fun K hK => ?_) AllReadyH.nil
        go_simp
        refine (refText_one _ zs _ hq2 (by omega)).mono ?_
        rintro e y3 ⟨G3, C3, S3, rfl, l3, m3, O3, a3⟩
        have d3 := grow_trans d2 a3
        have hq3 := hq2.grow a3
        have R3 := O3.reads
        clear O3 l3 m3
        have R1_3 := R1_2.grow a3
        have R2_3 := R2.grow a3
        refine hK.out _ _ (HSc.out _ d3) (fun hHeld => ?_)
        clear hK K
        refine wpAnyH_ready (rs := [7]) (by kernel_rfl) (by simp) ?_
        refine AllReadyH.cons rfl (fun K hK => ?_) AllReadyH.nil
        go_simp
        refine (refLeafText_new KK A _ HK.out HA.out BK.out BA.out).mono ?_
        rintro e y4 ⟨G4, C4, S4, rfl, l4, m4, O4, a4⟩
        have d4 := grow_trans d3 a4
        have R4 := O4.reads
        clear O4 l4 m4
        have R1_4 := R1_3.grow a4
        have R2_4 := R2_3.grow a4
        have R3_4 := R3.grow a4
        refine hK.out _ _ (HSc.out _ d4) (fun hHeld => ?_)
        clear hK K
        refine wpAnyH_ready (rs := [10]) (by kernel_rfl) (by simp) ?_
        refine AllReadyH.cons rfl (fun K hK => ?_) AllReadyH.nil
        go_simp
        refine (refInnerText_new A C _ HA.out HC.out BA.out BC.out).mono ?_
        rintro e y5 ⟨G5, C5, S5, rfl, l5, m5, O5, a5⟩
        have d5 := grow_trans d4 a5
        have R5 := O5.reads
        clear O5 l5 m5
        have R1_5 := R1_4.grow a5
        have R2_5 := R2_4.grow a5
        have R3_5 := R3_4.grow a5
        have R4_5 := R4.grow a5
        refine hK.out _ _ (HSc.out _ d5) (fun hHeld => ?_)
        clear hK K
        refine wpAnyH_ready (rs := [13]) (by kernel_rfl) (by simp) ?_
        refine AllReadyH.cons rfl (fun K hK => ?_) AllReadyH.nil
        go_simp
        refine (refLeafText_new KK A _ HK.out HA.out BK.out BA.out).mono ?_
        rintro e y6 ⟨G6, C6, S6, rfl, l6, m6, O6, a6⟩
        have d6 := grow_trans d5 a6
        have R6 := O6.reads
        clear O6 l6 m6
        have R1_6 := R1_5.grow a6
        have R2_6 := R2_5.grow a6
        have R3_6 := R3_5.grow a6
        have R4_6 := R4_5.grow a6
        have R5_6 := R5.grow a6
        refine hK.out _ _ (HSc.out _ d6) (fun hHeld => ?_)
        clear hK K
        refine wpAnyH_ready (rs := [15]) (by kernel_rfl) (by simp) ?_
        refine AllReadyH.cons rfl (fun K hK => ?_) AllReadyH.nil
        go_simp
        refine hK.out _ _ (HSc.out _ (grow_trans d6 (grow_alloc _ _))) (fun hHeld => ?_)
        clear hK K
        refine wpAnyH_take (i := 16) (v := .slice (some ⟨y6.heap.size, 0, none⟩) 7 7) rfl (by kernel_rfl) (by kernel_rfl) (by kernel_rfl) (fun _ _ _ h => h) (Or.inl ⟨by rfl, fun w hS => by go_simp⟩) hHeld ?_
        simp only [Act.put, List.getElem_toArray, List.getElem_cons_zero, List.getElem_cons_succ, List.setIfInBounds_toArray, List.set_cons_zero, List.set_cons_succ]
        refine wpAnyH_done (by kernel_rfl) ?_ _
        have RV := HV.out _ d6
        have hPa := parts_new y6 [.slice (some ⟨G1, 0, none⟩) 1 C1, .slice (some ⟨G2, 0, none⟩) 1 C2, .slice (some ⟨G3, 0, none⟩) (zs.length + 1) C3, .slice (some ⟨G4, 0, none⟩) 65 C4, .slice (some ⟨G5, 0, none⟩) 65 C5, .slice (some ⟨G6, 0, none⟩) 65 C6, .slice va zs.length vc] Zs 7 (by rw [HZ.out]; rfl) rfl (by omega) (by
          rw [HZ.out]
          intro i hi
          match i, hi with
          | 0, _ => exact R1_6
          | 1, _ => exact R2_6
          | 2, _ => exact R3_6
          | 3, _ => exact R4_6
          | 4, _ => exact R5_6
          | 5, _ => exact R6
          | 6, _ => exact RV)
        have hBe := grow_trans d6 (grow_alloc y6 (.cells [.slice (some ⟨G1, 0, none⟩) 1 C1, .slice (some ⟨G2, 0, none⟩) 1 C2, .slice (some ⟨G3, 0, none⟩) (zs.length + 1) C3, .slice (some ⟨G4, 0, none⟩) 65 C4, .slice (some ⟨G5, 0, none⟩) 65 C5, .slice (some ⟨G6, 0, none⟩) 65 C6, .slice va zs.length vc].toArray 24))
        clear hHeld RV
        go_wp2_with fail
        go_meet
        case rel => exact ⟨hPa, hBe⟩
    case rest =>
      obtain ⟨hPa, hbc⟩ := hcut
      obtain ⟨aa, cap, W, rfl, h1, h2, h3, h4⟩ := hPa
      have hz7 : Zs.length = 7 := by rw [HZ.out]; rfl
      rw [hz7] at h1 h3 h4 ⊢
      obtain ⟨bb, off, rfl, hcc⟩ := h3 (by omega)
      obtain ⟨wz, rfl⟩ : ∃ x, x = wc := ⟨_, rfl⟩
      have HCC := hidden hcc
      have HRD := hidden h4
      have HLZ := hidden (HLL.out.of_block (w' := wz) (fun k hk => hbc.block k hk))
      have hbz : Below w.heap.size w wz := grow_trans hbw hbc
      clear hcc h4 HV HSc hbc HLL hz7 h2 h3
      go_wp2_with fail
      go_loopw [12] (fun i wl => ∃ (j : Nat), j ≤ 7 ∧ i = .int .i64 j ∧ Below wz.heap.size wz wl) (fun i _ => 7 - (intOf i).toNat)
      case atStart => exact ⟨0, by omega, rfl, Below.refl _ _⟩
      case round =>
        obtain ⟨j, hj, rfl, hbl⟩ := hrel
        by_cases hlt : j < 7
        · have hc1 := HLZ.out.cell j hlt
          have hc2 := HCC.out j hlt
          rw [Nat.zero_add] at hc1
          have HS7 : Hid (∀ w', Below wz.heap.size wz w' → w'.cell? ⟨gl, j, none⟩ = some (V j) ∧ w'.cell? ⟨bb, off + j, none⟩ = some (W j)) := fun w' hw' =>
            ⟨(hw'.cell (p := ⟨gl, j, none⟩) (block_lt_of_cell hc1)).trans hc1, (hw'.cell (p := ⟨bb, off + j, none⟩) (block_lt_of_cell hc2)).trans hc2⟩
          have HSM : Hid (∀ w', Below wz.heap.size wz w' → Calls Try.prog 12 #[V j, W j] w' fun e w'' => e = .returned (.bool true) ∧ w'' = w') := by
            intro w' hw'
            have h5 := same_any (V j) (W j) _ _ w' ((HLZ.out.own j hlt).reads.grow hw') ((HRD.out j hlt).grow hw')
            rw [decide_eq_true (rfl : Zs.getD j [] = Zs.getD j [])] at h5
            exact h5
          have j1 : (j : Int) < 7 := by omega
          have j0 : (0 : Int) ≤ (j : Int) := by omega
          have hbd := hbl.drew
          generalize V j = lv at *
          generalize W j = vj at *
          clear hc1 hc2
          go_wp2_with fail
          go_region_held2 (fun w' => w'.cell? ⟨gl, j, none⟩ = some lv ∧ w'.cell? ⟨bb, off + j, none⟩ = some vj)
            (first | exact HS7.out _ (by assumption))
            (first | (go_at_call 12; refine (HSM.out _ (by assumption)).mono ?_; rintro e wy ⟨rfl, hwy⟩; rw [hwy]; clear hwy))
          go_wp2
          exact ⟨⟨j + 1, by omega, by go_num, by assumption⟩, by simp [intOf]; omega⟩
        · have HLe := hidden (HLZ.out.of_block (w' := wr) (fun k hk => hbl.block k hk))
          go_wp2_with (go_at_call 13; refine (apart_walk w.heap.size gl 0 7 7 _ _ _ wr (by omega) HLe.out (Nat.le_refl _)).mono ?_; rintro e wf ⟨rfl, hbf⟩)
          go_ret
          exact ⟨rfl, grow_trans (grow_trans hbz hbl) hbf⟩

end Go.Proofs.Ytacfhkaihcclaaa
