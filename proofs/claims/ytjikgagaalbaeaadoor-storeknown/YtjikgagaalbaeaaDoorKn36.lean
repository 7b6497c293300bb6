/- What a store tells as a node by digests (Node), as a contract. -/
import Derived.Test.YtjikgagaalbaeaaDoorKn30
import Derived.Test.YtjikgagaalbaeaaDoorKn31
import Derived.Test.YtjikgagaalbaeaaDoorKn35
import Derived.Test.YtjikgagaalbaeaaDoorKn03
namespace Go.Proofs.YtjikgagaalbaeaaDoor
set_option maxRecDepth 20000
open Go.RowKit

/-- What Node answers. -/
def vNd (mk : Bool) (ca : Int → Ce) (h : Int) : List Int := if (ca h).kind = 1 then nd 1 (ca h).key (vaD (ca h).bs) z32 z32 else if (ca h).kind = 2 then nd 2 z32 z32 (vDg mk ca ((ca h).l : Int)) (vDg mk ca ((ca h).r : Int)) else nd 0 z32 z32 z32 z32

theorem vNd_ok {w : World} {v : Value} {mk : Bool} {ct : Int → Nat} {ca : Int → Ce} (V : Vw w v mk ct ca) (h : Int) : (vNd mk ca h).length = 129 ∧ ∃ k a b c d, vNd mk ca h = nd k a b c d ∧ Nd k a b c d := by
  have z := z32_bytes
  have hq : ∃ k a b c d, vNd mk ca h = nd k a b c d ∧ Nd k a b c d := by
    unfold vNd
    split
    · exact ⟨_, _, _, _, _, rfl, by omega, by omega, (V.ok h).hk.1, dig_length _, rfl, rfl, (V.ok h).hk.2, dig_bytes _, z, z⟩
    · split
      · exact ⟨_, _, _, _, _, rfl, by omega, by omega, rfl, rfl, (vDg_len V _).1, (vDg_len V _).1, z, z, (vDg_len V _).2, (vDg_len V _).2⟩
      · exact ⟨_, _, _, _, _, rfl, by omega, by omega, rfl, rfl, rfl, rfl, z, z, z, z⟩
  obtain ⟨k, a, b, c, d, e, n⟩ := hq
  exact ⟨by rw [e]; exact n.length, k, a, b, c, d, e, n⟩

theorem nodeS_size {zs : List Int} (h : zs.length = 129) : (Tryd.prog.info? 62).map (·.size) = some (B zs).size := by rw [B_size, h]; kernel_rfl

theorem nodeS_zero : ∀ w, (zeroValue 62).run Tryd.prog w = .ok (.agg (B (nd 0 z32 z32 z32 z32))) w := zero_of_info (n := 129) (by kernel_rfl) |>.1

theorem zagg_node : Value.agg Tryd.zeroCells62 = .agg (B (nd 0 z32 z32 z32 z32)) := by kernel_rfl

set_option maxHeartbeats 4000000 in
theorem node_any {w : World} {v : Value} {mk : Bool} {ct : Int → Nat} {ca : Int → Ce} (V : Vw w v mk ct ca) (h : Int) (hL : Laid w) : Calls Tryd.prog 27 #[v, .int .i64 h] w fun e w' => e = .returned (.agg (B (vNd mk ca h))) ∧ Below w.heap.size w w' := by
  have HA : Hid (∀ w', Below w.heap.size w w' → Calls Tryd.prog 34 #[v, .int .i64 h] w' fun e w'' => e = .returned (.agg (cz (ca h)).toArray) ∧ Below w'.heap.size w' w'') := fun w' hb => V.atv w' h hb
  have HVA : Hid (∀ w', Below w.heap.size w w' → Calls Tryd.prog 23 #[(ca h).val] w' fun e w'' => e = .returned (.agg (B (vaD (ca h).bs))) ∧ Below w'.heap.size w' w'') := fun w' hb => value_any _ _ w' ((V.val h).grow hb) (hL.grow hb) (by have := V.len h; omega)
  have HDG : Hid (∀ w' q, Below w.heap.size w w' → Calls Tryd.prog 21 #[v, .int .i64 q] w' fun e w'' => e = .returned (.agg (B (vDg mk ca q))) ∧ Below w'.heap.size w' w'') := fun w' q hb => digest_any (V.grow hb) q (hL.grow hb)
  have HO := hidden (V.ok h)
  have hlen := (vNd_ok V h).1
  have HLl := hidden (vDg_len V ((ca h).l : Int)).1
  have HLr := hidden (vDg_len V ((ca h).r : Int)).1
  have hvs := (V.ok h).vs
  have hV : vNd mk ca h = if (ca h).kind = 1 then nd 1 (ca h).key (vaD (ca h).bs) z32 z32 else if (ca h).kind = 2 then nd 2 z32 z32 (vDg mk ca ((ca h).l : Int)) (vDg mk ca ((ca h).r : Int)) else nd 0 z32 z32 z32 z32 := rfl
  generalize vNd mk ca h = N at hV hlen ⊢
  obtain ⟨c, hc⟩ : ∃ c, c = ca h := ⟨_, rfl⟩
  rw [← hc] at HA HVA HO HLl HLr hV hvs
  have HNL := hidden hlen
  obtain ⟨sa, sk, hsv⟩ := hvs
  have HSV := hidden hsv
  clear hc hL hlen V
  by_cases h1 : c.kind = 1
  · rw [if_pos h1] at hV
    have HBU : Hid (Tryd.prog.built 62 [(0, .int .u8 1), (1, .agg (B c.key)), (2, .agg (B (vaD c.bs)))] = some (B N)) := by
      show _ = _
      rw [hV]
      exact built_leaf c.key (vaD c.bs) HO.out.hk.1 (dig_length _)
    have HVA2 : Hid (∀ w', Below w.heap.size w w' → Calls Tryd.prog 23 #[.slice sa c.bs.length sk] w' fun e w'' => e = .returned (.agg (B (vaD c.bs))) ∧ Below w'.heap.size w' w'') := by
      rw [← hsv]
      exact HVA
    have HK := hidden h1
    clear hV h1 hsv HVA HDG HLl HLr
    generalize vaD c.bs = VD at HBU HVA2
    go_enter Tryd.func27, Tryd.ntmps27
    go_wp2_with (first
    | ((with_reducible refine at_ald 4 ?_); refine wpList_al _ rfl _ rfl _ nodeS_zero ?_; intro w1 b4 hg4 hl4 B4 b1; have HB4 := hidden B4; have Hg4 := hidden hg4; have Hl4 := hidden hl4; clear B4 hg4 hl4)
    | (go_at_call 34; refine (HA.out _ b1).mono ?_; rintro e w2 ⟨rfl, b2⟩; have HB4a := hidden (HB4.out.grow b2); have Hb2 := hidden (grow_trans b1 b2); clear b2)
    | ((with_reducible refine at_ald 5 ?_); refine wpList_al _ rfl _ rfl _ zero_thC ?_; intro w3 b5 hg5 hl5 B5 b3; have HB4b := hidden (HB4a.out.grow b3); have HB5 := hidden B5; have Hg5 := hidden hg5; have Hb3 := hidden b3; have hne : b4 ≠ b5 := (by have := HB4a.out.lt; omega); clear B5 hg5 hl5 b3)
    | ((with_reducible refine at_st 5 ?_); refine wpList_sto _ rfl _ _ _ rfl b5 _ (cz c).toArray rfl rfl HB5.out (xszC _ (cz_th HO.out)) (xzsC _ (cz_th HO.out)) (all_oneCell_toArray (cz_one HO.out)) ?_; intro w4 B6 r6; have HB4c := hidden (HB4b.out.kept r6 hne); have HB6 := hidden B6; have Hb4 := hidden (below_row (grow_trans Hb2.out Hb3.out) r6 (by have := Hg5.out; have := Hb2.out.size; omega)); have c7 := B6.cell 32; simp only [List.getElem?_toArray] at c7; rw [(cz_at c HO.out).1, HK.out] at c7; clear B6 r6))
    have HBd : Hid (Below w4.heap.size w4 w4.drew) := below_drewN (Below.refl _ _) 1
    have HBL : Hid (∀ w', Below w4.heap.size w4 w' → Below w.heap.size w w') := fun w' hb => grow_trans Hb4.out hb
    have HB4d : Hid (∀ w', Below w4.heap.size w4 w' → Blk w' b4 62 (B (nd 0 z32 z32 z32 z32))) := fun w' hb => HB4c.out.grow hb
    have HKR : Hid (∀ w', Below w4.heap.size w4 w' → w'.rangeAt b5 35 (c.key.map (Value.int .u8))) := fun w' hb => (segK c HO.out).range (HB6.out.grow hb)
    have HVR : Hid (∀ w', Below w4.heap.size w4 w' → w'.cell? ⟨b5, 67, none⟩ = some (.slice sa c.bs.length sk)) := fun w' hb => by
      rw [(HB6.out.grow hb).cell, ← HSV.out]
      simpa using (cz_at c HO.out).2.2.2.1
    clear c7
    refine wp_region_last (S := fun w' => Below w4.heap.size w4 w') 6 (by kernel_rfl) (HBd.out) (fun hHeld => ?_)
    refine wpAnyL_take (i := 0) (v := .pointer (some ⟨b5, 35, none⟩)) rfl (by kernel_rfl) (by kernel_rfl) (by kernel_rfl) (by kernel_rfl) (by kernel_rfl) (fun _ _ _ h => h) (Or.inl ⟨by rfl, fun w hS => by go_simp⟩) hHeld ?_
    simp only [Act.put, List.getElem_toArray, List.getElem_cons_zero, List.setIfInBounds_toArray, List.set_cons_zero, List.set_cons_succ]
    refine wpAnyL_take (i := 1) (v := .agg (B c.key)) rfl (by kernel_rfl) (by kernel_rfl) (by kernel_rfl) (by kernel_rfl) (by kernel_rfl) (fun _ _ _ h => h) (yieldsIf_load_mid rfl 23 (.tmp 13) rfl b5 35 rfl (c.key.map (Value.int .u8)) _ (fun w hS => HKR.out _ hS) Tryd.underlying23 rfl (by rw [List.length_map, HO.out.hk.1]; exact size_path)) hHeld ?_
    simp only [Act.put, List.getElem_toArray, List.getElem_cons_zero, List.getElem_cons_succ, List.setIfInBounds_toArray, List.set_cons_zero, List.set_cons_succ]
    refine wpAnyL_take (i := 2) (v := .pointer (some ⟨b5, 67, none⟩)) rfl (by kernel_rfl) (by kernel_rfl) (by kernel_rfl) (by kernel_rfl) (by kernel_rfl) (fun _ _ _ h => h) (Or.inl ⟨by rfl, fun w hS => by go_simp⟩) hHeld ?_
    simp only [Act.put, List.getElem_toArray, List.getElem_cons_zero, List.getElem_cons_succ, List.setIfInBounds_toArray, List.set_cons_zero, List.set_cons_succ]
    refine wpAnyL_take (i := 3) (v := (.slice sa c.bs.length sk)) rfl (by kernel_rfl) (by kernel_rfl) (by kernel_rfl) (by kernel_rfl) (by kernel_rfl) (fun _ _ _ h => h) (Or.inl ⟨by rfl, fun w hS => by (have q1 := HVR.out _ hS; go_simp)⟩) hHeld ?_
    simp only [Act.put, List.getElem_toArray, List.getElem_cons_zero, List.getElem_cons_succ, List.setIfInBounds_toArray, List.set_cons_zero, List.set_cons_succ]
    refine wpAnyL_one (i := 4) rfl (by kernel_rfl) (fun KQ hK => ?_)
    go_simp
    refine (HVA2.out _ (HBL.out _ hHeld)).mono ?_
    rintro e z1 ⟨rfl, a1⟩
    refine hK.out _ _ (grow_trans hHeld a1) (fun hHeld => ?_)
    clear hK KQ
    refine wpAnyL_take (i := 5) (v := .agg (B N)) rfl (by kernel_rfl) (by kernel_rfl) (by kernel_rfl) (by kernel_rfl) (by kernel_rfl) (fun _ _ _ h => h) (Or.inl ⟨by rfl, fun w hS => exec_blc _ _ 62 _ (by rfl) _ (by rw [List.map_toArray]; exact HBU.out) w⟩) hHeld ?_
    simp only [Act.put, List.getElem_toArray, List.getElem_cons_zero, List.getElem_cons_succ, List.setIfInBounds_toArray, List.set_cons_zero, List.set_cons_succ]
    refine wpAnyL_last rfl (by kernel_rfl) (by kernel_rfl) (fun KQ hK => ?_)
    refine step_sto _ rfl _ _ _ rfl b4 _ (B N) rfl rfl (HB4d.out _ hHeld) (nodeS_size HNL.out) (by rw [B_size, B_size, HNL.out]; rfl) (B_one _) ?_
    intro z4 B9 r9
    refine hK.out _ _ ?_
    clear hK KQ
    go_wp2
    exact bodyPost_ret (v := .agg (B N)) (results_cell_row rfl _ _ b4 _ _ _ _ rfl B9 Tryd.underlying62 rfl (nodeS_size HNL.out)) rfl ⟨rfl, below_row (HBL.out _ hHeld) r9 Hg4.out⟩
  · rw [if_neg h1] at hV
    have n1 : (c.kind == 1) = false := by simp [h1]
    by_cases h2 : c.kind = 2
    · rw [if_pos h2] at hV
      have HBU : Hid (Tryd.prog.built 62 [(0, .int .u8 2), (3, .agg (B (vDg mk ca (c.l : Int)))), (4, .agg (B (vDg mk ca (c.r : Int))))] = some (B N)) := by
        show _ = _
        rw [hV]
        exact built_inner _ _ HLl.out HLr.out
      have HDl : Hid (∀ w', Below w.heap.size w w' → Calls Tryd.prog 21 #[v, .int .i64 (c.l : Int)] w' fun e w'' => e = .returned (.agg (B (vDg mk ca (c.l : Int)))) ∧ Below w'.heap.size w' w'') := fun w' hb => HDG.out w' _ hb
      have HDr : Hid (∀ w', Below w.heap.size w w' → Calls Tryd.prog 21 #[v, .int .i64 (c.r : Int)] w' fun e w'' => e = .returned (.agg (B (vDg mk ca (c.r : Int)))) ∧ Below w'.heap.size w' w'') := fun w' hb => HDG.out w' _ hb
      have HK := hidden h2
      generalize vDg mk ca (c.l : Int) = DL at HBU HDl
      generalize vDg mk ca (c.r : Int) = DR at HBU HDr
      clear hV h1 n1 h2 HVA HDG HLl HLr hsv HSV
      go_enter Tryd.func27, Tryd.ntmps27
      go_wp2_with (first
      | ((with_reducible refine at_ald 4 ?_); refine wpList_al _ rfl _ rfl _ nodeS_zero ?_; intro w1 b4 hg4 hl4 B4 b1; have HB4 := hidden B4; have Hg4 := hidden hg4; have Hl4 := hidden hl4; clear B4 hg4 hl4)
      | (go_at_call 34; refine (HA.out _ b1).mono ?_; rintro e w2 ⟨rfl, b2⟩; have HB4a := hidden (HB4.out.grow b2); have Hb2 := hidden (grow_trans b1 b2); clear b2)
      | ((with_reducible refine at_ald 5 ?_); refine wpList_al _ rfl _ rfl _ zero_thC ?_; intro w3 b5 hg5 hl5 B5 b3; have HB4b := hidden (HB4a.out.grow b3); have HB5 := hidden B5; have Hg5 := hidden hg5; have Hb3 := hidden b3; have hne : b4 ≠ b5 := (by have := HB4a.out.lt; omega); clear B5 hg5 hl5 b3)
      | ((with_reducible refine at_st 5 ?_); refine wpList_sto _ rfl _ _ _ rfl b5 _ (cz c).toArray rfl rfl HB5.out (xszC _ (cz_th HO.out)) (xzsC _ (cz_th HO.out)) (all_oneCell_toArray (cz_one HO.out)) ?_; intro w4 B6 r6; have HB4c := hidden (HB4b.out.kept r6 hne); have HB6 := hidden B6; have Hb4 := hidden (below_row (grow_trans Hb2.out Hb3.out) r6 (by have := Hg5.out; have := Hb2.out.size; omega)); have c7 := B6.cell 32; simp only [List.getElem?_toArray] at c7; rw [(cz_at c HO.out).1, HK.out] at c7; clear B6 r6))
      have HBd : Hid (Below w4.heap.size w4 w4.drew) := below_drewN (Below.refl _ _) 1
      have HBL : Hid (∀ w', Below w4.heap.size w4 w' → Below w.heap.size w w') := fun w' hb => grow_trans Hb4.out hb
      have HB4d : Hid (∀ w', Below w4.heap.size w4 w' → Blk w' b4 62 (B (nd 0 z32 z32 z32 z32))) := fun w' hb => HB4c.out.grow hb
      have HLR : Hid (∀ w', Below w4.heap.size w4 w' → w'.cell? ⟨b5, 69, none⟩ = some (.int .i64 (c.l : Int))) := fun w' hb => by
        rw [(HB6.out.grow hb).cell]
        simpa using (cz_at c HO.out).2.2.2.2.2.1
      have HRR : Hid (∀ w', Below w4.heap.size w4 w' → w'.cell? ⟨b5, 70, none⟩ = some (.int .i64 (c.r : Int))) := fun w' hb => by
        rw [(HB6.out.grow hb).cell]
        simpa using (cz_at c HO.out).2.2.2.2.2.2
      clear c7
      refine wp_region_last (S := fun w' => Below w4.heap.size w4 w') 9 (by kernel_rfl) (HBd.out) (fun hHeld => ?_)
      refine wpAnyL_take (i := 0) (v := v) rfl (by kernel_rfl) (by kernel_rfl) (by kernel_rfl) (by kernel_rfl) (by kernel_rfl) (fun _ _ _ h => h) (Or.inl ⟨by rfl, fun w hS => by go_simp⟩) hHeld ?_
      simp only [Act.put, List.getElem_toArray, List.getElem_cons_zero, List.setIfInBounds_toArray, List.set_cons_zero, List.set_cons_succ]
      refine wpAnyL_take (i := 1) (v := .pointer (some ⟨b5, 69, none⟩)) rfl (by kernel_rfl) (by kernel_rfl) (by kernel_rfl) (by kernel_rfl) (by kernel_rfl) (fun _ _ _ h => h) (Or.inl ⟨by rfl, fun w hS => by go_simp⟩) hHeld ?_
      simp only [Act.put, List.getElem_toArray, List.getElem_cons_zero, List.getElem_cons_succ, List.setIfInBounds_toArray, List.set_cons_zero, List.set_cons_succ]
      refine wpAnyL_take (i := 2) (v := .int .i64 (c.l : Int)) rfl (by kernel_rfl) (by kernel_rfl) (by kernel_rfl) (by kernel_rfl) (by kernel_rfl) (fun _ _ _ h => h) (Or.inl ⟨by rfl, fun w hS => by (have q1 := HLR.out _ hS; go_simp)⟩) hHeld ?_
      simp only [Act.put, List.getElem_toArray, List.getElem_cons_zero, List.getElem_cons_succ, List.setIfInBounds_toArray, List.set_cons_zero, List.set_cons_succ]
      refine wpAnyL_take (i := 4) (v := v) rfl (by kernel_rfl) (by kernel_rfl) (by kernel_rfl) (by kernel_rfl) (by kernel_rfl) (fun _ _ _ h => h) (Or.inl ⟨by rfl, fun w hS => by go_simp⟩) hHeld ?_
      simp only [Act.put, List.getElem_toArray, List.getElem_cons_zero, List.getElem_cons_succ, List.setIfInBounds_toArray, List.set_cons_zero, List.set_cons_succ]
      refine wpAnyL_take (i := 5) (v := .pointer (some ⟨b5, 70, none⟩)) rfl (by kernel_rfl) (by kernel_rfl) (by kernel_rfl) (by kernel_rfl) (by kernel_rfl) (fun _ _ _ h => h) (Or.inl ⟨by rfl, fun w hS => by go_simp⟩) hHeld ?_
      simp only [Act.put, List.getElem_toArray, List.getElem_cons_zero, List.getElem_cons_succ, List.setIfInBounds_toArray, List.set_cons_zero, List.set_cons_succ]
      refine wpAnyL_take (i := 6) (v := .int .i64 (c.r : Int)) rfl (by kernel_rfl) (by kernel_rfl) (by kernel_rfl) (by kernel_rfl) (by kernel_rfl) (fun _ _ _ h => h) (Or.inl ⟨by rfl, fun w hS => by (have q1 := HRR.out _ hS; go_simp)⟩) hHeld ?_
      simp only [Act.put, List.getElem_toArray, List.getElem_cons_zero, List.getElem_cons_succ, List.setIfInBounds_toArray, List.set_cons_zero, List.set_cons_succ]
      refine wpAnyL_one (i := 3) rfl (by kernel_rfl) (fun KQ hK => ?_)
      go_simp
      refine (HDl.out _ (HBL.out _ hHeld)).mono ?_
      rintro e z1 ⟨rfl, a1⟩
      refine hK.out _ _ (grow_trans hHeld a1) (fun hHeld => ?_)
      clear hK KQ
      refine wpAnyL_one (i := 7) rfl (by kernel_rfl) (fun KQ hK => ?_)
      go_simp
      refine (HDr.out _ (HBL.out _ hHeld)).mono ?_
      rintro e z2 ⟨rfl, a2⟩
      refine hK.out _ _ (grow_trans hHeld a2) (fun hHeld => ?_)
      clear hK KQ
      refine wpAnyL_take (i := 8) (v := .agg (B N)) rfl (by kernel_rfl) (by kernel_rfl) (by kernel_rfl) (by kernel_rfl) (by kernel_rfl) (fun _ _ _ h => h) (Or.inl ⟨by rfl, fun w hS => exec_blc _ _ 62 _ (by rfl) _ (by rw [List.map_toArray]; exact HBU.out) w⟩) hHeld ?_
      simp only [Act.put, List.getElem_toArray, List.getElem_cons_zero, List.getElem_cons_succ, List.setIfInBounds_toArray, List.set_cons_zero, List.set_cons_succ]
      refine wpAnyL_last rfl (by kernel_rfl) (by kernel_rfl) (fun KQ hK => ?_)
      refine step_sto _ rfl _ _ _ rfl b4 _ (B N) rfl rfl (HB4d.out _ hHeld) (nodeS_size HNL.out) (by rw [B_size, B_size, HNL.out]; rfl) (B_one _) ?_
      intro z4 B9 r9
      refine hK.out _ _ ?_
      clear hK KQ
      go_wp2
      exact bodyPost_ret (v := .agg (B N)) (results_cell_row rfl _ _ b4 _ _ _ _ rfl B9 Tryd.underlying62 rfl (nodeS_size HNL.out)) rfl ⟨rfl, below_row (HBL.out _ hHeld) r9 Hg4.out⟩
    · rw [if_neg h2] at hV
      have n2 : (c.kind == 2) = false := by simp [h2]
      have HVN := hidden hV
      obtain ⟨k, hk⟩ : ∃ k, k = c.kind := ⟨_, rfl⟩
      have HK := hidden hk
      rw [← hk] at n1 n2
      clear hV h1 h2 HVA HDG HLl HLr hsv HSV hk
      go_enter Tryd.func27, Tryd.ntmps27
      go_wp2_with (first
      | ((with_reducible refine at_ald 4 ?_); refine wpList_al _ rfl _ rfl _ nodeS_zero ?_; intro w1 b4 hg4 hl4 B4 b1; have HB4 := hidden B4; have Hg4 := hidden hg4; have Hl4 := hidden hl4; clear B4 hg4 hl4)
      | (go_at_call 34; refine (HA.out _ b1).mono ?_; rintro e w2 ⟨rfl, b2⟩; have HB4a := hidden (HB4.out.grow b2); have Hb2 := hidden (grow_trans b1 b2); clear b2)
      | ((with_reducible refine at_ald 5 ?_); refine wpList_al _ rfl _ rfl _ zero_thC ?_; intro w3 b5 hg5 hl5 B5 b3; have HB4b := hidden (HB4a.out.grow b3); have HB5 := hidden B5; have Hg5 := hidden hg5; have Hb3 := hidden b3; have hne : b4 ≠ b5 := (by have := HB4a.out.lt; omega); clear B5 hg5 hl5 b3)
      | ((with_reducible refine at_st 5 ?_); refine wpList_sto _ rfl _ _ _ rfl b5 _ (cz c).toArray rfl rfl HB5.out (xszC _ (cz_th HO.out)) (xzsC _ (cz_th HO.out)) (all_oneCell_toArray (cz_one HO.out)) ?_; intro w4 B6 r6; have HB4c := hidden (HB4b.out.kept r6 hne); have HB6 := hidden B6; have Hb4 := hidden (below_row (grow_trans Hb2.out Hb3.out) r6 (by have := Hg5.out; have := Hb2.out.size; omega)); have c7 := B6.cell 32; simp only [List.getElem?_toArray] at c7; rw [(cz_at c HO.out).1, ← HK.out] at c7; clear B6 r6)
      | ((with_reducible refine at_st 4 ?_); refine wpList_sto _ rfl _ _ _ rfl b4 _ (B N) rfl (by rw [HVN.out]; exact zagg_node) HB4c.out (nodeS_size HNL.out) (by rw [B_size, B_size, HNL.out]; rfl) (B_one _) ?_; intro z4 B9 r9))
      exact bodyPost_ret (v := .agg (B N)) (results_cell_row rfl _ _ b4 _ _ _ _ rfl B9 Tryd.underlying62 rfl (nodeS_size HNL.out)) rfl ⟨rfl, below_row Hb4.out r9 Hg4.out⟩

end Go.Proofs.YtjikgagaalbaeaaDoor

/- StoreKnown's walk: the document's examples, call by call. -/
namespace Go.Proofs.YtjikgagaalbaeaaDoor
set_option maxRecDepth 20000
open Go.RowKit

/-- The leaf of a key and of no bytes. -/
def lf0 (K : List Int) (x : Value) : Ce := lfC (lfD K (vaD [])) K x []
/-- The states that the examples lead through. -/
def kC2 (A B : Ce) : List (Nat × Ce) := [(1, A), (1, B)]
def kC3 (A B C : Ce) : List (Nat × Ce) := upA (upA (tkC (kC2 A B) [] (1, C)) 1) 2
def kC4 (A B C : Ce) : List (Nat × Ce) := moreC (kC3 A B C) 0
def kC5 (A : Ce) : List (Nat × Ce) := [(1, A), (0, zc), (0, zc)]
def kC6 (A X : Ce) : List (Nat × Ce) := tkC (kC5 A) [3, 2] (1, X)
def kC7 (A X Y : Ce) : List (Nat × Ce) := upA (upA (tkC (kC6 A X) [3] (1, Y)) 1) 2

theorem kn_run (K0 K1 : List Int) (x y : Value) (D K : List Int) : Run (kC4 (lf0 K0 x) (lf0 K1 y) (inC D K 2 0 1 2)) [] [3] (kC5 (lf0 K0 x)) [3, 2] 2 :=
  Run.free (i := 2) rfl (Run.keep (i := 0) Nat.one_lt_two (Run.free (i := 1) rfl (Run.done _ _)))

theorem kyB_zero : kyB 0 = List.replicate 32 0 := rfl
theorem fill_zero {xs K : List Int} (h : IsFill xs 0 0 K) : K = kyB 0 := IsFill.one h ⟨kyB_key 0 (by omega) (by omega), fun j hj => by
  rw [if_neg (by omega), kyB_zero]
  unfold kb bt
  have e : (List.replicate 32 (0 : Int)).getD (j / 8) 0 = 0 := by
    rw [List.getD_eq_getElem?_getD, List.getElem?_replicate]
    split <;> rfl
  rw [e]
  simp⟩

/-- make([]byte, n, n) in a region that draws its order. -/
theorem step_mkb {ops : Array Oper} {o : Oper} {a : Act} {K : Act → World → Prop} {Q : Exit → Act → World → Prop} {E : Prop} (w : World) (hgd : o.guard = none) (x y : Operand)
    (hop : o.op = Op.makeSlice 24 x y) (kl kc : IntKind) (l c : Nat) (hx : a.eval x = .int kl (l : Int)) (hy : a.eval y = .int kc (c : Int)) (hlc : l ≤ c) (hc : c ≤ 281474976710656)
    (h : ∀ w', Row w' w.heap.size (List.replicate c 0) → Below w.heap.size w w' → K (a.put o.dst (.slice (some ⟨w.heap.size, 0, none⟩) l c)) w') : if Region.wanted o (yielded ops a.tmps) = true then Oper.wp Tryd.prog o a w K Q else E := by
  have hw : Region.wanted o (yielded ops a.tmps) = true := by simp [Region.wanted, hgd]
  rw [if_pos hw]
  obtain ⟨i, hi, hz, hs, hby⟩ := info_parts info_byte
  have hr := run_make (P := Tryd.prog) w 24 5 i _ u_bytes hi hz kl kc l c (by omega) (by omega) (by rw [hby]; omega) (by omega)
  rw [hs, Nat.mul_one, made_bytes] at hr
  simp only [Int.toNat_natCast] at hr
  unfold Oper.wp
  simp [execOp, hop, hx, hy, hr, Result.andThen]
  exact h _ (heap_alloc_new w _) (grow_alloc w _)

/-- What the examples' keys are. -/
structure KnK (K0 K1 K2 K3 : List Int) : Prop where
  k0 : Key K0
  k1 : Key K1
  k2 : Key K2
  k3 : Key K3
  a0 : kb K0 0 = 0
  a1 : kb K0 1 = 0
  b0 : kb K1 0 = 1
  c0 : kb K2 0 = 0
  c1 : kb K2 1 = 1
  z : ∀ xs K, IsFill xs 0 0 K → K = K0

theorem knk : KnK (kyB 0) (kyB 128) (kyB 64) (kyB 1) := ⟨kyB_key 0 (by omega) (by omega), kyB_key 128 (by omega) (by omega), kyB_key 64 (by omega) (by omega), kyB_key 1 (by omega) (by omega), by decide, by decide, by decide, by decide, by decide, fun _ _ h => fill_zero h⟩

theorem kn_fit3 {K0 K1 K2 K3 : List Int} (k : KnK K0 K1 K2 K3) (x y : Value) : fitP 0 (sdC (kC2 (lf0 K0 x) (lf0 K1 y)) 1) (sdC (kC2 (lf0 K0 x) (lf0 K1 y)) 2) true = true := by
  show (decide (2 ≤ 1 + 1) && (fsP (lf0 K0 x) 0 0 && (fsP (lf0 K1 y) 0 1 && (decide ((1 : Int) = 0) || (decide ((1 : Int) = 0) || true))))) = true
  have f0 : fsP (lf0 K0 x) 0 0 = true := by simp [fsP, lf0, lfC, k.a0]
  have f1 : fsP (lf0 K1 y) 0 1 = true := by simp [fsP, lf0, lfC, k.b0]
  rw [f0, f1]
  rfl

theorem kn_fit7 {K0 K1 K2 K3 : List Int} (k : KnK K0 K1 K2 K3) (x z : Value) : fitP 1 (sdC (kC6 (lf0 K0 x) (lf0 K2 z)) 1) (sdC (kC6 (lf0 K0 x) (lf0 K2 z)) 2) true = true := by
  show (decide (2 ≤ 1 + 1) && (fsP (lf0 K0 x) 1 0 && (fsP (lf0 K2 z) 1 1 && (decide ((1 : Int) = 0) || (decide ((1 : Int) = 0) || true))))) = true
  have f0 : fsP (lf0 K0 x) 1 0 = true := by simp [fsP, lf0, lfC, k.a1]
  have f1 : fsP (lf0 K2 z) 1 1 = true := by simp [fsP, lf0, lfC, k.c1]
  rw [f0, f1]
  rfl

theorem kn_unfit6 {K0 K1 K2 K3 : List Int} (k : KnK K0 K1 K2 K3) (x z : Value) : fitP 0 (sdC (kC6 (lf0 K0 x) (lf0 K2 z)) 1) (sdC (kC6 (lf0 K0 x) (lf0 K2 z)) 2) true = false := by
  show (decide (2 ≤ 1 + 1) && (fsP (lf0 K0 x) 0 0 && (fsP (lf0 K2 z) 0 1 && (decide ((1 : Int) = 0) || (decide ((1 : Int) = 0) || true))))) = false
  have f1 : fsP (lf0 K2 z) 0 1 = false := by simp [fsP, lf0, lfC, k.c0]
  rw [f1]
  simp

theorem und1 {xs ys : List Int} (h : kb xs 0 = kb ys 0) : Und xs ys ((1 : Nat) : Int) := ⟨by omega, by omega, fun j hj => by
  have e : j = 0 := by omega
  rw [e]
  exact h⟩

set_option maxHeartbeats 8000000 in
theorem storeKnown_walk (w : World) (hL : Laid w) : Calls Tryd.prog 5 #[] w fun e w' => e = .returned (.bool true) ∧ Below w.heap.size w w' := by
  have hk := knk
  have HN := hidden (hw_new 4 w w (Below.refl _ _) (by omega) (by omega))
  have HK0 : Hid (∀ w', Calls Tryd.prog 17 #[.int .u8 0] w' fun e w'' => e = .returned (.agg (B (kyB 0))) ∧ Below w'.heap.size w' w'') := fun w' => lawkey_any 0 w'
  have HK1 : Hid (∀ w', Calls Tryd.prog 17 #[.int .u8 128] w' fun e w'' => e = .returned (.agg (B (kyB 128))) ∧ Below w'.heap.size w' w'') := fun w' => lawkey_any 128 w'
  have HK2 : Hid (∀ w', Calls Tryd.prog 17 #[.int .u8 64] w' fun e w'' => e = .returned (.agg (B (kyB 64))) ∧ Below w'.heap.size w' w'') := fun w' => lawkey_any 64 w'
  have HK3 : Hid (∀ w', Calls Tryd.prog 17 #[.int .u8 1] w' fun e w'' => e = .returned (.agg (B (kyB 1))) ∧ Below w'.heap.size w' w'') := fun w' => lawkey_any 1 w'
  generalize kyB 0 = K0 at hk HK0
  generalize kyB 128 = K1 at hk HK1
  generalize kyB 64 = K2 at hk HK2
  generalize kyB 1 = K3 at hk HK3
  obtain ⟨ZZ, hZZ⟩ : ∃ ZZ, ZZ = List.replicate 1025 (0 : Int) := ⟨_, rfl⟩
  have HZZ := hidden hZZ
  have HRD : Hid (∀ w' b, Row w' b (List.replicate 1025 0) → Reads w' (.slice (some ⟨b, 0, none⟩) 1025 1025) ZZ) := fun w' b R => by
    rw [hZZ]
    have := (Own.mk (base := 0) (sp := []) (Bytes.zeros 1025) Bytes.nil (by rw [List.length_replicate, List.length_nil]; simp only [maxLen]; omega) (Nat.zero_le _) (by rw [List.append_nil]; exact R)).reads
    rwa [List.length_replicate, List.length_nil] at this
  have H1 : Hid (∀ w' g gs, Hw w w' g gs 4 [] [] → Calls Tryd.prog 16 #[.pointer (some ⟨g, 0, none⟩), .agg (B K0), .slice none 0 0] w' fun e w'' => ∃ x, e = .returned (.tuple #[.int .i64 1, .int .i64 0]) ∧ Hw w w'' g gs 4 [(1, lf0 K0 x)] []) := fun w' g gs h => hw_leaf h K0 _ [] (Reads.nil _) hk.k0 (hL.grow h.low) (by simp) (fun f => by have := f.2; simp at this)
  have H2 : Hid (∀ w' g gs x, Hw w w' g gs 4 [(1, lf0 K0 x)] [] → Calls Tryd.prog 16 #[.pointer (some ⟨g, 0, none⟩), .agg (B K1), .slice none 0 0] w' fun e w'' => ∃ y, e = .returned (.tuple #[.int .i64 2, .int .i64 0]) ∧ Hw w w'' g gs 4 (kC2 (lf0 K0 x) (lf0 K1 y)) []) := fun w' g gs x h => hw_leaf h K1 _ [] (Reads.nil _) hk.k1 (hL.grow h.low) (by simp) (fun f => by have := f.2; simp at this)
  have H3 : Hid (∀ w' g gs x y, Hw w w' g gs 4 (kC2 (lf0 K0 x) (lf0 K1 y)) [] → Calls Tryd.prog 18 #[.pointer (some ⟨g, 0, none⟩), .int .i64 0, .int .i64 1, .int .i64 2] w' fun e w'' => ∃ D, e = .returned (.tuple #[.int .i64 3, .int .i64 0]) ∧ Hw w w'' g gs 4 (kC3 (lf0 K0 x) (lf0 K1 y) (inC D K0 2 0 1 2)) []) := by
    intro w' g gs x y h
    refine (hw_inner h 0 1 2 (by omega) (.inr Nat.zero_lt_one) (.inr Nat.zero_lt_one) true ⟨fun _ => und0 _ _, fun _ => rfl⟩ (kn_fit3 hk x y) (hL.grow h.low) (fun f => by have := f.2; simp [kC2] at this)).mono ?_
    rintro e w'' ⟨K, hK, rfl, hh⟩
    have := hk.z _ _ hK
    subst this
    exact ⟨_, rfl, hh⟩
  have H4 : Hid (∀ w' g gs x y D, Hw w w' g gs 4 (kC3 (lf0 K0 x) (lf0 K1 y) (inC D K0 2 0 1 2)) [] → Calls Tryd.prog 18 #[.pointer (some ⟨g, 0, none⟩), .int .i64 0, .int .i64 1, .int .i64 0] w' fun e w'' => e = .returned (.tuple #[.int .i64 0, .int .i64 7]) ∧ Hw w w'' g gs 4 (kC3 (lf0 K0 x) (lf0 K1 y) (inC D K0 2 0 1 2)) []) := fun w' g gs x y D h => hw_inner_miss h 0 1 0 (by omega) (fun m => m.1.elim (fun q => absurd q (by decide)) (fun q => absurd q (Nat.lt_irrefl 1)))
  have H5 : Hid (∀ w' g gs x y D, Hw w w' g gs 4 (kC3 (lf0 K0 x) (lf0 K1 y) (inC D K0 2 0 1 2)) [] → Calls Tryd.prog 19 #[.pointer (some ⟨g, 0, none⟩), .int .i64 1] w' fun e w'' => e = .returned (.int .i64 0) ∧ Hw w w'' g gs 4 (kC4 (lf0 K0 x) (lf0 K1 y) (inC D K0 2 0 1 2)) []) := fun w' g gs x y D h => hw_hold h 0 Nat.zero_lt_one (show 1 < 1073741824 by decide)
  have H6 : Hid (∀ w' g gs x y D, Hw w w' g gs 4 (kC4 (lf0 K0 x) (lf0 K1 y) (inC D K0 2 0 1 2)) [] → Calls Tryd.prog 18 #[.pointer (some ⟨g, 0, none⟩), .int .i64 0, .int .i64 1, .int .i64 0] w' fun e w'' => e = .returned (.tuple #[.int .i64 0, .int .i64 2]) ∧ Hw w w'' g gs 4 (kC4 (lf0 K0 x) (lf0 K1 y) (inC D K0 2 0 1 2)) []) := fun w' g gs x y D h => hw_inner_unfit h 0 1 0 (by omega) (.inr Nat.one_lt_two) (.inl rfl) true ⟨fun _ => und0 _ _, fun _ => rfl⟩ rfl
  have H7 : Hid (∀ w' g gs x y D, Hw w w' g gs 4 (kC4 (lf0 K0 x) (lf0 K1 y) (inC D K0 2 0 1 2)) [] → Calls Tryd.prog 18 #[.pointer (some ⟨g, 0, none⟩), .int .i64 0, .int .i64 0, .int .i64 1] w' fun e w'' => e = .returned (.tuple #[.int .i64 0, .int .i64 2]) ∧ Hw w w'' g gs 4 (kC4 (lf0 K0 x) (lf0 K1 y) (inC D K0 2 0 1 2)) []) := fun w' g gs x y D h => hw_inner_unfit h 0 0 1 (by omega) (.inl rfl) (.inr Nat.one_lt_two) true ⟨fun _ => und0 _ _, fun _ => rfl⟩ rfl
  have H8 : Hid (∀ w' g gs x y D, Hw w w' g gs 4 (kC4 (lf0 K0 x) (lf0 K1 y) (inC D K0 2 0 1 2)) [] → Calls Tryd.prog 18 #[.pointer (some ⟨g, 0, none⟩), .int .i64 1, .int .i64 1, .int .i64 2] w' fun e w'' => e = .returned (.tuple #[.int .i64 0, .int .i64 7]) ∧ Hw w w'' g gs 4 (kC4 (lf0 K0 x) (lf0 K1 y) (inC D K0 2 0 1 2)) []) := fun w' g gs x y D h => hw_inner_miss h 1 1 2 (by omega) (fun m => m.2.elim (fun q => absurd q (by decide)) (fun q => absurd q (Nat.lt_irrefl 1)))
  have H9 : Hid (∀ w' g gs x y D, Hw w w' g gs 4 (kC4 (lf0 K0 x) (lf0 K1 y) (inC D K0 2 0 1 2)) [] → Calls Tryd.prog 20 #[.pointer (some ⟨g, 0, none⟩), .int .i64 3] w' fun e w'' => e = .returned (.agg (B K0)) ∧ Hw w w'' g gs 4 (kC4 (lf0 K0 x) (lf0 K1 y) (inC D K0 2 0 1 2)) []) := fun w' g gs x y D h => (key_any h.vw 3).mono fun e w'' ⟨e1, b⟩ => ⟨e1, h.grow b⟩
  have H10 : Hid (∀ w' g gs x y D, Hw w w' g gs 4 (kC4 (lf0 K0 x) (lf0 K1 y) (inC D K0 2 0 1 2)) [] → Calls Tryd.prog 14 #[.pointer (some ⟨g, 0, none⟩), .int .i64 3] w' fun e w'' => e = .returned (.tuple #[.int .i64 2, .int .i64 0]) ∧ Hw w w'' g gs 4 (kC5 (lf0 K0 x)) [3, 2]) := by
    intro w' g gs x y D h
    refine (hw_drop h 2 Nat.zero_lt_one).mono ?_
    rintro e w'' ⟨cs', fr', n, hr, _, rfl, hh⟩
    obtain ⟨rfl, rfl, rfl⟩ := hr.det (kn_run K0 K1 x y D K0)
    exact ⟨rfl, hh⟩
  have H11 : Hid (∀ w' g gs x, Hw w w' g gs 4 (kC5 (lf0 K0 x)) [3, 2] → Calls Tryd.prog 15 #[.pointer (some ⟨g, 0, none⟩)] w' fun e w'' => e = .returned (.int .i64 1) ∧ Hw w w'' g gs 4 (kC5 (lf0 K0 x)) [3, 2]) := fun w' g gs x h => (hw_occ h).mono fun e w'' ⟨e1, b⟩ => ⟨e1, h.grow b⟩
  have H12 : Hid (∀ w' g gs x, Hw w w' g gs 4 (kC5 (lf0 K0 x)) [3, 2] → Calls Tryd.prog 21 #[.pointer (some ⟨g, 0, none⟩), .int .i64 1] w' fun e w'' => e = .returned (.agg (B (lfD K0 (vaD [])))) ∧ Hw w w'' g gs 4 (kC5 (lf0 K0 x)) [3, 2]) := fun w' g gs x h => (digest_any h.vw 1 (hL.grow h.low)).mono fun e w'' ⟨e1, b⟩ => ⟨e1, h.grow b⟩
  have H13 : Hid (∀ w' g gs x, Hw w w' g gs 4 (kC5 (lf0 K0 x)) [3, 2] → Calls Tryd.prog 23 #[.slice none 0 0] w' fun e w'' => e = .returned (.agg (B (vaD []))) ∧ Hw w w'' g gs 4 (kC5 (lf0 K0 x)) [3, 2]) := fun w' g gs x h => (value_any _ [] w' (Reads.nil _) (hL.grow h.low) (by simp)).mono fun e w'' ⟨e1, b⟩ => ⟨e1, h.grow b⟩
  have H14 : Hid (∀ w' g gs x, Hw w w' g gs 4 (kC5 (lf0 K0 x)) [3, 2] → Calls Tryd.prog 22 #[.agg (B K0), .agg (B (vaD []))] w' fun e w'' => e = .returned (.agg (B (lfD K0 (vaD [])))) ∧ Hw w w'' g gs 4 (kC5 (lf0 K0 x)) [3, 2]) := fun w' g gs x h => (leaf_any K0 (vaD []) w' hk.k0.1 (dig_length _) hk.k0.2 (dig_bytes _) (hL.grow h.low)).mono fun e w'' ⟨e1, b⟩ => ⟨e1, h.grow b⟩
  have H15 : Hid (∀ w' g gs x, Hw w w' g gs 4 (kC5 (lf0 K0 x)) [3, 2] → Calls Tryd.prog 16 #[.pointer (some ⟨g, 0, none⟩), .agg (B K2), .slice none 0 0] w' fun e w'' => ∃ z, e = .returned (.tuple #[.int .i64 2, .int .i64 0]) ∧ Hw w w'' g gs 4 (kC6 (lf0 K0 x) (lf0 K2 z)) [3]) := fun w' g gs x h => hw_leaf h K2 _ [] (Reads.nil _) hk.k2 (hL.grow h.low) (by simp) (fun f => by have := f.1; simp at this)
  have H16 : Hid (∀ w' g gs x z, Hw w w' g gs 4 (kC6 (lf0 K0 x) (lf0 K2 z)) [3] → Calls Tryd.prog 18 #[.pointer (some ⟨g, 0, none⟩), .int .i64 0, .int .i64 1, .int .i64 2] w' fun e w'' => e = .returned (.tuple #[.int .i64 0, .int .i64 2]) ∧ Hw w w'' g gs 4 (kC6 (lf0 K0 x) (lf0 K2 z)) [3]) := fun w' g gs x z h => hw_inner_unfit h 0 1 2 (by omega) (.inr Nat.zero_lt_one) (.inr Nat.zero_lt_one) true ⟨fun _ => und0 _ _, fun _ => rfl⟩ (kn_unfit6 hk x z)
  have H17 : Hid (∀ w' g gs x z, Hw w w' g gs 4 (kC6 (lf0 K0 x) (lf0 K2 z)) [3] → Calls Tryd.prog 18 #[.pointer (some ⟨g, 0, none⟩), .int .i64 1, .int .i64 1, .int .i64 2] w' fun e w'' => ∃ D K, e = .returned (.tuple #[.int .i64 3, .int .i64 0]) ∧ Hw w w'' g gs 4 (kC7 (lf0 K0 x) (lf0 K2 z) (inC D K 2 1 1 2)) []) := by
    intro w' g gs x z h
    refine (hw_inner h 1 1 2 (by omega) (.inr Nat.zero_lt_one) (.inr Nat.zero_lt_one) true ⟨fun _ => und1 (show kb K0 0 = kb K2 0 by rw [hk.a0, hk.c0]), fun _ => rfl⟩ (kn_fit7 hk x z) (hL.grow h.low) (fun f => by have := f.1; simp at this)).mono ?_
    rintro e w'' ⟨K, hK, rfl, hh⟩
    exact ⟨_, _, rfl, hh⟩
  have H18 : Hid (∀ w' g gs x z D K, Hw w w' g gs 4 (kC7 (lf0 K0 x) (lf0 K2 z) (inC D K 2 1 1 2)) [] → Calls Tryd.prog 8 #[.int .i64 0] w' fun e w'' => e = .returned (.tuple #[.pointer none, .int .i64 2]) ∧ w'' = w') := fun w' g gs x z D K h => newS_bad 0 w' (by omega)
  have H19 : Hid (∀ w' g gs x z D K, Hw w w' g gs 4 (kC7 (lf0 K0 x) (lf0 K2 z) (inC D K 2 1 1 2)) [] → Calls Tryd.prog 8 #[.int .i64 65537] w' fun e w'' => e = .returned (.tuple #[.pointer none, .int .i64 2]) ∧ w'' = w') := fun w' g gs x z D K h => newS_bad 65537 w' (by omega)
  have H20 : Hid (∀ w' g gs x z D K v, Hw w w' g gs 4 (kC7 (lf0 K0 x) (lf0 K2 z) (inC D K 2 1 1 2)) [] → Reads w' v ZZ → Calls Tryd.prog 16 #[.pointer (some ⟨g, 0, none⟩), .agg (B K3), v] w' fun e w'' => e = .returned (.tuple #[.int .i64 0, .int .i64 4]) ∧ Hw w w'' g gs 4 (kC7 (lf0 K0 x) (lf0 K2 z) (inC D K 2 1 1 2)) []) := fun w' g gs x z D K v h hv => hw_leaf_long h K3 v _ hv hk.k3 (by rw [hZZ, List.length_replicate]; omega) (by rw [hZZ, List.length_replicate]; omega)
  have HA : Hid (∀ w' g gs x z D K, Hw w w' g gs 4 (kC7 (lf0 K0 x) (lf0 K2 z) (inC D K 2 1 1 2)) [] → Calls Tryd.prog 7 #[] w' fun e w'' => e = .returned (.bool true) ∧ Hw w w'' g gs 4 (kC7 (lf0 K0 x) (lf0 K2 z) (inC D K 2 1 1 2)) []) := fun w' g gs x z D K h => (awake_any w' (hL.grow h.low)).mono fun e w'' ⟨e1, b⟩ => ⟨e1, h.grow b⟩
  have H21 : Hid (∀ w' g gs x z D K, Hw w w' g gs 4 (kC7 (lf0 K0 x) (lf0 K2 z) (inC D K 2 1 1 2)) [] → Calls Tryd.prog 24 #[.pointer (some ⟨g, 0, none⟩), .int .i64 3] w' fun e w'' => e = .returned (.int .i64 2) ∧ Hw w w'' g gs 4 (kC7 (lf0 K0 x) (lf0 K2 z) (inC D K 2 1 1 2)) []) := fun w' g gs x z D K h => (root_any h.vw 3).mono fun e w'' ⟨e1, b⟩ => ⟨e1, h.grow b⟩
  have H22 : Hid (∀ w' g gs x z D K, Hw w w' g gs 4 (kC7 (lf0 K0 x) (lf0 K2 z) (inC D K 2 1 1 2)) [] → Calls Tryd.prog 24 #[.pointer (some ⟨g, 0, none⟩), .int .i64 0] w' fun e w'' => e = .returned (.int .i64 0) ∧ Hw w w'' g gs 4 (kC7 (lf0 K0 x) (lf0 K2 z) (inC D K 2 1 1 2)) []) := fun w' g gs x z D K h => (root_any h.vw 0).mono fun e w'' ⟨e1, b⟩ => ⟨e1, h.grow b⟩
  have H23 : Hid (∀ w' g gs x z D K, Hw w w' g gs 4 (kC7 (lf0 K0 x) (lf0 K2 z) (inC D K 2 1 1 2)) [] → Calls Tryd.prog 24 #[.pointer (some ⟨g, 0, none⟩), .int .i64 1] w' fun e w'' => e = .returned (.int .i64 0) ∧ Hw w w'' g gs 4 (kC7 (lf0 K0 x) (lf0 K2 z) (inC D K 2 1 1 2)) []) := fun w' g gs x z D K h => (root_any h.vw 1).mono fun e w'' ⟨e1, b⟩ => ⟨e1, h.grow b⟩
  have H24 : Hid (∀ w' g gs x z D K, Hw w w' g gs 4 (kC7 (lf0 K0 x) (lf0 K2 z) (inC D K 2 1 1 2)) [] → Calls Tryd.prog 24 #[.pointer (some ⟨g, 0, none⟩), .int .i64 9] w' fun e w'' => e = .returned (.int .i64 7) ∧ Hw w w'' g gs 4 (kC7 (lf0 K0 x) (lf0 K2 z) (inC D K 2 1 1 2)) []) := fun w' g gs x z D K h => (root_any h.vw 9).mono fun e w'' ⟨e1, b⟩ => ⟨e1, h.grow b⟩
  have hE0 := path_eq K0 K0 hk.k0.1 hk.k0.1
  have hE1 := hash_eq (lfD K0 (vaD [])) (lfD K0 (vaD [])) (dig_length _) (dig_length _)
  simp only [decide_true] at hE0 hE1
  generalize lfD K0 (vaD []) = DL at H12 H14 hE1
  generalize vaD [] = VD at H13 H14
  clear hL hk hZZ
  go_enter Tryd.func5, Tryd.ntmps5
  go_wp2_with (first
    | (go_at_call 8; have mk := mk_storeNew_2; clear mk; refine (H19.out _ _ _ _ _ _ _ S23.out).mono ?_; rintro e w' ⟨rfl, hx⟩; rw [hx]; clear hx w'; have mk_storeNew_3 : Hid True := trivial)
    | (go_at_call 8; have mk := mk_storeNew_1; clear mk; refine (H18.out _ _ _ _ _ _ _ S23.out).mono ?_; rintro e w' ⟨rfl, hx⟩; rw [hx]; clear hx w'; have mk_storeNew_2 : Hid True := trivial)
    | (go_at_call 18; have mk := mk_storeStoreInner_6; clear mk; refine (H17.out _ _ _ _ _ S22.out).mono ?_; rintro e w23 ⟨D2, K9, rfl, h⟩; have S23 := hidden h; clear h; have mk_storeStoreInner_7 : Hid True := trivial)
    | (go_at_call 18; have mk := mk_storeStoreInner_5; clear mk; refine (H16.out _ _ _ _ _ S21.out).mono ?_; rintro e w22 ⟨rfl, h⟩; have S22 := hidden h; clear h; have mk_storeStoreInner_6 : Hid True := trivial)
    | (go_at_call 16; have mk := mk_storeStoreLeaf_2; clear mk; refine (H15.out _ _ _ _ S20.out).mono ?_; rintro e w21 ⟨z, rfl, h⟩; have S21 := hidden h; clear h; have mk_storeStoreLeaf_3 : Hid True := trivial)
    | (go_at_call 17; have mk := mk_rootcellarlaw07key_4; clear mk; refine (HK2.out _).mono ?_; rintro e w20 ⟨rfl, b⟩; have S20 := hidden (S19.out.grow b); clear b; have mk_rootcellarlaw07key_5 : Hid True := trivial)
    | (go_at_call 22; refine (H14.out _ _ _ _ S18.out).mono ?_; rintro e w19 ⟨rfl, h⟩; have S19 := hidden h; clear h; have mk_tagLeaf_1 : Hid True := trivial)
    | (go_at_call 23; refine (H13.out _ _ _ _ S17.out).mono ?_; rintro e w18 ⟨rfl, h⟩; have S18 := hidden h; clear h; have mk_tagValue_1 : Hid True := trivial)
    | (go_at_call 17; have mk := mk_rootcellarlaw07key_3; clear mk; refine (HK0.out _).mono ?_; rintro e w17 ⟨rfl, b⟩; have S17 := hidden (S16.out.grow b); clear b; have mk_rootcellarlaw07key_4 : Hid True := trivial)
    | (go_at_call 21; refine (H12.out _ _ _ _ S15.out).mono ?_; rintro e w16 ⟨rfl, h⟩; have S16 := hidden h; clear h; have mk_storeStoreDigest_1 : Hid True := trivial)
    | (go_at_call 15; refine (H11.out _ _ _ _ S14.out).mono ?_; rintro e w15 ⟨rfl, h⟩; have S15 := hidden h; clear h; have mk_storeStoreOccupied_1 : Hid True := trivial)
    | (go_at_call 14; refine (H10.out _ _ _ _ _ _ S13.out).mono ?_; rintro e w14 ⟨rfl, h⟩; have S14 := hidden h; clear h; have mk_storeStoreDrop_1 : Hid True := trivial)
    | (go_at_call 17; have mk := mk_rootcellarlaw07key_2; clear mk; refine (HK0.out _).mono ?_; rintro e w13 ⟨rfl, b⟩; have S13 := hidden (S12.out.grow b); clear b; have mk_rootcellarlaw07key_3 : Hid True := trivial)
    | (go_at_call 20; refine (H9.out _ _ _ _ _ _ S11.out).mono ?_; rintro e w12 ⟨rfl, h⟩; have S12 := hidden h; clear h; have mk_storeStoreKey_1 : Hid True := trivial)
    | (go_at_call 18; have mk := mk_storeStoreInner_4; clear mk; refine (H8.out _ _ _ _ _ _ S10.out).mono ?_; rintro e w11 ⟨rfl, h⟩; have S11 := hidden h; clear h; have mk_storeStoreInner_5 : Hid True := trivial)
    | (go_at_call 18; have mk := mk_storeStoreInner_3; clear mk; refine (H7.out _ _ _ _ _ _ S9.out).mono ?_; rintro e w10 ⟨rfl, h⟩; have S10 := hidden h; clear h; have mk_storeStoreInner_4 : Hid True := trivial)
    | (go_at_call 18; have mk := mk_storeStoreInner_2; clear mk; refine (H6.out _ _ _ _ _ _ S8.out).mono ?_; rintro e w9 ⟨rfl, h⟩; have S9 := hidden h; clear h; have mk_storeStoreInner_3 : Hid True := trivial)
    | (go_at_call 19; refine (H5.out _ _ _ _ _ _ S7.out).mono ?_; rintro e w8 ⟨rfl, h⟩; have S8 := hidden h; clear h; have mk_storeStoreHold_1 : Hid True := trivial)
    | (go_at_call 18; have mk := mk_storeStoreInner_1; clear mk; refine (H4.out _ _ _ _ _ _ S6.out).mono ?_; rintro e w7 ⟨rfl, h⟩; have S7 := hidden h; clear h; have mk_storeStoreInner_2 : Hid True := trivial)
    | (go_at_call 18; refine (H3.out _ _ _ _ _ S5.out).mono ?_; rintro e w6 ⟨D1, rfl, h⟩; have S6 := hidden h; clear h; have mk_storeStoreInner_1 : Hid True := trivial)
    | (go_at_call 16; have mk := mk_storeStoreLeaf_1; clear mk; refine (H2.out _ _ _ _ S4.out).mono ?_; rintro e w5 ⟨y, rfl, h⟩; have S5 := hidden h; clear h; have mk_storeStoreLeaf_2 : Hid True := trivial)
    | (go_at_call 17; have mk := mk_rootcellarlaw07key_1; clear mk; refine (HK1.out _).mono ?_; rintro e w4 ⟨rfl, b⟩; have S4 := hidden (S3.out.grow b); clear b; have mk_rootcellarlaw07key_2 : Hid True := trivial)
    | (go_at_call 16; refine (H1.out _ _ _ S2.out).mono ?_; rintro e w3 ⟨x, rfl, h⟩; have S3 := hidden h; clear h; have mk_storeStoreLeaf_1 : Hid True := trivial)
    | (go_at_call 17; refine (HK0.out _).mono ?_; rintro e w2 ⟨rfl, b⟩; have S2 := hidden (S1.out.grow b); clear b; have mk_rootcellarlaw07key_1 : Hid True := trivial)
    | (go_at_call 8; refine (HN.out).mono ?_; rintro e w1 ⟨g, gs, rfl, h1⟩; have S1 := hidden h1; clear h1; have mk_storeNew_1 : Hid True := trivial))
  have S24 : Hid (Hw w w23.drew g gs 4 (kC7 (lf0 K0 x) (lf0 K2 z) (inC D2 K9 2 1 1 2)) []) := S23.out.grow (below_drewN (Below.refl _ _) 1)
  refine wp_region_held_drew (S := fun w' => Hw w w' g gs 4 (kC7 (lf0 K0 x) (lf0 K2 z) (inC D2 K9 2 1 1 2)) []) (by kernel_rfl) (S24.out) (fun hHeld => ?_)
  refine wpAnyH_take (i := 0) (v := .pointer (some ⟨g, 0, none⟩)) rfl (by kernel_rfl) (by kernel_rfl) (by kernel_rfl) (fun _ _ _ h => h) (Or.inl ⟨by rfl, fun w hS => by go_simp⟩) hHeld ?_
  simp only [Act.put, List.getElem_toArray, List.getElem_cons_zero, List.setIfInBounds_toArray, List.set_cons_zero, List.set_cons_succ]
  refine wpAnyH_ready (rs := [1, 2]) (by kernel_rfl) (by simp) ?_
  refine AllReadyH.cons rfl (fun KQ hK => ?_) (AllReadyH.cons rfl (fun KQ hK => ?_) AllReadyH.nil)
  · skip
    go_simp
    refine (HK3.out _).mono ?_
    rintro e z1 ⟨rfl, a1⟩
    refine hK.out _ _ (Hw.grow hHeld a1) (fun hHeld => ?_)
    clear hK KQ
    refine wpAnyH_ready (rs := [2]) (by kernel_rfl) (by simp) ?_
    refine AllReadyH.cons rfl (fun KQ hK => ?_) AllReadyH.nil
    refine step_mkb _ rfl _ _ rfl .i64 .i64 1025 1025 rfl rfl (Nat.le_refl _) (by decide) ?_
    intro z2 R2 a2
    have HRd : Hid (Reads z2 (.slice (some ⟨z1.heap.size, 0, none⟩) 1025 1025) ZZ) := HRD.out _ _ R2
    refine hK.out _ _ (Hw.grow hHeld a2) (fun hHeld => ?_)
    clear hK KQ R2 a2
    generalize hbl : z1.heap.size = bl at *
    clear hbl
    refine wpAnyH_ready (rs := [3]) (by kernel_rfl) (by simp) ?_
    refine AllReadyH.cons rfl (fun KQ hK => ?_) AllReadyH.nil
    go_simp
    refine (H20.out _ _ _ _ _ _ _ _ hHeld HRd.out).mono ?_
    rintro e z3 ⟨rfl, h3⟩
    have HS3 := hidden h3
    clear h3
    refine hK.out _ _ (HS3.out) (fun hHeld => ?_)
    clear hK KQ
    refine wpAnyH_take (i := 4) (v := .tuple #[.int .i64 0, .int .i64 4]) rfl (by kernel_rfl) (by kernel_rfl) (by kernel_rfl) (fun _ _ _ h => h) (Or.inl ⟨by rfl, fun w hS => by go_simp⟩) hHeld ?_
    simp only [Act.put, List.getElem_toArray, List.getElem_cons_zero, List.getElem_cons_succ, List.setIfInBounds_toArray, List.set_cons_zero, List.set_cons_succ]
    refine wpAnyH_take (i := 5) (v := .int .i64 0) rfl (by kernel_rfl) (by kernel_rfl) (by kernel_rfl) (fun _ _ _ h => h) (Or.inl ⟨by rfl, fun w hS => by go_simp⟩) hHeld ?_
    simp only [Act.put, List.getElem_toArray, List.getElem_cons_zero, List.getElem_cons_succ, List.setIfInBounds_toArray, List.set_cons_zero, List.set_cons_succ]
    refine wpAnyH_take (i := 6) (v := .int .i64 4) rfl (by kernel_rfl) (by kernel_rfl) (by kernel_rfl) (fun _ _ _ h => h) (Or.inl ⟨by rfl, fun w hS => by go_simp⟩) hHeld ?_
    simp only [Act.put, List.getElem_toArray, List.getElem_cons_zero, List.getElem_cons_succ, List.setIfInBounds_toArray, List.set_cons_zero, List.set_cons_succ]
    refine wpAnyH_ready (rs := [7]) (by kernel_rfl) (by simp) ?_
    refine AllReadyH.cons rfl (fun KQ hK => ?_) AllReadyH.nil
    go_simp
    refine hK.out _ _ (hHeld) (fun hHeld => ?_)
    clear hK KQ
    refine wpAnyH_ready (rs := [8]) (by kernel_rfl) (by simp) ?_
    refine AllReadyH.cons rfl (fun KQ hK => ?_) AllReadyH.nil
    go_simp
    refine hK.out _ _ (hHeld) (fun hHeld => ?_)
    clear hK KQ
    refine wpAnyH_done (by kernel_rfl) ?_ _
    have T0 := HS3
    clear hHeld HS3 HRd
    go_wp2_with (first
      | (go_at_call 24; have mk := mq_storeStoreRoot_3; clear mk; refine (H24.out _ _ _ _ _ _ _ T4.out).mono ?_; rintro e u5 ⟨rfl, h⟩; have T5 := hidden h; clear h; have mq_storeStoreRoot_4 : Hid True := trivial)
      | (go_at_call 24; have mk := mq_storeStoreRoot_2; clear mk; refine (H23.out _ _ _ _ _ _ _ T3.out).mono ?_; rintro e u4 ⟨rfl, h⟩; have T4 := hidden h; clear h; have mq_storeStoreRoot_3 : Hid True := trivial)
      | (go_at_call 24; have mk := mq_storeStoreRoot_1; clear mk; refine (H22.out _ _ _ _ _ _ _ T2.out).mono ?_; rintro e u3 ⟨rfl, h⟩; have T3 := hidden h; clear h; have mq_storeStoreRoot_2 : Hid True := trivial)
      | (go_at_call 24; refine (H21.out _ _ _ _ _ _ _ T1.out).mono ?_; rintro e u2 ⟨rfl, h⟩; have T2 := hidden h; clear h; have mq_storeStoreRoot_1 : Hid True := trivial)
      | (go_at_call 7; refine (HA.out _ _ _ _ _ _ _ T0.out).mono ?_; rintro e u1 ⟨rfl, h⟩; have T1 := hidden h; clear h; have mq_rootcellarlaw07awake_1 : Hid True := trivial))
    go_ret
    exact ⟨rfl, T5.out.low⟩
  · skip
    refine step_mkb _ rfl _ _ rfl .i64 .i64 1025 1025 rfl rfl (Nat.le_refl _) (by decide) ?_
    intro z1 R1 a1
    have HRd : Hid (Reads z1 (.slice (some ⟨w23.drew.heap.size, 0, none⟩) 1025 1025) ZZ) := HRD.out _ _ R1
    have HGz := hidden (Hw.grow hHeld a1)
    clear R1 a1
    generalize hbl : w23.drew.heap.size = bl at *
    clear hbl
    refine hK.out _ _ HGz.out (fun hHeld => ?_)
    clear hK KQ HGz
    refine wpAnyH_ready (rs := [1]) (by kernel_rfl) (by simp) ?_
    refine AllReadyH.cons rfl (fun KQ hK => ?_) AllReadyH.nil
    go_simp
    refine (HK3.out _).mono ?_
    rintro e z2 ⟨rfl, a2⟩
    replace HRd := hidden (HRd.out.grow a2)
    refine hK.out _ _ (Hw.grow hHeld a2) (fun hHeld => ?_)
    clear hK KQ a2
    refine wpAnyH_ready (rs := [3]) (by kernel_rfl) (by simp) ?_
    refine AllReadyH.cons rfl (fun KQ hK => ?_) AllReadyH.nil
    go_simp
    refine (H20.out _ _ _ _ _ _ _ _ hHeld HRd.out).mono ?_
    rintro e z3 ⟨rfl, h3⟩
    have HS3 := hidden h3
    clear h3
    refine hK.out _ _ (HS3.out) (fun hHeld => ?_)
    clear hK KQ
    refine wpAnyH_take (i := 4) (v := .tuple #[.int .i64 0, .int .i64 4]) rfl (by kernel_rfl) (by kernel_rfl) (by kernel_rfl) (fun _ _ _ h => h) (Or.inl ⟨by rfl, fun w hS => by go_simp⟩) hHeld ?_
    simp only [Act.put, List.getElem_toArray, List.getElem_cons_zero, List.getElem_cons_succ, List.setIfInBounds_toArray, List.set_cons_zero, List.set_cons_succ]
    refine wpAnyH_take (i := 5) (v := .int .i64 0) rfl (by kernel_rfl) (by kernel_rfl) (by kernel_rfl) (fun _ _ _ h => h) (Or.inl ⟨by rfl, fun w hS => by go_simp⟩) hHeld ?_
    simp only [Act.put, List.getElem_toArray, List.getElem_cons_zero, List.getElem_cons_succ, List.setIfInBounds_toArray, List.set_cons_zero, List.set_cons_succ]
    refine wpAnyH_take (i := 6) (v := .int .i64 4) rfl (by kernel_rfl) (by kernel_rfl) (by kernel_rfl) (fun _ _ _ h => h) (Or.inl ⟨by rfl, fun w hS => by go_simp⟩) hHeld ?_
    simp only [Act.put, List.getElem_toArray, List.getElem_cons_zero, List.getElem_cons_succ, List.setIfInBounds_toArray, List.set_cons_zero, List.set_cons_succ]
    refine wpAnyH_ready (rs := [7]) (by kernel_rfl) (by simp) ?_
    refine AllReadyH.cons rfl (fun KQ hK => ?_) AllReadyH.nil
    go_simp
    refine hK.out _ _ (hHeld) (fun hHeld => ?_)
    clear hK KQ
    refine wpAnyH_ready (rs := [8]) (by kernel_rfl) (by simp) ?_
    refine AllReadyH.cons rfl (fun KQ hK => ?_) AllReadyH.nil
    go_simp
    refine hK.out _ _ (hHeld) (fun hHeld => ?_)
    clear hK KQ
    refine wpAnyH_done (by kernel_rfl) ?_ _
    have T0 := HS3
    clear hHeld HS3 HRd
    go_wp2_with (first
      | (go_at_call 24; have mk := mq_storeStoreRoot_3; clear mk; refine (H24.out _ _ _ _ _ _ _ T4.out).mono ?_; rintro e u5 ⟨rfl, h⟩; have T5 := hidden h; clear h; have mq_storeStoreRoot_4 : Hid True := trivial)
      | (go_at_call 24; have mk := mq_storeStoreRoot_2; clear mk; refine (H23.out _ _ _ _ _ _ _ T3.out).mono ?_; rintro e u4 ⟨rfl, h⟩; have T4 := hidden h; clear h; have mq_storeStoreRoot_3 : Hid True := trivial)
      | (go_at_call 24; have mk := mq_storeStoreRoot_1; clear mk; refine (H22.out _ _ _ _ _ _ _ T2.out).mono ?_; rintro e u3 ⟨rfl, h⟩; have T3 := hidden h; clear h; have mq_storeStoreRoot_2 : Hid True := trivial)
      | (go_at_call 24; refine (H21.out _ _ _ _ _ _ _ T1.out).mono ?_; rintro e u2 ⟨rfl, h⟩; have T2 := hidden h; clear h; have mq_storeStoreRoot_1 : Hid True := trivial)
      | (go_at_call 7; refine (HA.out _ _ _ _ _ _ _ T0.out).mono ?_; rintro e u1 ⟨rfl, h⟩; have T1 := hidden h; clear h; have mq_rootcellarlaw07awake_1 : Hid True := trivial))
    go_ret
    exact ⟨rfl, T5.out.low⟩

end Go.Proofs.YtjikgagaalbaeaaDoor
