/- What a store tells as a node by digests (Node), as a contract. -/
import Derived.Test.YtdpaanidangnlaaGreatDoorWw20
import Derived.Test.YtdpaanidangnlaaGreatDoorWw21
import Derived.Test.YtdpaanidangnlaaGreatDoorWw24
import Derived.Test.YtdpaanidangnlaaGreatDoorWw23
import Derived.Test.YtdpaanidangnlaaGreatDoorWw27
namespace Go.Proofs.YtdpaanidangnlaaGreatDoor
set_option maxRecDepth 20000
open Go.RowKit

/-- What Node answers. -/
def vNd (mk : Bool) (ca : Int → Ce) (h : Int) : List Int := if (ca h).kind = 1 then nd 1 (ca h).key (vaD (ca h).bs) z32 z32 else if (ca h).kind = 2 then nd 2 z32 z32 (vDg mk ca ((ca h).l : Int)) (vDg mk ca ((ca h).r : Int)) else nd 0 z32 z32 z32 z32

theorem vNd_ok {w : World} {v : Value} {mk : Bool} {ct : Int → Nat} {ca : Int → Ce} (V : Vw w v mk ct ca) (h : Int) : (vNd mk ca h).length = 129 ∧ ∃ k a b c d, vNd mk ca h = nd k a b c d ∧ Nd k a b c d := by
  have z := z32_bytes
  have hq : ∃ k a b c d, vNd mk ca h = nd k a b c d ∧ Nd k a b c d := by
    unfold vNd
    split
    · exact ⟨_, _, _, _, _, rfl, by omega, by omega, (V.ok h).hk.1, dig_length _, rfl, rfl, (V.ok h).hk.2, dig_bytes _, z, z⟩
    · split
      · exact ⟨_, _, _, _, _, rfl, by omega, by omega, rfl, rfl, (vDg_len V _).1, (vDg_len V _).1, z, z, (vDg_len V _).2, (vDg_len V _).2⟩
      · exact ⟨_, _, _, _, _, rfl, by omega, by omega, rfl, rfl, rfl, rfl, z, z, z, z⟩
  obtain ⟨k, a, b, c, d, e, n⟩ := hq
  exact ⟨by rw [e]; exact n.length, k, a, b, c, d, e, n⟩

theorem nodeS_size {zs : List Int} (h : zs.length = 129) : (Tryz.prog.info? 48).map (·.size) = some (B zs).size := by rw [B_size, h]; kernel_rfl

theorem nodeS_zero : ∀ w, (zeroValue 48).run Tryz.prog w = .ok (.agg (B (nd 0 z32 z32 z32 z32))) w := zero_of_info (n := 129) (by kernel_rfl) |>.1

theorem zagg_node : Value.agg Tryz.zeroCells48 = .agg (B (nd 0 z32 z32 z32 z32)) := by kernel_rfl

set_option maxHeartbeats 4000000 in
theorem node_any {w : World} {v : Value} {mk : Bool} {ct : Int → Nat} {ca : Int → Ce} (V : Vw w v mk ct ca) (h : Int) (hL : Laid w) : Calls Tryz.prog 47 #[v, .int .i64 h] w fun e w' => e = .returned (.agg (B (vNd mk ca h))) ∧ Below w.heap.size w w' := by
  have HA : Hid (∀ w', Below w.heap.size w w' → Calls Tryz.prog 44 #[v, .int .i64 h] w' fun e w'' => e = .returned (.agg (cz (ca h)).toArray) ∧ Below w'.heap.size w' w'') := fun w' hb => V.atv w' h hb
  have HVA : Hid (∀ w', Below w.heap.size w w' → Calls Tryz.prog 102 #[(ca h).val] w' fun e w'' => e = .returned (.agg (B (vaD (ca h).bs))) ∧ Below w'.heap.size w' w'') := fun w' hb => value_any _ _ w' ((V.val h).grow hb) (hL.grow hb) (by have := V.len h; omega)
  have HDG : Hid (∀ w' q, Below w.heap.size w w' → Calls Tryz.prog 12 #[v, .int .i64 q] w' fun e w'' => e = .returned (.agg (B (vDg mk ca q))) ∧ Below w'.heap.size w' w'') := fun w' q hb => sdig_any (V.grow hb) q (hL.grow hb)
  have HO := hidden (V.ok h)
  have hlen := (vNd_ok V h).1
  have HLl := hidden (vDg_len V ((ca h).l : Int)).1
  have HLr := hidden (vDg_len V ((ca h).r : Int)).1
  have hvs := (V.ok h).vs
  have hV : vNd mk ca h = if (ca h).kind = 1 then nd 1 (ca h).key (vaD (ca h).bs) z32 z32 else if (ca h).kind = 2 then nd 2 z32 z32 (vDg mk ca ((ca h).l : Int)) (vDg mk ca ((ca h).r : Int)) else nd 0 z32 z32 z32 z32 := rfl
  generalize vNd mk ca h = N at hV hlen ⊢
  obtain ⟨c, hc⟩ : ∃ c, c = ca h := ⟨_, rfl⟩
  rw [← hc] at HA HVA HO HLl HLr hV hvs
  have HNL := hidden hlen
  obtain ⟨sa, sk, hsv⟩ := hvs
  have HSV := hidden hsv
  clear hc hL hlen V
  by_cases h1 : c.kind = 1
  · rw [if_pos h1] at hV
    have HBU : Hid (Tryz.prog.built 48 [(0, .int .u8 1), (1, .agg (B c.key)), (2, .agg (B (vaD c.bs)))] = some (B N)) := by
      show _ = _
      rw [hV]
      exact built_leaf c.key (vaD c.bs) HO.out.hk.1 (dig_length _)
    have HVA2 : Hid (∀ w', Below w.heap.size w w' → Calls Tryz.prog 102 #[.slice sa c.bs.length sk] w' fun e w'' => e = .returned (.agg (B (vaD c.bs))) ∧ Below w'.heap.size w' w'') := by
      rw [← hsv]
      exact HVA
    have HK := hidden h1
    clear hV h1 hsv HVA HDG HLl HLr
    generalize vaD c.bs = VD at HBU HVA2
    go_enter Tryz.func47, Tryz.ntmps47
    go_wp2_with (first
    | ((with_reducible refine at_ald 4 ?_); refine wpList_al _ rfl _ rfl _ nodeS_zero ?_; intro w1 b4 hg4 hl4 B4 b1; have HB4 := hidden B4; have Hg4 := hidden hg4; have Hl4 := hidden hl4; clear B4 hg4 hl4)
    | (go_at_call 44; refine (HA.out _ b1).mono ?_; rintro e w2 ⟨rfl, b2⟩; have HB4a := hidden (HB4.out.grow b2); have Hb2 := hidden (grow_trans b1 b2); clear b2)
    | ((with_reducible refine at_ald 5 ?_); refine wpList_al _ rfl _ rfl _ zero_thC ?_; intro w3 b5 hg5 hl5 B5 b3; have HB4b := hidden (HB4a.out.grow b3); have HB5 := hidden B5; have Hg5 := hidden hg5; have Hb3 := hidden b3; have hne : b4 ≠ b5 := (by have := HB4a.out.lt; omega); clear B5 hg5 hl5 b3)
    | ((with_reducible refine at_st 5 ?_); refine wpList_sto _ rfl _ _ _ rfl b5 _ (cz c).toArray rfl rfl HB5.out (xszC _ (cz_th HO.out)) (xzsC _ (cz_th HO.out)) (all_oneCell_toArray (cz_one HO.out)) ?_; intro w4 B6 r6; have HB4c := hidden (HB4b.out.kept r6 hne); have HB6 := hidden B6; have Hb4 := hidden (below_row (grow_trans Hb2.out Hb3.out) r6 (by have := Hg5.out; have := Hb2.out.size; omega)); have c7 := B6.cell 32; simp only [List.getElem?_toArray] at c7; rw [(cz_at c HO.out).1, HK.out] at c7; clear B6 r6))
    have HBd : Hid (Below w4.heap.size w4 w4.drew) := below_drewN (Below.refl _ _) 1
    have HBL : Hid (∀ w', Below w4.heap.size w4 w' → Below w.heap.size w w') := fun w' hb => grow_trans Hb4.out hb
    have HB4d : Hid (∀ w', Below w4.heap.size w4 w' → Blk w' b4 48 (B (nd 0 z32 z32 z32 z32))) := fun w' hb => HB4c.out.grow hb
    have HKR : Hid (∀ w', Below w4.heap.size w4 w' → w'.rangeAt b5 35 (c.key.map (Value.int .u8))) := fun w' hb => (segK c HO.out).range (HB6.out.grow hb)
    have HVR : Hid (∀ w', Below w4.heap.size w4 w' → w'.cell? ⟨b5, 67, none⟩ = some (.slice sa c.bs.length sk)) := fun w' hb => by
      rw [(HB6.out.grow hb).cell, ← HSV.out]
      simpa using (cz_at c HO.out).2.2.2.1
    clear c7
    refine wp_region_last (S := fun w' => Below w4.heap.size w4 w') 6 (by kernel_rfl) (HBd.out) (fun hHeld => ?_)
    refine wpAnyL_take (i := 0) (v := .pointer (some ⟨b5, 35, none⟩)) rfl (by kernel_rfl) (by kernel_rfl) (by kernel_rfl) (by kernel_rfl) (by kernel_rfl) (fun _ _ _ h => h) (Or.inl ⟨by rfl, fun w hS => by go_simp⟩) hHeld ?_
    simp only [Act.put, List.getElem_toArray, List.getElem_cons_zero, List.setIfInBounds_toArray, List.set_cons_zero, List.set_cons_succ]
    refine wpAnyL_take (i := 1) (v := .agg (B c.key)) rfl (by kernel_rfl) (by kernel_rfl) (by kernel_rfl) (by kernel_rfl) (by kernel_rfl) (fun _ _ _ h => h) (yieldsIf_load_mid rfl 31 (.tmp 13) rfl b5 35 rfl (c.key.map (Value.int .u8)) _ (fun w hS => HKR.out _ hS) Tryz.underlying31 rfl (by rw [List.length_map, HO.out.hk.1]; exact size_path)) hHeld ?_
    simp only [Act.put, List.getElem_toArray, List.getElem_cons_zero, List.getElem_cons_succ, List.setIfInBounds_toArray, List.set_cons_zero, List.set_cons_succ]
    refine wpAnyL_take (i := 2) (v := .pointer (some ⟨b5, 67, none⟩)) rfl (by kernel_rfl) (by kernel_rfl) (by kernel_rfl) (by kernel_rfl) (by kernel_rfl) (fun _ _ _ h => h) (Or.inl ⟨by rfl, fun w hS => by go_simp⟩) hHeld ?_
    simp only [Act.put, List.getElem_toArray, List.getElem_cons_zero, List.getElem_cons_succ, List.setIfInBounds_toArray, List.set_cons_zero, List.set_cons_succ]
    refine wpAnyL_take (i := 3) (v := (.slice sa c.bs.length sk)) rfl (by kernel_rfl) (by kernel_rfl) (by kernel_rfl) (by kernel_rfl) (by kernel_rfl) (fun _ _ _ h => h) (Or.inl ⟨by rfl, fun w hS => by (have q1 := HVR.out _ hS; go_simp)⟩) hHeld ?_
    simp only [Act.put, List.getElem_toArray, List.getElem_cons_zero, List.getElem_cons_succ, List.setIfInBounds_toArray, List.set_cons_zero, List.set_cons_succ]
    refine wpAnyL_one (i := 4) rfl (by kernel_rfl) (fun KQ hK => ?_)
    go_simp
    refine (HVA2.out _ (HBL.out _ hHeld)).mono ?_
    rintro e z1 ⟨rfl, a1⟩
    refine hK.out _ _ (grow_trans hHeld a1) (fun hHeld => ?_)
    clear hK KQ
    refine wpAnyL_take (i := 5) (v := .agg (B N)) rfl (by kernel_rfl) (by kernel_rfl) (by kernel_rfl) (by kernel_rfl) (by kernel_rfl) (fun _ _ _ h => h) (Or.inl ⟨by rfl, fun w hS => exec_blc _ _ 48 _ (by rfl) _ (by rw [List.map_toArray]; exact HBU.out) w⟩) hHeld ?_
    simp only [Act.put, List.getElem_toArray, List.getElem_cons_zero, List.getElem_cons_succ, List.setIfInBounds_toArray, List.set_cons_zero, List.set_cons_succ]
    refine wpAnyL_last rfl (by kernel_rfl) (by kernel_rfl) (fun KQ hK => ?_)
    refine step_sto _ rfl _ _ _ rfl b4 _ (B N) rfl rfl (HB4d.out _ hHeld) (nodeS_size HNL.out) (by rw [B_size, B_size, HNL.out]; rfl) (B_one _) ?_
    intro z4 B9 r9
    refine hK.out _ _ ?_
    clear hK KQ
    go_wp2
    exact bodyPost_ret (v := .agg (B N)) (results_cell_row rfl _ _ b4 _ _ _ _ rfl B9 Tryz.underlying48 rfl (nodeS_size HNL.out)) rfl ⟨rfl, below_row (HBL.out _ hHeld) r9 Hg4.out⟩
  · rw [if_neg h1] at hV
    have n1 : (c.kind == 1) = false := by simp [h1]
    by_cases h2 : c.kind = 2
    · rw [if_pos h2] at hV
      have HBU : Hid (Tryz.prog.built 48 [(0, .int .u8 2), (3, .agg (B (vDg mk ca (c.l : Int)))), (4, .agg (B (vDg mk ca (c.r : Int))))] = some (B N)) := by
        show _ = _
        rw [hV]
        exact built_inner _ _ HLl.out HLr.out
      have HDl : Hid (∀ w', Below w.heap.size w w' → Calls Tryz.prog 12 #[v, .int .i64 (c.l : Int)] w' fun e w'' => e = .returned (.agg (B (vDg mk ca (c.l : Int)))) ∧ Below w'.heap.size w' w'') := fun w' hb => HDG.out w' _ hb
      have HDr : Hid (∀ w', Below w.heap.size w w' → Calls Tryz.prog 12 #[v, .int .i64 (c.r : Int)] w' fun e w'' => e = .returned (.agg (B (vDg mk ca (c.r : Int)))) ∧ Below w'.heap.size w' w'') := fun w' hb => HDG.out w' _ hb
      have HK := hidden h2
      generalize vDg mk ca (c.l : Int) = DL at HBU HDl
      generalize vDg mk ca (c.r : Int) = DR at HBU HDr
      clear hV h1 n1 h2 HVA HDG HLl HLr hsv HSV
      go_enter Tryz.func47, Tryz.ntmps47
      go_wp2_with (first
      | ((with_reducible refine at_ald 4 ?_); refine wpList_al _ rfl _ rfl _ nodeS_zero ?_; intro w1 b4 hg4 hl4 B4 b1; have HB4 := hidden B4; have Hg4 := hidden hg4; have Hl4 := hidden hl4; clear B4 hg4 hl4)
      | (go_at_call 44; refine (HA.out _ b1).mono ?_; rintro e w2 ⟨rfl, b2⟩; have HB4a := hidden (HB4.out.grow b2); have Hb2 := hidden (grow_trans b1 b2); clear b2)
      | ((with_reducible refine at_ald 5 ?_); refine wpList_al _ rfl _ rfl _ zero_thC ?_; intro w3 b5 hg5 hl5 B5 b3; have HB4b := hidden (HB4a.out.grow b3); have HB5 := hidden B5; have Hg5 := hidden hg5; have Hb3 := hidden b3; have hne : b4 ≠ b5 := (by have := HB4a.out.lt; omega); clear B5 hg5 hl5 b3)
      | ((with_reducible refine at_st 5 ?_); refine wpList_sto _ rfl _ _ _ rfl b5 _ (cz c).toArray rfl rfl HB5.out (xszC _ (cz_th HO.out)) (xzsC _ (cz_th HO.out)) (all_oneCell_toArray (cz_one HO.out)) ?_; intro w4 B6 r6; have HB4c := hidden (HB4b.out.kept r6 hne); have HB6 := hidden B6; have Hb4 := hidden (below_row (grow_trans Hb2.out Hb3.out) r6 (by have := Hg5.out; have := Hb2.out.size; omega)); have c7 := B6.cell 32; simp only [List.getElem?_toArray] at c7; rw [(cz_at c HO.out).1, HK.out] at c7; clear B6 r6))
      have HBd : Hid (Below w4.heap.size w4 w4.drew) := below_drewN (Below.refl _ _) 1
      have HBL : Hid (∀ w', Below w4.heap.size w4 w' → Below w.heap.size w w') := fun w' hb => grow_trans Hb4.out hb
      have HB4d : Hid (∀ w', Below w4.heap.size w4 w' → Blk w' b4 48 (B (nd 0 z32 z32 z32 z32))) := fun w' hb => HB4c.out.grow hb
      have HLR : Hid (∀ w', Below w4.heap.size w4 w' → w'.cell? ⟨b5, 69, none⟩ = some (.int .i64 (c.l : Int))) := fun w' hb => by
        rw [(HB6.out.grow hb).cell]
        simpa using (cz_at c HO.out).2.2.2.2.2.1
      have HRR : Hid (∀ w', Below w4.heap.size w4 w' → w'.cell? ⟨b5, 70, none⟩ = some (.int .i64 (c.r : Int))) := fun w' hb => by
        rw [(HB6.out.grow hb).cell]
        simpa using (cz_at c HO.out).2.2.2.2.2.2
      clear c7
      refine wp_region_last (S := fun w' => Below w4.heap.size w4 w') 9 (by kernel_rfl) (HBd.out) (fun hHeld => ?_)
      refine wpAnyL_take (i := 0) (v := v) rfl (by kernel_rfl) (by kernel_rfl) (by kernel_rfl) (by kernel_rfl) (by kernel_rfl) (fun _ _ _ h => h) (Or.inl ⟨by rfl, fun w hS => by go_simp⟩) hHeld ?_
      simp only [Act.put, List.getElem_toArray, List.getElem_cons_zero, List.setIfInBounds_toArray, List.set_cons_zero, List.set_cons_succ]
      refine wpAnyL_take (i := 1) (v := .pointer (some ⟨b5, 69, none⟩)) rfl (by kernel_rfl) (by kernel_rfl) (by kernel_rfl) (by kernel_rfl) (by kernel_rfl) (fun _ _ _ h => h) (Or.inl ⟨by rfl, fun w hS => by go_simp⟩) hHeld ?_
      simp only [Act.put, List.getElem_toArray, List.getElem_cons_zero, List.getElem_cons_succ, List.setIfInBounds_toArray, List.set_cons_zero, List.set_cons_succ]
      refine wpAnyL_take (i := 2) (v := .int .i64 (c.l : Int)) rfl (by kernel_rfl) (by kernel_rfl) (by kernel_rfl) (by kernel_rfl) (by kernel_rfl) (fun _ _ _ h => h) (Or.inl ⟨by rfl, fun w hS => by (have q1 := HLR.out _ hS; go_simp)⟩) hHeld ?_
      simp only [Act.put, List.getElem_toArray, List.getElem_cons_zero, List.getElem_cons_succ, List.setIfInBounds_toArray, List.set_cons_zero, List.set_cons_succ]
      refine wpAnyL_take (i := 4) (v := v) rfl (by kernel_rfl) (by kernel_rfl) (by kernel_rfl) (by kernel_rfl) (by kernel_rfl) (fun _ _ _ h => h) (Or.inl ⟨by rfl, fun w hS => by go_simp⟩) hHeld ?_
      simp only [Act.put, List.getElem_toArray, List.getElem_cons_zero, List.getElem_cons_succ, List.setIfInBounds_toArray, List.set_cons_zero, List.set_cons_succ]
      refine wpAnyL_take (i := 5) (v := .pointer (some ⟨b5, 70, none⟩)) rfl (by kernel_rfl) (by kernel_rfl) (by kernel_rfl) (by kernel_rfl) (by kernel_rfl) (fun _ _ _ h => h) (Or.inl ⟨by rfl, fun w hS => by go_simp⟩) hHeld ?_
      simp only [Act.put, List.getElem_toArray, List.getElem_cons_zero, List.getElem_cons_succ, List.setIfInBounds_toArray, List.set_cons_zero, List.set_cons_succ]
      refine wpAnyL_take (i := 6) (v := .int .i64 (c.r : Int)) rfl (by kernel_rfl) (by kernel_rfl) (by kernel_rfl) (by kernel_rfl) (by kernel_rfl) (fun _ _ _ h => h) (Or.inl ⟨by rfl, fun w hS => by (have q1 := HRR.out _ hS; go_simp)⟩) hHeld ?_
      simp only [Act.put, List.getElem_toArray, List.getElem_cons_zero, List.getElem_cons_succ, List.setIfInBounds_toArray, List.set_cons_zero, List.set_cons_succ]
      refine wpAnyL_one (i := 3) rfl (by kernel_rfl) (fun KQ hK => ?_)
      go_simp
      refine (HDl.out _ (HBL.out _ hHeld)).mono ?_
      rintro e z1 ⟨rfl, a1⟩
      refine hK.out _ _ (grow_trans hHeld a1) (fun hHeld => ?_)
      clear hK KQ
      refine wpAnyL_one (i := 7) rfl (by kernel_rfl) (fun KQ hK => ?_)
      go_simp
      refine (HDr.out _ (HBL.out _ hHeld)).mono ?_
      rintro e z2 ⟨rfl, a2⟩
      refine hK.out _ _ (grow_trans hHeld a2) (fun hHeld => ?_)
      clear hK KQ
      refine wpAnyL_take (i := 8) (v := .agg (B N)) rfl (by kernel_rfl) (by kernel_rfl) (by kernel_rfl) (by kernel_rfl) (by kernel_rfl) (fun _ _ _ h => h) (Or.inl ⟨by rfl, fun w hS => exec_blc _ _ 48 _ (by rfl) _ (by rw [List.map_toArray]; exact HBU.out) w⟩) hHeld ?_
      simp only [Act.put, List.getElem_toArray, List.getElem_cons_zero, List.getElem_cons_succ, List.setIfInBounds_toArray, List.set_cons_zero, List.set_cons_succ]
      refine wpAnyL_last rfl (by kernel_rfl) (by kernel_rfl) (fun KQ hK => ?_)
      refine step_sto _ rfl _ _ _ rfl b4 _ (B N) rfl rfl (HB4d.out _ hHeld) (nodeS_size HNL.out) (by rw [B_size, B_size, HNL.out]; rfl) (B_one _) ?_
      intro z4 B9 r9
      refine hK.out _ _ ?_
      clear hK KQ
      go_wp2
      exact bodyPost_ret (v := .agg (B N)) (results_cell_row rfl _ _ b4 _ _ _ _ rfl B9 Tryz.underlying48 rfl (nodeS_size HNL.out)) rfl ⟨rfl, below_row (HBL.out _ hHeld) r9 Hg4.out⟩
    · rw [if_neg h2] at hV
      have n2 : (c.kind == 2) = false := by simp [h2]
      have HVN := hidden hV
      obtain ⟨k, hk⟩ : ∃ k, k = c.kind := ⟨_, rfl⟩
      have HK := hidden hk
      rw [← hk] at n1 n2
      clear hV h1 h2 HVA HDG HLl HLr hsv HSV hk
      go_enter Tryz.func47, Tryz.ntmps47
      go_wp2_with (first
      | ((with_reducible refine at_ald 4 ?_); refine wpList_al _ rfl _ rfl _ nodeS_zero ?_; intro w1 b4 hg4 hl4 B4 b1; have HB4 := hidden B4; have Hg4 := hidden hg4; have Hl4 := hidden hl4; clear B4 hg4 hl4)
      | (go_at_call 44; refine (HA.out _ b1).mono ?_; rintro e w2 ⟨rfl, b2⟩; have HB4a := hidden (HB4.out.grow b2); have Hb2 := hidden (grow_trans b1 b2); clear b2)
      | ((with_reducible refine at_ald 5 ?_); refine wpList_al _ rfl _ rfl _ zero_thC ?_; intro w3 b5 hg5 hl5 B5 b3; have HB4b := hidden (HB4a.out.grow b3); have HB5 := hidden B5; have Hg5 := hidden hg5; have Hb3 := hidden b3; have hne : b4 ≠ b5 := (by have := HB4a.out.lt; omega); clear B5 hg5 hl5 b3)
      | ((with_reducible refine at_st 5 ?_); refine wpList_sto _ rfl _ _ _ rfl b5 _ (cz c).toArray rfl rfl HB5.out (xszC _ (cz_th HO.out)) (xzsC _ (cz_th HO.out)) (all_oneCell_toArray (cz_one HO.out)) ?_; intro w4 B6 r6; have HB4c := hidden (HB4b.out.kept r6 hne); have HB6 := hidden B6; have Hb4 := hidden (below_row (grow_trans Hb2.out Hb3.out) r6 (by have := Hg5.out; have := Hb2.out.size; omega)); have c7 := B6.cell 32; simp only [List.getElem?_toArray] at c7; rw [(cz_at c HO.out).1, ← HK.out] at c7; clear B6 r6)
      | ((with_reducible refine at_st 4 ?_); refine wpList_sto _ rfl _ _ _ rfl b4 _ (B N) rfl (by rw [HVN.out]; exact zagg_node) HB4c.out (nodeS_size HNL.out) (by rw [B_size, B_size, HNL.out]; rfl) (B_one _) ?_; intro z4 B9 r9))
      exact bodyPost_ret (v := .agg (B N)) (results_cell_row rfl _ _ b4 _ _ _ _ rfl B9 Tryz.underlying48 rfl (nodeS_size HNL.out)) rfl ⟨rfl, below_row Hb4.out r9 Hg4.out⟩

end Go.Proofs.YtdpaanidangnlaaGreatDoor

/- walk.fork and walk.Handles, as contracts. -/
namespace Go.Proofs.YtdpaanidangnlaaGreatDoor
set_option maxRecDepth 20000
open Go.RowKit

theorem pth_ln (D : List Int) (h : D.length = 32) : (Tryz.prog.info? 31).map (·.size) = some (B D).toList.length := by rw [B_toList, List.length_map, h]; exact size_path

set_option maxHeartbeats 2000000 in
theorem fork_any {w : World} {v : Value} {ct : Int → Nat} {ca : Int → Ce} (V : Vw w v true ct ca) (h : Int) (K : List Int) (hK : Key K) (hk : (ca h).kind = 2) (hd : (ca h).dp < 256) : Calls Tryz.prog 46 #[v, .int .i64 h, .agg (B K)] w fun e w' => e = .returned (.tuple #[.int .i64 ((if kb K (ca h).dp = 1 then (ca h).r else (ca h).l : Nat) : Int), .int .i64 ((if kb K (ca h).dp = 1 then (ca h).l else (ca h).r : Nat) : Int)]) ∧ Below w.heap.size w w' := by
  have HSD : Hid (∀ w', Below w.heap.size w w' → Calls Tryz.prog 90 #[v, .int .i64 h] w' fun e w'' => e = .returned (.tuple #[.int .i64 ((ca h).l : Int), .int .i64 ((ca h).r : Int)]) ∧ Below w'.heap.size w' w'') := fun w' hb => sides_any (V.grow hb) h
  have HDP : Hid (∀ w', Below w.heap.size w w' → Calls Tryz.prog 81 #[v, .int .i64 h] w' fun e w'' => e = .returned (.int .i64 ((ca h).dp : Int)) ∧ Below w'.heap.size w' w'') := fun w' hb => by
    have := depth_any (V.grow hb) h
    rwa [show vDp true (ca h) = ((ca h).dp : Int) by simp [vDp, hk]] at this
  have HBT : Hid (∀ w', Calls Tryz.prog 40 #[.agg (B K), .int .i64 ((ca h).dp : Int)] w' fun e w'' => e = .returned (.int .i64 (kb K (ca h).dp)) ∧ Below w'.heap.size w' w'') := fun w' => by
    have := bit_any K ((ca h).dp : Int) w' hK
    rwa [kbi_in K _ hd] at this
  have HPL := hidden (pth_ln K hK.1)
  clear V hk hd hK
  generalize (ca h).l = l at HSD ⊢
  generalize (ca h).r = r at HSD ⊢
  generalize (ca h).dp = d at HDP HBT ⊢
  have hq := kb_two K d
  generalize kb K d = q at HBT hq ⊢
  generalize hdd : (d : Int) = dd at HDP HBT
  clear hdd
  rcases hq with rfl | rfl
  · rw [if_neg (by omega), if_neg (by omega)]
    go_enter Tryz.func46, Tryz.ntmps46
    go_wp2_with (first
      | ((with_reducible refine at_bxd 5 ?_); refine wpList_bx _ rfl _ _ rfl _ rfl ?_; intro w1 b5 hg5 hl5 B5 q5; have HB5 := hidden B5; have HQ5 := hidden q5; clear hg5 hl5 B5 q5)
      | (go_at_call 90; refine (HSD.out _ HQ5.out).mono ?_; rintro e w2 ⟨rfl, b2⟩; have HB52 := hidden (HB5.out.grow b2); have HQ2 := hidden (grow_trans HQ5.out b2); clear b2))
    refine wp_region_held_drew (S := fun w' => Below w2.heap.size w2 w') (by kernel_rfl) ((below_drewN (Below.refl _ _) 1)) (fun hHeld => ?_)
    refine wpAnyH_take (i := 0) (v := .agg (B K)) rfl (by kernel_rfl) (by kernel_rfl) (by kernel_rfl) (fun _ _ _ h => h) (yieldsIf_load_mid rfl 31 (.tmp 5) rfl b5 0 rfl (B K).toList _ (fun w hS => (HB52.out.grow hS).range) Tryz.underlying31 rfl HPL.out) hHeld ?_
    simp only [Act.put, List.getElem_toArray, List.getElem_cons_zero, List.setIfInBounds_toArray, List.set_cons_zero, List.set_cons_succ]
    refine wpAnyH_take (i := 1) (v := v) rfl (by kernel_rfl) (by kernel_rfl) (by kernel_rfl) (fun _ _ _ h => h) (Or.inl ⟨by rfl, fun w hS => by go_simp⟩) hHeld ?_
    simp only [Act.put, List.getElem_toArray, List.getElem_cons_zero, List.getElem_cons_succ, List.setIfInBounds_toArray, List.set_cons_zero, List.set_cons_succ]
    refine wpAnyH_take (i := 2) (v := .int .i64 h) rfl (by kernel_rfl) (by kernel_rfl) (by kernel_rfl) (fun _ _ _ h => h) (Or.inl ⟨by rfl, fun w hS => by go_simp⟩) hHeld ?_
    simp only [Act.put, List.getElem_toArray, List.getElem_cons_zero, List.getElem_cons_succ, List.setIfInBounds_toArray, List.set_cons_zero, List.set_cons_succ]
    refine wpAnyH_ready (rs := [3]) (by kernel_rfl) (by simp) ?_
    refine AllReadyH.cons rfl (fun KQ hK => ?_) AllReadyH.nil
    go_simp
    refine (HDP.out _ (grow_trans HQ2.out hHeld)).mono ?_
    rintro e z1 ⟨rfl, a1⟩
    refine hK.out _ _ (grow_trans hHeld a1) (fun hHeld => ?_)
    clear hK KQ
    refine wpAnyH_ready (rs := [4]) (by kernel_rfl) (by simp) ?_
    refine AllReadyH.cons rfl (fun KQ hK => ?_) AllReadyH.nil
    go_simp
    refine (HBT.out _).mono ?_
    rintro e z2 ⟨rfl, a2⟩
    refine hK.out _ _ (grow_trans hHeld a2) (fun hHeld => ?_)
    clear hK KQ
    refine wpAnyH_take (i := 5) (v := .bool false) rfl (by kernel_rfl) (by kernel_rfl) (by kernel_rfl) (fun _ _ _ h => h) (Or.inl ⟨by rfl, fun w hS => by go_simp⟩) hHeld ?_
    simp only [Act.put, List.getElem_toArray, List.getElem_cons_zero, List.getElem_cons_succ, List.setIfInBounds_toArray, List.set_cons_zero, List.set_cons_succ]
    refine wpAnyH_done (by kernel_rfl) ?_ _
    go_wp2
    go_ret2
    exact ⟨rfl, grow_trans HQ2.out hHeld⟩
  · rw [if_pos rfl, if_pos rfl]
    go_enter Tryz.func46, Tryz.ntmps46
    go_wp2_with (first
      | ((with_reducible refine at_bxd 5 ?_); refine wpList_bx _ rfl _ _ rfl _ rfl ?_; intro w1 b5 hg5 hl5 B5 q5; have HB5 := hidden B5; have HQ5 := hidden q5; clear hg5 hl5 B5 q5)
      | (go_at_call 90; refine (HSD.out _ HQ5.out).mono ?_; rintro e w2 ⟨rfl, b2⟩; have HB52 := hidden (HB5.out.grow b2); have HQ2 := hidden (grow_trans HQ5.out b2); clear b2))
    refine wp_region_held_drew (S := fun w' => Below w2.heap.size w2 w') (by kernel_rfl) ((below_drewN (Below.refl _ _) 1)) (fun hHeld => ?_)
    refine wpAnyH_take (i := 0) (v := .agg (B K)) rfl (by kernel_rfl) (by kernel_rfl) (by kernel_rfl) (fun _ _ _ h => h) (yieldsIf_load_mid rfl 31 (.tmp 5) rfl b5 0 rfl (B K).toList _ (fun w hS => (HB52.out.grow hS).range) Tryz.underlying31 rfl HPL.out) hHeld ?_
    simp only [Act.put, List.getElem_toArray, List.getElem_cons_zero, List.setIfInBounds_toArray, List.set_cons_zero, List.set_cons_succ]
    refine wpAnyH_take (i := 1) (v := v) rfl (by kernel_rfl) (by kernel_rfl) (by kernel_rfl) (fun _ _ _ h => h) (Or.inl ⟨by rfl, fun w hS => by go_simp⟩) hHeld ?_
    simp only [Act.put, List.getElem_toArray, List.getElem_cons_zero, List.getElem_cons_succ, List.setIfInBounds_toArray, List.set_cons_zero, List.set_cons_succ]
    refine wpAnyH_take (i := 2) (v := .int .i64 h) rfl (by kernel_rfl) (by kernel_rfl) (by kernel_rfl) (fun _ _ _ h => h) (Or.inl ⟨by rfl, fun w hS => by go_simp⟩) hHeld ?_
    simp only [Act.put, List.getElem_toArray, List.getElem_cons_zero, List.getElem_cons_succ, List.setIfInBounds_toArray, List.set_cons_zero, List.set_cons_succ]
    refine wpAnyH_ready (rs := [3]) (by kernel_rfl) (by simp) ?_
    refine AllReadyH.cons rfl (fun KQ hK => ?_) AllReadyH.nil
    go_simp
    refine (HDP.out _ (grow_trans HQ2.out hHeld)).mono ?_
    rintro e z1 ⟨rfl, a1⟩
    refine hK.out _ _ (grow_trans hHeld a1) (fun hHeld => ?_)
    clear hK KQ
    refine wpAnyH_ready (rs := [4]) (by kernel_rfl) (by simp) ?_
    refine AllReadyH.cons rfl (fun KQ hK => ?_) AllReadyH.nil
    go_simp
    refine (HBT.out _).mono ?_
    rintro e z2 ⟨rfl, a2⟩
    refine hK.out _ _ (grow_trans hHeld a2) (fun hHeld => ?_)
    clear hK KQ
    refine wpAnyH_take (i := 5) (v := .bool true) rfl (by kernel_rfl) (by kernel_rfl) (by kernel_rfl) (fun _ _ _ h => h) (Or.inl ⟨by rfl, fun w hS => by go_simp⟩) hHeld ?_
    simp only [Act.put, List.getElem_toArray, List.getElem_cons_zero, List.getElem_cons_succ, List.setIfInBounds_toArray, List.set_cons_zero, List.set_cons_succ]
    refine wpAnyH_done (by kernel_rfl) ?_ _
    go_wp2
    go_ret2
    exact ⟨rfl, grow_trans HQ2.out hHeld⟩

/-- What Handles answers of a root that is one. -/
def HdPost (hs : List Nat) (fin : Int) (w : World) (e : Ending) (w' : World) : Prop :=
  ∃ a c, e = .returned (.tuple #[.slice a hs.length c, .int .i64 fin, .int .i64 0]) ∧ w'.ownsRow w.heap.size 3 1 (.slice a hs.length c) hs.length (nats hs) ∧ Below w.heap.size w w'

set_option maxHeartbeats 400000 in
theorem handles_bad {w : World} {v : Value} {mk : Bool} {ct : Int → Nat} {ca : Int → Ce} (V : Vw w v mk ct ca) (h : Int) (K : List Int) (e0 : Int) (he : vRt mk (ct h) (ca h) h = e0) (h0 : e0 ≠ 0) : Calls Tryz.prog 45 #[v, .int .i64 h, .agg (B K)] w fun e w' => e = .returned (.tuple #[.slice none 0 0, .int .i64 0, .int .i64 e0]) ∧ Below w.heap.size w w' := by
  have HR : Hid (∀ w', Below w.heap.size w w' → Calls Tryz.prog 87 #[v, .int .i64 h] w' fun e w'' => e = .returned (.int .i64 e0) ∧ Below w'.heap.size w' w'') := fun w' hb => by
    have := root_any (V.grow hb) h
    rwa [he] at this
  have hb0 : (e0 == 0) = false := by simp [h0]
  clear V he h0
  go_enter Tryz.func45, Tryz.ntmps45
  go_wp2_with (first
    | ((with_reducible refine at_bxd 5 ?_); refine wpList_bx _ rfl _ _ rfl _ rfl ?_; intro w1 b5 hg5 hl5 B5 q5; have HQ5 := hidden q5; clear hg5 hl5 B5 q5)
    | (go_at_call 87; refine (HR.out _ HQ5.out).mono ?_; rintro e w2 ⟨rfl, b2⟩))
  go_ret3
  exact ⟨rfl, grow_trans HQ5.out b2⟩

def sLen : Value → Nat
  | .slice _ n _ => n
  | _ => 0

theorem cat_is {cs : List (Nat × Ce)} {h : Nat} (h1 : 1 ≤ h) : cat cs (h : Int) = ce cs (h - 1) := by
  rw [cat_nat, sdC, if_neg (by omega)]

set_option maxHeartbeats 4000000 in
theorem handles_any {w : World} {v : Value} {cs : List (Nat × Ce)} {pend : List Nat} (V : Vw w v true (cot cs) (cat cs)) (W : Wf cs pend) (h : Nat) (T : Tre) (hT : IsT cs h T) (K : List Int) (hK : Key K) (he : vRt true (cot cs h) (cat cs h) h = 0) : Calls Tryz.prog 45 #[v, .int .i64 (h : Int), .agg (B K)] w (HdPost (T.hs K h) (T.fin K h) w) := by
  have HR : Hid (∀ w', Below w.heap.size w w' → Calls Tryz.prog 87 #[v, .int .i64 (h : Int)] w' fun e w'' => e = .returned (.int .i64 0) ∧ Below w'.heap.size w' w'') := fun w' hb => by
    have := root_any (V.grow hb) (h : Int)
    rwa [he] at this
  have HPS : Hid ((Tryz.prog.info? 31).map (·.size) = some (B K).size) := by show _ = _; rw [B_size, hK.1]; exact size_path
  have HV := hidden V
  have HW := hidden W
  have HK := hidden hK
  have HT := hidden hT
  have HN : Hid ((T.hs K h).length ≤ 256) := by
    show _ ≤ _
    rw [Tre.hs_oth]
    by_cases k : (sdC cs h).kind = 2
    · have := (way_tree W K T h (sdC cs h).dp hT (fun _ => rfl) (by
        match T, hT with
        | .emp, e => exact absurd k (by rw [show h = 0 from e]; show ¬ zc.kind = 2; decide)
        | .lf _ _, ⟨h1, _, h3, _⟩ => rw [sdC, if_neg (by omega)] at k; omega
        | .nd d hl hr L R, hT => 
          have := (nd_ok W hT).dp
          obtain ⟨h1, _, _, h4, _⟩ := hT
          rw [sdC, if_neg (by omega), h4]
          omega)).2.2
      omega
    · have := (way_tree W K T h 0 hT (fun q => absurd q k) (by omega)).2.2
      omega
  have HPost : Hid (∀ a c w', w'.ownsRow w.heap.size 3 1 (.slice a (T.hs K h).length c) (T.hs K h).length (nats (T.hs K h)) → Below w.heap.size w w' → HdPost (T.hs K h) (T.fin K h) w (.returned (.tuple #[.slice a (T.hs K h).length c, .int .i64 (T.fin K h : Int), .int .i64 0])) w') := fun a c w' h1 h2 => ⟨a, c, rfl, h1, h2⟩
  obtain ⟨hh, hhe⟩ : ∃ y : Int, y = (h : Int) := ⟨_, rfl⟩
  rw [← hhe] at HR ⊢
  have HHE := hidden hhe
  clear V W hK hT he hhe
  generalize HE : HdPost (T.hs K h) (T.fin K h) w = P at HPost ⊢
  go_enter Tryz.func45, Tryz.ntmps45
  go_wp2_with (first
    | ((with_reducible refine at_bxd 5 ?_); refine wpList_bx _ rfl _ _ rfl _ rfl ?_; intro w1 b5 hg5 hl5 B5 q5; have HB5 := hidden B5; have HQ5 := hidden q5; have HG5 := hidden hg5; clear hg5 hl5 B5 q5)
    | (go_at_call 87; refine (HR.out _ HQ5.out).mono ?_; rintro e w2 ⟨rfl, b2⟩; have HB52 := hidden (HB5.out.grow b2); have HQ2 := hidden (grow_trans HQ5.out b2); clear b2))
  clear HR HB5 HQ5 HG5
  go_loopw [6, 7] (fun wv ev wr => ∃ (pre : List Nat) (x : Nat) (U : Tre) (a : Option Addr) (n c : Nat), wv = .slice a n c ∧ ev = .int .i64 (x : Int) ∧ Hid (n = pre.length) ∧ Hid (wr.ownsRow w2.heap.size 3 1 (.slice a n c) n (nats pre)) ∧ Hid (IsT cs x U ∧ pre ++ U.hs K x = T.hs K h ∧ U.fin K x = T.fin K h) ∧ Hid (Below w2.heap.size w2 wr)) (fun wv _ _ => 300 - sLen wv)
  case atStart => exact ⟨[], h, T, none, 0, 0, rfl, by rw [HHE.out], rfl, World.ownsRow_nil _ _ _ _, ⟨HT.out, rfl, rfl⟩, Below.refl _ _⟩
  case round =>
    clear HT HHE
    obtain ⟨pre, x, U, a, n, c, rfl, rfl, hn, hO, hU, hB⟩ := hrel
    have HVR := hidden (HV.out.grow (grow_trans HQ2.out hB.out))
    have hlen : n + (U.hs K x).length = (T.hs K h).length := by
      have := congrArg List.length hU.out.2.1
      rw [List.length_append] at this
      rw [hn.out]
      exact this
    have h256 := HN.out
    have HKD : Hid (Calls Tryz.prog 55 #[v, .int .i64 (x : Int)] wr fun e w' => e = .returned (.int .u8 (cat cs (x : Int)).kind) ∧ Below wr.heap.size wr w') := kind_any HVR.out (x : Int)
    have HFin : Hid (U.hs K x = [] → U.fin K x = x → ∀ w', Below wr.heap.size wr w' → P (.returned (.tuple #[.slice a n c, .int .i64 (x : Int), .int .i64 0])) w') := fun e1 e2 w' hb => by
      have q1 := hU.out.2.1
      rw [e1, List.append_nil] at q1
      have q2 := hU.out.2.2
      rw [e2] at q2
      have q3 := hn.out
      have hO' := owR_grow (owR_base hO.out HQ2.out.size) hb
      rw [q3, q1] at hO'
      rw [q3, q1, q2]
      exact HPost.out a c w' hO' (grow_trans (grow_trans HQ2.out hB.out) hb)
    cases U with
    | emp =>
      have hx : x = 0 := hU.out.1
      have HKZ : Hid ((cat cs (x : Int)).kind = 0) := by rw [hx]; rfl
      rw [HKZ.out] at HKD
      have HF := hidden (HFin.out rfl rfl)
      generalize (x : Int) = y at HKD HF ⊢
      clear HFin HKZ hx hU hlen h256 HVR
      go_wp2_with (first
        | (go_at_call 55; refine HKD.out.mono ?_; rintro e w3 ⟨rfl, b3⟩; have HB3 := hidden b3; clear b3))
      go_ret3
      exact HF.out _ HB3.out
    | lf k b =>
      obtain ⟨h1, h2, h3, h4, h5⟩ := hU.out.1
      have HKZ : Hid ((cat cs (x : Int)).kind = 1) := by rw [cat_is h1]; exact h3
      rw [HKZ.out] at HKD
      have HF := hidden (HFin.out rfl rfl)
      generalize (x : Int) = y at HKD HF ⊢
      clear HFin HKZ hU hlen h256 HVR h1 h2 h3 h4 h5
      go_wp2_with (first
        | (go_at_call 55; refine HKD.out.mono ?_; rintro e w3 ⟨rfl, b3⟩; have HB3 := hidden b3; clear b3))
      go_ret3
      exact HF.out _ HB3.out
    | nd d hl hr L R =>
      have hno := nd_ok HW.out hU.out.1
      obtain ⟨h1, h2, h3, h4, h5, h6, h7, h8⟩ := hU.out.1
      have hca := cat_is (cs := cs) h1
      rw [show (cat cs (x : Int)).kind = 2 by rw [hca]; exact h3] at HKD
      have HFK : Hid (∀ w', Below w.heap.size w w' → Calls Tryz.prog 46 #[v, .int .i64 (x : Int), .agg (B K)] w' fun e w'' => e = .returned (.tuple #[.int .i64 ((if kb K d = 1 then hr else hl : Nat) : Int), .int .i64 ((if kb K d = 1 then hl else hr : Nat) : Int)]) ∧ Below w'.heap.size w' w'') := fun w' hb => by
        have := fork_any (HV.out.grow hb) (x : Int) K HK.out (by rw [hca]; exact h3) (by rw [hca, h4]; exact hno.dp)
        rw [hca, h4, h5, h6] at this
        exact this
      have hcut : (Tre.nd d hl hr L R).hs K x = x :: (if kb K d = 1 then R.hs K hr else L.hs K hl) := rfl
      have hfi : (Tre.nd d hl hr L R).fin K x = (if kb K d = 1 then R.fin K hr else L.fin K hl) := rfl
      have HNX : Hid (∃ U', IsT cs (if kb K d = 1 then hr else hl) U' ∧ (pre ++ [x]) ++ U'.hs K (if kb K d = 1 then hr else hl) = T.hs K h ∧ U'.fin K (if kb K d = 1 then hr else hl) = T.fin K h) := by
        have q1 := hU.out.2.1
        have q2 := hU.out.2.2
        rw [hcut] at q1
        rw [hfi] at q2
        show ∃ _, _
        by_cases q : kb K d = 1
        · rw [if_pos q] at q1 q2 ⊢
          exact ⟨R, h8, by rw [List.append_assoc]; exact q1, q2⟩
        · rw [if_neg q] at q1 q2 ⊢
          exact ⟨L, h7, by rw [List.append_assoc]; exact q1, q2⟩
      have hn256 : n + 1 ≤ 256 := by
        rw [hcut, List.length_cons] at hlen
        omega
      generalize (if kb K d = 1 then hr else hl : Nat) = m1 at HFK HNX
      generalize (if kb K d = 1 then hl else hr : Nat) = m2 at HFK
      obtain ⟨y, hy⟩ : ∃ y : Int, y = (x : Int) := ⟨_, rfl⟩
      rw [← hy] at HKD HFK
      rw [← hy]
      have HY := hidden hy
      have H256 := hidden hn256
      clear HFin hU hlen h256 HVR h1 h2 h3 h4 h5 h6 h7 h8 hca hcut hfi hno hy hn256
      go_wp2_with (first
        | (go_at_call 55; refine HKD.out.mono ?_; rintro e w3 ⟨rfl, b3⟩; have HB3 := hidden b3; have HO3 := hidden ((owR_grow (owR_grow hO.out b3) (grow_alloc w3 (.cells #[.int .i64 y] 3)))); clear b3)
        | (at_builtin; refine wpList_appB _ rfl _ _ _ rfl w2.heap.size 3 1 8 Tryz.underlying73 info_nat (by omega) _ n (nats pre) rfl HO3.out w3.heap.size [Value.int .i64 y] rfl (Blk.new _ _ _) rfl (by intro u hu; simp at hu; subst hu; rfl) (by have := H256.out; simp only [maxLen]; omega) (by have := H256.out; omega) (Nat.le_trans hB.out.size (Nat.le_trans HB3.out.size (by simp))) ?_; intro a4 c4 w4 o4 g4; have HO4 := hidden o4; have HB4 := hidden (owR_below (grow_trans (grow_trans hB.out HB3.out) (grow_alloc w3 (.cells #[.int .i64 y] 3))) HO3.out (Nat.le_refl _) g4); clear o4 g4)
        | ((with_reducible refine at_ldd 30 5 ?_); refine wpList_ld _ rfl _ _ rfl b5 _ rfl (HB52.out.grow HB4.out) _ _ Tryz.underlying31 HPS.out ?_)
        | (go_at_call 46; refine (HFK.out _ (grow_trans HQ2.out HB4.out)).mono ?_; rintro e w5 ⟨rfl, b5'⟩; have HB5 := hidden b5'; clear b5'))
      obtain ⟨U', hU1, hU2, hU3⟩ := HNX.out
      have ho5 := owR_grow HO4.out HB5.out
      rw [HY.out, ← nats_snoc] at ho5
      exact ⟨⟨pre ++ [x], m1, U', a4, n + 1, c4, rfl, rfl, by rw [List.length_append, List.length_singleton, ← hn.out]; exact rfl, ho5, ⟨hU1, hU2, hU3⟩, grow_trans HB4.out HB5.out⟩, by have := H256.out; simp only [sLen]; omega⟩

end Go.Proofs.YtdpaanidangnlaaGreatDoor

/- The document's Find and the law's few, as contracts. -/
namespace Go.Proofs.YtdpaanidangnlaaGreatDoor
set_option maxRecDepth 20000
open Go.RowKit

/-- What the document's Find tells. -/
def rfnd (es : List Ent) (K : List Int) : List Int × Bool := match es.find? (fun e => decide (e.1 = K)) with
  | some e => (e.2, true)
  | none => ([], false)
def RfPost (r : List Int × Bool) (w : World) (e : Ending) (w' : World) : Prop :=
  ∃ a c sp, e = .returned (.tuple #[.slice a r.1.length c, .bool r.2]) ∧ Own w.heap.size w' (.slice a r.1.length c) r.1 sp ∧ Below w.heap.size w w'

theorem rfnd_hit (es : List Ent) (K : List Int) (k : Nat) (hk : k < es.length) (h : ∀ j, j < k → (es.getD j e00).1 ≠ K) (he : (es.getD k e00).1 = K) : rfnd es K = ((es.getD k e00).2, true) := by
  have h1 : es.find? (fun e => decide (e.1 = K)) = some (es.getD k e00) := by
    rw [List.find?_eq_some_iff_append]
    refine ⟨by simpa using he, es.take k, es.drop (k + 1), ?_, fun a ha => ?_⟩
    · have : es.getD k e00 = es[k] := by simp [List.getD, hk]
      rw [this]
      simp
    · obtain ⟨j, hj, rfl⟩ := List.getElem_of_mem ha
      rw [List.length_take] at hj
      have := h j (by omega)
      rw [List.getElem_take]
      simp [List.getD, show j < es.length by omega] at this
      simpa using this
  unfold rfnd
  rw [h1]
theorem rfnd_miss (es : List Ent) (K : List Int) (h : ∀ j, j < es.length → (es.getD j e00).1 ≠ K) : rfnd es K = ([], false) := by
  have h1 : es.find? (fun e => decide (e.1 = K)) = none := by
    rw [List.find?_eq_none]
    intro a ha
    obtain ⟨j, hj, rfl⟩ := List.getElem_of_mem ha
    have := h j hj
    simp [List.getD, hj] at this
    simpa using this
  unfold rfnd
  rw [h1]
theorem rfnd_mem {es : List Ent} {K : List Int} : (rfnd es K).2 = true ↔ ∃ e ∈ es, e.1 = K := by
  unfold rfnd
  cases h : es.find? (fun e => decide (e.1 = K)) with
  | none =>
    rw [List.find?_eq_none] at h
    simp only [Bool.false_eq_true, false_iff]
    rintro ⟨e, he, hk⟩
    exact h e he (by simpa using hk)
  | some e =>
    simp only [true_iff]
    exact ⟨e, List.mem_of_find?_eq_some h, by simpa using List.find?_some h⟩

set_option maxRecDepth 100000 in
set_option maxHeartbeats 8000000 in
theorem rfind_any (v : Value) (V : Nat → Value) (es : List Ent) (K : List Int) (w : World) (hv : PrAt w v V es) (hn : es.length ≤ 4096) (hl : ∀ e ∈ es, e.2.length ≤ 1024) (hK : Key K) :
    Calls Tryz.prog 39 #[v, .agg (B K)] w (RfPost (rfnd es K) w) := by
  obtain ⟨a, cap, rfl, hcap, hc, hr⟩ := hv
  have HC := hidden hc
  have HR := hidden hr
  have HLL := hidden hl
  have HK := hidden hK
  have HPL := hidden (pth_ln K hK.1)
  obtain ⟨n, hnn⟩ : ∃ n, n = es.length := ⟨_, rfl⟩
  have HN := hidden hnn
  have HMiss : Hid ((∀ j, j < es.length → (es.getD j e00).1 ≠ K) → ∀ w', Below w.heap.size w w' → RfPost (rfnd es K) w (.returned (.tuple #[.slice none 0 0, .bool false])) w') := fun h w' hb => by
    rw [rfnd_miss es K h]
    exact ⟨none, 0, [], rfl, Own.nil _ _, hb⟩
  have HHit : Hid (∀ k, k < es.length → (∀ j, j < k → (es.getD j e00).1 ≠ K) → (es.getD k e00).1 = K → ∀ a m c sp w', Own w.heap.size w' (.slice a m c) (es.getD k e00).2 sp → Below w.heap.size w w' → RfPost (rfnd es K) w (.returned (.tuple #[.slice a m c, .bool true])) w') := fun k hk h he a m c sp w' ho hb => by
    rw [rfnd_hit es K k hk h he]
    obtain ⟨a', c', e⟩ := ho.slice
    injection e with e1 e2 e3
    subst e2
    exact ⟨a, c, sp, rfl, ho, hb⟩
  generalize RfPost (rfnd es K) w = P at HMiss HHit ⊢
  rw [← hnn] at hn ⊢
  clear hc hr hcap hnn hl hK
  go_enter Tryz.func39, Tryz.ntmps39
  go_wp2_with (first
    | ((with_reducible refine at_bxd 3 ?_); refine wpList_bx _ rfl _ _ rfl _ rfl ?_; intro w1 b3 hg3 hl3 B3 q3; have HB3 := hidden B3; have HQ3 := hidden q3; clear hg3 hl3 B3 q3))
  go_loopw [6] (fun i wr => ∃ k : Nat, k ≤ n ∧ i = .int .i64 k ∧ Hid (∀ j, j < k → (es.getD j e00).1 ≠ K) ∧ Hid (Below w1.heap.size w1 wr)) (fun i _ => n - (intOf i).toNat)
  case atStart => exact ⟨0, by omega, rfl, fun j hj => by omega, Below.refl _ _⟩
  case round =>
    obtain ⟨k, hk, rfl, hno, hbw⟩ := hrel
    by_cases hlt : k < n
    · have hlt' : k < es.length := by rw [← HN.out]; exact hlt
      obtain ⟨g, off, rfl, hcc⟩ := HC.out (by omega)
      have z1 : (k : Int) < (n : Int) := by omega
      have z0 : (0 : Int) ≤ (k : Int) := by omega
      obtain ⟨hkey, hrd⟩ := HR.out k hlt'
      have HLE : Hid ((Tryz.prog.info? 31).map (·.size) = some (B (es.getD k e00).1).toList.length) := pth_ln _ hkey.1
      have HCW := hidden (rng_grow (hcc k hlt') (grow_trans HQ3.out hbw.out))
      have HSR : Hid (wr.drew.rangeAt g (off + k * 33) (B (es.getD k e00).1).toList ∧ wr.drew.rangeAt b3 0 (B K).toList) := ⟨rng_key (rng_grow HCW.out (below_drewN (Below.refl _ _) 1)), ((HB3.out.grow hbw.out).grow (below_drewN (Below.refl _ _) 1)).range⟩
      have hE := path_eq (es.getD k e00).1 K hkey.1 HK.out.1
      have HRD := hidden (hrd.grow (grow_trans HQ3.out hbw.out))
      have HLN : Hid ((es.getD k e00).2.length ≤ 1024) := by
        refine HLL.out _ ?_
        rw [show es.getD k e00 = es[k] by simp [List.getD, hlt']]
        exact List.getElem_mem hlt'
      have HHk := hidden (HHit.out k hlt' hno.out)
      have HKS : Hid ((es.getD k e00).1 ≠ K → ∀ j, j < k + 1 → (es.getD j e00).1 ≠ K) := fun hne j hj => by
        by_cases q : j = k
        · rw [q]; exact hne
        · exact hno.out j (by omega)
      have HVC := hidden (rng_val HCW.out hkey.1)
      obtain ⟨E, hEE⟩ : ∃ E, E = es.getD k e00 := ⟨_, rfl⟩
      rw [← hEE] at HLE HCW HSR hE HRD HLN HHk HKS
      clear hcc hkey hrd hlt' hEE
      by_cases hq : E.1 = K
      · have HH2 := hidden (HHk.out hq)
        simp only [hq, decide_true] at hE
        have hEb : ∀ w, (Op.equalIn 10000 31 (.agg (B E.1)) (.agg (B K))).run Tryz.prog w = .ok true w := by rw [hq]; exact hE
        obtain ⟨va, vc, hvs, _⟩ := HRD.out
        rw [hvs] at HVC HRD
        have hvc := HVC.out
        have HO := hidden (Own.empty w.heap.size wr.drew (Nat.le_trans HQ3.out.size hbw.out.size))
        have HR2 := hidden ((HRD.out.grow (below_drewN (Below.refl _ _) 1)).grow (grow_alloc wr.drew (.cells #[] 5)))
        have HBW := hidden (grow_trans (grow_trans HQ3.out hbw.out) (grow_trans (below_drewN (Below.refl wr.heap.size wr) 1) (grow_alloc wr.drew (.cells #[] 5))))
        have hvd : (wr.drew.alloc (.cells #[] 5)).cell? ⟨g, off + k * 33 + 32, none⟩ = some (.slice va E.2.length vc) := by
          have h1 : wr.drew.cell? ⟨g, off + k * 33 + 32, none⟩ = some (.slice va E.2.length vc) := hvc
          exact below_cell (grow_alloc _ _) h1
        have HSZ : Hid (w.heap.size ≤ wr.drew.heap.size) := Nat.le_trans HQ3.out.size hbw.out.size
        clear hE hq HHk HKS HVC hvs hvc hno
        go_wp2_with fail
        refine wp_region_held_drew (S := fun w' => w'.rangeAt g (off + k * 33) (B E.1).toList ∧ w'.rangeAt b3 0 (B K).toList) (by kernel_rfl) (HSR.out) (fun hHeld => ?_)
        refine wpAnyH_take (i := 0) (v := .slice (some ⟨g, off, none⟩) n cap) rfl (by kernel_rfl) (by kernel_rfl) (by kernel_rfl) (fun _ _ _ h => h) (Or.inl ⟨by rfl, fun w hS => by go_simp⟩) hHeld ?_
        simp only [Act.put, List.getElem_toArray, List.getElem_cons_zero, List.setIfInBounds_toArray, List.set_cons_zero, List.set_cons_succ]
        refine wpAnyH_take (i := 1) (v := .int .i64 k) rfl (by kernel_rfl) (by kernel_rfl) (by kernel_rfl) (fun _ _ _ h => h) (Or.inl ⟨by rfl, fun w hS => by go_simp⟩) hHeld ?_
        simp only [Act.put, List.getElem_toArray, List.getElem_cons_zero, List.getElem_cons_succ, List.setIfInBounds_toArray, List.set_cons_zero, List.set_cons_succ]
        refine wpAnyH_take (i := 2) (v := .pointer (some ⟨g, off + k * 33, none⟩)) rfl (by kernel_rfl) (by kernel_rfl) (by kernel_rfl) (fun _ _ _ h => h) (Or.inl ⟨by rfl, fun w hS => by go_simp⟩) hHeld ?_
        simp only [Act.put, List.getElem_toArray, List.getElem_cons_zero, List.getElem_cons_succ, List.setIfInBounds_toArray, List.set_cons_zero, List.set_cons_succ]
        refine wpAnyH_take (i := 3) (v := .pointer (some ⟨g, off + k * 33, none⟩)) rfl (by kernel_rfl) (by kernel_rfl) (by kernel_rfl) (fun _ _ _ h => h) (Or.inl ⟨by rfl, fun w hS => by go_simp⟩) hHeld ?_
        simp only [Act.put, List.getElem_toArray, List.getElem_cons_zero, List.getElem_cons_succ, List.setIfInBounds_toArray, List.set_cons_zero, List.set_cons_succ]
        refine wpAnyH_take (i := 4) (v := .agg (B E.1)) rfl (by kernel_rfl) (by kernel_rfl) (by kernel_rfl) (fun _ _ _ h => h) (yieldsIf_load_mid rfl 31 (.tmp 16) rfl g (off + k * 33) rfl (B E.1).toList _ (fun w hS => hS.1) Tryz.underlying31 rfl HLE.out) hHeld ?_
        simp only [Act.put, List.getElem_toArray, List.getElem_cons_zero, List.getElem_cons_succ, List.setIfInBounds_toArray, List.set_cons_zero, List.set_cons_succ]
        refine wpAnyH_take (i := 5) (v := .agg (B K)) rfl (by kernel_rfl) (by kernel_rfl) (by kernel_rfl) (fun _ _ _ h => h) (yieldsIf_load_mid rfl 31 (.tmp 3) rfl b3 0 rfl (B K).toList _ (fun w hS => hS.2) Tryz.underlying31 rfl HPL.out) hHeld ?_
        simp only [Act.put, List.getElem_toArray, List.getElem_cons_zero, List.getElem_cons_succ, List.setIfInBounds_toArray, List.set_cons_zero, List.set_cons_succ]
        refine wpAnyH_take (i := 6) (v := .bool true) rfl (by kernel_rfl) (by kernel_rfl) (by kernel_rfl) (fun _ _ _ h => h) (Or.inl ⟨by rfl, fun w hS => by go_simp⟩) hHeld ?_
        simp only [Act.put, List.getElem_toArray, List.getElem_cons_zero, List.getElem_cons_succ, List.setIfInBounds_toArray, List.set_cons_zero, List.set_cons_succ]
        refine wpAnyH_done (by kernel_rfl) ?_ _
        clear hHeld
        generalize wr.drew = wd at *
        go_wp2_with (first
          | (at_builtin; refine wpList_app _ rfl _ _ rfl w.heap.size _ _ [] [] E.2 HO.out HR2.out rfl rfl (by have := HLN.out; simp; omega) (Nat.le_trans HBW.out.size (Nat.le_refl _)) ?_; intro v' w' sp' o' g' _ _))
        obtain ⟨ra, rc, rfl⟩ := o'.slice
        exact HH2.out ra _ rc sp' w' o' (below_row HBW.out (by simpa [Value.ownBlock] using g') HSZ.out)
      · have HKT := hidden (HKS.out hq)
        simp only [hq, decide_false] at hE
        clear hq HHk HKS HVC hno HRD
        go_wp2_with fail
        refine wp_region_held_drew (S := fun w' => w'.rangeAt g (off + k * 33) (B E.1).toList ∧ w'.rangeAt b3 0 (B K).toList) (by kernel_rfl) (HSR.out) (fun hHeld => ?_)
        refine wpAnyH_take (i := 0) (v := .slice (some ⟨g, off, none⟩) n cap) rfl (by kernel_rfl) (by kernel_rfl) (by kernel_rfl) (fun _ _ _ h => h) (Or.inl ⟨by rfl, fun w hS => by go_simp⟩) hHeld ?_
        simp only [Act.put, List.getElem_toArray, List.getElem_cons_zero, List.setIfInBounds_toArray, List.set_cons_zero, List.set_cons_succ]
        refine wpAnyH_take (i := 1) (v := .int .i64 k) rfl (by kernel_rfl) (by kernel_rfl) (by kernel_rfl) (fun _ _ _ h => h) (Or.inl ⟨by rfl, fun w hS => by go_simp⟩) hHeld ?_
        simp only [Act.put, List.getElem_toArray, List.getElem_cons_zero, List.getElem_cons_succ, List.setIfInBounds_toArray, List.set_cons_zero, List.set_cons_succ]
        refine wpAnyH_take (i := 2) (v := .pointer (some ⟨g, off + k * 33, none⟩)) rfl (by kernel_rfl) (by kernel_rfl) (by kernel_rfl) (fun _ _ _ h => h) (Or.inl ⟨by rfl, fun w hS => by go_simp⟩) hHeld ?_
        simp only [Act.put, List.getElem_toArray, List.getElem_cons_zero, List.getElem_cons_succ, List.setIfInBounds_toArray, List.set_cons_zero, List.set_cons_succ]
        refine wpAnyH_take (i := 3) (v := .pointer (some ⟨g, off + k * 33, none⟩)) rfl (by kernel_rfl) (by kernel_rfl) (by kernel_rfl) (fun _ _ _ h => h) (Or.inl ⟨by rfl, fun w hS => by go_simp⟩) hHeld ?_
        simp only [Act.put, List.getElem_toArray, List.getElem_cons_zero, List.getElem_cons_succ, List.setIfInBounds_toArray, List.set_cons_zero, List.set_cons_succ]
        refine wpAnyH_take (i := 4) (v := .agg (B E.1)) rfl (by kernel_rfl) (by kernel_rfl) (by kernel_rfl) (fun _ _ _ h => h) (yieldsIf_load_mid rfl 31 (.tmp 16) rfl g (off + k * 33) rfl (B E.1).toList _ (fun w hS => hS.1) Tryz.underlying31 rfl HLE.out) hHeld ?_
        simp only [Act.put, List.getElem_toArray, List.getElem_cons_zero, List.getElem_cons_succ, List.setIfInBounds_toArray, List.set_cons_zero, List.set_cons_succ]
        refine wpAnyH_take (i := 5) (v := .agg (B K)) rfl (by kernel_rfl) (by kernel_rfl) (by kernel_rfl) (fun _ _ _ h => h) (yieldsIf_load_mid rfl 31 (.tmp 3) rfl b3 0 rfl (B K).toList _ (fun w hS => hS.2) Tryz.underlying31 rfl HPL.out) hHeld ?_
        simp only [Act.put, List.getElem_toArray, List.getElem_cons_zero, List.getElem_cons_succ, List.setIfInBounds_toArray, List.set_cons_zero, List.set_cons_succ]
        refine wpAnyH_take (i := 6) (v := .bool false) rfl (by kernel_rfl) (by kernel_rfl) (by kernel_rfl) (fun _ _ _ h => h) (Or.inl ⟨by rfl, fun w hS => by go_simp⟩) hHeld ?_
        simp only [Act.put, List.getElem_toArray, List.getElem_cons_zero, List.getElem_cons_succ, List.setIfInBounds_toArray, List.set_cons_zero, List.set_cons_succ]
        refine wpAnyH_done (by kernel_rfl) ?_ _
        clear hHeld
        have hbd : Hid (Below w1.heap.size w1 wr.drew) := grow_trans hbw.out (below_drewN (Below.refl wr.heap.size wr) 1)
        generalize wr.drew = wd at *
        go_wp2_with fail
        exact ⟨⟨k + 1, by omega, by go_num, HKT, hbd⟩, by simp [intOf]; omega⟩
    · have hkn : k = es.length := by rw [← HN.out]; omega
      have z1 : ¬ (k : Int) < (n : Int) := by omega
      have HM := hidden (HMiss.out (by rw [← hkn]; exact hno.out) _ (grow_trans HQ3.out hbw.out))
      clear hkn
      go_wp2
      exact HM.out

/-- What the law's few answers: some of the entries, with unlike keys and values that may be. -/
def FwPost (w : World) (e : Ending) (w' : World) : Prop :=
  ∃ (its : List (Ent × Value)) (a : Option Addr) (c : Nat), e = .returned (.slice a its.length c) ∧ w'.ownsRow w.heap.size 62 33 (.slice a its.length c) its.length (flatP its) ∧ (∀ p ∈ its, Key p.1.1 ∧ Reads w p.2 p.1.2 ∧ p.1.2.length ≤ 1024) ∧ its.length ≤ 12 ∧ Apart1 (its.map (·.1)) ∧ Below w.heap.size w w'

set_option maxRecDepth 100000 in
set_option maxHeartbeats 8000000 in
theorem few8_any (v : Value) (V : Nat → Value) (es : List Ent) (w : World) (hv : PrAt w v V es) (hn : es.length ≤ 140737488355328) :
    Calls Tryz.prog 9 #[v] w (FwPost w) := by
  obtain ⟨a, cap, rfl, hcap, hc, hr⟩ := hv
  have HC := hidden hc
  have HR := hidden hr
  obtain ⟨n, hnn⟩ : ∃ n, n = es.length := ⟨_, rfl⟩
  have HN := hidden hnn
  have HPost : Hid (∀ (its : List (Ent × Value)) (a : Option Addr) (m c : Nat) w', m = its.length → w'.ownsRow w.heap.size 62 33 (.slice a m c) m (flatP its) → (∀ p ∈ its, Key p.1.1 ∧ Reads w p.2 p.1.2 ∧ p.1.2.length ≤ 1024) → its.length ≤ 12 → Apart1 (its.map (·.1)) → Below w.heap.size w w' → FwPost w (.returned (.slice a m c)) w') := fun its a m c w' e h1 h2 h3 h4 h5 => by
    subst e
    exact ⟨its, a, c, rfl, h1, h2, h3, h4, h5⟩
  generalize FwPost w = P at HPost ⊢
  rw [← hnn] at hn ⊢
  clear hc hr hcap hnn
  go_enter Tryz.func9, Tryz.ntmps9
  go_wp2_with fail
  go_loopw [3, 4] (fun s i wr => ∃ (k m : Nat) (its : List (Ent × Value)) (sa : Option Addr) (sc : Nat), k ≤ n ∧ m ≤ 12 ∧ i = .int .i64 k ∧ s = .slice sa m sc ∧ Hid (m = its.length) ∧ Hid (∀ p ∈ its, Key p.1.1 ∧ Reads w p.2 p.1.2 ∧ p.1.2.length ≤ 1024) ∧ Hid (Apart1 (its.map (·.1))) ∧ Hid (wr.ownsRow w.heap.size 62 33 (.slice sa m sc) m (flatP its)) ∧ Hid (Below w.heap.size w wr)) (fun _ i _ => n - (intOf i).toNat)
  case atStart => exact ⟨0, 0, [], none, 0, by omega, by omega, rfl, rfl, rfl, fun p hp => by simp at hp, List.Pairwise.nil, World.ownsRow_nil _ _ _ _, Below.refl _ _⟩
  case round =>
    obtain ⟨k, m, its, sa, sc, hk, hm12, rfl, rfl, hml, hia, hap, hio, hbw⟩ := hrel
    by_cases hlt : k < n
    · have z1 : (k : Int) < (n : Int) := by omega
      by_cases h12 : m < 12
      · have z2 : (m : Int) < 12 := by omega
        have hlt' : k < es.length := by rw [← HN.out]; exact hlt
        obtain ⟨g, off, rfl, hcc⟩ := HC.out (by omega)
        have z0 : (0 : Int) ≤ (k : Int) := by omega
        obtain ⟨hkey, hrd⟩ := HR.out k hlt'
        have HCC : Hid (∀ w', Below w.heap.size w w' → w'.rangeAt g (off + k * 33) (encP (es.getD k e00).1 (V k))) := fun w' hw' => rng_grow (hcc k hlt') hw'
        have HKY := hidden hkey
        have HRD := hidden hrd
        have HV1 := hidden (reads_one hrd)
        obtain ⟨E, hE⟩ : ∃ E, E = es.getD k e00 := ⟨_, rfl⟩
        rw [← hE] at HCC HKY HRD
        obtain ⟨u, hu⟩ : ∃ u, u = V k := ⟨_, rfl⟩
        rw [← hu] at HCC HRD HV1
        obtain ⟨ua, uc, hus, _⟩ := HRD.out
        rw [hus] at HCC HRD HV1
        have HFD : Hid (Calls Tryz.prog 39 #[.slice sa m sc, .agg (B E.1)] wr (RfPost (rfnd (its.map (·.1)) E.1) wr)) := by
          have hp := prAt_own (w := wr) (by rw [← hml.out]; exact hio.out) (fun p hp => (hia.out p hp).1) (fun p hp => (hia.out p hp).2.1.grow hbw.out)
          exact rfind_any _ _ _ E.1 wr hp (by rw [List.length_map, ← hml.out]; omega) (fun e he => by obtain ⟨p, hp, rfl⟩ := List.mem_map.1 he; exact (hia.out p hp).2.2) HKY.out
        have hmem := rfnd_mem (es := its.map (·.1)) (K := E.1)
        obtain ⟨r, hr⟩ : ∃ r, r = rfnd (its.map (·.1)) E.1 := ⟨_, rfl⟩
        rw [← hr] at HFD hmem
        obtain ⟨rz, rb⟩ := r
        have HME := hidden hmem
        have HFD2 : Hid (Calls Tryz.prog 39 #[.slice sa m sc, .agg (B E.1)] wr fun e w' => ∃ a l c, e = .returned (.tuple #[.slice a l c, .bool rb]) ∧ Below wr.heap.size wr w') := HFD.out.mono fun e w' ⟨a, c, sp, e1, _, e2⟩ => ⟨a, _, c, e1, e2⟩
        clear hcc hkey hrd hlt' hE hu hus hmem hr HFD
        cases rb with
        | true =>
          clear HME
          go_wp2_with (first
            | ((with_reducible refine at_ldd 24 23 ?_); refine wpList_ldk _ rfl _ rfl g (off + k * 33) E.1 rfl (rng_key (HCC.out _ hbw.out)) HKY.out.1 ?_)
            | (go_at_call 39; refine HFD2.out.mono ?_; rintro e w2 ⟨fa, fl, fc, rfl, q2⟩; have c2 := hidden (grow_trans hbw.out q2); have HIO := hidden (owR_grow hio.out q2); clear q2))
          exact ⟨⟨k + 1, m, its, sa, sc, by omega, by omega, by go_num, rfl, hml, hia, hap, HIO, c2⟩, by simp [intOf]; omega⟩
        | false =>
          have HNM : Hid (∀ e ∈ its.map (·.1), e.1 ≠ E.1) := fun e he hq => by
            have := HME.out.2 ⟨e, he, hq⟩
            exact absurd this (by simp)
          obtain ⟨ul, hul⟩ : ∃ ul, ul = E.2.length := ⟨_, rfl⟩
          have HUL := hidden hul
          have HCE : Hid (∀ w', Below w.heap.size w w' → w'.cell? ⟨g, off + k * 33 + 32, none⟩ = some (.slice ua ul uc)) := fun w' hb => by
            rw [hul]
            exact rng_val (HCC.out w' hb) HKY.out.1
          rw [← hul] at HCC HRD HV1
          have HUX : Hid (ul ≤ 140737488355328 ∨ 140737488355328 < ul) := by show _ ∨ _; omega
          clear hul HME
          by_cases hlen : ul ≤ 1024
          · have z3 : (ul : Int) ≤ 1024 := by omega
            have HIA : Hid (∀ p ∈ its ++ [(E, .slice ua ul uc)], Key p.1.1 ∧ Reads w p.2 p.1.2 ∧ p.1.2.length ≤ 1024) := by
              intro p hp
              rcases List.mem_append.1 hp with hp | hp
              · exact hia.out p hp
              · obtain rfl : p = (E, .slice ua ul uc) := by simpa using hp
                exact ⟨HKY.out, HRD.out, by rw [← HUL.out]; exact hlen⟩
            have HAP : Hid (Apart1 ((its ++ [(E, Value.slice ua ul uc)]).map (·.1))) := by
              show List.Pairwise _ _
              rw [List.map_append, List.pairwise_append]
              refine ⟨hap.out, by simp, fun x hx y hy => ?_⟩
              obtain rfl : y = E := by simpa using hy
              exact HNM.out x hx
            clear hlen HUX
            go_wp2_with (first
              | ((with_reducible refine at_ldd 24 23 ?_); refine wpList_ldk _ rfl _ rfl g (off + k * 33) E.1 rfl (rng_key (HCC.out _ hbw.out)) HKY.out.1 ?_)
              | (go_at_call 39; refine HFD2.out.mono ?_; rintro e w2 ⟨fa, fl, fc, rfl, q2⟩; have c2 := hidden (grow_trans hbw.out q2); have HIO := hidden (owR_grow hio.out q2); have hvc := HCE.out _ c2.out; clear q2)
              | ((with_reducible refine at_ldd 43 42 ?_); refine wpList_ldp _ rfl _ rfl g (off + k * 33) E.1 (.slice ua ul uc) rfl (HCC.out _ c2.out) HKY.out.1 ?_)
              | (refine wpList_bsp _ rfl _ rfl E.1 (.slice ua ul uc) rfl HKY.out.1 ?_)
              | (at_builtin; refine wpList_appP _ rfl _ _ rfl w.heap.size _ m (flatP its) (HIO.out.alloc _) rfl w2.heap.size E.1 (.slice ua ul uc) rfl (Blk.new _ _ _) HKY.out.1 rfl (by omega) (Nat.le_trans c2.out.size (by simp)) ?_; intro v' w3 ho3 hg3))
            have c3 := below_own (grow_trans c2.out (grow_alloc _ _)) (HIO.out.alloc _) (Nat.le_refl _) hg3
            rw [← flatP_snoc its (E, .slice ua ul uc)] at ho3
            obtain ⟨sa', sc', rfl⟩ : ∃ sa' sc', v' = .slice sa' (m + 1) sc' := by
              rcases ho3.2 with ⟨e, e2⟩ | ⟨g', cap', cur, e, _⟩
              · omega
              · exact ⟨_, _, e⟩
            exact ⟨⟨k + 1, m + 1, its ++ [(E, .slice ua ul uc)], sa', sc', by omega, by omega, by go_num, rfl, by show _ = _; rw [List.length_append, ← hml.out]; rfl, HIA, HAP, hidden ho3, hidden c3⟩, by simp [intOf]; omega⟩
          · have z3 : ¬ (ul : Int) ≤ 1024 := by omega
            clear hlen HUX
            go_wp2_with (first
              | ((with_reducible refine at_ldd 24 23 ?_); refine wpList_ldk _ rfl _ rfl g (off + k * 33) E.1 rfl (rng_key (HCC.out _ hbw.out)) HKY.out.1 ?_)
              | (go_at_call 39; refine HFD2.out.mono ?_; rintro e w2 ⟨fa, fl, fc, rfl, q2⟩; have c2 := hidden (grow_trans hbw.out q2); have HIO := hidden (owR_grow hio.out q2); have hvc := HCE.out _ c2.out; clear q2))
            exact ⟨⟨k + 1, m, its, sa, sc, by omega, by omega, by go_num, rfl, hml, hia, hap, HIO, c2⟩, by simp [intOf]; omega⟩
      · have z2 : ¬ (m : Int) < 12 := by omega
        go_wp2
        exact HPost.out its sa m sc _ hml.out hio.out hia.out (by rw [← hml.out]; exact hm12) hap.out hbw.out
    · have z1 : ¬ (k : Int) < (n : Int) := by omega
      go_wp2
      exact HPost.out its sa m sc _ hml.out hio.out hia.out (by rw [← hml.out]; exact hm12) hap.out hbw.out

end Go.Proofs.YtdpaanidangnlaaGreatDoor
