/- What a store tells as a node by digests (Node), as a contract. -/
import Derived.Test.YtjikgagaalbaeaaGreatDoorTr30
import Derived.Test.YtjikgagaalbaeaaGreatDoorTr31
import Derived.Test.YtjikgagaalbaeaaGreatDoorTr35
namespace Go.Proofs.YtjikgagaalbaeaaGreatDoor
set_option maxRecDepth 20000
open Go.RowKit

/-- What Node answers. -/
def vNd (mk : Bool) (ca : Int → Ce) (h : Int) : List Int := if (ca h).kind = 1 then nd 1 (ca h).key (vaD (ca h).bs) z32 z32 else if (ca h).kind = 2 then nd 2 z32 z32 (vDg mk ca ((ca h).l : Int)) (vDg mk ca ((ca h).r : Int)) else nd 0 z32 z32 z32 z32

theorem vNd_ok {w : World} {v : Value} {mk : Bool} {ct : Int → Nat} {ca : Int → Ce} (V : Vw w v mk ct ca) (h : Int) : (vNd mk ca h).length = 129 ∧ ∃ k a b c d, vNd mk ca h = nd k a b c d ∧ Nd k a b c d := by
  have z := z32_bytes
  have hq : ∃ k a b c d, vNd mk ca h = nd k a b c d ∧ Nd k a b c d := by
    unfold vNd
    split
    · exact ⟨_, _, _, _, _, rfl, by omega, by omega, (V.ok h).hk.1, dig_length _, rfl, rfl, (V.ok h).hk.2, dig_bytes _, z, z⟩
    · split
      · exact ⟨_, _, _, _, _, rfl, by omega, by omega, rfl, rfl, (vDg_len V _).1, (vDg_len V _).1, z, z, (vDg_len V _).2, (vDg_len V _).2⟩
      · exact ⟨_, _, _, _, _, rfl, by omega, by omega, rfl, rfl, rfl, rfl, z, z, z, z⟩
  obtain ⟨k, a, b, c, d, e, n⟩ := hq
  exact ⟨by rw [e]; exact n.length, k, a, b, c, d, e, n⟩

theorem nodeS_size {zs : List Int} (h : zs.length = 129) : (Tryz.prog.info? 108).map (·.size) = some (B zs).size := by rw [B_size, h]; kernel_rfl

theorem nodeS_zero : ∀ w, (zeroValue 108).run Tryz.prog w = .ok (.agg (B (nd 0 z32 z32 z32 z32))) w := zero_of_info (n := 129) (by kernel_rfl) |>.1

theorem zagg_node : Value.agg Tryz.zeroCells108 = .agg (B (nd 0 z32 z32 z32 z32)) := by kernel_rfl

set_option maxHeartbeats 4000000 in
theorem node_any {w : World} {v : Value} {mk : Bool} {ct : Int → Nat} {ca : Int → Ce} (V : Vw w v mk ct ca) (h : Int) (hL : Laid w) : Calls Tryz.prog 84 #[v, .int .i64 h] w fun e w' => e = .returned (.agg (B (vNd mk ca h))) ∧ Below w.heap.size w w' := by
  have HA : Hid (∀ w', Below w.heap.size w w' → Calls Tryz.prog 49 #[v, .int .i64 h] w' fun e w'' => e = .returned (.agg (cz (ca h)).toArray) ∧ Below w'.heap.size w' w'') := fun w' hb => V.atv w' h hb
  have HVA : Hid (∀ w', Below w.heap.size w w' → Calls Tryz.prog 91 #[(ca h).val] w' fun e w'' => e = .returned (.agg (B (vaD (ca h).bs))) ∧ Below w'.heap.size w' w'') := fun w' hb => value_any _ _ w' ((V.val h).grow hb) (hL.grow hb) (by have := V.len h; omega)
  have HDG : Hid (∀ w' q, Below w.heap.size w w' → Calls Tryz.prog 15 #[v, .int .i64 q] w' fun e w'' => e = .returned (.agg (B (vDg mk ca q))) ∧ Below w'.heap.size w' w'') := fun w' q hb => digest_any (V.grow hb) q (hL.grow hb)
  have HO := hidden (V.ok h)
  have hlen := (vNd_ok V h).1
  have HLl := hidden (vDg_len V ((ca h).l : Int)).1
  have HLr := hidden (vDg_len V ((ca h).r : Int)).1
  have hvs := (V.ok h).vs
  have hV : vNd mk ca h = if (ca h).kind = 1 then nd 1 (ca h).key (vaD (ca h).bs) z32 z32 else if (ca h).kind = 2 then nd 2 z32 z32 (vDg mk ca ((ca h).l : Int)) (vDg mk ca ((ca h).r : Int)) else nd 0 z32 z32 z32 z32 := rfl
  generalize vNd mk ca h = N at hV hlen ⊢
  obtain ⟨c, hc⟩ : ∃ c, c = ca h := ⟨_, rfl⟩
  rw [← hc] at HA HVA HO HLl HLr hV hvs
  have HNL := hidden hlen
  obtain ⟨sa, sk, hsv⟩ := hvs
  have HSV := hidden hsv
  clear hc hL hlen V
  by_cases h1 : c.kind = 1
  · rw [if_pos h1] at hV
    have HBU : Hid (Tryz.prog.built 108 [(0, .int .u8 1), (1, .agg (B c.key)), (2, .agg (B (vaD c.bs)))] = some (B N)) := by
      show _ = _
      rw [hV]
      exact built_leaf c.key (vaD c.bs) HO.out.hk.1 (dig_length _)
    have HVA2 : Hid (∀ w', Below w.heap.size w w' → Calls Tryz.prog 91 #[.slice sa c.bs.length sk] w' fun e w'' => e = .returned (.agg (B (vaD c.bs))) ∧ Below w'.heap.size w' w'') := by
      rw [← hsv]
      exact HVA
    have HK := hidden h1
    clear hV h1 hsv HVA HDG HLl HLr
    generalize vaD c.bs = VD at HBU HVA2
    go_enter Tryz.func84, Tryz.ntmps84
    go_wp2_with (first
    | ((with_reducible refine at_ald 4 ?_); refine wpList_al _ rfl _ rfl _ nodeS_zero ?_; intro w1 b4 hg4 hl4 B4 b1; have HB4 := hidden B4; have Hg4 := hidden hg4; have Hl4 := hidden hl4; clear B4 hg4 hl4)
    | (go_at_call 49; refine (HA.out _ b1).mono ?_; rintro e w2 ⟨rfl, b2⟩; have HB4a := hidden (HB4.out.grow b2); have Hb2 := hidden (grow_trans b1 b2); clear b2)
    | ((with_reducible refine at_ald 5 ?_); refine wpList_al _ rfl _ rfl _ zero_thC ?_; intro w3 b5 hg5 hl5 B5 b3; have HB4b := hidden (HB4a.out.grow b3); have HB5 := hidden B5; have Hg5 := hidden hg5; have Hb3 := hidden b3; have hne : b4 ≠ b5 := (by have := HB4a.out.lt; omega); clear B5 hg5 hl5 b3)
    | ((with_reducible refine at_st 5 ?_); refine wpList_sto _ rfl _ _ _ rfl b5 _ (cz c).toArray rfl rfl HB5.out (xszC _ (cz_th HO.out)) (xzsC _ (cz_th HO.out)) (all_oneCell_toArray (cz_one HO.out)) ?_; intro w4 B6 r6; have HB4c := hidden (HB4b.out.kept r6 hne); have HB6 := hidden B6; have Hb4 := hidden (below_row (grow_trans Hb2.out Hb3.out) r6 (by have := Hg5.out; have := Hb2.out.size; omega)); have c7 := B6.cell 32; simp only [List.getElem?_toArray] at c7; rw [(cz_at c HO.out).1, HK.out] at c7; clear B6 r6))
    have HBd : Hid (Below w4.heap.size w4 w4.drew) := below_drewN (Below.refl _ _) 1
    have HBL : Hid (∀ w', Below w4.heap.size w4 w' → Below w.heap.size w w') := fun w' hb => grow_trans Hb4.out hb
    have HB4d : Hid (∀ w', Below w4.heap.size w4 w' → Blk w' b4 108 (B (nd 0 z32 z32 z32 z32))) := fun w' hb => HB4c.out.grow hb
    have HKR : Hid (∀ w', Below w4.heap.size w4 w' → w'.rangeAt b5 35 (c.key.map (Value.int .u8))) := fun w' hb => (segK c HO.out).range (HB6.out.grow hb)
    have HVR : Hid (∀ w', Below w4.heap.size w4 w' → w'.cell? ⟨b5, 67, none⟩ = some (.slice sa c.bs.length sk)) := fun w' hb => by
      rw [(HB6.out.grow hb).cell, ← HSV.out]
      simpa using (cz_at c HO.out).2.2.2.1
    clear c7
    refine wp_region_last (S := fun w' => Below w4.heap.size w4 w') 6 (by kernel_rfl) (HBd.out) (fun hHeld => ?_)
    refine wpAnyL_take (i := 0) (v := .pointer (some ⟨b5, 35, none⟩)) rfl (by kernel_rfl) (by kernel_rfl) (by kernel_rfl) (by kernel_rfl) (by kernel_rfl) (fun _ _ _ h => h) (Or.inl ⟨by rfl, fun w hS => by go_simp⟩) hHeld ?_
    simp only [Act.put, List.getElem_toArray, List.getElem_cons_zero, List.setIfInBounds_toArray, List.set_cons_zero, List.set_cons_succ]
    refine wpAnyL_take (i := 1) (v := .agg (B c.key)) rfl (by kernel_rfl) (by kernel_rfl) (by kernel_rfl) (by kernel_rfl) (by kernel_rfl) (fun _ _ _ h => h) (yieldsIf_load_mid rfl 31 (.tmp 13) rfl b5 35 rfl (c.key.map (Value.int .u8)) _ (fun w hS => HKR.out _ hS) Tryz.underlying31 rfl (by rw [List.length_map, HO.out.hk.1]; exact size_path)) hHeld ?_
    simp only [Act.put, List.getElem_toArray, List.getElem_cons_zero, List.getElem_cons_succ, List.setIfInBounds_toArray, List.set_cons_zero, List.set_cons_succ]
    refine wpAnyL_take (i := 2) (v := .pointer (some ⟨b5, 67, none⟩)) rfl (by kernel_rfl) (by kernel_rfl) (by kernel_rfl) (by kernel_rfl) (by kernel_rfl) (fun _ _ _ h => h) (Or.inl ⟨by rfl, fun w hS => by go_simp⟩) hHeld ?_
    simp only [Act.put, List.getElem_toArray, List.getElem_cons_zero, List.getElem_cons_succ, List.setIfInBounds_toArray, List.set_cons_zero, List.set_cons_succ]
    refine wpAnyL_take (i := 3) (v := (.slice sa c.bs.length sk)) rfl (by kernel_rfl) (by kernel_rfl) (by kernel_rfl) (by kernel_rfl) (by kernel_rfl) (fun _ _ _ h => h) (Or.inl ⟨by rfl, fun w hS => by (have q1 := HVR.out _ hS; go_simp)⟩) hHeld ?_
    simp only [Act.put, List.getElem_toArray, List.getElem_cons_zero, List.getElem_cons_succ, List.setIfInBounds_toArray, List.set_cons_zero, List.set_cons_succ]
    refine wpAnyL_one (i := 4) rfl (by kernel_rfl) (fun KQ hK => ?_)
    go_simp
    refine (HVA2.out _ (HBL.out _ hHeld)).mono ?_
    rintro e z1 ⟨rfl, a1⟩
    refine hK.out _ _ (grow_trans hHeld a1) (fun hHeld => ?_)
    clear hK KQ
    refine wpAnyL_take (i := 5) (v := .agg (B N)) rfl (by kernel_rfl) (by kernel_rfl) (by kernel_rfl) (by kernel_rfl) (by kernel_rfl) (fun _ _ _ h => h) (Or.inl ⟨by rfl, fun w hS => exec_blc _ _ 108 _ (by rfl) _ (by rw [List.map_toArray]; exact HBU.out) w⟩) hHeld ?_
    simp only [Act.put, List.getElem_toArray, List.getElem_cons_zero, List.getElem_cons_succ, List.setIfInBounds_toArray, List.set_cons_zero, List.set_cons_succ]
    refine wpAnyL_last rfl (by kernel_rfl) (by kernel_rfl) (fun KQ hK => ?_)
    refine step_sto _ rfl _ _ _ rfl b4 _ (B N) rfl rfl (HB4d.out _ hHeld) (nodeS_size HNL.out) (by rw [B_size, B_size, HNL.out]; rfl) (B_one _) ?_
    intro z4 B9 r9
    refine hK.out _ _ ?_
    clear hK KQ
    go_wp2
    exact bodyPost_ret (v := .agg (B N)) (results_cell_row rfl _ _ b4 _ _ _ _ rfl B9 Tryz.underlying108 rfl (nodeS_size HNL.out)) rfl ⟨rfl, below_row (HBL.out _ hHeld) r9 Hg4.out⟩
  · rw [if_neg h1] at hV
    have n1 : (c.kind == 1) = false := by simp [h1]
    by_cases h2 : c.kind = 2
    · rw [if_pos h2] at hV
      have HBU : Hid (Tryz.prog.built 108 [(0, .int .u8 2), (3, .agg (B (vDg mk ca (c.l : Int)))), (4, .agg (B (vDg mk ca (c.r : Int))))] = some (B N)) := by
        show _ = _
        rw [hV]
        exact built_inner _ _ HLl.out HLr.out
      have HDl : Hid (∀ w', Below w.heap.size w w' → Calls Tryz.prog 15 #[v, .int .i64 (c.l : Int)] w' fun e w'' => e = .returned (.agg (B (vDg mk ca (c.l : Int)))) ∧ Below w'.heap.size w' w'') := fun w' hb => HDG.out w' _ hb
      have HDr : Hid (∀ w', Below w.heap.size w w' → Calls Tryz.prog 15 #[v, .int .i64 (c.r : Int)] w' fun e w'' => e = .returned (.agg (B (vDg mk ca (c.r : Int)))) ∧ Below w'.heap.size w' w'') := fun w' hb => HDG.out w' _ hb
      have HK := hidden h2
      generalize vDg mk ca (c.l : Int) = DL at HBU HDl
      generalize vDg mk ca (c.r : Int) = DR at HBU HDr
      clear hV h1 n1 h2 HVA HDG HLl HLr hsv HSV
      go_enter Tryz.func84, Tryz.ntmps84
      go_wp2_with (first
      | ((with_reducible refine at_ald 4 ?_); refine wpList_al _ rfl _ rfl _ nodeS_zero ?_; intro w1 b4 hg4 hl4 B4 b1; have HB4 := hidden B4; have Hg4 := hidden hg4; have Hl4 := hidden hl4; clear B4 hg4 hl4)
      | (go_at_call 49; refine (HA.out _ b1).mono ?_; rintro e w2 ⟨rfl, b2⟩; have HB4a := hidden (HB4.out.grow b2); have Hb2 := hidden (grow_trans b1 b2); clear b2)
      | ((with_reducible refine at_ald 5 ?_); refine wpList_al _ rfl _ rfl _ zero_thC ?_; intro w3 b5 hg5 hl5 B5 b3; have HB4b := hidden (HB4a.out.grow b3); have HB5 := hidden B5; have Hg5 := hidden hg5; have Hb3 := hidden b3; have hne : b4 ≠ b5 := (by have := HB4a.out.lt; omega); clear B5 hg5 hl5 b3)
      | ((with_reducible refine at_st 5 ?_); refine wpList_sto _ rfl _ _ _ rfl b5 _ (cz c).toArray rfl rfl HB5.out (xszC _ (cz_th HO.out)) (xzsC _ (cz_th HO.out)) (all_oneCell_toArray (cz_one HO.out)) ?_; intro w4 B6 r6; have HB4c := hidden (HB4b.out.kept r6 hne); have HB6 := hidden B6; have Hb4 := hidden (below_row (grow_trans Hb2.out Hb3.out) r6 (by have := Hg5.out; have := Hb2.out.size; omega)); have c7 := B6.cell 32; simp only [List.getElem?_toArray] at c7; rw [(cz_at c HO.out).1, HK.out] at c7; clear B6 r6))
      have HBd : Hid (Below w4.heap.size w4 w4.drew) := below_drewN (Below.refl _ _) 1
      have HBL : Hid (∀ w', Below w4.heap.size w4 w' → Below w.heap.size w w') := fun w' hb => grow_trans Hb4.out hb
      have HB4d : Hid (∀ w', Below w4.heap.size w4 w' → Blk w' b4 108 (B (nd 0 z32 z32 z32 z32))) := fun w' hb => HB4c.out.grow hb
      have HLR : Hid (∀ w', Below w4.heap.size w4 w' → w'.cell? ⟨b5, 69, none⟩ = some (.int .i64 (c.l : Int))) := fun w' hb => by
        rw [(HB6.out.grow hb).cell]
        simpa using (cz_at c HO.out).2.2.2.2.2.1
      have HRR : Hid (∀ w', Below w4.heap.size w4 w' → w'.cell? ⟨b5, 70, none⟩ = some (.int .i64 (c.r : Int))) := fun w' hb => by
        rw [(HB6.out.grow hb).cell]
        simpa using (cz_at c HO.out).2.2.2.2.2.2
      clear c7
      refine wp_region_last (S := fun w' => Below w4.heap.size w4 w') 9 (by kernel_rfl) (HBd.out) (fun hHeld => ?_)
      refine wpAnyL_take (i := 0) (v := v) rfl (by kernel_rfl) (by kernel_rfl) (by kernel_rfl) (by kernel_rfl) (by kernel_rfl) (fun _ _ _ h => h) (Or.inl ⟨by rfl, fun w hS => by go_simp⟩) hHeld ?_
      simp only [Act.put, List.getElem_toArray, List.getElem_cons_zero, List.setIfInBounds_toArray, List.set_cons_zero, List.set_cons_succ]
      refine wpAnyL_take (i := 1) (v := .pointer (some ⟨b5, 69, none⟩)) rfl (by kernel_rfl) (by kernel_rfl) (by kernel_rfl) (by kernel_rfl) (by kernel_rfl) (fun _ _ _ h => h) (Or.inl ⟨by rfl, fun w hS => by go_simp⟩) hHeld ?_
      simp only [Act.put, List.getElem_toArray, List.getElem_cons_zero, List.getElem_cons_succ, List.setIfInBounds_toArray, List.set_cons_zero, List.set_cons_succ]
      refine wpAnyL_take (i := 2) (v := .int .i64 (c.l : Int)) rfl (by kernel_rfl) (by kernel_rfl) (by kernel_rfl) (by kernel_rfl) (by kernel_rfl) (fun _ _ _ h => h) (Or.inl ⟨by rfl, fun w hS => by (have q1 := HLR.out _ hS; go_simp)⟩) hHeld ?_
      simp only [Act.put, List.getElem_toArray, List.getElem_cons_zero, List.getElem_cons_succ, List.setIfInBounds_toArray, List.set_cons_zero, List.set_cons_succ]
      refine wpAnyL_take (i := 4) (v := v) rfl (by kernel_rfl) (by kernel_rfl) (by kernel_rfl) (by kernel_rfl) (by kernel_rfl) (fun _ _ _ h => h) (Or.inl ⟨by rfl, fun w hS => by go_simp⟩) hHeld ?_
      simp only [Act.put, List.getElem_toArray, List.getElem_cons_zero, List.getElem_cons_succ, List.setIfInBounds_toArray, List.set_cons_zero, List.set_cons_succ]
      refine wpAnyL_take (i := 5) (v := .pointer (some ⟨b5, 70, none⟩)) rfl (by kernel_rfl) (by kernel_rfl) (by kernel_rfl) (by kernel_rfl) (by kernel_rfl) (fun _ _ _ h => h) (Or.inl ⟨by rfl, fun w hS => by go_simp⟩) hHeld ?_
      simp only [Act.put, List.getElem_toArray, List.getElem_cons_zero, List.getElem_cons_succ, List.setIfInBounds_toArray, List.set_cons_zero, List.set_cons_succ]
      refine wpAnyL_take (i := 6) (v := .int .i64 (c.r : Int)) rfl (by kernel_rfl) (by kernel_rfl) (by kernel_rfl) (by kernel_rfl) (by kernel_rfl) (fun _ _ _ h => h) (Or.inl ⟨by rfl, fun w hS => by (have q1 := HRR.out _ hS; go_simp)⟩) hHeld ?_
      simp only [Act.put, List.getElem_toArray, List.getElem_cons_zero, List.getElem_cons_succ, List.setIfInBounds_toArray, List.set_cons_zero, List.set_cons_succ]
      refine wpAnyL_one (i := 3) rfl (by kernel_rfl) (fun KQ hK => ?_)
      go_simp
      refine (HDl.out _ (HBL.out _ hHeld)).mono ?_
      rintro e z1 ⟨rfl, a1⟩
      refine hK.out _ _ (grow_trans hHeld a1) (fun hHeld => ?_)
      clear hK KQ
      refine wpAnyL_one (i := 7) rfl (by kernel_rfl) (fun KQ hK => ?_)
      go_simp
      refine (HDr.out _ (HBL.out _ hHeld)).mono ?_
      rintro e z2 ⟨rfl, a2⟩
      refine hK.out _ _ (grow_trans hHeld a2) (fun hHeld => ?_)
      clear hK KQ
      refine wpAnyL_take (i := 8) (v := .agg (B N)) rfl (by kernel_rfl) (by kernel_rfl) (by kernel_rfl) (by kernel_rfl) (by kernel_rfl) (fun _ _ _ h => h) (Or.inl ⟨by rfl, fun w hS => exec_blc _ _ 108 _ (by rfl) _ (by rw [List.map_toArray]; exact HBU.out) w⟩) hHeld ?_
      simp only [Act.put, List.getElem_toArray, List.getElem_cons_zero, List.getElem_cons_succ, List.setIfInBounds_toArray, List.set_cons_zero, List.set_cons_succ]
      refine wpAnyL_last rfl (by kernel_rfl) (by kernel_rfl) (fun KQ hK => ?_)
      refine step_sto _ rfl _ _ _ rfl b4 _ (B N) rfl rfl (HB4d.out _ hHeld) (nodeS_size HNL.out) (by rw [B_size, B_size, HNL.out]; rfl) (B_one _) ?_
      intro z4 B9 r9
      refine hK.out _ _ ?_
      clear hK KQ
      go_wp2
      exact bodyPost_ret (v := .agg (B N)) (results_cell_row rfl _ _ b4 _ _ _ _ rfl B9 Tryz.underlying108 rfl (nodeS_size HNL.out)) rfl ⟨rfl, below_row (HBL.out _ hHeld) r9 Hg4.out⟩
    · rw [if_neg h2] at hV
      have n2 : (c.kind == 2) = false := by simp [h2]
      have HVN := hidden hV
      obtain ⟨k, hk⟩ : ∃ k, k = c.kind := ⟨_, rfl⟩
      have HK := hidden hk
      rw [← hk] at n1 n2
      clear hV h1 h2 HVA HDG HLl HLr hsv HSV hk
      go_enter Tryz.func84, Tryz.ntmps84
      go_wp2_with (first
      | ((with_reducible refine at_ald 4 ?_); refine wpList_al _ rfl _ rfl _ nodeS_zero ?_; intro w1 b4 hg4 hl4 B4 b1; have HB4 := hidden B4; have Hg4 := hidden hg4; have Hl4 := hidden hl4; clear B4 hg4 hl4)
      | (go_at_call 49; refine (HA.out _ b1).mono ?_; rintro e w2 ⟨rfl, b2⟩; have HB4a := hidden (HB4.out.grow b2); have Hb2 := hidden (grow_trans b1 b2); clear b2)
      | ((with_reducible refine at_ald 5 ?_); refine wpList_al _ rfl _ rfl _ zero_thC ?_; intro w3 b5 hg5 hl5 B5 b3; have HB4b := hidden (HB4a.out.grow b3); have HB5 := hidden B5; have Hg5 := hidden hg5; have Hb3 := hidden b3; have hne : b4 ≠ b5 := (by have := HB4a.out.lt; omega); clear B5 hg5 hl5 b3)
      | ((with_reducible refine at_st 5 ?_); refine wpList_sto _ rfl _ _ _ rfl b5 _ (cz c).toArray rfl rfl HB5.out (xszC _ (cz_th HO.out)) (xzsC _ (cz_th HO.out)) (all_oneCell_toArray (cz_one HO.out)) ?_; intro w4 B6 r6; have HB4c := hidden (HB4b.out.kept r6 hne); have HB6 := hidden B6; have Hb4 := hidden (below_row (grow_trans Hb2.out Hb3.out) r6 (by have := Hg5.out; have := Hb2.out.size; omega)); have c7 := B6.cell 32; simp only [List.getElem?_toArray] at c7; rw [(cz_at c HO.out).1, ← HK.out] at c7; clear B6 r6)
      | ((with_reducible refine at_st 4 ?_); refine wpList_sto _ rfl _ _ _ rfl b4 _ (B N) rfl (by rw [HVN.out]; exact zagg_node) HB4c.out (nodeS_size HNL.out) (by rw [B_size, B_size, HNL.out]; rfl) (B_one _) ?_; intro z4 B9 r9))
      exact bodyPost_ret (v := .agg (B N)) (results_cell_row rfl _ _ b4 _ _ _ _ rfl B9 Tryz.underlying108 rfl (nodeS_size HNL.out)) rfl ⟨rfl, below_row Hb4.out r9 Hg4.out⟩

end Go.Proofs.YtjikgagaalbaeaaGreatDoor

/- StoreNone's walk: what is no store answers as no store, whatever is asked. -/
namespace Go.Proofs.YtjikgagaalbaeaaGreatDoor
set_option maxRecDepth 20000
open Go.RowKit

/-- A call's cells: its kind, key, value, depth and two handles. -/
def azL (k : Int) (K : List Int) (v : Value) (d x y : Int) : List Value := .int .i64 k :: (K.map (Value.int .u8) ++ [v, .int .i64 d, .int .i64 x, .int .i64 y])
theorem azL_length (k : Int) (K : List Int) (v : Value) (d x y : Int) (h : K.length = 32) : (azL k K v d x y).length = 37 := by simp [azL, h]

theorem act_cells {w : World} {b : Nat} {t : TypeId} {k : Int} {K : List Int} {v : Value} {d x y : Int} (h : Blk w b t (azL k K v d x y).toArray) (hK : K.length = 32) : w.cell? ⟨b, 0, none⟩ = some (.int .i64 k) ∧ w.cell? ⟨b, 33, none⟩ = some v ∧ w.cell? ⟨b, 34, none⟩ = some (.int .i64 d) ∧ w.cell? ⟨b, 35, none⟩ = some (.int .i64 x) ∧ w.cell? ⟨b, 36, none⟩ = some (.int .i64 y) := by
  have h1 : (K.map (Value.int .u8)).length = 32 := by simp [hK]
  refine ⟨?_, ?_, ?_, ?_, ?_⟩
  · rw [h.cell]; rfl
  · rw [h.cell, List.getElem?_toArray]
    show (K.map (Value.int .u8) ++ _)[32]? = _
    rw [List.getElem?_append_right (by omega), h1]; rfl
  · rw [h.cell, List.getElem?_toArray]
    show (K.map (Value.int .u8) ++ _)[33]? = _
    rw [List.getElem?_append_right (by omega), h1]; rfl
  · rw [h.cell, List.getElem?_toArray]
    show (K.map (Value.int .u8) ++ _)[34]? = _
    rw [List.getElem?_append_right (by omega), h1]; rfl
  · rw [h.cell, List.getElem?_toArray]
    show (K.map (Value.int .u8) ++ _)[35]? = _
    rw [List.getElem?_append_right (by omega), h1]; rfl
theorem act_key {w : World} {b : Nat} {t : TypeId} {k : Int} {K : List Int} {v : Value} {d x y : Int} (h : Blk w b t (azL k K v d x y).toArray) : w.rangeAt b 1 (K.map (Value.int .u8)) := fun j u hu => by
  rw [h.cell, List.getElem?_toArray, Nat.add_comm]
  show (K.map (Value.int .u8) ++ _)[j]? = _
  rw [List.getElem?_append_left (List.getElem?_eq_some_iff.1 hu).1]
  exact hu

/-- A guarded composite literal. -/
theorem wpList_bldw {ops : Array Oper} {rest : List Oper} {op : Oper} {a : Act} {Q : Exit → Act → World → Prop} (w : World) (hgd : Region.wanted op (yielded ops a.tmps) = true) (ty : TypeId) (parts : Array (Nat × Operand)) (ho : op.op = .build ty parts)
    (cs : Array Value) (h : Tryz.prog.built ty (parts.map fun (i, x) => (i, a.eval x)).toList = some cs)
    (hk : wpList Tryz.prog ops Q rest (a.put op.dst (.agg cs)) w) : wpList Tryz.prog ops Q (op :: rest) a w := by
  refine BigFrame.wpList_want hgd fun K hK => ?_
  unfold Oper.wp
  rw [exec_blc op a ty parts ho cs h w]
  exact hK _ _ hk

theorem size_act : (Tryz.prog.info? 34).map (·.size) = some 37 := by kernel_rfl

end Go.Proofs.YtjikgagaalbaeaaGreatDoor
