/- PathOrder's walk: the law returns true at every two keys, and nothing that was in memory turns. -/
import Derived.Test.YtgkkmkgkgojmiaaPath6
import Derived.Deep.RegionHeld2
namespace Go.Proofs.Ytgkkmkgkgojmiaa
open Go.RowKit

set_option maxHeartbeats 8000000 in
set_option maxRecDepth 20000 in
theorem pathOrder_walk (ps qs : List Int) (w : World) (hp : Key ps) (hq : Key qs) :
    Calls Try.prog 4 #[.agg (B ps), .agg (B qs)] w fun e w' => e = .returned (.bool true) ∧ Below w.heap.size w w' := by
  have HP := hidden hp
  have HQ := hidden hq
  have hsP := key_size hp
  have hsQ := key_size hq
  have HZP : Hid ((B ps).size = 32) := by rw [B_size]; exact hp.1
  have hiP : (Try.prog.info? 24).map (·.size) = some (B ps).toList.length := by rw [B_toList, List.length_map, hp.1]; exact size_path
  have hiQ : (Try.prog.info? 24).map (·.size) = some (B qs).toList.length := by rw [B_toList, List.length_map, hq.1]; exact size_path
  have EQP : ∀ w, (Op.equalIn 10000 24 (.agg (B ps)) (.agg (B ps))).run Try.prog w = .ok true w := fun w => by rw [path_eq ps ps hp.1 hp.1 w, decide_eq_true rfl]
  obtain ⟨c, hc⟩ := common_ex ps qs
  have HC := hidden hc
  have hc1 : c ≤ 256 := hc.1
  have cC : Hid (∀ w', Calls Try.prog 16 #[.agg (B ps), .agg (B qs)] w' fun e w'' => e = .returned (.int .i64 c) ∧ Below w'.heap.size w' w'') := fun w' => common_at ps qs c w' hp hq hc
  have cD : Hid (∀ w', Calls Try.prog 16 #[.agg (B qs), .agg (B ps)] w' fun e w'' => e = .returned (.int .i64 c) ∧ Below w'.heap.size w' w'') := fun w' => common_at qs ps c w' hq hp hc.swap
  obtain ⟨r, hr⟩ : ∃ r, r = cmp qs ps := ⟨_, rfl⟩
  have HR : Hid (cmp ps qs = -r) := by
    show _ = _
    rw [hr]
    exact cmp_neg hp hq
  have hr1 : -1 ≤ r ∧ r ≤ 1 := by rw [hr]; rcases cmp_key hq hp with h | h | h <;> omega
  have cE : Hid (∀ w', Calls Try.prog 18 #[.agg (B qs), .agg (B ps)] w' fun e w'' => e = .returned (.int .i64 r) ∧ Below w'.heap.size w' w'') := by
    intro w'
    rw [hr]
    exact pcompare_any qs ps w' hq hp
  have cF : Hid (∀ w', Calls Try.prog 18 #[.agg (B ps), .agg (B qs)] w' fun e w'' => e = .returned (.int .i64 (-r)) ∧ Below w'.heap.size w' w'') := by
    intro w'
    rw [← HR.out]
    exact pcompare_any ps qs w' hp hq
  have cB : Hid (∀ w', Calls Try.prog 9 #[.agg (B ps)] w' fun e w'' => ∃ g, e = .returned (.slice (some ⟨g, 0, none⟩) 32 32) ∧ w'.heap.size ≤ g ∧ Blk w'' g 24 (B ps) ∧ Below w'.heap.size w' w'') := fun w' => pbytes_any ps w'
  have hwr : IntKind.i64.wrap (-r) = -r := by rw [IntKind.wrap_i64]; omega
  clear hp hq hc hr
  go_enter Try.func4, Try.ntmps4
  go_wp2_with (first
    | (have hx := hl1; clear hx; refine wpList_bx _ rfl _ _ rfl _ rfl ?_; intro w2 gq hg2 hl2 B2 b2; have HPQ : Hid (∀ w', Below w2.heap.size w2 w' → Blk w' gp 24 (B ps) ∧ Blk w' gq 24 (B qs)) := (fun w' hw' => ⟨(B1.grow b2).grow hw', B2.grow hw'⟩); have bb : Below w2.heap.size w2 w2 := Below.refl _ _; have c2 := grow_trans b1 b2; clear B1 B2 b1 b2 hg1 hg2 hl2)
    | (refine wpList_bx _ rfl _ _ rfl _ rfl ?_; intro w1 gp hg1 hl1 B1 b1)
    | (refine wpList_ld _ rfl _ _ rfl gp _ rfl (HPQ.out _ bb).1 _ _ u_path hsP ?_)
    | (refine wpList_ld _ rfl _ _ rfl gq _ rfl (HPQ.out _ bb).2 _ _ u_path hsQ ?_)
    | (go_at_call 16; refine (cC.out _).mono ?_; rintro e w3 ⟨rfl, b3⟩; replace bb := grow_trans bb b3; clear b3)
    | (go_at_call 9; refine (cB.out _).mono ?_; rintro e w4 ⟨gb, rfl, _, B4, b4⟩; replace bb := grow_trans bb b4; clear b4)
    | (go_at_call 7; refine (of_at _ ps _ (B4.key_reads HP.out) HP.out.1).mono ?_; rintro e w5 ⟨rfl, b5⟩; replace bb := grow_trans bb b5; clear b5 B4)
    | (refine wpList_al _ rfl _ rfl _ zero_path ?_; intro w6 gr hg6 hl6 B6 b6; have hgr := Nat.le_trans bb.size hg6; replace bb := grow_trans bb b6; clear b6 hg6)
    | (refine wpList_sto _ rfl _ _ _ rfl gr _ (B ps) rfl rfl B6 hsP (by rw [HZP.out, B_size]; simp) (B_one _) ?_; intro w7 B7 g7; replace bb := below_row bb g7 hgr))
  clear g7 B6 hl6 hgr
  have c7 := grow_trans c2 bb
  have HS : Hid (∀ w', Below w7.heap.size w7 w' → w'.rangeAt gp 0 (B ps).toList ∧ w'.rangeAt gq 0 (B qs).toList ∧ w'.rangeAt gr 0 (B ps).toList) := fun w' hw' => ⟨(HPQ.out w' (grow_trans bb hw')).1.range, (HPQ.out w' (grow_trans bb hw')).2.range, (B7.grow hw').range⟩
  have HPW : Hid (∀ w', Below w7.heap.size w7 w' → Blk w' gp 24 (B ps) ∧ Blk w' gq 24 (B qs)) := fun w' hw' => HPQ.out w' (grow_trans bb hw')
  clear HPQ B7 c2 bb
  have d0 : Below w7.heap.size w7 w7.drew := (Below.refl _ _).drew
  refine wp_region_held_drew (S := fun w' => w'.rangeAt gp 0 (B ps).toList ∧ w'.rangeAt gq 0 (B qs).toList ∧ w'.rangeAt gr 0 (B ps).toList) (by kernel_rfl) (HS.out _ d0) (fun hHeld => ?_)
  refine wpAnyH_take (i := 0) (v := .int .i64 0) rfl (by kernel_rfl) (by kernel_rfl) (by kernel_rfl) (fun _ _ _ h => h) (Or.inl ⟨by rfl, fun w hS => by go_simp⟩) hHeld ?_
  simp only [Act.put, List.getElem_toArray, List.getElem_cons_zero, List.setIfInBounds_toArray, List.set_cons_zero, List.set_cons_succ]
  refine wpAnyH_take (i := 1) (v := .bool false) rfl (by kernel_rfl) (by kernel_rfl) (by kernel_rfl) (fun _ _ _ h => h) (Or.inl ⟨by rfl, fun w hS => by go_simp⟩) hHeld ?_
  simp only [Act.put, List.getElem_toArray, List.getElem_cons_zero, List.getElem_cons_succ, List.setIfInBounds_toArray, List.set_cons_zero, List.set_cons_succ]
  refine wpAnyH_take (i := 2) (v := .bool false) rfl (by kernel_rfl) (by kernel_rfl) (by kernel_rfl) (fun _ _ _ h => h) (Or.inl ⟨by rfl, fun w hS => by go_simp⟩) hHeld ?_
  simp only [Act.put, List.getElem_toArray, List.getElem_cons_zero, List.getElem_cons_succ, List.setIfInBounds_toArray, List.set_cons_zero, List.set_cons_succ]
  refine wpAnyH_take (i := 3) (v := .agg (B ps)) rfl (by kernel_rfl) (by kernel_rfl) (by kernel_rfl) (fun _ _ _ h => h) (yieldsIf_load_mid rfl 24 (.tmp 7) rfl gr 0 rfl (B ps).toList _ (fun w hS => hS.2.2) u_path rfl hiP) hHeld ?_
  simp only [Act.put, List.getElem_toArray, List.getElem_cons_zero, List.getElem_cons_succ, List.setIfInBounds_toArray, List.set_cons_zero, List.set_cons_succ]
  refine wpAnyH_take (i := 4) (v := .agg (B ps)) rfl (by kernel_rfl) (by kernel_rfl) (by kernel_rfl) (fun _ _ _ h => h) (yieldsIf_load_mid rfl 24 (.tmp 2) rfl gp 0 rfl (B ps).toList _ (fun w hS => hS.1) u_path rfl hiP) hHeld ?_
  simp only [Act.put, List.getElem_toArray, List.getElem_cons_zero, List.getElem_cons_succ, List.setIfInBounds_toArray, List.set_cons_zero, List.set_cons_succ]
  refine wpAnyH_take (i := 5) (v := .bool false) rfl (by kernel_rfl) (by kernel_rfl) (by kernel_rfl) (fun _ _ _ h => h) (Or.inl ⟨by rfl, fun w hS => by go_simp⟩) hHeld ?_
  simp only [Act.put, List.getElem_toArray, List.getElem_cons_zero, List.getElem_cons_succ, List.setIfInBounds_toArray, List.set_cons_zero, List.set_cons_succ]
  refine wpAnyH_take (i := 6) (v := .bool false) rfl (by kernel_rfl) (by kernel_rfl) (by kernel_rfl) (fun _ _ _ h => h) (Or.inl ⟨by rfl, fun w hS => by go_simp⟩) hHeld ?_
  simp only [Act.put, List.getElem_toArray, List.getElem_cons_zero, List.getElem_cons_succ, List.setIfInBounds_toArray, List.set_cons_zero, List.set_cons_succ]
  refine wpAnyH_take (i := 7) (v := .bool false) rfl (by kernel_rfl) (by kernel_rfl) (by kernel_rfl) (fun _ _ _ h => h) (Or.inl ⟨by rfl, fun w hS => by go_simp⟩) hHeld ?_
  simp only [Act.put, List.getElem_toArray, List.getElem_cons_zero, List.getElem_cons_succ, List.setIfInBounds_toArray, List.set_cons_zero, List.set_cons_succ]
  refine wpAnyH_take (i := 8) (v := .slice (some ⟨gb, 0, none⟩) 32 32) rfl (by kernel_rfl) (by kernel_rfl) (by kernel_rfl) (fun _ _ _ h => h) (Or.inl ⟨by rfl, fun w hS => by go_simp⟩) hHeld ?_
  simp only [Act.put, List.getElem_toArray, List.getElem_cons_zero, List.getElem_cons_succ, List.setIfInBounds_toArray, List.set_cons_zero, List.set_cons_succ]
  refine wpAnyH_take (i := 9) (v := .int .i64 32) rfl (by kernel_rfl) (by kernel_rfl) (by kernel_rfl) (fun _ _ _ h => h) (Or.inl ⟨by rfl, fun w hS => by go_simp⟩) hHeld ?_
  simp only [Act.put, List.getElem_toArray, List.getElem_cons_zero, List.getElem_cons_succ, List.setIfInBounds_toArray, List.set_cons_zero, List.set_cons_succ]
  refine wpAnyH_take (i := 10) (v := .bool false) rfl (by kernel_rfl) (by kernel_rfl) (by kernel_rfl) (fun _ _ _ h => h) (Or.inl ⟨by rfl, fun w hS => by go_simp⟩) hHeld ?_
  simp only [Act.put, List.getElem_toArray, List.getElem_cons_zero, List.getElem_cons_succ, List.setIfInBounds_toArray, List.set_cons_zero, List.set_cons_succ]
  refine wpAnyH_take (i := 11) (v := .bool false) rfl (by kernel_rfl) (by kernel_rfl) (by kernel_rfl) (fun _ _ _ h => h) (Or.inl ⟨by rfl, fun w hS => by go_simp⟩) hHeld ?_
  simp only [Act.put, List.getElem_toArray, List.getElem_cons_zero, List.getElem_cons_succ, List.setIfInBounds_toArray, List.set_cons_zero, List.set_cons_succ]
  refine wpAnyH_take (i := 12) (v := .bool false) rfl (by kernel_rfl) (by kernel_rfl) (by kernel_rfl) (fun _ _ _ h => h) (Or.inl ⟨by rfl, fun w hS => by go_simp⟩) hHeld ?_
  simp only [Act.put, List.getElem_toArray, List.getElem_cons_zero, List.getElem_cons_succ, List.setIfInBounds_toArray, List.set_cons_zero, List.set_cons_succ]
  refine wpAnyH_take (i := 13) (v := .int .i64 c) rfl (by kernel_rfl) (by kernel_rfl) (by kernel_rfl) (fun _ _ _ h => h) (Or.inl ⟨by rfl, fun w hS => by go_simp⟩) hHeld ?_
  simp only [Act.put, List.getElem_toArray, List.getElem_cons_zero, List.getElem_cons_succ, List.setIfInBounds_toArray, List.set_cons_zero, List.set_cons_succ]
  refine wpAnyH_take (i := 14) (v := .agg (B qs)) rfl (by kernel_rfl) (by kernel_rfl) (by kernel_rfl) (fun _ _ _ h => h) (yieldsIf_load_mid rfl 24 (.tmp 3) rfl gq 0 rfl (B qs).toList _ (fun w hS => hS.2.1) u_path rfl hiQ) hHeld ?_
  simp only [Act.put, List.getElem_toArray, List.getElem_cons_zero, List.getElem_cons_succ, List.setIfInBounds_toArray, List.set_cons_zero, List.set_cons_succ]
  refine wpAnyH_take (i := 15) (v := .agg (B ps)) rfl (by kernel_rfl) (by kernel_rfl) (by kernel_rfl) (fun _ _ _ h => h) (yieldsIf_load_mid rfl 24 (.tmp 2) rfl gp 0 rfl (B ps).toList _ (fun w hS => hS.1) u_path rfl hiP) hHeld ?_
  simp only [Act.put, List.getElem_toArray, List.getElem_cons_zero, List.getElem_cons_succ, List.setIfInBounds_toArray, List.set_cons_zero, List.set_cons_succ]
  refine wpAnyH_ready (rs := [16]) (by kernel_rfl) (by simp) ?_
  refine AllReadyH.cons rfl (fun KQ hK => ?_) AllReadyH.nil
  go_simp
  refine (cD.out _).mono ?_
  rintro e x1 ⟨rfl, a1⟩
  have d1 := grow_trans d0 a1
  refine hK.out _ _ (HS.out _ d1) (fun hHeld => ?_)
  clear hK KQ
  refine wpAnyH_take (i := 17) (v := .bool false) rfl (by kernel_rfl) (by kernel_rfl) (by kernel_rfl) (fun _ _ _ h => h) (Or.inl ⟨by rfl, fun w hS => by go_simp⟩) hHeld ?_
  simp only [Act.put, List.getElem_toArray, List.getElem_cons_zero, List.getElem_cons_succ, List.setIfInBounds_toArray, List.set_cons_zero, List.set_cons_succ]
  refine wpAnyH_take (i := 18) (v := .bool false) rfl (by kernel_rfl) (by kernel_rfl) (by kernel_rfl) (fun _ _ _ h => h) (Or.inl ⟨by rfl, fun w hS => by go_simp⟩) hHeld ?_
  simp only [Act.put, List.getElem_toArray, List.getElem_cons_zero, List.getElem_cons_succ, List.setIfInBounds_toArray, List.set_cons_zero, List.set_cons_succ]
  refine wpAnyH_take (i := 19) (v := .bool false) rfl (by kernel_rfl) (by kernel_rfl) (by kernel_rfl) (fun _ _ _ h => h) (Or.inl ⟨by rfl, fun w hS => by go_simp⟩) hHeld ?_
  simp only [Act.put, List.getElem_toArray, List.getElem_cons_zero, List.getElem_cons_succ, List.setIfInBounds_toArray, List.set_cons_zero, List.set_cons_succ]
  refine wpAnyH_take (i := 20) (v := .agg (B ps)) rfl (by kernel_rfl) (by kernel_rfl) (by kernel_rfl) (fun _ _ _ h => h) (yieldsIf_load_mid rfl 24 (.tmp 2) rfl gp 0 rfl (B ps).toList _ (fun w hS => hS.1) u_path rfl hiP) hHeld ?_
  simp only [Act.put, List.getElem_toArray, List.getElem_cons_zero, List.getElem_cons_succ, List.setIfInBounds_toArray, List.set_cons_zero, List.set_cons_succ]
  refine wpAnyH_take (i := 21) (v := .agg (B qs)) rfl (by kernel_rfl) (by kernel_rfl) (by kernel_rfl) (fun _ _ _ h => h) (yieldsIf_load_mid rfl 24 (.tmp 3) rfl gq 0 rfl (B qs).toList _ (fun w hS => hS.2.1) u_path rfl hiQ) hHeld ?_
  simp only [Act.put, List.getElem_toArray, List.getElem_cons_zero, List.getElem_cons_succ, List.setIfInBounds_toArray, List.set_cons_zero, List.set_cons_succ]
  refine wpAnyH_take (i := 23) (v := .agg (B qs)) rfl (by kernel_rfl) (by kernel_rfl) (by kernel_rfl) (fun _ _ _ h => h) (yieldsIf_load_mid rfl 24 (.tmp 3) rfl gq 0 rfl (B qs).toList _ (fun w hS => hS.2.1) u_path rfl hiQ) hHeld ?_
  simp only [Act.put, List.getElem_toArray, List.getElem_cons_zero, List.getElem_cons_succ, List.setIfInBounds_toArray, List.set_cons_zero, List.set_cons_succ]
  refine wpAnyH_take (i := 24) (v := .agg (B ps)) rfl (by kernel_rfl) (by kernel_rfl) (by kernel_rfl) (fun _ _ _ h => h) (yieldsIf_load_mid rfl 24 (.tmp 2) rfl gp 0 rfl (B ps).toList _ (fun w hS => hS.1) u_path rfl hiP) hHeld ?_
  simp only [Act.put, List.getElem_toArray, List.getElem_cons_zero, List.getElem_cons_succ, List.setIfInBounds_toArray, List.set_cons_zero, List.set_cons_succ]
  refine wpAnyH_ready (rs := [22]) (by kernel_rfl) (by simp) ?_
  refine AllReadyH.cons rfl (fun KQ hK => ?_) AllReadyH.nil
  go_simp
  refine (cF.out _).mono ?_
  rintro e x2 ⟨rfl, a2⟩
  have d2 := grow_trans d1 a2
  refine hK.out _ _ (HS.out _ d2) (fun hHeld => ?_)
  clear hK KQ
  refine wpAnyH_ready (rs := [25]) (by kernel_rfl) (by simp) ?_
  refine AllReadyH.cons rfl (fun KQ hK => ?_) AllReadyH.nil
  go_simp
  refine (cE.out _).mono ?_
  rintro e x3 ⟨rfl, a3⟩
  have d3 := grow_trans d2 a3
  refine hK.out _ _ (HS.out _ d3) (fun hHeld => ?_)
  clear hK KQ
  refine wpAnyH_take (i := 26) (v := .int .i64 (-r)) rfl (by kernel_rfl) (by kernel_rfl) (by kernel_rfl) (fun _ _ _ h => h) (Or.inl ⟨by rfl, fun w hS => by go_simp⟩) hHeld ?_
  simp only [Act.put, List.getElem_toArray, List.getElem_cons_zero, List.getElem_cons_succ, List.setIfInBounds_toArray, List.set_cons_zero, List.set_cons_succ]
  refine wpAnyH_take (i := 27) (v := .bool false) rfl (by kernel_rfl) (by kernel_rfl) (by kernel_rfl) (fun _ _ _ h => h) (Or.inl ⟨by rfl, fun w hS => by go_simp⟩) hHeld ?_
  simp only [Act.put, List.getElem_toArray, List.getElem_cons_zero, List.getElem_cons_succ, List.setIfInBounds_toArray, List.set_cons_zero, List.set_cons_succ]
  refine wpAnyH_take (i := 28) (v := .bool false) rfl (by kernel_rfl) (by kernel_rfl) (by kernel_rfl) (fun _ _ _ h => h) (Or.inl ⟨by rfl, fun w hS => by go_simp⟩) hHeld ?_
  simp only [Act.put, List.getElem_toArray, List.getElem_cons_zero, List.getElem_cons_succ, List.setIfInBounds_toArray, List.set_cons_zero, List.set_cons_succ]
  refine wpAnyH_done (by kernel_rfl) ?_ _
  have c8 := grow_trans c7 d3
  have HB8 : Hid (∀ w', Below x3.heap.size x3 w' → Blk w' gp 24 (B ps) ∧ Blk w' gq 24 (B qs)) := fun w' hw' => HPW.out w' (grow_trans d3 hw')
  have HS8 : Hid (∀ w', Below x3.heap.size x3 w' → w'.rangeAt gp 0 (B ps).toList ∧ w'.rangeAt gq 0 (B qs).toList) := fun w' hw' => ⟨(HB8.out w' hw').1.range, (HB8.out w' hw').2.range⟩
  clear HPW HS c7 d0 d1 d2 d3 a1 a2 a3 hwr EQP cB cC cD cE
  by_cases hcc : c = 256
  · have HE : Hid (ps = qs) := by
      have h := HC.out
      rw [hcc] at h
      exact h.whole HP.out HQ.out
    have hcq : ((c : Int) == 256) = true := by rw [hcc]; rfl
    have EQ : ∀ w, (Op.equalIn 10000 24 (.agg (B ps)) (.agg (B qs))).run Try.prog w = .ok true w := fun w => by rw [path_eq ps qs HP.out.1 HQ.out.1 w, decide_eq_true HE.out]
    obtain rfl : r = 0 := by
      have h := HR.out
      rw [← HE.out, cmp_self HP.out] at h
      omega
    clear hcc
    have bb : Below x3.heap.size x3 x3 := Below.refl _ _
    go_wp2_with (first
      | (refine wpList_ldg _ rfl _ _ rfl gp _ rfl (HB8.out _ bb).1 _ _ u_path hsP ?_)
      | (refine wpList_ldg _ rfl _ _ rfl gq _ rfl (HB8.out _ bb).2 _ _ u_path hsQ ?_)
      | (go_at_call 18; refine (cF.out _).mono ?_; rintro e x4 ⟨rfl, b3⟩; have bb := b3))
    go_ret
    exact ⟨rfl, grow_trans c8 bb⟩
  · have hc2 : c < 256 := by omega
    have hcq : ((c : Int) == 256) = false := by rw [beq_eq_false_iff_ne]; omega
    have hc3 : ¬ (c : Int) > 255 := by omega
    have hc4 : decide ((255 : Int) < (c : Int)) = false := decide_eq_false (by omega)
    have hc5 : decide ((c : Int) < 0) = false := decide_eq_false (by omega)
    have HNE := hidden (HC.out.2.2 hc2)
    obtain ⟨x, hx⟩ : ∃ x, x = kb ps c := ⟨_, rfl⟩
    obtain ⟨y, hy⟩ : ∃ y, y = kb qs c := ⟨_, rfl⟩
    have hx1 : x = 0 ∨ x = 1 := by rw [hx]; exact kb_two ps c
    have hxy : (x == y) = false := by rw [beq_eq_false_iff_ne, hx, hy]; exact HNE.out
    have hrx : -r = 2 * x - 1 := by rw [← HR.out, hx]; exact cmp_bit HP.out HQ.out HC.out hc2
    have cX : Hid (∀ w', Calls Try.prog 14 #[.agg (B ps), .int .i64 c] w' fun e w'' => e = .returned (.int .i64 x) ∧ Below w'.heap.size w' w'') := by
      intro w'
      rw [hx]
      exact bit_in ps c w' HP.out hc2
    have cY : Hid (∀ w', Calls Try.prog 14 #[.agg (B qs), .int .i64 c] w' fun e w'' => e = .returned (.int .i64 y) ∧ Below w'.heap.size w' w'') := by
      intro w'
      rw [hy]
      exact bit_in qs c w' HQ.out hc2
    have cZ : Hid (∀ w', Calls Try.prog 18 #[.agg (B ps), .agg (B qs)] w' fun e w'' => e = .returned (.int .i64 (2 * x - 1)) ∧ Below w'.heap.size w' w'') := by
      intro w'
      rw [← hrx]
      exact cF.out w'
    have hx2 : 0 ≤ x ∧ x ≤ 1 := by omega
    have hw1 : IntKind.i64.wrap (2 * x) = 2 * x := by rw [IntKind.wrap_i64]; omega
    have hw2 : IntKind.i64.wrap (2 * x - 1) = 2 * x - 1 := by rw [IntKind.wrap_i64]; omega
    have HS := HS8
    have d0 : Below x3.heap.size x3 x3.drew := (Below.refl _ _).drew
    clear hx hy hrx hx1 hcc cF HNE hc3 hr1
    go_wp2_with fail
    refine wp_region_held_drew (S := fun w' => w'.rangeAt gp 0 (B ps).toList ∧ w'.rangeAt gq 0 (B qs).toList) (by kernel_rfl) (HS.out _ d0) (fun hHeld => ?_)
    refine wpAnyH_take (i := 0) (v := .int .i64 c) rfl (by kernel_rfl) (by kernel_rfl) (by kernel_rfl) (fun _ _ _ h => h) (Or.inl ⟨by rfl, fun w hS => by go_simp⟩) hHeld ?_
    simp only [Act.put, List.getElem_toArray, List.getElem_cons_zero, List.setIfInBounds_toArray, List.set_cons_zero, List.set_cons_succ]
    refine wpAnyH_take (i := 1) (v := .bool false) rfl (by kernel_rfl) (by kernel_rfl) (by kernel_rfl) (fun _ _ _ h => h) (Or.inl ⟨by rfl, fun w hS => by go_simp⟩) hHeld ?_
    simp only [Act.put, List.getElem_toArray, List.getElem_cons_zero, List.getElem_cons_succ, List.setIfInBounds_toArray, List.set_cons_zero, List.set_cons_succ]
    refine wpAnyH_take (i := 2) (v := .bool false) rfl (by kernel_rfl) (by kernel_rfl) (by kernel_rfl) (fun _ _ _ h => h) (Or.inl ⟨by rfl, fun w hS => by go_simp⟩) hHeld ?_
    simp only [Act.put, List.getElem_toArray, List.getElem_cons_zero, List.getElem_cons_succ, List.setIfInBounds_toArray, List.set_cons_zero, List.set_cons_succ]
    refine wpAnyH_take (i := 3) (v := .int .i64 c) rfl (by kernel_rfl) (by kernel_rfl) (by kernel_rfl) (fun _ _ _ h => h) (Or.inl ⟨by rfl, fun w hS => by go_simp⟩) hHeld ?_
    simp only [Act.put, List.getElem_toArray, List.getElem_cons_zero, List.getElem_cons_succ, List.setIfInBounds_toArray, List.set_cons_zero, List.set_cons_succ]
    refine wpAnyH_take (i := 4) (v := .bool false) rfl (by kernel_rfl) (by kernel_rfl) (by kernel_rfl) (fun _ _ _ h => h) (Or.inl ⟨by rfl, fun w hS => by go_simp⟩) hHeld ?_
    simp only [Act.put, List.getElem_toArray, List.getElem_cons_zero, List.getElem_cons_succ, List.setIfInBounds_toArray, List.set_cons_zero, List.set_cons_succ]
    refine wpAnyH_take (i := 5) (v := .bool false) rfl (by kernel_rfl) (by kernel_rfl) (by kernel_rfl) (fun _ _ _ h => h) (Or.inl ⟨by rfl, fun w hS => by go_simp⟩) hHeld ?_
    simp only [Act.put, List.getElem_toArray, List.getElem_cons_zero, List.getElem_cons_succ, List.setIfInBounds_toArray, List.set_cons_zero, List.set_cons_succ]
    refine wpAnyH_take (i := 6) (v := .bool false) rfl (by kernel_rfl) (by kernel_rfl) (by kernel_rfl) (fun _ _ _ h => h) (Or.inl ⟨by rfl, fun w hS => by go_simp⟩) hHeld ?_
    simp only [Act.put, List.getElem_toArray, List.getElem_cons_zero, List.getElem_cons_succ, List.setIfInBounds_toArray, List.set_cons_zero, List.set_cons_succ]
    refine wpAnyH_take (i := 7) (v := .agg (B ps)) rfl (by kernel_rfl) (by kernel_rfl) (by kernel_rfl) (fun _ _ _ h => h) (yieldsIf_load_mid rfl 24 (.tmp 2) rfl gp 0 rfl (B ps).toList _ (fun w hS => hS.1) u_path rfl hiP) hHeld ?_
    simp only [Act.put, List.getElem_toArray, List.getElem_cons_zero, List.getElem_cons_succ, List.setIfInBounds_toArray, List.set_cons_zero, List.set_cons_succ]
    refine wpAnyH_take (i := 8) (v := .int .i64 c) rfl (by kernel_rfl) (by kernel_rfl) (by kernel_rfl) (fun _ _ _ h => h) (Or.inl ⟨by rfl, fun w hS => by go_simp⟩) hHeld ?_
    simp only [Act.put, List.getElem_toArray, List.getElem_cons_zero, List.getElem_cons_succ, List.setIfInBounds_toArray, List.set_cons_zero, List.set_cons_succ]
    refine wpAnyH_take (i := 10) (v := .agg (B qs)) rfl (by kernel_rfl) (by kernel_rfl) (by kernel_rfl) (fun _ _ _ h => h) (yieldsIf_load_mid rfl 24 (.tmp 3) rfl gq 0 rfl (B qs).toList _ (fun w hS => hS.2) u_path rfl hiQ) hHeld ?_
    simp only [Act.put, List.getElem_toArray, List.getElem_cons_zero, List.getElem_cons_succ, List.setIfInBounds_toArray, List.set_cons_zero, List.set_cons_succ]
    refine wpAnyH_take (i := 11) (v := .int .i64 c) rfl (by kernel_rfl) (by kernel_rfl) (by kernel_rfl) (fun _ _ _ h => h) (Or.inl ⟨by rfl, fun w hS => by go_simp⟩) hHeld ?_
    simp only [Act.put, List.getElem_toArray, List.getElem_cons_zero, List.getElem_cons_succ, List.setIfInBounds_toArray, List.set_cons_zero, List.set_cons_succ]
    refine wpAnyH_ready (rs := [9]) (by kernel_rfl) (by simp) ?_
    refine AllReadyH.cons rfl (fun KQ hK => ?_) AllReadyH.nil
    go_simp
    refine (cX.out _).mono ?_
    rintro e x4 ⟨rfl, a1⟩
    have d1 := grow_trans d0 a1
    refine hK.out _ _ (HS.out _ d1) (fun hHeld => ?_)
    clear hK KQ
    refine wpAnyH_ready (rs := [12]) (by kernel_rfl) (by simp) ?_
    refine AllReadyH.cons rfl (fun KQ hK => ?_) AllReadyH.nil
    go_simp
    refine (cY.out _).mono ?_
    rintro e x5 ⟨rfl, a2⟩
    have d2 := grow_trans d1 a2
    refine hK.out _ _ (HS.out _ d2) (fun hHeld => ?_)
    clear hK KQ
    refine wpAnyH_take (i := 13) (v := .bool false) rfl (by kernel_rfl) (by kernel_rfl) (by kernel_rfl) (fun _ _ _ h => h) (Or.inl ⟨by rfl, fun w hS => by go_simp⟩) hHeld ?_
    simp only [Act.put, List.getElem_toArray, List.getElem_cons_zero, List.getElem_cons_succ, List.setIfInBounds_toArray, List.set_cons_zero, List.set_cons_succ]
    refine wpAnyH_take (i := 14) (v := .bool false) rfl (by kernel_rfl) (by kernel_rfl) (by kernel_rfl) (fun _ _ _ h => h) (Or.inl ⟨by rfl, fun w hS => by go_simp⟩) hHeld ?_
    simp only [Act.put, List.getElem_toArray, List.getElem_cons_zero, List.getElem_cons_succ, List.setIfInBounds_toArray, List.set_cons_zero, List.set_cons_succ]
    refine wpAnyH_take (i := 15) (v := .bool false) rfl (by kernel_rfl) (by kernel_rfl) (by kernel_rfl) (fun _ _ _ h => h) (Or.inl ⟨by rfl, fun w hS => by go_simp⟩) hHeld ?_
    simp only [Act.put, List.getElem_toArray, List.getElem_cons_zero, List.getElem_cons_succ, List.setIfInBounds_toArray, List.set_cons_zero, List.set_cons_succ]
    refine wpAnyH_take (i := 16) (v := .agg (B ps)) rfl (by kernel_rfl) (by kernel_rfl) (by kernel_rfl) (fun _ _ _ h => h) (yieldsIf_load_mid rfl 24 (.tmp 2) rfl gp 0 rfl (B ps).toList _ (fun w hS => hS.1) u_path rfl hiP) hHeld ?_
    simp only [Act.put, List.getElem_toArray, List.getElem_cons_zero, List.getElem_cons_succ, List.setIfInBounds_toArray, List.set_cons_zero, List.set_cons_succ]
    refine wpAnyH_take (i := 17) (v := .agg (B qs)) rfl (by kernel_rfl) (by kernel_rfl) (by kernel_rfl) (fun _ _ _ h => h) (yieldsIf_load_mid rfl 24 (.tmp 3) rfl gq 0 rfl (B qs).toList _ (fun w hS => hS.2) u_path rfl hiQ) hHeld ?_
    simp only [Act.put, List.getElem_toArray, List.getElem_cons_zero, List.getElem_cons_succ, List.setIfInBounds_toArray, List.set_cons_zero, List.set_cons_succ]
    refine wpAnyH_take (i := 19) (v := .agg (B ps)) rfl (by kernel_rfl) (by kernel_rfl) (by kernel_rfl) (fun _ _ _ h => h) (yieldsIf_load_mid rfl 24 (.tmp 2) rfl gp 0 rfl (B ps).toList _ (fun w hS => hS.1) u_path rfl hiP) hHeld ?_
    simp only [Act.put, List.getElem_toArray, List.getElem_cons_zero, List.getElem_cons_succ, List.setIfInBounds_toArray, List.set_cons_zero, List.set_cons_succ]
    refine wpAnyH_take (i := 20) (v := .int .i64 c) rfl (by kernel_rfl) (by kernel_rfl) (by kernel_rfl) (fun _ _ _ h => h) (Or.inl ⟨by rfl, fun w hS => by go_simp⟩) hHeld ?_
    simp only [Act.put, List.getElem_toArray, List.getElem_cons_zero, List.getElem_cons_succ, List.setIfInBounds_toArray, List.set_cons_zero, List.set_cons_succ]
    refine wpAnyH_ready (rs := [18]) (by kernel_rfl) (by simp) ?_
    refine AllReadyH.cons rfl (fun KQ hK => ?_) AllReadyH.nil
    go_simp
    refine (cZ.out _).mono ?_
    rintro e x6 ⟨rfl, a3⟩
    have d3 := grow_trans d2 a3
    refine hK.out _ _ (HS.out _ d3) (fun hHeld => ?_)
    clear hK KQ
    refine wpAnyH_ready (rs := [21]) (by kernel_rfl) (by simp) ?_
    refine AllReadyH.cons rfl (fun KQ hK => ?_) AllReadyH.nil
    go_simp
    refine (cX.out _).mono ?_
    rintro e x7 ⟨rfl, a4⟩
    have d4 := grow_trans d3 a4
    refine hK.out _ _ (HS.out _ d4) (fun hHeld => ?_)
    clear hK KQ
    refine wpAnyH_take (i := 22) (v := .int .i64 (2 * x)) rfl (by kernel_rfl) (by kernel_rfl) (by kernel_rfl) (fun _ _ _ h => h) (Or.inl ⟨by rfl, fun w hS => by go_simp⟩) hHeld ?_
    simp only [Act.put, List.getElem_toArray, List.getElem_cons_zero, List.getElem_cons_succ, List.setIfInBounds_toArray, List.set_cons_zero, List.set_cons_succ]
    refine wpAnyH_take (i := 23) (v := .int .i64 (2 * x - 1)) rfl (by kernel_rfl) (by kernel_rfl) (by kernel_rfl) (fun _ _ _ h => h) (Or.inl ⟨by rfl, fun w hS => by go_simp⟩) hHeld ?_
    simp only [Act.put, List.getElem_toArray, List.getElem_cons_zero, List.getElem_cons_succ, List.setIfInBounds_toArray, List.set_cons_zero, List.set_cons_succ]
    refine wpAnyH_take (i := 24) (v := .bool false) rfl (by kernel_rfl) (by kernel_rfl) (by kernel_rfl) (fun _ _ _ h => h) (Or.inl ⟨by rfl, fun w hS => by go_simp⟩) hHeld ?_
    simp only [Act.put, List.getElem_toArray, List.getElem_cons_zero, List.getElem_cons_succ, List.setIfInBounds_toArray, List.set_cons_zero, List.set_cons_succ]
    refine wpAnyH_take (i := 25) (v := .bool false) rfl (by kernel_rfl) (by kernel_rfl) (by kernel_rfl) (fun _ _ _ h => h) (Or.inl ⟨by rfl, fun w hS => by go_simp⟩) hHeld ?_
    simp only [Act.put, List.getElem_toArray, List.getElem_cons_zero, List.getElem_cons_succ, List.setIfInBounds_toArray, List.set_cons_zero, List.set_cons_succ]
    refine wpAnyH_done (by kernel_rfl) ?_ _
    have c9 := grow_trans c8 d4
    have HS9 : Hid (∀ w', Below x7.heap.size x7 w' → w'.rangeAt gp 0 (B ps).toList ∧ w'.rangeAt gq 0 (B qs).toList) := fun w' hw' => HS8.out w' (grow_trans d4 hw')
    clear HS HS8 HB8 c8 d0 d1 d2 d3 d4 a1 a2 a3 a4 hw1 hw2 hx2 hxy cX cY cZ hcq hc4 hc5
    go_wp2_with fail
    go_loopw [9] (fun s wr => ∃ k : Nat, k ≤ c ∧ s = .int .i64 k ∧ Hid (Below x7.heap.size x7 wr)) (fun s _ => c - (intOf s).toNat)
    case atStart => exact ⟨0, by omega, rfl, Below.refl _ _⟩
    case round =>
      obtain ⟨k, hk, rfl, hb⟩ := hrel
      obtain ⟨wz, rfl⟩ : ∃ x, x = wr := ⟨_, rfl⟩
      by_cases hkc : k < c
      · have hkc' : (k : Int) < (c : Int) := by omega
        obtain ⟨z, hz⟩ : ∃ z, z = kb ps k := ⟨_, rfl⟩
        have cX : Hid (∀ w', Calls Try.prog 14 #[.agg (B ps), .int .i64 k] w' fun e w'' => e = .returned (.int .i64 z) ∧ Below w'.heap.size w' w'') := by
          intro w'
          rw [hz]
          exact bit_in ps k w' HP.out (by omega)
        have cY : Hid (∀ w', Calls Try.prog 14 #[.agg (B qs), .int .i64 k] w' fun e w'' => e = .returned (.int .i64 z) ∧ Below w'.heap.size w' w'') := by
          intro w'
          rw [hz, HC.out.2.1 k hkc]
          exact bit_in qs k w' HQ.out (by omega)
        have HS : Hid (∀ w', Below wz.heap.size wz w' → w'.rangeAt gp 0 (B ps).toList ∧ w'.rangeAt gq 0 (B qs).toList) := fun w' hw' => HS9.out w' (grow_trans hb.out hw')
        have d0 : Below wz.heap.size wz wz.drew := (Below.refl _ _).drew
        clear hz
        go_wp2_with fail
        refine wp_region_held_drew (S := fun w' => w'.rangeAt gp 0 (B ps).toList ∧ w'.rangeAt gq 0 (B qs).toList) (by kernel_rfl) (HS.out _ d0) (fun hHeld => ?_)
        refine wpAnyH_take (i := 0) (v := .agg (B ps)) rfl (by kernel_rfl) (by kernel_rfl) (by kernel_rfl) (fun _ _ _ h => h) (yieldsIf_load_mid rfl 24 (.tmp 2) rfl gp 0 rfl (B ps).toList _ (fun w hS => hS.1) u_path rfl hiP) hHeld ?_
        simp only [Act.put, List.getElem_toArray, List.getElem_cons_zero, List.setIfInBounds_toArray, List.set_cons_zero, List.set_cons_succ]
        refine wpAnyH_take (i := 1) (v := .int .i64 k) rfl (by kernel_rfl) (by kernel_rfl) (by kernel_rfl) (fun _ _ _ h => h) (Or.inl ⟨by rfl, fun w hS => by go_simp⟩) hHeld ?_
        simp only [Act.put, List.getElem_toArray, List.getElem_cons_zero, List.getElem_cons_succ, List.setIfInBounds_toArray, List.set_cons_zero, List.set_cons_succ]
        refine wpAnyH_take (i := 3) (v := .agg (B qs)) rfl (by kernel_rfl) (by kernel_rfl) (by kernel_rfl) (fun _ _ _ h => h) (yieldsIf_load_mid rfl 24 (.tmp 3) rfl gq 0 rfl (B qs).toList _ (fun w hS => hS.2) u_path rfl hiQ) hHeld ?_
        simp only [Act.put, List.getElem_toArray, List.getElem_cons_zero, List.getElem_cons_succ, List.setIfInBounds_toArray, List.set_cons_zero, List.set_cons_succ]
        refine wpAnyH_take (i := 4) (v := .int .i64 k) rfl (by kernel_rfl) (by kernel_rfl) (by kernel_rfl) (fun _ _ _ h => h) (Or.inl ⟨by rfl, fun w hS => by go_simp⟩) hHeld ?_
        simp only [Act.put, List.getElem_toArray, List.getElem_cons_zero, List.getElem_cons_succ, List.setIfInBounds_toArray, List.set_cons_zero, List.set_cons_succ]
        refine wpAnyH_ready (rs := [2]) (by kernel_rfl) (by simp) ?_
        refine AllReadyH.cons rfl (fun KQ hK => ?_) AllReadyH.nil
        go_simp
        refine (cX.out _).mono ?_
        rintro e x8 ⟨rfl, a1⟩
        have d1 := grow_trans d0 a1
        refine hK.out _ _ (HS.out _ d1) (fun hHeld => ?_)
        clear hK KQ
        refine wpAnyH_ready (rs := [5]) (by kernel_rfl) (by simp) ?_
        refine AllReadyH.cons rfl (fun KQ hK => ?_) AllReadyH.nil
        go_simp
        refine (cY.out _).mono ?_
        rintro e x9 ⟨rfl, a2⟩
        have d2 := grow_trans d1 a2
        refine hK.out _ _ (HS.out _ d2) (fun hHeld => ?_)
        clear hK KQ
        refine wpAnyH_take (i := 6) (v := .bool false) rfl (by kernel_rfl) (by kernel_rfl) (by kernel_rfl) (fun _ _ _ h => h) (Or.inl ⟨by rfl, fun w hS => by go_simp⟩) hHeld ?_
        simp only [Act.put, List.getElem_toArray, List.getElem_cons_zero, List.getElem_cons_succ, List.setIfInBounds_toArray, List.set_cons_zero, List.set_cons_succ]
        refine wpAnyH_done (by kernel_rfl) ?_ _
        go_wp2
        exact ⟨⟨k + 1, by omega, by go_num, grow_trans hb.out d2⟩, by simp [intOf]; omega⟩
      · obtain rfl : k = c := by omega
        go_wp2
        go_ret
        exact ⟨rfl, grow_trans c9 hb.out⟩

end Go.Proofs.Ytgkkmkgkgojmiaa
