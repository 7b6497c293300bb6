/- TagApart's walk: the law returns true at all keys, values and digests, and nothing that was in memory turns. -/
import Derived.Test.YtacfhkaihcclaaaDoorTagEq
import Derived.Test.YtacfhkaihcclaaaDoorTagNew
import Derived.Deep.CutRange
namespace Go.Proofs.YtacfhkaihcclaaaDoor
open Go.RowKit

theorem dig0 : dig [0] = [110, 52, 11, 156, 255, 179, 122, 152, 156, 165, 68, 230, 187, 120, 10, 44, 120, 144, 29, 63, 179, 55, 56, 118, 133, 17, 163, 6, 23, 175, 160, 29] := by kernel_rfl
theorem dig0_ne : dig [0] ≠ List.replicate 32 0 := by
  rw [dig0]
  decide

/-- A composite literal, in a region that draws its order. -/
theorem exec_build (o : Oper) (a : Act) (ty : TypeId) (parts : Array (Nat × Operand)) (ho : o.op = .build ty parts) (cs : Array Value) (h : Tryd.prog.built ty (parts.map fun (i, x) => (i, a.eval x)).toList = some cs) (w : World) : (execOp a.eval o).run Tryd.prog w = .ok (.value (.agg cs)) w := by
  unfold execOp
  simp only [ho, Sem.run_bind, run_build w ty _ cs h, Result.andThen_ok, Sem.run_pure]

theorem cat_eq (n : Nat) (xs ys us vs : List Int) (h1 : xs.length = n) (h2 : us.length = n) : xs ++ ys = us ++ vs ↔ xs = us ∧ ys = vs := by
  constructor
  · intro h
    exact List.append_inj h (by omega)
  · rintro ⟨rfl, rfl⟩
    rfl

/-- A composite literal with no parts. -/
theorem exec_build0 (o : Oper) (a : Act) (ty : TypeId) (ho : o.op = .build ty #[]) (cs : Array Value) (h : Tryd.prog.built ty [] = some cs) (w : World) : (execOp a.eval o).run Tryd.prog w = .ok (.value (.agg cs)) w :=
  exec_build o a ty #[] ho cs (by simpa using h) w

/-- The four texts that are held apart. -/
def four (zs K A C : List Int) : List (List Int) := [[0], 1 :: (K ++ A), 2 :: (A ++ C), 3 :: zs]
theorem four_ne (zs K A C : List Int) (i q : Nat) (h : q < i) (hi : i < 4) : (four zs K A C).getD i [] ≠ (four zs K A C).getD q [] := by
  have hd : ∀ j, j < 4 → ((four zs K A C).getD j []).head? = some (j : Int) := by
    intro j hj
    match j, hj with
    | 0, _ => rfl
    | 1, _ => rfl
    | 2, _ => rfl
    | 3, _ => rfl
  intro e
  have h1 := hd i hi
  rw [e, hd q (by omega)] at h1
  injection h1 with h1
  omega

set_option maxHeartbeats 8000000 in
set_option maxRecDepth 20000 in
theorem tagApart_walk (v u : Value) (zs us K J A C : List Int) (w : World) (hv : Reads w v zs) (hu : Reads w u us) (hzl : zs.length ≤ 140737488355328 - 4096) (hul : us.length ≤ 140737488355328 - 4096) (hk : K.length = 32) (hj : J.length = 32) (ha : A.length = 32) (hc : C.length = 32) (bk : Bytes K) (bj : Bytes J) (ba : Bytes A) (bc : Bytes C) (hL : Laid w) :
    Calls Tryd.prog 5 #[.agg (B K), .agg (B J), v, u, .agg (B A), .agg (B C)] w fun e w' => e = .returned (.bool true) ∧ Below w.heap.size w w' := by
  have HV0 := hidden hv
  have HU0 := hidden hu
  have HL0 := hidden hL
  have HK := hidden hk
  have HJ := hidden hj
  have HA := hidden ha
  have HC := hidden hc
  have BK := hidden bk
  have BJ := hidden bj
  have BA := hidden ba
  have BC := hidden bc
  have HZL : Hid (zs.length < 140737488355328) := by show _ < _; omega
  have HUL : Hid (us.length < 140737488355328) := by show _ < _; omega
  obtain ⟨va, vc, rfl, _, _, _, _⟩ := hv
  obtain ⟨ua, uc, rfl, _, _, _, _⟩ := hu
  have hiK : (Tryd.prog.info? 24).map (·.size) = some (B K).toList.length := by rw [B_toList, List.length_map, hk]; kernel_rfl
  have hiJ : (Tryd.prog.info? 24).map (·.size) = some (B J).toList.length := by rw [B_toList, List.length_map, hj]; kernel_rfl
  have hiA : (Tryd.prog.info? 26).map (·.size) = some (B A).toList.length := by rw [B_toList, List.length_map, ha]; kernel_rfl
  have hiC : (Tryd.prog.info? 26).map (·.size) = some (B C).toList.length := by rw [B_toList, List.length_map, hc]; kernel_rfl
  have hu1 : Tryd.prog.underlying 24 = some (.array 32 5) := Tryd.underlying24
  have hu2 : Tryd.prog.underlying 26 = some (.array 32 5) := Tryd.underlying26
  obtain ⟨D0, hD0⟩ : ∃ D, D = dig [0] := ⟨_, rfl⟩
  obtain ⟨DV, hDV⟩ : ∃ D, D = dig (3 :: zs) := ⟨_, rfl⟩
  obtain ⟨DL, hDL⟩ : ∃ D, D = dig (1 :: (K ++ A)) := ⟨_, rfl⟩
  obtain ⟨DI, hDI⟩ : ∃ D, D = dig (2 :: (A ++ C)) := ⟨_, rfl⟩
  have EQ0 : ∀ w, (Op.equalIn 10000 26 (.agg (B D0)) (.agg (B D0))).run Tryd.prog w = .ok true w := by rw [hD0]; exact hash_same _ (dig_length _)
  have EQV : ∀ w, (Op.equalIn 10000 26 (.agg (B DV)) (.agg (B DV))).run Tryd.prog w = .ok true w := by rw [hDV]; exact hash_same _ (dig_length _)
  have EQL : ∀ w, (Op.equalIn 10000 26 (.agg (B DL)) (.agg (B DL))).run Tryd.prog w = .ok true w := by rw [hDL]; exact hash_same _ (dig_length _)
  have EQI : ∀ w, (Op.equalIn 10000 26 (.agg (B DI)) (.agg (B DI))).run Tryd.prog w = .ok true w := by rw [hDI]; exact hash_same _ (dig_length _)
  obtain ⟨Z0, hZ0⟩ : ∃ Z : List Int, Z = List.replicate 32 0 := ⟨_, rfl⟩
  have EQZ : ∀ w, (Op.equalIn 10000 26 (.agg (B D0)) (.agg (B Z0))).run Tryd.prog w = .ok false w := by
    intro w
    rw [hash_eq D0 _ (by rw [hD0]; exact dig_length _) (by rw [hZ0]; simp) w, hD0, hZ0, decide_eq_false dig0_ne]
  have HBLD : Hid (Tryd.prog.built 26 [] = some (B Z0)) := by
    show _ = _
    rw [hZ0]
    kernel_rfl
  clear hZ0
  have SUM : Hid (∀ (l D : List Int), D = dig l → l.length ≤ 576460752303423488 → ∀ x w', Laid w' → Reads w' x l → Calls Tryd.prog 23 #[x] w' fun e w'' => e = .returned (.agg (B D)) ∧ Below w'.heap.size w' w'') := by
    intro l D hD hl x w' hL' hr
    rw [hD]
    exact shaSum_any x l w' hr hL' hl
  have H0 := hidden hD0
  have HV := hidden hDV
  have HLf := hidden hDL
  have HI := hidden hDI
  clear hD0 hDV hDL hDI hk hj ha hc bk bj ba bc hL
  go_enter Tryd.func5, Tryd.ntmps5
  go_wp2_with (first | (have hx := hl3; clear hx; refine wpList_bx _ rfl _ _ rfl _ rfl ?_; intro w4 g4 hg4 hl4 B4 b4) | (have hx := hl2; clear hx; refine wpList_bx _ rfl _ _ rfl _ rfl ?_; intro w3 g3 hg3 hl3 B3 b3) | (have hx := hl1; clear hx; refine wpList_bx _ rfl _ _ rfl _ rfl ?_; intro w2 g2 hg2 hl2 B2 b2) | (refine wpList_bx _ rfl _ _ rfl _ rfl ?_; intro w1 g1 hg1 hl1 B1 b1))
  have c4 := grow_trans (grow_trans (grow_trans b1 b2) b3) b4
  have HS : Hid (∀ w', Below w4.heap.size w4 w' → w'.rangeAt g1 0 (B K).toList ∧ w'.rangeAt g2 0 (B J).toList ∧ w'.rangeAt g3 0 (B A).toList ∧ w'.rangeAt g4 0 (B C).toList) := by
    intro w' hw'
    exact ⟨((((B1.grow b2).grow b3).grow b4).grow hw').range, (((B2.grow b3).grow b4).grow hw').range, ((B3.grow b4).grow hw').range, (B4.grow hw').range⟩
  have LW : Hid (∀ w', Below w4.heap.size w4 w' → Laid w') := fun w' hw' => HL0.out.grow (grow_trans c4 hw')
  have RV : Hid (∀ w', Below w4.heap.size w4 w' → Reads w' (.slice va zs.length vc) zs) := fun w' hw' => HV0.out.grow (grow_trans c4 hw')
  have RU : Hid (∀ w', Below w4.heap.size w4 w' → Reads w' (.slice ua us.length uc) us) := fun w' hw' => HU0.out.grow (grow_trans c4 hw')
  have cE : Hid (∀ w', Below w4.heap.size w4 w' → Calls Tryd.prog 9 #[] w' fun e w'' => e = .returned (.agg (B D0)) ∧ Below w'.heap.size w' w'') := by
    intro w' hw'
    rw [H0.out]
    exact empty_any w' (LW.out w' hw')
  have cV : Hid (∀ w', Below w4.heap.size w4 w' → Calls Tryd.prog 11 #[.slice va zs.length vc] w' fun e w'' => e = .returned (.agg (B DV)) ∧ Below w'.heap.size w' w'') := by
    intro w' hw'
    rw [HV.out]
    exact value_any _ zs w' (RV.out w' hw') (LW.out w' hw') (by omega)
  have cL : Hid (∀ w', Below w4.heap.size w4 w' → Calls Tryd.prog 13 #[.agg (B K), .agg (B A)] w' fun e w'' => e = .returned (.agg (B DL)) ∧ Below w'.heap.size w' w'') := by
    intro w' hw'
    rw [HLf.out]
    exact leaf_any K A w' HK.out HA.out BK.out BA.out (LW.out w' hw')
  have cI : Hid (∀ w', Below w4.heap.size w4 w' → Calls Tryd.prog 15 #[.agg (B A), .agg (B C)] w' fun e w'' => e = .returned (.agg (B DI)) ∧ Below w'.heap.size w' w'') := by
    intro w' hw'
    rw [HI.out]
    exact inner_any A C w' HA.out HC.out BA.out BC.out (LW.out w' hw')
  have hd4 : Below w4.heap.size w4 w4.drew := (Below.refl _ _).drew
  clear B1 B2 B3 B4 b1 b2 b3 b4 hg1 hg2 hg3 hg4 hl1 hl2 hl3 hl4
  go_upto_region 1 with fail
  go_cut [55] from 19 (fun s wx => s = .bool false ∧ Below w4.heap.size w4 wx)
  case first =>
    refine wp_region_held_drew (S := fun w' => w'.rangeAt g1 0 (B K).toList ∧ w'.rangeAt g2 0 (B J).toList ∧ w'.rangeAt g3 0 (B A).toList ∧ w'.rangeAt g4 0 (B C).toList) (by kernel_rfl) (HS.out _ hd4) (fun hHeld => ?_)
    refine wpAnyH_ready (rs := [0]) (by kernel_rfl) (by simp) ?_
    refine AllReadyH.cons rfl (fun KQ hK => ?_) AllReadyH.nil
    go_simp
    refine (cE.out _ hd4).mono ?_
    rintro e x1 ⟨rfl, a1⟩
    have d1 := grow_trans hd4 a1
    refine hK.out _ _ (HS.out _ d1) (fun hHeld => ?_)
    clear hK KQ
    refine wpAnyH_ready (rs := [1]) (by kernel_rfl) (by simp) ?_
    refine AllReadyH.cons rfl (fun KQ hK => ?_) AllReadyH.nil
    go_simp
    refine (emptyText_new _).mono ?_
    rintro e x2 ⟨G2, C2, S2, rfl, l2, m2, O2, a2⟩
    have d2 := grow_trans d1 a2
    have R2 := O2.reads
    clear O2 l2 m2
    refine hK.out _ _ (HS.out _ d2) (fun hHeld => ?_)
    clear hK KQ
    refine wpAnyH_ready (rs := [2]) (by kernel_rfl) (by simp) ?_
    refine AllReadyH.cons rfl (fun KQ hK => ?_) AllReadyH.nil
    go_simp
    refine (SUM.out [0] _ H0.out (by simp) _ _ (LW.out _ d2) R2).mono ?_
    rintro e x3 ⟨rfl, a3⟩
    have d3 := grow_trans d2 a3
    clear R2
    refine hK.out _ _ (HS.out _ d3) (fun hHeld => ?_)
    clear hK KQ
    refine wpAnyH_take (i := 3) (v := .bool false) rfl (by kernel_rfl) (by kernel_rfl) (by kernel_rfl) (fun _ _ _ h => h) (Or.inl ⟨by rfl, fun w hS => by go_simp⟩) hHeld ?_
    simp only [Act.put, List.getElem_toArray, List.getElem_cons_zero, List.getElem_cons_succ, List.setIfInBounds_toArray, List.set_cons_zero, List.set_cons_succ]
    refine wpAnyH_take (i := 4) (v := .bool false) rfl (by kernel_rfl) (by kernel_rfl) (by kernel_rfl) (fun _ _ _ h => h) (Or.inl ⟨by rfl, fun w hS => by go_simp⟩) hHeld ?_
    simp only [Act.put, List.getElem_toArray, List.getElem_cons_zero, List.getElem_cons_succ, List.setIfInBounds_toArray, List.set_cons_zero, List.set_cons_succ]
    refine wpAnyH_take (i := 5) (v := .slice va zs.length vc) rfl (by kernel_rfl) (by kernel_rfl) (by kernel_rfl) (fun _ _ _ h => h) (Or.inl ⟨by rfl, fun w hS => by go_simp⟩) hHeld ?_
    simp only [Act.put, List.getElem_toArray, List.getElem_cons_zero, List.getElem_cons_succ, List.setIfInBounds_toArray, List.set_cons_zero, List.set_cons_succ]
    refine wpAnyH_take (i := 7) (v := .slice va zs.length vc) rfl (by kernel_rfl) (by kernel_rfl) (by kernel_rfl) (fun _ _ _ h => h) (Or.inl ⟨by rfl, fun w hS => by go_simp⟩) hHeld ?_
    simp only [Act.put, List.getElem_toArray, List.getElem_cons_zero, List.getElem_cons_succ, List.setIfInBounds_toArray, List.set_cons_zero, List.set_cons_succ]
    refine wpAnyH_ready (rs := [6]) (by kernel_rfl) (by simp) ?_
    refine AllReadyH.cons rfl (fun KQ hK => ?_) AllReadyH.nil
    go_simp
    refine (cV.out _ d3).mono ?_
    rintro e x4 ⟨rfl, a4⟩
    have d4 := grow_trans d3 a4
    refine hK.out _ _ (HS.out _ d4) (fun hHeld => ?_)
    clear hK KQ
    refine wpAnyH_ready (rs := [8]) (by kernel_rfl) (by simp) ?_
    refine AllReadyH.cons rfl (fun KQ hK => ?_) AllReadyH.nil
    go_simp
    refine (valueText_new _ zs _ (RV.out _ d4) HZL.out).mono ?_
    rintro e x5 ⟨G5, C5, S5, rfl, l5, m5, O5, a5⟩
    have d5 := grow_trans d4 a5
    have R5 := O5.reads
    clear O5 l5 m5
    refine hK.out _ _ (HS.out _ d5) (fun hHeld => ?_)
    clear hK KQ
    refine wpAnyH_ready (rs := [9]) (by kernel_rfl) (by simp) ?_
    refine AllReadyH.cons rfl (fun KQ hK => ?_) AllReadyH.nil
    go_simp
    refine (SUM.out (3 :: zs) _ HV.out (by rw [List.length_cons]; omega) _ _ (LW.out _ d5) R5).mono ?_
    rintro e x6 ⟨rfl, a6⟩
    have d6 := grow_trans d5 a6
    clear R5
    refine hK.out _ _ (HS.out _ d6) (fun hHeld => ?_)
    clear hK KQ
    refine wpAnyH_take (i := 10) (v := .bool false) rfl (by kernel_rfl) (by kernel_rfl) (by kernel_rfl) (fun _ _ _ h => h) (Or.inl ⟨by rfl, fun w hS => by go_simp⟩) hHeld ?_
    simp only [Act.put, List.getElem_toArray, List.getElem_cons_zero, List.getElem_cons_succ, List.setIfInBounds_toArray, List.set_cons_zero, List.set_cons_succ]
    refine wpAnyH_take (i := 11) (v := .bool false) rfl (by kernel_rfl) (by kernel_rfl) (by kernel_rfl) (fun _ _ _ h => h) (Or.inl ⟨by rfl, fun w hS => by go_simp⟩) hHeld ?_
    simp only [Act.put, List.getElem_toArray, List.getElem_cons_zero, List.getElem_cons_succ, List.setIfInBounds_toArray, List.set_cons_zero, List.set_cons_succ]
    refine wpAnyH_take (i := 12) (v := .bool false) rfl (by kernel_rfl) (by kernel_rfl) (by kernel_rfl) (fun _ _ _ h => h) (Or.inl ⟨by rfl, fun w hS => by go_simp⟩) hHeld ?_
    simp only [Act.put, List.getElem_toArray, List.getElem_cons_zero, List.getElem_cons_succ, List.setIfInBounds_toArray, List.set_cons_zero, List.set_cons_succ]
    refine wpAnyH_take (i := 13) (v := .agg (B K)) rfl (by kernel_rfl) (by kernel_rfl) (by kernel_rfl) (fun _ _ _ h => h) (yieldsIf_load_mid rfl 24 (.tmp 6) rfl g1 0 rfl (B K).toList _ (fun w hS => hS.1) hu1 rfl hiK) hHeld ?_
    simp only [Act.put, List.getElem_toArray, List.getElem_cons_zero, List.getElem_cons_succ, List.setIfInBounds_toArray, List.set_cons_zero, List.set_cons_succ]
    refine wpAnyH_take (i := 14) (v := .agg (B A)) rfl (by kernel_rfl) (by kernel_rfl) (by kernel_rfl) (fun _ _ _ h => h) (yieldsIf_load_mid rfl 26 (.tmp 10) rfl g3 0 rfl (B A).toList _ (fun w hS => hS.2.2.1) hu2 rfl hiA) hHeld ?_
    simp only [Act.put, List.getElem_toArray, List.getElem_cons_zero, List.getElem_cons_succ, List.setIfInBounds_toArray, List.set_cons_zero, List.set_cons_succ]
    refine wpAnyH_take (i := 16) (v := .agg (B K)) rfl (by kernel_rfl) (by kernel_rfl) (by kernel_rfl) (fun _ _ _ h => h) (yieldsIf_load_mid rfl 24 (.tmp 6) rfl g1 0 rfl (B K).toList _ (fun w hS => hS.1) hu1 rfl hiK) hHeld ?_
    simp only [Act.put, List.getElem_toArray, List.getElem_cons_zero, List.getElem_cons_succ, List.setIfInBounds_toArray, List.set_cons_zero, List.set_cons_succ]
    refine wpAnyH_take (i := 17) (v := .agg (B A)) rfl (by kernel_rfl) (by kernel_rfl) (by kernel_rfl) (fun _ _ _ h => h) (yieldsIf_load_mid rfl 26 (.tmp 10) rfl g3 0 rfl (B A).toList _ (fun w hS => hS.2.2.1) hu2 rfl hiA) hHeld ?_
    simp only [Act.put, List.getElem_toArray, List.getElem_cons_zero, List.getElem_cons_succ, List.setIfInBounds_toArray, List.set_cons_zero, List.set_cons_succ]
    refine wpAnyH_ready (rs := [15]) (by kernel_rfl) (by simp) ?_
    refine AllReadyH.cons rfl (fun KQ hK => ?_) AllReadyH.nil
    go_simp
    refine (cL.out _ d6).mono ?_
    rintro e x7 ⟨rfl, a7⟩
    have d7 := grow_trans d6 a7
    refine hK.out _ _ (HS.out _ d7) (fun hHeld => ?_)
    clear hK KQ
    refine wpAnyH_ready (rs := [18]) (by kernel_rfl) (by simp) ?_
    refine AllReadyH.cons rfl (fun KQ hK => ?_) AllReadyH.nil
    go_simp
    refine (leafText_new K A _ HK.out HA.out BK.out BA.out).mono ?_
    rintro e x8 ⟨G8, C8, S8, rfl, l8, m8, O8, a8⟩
    have d8 := grow_trans d7 a8
    have R8 := O8.reads
    clear O8 l8 m8
    refine hK.out _ _ (HS.out _ d8) (fun hHeld => ?_)
    clear hK KQ
    refine wpAnyH_ready (rs := [19]) (by kernel_rfl) (by simp) ?_
    refine AllReadyH.cons rfl (fun KQ hK => ?_) AllReadyH.nil
    go_simp
    refine (SUM.out (1 :: (K ++ A)) _ HLf.out (by simp [HK.out, HA.out]) _ _ (LW.out _ d8) R8).mono ?_
    rintro e x9 ⟨rfl, a9⟩
    have d9 := grow_trans d8 a9
    clear R8
    refine hK.out _ _ (HS.out _ d9) (fun hHeld => ?_)
    clear hK KQ
    refine wpAnyH_take (i := 20) (v := .bool false) rfl (by kernel_rfl) (by kernel_rfl) (by kernel_rfl) (fun _ _ _ h => h) (Or.inl ⟨by rfl, fun w hS => by go_simp⟩) hHeld ?_
    simp only [Act.put, List.getElem_toArray, List.getElem_cons_zero, List.getElem_cons_succ, List.setIfInBounds_toArray, List.set_cons_zero, List.set_cons_succ]
    refine wpAnyH_take (i := 21) (v := .bool false) rfl (by kernel_rfl) (by kernel_rfl) (by kernel_rfl) (fun _ _ _ h => h) (Or.inl ⟨by rfl, fun w hS => by go_simp⟩) hHeld ?_
    simp only [Act.put, List.getElem_toArray, List.getElem_cons_zero, List.getElem_cons_succ, List.setIfInBounds_toArray, List.set_cons_zero, List.set_cons_succ]
    refine wpAnyH_take (i := 22) (v := .bool false) rfl (by kernel_rfl) (by kernel_rfl) (by kernel_rfl) (fun _ _ _ h => h) (Or.inl ⟨by rfl, fun w hS => by go_simp⟩) hHeld ?_
    simp only [Act.put, List.getElem_toArray, List.getElem_cons_zero, List.getElem_cons_succ, List.setIfInBounds_toArray, List.set_cons_zero, List.set_cons_succ]
    refine wpAnyH_take (i := 23) (v := .agg (B A)) rfl (by kernel_rfl) (by kernel_rfl) (by kernel_rfl) (fun _ _ _ h => h) (yieldsIf_load_mid rfl 26 (.tmp 10) rfl g3 0 rfl (B A).toList _ (fun w hS => hS.2.2.1) hu2 rfl hiA) hHeld ?_
    simp only [Act.put, List.getElem_toArray, List.getElem_cons_zero, List.getElem_cons_succ, List.setIfInBounds_toArray, List.set_cons_zero, List.set_cons_succ]
    refine wpAnyH_take (i := 24) (v := .agg (B C)) rfl (by kernel_rfl) (by kernel_rfl) (by kernel_rfl) (fun _ _ _ h => h) (yieldsIf_load_mid rfl 26 (.tmp 11) rfl g4 0 rfl (B C).toList _ (fun w hS => hS.2.2.2) hu2 rfl hiC) hHeld ?_
    simp only [Act.put, List.getElem_toArray, List.getElem_cons_zero, List.getElem_cons_succ, List.setIfInBounds_toArray, List.set_cons_zero, List.set_cons_succ]
    refine wpAnyH_take (i := 26) (v := .agg (B A)) rfl (by kernel_rfl) (by kernel_rfl) (by kernel_rfl) (fun _ _ _ h => h) (yieldsIf_load_mid rfl 26 (.tmp 10) rfl g3 0 rfl (B A).toList _ (fun w hS => hS.2.2.1) hu2 rfl hiA) hHeld ?_
    simp only [Act.put, List.getElem_toArray, List.getElem_cons_zero, List.getElem_cons_succ, List.setIfInBounds_toArray, List.set_cons_zero, List.set_cons_succ]
    refine wpAnyH_take (i := 27) (v := .agg (B C)) rfl (by kernel_rfl) (by kernel_rfl) (by kernel_rfl) (fun _ _ _ h => h) (yieldsIf_load_mid rfl 26 (.tmp 11) rfl g4 0 rfl (B C).toList _ (fun w hS => hS.2.2.2) hu2 rfl hiC) hHeld ?_
    simp only [Act.put, List.getElem_toArray, List.getElem_cons_zero, List.getElem_cons_succ, List.setIfInBounds_toArray, List.set_cons_zero, List.set_cons_succ]
    refine wpAnyH_ready (rs := [25]) (by kernel_rfl) (by simp) ?_
    refine AllReadyH.cons rfl (fun KQ hK => ?_) AllReadyH.nil
    go_simp
    refine (cI.out _ d9).mono ?_
    rintro e x10 ⟨rfl, a10⟩
    have d10 := grow_trans d9 a10
    refine hK.out _ _ (HS.out _ d10) (fun hHeld => ?_)
    clear hK KQ
    refine wpAnyH_ready (rs := [28]) (by kernel_rfl) (by simp) ?_
    refine AllReadyH.cons rfl (fun KQ hK => ?_) AllReadyH.nil
    go_simp
    refine (innerText_new A C _ HA.out HC.out BA.out BC.out).mono ?_
    rintro e x11 ⟨G11, C11, S11, rfl, l11, m11, O11, a11⟩
    have d11 := grow_trans d10 a11
    have R11 := O11.reads
    clear O11 l11 m11
    refine hK.out _ _ (HS.out _ d11) (fun hHeld => ?_)
    clear hK KQ
    refine wpAnyH_ready (rs := [29]) (by kernel_rfl) (by simp) ?_
    refine AllReadyH.cons rfl (fun KQ hK => ?_) AllReadyH.nil
    go_simp
    refine (SUM.out (2 :: (A ++ C)) _ HI.out (by simp [HA.out, HC.out]) _ _ (LW.out _ d11) R11).mono ?_
    rintro e x12 ⟨rfl, a12⟩
    have d12 := grow_trans d11 a12
    clear R11
    refine hK.out _ _ (HS.out _ d12) (fun hHeld => ?_)
    clear hK KQ
    refine wpAnyH_take (i := 30) (v := .bool false) rfl (by kernel_rfl) (by kernel_rfl) (by kernel_rfl) (fun _ _ _ h => h) (Or.inl ⟨by rfl, fun w hS => by go_simp⟩) hHeld ?_
    simp only [Act.put, List.getElem_toArray, List.getElem_cons_zero, List.getElem_cons_succ, List.setIfInBounds_toArray, List.set_cons_zero, List.set_cons_succ]
    refine wpAnyH_take (i := 31) (v := .bool false) rfl (by kernel_rfl) (by kernel_rfl) (by kernel_rfl) (fun _ _ _ h => h) (Or.inl ⟨by rfl, fun w hS => by go_simp⟩) hHeld ?_
    simp only [Act.put, List.getElem_toArray, List.getElem_cons_zero, List.getElem_cons_succ, List.setIfInBounds_toArray, List.set_cons_zero, List.set_cons_succ]
    refine wpAnyH_take (i := 32) (v := .bool false) rfl (by kernel_rfl) (by kernel_rfl) (by kernel_rfl) (fun _ _ _ h => h) (Or.inl ⟨by rfl, fun w hS => by go_simp⟩) hHeld ?_
    simp only [Act.put, List.getElem_toArray, List.getElem_cons_zero, List.getElem_cons_succ, List.setIfInBounds_toArray, List.set_cons_zero, List.set_cons_succ]
    refine wpAnyH_take (i := 34) (v := .agg (B Z0)) rfl (by kernel_rfl) (by kernel_rfl) (by kernel_rfl) (fun _ _ _ h => h) (Or.inl ⟨by rfl, fun w hS => exec_build0 _ _ 26 (by rfl) (B Z0) HBLD.out w⟩) hHeld ?_
    simp only [Act.put, List.getElem_toArray, List.getElem_cons_zero, List.getElem_cons_succ, List.setIfInBounds_toArray, List.set_cons_zero, List.set_cons_succ]
    refine wpAnyH_ready (rs := [33]) (by kernel_rfl) (by simp) ?_
    refine AllReadyH.cons rfl (fun KQ hK => ?_) AllReadyH.nil
    go_simp
    refine (cE.out _ d12).mono ?_
    rintro e x13 ⟨rfl, a13⟩
    have d13 := grow_trans d12 a13
    refine hK.out _ _ (HS.out _ d13) (fun hHeld => ?_)
    clear hK KQ
    refine wpAnyH_take (i := 35) (v := .bool false) rfl (by kernel_rfl) (by kernel_rfl) (by kernel_rfl) (fun _ _ _ h => h) (Or.inl ⟨by rfl, fun w hS => by go_simp⟩) hHeld ?_
    simp only [Act.put, List.getElem_toArray, List.getElem_cons_zero, List.getElem_cons_succ, List.setIfInBounds_toArray, List.set_cons_zero, List.set_cons_succ]
    refine wpAnyH_take (i := 36) (v := .bool false) rfl (by kernel_rfl) (by kernel_rfl) (by kernel_rfl) (fun _ _ _ h => h) (Or.inl ⟨by rfl, fun w hS => by go_simp⟩) hHeld ?_
    simp only [Act.put, List.getElem_toArray, List.getElem_cons_zero, List.getElem_cons_succ, List.setIfInBounds_toArray, List.set_cons_zero, List.set_cons_succ]
    refine wpAnyH_done (by kernel_rfl) ?_ _
    go_wp2_with fail
    go_meet
    case rel => exact ⟨rfl, d13⟩
  case rest =>
    obtain ⟨rfl, k5⟩ := hcut
    obtain ⟨w5, rfl⟩ : ∃ x, x = wc := ⟨_, rfl⟩
    have hd5 := k5.drew
    go_upto_region 3 with fail
    go_cut [13] from 56 (fun s wx => Parts wx s (four zs K A C) ∧ Below w4.heap.size w4 wx)
    case first =>
      refine wp_region_held_drew (S := fun w' => w'.rangeAt g1 0 (B K).toList ∧ w'.rangeAt g2 0 (B J).toList ∧ w'.rangeAt g3 0 (B A).toList ∧ w'.rangeAt g4 0 (B C).toList) (by kernel_rfl) (HS.out _ hd5) (fun hHeld => ?_)
      refine wpAnyH_take (i := 1) (v := .agg (B K)) rfl (by kernel_rfl) (by kernel_rfl) (by kernel_rfl) (fun _ _ _ h => h) (yieldsIf_load_mid rfl 24 (.tmp 6) rfl g1 0 rfl (B K).toList _ (fun w hS => hS.1) hu1 rfl hiK) hHeld ?_
      simp only [Act.put, List.getElem_toArray, List.getElem_cons_zero, List.getElem_cons_succ, List.setIfInBounds_toArray, List.set_cons_zero, List.set_cons_succ]
      refine wpAnyH_take (i := 2) (v := .agg (B A)) rfl (by kernel_rfl) (by kernel_rfl) (by kernel_rfl) (fun _ _ _ h => h) (yieldsIf_load_mid rfl 26 (.tmp 10) rfl g3 0 rfl (B A).toList _ (fun w hS => hS.2.2.1) hu2 rfl hiA) hHeld ?_
      simp only [Act.put, List.getElem_toArray, List.getElem_cons_zero, List.getElem_cons_succ, List.setIfInBounds_toArray, List.set_cons_zero, List.set_cons_succ]
      refine wpAnyH_take (i := 4) (v := .agg (B A)) rfl (by kernel_rfl) (by kernel_rfl) (by kernel_rfl) (fun _ _ _ h => h) (yieldsIf_load_mid rfl 26 (.tmp 10) rfl g3 0 rfl (B A).toList _ (fun w hS => hS.2.2.1) hu2 rfl hiA) hHeld ?_
      simp only [Act.put, List.getElem_toArray, List.getElem_cons_zero, List.getElem_cons_succ, List.setIfInBounds_toArray, List.set_cons_zero, List.set_cons_succ]
      refine wpAnyH_take (i := 5) (v := .agg (B C)) rfl (by kernel_rfl) (by kernel_rfl) (by kernel_rfl) (fun _ _ _ h => h) (yieldsIf_load_mid rfl 26 (.tmp 11) rfl g4 0 rfl (B C).toList _ (fun w hS => hS.2.2.2) hu2 rfl hiC) hHeld ?_
      simp only [Act.put, List.getElem_toArray, List.getElem_cons_zero, List.getElem_cons_succ, List.setIfInBounds_toArray, List.set_cons_zero, List.set_cons_succ]
      refine wpAnyH_take (i := 7) (v := .slice va zs.length vc) rfl (by kernel_rfl) (by kernel_rfl) (by kernel_rfl) (fun _ _ _ h => h) (Or.inl ⟨by rfl, fun w hS => by go_simp⟩) hHeld ?_
      simp only [Act.put, List.getElem_toArray, List.getElem_cons_zero, List.getElem_cons_succ, List.setIfInBounds_toArray, List.set_cons_zero, List.set_cons_succ]
      refine wpAnyH_ready (rs := [0]) (by kernel_rfl) (by simp) ?_
      refine AllReadyH.cons rfl (fun KQ hK => ?_) AllReadyH.nil
      go_simp
      refine (emptyText_new _).mono ?_
      rintro e x1 ⟨G1, C1, S1, rfl, l1, m1, O1, a1⟩
      have d1 := grow_trans hd5 a1
      have R1 := O1.reads
      clear O1 l1 m1
      refine hK.out _ _ (HS.out _ d1) (fun hHeld => ?_)
      clear hK KQ
      refine wpAnyH_ready (rs := [3]) (by kernel_rfl) (by simp) ?_
      refine AllReadyH.cons rfl (fun KQ hK => ?_) AllReadyH.nil
      go_simp
      refine (leafText_new K A _ HK.out HA.out BK.out BA.out).mono ?_
      rintro e x2 ⟨G2, C2, S2, rfl, l2, m2, O2, a2⟩
      have d2 := grow_trans d1 a2
      have R2 := O2.reads
      clear O2 l2 m2
      refine hK.out _ _ (HS.out _ d2) (fun hHeld => ?_)
      clear hK KQ
      refine wpAnyH_ready (rs := [6]) (by kernel_rfl) (by simp) ?_
      refine AllReadyH.cons rfl (fun KQ hK => ?_) AllReadyH.nil
      go_simp
      refine (innerText_new A C _ HA.out HC.out BA.out BC.out).mono ?_
      rintro e x3 ⟨G3, C3, S3, rfl, l3, m3, O3, a3⟩
      have d3 := grow_trans d2 a3
      have R3 := O3.reads
      clear O3 l3 m3
      refine hK.out _ _ (HS.out _ d3) (fun hHeld => ?_)
      clear hK KQ
      refine wpAnyH_ready (rs := [8]) (by kernel_rfl) (by simp) ?_
      refine AllReadyH.cons rfl (fun KQ hK => ?_) AllReadyH.nil
      go_simp
      refine (valueText_new _ zs _ (RV.out _ d3) HZL.out).mono ?_
      rintro e x4 ⟨G4, C4, S4, rfl, l4, m4, O4, a4⟩
      have d4 := grow_trans d3 a4
      have R4 := O4.reads
      clear O4 l4 m4
      refine hK.out _ _ (HS.out _ d4) (fun hHeld => ?_)
      clear hK KQ
      refine wpAnyH_ready (rs := [9]) (by kernel_rfl) (by simp) ?_
      refine AllReadyH.cons rfl (fun KQ hK => ?_) AllReadyH.nil
      go_simp
      refine hK.out _ _ (HS.out _ (grow_trans d4 (grow_alloc _ _))) (fun hHeld => ?_)
      clear hK KQ
      refine wpAnyH_take (i := 10) (v := .slice (some ⟨x4.heap.size, 0, none⟩) 4 4) rfl (by kernel_rfl) (by kernel_rfl) (by kernel_rfl) (fun _ _ _ h => h) (Or.inl ⟨by rfl, fun w hS => by go_simp⟩) hHeld ?_
      simp only [Act.put, List.getElem_toArray, List.getElem_cons_zero, List.getElem_cons_succ, List.setIfInBounds_toArray, List.set_cons_zero, List.set_cons_succ]
      refine wpAnyH_done (by kernel_rfl) ?_ _
      have q1 := grow_trans a2 (grow_trans a3 a4)
      have q2 := grow_trans a3 a4
      have hPa := parts_new x4 [.slice (some ⟨G1, 0, none⟩) 1 C1, .slice (some ⟨G2, 0, none⟩) 65 C2, .slice (some ⟨G3, 0, none⟩) 65 C3, .slice (some ⟨G4, 0, none⟩) (zs.length + 1) C4] (four zs K A C) 4 rfl rfl (by omega) (by
        intro i hi
        match i, hi with
        | 0, _ => exact R1.grow q1
        | 1, _ => exact R2.grow q2
        | 2, _ => exact R3.grow a4
        | 3, _ => exact R4)
      have hBe := grow_trans d4 (grow_alloc x4 (.cells [.slice (some ⟨G1, 0, none⟩) 1 C1, .slice (some ⟨G2, 0, none⟩) 65 C2, .slice (some ⟨G3, 0, none⟩) 65 C3, .slice (some ⟨G4, 0, none⟩) (zs.length + 1) C4].toArray 25))
      clear hHeld
      go_wp2_with fail
      go_meet
      case rel => exact ⟨hPa, hBe⟩
    case rest =>
      obtain ⟨hPa, k6⟩ := hcut
      obtain ⟨aa, cap, W, rfl, h1, h2, h3, h4⟩ := hPa
      have hz4 : (four zs K A C).length = 4 := rfl
      rw [hz4] at h1 h3 h4 ⊢
      obtain ⟨bb, off, rfl, hcc⟩ := h3 (by omega)
      obtain ⟨wz, rfl⟩ : ∃ x, x = wc := ⟨_, rfl⟩
      have HCC := hidden hcc
      have HRD := hidden h4
      have hcap : (4 : Int) ≤ (cap : Int) := by omega
      clear hcc h4 hz4 h2 h3 cE cV cL cI SUM
      go_wp2_with fail
      go_loopw [12, 14] (fun x i wl => x = .bool false ∧ ∃ (k : Nat), k ≤ 4 ∧ i = .int .i64 k ∧ Below wz.heap.size wz wl) (fun _ i _ => 4 - (intOf i).toNat)
      case atStart => exact ⟨rfl, 0, by omega, rfl, Below.refl _ _⟩
      case round =>
        obtain ⟨rfl, k, hk, rfl, hbo⟩ := hrel
        obtain ⟨wo, rfl⟩ : ∃ x, x = wr := ⟨_, rfl⟩
        by_cases hlt : k < 4
        · have j1 : (k : Int) < 4 := by omega
          have j0 : (0 : Int) ≤ (k : Int) := by omega
          go_wp2_with fail
          go_loopw [12, 15] (fun x i wl => x = .bool false ∧ ∃ (m : Nat), m ≤ k ∧ i = .int .i64 m ∧ Below wz.heap.size wz wl) (fun _ i _ => k - (intOf i).toNat)
          case atStart => exact ⟨rfl, 0, by omega, rfl, hbo⟩
          case round =>
            obtain ⟨rfl, m, hm, rfl, hbl⟩ := hrel
            by_cases hmk : m < k
            · have hc1 := HCC.out k hlt
              have hc2 := HCC.out m (by omega)
              have HS7 : Hid (∀ w', Below wz.heap.size wz w' → w'.cell? ⟨bb, off + k, none⟩ = some (W k) ∧ w'.cell? ⟨bb, off + m, none⟩ = some (W m)) := fun w' hw' =>
                ⟨(hw'.cell (p := ⟨bb, off + k, none⟩) (block_lt_of_cell hc1)).trans hc1, (hw'.cell (p := ⟨bb, off + m, none⟩) (block_lt_of_cell hc2)).trans hc2⟩
              have HSM : Hid (∀ w', Below wz.heap.size wz w' → Calls Tryd.prog 21 #[W k, W m] w' fun e w'' => e = .returned (.bool false) ∧ w'' = w') := by
                intro w' hw'
                have h5 := same_any (W k) (W m) _ _ w' ((HRD.out k hlt).grow hw') ((HRD.out m (by omega)).grow hw')
                rw [decide_eq_false (four_ne zs K A C k m hmk hlt)] at h5
                exact h5
              have m1 : (m : Int) < 4 := by omega
              have m0 : (0 : Int) ≤ (m : Int) := by omega
              have mk : (m : Int) < (k : Int) := by omega
              have hbd := hbl.drew
              generalize W k = lv at *
              generalize W m = vj at *
              clear hc1 hc2
              go_wp2_with fail
              go_region_held2 (fun w' => w'.cell? ⟨bb, off + k, none⟩ = some lv ∧ w'.cell? ⟨bb, off + m, none⟩ = some vj)
                (first | exact HS7.out _ (by assumption))
                (first | (go_at_call 21; refine (HSM.out _ (by assumption)).mono ?_; rintro e wy ⟨rfl, hwy⟩; rw [hwy]; clear hwy))
              go_wp2
              exact ⟨⟨rfl, m + 1, by omega, by go_num, by assumption⟩, by simp [intOf]; omega⟩
            · go_wp2_with fail
              exact ⟨⟨rfl, k + 1, by omega, by go_num, hbl⟩, by simp [intOf]; omega⟩
        · have k7 := grow_trans k6 hbo
          have hd7 := k7.drew
          clear HCC HRD
          go_upto_region 12 with fail
          go_cut [16] from 86 (fun s wx => s = .bool true ∧ Below w4.heap.size w4 wx)
          case first =>
            by_cases hKJ : K = J
            · have EKJ : ∀ w, (Op.equalIn 10000 24 (.agg (B K)) (.agg (B J))).run Tryd.prog w = .ok true w := by
                intro w
                rw [path_eq K J HK.out HJ.out w, decide_eq_true hKJ]
              obtain ⟨q, hq⟩ : ∃ q, q = decide (A = C) := ⟨_, rfl⟩
              have EAC : ∀ w, (Op.equalIn 10000 26 (.agg (B A)) (.agg (B C))).run Tryd.prog w = .ok q w := by
                intro w
                rw [hash_eq A C HA.out HC.out w, hq]
              have HSM : Hid (∀ w' x y, Reads w' x (1 :: (K ++ A)) → Reads w' y (1 :: (J ++ C)) → Calls Tryd.prog 21 #[x, y] w' fun e w'' => e = .returned (.bool q) ∧ w'' = w') := by
                intro w' x y h5 h6
                have h7 := same_any x y _ _ w' h5 h6
                have h8 : decide (1 :: (K ++ A) = 1 :: (J ++ C)) = q := by
                  rw [hq]
                  apply decide_eq_decide.2
                  rw [List.cons.injEq, cat_eq 32 K A J C HK.out HJ.out]
                  exact ⟨fun h => h.2.2, fun h => ⟨rfl, hKJ, h⟩⟩
                rw [h8] at h7
                exact h7
              have hqq : (q == q) = true := by simp
              clear hq hKJ
              refine wp_region_held_drew (S := fun w' => w'.rangeAt g1 0 (B K).toList ∧ w'.rangeAt g2 0 (B J).toList ∧ w'.rangeAt g3 0 (B A).toList ∧ w'.rangeAt g4 0 (B C).toList) (by kernel_rfl) (HS.out _ hd7) (fun hHeld => ?_)
              refine wpAnyH_take (i := 0) (v := .agg (B K)) rfl (by kernel_rfl) (by kernel_rfl) (by kernel_rfl) (fun _ _ _ h => h) (yieldsIf_load_mid rfl 24 (.tmp 6) rfl g1 0 rfl (B K).toList _ (fun w hS => hS.1) hu1 rfl hiK) hHeld ?_
              simp only [Act.put, List.getElem_toArray, List.getElem_cons_zero, List.setIfInBounds_toArray, List.set_cons_zero, List.set_cons_succ]
              refine wpAnyH_take (i := 1) (v := .agg (B A)) rfl (by kernel_rfl) (by kernel_rfl) (by kernel_rfl) (fun _ _ _ h => h) (yieldsIf_load_mid rfl 26 (.tmp 10) rfl g3 0 rfl (B A).toList _ (fun w hS => hS.2.2.1) hu2 rfl hiA) hHeld ?_
              simp only [Act.put, List.getElem_toArray, List.getElem_cons_zero, List.getElem_cons_succ, List.setIfInBounds_toArray, List.set_cons_zero, List.set_cons_succ]
              refine wpAnyH_take (i := 3) (v := .agg (B J)) rfl (by kernel_rfl) (by kernel_rfl) (by kernel_rfl) (fun _ _ _ h => h) (yieldsIf_load_mid rfl 24 (.tmp 7) rfl g2 0 rfl (B J).toList _ (fun w hS => hS.2.1) hu1 rfl hiJ) hHeld ?_
              simp only [Act.put, List.getElem_toArray, List.getElem_cons_zero, List.getElem_cons_succ, List.setIfInBounds_toArray, List.set_cons_zero, List.set_cons_succ]
              refine wpAnyH_take (i := 4) (v := .agg (B C)) rfl (by kernel_rfl) (by kernel_rfl) (by kernel_rfl) (fun _ _ _ h => h) (yieldsIf_load_mid rfl 26 (.tmp 11) rfl g4 0 rfl (B C).toList _ (fun w hS => hS.2.2.2) hu2 rfl hiC) hHeld ?_
              simp only [Act.put, List.getElem_toArray, List.getElem_cons_zero, List.getElem_cons_succ, List.setIfInBounds_toArray, List.set_cons_zero, List.set_cons_succ]
              refine wpAnyH_take (i := 7) (v := .agg (B K)) rfl (by kernel_rfl) (by kernel_rfl) (by kernel_rfl) (fun _ _ _ h => h) (yieldsIf_load_mid rfl 24 (.tmp 6) rfl g1 0 rfl (B K).toList _ (fun w hS => hS.1) hu1 rfl hiK) hHeld ?_
              simp only [Act.put, List.getElem_toArray, List.getElem_cons_zero, List.getElem_cons_succ, List.setIfInBounds_toArray, List.set_cons_zero, List.set_cons_succ]
              refine wpAnyH_take (i := 8) (v := .agg (B J)) rfl (by kernel_rfl) (by kernel_rfl) (by kernel_rfl) (fun _ _ _ h => h) (yieldsIf_load_mid rfl 24 (.tmp 7) rfl g2 0 rfl (B J).toList _ (fun w hS => hS.2.1) hu1 rfl hiJ) hHeld ?_
              simp only [Act.put, List.getElem_toArray, List.getElem_cons_zero, List.getElem_cons_succ, List.setIfInBounds_toArray, List.set_cons_zero, List.set_cons_succ]
              refine wpAnyH_take (i := 9) (v := .bool true) rfl (by kernel_rfl) (by kernel_rfl) (by kernel_rfl) (fun _ _ _ h => h) (Or.inl ⟨by rfl, fun w hS => by go_simp⟩) hHeld ?_
              simp only [Act.put, List.getElem_toArray, List.getElem_cons_zero, List.getElem_cons_succ, List.setIfInBounds_toArray, List.set_cons_zero, List.set_cons_succ]
              refine wpAnyH_ready (rs := [2]) (by kernel_rfl) (by simp) ?_
              refine AllReadyH.cons rfl (fun KQ hK => ?_) AllReadyH.nil
              go_simp
              refine (leafText_new K A _ HK.out HA.out BK.out BA.out).mono ?_
              rintro e x1 ⟨G1, C1, S1, rfl, l1, m1, O1, a1⟩
              have d1 := grow_trans hd7 a1
              have R1 := O1.reads
              clear O1 l1 m1
              refine hK.out _ _ (HS.out _ d1) (fun hHeld => ?_)
              clear hK KQ
              refine wpAnyH_ready (rs := [5]) (by kernel_rfl) (by simp) ?_
              refine AllReadyH.cons rfl (fun KQ hK => ?_) AllReadyH.nil
              go_simp
              refine (leafText_new J C _ HJ.out HC.out BJ.out BC.out).mono ?_
              rintro e x2 ⟨G2, C2, S2, rfl, l2, m2, O2, a2⟩
              have d2 := grow_trans d1 a2
              have R2 := O2.reads
              clear O2 l2 m2
              refine hK.out _ _ (HS.out _ d2) (fun hHeld => ?_)
              clear hK KQ
              refine wpAnyH_ready (rs := [6]) (by kernel_rfl) (by simp) ?_
              refine AllReadyH.cons rfl (fun KQ hK => ?_) AllReadyH.nil
              go_simp
              refine (HSM.out _ _ _ (R1.grow a2) R2).mono ?_
              rintro e wy ⟨rfl, hwy⟩
              rw [hwy]
              clear hwy
              refine hK.out _ _ (HS.out _ d2) (fun hHeld => ?_)
              clear hK KQ
              refine wpAnyH_take (i := 10) (v := .bool true) rfl (by kernel_rfl) (by kernel_rfl) (by kernel_rfl) (fun _ _ _ h => h) (Or.inl ⟨by rfl, fun w hS => by go_simp⟩) hHeld ?_
              simp only [Act.put, List.getElem_toArray, List.getElem_cons_zero, List.getElem_cons_succ, List.setIfInBounds_toArray, List.set_cons_zero, List.set_cons_succ]
              refine wpAnyH_take (i := 11) (v := .agg (B A)) rfl (by kernel_rfl) (by kernel_rfl) (by kernel_rfl) (fun _ _ _ h => h) (yieldsIf_load_mid rfl 26 (.tmp 10) rfl g3 0 rfl (B A).toList _ (fun w hS => hS.2.2.1) hu2 rfl hiA) hHeld ?_
              simp only [Act.put, List.getElem_toArray, List.getElem_cons_zero, List.getElem_cons_succ, List.setIfInBounds_toArray, List.set_cons_zero, List.set_cons_succ]
              refine wpAnyH_take (i := 12) (v := .agg (B C)) rfl (by kernel_rfl) (by kernel_rfl) (by kernel_rfl) (fun _ _ _ h => h) (yieldsIf_load_mid rfl 26 (.tmp 11) rfl g4 0 rfl (B C).toList _ (fun w hS => hS.2.2.2) hu2 rfl hiC) hHeld ?_
              simp only [Act.put, List.getElem_toArray, List.getElem_cons_zero, List.getElem_cons_succ, List.setIfInBounds_toArray, List.set_cons_zero, List.set_cons_succ]
              refine wpAnyH_take (i := 13) (v := .bool q) rfl (by kernel_rfl) (by kernel_rfl) (by kernel_rfl) (fun _ _ _ h => h) (Or.inl ⟨by rfl, fun w hS => by go_simp⟩) hHeld ?_
              simp only [Act.put, List.getElem_toArray, List.getElem_cons_zero, List.getElem_cons_succ, List.setIfInBounds_toArray, List.set_cons_zero, List.set_cons_succ]
              refine wpAnyH_take (i := 14) (v := .bool q) rfl (by kernel_rfl) (by kernel_rfl) (by kernel_rfl) (fun _ _ _ h => h) (Or.inl ⟨by rfl, fun w hS => by go_simp⟩) hHeld ?_
              simp only [Act.put, List.getElem_toArray, List.getElem_cons_zero, List.getElem_cons_succ, List.setIfInBounds_toArray, List.set_cons_zero, List.set_cons_succ]
              refine wpAnyH_take (i := 15) (v := .bool true) rfl (by kernel_rfl) (by kernel_rfl) (by kernel_rfl) (fun _ _ _ h => h) (Or.inl ⟨by rfl, fun w hS => by go_simp⟩) hHeld ?_
              simp only [Act.put, List.getElem_toArray, List.getElem_cons_zero, List.getElem_cons_succ, List.setIfInBounds_toArray, List.set_cons_zero, List.set_cons_succ]
              refine wpAnyH_take (i := 16) (v := .bool true) rfl (by kernel_rfl) (by kernel_rfl) (by kernel_rfl) (fun _ _ _ h => h) (Or.inl ⟨by rfl, fun w hS => by go_simp⟩) hHeld ?_
              simp only [Act.put, List.getElem_toArray, List.getElem_cons_zero, List.getElem_cons_succ, List.setIfInBounds_toArray, List.set_cons_zero, List.set_cons_succ]
              refine wpAnyH_done (by kernel_rfl) ?_ _
              go_wp2_with fail
              go_meet
              case rel => exact ⟨rfl, d2⟩
            · have EKJ : ∀ w, (Op.equalIn 10000 24 (.agg (B K)) (.agg (B J))).run Tryd.prog w = .ok false w := by
                intro w
                rw [path_eq K J HK.out HJ.out w, decide_eq_false hKJ]
              have HSM : Hid (∀ w' x y, Reads w' x (1 :: (K ++ A)) → Reads w' y (1 :: (J ++ C)) → Calls Tryd.prog 21 #[x, y] w' fun e w'' => e = .returned (.bool false) ∧ w'' = w') := by
                intro w' x y h5 h6
                have h7 := same_any x y _ _ w' h5 h6
                rw [decide_eq_false (by
                  rw [List.cons.injEq, cat_eq 32 K A J C HK.out HJ.out]
                  exact fun h => hKJ h.2.1)] at h7
                exact h7
              clear hKJ
              refine wp_region_held_drew (S := fun w' => w'.rangeAt g1 0 (B K).toList ∧ w'.rangeAt g2 0 (B J).toList ∧ w'.rangeAt g3 0 (B A).toList ∧ w'.rangeAt g4 0 (B C).toList) (by kernel_rfl) (HS.out _ hd7) (fun hHeld => ?_)
              refine wpAnyH_take (i := 0) (v := .agg (B K)) rfl (by kernel_rfl) (by kernel_rfl) (by kernel_rfl) (fun _ _ _ h => h) (yieldsIf_load_mid rfl 24 (.tmp 6) rfl g1 0 rfl (B K).toList _ (fun w hS => hS.1) hu1 rfl hiK) hHeld ?_
              simp only [Act.put, List.getElem_toArray, List.getElem_cons_zero, List.setIfInBounds_toArray, List.set_cons_zero, List.set_cons_succ]
              refine wpAnyH_take (i := 1) (v := .agg (B A)) rfl (by kernel_rfl) (by kernel_rfl) (by kernel_rfl) (fun _ _ _ h => h) (yieldsIf_load_mid rfl 26 (.tmp 10) rfl g3 0 rfl (B A).toList _ (fun w hS => hS.2.2.1) hu2 rfl hiA) hHeld ?_
              simp only [Act.put, List.getElem_toArray, List.getElem_cons_zero, List.getElem_cons_succ, List.setIfInBounds_toArray, List.set_cons_zero, List.set_cons_succ]
              refine wpAnyH_take (i := 3) (v := .agg (B J)) rfl (by kernel_rfl) (by kernel_rfl) (by kernel_rfl) (fun _ _ _ h => h) (yieldsIf_load_mid rfl 24 (.tmp 7) rfl g2 0 rfl (B J).toList _ (fun w hS => hS.2.1) hu1 rfl hiJ) hHeld ?_
              simp only [Act.put, List.getElem_toArray, List.getElem_cons_zero, List.getElem_cons_succ, List.setIfInBounds_toArray, List.set_cons_zero, List.set_cons_succ]
              refine wpAnyH_take (i := 4) (v := .agg (B C)) rfl (by kernel_rfl) (by kernel_rfl) (by kernel_rfl) (fun _ _ _ h => h) (yieldsIf_load_mid rfl 26 (.tmp 11) rfl g4 0 rfl (B C).toList _ (fun w hS => hS.2.2.2) hu2 rfl hiC) hHeld ?_
              simp only [Act.put, List.getElem_toArray, List.getElem_cons_zero, List.getElem_cons_succ, List.setIfInBounds_toArray, List.set_cons_zero, List.set_cons_succ]
              refine wpAnyH_take (i := 7) (v := .agg (B K)) rfl (by kernel_rfl) (by kernel_rfl) (by kernel_rfl) (fun _ _ _ h => h) (yieldsIf_load_mid rfl 24 (.tmp 6) rfl g1 0 rfl (B K).toList _ (fun w hS => hS.1) hu1 rfl hiK) hHeld ?_
              simp only [Act.put, List.getElem_toArray, List.getElem_cons_zero, List.getElem_cons_succ, List.setIfInBounds_toArray, List.set_cons_zero, List.set_cons_succ]
              refine wpAnyH_take (i := 8) (v := .agg (B J)) rfl (by kernel_rfl) (by kernel_rfl) (by kernel_rfl) (fun _ _ _ h => h) (yieldsIf_load_mid rfl 24 (.tmp 7) rfl g2 0 rfl (B J).toList _ (fun w hS => hS.2.1) hu1 rfl hiJ) hHeld ?_
              simp only [Act.put, List.getElem_toArray, List.getElem_cons_zero, List.getElem_cons_succ, List.setIfInBounds_toArray, List.set_cons_zero, List.set_cons_succ]
              refine wpAnyH_take (i := 9) (v := .bool false) rfl (by kernel_rfl) (by kernel_rfl) (by kernel_rfl) (fun _ _ _ h => h) (Or.inl ⟨by rfl, fun w hS => by go_simp⟩) hHeld ?_
              simp only [Act.put, List.getElem_toArray, List.getElem_cons_zero, List.getElem_cons_succ, List.setIfInBounds_toArray, List.set_cons_zero, List.set_cons_succ]
              refine wpAnyH_ready (rs := [2]) (by kernel_rfl) (by simp) ?_
              refine AllReadyH.cons rfl (fun KQ hK => ?_) AllReadyH.nil
              go_simp
              refine (leafText_new K A _ HK.out HA.out BK.out BA.out).mono ?_
              rintro e x1 ⟨G1, C1, S1, rfl, l1, m1, O1, a1⟩
              have d1 := grow_trans hd7 a1
              have R1 := O1.reads
              clear O1 l1 m1
              refine hK.out _ _ (HS.out _ d1) (fun hHeld => ?_)
              clear hK KQ
              refine wpAnyH_ready (rs := [5]) (by kernel_rfl) (by simp) ?_
              refine AllReadyH.cons rfl (fun KQ hK => ?_) AllReadyH.nil
              go_simp
              refine (leafText_new J C _ HJ.out HC.out BJ.out BC.out).mono ?_
              rintro e x2 ⟨G2, C2, S2, rfl, l2, m2, O2, a2⟩
              have d2 := grow_trans d1 a2
              have R2 := O2.reads
              clear O2 l2 m2
              refine hK.out _ _ (HS.out _ d2) (fun hHeld => ?_)
              clear hK KQ
              refine wpAnyH_ready (rs := [6]) (by kernel_rfl) (by simp) ?_
              refine AllReadyH.cons rfl (fun KQ hK => ?_) AllReadyH.nil
              go_simp
              refine (HSM.out _ _ _ (R1.grow a2) R2).mono ?_
              rintro e wy ⟨rfl, hwy⟩
              rw [hwy]
              clear hwy
              refine hK.out _ _ (HS.out _ d2) (fun hHeld => ?_)
              clear hK KQ
              refine wpAnyH_take (i := 10) (v := .bool false) rfl (by kernel_rfl) (by kernel_rfl) (by kernel_rfl) (fun _ _ _ h => h) (Or.inl ⟨by rfl, fun w hS => by go_simp⟩) hHeld ?_
              simp only [Act.put, List.getElem_toArray, List.getElem_cons_zero, List.getElem_cons_succ, List.setIfInBounds_toArray, List.set_cons_zero, List.set_cons_succ]
              refine wpAnyH_take (i := 11) (v := undef) rfl (by kernel_rfl) (by kernel_rfl) (by kernel_rfl) (fun _ _ _ h => h) (Or.inr ⟨by rfl, rfl⟩) hHeld ?_
              simp only [Act.put, List.getElem_toArray, List.getElem_cons_zero, List.getElem_cons_succ, List.setIfInBounds_toArray, List.set_cons_zero, List.set_cons_succ]
              refine wpAnyH_take (i := 12) (v := undef) rfl (by kernel_rfl) (by kernel_rfl) (by kernel_rfl) (fun _ _ _ h => h) (Or.inr ⟨by rfl, rfl⟩) hHeld ?_
              simp only [Act.put, List.getElem_toArray, List.getElem_cons_zero, List.getElem_cons_succ, List.setIfInBounds_toArray, List.set_cons_zero, List.set_cons_succ]
              refine wpAnyH_take (i := 13) (v := undef) rfl (by kernel_rfl) (by kernel_rfl) (by kernel_rfl) (fun _ _ _ h => h) (Or.inr ⟨by rfl, rfl⟩) hHeld ?_
              simp only [Act.put, List.getElem_toArray, List.getElem_cons_zero, List.getElem_cons_succ, List.setIfInBounds_toArray, List.set_cons_zero, List.set_cons_succ]
              refine wpAnyH_take (i := 14) (v := .bool false) rfl (by kernel_rfl) (by kernel_rfl) (by kernel_rfl) (fun _ _ _ h => h) (Or.inl ⟨by rfl, fun w hS => by go_simp⟩) hHeld ?_
              simp only [Act.put, List.getElem_toArray, List.getElem_cons_zero, List.getElem_cons_succ, List.setIfInBounds_toArray, List.set_cons_zero, List.set_cons_succ]
              refine wpAnyH_take (i := 15) (v := .bool true) rfl (by kernel_rfl) (by kernel_rfl) (by kernel_rfl) (fun _ _ _ h => h) (Or.inl ⟨by rfl, fun w hS => by go_simp⟩) hHeld ?_
              simp only [Act.put, List.getElem_toArray, List.getElem_cons_zero, List.getElem_cons_succ, List.setIfInBounds_toArray, List.set_cons_zero, List.set_cons_succ]
              refine wpAnyH_take (i := 16) (v := .bool true) rfl (by kernel_rfl) (by kernel_rfl) (by kernel_rfl) (fun _ _ _ h => h) (Or.inl ⟨by rfl, fun w hS => by go_simp⟩) hHeld ?_
              simp only [Act.put, List.getElem_toArray, List.getElem_cons_zero, List.getElem_cons_succ, List.setIfInBounds_toArray, List.set_cons_zero, List.set_cons_succ]
              refine wpAnyH_done (by kernel_rfl) ?_ _
              go_wp2_with fail
              go_meet
              case rel => exact ⟨rfl, d2⟩
          case rest =>
            obtain ⟨rfl, k8⟩ := hcut
            obtain ⟨w8, rfl⟩ : ∃ x, x = wc := ⟨_, rfl⟩
            have hd8 := k8.drew
            obtain ⟨q, hq⟩ : ∃ q, q = decide (A = C) := ⟨_, rfl⟩
            have EAC : ∀ w, (Op.equalIn 10000 26 (.agg (B A)) (.agg (B C))).run Tryd.prog w = .ok q w := by
              intro w
              rw [hash_eq A C HA.out HC.out w, hq]
            have HSM : Hid (∀ w' x y, Reads w' x (2 :: (A ++ C)) → Reads w' y (2 :: (C ++ A)) → Calls Tryd.prog 21 #[x, y] w' fun e w'' => e = .returned (.bool q) ∧ w'' = w') := by
              intro w' x y h5 h6
              have h7 := same_any x y _ _ w' h5 h6
              have h8 : decide (2 :: (A ++ C) = 2 :: (C ++ A)) = q := by
                rw [hq]
                apply decide_eq_decide.2
                rw [List.cons.injEq, cat_eq 32 A C C A HA.out HC.out]
                exact ⟨fun h => h.2.1, fun h => ⟨rfl, h, h.symm⟩⟩
              rw [h8] at h7
              exact h7
            have hqq : (q == q) = true := by simp
            clear hq
            go_upto_region 13 with fail
            refine wp_region_held_drew (S := fun w' => w'.rangeAt g1 0 (B K).toList ∧ w'.rangeAt g2 0 (B J).toList ∧ w'.rangeAt g3 0 (B A).toList ∧ w'.rangeAt g4 0 (B C).toList) (by kernel_rfl) (HS.out _ hd8) (fun hHeld => ?_)
            refine wpAnyH_take (i := 0) (v := .agg (B A)) rfl (by kernel_rfl) (by kernel_rfl) (by kernel_rfl) (fun _ _ _ h => h) (yieldsIf_load_mid rfl 26 (.tmp 10) rfl g3 0 rfl (B A).toList _ (fun w hS => hS.2.2.1) hu2 rfl hiA) hHeld ?_
            simp only [Act.put, List.getElem_toArray, List.getElem_cons_zero, List.setIfInBounds_toArray, List.set_cons_zero, List.set_cons_succ]
            refine wpAnyH_take (i := 1) (v := .agg (B C)) rfl (by kernel_rfl) (by kernel_rfl) (by kernel_rfl) (fun _ _ _ h => h) (yieldsIf_load_mid rfl 26 (.tmp 11) rfl g4 0 rfl (B C).toList _ (fun w hS => hS.2.2.2) hu2 rfl hiC) hHeld ?_
            simp only [Act.put, List.getElem_toArray, List.getElem_cons_zero, List.getElem_cons_succ, List.setIfInBounds_toArray, List.set_cons_zero, List.set_cons_succ]
            refine wpAnyH_take (i := 3) (v := .agg (B C)) rfl (by kernel_rfl) (by kernel_rfl) (by kernel_rfl) (fun _ _ _ h => h) (yieldsIf_load_mid rfl 26 (.tmp 11) rfl g4 0 rfl (B C).toList _ (fun w hS => hS.2.2.2) hu2 rfl hiC) hHeld ?_
            simp only [Act.put, List.getElem_toArray, List.getElem_cons_zero, List.getElem_cons_succ, List.setIfInBounds_toArray, List.set_cons_zero, List.set_cons_succ]
            refine wpAnyH_take (i := 4) (v := .agg (B A)) rfl (by kernel_rfl) (by kernel_rfl) (by kernel_rfl) (fun _ _ _ h => h) (yieldsIf_load_mid rfl 26 (.tmp 10) rfl g3 0 rfl (B A).toList _ (fun w hS => hS.2.2.1) hu2 rfl hiA) hHeld ?_
            simp only [Act.put, List.getElem_toArray, List.getElem_cons_zero, List.getElem_cons_succ, List.setIfInBounds_toArray, List.set_cons_zero, List.set_cons_succ]
            refine wpAnyH_take (i := 7) (v := .agg (B A)) rfl (by kernel_rfl) (by kernel_rfl) (by kernel_rfl) (fun _ _ _ h => h) (yieldsIf_load_mid rfl 26 (.tmp 10) rfl g3 0 rfl (B A).toList _ (fun w hS => hS.2.2.1) hu2 rfl hiA) hHeld ?_
            simp only [Act.put, List.getElem_toArray, List.getElem_cons_zero, List.getElem_cons_succ, List.setIfInBounds_toArray, List.set_cons_zero, List.set_cons_succ]
            refine wpAnyH_take (i := 8) (v := .agg (B C)) rfl (by kernel_rfl) (by kernel_rfl) (by kernel_rfl) (fun _ _ _ h => h) (yieldsIf_load_mid rfl 26 (.tmp 11) rfl g4 0 rfl (B C).toList _ (fun w hS => hS.2.2.2) hu2 rfl hiC) hHeld ?_
            simp only [Act.put, List.getElem_toArray, List.getElem_cons_zero, List.getElem_cons_succ, List.setIfInBounds_toArray, List.set_cons_zero, List.set_cons_succ]
            refine wpAnyH_take (i := 9) (v := .bool q) rfl (by kernel_rfl) (by kernel_rfl) (by kernel_rfl) (fun _ _ _ h => h) (Or.inl ⟨by rfl, fun w hS => by go_simp⟩) hHeld ?_
            simp only [Act.put, List.getElem_toArray, List.getElem_cons_zero, List.getElem_cons_succ, List.setIfInBounds_toArray, List.set_cons_zero, List.set_cons_succ]
            refine wpAnyH_ready (rs := [2]) (by kernel_rfl) (by simp) ?_
            refine AllReadyH.cons rfl (fun KQ hK => ?_) AllReadyH.nil
            go_simp
            refine (innerText_new A C _ HA.out HC.out BA.out BC.out).mono ?_
            rintro e x1 ⟨G1, C1, S1, rfl, l1, m1, O1, a1⟩
            have d1 := grow_trans hd8 a1
            have R1 := O1.reads
            clear O1 l1 m1
            refine hK.out _ _ (HS.out _ d1) (fun hHeld => ?_)
            clear hK KQ
            refine wpAnyH_ready (rs := [5]) (by kernel_rfl) (by simp) ?_
            refine AllReadyH.cons rfl (fun KQ hK => ?_) AllReadyH.nil
            go_simp
            refine (innerText_new C A _ HC.out HA.out BC.out BA.out).mono ?_
            rintro e x2 ⟨G2, C2, S2, rfl, l2, m2, O2, a2⟩
            have d2 := grow_trans d1 a2
            have R2 := O2.reads
            clear O2 l2 m2
            refine hK.out _ _ (HS.out _ d2) (fun hHeld => ?_)
            clear hK KQ
            refine wpAnyH_ready (rs := [6]) (by kernel_rfl) (by simp) ?_
            refine AllReadyH.cons rfl (fun KQ hK => ?_) AllReadyH.nil
            go_simp
            refine (HSM.out _ _ _ (R1.grow a2) R2).mono ?_
            rintro e wy ⟨rfl, hwy⟩
            rw [hwy]
            clear hwy
            refine hK.out _ _ (HS.out _ d2) (fun hHeld => ?_)
            clear hK KQ
            refine wpAnyH_take (i := 10) (v := .bool true) rfl (by kernel_rfl) (by kernel_rfl) (by kernel_rfl) (fun _ _ _ h => h) (Or.inl ⟨by rfl, fun w hS => by go_simp⟩) hHeld ?_
            simp only [Act.put, List.getElem_toArray, List.getElem_cons_zero, List.getElem_cons_succ, List.setIfInBounds_toArray, List.set_cons_zero, List.set_cons_succ]
            refine wpAnyH_take (i := 11) (v := .bool true) rfl (by kernel_rfl) (by kernel_rfl) (by kernel_rfl) (fun _ _ _ h => h) (Or.inl ⟨by rfl, fun w hS => by go_simp⟩) hHeld ?_
            simp only [Act.put, List.getElem_toArray, List.getElem_cons_zero, List.getElem_cons_succ, List.setIfInBounds_toArray, List.set_cons_zero, List.set_cons_succ]
            refine wpAnyH_done (by kernel_rfl) ?_ _
            clear hHeld
            obtain ⟨b, hb⟩ : ∃ b, b = decide (zs = us) := ⟨_, rfl⟩
            have S1 : Hid (∀ w' x y, Reads w' x (3 :: zs) → Reads w' y (3 :: us) → Calls Tryd.prog 21 #[x, y] w' fun e w'' => e = .returned (.bool b) ∧ w'' = w') := by
              intro w' x y h5 h6
              have h7 := same_any x y _ _ w' h5 h6
              have h8 : decide (3 :: zs = 3 :: us) = b := by
                rw [hb]
                apply decide_eq_decide.2
                rw [List.cons.injEq]
                exact ⟨fun h => h.2, fun h => ⟨rfl, h⟩⟩
              rw [h8] at h7
              exact h7
            have S2 : Hid (∀ w', Below w4.heap.size w4 w' → Calls Tryd.prog 21 #[.slice va zs.length vc, .slice ua us.length uc] w' fun e w'' => e = .returned (.bool b) ∧ w'' = w') := by
              intro w' hw'
              rw [hb]
              exact same_any _ _ zs us w' (RV.out w' hw') (RU.out w' hw')
            have hbb : (b == b) = true := by simp
            clear hb
            go_wp2_with fail
            refine (valueText_new _ zs _ (RV.out _ d2) HZL.out).mono ?_
            rintro e y1 ⟨G5, C5, S5, rfl, l5, m5, O5, e5⟩
            have f5 := grow_trans d2 e5
            have R5 := O5.reads
            clear O5 l5 m5
            go_wp2_with fail
            refine (valueText_new _ us _ (RU.out _ f5) HUL.out).mono ?_
            rintro e y2 ⟨G6, C6, S6, rfl, l6, m6, O6, e6⟩
            have f6 := grow_trans f5 e6
            have R6 := O6.reads
            have R56 := R5.grow e6
            clear O6 l6 m6 R5
            go_wp2_with fail
            refine (S1.out y2 _ _ R56 R6).mono ?_
            rintro e wy ⟨rfl, hwy⟩
            rw [hwy]
            clear hwy
            go_wp2_with fail
            refine (S2.out y2 f6).mono ?_
            rintro e wy2 ⟨rfl, hwy⟩
            rw [hwy]
            clear hwy
            go_wp2_with fail
            go_ret
            exact ⟨rfl, grow_trans c4 f6⟩

end Go.Proofs.YtacfhkaihcclaaaDoor
