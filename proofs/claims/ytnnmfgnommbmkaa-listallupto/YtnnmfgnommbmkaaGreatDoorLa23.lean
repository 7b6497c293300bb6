/- Calls of a store, as contracts: the inner node of two sides (join). -/
import Derived.Test.YtnnmfgnommbmkaaGreatDoorLa01
import Derived.Test.YtnnmfgnommbmkaaGreatDoorLa22
namespace Go.Proofs.YtnnmfgnommbmkaaGreatDoor
set_option maxRecDepth 20000
open Go.RowKit

theorem vDg_nat (cs : List (Nat × Ce)) (h : Nat) : vDg true (cat cs) (h : Int) = sdD cs h := by
  unfold vDg sdD
  by_cases e : h = 0
  · subst e
    simp
  · rw [if_neg (by omega), if_neg e, cat_nat, sdC, if_neg e]

theorem kp_cell {w : World} {b : Nat} {c : Ce} {i : Nat} {v : Value} (h : Kp w (fun w' => Blk w' b 81 (cz c).toArray)) (e : (cz c)[i]? = some v) : ∀ w', Below w.heap.size w w' → w'.cell? ⟨b, i, none⟩ = some v := fun w' hb => by
  rw [(h w' hb).cell]
  simpa using e

set_option maxHeartbeats 4000000 in
theorem sjoin_any {w : World} {g gs : Nat} {vp vf : Value} {room : Nat} {cs : List (Nat × Ce)} {fr : List Nat} (s : Stm w g gs vp vf room cs fr) {pend : List Nat} (hw : Wf cs pend) (hL : Laid w) (d l r : Nat) (hd : d < 256) (hsz : (sdC cs l).sz + (sdC cs r).sz ≤ 1048576) : Calls Tryz.prog 97 #[.pointer (some ⟨g, 0, none⟩), .int .i64 (d : Int), .int .i64 (l : Int), .int .i64 (r : Int)] w fun e w' => ∃ K, IsFill (if (sdC cs l).kind = 0 then (sdC cs r).key else (sdC cs l).key) d 0 K ∧ e = .returned (.agg (cz (inC (inD (sdD cs l) (sdD cs r)) K ((sdC cs l).sz + (sdC cs r).sz) d l r)).toArray) ∧ Below w.heap.size w w' := by
  have V := vw_ok s hw
  have HAL : Hid (∀ w', Below w.heap.size w w' → Calls Tryz.prog 48 #[.pointer (some ⟨g, 0, none⟩), .int .i64 (l : Int)] w' fun e w'' => e = .returned (.agg (cz (sdC cs l)).toArray) ∧ Below w'.heap.size w' w'') := fun w' hb => by rw [← cat_nat]; exact V.atv w' l hb
  have HAR : Hid (∀ w', Below w.heap.size w w' → Calls Tryz.prog 48 #[.pointer (some ⟨g, 0, none⟩), .int .i64 (r : Int)] w' fun e w'' => e = .returned (.agg (cz (sdC cs r)).toArray) ∧ Below w'.heap.size w' w'') := fun w' hb => by rw [← cat_nat]; exact V.atv w' r hb
  have HDL : Hid (∀ w', Below w.heap.size w w' → Calls Tryz.prog 119 #[.pointer (some ⟨g, 0, none⟩), .int .i64 (l : Int)] w' fun e w'' => e = .returned (.agg (B (sdD cs l))) ∧ Below w'.heap.size w' w'') := fun w' hb => by rw [← vDg_nat]; exact sdig_any (V.grow hb) l (hL.grow hb)
  have HDR : Hid (∀ w', Below w.heap.size w w' → Calls Tryz.prog 119 #[.pointer (some ⟨g, 0, none⟩), .int .i64 (r : Int)] w' fun e w'' => e = .returned (.agg (B (sdD cs r))) ∧ Below w'.heap.size w' w'') := fun w' hb => by rw [← vDg_nat]; exact sdig_any (V.grow hb) r (hL.grow hb)
  have hl32 := vDg_len V (l : Int)
  have hr32 := vDg_len V (r : Int)
  rw [vDg_nat] at hl32 hr32
  have HIN : Hid (∀ w', Below w.heap.size w w' → Calls Tryz.prog 60 #[.agg (B (sdD cs l)), .agg (B (sdD cs r))] w' fun e w'' => e = .returned (.agg (B (inD (sdD cs l) (sdD cs r)))) ∧ Below w'.heap.size w' w'') := fun w' hb => inner_any _ _ w' hl32.1 hr32.1 hl32.2 hr32.2 (hL.grow hb)
  have okL : CeOk (sdC cs l) := by rw [← cat_nat]; exact hw.catOk l
  have okR : CeOk (sdC cs r) := by rw [← cat_nat]; exact hw.catOk r
  have HOL := hidden okL
  have HOR := hidden okR
  have hD32 : (inD (sdD cs l) (sdD cs r)).length = 32 := dig_length _
  have HDB : Hid (Bytes (inD (sdD cs l) (sdD cs r))) := dig_bytes _
  generalize sdC cs l = L at *
  generalize sdC cs r = R at *
  generalize inD (sdD cs l) (sdD cs r) = D at *
  generalize sdD cs l = dl at *
  generalize sdD cs r = dr at *
  have HD32 := hidden hD32
  have HB0 : Hid (Kp w (fun w' => Below w.heap.size w w')) := below_kp w
  have hws : IntKind.i64.wrap ((L.sz : Int) + (R.sz : Int)) = (L.sz : Int) + (R.sz : Int) := by simp only [IntKind.wrap_i64]; omega
  obtain ⟨X, hX⟩ : ∃ X, X = if L.kind = 0 then R else L := ⟨_, rfl⟩
  have hXk : (if L.kind = 0 then R.key else L.key) = X.key := by rw [hX]; split <;> rfl
  rw [hXk]
  have okX : CeOk X := by rw [hX]; split <;> assumption
  have HOX := hidden okX
  have HFI : Hid (∀ w', Calls Tryz.prog 118 #[.agg (B X.key), .int .i64 (d : Int)] w' (KeyPost (IsFill X.key d 0) 0 w')) := fun w' => first_in X.key d w' okX.hk (by omega)
  have HWS := hidden hws
  have HXL : Hid (L.kind ≠ 0 → X = L) := fun h => by rw [hX, if_neg h]
  have HXR : Hid (L.kind = 0 → X = R) := fun h => by rw [hX, if_pos h]
  clear s hw hL V hl32 hr32 okL okR okX hD32 hws hX hXk hsz hd
  by_cases hk : L.kind = 0
  · have HK := hidden hk
    have hXe := HXR.out hk
    rw [hXe] at HFI
    rw [hXe]
    clear hk HXL HXR hXe HOX
    go_enter Tryz.func97, Tryz.ntmps97
    go_wp2_with (first
      | ((with_reducible refine at_ald 8 ?_); refine wpList_al _ rfl _ rfl _ zero_thC ?_; intro y1 g8 hg8 hl8 B8 q1; replace HB0 := hidden (HB0.out.step q1); have HR8 := hidden B8.kp; have Hg8 := hidden hg8; clear hg8 hl8 B8 q1)
      | ((with_reducible refine at_ald 9 ?_); refine wpList_al _ rfl _ rfl _ zero_thC ?_; intro y4 g9 hg9 hl9 bz9 q4; have Hg9 := hidden hg9; have HQ9 := hidden q4; have HZ9 := hidden bz9; have Hl9 := hidden hl9; clear hg9 hl9 bz9 q4)
      | ((with_reducible refine at_ald 10 ?_); refine wpList_al _ rfl _ rfl _ zero_thC ?_; intro y5 g10 hg10 hl10 bz10 q5; have Hg10 := hidden hg10; have HZ10 := hidden bz10; have HZ9' := hidden (HZ9.out.grow q5); have hne : g10 ≠ g9 := (by have := Hl9.out; omega); have HQ10 := hidden q5; clear hg10 hl10 bz10 q5)
      | ((with_reducible refine at_st 9 ?_); refine wpList_sto _ rfl _ _ _ rfl g9 _ (cz L).toArray rfl rfl HZ9'.out (xszC _ (cz_th HOL.out)) (xzsC _ (cz_th HOL.out)) (all_oneCell_toArray (cz_one HOL.out)) ?_; intro y6 by9 r9; have HY9 := hidden by9; have HZ10' := hidden (HZ10.out.kept r9 hne); have HR9 := hidden r9; clear by9 r9)
      | ((with_reducible refine at_st 10 ?_); refine wpList_sto _ rfl _ _ _ rfl g10 _ (cz R).toArray rfl rfl HZ10'.out (xszC _ (cz_th HOR.out)) (xzsC _ (cz_th HOR.out)) (all_oneCell_toArray (cz_one HOR.out)) ?_; intro y7 by10 r10; have HLB := hidden (HY9.out.kept r10 hne.symm).kp; have HRB := hidden by10.kp; have q9 := HQ9.out; have q10 := HQ10.out; have qa := below_row (grow_trans q9 q10) HR9.out Hg9.out; have qb := below_row qa r10 (by have := Hg10.out; have := q9.size; omega); replace HB0 := hidden (HB0.out.step qb); replace HR8 := hidden (HR8.out.step qb); clear by10 r10 q9 q10 qa qb)
      | ((with_reducible refine at_ldd 20 9 ?_); refine wpList_load_mid rfl _ _ rfl g9 0 rfl (cz L) _ HLB.out.now.range Tryz.underlying81 rfl (xszC _ (cz_th HOL.out)) ?_)
      | ((with_reducible refine at_ald 11 ?_); refine wpList_al _ rfl _ rfl _ zero_thC ?_; intro y8 g11 hg11 hl11 bz11 q8; have Hg11 := hidden hg11; have HZ11 := hidden bz11; have HQ11 := hidden q8; clear hg11 hl11 bz11 q8)
      | ((with_reducible refine at_ldd 24 10 ?_); refine wpList_load_mid rfl _ _ rfl g10 0 rfl (cz R) _ HRB1.out.range Tryz.underlying81 rfl (xszC _ (cz_th HOR.out)) ?_)
      | ((with_reducible refine at_ldd 27 26 ?_); refine wpList_load_mid rfl _ _ rfl g11 35 rfl (R.key.map (Value.int .u8)) _ ((segK R HOR.out).range HXB.out.now) Tryz.underlying32 rfl (key_sz HOR.out) ?_)
      | ((with_reducible refine at_ald 12 ?_); refine wpList_al _ rfl _ rfl _ zero_path ?_; intro y12 g12 hg12 hl12 bz12 q12; have Hg12 := hidden hg12; have HZ12 := hidden bz12; have HQ12 := hidden q12; clear hg12 hl12 bz12 q12)
      | ((with_reducible refine at_st 12 ?_); refine wpList_sto _ rfl _ _ _ rfl g12 _ (B K) rfl rfl HZ12.out (by rw [HKZ.out]; exact size_path) (by rw [HKZ.out, B_size]; simp) (B_one _) ?_; intro y13 by12 r12; have qd := below_row HQ12.out r12 Hg12.out; replace HB0 := hidden (HB0.out.step qd); replace HR8 := hidden (HR8.out.step qd); replace HLB := hidden (HLB.out.step qd); replace HRB := hidden (HRB.out.step qd); replace HXB := hidden (HXB.out.step qd); have HKB := hidden by12.kp; clear by12 r12 qd)
      | (go_at_call 48; have mk := m1; clear mk; refine (HAR.out _ HB0.out.now).mono ?_; rintro e y3 ⟨rfl, q3⟩; replace HB0 := hidden (HB0.out.step q3); replace HR8 := hidden (HR8.out.step q3); clear q3)
      | (go_at_call 48; refine (HAL.out _ HB0.out.now).mono ?_; rintro e y2 ⟨rfl, q2⟩; replace HB0 := hidden (HB0.out.step q2); replace HR8 := hidden (HR8.out.step q2); have m1 : Hid True := trivial; clear q2)
      | ((with_reducible refine at_st 11 ?_); have mk := m2; clear mk; refine wpList_sto _ rfl _ _ _ rfl g11 _ (cz R).toArray rfl rfl HX0.out (xszC _ (cz_th HOR.out)) (by rw [List.size_toArray, List.size_toArray, cz_length HOL.out, cz_length HOR.out]) (all_oneCell_toArray (cz_one HOR.out)) ?_; intro y10 by12 r12; have qc := below_row (below_row HQ11.out HRX.out Hg11.out) r12 Hg11.out; replace HB0 := hidden (HB0.out.step qc); replace HR8 := hidden (HR8.out.step qc); replace HLB := hidden (HLB.out.step qc); replace HRB := hidden (HRB.out.step qc); have HXB := hidden by12.kp; clear by12 r12 qc)
      | ((with_reducible refine at_st 11 ?_); refine wpList_sto _ rfl _ _ _ rfl g11 _ (cz L).toArray rfl rfl HZ11.out (xszC _ (cz_th HOL.out)) (xzsC _ (cz_th HOL.out)) (all_oneCell_toArray (cz_one HOL.out)) ?_; intro y9 by11 r11; have HX0 := hidden by11; have HRX := hidden r11; have HLB1 := hidden ((HLB.out.step HQ11.out).now.kept r11 (by have := HLB.out.now.lt; have := Hg11.out; omega)); have HRB1 := hidden ((HRB.out.step HQ11.out).now.kept r11 (by have := HRB.out.now.lt; have := Hg11.out; omega)); have c9 := HLB1.out.cell 32; simp only [List.getElem?_toArray] at c9; rw [(cz_at L HOL.out).1, HK.out] at c9; have m2 : Hid True := trivial; clear by11 r11)
      | (go_at_call 118; refine (HFI.out _).mono ?_; rintro e y11 ⟨K, hKf, rfl, q11⟩; replace HB0 := hidden (HB0.out.step q11); replace HR8 := hidden (HR8.out.step q11); replace HLB := hidden (HLB.out.step q11); replace HRB := hidden (HRB.out.step q11); replace HXB := hidden (HXB.out.step q11); have HKF := hidden hKf; have HKZ : Hid ((B K).size = 32) := (by show (B K).size = 32; rw [B_size]; exact hKf.1.1); clear q11 hKf))
    have HSZL : Hid (∀ w', Below y13.heap.size y13 w' → w'.cell? ⟨g9, 34, none⟩ = some (.int .i64 (L.sz : Int))) := kp_cell HLB.out (cz_at L HOL.out).2.2.1
    have HSZR : Hid (∀ w', Below y13.heap.size y13 w' → w'.cell? ⟨g10, 34, none⟩ = some (.int .i64 (R.sz : Int))) := kp_cell HRB.out (cz_at R HOR.out).2.2.1
    have HKR : Hid (∀ w', Below y13.heap.size y13 w' → w'.rangeAt g12 0 (B K).toList) := fun w' hb => (HKB.out w' hb).range
    have HBL : Hid (∀ w', Below y13.heap.size y13 w' → Below w.heap.size w w') := HB0.out
    have HS0 : Hid (Below y13.heap.size y13 y13.drew) := below_drewN (Below.refl _ _) 1
    have HBU := hidden (built_in D K (L.sz + R.sz) d l r HD32.out (by have := HKZ.out; rwa [B_size] at this))
    have HTI : Hid (Th (cz (inC D K (L.sz + R.sz) d l r))) := cz_th ⟨HD32.out, HDB.out, HKF.out.1, none, 0, rfl⟩
    refine wp_region_last (S := fun w' => Below y13.heap.size y13 w') 17 (by kernel_rfl) (HS0.out) (fun hHeld => ?_)
    refine tlp 0 (.pointer (some ⟨g, 0, none⟩)) hHeld ?_
    simp only [Act.put, zq1, zq2, zq4, zq5, zq6]
    refine tlp 1 (.int .i64 (l : Int)) hHeld ?_
    simp only [Act.put, zq1, zq2, zq3, zq4, zq5, zq6]
    refine tlp 3 (.pointer (some ⟨g, 0, none⟩)) hHeld ?_
    simp only [Act.put, zq1, zq2, zq3, zq4, zq5, zq6]
    refine tlp 4 (.int .i64 (r : Int)) hHeld ?_
    simp only [Act.put, zq1, zq2, zq3, zq4, zq5, zq6]
    refine tlp 7 (.pointer (some ⟨g9, 34, none⟩)) hHeld ?_
    simp only [Act.put, zq1, zq2, zq3, zq4, zq5, zq6]
    refine tlg 8 (.int .i64 (L.sz : Int)) rfl (Or.inl ⟨by rfl, fun w hS => by (have q1 := HSZL.out _ hS; go_simp)⟩) hHeld ?_
    simp only [Act.put, zq1, zq2, zq3, zq4, zq5, zq6]
    refine tlp 9 (.pointer (some ⟨g10, 34, none⟩)) hHeld ?_
    simp only [Act.put, zq1, zq2, zq3, zq4, zq5, zq6]
    refine tlg 10 (.int .i64 (R.sz : Int)) rfl (Or.inl ⟨by rfl, fun w hS => by (have q1 := HSZR.out _ hS; go_simp)⟩) hHeld ?_
    simp only [Act.put, zq1, zq2, zq3, zq4, zq5, zq6]
    refine tlg 11 (.int .i64 ((L.sz + R.sz : Nat) : Int)) rfl (Or.inl ⟨by rfl, fun w hS => by (go_simp; exact HWS.out)⟩) hHeld ?_
    simp only [Act.put, zq1, zq2, zq3, zq4, zq5, zq6]
    refine tlg 12 (.agg (B K)) rfl (yieldsIf_load_mid rfl 32 (.tmp 12) rfl g12 (0) rfl (B K).toList _ (fun w hS => HKR.out _ hS) Tryz.underlying32 rfl (by rw [Array.length_toList, HKZ.out]; exact size_path)) hHeld ?_
    simp only [Act.put, zq1, zq2, zq3, zq4, zq5, zq6]
    refine tlp 13 (.int .i64 (d : Int)) hHeld ?_
    simp only [Act.put, zq1, zq2, zq3, zq4, zq5, zq6]
    refine tlp 14 (.int .i64 (l : Int)) hHeld ?_
    simp only [Act.put, zq1, zq2, zq3, zq4, zq5, zq6]
    refine tlp 15 (.int .i64 (r : Int)) hHeld ?_
    simp only [Act.put, zq1, zq2, zq3, zq4, zq5, zq6]
    refine wpAnyL_one (i := 2) rfl (by kernel_rfl) (fun KQ hK => ?_)
    go_simp
    refine (HDL.out _ (HBL.out _ hHeld)).mono ?_
    rintro e z1 ⟨rfl, a1⟩
    refine hK.out _ _ (grow_trans hHeld a1) (fun hHeld => ?_)
    clear hK KQ
    refine wpAnyL_one (i := 5) rfl (by kernel_rfl) (fun KQ hK => ?_)
    go_simp
    refine (HDR.out _ (HBL.out _ hHeld)).mono ?_
    rintro e z2 ⟨rfl, a2⟩
    refine hK.out _ _ (grow_trans hHeld a2) (fun hHeld => ?_)
    clear hK KQ
    refine wpAnyL_one (i := 6) rfl (by kernel_rfl) (fun KQ hK => ?_)
    go_simp
    refine (HIN.out _ (HBL.out _ hHeld)).mono ?_
    rintro e z3 ⟨rfl, a3⟩
    refine hK.out _ _ (grow_trans hHeld a3) (fun hHeld => ?_)
    clear hK KQ
    refine tlg 16 (.agg (cz (inC D K (L.sz + R.sz) d l r)).toArray) rfl (Or.inl ⟨by rfl, fun w hS => exec_blc _ _ 81 _ (by rfl) _ (by rw [List.map_toArray]; exact HBU.out) w⟩) hHeld ?_
    simp only [Act.put, zq1, zq2, zq3, zq4, zq5, zq6]
    refine wpAnyL_last rfl (by kernel_rfl) (by kernel_rfl) (fun KQ hK => ?_)
    refine step_sto _ rfl _ _ _ rfl g8 _ (cz (inC D K (L.sz + R.sz) d l r)).toArray rfl rfl (HR8.out _ hHeld) (xszC _ HTI.out) (xzsC _ HTI.out) (all_oneCell_toArray HTI.out.2) ?_
    intro z4 B9 r9
    refine hK.out _ _ ?_
    clear hK KQ
    go_wp2
    exact bodyPost_ret (v := .agg (cz (inC D K (L.sz + R.sz) d l r)).toArray) (results_cell_row rfl _ _ g8 _ _ _ _ rfl B9 Tryz.underlying81 rfl (xszC _ HTI.out)) rfl ⟨K, HKF.out, rfl, below_row (HBL.out _ hHeld) r9 Hg8.out⟩
  · have hXe := HXL.out hk
    rw [hXe] at HFI
    rw [hXe]
    obtain ⟨k, hkk⟩ : ∃ k, k = L.kind := ⟨_, rfl⟩
    have HKK := hidden hkk
    have hk0 : (k == 0) = false := by simp [hkk, hk]
    clear hk HXL HXR hkk hXe HOX
    go_enter Tryz.func97, Tryz.ntmps97
    go_wp2_with (first
      | ((with_reducible refine at_ald 8 ?_); refine wpList_al _ rfl _ rfl _ zero_thC ?_; intro y1 g8 hg8 hl8 B8 q1; replace HB0 := hidden (HB0.out.step q1); have HR8 := hidden B8.kp; have Hg8 := hidden hg8; clear hg8 hl8 B8 q1)
      | ((with_reducible refine at_ald 9 ?_); refine wpList_al _ rfl _ rfl _ zero_thC ?_; intro y4 g9 hg9 hl9 bz9 q4; have Hg9 := hidden hg9; have HQ9 := hidden q4; have HZ9 := hidden bz9; have Hl9 := hidden hl9; clear hg9 hl9 bz9 q4)
      | ((with_reducible refine at_ald 10 ?_); refine wpList_al _ rfl _ rfl _ zero_thC ?_; intro y5 g10 hg10 hl10 bz10 q5; have Hg10 := hidden hg10; have HZ10 := hidden bz10; have HZ9' := hidden (HZ9.out.grow q5); have hne : g10 ≠ g9 := (by have := Hl9.out; omega); have HQ10 := hidden q5; clear hg10 hl10 bz10 q5)
      | ((with_reducible refine at_st 9 ?_); refine wpList_sto _ rfl _ _ _ rfl g9 _ (cz L).toArray rfl rfl HZ9'.out (xszC _ (cz_th HOL.out)) (xzsC _ (cz_th HOL.out)) (all_oneCell_toArray (cz_one HOL.out)) ?_; intro y6 by9 r9; have HY9 := hidden by9; have HZ10' := hidden (HZ10.out.kept r9 hne); have HR9 := hidden r9; clear by9 r9)
      | ((with_reducible refine at_st 10 ?_); refine wpList_sto _ rfl _ _ _ rfl g10 _ (cz R).toArray rfl rfl HZ10'.out (xszC _ (cz_th HOR.out)) (xzsC _ (cz_th HOR.out)) (all_oneCell_toArray (cz_one HOR.out)) ?_; intro y7 by10 r10; have HLB := hidden (HY9.out.kept r10 hne.symm).kp; have HRB := hidden by10.kp; have q9 := HQ9.out; have q10 := HQ10.out; have qa := below_row (grow_trans q9 q10) HR9.out Hg9.out; have qb := below_row qa r10 (by have := Hg10.out; have := q9.size; omega); replace HB0 := hidden (HB0.out.step qb); replace HR8 := hidden (HR8.out.step qb); clear by10 r10 q9 q10 qa qb)
      | ((with_reducible refine at_ldd 20 9 ?_); refine wpList_load_mid rfl _ _ rfl g9 0 rfl (cz L) _ HLB.out.now.range Tryz.underlying81 rfl (xszC _ (cz_th HOL.out)) ?_)
      | ((with_reducible refine at_ald 11 ?_); refine wpList_al _ rfl _ rfl _ zero_thC ?_; intro y8 g11 hg11 hl11 bz11 q8; have Hg11 := hidden hg11; have HZ11 := hidden bz11; have HQ11 := hidden q8; clear hg11 hl11 bz11 q8)
      | ((with_reducible refine at_ldd 27 26 ?_); refine wpList_load_mid rfl _ _ rfl g11 35 rfl (L.key.map (Value.int .u8)) _ ((segK L HOL.out).range HXB.out.now) Tryz.underlying32 rfl (key_sz HOL.out) ?_)
      | ((with_reducible refine at_ald 12 ?_); refine wpList_al _ rfl _ rfl _ zero_path ?_; intro y12 g12 hg12 hl12 bz12 q12; have Hg12 := hidden hg12; have HZ12 := hidden bz12; have HQ12 := hidden q12; clear hg12 hl12 bz12 q12)
      | ((with_reducible refine at_st 12 ?_); refine wpList_sto _ rfl _ _ _ rfl g12 _ (B K) rfl rfl HZ12.out (by rw [HKZ.out]; exact size_path) (by rw [HKZ.out, B_size]; simp) (B_one _) ?_; intro y13 by12 r12; have qd := below_row HQ12.out r12 Hg12.out; replace HB0 := hidden (HB0.out.step qd); replace HR8 := hidden (HR8.out.step qd); replace HLB := hidden (HLB.out.step qd); replace HRB := hidden (HRB.out.step qd); replace HXB := hidden (HXB.out.step qd); have HKB := hidden by12.kp; clear by12 r12 qd)
      | (go_at_call 48; have mk := m1; clear mk; refine (HAR.out _ HB0.out.now).mono ?_; rintro e y3 ⟨rfl, q3⟩; replace HB0 := hidden (HB0.out.step q3); replace HR8 := hidden (HR8.out.step q3); clear q3)
      | (go_at_call 48; refine (HAL.out _ HB0.out.now).mono ?_; rintro e y2 ⟨rfl, q2⟩; replace HB0 := hidden (HB0.out.step q2); replace HR8 := hidden (HR8.out.step q2); have m1 : Hid True := trivial; clear q2)
      | ((with_reducible refine at_st 11 ?_); refine wpList_sto _ rfl _ _ _ rfl g11 _ (cz L).toArray rfl rfl HZ11.out (xszC _ (cz_th HOL.out)) (xzsC _ (cz_th HOL.out)) (all_oneCell_toArray (cz_one HOL.out)) ?_; intro y9 by11 r11; have qc := below_row HQ11.out r11 Hg11.out; replace HB0 := hidden (HB0.out.step qc); replace HR8 := hidden (HR8.out.step qc); replace HLB := hidden (HLB.out.step qc); replace HRB := hidden (HRB.out.step qc); have HXB := hidden by11.kp; have c9 := HLB.out.now.cell 32; simp only [List.getElem?_toArray] at c9; rw [(cz_at L HOL.out).1, ← HKK.out] at c9; clear by11 r11 qc)
      | (go_at_call 118; refine (HFI.out _).mono ?_; rintro e y11 ⟨K, hKf, rfl, q11⟩; replace HB0 := hidden (HB0.out.step q11); replace HR8 := hidden (HR8.out.step q11); replace HLB := hidden (HLB.out.step q11); replace HRB := hidden (HRB.out.step q11); replace HXB := hidden (HXB.out.step q11); have HKF := hidden hKf; have HKZ : Hid ((B K).size = 32) := (by show (B K).size = 32; rw [B_size]; exact hKf.1.1); clear q11 hKf))
    have HSZL : Hid (∀ w', Below y13.heap.size y13 w' → w'.cell? ⟨g9, 34, none⟩ = some (.int .i64 (L.sz : Int))) := kp_cell HLB.out (cz_at L HOL.out).2.2.1
    have HSZR : Hid (∀ w', Below y13.heap.size y13 w' → w'.cell? ⟨g10, 34, none⟩ = some (.int .i64 (R.sz : Int))) := kp_cell HRB.out (cz_at R HOR.out).2.2.1
    have HKR : Hid (∀ w', Below y13.heap.size y13 w' → w'.rangeAt g12 0 (B K).toList) := fun w' hb => (HKB.out w' hb).range
    have HBL : Hid (∀ w', Below y13.heap.size y13 w' → Below w.heap.size w w') := HB0.out
    have HS0 : Hid (Below y13.heap.size y13 y13.drew) := below_drewN (Below.refl _ _) 1
    have HBU := hidden (built_in D K (L.sz + R.sz) d l r HD32.out (by have := HKZ.out; rwa [B_size] at this))
    have HTI : Hid (Th (cz (inC D K (L.sz + R.sz) d l r))) := cz_th ⟨HD32.out, HDB.out, HKF.out.1, none, 0, rfl⟩
    refine wp_region_last (S := fun w' => Below y13.heap.size y13 w') 17 (by kernel_rfl) (HS0.out) (fun hHeld => ?_)
    refine tlp 0 (.pointer (some ⟨g, 0, none⟩)) hHeld ?_
    simp only [Act.put, zq1, zq2, zq4, zq5, zq6]
    refine tlp 1 (.int .i64 (l : Int)) hHeld ?_
    simp only [Act.put, zq1, zq2, zq3, zq4, zq5, zq6]
    refine tlp 3 (.pointer (some ⟨g, 0, none⟩)) hHeld ?_
    simp only [Act.put, zq1, zq2, zq3, zq4, zq5, zq6]
    refine tlp 4 (.int .i64 (r : Int)) hHeld ?_
    simp only [Act.put, zq1, zq2, zq3, zq4, zq5, zq6]
    refine tlp 7 (.pointer (some ⟨g9, 34, none⟩)) hHeld ?_
    simp only [Act.put, zq1, zq2, zq3, zq4, zq5, zq6]
    refine tlg 8 (.int .i64 (L.sz : Int)) rfl (Or.inl ⟨by rfl, fun w hS => by (have q1 := HSZL.out _ hS; go_simp)⟩) hHeld ?_
    simp only [Act.put, zq1, zq2, zq3, zq4, zq5, zq6]
    refine tlp 9 (.pointer (some ⟨g10, 34, none⟩)) hHeld ?_
    simp only [Act.put, zq1, zq2, zq3, zq4, zq5, zq6]
    refine tlg 10 (.int .i64 (R.sz : Int)) rfl (Or.inl ⟨by rfl, fun w hS => by (have q1 := HSZR.out _ hS; go_simp)⟩) hHeld ?_
    simp only [Act.put, zq1, zq2, zq3, zq4, zq5, zq6]
    refine tlg 11 (.int .i64 ((L.sz + R.sz : Nat) : Int)) rfl (Or.inl ⟨by rfl, fun w hS => by (go_simp; exact HWS.out)⟩) hHeld ?_
    simp only [Act.put, zq1, zq2, zq3, zq4, zq5, zq6]
    refine tlg 12 (.agg (B K)) rfl (yieldsIf_load_mid rfl 32 (.tmp 12) rfl g12 (0) rfl (B K).toList _ (fun w hS => HKR.out _ hS) Tryz.underlying32 rfl (by rw [Array.length_toList, HKZ.out]; exact size_path)) hHeld ?_
    simp only [Act.put, zq1, zq2, zq3, zq4, zq5, zq6]
    refine tlp 13 (.int .i64 (d : Int)) hHeld ?_
    simp only [Act.put, zq1, zq2, zq3, zq4, zq5, zq6]
    refine tlp 14 (.int .i64 (l : Int)) hHeld ?_
    simp only [Act.put, zq1, zq2, zq3, zq4, zq5, zq6]
    refine tlp 15 (.int .i64 (r : Int)) hHeld ?_
    simp only [Act.put, zq1, zq2, zq3, zq4, zq5, zq6]
    refine wpAnyL_one (i := 2) rfl (by kernel_rfl) (fun KQ hK => ?_)
    go_simp
    refine (HDL.out _ (HBL.out _ hHeld)).mono ?_
    rintro e z1 ⟨rfl, a1⟩
    refine hK.out _ _ (grow_trans hHeld a1) (fun hHeld => ?_)
    clear hK KQ
    refine wpAnyL_one (i := 5) rfl (by kernel_rfl) (fun KQ hK => ?_)
    go_simp
    refine (HDR.out _ (HBL.out _ hHeld)).mono ?_
    rintro e z2 ⟨rfl, a2⟩
    refine hK.out _ _ (grow_trans hHeld a2) (fun hHeld => ?_)
    clear hK KQ
    refine wpAnyL_one (i := 6) rfl (by kernel_rfl) (fun KQ hK => ?_)
    go_simp
    refine (HIN.out _ (HBL.out _ hHeld)).mono ?_
    rintro e z3 ⟨rfl, a3⟩
    refine hK.out _ _ (grow_trans hHeld a3) (fun hHeld => ?_)
    clear hK KQ
    refine tlg 16 (.agg (cz (inC D K (L.sz + R.sz) d l r)).toArray) rfl (Or.inl ⟨by rfl, fun w hS => exec_blc _ _ 81 _ (by rfl) _ (by rw [List.map_toArray]; exact HBU.out) w⟩) hHeld ?_
    simp only [Act.put, zq1, zq2, zq3, zq4, zq5, zq6]
    refine wpAnyL_last rfl (by kernel_rfl) (by kernel_rfl) (fun KQ hK => ?_)
    refine step_sto _ rfl _ _ _ rfl g8 _ (cz (inC D K (L.sz + R.sz) d l r)).toArray rfl rfl (HR8.out _ hHeld) (xszC _ HTI.out) (xzsC _ HTI.out) (all_oneCell_toArray HTI.out.2) ?_
    intro z4 B9 r9
    refine hK.out _ _ ?_
    clear hK KQ
    go_wp2
    exact bodyPost_ret (v := .agg (cz (inC D K (L.sz + R.sz) d l r)).toArray) (results_cell_row rfl _ _ g8 _ _ _ _ rfl B9 Tryz.underlying81 rfl (xszC _ HTI.out)) rfl ⟨K, HKF.out, rfl, below_row (HBL.out _ hHeld) r9 Hg8.out⟩

end Go.Proofs.YtnnmfgnommbmkaaGreatDoor

namespace Go.Proofs.YtnnmfgnommbmkaaGreatDoor
set_option maxRecDepth 20000
open Go.RowKit

theorem take_any {w : World} {g gs : Nat} {vp vf : Value} {room : Nat} {cs : List (Nat × Ce)} {fr : List Nat} (s : Stm w g gs vp vf room cs fr) (x : Ce) (hx : CeOk x) (hf : ¬ Full room cs fr) : Calls Tryz.prog 94 #[.pointer (some ⟨gs, 0, none⟩), .agg (cz x).toArray] w fun e w' => e = .returned (.tuple #[.int .i64 (tkH cs fr : Int), .int .i64 0]) ∧ TurnC w gs (slB gs vp vf) room ((tkC cs fr (1, x)).map pl) fr.dropLast w' := by
  rcases tk_cases cs fr with ⟨q, fr0, rfl, e1, e2⟩ | ⟨rfl, e1, e2⟩
  · rw [e1, e2, List.dropLast_concat, ← map_set]
    exact take_freeC gs vp vf room _ fr0 q (cz x) (cz_th hx) w s.sl
  · rw [e1, e2, ← map_snoc]
    have hl : (cs.map pl).length < room := by
      have := s.sl.inv.len
      rw [List.length_map] at this ⊢
      apply Nat.lt_of_not_le
      intro h
      exact hf ⟨rfl, h⟩
    have := take_newC gs vp vf room _ (cz x) (cz_th hx) w s.sl hl
    rw [List.length_map] at this
    exact this
theorem take_none {w : World} {g gs : Nat} {vp vf : Value} {room : Nat} {cs : List (Nat × Ce)} {fr : List Nat} (s : Stm w g gs vp vf room cs fr) (x : Ce) (hx : CeOk x) (hf : Full room cs fr) : Calls Tryz.prog 94 #[.pointer (some ⟨gs, 0, none⟩), .agg (cz x).toArray] w fun e w' => e = .returned (.tuple #[.int .i64 0, .int .i64 9]) ∧ Below w.heap.size w w' := by
  obtain ⟨rfl, h⟩ := hf
  have := s.sl.inv.len
  rw [List.length_map] at this
  exact take_fullC gs vp vf room _ (cz x) (cz_th hx) w s.sl (by rw [List.length_map]; omega)

theorem leaf_turn {w0 w w' : World} {g gs : Nat} {vp vf : Value} {room : Nat} {cs : List (Nat × Ce)} {fr : List Nat} {x : Ce} {sp : List Int} (hb : Below w0.heap.size w0 w) (s : Stm w g gs vp vf room cs fr) (t : TurnC w gs (slB gs vp vf) room ((tkC cs fr (1, x)).map pl) fr.dropLast w') (ho : Own w0.heap.size w x.val x.bs sp) : STurn w0 g gs (stB g gs vp vf cs) room (tkC cs fr (1, x)) fr.dropLast w' := by
  obtain ⟨_, tk⟩ := tk_of (frOk_inv s.sl.inv) (1, x)
  refine s.turn hb t (fun i => ?_) (fun i k hk => ?_)
  · rw [tk.ce]
    split
    · exact ⟨sp, ho.mono (Nat.zero_le _)⟩
    · exact s.vals i
  · rw [tk.ce] at hk
    split at hk
    · exact .inr (ho.lt k hk).1
    · exact .inl ⟨i, hk⟩

theorem slice_cells (a : Option Addr) (n k : Nat) : (Value.slice a n k).cells = #[Value.slice a n k] := rfl

set_option maxHeartbeats 2000000 in
theorem leafS_full {w : World} {g gs : Nat} {vp vf : Value} {room : Nat} {cs : List (Nat × Ce)} {fr : List Nat} (s : Stm w g gs vp vf room cs fr) (K : List Int) (v : Value) (bs : List Int) (hr : Reads w v bs) (hK : Key K) (hL : Laid w) (hl : bs.length ≤ 1024) (hf : Full room cs fr) : Calls Tryz.prog 70 #[.pointer (some ⟨g, 0, none⟩), .agg (B K), v] w fun e w' => e = .returned (.tuple #[.int .i64 0, .int .i64 9]) ∧ Below w.heap.size w w' := by
  have HS : Hid (∀ w', Below w.heap.size w w' → Stm w' g gs vp vf room cs fr) := fun w' hb => s.grow hb
  have HE : Hid (∀ w', Below w.heap.size w w' → Calls Tryz.prog 93 #[.agg (B K), v] w' fun e w'' => e = .returned (.tuple #[.agg (B (lfD K (vaD bs))), .int .i64 0]) ∧ Below w'.heap.size w' w'') := fun w' hb => entry_short K v bs w' hK.1 hK.2 (hr.grow hb) (hL.grow hb) hl
  have HR : Hid (∀ w', Below w.heap.size w w' → Reads w' v bs) := fun w' hb => hr.grow hb
  have HKK := hidden hK
  have HKZ : Hid ((B K).size = 32) := by show (B K).size = 32; rw [B_size]; exact hK.1
  have hD32 : (lfD K (vaD bs)).length = 32 := dig_length _
  have hDb : Bytes (lfD K (vaD bs)) := dig_bytes _
  generalize lfD K (vaD bs) = D at *
  have HDZ : Hid ((B D).size = 32) := by show _ = _; rw [B_size]; exact hD32
  have HD := hidden hD32
  have HDb := hidden hDb
  have HLE := hidden hl
  have HF := hidden hf
  clear s hr hL hl hK hD32 hDb hf
  go_enter Tryz.func70, Tryz.ntmps70
  go_wp2_with (first
    | ((with_reducible refine at_bxd 4 ?_); refine wpList_bx _ rfl _ _ rfl _ rfl ?_; intro w1 b4 hg4 hl4 B4 b1; have HB4 := hidden B4; have Hg4 := hidden hg4; have c0 := (HS.out _ b1).c0; clear hg4 hl4 B4)
    | (go_at_call 46; refine (madeS_ok g _ c0).mono ?_; rintro e w' ⟨rfl, hx⟩; rw [hx]; clear hx w')
    | ((with_reducible refine at_ldd 14 4 ?_); refine wpList_ld _ rfl _ _ rfl b4 _ rfl HB4.out _ _ Tryz.underlying32 (by rw [HKZ.out]; exact size_path) ?_)
    | (go_at_call 93; refine (HE.out _ b1).mono ?_; rintro e w2 ⟨rfl, b2⟩; have Hb2 := hidden (grow_trans b1 b2); have HB4' := hidden (HB4.out.grow b2); clear b2)
    | ((with_reducible refine at_ald 8 ?_); refine wpList_al _ rfl _ rfl _ zero_hash ?_; intro w3 b8 hg8 hl8 B8 b3; have HB8 := hidden B8; have Hg8 := hidden hg8; have Hb3 := hidden b3; have HB4n := hidden (HB4'.out.grow b3); have hne : b4 ≠ b8 := (by have := HB4'.out.lt; omega); clear hg8 hl8 B8 b3)
    | ((with_reducible refine at_st 8 ?_); refine wpList_sto _ rfl _ _ _ rfl b8 _ (B D) rfl rfl HB8.out (by rw [HDZ.out]; exact size_hash) (by rw [HDZ.out, B_size]; simp) (B_one _) ?_; intro w4 B9 r9; have HB9 := hidden B9; have HB4m := hidden (HB4n.out.kept r9 hne); have Hb4 := hidden (below_row (grow_trans Hb2.out Hb3.out) r9 (by have := Hg8.out; have := Hb2.out.size; omega)); clear B9 r9))
  have HBd : Hid (Below w.heap.size w w4.drew) := below_drewN Hb4.out 1
  have hnS : ∀ k, w.heap.size ≤ k → k ∉ stB g gs vp vf cs := fun k hk e => by
    have := (HS.out w (Below.refl _ _)).lts k e
    omega
  have HnS := hidden hnS
  have Hn4 : Hid (w.heap.size ≤ b4) := Hg4.out
  have Hn8 : Hid (w.heap.size ≤ b8) := by
    show _ ≤ _
    have := Hg8.out
    have := Hb2.out.size
    omega
  clear hnS
  have HS0 : Hid (w4.drew.cell? ⟨g, 1, none⟩ = some (.pointer (some ⟨gs, 0, none⟩)) ∧ w4.drew.rangeAt b8 0 (B D).toList ∧ w4.drew.rangeAt b4 0 (B K).toList) := ⟨(HS.out _ HBd.out).c1, HB9.out.drew.range, HB4m.out.drew.range⟩
  refine wp_region_held_drew (S := fun w' => w'.cell? ⟨g, 1, none⟩ = some (.pointer (some ⟨gs, 0, none⟩)) ∧ w'.rangeAt b8 0 (B D).toList ∧ w'.rangeAt b4 0 (B K).toList) (by kernel_rfl) (HS0.out) (fun hHeld => ?_)
  refine tkp 0 (.pointer (some ⟨g, 0, none⟩)) hHeld ?_
  simp only [Act.put, zq1, zq2, zq4, zq5, zq6]
  refine tkp 1 (.pointer (some ⟨g, 0, none⟩)) hHeld ?_
  simp only [Act.put, zq1, zq2, zq3, zq4, zq5, zq6]
  refine tkp 2 (.pointer (some ⟨g, 1, none⟩)) hHeld ?_
  simp only [Act.put, zq1, zq2, zq3, zq4, zq5, zq6]
  refine tkg 3 (.pointer (some ⟨gs, 0, none⟩)) rfl (Or.inl ⟨by rfl, fun w hS => by (have q1 := hS.1; go_simp)⟩) hHeld ?_
  simp only [Act.put, zq1, zq2, zq3, zq4, zq5, zq6]
  refine tkg 4 (.agg (B D)) rfl (yieldsIf_load_mid rfl 25 (.tmp 8) rfl b8 0 rfl (B D).toList _ (fun w hS => hS.2.1) Tryz.underlying25 rfl (by rw [Array.length_toList, HDZ.out]; exact size_hash)) hHeld ?_
  simp only [Act.put, zq1, zq2, zq3, zq4, zq5, zq6]
  refine tkg 5 (.agg (B K)) rfl (yieldsIf_load_mid rfl 32 (.tmp 4) rfl b4 0 rfl (B K).toList _ (fun w hS => hS.2.2) Tryz.underlying32 rfl (by rw [Array.length_toList, HKZ.out]; exact size_path)) hHeld ?_
  simp only [Act.put, zq1, zq2, zq3, zq4, zq5, zq6]
  refine tkp 6 v hHeld ?_
  simp only [Act.put, zq1, zq2, zq3, zq4, zq5, zq6]
  refine wpAnyH_ready (rs := [7]) (by kernel_rfl) (by simp) ?_
  refine AllReadyH.cons rfl (fun KQ hK => ?_) AllReadyH.nil
  go_simp
  refine (clone_any v bs _ (HR.out _ HBd.out) (by have := HLE.out; omega)).mono ?_
  rintro e z1 ⟨v', sp, rfl, o1, a1⟩
  have Ho := hidden o1
  have Ha := hidden a1
  obtain ⟨va, vk, rfl⟩ := Own.slice o1
  clear o1 a1
  refine hK.out _ _ (⟨(HS.out _ (grow_trans HBd.out Ha.out)).c1, ((HB9.out.drew).grow Ha.out).range, ((HB4m.out.drew).grow Ha.out).range⟩) (fun hHeld => ?_)
  clear hK KQ
  have HBU := hidden (built_lf D K (.slice va bs.length vk) bs HD.out HKK.out.1 (slice_cells _ _ _))
  have HOx : Hid (CeOk (lfC D K (.slice va bs.length vk) bs)) := ⟨HD.out, HDb.out, HKK.out, va, vk, rfl⟩
  refine tkg 8 (.agg (cz (lfC D K (.slice va bs.length vk) bs)).toArray) rfl (Or.inl ⟨by rfl, fun w hS => exec_blc _ _ 81 _ (by rfl) _ (by rw [List.map_toArray]; exact HBU.out) w⟩) hHeld ?_
  simp only [Act.put, zq1, zq2, zq3, zq4, zq5, zq6]
  refine wpAnyH_ready (rs := [9]) (by kernel_rfl) (by simp) ?_
  refine AllReadyH.cons rfl (fun KQ hK => ?_) AllReadyH.nil
  go_simp
  refine (take_none (HS.out _ (grow_trans HBd.out Ha.out)) _ HOx.out HF.out).mono ?_
  rintro e z2 ⟨rfl, a2⟩
  have Ha2 := hidden (grow_trans Ha.out a2)
  clear a2
  refine hK.out _ _ (⟨(HS.out _ (grow_trans HBd.out Ha2.out)).c1, ((HB9.out.drew).grow Ha2.out).range, ((HB4m.out.drew).grow Ha2.out).range⟩) (fun hHeld => ?_)
  clear hK KQ
  refine tkp 10 (.int .i64 0) hHeld ?_
  simp only [Act.put, zq1, zq2, zq3, zq4, zq5, zq6]
  refine tkp 11 (.int .i64 9) hHeld ?_
  simp only [Act.put, zq1, zq2, zq3, zq4, zq5, zq6]
  refine wpAnyH_ready (rs := [12]) (by kernel_rfl) (by simp) ?_
  refine AllReadyH.cons rfl (fun KQ hK => ?_) AllReadyH.nil
  go_simp
  refine hK.out _ _ (hHeld) (fun hHeld => ?_)
  clear hK KQ
  refine wpAnyH_ready (rs := [13]) (by kernel_rfl) (by simp) ?_
  refine AllReadyH.cons rfl (fun KQ hK => ?_) AllReadyH.nil
  go_simp
  refine hK.out _ _ (hHeld) (fun hHeld => ?_)
  clear hK KQ
  refine wpAnyH_done (by kernel_rfl) ?_ _
  go_wp2
  go_ret2
  exact ⟨rfl, grow_trans HBd.out Ha2.out⟩

set_option maxHeartbeats 2000000 in
theorem leafS_ok {w : World} {g gs : Nat} {vp vf : Value} {room : Nat} {cs : List (Nat × Ce)} {fr : List Nat} (s : Stm w g gs vp vf room cs fr) (K : List Int) (v : Value) (bs : List Int) (hr : Reads w v bs) (hK : Key K) (hL : Laid w) (hl : bs.length ≤ 1024) (hf : ¬ Full room cs fr) : Calls Tryz.prog 70 #[.pointer (some ⟨g, 0, none⟩), .agg (B K), v] w fun e w' => ∃ v', e = .returned (.tuple #[.int .i64 (tkH cs fr : Int), .int .i64 0]) ∧ CeOk (lfC (lfD K (vaD bs)) K v' bs) ∧ STurn w g gs (stB g gs vp vf cs) room (tkC cs fr (1, lfC (lfD K (vaD bs)) K v' bs)) fr.dropLast w' := by
  have HS : Hid (∀ w', Below w.heap.size w w' → Stm w' g gs vp vf room cs fr) := fun w' hb => s.grow hb
  have HE : Hid (∀ w', Below w.heap.size w w' → Calls Tryz.prog 93 #[.agg (B K), v] w' fun e w'' => e = .returned (.tuple #[.agg (B (lfD K (vaD bs))), .int .i64 0]) ∧ Below w'.heap.size w' w'') := fun w' hb => entry_short K v bs w' hK.1 hK.2 (hr.grow hb) (hL.grow hb) hl
  have HR : Hid (∀ w', Below w.heap.size w w' → Reads w' v bs) := fun w' hb => hr.grow hb
  have HKK := hidden hK
  have HKZ : Hid ((B K).size = 32) := by show (B K).size = 32; rw [B_size]; exact hK.1
  have hD32 : (lfD K (vaD bs)).length = 32 := dig_length _
  have hDb : Bytes (lfD K (vaD bs)) := dig_bytes _
  generalize lfD K (vaD bs) = D at *
  have HDZ : Hid ((B D).size = 32) := by show _ = _; rw [B_size]; exact hD32
  have HD := hidden hD32
  have HDb := hidden hDb
  have HLE := hidden hl
  have HF := hidden hf
  clear s hr hL hl hK hD32 hDb hf
  go_enter Tryz.func70, Tryz.ntmps70
  go_wp2_with (first
    | ((with_reducible refine at_bxd 4 ?_); refine wpList_bx _ rfl _ _ rfl _ rfl ?_; intro w1 b4 hg4 hl4 B4 b1; have HB4 := hidden B4; have Hg4 := hidden hg4; have c0 := (HS.out _ b1).c0; clear hg4 hl4 B4)
    | (go_at_call 46; refine (madeS_ok g _ c0).mono ?_; rintro e w' ⟨rfl, hx⟩; rw [hx]; clear hx w')
    | ((with_reducible refine at_ldd 14 4 ?_); refine wpList_ld _ rfl _ _ rfl b4 _ rfl HB4.out _ _ Tryz.underlying32 (by rw [HKZ.out]; exact size_path) ?_)
    | (go_at_call 93; refine (HE.out _ b1).mono ?_; rintro e w2 ⟨rfl, b2⟩; have Hb2 := hidden (grow_trans b1 b2); have HB4' := hidden (HB4.out.grow b2); clear b2)
    | ((with_reducible refine at_ald 8 ?_); refine wpList_al _ rfl _ rfl _ zero_hash ?_; intro w3 b8 hg8 hl8 B8 b3; have HB8 := hidden B8; have Hg8 := hidden hg8; have Hb3 := hidden b3; have HB4n := hidden (HB4'.out.grow b3); have hne : b4 ≠ b8 := (by have := HB4'.out.lt; omega); clear hg8 hl8 B8 b3)
    | ((with_reducible refine at_st 8 ?_); refine wpList_sto _ rfl _ _ _ rfl b8 _ (B D) rfl rfl HB8.out (by rw [HDZ.out]; exact size_hash) (by rw [HDZ.out, B_size]; simp) (B_one _) ?_; intro w4 B9 r9; have HB9 := hidden B9; have HB4m := hidden (HB4n.out.kept r9 hne); have Hb4 := hidden (below_row (grow_trans Hb2.out Hb3.out) r9 (by have := Hg8.out; have := Hb2.out.size; omega)); clear B9 r9))
  have HBd : Hid (Below w.heap.size w w4.drew) := below_drewN Hb4.out 1
  have hnS : ∀ k, w.heap.size ≤ k → k ∉ stB g gs vp vf cs := fun k hk e => by
    have := (HS.out w (Below.refl _ _)).lts k e
    omega
  have HnS := hidden hnS
  have Hn4 : Hid (w.heap.size ≤ b4) := Hg4.out
  have Hn8 : Hid (w.heap.size ≤ b8) := by
    show _ ≤ _
    have := Hg8.out
    have := Hb2.out.size
    omega
  clear hnS
  have HS0 : Hid (w4.drew.cell? ⟨g, 1, none⟩ = some (.pointer (some ⟨gs, 0, none⟩)) ∧ w4.drew.rangeAt b8 0 (B D).toList ∧ w4.drew.rangeAt b4 0 (B K).toList) := ⟨(HS.out _ HBd.out).c1, HB9.out.drew.range, HB4m.out.drew.range⟩
  refine wp_region_held_drew (S := fun w' => w'.cell? ⟨g, 1, none⟩ = some (.pointer (some ⟨gs, 0, none⟩)) ∧ w'.rangeAt b8 0 (B D).toList ∧ w'.rangeAt b4 0 (B K).toList) (by kernel_rfl) (HS0.out) (fun hHeld => ?_)
  refine tkp 0 (.pointer (some ⟨g, 0, none⟩)) hHeld ?_
  simp only [Act.put, zq1, zq2, zq4, zq5, zq6]
  refine tkp 1 (.pointer (some ⟨g, 0, none⟩)) hHeld ?_
  simp only [Act.put, zq1, zq2, zq3, zq4, zq5, zq6]
  refine tkp 2 (.pointer (some ⟨g, 1, none⟩)) hHeld ?_
  simp only [Act.put, zq1, zq2, zq3, zq4, zq5, zq6]
  refine tkg 3 (.pointer (some ⟨gs, 0, none⟩)) rfl (Or.inl ⟨by rfl, fun w hS => by (have q1 := hS.1; go_simp)⟩) hHeld ?_
  simp only [Act.put, zq1, zq2, zq3, zq4, zq5, zq6]
  refine tkg 4 (.agg (B D)) rfl (yieldsIf_load_mid rfl 25 (.tmp 8) rfl b8 0 rfl (B D).toList _ (fun w hS => hS.2.1) Tryz.underlying25 rfl (by rw [Array.length_toList, HDZ.out]; exact size_hash)) hHeld ?_
  simp only [Act.put, zq1, zq2, zq3, zq4, zq5, zq6]
  refine tkg 5 (.agg (B K)) rfl (yieldsIf_load_mid rfl 32 (.tmp 4) rfl b4 0 rfl (B K).toList _ (fun w hS => hS.2.2) Tryz.underlying32 rfl (by rw [Array.length_toList, HKZ.out]; exact size_path)) hHeld ?_
  simp only [Act.put, zq1, zq2, zq3, zq4, zq5, zq6]
  refine tkp 6 v hHeld ?_
  simp only [Act.put, zq1, zq2, zq3, zq4, zq5, zq6]
  refine wpAnyH_ready (rs := [7]) (by kernel_rfl) (by simp) ?_
  refine AllReadyH.cons rfl (fun KQ hK => ?_) AllReadyH.nil
  go_simp
  refine (clone_any v bs _ (HR.out _ HBd.out) (by have := HLE.out; omega)).mono ?_
  rintro e z1 ⟨v', sp, rfl, o1, a1⟩
  have Ho := hidden o1
  have Ha := hidden a1
  obtain ⟨va, vk, rfl⟩ := Own.slice o1
  clear o1 a1
  refine hK.out _ _ (⟨(HS.out _ (grow_trans HBd.out Ha.out)).c1, ((HB9.out.drew).grow Ha.out).range, ((HB4m.out.drew).grow Ha.out).range⟩) (fun hHeld => ?_)
  clear hK KQ
  have HBU := hidden (built_lf D K (.slice va bs.length vk) bs HD.out HKK.out.1 (slice_cells _ _ _))
  have HOx : Hid (CeOk (lfC D K (.slice va bs.length vk) bs)) := ⟨HD.out, HDb.out, HKK.out, va, vk, rfl⟩
  refine tkg 8 (.agg (cz (lfC D K (.slice va bs.length vk) bs)).toArray) rfl (Or.inl ⟨by rfl, fun w hS => exec_blc _ _ 81 _ (by rfl) _ (by rw [List.map_toArray]; exact HBU.out) w⟩) hHeld ?_
  simp only [Act.put, zq1, zq2, zq3, zq4, zq5, zq6]
  refine wpAnyH_ready (rs := [9]) (by kernel_rfl) (by simp) ?_
  refine AllReadyH.cons rfl (fun KQ hK => ?_) AllReadyH.nil
  go_simp
  refine (take_any (HS.out _ (grow_trans HBd.out Ha.out)) _ HOx.out HF.out).mono ?_
  rintro e z2 ⟨rfl, t2⟩
  have ht : STurn w g gs (stB g gs vp vf cs) room (tkC cs fr (1, lfC D K (.slice va bs.length vk) bs)) fr.dropLast z2 := leaf_turn (grow_trans HBd.out Ha.out) (HS.out _ (grow_trans HBd.out Ha.out)) t2 (Ho.out.mono HBd.out.size)
  have HT := hidden ht
  have Hm2 : Hid (Mod (slB gs vp vf) z1 z2) := (by obtain ⟨_, _, _, m, _⟩ := t2; exact m)
  clear t2 ht
  refine hK.out _ _ (⟨by obtain ⟨_, _, h1, _, _⟩ := HT.out; exact h1.c1, (((HB9.out.drew).grow Ha.out).mod Hm2.out (fun e => HnS.out _ Hn8.out (stB_mem.2 (.inr (.inl e))))).range, (((HB4m.out.drew).grow Ha.out).mod Hm2.out (fun e => HnS.out _ Hn4.out (stB_mem.2 (.inr (.inl e))))).range⟩) (fun hHeld => ?_)
  clear hK KQ
  refine tkp 10 (.int .i64 (tkH cs fr : Int)) hHeld ?_
  simp only [Act.put, zq1, zq2, zq3, zq4, zq5, zq6]
  refine tkp 11 (.int .i64 0) hHeld ?_
  simp only [Act.put, zq1, zq2, zq3, zq4, zq5, zq6]
  refine wpAnyH_ready (rs := [12]) (by kernel_rfl) (by simp) ?_
  refine AllReadyH.cons rfl (fun KQ hK => ?_) AllReadyH.nil
  go_simp
  refine hK.out _ _ (hHeld) (fun hHeld => ?_)
  clear hK KQ
  refine wpAnyH_ready (rs := [13]) (by kernel_rfl) (by simp) ?_
  refine AllReadyH.cons rfl (fun KQ hK => ?_) AllReadyH.nil
  go_simp
  refine hK.out _ _ (hHeld) (fun hHeld => ?_)
  clear hK KQ
  refine wpAnyH_done (by kernel_rfl) ?_ _
  go_wp2
  go_ret2
  exact ⟨.slice va bs.length vk, rfl, HOx.out, HT.out⟩

end Go.Proofs.YtnnmfgnommbmkaaGreatDoor

namespace Go.Proofs.YtnnmfgnommbmkaaGreatDoor
set_option maxRecDepth 20000
open Go.RowKit

theorem upS {w0 w : World} {g gs : Nat} {S : List Nat} {room : Nat} {cs : List (Nat × Ce)} {fr : List Nat} (t : STurn w0 g gs S room cs fr w) (hz : Wz cs) (l : Nat) (hl : l = 0 ∨ 1 ≤ l ∧ 0 < cc cs (l - 1) ∧ (ce cs (l - 1)).ab ≤ 1073741824) : Calls Tryz.prog 98 #[.pointer (some ⟨g, 0, none⟩), .int .i64 (l : Int), .int .i64 1] w fun e w' => e = .returned (.tuple #[]) ∧ STurn w0 g gs S room (upA cs l) fr w' := by
  obtain ⟨vp, vf, h1, h2, h3⟩ := t
  rcases hl with rfl | ⟨h4, h5, h6⟩
  · refine (above_out h1 hz 0 1 rfl).mono ?_
    rintro e w' ⟨rfl, hb⟩
    exact ⟨rfl, STurn.trans ⟨vp, vf, h1, h2, h3⟩ (fun vp vf s => STurn.refl hb (s.grow hb))⟩
  · obtain ⟨i, rfl⟩ : ∃ i, l = i + 1 := ⟨l - 1, by omega⟩
    rw [Nat.add_sub_cancel] at h5 h6
    refine (above_in h1 hz i ((ce cs i).ab + 1) 1 h5 rfl (by omega)).mono ?_
    rintro e w' ⟨rfl, ht⟩
    refine ⟨rfl, ?_⟩
    obtain ⟨vp', vf', k1, k2, k3⟩ := ht
    exact ⟨vp', vf', k1, h2.trans h3 k2, h3.trans h2.size k3⟩

theorem dnS {w0 w : World} {g gs : Nat} {S : List Nat} {room : Nat} {cs : List (Nat × Ce)} {fr : List Nat} (t : STurn w0 g gs S room cs fr w) (hz : Wz cs) (l : Nat) (hl : l = 0 ∨ 1 ≤ l ∧ 0 < cc cs (l - 1) ∧ 1 ≤ (ce cs (l - 1)).ab ∧ (ce cs (l - 1)).ab ≤ 1073741824) : Calls Tryz.prog 98 #[.pointer (some ⟨g, 0, none⟩), .int .i64 (l : Int), .int .i64 (-1)] w fun e w' => e = .returned (.tuple #[]) ∧ STurn w0 g gs S room (dnA cs l) fr w' := by
  obtain ⟨vp, vf, h1, h2, h3⟩ := t
  rcases hl with rfl | ⟨h4, h5, h6, h7⟩
  · refine (above_out h1 hz 0 (-1) rfl).mono ?_
    rintro e w' ⟨rfl, hb⟩
    exact ⟨rfl, STurn.trans ⟨vp, vf, h1, h2, h3⟩ (fun vp vf s => STurn.refl hb (s.grow hb))⟩
  · obtain ⟨i, rfl⟩ : ∃ i, l = i + 1 := ⟨l - 1, by omega⟩
    rw [Nat.add_sub_cancel] at h5 h6 h7
    refine (above_in h1 hz i ((ce cs i).ab - 1) (-1) h5 (by omega) (by omega)).mono ?_
    rintro e w' ⟨rfl, ht⟩
    refine ⟨rfl, ?_⟩
    obtain ⟨vp', vf', k1, k2, k3⟩ := ht
    exact ⟨vp', vf', k1, h2.trans h3 k2, h3.trans h2.size k3⟩

set_option maxHeartbeats 400000 in
theorem innerS_no (d l r : Int) (x : Value) (w : World) (hn : NoS w x) : Calls Tryz.prog 72 #[x, .int .i64 d, .int .i64 l, .int .i64 r] w fun e w' => e = .returned (.tuple #[.int .i64 0, .int .i64 1]) ∧ Below w.heap.size w w' := by
  have HN := hidden hn
  clear hn
  go_enter Tryz.func72, Tryz.ntmps72
  go_wp2_with (go_at_call 46; refine (madeS_no x _ HN.out).mono ?_; rintro e w' ⟨rfl, hx⟩; rw [hx]; clear hx w')
  go_ret2
  exact ⟨rfl, Below.refl _ _⟩

def mayP (cs : List (Nat × Ce)) (h : Int) : Prop := h = 0 ∨ (cat cs h).ab < cot cs h
instance (cs : List (Nat × Ce)) (h : Int) : Decidable (mayP cs h) := inferInstanceAs (Decidable (_ ∨ _))

set_option maxHeartbeats 1000000 in
theorem innerS_miss {w : World} {g gs : Nat} {vp vf : Value} {room : Nat} {cs : List (Nat × Ce)} {fr : List Nat} (s : Stm w g gs vp vf room cs fr) {pend : List Nat} (hw : Wf cs pend) (d : Nat) (l r : Int) (hd : d < 256) (hm : ¬ (mayP cs l ∧ mayP cs r)) : Calls Tryz.prog 72 #[.pointer (some ⟨g, 0, none⟩), .int .i64 (d : Int), .int .i64 l, .int .i64 r] w fun e w' => e = .returned (.tuple #[.int .i64 0, .int .i64 7]) ∧ Below w.heap.size w w' := by
  have V := vw_ok s hw
  have c0 := s.c0
  have HML := hidden (may_any V l)
  have HMR : Hid (∀ w', Below w.heap.size w w' → Calls Tryz.prog 95 #[.pointer (some ⟨g, 0, none⟩), .int .i64 r] w' fun e w'' => e = .returned (.bool (decide (mayP cs r))) ∧ Below w'.heap.size w' w'') := fun w' hb => may_any (V.grow hb) r
  have d0 : ¬ (d : Int) < 0 := by omega
  have d1 : ¬ (256 : Int) ≤ (d : Int) := by omega
  by_cases hl : mayP cs l
  · have hr : ¬ mayP cs r := fun h => hm ⟨hl, h⟩
    have e1 : decide (l = 0 ∨ (cat cs l).ab < cot cs l) = true := decide_eq_true hl
    have e2 : decide (mayP cs r) = false := decide_eq_false hr
    rw [e1] at HML
    rw [e2] at HMR
    clear s hw V hm hl hr e1 e2 hd
    go_enter Tryz.func72, Tryz.ntmps72
    go_wp2_with (first
      | (go_at_call 46; refine (madeS_ok g _ c0).mono ?_; rintro e w' ⟨rfl, hx⟩; rw [hx]; clear hx w')
      | (go_at_call 95; have mk := m1; clear mk; refine (HMR.out _ b1).mono ?_; rintro e w2 ⟨rfl, b2⟩)
      | (go_at_call 95; refine HML.out.mono ?_; rintro e w1 ⟨rfl, b1⟩; have m1 : Hid True := trivial))
    go_ret2
    exact ⟨rfl, grow_trans b1 b2⟩
  · have e1 : decide (l = 0 ∨ (cat cs l).ab < cot cs l) = false := decide_eq_false hl
    rw [e1] at HML
    clear s hw V hm hl e1 hd HMR
    go_enter Tryz.func72, Tryz.ntmps72
    go_wp2_with (first
      | (go_at_call 46; refine (madeS_ok g _ c0).mono ?_; rintro e w' ⟨rfl, hx⟩; rw [hx]; clear hx w')
      | (go_at_call 95; refine HML.out.mono ?_; rintro e w1 ⟨rfl, b1⟩))
    go_ret2
    exact ⟨rfl, b1⟩

theorem mayP.side {cs : List (Nat × Ce)} {h : Nat} (m : mayP cs (h : Int)) : h = 0 ∨ 1 ≤ h ∧ 0 < cc cs (h - 1) ∧ (ce cs (h - 1)).ab < cc cs (h - 1) := by
  by_cases h0 : h = 0
  · exact .inl h0
  · rcases m with m | m
    · omega
    · refine .inr ⟨by omega, ?_⟩
      unfold cot at m
      rw [cat_nat, sdC, if_neg h0, if_pos (by omega), show ((h : Int) - 1).toNat = h - 1 by omega] at m
      exact ⟨by omega, m⟩
theorem size_of {w : World} {g gs : Nat} {vp vf : Value} {room : Nat} {cs : List (Nat × Ce)} {fr : List Nat} (s : Stm w g gs vp vf room cs fr) {pend : List Nat} (hw : Wf cs pend) (h : Nat) (m : mayP cs (h : Int)) : (sdC cs h).sz ≤ 65536 := by
  have h1 := hw.size_le h (by
    rcases m.side with e | ⟨_, e, _⟩
    · exact .inl e
    · exact .inr e)
  have h2 := s.sl.inv.len
  have h3 := s.sl.inv.r2
  rw [List.length_map] at h2
  omega

set_option maxHeartbeats 1000000 in
theorem innerS_unfit {w : World} {g gs : Nat} {vp vf : Value} {room : Nat} {cs : List (Nat × Ce)} {fr : List Nat} (s : Stm w g gs vp vf room cs fr) {pend : List Nat} (hw : Wf cs pend) (d l r : Nat) (hd : d < 256) (hml : mayP cs (l : Int)) (hmr : mayP cs (r : Int)) (u : Bool) (hu : u = true ↔ Und (sdC cs l).key (sdC cs r).key (d : Int)) (hf : fitP d (sdC cs l) (sdC cs r) u = false) : Calls Tryz.prog 72 #[.pointer (some ⟨g, 0, none⟩), .int .i64 (d : Int), .int .i64 (l : Int), .int .i64 (r : Int)] w fun e w' => e = .returned (.tuple #[.int .i64 0, .int .i64 2]) ∧ Below w.heap.size w w' := by
  have V := vw_ok s hw
  have HS : Hid (∀ w', Below w.heap.size w w' → Stm w' g gs vp vf room cs fr) := fun w' hb => s.grow hb
  have c0 := s.c0
  have zl := size_of s hw l hml
  have zr := size_of s hw r hmr
  have HML := hidden (may_any V (l : Int))
  rw [show decide ((l : Int) = 0 ∨ (cat cs (l : Int)).ab < cot cs (l : Int)) = true from decide_eq_true hml] at HML
  have HMR : Hid (∀ w', Below w.heap.size w w' → Calls Tryz.prog 95 #[.pointer (some ⟨g, 0, none⟩), .int .i64 (r : Int)] w' fun e w'' => e = .returned (.bool true) ∧ Below w'.heap.size w' w'') := fun w' hb => by
    have := may_any (V.grow hb) (r : Int)
    rwa [show decide ((r : Int) = 0 ∨ (cat cs (r : Int)).ab < cot cs (r : Int)) = true from decide_eq_true hmr] at this
  have HAL : Hid (∀ w', Below w.heap.size w w' → Calls Tryz.prog 48 #[.pointer (some ⟨g, 0, none⟩), .int .i64 (l : Int)] w' fun e w'' => e = .returned (.agg (cz (sdC cs l)).toArray) ∧ Below w'.heap.size w' w'') := fun w' hb => by rw [← cat_nat]; exact V.atv w' l hb
  have HAR : Hid (∀ w', Below w.heap.size w w' → Calls Tryz.prog 48 #[.pointer (some ⟨g, 0, none⟩), .int .i64 (r : Int)] w' fun e w'' => e = .returned (.agg (cz (sdC cs r)).toArray) ∧ Below w'.heap.size w' w'') := fun w' hb => by rw [← cat_nat]; exact V.atv w' r hb
  have okL : CeOk (sdC cs l) := by rw [← cat_nat]; exact hw.catOk l
  have okR : CeOk (sdC cs r) := by rw [← cat_nat]; exact hw.catOk r
  have HFT : Hid (∀ w', Calls Tryz.prog 96 #[.int .i64 (d : Int), .agg (cz (sdC cs l)).toArray, .agg (cz (sdC cs r)).toArray] w' fun e w'' => e = .returned (.bool (fitP d (sdC cs l) (sdC cs r) u)) ∧ Below w'.heap.size w' w'') := fun w' => fit_any d _ _ u w' okL okR hd zl zr hu
  rw [hf] at HFT
  have d0 : ¬ (d : Int) < 0 := by omega
  have d1 : ¬ (256 : Int) ≤ (d : Int) := by omega
  generalize sdC cs l = L at HAL HFT
  generalize sdC cs r = R at HAR HFT
  clear s hw V hml hmr hu hf hd okL okR zl zr
  go_enter Tryz.func72, Tryz.ntmps72
  go_wp2_with (first
      | (go_at_call 46; refine (madeS_ok g _ c0).mono ?_; rintro e w' ⟨rfl, hx⟩; rw [hx]; clear hx w')
      | (go_at_call 95; have mk := m1; clear mk; refine (HMR.out _ b1).mono ?_; rintro e w2 ⟨rfl, b2⟩; have B2 := hidden (grow_trans b1 b2); clear b2)
      | (go_at_call 95; refine HML.out.mono ?_; rintro e w1 ⟨rfl, b1⟩; have m1 : Hid True := trivial)
      | (go_at_call 48; have mk := m2; clear mk; refine (HAR.out _ B3.out).mono ?_; rintro e w4 ⟨rfl, b4⟩; have B4 := hidden (grow_trans B3.out b4); clear b4)
      | (go_at_call 48; refine (HAL.out _ B2.out).mono ?_; rintro e w3 ⟨rfl, b3⟩; have B3 := hidden (grow_trans B2.out b3); have m2 : Hid True := trivial; clear b3)
      | (go_at_call 96; refine (HFT.out _).mono ?_; rintro e w5 ⟨rfl, b5⟩; have B5 := hidden (grow_trans B4.out b5); clear b5))
  go_ret2
  exact ⟨rfl, B5.out⟩

set_option maxHeartbeats 2000000 in
theorem innerS_full {w : World} {g gs : Nat} {vp vf : Value} {room : Nat} {cs : List (Nat × Ce)} {fr : List Nat} (s : Stm w g gs vp vf room cs fr) {pend : List Nat} (hw : Wf cs pend) (d l r : Nat) (hd : d < 256) (hml : mayP cs (l : Int)) (hmr : mayP cs (r : Int)) (u : Bool) (hu : u = true ↔ Und (sdC cs l).key (sdC cs r).key (d : Int)) (hf : fitP d (sdC cs l) (sdC cs r) u = true) (hL : Laid w) (hfu : Full room cs fr) : Calls Tryz.prog 72 #[.pointer (some ⟨g, 0, none⟩), .int .i64 (d : Int), .int .i64 (l : Int), .int .i64 (r : Int)] w fun e w' => e = .returned (.tuple #[.int .i64 0, .int .i64 9]) ∧ Below w.heap.size w w' := by
  have V := vw_ok s hw
  have HS : Hid (∀ w', Below w.heap.size w w' → Stm w' g gs vp vf room cs fr) := fun w' hb => s.grow hb
  have c0 := s.c0
  have zl := size_of s hw l hml
  have zr := size_of s hw r hmr
  have HML := hidden (may_any V (l : Int))
  rw [show decide ((l : Int) = 0 ∨ (cat cs (l : Int)).ab < cot cs (l : Int)) = true from decide_eq_true hml] at HML
  have HMR : Hid (∀ w', Below w.heap.size w w' → Calls Tryz.prog 95 #[.pointer (some ⟨g, 0, none⟩), .int .i64 (r : Int)] w' fun e w'' => e = .returned (.bool true) ∧ Below w'.heap.size w' w'') := fun w' hb => by
    have := may_any (V.grow hb) (r : Int)
    rwa [show decide ((r : Int) = 0 ∨ (cat cs (r : Int)).ab < cot cs (r : Int)) = true from decide_eq_true hmr] at this
  have HAL : Hid (∀ w', Below w.heap.size w w' → Calls Tryz.prog 48 #[.pointer (some ⟨g, 0, none⟩), .int .i64 (l : Int)] w' fun e w'' => e = .returned (.agg (cz (sdC cs l)).toArray) ∧ Below w'.heap.size w' w'') := fun w' hb => by rw [← cat_nat]; exact V.atv w' l hb
  have HAR : Hid (∀ w', Below w.heap.size w w' → Calls Tryz.prog 48 #[.pointer (some ⟨g, 0, none⟩), .int .i64 (r : Int)] w' fun e w'' => e = .returned (.agg (cz (sdC cs r)).toArray) ∧ Below w'.heap.size w' w'') := fun w' hb => by rw [← cat_nat]; exact V.atv w' r hb
  have okL : CeOk (sdC cs l) := by rw [← cat_nat]; exact hw.catOk l
  have okR : CeOk (sdC cs r) := by rw [← cat_nat]; exact hw.catOk r
  have HFT : Hid (∀ w', Calls Tryz.prog 96 #[.int .i64 (d : Int), .agg (cz (sdC cs l)).toArray, .agg (cz (sdC cs r)).toArray] w' fun e w'' => e = .returned (.bool (fitP d (sdC cs l) (sdC cs r) u)) ∧ Below w'.heap.size w' w'') := fun w' => fit_any d _ _ u w' okL okR hd zl zr hu
  rw [hf] at HFT
  have d0 : ¬ (d : Int) < 0 := by omega
  have d1 : ¬ (256 : Int) ≤ (d : Int) := by omega
  have HL2 := hidden hL
  have HJ : Hid (∀ w', Below w.heap.size w w' → Calls Tryz.prog 97 #[.pointer (some ⟨g, 0, none⟩), .int .i64 (d : Int), .int .i64 (l : Int), .int .i64 (r : Int)] w' fun e w'' => ∃ K, IsFill (if (sdC cs l).kind = 0 then (sdC cs r).key else (sdC cs l).key) d 0 K ∧ e = .returned (.agg (cz (inC (inD (sdD cs l) (sdD cs r)) K ((sdC cs l).sz + (sdC cs r).sz) d l r)).toArray) ∧ Below w'.heap.size w' w'') := fun w' hb => sjoin_any (s.grow hb) hw (hL.grow hb) d l r hd (by omega)
  have okx : ∀ K, IsFill (if (sdC cs l).kind = 0 then (sdC cs r).key else (sdC cs l).key) d 0 K → CeOk (inC (inD (sdD cs l) (sdD cs r)) K ((sdC cs l).sz + (sdC cs r).sz) d l r) := fun K hK => ⟨dig_length _, dig_bytes _, hK.1, none, 0, rfl⟩
  have HTK : Hid (∀ w' K, IsFill (if (sdC cs l).kind = 0 then (sdC cs r).key else (sdC cs l).key) d 0 K → Below w.heap.size w w' → Calls Tryz.prog 94 #[.pointer (some ⟨gs, 0, none⟩), .agg (cz (inC (inD (sdD cs l) (sdD cs r)) K ((sdC cs l).sz + (sdC cs r).sz) d l r)).toArray] w' fun e w'' => e = .returned (.tuple #[.int .i64 0, .int .i64 9]) ∧ Below w'.heap.size w' w'') := fun w' K hK hb => take_none (s.grow hb) _ (okx K hK) hfu
  generalize inD (sdD cs l) (sdD cs r) = D at HJ HTK
  generalize sdC cs l = L at HAL HFT HJ HTK
  generalize sdC cs r = R at HAR HFT HJ HTK
  clear s hw V hml hmr hu hf hd okL okR zl zr hL hfu okx
  go_enter Tryz.func72, Tryz.ntmps72
  go_wp2_with (first
      | (go_at_call 46; refine (madeS_ok g _ c0).mono ?_; rintro e w' ⟨rfl, hx⟩; rw [hx]; clear hx w')
      | (go_at_call 95; have mk := m1; clear mk; refine (HMR.out _ b1).mono ?_; rintro e w2 ⟨rfl, b2⟩; have B2 := hidden (grow_trans b1 b2); clear b2)
      | (go_at_call 95; refine HML.out.mono ?_; rintro e w1 ⟨rfl, b1⟩; have m1 : Hid True := trivial)
      | (go_at_call 48; have mk := m2; clear mk; refine (HAR.out _ B3.out).mono ?_; rintro e w4 ⟨rfl, b4⟩; have B4 := hidden (grow_trans B3.out b4); clear b4)
      | (go_at_call 48; refine (HAL.out _ B2.out).mono ?_; rintro e w3 ⟨rfl, b3⟩; have B3 := hidden (grow_trans B2.out b3); have m2 : Hid True := trivial; clear b3)
      | (go_at_call 96; refine (HFT.out _).mono ?_; rintro e w5 ⟨rfl, b5⟩; have B5 := hidden (grow_trans B4.out b5); clear b5))
  have B6 : Hid (Below w.heap.size w w5.drew) := below_drewN B5.out 1
  have HS0 : Hid (w5.drew.cell? ⟨g, 1, none⟩ = some (.pointer (some ⟨gs, 0, none⟩))) := (HS.out _ B6.out).c1
  refine wp_region_held_drew (S := fun w' => w'.cell? ⟨g, 1, none⟩ = some (.pointer (some ⟨gs, 0, none⟩))) (by kernel_rfl) (HS0.out) (fun hHeld => ?_)
  refine tkp 0 (.pointer (some ⟨g, 0, none⟩)) hHeld ?_
  simp only [Act.put, zq1, zq2, zq4, zq5, zq6]
  refine tkp 1 (.pointer (some ⟨g, 0, none⟩)) hHeld ?_
  simp only [Act.put, zq1, zq2, zq3, zq4, zq5, zq6]
  refine tkp 2 (.pointer (some ⟨g, 1, none⟩)) hHeld ?_
  simp only [Act.put, zq1, zq2, zq3, zq4, zq5, zq6]
  refine tkg 3 (.pointer (some ⟨gs, 0, none⟩)) rfl (Or.inl ⟨by rfl, fun w hS => by (have q1 := hS; go_simp)⟩) hHeld ?_
  simp only [Act.put, zq1, zq2, zq3, zq4, zq5, zq6]
  refine tkp 4 (.pointer (some ⟨g, 0, none⟩)) hHeld ?_
  simp only [Act.put, zq1, zq2, zq3, zq4, zq5, zq6]
  refine tkp 5 (.int .i64 (d : Int)) hHeld ?_
  simp only [Act.put, zq1, zq2, zq3, zq4, zq5, zq6]
  refine tkp 6 (.int .i64 (l : Int)) hHeld ?_
  simp only [Act.put, zq1, zq2, zq3, zq4, zq5, zq6]
  refine tkp 7 (.int .i64 (r : Int)) hHeld ?_
  simp only [Act.put, zq1, zq2, zq3, zq4, zq5, zq6]
  refine wpAnyH_ready (rs := [8]) (by kernel_rfl) (by simp) ?_
  refine AllReadyH.cons rfl (fun KQ hK => ?_) AllReadyH.nil
  go_simp
  refine (HJ.out _ B6.out).mono ?_
  rintro e z1 ⟨K, hK, rfl, a1⟩
  have Ha := hidden (grow_trans B6.out a1)
  have HKF := hidden hK
  clear a1 hK
  refine hK.out _ _ ((HS.out _ Ha.out).c1) (fun hHeld => ?_)
  clear hK KQ
  refine wpAnyH_ready (rs := [9]) (by kernel_rfl) (by simp) ?_
  refine AllReadyH.cons rfl (fun KQ hK => ?_) AllReadyH.nil
  go_simp
  refine (HTK.out _ K HKF.out Ha.out).mono ?_
  rintro e z2 ⟨rfl, a2⟩
  have Ha2 := hidden (grow_trans Ha.out a2)
  clear a2
  refine hK.out _ _ ((HS.out _ Ha2.out).c1) (fun hHeld => ?_)
  clear hK KQ
  refine tkp 10 (.tuple #[.int .i64 0, .int .i64 9]) hHeld ?_
  simp only [Act.put, zq1, zq2, zq3, zq4, zq5, zq6]
  refine tkp 11 (.int .i64 0) hHeld ?_
  simp only [Act.put, zq1, zq2, zq3, zq4, zq5, zq6]
  refine tkp 12 (.int .i64 9) hHeld ?_
  simp only [Act.put, zq1, zq2, zq3, zq4, zq5, zq6]
  refine wpAnyH_ready (rs := [13]) (by kernel_rfl) (by simp) ?_
  refine AllReadyH.cons rfl (fun KQ hK => ?_) AllReadyH.nil
  go_simp
  refine hK.out _ _ (hHeld) (fun hHeld => ?_)
  clear hK KQ
  refine wpAnyH_ready (rs := [14]) (by kernel_rfl) (by simp) ?_
  refine AllReadyH.cons rfl (fun KQ hK => ?_) AllReadyH.nil
  go_simp
  refine hK.out _ _ (hHeld) (fun hHeld => ?_)
  clear hK KQ
  refine wpAnyH_done (by kernel_rfl) ?_ _
  go_wp2
  go_ret2
  exact ⟨rfl, Ha2.out⟩

set_option maxHeartbeats 2000000 in
theorem innerS_ok {w : World} {g gs : Nat} {vp vf : Value} {room : Nat} {cs : List (Nat × Ce)} {fr : List Nat} (s : Stm w g gs vp vf room cs fr) {pend : List Nat} (hw : Wf cs pend) (d l r : Nat) (hd : d < 256) (hml : mayP cs (l : Int)) (hmr : mayP cs (r : Int)) (u : Bool) (hu : u = true ↔ Und (sdC cs l).key (sdC cs r).key (d : Int)) (hf : fitP d (sdC cs l) (sdC cs r) u = true) (hL : Laid w) (hfu : ¬ Full room cs fr) : Calls Tryz.prog 72 #[.pointer (some ⟨g, 0, none⟩), .int .i64 (d : Int), .int .i64 (l : Int), .int .i64 (r : Int)] w fun e w' => ∃ K, IsFill (if (sdC cs l).kind = 0 then (sdC cs r).key else (sdC cs l).key) d 0 K ∧ e = .returned (.tuple #[.int .i64 (tkH cs fr : Int), .int .i64 0]) ∧ STurn w g gs (stB g gs vp vf cs) room (upA (upA (tkC cs fr (1, inC (inD (sdD cs l) (sdD cs r)) K ((sdC cs l).sz + (sdC cs r).sz) d l r)) l) r) fr.dropLast w' := by
  have V := vw_ok s hw
  have HS : Hid (∀ w', Below w.heap.size w w' → Stm w' g gs vp vf room cs fr) := fun w' hb => s.grow hb
  have c0 := s.c0
  have zl := size_of s hw l hml
  have zr := size_of s hw r hmr
  have HML := hidden (may_any V (l : Int))
  rw [show decide ((l : Int) = 0 ∨ (cat cs (l : Int)).ab < cot cs (l : Int)) = true from decide_eq_true hml] at HML
  have HMR : Hid (∀ w', Below w.heap.size w w' → Calls Tryz.prog 95 #[.pointer (some ⟨g, 0, none⟩), .int .i64 (r : Int)] w' fun e w'' => e = .returned (.bool true) ∧ Below w'.heap.size w' w'') := fun w' hb => by
    have := may_any (V.grow hb) (r : Int)
    rwa [show decide ((r : Int) = 0 ∨ (cat cs (r : Int)).ab < cot cs (r : Int)) = true from decide_eq_true hmr] at this
  have HAL : Hid (∀ w', Below w.heap.size w w' → Calls Tryz.prog 48 #[.pointer (some ⟨g, 0, none⟩), .int .i64 (l : Int)] w' fun e w'' => e = .returned (.agg (cz (sdC cs l)).toArray) ∧ Below w'.heap.size w' w'') := fun w' hb => by rw [← cat_nat]; exact V.atv w' l hb
  have HAR : Hid (∀ w', Below w.heap.size w w' → Calls Tryz.prog 48 #[.pointer (some ⟨g, 0, none⟩), .int .i64 (r : Int)] w' fun e w'' => e = .returned (.agg (cz (sdC cs r)).toArray) ∧ Below w'.heap.size w' w'') := fun w' hb => by rw [← cat_nat]; exact V.atv w' r hb
  have okL : CeOk (sdC cs l) := by rw [← cat_nat]; exact hw.catOk l
  have okR : CeOk (sdC cs r) := by rw [← cat_nat]; exact hw.catOk r
  have HFT : Hid (∀ w', Calls Tryz.prog 96 #[.int .i64 (d : Int), .agg (cz (sdC cs l)).toArray, .agg (cz (sdC cs r)).toArray] w' fun e w'' => e = .returned (.bool (fitP d (sdC cs l) (sdC cs r) u)) ∧ Below w'.heap.size w' w'') := fun w' => fit_any d _ _ u w' okL okR hd zl zr hu
  rw [hf] at HFT
  have d0 : ¬ (d : Int) < 0 := by omega
  have d1 : ¬ (256 : Int) ≤ (d : Int) := by omega
  have HL2 := hidden hL
  have HJ : Hid (∀ w', Below w.heap.size w w' → Calls Tryz.prog 97 #[.pointer (some ⟨g, 0, none⟩), .int .i64 (d : Int), .int .i64 (l : Int), .int .i64 (r : Int)] w' fun e w'' => ∃ K, IsFill (if (sdC cs l).kind = 0 then (sdC cs r).key else (sdC cs l).key) d 0 K ∧ e = .returned (.agg (cz (inC (inD (sdD cs l) (sdD cs r)) K ((sdC cs l).sz + (sdC cs r).sz) d l r)).toArray) ∧ Below w'.heap.size w' w'') := fun w' hb => sjoin_any (s.grow hb) hw (hL.grow hb) d l r hd (by omega)
  have okx : ∀ K, IsFill (if (sdC cs l).kind = 0 then (sdC cs r).key else (sdC cs l).key) d 0 K → CeOk (inC (inD (sdD cs l) (sdD cs r)) K ((sdC cs l).sz + (sdC cs r).sz) d l r) := fun K hK => ⟨dig_length _, dig_bytes _, hK.1, none, 0, rfl⟩
  have HTK : Hid (∀ w' K, IsFill (if (sdC cs l).kind = 0 then (sdC cs r).key else (sdC cs l).key) d 0 K → Below w.heap.size w w' → Calls Tryz.prog 94 #[.pointer (some ⟨gs, 0, none⟩), .agg (cz (inC (inD (sdD cs l) (sdD cs r)) K ((sdC cs l).sz + (sdC cs r).sz) d l r)).toArray] w' fun e w'' => e = .returned (.tuple #[.int .i64 (tkH cs fr : Int), .int .i64 0]) ∧ STurn w g gs (stB g gs vp vf cs) room (tkC cs fr (1, inC (inD (sdD cs l) (sdD cs r)) K ((sdC cs l).sz + (sdC cs r).sz) d l r)) fr.dropLast w'') := by
    intro w' K hK hb
    refine (take_any (s.grow hb) _ (okx K hK) hfu).mono ?_
    rintro e w'' ⟨rfl, t⟩
    exact ⟨rfl, leaf_turn (sp := []) hb (s.grow hb) t (Own.nil _ _)⟩
  have tk := fun x => (tk_of (frOk_inv s.sl.inv) (1, x)).2
  have hz1 : ∀ K, IsFill (if (sdC cs l).kind = 0 then (sdC cs r).key else (sdC cs l).key) d 0 K → Wz (tkC cs fr (1, inC (inD (sdD cs l) (sdD cs r)) K ((sdC cs l).sz + (sdC cs r).sz) d l r)) := fun K hK => by
    refine ⟨fun j hj => ?_, fun j => ?_⟩
    · rw [(tk _).cc] at hj
      rw [(tk _).ce]
      split at hj
      · simp at hj
      · next e => rw [if_neg e]; exact hw.zero j hj
    · rw [(tk _).ce]
      split
      · exact okx K hK
      · exact hw.ok j
  have side : ∀ x (q : Nat), mayP cs (q : Int) → q = 0 ∨ 1 ≤ q ∧ 0 < cc (tkC cs fr (1, x)) (q - 1) ∧ (ce (tkC cs fr (1, x)) (q - 1)).ab + 1 ≤ 1073741824 := fun x q hq => by
    rcases hq.side with e | ⟨e1, e2, e3⟩
    · exact .inl e
    · have hne : q - 1 ≠ tkH cs fr - 1 := fun e => by
        rw [e, (tk x).vac] at e2
        omega
      have hmo := s.sl.inv.most (q - 1)
      rw [cnt_pl] at hmo
      refine .inr ⟨e1, ?_⟩
      rw [(tk x).cc, (tk x).ce, if_neg hne, if_neg hne]
      omega
  have HU1 : Hid (∀ w' K, IsFill (if (sdC cs l).kind = 0 then (sdC cs r).key else (sdC cs l).key) d 0 K → STurn w g gs (stB g gs vp vf cs) room (tkC cs fr (1, inC (inD (sdD cs l) (sdD cs r)) K ((sdC cs l).sz + (sdC cs r).sz) d l r)) fr.dropLast w' → Calls Tryz.prog 98 #[.pointer (some ⟨g, 0, none⟩), .int .i64 (l : Int), .int .i64 1] w' fun e w'' => e = .returned (.tuple #[]) ∧ STurn w g gs (stB g gs vp vf cs) room (upA (tkC cs fr (1, inC (inD (sdD cs l) (sdD cs r)) K ((sdC cs l).sz + (sdC cs r).sz) d l r)) l) fr.dropLast w'') := fun w' K hK t => upS t (hz1 K hK) l (by
    rcases side (inC (inD (sdD cs l) (sdD cs r)) K ((sdC cs l).sz + (sdC cs r).sz) d l r) l hml with e | ⟨e1, e2, e3⟩
    · exact .inl e
    · exact .inr ⟨e1, e2, by omega⟩)
  have HU2 : Hid (∀ w' K, IsFill (if (sdC cs l).kind = 0 then (sdC cs r).key else (sdC cs l).key) d 0 K → STurn w g gs (stB g gs vp vf cs) room (upA (tkC cs fr (1, inC (inD (sdD cs l) (sdD cs r)) K ((sdC cs l).sz + (sdC cs r).sz) d l r)) l) fr.dropLast w' → Calls Tryz.prog 98 #[.pointer (some ⟨g, 0, none⟩), .int .i64 (r : Int), .int .i64 1] w' fun e w'' => e = .returned (.tuple #[]) ∧ STurn w g gs (stB g gs vp vf cs) room (upA (upA (tkC cs fr (1, inC (inD (sdD cs l) (sdD cs r)) K ((sdC cs l).sz + (sdC cs r).sz) d l r)) l) r) fr.dropLast w'') := fun w' K hK t => by
    have hx := side (inC (inD (sdD cs l) (sdD cs r)) K ((sdC cs l).sz + (sdC cs r).sz) d l r)
    have hz1' := hz1 K hK
    generalize tkC cs fr (1, inC (inD (sdD cs l) (sdD cs r)) K ((sdC cs l).sz + (sdC cs r).sz) d l r) = c1 at t hx hz1' ⊢
    have a1 := upA_of c1 l
    refine upS t ?_ r ?_
    · refine ⟨fun j hj => ?_, fun j => (a1.core j).ok (hz1'.ok j)⟩
      rw [a1.cc] at hj
      have hk := a1.core j
      rw [hz1'.zero j hj] at hk
      rcases hx l hml with e | ⟨e1, e2, e3⟩
      · subst e
        exact hz1'.zero j hj
      · have hab := upA_ab c1 l j (.inl (cc_lt e2))
        have hne : ¬ l = j + 1 := fun e => by
          rw [e, Nat.add_sub_cancel, hj] at e2
          omega
        rw [if_neg hne, hz1'.zero j hj] at hab
        rw [hk, hab]
        rfl
    · rcases hx r hmr with e | ⟨e1, e2, e3⟩
      · exact .inl e
      · refine .inr ⟨e1, by rw [a1.cc]; exact e2, ?_⟩
        rcases hx l hml with e | ⟨f1, f2, f3⟩
        · subst e
          exact Nat.le_of_succ_le e3
        · rw [upA_ab c1 l (r - 1) (.inl (cc_lt f2))]
          split <;> omega
  generalize inD (sdD cs l) (sdD cs r) = D at HJ HTK HU1 HU2 ⊢
  generalize sdC cs l = L at HAL HFT HJ HTK HU1 HU2 ⊢
  generalize sdC cs r = R at HAR HFT HJ HTK HU1 HU2 ⊢
  generalize (if L.kind = 0 then R.key else L.key) = XK at HJ HTK HU1 HU2 ⊢
  clear s hw V hml hmr hu hf hd okL okR zl zr hL hfu okx tk hz1 side
  go_enter Tryz.func72, Tryz.ntmps72
  go_wp2_with (first
      | (go_at_call 46; refine (madeS_ok g _ c0).mono ?_; rintro e w' ⟨rfl, hx⟩; rw [hx]; clear hx w')
      | (go_at_call 95; have mk := m1; clear mk; refine (HMR.out _ b1).mono ?_; rintro e w2 ⟨rfl, b2⟩; have B2 := hidden (grow_trans b1 b2); clear b2)
      | (go_at_call 95; refine HML.out.mono ?_; rintro e w1 ⟨rfl, b1⟩; have m1 : Hid True := trivial)
      | (go_at_call 48; have mk := m2; clear mk; refine (HAR.out _ B3.out).mono ?_; rintro e w4 ⟨rfl, b4⟩; have B4 := hidden (grow_trans B3.out b4); clear b4)
      | (go_at_call 48; refine (HAL.out _ B2.out).mono ?_; rintro e w3 ⟨rfl, b3⟩; have B3 := hidden (grow_trans B2.out b3); have m2 : Hid True := trivial; clear b3)
      | (go_at_call 96; refine (HFT.out _).mono ?_; rintro e w5 ⟨rfl, b5⟩; have B5 := hidden (grow_trans B4.out b5); clear b5))
  have B6 : Hid (Below w.heap.size w w5.drew) := below_drewN B5.out 1
  have HS0 : Hid (w5.drew.cell? ⟨g, 1, none⟩ = some (.pointer (some ⟨gs, 0, none⟩))) := (HS.out _ B6.out).c1
  refine wp_region_held_drew (S := fun w' => w'.cell? ⟨g, 1, none⟩ = some (.pointer (some ⟨gs, 0, none⟩))) (by kernel_rfl) (HS0.out) (fun hHeld => ?_)
  refine tkp 0 (.pointer (some ⟨g, 0, none⟩)) hHeld ?_
  simp only [Act.put, zq1, zq2, zq4, zq5, zq6]
  refine tkp 1 (.pointer (some ⟨g, 0, none⟩)) hHeld ?_
  simp only [Act.put, zq1, zq2, zq3, zq4, zq5, zq6]
  refine tkp 2 (.pointer (some ⟨g, 1, none⟩)) hHeld ?_
  simp only [Act.put, zq1, zq2, zq3, zq4, zq5, zq6]
  refine tkg 3 (.pointer (some ⟨gs, 0, none⟩)) rfl (Or.inl ⟨by rfl, fun w hS => by (have q1 := hS; go_simp)⟩) hHeld ?_
  simp only [Act.put, zq1, zq2, zq3, zq4, zq5, zq6]
  refine tkp 4 (.pointer (some ⟨g, 0, none⟩)) hHeld ?_
  simp only [Act.put, zq1, zq2, zq3, zq4, zq5, zq6]
  refine tkp 5 (.int .i64 (d : Int)) hHeld ?_
  simp only [Act.put, zq1, zq2, zq3, zq4, zq5, zq6]
  refine tkp 6 (.int .i64 (l : Int)) hHeld ?_
  simp only [Act.put, zq1, zq2, zq3, zq4, zq5, zq6]
  refine tkp 7 (.int .i64 (r : Int)) hHeld ?_
  simp only [Act.put, zq1, zq2, zq3, zq4, zq5, zq6]
  refine wpAnyH_ready (rs := [8]) (by kernel_rfl) (by simp) ?_
  refine AllReadyH.cons rfl (fun KQ hK => ?_) AllReadyH.nil
  go_simp
  refine (HJ.out _ B6.out).mono ?_
  rintro e z1 ⟨K, hK, rfl, a1⟩
  have Ha := hidden (grow_trans B6.out a1)
  have HKF := hidden hK
  clear a1 hK
  refine hK.out _ _ ((HS.out _ Ha.out).c1) (fun hHeld => ?_)
  clear hK KQ
  refine wpAnyH_ready (rs := [9]) (by kernel_rfl) (by simp) ?_
  refine AllReadyH.cons rfl (fun KQ hK => ?_) AllReadyH.nil
  go_simp
  refine (HTK.out _ K HKF.out Ha.out).mono ?_
  rintro e z2 ⟨rfl, t2⟩
  have HT := hidden t2
  clear t2
  refine hK.out _ _ (by obtain ⟨_, _, h1, _, _⟩ := HT.out; exact h1.c1) (fun hHeld => ?_)
  clear hK KQ
  refine tkp 10 (.tuple #[.int .i64 (tkH cs fr : Int), .int .i64 0]) hHeld ?_
  simp only [Act.put, zq1, zq2, zq3, zq4, zq5, zq6]
  refine tkp 11 (.int .i64 (tkH cs fr : Int)) hHeld ?_
  simp only [Act.put, zq1, zq2, zq3, zq4, zq5, zq6]
  refine tkp 12 (.int .i64 0) hHeld ?_
  simp only [Act.put, zq1, zq2, zq3, zq4, zq5, zq6]
  refine wpAnyH_ready (rs := [13]) (by kernel_rfl) (by simp) ?_
  refine AllReadyH.cons rfl (fun KQ hK => ?_) AllReadyH.nil
  go_simp
  refine hK.out _ _ (hHeld) (fun hHeld => ?_)
  clear hK KQ
  refine wpAnyH_ready (rs := [14]) (by kernel_rfl) (by simp) ?_
  refine AllReadyH.cons rfl (fun KQ hK => ?_) AllReadyH.nil
  go_simp
  refine hK.out _ _ (hHeld) (fun hHeld => ?_)
  clear hK KQ
  refine wpAnyH_done (by kernel_rfl) ?_ _
  clear c0 hHeld
  go_wp2_with (first
    | (go_at_call 98; have mk := m5; clear mk; refine (HU2.out _ K HKF.out T1.out).mono ?_; rintro e y2 ⟨rfl, t⟩; have T2 := hidden t; clear t)
    | (go_at_call 98; refine (HU1.out _ K HKF.out HT.out).mono ?_; rintro e y1 ⟨rfl, t⟩; have T1 := hidden t; have m5 : Hid True := trivial; clear t))
  go_ret2
  exact ⟨K, HKF.out, rfl, T2.out⟩

end Go.Proofs.YtnnmfgnommbmkaaGreatDoor
