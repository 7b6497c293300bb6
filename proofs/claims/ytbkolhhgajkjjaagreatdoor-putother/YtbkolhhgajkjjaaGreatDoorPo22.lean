/- What stands in every later world: facts that a walk carries on from call to call. -/
import Derived.Test.YtbkolhhgajkjjaaGreatDoorPo21
namespace Go.Proofs.YtbkolhhgajkjjaaGreatDoor
set_option maxHeartbeats 4000000
set_option maxRecDepth 20000
open Go.RowKit
def Kp (w : World) (P : World → Prop) : Prop := ∀ w', Below w.heap.size w w' → P w'
theorem Kp.now {w : World} {P : World → Prop} (h : Kp w P) : P w := h w (Below.refl _ _)
theorem Kp.step {w w1 : World} {P : World → Prop} (h : Kp w P) (q : Below w.heap.size w w1) : Kp w1 P := fun w' h' => h w' (Zb q h')
theorem Blk.kp {w : World} {g : Nat} {t : TypeId} {cs : Array Value} (h : Blk w g t cs) : Kp w (fun w' => Blk w' g t cs) := fun _ q => h.grow q
theorem Ybe (w : World) : Kp w (fun w' => Below w.heap.size w w') := fun _ q => q
theorem Zny (cs : List (Nat × Ce)) (h : Nat) : vDg true (cat cs) (h : Int) = sdD cs h := by
 unfold vDg sdD
 by_cases e : h = 0
 ·subst e
  simp
 ·rw [if_neg (by omega), if_neg e, Zaf, sdC, if_neg e]
theorem Zli {w : World} {b : Nat} {c : Ce} {i : Nat} {v : Value} (h : Kp w (fun w' => Blk w' b 65 (cz c).toArray)) (e : (cz c)[i]? = some v) : ∀ w', Below w.heap.size w w' → w'.cell? ⟨b, i, none⟩ = some v := fun w' hb => by
 rw [(h w' hb).cell]
 simpa using e
theorem Zmc {w : World} {g gs : Nat} {vp vf : Value} {room : Nat} {cs : List (Nat × Ce)} {fr : List Nat} (s : Stm w g gs vp vf room cs fr) {pend : List Nat} (hw : Wf cs pend) (hL : Laid w) (d l r : Nat) (hd : d < 256) (hsz : (sdC cs l).sz + (sdC cs r).sz ≤ 1048576) : Calls Tryz.prog 76 #[.pointer (some ⟨g, 0, none⟩), .int .i64 (d : Int), .int .i64 (l : Int), .int .i64 (r : Int)] w fun e w' => ∃ K, IsFill (if (sdC cs l).kind = 0 then (sdC cs r).key else (sdC cs l).key) d 0 K ∧ e = .returned (.agg (cz (inC (inD (sdD cs l) (sdD cs r)) K ((sdC cs l).sz + (sdC cs r).sz) d l r)).toArray) ∧ Below w.heap.size w w' := by
 have V := Zjl s hw
 have HAL : Hid (∀ w', Below w.heap.size w w' → Calls Tryz.prog 75 #[.pointer (some ⟨g, 0, none⟩), .int .i64 (l : Int)] w' fun e w'' => e = .returned (.agg (cz (sdC cs l)).toArray) ∧ Below w'.heap.size w' w'') := fun w' hb => by rw [← Zaf]; exact V.atv w' l hb
 have HAR : Hid (∀ w', Below w.heap.size w w' → Calls Tryz.prog 75 #[.pointer (some ⟨g, 0, none⟩), .int .i64 (r : Int)] w' fun e w'' => e = .returned (.agg (cz (sdC cs r)).toArray) ∧ Below w'.heap.size w' w'') := fun w' hb => by rw [← Zaf]; exact V.atv w' r hb
 have HDL : Hid (∀ w', Below w.heap.size w w' → Calls Tryz.prog 104 #[.pointer (some ⟨g, 0, none⟩), .int .i64 (l : Int)] w' fun e w'' => e = .returned (.agg (B (sdD cs l))) ∧ Below w'.heap.size w' w'') := fun w' hb => by rw [← Zny]; exact Zhm (V.grow hb) l (hL.grow hb)
 have HDR : Hid (∀ w', Below w.heap.size w w' → Calls Tryz.prog 104 #[.pointer (some ⟨g, 0, none⟩), .int .i64 (r : Int)] w' fun e w'' => e = .returned (.agg (B (sdD cs r))) ∧ Below w'.heap.size w' w'') := fun w' hb => by rw [← Zny]; exact Zhm (V.grow hb) r (hL.grow hb)
 have hl32 := Zdv V (l : Int)
 have hr32 := Zdv V (r : Int)
 rw [Zny] at hl32 hr32
 have HIN : Hid (∀ w', Below w.heap.size w w' → Calls Tryz.prog 133 #[.agg (B (sdD cs l)), .agg (B (sdD cs r))] w' fun e w'' => e = .returned (.agg (B (inD (sdD cs l) (sdD cs r)))) ∧ Below w'.heap.size w' w'') := fun w' hb => Zvy _ _ w' hl32.1 hr32.1 hl32.2 hr32.2 (hL.grow hb)
 have okL : CeOk (sdC cs l) := by rw [← Zaf]; exact hw.catOk l
 have okR : CeOk (sdC cs r) := by rw [← Zaf]; exact hw.catOk r
 have HOL := Za okL
 have HOR := Za okR
 have hD32 : (inD (sdD cs l) (sdD cs r)).length = 32 := Zn _
 have HDB : Hid (Bytes (inD (sdD cs l) (sdD cs r))) := Zaj _
 generalize sdC cs l = L at *
 generalize sdC cs r = R at *
 generalize inD (sdD cs l) (sdD cs r) = D at *
 generalize sdD cs l = dl at *
 generalize sdD cs r = dr at *
 have HD32 := Za hD32
 have HB0 : Hid (Kp w (fun w' => Below w.heap.size w w')) := Ybe w
 have hws : IntKind.i64.wrap ((L.sz : Int) + (R.sz : Int)) = (L.sz : Int) + (R.sz : Int) := by simp only [IntKind.wrap_i64]; omega
 obtain ⟨X, hX⟩ : ∃ X, X = if L.kind = 0 then R else L := ⟨_, rfl⟩
 have hXk : (if L.kind = 0 then R.key else L.key) = X.key := by rw [hX]; split <;> rfl
 rw [hXk]
 have okX : CeOk X := by rw [hX]; split <;> assumption
 have HOX := Za okX
 have HFI : Hid (∀ w', Calls Tryz.prog 132 #[.agg (B X.key), .int .i64 (d : Int)] w' (KeyPost (IsFill X.key d 0) 0 w')) := fun w' => Yaq X.key d w' okX.hk (by omega)
 have HWS := Za hws
 have HXL : Hid (L.kind ≠ 0 → X = L) := fun h => by rw [hX, if_neg h]
 have HXR : Hid (L.kind = 0 → X = R) := fun h => by rw [hX, if_pos h]
 clear s hw hL V hl32 hr32 okL okR okX hD32 hws hX hXk hsz hd
 by_cases hk : L.kind = 0
 ·have HK := Za hk
  have hXe := HXR.out hk
  rw [hXe] at HFI
  rw [hXe]
  clear hk HXL HXR hXe HOX
  go_enter Tryz.func76, Tryz.ntmps76
  go_wp2_with (first
   | ((with_reducible refine Zx 8 ?_); refine Ze _ rfl _ rfl _ Zah ?_; intro y1 g8 hg8 hl8 B8 q1; replace HB0 := Za (HB0.out.step q1); have HR8 := Za B8.kp; have Hg8 := Za hg8; clear hg8 hl8 B8 q1)
   | ((with_reducible refine Zx 9 ?_); refine Ze _ rfl _ rfl _ Zah ?_; intro y4 g9 hg9 hl9 bz9 q4; have Hg9 := Za hg9; have HQ9 := Za q4; have HZ9 := Za bz9; have Hl9 := Za hl9; clear hg9 hl9 bz9 q4)
   | ((with_reducible refine Zx 10 ?_); refine Ze _ rfl _ rfl _ Zah ?_; intro y5 g10 hg10 hl10 bz10 q5; have Hg10 := Za hg10; have HZ10 := Za bz10; have HZ9' := Za (HZ9.out.grow q5); have hne : g10 ≠ g9 := (by have := Hl9.out; omega); have HQ10 := Za q5; clear hg10 hl10 bz10 q5)
   | ((with_reducible refine Zag 9 ?_); refine Zf _ rfl _ _ _ rfl g9 _ (cz L).toArray rfl rfl HZ9'.out (Zcs _ (Zal HOL.out)) (Zjk _ (Zal HOL.out)) (all_oneCell_toArray (Zcm HOL.out)) ?_; intro y6 by9 r9; have HY9 := Za by9; have HZ10' := Za (HZ10.out.kept r9 hne); have HR9 := Za r9; clear by9 r9)
   | ((with_reducible refine Zag 10 ?_); refine Zf _ rfl _ _ _ rfl g10 _ (cz R).toArray rfl rfl HZ10'.out (Zcs _ (Zal HOR.out)) (Zjk _ (Zal HOR.out)) (all_oneCell_toArray (Zcm HOR.out)) ?_; intro y7 by10 r10; have HLB := Za (HY9.out.kept r10 hne.symm).kp; have HRB := Za by10.kp; have q9 := HQ9.out; have q10 := HQ10.out; have qa := Zd (Zb q9 q10) HR9.out Hg9.out; have qb := Zd qa r10 (by have := Hg10.out; have := q9.size; omega); replace HB0 := Za (HB0.out.step qb); replace HR8 := Za (HR8.out.step qb); clear by10 r10 q9 q10 qa qb)
   | ((with_reducible refine Zl 20 9 ?_); refine wpList_load_mid rfl _ _ rfl g9 0 rfl (cz L) _ HLB.out.now.range Tryz.underlying65 rfl (Zcs _ (Zal HOL.out)) ?_)
   | ((with_reducible refine Zx 11 ?_); refine Ze _ rfl _ rfl _ Zah ?_; intro y8 g11 hg11 hl11 bz11 q8; have Hg11 := Za hg11; have HZ11 := Za bz11; have HQ11 := Za q8; clear hg11 hl11 bz11 q8)
   | ((with_reducible refine Zl 24 10 ?_); refine wpList_load_mid rfl _ _ rfl g10 0 rfl (cz R) _ HRB1.out.range Tryz.underlying65 rfl (Zcs _ (Zal HOR.out)) ?_)
   | ((with_reducible refine Zl 27 26 ?_); refine wpList_load_mid rfl _ _ rfl g11 35 rfl (R.key.map (Value.int .u8)) _ ((Ybp R HOR.out).range HXB.out.now) Tryz.underlying31 rfl (Zka HOR.out) ?_)
   | ((with_reducible refine Zx 12 ?_); refine Ze _ rfl _ rfl _ Zca ?_; intro y12 g12 hg12 hl12 bz12 q12; have Hg12 := Za hg12; have HZ12 := Za bz12; have HQ12 := Za q12; clear hg12 hl12 bz12 q12)
   | ((with_reducible refine Zag 12 ?_); refine Zf _ rfl _ _ _ rfl g12 _ (B K) rfl rfl HZ12.out (by rw [HKZ.out]; exact Zk) (by rw [HKZ.out, Zj]; simp) (Zaw _) ?_; intro y13 by12 r12; have qd := Zd HQ12.out r12 Hg12.out; replace HB0 := Za (HB0.out.step qd); replace HR8 := Za (HR8.out.step qd); replace HLB := Za (HLB.out.step qd); replace HRB := Za (HRB.out.step qd); replace HXB := Za (HXB.out.step qd); have HKB := Za by12.kp; clear by12 r12 qd)
   | (go_at_call 75; have mk := m1; clear mk; refine (HAR.out _ HB0.out.now).mono ?_; rintro e y3 ⟨rfl, q3⟩; replace HB0 := Za (HB0.out.step q3); replace HR8 := Za (HR8.out.step q3); clear q3)
   | (go_at_call 75; refine (HAL.out _ HB0.out.now).mono ?_; rintro e y2 ⟨rfl, q2⟩; replace HB0 := Za (HB0.out.step q2); replace HR8 := Za (HR8.out.step q2); have m1 : Hid True := trivial; clear q2)
   | ((with_reducible refine Zag 11 ?_); have mk := m2; clear mk; refine Zf _ rfl _ _ _ rfl g11 _ (cz R).toArray rfl rfl HX0.out (Zcs _ (Zal HOR.out)) (by rw [List.size_toArray, List.size_toArray, Zjb HOL.out, Zjb HOR.out]) (all_oneCell_toArray (Zcm HOR.out)) ?_; intro y10 by12 r12; have qc := Zd (Zd HQ11.out HRX.out Hg11.out) r12 Hg11.out; replace HB0 := Za (HB0.out.step qc); replace HR8 := Za (HR8.out.step qc); replace HLB := Za (HLB.out.step qc); replace HRB := Za (HRB.out.step qc); have HXB := Za by12.kp; clear by12 r12 qc)
   | ((with_reducible refine Zag 11 ?_); refine Zf _ rfl _ _ _ rfl g11 _ (cz L).toArray rfl rfl HZ11.out (Zcs _ (Zal HOL.out)) (Zjk _ (Zal HOL.out)) (all_oneCell_toArray (Zcm HOL.out)) ?_; intro y9 by11 r11; have HX0 := Za by11; have HRX := Za r11; have HLB1 := Za ((HLB.out.step HQ11.out).now.kept r11 (by have := HLB.out.now.lt; have := Hg11.out; omega)); have HRB1 := Za ((HRB.out.step HQ11.out).now.kept r11 (by have := HRB.out.now.lt; have := Hg11.out; omega)); have c9 := HLB1.out.cell 32; simp only [List.getElem?_toArray] at c9; rw [(Zas L HOL.out).1, HK.out] at c9; have m2 : Hid True := trivial; clear by11 r11)
   | (go_at_call 132; refine (HFI.out _).mono ?_; rintro e y11 ⟨K, hKf, rfl, q11⟩; replace HB0 := Za (HB0.out.step q11); replace HR8 := Za (HR8.out.step q11); replace HLB := Za (HLB.out.step q11); replace HRB := Za (HRB.out.step q11); replace HXB := Za (HXB.out.step q11); have HKF := Za hKf; have HKZ : Hid ((B K).size = 32) := (by show (B K).size = 32; rw [Zj]; exact hKf.1.1); clear q11 hKf))
  have HSZL : Hid (∀ w', Below y13.heap.size y13 w' → w'.cell? ⟨g9, 34, none⟩ = some (.int .i64 (L.sz : Int))) := Zli HLB.out (Zas L HOL.out).2.2.1
  have HSZR : Hid (∀ w', Below y13.heap.size y13 w' → w'.cell? ⟨g10, 34, none⟩ = some (.int .i64 (R.sz : Int))) := Zli HRB.out (Zas R HOR.out).2.2.1
  have HKR : Hid (∀ w', Below y13.heap.size y13 w' → w'.rangeAt g12 0 (B K).toList) := fun w' hb => (HKB.out w' hb).range
  have HBL : Hid (∀ w', Below y13.heap.size y13 w' → Below w.heap.size w w') := HB0.out
  have HS0 : Hid (Below y13.heap.size y13 y13.drew) := below_drewN (Below.refl _ _) 1
  have HBU := Za (Zrd D K (L.sz + R.sz) d l r HD32.out (by have := HKZ.out; rwa [Zj] at this))
  have HTI : Hid (Th (cz (inC D K (L.sz + R.sz) d l r))) := Zal ⟨HD32.out, HDB.out, HKF.out.1, none, 0, rfl⟩
  refine Zy (S := fun w' => Below y13.heap.size y13 w') 17 (by kernel_rfl) (HS0.out) (fun hHeld => ?_)
  refine tlp 0 (.pointer (some ⟨g, 0, none⟩)) hHeld ?_
  simp only [zq]
  refine tlp 1 (.int .i64 (l : Int)) hHeld ?_
  simp only [zq]
  refine tlp 3 (.pointer (some ⟨g, 0, none⟩)) hHeld ?_
  simp only [zq]
  refine tlp 4 (.int .i64 (r : Int)) hHeld ?_
  simp only [zq]
  refine tlp 7 (.pointer (some ⟨g9, 34, none⟩)) hHeld ?_
  simp only [zq]
  refine Zi (i := 8) (v := .int .i64 (L.sz : Int)) rfl (by kernel_rfl) (by kernel_rfl) (by kernel_rfl) (by kernel_rfl) (by kernel_rfl) (fun _ _ _ h => h) (Or.inl ⟨by rfl, fun w hS => by (have q1 := HSZL.out _ hS; go_simp)⟩) hHeld ?_
  simp only [zq]
  refine tlp 9 (.pointer (some ⟨g10, 34, none⟩)) hHeld ?_
  simp only [zq]
  refine Zi (i := 10) (v := .int .i64 (R.sz : Int)) rfl (by kernel_rfl) (by kernel_rfl) (by kernel_rfl) (by kernel_rfl) (by kernel_rfl) (fun _ _ _ h => h) (Or.inl ⟨by rfl, fun w hS => by (have q1 := HSZR.out _ hS; go_simp)⟩) hHeld ?_
  simp only [zq]
  refine Zi (i := 11) (v := .int .i64 ((L.sz + R.sz : Nat) : Int)) rfl (by kernel_rfl) (by kernel_rfl) (by kernel_rfl) (by kernel_rfl) (by kernel_rfl) (fun _ _ _ h => h) (Or.inl ⟨by rfl, fun w hS => by (go_simp; exact HWS.out)⟩) hHeld ?_
  simp only [zq]
  refine Zi (i := 12) (v := .agg (B K)) rfl (by kernel_rfl) (by kernel_rfl) (by kernel_rfl) (by kernel_rfl) (by kernel_rfl) (fun _ _ _ h => h) (yieldsIf_load_mid rfl 31 (.tmp 12) rfl g12 (0) rfl (B K).toList _ (fun w hS => HKR.out _ hS) Tryz.underlying31 rfl (by rw [Array.length_toList, HKZ.out]; exact Zk)) hHeld ?_
  simp only [zq]
  refine tlp 13 (.int .i64 (d : Int)) hHeld ?_
  simp only [zq]
  refine tlp 14 (.int .i64 (l : Int)) hHeld ?_
  simp only [zq]
  refine tlp 15 (.int .i64 (r : Int)) hHeld ?_
  simp only [zq]
  refine Zac (i := 2) rfl (by kernel_rfl) (fun KQ hK => ?_)
  go_simp
  refine (HDL.out _ (HBL.out _ hHeld)).mono ?_
  rintro e z1 ⟨rfl, a1⟩
  refine hK.out _ _ (Zb hHeld a1) (fun hHeld => ?_)
  clear hK KQ
  refine Zac (i := 5) rfl (by kernel_rfl) (fun KQ hK => ?_)
  go_simp
  refine (HDR.out _ (HBL.out _ hHeld)).mono ?_
  rintro e z2 ⟨rfl, a2⟩
  refine hK.out _ _ (Zb hHeld a2) (fun hHeld => ?_)
  clear hK KQ
  refine Zac (i := 6) rfl (by kernel_rfl) (fun KQ hK => ?_)
  go_simp
  refine (HIN.out _ (HBL.out _ hHeld)).mono ?_
  rintro e z3 ⟨rfl, a3⟩
  refine hK.out _ _ (Zb hHeld a3) (fun hHeld => ?_)
  clear hK KQ
  refine Zi (i := 16) (v := .agg (cz (inC D K (L.sz + R.sz) d l r)).toArray) rfl (by kernel_rfl) (by kernel_rfl) (by kernel_rfl) (by kernel_rfl) (by kernel_rfl) (fun _ _ _ h => h) (Or.inl ⟨by rfl, fun w hS => Zbv _ _ 65 _ (by rfl) _ (by rw [List.map_toArray]; exact HBU.out) w⟩) hHeld ?_
  simp only [zq]
  refine Zad rfl (by kernel_rfl) (by kernel_rfl) (fun KQ hK => ?_)
  refine Zbq _ rfl _ _ _ rfl g8 _ (cz (inC D K (L.sz + R.sz) d l r)).toArray rfl rfl (HR8.out _ hHeld) (Zcs _ HTI.out) (Zjk _ HTI.out) (all_oneCell_toArray HTI.out.2) ?_
  intro z4 B9 r9
  refine hK.out _ _ ?_
  clear hK KQ
  go_wp2
  exact bodyPost_ret (v := .agg (cz (inC D K (L.sz + R.sz) d l r)).toArray) (results_cell_row rfl _ _ g8 _ _ _ _ rfl B9 Tryz.underlying65 rfl (Zcs _ HTI.out)) rfl ⟨K, HKF.out, rfl, Zd (HBL.out _ hHeld) r9 Hg8.out⟩
 ·have hXe := HXL.out hk
  rw [hXe] at HFI
  rw [hXe]
  obtain ⟨k, hkk⟩ : ∃ k, k = L.kind := ⟨_, rfl⟩
  have HKK := Za hkk
  have hk0 : (k == 0) = false := by simp [hkk, hk]
  clear hk HXL HXR hkk hXe HOX
  go_enter Tryz.func76, Tryz.ntmps76
  go_wp2_with (first
   | ((with_reducible refine Zx 8 ?_); refine Ze _ rfl _ rfl _ Zah ?_; intro y1 g8 hg8 hl8 B8 q1; replace HB0 := Za (HB0.out.step q1); have HR8 := Za B8.kp; have Hg8 := Za hg8; clear hg8 hl8 B8 q1)
   | ((with_reducible refine Zx 9 ?_); refine Ze _ rfl _ rfl _ Zah ?_; intro y4 g9 hg9 hl9 bz9 q4; have Hg9 := Za hg9; have HQ9 := Za q4; have HZ9 := Za bz9; have Hl9 := Za hl9; clear hg9 hl9 bz9 q4)
   | ((with_reducible refine Zx 10 ?_); refine Ze _ rfl _ rfl _ Zah ?_; intro y5 g10 hg10 hl10 bz10 q5; have Hg10 := Za hg10; have HZ10 := Za bz10; have HZ9' := Za (HZ9.out.grow q5); have hne : g10 ≠ g9 := (by have := Hl9.out; omega); have HQ10 := Za q5; clear hg10 hl10 bz10 q5)
   | ((with_reducible refine Zag 9 ?_); refine Zf _ rfl _ _ _ rfl g9 _ (cz L).toArray rfl rfl HZ9'.out (Zcs _ (Zal HOL.out)) (Zjk _ (Zal HOL.out)) (all_oneCell_toArray (Zcm HOL.out)) ?_; intro y6 by9 r9; have HY9 := Za by9; have HZ10' := Za (HZ10.out.kept r9 hne); have HR9 := Za r9; clear by9 r9)
   | ((with_reducible refine Zag 10 ?_); refine Zf _ rfl _ _ _ rfl g10 _ (cz R).toArray rfl rfl HZ10'.out (Zcs _ (Zal HOR.out)) (Zjk _ (Zal HOR.out)) (all_oneCell_toArray (Zcm HOR.out)) ?_; intro y7 by10 r10; have HLB := Za (HY9.out.kept r10 hne.symm).kp; have HRB := Za by10.kp; have q9 := HQ9.out; have q10 := HQ10.out; have qa := Zd (Zb q9 q10) HR9.out Hg9.out; have qb := Zd qa r10 (by have := Hg10.out; have := q9.size; omega); replace HB0 := Za (HB0.out.step qb); replace HR8 := Za (HR8.out.step qb); clear by10 r10 q9 q10 qa qb)
   | ((with_reducible refine Zl 20 9 ?_); refine wpList_load_mid rfl _ _ rfl g9 0 rfl (cz L) _ HLB.out.now.range Tryz.underlying65 rfl (Zcs _ (Zal HOL.out)) ?_)
   | ((with_reducible refine Zx 11 ?_); refine Ze _ rfl _ rfl _ Zah ?_; intro y8 g11 hg11 hl11 bz11 q8; have Hg11 := Za hg11; have HZ11 := Za bz11; have HQ11 := Za q8; clear hg11 hl11 bz11 q8)
   | ((with_reducible refine Zl 27 26 ?_); refine wpList_load_mid rfl _ _ rfl g11 35 rfl (L.key.map (Value.int .u8)) _ ((Ybp L HOL.out).range HXB.out.now) Tryz.underlying31 rfl (Zka HOL.out) ?_)
   | ((with_reducible refine Zx 12 ?_); refine Ze _ rfl _ rfl _ Zca ?_; intro y12 g12 hg12 hl12 bz12 q12; have Hg12 := Za hg12; have HZ12 := Za bz12; have HQ12 := Za q12; clear hg12 hl12 bz12 q12)
   | ((with_reducible refine Zag 12 ?_); refine Zf _ rfl _ _ _ rfl g12 _ (B K) rfl rfl HZ12.out (by rw [HKZ.out]; exact Zk) (by rw [HKZ.out, Zj]; simp) (Zaw _) ?_; intro y13 by12 r12; have qd := Zd HQ12.out r12 Hg12.out; replace HB0 := Za (HB0.out.step qd); replace HR8 := Za (HR8.out.step qd); replace HLB := Za (HLB.out.step qd); replace HRB := Za (HRB.out.step qd); replace HXB := Za (HXB.out.step qd); have HKB := Za by12.kp; clear by12 r12 qd)
   | (go_at_call 75; have mk := m1; clear mk; refine (HAR.out _ HB0.out.now).mono ?_; rintro e y3 ⟨rfl, q3⟩; replace HB0 := Za (HB0.out.step q3); replace HR8 := Za (HR8.out.step q3); clear q3)
   | (go_at_call 75; refine (HAL.out _ HB0.out.now).mono ?_; rintro e y2 ⟨rfl, q2⟩; replace HB0 := Za (HB0.out.step q2); replace HR8 := Za (HR8.out.step q2); have m1 : Hid True := trivial; clear q2)
   | ((with_reducible refine Zag 11 ?_); refine Zf _ rfl _ _ _ rfl g11 _ (cz L).toArray rfl rfl HZ11.out (Zcs _ (Zal HOL.out)) (Zjk _ (Zal HOL.out)) (all_oneCell_toArray (Zcm HOL.out)) ?_; intro y9 by11 r11; have qc := Zd HQ11.out r11 Hg11.out; replace HB0 := Za (HB0.out.step qc); replace HR8 := Za (HR8.out.step qc); replace HLB := Za (HLB.out.step qc); replace HRB := Za (HRB.out.step qc); have HXB := Za by11.kp; have c9 := HLB.out.now.cell 32; simp only [List.getElem?_toArray] at c9; rw [(Zas L HOL.out).1, ← HKK.out] at c9; clear by11 r11 qc)
   | (go_at_call 132; refine (HFI.out _).mono ?_; rintro e y11 ⟨K, hKf, rfl, q11⟩; replace HB0 := Za (HB0.out.step q11); replace HR8 := Za (HR8.out.step q11); replace HLB := Za (HLB.out.step q11); replace HRB := Za (HRB.out.step q11); replace HXB := Za (HXB.out.step q11); have HKF := Za hKf; have HKZ : Hid ((B K).size = 32) := (by show (B K).size = 32; rw [Zj]; exact hKf.1.1); clear q11 hKf))
  have HSZL : Hid (∀ w', Below y13.heap.size y13 w' → w'.cell? ⟨g9, 34, none⟩ = some (.int .i64 (L.sz : Int))) := Zli HLB.out (Zas L HOL.out).2.2.1
  have HSZR : Hid (∀ w', Below y13.heap.size y13 w' → w'.cell? ⟨g10, 34, none⟩ = some (.int .i64 (R.sz : Int))) := Zli HRB.out (Zas R HOR.out).2.2.1
  have HKR : Hid (∀ w', Below y13.heap.size y13 w' → w'.rangeAt g12 0 (B K).toList) := fun w' hb => (HKB.out w' hb).range
  have HBL : Hid (∀ w', Below y13.heap.size y13 w' → Below w.heap.size w w') := HB0.out
  have HS0 : Hid (Below y13.heap.size y13 y13.drew) := below_drewN (Below.refl _ _) 1
  have HBU := Za (Zrd D K (L.sz + R.sz) d l r HD32.out (by have := HKZ.out; rwa [Zj] at this))
  have HTI : Hid (Th (cz (inC D K (L.sz + R.sz) d l r))) := Zal ⟨HD32.out, HDB.out, HKF.out.1, none, 0, rfl⟩
  refine Zy (S := fun w' => Below y13.heap.size y13 w') 17 (by kernel_rfl) (HS0.out) (fun hHeld => ?_)
  refine tlp 0 (.pointer (some ⟨g, 0, none⟩)) hHeld ?_
  simp only [zq]
  refine tlp 1 (.int .i64 (l : Int)) hHeld ?_
  simp only [zq]
  refine tlp 3 (.pointer (some ⟨g, 0, none⟩)) hHeld ?_
  simp only [zq]
  refine tlp 4 (.int .i64 (r : Int)) hHeld ?_
  simp only [zq]
  refine tlp 7 (.pointer (some ⟨g9, 34, none⟩)) hHeld ?_
  simp only [zq]
  refine Zi (i := 8) (v := .int .i64 (L.sz : Int)) rfl (by kernel_rfl) (by kernel_rfl) (by kernel_rfl) (by kernel_rfl) (by kernel_rfl) (fun _ _ _ h => h) (Or.inl ⟨by rfl, fun w hS => by (have q1 := HSZL.out _ hS; go_simp)⟩) hHeld ?_
  simp only [zq]
  refine tlp 9 (.pointer (some ⟨g10, 34, none⟩)) hHeld ?_
  simp only [zq]
  refine Zi (i := 10) (v := .int .i64 (R.sz : Int)) rfl (by kernel_rfl) (by kernel_rfl) (by kernel_rfl) (by kernel_rfl) (by kernel_rfl) (fun _ _ _ h => h) (Or.inl ⟨by rfl, fun w hS => by (have q1 := HSZR.out _ hS; go_simp)⟩) hHeld ?_
  simp only [zq]
  refine Zi (i := 11) (v := .int .i64 ((L.sz + R.sz : Nat) : Int)) rfl (by kernel_rfl) (by kernel_rfl) (by kernel_rfl) (by kernel_rfl) (by kernel_rfl) (fun _ _ _ h => h) (Or.inl ⟨by rfl, fun w hS => by (go_simp; exact HWS.out)⟩) hHeld ?_
  simp only [zq]
  refine Zi (i := 12) (v := .agg (B K)) rfl (by kernel_rfl) (by kernel_rfl) (by kernel_rfl) (by kernel_rfl) (by kernel_rfl) (fun _ _ _ h => h) (yieldsIf_load_mid rfl 31 (.tmp 12) rfl g12 (0) rfl (B K).toList _ (fun w hS => HKR.out _ hS) Tryz.underlying31 rfl (by rw [Array.length_toList, HKZ.out]; exact Zk)) hHeld ?_
  simp only [zq]
  refine tlp 13 (.int .i64 (d : Int)) hHeld ?_
  simp only [zq]
  refine tlp 14 (.int .i64 (l : Int)) hHeld ?_
  simp only [zq]
  refine tlp 15 (.int .i64 (r : Int)) hHeld ?_
  simp only [zq]
  refine Zac (i := 2) rfl (by kernel_rfl) (fun KQ hK => ?_)
  go_simp
  refine (HDL.out _ (HBL.out _ hHeld)).mono ?_
  rintro e z1 ⟨rfl, a1⟩
  refine hK.out _ _ (Zb hHeld a1) (fun hHeld => ?_)
  clear hK KQ
  refine Zac (i := 5) rfl (by kernel_rfl) (fun KQ hK => ?_)
  go_simp
  refine (HDR.out _ (HBL.out _ hHeld)).mono ?_
  rintro e z2 ⟨rfl, a2⟩
  refine hK.out _ _ (Zb hHeld a2) (fun hHeld => ?_)
  clear hK KQ
  refine Zac (i := 6) rfl (by kernel_rfl) (fun KQ hK => ?_)
  go_simp
  refine (HIN.out _ (HBL.out _ hHeld)).mono ?_
  rintro e z3 ⟨rfl, a3⟩
  refine hK.out _ _ (Zb hHeld a3) (fun hHeld => ?_)
  clear hK KQ
  refine Zi (i := 16) (v := .agg (cz (inC D K (L.sz + R.sz) d l r)).toArray) rfl (by kernel_rfl) (by kernel_rfl) (by kernel_rfl) (by kernel_rfl) (by kernel_rfl) (fun _ _ _ h => h) (Or.inl ⟨by rfl, fun w hS => Zbv _ _ 65 _ (by rfl) _ (by rw [List.map_toArray]; exact HBU.out) w⟩) hHeld ?_
  simp only [zq]
  refine Zad rfl (by kernel_rfl) (by kernel_rfl) (fun KQ hK => ?_)
  refine Zbq _ rfl _ _ _ rfl g8 _ (cz (inC D K (L.sz + R.sz) d l r)).toArray rfl rfl (HR8.out _ hHeld) (Zcs _ HTI.out) (Zjk _ HTI.out) (all_oneCell_toArray HTI.out.2) ?_
  intro z4 B9 r9
  refine hK.out _ _ ?_
  clear hK KQ
  go_wp2
  exact bodyPost_ret (v := .agg (cz (inC D K (L.sz + R.sz) d l r)).toArray) (results_cell_row rfl _ _ g8 _ _ _ _ rfl B9 Tryz.underlying65 rfl (Zcs _ HTI.out)) rfl ⟨K, HKF.out, rfl, Zd (HBL.out _ hHeld) r9 Hg8.out⟩
theorem Zps {w : World} {g gs : Nat} {vp vf : Value} {room : Nat} {cs : List (Nat × Ce)} {fr : List Nat} (s : Stm w g gs vp vf room cs fr) (x : Ce) (hx : CeOk x) (hf : ¬ Full room cs fr) : Calls Tryz.prog 65 #[.pointer (some ⟨gs, 0, none⟩), .agg (cz x).toArray] w fun e w' => e = .returned (.tuple #[.int .i64 (tkH cs fr : Int), .int .i64 0]) ∧ TurnC w gs (slB gs vp vf) room ((tkC cs fr (1, x)).map pl) fr.dropLast w' := by
 rcases Zes cs fr with ⟨q, fr0, rfl, e1, e2⟩ | ⟨rfl, e1, e2⟩
 ·rw [e1, e2, List.dropLast_concat, ← map_set]
  exact Zru gs vp vf room _ fr0 q (cz x) (Zal hx) w s.sl
 ·rw [e1, e2, ← Zqn]
  have hl : (cs.map pl).length < room := by
   have := s.sl.inv.len
   rw [List.length_map] at this ⊢
   apply Nat.lt_of_not_le
   intro h
   exact hf ⟨rfl, h⟩
  have := Ztt gs vp vf room _ (cz x) (Zal hx) w s.sl hl
  rw [List.length_map] at this
  exact this
theorem Zly {w : World} {g gs : Nat} {vp vf : Value} {room : Nat} {cs : List (Nat × Ce)} {fr : List Nat} (s : Stm w g gs vp vf room cs fr) (x : Ce) (hx : CeOk x) (hf : Full room cs fr) : Calls Tryz.prog 65 #[.pointer (some ⟨gs, 0, none⟩), .agg (cz x).toArray] w fun e w' => e = .returned (.tuple #[.int .i64 0, .int .i64 9]) ∧ Below w.heap.size w w' := by
 obtain ⟨rfl, h⟩ := hf
 have := s.sl.inv.len
 rw [List.length_map] at this
 exact Zrt gs vp vf room _ (cz x) (Zal hx) w s.sl (by rw [List.length_map]; omega)
theorem Znb {w0 w w' : World} {g gs : Nat} {vp vf : Value} {room : Nat} {cs : List (Nat × Ce)} {fr : List Nat} {x : Ce} {sp : List Int} (hb : Below w0.heap.size w0 w) (s : Stm w g gs vp vf room cs fr) (t : TurnC w gs (slB gs vp vf) room ((tkC cs fr (1, x)).map pl) fr.dropLast w') (ho : Own w0.heap.size w x.val x.bs sp) : STurn w0 g gs (stB g gs vp vf cs) room (tkC cs fr (1, x)) fr.dropLast w' := by
 obtain ⟨_, tk⟩ := Zgi (Zdg s.sl.inv) (1, x)
 refine s.turn hb t (fun i => ?_) (fun i k hk => ?_)
 ·rw [tk.ce]
  split
  ·exact ⟨sp, ho.mono (Nat.zero_le _)⟩
  ·exact s.vals i
 ·rw [tk.ce] at hk
  split at hk
  ·exact .inr (ho.lt k hk).1
  ·exact .inl ⟨i, hk⟩
theorem Zib (a : Option Addr) (n k : Nat) : (Value.slice a n k).cells = #[Value.slice a n k] := rfl
theorem Yex {w : World} {g gs : Nat} {vp vf : Value} {room : Nat} {cs : List (Nat × Ce)} {fr : List Nat} (s : Stm w g gs vp vf room cs fr) (K : List Int) (v : Value) (bs : List Int) (hr : Reads w v bs) (hK : Key K) (hL : Laid w) (hl : bs.length ≤ 1024) (hf : Full room cs fr) : Calls Tryz.prog 23 #[.pointer (some ⟨g, 0, none⟩), .agg (B K), v] w fun e w' => e = .returned (.tuple #[.int .i64 0, .int .i64 9]) ∧ Below w.heap.size w w' := by
 have HS : Hid (∀ w', Below w.heap.size w w' → Stm w' g gs vp vf room cs fr) := fun w' hb => s.grow hb
 have HE : Hid (∀ w', Below w.heap.size w w' → Calls Tryz.prog 64 #[.agg (B K), v] w' fun e w'' => e = .returned (.tuple #[.agg (B (lfD K (vaD bs))), .int .i64 0]) ∧ Below w'.heap.size w' w'') := fun w' hb => Ziz K v bs w' hK.1 hK.2 (hr.grow hb) (hL.grow hb) hl
 have HR : Hid (∀ w', Below w.heap.size w w' → Reads w' v bs) := fun w' hb => hr.grow hb
 have HKK := Za hK
 have HKZ : Hid ((B K).size = 32) := by show (B K).size = 32; rw [Zj]; exact hK.1
 have hD32 : (lfD K (vaD bs)).length = 32 := Zn _
 have hDb : Bytes (lfD K (vaD bs)) := Zaj _
 generalize lfD K (vaD bs) = D at *
 have HDZ : Hid ((B D).size = 32) := by show _ = _; rw [Zj]; exact hD32
 have HD := Za hD32
 have HDb := Za hDb
 have HLE := Za hl
 have HF := Za hf
 clear s hr hL hl hK hD32 hDb hf
 go_enter Tryz.func23, Tryz.ntmps23
 go_wp2_with (first
  | ((with_reducible refine Zo 4 ?_); refine Zc _ rfl _ _ rfl _ rfl ?_; intro w1 b4 hg4 hl4 B4 b1; have HB4 := Za B4; have Hg4 := Za hg4; have c0 := (HS.out _ b1).c0; clear hg4 hl4 B4)
  | (go_at_call 63; refine (Zbc g _ c0).mono ?_; rintro e w' ⟨rfl, hx⟩; rw [hx]; clear hx w')
  | ((with_reducible refine Zl 14 4 ?_); refine Zh _ rfl _ _ rfl b4 _ rfl HB4.out _ _ Tryz.underlying31 (by rw [HKZ.out]; exact Zk) ?_)
  | (go_at_call 64; refine (HE.out _ b1).mono ?_; rintro e w2 ⟨rfl, b2⟩; have Hb2 := Za (Zb b1 b2); have HB4' := Za (HB4.out.grow b2); clear b2)
  | ((with_reducible refine Zx 8 ?_); refine Ze _ rfl _ rfl _ Zaq ?_; intro w3 b8 hg8 hl8 B8 b3; have HB8 := Za B8; have Hg8 := Za hg8; have Hb3 := Za b3; have HB4n := Za (HB4'.out.grow b3); have hne : b4 ≠ b8 := (by have := HB4'.out.lt; omega); clear hg8 hl8 B8 b3)
  | ((with_reducible refine Zag 8 ?_); refine Zf _ rfl _ _ _ rfl b8 _ (B D) rfl rfl HB8.out (by rw [HDZ.out]; exact Zv) (by rw [HDZ.out, Zj]; simp) (Zaw _) ?_; intro w4 B9 r9; have HB9 := Za B9; have HB4m := Za (HB4n.out.kept r9 hne); have Hb4 := Za (Zd (Zb Hb2.out Hb3.out) r9 (by have := Hg8.out; have := Hb2.out.size; omega)); clear B9 r9))
 have HBd : Hid (Below w.heap.size w w4.drew) := below_drewN Hb4.out 1
 have hnS : ∀ k, w.heap.size ≤ k → k ∉ stB g gs vp vf cs := fun k hk e => by
  have := (HS.out w (Below.refl _ _)).lts k e
  omega
 have HnS := Za hnS
 have Hn4 : Hid (w.heap.size ≤ b4) := Hg4.out
 have Hn8 : Hid (w.heap.size ≤ b8) := by
  show _ ≤ _
  have := Hg8.out
  have := Hb2.out.size
  omega
 clear hnS
 have HS0 : Hid (w4.drew.cell? ⟨g, 1, none⟩ = some (.pointer (some ⟨gs, 0, none⟩)) ∧ w4.drew.rangeAt b8 0 (B D).toList ∧ w4.drew.rangeAt b4 0 (B K).toList) := ⟨(HS.out _ HBd.out).c1, HB9.out.drew.range, HB4m.out.drew.range⟩
 refine wp_region_held_drew (S := fun w' => w'.cell? ⟨g, 1, none⟩ = some (.pointer (some ⟨gs, 0, none⟩)) ∧ w'.rangeAt b8 0 (B D).toList ∧ w'.rangeAt b4 0 (B K).toList) (by kernel_rfl) (HS0.out) (fun hHeld => ?_)
 refine tkp 0 (.pointer (some ⟨g, 0, none⟩)) hHeld ?_
 simp only [zq]
 refine tkp 1 (.pointer (some ⟨g, 0, none⟩)) hHeld ?_
 simp only [zq]
 refine tkp 2 (.pointer (some ⟨g, 1, none⟩)) hHeld ?_
 simp only [zq]
 refine tkg 3 (.pointer (some ⟨gs, 0, none⟩)) rfl (Or.inl ⟨by rfl, fun w hS => by (have q1 := hS.1; go_simp)⟩) hHeld ?_
 simp only [zq]
 refine tkg 4 (.agg (B D)) rfl (yieldsIf_load_mid rfl 62 (.tmp 8) rfl b8 0 rfl (B D).toList _ (fun w hS => hS.2.1) Tryz.underlying62 rfl (by rw [Array.length_toList, HDZ.out]; exact Zv)) hHeld ?_
 simp only [zq]
 refine tkg 5 (.agg (B K)) rfl (yieldsIf_load_mid rfl 31 (.tmp 4) rfl b4 0 rfl (B K).toList _ (fun w hS => hS.2.2) Tryz.underlying31 rfl (by rw [Array.length_toList, HKZ.out]; exact Zk)) hHeld ?_
 simp only [zq]
 refine tkp 6 v hHeld ?_
 simp only [zq]
 refine wpAnyH_ready (rs := [7]) (by kernel_rfl) (by simp) ?_
 refine AllReadyH.cons rfl (fun KQ hK => ?_) AllReadyH.nil
 go_simp
 refine (Zjc v bs _ (HR.out _ HBd.out) (by have := HLE.out; omega)).mono ?_
 rintro e z1 ⟨v', sp, rfl, o1, a1⟩
 have Ho := Za o1
 have Ha := Za a1
 obtain ⟨va, vk, rfl⟩ := Own.slice o1
 clear o1 a1
 refine hK.out _ _ (⟨(HS.out _ (Zb HBd.out Ha.out)).c1, ((HB9.out.drew).grow Ha.out).range, ((HB4m.out.drew).grow Ha.out).range⟩) (fun hHeld => ?_)
 clear hK KQ
 have HBU := Za (Zrc D K (.slice va bs.length vk) bs HD.out HKK.out.1 (Zib _ _ _))
 have HOx : Hid (CeOk (lfC D K (.slice va bs.length vk) bs)) := ⟨HD.out, HDb.out, HKK.out, va, vk, rfl⟩
 refine tkg 8 (.agg (cz (lfC D K (.slice va bs.length vk) bs)).toArray) rfl (Or.inl ⟨by rfl, fun w hS => Zbv _ _ 65 _ (by rfl) _ (by rw [List.map_toArray]; exact HBU.out) w⟩) hHeld ?_
 simp only [zq]
 refine wpAnyH_ready (rs := [9]) (by kernel_rfl) (by simp) ?_
 refine AllReadyH.cons rfl (fun KQ hK => ?_) AllReadyH.nil
 go_simp
 refine (Zly (HS.out _ (Zb HBd.out Ha.out)) _ HOx.out HF.out).mono ?_
 rintro e z2 ⟨rfl, a2⟩
 have Ha2 := Za (Zb Ha.out a2)
 clear a2
 refine hK.out _ _ (⟨(HS.out _ (Zb HBd.out Ha2.out)).c1, ((HB9.out.drew).grow Ha2.out).range, ((HB4m.out.drew).grow Ha2.out).range⟩) (fun hHeld => ?_)
 clear hK KQ
 refine tkp 10 (.int .i64 0) hHeld ?_
 simp only [zq]
 refine tkp 11 (.int .i64 9) hHeld ?_
 simp only [zq]
 refine wpAnyH_ready (rs := [12]) (by kernel_rfl) (by simp) ?_
 refine AllReadyH.cons rfl (fun KQ hK => ?_) AllReadyH.nil
 go_simp
 refine hK.out _ _ (hHeld) (fun hHeld => ?_)
 clear hK KQ
 refine wpAnyH_ready (rs := [13]) (by kernel_rfl) (by simp) ?_
 refine AllReadyH.cons rfl (fun KQ hK => ?_) AllReadyH.nil
 go_simp
 refine hK.out _ _ (hHeld) (fun hHeld => ?_)
 clear hK KQ
 refine wpAnyH_done (by kernel_rfl) ?_ _
 go_wp2
 go_ret2
 exact ⟨rfl, Zb HBd.out Ha2.out⟩
theorem Zzx {w : World} {g gs : Nat} {vp vf : Value} {room : Nat} {cs : List (Nat × Ce)} {fr : List Nat} (s : Stm w g gs vp vf room cs fr) (K : List Int) (v : Value) (bs : List Int) (hr : Reads w v bs) (hK : Key K) (hL : Laid w) (hl : bs.length ≤ 1024) (hf : ¬ Full room cs fr) : Calls Tryz.prog 23 #[.pointer (some ⟨g, 0, none⟩), .agg (B K), v] w fun e w' => ∃ v', e = .returned (.tuple #[.int .i64 (tkH cs fr : Int), .int .i64 0]) ∧ CeOk (lfC (lfD K (vaD bs)) K v' bs) ∧ STurn w g gs (stB g gs vp vf cs) room (tkC cs fr (1, lfC (lfD K (vaD bs)) K v' bs)) fr.dropLast w' := by
 have HS : Hid (∀ w', Below w.heap.size w w' → Stm w' g gs vp vf room cs fr) := fun w' hb => s.grow hb
 have HE : Hid (∀ w', Below w.heap.size w w' → Calls Tryz.prog 64 #[.agg (B K), v] w' fun e w'' => e = .returned (.tuple #[.agg (B (lfD K (vaD bs))), .int .i64 0]) ∧ Below w'.heap.size w' w'') := fun w' hb => Ziz K v bs w' hK.1 hK.2 (hr.grow hb) (hL.grow hb) hl
 have HR : Hid (∀ w', Below w.heap.size w w' → Reads w' v bs) := fun w' hb => hr.grow hb
 have HKK := Za hK
 have HKZ : Hid ((B K).size = 32) := by show (B K).size = 32; rw [Zj]; exact hK.1
 have hD32 : (lfD K (vaD bs)).length = 32 := Zn _
 have hDb : Bytes (lfD K (vaD bs)) := Zaj _
 generalize lfD K (vaD bs) = D at *
 have HDZ : Hid ((B D).size = 32) := by show _ = _; rw [Zj]; exact hD32
 have HD := Za hD32
 have HDb := Za hDb
 have HLE := Za hl
 have HF := Za hf
 clear s hr hL hl hK hD32 hDb hf
 go_enter Tryz.func23, Tryz.ntmps23
 go_wp2_with (first
  | ((with_reducible refine Zo 4 ?_); refine Zc _ rfl _ _ rfl _ rfl ?_; intro w1 b4 hg4 hl4 B4 b1; have HB4 := Za B4; have Hg4 := Za hg4; have c0 := (HS.out _ b1).c0; clear hg4 hl4 B4)
  | (go_at_call 63; refine (Zbc g _ c0).mono ?_; rintro e w' ⟨rfl, hx⟩; rw [hx]; clear hx w')
  | ((with_reducible refine Zl 14 4 ?_); refine Zh _ rfl _ _ rfl b4 _ rfl HB4.out _ _ Tryz.underlying31 (by rw [HKZ.out]; exact Zk) ?_)
  | (go_at_call 64; refine (HE.out _ b1).mono ?_; rintro e w2 ⟨rfl, b2⟩; have Hb2 := Za (Zb b1 b2); have HB4' := Za (HB4.out.grow b2); clear b2)
  | ((with_reducible refine Zx 8 ?_); refine Ze _ rfl _ rfl _ Zaq ?_; intro w3 b8 hg8 hl8 B8 b3; have HB8 := Za B8; have Hg8 := Za hg8; have Hb3 := Za b3; have HB4n := Za (HB4'.out.grow b3); have hne : b4 ≠ b8 := (by have := HB4'.out.lt; omega); clear hg8 hl8 B8 b3)
  | ((with_reducible refine Zag 8 ?_); refine Zf _ rfl _ _ _ rfl b8 _ (B D) rfl rfl HB8.out (by rw [HDZ.out]; exact Zv) (by rw [HDZ.out, Zj]; simp) (Zaw _) ?_; intro w4 B9 r9; have HB9 := Za B9; have HB4m := Za (HB4n.out.kept r9 hne); have Hb4 := Za (Zd (Zb Hb2.out Hb3.out) r9 (by have := Hg8.out; have := Hb2.out.size; omega)); clear B9 r9))
 have HBd : Hid (Below w.heap.size w w4.drew) := below_drewN Hb4.out 1
 have hnS : ∀ k, w.heap.size ≤ k → k ∉ stB g gs vp vf cs := fun k hk e => by
  have := (HS.out w (Below.refl _ _)).lts k e
  omega
 have HnS := Za hnS
 have Hn4 : Hid (w.heap.size ≤ b4) := Hg4.out
 have Hn8 : Hid (w.heap.size ≤ b8) := by
  show _ ≤ _
  have := Hg8.out
  have := Hb2.out.size
  omega
 clear hnS
 have HS0 : Hid (w4.drew.cell? ⟨g, 1, none⟩ = some (.pointer (some ⟨gs, 0, none⟩)) ∧ w4.drew.rangeAt b8 0 (B D).toList ∧ w4.drew.rangeAt b4 0 (B K).toList) := ⟨(HS.out _ HBd.out).c1, HB9.out.drew.range, HB4m.out.drew.range⟩
 refine wp_region_held_drew (S := fun w' => w'.cell? ⟨g, 1, none⟩ = some (.pointer (some ⟨gs, 0, none⟩)) ∧ w'.rangeAt b8 0 (B D).toList ∧ w'.rangeAt b4 0 (B K).toList) (by kernel_rfl) (HS0.out) (fun hHeld => ?_)
 refine tkp 0 (.pointer (some ⟨g, 0, none⟩)) hHeld ?_
 simp only [zq]
 refine tkp 1 (.pointer (some ⟨g, 0, none⟩)) hHeld ?_
 simp only [zq]
 refine tkp 2 (.pointer (some ⟨g, 1, none⟩)) hHeld ?_
 simp only [zq]
 refine tkg 3 (.pointer (some ⟨gs, 0, none⟩)) rfl (Or.inl ⟨by rfl, fun w hS => by (have q1 := hS.1; go_simp)⟩) hHeld ?_
 simp only [zq]
 refine tkg 4 (.agg (B D)) rfl (yieldsIf_load_mid rfl 62 (.tmp 8) rfl b8 0 rfl (B D).toList _ (fun w hS => hS.2.1) Tryz.underlying62 rfl (by rw [Array.length_toList, HDZ.out]; exact Zv)) hHeld ?_
 simp only [zq]
 refine tkg 5 (.agg (B K)) rfl (yieldsIf_load_mid rfl 31 (.tmp 4) rfl b4 0 rfl (B K).toList _ (fun w hS => hS.2.2) Tryz.underlying31 rfl (by rw [Array.length_toList, HKZ.out]; exact Zk)) hHeld ?_
 simp only [zq]
 refine tkp 6 v hHeld ?_
 simp only [zq]
 refine wpAnyH_ready (rs := [7]) (by kernel_rfl) (by simp) ?_
 refine AllReadyH.cons rfl (fun KQ hK => ?_) AllReadyH.nil
 go_simp
 refine (Zjc v bs _ (HR.out _ HBd.out) (by have := HLE.out; omega)).mono ?_
 rintro e z1 ⟨v', sp, rfl, o1, a1⟩
 have Ho := Za o1
 have Ha := Za a1
 obtain ⟨va, vk, rfl⟩ := Own.slice o1
 clear o1 a1
 refine hK.out _ _ (⟨(HS.out _ (Zb HBd.out Ha.out)).c1, ((HB9.out.drew).grow Ha.out).range, ((HB4m.out.drew).grow Ha.out).range⟩) (fun hHeld => ?_)
 clear hK KQ
 have HBU := Za (Zrc D K (.slice va bs.length vk) bs HD.out HKK.out.1 (Zib _ _ _))
 have HOx : Hid (CeOk (lfC D K (.slice va bs.length vk) bs)) := ⟨HD.out, HDb.out, HKK.out, va, vk, rfl⟩
 refine tkg 8 (.agg (cz (lfC D K (.slice va bs.length vk) bs)).toArray) rfl (Or.inl ⟨by rfl, fun w hS => Zbv _ _ 65 _ (by rfl) _ (by rw [List.map_toArray]; exact HBU.out) w⟩) hHeld ?_
 simp only [zq]
 refine wpAnyH_ready (rs := [9]) (by kernel_rfl) (by simp) ?_
 refine AllReadyH.cons rfl (fun KQ hK => ?_) AllReadyH.nil
 go_simp
 refine (Zps (HS.out _ (Zb HBd.out Ha.out)) _ HOx.out HF.out).mono ?_
 rintro e z2 ⟨rfl, t2⟩
 have ht : STurn w g gs (stB g gs vp vf cs) room (tkC cs fr (1, lfC D K (.slice va bs.length vk) bs)) fr.dropLast z2 := Znb (Zb HBd.out Ha.out) (HS.out _ (Zb HBd.out Ha.out)) t2 (Ho.out.mono HBd.out.size)
 have HT := Za ht
 have Hm2 : Hid (Mod (slB gs vp vf) z1 z2) := (by obtain ⟨_, _, _, m, _⟩ := t2; exact m)
 clear t2 ht
 refine hK.out _ _ (⟨by obtain ⟨_, _, h1, _, _⟩ := HT.out; exact h1.c1, (((HB9.out.drew).grow Ha.out).mod Hm2.out (fun e => HnS.out _ Hn8.out (Zco.2 (.inr (.inl e))))).range, (((HB4m.out.drew).grow Ha.out).mod Hm2.out (fun e => HnS.out _ Hn4.out (Zco.2 (.inr (.inl e))))).range⟩) (fun hHeld => ?_)
 clear hK KQ
 refine tkp 10 (.int .i64 (tkH cs fr : Int)) hHeld ?_
 simp only [zq]
 refine tkp 11 (.int .i64 0) hHeld ?_
 simp only [zq]
 refine wpAnyH_ready (rs := [12]) (by kernel_rfl) (by simp) ?_
 refine AllReadyH.cons rfl (fun KQ hK => ?_) AllReadyH.nil
 go_simp
 refine hK.out _ _ (hHeld) (fun hHeld => ?_)
 clear hK KQ
 refine wpAnyH_ready (rs := [13]) (by kernel_rfl) (by simp) ?_
 refine AllReadyH.cons rfl (fun KQ hK => ?_) AllReadyH.nil
 go_simp
 refine hK.out _ _ (hHeld) (fun hHeld => ?_)
 clear hK KQ
 refine wpAnyH_done (by kernel_rfl) ?_ _
 go_wp2
 go_ret2
 exact ⟨.slice va bs.length vk, rfl, HOx.out, HT.out⟩
end Go.Proofs.YtbkolhhgajkjjaaGreatDoor
