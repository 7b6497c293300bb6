/- The document's Cost: its walk. -/
import Derived.Test.YtbkolhhgajkjjaaGreatDoorPo45
namespace Go.Proofs.YtbkolhhgajkjjaaGreatDoor
set_option maxHeartbeats 4000000
set_option maxRecDepth 20000
open Go.RowKit
theorem Ydf {w : World} {q : Nat} {rt : Int} {K : List Int} {u : Value} {wn : Nat} {fi : Int}
  (HPS : Hid ((Tryz.prog.info? 31).map (·.size) = some (B K).size)) (hwn : wn ≤ 256)
  (HWR : Hid (∀ w', Below w.heap.size w w' → Calls Tryz.prog 114 #[.pointer (some ⟨q, 0, none⟩), .int .i64 rt, u] w' fun e w'' => e = .returned (.int .i64 0) ∧ Below w'.heap.size w' w''))
  (HWY : Hid (∀ w', Below w.heap.size w w' → Calls Tryz.prog 52 #[.pointer (some ⟨q, 0, none⟩), .int .i64 rt, .agg (B K)] w' fun e w'' => ∃ a c, e = .returned (.tuple #[.slice a wn c, .int .i64 fi]) ∧ Below w'.heap.size w' w''))
  (HTH : Hid (∀ w', Below w.heap.size w w' → Calls Tryz.prog 115 #[.pointer (some ⟨q, 0, none⟩), .int .i64 fi, .agg (B K), u] w' fun e w'' => e = .returned (.bool true) ∧ Below w'.heap.size w' w'')) : Calls Tryz.prog 44 #[.pointer (some ⟨q, 0, none⟩), .int .i64 rt, .agg (B K), u] w fun e w' => e = .returned (.tuple #[.int .i64 0, .int .i64 0]) ∧ Below w.heap.size w w' := by
 have HPL : Hid ((Tryz.prog.info? 31).map (·.size) = some (B K).toList.length) := by show _ = _; rw [Array.length_toList]; exact HPS.out
 have hw1 : wrap64 (1 + (wn : Int)) = 1 + (wn : Int) := Go.IntWalk.wrap64_in _ (by omega)
 clear HPL hw1 hwn
 go_enter Tryz.func44, Tryz.ntmps44
 go_wp2_with (first
  | ((with_reducible refine Zo 6 ?_); refine Zc _ rfl _ _ rfl _ rfl ?_; intro w1 b6 hg6 hl6 B6 q6; have HB1 := Za B6; have HQ1 := Za q6; clear hg6 hl6 B6 q6)
  | (go_at_call 114; refine (HWR.out _ HQ1.out).mono ?_; rintro e w2 ⟨rfl, b2⟩; have HQ2 := Za (Zb HQ1.out b2); have HB2 := Za (HB1.out.grow b2); clear b2)
  | ((with_reducible refine Zl 24 6 ?_); refine Zh _ rfl _ _ rfl b6 _ rfl HB2.out _ _ Tryz.underlying31 HPS.out ?_)
  | (go_at_call 52; refine (HWY.out _ HQ2.out).mono ?_; rintro e w4 ⟨wa, wc, rfl, b4⟩; have HQ4 := Za (Zb HQ2.out b4); have HB4 := Za (HB2.out.grow b4); clear b4)
  | ((with_reducible refine Zl 30 6 ?_); refine Zh _ rfl _ _ rfl b6 _ rfl HB4.out _ _ Tryz.underlying31 HPS.out ?_)
  | (go_at_call 115; refine (HTH.out _ HQ4.out).mono ?_; rintro e w5 ⟨rfl, b5⟩; have HQ5 := Za (Zb HQ4.out b5); have HB5 := Za (HB4.out.grow b5); clear b5))
 go_ret2
 exact ⟨rfl, HQ5.out⟩
theorem Zzi {w : World} {q : Nat} {rt : Int} {K : List Int} {u : Value} {wn : Nat} {fi : Int}
  (HPS : Hid ((Tryz.prog.info? 31).map (·.size) = some (B K).size)) (hwn : wn ≤ 256)
  (HWR : Hid (∀ w', Below w.heap.size w w' → Calls Tryz.prog 114 #[.pointer (some ⟨q, 0, none⟩), .int .i64 rt, u] w' fun e w'' => e = .returned (.int .i64 0) ∧ Below w'.heap.size w' w''))
  (HWY : Hid (∀ w', Below w.heap.size w w' → Calls Tryz.prog 52 #[.pointer (some ⟨q, 0, none⟩), .int .i64 rt, .agg (B K)] w' fun e w'' => ∃ a c, e = .returned (.tuple #[.slice a wn c, .int .i64 fi]) ∧ Below w'.heap.size w' w''))
  (HTH : Hid (∀ w', Below w.heap.size w w' → Calls Tryz.prog 115 #[.pointer (some ⟨q, 0, none⟩), .int .i64 fi, .agg (B K), u] w' fun e w'' => e = .returned (.bool false) ∧ Below w'.heap.size w' w''))
  (HKD : Hid (∀ w', Below w.heap.size w w' → Calls Tryz.prog 54 #[.pointer (some ⟨q, 0, none⟩), .int .i64 fi] w' fun e w'' => e = .returned (.int .u8 0) ∧ Below w'.heap.size w' w'')) : Calls Tryz.prog 44 #[.pointer (some ⟨q, 0, none⟩), .int .i64 rt, .agg (B K), u] w fun e w' => e = .returned (.tuple #[.int .i64 ((1 + wn : Nat) : Int), .int .i64 0]) ∧ Below w.heap.size w w' := by
 have HPL : Hid ((Tryz.prog.info? 31).map (·.size) = some (B K).toList.length) := by show _ = _; rw [Array.length_toList]; exact HPS.out
 have hw1 : wrap64 (1 + (wn : Int)) = 1 + (wn : Int) := Go.IntWalk.wrap64_in _ (by omega)
 go_enter Tryz.func44, Tryz.ntmps44
 go_wp2_with (first
  | ((with_reducible refine Zo 6 ?_); refine Zc _ rfl _ _ rfl _ rfl ?_; intro w1 b6 hg6 hl6 B6 q6; have HB1 := Za B6; have HQ1 := Za q6; clear hg6 hl6 B6 q6)
  | (go_at_call 114; refine (HWR.out _ HQ1.out).mono ?_; rintro e w2 ⟨rfl, b2⟩; have HQ2 := Za (Zb HQ1.out b2); have HB2 := Za (HB1.out.grow b2); clear b2)
  | ((with_reducible refine Zl 24 6 ?_); refine Zh _ rfl _ _ rfl b6 _ rfl HB2.out _ _ Tryz.underlying31 HPS.out ?_)
  | (go_at_call 52; refine (HWY.out _ HQ2.out).mono ?_; rintro e w4 ⟨wa, wc, rfl, b4⟩; have HQ4 := Za (Zb HQ2.out b4); have HB4 := Za (HB2.out.grow b4); clear b4)
  | ((with_reducible refine Zl 30 6 ?_); refine Zh _ rfl _ _ rfl b6 _ rfl HB4.out _ _ Tryz.underlying31 HPS.out ?_)
  | (go_at_call 115; refine (HTH.out _ HQ4.out).mono ?_; rintro e w5 ⟨rfl, b5⟩; have HQ5 := Za (Zb HQ4.out b5); have HB5 := Za (HB4.out.grow b5); clear b5))
 clear HWR HWY HTH HB1 HB2 HB4 HQ1 HQ2 HQ4
 refine wp_region_held_drew (S := fun w' => Below w5.heap.size w5 w') (by kernel_rfl) (below_drewN (Below.refl _ _) 1) (fun hHeld => ?_)
 refine tkp 0 (.pointer (some ⟨q, 0, none⟩)) hHeld ?_
 simp only [zq]
 refine tkp 1 (.int .i64 fi) hHeld ?_
 simp only [zq]
 refine wpAnyH_ready (rs := [2]) (by kernel_rfl) (by simp) ?_
 refine AllReadyH.cons rfl (fun KQ hK => ?_) AllReadyH.nil
 go_simp
 refine (HKD.out _ (Zb HQ5.out hHeld)).mono ?_
 rintro e z1 ⟨rfl, a1⟩
 refine hK.out _ _ (Zb hHeld a1) (fun hHeld => ?_)
 clear hK KQ
 refine tkp 3 (.bool false) hHeld ?_
 simp only [zq]
 refine tkp 4 (.bool false) hHeld ?_
 simp only [zq]
 refine tks 5 hHeld ?_
 simp only [zq]
 refine tks 6 hHeld ?_
 simp only [zq]
 refine tks 7 hHeld ?_
 simp only [zq]
 refine tks 8 hHeld ?_
 simp only [zq]
 refine tks 9 hHeld ?_
 simp only [zq]
 refine tkp 10 (.bool false) hHeld ?_
 simp only [zq]
 refine wpAnyH_done (by kernel_rfl) ?_ _
 have HH := Za hHeld
 clear hHeld
 go_wp2_with fail
 go_ret2
 exact ⟨by rfl, Zb HQ5.out HH.out⟩
theorem Zzh {w : World} {q : Nat} {rt : Int} {K : List Int} {u : Value} {wn : Nat} {fi : Int}
  (HPS : Hid ((Tryz.prog.info? 31).map (·.size) = some (B K).size)) (hwn : wn ≤ 256)
  (HWR : Hid (∀ w', Below w.heap.size w w' → Calls Tryz.prog 114 #[.pointer (some ⟨q, 0, none⟩), .int .i64 rt, u] w' fun e w'' => e = .returned (.int .i64 0) ∧ Below w'.heap.size w' w''))
  (HWY : Hid (∀ w', Below w.heap.size w w' → Calls Tryz.prog 52 #[.pointer (some ⟨q, 0, none⟩), .int .i64 rt, .agg (B K)] w' fun e w'' => ∃ a c, e = .returned (.tuple #[.slice a wn c, .int .i64 fi]) ∧ Below w'.heap.size w' w''))
  (HTH : Hid (∀ w', Below w.heap.size w w' → Calls Tryz.prog 115 #[.pointer (some ⟨q, 0, none⟩), .int .i64 fi, .agg (B K), u] w' fun e w'' => e = .returned (.bool false) ∧ Below w'.heap.size w' w''))
  (HKD : Hid (∀ w', Below w.heap.size w w' → Calls Tryz.prog 54 #[.pointer (some ⟨q, 0, none⟩), .int .i64 fi] w' fun e w'' => e = .returned (.int .u8 1) ∧ Below w'.heap.size w' w'')) (HKY : Hid (∀ w', Below w.heap.size w w' → Calls Tryz.prog 97 #[.pointer (some ⟨q, 0, none⟩), .int .i64 fi] w' fun e w'' => e = .returned (.agg (B K)) ∧ Below w'.heap.size w' w'')) (hEK : ∀ w, (Op.equalIn 10000 31 (.agg (B K)) (.agg (B K))).run Tryz.prog w = .ok true w) : Calls Tryz.prog 44 #[.pointer (some ⟨q, 0, none⟩), .int .i64 rt, .agg (B K), u] w fun e w' => e = .returned (.tuple #[.int .i64 ((1 + wn : Nat) : Int), .int .i64 0]) ∧ Below w.heap.size w w' := by
 have HPL : Hid ((Tryz.prog.info? 31).map (·.size) = some (B K).toList.length) := by show _ = _; rw [Array.length_toList]; exact HPS.out
 have hw1 : wrap64 (1 + (wn : Int)) = 1 + (wn : Int) := Go.IntWalk.wrap64_in _ (by omega)
 go_enter Tryz.func44, Tryz.ntmps44
 go_wp2_with (first
  | ((with_reducible refine Zo 6 ?_); refine Zc _ rfl _ _ rfl _ rfl ?_; intro w1 b6 hg6 hl6 B6 q6; have HB1 := Za B6; have HQ1 := Za q6; clear hg6 hl6 B6 q6)
  | (go_at_call 114; refine (HWR.out _ HQ1.out).mono ?_; rintro e w2 ⟨rfl, b2⟩; have HQ2 := Za (Zb HQ1.out b2); have HB2 := Za (HB1.out.grow b2); clear b2)
  | ((with_reducible refine Zl 24 6 ?_); refine Zh _ rfl _ _ rfl b6 _ rfl HB2.out _ _ Tryz.underlying31 HPS.out ?_)
  | (go_at_call 52; refine (HWY.out _ HQ2.out).mono ?_; rintro e w4 ⟨wa, wc, rfl, b4⟩; have HQ4 := Za (Zb HQ2.out b4); have HB4 := Za (HB2.out.grow b4); clear b4)
  | ((with_reducible refine Zl 30 6 ?_); refine Zh _ rfl _ _ rfl b6 _ rfl HB4.out _ _ Tryz.underlying31 HPS.out ?_)
  | (go_at_call 115; refine (HTH.out _ HQ4.out).mono ?_; rintro e w5 ⟨rfl, b5⟩; have HQ5 := Za (Zb HQ4.out b5); have HB5 := Za (HB4.out.grow b5); clear b5))
 clear HWR HWY HTH HB1 HB2 HB4 HQ1 HQ2 HQ4
 refine wp_region_held_drew (S := fun w' => Below w5.heap.size w5 w') (by kernel_rfl) (below_drewN (Below.refl _ _) 1) (fun hHeld => ?_)
 refine tkp 0 (.pointer (some ⟨q, 0, none⟩)) hHeld ?_
 simp only [zq]
 refine tkp 1 (.int .i64 fi) hHeld ?_
 simp only [zq]
 refine wpAnyH_ready (rs := [2]) (by kernel_rfl) (by simp) ?_
 refine AllReadyH.cons rfl (fun KQ hK => ?_) AllReadyH.nil
 go_simp
 refine (HKD.out _ (Zb HQ5.out hHeld)).mono ?_
 rintro e z1 ⟨rfl, a1⟩
 refine hK.out _ _ (Zb hHeld a1) (fun hHeld => ?_)
 clear hK KQ
 refine tkp 3 (.bool true) hHeld ?_
 simp only [zq]
 refine tkp 4 (.bool true) hHeld ?_
 simp only [zq]
 refine tkp 5 (.pointer (some ⟨q, 0, none⟩)) hHeld ?_
 simp only [zq]
 refine tkp 6 (.int .i64 fi) hHeld ?_
 simp only [zq]
 refine tkg 8 (.agg (B K)) rfl (yieldsIf_load_mid rfl 31 (.tmp 6) rfl b6 0 rfl (B K).toList _ (fun w hS => (HB5.out.grow hS).range) Tryz.underlying31 rfl HPL.out) hHeld ?_
 simp only [zq]
 refine wpAnyH_ready (rs := [7]) (by kernel_rfl) (by simp) ?_
 refine AllReadyH.cons rfl (fun KQ hK => ?_) AllReadyH.nil
 go_simp
 refine (HKY.out _ (Zb HQ5.out hHeld)).mono ?_
 rintro e z2 ⟨rfl, a2⟩
 refine hK.out _ _ (Zb hHeld a2) (fun hHeld => ?_)
 clear hK KQ
 refine tkp 9 (.bool false) hHeld ?_
 simp only [zq]
 refine tkp 10 (.bool false) hHeld ?_
 simp only [zq]
 refine wpAnyH_done (by kernel_rfl) ?_ _
 have HH := Za hHeld
 clear hHeld
 go_wp2_with fail
 go_ret2
 exact ⟨by rfl, Zb HQ5.out HH.out⟩
theorem Ydg {w : World} {q : Nat} {rt : Int} {K : List Int} {u : Value} {wn : Nat} {fi : Int}
  (HPS : Hid ((Tryz.prog.info? 31).map (·.size) = some (B K).size)) (hwn : wn ≤ 256)
  (HWR : Hid (∀ w', Below w.heap.size w w' → Calls Tryz.prog 114 #[.pointer (some ⟨q, 0, none⟩), .int .i64 rt, u] w' fun e w'' => e = .returned (.int .i64 0) ∧ Below w'.heap.size w' w''))
  (HWY : Hid (∀ w', Below w.heap.size w w' → Calls Tryz.prog 52 #[.pointer (some ⟨q, 0, none⟩), .int .i64 rt, .agg (B K)] w' fun e w'' => ∃ a c, e = .returned (.tuple #[.slice a wn c, .int .i64 fi]) ∧ Below w'.heap.size w' w''))
  (HTH : Hid (∀ w', Below w.heap.size w w' → Calls Tryz.prog 115 #[.pointer (some ⟨q, 0, none⟩), .int .i64 fi, .agg (B K), u] w' fun e w'' => e = .returned (.bool false) ∧ Below w'.heap.size w' w''))
  (HKD : Hid (∀ w', Below w.heap.size w w' → Calls Tryz.prog 54 #[.pointer (some ⟨q, 0, none⟩), .int .i64 fi] w' fun e w'' => e = .returned (.int .u8 1) ∧ Below w'.heap.size w' w'')) {ky : List Int} {c : Nat} (hc : wn ≤ c ∧ c < 256) (HKY : Hid (∀ w', Below w.heap.size w w' → Calls Tryz.prog 97 #[.pointer (some ⟨q, 0, none⟩), .int .i64 fi] w' fun e w'' => e = .returned (.agg (B ky)) ∧ Below w'.heap.size w' w'')) (HCM : Hid (∀ w', Calls Tryz.prog 116 #[.agg (B K), .agg (B ky)] w' fun e w'' => e = .returned (.int .i64 (c : Int)) ∧ Below w'.heap.size w' w'')) (hEK : ∀ w, (Op.equalIn 10000 31 (.agg (B ky)) (.agg (B K))).run Tryz.prog w = .ok false w) : Calls Tryz.prog 44 #[.pointer (some ⟨q, 0, none⟩), .int .i64 rt, .agg (B K), u] w fun e w' => e = .returned (.tuple #[.int .i64 ((1 + (c + 1) : Nat) : Int), .int .i64 0]) ∧ Below w.heap.size w w' := by
 have HPL : Hid ((Tryz.prog.info? 31).map (·.size) = some (B K).toList.length) := by show _ = _; rw [Array.length_toList]; exact HPS.out
 have hw1 : wrap64 (1 + (wn : Int)) = 1 + (wn : Int) := Go.IntWalk.wrap64_in _ (by omega)
 obtain ⟨hc1, hc2⟩ := hc
 have hw2 : IntKind.i64.wrap (1 + (wn : Int) + (c : Int)) = 1 + (wn : Int) + (c : Int) := (Go.IntWalk.i64_left _).trans (Go.IntWalk.wrap64_in _ (by omega))
 have hw3 : IntKind.i64.wrap (1 + (wn : Int) + (c : Int) - (wn : Int)) = 1 + (c : Int) := (Go.IntWalk.i64_left _).trans ((Go.IntWalk.wrap64_in _ (by omega)).trans (by omega))
 have hw4 : IntKind.i64.wrap (1 + (c : Int) + 1) = ((1 + (c + 1) : Nat) : Int) := (Go.IntWalk.i64_left _).trans ((Go.IntWalk.wrap64_in _ (by omega)).trans (by omega))
 go_enter Tryz.func44, Tryz.ntmps44
 go_wp2_with (first
  | ((with_reducible refine Zo 6 ?_); refine Zc _ rfl _ _ rfl _ rfl ?_; intro w1 b6 hg6 hl6 B6 q6; have HB1 := Za B6; have HQ1 := Za q6; clear hg6 hl6 B6 q6)
  | (go_at_call 114; refine (HWR.out _ HQ1.out).mono ?_; rintro e w2 ⟨rfl, b2⟩; have HQ2 := Za (Zb HQ1.out b2); have HB2 := Za (HB1.out.grow b2); clear b2)
  | ((with_reducible refine Zl 24 6 ?_); refine Zh _ rfl _ _ rfl b6 _ rfl HB2.out _ _ Tryz.underlying31 HPS.out ?_)
  | (go_at_call 52; refine (HWY.out _ HQ2.out).mono ?_; rintro e w4 ⟨wa, wc, rfl, b4⟩; have HQ4 := Za (Zb HQ2.out b4); have HB4 := Za (HB2.out.grow b4); clear b4)
  | ((with_reducible refine Zl 30 6 ?_); refine Zh _ rfl _ _ rfl b6 _ rfl HB4.out _ _ Tryz.underlying31 HPS.out ?_)
  | (go_at_call 115; refine (HTH.out _ HQ4.out).mono ?_; rintro e w5 ⟨rfl, b5⟩; have HQ5 := Za (Zb HQ4.out b5); have HB5 := Za (HB4.out.grow b5); clear b5))
 clear HWR HWY HTH HB1 HB2 HB4 HQ1 HQ2 HQ4
 refine wp_region_held_drew (S := fun w' => Below w5.heap.size w5 w') (by kernel_rfl) (below_drewN (Below.refl _ _) 1) (fun hHeld => ?_)
 refine tkp 0 (.pointer (some ⟨q, 0, none⟩)) hHeld ?_
 simp only [zq]
 refine tkp 1 (.int .i64 fi) hHeld ?_
 simp only [zq]
 refine wpAnyH_ready (rs := [2]) (by kernel_rfl) (by simp) ?_
 refine AllReadyH.cons rfl (fun KQ hK => ?_) AllReadyH.nil
 go_simp
 refine (HKD.out _ (Zb HQ5.out hHeld)).mono ?_
 rintro e z1 ⟨rfl, a1⟩
 refine hK.out _ _ (Zb hHeld a1) (fun hHeld => ?_)
 clear hK KQ
 refine tkp 3 (.bool true) hHeld ?_
 simp only [zq]
 refine tkp 4 (.bool true) hHeld ?_
 simp only [zq]
 refine tkp 5 (.pointer (some ⟨q, 0, none⟩)) hHeld ?_
 simp only [zq]
 refine tkp 6 (.int .i64 fi) hHeld ?_
 simp only [zq]
 refine tkg 8 (.agg (B K)) rfl (yieldsIf_load_mid rfl 31 (.tmp 6) rfl b6 0 rfl (B K).toList _ (fun w hS => (HB5.out.grow hS).range) Tryz.underlying31 rfl HPL.out) hHeld ?_
 simp only [zq]
 refine wpAnyH_ready (rs := [7]) (by kernel_rfl) (by simp) ?_
 refine AllReadyH.cons rfl (fun KQ hK => ?_) AllReadyH.nil
 go_simp
 refine (HKY.out _ (Zb HQ5.out hHeld)).mono ?_
 rintro e z2 ⟨rfl, a2⟩
 refine hK.out _ _ (Zb hHeld a2) (fun hHeld => ?_)
 clear hK KQ
 refine tkp 9 (.bool true) hHeld ?_
 simp only [zq]
 refine tkp 10 (.bool true) hHeld ?_
 simp only [zq]
 refine wpAnyH_done (by kernel_rfl) ?_ _
 have HH := Za hHeld
 clear hHeld
 go_wp2_with fail
 refine wp_region_held_drew (S := fun w' => Below w5.heap.size w5 w') (by kernel_rfl) (Zb HH.out (below_drewN (Below.refl _ _) 1)) (fun hHeld => ?_)
 refine tkp 0 (.int .i64 (1 + (wn : Int))) hHeld ?_
 simp only [zq]
 refine tkg 1 (.agg (B K)) rfl (yieldsIf_load_mid rfl 31 (.tmp 6) rfl b6 0 rfl (B K).toList _ (fun w hS => (HB5.out.grow hS).range) Tryz.underlying31 rfl HPL.out) hHeld ?_
 simp only [zq]
 refine tkp 2 (.pointer (some ⟨q, 0, none⟩)) hHeld ?_
 simp only [zq]
 refine tkp 3 (.int .i64 fi) hHeld ?_
 simp only [zq]
 refine tkp 7 (.slice wa wn wc) hHeld ?_
 simp only [zq]
 refine tkp 8 (.int .i64 (wn : Int)) hHeld ?_
 simp only [zq]
 refine wpAnyH_ready (rs := [4]) (by kernel_rfl) (by simp) ?_
 refine AllReadyH.cons rfl (fun KQ hK => ?_) AllReadyH.nil
 go_simp
 refine (HKY.out _ (Zb HQ5.out hHeld)).mono ?_
 rintro e z3 ⟨rfl, a3⟩
 refine hK.out _ _ (Zb hHeld a3) (fun hHeld => ?_)
 clear hK KQ
 refine wpAnyH_ready (rs := [5]) (by kernel_rfl) (by simp) ?_
 refine AllReadyH.cons rfl (fun KQ hK => ?_) AllReadyH.nil
 go_simp
 refine (HCM.out _).mono ?_
 rintro e z4 ⟨rfl, a4⟩
 refine hK.out _ _ (Zb hHeld a4) (fun hHeld => ?_)
 clear hK KQ
 refine tkp 6 (.int .i64 (1 + (wn : Int) + (c : Int))) hHeld ?_
 simp only [zq]
 refine tkp 9 (.int .i64 (1 + (c : Int))) hHeld ?_
 simp only [zq]
 refine tkp 10 (.int .i64 ((1 + (c + 1) : Nat) : Int)) hHeld ?_
 simp only [zq]
 refine tkp 11 (.int .i64 ((1 + (c + 1) : Nat) : Int)) hHeld ?_
 simp only [zq]
 refine wpAnyH_done (by kernel_rfl) ?_ _
 go_wp2_with fail
 go_ret2
 exact ⟨rfl, Zb HQ5.out hHeld⟩
theorem Zvf {w0 w : World} {S0 : List Nat} {q room : Nat} {cs : List (Nat × Ce)} {fr : List Nat} (V : Hr w0 S0 w q room cs fr) (h : Int) (K : List Int) (u : Value) (bs : List Int) (hu : Reads w u bs) (e0 : Int) (he : vRf true (cot cs h) (cat cs h) h bs.length = e0) (h0 : e0 ≠ 0) : Calls Tryz.prog 44 #[.pointer (some ⟨q, 0, none⟩), .int .i64 h, .agg (B K), u] w fun e w' => e = .returned (.tuple #[.int .i64 0, .int .i64 e0]) ∧ Below w.heap.size w w' := by
 obtain ⟨a, c, rfl, _⟩ := hu
 have HRF : Hid (∀ w', Below w.heap.size w w' → Calls Tryz.prog 114 #[.pointer (some ⟨q, 0, none⟩), .int .i64 h, .slice a bs.length c] w' fun e w'' => e = .returned (.int .i64 e0) ∧ Below w'.heap.size w' w'') := fun w' hb => by
  have := Zgo (V.grow hb) h a bs.length c
  rwa [he] at this
 have hb0 : (e0 != 0) = true := by simpa using h0
 generalize bs.length = n at HRF ⊢
 clear V he h0
 go_enter Tryz.func44, Tryz.ntmps44
 go_wp2_with (first
  | ((with_reducible refine Zo 6 ?_); refine Zc _ rfl _ _ rfl _ rfl ?_; intro w1 b5 hg5 hl5 B5 q5; have HQ5 := Za q5; clear hg5 hl5 B5 q5)
  | (go_at_call 114; refine (HRF.out _ HQ5.out).mono ?_; rintro e w2 ⟨rfl, b2⟩; have HQ2 := Za (Zb HQ5.out b2); clear b2))
 go_ret2
 exact ⟨rfl, HQ2.out⟩
theorem Zvg {w0 w : World} {S0 : List Nat} {q room : Nat} {cs : List (Nat × Ce)} {fr : List Nat} (V : Hr w0 S0 w q room cs fr) (h5 : room ≤ 5000) {h : Nat} {T : Tre} (r : Rt cs h T) {K : List Int} (hK : Key K) {u : Value} {bs : List Int} (hu : Reads w u bs) (hl : bs.length ≤ 1024) {ss : List Nat} (hss : BesIs K T h ss) : Calls Tryz.prog 44 #[.pointer (some ⟨q, 0, none⟩), .int .i64 (h : Int), .agg (B K), u] w fun e w' => e = .returned (.tuple #[.int .i64 (costN T K bs ss : Int), .int .i64 0]) ∧ Below w.heap.size w w' := by
 have W := V.wf
 have hlen := Tre.hs_oth K T h
 have HPS : Hid ((Tryz.prog.info? 31).map (·.size) = some (B K).size) := by show _ = _; rw [Zj, hK.1]; exact Zk
 have HWR : Hid (∀ w', Below w.heap.size w w' → Calls Tryz.prog 114 #[.pointer (some ⟨q, 0, none⟩), .int .i64 (h : Int), u] w' fun e w'' => e = .returned (.int .i64 0) ∧ Below w'.heap.size w' w'') := fun w' hb => by
  obtain ⟨a, c, hue, _⟩ := hu
  have := Zgo (V.grow hb) (h : Int) a bs.length c
  rw [r.refuse hl] at this
  rw [hue]
  exact this
 have HWY : Hid (∀ w', Below w.heap.size w w' → Calls Tryz.prog 52 #[.pointer (some ⟨q, 0, none⟩), .int .i64 (h : Int), .agg (B K)] w' fun e w'' => ∃ a c, e = .returned (.tuple #[.slice a (T.hs K h).length c, .int .i64 (T.fin K h : Int)]) ∧ Below w'.heap.size w' w'') := fun w' hb => (Ycw (V.grow hb) h T r.tree K hK r.dp).mono fun e w'' ⟨a, c, e1, _, b⟩ => ⟨a, c, e1, b⟩
 have HTH := fun w' (hb : Below w.heap.size w w') => Zoh (V.grow hb) h5 (T.fin K h : Int) K hK u bs (hu.grow hb)
 have hwn : (T.hs K h).length ≤ 256 := by
  have := (Zdb W K T h 0 r.tree r.dp (by omega)).2.2
  omega
 by_cases hsm : T.efin K = [(K, bs)]
 ·rw [Zts r.tree hsm] at HTH
  rw [costN, if_pos hsm]
  exact Ydf HPS hwn HWR HWY HTH
 ·rw [Ybn r.tree hsm] at HTH
  rw [costN, if_neg hsm]
  have HKD : Hid (∀ w', Below w.heap.size w w' → Calls Tryz.prog 54 #[.pointer (some ⟨q, 0, none⟩), .int .i64 (T.fin K h : Int)] w' fun e w'' => e = .returned (.int .u8 (cat cs (T.fin K h : Int)).kind) ∧ Below w'.heap.size w' w'') := fun w' hb => Zlk (V.grow hb) _
  have HKY : Hid (∀ w', Below w.heap.size w w' → Calls Tryz.prog 97 #[.pointer (some ⟨q, 0, none⟩), .int .i64 (T.fin K h : Int)] w' fun e w'' => e = .returned (.agg (B (cat cs (T.fin K h : Int)).key)) ∧ Below w'.heap.size w' w'') := fun w' hb => Zwf (V.grow hb) h5 _
  rcases Zep K T h r.tree with ⟨f1, f2⟩ | ⟨k, b, f1, f2, f3, f4, f5, f6⟩
  ·have hsl : ss = T.oth K := by
    rcases hss with ⟨_, e⟩ | ⟨b, e, _⟩ | ⟨k, b, c, e, _⟩
    ·exact e
    ·rw [f2] at e; cases e
    ·rw [f2] at e; cases e
   have hk0 : (cat cs (T.fin K h : Int)).kind = 0 := by rw [f1]; rfl
   rw [hk0] at HKD
   rw [hsl, ← hlen]
   exact Zzi HPS hwn HWR HWY HTH HKD
  ·rw [Zfc f2] at HKD HKY
   rw [f4] at HKD
   rw [f5] at HKY
   rcases hss with ⟨e, _⟩ | ⟨b', e, hs⟩ | ⟨k', b', c, e, e2, e3, e4, e5, hs⟩
   ·rw [f1] at e; cases e
   ·rw [f1] at e
    injection e with e _
    injection e with e _
    subst e
    rw [hs, ← hlen]
    exact Zzh HPS hwn HWR HWY HTH HKD HKY (fun w => by rw [Zdk k k hK.1 hK.1 w, decide_eq_true rfl])
   ·rw [f1] at e
    injection e with e _
    injection e with e _
    subst e
    have hky : Key k := ((Zbj W T h r.tree).ent (k, b) (Zez K T (k, b) (by rw [f1]; simp))).1
    rw [hs, Zeb _ _ _ e4]
    exact Ydg HPS hwn HWR HWY HTH HKD ⟨by omega, e5⟩ HKY (fun w' => Zgr K k c w' hK hky e3) (fun w => by rw [Zdk k K hky.1 hK.1 w, decide_eq_false e2])
def M7 (w0 : World) (S : List Nat) (w : World) (g gs q room : Nat) (cs : List (Nat × Ce)) (fr : List Nat) (ss : List Sp) (fr2 : List Nat) : Prop := ∃ vp vf vp2 vf2, Stm w g gs vp vf room cs fr ∧ Rs w q vp2 vf2 room ss fr2 ∧ (∀ k ∈ stB g gs vp vf cs, k ∉ rsB q vp2 vf2 ss) ∧ Mod S w0 w ∧ New S w0 (stB g gs vp vf cs) ∧ New S w0 (rsB q vp2 vf2 ss)
def P7 (w0 : World) (S : List Nat) (w : World) (g gs q room : Nat) (cs : List (Nat × Ce)) (fr : List Nat) : Prop := ∃ ss, M7 w0 S w g gs q room cs fr ss fr ∧ Rel7 cs [] [] ss ∧ Wf cs []
def Two7 (w0 : World) (S : List Nat) (g gs q room : Nat) (f : FuncId) (args : Array Value) (E : Ending) (cs' : List (Nat × Ce)) (fr' : List Nat) (w' : World) : Prop := ∃ ss fr2, M7 w0 S w' g gs q room cs' fr' ss fr2 ∧ ∀ w'', M7 w0 S w'' g gs q room cs' fr' ss fr2 → Calls Tryz.prog f args w'' fun e w3 => e = E ∧ P7 w0 S w3 g gs q room cs' fr'
section
variable {w0 w : World} {S : List Nat} {g gs q room : Nat} {cs : List (Nat × Ce)} {fr : List Nat} {ss : List Sp} {fr2 : List Nat}
theorem M7.mod (h : M7 w0 S w g gs q room cs fr ss fr2) : Mod S w0 w := by obtain ⟨_, _, _, _, _, _, _, m, _, _⟩ := h; exact m
theorem M7.grow {w' : World} (h : M7 w0 S w g gs q room cs fr ss fr2) (hb : Below w.heap.size w w') : M7 w0 S w' g gs q room cs fr ss fr2 := by
 obtain ⟨vp, vf, vp2, vf2, s, d, ap, m, n1, n2⟩ := h
 exact ⟨vp, vf, vp2, vf2, s.grow hb, d.grow hb, ap, m.trans' (Mod.of_below hb S), n1, n2⟩
theorem M7.inv (h : M7 w0 S w g gs q room cs fr ss fr2) : Inv room (cs.map pl) fr := by
 obtain ⟨vp, vf, vp2, vf2, s, _⟩ := h
 exact s.sl.inv
theorem M7.useS {f : FuncId} {args : Array Value} {P : Ending → List (Nat × Ce) → List Nat → Prop} (h : M7 w0 S w g gs q room cs fr ss fr2) (hW : Wf cs []) (hc : ∀ S', Hs w S' w g gs room cs fr → (∀ P : World → Prop, Kq S w0 P → Kq S' w P) → Calls Tryz.prog f args w fun e w' => ∃ cs' fr', P e cs' fr' ∧ Hs w S' w' g gs room cs' fr') : Calls Tryz.prog f args w fun e w' => ∃ cs' fr', P e cs' fr' ∧ Wf cs' [] ∧ M7 w0 S w' g gs q room cs' fr' ss fr2 := by
 obtain ⟨vp, vf, vp2, vf2, s, d, ap, m, n1, n2⟩ := h
 refine (hc _ (Hs.here s hW) fun P k => k.turn m n1).mono ?_
 rintro e w' ⟨cs', fr', hp, ⟨vp', vf', s', m', n'⟩, W'⟩
 refine ⟨cs', fr', hp, W', vp', vf', vp2, vf2, s', d.mod m' (fun k hk hs => ap k hs hk), fun k hk hk2 => ?_, m.trans n1 m', n1.trans m.size n', n2⟩
 rcases n' k hk with e | e
 ·exact ap k e hk2
 ·have := d.lts k hk2
  omega
theorem M7.useR {f : FuncId} {args : Array Value} {E : Ending} {cs1 : List (Nat × Ce)} (h : M7 w0 S w g gs q room cs fr ss fr2) (R : Rel7 cs1 [] [] ss) (W : Wf cs1 []) (I : Inv room (cs1.map pl) fr2) (W' : Wf cs []) (hc : ∀ S', Hr w S' w q room cs1 fr2 → (∀ P : World → Prop, Kq S w0 P → Kq S' w P) → Calls Tryz.prog f args w fun e w' => e = E ∧ Hr w S' w' q room cs fr) : Calls Tryz.prog f args w fun e w' => e = E ∧ P7 w0 S w' g gs q room cs fr := by
 obtain ⟨vp, vf, vp2, vf2, s, d, ap, m, n1, n2⟩ := h
 refine (hc _ (Hr.here d R W I) fun P k => k.turn m n2).mono ?_
 rintro e w' ⟨e1, ⟨ss', ⟨vp', vf', d', m', n'⟩, R'⟩, _, _⟩
 refine ⟨e1, ss', ⟨vp, vf, vp', vf', s.mod m' (fun k hk => ap k hk), d', fun k hk hk2 => ?_, m.trans n2 m', n1, n2.trans m.size n'⟩, R', W'⟩
 rcases n' k hk2 with e | e
 ·exact ap k hk e
 ·have := s.lts k hk
  omega
theorem P7.grow {w' : World} (h : P7 w0 S w g gs q room cs fr) (hb : Below w.heap.size w w') : P7 w0 S w' g gs q room cs fr := by
 obtain ⟨ss, M, R, W⟩ := h
 exact ⟨ss, M.grow hb, R, W⟩
theorem P7.mod (h : P7 w0 S w g gs q room cs fr) : Mod S w0 w := by obtain ⟨ss, M, R, W⟩ := h; exact M.mod
theorem P7.kq {P : World → Prop} (h : P7 w0 S w g gs q room cs fr) (k : Kq S w0 P) : P w := k w h.mod
theorem P7.wf (h : P7 w0 S w g gs q room cs fr) : Wf cs [] := by obtain ⟨ss, M, R, W⟩ := h; exact W
theorem P7.inv (h : P7 w0 S w g gs q room cs fr) : Inv room (cs.map pl) fr := by obtain ⟨ss, M, R, W⟩ := h; exact M.inv
theorem P7.hs (h : P7 w0 S w g gs q room cs fr) : ∃ S', Hs w S' w g gs room cs fr := by
 obtain ⟨ss, ⟨vp, vf, vp2, vf2, s, _⟩, R, W⟩ := h
 exact ⟨_, Hs.here s W⟩
theorem P7.hr (h : P7 w0 S w g gs q room cs fr) : ∃ S', Hr w S' w q room cs fr := by
 have I := h.inv
 obtain ⟨ss, ⟨vp, vf, vp2, vf2, s, d, _⟩, R, W⟩ := h
 exact ⟨_, Hr.here d R W I⟩
theorem Two7.grow {f : FuncId} {args : Array Value} {E : Ending} {w' : World} (h : Two7 w0 S g gs q room f args E cs fr w) (hb : Below w.heap.size w w') : Two7 w0 S g gs q room f args E cs fr w' := by
 obtain ⟨ss, fr2, M, h⟩ := h
 exact ⟨ss, fr2, M.grow hb, h⟩
theorem Two7.mod {f : FuncId} {args : Array Value} {E : Ending} (h : Two7 w0 S g gs q room f args E cs fr w) : Mod S w0 w := by obtain ⟨ss, fr2, M, h⟩ := h; exact M.mod
theorem Two7.kq {f : FuncId} {args : Array Value} {E : Ending} {P : World → Prop} (h : Two7 w0 S g gs q room f args E cs fr w) (k : Kq S w0 P) : P w := k w h.mod
theorem Two7.go {f : FuncId} {args : Array Value} {E : Ending} (h : Two7 w0 S g gs q room f args E cs fr w) : Calls Tryz.prog f args w fun e w3 => e = E ∧ P7 w0 S w3 g gs q room cs fr := by
 obtain ⟨ss, fr2, M, h⟩ := h
 exact h _ M
theorem P7.two {f f2 : FuncId} {args args2 : Array Value} {Q : Ending → List (Nat × Ce) → List Nat → Prop} (h : P7 w0 S w g gs q room cs fr) (hc : ∀ S', Hs w S' w g gs room cs fr → (∀ P : World → Prop, Kq S w0 P → Kq S' w P) → Calls Tryz.prog f args w fun e w' => ∃ cs' fr', Q e cs' fr' ∧ Hs w S' w' g gs room cs' fr') (hr : ∀ E cs' fr', Q E cs' fr' → ∀ w' S', Hr w' S' w' q room cs fr → Mod S w0 w' → (∀ P : World → Prop, Kq S w0 P → Kq S' w' P) → Calls Tryz.prog f2 args2 w' fun e w'' => e = E ∧ Hr w' S' w'' q room cs' fr') : Calls Tryz.prog f args w fun e w' => ∃ cs' fr', Q e cs' fr' ∧ Two7 w0 S g gs q room f2 args2 e cs' fr' w' := by
 have I := h.inv
 obtain ⟨ss, M, R, W⟩ := h
 refine (M.useS W hc).mono ?_
 rintro e w' ⟨cs', fr', hq, W', M'⟩
 exact ⟨cs', fr', hq, ss, fr, M', fun w'' M2 => M2.useR R W I W' fun S' H hk => hr e cs' fr' hq w'' S' H M2.mod hk⟩
theorem P7.stay {f f2 : FuncId} {args args2 : Array Value} {E : Ending} (h : P7 w0 S w g gs q room cs fr) (hc : ∀ S', Hs w S' w g gs room cs fr → Calls Tryz.prog f args w fun e w' => e = E ∧ Hs w S' w' g gs room cs fr) (hr : ∀ w' S', Hr w' S' w' q room cs fr → Mod S w0 w' → Calls Tryz.prog f2 args2 w' fun e w'' => e = E ∧ Hr w' S' w'' q room cs fr) : Calls Tryz.prog f args w fun e w' => e = E ∧ Two7 w0 S g gs q room f2 args2 E cs fr w' := by
 refine (h.two (f2 := f2) (args2 := args2) (Q := fun e cs' fr' => e = E ∧ cs' = cs ∧ fr' = fr) (fun S' H _ => (hc S' H).mono fun e w' ⟨e1, k⟩ => ⟨cs, fr, ⟨e1, rfl, rfl⟩, k⟩) ?_).mono ?_
 ·rintro _ _ _ ⟨rfl, rfl, rfl⟩ w' S' H m _
  exact hr w' S' H m
 ·rintro e w' ⟨_, _, ⟨rfl, rfl, rfl⟩, t⟩
  exact ⟨rfl, t⟩
theorem Znf (h : Hs w0 S w g gs room cs fr) (i : Nat) (hc : cc cs i = 1073741824) : Calls Tryz.prog 27 #[.pointer (some ⟨g, 0, none⟩), .int .i64 ((i : Int) + 1)] w fun e w' => e = .returned (.int .i64 4) ∧ Hs w0 S w' g gs room cs fr := by
 have hh := h
 obtain ⟨⟨vp, vf, s, m, n⟩, W⟩ := h
 exact (Zso s i hc).mono fun e w' ⟨e1, b⟩ => ⟨e1, b ▸ hh⟩
theorem Zzs {cs : List (Nat × Ce)} (W : Wf cs []) {i : Nat} (hi : 0 < cc cs i) (j : Nat) : Go.Proofs.YtbkolhhgajkjjaaGreatDoor.own (moreC cs i) [] j = Go.Proofs.YtbkolhhgajkjjaaGreatDoor.own cs [] j + (if i = j then 1 else 0) := by
 have := W.le j
 rw [List.count_nil] at this
 unfold Go.Proofs.YtbkolhhgajkjjaaGreatDoor.own
 rw [Zfu hi, Zdz, List.count_nil]
 omega
theorem Yhv (h : P7 w0 S w g gs q room cs fr) (x : Int) : Calls Tryz.prog 27 #[.pointer (some ⟨g, 0, none⟩), .int .i64 x] w fun e w' => ∃ er cs' fr', e = .returned (.int .i64 er) ∧ Two7 w0 S g gs q room 28 #[.pointer (some ⟨q, 0, none⟩), .int .i64 x] (.returned (.int .i64 er)) cs' fr' w' ∧ ∀ j, own cs' [] j ≤ own cs [] j + 1 := by
 have W := h.wf
 by_cases hc : cot cs x = 0
 ·exact (h.stay (fun S' H => Ziu H x hc) (fun w' S' H _ => Zpe H x hc)).mono fun e w' ⟨e1, k⟩ => ⟨7, cs, fr, e1, k, fun j => Nat.le_add_right _ _⟩
 ·obtain ⟨i, rfl, h2, h3, h4⟩ := Zer (cs := cs) (h := x) (by omega)
  have hmo := h.inv.mostC i
  by_cases hl : cc cs i = 1073741824
  ·exact (h.stay (fun S' H => Znf H i hl) (fun w' S' H _ => Zng H i hl)).mono fun e w' ⟨e1, k⟩ => ⟨4, cs, fr, e1, k, fun j => Nat.le_add_right _ _⟩
  ·refine (h.two (f2 := 28) (args2 := #[.pointer (some ⟨q, 0, none⟩), .int .i64 ((i : Int) + 1)]) (Q := fun e cs' fr' => e = .returned (.int .i64 0) ∧ cs' = moreC cs i ∧ fr' = fr) (fun S' H _ => (Zwb H i h2 (by omega)).mono fun e w' ⟨e1, k⟩ => ⟨_, _, ⟨e1, rfl, rfl⟩, k⟩) ?_).mono ?_
   ·rintro _ _ _ ⟨rfl, rfl, rfl⟩ w' S' H _ _
    exact Zwg H i h2 (by omega)
   ·rintro e w' ⟨_, _, ⟨rfl, rfl, rfl⟩, t⟩
    refine ⟨0, _, _, rfl, t, fun j => ?_⟩
    rw [Zzs W h2]
    split <;> omega
theorem Yhy (h : P7 w0 S w g gs q room cs fr) (x : Int) : Calls Tryz.prog 31 #[.pointer (some ⟨g, 0, none⟩), .int .i64 x] w fun e w' => ∃ n er cs' fr', e = .returned (.tuple #[.int .i64 n, .int .i64 er]) ∧ Two7 w0 S g gs q room 32 #[.pointer (some ⟨q, 0, none⟩), .int .i64 x] (.returned (.tuple #[.int .i64 n, .int .i64 er])) cs' fr' w' ∧ ∀ j, own cs' [] j ≤ own cs [] j := by
 have W := h.wf
 by_cases hm : cot cs x ≤ (cat cs x).ab
 ·exact (h.stay (fun S' H => Zhd H x hm) (fun w' S' H _ => Znh H x hm)).mono fun e w' ⟨e1, k⟩ => ⟨0, 7, cs, fr, e1, k, fun j => Nat.le_refl _⟩
 ·obtain ⟨i, rfl, h2, h3, h4⟩ := Zer (cs := cs) (h := x) (by omega)
  rw [h3, h4] at hm
  have ho : 0 < Go.Proofs.YtbkolhhgajkjjaaGreatDoor.own cs [] i := by
   unfold Go.Proofs.YtbkolhhgajkjjaaGreatDoor.own
   rw [List.count_nil]
   omega
  refine (h.two (f2 := 32) (args2 := #[.pointer (some ⟨q, 0, none⟩), .int .i64 ((i : Int) + 1)]) (Q := fun e cs' fr' => ∃ n, Run cs fr [i + 1] cs' fr' n ∧ Step cs [i + 1] cs' [] n ∧ e = .returned (.tuple #[.int .i64 (n : Int), .int .i64 0])) (fun S' H _ => (Zwd H i ho).mono fun e w' ⟨cs', fr', n, r, st, e1, k⟩ => ⟨_, _, ⟨n, r, st, e1⟩, k⟩) ?_).mono ?_
  ·rintro _ cs' fr' ⟨n, r, st, rfl⟩ w' S' H _ _
   exact Zwh H i ho r
  ·rintro e w' ⟨cs', fr', ⟨n, r, st, rfl⟩, t⟩
   refine ⟨n, 0, _, _, rfl, t, fun j => ?_⟩
   rw [st.own j]
   unfold Go.Proofs.YtbkolhhgajkjjaaGreatDoor.own
   rw [List.count_nil]
   omega
end
end Go.Proofs.YtbkolhhgajkjjaaGreatDoor
namespace Go.Proofs.YtbkolhhgajkjjaaGreatDoor
set_option maxHeartbeats 4000000
set_option maxRecDepth 20000
open Go.RowKit
theorem Yib {cs : List (Nat × Ce)} (W : Wf cs []) {x : Int} (h : vAh true (cot cs x) (cat cs x) x = 0) : ∃ (n : Nat) (T : Tre), x = (n : Int) ∧ Rt cs n T := by
 unfold vAh at h
 by_cases hr : vRt true (cot cs x) (cat cs x) x = 0
 ·rw [if_pos hr] at h
  by_cases h0 : x = 0
  ·exact ⟨0, .emp, h0, Rt.zero cs⟩
  ·have hc : cot cs x ≠ 0 := fun e => by
    unfold vRt at hr
    rw [if_pos rfl, if_neg h0, if_pos e] at hr
    omega
   have hab : ¬ (cot cs x - (cat cs x).ab = 0) := fun e => by
    rw [if_pos ⟨h0, e⟩] at h
    omega
   obtain ⟨i, rfl, h2, h3, h4⟩ := Zer (cs := cs) (h := x) (by omega)
   obtain ⟨T, hT⟩ := Znz W i h2
   have hr' : vRt true (cot cs ((i + 1 : Nat) : Int)) (cat cs ((i + 1 : Nat) : Int)) ((i + 1 : Nat) : Int) = 0 := hr
   refine ⟨i + 1, T, rfl, hT, Zux hT hr', .inr ?_⟩
   rw [h3, h4] at hab
   show 0 < Go.Proofs.YtbkolhhgajkjjaaGreatDoor.own cs [] i
   unfold Go.Proofs.YtbkolhhgajkjjaaGreatDoor.own
   rw [List.count_nil]
   omega
 ·rw [if_neg hr] at h
  exact absurd h hr
theorem Yfr {cs : List (Nat × Ce)} (W : Wf cs []) {x : Int} {n : Nat} (h : vRf true (cot cs x) (cat cs x) x n = 0) : n ≤ 1024 ∧ ∃ (k : Nat) (T : Tre), x = (k : Int) ∧ Rt cs k T := by
 unfold vRf at h
 rw [if_pos rfl] at h
 by_cases hn : 1024 < n
 ·rw [if_pos hn] at h
  omega
 ·rw [if_neg hn] at h
  exact ⟨by omega, Yib W h⟩
section
variable {w0 w : World} {S : List Nat} {g gs q room : Nat} {cs : List (Nat × Ce)} {fr : List Nat}
theorem Yho (h : P7 w0 S w g gs q room cs fr) (h5 : room ≤ 5000) (hb : ∀ i, own cs [] i ≤ 1000000) (x : Int) {K : List Int} (hK : Key K) {v v2 : Value} {bs : List Int} (hv : Kq S w0 fun w' => Reads w' v bs) (hv2 : Kq S w0 fun w' => Reads w' v2 bs) (hL : Kq S w0 Laid) : Calls Tryz.prog 45 #[.pointer (some ⟨g, 0, none⟩), .int .i64 x, .agg (B K), v] w fun e w' => ∃ y er cs' fr', e = .returned (.tuple #[.int .i64 y, .int .i64 er]) ∧ Two7 w0 S g gs q room 46 #[.pointer (some ⟨q, 0, none⟩), .int .i64 x, .agg (B K), v2] (.returned (.tuple #[.int .i64 y, .int .i64 er])) cs' fr' w' ∧ ∀ i, own cs' [] i ≤ own cs [] i + 1 := by
 have W := h.wf
 have hln := h.inv.lenC
 have hvw := h.kq hv
 by_cases he : vRf true (cot cs x) (cat cs x) x bs.length = 0
 ·obtain ⟨hl, n, T, rfl, r⟩ := Yfr W he
  by_cases hf : noc cs + 258 ≤ room
  ·by_cases hsm : T.efin K = [(K, bs)]
   ·exact (h.stay (fun S' H => (Zzk H n T r.tree K hK v bs hvw (r.refuse hl) r.root hf hsm).mono fun e w' ⟨e1, b⟩ => ⟨e1, H.grow b⟩) (fun w' S' H m => (Zuu H h5 r hK (hv2 _ m) hl hf hsm).mono fun e w'' ⟨e1, b⟩ => ⟨e1, H.grow b⟩)).mono fun e w' ⟨e1, k⟩ => ⟨_, _, cs, fr, e1, k, fun i => Nat.le_add_right _ _⟩
   ·obtain ⟨ss, hss, hbo⟩ := Yce W K hK r.tree r.dp
    have hct : ∀ i, cc cs i + 257 < 1073741824 := fun i => by
     have := W.ccLe i 1000000 (hb i)
     omega
    refine (h.two (f2 := 46) (args2 := #[.pointer (some ⟨q, 0, none⟩), .int .i64 (n : Int), .agg (B K), v2]) (Q := fun e cs' fr' => ∃ top : Nat, e = .returned (.tuple #[.int .i64 (top : Int), .int .i64 0]) ∧ PutTo cs fr n K bs ss top cs' fr' ∧ PutOk cs T.ents K bs n top ss cs') (fun S' H hk => (Ydj H n T r.tree K hK v bs (hk _ hv) (hk _ hL) (r.refuse hl) hl r.root r.own hf hsm ss hss hbo hct).mono fun e w' ⟨top, cs', fr', e1, p1, p2, k⟩ => ⟨cs', fr', ⟨top, e1, p1, p2⟩, k⟩) ?_).mono ?_
    ·rintro _ cs' fr' ⟨top, rfl, p1, _⟩ w' S' H _ hk
     exact Zzc H h5 r hK (hk _ hv2) hl hct hf hsm hss hbo p1
    ·rintro e w' ⟨cs', fr', ⟨top, rfl, _, p2⟩, t⟩
     refine ⟨_, 0, cs', fr', rfl, t, fun i => ?_⟩
     have := p2.own i
     split at this <;> split at this <;> omega
  ·exact (h.stay (fun S' H => by
    obtain ⟨a, c, e, _⟩ := hvw
    rw [e]
    exact (Zzl H n K a bs.length c he (by omega)).mono fun e w' ⟨e1, b⟩ => ⟨e1, H.grow b⟩) (fun w' S' H m => (Zuv H h5 n K v2 bs (hv2 _ m) he (by omega)).mono fun e w'' ⟨e1, b⟩ => ⟨e1, H.grow b⟩)).mono fun e w' ⟨e1, k⟩ => ⟨_, _, cs, fr, e1, k, fun i => Nat.le_add_right _ _⟩
 ·exact (h.stay (fun S' H => by
   obtain ⟨a, c, e, _⟩ := hvw
   rw [e]
   exact (Ydk H.vw x K a bs.length c _ rfl he).mono fun e w' ⟨e1, b⟩ => ⟨e1, H.grow b⟩) (fun w' S' H m => (Zzd H x K v2 bs (hv2 _ m) _ rfl he).mono fun e w'' ⟨e1, b⟩ => ⟨e1, H.grow b⟩)).mono fun e w' ⟨e1, k⟩ => ⟨_, _, cs, fr, e1, k, fun i => Nat.le_add_right _ _⟩
theorem Ygr (h : P7 w0 S w g gs q room cs fr) (h5 : room ≤ 5000) (hb : ∀ i, own cs [] i ≤ 1000000) (x : Int) {K : List Int} (hK : Key K) {v : Value} {bs : List Int} (hv : Reads w v bs) : ∃ y er : Int, ∀ w', Below w.heap.size w w' → (Calls Tryz.prog 43 #[.pointer (some ⟨g, 0, none⟩), .int .i64 x, .agg (B K), v] w' fun e w'' => e = .returned (.tuple #[.int .i64 y, .int .i64 er]) ∧ Below w'.heap.size w' w'') ∧ Calls Tryz.prog 44 #[.pointer (some ⟨q, 0, none⟩), .int .i64 x, .agg (B K), v] w' fun e w'' => e = .returned (.tuple #[.int .i64 y, .int .i64 er]) ∧ Below w'.heap.size w' w'' := by
 have W := h.wf
 obtain ⟨S1, H⟩ := h.hs
 obtain ⟨S2, V⟩ := h.hr
 by_cases he : vRf true (cot cs x) (cat cs x) x bs.length = 0
 ·obtain ⟨hl, n, T, rfl, r⟩ := Yfr W he
  obtain ⟨ss, hss, hbo⟩ := Yce W K hK r.tree r.dp
  exact ⟨_, _, fun w' hw => ⟨Yaz (H.grow hw) r hK (hv.grow hw) hl hb hss hbo.len, Zvg (V.grow hw) h5 r hK (hv.grow hw) hl hss⟩⟩
 ·refine ⟨_, _, fun w' hw => ⟨?_, Zvf (V.grow hw) x K v bs (hv.grow hw) _ rfl he⟩⟩
  obtain ⟨a, c, e, _⟩ := hv
  rw [e]
  exact Yay (H.vw.grow hw) x K a bs.length c _ rfl he
theorem Ygo (h : P7 w0 S w g gs q room cs fr) (h5 : room ≤ 5000) (j : Int) : ∃ b : Bool, ∀ w', Below w.heap.size w w' → (Calls Tryz.prog 56 #[.pointer (some ⟨g, 0, none⟩), .int .i64 j] w' fun e w'' => e = .returned (.bool b) ∧ Below w'.heap.size w' w'') ∧ Calls Tryz.prog 61 #[.pointer (some ⟨q, 0, none⟩), .int .i64 j] w' fun e w'' => e = .returned (.bool b) ∧ Below w'.heap.size w' w'' := by
 obtain ⟨S1, H⟩ := h.hs
 obtain ⟨S2, V⟩ := h.hr
 exact ⟨_, fun w' hw => ⟨Zga (H.grow hw) j, Zqd (V.grow hw) h5 j⟩⟩
theorem Ygj (h : P7 w0 S w g gs q room cs fr) (j : Int) : ∃ er : Int, ∀ w', Below w.heap.size w w' → (Calls Tryz.prog 48 #[.pointer (some ⟨g, 0, none⟩), .int .i64 j] w' fun e w'' => e = .returned (.int .i64 er) ∧ Below w'.heap.size w' w'') ∧ Calls Tryz.prog 51 #[.pointer (some ⟨q, 0, none⟩), .int .i64 j] w' fun e w'' => e = .returned (.int .i64 er) ∧ Below w'.heap.size w' w'' := by
 obtain ⟨S1, H⟩ := h.hs
 obtain ⟨S2, V⟩ := h.hr
 exact ⟨_, fun w' hw => ⟨Zkl (H.vw.grow hw) j, Zqf (V.grow hw) j⟩⟩
end
end Go.Proofs.YtbkolhhgajkjjaaGreatDoor
