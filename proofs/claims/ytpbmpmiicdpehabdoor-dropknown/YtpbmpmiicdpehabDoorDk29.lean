/- drop.otherSide, drop.find, drop.shrink, drop.beside, drop.countable and drop.holdAll, as contracts. -/
import Derived.Test.YtpbmpmiicdpehabDoorDk25
import Derived.Test.YtpbmpmiicdpehabDoorDk28
import Derived.WalkMore
namespace Go.Proofs.YtpbmpmiicdpehabDoor
set_option maxRecDepth 20000
open Go.RowKit

set_option maxHeartbeats 2000000 in
theorem oside_any {w : World} {v : Value} {ct : Int → Nat} {ca : Int → Ce} (V : Vw w v true ct ca) (h : Int) (K : List Int) (hK : Key K) (hk : (ca h).kind = 2) (hd : (ca h).dp < 256) : Calls Tryd.prog 34 #[v, .int .i64 h, .agg (B K)] w fun e w' => e = .returned (.int .i64 ((if kb K (ca h).dp = 1 then (ca h).l else (ca h).r : Nat) : Int)) ∧ Below w.heap.size w w' := by
  have HSD : Hid (∀ w', Below w.heap.size w w' → Calls Tryd.prog 53 #[v, .int .i64 h] w' fun e w'' => e = .returned (.tuple #[.int .i64 ((ca h).l : Int), .int .i64 ((ca h).r : Int)]) ∧ Below w'.heap.size w' w'') := fun w' hb => sides_any (V.grow hb) h
  have HDP : Hid (∀ w', Below w.heap.size w w' → Calls Tryd.prog 50 #[v, .int .i64 h] w' fun e w'' => e = .returned (.int .i64 ((ca h).dp : Int)) ∧ Below w'.heap.size w' w'') := fun w' hb => by
    have := depth_any (V.grow hb) h
    rwa [show vDp true (ca h) = ((ca h).dp : Int) by simp [vDp, hk]] at this
  have HBT : Hid (∀ w', Calls Tryd.prog 37 #[.agg (B K), .int .i64 ((ca h).dp : Int)] w' fun e w'' => e = .returned (.int .i64 (kb K (ca h).dp)) ∧ Below w'.heap.size w' w'') := fun w' => by
    have := bit_any K ((ca h).dp : Int) w' hK
    rwa [kbi_in K _ hd] at this
  have HPL := hidden (pth_ln K hK.1)
  clear V hk hd hK
  generalize (ca h).l = l at HSD ⊢
  generalize (ca h).r = r at HSD ⊢
  generalize (ca h).dp = d at HDP HBT ⊢
  have hq := kb_two K d
  generalize kb K d = q at HBT hq ⊢
  generalize hdd : (d : Int) = dd at HDP HBT
  clear hdd
  rcases hq with rfl | rfl
  · rw [if_neg (by omega)]
    go_enter Tryd.func34, Tryd.ntmps34
    go_wp2_with (first
      | ((with_reducible refine at_bxd 5 ?_); refine wpList_bx _ rfl _ _ rfl _ rfl ?_; intro w1 b5 hg5 hl5 B5 q5; have HB5 := hidden B5; have HQ5 := hidden q5; clear hg5 hl5 B5 q5)
      | (go_at_call 53; refine (HSD.out _ HQ5.out).mono ?_; rintro e w2 ⟨rfl, b2⟩; have HB52 := hidden (HB5.out.grow b2); have HQ2 := hidden (grow_trans HQ5.out b2); clear b2))
    refine wp_region_held_drew (S := fun w' => Below w2.heap.size w2 w') (by kernel_rfl) ((below_drewN (Below.refl _ _) 1)) (fun hHeld => ?_)
    refine wpAnyH_take (i := 0) (v := .agg (B K)) rfl (by kernel_rfl) (by kernel_rfl) (by kernel_rfl) (fun _ _ _ h => h) (yieldsIf_load_mid rfl 23 (.tmp 5) rfl b5 0 rfl (B K).toList _ (fun w hS => (HB52.out.grow hS).range) Tryd.underlying23 rfl HPL.out) hHeld ?_
    simp only [Act.put, List.getElem_toArray, List.getElem_cons_zero, List.setIfInBounds_toArray, List.set_cons_zero, List.set_cons_succ]
    refine wpAnyH_take (i := 1) (v := v) rfl (by kernel_rfl) (by kernel_rfl) (by kernel_rfl) (fun _ _ _ h => h) (Or.inl ⟨by rfl, fun w hS => by go_simp⟩) hHeld ?_
    simp only [Act.put, List.getElem_toArray, List.getElem_cons_zero, List.getElem_cons_succ, List.setIfInBounds_toArray, List.set_cons_zero, List.set_cons_succ]
    refine wpAnyH_take (i := 2) (v := .int .i64 h) rfl (by kernel_rfl) (by kernel_rfl) (by kernel_rfl) (fun _ _ _ h => h) (Or.inl ⟨by rfl, fun w hS => by go_simp⟩) hHeld ?_
    simp only [Act.put, List.getElem_toArray, List.getElem_cons_zero, List.getElem_cons_succ, List.setIfInBounds_toArray, List.set_cons_zero, List.set_cons_succ]
    refine wpAnyH_ready (rs := [3]) (by kernel_rfl) (by simp) ?_
    refine AllReadyH.cons rfl (fun KQ hK => ?_) AllReadyH.nil
    go_simp
    refine (HDP.out _ (grow_trans HQ2.out hHeld)).mono ?_
    rintro e z1 ⟨rfl, a1⟩
    refine hK.out _ _ (grow_trans hHeld a1) (fun hHeld => ?_)
    clear hK KQ
    refine wpAnyH_ready (rs := [4]) (by kernel_rfl) (by simp) ?_
    refine AllReadyH.cons rfl (fun KQ hK => ?_) AllReadyH.nil
    go_simp
    refine (HBT.out _).mono ?_
    rintro e z2 ⟨rfl, a2⟩
    refine hK.out _ _ (grow_trans hHeld a2) (fun hHeld => ?_)
    clear hK KQ
    refine wpAnyH_take (i := 5) (v := .bool false) rfl (by kernel_rfl) (by kernel_rfl) (by kernel_rfl) (fun _ _ _ h => h) (Or.inl ⟨by rfl, fun w hS => by go_simp⟩) hHeld ?_
    simp only [Act.put, List.getElem_toArray, List.getElem_cons_zero, List.getElem_cons_succ, List.setIfInBounds_toArray, List.set_cons_zero, List.set_cons_succ]
    refine wpAnyH_done (by kernel_rfl) ?_ _
    go_wp2
    go_ret
    exact ⟨rfl, grow_trans HQ2.out hHeld⟩
  · rw [if_pos rfl]
    go_enter Tryd.func34, Tryd.ntmps34
    go_wp2_with (first
      | ((with_reducible refine at_bxd 5 ?_); refine wpList_bx _ rfl _ _ rfl _ rfl ?_; intro w1 b5 hg5 hl5 B5 q5; have HB5 := hidden B5; have HQ5 := hidden q5; clear hg5 hl5 B5 q5)
      | (go_at_call 53; refine (HSD.out _ HQ5.out).mono ?_; rintro e w2 ⟨rfl, b2⟩; have HB52 := hidden (HB5.out.grow b2); have HQ2 := hidden (grow_trans HQ5.out b2); clear b2))
    refine wp_region_held_drew (S := fun w' => Below w2.heap.size w2 w') (by kernel_rfl) ((below_drewN (Below.refl _ _) 1)) (fun hHeld => ?_)
    refine wpAnyH_take (i := 0) (v := .agg (B K)) rfl (by kernel_rfl) (by kernel_rfl) (by kernel_rfl) (fun _ _ _ h => h) (yieldsIf_load_mid rfl 23 (.tmp 5) rfl b5 0 rfl (B K).toList _ (fun w hS => (HB52.out.grow hS).range) Tryd.underlying23 rfl HPL.out) hHeld ?_
    simp only [Act.put, List.getElem_toArray, List.getElem_cons_zero, List.setIfInBounds_toArray, List.set_cons_zero, List.set_cons_succ]
    refine wpAnyH_take (i := 1) (v := v) rfl (by kernel_rfl) (by kernel_rfl) (by kernel_rfl) (fun _ _ _ h => h) (Or.inl ⟨by rfl, fun w hS => by go_simp⟩) hHeld ?_
    simp only [Act.put, List.getElem_toArray, List.getElem_cons_zero, List.getElem_cons_succ, List.setIfInBounds_toArray, List.set_cons_zero, List.set_cons_succ]
    refine wpAnyH_take (i := 2) (v := .int .i64 h) rfl (by kernel_rfl) (by kernel_rfl) (by kernel_rfl) (fun _ _ _ h => h) (Or.inl ⟨by rfl, fun w hS => by go_simp⟩) hHeld ?_
    simp only [Act.put, List.getElem_toArray, List.getElem_cons_zero, List.getElem_cons_succ, List.setIfInBounds_toArray, List.set_cons_zero, List.set_cons_succ]
    refine wpAnyH_ready (rs := [3]) (by kernel_rfl) (by simp) ?_
    refine AllReadyH.cons rfl (fun KQ hK => ?_) AllReadyH.nil
    go_simp
    refine (HDP.out _ (grow_trans HQ2.out hHeld)).mono ?_
    rintro e z1 ⟨rfl, a1⟩
    refine hK.out _ _ (grow_trans hHeld a1) (fun hHeld => ?_)
    clear hK KQ
    refine wpAnyH_ready (rs := [4]) (by kernel_rfl) (by simp) ?_
    refine AllReadyH.cons rfl (fun KQ hK => ?_) AllReadyH.nil
    go_simp
    refine (HBT.out _).mono ?_
    rintro e z2 ⟨rfl, a2⟩
    refine hK.out _ _ (grow_trans hHeld a2) (fun hHeld => ?_)
    clear hK KQ
    refine wpAnyH_take (i := 5) (v := .bool true) rfl (by kernel_rfl) (by kernel_rfl) (by kernel_rfl) (fun _ _ _ h => h) (Or.inl ⟨by rfl, fun w hS => by go_simp⟩) hHeld ?_
    simp only [Act.put, List.getElem_toArray, List.getElem_cons_zero, List.getElem_cons_succ, List.setIfInBounds_toArray, List.set_cons_zero, List.set_cons_succ]
    refine wpAnyH_done (by kernel_rfl) ?_ _
    go_wp2
    go_ret
    exact ⟨rfl, grow_trans HQ2.out hHeld⟩

/-- What find answers. -/
def FnPost (hs : List Nat) (b : Bool) (w : World) (e : Ending) (w' : World) : Prop :=
  ∃ a c, e = .returned (.tuple #[.slice a hs.length c, .bool b]) ∧ w'.ownsRow w.heap.size 3 1 (.slice a hs.length c) hs.length (nats hs) ∧ Below w.heap.size w w'

set_option maxHeartbeats 2000000 in
theorem dfind_any {w : World} {v : Value} {cs : List (Nat × Ce)} {pend : List Nat} (V : Vw w v true (cot cs) (cat cs)) (W : Wf cs pend) (h : Nat) (T : Tre) (hT : IsT cs h T) (K : List Int) (hK : Key K) (he : vRt true (cot cs h) (cat cs h) h = 0) : Calls Tryd.prog 14 #[v, .int .i64 (h : Int), .agg (B K)] w (FnPost (T.hs K h) (fnd (T.efin K) K).2 w) := by
  have HPS : Hid ((Tryd.prog.info? 23).map (·.size) = some (B K).size) := by show _ = _; rw [B_size, hK.1]; exact size_path
  have HPL := hidden (pth_ln K hK.1)
  have HHE : Hid (∀ w', Below w.heap.size w w' → Calls Tryd.prog 32 #[v, .int .i64 (h : Int), .agg (B K)] w' fun e w'' => ∃ a c, e = .returned (.tuple #[.slice a (T.hs K h).length c, .int .i64 (T.fin K h : Int), .int .i64 0]) ∧ w''.ownsRow w'.heap.size 3 1 (.slice a (T.hs K h).length c) (T.hs K h).length (nats (T.hs K h)) ∧ Below w'.heap.size w' w'') := fun w' hb => handles_any (V.grow hb) W h T hT K hK he
  have HKD : Hid (∀ w', Below w.heap.size w w' → Calls Tryd.prog 28 #[v, .int .i64 (T.fin K h : Int)] w' fun e w'' => e = .returned (.int .u8 (sdC cs (T.fin K h)).kind) ∧ Below w'.heap.size w' w'') := fun w' hb => by
    have := kind_any (V.grow hb) (T.fin K h : Int)
    rwa [cat_nat] at this
  have HKY : Hid (∀ w', Below w.heap.size w w' → Calls Tryd.prog 33 #[v, .int .i64 (T.fin K h : Int)] w' fun e w'' => e = .returned (.agg (B (sdC cs (T.fin K h)).key)) ∧ Below w'.heap.size w' w'') := fun w' hb => by
    have := key_any (V.grow hb) (T.fin K h : Int)
    rwa [cat_nat] at this
  have HPost : Hid (∀ a c w', w'.ownsRow w.heap.size 3 1 (.slice a (T.hs K h).length c) (T.hs K h).length (nats (T.hs K h)) → Below w.heap.size w w' → FnPost (T.hs K h) (fnd (T.efin K) K).2 w (.returned (.tuple #[.slice a (T.hs K h).length c, .bool (fnd (T.efin K) K).2])) w') := fun a c w' h1 h2 => ⟨a, c, rfl, h1, h2⟩
  generalize FnPost (T.hs K h) (fnd (T.efin K) K).2 w = P at HPost ⊢
  generalize nats (T.hs K h) = nss at HHE HPost
  generalize (T.hs K h).length = hn at HHE HPost
  generalize (h : Int) = hh at HHE ⊢
  rcases fin_is K T h hT with ⟨f1, f2⟩ | ⟨k, b, f1, f2, f3, f4, f5, f6⟩
  · rw [f1] at HKD HHE
    rw [f2] at HPost
    have e1 : (sdC cs 0).kind = 0 := rfl
    have e2 : (fnd [] K).2 = false := rfl
    rw [e1] at HKD
    rw [e2] at HPost
    generalize ((0 : Nat) : Int) = fin at HKD HHE
    clear V W hT hK he HKY f1 f2 e1 e2
    go_enter Tryd.func14, Tryd.ntmps14
    go_wp2_with (first
      | ((with_reducible refine at_bxd 5 ?_); refine wpList_bx _ rfl _ _ rfl _ rfl ?_; intro w1 b5 hg5 hl5 B5 q5; have HB5 := hidden B5; have HQ5 := hidden q5; clear hg5 hl5 B5 q5)
      | ((with_reducible refine at_ldd 13 5 ?_); refine wpList_ld _ rfl _ _ rfl b5 _ rfl HB5.out _ _ Tryd.underlying23 HPS.out ?_)
      | (go_at_call 32; refine (HHE.out _ HQ5.out).mono ?_; rintro e w2 ⟨ha, hc, rfl, o2, b2⟩; have HO2 := hidden (owR_base o2 HQ5.out.size); have HB52 := hidden (HB5.out.grow b2); have HQ2 := hidden (grow_trans HQ5.out b2); clear b2 o2))
    refine wp_region_held_drew (S := fun w' => Below w2.heap.size w2 w') (by kernel_rfl) ((below_drewN (Below.refl _ _) 1)) (fun hHeld => ?_)
    refine wpAnyH_take (i := 0) (v := .slice ha hn hc) rfl (by kernel_rfl) (by kernel_rfl) (by kernel_rfl) (fun _ _ _ h => h) (Or.inl ⟨by rfl, fun w hS => by go_simp⟩) hHeld ?_
    simp only [Act.put, List.getElem_toArray, List.getElem_cons_zero, List.setIfInBounds_toArray, List.set_cons_zero, List.set_cons_succ]
    refine wpAnyH_take (i := 1) (v := v) rfl (by kernel_rfl) (by kernel_rfl) (by kernel_rfl) (fun _ _ _ h => h) (Or.inl ⟨by rfl, fun w hS => by go_simp⟩) hHeld ?_
    simp only [Act.put, List.getElem_toArray, List.getElem_cons_zero, List.getElem_cons_succ, List.setIfInBounds_toArray, List.set_cons_zero, List.set_cons_succ]
    refine wpAnyH_take (i := 2) (v := .int .i64 fin) rfl (by kernel_rfl) (by kernel_rfl) (by kernel_rfl) (fun _ _ _ h => h) (Or.inl ⟨by rfl, fun w hS => by go_simp⟩) hHeld ?_
    simp only [Act.put, List.getElem_toArray, List.getElem_cons_zero, List.getElem_cons_succ, List.setIfInBounds_toArray, List.set_cons_zero, List.set_cons_succ]
    refine wpAnyH_ready (rs := [3]) (by kernel_rfl) (by simp) ?_
    refine AllReadyH.cons rfl (fun KQ hK => ?_) AllReadyH.nil
    go_simp
    refine (HKD.out _ (grow_trans HQ2.out hHeld)).mono ?_
    rintro e z1 ⟨rfl, a1⟩
    refine hK.out _ _ (grow_trans hHeld a1) (fun hHeld => ?_)
    clear hK KQ
    refine wpAnyH_take (i := 4) (v := .bool false) rfl (by kernel_rfl) (by kernel_rfl) (by kernel_rfl) (fun _ _ _ h => h) (Or.inl ⟨by rfl, fun w hS => by go_simp⟩) hHeld ?_
    simp only [Act.put, List.getElem_toArray, List.getElem_cons_zero, List.getElem_cons_succ, List.setIfInBounds_toArray, List.set_cons_zero, List.set_cons_succ]
    refine wpAnyH_take (i := 5) (v := .bool false) rfl (by kernel_rfl) (by kernel_rfl) (by kernel_rfl) (fun _ _ _ h => h) (Or.inl ⟨by rfl, fun w hS => by go_simp⟩) hHeld ?_
    simp only [Act.put, List.getElem_toArray, List.getElem_cons_zero, List.getElem_cons_succ, List.setIfInBounds_toArray, List.set_cons_zero, List.set_cons_succ]
    refine wpAnyH_take (i := 6) (v := undef) rfl (by kernel_rfl) (by kernel_rfl) (by kernel_rfl) (fun _ _ _ h => h) (Or.inr ⟨by rfl, rfl⟩) hHeld ?_
    simp only [Act.put, List.getElem_toArray, List.getElem_cons_zero, List.getElem_cons_succ, List.setIfInBounds_toArray, List.set_cons_zero, List.set_cons_succ]
    refine wpAnyH_take (i := 7) (v := undef) rfl (by kernel_rfl) (by kernel_rfl) (by kernel_rfl) (fun _ _ _ h => h) (Or.inr ⟨by rfl, rfl⟩) hHeld ?_
    simp only [Act.put, List.getElem_toArray, List.getElem_cons_zero, List.getElem_cons_succ, List.setIfInBounds_toArray, List.set_cons_zero, List.set_cons_succ]
    refine wpAnyH_take (i := 8) (v := undef) rfl (by kernel_rfl) (by kernel_rfl) (by kernel_rfl) (fun _ _ _ h => h) (Or.inr ⟨by rfl, rfl⟩) hHeld ?_
    simp only [Act.put, List.getElem_toArray, List.getElem_cons_zero, List.getElem_cons_succ, List.setIfInBounds_toArray, List.set_cons_zero, List.set_cons_succ]
    refine wpAnyH_take (i := 9) (v := undef) rfl (by kernel_rfl) (by kernel_rfl) (by kernel_rfl) (fun _ _ _ h => h) (Or.inr ⟨by rfl, rfl⟩) hHeld ?_
    simp only [Act.put, List.getElem_toArray, List.getElem_cons_zero, List.getElem_cons_succ, List.setIfInBounds_toArray, List.set_cons_zero, List.set_cons_succ]
    refine wpAnyH_take (i := 10) (v := undef) rfl (by kernel_rfl) (by kernel_rfl) (by kernel_rfl) (fun _ _ _ h => h) (Or.inr ⟨by rfl, rfl⟩) hHeld ?_
    simp only [Act.put, List.getElem_toArray, List.getElem_cons_zero, List.getElem_cons_succ, List.setIfInBounds_toArray, List.set_cons_zero, List.set_cons_succ]
    refine wpAnyH_take (i := 11) (v := .bool false) rfl (by kernel_rfl) (by kernel_rfl) (by kernel_rfl) (fun _ _ _ h => h) (Or.inl ⟨by rfl, fun w hS => by go_simp⟩) hHeld ?_
    simp only [Act.put, List.getElem_toArray, List.getElem_cons_zero, List.getElem_cons_succ, List.setIfInBounds_toArray, List.set_cons_zero, List.set_cons_succ]
    refine wpAnyH_take (i := 12) (v := .slice ha hn hc) rfl (by kernel_rfl) (by kernel_rfl) (by kernel_rfl) (fun _ _ _ h => h) (Or.inl ⟨by rfl, fun w hS => by go_simp⟩) hHeld ?_
    simp only [Act.put, List.getElem_toArray, List.getElem_cons_zero, List.getElem_cons_succ, List.setIfInBounds_toArray, List.set_cons_zero, List.set_cons_succ]
    refine wpAnyH_take (i := 13) (v := .bool false) rfl (by kernel_rfl) (by kernel_rfl) (by kernel_rfl) (fun _ _ _ h => h) (Or.inl ⟨by rfl, fun w hS => by go_simp⟩) hHeld ?_
    simp only [Act.put, List.getElem_toArray, List.getElem_cons_zero, List.getElem_cons_succ, List.setIfInBounds_toArray, List.set_cons_zero, List.set_cons_succ]
    refine wpAnyH_done (by kernel_rfl) ?_ _
    have HH := hidden hHeld
    clear hHeld
    go_wp2_with fail
    exact HPost.out _ _ _ (owR_grow HO2.out HH.out) (grow_trans HQ2.out HH.out)
  · have es : sdC cs (T.fin K h) = ce cs (T.fin K h - 1) := if_neg (by omega)
    have hk : Key k := ((tree_ok W T h hT).ent (k, b) (efin_mem K T (k, b) (by rw [f1]; simp))).1
    rw [es, f4] at HKD
    rw [es, f5] at HKY
    rw [f1] at HPost
    have hE := path_eq k K hk.1 hK.1
    generalize (T.fin K h : Int) = fin at HKD HHE HKY
    by_cases hq : k = K
    · simp only [hq, decide_true] at hE
      have e2 : (fnd [(k, b)] K).2 = true := by simp [fnd, hq]
      rw [e2] at HPost
      rw [hq] at HKY
      clear V W hT hK he f1 f2 f3 f4 f5 f6 es hk hq e2
      go_enter Tryd.func14, Tryd.ntmps14
      go_wp2_with (first
        | ((with_reducible refine at_bxd 5 ?_); refine wpList_bx _ rfl _ _ rfl _ rfl ?_; intro w1 b5 hg5 hl5 B5 q5; have HB5 := hidden B5; have HQ5 := hidden q5; clear hg5 hl5 B5 q5)
        | ((with_reducible refine at_ldd 13 5 ?_); refine wpList_ld _ rfl _ _ rfl b5 _ rfl HB5.out _ _ Tryd.underlying23 HPS.out ?_)
        | (go_at_call 32; refine (HHE.out _ HQ5.out).mono ?_; rintro e w2 ⟨ha, hc, rfl, o2, b2⟩; have HO2 := hidden (owR_base o2 HQ5.out.size); have HB52 := hidden (HB5.out.grow b2); have HQ2 := hidden (grow_trans HQ5.out b2); clear b2 o2))
      refine wp_region_held_drew (S := fun w' => Below w2.heap.size w2 w') (by kernel_rfl) ((below_drewN (Below.refl _ _) 1)) (fun hHeld => ?_)
      refine wpAnyH_take (i := 0) (v := .slice ha hn hc) rfl (by kernel_rfl) (by kernel_rfl) (by kernel_rfl) (fun _ _ _ h => h) (Or.inl ⟨by rfl, fun w hS => by go_simp⟩) hHeld ?_
      simp only [Act.put, List.getElem_toArray, List.getElem_cons_zero, List.setIfInBounds_toArray, List.set_cons_zero, List.set_cons_succ]
      refine wpAnyH_take (i := 1) (v := v) rfl (by kernel_rfl) (by kernel_rfl) (by kernel_rfl) (fun _ _ _ h => h) (Or.inl ⟨by rfl, fun w hS => by go_simp⟩) hHeld ?_
      simp only [Act.put, List.getElem_toArray, List.getElem_cons_zero, List.getElem_cons_succ, List.setIfInBounds_toArray, List.set_cons_zero, List.set_cons_succ]
      refine wpAnyH_take (i := 2) (v := .int .i64 fin) rfl (by kernel_rfl) (by kernel_rfl) (by kernel_rfl) (fun _ _ _ h => h) (Or.inl ⟨by rfl, fun w hS => by go_simp⟩) hHeld ?_
      simp only [Act.put, List.getElem_toArray, List.getElem_cons_zero, List.getElem_cons_succ, List.setIfInBounds_toArray, List.set_cons_zero, List.set_cons_succ]
      refine wpAnyH_ready (rs := [3]) (by kernel_rfl) (by simp) ?_
      refine AllReadyH.cons rfl (fun KQ hK => ?_) AllReadyH.nil
      go_simp
      refine (HKD.out _ (grow_trans HQ2.out hHeld)).mono ?_
      rintro e z1 ⟨rfl, a1⟩
      refine hK.out _ _ (grow_trans hHeld a1) (fun hHeld => ?_)
      clear hK KQ
      refine wpAnyH_take (i := 4) (v := .bool true) rfl (by kernel_rfl) (by kernel_rfl) (by kernel_rfl) (fun _ _ _ h => h) (Or.inl ⟨by rfl, fun w hS => by go_simp⟩) hHeld ?_
      simp only [Act.put, List.getElem_toArray, List.getElem_cons_zero, List.getElem_cons_succ, List.setIfInBounds_toArray, List.set_cons_zero, List.set_cons_succ]
      refine wpAnyH_take (i := 5) (v := .bool true) rfl (by kernel_rfl) (by kernel_rfl) (by kernel_rfl) (fun _ _ _ h => h) (Or.inl ⟨by rfl, fun w hS => by go_simp⟩) hHeld ?_
      simp only [Act.put, List.getElem_toArray, List.getElem_cons_zero, List.getElem_cons_succ, List.setIfInBounds_toArray, List.set_cons_zero, List.set_cons_succ]
      refine wpAnyH_take (i := 6) (v := v) rfl (by kernel_rfl) (by kernel_rfl) (by kernel_rfl) (fun _ _ _ h => h) (Or.inl ⟨by rfl, fun w hS => by go_simp⟩) hHeld ?_
      simp only [Act.put, List.getElem_toArray, List.getElem_cons_zero, List.getElem_cons_succ, List.setIfInBounds_toArray, List.set_cons_zero, List.set_cons_succ]
      refine wpAnyH_take (i := 7) (v := .int .i64 fin) rfl (by kernel_rfl) (by kernel_rfl) (by kernel_rfl) (fun _ _ _ h => h) (Or.inl ⟨by rfl, fun w hS => by go_simp⟩) hHeld ?_
      simp only [Act.put, List.getElem_toArray, List.getElem_cons_zero, List.getElem_cons_succ, List.setIfInBounds_toArray, List.set_cons_zero, List.set_cons_succ]
      refine wpAnyH_take (i := 9) (v := .agg (B K)) rfl (by kernel_rfl) (by kernel_rfl) (by kernel_rfl) (fun _ _ _ h => h) (yieldsIf_load_mid rfl 23 (.tmp 5) rfl b5 0 rfl (B K).toList _ (fun w hS => (HB52.out.grow hS).range) Tryd.underlying23 rfl HPL.out) hHeld ?_
      simp only [Act.put, List.getElem_toArray, List.getElem_cons_zero, List.getElem_cons_succ, List.setIfInBounds_toArray, List.set_cons_zero, List.set_cons_succ]
      refine wpAnyH_ready (rs := [8]) (by kernel_rfl) (by simp) ?_
      refine AllReadyH.cons rfl (fun KQ hK => ?_) AllReadyH.nil
      go_simp
      refine (HKY.out _ (grow_trans HQ2.out hHeld)).mono ?_
      rintro e z2 ⟨rfl, a2⟩
      refine hK.out _ _ (grow_trans hHeld a2) (fun hHeld => ?_)
      clear hK KQ
      refine wpAnyH_take (i := 10) (v := .bool true) rfl (by kernel_rfl) (by kernel_rfl) (by kernel_rfl) (fun _ _ _ h => h) (Or.inl ⟨by rfl, fun w hS => by go_simp⟩) hHeld ?_
      simp only [Act.put, List.getElem_toArray, List.getElem_cons_zero, List.getElem_cons_succ, List.setIfInBounds_toArray, List.set_cons_zero, List.set_cons_succ]
      refine wpAnyH_take (i := 11) (v := .bool true) rfl (by kernel_rfl) (by kernel_rfl) (by kernel_rfl) (fun _ _ _ h => h) (Or.inl ⟨by rfl, fun w hS => by go_simp⟩) hHeld ?_
      simp only [Act.put, List.getElem_toArray, List.getElem_cons_zero, List.getElem_cons_succ, List.setIfInBounds_toArray, List.set_cons_zero, List.set_cons_succ]
      refine wpAnyH_take (i := 12) (v := .slice ha hn hc) rfl (by kernel_rfl) (by kernel_rfl) (by kernel_rfl) (fun _ _ _ h => h) (Or.inl ⟨by rfl, fun w hS => by go_simp⟩) hHeld ?_
      simp only [Act.put, List.getElem_toArray, List.getElem_cons_zero, List.getElem_cons_succ, List.setIfInBounds_toArray, List.set_cons_zero, List.set_cons_succ]
      refine wpAnyH_take (i := 13) (v := .bool true) rfl (by kernel_rfl) (by kernel_rfl) (by kernel_rfl) (fun _ _ _ h => h) (Or.inl ⟨by rfl, fun w hS => by go_simp⟩) hHeld ?_
      simp only [Act.put, List.getElem_toArray, List.getElem_cons_zero, List.getElem_cons_succ, List.setIfInBounds_toArray, List.set_cons_zero, List.set_cons_succ]
      refine wpAnyH_done (by kernel_rfl) ?_ _
      have HH := hidden hHeld
      clear hHeld
      go_wp2_with fail
      exact HPost.out _ _ _ (owR_grow HO2.out HH.out) (grow_trans HQ2.out HH.out)
    · simp only [hq, decide_false] at hE
      have e2 : (fnd [(k, b)] K).2 = false := by simp [fnd, hq]
      rw [e2] at HPost
      clear V W hT hK he f1 f2 f3 f4 f5 f6 es hk hq e2
      go_enter Tryd.func14, Tryd.ntmps14
      go_wp2_with (first
        | ((with_reducible refine at_bxd 5 ?_); refine wpList_bx _ rfl _ _ rfl _ rfl ?_; intro w1 b5 hg5 hl5 B5 q5; have HB5 := hidden B5; have HQ5 := hidden q5; clear hg5 hl5 B5 q5)
        | ((with_reducible refine at_ldd 13 5 ?_); refine wpList_ld _ rfl _ _ rfl b5 _ rfl HB5.out _ _ Tryd.underlying23 HPS.out ?_)
        | (go_at_call 32; refine (HHE.out _ HQ5.out).mono ?_; rintro e w2 ⟨ha, hc, rfl, o2, b2⟩; have HO2 := hidden (owR_base o2 HQ5.out.size); have HB52 := hidden (HB5.out.grow b2); have HQ2 := hidden (grow_trans HQ5.out b2); clear b2 o2))
      refine wp_region_held_drew (S := fun w' => Below w2.heap.size w2 w') (by kernel_rfl) ((below_drewN (Below.refl _ _) 1)) (fun hHeld => ?_)
      refine wpAnyH_take (i := 0) (v := .slice ha hn hc) rfl (by kernel_rfl) (by kernel_rfl) (by kernel_rfl) (fun _ _ _ h => h) (Or.inl ⟨by rfl, fun w hS => by go_simp⟩) hHeld ?_
      simp only [Act.put, List.getElem_toArray, List.getElem_cons_zero, List.setIfInBounds_toArray, List.set_cons_zero, List.set_cons_succ]
      refine wpAnyH_take (i := 1) (v := v) rfl (by kernel_rfl) (by kernel_rfl) (by kernel_rfl) (fun _ _ _ h => h) (Or.inl ⟨by rfl, fun w hS => by go_simp⟩) hHeld ?_
      simp only [Act.put, List.getElem_toArray, List.getElem_cons_zero, List.getElem_cons_succ, List.setIfInBounds_toArray, List.set_cons_zero, List.set_cons_succ]
      refine wpAnyH_take (i := 2) (v := .int .i64 fin) rfl (by kernel_rfl) (by kernel_rfl) (by kernel_rfl) (fun _ _ _ h => h) (Or.inl ⟨by rfl, fun w hS => by go_simp⟩) hHeld ?_
      simp only [Act.put, List.getElem_toArray, List.getElem_cons_zero, List.getElem_cons_succ, List.setIfInBounds_toArray, List.set_cons_zero, List.set_cons_succ]
      refine wpAnyH_ready (rs := [3]) (by kernel_rfl) (by simp) ?_
      refine AllReadyH.cons rfl (fun KQ hK => ?_) AllReadyH.nil
      go_simp
      refine (HKD.out _ (grow_trans HQ2.out hHeld)).mono ?_
      rintro e z1 ⟨rfl, a1⟩
      refine hK.out _ _ (grow_trans hHeld a1) (fun hHeld => ?_)
      clear hK KQ
      refine wpAnyH_take (i := 4) (v := .bool true) rfl (by kernel_rfl) (by kernel_rfl) (by kernel_rfl) (fun _ _ _ h => h) (Or.inl ⟨by rfl, fun w hS => by go_simp⟩) hHeld ?_
      simp only [Act.put, List.getElem_toArray, List.getElem_cons_zero, List.getElem_cons_succ, List.setIfInBounds_toArray, List.set_cons_zero, List.set_cons_succ]
      refine wpAnyH_take (i := 5) (v := .bool true) rfl (by kernel_rfl) (by kernel_rfl) (by kernel_rfl) (fun _ _ _ h => h) (Or.inl ⟨by rfl, fun w hS => by go_simp⟩) hHeld ?_
      simp only [Act.put, List.getElem_toArray, List.getElem_cons_zero, List.getElem_cons_succ, List.setIfInBounds_toArray, List.set_cons_zero, List.set_cons_succ]
      refine wpAnyH_take (i := 6) (v := v) rfl (by kernel_rfl) (by kernel_rfl) (by kernel_rfl) (fun _ _ _ h => h) (Or.inl ⟨by rfl, fun w hS => by go_simp⟩) hHeld ?_
      simp only [Act.put, List.getElem_toArray, List.getElem_cons_zero, List.getElem_cons_succ, List.setIfInBounds_toArray, List.set_cons_zero, List.set_cons_succ]
      refine wpAnyH_take (i := 7) (v := .int .i64 fin) rfl (by kernel_rfl) (by kernel_rfl) (by kernel_rfl) (fun _ _ _ h => h) (Or.inl ⟨by rfl, fun w hS => by go_simp⟩) hHeld ?_
      simp only [Act.put, List.getElem_toArray, List.getElem_cons_zero, List.getElem_cons_succ, List.setIfInBounds_toArray, List.set_cons_zero, List.set_cons_succ]
      refine wpAnyH_take (i := 9) (v := .agg (B K)) rfl (by kernel_rfl) (by kernel_rfl) (by kernel_rfl) (fun _ _ _ h => h) (yieldsIf_load_mid rfl 23 (.tmp 5) rfl b5 0 rfl (B K).toList _ (fun w hS => (HB52.out.grow hS).range) Tryd.underlying23 rfl HPL.out) hHeld ?_
      simp only [Act.put, List.getElem_toArray, List.getElem_cons_zero, List.getElem_cons_succ, List.setIfInBounds_toArray, List.set_cons_zero, List.set_cons_succ]
      refine wpAnyH_ready (rs := [8]) (by kernel_rfl) (by simp) ?_
      refine AllReadyH.cons rfl (fun KQ hK => ?_) AllReadyH.nil
      go_simp
      refine (HKY.out _ (grow_trans HQ2.out hHeld)).mono ?_
      rintro e z2 ⟨rfl, a2⟩
      refine hK.out _ _ (grow_trans hHeld a2) (fun hHeld => ?_)
      clear hK KQ
      refine wpAnyH_take (i := 10) (v := .bool false) rfl (by kernel_rfl) (by kernel_rfl) (by kernel_rfl) (fun _ _ _ h => h) (Or.inl ⟨by rfl, fun w hS => by go_simp⟩) hHeld ?_
      simp only [Act.put, List.getElem_toArray, List.getElem_cons_zero, List.getElem_cons_succ, List.setIfInBounds_toArray, List.set_cons_zero, List.set_cons_succ]
      refine wpAnyH_take (i := 11) (v := .bool false) rfl (by kernel_rfl) (by kernel_rfl) (by kernel_rfl) (fun _ _ _ h => h) (Or.inl ⟨by rfl, fun w hS => by go_simp⟩) hHeld ?_
      simp only [Act.put, List.getElem_toArray, List.getElem_cons_zero, List.getElem_cons_succ, List.setIfInBounds_toArray, List.set_cons_zero, List.set_cons_succ]
      refine wpAnyH_take (i := 12) (v := .slice ha hn hc) rfl (by kernel_rfl) (by kernel_rfl) (by kernel_rfl) (fun _ _ _ h => h) (Or.inl ⟨by rfl, fun w hS => by go_simp⟩) hHeld ?_
      simp only [Act.put, List.getElem_toArray, List.getElem_cons_zero, List.getElem_cons_succ, List.setIfInBounds_toArray, List.set_cons_zero, List.set_cons_succ]
      refine wpAnyH_take (i := 13) (v := .bool false) rfl (by kernel_rfl) (by kernel_rfl) (by kernel_rfl) (fun _ _ _ h => h) (Or.inl ⟨by rfl, fun w hS => by go_simp⟩) hHeld ?_
      simp only [Act.put, List.getElem_toArray, List.getElem_cons_zero, List.getElem_cons_succ, List.setIfInBounds_toArray, List.set_cons_zero, List.set_cons_succ]
      refine wpAnyH_done (by kernel_rfl) ?_ _
      have HH := hidden hHeld
      clear hHeld
      go_wp2_with fail
      exact HPost.out _ _ _ (owR_grow HO2.out HH.out) (grow_trans HQ2.out HH.out)

/-- The other sides of a way, by otherSide. -/
theorem oside_at {w : World} {v : Value} {cs : List (Nat × Ce)} {pend : List Nat} (V : Vw w v true (cot cs) (cat cs)) (W : Wf cs pend) (h : Nat) (T : Tre) (hT : IsT cs h T) (K : List Int) (hK : Key K) (hrd : (sdC cs h).kind = 2 → (sdC cs h).dp = 0) {a : Option Addr} (hI : Ints9 w a (T.hs K h)) : ∀ k, k < (T.hs K h).length → ∃ (x o : Nat), (∃ lb, a = some ⟨lb, 0, none⟩ ∧ w.cell? ⟨lb, k, none⟩ = some (.int .i64 (x : Int))) ∧ (T.oth K)[k]? = some o ∧ (∀ w', Below w.heap.size w w' → Calls Tryd.prog 34 #[v, .int .i64 (x : Int), .agg (B K)] w' fun e w'' => e = .returned (.int .i64 (o : Int)) ∧ Below w'.heap.size w' w'') := fun k hk => by
  obtain ⟨x, a1, a2, a3, a4, a5, a6, a7, a8⟩ := hs_at W K T h 0 hT hrd k hk
  rw [Nat.zero_add] at a5 a6 a7
  obtain ⟨lb, e1, e2⟩ := hI k hk
  have hx : (T.hs K h).getD k 0 = x := by rw [List.getD_eq_getElem?_getD, a1]; rfl
  rw [hx] at e2
  have hca := cat_is (cs := cs) a2
  refine ⟨x, _, ⟨lb, e1, e2⟩, a7, fun w' hb => ?_⟩
  have := oside_any (V.grow hb) (x : Int) K hK (by rw [hca]; exact a4) (by rw [hca, a5]; exact a6)
  rw [hca, a5] at this
  exact this

/-- What shrink answers. -/
def ShPost (a : Option Addr) (c : Nat) (z : Nat × Nat) (w : World) (e : Ending) (w' : World) : Prop := e = .returned (.tuple #[.slice a z.1 c, .int .i64 (z.2 : Int)]) ∧ Below w.heap.size w w'

set_option maxHeartbeats 4000000 in
theorem shrink_any {w : World} {v : Value} (kd : Nat → Int) (K : List Int) (hK : Key K) (a : Option Addr) (n c : Nat) (os : List Nat) (h256 : n ≤ 256) (hcap : n ≤ c) (hkd : ∀ w' (o : Nat), Below w.heap.size w w' → Calls Tryd.prog 28 #[v, .int .i64 (o : Int)] w' fun e w'' => e = .returned (.int .u8 (kd o)) ∧ Below w'.heap.size w' w'') (hat : ∀ k, k < n → ∃ (x o : Nat), (∃ lb, a = some ⟨lb, 0, none⟩ ∧ w.cell? ⟨lb, k, none⟩ = some (.int .i64 (x : Int))) ∧ os[k]? = some o ∧ (∀ w', Below w.heap.size w w' → Calls Tryd.prog 34 #[v, .int .i64 (x : Int), .agg (B K)] w' fun e w'' => e = .returned (.int .i64 (o : Int)) ∧ Below w'.heap.size w' w'')) :
    Calls Tryd.prog 15 #[v, .slice a n c, .agg (B K)] w (ShPost a c (shk kd os n 0) w) := by
  have HAX := hidden hat
  have HKX := hidden hkd
  have HPL := hidden (pth_ln K hK.1)
  have HM := hidden h256
  have HC := hidden hcap
  have HPost : Hid (∀ (m f : Nat) w', shk kd os n 0 = (m, f) → Below w.heap.size w w' → ShPost a c (shk kd os n 0) w (.returned (.tuple #[.slice a m c, .int .i64 (f : Int)])) w') := fun m f w' h1 h2 => by rw [h1]; exact ⟨rfl, h2⟩
  generalize hz : shk kd os n 0 = z at HPost ⊢
  generalize ShPost a c z w = P at HPost ⊢
  have HZ := hidden hz
  clear hat hkd h256 hcap hK hz
  go_enter Tryd.func15, Tryd.ntmps15
  go_wp2_with (first
    | ((with_reducible refine at_bxd 5 ?_); refine wpList_bx _ rfl _ _ rfl _ rfl ?_; intro w1 b5 hg5 hl5 B5 q5; have HB5 := hidden B5; have HQ5 := hidden q5; clear hg5 hl5 B5 q5))
  go_step3
  go_wp2_with (first
    | ((with_reducible refine at_bxd 5 ?_); refine wpList_bx _ rfl _ _ rfl _ rfl ?_; intro w1 b5 hg5 hl5 B5 q5; have HB5 := hidden B5; have HQ5 := hidden q5; clear hg5 hl5 B5 q5))
  go_step3
  go_wp2_with fail
  go_loopw [6, 7] (fun sv fv wr => ∃ (m f : Nat), m ≤ n ∧ sv = .slice a m c ∧ fv = .int .i64 (f : Int) ∧ Hid (shk kd os m f = z) ∧ Hid (Below w1.heap.size w1 wr)) (fun sv _ _ => sLen sv)
  case atStart => exact ⟨n, 0, Nat.le_refl _, rfl, rfl, HZ.out, Below.refl _ _⟩
  case round =>
    obtain ⟨m, f, hmn, rfl, rfl, hS, hB⟩ := hrel
    cases m with
    | zero =>
      have HP : Hid (P (.returned (.tuple #[.slice a 0 c, .int .i64 (f : Int)])) wr) := HPost.out 0 f wr (by rw [← hS.out]; rfl) (grow_trans HQ5.out hB.out)
      generalize (f : Int) = fy at HP ⊢
      clear hS
      go_wp2_with fail
      first | exact HP.out | (rw [Exit.noGoto_ret]; exact HP.out)
    | succ m =>
      obtain ⟨x, o, ⟨lb, rfl, hcl0⟩, ho, hos⟩ := HAX.out m (by omega)
      have hcl := below_cell (grow_trans HQ5.out hB.out) hcl0
      have HCL := hidden hcl
      have HOS := hidden hos
      have HBK := hidden (HB5.out.grow hB.out)
      have HBW := hidden (grow_trans HQ5.out hB.out)
      have hog : os.getD m 0 = o := by rw [List.getD_eq_getElem?_getD, ho]; rfl
      have hmc : m + 1 ≤ c := Nat.le_trans hmn HC.out
      have HMN := hidden hmn
      have hm256 : m < 256 := by have := HM.out; omega
      have HKD : Hid (∀ w', Below w.heap.size w w' → Calls Tryd.prog 28 #[v, .int .i64 (o : Int)] w' fun e w'' => e = .returned (.int .u8 (kd o)) ∧ Below w'.heap.size w' w'') := fun w' hb => HKX.out w' o hb
      have hs1 := hS.out
      rw [shk, hog] at hs1
      generalize (x : Int) = xy at hcl HCL HOS
      have k0 : (0 : Int) ≤ (m : Int) := by omega
      have k1 : (m : Int) < (m : Int) + 1 := by omega
      have k1' : (m : Int) < ((m + 1 : Nat) : Int) := by omega
      have k2 : (m : Int) ≤ (c : Int) := by omega
      have k3 : (0 : Int) < ((m + 1 : Nat) : Int) := by omega
      have hwm : wrap64 (m : Int) = (m : Int) := Go.IntWalk.wrap64_in _ (by omega)
      clear hmn hmc hcl0 hos ho hog hS HKX HAX HC HM
      by_cases o0 : o = 0
      · subst o0
        rw [if_pos rfl] at hs1
        have HS1 := hidden hs1
        obtain ⟨oy, hoy⟩ : ∃ y : Int, y = ((0 : Nat) : Int) := ⟨_, rfl⟩
        rw [← hoy] at HOS HKD
        have oz : oy = 0 := hoy
        subst oz
        clear hs1 hoy HKD
        go_wp2_with fail
        refine wp_region_held_drew (S := fun w' => Below wr.heap.size wr w') (by kernel_rfl) ((below_drewN (Below.refl _ _) 1)) (fun hHeld => ?_)
        refine wpAnyH_take (i := 0) (v := v) rfl (by kernel_rfl) (by kernel_rfl) (by kernel_rfl) (fun _ _ _ h => h) (Or.inl ⟨by rfl, fun w hS => by go_simp⟩) hHeld ?_
        simp only [Act.put, List.getElem_toArray, List.getElem_cons_zero, List.setIfInBounds_toArray, List.set_cons_zero, List.set_cons_succ]
        refine wpAnyH_take (i := 1) (v := .slice (some ⟨lb, 0, none⟩) (m + 1) c) rfl (by kernel_rfl) (by kernel_rfl) (by kernel_rfl) (fun _ _ _ h => h) (Or.inl ⟨by rfl, fun w hS => by go_simp⟩) hHeld ?_
        simp only [Act.put, List.getElem_toArray, List.getElem_cons_zero, List.getElem_cons_succ, List.setIfInBounds_toArray, List.set_cons_zero, List.set_cons_succ]
        refine wpAnyH_take (i := 2) (v := .int .i64 (m : Int)) rfl (by kernel_rfl) (by kernel_rfl) (by kernel_rfl) (fun _ _ _ h => h) (Or.inl ⟨by rfl, fun w hS => by go_simp⟩) hHeld ?_
        simp only [Act.put, List.getElem_toArray, List.getElem_cons_zero, List.getElem_cons_succ, List.setIfInBounds_toArray, List.set_cons_zero, List.set_cons_succ]
        refine wpAnyH_take (i := 3) (v := .pointer (some ⟨lb, m, none⟩)) rfl (by kernel_rfl) (by kernel_rfl) (by kernel_rfl) (fun _ _ _ h => h) (Or.inl ⟨by rfl, fun w hS => by go_simp⟩) hHeld ?_
        simp only [Act.put, List.getElem_toArray, List.getElem_cons_zero, List.getElem_cons_succ, List.setIfInBounds_toArray, List.set_cons_zero, List.set_cons_succ]
        refine wpAnyH_take (i := 4) (v := .int .i64 xy) rfl (by kernel_rfl) (by kernel_rfl) (by kernel_rfl) (fun _ _ _ h => h) (Or.inl ⟨by rfl, fun w hS => by (have q1 := below_cell hS HCL.out; go_simp)⟩) hHeld ?_
        simp only [Act.put, List.getElem_toArray, List.getElem_cons_zero, List.getElem_cons_succ, List.setIfInBounds_toArray, List.set_cons_zero, List.set_cons_succ]
        refine wpAnyH_take (i := 5) (v := .agg (B K)) rfl (by kernel_rfl) (by kernel_rfl) (by kernel_rfl) (fun _ _ _ h => h) (yieldsIf_load_mid rfl 23 (.tmp 5) rfl b5 0 rfl (B K).toList _ (fun w hS => (HBK.out.grow hS).range) Tryd.underlying23 rfl HPL.out) hHeld ?_
        simp only [Act.put, List.getElem_toArray, List.getElem_cons_zero, List.getElem_cons_succ, List.setIfInBounds_toArray, List.set_cons_zero, List.set_cons_succ]
        refine wpAnyH_ready (rs := [6]) (by kernel_rfl) (by simp) ?_
        refine AllReadyH.cons rfl (fun KQ hK => ?_) AllReadyH.nil
        go_simp
        refine (HOS.out _ (grow_trans HBW.out hHeld)).mono ?_
        rintro e z1 ⟨rfl, a1⟩
        refine hK.out _ _ (grow_trans hHeld a1) (fun hHeld => ?_)
        clear hK KQ
        refine wpAnyH_take (i := 7) (v := .int .i64 0) rfl (by kernel_rfl) (by kernel_rfl) (by kernel_rfl) (fun _ _ _ h => h) (Or.inl ⟨by rfl, fun w hS => by go_simp⟩) hHeld ?_
        simp only [Act.put, List.getElem_toArray, List.getElem_cons_zero, List.getElem_cons_succ, List.setIfInBounds_toArray, List.set_cons_zero, List.set_cons_succ]
        refine wpAnyH_done (by kernel_rfl) ?_ _
        have HH := hidden (grow_trans HBW.out hHeld)
        have HHr := hidden (grow_trans hB.out hHeld)
        clear hHeld hcl
        go_wp2_with fail
        exact ⟨⟨m, f, by have := HMN.out; omega, rfl, rfl, HS1.out, HHr.out⟩, by simp only [sLen]; omega⟩
      · rw [if_neg o0] at hs1
        have oz : ¬ (o : Int) = 0 := by omega
        by_cases f0 : f = 0
        · by_cases kq : kd o = 1
          · rw [if_pos ⟨f0, kq⟩] at hs1
            have HS1 := hidden hs1
            rw [kq] at HKD
            subst f0
            obtain ⟨oy, hoy⟩ : ∃ y : Int, y = (o : Int) := ⟨_, rfl⟩
            rw [← hoy] at HOS HKD oz
            have HOY := hidden hoy
            clear hs1 hoy o0 kq
            go_wp2_with fail
            refine wp_region_held_drew (S := fun w' => Below wr.heap.size wr w') (by kernel_rfl) ((below_drewN (Below.refl _ _) 1)) (fun hHeld => ?_)
            refine wpAnyH_take (i := 0) (v := v) rfl (by kernel_rfl) (by kernel_rfl) (by kernel_rfl) (fun _ _ _ h => h) (Or.inl ⟨by rfl, fun w hS => by go_simp⟩) hHeld ?_
            simp only [Act.put, List.getElem_toArray, List.getElem_cons_zero, List.setIfInBounds_toArray, List.set_cons_zero, List.set_cons_succ]
            refine wpAnyH_take (i := 1) (v := .slice (some ⟨lb, 0, none⟩) (m + 1) c) rfl (by kernel_rfl) (by kernel_rfl) (by kernel_rfl) (fun _ _ _ h => h) (Or.inl ⟨by rfl, fun w hS => by go_simp⟩) hHeld ?_
            simp only [Act.put, List.getElem_toArray, List.getElem_cons_zero, List.getElem_cons_succ, List.setIfInBounds_toArray, List.set_cons_zero, List.set_cons_succ]
            refine wpAnyH_take (i := 2) (v := .int .i64 (m : Int)) rfl (by kernel_rfl) (by kernel_rfl) (by kernel_rfl) (fun _ _ _ h => h) (Or.inl ⟨by rfl, fun w hS => by go_simp⟩) hHeld ?_
            simp only [Act.put, List.getElem_toArray, List.getElem_cons_zero, List.getElem_cons_succ, List.setIfInBounds_toArray, List.set_cons_zero, List.set_cons_succ]
            refine wpAnyH_take (i := 3) (v := .pointer (some ⟨lb, m, none⟩)) rfl (by kernel_rfl) (by kernel_rfl) (by kernel_rfl) (fun _ _ _ h => h) (Or.inl ⟨by rfl, fun w hS => by go_simp⟩) hHeld ?_
            simp only [Act.put, List.getElem_toArray, List.getElem_cons_zero, List.getElem_cons_succ, List.setIfInBounds_toArray, List.set_cons_zero, List.set_cons_succ]
            refine wpAnyH_take (i := 4) (v := .int .i64 xy) rfl (by kernel_rfl) (by kernel_rfl) (by kernel_rfl) (fun _ _ _ h => h) (Or.inl ⟨by rfl, fun w hS => by (have q1 := below_cell hS HCL.out; go_simp)⟩) hHeld ?_
            simp only [Act.put, List.getElem_toArray, List.getElem_cons_zero, List.getElem_cons_succ, List.setIfInBounds_toArray, List.set_cons_zero, List.set_cons_succ]
            refine wpAnyH_take (i := 5) (v := .agg (B K)) rfl (by kernel_rfl) (by kernel_rfl) (by kernel_rfl) (fun _ _ _ h => h) (yieldsIf_load_mid rfl 23 (.tmp 5) rfl b5 0 rfl (B K).toList _ (fun w hS => (HBK.out.grow hS).range) Tryd.underlying23 rfl HPL.out) hHeld ?_
            simp only [Act.put, List.getElem_toArray, List.getElem_cons_zero, List.getElem_cons_succ, List.setIfInBounds_toArray, List.set_cons_zero, List.set_cons_succ]
            refine wpAnyH_ready (rs := [6]) (by kernel_rfl) (by simp) ?_
            refine AllReadyH.cons rfl (fun KQ hK => ?_) AllReadyH.nil
            go_simp
            refine (HOS.out _ (grow_trans HBW.out hHeld)).mono ?_
            rintro e z1 ⟨rfl, a1⟩
            refine hK.out _ _ (grow_trans hHeld a1) (fun hHeld => ?_)
            clear hK KQ
            refine wpAnyH_take (i := 7) (v := .int .i64 oy) rfl (by kernel_rfl) (by kernel_rfl) (by kernel_rfl) (fun _ _ _ h => h) (Or.inl ⟨by rfl, fun w hS => by go_simp⟩) hHeld ?_
            simp only [Act.put, List.getElem_toArray, List.getElem_cons_zero, List.getElem_cons_succ, List.setIfInBounds_toArray, List.set_cons_zero, List.set_cons_succ]
            refine wpAnyH_done (by kernel_rfl) ?_ _
            have HH := hidden (grow_trans HBW.out hHeld)
            have HHr := hidden (grow_trans hB.out hHeld)
            clear hHeld hcl
            go_wp2_with (first
              | (go_at_call 28; refine (HKD.out _ HH.out).mono ?_; rintro e z2 ⟨rfl, a2⟩; replace HHr := hidden (grow_trans HHr.out a2); clear a2))
            exact ⟨⟨m, o, by have := HMN.out; omega, rfl, by rw [HOY.out], HS1.out, HHr.out⟩, by simp only [sLen]; omega⟩
          · rw [if_neg (fun q => kq q.2)] at hs1
            have HP : Hid (∀ w', Below w1.heap.size w1 w' → P (.returned (.tuple #[.slice (some ⟨lb, 0, none⟩) (m + 1) c, .int .i64 (f : Int)])) w') := fun w' hb => HPost.out (m + 1) f w' hs1.symm (grow_trans HQ5.out hb)
            subst f0
            generalize kd o = kk at HKD kq
            have kq2 : (kk == 1) = false := by simpa using kq
            generalize (o : Int) = oy at HOS HKD oz
            clear hs1 HPost o0
            go_wp2_with fail
            refine wp_region_held_drew (S := fun w' => Below wr.heap.size wr w') (by kernel_rfl) ((below_drewN (Below.refl _ _) 1)) (fun hHeld => ?_)
            refine wpAnyH_take (i := 0) (v := v) rfl (by kernel_rfl) (by kernel_rfl) (by kernel_rfl) (fun _ _ _ h => h) (Or.inl ⟨by rfl, fun w hS => by go_simp⟩) hHeld ?_
            simp only [Act.put, List.getElem_toArray, List.getElem_cons_zero, List.setIfInBounds_toArray, List.set_cons_zero, List.set_cons_succ]
            refine wpAnyH_take (i := 1) (v := .slice (some ⟨lb, 0, none⟩) (m + 1) c) rfl (by kernel_rfl) (by kernel_rfl) (by kernel_rfl) (fun _ _ _ h => h) (Or.inl ⟨by rfl, fun w hS => by go_simp⟩) hHeld ?_
            simp only [Act.put, List.getElem_toArray, List.getElem_cons_zero, List.getElem_cons_succ, List.setIfInBounds_toArray, List.set_cons_zero, List.set_cons_succ]
            refine wpAnyH_take (i := 2) (v := .int .i64 (m : Int)) rfl (by kernel_rfl) (by kernel_rfl) (by kernel_rfl) (fun _ _ _ h => h) (Or.inl ⟨by rfl, fun w hS => by go_simp⟩) hHeld ?_
            simp only [Act.put, List.getElem_toArray, List.getElem_cons_zero, List.getElem_cons_succ, List.setIfInBounds_toArray, List.set_cons_zero, List.set_cons_succ]
            refine wpAnyH_take (i := 3) (v := .pointer (some ⟨lb, m, none⟩)) rfl (by kernel_rfl) (by kernel_rfl) (by kernel_rfl) (fun _ _ _ h => h) (Or.inl ⟨by rfl, fun w hS => by go_simp⟩) hHeld ?_
            simp only [Act.put, List.getElem_toArray, List.getElem_cons_zero, List.getElem_cons_succ, List.setIfInBounds_toArray, List.set_cons_zero, List.set_cons_succ]
            refine wpAnyH_take (i := 4) (v := .int .i64 xy) rfl (by kernel_rfl) (by kernel_rfl) (by kernel_rfl) (fun _ _ _ h => h) (Or.inl ⟨by rfl, fun w hS => by (have q1 := below_cell hS HCL.out; go_simp)⟩) hHeld ?_
            simp only [Act.put, List.getElem_toArray, List.getElem_cons_zero, List.getElem_cons_succ, List.setIfInBounds_toArray, List.set_cons_zero, List.set_cons_succ]
            refine wpAnyH_take (i := 5) (v := .agg (B K)) rfl (by kernel_rfl) (by kernel_rfl) (by kernel_rfl) (fun _ _ _ h => h) (yieldsIf_load_mid rfl 23 (.tmp 5) rfl b5 0 rfl (B K).toList _ (fun w hS => (HBK.out.grow hS).range) Tryd.underlying23 rfl HPL.out) hHeld ?_
            simp only [Act.put, List.getElem_toArray, List.getElem_cons_zero, List.getElem_cons_succ, List.setIfInBounds_toArray, List.set_cons_zero, List.set_cons_succ]
            refine wpAnyH_ready (rs := [6]) (by kernel_rfl) (by simp) ?_
            refine AllReadyH.cons rfl (fun KQ hK => ?_) AllReadyH.nil
            go_simp
            refine (HOS.out _ (grow_trans HBW.out hHeld)).mono ?_
            rintro e z1 ⟨rfl, a1⟩
            refine hK.out _ _ (grow_trans hHeld a1) (fun hHeld => ?_)
            clear hK KQ
            refine wpAnyH_take (i := 7) (v := .int .i64 oy) rfl (by kernel_rfl) (by kernel_rfl) (by kernel_rfl) (fun _ _ _ h => h) (Or.inl ⟨by rfl, fun w hS => by go_simp⟩) hHeld ?_
            simp only [Act.put, List.getElem_toArray, List.getElem_cons_zero, List.getElem_cons_succ, List.setIfInBounds_toArray, List.set_cons_zero, List.set_cons_succ]
            refine wpAnyH_done (by kernel_rfl) ?_ _
            have HH := hidden (grow_trans HBW.out hHeld)
            have HHr := hidden (grow_trans hB.out hHeld)
            clear hHeld hcl
            go_wp2_with (first
              | (go_at_call 28; refine (HKD.out _ HH.out).mono ?_; rintro e z2 ⟨rfl, a2⟩; replace HHr := hidden (grow_trans HHr.out a2); clear a2))
            first | exact HP.out _ HHr.out | (rw [Exit.noGoto_ret]; exact HP.out _ HHr.out)
        · rw [if_neg (fun q => f0 q.1)] at hs1
          have HP : Hid (∀ w', Below w1.heap.size w1 w' → P (.returned (.tuple #[.slice (some ⟨lb, 0, none⟩) (m + 1) c, .int .i64 (f : Int)])) w') := fun w' hb => HPost.out (m + 1) f w' hs1.symm (grow_trans HQ5.out hb)
          have fz : ¬ (f : Int) = 0 := by omega
          generalize (f : Int) = fy at HP fz ⊢
          generalize (o : Int) = oy at HOS HKD oz
          clear hs1 HPost o0 f0 HKD
          go_wp2_with fail
          refine wp_region_held_drew (S := fun w' => Below wr.heap.size wr w') (by kernel_rfl) ((below_drewN (Below.refl _ _) 1)) (fun hHeld => ?_)
          refine wpAnyH_take (i := 0) (v := v) rfl (by kernel_rfl) (by kernel_rfl) (by kernel_rfl) (fun _ _ _ h => h) (Or.inl ⟨by rfl, fun w hS => by go_simp⟩) hHeld ?_
          simp only [Act.put, List.getElem_toArray, List.getElem_cons_zero, List.setIfInBounds_toArray, List.set_cons_zero, List.set_cons_succ]
          refine wpAnyH_take (i := 1) (v := .slice (some ⟨lb, 0, none⟩) (m + 1) c) rfl (by kernel_rfl) (by kernel_rfl) (by kernel_rfl) (fun _ _ _ h => h) (Or.inl ⟨by rfl, fun w hS => by go_simp⟩) hHeld ?_
          simp only [Act.put, List.getElem_toArray, List.getElem_cons_zero, List.getElem_cons_succ, List.setIfInBounds_toArray, List.set_cons_zero, List.set_cons_succ]
          refine wpAnyH_take (i := 2) (v := .int .i64 (m : Int)) rfl (by kernel_rfl) (by kernel_rfl) (by kernel_rfl) (fun _ _ _ h => h) (Or.inl ⟨by rfl, fun w hS => by go_simp⟩) hHeld ?_
          simp only [Act.put, List.getElem_toArray, List.getElem_cons_zero, List.getElem_cons_succ, List.setIfInBounds_toArray, List.set_cons_zero, List.set_cons_succ]
          refine wpAnyH_take (i := 3) (v := .pointer (some ⟨lb, m, none⟩)) rfl (by kernel_rfl) (by kernel_rfl) (by kernel_rfl) (fun _ _ _ h => h) (Or.inl ⟨by rfl, fun w hS => by go_simp⟩) hHeld ?_
          simp only [Act.put, List.getElem_toArray, List.getElem_cons_zero, List.getElem_cons_succ, List.setIfInBounds_toArray, List.set_cons_zero, List.set_cons_succ]
          refine wpAnyH_take (i := 4) (v := .int .i64 xy) rfl (by kernel_rfl) (by kernel_rfl) (by kernel_rfl) (fun _ _ _ h => h) (Or.inl ⟨by rfl, fun w hS => by (have q1 := below_cell hS HCL.out; go_simp)⟩) hHeld ?_
          simp only [Act.put, List.getElem_toArray, List.getElem_cons_zero, List.getElem_cons_succ, List.setIfInBounds_toArray, List.set_cons_zero, List.set_cons_succ]
          refine wpAnyH_take (i := 5) (v := .agg (B K)) rfl (by kernel_rfl) (by kernel_rfl) (by kernel_rfl) (fun _ _ _ h => h) (yieldsIf_load_mid rfl 23 (.tmp 5) rfl b5 0 rfl (B K).toList _ (fun w hS => (HBK.out.grow hS).range) Tryd.underlying23 rfl HPL.out) hHeld ?_
          simp only [Act.put, List.getElem_toArray, List.getElem_cons_zero, List.getElem_cons_succ, List.setIfInBounds_toArray, List.set_cons_zero, List.set_cons_succ]
          refine wpAnyH_ready (rs := [6]) (by kernel_rfl) (by simp) ?_
          refine AllReadyH.cons rfl (fun KQ hK => ?_) AllReadyH.nil
          go_simp
          refine (HOS.out _ (grow_trans HBW.out hHeld)).mono ?_
          rintro e z1 ⟨rfl, a1⟩
          refine hK.out _ _ (grow_trans hHeld a1) (fun hHeld => ?_)
          clear hK KQ
          refine wpAnyH_take (i := 7) (v := .int .i64 oy) rfl (by kernel_rfl) (by kernel_rfl) (by kernel_rfl) (fun _ _ _ h => h) (Or.inl ⟨by rfl, fun w hS => by go_simp⟩) hHeld ?_
          simp only [Act.put, List.getElem_toArray, List.getElem_cons_zero, List.getElem_cons_succ, List.setIfInBounds_toArray, List.set_cons_zero, List.set_cons_succ]
          refine wpAnyH_done (by kernel_rfl) ?_ _
          have HH := hidden (grow_trans HBW.out hHeld)
          have HHr := hidden (grow_trans hB.out hHeld)
          clear hHeld hcl
          go_wp2_with fail
          first | exact HP.out _ HHr.out | (rw [Exit.noGoto_ret]; exact HP.out _ HHr.out)

set_option maxHeartbeats 2000000 in
theorem dbeside_any {w : World} {v : Value} (K : List Int) (hK : Key K) (a : Option Addr) (m c : Nat) (os : List Nat) (hlen : os.length = m) (h256 : m ≤ 256) (hat : ∀ k, k < m → ∃ (x o : Nat), (∃ lb, a = some ⟨lb, 0, none⟩ ∧ w.cell? ⟨lb, k, none⟩ = some (.int .i64 (x : Int))) ∧ os[k]? = some o ∧ (∀ w', Below w.heap.size w w' → Calls Tryd.prog 34 #[v, .int .i64 (x : Int), .agg (B K)] w' fun e w'' => e = .returned (.int .i64 (o : Int)) ∧ Below w'.heap.size w' w'')) : Calls Tryd.prog 16 #[v, .slice a m c, .agg (B K)] w (BesPost os w) := by
  have HPost : Hid (∀ a c w', w'.ownsRow w.heap.size 3 1 (.slice a m c) m (nats os) → Below w.heap.size w w' → BesPost os w (.returned (.slice a m c)) w') := fun a c w' h1 h2 => ⟨a, c, by rw [hlen], by rw [hlen]; exact h1, h2⟩
  have HPS : Hid ((Tryd.prog.info? 23).map (·.size) = some (B K).size) := by show _ = _; rw [B_size, hK.1]; exact size_path
  have HAX := hidden hat
  have HM256 := hidden h256
  have HLEN := hidden hlen
  generalize HE : BesPost os w = P at HPost ⊢
  clear hat hlen h256 hK
  go_enter Tryd.func16, Tryd.ntmps16
  go_wp2_with (first
    | ((with_reducible refine at_bxd 5 ?_); refine wpList_bx _ rfl _ _ rfl _ rfl ?_; intro w1 b5 hg5 hl5 B5 q5; have HB5 := hidden B5; have HQ5 := hidden q5; clear hg5 hl5 B5 q5))
  go_loopw [7, 12] (fun sv iv wr => ∃ (k : Nat) (sa : Option Addr) (sc : Nat), k ≤ m ∧ sv = .slice sa k sc ∧ iv = .int .i64 (k : Int) ∧ Hid (wr.ownsRow w1.heap.size 3 1 (.slice sa k sc) k (nats (os.take k))) ∧ Hid (Below w1.heap.size w1 wr)) (fun _ iv _ => m - (intOf iv).toNat)
  case atStart => exact ⟨0, none, 0, by omega, rfl, rfl, World.ownsRow_nil _ _ _ _, Below.refl _ _⟩
  case round =>
    obtain ⟨k, sa, sc, hk, rfl, rfl, hO, hB⟩ := hrel
    by_cases hlt : k < m
    · obtain ⟨x, o, ⟨lb, rfl, hcl0⟩, ho, hos⟩ := HAX.out k hlt
      have hcl := below_cell (grow_trans HQ5.out hB.out) hcl0
      have HOS := hidden hos
      have HTK : Hid (os.take (k + 1) = os.take k ++ [o]) := by
        show _ = _
        rw [List.take_add_one, ho]
        rfl
      generalize os.take k = pre at hO HTK
      obtain ⟨oy, hoy⟩ : ∃ y : Int, y = (o : Int) := ⟨_, rfl⟩
      rw [← hoy] at HOS
      have HOY := hidden hoy
      have HK256 : Hid (k + 1 ≤ 256) := by have := HM256.out; show _ ≤ _; omega
      have k0 : (0 : Int) ≤ (k : Int) := by omega
      have k1 : (k : Int) < (m : Int) := by omega
      have hk256 : k < 256 := by have := HM256.out; omega
      have hwk : wrap64 ((k : Int) + 1) = ((k + 1 : Nat) : Int) := by rw [Go.IntWalk.wrap64_in _ (by omega)]; rfl
      generalize (x : Int) = xy at hcl HOS
      clear hos hcl0 ho hoy hk HPost
      go_wp2_with (first
        | ((with_reducible refine at_ldd 19 5 ?_); refine wpList_ld _ rfl _ _ rfl b5 _ rfl (HB5.out.grow hB.out) _ _ Tryd.underlying23 HPS.out ?_)
        | (go_at_call 34; refine (HOS.out _ (grow_trans HQ5.out hB.out)).mono ?_; rintro e w4 ⟨rfl, b4⟩; have HBW4 := hidden (grow_trans hB.out b4); have HOO4 := hidden (owR_grow (owR_grow hO.out b4) (grow_alloc w4 (.cells #[.int .i64 oy] 3))); clear b4)
        | (at_builtin; refine wpList_appB _ rfl _ _ _ rfl w1.heap.size 3 1 8 Tryd.underlying52 info_nat (by omega) _ k (nats pre) rfl HOO4.out w4.heap.size [Value.int .i64 oy] rfl (Blk.new _ _ _) rfl (by intro u hu; simp at hu; subst hu; rfl) (by have := HK256.out; simp only [maxLen]; omega) (by have := HK256.out; omega) (Nat.le_trans HBW4.out.size (by simp)) ?_; intro a6 c6 w6 o6 g6; have HO6 := hidden o6; have HB6 := hidden (owR_below (grow_trans HBW4.out (grow_alloc w4 (.cells #[.int .i64 oy] 3))) HOO4.out (Nat.le_refl _) g6); clear o6 g6))
      have ho6 := HO6.out
      rw [HOY.out, ← nats_snoc, ← HTK.out] at ho6
      exact ⟨⟨k + 1, a6, c6, by omega, rfl, by go_num, ho6, HB6.out⟩, by simp [intOf]; exact mea_step k1⟩
    · obtain rfl : k = m := by omega
      have htk : os.take k = os := List.take_of_length_le (by rw [HLEN.out]; exact Nat.le_refl _)
      rw [htk] at hO
      have nlt : ¬ (k : Int) < (k : Int) := by omega
      clear htk hlt hk HAX
      go_wp2_with fail
      exact HPost.out _ _ _ (owR_base hO.out HQ5.out.size) (grow_trans HQ5.out hB.out)

set_option maxHeartbeats 2000000 in
theorem dcountable_any {w : World} {v : Value} {ct : Int → Nat} {ca : Int → Ce} (V : Vw w v true ct ca) (hct : ∀ q, ct q < 1073741824) (a1 a2 : Option Addr) (n1 n2 c1 c2 : Nat) (l1 l2 : List Nat) (h1 : Ints9 w a1 l1) (h2 : Ints9 w a2 l2) (e1 : n1 = l1.length) (e2 : n2 = l2.length) (m1 : n1 ≤ 256) (lf : Int) : Calls Tryd.prog 17 #[v, .slice a1 n1 c1, .slice a2 n2 c2, .int .i64 lf] w fun e w' => e = .returned (.bool true) ∧ Below w.heap.size w w' := by
  have HCT : Hid (∀ w' (q : Int), Below w.heap.size w w' → ∃ n : Int, n < 1073741824 ∧ Calls Tryd.prog 35 #[v, .int .i64 q] w' fun e w'' => e = .returned (.int .i64 n) ∧ w'' = w') := fun w' q hb => ⟨(ct q : Int), by have := hct q; omega, V.count w' q hb⟩
  have H1 : Hid (∀ w' k, Below w.heap.size w w' → k < n1 → ∃ g, a1 = some ⟨g, 0, none⟩ ∧ ∃ x : Int, w'.cell? ⟨g, k, none⟩ = some (.int .i64 x)) := fun w' k hb hk => by
    obtain ⟨g, q1, q2⟩ := h1.grow hb k (by omega)
    exact ⟨g, q1, _, q2⟩
  have H2 : Hid (∀ w' k, Below w.heap.size w w' → k < n2 → ∃ g, a2 = some ⟨g, 0, none⟩ ∧ ∃ x : Int, w'.cell? ⟨g, k, none⟩ = some (.int .i64 x)) := fun w' k hb hk => by
    obtain ⟨g, q1, q2⟩ := h2.grow hb k (by omega)
    exact ⟨g, q1, _, q2⟩
  have HM1 := hidden m1
  clear V hct h1 h2 e1 e2 m1
  go_enter Tryd.func17, Tryd.ntmps17
  go_wp2_with fail
  go_loopw [9, 14] (fun sv iv wr => ∃ (k : Nat) (b : Bool), k ≤ n1 ∧ sv = .bool b ∧ iv = .int .i64 (k : Int) ∧ Hid (Below w.heap.size w wr)) (fun _ iv _ => n1 - (intOf iv).toNat)
  case atStart => exact ⟨0, false, by omega, rfl, rfl, Below.refl _ _⟩
  case round =>
    obtain ⟨k, b, hk, rfl, rfl, hB⟩ := hrel
    by_cases hlt : k < n1
    · obtain ⟨g1, rfl, x1, hc1⟩ := H1.out wr k hB.out hlt
      obtain ⟨y1, hy1, HC1⟩ := HCT.out wr x1 hB.out
      have HC1 := hidden HC1
      have k0 : (0 : Int) ≤ (k : Int) := by omega
      have k1 : (k : Int) < (n1 : Int) := by omega
      have hk257 : k < 257 := by have := HM1.out; omega
      have hwk : wrap64 ((k : Int) + 1) = ((k + 1 : Nat) : Int) := by rw [Go.IntWalk.wrap64_in _ (by omega)]; rfl
      clear hy1 hk
      by_cases hl1 : k < n2
      · obtain ⟨g2, rfl, x2, hc2⟩ := H2.out wr k hB.out hl1
        obtain ⟨y2, hy2, HC2⟩ := HCT.out wr x2 hB.out
        have HC2 := hidden HC2
        have l1 : (k : Int) < (n2 : Int) := by omega
        have y3 : ¬ y2 = 1073741824 := by omega
        clear hy2
        cases b with
        | true =>
          go_wp2_with (first
            | (go_at_call 35; refine HC2.out.mono ?_; rintro e w' ⟨rfl, hx⟩; rw [hx]; clear hx w'))
          exact ⟨⟨k + 1, true, by omega, rfl, by go_num, hB.out⟩, by simp [intOf]; exact mea_step k1⟩
        | false =>
          by_cases y4 : 1 < y1
          · go_wp2_with (first
              | (go_at_call 35; have mk := mk1; clear mk; refine HC2.out.mono ?_; rintro e w' ⟨rfl, hx⟩; rw [hx]; clear hx w')
              | (go_at_call 35; refine HC1.out.mono ?_; rintro e w' ⟨rfl, hx⟩; rw [hx]; clear hx w'; have mk1 : Hid True := trivial))
            exact ⟨⟨k + 1, true, by omega, rfl, by go_num, hB.out⟩, by simp [intOf]; exact mea_step k1⟩
          · go_wp2_with (first
              | (go_at_call 35; refine HC1.out.mono ?_; rintro e w' ⟨rfl, hx⟩; rw [hx]; clear hx w'))
            exact ⟨⟨k + 1, false, by omega, rfl, by go_num, hB.out⟩, by simp [intOf]; exact mea_step k1⟩
      · have l1 : ¬ (k : Int) < (n2 : Int) := by omega
        cases b with
        | true =>
          go_wp2_with fail
          exact ⟨⟨k + 1, true, by omega, rfl, by go_num, hB.out⟩, by simp [intOf]; exact mea_step k1⟩
        | false =>
          by_cases y4 : 1 < y1
          · go_wp2_with (first
              | (go_at_call 35; refine HC1.out.mono ?_; rintro e w' ⟨rfl, hx⟩; rw [hx]; clear hx w'))
            exact ⟨⟨k + 1, true, by omega, rfl, by go_num, hB.out⟩, by simp [intOf]; exact mea_step k1⟩
          · go_wp2_with (first
              | (go_at_call 35; refine HC1.out.mono ?_; rintro e w' ⟨rfl, hx⟩; rw [hx]; clear hx w'))
            exact ⟨⟨k + 1, false, by omega, rfl, by go_num, hB.out⟩, by simp [intOf]; exact mea_step k1⟩
    · obtain rfl : k = n1 := by omega
      have nlt : ¬ (k : Int) < (k : Int) := by omega
      obtain ⟨y2, hy2, HC2⟩ := HCT.out wr lf hB.out
      have HC2 := hidden HC2
      clear HCT H1 H2
      cases b with
      | true =>
        go_wp2_with (first
          | (go_at_call 35; refine HC2.out.mono ?_; rintro e w' ⟨rfl, hx⟩; rw [hx]; clear hx w'))
        go_ret
        exact ⟨rfl, hB.out⟩
      | false =>
        go_wp2_with fail
        go_ret
        exact ⟨rfl, hB.out⟩

set_option maxHeartbeats 2000000 in
theorem dholdAll_any {w : World} {S : List Nat} {g gs room : Nat} {cs : List (Nat × Ce)} {fr : List Nat} (h : Hs w S w g gs room cs fr) (a : Option Addr) (n c : Nat) (ss : List Nat) (hI : Kq S w (fun w' => Ints9 w' a ss)) (hn : n = ss.length) (h257 : n ≤ 257) (hv : ∀ x ∈ ss, x = 0 ∨ 0 < cc cs (x - 1)) (hc : 0 < n → ∀ i, cc cs i + n < 1073741824) : Calls Tryd.prog 18 #[.pointer (some ⟨g, 0, none⟩), .slice a n c] w fun e w' => e = .returned (.slice none 0 0) ∧ Hs w S w' g gs room (holdM cs ss) fr := by
  have HST : Hid (∀ wr k, k < n → Hs w S wr g gs room (holdM cs (ss.take k)) fr → ∃ lb x, a = some ⟨lb, 0, none⟩ ∧ wr.cell? ⟨lb, k, none⟩ = some (.int .i64 x) ∧ ∃ q : Int, ¬ q = 4 ∧ Calls Tryd.prog 36 #[.pointer (some ⟨g, 0, none⟩), .int .i64 x] wr fun e w' => e = .returned (.int .i64 q) ∧ Hs w S w' g gs room (holdM cs (ss.take (k + 1))) fr) := fun wr k hk hh => by
    obtain ⟨lb, e1, e2⟩ := hh.kq hI k (by omega)
    refine ⟨lb, _, e1, e2, ?_⟩
    rw [holdM_take cs ss k (by omega)]
    have hm := hm_ok h.2 k (ss.take k) (by rw [List.length_take]; omega) (fun x hx => hv x (List.mem_of_mem_take hx))
    have hmem : ss.getD k 0 ∈ ss := by rw [List.getD_eq_getElem?_getD, List.getElem?_eq_getElem (by omega)]; exact List.getElem_mem _
    by_cases h0 : ss.getD k 0 = 0
    · rw [if_pos h0, h0]
      exact ⟨7, by omega, hs_hold_bad hh 0 rfl⟩
    · rw [if_neg h0]
      have hcp := (hv _ hmem).resolve_left h0
      have hx := hs_hold hh (ss.getD k 0 - 1) (by rw [hm.cc]; omega) (by
        rw [hm.cc]
        have h1 := hc (by omega) (ss.getD k 0 - 1)
        have h2 := List.count_le_length (a := ss.getD k 0 - 1 + 1) (l := ss.take k)
        rw [List.length_take] at h2
        omega)
      rw [show (((ss.getD k 0 - 1 : Nat) : Int) + 1) = ((ss.getD k 0 : Nat) : Int) by omega] at hx
      exact ⟨0, by omega, hx⟩
  have HTK : Hid (ss.take n = ss) := List.take_of_length_le (by omega)
  have HH0 : Hid (Hs w S w g gs room (holdM cs (ss.take 0)) fr) := h
  have HM := hidden h257
  clear h hI hn h257 hv hc
  go_enter Tryd.func18, Tryd.ntmps18
  go_wp2_with fail
  go_loopw [4, 9] (fun lv iv wr => ∃ (k : Nat), k ≤ n ∧ lv = .slice none 0 0 ∧ iv = .int .i64 (k : Int) ∧ Hid (Hs w S wr g gs room (holdM cs (ss.take k)) fr)) (fun _ iv _ => n - (intOf iv).toNat)
  case atStart => exact ⟨0, by omega, rfl, rfl, HH0.out⟩
  case round =>
    clear HH0
    obtain ⟨k, hk, rfl, rfl, HH⟩ := hrel
    by_cases hlt : k < n
    · obtain ⟨lb, x, rfl, hcl, q, hq, hcall⟩ := HST.out wr k hlt HH.out
      have HC := hidden hcall
      have k0 : (0 : Int) ≤ (k : Int) := by omega
      have k1 : (k : Int) < (n : Int) := by omega
      have hk257 : k < 257 := by have := HM.out; omega
      have hwk : wrap64 ((k : Int) + 1) = ((k + 1 : Nat) : Int) := by rw [Go.IntWalk.wrap64_in _ (by omega)]; rfl
      clear hcall hk
      go_wp2_with (first
        | (go_at_call 36; refine HC.out.mono ?_; rintro e w2 ⟨rfl, hs2⟩; have HS2 := hidden hs2; clear hs2))
      exact ⟨⟨k + 1, by omega, rfl, by go_num, HS2.out⟩, by simp [intOf]; exact mea_step k1⟩
    · obtain rfl : k = n := by omega
      have nlt : ¬ (k : Int) < (k : Int) := by omega
      rw [HTK.out] at HH
      go_wp2_with fail
      go_ret
      exact ⟨rfl, HH.out⟩

end Go.Proofs.YtpbmpmiicdpehabDoor

/- drop.raise, as a contract. -/
namespace Go.Proofs.YtpbmpmiicdpehabDoor
set_option maxRecDepth 20000
open Go.RowKit

/-- What raise answers. -/
def DraPost (w : World) (S : List Nat) (g gs room : Nat) (cs0 cs1 : List (Nat × Ce)) (fr : List Nat) (E : List Ent) (K : List Int) (f : Nat) (ss : List Nat) (e : Ending) (w' : World) : Prop :=
  ∃ (top : Nat) (cs2 : List (Nat × Ce)) (fr2 : List Nat), e = .returned (.int .i64 (top : Int)) ∧ Rz K ss cs1 fr f cs2 fr2 top ∧ DzI cs0 E K f ss 0 cs2 top ∧ Hs w S w' g gs room cs2 fr2

set_option maxHeartbeats 4000000 in
theorem draise_any {w : World} {S : List Nat} {g gs room : Nat} {cs0 cs1 : List (Nat × Ce)} {fr : List Nat} (h : Hs w S w g gs room cs1 fr) (hS : ∀ k ∈ S, k < w.heap.size) (W0 : Wf cs0 []) {E : List Ent} {K : List Int} {f : Nat} {ss : List Nat} (hK : Key K) (b : DesOk cs0 E K f ss) (hm : HmOk cs0 (f :: ss) cs1) (hroom : noc cs0 + 258 ≤ room) (a : Option Addr) (n c : Nat) (hn : n = ss.length) (hI : Kq S w (fun w' => Ints9 w' a ss)) (hL : Kq S w Laid) :
    Calls Tryd.prog 19 #[.pointer (some ⟨g, 0, none⟩), .agg (B K), .int .i64 (f : Int), .slice a n c] w (DraPost w S g gs room cs0 cs1 fr E K f ss) := by
  have h256 : n ≤ 256 := by rw [hn]; exact b.len
  have HPS : Hid ((Tryd.prog.info? 23).map (·.size) = some (B K).size) := by show _ = _; rw [B_size, hK.1]; exact size_path
  have HI0 : Hid (DzI cs0 E K f ss n cs1 f) := by
    show DzI cs0 E K f ss n cs1 f
    rw [hn]
    exact dzi_start W0 b hm
  have HTK : Hid (ss.take n = ss) := List.take_of_length_le (by omega)
  have HH0 : Hid (∀ w1, Below w.heap.size w w1 → Hs w1 S w1 g gs room cs1 fr) := fun w1 hb => h.rebase hb
  have HRD : Hid (∀ w1, Below w.heap.size w w1 → ∀ wr (m : Nat) cs fr' (top : Nat), m < n → Hs w1 S wr g gs room cs fr' → DzI cs0 E K f ss (m + 1) cs top → ∃ (lb s : Nat), a = some ⟨lb, 0, none⟩ ∧ wr.cell? ⟨lb, m, none⟩ = some (.int .i64 (s : Int)) ∧ (ss.take (m + 1) = ss.take m ++ [s]) ∧ (∀ z, Calls Tryd.prog 37 #[.agg (B K), .int .i64 (m : Int)] z fun e z' => e = .returned (.int .i64 (kb K m)) ∧ Below z.heap.size z z') ∧
      ∀ z, Below wr.heap.size wr z → Calls Tryd.prog 38 #[.pointer (some ⟨g, 0, none⟩), .int .i64 (m : Int), .int .i64 (tl K m top s : Int), .int .i64 (tr K m top s : Int)] z fun e z' => ∃ cs', e = .returned (.tuple #[.int .i64 (tkH cs fr' : Int), .int .i64 0]) ∧ InnR cs fr' m (tl K m top s) (tr K m top s) cs' ∧ DzI cs0 E K f ss m cs' (tkH cs fr') ∧ Hs w1 S z' g gs room cs' fr'.dropLast) := fun w1 hb wr m cs fr' top hmn hh hi => by
    obtain ⟨lb, e1, e2⟩ := hh.kq (hI.grow hb) m (by omega)
    have hml : m < ss.length := by omega
    have hm256 : m < 256 := by omega
    refine ⟨lb, ss.getD m 0, e1, e2, ?_, fun z => ?_, fun z hz => ?_⟩
    · rw [List.take_add_one, List.getElem?_eq_getElem hml, List.getD_eq_getElem?_getD, List.getElem?_eq_getElem hml]
      rfl
    · have := bit_any K (m : Int) z hK
      rwa [kbi_in K _ hm256] at this
    · obtain ⟨ml, mr, u, hu, hf, hst⟩ := dzi_fit b hml hi
      have hz2 := hh.grow hz
      refine (hs_inner hz2 m _ _ hm256 ml mr u hu hf (hz2.kq (hL.grow hb)) (hz2.free (by have := hi.noc; omega))).mono ?_
      rintro e z' ⟨cs', hin, rfl, hs'⟩
      exact ⟨cs', rfl, hin, hst fr' cs' hz2.frok hin hs'.2, hs'⟩
  have HPost : Hid (∀ w1, Below w.heap.size w w1 → ∀ wr (top : Nat) cs2 fr2, Rz K ss cs1 fr f cs2 fr2 top → DzI cs0 E K f ss 0 cs2 top → Hs w1 S wr g gs room cs2 fr2 → DraPost w S g gs room cs0 cs1 fr E K f ss (.returned (.int .i64 (top : Int))) wr) := fun w1 hb wr top cs2 fr2 h2 h3 h4 => ⟨top, cs2, fr2, rfl, h2, h3, Hs.back hb h4⟩
  generalize DraPost w S g gs room cs0 cs1 fr E K f ss = P at HPost ⊢
  have HS := hidden hS
  have HM := hidden h256
  have hwn : wrap64 ((n : Int) - 1) = (n : Int) - 1 := Go.IntWalk.wrap64_in _ (by omega)
  have HNS := hidden hn
  clear h hS W0 b hm hroom hn hI hL h256 hK
  go_enter Tryd.func19, Tryd.ntmps19
  go_wp2_with (first
    | ((with_reducible refine at_bxd 5 ?_); refine wpList_bx _ rfl _ _ rfl _ rfl ?_; intro w1 b5 hg5 hl5 B5 q5; have HB5 := hidden B5; have HQ5 := hidden q5; have HG5 := hidden hg5; clear hg5 hl5 B5 q5))
  have HBQ : Hid (Kq S w1 (fun w' => Blk w' b5 23 (B K))) := Kq.blk HB5.out (fun e => by have := HS.out _ e; have := HG5.out; omega)
  have HPo : Hid (∀ wr (top : Nat) cs2 fr2, Rz K ss cs1 fr f cs2 fr2 top → DzI cs0 E K f ss 0 cs2 top → Hs w1 S wr g gs room cs2 fr2 → P (.returned (.int .i64 (top : Int))) wr) := HPost.out w1 HQ5.out
  have HRw := hidden (HRD.out w1 HQ5.out)
  have HH2 := hidden (HH0.out w1 HQ5.out)
  clear HPost HRD HB5 HQ5 HG5 HS HH0
  go_loopw [9, 10] (fun tv dv wr => ∃ (m : Nat) (top : Nat) (cs : List (Nat × Ce)) (fr' : List Nat), m ≤ n ∧ tv = .int .i64 (top : Int) ∧ dv = .int .i64 ((m : Int) - 1) ∧ Hid (Hs w1 S wr g gs room cs fr') ∧ Hid (DzI cs0 E K f ss m cs top) ∧ Hid (∀ cs2 fr2 t2, Rz K (ss.take m) cs fr' top cs2 fr2 t2 → Rz K ss cs1 fr f cs2 fr2 t2)) (fun _ dv _ => (intOf dv + 1).toNat)
  case atStart => exact ⟨n, f, cs1, fr, Nat.le_refl _, rfl, by first | rfl | (rw [hwn]) | go_num, HH2.out, HI0.out, fun _ _ _ q => by rw [HTK.out] at q; exact q⟩
  case round =>
    clear HH2 HI0 hwn
    obtain ⟨m, top, cs, fr', hmn, rfl, rfl, HH, HI, HZ⟩ := hrel
    cases m with
    | zero =>
      have e0 : ((0 : Nat) : Int) - 1 = -1 := rfl
      rw [e0]
      have HF : Hid (P (.returned (.int .i64 (top : Int))) wr) := HPo.out wr top cs fr' (HZ.out _ _ _ (by rw [List.take_zero]; exact Rz.done _ _ _)) HI.out HH.out
      go_wp2_with fail
      exact HF.out
    | succ m =>
      have e0 : ((m + 1 : Nat) : Int) - 1 = (m : Int) := by omega
      rw [e0]
      obtain ⟨lb, s, rfl, hcl, hts, hbt, hin⟩ := HRw.out wr m cs fr' top (by omega) HH.out HI.out
      have HCL := hidden hcl
      have HIN := hidden hin
      have HBT := hidden hbt
      have HBK := hidden (HH.out.kq HBQ.out)
      have HZ2 : Hid (∀ cs1' cs2 fr2 t2, InnR cs fr' m (tl K m top s) (tr K m top s) cs1' → Rz K (ss.take m) cs1' fr'.dropLast (tkH cs fr') cs2 fr2 t2 → Rz K ss cs1 fr f cs2 fr2 t2) := fun cs1' cs2 fr2 t2 a1 a2 => by
        have hlm : (ss.take m).length = m := by rw [List.length_take]; have := HNS.out; omega
        refine HZ.out cs2 fr2 t2 ?_
        rw [hts]
        refine Rz.step (cs1 := cs1') ?_ a2
        rw [hlm]
        exact a1
      obtain ⟨th, hth⟩ : ∃ th : Int, th = (tkH cs fr' : Int) := ⟨_, rfl⟩
      rw [← hth] at HIN
      have HTH := hidden hth
      have k0 : (0 : Int) ≤ (m : Int) := by omega
      have k1 : (m : Int) < (n : Int) := by omega
      have hm256 : m < 256 := by have := HM.out; omega
      have hwm : wrap64 ((m : Int) - 1) = (m : Int) - 1 := Go.IntWalk.wrap64_in _ (by omega)
      have hkb := kb_two K m
      rcases hkb with q | q
      · have el : (tl K m top s : Int) = (top : Int) := by unfold tl; rw [if_neg (by omega)]
        have er : (tr K m top s : Int) = (s : Int) := by unfold tr; rw [if_neg (by omega)]
        rw [el, er] at HIN
        rw [q] at HBT
        generalize (s : Int) = sy at hcl HCL HIN
        generalize (top : Int) = ty at HIN ⊢
        clear hin hbt hth HZ HH HI HPo HRw hts hmn e0 el er q
        go_wp2_with fail
        refine wp_region_held_drew (S := fun w' => Below wr.heap.size wr w') (by kernel_rfl) ((below_drewN (Below.refl _ _) 1)) (fun hHeld => ?_)
        refine wpAnyH_take (i := 0) (v := .int .i64 ty) rfl (by kernel_rfl) (by kernel_rfl) (by kernel_rfl) (fun _ _ _ h => h) (Or.inl ⟨by rfl, fun w hS => by go_simp⟩) hHeld ?_
        simp only [Act.put, List.getElem_toArray, List.getElem_cons_zero, List.setIfInBounds_toArray, List.set_cons_zero, List.set_cons_succ]
        refine wpAnyH_take (i := 1) (v := .slice (some ⟨lb, 0, none⟩) n c) rfl (by kernel_rfl) (by kernel_rfl) (by kernel_rfl) (fun _ _ _ h => h) (Or.inl ⟨by rfl, fun w hS => by go_simp⟩) hHeld ?_
        simp only [Act.put, List.getElem_toArray, List.getElem_cons_zero, List.getElem_cons_succ, List.setIfInBounds_toArray, List.set_cons_zero, List.set_cons_succ]
        refine wpAnyH_take (i := 2) (v := .int .i64 (m : Int)) rfl (by kernel_rfl) (by kernel_rfl) (by kernel_rfl) (fun _ _ _ h => h) (Or.inl ⟨by rfl, fun w hS => by go_simp⟩) hHeld ?_
        simp only [Act.put, List.getElem_toArray, List.getElem_cons_zero, List.getElem_cons_succ, List.setIfInBounds_toArray, List.set_cons_zero, List.set_cons_succ]
        refine wpAnyH_take (i := 3) (v := .pointer (some ⟨lb, m, none⟩)) rfl (by kernel_rfl) (by kernel_rfl) (by kernel_rfl) (fun _ _ _ h => h) (Or.inl ⟨by rfl, fun w hS => by go_simp⟩) hHeld ?_
        simp only [Act.put, List.getElem_toArray, List.getElem_cons_zero, List.getElem_cons_succ, List.setIfInBounds_toArray, List.set_cons_zero, List.set_cons_succ]
        refine wpAnyH_take (i := 4) (v := .int .i64 sy) rfl (by kernel_rfl) (by kernel_rfl) (by kernel_rfl) (fun _ _ _ h => h) (Or.inl ⟨by rfl, fun w hS => by (have q1 := below_cell hS HCL.out; go_simp)⟩) hHeld ?_
        simp only [Act.put, List.getElem_toArray, List.getElem_cons_zero, List.getElem_cons_succ, List.setIfInBounds_toArray, List.set_cons_zero, List.set_cons_succ]
        refine wpAnyH_take (i := 5) (v := .int .i64 ty) rfl (by kernel_rfl) (by kernel_rfl) (by kernel_rfl) (fun _ _ _ h => h) (Or.inl ⟨by rfl, fun w hS => by go_simp⟩) hHeld ?_
        simp only [Act.put, List.getElem_toArray, List.getElem_cons_zero, List.getElem_cons_succ, List.setIfInBounds_toArray, List.set_cons_zero, List.set_cons_succ]
        refine wpAnyH_take (i := 6) (v := .int .i64 sy) rfl (by kernel_rfl) (by kernel_rfl) (by kernel_rfl) (fun _ _ _ h => h) (Or.inl ⟨by rfl, fun w hS => by go_simp⟩) hHeld ?_
        simp only [Act.put, List.getElem_toArray, List.getElem_cons_zero, List.getElem_cons_succ, List.setIfInBounds_toArray, List.set_cons_zero, List.set_cons_succ]
        refine wpAnyH_done (by kernel_rfl) ?_ _
        have HHd := hidden hHeld
        have HBK2 := hidden (HBK.out.grow hHeld)
        clear hHeld hcl
        go_wp2_with (first
          | ((with_reducible refine at_ldd 26 5 ?_); refine wpList_ld _ rfl _ _ rfl b5 _ rfl HBK2.out _ _ Tryd.underlying23 HPS.out ?_)
          | (go_at_call 37; refine (HBT.out _).mono ?_; rintro e z1 ⟨rfl, a1⟩; replace HHd := hidden (grow_trans HHd.out a1); clear a1)
          | (go_at_call 38; refine (HIN.out _ HHd.out).mono ?_; rintro e z2 ⟨cs', rfl, hin2, hi2, hs2⟩; have HIN2 := hidden hin2; have HI2 := hidden hi2; have HS2 := hidden hs2; clear hin2 hi2 hs2))
        exact ⟨⟨m, tkH cs fr', cs', fr'.dropLast, by omega, by rw [HTH.out], rfl, HS2.out, HI2.out, fun cs2 fr2 t2 q => HZ2.out cs' cs2 fr2 t2 HIN2.out q⟩, by simp only [intOf]; omega⟩
      · have el : (tl K m top s : Int) = (s : Int) := by unfold tl; rw [if_pos q]
        have er : (tr K m top s : Int) = (top : Int) := by unfold tr; rw [if_pos q]
        rw [el, er] at HIN
        rw [q] at HBT
        generalize (s : Int) = sy at hcl HCL HIN
        generalize (top : Int) = ty at HIN ⊢
        clear hin hbt hth HZ HH HI HPo HRw hts hmn e0 el er q
        go_wp2_with fail
        refine wp_region_held_drew (S := fun w' => Below wr.heap.size wr w') (by kernel_rfl) ((below_drewN (Below.refl _ _) 1)) (fun hHeld => ?_)
        refine wpAnyH_take (i := 0) (v := .int .i64 ty) rfl (by kernel_rfl) (by kernel_rfl) (by kernel_rfl) (fun _ _ _ h => h) (Or.inl ⟨by rfl, fun w hS => by go_simp⟩) hHeld ?_
        simp only [Act.put, List.getElem_toArray, List.getElem_cons_zero, List.setIfInBounds_toArray, List.set_cons_zero, List.set_cons_succ]
        refine wpAnyH_take (i := 1) (v := .slice (some ⟨lb, 0, none⟩) n c) rfl (by kernel_rfl) (by kernel_rfl) (by kernel_rfl) (fun _ _ _ h => h) (Or.inl ⟨by rfl, fun w hS => by go_simp⟩) hHeld ?_
        simp only [Act.put, List.getElem_toArray, List.getElem_cons_zero, List.getElem_cons_succ, List.setIfInBounds_toArray, List.set_cons_zero, List.set_cons_succ]
        refine wpAnyH_take (i := 2) (v := .int .i64 (m : Int)) rfl (by kernel_rfl) (by kernel_rfl) (by kernel_rfl) (fun _ _ _ h => h) (Or.inl ⟨by rfl, fun w hS => by go_simp⟩) hHeld ?_
        simp only [Act.put, List.getElem_toArray, List.getElem_cons_zero, List.getElem_cons_succ, List.setIfInBounds_toArray, List.set_cons_zero, List.set_cons_succ]
        refine wpAnyH_take (i := 3) (v := .pointer (some ⟨lb, m, none⟩)) rfl (by kernel_rfl) (by kernel_rfl) (by kernel_rfl) (fun _ _ _ h => h) (Or.inl ⟨by rfl, fun w hS => by go_simp⟩) hHeld ?_
        simp only [Act.put, List.getElem_toArray, List.getElem_cons_zero, List.getElem_cons_succ, List.setIfInBounds_toArray, List.set_cons_zero, List.set_cons_succ]
        refine wpAnyH_take (i := 4) (v := .int .i64 sy) rfl (by kernel_rfl) (by kernel_rfl) (by kernel_rfl) (fun _ _ _ h => h) (Or.inl ⟨by rfl, fun w hS => by (have q1 := below_cell hS HCL.out; go_simp)⟩) hHeld ?_
        simp only [Act.put, List.getElem_toArray, List.getElem_cons_zero, List.getElem_cons_succ, List.setIfInBounds_toArray, List.set_cons_zero, List.set_cons_succ]
        refine wpAnyH_take (i := 5) (v := .int .i64 ty) rfl (by kernel_rfl) (by kernel_rfl) (by kernel_rfl) (fun _ _ _ h => h) (Or.inl ⟨by rfl, fun w hS => by go_simp⟩) hHeld ?_
        simp only [Act.put, List.getElem_toArray, List.getElem_cons_zero, List.getElem_cons_succ, List.setIfInBounds_toArray, List.set_cons_zero, List.set_cons_succ]
        refine wpAnyH_take (i := 6) (v := .int .i64 sy) rfl (by kernel_rfl) (by kernel_rfl) (by kernel_rfl) (fun _ _ _ h => h) (Or.inl ⟨by rfl, fun w hS => by go_simp⟩) hHeld ?_
        simp only [Act.put, List.getElem_toArray, List.getElem_cons_zero, List.getElem_cons_succ, List.setIfInBounds_toArray, List.set_cons_zero, List.set_cons_succ]
        refine wpAnyH_done (by kernel_rfl) ?_ _
        have HHd := hidden hHeld
        have HBK2 := hidden (HBK.out.grow hHeld)
        clear hHeld hcl
        go_wp2_with (first
          | ((with_reducible refine at_ldd 26 5 ?_); refine wpList_ld _ rfl _ _ rfl b5 _ rfl HBK2.out _ _ Tryd.underlying23 HPS.out ?_)
          | (go_at_call 37; refine (HBT.out _).mono ?_; rintro e z1 ⟨rfl, a1⟩; replace HHd := hidden (grow_trans HHd.out a1); clear a1)
          | (go_at_call 38; refine (HIN.out _ HHd.out).mono ?_; rintro e z2 ⟨cs', rfl, hin2, hi2, hs2⟩; have HIN2 := hidden hin2; have HI2 := hidden hi2; have HS2 := hidden hs2; clear hin2 hi2 hs2))
        exact ⟨⟨m, tkH cs fr', cs', fr'.dropLast, by omega, by rw [HTH.out], rfl, HS2.out, HI2.out, fun cs2 fr2 t2 q => HZ2.out cs' cs2 fr2 t2 HIN2.out q⟩, by simp only [intOf]; omega⟩

end Go.Proofs.YtpbmpmiicdpehabDoor

/- put.Put and put.Cost, as contracts. -/
namespace Go.Proofs.YtpbmpmiicdpehabDoor
set_option maxRecDepth 20000
open Go.RowKit

set_option maxHeartbeats 1000000 in
theorem put_bad {w : World} {v : Value} {mk : Bool} {ct : Int → Nat} {ca : Int → Ce} (V : Vw w v mk ct ca) (h : Int) (K : List Int) (a : Option Addr) (n c : Nat) (e0 : Int) (he : vRf mk (ct h) (ca h) h n = e0) (h0 : e0 ≠ 0) : Calls Tryd.prog 6 #[v, .int .i64 h, .agg (B K), .slice a n c] w fun e w' => e = .returned (.tuple #[.int .i64 0, .int .i64 e0]) ∧ Below w.heap.size w w' := by
  have HRF : Hid (∀ w', Below w.heap.size w w' → Calls Tryd.prog 21 #[v, .int .i64 h, .slice a n c] w' fun e w'' => e = .returned (.int .i64 e0) ∧ Below w'.heap.size w' w'') := fun w' hb => by
    have := refusal_any (V.grow hb) h a n c
    rwa [he] at this
  clear V he
  go_enter Tryd.func6, Tryd.ntmps6
  go_wp2_with (first
    | ((with_reducible refine at_bxd 6 ?_); refine wpList_bx _ rfl _ _ rfl _ rfl ?_; intro w1 b5 hg5 hl5 B5 q5; have HQ5 := hidden q5; clear hg5 hl5 B5 q5)
    | (go_at_call 21; refine (HRF.out _ HQ5.out).mono ?_; rintro e w2 ⟨rfl, b2⟩; have HQ2 := hidden (grow_trans HQ5.out b2); clear b2))
  go_ret2
  exact ⟨rfl, HQ2.out⟩

set_option maxHeartbeats 1000000 in
theorem put_full {w0 w : World} {S : List Nat} {g gs room : Nat} {cs : List (Nat × Ce)} {fr : List Nat} (H : Hs w0 S w g gs room cs fr) (h : Int) (K : List Int) (a : Option Addr) (n c : Nat) (he : vRf true (cot cs h) (cat cs h) h n = 0) (hf : room < noc cs + 258) : Calls Tryd.prog 6 #[.pointer (some ⟨g, 0, none⟩), .int .i64 h, .agg (B K), .slice a n c] w fun e w' => e = .returned (.tuple #[.int .i64 0, .int .i64 9]) ∧ Below w.heap.size w w' := by
  have HRF : Hid (∀ w', Below w.heap.size w w' → Calls Tryd.prog 21 #[.pointer (some ⟨g, 0, none⟩), .int .i64 h, .slice a n c] w' fun e w'' => e = .returned (.int .i64 0) ∧ Below w'.heap.size w' w'') := fun w' hb => by
    have := refusal_any (H.vw.grow hb) h a n c
    rwa [he] at this
  have HFT : Hid (∀ w', Below w.heap.size w w' → Calls Tryd.prog 13 #[.pointer (some ⟨g, 0, none⟩), .int .i64 1] w' fun e w'' => e = .returned (.bool false) ∧ Below w'.heap.size w' w'') := fun w' hb => by
    have := fits9_any (H.grow hb) 1
    rwa [show fitsN (noc cs) room 1 = false by simp [fitsN]; omega] at this
  clear H he hf
  go_enter Tryd.func6, Tryd.ntmps6
  go_wp2_with (first
    | ((with_reducible refine at_bxd 6 ?_); refine wpList_bx _ rfl _ _ rfl _ rfl ?_; intro w1 b5 hg5 hl5 B5 q5; have HQ5 := hidden q5; clear hg5 hl5 B5 q5)
    | (go_at_call 21; refine (HRF.out _ HQ5.out).mono ?_; rintro e w2 ⟨rfl, b2⟩; have HQ2 := hidden (grow_trans HQ5.out b2); clear b2)
    | (go_at_call 13; refine (HFT.out _ HQ2.out).mono ?_; rintro e w3 ⟨rfl, b3⟩; have HQ3 := hidden (grow_trans HQ2.out b3); clear b3))
  go_ret2
  exact ⟨rfl, HQ3.out⟩

set_option maxHeartbeats 1000000 in
theorem put_same {w0 w : World} {S : List Nat} {g gs room : Nat} {cs : List (Nat × Ce)} {fr : List Nat} (H : Hs w0 S w g gs room cs fr) (h : Nat) (T : Tre) (hT : IsT cs h T) (K : List Int) (hK : Key K) (u : Value) (bs : List Int) (hu : Reads w u bs) (he : vRf true (cot cs h) (cat cs h) h bs.length = 0) (hr : vRt true (cot cs h) (cat cs h) h = 0) (hf : noc cs + 258 ≤ room) (hsm : T.efin K = [(K, bs)]) : Calls Tryd.prog 6 #[.pointer (some ⟨g, 0, none⟩), .int .i64 (h : Int), .agg (B K), u] w fun e w' => e = .returned (.tuple #[.int .i64 (h : Int), .int .i64 0]) ∧ Below w.heap.size w w' := by
  have HPN : Hid (∀ w', Below w.heap.size w w' → Calls Tryd.prog 22 #[.pointer (some ⟨g, 0, none⟩), .int .i64 (h : Int), .agg (B K), u] w' fun e w'' => e = .returned (.tuple #[.slice none 0 0, .bool true, .int .i64 0]) ∧ Below w'.heap.size w' w'') := fun w' hb => plan_same (H.vw.grow hb) H.2 h T hT K hK hr u bs (hu.grow hb) hsm
  obtain ⟨a, c, hue, _⟩ := hu
  subst hue
  have HRF : Hid (∀ w', Below w.heap.size w w' → Calls Tryd.prog 21 #[.pointer (some ⟨g, 0, none⟩), .int .i64 (h : Int), .slice a bs.length c] w' fun e w'' => e = .returned (.int .i64 0) ∧ Below w'.heap.size w' w'') := fun w' hb => by
    have := refusal_any (H.vw.grow hb) h a bs.length c
    rwa [he] at this
  have HFT : Hid (∀ w', Below w.heap.size w w' → Calls Tryd.prog 13 #[.pointer (some ⟨g, 0, none⟩), .int .i64 1] w' fun e w'' => e = .returned (.bool true) ∧ Below w'.heap.size w' w'') := fun w' hb => by
    have := fits9_any (H.grow hb) 1
    rwa [show fitsN (noc cs) room 1 = true by simp [fitsN]; omega] at this
  have HPS : Hid ((Tryd.prog.info? 23).map (·.size) = some (B K).size) := by show _ = _; rw [B_size, hK.1]; exact size_path
  generalize (h : Int) = hh at HPN HRF ⊢
  generalize bs.length = n at HPN HRF ⊢
  clear H he hf hT hK hr hsm
  go_enter Tryd.func6, Tryd.ntmps6
  go_wp2_with (first
    | ((with_reducible refine at_bxd 6 ?_); refine wpList_bx _ rfl _ _ rfl _ rfl ?_; intro w1 b5 hg5 hl5 B5 q5; have HB5 := hidden B5; have HQ5 := hidden q5; clear hg5 hl5 B5 q5)
    | (go_at_call 21; refine (HRF.out _ HQ5.out).mono ?_; rintro e w2 ⟨rfl, b2⟩; have HQ2 := hidden (grow_trans HQ5.out b2); have HB2 := hidden (HB5.out.grow b2); clear b2)
    | (go_at_call 13; refine (HFT.out _ HQ2.out).mono ?_; rintro e w3 ⟨rfl, b3⟩; have HQ3 := hidden (grow_trans HQ2.out b3); have HB3 := hidden (HB2.out.grow b3); clear b3)
    | ((with_reducible refine at_ldd 29 6 ?_); refine wpList_ld _ rfl _ _ rfl b5 _ rfl HB3.out _ _ Tryd.underlying23 HPS.out ?_)
    | (go_at_call 22; refine (HPN.out _ HQ3.out).mono ?_; rintro e w4 ⟨rfl, b4⟩; have HQ4 := hidden (grow_trans HQ3.out b4); clear b4))
  go_ret2
  exact ⟨rfl, HQ4.out⟩

/-- How Put makes the written tree. -/
def PutTo (cs : List (Nat × Ce)) (fr : List Nat) (root : Nat) (K bs : List Int) (ss : List Nat) (top : Nat) (cs' : List (Nat × Ce)) (fr' : List Nat) : Prop :=
  ∃ (v' : Value) (cs2 : List (Nat × Ce)) (fr2 : List Nat), CeOk (lfC (lfD K (vaD bs)) K v' bs) ∧ Rz K ss (tkC (holdM cs ss) fr (1, lfC (lfD K (vaD bs)) K v' bs)) fr.dropLast (tkH (holdM cs ss) fr) cs2 fr2 top ∧ ((root = 0 ∧ cs' = cs2 ∧ fr' = fr2) ∨ (1 ≤ root ∧ ∃ n, Run cs2 fr2 [root] cs' fr' n))

/-- What Put answers where it makes something. -/
def PtPost (w0 : World) (S : List Nat) (g gs room : Nat) (cs : List (Nat × Ce)) (fr : List Nat) (E : List Ent) (root : Nat) (K bs : List Int) (ss : List Nat) (e : Ending) (w' : World) : Prop :=
  ∃ (top : Nat) (cs' : List (Nat × Ce)) (fr' : List Nat), e = .returned (.tuple #[.int .i64 (top : Int), .int .i64 0]) ∧ PutTo cs fr root K bs ss top cs' fr' ∧ PutOk cs E K bs root top ss cs' ∧ Hs w0 S w' g gs room cs' fr'

theorem bes_valid {cs : List (Nat × Ce)} {E : List Ent} {K : List Int} {ss : List Nat} (b : BesOk cs E K ss) : ∀ x ∈ ss, x = 0 ∨ 0 < cc cs (x - 1) := fun x hx => by
  obtain ⟨d, hd, e⟩ := List.getElem_of_mem hx
  obtain ⟨V, v1, _⟩ := b.side d hd
  have : ss.getD d 0 = x := by rw [List.getD_eq_getElem?_getD, List.getElem?_eq_getElem hd]; exact e
  rw [this] at v1
  rcases v1.occ with q | q
  · exact .inl q
  · exact .inr q.2

set_option maxHeartbeats 4000000 in
theorem put_new {w0 w : World} {S0 : List Nat} {g gs room : Nat} {cs : List (Nat × Ce)} {fr : List Nat} (H0 : Hs w0 S0 w g gs room cs fr) (h : Nat) (T : Tre) (hT : IsT cs h T) (K : List Int) (hK : Key K) (u : Value) (bs : List Int) (hu0 : Kq S0 w0 (fun w' => Reads w' u bs)) (hL0 : Kq S0 w0 Laid) (he : vRf true (cot cs h) (cat cs h) h bs.length = 0) (hl : bs.length ≤ 1024) (hr : vRt true (cot cs h) (cat cs h) h = 0) (ho : h = 0 ∨ 0 < own cs [] (h - 1)) (hf : noc cs + 258 ≤ room) (hne : T.efin K ≠ [(K, bs)]) (ss : List Nat) (hss : BesIs K T h ss) (hbo : BesOk cs T.ents K ss) (hct : ∀ i, cc cs i + 257 < 1073741824) :
    Calls Tryd.prog 6 #[.pointer (some ⟨g, 0, none⟩), .int .i64 (h : Int), .agg (B K), u] w (PtPost w0 S0 g gs room cs fr T.ents h K bs ss) := by
  have h256 := hbo.len
  obtain ⟨S, H, hN, hkq, hS, hbk⟩ := H0.from
  have hu := hkq _ hu0
  have hL := hkq _ hL0
  have hW := H.2
  have hmk := hm_ok hW ss.length ss rfl (bes_valid hbo)
  have HPN : Hid (∀ w', Below w.heap.size w w' → Calls Tryd.prog 22 #[.pointer (some ⟨g, 0, none⟩), .int .i64 (h : Int), .agg (B K), u] w' fun e w'' => ∃ a c, e = .returned (.tuple #[.slice a ss.length c, .bool false, .int .i64 0]) ∧ w''.ownsRow w'.heap.size 3 1 (.slice a ss.length c) ss.length (nats ss) ∧ Below w'.heap.size w' w'') := fun w' hb => plan_new (H.vw.grow hb) H.2 h T hT K hK hr u bs (hu.now.grow hb) hne ss hss h256 (fun i => by have := hct i; omega)
  have HHA : Hid (∀ w4 a c, Below w.heap.size w w4 → w4.ownsRow w.heap.size 3 1 (.slice a ss.length c) ss.length (nats ss) → Calls Tryd.prog 23 #[.pointer (some ⟨g, 0, none⟩), .slice a ss.length c] w4 fun e w5 => e = .returned (.slice none 0 0) ∧ Hs w4 S w5 g gs room (holdM cs ss) fr) := fun w4 a c hb o => holdAll_any (H.rebase hb) a _ c ss (ints9_kq o rfl (fun k hk hm => by have := (o.lt k hk).1; have := hS k hm; omega)) rfl (by omega) (bes_valid hbo) (fun _ i => by have := hct i; omega)
  have HRA : Hid (∀ w4 a c w5, Below w.heap.size w w4 → w4.ownsRow w.heap.size 3 1 (.slice a ss.length c) ss.length (nats ss) → Hs w4 S w5 g gs room (holdM cs ss) fr → Calls Tryd.prog 24 #[.pointer (some ⟨g, 0, none⟩), .agg (B K), u, .slice a ss.length c] w5 fun e w6 => ∃ top : Nat, e = .returned (.int .i64 (top : Int)) ∧ ∃ v' cs2 fr2, CeOk (lfC (lfD K (vaD bs)) K v' bs) ∧ Rz K ss (tkC (holdM cs ss) fr (1, lfC (lfD K (vaD bs)) K v' bs)) fr.dropLast (tkH (holdM cs ss) fr) cs2 fr2 top ∧ RzI cs T.ents K bs ss 0 cs2 top ∧ Hs w S w6 g gs room cs2 fr2) := fun w4 a c w5 hb o h5 => by
    have i4 : Kq S w4 (fun w' => Ints9 w' a ss) := ints9_kq o rfl (fun k hk hm => by have := (o.lt k hk).1; have := hS k hm; omega)
    obtain ⟨S5, H5, hN5, hkq5, hS5, hbk5⟩ := h5.from
    refine (raise_any H5 hS5 hW hK hbo hmk hf a _ c rfl (hkq5 _ i4) (hkq5 _ (hL.grow hb)) u (hkq5 _ (hu.grow hb)) hl).mono ?_
    rintro e w6 ⟨top, v', cs2, fr2, rfl, r1, r2, r3, r4⟩
    exact ⟨top, rfl, v', cs2, fr2, r1, r2, r3, Hs.back hb (hbk5 _ _ _ r4)⟩
  have HDR : Hid (∀ w6 (top : Nat), (∃ v' cs2 fr2, CeOk (lfC (lfD K (vaD bs)) K v' bs) ∧ Rz K ss (tkC (holdM cs ss) fr (1, lfC (lfD K (vaD bs)) K v' bs)) fr.dropLast (tkH (holdM cs ss) fr) cs2 fr2 top ∧ RzI cs T.ents K bs ss 0 cs2 top ∧ Hs w S w6 g gs room cs2 fr2) → Calls Tryd.prog 20 #[.pointer (some ⟨g, 0, none⟩), .int .i64 (h : Int)] w6 fun e w7 => ∃ x y : Int, e = .returned (.tuple #[.int .i64 x, .int .i64 y]) ∧ ∃ cs' fr', PutTo cs fr h K bs ss top cs' fr' ∧ PutOk cs T.ents K bs h top ss cs' ∧ Hs w S w7 g gs room cs' fr') := fun w6 top ⟨v', cs2, fr2, r1, r2, r3, r4⟩ => by
    by_cases h0 : h = 0
    · subst h0
      refine (hs_drop_miss r4 0 (by show (0 : Nat) ≤ _; exact Nat.zero_le _)).mono ?_
      rintro e w7 ⟨rfl, h7⟩
      exact ⟨0, 7, rfl, cs2, fr2, ⟨v', cs2, fr2, r1, r2, .inl ⟨rfl, rfl, rfl⟩⟩, put_ok0 r3, h7⟩
    · have ho1 := ho.resolve_left h0
      have ho2 : 0 < own cs2 [] (h - 1) := by
        have := r3.own (h - 1)
        rw [List.take_zero, List.count_nil] at this
        omega
      have hd := hs_drop r4 (h - 1) ho2
      rw [show h - 1 + 1 = h by omega] at hd
      refine hd.mono ?_
      rintro e w7 ⟨cs', fr', k, hrun, hst, rfl, h7⟩
      exact ⟨_, _, rfl, cs', fr', ⟨v', cs2, fr2, r1, r2, .inr ⟨by omega, k, hrun⟩⟩, put_ok1 r3 ho1 (by omega) hrun hst, h7⟩
  have HH2 : Hid (∀ w7 (top : Nat), (∃ cs' fr', PutTo cs fr h K bs ss top cs' fr' ∧ PutOk cs T.ents K bs h top ss cs' ∧ Hs w S w7 g gs room cs' fr') → Calls Tryd.prog 23 #[.pointer (some ⟨g, 0, none⟩), .slice none 0 0] w7 fun e w8 => e = .returned (.slice none 0 0) ∧ ∃ cs' fr', PutTo cs fr h K bs ss top cs' fr' ∧ PutOk cs T.ents K bs h top ss cs' ∧ Hs w S w8 g gs room cs' fr') := fun w7 top ⟨cs', fr', p1, p2, p3⟩ => by
    obtain ⟨S7, H7, hN7, hkq7, hS7, hbk7⟩ := p3.from
    refine (holdAll_any H7 none 0 0 [] (fun _ _ k hk => absurd hk (by simp)) rfl (by omega) (fun x hx => by cases hx) (fun q => by omega)).mono ?_
    rintro e w8 ⟨rfl, h8⟩
    exact ⟨rfl, cs', fr', p1, p2, hbk7 _ _ _ h8⟩
  have HRF : Hid (∀ w', Below w.heap.size w w' → Calls Tryd.prog 21 #[.pointer (some ⟨g, 0, none⟩), .int .i64 (h : Int), u] w' fun e w'' => e = .returned (.int .i64 0) ∧ Below w'.heap.size w' w'') := fun w' hb => by
    obtain ⟨a, c, hue, _⟩ := hu.now
    have := refusal_any (H.vw.grow hb) h a bs.length c
    rw [he] at this
    rw [hue]
    exact this
  have HFT : Hid (∀ w', Below w.heap.size w w' → Calls Tryd.prog 13 #[.pointer (some ⟨g, 0, none⟩), .int .i64 1] w' fun e w'' => e = .returned (.bool true) ∧ Below w'.heap.size w' w'') := fun w' hb => by
    have := fits9_any (H.grow hb) 1
    rwa [show fitsN (noc cs) room 1 = true by simp [fitsN]; omega] at this
  have HPS : Hid ((Tryd.prog.info? 23).map (·.size) = some (B K).size) := by show _ = _; rw [B_size, hK.1]; exact size_path
  have HPost : Hid (∀ w8 (top : Nat), (∃ cs' fr', PutTo cs fr h K bs ss top cs' fr' ∧ PutOk cs T.ents K bs h top ss cs' ∧ Hs w S w8 g gs room cs' fr') → PtPost w0 S0 g gs room cs fr T.ents h K bs ss (.returned (.tuple #[.int .i64 (top : Int), .int .i64 0])) w8) := fun w8 top ⟨cs', fr', p1, p2, p3⟩ => ⟨top, cs', fr', rfl, p1, p2, hbk _ _ _ p3⟩
  have HBK : Hid (∀ w4 w5 b6, Below w.heap.size w w4 → w.heap.size ≤ b6 → Blk w4 b6 23 (B K) → Hs w4 S w5 g gs room (holdM cs ss) fr → Blk w5 b6 23 (B K)) := fun w4 w5 b6 hb hg hB h5 => h5.kq (Kq.blk hB (fun e => by have := hS _ e; omega))
  obtain ⟨ua, uc, hue, _⟩ := hu.now
  clear hu hu0 hL hL0
  subst hue
  obtain ⟨R7, hR7⟩ : ∃ R7 : World → Nat → Prop, R7 = fun w7 top => ∃ cs' fr', PutTo cs fr h K bs ss top cs' fr' ∧ PutOk cs T.ents K bs h top ss cs' ∧ Hs w S w7 g gs room cs' fr' := ⟨_, rfl⟩
  obtain ⟨R6, hR6⟩ : ∃ R6 : World → Nat → Prop, R6 = fun w6 top => ∃ v' cs2 fr2, CeOk (lfC (lfD K (vaD bs)) K v' bs) ∧ Rz K ss (tkC (holdM cs ss) fr (1, lfC (lfD K (vaD bs)) K v' bs)) fr.dropLast (tkH (holdM cs ss) fr) cs2 fr2 top ∧ RzI cs T.ents K bs ss 0 cs2 top ∧ Hs w S w6 g gs room cs2 fr2 := ⟨_, rfl⟩
  obtain ⟨R5, hR5⟩ : ∃ R5 : World → World → Prop, R5 = fun w4 w5 => Hs w4 S w5 g gs room (holdM cs ss) fr := ⟨_, rfl⟩
  replace HHA : Hid (∀ w4 a c, Below w.heap.size w w4 → w4.ownsRow w.heap.size 3 1 (.slice a ss.length c) ss.length (nats ss) → Calls Tryd.prog 23 #[.pointer (some ⟨g, 0, none⟩), .slice a ss.length c] w4 fun e w5 => e = .returned (.slice none 0 0) ∧ R5 w4 w5) := by rw [hR5]; exact HHA
  replace HRA : Hid (∀ w4 a c w5, Below w.heap.size w w4 → w4.ownsRow w.heap.size 3 1 (.slice a ss.length c) ss.length (nats ss) → R5 w4 w5 → Calls Tryd.prog 24 #[.pointer (some ⟨g, 0, none⟩), .agg (B K), .slice ua bs.length uc, .slice a ss.length c] w5 fun e w6 => ∃ top : Nat, e = .returned (.int .i64 (top : Int)) ∧ R6 w6 top) := by rw [hR5, hR6]; exact HRA
  replace HDR : Hid (∀ w6 (top : Nat), R6 w6 top → Calls Tryd.prog 20 #[.pointer (some ⟨g, 0, none⟩), .int .i64 (h : Int)] w6 fun e w7 => ∃ x y : Int, e = .returned (.tuple #[.int .i64 x, .int .i64 y]) ∧ R7 w7 top) := by rw [hR6, hR7]; exact HDR
  replace HH2 : Hid (∀ w7 (top : Nat), R7 w7 top → Calls Tryd.prog 23 #[.pointer (some ⟨g, 0, none⟩), .slice none 0 0] w7 fun e w8 => e = .returned (.slice none 0 0) ∧ R7 w8 top) := by rw [hR7]; exact HH2
  replace HPost : Hid (∀ w8 (top : Nat), R7 w8 top → PtPost w0 S0 g gs room cs fr T.ents h K bs ss (.returned (.tuple #[.int .i64 (top : Int), .int .i64 0])) w8) := by rw [hR7]; exact HPost
  replace HBK : Hid (∀ w4 w5 b6, Below w.heap.size w w4 → w.heap.size ≤ b6 → Blk w4 b6 23 (B K) → R5 w4 w5 → Blk w5 b6 23 (B K)) := by rw [hR5]; exact HBK
  generalize PtPost w0 S0 g gs room cs fr T.ents h K bs ss = P at HPost ⊢
  generalize (h : Int) = hh at HPN HRF HDR ⊢
  generalize bs.length = un at HPN HRF HRA ⊢
  generalize nats ss = nss at HPN HHA HRA
  generalize ss.length = sn at HPN HHA HRA
  clear hR7 hR6 hR5 H0 H hN hkq hS hbk hW hmk hT hK he hl hr ho hf hne hss hbo hct h256
  go_enter Tryd.func6, Tryd.ntmps6
  go_wp2_with (first
    | ((with_reducible refine at_bxd 6 ?_); refine wpList_bx _ rfl _ _ rfl _ rfl ?_; intro w1 b5 hg5 hl5 B5 q5; have HB5 := hidden B5; have HQ5 := hidden q5; have HG5 := hidden hg5; clear hg5 hl5 B5 q5)
    | (go_at_call 21; refine (HRF.out _ HQ5.out).mono ?_; rintro e w2 ⟨rfl, b2⟩; have HQ2 := hidden (grow_trans HQ5.out b2); have HB2 := hidden (HB5.out.grow b2); clear b2)
    | (go_at_call 13; refine (HFT.out _ HQ2.out).mono ?_; rintro e w3 ⟨rfl, b3⟩; have HQ3 := hidden (grow_trans HQ2.out b3); have HB3 := hidden (HB2.out.grow b3); clear b3)
    | ((with_reducible refine at_ldd 29 6 ?_); refine wpList_ld _ rfl _ _ rfl b5 _ rfl HB3.out _ _ Tryd.underlying23 HPS.out ?_)
    | (go_at_call 22; refine (HPN.out _ HQ3.out).mono ?_; rintro e w4 ⟨sa, sc, rfl, o4, b4⟩; have HO4 := hidden (owR_base o4 HQ3.out.size); have HQ4 := hidden (grow_trans HQ3.out b4); have HB4 := hidden (HB3.out.grow b4); clear b4 o4)
    | (go_at_call 23; have mk := mk1; clear mk; refine (HH2.out _ _ HR7.out).mono ?_; rintro e w8 ⟨rfl, r8⟩; have HR8 := hidden r8; clear r8)
    | (go_at_call 23; refine (HHA.out _ _ _ HQ4.out HO4.out).mono ?_; rintro e w5 ⟨rfl, r5⟩; have HR5 := hidden r5; have HB6 := hidden (HBK.out _ _ _ HQ4.out HG5.out HB4.out r5); clear r5; have mk1 : Hid True := trivial)
    | ((with_reducible refine at_ldd 44 6 ?_); refine wpList_ld _ rfl _ _ rfl b5 _ rfl HB6.out _ _ Tryd.underlying23 HPS.out ?_)
    | (go_at_call 24; refine (HRA.out _ _ _ _ HQ4.out HO4.out HR5.out).mono ?_; rintro e w6 ⟨top, rfl, r6⟩; have HR6 := hidden r6; clear r6)
    | (go_at_call 20; refine (HDR.out _ _ HR6.out).mono ?_; rintro e w7 ⟨x7, y7, rfl, r7⟩; have HR7 := hidden r7; clear r7))
  exact HPost.out _ _ HR8.out

end Go.Proofs.YtpbmpmiicdpehabDoor
