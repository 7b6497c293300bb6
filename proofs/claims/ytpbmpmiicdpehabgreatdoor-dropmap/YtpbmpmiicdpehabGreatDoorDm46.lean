/- DropMap's walk. -/
import Derived.Test.YtpbmpmiicdpehabGreatDoorDm45
import Derived.Test.YtpbmpmiicdpehabGreatDoorRows
import Derived.ProofKit
import Derived.OpenShut
import Derived.ShutString
import Derived.ChangeOld
import Derived.Below
import Derived.SizedLaws
import Derived.Test.YtpbmpmiicdpehabGreatDoorDm02
namespace Go.Proofs.YtpbmpmiicdpehabGreatDoor
set_option maxRecDepth 20000
open Go.RowKit

set_option maxHeartbeats 16000000 in
theorem dropMap_walk (v kv : Value) (V : Nat → Value) (es : List Ent) (ks : List (List Int)) (w : World) (hL : Laid w) (hv : PrAt w v V es) (hn : es.length ≤ 140737488355328) (hks : PsAt w kv ks) : Calls Tryz.prog 3 #[v, kv] w fun e w' => e = .returned (.bool true) ∧ Below w.heap.size w w' := by
  have HAW : Hid (Calls Tryz.prog 5 #[] w fun e w'' => e = .returned (.bool true) ∧ Below w.heap.size w w'') := awake10_any w (fun w'' h => hL.grow h)
  have HUN : Hid (∀ w', Below w.heap.size w w' → Calls Tryz.prog 6 #[v] w' fun e w'' => e = .returned (.bool (unP es)) ∧ Below w'.heap.size w' w'') := fun w' hb => unlike_any (hv.grow hb) hn (hL.grow hb)
  have HFL : Hid (unP es = true → ∀ w', Below w.heap.size w w' → Calls Tryz.prog 7 #[v] w' fun e w'' => ∃ (g gs root : Nat), e = .returned (.tuple #[.pointer (some ⟨g, 0, none⟩), .int .i64 (root : Int), .bool true]) ∧ Dq w' w'' g gs es root v es) := fun hu w' hb => by
    obtain ⟨u1, u2, u3⟩ := unP_yes hu
    refine (filled_any (hv.grow hb) u1 u2 u3 (fun w'' h => hL.grow (grow_trans hb h))).mono ?_
    rintro e w'' ⟨g, gs, root, rfl, d⟩
    exact ⟨g, gs, root, rfl, dq_new d (fun w3 h => hv.grow (grow_trans hb h))⟩
  have HLD : Hid (∀ w1 w', Below w.heap.size w w1 → Below w1.heap.size w1 w' → Laid w') := fun w1 w' h1 h2 => hL.grow (grow_trans h1 h2)
  obtain ⟨ka, kc, rfl, hkc, hk1, hk2⟩ := hks
  have HKS : Hid (∀ k, k < ks.length → ∃ pb off K, ka = some ⟨pb, off, none⟩ ∧ ks.take (k + 1) = ks.take k ++ [K] ∧ Key K ∧ ∀ w', Below w.heap.size w w' → w'.rangeAt pb (off + k * 32) (B K).toList) := fun k hk => by
    obtain ⟨g, off, e1, h1⟩ := hk1 (by omega)
    have hg : ks.getD k [] = ks[k] := by simp [List.getD, hk]
    refine ⟨g, off, ks.getD k [], e1, ?_, hk2 k hk, fun w' hb => rng_grow (h1 k hk) hb⟩
    rw [List.take_succ_eq_append_getElem hk, hg]
  have HUP : Hid (unP es = true → es.length ≤ 14 ∧ (∀ e ∈ es, e.2.length ≤ 1024) ∧ es.Pairwise fun a b => a.1 ≠ b.1) := unP_yes
  obtain ⟨va, vc, hve, _⟩ := hv
  subst hve
  obtain ⟨el, hel⟩ : ∃ el, el = es.length := ⟨_, rfl⟩
  rw [← hel] at HUN HFL ⊢
  have HEL := hidden hel
  generalize ks.length = m at HKS ⊢
  cases hu : unP es with
  | false =>
    rw [hu] at HUN
    clear HFL HKS HLD HUP hL hn hkc hk1 hk2 hel hu
    go_enter Tryz.func3, Tryz.ntmps3
    go_wp2_with (first
      | (go_at_call 5; refine HAW.out.mono ?_; rintro e x1 ⟨rfl, b1⟩; have HB1 := hidden b1; clear b1)
      | (go_at_call 6; refine (HUN.out _ HB1.out).mono ?_; rintro e x2 ⟨rfl, b2⟩; have HB2 := hidden (grow_trans HB1.out b2); clear b2))
    go_ret
    exact ⟨rfl, HB2.out⟩
  | true =>
    rw [hu] at HUN
    replace HFL := hidden (HFL.out hu)
    replace HUP := hidden (HUP.out hu)
    by_cases hm : m ≤ 14
    · have hm1 : ¬ (14 : Int) < (m : Int) := by omega
      clear hL hn hkc hk1 hk2 hel hu
      go_enter Tryz.func3, Tryz.ntmps3
      go_wp2_with (first
        | (go_at_call 5; refine HAW.out.mono ?_; rintro e x1 ⟨rfl, b1⟩; have HB1 := hidden b1; clear b1)
        | (go_at_call 6; refine (HUN.out _ HB1.out).mono ?_; rintro e w1 ⟨rfl, b2⟩; have HB2 := hidden (grow_trans HB1.out b2); clear b2)
        | (go_at_call 7; refine (HFL.out _ HB2.out).mono ?_; rintro e w2 ⟨g, gs, root0, rfl, d0⟩; have HD0 := hidden d0; clear d0))
      have HL1 : Hid (∀ w', Below w1.heap.size w1 w' → Laid w') := fun w' h => HLD.out w1 w' HB2.out h
      have HS0 : Hid (Dq w1 w2 g gs (dlL es (ks.take 0)) root0 (.slice va el vc) (dlL es (ks.take 0)) ∧ el = (dlL es (ks.take 0)).length) := ⟨HD0.out, HEL.out⟩
      clear HFL HUN HAW HD0 HLD
      go_loopw [7, 9, 10] (fun rv lv iv wr => ∃ (k root : Nat) (la : Option Addr) (ll lc : Nat), k ≤ m ∧ rv = .int .i64 (root : Int) ∧ lv = .slice la ll lc ∧ iv = .int .i64 (k : Int) ∧ Hid (Dq w1 wr g gs (dlL es (ks.take k)) root (.slice la ll lc) (dlL es (ks.take k)) ∧ ll = (dlL es (ks.take k)).length)) (fun _ _ iv _ => m - (intOf iv).toNat)
      case atStart => exact ⟨0, root0, va, el, vc, by omega, rfl, rfl, rfl, HS0.out⟩
      case round =>
        clear HS0
        obtain ⟨k, root, la, ll, lc, hk, rfl, rfl, rfl, HST⟩ := hrel
        by_cases hlt : k < m
        · obtain ⟨pb, off, K, rfl, htk, hKey, hrg⟩ := HKS.out k hlt
          have hsub := dlL_sub es (ks.take k)
          have hF14 : (dlL es (ks.take k)).length ≤ 14 := Nat.le_trans hsub.length_le HUP.out.1
          have hFv : ∀ e ∈ dlE (dlL es (ks.take k)) K, e.2.length ≤ 1024 := fun e he => HUP.out.2.1 e (hsub.subset (List.mem_filter.1 he).1)
          have hFa : (dlE (dlL es (ks.take k)) K).Pairwise fun a b => a.1 ≠ b.1 := (HUP.out.2.2.sublist hsub).sublist List.filter_sublist
          have HNX : Hid (∀ w' a c tn, Dq w1 w' g gs (dlE (dlL es (ks.take k)) K) tn (.slice a (dlE (dlL es (ks.take k)) K).length c) (dlE (dlL es (ks.take k)) K) → Dq w1 w' g gs (dlL es (ks.take (k + 1))) tn (.slice a (dlE (dlL es (ks.take k)) K).length c) (dlL es (ks.take (k + 1))) ∧ (dlE (dlL es (ks.take k)) K).length = (dlL es (ks.take (k + 1))).length) := fun w' a c tn h => by
            rw [htk, dlL_snoc]
            exact ⟨h, rfl⟩
          have hST := HST.out
          generalize dlL es (ks.take k) = F at hST hF14 hFv hFa HNX
          have hq := nN_le 256 0 F
          have hq2 : F.length * (256 + 1) ≤ 14 * 257 := Nat.mul_le_mul_right _ hF14
          have hF14' : (dlE F K).length ≤ 14 := Nat.le_trans (dl_len F K) hF14
          have hr := nN_le 256 0 (dlE F K)
          have hr2 : (dlE F K).length * (256 + 1) ≤ 14 * 257 := Nat.mul_le_mul_right _ hF14'
          have HWO : Hid (∀ w', Dq w1 w' g gs F root (.slice la ll lc) F → Calls Tryz.prog 8 #[.slice la ll lc, .agg (B K)] w' fun e w'' => ∃ a c, e = .returned (.tuple #[.slice a (dlE F K).length c, .bool (hasK F K)]) ∧ Dq w1 w'' g gs F root (.slice a (dlE F K).length c) (dlE F K)) := fun w' h => h.without hF14 hKey
          have HOC1 : Hid (∀ w' v' E', Dq w1 w' g gs F root v' E' → Calls Tryz.prog 10 #[.pointer (some ⟨g, 0, none⟩)] w' fun e w'' => e = .returned (.int .i64 (nN 256 0 F : Int)) ∧ Below w'.heap.size w' w'') := fun w' v' E' h => h.occ
          have HRO : Hid (∀ w' a c tn, Dq w1 w' g gs (dlE F K) tn (.slice a (dlE F K).length c) (dlE F K) → Calls Tryz.prog 12 #[.slice a (dlE F K).length c] w' fun e w'' => e = .returned (.tuple #[.agg (B (rt 256 0 (dlE F K))), .int .i64 0]) ∧ Below w'.heap.size w' w'') := fun w' a c tn h => by
            obtain ⟨V', hp⟩ := h.list
            refine (Root_any _ V' (dlE F K) w' hp (by omega) (HL1.out _ h.low)).mono ?_
            rintro e w'' ⟨hh, E0, rfl, p, b⟩
            obtain ⟨e1, e2⟩ := root_of (by omega) hFv hFa p
            rw [e1, e2]
            exact ⟨rfl, b⟩
          have hHl : (rt 256 0 (dlE F K)).length = 32 := by
            obtain ⟨hh, E0, hri⟩ := rootIs_ex (dlE F K) 0
            obtain ⟨e1, _⟩ := root_of (by omega) hFv hFa hri
            rw [← e1]
            exact hri.len
          have HHS : Hid ((Tryz.prog.info? 39).map (·.size) = some (B (rt 256 0 (dlE F K))).size ∧ (B z32).size = (B (rt 256 0 (dlE F K))).size) := ⟨by rw [B_size, hHl]; exact size_hash, by rw [B_size, B_size, hHl]; rfl⟩
          have HHL : Hid ((Tryz.prog.info? 39).map (·.size) = some (B (rt 256 0 (dlE F K))).toList.length) := by show _ = _; rw [B_toList, List.length_map, hHl]; exact size_hash
          have hE := hash_eq (rt 256 0 (dlE F K)) (rt 256 0 (dlE F K)) hHl hHl
          simp only [decide_true] at hE
          have HDG : Hid (∀ a c (tn : Nat) (ty : Int), ty = (tn : Int) → ∀ w', Dq w1 w' g gs (dlE F K) tn (.slice a (dlE F K).length c) (dlE F K) → Calls Tryz.prog 13 #[.pointer (some ⟨g, 0, none⟩), .int .i64 ty] w' fun e w'' => e = .returned (.agg (B (rt 256 0 (dlE F K)))) ∧ Below w'.heap.size w' w'') := fun a c tn ty hty w' h => by rw [hty]; exact h.dig (HL1.out _ h.low)
          have HSZ : Hid (∀ a c (tn : Nat) (ty : Int), ty = (tn : Int) → ∀ w', Dq w1 w' g gs (dlE F K) tn (.slice a (dlE F K).length c) (dlE F K) → Calls Tryz.prog 14 #[.pointer (some ⟨g, 0, none⟩), .int .i64 ty] w' fun e w'' => e = .returned (.int .i64 ((dlE F K).length : Int)) ∧ Below w'.heap.size w' w'') := fun a c tn ty hty w' h => by rw [hty]; exact h.size
          have HRE : Hid (∀ a c (tn : Nat) (ty : Int), ty = (tn : Int) → ∀ w', Dq w1 w' g gs (dlE F K) tn (.slice a (dlE F K).length c) (dlE F K) → Calls Tryz.prog 15 #[.pointer (some ⟨g, 0, none⟩), .int .i64 ty] w' fun e w'' => e = .returned (.int .i64 (nN 256 0 (dlE F K) : Int)) ∧ Below w'.heap.size w' w'') := fun a c tn ty hty w' h => by rw [hty]; exact h.reach (by omega)
          have HOC3 : Hid (∀ a c (tn : Nat) w', Dq w1 w' g gs (dlE F K) tn (.slice a (dlE F K).length c) (dlE F K) → Calls Tryz.prog 10 #[.pointer (some ⟨g, 0, none⟩)] w' fun e w'' => e = .returned (.int .i64 (nN 256 0 (dlE F K) : Int)) ∧ Below w'.heap.size w' w'') := fun a c tn w' h => h.occ
          have HRG : Hid (∀ w', Below w1.heap.size w1 w' → w'.rangeAt pb (off + k * 32) (B K).toList) := fun w' h => hrg w' (grow_trans HB2.out h)
          have HKL := hidden hKey.1
          have HD : Hid (Dq w1 wr g gs F root (.slice la ll lc) F) := hST.1
          have HLL := hidden hST.2
          have k0 : (0 : Int) ≤ (k : Int) := by omega
          have k1 : (k : Int) < (m : Int) := by omega
          have hk16 : k < 16 := by omega
          have hwk : wrap64 ((k : Int) + 1) = ((k + 1 : Nat) : Int) := by rw [Go.IntWalk.wrap64_in _ (by omega)]; rfl
          cases hth : hasK F K with
          | true =>
            as_aux_lemma =>
              have HCO : Hid (∀ w' v' E', Dq w1 w' g gs F root v' E' → Calls Tryz.prog 9 #[.pointer (some ⟨g, 0, none⟩), .int .i64 (root : Int), .agg (B K)] w' fun e w'' => ∃ c : Nat, (c : Int) ≤ 256 ∧ e = .returned (.tuple #[.int .i64 (c : Int), .int .i64 0]) ∧ Below w'.heap.size w' w'') := fun w' v' E' h => by
                obtain ⟨c, c1, _, c3⟩ := h.cost hKey
                exact (c3 w' (Below.refl _ _)).mono fun e w'' ⟨q1, q2⟩ => ⟨c, by omega, q1, q2⟩
              have HDR : Hid (∀ w' v', Dq w1 w' g gs F root v' (dlE F K) → Calls Tryz.prog 11 #[.pointer (some ⟨g, 0, none⟩), .int .i64 (root : Int), .agg (B K)] w' fun e w'' => ∃ (ty : Int) (tn : Nat), e = .returned (.tuple #[.int .i64 ty, .bool true, .int .i64 0]) ∧ ty = (tn : Int) ∧ Dq w1 w'' g gs (dlE F K) tn v' (dlE F K)) := fun w' v' h => by
                refine (h.drop hKey HL1.out (by omega)).mono ?_
                rintro e w'' ⟨top, rfl, q1, _⟩
                exact ⟨_, top, by rw [hth], rfl, q1⟩
              rw [hth] at HWO
              generalize rt 256 0 (dlE F K) = H at HRO HHS HHL hE HDG
              generalize (nN 256 0 F : Int) = o1 at HOC1
              generalize (nN 256 0 (dlE F K) : Int) = o2 at HRE HOC3
              generalize dlE F K = F' at HWO HRO HDG HSZ HRE HOC3 HDR HNX
              generalize F'.length = fl at HWO HRO HDG HSZ HRE HOC3 HNX
              generalize (root : Int) = ry at HCO HDR ⊢
              clear hST hF14 hFv hFa hq hq2 hF14' hr hr2 hHl hKey hrg htk hsub HST HKS HL1 HUP hk hth HLL
              go_wp2_with (first
                | ((with_reducible refine at_ldd 51 50 ?_); refine wpList_ldk _ rfl _ rfl pb (off + k * 32) K rfl (HRG.out _ HD.out.low) HKL.out ?_)
                | ((with_reducible refine at_ldd 61 60 ?_); refine wpList_ldk _ rfl _ rfl pb (off + k * 32) K rfl (HRG.out _ HD.out.low) HKL.out ?_)
                | ((with_reducible refine at_ldd 73 72 ?_); refine wpList_ldk _ rfl _ rfl pb (off + k * 32) K rfl (HRG.out _ HD.out.low) HKL.out ?_)
                | (go_at_call 8; refine (HWO.out _ HD.out).mono ?_; rintro e x1 ⟨ra, rc, rfl, d1⟩; replace HD := hidden d1; clear d1)
                | (go_at_call 9; refine (HCO.out _ _ _ HD.out).mono ?_; rintro e x2 ⟨c, hc, rfl, b2⟩; have hcn : ¬ (256 : Int) < (c : Int) := Int.not_lt.2 hc; clear hc; replace HD := hidden (HD.out.grow b2); clear b2)
                | (go_at_call 10; refine (HOC1.out _ _ _ HD.out).mono ?_; rintro e x3 ⟨rfl, b3⟩; replace HD := hidden (HD.out.grow b3); clear b3; have mk1 : Hid True := trivial)
                | (go_at_call 11; refine (HDR.out _ _ HD.out).mono ?_; rintro e x4 ⟨ty, tn, rfl, hty, d4⟩; have HTY := hidden hty; have HA0 := hidden d4; clear d4 hty; replace HDG := hidden (HDG.out ra rc tn ty HTY.out); replace HSZ := hidden (HSZ.out ra rc tn ty HTY.out); replace HRE := hidden (HRE.out ra rc tn ty HTY.out); have HOC2 := hidden (HOC3.out ra rc tn); have HA := HA0; clear HA0)
                | (go_at_call 12; refine (HRO.out _ _ _ _ HA.out).mono ?_; rintro e x5 ⟨rfl, b5⟩; replace HA := hidden (HA.out.grow b5); clear b5)
                | ((with_reducible refine at_ald 19 ?_); refine wpList_al _ rfl _ rfl _ zero_hash ?_; intro x8b bh hgh hlh BH q3; have HBZ := hidden BH; have HGH := hidden hgh; have HQ8 := hidden q3; clear hgh hlh BH q3)
                | ((with_reducible refine at_st 19 ?_); refine wpList_sto _ rfl _ _ _ rfl bh _ (B H) rfl rfl HBZ.out HHS.out.1 HHS.out.2 (B_one _) ?_; intro x9 BH r4; have HBH := hidden BH; replace HA := hidden (HA.out.grow (below_row HQ8.out r4 HGH.out)); clear BH r4))
              refine wp_region_held_drew (S := fun w' => Below x9.heap.size x9 w') (by kernel_rfl) ((below_drewN (Below.refl _ _) 1)) (fun hHeld => ?_)
              refine wpAnyH_take (i := 0) (v := .pointer (some ⟨g, 0, none⟩)) rfl (by kernel_rfl) (by kernel_rfl) (by kernel_rfl) (fun _ _ _ h => h) (Or.inl ⟨by rfl, fun w hS => by go_simp⟩) hHeld ?_
              simp only [Act.put, List.getElem_toArray, List.getElem_cons_zero, List.setIfInBounds_toArray, List.set_cons_zero, List.set_cons_succ]
              refine wpAnyH_take (i := 1) (v := .int .i64 ty) rfl (by kernel_rfl) (by kernel_rfl) (by kernel_rfl) (fun _ _ _ h => h) (Or.inl ⟨by rfl, fun w hS => by go_simp⟩) hHeld ?_
              simp only [Act.put, List.getElem_toArray, List.getElem_cons_zero, List.getElem_cons_succ, List.setIfInBounds_toArray, List.set_cons_zero, List.set_cons_succ]
              refine wpAnyH_take (i := 3) (v := .agg (B H)) rfl (by kernel_rfl) (by kernel_rfl) (by kernel_rfl) (fun _ _ _ h => h) (yieldsIf_load_mid rfl 39 (.tmp 19) rfl bh 0 rfl (B H).toList _ (fun w hS => (HBH.out.grow hS).range) Tryz.underlying39 rfl HHL.out) hHeld ?_
              simp only [Act.put, List.getElem_toArray, List.getElem_cons_zero, List.getElem_cons_succ, List.setIfInBounds_toArray, List.set_cons_zero, List.set_cons_succ]
              refine wpAnyH_ready (rs := [2]) (by kernel_rfl) (by simp) ?_
              refine AllReadyH.cons rfl (fun KQ hK => ?_) AllReadyH.nil
              go_simp
              refine (HDG.out _ (HA.out.grow hHeld)).mono ?_
              rintro e y1 ⟨rfl, a1⟩
              refine hK.out _ _ (grow_trans hHeld a1) (fun hHeld => ?_)
              clear hK KQ
              refine wpAnyH_take (i := 4) (v := .bool false) rfl (by kernel_rfl) (by kernel_rfl) (by kernel_rfl) (fun _ _ _ h => h) (Or.inl ⟨by rfl, fun w hS => by go_simp⟩) hHeld ?_
              simp only [Act.put, List.getElem_toArray, List.getElem_cons_zero, List.getElem_cons_succ, List.setIfInBounds_toArray, List.set_cons_zero, List.set_cons_succ]
              refine wpAnyH_take (i := 5) (v := .bool false) rfl (by kernel_rfl) (by kernel_rfl) (by kernel_rfl) (fun _ _ _ h => h) (Or.inl ⟨by rfl, fun w hS => by go_simp⟩) hHeld ?_
              simp only [Act.put, List.getElem_toArray, List.getElem_cons_zero, List.getElem_cons_succ, List.setIfInBounds_toArray, List.set_cons_zero, List.set_cons_succ]
              refine wpAnyH_take (i := 6) (v := .pointer (some ⟨g, 0, none⟩)) rfl (by kernel_rfl) (by kernel_rfl) (by kernel_rfl) (fun _ _ _ h => h) (Or.inl ⟨by rfl, fun w hS => by go_simp⟩) hHeld ?_
              simp only [Act.put, List.getElem_toArray, List.getElem_cons_zero, List.getElem_cons_succ, List.setIfInBounds_toArray, List.set_cons_zero, List.set_cons_succ]
              refine wpAnyH_take (i := 7) (v := .int .i64 ty) rfl (by kernel_rfl) (by kernel_rfl) (by kernel_rfl) (fun _ _ _ h => h) (Or.inl ⟨by rfl, fun w hS => by go_simp⟩) hHeld ?_
              simp only [Act.put, List.getElem_toArray, List.getElem_cons_zero, List.getElem_cons_succ, List.setIfInBounds_toArray, List.set_cons_zero, List.set_cons_succ]
              refine wpAnyH_take (i := 9) (v := .slice ra fl rc) rfl (by kernel_rfl) (by kernel_rfl) (by kernel_rfl) (fun _ _ _ h => h) (Or.inl ⟨by rfl, fun w hS => by go_simp⟩) hHeld ?_
              simp only [Act.put, List.getElem_toArray, List.getElem_cons_zero, List.getElem_cons_succ, List.setIfInBounds_toArray, List.set_cons_zero, List.set_cons_succ]
              refine wpAnyH_take (i := 10) (v := .int .i64 (fl : Int)) rfl (by kernel_rfl) (by kernel_rfl) (by kernel_rfl) (fun _ _ _ h => h) (Or.inl ⟨by rfl, fun w hS => by go_simp⟩) hHeld ?_
              simp only [Act.put, List.getElem_toArray, List.getElem_cons_zero, List.getElem_cons_succ, List.setIfInBounds_toArray, List.set_cons_zero, List.set_cons_succ]
              refine wpAnyH_ready (rs := [8]) (by kernel_rfl) (by simp) ?_
              refine AllReadyH.cons rfl (fun KQ hK => ?_) AllReadyH.nil
              go_simp
              refine (HSZ.out _ (HA.out.grow hHeld)).mono ?_
              rintro e y2 ⟨rfl, a1⟩
              refine hK.out _ _ (grow_trans hHeld a1) (fun hHeld => ?_)
              clear hK KQ
              refine wpAnyH_take (i := 11) (v := .bool false) rfl (by kernel_rfl) (by kernel_rfl) (by kernel_rfl) (fun _ _ _ h => h) (Or.inl ⟨by rfl, fun w hS => by go_simp⟩) hHeld ?_
              simp only [Act.put, List.getElem_toArray, List.getElem_cons_zero, List.getElem_cons_succ, List.setIfInBounds_toArray, List.set_cons_zero, List.set_cons_succ]
              refine wpAnyH_take (i := 12) (v := .bool false) rfl (by kernel_rfl) (by kernel_rfl) (by kernel_rfl) (fun _ _ _ h => h) (Or.inl ⟨by rfl, fun w hS => by go_simp⟩) hHeld ?_
              simp only [Act.put, List.getElem_toArray, List.getElem_cons_zero, List.getElem_cons_succ, List.setIfInBounds_toArray, List.set_cons_zero, List.set_cons_succ]
              refine wpAnyH_take (i := 13) (v := .bool false) rfl (by kernel_rfl) (by kernel_rfl) (by kernel_rfl) (fun _ _ _ h => h) (Or.inl ⟨by rfl, fun w hS => by go_simp⟩) hHeld ?_
              simp only [Act.put, List.getElem_toArray, List.getElem_cons_zero, List.getElem_cons_succ, List.setIfInBounds_toArray, List.set_cons_zero, List.set_cons_succ]
              refine wpAnyH_take (i := 14) (v := .pointer (some ⟨g, 0, none⟩)) rfl (by kernel_rfl) (by kernel_rfl) (by kernel_rfl) (fun _ _ _ h => h) (Or.inl ⟨by rfl, fun w hS => by go_simp⟩) hHeld ?_
              simp only [Act.put, List.getElem_toArray, List.getElem_cons_zero, List.getElem_cons_succ, List.setIfInBounds_toArray, List.set_cons_zero, List.set_cons_succ]
              refine wpAnyH_take (i := 16) (v := .pointer (some ⟨g, 0, none⟩)) rfl (by kernel_rfl) (by kernel_rfl) (by kernel_rfl) (fun _ _ _ h => h) (Or.inl ⟨by rfl, fun w hS => by go_simp⟩) hHeld ?_
              simp only [Act.put, List.getElem_toArray, List.getElem_cons_zero, List.getElem_cons_succ, List.setIfInBounds_toArray, List.set_cons_zero, List.set_cons_succ]
              refine wpAnyH_take (i := 17) (v := .int .i64 ty) rfl (by kernel_rfl) (by kernel_rfl) (by kernel_rfl) (fun _ _ _ h => h) (Or.inl ⟨by rfl, fun w hS => by go_simp⟩) hHeld ?_
              simp only [Act.put, List.getElem_toArray, List.getElem_cons_zero, List.getElem_cons_succ, List.setIfInBounds_toArray, List.set_cons_zero, List.set_cons_succ]
              refine wpAnyH_ready (rs := [15]) (by kernel_rfl) (by simp) ?_
              refine AllReadyH.cons rfl (fun KQ hK => ?_) AllReadyH.nil
              go_simp
              refine (HOC2.out _ (HA.out.grow hHeld)).mono ?_
              rintro e y3 ⟨rfl, a1⟩
              refine hK.out _ _ (grow_trans hHeld a1) (fun hHeld => ?_)
              clear hK KQ
              refine wpAnyH_ready (rs := [18]) (by kernel_rfl) (by simp) ?_
              refine AllReadyH.cons rfl (fun KQ hK => ?_) AllReadyH.nil
              go_simp
              refine (HRE.out _ (HA.out.grow hHeld)).mono ?_
              rintro e y4 ⟨rfl, a1⟩
              refine hK.out _ _ (grow_trans hHeld a1) (fun hHeld => ?_)
              clear hK KQ
              refine wpAnyH_take (i := 19) (v := .bool false) rfl (by kernel_rfl) (by kernel_rfl) (by kernel_rfl) (fun _ _ _ h => h) (Or.inl ⟨by rfl, fun w hS => by go_simp⟩) hHeld ?_
              simp only [Act.put, List.getElem_toArray, List.getElem_cons_zero, List.getElem_cons_succ, List.setIfInBounds_toArray, List.set_cons_zero, List.set_cons_succ]
              refine wpAnyH_take (i := 20) (v := .bool false) rfl (by kernel_rfl) (by kernel_rfl) (by kernel_rfl) (fun _ _ _ h => h) (Or.inl ⟨by rfl, fun w hS => by go_simp⟩) hHeld ?_
              simp only [Act.put, List.getElem_toArray, List.getElem_cons_zero, List.getElem_cons_succ, List.setIfInBounds_toArray, List.set_cons_zero, List.set_cons_succ]
              refine wpAnyH_done (by kernel_rfl) ?_ _
              have HAE := hidden (HA.out.grow hHeld)
              clear hHeld
              go_wp2_with fail
              exact ⟨⟨k + 1, tn, ra, fl, rc, by omega, by rw [HTY.out], rfl, by go_num, HNX.out _ _ _ _ HAE.out⟩, by simp [intOf]; exact mea_step k1⟩
          | false =>
            as_aux_lemma =>
              have hdl := dl_none hth
              have HCO : Hid (∀ w' v' E', Dq w1 w' g gs F root v' E' → Calls Tryz.prog 9 #[.pointer (some ⟨g, 0, none⟩), .int .i64 (root : Int), .agg (B K)] w' fun e w'' => ∃ c : Int, c = 0 ∧ e = .returned (.tuple #[.int .i64 c, .int .i64 0]) ∧ Below w'.heap.size w' w'') := fun w' v' E' h => by
                obtain ⟨c, _, c2, c3⟩ := h.cost hKey
                exact (c3 w' (Below.refl _ _)).mono fun e w'' ⟨q1, q2⟩ => ⟨(c : Int), by rw [c2 hth]; rfl, q1, q2⟩
              have HDR : Hid (∀ w' v', Dq w1 w' g gs F root v' (dlE F K) → Calls Tryz.prog 11 #[.pointer (some ⟨g, 0, none⟩), .int .i64 (root : Int), .agg (B K)] w' fun e w'' => ∃ (ty : Int) (tn : Nat), e = .returned (.tuple #[.int .i64 ty, .bool false, .int .i64 0]) ∧ ty = (tn : Int) ∧ ty = (root : Int) ∧ Dq w1 w'' g gs (dlE F K) tn v' (dlE F K)) := fun w' v' h => by
                refine (h.drop hKey HL1.out (by omega)).mono ?_
                rintro e w'' ⟨top, rfl, q1, q2⟩
                exact ⟨_, top, by rw [hth], rfl, by rw [q2 hth], q1⟩
              rw [hth] at HWO
              have HOE : Hid ((nN 256 0 (dlE F K) : Int) = (nN 256 0 F : Int)) := by show _ = _; rw [hdl]
              rw [HOE.out] at HRE HOC3
              generalize rt 256 0 (dlE F K) = H at HRO HHS HHL hE HDG
              generalize (nN 256 0 F : Int) = o1 at HOC1 HRE HOC3
              generalize dlE F K = F' at HWO HRO HDG HSZ HRE HOC3 HDR HNX
              generalize F'.length = fl at HWO HRO HDG HSZ HRE HOC3 HNX
              generalize (root : Int) = ry at HCO HDR ⊢
              clear hST hF14 hFv hFa hq hq2 hF14' hr hr2 hHl hKey hrg htk hsub HST HKS HL1 HUP hk hth HLL hdl HOE
              go_wp2_with (first
                | ((with_reducible refine at_ldd 51 50 ?_); refine wpList_ldk _ rfl _ rfl pb (off + k * 32) K rfl (HRG.out _ HD.out.low) HKL.out ?_)
                | ((with_reducible refine at_ldd 61 60 ?_); refine wpList_ldk _ rfl _ rfl pb (off + k * 32) K rfl (HRG.out _ HD.out.low) HKL.out ?_)
                | ((with_reducible refine at_ldd 73 72 ?_); refine wpList_ldk _ rfl _ rfl pb (off + k * 32) K rfl (HRG.out _ HD.out.low) HKL.out ?_)
                | (go_at_call 8; refine (HWO.out _ HD.out).mono ?_; rintro e x1 ⟨ra, rc, rfl, d1⟩; replace HD := hidden d1; clear d1)
                | (go_at_call 9; refine (HCO.out _ _ _ HD.out).mono ?_; rintro e x2 ⟨c, hc, rfl, b2⟩; have hcz : c = 0 := hc; subst hcz; clear hc; replace HD := hidden (HD.out.grow b2); clear b2)
                | (go_at_call 10; have mk := mk1; clear mk; refine (HOC2.out _ HA.out).mono ?_; rintro e x9b ⟨rfl, b9⟩; replace HA := hidden (HA.out.grow b9); replace HBH := hidden (HBH.out.grow b9); clear b9)
                | (go_at_call 10; refine (HOC1.out _ _ _ HD.out).mono ?_; rintro e x3 ⟨rfl, b3⟩; replace HD := hidden (HD.out.grow b3); clear b3; have mk1 : Hid True := trivial)
                | (go_at_call 11; refine (HDR.out _ _ HD.out).mono ?_; rintro e x4 ⟨ty, tn, rfl, hty, hzz, d4⟩; have HTY := hidden hty; subst hzz; have HA0 := hidden d4; clear d4 hty; replace HDG := hidden (HDG.out ra rc tn ty HTY.out); replace HSZ := hidden (HSZ.out ra rc tn ty HTY.out); replace HRE := hidden (HRE.out ra rc tn ty HTY.out); have HOC2 := hidden (HOC3.out ra rc tn); have HA := HA0; clear HA0)
                | (go_at_call 12; refine (HRO.out _ _ _ _ HA.out).mono ?_; rintro e x5 ⟨rfl, b5⟩; replace HA := hidden (HA.out.grow b5); clear b5)
                | ((with_reducible refine at_ald 19 ?_); refine wpList_al _ rfl _ rfl _ zero_hash ?_; intro x8b bh hgh hlh BH q3; have HBZ := hidden BH; have HGH := hidden hgh; have HQ8 := hidden q3; clear hgh hlh BH q3)
                | ((with_reducible refine at_st 19 ?_); refine wpList_sto _ rfl _ _ _ rfl bh _ (B H) rfl rfl HBZ.out HHS.out.1 HHS.out.2 (B_one _) ?_; intro x9 BH r4; have HBH := hidden BH; replace HA := hidden (HA.out.grow (below_row HQ8.out r4 HGH.out)); clear BH r4))
              refine wp_region_held_drew (S := fun w' => Below x9b.heap.size x9b w') (by kernel_rfl) ((below_drewN (Below.refl _ _) 1)) (fun hHeld => ?_)
              refine wpAnyH_take (i := 0) (v := .pointer (some ⟨g, 0, none⟩)) rfl (by kernel_rfl) (by kernel_rfl) (by kernel_rfl) (fun _ _ _ h => h) (Or.inl ⟨by rfl, fun w hS => by go_simp⟩) hHeld ?_
              simp only [Act.put, List.getElem_toArray, List.getElem_cons_zero, List.setIfInBounds_toArray, List.set_cons_zero, List.set_cons_succ]
              refine wpAnyH_take (i := 1) (v := .int .i64 ty) rfl (by kernel_rfl) (by kernel_rfl) (by kernel_rfl) (fun _ _ _ h => h) (Or.inl ⟨by rfl, fun w hS => by go_simp⟩) hHeld ?_
              simp only [Act.put, List.getElem_toArray, List.getElem_cons_zero, List.getElem_cons_succ, List.setIfInBounds_toArray, List.set_cons_zero, List.set_cons_succ]
              refine wpAnyH_take (i := 3) (v := .agg (B H)) rfl (by kernel_rfl) (by kernel_rfl) (by kernel_rfl) (fun _ _ _ h => h) (yieldsIf_load_mid rfl 39 (.tmp 19) rfl bh 0 rfl (B H).toList _ (fun w hS => (HBH.out.grow hS).range) Tryz.underlying39 rfl HHL.out) hHeld ?_
              simp only [Act.put, List.getElem_toArray, List.getElem_cons_zero, List.getElem_cons_succ, List.setIfInBounds_toArray, List.set_cons_zero, List.set_cons_succ]
              refine wpAnyH_ready (rs := [2]) (by kernel_rfl) (by simp) ?_
              refine AllReadyH.cons rfl (fun KQ hK => ?_) AllReadyH.nil
              go_simp
              refine (HDG.out _ (HA.out.grow hHeld)).mono ?_
              rintro e y1 ⟨rfl, a1⟩
              refine hK.out _ _ (grow_trans hHeld a1) (fun hHeld => ?_)
              clear hK KQ
              refine wpAnyH_take (i := 4) (v := .bool false) rfl (by kernel_rfl) (by kernel_rfl) (by kernel_rfl) (fun _ _ _ h => h) (Or.inl ⟨by rfl, fun w hS => by go_simp⟩) hHeld ?_
              simp only [Act.put, List.getElem_toArray, List.getElem_cons_zero, List.getElem_cons_succ, List.setIfInBounds_toArray, List.set_cons_zero, List.set_cons_succ]
              refine wpAnyH_take (i := 5) (v := .bool false) rfl (by kernel_rfl) (by kernel_rfl) (by kernel_rfl) (fun _ _ _ h => h) (Or.inl ⟨by rfl, fun w hS => by go_simp⟩) hHeld ?_
              simp only [Act.put, List.getElem_toArray, List.getElem_cons_zero, List.getElem_cons_succ, List.setIfInBounds_toArray, List.set_cons_zero, List.set_cons_succ]
              refine wpAnyH_take (i := 6) (v := .pointer (some ⟨g, 0, none⟩)) rfl (by kernel_rfl) (by kernel_rfl) (by kernel_rfl) (fun _ _ _ h => h) (Or.inl ⟨by rfl, fun w hS => by go_simp⟩) hHeld ?_
              simp only [Act.put, List.getElem_toArray, List.getElem_cons_zero, List.getElem_cons_succ, List.setIfInBounds_toArray, List.set_cons_zero, List.set_cons_succ]
              refine wpAnyH_take (i := 7) (v := .int .i64 ty) rfl (by kernel_rfl) (by kernel_rfl) (by kernel_rfl) (fun _ _ _ h => h) (Or.inl ⟨by rfl, fun w hS => by go_simp⟩) hHeld ?_
              simp only [Act.put, List.getElem_toArray, List.getElem_cons_zero, List.getElem_cons_succ, List.setIfInBounds_toArray, List.set_cons_zero, List.set_cons_succ]
              refine wpAnyH_take (i := 9) (v := .slice ra fl rc) rfl (by kernel_rfl) (by kernel_rfl) (by kernel_rfl) (fun _ _ _ h => h) (Or.inl ⟨by rfl, fun w hS => by go_simp⟩) hHeld ?_
              simp only [Act.put, List.getElem_toArray, List.getElem_cons_zero, List.getElem_cons_succ, List.setIfInBounds_toArray, List.set_cons_zero, List.set_cons_succ]
              refine wpAnyH_take (i := 10) (v := .int .i64 (fl : Int)) rfl (by kernel_rfl) (by kernel_rfl) (by kernel_rfl) (fun _ _ _ h => h) (Or.inl ⟨by rfl, fun w hS => by go_simp⟩) hHeld ?_
              simp only [Act.put, List.getElem_toArray, List.getElem_cons_zero, List.getElem_cons_succ, List.setIfInBounds_toArray, List.set_cons_zero, List.set_cons_succ]
              refine wpAnyH_ready (rs := [8]) (by kernel_rfl) (by simp) ?_
              refine AllReadyH.cons rfl (fun KQ hK => ?_) AllReadyH.nil
              go_simp
              refine (HSZ.out _ (HA.out.grow hHeld)).mono ?_
              rintro e y2 ⟨rfl, a1⟩
              refine hK.out _ _ (grow_trans hHeld a1) (fun hHeld => ?_)
              clear hK KQ
              refine wpAnyH_take (i := 11) (v := .bool false) rfl (by kernel_rfl) (by kernel_rfl) (by kernel_rfl) (fun _ _ _ h => h) (Or.inl ⟨by rfl, fun w hS => by go_simp⟩) hHeld ?_
              simp only [Act.put, List.getElem_toArray, List.getElem_cons_zero, List.getElem_cons_succ, List.setIfInBounds_toArray, List.set_cons_zero, List.set_cons_succ]
              refine wpAnyH_take (i := 12) (v := .bool false) rfl (by kernel_rfl) (by kernel_rfl) (by kernel_rfl) (fun _ _ _ h => h) (Or.inl ⟨by rfl, fun w hS => by go_simp⟩) hHeld ?_
              simp only [Act.put, List.getElem_toArray, List.getElem_cons_zero, List.getElem_cons_succ, List.setIfInBounds_toArray, List.set_cons_zero, List.set_cons_succ]
              refine wpAnyH_take (i := 13) (v := .bool false) rfl (by kernel_rfl) (by kernel_rfl) (by kernel_rfl) (fun _ _ _ h => h) (Or.inl ⟨by rfl, fun w hS => by go_simp⟩) hHeld ?_
              simp only [Act.put, List.getElem_toArray, List.getElem_cons_zero, List.getElem_cons_succ, List.setIfInBounds_toArray, List.set_cons_zero, List.set_cons_succ]
              refine wpAnyH_take (i := 14) (v := .pointer (some ⟨g, 0, none⟩)) rfl (by kernel_rfl) (by kernel_rfl) (by kernel_rfl) (fun _ _ _ h => h) (Or.inl ⟨by rfl, fun w hS => by go_simp⟩) hHeld ?_
              simp only [Act.put, List.getElem_toArray, List.getElem_cons_zero, List.getElem_cons_succ, List.setIfInBounds_toArray, List.set_cons_zero, List.set_cons_succ]
              refine wpAnyH_take (i := 16) (v := .pointer (some ⟨g, 0, none⟩)) rfl (by kernel_rfl) (by kernel_rfl) (by kernel_rfl) (fun _ _ _ h => h) (Or.inl ⟨by rfl, fun w hS => by go_simp⟩) hHeld ?_
              simp only [Act.put, List.getElem_toArray, List.getElem_cons_zero, List.getElem_cons_succ, List.setIfInBounds_toArray, List.set_cons_zero, List.set_cons_succ]
              refine wpAnyH_take (i := 17) (v := .int .i64 ty) rfl (by kernel_rfl) (by kernel_rfl) (by kernel_rfl) (fun _ _ _ h => h) (Or.inl ⟨by rfl, fun w hS => by go_simp⟩) hHeld ?_
              simp only [Act.put, List.getElem_toArray, List.getElem_cons_zero, List.getElem_cons_succ, List.setIfInBounds_toArray, List.set_cons_zero, List.set_cons_succ]
              refine wpAnyH_ready (rs := [15]) (by kernel_rfl) (by simp) ?_
              refine AllReadyH.cons rfl (fun KQ hK => ?_) AllReadyH.nil
              go_simp
              refine (HOC2.out _ (HA.out.grow hHeld)).mono ?_
              rintro e y3 ⟨rfl, a1⟩
              refine hK.out _ _ (grow_trans hHeld a1) (fun hHeld => ?_)
              clear hK KQ
              refine wpAnyH_ready (rs := [18]) (by kernel_rfl) (by simp) ?_
              refine AllReadyH.cons rfl (fun KQ hK => ?_) AllReadyH.nil
              go_simp
              refine (HRE.out _ (HA.out.grow hHeld)).mono ?_
              rintro e y4 ⟨rfl, a1⟩
              refine hK.out _ _ (grow_trans hHeld a1) (fun hHeld => ?_)
              clear hK KQ
              refine wpAnyH_take (i := 19) (v := .bool false) rfl (by kernel_rfl) (by kernel_rfl) (by kernel_rfl) (fun _ _ _ h => h) (Or.inl ⟨by rfl, fun w hS => by go_simp⟩) hHeld ?_
              simp only [Act.put, List.getElem_toArray, List.getElem_cons_zero, List.getElem_cons_succ, List.setIfInBounds_toArray, List.set_cons_zero, List.set_cons_succ]
              refine wpAnyH_take (i := 20) (v := .bool false) rfl (by kernel_rfl) (by kernel_rfl) (by kernel_rfl) (fun _ _ _ h => h) (Or.inl ⟨by rfl, fun w hS => by go_simp⟩) hHeld ?_
              simp only [Act.put, List.getElem_toArray, List.getElem_cons_zero, List.getElem_cons_succ, List.setIfInBounds_toArray, List.set_cons_zero, List.set_cons_succ]
              refine wpAnyH_done (by kernel_rfl) ?_ _
              have HAE := hidden (HA.out.grow hHeld)
              clear hHeld
              go_wp2_with fail
              exact ⟨⟨k + 1, tn, ra, fl, rc, by omega, by rw [HTY.out], rfl, by go_num, HNX.out _ _ _ _ HAE.out⟩, by simp [intOf]; exact mea_step k1⟩
        · obtain rfl : k = m := by omega
          have nlt : ¬ (k : Int) < (k : Int) := by omega
          have HE := hidden (grow_trans HB2.out HST.out.1.low)
          clear HST HKS
          go_wp2_with fail
          go_ret
          exact ⟨rfl, HE.out⟩
    · have hm1 : (14 : Int) < (m : Int) := by omega
      clear HFL HKS HLD HUP hL hn hkc hk1 hk2 hel hu
      go_enter Tryz.func3, Tryz.ntmps3
      go_wp2_with (first
        | (go_at_call 5; refine HAW.out.mono ?_; rintro e x1 ⟨rfl, b1⟩; have HB1 := hidden b1; clear b1)
        | (go_at_call 6; refine (HUN.out _ HB1.out).mono ?_; rintro e x2 ⟨rfl, b2⟩; have HB2 := hidden (grow_trans HB1.out b2); clear b2))
      go_ret
      exact ⟨rfl, HB2.out⟩

end Go.Proofs.YtpbmpmiicdpehabGreatDoor

/- What every statement's proof asks of the program as a whole. -/
namespace Go.Proofs.YtpbmpmiicdpehabGreatDoor
set_option maxRecDepth 20000
open Go.ChangeShapes Go.WideShapes Go.ChangeAt Go.RowKit

theorem ownK : ownKnob Tryz.prog.godebug = none := by kernel_rfl
theorem laidOut : laidOutB Tryz.prog = true := by kernel_rfl

theorem okWide_st {t : TypeId} {fs : Array Field} {W : World} {base : Nat} {v : Value} (ht : Tryz.prog.underlying t = some (.struct fs)) (h : Value.okWide Tryz.prog W .any base t v) : ∃ cs, v = .agg cs := by
  unfold Value.okWide at h
  cases v <;> simp_all

end Go.Proofs.YtpbmpmiicdpehabGreatDoor

/- What a statement's arguments are in memory: of an argument that is a slice of bytes: it reads as bytes, and is no longer than memory. -/
namespace Go.Proofs.YtpbmpmiicdpehabGreatDoor
set_option maxRecDepth 20000
open Go.ChangeShapes Go.WideShapes Go.ChangeAt Go.RowKit

theorem cells_byte : Tryz.prog.cellsOf 5 = 1 := by kernel_rfl
theorem bytesOf_byte : Tryz.prog.bytesOf 5 = 1 := by kernel_rfl

/-- A slice of bytes that came in. -/
theorem arg_bytes {H : Type} {enc : TypeId × Value → H} {W : World} {base : Nat} {v : Value} {d : DataW H} {p : List MemPlace} (hv : Value.okWide Tryz.prog W .any base 46 v)
    (h : DataW.Trod enc Tryz.prog W 0 (fun _ => true) true 46 v d p) {ts : List TypeId} {ds : List (DataW H)} (hsz : (DataW.weightsEach Tryz.prog ts ds).all (· ≤ reachBytes) = true) (j : Nat) (ht : ts[j]? = some 46) (hd : ds[j]? = some d) :
    ∃ zs, Reads W v zs ∧ zs.length ≤ 140737488355328 - 4096 ∧ ((d = .nil ∧ zs = []) ∨ ∃ el sp, d = .slice el sp ∧ el.length = zs.length) := by
  obtain ⟨a, len, cap, rfl⟩ := okWide_slice u_bytes hv
  obtain ⟨fuel, hf⟩ := h
  rcases open_ints u_bytes u_byte cells_byte hf with ⟨hcs, hx⟩ | ⟨x, l, c, zs, hcs, _, hl, hm, hz, hx, hcell, hwz⟩
  · simp [Value.cells] at hcs
    obtain ⟨rfl, rfl, rfl⟩ := hcs
    simp only [Prod.mk.injEq] at hx
    exact ⟨[], Reads.nil _, by simp, .inl ⟨hx.1, rfl⟩⟩
  · simp [Value.cells] at hcs
    obtain ⟨rfl, rfl, rfl⟩ := hcs
    simp at hz
    simp only [Prod.mk.injEq] at hx
    have hlen : (zs.take len).length = len := by simp; omega
    have hs := sized_slice hsz ht (by rw [hd, hx.1]) u_bytes
    rw [bytesOf_byte] at hs
    simp only [lits, List.length_map, List.length_take, List.length_drop, reachBytes] at hs
    refine ⟨zs.take len, ⟨some x, cap, by rw [hlen], by omega, fun h => by simp at h, ?_, ?_⟩, by omega, .inr ⟨_, _, hx.1, by simp [lits]⟩⟩
    · intro z hz'
      have := bounds_u8 (hwz z (List.mem_of_mem_take hz'))
      omega
    · intro hp
      rw [hlen] at hp
      obtain ⟨b, off, spot⟩ := x
      have hspot : spot = none := by
        have := World.cell?_spot (hcell 0 (by omega))
        simpa [Addr.add] using this
      subst hspot
      refine ⟨b, off, rfl, fun i hi => ?_⟩
      rw [hlen] at hi
      have := hcell i (by omega)
      rw [Addr.add_lit] at this
      rw [this]
      simp [List.getD, hi]

end Go.Proofs.YtpbmpmiicdpehabGreatDoor
