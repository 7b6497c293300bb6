/- PutRoom's walk: a write is refused just where there is no room, and then nothing has changed. -/
import Derived.Test.YtlinalcjdpikeabDoorPr45
import Derived.Test.YtlinalcjdpikeabDoorRows
import Derived.ProofKit
import Derived.OpenShut
import Derived.ShutString
import Derived.ChangeOld
import Derived.Below
import Derived.SizedLaws
namespace Go.Proofs.YtlinalcjdpikeabDoor
set_option maxRecDepth 20000
open Go.RowKit

theorem vDg_nat9 (cs : List (Nat × Ce)) (h : Nat) : vDg true (cat cs) (h : Int) = sdD cs h := by
  unfold vDg sdD
  by_cases h0 : h = 0
  · subst h0
    rfl
  · rw [if_neg (by omega), if_neg h0, cat_nat, sdC, if_neg h0]

/-- A store with a root at hand, behind so many writes. -/
def Rm (w1 : World) (g gs R : Nat) (k : Nat) (wr : World) (root : Nat) : Prop := ∃ cs fr T, Hs w1 [] wr g gs R cs fr ∧ Rt cs root T ∧ ∀ i, own cs [] i ≤ k

set_option maxHeartbeats 8000000 in
theorem putRoom_walk (room : Int) (v : Value) (V : Nat → Value) (es : List Ent) (w : World) (hL : Laid w) (hv : PrAt w v V es) : Calls Tryd.prog 3 #[.int .i64 room, v] w fun e w' => e = .returned (.bool true) ∧ Below w.heap.size w w' := by
  have HAW := hidden (awake9_any w hL)
  have HLG : Hid (∀ w', Below w.heap.size w w' → Calls Tryd.prog 6 #[v] w' fun e w'' => e = .returned (.bool (lgP es)) ∧ Below w'.heap.size w' w'') := fun w' hb => large_any (hv.grow hb)
  have HV := hidden hv
  have HL := hidden hL
  obtain ⟨a, cap, rfl, hcap, hc, hr⟩ := hv
  have ARM : True := trivial
  cases hlg : lgP es with
  | true =>
    rw [hlg] at HLG
    generalize es.length = n at HLG ⊢
    clear hc hr hcap HV HL ARM hlg
    go_enter Tryd.func3, Tryd.ntmps3
    go_wp2_with (first
      | (go_at_call 5; refine HAW.out.mono ?_; rintro e w1 ⟨rfl, b1⟩; have HQ1 := hidden b1; clear b1)
      | (go_at_call 6; refine (HLG.out _ HQ1.out).mono ?_; rintro e w2 ⟨rfl, b2⟩; have HQ2 := hidden (grow_trans HQ1.out b2); clear b2))
    go_ret
    exact ⟨rfl, HQ2.out⟩
  | false =>
  rw [hlg] at HLG
  obtain ⟨h16, h1024⟩ := lgP_false hlg
  by_cases hr1 : room < 1
  · generalize es.length = n at HLG ⊢
    clear hc hr hcap HV HL ARM hlg h16 h1024
    go_enter Tryd.func3, Tryd.ntmps3
    go_wp2_with (first
      | (go_at_call 5; refine HAW.out.mono ?_; rintro e w1 ⟨rfl, b1⟩; have HQ1 := hidden b1; clear b1)
      | (go_at_call 6; refine (HLG.out _ HQ1.out).mono ?_; rintro e w2 ⟨rfl, b2⟩; have HQ2 := hidden (grow_trans HQ1.out b2); clear b2))
    go_ret
    exact ⟨rfl, HQ2.out⟩
  by_cases hr2 : 5000 < room
  · generalize es.length = n at HLG ⊢
    clear hc hr hcap HV HL ARM hlg h16 h1024
    go_enter Tryd.func3, Tryd.ntmps3
    go_wp2_with (first
      | (go_at_call 5; refine HAW.out.mono ?_; rintro e w1 ⟨rfl, b1⟩; have HQ1 := hidden b1; clear b1)
      | (go_at_call 6; refine (HLG.out _ HQ1.out).mono ?_; rintro e w2 ⟨rfl, b2⟩; have HQ2 := hidden (grow_trans HQ1.out b2); clear b2))
    go_ret
    exact ⟨rfl, HQ2.out⟩
  obtain ⟨R, hR⟩ : ∃ R : Nat, room = (R : Int) := ⟨room.toNat, by omega⟩
  subst hR
  have HNW : Hid (∀ w', Calls Tryd.prog 7 #[.int .i64 (R : Int)] w' fun e w'' => ∃ g gs, e = .returned (.tuple #[.pointer (some ⟨g, 0, none⟩), .int .i64 0]) ∧ Hs w' [] w'' g gs R [] []) := fun w' => hs_new R w' (by omega) (by omega)
  have HAT : Hid (∀ k, k < es.length → ∃ lb off ua uc, a = some ⟨lb, off, none⟩ ∧ V k = .slice ua (es.getD k e00).2.length uc ∧ Key (es.getD k e00).1 ∧ (es.getD k e00).2.length ≤ 1024 ∧ (∀ w', Below w.heap.size w w' → w'.rangeAt lb (off + k * 33) (encP (es.getD k e00).1 (V k)) ∧ Reads w' (V k) (es.getD k e00).2)) := fun k hk => by
    obtain ⟨lb, off, e1, h1⟩ := hc (by omega)
    have h2 := hr k hk
    have hk2 := h2.1
    obtain ⟨ua, uc, e2, _⟩ := h2.2
    refine ⟨lb, off, ua, uc, e1, e2, hk2, h1024 _ (by rw [List.getD_eq_getElem?_getD, List.getElem?_eq_getElem hk]; exact List.getElem_mem _), fun w' hb => ⟨rng_grow (h1 k hk) hb, h2.2.grow hb⟩⟩
  obtain ⟨n, hn⟩ : ∃ n, n = es.length := ⟨_, rfl⟩
  have HN := hidden hn
  have hn16 : n ≤ 16 := by omega
  rw [← hn] at HLG ⊢
  have HR5 : Hid (R ≤ 5000) := by show _ ≤ _; omega
  have hRa : ¬ (R : Int) < 1 := hr1
  have hRb : ¬ (5000 : Int) < (R : Int) := hr2
  clear hc hr hcap HV ARM hlg h16 h1024 hn hL hr1 hr2
  go_enter Tryd.func3, Tryd.ntmps3
  go_wp2_with (first
    | (go_at_call 5; refine HAW.out.mono ?_; rintro e wa ⟨rfl, b1⟩; have HQ1 := hidden b1; clear b1)
    | (go_at_call 6; refine (HLG.out _ HQ1.out).mono ?_; rintro e w1 ⟨rfl, b2⟩; have HQW := hidden (grow_trans HQ1.out b2); clear b2)
    | (go_at_call 7; refine (HNW.out _).mono ?_; rintro e w2 ⟨g, gs, rfl, h2⟩; have HH2 := hidden h2; clear h2))
  have HRm : Hid (Rm w1 g gs R 0 w2 0) := ⟨[], [], .emp, HH2.out, Rt.zero [], fun i => by rw [own_nil]; omega⟩
  have HLow : Hid (∀ k wr root, Rm w1 g gs R k wr root → Below w1.heap.size w1 wr) := fun k wr root ⟨cs, fr, T, h, _⟩ => h.low
  clear HH2 HAW HLG HNW HQ1 hRa hRb
  go_loopw [8, 9] (fun rv iv wr => ∃ (k root : Nat), k ≤ n ∧ rv = .int .i64 (root : Int) ∧ iv = .int .i64 (k : Int) ∧ Hid (Rm w1 g gs R k wr root)) (fun _ iv _ => n - (intOf iv).toNat)
  case atStart => exact ⟨0, 0, by omega, rfl, rfl, HRm.out⟩
  case round =>
    clear HRm
    obtain ⟨k, root, hk, rfl, rfl, HRM⟩ := hrel
    by_cases hlt : k < n
    · obtain ⟨lb, off, ua, uc, rfl, hVk, hKey, hlen, hat⟩ := HAT.out k (by rw [← HN.out]; exact hlt)
      obtain ⟨cs, fr, T, H, rt, hown⟩ := HRM.out
      have hdl : (sdD cs root).length = 32 := by rw [← vDg_nat9]; exact (vDg_len H.vw _).1
      have HOC : Hid (∀ w', Below wr.heap.size wr w' → Calls Tryd.prog 8 #[.pointer (some ⟨g, 0, none⟩)] w' fun e w'' => e = .returned (.int .i64 (noc cs : Int)) ∧ Below w'.heap.size w' w'') := fun w' hb => hs_occ (H.grow hb)
      have HDG : Hid (∀ w', Below wr.heap.size wr w' → Calls Tryd.prog 9 #[.pointer (some ⟨g, 0, none⟩), .int .i64 (root : Int)] w' fun e w'' => e = .returned (.agg (B (sdD cs root))) ∧ Below w'.heap.size w' w'') := fun w' hb => by
        have := sdig_any (H.grow hb).vw (root : Int) (HL.out.grow (grow_trans (grow_trans HQW.out H.low) hb))
        rwa [vDg_nat9] at this
      have HFT : Hid (∀ w', Below wr.heap.size wr w' → Calls Tryd.prog 10 #[.pointer (some ⟨g, 0, none⟩), .int .i64 1] w' fun e w'' => e = .returned (.bool (fitsN (noc cs) R 1)) ∧ Below w'.heap.size w' w'') := fun w' hb => fits9_any (H.grow hb) 1
      have HRG : Hid (∀ w', Below wr.heap.size wr w' → w'.rangeAt lb (off + k * 33) (encP (es.getD k e00).1 (.slice ua (es.getD k e00).2.length uc))) := fun w' hb => by rw [← hVk]; exact (hat w' (grow_trans (grow_trans HQW.out H.low) hb)).1
      have HRG2 : Hid (∀ w' tn, Rm w1 g gs R (k + 1) w' tn → w'.rangeAt lb (off + k * 33) (encP (es.getD k e00).1 (.slice ua (es.getD k e00).2.length uc))) := fun w' tn ⟨_, _, _, h, _⟩ => by rw [← hVk]; exact (hat w' (grow_trans HQW.out h.low)).1
      have HKL := hidden hKey.1
      have HPL := hidden (pth_ln (es.getD k e00).1 hKey.1)
      have HHL : Hid ((Tryd.prog.info? 31).map (·.size) = some (B (sdD cs root)).toList.length) := by show _ = _; rw [B_toList, List.length_map, hdl]; exact size_hash
      have HHS : Hid ((Tryd.prog.info? 31).map (·.size) = some (B (sdD cs root)).size ∧ (B z32).size = (B (sdD cs root)).size) := ⟨by rw [B_size, hdl]; exact size_hash, by rw [B_size, B_size, hdl]; rfl⟩
      have hE := hash_eq (sdD cs root) (sdD cs root) hdl hdl
      simp only [decide_true] at hE
      have ho65 : noc cs ≤ 5000 := by have := H.sizes; have := HR5.out; omega
      have k0 : (0 : Int) ≤ (k : Int) := by omega
      have k1 : (k : Int) < (n : Int) := by omega
      have hk16 : k < 16 := by omega
      have hwk : wrap64 ((k : Int) + 1) = ((k + 1 : Nat) : Int) := by rw [Go.IntWalk.wrap64_in _ (by omega)]; rfl
      have hR5 := HR5.out
      by_cases hf : noc cs + 258 ≤ R
      · obtain ⟨ss, hss, _⟩ := rt.bes H.2 hKey
        have HPT : Hid (∀ w', Below wr.heap.size wr w' → Calls Tryd.prog 11 #[.pointer (some ⟨g, 0, none⟩), .int .i64 (root : Int), .agg (B (es.getD k e00).1), .slice ua (es.getD k e00).2.length uc] w' fun e w'' => ∃ (ty : Int) (tn : Nat), e = .returned (.tuple #[.int .i64 ty, .int .i64 0]) ∧ ty = (tn : Int) ∧ Rm w1 g gs R (k + 1) w'' tn) := fun w' hb => by
          rw [← hVk]
          refine (put_any (H.grow hb) rt hKey (u := V k) (bs := (es.getD k e00).2) (kq_nil fun w'' hb2 => (hat w'' (grow_trans HQW.out hb2)).2) (kq_nil fun w'' hb2 => HL.out.grow (grow_trans HQW.out hb2)) hlen (fun i => by have := hown i; omega) hf hss).mono ?_
          rintro e w'' ⟨top, cs', fr', T', rfl, p, hh⟩
          exact ⟨_, top, rfl, rfl, cs', fr', T', hh, p.rt, fun i => own_step (p.own i) (hown i) (Nat.le_refl _)⟩
        have hft : fitsN (noc cs) R 1 = true := by simp [fitsN]; omega
        rw [hft] at HFT
        generalize noc cs = o at HOC ho65 hf hft
        have hwo : wrap64 ((o : Int) + 258) = (o : Int) + 258 := Go.IntWalk.wrap64_in _ (by omega)
        have hgt : ¬ (R : Int) < (o : Int) + 258 := by omega
        generalize sdD cs root = D at HDG HHL HHS hE
        generalize (es.getD k e00).1 = K at HPT HRG HRG2 HKL HPL
        generalize (es.getD k e00).2.length = ul at HPT HRG HRG2 hVk
        obtain ⟨ry, hry⟩ : ∃ ry : Int, ry = (root : Int) := ⟨_, rfl⟩
        rw [← hry] at HPT HDG ⊢
        clear hVk hKey hlen hat H rt hown hss hf hft hry HRM hdl hk HAT ho65 hR5
        go_wp2_with (first
        | (go_at_call 8; refine (HOC.out _ (Below.refl _ _)).mono ?_; rintro e x1 ⟨rfl, b1⟩; have HQ1 := hidden b1; clear b1)
        | (go_at_call 9; refine (HDG.out _ HQ1.out).mono ?_; rintro e x2 ⟨rfl, b2⟩; have HQ2 := hidden (grow_trans HQ1.out b2); clear b2)
        | ((with_reducible refine at_ald 11 ?_); refine wpList_al _ rfl _ rfl _ zero_hash ?_; intro x3 bh hgh hlh BH q3; have HBZ := hidden BH; have HGH : Hid (wr.heap.size ≤ bh) := Nat.le_trans HQ2.out.size hgh; have HQ3 := hidden (grow_trans HQ2.out q3); clear hgh hlh BH q3)
        | ((with_reducible refine at_st 11 ?_); refine wpList_sto _ rfl _ _ _ rfl bh _ (B D) rfl rfl HBZ.out HHS.out.1 HHS.out.2 (B_one _) ?_; intro x4 BH r4; have HBH4 := hidden BH; have HQ4 := hidden (below_row HQ3.out r4 HGH.out); clear BH r4)
        | (go_at_call 10; refine (HFT.out _ HQ4.out).mono ?_; rintro e x5 ⟨rfl, b5⟩; have HQ5 := hidden (grow_trans HQ4.out b5); have HBH := hidden (HBH4.out.grow b5); clear b5))
        refine wp_region_held_drew (S := fun w' => w'.rangeAt lb (off + k * 33) (encP K (.slice ua ul uc))) (by kernel_rfl) (HRG.out _ (grow_trans HQ5.out (below_drewN (Below.refl _ _) 1))) (fun hHeld => ?_)
        refine wpAnyH_take (i := 0) (v := .pointer (some ⟨g, 0, none⟩)) rfl (by kernel_rfl) (by kernel_rfl) (by kernel_rfl) (fun _ _ _ h => h) (Or.inl ⟨by rfl, fun w hS => by go_simp⟩) hHeld ?_
        simp only [Act.put, List.getElem_toArray, List.getElem_cons_zero, List.setIfInBounds_toArray, List.set_cons_zero, List.set_cons_succ]
        refine wpAnyH_take (i := 1) (v := .int .i64 ry) rfl (by kernel_rfl) (by kernel_rfl) (by kernel_rfl) (fun _ _ _ h => h) (Or.inl ⟨by rfl, fun w hS => by go_simp⟩) hHeld ?_
        simp only [Act.put, List.getElem_toArray, List.getElem_cons_zero, List.getElem_cons_succ, List.setIfInBounds_toArray, List.set_cons_zero, List.set_cons_succ]
        refine wpAnyH_take (i := 2) (v := .slice (some ⟨lb, off, none⟩) n cap) rfl (by kernel_rfl) (by kernel_rfl) (by kernel_rfl) (fun _ _ _ h => h) (Or.inl ⟨by rfl, fun w hS => by go_simp⟩) hHeld ?_
        simp only [Act.put, List.getElem_toArray, List.getElem_cons_zero, List.getElem_cons_succ, List.setIfInBounds_toArray, List.set_cons_zero, List.set_cons_succ]
        refine wpAnyH_take (i := 3) (v := .int .i64 (k : Int)) rfl (by kernel_rfl) (by kernel_rfl) (by kernel_rfl) (fun _ _ _ h => h) (Or.inl ⟨by rfl, fun w hS => by go_simp⟩) hHeld ?_
        simp only [Act.put, List.getElem_toArray, List.getElem_cons_zero, List.getElem_cons_succ, List.setIfInBounds_toArray, List.set_cons_zero, List.set_cons_succ]
        refine wpAnyH_take (i := 4) (v := .pointer (some ⟨lb, off + k * 33, none⟩)) rfl (by kernel_rfl) (by kernel_rfl) (by kernel_rfl) (fun _ _ _ h => h) (Or.inl ⟨by rfl, fun w hS => by go_simp⟩) hHeld ?_
        simp only [Act.put, List.getElem_toArray, List.getElem_cons_zero, List.getElem_cons_succ, List.setIfInBounds_toArray, List.set_cons_zero, List.set_cons_succ]
        refine wpAnyH_take (i := 5) (v := .pointer (some ⟨lb, off + k * 33, none⟩)) rfl (by kernel_rfl) (by kernel_rfl) (by kernel_rfl) (fun _ _ _ h => h) (Or.inl ⟨by rfl, fun w hS => by go_simp⟩) hHeld ?_
        simp only [Act.put, List.getElem_toArray, List.getElem_cons_zero, List.getElem_cons_succ, List.setIfInBounds_toArray, List.set_cons_zero, List.set_cons_succ]
        refine wpAnyH_take (i := 6) (v := .agg (B K)) rfl (by kernel_rfl) (by kernel_rfl) (by kernel_rfl) (fun _ _ _ h => h) (yieldsIf_load_mid rfl 36 (.tmp 53) rfl lb (off + k * 33) rfl (B K).toList _ (fun w hS => rng_key hS) Tryd.underlying36 rfl HPL.out) hHeld ?_
        simp only [Act.put, List.getElem_toArray, List.getElem_cons_zero, List.getElem_cons_succ, List.setIfInBounds_toArray, List.set_cons_zero, List.set_cons_succ]
        refine wpAnyH_take (i := 7) (v := .slice (some ⟨lb, off, none⟩) n cap) rfl (by kernel_rfl) (by kernel_rfl) (by kernel_rfl) (fun _ _ _ h => h) (Or.inl ⟨by rfl, fun w hS => by go_simp⟩) hHeld ?_
        simp only [Act.put, List.getElem_toArray, List.getElem_cons_zero, List.getElem_cons_succ, List.setIfInBounds_toArray, List.set_cons_zero, List.set_cons_succ]
        refine wpAnyH_take (i := 8) (v := .int .i64 (k : Int)) rfl (by kernel_rfl) (by kernel_rfl) (by kernel_rfl) (fun _ _ _ h => h) (Or.inl ⟨by rfl, fun w hS => by go_simp⟩) hHeld ?_
        simp only [Act.put, List.getElem_toArray, List.getElem_cons_zero, List.getElem_cons_succ, List.setIfInBounds_toArray, List.set_cons_zero, List.set_cons_succ]
        refine wpAnyH_take (i := 9) (v := .pointer (some ⟨lb, off + k * 33, none⟩)) rfl (by kernel_rfl) (by kernel_rfl) (by kernel_rfl) (fun _ _ _ h => h) (Or.inl ⟨by rfl, fun w hS => by go_simp⟩) hHeld ?_
        simp only [Act.put, List.getElem_toArray, List.getElem_cons_zero, List.getElem_cons_succ, List.setIfInBounds_toArray, List.set_cons_zero, List.set_cons_succ]
        refine wpAnyH_take (i := 10) (v := .pointer (some ⟨lb, off + k * 33 + 32, none⟩)) rfl (by kernel_rfl) (by kernel_rfl) (by kernel_rfl) (fun _ _ _ h => h) (Or.inl ⟨by rfl, fun w hS => by go_simp⟩) hHeld ?_
        simp only [Act.put, List.getElem_toArray, List.getElem_cons_zero, List.getElem_cons_succ, List.setIfInBounds_toArray, List.set_cons_zero, List.set_cons_succ]
        refine wpAnyH_take (i := 11) (v := .slice ua ul uc) rfl (by kernel_rfl) (by kernel_rfl) (by kernel_rfl) (fun _ _ _ h => h) (Or.inl ⟨by rfl, fun w hS => by (have q1 := rng_val hS HKL.out; go_simp)⟩) hHeld ?_
        simp only [Act.put, List.getElem_toArray, List.getElem_cons_zero, List.getElem_cons_succ, List.setIfInBounds_toArray, List.set_cons_zero, List.set_cons_succ]
        refine wpAnyH_ready (rs := [12]) (by kernel_rfl) (by simp) ?_
        refine AllReadyH.cons rfl (fun KQ hK => ?_) AllReadyH.nil
        go_simp
        refine (HPT.out _ (grow_trans HQ5.out (below_drewN (Below.refl _ _) 1))).mono ?_
        rintro e z1 ⟨ty, tn, rfl, hty, hA⟩
        have HTY := hidden hty
        have HA := hidden hA
        clear hty hA
        refine hK.out _ _ (HRG2.out _ _ HA.out) (fun hHeld => ?_)
        clear hK KQ
        refine wpAnyH_take (i := 13) (v := .tuple #[.int .i64 ty, .int .i64 0]) rfl (by kernel_rfl) (by kernel_rfl) (by kernel_rfl) (fun _ _ _ h => h) (Or.inl ⟨by rfl, fun w hS => by go_simp⟩) hHeld ?_
        simp only [Act.put, List.getElem_toArray, List.getElem_cons_zero, List.getElem_cons_succ, List.setIfInBounds_toArray, List.set_cons_zero, List.set_cons_succ]
        refine wpAnyH_take (i := 14) (v := .int .i64 ty) rfl (by kernel_rfl) (by kernel_rfl) (by kernel_rfl) (fun _ _ _ h => h) (Or.inl ⟨by rfl, fun w hS => by go_simp⟩) hHeld ?_
        simp only [Act.put, List.getElem_toArray, List.getElem_cons_zero, List.getElem_cons_succ, List.setIfInBounds_toArray, List.set_cons_zero, List.set_cons_succ]
        refine wpAnyH_take (i := 15) (v := .int .i64 0) rfl (by kernel_rfl) (by kernel_rfl) (by kernel_rfl) (fun _ _ _ h => h) (Or.inl ⟨by rfl, fun w hS => by go_simp⟩) hHeld ?_
        simp only [Act.put, List.getElem_toArray, List.getElem_cons_zero, List.getElem_cons_succ, List.setIfInBounds_toArray, List.set_cons_zero, List.set_cons_succ]
        refine wpAnyH_take (i := 16) (v := .int .i64 ty) rfl (by kernel_rfl) (by kernel_rfl) (by kernel_rfl) (fun _ _ _ h => h) (Or.inl ⟨by rfl, fun w hS => by go_simp⟩) hHeld ?_
        simp only [Act.put, List.getElem_toArray, List.getElem_cons_zero, List.getElem_cons_succ, List.setIfInBounds_toArray, List.set_cons_zero, List.set_cons_succ]
        refine wpAnyH_take (i := 17) (v := .int .i64 0) rfl (by kernel_rfl) (by kernel_rfl) (by kernel_rfl) (fun _ _ _ h => h) (Or.inl ⟨by rfl, fun w hS => by go_simp⟩) hHeld ?_
        simp only [Act.put, List.getElem_toArray, List.getElem_cons_zero, List.getElem_cons_succ, List.setIfInBounds_toArray, List.set_cons_zero, List.set_cons_succ]
        refine wpAnyH_done (by kernel_rfl) ?_ _
        clear hHeld
        go_wp2_with fail
        exact ⟨⟨k + 1, tn, by omega, by rw [HTY.out], by go_num, HA.out⟩, by simp [intOf]; exact mea_step k1⟩
      · have HPT : Hid (∀ w', Below wr.heap.size wr w' → Calls Tryd.prog 11 #[.pointer (some ⟨g, 0, none⟩), .int .i64 (root : Int), .agg (B (es.getD k e00).1), .slice ua (es.getD k e00).2.length uc] w' fun e w'' => e = .returned (.tuple #[.int .i64 0, .int .i64 9]) ∧ Below w'.heap.size w' w'') := fun w' hb => by
          rw [← hVk]
          exact put_no_room (H.grow hb) rt ((hat w' (grow_trans (grow_trans HQW.out H.low) hb)).2) hlen (by omega)
        have HNX : Hid (∀ w', Below wr.heap.size wr w' → Rm w1 g gs R (k + 1) w' root) := fun w' hb => ⟨cs, fr, T, H.grow hb, rt, fun i => Nat.le_succ_of_le (hown i)⟩
        have hft : fitsN (noc cs) R 1 = false := by simp [fitsN]; omega
        rw [hft] at HFT
        generalize noc cs = o at HOC ho65 hf hft
        have hwo : wrap64 ((o : Int) + 258) = (o : Int) + 258 := Go.IntWalk.wrap64_in _ (by omega)
        have hgt : (R : Int) < (o : Int) + 258 := by omega
        generalize sdD cs root = D at HDG HHL HHS hE
        generalize (es.getD k e00).1 = K at HPT HRG HRG2 HKL HPL
        generalize (es.getD k e00).2.length = ul at HPT HRG HRG2 hVk
        obtain ⟨ry, hry⟩ : ∃ ry : Int, ry = (root : Int) := ⟨_, rfl⟩
        rw [← hry] at HPT HDG ⊢
        have HRY := hidden hry
        clear hVk hKey hlen hat H rt hown hf hft hry HRM hdl hk HAT ho65 hR5
        go_wp2_with (first
        | (go_at_call 8; refine (HOC.out _ (Below.refl _ _)).mono ?_; rintro e x1 ⟨rfl, b1⟩; have HQ1 := hidden b1; clear b1)
        | (go_at_call 9; refine (HDG.out _ HQ1.out).mono ?_; rintro e x2 ⟨rfl, b2⟩; have HQ2 := hidden (grow_trans HQ1.out b2); clear b2)
        | ((with_reducible refine at_ald 11 ?_); refine wpList_al _ rfl _ rfl _ zero_hash ?_; intro x3 bh hgh hlh BH q3; have HBZ := hidden BH; have HGH : Hid (wr.heap.size ≤ bh) := Nat.le_trans HQ2.out.size hgh; have HQ3 := hidden (grow_trans HQ2.out q3); clear hgh hlh BH q3)
        | ((with_reducible refine at_st 11 ?_); refine wpList_sto _ rfl _ _ _ rfl bh _ (B D) rfl rfl HBZ.out HHS.out.1 HHS.out.2 (B_one _) ?_; intro x4 BH r4; have HBH4 := hidden BH; have HQ4 := hidden (below_row HQ3.out r4 HGH.out); clear BH r4)
        | (go_at_call 10; refine (HFT.out _ HQ4.out).mono ?_; rintro e x5 ⟨rfl, b5⟩; have HQ5 := hidden (grow_trans HQ4.out b5); have HBH := hidden (HBH4.out.grow b5); clear b5))
        refine wp_region_held_drew (S := fun w' => w'.rangeAt lb (off + k * 33) (encP K (.slice ua ul uc))) (by kernel_rfl) (HRG.out _ (grow_trans HQ5.out (below_drewN (Below.refl _ _) 1))) (fun hHeld => ?_)
        refine wpAnyH_take (i := 0) (v := .pointer (some ⟨g, 0, none⟩)) rfl (by kernel_rfl) (by kernel_rfl) (by kernel_rfl) (fun _ _ _ h => h) (Or.inl ⟨by rfl, fun w hS => by go_simp⟩) hHeld ?_
        simp only [Act.put, List.getElem_toArray, List.getElem_cons_zero, List.setIfInBounds_toArray, List.set_cons_zero, List.set_cons_succ]
        refine wpAnyH_take (i := 1) (v := .int .i64 ry) rfl (by kernel_rfl) (by kernel_rfl) (by kernel_rfl) (fun _ _ _ h => h) (Or.inl ⟨by rfl, fun w hS => by go_simp⟩) hHeld ?_
        simp only [Act.put, List.getElem_toArray, List.getElem_cons_zero, List.getElem_cons_succ, List.setIfInBounds_toArray, List.set_cons_zero, List.set_cons_succ]
        refine wpAnyH_take (i := 2) (v := .slice (some ⟨lb, off, none⟩) n cap) rfl (by kernel_rfl) (by kernel_rfl) (by kernel_rfl) (fun _ _ _ h => h) (Or.inl ⟨by rfl, fun w hS => by go_simp⟩) hHeld ?_
        simp only [Act.put, List.getElem_toArray, List.getElem_cons_zero, List.getElem_cons_succ, List.setIfInBounds_toArray, List.set_cons_zero, List.set_cons_succ]
        refine wpAnyH_take (i := 3) (v := .int .i64 (k : Int)) rfl (by kernel_rfl) (by kernel_rfl) (by kernel_rfl) (fun _ _ _ h => h) (Or.inl ⟨by rfl, fun w hS => by go_simp⟩) hHeld ?_
        simp only [Act.put, List.getElem_toArray, List.getElem_cons_zero, List.getElem_cons_succ, List.setIfInBounds_toArray, List.set_cons_zero, List.set_cons_succ]
        refine wpAnyH_take (i := 4) (v := .pointer (some ⟨lb, off + k * 33, none⟩)) rfl (by kernel_rfl) (by kernel_rfl) (by kernel_rfl) (fun _ _ _ h => h) (Or.inl ⟨by rfl, fun w hS => by go_simp⟩) hHeld ?_
        simp only [Act.put, List.getElem_toArray, List.getElem_cons_zero, List.getElem_cons_succ, List.setIfInBounds_toArray, List.set_cons_zero, List.set_cons_succ]
        refine wpAnyH_take (i := 5) (v := .pointer (some ⟨lb, off + k * 33, none⟩)) rfl (by kernel_rfl) (by kernel_rfl) (by kernel_rfl) (fun _ _ _ h => h) (Or.inl ⟨by rfl, fun w hS => by go_simp⟩) hHeld ?_
        simp only [Act.put, List.getElem_toArray, List.getElem_cons_zero, List.getElem_cons_succ, List.setIfInBounds_toArray, List.set_cons_zero, List.set_cons_succ]
        refine wpAnyH_take (i := 6) (v := .agg (B K)) rfl (by kernel_rfl) (by kernel_rfl) (by kernel_rfl) (fun _ _ _ h => h) (yieldsIf_load_mid rfl 36 (.tmp 53) rfl lb (off + k * 33) rfl (B K).toList _ (fun w hS => rng_key hS) Tryd.underlying36 rfl HPL.out) hHeld ?_
        simp only [Act.put, List.getElem_toArray, List.getElem_cons_zero, List.getElem_cons_succ, List.setIfInBounds_toArray, List.set_cons_zero, List.set_cons_succ]
        refine wpAnyH_take (i := 7) (v := .slice (some ⟨lb, off, none⟩) n cap) rfl (by kernel_rfl) (by kernel_rfl) (by kernel_rfl) (fun _ _ _ h => h) (Or.inl ⟨by rfl, fun w hS => by go_simp⟩) hHeld ?_
        simp only [Act.put, List.getElem_toArray, List.getElem_cons_zero, List.getElem_cons_succ, List.setIfInBounds_toArray, List.set_cons_zero, List.set_cons_succ]
        refine wpAnyH_take (i := 8) (v := .int .i64 (k : Int)) rfl (by kernel_rfl) (by kernel_rfl) (by kernel_rfl) (fun _ _ _ h => h) (Or.inl ⟨by rfl, fun w hS => by go_simp⟩) hHeld ?_
        simp only [Act.put, List.getElem_toArray, List.getElem_cons_zero, List.getElem_cons_succ, List.setIfInBounds_toArray, List.set_cons_zero, List.set_cons_succ]
        refine wpAnyH_take (i := 9) (v := .pointer (some ⟨lb, off + k * 33, none⟩)) rfl (by kernel_rfl) (by kernel_rfl) (by kernel_rfl) (fun _ _ _ h => h) (Or.inl ⟨by rfl, fun w hS => by go_simp⟩) hHeld ?_
        simp only [Act.put, List.getElem_toArray, List.getElem_cons_zero, List.getElem_cons_succ, List.setIfInBounds_toArray, List.set_cons_zero, List.set_cons_succ]
        refine wpAnyH_take (i := 10) (v := .pointer (some ⟨lb, off + k * 33 + 32, none⟩)) rfl (by kernel_rfl) (by kernel_rfl) (by kernel_rfl) (fun _ _ _ h => h) (Or.inl ⟨by rfl, fun w hS => by go_simp⟩) hHeld ?_
        simp only [Act.put, List.getElem_toArray, List.getElem_cons_zero, List.getElem_cons_succ, List.setIfInBounds_toArray, List.set_cons_zero, List.set_cons_succ]
        refine wpAnyH_take (i := 11) (v := .slice ua ul uc) rfl (by kernel_rfl) (by kernel_rfl) (by kernel_rfl) (fun _ _ _ h => h) (Or.inl ⟨by rfl, fun w hS => by (have q1 := rng_val hS HKL.out; go_simp)⟩) hHeld ?_
        simp only [Act.put, List.getElem_toArray, List.getElem_cons_zero, List.getElem_cons_succ, List.setIfInBounds_toArray, List.set_cons_zero, List.set_cons_succ]
        refine wpAnyH_ready (rs := [12]) (by kernel_rfl) (by simp) ?_
        refine AllReadyH.cons rfl (fun KQ hK => ?_) AllReadyH.nil
        go_simp
        refine (HPT.out _ (grow_trans HQ5.out (below_drewN (Below.refl _ _) 1))).mono ?_
        rintro e z1 ⟨rfl, a1⟩
        have HQ6 : Hid (Below wr.heap.size wr z1) := grow_trans (grow_trans HQ5.out (below_drewN (Below.refl _ _) 1)) a1
        have HBH6 := hidden (HBH.out.grow (grow_trans (below_drewN (Below.refl _ _) 1) a1))
        clear a1
        refine hK.out _ _ (HRG.out _ HQ6.out) (fun hHeld => ?_)
        clear hK KQ
        refine wpAnyH_take (i := 13) (v := .tuple #[.int .i64 0, .int .i64 9]) rfl (by kernel_rfl) (by kernel_rfl) (by kernel_rfl) (fun _ _ _ h => h) (Or.inl ⟨by rfl, fun w hS => by go_simp⟩) hHeld ?_
        simp only [Act.put, List.getElem_toArray, List.getElem_cons_zero, List.getElem_cons_succ, List.setIfInBounds_toArray, List.set_cons_zero, List.set_cons_succ]
        refine wpAnyH_take (i := 14) (v := .int .i64 0) rfl (by kernel_rfl) (by kernel_rfl) (by kernel_rfl) (fun _ _ _ h => h) (Or.inl ⟨by rfl, fun w hS => by go_simp⟩) hHeld ?_
        simp only [Act.put, List.getElem_toArray, List.getElem_cons_zero, List.getElem_cons_succ, List.setIfInBounds_toArray, List.set_cons_zero, List.set_cons_succ]
        refine wpAnyH_take (i := 15) (v := .int .i64 9) rfl (by kernel_rfl) (by kernel_rfl) (by kernel_rfl) (fun _ _ _ h => h) (Or.inl ⟨by rfl, fun w hS => by go_simp⟩) hHeld ?_
        simp only [Act.put, List.getElem_toArray, List.getElem_cons_zero, List.getElem_cons_succ, List.setIfInBounds_toArray, List.set_cons_zero, List.set_cons_succ]
        refine wpAnyH_take (i := 16) (v := .int .i64 0) rfl (by kernel_rfl) (by kernel_rfl) (by kernel_rfl) (fun _ _ _ h => h) (Or.inl ⟨by rfl, fun w hS => by go_simp⟩) hHeld ?_
        simp only [Act.put, List.getElem_toArray, List.getElem_cons_zero, List.getElem_cons_succ, List.setIfInBounds_toArray, List.set_cons_zero, List.set_cons_succ]
        refine wpAnyH_take (i := 17) (v := .int .i64 9) rfl (by kernel_rfl) (by kernel_rfl) (by kernel_rfl) (fun _ _ _ h => h) (Or.inl ⟨by rfl, fun w hS => by go_simp⟩) hHeld ?_
        simp only [Act.put, List.getElem_toArray, List.getElem_cons_zero, List.getElem_cons_succ, List.setIfInBounds_toArray, List.set_cons_zero, List.set_cons_succ]
        refine wpAnyH_done (by kernel_rfl) ?_ _
        clear hHeld
        go_wp2_with fail
        refine wp_region_held_drew (S := fun w' => Below z1.heap.size z1 w') (by kernel_rfl) ((below_drewN (Below.refl _ _) 1)) (fun hHeld => ?_)
        refine wpAnyH_take (i := 0) (v := .int .i64 0) rfl (by kernel_rfl) (by kernel_rfl) (by kernel_rfl) (fun _ _ _ h => h) (Or.inl ⟨by rfl, fun w hS => by go_simp⟩) hHeld ?_
        simp only [Act.put, List.getElem_toArray, List.getElem_cons_zero, List.setIfInBounds_toArray, List.set_cons_zero, List.set_cons_succ]
        refine wpAnyH_take (i := 1) (v := .bool false) rfl (by kernel_rfl) (by kernel_rfl) (by kernel_rfl) (fun _ _ _ h => h) (Or.inl ⟨by rfl, fun w hS => by go_simp⟩) hHeld ?_
        simp only [Act.put, List.getElem_toArray, List.getElem_cons_zero, List.getElem_cons_succ, List.setIfInBounds_toArray, List.set_cons_zero, List.set_cons_succ]
        refine wpAnyH_take (i := 2) (v := .bool false) rfl (by kernel_rfl) (by kernel_rfl) (by kernel_rfl) (fun _ _ _ h => h) (Or.inl ⟨by rfl, fun w hS => by go_simp⟩) hHeld ?_
        simp only [Act.put, List.getElem_toArray, List.getElem_cons_zero, List.getElem_cons_succ, List.setIfInBounds_toArray, List.set_cons_zero, List.set_cons_succ]
        refine wpAnyH_take (i := 3) (v := .pointer (some ⟨g, 0, none⟩)) rfl (by kernel_rfl) (by kernel_rfl) (by kernel_rfl) (fun _ _ _ h => h) (Or.inl ⟨by rfl, fun w hS => by go_simp⟩) hHeld ?_
        simp only [Act.put, List.getElem_toArray, List.getElem_cons_zero, List.getElem_cons_succ, List.setIfInBounds_toArray, List.set_cons_zero, List.set_cons_succ]
        refine wpAnyH_take (i := 5) (v := .int .i64 (o : Int)) rfl (by kernel_rfl) (by kernel_rfl) (by kernel_rfl) (fun _ _ _ h => h) (Or.inl ⟨by rfl, fun w hS => by go_simp⟩) hHeld ?_
        simp only [Act.put, List.getElem_toArray, List.getElem_cons_zero, List.getElem_cons_succ, List.setIfInBounds_toArray, List.set_cons_zero, List.set_cons_succ]
        refine wpAnyH_ready (rs := [4]) (by kernel_rfl) (by simp) ?_
        refine AllReadyH.cons rfl (fun KQ hK => ?_) AllReadyH.nil
        go_simp
        refine (HOC.out _ (grow_trans HQ6.out hHeld)).mono ?_
        rintro e z3 ⟨rfl, a1⟩
        refine hK.out _ _ (grow_trans hHeld a1) (fun hHeld => ?_)
        clear hK KQ
        refine wpAnyH_take (i := 6) (v := .bool false) rfl (by kernel_rfl) (by kernel_rfl) (by kernel_rfl) (fun _ _ _ h => h) (Or.inl ⟨by rfl, fun w hS => by go_simp⟩) hHeld ?_
        simp only [Act.put, List.getElem_toArray, List.getElem_cons_zero, List.getElem_cons_succ, List.setIfInBounds_toArray, List.set_cons_zero, List.set_cons_succ]
        refine wpAnyH_take (i := 7) (v := .bool false) rfl (by kernel_rfl) (by kernel_rfl) (by kernel_rfl) (fun _ _ _ h => h) (Or.inl ⟨by rfl, fun w hS => by go_simp⟩) hHeld ?_
        simp only [Act.put, List.getElem_toArray, List.getElem_cons_zero, List.getElem_cons_succ, List.setIfInBounds_toArray, List.set_cons_zero, List.set_cons_succ]
        refine wpAnyH_take (i := 8) (v := .bool false) rfl (by kernel_rfl) (by kernel_rfl) (by kernel_rfl) (fun _ _ _ h => h) (Or.inl ⟨by rfl, fun w hS => by go_simp⟩) hHeld ?_
        simp only [Act.put, List.getElem_toArray, List.getElem_cons_zero, List.getElem_cons_succ, List.setIfInBounds_toArray, List.set_cons_zero, List.set_cons_succ]
        refine wpAnyH_take (i := 9) (v := .pointer (some ⟨g, 0, none⟩)) rfl (by kernel_rfl) (by kernel_rfl) (by kernel_rfl) (fun _ _ _ h => h) (Or.inl ⟨by rfl, fun w hS => by go_simp⟩) hHeld ?_
        simp only [Act.put, List.getElem_toArray, List.getElem_cons_zero, List.getElem_cons_succ, List.setIfInBounds_toArray, List.set_cons_zero, List.set_cons_succ]
        refine wpAnyH_take (i := 10) (v := .int .i64 ry) rfl (by kernel_rfl) (by kernel_rfl) (by kernel_rfl) (fun _ _ _ h => h) (Or.inl ⟨by rfl, fun w hS => by go_simp⟩) hHeld ?_
        simp only [Act.put, List.getElem_toArray, List.getElem_cons_zero, List.getElem_cons_succ, List.setIfInBounds_toArray, List.set_cons_zero, List.set_cons_succ]
        refine wpAnyH_take (i := 12) (v := .agg (B D)) rfl (by kernel_rfl) (by kernel_rfl) (by kernel_rfl) (fun _ _ _ h => h) (yieldsIf_load_mid rfl 31 (.tmp 11) rfl bh 0 rfl (B D).toList _ (fun w hS => (HBH6.out.grow hS).range) Tryd.underlying31 rfl HHL.out) hHeld ?_
        simp only [Act.put, List.getElem_toArray, List.getElem_cons_zero, List.getElem_cons_succ, List.setIfInBounds_toArray, List.set_cons_zero, List.set_cons_succ]
        refine wpAnyH_ready (rs := [11]) (by kernel_rfl) (by simp) ?_
        refine AllReadyH.cons rfl (fun KQ hK => ?_) AllReadyH.nil
        go_simp
        refine (HDG.out _ (grow_trans HQ6.out hHeld)).mono ?_
        rintro e z4 ⟨rfl, a1⟩
        refine hK.out _ _ (grow_trans hHeld a1) (fun hHeld => ?_)
        clear hK KQ
        refine wpAnyH_take (i := 13) (v := .bool false) rfl (by kernel_rfl) (by kernel_rfl) (by kernel_rfl) (fun _ _ _ h => h) (Or.inl ⟨by rfl, fun w hS => by go_simp⟩) hHeld ?_
        simp only [Act.put, List.getElem_toArray, List.getElem_cons_zero, List.getElem_cons_succ, List.setIfInBounds_toArray, List.set_cons_zero, List.set_cons_succ]
        refine wpAnyH_take (i := 14) (v := .bool false) rfl (by kernel_rfl) (by kernel_rfl) (by kernel_rfl) (fun _ _ _ h => h) (Or.inl ⟨by rfl, fun w hS => by go_simp⟩) hHeld ?_
        simp only [Act.put, List.getElem_toArray, List.getElem_cons_zero, List.getElem_cons_succ, List.setIfInBounds_toArray, List.set_cons_zero, List.set_cons_succ]
        refine wpAnyH_done (by kernel_rfl) ?_ _
        have HQ7 := hidden (grow_trans HQ6.out hHeld)
        clear hHeld
        go_wp2_with fail
        exact ⟨⟨k + 1, root, by omega, by rw [HRY.out], by go_num, HNX.out _ HQ7.out⟩, by simp [intOf]; exact mea_step k1⟩
    · obtain rfl : k = n := by omega
      have nlt : ¬ (k : Int) < (k : Int) := by omega
      have HE := hidden (grow_trans HQW.out (HLow.out _ _ _ HRM.out))
      go_wp2_with fail
      go_ret
      exact ⟨rfl, HE.out⟩

end Go.Proofs.YtlinalcjdpikeabDoor

/- What every statement's proof asks of the program as a whole. -/
namespace Go.Proofs.YtlinalcjdpikeabDoor
set_option maxRecDepth 20000
open Go.ChangeShapes Go.WideShapes Go.ChangeAt Go.RowKit

theorem ownK : ownKnob Tryd.prog.godebug = none := by kernel_rfl
theorem laidOut : laidOutB Tryd.prog = true := by kernel_rfl

theorem okWide_st {t : TypeId} {fs : Array Field} {W : World} {base : Nat} {v : Value} (ht : Tryd.prog.underlying t = some (.struct fs)) (h : Value.okWide Tryd.prog W .any base t v) : ∃ cs, v = .agg cs := by
  unfold Value.okWide at h
  cases v <;> simp_all

end Go.Proofs.YtlinalcjdpikeabDoor
