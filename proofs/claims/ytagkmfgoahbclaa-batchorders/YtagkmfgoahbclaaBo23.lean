/- slices.swapRangeCmpFunc and slices.rotateCmpFunc at writes, as contracts. -/
import Derived.Test.YtagkmfgoahbclaaBo20
namespace Go.Proofs.Ytagkmfgoahbclaa
set_option maxRecDepth 20000
open Go.RowKit

set_option maxRecDepth 100000 in
set_option maxHeartbeats 8000000 in
theorem swr_any (w0 : World) (g n c a b m : Nat) (xs : List Wt) (fv : Value) (w : World) (h : Sw w0 g n c w xs) (hab : a + m ≤ b) (hb : b + m ≤ n) (hn : n ≤ 65536) :
    Calls Try.prog 35 #[.slice (some ⟨g, 0, none⟩) n c, .int .i64 (a : Int), .int .i64 (b : Int), .int .i64 (m : Int), fv] w fun e w' => e = .returned (.tuple #[]) ∧ Sw w0 g n c w' (swr xs a b m) := by
  obtain ⟨fs, hu⟩ := u_write
  have HUW := hidden hu
  have HSW := hidden h
  clear h hu
  go_enter Try.func35, Try.ntmps35
  go_wp2_with fail
  go_loopw [10] (fun iv wr => ∃ (k : Nat), k ≤ m ∧ iv = .int .i64 (k : Int) ∧ Hid (Sw w0 g n c wr (swr xs a b k))) (fun iv _ => m - (intOf iv).toNat)
  case atStart => exact ⟨0, by omega, rfl, HSW⟩
  case round =>
    clear HSW
    obtain ⟨k, hkm, rfl, hsw⟩ := hrel
    by_cases hlt : k < m
    · as_aux_lemma =>
        have z1 : (k : Int) < (m : Int) := by omega
        have hwk : wrap64 ((k : Int) + 1) = ((k + 1 : Nat) : Int) := by rw [Go.IntWalk.wrap64_in _ (by omega)]; rfl
        obtain ⟨p, hp⟩ : ∃ p, p = a + k := ⟨_, rfl⟩
        obtain ⟨q, hq⟩ : ∃ q, q = b + k := ⟨_, rfl⟩
        have HNX : Hid (swr xs a b (k + 1) = swp (swr xs a b k) p q) := by show _ = _; rw [swr, hp, hq]
        have z2 : IntKind.i64.wrap ((a : Int) + (k : Int)) = (p : Int) := by rw [IntKind.wrap_i64]; omega
        have z3 : IntKind.i64.wrap ((b : Int) + (k : Int)) = (q : Int) := by rw [IntKind.wrap_i64]; omega
        have z4 : (0 : Int) ≤ (p : Int) := by omega
        have z5 : (p : Int) < (n : Int) := by omega
        have z6 : (0 : Int) ≤ (q : Int) := by omega
        have z7 : (q : Int) < (n : Int) := by omega
        obtain ⟨X, Y, htwo⟩ := hsw.out.twos p q (by omega) (by omega)
        have HT := hidden (htwo _ (Below.refl _ _).drew)
        clear htwo hp hq hsw
        go_wp2_with fail
        refine wp_region_wrote (S := fun w' => w'.rangeAt g (p * 34) (encW X) ∧ w'.rangeAt g (q * 34) (encW Y)) [21, 23] (by kernel_rfl) (HT.out.rg) (fun hHeld => ?_)
        refine wpAnyW_take0 (i := 0) (v := .slice (some ⟨g, 0, none⟩) n c) rfl (by kernel_rfl) (by kernel_rfl) (by kernel_rfl) (by kernel_rfl) (fun _ _ _ h => h) (Or.inl ⟨by rfl, fun w hS => by go_simp⟩) (.inr hHeld) ?_
        simp only [Act.put, List.getElem_toArray, List.getElem_cons_zero, List.setIfInBounds_toArray, List.set_cons_zero, List.set_cons_succ]
        refine wpAnyW_take0 (i := 1) (v := .int .i64 (a : Int)) rfl (by kernel_rfl) (by kernel_rfl) (by kernel_rfl) (by kernel_rfl) (fun _ _ _ h => h) (Or.inl ⟨by rfl, fun w hS => by go_simp⟩) (.inr hHeld) ?_
        simp only [Act.put, List.getElem_toArray, List.getElem_cons_zero, List.getElem_cons_succ, List.setIfInBounds_toArray, List.set_cons_zero, List.set_cons_succ]
        refine wpAnyW_take0 (i := 2) (v := .int .i64 (k : Int)) rfl (by kernel_rfl) (by kernel_rfl) (by kernel_rfl) (by kernel_rfl) (fun _ _ _ h => h) (Or.inl ⟨by rfl, fun w hS => by go_simp⟩) (.inr hHeld) ?_
        simp only [Act.put, List.getElem_toArray, List.getElem_cons_zero, List.getElem_cons_succ, List.setIfInBounds_toArray, List.set_cons_zero, List.set_cons_succ]
        refine wpAnyW_take0 (i := 3) (v := .int .i64 (p : Int)) rfl (by kernel_rfl) (by kernel_rfl) (by kernel_rfl) (by kernel_rfl) (fun _ _ _ h => h) (Or.inl ⟨by rfl, fun w hS => by go_simp⟩) (.inr hHeld) ?_
        simp only [Act.put, List.getElem_toArray, List.getElem_cons_zero, List.getElem_cons_succ, List.setIfInBounds_toArray, List.set_cons_zero, List.set_cons_succ]
        refine wpAnyW_take0 (i := 4) (v := .slice (some ⟨g, 0, none⟩) n c) rfl (by kernel_rfl) (by kernel_rfl) (by kernel_rfl) (by kernel_rfl) (fun _ _ _ h => h) (Or.inl ⟨by rfl, fun w hS => by go_simp⟩) (.inr hHeld) ?_
        simp only [Act.put, List.getElem_toArray, List.getElem_cons_zero, List.getElem_cons_succ, List.setIfInBounds_toArray, List.set_cons_zero, List.set_cons_succ]
        refine wpAnyW_take0 (i := 5) (v := .int .i64 (b : Int)) rfl (by kernel_rfl) (by kernel_rfl) (by kernel_rfl) (by kernel_rfl) (fun _ _ _ h => h) (Or.inl ⟨by rfl, fun w hS => by go_simp⟩) (.inr hHeld) ?_
        simp only [Act.put, List.getElem_toArray, List.getElem_cons_zero, List.getElem_cons_succ, List.setIfInBounds_toArray, List.set_cons_zero, List.set_cons_succ]
        refine wpAnyW_take0 (i := 6) (v := .int .i64 (k : Int)) rfl (by kernel_rfl) (by kernel_rfl) (by kernel_rfl) (by kernel_rfl) (fun _ _ _ h => h) (Or.inl ⟨by rfl, fun w hS => by go_simp⟩) (.inr hHeld) ?_
        simp only [Act.put, List.getElem_toArray, List.getElem_cons_zero, List.getElem_cons_succ, List.setIfInBounds_toArray, List.set_cons_zero, List.set_cons_succ]
        refine wpAnyW_take0 (i := 7) (v := .int .i64 (q : Int)) rfl (by kernel_rfl) (by kernel_rfl) (by kernel_rfl) (by kernel_rfl) (fun _ _ _ h => h) (Or.inl ⟨by rfl, fun w hS => by go_simp⟩) (.inr hHeld) ?_
        simp only [Act.put, List.getElem_toArray, List.getElem_cons_zero, List.getElem_cons_succ, List.setIfInBounds_toArray, List.set_cons_zero, List.set_cons_succ]
        refine wpAnyW_take0 (i := 8) (v := .slice (some ⟨g, 0, none⟩) n c) rfl (by kernel_rfl) (by kernel_rfl) (by kernel_rfl) (by kernel_rfl) (fun _ _ _ h => h) (Or.inl ⟨by rfl, fun w hS => by go_simp⟩) (.inr hHeld) ?_
        simp only [Act.put, List.getElem_toArray, List.getElem_cons_zero, List.getElem_cons_succ, List.setIfInBounds_toArray, List.set_cons_zero, List.set_cons_succ]
        refine wpAnyW_take0 (i := 9) (v := .int .i64 (b : Int)) rfl (by kernel_rfl) (by kernel_rfl) (by kernel_rfl) (by kernel_rfl) (fun _ _ _ h => h) (Or.inl ⟨by rfl, fun w hS => by go_simp⟩) (.inr hHeld) ?_
        simp only [Act.put, List.getElem_toArray, List.getElem_cons_zero, List.getElem_cons_succ, List.setIfInBounds_toArray, List.set_cons_zero, List.set_cons_succ]
        refine wpAnyW_take0 (i := 10) (v := .int .i64 (k : Int)) rfl (by kernel_rfl) (by kernel_rfl) (by kernel_rfl) (by kernel_rfl) (fun _ _ _ h => h) (Or.inl ⟨by rfl, fun w hS => by go_simp⟩) (.inr hHeld) ?_
        simp only [Act.put, List.getElem_toArray, List.getElem_cons_zero, List.getElem_cons_succ, List.setIfInBounds_toArray, List.set_cons_zero, List.set_cons_succ]
        refine wpAnyW_take0 (i := 11) (v := .int .i64 (q : Int)) rfl (by kernel_rfl) (by kernel_rfl) (by kernel_rfl) (by kernel_rfl) (fun _ _ _ h => h) (Or.inl ⟨by rfl, fun w hS => by go_simp⟩) (.inr hHeld) ?_
        simp only [Act.put, List.getElem_toArray, List.getElem_cons_zero, List.getElem_cons_succ, List.setIfInBounds_toArray, List.set_cons_zero, List.set_cons_succ]
        refine wpAnyW_take0 (i := 12) (v := .pointer (some ⟨g, q * 34, none⟩)) rfl (by kernel_rfl) (by kernel_rfl) (by kernel_rfl) (by kernel_rfl) (fun _ _ _ h => h) (Or.inl ⟨by rfl, fun w hS => by go_simp⟩) (.inr hHeld) ?_
        simp only [Act.put, List.getElem_toArray, List.getElem_cons_zero, List.getElem_cons_succ, List.setIfInBounds_toArray, List.set_cons_zero, List.set_cons_succ]
        refine wpAnyW_take (i := 13) (v := .agg (encW Y).toArray) rfl (by kernel_rfl) (by kernel_rfl) (by kernel_rfl) (by kernel_rfl) (by kernel_rfl) (by kernel_rfl) (fun _ _ _ h => h) (yieldsIf_load_mid rfl 37 (.tmp 28) rfl g (q * 34) rfl (encW Y) _ (fun w hS => hS.2) HUW.out rfl HT.out.sy) hHeld ?_
        simp only [Act.put, List.getElem_toArray, List.getElem_cons_zero, List.getElem_cons_succ, List.setIfInBounds_toArray, List.set_cons_zero, List.set_cons_succ]
        refine wpAnyW_take0 (i := 14) (v := .slice (some ⟨g, 0, none⟩) n c) rfl (by kernel_rfl) (by kernel_rfl) (by kernel_rfl) (by kernel_rfl) (fun _ _ _ h => h) (Or.inl ⟨by rfl, fun w hS => by go_simp⟩) (.inr hHeld) ?_
        simp only [Act.put, List.getElem_toArray, List.getElem_cons_zero, List.getElem_cons_succ, List.setIfInBounds_toArray, List.set_cons_zero, List.set_cons_succ]
        refine wpAnyW_take0 (i := 15) (v := .int .i64 (a : Int)) rfl (by kernel_rfl) (by kernel_rfl) (by kernel_rfl) (by kernel_rfl) (fun _ _ _ h => h) (Or.inl ⟨by rfl, fun w hS => by go_simp⟩) (.inr hHeld) ?_
        simp only [Act.put, List.getElem_toArray, List.getElem_cons_zero, List.getElem_cons_succ, List.setIfInBounds_toArray, List.set_cons_zero, List.set_cons_succ]
        refine wpAnyW_take0 (i := 16) (v := .int .i64 (k : Int)) rfl (by kernel_rfl) (by kernel_rfl) (by kernel_rfl) (by kernel_rfl) (fun _ _ _ h => h) (Or.inl ⟨by rfl, fun w hS => by go_simp⟩) (.inr hHeld) ?_
        simp only [Act.put, List.getElem_toArray, List.getElem_cons_zero, List.getElem_cons_succ, List.setIfInBounds_toArray, List.set_cons_zero, List.set_cons_succ]
        refine wpAnyW_take0 (i := 17) (v := .int .i64 (p : Int)) rfl (by kernel_rfl) (by kernel_rfl) (by kernel_rfl) (by kernel_rfl) (fun _ _ _ h => h) (Or.inl ⟨by rfl, fun w hS => by go_simp⟩) (.inr hHeld) ?_
        simp only [Act.put, List.getElem_toArray, List.getElem_cons_zero, List.getElem_cons_succ, List.setIfInBounds_toArray, List.set_cons_zero, List.set_cons_succ]
        refine wpAnyW_take0 (i := 18) (v := .pointer (some ⟨g, p * 34, none⟩)) rfl (by kernel_rfl) (by kernel_rfl) (by kernel_rfl) (by kernel_rfl) (fun _ _ _ h => h) (Or.inl ⟨by rfl, fun w hS => by go_simp⟩) (.inr hHeld) ?_
        simp only [Act.put, List.getElem_toArray, List.getElem_cons_zero, List.getElem_cons_succ, List.setIfInBounds_toArray, List.set_cons_zero, List.set_cons_succ]
        refine wpAnyW_take (i := 19) (v := .agg (encW X).toArray) rfl (by kernel_rfl) (by kernel_rfl) (by kernel_rfl) (by kernel_rfl) (by kernel_rfl) (by kernel_rfl) (fun _ _ _ h => h) (yieldsIf_load_mid rfl 37 (.tmp 34) rfl g (p * 34) rfl (encW X) _ (fun w hS => hS.1) HUW.out rfl HT.out.sx) hHeld ?_
        simp only [Act.put, List.getElem_toArray, List.getElem_cons_zero, List.getElem_cons_succ, List.setIfInBounds_toArray, List.set_cons_zero, List.set_cons_succ]
        refine wpAnyW_take0 (i := 20) (v := .pointer (some ⟨g, p * 34, none⟩)) rfl (by kernel_rfl) (by kernel_rfl) (by kernel_rfl) (by kernel_rfl) (fun _ _ _ h => h) (Or.inl ⟨by rfl, fun w hS => by go_simp⟩) (.inr hHeld) ?_
        simp only [Act.put, List.getElem_toArray, List.getElem_cons_zero, List.getElem_cons_succ, List.setIfInBounds_toArray, List.set_cons_zero, List.set_cons_succ]
        refine wpAnyW_one (i := 21) rfl (by kernel_rfl) (by kernel_rfl) (fun KQ hK => ?_)
        refine step_stw _ rfl _ _ _ rfl g (p * 34) (encW Y).toArray rfl rfl HT.out.tx HT.out.ay HT.out.oy ?_
        refine hK.out _ _ ?_
        clear hK KQ
        refine wpAnyW_take0 (i := 22) (v := .pointer (some ⟨g, q * 34, none⟩)) rfl (by kernel_rfl) (by kernel_rfl) (by kernel_rfl) (by kernel_rfl) (fun _ _ _ h => h) (Or.inl ⟨by rfl, fun w hS => by go_simp⟩) (.inl (by kernel_rfl)) ?_
        simp only [Act.put, List.getElem_toArray, List.getElem_cons_zero, List.getElem_cons_succ, List.setIfInBounds_toArray, List.set_cons_zero, List.set_cons_succ]
        refine wpAnyW_one (i := 23) rfl (by kernel_rfl) (by kernel_rfl) (fun KQ hK => ?_)
        refine step_stw _ rfl _ _ _ rfl g (q * 34) (encW X).toArray rfl rfl HT.out.ty HT.out.ax HT.out.ox ?_
        refine hK.out _ _ ?_
        clear hK KQ
        refine wpAnyW_done (by kernel_rfl) ?_
        have HSW2 := hidden HT.out.swap
        clear HT
        rw [← HNX.out] at HSW2
        clear HNX
        generalize (wr.drew.setCells g (p * 34) (encW Y)).setCells g (q * 34) (encW X) = wz at HSW2 ⊢
        generalize hzs : swr xs a b (k + 1) = zs at HSW2
        have HZS := hidden hzs
        clear hzs
        go_wp2_with fail
        exact ⟨⟨k + 1, by omega, rfl, by rw [HZS.out]; exact HSW2⟩, by simp [intOf]; omega⟩
    · have z1 : ¬ (k : Int) < (m : Int) := by omega
      have HSM : Hid (Sw w0 g n c wr (swr xs a b m)) := by rw [show m = k by omega]; exact hsw.out
      clear hsw
      go_wp2
      go_end0
      exact ⟨rfl, HSM.out⟩

theorem w64_sub {m i : Nat} (h : i ≤ m) (hm : m ≤ 200000) : wrap64 ((m : Int) - (i : Int)) = ((m - i : Nat) : Int) := by rw [Go.IntWalk.wrap64_in _ (by omega)]; omega
theorem w64_add {m i : Nat} (hm : m + i ≤ 200000) : wrap64 ((m : Int) + (i : Int)) = ((m + i : Nat) : Int) := by rw [Go.IntWalk.wrap64_in _ (by omega)]; omega
theorem rt_right {xs ys : List Wt} {a m b i j n : Nat} (h : Rt5 xs a m b i j ys) (hij : i < j) (hb : b ≤ n) (hn : n ≤ 65536) : m - i + i ≤ m + j - i ∧ m + j - i + i ≤ n ∧ i ≤ m ∧ m ≤ 200000 ∧ m + j ≤ 200000 ∧ i ≤ m + j ∧ i ≤ j ∧ j ≤ 200000 ∧ j - i < j := by
  obtain ⟨r1, r2, r3, r4, r5, _⟩ := h
  omega
theorem rt_last {xs ys : List Wt} {a m b i n : Nat} (h : Rt5 xs a m b i i ys) (hb : b ≤ n) (hn : n ≤ 65536) : m - i + i ≤ m ∧ m + i ≤ n ∧ i ≤ m ∧ m ≤ 200000 := by
  obtain ⟨r1, r2, r3, r4, r5, _⟩ := h
  omega
theorem rt_left {xs ys : List Wt} {a m b i j n : Nat} (h : Rt5 xs a m b i j ys) (hij : j < i) (hb : b ≤ n) (hn : n ≤ 65536) : m - i + j ≤ m ∧ m + j ≤ n ∧ i ≤ m ∧ m ≤ 200000 ∧ j ≤ i ∧ i ≤ 200000 ∧ i - j < i := by
  obtain ⟨r1, r2, r3, r4, r5, _⟩ := h
  omega

set_option maxRecDepth 100000 in
set_option maxHeartbeats 8000000 in
theorem rot_any (w0 : World) (g n c a m b : Nat) (xs : List Wt) (fv : Value) (w : World) (h : Sw w0 g n c w xs) (ham : a < m) (hmb : m < b) (hb : b ≤ n) (hn : n ≤ 65536) :
    Calls Try.prog 34 #[.slice (some ⟨g, 0, none⟩) n c, .int .i64 (a : Int), .int .i64 (m : Int), .int .i64 (b : Int), fv] w fun e w' => e = .returned (.tuple #[]) ∧ Sw w0 g n c w' (rotW xs a m b) := by
  have HSW := hidden h
  have HR0 : Hid (Rt5 xs a m b (m - a) (b - m) xs) := ⟨by omega, by omega, by omega, by omega, by omega, rfl, by rw [show m - (m - a) = a by omega, show m + (b - m) = b by omega]⟩
  have HBL : Hid (b ≤ xs.length) := by rw [h.len]; exact hb
  obtain ⟨i0, hi0⟩ : ∃ i0, i0 = m - a := ⟨_, rfl⟩
  obtain ⟨j0, hj0⟩ : ∃ j0, j0 = b - m := ⟨_, rfl⟩
  rw [← hi0, ← hj0] at HR0
  have z1 : (m : Int) - (a : Int) = (i0 : Int) := by omega
  have z2 : (b : Int) - (m : Int) = (j0 : Int) := by omega
  have z3 : wrap64 (i0 : Int) = (i0 : Int) := Go.IntWalk.wrap64_in _ (by omega)
  have z4 : wrap64 (j0 : Int) = (j0 : Int) := Go.IntWalk.wrap64_in _ (by omega)
  clear h hi0 hj0
  go_enter Try.func34, Try.ntmps34
  go_wp2_with fail
  clear z1 z2 z3 z4
  go_loopw [10, 11] (fun iv jv wr => ∃ (i j : Nat) (ys : List Wt), iv = .int .i64 (i : Int) ∧ jv = .int .i64 (j : Int) ∧ Hid (Sw w0 g n c wr ys) ∧ Hid (Rt5 xs a m b i j ys)) (fun iv jv _ => (intOf iv).toNat + (intOf jv).toNat)
  case atStart => exact ⟨i0, j0, xs, rfl, rfl, HSW, HR0⟩
  case round =>
    clear HSW HR0
    obtain ⟨i, j, ys, rfl, rfl, hsw, hrt⟩ := hrel
    rcases Nat.lt_trichotomy i j with hij | hij | hij
    · as_aux_lemma =>
        have z1 : ¬ (i : Int) = (j : Int) := by omega
        have z2 : ¬ (j : Int) < (i : Int) := by omega
        obtain ⟨s1, s2, s3, s4, s5, s6, s7, s8, s9⟩ := rt_right hrt.out hij hb hn
        have HN := hidden (hrt.out.right HBL.out hij)
        have HC : Hid (∀ w', Below wr.heap.size wr w' → Calls Try.prog 35 #[.slice (some ⟨g, 0, none⟩) n c, .int .i64 ((m - i : Nat) : Int), .int .i64 ((m + j - i : Nat) : Int), .int .i64 (i : Int), fv] w' fun e w'' => e = .returned (.tuple #[]) ∧ Sw w0 g n c w'' (swr ys (m - i) (m + j - i) i)) := fun w' hb => swr_any w0 g n c (m - i) (m + j - i) i ys fv w' (hsw.out.grow hb) s1 s2 hn
        have z3 := w64_sub s3 s4
        have z4 := w64_add s5
        have z5 := w64_sub s6 s5
        have z6 := w64_sub s7 s8
        have HS9 := hidden s9
        obtain ⟨j2, hj2⟩ : ∃ j2, j2 = j - i := ⟨_, rfl⟩
        obtain ⟨p, hp⟩ : ∃ p, p = m - i := ⟨_, rfl⟩
        obtain ⟨q, hq⟩ : ∃ q, q = m + j - i := ⟨_, rfl⟩
        obtain ⟨mj, hmj⟩ : ∃ mj, mj = m + j := ⟨_, rfl⟩
        rw [← hq] at z5 HC HN
        rw [← hj2] at z6 HN HS9
        rw [← hp] at z3 HC HN
        rw [← hmj] at z4 z5
        clear hj2 hp hq hmj hsw hrt s1 s2 s3 s4 s5 s6 s7 s8 s9 hij
        go_wp2_with (go_at_call 35; refine (HC.out _ (Below.refl _ _)).mono ?_; rintro e wx ⟨rfl, hswx⟩; have HSWX := hidden hswx; clear hswx)
        exact ⟨⟨i, j2, _, rfl, by rw [z6], HSWX, HN⟩, by have := HS9.out; simp [intOf]; omega⟩
    · as_aux_lemma =>
        subst hij
        obtain ⟨s1, s2, s3, s4⟩ := rt_last hrt.out hb hn
        have HN := hidden (hrt.out.last HBL.out)
        have HC : Hid (∀ w', Below wr.heap.size wr w' → Calls Try.prog 35 #[.slice (some ⟨g, 0, none⟩) n c, .int .i64 ((m - i : Nat) : Int), .int .i64 (m : Int), .int .i64 (i : Int), fv] w' fun e w'' => e = .returned (.tuple #[]) ∧ Sw w0 g n c w'' (swr ys (m - i) m i)) := fun w' hb => swr_any w0 g n c (m - i) m i ys fv w' (hsw.out.grow hb) s1 s2 hn
        have z3 := w64_sub s3 s4
        obtain ⟨p, hp⟩ : ∃ p, p = m - i := ⟨_, rfl⟩
        rw [← hp] at z3 HC HN
        rw [HN.out] at HC
        clear hp HN hsw hrt s1 s2 s3 s4
        go_wp2_with (go_at_call 35; refine (HC.out _ (Below.refl _ _)).mono ?_; rintro e wx ⟨rfl, hswx⟩; have HSWX := hidden hswx; clear hswx)
        go_end0
        exact ⟨rfl, HSWX.out⟩
    · as_aux_lemma =>
        have z1 : ¬ (i : Int) = (j : Int) := by omega
        have z2 : (j : Int) < (i : Int) := by omega
        obtain ⟨s1, s2, s3, s4, s5, s6, s7⟩ := rt_left hrt.out hij hb hn
        have HN := hidden (hrt.out.left HBL.out hij)
        have HC : Hid (∀ w', Below wr.heap.size wr w' → Calls Try.prog 35 #[.slice (some ⟨g, 0, none⟩) n c, .int .i64 ((m - i : Nat) : Int), .int .i64 (m : Int), .int .i64 (j : Int), fv] w' fun e w'' => e = .returned (.tuple #[]) ∧ Sw w0 g n c w'' (swr ys (m - i) m j)) := fun w' hb => swr_any w0 g n c (m - i) m j ys fv w' (hsw.out.grow hb) s1 s2 hn
        have z3 := w64_sub s3 s4
        have z6 := w64_sub s5 s6
        have HS9 := hidden s7
        obtain ⟨j2, hj2⟩ : ∃ j2, j2 = i - j := ⟨_, rfl⟩
        obtain ⟨p, hp⟩ : ∃ p, p = m - i := ⟨_, rfl⟩
        rw [← hj2] at z6 HN HS9
        rw [← hp] at z3 HC HN
        clear hj2 hp hsw hrt s1 s2 s3 s4 s5 s6 s7 hij
        go_wp2_with (go_at_call 35; refine (HC.out _ (Below.refl _ _)).mono ?_; rintro e wx ⟨rfl, hswx⟩; have HSWX := hidden hswx; clear hswx)
        exact ⟨⟨j2, j, _, by rw [z6], rfl, HSWX, HN⟩, by have := HS9.out; simp [intOf]; omega⟩

end Go.Proofs.Ytagkmfgoahbclaa

/- slices.symMergeCmpFunc at writes, where one of both stretches is a single write. -/
namespace Go.Proofs.Ytagkmfgoahbclaa
set_option maxRecDepth 20000
open Go.RowKit

theorem w64_nat {k : Nat} (h : k ≤ 200000) : wrap64 (k : Int) = (k : Int) := Go.IntWalk.wrap64_in _ (by omega)
theorem w64_succ {k k1 : Nat} (h : k ≤ 200000) (h1 : k1 = k + 1) : wrap64 ((k : Int) + 1) = (k1 : Int) := by rw [Go.IntWalk.wrap64_in _ (by omega)]; omega
theorem wi_succ {k k1 : Nat} (h : k ≤ 200000) (h1 : k1 = k + 1) : IntKind.i64.wrap ((k : Int) + 1) = (k1 : Int) := by rw [IntKind.wrap_i64]; omega

/-- A number in the midst of two. -/
theorem mid_ex {i j b : Nat} (h : i < j) (hb : j ≤ b) (hn : b ≤ 65536) : ∃ h : Nat, ((i : Int) + (j : Int)) / 2 = (h : Int) ∧ i ≤ h ∧ h < j ∧ wrap64 ((h : Int) + 1) = ((h + 1 : Nat) : Int) ∧ (0 : Int) ≤ (h : Int) ∧ (h : Int) < (b : Int) := by
  refine ⟨(i + j) / 2, by omega, by omega, by omega, ?_, by omega, by omega⟩
  rw [Go.IntWalk.wrap64_in _ (by omega)]
  rfl

set_option maxRecDepth 100000 in
set_option maxHeartbeats 8000000 in
theorem mrgA_any (w0 : World) (g n c a m b : Nat) (xs : List Wt) (w : World) (h : Sw w0 g n c w xs) (ham : m = a + 1) (hmb : m < b) (hb : b ≤ n) (hn : n ≤ 65536) (hs : Srt m b xs) :
    Calls Try.prog 32 #[.slice (some ⟨g, 0, none⟩) n c, .int .i64 (a : Int), .int .i64 (m : Int), .int .i64 (b : Int), .func (.func 24) #[] #[]] w fun e w' => e = .returned (.tuple #[]) ∧ ∃ ys, Sw w0 g n c w' ys ∧ StR a b xs ys ∧ Srt a b ys := by
  obtain ⟨fs, hu⟩ := u_write
  have HUW := hidden hu
  have HSW := hidden h
  have HLX := hidden h.len
  have HSR := hidden hs
  have HAM := hidden ham
  have z1 : (m : Int) - (a : Int) = 1 := by omega
  have hbn : b ≤ 65536 := by omega
  have hlta : a < m := by omega
  clear h hu hs ham
  go_enter Try.func32, Try.ntmps32
  go_wp2_with fail
  clear z1
  go_loopw [10, 11, 12] (fun iv jv hv wr => ∃ (i j : Nat), m ≤ i ∧ i ≤ j ∧ j ≤ b ∧ iv = .int .i64 (i : Int) ∧ jv = .int .i64 (j : Int) ∧ Hid (Sw w0 g n c wr xs) ∧ Hid (∀ p, a < p → p < i → Ahead (ky xs p) (ky xs a)) ∧ Hid (∀ p, j ≤ p → p < b → ¬ Ahead (ky xs p) (ky xs a))) (fun iv jv _ _ => (intOf jv).toNat - (intOf iv).toNat)
  case atStart => exact ⟨m, b, by omega, by omega, by omega, rfl, rfl, HSW, fun p h1 h2 => by have := HAM.out; omega, fun p h1 h2 => by omega⟩
  case round =>
    clear HSW
    obtain ⟨i, j, hmi, hij, hjb, rfl, rfl, hsw, hlo, hhi⟩ := hrel
    by_cases hlt : i < j
    · as_aux_lemma =>
        have z1 : (i : Int) < (j : Int) := by omega
        have z2 : (a : Int) < (n : Int) := by omega
        have z9 : (0 : Int) ≤ (a : Int) := by omega
        obtain ⟨q, z3, q1, q2, z4, z5, z6⟩ := mid_ex hlt hjb hbn
        have z7 : (q : Int) < (n : Int) := by omega
        obtain ⟨X, Y, htwo⟩ := hsw.out.twos q a (by omega) (by omega)
        have HT := hidden htwo
        have HT0 := hidden (htwo wr (Below.refl _ _))
        have HCM := hidden HT0.out.lt
        have HC := hidden HT0.out.call
        obtain ⟨r, hr⟩ : ∃ r, r = cmp X.k Y.k := ⟨_, rfl⟩
        rw [← hr] at HC HCM
        clear htwo hr z6
        go_wp2_with fail
        have d0 : Below wr.heap.size wr wr.drew := (Below.refl _ _).drew
        refine wp_region_held_drew (S := fun w' => w'.rangeAt g (q * 34) (encW X) ∧ w'.rangeAt g (a * 34) (encW Y)) (by kernel_rfl) ((HT.out _ d0).rg) (fun hHeld => ?_)
        refine wpAnyH_take (i := 0) (v := .func (.func 24) #[] #[]) rfl (by kernel_rfl) (by kernel_rfl) (by kernel_rfl) (fun _ _ _ h => h) (Or.inl ⟨by rfl, fun w hS => by go_simp⟩) hHeld ?_
        simp only [Act.put, List.getElem_toArray, List.getElem_cons_zero, List.setIfInBounds_toArray, List.set_cons_zero, List.set_cons_succ]
        refine wpAnyH_take (i := 1) (v := .slice (some ⟨g, 0, none⟩) n c) rfl (by kernel_rfl) (by kernel_rfl) (by kernel_rfl) (fun _ _ _ h => h) (Or.inl ⟨by rfl, fun w hS => by go_simp⟩) hHeld ?_
        simp only [Act.put, List.getElem_toArray, List.getElem_cons_zero, List.getElem_cons_succ, List.setIfInBounds_toArray, List.set_cons_zero, List.set_cons_succ]
        refine wpAnyH_take (i := 2) (v := .int .i64 (q : Int)) rfl (by kernel_rfl) (by kernel_rfl) (by kernel_rfl) (fun _ _ _ h => h) (Or.inl ⟨by rfl, fun w hS => by go_simp⟩) hHeld ?_
        simp only [Act.put, List.getElem_toArray, List.getElem_cons_zero, List.getElem_cons_succ, List.setIfInBounds_toArray, List.set_cons_zero, List.set_cons_succ]
        refine wpAnyH_take (i := 3) (v := .pointer (some ⟨g, q * 34, none⟩)) rfl (by kernel_rfl) (by kernel_rfl) (by kernel_rfl) (fun _ _ _ h => h) (Or.inl ⟨by rfl, fun w hS => by go_simp⟩) hHeld ?_
        simp only [Act.put, List.getElem_toArray, List.getElem_cons_zero, List.getElem_cons_succ, List.setIfInBounds_toArray, List.set_cons_zero, List.set_cons_succ]
        refine wpAnyH_take (i := 4) (v := .agg (encW X).toArray) rfl (by kernel_rfl) (by kernel_rfl) (by kernel_rfl) (fun _ _ _ h => h) (yieldsIf_load_mid rfl 37 (.tmp 43) rfl g (q * 34) rfl (encW X) _ (fun w hS => hS.1) HUW.out rfl HT0.out.sx) hHeld ?_
        simp only [Act.put, List.getElem_toArray, List.getElem_cons_zero, List.getElem_cons_succ, List.setIfInBounds_toArray, List.set_cons_zero, List.set_cons_succ]
        refine wpAnyH_take (i := 5) (v := .slice (some ⟨g, 0, none⟩) n c) rfl (by kernel_rfl) (by kernel_rfl) (by kernel_rfl) (fun _ _ _ h => h) (Or.inl ⟨by rfl, fun w hS => by go_simp⟩) hHeld ?_
        simp only [Act.put, List.getElem_toArray, List.getElem_cons_zero, List.getElem_cons_succ, List.setIfInBounds_toArray, List.set_cons_zero, List.set_cons_succ]
        refine wpAnyH_take (i := 6) (v := .int .i64 (a : Int)) rfl (by kernel_rfl) (by kernel_rfl) (by kernel_rfl) (fun _ _ _ h => h) (Or.inl ⟨by rfl, fun w hS => by go_simp⟩) hHeld ?_
        simp only [Act.put, List.getElem_toArray, List.getElem_cons_zero, List.getElem_cons_succ, List.setIfInBounds_toArray, List.set_cons_zero, List.set_cons_succ]
        refine wpAnyH_take (i := 7) (v := .pointer (some ⟨g, a * 34, none⟩)) rfl (by kernel_rfl) (by kernel_rfl) (by kernel_rfl) (fun _ _ _ h => h) (Or.inl ⟨by rfl, fun w hS => by go_simp⟩) hHeld ?_
        simp only [Act.put, List.getElem_toArray, List.getElem_cons_zero, List.getElem_cons_succ, List.setIfInBounds_toArray, List.set_cons_zero, List.set_cons_succ]
        refine wpAnyH_take (i := 8) (v := .agg (encW Y).toArray) rfl (by kernel_rfl) (by kernel_rfl) (by kernel_rfl) (fun _ _ _ h => h) (yieldsIf_load_mid rfl 37 (.tmp 47) rfl g (a * 34) rfl (encW Y) _ (fun w hS => hS.2) HUW.out rfl HT0.out.sy) hHeld ?_
        simp only [Act.put, List.getElem_toArray, List.getElem_cons_zero, List.getElem_cons_succ, List.setIfInBounds_toArray, List.set_cons_zero, List.set_cons_succ]
        refine wpAnyH_ready (rs := [9]) (by kernel_rfl) (by simp) ?_
        refine AllReadyH.cons rfl (fun KQ hK => ?_) AllReadyH.nil
        go_simp
        refine (HC.out _).mono ?_
        rintro e wx ⟨rfl, bx⟩
        have d1 := grow_trans d0 bx
        refine hK.out _ _ ((HT.out _ d1).rg) (fun hHeld => ?_)
        clear hK KQ
        refine wpAnyH_take (i := 10) (v := .bool (decide (r < 0))) rfl (by kernel_rfl) (by kernel_rfl) (by kernel_rfl) (fun _ _ _ h => h) (Or.inl ⟨by rfl, fun w hS => by go_simp⟩) hHeld ?_
        simp only [Act.put, List.getElem_toArray, List.getElem_cons_zero, List.getElem_cons_succ, List.setIfInBounds_toArray, List.set_cons_zero, List.set_cons_succ]
        refine wpAnyH_done (by kernel_rfl) ?_ _
        have HSW2 := hidden (HT.out _ d1).sw
        have HKY := hidden HSW2.out.kys
        clear HC HT0 HT
        by_cases hr0 : r < 0
        · have HAL := hidden (HCM.out.1 hr0)
          have HLO : Hid (∀ p, a < p → p < q + 1 → Ahead (ky xs p) (ky xs a)) := fun p h1 h2 => by
            by_cases e : p < i
            · exact hlo.out p h1 e
            · by_cases e2 : p = q
              · rw [e2]; exact HAL.out
              · have := HLX.out
                exact al_le (HKY.out.at (by omega)) (HKY.out.at (by omega)) (HSR.out p q (by omega) (by omega) (by omega)) HAL.out
          clear HCM hlo
          go_wp2_with fail
          exact ⟨⟨q + 1, j, by omega, by omega, by omega, rfl, rfl, HSW2, HLO, hhi⟩, by simp [intOf]; omega⟩
        · have HHI : Hid (∀ p, q ≤ p → p < b → ¬ Ahead (ky xs p) (ky xs a)) := fun p h1 h2 => by
            by_cases e : j ≤ p
            · exact hhi.out p e h2
            · by_cases e2 : p = q
              · rw [e2]; exact fun x => hr0 (HCM.out.2 x)
              · have := HLX.out
                exact al_nn (HKY.out.at (by omega)) (HKY.out.at (by omega)) (fun x => hr0 (HCM.out.2 x)) (HSR.out q p (by omega) (by omega) (by omega))
          clear HCM hhi
          go_wp2_with fail
          exact ⟨⟨i, q, by omega, by omega, by omega, rfl, rfl, HSW2, hlo, HHI⟩, by simp [intOf]; omega⟩
    · as_aux_lemma =>
        have z1 : ¬ (i : Int) < (j : Int) := by omega
        obtain ⟨i1, hi1⟩ : ∃ i1, i = i1 + 1 := ⟨i - 1, by omega⟩
        have HI1 := hidden hi1
        have z2 : (i : Int) - 1 = (i1 : Int) := by omega
        have hi200 : i1 ≤ 200000 := by omega
        have hai : a ≤ i1 := by omega
        have hib : i1 < b := by omega
        have HHI : Hid (∀ p, i ≤ p → p < b → ¬ Ahead (ky xs p) (ky xs a)) := fun p h1 h2 => hhi.out p (by omega) h2
        have HU0 : Hid (Up xs a b a xs) := Up.start (by omega) (by have := HLX.out; omega)
        have z3 := w64_nat hi200
        clear hhi hi1
        go_wp2_with fail
        clear z3
        go_loopw [13] (fun kv wr => ∃ (k : Nat) (ys : List Wt), a ≤ k ∧ k ≤ i1 ∧ kv = .int .i64 (k : Int) ∧ Hid (Sw w0 g n c wr ys) ∧ Hid (Up xs a b k ys)) (fun kv _ => i1 - (intOf kv).toNat)
        case atStart => exact ⟨a, xs, by omega, by omega, rfl, hsw, HU0⟩
        case round =>
          clear HU0 hsw
          obtain ⟨k, ys, hak, hki, rfl, hsw, hup⟩ := hrel
          have z2 : (i : Int) - 1 = (i1 : Int) := by have := HI1.out; omega
          have hi200 : i1 ≤ 200000 := by omega
          by_cases hlt2 : k < i1
          · as_aux_lemma =>
              have z4 : (k : Int) < (i1 : Int) := by omega
              obtain ⟨k1, hk1⟩ : ∃ k1, k1 = k + 1 := ⟨_, rfl⟩
              have HK1 := hidden hk1
              have hk200 : k ≤ 200000 := by omega
              have z7 : (0 : Int) ≤ (k : Int) := by omega
              have z8 : (k : Int) < (n : Int) := by omega
              have z9 : (0 : Int) ≤ (k1 : Int) := by omega
              have z10 : (k1 : Int) < (n : Int) := by omega
              obtain ⟨X, Y, htwo⟩ := hsw.out.twos k k1 (by omega) (by omega)
              have HT := hidden (htwo _ (Below.refl _ _).drew)
              have HUP2 : Hid (Up xs a b k1 (swp ys k k1)) := by
                show Up _ _ _ _ _
                have e := HK1.out
                rw [e]
                exact hup.out.step hak (by omega) (hlo.out (k + 1) (by omega) (by have := HI1.out; omega))
              have z3 := w64_nat hi200
              have z5 := wi_succ hk200 hk1
              have z6' := w64_succ hk200 hk1
              clear htwo hk1 hsw hup hi200 hk200
              go_wp2_with fail
              refine wp_region_wrote (S := fun w' => w'.rangeAt g (k * 34) (encW X) ∧ w'.rangeAt g (k1 * 34) (encW Y)) [15, 17] (by kernel_rfl) (HT.out.rg) (fun hHeld => ?_)
              refine wpAnyW_take0 (i := 0) (v := .slice (some ⟨g, 0, none⟩) n c) rfl (by kernel_rfl) (by kernel_rfl) (by kernel_rfl) (by kernel_rfl) (fun _ _ _ h => h) (Or.inl ⟨by rfl, fun w hS => by go_simp⟩) (.inr hHeld) ?_
              simp only [Act.put, List.getElem_toArray, List.getElem_cons_zero, List.setIfInBounds_toArray, List.set_cons_zero, List.set_cons_succ]
              refine wpAnyW_take0 (i := 1) (v := .int .i64 (k : Int)) rfl (by kernel_rfl) (by kernel_rfl) (by kernel_rfl) (by kernel_rfl) (fun _ _ _ h => h) (Or.inl ⟨by rfl, fun w hS => by go_simp⟩) (.inr hHeld) ?_
              simp only [Act.put, List.getElem_toArray, List.getElem_cons_zero, List.getElem_cons_succ, List.setIfInBounds_toArray, List.set_cons_zero, List.set_cons_succ]
              refine wpAnyW_take0 (i := 2) (v := .slice (some ⟨g, 0, none⟩) n c) rfl (by kernel_rfl) (by kernel_rfl) (by kernel_rfl) (by kernel_rfl) (fun _ _ _ h => h) (Or.inl ⟨by rfl, fun w hS => by go_simp⟩) (.inr hHeld) ?_
              simp only [Act.put, List.getElem_toArray, List.getElem_cons_zero, List.getElem_cons_succ, List.setIfInBounds_toArray, List.set_cons_zero, List.set_cons_succ]
              refine wpAnyW_take0 (i := 3) (v := .int .i64 (k : Int)) rfl (by kernel_rfl) (by kernel_rfl) (by kernel_rfl) (by kernel_rfl) (fun _ _ _ h => h) (Or.inl ⟨by rfl, fun w hS => by go_simp⟩) (.inr hHeld) ?_
              simp only [Act.put, List.getElem_toArray, List.getElem_cons_zero, List.getElem_cons_succ, List.setIfInBounds_toArray, List.set_cons_zero, List.set_cons_succ]
              refine wpAnyW_take0 (i := 4) (v := .int .i64 (k1 : Int)) rfl (by kernel_rfl) (by kernel_rfl) (by kernel_rfl) (by kernel_rfl) (fun _ _ _ h => h) (Or.inl ⟨by rfl, fun w hS => by go_simp⟩) (.inr hHeld) ?_
              simp only [Act.put, List.getElem_toArray, List.getElem_cons_zero, List.getElem_cons_succ, List.setIfInBounds_toArray, List.set_cons_zero, List.set_cons_succ]
              refine wpAnyW_take0 (i := 5) (v := .slice (some ⟨g, 0, none⟩) n c) rfl (by kernel_rfl) (by kernel_rfl) (by kernel_rfl) (by kernel_rfl) (fun _ _ _ h => h) (Or.inl ⟨by rfl, fun w hS => by go_simp⟩) (.inr hHeld) ?_
              simp only [Act.put, List.getElem_toArray, List.getElem_cons_zero, List.getElem_cons_succ, List.setIfInBounds_toArray, List.set_cons_zero, List.set_cons_succ]
              refine wpAnyW_take0 (i := 6) (v := .int .i64 (k : Int)) rfl (by kernel_rfl) (by kernel_rfl) (by kernel_rfl) (by kernel_rfl) (fun _ _ _ h => h) (Or.inl ⟨by rfl, fun w hS => by go_simp⟩) (.inr hHeld) ?_
              simp only [Act.put, List.getElem_toArray, List.getElem_cons_zero, List.getElem_cons_succ, List.setIfInBounds_toArray, List.set_cons_zero, List.set_cons_succ]
              refine wpAnyW_take0 (i := 7) (v := .int .i64 (k1 : Int)) rfl (by kernel_rfl) (by kernel_rfl) (by kernel_rfl) (by kernel_rfl) (fun _ _ _ h => h) (Or.inl ⟨by rfl, fun w hS => by go_simp⟩) (.inr hHeld) ?_
              simp only [Act.put, List.getElem_toArray, List.getElem_cons_zero, List.getElem_cons_succ, List.setIfInBounds_toArray, List.set_cons_zero, List.set_cons_succ]
              refine wpAnyW_take0 (i := 8) (v := .pointer (some ⟨g, k1 * 34, none⟩)) rfl (by kernel_rfl) (by kernel_rfl) (by kernel_rfl) (by kernel_rfl) (fun _ _ _ h => h) (Or.inl ⟨by rfl, fun w hS => by go_simp⟩) (.inr hHeld) ?_
              simp only [Act.put, List.getElem_toArray, List.getElem_cons_zero, List.getElem_cons_succ, List.setIfInBounds_toArray, List.set_cons_zero, List.set_cons_succ]
              refine wpAnyW_take (i := 9) (v := .agg (encW Y).toArray) rfl (by kernel_rfl) (by kernel_rfl) (by kernel_rfl) (by kernel_rfl) (by kernel_rfl) (by kernel_rfl) (fun _ _ _ h => h) (yieldsIf_load_mid rfl 37 (.tmp 69) rfl g (k1 * 34) rfl (encW Y) _ (fun w hS => hS.2) HUW.out rfl HT.out.sy) hHeld ?_
              simp only [Act.put, List.getElem_toArray, List.getElem_cons_zero, List.getElem_cons_succ, List.setIfInBounds_toArray, List.set_cons_zero, List.set_cons_succ]
              refine wpAnyW_take0 (i := 10) (v := .slice (some ⟨g, 0, none⟩) n c) rfl (by kernel_rfl) (by kernel_rfl) (by kernel_rfl) (by kernel_rfl) (fun _ _ _ h => h) (Or.inl ⟨by rfl, fun w hS => by go_simp⟩) (.inr hHeld) ?_
              simp only [Act.put, List.getElem_toArray, List.getElem_cons_zero, List.getElem_cons_succ, List.setIfInBounds_toArray, List.set_cons_zero, List.set_cons_succ]
              refine wpAnyW_take0 (i := 11) (v := .int .i64 (k : Int)) rfl (by kernel_rfl) (by kernel_rfl) (by kernel_rfl) (by kernel_rfl) (fun _ _ _ h => h) (Or.inl ⟨by rfl, fun w hS => by go_simp⟩) (.inr hHeld) ?_
              simp only [Act.put, List.getElem_toArray, List.getElem_cons_zero, List.getElem_cons_succ, List.setIfInBounds_toArray, List.set_cons_zero, List.set_cons_succ]
              refine wpAnyW_take0 (i := 12) (v := .pointer (some ⟨g, k * 34, none⟩)) rfl (by kernel_rfl) (by kernel_rfl) (by kernel_rfl) (by kernel_rfl) (fun _ _ _ h => h) (Or.inl ⟨by rfl, fun w hS => by go_simp⟩) (.inr hHeld) ?_
              simp only [Act.put, List.getElem_toArray, List.getElem_cons_zero, List.getElem_cons_succ, List.setIfInBounds_toArray, List.set_cons_zero, List.set_cons_succ]
              refine wpAnyW_take (i := 13) (v := .agg (encW X).toArray) rfl (by kernel_rfl) (by kernel_rfl) (by kernel_rfl) (by kernel_rfl) (by kernel_rfl) (by kernel_rfl) (fun _ _ _ h => h) (yieldsIf_load_mid rfl 37 (.tmp 73) rfl g (k * 34) rfl (encW X) _ (fun w hS => hS.1) HUW.out rfl HT.out.sx) hHeld ?_
              simp only [Act.put, List.getElem_toArray, List.getElem_cons_zero, List.getElem_cons_succ, List.setIfInBounds_toArray, List.set_cons_zero, List.set_cons_succ]
              refine wpAnyW_take0 (i := 14) (v := .pointer (some ⟨g, k * 34, none⟩)) rfl (by kernel_rfl) (by kernel_rfl) (by kernel_rfl) (by kernel_rfl) (fun _ _ _ h => h) (Or.inl ⟨by rfl, fun w hS => by go_simp⟩) (.inr hHeld) ?_
              simp only [Act.put, List.getElem_toArray, List.getElem_cons_zero, List.getElem_cons_succ, List.setIfInBounds_toArray, List.set_cons_zero, List.set_cons_succ]
              refine wpAnyW_one (i := 15) rfl (by kernel_rfl) (by kernel_rfl) (fun KQ hK => ?_)
              refine step_stw _ rfl _ _ _ rfl g (k * 34) (encW Y).toArray rfl rfl HT.out.tx HT.out.ay HT.out.oy ?_
              refine hK.out _ _ ?_
              clear hK KQ
              refine wpAnyW_take0 (i := 16) (v := .pointer (some ⟨g, k1 * 34, none⟩)) rfl (by kernel_rfl) (by kernel_rfl) (by kernel_rfl) (by kernel_rfl) (fun _ _ _ h => h) (Or.inl ⟨by rfl, fun w hS => by go_simp⟩) (.inl (by kernel_rfl)) ?_
              simp only [Act.put, List.getElem_toArray, List.getElem_cons_zero, List.getElem_cons_succ, List.setIfInBounds_toArray, List.set_cons_zero, List.set_cons_succ]
              refine wpAnyW_one (i := 17) rfl (by kernel_rfl) (by kernel_rfl) (fun KQ hK => ?_)
              refine step_stw _ rfl _ _ _ rfl g (k1 * 34) (encW X).toArray rfl rfl HT.out.ty HT.out.ax HT.out.ox ?_
              refine hK.out _ _ ?_
              clear hK KQ
              refine wpAnyW_done (by kernel_rfl) ?_
              have HSW2 := hidden HT.out.swap
              have hkk := HK1.out
              clear HT HI1 HK1
              generalize (wr.drew.setCells g (k * 34) (encW Y)).setCells g (k1 * 34) (encW X) = wz at HSW2 ⊢
              generalize swp ys k k1 = zs at HSW2 HUP2
              have HKK := hidden hkk
              clear hkk
              go_wp2_with fail
              clear z3 z5 z6'
              exact ⟨⟨k1, zs, by have := HKK.out; omega, by have := HKK.out; omega, rfl, HSW2, HUP2⟩, by have := HKK.out; simp [intOf]; omega⟩
          · have z4 : ¬ (k : Int) < (i1 : Int) := by omega
            have z3 := w64_nat hi200
            have HP : Hid (∃ ys, Sw w0 g n c wr ys ∧ StR a b xs ys ∧ Srt a b ys) := ⟨ys, hsw.out, hup.out.st, Up.done (i := i) (by rw [show i - 1 = k by have := HI1.out; omega]; exact hup.out) (by have := HI1.out; omega) (by omega) (by have := HSR.out; rw [HAM.out] at this; exact this) hlo.out HHI.out⟩
            clear hsw hup hlo HHI
            go_wp2
            refine bodyPost_ret (results_none rfl _ _ _) rfl ?_
            exact ⟨rfl, HP.out⟩

set_option maxRecDepth 100000 in
set_option maxHeartbeats 8000000 in
theorem mrgB_any (w0 : World) (g n c a m b : Nat) (xs : List Wt) (w : World) (h : Sw w0 g n c w xs) (ham : a + 1 < m) (hmb : b = m + 1) (hb : b ≤ n) (hn : n ≤ 65536) (hs : Srt a m xs) :
    Calls Try.prog 32 #[.slice (some ⟨g, 0, none⟩) n c, .int .i64 (a : Int), .int .i64 (m : Int), .int .i64 (b : Int), .func (.func 24) #[] #[]] w fun e w' => e = .returned (.tuple #[]) ∧ ∃ ys, Sw w0 g n c w' ys ∧ StR a b xs ys ∧ Srt a b ys := by
  obtain ⟨fs, hu⟩ := u_write
  have HUW := hidden hu
  have HSW := hidden h
  have HLX := hidden h.len
  have HSR := hidden hs
  have HMB := hidden hmb
  have z0 : ¬ (m : Int) - (a : Int) = 1 := by omega
  have z0' : ((m : Int) - (a : Int) == 1) = false := by simp; omega
  have z1 : (b : Int) - (m : Int) = 1 := by omega
  have hbn : m ≤ 65536 := by omega
  have hltb : m < b := by omega
  clear h hu hs hmb
  go_enter Try.func32, Try.ntmps32
  go_wp2_with fail
  clear z1 z0 z0'
  go_loopw [14, 15, 16] (fun iv jv hv wr => ∃ (i j : Nat), a ≤ i ∧ i ≤ j ∧ j ≤ m ∧ iv = .int .i64 (i : Int) ∧ jv = .int .i64 (j : Int) ∧ Hid (Sw w0 g n c wr xs) ∧ Hid (∀ p, a ≤ p → p < i → ¬ Ahead (ky xs m) (ky xs p)) ∧ Hid (∀ p, j ≤ p → p < m → Ahead (ky xs m) (ky xs p))) (fun iv jv _ _ => (intOf jv).toNat - (intOf iv).toNat)
  case atStart => exact ⟨a, m, by omega, by omega, by omega, rfl, rfl, HSW, fun p h1 h2 => by omega, fun p h1 h2 => by omega⟩
  case round =>
    clear HSW
    obtain ⟨i, j, hmi, hij, hjb, rfl, rfl, hsw, hlo, hhi⟩ := hrel
    by_cases hlt : i < j
    · as_aux_lemma =>
        have z1 : (i : Int) < (j : Int) := by omega
        have z2 : (m : Int) < (n : Int) := by omega
        have z9 : (0 : Int) ≤ (m : Int) := by omega
        obtain ⟨q, z3, q1, q2, z4, z5, z6⟩ := mid_ex hlt hjb hbn
        have z7 : (q : Int) < (n : Int) := by omega
        obtain ⟨X, Y, htwo⟩ := hsw.out.twos m q (by omega) (by omega)
        have HT := hidden htwo
        have HT0 := hidden (htwo wr (Below.refl _ _))
        have HCM := hidden HT0.out.lt
        have HC := hidden HT0.out.call
        obtain ⟨r, hr⟩ : ∃ r, r = cmp X.k Y.k := ⟨_, rfl⟩
        rw [← hr] at HC HCM
        obtain ⟨d, hd⟩ : ∃ d : Bool, d = !decide (r < 0) := ⟨_, rfl⟩
        have HD := hidden hd
        clear htwo hr z6 hd
        go_wp2_with fail
        have d0 : Below wr.heap.size wr wr.drew := (Below.refl _ _).drew
        refine wp_region_held_drew (S := fun w' => w'.rangeAt g (m * 34) (encW X) ∧ w'.rangeAt g (q * 34) (encW Y)) (by kernel_rfl) ((HT.out _ d0).rg) (fun hHeld => ?_)
        refine wpAnyH_take (i := 0) (v := .func (.func 24) #[] #[]) rfl (by kernel_rfl) (by kernel_rfl) (by kernel_rfl) (fun _ _ _ h => h) (Or.inl ⟨by rfl, fun w hS => by go_simp⟩) hHeld ?_
        simp only [Act.put, List.getElem_toArray, List.getElem_cons_zero, List.setIfInBounds_toArray, List.set_cons_zero, List.set_cons_succ]
        refine wpAnyH_take (i := 1) (v := .slice (some ⟨g, 0, none⟩) n c) rfl (by kernel_rfl) (by kernel_rfl) (by kernel_rfl) (fun _ _ _ h => h) (Or.inl ⟨by rfl, fun w hS => by go_simp⟩) hHeld ?_
        simp only [Act.put, List.getElem_toArray, List.getElem_cons_zero, List.getElem_cons_succ, List.setIfInBounds_toArray, List.set_cons_zero, List.set_cons_succ]
        refine wpAnyH_take (i := 2) (v := .int .i64 (m : Int)) rfl (by kernel_rfl) (by kernel_rfl) (by kernel_rfl) (fun _ _ _ h => h) (Or.inl ⟨by rfl, fun w hS => by go_simp⟩) hHeld ?_
        simp only [Act.put, List.getElem_toArray, List.getElem_cons_zero, List.getElem_cons_succ, List.setIfInBounds_toArray, List.set_cons_zero, List.set_cons_succ]
        refine wpAnyH_take (i := 3) (v := .pointer (some ⟨g, m * 34, none⟩)) rfl (by kernel_rfl) (by kernel_rfl) (by kernel_rfl) (fun _ _ _ h => h) (Or.inl ⟨by rfl, fun w hS => by go_simp⟩) hHeld ?_
        simp only [Act.put, List.getElem_toArray, List.getElem_cons_zero, List.getElem_cons_succ, List.setIfInBounds_toArray, List.set_cons_zero, List.set_cons_succ]
        refine wpAnyH_take (i := 4) (v := .agg (encW X).toArray) rfl (by kernel_rfl) (by kernel_rfl) (by kernel_rfl) (fun _ _ _ h => h) (yieldsIf_load_mid rfl 37 (.tmp 95) rfl g (m * 34) rfl (encW X) _ (fun w hS => hS.1) HUW.out rfl HT0.out.sx) hHeld ?_
        simp only [Act.put, List.getElem_toArray, List.getElem_cons_zero, List.getElem_cons_succ, List.setIfInBounds_toArray, List.set_cons_zero, List.set_cons_succ]
        refine wpAnyH_take (i := 5) (v := .slice (some ⟨g, 0, none⟩) n c) rfl (by kernel_rfl) (by kernel_rfl) (by kernel_rfl) (fun _ _ _ h => h) (Or.inl ⟨by rfl, fun w hS => by go_simp⟩) hHeld ?_
        simp only [Act.put, List.getElem_toArray, List.getElem_cons_zero, List.getElem_cons_succ, List.setIfInBounds_toArray, List.set_cons_zero, List.set_cons_succ]
        refine wpAnyH_take (i := 6) (v := .int .i64 (q : Int)) rfl (by kernel_rfl) (by kernel_rfl) (by kernel_rfl) (fun _ _ _ h => h) (Or.inl ⟨by rfl, fun w hS => by go_simp⟩) hHeld ?_
        simp only [Act.put, List.getElem_toArray, List.getElem_cons_zero, List.getElem_cons_succ, List.setIfInBounds_toArray, List.set_cons_zero, List.set_cons_succ]
        refine wpAnyH_take (i := 7) (v := .pointer (some ⟨g, q * 34, none⟩)) rfl (by kernel_rfl) (by kernel_rfl) (by kernel_rfl) (fun _ _ _ h => h) (Or.inl ⟨by rfl, fun w hS => by go_simp⟩) hHeld ?_
        simp only [Act.put, List.getElem_toArray, List.getElem_cons_zero, List.getElem_cons_succ, List.setIfInBounds_toArray, List.set_cons_zero, List.set_cons_succ]
        refine wpAnyH_take (i := 8) (v := .agg (encW Y).toArray) rfl (by kernel_rfl) (by kernel_rfl) (by kernel_rfl) (fun _ _ _ h => h) (yieldsIf_load_mid rfl 37 (.tmp 99) rfl g (q * 34) rfl (encW Y) _ (fun w hS => hS.2) HUW.out rfl HT0.out.sy) hHeld ?_
        simp only [Act.put, List.getElem_toArray, List.getElem_cons_zero, List.getElem_cons_succ, List.setIfInBounds_toArray, List.set_cons_zero, List.set_cons_succ]
        refine wpAnyH_ready (rs := [9]) (by kernel_rfl) (by simp) ?_
        refine AllReadyH.cons rfl (fun KQ hK => ?_) AllReadyH.nil
        go_simp
        refine (HC.out _).mono ?_
        rintro e wx ⟨rfl, bx⟩
        have d1 := grow_trans d0 bx
        refine hK.out _ _ ((HT.out _ d1).rg) (fun hHeld => ?_)
        clear hK KQ
        refine wpAnyH_take (i := 10) (v := .bool (decide (r < 0))) rfl (by kernel_rfl) (by kernel_rfl) (by kernel_rfl) (fun _ _ _ h => h) (Or.inl ⟨by rfl, fun w hS => by go_simp⟩) hHeld ?_
        simp only [Act.put, List.getElem_toArray, List.getElem_cons_zero, List.getElem_cons_succ, List.setIfInBounds_toArray, List.set_cons_zero, List.set_cons_succ]
        refine wpAnyH_take (i := 11) (v := .bool d) rfl (by kernel_rfl) (by kernel_rfl) (by kernel_rfl) (fun _ _ _ h => h) (Or.inl ⟨by rfl, fun w hS => by (go_simp; rw [HD.out]; simp)⟩) hHeld ?_
        simp only [Act.put, List.getElem_toArray, List.getElem_cons_zero, List.getElem_cons_succ, List.setIfInBounds_toArray, List.set_cons_zero, List.set_cons_succ]
        refine wpAnyH_done (by kernel_rfl) ?_ _
        have HSW2 := hidden (HT.out _ d1).sw
        have HKY := hidden HSW2.out.kys
        clear HC HT0 HT
        by_cases hr0 : r < 0
        · obtain rfl : d = false := by rw [HD.out]; simp [hr0]
          have HAL := hidden (HCM.out.1 hr0)
          have HHI : Hid (∀ p, q ≤ p → p < m → Ahead (ky xs m) (ky xs p)) := fun p h1 h2 => by
            by_cases e2 : p = q
            · rw [e2]; exact HAL.out
            · have := HLX.out
              exact al_lt (HKY.out.at (by omega)) (HKY.out.at (by omega)) HAL.out (HSR.out q p (by omega) (by omega) (by omega))
          clear HCM hhi HD
          go_wp2_with fail
          exact ⟨⟨i, q, by omega, by omega, by omega, rfl, rfl, HSW2, hlo, HHI⟩, by simp [intOf]; omega⟩
        · obtain rfl : d = true := by rw [HD.out]; simp [hr0]
          have HLO : Hid (∀ p, a ≤ p → p < q + 1 → ¬ Ahead (ky xs m) (ky xs p)) := fun p h1 h2 => by
            by_cases e2 : p = q
            · rw [e2]; exact fun x => hr0 (HCM.out.2 x)
            · have := HLX.out
              exact al_nn (HKY.out.at (by omega)) (HKY.out.at (by omega)) (HSR.out p q (by omega) (by omega) (by omega)) (fun x => hr0 (HCM.out.2 x))
          clear HCM hlo HD
          go_wp2_with fail
          exact ⟨⟨q + 1, j, by omega, by omega, by omega, rfl, rfl, HSW2, HLO, hhi⟩, by simp [intOf]; omega⟩
    · as_aux_lemma =>
        have z1 : ¬ (i : Int) < (j : Int) := by omega
        have HHI : Hid (∀ p, i ≤ p → p < m → Ahead (ky xs m) (ky xs p)) := fun p h1 h2 => hhi.out p (by omega) h2
        have HU0 : Hid (Dn xs a m m xs) := Dn.start (by omega) (by have := HLX.out; omega)
        clear hhi
        go_wp2_with fail
        go_loopw [17] (fun kv wr => ∃ (k : Nat) (ys : List Wt), i ≤ k ∧ k ≤ m ∧ kv = .int .i64 (k : Int) ∧ Hid (Sw w0 g n c wr ys) ∧ Hid (Dn xs a m k ys)) (fun kv _ => (intOf kv).toNat)
        case atStart => exact ⟨m, xs, by omega, by omega, rfl, hsw, HU0⟩
        case round =>
          clear HU0 hsw
          obtain ⟨k, ys, hak, hki, rfl, hsw, hup⟩ := hrel
          by_cases hlt2 : i < k
          · as_aux_lemma =>
              have z4 : (i : Int) < (k : Int) := by omega
              obtain ⟨k1, hk1⟩ : ∃ k1, k = k1 + 1 := ⟨k - 1, by omega⟩
              have HK1 := hidden hk1
              have z5 : (k : Int) - 1 = (k1 : Int) := by omega
              have z6 : IntKind.i64.wrap (k1 : Int) = (k1 : Int) := by rw [IntKind.wrap_i64]; omega
              have z6' : wrap64 (k1 : Int) = (k1 : Int) := Go.IntWalk.wrap64_in _ (by omega)
              have z7 : (0 : Int) ≤ (k : Int) := by omega
              have z8 : (k : Int) < (n : Int) := by omega
              have z9 : (0 : Int) ≤ (k1 : Int) := by omega
              have z10 : (k1 : Int) < (n : Int) := by omega
              obtain ⟨X, Y, htwo⟩ := hsw.out.twos k k1 (by omega) (by omega)
              have HT := hidden (htwo _ (Below.refl _ _).drew)
              have HUP2 : Hid (Dn xs a m k1 (swp ys k k1)) := by
                show Dn _ _ _ _ _
                have e : k1 = k - 1 := by have := HK1.out; omega
                rw [e]
                exact hup.out.step (by omega) hki (HHI.out (k - 1) (by omega) (by omega))
              clear htwo hk1 hsw hup
              go_wp2_with fail
              refine wp_region_wrote (S := fun w' => w'.rangeAt g (k * 34) (encW X) ∧ w'.rangeAt g (k1 * 34) (encW Y)) [15, 17] (by kernel_rfl) (HT.out.rg) (fun hHeld => ?_)
              refine wpAnyW_take0 (i := 0) (v := .slice (some ⟨g, 0, none⟩) n c) rfl (by kernel_rfl) (by kernel_rfl) (by kernel_rfl) (by kernel_rfl) (fun _ _ _ h => h) (Or.inl ⟨by rfl, fun w hS => by go_simp⟩) (.inr hHeld) ?_
              simp only [Act.put, List.getElem_toArray, List.getElem_cons_zero, List.setIfInBounds_toArray, List.set_cons_zero, List.set_cons_succ]
              refine wpAnyW_take0 (i := 1) (v := .int .i64 (k : Int)) rfl (by kernel_rfl) (by kernel_rfl) (by kernel_rfl) (by kernel_rfl) (fun _ _ _ h => h) (Or.inl ⟨by rfl, fun w hS => by go_simp⟩) (.inr hHeld) ?_
              simp only [Act.put, List.getElem_toArray, List.getElem_cons_zero, List.getElem_cons_succ, List.setIfInBounds_toArray, List.set_cons_zero, List.set_cons_succ]
              refine wpAnyW_take0 (i := 2) (v := .slice (some ⟨g, 0, none⟩) n c) rfl (by kernel_rfl) (by kernel_rfl) (by kernel_rfl) (by kernel_rfl) (fun _ _ _ h => h) (Or.inl ⟨by rfl, fun w hS => by go_simp⟩) (.inr hHeld) ?_
              simp only [Act.put, List.getElem_toArray, List.getElem_cons_zero, List.getElem_cons_succ, List.setIfInBounds_toArray, List.set_cons_zero, List.set_cons_succ]
              refine wpAnyW_take0 (i := 3) (v := .int .i64 (k : Int)) rfl (by kernel_rfl) (by kernel_rfl) (by kernel_rfl) (by kernel_rfl) (fun _ _ _ h => h) (Or.inl ⟨by rfl, fun w hS => by go_simp⟩) (.inr hHeld) ?_
              simp only [Act.put, List.getElem_toArray, List.getElem_cons_zero, List.getElem_cons_succ, List.setIfInBounds_toArray, List.set_cons_zero, List.set_cons_succ]
              refine wpAnyW_take0 (i := 4) (v := .int .i64 (k1 : Int)) rfl (by kernel_rfl) (by kernel_rfl) (by kernel_rfl) (by kernel_rfl) (fun _ _ _ h => h) (Or.inl ⟨by rfl, fun w hS => by go_simp⟩) (.inr hHeld) ?_
              simp only [Act.put, List.getElem_toArray, List.getElem_cons_zero, List.getElem_cons_succ, List.setIfInBounds_toArray, List.set_cons_zero, List.set_cons_succ]
              refine wpAnyW_take0 (i := 5) (v := .slice (some ⟨g, 0, none⟩) n c) rfl (by kernel_rfl) (by kernel_rfl) (by kernel_rfl) (by kernel_rfl) (fun _ _ _ h => h) (Or.inl ⟨by rfl, fun w hS => by go_simp⟩) (.inr hHeld) ?_
              simp only [Act.put, List.getElem_toArray, List.getElem_cons_zero, List.getElem_cons_succ, List.setIfInBounds_toArray, List.set_cons_zero, List.set_cons_succ]
              refine wpAnyW_take0 (i := 6) (v := .int .i64 (k : Int)) rfl (by kernel_rfl) (by kernel_rfl) (by kernel_rfl) (by kernel_rfl) (fun _ _ _ h => h) (Or.inl ⟨by rfl, fun w hS => by go_simp⟩) (.inr hHeld) ?_
              simp only [Act.put, List.getElem_toArray, List.getElem_cons_zero, List.getElem_cons_succ, List.setIfInBounds_toArray, List.set_cons_zero, List.set_cons_succ]
              refine wpAnyW_take0 (i := 7) (v := .int .i64 (k1 : Int)) rfl (by kernel_rfl) (by kernel_rfl) (by kernel_rfl) (by kernel_rfl) (fun _ _ _ h => h) (Or.inl ⟨by rfl, fun w hS => by go_simp⟩) (.inr hHeld) ?_
              simp only [Act.put, List.getElem_toArray, List.getElem_cons_zero, List.getElem_cons_succ, List.setIfInBounds_toArray, List.set_cons_zero, List.set_cons_succ]
              refine wpAnyW_take0 (i := 8) (v := .pointer (some ⟨g, k1 * 34, none⟩)) rfl (by kernel_rfl) (by kernel_rfl) (by kernel_rfl) (by kernel_rfl) (fun _ _ _ h => h) (Or.inl ⟨by rfl, fun w hS => by go_simp⟩) (.inr hHeld) ?_
              simp only [Act.put, List.getElem_toArray, List.getElem_cons_zero, List.getElem_cons_succ, List.setIfInBounds_toArray, List.set_cons_zero, List.set_cons_succ]
              refine wpAnyW_take (i := 9) (v := .agg (encW Y).toArray) rfl (by kernel_rfl) (by kernel_rfl) (by kernel_rfl) (by kernel_rfl) (by kernel_rfl) (by kernel_rfl) (fun _ _ _ h => h) (yieldsIf_load_mid rfl 37 (.tmp 121) rfl g (k1 * 34) rfl (encW Y) _ (fun w hS => hS.2) HUW.out rfl HT.out.sy) hHeld ?_
              simp only [Act.put, List.getElem_toArray, List.getElem_cons_zero, List.getElem_cons_succ, List.setIfInBounds_toArray, List.set_cons_zero, List.set_cons_succ]
              refine wpAnyW_take0 (i := 10) (v := .slice (some ⟨g, 0, none⟩) n c) rfl (by kernel_rfl) (by kernel_rfl) (by kernel_rfl) (by kernel_rfl) (fun _ _ _ h => h) (Or.inl ⟨by rfl, fun w hS => by go_simp⟩) (.inr hHeld) ?_
              simp only [Act.put, List.getElem_toArray, List.getElem_cons_zero, List.getElem_cons_succ, List.setIfInBounds_toArray, List.set_cons_zero, List.set_cons_succ]
              refine wpAnyW_take0 (i := 11) (v := .int .i64 (k : Int)) rfl (by kernel_rfl) (by kernel_rfl) (by kernel_rfl) (by kernel_rfl) (fun _ _ _ h => h) (Or.inl ⟨by rfl, fun w hS => by go_simp⟩) (.inr hHeld) ?_
              simp only [Act.put, List.getElem_toArray, List.getElem_cons_zero, List.getElem_cons_succ, List.setIfInBounds_toArray, List.set_cons_zero, List.set_cons_succ]
              refine wpAnyW_take0 (i := 12) (v := .pointer (some ⟨g, k * 34, none⟩)) rfl (by kernel_rfl) (by kernel_rfl) (by kernel_rfl) (by kernel_rfl) (fun _ _ _ h => h) (Or.inl ⟨by rfl, fun w hS => by go_simp⟩) (.inr hHeld) ?_
              simp only [Act.put, List.getElem_toArray, List.getElem_cons_zero, List.getElem_cons_succ, List.setIfInBounds_toArray, List.set_cons_zero, List.set_cons_succ]
              refine wpAnyW_take (i := 13) (v := .agg (encW X).toArray) rfl (by kernel_rfl) (by kernel_rfl) (by kernel_rfl) (by kernel_rfl) (by kernel_rfl) (by kernel_rfl) (fun _ _ _ h => h) (yieldsIf_load_mid rfl 37 (.tmp 125) rfl g (k * 34) rfl (encW X) _ (fun w hS => hS.1) HUW.out rfl HT.out.sx) hHeld ?_
              simp only [Act.put, List.getElem_toArray, List.getElem_cons_zero, List.getElem_cons_succ, List.setIfInBounds_toArray, List.set_cons_zero, List.set_cons_succ]
              refine wpAnyW_take0 (i := 14) (v := .pointer (some ⟨g, k * 34, none⟩)) rfl (by kernel_rfl) (by kernel_rfl) (by kernel_rfl) (by kernel_rfl) (fun _ _ _ h => h) (Or.inl ⟨by rfl, fun w hS => by go_simp⟩) (.inr hHeld) ?_
              simp only [Act.put, List.getElem_toArray, List.getElem_cons_zero, List.getElem_cons_succ, List.setIfInBounds_toArray, List.set_cons_zero, List.set_cons_succ]
              refine wpAnyW_one (i := 15) rfl (by kernel_rfl) (by kernel_rfl) (fun KQ hK => ?_)
              refine step_stw _ rfl _ _ _ rfl g (k * 34) (encW Y).toArray rfl rfl HT.out.tx HT.out.ay HT.out.oy ?_
              refine hK.out _ _ ?_
              clear hK KQ
              refine wpAnyW_take0 (i := 16) (v := .pointer (some ⟨g, k1 * 34, none⟩)) rfl (by kernel_rfl) (by kernel_rfl) (by kernel_rfl) (by kernel_rfl) (fun _ _ _ h => h) (Or.inl ⟨by rfl, fun w hS => by go_simp⟩) (.inl (by kernel_rfl)) ?_
              simp only [Act.put, List.getElem_toArray, List.getElem_cons_zero, List.getElem_cons_succ, List.setIfInBounds_toArray, List.set_cons_zero, List.set_cons_succ]
              refine wpAnyW_one (i := 17) rfl (by kernel_rfl) (by kernel_rfl) (fun KQ hK => ?_)
              refine step_stw _ rfl _ _ _ rfl g (k1 * 34) (encW X).toArray rfl rfl HT.out.ty HT.out.ax HT.out.ox ?_
              refine hK.out _ _ ?_
              clear hK KQ
              refine wpAnyW_done (by kernel_rfl) ?_
              have HSW2 := hidden HT.out.swap
              clear HT
              generalize (wr.drew.setCells g (k * 34) (encW Y)).setCells g (k1 * 34) (encW X) = wz at HSW2 ⊢
              generalize swp ys k k1 = zs at HSW2 HUP2
              go_wp2_with fail
              clear z6 z6'
              exact ⟨⟨k1, zs, by have := HK1.out; omega, by have := HK1.out; omega, rfl, HSW2, HUP2⟩, by have := HK1.out; simp [intOf]; omega⟩
          · have z4 : ¬ (i : Int) < (k : Int) := by omega
            have HP : Hid (∃ ys, Sw w0 g n c wr ys ∧ StR a b xs ys ∧ Srt a b ys) := by
              have e : i = k := by omega
              have h1 := hup.out
              rw [← e] at h1
              have h2 := h1.done hmi (by omega) HSR.out hlo.out HHI.out
              rw [HMB.out]
              exact ⟨ys, hsw.out, h1.st, h2⟩
            clear hsw hup hlo HHI
            go_wp2
            refine bodyPost_ret (results_none rfl _ _ _) rfl ?_
            exact ⟨rfl, HP.out⟩

end Go.Proofs.Ytagkmfgoahbclaa
