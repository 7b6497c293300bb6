/- slices.symMergeCmpFunc at writes, as a contract. -/
import Derived.Test.YtagkmfgoahbclaaBo23
import Derived.Deep.CutRange
namespace Go.Proofs.Ytagkmfgoahbclaa
set_option maxRecDepth 20000
open Go.RowKit

/-- The numbers of a merge. -/
structure Mn (a m b mid N2 s0 r0 p : Nat) : Prop where
  fm : mid = (a + b) / 2
  fn : N2 = mid + m
  fp : p + 1 = N2
  fs : (mid < m ∧ s0 + b = N2 ∧ r0 = mid) ∨ (m ≤ mid ∧ s0 = a ∧ r0 = m)
  le : s0 ≤ r0
theorem mn_cut {a m b : Nat} (ham : a + 1 < m) (hmb : m + 1 < b) : ∃ mid N2 s0 r0 p, Mn a m b mid N2 s0 r0 p := by
  by_cases h : (a + b) / 2 < m
  · exact ⟨_, _, (a + b) / 2 + m - b, (a + b) / 2, (a + b) / 2 + m - 1, rfl, rfl, by omega, .inl ⟨h, by omega, rfl⟩, by omega⟩
  · exact ⟨_, _, a, m, (a + b) / 2 + m - 1, rfl, rfl, by omega, .inr ⟨by omega, rfl, rfl⟩, by omega⟩
/-- What the search has found so far. -/
structure Ms (xs : List Wt) (N2 s0 r0 s r : Nat) : Prop where
  h1 : s0 ≤ s
  h2 : s ≤ r
  h3 : r ≤ r0
  lo : s0 < s → ¬ Ahead (ky xs (N2 - s)) (ky xs (s - 1))
  hi : r < r0 → Ahead (ky xs (N2 - r - 1)) (ky xs r)
theorem Ms.mg {xs : List Wt} {a m b mid N2 s0 r0 p s : Nat} (M : Mn a m b mid N2 s0 r0 p) (ham : a + 1 < m) (hmb : m + 1 < b) (h : Ms xs N2 s0 r0 s s) : Mg xs a m b s := by
  obtain ⟨rfl, rfl, h3, h4, h5⟩ := M
  obtain ⟨q1, q2, q3, q4, q5⟩ := h
  refine ⟨by omega, by omega, by omega, by omega, fun h6 h7 => q5 (by omega), fun h6 h7 => q4 (by omega)⟩
theorem Ms.rise {xs : List Wt} {N2 s0 r0 s r q : Nat} (h : Ms xs N2 s0 r0 s r) (h1 : s ≤ q) (h2 : q < r) (k : ¬ Ahead (ky xs (N2 - 1 - q)) (ky xs q)) : Ms xs N2 s0 r0 (q + 1) r := by
  obtain ⟨q1, q2, q3, q4, q5⟩ := h
  exact ⟨by omega, by omega, q3, fun _ => by rw [show N2 - (q + 1) = N2 - 1 - q by omega, Nat.add_sub_cancel]; exact k, q5⟩
theorem Ms.fall {xs : List Wt} {N2 s0 r0 s r q : Nat} (h : Ms xs N2 s0 r0 s r) (h1 : s ≤ q) (h2 : q < r) (k : Ahead (ky xs (N2 - 1 - q)) (ky xs q)) : Ms xs N2 s0 r0 s q := by
  obtain ⟨q1, q2, q3, q4, q5⟩ := h
  exact ⟨q1, h1, by omega, q4, fun _ => by rw [show N2 - q - 1 = N2 - 1 - q by omega]; exact k⟩
/-- The numbers of one look. -/
theorem mn_look {a m b mid N2 s0 r0 p s r q n : Nat} (M : Mn a m b mid N2 s0 r0 p) (ham : a + 1 < m) (hmb : m + 1 < b) (hb : b ≤ n) (h1 : s0 ≤ s) (h2 : s ≤ q) (h3 : q < r) (h4 : r ≤ r0) : ∃ pc, p = pc + q ∧ pc = N2 - 1 - q ∧ pc < n ∧ q < n := by
  obtain ⟨rfl, rfl, h5, h6, h7⟩ := M
  exact ⟨p - q, by omega, by omega, by omega, by omega⟩
theorem mn_end {a m b mid N2 s0 r0 p s n : Nat} (M : Mn a m b mid N2 s0 r0 p) (ham : a + 1 < m) (hmb : m + 1 < b) (hb : b ≤ n) (h1 : s0 ≤ s) (h2 : s ≤ r0) : ∃ e, N2 = e + s ∧ e = (a + b) / 2 + m - s ∧ m ≤ e ∧ e ≤ b ∧ a ≤ s ∧ s ≤ m ∧ s ≤ mid ∧ mid ≤ e ∧ mid < b ∧ a < mid ∧ N2 ≤ 2 * n := by
  obtain ⟨rfl, rfl, h5, h6, h7⟩ := M
  exact ⟨(a + b) / 2 + m - s, by omega, by omega, by omega, by omega, by omega, by omega, by omega, by omega, by omega, by omega, by omega⟩
theorem wi_sub {p q pc : Nat} (h : p = pc + q) (hp : p ≤ 200000) : IntKind.i64.wrap ((p : Int) - (q : Int)) = (pc : Int) := by rw [IntKind.wrap_i64]; omega
theorem w64_subp {p q pc : Nat} (h : p = pc + q) (hp : p ≤ 200000) : wrap64 ((p : Int) - (q : Int)) = (pc : Int) := by rw [Go.IntWalk.wrap64_in _ (by omega)]; omega
theorem w64_pred {p q : Nat} (h : q + 1 = p) (hp : p ≤ 200000) : wrap64 ((p : Int) - 1) = (q : Int) := by rw [Go.IntWalk.wrap64_in _ (by omega)]; omega

set_option maxRecDepth 100000 in
set_option maxHeartbeats 8000000 in
theorem mrgC_any (w0 : World) (g n c a m b : Nat) (xs : List Wt) (w : World) (h : Sw w0 g n c w xs) (ham : a + 1 < m) (hmb : m + 1 < b) (hb : b ≤ n) (hn : n ≤ 65536) (hs1 : Srt a m xs) (hs2 : Srt m b xs)
    (hrec : ∀ (a' m' b' : Nat) (xs' : List Wt) (w' : World), b' - a' < b - a → Sw w0 g n c w' xs' → a' < m' → m' < b' → b' ≤ n → Srt a' m' xs' → Srt m' b' xs' → Calls Try.prog 32 #[.slice (some ⟨g, 0, none⟩) n c, .int .i64 (a' : Int), .int .i64 (m' : Int), .int .i64 (b' : Int), .func (.func 24) #[] #[]] w' fun e w'' => e = .returned (.tuple #[]) ∧ ∃ ys, Sw w0 g n c w'' ys ∧ StR a' b' xs' ys ∧ Srt a' b' ys) :
    Calls Try.prog 32 #[.slice (some ⟨g, 0, none⟩) n c, .int .i64 (a : Int), .int .i64 (m : Int), .int .i64 (b : Int), .func (.func 24) #[] #[]] w fun e w' => e = .returned (.tuple #[]) ∧ ∃ ys, Sw w0 g n c w' ys ∧ StR a b xs ys ∧ Srt a b ys := by
  obtain ⟨fs, hu⟩ := u_write
  have HUW := hidden hu
  have HSW := hidden h
  have HLX := hidden h.len
  have HS1 := hidden hs1
  have HS2 := hidden hs2
  have HREC := hidden hrec
  obtain ⟨mid, N2, s0, r0, p, M⟩ := mn_cut ham hmb
  have HM := hidden M
  have z0 : ¬ (m : Int) - (a : Int) = 1 := by omega
  have z0' : ((m : Int) - (a : Int) == 1) = false := by simp; omega
  have z1 : ¬ (b : Int) - (m : Int) = 1 := by omega
  have z1' : ((b : Int) - (m : Int) == 1) = false := by simp; omega
  have z2 : ((a : Int) + (b : Int)) / 2 = (mid : Int) := by have := M.fm; omega
  have hN : N2 ≤ 131072 := by obtain ⟨e, _, _, _, _, _, _, _, _, _, _, h⟩ := mn_end M ham hmb hb (Nat.le_refl _) M.le; omega
  have z3 : (mid : Int) + (m : Int) = (N2 : Int) := by have := M.fn; omega
  have z3' := w64_nat (k := N2) (by omega)
  have HN := hidden hN
  have HAM := hidden ham
  have HMB := hidden hmb
  clear h hu hs1 hs2 hrec M hN
  go_enter Try.func32, Try.ntmps32
  go_upto_if 140 with fail
  go_cut [20, 21] from 135 (fun sv rv wx => sv = .int .i64 (s0 : Int) ∧ rv = .int .i64 (r0 : Int) ∧ wx = w)
  case first =>
    by_cases hmm : mid < m
    · have y1 : (mid : Int) < (m : Int) := by clear z3'; omega
      obtain ⟨e1, e2⟩ : s0 + b = N2 ∧ r0 = mid := by
        rcases HM.out.fs with ⟨_, h1, h2⟩ | ⟨h1, _⟩
        · exact ⟨h1, h2⟩
        · exact absurd hmm (Nat.not_lt.2 h1)
      have y2 : (N2 : Int) - (b : Int) = (s0 : Int) := by clear z3'; omega
      have y3 := w64_nat (k := s0) (by clear z3'; have := HN.out; omega)
      have HR := hidden e2
      clear e1 e2
      go_wp2
      go_meet
      case rel => exact ⟨rfl, by rw [HR.out], rfl⟩
    · have y1 : ¬ (mid : Int) < (m : Int) := by clear z3'; omega
      obtain ⟨e1, e2⟩ : s0 = a ∧ r0 = m := by
        rcases HM.out.fs with ⟨h1, _⟩ | ⟨_, h1, h2⟩
        · exact absurd h1 hmm
        · exact ⟨h1, h2⟩
      have HR := hidden (And.intro e1 e2)
      clear e1 e2
      go_wp2
      go_meet
      case rel => exact ⟨by rw [HR.out.1], by rw [HR.out.2], rfl⟩
  case rest =>
    obtain ⟨rfl, rfl, rfl⟩ := hcut
    clear z0 z0' z1 z1' z2 z3 z3'
    have y1 : (N2 : Int) - 1 = (p : Int) := by have := HM.out.fp; omega
    have y2 := w64_nat (k := p) (by have := HM.out.fp; have := HN.out; omega)
    go_wp2_with fail
    rw [y2]
    clear y1 y2
    go_loopw [20, 21, 23] (fun sv rv cv wr => ∃ (s r : Nat), sv = .int .i64 (s : Int) ∧ rv = .int .i64 (r : Int) ∧ Hid (Sw w0 g n c wr xs) ∧ Hid (Ms xs N2 s0 r0 s r)) (fun sv rv _ _ => (intOf rv).toNat - (intOf sv).toNat)
    case atStart => exact ⟨s0, r0, rfl, rfl, HSW, ⟨Nat.le_refl _, HM.out.le, Nat.le_refl _, fun h => by omega, fun h => by omega⟩⟩
    case round =>
      clear HSW
      obtain ⟨s, r, rfl, rfl, hsw, hms⟩ := hrel
      by_cases hlt : s < r
      · as_aux_lemma =>
          have z1 : (s : Int) < (r : Int) := by omega
          have hrb : r ≤ 65536 := by
            obtain ⟨e, _, _, _, _, _, h1, _⟩ := mn_end HM.out HAM.out HMB.out hb HM.out.le (Nat.le_refl _)
            have := hms.out.h3
            omega
          obtain ⟨q, z3, q1, q2, z4, z5, z6⟩ := mid_ex hlt (Nat.le_refl _) hrb
          obtain ⟨pc, p1, p2, p3, p4⟩ := mn_look HM.out HAM.out HMB.out hb hms.out.h1 q1 q2 hms.out.h3
          have z7 : (q : Int) < (n : Int) := by omega
          have z8 : (0 : Int) ≤ (pc : Int) := by omega
          have z9 : (pc : Int) < (n : Int) := by omega
          obtain ⟨X, Y, htwo⟩ := hsw.out.twos pc q (by omega) (by omega)
          have HT := hidden htwo
          have HT0 := hidden (htwo wr (Below.refl _ _))
          have HCM : Hid (cmp X.k Y.k < 0 ↔ Ahead (ky xs (N2 - 1 - q)) (ky xs q)) := by show _ ↔ _; rw [← p2]; exact HT0.out.lt
          have HC := hidden HT0.out.call
          have z10 := wi_sub p1 (by have h1 := HM.out.fp; have := HN.out; omega)
          obtain ⟨r', hr⟩ : ∃ r', r' = cmp X.k Y.k := ⟨_, rfl⟩
          rw [← hr] at HC HCM
          obtain ⟨d, hd⟩ : ∃ d : Bool, d = !decide (r' < 0) := ⟨_, rfl⟩
          have HD := hidden hd
          have HQ1 := hidden (And.intro q1 q2)
          clear htwo hr z6 hd p1 p2 p3 p4 hrb
          go_wp2_with fail
          have d0 : Below wr.heap.size wr wr.drew := (Below.refl _ _).drew
          refine wp_region_held_drew (S := fun w' => w'.rangeAt g (pc * 34) (encW X) ∧ w'.rangeAt g (q * 34) (encW Y)) (by kernel_rfl) ((HT.out _ d0).rg) (fun hHeld => ?_)
          refine wpAnyH_take (i := 0) (v := .func (.func 24) #[] #[]) rfl (by kernel_rfl) (by kernel_rfl) (by kernel_rfl) (fun _ _ _ h => h) (Or.inl ⟨by rfl, fun w hS => by go_simp⟩) hHeld ?_
          simp only [Act.put, List.getElem_toArray, List.getElem_cons_zero, List.setIfInBounds_toArray, List.set_cons_zero, List.set_cons_succ]
          refine wpAnyH_take (i := 1) (v := .slice (some ⟨g, 0, none⟩) n c) rfl (by kernel_rfl) (by kernel_rfl) (by kernel_rfl) (fun _ _ _ h => h) (Or.inl ⟨by rfl, fun w hS => by go_simp⟩) hHeld ?_
          simp only [Act.put, List.getElem_toArray, List.getElem_cons_zero, List.getElem_cons_succ, List.setIfInBounds_toArray, List.set_cons_zero, List.set_cons_succ]
          refine wpAnyH_take (i := 2) (v := .int .i64 (p : Int)) rfl (by kernel_rfl) (by kernel_rfl) (by kernel_rfl) (fun _ _ _ h => h) (Or.inl ⟨by rfl, fun w hS => by go_simp⟩) hHeld ?_
          simp only [Act.put, List.getElem_toArray, List.getElem_cons_zero, List.getElem_cons_succ, List.setIfInBounds_toArray, List.set_cons_zero, List.set_cons_succ]
          refine wpAnyH_take (i := 3) (v := .int .i64 (q : Int)) rfl (by kernel_rfl) (by kernel_rfl) (by kernel_rfl) (fun _ _ _ h => h) (Or.inl ⟨by rfl, fun w hS => by go_simp⟩) hHeld ?_
          simp only [Act.put, List.getElem_toArray, List.getElem_cons_zero, List.getElem_cons_succ, List.setIfInBounds_toArray, List.set_cons_zero, List.set_cons_succ]
          refine wpAnyH_take (i := 4) (v := .int .i64 (pc : Int)) rfl (by kernel_rfl) (by kernel_rfl) (by kernel_rfl) (fun _ _ _ h => h) (Or.inl ⟨by rfl, fun w hS => by go_simp⟩) hHeld ?_
          simp only [Act.put, List.getElem_toArray, List.getElem_cons_zero, List.getElem_cons_succ, List.setIfInBounds_toArray, List.set_cons_zero, List.set_cons_succ]
          refine wpAnyH_take (i := 5) (v := .pointer (some ⟨g, pc * 34, none⟩)) rfl (by kernel_rfl) (by kernel_rfl) (by kernel_rfl) (fun _ _ _ h => h) (Or.inl ⟨by rfl, fun w hS => by go_simp⟩) hHeld ?_
          simp only [Act.put, List.getElem_toArray, List.getElem_cons_zero, List.getElem_cons_succ, List.setIfInBounds_toArray, List.set_cons_zero, List.set_cons_succ]
          refine wpAnyH_take (i := 6) (v := .agg (encW X).toArray) rfl (by kernel_rfl) (by kernel_rfl) (by kernel_rfl) (fun _ _ _ h => h) (yieldsIf_load_mid rfl 37 (.tmp 163) rfl g (pc * 34) rfl (encW X) _ (fun w hS => hS.1) HUW.out rfl HT0.out.sx) hHeld ?_
          simp only [Act.put, List.getElem_toArray, List.getElem_cons_zero, List.getElem_cons_succ, List.setIfInBounds_toArray, List.set_cons_zero, List.set_cons_succ]
          refine wpAnyH_take (i := 7) (v := .slice (some ⟨g, 0, none⟩) n c) rfl (by kernel_rfl) (by kernel_rfl) (by kernel_rfl) (fun _ _ _ h => h) (Or.inl ⟨by rfl, fun w hS => by go_simp⟩) hHeld ?_
          simp only [Act.put, List.getElem_toArray, List.getElem_cons_zero, List.getElem_cons_succ, List.setIfInBounds_toArray, List.set_cons_zero, List.set_cons_succ]
          refine wpAnyH_take (i := 8) (v := .int .i64 (q : Int)) rfl (by kernel_rfl) (by kernel_rfl) (by kernel_rfl) (fun _ _ _ h => h) (Or.inl ⟨by rfl, fun w hS => by go_simp⟩) hHeld ?_
          simp only [Act.put, List.getElem_toArray, List.getElem_cons_zero, List.getElem_cons_succ, List.setIfInBounds_toArray, List.set_cons_zero, List.set_cons_succ]
          refine wpAnyH_take (i := 9) (v := .pointer (some ⟨g, q * 34, none⟩)) rfl (by kernel_rfl) (by kernel_rfl) (by kernel_rfl) (fun _ _ _ h => h) (Or.inl ⟨by rfl, fun w hS => by go_simp⟩) hHeld ?_
          simp only [Act.put, List.getElem_toArray, List.getElem_cons_zero, List.getElem_cons_succ, List.setIfInBounds_toArray, List.set_cons_zero, List.set_cons_succ]
          refine wpAnyH_take (i := 10) (v := .agg (encW Y).toArray) rfl (by kernel_rfl) (by kernel_rfl) (by kernel_rfl) (fun _ _ _ h => h) (yieldsIf_load_mid rfl 37 (.tmp 167) rfl g (q * 34) rfl (encW Y) _ (fun w hS => hS.2) HUW.out rfl HT0.out.sy) hHeld ?_
          simp only [Act.put, List.getElem_toArray, List.getElem_cons_zero, List.getElem_cons_succ, List.setIfInBounds_toArray, List.set_cons_zero, List.set_cons_succ]
          refine wpAnyH_ready (rs := [11]) (by kernel_rfl) (by simp) ?_
          refine AllReadyH.cons rfl (fun KQ hK => ?_) AllReadyH.nil
          go_simp
          refine (HC.out _).mono ?_
          rintro e wx ⟨rfl, bx⟩
          have d1 := grow_trans d0 bx
          refine hK.out _ _ ((HT.out _ d1).rg) (fun hHeld => ?_)
          clear hK KQ
          refine wpAnyH_take (i := 12) (v := .bool (decide (r' < 0))) rfl (by kernel_rfl) (by kernel_rfl) (by kernel_rfl) (fun _ _ _ h => h) (Or.inl ⟨by rfl, fun w hS => by go_simp⟩) hHeld ?_
          simp only [Act.put, List.getElem_toArray, List.getElem_cons_zero, List.getElem_cons_succ, List.setIfInBounds_toArray, List.set_cons_zero, List.set_cons_succ]
          refine wpAnyH_take (i := 13) (v := .bool d) rfl (by kernel_rfl) (by kernel_rfl) (by kernel_rfl) (fun _ _ _ h => h) (Or.inl ⟨by rfl, fun w hS => by (go_simp; rw [HD.out]; simp)⟩) hHeld ?_
          simp only [Act.put, List.getElem_toArray, List.getElem_cons_zero, List.getElem_cons_succ, List.setIfInBounds_toArray, List.set_cons_zero, List.set_cons_succ]
          refine wpAnyH_done (by kernel_rfl) ?_ _
          have HSW2 := hidden (HT.out _ d1).sw
          clear HC HT0 HT
          by_cases hr0 : r' < 0
          · obtain rfl : d = false := by rw [HD.out]; simp [hr0]
            have HMS := hidden (hms.out.fall HQ1.out.1 HQ1.out.2 (HCM.out.1 hr0))
            clear HCM hms HD z10
            go_wp2_with fail
            exact ⟨⟨s, q, rfl, rfl, HSW2, HMS⟩, by have := HQ1.out; simp [intOf]; omega⟩
          · obtain rfl : d = true := by rw [HD.out]; simp [hr0]
            have HMS := hidden (hms.out.rise HQ1.out.1 HQ1.out.2 (fun x => hr0 (HCM.out.2 x)))
            clear HCM hms HD z10
            go_wp2_with fail
            clear z4
            exact ⟨⟨q + 1, r, rfl, rfl, HSW2, HMS⟩, by have := HQ1.out; simp [intOf]; omega⟩
      · have z1 : ¬ (s : Int) < (r : Int) := by omega
        have hsr : s = r := by have := hms.out.h2; omega
        have HMS : Hid (Ms xs N2 s0 r0 s s) := by
          show Ms _ _ _ _ _ _
          have h1 := hms.out
          rw [← hsr] at h1
          exact h1
        clear hms hsr
        have HMG := hidden (HMS.out.mg HM.out HAM.out HMB.out)
        obtain ⟨e, e1, e2, e3, e4, e5, e6, e7, e8, e9, e10, _⟩ := mn_end HM.out HAM.out HMB.out hb HMS.out.h1 HMS.out.h3
        have HMR := hidden (HMG.out.turn hsw.out.kys (by have := HLX.out; omega) HS1.out HS2.out)
        rw [← e2, ← HM.out.fm] at HMR
        have HRT : Hid (∀ w', Sw w0 g n c w' xs → s < m → m < e → Calls Try.prog 34 #[.slice (some ⟨g, 0, none⟩) n c, .int .i64 (s : Int), .int .i64 (m : Int), .int .i64 (e : Int), .func (.func 24) #[] #[]] w' fun e' w'' => e' = .returned (.tuple #[]) ∧ Sw w0 g n c w'' (rotW xs s m e)) := fun w' h1 h2 h3 => rot_any w0 g n c s m e xs _ w' h1 h2 h3 (by omega) hn
        have HID : Hid (s = m ∨ m = e → rotW xs s m e = xs) := fun h1 => rot_id xs s m e e6 e3 (by have := HLX.out; omega) h1
        have y1 : (N2 : Int) - (s : Int) = (e : Int) := by omega
        have y1' := w64_nat (k := e) (by omega)
        have HE := hidden (And.intro e3 (And.intro e4 (And.intro e5 (And.intro e6 (And.intro e7 (And.intro e8 (And.intro e9 e10)))))))
        obtain ⟨ys, hys⟩ : ∃ ys, ys = rotW xs s m e := ⟨_, rfl⟩
        rw [← hys] at HMR HRT HID
        clear hys e1 e2 e3 e4 e5 e6 e7 e8 e9 e10 HMG HMS
        obtain ⟨d1, hd1⟩ : ∃ d1 : Bool, d1 = (decide (s < m) && decide (m < e)) := ⟨_, rfl⟩
        have HD1 := hidden hd1
        clear hd1
        go_upto_region 39 with fail
        go_cut [185] from 178 (fun dv wx => dv = .bool d1 ∧ wx = wr)
        case first =>
          by_cases h1 : s < m
          · have y2 : (s : Int) < (m : Int) := by clear y1'; omega
            by_cases h2 : m < e
            · have y3 : (m : Int) < (e : Int) := by clear y1'; omega
              go_wp2
              go_meet
              case rel => exact ⟨by rw [HD1.out]; simp [h1, h2], rfl⟩
            · have y3 : ¬ (m : Int) < (e : Int) := by clear y1'; omega
              go_wp2
              go_meet
              case rel => exact ⟨by rw [HD1.out]; simp [h2], rfl⟩
          · have y2 : ¬ (s : Int) < (m : Int) := by clear y1'; omega
            go_wp2
            go_meet
            case rel => exact ⟨by rw [HD1.out]; simp [h1], rfl⟩
        case rest =>
         obtain ⟨rfl, rfl⟩ := hcut
         clear y1 y1'
         go_upto_if 185 with fail
         go_cut [24] from 186 (fun ev wx => ev = .int .i64 (e : Int) ∧ Hid (Sw w0 g n c wx ys))
         case first =>
          by_cases h1 : s < m ∧ m < e
          · obtain rfl : d1 = true := by rw [HD1.out]; simp [h1]
            go_wp2_with (go_at_call 34; refine (HRT.out _ hsw.out h1.1 h1.2).mono ?_; rintro e' wx ⟨rfl, hswx⟩; have HSWX := hidden hswx; clear hswx)
            go_meet
            case rel => exact ⟨rfl, HSWX⟩
          · obtain rfl : d1 = false := by rw [HD1.out]; simp; omega
            have HSWX : Hid (Sw w0 g n c wc ys) := by rw [HID.out (by have := HE.out; omega)]; exact hsw.out
            go_wp2
            go_meet
            case rel => exact ⟨rfl, HSWX⟩
         case rest =>
          obtain ⟨rfl, hsw1⟩ := hcut
          clear hsw HRT HID HD1
          obtain ⟨d2, hd2⟩ : ∃ d2 : Bool, d2 = (decide (a < s) && decide (s < mid)) := ⟨_, rfl⟩
          have HD2 := hidden hd2
          clear hd2
          go_upto_region 41 with fail
          go_cut [199] from 192 (fun dv wx => dv = .bool d2 ∧ wx = wc)
          case first =>
            by_cases h1 : a < s
            · have y2 : (a : Int) < (s : Int) := by omega
              by_cases h2 : s < mid
              · have y3 : (s : Int) < (mid : Int) := by omega
                go_wp2
                go_meet
                case rel => exact ⟨by rw [HD2.out]; simp [h1, h2], rfl⟩
              · have y3 : ¬ (s : Int) < (mid : Int) := by omega
                go_wp2
                go_meet
                case rel => exact ⟨by rw [HD2.out]; simp [h2], rfl⟩
            · have y2 : ¬ (a : Int) < (s : Int) := by omega
              go_wp2
              go_meet
              case rel => exact ⟨by rw [HD2.out]; simp [h1], rfl⟩
          case rest =>
           obtain ⟨rfl, hwc⟩ := hcut
           rw [← hwc] at hsw1
           clear hwc
           go_upto_if 199 with fail
           go_cut [24] from 200 (fun ev wx => ev = .int .i64 (e : Int) ∧ ∃ zs, Hid (Sw w0 g n c wx zs) ∧ Hid (StR a mid ys zs) ∧ Hid (Srt a mid zs))
           case first =>
            by_cases h1 : a < s ∧ s < mid
            · obtain rfl : d2 = true := by rw [HD2.out]; simp [h1]
              have HC := hidden (fun w' h0 => HREC.out a s mid ys w' (by have := HE.out; omega) h0 h1.1 h1.2 (by have := HE.out; omega) HMR.out.s1 HMR.out.s2)
              go_wp2_with (go_at_call 32; refine (HC.out _ hsw1.out).mono ?_; rintro e' wx ⟨rfl, zs, hz1, hz2, hz3⟩; have HZ1 := hidden hz1; have HZ2 := hidden hz2; have HZ3 := hidden hz3; clear hz1 hz2 hz3)
              go_meet
              case rel => exact ⟨rfl, zs, HZ1, HZ2, HZ3⟩
            · obtain rfl : d2 = false := by rw [HD2.out]; simp; omega
              have HZ2 : Hid (StR a mid ys ys) := StR.refl (by have := HE.out; omega) (by have := hsw1.out.len; have := HE.out; omega)
              have HZ3 : Hid (Srt a mid ys) := by
                show Srt _ _ _
                by_cases h2 : a < s
                · rw [show mid = s by have := HE.out; omega]; exact HMR.out.s1
                · rw [show a = s by have := HE.out; omega]; exact HMR.out.s2
              go_wp2
              go_meet
              case rel => exact ⟨rfl, ys, hsw1, HZ2, HZ3⟩
           case rest =>
            obtain ⟨rfl, zs, hz1, hz2, hz3⟩ := hcut
            clear hsw1 HD2
            have HZ3 : Hid (Srt mid e zs) := HMR.out.s3.keep hz2.out (.inr (Nat.le_refl _))
            have HZ4 : Hid (Srt e b zs) := HMR.out.s4.keep hz2.out (.inr (by have := HE.out; omega))
            by_cases h1 : mid < e
            · have y2 : (mid : Int) < (e : Int) := by omega
              by_cases h2 : e < b
              · have y3 : (e : Int) < (b : Int) := by omega
                have HC := hidden (HREC.out mid e b zs _ (by have := HE.out; omega) hz1.out h1 h2 hb HZ3.out HZ4.out)
                go_wp2_with (go_at_call 32; refine HC.out.mono ?_; rintro e' wx ⟨rfl, us, hu1, hu2, hu3⟩; have HP := hidden (show ∃ ys, Sw w0 g n c wx ys ∧ StR a b xs ys ∧ Srt a b ys from ⟨us, hu1, HMR.out.done hz2.out hz3.out hu2 hu3⟩); clear hu1 hu2 hu3)
                go_end0
                exact ⟨rfl, HP.out⟩
              · have y3 : ¬ (e : Int) < (b : Int) := by omega
                have HP : Hid (∃ ys, Sw w0 g n c _ ys ∧ StR a b xs ys ∧ Srt a b ys) := ⟨zs, hz1.out, HMR.out.done hz2.out hz3.out (StR.refl (by have := HE.out; omega) (by rw [hz1.out.len]; exact hb)) (by rw [show b = e by have := HE.out; omega]; exact HZ3.out)⟩
                go_wp2
                go_end0
                exact ⟨rfl, HP.out⟩
            · have y2 : ¬ (mid : Int) < (e : Int) := by omega
              have HP : Hid (∃ ys, Sw w0 g n c _ ys ∧ StR a b xs ys ∧ Srt a b ys) := ⟨zs, hz1.out, HMR.out.done hz2.out hz3.out (StR.refl (by have := HE.out; omega) (by rw [hz1.out.len]; exact hb)) (by rw [show mid = e by have := HE.out; omega]; exact HZ4.out)⟩
              go_wp2
              go_end0
              exact ⟨rfl, HP.out⟩

theorem mrg_any (w0 : World) (g n c : Nat) (hn : n ≤ 65536) : ∀ (N a m b : Nat) (xs : List Wt) (w : World), b - a ≤ N → Sw w0 g n c w xs → a < m → m < b → b ≤ n → Srt a m xs → Srt m b xs → Calls Try.prog 32 #[.slice (some ⟨g, 0, none⟩) n c, .int .i64 (a : Int), .int .i64 (m : Int), .int .i64 (b : Int), .func (.func 24) #[] #[]] w fun e w' => e = .returned (.tuple #[]) ∧ ∃ ys, Sw w0 g n c w' ys ∧ StR a b xs ys ∧ Srt a b ys
  | 0, a, m, b, xs, w, hN, _, h1, h2, _, _, _ => by omega
  | N + 1, a, m, b, xs, w, hN, h, h1, h2, hb, hs1, hs2 => by
    by_cases e1 : m = a + 1
    · exact mrgA_any w0 g n c a m b xs w h e1 h2 hb hn hs2
    · by_cases e2 : b = m + 1
      · exact mrgB_any w0 g n c a m b xs w h (by omega) e2 hb hn hs1
      · exact mrgC_any w0 g n c a m b xs w h (by omega) (by omega) hb hn hs1 hs2 fun a' m' b' xs' w' k0 k1 k2 k3 k4 k5 k6 => mrg_any w0 g n c hn N a' m' b' xs' w' (by omega) k1 k2 k3 k4 k5 k6

end Go.Proofs.Ytagkmfgoahbclaa

/- slices.SortStableFunc at writes, as a contract. -/
namespace Go.Proofs.Ytagkmfgoahbclaa
set_option maxRecDepth 20000
open Go.RowKit

/-- Stretches of k writes are in order each. -/
def BsW (k n : Nat) (ys : List Wt) : Prop := ∀ q, Srt (q * k) (min ((q + 1) * k) n) ys
/-- The first t of them. -/
def BsT (k n t : Nat) (ys : List Wt) : Prop := ∀ q, q < t → Srt (q * k) (min ((q + 1) * k) n) ys
theorem Srt.none {a b : Nat} {xs : List Wt} (h : b ≤ a) : Srt a b xs := fun i j h1 h2 h3 => by omega
theorem BsT.step {n t : Nat} {ys zs : List Wt} (h : BsT 20 n t ys) (st : StR (t * 20) (t * 20 + 20) ys zs) (s : Srt (t * 20) (t * 20 + 20) zs) : BsT 20 n (t + 1) zs := fun q hq => by
  by_cases e : q = t
  · subst e
    exact s.sub (Nat.le_refl _) (by omega)
  · exact (h q (by omega)).keep st (.inl (by omega))
theorem BsT.done {n t : Nat} {ys zs : List Wt} (h : BsT 20 n t ys) (hn : n < t * 20 + 20) (st : StR (t * 20) n ys zs) (s : Srt (t * 20) n zs) : BsW 20 n zs := fun q => by
  rcases Nat.lt_trichotomy q t with e | e | e
  · exact (h q e).keep st (.inl (by omega))
  · subst e
    exact s.sub (Nat.le_refl _) (by omega)
  · exact Srt.none (by omega)
theorem BsW.all {k n : Nat} {ys : List Wt} (h : BsW k n ys) (hk : n ≤ k) : Srt 0 n ys := by
  have := h 0
  rw [Nat.zero_mul, Nat.zero_add, Nat.one_mul, Nat.min_eq_right hk] at this
  exact this

/-- Pairs of stretches are merged, the first t pairs so far. -/
structure Mx (k n t : Nat) (ys : List Wt) : Prop where
  lo : ∀ q, q < t → Srt (q * (2 * k)) (min ((q + 1) * (2 * k)) n) ys
  hi : ∀ q, 2 * t ≤ q → Srt (q * k) (min ((q + 1) * k) n) ys
theorem Mx.start {k n : Nat} {ys : List Wt} (h : BsW k n ys) : Mx k n 0 ys := ⟨fun q hq => by omega, fun q _ => h q⟩
theorem two_mul (t k : Nat) : (2 * t) * k = t * (2 * k) := by rw [Nat.mul_comm 2 t, Nat.mul_assoc]
theorem Mx.halves {k n t : Nat} {ys : List Wt} (h : Mx k n t ys) : Srt (t * (2 * k)) (min (t * (2 * k) + k) n) ys ∧ Srt (t * (2 * k) + k) (min (t * (2 * k) + 2 * k) n) ys := by
  have h1 := h.hi (2 * t) (Nat.le_refl _)
  have h2 := h.hi (2 * t + 1) (by omega)
  rw [Nat.succ_mul (2 * t) k, two_mul] at h1
  rw [Nat.succ_mul (2 * t + 1) k, Nat.succ_mul (2 * t) k, two_mul] at h2
  exact ⟨h1, by rw [show t * (2 * k) + 2 * k = t * (2 * k) + k + k by omega]; exact h2⟩
theorem mul_le_of {q t k : Nat} (h : q < t) : (q + 1) * k ≤ t * k := Nat.mul_le_mul_right k h
theorem Mx.step {k n t : Nat} {ys zs : List Wt} (h : Mx k n t ys) (st : StR (t * (2 * k)) (t * (2 * k) + 2 * k) ys zs) (s : Srt (t * (2 * k)) (t * (2 * k) + 2 * k) zs) : Mx k n (t + 1) zs := by
  refine ⟨fun q hq => ?_, fun q hq => ?_⟩
  · by_cases e : q = t
    · subst e
      rw [Nat.succ_mul q (2 * k)]
      exact s.sub (Nat.le_refl _) (by omega)
    · have := mul_le_of (q := q) (t := t) (k := 2 * k) (by omega)
      exact (h.lo q (by omega)).keep st (.inl (by omega))
  · have h1 : (2 * (t + 1)) * k ≤ q * k := Nat.mul_le_mul_right k hq
    rw [two_mul, Nat.succ_mul t (2 * k)] at h1
    exact (h.hi q (by omega)).keep st (.inr h1)
theorem Mx.last {k n t : Nat} {ys zs : List Wt} (h : Mx k n t ys) (hn : n < t * (2 * k) + 2 * k) (st : StR (t * (2 * k)) n ys zs) (s : Srt (t * (2 * k)) n zs) : BsW (2 * k) n zs := fun q => by
  rcases Nat.lt_trichotomy q t with e | e | e
  · have := mul_le_of (q := q) (t := t) (k := 2 * k) e
    exact (h.lo q e).keep st (.inl (by omega))
  · subst e
    exact s.sub (Nat.le_refl _) (Nat.min_le_right _ _)
  · have := mul_le_of (q := t) (t := q) (k := 2 * k) e
    rw [Nat.succ_mul t (2 * k)] at this
    exact Srt.none (by omega)
theorem Mx.end {k n t : Nat} {ys : List Wt} (h : Mx k n t ys) (hn : n ≤ t * (2 * k) + k) : BsW (2 * k) n ys := fun q => by
  rcases Nat.lt_trichotomy q t with e | e | e
  · exact h.lo q e
  · subst e
    rw [Nat.succ_mul q (2 * k)]
    exact h.halves.1.sub (Nat.le_refl _) (by omega)
  · have := mul_le_of (q := t) (t := q) (k := 2 * k) e
    rw [Nat.succ_mul t (2 * k)] at this
    exact Srt.none (by omega)

set_option maxRecDepth 100000 in
set_option maxHeartbeats 8000000 in
theorem stb_any (w0 : World) (g n c : Nat) (xs : List Wt) (w : World) (h : Sw w0 g n c w xs) (hn : n ≤ 65536) :
    Calls Try.prog 29 #[.slice (some ⟨g, 0, none⟩) n c, .int .i64 (n : Int), .func (.func 24) #[] #[]] w fun e w' => e = .returned (.tuple #[]) ∧ ∃ ys, Sw w0 g n c w' ys ∧ StR 0 n xs ys ∧ Srt 0 n ys := by
  have HSW := hidden h
  have HL := hidden h.len
  have HI : Hid (∀ (A B : Nat) (ys : List Wt) (w' : World), Sw w0 g n c w' ys → A ≤ B → B ≤ n → Calls Try.prog 31 #[.slice (some ⟨g, 0, none⟩) n c, .int .i64 (A : Int), .int .i64 (B : Int), .func (.func 24) #[] #[]] w' fun e w'' => e = .returned (.tuple #[]) ∧ ∃ zs, Sw w0 g n c w'' zs ∧ StR A B ys zs ∧ Srt A B zs) := fun A B ys w' h1 h2 h3 => ins_any w0 g n c A B ys w' h1 h2 h3 hn
  have HM : Hid (∀ (A M B : Nat) (ys : List Wt) (w' : World), Sw w0 g n c w' ys → A < M → M < B → B ≤ n → Srt A M ys → Srt M B ys → Calls Try.prog 32 #[.slice (some ⟨g, 0, none⟩) n c, .int .i64 (A : Int), .int .i64 (M : Int), .int .i64 (B : Int), .func (.func 24) #[] #[]] w' fun e w'' => e = .returned (.tuple #[]) ∧ ∃ zs, Sw w0 g n c w'' zs ∧ StR A B ys zs ∧ Srt A B zs) := fun A M B ys w' h1 h2 h3 h4 h5 h6 => mrg_any w0 g n c hn (B - A) A M B ys w' (Nat.le_refl _) h1 h2 h3 h4 h5 h6
  clear h
  go_enter Try.func29, Try.ntmps29
  go_wp2_with fail
  go_loopw [7, 8] (fun av bv wr => ∃ (t A B : Nat) (ys : List Wt), av = .int .i64 (A : Int) ∧ bv = .int .i64 (B : Int) ∧ Hid (A = t * 20 ∧ B = A + 20 ∧ A ≤ n) ∧ Hid (Sw w0 g n c wr ys) ∧ Hid (StR 0 n xs ys) ∧ Hid (BsT 20 n t ys)) (fun _ bv _ => n + 20 - (intOf bv).toNat)
  case atStart => exact ⟨0, 0, 20, xs, rfl, rfl, ⟨rfl, rfl, by omega⟩, HSW, StR.refl (by omega) (by rw [HL.out]; exact Nat.le_refl _), fun q hq => by omega⟩
  case round =>
    clear HSW
    obtain ⟨t, A, B, ys, rfl, rfl, hab, hsw, hst, hbs⟩ := hrel
    by_cases hlt : B ≤ n
    · as_aux_lemma =>
        have z1 : (B : Int) ≤ (n : Int) := by omega
        have HC := hidden (HI.out A B ys wr hsw.out (by have := hab.out; omega) hlt)
        obtain ⟨B2, hB2⟩ : ∃ B2, B2 = B + 20 := ⟨_, rfl⟩
        have HB2 := hidden hB2
        have z2 : (B : Int) + 20 = (B2 : Int) := by omega
        have z3 := w64_nat (k := B2) (by omega)
        clear hB2
        go_wp2_with (go_at_call 31; refine HC.out.mono ?_; rintro e wx ⟨rfl, zs, hz1, hz2, hz3⟩; have HZ1 := hidden hz1; have HZ2 := hidden hz2; have HZ3 := hidden hz3; clear hz1 hz2 hz3)
        clear z3
        have hAB := hab.out
        have HST2 : Hid (StR 0 n xs zs) := hst.out.trans (HZ2.out.wide (by omega) hlt (by rw [hsw.out.len]; exact Nat.le_refl _))
        have HBS2 : Hid (BsT 20 n (t + 1) zs) := by
          have h1 := HZ2.out
          have h2 := HZ3.out
          rw [hAB.2.1, hAB.1] at h1 h2
          exact hbs.out.step h1 h2
        have HAB2 : Hid (B = (t + 1) * 20 ∧ B2 = B + 20 ∧ B ≤ n) := ⟨by omega, HB2.out, hlt⟩
        exact ⟨⟨t + 1, B, B2, zs, rfl, rfl, HAB2, HZ1, HST2, HBS2⟩, by have := HB2.out; simp [intOf]; omega⟩
    · have z1 : ¬ (B : Int) ≤ (n : Int) := by omega
      have HC := hidden (HI.out A n ys wr hsw.out hab.out.2.2 (Nat.le_refl _))
      have HNX : Hid (∀ zs, StR A n ys zs → Srt A n zs → StR 0 n xs zs ∧ BsW 20 n zs) := fun zs h1 h2 => by
        have hAB := hab.out
        refine ⟨hst.out.trans (h1.wide (by omega) (Nat.le_refl _) (by rw [hsw.out.len]; exact Nat.le_refl _)), ?_⟩
        rw [hAB.1] at h1 h2
        exact hbs.out.done (by omega) h1 h2
      clear hsw hst hbs hab
      go_wp2_with (go_at_call 31; refine HC.out.mono ?_; rintro e wx ⟨rfl, zs, hz1, hz2, hz3⟩; have HZ1 := hidden hz1; have HZ2 := hidden (HNX.out zs hz2 hz3); clear hz1 hz2 hz3)
      clear HNX HC z1 hlt
      go_loopw [6, 7, 8, 9] (fun kv _ _ _ wr => ∃ (k : Nat) (ys : List Wt), kv = .int .i64 (k : Int) ∧ 20 ≤ k ∧ k ≤ 131072 ∧ Hid (Sw w0 g n c wr ys) ∧ Hid (StR 0 n xs ys) ∧ Hid (BsW k n ys)) (fun kv _ _ _ _ => n - (intOf kv).toNat)
      case atStart => exact ⟨20, zs, rfl, by omega, by omega, HZ1, HZ2.out.1, HZ2.out.2⟩
      case round =>
        clear HZ1 HZ2 zs
        obtain ⟨k, ys, rfl, hk20, hk, hsw, hst, hbs⟩ := hrel
        by_cases hlt : k < n
        · as_aux_lemma =>
            have z1 : (k : Int) < (n : Int) := by omega
            obtain ⟨k2, hk2⟩ : ∃ k2, k2 = 2 * k := ⟨_, rfl⟩
            have HK2 := hidden hk2
            have z2 : 2 * (k : Int) = (k2 : Int) := by omega
            have z2' : (k : Int) * 2 = (k2 : Int) := by omega
            have z3 := w64_nat (k := k2) (by omega)
            have HX0 := hidden (Mx.start hbs.out)
            clear hk2 hbs
            go_wp2_with fail
            go_loopw [7, 8] (fun av bv wr => ∃ (t A B : Nat) (ys : List Wt), av = .int .i64 (A : Int) ∧ bv = .int .i64 (B : Int) ∧ Hid (A = t * k2 ∧ B = A + k2 ∧ A ≤ n) ∧ Hid (Sw w0 g n c wr ys) ∧ Hid (StR 0 n xs ys) ∧ Hid (Mx k n t ys)) (fun _ bv _ => n + k2 - (intOf bv).toNat)
            case atStart => exact ⟨0, 0, k2, ys, rfl, rfl, ⟨by simp, by simp, by omega⟩, hsw, hst, HX0⟩
            case round =>
              clear HX0 hsw hst ys
              obtain ⟨t, A, B, ys, rfl, rfl, hab, hsw, hst, hmx⟩ := hrel
              obtain ⟨M, hM⟩ : ∃ M, M = A + k := ⟨_, rfl⟩
              have HHM := hidden hM
              have HHV : Hid (Srt A (min M n) ys ∧ Srt M (min B n) ys) := by
                have h1 := hmx.out.halves
                have h2 := hab.out
                rw [← HK2.out, ← h2.1, ← hM, ← h2.2.1] at h1
                exact h1
              have hA13 : A ≤ 65536 := by have := hab.out; clear z3; omega
              have hM2 : M ≤ 200000 := by clear z3; omega
              have y1 : (A : Int) + (k : Int) = (M : Int) := by clear z3; omega
              by_cases hlt2 : B ≤ n
              · as_aux_lemma =>
                  have y2 : (B : Int) ≤ (n : Int) := by clear z3; omega
                  obtain ⟨B2, hB2⟩ : ∃ B2, B2 = B + k2 := ⟨_, rfl⟩
                  have HB2 := hidden hB2
                  have y3 : (B : Int) + (k2 : Int) = (B2 : Int) := by clear z3; omega
                  have hB2b : B2 ≤ 200000 := by have := HK2.out; clear z3; omega
                  have HC := hidden (HM.out A M B ys wr hsw.out (by clear z3; omega) (by have := hab.out; have := HK2.out; clear z3; omega) hlt2 (by have := HHV.out.1; rw [Nat.min_eq_left (by have := hab.out; have := HK2.out; clear z3; omega)] at this; exact this) (by have := HHV.out.2; rw [Nat.min_eq_left hlt2] at this; exact this))
                  have y4 := w64_nat hM2
                  have y5 := w64_nat hB2b
                  clear hB2 hM
                  go_wp2_with (go_at_call 32; refine HC.out.mono ?_; rintro e wx ⟨rfl, zs, hz1, hz2, hz3⟩; have HZ1 := hidden hz1; have HZ2 := hidden hz2; have HZ3 := hidden hz3; clear hz1 hz2 hz3)
                  clear y4 y5 z3
                  have hAB := hab.out
                  have HST2 : Hid (StR 0 n xs zs) := hst.out.trans (HZ2.out.wide (by omega) hlt2 (by rw [hsw.out.len]; exact Nat.le_refl _))
                  have HMX2 : Hid (Mx k n (t + 1) zs) := by
                    have h1 := HZ2.out
                    have h2 := HZ3.out
                    rw [hAB.2.1, hAB.1, HK2.out] at h1 h2
                    exact hmx.out.step h1 h2
                  have HAB2 : Hid (B = (t + 1) * k2 ∧ B2 = B + k2 ∧ B ≤ n) := ⟨by rw [Nat.succ_mul, ← hAB.1]; exact hAB.2.1, HB2.out, hlt2⟩
                  exact ⟨⟨t + 1, B, B2, zs, rfl, rfl, HAB2, HZ1, HST2, HMX2⟩, by have := HB2.out; have := HK2.out; simp [intOf]; omega⟩
              · have y2 : ¬ (B : Int) ≤ (n : Int) := by clear z3; omega
                by_cases hlt3 : M < n
                · as_aux_lemma =>
                    have y3 : (M : Int) < (n : Int) := by clear z3; omega
                    have HC := hidden (HM.out A M n ys wr hsw.out (by clear z3; omega) hlt3 (Nat.le_refl _) (by have := HHV.out.1; rw [Nat.min_eq_left (by clear z3; omega)] at this; exact this) (by have := HHV.out.2; rw [Nat.min_eq_right (by clear z3; omega)] at this; exact this))
                    have y4 := w64_nat hM2
                    clear hM
                    go_wp2_with (go_at_call 32; refine HC.out.mono ?_; rintro e wx ⟨rfl, zs, hz1, hz2, hz3⟩; have HZ1 := hidden hz1; have HZ2 := hidden hz2; have HZ3 := hidden hz3; clear hz1 hz2 hz3)
                    clear y4 z3
                    have hAB := hab.out
                    have HST2 : Hid (StR 0 n xs zs) := hst.out.trans (HZ2.out.wide (by omega) (Nat.le_refl _) (by rw [hsw.out.len]; exact Nat.le_refl _))
                    have HBS2 : Hid (BsW k2 n zs) := by
                      show BsW _ _ _
                      have h1 := HZ2.out
                      have h2 := HZ3.out
                      have h3 := hAB.2.1
                      rw [hAB.1, HK2.out] at h1 h2 h3
                      rw [HK2.out]
                      exact hmx.out.last (by omega) h1 h2
                    exact ⟨⟨k2, zs, rfl, by have := HK2.out; omega, by have := HK2.out; omega, HZ1, HST2, HBS2⟩, by have := HK2.out; simp [intOf]; omega⟩
                · as_aux_lemma =>
                    have y3 : ¬ (M : Int) < (n : Int) := by clear z3; omega
                    have y4 := w64_nat hM2
                    have HBS2 : Hid (BsW k2 n ys) := by
                      show BsW _ _ _
                      rw [HK2.out]
                      refine hmx.out.end ?_
                      have h3 := hab.out.1
                      rw [HK2.out] at h3
                      rw [← h3]
                      clear z3 y4
                      omega
                    clear hM
                    go_wp2_with fail
                    clear y4 z3
                    exact ⟨⟨k2, ys, rfl, by have := HK2.out; omega, by have := HK2.out; omega, hsw, hst, HBS2⟩, by have := HK2.out; simp [intOf]; omega⟩
        · have z1 : ¬ (k : Int) < (n : Int) := by omega
          have HP : Hid (∃ ys, Sw w0 g n c wr ys ∧ StR 0 n xs ys ∧ Srt 0 n ys) := ⟨ys, hsw.out, hst.out, hbs.out.all (by omega)⟩
          clear hsw hst hbs
          go_wp2
          go_end0
          exact ⟨rfl, HP.out⟩

theorem srt_any (w0 : World) (g n c : Nat) (xs : List Wt) (w : World) (h : Sw w0 g n c w xs) (hn : n ≤ 65536) :
    Calls Try.prog 27 #[.slice (some ⟨g, 0, none⟩) n c, .func (.func 24) #[] #[]] w fun e w' => e = .returned (.tuple #[]) ∧ ∃ ys, Sw w0 g n c w' ys ∧ StR 0 n xs ys ∧ Srt 0 n ys := by
  have HC := hidden (stb_any w0 g n c xs w h hn)
  clear h
  go_enter Try.func27, Try.ntmps27
  go_wp2_with (go_at_call 29; refine HC.out.mono ?_; rintro e wx ⟨rfl, hp⟩; have HP := hidden hp; clear hp)
  go_end0
  exact ⟨rfl, HP.out⟩

end Go.Proofs.Ytagkmfgoahbclaa
