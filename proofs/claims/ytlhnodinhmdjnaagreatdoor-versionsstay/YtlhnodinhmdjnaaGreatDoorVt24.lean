/- Calls of a store, as contracts: Drop. -/
import Derived.Test.YtlhnodinhmdjnaaGreatDoorVt23
import Derived.Test.YtlhnodinhmdjnaaGreatDoorVt09
namespace Go.Proofs.YtlhnodinhmdjnaaGreatDoor
set_option maxRecDepth 20000
open Go.RowKit

/-- All counts together are told by memory. -/
theorem tot_one {w : World} {g gs : Nat} {vp vf vp' vf' : Value} {room : Nat} {cs cs' : List (Nat × Ce)} {fr fr' : List Nat} (h : Stm w g gs vp vf room cs fr) (k : Stm w g gs vp' vf' room cs' fr') : tot cs = tot cs' := by
  have e1 : vp = vp' := Option.some.inj (h.sl.c2.symm.trans k.sl.c2)
  subst e1
  have hp := h.sl.pls
  have kp := k.sl.pls
  obtain ⟨a1, c1, q1⟩ := lst_slice hp
  obtain ⟨a2, c2, q2⟩ := lst_slice kp
  rw [q1] at q2
  injection q2 with _ e2 _
  have hl : cs.length = cs'.length := by simpa using e2
  have hc : ∀ i, i < cs.length → cc cs i = cc cs' i := fun i hi => by
    obtain ⟨b, c, e, _⟩ := lst_pos hp (by simp; omega)
    have hp' := hp
    have kp' := kp
    rw [e] at hp'
    have e3 : vp = .slice (some ⟨b, 0, none⟩) (cs'.map pl).length c := by rw [e]; simp [hl]
    rw [e3] at kp'
    have hm : i * (71 + 1) < (cs.map pl).length * (71 + 1) := Nat.mul_lt_mul_of_pos_right (by simpa using hi) (by omega)
    have c1 := lst_cell hp' (i * (71 + 1)) hm
    have c2 := lst_cell kp' (i * (71 + 1)) (by simpa [hl] using hm)
    rw [flatS_count h.sl.wid i (by simpa using hi)] at c1
    rw [flatS_count k.sl.wid i (by simp; omega)] at c2
    rw [c1] at c2
    injection c2 with c2
    injection c2 with _ c2
    rw [cnt_pl, cnt_pl] at c2
    omega
  unfold tot
  congr 1
  apply List.ext_getElem (by simpa using hl)
  intro i h1 h2
  have := hc i (by simpa using h1)
  have h1' : i < cs.length := by simpa using h1
  have h2' : i < cs'.length := by simpa using h2
  simpa [cc, h1', h2'] using this

theorem tot_fun (g gs room : Nat) : ∃ mea : World → Nat, ∀ w vp vf cs fr, Stm w g gs vp vf room cs fr → mea w = tot cs := by
  have h : ∀ w : World, ∃ m : Nat, ∀ vp vf cs fr, Stm w g gs vp vf room cs fr → m = tot cs := fun w => by
    by_cases e : ∃ vp vf cs fr, Stm w g gs vp vf room cs fr
    · obtain ⟨vp, vf, cs, fr, h⟩ := e
      exact ⟨tot cs, fun vp' vf' cs' fr' k => tot_one h k⟩
    · exact ⟨0, fun vp vf cs fr k => absurd ⟨vp, vf, cs, fr, k⟩ e⟩
  exact ⟨fun w => Classical.choose (h w), fun w => Classical.choose_spec (h w)⟩

theorem drop_more {w : World} {g gs : Nat} {vp vf : Value} {room : Nat} {cs : List (Nat × Ce)} {fr : List Nat} (s : Stm w g gs vp vf room cs fr) (i : Nat) (hc : 1 < cc cs i) : Calls Tryz.prog 74 #[.pointer (some ⟨gs, 0, none⟩), .int .i64 ((i + 1 : Nat) : Int)] w fun e w' => e = .returned (.tuple #[.bool false, .int .i64 0]) ∧ STurn w g gs (stB g gs vp vf cs) room (lessC cs i) fr w' := by
  refine (drop_moreC gs vp vf room _ fr _ i w s.sl rfl (by rw [cnt_pl]; omega) (by rw [cnt_pl]; exact hc)).mono ?_
  rintro e w' ⟨rfl, t⟩
  have hl := cc_lt (cs := cs) (i := i) (by omega)
  rw [cnt_pl, thg_pl cs i hl, map_set] at t
  refine ⟨rfl, s.turn' (Below.refl _ _) t (fun j => .inr ⟨j, ?_⟩)⟩
  have e : ce (lessC cs i) j = ce cs j := by
    unfold lessC
    rw [ce_set cs i j _ hl]
    split
    · next e => rw [e]
    · rfl
  rw [e]
  exact ⟨rfl, rfl⟩

theorem drop_last {w : World} {g gs : Nat} {vp vf : Value} {room : Nat} {cs : List (Nat × Ce)} {fr : List Nat} (s : Stm w g gs vp vf room cs fr) (i : Nat) (hc : cc cs i = 1) : Calls Tryz.prog 74 #[.pointer (some ⟨gs, 0, none⟩), .int .i64 ((i + 1 : Nat) : Int)] w fun e w' => e = .returned (.tuple #[.bool true, .int .i64 0]) ∧ STurn w g gs (stB g gs vp vf cs) room (cs.set i (0, zc)) (fr ++ [i + 1]) w' := by
  refine (drop_lastC gs vp vf room _ fr _ i w s.sl rfl (by rw [cnt_pl]; omega) (by rw [cnt_pl]; exact hc)).mono ?_
  rintro e w' ⟨rfl, t⟩
  have hl := cc_lt (cs := cs) (i := i) (by omega)
  rw [← cz_zc, map_set] at t
  refine ⟨rfl, s.turn' (Below.refl _ _) t (fun j => ?_)⟩
  rw [ce_set cs i j _ hl]
  split
  · exact .inl ⟨rfl, rfl⟩
  · exact .inr ⟨j, rfl, rfl⟩

set_option maxHeartbeats 400000 in
theorem dropS_no (h : Int) (x : Value) (w : World) (hn : NoS w x) : Calls Tryz.prog 32 #[x, .int .i64 h] w fun e w' => e = .returned (.tuple #[.int .i64 0, .int .i64 1]) ∧ Below w.heap.size w w' := by
  have HN := hidden hn
  clear hn
  go_enter Tryz.func32, Tryz.ntmps32
  go_wp2_with (go_at_call 69; refine (madeS_no x _ HN.out).mono ?_; rintro e w' ⟨rfl, hx⟩; rw [hx]; clear hx w')
  go_ret2
  exact ⟨rfl, Below.refl _ _⟩

set_option maxHeartbeats 400000 in
theorem dropS_miss {w : World} {g gs : Nat} {vp vf : Value} {room : Nat} {cs : List (Nat × Ce)} {fr pend : List Nat} (s : Stm w g gs vp vf room cs fr) (hw : Wf cs pend) (h : Int) (hm : cot cs h ≤ (cat cs h).ab) : Calls Tryz.prog 32 #[.pointer (some ⟨g, 0, none⟩), .int .i64 h] w fun e w' => e = .returned (.tuple #[.int .i64 0, .int .i64 7]) ∧ Below w.heap.size w w' := by
  have c0 := s.c0
  have HH := hidden (held_any (vw_ok s hw) h)
  rw [show cot cs h - (cat cs h).ab = 0 by omega] at HH
  clear s hw hm
  go_enter Tryz.func32, Tryz.ntmps32
  go_wp2_with (first
    | (go_at_call 69; refine (madeS_ok g _ c0).mono ?_; rintro e w' ⟨rfl, hx⟩; rw [hx]; clear hx w')
    | (go_at_call 57; refine HH.out.mono ?_; rintro e w1 ⟨rfl, b1⟩))
  go_ret2
  exact ⟨rfl, b1⟩

theorem ne0_rev (h : Nat) : (ne0 h).reverse = ne0 h := by
  unfold ne0
  split <;> rfl

theorem lst_one (w : World) (b : Nat) (x : Nat) (h : Blk w b 3 #[.int .i64 (x : Int)]) : Lst w 3 1 (.slice (some ⟨b, 0, none⟩) 1 1) 1 (nats [x]) := ⟨by simp [nats], .inr ⟨b, 1, _, rfl, Nat.zero_le _, h, by omega, by decide, by simp, by simp [nats]⟩⟩

set_option maxHeartbeats 4000000 in
theorem dropS_ok {w : World} {g gs : Nat} {vp vf : Value} {room : Nat} {cs : List (Nat × Ce)} {fr : List Nat} (s : Stm w g gs vp vf room cs fr) (hw : Wf cs []) (i : Nat) (ho : 0 < own cs [] i) : Calls Tryz.prog 32 #[.pointer (some ⟨g, 0, none⟩), .int .i64 ((i + 1 : Nat) : Int)] w fun e w' => ∃ cs' fr' n, Run cs fr [i + 1] cs' fr' n ∧ e = .returned (.tuple #[.int .i64 (n : Int), .int .i64 0]) ∧ STurn w g gs (stB g gs vp vf cs) room cs' fr' w' := by
  have c0 := s.c0
  have hcat : cat cs (((i + 1 : Nat) : Int)) = ce cs i := by rw [cat_nat]; rfl
  have hcot : cot cs (((i + 1 : Nat) : Int)) = cc cs i := by unfold cot; rw [if_pos (by omega), show ((i + 1 : Nat) : Int) - 1 = (i : Int) by omega, Int.toNat_natCast]
  have HH := hidden (held_any (vw_ok s hw) ((i + 1 : Nat) : Int))
  rw [hcat, hcot] at HH
  obtain ⟨q, hq⟩ : ∃ q, q = cc cs i - (ce cs i).ab := ⟨_, rfl⟩
  rw [← hq] at HH
  have hq0 : ((q : Int) == 0) = false := by
    have h1 := hw.own i
    rw [List.count_nil] at h1
    simp
    omega
  have HW1 := hidden (hw.less i ho)
  obtain ⟨mea, hmea⟩ := tot_fun g gs room
  have HME := hidden hmea
  have HFL : Hid (∀ w' vp' vf' cs' fr', Stm w' g gs vp' vf' room cs' fr' → fr'.length ≤ 65536 ∧ noc cs' ≤ 65536 ∧ ∀ j, cc cs' j ≤ 1073741824) := fun w' vp' vf' cs' fr' t => by
    have h1 := t.sl.inv.frlen
    have h2 := t.sl.inv.len
    have h3 := t.sl.inv.r2
    have h4 := t.sl.inv.sum
    refine ⟨by omega, ?_, fun j => ?_⟩
    · show occs _ ≤ _
      omega
    · have := t.sl.inv.most j
      rwa [cnt_pl] at this
  have HS := hidden s
  obtain ⟨h, hh⟩ : ∃ h : Int, h = ((i + 1 : Nat) : Int) := ⟨_, rfl⟩
  rw [← hh] at HH
  rw [← hh]
  have HHH := hidden hh
  obtain ⟨S, hS⟩ : ∃ S, S = stB g gs vp vf cs := ⟨_, rfl⟩
  rw [← hS]
  have HSS := hidden hS
  clear s hw ho hcat hcot hq hmea hh hS
  go_enter Tryz.func32, Tryz.ntmps32
  go_wp2_with (first
    | (go_at_call 69; refine (madeS_ok g _ c0).mono ?_; rintro e w' ⟨rfl, hx⟩; rw [hx]; clear hx w')
    | (go_at_call 57; refine HH.out.mono ?_; rintro e w1 ⟨rfl, b1⟩; have Hb1 := hidden b1; clear b1))
  have HD0 : Hid (Dl w S g gs room cs fr (.slice (some ⟨w1.heap.size, 0, none⟩) 1 1) [i + 1] [] (w1.alloc (.cells #[.int .i64 h] 3))) := by
    have b2 := grow_trans Hb1.out (grow_alloc w1 (.cells #[.int .i64 h] 3))
    rw [HSS.out]
    refine ⟨vp, vf, HS.out.grow b2, Mod.of_below b2 _, fun _ hk => .inl hk, ?_, fun k hk => ?_, fun x hx => by cases hx⟩
    · refine lst_one _ _ (i + 1) ?_
      rw [← HHH.out]
      exact Blk.new _ _ _
    · simp only [Value.ownBlock, Option.some.injEq] at hk
      subst hk
      refine ⟨Hb1.out.size, fun e => ?_⟩
      have := (HS.out.grow Hb1.out).lts _ e
      omega
  have HI0 : Hid (Wf cs [i + 1] ∧ 0 + noc cs ≤ 65536 ∧ 1 ≤ fr.length + 1 ∧ ∀ cs' fr' m, Run cs fr [i + 1] cs' fr' m → Run cs fr [i + 1] cs' fr' (0 + m)) := ⟨HW1.out, by have := (HFL.out _ _ _ _ _ HS.out).2.1; omega, by omega, fun _ _ m h => by rwa [Nat.zero_add]⟩
  clear HS HW1 HHH Hb1
  generalize w1.alloc (.cells #[.int .i64 h] 3) = w2 at *
  generalize w1.heap.size = b0 at *
  go_loopw [1, 6, 7] (fun hv fv nv wr => ∃ (h1 : Int) (n : Nat) (cs1 : List (Nat × Ce)) (fr1 st : List Nat) (a : Option Addr) (c : Nat), hv = .int .i64 h1 ∧ fv = .int .i64 (n : Int) ∧ nv = .slice a st.length c ∧ Hid (Dl w S g gs room cs1 fr1 (.slice a st.length c) st.reverse [] wr) ∧ Hid (Wf cs1 st ∧ n + noc cs1 ≤ 65536 ∧ st.length ≤ fr1.length + 1 ∧ ∀ cs' fr' m, Run cs1 fr1 st cs' fr' m → Run cs fr [i + 1] cs' fr' (n + m))) (fun _ _ _ wr => mea wr)
  case atStart => exact ⟨h, 0, cs, fr, [i + 1], _, _, rfl, rfl, rfl, HD0, HI0⟩
  case round =>
    clear HD0 HI0
    obtain ⟨h1, n, cs1, fr1, st, a, c, rfl, rfl, rfl, hD, hI⟩ := hrel
    cases st with
    | nil =>
      have HRUN := hidden (hI.out.2.2.2 _ _ _ (Run.done cs1 fr1))
      have HT := hidden hD.out.turned
      clear hD hI
      go_wp2
      go_ret2
      exact ⟨cs1, fr1, n, HRUN.out, rfl, HT.out⟩
    | cons hj st1 =>
      obtain ⟨hW, hN, hLn, hR⟩ := hI.out
      obtain ⟨j, rfl⟩ : ∃ j, hj = j + 1 := ⟨hj - 1, by have := hW.pos hj (by simp); omega⟩
      have hcj : 1 ≤ cc cs1 j := by
        have := hW.le j
        rw [List.count_cons_self] at this
        omega
      have hD1 := hD.out
      rw [List.reverse_cons] at hD1
      obtain ⟨b, c', hv, hcap, hcell⟩ := hD1.last
      rw [List.length_reverse] at hv hcap hcell
      injection hv with e1 e2 e3
      subst e1
      subst e3
      have HDP : Hid (Dl w S g gs room cs1 fr1 (.slice (some ⟨b, 0, none⟩) st1.length c) st1.reverse [] wr) := by
        have h0 := hD1
        rw [show ((j + 1) :: st1).length = (st1.reverse ++ [j + 1]).length by simp] at h0
        have h1 := h0.pop
        rw [List.length_reverse] at h1
        exact h1
      have hFL : fr1.length ≤ 65536 := by
        obtain ⟨vp1, vf1, q1, _⟩ := hD.out
        exact (HFL.out _ _ _ _ _ q1).1
      have HNj := hidden (hW.tr j (by omega))
      have HOK := hidden (hW.ok j)
      have HAT : Hid (∀ w', Below wr.heap.size wr w' → Calls Tryz.prog 71 #[.pointer (some ⟨g, 0, none⟩), .int .i64 ((j + 1 : Nat) : Int)] w' fun e w'' => e = .returned (.agg (cz (ce cs1 j)).toArray) ∧ Below w'.heap.size w' w'') := fun w' hb => by
        obtain ⟨vp1, vf1, q1, _⟩ := hD.out
        have := (vw_ok q1 hW).atv w' ((j + 1 : Nat) : Int) hb
        rwa [cat_nat] at this
      have hl1 : st1.length ≤ 65537 := by simp only [List.length_cons] at hLn; omega
      have HW1 := hidden hW
      have HRR := hidden hR
      have HNN := hidden hN
      have HLL := hidden hLn
      have HL1 := hidden hl1
      have HME0 : Hid (mea wr = tot cs1) := by
        obtain ⟨vp1, vf1, q1, _⟩ := hD.out
        exact HME.out _ _ _ _ _ q1
      obtain ⟨y, hy⟩ : ∃ y : Int, y = ((j + 1 : Nat) : Int) := ⟨_, rfl⟩
      rw [← hy] at hcell HAT
      have HY := hidden hy
      obtain ⟨k, hk⟩ : ∃ k, k = ce cs1 j := ⟨_, rfl⟩
      rw [← hk] at HAT HOK
      have HKE := hidden hk
      obtain ⟨m, hm⟩ : ∃ m, m = st1.length := ⟨_, rfl⟩
      rw [← hm] at hcap hcell HDP hl1
      have HM := hidden hm
      have i0 : (0 : Int) ≤ (m : Int) := by omega
      have i1 : (m : Int) < (m : Int) + 1 := by omega
      have i1' : (m : Int) < ((m + 1 : Nat) : Int) := by omega
      have i2 : (m : Int) ≤ (c : Int) := by omega
      have i3 : (0 : Int) < ((m + 1 : Nat) : Int) := by omega
      have hwm : wrap64 (m : Int) = (m : Int) := Go.IntWalk.wrap64_in _ (by omega)
      rw [List.length_cons, ← hm]
      have hnb : n ≤ 65536 := by omega
      have hwn : wrap64 ((n : Int) + 1) = ((n + 1 : Nat) : Int) := by rw [Go.IntWalk.wrap64_in _ (by omega)]; rfl
      have HFR := hidden hFL
      clear hD hI hW hN hLn hR hD1 hy hk hm e2 hl1 hFL hnb
      go_wp2_with fail
      go_quiet (fail)
      have HB2 : Hid (Below wr.heap.size wr (wr.drewN nq)) := below_drewN (Below.refl _ _) nq
      generalize wr.drewN nq = w2' at *
      rcases Nat.lt_or_eq_of_le hcj with hgt | heq
      · have HC := hidden hgt
        clear hcj hgt
        go_wp2_with (first
          | (go_at_call 71; refine (HAT.out _ HB2.out).mono ?_; rintro e w3 ⟨rfl, b3⟩; have HB3 := hidden b3; clear b3)
          | ((with_reducible refine at_ald 9 ?_); refine wpList_al _ rfl _ rfl _ zero_thC ?_; intro w4 b9 hg9 hl9 B9 b4; have HB9 := hidden B9; have Hg9 := hidden hg9; have HB4 := hidden b4; clear hg9 hl9 B9 b4)
          | ((with_reducible refine at_st 9 ?_); refine wpList_sto _ rfl _ _ _ rfl b9 _ (cz k).toArray rfl rfl HB9.out (xszC _ (cz_th HOK.out)) (xzsC _ (cz_th HOK.out)) (all_oneCell_toArray (cz_one HOK.out)) ?_; intro w5 B5 r5; have hq5 := below_row (grow_trans (grow_trans HB2.out HB3.out) HB4.out) r5 (by have := Hg9.out; have := HB3.out.size; have := HB2.out.size; omega); have HD5 := hidden (HDP.out.hold hq5 (by have := Hg9.out; have := HB3.out.size; have := HB2.out.size; omega) B5); have c1 := HD5.out.c01.2; clear hq5 B5 r5)
          | (go_at_call 74; rw [HY.out]; refine (HD5.out.use (fun vp vf q => drop_more q j HC.out)).mono ?_; rintro e w6 ⟨rfl, d6⟩; have HD6 := hidden d6; clear d6))
        have hst := step_less HW1.out HC.out
        have htt := tot_less cs1 j (by have := HC.out; omega)
        have hmm : mea w6 = tot (lessC cs1 j) := by
          obtain ⟨vp1, vf1, q1, _⟩ := HD6.out
          exact HME.out _ _ _ _ _ q1
        have hdl : Dl w S g gs room (lessC cs1 j) fr1 (.slice (some ⟨b, 0, none⟩) st1.length c) st1.reverse [] w6 := by
          have := HD6.out.less (Y := []) (fun _ h => by cases h)
          rw [HM.out] at this
          exact this
        refine ⟨⟨_, n, lessC cs1 j, fr1, st1, some ⟨b, 0, none⟩, c, rfl, rfl, by rw [HM.out], hdl, hst.wf, ?_, ?_, fun cs' fr' q hq => HRR.out _ _ _ (Run.keep HC.out hq)⟩, ?_⟩
        · have := hst.noc
          have := HNN.out
          omega
        · have := HLL.out
          simp only [List.length_cons] at this
          omega
        · rw [hmm, HME0.out]
          omega
      · have HC : Hid (cc cs1 j = 1) := heq.symm
        clear hcj heq
        have HZ1 : Hid (Wz (cs1.set j (0, zc))) := HW1.out.z.set j 0 zc zc_ok (fun _ => rfl)
        have hsides := Wf.sides HW1.out.ab HW1.out.le j (by have := HC.out; omega)
        obtain ⟨nl, nr⟩ := HNj.out.side_ne rfl
        rw [← HKE.out] at hsides nl nr
        have hside : ∀ q, (q = k.l ∨ q = k.r) → q = 0 ∨ 1 ≤ q ∧ 0 < cc (cs1.set j (0, zc)) (q - 1) ∧ 1 ≤ (ce (cs1.set j (0, zc)) (q - 1)).ab ∧ (ce (cs1.set j (0, zc)) (q - 1)).ab ≤ 1073741824 := fun q hq => by
          by_cases e : q = 0
          · exact .inl e
          · have h1 := hsides q hq e
            have hne : q - 1 ≠ j := fun e2 => by
              rcases hq with e3 | e3
              · exact nl (by omega)
              · exact nr (by omega)
            have hjl := cc_lt (cs := cs1) (i := j) (by have := HC.out; omega)
            have h2 := ns_pos cs1 (q - 1) j (by have := HC.out; omega) (by rw [← HKE.out]; exact hq.elim (fun e => .inl (by omega)) (fun e => .inr (by omega)))
            have h3 := HW1.out.ab (q - 1)
            have h4 := HW1.out.le (q - 1)
            have h5 : cc cs1 (q - 1) ≤ 1073741824 := by
              obtain ⟨vp1, vf1, q1, _⟩ := HDP.out
              exact (HFL.out _ _ _ _ _ q1).2.2 _
            refine .inr ⟨by omega, ?_⟩
            rw [cc_set cs1 j _ _ hjl, ce_set cs1 j _ _ hjl, if_neg hne, if_neg hne]
            omega
        have a1 := dnA_of (cs1.set j (0, zc)) k.r
        have HZ2 : Hid (Wz (dnA (cs1.set j (0, zc)) k.r)) := by
          rcases hside k.r (.inr rfl) with e | ⟨e1, e2, e3, e4⟩
          · have : dnA (cs1.set j (0, zc)) k.r = cs1.set j (0, zc) := by unfold dnA; rw [if_pos e]
            rw [this]
            exact HZ1
          · have : dnA (cs1.set j (0, zc)) k.r = setA (cs1.set j (0, zc)) k.r ((ce (cs1.set j (0, zc)) (k.r - 1)).ab - 1) := by unfold dnA; rw [if_neg (by omega)]
            rw [this]
            exact HZ1.out.setA _ _ e2
        have HSR := hidden (hside k.r (.inr rfl))
        have HSL : Hid (k.l = 0 ∨ 1 ≤ k.l ∧ 0 < cc (dnA (cs1.set j (0, zc)) k.r) (k.l - 1) ∧ 1 ≤ (ce (dnA (cs1.set j (0, zc)) k.r) (k.l - 1)).ab ∧ (ce (dnA (cs1.set j (0, zc)) k.r) (k.l - 1)).ab ≤ 1073741824) := by
          rcases hside k.l (.inl rfl) with e | ⟨e1, e2, e3, e4⟩
          · exact .inl e
          · have hne : k.l ≠ k.r := by
              rcases HNj.out with hh | hh
              · have := hh.l
                rw [← HKE.out] at this
                omega
              · rw [← HKE.out] at hh
                exact sides_ne hh (by omega)
            refine .inr ⟨e1, by rw [a1.cc]; exact e2, ?_⟩
            have hb : k.r - 1 < (cs1.set j (0, zc)).length ∨ k.r = 0 := by
              rcases hside k.r (.inr rfl) with e | ⟨_, e, _⟩
              · exact .inr e
              · exact .inl (cc_lt e)
            rw [dnA_ab _ _ _ hb, if_neg (by omega)]
            exact ⟨by omega, by omega⟩
        have HKL : Hid ((cz k)[69]? = some (.int .i64 (k.l : Int)) ∧ (cz k)[70]? = some (.int .i64 (k.r : Int))) := ⟨(cz_at k HOK.out).2.2.2.2.2.1, (cz_at k HOK.out).2.2.2.2.2.2⟩
        have HLR : Hid (∀ x, (ne0 x).length ≤ 1) := fun x => by unfold ne0; split <;> simp
        clear hsides nl nr hside a1
        go_wp2_with (first
          | (go_at_call 71; refine (HAT.out _ HB2.out).mono ?_; rintro e w3 ⟨rfl, b3⟩; have HB3 := hidden b3; clear b3)
          | ((with_reducible refine at_ald 9 ?_); refine wpList_al _ rfl _ rfl _ zero_thC ?_; intro w4 b9 hg9 hl9 B9 b4; have HB9 := hidden B9; have Hg9 := hidden hg9; have HB4 := hidden b4; clear hg9 hl9 B9 b4)
          | ((with_reducible refine at_st 9 ?_); refine wpList_sto _ rfl _ _ _ rfl b9 _ (cz k).toArray rfl rfl HB9.out (xszC _ (cz_th HOK.out)) (xzsC _ (cz_th HOK.out)) (all_oneCell_toArray (cz_one HOK.out)) ?_; intro w5 B5 r5; have hq5 := below_row (grow_trans (grow_trans HB2.out HB3.out) HB4.out) r5 (by have := Hg9.out; have := HB3.out.size; have := HB2.out.size; omega); have HD5 := hidden (HDP.out.hold hq5 (by have := Hg9.out; have := HB3.out.size; have := HB2.out.size; omega) B5); have c1 := HD5.out.c01.2; clear hq5 B5 r5)
          | (go_at_call 74; rw [HY.out]; refine (HD5.out.use (fun vp vf q => drop_last q j HC.out)).mono ?_; rintro e w6 ⟨rfl, d6⟩; have HD6 := hidden d6; have B6 := d6.held (List.mem_cons_self ..); have e6 := B6.cell 70; simp only [List.getElem?_toArray] at e6; rw [HKL.out.2] at e6; clear d6 B6)
          | (go_at_call 75; have mk := m1; clear mk; refine (letGo_any HD7.out HZ2.out k.l HSL.out (by have := HL1.out; have := HLR.out k.r; rw [List.length_append, List.length_reverse]; omega)).mono ?_; rintro e w8 ⟨a8, q8, c8, rfl, hq8, d8⟩; have HQ8 := hidden hq8; have HD8 := hidden d8; clear d8 hq8)
          | (go_at_call 75; refine (letGo_any HD6.out HZ1.out k.r HSR.out (by have := HL1.out; rw [List.length_reverse]; omega)).mono ?_; rintro e w7 ⟨a7, q7, c7, rfl, hq7, d7⟩; clear hq7; have HD7 := hidden d7; have B7 := d7.held (List.mem_cons_self ..); have e7 := B7.cell 69; simp only [List.getElem?_toArray] at e7; rw [HKL.out.1] at e7; have m1 : Hid True := trivial; clear d7 B7))
        have hst := step_free HW1.out HC.out
        have htt := tot_free cs1 j HC.out
        have hE : (ne0 (ce cs1 j).l ++ (ne0 (ce cs1 j).r ++ st1)).reverse = st1.reverse ++ ne0 k.r ++ ne0 k.l := by rw [← HKE.out, List.reverse_append, List.reverse_append, ne0_rev, ne0_rev]
        have hF : dnA (dnA (cs1.set j (0, zc)) k.r) k.l = freeC cs1 j := by unfold freeC; rw [← HKE.out]
        have hd8 := HD8.out
        rw [← hE, hF] at hd8
        have hq8 := HQ8.out
        rw [← hE, List.length_reverse] at hq8
        rw [hq8] at hd8
        have hmm : mea w8 = tot (freeC cs1 j) := by
          obtain ⟨vp1, vf1, q1, _⟩ := hd8
          exact HME.out _ _ _ _ _ q1
        refine ⟨⟨_, n + 1, freeC cs1 j, fr1 ++ [j + 1], ne0 (ce cs1 j).l ++ (ne0 (ce cs1 j).r ++ st1), a8, c8, rfl, by go_num, by rw [hq8], hd8.less (fun _ h => by cases h), hst.wf, ?_, ?_, fun cs' fr' q hq => ?_⟩, ?_⟩
        · have := hst.noc
          have := HNN.out
          omega
        · have := HLL.out
          have h1 := HLR.out (ce cs1 j).l
          have h2 := HLR.out (ce cs1 j).r
          simp only [List.length_cons] at this
          simp only [List.length_append, List.length_singleton]
          omega
        · have := HRR.out _ _ _ (Run.free HC.out hq)
          rwa [show n + (q + 1) = n + 1 + q by omega] at this
        · rw [hmm, HME0.out]
          omega

end Go.Proofs.YtlhnodinhmdjnaaGreatDoor

/- A store that a walk keeps, in whatever blocks of the walk's own it lies, and each call of it. -/
namespace Go.Proofs.YtlhnodinhmdjnaaGreatDoor
set_option maxRecDepth 20000
open Go.RowKit

/-- The store at g holds these nodes, all its blocks are new since w0, and nothing of w0 has turned. -/
def Hw (w0 w : World) (g gs room : Nat) (cs : List (Nat × Ce)) (fr : List Nat) : Prop := (∃ vp vf, Stm w g gs vp vf room cs fr ∧ (∀ k ∈ stB g gs vp vf cs, w0.heap.size ≤ k) ∧ Below w0.heap.size w0 w) ∧ Wf cs []

theorem Hw.low {w0 w : World} {g gs room : Nat} {cs : List (Nat × Ce)} {fr : List Nat} (h : Hw w0 w g gs room cs fr) : Below w0.heap.size w0 w := by
  obtain ⟨⟨_, _, _, _, h⟩, _⟩ := h
  exact h
theorem Hw.grow {w0 w w' : World} {g gs room : Nat} {cs : List (Nat × Ce)} {fr : List Nat} (h : Hw w0 w g gs room cs fr) (hb : Below w.heap.size w w') : Hw w0 w' g gs room cs fr := by
  obtain ⟨⟨vp, vf, h1, h2, h3⟩, h4⟩ := h
  exact ⟨⟨vp, vf, h1.grow hb, h2, grow_trans h3 hb⟩, h4⟩
theorem Hw.vw {w0 w : World} {g gs room : Nat} {cs : List (Nat × Ce)} {fr : List Nat} (h : Hw w0 w g gs room cs fr) : Vw w (.pointer (some ⟨g, 0, none⟩)) true (cot cs) (cat cs) := by
  obtain ⟨⟨vp, vf, h1, h2, h3⟩, h4⟩ := h
  exact vw_ok h1 h4
theorem Hw.inv {w0 w : World} {g gs room : Nat} {cs : List (Nat × Ce)} {fr : List Nat} (h : Hw w0 w g gs room cs fr) : Inv room (cs.map pl) fr := by
  obtain ⟨⟨vp, vf, h1, h2, h3⟩, h4⟩ := h
  exact h1.sl.inv
theorem Hw.turn {w0 w w' : World} {g gs room : Nat} {cs cs' : List (Nat × Ce)} {fr' : List Nat} {vp vf : Value} (h2 : ∀ k ∈ stB g gs vp vf cs, w0.heap.size ≤ k) (h3 : Below w0.heap.size w0 w) (t : STurn w g gs (stB g gs vp vf cs) room cs' fr' w') (hw : Wf cs' []) : Hw w0 w' g gs room cs' fr' := by
  obtain ⟨vp', vf', k1, k2, k3⟩ := t
  exact ⟨⟨vp', vf', k1, k3.base h2 h3.size, h3.trans (k2.below h2 h3.size)⟩, hw⟩

theorem hw_new (room : Nat) (w0 w : World) (hb : Below w0.heap.size w0 w) (h1 : 1 ≤ room) (h2 : room ≤ 65536) : Calls Tryz.prog 25 #[.int .i64 (room : Int)] w fun e w' => ∃ g gs, e = .returned (.tuple #[.pointer (some ⟨g, 0, none⟩), .int .i64 0]) ∧ Hw w0 w' g gs room [] [] := by
  refine (newS_ok room w h1 h2).mono ?_
  rintro e w' ⟨g, gs, rfl, hg, hgs, s, b⟩
  refine ⟨g, gs, rfl, ⟨_, _, s, fun k hk => ?_, grow_trans hb b⟩, Wf.new⟩
  have := hb.size
  rcases stB_mem.1 hk with rfl | hk | ⟨i, hk⟩
  · omega
  · rcases slB_mem.1 hk with rfl | hk | hk
    · omega
    · cases hk
    · cases hk
  · simp only [ce, List.getElem?_nil, Option.getD_none] at hk
    cases hk

theorem leaf_ok (K : List Int) (v : Value) (bs : List Int) (hb : Bytes bs) (hl : bs.length ≤ 1024) : LeafOk (lfC (lfD K (vaD bs)) K v bs) := ⟨rfl, rfl, rfl, rfl, rfl, rfl, hl, hb⟩

theorem hw_leaf {w0 w : World} {g gs room : Nat} {cs : List (Nat × Ce)} {fr : List Nat} (h : Hw w0 w g gs room cs fr) (K : List Int) (v : Value) (bs : List Int) (hr : Reads w v bs) (hK : Key K) (hL : Laid w) (hl : bs.length ≤ 1024) (hf : ¬ Full room cs fr) : Calls Tryz.prog 97 #[.pointer (some ⟨g, 0, none⟩), .agg (B K), v] w fun e w' => ∃ v', e = .returned (.tuple #[.int .i64 (tkH cs fr : Int), .int .i64 0]) ∧ Hw w0 w' g gs room (tkC cs fr (1, lfC (lfD K (vaD bs)) K v' bs)) fr.dropLast := by
  obtain ⟨⟨vp, vf, h1, h2, h3⟩, h4⟩ := h
  have hbs : Bytes bs := by obtain ⟨_, _, _, _, _, hb, _⟩ := hr; exact hb
  refine (leafS_ok h1 K v bs hr hK hL hl hf).mono ?_
  rintro e w' ⟨v', rfl, ok, t⟩
  have tk := (tk_of (frOk_inv h1.sl.inv) (1, lfC (lfD K (vaD bs)) K v' bs)).2
  exact ⟨v', rfl, Hw.turn h2 h3 t (h4.leaf tk (leaf_ok K v' bs hbs hl) ok rfl)⟩

theorem hw_leaf_full {w0 w : World} {g gs room : Nat} {cs : List (Nat × Ce)} {fr : List Nat} (h : Hw w0 w g gs room cs fr) (K : List Int) (v : Value) (bs : List Int) (hr : Reads w v bs) (hK : Key K) (hL : Laid w) (hl : bs.length ≤ 1024) (hf : Full room cs fr) : Calls Tryz.prog 97 #[.pointer (some ⟨g, 0, none⟩), .agg (B K), v] w fun e w' => e = .returned (.tuple #[.int .i64 0, .int .i64 9]) ∧ Hw w0 w' g gs room cs fr := by
  have hh := h
  obtain ⟨⟨vp, vf, h1, h2, h3⟩, h4⟩ := h
  exact (leafS_full h1 K v bs hr hK hL hl hf).mono fun e w' ⟨e1, b⟩ => ⟨e1, hh.grow b⟩

theorem hw_leaf_long {w0 w : World} {g gs room : Nat} {cs : List (Nat × Ce)} {fr : List Nat} (h : Hw w0 w g gs room cs fr) (K : List Int) (v : Value) (bs : List Int) (hr : Reads w v bs) (hK : Key K) (hl : 1024 < bs.length) (hm : bs.length ≤ 140737488355328) : Calls Tryz.prog 97 #[.pointer (some ⟨g, 0, none⟩), .agg (B K), v] w fun e w' => e = .returned (.tuple #[.int .i64 0, .int .i64 4]) ∧ Hw w0 w' g gs room cs fr := by
  have hh := h
  obtain ⟨⟨vp, vf, h1, h2, h3⟩, h4⟩ := h
  exact (leafS_long h1 K v bs hr hK hl hm).mono fun e w' ⟨e1, b⟩ => ⟨e1, hh.grow b⟩

/-! ### Sides that fit -/
theorem Wf.kinds {cs : List (Nat × Ce)} {pend : List Nat} (w : Wf cs pend) (i : Nat) (hi : 0 < cc cs i) : (ce cs i).kind = 1 ∨ (ce cs i).kind = 2 := by
  rcases w.tr i hi with h | h
  · exact .inl h.kind
  · exact .inr h.kind

theorem side_fit {cs : List (Nat × Ce)} {pend : List Nat} (w : Wf cs pend) {h d : Nat} {b : Int} (m : mayP cs (h : Int)) (hf : fsP (sdC cs h) d b = true) : SideOk cs d b h := by
  rcases m.side with e | ⟨h1, h2, h3⟩
  · exact .inl e
  · refine .inr ⟨h1, h2, ?_⟩
    unfold sdC at hf
    rw [if_neg (by omega)] at hf
    unfold fsP at hf
    rcases w.kinds _ h2 with k | k
    · rw [if_pos k] at hf
      exact ⟨by simpa using hf, .inl k⟩
    · rw [if_neg (by omega), if_pos k] at hf
      simp only [Bool.and_eq_true, decide_eq_true_eq] at hf
      exact ⟨hf.2, .inr ⟨k, hf.1⟩⟩

theorem kind0 {cs : List (Nat × Ce)} {pend : List Nat} (w : Wf cs pend) {h : Nat} (m : mayP cs (h : Int)) : (sdC cs h).kind = 0 ↔ h = 0 := by
  constructor
  · intro e
    rcases m.side with e2 | ⟨h1, h2, h3⟩
    · exact e2
    · unfold sdC at e
      rw [if_neg (by omega)] at e
      rcases w.kinds _ h2 with k | k <;> omega
  · rintro rfl
    rfl

theorem inn_ok {cs : List (Nat × Ce)} {pend : List Nat} (w : Wf cs pend) {d l r : Nat} {K : List Int} {u : Bool} (hd : d < 256) (ml : mayP cs (l : Int)) (mr : mayP cs (r : Int)) (hu : u = true ↔ Und (sdC cs l).key (sdC cs r).key (d : Int)) (hf : fitP d (sdC cs l) (sdC cs r) u = true) (hK : IsFill (if (sdC cs l).kind = 0 then (sdC cs r).key else (sdC cs l).key) d 0 K) : InnOk cs (inC (inD (sdD cs l) (sdD cs r)) K ((sdC cs l).sz + (sdC cs r).sz) d l r) := by
  unfold fitP at hf
  simp only [Bool.and_eq_true, Bool.or_eq_true, decide_eq_true_eq] at hf
  obtain ⟨h1, h2, h3, h4⟩ := hf
  refine ⟨rfl, hd, rfl, rfl, side_fit w ml h2, side_fit w mr h3, rfl, h1, fun hl hr => ?_, ?_, rfl⟩
  · rcases h4 with h4 | h4 | h4
    · exact absurd ((kind0 w ml).1 h4) hl
    · exact absurd ((kind0 w mr).1 h4) hr
    · exact hu.1 h4
  · by_cases e : l = 0
    · have := (kind0 w ml).2 e
      rw [if_pos this] at hK
      show IsFill (if l = 0 then _ else _) d 0 K
      rw [if_pos e]
      exact hK
    · have : ¬ (sdC cs l).kind = 0 := fun q => e ((kind0 w ml).1 q)
      rw [if_neg this] at hK
      show IsFill (if l = 0 then _ else _) d 0 K
      rw [if_neg e]
      exact hK

theorem mayP.own {cs : List (Nat × Ce)} {h : Nat} (m : mayP cs (h : Int)) (h0 : h ≠ 0) : 0 < Go.Proofs.YtlhnodinhmdjnaaGreatDoor.own cs [] (h - 1) := by
  rcases m.side with e | ⟨_, _, e⟩
  · exact absurd e h0
  · unfold Go.Proofs.YtlhnodinhmdjnaaGreatDoor.own
    rw [List.count_nil]
    omega

theorem hw_inner {w0 w : World} {g gs room : Nat} {cs : List (Nat × Ce)} {fr : List Nat} (h : Hw w0 w g gs room cs fr) (d l r : Nat) (hd : d < 256) (hml : mayP cs (l : Int)) (hmr : mayP cs (r : Int)) (u : Bool) (hu : u = true ↔ Und (sdC cs l).key (sdC cs r).key (d : Int)) (hf : fitP d (sdC cs l) (sdC cs r) u = true) (hL : Laid w) (hfu : ¬ Full room cs fr) : Calls Tryz.prog 99 #[.pointer (some ⟨g, 0, none⟩), .int .i64 (d : Int), .int .i64 (l : Int), .int .i64 (r : Int)] w fun e w' => ∃ K, IsFill (if (sdC cs l).kind = 0 then (sdC cs r).key else (sdC cs l).key) d 0 K ∧ e = .returned (.tuple #[.int .i64 (tkH cs fr : Int), .int .i64 0]) ∧ Hw w0 w' g gs room (upA (upA (tkC cs fr (1, inC (inD (sdD cs l) (sdD cs r)) K ((sdC cs l).sz + (sdC cs r).sz) d l r)) l) r) fr.dropLast := by
  obtain ⟨⟨vp, vf, h1, h2, h3⟩, h4⟩ := h
  refine (innerS_ok h1 h4 d l r hd hml hmr u hu hf hL hfu).mono ?_
  rintro e w' ⟨K, hK, rfl, t⟩
  have tk := (tk_of (frOk_inv h1.sl.inv) (1, inC (inD (sdD cs l) (sdD cs r)) K ((sdC cs l).sz + (sdC cs r).sz) d l r)).2
  exact ⟨K, hK, rfl, Hw.turn h2 h3 t (h4.inner tk (inn_ok h4 hd hml hmr hu hf hK) ⟨dig_length _, dig_bytes _, hK.1, none, 0, rfl⟩ rfl hml.own hmr.own)⟩

theorem hw_inner_full {w0 w : World} {g gs room : Nat} {cs : List (Nat × Ce)} {fr : List Nat} (h : Hw w0 w g gs room cs fr) (d l r : Nat) (hd : d < 256) (hml : mayP cs (l : Int)) (hmr : mayP cs (r : Int)) (u : Bool) (hu : u = true ↔ Und (sdC cs l).key (sdC cs r).key (d : Int)) (hf : fitP d (sdC cs l) (sdC cs r) u = true) (hL : Laid w) (hfu : Full room cs fr) : Calls Tryz.prog 99 #[.pointer (some ⟨g, 0, none⟩), .int .i64 (d : Int), .int .i64 (l : Int), .int .i64 (r : Int)] w fun e w' => e = .returned (.tuple #[.int .i64 0, .int .i64 9]) ∧ Hw w0 w' g gs room cs fr := by
  have hh := h
  obtain ⟨⟨vp, vf, h1, h2, h3⟩, h4⟩ := h
  exact (innerS_full h1 h4 d l r hd hml hmr u hu hf hL hfu).mono fun e w' ⟨e1, b⟩ => ⟨e1, hh.grow b⟩
theorem hw_inner_unfit {w0 w : World} {g gs room : Nat} {cs : List (Nat × Ce)} {fr : List Nat} (h : Hw w0 w g gs room cs fr) (d l r : Nat) (hd : d < 256) (hml : mayP cs (l : Int)) (hmr : mayP cs (r : Int)) (u : Bool) (hu : u = true ↔ Und (sdC cs l).key (sdC cs r).key (d : Int)) (hf : fitP d (sdC cs l) (sdC cs r) u = false) : Calls Tryz.prog 99 #[.pointer (some ⟨g, 0, none⟩), .int .i64 (d : Int), .int .i64 (l : Int), .int .i64 (r : Int)] w fun e w' => e = .returned (.tuple #[.int .i64 0, .int .i64 2]) ∧ Hw w0 w' g gs room cs fr := by
  have hh := h
  obtain ⟨⟨vp, vf, h1, h2, h3⟩, h4⟩ := h
  exact (innerS_unfit h1 h4 d l r hd hml hmr u hu hf).mono fun e w' ⟨e1, b⟩ => ⟨e1, hh.grow b⟩
theorem hw_inner_miss {w0 w : World} {g gs room : Nat} {cs : List (Nat × Ce)} {fr : List Nat} (h : Hw w0 w g gs room cs fr) (d : Nat) (l r : Int) (hd : d < 256) (hm : ¬ (mayP cs l ∧ mayP cs r)) : Calls Tryz.prog 99 #[.pointer (some ⟨g, 0, none⟩), .int .i64 (d : Int), .int .i64 l, .int .i64 r] w fun e w' => e = .returned (.tuple #[.int .i64 0, .int .i64 7]) ∧ Hw w0 w' g gs room cs fr := by
  have hh := h
  obtain ⟨⟨vp, vf, h1, h2, h3⟩, h4⟩ := h
  exact (innerS_miss h1 h4 d l r hd hm).mono fun e w' ⟨e1, b⟩ => ⟨e1, hh.grow b⟩
theorem hw_inner_arg {w0 w : World} {g gs room : Nat} {cs : List (Nat × Ce)} {fr : List Nat} (h : Hw w0 w g gs room cs fr) (d l r : Int) (hd : d < 0 ∨ 256 ≤ d) : Calls Tryz.prog 99 #[.pointer (some ⟨g, 0, none⟩), .int .i64 d, .int .i64 l, .int .i64 r] w fun e w' => e = .returned (.tuple #[.int .i64 0, .int .i64 2]) ∧ Hw w0 w' g gs room cs fr := by
  have hh := h
  obtain ⟨⟨vp, vf, h1, h2, h3⟩, h4⟩ := h
  exact (innerS_arg h1 d l r hd).mono fun e w' ⟨e1, b⟩ => ⟨e1, hh.grow b⟩

theorem hw_hold {w0 w : World} {g gs room : Nat} {cs : List (Nat × Ce)} {fr : List Nat} (h : Hw w0 w g gs room cs fr) (i : Nat) (hc : 0 < cc cs i) (hm : cc cs i < 1073741824) : Calls Tryz.prog 96 #[.pointer (some ⟨g, 0, none⟩), .int .i64 ((i : Int) + 1)] w fun e w' => e = .returned (.int .i64 0) ∧ Hw w0 w' g gs room (moreC cs i) fr := by
  obtain ⟨⟨vp, vf, h1, h2, h3⟩, h4⟩ := h
  refine (holdS_ok h1 i hc hm).mono ?_
  rintro e w' ⟨rfl, t⟩
  exact ⟨rfl, Hw.turn h2 h3 t (h4.more i hc)⟩
theorem hw_hold_bad {w0 w : World} {g gs room : Nat} {cs : List (Nat × Ce)} {fr : List Nat} (h : Hw w0 w g gs room cs fr) (q : Int) (hc : cot cs q = 0) : Calls Tryz.prog 96 #[.pointer (some ⟨g, 0, none⟩), .int .i64 q] w fun e w' => e = .returned (.int .i64 7) ∧ Hw w0 w' g gs room cs fr := by
  have hh := h
  obtain ⟨⟨vp, vf, h1, h2, h3⟩, h4⟩ := h
  exact (holdS_bad h1 q hc).mono fun e w' ⟨e1, b⟩ => ⟨e1, b ▸ hh⟩
theorem hw_hold_long {w0 w : World} {g gs room : Nat} {cs : List (Nat × Ce)} {fr : List Nat} (h : Hw w0 w g gs room cs fr) (i : Nat) (hc : cc cs i = 1073741824) : Calls Tryz.prog 96 #[.pointer (some ⟨g, 0, none⟩), .int .i64 ((i : Int) + 1)] w fun e w' => e = .returned (.int .i64 4) ∧ Hw w0 w' g gs room cs fr := by
  have hh := h
  obtain ⟨⟨vp, vf, h1, h2, h3⟩, h4⟩ := h
  exact (holdS_long h1 i hc).mono fun e w' ⟨e1, b⟩ => ⟨e1, b ▸ hh⟩

theorem hw_drop {w0 w : World} {g gs room : Nat} {cs : List (Nat × Ce)} {fr : List Nat} (h : Hw w0 w g gs room cs fr) (i : Nat) (ho : 0 < own cs [] i) : Calls Tryz.prog 32 #[.pointer (some ⟨g, 0, none⟩), .int .i64 ((i + 1 : Nat) : Int)] w fun e w' => ∃ cs' fr' n, Run cs fr [i + 1] cs' fr' n ∧ Step cs [i + 1] cs' [] n ∧ e = .returned (.tuple #[.int .i64 (n : Int), .int .i64 0]) ∧ Hw w0 w' g gs room cs' fr' := by
  obtain ⟨⟨vp, vf, h1, h2, h3⟩, h4⟩ := h
  refine (dropS_ok h1 h4 i ho).mono ?_
  rintro e w' ⟨cs', fr', n, hr, rfl, t⟩
  have st := hr.step (h4.less i ho)
  exact ⟨cs', fr', n, hr, st, rfl, Hw.turn h2 h3 t st.wf⟩
theorem hw_drop_miss {w0 w : World} {g gs room : Nat} {cs : List (Nat × Ce)} {fr : List Nat} (h : Hw w0 w g gs room cs fr) (q : Int) (hm : cot cs q ≤ (cat cs q).ab) : Calls Tryz.prog 32 #[.pointer (some ⟨g, 0, none⟩), .int .i64 q] w fun e w' => e = .returned (.tuple #[.int .i64 0, .int .i64 7]) ∧ Hw w0 w' g gs room cs fr := by
  have hh := h
  obtain ⟨⟨vp, vf, h1, h2, h3⟩, h4⟩ := h
  exact (dropS_miss h1 h4 q hm).mono fun e w' ⟨e1, b⟩ => ⟨e1, hh.grow b⟩

end Go.Proofs.YtlhnodinhmdjnaaGreatDoor

/- The way of a key down a store's tree: its handles, its end, its other sides; that these are the way among the tree's entries, in whatever order. No program in this text. -/
namespace Go.Proofs.YtlhnodinhmdjnaaGreatDoor
set_option maxRecDepth 20000
open Go.RowKit

/-- The inner nodes of a key's way. -/
def Tre.hs (K : List Int) : Nat → Tre → List Nat
  | _, .emp => []
  | _, .lf _ _ => []
  | h, .nd d hl hr l r => h :: (if kb K d = 1 then r.hs K hr else l.hs K hl)
/-- With what it ends. -/
def Tre.fin (K : List Int) : Nat → Tre → Nat
  | h, .emp => h
  | h, .lf _ _ => h
  | _, .nd d hl hr l r => if kb K d = 1 then r.fin K hr else l.fin K hl
/-- The other sides. -/
def Tre.oth (K : List Int) : Tre → List Nat
  | .emp => []
  | .lf _ _ => []
  | .nd d hl hr l r => if kb K d = 1 then hl :: r.oth K else hr :: l.oth K
/-- The entry with which it ends. -/
def Tre.efin (K : List Int) : Tre → List Ent
  | .emp => []
  | .lf k b => [(k, b)]
  | .nd d _ _ l r => if kb K d = 1 then r.efin K else l.efin K

theorem Tre.hs_oth (K : List Int) : ∀ (T : Tre) (h : Nat), (T.hs K h).length = (T.oth K).length
  | .emp, _ => rfl
  | .lf _ _, _ => rfl
  | .nd d hl hr l r, h => by
    have h1 := Tre.hs_oth K l hl
    have h2 := Tre.hs_oth K r hr
    simp only [Tre.hs, Tre.oth]
    split <;> simp [h1, h2]

structure NdOk (cs : List (Nat × Ce)) (d hl hr : Nat) (L R : Tre) : Prop where
  dp : d < 256
  bL : ∀ e ∈ L.ents, kb e.1 d = 0
  bR : ∀ e ∈ R.ents, kb e.1 d = 1
  two : 2 ≤ (L.ents ++ R.ents).length
  kl : (sdC cs hl).kind = 2 → (sdC cs hl).dp = d + 1
  kr : (sdC cs hr).kind = 2 → (sdC cs hr).dp = d + 1

theorem nd_ok {cs : List (Nat × Ce)} {pend : List Nat} (w : Wf cs pend) {d hl hr h : Nat} {L R : Tre} (hT : IsT cs h (.nd d hl hr L R)) : NdOk cs d hl hr L R := by
  obtain ⟨h1, h2, h3, h4, h5, h6, h7, h8⟩ := hT
  obtain ⟨i, rfl⟩ : ∃ i, h = i + 1 := ⟨h - 1, by omega⟩
  rw [Nat.add_sub_cancel] at h2 h3 h4 h5 h6
  have okL := tree_ok w L hl h7
  have okR := tree_ok w R hr h8
  rcases w.tr i h2 with hn | hn
  · have := hn.kind; omega
  have hdp := hn.dp
  have sl := hn.sl
  have sr := hn.sr
  have hsz := hn.sz
  have htwo := hn.two
  rw [h4] at hdp sl sr
  rw [h5] at sl hsz
  rw [h6] at sr hsz
  have side : ∀ (q : Nat) (b : Int) (U : Tre), TreeOk cs q U → SideOk cs d b q → (∀ e ∈ U.ents, kb e.1 d = b) ∧ ((sdC cs q).kind = 2 → (sdC cs q).dp = d + 1) := fun q b U ok s => by
    rcases s with rfl | ⟨q1, q2, q3, q4⟩
    · refine ⟨fun e he => ?_, fun k => absurd k (by show ¬ zc.kind = 2; decide)⟩
      have := ok.sz
      rw [show (sdC cs 0).sz = 0 from rfl] at this
      rw [List.eq_nil_of_length_eq_zero this.symm] at he
      cases he
    · have es : sdC cs q = ce cs (q - 1) := if_neg (by omega)
      refine ⟨fun e he => ?_, fun k => ?_⟩
      · rw [ok.share (d + 1) (by omega) (fun k => by rcases q4 with q4 | ⟨_, q4⟩ <;> omega) e he d (by omega), es]
        exact q3
      · rw [es] at k ⊢
        rcases q4 with q4 | ⟨_, q4⟩
        · omega
        · exact q4
  obtain ⟨a1, a2⟩ := side hl 0 L okL sl
  obtain ⟨b1, b2⟩ := side hr 1 R okR sr
  exact ⟨hdp, a1, b1, by rw [List.length_append, ← okL.sz, ← okR.sz, ← hsz]; exact htwo, a2, b2⟩

theorem NdOk.side0 {cs : List (Nat × Ce)} {d hl hr : Nat} {L R : Tre} (n : NdOk cs d hl hr L R) : sideOf (L.ents ++ R.ents) d 0 = L.ents := by
  rw [sideOf_app, sideOf_all L.ents d 0 (fun e he => by rw [kbi_in _ _ n.dp]; exact n.bL e he), sideOf_none R.ents d 0 1 (fun e he => by rw [kbi_in _ _ n.dp]; exact n.bR e he) (by omega), List.append_nil]
theorem NdOk.side1 {cs : List (Nat × Ce)} {d hl hr : Nat} {L R : Tre} (n : NdOk cs d hl hr L R) : sideOf (L.ents ++ R.ents) d 1 = R.ents := by
  rw [sideOf_app, sideOf_none L.ents d 1 0 (fun e he => by rw [kbi_in _ _ n.dp]; exact n.bL e he) (by omega), sideOf_all R.ents d 1 (fun e he => by rw [kbi_in _ _ n.dp]; exact n.bR e he), List.nil_append]

theorem sds_few (n d : Nat) (l : List Ent) (K : List Int) (h : l.length ≤ 1) : sds n d l K = [] ∧ rst n d l K = l := by
  cases n with
  | zero => exact ⟨rfl, rfl⟩
  | succ n => exact ⟨by rw [sds, if_pos h], by rw [rst, if_pos h]⟩

/-- A key's way in the tree is its way among the tree's entries. -/
theorem way_tree {cs : List (Nat × Ce)} {pend : List Nat} (w : Wf cs pend) (K : List Int) : ∀ (T : Tre) (h d : Nat), IsT cs h T → ((sdC cs h).kind = 2 → (sdC cs h).dp = d) → d ≤ 256 → (T.oth K).map (sdD cs) = sds (256 - d) d T.ents K ∧ T.efin K = rst (256 - d) d T.ents K ∧ (T.oth K).length ≤ 256 - d
  | .emp, h, d, _, _, _ => by
    obtain ⟨e1, e2⟩ := sds_few (256 - d) d Tre.emp.ents K (by simp [Tre.ents])
    rw [e1, e2]
    exact ⟨rfl, rfl, Nat.zero_le _⟩
  | .lf k b, h, d, _, _, _ => by
    obtain ⟨e1, e2⟩ := sds_few (256 - d) d (Tre.lf k b).ents K (by simp [Tre.ents])
    rw [e1, e2]
    exact ⟨rfl, rfl, Nat.zero_le _⟩
  | .nd d hl hr L R, h, d', hT, hd, _ => by
    have n := nd_ok w hT
    obtain ⟨h1, h2, h3, h4, h5, h6, h7, h8⟩ := hT
    have es : sdC cs h = ce cs (h - 1) := if_neg (by omega)
    obtain rfl : d = d' := by
      rw [es] at hd
      rw [← h4]
      exact hd h3
    have okL := tree_ok w L hl h7
    have okR := tree_ok w R hr h8
    have hdp := n.dp
    obtain ⟨l1, l2, l3⟩ := way_tree w K L hl (d + 1) h7 n.kl (by omega)
    obtain ⟨r1, r2, r3⟩ := way_tree w K R hr (d + 1) h8 n.kr (by omega)
    have dl := okL.dig (d + 1) n.kl
    have dr := okR.dig (d + 1) n.kr
    obtain ⟨m, hm⟩ : ∃ m, 256 - d = m + 1 := ⟨255 - d, by omega⟩
    have hm2 : 256 - (d + 1) = m := by omega
    rw [hm2] at l1 l2 l3 r1 r2 r3 dl dr
    have htwo := n.two
    rw [hm]
    show (Tre.oth K (.nd d hl hr L R)).map (sdD cs) = sds (m + 1) d (L.ents ++ R.ents) K ∧ Tre.efin K (.nd d hl hr L R) = rst (m + 1) d (L.ents ++ R.ents) K ∧ (Tre.oth K (.nd d hl hr L R)).length ≤ m + 1
    rw [sds, rst, if_neg (by omega), if_neg (by omega)]
    rcases kb_two K d with q | q
    · rw [q, show (1 : Int) - 0 = 1 from rfl, n.side0, n.side1]
      simp only [Tre.oth, Tre.efin, q]
      refine ⟨?_, l2, ?_⟩
      · simp only [show ¬ ((0 : Int) = 1) by omega, if_false, List.map_cons]
        rw [l1, dr]
      · simp only [show ¬ ((0 : Int) = 1) by omega, if_false, List.length_cons]
        omega
    · rw [q, show (1 : Int) - 1 = 0 from rfl, n.side0, n.side1]
      simp only [Tre.oth, Tre.efin, q]
      refine ⟨?_, r2, ?_⟩
      · simp only [if_true, List.map_cons]
        rw [r1, dl]
      · simp only [if_true, List.length_cons]
        omega

/-- Ways hang on no order. -/
theorem way_perm (K : List Int) : ∀ (n d : Nat) (l m : List Ent), l.Perm m → sds n d l K = sds n d m K ∧ (rst n d l K).Perm (rst n d m K)
  | 0, _, _, _, h => ⟨rfl, h⟩
  | n + 1, d, l, m, h => by
    have hl := h.length_eq
    have hs : ∀ c, (sideOf l d c).Perm (sideOf m d c) := fun c => h.filter _
    obtain ⟨i1, i2⟩ := way_perm K n (d + 1) _ _ (hs (kb K d))
    rw [sds, sds, rst, rst]
    by_cases q : l.length ≤ 1
    · rw [if_pos q, if_pos q, if_pos (by omega), if_pos (by omega)]
      exact ⟨rfl, h⟩
    · rw [if_neg q, if_neg q, if_neg (by omega), if_neg (by omega), i1, rt_perm n (d + 1) _ _ (hs _)]
      exact ⟨rfl, i2⟩

/-- What the way ends with. -/
theorem fin_is {cs : List (Nat × Ce)} (K : List Int) : ∀ (T : Tre) (h : Nat), IsT cs h T → (T.fin K h = 0 ∧ T.efin K = []) ∨ ∃ k b, T.efin K = [(k, b)] ∧ 1 ≤ T.fin K h ∧ 0 < cc cs (T.fin K h - 1) ∧ (ce cs (T.fin K h - 1)).kind = 1 ∧ (ce cs (T.fin K h - 1)).key = k ∧ (ce cs (T.fin K h - 1)).bs = b
  | .emp, h, e => .inl ⟨e, rfl⟩
  | .lf k b, h, ⟨h1, h2, h3, h4, h5⟩ => .inr ⟨k, b, rfl, h1, h2, h3, h4, h5⟩
  | .nd d hl hr L R, h, ⟨_, _, _, _, _, _, h7, h8⟩ => by
    have a := fin_is K L hl h7
    have b := fin_is K R hr h8
    simp only [Tre.fin, Tre.efin]
    by_cases q : kb K d = 1
    · simp only [q, if_true]
      exact b
    · simp only [q, if_false]
      exact a

/-- An entry with that key is the one with which the way ends. -/
theorem efin_key {cs : List (Nat × Ce)} {pend : List Nat} (w : Wf cs pend) (K : List Int) : ∀ (T : Tre) (h : Nat), IsT cs h T → ∀ e ∈ T.ents, e.1 = K → T.efin K = [e]
  | .emp, _, _, e, he, _ => by cases he
  | .lf k b, _, _, e, he, _ => by
    obtain rfl : e = (k, b) := by simpa [Tre.ents] using he
    rfl
  | .nd d hl hr L R, h, hT, e, he, hK => by
    have n := nd_ok w hT
    obtain ⟨_, _, _, _, _, _, h7, h8⟩ := hT
    simp only [Tre.efin]
    rcases List.mem_append.1 he with he | he
    · have := n.bL e he
      rw [hK] at this
      rw [if_neg (by omega)]
      exact efin_key w K L hl h7 e he hK
    · have := n.bR e he
      rw [hK] at this
      rw [if_pos this]
      exact efin_key w K R hr h8 e he hK
theorem efin_mem (K : List Int) : ∀ (T : Tre), ∀ e ∈ T.efin K, e ∈ T.ents
  | .emp, e, he => by cases he
  | .lf k b, e, he => he
  | .nd d hl hr L R, e, he => by
    simp only [Tre.efin] at he
    split at he
    · exact List.mem_append_right _ (efin_mem K R e he)
    · exact List.mem_append_left _ (efin_mem K L e he)

end Go.Proofs.YtlhnodinhmdjnaaGreatDoor
