/- WalkWays' walk: a key's way in the store is its way among the entries, leads up to the root, and changes nothing. -/
import Derived.Test.YtdpaanidangnlaaGreatDoorWw33
import Derived.Test.YtdpaanidangnlaaGreatDoorWw41
import Derived.Deep.CutRange
import Derived.Test.YtdpaanidangnlaaGreatDoorRows
import Derived.ProofKit
import Derived.OpenShut
import Derived.ShutString
import Derived.ChangeOld
import Derived.Below
import Derived.SizedLaws
import Derived.Test.YtdpaanidangnlaaGreatDoorWw02
namespace Go.Proofs.YtdpaanidangnlaaGreatDoor
set_option maxRecDepth 20000
open Go.RowKit

theorem stB_newW {g gs b : Nat} (hg : b ≤ g) (hgs : b ≤ gs) : ∀ k ∈ stB g gs (.slice none 0 0) (.slice none 0 0) [], b ≤ k := fun k hk => by
  rcases stB_mem.1 hk with rfl | hk | ⟨i, hk⟩
  · exact hg
  · rcases slB_mem.1 hk with rfl | hk | hk
    · exact hgs
    · cases hk
    · cases hk
  · simp only [ce, List.getElem?_nil, Option.getD_none] at hk
    cases hk

theorem build_newW {w2 w4 : World} {g gs : Nat} {v : Value} {V : Nat → Value} {es : List Ent} (hg : w2.heap.size ≤ g) (hgs : w2.heap.size ≤ gs) (st : Stm w4 g gs (.slice none 0 0) (.slice none 0 0) 8192 [] []) (b4 : Below w2.heap.size w2 w4) (hL : Laid w2) (prs : ∀ w', Below w2.heap.size w2 w' → PrAt w' v V es) (h12 : es.length ≤ 12) (ha : Apart1 es) (hl : ∀ e ∈ es, e.2.length ≤ 1024) : Calls Tryz.prog 10 #[.pointer (some ⟨g, 0, none⟩), v, .int .i64 0] w4 fun e w5 => ∃ (h : Nat) (cs : List (Nat × Ce)) (vp vf : Value), e = .returned (.tuple #[.int .i64 (h : Int), .bool true]) ∧ Bd [] es 0 h cs ∧ Stm w5 g gs vp vf 8192 cs [] ∧ Below w2.heap.size w2 w5 := by
  have hS := stB_newW hg hgs
  refine (build_all 256 0 rfl w4 g gs _ _ 8192 [] v V es ⟨st, Wf.new, Kq.of_low (fun w' b => hL.grow b) b4 hS, Kq.of_low prs b4 hS, h12, ha, hl, fun x _ y _ j hj => by omega, by simp; omega⟩).mono ?_
  rintro e w5 ⟨h, cs, rfl, bd, vp, vf, s5, m5, _⟩
  exact ⟨h, cs, vp, vf, rfl, bd, s5, b4.trans (m5.below hS b4.size)⟩

theorem hsh_ln (D : List Int) (h : D.length = 32) : (Tryz.prog.info? 43).map (·.size) = some (B D).toList.length := by rw [B_toList, List.length_map, h]; exact size_hash

/-- A guarded load of a whole array. -/
theorem wpList_ldgW {ops : Array Oper} {rest : List Oper} {op : Oper} {a : Act} {Q : Exit → Act → World → Prop} (w : World) (hgd : Region.wanted op (yielded ops a.tmps) = true) (ty : TypeId) (x : Operand) (ho : op.op = .load ty x)
    (b o : Nat) (hx : a.eval x = .pointer (some ⟨b, o, none⟩)) (cs : Array Value) (d : TypeDesc) (hc : w.rangeAt b o cs.toList) (hu : Tryz.prog.underlying ty = some d) (hd : d.isRow = true) (hi : (Tryz.prog.info? ty).map (·.size) = some cs.toList.length)
    (h : wpList Tryz.prog ops Q rest (a.put op.dst (.agg cs)) w) : wpList Tryz.prog ops Q (op :: rest) a w :=
  BigFrame.wpList_want hgd fun _ hK => wp_load_mid ty x ho b o hx cs.toList d hc hu hd hi (hK _ _ (by simpa using h))

set_option maxRecDepth 100000 in
set_option maxHeartbeats 16000000 in
theorem walkWays_walk (v : Value) (V : Nat → Value) (es0 : List Ent) (K : List Int) (w : World) (hv : PrAt w v V es0) (hn : es0.length ≤ 140737488355328) (hK : Key K) (hL : Laid w) : Calls Tryz.prog 4 #[v, .agg (B K)] w fun e w' => e = .returned (.bool true) ∧ Below w.heap.size w w' := by
  have HFW : Hid (∀ w', Below w.heap.size w w' → Calls Tryz.prog 9 #[v] w' (FwPost w')) := fun w' hb => few8_any v V es0 w' (hv.grow hb) hn
  have HK := hidden hK
  have HLa := hidden hL
  have HPS : Hid ((Tryz.prog.info? 31).map (·.size) = some (B K).size) := by show _ = _; rw [B_size, hK.1]; exact size_path
  have HPL := hidden (pth_ln K hK.1)
  obtain ⟨va, vn, vc, rfl⟩ : ∃ a n c, v = .slice a n c := by obtain ⟨a, c, e, _⟩ := hv; exact ⟨a, _, c, e⟩
  clear hv hn hK hL
  go_enter Tryz.func4, Tryz.ntmps4
  go_upto_region 6 with (first
    | ((with_reducible refine at_bxd 3 ?_); refine wpList_bx _ rfl _ _ rfl _ rfl ?_; intro w1 b4 hg4 hl4 B4 q4; have HB4' := hidden B4; have HQ4 := hidden q4; clear hg4 hl4 B4 q4)
    | (go_at_call 9; refine (HFW.out _ HQ4.out).mono ?_; rintro e w2 ⟨its, la, lc, rfl, fo, fv, f12, fa, fb⟩; have HPR : Hid (∀ w', Below w2.heap.size w2 w' → PrAt w' (.slice la its.length lc) (fun i => (its.getD i (e00, undef)).2) (its.map (·.1))) := (fun w' hb => (prAt_own fo (fun p hp => (fv p hp).1) (fun p hp => (fv p hp).2.1.grow fb)).grow hb); have HFV := hidden fv; have HF12 := hidden f12; have HFA := hidden fa; have HFB := hidden fb; clear fo fv f12 fa fb)
    | (go_at_call 5; refine (newS_ok 8192 _ (by omega) (by omega)).mono ?_; rintro e w3 ⟨g, gs, rfl, hg, hgs, st3, b3⟩; have HG := hidden hg; have HGS := hidden hgs; have HST3 := hidden st3; have HB3 := hidden b3; clear hg hgs st3 b3)
    | (go_at_call 10; refine (build_newW (es := its.map (·.1)) HG.out HGS.out HST3.out HB3.out (HLa.out.grow (grow_trans HQ4.out HFB.out)) HPR.out (by rw [List.length_map]; exact HF12.out) HFA.out (fun e he => by obtain ⟨p, hp, rfl⟩ := List.mem_map.1 he; exact (HFV.out p hp).2.2)).mono ?_; rintro e x5 ⟨h, cs, vp, vf, rfl, bd, s5, b5⟩; have HBD := hidden bd; have HS5 := hidden s5; have HB5 := hidden b5; clear bd s5 b5))
  have h12 : (its.map (·.1)).length ≤ 12 := by rw [List.length_map]; exact HF12.out
  have hap := HFA.out
  have hvl : ∀ e ∈ its.map (·.1), e.2.length ≤ 1024 := fun e he => by obtain ⟨p, hp, rfl⟩ := List.mem_map.1 he; exact (HFV.out p hp).2.2
  obtain ⟨es, hes⟩ : ∃ es, es = its.map (·.1) := ⟨_, rfl⟩
  obtain ⟨n, hnn⟩ : ∃ n, n = its.length := ⟨_, rfl⟩
  have hne : n = es.length := by rw [hes, List.length_map, hnn]
  generalize (fun i => (its.getD i (e00, undef)).2) = VV at HPR
  rw [← hes] at HPR h12 hap hvl HBD
  rw [← hnn] at HPR
  rw [← hnn]
  have HV := hidden (vw_ok HS5.out HBD.out.wf)
  have HWf := hidden HBD.out.wf
  have he := bd_root HBD.out
  have hdp := HBD.out.dp
  obtain ⟨T, hT, hp⟩ := HBD.out.tree
  obtain ⟨kd, na, nb, hEq⟩ := wk_eq HBD.out.wf hT hp hdp h12 hap hvl K
  have hE0 := errB_few h12 hap hvl
  have htok := tree_ok HBD.out.wf T h hT
  have hkeys : ∀ e ∈ es, Key e.1 := fun e he => (htok.ent e (hp.mem_iff.2 he)).1
  obtain ⟨uk, ua, ub, uc, ud, hN, hnd, hup, hupe, _⟩ := order_up (key := K) hE0 (by omega) hkeys
  have hdig : sdD cs h = rt 256 0 es := by
    rw [htok.dig 0 hdp]
    exact rt_perm 256 0 _ _ hp
  have HLx : Hid (∀ w', Below x5.heap.size x5 w' → Laid w') := fun w' hb => HLa.out.grow (grow_trans (grow_trans (grow_trans HQ4.out HFB.out) HB5.out) hb)
  have HB4 : Hid (∀ w', Below x5.heap.size x5 w' → Blk w' b4 31 (B K)) := fun w' hb => HB4'.out.grow (grow_trans (grow_trans HFB.out HB5.out) hb)
  have H05 : Hid (Below w.heap.size w x5) := grow_trans (grow_trans HQ4.out HFB.out) HB5.out
  have HFD : Hid (∀ w', Below x5.heap.size x5 w' → Calls Tryz.prog 18 #[.pointer (some ⟨g, 0, none⟩), .int .i64 (h : Int), .agg (B K)] w' (FdPost (rfnd es K) w')) := fun w' hb => by
    have := find_any (HV.out.grow hb) HWf.out h T hT K HK.out he
    rwa [hEq.fnd] at this
  have HWY : Hid (∀ w', Below x5.heap.size x5 w' → Calls Tryz.prog 13 #[.pointer (some ⟨g, 0, none⟩), .int .i64 (h : Int), .agg (B K)] w' (WkPost (wyH es K) (nd uk ua ub uc ud) w')) := fun w' hb => by
    have := wway_any (HV.out.grow hb) HWf.out h T hT K HK.out he (HLx.out _ hb)
    rwa [hEq.sides, hEq.fin, hN] at this
  have HNW : Hid (∀ w', Below x5.heap.size x5 w' → Calls Tryz.prog 14 #[.slice la n lc, .agg (B K)] w' (WkPost (wyH es K) (nd uk ua ub uc ud) w')) := fun w' hb => by
    have := way_any _ _ es K w' (HPR.out _ (grow_trans HB5.out hb)) (by omega) HK.out (HLx.out _ hb)
    refine this.mono ?_
    rintro e w'' ⟨sa, sc, e1, e2, e3⟩
    rw [hE0, hN] at e1
    exact ⟨sa, sc, e1, e2, e3⟩
  obtain ⟨D, hD⟩ : ∃ D, D = rt 256 0 es := ⟨_, rfl⟩
  have hDl : D.length = 32 := by rw [hD]; exact (rt_len _ _ _).1
  rw [← hD] at hup hdig
  have HUp : Hid (∀ w' s, Below x5.heap.size x5 w' → HsAt w' s (wyH es K) → Calls Tryz.prog 15 #[.agg (B K), .agg (encR s (nd uk ua ub uc ud)).toArray] w' fun e w'' => e = .returned (.tuple #[.agg (B D), .int .i64 0]) ∧ Below w'.heap.size w' w'') := fun w' s hb hs => by
    have := up_any K s _ uk ua ub uc ud w' HK.out hs hnd (HLx.out _ hb)
    unfold UpPost at this
    rwa [hup, hupe] at this
  have HRt : Hid (∀ w', Below x5.heap.size x5 w' → Calls Tryz.prog 16 #[.slice la n lc] w' fun e w'' => e = .returned (.tuple #[.agg (B D), .int .i64 0]) ∧ Below w'.heap.size w' w'') := fun w' hb => by
    refine (Root_any _ _ es w' (HPR.out _ (grow_trans HB5.out hb)) (by omega) (HLx.out _ hb)).mono ?_
    rintro e w'' ⟨h', E', e1, e2, e3⟩
    obtain ⟨q1, q2⟩ := rootIs_zero e2
    rw [q1, q2, hE0, rtH, if_pos hE0, ← hD] at e1
    exact ⟨e1, e3⟩
  have HSX : Hid (∀ w' xv yv, HsAt w' xv (wyH es K) → HsAt w' yv (wyH es K) → Calls Tryz.prog 17 #[.agg (encR xv (nd uk ua ub uc ud)).toArray, .agg (encR yv (nd uk ua ub uc ud)).toArray] w' fun e w'' => e = .returned (.bool true) ∧ Below w'.heap.size w' w'') := fun w' xv yv hx hy => by
    have := sameProof_any xv yv _ _ uk uk ua ub uc ud ua ub uc ud w' hx hy (by have := hEq.few; rw [← hEq.len]; omega) hnd hnd
    simpa using this
  have HDGS : Hid (Dgs (wyH es K)) := by rw [← hEq.sides]; exact dgs_take HWf.out _
  have HDG : Hid (∀ w', Below x5.heap.size x5 w' → Calls Tryz.prog 12 #[.pointer (some ⟨g, 0, none⟩), .int .i64 (h : Int)] w' fun e w'' => e = .returned (.agg (B D)) ∧ Below w'.heap.size w' w'') := fun w' hb => by
    have := sdig_any (HV.out.grow hb) (h : Int) (HLx.out _ hb)
    rwa [vDg_nat, hdig] at this
  obtain ⟨oc, hoc⟩ : ∃ oc : Int, oc = (noc cs : Int) := ⟨_, rfl⟩
  have HOC : Hid (∀ w', Below x5.heap.size x5 w' → Calls Tryz.prog 11 #[.pointer (some ⟨g, 0, none⟩)] w' fun e w'' => e = .returned (.int .i64 oc) ∧ Below w'.heap.size w' w'') := fun w' hb => by rw [hoc]; exact occS_ok (HS5.out.grow hb)
  have hhit : ∀ k, k < es.length → (es.getD k e00).1 = K → rfnd es K = ((es.getD k e00).2, true) := fun k hk e => rfnd_hit es K k hk (fun j hj hjk => by
    have hj' : j < es.length := by omega
    have := List.pairwise_iff_getElem.1 hap j k hj' hk hj
    apply this
    have e1 : es[j].1 = K := by simpa [List.getD, hj'] using hjk
    have e2 : es[k].1 = K := by simpa [List.getD, hk] using e
    rw [e1, e2]) e
  have hE := hash_eq D D hDl hDl
  simp only [decide_true] at hE
  have HDL := hidden (hsh_ln D hDl)
  have HDS : Hid ((Tryz.prog.info? 43).map (·.size) = some (B D).size ∧ (B (List.replicate 32 0)).size = (B D).size) := ⟨by rw [B_size, hDl]; exact size_hash, by rw [B_size, B_size, hDl]; rfl⟩
  obtain ⟨hh, hhe⟩ : ∃ hh : Int, hh = (h : Int) := ⟨_, rfl⟩
  rw [← hhe] at HFD HWY HDG
  rw [← hhe]
  obtain ⟨N, hNN⟩ : ∃ N, N = nd uk ua ub uc ud := ⟨_, rfl⟩
  have HNL : Hid (N.length = 129) := by rw [hNN]; exact hnd.length
  rw [← hNN] at HWY HNW HUp HSX
  obtain ⟨r, hr⟩ : ∃ r, r = rfnd es K := ⟨_, rfl⟩
  rw [← hr] at HFD hhit
  obtain ⟨fz, is⟩ := r
  have HHT := hidden hhit
  have HN := hidden hne
  have HN12 : Hid (n ≤ 12) := by rw [hne]; exact h12
  have HPX : Hid (∀ w', Below x5.heap.size x5 w' → PrAt w' (.slice la n lc) VV es) := fun w' hb => HPR.out _ (grow_trans HB5.out hb)
  generalize wyH es K = ds at HWY HNW HUp HSX HDGS
  obtain ⟨m, hm⟩ : ∃ m, m = ds.length := ⟨_, rfl⟩
  have HWY2 : Hid (∀ w', Below x5.heap.size x5 w' → Calls Tryz.prog 13 #[.pointer (some ⟨g, 0, none⟩), .int .i64 hh, .agg (B K)] w' fun e w'' => ∃ a c, e = .returned (.tuple #[.agg (encR (.slice a m c) N).toArray, .int .i64 0]) ∧ HsAt w'' (.slice a m c) ds ∧ Below w'.heap.size w' w'') := fun w' hb => (HWY.out w' hb).mono fun e w'' ⟨a, c, e1, e2, e3⟩ => by
    rw [hm]
    exact ⟨a, c, e1, hsAt_own e2 HDGS.out, e3⟩
  have HNW2 : Hid (∀ w', Below x5.heap.size x5 w' → Calls Tryz.prog 14 #[.slice la n lc, .agg (B K)] w' fun e w'' => ∃ a c, e = .returned (.tuple #[.agg (encR (.slice a m c) N).toArray, .int .i64 0]) ∧ HsAt w'' (.slice a m c) ds ∧ Below w'.heap.size w' w'') := fun w' hb => (HNW.out w' hb).mono fun e w'' ⟨a, c, e1, e2, e3⟩ => by
    rw [hm]
    exact ⟨a, c, e1, hsAt_own e2 HDGS.out, e3⟩
  have HFD2 : Hid (∀ w', Below x5.heap.size x5 w' → Calls Tryz.prog 18 #[.pointer (some ⟨g, 0, none⟩), .int .i64 hh, .agg (B K)] w' fun e w'' => ∃ v' sp, e = .returned (.tuple #[v', .bool is, .int .i64 0]) ∧ Own w'.heap.size w'' v' fz sp ∧ Below w'.heap.size w' w'') := fun w' hb => (HFD.out w' hb).mono fun e w'' ⟨v', sp, e1, e2, e3⟩ => ⟨v', sp, e1, e2, e3⟩
  obtain ⟨fp, hfp⟩ := u_proof
  have HUP := hidden hfp
  obtain ⟨Z, hZ⟩ : ∃ Z : List Int, Z = List.replicate 129 0 := ⟨_, rfl⟩
  have HZP : Hid (∀ w, (zeroValue 50).run Tryz.prog w = .ok (.agg (encR (.slice none 0 0) Z).toArray) w) := by rw [hZ]; exact zero_proof
  have HSz : Hid (∀ s, (Tryz.prog.info? 50).map (·.size) = some (encR s N).toArray.size ∧ (encR (.slice none 0 0) Z).toArray.size = (encR s N).toArray.size) := fun s => ⟨encR_sz _ N HNL.out, by simp [encR, HNL.out, hZ]⟩
  clear HFD HWY HNW hT hp hdp he hEq hE0 hr hN hNN hfp hZ hm hhe h12 hap hvl hnn hes hne HFV HF12 HFA HFB HG HGS HST3 HB3 HFW HBD HS5 HB5 HQ4 HB4' HPR HDGS htok hkeys hnd hup hupe hdig hD hDl hoc hhit HWf
  go_wp2_with (first
    | (go_at_call 11; refine (HOC.out _ (Below.refl _ _)).mono ?_; rintro e y1 ⟨rfl, q1⟩; have Q1 := hidden q1; clear q1)
    | (go_at_call 12; refine (HDG.out _ Q1.out).mono ?_; rintro e y2 ⟨rfl, q2⟩; have Q2 := hidden (grow_trans Q1.out q2); clear q2)
    | ((with_reducible refine at_ald 10 ?_); refine wpList_al _ rfl _ rfl _ zero_hash ?_; intro y3 g10 hg10 hl10 B10 q3; have HB10 := hidden B10; have HGG10 := hidden hg10; have B23 := hidden q3; clear B10 hg10 hl10 q3)
    | ((with_reducible refine at_st 10 ?_); refine wpList_sto _ rfl _ _ _ rfl g10 _ (B D) rfl rfl HB10.out HDS.out.1 HDS.out.2 (B_one _) ?_; intro y4 B4 r4; have HD10 := hidden B4; have Q4 := hidden (grow_trans Q2.out (below_row B23.out r4 HGG10.out)); clear B4 r4)
    | ((with_reducible refine at_ldd 54 3 ?_); refine wpList_ld _ rfl _ _ rfl b4 _ rfl (HB4.out _ Q4.out) _ _ Tryz.underlying31 HPS.out ?_)
    | (go_at_call 13; refine (HWY2.out _ Q4.out).mono ?_; rintro e y5 ⟨pa, pc, rfl, r5, q5⟩; have R5 := hidden r5; have B45 := hidden q5; have Q5 := hidden (grow_trans Q4.out q5); clear r5 q5)
    | ((with_reducible refine at_ald 11 ?_); refine wpList_al _ rfl _ rfl _ HZP.out ?_; intro y6 g11 hg11 hl11 B11 q6; have HB11 := hidden B11; have HG11 := hidden hg11; have B56 := hidden q6; clear B11 hg11 hl11 q6)
    | ((with_reducible refine at_st 11 ?_); refine wpList_sto _ rfl _ _ _ rfl g11 _ (encR (.slice pa m pc) N).toArray rfl rfl HB11.out (HSz.out _).1 (HSz.out _).2 (encR_one _ _ _ _) ?_; intro y7 B7 r7; have HP11 := hidden B7; have B57 := hidden (below_row B56.out r7 HG11.out); have Q7 := hidden (grow_trans Q5.out (below_row B56.out r7 HG11.out)); clear B7 r7)
    | ((with_reducible refine at_ldd 60 3 ?_); refine wpList_ld _ rfl _ _ rfl b4 _ rfl (HB4.out _ Q7.out) _ _ Tryz.underlying31 HPS.out ?_)
    | (go_at_call 14; refine (HNW2.out _ Q7.out).mono ?_; rintro e y8 ⟨qa, qc, rfl, r8, q8⟩; have R8 := hidden r8; have B78 := hidden q8; have Q8 := hidden (grow_trans Q7.out q8); clear r8 q8)
    | ((with_reducible refine at_ald 13 ?_); refine wpList_al _ rfl _ rfl _ HZP.out ?_; intro y9 g13 hg13 hl13 B13 q9; have HB13 := hidden B13; have HG13 := hidden hg13; have B89 := hidden q9; clear B13 hg13 hl13 q9)
    | ((with_reducible refine at_st 13 ?_); refine wpList_sto _ rfl _ _ _ rfl g13 _ (encR (.slice qa m qc) N).toArray rfl rfl HB13.out (HSz.out _).1 (HSz.out _).2 (encR_one _ _ _ _) ?_; intro y10 B10 r10; have HP13 := hidden B10; have B810 := hidden (below_row B89.out r10 HG13.out); have Q10 := hidden (grow_trans Q8.out (below_row B89.out r10 HG13.out)); have HP11a := hidden (HP11.out.grow (grow_trans B78.out (below_row B89.out r10 HG13.out))); clear B10 r10)
    | ((with_reducible refine at_ldd 65 3 ?_); refine wpList_ld _ rfl _ _ rfl b4 _ rfl (HB4.out _ Q10.out) _ _ Tryz.underlying31 HPS.out ?_)
    | ((with_reducible refine at_ldd 66 11 ?_); refine wpList_lds _ rfl _ _ rfl g11 _ _ rfl HP11a.out HUP.out (HSz.out _).1 ?_)
    | (go_at_call 15; refine (HUp.out _ _ Q10.out (R5.out.grow (grow_trans B57.out (grow_trans B78.out B810.out)))).mono ?_; rintro e y11 ⟨rfl, q11⟩; have B1011 := hidden q11; have Q11 := hidden (grow_trans Q10.out q11); clear q11)
    | ((with_reducible refine at_ald 15 ?_); refine wpList_al _ rfl _ rfl _ zero_hash ?_; intro y12 g15 hg15 hl15 B15 q12; have HB15 := hidden B15; have HG15 := hidden hg15; have B1112 := hidden q12; clear B15 hg15 hl15 q12)
    | ((with_reducible refine at_st 15 ?_); refine wpList_sto _ rfl _ _ _ rfl g15 _ (B D) rfl rfl HB15.out HDS.out.1 HDS.out.2 (B_one _) ?_; intro y13 B13 r13; have HD15 := hidden B13; have B1113 := hidden (below_row B1112.out r13 HG15.out); have Q13 := hidden (grow_trans Q11.out (below_row B1112.out r13 HG15.out)); clear B13 r13)
    | (go_at_call 16; refine (HRt.out _ Q13.out).mono ?_; rintro e y14 ⟨rfl, q14⟩; have B1314 := hidden q14; have Q14 := hidden (grow_trans Q13.out q14); clear q14)
    | ((with_reducible refine at_ald 17 ?_); refine wpList_al _ rfl _ rfl _ zero_hash ?_; intro y15 g17 hg17 hl17 B17 q15; have HB17 := hidden B17; have HG17 := hidden hg17; have B1415 := hidden q15; clear B17 hg17 hl17 q15)
    | ((with_reducible refine at_st 17 ?_); refine wpList_sto _ rfl _ _ _ rfl g17 _ (B D) rfl rfl HB17.out HDS.out.1 HDS.out.2 (B_one _) ?_; intro y16 B16 r16; have HD17 := hidden B16; have B1416 := hidden (below_row B1415.out r16 HG17.out); have Q16 := hidden (grow_trans Q14.out (below_row B1415.out r16 HG17.out)); have B1316 := hidden (grow_trans B1314.out (below_row B1415.out r16 HG17.out)); have B1016 := hidden (grow_trans B1011.out (grow_trans B1113.out B1316.out)); clear B16 r16)
    | ((with_reducible refine at_ldd 90 11 ?_); refine wpList_ldsg _ rfl _ _ rfl g11 _ _ rfl (HP11a.out.grow B1016.out) HUP.out (HSz.out _).1 ?_)
    | ((with_reducible refine at_ldd 91 13 ?_); refine wpList_ldsg _ rfl _ _ rfl g13 _ _ rfl (HP13.out.grow B1016.out) HUP.out (HSz.out _).1 ?_)
    | (go_at_call 17; refine (HSX.out _ _ _ (R5.out.grow (grow_trans B57.out (grow_trans B78.out (grow_trans B810.out B1016.out)))) (R8.out.grow (grow_trans B810.out B1016.out))).mono ?_; rintro e y17 ⟨rfl, q17⟩; have B1617 := hidden q17; have Q17 := hidden (grow_trans Q16.out q17); have D10 := hidden (HD10.out.grow (grow_trans B45.out (grow_trans B57.out (grow_trans B78.out (grow_trans B810.out (grow_trans B1016.out q17)))))); have D15 := hidden (HD15.out.grow (grow_trans B1316.out q17)); have D17 := hidden (HD17.out.grow q17); clear q17)
    | ((with_reducible refine at_ldd 96 15 ?_); refine wpList_ldgW _ rfl _ _ rfl g15 0 rfl (B D) _ D15.out.range Tryz.underlying43 rfl HDL.out ?_)
    | ((with_reducible refine at_ldd 97 10 ?_); refine wpList_ldgW _ rfl _ _ rfl g10 0 rfl (B D) _ D10.out.range Tryz.underlying43 rfl HDL.out ?_)
    | ((with_reducible refine at_ldd 101 15 ?_); refine wpList_ldgW _ rfl _ _ rfl g15 0 rfl (B D) _ D15.out.range Tryz.underlying43 rfl HDL.out ?_)
    | ((with_reducible refine at_ldd 102 17 ?_); refine wpList_ldgW _ rfl _ _ rfl g17 0 rfl (B D) _ D17.out.range Tryz.underlying43 rfl HDL.out ?_)
    | ((with_reducible refine at_ldd 108 3 ?_); refine wpList_ld _ rfl _ _ rfl b4 _ rfl (HB4.out _ Q17.out) _ _ Tryz.underlying31 HPS.out ?_)
    | (go_at_call 18; have mk := mkF1; clear mk; refine (HFD2.out _ Q19.out).mono ?_; rintro e x9 ⟨uv, sp2, rfl, o2, q20⟩; have RU := hidden (fun (w' : World) (hb : Below x9.heap.size x9 w') => o2.reads.grow hb); have B1720 := hidden (grow_trans B1719.out q20); have HX5 := hidden (grow_trans Q19.out q20); clear o2 q20)
    | (go_at_call 18; refine (HFD2.out _ Q17.out).mono ?_; rintro e y18 ⟨fv, sp1, rfl, o1, q18⟩; have O1 := hidden o1; have B1718 := hidden q18; have mkF1 : Hid True := trivial; clear o1 q18)
    | (go_at_call 19; refine (over_own _ fv fz sp1 _ O1.out).mono ?_; rintro e y19 ⟨rfl, _, gr19, _⟩; have B1719 : Hid (Below y17.heap.size y17 y19) := (by cases hob : fv.ownBlock with | none => (rw [hob] at gr19; exact grow_trans B1718.out ⟨gr19.os, gr19.tape, gr19.output, gr19.size, fun k hk => gr19.block k hk (by simp)⟩) | some q => (rw [hob] at gr19; exact below_row B1718.out gr19 (O1.out.lt q hob).1)); have Q19 := hidden (grow_trans Q17.out B1719.out); clear gr19)
    | ((with_reducible refine at_ldd 118 3 ?_); refine wpList_ld _ rfl _ _ rfl b4 _ rfl (HB4.out _ Q19.out) _ _ Tryz.underlying31 HPS.out ?_))
  have HG10 : Hid (∀ w', Below x9.heap.size x9 w' → Blk w' g10 43 (B D)) := fun w' hb => D10.out.grow (grow_trans B1720.out hb)
  have HPX9 : Hid (∀ w', Below x9.heap.size x9 w' → PrAt w' (.slice la n lc) VV es) := fun w' hb => HPX.out _ (grow_trans HX5.out hb)
  clear Q1 Q2 Q4 Q5 Q7 Q8 Q10 Q11 Q13 Q14 Q16 Q17 Q19 B23 B45 B56 B57 B78 B89 B810 B1011 B1112 B1113 B1314 B1415 B1416 B1316 B1016 B1617 B1718 B1719 B1720 HB10 HGG10 HD10 HB11 HG11 HP11 HB13 HG13 HP13 HP11a HB15 HG15 HD15 HB17 HG17 HD17 D10 D15 D17 R5 R8 O1 HWY2 HNW2 HUp HRt HSX HFD2 HPX mkF1
  go_loopw [25] (fun iv wr => ∃ k : Nat, k ≤ n ∧ iv = .int .i64 k ∧ Hid (Below x9.heap.size x9 wr)) (fun iv _ => n - (intOf iv).toNat)
  case atStart => exact ⟨0, by omega, rfl, Below.refl _ _⟩
  case round =>
    obtain ⟨k, hk, rfl, HBW⟩ := hrel
    by_cases hlt : k < n
    · have hlt' : k < es.length := by rw [← HN.out]; exact hlt
      obtain ⟨la', lc', hsl, _, hcc, hrr⟩ := HPX9.out x9 (Below.refl _ _)
      injection hsl with h1 h2 h3
      subst h1
      subst h3
      obtain ⟨lb, off, rfl, hrg⟩ := hcc (by omega)
      have HCC : Hid (∀ w', Below x9.heap.size x9 w' → w'.rangeAt lb (off + k * 33) (encP (es.getD k e00).1 (VV k))) := fun w' hb => rng_grow (hrg k hlt') hb
      obtain ⟨hkey, hrd⟩ := hrr k hlt'
      have HEL := hidden (pth_ln _ hkey.1)
      have HEK := hidden hkey.1
      have hE2 := path_eq (es.getD k e00).1 K hkey.1 HK.out.1
      have HHk := hidden (HHT.out k hlt')
      have HRV := hidden (fun (w' : World) (hb : Below x9.heap.size x9 w') => hrd.grow hb)
      obtain ⟨E, hEE⟩ : ∃ E, E = es.getD k e00 := ⟨_, rfl⟩
      rw [← hEE] at HCC HEL HEK hE2 HHk HRV
      generalize VV k = ev at HCC HRV
      have k0 : (0 : Int) ≤ (k : Int) := by omega
      have k1 : (k : Int) < (n : Int) := by omega
      have hn12 := HN12.out
      have hwk : wrap64 ((k : Int) + 1) = ((k + 1 : Nat) : Int) := by rw [Go.IntWalk.wrap64_in _ (by omega)]; rfl
      clear h2 hcc hrr hrg hkey hrd hlt' hEE
      by_cases hq : E.1 = K
      · have hf := HHk.out hq
        injection hf with hf1 hf2
        subst hf2
        subst hf1
        have HSB : Hid (∀ w', Below x9.heap.size x9 w' → Calls Tryz.prog 20 #[uv, ev] w' fun e w'' => e = .returned (.bool true) ∧ Below w'.heap.size w' w'') := fun w' hb => by
          have := same_any uv ev E.2 E.2 w' (RU.out _ hb) (HRV.out _ hb)
          refine this.mono fun e w'' ⟨e1, e2⟩ => ⟨by rw [e1]; simp, by rw [e2]; exact Below.refl _ _⟩
        have hE3 : ∀ w, (Op.equalIn 10000 31 (.agg (B E.1)) (.agg (B K))).run Tryz.prog w = .ok true w := fun w => by have := hE2 w; simpa [hq] using this
        clear hE2 hq HHk
        go_wp2_with fail
        refine wp_region_held_drew (S := fun w' => Below x9.heap.size x9 w') (by kernel_rfl) ((below_drewN HBW.out 1)) (fun hHeld => ?_)
        refine wpAnyH_take (i := 0) (v := .slice (some ⟨lb, off, none⟩) n lc) rfl (by kernel_rfl) (by kernel_rfl) (by kernel_rfl) (fun _ _ _ h => h) (Or.inl ⟨by rfl, fun w hS => by go_simp⟩) hHeld ?_
        simp only [Act.put, List.getElem_toArray, List.getElem_cons_zero, List.setIfInBounds_toArray, List.set_cons_zero, List.set_cons_succ]
        refine wpAnyH_take (i := 1) (v := .int .i64 k) rfl (by kernel_rfl) (by kernel_rfl) (by kernel_rfl) (fun _ _ _ h => h) (Or.inl ⟨by rfl, fun w hS => by go_simp⟩) hHeld ?_
        simp only [Act.put, List.getElem_toArray, List.getElem_cons_zero, List.getElem_cons_succ, List.setIfInBounds_toArray, List.set_cons_zero, List.set_cons_succ]
        refine wpAnyH_take (i := 2) (v := .pointer (some ⟨lb, off + k * 33, none⟩)) rfl (by kernel_rfl) (by kernel_rfl) (by kernel_rfl) (fun _ _ _ h => h) (Or.inl ⟨by rfl, fun w hS => by go_simp⟩) hHeld ?_
        simp only [Act.put, List.getElem_toArray, List.getElem_cons_zero, List.getElem_cons_succ, List.setIfInBounds_toArray, List.set_cons_zero, List.set_cons_succ]
        refine wpAnyH_take (i := 3) (v := .pointer (some ⟨lb, off + k * 33, none⟩)) rfl (by kernel_rfl) (by kernel_rfl) (by kernel_rfl) (fun _ _ _ h => h) (Or.inl ⟨by rfl, fun w hS => by go_simp⟩) hHeld ?_
        simp only [Act.put, List.getElem_toArray, List.getElem_cons_zero, List.getElem_cons_succ, List.setIfInBounds_toArray, List.set_cons_zero, List.set_cons_succ]
        refine wpAnyH_take (i := 4) (v := .agg (B E.1)) rfl (by kernel_rfl) (by kernel_rfl) (by kernel_rfl) (fun _ _ _ h => h) (yieldsIf_load_mid rfl 31 (.tmp 132) rfl lb (off + k * 33) rfl (B E.1).toList _ (fun w hS => rng_key (HCC.out _ hS)) Tryz.underlying31 rfl HEL.out) hHeld ?_
        simp only [Act.put, List.getElem_toArray, List.getElem_cons_zero, List.getElem_cons_succ, List.setIfInBounds_toArray, List.set_cons_zero, List.set_cons_succ]
        refine wpAnyH_take (i := 5) (v := .agg (B K)) rfl (by kernel_rfl) (by kernel_rfl) (by kernel_rfl) (fun _ _ _ h => h) (yieldsIf_load_mid rfl 31 (.tmp 3) rfl b4 0 rfl (B K).toList _ (fun w hS => (HB4.out _ (grow_trans HX5.out hS)).range) Tryz.underlying31 rfl HPL.out) hHeld ?_
        simp only [Act.put, List.getElem_toArray, List.getElem_cons_zero, List.getElem_cons_succ, List.setIfInBounds_toArray, List.set_cons_zero, List.set_cons_succ]
        refine wpAnyH_take (i := 6) (v := .bool true) rfl (by kernel_rfl) (by kernel_rfl) (by kernel_rfl) (fun _ _ _ h => h) (Or.inl ⟨by rfl, fun w hS => by go_simp⟩) hHeld ?_
        simp only [Act.put, List.getElem_toArray, List.getElem_cons_zero, List.getElem_cons_succ, List.setIfInBounds_toArray, List.set_cons_zero, List.set_cons_succ]
        refine wpAnyH_take (i := 7) (v := .bool true) rfl (by kernel_rfl) (by kernel_rfl) (by kernel_rfl) (fun _ _ _ h => h) (Or.inl ⟨by rfl, fun w hS => by go_simp⟩) hHeld ?_
        simp only [Act.put, List.getElem_toArray, List.getElem_cons_zero, List.getElem_cons_succ, List.setIfInBounds_toArray, List.set_cons_zero, List.set_cons_succ]
        refine wpAnyH_take (i := 8) (v := .bool true) rfl (by kernel_rfl) (by kernel_rfl) (by kernel_rfl) (fun _ _ _ h => h) (Or.inl ⟨by rfl, fun w hS => by go_simp⟩) hHeld ?_
        simp only [Act.put, List.getElem_toArray, List.getElem_cons_zero, List.getElem_cons_succ, List.setIfInBounds_toArray, List.set_cons_zero, List.set_cons_succ]
        refine wpAnyH_take (i := 9) (v := .bool false) rfl (by kernel_rfl) (by kernel_rfl) (by kernel_rfl) (fun _ _ _ h => h) (Or.inl ⟨by rfl, fun w hS => by go_simp⟩) hHeld ?_
        simp only [Act.put, List.getElem_toArray, List.getElem_cons_zero, List.getElem_cons_succ, List.setIfInBounds_toArray, List.set_cons_zero, List.set_cons_succ]
        refine wpAnyH_take (i := 10) (v := .bool false) rfl (by kernel_rfl) (by kernel_rfl) (by kernel_rfl) (fun _ _ _ h => h) (Or.inl ⟨by rfl, fun w hS => by go_simp⟩) hHeld ?_
        simp only [Act.put, List.getElem_toArray, List.getElem_cons_zero, List.getElem_cons_succ, List.setIfInBounds_toArray, List.set_cons_zero, List.set_cons_succ]
        refine wpAnyH_take (i := 11) (v := uv) rfl (by kernel_rfl) (by kernel_rfl) (by kernel_rfl) (fun _ _ _ h => h) (Or.inl ⟨by rfl, fun w hS => by go_simp⟩) hHeld ?_
        simp only [Act.put, List.getElem_toArray, List.getElem_cons_zero, List.getElem_cons_succ, List.setIfInBounds_toArray, List.set_cons_zero, List.set_cons_succ]
        refine wpAnyH_take (i := 12) (v := .slice (some ⟨lb, off, none⟩) n lc) rfl (by kernel_rfl) (by kernel_rfl) (by kernel_rfl) (fun _ _ _ h => h) (Or.inl ⟨by rfl, fun w hS => by go_simp⟩) hHeld ?_
        simp only [Act.put, List.getElem_toArray, List.getElem_cons_zero, List.getElem_cons_succ, List.setIfInBounds_toArray, List.set_cons_zero, List.set_cons_succ]
        refine wpAnyH_take (i := 13) (v := .int .i64 k) rfl (by kernel_rfl) (by kernel_rfl) (by kernel_rfl) (fun _ _ _ h => h) (Or.inl ⟨by rfl, fun w hS => by go_simp⟩) hHeld ?_
        simp only [Act.put, List.getElem_toArray, List.getElem_cons_zero, List.getElem_cons_succ, List.setIfInBounds_toArray, List.set_cons_zero, List.set_cons_succ]
        refine wpAnyH_take (i := 14) (v := .pointer (some ⟨lb, off + k * 33, none⟩)) rfl (by kernel_rfl) (by kernel_rfl) (by kernel_rfl) (fun _ _ _ h => h) (Or.inl ⟨by rfl, fun w hS => by go_simp⟩) hHeld ?_
        simp only [Act.put, List.getElem_toArray, List.getElem_cons_zero, List.getElem_cons_succ, List.setIfInBounds_toArray, List.set_cons_zero, List.set_cons_succ]
        refine wpAnyH_take (i := 15) (v := .pointer (some ⟨lb, off + k * 33 + 32, none⟩)) rfl (by kernel_rfl) (by kernel_rfl) (by kernel_rfl) (fun _ _ _ h => h) (Or.inl ⟨by rfl, fun w hS => by go_simp⟩) hHeld ?_
        simp only [Act.put, List.getElem_toArray, List.getElem_cons_zero, List.getElem_cons_succ, List.setIfInBounds_toArray, List.set_cons_zero, List.set_cons_succ]
        refine wpAnyH_take (i := 16) (v := ev) rfl (by kernel_rfl) (by kernel_rfl) (by kernel_rfl) (fun _ _ _ h => h) (Or.inl ⟨by rfl, fun w hS => by (have q1 := rng_val (HCC.out _ hS) HEK.out; go_simp)⟩) hHeld ?_
        simp only [Act.put, List.getElem_toArray, List.getElem_cons_zero, List.getElem_cons_succ, List.setIfInBounds_toArray, List.set_cons_zero, List.set_cons_succ]
        refine wpAnyH_ready (rs := [17]) (by kernel_rfl) (by simp) ?_
        refine AllReadyH.cons rfl (fun KQ hK => ?_) AllReadyH.nil
        go_simp
        refine (HSB.out _ hHeld).mono ?_
        rintro e z1 ⟨rfl, a1⟩
        refine hK.out _ _ (grow_trans hHeld a1) (fun hHeld => ?_)
        clear hK KQ
        refine wpAnyH_take (i := 18) (v := .bool false) rfl (by kernel_rfl) (by kernel_rfl) (by kernel_rfl) (fun _ _ _ h => h) (Or.inl ⟨by rfl, fun w hS => by go_simp⟩) hHeld ?_
        simp only [Act.put, List.getElem_toArray, List.getElem_cons_zero, List.getElem_cons_succ, List.setIfInBounds_toArray, List.set_cons_zero, List.set_cons_succ]
        refine wpAnyH_take (i := 19) (v := .bool false) rfl (by kernel_rfl) (by kernel_rfl) (by kernel_rfl) (fun _ _ _ h => h) (Or.inl ⟨by rfl, fun w hS => by go_simp⟩) hHeld ?_
        simp only [Act.put, List.getElem_toArray, List.getElem_cons_zero, List.getElem_cons_succ, List.setIfInBounds_toArray, List.set_cons_zero, List.set_cons_succ]
        refine wpAnyH_take (i := 20) (v := .bool false) rfl (by kernel_rfl) (by kernel_rfl) (by kernel_rfl) (fun _ _ _ h => h) (Or.inl ⟨by rfl, fun w hS => by go_simp⟩) hHeld ?_
        simp only [Act.put, List.getElem_toArray, List.getElem_cons_zero, List.getElem_cons_succ, List.setIfInBounds_toArray, List.set_cons_zero, List.set_cons_succ]
        refine wpAnyH_done (by kernel_rfl) ?_ _
        have HH := hidden hHeld
        clear hHeld
        go_wp2_with fail
        exact ⟨⟨k + 1, by omega, by go_num, HH⟩, by simp [intOf]; exact mea_step k1⟩
      · have hE3 : ∀ w, (Op.equalIn 10000 31 (.agg (B E.1)) (.agg (B K))).run Tryz.prog w = .ok false w := fun w => by have := hE2 w; simpa [hq] using this
        clear hE2 hq HHk
        go_wp2_with fail
        refine wp_region_held_drew (S := fun w' => Below x9.heap.size x9 w') (by kernel_rfl) ((below_drewN HBW.out 1)) (fun hHeld => ?_)
        refine wpAnyH_take (i := 0) (v := .slice (some ⟨lb, off, none⟩) n lc) rfl (by kernel_rfl) (by kernel_rfl) (by kernel_rfl) (fun _ _ _ h => h) (Or.inl ⟨by rfl, fun w hS => by go_simp⟩) hHeld ?_
        simp only [Act.put, List.getElem_toArray, List.getElem_cons_zero, List.setIfInBounds_toArray, List.set_cons_zero, List.set_cons_succ]
        refine wpAnyH_take (i := 1) (v := .int .i64 k) rfl (by kernel_rfl) (by kernel_rfl) (by kernel_rfl) (fun _ _ _ h => h) (Or.inl ⟨by rfl, fun w hS => by go_simp⟩) hHeld ?_
        simp only [Act.put, List.getElem_toArray, List.getElem_cons_zero, List.getElem_cons_succ, List.setIfInBounds_toArray, List.set_cons_zero, List.set_cons_succ]
        refine wpAnyH_take (i := 2) (v := .pointer (some ⟨lb, off + k * 33, none⟩)) rfl (by kernel_rfl) (by kernel_rfl) (by kernel_rfl) (fun _ _ _ h => h) (Or.inl ⟨by rfl, fun w hS => by go_simp⟩) hHeld ?_
        simp only [Act.put, List.getElem_toArray, List.getElem_cons_zero, List.getElem_cons_succ, List.setIfInBounds_toArray, List.set_cons_zero, List.set_cons_succ]
        refine wpAnyH_take (i := 3) (v := .pointer (some ⟨lb, off + k * 33, none⟩)) rfl (by kernel_rfl) (by kernel_rfl) (by kernel_rfl) (fun _ _ _ h => h) (Or.inl ⟨by rfl, fun w hS => by go_simp⟩) hHeld ?_
        simp only [Act.put, List.getElem_toArray, List.getElem_cons_zero, List.getElem_cons_succ, List.setIfInBounds_toArray, List.set_cons_zero, List.set_cons_succ]
        refine wpAnyH_take (i := 4) (v := .agg (B E.1)) rfl (by kernel_rfl) (by kernel_rfl) (by kernel_rfl) (fun _ _ _ h => h) (yieldsIf_load_mid rfl 31 (.tmp 132) rfl lb (off + k * 33) rfl (B E.1).toList _ (fun w hS => rng_key (HCC.out _ hS)) Tryz.underlying31 rfl HEL.out) hHeld ?_
        simp only [Act.put, List.getElem_toArray, List.getElem_cons_zero, List.getElem_cons_succ, List.setIfInBounds_toArray, List.set_cons_zero, List.set_cons_succ]
        refine wpAnyH_take (i := 5) (v := .agg (B K)) rfl (by kernel_rfl) (by kernel_rfl) (by kernel_rfl) (fun _ _ _ h => h) (yieldsIf_load_mid rfl 31 (.tmp 3) rfl b4 0 rfl (B K).toList _ (fun w hS => (HB4.out _ (grow_trans HX5.out hS)).range) Tryz.underlying31 rfl HPL.out) hHeld ?_
        simp only [Act.put, List.getElem_toArray, List.getElem_cons_zero, List.getElem_cons_succ, List.setIfInBounds_toArray, List.set_cons_zero, List.set_cons_succ]
        refine wpAnyH_take (i := 6) (v := .bool false) rfl (by kernel_rfl) (by kernel_rfl) (by kernel_rfl) (fun _ _ _ h => h) (Or.inl ⟨by rfl, fun w hS => by go_simp⟩) hHeld ?_
        simp only [Act.put, List.getElem_toArray, List.getElem_cons_zero, List.getElem_cons_succ, List.setIfInBounds_toArray, List.set_cons_zero, List.set_cons_succ]
        refine wpAnyH_take (i := 7) (v := .bool false) rfl (by kernel_rfl) (by kernel_rfl) (by kernel_rfl) (fun _ _ _ h => h) (Or.inl ⟨by rfl, fun w hS => by go_simp⟩) hHeld ?_
        simp only [Act.put, List.getElem_toArray, List.getElem_cons_zero, List.getElem_cons_succ, List.setIfInBounds_toArray, List.set_cons_zero, List.set_cons_succ]
        refine wpAnyH_take (i := 8) (v := undef) rfl (by kernel_rfl) (by kernel_rfl) (by kernel_rfl) (fun _ _ _ h => h) (Or.inr ⟨by rfl, rfl⟩) hHeld ?_
        simp only [Act.put, List.getElem_toArray, List.getElem_cons_zero, List.getElem_cons_succ, List.setIfInBounds_toArray, List.set_cons_zero, List.set_cons_succ]
        refine wpAnyH_take (i := 9) (v := undef) rfl (by kernel_rfl) (by kernel_rfl) (by kernel_rfl) (fun _ _ _ h => h) (Or.inr ⟨by rfl, rfl⟩) hHeld ?_
        simp only [Act.put, List.getElem_toArray, List.getElem_cons_zero, List.getElem_cons_succ, List.setIfInBounds_toArray, List.set_cons_zero, List.set_cons_succ]
        refine wpAnyH_take (i := 10) (v := undef) rfl (by kernel_rfl) (by kernel_rfl) (by kernel_rfl) (fun _ _ _ h => h) (Or.inr ⟨by rfl, rfl⟩) hHeld ?_
        simp only [Act.put, List.getElem_toArray, List.getElem_cons_zero, List.getElem_cons_succ, List.setIfInBounds_toArray, List.set_cons_zero, List.set_cons_succ]
        refine wpAnyH_take (i := 11) (v := undef) rfl (by kernel_rfl) (by kernel_rfl) (by kernel_rfl) (fun _ _ _ h => h) (Or.inr ⟨by rfl, rfl⟩) hHeld ?_
        simp only [Act.put, List.getElem_toArray, List.getElem_cons_zero, List.getElem_cons_succ, List.setIfInBounds_toArray, List.set_cons_zero, List.set_cons_succ]
        refine wpAnyH_take (i := 12) (v := undef) rfl (by kernel_rfl) (by kernel_rfl) (by kernel_rfl) (fun _ _ _ h => h) (Or.inr ⟨by rfl, rfl⟩) hHeld ?_
        simp only [Act.put, List.getElem_toArray, List.getElem_cons_zero, List.getElem_cons_succ, List.setIfInBounds_toArray, List.set_cons_zero, List.set_cons_succ]
        refine wpAnyH_take (i := 13) (v := undef) rfl (by kernel_rfl) (by kernel_rfl) (by kernel_rfl) (fun _ _ _ h => h) (Or.inr ⟨by rfl, rfl⟩) hHeld ?_
        simp only [Act.put, List.getElem_toArray, List.getElem_cons_zero, List.getElem_cons_succ, List.setIfInBounds_toArray, List.set_cons_zero, List.set_cons_succ]
        refine wpAnyH_take (i := 14) (v := undef) rfl (by kernel_rfl) (by kernel_rfl) (by kernel_rfl) (fun _ _ _ h => h) (Or.inr ⟨by rfl, rfl⟩) hHeld ?_
        simp only [Act.put, List.getElem_toArray, List.getElem_cons_zero, List.getElem_cons_succ, List.setIfInBounds_toArray, List.set_cons_zero, List.set_cons_succ]
        refine wpAnyH_take (i := 15) (v := undef) rfl (by kernel_rfl) (by kernel_rfl) (by kernel_rfl) (fun _ _ _ h => h) (Or.inr ⟨by rfl, rfl⟩) hHeld ?_
        simp only [Act.put, List.getElem_toArray, List.getElem_cons_zero, List.getElem_cons_succ, List.setIfInBounds_toArray, List.set_cons_zero, List.set_cons_succ]
        refine wpAnyH_take (i := 16) (v := undef) rfl (by kernel_rfl) (by kernel_rfl) (by kernel_rfl) (fun _ _ _ h => h) (Or.inr ⟨by rfl, rfl⟩) hHeld ?_
        simp only [Act.put, List.getElem_toArray, List.getElem_cons_zero, List.getElem_cons_succ, List.setIfInBounds_toArray, List.set_cons_zero, List.set_cons_succ]
        refine wpAnyH_take (i := 17) (v := undef) rfl (by kernel_rfl) (by kernel_rfl) (by kernel_rfl) (fun _ _ _ h => h) (Or.inr ⟨by rfl, rfl⟩) hHeld ?_
        simp only [Act.put, List.getElem_toArray, List.getElem_cons_zero, List.getElem_cons_succ, List.setIfInBounds_toArray, List.set_cons_zero, List.set_cons_succ]
        refine wpAnyH_take (i := 18) (v := undef) rfl (by kernel_rfl) (by kernel_rfl) (by kernel_rfl) (fun _ _ _ h => h) (Or.inr ⟨by rfl, rfl⟩) hHeld ?_
        simp only [Act.put, List.getElem_toArray, List.getElem_cons_zero, List.getElem_cons_succ, List.setIfInBounds_toArray, List.set_cons_zero, List.set_cons_succ]
        refine wpAnyH_take (i := 19) (v := undef) rfl (by kernel_rfl) (by kernel_rfl) (by kernel_rfl) (fun _ _ _ h => h) (Or.inr ⟨by rfl, rfl⟩) hHeld ?_
        simp only [Act.put, List.getElem_toArray, List.getElem_cons_zero, List.getElem_cons_succ, List.setIfInBounds_toArray, List.set_cons_zero, List.set_cons_succ]
        refine wpAnyH_take (i := 20) (v := .bool false) rfl (by kernel_rfl) (by kernel_rfl) (by kernel_rfl) (fun _ _ _ h => h) (Or.inl ⟨by rfl, fun w hS => by go_simp⟩) hHeld ?_
        simp only [Act.put, List.getElem_toArray, List.getElem_cons_zero, List.getElem_cons_succ, List.setIfInBounds_toArray, List.set_cons_zero, List.set_cons_succ]
        refine wpAnyH_done (by kernel_rfl) ?_ _
        have HH := hidden hHeld
        clear hHeld
        go_wp2_with fail
        exact ⟨⟨k + 1, by omega, by go_num, HH⟩, by simp [intOf]; exact mea_step k1⟩
    · obtain rfl : k = n := by omega
      have nlt : ¬ (k : Int) < (k : Int) := by omega
      clear hlt hk
      go_wp2_with fail
      refine wp_region_held_drew (S := fun w' => Below x9.heap.size x9 w') (by kernel_rfl) ((below_drewN HBW.out 1)) (fun hHeld => ?_)
      refine wpAnyH_take (i := 0) (v := .int .i64 0) rfl (by kernel_rfl) (by kernel_rfl) (by kernel_rfl) (fun _ _ _ h => h) (Or.inl ⟨by rfl, fun w hS => by go_simp⟩) hHeld ?_
      simp only [Act.put, List.getElem_toArray, List.getElem_cons_zero, List.setIfInBounds_toArray, List.set_cons_zero, List.set_cons_succ]
      refine wpAnyH_take (i := 1) (v := .bool true) rfl (by kernel_rfl) (by kernel_rfl) (by kernel_rfl) (fun _ _ _ h => h) (Or.inl ⟨by rfl, fun w hS => by go_simp⟩) hHeld ?_
      simp only [Act.put, List.getElem_toArray, List.getElem_cons_zero, List.getElem_cons_succ, List.setIfInBounds_toArray, List.set_cons_zero, List.set_cons_succ]
      refine wpAnyH_take (i := 2) (v := .bool true) rfl (by kernel_rfl) (by kernel_rfl) (by kernel_rfl) (fun _ _ _ h => h) (Or.inl ⟨by rfl, fun w hS => by go_simp⟩) hHeld ?_
      simp only [Act.put, List.getElem_toArray, List.getElem_cons_zero, List.getElem_cons_succ, List.setIfInBounds_toArray, List.set_cons_zero, List.set_cons_succ]
      refine wpAnyH_take (i := 3) (v := .int .i64 0) rfl (by kernel_rfl) (by kernel_rfl) (by kernel_rfl) (fun _ _ _ h => h) (Or.inl ⟨by rfl, fun w hS => by go_simp⟩) hHeld ?_
      simp only [Act.put, List.getElem_toArray, List.getElem_cons_zero, List.getElem_cons_succ, List.setIfInBounds_toArray, List.set_cons_zero, List.set_cons_succ]
      refine wpAnyH_take (i := 4) (v := .bool true) rfl (by kernel_rfl) (by kernel_rfl) (by kernel_rfl) (fun _ _ _ h => h) (Or.inl ⟨by rfl, fun w hS => by go_simp⟩) hHeld ?_
      simp only [Act.put, List.getElem_toArray, List.getElem_cons_zero, List.getElem_cons_succ, List.setIfInBounds_toArray, List.set_cons_zero, List.set_cons_succ]
      refine wpAnyH_take (i := 5) (v := .bool true) rfl (by kernel_rfl) (by kernel_rfl) (by kernel_rfl) (fun _ _ _ h => h) (Or.inl ⟨by rfl, fun w hS => by go_simp⟩) hHeld ?_
      simp only [Act.put, List.getElem_toArray, List.getElem_cons_zero, List.getElem_cons_succ, List.setIfInBounds_toArray, List.set_cons_zero, List.set_cons_succ]
      refine wpAnyH_take (i := 6) (v := .bool true) rfl (by kernel_rfl) (by kernel_rfl) (by kernel_rfl) (fun _ _ _ h => h) (Or.inl ⟨by rfl, fun w hS => by go_simp⟩) hHeld ?_
      simp only [Act.put, List.getElem_toArray, List.getElem_cons_zero, List.getElem_cons_succ, List.setIfInBounds_toArray, List.set_cons_zero, List.set_cons_succ]
      refine wpAnyH_take (i := 7) (v := .bool is) rfl (by kernel_rfl) (by kernel_rfl) (by kernel_rfl) (fun _ _ _ h => h) (Or.inl ⟨by rfl, fun w hS => by go_simp⟩) hHeld ?_
      simp only [Act.put, List.getElem_toArray, List.getElem_cons_zero, List.getElem_cons_succ, List.setIfInBounds_toArray, List.set_cons_zero, List.set_cons_succ]
      refine wpAnyH_take (i := 8) (v := .bool is) rfl (by kernel_rfl) (by kernel_rfl) (by kernel_rfl) (fun _ _ _ h => h) (Or.inl ⟨by rfl, fun w hS => by go_simp⟩) hHeld ?_
      simp only [Act.put, List.getElem_toArray, List.getElem_cons_zero, List.getElem_cons_succ, List.setIfInBounds_toArray, List.set_cons_zero, List.set_cons_succ]
      refine wpAnyH_take (i := 9) (v := .bool true) rfl (by kernel_rfl) (by kernel_rfl) (by kernel_rfl) (fun _ _ _ h => h) (Or.inl ⟨by rfl, fun w hS => by go_simp⟩) hHeld ?_
      simp only [Act.put, List.getElem_toArray, List.getElem_cons_zero, List.getElem_cons_succ, List.setIfInBounds_toArray, List.set_cons_zero, List.set_cons_succ]
      refine wpAnyH_take (i := 10) (v := .bool true) rfl (by kernel_rfl) (by kernel_rfl) (by kernel_rfl) (fun _ _ _ h => h) (Or.inl ⟨by rfl, fun w hS => by go_simp⟩) hHeld ?_
      simp only [Act.put, List.getElem_toArray, List.getElem_cons_zero, List.getElem_cons_succ, List.setIfInBounds_toArray, List.set_cons_zero, List.set_cons_succ]
      refine wpAnyH_take (i := 11) (v := .bool true) rfl (by kernel_rfl) (by kernel_rfl) (by kernel_rfl) (fun _ _ _ h => h) (Or.inl ⟨by rfl, fun w hS => by go_simp⟩) hHeld ?_
      simp only [Act.put, List.getElem_toArray, List.getElem_cons_zero, List.getElem_cons_succ, List.setIfInBounds_toArray, List.set_cons_zero, List.set_cons_succ]
      refine wpAnyH_take (i := 12) (v := .pointer (some ⟨g, 0, none⟩)) rfl (by kernel_rfl) (by kernel_rfl) (by kernel_rfl) (fun _ _ _ h => h) (Or.inl ⟨by rfl, fun w hS => by go_simp⟩) hHeld ?_
      simp only [Act.put, List.getElem_toArray, List.getElem_cons_zero, List.getElem_cons_succ, List.setIfInBounds_toArray, List.set_cons_zero, List.set_cons_succ]
      refine wpAnyH_take (i := 14) (v := .int .i64 oc) rfl (by kernel_rfl) (by kernel_rfl) (by kernel_rfl) (fun _ _ _ h => h) (Or.inl ⟨by rfl, fun w hS => by go_simp⟩) hHeld ?_
      simp only [Act.put, List.getElem_toArray, List.getElem_cons_zero, List.getElem_cons_succ, List.setIfInBounds_toArray, List.set_cons_zero, List.set_cons_succ]
      refine wpAnyH_ready (rs := [13]) (by kernel_rfl) (by simp) ?_
      refine AllReadyH.cons rfl (fun KQ hK => ?_) AllReadyH.nil
      go_simp
      refine (HOC.out _ (grow_trans HX5.out hHeld)).mono ?_
      rintro e z1 ⟨rfl, a1⟩
      refine hK.out _ _ (grow_trans hHeld a1) (fun hHeld => ?_)
      clear hK KQ
      refine wpAnyH_take (i := 15) (v := .bool true) rfl (by kernel_rfl) (by kernel_rfl) (by kernel_rfl) (fun _ _ _ h => h) (Or.inl ⟨by rfl, fun w hS => by go_simp⟩) hHeld ?_
      simp only [Act.put, List.getElem_toArray, List.getElem_cons_zero, List.getElem_cons_succ, List.setIfInBounds_toArray, List.set_cons_zero, List.set_cons_succ]
      refine wpAnyH_take (i := 16) (v := .bool true) rfl (by kernel_rfl) (by kernel_rfl) (by kernel_rfl) (fun _ _ _ h => h) (Or.inl ⟨by rfl, fun w hS => by go_simp⟩) hHeld ?_
      simp only [Act.put, List.getElem_toArray, List.getElem_cons_zero, List.getElem_cons_succ, List.setIfInBounds_toArray, List.set_cons_zero, List.set_cons_succ]
      refine wpAnyH_take (i := 17) (v := .bool true) rfl (by kernel_rfl) (by kernel_rfl) (by kernel_rfl) (fun _ _ _ h => h) (Or.inl ⟨by rfl, fun w hS => by go_simp⟩) hHeld ?_
      simp only [Act.put, List.getElem_toArray, List.getElem_cons_zero, List.getElem_cons_succ, List.setIfInBounds_toArray, List.set_cons_zero, List.set_cons_succ]
      refine wpAnyH_take (i := 18) (v := .pointer (some ⟨g, 0, none⟩)) rfl (by kernel_rfl) (by kernel_rfl) (by kernel_rfl) (fun _ _ _ h => h) (Or.inl ⟨by rfl, fun w hS => by go_simp⟩) hHeld ?_
      simp only [Act.put, List.getElem_toArray, List.getElem_cons_zero, List.getElem_cons_succ, List.setIfInBounds_toArray, List.set_cons_zero, List.set_cons_succ]
      refine wpAnyH_take (i := 19) (v := .int .i64 hh) rfl (by kernel_rfl) (by kernel_rfl) (by kernel_rfl) (fun _ _ _ h => h) (Or.inl ⟨by rfl, fun w hS => by go_simp⟩) hHeld ?_
      simp only [Act.put, List.getElem_toArray, List.getElem_cons_zero, List.getElem_cons_succ, List.setIfInBounds_toArray, List.set_cons_zero, List.set_cons_succ]
      refine wpAnyH_take (i := 21) (v := .agg (B D)) rfl (by kernel_rfl) (by kernel_rfl) (by kernel_rfl) (fun _ _ _ h => h) (yieldsIf_load_mid rfl 43 (.tmp 10) rfl g10 0 rfl (B D).toList _ (fun w hS => (HG10.out _ hS).range) Tryz.underlying43 rfl HDL.out) hHeld ?_
      simp only [Act.put, List.getElem_toArray, List.getElem_cons_zero, List.getElem_cons_succ, List.setIfInBounds_toArray, List.set_cons_zero, List.set_cons_succ]
      refine wpAnyH_ready (rs := [20]) (by kernel_rfl) (by simp) ?_
      refine AllReadyH.cons rfl (fun KQ hK => ?_) AllReadyH.nil
      go_simp
      refine (HDG.out _ (grow_trans HX5.out hHeld)).mono ?_
      rintro e z2 ⟨rfl, a2⟩
      refine hK.out _ _ (grow_trans hHeld a2) (fun hHeld => ?_)
      clear hK KQ
      refine wpAnyH_take (i := 22) (v := .bool true) rfl (by kernel_rfl) (by kernel_rfl) (by kernel_rfl) (fun _ _ _ h => h) (Or.inl ⟨by rfl, fun w hS => by go_simp⟩) hHeld ?_
      simp only [Act.put, List.getElem_toArray, List.getElem_cons_zero, List.getElem_cons_succ, List.setIfInBounds_toArray, List.set_cons_zero, List.set_cons_succ]
      refine wpAnyH_take (i := 23) (v := .bool true) rfl (by kernel_rfl) (by kernel_rfl) (by kernel_rfl) (fun _ _ _ h => h) (Or.inl ⟨by rfl, fun w hS => by go_simp⟩) hHeld ?_
      simp only [Act.put, List.getElem_toArray, List.getElem_cons_zero, List.getElem_cons_succ, List.setIfInBounds_toArray, List.set_cons_zero, List.set_cons_succ]
      refine wpAnyH_take (i := 24) (v := .bool true) rfl (by kernel_rfl) (by kernel_rfl) (by kernel_rfl) (fun _ _ _ h => h) (Or.inl ⟨by rfl, fun w hS => by go_simp⟩) hHeld ?_
      simp only [Act.put, List.getElem_toArray, List.getElem_cons_zero, List.getElem_cons_succ, List.setIfInBounds_toArray, List.set_cons_zero, List.set_cons_succ]
      refine wpAnyH_done (by kernel_rfl) ?_ _
      go_wp2
      go_ret
      exact ⟨rfl, grow_trans H05.out (grow_trans HX5.out hHeld)⟩

end Go.Proofs.YtdpaanidangnlaaGreatDoor

/- What every statement's proof asks of the program as a whole. -/
namespace Go.Proofs.YtdpaanidangnlaaGreatDoor
set_option maxRecDepth 20000
open Go.ChangeShapes Go.WideShapes Go.ChangeAt Go.RowKit

theorem ownK : ownKnob Tryz.prog.godebug = none := by kernel_rfl
theorem laidOut : laidOutB Tryz.prog = true := by kernel_rfl

theorem okWide_st {t : TypeId} {fs : Array Field} {W : World} {base : Nat} {v : Value} (ht : Tryz.prog.underlying t = some (.struct fs)) (h : Value.okWide Tryz.prog W .any base t v) : ∃ cs, v = .agg cs := by
  unfold Value.okWide at h
  cases v <;> simp_all

end Go.Proofs.YtdpaanidangnlaaGreatDoor

/- What a statement's arguments are in memory: of an argument that is a slice of bytes: it reads as bytes, and is no longer than memory. -/
namespace Go.Proofs.YtdpaanidangnlaaGreatDoor
set_option maxRecDepth 20000
open Go.ChangeShapes Go.WideShapes Go.ChangeAt Go.RowKit

theorem cells_byte : Tryz.prog.cellsOf 5 = 1 := by kernel_rfl
theorem bytesOf_byte : Tryz.prog.bytesOf 5 = 1 := by kernel_rfl

/-- A slice of bytes that came in. -/
theorem arg_bytes {H : Type} {enc : TypeId × Value → H} {W : World} {base : Nat} {v : Value} {d : DataW H} {p : List MemPlace} (hv : Value.okWide Tryz.prog W .any base 32 v)
    (h : DataW.Trod enc Tryz.prog W 0 (fun _ => true) true 32 v d p) {ts : List TypeId} {ds : List (DataW H)} (hsz : (DataW.weightsEach Tryz.prog ts ds).all (· ≤ reachBytes) = true) (j : Nat) (ht : ts[j]? = some 32) (hd : ds[j]? = some d) :
    ∃ zs, Reads W v zs ∧ zs.length ≤ 140737488355328 - 4096 ∧ ((d = .nil ∧ zs = []) ∨ ∃ el sp, d = .slice el sp ∧ el.length = zs.length) := by
  obtain ⟨a, len, cap, rfl⟩ := okWide_slice u_bytes hv
  obtain ⟨fuel, hf⟩ := h
  rcases open_ints u_bytes u_byte cells_byte hf with ⟨hcs, hx⟩ | ⟨x, l, c, zs, hcs, _, hl, hm, hz, hx, hcell, hwz⟩
  · simp [Value.cells] at hcs
    obtain ⟨rfl, rfl, rfl⟩ := hcs
    simp only [Prod.mk.injEq] at hx
    exact ⟨[], Reads.nil _, by simp, .inl ⟨hx.1, rfl⟩⟩
  · simp [Value.cells] at hcs
    obtain ⟨rfl, rfl, rfl⟩ := hcs
    simp at hz
    simp only [Prod.mk.injEq] at hx
    have hlen : (zs.take len).length = len := by simp; omega
    have hs := sized_slice hsz ht (by rw [hd, hx.1]) u_bytes
    rw [bytesOf_byte] at hs
    simp only [lits, List.length_map, List.length_take, List.length_drop, reachBytes] at hs
    refine ⟨zs.take len, ⟨some x, cap, by rw [hlen], by omega, fun h => by simp at h, ?_, ?_⟩, by omega, .inr ⟨_, _, hx.1, by simp [lits]⟩⟩
    · intro z hz'
      have := bounds_u8 (hwz z (List.mem_of_mem_take hz'))
      omega
    · intro hp
      rw [hlen] at hp
      obtain ⟨b, off, spot⟩ := x
      have hspot : spot = none := by
        have := World.cell?_spot (hcell 0 (by omega))
        simpa [Addr.add] using this
      subst hspot
      refine ⟨b, off, rfl, fun i hi => ?_⟩
      rw [hlen] at hi
      have := hcell i (by omega)
      rw [Addr.add_lit] at this
      rw [this]
      simp [List.getD, hi]

end Go.Proofs.YtdpaanidangnlaaGreatDoor
