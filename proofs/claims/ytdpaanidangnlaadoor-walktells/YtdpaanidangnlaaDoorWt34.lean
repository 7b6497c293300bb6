/- WalkTells' walk: of any entries' tree and any key what walk tells is what the document tells of the entries; of any handle the error is store.Root's. -/
import Derived.Test.YtdpaanidangnlaaDoorWt33
import Derived.Deep.CutRange
import Derived.Test.YtdpaanidangnlaaDoorRows
import Derived.ProofKit
import Derived.OpenShut
import Derived.ShutString
import Derived.ChangeOld
import Derived.Below
import Derived.SizedLaws
import Derived.Test.YtdpaanidangnlaaDoorWt02
namespace Go.Proofs.YtdpaanidangnlaaDoor
set_option maxRecDepth 20000
open Go.RowKit

theorem stB_new {g gs b : Nat} (hg : b ≤ g) (hgs : b ≤ gs) : ∀ k ∈ stB g gs (.slice none 0 0) (.slice none 0 0) [], b ≤ k := fun k hk => by
  rcases stB_mem.1 hk with rfl | hk | ⟨i, hk⟩
  · exact hg
  · rcases slB_mem.1 hk with rfl | hk | hk
    · exact hgs
    · cases hk
    · cases hk
  · simp only [ce, List.getElem?_nil, Option.getD_none] at hk
    cases hk

theorem build_new {w2 w4 : World} {g gs : Nat} {v : Value} {V : Nat → Value} {es : List Ent} (hg : w2.heap.size ≤ g) (hgs : w2.heap.size ≤ gs) (st : Stm w4 g gs (.slice none 0 0) (.slice none 0 0) 8192 [] []) (b4 : Below w2.heap.size w2 w4) (hL : Laid w2) (prs : Kq (stB g gs (.slice none 0 0) (.slice none 0 0) []) w4 (fun w' => PrAt w' v V es)) (h12 : es.length ≤ 12) (ha : Apart1 es) (hl : ∀ e ∈ es, e.2.length ≤ 1024) : Calls Tryd.prog 7 #[.pointer (some ⟨g, 0, none⟩), v, .int .i64 0] w4 fun e w5 => ∃ (h : Nat) (cs : List (Nat × Ce)) (vp vf : Value), e = .returned (.tuple #[.int .i64 (h : Int), .bool true]) ∧ Bd [] es 0 h cs ∧ Stm w5 g gs vp vf 8192 cs [] ∧ Below w2.heap.size w2 w5 := by
  have hS := stB_new hg hgs
  refine (build_all 256 0 rfl w4 g gs _ _ 8192 [] v V es ⟨st, Wf.new, Kq.of_low (fun w' b => hL.grow b) b4 hS, prs, h12, ha, hl, fun x _ y _ j hj => by omega, by simp; omega⟩).mono ?_
  rintro e w5 ⟨h, cs, rfl, bd, vp, vf, s5, m5, _⟩
  exact ⟨h, cs, vp, vf, rfl, bd, s5, b4.trans (m5.below hS b4.size)⟩

theorem copied_prs {w w' w'' : World} {v : Value} {its : List (Ent × Value)} {es : List Ent} {S : List Nat} (hm : its.map (·.1) = es) (hv : ∀ p ∈ its, Key p.1.1 ∧ ∃ sp, Own w.heap.size w' p.2 p.1.2 sp) (ho : w'.ownsRow w.heap.size 68 33 v its.length (flatP its)) (hS : ∀ k ∈ S, k < w.heap.size) (m : Mod S w' w'') : PrAt w'' v (fun i => (its.getD i (e00, undef)).2) es := by
  have ho' : w''.ownsRow w.heap.size 68 33 v its.length (flatP its) := owR_mod ho m (fun g hg e => by
    have := (ho.lt g hg).1
    have := hS g e
    omega)
  have := prAt_own ho' (fun p hp => (hv p hp).1) (fun p hp => by
    obtain ⟨_, sp, ho⟩ := hv p hp
    exact (ho.mod m (fun k hk e => by
      have := (ho.lt k hk).1
      have := hS k e
      omega)).reads)
  rwa [hm] at this

set_option maxRecDepth 100000 in
set_option maxHeartbeats 16000000 in
theorem walkTells_walk (v : Value) (V : Nat → Value) (es0 : List Ent) (K : List Int) (odd : Int) (w : World) (hv : PrAt w v V es0) (hn : es0.length ≤ 140737488355328) (hK : Key K) (hL : Laid w) : Calls Tryd.prog 3 #[v, .agg (B K), .int .i64 odd] w fun e w' => e = .returned (.bool true) ∧ Below w.heap.size w w' := by
  have HFW : Hid (∀ w', Below w.heap.size w w' → Calls Tryd.prog 5 #[v] w' (FwPost w')) := fun w' hb => few8_any v V es0 w' (hv.grow hb) hn
  have HK := hidden hK
  have HLa := hidden hL
  have HPS : Hid ((Tryd.prog.info? 24).map (·.size) = some (B K).size) := by show _ = _; rw [B_size, hK.1]; exact size_path
  obtain ⟨va, vn, vc, rfl⟩ : ∃ a n c, v = .slice a n c := by obtain ⟨a, c, e, _⟩ := hv; exact ⟨a, _, c, e⟩
  clear hv hn hK hL
  go_enter Tryd.func3, Tryd.ntmps3
  go_upto_region 6 with (first
    | ((with_reducible refine at_bxd 4 ?_); refine wpList_bx _ rfl _ _ rfl _ rfl ?_; intro w1 b4 hg4 hl4 B4 q4; have HB4' := hidden B4; have HQ4 := hidden q4; clear hg4 hl4 B4 q4)
    | (go_at_call 5; refine (HFW.out _ HQ4.out).mono ?_; rintro e w2 ⟨its, la, lc, rfl, fo, fv, f12, fa, fb⟩; have HFO := hidden fo; have HFV := hidden fv; have HF12 := hidden f12; have HFA := hidden fa; have HFB := hidden fb; clear fo fv f12 fa fb)
    | (go_at_call 6; refine (newS_ok 8192 _ (by omega) (by omega)).mono ?_; rintro e w3 ⟨g, gs, rfl, hg, hgs, st3, b3⟩; have HG := hidden hg; have HGS := hidden hgs; have HST3 := hidden st3; have HB3 := hidden b3; clear hg hgs st3 b3; have HCP := hidden (copyPairs_any (.slice la its.length lc) _ (its.map (·.1)) w3 ((prAt_own HFO.out (fun p hp => (HFV.out p hp).1) (fun p hp => (HFV.out p hp).2.1.grow HFB.out)).grow HB3.out) (by rw [List.length_map]; have := HF12.out; omega) (fun i hi => by rw [List.length_map] at hi; have := (HFV.out (its[i]) (List.getElem_mem hi)).2.2; rw [(getD_fst its i hi).1]; omega)))
    | (go_at_call 8; refine HCP.out.mono ?_; rintro e w4 ⟨v4, its4, rfl, c1, c2, c3, c4⟩; have HC1 := hidden c1; have HC2 := hidden c2; have HC3 := hidden c3; have HC4 := hidden c4; obtain ⟨ca, cc', rfl⟩ := lst_slice (owR_lst c3); clear c1 c2 c3 c4)
    | (go_at_call 7; refine (build_new (V := fun i => (its4.getD i (e00, undef)).2) (es := its.map (·.1)) HG.out HGS.out (HST3.out.grow HC4.out) (grow_trans HB3.out HC4.out) (HLa.out.grow (grow_trans HQ4.out HFB.out)) (fun w' m => copied_prs HC1.out HC2.out HC3.out HST3.out.lts m) (by rw [List.length_map]; exact HF12.out) HFA.out (fun e he => by obtain ⟨p, hp, rfl⟩ := List.mem_map.1 he; exact (HFV.out p hp).2.2)).mono ?_; rintro e x5 ⟨h, cs, vp, vf, rfl, bd, s5, b5⟩; have HBD := hidden bd; have HS5 := hidden s5; have HB5 := hidden b5; clear bd s5 b5))
  have HPR : Hid (∀ w', Below w2.heap.size w2 w' → PrAt w' (.slice la its.length lc) (fun i => (its.getD i (e00, undef)).2) (its.map (·.1))) := fun w' hb => (prAt_own HFO.out (fun p hp => (HFV.out p hp).1) (fun p hp => (HFV.out p hp).2.1.grow HFB.out)).grow hb
  have h12 : (its.map (·.1)).length ≤ 12 := by rw [List.length_map]; exact HF12.out
  have hap := HFA.out
  have hvl : ∀ e ∈ its.map (·.1), e.2.length ≤ 1024 := fun e he => by obtain ⟨p, hp, rfl⟩ := List.mem_map.1 he; exact (HFV.out p hp).2.2
  obtain ⟨es, hes⟩ : ∃ es, es = its.map (·.1) := ⟨_, rfl⟩
  obtain ⟨n, hnn⟩ : ∃ n, n = its.length := ⟨_, rfl⟩
  rw [← hes] at HPR h12 hap hvl HBD
  rw [← hnn] at HPR
  rw [← hnn]
  have HV := hidden (vw_ok HS5.out HBD.out.wf)
  have HWf := hidden HBD.out.wf
  have he := bd_root HBD.out
  have hdp := HBD.out.dp
  obtain ⟨T, hT, hp⟩ := HBD.out.tree
  obtain ⟨kd, na, nb, hEq⟩ := wk_eq HBD.out.wf hT hp hdp h12 hap hvl K
  have hE0 := errB_few h12 hap hvl
  have HLx : Hid (∀ w', Below x5.heap.size x5 w' → Laid w') := fun w' hb => HLa.out.grow (grow_trans (grow_trans (grow_trans HQ4.out HFB.out) HB5.out) hb)
  have HB4 : Hid (∀ w', Below x5.heap.size x5 w' → Blk w' b4 24 (B K)) := fun w' hb => HB4'.out.grow (grow_trans (grow_trans HFB.out HB5.out) hb)
  have H05 : Hid (Below w.heap.size w x5) := grow_trans (grow_trans HQ4.out HFB.out) HB5.out
  have HFD : Hid (∀ w', Below x5.heap.size x5 w' → Calls Tryd.prog 9 #[.pointer (some ⟨g, 0, none⟩), .int .i64 (h : Int), .agg (B K)] w' (FdPost (rfnd es K) w')) := fun w' hb => by
    have := find_any (HV.out.grow hb) HWf.out h T hT K HK.out he
    rwa [hEq.fnd] at this
  have HRF : Hid (∀ w', Below x5.heap.size x5 w' → Calls Tryd.prog 10 #[.slice la n lc, .agg (B K)] w' (RfPost (rfnd es K) w')) := fun w' hb => rfind_any _ _ es K w' (HPR.out _ (grow_trans HB5.out hb)) (by omega) hvl HK.out
  have HWY : Hid (∀ w', Below x5.heap.size x5 w' → Calls Tryd.prog 11 #[.pointer (some ⟨g, 0, none⟩), .int .i64 (h : Int), .agg (B K)] w' (WkPost (wyH es K) (nd kd na nb z32 z32) w')) := fun w' hb => by
    have := wway_any (HV.out.grow hb) HWf.out h T hT K HK.out he (HLx.out _ hb)
    rwa [hEq.sides, hEq.nd_] at this
  have HRW : Hid (∀ w', Below x5.heap.size x5 w' → Calls Tryd.prog 12 #[.slice la n lc, .agg (B K)] w' (WkPost (wyH es K) (nd kd na nb z32 z32) w')) := fun w' hb => by
    have := rway_any _ _ es K w' (HPR.out _ (grow_trans HB5.out hb)) (by omega) HK.out
    refine this.mono ?_
    rintro e w'' ⟨sa, sc, e1, e2, e3⟩
    rw [hE0, ← hEq.fin, hEq.nd_] at e1
    exact ⟨sa, sc, e1, e2, e3⟩
  have HHD : Hid (∀ w', Below x5.heap.size x5 w' → Calls Tryd.prog 13 #[.pointer (some ⟨g, 0, none⟩), .int .i64 (h : Int), .agg (B K)] w' (HdPost (T.hs K h) (T.fin K h) w')) := fun w' hb => handles_any (HV.out.grow hb) HWf.out h T hT K HK.out he
  have HDE : Hid (∀ w', Below x5.heap.size x5 w' → Calls Tryd.prog 14 #[.pointer (some ⟨g, 0, none⟩), .int .i64 (h : Int), .agg (B K)] w' fun e w'' => e = .returned (.tuple #[.int .i64 ((T.hs K h).length : Int), .int .i64 0]) ∧ Below w'.heap.size w' w'') := fun w' hb => wdepth_any (HV.out.grow hb) HWf.out h T hT K HK.out he
  have HAT : Hid (∀ k, k < (T.hs K h).length → ∃ x, HsAt1 cs K (T.hs K h) (T.fin K h) (T.oth K) 0 k x) := hs_at HWf.out K T h 0 hT hdp
  have HHD0 : Hid ((T.hs K h ++ [T.fin K h])[0]? = some h) := hs_head K T h
  have HKD : Hid (∀ w', Below x5.heap.size x5 w' → Calls Tryd.prog 17 #[.pointer (some ⟨g, 0, none⟩), .int .i64 (T.fin K h : Int)] w' fun e w'' => e = .returned (.int .u8 kd) ∧ Below w'.heap.size w' w'') := fun w' hb => by
    have := kind_any (HV.out.grow hb) (T.fin K h : Int)
    rwa [hEq.kind] at this
  have HND := hidden hEq.ok
  have HSX : Hid (∀ w' xv yv, HsAt w' xv (wyH es K) → HsAt w' yv (wyH es K) → Calls Tryd.prog 16 #[.agg (encR xv (nd kd na nb z32 z32)).toArray, .agg (encR yv (nd kd na nb z32 z32)).toArray] w' fun e w'' => e = .returned (.bool true) ∧ Below w'.heap.size w' w'') := fun w' xv yv hx hy => by
    have := sameProof_any xv yv _ _ kd kd na nb z32 z32 na nb z32 z32 w' hx hy (by have := hEq.few; rw [← hEq.len]; omega) hEq.ok hEq.ok
    simpa using this
  have HDGS : Hid (Dgs (wyH es K)) := by rw [← hEq.sides]; exact dgs_take HWf.out _
  have hmz : (wyH es K).length = (T.hs K h).length := hEq.len.symm
  have hm256 := hEq.few
  have hez : ∃ ez : Bool, decide ((T.fin K h : Int) = 0) = ez ∧ decide (kd = 0) = ez := by
    rcases hEq.zero with ⟨e1, e2⟩ | ⟨e1, e2⟩
    · exact ⟨true, by simp [e1], by simp [e2]⟩
    · exact ⟨false, by simp [e1], by simp [e2]⟩
  obtain ⟨Eo, hEo⟩ : ∃ E, E = vRt true (cot cs odd) (cat cs odd) odd := ⟨_, rfl⟩
  have HRO : Hid (∀ w', Below x5.heap.size x5 w' → Calls Tryd.prog 21 #[.pointer (some ⟨g, 0, none⟩), .int .i64 odd] w' fun e w'' => e = .returned (.int .i64 Eo) ∧ Below w'.heap.size w' w'') := fun w' hb => by
    have := root_any (HV.out.grow hb) odd
    rwa [← hEo] at this
  have HFO2 : Hid (∀ w', Below x5.heap.size x5 w' → Calls Tryd.prog 9 #[.pointer (some ⟨g, 0, none⟩), .int .i64 odd, .agg (B K)] w' fun e w'' => ∃ v' b, e = .returned (.tuple #[v', .bool b, .int .i64 Eo]) ∧ Below w'.heap.size w' w'') := fun w' hb => find_odd (HV.out.grow hb) HWf.out odd K HK.out Eo hEo.symm
  have HWO : Hid (∀ w', Below x5.heap.size x5 w' → Calls Tryd.prog 11 #[.pointer (some ⟨g, 0, none⟩), .int .i64 odd, .agg (B K)] w' fun e w'' => ∃ a n c N, e = .returned (.tuple #[.agg (encR (.slice a n c) N).toArray, .int .i64 Eo]) ∧ N.length = 129 ∧ Below w'.heap.size w' w'') := fun w' hb => wway_odd (HV.out.grow hb) HWf.out odd K HK.out Eo hEo.symm (HLx.out _ hb)
  have HHO : Hid (∀ w', Below x5.heap.size x5 w' → Calls Tryd.prog 13 #[.pointer (some ⟨g, 0, none⟩), .int .i64 odd, .agg (B K)] w' fun e w'' => ∃ v' b, e = .returned (.tuple #[v', .int .i64 b, .int .i64 Eo]) ∧ Below w'.heap.size w' w'') := fun w' hb => handles_odd (HV.out.grow hb) HWf.out odd K HK.out Eo hEo.symm
  have HDO : Hid (∀ w', Below x5.heap.size x5 w' → Calls Tryd.prog 14 #[.pointer (some ⟨g, 0, none⟩), .int .i64 odd, .agg (B K)] w' fun e w'' => ∃ b, e = .returned (.tuple #[.int .i64 b, .int .i64 Eo]) ∧ Below w'.heap.size w' w'') := fun w' hb => wdepth_odd (HV.out.grow hb) HWf.out odd K HK.out Eo hEo.symm
  obtain ⟨y, hy⟩ : ∃ y : Int, y = (T.fin K h : Int) := ⟨_, rfl⟩
  rw [← hy] at HHD HKD hez
  obtain ⟨ez, hez1, hez2⟩ := hez
  obtain ⟨hh, hhe⟩ : ∃ hh : Int, hh = (h : Int) := ⟨_, rfl⟩
  rw [← hhe] at HFD HWY HHD HDE
  rw [← hhe]
  have HHE := hidden hhe
  obtain ⟨m, hm⟩ : ∃ m, m = (T.hs K h).length := ⟨_, rfl⟩
  rw [← hm] at HDE hmz hm256
  generalize T.oth K = oth at HAT
  generalize hfi : T.fin K h = fi at HAT HHD0 hy
  have HFY : Hid ((fi : Int) = y) := hy.symm
  generalize T.hs K h = hs at HHD HAT HHD0 hm
  have HM := hidden hm
  have HHD2 : Hid (∀ w', Below x5.heap.size x5 w' → Calls Tryd.prog 13 #[.pointer (some ⟨g, 0, none⟩), .int .i64 hh, .agg (B K)] w' fun e w'' => ∃ a c, e = .returned (.tuple #[.slice a m c, .int .i64 y, .int .i64 0]) ∧ w''.ownsRow w'.heap.size 3 1 (.slice a m c) m (nats hs) ∧ Below w'.heap.size w' w'') := by rw [hm]; exact HHD.out
  obtain ⟨N, hN⟩ : ∃ N, N = nd kd na nb z32 z32 := ⟨_, rfl⟩
  have HNL : Hid (N.length = 129) := by rw [hN]; exact HND.out.length
  generalize wyH es K = ds at HWY HRW HSX HDGS hmz
  have HWY2 : Hid (∀ w', Below x5.heap.size x5 w' → Calls Tryd.prog 11 #[.pointer (some ⟨g, 0, none⟩), .int .i64 hh, .agg (B K)] w' fun e w'' => ∃ a c, e = .returned (.tuple #[.agg (encR (.slice a m c) N).toArray, .int .i64 0]) ∧ HsAt w'' (.slice a m c) ds ∧ Below w'.heap.size w' w'') := fun w' hb => (HWY.out w' hb).mono fun e w'' ⟨a, c, e1, e2, e3⟩ => by
    rw [hmz] at e1 e2
    exact ⟨a, c, by rw [e1, hN], by have := hsAt_own (hs := ds) (by rw [hmz]; exact e2) HDGS.out; exact this, e3⟩
  have HRW2 : Hid (∀ w', Below x5.heap.size x5 w' → Calls Tryd.prog 12 #[.slice la n lc, .agg (B K)] w' fun e w'' => ∃ a c, e = .returned (.tuple #[.agg (encR (.slice a m c) N).toArray, .int .i64 0]) ∧ HsAt w'' (.slice a m c) ds ∧ Below w'.heap.size w' w'') := fun w' hb => (HRW.out w' hb).mono fun e w'' ⟨a, c, e1, e2, e3⟩ => by
    rw [hmz] at e1 e2
    exact ⟨a, c, by rw [e1, hN], by have := hsAt_own (hs := ds) (by rw [hmz]; exact e2) HDGS.out; exact this, e3⟩
  rw [← hN] at HSX
  have HPK : Hid (∀ w' b s, Blk w' b 43 (encR s N).toArray → w'.cell? ⟨b, 1, none⟩ = some (.int .u8 kd)) := fun w' b s hb => by rw [hN] at hb; exact proof_kind hb
  obtain ⟨r, hr⟩ : ∃ r, r = rfnd es K := ⟨_, rfl⟩
  rw [← hr] at HFD HRF
  obtain ⟨fz, is⟩ := r
  have HFD2 : Hid (∀ w', Below x5.heap.size x5 w' → Calls Tryd.prog 9 #[.pointer (some ⟨g, 0, none⟩), .int .i64 hh, .agg (B K)] w' fun e w'' => ∃ v', e = .returned (.tuple #[v', .bool is, .int .i64 0]) ∧ Reads w'' v' fz ∧ Below w'.heap.size w' w'') := fun w' hb => (HFD.out w' hb).mono fun e w'' ⟨v', sp, e1, e2, e3⟩ => ⟨v', e1, e2.reads, e3⟩
  have HRF2 : Hid (∀ w', Below x5.heap.size x5 w' → Calls Tryd.prog 10 #[.slice la n lc, .agg (B K)] w' fun e w'' => ∃ v', e = .returned (.tuple #[v', .bool is]) ∧ Reads w'' v' fz ∧ Below w'.heap.size w' w'') := fun w' hb => (HRF.out w' hb).mono fun e w'' ⟨a, c, sp, e1, e2, e3⟩ => ⟨_, e1, e2.reads, e3⟩
  obtain ⟨fp, hup⟩ := u_proof
  have HUP := hidden hup
  obtain ⟨Z, hZ⟩ : ∃ Z : List Int, Z = List.replicate 129 0 := ⟨_, rfl⟩
  have HZP : Hid (∀ w, (zeroValue 43).run Tryd.prog w = .ok (.agg (encR (.slice none 0 0) Z).toArray) w) := by rw [hZ]; exact zero_proof
  have HSz : Hid (∀ s N, N.length = 129 → (Tryd.prog.info? 43).map (·.size) = some (encR s N).toArray.size ∧ (encR (.slice none 0 0) Z).toArray.size = (encR s N).toArray.size) := fun s N hN => ⟨encR_sz _ N hN, by simp [encR, hN, hZ]⟩
  have HPZX : Hid (∀ s, (Tryd.prog.info? 43).map (·.size) = some (encR s N).length) := fun s => by rw [encR_length s N HNL.out]; exact size_proof
  have hez3 : (y == 0) = ez := by rw [← hez1]; rfl
  have hez4 : (kd == 0) = ez := by rw [← hez2]; rfl
  clear HFD HRF HWY HRW HHD hT hp hdp he hEq hE0 hr hN hup hZ hm hy hhe hfi hEo h12 hap hvl hnn hes hmz HFO HFV HF12 HFA HFB HG HGS HST3 HB3 HC1 HC2 HC3 HC4 HCP HFW HBD HS5 HB5 HQ4 HB4' HPR HND HDGS
  have HFO := HFO2
  clear HFO2
  go_wp2_with (first
    | ((with_reducible refine at_ldd 64 4 ?_); refine wpList_ld _ rfl _ _ rfl b4 _ rfl (HB4.out _ (Below.refl _ _)) _ _ Tryd.underlying24 HPS.out ?_)
    | (go_at_call 9; refine (HFD2.out _ (Below.refl _ _)).mono ?_; rintro e y1 ⟨fv, rfl, r1, q1⟩; have R1 := hidden (fun (w' : World) (hb : Below y1.heap.size y1 w') => r1.grow hb); have Q1 := hidden q1; clear r1 q1)
    | ((with_reducible refine at_ldd 71 4 ?_); refine wpList_ld _ rfl _ _ rfl b4 _ rfl (HB4.out _ Q1.out) _ _ Tryd.underlying24 HPS.out ?_)
    | (go_at_call 10; refine (HRF2.out _ Q1.out).mono ?_; rintro e y2 ⟨uv, rfl, r2, q2⟩; have R2 := hidden (fun (w' : World) (hb : Below y2.heap.size y2 w') => r2.grow hb); have R12 := hidden (fun (w' : World) (hb : Below y2.heap.size y2 w') => R1.out w' (grow_trans q2 hb)); have Q2 := hidden (grow_trans Q1.out q2); clear r2 q2)
    | ((with_reducible refine at_ldd 78 4 ?_); refine wpList_ld _ rfl _ _ rfl b4 _ rfl (HB4.out _ Q2.out) _ _ Tryd.underlying24 HPS.out ?_)
    | (go_at_call 11; refine (HWY2.out _ Q2.out).mono ?_; rintro e y3 ⟨pa, pc, rfl, r3, q3⟩; have R3 := hidden r3; have B23 := hidden q3; have Q3 := hidden (grow_trans Q2.out q3); clear r3 q3)
    | ((with_reducible refine at_ald 16 ?_); refine wpList_al _ rfl _ rfl _ HZP.out ?_; intro y4 g16 hg16 hl16 B16 q4; have HB16 := hidden B16; have HG16 := hidden hg16; have B34 := hidden q4; clear B16 hg16 hl16 q4)
    | ((with_reducible refine at_st 16 ?_); refine wpList_sto _ rfl _ _ _ rfl g16 _ (encR (.slice pa m pc) N).toArray rfl rfl HB16.out (HSz.out _ N HNL.out).1 (HSz.out _ N HNL.out).2 (encR_one _ _ _ _) ?_; intro y5 B5 r5; have HB165 := hidden B5; have B35 := hidden (below_row B34.out r5 HG16.out); have Q5 := hidden (grow_trans Q3.out (below_row B34.out r5 HG16.out)); clear B5 r5)
    | ((with_reducible refine at_ldd 84 4 ?_); refine wpList_ld _ rfl _ _ rfl b4 _ rfl (HB4.out _ Q5.out) _ _ Tryd.underlying24 HPS.out ?_)
    | (go_at_call 12; refine (HRW2.out _ Q5.out).mono ?_; rintro e y6 ⟨qa, qc, rfl, r6, q6⟩; have R6 := hidden r6; have B56 := hidden q6; have Q6 := hidden (grow_trans Q5.out q6); clear r6 q6)
    | ((with_reducible refine at_ald 18 ?_); refine wpList_al _ rfl _ rfl _ HZP.out ?_; intro y7 g18 hg18 hl18 B18 q7; have HB18 := hidden B18; have HG18 := hidden hg18; have B67 := hidden q7; clear B18 hg18 hl18 q7)
    | ((with_reducible refine at_st 18 ?_); refine wpList_sto _ rfl _ _ _ rfl g18 _ (encR (.slice qa m qc) N).toArray rfl rfl HB18.out (HSz.out _ N HNL.out).1 (HSz.out _ N HNL.out).2 (encR_one _ _ _ _) ?_; intro y8 B8 r8; have HB188 := hidden B8; have B68 := hidden (below_row B67.out r8 HG18.out); have Q8 := hidden (grow_trans Q6.out (below_row B67.out r8 HG18.out)); clear B8 r8)
    | ((with_reducible refine at_ldd 91 4 ?_); refine wpList_ld _ rfl _ _ rfl b4 _ rfl (HB4.out _ Q8.out) _ _ Tryd.underlying24 HPS.out ?_)
    | (go_at_call 13; refine (HHD2.out _ Q8.out).mono ?_; rintro e y9 ⟨ha, hc, rfl, o9, q9⟩; have O9 := hidden o9; have B89 := hidden q9; have Q9 := hidden (grow_trans Q8.out q9); clear o9 q9)
    | ((with_reducible refine at_ldd 99 4 ?_); refine wpList_ld _ rfl _ _ rfl b4 _ rfl (HB4.out _ Q9.out) _ _ Tryd.underlying24 HPS.out ?_)
    | (go_at_call 14; refine (HDE.out _ Q9.out).mono ?_; rintro e x9 ⟨rfl, q10⟩; have B910 := hidden q10; have HX5 := hidden (grow_trans Q9.out q10); clear q10))
  have B8x : Hid (Below y8.heap.size y8 x9) := grow_trans B89.out B910.out
  have B6x : Hid (Below y6.heap.size y6 x9) := grow_trans B68.out B8x.out
  have B5x : Hid (Below y5.heap.size y5 x9) := grow_trans B56.out B6x.out
  have B3x : Hid (Below y3.heap.size y3 x9) := grow_trans B35.out B5x.out
  have B2x : Hid (Below y2.heap.size y2 x9) := grow_trans B23.out B3x.out
  have HSB : Hid (∀ w', Below x9.heap.size x9 w' → Calls Tryd.prog 15 #[fv, uv] w' fun e w'' => e = .returned (.bool true) ∧ Below w'.heap.size w' w'') := fun w' hb => by
    have := same_any fv uv fz fz w' (R12.out _ (grow_trans B2x.out hb)) (R2.out _ (grow_trans B2x.out hb))
    refine this.mono fun e w'' ⟨e1, e2⟩ => ⟨by rw [e1]; simp, by rw [e2]; exact Below.refl _ _⟩
  have HP16 : Hid (∀ w', Below x9.heap.size x9 w' → Blk w' g16 43 (encR (.slice pa m pc) N).toArray) := fun w' hb => HB165.out.grow (grow_trans B5x.out hb)
  have HP18 : Hid (∀ w', Below x9.heap.size x9 w' → Blk w' g18 43 (encR (.slice qa m qc) N).toArray) := fun w' hb => HB188.out.grow (grow_trans B8x.out hb)
  have HSP : Hid (∀ w', Below x9.heap.size x9 w' → Calls Tryd.prog 16 #[.agg (encR (.slice pa m pc) N).toArray, .agg (encR (.slice qa m qc) N).toArray] w' fun e w'' => e = .returned (.bool true) ∧ Below w'.heap.size w' w'') := fun w' hb => HSX.out w' _ _ (R3.out.grow (grow_trans B3x.out hb)) (R6.out.grow (grow_trans B6x.out hb))
  have HKX : Hid (∀ w', Below x9.heap.size x9 w' → Calls Tryd.prog 17 #[.pointer (some ⟨g, 0, none⟩), .int .i64 y] w' fun e w'' => e = .returned (.int .u8 kd) ∧ Below w'.heap.size w' w'') := fun w' hb => HKD.out w' (grow_trans HX5.out hb)
  have HK18 : Hid (∀ w', Below x9.heap.size x9 w' → w'.cell? ⟨g18, 1, none⟩ = some (.int .u8 kd)) := fun w' hb => HPK.out _ _ _ (HP18.out w' hb)
  have HLS : Hid (∀ w', Below x9.heap.size x9 w' → Lst w' 3 1 (.slice ha m hc) m (nats hs)) := fun w' hb => lst_grow (owR_lst O9.out) (grow_trans B910.out hb)
  have HPZ := hidden (HPZX.out (.slice pa m pc))
  have HPZ2 := hidden (HPZX.out (.slice qa m qc))
  clear HKD
  have HKD := HKX
  clear HKX R1 R2 R12 R3 R6 B8x B6x B5x B3x B2x B910 B89 B68 B67 B56 B35 B34 B23 Q1 Q2 Q3 Q5 Q6 Q8 Q9 HB16 HB165 HB18 HB188 HG16 HG18 O9 HFD2 HRF2 HWY2 HRW2 HHD2 HDE HPK HSX HPZX
  refine wp_region_held_drew (S := fun w' => Below x9.heap.size x9 w') (by kernel_rfl) ((below_drewN (Below.refl _ _) 1)) (fun hHeld => ?_)
  refine wpAnyH_take (i := 0) (v := .int .i64 0) rfl (by kernel_rfl) (by kernel_rfl) (by kernel_rfl) (fun _ _ _ h => h) (Or.inl ⟨by rfl, fun w hS => by go_simp⟩) hHeld ?_
  simp only [Act.put, List.getElem_toArray, List.getElem_cons_zero, List.setIfInBounds_toArray, List.set_cons_zero, List.set_cons_succ]
  refine wpAnyH_take (i := 1) (v := .bool false) rfl (by kernel_rfl) (by kernel_rfl) (by kernel_rfl) (fun _ _ _ h => h) (Or.inl ⟨by rfl, fun w hS => by go_simp⟩) hHeld ?_
  simp only [Act.put, List.getElem_toArray, List.getElem_cons_zero, List.getElem_cons_succ, List.setIfInBounds_toArray, List.set_cons_zero, List.set_cons_succ]
  refine wpAnyH_take (i := 2) (v := .bool false) rfl (by kernel_rfl) (by kernel_rfl) (by kernel_rfl) (fun _ _ _ h => h) (Or.inl ⟨by rfl, fun w hS => by go_simp⟩) hHeld ?_
  simp only [Act.put, List.getElem_toArray, List.getElem_cons_zero, List.getElem_cons_succ, List.setIfInBounds_toArray, List.set_cons_zero, List.set_cons_succ]
  refine wpAnyH_take (i := 3) (v := .int .i64 0) rfl (by kernel_rfl) (by kernel_rfl) (by kernel_rfl) (fun _ _ _ h => h) (Or.inl ⟨by rfl, fun w hS => by go_simp⟩) hHeld ?_
  simp only [Act.put, List.getElem_toArray, List.getElem_cons_zero, List.getElem_cons_succ, List.setIfInBounds_toArray, List.set_cons_zero, List.set_cons_succ]
  refine wpAnyH_take (i := 4) (v := .bool false) rfl (by kernel_rfl) (by kernel_rfl) (by kernel_rfl) (fun _ _ _ h => h) (Or.inl ⟨by rfl, fun w hS => by go_simp⟩) hHeld ?_
  simp only [Act.put, List.getElem_toArray, List.getElem_cons_zero, List.getElem_cons_succ, List.setIfInBounds_toArray, List.set_cons_zero, List.set_cons_succ]
  refine wpAnyH_take (i := 5) (v := .bool false) rfl (by kernel_rfl) (by kernel_rfl) (by kernel_rfl) (fun _ _ _ h => h) (Or.inl ⟨by rfl, fun w hS => by go_simp⟩) hHeld ?_
  simp only [Act.put, List.getElem_toArray, List.getElem_cons_zero, List.getElem_cons_succ, List.setIfInBounds_toArray, List.set_cons_zero, List.set_cons_succ]
  refine wpAnyH_take (i := 6) (v := .bool false) rfl (by kernel_rfl) (by kernel_rfl) (by kernel_rfl) (fun _ _ _ h => h) (Or.inl ⟨by rfl, fun w hS => by go_simp⟩) hHeld ?_
  simp only [Act.put, List.getElem_toArray, List.getElem_cons_zero, List.getElem_cons_succ, List.setIfInBounds_toArray, List.set_cons_zero, List.set_cons_succ]
  refine wpAnyH_take (i := 7) (v := .int .i64 0) rfl (by kernel_rfl) (by kernel_rfl) (by kernel_rfl) (fun _ _ _ h => h) (Or.inl ⟨by rfl, fun w hS => by go_simp⟩) hHeld ?_
  simp only [Act.put, List.getElem_toArray, List.getElem_cons_zero, List.getElem_cons_succ, List.setIfInBounds_toArray, List.set_cons_zero, List.set_cons_succ]
  refine wpAnyH_take (i := 8) (v := .bool false) rfl (by kernel_rfl) (by kernel_rfl) (by kernel_rfl) (fun _ _ _ h => h) (Or.inl ⟨by rfl, fun w hS => by go_simp⟩) hHeld ?_
  simp only [Act.put, List.getElem_toArray, List.getElem_cons_zero, List.getElem_cons_succ, List.setIfInBounds_toArray, List.set_cons_zero, List.set_cons_succ]
  refine wpAnyH_take (i := 9) (v := .bool false) rfl (by kernel_rfl) (by kernel_rfl) (by kernel_rfl) (fun _ _ _ h => h) (Or.inl ⟨by rfl, fun w hS => by go_simp⟩) hHeld ?_
  simp only [Act.put, List.getElem_toArray, List.getElem_cons_zero, List.getElem_cons_succ, List.setIfInBounds_toArray, List.set_cons_zero, List.set_cons_succ]
  refine wpAnyH_take (i := 10) (v := .bool false) rfl (by kernel_rfl) (by kernel_rfl) (by kernel_rfl) (fun _ _ _ h => h) (Or.inl ⟨by rfl, fun w hS => by go_simp⟩) hHeld ?_
  simp only [Act.put, List.getElem_toArray, List.getElem_cons_zero, List.getElem_cons_succ, List.setIfInBounds_toArray, List.set_cons_zero, List.set_cons_succ]
  refine wpAnyH_take (i := 11) (v := .int .i64 0) rfl (by kernel_rfl) (by kernel_rfl) (by kernel_rfl) (fun _ _ _ h => h) (Or.inl ⟨by rfl, fun w hS => by go_simp⟩) hHeld ?_
  simp only [Act.put, List.getElem_toArray, List.getElem_cons_zero, List.getElem_cons_succ, List.setIfInBounds_toArray, List.set_cons_zero, List.set_cons_succ]
  refine wpAnyH_take (i := 12) (v := .bool false) rfl (by kernel_rfl) (by kernel_rfl) (by kernel_rfl) (fun _ _ _ h => h) (Or.inl ⟨by rfl, fun w hS => by go_simp⟩) hHeld ?_
  simp only [Act.put, List.getElem_toArray, List.getElem_cons_zero, List.getElem_cons_succ, List.setIfInBounds_toArray, List.set_cons_zero, List.set_cons_succ]
  refine wpAnyH_take (i := 13) (v := .bool false) rfl (by kernel_rfl) (by kernel_rfl) (by kernel_rfl) (fun _ _ _ h => h) (Or.inl ⟨by rfl, fun w hS => by go_simp⟩) hHeld ?_
  simp only [Act.put, List.getElem_toArray, List.getElem_cons_zero, List.getElem_cons_succ, List.setIfInBounds_toArray, List.set_cons_zero, List.set_cons_succ]
  refine wpAnyH_take (i := 14) (v := .bool false) rfl (by kernel_rfl) (by kernel_rfl) (by kernel_rfl) (fun _ _ _ h => h) (Or.inl ⟨by rfl, fun w hS => by go_simp⟩) hHeld ?_
  simp only [Act.put, List.getElem_toArray, List.getElem_cons_zero, List.getElem_cons_succ, List.setIfInBounds_toArray, List.set_cons_zero, List.set_cons_succ]
  refine wpAnyH_take (i := 15) (v := .bool is) rfl (by kernel_rfl) (by kernel_rfl) (by kernel_rfl) (fun _ _ _ h => h) (Or.inl ⟨by rfl, fun w hS => by go_simp⟩) hHeld ?_
  simp only [Act.put, List.getElem_toArray, List.getElem_cons_zero, List.getElem_cons_succ, List.setIfInBounds_toArray, List.set_cons_zero, List.set_cons_succ]
  refine wpAnyH_take (i := 16) (v := .bool is) rfl (by kernel_rfl) (by kernel_rfl) (by kernel_rfl) (fun _ _ _ h => h) (Or.inl ⟨by rfl, fun w hS => by go_simp⟩) hHeld ?_
  simp only [Act.put, List.getElem_toArray, List.getElem_cons_zero, List.getElem_cons_succ, List.setIfInBounds_toArray, List.set_cons_zero, List.set_cons_succ]
  refine wpAnyH_take (i := 17) (v := .bool false) rfl (by kernel_rfl) (by kernel_rfl) (by kernel_rfl) (fun _ _ _ h => h) (Or.inl ⟨by rfl, fun w hS => by go_simp⟩) hHeld ?_
  simp only [Act.put, List.getElem_toArray, List.getElem_cons_zero, List.getElem_cons_succ, List.setIfInBounds_toArray, List.set_cons_zero, List.set_cons_succ]
  refine wpAnyH_take (i := 18) (v := .bool false) rfl (by kernel_rfl) (by kernel_rfl) (by kernel_rfl) (fun _ _ _ h => h) (Or.inl ⟨by rfl, fun w hS => by go_simp⟩) hHeld ?_
  simp only [Act.put, List.getElem_toArray, List.getElem_cons_zero, List.getElem_cons_succ, List.setIfInBounds_toArray, List.set_cons_zero, List.set_cons_succ]
  refine wpAnyH_take (i := 19) (v := .bool false) rfl (by kernel_rfl) (by kernel_rfl) (by kernel_rfl) (fun _ _ _ h => h) (Or.inl ⟨by rfl, fun w hS => by go_simp⟩) hHeld ?_
  simp only [Act.put, List.getElem_toArray, List.getElem_cons_zero, List.getElem_cons_succ, List.setIfInBounds_toArray, List.set_cons_zero, List.set_cons_succ]
  refine wpAnyH_take (i := 20) (v := fv) rfl (by kernel_rfl) (by kernel_rfl) (by kernel_rfl) (fun _ _ _ h => h) (Or.inl ⟨by rfl, fun w hS => by go_simp⟩) hHeld ?_
  simp only [Act.put, List.getElem_toArray, List.getElem_cons_zero, List.getElem_cons_succ, List.setIfInBounds_toArray, List.set_cons_zero, List.set_cons_succ]
  refine wpAnyH_take (i := 21) (v := uv) rfl (by kernel_rfl) (by kernel_rfl) (by kernel_rfl) (fun _ _ _ h => h) (Or.inl ⟨by rfl, fun w hS => by go_simp⟩) hHeld ?_
  simp only [Act.put, List.getElem_toArray, List.getElem_cons_zero, List.getElem_cons_succ, List.setIfInBounds_toArray, List.set_cons_zero, List.set_cons_succ]
  refine wpAnyH_ready (rs := [22]) (by kernel_rfl) (by simp) ?_
  refine AllReadyH.cons rfl (fun KQ hK => ?_) AllReadyH.nil
  go_simp
  refine (HSB.out _ hHeld).mono ?_
  rintro e z1 ⟨rfl, a1⟩
  refine hK.out _ _ (grow_trans hHeld a1) (fun hHeld => ?_)
  clear hK KQ
  refine wpAnyH_take (i := 23) (v := .bool false) rfl (by kernel_rfl) (by kernel_rfl) (by kernel_rfl) (fun _ _ _ h => h) (Or.inl ⟨by rfl, fun w hS => by go_simp⟩) hHeld ?_
  simp only [Act.put, List.getElem_toArray, List.getElem_cons_zero, List.getElem_cons_succ, List.setIfInBounds_toArray, List.set_cons_zero, List.set_cons_succ]
  refine wpAnyH_take (i := 24) (v := .bool false) rfl (by kernel_rfl) (by kernel_rfl) (by kernel_rfl) (fun _ _ _ h => h) (Or.inl ⟨by rfl, fun w hS => by go_simp⟩) hHeld ?_
  simp only [Act.put, List.getElem_toArray, List.getElem_cons_zero, List.getElem_cons_succ, List.setIfInBounds_toArray, List.set_cons_zero, List.set_cons_succ]
  refine wpAnyH_take (i := 25) (v := .bool false) rfl (by kernel_rfl) (by kernel_rfl) (by kernel_rfl) (fun _ _ _ h => h) (Or.inl ⟨by rfl, fun w hS => by go_simp⟩) hHeld ?_
  simp only [Act.put, List.getElem_toArray, List.getElem_cons_zero, List.getElem_cons_succ, List.setIfInBounds_toArray, List.set_cons_zero, List.set_cons_succ]
  refine wpAnyH_take (i := 26) (v := .agg (encR (.slice pa m pc) N).toArray) rfl (by kernel_rfl) (by kernel_rfl) (by kernel_rfl) (fun _ _ _ h => h) (yieldsIf_load_mid rfl 43 (.tmp 16) rfl g16 0 rfl (encR (.slice pa m pc) N) _ (fun w hS => (HP16.out _ hS).range) HUP.out rfl HPZ.out) hHeld ?_
  simp only [Act.put, List.getElem_toArray, List.getElem_cons_zero, List.getElem_cons_succ, List.setIfInBounds_toArray, List.set_cons_zero, List.set_cons_succ]
  refine wpAnyH_take (i := 27) (v := .agg (encR (.slice qa m qc) N).toArray) rfl (by kernel_rfl) (by kernel_rfl) (by kernel_rfl) (fun _ _ _ h => h) (yieldsIf_load_mid rfl 43 (.tmp 18) rfl g18 0 rfl (encR (.slice qa m qc) N) _ (fun w hS => (HP18.out _ hS).range) HUP.out rfl HPZ2.out) hHeld ?_
  simp only [Act.put, List.getElem_toArray, List.getElem_cons_zero, List.getElem_cons_succ, List.setIfInBounds_toArray, List.set_cons_zero, List.set_cons_succ]
  refine wpAnyH_ready (rs := [28]) (by kernel_rfl) (by simp) ?_
  refine AllReadyH.cons rfl (fun KQ hK => ?_) AllReadyH.nil
  go_simp
  refine (HSP.out _ hHeld).mono ?_
  rintro e z2 ⟨rfl, a2⟩
  refine hK.out _ _ (grow_trans hHeld a2) (fun hHeld => ?_)
  clear hK KQ
  refine wpAnyH_take (i := 29) (v := .bool false) rfl (by kernel_rfl) (by kernel_rfl) (by kernel_rfl) (fun _ _ _ h => h) (Or.inl ⟨by rfl, fun w hS => by go_simp⟩) hHeld ?_
  simp only [Act.put, List.getElem_toArray, List.getElem_cons_zero, List.getElem_cons_succ, List.setIfInBounds_toArray, List.set_cons_zero, List.set_cons_succ]
  refine wpAnyH_take (i := 30) (v := .bool false) rfl (by kernel_rfl) (by kernel_rfl) (by kernel_rfl) (fun _ _ _ h => h) (Or.inl ⟨by rfl, fun w hS => by go_simp⟩) hHeld ?_
  simp only [Act.put, List.getElem_toArray, List.getElem_cons_zero, List.getElem_cons_succ, List.setIfInBounds_toArray, List.set_cons_zero, List.set_cons_succ]
  refine wpAnyH_take (i := 31) (v := .bool false) rfl (by kernel_rfl) (by kernel_rfl) (by kernel_rfl) (fun _ _ _ h => h) (Or.inl ⟨by rfl, fun w hS => by go_simp⟩) hHeld ?_
  simp only [Act.put, List.getElem_toArray, List.getElem_cons_zero, List.getElem_cons_succ, List.setIfInBounds_toArray, List.set_cons_zero, List.set_cons_succ]
  refine wpAnyH_take (i := 32) (v := .slice ha m hc) rfl (by kernel_rfl) (by kernel_rfl) (by kernel_rfl) (fun _ _ _ h => h) (Or.inl ⟨by rfl, fun w hS => by go_simp⟩) hHeld ?_
  simp only [Act.put, List.getElem_toArray, List.getElem_cons_zero, List.getElem_cons_succ, List.setIfInBounds_toArray, List.set_cons_zero, List.set_cons_succ]
  refine wpAnyH_take (i := 33) (v := .int .i64 m) rfl (by kernel_rfl) (by kernel_rfl) (by kernel_rfl) (fun _ _ _ h => h) (Or.inl ⟨by rfl, fun w hS => by go_simp⟩) hHeld ?_
  simp only [Act.put, List.getElem_toArray, List.getElem_cons_zero, List.getElem_cons_succ, List.setIfInBounds_toArray, List.set_cons_zero, List.set_cons_succ]
  refine wpAnyH_take (i := 34) (v := .pointer (some ⟨g18, 0, none⟩)) rfl (by kernel_rfl) (by kernel_rfl) (by kernel_rfl) (fun _ _ _ h => h) (Or.inl ⟨by rfl, fun w hS => by go_simp⟩) hHeld ?_
  simp only [Act.put, List.getElem_toArray, List.getElem_cons_zero, List.getElem_cons_succ, List.setIfInBounds_toArray, List.set_cons_zero, List.set_cons_succ]
  refine wpAnyH_take (i := 35) (v := .slice qa m qc) rfl (by kernel_rfl) (by kernel_rfl) (by kernel_rfl) (fun _ _ _ h => h) (Or.inl ⟨by rfl, fun w hS => by (have q1 := proof_side (HP18.out _ hS); go_simp)⟩) hHeld ?_
  simp only [Act.put, List.getElem_toArray, List.getElem_cons_zero, List.getElem_cons_succ, List.setIfInBounds_toArray, List.set_cons_zero, List.set_cons_succ]
  refine wpAnyH_take (i := 36) (v := .int .i64 m) rfl (by kernel_rfl) (by kernel_rfl) (by kernel_rfl) (fun _ _ _ h => h) (Or.inl ⟨by rfl, fun w hS => by go_simp⟩) hHeld ?_
  simp only [Act.put, List.getElem_toArray, List.getElem_cons_zero, List.getElem_cons_succ, List.setIfInBounds_toArray, List.set_cons_zero, List.set_cons_succ]
  refine wpAnyH_take (i := 37) (v := .bool false) rfl (by kernel_rfl) (by kernel_rfl) (by kernel_rfl) (fun _ _ _ h => h) (Or.inl ⟨by rfl, fun w hS => by go_simp⟩) hHeld ?_
  simp only [Act.put, List.getElem_toArray, List.getElem_cons_zero, List.getElem_cons_succ, List.setIfInBounds_toArray, List.set_cons_zero, List.set_cons_succ]
  refine wpAnyH_take (i := 38) (v := .bool false) rfl (by kernel_rfl) (by kernel_rfl) (by kernel_rfl) (fun _ _ _ h => h) (Or.inl ⟨by rfl, fun w hS => by go_simp⟩) hHeld ?_
  simp only [Act.put, List.getElem_toArray, List.getElem_cons_zero, List.getElem_cons_succ, List.setIfInBounds_toArray, List.set_cons_zero, List.set_cons_succ]
  refine wpAnyH_take (i := 39) (v := .bool false) rfl (by kernel_rfl) (by kernel_rfl) (by kernel_rfl) (fun _ _ _ h => h) (Or.inl ⟨by rfl, fun w hS => by go_simp⟩) hHeld ?_
  simp only [Act.put, List.getElem_toArray, List.getElem_cons_zero, List.getElem_cons_succ, List.setIfInBounds_toArray, List.set_cons_zero, List.set_cons_succ]
  refine wpAnyH_take (i := 40) (v := .int .i64 m) rfl (by kernel_rfl) (by kernel_rfl) (by kernel_rfl) (fun _ _ _ h => h) (Or.inl ⟨by rfl, fun w hS => by go_simp⟩) hHeld ?_
  simp only [Act.put, List.getElem_toArray, List.getElem_cons_zero, List.getElem_cons_succ, List.setIfInBounds_toArray, List.set_cons_zero, List.set_cons_succ]
  refine wpAnyH_take (i := 41) (v := .slice ha m hc) rfl (by kernel_rfl) (by kernel_rfl) (by kernel_rfl) (fun _ _ _ h => h) (Or.inl ⟨by rfl, fun w hS => by go_simp⟩) hHeld ?_
  simp only [Act.put, List.getElem_toArray, List.getElem_cons_zero, List.getElem_cons_succ, List.setIfInBounds_toArray, List.set_cons_zero, List.set_cons_succ]
  refine wpAnyH_take (i := 42) (v := .int .i64 m) rfl (by kernel_rfl) (by kernel_rfl) (by kernel_rfl) (fun _ _ _ h => h) (Or.inl ⟨by rfl, fun w hS => by go_simp⟩) hHeld ?_
  simp only [Act.put, List.getElem_toArray, List.getElem_cons_zero, List.getElem_cons_succ, List.setIfInBounds_toArray, List.set_cons_zero, List.set_cons_succ]
  refine wpAnyH_take (i := 43) (v := .bool false) rfl (by kernel_rfl) (by kernel_rfl) (by kernel_rfl) (fun _ _ _ h => h) (Or.inl ⟨by rfl, fun w hS => by go_simp⟩) hHeld ?_
  simp only [Act.put, List.getElem_toArray, List.getElem_cons_zero, List.getElem_cons_succ, List.setIfInBounds_toArray, List.set_cons_zero, List.set_cons_succ]
  refine wpAnyH_take (i := 44) (v := .bool false) rfl (by kernel_rfl) (by kernel_rfl) (by kernel_rfl) (fun _ _ _ h => h) (Or.inl ⟨by rfl, fun w hS => by go_simp⟩) hHeld ?_
  simp only [Act.put, List.getElem_toArray, List.getElem_cons_zero, List.getElem_cons_succ, List.setIfInBounds_toArray, List.set_cons_zero, List.set_cons_succ]
  refine wpAnyH_take (i := 45) (v := .bool false) rfl (by kernel_rfl) (by kernel_rfl) (by kernel_rfl) (fun _ _ _ h => h) (Or.inl ⟨by rfl, fun w hS => by go_simp⟩) hHeld ?_
  simp only [Act.put, List.getElem_toArray, List.getElem_cons_zero, List.getElem_cons_succ, List.setIfInBounds_toArray, List.set_cons_zero, List.set_cons_succ]
  refine wpAnyH_take (i := 46) (v := .pointer (some ⟨g, 0, none⟩)) rfl (by kernel_rfl) (by kernel_rfl) (by kernel_rfl) (fun _ _ _ h => h) (Or.inl ⟨by rfl, fun w hS => by go_simp⟩) hHeld ?_
  simp only [Act.put, List.getElem_toArray, List.getElem_cons_zero, List.getElem_cons_succ, List.setIfInBounds_toArray, List.set_cons_zero, List.set_cons_succ]
  refine wpAnyH_take (i := 47) (v := .int .i64 y) rfl (by kernel_rfl) (by kernel_rfl) (by kernel_rfl) (fun _ _ _ h => h) (Or.inl ⟨by rfl, fun w hS => by go_simp⟩) hHeld ?_
  simp only [Act.put, List.getElem_toArray, List.getElem_cons_zero, List.getElem_cons_succ, List.setIfInBounds_toArray, List.set_cons_zero, List.set_cons_succ]
  refine wpAnyH_take (i := 49) (v := .pointer (some ⟨g18, 1, none⟩)) rfl (by kernel_rfl) (by kernel_rfl) (by kernel_rfl) (fun _ _ _ h => h) (Or.inl ⟨by rfl, fun w hS => by go_simp⟩) hHeld ?_
  simp only [Act.put, List.getElem_toArray, List.getElem_cons_zero, List.getElem_cons_succ, List.setIfInBounds_toArray, List.set_cons_zero, List.set_cons_succ]
  refine wpAnyH_take (i := 50) (v := .pointer (some ⟨g18, 1, none⟩)) rfl (by kernel_rfl) (by kernel_rfl) (by kernel_rfl) (fun _ _ _ h => h) (Or.inl ⟨by rfl, fun w hS => by go_simp⟩) hHeld ?_
  simp only [Act.put, List.getElem_toArray, List.getElem_cons_zero, List.getElem_cons_succ, List.setIfInBounds_toArray, List.set_cons_zero, List.set_cons_succ]
  refine wpAnyH_take (i := 51) (v := .int .u8 kd) rfl (by kernel_rfl) (by kernel_rfl) (by kernel_rfl) (fun _ _ _ h => h) (Or.inl ⟨by rfl, fun w hS => by (have q1 := HK18.out _ hS; go_simp)⟩) hHeld ?_
  simp only [Act.put, List.getElem_toArray, List.getElem_cons_zero, List.getElem_cons_succ, List.setIfInBounds_toArray, List.set_cons_zero, List.set_cons_succ]
  refine wpAnyH_ready (rs := [48]) (by kernel_rfl) (by simp) ?_
  refine AllReadyH.cons rfl (fun KQ hK => ?_) AllReadyH.nil
  go_simp
  refine (HKD.out _ hHeld).mono ?_
  rintro e z3 ⟨rfl, a3⟩
  refine hK.out _ _ (grow_trans hHeld a3) (fun hHeld => ?_)
  clear hK KQ
  refine wpAnyH_take (i := 52) (v := .bool false) rfl (by kernel_rfl) (by kernel_rfl) (by kernel_rfl) (fun _ _ _ h => h) (Or.inl ⟨by rfl, fun w hS => by go_simp⟩) hHeld ?_
  simp only [Act.put, List.getElem_toArray, List.getElem_cons_zero, List.getElem_cons_succ, List.setIfInBounds_toArray, List.set_cons_zero, List.set_cons_succ]
  refine wpAnyH_take (i := 53) (v := .bool false) rfl (by kernel_rfl) (by kernel_rfl) (by kernel_rfl) (fun _ _ _ h => h) (Or.inl ⟨by rfl, fun w hS => by go_simp⟩) hHeld ?_
  simp only [Act.put, List.getElem_toArray, List.getElem_cons_zero, List.getElem_cons_succ, List.setIfInBounds_toArray, List.set_cons_zero, List.set_cons_succ]
  refine wpAnyH_take (i := 54) (v := .bool false) rfl (by kernel_rfl) (by kernel_rfl) (by kernel_rfl) (fun _ _ _ h => h) (Or.inl ⟨by rfl, fun w hS => by go_simp⟩) hHeld ?_
  simp only [Act.put, List.getElem_toArray, List.getElem_cons_zero, List.getElem_cons_succ, List.setIfInBounds_toArray, List.set_cons_zero, List.set_cons_succ]
  refine wpAnyH_take (i := 55) (v := .int .i64 y) rfl (by kernel_rfl) (by kernel_rfl) (by kernel_rfl) (fun _ _ _ h => h) (Or.inl ⟨by rfl, fun w hS => by go_simp⟩) hHeld ?_
  simp only [Act.put, List.getElem_toArray, List.getElem_cons_zero, List.getElem_cons_succ, List.setIfInBounds_toArray, List.set_cons_zero, List.set_cons_succ]
  refine wpAnyH_take (i := 56) (v := .bool ez) rfl (by kernel_rfl) (by kernel_rfl) (by kernel_rfl) (fun _ _ _ h => h) (Or.inl ⟨by rfl, fun w hS => by go_simp⟩) hHeld ?_
  simp only [Act.put, List.getElem_toArray, List.getElem_cons_zero, List.getElem_cons_succ, List.setIfInBounds_toArray, List.set_cons_zero, List.set_cons_succ]
  refine wpAnyH_take (i := 57) (v := .pointer (some ⟨g18, 1, none⟩)) rfl (by kernel_rfl) (by kernel_rfl) (by kernel_rfl) (fun _ _ _ h => h) (Or.inl ⟨by rfl, fun w hS => by go_simp⟩) hHeld ?_
  simp only [Act.put, List.getElem_toArray, List.getElem_cons_zero, List.getElem_cons_succ, List.setIfInBounds_toArray, List.set_cons_zero, List.set_cons_succ]
  refine wpAnyH_take (i := 58) (v := .pointer (some ⟨g18, 1, none⟩)) rfl (by kernel_rfl) (by kernel_rfl) (by kernel_rfl) (fun _ _ _ h => h) (Or.inl ⟨by rfl, fun w hS => by go_simp⟩) hHeld ?_
  simp only [Act.put, List.getElem_toArray, List.getElem_cons_zero, List.getElem_cons_succ, List.setIfInBounds_toArray, List.set_cons_zero, List.set_cons_succ]
  refine wpAnyH_take (i := 59) (v := .int .u8 kd) rfl (by kernel_rfl) (by kernel_rfl) (by kernel_rfl) (fun _ _ _ h => h) (Or.inl ⟨by rfl, fun w hS => by (have q1 := HK18.out _ hS; go_simp)⟩) hHeld ?_
  simp only [Act.put, List.getElem_toArray, List.getElem_cons_zero, List.getElem_cons_succ, List.setIfInBounds_toArray, List.set_cons_zero, List.set_cons_succ]
  refine wpAnyH_take (i := 60) (v := .bool ez) rfl (by kernel_rfl) (by kernel_rfl) (by kernel_rfl) (fun _ _ _ h => h) (Or.inl ⟨by rfl, fun w hS => by go_simp⟩) hHeld ?_
  simp only [Act.put, List.getElem_toArray, List.getElem_cons_zero, List.getElem_cons_succ, List.setIfInBounds_toArray, List.set_cons_zero, List.set_cons_succ]
  refine wpAnyH_take (i := 61) (v := .bool false) rfl (by kernel_rfl) (by kernel_rfl) (by kernel_rfl) (fun _ _ _ h => h) (Or.inl ⟨by rfl, fun w hS => by go_simp⟩) hHeld ?_
  simp only [Act.put, List.getElem_toArray, List.getElem_cons_zero, List.getElem_cons_succ, List.setIfInBounds_toArray, List.set_cons_zero, List.set_cons_succ]
  refine wpAnyH_take (i := 62) (v := .bool false) rfl (by kernel_rfl) (by kernel_rfl) (by kernel_rfl) (fun _ _ _ h => h) (Or.inl ⟨by rfl, fun w hS => by go_simp⟩) hHeld ?_
  simp only [Act.put, List.getElem_toArray, List.getElem_cons_zero, List.getElem_cons_succ, List.setIfInBounds_toArray, List.set_cons_zero, List.set_cons_succ]
  refine wpAnyH_done (by kernel_rfl) ?_ _
  have HX9 := hidden hHeld
  clear hHeld
  go_wp2_with fail
  go_loopw [25, 26] (fun av iv wr => ∃ (k x : Nat), k ≤ m ∧ iv = .int .i64 k ∧ av = .int .i64 (x : Int) ∧ Hid ((hs ++ [fi])[k]? = some x) ∧ Hid (Below x9.heap.size x9 wr)) (fun _ iv _ => m - (intOf iv).toNat)
  case atStart => exact ⟨0, h, by omega, rfl, by rw [HHE.out], HHD0, HX9⟩
  case round =>
    obtain ⟨k, x, hk, rfl, rfl, hx, HBW⟩ := hrel
    by_cases hlt : k < m
    · obtain ⟨x', hA⟩ := HAT.out k (by rw [← HM.out]; exact hlt)
      have hxx : x = x' := by
        have h1 := hA.at_
        have h2 := hx.out
        rw [List.getElem?_append_left (by rw [← HM.out]; exact hlt), h1] at h2
        injection h2 with h2
        exact h2.symm
      subst hxx
      have hl3 := HLS.out _ HBW.out
      obtain ⟨lb, lc', e, _⟩ := lst_pos hl3 (by omega)
      injection e with e1 e2 e3
      subst e1
      subst e3
      clear e2
      have hcl : wr.cell? ⟨lb, k, none⟩ = some (.int .i64 (x : Int)) := by
        rw [lst_cell hl3 k (by omega)]
        have hkl : k < hs.length := by rw [← HM.out]; exact hlt
        have h1 := hA.at_
        rw [List.getElem?_eq_getElem hkl] at h1
        injection h1 with h1
        rw [nats_get hs k hkl]
        simp [List.getD, hkl, h1]
      have hca := cat_is (cs := cs) hA.pos
      have hdp := hA.dp
      have hlt2 := hA.lt
      rw [Nat.zero_add] at hdp hlt2
      have HDP : Hid (∀ w', Below x5.heap.size x5 w' → Calls Tryd.prog 18 #[.pointer (some ⟨g, 0, none⟩), .int .i64 (x : Int)] w' fun e w'' => e = .returned (.int .i64 (k : Int)) ∧ Below w'.heap.size w' w'') := fun w' hb => by
        have := depth_any (HV.out.grow hb) (x : Int)
        rwa [show vDp true (cat cs (x : Int)) = (k : Int) by rw [hca]; unfold vDp; rw [if_pos rfl, if_pos hA.kind, hdp]] at this
      have HSD : Hid (∀ w', Below x5.heap.size x5 w' → Calls Tryd.prog 19 #[.pointer (some ⟨g, 0, none⟩), .int .i64 (x : Int)] w' fun e w'' => e = .returned (.tuple #[.int .i64 ((ce cs (x - 1)).l : Int), .int .i64 ((ce cs (x - 1)).r : Int)]) ∧ Below w'.heap.size w' w'') := fun w' hb => by
        have := sides_any (HV.out.grow hb) (x : Int)
        rwa [hca] at this
      have HBT : Hid (∀ w', Calls Tryd.prog 20 #[.agg (B K), .int .i64 (k : Int)] w' fun e w'' => e = .returned (.int .i64 (kb K k)) ∧ Below w'.heap.size w' w'') := fun w' => by
        have := bit_any K (k : Int) w' HK.out
        rwa [kbi_in K _ hlt2] at this
      have hnx := hA.next
      rw [Nat.zero_add] at hnx
      have HK5 := hidden (HB4.out _ (grow_trans HX5.out HBW.out))
      have hkb := kb_two K k
      generalize (ce cs (x - 1)).l = ll at HSD hnx
      generalize (ce cs (x - 1)).r = rr at HSD hnx
      generalize kb K k = β at HBT hnx hkb
      obtain ⟨xy, hxy⟩ : ∃ xy : Int, xy = (x : Int) := ⟨_, rfl⟩
      rw [← hxy] at hcl HDP HSD
      rw [← hxy]
      have k0 : (0 : Int) ≤ (k : Int) := by omega
      have k1 : (k : Int) < (m : Int) := by omega
      have hwk : wrap64 ((k : Int) + 1) = ((k + 1 : Nat) : Int) := by rw [Go.IntWalk.wrap64_in _ (by omega)]; rfl
      clear hl3 hA hx hca hdp hxy
      rcases hkb with rfl | rfl
      · rw [if_neg (by omega)] at hnx
        have HNX := hidden hnx
        clear hnx
        go_wp2_with (first
          | (go_at_call 18; refine (HDP.out _ (grow_trans HX5.out HBW.out)).mono ?_; rintro e y1 ⟨rfl, b1⟩; have HB6 := hidden (grow_trans HBW.out b1); clear b1)
          | (go_at_call 19; refine (HSD.out _ (grow_trans HX5.out HB6.out)).mono ?_; rintro e y2 ⟨rfl, b2⟩; have HB8 := hidden (grow_trans HB6.out b2); clear b2)
          | ((with_reducible refine at_ldd 193 4 ?_); refine wpList_ld _ rfl _ _ rfl b4 _ rfl (HB4.out _ (grow_trans HX5.out HB8.out)) _ _ Tryd.underlying24 HPS.out ?_)
          | (go_at_call 20; refine (HBT.out _).mono ?_; rintro e y3 ⟨rfl, b3⟩; have HB7 := hidden (grow_trans HB8.out b3); clear b3))
        exact ⟨⟨k + 1, ll, by omega, by go_num, rfl, HNX, HB7⟩, by simp [intOf]; exact mea_step k1⟩
      · rw [if_pos rfl] at hnx
        have HNX := hidden hnx
        clear hnx
        go_wp2_with (first
          | (go_at_call 18; refine (HDP.out _ (grow_trans HX5.out HBW.out)).mono ?_; rintro e y1 ⟨rfl, b1⟩; have HB6 := hidden (grow_trans HBW.out b1); clear b1)
          | (go_at_call 19; refine (HSD.out _ (grow_trans HX5.out HB6.out)).mono ?_; rintro e y2 ⟨rfl, b2⟩; have HB8 := hidden (grow_trans HB6.out b2); clear b2)
          | ((with_reducible refine at_ldd 193 4 ?_); refine wpList_ld _ rfl _ _ rfl b4 _ rfl (HB4.out _ (grow_trans HX5.out HB8.out)) _ _ Tryd.underlying24 HPS.out ?_)
          | (go_at_call 20; refine (HBT.out _).mono ?_; rintro e y3 ⟨rfl, b3⟩; have HB7 := hidden (grow_trans HB8.out b3); clear b3))
        exact ⟨⟨k + 1, rr, by omega, by go_num, rfl, HNX, HB7⟩, by simp [intOf]; exact mea_step k1⟩
    · obtain rfl : k = m := by omega
      have hxf : x = fi := by
        have h2 := hx.out
        rw [List.getElem?_append_right (by rw [← HM.out]; exact Nat.le_refl _), ← HM.out, Nat.sub_self] at h2
        injection h2 with h2
        exact h2.symm
      have hxy : (x : Int) = y := by rw [hxf, HFY.out]
      rw [hxy]
      have nlt : ¬ (k : Int) < (k : Int) := by omega
      have HBX := hidden (grow_trans HX5.out HBW.out)
      clear hxf hxy hlt hk hx
      go_wp2_with (first
        | (go_at_call 21; refine (HRO.out _ HBX.out).mono ?_; rintro e y1 ⟨rfl, b1⟩; have H1 := hidden (grow_trans HBX.out b1); clear b1)
        | ((with_reducible refine at_ldd 204 4 ?_); refine wpList_ld _ rfl _ _ rfl b4 _ rfl (HB4.out _ H1.out) _ _ Tryd.underlying24 HPS.out ?_)
        | (go_at_call 9; refine (HFO.out _ H1.out).mono ?_; rintro e y2 ⟨v2, bb2, rfl, b2⟩; have H2 := hidden (grow_trans H1.out b2); clear b2)
        | ((with_reducible refine at_ldd 212 4 ?_); refine wpList_ld _ rfl _ _ rfl b4 _ rfl (HB4.out _ H2.out) _ _ Tryd.underlying24 HPS.out ?_)
        | (go_at_call 11; refine (HWO.out _ H2.out).mono ?_; rintro e y3 ⟨wa, wn, wc, wN, rfl, hwN, b3⟩; have HWN := hidden hwN; have H3 := hidden (grow_trans H2.out b3); clear b3 hwN)
        | ((with_reducible refine at_ald 33 ?_); refine wpList_al _ rfl _ rfl _ HZP.out ?_; intro y4 g33 hg33 hl33 B33 b4'; have HB33 := hidden B33; have HG33 : Hid (x5.heap.size ≤ g33) := Nat.le_trans H3.out.size hg33; have H4 := hidden (grow_trans H3.out b4'); clear B33 hg33 hl33 b4')
        | ((with_reducible refine at_st 33 ?_); refine wpList_sto _ rfl _ _ _ rfl g33 _ (encR (.slice wa wn wc) wN).toArray rfl rfl HB33.out (HSz.out _ wN HWN.out).1 (HSz.out _ wN HWN.out).2 (encR_one _ _ _ _) ?_; intro y5 B5 r5; have H5 := hidden (below_row H4.out r5 HG33.out); clear B5 r5)
        | ((with_reducible refine at_ldd 219 4 ?_); refine wpList_ld _ rfl _ _ rfl b4 _ rfl (HB4.out _ H5.out) _ _ Tryd.underlying24 HPS.out ?_)
        | (go_at_call 13; refine (HHO.out _ H5.out).mono ?_; rintro e y6 ⟨v6, bb6, rfl, b6⟩; have H6 := hidden (grow_trans H5.out b6); clear b6)
        | ((with_reducible refine at_ldd 227 4 ?_); refine wpList_ld _ rfl _ _ rfl b4 _ rfl (HB4.out _ H6.out) _ _ Tryd.underlying24 HPS.out ?_)
        | (go_at_call 14; refine (HDO.out _ H6.out).mono ?_; rintro e y7 ⟨bb7, rfl, b7⟩; have H7 := hidden (grow_trans H6.out b7); clear b7))
      go_ret
      exact ⟨rfl, grow_trans H05.out H7.out⟩

end Go.Proofs.YtdpaanidangnlaaDoor

/- What every statement's proof asks of the program as a whole. -/
namespace Go.Proofs.YtdpaanidangnlaaDoor
set_option maxRecDepth 20000
open Go.ChangeShapes Go.WideShapes Go.ChangeAt Go.RowKit

theorem ownK : ownKnob Tryd.prog.godebug = none := by kernel_rfl
theorem laidOut : laidOutB Tryd.prog = true := by kernel_rfl

theorem okWide_st {t : TypeId} {fs : Array Field} {W : World} {base : Nat} {v : Value} (ht : Tryd.prog.underlying t = some (.struct fs)) (h : Value.okWide Tryd.prog W .any base t v) : ∃ cs, v = .agg cs := by
  unfold Value.okWide at h
  cases v <;> simp_all

end Go.Proofs.YtdpaanidangnlaaDoor

/- What a statement's arguments are in memory: of an argument that is a slice of bytes: it reads as bytes, and is no longer than memory. -/
namespace Go.Proofs.YtdpaanidangnlaaDoor
set_option maxRecDepth 20000
open Go.ChangeShapes Go.WideShapes Go.ChangeAt Go.RowKit

theorem cells_byte : Tryd.prog.cellsOf 5 = 1 := by kernel_rfl
theorem bytesOf_byte : Tryd.prog.bytesOf 5 = 1 := by kernel_rfl

/-- A slice of bytes that came in. -/
theorem arg_bytes {H : Type} {enc : TypeId × Value → H} {W : World} {base : Nat} {v : Value} {d : DataW H} {p : List MemPlace} (hv : Value.okWide Tryd.prog W .any base 32 v)
    (h : DataW.Trod enc Tryd.prog W 0 (fun _ => true) true 32 v d p) {ts : List TypeId} {ds : List (DataW H)} (hsz : (DataW.weightsEach Tryd.prog ts ds).all (· ≤ reachBytes) = true) (j : Nat) (ht : ts[j]? = some 32) (hd : ds[j]? = some d) :
    ∃ zs, Reads W v zs ∧ zs.length ≤ 140737488355328 - 4096 ∧ ((d = .nil ∧ zs = []) ∨ ∃ el sp, d = .slice el sp ∧ el.length = zs.length) := by
  obtain ⟨a, len, cap, rfl⟩ := okWide_slice u_bytes hv
  obtain ⟨fuel, hf⟩ := h
  rcases open_ints u_bytes u_byte cells_byte hf with ⟨hcs, hx⟩ | ⟨x, l, c, zs, hcs, _, hl, hm, hz, hx, hcell, hwz⟩
  · simp [Value.cells] at hcs
    obtain ⟨rfl, rfl, rfl⟩ := hcs
    simp only [Prod.mk.injEq] at hx
    exact ⟨[], Reads.nil _, by simp, .inl ⟨hx.1, rfl⟩⟩
  · simp [Value.cells] at hcs
    obtain ⟨rfl, rfl, rfl⟩ := hcs
    simp at hz
    simp only [Prod.mk.injEq] at hx
    have hlen : (zs.take len).length = len := by simp; omega
    have hs := sized_slice hsz ht (by rw [hd, hx.1]) u_bytes
    rw [bytesOf_byte] at hs
    simp only [lits, List.length_map, List.length_take, List.length_drop, reachBytes] at hs
    refine ⟨zs.take len, ⟨some x, cap, by rw [hlen], by omega, fun h => by simp at h, ?_, ?_⟩, by omega, .inr ⟨_, _, hx.1, by simp [lits]⟩⟩
    · intro z hz'
      have := bounds_u8 (hwz z (List.mem_of_mem_take hz'))
      omega
    · intro hp
      rw [hlen] at hp
      obtain ⟨b, off, spot⟩ := x
      have hspot : spot = none := by
        have := World.cell?_spot (hcell 0 (by omega))
        simpa [Addr.add] using this
      subst hspot
      refine ⟨b, off, rfl, fun i hi => ?_⟩
      rw [hlen] at hi
      have := hcell i (by omega)
      rw [Addr.add_lit] at this
      rw [this]
      simp [List.getD, hi]

end Go.Proofs.YtdpaanidangnlaaDoor
