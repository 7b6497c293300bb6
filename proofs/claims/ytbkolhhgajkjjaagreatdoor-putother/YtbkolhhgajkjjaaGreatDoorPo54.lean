/- PutOther: behind any calls, Put and Cost of any handle as a root are answered as the document's are, and both stores tell the same of every handle then. No condition. -/
import Derived.Test.YtbkolhhgajkjjaaGreatDoorPo53
import Derived.LaidMore
import Derived.Stop.Joined
import Derived.Lib.LaidTab
import Derived.Test.YtbkolhhgajkjjaaGreatDoorCards
import Derived.Test.YtbkolhhgajkjjaaGreatDoorTie
import Derived.SevenTiedAt
namespace Go.Proofs.YtbkolhhgajkjjaaGreatDoor
set_option maxRecDepth 20000
open Go.RowKit
theorem Ycr {w0 w : World} {gc g gs q room : Nat} {cs : List (Nat × Ce)} {fr : List Nat} {root : Int} {va : Value} {al : List Int} {nb : Nat} (h : Sn w0 w gc g gs q room cs fr root va al nb) (h5 : room ≤ 5000) (hL : ∀ w', Below w0.heap.size w0 w' → Laid w') : ∀ w', Below w.heap.size w w' → Calls Tryz.prog 11 #[.pointer (some ⟨g, 0, none⟩), .pointer (some ⟨q, 0, none⟩), .bool false] w' fun e w'' => e = .returned (.bool true) ∧ Below w'.heap.size w' w'' := fun w' hb => by
 obtain ⟨S, o⟩ := (h.grow hb).so
 exact Ycu o.p h5 (hL _ (h.grow hb).low) false (fun e => by cases e)
set_option maxHeartbeats 8000000 in
theorem Zlb (room : Int) (v : Value) (qs : List Ap) (a : Ap) (w : World) (hv : ApAt w v qs) (hK : Key a.K) (hr : Reads w a.v a.bs) (hL : Laid w) : Calls Tryz.prog 5 #[.int .i64 room, v, .agg (apC a).toArray] w fun e w' => e = .returned (.bool true) ∧ Below w.heap.size w w' := by
 have HLa : Hid (∀ w', Below w.heap.size w w' → Laid w') := fun w' hb => hL.grow hb
 have hvg : ∀ w', Below w.heap.size w w' → ApAt w' v qs := fun w' hb => by
  obtain ⟨a, c, e, h1, h2⟩ := hv
  refine ⟨a, c, e, fun hp => ?_, fun i hi => ⟨(h2 i hi).1, (h2 i hi).2.1.grow hb, (h2 i hi).2.2⟩⟩
  obtain ⟨b, off, e1, h3⟩ := h1 hp
  exact ⟨b, off, e1, fun i hi k u hu => Zau hb (h3 i hi k u hu)⟩
 have HLG : Hid (∀ lb : Bool, (lb = false ↔ LgOk room qs) → ∀ w1, Below w.heap.size w w1 → Calls Tryz.prog 12 #[.int .i64 room, v] w1 fun e w' => e = .returned (.bool lb) ∧ Below w1.heap.size w1 w') := fun lb hlb w1 hb => Yga room v qs w1 (hvg w1 hb) lb hlb
 have HPL : Hid (LgOk room qs → ∀ w', Below w.heap.size w w' → ∃ rm : Nat, rm ≤ 5000 ∧ Calls Tryz.prog 13 #[.int .i64 room, v] w' (PlPost9 w' rm qs.length)) := fun hg w' hb => by
  obtain ⟨rm, rfl⟩ : ∃ n : Nat, room = (n : Int) := ⟨room.toNat, by have := hg.1; omega⟩
  exact ⟨rm, by have := hg.2.1; omega, Yhp rm v qs w' (hvg w' hb) (fun w'' h => hL.grow (Zb hb h)) hg⟩
 obtain ⟨k, K, lv, bs, hh⟩ := a
 have hsh : apC ⟨k, K, lv, bs, hh⟩ = apL k K lv hh := rfl
 rw [hsh]
 have HKL : Hid (K.length = 32) := hK.1
 have HKK : Hid (Key K) := hK
 have HAZ : Hid ((Tryz.prog.info? 47).map (·.size) = some (apL k K lv hh).toArray.toList.length) := by show _ = _; rw [List.toList_toArray, Zbi _ _ _ _ HKL.out]; exact Zcc
 have HRD : Hid (∀ w', Below w.heap.size w w' → Reads w' lv bs) := fun w' hb => Reads.grow hr hb
 obtain ⟨la, lc, hlv, _⟩ := hr
 have hlv' : lv = .slice la bs.length lc := hlv
 subst hlv'
 clear hL hvg hv hsh hK hlv
 by_cases hg : LgOk room qs
 ·have HL1 := Za (HLG.out false (by simp [hg]))
  have HP1 := Za (HPL.out hg)
  have HLEN : Hid (qs.length ≤ 16) := hg.2.2.1
  clear HLG HPL hg
  by_cases hn : 2000 < bs.length
  ·have n1 : (2000 : Int) < (bs.length : Int) := by omega
   go_enter Tryz.func5, Tryz.ntmps5
   go_wp2_with (first
    | ((with_reducible refine Zo 5 ?_); refine Zc _ rfl _ _ rfl _ rfl ?_; intro w1 b5 hg5 hl5 B5 q5; have HQ1 := Za q5; have HB1 := Za B5; clear hg5 hl5 B5 q5)
    | (go_at_call 12; refine (HL1.out _ HQ1.out).mono ?_; rintro e w2 ⟨rfl, q2⟩; have HQ2 := Za (Zb HQ1.out q2); have HB2 := Za (HB1.out.grow q2); have z2 := Zhh HB2.out HKL.out; clear q2))
   go_ret
   exact ⟨rfl, HQ2.out⟩
  ·have n1 : ¬ (2000 : Int) < (bs.length : Int) := by omega
   have HN2 : Hid (bs.length ≤ 2000) := by show _ ≤ _; omega
   clear hn
   go_enter Tryz.func5, Tryz.ntmps5
   go_wp2_with (first
    | ((with_reducible refine Zo 5 ?_); refine Zc _ rfl _ _ rfl _ rfl ?_; intro w1 b5 hg5 hl5 B5 q5; have HQ1 := Za q5; have HB1 := Za B5; clear hg5 hl5 B5 q5)
    | (go_at_call 12; refine (HL1.out _ HQ1.out).mono ?_; rintro e w2 ⟨rfl, q2⟩; have HQ2 := Za (Zb HQ1.out q2); have HB2 := Za (HB1.out.grow q2); have z2 := Zhh HB2.out HKL.out; clear q2))
   obtain ⟨rm, h5, hp⟩ := HP1.out _ HQ2.out
   have HP := Za hp
   have H5 := Za h5
   clear hp h5 HP1 HL1
   go_wp2_with (first
    | (go_at_call 13; refine HP.out.mono ?_; rintro e w3 ⟨gc, g, gs, q, cs, fr, root, va, al, rfl, s3⟩; have HS3 := Za s3; have HB3 := Za (HB2.out.grow s3.low); have z3 := Zcn HB3.out HKL.out; have HLB : Hid (b5 < w2.heap.size) := HB2.out.lt; clear s3)
    | ((with_reducible refine Zl 30 5 ?_); refine Zby _ rfl _ _ rfl b5 0 rfl (apL k K (.slice la bs.length lc) hh).toArray.toList _ HB3.out.range Tryz.underlying47 rfl HAZ.out ?_)
    | (go_at_call 14; refine (Zof HS3.out H5.out (by have := HLEN.out; omega) hh ⟨k, K, .slice la bs.length lc, bs, hh⟩ HKK.out (fun w' hb => HRD.out _ (Zb HQ2.out hb))).mono ?_; rintro e w4 ⟨rfl, b4⟩; have HS4 := Za (HS3.out.grow b4); have HB4 := Za (HB3.out.grow b4); have z4 := Zcn HB4.out HKL.out; clear b4)
    | ((with_reducible refine Zl 38 5 ?_); refine wpList_load_mid rfl _ _ rfl b5 0 rfl (apL k K (.slice la bs.length lc) hh).toArray.toList _ HB4.out.range Tryz.underlying47 rfl HAZ.out ?_)
    | (go_at_call 15; obtain ⟨S4, o4⟩ := HS4.out.so; refine (Ybq o4 H5.out (by have := HLEN.out; omega) (fun w' hb => HLa.out _ (Zb HQ2.out hb)) hh ⟨k, K, .slice la bs.length lc, bs, hh⟩ HKK.out (fun w' hb => HRD.out _ (Zb HQ2.out hb)) HN2.out).mono ?_; rintro e w5 ⟨y5, e5, cs5, fr5, rfl, p5, oo5⟩; have HS5 := Za (o4.next _ _ _ (qs.length + 1) p5 (fun i => by have := oo5 i; have := o4.own i; omega)); clear p5 oo5 o4))
   have HSB := Za HS5.out.blk
   have HSM := Za (Ycr HS5.out H5.out (fun w' hb => HLa.out _ (Zb HQ2.out hb)))
   refine wp_region_held_drew (S := fun w' => Below w5.heap.size w5 w') (by kernel_rfl) (below_drewN (Below.refl _ _) 1) (fun hHeld => ?_)
   refine tkp 0 (.bool true) hHeld ?_
   simp only [zq]
   refine tkp 1 (.bool true) hHeld ?_
   simp only [zq]
   refine tkp 2 (.pointer (some ⟨gc, 0, none⟩)) hHeld ?_
   simp only [zq]
   refine tkp 3 (.pointer (some ⟨gc, 0, none⟩)) hHeld ?_
   simp only [zq]
   refine tkp 4 (.pointer (some ⟨gc, 0, none⟩)) hHeld ?_
   simp only [zq]
   refine tkg 5 (.pointer (some ⟨g, 0, none⟩)) rfl (Or.inl ⟨by rfl, fun w hS => by (have q1 := (Zr (HSB.out.grow hS)).1; go_simp)⟩) hHeld ?_
   simp only [zq]
   refine tkp 6 (.pointer (some ⟨gc, 0, none⟩)) hHeld ?_
   simp only [zq]
   refine tkp 7 (.pointer (some ⟨gc, 0, none⟩)) hHeld ?_
   simp only [zq]
   refine tkp 8 (.pointer (some ⟨gc, 1, none⟩)) hHeld ?_
   simp only [zq]
   refine tkg 9 (.pointer (some ⟨q, 0, none⟩)) rfl (Or.inl ⟨by rfl, fun w hS => by (have q1 := (Zr (HSB.out.grow hS)).2.1; go_simp)⟩) hHeld ?_
   simp only [zq]
   refine wpAnyH_ready (rs := [10]) (by kernel_rfl) (by simp) ?_
   refine AllReadyH.cons rfl (fun KQ hK => ?_) AllReadyH.nil
   go_simp
   refine (HSM.out _ hHeld).mono ?_
   rintro e z1 ⟨rfl, a1⟩
   refine hK.out _ _ (Zb hHeld a1) (fun hHeld => ?_)
   clear hK KQ
   refine tkp 11 (.bool true) hHeld ?_
   simp only [zq]
   refine tkp 12 (.bool true) hHeld ?_
   simp only [zq]
   refine wpAnyH_done (by kernel_rfl) ?_ _
   have HH := Za (Zb HQ2.out (Zb HS5.out.low hHeld))
   clear hHeld
   go_wp2
   go_ret
   exact ⟨rfl, HH.out⟩
 ·have HL1 := Za (HLG.out true (by simp [hg]))
  clear HLG HPL hg
  go_enter Tryz.func5, Tryz.ntmps5
  go_wp2_with (first
   | ((with_reducible refine Zo 5 ?_); refine Zc _ rfl _ _ rfl _ rfl ?_; intro w1 b5 hg5 hl5 B5 q5; have HQ1 := Za q5; have HB1 := Za B5; clear hg5 hl5 B5 q5)
   | (go_at_call 12; refine (HL1.out _ HQ1.out).mono ?_; rintro e w2 ⟨rfl, q2⟩; have HQ2 := Za (Zb HQ1.out q2); have HB2 := Za (HB1.out.grow q2); have z2 := Zhh HB2.out HKL.out; clear q2))
  go_ret
  exact ⟨rfl, HQ2.out⟩
open Go.ChangeShapes Go.WideShapes Go.ChangeAt Go.WideMaps Go.WideElems Go.RowKit
abbrev laid2 : List (String × DataW Unit) := Rows.storeScriptRow.laid
abbrev nameOf (i : Nat) : String := (laid2.map (·.1)).getD i Rows.storeScriptRow.func
theorem Ygk : Tryz.prog.globalNamed (nameOf 0) = some 0 := by kernel_rfl
theorem Yei : Tryz.prog.globalNamed (nameOf 1) = some 1 := by kernel_rfl
theorem Yfc : (Tryz.prog.globals[0]?).map (·.type) = some 195 := by kernel_rfl
theorem Ycq : (Tryz.prog.globals[1]?).map (·.type) = some 204 := by kernel_rfl
theorem Yav (os : Os) (args : Array Value) : laidMetH Tryz.prog laid2 ((World.doorLaid Tryz.prog 400 os).forCall (fun _ _ => 0) ⟨#[], args, []⟩).memory :=
 laidMetH_of_parts3 (fuel := 8) (laidMet_of_run' 8 (by kernel_rfl) (by kernel_rfl)) (by kernel_rfl) (by kernel_rfl)
theorem Ztu : (Rows.laid_rootcellar_sha_first : DataW Unit) = Lib.tabData .u32 hs := rfl
theorem Zrv : (Rows.laid_rootcellar_sha_rounds : DataW Unit) = Lib.tabData .u32 ks := rfl
theorem Ybc : Tryz.prog.cellsOf 195 = 8 := by kernel_rfl
theorem Zxd : Tryz.prog.cellsOf 204 = 64 := by kernel_rfl
theorem Zxe : Tryz.prog.cellsOf 194 = 1 := by kernel_rfl
theorem Ydn {W : World} (h : laidMetH Tryz.prog laid2 W) : Laid W := by
 rw [MakeChecks.laidMetH_plain _ _ _ (by kernel_rfl)] at h
 obtain ⟨ps, ⟨g0, t0, cs0, f0, p0, q0, hg0, ht0, hv0, hd0, ⟨g1, t1, cs1, f1, p1, q1, hg1, ht1, hv1, hd1, _, _⟩, _⟩, _, _⟩ := h
 obtain rfl := Option.some.inj (Ygk.symm.trans hg0)
 obtain rfl := Option.some.inj (Yei.symm.trans hg1)
 obtain rfl := Option.some.inj (Yfc.symm.trans ht0)
 obtain rfl := Option.some.inj (Ycq.symm.trans ht1)
 rw [Ztu] at hd0
 rw [Zrv] at hd1
 have e0 := Lib.cells_of_tab Tryz.underlying195 Tryz.underlying194 Zxe Ybc hd0
 have e1 := Lib.cells_of_tab Tryz.underlying204 Tryz.underlying194 Zxe Zxd hd1
 have c1 : ∀ i, i < 64 → W.cell? ⟨1, i, none⟩ = some (.int .u32 (ks.getD i 0)) := by
  intro i hi
  rw [World.var?_cell hg1 hv1 i, ← Array.getElem?_toList, e1, List.getElem?_map, List.getElem?_eq_getElem (show i < ks.length from hi)]
  simp [List.getD, show i < ks.length from hi]
 have c0 : ∀ i, i < 8 → W.cell? ⟨0, i, none⟩ = some (.int .u32 (hs.getD i 0)) := by
  intro i hi
  rw [World.var?_cell hg0 hv0 i, ← Array.getElem?_toList, e0, List.getElem?_map, List.getElem?_eq_getElem (show i < hs.length from hi)]
  simp [List.getD, show i < hs.length from hi]
 exact ⟨block_lt_of_cell (c1 0 (by omega)), c1, c0⟩
end Go.Proofs.YtbkolhhgajkjjaaGreatDoor
namespace Go.Proofs.YtbkolhhgajkjjaaGreatDoor
set_option maxRecDepth 100000
open Go.ChangeShapes Go.WideShapes Go.ChangeAt Go.RowKit
namespace putOther
theorem Yfy (os : Os) (started : os.Started) (H : Type) (enc : TypeId × Value → H) :
  ReturnsInHanded {} Tryz.checked os 5 .any (fun w args => (Rows.putOtherSpec.pre enc Tryz.prog Tryz.f5 [] false w args ∧ laidMetH Tryz.prog laid2 w) ∧ sizedMet enc Tryz.prog Tryz.f5 (OpenSpec.ofChange Rows.putOtherSpec) false w args)
   (Rows.putOtherSpec.post enc Tryz.prog Tryz.f5 false true false false) := by
 refine returnsInHanded_of_change_and (C := Tryz.checked) (X := fun w _ => laidMetH Tryz.prog laid2 w) (fun _ _ _ hh h => h.of_heap hh) Yij started (by kernel_rfl) Tryz.func5
  (ChangeSpec.witness_shaped (enc := enc) (C := Tryz.checked) (os := os) (X := fun w _ => laidMetH Tryz.prog laid2 w) false (World.doorLaid Tryz.prog 400 os) #[.int .i64 0, .slice none 0 0, .agg (apC default).toArray] 8 rfl (World.shaped_of_RefB (by kernel_rfl) (by kernel_rfl)) (by kernel_rfl) (by kernel_rfl) (by kernel_rfl) (Yav os _)) ?_
 intro W base args ds gs before hval0 hW hcnd hsz0 hL _
 have hval : ∀ (j : Nat) t v, Tryz.f5.params[j]? = some t → args[j]? = some v → Value.okWide Tryz.prog W .any base t v := hval0
 have hW' := hW
 obtain ⟨p, q, hA0, hV, rfl, hfz, hnd⟩ := hW
 have hA : DataW.TrodAll enc Tryz.prog W 0 (fun _ => true) true Tryz.f5.params.toList args.toList ds p := hA0
 have hsz : (DataW.weightsEach Tryz.prog (Tryz.f5.params.toList ++ Rows.putOtherSpec.plain.varTypes Tryz.prog) (ds ++ gs)).all (· ≤ reachBytes) = true := hsz0
 rw [Tryz.params5] at hA hval hsz
 obtain ⟨v0, vs0, d0, ds0, p0, q0, hargs, rfl, rfl, h0, r0⟩ := trodAll_cons hA
 obtain ⟨v1, vs1, d1, ds1, p1, q1, rfl, rfl, rfl, h1, r1⟩ := trodAll_cons r0
 obtain ⟨v2, vs2, d2, ds2, p2, q2, rfl, rfl, rfl, h2, r2⟩ := trodAll_cons r1
 obtain ⟨rfl, rfl, rfl⟩ := trodAll_nil r2
 obtain rfl : args = #[v0, v1, v2] := by cases args; simp_all
 obtain ⟨rfl, rfl⟩ := trodVars_none hV
 have lt0 : ∀ x ∈ p0, x.block < W.heap.size := by obtain ⟨m, hm⟩ := h0; exact DataW.trod_lt m _ _ _ hm
 have lt1 : ∀ x ∈ p1, x.block < W.heap.size := by obtain ⟨m, hm⟩ := h1; exact DataW.trod_lt m _ _ _ hm
 have lt2 : ∀ x ∈ p2, x.block < W.heap.size := by obtain ⟨m, hm⟩ := h2; exact DataW.trod_lt m _ _ _ hm
 obtain ⟨R, rfl, _, _, _⟩ := open_int Tryz.underlying3 (hval 0 3 v0 rfl rfl) h0
 obtain ⟨qs, hq⟩ := Zxt (hval 1 38 v1 rfl rfl) h1 hsz 1 rfl rfl
 obtain ⟨la, rfl, hlk, hlr, _⟩ := Ybf (hval 2 47 v2 rfl rfl) h2 hsz 2 rfl rfl
 clear hA0 hval0
 refine (Zlb R v1 qs la W hq hlk hlr (Ydn hL)).mono fun e W' ⟨he, bel⟩ => ?_
 subst he
 have t0 := Below.trod Zpb (by kernel_rfl) (of_decide_eq_true (by kernel_rfl)) h0 bel lt0
 have t1 := Below.trod Zpb (by kernel_rfl) (of_decide_eq_true (by kernel_rfl)) h1 bel lt1
 have t2 := Below.trod Zpb (by kernel_rfl) (of_decide_eq_true (by kernel_rfl)) h2 bel lt2
 exact ⟨_, rfl, _, _, _, [], _, [], hW', trodAll_mk1 (shut_bool Tryz.underlying4 _), (trodAll_cons_mk t0 (trodAll_cons_mk t1 (trodAll_cons_mk t2 trodAll_mk0))), rfl, bel.frame _, fun h => by cases h⟩
theorem over : Rows.PutOtherSaid :=
 OpenClaim.holds_of_wide 5 Tryz.f5 rfl rfl rfl rfl rfl rfl rfl ⟨rfl, rfl, rfl, rfl, rfl⟩ rfl rfl rfl rfl rfl (by kernel_rfl) Tryz.func5 (by kernel_rfl)
  (of_decide_eq_true (by kernel_rfl)) (by unfold Func.isWrapper; first | (rw [if_pos (by decide +kernel)]; kernel_rfl) | (rw [if_neg (by decide +kernel)]; exact ⟨rfl, rfl⟩))
  (fun os started H enc _ => Yfy os started H enc)
end putOther
theorem putOther_holds : Rows.PutOtherCardSaid :=
 Claim7.holds_tied_plain_at .later [] [.data, .data] true (true, "07597280168ee3ed2535d6a6bd1aa8c73074fc522ea67197fefa7bf5f37f8fc6") false
  putOther.over (fun _ h => by cases h) (by kernel_rfl) (fun _ h => by cases h) putOther_row_tie rfl ⟨rfl, rfl⟩ (by kernel_rfl) rfl
  (fun f fn hf hfn => by
   obtain rfl : f = 5 := Option.some.inj ((show Tryz.prog.funcNamed Rows.putOtherRow.func = some 5 by kernel_rfl).symm.trans hf) |>.symm
   obtain rfl : fn = Tryz.f5 := (Option.some.inj (Tryz.func5.symm.trans hfn)).symm
   exact ⟨by kernel_rfl, fun j t ht => by
    rw [Tryz.params5] at ht
    have hm : t ∈ [3, 38, 47] := by simpa using Array.mem_of_getElem? ht
    have hall : ([3, 38, 47].all fun u => !Tryz.prog.wantsStandIn u) = true := by kernel_rfl
    exact (show Tryz.prog.wantsStandIn t = false by simpa using List.all_eq_true.1 hall t hm)⟩)
  (by kernel_rfl)
end Go.Proofs.YtbkolhhgajkjjaaGreatDoor
#print axioms Go.Proofs.YtbkolhhgajkjjaaGreatDoor.putOther_holds
