/- PutScript: any calls of Put, Cost, Fits, AtHand, holds and drops on a store of up to 5,000 slots are answered as the document's are, and in the end both stores tell the same of every handle. No condition. -/
import Derived.Test.YtbkolhhgajkjjaaGreatDoorPq53
import Derived.LaidMore
import Derived.Stop.Joined
import Derived.Lib.LaidTab
import Derived.Test.YtbkolhhgajkjjaaGreatDoorCards
import Derived.Test.YtbkolhhgajkjjaaGreatDoorTie
import Derived.SevenTiedAt
namespace Go.Proofs.YtbkolhhgajkjjaaGreatDoor
set_option maxRecDepth 20000
open Go.RowKit
theorem Yco {w0 w : World} {gc g gs q room : Nat} {cs : List (Nat × Ce)} {fr : List Nat} {root : Int} {va : Value} {al : List Int} {nb : Nat} (h : Sn w0 w gc g gs q room cs fr root va al nb) (h5 : room ≤ 5000) (hL : ∀ w', Below w0.heap.size w0 w' → Laid w') : ∀ w', Below w.heap.size w w' → Calls Tryz.prog 11 #[.pointer (some ⟨g, 0, none⟩), .pointer (some ⟨q, 0, none⟩), .bool false] w' fun e w'' => e = .returned (.bool true) ∧ Below w'.heap.size w' w'' := fun w' hb => by
 obtain ⟨S, o⟩ := (h.grow hb).so
 exact Ycr o.p h5 (hL _ (h.grow hb).low) false (fun e => by cases e)
set_option maxHeartbeats 4000000 in
theorem Zjm (room : Int) (v : Value) (qs : List Ap) (w : World) (hv : ApAt w v qs) (hL : Laid w) : Calls Tryz.prog 4 #[.int .i64 room, v] w fun e w' => e = .returned (.bool true) ∧ Below w.heap.size w w' := by
 have HLa : Hid (∀ w', Below w.heap.size w w' → Laid w') := fun w' hb => hL.grow hb
 have HLG : Hid (∀ lb : Bool, (lb = false ↔ LgOk room qs) → Calls Tryz.prog 12 #[.int .i64 room, v] w fun e w' => e = .returned (.bool lb) ∧ Below w.heap.size w w') := fun lb hlb => Yfy room v qs w hv lb hlb
 have hvg : ∀ w', Below w.heap.size w w' → ApAt w' v qs := fun w' hb => by
  obtain ⟨a, c, e, h1, h2⟩ := hv
  refine ⟨a, c, e, fun hp => ?_, fun i hi => ⟨(h2 i hi).1, (h2 i hi).2.1.grow hb, (h2 i hi).2.2⟩⟩
  obtain ⟨b, off, e1, h3⟩ := h1 hp
  exact ⟨b, off, e1, fun i hi k u hu => Zau hb (h3 i hi k u hu)⟩
 have HPL : Hid (LgOk room qs → ∀ w', Below w.heap.size w w' → ∃ rm : Nat, rm ≤ 5000 ∧ Calls Tryz.prog 13 #[.int .i64 room, v] w' (PlPost9 w' rm qs.length)) := fun hg w' hb => by
  obtain ⟨rm, rfl⟩ : ∃ n : Nat, room = (n : Int) := ⟨room.toNat, by have := hg.1; omega⟩
  exact ⟨rm, by have := hg.2.1; omega, Yhn rm v qs w' (hvg w' hb) (fun w'' h => hL.grow (Zb hb h)) hg⟩
 clear hL hvg hv
 by_cases hg : LgOk room qs
 ·have HL1 := Za (HLG.out false (by simp [hg]))
  have HP1 := Za (HPL.out hg)
  clear HLG HPL hg
  go_enter Tryz.func4, Tryz.ntmps4
  go_wp2_with (first
   | (go_at_call 12; refine HL1.out.mono ?_; rintro e w1 ⟨rfl, q1⟩; have HQ1 := Za q1; clear q1))
  obtain ⟨rm, h5, hp⟩ := HP1.out _ HQ1.out
  have HP := Za hp
  have H5 := Za h5
  clear hp h5
  go_wp2_with (first
   | (go_at_call 13; refine HP.out.mono ?_; rintro e w2 ⟨gc, g, gs, q, cs, fr, root, va, al, rfl, s2⟩; have HS2 := Za s2; clear s2))
  have HSB := Za HS2.out.blk
  have HSM := Za (Yco HS2.out H5.out (fun w' hb => HLa.out _ (Zb HQ1.out hb)))
  refine wp_region_held_drew (S := fun w' => Below w2.heap.size w2 w') (by kernel_rfl) (below_drewN (Below.refl _ _) 1) (fun hHeld => ?_)
  refine tkp 0 (.bool true) hHeld ?_
  simp only [zq]
  refine tkp 1 (.bool true) hHeld ?_
  simp only [zq]
  refine tkp 2 (.pointer (some ⟨gc, 0, none⟩)) hHeld ?_
  simp only [zq]
  refine tkp 3 (.pointer (some ⟨gc, 0, none⟩)) hHeld ?_
  simp only [zq]
  refine tkp 4 (.pointer (some ⟨gc, 0, none⟩)) hHeld ?_
  simp only [zq]
  refine tkg 5 (.pointer (some ⟨g, 0, none⟩)) rfl (Or.inl ⟨by rfl, fun w hS => by (have q1 := (Zr (HSB.out.grow hS)).1; go_simp)⟩) hHeld ?_
  simp only [zq]
  refine tkp 6 (.pointer (some ⟨gc, 0, none⟩)) hHeld ?_
  simp only [zq]
  refine tkp 7 (.pointer (some ⟨gc, 0, none⟩)) hHeld ?_
  simp only [zq]
  refine tkp 8 (.pointer (some ⟨gc, 1, none⟩)) hHeld ?_
  simp only [zq]
  refine tkg 9 (.pointer (some ⟨q, 0, none⟩)) rfl (Or.inl ⟨by rfl, fun w hS => by (have q1 := (Zr (HSB.out.grow hS)).2.1; go_simp)⟩) hHeld ?_
  simp only [zq]
  refine wpAnyH_ready (rs := [10]) (by kernel_rfl) (by simp) ?_
  refine AllReadyH.cons rfl (fun KQ hK => ?_) AllReadyH.nil
  go_simp
  refine (HSM.out _ hHeld).mono ?_
  rintro e z1 ⟨rfl, a1⟩
  refine hK.out _ _ (Zb hHeld a1) (fun hHeld => ?_)
  clear hK KQ
  refine tkp 11 (.bool true) hHeld ?_
  simp only [zq]
  refine tkp 12 (.bool true) hHeld ?_
  simp only [zq]
  refine wpAnyH_done (by kernel_rfl) ?_ _
  have HH := Za (Zb HQ1.out (Zb HS2.out.low hHeld))
  clear hHeld
  go_wp2
  go_ret
  exact ⟨rfl, HH.out⟩
 ·have HL1 := Za (HLG.out true (by simp [hg]))
  clear HLG HPL hg
  go_enter Tryz.func4, Tryz.ntmps4
  go_wp2_with (first
   | (go_at_call 12; refine HL1.out.mono ?_; rintro e w1 ⟨rfl, q1⟩; have HQ1 := Za q1; clear q1))
  go_ret
  exact ⟨rfl, HQ1.out⟩
open Go.ChangeShapes Go.WideShapes Go.ChangeAt Go.WideMaps Go.WideElems Go.RowKit
abbrev laid2 : List (String × DataW Unit) := Rows.storeScriptRow.laid
abbrev nameOf (i : Nat) : String := (laid2.map (·.1)).getD i Rows.storeScriptRow.func
theorem Ygi : Tryz.prog.globalNamed (nameOf 0) = some 0 := by kernel_rfl
theorem Yef : Tryz.prog.globalNamed (nameOf 1) = some 1 := by kernel_rfl
theorem Yez : (Tryz.prog.globals[0]?).map (·.type) = some 195 := by kernel_rfl
theorem Ycn : (Tryz.prog.globals[1]?).map (·.type) = some 204 := by kernel_rfl
theorem Yau (os : Os) (args : Array Value) : laidMetH Tryz.prog laid2 ((World.doorLaid Tryz.prog 400 os).forCall (fun _ _ => 0) ⟨#[], args, []⟩).memory :=
 laidMetH_of_parts3 (fuel := 8) (laidMet_of_run' 8 (by kernel_rfl) (by kernel_rfl)) (by kernel_rfl) (by kernel_rfl)
theorem Ztr : (Rows.laid_rootcellar_sha_first : DataW Unit) = Lib.tabData .u32 hs := rfl
theorem Zrs : (Rows.laid_rootcellar_sha_rounds : DataW Unit) = Lib.tabData .u32 ks := rfl
theorem Ybb : Tryz.prog.cellsOf 195 = 8 := by kernel_rfl
theorem Zxc : Tryz.prog.cellsOf 204 = 64 := by kernel_rfl
theorem Zxd : Tryz.prog.cellsOf 194 = 1 := by kernel_rfl
theorem Ydk {W : World} (h : laidMetH Tryz.prog laid2 W) : Laid W := by
 rw [MakeChecks.laidMetH_plain _ _ _ (by kernel_rfl)] at h
 obtain ⟨ps, ⟨g0, t0, cs0, f0, p0, q0, hg0, ht0, hv0, hd0, ⟨g1, t1, cs1, f1, p1, q1, hg1, ht1, hv1, hd1, _, _⟩, _⟩, _, _⟩ := h
 obtain rfl := Option.some.inj (Ygi.symm.trans hg0)
 obtain rfl := Option.some.inj (Yef.symm.trans hg1)
 obtain rfl := Option.some.inj (Yez.symm.trans ht0)
 obtain rfl := Option.some.inj (Ycn.symm.trans ht1)
 rw [Ztr] at hd0
 rw [Zrs] at hd1
 have e0 := Lib.cells_of_tab Tryz.underlying195 Tryz.underlying194 Zxd Ybb hd0
 have e1 := Lib.cells_of_tab Tryz.underlying204 Tryz.underlying194 Zxd Zxc hd1
 have c1 : ∀ i, i < 64 → W.cell? ⟨1, i, none⟩ = some (.int .u32 (ks.getD i 0)) := by
  intro i hi
  rw [World.var?_cell hg1 hv1 i, ← Array.getElem?_toList, e1, List.getElem?_map, List.getElem?_eq_getElem (show i < ks.length from hi)]
  simp [List.getD, show i < ks.length from hi]
 have c0 : ∀ i, i < 8 → W.cell? ⟨0, i, none⟩ = some (.int .u32 (hs.getD i 0)) := by
  intro i hi
  rw [World.var?_cell hg0 hv0 i, ← Array.getElem?_toList, e0, List.getElem?_map, List.getElem?_eq_getElem (show i < hs.length from hi)]
  simp [List.getD, show i < hs.length from hi]
 exact ⟨block_lt_of_cell (c1 0 (by omega)), c1, c0⟩
open Go.ChangeShapes Go.WideShapes Go.ChangeAt Go.RowKit
namespace putScript
set_option maxRecDepth 100000 in
theorem Yfw (os : Os) (started : os.Started) (H : Type) (enc : TypeId × Value → H) :
  ReturnsInHanded {} Tryz.checked os 4 .any (fun w args => (Rows.putScriptSpec.pre enc Tryz.prog Tryz.f4 [] false w args ∧ laidMetH Tryz.prog laid2 w) ∧ sizedMet enc Tryz.prog Tryz.f4 (OpenSpec.ofChange Rows.putScriptSpec) false w args)
   (Rows.putScriptSpec.post enc Tryz.prog Tryz.f4 false true false false) := by
 refine returnsInHanded_of_change_and (C := Tryz.checked) (X := fun w _ => laidMetH Tryz.prog laid2 w) (fun _ _ _ hh h => h.of_heap hh) Yih started (by kernel_rfl) Tryz.func4
  (ChangeSpec.witness_shaped (enc := enc) (C := Tryz.checked) (os := os) (X := fun w _ => laidMetH Tryz.prog laid2 w) false (World.doorLaid Tryz.prog 400 os) #[.int .i64 0, .slice none 0 0] 8 rfl (World.shaped_of_RefB (by kernel_rfl) (by kernel_rfl)) (by kernel_rfl) (by kernel_rfl) (by kernel_rfl) (Yau os _)) ?_
 intro W base args ds gs before hval0 hW hcnd hsz0 hL _
 have hval : ∀ (j : Nat) t v, Tryz.f4.params[j]? = some t → args[j]? = some v → Value.okWide Tryz.prog W .any base t v := hval0
 have hW' := hW
 obtain ⟨p, q, hA0, hV, rfl, hfz, hnd⟩ := hW
 have hA : DataW.TrodAll enc Tryz.prog W 0 (fun _ => true) true Tryz.f4.params.toList args.toList ds p := hA0
 have hsz : (DataW.weightsEach Tryz.prog (Tryz.f4.params.toList ++ Rows.putScriptSpec.plain.varTypes Tryz.prog) (ds ++ gs)).all (· ≤ reachBytes) = true := hsz0
 rw [Tryz.params4] at hA hval hsz
 obtain ⟨v0, vs0, d0, ds0, p0, q0, hargs, rfl, rfl, h0, r0⟩ := trodAll_cons hA
 obtain ⟨v1, vs1, d1, ds1, p1, q1, rfl, rfl, rfl, h1, r1⟩ := trodAll_cons r0
 obtain ⟨rfl, rfl, rfl⟩ := trodAll_nil r1
 obtain rfl : args = #[v0, v1] := by cases args; simp_all
 obtain ⟨rfl, rfl⟩ := trodVars_none hV
 have lt0 : ∀ x ∈ p0, x.block < W.heap.size := by obtain ⟨m, hm⟩ := h0; exact DataW.trod_lt m _ _ _ hm
 have lt1 : ∀ x ∈ p1, x.block < W.heap.size := by obtain ⟨m, hm⟩ := h1; exact DataW.trod_lt m _ _ _ hm
 obtain ⟨R, rfl, _, _, _⟩ := open_int Tryz.underlying3 (hval 0 3 v0 rfl rfl) h0
 obtain ⟨qs, hq⟩ := Zxs (hval 1 38 v1 rfl rfl) h1 hsz 1 rfl rfl
 clear hA0 hval0
 refine (Zjm R v1 qs W hq (Ydk hL)).mono fun e W' ⟨he, bel⟩ => ?_
 subst he
 have t0 := Below.trod Zvt (by kernel_rfl) (of_decide_eq_true (by kernel_rfl)) h0 bel lt0
 have t1 := Below.trod Zvt (by kernel_rfl) (of_decide_eq_true (by kernel_rfl)) h1 bel lt1
 exact ⟨_, rfl, _, _, _, [], _, [], hW', trodAll_mk1 (shut_bool Tryz.underlying4 _), (trodAll_cons_mk t0 (trodAll_cons_mk t1 trodAll_mk0)), rfl, bel.frame _, fun h => by cases h⟩
theorem over : Rows.PutScriptSaid :=
 OpenClaim.holds_of_wide 4 Tryz.f4 rfl rfl rfl rfl rfl rfl rfl ⟨rfl, rfl, rfl, rfl, rfl⟩ rfl rfl rfl rfl rfl (by kernel_rfl) Tryz.func4 (by kernel_rfl)
  (of_decide_eq_true (by kernel_rfl)) (by unfold Func.isWrapper; first | (rw [if_pos (by decide +kernel)]; kernel_rfl) | (rw [if_neg (by decide +kernel)]; exact ⟨rfl, rfl⟩))
  (fun os started H enc _ => Yfw os started H enc)
end putScript
theorem putScript_holds : Rows.PutScriptCardSaid :=
 Claim7.holds_tied_plain_at .later [] [.data, .data] true (true, "07597280168ee3ed2535d6a6bd1aa8c73074fc522ea67197fefa7bf5f37f8fc6") false
  putScript.over (fun _ h => by cases h) (by kernel_rfl) (fun _ h => by cases h) putScript_row_tie rfl ⟨rfl, rfl⟩ (by kernel_rfl) rfl
  (fun f fn hf hfn => by
   obtain rfl : f = 4 := Option.some.inj ((show Tryz.prog.funcNamed Rows.putScriptRow.func = some 4 by kernel_rfl).symm.trans hf) |>.symm
   obtain rfl : fn = Tryz.f4 := (Option.some.inj (Tryz.func4.symm.trans hfn)).symm
   exact ⟨by kernel_rfl, fun j t ht => by
    rw [Tryz.params4] at ht
    have hm : t ∈ [3, 38] := by simpa using Array.mem_of_getElem? ht
    have hall : ([3, 38].all fun u => !Tryz.prog.wantsStandIn u) = true := by kernel_rfl
    exact (show Tryz.prog.wantsStandIn t = false by simpa using List.all_eq_true.1 hall t hm)⟩)
  (by kernel_rfl)
end Go.Proofs.YtbkolhhgajkjjaaGreatDoor
#print axioms Go.Proofs.YtbkolhhgajkjjaaGreatDoor.putScript_holds
