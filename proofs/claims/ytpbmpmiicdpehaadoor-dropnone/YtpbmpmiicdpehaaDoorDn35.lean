/- DropNone: of a store that is nil, or that New did not answer, Drop and Cost answer 0, false and ErrNil. No condition. -/
import Derived.Test.YtpbmpmiicdpehaaDoorDn34
import Derived.Test.YtpbmpmiicdpehaaDoorRows
import Derived.Test.YtpbmpmiicdpehaaDoorDn12
import Derived.ProofKit
import Derived.LaidMore
import Derived.OpenShut
import Derived.Stop.Joined
import Derived.Lib.LaidTab
import Derived.Test.YtpbmpmiicdpehaaDoorDn33
import Derived.Test.YtpbmpmiicdpehaaDoorCards
import Derived.Test.YtpbmpmiicdpehaaDoorTie
import Derived.ChangeOld
import Derived.Below
import Derived.SevenTiedAt
namespace Go.Proofs.YtpbmpmiicdpehaaDoor
set_option maxRecDepth 20000
open Go.ChangeShapes Go.WideShapes Go.ChangeAt Go.RowKit

theorem cells_path : Tryd.prog.cellsOf 23 = 32 := by kernel_rfl

theorem cells_hash : Tryd.prog.cellsOf 65 = 32 := by kernel_rfl

theorem arg_path {H : Type} {enc : TypeId × Value → H} {W : World} {base : Nat} {v : Value} {d : DataW H} {p : List MemPlace} (hv : Value.okWide Tryd.prog W .any base 23 v) (h : DataW.Trod enc Tryd.prog W 0 (fun _ => true) true 23 v d p) :
    ∃ zs, zs.length = 32 ∧ v = .agg (B zs) ∧ Bytes zs := by
  obtain ⟨zs, h1, h2, h3⟩ := arg_arr Tryd.underlying23 u_byte cells_byte cells_path hv h
  refine ⟨zs, h1, h2, fun z hz => ?_⟩
  have := bounds_u8 (h3 z hz)
  omega

theorem arg_hash {H : Type} {enc : TypeId × Value → H} {W : World} {base : Nat} {v : Value} {d : DataW H} {p : List MemPlace} (hv : Value.okWide Tryd.prog W .any base 65 v) (h : DataW.Trod enc Tryd.prog W 0 (fun _ => true) true 65 v d p) :
    ∃ zs, zs.length = 32 ∧ v = .agg (B zs) ∧ Bytes zs := by
  obtain ⟨zs, h1, h2, h3⟩ := arg_arr Tryd.underlying65 u_byte cells_byte cells_hash hv h
  refine ⟨zs, h1, h2, fun z hz => ?_⟩
  have := bounds_u8 (h3 z hz)
  omega

end Go.Proofs.YtpbmpmiicdpehaaDoor

/- What the two tables of sha hold when a statement's call begins, as the rows list it; and the start that the program's own text lays. -/
namespace Go.Proofs.YtpbmpmiicdpehaaDoor
set_option maxRecDepth 20000
open Go.ChangeShapes Go.WideShapes Go.ChangeAt Go.WideMaps Go.WideElems Go.RowKit

abbrev laid2 : List (String × DataW Unit) := Rows.dropNoneRow.laid
abbrev nameOf (i : Nat) : String := (laid2.map (·.1)).getD i Rows.dropNoneRow.func

theorem gFirst : Tryd.prog.globalNamed (nameOf 0) = some 0 := by kernel_rfl
theorem gRounds : Tryd.prog.globalNamed (nameOf 1) = some 1 := by kernel_rfl
theorem tFirst : (Tryd.prog.globals[0]?).map (·.type) = some 128 := by kernel_rfl
theorem tRounds : (Tryd.prog.globals[1]?).map (·.type) = some 135 := by kernel_rfl

/-- The door's own heap meets the condition. -/
theorem door_met (os : Os) (args : Array Value) : laidMetH Tryd.prog laid2 ((World.doorLaid Tryd.prog 400 os).forCall (fun _ _ => 0) ⟨#[], args, []⟩).memory :=
  laidMetH_of_parts3 (fuel := 8) (laidMet_of_run' 8 (by kernel_rfl) (by kernel_rfl)) (by kernel_rfl) (by kernel_rfl)

theorem tab_first : (Rows.laid_rootcellar_sha_first : DataW Unit) = Lib.tabData .u32 hs := rfl
theorem tab_rounds : (Rows.laid_rootcellar_sha_rounds : DataW Unit) = Lib.tabData .u32 ks := rfl
theorem cells_w8 : Tryd.prog.cellsOf 128 = 8 := by kernel_rfl
theorem cells_w64 : Tryd.prog.cellsOf 135 = 64 := by kernel_rfl
theorem cells_w : Tryd.prog.cellsOf 127 = 1 := by kernel_rfl

/-- What the condition gives the walks. -/
theorem of_laid {W : World} (h : laidMetH Tryd.prog laid2 W) : Laid W := by
  rw [MakeChecks.laidMetH_plain _ _ _ (by kernel_rfl)] at h
  obtain ⟨ps, ⟨g0, t0, cs0, f0, p0, q0, hg0, ht0, hv0, hd0, ⟨g1, t1, cs1, f1, p1, q1, hg1, ht1, hv1, hd1, _, _⟩, _⟩, _, _⟩ := h
  obtain rfl := Option.some.inj (gFirst.symm.trans hg0)
  obtain rfl := Option.some.inj (gRounds.symm.trans hg1)
  obtain rfl := Option.some.inj (tFirst.symm.trans ht0)
  obtain rfl := Option.some.inj (tRounds.symm.trans ht1)
  rw [tab_first] at hd0
  rw [tab_rounds] at hd1
  have e0 := Lib.cells_of_tab Tryd.underlying128 Tryd.underlying127 cells_w cells_w8 hd0
  have e1 := Lib.cells_of_tab Tryd.underlying135 Tryd.underlying127 cells_w cells_w64 hd1
  have c1 : ∀ i, i < 64 → W.cell? ⟨1, i, none⟩ = some (.int .u32 (ks.getD i 0)) := by
    intro i hi
    rw [World.var?_cell hg1 hv1 i, ← Array.getElem?_toList, e1, List.getElem?_map, List.getElem?_eq_getElem (show i < ks.length from hi)]
    simp [List.getD, show i < ks.length from hi]
  have c0 : ∀ i, i < 8 → W.cell? ⟨0, i, none⟩ = some (.int .u32 (hs.getD i 0)) := by
    intro i hi
    rw [World.var?_cell hg0 hv0 i, ← Array.getElem?_toList, e0, List.getElem?_map, List.getElem?_eq_getElem (show i < hs.length from hi)]
    simp [List.getD, show i < hs.length from hi]
  exact ⟨block_lt_of_cell (c1 0 (by omega)), c1, c0⟩

end Go.Proofs.YtpbmpmiicdpehaaDoor

/- DropNone: of a store that is nil, or that New did not answer, Drop and Cost answer 0, false and ErrNil. No condition. -/
namespace Go.Proofs.YtpbmpmiicdpehaaDoor
set_option maxRecDepth 20000
open Go.ChangeShapes Go.WideShapes Go.ChangeAt Go.RowKit

namespace dropNone
set_option maxRecDepth 100000 in
theorem lifted (os : Os) (started : os.Started) (H : Type) (enc : TypeId × Value → H) :
    ReturnsInHanded {} Tryd.checked os 3 .any (fun w args => (Rows.dropNoneSpec.pre enc Tryd.prog Tryd.f3 [] false w args ∧ laidMetH Tryd.prog laid2 w) ∧ sizedMet enc Tryd.prog Tryd.f3 (OpenSpec.ofChange Rows.dropNoneSpec) false w args)
      (Rows.dropNoneSpec.post enc Tryd.prog Tryd.f3 false true false false) := by
  refine returnsInHanded_of_change_and (C := Tryd.checked) (X := fun w _ => laidMetH Tryd.prog laid2 w) (fun _ _ _ hh h => h.of_heap hh) ownK started (by kernel_rfl) Tryd.func3
    (ChangeSpec.witness_shaped (enc := enc) (C := Tryd.checked) (os := os) (X := fun w _ => laidMetH Tryd.prog laid2 w) false (World.doorLaid Tryd.prog 400 os) #[.int .i64 0, .agg (B z32)] 8 rfl (World.shaped_of_RefB (by kernel_rfl) (by kernel_rfl)) (by kernel_rfl) (by kernel_rfl) (by kernel_rfl) (door_met os _)) ?_
  intro W base args ds gs before hval0 hW hcnd hsz0 hL _
  have hval : ∀ (j : Nat) t v, Tryd.f3.params[j]? = some t → args[j]? = some v → Value.okWide Tryd.prog W .any base t v := hval0
  have hW' := hW
  obtain ⟨p, q, hA0, hV, rfl, hfz, hnd⟩ := hW
  have hA : DataW.TrodAll enc Tryd.prog W 0 (fun _ => true) true Tryd.f3.params.toList args.toList ds p := hA0
  have hsz : (DataW.weightsEach Tryd.prog (Tryd.f3.params.toList ++ Rows.dropNoneSpec.plain.varTypes Tryd.prog) (ds ++ gs)).all (· ≤ reachBytes) = true := hsz0
  rw [Tryd.params3] at hA hval hsz
  obtain ⟨v0, vs0, d0, ds0, p0, q0, hargs, rfl, rfl, h0, r0⟩ := trodAll_cons hA
  obtain ⟨v1, vs1, d1, ds1, p1, q1, rfl, rfl, rfl, h1, r1⟩ := trodAll_cons r0
  obtain ⟨rfl, rfl, rfl⟩ := trodAll_nil r1
  obtain rfl : args = #[v0, v1] := by cases args; simp_all
  obtain ⟨rfl, rfl⟩ := trodVars_none hV
  have lt0 : ∀ x ∈ p0, x.block < W.heap.size := by obtain ⟨m, hm⟩ := h0; exact DataW.trod_lt m _ _ _ hm
  have lt1 : ∀ x ∈ p1, x.block < W.heap.size := by obtain ⟨m, hm⟩ := h1; exact DataW.trod_lt m _ _ _ hm
  obtain ⟨x0, rfl, _, _, _⟩ := open_int Tryd.underlying3 (hval 0 3 v0 rfl rfl) h0
  obtain ⟨K, lk, rfl, bk⟩ := arg_path (hval 1 23 v1 rfl rfl) h1
  clear hA0 hval0
  refine (dropNone_walk x0 K W ⟨lk, bk⟩ (of_laid hL)).mono fun e W' ⟨he, bel⟩ => ?_
  subst he
  have t0 := Below.trod laidOut (by kernel_rfl) (of_decide_eq_true (by kernel_rfl)) h0 bel lt0
  have t1 := Below.trod laidOut (by kernel_rfl) (of_decide_eq_true (by kernel_rfl)) h1 bel lt1
  exact ⟨_, rfl, _, _, _, [], _, [], hW', trodAll_mk1 (shut_bool Tryd.underlying4 _), (trodAll_cons_mk t0 (trodAll_cons_mk t1 trodAll_mk0)), rfl, bel.frame _, fun h => by cases h⟩

theorem over : Rows.DropNoneSaid :=
  OpenClaim.holds_of_wide 3 Tryd.f3 rfl rfl rfl rfl rfl rfl rfl ⟨rfl, rfl, rfl, rfl, rfl⟩ rfl rfl rfl rfl rfl (by kernel_rfl) Tryd.func3 (by kernel_rfl)
    (of_decide_eq_true (by kernel_rfl)) (by unfold Func.isWrapper; first | (rw [if_pos (by decide +kernel)]; kernel_rfl) | (rw [if_neg (by decide +kernel)]; exact ⟨rfl, rfl⟩))
    (fun os started H enc _ => lifted os started H enc)
end dropNone

theorem dropNone_holds : Rows.DropNoneCardSaid :=
  Claim7.holds_tied_plain_at .later [] [.data, .data] true (true, "192879afd32082817544cf5935e4e810ac25371a33e4f1689d267cd97b12c80c") false
    dropNone.over (fun _ h => by cases h) (by kernel_rfl) (fun _ h => by cases h) dropNone_row_tie rfl ⟨rfl, rfl⟩ (by kernel_rfl) rfl
    (fun f fn hf hfn => by
      obtain rfl : f = 3 := Option.some.inj ((show Tryd.prog.funcNamed Rows.dropNoneRow.func = some 3 by kernel_rfl).symm.trans hf) |>.symm
      obtain rfl : fn = Tryd.f3 := (Option.some.inj (Tryd.func3.symm.trans hfn)).symm
      exact ⟨by kernel_rfl, fun j t ht => by
        rw [Tryd.params3] at ht
        have hm : t ∈ [3, 23] := by simpa using Array.mem_of_getElem? ht
        have hall : ([3, 23].all fun u => !Tryd.prog.wantsStandIn u) = true := by kernel_rfl
        exact (show Tryd.prog.wantsStandIn t = false by simpa using List.all_eq_true.1 hall t hm)⟩)
    (by kernel_rfl)
end Go.Proofs.YtpbmpmiicdpehaaDoor
#print axioms Go.Proofs.YtpbmpmiicdpehaaDoor.dropNone_holds
