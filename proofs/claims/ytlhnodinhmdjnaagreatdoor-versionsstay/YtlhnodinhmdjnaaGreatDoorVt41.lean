/- VersionsStay: behind each write the root is given a name, if it may; whatever is written behind that, each name's root keeps the digest that it had; when all names and the current root are dropped nothing is occupied. No condition. -/
import Derived.Test.YtlhnodinhmdjnaaGreatDoorRows
import Derived.Test.YtlhnodinhmdjnaaGreatDoorVt12
import Derived.ProofKit
import Derived.LaidMore
import Derived.OpenShut
import Derived.Stop.Joined
import Derived.Lib.LaidTab
import Derived.Test.YtlhnodinhmdjnaaGreatDoorVt40
import Derived.Test.YtlhnodinhmdjnaaGreatDoorCards
import Derived.Test.YtlhnodinhmdjnaaGreatDoorTie
import Derived.ChangeOld
import Derived.Below
import Derived.SevenTiedAt
namespace Go.Proofs.YtlhnodinhmdjnaaGreatDoor
set_option maxRecDepth 20000
open Go.ChangeShapes Go.WideShapes Go.ChangeAt Go.WideMaps Go.WideElems Go.RowKit

abbrev laid2 : List (String × DataW Unit) := Rows.listNoneRow.laid
abbrev nameOf (i : Nat) : String := (laid2.map (·.1)).getD i Rows.listNoneRow.func

theorem gFirst : Tryz.prog.globalNamed (nameOf 0) = some 1 := by kernel_rfl
theorem gRounds : Tryz.prog.globalNamed (nameOf 1) = some 2 := by kernel_rfl
theorem tFirst : (Tryz.prog.globals[1]?).map (·.type) = some 204 := by kernel_rfl
theorem tRounds : (Tryz.prog.globals[2]?).map (·.type) = some 228 := by kernel_rfl

/-- The door's own heap meets the condition. -/
theorem door_met (os : Os) (args : Array Value) : laidMetH Tryz.prog laid2 ((World.doorLaid Tryz.prog 400 os).forCall (fun _ _ => 0) ⟨#[], args, []⟩).memory :=
  laidMetH_of_parts3 (fuel := 8) (laidMet_of_run' 8 (by kernel_rfl) (by kernel_rfl)) (by kernel_rfl) (by kernel_rfl)

theorem tab_first : (Rows.laid_rootcellar_sha_first : DataW Unit) = Lib.tabData .u32 hs := rfl
theorem tab_rounds : (Rows.laid_rootcellar_sha_rounds : DataW Unit) = Lib.tabData .u32 ks := rfl
theorem cells_w8 : Tryz.prog.cellsOf 204 = 8 := by kernel_rfl
theorem cells_w64 : Tryz.prog.cellsOf 228 = 64 := by kernel_rfl
theorem cells_w : Tryz.prog.cellsOf 203 = 1 := by kernel_rfl

/-- What the condition gives the walks. -/
theorem of_laid {W : World} (h : laidMetH Tryz.prog laid2 W) : Laid W := by
  rw [MakeChecks.laidMetH_plain _ _ _ (by kernel_rfl)] at h
  obtain ⟨ps, ⟨g0, t0, cs0, f0, p0, q0, hg0, ht0, hv0, hd0, ⟨g1, t1, cs1, f1, p1, q1, hg1, ht1, hv1, hd1, _, _⟩, _⟩, _, _⟩ := h
  obtain rfl := Option.some.inj (gFirst.symm.trans hg0)
  obtain rfl := Option.some.inj (gRounds.symm.trans hg1)
  obtain rfl := Option.some.inj (tFirst.symm.trans ht0)
  obtain rfl := Option.some.inj (tRounds.symm.trans ht1)
  rw [tab_first] at hd0
  rw [tab_rounds] at hd1
  have e0 := Lib.cells_of_tab Tryz.underlying204 Tryz.underlying203 cells_w cells_w8 hd0
  have e1 := Lib.cells_of_tab Tryz.underlying228 Tryz.underlying203 cells_w cells_w64 hd1
  have c1 : ∀ i, i < 64 → W.cell? ⟨2, i, none⟩ = some (.int .u32 (ks.getD i 0)) := by
    intro i hi
    rw [World.var?_cell hg1 hv1 i, ← Array.getElem?_toList, e1, List.getElem?_map, List.getElem?_eq_getElem (show i < ks.length from hi)]
    simp [List.getD, show i < ks.length from hi]
  have c0 : ∀ i, i < 8 → W.cell? ⟨1, i, none⟩ = some (.int .u32 (hs.getD i 0)) := by
    intro i hi
    rw [World.var?_cell hg0 hv0 i, ← Array.getElem?_toList, e0, List.getElem?_map, List.getElem?_eq_getElem (show i < hs.length from hi)]
    simp [List.getD, show i < hs.length from hi]
  exact ⟨block_lt_of_cell (c1 0 (by omega)), c1, c0⟩

end Go.Proofs.YtlhnodinhmdjnaaGreatDoor

/- VersionsStay: behind each write the root is given a name, if it may; whatever is written behind that, each name's root keeps the digest that it had; when all names and the current root are dropped nothing is occupied. No condition. -/
namespace Go.Proofs.YtlhnodinhmdjnaaGreatDoor
set_option maxRecDepth 20000
open Go.ChangeShapes Go.WideShapes Go.ChangeAt Go.RowKit

namespace versionsStay
set_option maxRecDepth 100000 in
theorem lifted (os : Os) (started : os.Started) (H : Type) (enc : TypeId × Value → H) :
    ReturnsInHanded {} Tryz.checked os 6 .any (fun w args => (Rows.versionsStaySpec.pre enc Tryz.prog Tryz.f6 [] false w args ∧ laidMetH Tryz.prog laid2 w) ∧ sizedMet enc Tryz.prog Tryz.f6 (OpenSpec.ofChange Rows.versionsStaySpec) false w args)
      (Rows.versionsStaySpec.post enc Tryz.prog Tryz.f6 false true false false) := by
  refine returnsInHanded_of_change_and (C := Tryz.checked) (X := fun w _ => laidMetH Tryz.prog laid2 w) (fun _ _ _ hh h => h.of_heap hh) ownK started (by kernel_rfl) Tryz.func6
    (ChangeSpec.witness_shaped (enc := enc) (C := Tryz.checked) (os := os) (X := fun w _ => laidMetH Tryz.prog laid2 w) false (World.doorLaid Tryz.prog 400 os) #[.slice none 0 0] 8 rfl (World.shaped_of_RefB (by kernel_rfl) (by kernel_rfl)) (by kernel_rfl) (by kernel_rfl) (by kernel_rfl) (door_met os _)) ?_
  intro W base args ds gs before hval0 hW hcnd hsz0 hL _
  have hval : ∀ (j : Nat) t v, Tryz.f6.params[j]? = some t → args[j]? = some v → Value.okWide Tryz.prog W .any base t v := hval0
  have hW' := hW
  obtain ⟨p, q, hA0, hV, rfl, hfz, hnd⟩ := hW
  have hA : DataW.TrodAll enc Tryz.prog W 0 (fun _ => true) true Tryz.f6.params.toList args.toList ds p := hA0
  have hsz : (DataW.weightsEach Tryz.prog (Tryz.f6.params.toList ++ Rows.versionsStaySpec.plain.varTypes Tryz.prog) (ds ++ gs)).all (· ≤ reachBytes) = true := hsz0
  rw [Tryz.params6] at hA hval hsz
  obtain ⟨v0, vs0, d0, ds0, p0, q0, hargs, rfl, rfl, h0, r0⟩ := trodAll_cons hA
  obtain ⟨rfl, rfl, rfl⟩ := trodAll_nil r0
  obtain rfl : args = #[v0] := by cases args; simp_all
  obtain ⟨rfl, rfl⟩ := trodVars_none hV
  have lt0 : ∀ x ∈ p0, x.block < W.heap.size := by obtain ⟨m, hm⟩ := h0; exact DataW.trod_lt m _ _ _ hm
  obtain ⟨l, hP, hPn⟩ := arg_ws (hval 0 _ _ rfl rfl) h0 hsz 0 rfl rfl
  clear hA0 hval0
  refine (stay_walk (of_laid hL) hP (by omega)).mono fun e W' ⟨he, bel⟩ => ?_
  subst he
  have t0 := Below.trod laidOut (by kernel_rfl) (of_decide_eq_true (by kernel_rfl)) h0 bel lt0
  exact ⟨_, rfl, _, _, _, [], _, [], hW', trodAll_mk1 (shut_bool Tryz.underlying4 _), (trodAll_cons_mk t0 trodAll_mk0), rfl, bel.frame _, fun h => by cases h⟩

theorem over : Rows.VersionsStaySaid :=
  OpenClaim.holds_of_wide 6 Tryz.f6 rfl rfl rfl rfl rfl rfl rfl ⟨rfl, rfl, rfl, rfl, rfl⟩ rfl rfl rfl rfl rfl (by kernel_rfl) Tryz.func6 (by kernel_rfl)
    (of_decide_eq_true (by kernel_rfl)) (by unfold Func.isWrapper; first | (rw [if_pos (by decide +kernel)]; kernel_rfl) | (rw [if_neg (by decide +kernel)]; exact ⟨rfl, rfl⟩))
    (fun os started H enc _ => lifted os started H enc)
end versionsStay

theorem versionsStay_holds : Rows.VersionsStayCardSaid :=
  Claim7.holds_tied_plain_at .later [] [.data, .data] true (true, "22890a0a3941e492b9d69be1439acd2f1275ca3afc8ca8af3c9f80c8e74a16a5") false
    versionsStay.over (fun _ h => by cases h) (by kernel_rfl) (fun _ h => by cases h) versionsStay_row_tie rfl ⟨rfl, rfl⟩ (by kernel_rfl) rfl
    (fun f fn hf hfn => by
      obtain rfl : f = 6 := Option.some.inj ((show Tryz.prog.funcNamed Rows.versionsStayRow.func = some 6 by kernel_rfl).symm.trans hf) |>.symm
      obtain rfl : fn = Tryz.f6 := (Option.some.inj (Tryz.func6.symm.trans hfn)).symm
      exact ⟨by kernel_rfl, fun j t ht => by
        rw [Tryz.params6] at ht
        have hm : t ∈ [72] := by simpa using Array.mem_of_getElem? ht
        have hall : ([72].all fun u => !Tryz.prog.wantsStandIn u) = true := by kernel_rfl
        exact (show Tryz.prog.wantsStandIn t = false by simpa using List.all_eq_true.1 hall t hm)⟩)
    (by kernel_rfl)
end Go.Proofs.YtlhnodinhmdjnaaGreatDoor
#print axioms Go.Proofs.YtlhnodinhmdjnaaGreatDoor.versionsStay_holds
