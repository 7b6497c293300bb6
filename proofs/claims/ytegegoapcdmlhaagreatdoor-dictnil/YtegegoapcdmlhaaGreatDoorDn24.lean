/- DictNil: of no dictionary, and of one that nobody made, all calls answer ErrNil or nothing. No condition. -/
import Derived.Test.YtegegoapcdmlhaaGreatDoorDn22
import Derived.Test.YtegegoapcdmlhaaGreatDoorDn23
import Derived.ChangeSame
import Derived.Deep.Slices
import Derived.Test.YtegegoapcdmlhaaGreatDoorRows
import Derived.Test.YtegegoapcdmlhaaGreatDoorDn12
import Derived.ProofKit
import Derived.LaidMore
import Derived.OpenShut
import Derived.Stop.Joined
import Derived.Lib.LaidTab
import Derived.Test.YtegegoapcdmlhaaGreatDoorCards
import Derived.Test.YtegegoapcdmlhaaGreatDoorTie
import Derived.ChangeOld
import Derived.Below
import Derived.SevenTiedAt
namespace Go.Proofs.YtegegoapcdmlhaaGreatDoor
set_option maxRecDepth 20000
open Go.ChangeShapes Go.WideShapes Go.ChangeAt Go.RowKit

theorem cells_act15 : Tryz.prog.cellsOf 70 = 6 := by kernel_rfl
theorem cells_int15 : Tryz.prog.cellsOf 3 = 1 := by kernel_rfl
theorem cells_str15 : Tryz.prog.cellsOf 9 = 1 := by kernel_rfl
theorem cells_byt15 : Tryz.prog.cellsOf 35 = 1 := by kernel_rfl
theorem cells_raw15 : Tryz.prog.cellsOf 68 = 1 := by kernel_rfl
theorem one_of15 (cs : List Value) (i : Nat) (h : i < cs.length) : ∃ u, (cs.drop i).take 1 = [u] ∧ cs[i]? = some u := by
  refine ⟨cs[i], ?_, List.getElem?_eq_getElem h⟩
  rw [List.drop_eq_getElem_cons h]
  rfl

theorem trod_slice15 {H : Type} {enc : TypeId × Value → H} {W : World} {fuel : Nat} {t e : TypeId} {u : Value} {x : DataW H × List MemPlace} (ht : Tryz.prog.underlying t = some (.slice e)) (h : DataW.trod enc Tryz.prog W 0 (fun _ => true) true fuel t [u] = some x) : ∃ a n c, u = .slice a n c := by
  rcases DataW.trod_slice ht h with ⟨h0, _⟩ | ⟨a, len, cap, elems, rest, n, _, h0, _⟩
  · simp only [List.cons.injEq, and_true] at h0
    exact ⟨_, _, _, h0⟩
  · simp only [List.cons.injEq, and_true] at h0
    exact ⟨_, _, _, h0⟩

theorem trod_d15 {H : Type} {enc : TypeId × Value → H} {W : World} {fuel : Nat} {cs : List Value} {z : DataW H × List MemPlace} (h : DataW.trod enc Tryz.prog W 0 (fun _ => true) true fuel 70 cs = some z) : ∃ (s : ByteArray) (ka va la : Option Addr) (kn kc vn vc ln lc : Nat) (q : Int), D15 cs s (.slice ka kn kc) (.slice va vn vc) (.slice la ln lc) q := by
  have hF : ∃ f0 f1 f2 f3 f4 f5 : Field, Tryz.prog.underlying 70 = some (.struct #[f0, f1, f2, f3, f4, f5]) ∧ (f1.type = 9 ∧ f1.offset = 1) ∧ (f2.type = 35 ∧ f2.offset = 2) ∧ (f3.type = 35 ∧ f3.offset = 3) ∧ (f4.type = 68 ∧ f4.offset = 4) ∧ (f5.type = 3 ∧ f5.offset = 5) := ⟨_, _, _, _, _, _, Tryz.underlying70, ⟨rfl, rfl⟩, ⟨rfl, rfl⟩, ⟨rfl, rfl⟩, ⟨rfl, rfl⟩, ⟨rfl, rfl⟩⟩
  obtain ⟨f0, f1, f2, f3, f4, f5, hu, ⟨t1, o1⟩, ⟨t2, o2⟩, ⟨t3, o3⟩, ⟨t4, o4⟩, ⟨t5, o5⟩⟩ := hF
  obtain ⟨xs, n, hk, hxy, hl, hxl, hf⟩ := DataW.trod_struct hu h
  rw [cells_act15] at hl
  match xs, hxl with
  | [y0, y1, y2, y3, y4, y5], _ =>
    have g1 : DataW.trod enc Tryz.prog W 0 (fun _ => true) true n f1.type ((cs.drop f1.offset).take (Tryz.prog.cellsOf f1.type)) = some y1 := hf 1 f1 rfl
    have g2 : DataW.trod enc Tryz.prog W 0 (fun _ => true) true n f2.type ((cs.drop f2.offset).take (Tryz.prog.cellsOf f2.type)) = some y2 := hf 2 f2 rfl
    have g3 : DataW.trod enc Tryz.prog W 0 (fun _ => true) true n f3.type ((cs.drop f3.offset).take (Tryz.prog.cellsOf f3.type)) = some y3 := hf 3 f3 rfl
    have g4 : DataW.trod enc Tryz.prog W 0 (fun _ => true) true n f4.type ((cs.drop f4.offset).take (Tryz.prog.cellsOf f4.type)) = some y4 := hf 4 f4 rfl
    have g5 : DataW.trod enc Tryz.prog W 0 (fun _ => true) true n f5.type ((cs.drop f5.offset).take (Tryz.prog.cellsOf f5.type)) = some y5 := hf 5 f5 rfl
    rw [t1, o1, cells_str15] at g1
    rw [t2, o2, cells_byt15] at g2
    rw [t3, o3, cells_byt15] at g3
    rw [t4, o4, cells_raw15] at g4
    rw [t5, o5, cells_int15] at g5
    obtain ⟨u1, a1, b1⟩ := one_of15 cs 1 (by omega)
    obtain ⟨u2, a2, b2⟩ := one_of15 cs 2 (by omega)
    obtain ⟨u3, a3, b3⟩ := one_of15 cs 3 (by omega)
    obtain ⟨u4, a4, b4⟩ := one_of15 cs 4 (by omega)
    obtain ⟨u5, a5, b5⟩ := one_of15 cs 5 (by omega)
    rw [a1] at g1
    rw [a2] at g2
    rw [a3] at g3
    rw [a4] at g4
    rw [a5] at g5
    obtain ⟨s, e1, _⟩ := DataW.trod_string Tryz.underlying9 g1
    obtain ⟨k5, e5, _⟩ := DataW.trod_int Tryz.underlying3 g5
    obtain ⟨x2, n2, c2, d2⟩ := trod_slice15 Tryz.underlying35 g2
    obtain ⟨x3, n3, c3, d3⟩ := trod_slice15 Tryz.underlying35 g3
    obtain ⟨x4, n4, c4, d4⟩ := trod_slice15 Tryz.underlying68 g4
    simp only [List.cons.injEq, and_true] at e1 e5
    subst e1 e5 d2 d3 d4
    exact ⟨s, x2, x3, x4, n2, c2, n3, c3, n4, c4, k5, hl, b1, b2, b3, b4, b5⟩

theorem arg_d15 {H : Type} {enc : TypeId × Value → H} {W : World} {base : Nat} {v : Value} {d : DataW H} {p : List MemPlace} (hv : Value.okWide Tryz.prog W .any base 70 v) (h : DataW.Trod enc Tryz.prog W 0 (fun _ => true) true 70 v d p) : ∃ (c : List Value) (s : ByteArray) (ka va la : Option Addr) (kn kc vn vc ln lc : Nat) (q : Int), v = .agg c.toArray ∧ D15 c s (.slice ka kn kc) (.slice va vn vc) (.slice la ln lc) q := by
  obtain ⟨cs, rfl⟩ := okWide_str Tryz.underlying70 hv
  obtain ⟨fuel, hf⟩ := h
  obtain ⟨l⟩ := cs
  obtain ⟨s, ka, va, la, kn, kc, vn, vc, ln, lc, q, h1⟩ := trod_d15 hf
  exact ⟨l, s, ka, va, la, kn, kc, vn, vc, ln, lc, q, rfl, h1⟩

end Go.Proofs.YtegegoapcdmlhaaGreatDoor

/- What the two tables of sha hold when a statement's call begins, as the rows list it; and the start that the program's own text lays. -/
namespace Go.Proofs.YtegegoapcdmlhaaGreatDoor
set_option maxRecDepth 20000
open Go.ChangeShapes Go.WideShapes Go.ChangeAt Go.WideMaps Go.WideElems Go.RowKit

abbrev laid2 : List (String × DataW Unit) := Rows.batchAppliesRow.laid
abbrev nameOf (i : Nat) : String := (laid2.map (·.1)).getD i Rows.batchAppliesRow.func

theorem gFirst : Tryz.prog.globalNamed (nameOf 0) = some 0 := by kernel_rfl
theorem gRounds : Tryz.prog.globalNamed (nameOf 1) = some 1 := by kernel_rfl
theorem tFirst : (Tryz.prog.globals[0]?).map (·.type) = some 313 := by kernel_rfl
theorem tRounds : (Tryz.prog.globals[1]?).map (·.type) = some 334 := by kernel_rfl

/-- The door's own heap meets the condition. -/
theorem door_met (os : Os) (args : Array Value) : laidMetH Tryz.prog laid2 ((World.doorLaid Tryz.prog 400 os).forCall (fun _ _ => 0) ⟨#[], args, []⟩).memory :=
  laidMetH_of_parts3 (fuel := 8) (laidMet_of_run' 8 (by kernel_rfl) (by kernel_rfl)) (by kernel_rfl) (by kernel_rfl)

theorem tab_first : (Rows.laid_rootcellar_sha_first : DataW Unit) = Lib.tabData .u32 hs := rfl
theorem tab_rounds : (Rows.laid_rootcellar_sha_rounds : DataW Unit) = Lib.tabData .u32 ks := rfl
theorem cells_w8 : Tryz.prog.cellsOf 313 = 8 := by kernel_rfl
theorem cells_w64 : Tryz.prog.cellsOf 334 = 64 := by kernel_rfl
theorem cells_w : Tryz.prog.cellsOf 312 = 1 := by kernel_rfl

/-- What the condition gives the walks. -/
theorem of_laid {W : World} (h : laidMetH Tryz.prog laid2 W) : Laid W := by
  rw [MakeChecks.laidMetH_plain _ _ _ (by kernel_rfl)] at h
  obtain ⟨ps, ⟨g0, t0, cs0, f0, p0, q0, hg0, ht0, hv0, hd0, ⟨g1, t1, cs1, f1, p1, q1, hg1, ht1, hv1, hd1, _, _⟩, _⟩, _, _⟩ := h
  obtain rfl := Option.some.inj (gFirst.symm.trans hg0)
  obtain rfl := Option.some.inj (gRounds.symm.trans hg1)
  obtain rfl := Option.some.inj (tFirst.symm.trans ht0)
  obtain rfl := Option.some.inj (tRounds.symm.trans ht1)
  rw [tab_first] at hd0
  rw [tab_rounds] at hd1
  have e0 := Lib.cells_of_tab Tryz.underlying313 Tryz.underlying312 cells_w cells_w8 hd0
  have e1 := Lib.cells_of_tab Tryz.underlying334 Tryz.underlying312 cells_w cells_w64 hd1
  have c1 : ∀ i, i < 64 → W.cell? ⟨1, i, none⟩ = some (.int .u32 (ks.getD i 0)) := by
    intro i hi
    rw [World.var?_cell hg1 hv1 i, ← Array.getElem?_toList, e1, List.getElem?_map, List.getElem?_eq_getElem (show i < ks.length from hi)]
    simp [List.getD, show i < ks.length from hi]
  have c0 : ∀ i, i < 8 → W.cell? ⟨0, i, none⟩ = some (.int .u32 (hs.getD i 0)) := by
    intro i hi
    rw [World.var?_cell hg0 hv0 i, ← Array.getElem?_toList, e0, List.getElem?_map, List.getElem?_eq_getElem (show i < hs.length from hi)]
    simp [List.getD, show i < hs.length from hi]
  exact ⟨block_lt_of_cell (c1 0 (by omega)), c1, c0⟩

end Go.Proofs.YtegegoapcdmlhaaGreatDoor

/- DictNil: of no dictionary, and of one that nobody made, all calls answer ErrNil or nothing. No condition. -/
namespace Go.Proofs.YtegegoapcdmlhaaGreatDoor
set_option maxRecDepth 20000
open Go.ChangeShapes Go.WideShapes Go.ChangeAt Go.RowKit

namespace dictNil
set_option maxRecDepth 100000 in
theorem lifted (os : Os) (started : os.Started) (H : Type) (enc : TypeId × Value → H) :
    ReturnsInHanded {} Tryz.checked os 8 .any (fun w args => (Rows.dictNilSpec.pre enc Tryz.prog Tryz.f8 [] false w args ∧ laidMetH Tryz.prog laid2 w) ∧ sizedMet enc Tryz.prog Tryz.f8 (OpenSpec.ofChange Rows.dictNilSpec) false w args)
      (Rows.dictNilSpec.post enc Tryz.prog Tryz.f8 false true false false) := by
  refine returnsInHanded_of_change_and (C := Tryz.checked) (X := fun w _ => laidMetH Tryz.prog laid2 w) (fun _ _ _ hh h => h.of_heap hh) ownK started (by kernel_rfl) Tryz.func8
    (ChangeSpec.witness_shaped (enc := enc) (C := Tryz.checked) (os := os) (X := fun w _ => laidMetH Tryz.prog laid2 w) false (World.doorLaid Tryz.prog 400 os) #[.agg #[.int .u8 0, .string ⟨#[]⟩, .slice none 0 0, .slice none 0 0, .slice none 0 0, .int .i64 0]] 8 rfl (World.shaped_of_RefB (by kernel_rfl) (by kernel_rfl)) (by kernel_rfl) (by kernel_rfl) (by kernel_rfl) (door_met os _)) ?_
  intro W base args ds gs before hval0 hW hcnd hsz0 hL _
  have hval : ∀ (j : Nat) t v, Tryz.f8.params[j]? = some t → args[j]? = some v → Value.okWide Tryz.prog W .any base t v := hval0
  have hW' := hW
  obtain ⟨p, q, hA0, hV, rfl, hfz, hnd⟩ := hW
  have hA : DataW.TrodAll enc Tryz.prog W 0 (fun _ => true) true Tryz.f8.params.toList args.toList ds p := hA0
  have hsz : (DataW.weightsEach Tryz.prog (Tryz.f8.params.toList ++ Rows.dictNilSpec.plain.varTypes Tryz.prog) (ds ++ gs)).all (· ≤ reachBytes) = true := hsz0
  rw [Tryz.params8] at hA hval hsz
  obtain ⟨v0, vs0, d0, ds0, p0, q0, hargs, rfl, rfl, h0, r0⟩ := trodAll_cons hA
  obtain ⟨rfl, rfl, rfl⟩ := trodAll_nil r0
  obtain rfl : args = #[v0] := by cases args; simp_all
  obtain ⟨rfl, rfl⟩ := trodVars_none hV
  have lt0 : ∀ x ∈ p0, x.block < W.heap.size := by obtain ⟨m, hm⟩ := h0; exact DataW.trod_lt m _ _ _ hm
  obtain ⟨c, s, ka, va, la, kn, kc, vn, vc, ln, lc, q, rfl, hVa⟩ := arg_d15 (hval 0 _ _ rfl rfl) h0
  clear hA0 hval0
  refine (dictNil_walk hVa).mono fun e W' ⟨he, bel⟩ => ?_
  subst he
  have t0 := Below.trod laidOut (by kernel_rfl) (of_decide_eq_true (by kernel_rfl)) h0 bel lt0
  exact ⟨_, rfl, _, _, _, [], _, [], hW', trodAll_mk1 (shut_bool Tryz.underlying4 _), (trodAll_cons_mk t0 trodAll_mk0), rfl, bel.frame _, fun h => by cases h⟩

theorem band {a b : Bool} (h : a = true) (k : b = true) : (a && b) = true := by rw [h, k]; rfl
set_option maxHeartbeats 16000000 in
theorem facts : joinedFacts Tryz.pinned.checked.prog 8 Tryz.f8 Rows.dictNilSpec Rows.dictNilRow = true := by
  unfold joinedFacts
  repeat' with_reducible refine band ?_ ?_
  all_goals (as_aux_lemma => kernel_rfl)

theorem over : Rows.DictNilSaid :=
  OpenClaim.holds_of_wide 8 Tryz.f8 rfl rfl rfl rfl rfl rfl rfl ⟨rfl, rfl, rfl, rfl, rfl⟩ rfl rfl rfl rfl rfl (by as_aux_lemma => kernel_rfl) Tryz.func8 facts
    (of_decide_eq_true (by as_aux_lemma => kernel_rfl)) (by as_aux_lemma => (unfold Func.isWrapper; first | (rw [if_pos (by decide +kernel)]; kernel_rfl) | (rw [if_neg (by decide +kernel)]; exact ⟨rfl, rfl⟩)))
    (fun os started H enc _ => lifted os started H enc)
end dictNil

theorem dictNil_holds : Rows.DictNilCardSaid :=
  Claim7.holds_tied_plain_at .later [] [.data, .data] true (true, "ba564ac9887e94a1111f98eb8fba5f20fdfd242b5288308918990016c8090ded") false
    dictNil.over (fun _ h => by cases h) (by kernel_rfl) (fun _ h => by cases h) dictNil_row_tie rfl ⟨rfl, rfl⟩ (by kernel_rfl) rfl
    (fun f fn hf hfn => by
      obtain rfl : f = 8 := Option.some.inj ((show Tryz.prog.funcNamed Rows.dictNilRow.func = some 8 by kernel_rfl).symm.trans hf) |>.symm
      obtain rfl : fn = Tryz.f8 := (Option.some.inj (Tryz.func8.symm.trans hfn)).symm
      exact ⟨by kernel_rfl, fun j t ht => by
        rw [Tryz.params8] at ht
        have hm : t ∈ [70] := by simpa using Array.mem_of_getElem? ht
        have hall : ([70].all fun u => !Tryz.prog.wantsStandIn u) = true := by kernel_rfl
        exact (show Tryz.prog.wantsStandIn t = false by simpa using List.all_eq_true.1 hall t hm)⟩)
    (by kernel_rfl)
end Go.Proofs.YtegegoapcdmlhaaGreatDoor
#print axioms Go.Proofs.YtegegoapcdmlhaaGreatDoor.dictNil_holds
