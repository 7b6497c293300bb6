/- What an argument is in memory that is a call of put's laws, or a list of them. -/
import Derived.Test.YtlinalcjdpikeaaDoorPn44
import Derived.Test.YtlinalcjdpikeaaDoorPn46
import Derived.Test.YtlinalcjdpikeaaDoorPn47
import Derived.Test.YtlinalcjdpikeaaDoorPn45
import Derived.ChangeSame
import Derived.Deep.Slices
import Derived.Test.YtlinalcjdpikeaaDoorRows
import Derived.Test.YtlinalcjdpikeaaDoorPn18
import Derived.ProofKit
import Derived.LaidMore
import Derived.OpenShut
import Derived.Stop.Joined
import Derived.Lib.LaidTab
namespace Go.Proofs.YtlinalcjdpikeaaDoor
set_option maxRecDepth 20000
open Go.ChangeShapes Go.WideShapes Go.ChangeAt Go.RowKit

/-- A call: what is asked, its key, its value's slice and bytes, its handle. -/
structure Ap where
  k : Int
  K : List Int
  v : Value
  bs : List Int
  h : Int
def apC (q : Ap) : List Value := apL q.k q.K q.v q.h
instance : Inhabited Ap := ⟨⟨0, z32, .slice none 0 0, [], 0⟩⟩

theorem cells_act9 : Tryd.prog.cellsOf 26 = 35 := by kernel_rfl

theorem cells_int9 : Tryd.prog.cellsOf 3 = 1 := by kernel_rfl

theorem cells_sl9 : Tryd.prog.cellsOf 24 = 1 := by kernel_rfl

theorem weights_all9 {H : Type} {P : Program} {e : TypeId} {d : DataW H} {n : Nat} (hn : n ∈ d.weights P e) : ∀ l : List (DataW H), d ∈ l → n ∈ DataW.weightsAll P e l
  | [], h => by simp at h
  | x :: r, h => by
    simp only [DataW.weightsAll, List.mem_append]
    rcases List.mem_cons.1 h with rfl | h
    · exact .inl hn
    · exact .inr (weights_all9 hn r h)

theorem one_of9 (cs : List Value) (i : Nat) (h : i < cs.length) : ∃ u, (cs.drop i).take 1 = [u] ∧ cs[i]? = some u := by
  refine ⟨cs[i], ?_, List.getElem?_eq_getElem h⟩
  rw [List.drop_eq_getElem_cons h]
  rfl

/-- The cells of a call that came in. -/
theorem trod_act9 {H : Type} {enc : TypeId × Value → H} {W : World} {fuel : Nat} {cs : List Value} {z : DataW H × List MemPlace} (h : DataW.trod enc Tryd.prog W 0 (fun _ => true) true fuel 26 cs = some z) (hw : ∀ m ∈ z.1.weights Tryd.prog 26, m ≤ reachBytes) :
    ∃ q : Ap, cs = apC q ∧ Key q.K ∧ Reads W q.v q.bs ∧ q.bs.length ≤ 140737488355328 - 4096 := by
  have hF : ∃ f0 f1 f2 f3 : Field, Tryd.prog.underlying 26 = some (.struct #[f0, f1, f2, f3]) ∧ (f0.type = 3 ∧ f0.offset = 0) ∧ (f1.type = 23 ∧ f1.offset = 1) ∧ (f2.type = 24 ∧ f2.offset = 33) ∧ (f3.type = 3 ∧ f3.offset = 34) := ⟨_, _, _, _, Tryd.underlying26, ⟨rfl, rfl⟩, ⟨rfl, rfl⟩, ⟨rfl, rfl⟩, ⟨rfl, rfl⟩⟩
  obtain ⟨f0, f1, f2, f3, hu, ⟨t0, o0⟩, ⟨t1, o1⟩, ⟨t2, o2⟩, ⟨t3, o3⟩⟩ := hF
  obtain ⟨xs, n, hk, hxy, hl, hxl, hf⟩ := DataW.trod_struct hu h
  rw [cells_act9] at hl
  match xs, hxl with
  | [y0, y1, y2, y3], _ =>
    have g0 : DataW.trod enc Tryd.prog W 0 (fun _ => true) true n f0.type ((cs.drop f0.offset).take (Tryd.prog.cellsOf f0.type)) = some y0 := hf 0 f0 rfl
    have g1 : DataW.trod enc Tryd.prog W 0 (fun _ => true) true n f1.type ((cs.drop f1.offset).take (Tryd.prog.cellsOf f1.type)) = some y1 := hf 1 f1 rfl
    have g2 : DataW.trod enc Tryd.prog W 0 (fun _ => true) true n f2.type ((cs.drop f2.offset).take (Tryd.prog.cellsOf f2.type)) = some y2 := hf 2 f2 rfl
    have g3 : DataW.trod enc Tryd.prog W 0 (fun _ => true) true n f3.type ((cs.drop f3.offset).take (Tryd.prog.cellsOf f3.type)) = some y3 := hf 3 f3 rfl
    rw [t0, o0, cells_int9] at g0
    rw [t1, o1, cells_path] at g1
    rw [t2, o2, cells_sl9] at g2
    rw [t3, o3, cells_int9] at g3
    obtain ⟨u0, a0, b0⟩ := one_of9 cs 0 (by omega)
    obtain ⟨u2, a2, b2⟩ := one_of9 cs 33 (by omega)
    obtain ⟨u3, a3, b3⟩ := one_of9 cs 34 (by omega)
    rw [a0] at g0
    rw [a2] at g2
    rw [a3] at g3
    obtain ⟨k0, e0, _, _⟩ := DataW.trod_int Tryd.underlying3 g0
    obtain ⟨k3, e3, _, _⟩ := DataW.trod_int Tryd.underlying3 g3
    obtain ⟨K, lk, ek, bk⟩ := trod_u8s Tryd.underlying23 cells_path g1
    simp only [List.cons.injEq, and_true] at e0 e3
    subst e0 e3
    have hsz2 : (DataW.weightsEach Tryd.prog [3, 23, 24, 3] [y0.1, y1.1, y2.1, y3.1]).all (· ≤ reachBytes) = true := by
      rw [List.all_eq_true]
      intro m hm
      rw [decide_eq_true_iff]
      refine hw m ?_
      rw [hxy]
      simp only [DataW.weights, hu]
      rw [show (#[f0, f1, f2, f3] : Array Field).toList.map (·.type) = [3, 23, 24, 3] by simp [t0, t1, t2, t3]]
      exact hm
    obtain ⟨zs, r1, l1⟩ := trod_sized (d := y2.1) (p := y2.2) g2 hsz2 2 rfl rfl
    refine ⟨⟨k0, K, u2, zs, k3⟩, ?_, ⟨lk, bk⟩, r1, l1⟩
    have at_ : ∀ i, (hi : i < cs.length) → cs.drop i = cs[i] :: cs.drop (i + 1) := fun i hi => List.drop_eq_getElem_cons hi
    have g : ∀ i u, cs[i]? = some u → cs.drop i = u :: cs.drop (i + 1) := fun i u hu => by
      obtain ⟨h1, h2⟩ := List.getElem?_eq_some_iff.1 hu
      rw [at_ i h1, h2]
    have d0 := g 0 _ b0
    have d2 := g 33 _ b2
    have d3 := g 34 _ b3
    have d6 : cs.drop 35 = [] := List.drop_eq_nil_of_le (by omega)
    have d1 : cs.drop 1 = K.map (Value.int .u8) ++ cs.drop 33 := by
      have := (List.take_append_drop 32 (cs.drop 1)).symm
      rw [ek, List.drop_drop] at this
      exact this
    show cs = apL k0 K u2 k3
    rw [List.drop_zero] at d0
    rw [d0, d1, d2, d3, d6]
    rfl

/-- A call that came in. -/
theorem arg_act9 {H : Type} {enc : TypeId × Value → H} {W : World} {base : Nat} {v : Value} {d : DataW H} {p : List MemPlace} (hv : Value.okWide Tryd.prog W .any base 26 v) (h : DataW.Trod enc Tryd.prog W 0 (fun _ => true) true 26 v d p)
    {ts : List TypeId} {ds : List (DataW H)} (hsz : (DataW.weightsEach Tryd.prog ts ds).all (· ≤ reachBytes) = true) (j : Nat) (ht : ts[j]? = some 26) (hd : ds[j]? = some d) : ∃ q : Ap, v = .agg (apC q).toArray ∧ Key q.K ∧ Reads W q.v q.bs ∧ q.bs.length ≤ 140737488355328 - 4096 := by
  obtain ⟨cs, rfl⟩ := okWide_str Tryd.underlying26 hv
  obtain ⟨fuel, hf⟩ := h
  obtain ⟨l⟩ := cs
  obtain ⟨q, e, h1, h2, h3⟩ := trod_act9 hf (fun m hm => by
    have h1 := List.all_eq_true.1 hsz m (DataW.weights_mem_each ht hd m hm)
    simpa using h1)
  have e' : l = apC q := e
  exact ⟨q, by rw [e'], h1, h2, h3⟩

/-- Calls in memory. -/
def ApAt (W : World) (v : Value) (qs : List Ap) : Prop :=
  ∃ a c, v = .slice a qs.length c ∧ (0 < qs.length → ∃ b off, a = some ⟨b, off, none⟩ ∧ ∀ i, i < qs.length → W.rangeAt b (off + i * 35) (apC (qs.getD i default))) ∧ ∀ i, i < qs.length → Key (qs.getD i default).K ∧ Reads W (qs.getD i default).v (qs.getD i default).bs ∧ (qs.getD i default).bs.length ≤ 140737488355328 - 4096

end Go.Proofs.YtlinalcjdpikeaaDoor

/- What the two tables of sha hold when a statement's call begins, as the rows list it; and the start that the program's own text lays. -/
namespace Go.Proofs.YtlinalcjdpikeaaDoor
set_option maxRecDepth 20000
open Go.ChangeShapes Go.WideShapes Go.ChangeAt Go.WideMaps Go.WideElems Go.RowKit

abbrev laid2 : List (String × DataW Unit) := Rows.putNoneRow.laid
abbrev nameOf (i : Nat) : String := (laid2.map (·.1)).getD i Rows.putNoneRow.func

theorem gFirst : Tryd.prog.globalNamed (nameOf 0) = some 0 := by kernel_rfl
theorem gRounds : Tryd.prog.globalNamed (nameOf 1) = some 1 := by kernel_rfl
theorem tFirst : (Tryd.prog.globals[0]?).map (·.type) = some 120 := by kernel_rfl
theorem tRounds : (Tryd.prog.globals[1]?).map (·.type) = some 128 := by kernel_rfl

/-- The door's own heap meets the condition. -/
theorem door_met (os : Os) (args : Array Value) : laidMetH Tryd.prog laid2 ((World.doorLaid Tryd.prog 400 os).forCall (fun _ _ => 0) ⟨#[], args, []⟩).memory :=
  laidMetH_of_parts3 (fuel := 8) (laidMet_of_run' 8 (by kernel_rfl) (by kernel_rfl)) (by kernel_rfl) (by kernel_rfl)

theorem tab_first : (Rows.laid_rootcellar_sha_first : DataW Unit) = Lib.tabData .u32 hs := rfl
theorem tab_rounds : (Rows.laid_rootcellar_sha_rounds : DataW Unit) = Lib.tabData .u32 ks := rfl
theorem cells_w8 : Tryd.prog.cellsOf 120 = 8 := by kernel_rfl
theorem cells_w64 : Tryd.prog.cellsOf 128 = 64 := by kernel_rfl
theorem cells_w : Tryd.prog.cellsOf 119 = 1 := by kernel_rfl

/-- What the condition gives the walks. -/
theorem of_laid {W : World} (h : laidMetH Tryd.prog laid2 W) : Laid W := by
  rw [MakeChecks.laidMetH_plain _ _ _ (by kernel_rfl)] at h
  obtain ⟨ps, ⟨g0, t0, cs0, f0, p0, q0, hg0, ht0, hv0, hd0, ⟨g1, t1, cs1, f1, p1, q1, hg1, ht1, hv1, hd1, _, _⟩, _⟩, _, _⟩ := h
  obtain rfl := Option.some.inj (gFirst.symm.trans hg0)
  obtain rfl := Option.some.inj (gRounds.symm.trans hg1)
  obtain rfl := Option.some.inj (tFirst.symm.trans ht0)
  obtain rfl := Option.some.inj (tRounds.symm.trans ht1)
  rw [tab_first] at hd0
  rw [tab_rounds] at hd1
  have e0 := Lib.cells_of_tab Tryd.underlying120 Tryd.underlying119 cells_w cells_w8 hd0
  have e1 := Lib.cells_of_tab Tryd.underlying128 Tryd.underlying119 cells_w cells_w64 hd1
  have c1 : ∀ i, i < 64 → W.cell? ⟨1, i, none⟩ = some (.int .u32 (ks.getD i 0)) := by
    intro i hi
    rw [World.var?_cell hg1 hv1 i, ← Array.getElem?_toList, e1, List.getElem?_map, List.getElem?_eq_getElem (show i < ks.length from hi)]
    simp [List.getD, show i < ks.length from hi]
  have c0 : ∀ i, i < 8 → W.cell? ⟨0, i, none⟩ = some (.int .u32 (hs.getD i 0)) := by
    intro i hi
    rw [World.var?_cell hg0 hv0 i, ← Array.getElem?_toList, e0, List.getElem?_map, List.getElem?_eq_getElem (show i < hs.length from hi)]
    simp [List.getD, show i < hs.length from hi]
  exact ⟨block_lt_of_cell (c1 0 (by omega)), c1, c0⟩

end Go.Proofs.YtlinalcjdpikeaaDoor
