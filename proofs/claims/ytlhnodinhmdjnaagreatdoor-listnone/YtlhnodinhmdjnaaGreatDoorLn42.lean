/- What an argument is in memory that is a node. -/
import Derived.Test.YtlhnodinhmdjnaaGreatDoorLn01
import Derived.Test.YtlhnodinhmdjnaaGreatDoorLn41
import Derived.Test.YtlhnodinhmdjnaaGreatDoorLn08
import Derived.ChangeSame
import Derived.Test.YtlhnodinhmdjnaaGreatDoorLn40
import Derived.Deep.Slices
import Derived.Test.YtlhnodinhmdjnaaGreatDoorRows
import Derived.Test.YtlhnodinhmdjnaaGreatDoorLn13
import Derived.ProofKit
import Derived.LaidMore
import Derived.OpenShut
import Derived.Stop.Joined
import Derived.Lib.LaidTab
namespace Go.Proofs.YtlhnodinhmdjnaaGreatDoor
set_option maxRecDepth 20000
open Go.ChangeShapes Go.WideShapes Go.ChangeAt Go.RowKit

theorem okWide_str {t : TypeId} {fs : Array Field} {W : World} {base : Nat} {v : Value} (ht : Tryz.prog.underlying t = some (.struct fs)) (h : Value.okWide Tryz.prog W .any base t v) : ∃ cs, v = .agg cs := by
  unfold Value.okWide at h
  cases v <;> simp_all

theorem trod_u8s {H : Type} {enc : TypeId × Value → H} {W : World} {fuel : Nat} {t : TypeId} {n : Nat} {cs : List Value} {x : DataW H × List MemPlace} (ht : Tryz.prog.underlying t = some (.array n 5)) (hct : Tryz.prog.cellsOf t = n)
    (h : DataW.trod enc Tryz.prog W 0 (fun _ => true) true fuel t cs = some x) : ∃ zs : List Int, zs.length = n ∧ cs = zs.map (Value.int .u8) ∧ Bytes zs := by
  obtain ⟨xs, m, rfl, hx, hl, hn, hel⟩ := DataW.trod_array ht h
  rw [hct] at hl
  have each : ∀ i, i < n → ∃ z, cs[i]? = some (.int .u8 z) ∧ (Lit.int .u8 z).wf = true := by
    intro i hi
    have h1 := hel i hi
    rw [cells_byte] at h1
    obtain ⟨y, hyi⟩ : ∃ y, xs[i]? = some y := ⟨xs[i]'(by omega), List.getElem?_eq_getElem (by omega)⟩
    rw [hyi] at h1
    obtain ⟨z, e1, _, w1⟩ := DataW.trod_int u_byte h1
    refine ⟨z, ?_, w1⟩
    have := congrArg (·[0]?) e1
    simpa [List.getElem?_take, List.getElem?_drop] using this
  obtain ⟨f, hf2⟩ := Go.Deep.choose_lt each
  refine ⟨(List.range n).map f, by simp, ?_, ?_⟩
  · apply List.ext_getElem?
    intro i
    by_cases hi : i < n
    · have := (hf2 i hi).1
      simp [hi]
      simpa using this
    · rw [List.getElem?_eq_none (by omega), List.getElem?_eq_none (by simp; omega)]
  · intro z hz
    obtain ⟨i, hi, rfl⟩ := List.mem_map.1 hz
    have := bounds_u8 (hf2 i (by simpa using hi)).2
    omega

end Go.Proofs.YtlhnodinhmdjnaaGreatDoor

namespace Go.Proofs.YtlhnodinhmdjnaaGreatDoor
set_option maxRecDepth 20000
open Go.ChangeShapes Go.WideShapes Go.ChangeAt Go.RowKit

theorem cells_ask : Tryz.prog.cellsOf 25 = 67 := by kernel_rfl
theorem cells_int13 : Tryz.prog.cellsOf 3 = 1 := by kernel_rfl
theorem one_of13 (cs : List Value) (i : Nat) (h : i < cs.length) : ∃ u, (cs.drop i).take 1 = [u] ∧ cs[i]? = some u := by
  refine ⟨cs[i], ?_, List.getElem?_eq_getElem h⟩
  rw [List.drop_eq_getElem_cons h]
  rfl

theorem trod_ask {H : Type} {enc : TypeId × Value → H} {W : World} {fuel : Nat} {cs : List Value} {z : DataW H × List MemPlace} (h : DataW.trod enc Tryz.prog W 0 (fun _ => true) true fuel 25 cs = some z) :
    ∃ (hh : Int) (K T : List Int) (nn mm : Int), cs = akL hh K T nn mm ∧ Key K ∧ Key T ∧ (Lit.int .i64 hh).wf = true ∧ (Lit.int .i64 nn).wf = true ∧ (Lit.int .i64 mm).wf = true := by
  have hF : ∃ f0 f1 f2 f3 f4 : Field, Tryz.prog.underlying 25 = some (.struct #[f0, f1, f2, f3, f4]) ∧ (f0.type = 3 ∧ f0.offset = 0) ∧ (f1.type = 23 ∧ f1.offset = 1) ∧ (f2.type = 23 ∧ f2.offset = 33) ∧ (f3.type = 3 ∧ f3.offset = 65) ∧ (f4.type = 3 ∧ f4.offset = 66) := ⟨_, _, _, _, _, Tryz.underlying25, ⟨rfl, rfl⟩, ⟨rfl, rfl⟩, ⟨rfl, rfl⟩, ⟨rfl, rfl⟩, ⟨rfl, rfl⟩⟩
  obtain ⟨f0, f1, f2, f3, f4, hu, ⟨t0, o0⟩, ⟨t1, o1⟩, ⟨t2, o2⟩, ⟨t3, o3⟩, ⟨t4, o4⟩⟩ := hF
  obtain ⟨xs, n, hk, hxy, hl, hxl, hf⟩ := DataW.trod_struct hu h
  rw [cells_ask] at hl
  match xs, hxl with
  | [y0, y1, y2, y3, y4], _ =>
    have g0 : DataW.trod enc Tryz.prog W 0 (fun _ => true) true n f0.type ((cs.drop f0.offset).take (Tryz.prog.cellsOf f0.type)) = some y0 := hf 0 f0 rfl
    have g1 : DataW.trod enc Tryz.prog W 0 (fun _ => true) true n f1.type ((cs.drop f1.offset).take (Tryz.prog.cellsOf f1.type)) = some y1 := hf 1 f1 rfl
    have g2 : DataW.trod enc Tryz.prog W 0 (fun _ => true) true n f2.type ((cs.drop f2.offset).take (Tryz.prog.cellsOf f2.type)) = some y2 := hf 2 f2 rfl
    have g3 : DataW.trod enc Tryz.prog W 0 (fun _ => true) true n f3.type ((cs.drop f3.offset).take (Tryz.prog.cellsOf f3.type)) = some y3 := hf 3 f3 rfl
    have g4 : DataW.trod enc Tryz.prog W 0 (fun _ => true) true n f4.type ((cs.drop f4.offset).take (Tryz.prog.cellsOf f4.type)) = some y4 := hf 4 f4 rfl
    rw [t0, o0, cells_int13] at g0
    rw [t1, o1, cells_path] at g1
    rw [t2, o2, cells_path] at g2
    rw [t3, o3, cells_int13] at g3
    rw [t4, o4, cells_int13] at g4
    obtain ⟨u0, a0, b0⟩ := one_of13 cs 0 (by omega)
    obtain ⟨u3, a3, b3⟩ := one_of13 cs 65 (by omega)
    obtain ⟨u4, a4, b4⟩ := one_of13 cs 66 (by omega)
    rw [a0] at g0
    rw [a3] at g3
    rw [a4] at g4
    obtain ⟨k0, e0, _, r0⟩ := DataW.trod_int Tryz.underlying3 g0
    obtain ⟨k3, e3, _, r3⟩ := DataW.trod_int Tryz.underlying3 g3
    obtain ⟨k4, e4, _, r4⟩ := DataW.trod_int Tryz.underlying3 g4
    obtain ⟨K, lk, ek, bk⟩ := trod_u8s Tryz.underlying23 cells_path g1
    obtain ⟨T, lt, et, bt⟩ := trod_u8s Tryz.underlying23 cells_path g2
    simp only [List.cons.injEq, and_true] at e0 e3 e4
    subst e0 e3 e4
    refine ⟨k0, K, T, k3, k4, ?_, ⟨lk, bk⟩, ⟨lt, bt⟩, r0, r3, r4⟩
    have at_ : ∀ i, (hi : i < cs.length) → cs.drop i = cs[i] :: cs.drop (i + 1) := fun i hi => List.drop_eq_getElem_cons hi
    have g : ∀ i u, cs[i]? = some u → cs.drop i = u :: cs.drop (i + 1) := fun i u hu => by
      obtain ⟨h1, h2⟩ := List.getElem?_eq_some_iff.1 hu
      rw [at_ i h1, h2]
    have d0 := g 0 _ b0
    have d3 := g 65 _ b3
    have d4 := g 66 _ b4
    have d6 : cs.drop 67 = [] := List.drop_eq_nil_of_le (by omega)
    have d1 : cs.drop 1 = K.map (Value.int .u8) ++ cs.drop 33 := by
      have := (List.take_append_drop 32 (cs.drop 1)).symm
      rw [ek, List.drop_drop] at this
      exact this
    have d2 : cs.drop 33 = T.map (Value.int .u8) ++ cs.drop 65 := by
      have := (List.take_append_drop 32 (cs.drop 33)).symm
      rw [et, List.drop_drop] at this
      exact this
    show cs = akL k0 K T k3 k4
    rw [List.drop_zero] at d0
    rw [d0, d1, d2, d3, d4, d6]
    rfl

theorem arg_ask {H : Type} {enc : TypeId × Value → H} {W : World} {base : Nat} {v : Value} {d : DataW H} {p : List MemPlace} (hv : Value.okWide Tryz.prog W .any base 25 v) (h : DataW.Trod enc Tryz.prog W 0 (fun _ => true) true 25 v d p) :
    ∃ (hh : Int) (K T : List Int) (nn mm : Int), v = .agg (akL hh K T nn mm).toArray ∧ Key K ∧ Key T ∧ (Lit.int .i64 hh).wf = true ∧ (Lit.int .i64 nn).wf = true ∧ (Lit.int .i64 mm).wf = true := by
  obtain ⟨cs, rfl⟩ := okWide_str Tryz.underlying25 hv
  obtain ⟨fuel, hf⟩ := h
  obtain ⟨l⟩ := cs
  obtain ⟨hh, K, T, nn, mm, e, h1⟩ := trod_ask hf
  have e' : l = akL hh K T nn mm := e
  exact ⟨hh, K, T, nn, mm, by rw [e'], h1⟩

end Go.Proofs.YtlhnodinhmdjnaaGreatDoor

namespace Go.Proofs.YtlhnodinhmdjnaaGreatDoor
set_option maxRecDepth 20000
open Go.ChangeShapes Go.WideShapes Go.ChangeAt Go.WideMaps Go.WideElems Go.RowKit

abbrev laid2 : List (String × DataW Unit) := Rows.listNoneRow.laid
abbrev nameOf (i : Nat) : String := (laid2.map (·.1)).getD i Rows.listNoneRow.func

theorem gFirst : Tryz.prog.globalNamed (nameOf 0) = some 1 := by kernel_rfl
theorem gRounds : Tryz.prog.globalNamed (nameOf 1) = some 2 := by kernel_rfl
theorem tFirst : (Tryz.prog.globals[1]?).map (·.type) = some 204 := by kernel_rfl
theorem tRounds : (Tryz.prog.globals[2]?).map (·.type) = some 228 := by kernel_rfl

theorem door_met (os : Os) (args : Array Value) : laidMetH Tryz.prog laid2 ((World.doorLaid Tryz.prog 400 os).forCall (fun _ _ => 0) ⟨#[], args, []⟩).memory :=
  laidMetH_of_parts3 (fuel := 8) (laidMet_of_run' 8 (by kernel_rfl) (by kernel_rfl)) (by kernel_rfl) (by kernel_rfl)

theorem tab_first : (Rows.laid_rootcellar_sha_first : DataW Unit) = Lib.tabData .u32 hs := rfl
theorem tab_rounds : (Rows.laid_rootcellar_sha_rounds : DataW Unit) = Lib.tabData .u32 ks := rfl
theorem cells_w8 : Tryz.prog.cellsOf 204 = 8 := by kernel_rfl
theorem cells_w64 : Tryz.prog.cellsOf 228 = 64 := by kernel_rfl
theorem cells_w : Tryz.prog.cellsOf 203 = 1 := by kernel_rfl

theorem of_laid {W : World} (h : laidMetH Tryz.prog laid2 W) : Laid W := by
  rw [MakeChecks.laidMetH_plain _ _ _ (by kernel_rfl)] at h
  obtain ⟨ps, ⟨g0, t0, cs0, f0, p0, q0, hg0, ht0, hv0, hd0, ⟨g1, t1, cs1, f1, p1, q1, hg1, ht1, hv1, hd1, _, _⟩, _⟩, _, _⟩ := h
  obtain rfl := Option.some.inj (gFirst.symm.trans hg0)
  obtain rfl := Option.some.inj (gRounds.symm.trans hg1)
  obtain rfl := Option.some.inj (tFirst.symm.trans ht0)
  obtain rfl := Option.some.inj (tRounds.symm.trans ht1)
  rw [tab_first] at hd0
  rw [tab_rounds] at hd1
  have e0 := Lib.cells_of_tab Tryz.underlying204 Tryz.underlying203 cells_w cells_w8 hd0
  have e1 := Lib.cells_of_tab Tryz.underlying228 Tryz.underlying203 cells_w cells_w64 hd1
  have c1 : ∀ i, i < 64 → W.cell? ⟨2, i, none⟩ = some (.int .u32 (ks.getD i 0)) := by
    intro i hi
    rw [World.var?_cell hg1 hv1 i, ← Array.getElem?_toList, e1, List.getElem?_map, List.getElem?_eq_getElem (show i < ks.length from hi)]
    simp [List.getD, show i < ks.length from hi]
  have c0 : ∀ i, i < 8 → W.cell? ⟨1, i, none⟩ = some (.int .u32 (hs.getD i 0)) := by
    intro i hi
    rw [World.var?_cell hg0 hv0 i, ← Array.getElem?_toList, e0, List.getElem?_map, List.getElem?_eq_getElem (show i < hs.length from hi)]
    simp [List.getD, show i < hs.length from hi]
  exact ⟨block_lt_of_cell (c1 0 (by omega)), c1, c0⟩

end Go.Proofs.YtlhnodinhmdjnaaGreatDoor
