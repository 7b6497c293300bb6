/- What an argument is in memory that is an array of numbers. -/
import Derived.Test.YtbkolhhgajkjjaaGreatDoorPo48
import Derived.Test.YtbkolhhgajkjjaaGreatDoorPo08
namespace Go.Proofs.YtbkolhhgajkjjaaGreatDoor
set_option maxRecDepth 20000
open Go.ChangeShapes Go.WideShapes Go.ChangeAt Go.RowKit
theorem Zkd : Tryz.prog.cellsOf 31 = 32 := by kernel_rfl
theorem Zsj {t : TypeId} {fs : Array Field} {W : World} {base : Nat} {v : Value} (ht : Tryz.prog.underlying t = some (.struct fs)) (h : Value.okWide Tryz.prog W .any base t v) : ∃ cs, v = .agg cs := by
 unfold Value.okWide at h
 cases v <;> simp_all
theorem Zyc {H : Type} {enc : TypeId × Value → H} {W : World} {fuel : Nat} {t : TypeId} {n : Nat} {cs : List Value} {x : DataW H × List MemPlace} (ht : Tryz.prog.underlying t = some (.array n 5)) (hct : Tryz.prog.cellsOf t = n)
  (h : DataW.trod enc Tryz.prog W 0 (fun _ => true) true fuel t cs = some x) : ∃ zs : List Int, zs.length = n ∧ cs = zs.map (Value.int .u8) ∧ Bytes zs := by
 obtain ⟨xs, m, rfl, hx, hl, hn, hel⟩ := DataW.trod_array ht h
 rw [hct] at hl
 have each : ∀ i, i < n → ∃ z, cs[i]? = some (.int .u8 z) ∧ (Lit.int .u8 z).wf = true := by
  intro i hi
  have h1 := hel i hi
  rw [Zkf] at h1
  obtain ⟨y, hyi⟩ : ∃ y, xs[i]? = some y := ⟨xs[i]'(by omega), List.getElem?_eq_getElem (by omega)⟩
  rw [hyi] at h1
  obtain ⟨z, e1, _, w1⟩ := DataW.trod_int Zhx h1
  refine ⟨z, ?_, w1⟩
  have := congrArg (·[0]?) e1
  simpa [List.getElem?_take, List.getElem?_drop] using this
 obtain ⟨f, hf2⟩ := Go.Deep.choose_lt each
 refine ⟨(List.range n).map f, by simp, ?_, ?_⟩
 ·apply List.ext_getElem?
  intro i
  by_cases hi : i < n
  ·have := (hf2 i hi).1
   simp [hi]
   simpa using this
  ·rw [List.getElem?_eq_none (by omega), List.getElem?_eq_none (by simp; omega)]
 ·intro z hz
  obtain ⟨i, hi, rfl⟩ := List.mem_map.1 hz
  have := bounds_u8 (hf2 i (by simpa using hi)).2
  omega
end Go.Proofs.YtbkolhhgajkjjaaGreatDoor
