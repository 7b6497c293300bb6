/- What an argument is in memory that is an array of numbers. -/
import Derived.Test.YtegegoapcdmlhaaGreatDoorDn22
import Derived.Test.YtegegoapcdmlhaaGreatDoorDn04
import Derived.Deep.Slices
import Derived.Test.YtegegoapcdmlhaaGreatDoorDn07
import Derived.ChangeSame
namespace Go.Proofs.YtegegoapcdmlhaaGreatDoor
set_option maxRecDepth 20000
open Go.ChangeShapes Go.WideShapes Go.ChangeAt Go.RowKit

theorem okWide_arr {t e : TypeId} {n : Nat} {W : World} {base : Nat} {v : Value} (ht : Tryz.prog.underlying t = some (.array n e)) (h : Value.okWide Tryz.prog W .any base t v) : ∃ cs, v = .agg cs := by
  unfold Value.okWide at h
  cases v <;> simp_all

theorem arg_arr {H : Type} {enc : TypeId × Value → H} {W : World} {base : Nat} {t e : TypeId} {n : Nat} {k : IntKind} {v : Value} {d : DataW H} {p : List MemPlace} (ht : Tryz.prog.underlying t = some (.array n e)) (he : Tryz.prog.underlying e = some (.int k)) (hce : Tryz.prog.cellsOf e = 1) (hct : Tryz.prog.cellsOf t = n)
    (hv : Value.okWide Tryz.prog W .any base t v) (h : DataW.Trod enc Tryz.prog W 0 (fun _ => true) true t v d p) :
    ∃ zs : List Int, zs.length = n ∧ v = .agg (zs.map (Value.int k)).toArray ∧ ∀ z ∈ zs, (Lit.int k z).wf = true := by
  obtain ⟨cs, rfl⟩ := okWide_arr ht hv
  obtain ⟨fuel, hf⟩ := h
  obtain ⟨xs, m, rfl, hx, hl, hn, hel⟩ := DataW.trod_array ht hf
  simp only [Value.cells] at hl hel
  rw [hct] at hl
  have each : ∀ i, i < n → ∃ z, cs[i]? = some (.int k z) ∧ (Lit.int k z).wf = true := by
    intro i hi
    have h1 := hel i hi
    rw [hce] at h1
    obtain ⟨x, hxi⟩ : ∃ x, xs[i]? = some x := ⟨xs[i]'(by omega), List.getElem?_eq_getElem (by omega)⟩
    rw [hxi] at h1
    obtain ⟨z, e1, _, w1⟩ := DataW.trod_int he h1
    refine ⟨z, ?_, w1⟩
    have := congrArg (·[0]?) e1
    simpa [List.getElem?_take, List.getElem?_drop] using this
  obtain ⟨f, hf2⟩ := Go.Deep.choose_lt each
  refine ⟨(List.range n).map f, by simp, ?_, ?_⟩
  · congr 1
    apply Array.ext'
    apply List.ext_getElem?
    intro i
    by_cases hi : i < n
    · have := (hf2 i hi).1
      simp [hi]
      simpa using this
    · rw [List.getElem?_eq_none (by omega), List.getElem?_eq_none (by simp; omega)]
  · intro z hz
    obtain ⟨i, hi, rfl⟩ := List.mem_map.1 hz
    exact (hf2 i (by simpa using hi)).2

end Go.Proofs.YtegegoapcdmlhaaGreatDoor

/- What an argument is in memory that is a key or a digest. -/
namespace Go.Proofs.YtegegoapcdmlhaaGreatDoor
set_option maxRecDepth 20000
open Go.ChangeShapes Go.WideShapes Go.ChangeAt Go.RowKit

theorem cells_path : Tryz.prog.cellsOf 34 = 32 := by kernel_rfl

theorem cells_hash : Tryz.prog.cellsOf 39 = 32 := by kernel_rfl

theorem arg_path {H : Type} {enc : TypeId × Value → H} {W : World} {base : Nat} {v : Value} {d : DataW H} {p : List MemPlace} (hv : Value.okWide Tryz.prog W .any base 34 v) (h : DataW.Trod enc Tryz.prog W 0 (fun _ => true) true 34 v d p) :
    ∃ zs, zs.length = 32 ∧ v = .agg (B zs) ∧ Bytes zs := by
  obtain ⟨zs, h1, h2, h3⟩ := arg_arr Tryz.underlying34 u_byte cells_byte cells_path hv h
  refine ⟨zs, h1, h2, fun z hz => ?_⟩
  have := bounds_u8 (h3 z hz)
  omega

theorem arg_hash {H : Type} {enc : TypeId × Value → H} {W : World} {base : Nat} {v : Value} {d : DataW H} {p : List MemPlace} (hv : Value.okWide Tryz.prog W .any base 39 v) (h : DataW.Trod enc Tryz.prog W 0 (fun _ => true) true 39 v d p) :
    ∃ zs, zs.length = 32 ∧ v = .agg (B zs) ∧ Bytes zs := by
  obtain ⟨zs, h1, h2, h3⟩ := arg_arr Tryz.underlying39 u_byte cells_byte cells_hash hv h
  refine ⟨zs, h1, h2, fun z hz => ?_⟩
  have := bounds_u8 (h3 z hz)
  omega

end Go.Proofs.YtegegoapcdmlhaaGreatDoor

/- What an argument is in memory that is a node. -/
namespace Go.Proofs.YtegegoapcdmlhaaGreatDoor
set_option maxRecDepth 20000
open Go.ChangeShapes Go.WideShapes Go.ChangeAt Go.RowKit

theorem okWide_str {t : TypeId} {fs : Array Field} {W : World} {base : Nat} {v : Value} (ht : Tryz.prog.underlying t = some (.struct fs)) (h : Value.okWide Tryz.prog W .any base t v) : ∃ cs, v = .agg cs := by
  unfold Value.okWide at h
  cases v <;> simp_all

/-- An array of bytes in the midst of what came in. -/
theorem trod_u8s {H : Type} {enc : TypeId × Value → H} {W : World} {fuel : Nat} {t : TypeId} {n : Nat} {cs : List Value} {x : DataW H × List MemPlace} (ht : Tryz.prog.underlying t = some (.array n 5)) (hct : Tryz.prog.cellsOf t = n)
    (h : DataW.trod enc Tryz.prog W 0 (fun _ => true) true fuel t cs = some x) : ∃ zs : List Int, zs.length = n ∧ cs = zs.map (Value.int .u8) ∧ Bytes zs := by
  obtain ⟨xs, m, rfl, hx, hl, hn, hel⟩ := DataW.trod_array ht h
  rw [hct] at hl
  have each : ∀ i, i < n → ∃ z, cs[i]? = some (.int .u8 z) ∧ (Lit.int .u8 z).wf = true := by
    intro i hi
    have h1 := hel i hi
    rw [cells_byte] at h1
    obtain ⟨y, hyi⟩ : ∃ y, xs[i]? = some y := ⟨xs[i]'(by omega), List.getElem?_eq_getElem (by omega)⟩
    rw [hyi] at h1
    obtain ⟨z, e1, _, w1⟩ := DataW.trod_int u_byte h1
    refine ⟨z, ?_, w1⟩
    have := congrArg (·[0]?) e1
    simpa [List.getElem?_take, List.getElem?_drop] using this
  obtain ⟨f, hf2⟩ := Go.Deep.choose_lt each
  refine ⟨(List.range n).map f, by simp, ?_, ?_⟩
  · apply List.ext_getElem?
    intro i
    by_cases hi : i < n
    · have := (hf2 i hi).1
      simp [hi]
      simpa using this
    · rw [List.getElem?_eq_none (by omega), List.getElem?_eq_none (by simp; omega)]
  · intro z hz
    obtain ⟨i, hi, rfl⟩ := List.mem_map.1 hz
    have := bounds_u8 (hf2 i (by simpa using hi)).2
    omega

theorem cells_node : Tryz.prog.cellsOf 298 = 129 := by kernel_rfl

theorem cells_kind : Tryz.prog.cellsOf 110 = 1 := by kernel_rfl

/-- The cells of a node that came in. -/
theorem trod_node {H : Type} {enc : TypeId × Value → H} {W : World} {fuel : Nat} {cs : List Value} {x : DataW H × List MemPlace} (h : DataW.trod enc Tryz.prog W 0 (fun _ => true) true fuel 298 cs = some x) :
    ∃ k a b c d, cs = (nd k a b c d).map (Value.int .u8) ∧ Nd k a b c d := by
  have hF : ∃ f0 f1 f2 f3 f4 : Field, Tryz.prog.underlying 298 = some (.struct #[f0, f1, f2, f3, f4]) ∧ (f0.type = 110 ∧ f0.offset = 0) ∧ (f1.type = 34 ∧ f1.offset = 1) ∧ (f2.type = 39 ∧ f2.offset = 33) ∧ (f3.type = 39 ∧ f3.offset = 65) ∧ (f4.type = 39 ∧ f4.offset = 97) :=
    ⟨_, _, _, _, _, Tryz.underlying298, ⟨rfl, rfl⟩, ⟨rfl, rfl⟩, ⟨rfl, rfl⟩, ⟨rfl, rfl⟩, ⟨rfl, rfl⟩⟩
  obtain ⟨f0, f1, f2, f3, f4, hu, ⟨t0, o0⟩, ⟨t1, o1⟩, ⟨t2, o2⟩, ⟨t3, o3⟩, ⟨t4, o4⟩⟩ := hF
  obtain ⟨xs, n, _, _, hl, hlen, hf⟩ := DataW.trod_struct hu h
  rw [cells_node] at hl
  match xs, hlen with
  | [y0, y1, y2, y3, y4], _ =>
    have e0 := hf 0 f0 rfl
    have e1 := hf 1 f1 rfl
    have e2 := hf 2 f2 rfl
    have e3 := hf 3 f3 rfl
    have e4 := hf 4 f4 rfl
    rw [t0, o0, cells_kind] at e0
    rw [t1, o1, cells_path] at e1
    rw [t2, o2, cells_hash] at e2
    rw [t3, o3, cells_hash] at e3
    rw [t4, o4, cells_hash] at e4
    obtain ⟨k, k1, _, kw⟩ := DataW.trod_int Tryz.underlying110 e0
    obtain ⟨a, la, ea, ba⟩ := trod_u8s Tryz.underlying34 cells_path e1
    obtain ⟨b, lb, eb, bb⟩ := trod_u8s Tryz.underlying39 cells_hash e2
    obtain ⟨c, lc, ec, bc⟩ := trod_u8s Tryz.underlying39 cells_hash e3
    obtain ⟨d, ld, ed, bd⟩ := trod_u8s Tryz.underlying39 cells_hash e4
    have hk := bounds_u8 kw
    refine ⟨k, a, b, c, d, ?_, ⟨by omega, by omega, la, lb, lc, ld, ba, bb, bc, bd⟩⟩
    have s4 : (cs.drop 97).take 32 = cs.drop 97 := List.take_of_length_le (by simp [hl])
    have s3 : cs.drop 65 = (cs.drop 65).take 32 ++ cs.drop 97 := by
      have := (List.take_append_drop 32 (cs.drop 65)).symm
      rwa [List.drop_drop] at this
    have s2 : cs.drop 33 = (cs.drop 33).take 32 ++ cs.drop 65 := by
      have := (List.take_append_drop 32 (cs.drop 33)).symm
      rwa [List.drop_drop] at this
    have s1 : cs.drop 1 = (cs.drop 1).take 32 ++ cs.drop 33 := by
      have := (List.take_append_drop 32 (cs.drop 1)).symm
      rwa [List.drop_drop] at this
    have s0 : cs = (cs.drop 0).take 1 ++ cs.drop 1 := by
      have := (List.take_append_drop 1 cs).symm
      simpa using this
    rw [s0, k1, s1, ea, s2, eb, s3, ec, ← s4, ed]
    simp [nd]

theorem arg_node {H : Type} {enc : TypeId × Value → H} {W : World} {base : Nat} {v : Value} {d : DataW H} {p : List MemPlace} (hv : Value.okWide Tryz.prog W .any base 298 v) (h : DataW.Trod enc Tryz.prog W 0 (fun _ => true) true 298 v d p) :
    ∃ k a b c e, v = .agg (B (nd k a b c e)) ∧ Nd k a b c e := by
  obtain ⟨fs, hu⟩ := u_node
  obtain ⟨cs, rfl⟩ := okWide_str hu hv
  obtain ⟨fuel, hf⟩ := h
  obtain ⟨k, a, b, c, e, h1, h2⟩ := trod_node hf
  refine ⟨k, a, b, c, e, ?_, h2⟩
  congr 1
  apply Array.ext'
  rw [B_toList]
  exact h1

end Go.Proofs.YtegegoapcdmlhaaGreatDoor
