/- What an argument is in memory that is a key or a digest. -/
import Derived.Test.YtacfhkaihcclaaaArgArr
namespace Go.Proofs.Ytacfhkaihcclaaa
open Go.ChangeShapes Go.WideShapes Go.ChangeAt Go.RowKit

theorem cells_path : Try.prog.cellsOf 23 = 32 := by kernel_rfl
theorem cells_hash : Try.prog.cellsOf 25 = 32 := by kernel_rfl

theorem arg_path {H : Type} {enc : TypeId × Value → H} {W : World} {base : Nat} {v : Value} {d : DataW H} {p : List MemPlace} (hv : Value.okWide Try.prog W .any base 23 v) (h : DataW.Trod enc Try.prog W 0 (fun _ => true) true 23 v d p) :
    ∃ zs, zs.length = 32 ∧ v = .agg (B zs) ∧ Bytes zs := by
  obtain ⟨zs, h1, h2, h3⟩ := arg_arr Try.underlying23 u_byte cells_byte cells_path hv h
  refine ⟨zs, h1, h2, fun z hz => ?_⟩
  have := bounds_u8 (h3 z hz)
  omega

theorem arg_hash {H : Type} {enc : TypeId × Value → H} {W : World} {base : Nat} {v : Value} {d : DataW H} {p : List MemPlace} (hv : Value.okWide Try.prog W .any base 25 v) (h : DataW.Trod enc Try.prog W 0 (fun _ => true) true 25 v d p) :
    ∃ zs, zs.length = 32 ∧ v = .agg (B zs) ∧ Bytes zs := by
  obtain ⟨zs, h1, h2, h3⟩ := arg_arr Try.underlying25 u_byte cells_byte cells_hash hv h
  refine ⟨zs, h1, h2, fun z hz => ?_⟩
  have := bounds_u8 (h3 z hz)
  omega

end Go.Proofs.Ytacfhkaihcclaaa
