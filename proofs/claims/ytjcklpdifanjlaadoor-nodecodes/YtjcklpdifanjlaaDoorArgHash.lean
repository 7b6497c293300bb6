/- What an argument is in memory that is a key or a digest. -/
import Derived.Test.YtjcklpdifanjlaaDoorArgArr
namespace Go.Proofs.YtjcklpdifanjlaaDoor
set_option maxRecDepth 20000
open Go.ChangeShapes Go.WideShapes Go.ChangeAt Go.RowKit

theorem cells_path : Tryd.prog.cellsOf 24 = 32 := by kernel_rfl

theorem cells_hash : Tryd.prog.cellsOf 25 = 32 := by kernel_rfl

theorem arg_path {H : Type} {enc : TypeId × Value → H} {W : World} {base : Nat} {v : Value} {d : DataW H} {p : List MemPlace} (hv : Value.okWide Tryd.prog W .any base 24 v) (h : DataW.Trod enc Tryd.prog W 0 (fun _ => true) true 24 v d p) :
    ∃ zs, zs.length = 32 ∧ v = .agg (B zs) ∧ Bytes zs := by
  obtain ⟨zs, h1, h2, h3⟩ := arg_arr Tryd.underlying24 u_byte cells_byte cells_path hv h
  refine ⟨zs, h1, h2, fun z hz => ?_⟩
  have := bounds_u8 (h3 z hz)
  omega

theorem arg_hash {H : Type} {enc : TypeId × Value → H} {W : World} {base : Nat} {v : Value} {d : DataW H} {p : List MemPlace} (hv : Value.okWide Tryd.prog W .any base 25 v) (h : DataW.Trod enc Tryd.prog W 0 (fun _ => true) true 25 v d p) :
    ∃ zs, zs.length = 32 ∧ v = .agg (B zs) ∧ Bytes zs := by
  obtain ⟨zs, h1, h2, h3⟩ := arg_arr Tryd.underlying25 u_byte cells_byte cells_hash hv h
  refine ⟨zs, h1, h2, fun z hz => ?_⟩
  have := bounds_u8 (h3 z hz)
  omega

end Go.Proofs.YtjcklpdifanjlaaDoor
