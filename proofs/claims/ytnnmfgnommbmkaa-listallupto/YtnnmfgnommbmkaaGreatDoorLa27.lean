/- Cells written over in new memory; a struct stored in the midst of a block; a literal in a region that draws its order. -/
import Derived.Test.YtnnmfgnommbmkaaGreatDoorLa01
import Derived.Test.YtnnmfgnommbmkaaGreatDoorLa26
import Derived.Test.YtnnmfgnommbmkaaGreatDoorLa08
import Derived.Laws.Cover3
import Derived.Test.YtnnmfgnommbmkaaGreatDoorLa16
import Derived.Test.YtnnmfgnommbmkaaGreatDoorLa22
namespace Go.Proofs.YtnnmfgnommbmkaaGreatDoor
set_option maxRecDepth 20000
open Go.RowKit

theorem there_grow {w w' : World} {g o n : Nat} (h : w.there g o n) (hb : Below w.heap.size w w') : w'.there g o n := fun j hj => by
  obtain ⟨h1, h2⟩ := h j hj
  obtain ⟨v, hv⟩ := Option.isSome_iff_exists.1 h1
  have hl : g < w.heap.size := block_lt_of_cell (a := ⟨g, o + j, none⟩) hv
  exact ⟨by rw [(hb.cell (p := ⟨g, o + j, none⟩) hl)]; exact h1, by rw [World.frozen?_of_block (hb.block g hl)]; exact h2⟩

theorem setCells_below {w0 : World} {g : Nat} (hg : w0.heap.size ≤ g) : ∀ (vs : List Value) (o : Nat) (w : World), Below w0.heap.size w0 w → Below w0.heap.size w0 (w.setCells g o vs)
  | [], _, _, h => h
  | v :: r, o, _, h => setCells_below hg r (o + 1) _ (setCell_below o v h hg)

theorem step_stL {ops : Array Oper} {o : Oper} {a : Act} {K : Act → World → Prop} {Q : Exit → Act → World → Prop} {E : Prop} (w : World) (hgd : o.guard = none) (x y : Operand) (ty : TypeId) (ho : o.op = .store ty x y)
    (g f : Nat) (cs : Array Value) (hx : a.eval x = .pointer (some ⟨g, f, none⟩)) (hy : a.eval y = .agg cs) (h : w.there g f cs.size) (hi : (Tryz.prog.info? ty).map (·.size) = some cs.size) (h1 : cs.all (·.oneCell') = true)
    (hk : K (a.put o.dst undef) (w.setCells g f cs.toList)) : if Region.wanted o (yielded ops a.tmps) = true then Oper.wp Tryz.prog o a w K Q else E := by
  have hw : Region.wanted o (yielded ops a.tmps) = true := by simp [Region.wanted, hgd]
  rw [if_pos hw]
  exact wp_store_mid ty x y ho g f cs hx hy h hi h1 hk

theorem exec_bd (o : Oper) (a : Act) (ty : TypeId) (parts : Array (Nat × Operand)) (ho : o.op = .build ty parts) (cs : Array Value) (h : Tryz.prog.built ty (parts.map fun (i, x) => (i, a.eval x)).toList = some cs) (w : World) : (execOp a.eval o).run Tryz.prog w = .ok (.value (.agg cs)) w := by
  unfold execOp
  simp only [ho, Sem.run_bind, run_build w ty _ cs h, Result.andThen_ok, Sem.run_pure]

end Go.Proofs.YtnnmfgnommbmkaaGreatDoor

namespace Go.Proofs.YtnnmfgnommbmkaaGreatDoor
set_option maxRecDepth 20000
open Go.RowKit

def dcA (zs : List Int) : List Int := (zs.drop 1).take 32
def dcB (zs : List Int) : List Int := zs.drop 33
def dcN (zs : List Int) : List Int := if zs.length = 65 ∧ zs.getD 0 0 = 1 then nd 1 (dcA zs) (dcB zs) z32 z32 else if zs.length = 65 ∧ zs.getD 0 0 = 2 then nd 2 z32 z32 (dcA zs) (dcB zs) else nd 0 z32 z32 z32 z32
def dcE (zs : List Int) : Int := if zs.length = 65 ∧ zs.getD 0 0 = 1 then 0 else if zs.length = 65 ∧ zs.getD 0 0 = 2 then 0 else if zs.length = 1 ∧ zs.getD 0 0 = 0 then 0 else 10

def DecPost (zs : List Int) (w : World) (e : Ending) (w' : World) : Prop := e = .returned (.tuple #[.agg (B (dcN zs)), .int .i64 (dcE zs)]) ∧ Below w.heap.size w w'

def isB (zs : List Int) (k n : Int) : Bool := decide ((zs.length : Int) = n ∧ zs.getD 0 0 = k)

end Go.Proofs.YtnnmfgnommbmkaaGreatDoor

namespace Go.Proofs.YtnnmfgnommbmkaaGreatDoor
set_option maxRecDepth 20000
open Go.RowKit

end Go.Proofs.YtnnmfgnommbmkaaGreatDoor
