/- node.Encode, node.Digest, as contracts. -/
import Derived.Test.YtgfdgjkbcdmboabGreatDoorLk25
import Derived.Test.YtgfdgjkbcdmboabGreatDoorLk17
import Derived.Test.YtgfdgjkbcdmboabGreatDoorLk01
import Derived.Test.YtgfdgjkbcdmboabGreatDoorLk07
namespace Go.Proofs.YtgfdgjkbcdmboabGreatDoor
set_option maxRecDepth 20000
open Go.RowKit

/-- What a walk asks of a node in a block. -/
structure NdF (N : List Int) (k : Int) (a b c d : List Int) : Prop where
  kd : ∀ w g t, Blk w g t (B N) → w.cell? ⟨g, 0, none⟩ = some (.int .u8 k)
  sa : Seg N 1 a
  sb : Seg N 33 b
  sc : Seg N 65 c
  sd : Seg N 97 d
  la : (Tryz.prog.info? 24).map (·.size) = some a.length
  lb : (Tryz.prog.info? 72).map (·.size) = some b.length
  lc : (Tryz.prog.info? 72).map (·.size) = some c.length
  ld : (Tryz.prog.info? 72).map (·.size) = some d.length
  ln : (Tryz.prog.info? 171).map (·.size) = some (B N).size
  ll : (Tryz.prog.info? 171).map (·.size) = some (B N).toList.length

theorem Nd.facts {k : Int} {a b c d : List Int} (h : Nd k a b c d) : NdF (nd k a b c d) k a b c d :=
  ⟨fun _ _ _ q => Nd.kind q, h.segA, h.segB, h.segC, h.segD, by rw [h.la]; exact sz_path, by rw [h.lb]; exact sz_hash, by rw [h.lc]; exact sz_hash, by rw [h.ld]; exact sz_hash, by rw [h.size]; exact size_node, by rw [Array.length_toList, h.size]; exact size_node⟩

/-- A node's text; nothing of one that may not be. -/
def txN (k : Int) (a b c d : List Int) : List Int := if okN k a b c d = true then (if k = 1 then 1 :: (a ++ b) else if k = 2 then 2 :: (c ++ d) else [0]) else []
def dgN (k : Int) (a b c d : List Int) : List Int := if okN k a b c d = true then dig (txN k a b c d) else z32

def EncPost (k : Int) (a b c d : List Int) (w : World) (e : Ending) (w' : World) : Prop :=
  ∃ v sp, e = .returned (.tuple #[v, .int .i64 (okE k a b c d)]) ∧ Own w.heap.size w' v (txN k a b c d) sp ∧ Below w.heap.size w w'
def DigNPost (k : Int) (a b c d : List Int) (w : World) (e : Ending) (w' : World) : Prop :=
  e = .returned (.tuple #[.agg (B (dgN k a b c d)), .int .i64 (okE k a b c d)]) ∧ Below w.heap.size w w'

theorem Own.later {b b' : Nat} {w : World} {v : Value} {zs sp : List Int} (h : Own b w v zs sp) (hb : b' ≤ b) : Own b' w v zs sp := by
  obtain ⟨h1, h2, h3, h4⟩ := h
  refine ⟨h1, h2, h3, ?_⟩
  rcases h4 with h4 | ⟨g, hid, hg, h5⟩
  · exact .inl h4
  · exact .inr ⟨g, hid, Nat.le_trans hb hg, h5⟩

theorem z32_hash : B z32 = B (List.replicate 32 0) := rfl

theorem built_hash : Tryz.prog.built 72 [] = some (B z32) := by kernel_rfl

end Go.Proofs.YtgfdgjkbcdmboabGreatDoor

/- Cells of a block that is known whole are there. -/
namespace Go.Proofs.YtgfdgjkbcdmboabGreatDoor
set_option maxRecDepth 20000
open Go.RowKit

theorem Blk.there {w : World} {g : Nat} {t : TypeId} {cs : Array Value} (h : Blk w g t cs) (o n : Nat) (hn : o + n ≤ cs.size) : w.there g o n := fun j hj => ⟨by rw [h.cell, Array.getElem?_eq_getElem (by omega)]; rfl, h.frozen _⟩

end Go.Proofs.YtgfdgjkbcdmboabGreatDoor

/- Cells written over in new memory; a struct stored in the midst of a block; a literal in a region that draws its order. -/
namespace Go.Proofs.YtgfdgjkbcdmboabGreatDoor
set_option maxRecDepth 20000
open Go.RowKit

theorem there_grow {w w' : World} {g o n : Nat} (h : w.there g o n) (hb : Below w.heap.size w w') : w'.there g o n := fun j hj => by
  obtain ⟨h1, h2⟩ := h j hj
  obtain ⟨v, hv⟩ := Option.isSome_iff_exists.1 h1
  have hl : g < w.heap.size := block_lt_of_cell (a := ⟨g, o + j, none⟩) hv
  exact ⟨by rw [(hb.cell (p := ⟨g, o + j, none⟩) hl)]; exact h1, by rw [World.frozen?_of_block (hb.block g hl)]; exact h2⟩

theorem setCells_below {w0 : World} {g : Nat} (hg : w0.heap.size ≤ g) : ∀ (vs : List Value) (o : Nat) (w : World), Below w0.heap.size w0 w → Below w0.heap.size w0 (w.setCells g o vs)
  | [], _, _, h => h
  | v :: r, o, _, h => setCells_below hg r (o + 1) _ (setCell_below o v h hg)

/-- store of a leaf into a row of nodes, in a region that draws its order. -/
theorem step_stL {ops : Array Oper} {o : Oper} {a : Act} {K : Act → World → Prop} {Q : Exit → Act → World → Prop} {E : Prop} (w : World) (hgd : o.guard = none) (x y : Operand) (ty : TypeId) (ho : o.op = .store ty x y)
    (g f : Nat) (cs : Array Value) (hx : a.eval x = .pointer (some ⟨g, f, none⟩)) (hy : a.eval y = .agg cs) (h : w.there g f cs.size) (hi : (Tryz.prog.info? ty).map (·.size) = some cs.size) (h1 : cs.all (·.oneCell') = true)
    (hk : K (a.put o.dst undef) (w.setCells g f cs.toList)) : if Region.wanted o (yielded ops a.tmps) = true then Oper.wp Tryz.prog o a w K Q else E := by
  have hw : Region.wanted o (yielded ops a.tmps) = true := by simp [Region.wanted, hgd]
  rw [if_pos hw]
  exact wp_store_mid ty x y ho g f cs hx hy h hi h1 hk

theorem exec_bd (o : Oper) (a : Act) (ty : TypeId) (parts : Array (Nat × Operand)) (ho : o.op = .build ty parts) (cs : Array Value) (h : Tryz.prog.built ty (parts.map fun (i, x) => (i, a.eval x)).toList = some cs) (w : World) : (execOp a.eval o).run Tryz.prog w = .ok (.value (.agg cs)) w := by
  unfold execOp
  simp only [ho, Sem.run_bind, run_build w ty _ cs h, Result.andThen_ok, Sem.run_pure]

theorem built_path : Tryz.prog.built 24 [] = some (B z32) := by kernel_rfl

end Go.Proofs.YtgfdgjkbcdmboabGreatDoor
