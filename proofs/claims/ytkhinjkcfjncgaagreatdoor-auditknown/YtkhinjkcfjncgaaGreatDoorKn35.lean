/- Cells of a block that is known whole are there. -/
import Derived.Test.YtkhinjkcfjncgaaGreatDoorKn01
import Derived.Test.YtkhinjkcfjncgaaGreatDoorKn07
import Derived.Test.YtkhinjkcfjncgaaGreatDoorKn34
import Derived.Laws.Cover3
namespace Go.Proofs.YtkhinjkcfjncgaaGreatDoor
set_option maxRecDepth 20000
open Go.RowKit

theorem Blk.there {w : World} {g : Nat} {t : TypeId} {cs : Array Value} (h : Blk w g t cs) (o n : Nat) (hn : o + n ≤ cs.size) : w.there g o n := fun j hj => ⟨by rw [h.cell, Array.getElem?_eq_getElem (by omega)]; rfl, h.frozen _⟩

end Go.Proofs.YtkhinjkcfjncgaaGreatDoor

/- Cells written over in new memory; a struct stored in the midst of a block; a literal in a region that draws its order. -/
namespace Go.Proofs.YtkhinjkcfjncgaaGreatDoor
set_option maxRecDepth 20000
open Go.RowKit

theorem there_grow {w w' : World} {g o n : Nat} (h : w.there g o n) (hb : Below w.heap.size w w') : w'.there g o n := fun j hj => by
  obtain ⟨h1, h2⟩ := h j hj
  obtain ⟨v, hv⟩ := Option.isSome_iff_exists.1 h1
  have hl : g < w.heap.size := block_lt_of_cell (a := ⟨g, o + j, none⟩) hv
  exact ⟨by rw [(hb.cell (p := ⟨g, o + j, none⟩) hl)]; exact h1, by rw [World.frozen?_of_block (hb.block g hl)]; exact h2⟩

theorem setCells_below {w0 : World} {g : Nat} (hg : w0.heap.size ≤ g) : ∀ (vs : List Value) (o : Nat) (w : World), Below w0.heap.size w0 w → Below w0.heap.size w0 (w.setCells g o vs)
  | [], _, _, h => h
  | v :: r, o, _, h => setCells_below hg r (o + 1) _ (setCell_below o v h hg)

/-- store of a leaf into a row of nodes, in a region that draws its order. -/
theorem step_stL {ops : Array Oper} {o : Oper} {a : Act} {K : Act → World → Prop} {Q : Exit → Act → World → Prop} {E : Prop} (w : World) (hgd : o.guard = none) (x y : Operand) (ty : TypeId) (ho : o.op = .store ty x y)
    (g f : Nat) (cs : Array Value) (hx : a.eval x = .pointer (some ⟨g, f, none⟩)) (hy : a.eval y = .agg cs) (h : w.there g f cs.size) (hi : (Tryz.prog.info? ty).map (·.size) = some cs.size) (h1 : cs.all (·.oneCell') = true)
    (hk : K (a.put o.dst undef) (w.setCells g f cs.toList)) : if Region.wanted o (yielded ops a.tmps) = true then Oper.wp Tryz.prog o a w K Q else E := by
  have hw : Region.wanted o (yielded ops a.tmps) = true := by simp [Region.wanted, hgd]
  rw [if_pos hw]
  exact wp_store_mid ty x y ho g f cs hx hy h hi h1 hk

theorem exec_bd (o : Oper) (a : Act) (ty : TypeId) (parts : Array (Nat × Operand)) (ho : o.op = .build ty parts) (cs : Array Value) (h : Tryz.prog.built ty (parts.map fun (i, x) => (i, a.eval x)).toList = some cs) (w : World) : (execOp a.eval o).run Tryz.prog w = .ok (.value (.agg cs)) w := by
  unfold execOp
  simp only [ho, Sem.run_bind, run_build w ty _ cs h, Result.andThen_ok, Sem.run_pure]

theorem built_path : Tryz.prog.built 72 [] = some (B z32) := by kernel_rfl

end Go.Proofs.YtkhinjkcfjncgaaGreatDoor

/- node.is, node.Decode, as contracts. -/
namespace Go.Proofs.YtkhinjkcfjncgaaGreatDoor
set_option maxRecDepth 20000
open Go.RowKit

/-- What Decode reads: the node, and whether the bytes are a node's. -/
def dcA (zs : List Int) : List Int := (zs.drop 1).take 32
def dcB (zs : List Int) : List Int := zs.drop 33
def dcN (zs : List Int) : List Int := if zs.length = 65 ∧ zs.getD 0 0 = 1 then nd 1 (dcA zs) (dcB zs) z32 z32 else if zs.length = 65 ∧ zs.getD 0 0 = 2 then nd 2 z32 z32 (dcA zs) (dcB zs) else nd 0 z32 z32 z32 z32
def dcE (zs : List Int) : Int := if zs.length = 65 ∧ zs.getD 0 0 = 1 then 0 else if zs.length = 65 ∧ zs.getD 0 0 = 2 then 0 else if zs.length = 1 ∧ zs.getD 0 0 = 0 then 0 else 10

def DecPost (zs : List Int) (w : World) (e : Ending) (w' : World) : Prop := e = .returned (.tuple #[.agg (B (dcN zs)), .int .i64 (dcE zs)]) ∧ Below w.heap.size w w'

/-- A composite literal, in a region that draws its order. -/
def isB (zs : List Int) (k n : Int) : Bool := decide ((zs.length : Int) = n ∧ zs.getD 0 0 = k)

theorem range_seg {w : World} {b off : Nat} {zs : List Int} (hc : ∀ i, i < zs.length → w.cell? ⟨b, off + i, none⟩ = some (.int .u8 (zs.getD i 0))) (o : Nat) (xs : List Int) (hs : Seg zs o xs) : w.rangeAt b (off + o) (B xs).toList := by
  intro j v hv
  rw [B_toList] at hv
  have hj : j < xs.length := by have := (List.getElem?_eq_some_iff.1 hv).1; simpa using this
  have h1 := hs j xs[j] (by simp)
  obtain ⟨h2, h3⟩ := List.getElem?_eq_some_iff.1 h1
  rw [Nat.add_assoc, hc (o + j) h2]
  simp only [List.getElem?_map, List.getElem?_eq_getElem hj, Option.map_some, Option.some.injEq] at hv
  rw [← hv]
  simp [List.getD, h2, h3]

theorem dc_segA (zs : List Int) : Seg zs 1 (dcA zs) := fun j v hj => by
  unfold dcA at hj
  rw [List.getElem?_take] at hj
  split at hj
  · rwa [List.getElem?_drop] at hj
  · cases hj
theorem dc_segB (zs : List Int) : Seg zs 33 (dcB zs) := fun j v hj => by
  unfold dcB at hj
  rwa [List.getElem?_drop] at hj
theorem dcA_length (zs : List Int) (h : zs.length = 65) : (dcA zs).length = 32 := by simp [dcA, h]
theorem dcB_length (zs : List Int) (h : zs.length = 65) : (dcB zs).length = 32 := by simp [dcB, h]
theorem dcA_bytes (zs : List Int) (h : Bytes zs) : Bytes (dcA zs) := fun z hz => h z (List.mem_of_mem_drop (List.mem_of_mem_take hz))
theorem dcB_bytes (zs : List Int) (h : Bytes zs) : Bytes (dcB zs) := fun z hz => h z (List.mem_of_mem_drop hz)
theorem dc_nd (zs : List Int) (h : Bytes zs) : ∃ k a b c d, dcN zs = nd k a b c d ∧ Nd k a b c d := by
  unfold dcN
  split
  · rename_i q
    exact ⟨_, _, _, _, _, rfl, by omega, by omega, dcA_length zs q.1, dcB_length zs q.1, rfl, rfl, dcA_bytes zs h, dcB_bytes zs h, z32_bytes, z32_bytes⟩
  · split
    · rename_i q
      exact ⟨_, _, _, _, _, rfl, by omega, by omega, rfl, rfl, dcA_length zs q.1, dcB_length zs q.1, z32_bytes, z32_bytes, dcA_bytes zs h, dcB_bytes zs h⟩
    · exact ⟨_, _, _, _, _, rfl, z_nd⟩

end Go.Proofs.YtkhinjkcfjncgaaGreatDoor
