/- Texts that were just made: where they lie; lists of such texts. -/
import Derived.Test.YtpbmpmiicdpehabGreatDoorDb16
import Derived.Test.YtpbmpmiicdpehabGreatDoorDb34
import Derived.Test.YtpbmpmiicdpehabGreatDoorDb17
import Derived.Laws.Cover3
namespace Go.Proofs.YtpbmpmiicdpehabGreatDoor
set_option maxRecDepth 20000
open Go.RowKit

/-- What a call leaves that tells a new text of n bytes. -/
def TxtPost (zs : List Int) (n : Nat) (w : World) (e : Ending) (w' : World) : Prop :=
  ∃ g c sp, e = .returned (.slice (some ⟨g, 0, none⟩) n c) ∧ w.heap.size ≤ g ∧ g < w'.heap.size ∧ Own w.heap.size w' (.slice (some ⟨g, 0, none⟩) n c) zs sp ∧ Below w.heap.size w w'

theorem txt_of_join {zs : List Int} {n : Nat} {w : World} {e : Ending} {w' : World} (hn : zs.length = n) (hp : 0 < n) (h : JoinPost zs w e w') : TxtPost zs n w e w' := by
  obtain ⟨v, sp, rfl, hO, hb⟩ := h
  subst hn
  have hl := hO.lt
  obtain ⟨h1, h2, h3, h4⟩ := hO
  rcases h4 with ⟨_, rfl, _⟩ | ⟨g, rest, hg, rfl, h5⟩
  · simp at hp
  · exact ⟨g, _, sp, rfl, hg, (hl g rfl).2, ⟨h1, h2, h3, .inr ⟨g, rest, hg, rfl, h5⟩⟩, hb⟩

theorem Parts.grow {w w' : World} {v : Value} {ps : List (List Int)} (h : Parts w v ps) (hb : Below w.heap.size w w') : Parts w' v ps := by
  obtain ⟨a, cap, V, rfl, h1, h2, h3, h4⟩ := h
  refine ⟨a, cap, V, rfl, h1, h2, fun hp => ?_, fun i hi => (h4 i hi).grow hb⟩
  obtain ⟨b, off, e, hc⟩ := h3 hp
  exact ⟨b, off, e, fun i hi => (hb.cell (p := ⟨b, off + i, none⟩) (block_lt_of_cell (hc i hi))).trans (hc i hi)⟩

/-- A new list of values that read as these bytes. -/
theorem parts_new (w : World) (vs : List Value) (ps : List (List Int)) (n : Nat) (hn : ps.length = n) (hv : vs.length = n) (hp : n ≤ 140737488355328) (h : ∀ i, i < n → Reads w (vs.getD i undef) (ps.getD i [])) :
    Parts (w.alloc (.cells vs.toArray 46)) (.slice (some ⟨w.heap.size, 0, none⟩) n n) ps := by
  subst hn
  refine ⟨_, ps.length, fun i => vs.getD i undef, rfl, Nat.le_refl _, hp, fun _ => ⟨w.heap.size, 0, rfl, fun i hi => ?_⟩, fun i hi => (h i hi).grow (grow_alloc w _)⟩
  have hr : (w.alloc (.cells vs.toArray 46)).heap[w.heap.size]? = some (.cells vs.toArray 46 (0, 0)) := heap_alloc_new w _
  rw [cell_of_row _ _ _ _ _ _ hr]
  simp [List.getD, hv, hi]

end Go.Proofs.YtpbmpmiicdpehabGreatDoor

/- node.Encode, node.Digest, as contracts. -/
namespace Go.Proofs.YtpbmpmiicdpehabGreatDoor
set_option maxRecDepth 20000
open Go.RowKit

/-- What a walk asks of a node in a block. -/
structure NdF (N : List Int) (k : Int) (a b c d : List Int) : Prop where
  kd : ∀ w g t, Blk w g t (B N) → w.cell? ⟨g, 0, none⟩ = some (.int .u8 k)
  sa : Seg N 1 a
  sb : Seg N 33 b
  sc : Seg N 65 c
  sd : Seg N 97 d
  la : (Tryz.prog.info? 32).map (·.size) = some a.length
  lb : (Tryz.prog.info? 39).map (·.size) = some b.length
  lc : (Tryz.prog.info? 39).map (·.size) = some c.length
  ld : (Tryz.prog.info? 39).map (·.size) = some d.length
  ln : (Tryz.prog.info? 122).map (·.size) = some (B N).size
  ll : (Tryz.prog.info? 122).map (·.size) = some (B N).toList.length

theorem Nd.facts {k : Int} {a b c d : List Int} (h : Nd k a b c d) : NdF (nd k a b c d) k a b c d :=
  ⟨fun _ _ _ q => Nd.kind q, h.segA, h.segB, h.segC, h.segD, by rw [h.la]; exact sz_path, by rw [h.lb]; exact sz_hash, by rw [h.lc]; exact sz_hash, by rw [h.ld]; exact sz_hash, by rw [h.size]; exact size_node, by rw [Array.length_toList, h.size]; exact size_node⟩

/-- A node's text; nothing of one that may not be. -/
def txN (k : Int) (a b c d : List Int) : List Int := if okN k a b c d = true then (if k = 1 then 1 :: (a ++ b) else if k = 2 then 2 :: (c ++ d) else [0]) else []
def dgN (k : Int) (a b c d : List Int) : List Int := if okN k a b c d = true then dig (txN k a b c d) else z32

def EncPost (k : Int) (a b c d : List Int) (w : World) (e : Ending) (w' : World) : Prop :=
  ∃ v sp, e = .returned (.tuple #[v, .int .i64 (okE k a b c d)]) ∧ Own w.heap.size w' v (txN k a b c d) sp ∧ Below w.heap.size w w'
def DigNPost (k : Int) (a b c d : List Int) (w : World) (e : Ending) (w' : World) : Prop :=
  e = .returned (.tuple #[.agg (B (dgN k a b c d)), .int .i64 (okE k a b c d)]) ∧ Below w.heap.size w w'

theorem Own.later {b b' : Nat} {w : World} {v : Value} {zs sp : List Int} (h : Own b w v zs sp) (hb : b' ≤ b) : Own b' w v zs sp := by
  obtain ⟨h1, h2, h3, h4⟩ := h
  refine ⟨h1, h2, h3, ?_⟩
  rcases h4 with h4 | ⟨g, hid, hg, h5⟩
  · exact .inl h4
  · exact .inr ⟨g, hid, Nat.le_trans hb hg, h5⟩

theorem z32_hash : B z32 = B (List.replicate 32 0) := rfl

theorem built_hash : Tryz.prog.built 39 [] = some (B z32) := by kernel_rfl

end Go.Proofs.YtpbmpmiicdpehabGreatDoor

/- node.is, node.Decode, as contracts. -/
namespace Go.Proofs.YtpbmpmiicdpehabGreatDoor
set_option maxRecDepth 20000
open Go.RowKit

/-- What Decode reads: the node, and whether the bytes are a node's. -/
def dcA (zs : List Int) : List Int := (zs.drop 1).take 32
def dcB (zs : List Int) : List Int := zs.drop 33
def dcN (zs : List Int) : List Int := if zs.length = 65 ∧ zs.getD 0 0 = 1 then nd 1 (dcA zs) (dcB zs) z32 z32 else if zs.length = 65 ∧ zs.getD 0 0 = 2 then nd 2 z32 z32 (dcA zs) (dcB zs) else nd 0 z32 z32 z32 z32
def dcE (zs : List Int) : Int := if zs.length = 65 ∧ zs.getD 0 0 = 1 then 0 else if zs.length = 65 ∧ zs.getD 0 0 = 2 then 0 else if zs.length = 1 ∧ zs.getD 0 0 = 0 then 0 else 10

def DecPost (zs : List Int) (w : World) (e : Ending) (w' : World) : Prop := e = .returned (.tuple #[.agg (B (dcN zs)), .int .i64 (dcE zs)]) ∧ Below w.heap.size w w'

/-- A composite literal, in a region that draws its order. -/
theorem exec_bd (o : Oper) (a : Act) (ty : TypeId) (parts : Array (Nat × Operand)) (ho : o.op = .build ty parts) (cs : Array Value) (h : Tryz.prog.built ty (parts.map fun (i, x) => (i, a.eval x)).toList = some cs) (w : World) : (execOp a.eval o).run Tryz.prog w = .ok (.value (.agg cs)) w := by
  unfold execOp
  simp only [ho, Sem.run_bind, run_build w ty _ cs h, Result.andThen_ok, Sem.run_pure]

def isB (zs : List Int) (k n : Int) : Bool := decide ((zs.length : Int) = n ∧ zs.getD 0 0 = k)

theorem range_seg {w : World} {b off : Nat} {zs : List Int} (hc : ∀ i, i < zs.length → w.cell? ⟨b, off + i, none⟩ = some (.int .u8 (zs.getD i 0))) (o : Nat) (xs : List Int) (hs : Seg zs o xs) : w.rangeAt b (off + o) (B xs).toList := by
  intro j v hv
  rw [B_toList] at hv
  have hj : j < xs.length := by have := (List.getElem?_eq_some_iff.1 hv).1; simpa using this
  have h1 := hs j xs[j] (by simp)
  obtain ⟨h2, h3⟩ := List.getElem?_eq_some_iff.1 h1
  rw [Nat.add_assoc, hc (o + j) h2]
  simp only [List.getElem?_map, List.getElem?_eq_getElem hj, Option.map_some, Option.some.injEq] at hv
  rw [← hv]
  simp [List.getD, h2, h3]

theorem dc_segA (zs : List Int) : Seg zs 1 (dcA zs) := fun j v hj => by
  unfold dcA at hj
  rw [List.getElem?_take] at hj
  split at hj
  · rwa [List.getElem?_drop] at hj
  · cases hj
theorem dc_segB (zs : List Int) : Seg zs 33 (dcB zs) := fun j v hj => by
  unfold dcB at hj
  rwa [List.getElem?_drop] at hj
theorem dcA_length (zs : List Int) (h : zs.length = 65) : (dcA zs).length = 32 := by simp [dcA, h]
theorem dcB_length (zs : List Int) (h : zs.length = 65) : (dcB zs).length = 32 := by simp [dcB, h]
theorem dcA_bytes (zs : List Int) (h : Bytes zs) : Bytes (dcA zs) := fun z hz => h z (List.mem_of_mem_drop (List.mem_of_mem_take hz))
theorem dcB_bytes (zs : List Int) (h : Bytes zs) : Bytes (dcB zs) := fun z hz => h z (List.mem_of_mem_drop hz)
theorem dc_nd (zs : List Int) (h : Bytes zs) : ∃ k a b c d, dcN zs = nd k a b c d ∧ Nd k a b c d := by
  unfold dcN
  split
  · rename_i q
    exact ⟨_, _, _, _, _, rfl, by omega, by omega, dcA_length zs q.1, dcB_length zs q.1, rfl, rfl, dcA_bytes zs h, dcB_bytes zs h, z32_bytes, z32_bytes⟩
  · split
    · rename_i q
      exact ⟨_, _, _, _, _, rfl, by omega, by omega, rfl, rfl, dcA_length zs q.1, dcB_length zs q.1, z32_bytes, z32_bytes, dcA_bytes zs h, dcB_bytes zs h⟩
    · exact ⟨_, _, _, _, _, rfl, z_nd⟩

end Go.Proofs.YtpbmpmiicdpehabGreatDoor
