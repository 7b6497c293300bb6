/- node.is, node.Decode, as contracts. -/
import Derived.Test.YtgfdgjkbcdmboabGreatDoorLk26
import Derived.Laws.Cover3
import Derived.Test.YtgfdgjkbcdmboabGreatDoorLk16
import Derived.Test.YtgfdgjkbcdmboabGreatDoorLk22
import Derived.Test.YtgfdgjkbcdmboabGreatDoorLk25
namespace Go.Proofs.YtgfdgjkbcdmboabGreatDoor
set_option maxRecDepth 20000
open Go.RowKit

/-- What Decode reads: the node, and whether the bytes are a node's. -/
def dcA (zs : List Int) : List Int := (zs.drop 1).take 32
def dcB (zs : List Int) : List Int := zs.drop 33
def dcN (zs : List Int) : List Int := if zs.length = 65 ∧ zs.getD 0 0 = 1 then nd 1 (dcA zs) (dcB zs) z32 z32 else if zs.length = 65 ∧ zs.getD 0 0 = 2 then nd 2 z32 z32 (dcA zs) (dcB zs) else nd 0 z32 z32 z32 z32
def dcE (zs : List Int) : Int := if zs.length = 65 ∧ zs.getD 0 0 = 1 then 0 else if zs.length = 65 ∧ zs.getD 0 0 = 2 then 0 else if zs.length = 1 ∧ zs.getD 0 0 = 0 then 0 else 10

def DecPost (zs : List Int) (w : World) (e : Ending) (w' : World) : Prop := e = .returned (.tuple #[.agg (B (dcN zs)), .int .i64 (dcE zs)]) ∧ Below w.heap.size w w'

/-- A composite literal, in a region that draws its order. -/
def isB (zs : List Int) (k n : Int) : Bool := decide ((zs.length : Int) = n ∧ zs.getD 0 0 = k)

theorem range_seg {w : World} {b off : Nat} {zs : List Int} (hc : ∀ i, i < zs.length → w.cell? ⟨b, off + i, none⟩ = some (.int .u8 (zs.getD i 0))) (o : Nat) (xs : List Int) (hs : Seg zs o xs) : w.rangeAt b (off + o) (B xs).toList := by
  intro j v hv
  rw [B_toList] at hv
  have hj : j < xs.length := by have := (List.getElem?_eq_some_iff.1 hv).1; simpa using this
  have h1 := hs j xs[j] (by simp)
  obtain ⟨h2, h3⟩ := List.getElem?_eq_some_iff.1 h1
  rw [Nat.add_assoc, hc (o + j) h2]
  simp only [List.getElem?_map, List.getElem?_eq_getElem hj, Option.map_some, Option.some.injEq] at hv
  rw [← hv]
  simp [List.getD, h2, h3]

theorem dc_segA (zs : List Int) : Seg zs 1 (dcA zs) := fun j v hj => by
  unfold dcA at hj
  rw [List.getElem?_take] at hj
  split at hj
  · rwa [List.getElem?_drop] at hj
  · cases hj
theorem dc_segB (zs : List Int) : Seg zs 33 (dcB zs) := fun j v hj => by
  unfold dcB at hj
  rwa [List.getElem?_drop] at hj
theorem dcA_length (zs : List Int) (h : zs.length = 65) : (dcA zs).length = 32 := by simp [dcA, h]
theorem dcB_length (zs : List Int) (h : zs.length = 65) : (dcB zs).length = 32 := by simp [dcB, h]
theorem dcA_bytes (zs : List Int) (h : Bytes zs) : Bytes (dcA zs) := fun z hz => h z (List.mem_of_mem_drop (List.mem_of_mem_take hz))
theorem dcB_bytes (zs : List Int) (h : Bytes zs) : Bytes (dcB zs) := fun z hz => h z (List.mem_of_mem_drop hz)
theorem dc_nd (zs : List Int) (h : Bytes zs) : ∃ k a b c d, dcN zs = nd k a b c d ∧ Nd k a b c d := by
  unfold dcN
  split
  · rename_i q
    exact ⟨_, _, _, _, _, rfl, by omega, by omega, dcA_length zs q.1, dcB_length zs q.1, rfl, rfl, dcA_bytes zs h, dcB_bytes zs h, z32_bytes, z32_bytes⟩
  · split
    · rename_i q
      exact ⟨_, _, _, _, _, rfl, by omega, by omega, rfl, rfl, dcA_length zs q.1, dcB_length zs q.1, z32_bytes, z32_bytes, dcA_bytes zs h, dcB_bytes zs h⟩
    · exact ⟨_, _, _, _, _, rfl, z_nd⟩

end Go.Proofs.YtgfdgjkbcdmboabGreatDoor

/- What stands in every later world, beside nodes: see KpBase. -/
namespace Go.Proofs.YtgfdgjkbcdmboabGreatDoor
set_option maxRecDepth 20000
open Go.RowKit

theorem kp_nodes : True := trivial

end Go.Proofs.YtgfdgjkbcdmboabGreatDoor

/- The document's List of entries, as a contract. -/
namespace Go.Proofs.YtgfdgjkbcdmboabGreatDoor
set_option maxRecDepth 20000
open Go.RowKit

end Go.Proofs.YtgfdgjkbcdmboabGreatDoor
