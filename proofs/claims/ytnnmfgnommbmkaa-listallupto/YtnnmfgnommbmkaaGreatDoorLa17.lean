/- octet.Join (bytes.Join with no separator), as a contract: all parts, one behind the other, in new memory. -/
import Derived.Test.YtnnmfgnommbmkaaGreatDoorLa01
import Derived.Test.YtnnmfgnommbmkaaGreatDoorLa03
import Derived.Test.YtnnmfgnommbmkaaGreatDoorLa16
import Derived.Lib.MakeNoZero
import Derived.Test.YtnnmfgnommbmkaaGreatDoorLa04
import Derived.Deep.RegionHeld2
namespace Go.Proofs.YtnnmfgnommbmkaaGreatDoor
set_option maxRecDepth 20000
open Go.RowKit

def Parts (w : World) (v : Value) (ps : List (List Int)) : Prop :=
  ∃ (a : Option Addr) (cap : Nat) (V : Nat → Value), v = .slice a ps.length cap ∧ ps.length ≤ cap ∧ ps.length ≤ 140737488355328 ∧ (0 < ps.length → ∃ b off, a = some ⟨b, off, none⟩ ∧ ∀ i, i < ps.length → w.cell? ⟨b, off + i, none⟩ = some (V i)) ∧ ∀ i, i < ps.length → Reads w (V i) (ps.getD i [])

def lens (ps : List (List Int)) (k : Nat) : Nat := ((ps.take k).flatten).length
theorem lens_succ (ps : List (List Int)) (k : Nat) (h : k < ps.length) : lens ps (k + 1) = lens ps k + (ps.getD k []).length := by
  unfold lens
  rw [List.take_succ_eq_append_getElem h, List.flatten_append, List.length_append]
  simp [List.getD, h]
theorem flat_succ (ps : List (List Int)) (k : Nat) (h : k < ps.length) : (ps.take (k + 1)).flatten = (ps.take k).flatten ++ ps.getD k [] := by
  rw [List.take_succ_eq_append_getElem h, List.flatten_append]
  simp [List.getD, h]
theorem lens_le (ps : List (List Int)) (k : Nat) : lens ps k ≤ ps.flatten.length := by
  unfold lens
  conv => rhs; rw [← List.take_append_drop k ps, List.flatten_append, List.length_append]
  omega
def JoinPost (zs : List Int) (w : World) (e : Ending) (w' : World) : Prop := ∃ u sp, e = .returned u ∧ Own w.heap.size w' u zs sp ∧ Below w.heap.size w w'

end Go.Proofs.YtnnmfgnommbmkaaGreatDoor

namespace Go.Proofs.YtnnmfgnommbmkaaGreatDoor
set_option maxRecDepth 20000
open Go.RowKit

end Go.Proofs.YtnnmfgnommbmkaaGreatDoor

namespace Go.Proofs.YtnnmfgnommbmkaaGreatDoor
set_option maxRecDepth 20000
open Go.RowKit

theorem parts_nil (w : World) : Parts w (.slice none 0 0) [] := ⟨none, 0, fun _ => .slice none 0 0, rfl, by simp, by simp, fun h => by simp at h, fun i hi => by simp at hi⟩

theorem parts_one (w : World) (v : Value) (zs : List Int) (h : Reads w v zs) : Parts (w.alloc (.cells #[v] 36)) (.slice (some ⟨w.heap.size, 0, none⟩) 1 1) [zs] := by
  refine ⟨_, 1, fun _ => v, rfl, Nat.le_refl _, by simp, fun _ => ⟨w.heap.size, 0, rfl, fun i hi => ?_⟩, fun i hi => ?_⟩
  · have hr : (w.alloc (.cells #[v] 36)).heap[w.heap.size]? = some (.cells #[v] 36 (0, 0)) := heap_alloc_new w _
    rw [cell_of_row _ _ _ _ _ _ hr]
    match i, hi with
    | 0, _ => rfl
  · match i, hi with
    | 0, _ => exact h.grow (grow_alloc w _)

theorem parts_two (w : World) (v u : Value) (zs ys : List Int) (h : Reads w v zs) (k : Reads w u ys) : Parts (w.alloc (.cells #[v, u] 36)) (.slice (some ⟨w.heap.size, 0, none⟩) 2 2) [zs, ys] := by
  refine ⟨_, 2, fun i => if i = 0 then v else u, rfl, Nat.le_refl _, by simp, fun _ => ⟨w.heap.size, 0, rfl, fun i hi => ?_⟩, fun i hi => ?_⟩
  · have hr : (w.alloc (.cells #[v, u] 36)).heap[w.heap.size]? = some (.cells #[v, u] 36 (0, 0)) := heap_alloc_new w _
    rw [cell_of_row _ _ _ _ _ _ hr]
    match i, hi with
    | 0, _ => rfl
    | 1, _ => rfl
  · match i, hi with
    | 0, _ => exact h.grow (grow_alloc w _)
    | 1, _ => exact k.grow (grow_alloc w _)

theorem Blk.readsN {w : World} {g : Nat} {t : TypeId} {zs : List Int} (h : Blk w g t (B zs)) (hb : Bytes zs) (n : Nat) (hn : zs.length = n) : Reads w (.slice (some ⟨g, 0, none⟩) n n) zs := by
  subst hn
  exact ⟨_, _, rfl, Nat.le_refl _, fun h => by simp at h, hb, fun _ => ⟨g, 0, rfl, fun i hi => by rw [Nat.zero_add]; exact h.bcell i hi⟩⟩

end Go.Proofs.YtnnmfgnommbmkaaGreatDoor
