/- octet.Join (bytes.Join with no separator), as a contract: all parts, one behind the other, in new memory. -/
import Derived.Test.YtlhnodinhmdjnaaGreatDoorVt02
import Derived.Test.YtlhnodinhmdjnaaGreatDoorVt15
import Derived.Lib.MakeNoZero
import Derived.Test.YtlhnodinhmdjnaaGreatDoorVt04
import Derived.Deep.RegionHeld2
namespace Go.Proofs.YtlhnodinhmdjnaaGreatDoor
set_option maxRecDepth 20000
open Go.RowKit

/-- v is a slice of slices that reads as these lists of bytes. -/
def Parts (w : World) (v : Value) (ps : List (List Int)) : Prop :=
  ∃ (a : Option Addr) (cap : Nat) (V : Nat → Value), v = .slice a ps.length cap ∧ ps.length ≤ cap ∧ ps.length ≤ 140737488355328 ∧ (0 < ps.length → ∃ b off, a = some ⟨b, off, none⟩ ∧ ∀ i, i < ps.length → w.cell? ⟨b, off + i, none⟩ = some (V i)) ∧ ∀ i, i < ps.length → Reads w (V i) (ps.getD i [])

theorem digits_B : ∀ (n t : Nat) (acc : List Int), ∃ ds : List Int, ds.length = acc.length + n ∧ Extern.BytealgMakeNoZero.digits n t (B acc) = B ds
  | 0, _, acc => ⟨acc, rfl, rfl⟩
  | n + 1, t, acc => by
    obtain ⟨ds, h1, h2⟩ := digits_B n (t / 256) (acc ++ [((t % 256 : Nat) : Int)])
    refine ⟨ds, by simp at h1; omega, ?_⟩
    rw [Extern.BytealgMakeNoZero.digits, ← h2]
    congr 1
    simp [B]

theorem run_mnz (n : Nat) (w : World) (hn : n ≤ 281474976710656) : ∃ t, (Extern.BytealgMakeNoZero.makeNoZero #[3] #[35] #[.int .i64 n]).run Tryz.prog w =
    .ok (.slice (some ⟨w.heap.size, 0, none⟩) n (grownCap w n 0 5)) (w.drew.drew.alloc (.cells (Extern.BytealgMakeNoZero.digits (grownCap w n 0 5) t #[]) 5)) := by
  apply Exists.intro
  show Sem.run Tryz.prog (do
        let .slice elem ← underlying 35 | stuck _
        if (n : Int) < 0 || (n : Int) > 2 ^ 48 then runtimePanic _
        let cap ← choose (.appendCap (n : Int).toNat 0 elem)
        askRoom cap
        let bytes ← choose _
        let a ← newRow elem (Extern.BytealgMakeNoZero.digits cap bytes #[])
        pure (Value.slice (some a) (n : Int).toNat cap)) w = _
  have g1 : ¬ (n : Int) < 0 := by omega
  have g2 : ¬ (281474976710656 : Int) < (n : Int) := by omega
  simp [run_underlying u_bytes, g1, g2, Question.forced, newRow, grownCap]
  rfl

/-- How many bytes the first k parts have. -/
def lens (ps : List (List Int)) (k : Nat) : Nat := ((ps.take k).flatten).length
theorem lens_succ (ps : List (List Int)) (k : Nat) (h : k < ps.length) : lens ps (k + 1) = lens ps k + (ps.getD k []).length := by
  unfold lens
  rw [List.take_succ_eq_append_getElem h, List.flatten_append, List.length_append]
  simp [List.getD, h]
theorem flat_succ (ps : List (List Int)) (k : Nat) (h : k < ps.length) : (ps.take (k + 1)).flatten = (ps.take k).flatten ++ ps.getD k [] := by
  rw [List.take_succ_eq_append_getElem h, List.flatten_append]
  simp [List.getD, h]
theorem lens_le (ps : List (List Int)) (k : Nat) : lens ps k ≤ ps.flatten.length := by
  unfold lens
  conv => rhs; rw [← List.take_append_drop k ps, List.flatten_append, List.length_append]
  omega
theorem lens_all (ps : List (List Int)) (k : Nat) (h : ps.length ≤ k) : lens ps k = ps.flatten.length := by
  unfold lens
  rw [List.take_of_length_le h]

/-- What Join leaves. -/
def JoinPost (zs : List Int) (w : World) (e : Ending) (w' : World) : Prop := ∃ u sp, e = .returned u ∧ Own w.heap.size w' u zs sp ∧ Below w.heap.size w w'

end Go.Proofs.YtlhnodinhmdjnaaGreatDoor

/- tag.text and the document's Text, as contracts: a byte and the parts behind it, one behind the other, in new memory. -/
namespace Go.Proofs.YtlhnodinhmdjnaaGreatDoor
set_option maxRecDepth 20000
open Go.RowKit

/-- A new slice of one byte. -/
theorem own_one (base : Nat) (w : World) (z : Int) (h0 : 0 ≤ z) (h1 : z ≤ 255) (hb : base ≤ w.heap.size) : Own base (w.alloc (.cells #[.int .u8 z] 5)) (.slice (some ⟨w.heap.size, 0, none⟩) 1 1) [z] [] :=
  ⟨by intro y hy; simp at hy; subst hy; exact ⟨h0, h1⟩, Bytes.nil, by simp [maxLen], .inr ⟨w.heap.size, [], hb, rfl, heap_alloc_new w _⟩⟩

theorem text_le (ps : List (List Int)) (k : Nat) (t : Int) (h : k < ps.length) (hl : 1 + ps.flatten.length ≤ 140737488355328) : (t :: (ps.take k).flatten).length + (ps.getD k []).length ≤ 140737488355328 := by
  have h1 := lens_succ ps k h
  have h2 := lens_le ps (k + 1)
  unfold lens at *
  rw [List.length_cons]
  omega

end Go.Proofs.YtlhnodinhmdjnaaGreatDoor

/- tag's EmptyText, ValueText, LeafText, InnerText and the document's texts, as contracts. -/
namespace Go.Proofs.YtlhnodinhmdjnaaGreatDoor
set_option maxRecDepth 20000
open Go.RowKit

theorem parts_nil (w : World) : Parts w (.slice none 0 0) [] := ⟨none, 0, fun _ => .slice none 0 0, rfl, by simp, by simp, fun h => by simp at h, fun i hi => by simp at hi⟩

theorem parts_one (w : World) (v : Value) (zs : List Int) (h : Reads w v zs) : Parts (w.alloc (.cells #[v] 35)) (.slice (some ⟨w.heap.size, 0, none⟩) 1 1) [zs] := by
  refine ⟨_, 1, fun _ => v, rfl, Nat.le_refl _, by simp, fun _ => ⟨w.heap.size, 0, rfl, fun i hi => ?_⟩, fun i hi => ?_⟩
  · have hr : (w.alloc (.cells #[v] 35)).heap[w.heap.size]? = some (.cells #[v] 35 (0, 0)) := heap_alloc_new w _
    rw [cell_of_row _ _ _ _ _ _ hr]
    match i, hi with
    | 0, _ => rfl
  · match i, hi with
    | 0, _ => exact h.grow (grow_alloc w _)

theorem parts_two (w : World) (v u : Value) (zs ys : List Int) (h : Reads w v zs) (k : Reads w u ys) : Parts (w.alloc (.cells #[v, u] 35)) (.slice (some ⟨w.heap.size, 0, none⟩) 2 2) [zs, ys] := by
  refine ⟨_, 2, fun i => if i = 0 then v else u, rfl, Nat.le_refl _, by simp, fun _ => ⟨w.heap.size, 0, rfl, fun i hi => ?_⟩, fun i hi => ?_⟩
  · have hr : (w.alloc (.cells #[v, u] 35)).heap[w.heap.size]? = some (.cells #[v, u] 35 (0, 0)) := heap_alloc_new w _
    rw [cell_of_row _ _ _ _ _ _ hr]
    match i, hi with
    | 0, _ => rfl
    | 1, _ => rfl
  · match i, hi with
    | 0, _ => exact h.grow (grow_alloc w _)
    | 1, _ => exact k.grow (grow_alloc w _)

theorem Blk.readsN {w : World} {g : Nat} {t : TypeId} {zs : List Int} (h : Blk w g t (B zs)) (hb : Bytes zs) (n : Nat) (hn : zs.length = n) : Reads w (.slice (some ⟨g, 0, none⟩) n n) zs := by
  subst hn
  exact ⟨_, _, rfl, Nat.le_refl _, fun h => by simp at h, hb, fun _ => ⟨g, 0, rfl, fun i hi => by rw [Nat.zero_add]; exact h.bcell i hi⟩⟩

end Go.Proofs.YtlhnodinhmdjnaaGreatDoor
