/- ShaNil's walk: the law returns true at every b, and nothing that was in memory turns. -/
import Derived.Test.YtjcklpdifanjlaaDoorShaEq
import Derived.Test.YtjcklpdifanjlaaDoorAbc
import Derived.Test.YtjcklpdifanjlaaDoorHex1
import Derived.Lib.SlBytesConst
namespace Go.Proofs.YtjcklpdifanjlaaDoor
set_option maxRecDepth 20000
open Go.RowKit

theorem abc_reads (w : World) : Reads (w.alloc (.cells #[.int .u8 97, .int .u8 98, .int .u8 99] 5 (3, 4))) (.slice (some ⟨w.heap.size, 0, none⟩) 3 3) [97, 98, 99] := by
  refine ⟨_, 3, rfl, Nat.le_refl _, fun h => by simp at h, by intro z hz; simp at hz; omega, fun _ => ⟨w.heap.size, 0, rfl, ?_⟩⟩
  intro i hi
  have hr : (w.alloc (.cells #[.int .u8 97, .int .u8 98, .int .u8 99] 5 (3, 4))).heap[w.heap.size]? = some (.cells #[.int .u8 97, .int .u8 98, .int .u8 99] 5 (3, 4)) := heap_alloc_new w _
  rw [cell_of_row _ _ _ _ _ _ hr]
  match i, hi with
  | 0, _ => rfl
  | 1, _ => rfl
  | 2, _ => rfl

theorem abc_text : ((strOfNums (hx (dig [97, 98, 99]))).toList == [98, 97, 55, 56, 49, 54, 98, 102, 56, 102, 48, 49, 99, 102, 101, 97, 52, 49, 52, 49, 52, 48, 100, 101, 53, 100, 97, 101, 50, 50, 50, 51, 98, 48, 48, 51, 54, 49, 97, 51, 57, 54, 49, 55, 55, 97, 57, 99, 98, 52, 49, 48, 102, 102, 54, 49, 102, 50, 48, 48, 49, 53, 97, 100]) = true := by
  rw [dig_abc]
  kernel_rfl

theorem Blk.reads {w : World} {g : Nat} {t : TypeId} {zs : List Int} (h : Blk w g t (B zs)) (hb : Bytes zs) : Reads w (.slice (some ⟨g, 0, none⟩) zs.length zs.length) zs :=
  ⟨_, _, rfl, Nat.le_refl _, fun h => by simp at h, hb, fun _ => ⟨g, 0, rfl, fun i hi => by rw [Nat.zero_add]; exact h.bcell i hi⟩⟩

theorem below_cell {w w' : World} (hb : Below w.heap.size w w') {g o : Nat} {v : Value} (h : w.cell? ⟨g, o, none⟩ = some v) : w'.cell? ⟨g, o, none⟩ = some v := (hb.cell (p := ⟨g, o, none⟩) (block_lt_of_cell h)).trans h

end Go.Proofs.YtjcklpdifanjlaaDoor
