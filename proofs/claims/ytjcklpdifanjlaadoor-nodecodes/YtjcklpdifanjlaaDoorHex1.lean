/- octet.digit and octet.Hex, as contracts. -/
import Derived.Test.YtjcklpdifanjlaaDoorHexa
import Derived.Test.YtjcklpdifanjlaaDoorMem2
import Derived.Deep.RegionLaw
namespace Go.Proofs.YtjcklpdifanjlaaDoor
set_option maxRecDepth 20000
open Go.RowKit

theorem and15 (z : Int) (h0 : 0 ≤ z) (h1 : z ≤ 255) : bits .and .u8 z 15 = z % 16 := by
  rw [u8_and z 15 h0 (by omega) (by omega) (by omega)]
  have : (15 : Int).toNat = 15 := rfl
  rw [this, nat_mask4]
  omega

theorem digits_fin : ∀ n : Fin 16, (((⟨#[48, 49, 50, 51, 52, 53, 54, 55, 56, 57, 97, 98, 99, 100, 101, 102]⟩ : ByteArray)[n.val]'(by have := n.isLt; exact this)).toNat : Int) = hd n.val := by
  decide +kernel

theorem digits_get (v : Int) (h0 : 0 ≤ v) (h1 : v < 16) (hh : v.toNat < (⟨#[48, 49, 50, 51, 52, 53, 54, 55, 56, 57, 97, 98, 99, 100, 101, 102]⟩ : ByteArray).size) :
    (((⟨#[48, 49, 50, 51, 52, 53, 54, 55, 56, 57, 97, 98, 99, 100, 101, 102]⟩ : ByteArray)[v.toNat]'hh).toNat : Int) = hd v := by
  have := digits_fin ⟨v.toNat, by omega⟩
  have e : ((v.toNat : Nat) : Int) = v := by omega
  simp only [e] at this
  exact this

theorem pair_reads (w : World) (a b : UInt8) : Reads ((w.alloc (.cells #[.int .u8 (a.toNat : Int), .int .u8 (b.toNat : Int)] 5)).drew) (.slice (some ⟨w.heap.size, 0, none⟩) 2 2) [(a.toNat : Int), (b.toNat : Int)] := by
  have ha := a.toNat_lt
  have hb := b.toNat_lt
  refine ⟨_, 2, rfl, Nat.le_refl _, fun h => by simp at h, ?_, fun _ => ⟨w.heap.size, 0, rfl, ?_⟩⟩
  · intro z hz
    simp at hz
    rcases hz with rfl | rfl <;> omega
  · intro i hi
    have hr : ((w.alloc (.cells #[.int .u8 (a.toNat : Int), .int .u8 (b.toNat : Int)] 5)).drew).heap[w.heap.size]? = some (.cells #[.int .u8 (a.toNat : Int), .int .u8 (b.toNat : Int)] 5 (0, 0)) := heap_alloc_new w _
    rw [cell_of_row _ _ _ _ _ _ hr]
    match i, hi with
    | 0, _ => rfl
    | 1, _ => rfl

end Go.Proofs.YtjcklpdifanjlaaDoor
