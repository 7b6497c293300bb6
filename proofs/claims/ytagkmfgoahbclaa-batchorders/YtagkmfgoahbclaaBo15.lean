/- sha.mixed and sha.Step, as contracts: the 64 rounds, the block step. -/
import Derived.Test.YtagkmfgoahbclaaBo14
import Derived.Test.YtagkmfgoahbclaaBo04
import Derived.Test.YtagkmfgoahbclaaBo01
namespace Go.Proofs.Ytagkmfgoahbclaa
set_option maxRecDepth 20000
open Go.RowKit

/-- The tables of the program stand as its text lays them. -/
def Laid (w : World) : Prop := w.heap.size ≥ 2 ∧ (∀ i, i < 64 → w.cell? ⟨1, i, none⟩ = some (.int .u32 (ks.getD i 0))) ∧ (∀ i, i < 8 → w.cell? ⟨0, i, none⟩ = some (.int .u32 (hs.getD i 0)))
theorem Laid.grow {w w' : World} (h : Laid w) (hb : Below w.heap.size w w') : Laid w' := by
  obtain ⟨h0, h1, h2⟩ := h
  refine ⟨Nat.le_trans h0 hb.size, fun i hi => ?_, fun i hi => ?_⟩
  · rw [hb.cell (p := ⟨1, i, none⟩) (by show 1 < _; omega)]; exact h1 i hi
  · rw [hb.cell (p := ⟨0, i, none⟩) (by show 0 < _; omega)]; exact h2 i hi

theorem rnd_flat (k w a b c d e f g h : Int) : rnd k w [a, b, c, d, e, f, g, h] =
    [((h + big1 e + chs e f g + k + w) % 4294967296 + (big0 a + maj a b c) % 4294967296) % 4294967296, a, b, c, (d + (h + big1 e + chs e f g + k + w) % 4294967296) % 4294967296, e, f, g] := by
  have : ad (ad (ad (ad h (big1 e)) (chs e f g)) k) w = (h + big1 e + chs e f g + k + w) % 4294967296 := by
    simp only [ad]
    omega
  simp only [rnd, this]
  rfl

end Go.Proofs.Ytagkmfgoahbclaa

/- What stands in every later world: facts that a walk carries on from call to call. -/
namespace Go.Proofs.Ytagkmfgoahbclaa
set_option maxRecDepth 20000
open Go.RowKit

def Kp (w : World) (P : World → Prop) : Prop := ∀ w', Below w.heap.size w w' → P w'
theorem Kp.now {w : World} {P : World → Prop} (h : Kp w P) : P w := h w (Below.refl _ _)
theorem Kp.step {w w1 : World} {P : World → Prop} (h : Kp w P) (q : Below w.heap.size w w1) : Kp w1 P := fun w' h' => h w' (grow_trans q h')
theorem Kp.mono {w : World} {P Q : World → Prop} (h : Kp w P) (q : ∀ w', P w' → Q w') : Kp w Q := fun w' h' => q w' (h w' h')
theorem Blk.kp {w : World} {g : Nat} {t : TypeId} {cs : Array Value} (h : Blk w g t cs) : Kp w (fun w' => Blk w' g t cs) := fun _ q => h.grow q
theorem Reads.kp {w : World} {v : Value} {zs : List Int} (h : Reads w v zs) : Kp w (fun w' => Reads w' v zs) := fun _ q => h.grow q
theorem Own.kp {b : Nat} {w : World} {v : Value} {zs sp : List Int} (h : Own b w v zs sp) : Kp w (fun w' => Own b w' v zs sp) := fun _ q => h.grow q
theorem Laid.kp {w : World} (h : Laid w) : Kp w Laid := fun _ q => h.grow q
theorem below_kp (w : World) : Kp w (fun w' => Below w.heap.size w w') := fun _ q => q
theorem row_kp {w : World} {g : Nat} {zs : List Int} (h : Row w g zs) : Kp w (fun w' => Row w' g zs) := fun _ q => h.of_block (q.block g h.lt)

end Go.Proofs.Ytagkmfgoahbclaa
