/- What stands in every later world: facts that a walk carries on from call to call. -/
import Derived.Test.YtjcklpdifanjlaaDoorNode3
import Derived.Test.YtjcklpdifanjlaaDoorState5
namespace Go.Proofs.YtjcklpdifanjlaaDoor
set_option maxRecDepth 20000
open Go.RowKit

def Kp (w : World) (P : World → Prop) : Prop := ∀ w', Below w.heap.size w w' → P w'
theorem Kp.now {w : World} {P : World → Prop} (h : Kp w P) : P w := h w (Below.refl _ _)
theorem Kp.step {w w1 : World} {P : World → Prop} (h : Kp w P) (q : Below w.heap.size w w1) : Kp w1 P := fun w' h' => h w' (grow_trans q h')
theorem Kp.mono {w : World} {P Q : World → Prop} (h : Kp w P) (q : ∀ w', P w' → Q w') : Kp w Q := fun w' h' => q w' (h w' h')
theorem Blk.kp {w : World} {g : Nat} {t : TypeId} {cs : Array Value} (h : Blk w g t cs) : Kp w (fun w' => Blk w' g t cs) := fun _ q => h.grow q
theorem Reads.kp {w : World} {v : Value} {zs : List Int} (h : Reads w v zs) : Kp w (fun w' => Reads w' v zs) := fun _ q => h.grow q
theorem Own.kp {b : Nat} {w : World} {v : Value} {zs sp : List Int} (h : Own b w v zs sp) : Kp w (fun w' => Own b w' v zs sp) := fun _ q => h.grow q
theorem Laid.kp {w : World} (h : Laid w) : Kp w Laid := fun _ q => h.grow q
theorem below_kp (w : World) : Kp w (fun w' => Below w.heap.size w w') := fun _ q => q
theorem row_kp {w : World} {g : Nat} {zs : List Int} (h : Row w g zs) : Kp w (fun w' => Row w' g zs) := fun _ q => h.of_block (q.block g h.lt)

end Go.Proofs.YtjcklpdifanjlaaDoor
