/- The statements' SameInts. -/
import Derived.Test.YtlclabbnpjobgaaGreatDoorAp42
import Derived.Test.YtlclabbnpjobgaaGreatDoorRows
import Derived.ProofKit
import Derived.OpenShut
import Derived.ShutString
import Derived.ChangeOld
import Derived.Below
import Derived.SizedLaws
namespace Go.Proofs.YtlclabbnpjobgaaGreatDoor
set_option maxRecDepth 20000
open Go.RowKit
def Ns (w:World) (v:Value) (ss:Lq):Prop:=∃a c,v=.slice a ss.length c∧(0<ss.length→∃g o,a=some ⟨g,o,none⟩∧∀i,i<ss.length→w.cell? ⟨g,o+i,none⟩=some (.int .i64 (ss[i]?.getD 0)))
def azL (k:Int) (K:Lq) (v:Value) (d x y:Int):List Value:=.int .i64 k::(K.map (Value.int .u8)++[v,.int .i64 d,.int .i64 x,.int .i64 y])
open Go.ChangeShapes Go.WideShapes Go.ChangeAt Go.RowKit
theorem Yjq:ownKnob Tryz.prog.godebug=none:=by kernel_rfl
theorem Zko:laidOutB Tryz.prog=true:=by kernel_rfl
end Go.Proofs.YtlclabbnpjobgaaGreatDoor
