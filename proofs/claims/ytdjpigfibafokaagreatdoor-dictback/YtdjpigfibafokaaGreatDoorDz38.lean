/- What an argument is in memory that is a key or a digest. -/
import Derived.Test.YtdjpigfibafokaaGreatDoorDz01
import Derived.Test.YtdjpigfibafokaaGreatDoorDz37
import Derived.Test.YtdjpigfibafokaaGreatDoorDz06
import Derived.ChangeSame
import Derived.Test.YtdjpigfibafokaaGreatDoorDz36
import Derived.Deep.Slices
import Derived.Test.YtdjpigfibafokaaGreatDoorDz13
import Derived.Maps.OwnSet
import Derived.Maps.RangeWalk
import Derived.Maps.OwnOps
import Derived.Maps.Views
namespace Go.Proofs.YtdjpigfibafokaaGreatDoor
variable {W:World}
variable {base:Nat}
variable {v:Value}
set_option maxRecDepth 20000
open Go.ChangeShapes Go.WideShapes Go.ChangeAt Go.RowKit

theorem cells_path:Tryz.prog.cellsOf 63=32:=by kernel_rfl

theorem arg_path {H:Type} {enc:TypeId×Value→H} {d:DataW H} {p:List MemPlace} (hv:Value.okWide Tryz.prog W .any base 63 v) (h:DataW.Trod enc Tryz.prog W 0 (fun _=>true) true 63 v d p):
    ∃zs,zs.length=32∧v=.agg (B zs)∧Bytes zs:=by
  obtain ⟨zs,h1,h2,h3⟩:=arg_arr Tryz.underlying63 u_byte cells_byte cells_path hv h;refine ⟨zs,h1,h2,fun z hz=>?_⟩;have:=bounds_u8 (h3 z hz);omega

end Go.Proofs.YtdjpigfibafokaaGreatDoor

namespace Go.Proofs.YtdjpigfibafokaaGreatDoor
variable {W:World}
variable {base:Nat}
variable {v:Value}
set_option maxRecDepth 20000
open Go.ChangeShapes Go.WideShapes Go.ChangeAt Go.RowKit

end Go.Proofs.YtdjpigfibafokaaGreatDoor

namespace Go.Proofs.YtdjpigfibafokaaGreatDoor
variable {W:World}
variable {base:Nat}
variable {v:Value}
set_option maxRecDepth 20000
open Go.ChangeShapes Go.WideShapes Go.ChangeAt Go.RowKit

structure Ac where
  k:Int
  K:Lq
  v:Value
  bs:Lq
  d:Int
  x:Int
  y:Int
def acL (q:Ac):List Value:=azL q.k q.K q.v q.d q.x q.y
instance:Inhabited Ac:=⟨⟨0,z32,.slice none 0 0,[],0,0,0⟩⟩

def AcAt (W:World) (v:Value) (qs:List Ac):Prop:=
  ∃a c,v=.slice a qs.length c∧(0<qs.length→∃b off,a=some ⟨b,off,none⟩∧∀i,i<qs.length→W.rangeAt b (off+i * 37) (acL (qs.getD i default)))∧∀i,i<qs.length→Key (qs.getD i default).K∧Reads W (qs.getD i default).v (qs.getD i default).bs∧(qs.getD i default).bs.length≤140737488355328-4096

end Go.Proofs.YtdjpigfibafokaaGreatDoor

namespace Go.Proofs.YtdjpigfibafokaaGreatDoor
variable {W:World}
variable {base:Nat}
variable {v:Value}
set_option maxRecDepth 20000
open Go.RowKit

def fsum (cs:Lz) (L:List Nat) (k:Nat) (x:Int):Nat:=((L.take k).map fun h=>(if ((ce cs (h-1)).l:Int)=x then 1 else 0)+(if ((ce cs (h-1)).r:Int)=x then 1 else 0)).sum
end Go.Proofs.YtdjpigfibafokaaGreatDoor
