/- A set of keys, a map of the call's own: looked up, and one key more. -/
import Derived.Test.YtabiglnmfdpcfaaGreatDoorBz01
import Derived.Test.YtabiglnmfdpcfaaGreatDoorBz04
import Derived.Test.YtabiglnmfdpcfaaGreatDoorBz06
import Derived.Carry
import Derived.Test.YtabiglnmfdpcfaaGreatDoorBz32
import Derived.Test.YtabiglnmfdpcfaaGreatDoorBz36
import Derived.Shelf.SlSortCmp.WholeK
import Derived.Shelf.SlSorted.Search
import Derived.Test.YtabiglnmfdpcfaaGreatDoorProg
import Derived.Test.YtabiglnmfdpcfaaGreatDoorBz28
import Derived.Lib.SlicesSearch
namespace Go.Proofs.YtabiglnmfdpcfaaGreatDoor
set_option maxRecDepth 20000
open Go.RowKit

def KeysAt (w:World) (b:Nat) (ks:List (Lq)):Prop:=
  ∃es clock,w.heap[b]?=some (.map es clock)∧es.toList.map (fun e=>(e.key,e.val))=ks.map (fun k=>(Value.agg (B k),Value.agg #[]))

end Go.Proofs.YtabiglnmfdpcfaaGreatDoor

namespace Go.Proofs.YtabiglnmfdpcfaaGreatDoor
set_option maxRecDepth 20000
open Go.RowKit

end Go.Proofs.YtabiglnmfdpcfaaGreatDoor

namespace Go.Proofs.YtabiglnmfdpcfaaGreatDoor
set_option maxRecDepth 20000
open Go.Shelf
def sortNode_ren:Go.Shelf.Ren:=⟨fun | 6=>141 | 15=>160 | 14=>159 | 28=>178 | 29=>179 | 20=>170 | 21=>171 | 22=>172 | 23=>173 | 24=>174 | 25=>175 | 26=>176 | 27=>177 | 46=>189 | 47=>190 | 48=>191 | 49=>192 | 50=>193 | 57=>195 | n=>n,fun | 22=>148 | 24=>187 | 25=>189 | 3=>3 | 39=>201 | 0=>0 | 53=>194 | 55=>205 | 4=>4 | 46=>221 | 45=>220 | 50=>30 | 5=>5 | 9=>9 | 66=>231 | 70=>235 | 76=>238 | 77=>129 | n=>n,fun | n=>n⟩
def searchL_ren:Go.Shelf.Ren:=⟨fun | 16=>131 | n=>n,fun | 3=>3 | 35=>92 | 4=>4 | 38=>201 | n=>n,fun | n=>n⟩
end Go.Proofs.YtabiglnmfdpcfaaGreatDoor

namespace Go.Proofs.YtabiglnmfdpcfaaGreatDoor
set_option maxRecDepth 20000
open Go.RowKit

def LvAt (w:World) (v:Value) (ls:List Lf):Prop:=
  ∃a cap,v=.slice a ls.length cap∧ls.length≤cap∧(0<ls.length→∃g off,a=some ⟨g,off,none⟩∧∀i,i<ls.length→w.rangeAt g (off+i * 129) (encLf ls[i]!))

end Go.Proofs.YtabiglnmfdpcfaaGreatDoor
