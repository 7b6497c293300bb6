/- The laws' large, as a contract; one write of an entry of a list, as the laws of put make it. -/
import Derived.Test.YtabiglnmfdpcfaaGreatDoorBz01
import Derived.Test.YtabiglnmfdpcfaaGreatDoorBz35
import Derived.Test.YtabiglnmfdpcfaaGreatDoorBz33
import Derived.Test.YtabiglnmfdpcfaaGreatDoorBz11
import Derived.Test.YtabiglnmfdpcfaaGreatDoorBz22
import Derived.Test.YtabiglnmfdpcfaaGreatDoorBz41
namespace Go.Proofs.YtabiglnmfdpcfaaGreatDoor
set_option maxRecDepth 20000
open Go.RowKit

def lgP (es:List Ent):Bool:=decide (16<es.length) || es.any fun e=>decide (1024<e.2.length)
end Go.Proofs.YtabiglnmfdpcfaaGreatDoor

namespace Go.Proofs.YtabiglnmfdpcfaaGreatDoor
set_option maxRecDepth 20000
open Go.RowKit

end Go.Proofs.YtabiglnmfdpcfaaGreatDoor

namespace Go.Proofs.YtabiglnmfdpcfaaGreatDoor
set_option maxRecDepth 20000
open Go.RowKit

abbrev It:=Ent×Value
def i00:It:=(e00,undef)
def atI (its:List It) (K:Lq):Nat→Option Nat
  | 0=>none
  | k+1=>if (its.getD k i00).1.1=K then some k else atI its K k
def atZ (o:Option Nat):Int:=match o with | none=> -1 | some j=>(j:Int)
def upI (its:List It) (p:It):List It:=match atI its p.1.1 its.length with | none=>its++[p] | some j=>its.set j p
def prI (l:List It):List It:=l.foldl upI []
def inI (es:List Ent) (V:Nat→Value):List It:=(List.range es.length).map fun i=>(es.getD i e00,V i)

def PsPost (es:List Ent) (V:Nat→Value) (w:World) (e:Ending) (w':World):Prop:=
  ∃a c,e=.returned (.slice a (prI (inI es V)).length c)∧w'.ownsRow w.heap.size 62 33 (.slice a (prI (inI es V)).length c) (prI (inI es V)).length (flatP (prI (inI es V)))∧Kb w w'

end Go.Proofs.YtabiglnmfdpcfaaGreatDoor

namespace Go.Proofs.YtabiglnmfdpcfaaGreatDoor
set_option maxRecDepth 20000
open Go.RowKit

end Go.Proofs.YtabiglnmfdpcfaaGreatDoor
