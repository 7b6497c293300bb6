/- node.leavesOf, as a contract. -/
import Derived.Test.YtlclabbnpjobgaaGreatDoorAp27
namespace Go.Proofs.YtlclabbnpjobgaaGreatDoor
set_option maxRecDepth 20000
open Go.RowKit
def LvPost (es:List Ent) (w:World) (e:Ending) (w':World):Prop:=
 ∃v ls,e=.returned (.tuple #[v,.int .i64 0])∧LvAt w' v ls∧ls.Perm (es.map mkLf)∧Rise ls∧Kb w w'
def SameE (es:List Ent) (d:Nat):Prop:=∀a∈es,∀b∈es,∀j,j<d→kb a.1 j=kb b.1 j
inductive RootIs (es:List Ent) (d:Int):Lq→Int→Prop
 | out:(d<0∨256<d)→RootIs es d z32 2
 | bad (E:Int):0≤d→d≤256→errB es=E→E≠0→RootIs es d z32 E
 | part:0≤d→d≤256→errB es=0→ ¬SameE es d.toNat→RootIs es d z32 2
 | good:0≤d→d≤256→errB es=0→SameE es d.toNat→RootIs es d (rt (256-d.toNat) d.toNat es) 0
def RootPost (es:List Ent) (d:Int) (w:World) (e:Ending) (w':World):Prop:=∃h E,e=.returned (.tuple #[.agg (B h),.int .i64 E])∧RootIs es d h E∧Kb w w'
end Go.Proofs.YtlclabbnpjobgaaGreatDoor
