/- node.leavesOf, as a contract: leaves in a row of the call's own, sorted by slices.SortFunc. -/
import Derived.Test.YtabiglnmfdpcfaaGreatDoorBz01
import Derived.Test.YtabiglnmfdpcfaaGreatDoorBz43
import Derived.Test.YtabiglnmfdpcfaaGreatDoorBz22
import Derived.Test.YtabiglnmfdpcfaaGreatDoorBz36
namespace Go.Proofs.YtabiglnmfdpcfaaGreatDoor
variable {es:List Ent}
set_option maxRecDepth 20000
open Go.RowKit Go.Shelf
open Go.Sort (HoldsK putRowK size_flatK get_flatK)

def Rows (w:World) (g m:Nat) (ls:List Lf):Prop:=(∀i,i<ls.length→w.rangeAt g (i * 129) (encLf ls[i]!))∧∀i,i<m→w.there g (i * 129) 129
end Go.Proofs.YtabiglnmfdpcfaaGreatDoor

namespace Go.Proofs.YtabiglnmfdpcfaaGreatDoor
variable {es:List Ent}
set_option maxRecDepth 20000
open Go.RowKit

def LvPost (es:List Ent) (w:World) (e:Ending) (w':World):Prop:=
  ∃v ls,e=.returned (.tuple #[v,.int .i64 0])∧LvAt w' v ls∧ls.Perm (es.map mkLf)∧Rise ls∧Kb w w'

end Go.Proofs.YtabiglnmfdpcfaaGreatDoor

namespace Go.Proofs.YtabiglnmfdpcfaaGreatDoor
variable {es:List Ent}
set_option maxRecDepth 20000
open Go.RowKit

theorem hash_facts (D:Lq) (h:D.length=32):(Tryz.prog.info? 39).map (·.size)=some (B D).size∧(B (List.replicate 32 0)).size=(B D).size:=⟨by rw [B_size,h];exact sz_hash,by rw [B_size,B_size,h];rfl⟩

end Go.Proofs.YtabiglnmfdpcfaaGreatDoor

namespace Go.Proofs.YtabiglnmfdpcfaaGreatDoor
variable {es:List Ent}
set_option maxRecDepth 20000
open Go.RowKit

def SameE (es:List Ent) (d:Nat):Prop:=∀a∈es,∀b∈es,∀j,j<d→kb a.1 j=kb b.1 j
inductive RootIs (es:List Ent) (d:Int):Lq→Int→Prop
  | out:(d<0∨256<d)→RootIs es d z32 2
  | bad (E:Int):0≤d→d≤256→errB es=E→E≠0→RootIs es d z32 E
  | part:0≤d→d≤256→errB es=0→ ¬SameE es d.toNat→RootIs es d z32 2
  | good:0≤d→d≤256→errB es=0→SameE es d.toNat→RootIs es d (rt (256-d.toNat) d.toNat es) 0

theorem RootIs.len {d:Int} {h:Lq} {e:Int} (p:RootIs es d h e):h.length=32:=by
  cases p with
  | out _=>rfl
  | bad _ _ _ _ _=>rfl
  | part _ _ _ _=>rfl
  | good _ _ _ _=>
    match hn:256-d.toNat,es with
    | _,[]=>rw [rt_nil];exact dig_length _
    | _,[x]=>rw [rt_one];exact dig_length _
    | 0,_::_::_=>exact dig_length _
    | n+1,a::b::l=>rw [rt_more n _ _ (by simp)];exact dig_length _

end Go.Proofs.YtabiglnmfdpcfaaGreatDoor
