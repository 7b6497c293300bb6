/- The document's examples that the laws of put ask (awake), as a contract. -/
import Derived.Test.YtabiglnmfdpcfaaGreatDoorBz01
import Derived.Test.YtabiglnmfdpcfaaGreatDoorBz26
import Derived.Test.YtabiglnmfdpcfaaGreatDoorBz34
import Derived.Test.YtabiglnmfdpcfaaGreatDoorBz06
import Derived.Deep.RegionHeld
import Derived.Deep.RegionHeld2
import Derived.Test.YtabiglnmfdpcfaaGreatDoorBz13
namespace Go.Proofs.YtabiglnmfdpcfaaGreatDoor
variable {cs:Lz}
set_option maxRecDepth 20000
open Go.RowKit

def Aw (w:World) (S:List Nat) (w':World) (g gs room r n m:Nat) (es:List Ent):Prop:=∃cs fr T,Hs w S w' g gs room cs fr∧Rt cs r T∧T.ents.Perm es∧noc cs=n∧(∀i,own cs [] i≤m)∧cs.length≤n
theorem own_nil (i:Nat):own [] [] i=0:=by simp [own,cc]
end Go.Proofs.YtabiglnmfdpcfaaGreatDoor

namespace Go.Proofs.YtabiglnmfdpcfaaGreatDoor
variable {cs:Lz}
set_option maxRecDepth 20000
open Go.RowKit

def Dk (w0 w:World) (g gs R:Nat) (es:List Ent) (root:Nat):Prop:=∃cs fr T,Hs w0 [] w g gs R cs fr∧Rt cs root T∧T.ents.Perm es∧∀i,own cs [] i=if root=i+1 then 1 else 0

section
variable {w0 w w':World} {g gs R root:Nat} {es:List Ent}
theorem sdD_vDg (h:Nat):vDg true (cat cs) (h:Int)=sdD cs h:=by
  unfold vDg sdD
  by_cases h0:h=0
  · subst h0
    rfl
  · rw [if_neg (by omega),if_neg h0,cat_nat,sdC,if_neg h0]
end

end Go.Proofs.YtabiglnmfdpcfaaGreatDoor

namespace Go.Proofs.YtabiglnmfdpcfaaGreatDoor
variable {cs:Lz}
set_option maxRecDepth 20000
open Go.RowKit

def okN (k:Int) (a b c d:Lq):Bool:=decide ((k=0∧a=z32∧b=z32∧c=z32∧d=z32)∨(k=1∧c=z32∧d=z32)∨(k=2∧a=z32∧b=z32))

def BarePost (k:Int) (a b c d:Lq) (w:World) (e:Ending) (w':World):Prop:=
  ∃k' a' b' c' d',e=.returned (.agg (B (nd k' a' b' c' d')))∧Nd k' a' b' c' d'∧okN k a b c d=decide (nd k a b c d=nd k' a' b' c' d')∧Kb w w'

def okE (k:Int) (a b c d:Lq):Int:=if okN k a b c d=true then 0 else 2

end Go.Proofs.YtabiglnmfdpcfaaGreatDoor

namespace Go.Proofs.YtabiglnmfdpcfaaGreatDoor
variable {cs:Lz}
set_option maxRecDepth 20000
open Go.RowKit

def TxtPost (zs:Lq) (n:Nat) (w:World) (e:Ending) (w':World):Prop:=
  ∃g c sp,e=.returned (.slice (some ⟨g,0,none⟩) n c)∧w.heap.size≤g∧g<w'.heap.size∧Own w.heap.size w' (.slice (some ⟨g,0,none⟩) n c) zs sp∧Kb w w'

end Go.Proofs.YtabiglnmfdpcfaaGreatDoor
