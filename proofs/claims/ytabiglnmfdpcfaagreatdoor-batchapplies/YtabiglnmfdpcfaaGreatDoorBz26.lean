/- put.plan, as a contract; what it plans. -/
import Derived.Test.YtabiglnmfdpcfaaGreatDoorBz01
import Derived.Test.YtabiglnmfdpcfaaGreatDoorBz25
import Derived.Test.YtabiglnmfdpcfaaGreatDoorBz18
namespace Go.Proofs.YtabiglnmfdpcfaaGreatDoor
variable {T:Tre}
variable {cs:Lz}
variable {fr:List Nat}
variable {g gs h room:Nat}
variable {w w':World}
set_option maxRecDepth 20000
open Go.RowKit

def BesIs (K:Lq) (T:Tre) (h:Nat) (ss:List Nat):Prop:=
  (T.efin K=[]∧ss=T.oth K)∨(∃b,T.efin K=[(K,b)]∧ss=T.oth K)∨(∃k b c,T.efin K=[(k,b)]∧k≠K∧IsCommon K k c∧(T.oth K).length≤c∧c<256∧ss=besX (T.oth K) c (T.fin K h))

def PlPost (ss:List Nat) (w:World) (e:Ending) (w':World):Prop:=
  ∃a c,e=.returned (.tuple #[.slice a ss.length c,.bool false,.int .i64 0])∧w'.ownsRow w.heap.size 3 1 (.slice a ss.length c) ss.length (nats ss)∧Kb w w'

end Go.Proofs.YtabiglnmfdpcfaaGreatDoor

namespace Go.Proofs.YtabiglnmfdpcfaaGreatDoor
variable {T:Tre}
variable {cs:Lz}
variable {fr:List Nat}
variable {g gs h room:Nat}
variable {w w':World}
set_option maxRecDepth 20000
open Go.RowKit

def PutTo (cs:Lz) (fr:List Nat) (root:Nat) (K bs:Lq) (ss:List Nat) (top:Nat) (cs':Lz) (fr':List Nat):Prop:=
  ∃(v':Value) (cs2:Lz) (fr2:List Nat),CeOk (lfC (lfD K (vaD bs)) K v' bs)∧Rz K ss (tkC (holdM cs ss) fr (1,lfC (lfD K (vaD bs)) K v' bs)) fr.dropLast (tkH (holdM cs ss) fr) cs2 fr2 top∧((root=0∧cs'=cs2∧fr'=fr2)∨(1≤root∧∃n,Run cs2 fr2 [root] cs' fr' n))

def PtPost (w0:World) (S:List Nat) (g gs room:Nat) (cs:Lz) (fr:List Nat) (E:List Ent) (root:Nat) (K bs:Lq) (ss:List Nat) (e:Ending) (w':World):Prop:=
  ∃(top:Nat) (cs':Lz) (fr':List Nat),e=.returned (.tuple #[.int .i64 (top:Int),.int .i64 0])∧PutTo cs fr root K bs ss top cs' fr'∧PutOk cs E K bs root top ss cs'∧Hs w0 S w' g gs room cs' fr'

end Go.Proofs.YtabiglnmfdpcfaaGreatDoor

namespace Go.Proofs.YtabiglnmfdpcfaaGreatDoor
variable {T:Tre}
variable {cs:Lz}
variable {fr:List Nat}
variable {g gs h room:Nat}
variable {w w':World}
set_option maxRecDepth 20000
open Go.RowKit

def kyB (b:Int):Lq:=b::List.replicate 31 0
end Go.Proofs.YtabiglnmfdpcfaaGreatDoor

namespace Go.Proofs.YtabiglnmfdpcfaaGreatDoor
variable {T:Tre}
variable {cs:Lz}
variable {fr:List Nat}
variable {g gs h room:Nat}
variable {w w':World}
set_option maxRecDepth 20000
open Go.RowKit

theorem con_le (i:Nat) (p:Nat×Ce):con i p≤2:=by
  unfold con;split
  · split <;> split <;> omega
  · omega
theorem ns_le (cs:Lz) (i:Nat):ns cs i≤2 * cs.length:=by
  induction cs with
  | nil=>simp [ns]
  | cons p r ih=>
    have h:=con_le i p;simp only [ns,List.map_cons,List.sum_cons,List.length_cons] at ih ⊢;omega
theorem Wf.ccLe (W:Wf cs []) (i b:Nat) (h:Go.Proofs.YtabiglnmfdpcfaaGreatDoor.own cs [] i≤b):cc cs i≤2 * cs.length+b:=by
  have h1:=W.own i;have h2:=W.ab i;have h3:=ns_le cs i;rw [List.count_nil] at h1;omega

structure Rt (cs:Lz) (h:Nat) (T:Tre):Prop where
  tree:IsT cs h T
  dp:(sdC cs h).kind=2→(sdC cs h).dp=0
  own:h=0∨0<own cs [] (h-1)

theorem Rt.root (r:Rt cs h T):vRt true (cot cs h) (cat cs h) h=0:=by
  unfold vRt;rw [if_pos rfl]
  by_cases h0:(h:Int)=0
  · rw [if_pos h0]
  · rw [if_neg h0]
    rcases r.tree.occ with e | ⟨e1,e2⟩
    · exact absurd (by omega) h0
    · have hc:cot cs (h:Int)=cc cs (h-1):=by rw [cot,if_pos (by omega),show ((h:Int)-1).toNat=h-1 by omega]
      rw [hc,if_neg (by omega)];have hd:=r.dp;rw [← cat_nat] at hd;unfold vDp;rw [if_pos rfl]
      by_cases k:(cat cs (h:Int)).kind=2
      · rw [if_pos k,hd k]
        rfl
      · rw [if_neg k]
        rfl
def upE (E:List Ent) (K bs:Lq):List Ent:=(K,bs)::E.filter fun e=>!(e.1 == K)

def costN (T:Tre) (K bs:Lq) (ss:List Nat):Nat:=if T.efin K=[(K,bs)] then 0 else 1+ss.length

structure PaIs (cs:Lz) (fr:List Nat) (T:Tre) (h:Nat) (K bs:Lq) (ss:List Nat) (top:Nat) (cs':Lz) (fr':List Nat) (T':Tre):Prop where
  rt:Rt cs' top T'
  ents:T'.ents.Perm (upE T.ents K bs)
  pos:1≤top
  own:∀i,own cs' [] i+(if h=i+1 then 1 else 0)=own cs [] i+(if top=i+1 then 1 else 0)
  keep:∀x X,IsT cs x X→(x=0∨0<cc cs' (x-1))→IsT cs' x X
  noc:noc cs'≤noc cs+costN T K bs ss
  same:T.efin K=[(K,bs)]→top=h∧cs'=cs∧fr'=fr
  just:h=0∨h∈ss→Go.Proofs.YtabiglnmfdpcfaaGreatDoor.noc cs'=Go.Proofs.YtabiglnmfdpcfaaGreatDoor.noc cs+costN T K bs ss
  new:T.efin K≠[(K,bs)]→cc cs (top-1)=0
  len:cs'.length≤cs.length+costN T K bs ss

def PaPost (w0:World) (S:List Nat) (g gs room:Nat) (cs:Lz) (fr:List Nat) (T:Tre) (h:Nat) (K bs:Lq) (ss:List Nat) (e:Ending) (w':World):Prop:=
  ∃(top:Nat) (cs':Lz) (fr':List Nat) (T':Tre),e=.returned (.tuple #[.int .i64 (top:Int),.int .i64 0])∧PaIs cs fr T h K bs ss top cs' fr' T'∧Hs w0 S w' g gs room cs' fr'

theorem Rt.dig (r:Rt cs h T) (W:Wf cs []):sdD cs h=rt 256 0 T.ents:=(tree_ok W T h r.tree).dig 0 r.dp
theorem Rt.size (r:Rt cs h T) (W:Wf cs []):(sdC cs h).sz=T.ents.length:=(tree_ok W T h r.tree).sz

theorem hs_new (room:Nat) (w:World) (h1:1≤room) (h2:room≤65536):Kc 7 #[.int .i64 (room:Int)] w fun e w'=>∃g gs,e=.returned (.tuple #[.pointer (some ⟨g,0,none⟩),.int .i64 0])∧Hs w [] w' g gs room [] []:=by
  refine (newS_ok room w h1 h2).mono ?_;rintro e w' ⟨g,gs,rfl,hg,hgs,s,b⟩;refine ⟨g,gs,rfl,⟨_,_,s,Mod.of_below b _,fun k hk=>.inr ?_⟩,Wf.new⟩;rcases stB_mem.1 hk with rfl | hk | ⟨i,hk⟩
  · exact hg
  · rcases slB_mem.1 hk with rfl | hk | hk
    · exact hgs
    · cases hk
    · cases hk
  · simp only [ce,List.getElem?_nil,Option.getD_none] at hk
    cases hk

theorem Hs.low (h:Hs w [] w' g gs room cs fr):Kb w w':=h.mod.below0

end Go.Proofs.YtabiglnmfdpcfaaGreatDoor
