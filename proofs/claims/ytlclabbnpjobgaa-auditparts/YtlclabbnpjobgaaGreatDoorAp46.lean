/- What an argument is in memory that is a node. -/
import Derived.Test.YtlclabbnpjobgaaGreatDoorAp45
namespace Go.Proofs.YtlclabbnpjobgaaGreatDoor
variable {W:World}
variable {fuel n:Nat}
set_option maxRecDepth 20000
open Go.ChangeShapes Go.WideShapes Go.ChangeAt Go.RowKit
theorem Zyc {H:Type} {enc:TypeId×Value→H} {t:TypeId} {cs:List Value} {x:DataW H×List MemPlace} (ht:Tryz.prog.underlying t=some (.array n 5)) (hct:Tryz.prog.cellsOf t=n)
  (h:DataW.trod enc Tryz.prog W 0 (fun _=>true) true fuel t cs=some x):∃zs:Lq,zs.length=n∧cs=zs.map (Value.int .u8)∧Bytes zs:=by
 obtain ⟨xs,m,rfl,hx,hl,hn,hel⟩:=DataW.trod_array ht h;rw [hct] at hl;have each:∀i,i<n→∃z,cs[i]?=some (.int .u8 z)∧(Lit.int .u8 z).wf=true:=by
  intro i hi;have h1:=hel i hi;rw [Zjl] at h1;obtain ⟨y,hyi⟩:∃y,xs[i]?=some y:=⟨xs[i]'(by omega),List.getElem?_eq_getElem (by omega)⟩;rw [hyi] at h1;obtain ⟨z,e1,_,w1⟩:=DataW.trod_int Ziy h1;refine ⟨z,?_,w1⟩;have:=congrArg (·[0]?) e1;simpa [List.getElem?_take,List.getElem?_drop] using this
 obtain ⟨f,hf2⟩:=Go.Deep.choose_lt each;refine ⟨(List.range n).map f,by simp,?_,?_⟩
 ·apply List.ext_getElem?;intro i
  by_cases hi:i<n
  ·have:=(hf2 i hi).1;simp [hi];simpa using this
  ·rw [List.getElem?_eq_none (by omega),List.getElem?_eq_none (by simp;omega)]
 ·intro z hz;obtain ⟨i,hi,rfl⟩:=List.mem_map.1 hz;have:=bounds_u8 (hf2 i (by simpa using hi)).2;omega
structure Ac where
 k:Int
 K:Lq
 v:Value
 bs:Lq
 d:Int
 x:Int
 y:Int
def acL (q:Ac):List Value:=azL q.k q.K q.v q.d q.x q.y
instance:Inhabited Ac:=⟨⟨0,z32,.slice none 0 0,[],0,0,0⟩⟩
def AcAt (W:World) (v:Value) (qs:List Ac):Prop:=
 ∃a c,v=.slice a qs.length c∧(0<qs.length→∃b off,a=some ⟨b,off,none⟩∧∀i,i<qs.length→W.rangeAt b (off+i * 37) (acL (qs.getD i default)))∧∀i,i<qs.length→Key (qs.getD i default).K∧Reads W (qs.getD i default).v (qs.getD i default).bs∧(qs.getD i default).bs.length≤140737488355328-4096
open Go.RowKit
def fsum (cs:Lz) (L:List Nat) (k:Nat) (x:Int):Nat:=((L.take k).map fun h=>(if ((ce cs (h-1)).l:Int)=x then 1 else 0)+(if ((ce cs (h-1)).r:Int)=x then 1 else 0)).sum
def Hx (w0 w:World) (X:List (Nat×Obj)) (g gs room:Nat) (cs:Lz) (fr:List Nat):Prop:=(∃vp vf,Stm w g gs vp vf room cs fr∧(∀k∈stB g gs vp vf cs,w0.heap.size≤k)∧Kb w0 w∧∀x∈X,w.heap[x.1]?=some x.2∧x.1 ∉ stB g gs vp vf cs)∧Wf cs []
end Go.Proofs.YtlclabbnpjobgaaGreatDoor
