/- What an argument is in memory that is an array of numbers. -/
import Derived.Test.YtgfdgjkbcdmboaaGreatDoorDs40
namespace Go.Proofs.YtgfdgjkbcdmboaaGreatDoor
variable {W:World}
variable {base fuel n:Nat}
variable {v:Value}
set_option maxRecDepth 20000
open Go.ChangeShapes Go.WideShapes Go.ChangeAt Go.RowKit
theorem Zua {t e:TypeId} (ht:Tryz.prog.underlying t=some (.array n e)) (h:Value.okWide Tryz.prog W .any base t v):∃cs,v=.agg cs:=by
 unfold Value.okWide at h;cases v <;> simp_all
theorem Yhx {H:Type} {enc:TypeId×Value→H} {t e:TypeId} {k:IntKind} {d:DataW H} {p:List MemPlace} (ht:Tryz.prog.underlying t=some (.array n e)) (he:Tryz.prog.underlying e=some (.int k)) (hce:Tryz.prog.cellsOf e=1) (hct:Tryz.prog.cellsOf t=n)
  (hv:Value.okWide Tryz.prog W .any base t v) (h:DataW.Trod enc Tryz.prog W 0 (fun _=>true) true t v d p):
  ∃zs:Lq,zs.length=n∧v=.agg (zs.map (Value.int k)).toArray∧∀z∈zs,(Lit.int k z).wf=true:=by
 obtain ⟨cs,rfl⟩:=Zua ht hv;obtain ⟨fuel,hf⟩:=h;obtain ⟨xs,m,rfl,hx,hl,hn,hel⟩:=DataW.trod_array ht hf;simp only [Value.cells] at hl hel;rw [hct] at hl;have each:∀i,i<n→∃z,cs[i]?=some (.int k z)∧(Lit.int k z).wf=true:=by
  intro i hi;have h1:=hel i hi;rw [hce] at h1;obtain ⟨x,hxi⟩:∃x,xs[i]?=some x:=⟨xs[i]'(by omega),List.getElem?_eq_getElem (by omega)⟩;rw [hxi] at h1;obtain ⟨z,e1,_,w1⟩:=DataW.trod_int he h1;refine ⟨z,?_,w1⟩;have:=congrArg (·[0]?) e1;simpa [List.getElem?_take,List.getElem?_drop] using this
 obtain ⟨f,hf2⟩:=Go.Deep.choose_lt each;refine ⟨(List.range n).map f,by simp,?_,?_⟩
 ·congr 1
  apply Array.ext';apply List.ext_getElem?;intro i
  by_cases hi:i<n
  ·have:=(hf2 i hi).1;simp [hi];simpa using this
  ·rw [List.getElem?_eq_none (by omega),List.getElem?_eq_none (by simp;omega)]
 ·intro z hz;obtain ⟨i,hi,rfl⟩:=List.mem_map.1 hz;exact (hf2 i (by simpa using hi)).2
theorem Zhm:Tryz.prog.cellsOf 34=32:=by kernel_rfl
theorem Ydn {H:Type} {enc:TypeId×Value→H} {d:DataW H} {p:List MemPlace} (hv:Value.okWide Tryz.prog W .any base 34 v) (h:DataW.Trod enc Tryz.prog W 0 (fun _=>true) true 34 v d p):
  ∃zs,zs.length=32∧v=.agg (B zs)∧Bytes zs:=by
 obtain ⟨zs,h1,h2,h3⟩:=Yhx Tryz.underlying34 Zhs Zhn Zhm hv h;refine ⟨zs,h1,h2,fun z hz=>?_⟩;have:=bounds_u8 (h3 z hz);omega
theorem Yai {H:Type} {enc:TypeId×Value→H} {t:TypeId} {cs:List Value} {x:DataW H×List MemPlace} (ht:Tryz.prog.underlying t=some (.array n 5)) (hct:Tryz.prog.cellsOf t=n)
  (h:DataW.trod enc Tryz.prog W 0 (fun _=>true) true fuel t cs=some x):∃zs:Lq,zs.length=n∧cs=zs.map (Value.int .u8)∧Bytes zs:=by
 obtain ⟨xs,m,rfl,hx,hl,hn,hel⟩:=DataW.trod_array ht h;rw [hct] at hl;have each:∀i,i<n→∃z,cs[i]?=some (.int .u8 z)∧(Lit.int .u8 z).wf=true:=by
  intro i hi;have h1:=hel i hi;rw [Zhn] at h1;obtain ⟨y,hyi⟩:∃y,xs[i]?=some y:=⟨xs[i]'(by omega),List.getElem?_eq_getElem (by omega)⟩;rw [hyi] at h1;obtain ⟨z,e1,_,w1⟩:=DataW.trod_int Zhs h1;refine ⟨z,?_,w1⟩;have:=congrArg (·[0]?) e1;simpa [List.getElem?_take,List.getElem?_drop] using this
 obtain ⟨f,hf2⟩:=Go.Deep.choose_lt each;refine ⟨(List.range n).map f,by simp,?_,?_⟩
 ·apply List.ext_getElem?;intro i
  by_cases hi:i<n
  ·have:=(hf2 i hi).1;simp [hi];simpa using this
  ·rw [List.getElem?_eq_none (by omega),List.getElem?_eq_none (by simp;omega)]
 ·intro z hz;obtain ⟨i,hi,rfl⟩:=List.mem_map.1 hz;have:=bounds_u8 (hf2 i (by simpa using hi)).2;omega
structure Ac where
 k:Int
 K:Lq
 v:Value
 bs:Lq
 d:Int
 x:Int
 y:Int
def acL (q:Ac):List Value:=azL q.k q.K q.v q.d q.x q.y
instance:Inhabited Ac:=⟨⟨0,z32,.slice none 0 0,[],0,0,0⟩⟩
def AcAt (W:World) (v:Value) (qs:List Ac):Prop:=
 ∃a c,v=.slice a qs.length c∧(0<qs.length→∃b off,a=some ⟨b,off,none⟩∧∀i,i<qs.length→W.rangeAt b (off+i * 37) (acL (qs.getD i default)))∧∀i,i<qs.length→Key (qs.getD i default).K∧Reads W (qs.getD i default).v (qs.getD i default).bs∧(qs.getD i default).bs.length≤140737488355328-4096
end Go.Proofs.YtgfdgjkbcdmboaaGreatDoor
