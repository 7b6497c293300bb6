/- What every statement's proof asks of the program as a whole. -/
import Derived.Test.YtdjpigfibafokaaGreatDoorDz01
import Derived.Test.YtdjpigfibafokaaGreatDoorRows
import Derived.ProofKit
import Derived.OpenShut
import Derived.ShutString
import Derived.ChangeOld
import Derived.Below
import Derived.SizedLaws
import Derived.Test.YtdjpigfibafokaaGreatDoorDz02
import Derived.ChangeSame
import Derived.Deep.Slices
import Derived.Test.YtdjpigfibafokaaGreatDoorDz03
namespace Go.Proofs.YtdjpigfibafokaaGreatDoor
variable {W:World}
variable {base fuel n:Nat}
variable {v:Value}
set_option maxRecDepth 20000
open Go.ChangeShapes Go.WideShapes Go.ChangeAt Go.RowKit

theorem ownK:ownKnob Tryz.prog.godebug=none:=by kernel_rfl
theorem laidOut:laidOutB Tryz.prog=true:=by kernel_rfl

end Go.Proofs.YtdjpigfibafokaaGreatDoor

namespace Go.Proofs.YtdjpigfibafokaaGreatDoor
variable {W:World}
variable {base fuel n:Nat}
variable {v:Value}
set_option maxRecDepth 20000
open Go.ChangeShapes Go.WideShapes Go.ChangeAt Go.RowKit

theorem cells_byte:Tryz.prog.cellsOf 5=1:=by kernel_rfl
theorem bytesOf_byte:Tryz.prog.bytesOf 5=1:=by kernel_rfl

theorem arg_bytes {H:Type} {enc:TypeId×Value→H} {d:DataW H} {p:List MemPlace} (hv:Value.okWide Tryz.prog W .any base 30 v)
    (h:DataW.Trod enc Tryz.prog W 0 (fun _=>true) true 30 v d p) {ts:List TypeId} {ds:List (DataW H)} (hsz:(DataW.weightsEach Tryz.prog ts ds).all (· ≤reachBytes)=true) (j:Nat) (ht:ts[j]?=some 30) (hd:ds[j]?=some d):
    ∃zs,Reads W v zs∧zs.length≤140737488355328-4096∧((d=.nil∧zs=[])∨∃el sp,d=.slice el sp∧el.length=zs.length):=by
  obtain ⟨a,len,cap,rfl⟩:=okWide_slice u_bytes hv;obtain ⟨fuel,hf⟩:=h;rcases open_ints u_bytes u_byte cells_byte hf with ⟨hcs,hx⟩ | ⟨x,l,c,zs,hcs,_,hl,hm,hz,hx,hcell,hwz⟩
  · simp [Value.cells] at hcs
    obtain ⟨rfl,rfl,rfl⟩:=hcs;simp only [Prod.mk.injEq] at hx;exact ⟨[],Reads.nil _,by simp,.inl ⟨hx.1,rfl⟩⟩
  · simp [Value.cells] at hcs
    obtain ⟨rfl,rfl,rfl⟩:=hcs;simp at hz;simp only [Prod.mk.injEq] at hx;have hlen:(zs.take len).length=len:=by simp;omega
    have hs:=sized_slice hsz ht (by rw [hd,hx.1]) u_bytes;rw [bytesOf_byte] at hs;simp only [lits,List.length_map,List.length_take,List.length_drop,reachBytes] at hs;refine ⟨zs.take len,⟨some x,cap,by rw [hlen],by omega,fun h=>by simp at h,?_,?_⟩,by omega,.inr ⟨_,_,hx.1,by simp [lits]⟩⟩
    · intro z hz'
      have:=bounds_u8 (hwz z (List.mem_of_mem_take hz'));omega
    · intro hp
      rw [hlen] at hp;obtain ⟨b,off,spot⟩:=x;have hspot:spot=none:=by
        have:=World.cell?_spot (hcell 0 (by omega));simpa [Addr.add] using this
      subst hspot;refine ⟨b,off,rfl,fun i hi=>?_⟩;rw [hlen] at hi;have:=hcell i (by omega);rw [Addr.add_lit] at this;rw [this];simp [List.getD,hi]

end Go.Proofs.YtdjpigfibafokaaGreatDoor

namespace Go.Proofs.YtdjpigfibafokaaGreatDoor
variable {W:World}
variable {base fuel n:Nat}
variable {v:Value}
set_option maxRecDepth 20000
open Go.ChangeShapes Go.WideShapes Go.ChangeAt Go.RowKit

theorem trod_sized {H:Type} {enc:TypeId×Value→H} {d:DataW H} {p:List MemPlace} (hf:DataW.trod enc Tryz.prog W 0 (fun _=>true) true fuel 30 [v]=some (d,p))
    {ts:List TypeId} {ds:List (DataW H)} (hsz:(DataW.weightsEach Tryz.prog ts ds).all (· ≤reachBytes)=true) (j:Nat) (ht:ts[j]?=some 30) (hd:ds[j]?=some d):
    ∃zs,Reads W v zs∧zs.length≤140737488355328-4096:=by
  rcases open_ints u_bytes u_byte cells_byte hf with ⟨hcs,hx⟩ | ⟨x,l,c,zs,hcs,_,hl,hm,hz,hx,hcell,hwz⟩
  · simp only [List.cons.injEq,and_true] at hcs
    subst hcs;exact ⟨[],Reads.nil _,by simp⟩
  · simp only [List.cons.injEq,and_true] at hcs
    subst hcs;simp at hz;simp only [Prod.mk.injEq] at hx;have hlen:(zs.take l).length=l:=by simp;omega
    have hs:=sized_slice hsz ht (by rw [hd,hx.1]) u_bytes;rw [bytesOf_byte] at hs;simp only [lits,List.length_map,List.length_take,List.length_drop,reachBytes] at hs;refine ⟨zs.take l,⟨some x,c,by rw [hlen],by omega,fun h=>by simp at h,?_,?_⟩,by omega⟩
    · intro z hz'
      have:=bounds_u8 (hwz z (List.mem_of_mem_take hz'));omega
    · intro hp
      rw [hlen] at hp;obtain ⟨b,off,spot⟩:=x;have hspot:spot=none:=by
        have:=World.cell?_spot (hcell 0 (by omega));simpa [Addr.add] using this
      subst hspot;refine ⟨b,off,rfl,fun i hi=>?_⟩;rw [hlen] at hi;have:=hcell i (by omega);rw [Addr.add_lit] at this;rw [this];simp [List.getD,hi]

end Go.Proofs.YtdjpigfibafokaaGreatDoor

namespace Go.Proofs.YtdjpigfibafokaaGreatDoor
variable {W:World}
variable {base fuel n:Nat}
variable {v:Value}
set_option maxRecDepth 20000
open Go.ChangeShapes Go.WideShapes Go.ChangeAt Go.RowKit

theorem okWide_arr {t e:TypeId} (ht:Tryz.prog.underlying t=some (.array n e)) (h:Value.okWide Tryz.prog W .any base t v):∃cs,v=.agg cs:=by
  unfold Value.okWide at h;cases v <;> simp_all

theorem arg_arr {H:Type} {enc:TypeId×Value→H} {t e:TypeId} {k:IntKind} {d:DataW H} {p:List MemPlace} (ht:Tryz.prog.underlying t=some (.array n e)) (he:Tryz.prog.underlying e=some (.int k)) (hce:Tryz.prog.cellsOf e=1) (hct:Tryz.prog.cellsOf t=n)
    (hv:Value.okWide Tryz.prog W .any base t v) (h:DataW.Trod enc Tryz.prog W 0 (fun _=>true) true t v d p):
    ∃zs:Lq,zs.length=n∧v=.agg (zs.map (Value.int k)).toArray∧∀z∈zs,(Lit.int k z).wf=true:=by
  obtain ⟨cs,rfl⟩:=okWide_arr ht hv;obtain ⟨fuel,hf⟩:=h;obtain ⟨xs,m,rfl,hx,hl,hn,hel⟩:=DataW.trod_array ht hf;simp only [Value.cells] at hl hel;rw [hct] at hl;have each:∀i,i<n→∃z,cs[i]?=some (.int k z)∧(Lit.int k z).wf=true:=by
    intro i hi;have h1:=hel i hi;rw [hce] at h1;obtain ⟨x,hxi⟩:∃x,xs[i]?=some x:=⟨xs[i]'(by omega),List.getElem?_eq_getElem (by omega)⟩;rw [hxi] at h1;obtain ⟨z,e1,_,w1⟩:=DataW.trod_int he h1;refine ⟨z,?_,w1⟩;have:=congrArg (·[0]?) e1;simpa [List.getElem?_take,List.getElem?_drop] using this
  obtain ⟨f,hf2⟩:=Go.Deep.choose_lt each;refine ⟨(List.range n).map f,by simp,?_,?_⟩
  · congr 1
    apply Array.ext';apply List.ext_getElem?;intro i
    by_cases hi:i<n
    · have:=(hf2 i hi).1
      simp [hi];simpa using this
    · rw [List.getElem?_eq_none (by omega),List.getElem?_eq_none (by simp;omega)]
  · intro z hz
    obtain ⟨i,hi,rfl⟩:=List.mem_map.1 hz;exact (hf2 i (by simpa using hi)).2

end Go.Proofs.YtdjpigfibafokaaGreatDoor
