/- What an argument is in memory that is a key or a digest. -/
import Derived.Test.YtabiglnmfdpcfaaGreatDoorBz01
import Derived.Test.YtabiglnmfdpcfaaGreatDoorBz47
import Derived.Test.YtabiglnmfdpcfaaGreatDoorBz06
import Derived.ChangeSame
import Derived.Deep.Slices
import Derived.Test.YtabiglnmfdpcfaaGreatDoorBz32
namespace Go.Proofs.YtabiglnmfdpcfaaGreatDoor
variable {W:World}
variable {base fuel n:Nat}
variable {v:Value}
set_option maxRecDepth 20000
open Go.ChangeShapes Go.WideShapes Go.ChangeAt Go.RowKit

theorem cells_path:Tryz.prog.cellsOf 34=32:=by kernel_rfl

end Go.Proofs.YtabiglnmfdpcfaaGreatDoor

namespace Go.Proofs.YtabiglnmfdpcfaaGreatDoor
variable {W:World}
variable {base fuel n:Nat}
variable {v:Value}
set_option maxRecDepth 20000
open Go.ChangeShapes Go.WideShapes Go.ChangeAt Go.RowKit

theorem trod_u8s {H:Type} {enc:TypeId×Value→H} {t:TypeId} {cs:List Value} {x:DataW H×List MemPlace} (ht:Tryz.prog.underlying t=some (.array n 5)) (hct:Tryz.prog.cellsOf t=n)
    (h:DataW.trod enc Tryz.prog W 0 (fun _=>true) true fuel t cs=some x):∃zs:Lq,zs.length=n∧cs=zs.map (Value.int .u8)∧Bytes zs:=by
  obtain ⟨xs,m,rfl,hx,hl,hn,hel⟩:=DataW.trod_array ht h;rw [hct] at hl;have each:∀i,i<n→∃z,cs[i]?=some (.int .u8 z)∧(Lit.int .u8 z).wf=true:=by
    intro i hi;have h1:=hel i hi;rw [cells_byte] at h1;obtain ⟨y,hyi⟩:∃y,xs[i]?=some y:=⟨xs[i]'(by omega),List.getElem?_eq_getElem (by omega)⟩;rw [hyi] at h1;obtain ⟨z,e1,_,w1⟩:=DataW.trod_int u_byte h1;refine ⟨z,?_,w1⟩;have:=congrArg (·[0]?) e1;simpa [List.getElem?_take,List.getElem?_drop] using this
  obtain ⟨f,hf2⟩:=Go.Deep.choose_lt each;refine ⟨(List.range n).map f,by simp,?_,?_⟩
  · apply List.ext_getElem?
    intro i
    by_cases hi:i<n
    · have:=(hf2 i hi).1
      simp [hi];simpa using this
    · rw [List.getElem?_eq_none (by omega),List.getElem?_eq_none (by simp;omega)]
  · intro z hz
    obtain ⟨i,hi,rfl⟩:=List.mem_map.1 hz;have:=bounds_u8 (hf2 i (by simpa using hi)).2;omega

end Go.Proofs.YtabiglnmfdpcfaaGreatDoor

namespace Go.Proofs.YtabiglnmfdpcfaaGreatDoor
variable {W:World}
variable {base fuel n:Nat}
variable {v:Value}
set_option maxRecDepth 20000
open Go.ChangeShapes Go.WideShapes Go.ChangeAt Go.RowKit

theorem trod_sized {H:Type} {enc:TypeId×Value→H} {d:DataW H} {p:List MemPlace} (hf:DataW.trod enc Tryz.prog W 0 (fun _=>true) true fuel 35 [v]=some (d,p))
    {ts:List TypeId} {ds:List (DataW H)} (hsz:(DataW.weightsEach Tryz.prog ts ds).all (· ≤reachBytes)=true) (j:Nat) (ht:ts[j]?=some 35) (hd:ds[j]?=some d):
    ∃zs,Reads W v zs∧zs.length≤140737488355328-4096:=by
  rcases open_ints u_bytes u_byte cells_byte hf with ⟨hcs,hx⟩ | ⟨x,l,c,zs,hcs,_,hl,hm,hz,hx,hcell,hwz⟩
  · simp only [List.cons.injEq,and_true] at hcs
    subst hcs;exact ⟨[],Reads.nil _,by simp⟩
  · simp only [List.cons.injEq,and_true] at hcs
    subst hcs;simp at hz;simp only [Prod.mk.injEq] at hx;have hlen:(zs.take l).length=l:=by simp;omega
    have hs:=sized_slice hsz ht (by rw [hd,hx.1]) u_bytes;rw [bytesOf_byte] at hs;simp only [lits,List.length_map,List.length_take,List.length_drop,reachBytes] at hs;refine ⟨zs.take l,⟨some x,c,by rw [hlen],by omega,fun h=>by simp at h,?_,?_⟩,by omega⟩
    · intro z hz'
      have:=bounds_u8 (hwz z (List.mem_of_mem_take hz'));omega
    · intro hp
      rw [hlen] at hp;obtain ⟨b,off,spot⟩:=x;have hspot:spot=none:=by
        have:=World.cell?_spot (hcell 0 (by omega));simpa [Addr.add] using this
      subst hspot;refine ⟨b,off,rfl,fun i hi=>?_⟩;rw [hlen] at hi;have:=hcell i (by omega);rw [Addr.add_lit] at this;rw [this];simp [List.getD,hi]

end Go.Proofs.YtabiglnmfdpcfaaGreatDoor

namespace Go.Proofs.YtabiglnmfdpcfaaGreatDoor
variable {W:World}
variable {base fuel n:Nat}
variable {v:Value}
set_option maxRecDepth 20000
open Go.ChangeShapes Go.WideShapes Go.ChangeAt Go.RowKit

theorem weights_all {H:Type} {P:Program} {e:TypeId} {d:DataW H} {n:Nat} (hn:n∈d.weights P e):∀l:List (DataW H),d∈l→n∈DataW.weightsAll P e l
  | [],h=>by simp at h
  | x::r,h=>by
    simp only [DataW.weightsAll,List.mem_append];rcases List.mem_cons.1 h with rfl | h
    · exact .inl hn
    · exact .inr (weights_all hn r h)

theorem cells_pair:Tryz.prog.cellsOf 62=33:=by kernel_rfl

theorem cells_slc:Tryz.prog.cellsOf 35=1:=by kernel_rfl

theorem bytesOf_pair:Tryz.prog.bytesOf 62=56:=by kernel_rfl

theorem trod_pair {H:Type} {enc:TypeId×Value→H} {cs:List Value} {x:DataW H×List MemPlace} (h:DataW.trod enc Tryz.prog W 0 (fun _=>true) true fuel 62 cs=some x)
    (hw:∀m∈x.1.weights Tryz.prog 62,m≤reachBytes):
    ∃(e:Ent) (u:Value),cs=encP e.1 u∧Key e.1∧Reads W u e.2∧e.2.length≤140737488355328-4096:=by
  have hF:∃f0 f1:Field,Tryz.prog.underlying 62=some (.struct #[f0,f1])∧(f0.type=34∧f0.offset=0)∧(f1.type=35∧f1.offset=32):=⟨_,_,Tryz.underlying62,⟨rfl,rfl⟩,⟨rfl,rfl⟩⟩;obtain ⟨f0,f1,hu,⟨t0,o0⟩,⟨t1,o1⟩⟩:=hF;obtain ⟨y0,y1,n,hx,hl,e0,e1⟩:=trod_struct2 hu h;rw [t0,o0,cells_path] at e0;rw [t1,o1,cells_slc] at e1;rw [cells_pair] at hl;obtain ⟨K,lk,ek,bk⟩:=trod_u8s Tryz.underlying34 cells_path e0;obtain ⟨u,hu1⟩:∃u,(cs.drop 32).take 1=[u]:=by
    match hd:cs.drop 32,(show (cs.drop 32).length=1 by simp [hl]) with
    | [u],_=>exact ⟨u,rfl⟩
  rw [hu1] at e1;have hsz2:(DataW.weightsEach Tryz.prog [34,35] [y0.1,y1.1]).all (· ≤reachBytes)=true:=by
    rw [List.all_eq_true];intro m hm;rw [decide_eq_true_iff];refine hw m ?_;rw [hx];simp only [DataW.weights,hu];rw [show (#[f0,f1]:Array Field).toList.map (·.type)=[34,35] by simp [t0,t1]];exact hm
  obtain ⟨zs,r1,l1⟩:=trod_sized (d:=y1.1) (p:=y1.2) e1 hsz2 1 rfl rfl;refine ⟨(K,zs),u,?_,⟨lk,bk⟩,r1,l1⟩;have s1:(cs.drop 32).take 1=cs.drop 32:=List.take_of_length_le (by simp [hl]);have s0:cs=cs.take 32++cs.drop 32:=(List.take_append_drop 32 cs).symm;have e2:cs.take 32=K.map (Value.int .u8):=by simpa using ek
  rw [s0,← s1,hu1,e2];rfl

theorem arg_pairs {H:Type} {enc:TypeId×Value→H} {d:DataW H} {p:List MemPlace} (hv:Value.okWide Tryz.prog W .any base 22 v)
    (h:DataW.Trod enc Tryz.prog W 0 (fun _=>true) true 22 v d p) {ts:List TypeId} {ds:List (DataW H)} (hsz:(DataW.weightsEach Tryz.prog ts ds).all (· ≤reachBytes)=true) (j:Nat) (ht:ts[j]?=some 22) (hd:ds[j]?=some d):
    ∃V es,PrAt W v V es∧es.length * 56≤140737488355328-4096∧∀i,i<es.length→(es.getD i e00).2.length≤140737488355328-4096:=by
  obtain ⟨a,len,cap,rfl⟩:=okWide_slice Tryz.underlying22 hv;obtain ⟨fuel,hf⟩:=h;rcases Go.Deep.open_slice Tryz.underlying22 hf with ⟨hcs,hx⟩ | ⟨x,l,c,m,n,D,Pl,hcs,_,hl,hm,hmm,hx,hcell⟩
  · simp [Value.cells] at hcs
    obtain ⟨rfl,rfl,rfl⟩:=hcs;exact ⟨fun _=>undef,[],⟨none,0,rfl,by simp,fun h=>by simp at h,fun i hi=>by simp at hi⟩,by simp,fun i hi=>by simp at hi⟩
  · simp [Value.cells] at hcs
    obtain ⟨rfl,rfl,rfl⟩:=hcs;simp at hmm;simp only [Prod.mk.injEq] at hx;have hs:=sized_slice hsz ht (by rw [hd,hx.1]) Tryz.underlying22;rw [bytesOf_pair] at hs;simp only [List.length_map,List.length_range,reachBytes] at hs;have hwt:∀i,i<len→∀q∈(D i).weights Tryz.prog 62,q≤reachBytes:=by
      intro i hi q hq;have h1:=List.all_eq_true.1 hsz q (DataW.weights_mem_each ht hd q (by
        rw [hx.1];simp only [DataW.weights,Tryz.underlying22,List.mem_cons,List.mem_append];exact .inr (.inl (weights_all hq _ (List.mem_map.2 ⟨i,List.mem_range.2 hi,rfl⟩)))))
      simpa using h1
    have each:∀i,i<len→∃q:Ent×Value,(∀k u,(encP q.1.1 q.2)[k]?=some u→W.cell? (x.add (i * 33+k))=some u)∧Key q.1.1∧Reads W q.2 q.1.2∧q.1.2.length≤140737488355328-4096:=by
      intro i hi;obtain ⟨cs',h1,h2⟩:=hcell i (by omega);rw [cells_pair] at h1;obtain ⟨_,hlen,hc⟩:=World.cells?_some h1;obtain ⟨e,u,rfl,hk,hr,hl2⟩:=trod_pair h2 (hwt i hi);refine ⟨(e,u),fun k w hw=>?_,hk,hr,hl2⟩;have hk2:=(List.getElem?_eq_some_iff.1 hw).1;have hk3:k<33:=by rw [← hlen];exact hk2
      have h3:=hc k hk3;rw [Go.Deep.add_add] at h3;rw [h3];exact hw
    obtain ⟨q,hq⟩:=Go.Deep.choose_lt each;have hget:∀i,i<len→((List.range len).map fun i=>(q i).1).getD i e00=(q i).1:=fun i hi=>by simp [List.getD,hi]
    refine ⟨fun i=>(q i).2,(List.range len).map fun i=>(q i).1,⟨some x,cap,by simp,by simp;omega,fun hp=>?_,fun i hi=>?_⟩,by simp;omega,fun i hi=>?_⟩
    · simp only [List.length_map,List.length_range] at hp
      obtain ⟨b,off,spot⟩:=x;have hspot:spot=none:=by
        have hlen:=encP_length (q 0).1.1 (q 0).2 (hq 0 hp).2.1.1;have:=World.cell?_spot ((hq 0 hp).1 0 _ (List.getElem?_eq_getElem (by omega)));simpa [Addr.add] using this
      subst hspot;refine ⟨b,off,rfl,fun i hi k u hu=>?_⟩;simp only [List.length_map,List.length_range] at hi;rw [hget i hi] at hu;have:=(hq i hi).1 k u hu;rw [Addr.add_lit] at this;rw [Nat.add_assoc];exact this
    · simp only [List.length_map,List.length_range] at hi
      rw [hget i hi];exact ⟨(hq i hi).2.1,(hq i hi).2.2.1⟩
    · simp only [List.length_map,List.length_range] at hi
      rw [hget i hi];exact (hq i hi).2.2.2

end Go.Proofs.YtabiglnmfdpcfaaGreatDoor
