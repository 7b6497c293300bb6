/- list by definition: how many entries of a tree stand ahead of a key, told on the way down; that a tree's entries rise; a stack of trees. No program in this text. -/
import Derived.Test.YtabiglnmfdpcfaaGreatDoorBz01
import Derived.Test.YtabiglnmfdpcfaaGreatDoorBz18
import Derived.Test.YtabiglnmfdpcfaaGreatDoorBz05
import Derived.Test.YtabiglnmfdpcfaaGreatDoorBz06
import Derived.Test.YtabiglnmfdpcfaaGreatDoorBz30
namespace Go.Proofs.YtabiglnmfdpcfaaGreatDoor
set_option maxHeartbeats 2000000
set_option maxRecDepth 20000
open Go.RowKit

def Tre.rk (K:Lq):Tre→Nat
  | .emp=>0
  | .lf k _=>if cmp k K<0 then 1 else 0
  | .nd d _ _ l r=>if kb K d=1 then l.ents.length+r.rk K else l.rk K

def ahd (K:Lq) (l:List Ent):Nat:=(l.filter fun e=>decide (cmp e.1 K<0)).length

theorem ahd_app (K:Lq) (a b:List Ent):ahd K (a++b)=ahd K a+ahd K b:=by
  unfold ahd;rw [List.filter_append,List.length_append]
theorem ahd_all (K:Lq) (l:List Ent) (h:∀e∈l,cmp e.1 K<0):ahd K l=l.length:=by
  unfold ahd;rw [List.filter_eq_self.2 (fun e he=>by simpa using h e he)]
theorem ahd_none (K:Lq) (l:List Ent) (h:∀e∈l,¬cmp e.1 K<0):ahd K l=0:=by
  unfold ahd;rw [List.filter_eq_nil_iff.2 (fun e he=>by simpa using h e he)];rfl
theorem rk_ahd {cs:Lz} {pend:List Nat} (w:Wf cs pend) (K:Lq) (hK:Key K):∀(T:Tre) (h d:Nat),IsT cs h T→((sdC cs h).kind=2→(sdC cs h).dp=d)→(∀e∈T.ents,∀j,j<d→kb e.1 j=kb K j)→T.rk K=ahd K T.ents
  | .emp,_,_,_,_,_=>rfl
  | .lf k b,_,_,_,_,_=>by
    show (if cmp k K<0 then 1 else 0)=ahd K [(k,b)];unfold ahd
    by_cases q:cmp k K<0
    · simp [q]
    · simp [q]
  | .nd d hl hr L R,h,d',hT,hd,hs=>by
    have n:=nd_ok w hT;have ok:=tree_ok w _ h hT;obtain ⟨h1,h2,h3,h4,h5,h6,h7,h8⟩:=hT;have es:sdC cs h=ce cs (h-1):=if_neg (by omega);obtain rfl:d=d':=by
      rw [es] at hd;rw [← h4];exact hd h3
    have inL:∀e∈L.ents,e∈(Tre.nd d hl hr L R).ents:=fun e he=>List.mem_append.2 (.inl he)
    have inR:∀e∈R.ents,e∈(Tre.nd d hl hr L R).ents:=fun e he=>List.mem_append.2 (.inr he)
    have hdp:=n.dp;show (if kb K d=1 then L.ents.length+R.rk K else L.rk K)=ahd K (L.ents++R.ents);rw [ahd_app];rcases kb_two K d with q | q
    · have e1:=rk_ahd w K hK L hl (d+1) h7 n.kl (fun e he j hj=>by
        rcases Nat.lt_or_ge j d with hj' | hj'
        · exact hs e (inL e he) j hj'
        · obtain rfl:j=d:=by omega
          rw [n.bL e he,q])
      have e2:=ahd_none K R.ents (fun e he=>by
        have ha:Ahead K e.1:=⟨d,hdp,fun j hj=>(hs e (inR e he) j hj).symm,q,n.bR e he⟩;exact fun hc=>ha.not ((cmp_lt (ok.ent e (inR e he)).1 hK).1 hc))
      rw [if_neg (by omega),e1,e2,Nat.add_zero]
    · have e1:=rk_ahd w K hK R hr (d+1) h8 n.kr (fun e he j hj=>by
        rcases Nat.lt_or_ge j d with hj' | hj'
        · exact hs e (inR e he) j hj'
        · obtain rfl:j=d:=by omega
          rw [n.bR e he,q])
      have e2:=ahd_all K L.ents (fun e he=>(cmp_lt (ok.ent e (inL e he)).1 hK).2 ⟨d,hdp,fun j hj=>hs e (inL e he) j hj,n.bL e he,q⟩);rw [if_pos q,e1,e2]

theorem ents_rise {cs:Lz} {pend:List Nat} (w:Wf cs pend):∀(T:Tre) (h:Nat),IsT cs h T→T.ents.Pairwise fun a b=>Ahead a.1 b.1
  | .emp,_,_=>List.Pairwise.nil
  | .lf _ _,_,_=>List.pairwise_singleton _ _
  | .nd d hl hr L R,h,hT=>by
    have n:=nd_ok w hT;have ok:=tree_ok w _ h hT;obtain ⟨h1,h2,h3,h4,h5,h6,h7,h8⟩:=hT;have hdp:=n.dp;have sh:=ok.share d (by omega) (fun _=>by omega);refine List.pairwise_append.2 ⟨ents_rise w L hl h7,ents_rise w R hr h8,fun a ha b hb=>⟨d,hdp,fun j hj=>?_,n.bL a ha,n.bR b hb⟩⟩;rw [sh a (List.mem_append.2 (.inl ha)) j hj,sh b (List.mem_append.2 (.inr hb)) j hj]

def stL (ps:List (Nat×Tre)):List Nat:=ps.flatMap fun p=>p.2.lvs p.1

end Go.Proofs.YtabiglnmfdpcfaaGreatDoor

namespace Go.Proofs.YtabiglnmfdpcfaaGreatDoor
set_option maxHeartbeats 2000000
set_option maxRecDepth 20000
open Go.RowKit

theorem gents_rise {cs:Lz} (W:Wf cs []):∀(G:Gt) (ps:List Pn) (lo hi:Nat) (q:Int) (d:Nat),IsG cs ps lo hi q G→GOk cs d G→Com d (G.ents.map (·.1))→G.ents.Pairwise fun a b=>Ahead a.1 b.1
  | .old h T,ps,lo,hi,q,d,g,_,_=>ents_rise W T h (by obtain ⟨_,_,t⟩:=g;exact t)
  | .lf x,_,_,_,_,_,_,_,_=>List.pairwise_singleton _ _
  | .nd e L R,ps,lo,hi,q,d,g,ok,cm=>by
    obtain ⟨m,k,a,b,_,_,_,gL,gR⟩:=g;obtain ⟨rfl,hd,okL,okR,bL,bR,two⟩:=ok;have memL:∀x∈L.ents,x.1∈(Gt.nd e L R).ents.map (·.1):=fun x hx=>List.mem_map_of_mem (List.mem_append_left _ hx)
    have memR:∀x∈R.ents,x.1∈(Gt.nd e L R).ents.map (·.1):=fun x hx=>List.mem_map_of_mem (List.mem_append_right _ hx)
    have cL:Com (e+1) (L.ents.map (·.1)):=Com.succ (cm.sub fun x hx=>by
      obtain ⟨y,hy,rfl⟩:=List.mem_map.1 hx;exact memL y hy) 0 fun x hx=>by
        obtain ⟨y,hy,rfl⟩:=List.mem_map.1 hx;exact bL y hy
    have cR:Com (e+1) (R.ents.map (·.1)):=Com.succ (cm.sub fun x hx=>by
      obtain ⟨y,hy,rfl⟩:=List.mem_map.1 hx;exact memR y hy) 1 fun x hx=>by
        obtain ⟨y,hy,rfl⟩:=List.mem_map.1 hx;exact bR y hy
    exact List.pairwise_append.2 ⟨gents_rise W L ps lo m a (e+1) gL okL cL,gents_rise W R ps m k b (e+1) gR okR cR,fun x hx y hy=>⟨e,hd,fun j hj=>cm _ (memL x hx) _ (memR y hy) j hj,bL x hx,bR y hy⟩⟩

theorem rise_one:∀(A B:List Ent),(A.Pairwise fun a b=>Ahead a.1 b.1)→(B.Pairwise fun a b=>Ahead a.1 b.1)→A.Perm B→A=B
  | [],B,_,_,h=>(List.nil_perm.1 h).symm
  | a::A,[],_,_,h=>by cases List.perm_nil.1 h
  | a::A,b::B,ha,hb,h=>by
    have a1:=List.pairwise_cons.1 ha;have b1:=List.pairwise_cons.1 hb;have e:a=b:=by
      rcases List.mem_cons.1 (h.mem_iff.1 (List.mem_cons_self (a:=a) (l:=A))) with q | q
      · exact q
      · rcases List.mem_cons.1 (h.mem_iff.2 (List.mem_cons_self (a:=b) (l:=B))) with q2 | q2
        · exact q2.symm
        · exact ((b1.1 a q).not (a1.1 b q2)).elim
    subst e;rw [rise_one A B a1.2 b1.2 (List.Perm.cons_inv h)]

theorem nds_num:∀(T:Tre),T.nds.length=T.num
  | .emp=>rfl
  | .lf _ _=>rfl
  | .nd d hl hr L R=>by
    have h1:=nds_num L;have h2:=nds_num R;simp only [Tre.nds,Tre.num,List.length_cons,List.length_append];omega

end Go.Proofs.YtabiglnmfdpcfaaGreatDoor

namespace Go.Proofs.YtabiglnmfdpcfaaGreatDoor
set_option maxHeartbeats 2000000
set_option maxRecDepth 20000
open Go.RowKit

theorem wpList_stc {ops:Array Oper} {rest:List Oper} {op:Oper} {a:Act} {Q:Exit→Act→World→Prop} (w:World) (hgd:op.guard=none) (x y:Operand) (ty:TypeId) (ho:op.op=.store ty x y)
    (g o:Nat) (u u0:Value) (hx:a.eval x=.pointer (some ⟨g,o,none⟩)) (hy:a.eval y=u) (hu:u.cells= #[u]) (hu1:u.oneCell'=true) (hc:w.cell? ⟨g,o,none⟩=some u0) (hf:w.frozen? ⟨g,o,none⟩=false) (hi:(Tryz.prog.info? ty).map (·.size)=some 1)
    (hk:wpList Tryz.prog ops Q rest (a.put op.dst undef) (w.setCell ⟨g,o,none⟩ u)):wpList Tryz.prog ops Q (op::rest) a w:=by
  have ht:w.there g o 1:=fun j hj=>by
    obtain rfl:j=0:=by omega
    exact ⟨by rw [Nat.add_zero,hc];rfl,hf⟩
  have hr:=run_storeVar_mid (P:=Tryz.prog) w g o ty #[u] (by simpa using ht) (by simpa using hi) (by simpa using hu1);have hr2:(storeVar ty ⟨g,o,none⟩ u).run Tryz.prog w=.ok () (w.setCell ⟨g,o,none⟩ u):=by
    have e:storeVar ty ⟨g,o,none⟩ u=storeVar ty ⟨g,o,none⟩ (.agg #[u]):=by
      unfold storeVar;rw [hu];rfl
    rw [e,hr];rfl
  refine wpList_plain hgd fun K hK=>?_
  unfold Oper.wp execOp;simp only [ho,hx,hy,Instr.storeAt,Instr.sureAddr,Sem.run_bind,Sem.run_pure,Result.andThen_ok,hr2];exact hK _ _ hk

theorem encW_setv (x:Wt) (v:Value) (b:Lq) (h:x.k.length=32):encW ⟨x.k,x.g,b,v⟩=(encW x).set 33 v:=by
  unfold encW;rw [List.set_append_right _ _ (by simp [h])];simp [h]

structure OrS (w0:World) (ks:List Wt) (g c i:Nat) (w:World) (rs:List Wt):Prop where
  len:rs.length=ks.length
  own:Lst w 37 34 (.slice (some ⟨g,0,none⟩) ks.length c) ks.length (flatE encW rs)
  hi:∀q,i≤q→q<ks.length→rs[q]! =ks[q]!
  lo:∀q,q<i→q<ks.length→nrm rs[q]! =nrm ks[q]!∧WtOk rs[q]!∧(rs[q]!.g=true→rs[q]!.b=[])∧∃sp,Own w0.heap.size w rs[q]!.v rs[q]!.b sp
  ap:∀p q,p<i→q<i→p<ks.length→q<ks.length→p≠q→∀h,rs[p]!.v.ownBlock=some h→rs[q]!.v.ownBlock≠some h
  bel:Kb w0 w
  new:w0.heap.size≤g
  ok:∀x∈ks,WtOk x
structure OrdOk (ls:List Wt) (w:World) (v:Value) (rs:List Wt) (w':World):Prop where
  lat:Lat (ls.map nrm) (rs.map nrm)
  own:Lst w' 37 34 v rs.length (flatE encW rs)
  new:∀g,v.ownBlock=some g→w.heap.size≤g
  ok:∀x∈rs,WtOk x∧(x.g=true→x.b=[])∧∃sp,Own w.heap.size w' x.v x.b sp
  ap:∀p q,p<rs.length→q<rs.length→p≠q→∀h,rs[p]!.v.ownBlock=some h→rs[q]!.v.ownBlock≠some h
  few:rs.length≤ls.length
  bel:Kb w w'
def OrdPost (ls:List Wt) (w:World) (e:Ending) (w':World):Prop:=∃v rs,e=.returned v∧OrdOk ls w v rs w'
end Go.Proofs.YtabiglnmfdpcfaaGreatDoor

namespace Go.Proofs.YtabiglnmfdpcfaaGreatDoor
set_option maxHeartbeats 2000000
set_option maxRecDepth 20000
open Go.RowKit

theorem half_step (x:Int) (k:Nat):x / 2 ^ k / 2=x / 2 ^ (k+1):=by
  rw [Int.pow_succ,Int.ediv_ediv_of_nonneg (Int.pow_nonneg (by omega))]

theorem rbit_in (xs:Lq) (d:Nat) (w:World) (hx:Key xs) (hd:d<256):Kc 53 #[.agg (B xs),.int .i64 d] w fun e w'=>e=.returned (.int .i64 (kb xs d))∧Kb w w':=by
  have HX:=hidden hx;have h2:((d / 8:Nat):Int)<32:=by omega
  have hb:=hx.byte (d / 8);have t0:decide ((d:Int)<0)=false:=decide_eq_false (by omega);have t1:decide ((256:Int)≤(d:Int))=false:=decide_eq_false (by omega);obtain ⟨x,hxx⟩:∃x,x=xs.getD (d / 8) 0:=⟨_,rfl⟩;have HK:Hid (kb xs d=x / 2 ^ (7-d % 8) % 2):=by rw [hxx];rfl
  rw [← hxx] at hb;have hwx:wrap64 x=x:=Go.IntWalk.wrap64_in _ (by omega);have HXX:=hidden hxx;clear hx hxx;go_enter Tryz.func53,Tryz.ntmps53
  go_wp2_with (refine wpList_bx _ rfl _ _ rfl _ rfl ?_;intro w1 g1 hg1 hl1 B1 b1;have c1:=B1.bcell (d / 8) (by rw [HX.out.1];omega);rw [← HXX.out] at c1)
  clear c1 B1;have hm:d % 8<8:=Nat.mod_lt _ (by omega)
  go_loopw [5,6] (fun s i wr=>∃(k:Nat) (v:Int),k≤7-d % 8∧s=.int .i64 v∧i=.int .i64 k∧Hid (v=x / 2 ^ k)∧0≤v∧v≤255∧wr=w1) (fun _ i _=>8-(intOf i).toNat)
  case atStart=>exact ⟨0,x,by omega,rfl,rfl,by show _=_;simp,hb.1,hb.2,rfl⟩
  case round=>
    obtain ⟨k,v,hk,rfl,rfl,hv,hv0,hv1,hwr⟩:=hrel;subst hwr
    by_cases hlt:k<7-d % 8
    · have hlt':(k:Int)<7-(d:Int) % 8:=by omega
      go_wp2
      exact ⟨⟨k+1,v / 2,by omega,by go_num,by go_num,by show _=_;rw [hv.out,half_step],by omega,by omega,trivial⟩,by simp [intOf];omega⟩
    · have hlt':decide ((k:Int)<7-(d:Int) % 8)=false:=decide_eq_false (by omega)
      obtain rfl:k=7-d % 8:=by omega
      go_wp2
      go_ret;exact ⟨by rw [HK.out,← hv.out];rfl,b1⟩

theorem rbit_out (xs:Lq) (d:Int) (w:World) (hd: ¬(0≤d∧d<256)):Kc 53 #[.agg (B xs),.int .i64 d] w fun e w'=>e=.returned (.int .i64 (-1))∧Kb w w':=by
  by_cases h0:d<0
  · have t0:decide (d<0)=true:=decide_eq_true h0
    clear hd h0;go_enter Tryz.func53,Tryz.ntmps53
    go_wp2_with (refine wpList_bx _ rfl _ _ rfl _ rfl ?_;intro w1 g1 hg1 hl1 B1 b1)
    go_ret;exact ⟨rfl,b1⟩
  · have t0:decide (d<0)=false:=decide_eq_false h0
    have t1:decide (256≤d)=true:=decide_eq_true (by omega);clear hd h0;go_enter Tryz.func53,Tryz.ntmps53
    go_wp2_with (refine wpList_bx _ rfl _ _ rfl _ rfl ?_;intro w1 g1 hg1 hl1 B1 b1)
    go_ret;exact ⟨rfl,b1⟩

theorem rbit_any (xs:Lq) (d:Int) (w:World) (hx:Key xs):Kc 53 #[.agg (B xs),.int .i64 d] w fun e w'=>e=.returned (.int .i64 (kbi xs d))∧Kb w w':=by
  unfold kbi
  by_cases h:0≤d∧d<256
  · rw [if_pos h]
    have e:d=((d.toNat:Nat):Int):=by omega
    have:=rbit_in xs d.toNat w hx (by omega);rw [← e] at this;exact this
  · rw [if_neg h]
    exact rbit_out xs d w h

end Go.Proofs.YtabiglnmfdpcfaaGreatDoor
