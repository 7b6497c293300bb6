/- How what is planned is made, node by node; what stands there behind it. No program in this text. -/
import Derived.Test.YtabiglnmfdpcfaaGreatDoorBz01
import Derived.Test.YtabiglnmfdpcfaaGreatDoorBz20
import Derived.Test.YtabiglnmfdpcfaaGreatDoorBz16
namespace Go.Proofs.YtabiglnmfdpcfaaGreatDoor
variable {E:List Ent}
variable {c d fuel g h i j k n o r:Nat}
variable {cs cs' cs0 cs1:Lz}
variable {fr fr':List Nat}
variable {q:Int}
variable {v:Value}
variable {w:World}
set_option maxRecDepth 20000
open Go.RowKit

structure Bst where
  cs:Lz
  fr:List Nat
  ms:List Nat
def hdl (ms:List Nat) (p:Int):Nat:=if p<0 then ms.getD (-p-1).toNat 0 else p.toNat
theorem hdl_nat (ms:List Nat) (h:Nat):hdl ms (h:Int)=h:=by rw [hdl,if_neg (by omega)];omega
theorem hdl_neg (ms:List Nat) (i:Nat):hdl ms (-((i:Int)+1))=ms.getD i 0:=by rw [hdl,if_pos (by omega)];congr 1;omega
theorem hdl_more {ms:List Nat} (t:List Nat) {p:Int} (h: -p≤(ms.length:Int)):hdl (ms++t) p=hdl ms p:=by
  unfold hdl;split
  · rw [List.getD_eq_getElem?_getD,List.getElem?_append_left (by omega),List.getD_eq_getElem?_getD]
  · rfl

def BzS (n:Pn) (s s':Bst):Prop:=
  s'.fr=s.fr.dropLast∧s'.ms=s.ms++[tkH s.cs s.fr]∧
  ((n.inn=false∧∃v',CeOk (lfC (lfD n.w.k (vaD n.w.b)) n.w.k v' n.w.b)∧s'.cs=tkC s.cs s.fr (1,lfC (lfD n.w.k (vaD n.w.b)) n.w.k v' n.w.b))∨
   (n.inn=true∧InnR s.cs s.fr n.dp (hdl s.ms n.l) (hdl s.ms n.r) s'.cs))

inductive Bz (ps:List Pn):Nat→Bst→Nat→Bst→Prop
  | refl (i:Nat) (s:Bst):Bz ps i s i s
  | step {i j:Nat} {s s1 s2:Bst} {n:Pn}:Bz ps i s j s1→ps[j]?=some n→FrOk s1.cs s1.fr→Wf s2.cs []→BzS n s1 s2→Bz ps i s (j+1) s2
theorem Bz.le {ps:List Pn} {s s1:Bst} (h:Bz ps i s j s1):i≤j:=by
  induction h with
  | refl=>exact Nat.le_refl _
  | step _ _ _ _ _ ih=>omega
theorem Bz.same {ps:List Pn} {s s1:Bst} (h:Bz ps i s j s1) (e:i=j):s1=s:=by
  cases h with
  | refl=>rfl
  | step h _ _ _ _=>have:=h.le;omega
theorem Bz.split {ps:List Pn} {s s1:Bst} (h:Bz ps i s j s1) (m:Nat) (h1:i≤m) (h2:m≤j):∃s2,Bz ps i s m s2∧Bz ps m s2 j s1:=by
  induction h with
  | refl s=>
    obtain rfl:m=i:=by omega
    exact ⟨s,.refl _ _,.refl _ _⟩
  | @step j s s1 s2 n h a b c d ih=>
    by_cases e:m=j+1
    · subst e
      exact ⟨s2,h.step a b c d,.refl _ _⟩
    · obtain ⟨s3,k1,k2⟩:=ih (by omega)
      exact ⟨s3,k1,k2.step a b c d⟩
theorem Bz.last {ps:List Pn} {s s2:Bst} (h:Bz ps i s (j+1) s2) (hi:i≤j):∃s1 n,Bz ps i s j s1∧ps[j]?=some n∧FrOk s1.cs s1.fr∧Wf s2.cs []∧BzS n s1 s2:=by
  cases h with
  | refl=>omega
  | step h a b c d=>exact ⟨_,_,h,a,b,c,d⟩

def Can (s:Bst) (n:Pn):Prop:=(n.inn=false→WtOk0 n.w∧n.w.g=false)∧
  (n.inn=true→n.dp<256∧mayP s.cs (hdl s.ms n.l:Int)∧mayP s.cs (hdl s.ms n.r:Int)∧∃u,(u=true↔Und (sdC s.cs (hdl s.ms n.l)).key (sdC s.cs (hdl s.ms n.r)).key (n.dp:Int))∧fitP n.dp (sdC s.cs (hdl s.ms n.l)) (sdC s.cs (hdl s.ms n.r)) u=true)

structure BzOk (d lo hi:Nat) (q:Int) (G:Gt) (s s':Bst):Prop where
  wf:Wf s'.cs []
  ms:∃t,s'.ms=s.ms++t
  mlen:s'.ms.length=hi
  keep:∀i,0<cc s.cs i→0<cc s'.cs i∧Core (ce s.cs i) (ce s'.cs i)
  cnt:∀i,0<cc s.cs i→cc s'.cs i=cc s.cs i
  tree:∃U,IsT s'.cs (hdl s'.ms q) U∧U.ents=G.ents
  dp:(sdC s'.cs (hdl s'.ms q)).kind=2→(sdC s'.cs (hdl s'.ms q)).dp=d
  own:∀i,own s'.cs [] i+G.olds.count (i+1)=own s.cs [] i+(if hdl s'.ms q=i+1 then 1 else 0)
  noc:noc s'.cs+lo=noc s.cs+hi
  new:q<0→1≤hdl s'.ms q∧cc s.cs (hdl s'.ms q-1)=0
  len:s'.cs.length+lo≤s.cs.length+hi
  part: -q≤(hi:Int)

theorem core_dp (k:h=0∨Core (ce cs (h-1)) (ce cs' (h-1))) (hd:(sdC cs h).kind=2→(sdC cs h).dp=d):(sdC cs' h).kind=2→(sdC cs' h).dp=d:=fun q=>by
  rcases k with rfl | k
  · exact hd q
  · by_cases h0:h=0
    · subst h0
      exact hd q
    · rw [sdC,if_neg h0,k] at q ⊢
      rw [sdC,if_neg h0] at hd;exact hd q

theorem bz_ok {cs0:Lz} {ps:List Pn}:∀(G:Gt) (d lo hi:Nat) (q:Int),IsG cs0 ps lo hi q G→GOk cs0 d G→Com d (G.ents.map (·.1))→∀(s:Bst),Wf s.cs []→(∀i,0<cc cs0 i→0<cc s.cs i∧Core (ce cs0 i) (ce s.cs i))→s.ms.length=lo→(∀i,G.olds.count (i+1)≤own s.cs [] i)→
    (∀j s1,lo≤j→j<hi→Bz ps lo s j s1→∃n,ps[j]?=some n∧Can s1 n∧noc s1.cs+lo=noc s.cs+j∧s1.ms.length=j)∧∀s1,Bz ps lo s hi s1→BzOk d lo hi q G s s1
  | .old h T,d,lo,hi,q,g,ok,_,s,W,kp,ml,av=>by
    obtain ⟨rfl,rfl,t⟩:=g;refine ⟨fun j s1 h1 h2 _=>by omega,fun s1 b=>?_⟩;obtain rfl:=b.same rfl;have e:=hdl_nat s1.ms h;refine ⟨W,⟨[],by simp⟩,ml,fun i hi=>⟨hi,Core.refl _⟩,fun _ _=>rfl,⟨T,by rw [e];exact t.keep kp,rfl⟩,?_,fun i=>?_,rfl,fun q=>by omega,Nat.le_refl _,by omega⟩
    · rw [e]
      refine core_dp ?_ ok;rcases t.occ with q | q
      · exact .inl q
      · exact .inr (kp _ q.2).2
    · rw [e]
      simp only [Gt.olds,List.count_singleton,beq_iff_eq]
  | .lf x,d,lo,hi,q,g,ok,_,s,W,kp,ml,av=>by
    obtain ⟨rfl,rfl,hp⟩:=g;obtain ⟨⟨k1,k2,k3⟩,k4⟩:=ok;refine ⟨fun j s1 h1 h2 b=>?_,fun s1 b=>?_⟩
    · obtain rfl:j=lo:=by omega
      obtain rfl:=b.same rfl;exact ⟨_,hp,⟨fun _=>⟨⟨k1,k2,k3⟩,k4⟩,fun e=>(by cases e)⟩,rfl,ml⟩
    · obtain ⟨s2,n,b1,b2,hF,wf,h1,h2,h3⟩:=b.last (Nat.le_refl _)
      obtain rfl:=b1.same rfl;rw [hp] at b2;injection b2 with b2;subst b2;obtain ⟨_,v',okc,h3⟩:=h3.resolve_right (fun q=>by have:=q.1;cases this);have okc:CeOk (lfC (lfD x.k (vaD x.b)) x.k v' x.b):=okc;have h3:s1.cs=tkC s2.cs s2.fr (1,lfC (lfD x.k (vaD x.b)) x.k v' x.b):=h3;obtain ⟨X,hX⟩:∃X,X=lfC (lfD x.k (vaD x.b)) x.k v' x.b:=⟨_,rfl⟩;rw [← hX] at okc h3;obtain ⟨t1,tk⟩:=tk_of hF (1,X);rw [h3] at wf;have eq:hdl s1.ms (-((lo:Int)+1))=tkH s2.cs s2.fr:=by
        rw [hdl_neg,h2,← ml,List.getD_eq_getElem?_getD,List.getElem?_append_right (Nat.le_refl _)];simp
      have hcn:cc (tkC s2.cs s2.fr (1,X)) (tkH s2.cs s2.fr-1)=1:=by rw [tk.cc,if_pos rfl]
      have hen:ce (tkC s2.cs s2.fr (1,X)) (tkH s2.cs s2.fr-1)=X:=by rw [tk.ce,if_pos rfl]
      have hne:∀i,0<cc s2.cs i→ ¬i=tkH s2.cs s2.fr-1:=fun i hi e=>by
        rw [e,tk.vac] at hi;omega
      refine ⟨by rw [h3];exact wf,⟨_,h2⟩,by rw [h2];simp [ml],fun i hi=>?_,fun i hi=>?_,⟨.lf x.k x.b,?_,rfl⟩,?_,fun i=>?_,?_,fun _=>?_,?_,by omega⟩
      · rw [h3,tk.cc,tk.ce,if_neg (hne i hi),if_neg (hne i hi)]
        exact ⟨hi,Core.refl _⟩
      · rw [h3,tk.cc,if_neg (hne i hi)]
      · rw [eq,h3]
        exact ⟨t1,by rw [hcn];omega,by rw [hen,hX];rfl,by rw [hen,hX];rfl,by rw [hen,hX];rfl⟩
      · rw [eq,h3,sdC,if_neg (by omega),hen,hX]
        exact fun k=>absurd k (by show ¬(1:Int)=2;omega)
      · rw [eq,h3]
        have hle:=W.le i;simp only [Gt.olds,List.count_nil,Nat.add_zero];unfold Go.Proofs.YtabiglnmfdpcfaaGreatDoor.own;rw [tk.cc,tk.ce]
        by_cases e:i=tkH s2.cs s2.fr-1
        · have v:=tk.vac
          rw [← e] at v;rw [v] at hle ⊢;rw [if_pos e,if_pos e,if_pos (by omega),hX];simp [lfC]
        · rw [if_neg e,if_neg e,if_neg (by omega)]
          rfl
      · rw [h3,noc_tk hF (1,X) (by show 0<1;omega)]
        omega
      · rw [eq]
        exact ⟨t1,tk.vac⟩
      · rw [h3,tk.len]
        have:=tk.le;omega
  | .nd e L R,d,lo,hi,q,g,ok,cm,s,W,kp,ml,av=>by
    obtain ⟨m,n,a,b,rfl,rfl,hp,gL,gR⟩:=g;obtain ⟨rfl,hd,okL,okR,bL,bR,two⟩:=ok;have l1:=gL.le;have l2:=gR.le;have cmL:Com (e+1) (L.ents.map (·.1)):=Com.succ (cm.sub fun x hx=>by
      show x∈(L.ents++R.ents).map _;rw [List.map_append];exact List.mem_append_left _ hx) 0 fun x hx=>by
        obtain ⟨y,hy,rfl⟩:=List.mem_map.1 hx;exact bL y hy
    have cmR:Com (e+1) (R.ents.map (·.1)):=Com.succ (cm.sub fun x hx=>by
      show x∈(L.ents++R.ents).map _;rw [List.map_append];exact List.mem_append_right _ hx) 1 fun x hx=>by
        obtain ⟨y,hy,rfl⟩:=List.mem_map.1 hx;exact bR y hy
    have hol:∀i,(Gt.nd e L R).olds.count (i+1)=L.olds.count (i+1)+R.olds.count (i+1):=fun i=>by simp [Gt.olds]
    obtain ⟨iL1,iL2⟩:=bz_ok L (e+1) lo m a gL okL cmL s W kp ml (fun i=>by have:=av i;rw [hol] at this;omega);have iR:∀s2,Bz ps lo s m s2→BzOk (e+1) lo m a L s s2∧(∀j s1,m≤j→j<n→Bz ps m s2 j s1→∃k,ps[j]?=some k∧Can s1 k∧noc s1.cs+m=noc s2.cs+j∧s1.ms.length=j)∧∀s1,Bz ps m s2 n s1→BzOk (e+1) m n b R s2 s1:=fun s2 b2=>by
      have o:=iL2 s2 b2;refine ⟨o,bz_ok R (e+1) m n b gR okR cmR s2 o.wf (fun i hi=>⟨(o.keep i (kp i hi).1).1,(kp i hi).2.trans (o.keep i (kp i hi).1).2⟩) o.mlen fun i=>?_⟩;have h1:=av i;have h2:=o.own i;rw [hol] at h1;omega
    have fit:∀s3,Bz ps lo s n s3→∃s2,BzOk (e+1) lo m a L s s2∧BzOk (e+1) m n b R s2 s3∧hdl s3.ms a=hdl s2.ms a∧(∀i,own s3.cs [] i+(Gt.nd e L R).olds.count (i+1)=own s.cs [] i+(if hdl s3.ms a=i+1 then 1 else 0)+(if hdl s3.ms b=i+1 then 1 else 0))∧Can s3 (pnI e a b)∧∃U V,IsT s3.cs (hdl s3.ms a) U∧IsT s3.cs (hdl s3.ms b) V∧U.ents=L.ents∧V.ents=R.ents:=fun s3 b3=>by
      obtain ⟨s2,c1,c2⟩:=b3.split m l1 l2;obtain ⟨o1,_,o2⟩:=iR s2 c1;have o2:=o2 s3 c2;obtain ⟨t,ht⟩:=o2.ms;have ha:hdl s3.ms a=hdl s2.ms a:=by
        rw [ht];exact hdl_more t (by rw [o1.mlen];exact o1.part)
      have hown:∀i,own s3.cs [] i+(Gt.nd e L R).olds.count (i+1)=own s.cs [] i+(if hdl s3.ms a=i+1 then 1 else 0)+(if hdl s3.ms b=i+1 then 1 else 0):=fun i=>by
        have h1:=o1.own i;have h2:=o2.own i;rw [hol,ha];omega
      obtain ⟨U,u1,u2⟩:=o1.tree;obtain ⟨V,v1,v2⟩:=o2.tree;have u3:IsT s3.cs (hdl s3.ms a) U:=by rw [ha];exact u1.keep o2.keep
      have kU:(sdC s3.cs (hdl s3.ms a)).kind=2→(sdC s3.cs (hdl s3.ms a)).dp=e+1:=by
        rw [ha];refine core_dp ?_ o1.dp;rcases u1.occ with q | q
        · exact .inl q
        · exact .inr (o2.keep _ q.2).2
      have may:∀h:Nat,(∃c:Nat→Nat,∀i,own s3.cs [] i+(Gt.nd e L R).olds.count (i+1)=own s.cs [] i+(if h=i+1 then 1 else 0)+c i)→mayP s3.cs (h:Int):=fun h ⟨c,hc⟩=>by
        refine may_own ?_
        by_cases h0:h=0
        · exact .inl h0
        · refine .inr ?_
          have h1:=hc (h-1);have h2:=av (h-1);rw [if_pos (by omega)] at h1;omega
      have m1:=may (hdl s3.ms a) ⟨fun i=>if hdl s3.ms b=i+1 then 1 else 0,hown⟩;have m2:=may (hdl s3.ms b) ⟨fun i=>if hdl s3.ms a=i+1 then 1 else 0,fun i=>by have:=hown i;dsimp only;omega⟩;obtain ⟨x,hx⟩:∃x,x∈L.ents++R.ents:=List.exists_mem_of_length_pos (by omega);have hK:∀y∈L.ents++R.ents,∀j,j<e→kb y.1 j=kb x.1 j:=fun y hy j hj=>cm _ (List.mem_map_of_mem hy) _ (List.mem_map_of_mem hx) j hj
      obtain ⟨u,hu,hf⟩:=two_fit o2.wf u3 v1 e hd kU o2.dp (fun y hy=>bL y (by rw [← u2];exact hy)) (fun y hy=>bR y (by rw [← v2];exact hy)) (by rw [u2,v2,← List.length_append];exact two) x.1 (fun y hy j hj=>hK y (List.mem_append_left _ (by rw [← u2];exact hy)) j hj) (fun y hy j hj=>hK y (List.mem_append_right _ (by rw [← v2];exact hy)) j hj);exact ⟨s2,o1,o2,ha,hown,⟨fun q=>(by cases q),fun _=>⟨hd,m1,m2,u,hu,hf⟩⟩,U,V,u3,v1,u2,v2⟩
    refine ⟨fun j s1 h1 h2 bb=>?_,fun s1 bb=>?_⟩
    · by_cases j1:j<m
      · exact iL1 j s1 h1 j1 bb
      · by_cases j2:j<n
        · obtain ⟨s2,c1,c2⟩:=bb.split m l1 (by omega)
          obtain ⟨o1,o2,_⟩:=iR s2 c1;obtain ⟨k,k1,k2,k3,k4⟩:=o2 j s1 (by omega) j2 c2;have:=o1.noc;exact ⟨k,k1,k2,by omega,k4⟩
        · obtain rfl:j=n:=by omega
          obtain ⟨s2,o1,o2,_,_,c,_⟩:=fit s1 bb;have:=o1.noc;have:=o2.noc;exact ⟨_,hp,c,by omega,o2.mlen⟩
    · obtain ⟨s3,k,b3,k1,hF,wf,h1,h2,h3⟩:=bb.last (by omega)
      rw [hp] at k1;injection k1 with k1;subst k1;rcases h3 with ⟨h3,_⟩ | ⟨_,hin⟩
      · cases h3
      obtain ⟨s2,o1,o2,ha,hown,c,U,V,u1,v1,u2,v2⟩:=fit s3 b3;obtain ⟨_,m1,m2,_⟩:=c.2 rfl;have m1:mayP s3.cs (hdl s3.ms a:Int):=m1;have m2:mayP s3.cs (hdl s3.ms b:Int):=m2;have hin:InnR s3.cs s3.fr e (hdl s3.ms a) (hdl s3.ms b) s1.cs:=hin;obtain ⟨p1,p2,p3,p4,p5,p6,p7,p8,p9⟩:=own_inner o2.wf wf hF m1 m2 hin;have eq:hdl s1.ms (-((n:Int)+1))=tkH s3.cs s3.fr:=by
        rw [hdl_neg,h2,← o2.mlen,List.getD_eq_getElem?_getD,List.getElem?_append_right (Nat.le_refl _)];simp
      have k3:∀i,0<cc s.cs i→0<cc s3.cs i∧Core (ce s.cs i) (ce s3.cs i):=fun i hi=>⟨(o2.keep i (o1.keep i hi).1).1,(o1.keep i hi).2.trans (o2.keep i (o1.keep i hi).1).2⟩
      have vac:cc s.cs (tkH s3.cs s3.fr-1)=0:=by
        apply Classical.byContradiction;intro q;have:=(k3 (tkH s3.cs s3.fr-1) (by omega)).1;omega
      obtain ⟨t1,e1⟩:=o1.ms;obtain ⟨t2,e2⟩:=o2.ms;refine ⟨wf,⟨t1++t2++[tkH s3.cs s3.fr],by rw [h2,e2,e1];simp⟩,by rw [h2];simp [o2.mlen],fun i hi=>⟨(p2 i (k3 i hi).1).1,(k3 i hi).2.trans (p2 i (k3 i hi).1).2⟩,fun i hi=>?_,⟨_,by rw [eq];exact p6 U V u1 v1,by show U.ents++V.ents=_;rw [u2,v2];rfl⟩,by rw [eq];exact fun _=>p7,fun i=>?_,?_,fun _=>by rw [eq];exact ⟨p5,vac⟩,?_,by omega⟩
      · have hne: ¬i=tkH s3.cs s3.fr-1:=fun q=>by
          rw [q,vac] at hi;omega
        rw [p8,if_neg hne,o2.cnt i (o1.keep i hi).1,o1.cnt i hi]
      · have h4:=p1 i
        have h5:=hown i;rw [eq];omega
      · have:=o1.noc
        have:=o2.noc;omega
      · have:=o1.len
        have:=o2.len;omega

end Go.Proofs.YtabiglnmfdpcfaaGreatDoor

namespace Go.Proofs.YtabiglnmfdpcfaaGreatDoor
variable {E:List Ent}
variable {c d fuel g h i j k n o r:Nat}
variable {cs cs' cs0 cs1:Lz}
variable {fr fr':List Nat}
variable {q:Int}
variable {v:Value}
variable {w:World}
set_option maxRecDepth 20000
open Go.RowKit

def posP (q:Int):List Nat:=if 0<q then [q.toNat] else []
def shPn (n:Pn):List Nat:=posP n.l++posP n.r
def shL (ps:List Pn) (q:Int):List Nat:=ps.flatMap shPn++posP q

theorem posP_nat (h i:Nat):(posP (h:Int)).count (i+1)=[h].count (i+1):=by
  unfold posP
  by_cases e:h=0
  · subst e
    simp
  · rw [if_pos (by omega),Int.toNat_natCast]
theorem posP_neg (h:q≤0):posP q=[]:=by unfold posP;rw [if_neg (by omega)]

def seg (ps:List Pn) (lo hi:Nat):List Pn:=(ps.take hi).drop lo
theorem seg_app (ps:List Pn) {lo m hi:Nat} (h1:lo≤m) (h2:m≤hi):seg ps lo hi=seg ps lo m++seg ps m hi:=by
  unfold seg;rw [List.drop_take,List.drop_take,List.drop_take,show hi-lo=(m-lo)+(hi-m) by omega,List.take_add,List.drop_drop,show lo+(m-lo)=m by omega]
theorem seg_one (ps:List Pn) {n:Nat} {x:Pn} (h:ps[n]?=some x):seg ps n (n+1)=[x]:=by
  unfold seg;have hl:=(List.getElem?_eq_some_iff.1 h).1;rw [List.drop_take,show n+1-n=1 by omega,List.drop_eq_getElem_cons hl,(List.getElem?_eq_some_iff.1 h).2];rfl
theorem seg_all (ps:List Pn):seg ps 0 ps.length=ps:=by simp [seg]
theorem seg_nil (ps:List Pn) (n:Nat):seg ps n n=[]:=by simp [seg]

theorem shL_count {cs:Lz} {ps:List Pn} (i:Nat):∀ {G:Gt} {lo hi:Nat} {q:Int},IsG cs ps lo hi q G→((seg ps lo hi).flatMap shPn++posP q).count (i+1)=G.olds.count (i+1)
  | .old h T,lo,hi,q,g=>by
    obtain ⟨rfl,rfl,_⟩:=g;rw [seg_nil];exact posP_nat h i
  | .lf x,lo,hi,q,g=>by
    obtain ⟨rfl,rfl,h⟩:=g;rw [seg_one ps h,posP_neg (by omega)];rfl
  | .nd d L R,lo,hi,q,g=>by
    obtain ⟨m,n,a,b,rfl,rfl,h,gL,gR⟩:=g;have l1:=gL.le;have l2:=gR.le;have iL:=shL_count i gL;have iR:=shL_count i gR;rw [seg_app ps (show lo≤n by omega) (show n≤n+1 by omega),seg_app ps l1 l2,seg_one ps h,posP_neg (show -((n:Int)+1)≤0 by omega)];simp only [List.flatMap_append,List.flatMap_cons,List.flatMap_nil,List.count_append,List.append_nil] at iL iR ⊢;rw [show shPn (pnI d a b)=posP a++posP b from rfl,List.count_append];show _=(L.olds++R.olds).count (i+1);rw [List.count_append];omega
theorem IsG.oldT {ps:List Pn}:∀ {G:Gt} {lo hi:Nat} {q:Int},IsG cs ps lo hi q G→∀h∈G.olds,∃T,IsT cs h T
  | .old h T,_,_,_,g,x,hx=>by
    obtain rfl:x=h:=by simpa [Gt.olds] using hx
    exact ⟨T,g.2.2⟩
  | .lf _,_,_,_,_,x,hx=>by cases hx
  | .nd _ _ _,_,_,_,g,x,hx=>by
    obtain ⟨m,n,a,b,_,_,_,gL,gR⟩:=g;rcases List.mem_append.1 hx with q | q
    · exact gL.oldT x q
    · exact gR.oldT x q

structure BatOk (cs0:Lz) (E:List Ent) (l:List Wt) (root top n:Nat) (olds:List Nat) (cs':Lz):Prop where
  wf:Wf cs' []
  tree:∃U,IsT cs' top U∧U.ents.Perm (ovE E l)
  dp:(sdC cs' top).kind=2→(sdC cs' top).dp=0
  own:∀i,own cs' [] i+(if root=i+1 then 1 else 0)=own cs0 [] i+(if top=i+1 then 1 else 0)
  keep:∀h T,IsT cs0 h T→(h=0∨0<cc cs' (h-1))→IsT cs' h T
  noc:noc cs'≤noc cs0+n
  len:cs'.length≤cs0.length+n
  just:root=0∨2≤cc cs0 (root-1)∨root∈olds→Go.Proofs.YtabiglnmfdpcfaaGreatDoor.noc cs'=Go.Proofs.YtabiglnmfdpcfaaGreatDoor.noc cs0+n

structure ShOk (cs0:Lz) (ps:List Pn) (q:Int) (G:Gt):Prop where
  mem:∀h∈shL ps q,h≠0∧0<cc cs0 (h-1)
  cnt:∀i,(shL ps q).count (i+1)=G.olds.count (i+1)

theorem sh_ok {ps:List Pn} {G:Gt} (g:IsG cs0 ps 0 ps.length q G):ShOk cs0 ps q G:=by
  have hc:∀i,(shL ps q).count (i+1)=G.olds.count (i+1):=fun i=>by
    have:=shL_count i g;rw [seg_all] at this;exact this
  have pos:∀(p:Int),∀h∈posP p,h≠0:=fun p h hh=>by
    unfold posP at hh;split at hh
    · obtain rfl:h=p.toNat:=by simpa using hh
      omega
    · cases hh
  have h0:∀h∈shL ps q,h≠0:=fun h hh=>by
    rcases List.mem_append.1 hh with x | x
    · obtain ⟨n,_,x⟩:=List.mem_flatMap.1 x
      rcases List.mem_append.1 x with x | x
      · exact pos _ h x
      · exact pos _ h x
    · exact pos _ h x
  refine ⟨fun h hh=>⟨h0 h hh,?_⟩,hc⟩;have h1:=h0 h hh;have h2:0<(shL ps q).count (h-1+1):=by
    rw [List.count_pos_iff,show h-1+1=h by omega];exact hh
  rw [hc,List.count_pos_iff,show h-1+1=h by omega] at h2;obtain ⟨T,hT⟩:=g.oldT h h2;rcases hT.occ with e | e
  · exact absurd e h1
  · exact e.2

theorem bz_start {ps:List Pn} {G:Gt} (W0:Wf cs0 []) (g:IsG cs0 ps 0 ps.length q G) (ok:GOk cs0 0 G) (hm:HmOk cs0 (shL ps q) cs1) (fr:List Nat):
    (∀j s1,0≤j→j<ps.length→Bz ps 0 ⟨cs1,fr,[]⟩ j s1→∃n,ps[j]?=some n∧Can s1 n∧noc s1.cs+0=noc cs1+j∧s1.ms.length=j)∧∀s1,Bz ps 0 ⟨cs1,fr,[]⟩ ps.length s1→BzOk 0 0 ps.length q G ⟨cs1,fr,[]⟩ s1:=by
  refine bz_ok G 0 0 ps.length q g ok (fun a _ b _ j hj=>by omega) ⟨cs1,fr,[]⟩ hm.wf (fun i hi=>?_) rfl fun i=>?_
  · rw [hm.cc,hm.ce]
    exact ⟨by omega,Core.refl _⟩
  · have:=hm.own W0 i
    rw [(sh_ok g).cnt] at this;show _≤own cs1 [] i;omega

theorem bat_ok0 {l:List Wt} {ps:List Pn} {G:Gt} {s:Bst} (W0:Wf cs0 []) (g:IsG cs0 ps 0 ps.length q G) (he:G.ents.Perm (ovE E l)) (hm:HmOk cs0 (shL ps q) cs1) (o:BzOk 0 0 ps.length q G ⟨cs1,fr,[]⟩ s):BatOk cs0 E l 0 (hdl s.ms q) ps.length G.olds s.cs:=by
  obtain ⟨U,u1,u2⟩:=o.tree;have k:∀i,0<cc cs0 i→0<cc s.cs i∧Core (ce cs0 i) (ce s.cs i):=fun i hi=>by
    have h:=o.keep i (by show 0<cc cs1 i;rw [hm.cc];omega);have e:ce cs1 i=ce cs0 i:=hm.ce i;refine ⟨h.1,?_⟩;rw [← e];exact h.2
  refine ⟨o.wf,⟨U,u1,by rw [u2];exact he⟩,o.dp,fun i=>?_,fun h T hT _=>hT.keep k,?_,?_,fun _=>?_⟩
  · have h1:=o.own i
    have h2:=hm.own W0 i;have h3:=(sh_ok g).cnt i;have e:Go.Proofs.YtabiglnmfdpcfaaGreatDoor.own (Bst.cs ⟨cs1,fr,[]⟩) [] i=Go.Proofs.YtabiglnmfdpcfaaGreatDoor.own cs1 [] i:=rfl;rw [if_neg (show ¬0=i+1 by omega)];omega
  · have h1:=o.noc
    have h2:=hm.noc;have e:Go.Proofs.YtabiglnmfdpcfaaGreatDoor.noc (Bst.cs ⟨cs1,fr,[]⟩)=Go.Proofs.YtabiglnmfdpcfaaGreatDoor.noc cs1:=rfl;omega
  · have h1:=o.len
    have h2:=hm.len;have e:(Bst.cs ⟨cs1,fr,[]⟩).length=cs1.length:=rfl;omega
  · have h1:=o.noc
    have h2:=hm.noc;have e:Go.Proofs.YtabiglnmfdpcfaaGreatDoor.noc (Bst.cs ⟨cs1,fr,[]⟩)=Go.Proofs.YtabiglnmfdpcfaaGreatDoor.noc cs1:=rfl;omega

theorem bat_ok1 {l:List Wt} {ps:List Pn} {G:Gt} {fr1:List Nat} {s:Bst} (W0:Wf cs0 []) (g:IsG cs0 ps 0 ps.length q G) (he:G.ents.Perm (ovE E l)) (hm:HmOk cs0 (shL ps q) cs1) (o:BzOk 0 0 ps.length q G ⟨cs1,fr,[]⟩ s) (hr:1≤r) (ho:0<own cs0 [] (r-1)) (run:Run s.cs fr1 [r] cs' fr' n) (st:Step s.cs [r] cs' [] n) (hne:hdl s.ms q≠r):BatOk cs0 E l r (hdl s.ms q) ps.length G.olds cs':=by
  have b:=bat_ok0 W0 g he hm o;obtain ⟨U,u1,u2⟩:=b.tree;have h0:∀i,own s.cs [] i=own cs0 [] i+(if hdl s.ms q=i+1 then 1 else 0):=fun i=>by
    have:=b.own i;rw [if_neg (show ¬0=i+1 by omega)] at this;exact this
  have hown:∀i,own cs' [] i+(if r=i+1 then 1 else 0)=own cs0 [] i+(if hdl s.ms q=i+1 then 1 else 0):=fun i=>by
    rw [st.own i,← h0 i];exact own_pend hr (by rw [h0];omega)
  have ct:hdl s.ms q=0∨0<cc cs' (hdl s.ms q-1):=by
    by_cases t0:hdl s.ms q=0
    · exact .inl t0
    · refine .inr ?_
      have:=hown (hdl s.ms q-1);rw [if_pos (show hdl s.ms q=hdl s.ms q-1+1 by omega),if_neg (by omega)] at this;unfold Go.Proofs.YtabiglnmfdpcfaaGreatDoor.own at this;omega
  have tt:=u1.stay st.wf st.keep ct;refine ⟨st.wf,⟨U,tt,u2⟩,fun k=>?_,hown,fun h T hT hh=>?_,by have:=b.noc;have:=st.noc;omega,by have:=b.len;have:=st.len;omega,fun hh=>?_⟩
  · by_cases t0:hdl s.ms q=0
    · rw [t0] at k
      exact absurd k (by show ¬zc.kind=2;decide)
    · have hc:=(st.keep _ (ct.resolve_left t0)).2
      have hd:=b.dp;rw [sdC,if_neg t0] at k hd ⊢;rw [hc] at k ⊢;exact hd k
  · have hs:h=0∨0<cc s.cs (h-1):=by
      rcases hh with e | e
      · exact .inl e
      · exact .inr (st.keep _ e).1
    exact (b.keep h T hT hs).stay st.wf st.keep hh
  · have c0:0<cc cs0 (r-1):=by
      unfold Go.Proofs.YtabiglnmfdpcfaaGreatDoor.own at ho;omega
    have c1:cc s.cs (r-1)=cc cs0 (r-1)+G.olds.count (r-1+1):=by
      have h1:cc s.cs (r-1)=cc cs1 (r-1):=o.cnt (r-1) (by show 0<cc cs1 (r-1);rw [hm.cc];omega);rw [h1,hm.cc,(sh_ok g).cnt]
    have c2:2≤cc s.cs (r-1):=by
      rcases hh with e | e | e
      · omega
      · omega
      · have:0<G.olds.count (r-1+1):=by
          rw [List.count_pos_iff,show r-1+1=r by omega];exact e
        omega
    have n0:n=0:=by
      cases run with
      | keep _ k=>
        cases k
        rfl
      | free hc _=>
        simp only [Nat.add_sub_cancel] at c2;omega
    have:=b.just (.inl rfl);have:=st.noc;omega

end Go.Proofs.YtabiglnmfdpcfaaGreatDoor

namespace Go.Proofs.YtabiglnmfdpcfaaGreatDoor
variable {E:List Ent}
variable {c d fuel g h i j k n o r:Nat}
variable {cs cs' cs0 cs1:Lz}
variable {fr fr':List Nat}
variable {q:Int}
variable {v:Value}
variable {w:World}
set_option maxRecDepth 20000
open Go.RowKit

section
variable {α:Type} {enc:α→List Value} {K:Nat}

def flatE (enc:α→List Value) (xs:List α):List Value:=xs.flatMap enc
theorem flatE_snoc (xs:List α) (x:α):flatE enc (xs++[x])=flatE enc xs++enc x:=by simp [flatE]
theorem flatE_app (xs ys:List α):flatE enc (xs++ys)=flatE enc xs++flatE enc ys:=by simp [flatE]
theorem flatE_len:∀(xs:List α),(∀x∈xs,(enc x).length=K)→(flatE enc xs).length=xs.length * K
  | [],_=>by simp [flatE]
  | x::r,h=>by
    have h1:=flatE_len r (fun q hq=>h q (by simp [hq]));have h2:=h x (by simp);unfold flatE at h1 ⊢;rw [List.flatMap_cons,List.length_append,h1,h2,List.length_cons,Nat.succ_mul,Nat.add_comm]
theorem flatE_at:∀(xs:List α),(∀x∈xs,(enc x).length=K)→∀(i:Nat) (hi:i<xs.length) (j:Nat) (v:Value),(enc xs[i])[j]?=some v→(flatE enc xs)[i * K+j]?=some v
  | [],_,i,hi,_,_,_=>by simp at hi
  | x::r,hl,0,_,j,v,h=>by
    have h:(enc x)[j]?=some v:=h;have hj:=(List.getElem?_eq_some_iff.1 h).1;simp only [flatE,List.flatMap_cons,Nat.zero_mul,Nat.zero_add];rw [List.getElem?_append_left hj];exact h
  | x::r,hl,i+1,hi,j,v,h=>by
    have ih:=flatE_at r (fun q hq=>hl q (by simp [hq])) i (by simpa using hi) j v (by simpa using h);have e1:(enc x).length=K:=hl x (by simp);simp only [flatE,List.flatMap_cons];rw [List.getElem?_append_right (by rw [Nat.succ_mul,e1];omega),show (i+1) * K+j-(enc x).length=i * K+j by rw [Nat.succ_mul,e1];omega];exact ih
theorem flatE_one (xs:List α) (h1:∀x∈xs,∀u∈enc x,u.oneCell'=true):∀u∈flatE enc xs,u.oneCell'=true:=fun u hu=>by
  obtain ⟨x,hx,hux⟩:=List.mem_flatMap.1 hu;exact h1 x hx u hux
theorem flatE_set (xs:List α) (hl:∀x∈xs,(enc x).length=K) (i:Nat) (hi:i<xs.length) (p:α) (hp:(enc p).length=K):setL (flatE enc xs) (i * K) (enc p)=flatE enc (xs.set i p):=by
  have e:xs=xs.take i++(xs[i]::xs.drop (i+1)):=by simp
  have e2:xs.set i p=xs.take i++(p::xs.drop (i+1)):=by rw [List.set_eq_take_append_cons_drop,if_pos hi]
  have l1:(flatE enc (xs.take i)).length=i * K:=by rw [flatE_len _ (fun x hx=>hl x (List.mem_of_mem_take hx)),List.length_take,Nat.min_eq_left (by omega)]
  rw [e2]
  conv=>lhs;rw [e]
  rw [flatE_app,flatE_app,← l1];show setL (_++(enc xs[i]++flatE enc (xs.drop (i+1)))) _ _=_++(enc p++flatE enc (xs.drop (i+1)));exact setL_mid _ _ _ _ (by rw [hp,hl _ (List.getElem_mem hi)])
theorem lstE_range {e:TypeId} {xs:List α} (h:Lst w e K (.slice (some ⟨g,0,none⟩) n c) n (flatE enc xs)) (hn:xs.length=n) (hl:∀x∈xs,(enc x).length=K) (i:Nat) (hi:i<xs.length):w.rangeAt g (i * K) (enc xs[i])∧w.there g (i * K) K:=by
  have hK:i * K+K≤n * K:=by rw [← hn,← Nat.succ_mul];exact Nat.mul_le_mul_right K hi
  constructor
  · intro j u hu
    have hj:j<K:=by rw [← hl _ (List.getElem_mem hi)];exact (List.getElem?_eq_some_iff.1 hu).1
    rw [lst_cell h (i * K+j) (by omega)];exact flatE_at xs hl i hi j u hu
  · intro j hj
    refine ⟨?_,h.frozenAt (i * K+j)⟩;rw [h.cellAt (i * K+j) (by omega),List.getElem?_eq_getElem (by rw [h.1];omega)];rfl
theorem lstE_set {e:TypeId} {xs:List α} (h:Lst w e K (.slice (some ⟨g,0,none⟩) n c) n (flatE enc xs)) (hl:∀x∈xs,(enc x).length=K) (i:Nat) (hi:i<xs.length) (p:α) (hp:(enc p).length=K):Lst (w.setCells g (i * K) (enc p)) e K (.slice (some ⟨g,0,none⟩) n c) n (flatE enc (xs.set i p)):=by
  rw [← flatE_set xs hl i hi p hp];exact lst_sets _ _ _ _ h
theorem there_sets (h:w.there g o k) (g' o':Nat) (us:List Value):(w.setCells g' o' us).there g o k:=World.there_setCells h _ _ _
end

end Go.Proofs.YtabiglnmfdpcfaaGreatDoor

namespace Go.Proofs.YtabiglnmfdpcfaaGreatDoor
variable {E:List Ent}
variable {c d fuel g h i j k n o r:Nat}
variable {cs cs' cs0 cs1:Lz}
variable {fr fr':List Nat}
variable {q:Int}
variable {v:Value}
variable {w:World}
set_option maxRecDepth 20000
open Go Go.RowKit

section
variable {P:Program} {ops:Array Oper} {Q:Exit→Act→World→Prop} {md:Region.Mode} {S:World→Prop} {Ws:List Nat}

def wrote (Ws:List Nat) (listed:Array Bool):Bool:=Ws.any fun L=>listed.getD L false
theorem wrote_set {listed:Array Bool} (h:Ws.contains i=false):wrote Ws (listed.setIfInBounds i true)=wrote Ws listed:=by
  unfold wrote;apply Bool.eq_iff_iff.2;simp only [List.any_eq_true];have hne:∀L∈Ws,i≠L:=fun L hL e=>by
    subst e;simp at h;exact h hL
  constructor
  · rintro ⟨L,h1,h2⟩
    exact ⟨L,h1,by rwa [getD_set_ne false (hne L h1)] at h2⟩
  · rintro ⟨L,h1,h2⟩
    exact ⟨L,h1,by rwa [getD_set_ne false (hne L h1)]⟩
theorem wrote_not {listed:Array Bool} (hs:ShutL md ops listed) (hi:listed.getD i false=false) (hld:(Ws.all fun L=>leads md ops i n L)=true):wrote Ws listed=false:=by
  unfold wrote;rw [Bool.eq_false_iff];intro h;obtain ⟨L,h1,h2⟩:=List.any_eq_true.1 h;have h3:=List.all_eq_true.1 hld L h1;cases ho:ops[L]? with
  | none=>
    cases n with
    | zero=>simp [leads] at h3
    | succ n=>unfold leads at h3;rw [ho] at h3;cases h3
  | some o=>exact leads_on hs hi n L h3 o ho (hs L o ho h2)

def wpAnyW (P:Program) (md:Region.Mode) (ops:Array Oper) (Q:Exit→Act→World→Prop) (S:World→Prop) (Ws:List Nat):Nat→Array Bool→Act→World→Prop
  | 0,listed,a,w=>Region.ready md ops listed=[]∧Q .normal a w
  | fuel+1,listed,a,w=>
    (Region.ready md ops listed=[]→Q .normal a w)∧
    ∀i∈Region.ready md ops listed,wpOp P ops Q i (fun a' w'=>(wrote Ws (listed.setIfInBounds i true)=true∨S w')∧wpAnyW P md ops Q S Ws fuel (listed.setIfInBounds i true) a' w') a w

theorem wpAny_of_wrote:∀(fuel:Nat) (listed:Array Bool) (a:Act) (w:World),wpAnyW P md ops Q S Ws fuel listed a w→wpAny P md ops Q fuel listed a w
  | 0,_,_,_,h=>h
  | fuel+1,_,_,_,h=>⟨h.1,fun i hi=>wpOp_mono (fun a' w' h'=>wpAny_of_wrote fuel _ a' w' h'.2) (h.2 i hi)⟩

theorem unlisted {listed:Array Bool} (hr:i∈Region.ready md ops listed):listed.getD i false=false:=by
  have h0:=(mem_ready.1 hr).1;rcases Nat.lt_or_ge i listed.size with h' | h'
  · simpa [h'] using h0
  · simp [Array.getElem?_eq_none h']

theorem wpAnyW_first {oi:Oper} (hi:ops[i]?=some oi) (hsel:∀(j:Nat) (o:Oper) cs b,ops[j]?=some o→o.op≠.select cs b)
    (hQ:∀c a w,Q (.panic c) (a.put oi.dst v) w→Q (.panic c) a w) (hld:(Ws.all fun L=>leads md ops i n L)=true) (hiw:Ws.contains i=false):
    ∀(fuel:Nat) (listed:Array Bool) (a:Act) (w:World),ShutL md ops listed→
      (∀j oj,ops[j]?=some oj→j≠i→listed.getD j true=false→(∀e∈oj.after,Region.binds md e=true→e.on≠i)→oi.apart ops oj=true)→
      i∈Region.ready md ops listed→YieldsIf P ops S oi v a→S w→
      wpAnyW P md ops Q S Ws fuel (listed.setIfInBounds i true) (a.put oi.dst v) w→wpAnyW P md ops Q S Ws (fuel+1) listed a w:=by
  intro fuel;induction fuel with
  | zero=>
    intro listed a w _ _ hr hy hS H;refine ⟨fun h=>(by rw [h] at hr;cases hr),fun j hj=>?_⟩
    by_cases hji:j=i
    · subst hji;exact hy.wpOp hi hS ⟨.inr hS,H⟩
    · have:=ready_mono hj hji
      rw [H.1] at this;cases this
  | succ fuel ih=>
    intro listed a w hsh hfree hr hy hS H;refine ⟨fun h=>(by rw [h] at hr;cases hr),fun j hj=>?_⟩
    by_cases hji:j=i
    · subst hji;exact hy.wpOp hi hS ⟨.inr hS,H⟩
    · have h1:=H.2 j (ready_mono hj hji)
      obtain ⟨hjun,oj,hoj,hall⟩:=mem_ready.1 hj;have hi0:=unlisted hr;have hnw:wrote Ws ((listed.setIfInBounds i true).setIfInBounds j true)=false:=by
        rw [Array.setIfInBounds_comm _ _ (Ne.symm hji),wrote_set hiw];refine wrote_not (hsh.step hj) ?_ hld;rw [getD_set_ne false hji];exact hi0
      have hnot:∀e∈oj.after,Region.binds md e=true→e.on≠i:=fun e he hb heq=>by
        have h1:=hall e he hb;rw [heq,hi0] at h1;cases h1
      have h2:=wpOp_putIf hoj (hfree j oj hoj hji hjun hnot) (fun cs b=>hsel i oi cs b hi) (fun cs b=>hsel j oj cs b hoj) hQ hy h1;have hfree':∀k ok,ops[k]?=some ok→k≠i→(listed.setIfInBounds j true).getD k true=false→
          (∀e∈ok.after,Region.binds md e=true→e.on≠i)→oi.apart ops ok=true:=fun k ok hk hki hun hno=>by
        refine hfree k ok hk hki ?_ hno
        by_cases hjk:j=k
        · subst hjk;exact hjun
        · rw [getD_set_ne true hjk] at hun;exact hun
      refine wpOp_mono (fun a' w' h3=>?_) h2;have hS':S w':=h3.2.1.resolve_left (by rw [hnw];simp);refine ⟨.inr hS',ih (listed.setIfInBounds j true) a' w' (hsh.step hj) hfree' (ready_mono hr (Ne.symm hji)) h3.1 hS' ?_⟩;rw [Array.setIfInBounds_comm _ _ hji];exact h3.2.2

theorem wpAnyW_pure {oi:Oper} (hi:ops[i]?=some oi) (hsel:∀(j:Nat) (o:Oper) cs b,ops[j]?=some o→o.op≠.select cs b)
    (hQ:∀c a w,Q (.panic c) (a.put oi.dst v) w→Q (.panic c) a w) (hiw:Ws.contains i=false):
    ∀(fuel:Nat) (listed:Array Bool) (a:Act) (w:World),
      (∀j oj,ops[j]?=some oj→j≠i→listed.getD j true=false→(∀e∈oj.after,Region.binds md e=true→e.on≠i)→oi.apart ops oj=true)→
      i∈Region.ready md ops listed→YieldsIf P ops (fun _=>True) oi v a→(wrote Ws listed=true∨S w)→
      wpAnyW P md ops Q S Ws fuel (listed.setIfInBounds i true) (a.put oi.dst v) w→wpAnyW P md ops Q S Ws (fuel+1) listed a w:=by
  intro fuel;induction fuel with
  | zero=>
    intro listed a w _ hr hy hS H;refine ⟨fun h=>(by rw [h] at hr;cases hr),fun j hj=>?_⟩
    by_cases hji:j=i
    · subst hji;exact hy.wpOp hi trivial ⟨by rw [wrote_set hiw];exact hS,H⟩
    · have:=ready_mono hj hji
      rw [H.1] at this;cases this
  | succ fuel ih=>
    intro listed a w hfree hr hy hS H;refine ⟨fun h=>(by rw [h] at hr;cases hr),fun j hj=>?_⟩
    by_cases hji:j=i
    · subst hji;exact hy.wpOp hi trivial ⟨by rw [wrote_set hiw];exact hS,H⟩
    · have h1:=H.2 j (ready_mono hj hji)
      obtain ⟨hjun,oj,hoj,hall⟩:=mem_ready.1 hj;have hi0:=unlisted hr;have hnot:∀e∈oj.after,Region.binds md e=true→e.on≠i:=fun e he hb heq=>by
        have h1:=hall e he hb;rw [heq,hi0] at h1;cases h1
      have h2:=wpOp_putIf hoj (hfree j oj hoj hji hjun hnot) (fun cs b=>hsel i oi cs b hi) (fun cs b=>hsel j oj cs b hoj) hQ hy h1;have hfree':∀k ok,ops[k]?=some ok→k≠i→(listed.setIfInBounds j true).getD k true=false→
          (∀e∈ok.after,Region.binds md e=true→e.on≠i)→oi.apart ops ok=true:=fun k ok hk hki hun hno=>by
        refine hfree k ok hk hki ?_ hno
        by_cases hjk:j=k
        · subst hjk;exact hjun
        · rw [getD_set_ne true hjk] at hun;exact hun
      refine wpOp_mono (fun a' w' h3=>?_) h2;have hS':wrote Ws (listed.setIfInBounds j true)=true∨S w':=by
        have:=h3.2.1;rwa [Array.setIfInBounds_comm _ _ (Ne.symm hji),wrote_set hiw] at this
      refine ⟨hS',ih (listed.setIfInBounds j true) a' w' hfree' (ready_mono hr (Ne.symm hji)) h3.1 hS' ?_⟩;rw [Array.setIfInBounds_comm _ _ hji];exact h3.2.2

theorem wpAnyW_take {oi:Oper} {listed:Array Bool} {a:Act} (hi:ops[i]?=some oi)
    (hs:Region.noSelect ops=true) (hf:Region.free md ops listed i=true) (hr:(Region.ready md ops listed).contains i=true) (hld:(Ws.all fun L=>leads md ops i 40 L)=true) (hiw:Ws.contains i=false) (hsh:shutB md ops listed=true)
    (hQ:∀c a w,Q (.panic c) (a.put oi.dst v) w→Q (.panic c) a w) (hy:YieldsIf P ops S oi v a) (hS:S w)
    (h:wpAnyW P md ops Q S Ws fuel (listed.setIfInBounds i true) (a.put oi.dst v) w):wpAnyW P md ops Q S Ws (fuel+1) listed a w:=
  wpAnyW_first hi (Region.noSelect_spec hs) hQ hld hiw fuel listed a w (shutL_of hsh) (Region.free_spec hi hf) (by simpa using hr) hy hS h
theorem wpAnyW_take0 {oi:Oper} {listed:Array Bool} {a:Act} (hi:ops[i]?=some oi)
    (hs:Region.noSelect ops=true) (hf:Region.free md ops listed i=true) (hr:(Region.ready md ops listed).contains i=true) (hiw:Ws.contains i=false)
    (hQ:∀c a w,Q (.panic c) (a.put oi.dst v) w→Q (.panic c) a w) (hy:YieldsIf P ops (fun _=>True) oi v a) (hS:wrote Ws listed=true∨S w)
    (h:wpAnyW P md ops Q S Ws fuel (listed.setIfInBounds i true) (a.put oi.dst v) w):wpAnyW P md ops Q S Ws (fuel+1) listed a w:=
  wpAnyW_pure hi (Region.noSelect_spec hs) hQ hiw fuel listed a w (Region.free_spec hi hf) (by simpa using hr) hy hS h

theorem wpAnyW_one {listed:Array Bool} {a:Act} {o:Oper} (ho:ops[i]?=some o) (hr:Region.ready md ops listed=[i]) (hw:wrote Ws (listed.setIfInBounds i true)=true)
    (h:∀K':Act→World→Prop,Shut (∀a w,wpAnyW P md ops Q S Ws fuel (listed.setIfInBounds i true) a w→K' a w)→if Region.wanted o (yielded ops a.tmps)=true then Oper.wp P o a w K' Q else K' (a.put o.dst undef) w):
    wpAnyW P md ops Q S Ws (fuel+1) listed a w:=by
  refine ⟨fun h0=>?_,fun j hj=>?_⟩
  · rw [hr] at h0
    cases h0
  · rw [hr] at hj
    obtain rfl:j=i:=by simpa using hj
    exact wpOp_step ho (fun K' hK=>h K' (fun a w hW=>hK a w ⟨.inl hw,hW⟩))

theorem wpAnyW_done {listed:Array Bool} {a:Act} (he:Region.ready md ops listed=[]) (h:Q .normal a w):wpAnyW P md ops Q S Ws fuel listed a w:=by
  cases fuel with
  | zero=>exact ⟨he,h⟩
  | succ n=>exact ⟨fun _=>h,by rw [he];simp⟩

theorem wp_region_wrote {id:Nat} {a:Act} (Ws:List Nat) (hm:P.follows .mixedOrders=true) (hS:S w.drew)
    (h:S w.drew→wpAnyW P .any ops Q S Ws ops.size (Array.replicate ops.size false) a w.drew):(Code.region id ops true).wp P Q a w:=
  wp_region_any hm (wpAny_of_wrote _ _ _ _ (h hS))

end
end Go.Proofs.YtabiglnmfdpcfaaGreatDoor
