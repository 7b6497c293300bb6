/- Stores by definition: a node more in a free slot, its sides' counts; what stays. No program in this text. -/
import Derived.Test.YtlclabbnpjobgaaGreatDoorAp06
namespace Go.Proofs.YtlclabbnpjobgaaGreatDoor
variable {P R fr l pend:List Nat}
variable {cs cs':Lz}
variable {d h i k room:Nat}
set_option maxRecDepth 20000
open Go.RowKit
def tkH {α:Type} (cs:List α) (fr:List Nat):Nat:=match fr.getLast? with | some s=>s | none=>cs.length+1
def tkC {α:Type} (cs:List α) (fr:List Nat) (p:α):List α:=match fr.getLast? with | some s=>cs.set (s-1) p | none=>cs++[p]
def Full {α:Type} (room:Nat) (cs:List α) (fr:List Nat):Prop:=fr=[]∧room≤cs.length
def FrOk (cs:Lz) (fr:List Nat):Prop:=∀s∈fr,1≤s∧s≤cs.length∧cc cs (s-1)=0
theorem Zcw (h:Inv room (cs.map pl) fr):FrOk cs fr:=fun s hs=>by
 obtain ⟨h1,h2,h3⟩:=h.free s hs;rw [Zae] at h3;exact ⟨h1,by simpa using h2,h3⟩
theorem Zeo {α:Type} (cs:List α) (fr:List Nat):(∃s fr0,fr=fr0++[s]∧tkH cs fr=s∧(∀p,tkC cs fr p=cs.set (s-1) p))∨(fr=[]∧tkH cs fr=cs.length+1∧∀p,tkC cs fr p=cs++[p]):=by
 rcases List.eq_nil_or_concat fr with e | ⟨fr0,s,e⟩
 ·subst e;exact .inr ⟨rfl,rfl,fun _=>rfl⟩
 ·rw [List.concat_eq_append] at e;subst e;exact .inl ⟨s,fr0,rfl,by simp [tkH],fun p=>by simp [tkC]⟩
structure TkOf (cs:Lz) (i:Nat) (p:Nat×Ce) (cs':Lz):Prop where
 vac:cc cs i=0
 le:i≤cs.length
 len:cs'.length=max cs.length (i+1)
 cc:∀j,cc cs' j=if j=i then p.1 else cc cs j
 ce:∀j,ce cs' j=if j=i then p.2 else ce cs j
 ns:∀j,ns cs' j=ns cs j+con j p
theorem Zgb (h:FrOk cs fr) (p:Nat×Ce):1≤tkH cs fr∧TkOf cs (tkH cs fr-1) p (tkC cs fr p):=by
 rcases Zeo cs fr with ⟨s,fr0,rfl,e1,e2⟩ | ⟨rfl,e1,e2⟩
 ·obtain ⟨h1,h2,h3⟩:=h s (by simp);have hl:s-1<cs.length:=by omega
  rw [e1,e2];refine ⟨h1,h3,by omega,by simp;omega,fun j=>Zem cs _ j p hl,fun j=>Zcm cs _ j p hl,fun j=>?_⟩;have:=Zhw cs j (s-1) p hl;have e0:con j (Go.Proofs.YtlclabbnpjobgaaGreatDoor.cc cs (s-1),Go.Proofs.YtlclabbnpjobgaaGreatDoor.ce cs (s-1))=0:=by simp [con,h3]
  omega
 ·rw [e1,e2];exact ⟨by omega,Yco cs _ (by omega),by omega,by simp,fun j=>Yfm cs j p,fun j=>Yfl cs j p,fun j=>Yee cs j p⟩
theorem TkOf.keep {p:Nat×Ce} (t:TkOf cs i p cs') {h d:Nat} {b:Int} (s:SideOk cs d b h):KeepS cs cs' h:=fun h0=>by
 rcases s with e | ⟨_,h2,_⟩
 ·exact absurd e h0
 ·have hne:h-1≠i:=fun e=>by
   rw [e,t.vac] at h2;omega
  rw [t.cc,t.ce,if_neg hne,if_neg hne];exact ⟨h2,Core.refl _⟩
theorem TkOf.node {p:Nat×Ce} (t:TkOf cs i p cs') {c:Ce} (h:NodeOk cs c):NodeOk cs' c:=by
 rcases h with h | h
 ·exact .inl h
 ·exact .inr (h.keep (t.keep h.sl) (t.keep h.sr))
theorem Zph (h:Wf cs pend) (i:Nat) (hv:cc cs i=0):pend.count (i+1)=0∧(ce cs i).ab=0:=by
 have:=h.le i;omega
theorem Wf.leaf {x:Ce} (h:Wf cs pend) (t:TkOf cs i (1,x) cs') (hx:LeafOk x) (ho:CeOk x) (ha:x.ab=0):Wf cs' pend:=by
 have hc:∀j,con j (1,x)=0:=fun j=>by simp [con,hx.l,hx.r]
 have hp:=Zph h i t.vac;refine ⟨fun j hj=>?_,fun j=>?_,fun j=>?_,fun j=>?_,fun j hj=>?_,h.pos⟩
 ·rw [t.cc] at hj;rw [t.ce];split at hj
  ·simp at hj
  ·next e=>rw [if_neg e];exact h.zero j hj
 ·rw [t.ce];split
  ·exact ho
  ·exact h.ok j
 ·rw [t.ns,hc,t.ce];split
  ·next e=>rw [e,h.ab,hp.2];exact ha.symm
  ·exact h.ab j
 ·rw [t.ce,t.cc];split
  ·next e=>rw [e];simp only;omega
  ·exact h.le j
 ·rw [t.cc] at hj;rw [t.ce];split
  ·exact .inl hx
  ·next e=>
   rw [if_neg e] at hj;exact t.node (h.tr j hj)
theorem Zkc {c:Ce} (h:InnOk cs c) (h0:c.l≠0):c.l≠c.r:=fun e=>by
 have h1:=h.sl;have h2:=h.sr;rw [← e] at h2;rcases h1 with h1 | ⟨_,_,h1,_⟩
 ·exact h0 h1
 ·rcases h2 with h2 | ⟨_,_,h2,_⟩
  ·exact h0 h2
  ·rw [h1] at h2;omega
theorem SideOk.lt {b:Int} (s:SideOk cs d b h):h-1<cs.length∨h=0:=by
 rcases s with e | ⟨_,e,_⟩
 ·exact .inr e
 ·exact .inl (Zaw e)
theorem Wf.inner {x:Ce} (h:Wf cs []) (t:TkOf cs i (1,x) cs') (hx:InnOk cs x) (ho:CeOk x) (ha:x.ab=0) (hl:x.l≠0→0<Go.Proofs.YtlclabbnpjobgaaGreatDoor.own cs [] (x.l-1)) (hr:x.r≠0→0<Go.Proofs.YtlclabbnpjobgaaGreatDoor.own cs [] (x.r-1)):Wf (upA (upA cs' x.l) x.r) []:=by
 have a1:=Zcg cs' x.l;have aa:AbOf cs' (upA (upA cs' x.l) x.r):=a1.trans (Zcg _ _);have bl:x.l-1<cs'.length∨x.l=0:=by
  rcases hx.sl.lt with e | e
  ·exact .inl (by rw [t.len];omega)
  ·exact .inr e
 have br:x.r-1<(upA cs' x.l).length∨x.r=0:=by
  rcases hx.sr.lt with e | e
  ·exact .inl (by rw [a1.len,t.len];omega)
  ·exact .inr e
 have hab:∀j,(ce (upA (upA cs' x.l) x.r) j).ab=(ce cs' j).ab+(if x.l=j+1 then 1 else 0)+(if x.r=j+1 then 1 else 0):=fun j=>by rw [Zez _ _ _ br,Zez _ _ _ bl]
 have hc:∀j,con j (1,x)=(if x.l=j+1 then 1 else 0)+(if x.r=j+1 then 1 else 0):=fun j=>by simp [con]
 have nl:x.l≠i+1:=fun e=>by
  have:=hl (by omega);rw [e,Nat.add_sub_cancel] at this;unfold Go.Proofs.YtlclabbnpjobgaaGreatDoor.own at this;rw [t.vac] at this;omega
 have nr:x.r≠i+1:=fun e=>by
  have:=hr (by omega);rw [e,Nat.add_sub_cancel] at this;unfold Go.Proofs.YtlclabbnpjobgaaGreatDoor.own at this;rw [t.vac] at this;omega
 have hvac:=Zph h i t.vac;have hns:∀j,ns (upA (upA cs' x.l) x.r) j=(ce (upA (upA cs' x.l) x.r) j).ab:=fun j=>by
  rw [aa.ns,t.ns,hab,hc,t.ce]
  by_cases e:j=i
  ·rw [if_pos e,e,h.ab,hvac.2,if_neg nl,if_neg nr];simp only;omega
  ·rw [if_neg e,h.ab];omega
 have hle:∀j,(ce (upA (upA cs' x.l) x.r) j).ab+([]:List Nat).count (j+1)≤cc (upA (upA cs' x.l) x.r) j:=fun j=>by
  rw [hab,aa.cc,t.ce,t.cc,List.count_nil]
  by_cases e:j=i
  ·rw [if_pos e,if_pos e,e,if_neg nl,if_neg nr,ha];simp
  ·rw [if_neg e,if_neg e];have h1:=h.own j;rw [List.count_nil] at h1
   by_cases e1:x.l=j+1
   ·have h2:=hl (by omega);rw [e1,Nat.add_sub_cancel] at h2;have h3:=Zkc hx (by omega);rw [if_pos e1,if_neg (fun e2=>h3 (by omega))];omega
   ·rw [if_neg e1]
    by_cases e2:x.r=j+1
    ·have h2:=hr (by omega);rw [e2,Nat.add_sub_cancel] at h2;rw [if_pos e2];omega
    ·rw [if_neg e2];omega
 have keep2:∀q,KeepS cs cs' q→KeepS cs (upA (upA cs' x.l) x.r) q:=fun q k q0=>by
  obtain ⟨k1,k2⟩:=k q0;exact ⟨by rw [aa.cc];exact k1,k2.trans (aa.core _)⟩
 refine ⟨fun j hj=>?_,fun j=>?_,hns,hle,fun j hj=>?_,fun _ hh=>by cases hh⟩
 ·have h0:=hle j;rw [hj] at h0;rw [aa.cc,t.cc] at hj;split at hj
  ·simp at hj
  ·next e=>
   have hk:=aa.core j;rw [t.ce,if_neg e,h.zero j hj] at hk;rw [hk,show (ce (upA (upA cs' x.l) x.r) j).ab=0 by omega];rfl
 ·refine (aa.core j).ok ?_;rw [t.ce];split
  ·exact ho
  ·exact h.ok j
 ·have hk:=aa.core j;rw [aa.cc,t.cc] at hj;rw [t.ce] at hk
  by_cases e:j=i
  ·rw [if_pos e] at hk;exact .inr ((hx.keep (keep2 _ (t.keep hx.sl)) (keep2 _ (t.keep hx.sr))).core hk)
  ·rw [if_neg e] at hk hj;rcases h.tr j hj with hn | hn
   ·exact .inl (hn.core hk)
   ·exact .inr ((hn.keep (keep2 _ (t.keep hn.sl)) (keep2 _ (t.keep hn.sr))).core hk)
theorem Wf.more (h:Wf cs []) (i:Nat) (hi:0<cc cs i):Wf (cs.set i (cc cs i+1,ce cs i)) []:=h.recount i _ hi (by omega) (by have:=h.le i;omega) (fun _ _=>Nat.le_refl _) (fun _ hh=>by cases hh)
theorem Wf.less (h:Wf cs []) (i:Nat) (hi:0<Go.Proofs.YtlclabbnpjobgaaGreatDoor.own cs [] i):Wf cs [i+1]:=by
 refine ⟨h.zero,h.ok,h.ab,fun j=>?_,h.tr,fun q hq=>by simp at hq;omega⟩;have h1:=h.own j;rw [List.count_nil] at h1;rw [List.count_singleton]
 by_cases e:i=j
 ·subst e;simp only [beq_self_eq_true,if_true];omega
 ·have e2:(i+1 == j+1)=false:=by simp;exact e
  rw [if_neg (by rw [e2];decide)];omega
inductive Tre where
 | emp:Tre
 | lf (k b:Lq):Tre
 | nd (d hl hr:Nat) (l r:Tre):Tre
def Tre.ents:Tre→List Ent
 | .emp=>[]
 | .lf k b=>[(k,b)]
 | .nd _ _ _ l r=>l.ents++r.ents
def Tre.lvs:Nat→Tre→List Nat
 | _,.emp=>[]
 | h,.lf _ _=>[h]
 | _,.nd _ hl hr l r=>l.lvs hl++r.lvs hr
def Tre.num:Tre→Nat
 | .emp=>0
 | .lf _ _=>1
 | .nd _ _ _ l r=>1+(l.num+r.num)
def IsT (cs:Lz):Nat→Tre→Prop
 | h,.emp=>h=0
 | h,.lf k b=>1≤h∧0<cc cs (h-1)∧(ce cs (h-1)).kind=1∧(ce cs (h-1)).key=k∧(ce cs (h-1)).bs=b
 | h,.nd d hl hr l r=>1≤h∧0<cc cs (h-1)∧(ce cs (h-1)).kind=2∧(ce cs (h-1)).dp=d∧(ce cs (h-1)).l=hl∧(ce cs (h-1)).r=hr∧IsT cs hl l∧IsT cs hr r
theorem Zsv {cs:Lz} {pend:List Nat} (w:Wf cs pend):∀(n i:Nat),0<cc cs i→(ce cs i).kind=2→256-(ce cs i).dp≤n→∃T,IsT cs (i+1) T
 | 0,i,hi,hk,hn=>by
  rcases w.tr i hi with h | h
  ·have:=h.kind;omega
  ·have:=h.dp;omega
 | n+1,i,hi,hk,hn=>by
  rcases w.tr i hi with h | h
  ·have:=h.kind;omega
  ·have side:∀b q,SideOk cs (ce cs i).dp b q→∃T,IsT cs q T:=fun b q hq=>by
    rcases hq with rfl | ⟨q1,q2,q3,q4⟩
    ·exact ⟨.emp,rfl⟩
    ·obtain ⟨j,rfl⟩:∃j,q=j+1:=⟨q-1,by omega⟩;rw [Nat.add_sub_cancel] at q2 q3 q4;rcases q4 with q4 | ⟨q4,q5⟩
     ·exact ⟨.lf _ _,by omega,q2,q4,rfl,rfl⟩
     ·exact Zsv w n j q2 q4 (by omega)
   obtain ⟨L,hL⟩:=side _ _ h.sl;obtain ⟨R,hR⟩:=side _ _ h.sr;exact ⟨.nd _ _ _ L R,by omega,hi,hk,rfl,rfl,rfl,hL,hR⟩
theorem Zmv (w:Wf cs pend) (i:Nat) (hi:0<cc cs i):∃T,IsT cs (i+1) T:=by
 rcases w.tr i hi with h | h
 ·exact ⟨.lf _ _,by omega,hi,h.kind,rfl,rfl⟩
 ·exact Zsv w 256 i hi h.kind (by omega)
theorem IsT.one {cs:Lz}:∀ {T U:Tre} {h:Nat},IsT cs h T→IsT cs h U→T=U
 | .emp,.emp,_,_,_=>rfl
 | .emp,.lf _ _,h,a,b=>by have:h=0:=a;have:=b.1;omega
 | .emp,.nd _ _ _ _ _,h,a,b=>by have:h=0:=a;have:=b.1;omega
 | .lf _ _,.emp,h,a,b=>by have:h=0:=b;have:=a.1;omega
 | .nd _ _ _ _ _,.emp,h,a,b=>by have:h=0:=b;have:=a.1;omega
 | .lf _ _,.lf _ _,h,a,b=>by
  obtain ⟨_,_,_,a1,a2⟩:=a;obtain ⟨_,_,_,b1,b2⟩:=b;rw [← a1,← a2,← b1,← b2]
 | .lf _ _,.nd _ _ _ _ _,h,a,b=>by have:=a.2.2.1;have:=b.2.2.1;omega
 | .nd _ _ _ _ _,.lf _ _,h,a,b=>by have:=a.2.2.1;have:=b.2.2.1;omega
 | .nd _ _ _ l r,.nd _ _ _ l' r',h,a,b=>by
  obtain ⟨_,_,_,a1,a2,a3,a4,a5⟩:=a;obtain ⟨_,_,_,b1,b2,b3,b4,b5⟩:=b;subst a1 a2 a3 b1 b2 b3;rw [IsT.one a4 b4,IsT.one a5 b5]
structure TreeOk (cs:Lz) (h:Nat) (T:Tre):Prop where
 sz:(sdC cs h).sz=T.ents.length
 ent:∀e∈T.ents,Key e.1∧e.2.length≤1024∧Bytes e.2
 share:∀d,h≠0→((ce cs (h-1)).kind=2→d≤(ce cs (h-1)).dp)→∀e∈T.ents,∀j,j<d→kb e.1 j=kb (sdC cs h).key j
 dig:∀d,((sdC cs h).kind=2→(sdC cs h).dp=d)→sdD cs h=rt (256-d) d T.ents
 apart:T.ents.Pairwise fun a b=>a.1≠b.1
 keys:(T.lvs h).map (fun q=>(ce cs (q-1)).key)=T.ents.map (·.1)
 lvs:∀q∈T.lvs h,1≤q∧0<cc cs (q-1)
 pos:h≠0→T.ents≠[]
theorem Zes (l:List Ent) (d:Nat) (b:Int) (h:∀e∈l,kbi e.1 d=b):sideOf l d b=l:=by
 unfold sideOf;rw [List.filter_eq_self];intro e he;simp [h e he]
theorem Zdm (l:List Ent) (d:Nat) (b c:Int) (h:∀e∈l,kbi e.1 d=c) (hc:c≠b):sideOf l d b=[]:=by
 unfold sideOf;rw [List.filter_eq_nil_iff];intro e he;simp [h e he,hc]
theorem Zer (l m:List Ent) (d:Nat) (b:Int):sideOf (l++m) d b=sideOf l d b++sideOf m d b:=List.filter_append _ _
theorem Zbb {cs:Lz} {pend:List Nat} (w:Wf cs pend):∀(T:Tre) (h:Nat),IsT cs h T→TreeOk cs h T
 | .emp,h,e=>by
  have e:h=0:=e;subst e;exact ⟨rfl,fun _ h=>(by cases h),fun _ h=>absurd rfl h,fun d _=>(Ygm _ _).symm,List.Pairwise.nil,rfl,fun _ h=>(by cases h),fun h=>absurd rfl h⟩
 | .lf k b,h,⟨h1,h2,h3,h4,h5⟩=>by
  obtain ⟨i,rfl⟩:∃i,h=i+1:=⟨h-1,by omega⟩;rw [Nat.add_sub_cancel] at h2 h3 h4 h5;have hs:sdC cs (i+1)=ce cs i:=rfl;have hd:sdD cs (i+1)=(ce cs i).dig:=rfl;rcases w.tr i h2 with hn | hn
  ·refine ⟨by rw [hs,hn.sz];rfl,fun e he=>?_,fun d _ _ e he j _=>?_,fun d _=>?_,List.pairwise_singleton _ _,?_,fun q hq=>?_,fun _ e=>by cases e⟩
   ·obtain rfl:e=(k,b):=by simpa [Tre.ents] using he
    rw [← h4,← h5];exact ⟨(w.ok i).hk,hn.len,hn.by_⟩
   ·obtain rfl:e=(k,b):=by simpa [Tre.ents] using he
    rw [hs,h4]
   ·rw [hd,hn.dig,h4,h5];exact (Ygl (256-d) d (k,b)).symm
   ·simp [Tre.lvs,Tre.ents,h4]
   ·obtain rfl:q=i+1:=by simpa [Tre.lvs] using hq
    exact ⟨by omega,h2⟩
  ·have:=hn.kind;omega
 | .nd d hl hr L R,h,⟨h1,h2,h3,h4,h5,h6,h7,h8⟩=>by
  obtain ⟨i,rfl⟩:∃i,h=i+1:=⟨h-1,by omega⟩;rw [Nat.add_sub_cancel] at h2 h3 h4 h5 h6;have hs:sdC cs (i+1)=ce cs i:=rfl;have hd:sdD cs (i+1)=(ce cs i).dig:=rfl;have okL:=Zbb w L hl h7;have okR:=Zbb w R hr h8;rcases w.tr i h2 with hn | hn
  ·have:=hn.kind;omega
  have hdp:=hn.dp;have sl:=hn.sl;have sr:=hn.sr;have hsz:=hn.sz;have htwo:=hn.two;have hcom:=hn.com;have hkey:=hn.key;have hdig:=hn.dig;rw [h4] at hdp sl sr hcom hkey;rw [h5] at sl hsz hcom hkey hdig;rw [h6] at sr hsz hcom hkey hdig;have shL:∀e∈L.ents,hl≠0∧∀j,j<d+1→kb e.1 j=kb (sdC cs hl).key j:=fun e he=>by
   by_cases e0:hl=0
   ·subst e0;have:=okL.sz;rw [show (sdC cs 0).sz=0 from rfl] at this;rw [List.eq_nil_of_length_eq_zero this.symm] at he;cases he
   ·refine ⟨e0,okL.share (d+1) e0 (fun k=>?_) e he⟩;rcases sl with e | ⟨_,_,_,e | ⟨_,e⟩⟩
    ·exact absurd e e0
    ·omega
    ·omega
  have shR:∀e∈R.ents,hr≠0∧∀j,j<d+1→kb e.1 j=kb (sdC cs hr).key j:=fun e he=>by
   by_cases e0:hr=0
   ·subst e0;have:=okR.sz;rw [show (sdC cs 0).sz=0 from rfl] at this;rw [List.eq_nil_of_length_eq_zero this.symm] at he;cases he
   ·refine ⟨e0,okR.share (d+1) e0 (fun k=>?_) e he⟩;rcases sr with e | ⟨_,_,_,e | ⟨_,e⟩⟩
    ·exact absurd e e0
    ·omega
    ·omega
  have bL:∀e∈L.ents,kb e.1 d=0:=fun e he=>by
   obtain ⟨e0,sh⟩:=shL e he;rw [sh d (by omega)];rcases sl with e | ⟨_,_,e,_⟩
   ·exact absurd e e0
   ·unfold sdC;rw [if_neg e0];exact e
  have bR:∀e∈R.ents,kb e.1 d=1:=fun e he=>by
   obtain ⟨e0,sh⟩:=shR e he;rw [sh d (by omega)];rcases sr with e | ⟨_,_,e,_⟩
   ·exact absurd e e0
   ·unfold sdC;rw [if_neg e0];exact e
  have hlen:(L.ents++R.ents).length=(ce cs i).sz:=by rw [List.length_append,hsz,okL.sz,okR.sz]
  refine ⟨by rw [hs];exact hlen.symm,fun e he=>?_,fun q _ hq e he j hj=>?_,fun q hq=>?_,?_,?_,fun q hq=>?_,fun _ e=>?_⟩
  ·rcases List.mem_append.1 he with he | he
   ·exact okL.ent e he
   ·exact okR.ent e he
  ·have hj2:j<d:=by
    have:=hq (by rw [Nat.add_sub_cancel];exact h3);rw [Nat.add_sub_cancel,h4] at this;omega
   rw [hs,hkey.2 j (by omega),if_pos hj2];rcases List.mem_append.1 he with he | he
   ·obtain ⟨e0,sh⟩:=shL e he;rw [if_neg e0];exact sh j (by omega)
   ·obtain ⟨e0,sh⟩:=shR e he
    by_cases el:hl=0
    ·rw [if_pos el];exact sh j (by omega)
    ·rw [if_neg el,sh j (by omega)];exact ((hcom el e0).2.2 j (by omega)).symm
  ·have hqd:d=q:=by rw [← h4];exact hq h3
   subst hqd;rw [hd,hdig];obtain ⟨n,hn2⟩:∃n,256-d=n+1:=⟨255-d,by omega⟩;show _=rt (256-d) d (L.ents++R.ents);rw [hn2,Ydl n d _ (by rw [hlen];exact htwo),Zer,Zer];rw [Zes L.ents d 0 (fun e he=>by rw [Zei _ _ hdp];exact bL e he),Zdm R.ents d 0 1 (fun e he=>by rw [Zei _ _ hdp];exact bR e he) (by omega)];rw [Zdm L.ents d 1 0 (fun e he=>by rw [Zei _ _ hdp];exact bL e he) (by omega),Zes R.ents d 1 (fun e he=>by rw [Zei _ _ hdp];exact bR e he)];rw [List.append_nil,List.nil_append];have e1:=okL.dig (d+1) (fun k=>by
    unfold sdC at k ⊢;rcases sl with e | ⟨e0,_,_,e | ⟨_,e⟩⟩
    ·rw [if_pos e] at k;exact absurd k (by decide)
    ·rw [if_neg (by omega)] at k;omega
    ·rw [if_neg (by omega)];exact e)
   have e2:=okR.dig (d+1) (fun k=>by
    unfold sdC at k ⊢;rcases sr with e | ⟨e0,_,_,e | ⟨_,e⟩⟩
    ·rw [if_pos e] at k;exact absurd k (by decide)
    ·rw [if_neg (by omega)] at k;omega
    ·rw [if_neg (by omega)];exact e)
   rw [show 256-(d+1)=n by omega] at e1 e2;rw [e1,e2]
  ·show (L.ents++R.ents).Pairwise _;rw [List.pairwise_append];refine ⟨okL.apart,okR.apart,fun a ha b hb e=>?_⟩;have h1:=bL a ha;have h2:=bR b hb;rw [e,h2] at h1;omega
  ·show (L.lvs hl++R.lvs hr).map _=(L.ents++R.ents).map _;rw [List.map_append,List.map_append,okL.keys,okR.keys]
  ·rcases List.mem_append.1 hq with hq | hq
   ·exact okL.lvs q hq
   ·exact okR.lvs q hq
  ·have:(L.ents++R.ents).length=0:=by rw [show L.ents++R.ents=[] from e];rfl
   omega
theorem Zkj:∀(n:Nat) (l:List Nat),l.Nodup→(∀q∈l,q<n)→l.length≤n
 | 0,l,_,h=>by
  match l,h with
  | [],_=>simp
  | q::r,h=>exact absurd (h q (by simp)) (by omega)
 | n+1,l,hd,h=>by
  have h1:=Zkj n (l.erase n) (hd.erase n) (fun q hq=>by
   have h2:=h q (List.mem_of_mem_erase hq);have h3:q≠n:=(List.Nodup.mem_erase_iff hd).1 hq |>.1
   omega)
  have h4:=List.length_erase (a:=n) (l:=l);split at h4 <;> omega
theorem TreeOk.few {T:Tre} (t:TreeOk cs h T):T.ents.length≤cs.length:=by
 have hl:(T.lvs h).length=T.ents.length:=by
  have:=congrArg List.length t.keys;simpa using this
 have hn:(T.lvs h).Nodup:=by
  have h1:(T.ents.map (·.1)).Nodup:=List.pairwise_map.2 t.apart;rw [← t.keys] at h1;unfold List.Nodup at h1;rw [List.pairwise_map] at h1;exact h1.imp (fun hne e=>hne (by rw [e]))
 have:=Zkj cs.length ((T.lvs h).map (· - 1)) (List.pairwise_map.2 (by
  refine List.Pairwise.imp_of_mem ?_ hn;intro a b ha hb hne e;have h1:=(t.lvs a ha).1;have h2:=(t.lvs b hb).1;exact hne (by omega))) (fun q hq=>by
   obtain ⟨a,ha,rfl⟩:=List.mem_map.1 hq;exact Zaw (t.lvs a ha).2)
 rw [List.length_map] at this;omega
theorem Wf.size_le (w:Wf cs pend) (h:Nat) (hh:h=0∨0<cc cs (h-1)):(sdC cs h).sz≤cs.length:=by
 by_cases e:h=0
 ·subst e;show 0≤_;omega
 ·obtain ⟨i,rfl⟩:∃i,h=i+1:=⟨h-1,by omega⟩;rw [Nat.add_sub_cancel] at hh;obtain ⟨T,hT⟩:=Zmv w i (by omega);have t:=Zbb w T _ hT;rw [t.sz];exact t.few
def stp12 (l:List Nat) (h:Nat):List Nat:=if h=0∨h∈l then l else l++[h]
def rch (P:List Nat):List Nat:=P.foldl stp12 []
theorem Zkg (P:List Nat) (h:Nat):rch (P++[h])=if h=0∨h∈rch P then rch P else rch P++[h]:=by
 unfold rch;rw [List.foldl_append];rfl
theorem Ztf (l:List Nat) (h x:Nat):x∈stp12 l h↔x∈l∨(x≠0∧x=h):=by
 unfold stp12;split
 ·next e=>
  constructor
  ·exact .inl
  ·rintro (q | ⟨q,rfl⟩)
   ·exact q
   ·rcases e with e | e
    ·exact absurd e q
    ·exact e
 ·next e=>
  rw [List.mem_append,List.mem_singleton];constructor
  ·rintro (q | rfl)
   ·exact .inl q
   ·exact .inr ⟨fun q=>e (.inl q),rfl⟩
  ·rintro (q | ⟨_,q⟩)
   ·exact .inl q
   ·exact .inr q
theorem Zpc:∀(P l:List Nat) (x:Nat),x∈P.foldl stp12 l↔x∈l∨(x≠0∧x∈P)
 | [],l,x=>by simp
 | h::P,l,x=>by
  rw [List.foldl_cons,Zpc P,Ztf];simp only [List.mem_cons];constructor
  ·rintro ((q | ⟨q,r⟩) | ⟨q,r⟩)
   ·exact .inl q
   ·exact .inr ⟨q,.inl r⟩
   ·exact .inr ⟨q,.inr r⟩
  ·rintro (q | ⟨q,r | r⟩)
   ·exact .inl (.inl q)
   ·exact .inl (.inr ⟨q,r⟩)
   ·exact .inr ⟨q,r⟩
theorem Zdn (P:List Nat) (x:Nat):x∈rch P↔x≠0∧x∈P:=by
 unfold rch;rw [Zpc];simp
theorem Zmz (h:Nat) (hl:l.Nodup):(stp12 l h).Nodup:=by
 unfold stp12;split
 ·exact hl
 ·next e=>
  rw [List.nodup_append];refine ⟨hl,by simp,fun a ha b hb=>?_⟩;simp only [List.mem_singleton] at hb;rintro rfl;exact e (.inr (hb ▸ ha))
theorem Zje:∀(P l:List Nat),l.Nodup→(P.foldl stp12 l).Nodup
 | [],_,h=>h
 | x::P,_,h=>Zje P _ (Zmz x h)
theorem Zdh (P:List Nat):(rch P).Nodup:=Zje P [] List.nodup_nil
theorem Zte (l:List Nat) (h:Nat):l <+:stp12 l h:=by
 unfold stp12;split
 ·exact List.prefix_refl l
 ·exact List.prefix_append l [h]
theorem Zpb:∀(P l:List Nat),l <+:P.foldl stp12 l
 | [],l=>List.prefix_refl l
 | x::P,l=>(Zte l x).trans (Zpb P _)
theorem Ydw (P Q:List Nat):rch P <+:rch (P++Q):=by
 unfold rch;rw [List.foldl_append];exact Zpb Q _
def wnt (P:List Nat) (x:Int):Nat:=if x≤0 then 0 else P.count x.toNat
theorem Zjq (P:List Nat) (h:Nat) (h0:h≠0):wnt P (h:Int)=P.count h:=by
 unfold wnt;rw [if_neg (by omega)];simp
theorem Zmt:wnt []=fun _=>0:=by
 funext x
 simp [wnt]
theorem Yfx (P:List Nat) (x:Int):wnt P x≤P.length:=by
 unfold wnt;split
 ·omega
 ·exact List.count_le_length
theorem Zoq (P:List Nat) (h:Nat) (h0:h≠0):(fun y=>if y=(h:Int) then wnt P (h:Int)+1 else wnt P y)=wnt (P++[h]):=by
 funext y
 by_cases e:y=(h:Int)
 ·subst e;rw [if_pos rfl,Zjq _ _ h0,Zjq _ _ h0,List.count_append];simp
 ·rw [if_neg e];unfold wnt;split
  ·rfl
  ·next e2=>
   rw [List.count_append,List.count_eq_zero_of_not_mem (l:=[h])]
   ·rfl
   ·simp only [List.mem_singleton];omega
theorem Zsl (P:List Nat):wnt (P++[0])=wnt P:=by
 funext y
 unfold wnt;split
 ·rfl
 ·next e2=>
  rw [List.count_append,List.count_eq_zero_of_not_mem (l:=[0])]
  ·rfl
  ·simp only [List.mem_singleton];omega
theorem Zut (P:List Nat):rch (P++[0])=rch P:=by rw [Zkg,if_pos (.inl rfl)]
theorem Zga (P:List Nat) (h:Nat) (h0:h≠0):wnt P (h:Int)=0↔h ∉ rch P:=by
 rw [Zjq P h h0,List.count_eq_zero,Zdn];exact ⟨fun e q=>e q.2,fun e q=>e ⟨h0,q⟩⟩
def sdH (cs:Lz) (h:Nat):List Nat:=[(ce cs (h-1)).l,(ce cs (h-1)).r]
inductive Rch (cs:Lz) (R:List Nat):Nat→Prop
 | top {h:Nat}:h∈R→h≠0→Rch cs R h
 | side {h q:Nat}:Rch cs R h→q∈sdH cs h→q≠0→Rch cs R q
structure Lk (cs:Lz) (R P:List Nat) (k:Nat):Prop where
 eq:P=R++((rch P).take k).flatMap (sdH cs)
 rc:∀x∈P,x≠0→Rch cs R x
 le:k≤(rch P).length
theorem Lk.start (cs:Lz) (R:List Nat):Lk cs R R 0:=⟨by simp,fun x hx h0=>.top hx h0,Nat.zero_le _⟩
theorem Lk.step (h:Lk cs R P k) (hk:k<(rch P).length):Lk cs R (P++[(ce cs ((rch P)[k]-1)).l]++[(ce cs ((rch P)[k]-1)).r]) (k+1):=by
 have hm:(rch P)[k]∈rch P:=List.getElem_mem hk;have hr:Rch cs R (rch P)[k]:=h.rc _ ((Zdn P _).1 hm).2 ((Zdn P _).1 hm).1;have pre:=Ydw P (sdH cs (rch P)[k]);have e2:P++[(ce cs ((rch P)[k]-1)).l]++[(ce cs ((rch P)[k]-1)).r]=P++sdH cs (rch P)[k]:=by simp [sdH]
 rw [e2];obtain ⟨t,ht⟩:=pre;refine ⟨?_,fun x hx h0=>?_,?_⟩
 ·have e3:(rch (P++sdH cs (rch P)[k])).take (k+1)=(rch P).take k++[(rch P)[k]]:=by
   rw [← ht,List.take_append_of_le_length (by omega),List.take_succ_eq_append_getElem hk]
  rw [e3,List.flatMap_append,← List.append_assoc,← h.eq];simp
 ·rcases List.mem_append.1 hx with q | q
  ·exact h.rc x q h0
  ·exact .side hr q h0
 ·rw [← ht,List.length_append];omega
theorem Lk.len (h:Lk cs R P k):P.length=R.length+2 * k:=by
 have e:∀l:List Nat,(l.flatMap (sdH cs)).length=2 * l.length:=fun l=>by
  induction l with
  | nil=>rfl
  | cons a l ih=>rw [List.flatMap_cons,List.length_append,ih,List.length_cons];simp [sdH];omega
 have:=congrArg List.length h.eq;rw [List.length_append,e,List.length_take,Nat.min_eq_left h.le] at this;exact this
structure RdA (cs:Lz) (R P:List Nat):Prop where
 eq:P=R++(rch P).flatMap (sdH cs)
 rc:∀x∈P,x≠0→Rch cs R x
theorem Lk.fin (h:Lk cs R P k) (hk:(rch P).length≤k):RdA cs R P:=⟨by have:=h.eq;rwa [List.take_of_length_le hk] at this,h.rc⟩
theorem RdA.mem (h:RdA cs R P) (x:Nat):x∈rch P↔Rch cs R x:=by
 constructor
 ·intro q;have:=(Zdn P x).1 q;exact h.rc x this.2 this.1
 ·intro q;induction q with
  | top hm h0=>
   rw [Zdn,h.eq];exact ⟨h0,List.mem_append.2 (.inl hm)⟩
  | @side a q _ hq h0 ih=>
   rw [Zdn,h.eq];exact ⟨h0,List.mem_append.2 (.inr (List.mem_flatMap.2 ⟨a,ih,hq⟩))⟩
theorem Rch.live (W:Wf cs []) (hR:∀h∈R,h≠0→0<cc cs (h-1)) {x:Nat} (h:Rch cs R x):x≠0∧0<cc cs (x-1):=by
 induction h with
 | top hm h0=>exact ⟨h0,hR _ hm h0⟩
 | @side a q _ hq h0 ih=>
  refine ⟨h0,Wf.sides W.ab W.le (a-1) ih.2 q ?_ h0⟩;simpa [sdH] using hq
theorem Zhu (W:Wf cs []) (hR:∀h∈R,h≠0→0<cc cs (h-1)) (rc:∀x∈P,x≠0→Rch cs R x):(rch P).length≤cs.length+1:=Zkj _ _ (Zdh P) (fun q hq=>by
 have h1:=(Zdn P q).1 hq;have:=Zaw ((rc q h1.2 h1.1).live W hR).2;omega)
theorem RdA.count (h:RdA cs R P) (x:Nat):P.count x=R.count x+((rch P).map fun y=>(sdH cs y).count x).sum:=by
 have:=congrArg (List.count x) h.eq;rw [List.count_append,List.count_flatMap] at this;exact this
def Tre.hs (K:Lq):Nat→Tre→List Nat
 | _,.emp=>[]
 | _,.lf _ _=>[]
 | h,.nd d hl hr l r=>h::(if kb K d=1 then r.hs K hr else l.hs K hl)
def Tre.fin (K:Lq):Nat→Tre→Nat
 | h,.emp=>h
 | h,.lf _ _=>h
 | _,.nd d hl hr l r=>if kb K d=1 then r.fin K hr else l.fin K hl
def Tre.oth (K:Lq):Tre→List Nat
 | .emp=>[]
 | .lf _ _=>[]
 | .nd d hl hr l r=>if kb K d=1 then hl::r.oth K else hr::l.oth K
def Tre.efin (K:Lq):Tre→List Ent
 | .emp=>[]
 | .lf k b=>[(k,b)]
 | .nd d _ _ l r=>if kb K d=1 then r.efin K else l.efin K
theorem Tre.hs_oth (K:Lq):∀(T:Tre) (h:Nat),(T.hs K h).length=(T.oth K).length
 | .emp,_=>rfl
 | .lf _ _,_=>rfl
 | .nd d hl hr l r,h=>by
  have h1:=Tre.hs_oth K l hl;have h2:=Tre.hs_oth K r hr;simp only [Tre.hs,Tre.oth];split <;> simp [h1,h2]
structure NdOk (cs:Lz) (d hl hr:Nat) (L R:Tre):Prop where
 dp:d<256
 bL:∀e∈L.ents,kb e.1 d=0
 bR:∀e∈R.ents,kb e.1 d=1
 two:2≤(L.ents++R.ents).length
 kl:(sdC cs hl).kind=2→(sdC cs hl).dp=d+1
 kr:(sdC cs hr).kind=2→(sdC cs hr).dp=d+1
theorem Zit (w:Wf cs pend) {d hl hr h:Nat} {L R:Tre} (hT:IsT cs h (.nd d hl hr L R)):NdOk cs d hl hr L R:=by
 obtain ⟨h1,h2,h3,h4,h5,h6,h7,h8⟩:=hT;obtain ⟨i,rfl⟩:∃i,h=i+1:=⟨h-1,by omega⟩;rw [Nat.add_sub_cancel] at h2 h3 h4 h5 h6;have okL:=Zbb w L hl h7;have okR:=Zbb w R hr h8;rcases w.tr i h2 with hn | hn
 ·have:=hn.kind;omega
 have hdp:=hn.dp;have sl:=hn.sl;have sr:=hn.sr;have hsz:=hn.sz;have htwo:=hn.two;rw [h4] at hdp sl sr;rw [h5] at sl hsz;rw [h6] at sr hsz;have side:∀(q:Nat) (b:Int) (U:Tre),TreeOk cs q U→SideOk cs d b q→(∀e∈U.ents,kb e.1 d=b)∧((sdC cs q).kind=2→(sdC cs q).dp=d+1):=fun q b U ok s=>by
  rcases s with rfl | ⟨q1,q2,q3,q4⟩
  ·refine ⟨fun e he=>?_,fun k=>absurd k (by show ¬zc.kind=2;decide)⟩;have:=ok.sz;rw [show (sdC cs 0).sz=0 from rfl] at this;rw [List.eq_nil_of_length_eq_zero this.symm] at he;cases he
  ·have es:sdC cs q=ce cs (q-1):=if_neg (by omega);refine ⟨fun e he=>?_,fun k=>?_⟩
   ·rw [ok.share (d+1) (by omega) (fun k=>by rcases q4 with q4 | ⟨_,q4⟩ <;> omega) e he d (by omega),es];exact q3
   ·rw [es] at k ⊢;rcases q4 with q4 | ⟨_,q4⟩
    ·omega
    ·exact q4
 obtain ⟨a1,a2⟩:=side hl 0 L okL sl;obtain ⟨b1,b2⟩:=side hr 1 R okR sr;exact ⟨hdp,a1,b1,by rw [List.length_append,← okL.sz,← okR.sz,← hsz];exact htwo,a2,b2⟩
theorem NdOk.side0 {hl hr:Nat} {L R:Tre} (n:NdOk cs d hl hr L R):sideOf (L.ents++R.ents) d 0=L.ents:=by
 rw [Zer,Zes L.ents d 0 (fun e he=>by rw [Zei _ _ n.dp];exact n.bL e he),Zdm R.ents d 0 1 (fun e he=>by rw [Zei _ _ n.dp];exact n.bR e he) (by omega),List.append_nil]
theorem NdOk.side1 {hl hr:Nat} {L R:Tre} (n:NdOk cs d hl hr L R):sideOf (L.ents++R.ents) d 1=R.ents:=by
 rw [Zer,Zdm L.ents d 1 0 (fun e he=>by rw [Zei _ _ n.dp];exact n.bL e he) (by omega),Zes R.ents d 1 (fun e he=>by rw [Zei _ _ n.dp];exact n.bR e he),List.nil_append]
theorem Zts (n d:Nat) (l:List Ent) (K:Lq) (h:l.length≤1):sds n d l K=[]∧rst n d l K=l:=by
 cases n with
 | zero=>exact ⟨rfl,rfl⟩
 | succ n=>exact ⟨by rw [sds,if_pos h],by rw [rst,if_pos h]⟩
theorem Zcr {cs:Lz} {pend:List Nat} (w:Wf cs pend) (K:Lq):∀(T:Tre) (h d:Nat),IsT cs h T→((sdC cs h).kind=2→(sdC cs h).dp=d)→d≤256→(T.oth K).map (sdD cs)=sds (256-d) d T.ents K∧T.efin K=rst (256-d) d T.ents K∧(T.oth K).length≤256-d
 | .emp,h,d,_,_,_=>by
  obtain ⟨e1,e2⟩:=Zts (256-d) d Tre.emp.ents K (by simp [Tre.ents]);rw [e1,e2];exact ⟨rfl,rfl,Nat.zero_le _⟩
 | .lf k b,h,d,_,_,_=>by
  obtain ⟨e1,e2⟩:=Zts (256-d) d (Tre.lf k b).ents K (by simp [Tre.ents]);rw [e1,e2];exact ⟨rfl,rfl,Nat.zero_le _⟩
 | .nd d hl hr L R,h,d',hT,hd,_=>by
  have n:=Zit w hT;obtain ⟨h1,h2,h3,h4,h5,h6,h7,h8⟩:=hT;have es:sdC cs h=ce cs (h-1):=if_neg (by omega);obtain rfl:d=d':=by
   rw [es] at hd;rw [← h4];exact hd h3
  have okL:=Zbb w L hl h7;have okR:=Zbb w R hr h8;have hdp:=n.dp;obtain ⟨l1,l2,l3⟩:=Zcr w K L hl (d+1) h7 n.kl (by omega);obtain ⟨r1,r2,r3⟩:=Zcr w K R hr (d+1) h8 n.kr (by omega);have dl:=okL.dig (d+1) n.kl;have dr:=okR.dig (d+1) n.kr;obtain ⟨m,hm⟩:∃m,256-d=m+1:=⟨255-d,by omega⟩;have hm2:256-(d+1)=m:=by omega
  rw [hm2] at l1 l2 l3 r1 r2 r3 dl dr;have htwo:=n.two;rw [hm];show (Tre.oth K (.nd d hl hr L R)).map (sdD cs)=sds (m+1) d (L.ents++R.ents) K∧Tre.efin K (.nd d hl hr L R)=rst (m+1) d (L.ents++R.ents) K∧(Tre.oth K (.nd d hl hr L R)).length≤m+1;rw [sds,rst,if_neg (by omega),if_neg (by omega)];rcases Zfp K d with q | q
  ·rw [q,show (1:Int)-0=1 from rfl,n.side0,n.side1];simp only [Tre.oth,Tre.efin,q];refine ⟨?_,l2,?_⟩
   ·simp only [show ¬((0:Int)=1) by omega,if_false,List.map_cons];rw [l1,dr]
   ·simp only [show ¬((0:Int)=1) by omega,if_false,List.length_cons];omega
  ·rw [q,show (1:Int)-1=0 from rfl,n.side0,n.side1];simp only [Tre.oth,Tre.efin,q];refine ⟨?_,r2,?_⟩
   ·simp only [if_true,List.map_cons];rw [r1,dl]
   ·simp only [if_true,List.length_cons];omega
theorem Zej {cs:Lz} (K:Lq):∀(T:Tre) (h:Nat),IsT cs h T→(T.fin K h=0∧T.efin K=[])∨∃k b,T.efin K=[(k,b)]∧1≤T.fin K h∧0<cc cs (T.fin K h-1)∧(ce cs (T.fin K h-1)).kind=1∧(ce cs (T.fin K h-1)).key=k∧(ce cs (T.fin K h-1)).bs=b
 | .emp,h,e=>.inl ⟨e,rfl⟩
 | .lf k b,h,⟨h1,h2,h3,h4,h5⟩=>.inr ⟨k,b,rfl,h1,h2,h3,h4,h5⟩
 | .nd d hl hr L R,h,⟨_,_,_,_,_,_,h7,h8⟩=>by
  have a:=Zej K L hl h7;have b:=Zej K R hr h8;simp only [Tre.fin,Tre.efin]
  by_cases q:kb K d=1
  ·simp only [q,if_true];exact b
  ·simp only [q,if_false];exact a
theorem Zds (K:Lq):∀(T:Tre),∀e∈T.efin K,e∈T.ents
 | .emp,e,he=>by cases he
 | .lf k b,e,he=>he
 | .nd d hl hr L R,e,he=>by
  simp only [Tre.efin] at he;split at he
  ·exact List.mem_append_right _ (Zds K R e he)
  ·exact List.mem_append_left _ (Zds K L e he)
end Go.Proofs.YtlclabbnpjobgaaGreatDoor
