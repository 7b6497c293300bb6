/- Stores by definition: a node more in a free slot, its sides' counts; what stays. No program in this text. -/
import Derived.Test.YtdjpigfibafokaaGreatDoorDz01
import Derived.Test.YtdjpigfibafokaaGreatDoorDz06
import Derived.Test.YtdjpigfibafokaaGreatDoorDz02
namespace Go.Proofs.YtdjpigfibafokaaGreatDoor
variable {S fr pend:List Nat}
variable {c d g h i n room:Nat}
variable {cs cs':Lz}
variable {vf vf' vp vp':Value}
variable {w w':World}
set_option maxHeartbeats 1000000
set_option maxRecDepth 20000
open Go.RowKit

def tkH {α:Type} (cs:List α) (fr:List Nat):Nat:=match fr.getLast? with | some s=>s | none=>cs.length+1
def tkC {α:Type} (cs:List α) (fr:List Nat) (p:α):List α:=match fr.getLast? with | some s=>cs.set (s-1) p | none=>cs++[p]
def Full {α:Type} (room:Nat) (cs:List α) (fr:List Nat):Prop:=fr=[]∧room≤cs.length

def FrOk (cs:Lz) (fr:List Nat):Prop:=∀s∈fr,1≤s∧s≤cs.length∧cc cs (s-1)=0
theorem frOk_inv (h:Inv room (cs.map pl) fr):FrOk cs fr:=fun s hs=>by
  obtain ⟨h1,h2,h3⟩:=h.free s hs;rw [cnt_pl] at h3;exact ⟨h1,by simpa using h2,h3⟩

theorem tk_cases {α:Type} (cs:List α) (fr:List Nat):(∃s fr0,fr=fr0++[s]∧tkH cs fr=s∧(∀p,tkC cs fr p=cs.set (s-1) p))∨(fr=[]∧tkH cs fr=cs.length+1∧∀p,tkC cs fr p=cs++[p]):=by
  rcases List.eq_nil_or_concat fr with e | ⟨fr0,s,e⟩
  · subst e
    exact .inr ⟨rfl,rfl,fun _=>rfl⟩
  · rw [List.concat_eq_append] at e
    subst e;exact .inl ⟨s,fr0,rfl,by simp [tkH],fun p=>by simp [tkC]⟩

structure TkOf (cs:Lz) (i:Nat) (p:Nat×Ce) (cs':Lz):Prop where
  vac:cc cs i=0
  le:i≤cs.length
  len:cs'.length=max cs.length (i+1)
  cc:∀j,cc cs' j=if j=i then p.1 else cc cs j
  ce:∀j,ce cs' j=if j=i then p.2 else ce cs j
  ns:∀j,ns cs' j=ns cs j+con j p

theorem tk_of (h:FrOk cs fr) (p:Nat×Ce):1≤tkH cs fr∧TkOf cs (tkH cs fr-1) p (tkC cs fr p):=by
  rcases tk_cases cs fr with ⟨s,fr0,rfl,e1,e2⟩ | ⟨rfl,e1,e2⟩
  · obtain ⟨h1,h2,h3⟩:=h s (by simp)
    have hl:s-1<cs.length:=by omega
    rw [e1,e2];refine ⟨h1,h3,by omega,by simp;omega,fun j=>cc_set cs _ j p hl,fun j=>ce_set cs _ j p hl,fun j=>?_⟩;have:=ns_set cs j (s-1) p hl;have e0:con j (Go.Proofs.YtdjpigfibafokaaGreatDoor.cc cs (s-1),Go.Proofs.YtdjpigfibafokaaGreatDoor.ce cs (s-1))=0:=by simp [con,h3]
    omega
  · rw [e1,e2]
    exact ⟨by omega,cc_out cs _ (by omega),by omega,by simp,fun j=>cc_snoc cs j p,fun j=>ce_snoc cs j p,fun j=>ns_snoc cs j p⟩

theorem TkOf.keep {p:Nat×Ce} (t:TkOf cs i p cs') {h d:Nat} {b:Int} (s:SideOk cs d b h):KeepS cs cs' h:=fun h0=>by
  rcases s with e | ⟨_,h2,_⟩
  · exact absurd e h0
  · have hne:h-1≠i:=fun e=>by
      rw [e,t.vac] at h2;omega
    rw [t.cc,t.ce,if_neg hne,if_neg hne];exact ⟨h2,Core.refl _⟩
theorem TkOf.node {p:Nat×Ce} (t:TkOf cs i p cs') {c:Ce} (h:NodeOk cs c):NodeOk cs' c:=by
  rcases h with h | h
  · exact .inl h
  · exact .inr (h.keep (t.keep h.sl) (t.keep h.sr))

theorem pend_vac (h:Wf cs pend) (i:Nat) (hv:cc cs i=0):pend.count (i+1)=0∧(ce cs i).ab=0:=by
  have:=h.le i;omega

theorem Wf.leaf {x:Ce} (h:Wf cs pend) (t:TkOf cs i (1,x) cs') (hx:LeafOk x) (ho:CeOk x) (ha:x.ab=0):Wf cs' pend:=by
  have hc:∀j,con j (1,x)=0:=fun j=>by simp [con,hx.l,hx.r]
  have hp:=pend_vac h i t.vac;refine ⟨fun j hj=>?_,fun j=>?_,fun j=>?_,fun j=>?_,fun j hj=>?_,h.pos⟩
  · rw [t.cc] at hj
    rw [t.ce];split at hj
    · simp at hj
    · next e=>rw [if_neg e];exact h.zero j hj
  · rw [t.ce]
    split
    · exact ho
    · exact h.ok j
  · rw [t.ns,hc,t.ce]
    split
    · next e=>rw [e,h.ab,hp.2];exact ha.symm
    · exact h.ab j
  · rw [t.ce,t.cc]
    split
    · next e=>rw [e];simp only;omega
    · exact h.le j
  · rw [t.cc] at hj
    rw [t.ce];split
    · exact .inl hx
    · next e=>
      rw [if_neg e] at hj;exact t.node (h.tr j hj)

theorem sides_ne {c:Ce} (h:InnOk cs c) (h0:c.l≠0):c.l≠c.r:=fun e=>by
  have h1:=h.sl;have h2:=h.sr;rw [← e] at h2;rcases h1 with h1 | ⟨_,_,h1,_⟩
  · exact h0 h1
  · rcases h2 with h2 | ⟨_,_,h2,_⟩
    · exact h0 h2
    · rw [h1] at h2
      omega

theorem SideOk.lt {b:Int} (s:SideOk cs d b h):h-1<cs.length∨h=0:=by
  rcases s with e | ⟨_,e,_⟩
  · exact .inr e
  · exact .inl (cc_lt e)

theorem Wf.inner {x:Ce} (h:Wf cs []) (t:TkOf cs i (1,x) cs') (hx:InnOk cs x) (ho:CeOk x) (ha:x.ab=0) (hl:x.l≠0→0<Go.Proofs.YtdjpigfibafokaaGreatDoor.own cs [] (x.l-1)) (hr:x.r≠0→0<Go.Proofs.YtdjpigfibafokaaGreatDoor.own cs [] (x.r-1)):Wf (upA (upA cs' x.l) x.r) []:=by
  have a1:=upA_of cs' x.l;have aa:AbOf cs' (upA (upA cs' x.l) x.r):=a1.trans (upA_of _ _);have bl:x.l-1<cs'.length∨x.l=0:=by
    rcases hx.sl.lt with e | e
    · exact .inl (by rw [t.len];omega)
    · exact .inr e
  have br:x.r-1<(upA cs' x.l).length∨x.r=0:=by
    rcases hx.sr.lt with e | e
    · exact .inl (by rw [a1.len,t.len];omega)
    · exact .inr e
  have hab:∀j,(ce (upA (upA cs' x.l) x.r) j).ab=(ce cs' j).ab+(if x.l=j+1 then 1 else 0)+(if x.r=j+1 then 1 else 0):=fun j=>by rw [upA_ab _ _ _ br,upA_ab _ _ _ bl]
  have hc:∀j,con j (1,x)=(if x.l=j+1 then 1 else 0)+(if x.r=j+1 then 1 else 0):=fun j=>by simp [con]
  have nl:x.l≠i+1:=fun e=>by
    have:=hl (by omega);rw [e,Nat.add_sub_cancel] at this;unfold Go.Proofs.YtdjpigfibafokaaGreatDoor.own at this;rw [t.vac] at this;omega
  have nr:x.r≠i+1:=fun e=>by
    have:=hr (by omega);rw [e,Nat.add_sub_cancel] at this;unfold Go.Proofs.YtdjpigfibafokaaGreatDoor.own at this;rw [t.vac] at this;omega
  have hvac:=pend_vac h i t.vac;have hns:∀j,ns (upA (upA cs' x.l) x.r) j=(ce (upA (upA cs' x.l) x.r) j).ab:=fun j=>by
    rw [aa.ns,t.ns,hab,hc,t.ce]
    by_cases e:j=i
    · rw [if_pos e,e,h.ab,hvac.2,if_neg nl,if_neg nr]
      simp only;omega
    · rw [if_neg e,h.ab]
      omega
  have hle:∀j,(ce (upA (upA cs' x.l) x.r) j).ab+([]:List Nat).count (j+1)≤cc (upA (upA cs' x.l) x.r) j:=fun j=>by
    rw [hab,aa.cc,t.ce,t.cc,List.count_nil]
    by_cases e:j=i
    · rw [if_pos e,if_pos e,e,if_neg nl,if_neg nr,ha]
      simp
    · rw [if_neg e,if_neg e]
      have h1:=h.own j;rw [List.count_nil] at h1
      by_cases e1:x.l=j+1
      · have h2:=hl (by omega)
        rw [e1,Nat.add_sub_cancel] at h2;have h3:=sides_ne hx (by omega);rw [if_pos e1,if_neg (fun e2=>h3 (by omega))];omega
      · rw [if_neg e1]
        by_cases e2:x.r=j+1
        · have h2:=hr (by omega)
          rw [e2,Nat.add_sub_cancel] at h2;rw [if_pos e2];omega
        · rw [if_neg e2]
          omega
  have keep2:∀q,KeepS cs cs' q→KeepS cs (upA (upA cs' x.l) x.r) q:=fun q k q0=>by
    obtain ⟨k1,k2⟩:=k q0;exact ⟨by rw [aa.cc];exact k1,k2.trans (aa.core _)⟩
  refine ⟨fun j hj=>?_,fun j=>?_,hns,hle,fun j hj=>?_,fun _ hh=>by cases hh⟩
  · have h0:=hle j
    rw [hj] at h0;rw [aa.cc,t.cc] at hj;split at hj
    · simp at hj
    · next e=>
      have hk:=aa.core j;rw [t.ce,if_neg e,h.zero j hj] at hk;rw [hk,show (ce (upA (upA cs' x.l) x.r) j).ab=0 by omega];rfl
  · refine (aa.core j).ok ?_
    rw [t.ce];split
    · exact ho
    · exact h.ok j
  · have hk:=aa.core j
    rw [aa.cc,t.cc] at hj;rw [t.ce] at hk
    by_cases e:j=i
    · rw [if_pos e] at hk
      exact .inr ((hx.keep (keep2 _ (t.keep hx.sl)) (keep2 _ (t.keep hx.sr))).core hk)
    · rw [if_neg e] at hk hj
      rcases h.tr j hj with hn | hn
      · exact .inl (hn.core hk)
      · exact .inr ((hn.keep (keep2 _ (t.keep hn.sl)) (keep2 _ (t.keep hn.sr))).core hk)

theorem Wf.more (h:Wf cs []) (i:Nat) (hi:0<cc cs i):Wf (cs.set i (cc cs i+1,ce cs i)) []:=h.recount i _ hi (by omega) (by have:=h.le i;omega) (fun _ _=>Nat.le_refl _) (fun _ hh=>by cases hh)
theorem Wf.less (h:Wf cs []) (i:Nat) (hi:0<Go.Proofs.YtdjpigfibafokaaGreatDoor.own cs [] i):Wf cs [i+1]:=by
  refine ⟨h.zero,h.ok,h.ab,fun j=>?_,h.tr,fun q hq=>by simp at hq;omega⟩;have h1:=h.own j;rw [List.count_nil] at h1;rw [List.count_singleton]
  by_cases e:i=j
  · subst e
    simp only [beq_self_eq_true,if_true];omega
  · have e2:(i+1 == j+1)=false:=by simp;exact e
    rw [if_neg (by rw [e2];decide)];omega

end Go.Proofs.YtdjpigfibafokaaGreatDoor

namespace Go.Proofs.YtdjpigfibafokaaGreatDoor
variable {S fr pend:List Nat}
variable {c d g h i n room:Nat}
variable {cs cs':Lz}
variable {vf vf' vp vp':Value}
variable {w w':World}
set_option maxHeartbeats 1000000
set_option maxRecDepth 20000
open Go.RowKit

inductive Tre where
  | emp:Tre
  | lf (k b:Lq):Tre
  | nd (d hl hr:Nat) (l r:Tre):Tre

def Tre.ents:Tre→List Ent
  | .emp=>[]
  | .lf k b=>[(k,b)]
  | .nd _ _ _ l r=>l.ents++r.ents
def Tre.lvs:Nat→Tre→List Nat
  | _,.emp=>[]
  | h,.lf _ _=>[h]
  | _,.nd _ hl hr l r=>l.lvs hl++r.lvs hr
def Tre.num:Tre→Nat
  | .emp=>0
  | .lf _ _=>1
  | .nd _ _ _ l r=>1+(l.num+r.num)

def IsT (cs:Lz):Nat→Tre→Prop
  | h,.emp=>h=0
  | h,.lf k b=>1≤h∧0<cc cs (h-1)∧(ce cs (h-1)).kind=1∧(ce cs (h-1)).key=k∧(ce cs (h-1)).bs=b
  | h,.nd d hl hr l r=>1≤h∧0<cc cs (h-1)∧(ce cs (h-1)).kind=2∧(ce cs (h-1)).dp=d∧(ce cs (h-1)).l=hl∧(ce cs (h-1)).r=hr∧IsT cs hl l∧IsT cs hr r

theorem tree_le {cs:Lz} {pend:List Nat} (w:Wf cs pend):∀(n i:Nat),0<cc cs i→(ce cs i).kind=2→256-(ce cs i).dp≤n→∃T,IsT cs (i+1) T
  | 0,i,hi,hk,hn=>by
    rcases w.tr i hi with h | h
    · have:=h.kind;omega
    · have:=h.dp;omega
  | n+1,i,hi,hk,hn=>by
    rcases w.tr i hi with h | h
    · have:=h.kind;omega
    · have side:∀b q,SideOk cs (ce cs i).dp b q→∃T,IsT cs q T:=fun b q hq=>by
        rcases hq with rfl | ⟨q1,q2,q3,q4⟩
        · exact ⟨.emp,rfl⟩
        · obtain ⟨j,rfl⟩:∃j,q=j+1:=⟨q-1,by omega⟩
          rw [Nat.add_sub_cancel] at q2 q3 q4;rcases q4 with q4 | ⟨q4,q5⟩
          · exact ⟨.lf _ _,by omega,q2,q4,rfl,rfl⟩
          · exact tree_le w n j q2 q4 (by omega)
      obtain ⟨L,hL⟩:=side _ _ h.sl;obtain ⟨R,hR⟩:=side _ _ h.sr;exact ⟨.nd _ _ _ L R,by omega,hi,hk,rfl,rfl,rfl,hL,hR⟩

theorem tree_ex (w:Wf cs pend) (i:Nat) (hi:0<cc cs i):∃T,IsT cs (i+1) T:=by
  rcases w.tr i hi with h | h
  · exact ⟨.lf _ _,by omega,hi,h.kind,rfl,rfl⟩
  · exact tree_le w 256 i hi h.kind (by omega)

theorem IsT.one {cs:Lz}:∀ {T U:Tre} {h:Nat},IsT cs h T→IsT cs h U→T=U
  | .emp,.emp,_,_,_=>rfl
  | .emp,.lf _ _,h,a,b=>by have:h=0:=a;have:=b.1;omega
  | .emp,.nd _ _ _ _ _,h,a,b=>by have:h=0:=a;have:=b.1;omega
  | .lf _ _,.emp,h,a,b=>by have:h=0:=b;have:=a.1;omega
  | .nd _ _ _ _ _,.emp,h,a,b=>by have:h=0:=b;have:=a.1;omega
  | .lf _ _,.lf _ _,h,a,b=>by
    obtain ⟨_,_,_,a1,a2⟩:=a;obtain ⟨_,_,_,b1,b2⟩:=b;rw [← a1,← a2,← b1,← b2]
  | .lf _ _,.nd _ _ _ _ _,h,a,b=>by have:=a.2.2.1;have:=b.2.2.1;omega
  | .nd _ _ _ _ _,.lf _ _,h,a,b=>by have:=a.2.2.1;have:=b.2.2.1;omega
  | .nd _ _ _ l r,.nd _ _ _ l' r',h,a,b=>by
    obtain ⟨_,_,_,a1,a2,a3,a4,a5⟩:=a;obtain ⟨_,_,_,b1,b2,b3,b4,b5⟩:=b;subst a1 a2 a3 b1 b2 b3;rw [IsT.one a4 b4,IsT.one a5 b5]

structure TreeOk (cs:Lz) (h:Nat) (T:Tre):Prop where
  sz:(sdC cs h).sz=T.ents.length
  ent:∀e∈T.ents,Key e.1∧e.2.length≤1024∧Bytes e.2
  share:∀d,h≠0→((ce cs (h-1)).kind=2→d≤(ce cs (h-1)).dp)→∀e∈T.ents,∀j,j<d→kb e.1 j=kb (sdC cs h).key j
  dig:∀d,((sdC cs h).kind=2→(sdC cs h).dp=d)→sdD cs h=rt (256-d) d T.ents
  apart:T.ents.Pairwise fun a b=>a.1≠b.1
  keys:(T.lvs h).map (fun q=>(ce cs (q-1)).key)=T.ents.map (·.1)
  lvs:∀q∈T.lvs h,1≤q∧0<cc cs (q-1)
  pos:h≠0→T.ents≠[]

theorem sideOf_all (l:List Ent) (d:Nat) (b:Int) (h:∀e∈l,kbi e.1 d=b):sideOf l d b=l:=by
  unfold sideOf;rw [List.filter_eq_self];intro e he;simp [h e he]
theorem sideOf_none (l:List Ent) (d:Nat) (b c:Int) (h:∀e∈l,kbi e.1 d=c) (hc:c≠b):sideOf l d b=[]:=by
  unfold sideOf;rw [List.filter_eq_nil_iff];intro e he;simp [h e he,hc]
theorem sideOf_app (l m:List Ent) (d:Nat) (b:Int):sideOf (l++m) d b=sideOf l d b++sideOf m d b:=List.filter_append _ _

theorem tree_ok {cs:Lz} {pend:List Nat} (w:Wf cs pend):∀(T:Tre) (h:Nat),IsT cs h T→TreeOk cs h T
  | .emp,h,e=>by
    have e:h=0:=e;subst e;exact ⟨rfl,fun _ h=>(by cases h),fun _ h=>absurd rfl h,fun d _=>(rt_nil _ _).symm,List.Pairwise.nil,rfl,fun _ h=>(by cases h),fun h=>absurd rfl h⟩
  | .lf k b,h,⟨h1,h2,h3,h4,h5⟩=>by
    obtain ⟨i,rfl⟩:∃i,h=i+1:=⟨h-1,by omega⟩;rw [Nat.add_sub_cancel] at h2 h3 h4 h5;have hs:sdC cs (i+1)=ce cs i:=rfl;have hd:sdD cs (i+1)=(ce cs i).dig:=rfl;rcases w.tr i h2 with hn | hn
    · refine ⟨by rw [hs,hn.sz];rfl,fun e he=>?_,fun d _ _ e he j _=>?_,fun d _=>?_,List.pairwise_singleton _ _,?_,fun q hq=>?_,fun _ e=>by cases e⟩
      · obtain rfl:e=(k,b):=by simpa [Tre.ents] using he
        rw [← h4,← h5];exact ⟨(w.ok i).hk,hn.len,hn.by_⟩
      · obtain rfl:e=(k,b):=by simpa [Tre.ents] using he
        rw [hs,h4]
      · rw [hd,hn.dig,h4,h5]
        exact (rt_one (256-d) d (k,b)).symm
      · simp [Tre.lvs,Tre.ents,h4]
      · obtain rfl:q=i+1:=by simpa [Tre.lvs] using hq
        exact ⟨by omega,h2⟩
    · have:=hn.kind;omega
  | .nd d hl hr L R,h,⟨h1,h2,h3,h4,h5,h6,h7,h8⟩=>by
    obtain ⟨i,rfl⟩:∃i,h=i+1:=⟨h-1,by omega⟩;rw [Nat.add_sub_cancel] at h2 h3 h4 h5 h6;have hs:sdC cs (i+1)=ce cs i:=rfl;have hd:sdD cs (i+1)=(ce cs i).dig:=rfl;have okL:=tree_ok w L hl h7;have okR:=tree_ok w R hr h8;rcases w.tr i h2 with hn | hn
    · have:=hn.kind;omega
    have hdp:=hn.dp;have sl:=hn.sl;have sr:=hn.sr;have hsz:=hn.sz;have htwo:=hn.two;have hcom:=hn.com;have hkey:=hn.key;have hdig:=hn.dig;rw [h4] at hdp sl sr hcom hkey;rw [h5] at sl hsz hcom hkey hdig;rw [h6] at sr hsz hcom hkey hdig;have shL:∀e∈L.ents,hl≠0∧∀j,j<d+1→kb e.1 j=kb (sdC cs hl).key j:=fun e he=>by
      by_cases e0:hl=0
      · subst e0
        have:=okL.sz;rw [show (sdC cs 0).sz=0 from rfl] at this;rw [List.eq_nil_of_length_eq_zero this.symm] at he;cases he
      · refine ⟨e0,okL.share (d+1) e0 (fun k=>?_) e he⟩
        rcases sl with e | ⟨_,_,_,e | ⟨_,e⟩⟩
        · exact absurd e e0
        · omega
        · omega
    have shR:∀e∈R.ents,hr≠0∧∀j,j<d+1→kb e.1 j=kb (sdC cs hr).key j:=fun e he=>by
      by_cases e0:hr=0
      · subst e0
        have:=okR.sz;rw [show (sdC cs 0).sz=0 from rfl] at this;rw [List.eq_nil_of_length_eq_zero this.symm] at he;cases he
      · refine ⟨e0,okR.share (d+1) e0 (fun k=>?_) e he⟩
        rcases sr with e | ⟨_,_,_,e | ⟨_,e⟩⟩
        · exact absurd e e0
        · omega
        · omega
    have bL:∀e∈L.ents,kb e.1 d=0:=fun e he=>by
      obtain ⟨e0,sh⟩:=shL e he;rw [sh d (by omega)];rcases sl with e | ⟨_,_,e,_⟩
      · exact absurd e e0
      · unfold sdC
        rw [if_neg e0];exact e
    have bR:∀e∈R.ents,kb e.1 d=1:=fun e he=>by
      obtain ⟨e0,sh⟩:=shR e he;rw [sh d (by omega)];rcases sr with e | ⟨_,_,e,_⟩
      · exact absurd e e0
      · unfold sdC
        rw [if_neg e0];exact e
    have hlen:(L.ents++R.ents).length=(ce cs i).sz:=by rw [List.length_append,hsz,okL.sz,okR.sz]
    refine ⟨by rw [hs];exact hlen.symm,fun e he=>?_,fun q _ hq e he j hj=>?_,fun q hq=>?_,?_,?_,fun q hq=>?_,fun _ e=>?_⟩
    · rcases List.mem_append.1 he with he | he
      · exact okL.ent e he
      · exact okR.ent e he
    · have hj2:j<d:=by
        have:=hq (by rw [Nat.add_sub_cancel];exact h3);rw [Nat.add_sub_cancel,h4] at this;omega
      rw [hs,hkey.2 j (by omega),if_pos hj2];rcases List.mem_append.1 he with he | he
      · obtain ⟨e0,sh⟩:=shL e he
        rw [if_neg e0];exact sh j (by omega)
      · obtain ⟨e0,sh⟩:=shR e he
        by_cases el:hl=0
        · rw [if_pos el]
          exact sh j (by omega)
        · rw [if_neg el,sh j (by omega)]
          exact ((hcom el e0).2.2 j (by omega)).symm
    · have hqd:d=q:=by rw [← h4];exact hq h3
      subst hqd;rw [hd,hdig];obtain ⟨n,hn2⟩:∃n,256-d=n+1:=⟨255-d,by omega⟩;show _=rt (256-d) d (L.ents++R.ents);rw [hn2,rt_more n d _ (by rw [hlen];exact htwo),sideOf_app,sideOf_app];rw [sideOf_all L.ents d 0 (fun e he=>by rw [kbi_in _ _ hdp];exact bL e he),sideOf_none R.ents d 0 1 (fun e he=>by rw [kbi_in _ _ hdp];exact bR e he) (by omega)];rw [sideOf_none L.ents d 1 0 (fun e he=>by rw [kbi_in _ _ hdp];exact bL e he) (by omega),sideOf_all R.ents d 1 (fun e he=>by rw [kbi_in _ _ hdp];exact bR e he)];rw [List.append_nil,List.nil_append];have e1:=okL.dig (d+1) (fun k=>by
        unfold sdC at k ⊢;rcases sl with e | ⟨e0,_,_,e | ⟨_,e⟩⟩
        · rw [if_pos e] at k;exact absurd k (by decide)
        · rw [if_neg (by omega)] at k;omega
        · rw [if_neg (by omega)];exact e)
      have e2:=okR.dig (d+1) (fun k=>by
        unfold sdC at k ⊢;rcases sr with e | ⟨e0,_,_,e | ⟨_,e⟩⟩
        · rw [if_pos e] at k;exact absurd k (by decide)
        · rw [if_neg (by omega)] at k;omega
        · rw [if_neg (by omega)];exact e)
      rw [show 256-(d+1)=n by omega] at e1 e2;rw [e1,e2]
    · show (L.ents++R.ents).Pairwise _
      rw [List.pairwise_append];refine ⟨okL.apart,okR.apart,fun a ha b hb e=>?_⟩;have h1:=bL a ha;have h2:=bR b hb;rw [e,h2] at h1;omega
    · show (L.lvs hl++R.lvs hr).map _=(L.ents++R.ents).map _
      rw [List.map_append,List.map_append,okL.keys,okR.keys]
    · rcases List.mem_append.1 hq with hq | hq
      · exact okL.lvs q hq
      · exact okR.lvs q hq
    · have:(L.ents++R.ents).length=0:=by rw [show L.ents++R.ents=[] from e];rfl
      omega

theorem nodup_le:∀(n:Nat) (l:List Nat),l.Nodup→(∀q∈l,q<n)→l.length≤n
  | 0,l,_,h=>by
    match l,h with
    | [],_=>simp
    | q::r,h=>exact absurd (h q (by simp)) (by omega)
  | n+1,l,hd,h=>by
    have h1:=nodup_le n (l.erase n) (hd.erase n) (fun q hq=>by
      have h2:=h q (List.mem_of_mem_erase hq);have h3:q≠n:=(List.Nodup.mem_erase_iff hd).1 hq |>.1
      omega)
    have h4:=List.length_erase (a:=n) (l:=l);split at h4 <;> omega

theorem TreeOk.few {T:Tre} (t:TreeOk cs h T):T.ents.length≤cs.length:=by
  have hl:(T.lvs h).length=T.ents.length:=by
    have:=congrArg List.length t.keys;simpa using this
  have hn:(T.lvs h).Nodup:=by
    have h1:(T.ents.map (·.1)).Nodup:=List.pairwise_map.2 t.apart;rw [← t.keys] at h1;unfold List.Nodup at h1;rw [List.pairwise_map] at h1;exact h1.imp (fun hne e=>hne (by rw [e]))
  have:=nodup_le cs.length ((T.lvs h).map (· - 1)) (List.pairwise_map.2 (by
    refine List.Pairwise.imp_of_mem ?_ hn;intro a b ha hb hne e;have h1:=(t.lvs a ha).1;have h2:=(t.lvs b hb).1;exact hne (by omega))) (fun q hq=>by
      obtain ⟨a,ha,rfl⟩:=List.mem_map.1 hq;exact cc_lt (t.lvs a ha).2)
  rw [List.length_map] at this;omega

theorem Wf.size_le (w:Wf cs pend) (h:Nat) (hh:h=0∨0<cc cs (h-1)):(sdC cs h).sz≤cs.length:=by
  by_cases e:h=0
  · subst e
    show 0≤_;omega
  · obtain ⟨i,rfl⟩:∃i,h=i+1:=⟨h-1,by omega⟩
    rw [Nat.add_sub_cancel] at hh;obtain ⟨T,hT⟩:=tree_ex w i (by omega);have t:=tree_ok w T _ hT;rw [t.sz];exact t.few

end Go.Proofs.YtdjpigfibafokaaGreatDoor

namespace Go.Proofs.YtdjpigfibafokaaGreatDoor
variable {S fr pend:List Nat}
variable {c d g h i n room:Nat}
variable {cs cs':Lz}
variable {vf vf' vp vp':Value}
variable {w w':World}
set_option maxHeartbeats 1000000
set_option maxRecDepth 20000
open Go.RowKit

def Th (z:List Value):Prop:=z.length=71∧∀u∈z,u.oneCell'=true
def zcl:List Value:=List.replicate 32 (.int .u8 0)++(.int .u8 0:: .int .i64 0:: .int .i64 0::(List.replicate 32 (.int .u8 0)++[.slice none 0 0,.int .i64 0,.int .i64 0,.int .i64 0]))
theorem zcl_th:Th zcl:=⟨rfl,fun u hu=>List.all_eq_true.1 (show zcl.all (·.oneCell')=true from rfl) u hu⟩

structure SmC (w:World) (g:Nat) (vp vf:Value) (room:Nat) (ps:List Pl) (fr:List Nat):Prop where
  blk:Blk w g 222 #[.pointer (some ⟨g,0,none⟩),.int .i64 (room:Int),vp,vf]
  pls:Lst w 288 (71+1) vp ps.length (flatS ps)
  frs:Lst w 3 1 vf fr.length (nats fr)
  wid:Wid 71 ps

structure SlC (w:World) (g:Nat) (vp vf:Value) (room:Nat) (ps:List Pl) (fr:List Nat):Prop extends SmC w g vp vf room ps fr where
  inv:Inv room ps fr

theorem SmC.mod {ps:List Pl} (h:SmC w g vp vf room ps fr) (m:Mod S w w') (hn:∀k∈slB g vp vf,k ∉ S):SmC w' g vp vf room ps fr:=
  ⟨h.blk.mod m (hn g (by simp [slB])),lst_mod h.pls m (fun k hk=>hn k (by simp [slB,hk])),lst_mod h.frs m (fun k hk=>hn k (by simp [slB,hk])),h.wid⟩

theorem SlC.mod {ps:List Pl} (h:SlC w g vp vf room ps fr) (m:Mod S w w') (hn:∀k∈slB g vp vf,k ∉ S):SlC w' g vp vf room ps fr:=⟨h.toSmC.mod m hn,h.inv⟩

theorem info_plC:∃i z,Tryz.prog.info? 288=some i∧i.zero=some z∧i.size=71+1∧i.bytes=144∧z.cells.size=71+1:=⟨_,_,rfl,rfl,rfl,rfl,rfl⟩

theorem size_plC:(Tryz.prog.info? 288).map (·.size)=some (71+1):=by kernel_rfl

theorem new_badC (room:Int) (w:World) (h: ¬(1≤room∧room≤65536)):Kc 111 #[.int .i64 room] w fun e w'=>e=.returned (.tuple #[.pointer none,.int .i64 2])∧w'=w:=by
  by_cases h1:room<1
  · go_enter Tryz.func111,Tryz.ntmps111
    go_wp2
    go_ret2;exact ⟨rfl,rfl⟩
  · have h2:65536<room:=by omega
    clear h;go_enter Tryz.func111,Tryz.ntmps111
    go_wp2
    go_ret2;exact ⟨rfl,rfl⟩

theorem new_okC (room:Nat) (w:World) (h1:1≤room) (h2:room≤65536):Kc 111 #[.int .i64 (room:Int)] w fun e w'=>∃g,e=.returned (.tuple #[.pointer (some ⟨g,0,none⟩),.int .i64 0])∧w.heap.size≤g∧SlC w' g (.slice none 0 0) (.slice none 0 0) room [] []∧Kb w w':=by
  have i1: ¬(room:Int)<1:=by omega
  have i2: ¬65536<(room:Int):=by omega
  go_enter Tryz.func111,Tryz.ntmps111
  go_wp2
  go_ret2;exact ⟨w.heap.size,rfl,Nat.le_refl _,⟨⟨Blk.new _ _ _,World.ownsRow_nil _ _ _ _,World.ownsRow_nil _ _ _ _,Wid.nil _⟩,Inv.new h1 h2⟩,grow_alloc _ _⟩

def NoC (w:World) (v:Value):Prop:=v=.pointer none∨∃g,v=.pointer (some ⟨g,0,none⟩)∧w.cell? ⟨g,0,none⟩=some (.pointer none)

theorem made_okC (g:Nat) (w:World) (hc:w.cell? ⟨g,0,none⟩=some (.pointer (some ⟨g,0,none⟩))):Kc 137 #[.pointer (some ⟨g,0,none⟩)] w fun e w'=>e=.returned (.bool true)∧w'=w:=by
  obtain ⟨j,hj⟩:∃j,Tryz.prog.info? 222=some j:=⟨_,rfl⟩;have hq:=fun a=>run_eql_ptr_same (P:=Tryz.prog) w a Tryz.underlying146 hj
  clear hj;go_enter Tryz.func137,Tryz.ntmps137
  go_wp2
  go_ret;exact ⟨rfl,rfl⟩

theorem SmC.c0 {ps:List Pl} (h:SmC w g vp vf room ps fr):w.cell? ⟨g,0,none⟩=some (.pointer (some ⟨g,0,none⟩)):=by rw [h.blk.cell];rfl
theorem SmC.c1 {ps:List Pl} (h:SmC w g vp vf room ps fr):w.cell? ⟨g,1,none⟩=some (.int .i64 (room:Int)):=by rw [h.blk.cell];rfl
theorem SmC.c2 {ps:List Pl} (h:SmC w g vp vf room ps fr):w.cell? ⟨g,2,none⟩=some vp:=by rw [h.blk.cell];rfl
theorem SmC.c3 {ps:List Pl} (h:SmC w g vp vf room ps fr):w.cell? ⟨g,3,none⟩=some vf:=by rw [h.blk.cell];rfl
theorem SmC.count {gp:Nat} {ps:List Pl} (h:SmC w g (.slice (some ⟨gp,0,none⟩) n c) vf room ps fr) (i:Nat) (hi:i<ps.length):w.cell? ⟨gp,i * (71+1),none⟩=some (.int .i64 (cnt ps i:Int)):=by
  have hp:=h.pls;obtain rfl:n=ps.length:=by
    obtain ⟨_,_,e⟩:=lst_slice hp;injection e
  rw [lst_cell hp _ (by have:=Nat.mul_le_mul_right (71+1) (show i+1≤ps.length from hi);rw [Nat.add_mul] at this;omega)];exact flatS_count h.wid i hi

theorem at_badC (g:Nat) (vp vf:Value) (room:Nat) (ps:List Pl) (fr:List Nat) (slot:Int) (w:World) (h:SlC w g vp vf room ps fr) (hv:Vac ps slot):Kc 208 #[.pointer (some ⟨g,0,none⟩),.int .i64 slot] w fun e w'=>e=.returned (.tuple #[.int .i64 0,.int .i64 7])∧w'=w:=by
  have c0:=h.c0;have c2:=h.c2;have HS:=hidden h;obtain ⟨a,c,rfl⟩:=lst_slice h.pls
  by_cases h1:slot<1
  · clear h hv
    go_enter Tryz.func208,Tryz.ntmps208
    go_wp2_with (go_at_call 137;refine (made_okC g _ c0).mono ?_;rintro e w' ⟨rfl,rfl⟩)
    go_ret2;exact ⟨rfl,rfl⟩
  · by_cases h2:(ps.length:Int)<slot
    · clear h hv
      go_enter Tryz.func208,Tryz.ntmps208
      go_wp2_with (go_at_call 137;refine (made_okC g _ c0).mono ?_;rintro e w' ⟨rfl,rfl⟩)
      go_ret2;exact ⟨rfl,rfl⟩
    · obtain ⟨i,hi⟩:∃i:Nat,slot-1=(i:Int):=⟨(slot-1).toNat,by omega⟩
      have hil:i<ps.length:=by omega
      have hc:=hv i (by omega);obtain ⟨gp,c',e,_⟩:=lst_pos h.pls (by omega);injection e with e1 _ e3;subst e1;subst e3;have c4:=h.count i hil;rw [hc] at c4;have hw:wrap64 (i:Int)=i:=Go.IntWalk.wrap64_in _ (by have:=h.inv.len;have:=h.inv.r2;omega);have j0:(0:Int)≤(i:Int):=by omega
      have j1:(i:Int)<(ps.length:Int):=by omega
      clear h hv hc;go_enter Tryz.func208,Tryz.ntmps208
      go_wp2_with (go_at_call 137;refine (made_okC g _ c0).mono ?_;rintro e w' ⟨rfl,rfl⟩)
      go_ret2;exact ⟨rfl,rfl⟩

theorem SlC.at {ps:List Pl} (h:SlC w g vp vf room ps fr) (i:Nat) (hi:0<cnt ps i):∃gp c,vp=.slice (some ⟨gp,0,none⟩) ps.length c∧w.cell? ⟨gp,i * (71+1),none⟩=some (.int .i64 (cnt ps i:Int))∧i<ps.length∧(0:Int)≤(i:Int)∧(i:Int)<(ps.length:Int)∧wrap64 (i:Int)=i∧ps.length≤65536:=by
  have hl:=cnt_lt hi;obtain ⟨gp,c,rfl,_⟩:=lst_pos h.pls (by omega);have h1:=h.inv.len;have h2:=h.inv.r2;exact ⟨gp,c,rfl,h.count i hl,hl,by omega,by omega,Go.IntWalk.wrap64_in _ (by omega),by omega⟩

theorem at_okC (g:Nat) (vp vf:Value) (room:Nat) (ps:List Pl) (fr:List Nat) (slot:Int) (i:Nat) (w:World) (h:SlC w g vp vf room ps fr) (hs:slot=(i:Int)+1) (hi:0<cnt ps i):Kc 208 #[.pointer (some ⟨g,0,none⟩),.int .i64 slot] w fun e w'=>e=.returned (.tuple #[.int .i64 (i:Int),.int .i64 0])∧w'=w:=by
  have c0:=h.c0;have c2:=h.c2;obtain ⟨gp,c,rfl,c4,hil,j0,j1,hw,hm⟩:=h.at i hi;have hne:((cnt ps i:Int) == 0)=false:=by simp;omega
  generalize cnt ps i=q at c4 hne;have h1: ¬slot<1:=by omega
  have h2: ¬(ps.length:Int)<slot:=by omega
  have h3:slot-1=(i:Int):=by omega
  clear h hs hi;go_enter Tryz.func208,Tryz.ntmps208
  go_wp2_with (go_at_call 137;refine (made_okC g _ c0).mono ?_;rintro e w' ⟨rfl,rfl⟩)
  go_ret2;exact ⟨rfl,rfl⟩

theorem count_badC (g:Nat) (vp vf:Value) (room:Nat) (ps:List Pl) (fr:List Nat) (slot:Int) (w:World) (h:SlC w g vp vf room ps fr) (hv:Vac ps slot):Kc 134 #[.pointer (some ⟨g,0,none⟩),.int .i64 slot] w fun e w'=>e=.returned (.int .i64 0)∧w'=w:=by
  have HS:=hidden h;have HV:=hidden hv;clear h hv;go_enter Tryz.func134,Tryz.ntmps134
  go_wp2_with (go_at_call 208;refine (at_badC g vp vf room ps fr slot _ HS.out HV.out).mono ?_;rintro e w' ⟨rfl,rfl⟩)
  go_ret;exact ⟨rfl,rfl⟩

theorem count_okC (g:Nat) (vp vf:Value) (room:Nat) (ps:List Pl) (fr:List Nat) (slot:Int) (i:Nat) (w:World) (h:SlC w g vp vf room ps fr) (hs:slot=(i:Int)+1) (hi:0<cnt ps i):Kc 134 #[.pointer (some ⟨g,0,none⟩),.int .i64 slot] w fun e w'=>e=.returned (.int .i64 (cnt ps i:Int))∧w'=w:=by
  have HS:=hidden h;have HI:=hidden hi;have HE:=hidden hs;have c2:=h.c2;obtain ⟨gp,c,rfl,c4,hil,j0,j1,hw,hm⟩:=h.at i hi;obtain ⟨q,hq⟩:∃q,q=cnt ps i:=⟨_,rfl⟩;rw [← hq] at c4 ⊢;have HQ:=hidden hq;clear h hs hi hq;go_enter Tryz.func134,Tryz.ntmps134
  go_wp2_with (go_at_call 208;refine (at_okC g _ vf room ps fr slot i _ HS.out HE.out HI.out).mono ?_;rintro e w' ⟨rfl,rfl⟩)
  go_ret;exact ⟨rfl,rfl⟩

theorem room_okC (g:Nat) (vp vf:Value) (room:Nat) (ps:List Pl) (fr:List Nat) (w:World) (h:SlC w g vp vf room ps fr):Kc 203 #[.pointer (some ⟨g,0,none⟩)] w fun e w'=>e=.returned (.int .i64 (room:Int))∧w'=w:=by
  have c0:=h.c0;have c1:=h.c1;clear h;go_enter Tryz.func203,Tryz.ntmps203
  go_wp2_with (go_at_call 137;refine (made_okC g _ c0).mono ?_;rintro e w' ⟨rfl,rfl⟩)
  go_ret;exact ⟨rfl,rfl⟩

theorem len_okC (g:Nat) (vp vf:Value) (room:Nat) (ps:List Pl) (fr:List Nat) (w:World) (h:SlC w g vp vf room ps fr):Kc 76 #[.pointer (some ⟨g,0,none⟩)] w fun e w'=>e=.returned (.int .i64 (occs ps:Int))∧Kb w w':=by
  have c0:=h.c0;have c2:=h.c2;have c3:=h.c3;obtain ⟨a,c,rfl⟩:=lst_slice h.pls;obtain ⟨a',c',rfl⟩:=lst_slice h.frs;have h1:=h.inv.len;have h2:=h.inv.r2;have h3:=h.inv.sum;have HW:Hid (wrap64 ((ps.length:Int)-(fr.length:Int))=(occs ps:Int)):=by
    show _=_;rw [Go.IntWalk.wrap64_in _ (by omega)];omega
  clear h h1 h2 h3;go_enter Tryz.func76,Tryz.ntmps76
  go_wp2_with (go_at_call 137;refine (made_okC g _ c0).mono ?_;rintro e w' ⟨rfl,rfl⟩)
  go_quiet (fail)
  go_wp2
  go_ret;exact ⟨by rw [← HW.out];rfl,below_drewN (Below.refl _ _) _⟩

end Go.Proofs.YtdjpigfibafokaaGreatDoor

namespace Go.Proofs.YtdjpigfibafokaaGreatDoor
variable {S fr pend:List Nat}
variable {c d g h i n room:Nat}
variable {cs cs':Lz}
variable {vf vf' vp vp':Value}
variable {w w':World}
set_option maxHeartbeats 1000000
set_option maxRecDepth 20000
open Go.RowKit

def TurnC (w:World) (g:Nat) (S:List Nat) (room:Nat) (ps:List Pl) (fr:List Nat) (w':World):Prop:=∃vp vf,SlC w' g vp vf room ps fr∧Mod S w w'∧New S w (slB g vp vf)

theorem tne1C:(288:Nat)≠222:=by decide

theorem tne2C:(3:Nat)≠222:=by decide

theorem tne3C:(288:Nat)≠3:=by decide

theorem mk2C {p:Value} {ps:List Pl} (hb:Blk w g 222 #[p,.int .i64 (room:Int),vp,vf]) (he:p=.pointer (some ⟨g,0,none⟩)) (hp:Lst w 288 (71+1) vp' ps.length (flatS ps)) (hf:Lst w 3 1 vf fr.length (nats fr)) (hw:Wid 71 ps):SmC (w.setCell ⟨g,2,none⟩ vp') g vp' vf room ps fr:=by
  have m:Mod [g] w (w.setCell ⟨g,2,none⟩ vp'):=Mod.setCell w g 2 vp' (by simp);refine ⟨?_,lst_mod hp m (fun k hk e=>?_),lst_mod hf m (fun k hk e=>?_),hw⟩
  · subst he
    exact hb.set 2 vp'
  · obtain rfl:k=g:=by simpa using e
    exact lst_blk_ne hp hb tne1C hk
  · obtain rfl:k=g:=by simpa using e
    exact lst_blk_ne hf hb tne2C hk

theorem mk3C {p:Value} {ps:List Pl} (hb:Blk w g 222 #[p,.int .i64 (room:Int),vp,vf]) (he:p=.pointer (some ⟨g,0,none⟩)) (hp:Lst w 288 (71+1) vp ps.length (flatS ps)) (hf:Lst w 3 1 vf' fr.length (nats fr)) (hw:Wid 71 ps):SmC (w.setCell ⟨g,3,none⟩ vf') g vp vf' room ps fr:=by
  have m:Mod [g] w (w.setCell ⟨g,3,none⟩ vf'):=Mod.setCell w g 3 vf' (by simp);refine ⟨?_,lst_mod hp m (fun k hk e=>?_),lst_mod hf m (fun k hk e=>?_),hw⟩
  · subst he
    exact hb.set 3 vf'
  · obtain rfl:k=g:=by simpa using e
    exact lst_blk_ne hp hb tne1C hk
  · obtain rfl:k=g:=by simpa using e
    exact lst_blk_ne hf hb tne2C hk

theorem SmC.over {gp:Nat} {ps ps':List Pl} (h:SmC w g (.slice (some ⟨gp,0,none⟩) n c) vf room ps fr) (m:Mod [gp] w w') (hp:Lst w' 288 (71+1) (.slice (some ⟨gp,0,none⟩) n c) ps'.length (flatS ps')) (hw:Wid 71 ps'):SmC w' g (.slice (some ⟨gp,0,none⟩) n c) vf room ps' fr:=by
  refine ⟨h.blk.mod m ?_,hp,lst_mod h.frs m (fun k hk e=>?_),hw⟩
  · intro e
    obtain rfl:g=gp:=by simpa using e
    exact lst_blk_ne h.pls h.blk tne1C rfl
  · obtain rfl:k=gp:=by simpa using e
    exact lst_ne h.pls h.frs tne3C k rfl hk

theorem SmC.free {gf:Nat} {ps:List Pl} (h:SmC w g vp (.slice (some ⟨gf,0,none⟩) n c) room ps fr) (i:Nat) (hi:i<fr.length):w.cell? ⟨gf,i,none⟩=some (.int .i64 (fr.getD i 0:Nat)):=by
  have hp:=h.frs;obtain rfl:n=fr.length:=by
    obtain ⟨_,_,e⟩:=lst_slice hp;injection e
  rw [lst_cell hp _ (by omega)];exact nats_get fr i hi

theorem vac_freeC (g:Nat) (vp vf:Value) (room:Nat) (ps:List Pl) (fr:List Nat) (s:Nat) (w:World) (h:SmC w g vp vf room ps (fr++[s])) (hl:fr.length≤65536):Kc 302 #[.pointer (some ⟨g,0,none⟩)] w fun e w'=>∃vf',e=.returned (.tuple #[.int .i64 (s:Int),.bool true])∧SmC w' g vp vf' room ps fr∧Mod [g] w w'∧vf'.ownBlock=vf.ownBlock:=by
  have c3:=h.c3;have f3:=h.blk.frozen 3;have HS:=hidden h;obtain ⟨gf,c,rfl,hcap⟩:=lst_pos h.frs (by simp);have c4:=h.free fr.length (by simp);rw [show (fr++[s]).getD fr.length 0=s by simp [List.getD]] at c4;rw [List.length_append,List.length_singleton] at c3 hcap;have j0:(0:Int)≤(fr.length:Int):=by omega
  have j1:(fr.length:Int)<((fr.length+1:Nat):Int):=by omega
  have j2:(fr.length:Int)≤(c:Int):=by omega
  clear h;go_enter Tryz.func302,Tryz.ntmps302
  go_wp2
  go_ret2;have h:=HS.out;have hc:=lst_cut (m:=fr.length) h.frs (by simp);rw [Nat.mul_one,nats_take,List.take_left] at hc;exact ⟨_,rfl,mk3C h.blk rfl h.pls hc h.wid,Mod.setCell _ _ _ _ (by simp),rfl⟩

theorem vac_fullC (g:Nat) (vp vf:Value) (room:Nat) (ps:List Pl) (w:World) (h:SmC w g vp vf room ps []) (hl:ps.length=room):Kc 302 #[.pointer (some ⟨g,0,none⟩)] w fun e w'=>e=.returned (.tuple #[.int .i64 0,.bool false])∧Kb w w':=by
  have c1:=h.c1;have c2:=h.c2;have c3:=h.c3;obtain ⟨a,c,rfl⟩:=lst_slice h.frs;obtain ⟨a',c',rfl⟩:=lst_slice h.pls;subst hl;clear h;go_enter Tryz.func302,Tryz.ntmps302
  go_wp2
  go_quiet (fail)
  go_wp2
  go_ret2;exact ⟨rfl,below_drewN (Below.refl _ _) _⟩

theorem zoneC:∀u∈(Value.int .i64 0::zcl),u.oneCell'=true:=fun u hu=>List.all_eq_true.1 (show (Value.int .i64 0::zcl).all (·.oneCell')=true from rfl) u hu

theorem xoneC (z:List Value) (hz:Th z) (c:Int):∀u∈(Value.int .i64 c::z),u.oneCell'=true:=fun u hu=>by
  rcases List.mem_cons.1 hu with rfl | hu
  · rfl
  · exact hz.2 u hu

theorem xlenC (z:List Value) (hz:Th z):(z:List Value).length=71:=hz.1

theorem vac_newC (g:Nat) (vp vf:Value) (room:Nat) (ps:List Pl) (w:World) (h:SmC w g vp vf room ps []) (hl:ps.length<room) (hr:room≤65536):Kc 302 #[.pointer (some ⟨g,0,none⟩)] w fun e w'=>∃vp',e=.returned (.tuple #[.int .i64 ((ps.length+1:Nat):Int),.bool true])∧SmC w' g vp' vf room (ps++[(0,zcl)]) []∧Mod (slB g vp vf) w w'∧WhereL w vp vp':=by
  have c1:=h.c1;have c2:=h.c2;have c3:=h.c3;have f2:=h.blk.frozen 2;have HS:=hidden h;obtain ⟨a,c,rfl⟩:=lst_slice h.frs;obtain ⟨a',c',rfl⟩:=lst_slice h.pls;have hne:((ps.length:Int) == (room:Int))=false:=by simp;omega
  clear h;go_enter Tryz.func302,Tryz.ntmps302
  go_wp2
  go_quiet (fail)
  obtain ⟨w1,hw1⟩:∃x,x=w.drewN nq:=⟨_,rfl⟩;have HM:Hid (Mod [] w w1):=by rw [hw1];exact Mod.drewN _ _ _
  have HS1:Hid (SmC w1 g (.slice a' ps.length c') (.slice a 0 c) room ps []):=HS.out.mod HM.out (fun _ _ h=>by cases h);rw [← hw1];clear c1 c2 c3 f2 HS hw1;have c2:=HS1.out.c2;have f2:=HS1.out.blk.frozen 2;have HL:Hid (ps.length+1≤65536):=by show ps.length+1≤65536;omega
  clear hl hr
  go_wp2_with (at_builtin;refine wpList_appL _ rfl _ _ _ rfl 288 (71+1) 144 Tryz.underlying220 info_plC (by omega) _ ps.length (flatS ps) rfl (lst_grow HS1.out.pls (grow_alloc _ _)) w1.heap.size (Value.int .i64 0::zcl) rfl (Blk.new _ _ _) rfl zoneC (by have:=HL.out;simp only [maxLen];omega) (by have:=HL.out;omega) ?_;intro v' w2 h2 g2 wh;obtain ⟨a2,c4,rfl⟩:=lst_slice h2;have hb2:=(HS1.out.blk.grow (grow_alloc w1 (.cells (Value.int .i64 0::zcl).toArray 288))).of_block (g2.block g (by have:=HS1.out.blk.lt;simp;omega) (fun e=>lst_blk_ne HS1.out.pls HS1.out.blk tne1C e.symm));have c5:w2.cell? ⟨g,2,none⟩=some (.slice a' ps.length c'):=(by rw [hb2.cell];rfl);have f5:=hb2.frozen 2)
  go_ret2;have hpl:Lst w2 288 (71+1) (.slice a2 (ps.length+1) c4) (ps++[(0,zcl)]).length (flatS (ps++[(0,zcl)])):=by
    rw [flatS_snoc,List.length_append,List.length_singleton];exact h2
  have hwd:Wid 71 (ps++[(0,zcl)]):=HS1.out.wid.snoc 0 _ rfl (fun u hu=>zoneC u (by simp only [List.mem_cons];exact .inr (by simpa using hu)));have hfr:Lst w2 3 1 (.slice a 0 c) 0 (nats []):=lst_mod (lst_grow HS1.out.frs (grow_alloc _ _)) (Mod.of_grown g2 (S:=slB g (.slice a' ps.length c') (.slice none 0 0)) (fun k hk=>slB_mem.2 (.inr (.inl hk)))) (fun k hk hn=>by
    rcases slB_mem.1 hn with rfl | h | h
    · exact lst_blk_ne HS1.out.frs HS1.out.blk tne2C hk
    · exact lst_ne HS1.out.pls HS1.out.frs tne3C k h hk
    · cases h)
  refine ⟨_,rfl,mk2C hb2 rfl hpl hfr hwd,?_,?_⟩
  · have m1:Mod (slB g (.slice a' ps.length c') (.slice a 0 c)) w w1:=HM.out.mono (fun _ h=>by cases h)
    have m2:Mod (slB g (.slice a' ps.length c') (.slice a 0 c)) w1 w2:=(Mod.alloc w1 _ _).trans' (Mod.of_grown g2 (fun k hk=>slB_mem.2 (.inr (.inl hk))));exact (m1.trans' m2).trans' (Mod.setCell _ _ _ _ (slB_mem.2 (.inl rfl)))
  · rcases wh with e | ⟨k,e,hk⟩
    · exact .inl e
    · refine .inr ⟨k,e,?_⟩
      have:=HM.out.size;simp at hk;omega

end Go.Proofs.YtdjpigfibafokaaGreatDoor
