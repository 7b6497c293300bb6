/- Each key's last write, put in its place one by one; a map that is overridden. No program in this text. -/
import Derived.Test.YtabiglnmfdpcfaaGreatDoorBz01
import Derived.Test.YtabiglnmfdpcfaaGreatDoorBz19
namespace Go.Proofs.YtabiglnmfdpcfaaGreatDoor
variable {E:List Ent}
variable {c d h hi i lo p:Nat}
variable {cs:Lz}
variable {pend:List Nat}
variable {q:Int}
set_option maxRecDepth 20000
open Go.RowKit

def LastAt (ls:List Wt) (i:Nat):Prop:=∀q,i<q→q<ls.length→ky ls q≠ky ls i
theorem lastW_at (ls:List Wt) (x:Wt):LastW ls x↔∃j,ls[j]?=some x∧LastAt ls j:=by
  constructor
  · rintro ⟨p,s,rfl,h⟩
    refine ⟨p.length,by simp,fun q q1 q2 e=>?_⟩;obtain ⟨r,hr⟩:∃r,q=p.length+1+r:=⟨q-p.length-1,by omega⟩;have hq:r<s.length:=by simp at q2;omega
    have e1:(p++x::s)[q]?=some s[r]:=by
      rw [List.getElem?_append_right (by omega),show q-p.length=r+1 by omega,List.getElem?_cons_succ,List.getElem?_eq_getElem hq]
    rw [ky_get e1,ky_get (j:=p.length) (x:=x) (by simp)] at e;exact h _ (List.getElem_mem hq) e
  · rintro ⟨j,hj,hl⟩
    have hjl:=(List.getElem?_eq_some_iff.1 hj).1;refine ⟨ls.take j,ls.drop (j+1),?_,fun y hy e=>?_⟩
    · have:ls[j]=x:=(List.getElem?_eq_some_iff.1 hj).2
      rw [← this];simp
    · obtain ⟨i,hi,rfl⟩:=List.mem_iff_getElem.1 hy
      rw [List.length_drop] at hi;refine hl (j+1+i) (by omega) (by omega) ?_;rw [ky_get hj,← e];unfold ky;rw [getElem!_pos ls _ (by omega)];simp

structure RoI (ls:List Wt) (i:Nat) (rs:List Wt):Prop where
  ris:Ris rs
  mem:∀y,y∈rs.map nrm↔∃j x,j<i∧ls[j]?=some x∧LastAt ls j∧nrm x=y
theorem RoI.nil (ls:List Wt):RoI ls 0 []:=⟨List.Pairwise.nil,fun y=>⟨fun h=>(by cases h),fun ⟨j,x,h,_⟩=>(by omega)⟩⟩
theorem RoI.skip {ls rs:List Wt} (h:RoI ls i rs) (hn: ¬LastAt ls i):RoI ls (i+1) rs:=by
  refine ⟨h.ris,fun y=>(h.mem y).trans ⟨?_,?_⟩⟩
  · rintro ⟨j,x,h1,h2⟩
    exact ⟨j,x,by omega,h2⟩
  · rintro ⟨j,x,h1,h2,h3,h4⟩
    by_cases e:j=i
    · subst e;exact absurd h3 hn
    · exact ⟨j,x,by omega,h2,h3,h4⟩
theorem nrm_k {x y:Wt} (h:nrm x=nrm y):x.k=y.k:=by
  have:=congrArg Wt.k h;exact this
theorem RoI.put {ls rs:List Wt} {x X:Wt} (h:RoI ls i rs) (hx:ls[i]?=some x) (hl:LastAt ls i) (hX:nrm X=nrm x) (hk:Kys rs) (hkx:Key X.k) (hp:p≤rs.length) (lo:∀q,q<p→Ahead (ky rs q) X.k) (hi:p<rs.length→ ¬Ahead (ky rs p) X.k):RoI ls (i+1) (rs.take p++X::rs.drop p):=by
  have hne:∀z∈rs,z.k≠X.k:=fun z hz e=>by
    obtain ⟨j,x',h1,h2,h3,h4⟩:=(h.mem (nrm z)).1 (List.mem_map_of_mem hz);refine h3 i h1 (List.getElem?_eq_some_iff.1 hx).1 ?_;rw [ky_get hx,ky_get h2,← nrm_k hX,← e,nrm_k h4]
  have lo':∀z∈rs.take p,Ahead z.k X.k:=fun z hz=>by
    obtain ⟨q,hq,rfl⟩:=List.mem_iff_getElem.1 hz;rw [List.length_take] at hq;have:=lo q (by omega);unfold ky at this;rw [getElem!_pos rs q (by omega)] at this;simpa using this
  have hi':∀z∈rs.drop p,Ahead X.k z.k:=fun z hz=>by
    obtain ⟨q,hq,rfl⟩:=List.mem_iff_getElem.1 hz;rw [List.length_drop] at hq;have h0:Ahead X.k (ky rs p):=by
      rcases al_tot (hk.at (by omega)) hkx (hi (by omega)) with e | e
      · refine absurd e ?_
        unfold ky;rw [getElem!_pos rs p (by omega)];exact hne _ (List.getElem_mem _)
      · exact e
    have e2:(rs.drop p)[q].k=ky rs (p+q):=by unfold ky;rw [getElem!_pos rs (p+q) (by omega)];simp
    rw [e2]
    by_cases e:q=0
    · subst e;exact h0
    · have:=List.pairwise_iff_getElem.1 h.ris p (p+q) (by omega) (by omega) (by omega)
      unfold ky at h0 ⊢;rw [getElem!_pos rs p (by omega)] at h0;rw [getElem!_pos rs (p+q) (by omega)];exact al_trans h0 this
  have hr:Ris (rs.take p++rs.drop p):=by rw [List.take_append_drop];exact h.ris
  obtain ⟨r1,r2,r3⟩:=List.pairwise_append.1 hr;refine ⟨List.pairwise_append.2 ⟨r1,List.pairwise_cons.2 ⟨hi',r2⟩,fun a ha b hb=>?_⟩,fun y=>?_⟩
  · rcases List.mem_cons.1 hb with rfl | hb
    · exact lo' a ha
    · exact r3 a ha b hb
  · have e:y∈(rs.take p++X::rs.drop p).map nrm↔y=nrm X∨y∈rs.map nrm:=by
      conv=>rhs;rw [← List.take_append_drop p rs]
      simp only [List.map_append,List.map_cons,List.mem_append,List.mem_cons];constructor
      · rintro (h1 | h1 | h1)
        · exact .inr (.inl h1)
        · exact .inl h1
        · exact .inr (.inr h1)
      · rintro (h1 | h1 | h1)
        · exact .inr (.inl h1)
        · exact .inl h1
        · exact .inr (.inr h1)
    rw [e,h.mem];constructor
    · rintro (h1 | ⟨j,x',h1,h2⟩)
      · exact ⟨i,x,by omega,hx,hl,by rw [h1,hX]⟩
      · exact ⟨j,x',by omega,h2⟩
    · rintro ⟨j,x',h1,h2,h3,h4⟩
      by_cases ej:j=i
      · subst ej
        rw [hx] at h2;injection h2 with h2;exact .inl (by rw [← h4,← h2,hX])
      · exact .inr ⟨j,x',by omega,h2,h3,h4⟩
theorem RoI.done {ls rs:List Wt} (h:RoI ls ls.length rs):Lat (ls.map nrm) (rs.map nrm):=⟨List.pairwise_map.2 h.ris,fun y=>by
  rw [h.mem,LastW.nm];constructor
  · rintro ⟨j,x,h1,h2,h3,h4⟩
    exact ⟨x,(lastW_at ls x).2 ⟨j,h2,h3⟩,h4⟩
  · rintro ⟨x,h1,h2⟩
    obtain ⟨j,h3,h4⟩:=(lastW_at ls x).1 h1;exact ⟨j,x,(List.getElem?_eq_some_iff.1 h3).1,h3,h4,h2⟩⟩

def asW (e:Lq×Lq) (v:Value):Wt:=⟨e.1,false,e.2,v⟩
def entW (rs:List Wt):List (Lq×Lq):=(rs.filter fun x=>!x.g).map fun x=>(x.k,x.b)
end Go.Proofs.YtabiglnmfdpcfaaGreatDoor

namespace Go.Proofs.YtabiglnmfdpcfaaGreatDoor
variable {E:List Ent}
variable {c d h hi i lo p:Nat}
variable {cs:Lz}
variable {pend:List Nat}
variable {q:Int}
set_option maxRecDepth 20000
open Go.RowKit

def WtOk0 (x:Wt):Prop:=Key x.k∧Bytes x.b∧(x.g=false→x.b.length≤1024)

structure Pn where
  inn:Bool
  w:Wt
  dp:Nat
  l:Int
  r:Int
instance:Inhabited Pn:=⟨⟨false,default,0,0,0⟩⟩
def wtZ:Wt:=⟨z32,false,[],.slice none 0 0⟩
def pnL (x:Wt):Pn:=⟨false,x,0,0,0⟩
def pnI (d:Nat) (a b:Int):Pn:=⟨true,wtZ,d,a,b⟩

inductive Gt where
  | old (h:Nat) (T:Tre):Gt
  | lf (x:Wt):Gt
  | nd (d:Nat) (L R:Gt):Gt
def Gt.ents:Gt→List Ent
  | .old _ T=>T.ents
  | .lf x=>[(x.k,x.b)]
  | .nd _ L R=>L.ents++R.ents
def Gt.olds:Gt→List Nat
  | .old h _=>[h]
  | .lf _=>[]
  | .nd _ L R=>L.olds++R.olds
def Tre.nds:Tre→List (Option Nat×List Ent)
  | .emp=>[]
  | .lf k b=>[(none,[(k,b)])]
  | .nd d _ _ l r=>(some d,l.ents++r.ents)::(l.nds++r.nds)
def Gt.pnd:Gt→List (Option Nat×List Ent)
  | .old _ _=>[]
  | .lf x=>[(none,[(x.k,x.b)])]
  | .nd d L R=>(some d,L.ents++R.ents)::(L.pnd++R.pnd)
def Gt.ond:Gt→List (Option Nat×List Ent)
  | .old _ T=>T.nds
  | .lf _=>[]
  | .nd _ L R=>L.ond++R.ond
def Gt.isI (cs:Lz):Gt→Bool
  | .old h _=>(sdC cs h).kind == 2
  | .lf _=>false
  | .nd _ _ _=>true

def IsG (cs:Lz) (ps:List Pn):Nat→Nat→Int→Gt→Prop
  | lo,hi,q,.old h T=>q=(h:Int)∧hi=lo∧IsT cs h T
  | lo,hi,q,.lf x=>q= -((lo:Int)+1)∧hi=lo+1∧ps[lo]?=some (pnL x)
  | lo,hi,q,.nd d L R=>∃(m n:Nat) (a b:Int),hi=n+1∧q= -((n:Int)+1)∧ps[n]?=some (pnI d a b)∧IsG cs ps lo m a L∧IsG cs ps m n b R

theorem IsG.le {cs:Lz} {ps:List Pn}:∀ {G:Gt} {lo hi:Nat} {q:Int},IsG cs ps lo hi q G→lo≤hi
  | .old _ _,_,_,_,h=>by have:=h.2.1;omega
  | .lf _,_,_,_,h=>by have:=h.2.1;omega
  | .nd _ _ _,_,_,_,h=>by
    obtain ⟨m,n,a,b,h1,_,_,h4,h5⟩:=h;have:=IsG.le h4;have:=IsG.le h5;omega
theorem IsG.more {cs:Lz} {ps:List Pn} (ns:List Pn):∀ {G:Gt} {lo hi:Nat} {q:Int},IsG cs ps lo hi q G→IsG cs (ps++ns) lo hi q G
  | .old _ _,_,_,_,h=>h
  | .lf x,lo,_,_,h=>by
    refine ⟨h.1,h.2.1,?_⟩;rw [List.getElem?_append_left (List.getElem?_eq_some_iff.1 h.2.2).1];exact h.2.2
  | .nd _ _ _,_,_,_,h=>by
    obtain ⟨m,n,a,b,h1,h2,h3,h4,h5⟩:=h;refine ⟨m,n,a,b,h1,h2,?_,IsG.more ns h4,IsG.more ns h5⟩;rw [List.getElem?_append_left (List.getElem?_eq_some_iff.1 h3).1];exact h3
theorem IsG.nat {ps:List Pn} {G:Gt} (h:IsG cs ps lo hi q G) (hq:0≤q):∃T,G=.old q.toNat T∧hi=lo∧IsT cs q.toNat T:=by
  cases G with
  | old x T=>
    obtain ⟨h1,h2,h3⟩:=h;subst h1;exact ⟨T,rfl,h2,h3⟩
  | lf x=>have:=h.1;omega
  | nd d L R=>
    obtain ⟨m,n,a,b,h1,h2,_⟩:=h;omega

theorem IsG.part {ps:List Pn} {G:Gt} (h:IsG cs ps lo hi q G): -q≤(hi:Int):=by
  cases G with
  | old x T=>
    have:=h.1;omega
  | lf x=>
    have:=h.1;have:=h.2.1;omega
  | nd d L R=>
    obtain ⟨m,n,a,b,h1,h2,_⟩:=h;omega

def kdP (cs:Lz) (ps:List Pn) (q:Int):Int:=if q<0 then (if (ps[(-q-1).toNat]!).inn then 2 else 1) else (sdC cs q.toNat).kind
theorem IsG.kd {ps:List Pn} {G:Gt} (h:IsG cs ps lo hi q G):kdP cs ps q=2↔G.isI cs=true:=by
  cases G with
  | old x T=>
    obtain ⟨h1,h2,h3⟩:=h;subst h1;rw [kdP,if_neg (by omega)];simp [Gt.isI]
  | lf x=>
    obtain ⟨h1,h2,h3⟩:=h;rw [kdP,if_pos (by omega),show (-q-1).toNat=lo by omega,List.getElem!_eq_getElem?_getD,h3];simp [pnL,Gt.isI]
  | nd d L R=>
    obtain ⟨m,n,a,b,h1,h2,h3,_⟩:=h;rw [kdP,if_pos (by omega),show (-q-1).toNat=n by omega,List.getElem!_eq_getElem?_getD,h3];simp [pnI,Gt.isI]

def GOk (cs:Lz):Nat→Gt→Prop
  | d,.old h _=>(sdC cs h).kind=2→(sdC cs h).dp=d
  | _,.lf x=>WtOk0 x∧x.g=false
  | d,.nd e L R=>e=d∧d<256∧GOk cs (d+1) L∧GOk cs (d+1) R∧(∀x∈L.ents,kb x.1 d=0)∧(∀x∈R.ents,kb x.1 d=1)∧2≤(L.ents++R.ents).length

def ovE (E:List Ent) (l:List Wt):List Ent:=E.filter (fun e=>!(l.any fun x=>x.k == e.1))++entW l

theorem ovE_nil (E:List Ent):ovE E []=E:=by simp [ovE,entW]
theorem ovE_perm {F:List Ent} (h:E.Perm F) (l:List Wt):(ovE E l).Perm (ovE F l):=(h.filter _).append_right _

def Com (d:Nat) (ks:List (Lq)):Prop:=∀a∈ks,∀b∈ks,∀j,j<d→kb a j=kb b j
theorem Com.sub {ks js:List (Lq)} (h:Com d ks) (hs:∀a∈js,a∈ks):Com d js:=fun a ha b hb j hj=>h a (hs a ha) b (hs b hb) j hj
theorem Com.succ {ks:List (Lq)} (h:Com d ks) (c:Int) (hc:∀a∈ks,kb a d=c):Com (d+1) ks:=fun a ha b hb j hj=>by
  by_cases e:j=d
  · rw [e,hc a ha,hc b hb]
  · exact h a ha b hb j (by omega)

def wsd (l:List Wt) (d:Nat) (b:Int):List Wt:=l.filter fun x=>kb x.k d == b
def frkL (cs:Lz) (h d:Nat):Nat:=if (sdC cs h).kind=2 then (sdC cs h).l else if kb (sdC cs h).key d=1 then 0 else h
def frkR (cs:Lz) (h d:Nat):Nat:=if (sdC cs h).kind=2 then (sdC cs h).r else if kb (sdC cs h).key d=1 then h else 0
def Plc (cs:Lz) (h:Nat) (k:Lq):Prop:=h=0∨(sdC cs h).kind=1∧(sdC cs h).key=k
def jnQ (cs:Lz) (ps:List Pn) (a b:Int):Int:=if a=0∧kdP cs ps b≠2 then b else if b=0∧kdP cs ps a≠2 then a else -((ps.length:Int)+1)
def jnP (cs:Lz) (ps:List Pn) (d:Nat) (a b:Int):List Pn:=if a=0∧kdP cs ps b≠2 then ps else if b=0∧kdP cs ps a≠2 then ps else ps++[pnI d a b]

inductive Grw (cs:Lz):Nat→Nat→List Wt→List Pn→Int→List Pn→Prop
  | none {d h:Nat} {ps:List Pn}:Grw cs d h [] ps (h:Int) ps
  | gone {d h:Nat} {x:Wt} {ps:List Pn}:Plc cs h x.k→x.g=true→Grw cs d h [x] ps 0 ps
  | same {d h:Nat} {x:Wt} {ps:List Pn}:Plc cs h x.k→x.g=false→h≠0→(sdC cs h).bs=x.b→Grw cs d h [x] ps (h:Int) ps
  | leaf {d h:Nat} {x:Wt} {ps:List Pn}:Plc cs h x.k→x.g=false→ ¬(h≠0∧(sdC cs h).bs=x.b)→Grw cs d h [x] ps (-((ps.length:Int)+1)) (ps++[pnL x])
  | stay {d h:Nat} {l:List Wt} {ps p1 p2:List Pn}:l≠[]→(∀x,l=[x]→ ¬Plc cs h x.k)→Grw cs (d+1) (frkL cs h d) (wsd l d 0) ps (frkL cs h d:Nat) p1→Grw cs (d+1) (frkR cs h d) (wsd l d 1) p1 (frkR cs h d:Nat) p2→Grw cs d h l ps (h:Int) p2
  | join {d h:Nat} {l:List Wt} {ps p1 p2:List Pn} {a b:Int}:l≠[]→(∀x,l=[x]→ ¬Plc cs h x.k)→Grw cs (d+1) (frkL cs h d) (wsd l d 0) ps a p1→Grw cs (d+1) (frkR cs h d) (wsd l d 1) p1 b p2→ ¬(a=(frkL cs h d:Nat)∧b=(frkR cs h d:Nat))→Grw cs d h l ps (jnQ cs p2 a b) (jnP cs p2 d a b)

structure GPre (cs:Lz) (d h:Nat) (T:Tre) (l:List Wt):Prop where
  tree:IsT cs h T
  dp:(sdC cs h).kind=2→(sdC cs h).dp=d
  ris:Ris l
  ok:∀x∈l,WtOk0 x
  com:Com d (T.ents.map (·.1)++l.map (·.k))
  d:d≤256

theorem ris_filter {l:List Wt} (h:Ris l) (p:Wt→Bool):Ris (l.filter p):=List.Pairwise.filter p h
theorem ris_two {l:List Wt} (h:Ris l) (hc:Com d (l.map (·.k))) (hd:256≤d):l.length≤1:=by
  match l,h with
  | [],_=>simp
  | [_],_=>simp
  | x::y::r,h=>
    have h1:=(List.pairwise_cons.1 h).1 y (by simp);obtain ⟨c,hc2,_,h3,h4⟩:=h1;have:=hc x.k (by simp) y.k (by simp) c (by omega);omega

theorem IsT.cases {T:Tre} (t:IsT cs h T):(h=0∧T=.emp)∨(h≠0∧(sdC cs h).kind=1∧T=.lf (sdC cs h).key (sdC cs h).bs)∨(h≠0∧(sdC cs h).kind=2∧∃L R,T=.nd (sdC cs h).dp (sdC cs h).l (sdC cs h).r L R∧IsT cs (sdC cs h).l L∧IsT cs (sdC cs h).r R):=by
  cases T with
  | emp=>exact .inl ⟨t,rfl⟩
  | lf k b=>
    obtain ⟨h1,h2,h3,h4,h5⟩:=t;have e:sdC cs h=ce cs (h-1):=if_neg (by omega);exact .inr (.inl ⟨by omega,by rw [e];exact h3,by rw [e,h4,h5]⟩)
  | nd d hl hr L R=>
    obtain ⟨h1,h2,h3,h4,h5,h6,h7,h8⟩:=t;have e:sdC cs h=ce cs (h-1):=if_neg (by omega);exact .inr (.inr ⟨by omega,by rw [e];exact h3,L,R,by rw [e,h4,h5,h6],by rw [e,h5];exact h7,by rw [e,h6];exact h8⟩)

structure GSd (cs:Lz) (d h:Nat) (T:Tre) (l:List Wt) (TL TR:Tre):Prop where
  lt:d<256
  ents:T.ents=TL.ents++TR.ents
  bl:∀e∈TL.ents,kb e.1 d=0
  br:∀e∈TR.ents,kb e.1 d=1
  nds:∀z∈T.nds,z∈TL.nds∨z∈TR.nds∨z=(some d,T.ents)
  sub:∀z,z∈TL.nds∨z∈TR.nds→z∈T.nds
  pl:GPre cs (d+1) (frkL cs h d) TL (wsd l d 0)
  pr:GPre cs (d+1) (frkR cs h d) TR (wsd l d 1)

theorem gsd_of (W:Wf cs []) {d h:Nat} {T:Tre} {l:List Wt} (p:GPre cs d h T l) (h0:l≠[]) (hp:∀x,l=[x]→ ¬Plc cs h x.k):∃TL TR,GSd cs d h T l TL TR:=by
  have to:=tree_ok W T h p.tree;have hd:d<256:=by
    apply Nat.lt_of_not_le;intro hd;have h1:=ris_two p.ris (p.com.sub fun a ha=>by simp [ha]) hd;obtain ⟨x,rfl⟩:∃x,l=[x]:=by
      match l,h0,h1 with
      | [x],_,_=>exact ⟨x,rfl⟩
      | _::_::_,_,h1=>simp at h1
    refine hp x rfl ?_;rcases p.tree.cases with ⟨e,_⟩ | ⟨e0,e1,e2⟩ | ⟨e0,e1,L,R,e2,_⟩
    · exact .inl e
    · refine .inr ⟨e1,?_⟩
      subst e2;have hk:=(to.ent _ (by simp [Tre.ents]:((sdC cs h).key,(sdC cs h).bs)∈_)).1;refine key_ext hk (p.ok x (by simp)).1 fun j hj=>?_
      exact p.com _ (by simp [Tre.ents]) _ (by simp) j (by omega)
    · subst e2
      have n:=nd_ok W p.tree;have:=n.dp;have:=p.dp e1;omega
  have sides:∀(TL TR:Tre),T.ents=TL.ents++TR.ents→(∀z∈T.nds,z∈TL.nds∨z∈TR.nds∨z=(some d,T.ents))→(∀z,z∈TL.nds∨z∈TR.nds→z∈T.nds)→IsT cs (frkL cs h d) TL→IsT cs (frkR cs h d) TR→(∀e∈TL.ents,kb e.1 d=0)→(∀e∈TR.ents,kb e.1 d=1)→((sdC cs (frkL cs h d)).kind=2→(sdC cs (frkL cs h d)).dp=d+1)→((sdC cs (frkR cs h d)).kind=2→(sdC cs (frkR cs h d)).dp=d+1)→GSd cs d h T l TL TR:=fun TL TR he n1 n2 tl tr bl br kl kr=>by
    refine ⟨hd,he,bl,br,n1,n2,⟨tl,kl,ris_filter p.ris _,fun x hx=>p.ok x (List.mem_filter.1 hx).1,?_,by omega⟩,⟨tr,kr,ris_filter p.ris _,fun x hx=>p.ok x (List.mem_filter.1 hx).1,?_,by omega⟩⟩
    · refine Com.succ (p.com.sub fun a ha=>?_) 0 fun a ha=>?_
      · rcases List.mem_append.1 ha with q | q
        · rw [he,List.map_append]
          exact List.mem_append_left _ (List.mem_append_left _ q)
        · obtain ⟨x,hx,rfl⟩:=List.mem_map.1 q
          exact List.mem_append_right _ (List.mem_map_of_mem (List.mem_filter.1 hx).1)
      · rcases List.mem_append.1 ha with q | q
        · obtain ⟨e,he2,rfl⟩:=List.mem_map.1 q
          exact bl e he2
        · obtain ⟨x,hx,rfl⟩:=List.mem_map.1 q
          simpa using (List.mem_filter.1 hx).2
    · refine Com.succ (p.com.sub fun a ha=>?_) 1 fun a ha=>?_
      · rcases List.mem_append.1 ha with q | q
        · rw [he,List.map_append]
          exact List.mem_append_left _ (List.mem_append_right _ q)
        · obtain ⟨x,hx,rfl⟩:=List.mem_map.1 q
          exact List.mem_append_right _ (List.mem_map_of_mem (List.mem_filter.1 hx).1)
      · rcases List.mem_append.1 ha with q | q
        · obtain ⟨e,he2,rfl⟩:=List.mem_map.1 q
          exact br e he2
        · obtain ⟨x,hx,rfl⟩:=List.mem_map.1 q
          simpa using (List.mem_filter.1 hx).2
  have z2: ¬(sdC cs 0).kind=2:=by show ¬zc.kind=2;decide
  rcases p.tree.cases with ⟨e,e2⟩ | ⟨e0,e1,e2⟩ | ⟨e0,e1,L,R,e2,e3,e4⟩
  · subst e
    have fl:frkL cs 0 d=0:=by unfold frkL;rw [if_neg z2];split <;> rfl
    have fr:frkR cs 0 d=0:=by unfold frkR;rw [if_neg z2];split <;> rfl
    refine ⟨.emp,.emp,sides _ _ (by rw [e2];rfl) (by rw [e2];exact fun z hz=>.inl hz) (by rw [e2];exact fun z hz=>hz.elim id id) (by rw [fl];rfl) (by rw [fr];rfl) (fun e he=>by cases he) (fun e he=>by cases he) (by rw [fl];exact fun k=>absurd k z2) (by rw [fr];exact fun k=>absurd k z2)⟩
  · rcases kb_two (sdC cs h).key d with q | q
    · have fl:frkL cs h d=h:=by unfold frkL;rw [if_neg (by omega),if_neg (by omega)]
      have fr:frkR cs h d=0:=by unfold frkR;rw [if_neg (by omega),if_neg (by omega)]
      refine ⟨T,.emp,sides _ _ (by simp [Tre.ents]) (fun z hz=>.inl hz) (fun z hz=>hz.elim id fun q=>by cases q) (by rw [fl];exact p.tree) (by rw [fr];rfl) (fun e he=>?_) (fun e he=>by cases he) (by rw [fl];exact fun k=>by omega) (by rw [fr];exact fun k=>absurd k z2)⟩;rw [e2] at he;obtain rfl:e=((sdC cs h).key,(sdC cs h).bs):=by simpa [Tre.ents] using he
      exact q
    · have fl:frkL cs h d=0:=by unfold frkL;rw [if_neg (by omega),if_pos q]
      have fr:frkR cs h d=h:=by unfold frkR;rw [if_neg (by omega),if_pos q]
      refine ⟨.emp,T,sides _ _ (by simp [Tre.ents]) (fun z hz=>.inr (.inl hz)) (fun z hz=>hz.elim (fun q=>by cases q) id) (by rw [fl];rfl) (by rw [fr];exact p.tree) (fun e he=>by cases he) (fun e he=>?_) (by rw [fl];exact fun k=>absurd k z2) (by rw [fr];exact fun k=>by omega)⟩;rw [e2] at he;obtain rfl:e=((sdC cs h).key,(sdC cs h).bs):=by simpa [Tre.ents] using he
      exact q
  · have fl:frkL cs h d=(sdC cs h).l:=by unfold frkL;rw [if_pos e1]
    have fr:frkR cs h d=(sdC cs h).r:=by unfold frkR;rw [if_pos e1]
    have hdp:=p.dp e1;have t:=p.tree;rw [e2,hdp] at t;have n:=nd_ok W t;exact ⟨L,R,sides _ _ (by rw [e2];rfl) (fun z hz=>by
      rw [e2,hdp] at hz;rcases List.mem_cons.1 hz with q | q
      · rw [q,e2]
        exact .inr (.inr rfl)
      · rcases List.mem_append.1 q with q | q
        · exact .inl q
        · exact .inr (.inl q)) (fun z hz=>by
      rw [e2];exact List.mem_cons_of_mem _ (List.mem_append.2 hz)) (by rw [fl];exact e3) (by rw [fr];exact e4) n.bL n.bR (by rw [fl];exact n.kl) (by rw [fr];exact n.kr)⟩

end Go.Proofs.YtabiglnmfdpcfaaGreatDoor

namespace Go.Proofs.YtabiglnmfdpcfaaGreatDoor
variable {E:List Ent}
variable {c d h hi i lo p:Nat}
variable {cs:Lz}
variable {pend:List Nat}
variable {q:Int}
set_option maxRecDepth 20000
open Go.RowKit

def dE (E:List Ent) (K:Lq) (d:Nat):List Ent:=E.filter fun e=>shr K d e && !(e.1 == K)

def shk (kd:Nat→Int) (os:List Nat):Nat→Nat→Nat×Nat
  | 0,f=>(0,f)
  | m+1,f=>if os.getD m 0=0 then shk kd os m f else if f=0∧kd (os.getD m 0)=1 then shk kd os m (os.getD m 0) else (m+1,f)

structure DesOk (cs:Lz) (E:List Ent) (K:Lq) (f:Nat) (ss:List Nat):Prop where
  len:ss.length≤256
  side:∀d,d<ss.length→∃V,IsT cs (ss.getD d 0) V∧V.ents=bsE E K d∧((sdC cs (ss.getD d 0)).kind=2→(sdC cs (ss.getD d 0)).dp=d+1)
  low:∃U,IsT cs f U∧U.ents.Perm (dE E K ss.length)
  kind:(sdC cs f).kind≠2
  two:0<ss.length→2≤(dE E K (ss.length-1)).length

theorem IsT.pos (w:Wf cs pend) {h:Nat} {T:Tre} (hT:IsT cs h T) (h0:h≠0):1≤T.ents.length:=by
  have:=(tree_ok w T h hT).pos h0;exact List.length_pos_iff.2 this
theorem IsT.none {T:Tre} (hT:IsT cs 0 T):T=.emp:=IsT.one hT (show IsT cs 0 .emp from rfl)

structure DzI (cs0:Lz) (E:List Ent) (K:Lq) (f:Nat) (ss:List Nat) (m:Nat) (cs:Lz) (top:Nat):Prop where
  wf:Wf cs []
  keep:∀i,0<cc cs0 i→0<cc cs i∧Core (ce cs0 i) (ce cs i)
  tree:∃U,IsT cs top U∧U.ents.Perm (dE E K m)
  dp:(sdC cs top).kind=2→(sdC cs top).dp=m
  own:∀i,own cs [] i=own cs0 [] i+(ss.take m).count (i+1)+(if top=i+1 then 1 else 0)
  noc:noc cs+m=noc cs0+ss.length
  cnt:∀i,0<cc cs0 i→cc cs i=cc cs0 i+(f::ss).count (i+1)
  len:cs.length+m≤cs0.length+ss.length

structure DropOk (cs0:Lz) (E:List Ent) (K:Lq) (root top:Nat) (ss:List Nat) (cs':Lz):Prop where
  wf:Wf cs' []
  tree:∃U,IsT cs' top U∧U.ents.Perm (E.filter fun e=>!(e.1 == K))
  dp:(sdC cs' top).kind=2→(sdC cs' top).dp=0
  own:∀i,own cs' [] i+(if root=i+1 then 1 else 0)=own cs0 [] i+(if top=i+1 then 1 else 0)
  ne:top≠root
  keep:∀h T,IsT cs0 h T→(h=0∨0<cc cs' (h-1))→IsT cs' h T
  noc:noc cs'≤noc cs0+ss.length
  len:cs'.length≤cs0.length+ss.length

end Go.Proofs.YtabiglnmfdpcfaaGreatDoor

namespace Go.Proofs.YtabiglnmfdpcfaaGreatDoor
variable {E:List Ent}
variable {c d h hi i lo p:Nat}
variable {cs:Lz}
variable {pend:List Nat}
variable {q:Int}
set_option maxRecDepth 20000
open Go.RowKit

theorem entW_app (a b:List Wt):entW (a++b)=entW a++entW b:=by simp [entW]
theorem entW_perm {a b:List Wt} (h:a.Perm b):(entW a).Perm (entW b):=(h.filter _).map _
theorem wsd_perm (l:List Wt) (d:Nat):l.Perm (wsd l d 0++wsd l d 1):=by
  have h:=List.filter_append_perm (fun x:Wt=>kb x.k d == 0) l;have e:l.filter (fun x:Wt=>!(kb x.k d == 0))=wsd l d 1:=by
    unfold wsd;congr 1
    funext x
    rcases kb_two x.k d with q | q <;> rw [q] <;> rfl
  rw [e] at h;exact h.symm
theorem wsd_len (l:List Wt) (d:Nat):(wsd l d 0).length+(wsd l d 1).length=l.length:=by
  rw [← List.length_append];exact (wsd_perm l d).length_eq.symm
theorem any_wsd (l:List Wt) (d:Nat) (b:Int) (k:Lq) (hk:kb k d=b):((wsd l d b).any fun x=>x.k == k)=l.any fun x=>x.k == k:=by
  unfold wsd;rw [List.any_filter];congr 1
  funext x
  by_cases e:x.k=k
  · simp [e,hk]
  · have:(x.k == k)=false:=by simpa using e
    simp [this]
theorem ovE_split {EL ER:List Ent} (l:List Wt) {d:Nat} (bl:∀e∈EL,kb e.1 d=0) (br:∀e∈ER,kb e.1 d=1):(ovE (EL++ER) l).Perm (ovE EL (wsd l d 0)++ovE ER (wsd l d 1)):=by
  unfold ovE;rw [List.filter_append];have e1:EL.filter (fun e=>!((wsd l d 0).any fun x=>x.k == e.1))=EL.filter (fun e=>!(l.any fun x=>x.k == e.1)):=List.filter_congr fun e he=>by rw [any_wsd l d 0 e.1 (bl e he)]
  have e2:ER.filter (fun e=>!((wsd l d 1).any fun x=>x.k == e.1))=ER.filter (fun e=>!(l.any fun x=>x.k == e.1)):=List.filter_congr fun e he=>by rw [any_wsd l d 1 e.1 (br e he)]
  rw [e1,e2];have e3:(entW l).Perm (entW (wsd l d 0)++entW (wsd l d 1)):=by
    rw [← entW_app];exact entW_perm (wsd_perm l d)
  generalize EL.filter (fun e=>!(l.any fun x=>x.k == e.1))=A;generalize ER.filter (fun e=>!(l.any fun x=>x.k == e.1))=B;generalize entW (wsd l d 0)=C at e3 ⊢;generalize entW (wsd l d 1)=D at e3 ⊢;refine (e3.append_left (A++B)).trans ?_;rw [List.append_assoc,List.append_assoc];refine List.Perm.append_left A ?_;rw [← List.append_assoc,← List.append_assoc];exact List.perm_append_comm.append_right D
theorem ovE_mem {l:List Wt} {e:Ent} (h:e∈ovE E l):e∈E∨∃x∈l,x.g=false∧e=(x.k,x.b):=by
  rcases List.mem_append.1 h with q | q
  · exact .inl (List.mem_filter.1 q).1
  · obtain ⟨x,hx,rfl⟩:=List.mem_map.1 q
    have h1:=List.mem_filter.1 hx;exact .inr ⟨x,h1.1,by simpa using h1.2,rfl⟩

theorem nds_ok {cs:Lz} (W:Wf cs []):∀(T:Tre) (h d:Nat),IsT cs h T→((sdC cs h).kind=2→(sdC cs h).dp=d)→∀z∈T.nds,z.2≠[]∧(∀e∈z.2,e∈T.ents)∧∀c,z.1=some c→d≤c
  | .emp,_,_,_,_,z,hz=>by cases hz
  | .lf k b,h,d,_,_,z,hz=>by
    obtain rfl:z=(none,[(k,b)]):=by simpa [Tre.nds] using hz
    exact ⟨by simp,fun e he=>he,fun c hc=>by cases hc⟩
  | .nd d hl hr L R,h,d',hT,hd,z,hz=>by
    have n:=nd_ok W hT;obtain ⟨h1,h2,h3,h4,h5,h6,h7,h8⟩:=hT;have es:sdC cs h=ce cs (h-1):=if_neg (by omega);obtain rfl:d=d':=by
      rw [es] at hd;rw [← h4];exact hd h3
    rcases List.mem_cons.1 hz with q | q
    · subst q
      refine ⟨fun e=>?_,fun e he=>he,fun c hc=>by injection hc with hc;omega⟩;have:=n.two;simp only at e;rw [e] at this;simp at this
    · rcases List.mem_append.1 q with q | q
      · obtain ⟨a1,a2,a3⟩:=nds_ok W L hl (d+1) h7 n.kl z q
        exact ⟨a1,fun e he=>List.mem_append_left _ (a2 e he),fun c hc=>by have:=a3 c hc;omega⟩
      · obtain ⟨a1,a2,a3⟩:=nds_ok W R hr (d+1) h8 n.kr z q
        exact ⟨a1,fun e he=>List.mem_append_right _ (a2 e he),fun c hc=>by have:=a3 c hc;omega⟩
theorem pnd_ok {cs:Lz}:∀(G:Gt) (d:Nat),GOk cs d G→∀z∈G.pnd,z.2≠[]∧(∀e∈z.2,e∈G.ents)∧∀c,z.1=some c→d≤c
  | .old _ _,_,_,z,hz=>by cases hz
  | .lf x,d,_,z,hz=>by
    obtain rfl:z=(none,[(x.k,x.b)]):=by simpa [Gt.pnd] using hz
    exact ⟨by simp,fun e he=>he,fun c hc=>by cases hc⟩
  | .nd e L R,d,ok,z,hz=>by
    obtain ⟨rfl,_,k1,k2,_,_,two⟩:=ok;rcases List.mem_cons.1 hz with q | q
    · subst q
      refine ⟨fun e=>?_,fun e he=>he,fun c hc=>by injection hc with hc;omega⟩;simp only at e;rw [e] at two;simp at two
    · rcases List.mem_append.1 q with q | q
      · obtain ⟨a1,a2,a3⟩:=pnd_ok L _ k1 z q
        exact ⟨a1,fun e he=>List.mem_append_left _ (a2 e he),fun c hc=>by have:=a3 c hc;omega⟩
      · obtain ⟨a1,a2,a3⟩:=pnd_ok R _ k2 z q
        exact ⟨a1,fun e he=>List.mem_append_right _ (a2 e he),fun c hc=>by have:=a3 c hc;omega⟩
theorem IsG.pnds {cs:Lz} {ps:List Pn}:∀ {G:Gt} {lo hi:Nat} {q:Int},IsG cs ps lo hi q G→lo+G.pnd.length=hi
  | .old _ _,_,_,_,h=>by have:=h.2.1;simp [Gt.pnd];omega
  | .lf _,_,_,_,h=>by have:=h.2.1;simp [Gt.pnd];omega
  | .nd _ _ _,_,_,_,h=>by
    obtain ⟨m,n,a,b,h1,_,_,h4,h5⟩:=h;have:=IsG.pnds h4;have:=IsG.pnds h5;simp [Gt.pnd];omega

structure GrOk (cs:Lz) (d h:Nat) (T:Tre) (l:List Wt) (ps:List Pn) (q:Int) (ps':List Pn) (G:Gt):Prop where
  app:∃ns,ps'=ps++ns
  isG:IsG cs ps' ps.length ps'.length q G
  ents:G.ents.Perm (ovE T.ents l)
  ok:GOk cs d G
  new:G.ents.Perm T.ents→q=(h:Int)
  cnt:ps'.length≤ps.length+(257-d) * l.length
  ond:∀z∈G.ond,z∈T.nds
  pnd:∀y∈G.pnd,∀z∈T.nds,y.1=z.1→ ¬y.2.Perm z.2

theorem GrOk.stays {T:Tre} {l:List Wt} {ps ps':List Pn} {G:Gt} (g:GrOk cs d h T l ps q ps' G) (hq:0≤q):ps'=ps∧∃U,G=.old q.toNat U∧IsT cs q.toNat U:=by
  obtain ⟨U,u1,u2,u3⟩:=g.isG.nat hq;obtain ⟨ns,e⟩:=g.app;refine ⟨?_,U,u1,u3⟩;have:ns.length=0:=by
    have:=congrArg List.length e;rw [List.length_append] at this;omega
  rw [e,List.eq_nil_of_length_eq_zero this,List.append_nil]
theorem GOk.up {G:Gt} (h:GOk cs d G) (hi: ¬G.isI cs=true):GOk cs c G:=by
  cases G with
  | old x T=>exact fun k=>absurd (by simp [Gt.isI,k]) hi
  | lf x=>exact h
  | nd e L R=>exact absurd rfl hi
theorem GOk.some (W:Wf cs []) {ps:List Pn} {d lo hi:Nat} {q:Int} {G:Gt} (h:GOk cs d G) (g:IsG cs ps lo hi q G):(q≠0→1≤G.ents.length)∧(G.isI cs=true→2≤G.ents.length):=by
  cases G with
  | old x T=>
    obtain ⟨h1,_,h3⟩:=g;refine ⟨fun h0=>?_,fun hi=>?_⟩
    · have:=h3.pos W (by omega:x≠0)
      exact this
    · have hk:(sdC cs x).kind=2:=by simpa [Gt.isI] using hi
      rcases h3.cases with ⟨e,_⟩ | ⟨_,e,_⟩ | ⟨_,_,L,R,e,_⟩
      · rw [e] at hk
        exact absurd hk (by show ¬zc.kind=2;decide)
      · omega
      · subst e
        exact (nd_ok W h3).two
  | lf x=>exact ⟨fun _=>by simp [Gt.ents],fun e=>by cases e⟩
  | nd e L R=>
    obtain ⟨_,_,_,_,_,_,two⟩:=h;exact ⟨fun _=>by show 1≤(L.ents++R.ents).length;omega,fun _=>two⟩

theorem side_perm {A B C D:List Ent} (ha:∀e∈A,kb e.1 d=0) (hb:∀e∈B,kb e.1 d=1) (hc:∀e∈C,kb e.1 d=0) (hd:∀e∈D,kb e.1 d=1) (h:(A++B).Perm (C++D)):A.Perm C∧B.Perm D:=by
  have f0:∀(X Y:List Ent),(∀e∈X,kb e.1 d=0)→(∀e∈Y,kb e.1 d=1)→(X++Y).filter (fun e=>kb e.1 d == 0)=X∧(X++Y).filter (fun e=>kb e.1 d == 1)=Y:=fun X Y hx hy=>by
    rw [List.filter_append,List.filter_append,List.filter_eq_self.2 (fun e he=>by simp [hx e he]),List.filter_eq_nil_iff.2 (fun e he=>by simp [hy e he]),List.filter_eq_nil_iff.2 (fun e he=>by simp [hx e he]),List.filter_eq_self.2 (fun e he=>by simp [hy e he])];simp
  have h0:=h.filter (fun e=>kb e.1 d == 0);have h1:=h.filter (fun e=>kb e.1 d == 1);rw [(f0 A B ha hb).1,(f0 C D hc hd).1] at h0;rw [(f0 A B ha hb).2,(f0 C D hc hd).2] at h1;exact ⟨h0,h1⟩

theorem plc_tree {T:Tre} {k:Lq} (t:IsT cs h T) (p:Plc cs h k):(h=0∧T=.emp)∨(h≠0∧T=.lf k (sdC cs h).bs):=by
  rcases t.cases with e | ⟨e0,e1,e2⟩ | ⟨e0,e1,_⟩
  · exact .inl e
  · rcases p with p | ⟨_,p⟩
    · exact absurd p e0
    · exact .inr ⟨e0,by rw [e2,p]⟩
  · rcases p with p | ⟨p,_⟩
    · exact absurd p e0
    · omega

theorem grw_ok (W:Wf cs []) {d h:Nat} {l:List Wt} {ps ps':List Pn} {q:Int} (g:Grw cs d h l ps q ps'):∀(T:Tre),GPre cs d h T l→∃G,GrOk cs d h T l ps q ps' G:=by
  induction g with
  | @none d h ps=>
    intro T p;exact ⟨.old h T,⟨[],by simp⟩,⟨rfl,rfl,p.tree⟩,by rw [ovE_nil];exact .refl _,p.dp,fun _=>rfl,Nat.le_add_right _ _,fun z hz=>hz,fun y hy=>by cases hy⟩
  | @gone d h x ps hp hg=>
    intro T p;refine ⟨.old 0 .emp,⟨[],by simp⟩,⟨rfl,rfl,rfl⟩,?_,fun k=>absurd k (by show ¬zc.kind=2;decide),fun q=>?_,Nat.le_add_right _ _,fun z hz=>(by cases hz),fun y hy=>by cases hy⟩
    · rcases plc_tree p.tree hp with ⟨_,rfl⟩ | ⟨_,rfl⟩
      · simp [ovE,entW,hg,Tre.ents,Gt.ents]
      · simp [ovE,entW,hg,Tre.ents,Gt.ents]
    · rcases plc_tree p.tree hp with ⟨e,_⟩ | ⟨_,rfl⟩
      · rw [e];rfl
      · have:=q.length_eq
        simp [Gt.ents,Tre.ents] at this
  | @same d h x ps hp hg h0 hb=>
    intro T p;refine ⟨.old h T,⟨[],by simp⟩,⟨rfl,rfl,p.tree⟩,?_,p.dp,fun _=>rfl,Nat.le_add_right _ _,fun z hz=>hz,fun y hy=>by cases hy⟩;rcases plc_tree p.tree hp with ⟨e,_⟩ | ⟨_,rfl⟩
    · exact absurd e h0
    · simp [ovE,entW,hg,Tre.ents,Gt.ents,hb]
  | @leaf d h x ps hp hg hn=>
    intro T p;refine ⟨.lf x,⟨[pnL x],rfl⟩,⟨rfl,by simp,by simp⟩,?_,⟨p.ok x (by simp),hg⟩,fun q=>?_,?_,fun z hz=>(by cases hz),fun y hy z hz e1 e2=>?_⟩
    · rcases plc_tree p.tree hp with ⟨_,rfl⟩ | ⟨_,rfl⟩
      · simp [ovE,entW,hg,Tre.ents,Gt.ents]
      · simp [ovE,entW,hg,Tre.ents,Gt.ents]
    · rcases plc_tree p.tree hp with ⟨_,rfl⟩ | ⟨h0,rfl⟩
      · have:=q.length_eq
        simp [Gt.ents,Tre.ents] at this
      · have:=List.perm_singleton.1 q
        simp [Gt.ents] at this;exact absurd ⟨h0,this.symm⟩ hn
    · have:=p.d
      simp;omega
    · obtain rfl:y=(Option.none,[(x.k,x.b)]):=by simpa [Gt.pnd] using hy
      rcases plc_tree p.tree hp with ⟨_,rfl⟩ | ⟨h0,rfl⟩
      · cases hz
      · obtain rfl:z=(Option.none,[(x.k,(sdC cs h).bs)]):=by simpa [Tre.nds] using hz
        have:=List.perm_singleton.1 e2;simp at this;exact hn ⟨h0,this.symm⟩
  | @stay d h l ps p1 p2 h0 hp g1 g2 ih1 ih2=>
    intro T p;obtain ⟨TL,TR,S⟩:=gsd_of W p h0 hp;obtain ⟨GL,k1⟩:=ih1 TL S.pl;obtain ⟨GR,k2⟩:=ih2 TR S.pr;obtain ⟨rfl,U,rfl,u1⟩:=k1.stays (by omega);obtain ⟨rfl,V,rfl,v1⟩:=k2.stays (by omega);rw [Int.toNat_natCast] at u1 v1;have eU:=u1.one S.pl.tree;have eV:=v1.one S.pr.tree;subst eU eV;refine ⟨.old h T,⟨[],by simp⟩,⟨rfl,rfl,p.tree⟩,?_,p.dp,fun _=>rfl,Nat.le_add_right _ _,fun z hz=>hz,fun y hy=>by cases hy⟩;show T.ents.Perm _;rw [S.ents];exact (k1.ents.append k2.ents).trans (ovE_split l S.bl S.br).symm
  | @join d h l ps p1 p2 a b h0 hp g1 g2 hne ih1 ih2=>
    intro T p;obtain ⟨TL,TR,S⟩:=gsd_of W p h0 hp;obtain ⟨GL,k1⟩:=ih1 TL S.pl;obtain ⟨GR,k2⟩:=ih2 TR S.pr;have hd:=S.lt;have bits:∀(E:List Ent) (c:Int),(∀e∈E,kb e.1 d=c)→∀e∈ovE E (wsd l d c),kb e.1 d=c:=fun E c hE e he=>by
      rcases ovE_mem he with q | ⟨x,hx,_,rfl⟩
      · exact hE e q
      · simpa using (List.mem_filter.1 hx).2
    have bL:∀e∈GL.ents,kb e.1 d=0:=fun e he=>bits TL.ents 0 S.bl e (k1.ents.mem_iff.1 he)
    have bR:∀e∈GR.ents,kb e.1 d=1:=fun e he=>bits TR.ents 1 S.br e (k2.ents.mem_iff.1 he)
    have he:(GL.ents++GR.ents).Perm (ovE T.ents l):=by
      rw [S.ents];exact (k1.ents.append k2.ents).trans (ovE_split l S.bl S.br).symm
    have hnw: ¬(GL.ents++GR.ents).Perm T.ents:=fun q=>by
      rw [S.ents] at q;obtain ⟨q1,q2⟩:=side_perm bL bR S.bl S.br q;exact hne ⟨k1.new q1,k2.new q2⟩
    obtain ⟨n1,e1⟩:=k1.app;obtain ⟨n2,e2⟩:=k2.app;have c1:=k1.cnt;have c2:=k2.cnt;have hl:=wsd_len l d;have hl0:1≤l.length:=List.length_pos_iff.2 h0;have hc:p2.length+1≤ps.length+(257-d) * l.length:=by
      have hm:(257-d) * l.length=(257-(d+1)) * (wsd l d 0).length+(257-(d+1)) * (wsd l d 1).length+l.length:=by
        rw [← Nat.mul_add,hl,show 257-d=257-(d+1)+1 by omega,Nat.succ_mul]
      omega
    have oL:∀z∈GL.ond,z∈T.nds:=fun z hz=>S.sub z (.inl (k1.ond z hz))
    have oR:∀z∈GR.ond,z∈T.nds:=fun z hz=>S.sub z (.inr (k2.ond z hz))
    have apart:∀(y z:Option Nat×List Ent) (c c':Int),c≠c'→y.2≠[]→(∀e∈y.2,kb e.1 d=c)→(∀e∈z.2,kb e.1 d=c')→ ¬y.2.Perm z.2:=fun y z c c' hcc h1 h2 h3 hpm=>by
      obtain ⟨e,he⟩:=List.exists_mem_of_ne_nil _ h1;have:=h2 e he;have:=h3 e (hpm.mem_iff.1 he);omega
    have dL:=nds_ok W TL _ _ S.pl.tree S.pl.dp;have dR:=nds_ok W TR _ _ S.pr.tree S.pr.dp;have nL:∀y∈GL.pnd,∀z∈T.nds,y.1=z.1→ ¬y.2.Perm z.2:=fun y hy z hz q=>by
      obtain ⟨a1,a2,a3⟩:=pnd_ok GL _ k1.ok y hy;rcases S.nds z hz with hz | hz | rfl
      · exact k1.pnd y hy z hz q
      · exact apart y z 0 1 (by omega) a1 (fun e he=>bL e (a2 e he)) (fun e he=>S.br e ((dR z hz).2.1 e he))
      · have:=a3 d q
        omega
    have nR:∀y∈GR.pnd,∀z∈T.nds,y.1=z.1→ ¬y.2.Perm z.2:=fun y hy z hz q=>by
      obtain ⟨a1,a2,a3⟩:=pnd_ok GR _ k2.ok y hy;rcases S.nds z hz with hz | hz | rfl
      · exact apart y z 1 0 (by omega) a1 (fun e he=>bR e (a2 e he)) (fun e he=>S.bl e ((dL z hz).2.1 e he))
      · exact k2.pnd y hy z hz q
      · have:=a3 d q
        omega
    have i1:IsG cs p2 ps.length p1.length a GL:=by
      rw [e2];exact k1.isG.more n2
    have hkd:=i1.kd;have hkb:=k2.isG.kd;have z2:kdP cs p2 0≠2:=by
      rw [kdP,if_neg (by omega)];show ¬zc.kind=2;decide
    by_cases ca:a=0∧kdP cs p2 b≠2
    · obtain ⟨rfl,cb⟩:=ca
      obtain ⟨rfl,U,rfl,u1⟩:=k1.stays (by omega);have u1:IsT cs 0 U:=u1;have ue:=u1.none;subst ue;unfold jnQ jnP;rw [if_pos ⟨rfl,cb⟩,if_pos ⟨rfl,cb⟩];exact ⟨GR,k2.app,k2.isG,he,k2.ok.up (fun q=>cb (hkb.2 q)),fun q=>absurd q hnw,by omega,oR,nR⟩
    · by_cases cb:b=0∧kdP cs p2 a≠2
      · obtain ⟨rfl,cb⟩:=cb
        obtain ⟨rfl,U,rfl,u1⟩:=k2.stays (by omega);have u1:IsT cs 0 U:=u1;have ue:=u1.none;subst ue;unfold jnQ jnP;rw [if_neg ca,if_neg ca,if_pos ⟨rfl,cb⟩,if_pos ⟨rfl,cb⟩];have hz:GL.ents++(Gt.old (Int.toNat 0) .emp).ents=GL.ents:=by show GL.ents++[]=_;simp
        rw [hz] at he hnw;exact ⟨GL,⟨n1,e1⟩,i1,he,k1.ok.up (fun q=>cb (hkd.2 q)),fun q=>absurd q hnw,by omega,oL,nL⟩
      · unfold jnQ jnP
        rw [if_neg ca,if_neg ca,if_neg cb,if_neg cb];obtain ⟨sa1,sa2⟩:=k1.ok.some W k1.isG;obtain ⟨sb1,sb2⟩:=k2.ok.some W k2.isG;have two:2≤(GL.ents++GR.ents).length:=by
          rw [List.length_append]
          by_cases a0:a=0
          · have:=sb2 (hkb.1 (Classical.byContradiction fun q=>ca ⟨a0,q⟩))
            omega
          · by_cases b0:b=0
            · have:=sa2 (hkd.1 (Classical.byContradiction fun q=>cb ⟨b0,q⟩))
              omega
            · have:=sa1 a0
              have:=sb1 b0;omega
        refine ⟨.nd d GL GR,⟨n1++n2++[pnI d a b],by rw [e2,e1];simp⟩,⟨p1.length,p2.length,a,b,by simp,rfl,by simp,i1.more _,k2.isG.more _⟩,he,⟨rfl,hd,k1.ok,k2.ok,bL,bR,two⟩,fun q=>absurd q hnw,by rw [List.length_append];exact hc,fun z hz=>?_,fun y hy z hz q=>?_⟩
        · rcases List.mem_append.1 hz with hz | hz
          · exact oL z hz
          · exact oR z hz
        · rcases List.mem_cons.1 hy with rfl | hy
          · intro hpm
            rcases S.nds z hz with hz | hz | rfl
            · have:=(dL z hz).2.2 d q.symm
              omega
            · have:=(dR z hz).2.2 d q.symm
              omega
            · exact hnw hpm
          · rcases List.mem_append.1 hy with hy | hy
            · exact nL y hy z hz q
            · exact nR y hy z hz q

end Go.Proofs.YtabiglnmfdpcfaaGreatDoor
