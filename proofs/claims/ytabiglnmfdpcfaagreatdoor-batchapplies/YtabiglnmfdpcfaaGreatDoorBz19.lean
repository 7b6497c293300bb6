/- What stands beside a key's way in the tree that is written with it: which entries are below each of these sides. No program in this text. -/
import Derived.Test.YtabiglnmfdpcfaaGreatDoorBz01
import Derived.Test.YtabiglnmfdpcfaaGreatDoorBz18
import Derived.Test.YtabiglnmfdpcfaaGreatDoorBz03
namespace Go.Proofs.YtabiglnmfdpcfaaGreatDoor
variable {T:Tre}
variable {a b b' c d h i j k m mid r s:Nat}
variable {cs cs':Lz}
variable {fr:List Nat}
set_option maxRecDepth 20000
open Go.RowKit

def shr (K:Lq) (d:Nat) (e:Ent):Bool:=(List.range d).all fun j=>kb e.1 j == kb K j
def wE (E:List Ent) (K bs:Lq) (d:Nat):List Ent:=(K,bs)::E.filter fun e=>shr K d e && !(e.1 == K)
def bsE (E:List Ent) (K:Lq) (d:Nat):List Ent:=E.filter fun e=>shr K d e && !(kb e.1 d == kb K d)

structure BesOk (cs:Lz) (E:List Ent) (K:Lq) (ss:List Nat):Prop where
  len:ss.length≤256
  side:∀d,d<ss.length→∃V,IsT cs (ss.getD d 0) V∧V.ents=bsE E K d∧((sdC cs (ss.getD d 0)).kind=2→(sdC cs (ss.getD d 0)).dp=d+1)
  last:0<ss.length→ss.getD (ss.length-1) 0≠0
  none:E.filter (fun e=>shr K ss.length e && !(e.1 == K))=[]

def WayB (cs:Lz) (E:List Ent) (K:Lq) (os:List Nat) (ef:List Ent) (d:Nat):Prop:=
  (∀j,j<os.length→∃V,IsT cs (os.getD j 0) V∧V.ents=bsE E K (d+j)∧((sdC cs (os.getD j 0)).kind=2→(sdC cs (os.getD j 0)).dp=d+j+1))∧ef=E.filter (shr K (d+os.length))∧d+os.length≤256∧(0<os.length→os.getD (os.length-1) 0≠0)

def besX (oth:List Nat) (c f:Nat):List Nat:=oth++(List.replicate (c-oth.length) 0++[f])
end Go.Proofs.YtabiglnmfdpcfaaGreatDoor

namespace Go.Proofs.YtabiglnmfdpcfaaGreatDoor
variable {T:Tre}
variable {a b b' c d h i j k m mid r s:Nat}
variable {cs cs':Lz}
variable {fr:List Nat}
set_option maxRecDepth 20000
open Go.RowKit

theorem moreC_cc (hi:0<cc cs i) (j:Nat):cc (moreC cs i) j=cc cs j+(if i=j then 1 else 0):=by
  unfold moreC;rw [cc_set cs i j _ (cc_lt hi)]
  by_cases e:j=i
  · rw [if_pos e,if_pos e.symm,e]
  · rw [if_neg e,if_neg (fun q=>e q.symm)];rfl
theorem moreC_len (cs:Lz) (i:Nat):(moreC cs i).length=cs.length:=by simp [moreC]
theorem moreC_noc (hi:0<cc cs i):noc (moreC cs i)=noc cs:=by
  have:=noc_set cs i (cc cs i+1,ce cs i) (cc_lt hi);simp only at this;unfold moreC;rw [if_pos hi,if_pos (by omega)] at this;omega

def holdM:Lz→List Nat→Lz
  | cs,[]=>cs
  | cs,h::r=>holdM (if h=0 then cs else moreC cs (h-1)) r

theorem holdM_snoc:∀(l:List Nat) (cs:Lz) (h:Nat),holdM cs (l++[h])=if h=0 then holdM cs l else moreC (holdM cs l) (h-1)
  | [],_,_=>rfl
  | x::r,cs,h=>by
    rw [List.cons_append,holdM,holdM_snoc r];rfl

structure HmOk (cs:Lz) (ss:List Nat) (cs':Lz):Prop where
  len:cs'.length=cs.length
  ce:∀i,ce cs' i=ce cs i
  cc:∀i,cc cs' i=cc cs i+ss.count (i+1)
  noc:noc cs'=noc cs
  wf:Wf cs' []

theorem hm_ok {cs:Lz} (w:Wf cs []):∀(n:Nat) (ss:List Nat),ss.length=n→(∀h∈ss,h=0∨0<cc cs (h-1))→HmOk cs ss (holdM cs ss)
  | 0,ss,hn,_=>by
    obtain rfl:=List.eq_nil_of_length_eq_zero hn;exact ⟨rfl,fun _=>rfl,fun i=>by simp [holdM],rfl,w⟩
  | n+1,ss,hn,hh=>by
    rcases List.eq_nil_or_concat ss with e | ⟨l,h,e⟩
    · rw [e] at hn
      simp at hn
    · rw [List.concat_eq_append] at e
      subst e;have ih:=hm_ok w n l (by simpa using hn) (fun q hq=>hh q (by simp [hq]));rw [holdM_snoc]
      by_cases h0:h=0
      · subst h0
        rw [if_pos rfl];exact ⟨ih.len,ih.ce,fun i=>by rw [ih.cc,List.count_append];simp,ih.noc,ih.wf⟩
      · rw [if_neg h0]
        have hc:0<cc (holdM cs l) (h-1):=by
          rw [ih.cc];rcases hh h (by simp) with e | e <;> omega
        refine ⟨by rw [moreC_len,ih.len],fun i=>by rw [moreC_ce,ih.ce],fun i=>?_,by rw [moreC_noc hc,ih.noc],ih.wf.more _ hc⟩;rw [moreC_cc hc,ih.cc,List.count_append,List.count_singleton]
        by_cases e:h-1=i
        · rw [if_pos e,if_pos (by simp;omega)]
          omega
        · rw [if_neg e,if_neg (by simp;omega)]
          rfl

theorem HmOk.own {ss:List Nat} (h:HmOk cs ss cs') (w:Wf cs []) (i:Nat):own cs' [] i=own cs [] i+ss.count (i+1):=by
  have:=w.le i;unfold Go.Proofs.YtabiglnmfdpcfaaGreatDoor.own;rw [h.cc,h.ce];omega

theorem noc_tk (h:FrOk cs fr) (p:Nat×Ce) (hp:0<p.1):noc (tkC cs fr p)=noc cs+1:=by
  rcases tk_cases cs fr with ⟨s,fr0,rfl,e1,e2⟩ | ⟨rfl,e1,e2⟩
  · obtain ⟨h1,h2,h3⟩:=h s (by simp)
    have:=noc_set cs (s-1) p (by omega);rw [h3,if_neg (by omega),if_pos hp] at this;rw [e2];omega
  · rw [e2]
    unfold noc;rw [List.map_append,List.map_singleton,occs_snoc];rw [if_pos (show 0<(pl p).1 from hp)]

def InnR (cs:Lz) (fr:List Nat) (d l r:Nat) (cs':Lz):Prop:=
  ∃KF,IsFill (if (sdC cs l).kind=0 then (sdC cs r).key else (sdC cs l).key) d 0 KF∧cs'=upA (upA (tkC cs fr (1,inC (inD (sdD cs l) (sdD cs r)) KF ((sdC cs l).sz+(sdC cs r).sz) d l r)) l) r

theorem own_inner {l:Nat} (W:Wf cs []) (W':Wf cs' []) (hF:FrOk cs fr) (hml:mayP cs (l:Int)) (hmr:mayP cs (r:Int)) (h:InnR cs fr d l r cs'):
    (∀i,own cs' [] i+(if l=i+1 then 1 else 0)+(if r=i+1 then 1 else 0)=own cs [] i+(if tkH cs fr=i+1 then 1 else 0))∧(∀i,0<cc cs i→0<cc cs' i∧Core (ce cs i) (ce cs' i))∧noc cs'=noc cs+1∧cc cs (tkH cs fr-1)=0∧1≤tkH cs fr∧
      (∀L R,IsT cs l L→IsT cs r R→IsT cs' (tkH cs fr) (.nd d l r L R))∧(sdC cs' (tkH cs fr)).dp=d∧(∀i,cc cs' i=if i=tkH cs fr-1 then 1 else cc cs i)∧cs'.length≤cs.length+1:=by
  obtain ⟨KF,hKF,rfl⟩:=h;obtain ⟨X,hX⟩:∃X,X=inC (inD (sdD cs l) (sdD cs r)) KF ((sdC cs l).sz+(sdC cs r).sz) d l r:=⟨_,rfl⟩;rw [← hX] at W' ⊢;have xk:X.kind=2:=by rw [hX];rfl
  have xd:X.dp=d:=by rw [hX];rfl
  have xl:X.l=l:=by rw [hX];rfl
  have xr:X.r=r:=by rw [hX];rfl
  have xa:X.ab=0:=by rw [hX];rfl
  obtain ⟨t1,tk⟩:=tk_of hF (1,X);have u1:=upA_of (tkC cs fr (1,X)) l;have uu:=u1.trans (upA_of (upA (tkC cs fr (1,X)) l) r);have sl:∀q:Nat,mayP cs (q:Int)→(q≠0→0<cc cs (q-1))∧(q-1<(tkC cs fr (1,X)).length∨q=0):=fun q m=>by
    rcases m.side with e | ⟨e1,e2,_⟩
    · exact ⟨fun q0=>absurd e q0,.inr e⟩
    · have:=cc_lt e2
      rw [tk.len];exact ⟨fun _=>e2,.inl (by omega)⟩
  obtain ⟨l1,l2⟩:=sl l hml;obtain ⟨r1,r2⟩:=sl r hmr;have hab:∀i,(ce (upA (upA (tkC cs fr (1,X)) l) r) i).ab=(ce (tkC cs fr (1,X)) i).ab+(if l=i+1 then 1 else 0)+(if r=i+1 then 1 else 0):=fun i=>by
    rw [upA_ab _ r i (by rw [u1.len];exact r2),upA_ab _ l i l2]
  have hcc:∀i,cc (upA (upA (tkC cs fr (1,X)) l) r) i=if i=tkH cs fr-1 then 1 else cc cs i:=fun i=>by rw [uu.cc,tk.cc]
  have nv:∀q:Nat,(q≠0→0<cc cs (q-1))→q≠tkH cs fr:=fun q h e=>by
    have h1:=h (by omega);rw [e,tk.vac] at h1;omega
  have kp:∀i,0<cc cs i→0<cc (upA (upA (tkC cs fr (1,X)) l) r) i∧Core (ce cs i) (ce (upA (upA (tkC cs fr (1,X)) l) r) i):=fun i hi=>by
    have hne: ¬i=tkH cs fr-1:=fun e=>by
      rw [e,tk.vac] at hi;omega
    refine ⟨by rw [hcc,if_neg hne];exact hi,?_⟩;have:=uu.core i;rwa [tk.ce,if_neg hne] at this
  have cr:Core X (ce (upA (upA (tkC cs fr (1,X)) l) r) (tkH cs fr-1)):=by
    have:=uu.core (tkH cs fr-1);rwa [tk.ce,if_pos rfl] at this
  have cn:cc (upA (upA (tkC cs fr (1,X)) l) r) (tkH cs fr-1)=1:=by rw [hcc,if_pos rfl]
  refine ⟨fun i=>?_,kp,?_,tk.vac,t1,fun L R hL hR=>⟨t1,by rw [cn];omega,by rw [cr];exact xk,by rw [cr];exact xd,by rw [cr];exact xl,by rw [cr];exact xr,hL.keep kp,hR.keep kp⟩,by rw [sdC,if_neg (by omega),cr];exact xd,hcc,by rw [uu.len,tk.len];have:=tk.le;omega⟩
  · have hle:=W'.le i
    have hle0:=W.le i;have h1:=hab i;have h2:=hcc i;have h3:=tk.ce i;rw [List.count_nil] at hle hle0;unfold own;rw [List.count_nil]
    by_cases e:i=tkH cs fr-1
    · have e2:tkH cs fr=i+1:=by omega
      have n1: ¬l=i+1:=by rw [← e2];exact nv l l1
      have n2: ¬r=i+1:=by rw [← e2];exact nv r r1
      have v:=tk.vac;rw [← e] at v;rw [if_pos e] at h2 h3;rw [h3] at h1;rw [if_neg n1,if_neg n2,xa] at h1;rw [if_neg n1,if_neg n2,if_pos e2];omega
    · rw [if_neg e] at h2 h3
      rw [h3] at h1;rw [if_neg (show ¬tkH cs fr=i+1 by omega)];omega
  · rw [uu.noc,noc_tk hF (1,X) (by show 0<1;omega)]

theorem side_fits (w:Wf cs []) {x:Nat} {X:Tre} (hT:IsT cs x X) (d:Nat) (hd:(sdC cs x).kind=2→(sdC cs x).dp=d+1) (bit:Int) (hb:∀e∈X.ents,kb e.1 d=bit):
    (sdC cs x).sz=X.ents.length∧fsP (sdC cs x) d bit=true∧(x≠0→∃e∈X.ents,∀j,j<d+1→kb e.1 j=kb (sdC cs x).key j):=by
  have ok:=tree_ok w X x hT
  by_cases h0:x=0
  · subst h0
    exact ⟨ok.sz,rfl,fun q=>absurd rfl q⟩
  · have es1:sdC cs x=ce cs (x-1):=if_neg h0
    have hex:∃e∈X.ents,∀j,j<d+1→kb e.1 j=kb (sdC cs x).key j:=by
      obtain ⟨e,he⟩:=List.exists_mem_of_ne_nil _ (ok.pos h0);refine ⟨e,he,ok.share (d+1) h0 (fun k=>?_) e he⟩;have:=hd (by rw [es1];exact k);rw [es1] at this;omega
    have hk:kb (sdC cs x).key d=bit:=by
      obtain ⟨e,he,hq⟩:=hex;rw [← hq d (by omega)];exact hb e he
    have hcc:0<cc cs (x-1):=by
      match X,hT with
      | .emp,e=>exact absurd e h0
      | .lf _ _,h=>exact h.2.1
      | .nd _ _ _ _ _,h=>exact h.2.1
    have hkd:=w.kinds (x-1) hcc;rw [← es1] at hkd;refine ⟨ok.sz,?_,fun _=>hex⟩;unfold fsP;rcases hkd with e | e
    · rw [if_pos e]
      simpa using hk
    · rw [if_neg (by omega),if_pos e,hd e]
      simpa using hk

theorem two_fit (w:Wf cs []) {l r:Nat} {L R:Tre} (hL:IsT cs l L) (hR:IsT cs r R) (d:Nat) (hd:d<256) (dl:(sdC cs l).kind=2→(sdC cs l).dp=d+1) (dr:(sdC cs r).kind=2→(sdC cs r).dp=d+1) (bl:∀e∈L.ents,kb e.1 d=0) (br:∀e∈R.ents,kb e.1 d=1) (hn:2≤L.ents.length+R.ents.length) (K:Lq) (sl:∀e∈L.ents,∀j,j<d→kb e.1 j=kb K j) (sr:∀e∈R.ents,∀j,j<d→kb e.1 j=kb K j):
    ∃u,(u=true↔Und (sdC cs l).key (sdC cs r).key (d:Int))∧fitP d (sdC cs l) (sdC cs r) u=true:=by
  obtain ⟨a1,a2,a3⟩:=side_fits w hL d dl 0 bl;obtain ⟨b1,b2,b3⟩:=side_fits w hR d dr 1 br
  by_cases hu:Und (sdC cs l).key (sdC cs r).key (d:Int)
  · refine ⟨true,by simp [hu],?_⟩
    unfold fitP;rw [a2,b2];simp;omega
  · refine ⟨false,by simp [hu],?_⟩
    have:(sdC cs l).kind=0∨(sdC cs r).kind=0:=by
      apply Classical.byContradiction;intro hq;have hl0:l≠0:=fun e=>hq (.inl (by rw [e];rfl))
      have hr0:r≠0:=fun e=>hq (.inr (by rw [e];rfl))
      obtain ⟨x,hx,hxk⟩:=a3 hl0;obtain ⟨y,hy,hyk⟩:=b3 hr0;refine hu ⟨by omega,by omega,fun j hj=>?_⟩;rw [← hxk j (by omega),← hyk j (by omega),sl x hx j (by omega),sr y hy j (by omega)]
    unfold fitP;rw [a2,b2];rcases this with e | e <;> simp [e] <;> omega

structure RzI (cs0:Lz) (E:List Ent) (K bs:Lq) (ss:List Nat) (m:Nat) (cs:Lz) (top:Nat):Prop where
  wf:Wf cs []
  keep:∀i,0<cc cs0 i→0<cc cs i∧Core (ce cs0 i) (ce cs i)
  tree:∃U,IsT cs top U∧U.ents.Perm (wE E K bs m)
  dp:(sdC cs top).kind=2→(sdC cs top).dp=m
  own:∀i,own cs [] i=own cs0 [] i+(ss.take m).count (i+1)+(if top=i+1 then 1 else 0)
  new:1≤top∧cc cs0 (top-1)=0
  noc:noc cs+m=noc cs0+1+ss.length
  cnt:∀i,0<cc cs0 i→cc cs i=cc cs0 i+ss.count (i+1)
  len:cs.length+m≤cs0.length+1+ss.length

theorem IsT.occ (hT:IsT cs h T):h=0∨1≤h∧0<cc cs (h-1):=by
  match T,hT with
  | .emp,e=>exact .inl e
  | .lf _ _,h=>exact .inr ⟨h.1,h.2.1⟩
  | .nd _ _ _ _ _,h=>exact .inr ⟨h.1,h.2.1⟩

theorem may_own (ho:h=0∨0<own cs [] (h-1)):mayP cs (h:Int):=by
  by_cases h0:h=0
  · exact .inl (by omega)
  · refine .inr ?_
    have:=ho.resolve_left h0;unfold own at this;rw [List.count_nil] at this;rw [cat_nat,cot,if_pos (by omega),show ((h:Int)-1).toNat=h-1 by omega,sdC,if_neg h0];omega

def tl (K:Lq) (m top s:Nat):Nat:=if kb K m=1 then s else top
def tr (K:Lq) (m top s:Nat):Nat:=if kb K m=1 then top else s

inductive Rz (K:Lq):List Nat→Lz→List Nat→Nat→Lz→List Nat→Nat→Prop
  | done (cs:Lz) (fr:List Nat) (t:Nat):Rz K [] cs fr t cs fr t
  | step {ss:List Nat} {s:Nat} {cs cs1 cs2:Lz} {fr fr2:List Nat} {t t2:Nat}:InnR cs fr ss.length (tl K ss.length t s) (tr K ss.length t s) cs1→Rz K ss cs1 fr.dropLast (tkH cs fr) cs2 fr2 t2→Rz K (ss++[s]) cs fr t cs2 fr2 t2

theorem IsT.stay {cs cs':Lz} {pend:List Nat} (w':Wf cs' pend) (k:∀i,0<cc cs' i→0<cc cs i∧Core (ce cs i) (ce cs' i)):∀ {T:Tre} {h:Nat},IsT cs h T→(h=0∨0<cc cs' (h-1))→IsT cs' h T
  | .emp,_,e,_=>e
  | .lf _ _,h,⟨h1,h2,h3,h4,h5⟩,ho=>by
    have o:=ho.resolve_left (by omega);refine ⟨h1,o,?_⟩;rw [(k _ o).2];exact ⟨h3,h4,h5⟩
  | .nd _ hl hr _ _,h,⟨h1,h2,h3,h4,h5,h6,h7,h8⟩,ho=>by
    have o:=ho.resolve_left (by omega);have kc:=(k _ o).2;have sd:∀q,(q=hl∨q=hr)→(q=0∨0<cc cs' (q-1)):=fun q hq=>by
      by_cases q0:q=0
      · exact .inl q0
      · refine .inr (Wf.sides w'.ab w'.le (h-1) o q ?_ q0)
        rw [kc];rcases hq with e | e
        · exact .inl (e.trans h5.symm)
        · exact .inr (e.trans h6.symm)
    refine ⟨h1,o,?_⟩;rw [kc];exact ⟨h3,h4,h5,h6,IsT.stay w' k h7 (sd _ (.inl rfl)),IsT.stay w' k h8 (sd _ (.inr rfl))⟩

structure PutOk (cs0:Lz) (E:List Ent) (K bs:Lq) (root top:Nat) (ss:List Nat) (cs':Lz):Prop where
  wf:Wf cs' []
  tree:∃U,IsT cs' top U∧U.ents.Perm ((K,bs)::E.filter fun e=>!(e.1 == K))
  dp:(sdC cs' top).kind=2→(sdC cs' top).dp=0
  own:∀i,own cs' [] i+(if root=i+1 then 1 else 0)=own cs0 [] i+(if top=i+1 then 1 else 0)
  new:1≤top∧cc cs0 (top-1)=0
  keep:∀h T,IsT cs0 h T→(h=0∨0<cc cs' (h-1))→IsT cs' h T
  noc:noc cs'≤noc cs0+(1+ss.length)
  len:cs'.length≤cs0.length+(1+ss.length)
  just:root=0∨root∈ss→Go.Proofs.YtabiglnmfdpcfaaGreatDoor.noc cs'=Go.Proofs.YtabiglnmfdpcfaaGreatDoor.noc cs0+(1+ss.length)

theorem own_pend (hr:1≤r) (ho:0<own cs [] (r-1)):own cs [r] i+(if r=i+1 then 1 else 0)=own cs [] i:=by
  unfold own at *;rw [List.count_nil,List.count_singleton] at *
  by_cases e:r=i+1
  · subst e
    rw [Nat.add_sub_cancel] at ho;rw [if_pos rfl,if_pos (by simp)];omega
  · rw [if_neg e,if_neg (by simpa using e)]
    rfl

end Go.Proofs.YtabiglnmfdpcfaaGreatDoor

namespace Go.Proofs.YtabiglnmfdpcfaaGreatDoor
variable {T:Tre}
variable {a b b' c d h i j k m mid r s:Nat}
variable {cs cs':Lz}
variable {fr:List Nat}
set_option maxRecDepth 20000
open Go.RowKit

structure Wt where
  k:Lq
  g:Bool
  b:Lq
  v:Value
instance:Inhabited Wt:=⟨⟨[],false,[],.slice none 0 0⟩⟩

theorem al_trans {a b c:Lq} (h:Ahead a b) (k:Ahead b c):Ahead a c:=by
  obtain ⟨i,hi,h1,h2,h3⟩:=h;obtain ⟨j,hj,k1,k2,k3⟩:=k;rcases Nat.lt_trichotomy i j with e | e | e
  · exact ⟨i,hi,fun q hq=>(h1 q hq).trans (k1 q (by omega)),h2,by rw [← k1 i e];exact h3⟩
  · subst e
    omega
  · exact ⟨j,hj,fun q hq=>(h1 q (by omega)).trans (k1 q hq),by rw [h1 j e];exact k2,k3⟩
theorem al_irr (a:Lq): ¬Ahead a a:=fun ⟨_,_,_,h2,h3⟩=>by omega
theorem al_tot {a b:Lq} (ha:Key a) (hb:Key b) (h: ¬Ahead a b):a=b∨Ahead b a:=by
  rcases cmp_key ha hb with ⟨_,e⟩ | ⟨_,e⟩ | ⟨_,e⟩
  · exact .inl e
  · exact absurd e h
  · exact .inr e
theorem al_cmp {a b:Lq} (ha:Key a) (hb:Key b):cmp a b<0↔Ahead a b:=by
  rcases cmp_key ha hb with ⟨q,e⟩ | ⟨q,e⟩ | ⟨q,e⟩
  · subst e
    exact ⟨fun h=>by omega,fun h=>absurd h (al_irr _)⟩
  · exact ⟨fun _=>e,fun _=>by omega⟩
  · exact ⟨fun h=>by omega,fun h=>absurd (al_trans e h) (al_irr _)⟩
theorem al_le {a b c:Lq} (ha:Key a) (hb:Key b) (h: ¬Ahead b a) (k:Ahead b c):Ahead a c:=by
  rcases al_tot hb ha h with e | e
  · rw [← e];exact k
  · exact al_trans e k
theorem al_lt {a b c:Lq} (hb:Key b) (hc:Key c) (h:Ahead a b) (k: ¬Ahead c b):Ahead a c:=by
  rcases al_tot hc hb k with e | e
  · rw [e];exact h
  · exact al_trans h e
theorem al_nn {a b c:Lq} (ha:Key a) (hb:Key b) (h: ¬Ahead b a) (k: ¬Ahead c b): ¬Ahead c a:=fun q=>by
  rcases al_tot hb ha h with e | e
  · rw [e] at k;exact k q
  · exact k (al_trans q e)

def Stab (l m:List Wt):Prop:=l.Perm m∧∀k,l.filter (fun x=>x.k == k)=m.filter (fun x=>x.k == k)
theorem Stab.refl (l:List Wt):Stab l l:=⟨.refl _,fun _=>rfl⟩
theorem Stab.trans {a b c:List Wt} (h:Stab a b) (k:Stab b c):Stab a c:=⟨h.1.trans k.1,fun x=>(h.2 x).trans (k.2 x)⟩
theorem Stab.app {a b c d:List Wt} (h:Stab a b) (k:Stab c d):Stab (a++c) (b++d):=⟨h.1.append k.1,fun x=>by rw [List.filter_append,List.filter_append,h.2,k.2]⟩
theorem Stab.swap {l m:List Wt} (h:∀x∈l,∀y∈m,x.k≠y.k):Stab (l++m) (m++l):=by
  refine ⟨List.perm_append_comm,fun k=>?_⟩;rw [List.filter_append,List.filter_append]
  by_cases e:∃x∈l,x.k=k
  · obtain ⟨x,hx,rfl⟩:=e
    have:m.filter (fun y=>y.k == x.k)=[]:=by
      rw [List.filter_eq_nil_iff];intro y hy;have:=h x hx y hy;simp;exact fun e=>this e.symm
    rw [this,List.append_nil,List.nil_append]
  · have:l.filter (fun y=>y.k == k)=[]:=by
      rw [List.filter_eq_nil_iff];intro y hy;simp;exact fun q=>e ⟨y,hy,q⟩
    rw [this,List.append_nil,List.nil_append]

def StR (a b:Nat) (xs ys:List Wt):Prop:=∃p m m' s,xs=p++(m++s)∧ys=p++(m'++s)∧p.length=a∧p.length+m.length=b∧Stab m m'
theorem StR.refl {xs:List Wt} (h1:a≤b) (h2:b≤xs.length):StR a b xs xs:=
  ⟨xs.take a,(xs.drop a).take (b-a),_,(xs.drop a).drop (b-a),by rw [List.take_append_drop,List.take_append_drop],by rw [List.take_append_drop,List.take_append_drop],by simp;omega,by simp;omega,Stab.refl _⟩
theorem StR.len {xs ys:List Wt} (h:StR a b xs ys):ys.length=xs.length:=by
  obtain ⟨p,m,m',s,rfl,rfl,_,_,h⟩:=h;simp [h.1.length_eq]
theorem StR.le {xs ys:List Wt} (h:StR a b xs ys):a≤b∧b≤xs.length:=by
  obtain ⟨p,m,m',s,rfl,rfl,h1,h2,h⟩:=h;simp;omega
theorem StR.wide {a':Nat} {xs ys:List Wt} (h:StR a b xs ys) (ha:a'≤a) (hb:b≤b') (hl:b'≤xs.length):StR a' b' xs ys:=by
  obtain ⟨p,m,m',s,rfl,rfl,h1,h2,h⟩:=h;refine ⟨p.take a',p.drop a'++(m++s.take (b'-b)),p.drop a'++(m'++s.take (b'-b)),s.drop (b'-b),?_,?_,by simp;omega,?_,(Stab.refl _).app (h.app (Stab.refl _))⟩
  · rw [List.append_assoc,List.append_assoc,List.take_append_drop,← List.append_assoc (p.take a'),List.take_append_drop]
  · rw [List.append_assoc,List.append_assoc,List.take_append_drop,← List.append_assoc (p.take a'),List.take_append_drop]
  · simp at hl
    simp;omega
theorem StR.trans {xs ys zs:List Wt} (h:StR a b xs ys) (k:StR a b ys zs):StR a b xs zs:=by
  obtain ⟨p,m,m',s,rfl,rfl,h1,h2,h⟩:=h;obtain ⟨q,n,n',t,e,rfl,k1,k2,k⟩:=k;obtain ⟨rfl,e2⟩:=List.append_inj e (by omega);have hl:=h.1.length_eq;obtain ⟨rfl,rfl⟩:=List.append_inj e2 (by omega);exact ⟨p,m,n',s,rfl,rfl,h1,h2,h.trans k⟩
theorem StR.out {xs ys:List Wt} (h:StR a b xs ys) (i:Nat) (hi:i<a∨b≤i):ys[i]?=xs[i]?:=by
  obtain ⟨p,m,m',s,rfl,rfl,h1,h2,h⟩:=h;have hl:=h.1.length_eq;rcases hi with hi | hi
  · rw [List.getElem?_append_left (by omega),List.getElem?_append_left (by omega)]
  · rw [List.getElem?_append_right (by omega),List.getElem?_append_right (by omega),List.getElem?_append_right (by omega),List.getElem?_append_right (by omega)]
    congr 1
    omega
theorem StR.mem {xs ys:List Wt} (h:StR a b xs ys) {i:Nat} (h1:a≤i) (h2:i<b):∃j,a≤j∧j<b∧ys[i]?=xs[j]?:=by
  obtain ⟨p,m,m',s,rfl,rfl,e1,e2,h⟩:=h;have hl:=h.1.length_eq;rw [List.getElem?_append_right (by omega),List.getElem?_append_left (by omega)];have hi:i-p.length<m'.length:=by omega
  rw [List.getElem?_eq_getElem hi];have:m'[i-p.length]∈m:=h.1.mem_iff.2 (List.getElem_mem hi);obtain ⟨j,hj,e⟩:=List.mem_iff_getElem.1 this;refine ⟨p.length+j,by omega,by omega,?_⟩;rw [List.getElem?_append_right (by omega),List.getElem?_append_left (by omega),Nat.add_sub_cancel_left,List.getElem?_eq_getElem hj,e]
theorem StR.stab {xs ys:List Wt} (h:StR a b xs ys):Stab xs ys:=by
  obtain ⟨p,m,m',s,rfl,rfl,e1,e2,h⟩:=h;exact (Stab.refl _).app (h.app (Stab.refl _))

def ky (xs:List Wt) (i:Nat):Lq:=xs[i]!.k
theorem ky_eq {xs ys:List Wt} (h:ys[i]?=xs[j]?):ky ys i=ky xs j:=by
  unfold ky;rw [List.getElem!_eq_getElem?_getD,List.getElem!_eq_getElem?_getD,h]
def Srt (a b:Nat) (xs:List Wt):Prop:=∀i j,a≤i→i<j→j<b→ ¬Ahead (ky xs j) (ky xs i)
theorem Srt.sub {a':Nat} {xs:List Wt} (h:Srt a b xs) (ha:a≤a') (hb:b'≤b):Srt a' b' xs:=fun i j h1 h2 h3=>h i j (by omega) h2 (by omega)
theorem Srt.one (a:Nat) (xs:List Wt):Srt a (a+1) xs:=fun i j h1 h2 h3=>by omega
theorem Srt.keep {xs ys:List Wt} (h:Srt a b xs) (k:StR c d xs ys) (hd:b≤c∨d≤a):Srt a b ys:=fun i j h1 h2 h3=>by
  rw [ky_eq (k.out i (by omega)),ky_eq (k.out j (by omega))];exact h i j h1 h2 h3

def swp (xs:List Wt) (i j:Nat):List Wt:=(xs.set i xs[j]!).set j xs[i]!
theorem swp_len (xs:List Wt) (i j:Nat):(swp xs i j).length=xs.length:=by simp [swp]
theorem swp_get (xs:List Wt) (i j q:Nat) (hi:i<xs.length) (hj:j<xs.length):(swp xs i j)[q]?=xs[if q=j then i else if q=i then j else q]?:=by
  unfold swp;rw [List.getElem?_set,List.length_set,List.getElem?_set]
  by_cases e1:q=j
  · rw [if_pos e1.symm,if_pos hj,if_pos e1,getElem!_pos xs i hi,List.getElem?_eq_getElem hi]
  · rw [if_neg (fun e=>e1 e.symm),if_neg e1]
    by_cases e2:q=i
    · rw [if_pos e2.symm,if_pos hi,if_pos e2,getElem!_pos xs j hj,List.getElem?_eq_getElem hj]
    · rw [if_neg (fun e=>e2 e.symm),if_neg e2]
theorem ky_swp (xs:List Wt) (i j q:Nat) (hi:i<xs.length) (hj:j<xs.length):ky (swp xs i j) q=ky xs (if q=j then i else if q=i then j else q):=ky_eq (swp_get xs i j q hi hj)

theorem swp_st (xs:List Wt) (j:Nat) (hj:j+1<xs.length) (h:ky xs j≠ky xs (j+1)):StR j (j+2) xs (swp xs j (j+1)):=by
  refine ⟨xs.take j,[xs[j],xs[j+1]],[xs[j+1],xs[j]],xs.drop (j+2),?_,?_,by simp;omega,by simp;omega,?_⟩
  · apply List.ext_getElem?
    intro q
    by_cases e:q<j
    · rw [List.getElem?_append_left (by simp;omega),List.getElem?_take_of_lt e]
    · rw [List.getElem?_append_right (by simp;omega),List.length_take,Nat.min_eq_left (by omega)]
      rcases Nat.lt_or_ge q (j+2) with e2 | e2
      · have:q=j∨q=j+1:=by omega
        rcases this with rfl | rfl
        · simp
        · simp [hj]
      · rw [List.getElem?_append_right (by simp;omega),List.getElem?_drop]
        congr 1
        simp;omega
  · apply List.ext_getElem?
    intro q;rw [swp_get xs j (j+1) q (by omega) hj]
    by_cases e:q<j
    · rw [if_neg (by omega),if_neg (by omega),List.getElem?_append_left (by simp;omega),List.getElem?_take_of_lt e]
    · rw [List.getElem?_append_right (by simp;omega),List.length_take,Nat.min_eq_left (by omega)]
      rcases Nat.lt_or_ge q (j+2) with e2 | e2
      · have:q=j∨q=j+1:=by omega
        rcases this with rfl | rfl
        · rw [if_neg (by omega),if_pos rfl];simp [hj]
        · rw [if_pos rfl];simp
      · rw [if_neg (by omega),if_neg (by omega),List.getElem?_append_right (by simp;omega),List.getElem?_drop]
        congr 1
        simp;omega
  · refine Stab.swap (l:=[xs[j]]) (m:=[xs[j+1]]) fun x hx y hy=>?_
    obtain rfl:x=xs[j]:=by simpa using hx
    obtain rfl:y=xs[j+1]:=by simpa using hy
    unfold ky at h;rw [getElem!_pos xs j (by omega),getElem!_pos xs (j+1) hj] at h;exact h

def Kys (xs:List Wt):Prop:=∀x∈xs,Key x.k
theorem Kys.at {xs:List Wt} (h:Kys xs) {i:Nat} (hi:i<xs.length):Key (ky xs i):=by
  unfold ky;rw [getElem!_pos xs i hi];exact h _ (List.getElem_mem hi)
def But (a i j:Nat) (xs:List Wt):Prop:=∀p q,a≤p→p<q→q≤i→q≠j→ ¬Ahead (ky xs q) (ky xs p)
theorem But.of {xs:List Wt} (h:Srt a i xs):But a i i xs:=fun p q h1 h2 h3 h4=>h p q h1 h2 (by omega)
theorem But.low {xs:List Wt} (h:But a i a xs):Srt a (i+1) xs:=fun p q h1 h2 h3=>h p q h1 h2 (by omega) (by omega)
theorem But.done {xs:List Wt} (h:But a i j xs) (hk:Kys xs) (hi:i<xs.length) (hj:a<j) (hji:j≤i) (k: ¬Ahead (ky xs j) (ky xs (j-1))):Srt a (i+1) xs:=fun p q h1 h2 h3=>by
  by_cases e:q=j
  · subst e
    by_cases e2:p=q-1
    · rw [e2];exact k
    · exact al_nn (hk.at (by omega)) (hk.at (by omega)) (h p (q-1) h1 (by omega) (by omega) (by omega)) k
  · exact h p q h1 h2 (by omega) e
theorem But.swap {xs:List Wt} (h:But a i j xs) (hi:i<xs.length) (hj:a<j) (hji:j≤i) (k:Ahead (ky xs j) (ky xs (j-1))):But a i (j-1) (swp xs (j-1) j):=fun p q h1 h2 h3 h4=>by
  rw [ky_swp xs _ _ q (by omega) (by omega),ky_swp xs _ _ p (by omega) (by omega)];rw [if_neg h4]
  by_cases e:q=j
  · rw [if_pos e]
    rw [if_neg (by omega)]
    by_cases e2:p=j-1
    · rw [if_pos e2]
      exact fun x=>al_irr _ (al_trans k x)
    · rw [if_neg e2]
      exact h p (j-1) h1 (by omega) (by omega) (by omega)
  · rw [if_neg e]
    by_cases e1:p=j
    · rw [if_pos e1]
      exact h (j-1) q (by omega) (by omega) (by omega) e
    · rw [if_neg e1]
      by_cases e2:p=j-1
      · rw [if_pos e2]
        exact h j q (by omega) (by omega) h3 e
      · rw [if_neg e2]
        exact h p q h1 h2 h3 e

def rotW (xs:List Wt) (a m b:Nat):List Wt:=xs.take a++((xs.drop m).take (b-m)++((xs.drop a).take (m-a)++xs.drop b))
theorem rot_get (xs:List Wt) (a m b i:Nat) (h1:a≤m) (h2:m≤b) (h3:b≤xs.length):(rotW xs a m b)[i]?=xs[if i<a then i else if i<a+(b-m) then i-a+m else if i<b then i-(b-m) else i]?:=by
  unfold rotW
  by_cases e1:i<a
  · rw [if_pos e1,List.getElem?_append_left (by simp;omega),List.getElem?_take_of_lt e1]
  · rw [if_neg e1,List.getElem?_append_right (by simp;omega),List.length_take,Nat.min_eq_left (by omega)]
    by_cases e2:i<a+(b-m)
    · rw [if_pos e2,List.getElem?_append_left (by simp;omega),List.getElem?_take_of_lt (by omega),List.getElem?_drop]
      congr 1
      omega
    · rw [if_neg e2,List.getElem?_append_right (by simp;omega)]
      simp only [List.length_take,List.length_drop];rw [Nat.min_eq_left (by omega)]
      by_cases e3:i<b
      · rw [if_pos e3,List.getElem?_append_left (by simp;omega),List.getElem?_take_of_lt (by omega),List.getElem?_drop]
        congr 1
        omega
      · rw [if_neg e3,List.getElem?_append_right (by simp;omega),List.getElem?_drop]
        simp only [List.length_take,List.length_drop];rw [Nat.min_eq_left (by omega)];congr 1
        omega
theorem ky_rot (xs:List Wt) (a m b i:Nat) (h1:a≤m) (h2:m≤b) (h3:b≤xs.length):ky (rotW xs a m b) i=ky xs (if i<a then i else if i<a+(b-m) then i-a+m else if i<b then i-(b-m) else i):=ky_eq (rot_get xs a m b i h1 h2 h3)
theorem rot_st (xs:List Wt) (a m b:Nat) (h1:a≤m) (h2:m≤b) (h3:b≤xs.length) (h:∀i j,a≤i→i<m→m≤j→j<b→ky xs i≠ky xs j):StR a b xs (rotW xs a m b):=by
  refine ⟨xs.take a,(xs.drop a).take (m-a)++(xs.drop m).take (b-m),(xs.drop m).take (b-m)++(xs.drop a).take (m-a),xs.drop b,?_,?_,by simp;omega,by simp;omega,Stab.swap ?_⟩
  · have e1:xs.drop m=(xs.drop m).take (b-m)++xs.drop b:=by
      conv=>lhs;rw [← List.take_append_drop (b-m) (xs.drop m)]
      rw [List.drop_drop];congr 2
      omega
    have e2:xs.drop a=(xs.drop a).take (m-a)++xs.drop m:=by
      conv=>lhs;rw [← List.take_append_drop (m-a) (xs.drop a)]
      rw [List.drop_drop];congr 2
      omega
    rw [List.append_assoc,← e1,← e2,List.take_append_drop]
  · unfold rotW
    rw [List.append_assoc]
  · intro x hx y hy
    obtain ⟨i,hi,rfl⟩:=List.mem_iff_getElem.1 hx;obtain ⟨j,hj,rfl⟩:=List.mem_iff_getElem.1 hy;simp only [List.length_take,List.length_drop] at hi hj;have:=h (a+i) (m+j) (by omega) (by omega) (by omega) (by omega);unfold ky at this;rw [getElem!_pos xs _ (by omega),getElem!_pos xs _ (by omega)] at this;simpa using this

theorem Srt.join {xs:List Wt} (h:Srt a c xs) (k:Srt c b xs) (hh:∀i j,a≤i→i<c→c≤j→j<b→ ¬Ahead (ky xs j) (ky xs i)):Srt a b xs:=fun i j h1 h2 h3=>by
  by_cases e1:j<c
  · exact h i j h1 h2 e1
  · by_cases e2:c≤i
    · exact k i j e2 h2 h3
    · exact hh i j h1 (by omega) (by omega) h3

structure Mg (xs:List Wt) (a m b s:Nat):Prop where
  lo:a≤s
  sm:s≤m
  e1:m≤(a+b) / 2+m-s
  e2:(a+b) / 2+m-s≤b
  gt:s<m→m<(a+b) / 2+m-s→Ahead (ky xs ((a+b) / 2+m-s-1)) (ky xs s)
  ge:a<s→(a+b) / 2+m-s<b→ ¬Ahead (ky xs ((a+b) / 2+m-s)) (ky xs (s-1))

theorem Mg.up {xs:List Wt} (g:Mg xs a m b s) (hk:Kys xs) (hb:b≤xs.length) (h1:Srt a m xs) (h2:Srt m b xs):∀i j,s≤i→i<m→m≤j→j<(a+b) / 2+m-s→Ahead (ky xs j) (ky xs i):=fun i j q1 q2 q3 q4=>by
  have:=g.lo;have:=g.e2;have h:=g.gt (by omega) (by omega);have h3:Ahead (ky xs j) (ky xs s):=by
    by_cases e:j=(a+b) / 2+m-s-1
    · rw [e];exact h
    · exact al_le (hk.at (by omega)) (hk.at (by omega)) (h2 j _ q3 (by omega) (by omega)) h
  by_cases e:i=s
  · rw [e];exact h3
  · exact al_lt (hk.at (by omega)) (hk.at (by omega)) h3 (h1 s i (by omega) (by omega) q2)
theorem Mg.low {xs:List Wt} (g:Mg xs a m b s) (hk:Kys xs) (hb:b≤xs.length) (h1:Srt a m xs) (h2:Srt m b xs):∀i j,a≤i→i<s→(a+b) / 2+m-s≤j→j<b→ ¬Ahead (ky xs j) (ky xs i):=fun i j q1 q2 q3 q4=>by
  have:=g.lo;have:=g.sm;have:=g.e1;have h:=g.ge (by omega) (by omega);have h3: ¬Ahead (ky xs j) (ky xs (s-1)):=by
    by_cases e:j=(a+b) / 2+m-s
    · rw [e];exact h
    · exact al_nn (hk.at (by omega)) (hk.at (by omega)) h (h2 _ j (by omega) (by omega) q4)
  by_cases e:i=s-1
  · rw [e];exact h3
  · exact al_nn (hk.at (by omega)) (hk.at (by omega)) (h1 i (s-1) q1 (by omega) (by omega)) h3

theorem StR.srt {xs ys:List Wt} (h:StR a b xs ys) {P:Lq→Prop} (k:∀i,a≤i→i<b→P (ky xs i)):∀i,a≤i→i<b→P (ky ys i):=fun i h1 h2=>by
  obtain ⟨j,j1,j2,e⟩:=h.mem h1 h2;rw [ky_eq e];exact k j j1 j2

structure Mr (xs ys:List Wt) (a b s:Nat) (mid e:Nat):Prop where
  st:StR a b xs ys
  s1:Srt a s ys
  s2:Srt s mid ys
  s3:Srt mid e ys
  s4:Srt e b ys
  cross:∀i j,a≤i→i<mid→mid≤j→j<b→ ¬Ahead (ky ys j) (ky ys i)

theorem rot_id (xs:List Wt) (a m b:Nat) (h1:a≤m) (h2:m≤b) (h3:b≤xs.length) (h:a=m∨m=b):rotW xs a m b=xs:=by
  apply List.ext_getElem?;intro i;rw [rot_get xs a m b i h1 h2 h3];congr 1
  split
  · rfl
  · split
    · omega
    · split <;> omega

theorem Mg.turn {xs:List Wt} (g:Mg xs a m b s) (hk:Kys xs) (hb:b≤xs.length) (h1:Srt a m xs) (h2:Srt m b xs):Mr xs (rotW xs s m ((a+b) / 2+m-s)) a b s ((a+b) / 2) ((a+b) / 2+m-s):=by
  have up:=g.up hk hb h1 h2;have low:=g.low hk hb h1 h2;obtain ⟨g1,g2,g3,g4,_,_⟩:=g;obtain ⟨mid,hm⟩:∃mid,mid=(a+b) / 2:=⟨_,rfl⟩;rw [← hm] at up low g3 g4 ⊢;obtain ⟨e,he⟩:∃e,e=mid+m-s:=⟨_,rfl⟩;rw [← he] at up low g3 g4 ⊢;have hr:=fun i=>ky_rot xs s m e i g2 g3 (by omega)
  have r1:∀i,i<s→ky (rotW xs s m e) i=ky xs i:=fun i q=>by rw [hr,if_pos q]
  have r2:∀i,s≤i→i<mid→ky (rotW xs s m e) i=ky xs (i-s+m):=fun i q1 q2=>by rw [hr,if_neg (by omega),if_pos (by omega)]
  have r3:∀i,mid≤i→i<e→ky (rotW xs s m e) i=ky xs (i-(e-m)):=fun i q1 q2=>by rw [hr,if_neg (by omega),if_neg (by omega),if_pos q2]
  have r4:∀i,e≤i→ky (rotW xs s m e) i=ky xs i:=fun i q=>by rw [hr,if_neg (by omega),if_neg (by omega),if_neg (by omega)]
  have st:=rot_st xs s m e g2 g3 (by omega) fun i j q1 q2 q3 q4 x=>by
    have:=up i j q1 q2 q3 q4;rw [x] at this;exact al_irr _ this
  generalize rotW xs s m e=ys at *;refine ⟨st.wide g1 g4 hb,fun i j q1 q2 q3=>?_,fun i j q1 q2 q3=>?_,fun i j q1 q2 q3=>?_,fun i j q1 q2 q3=>?_,fun i j q1 q2 q3 q4=>?_⟩
  · rw [r1 i (by omega),r1 j q3]
    exact h1 i j q1 q2 (by omega)
  · rw [r2 i q1 (by omega),r2 j (by omega) q3]
    exact h2 _ _ (by omega) (by omega) (by omega)
  · rw [r3 i q1 (by omega),r3 j (by omega) q3]
    exact h1 _ _ (by omega) (by omega) (by omega)
  · rw [r4 i q1,r4 j (by omega)]
    exact h2 i j (by omega) q2 (by omega)
  · by_cases c1:i<s
    · rw [r1 i c1]
      by_cases c2:j<e
      · rw [r3 j q3 c2]
        exact h1 _ _ q1 (by omega) (by omega)
      · rw [r4 j (by omega)]
        exact low i j q1 c1 (by omega) q4
    · rw [r2 i (by omega) q2]
      by_cases c2:j<e
      · rw [r3 j q3 c2]
        exact fun x=>al_irr _ (al_trans x (up (j-(e-m)) (i-s+m) (by omega) (by omega) (by omega) (by omega)))
      · rw [r4 j (by omega)]
        exact h2 _ _ (by omega) (by omega) q4

theorem Mr.done {xs ys zs us:List Wt} {e:Nat} (h:Mr xs ys a b s mid e) (h1:StR a mid ys zs) (h2:Srt a mid zs) (h3:StR mid b zs us) (h4:Srt mid b us):StR a b xs us∧Srt a b us:=by
  have l1:=h1.le;have l3:=h3.le;have e1:=h1.len;refine ⟨h.st.trans ((h1.wide (Nat.le_refl _) l3.1 (by omega)).trans (h3.wide l1.1 (Nat.le_refl _) l3.2)),(h2.keep h3 (.inl (Nat.le_refl _))).join h4 fun i j q1 q2 q3 q4=>?_⟩;have hj:∀i,a≤i→i<mid→∀j,mid≤j→j<b→ ¬Ahead (ky us j) (ky zs i):=fun i i1 i2=>h3.srt (P:=fun x=> ¬Ahead x (ky zs i)) fun j j1 j2=>by
    rw [ky_eq (h1.out j (.inr j1))];exact h1.srt (P:=fun x=> ¬Ahead (ky ys j) x) (fun q r1 r2=>h.cross q j r1 r2 j1 j2) i i1 i2
  rw [ky_eq (h3.out i (.inl q2))];exact hj i q1 q2 j q3 q4

structure Up (xs:List Wt) (a b k:Nat) (ys:List Wt):Prop where
  st:StR a b xs ys
  lo:∀q,a≤q→q<k→ky ys q=ky xs (q+1)
  me:ky ys k=ky xs a
  hi:∀q,k<q→ky ys q=ky xs q
theorem Up.start {xs:List Wt} (h1:a≤b) (h2:b≤xs.length):Up xs a b a xs:=⟨StR.refl h1 h2,fun q h1 h2=>by omega,rfl,fun _ _=>rfl⟩
theorem Up.step {xs ys:List Wt} (h:Up xs a b k ys) (ha:a≤k) (hk:k+1<b) (hl:Ahead (ky xs (k+1)) (ky xs a)):Up xs a b (k+1) (swp ys k (k+1)):=by
  have hb:=h.st.le.2;have hlen:=h.st.len;have hs:StR k (k+2) ys (swp ys k (k+1)):=swp_st ys k (by omega) fun e=>by
    rw [h.me,h.hi (k+1) (by omega)] at e;rw [e] at hl;exact al_irr _ hl
  have g:=fun q=>ky_swp ys k (k+1) q (by omega) (by omega)
  refine ⟨h.st.trans (hs.wide ha (by omega) (by omega)),fun q q1 q2=>?_,?_,fun q q1=>?_⟩
  · rw [g,if_neg (by omega)]
    by_cases e:q=k
    · rw [if_pos e,e]
      exact h.hi _ (by omega)
    · rw [if_neg e]
      exact h.lo q q1 (by omega)
  · rw [g,if_pos rfl]
    exact h.me
  · rw [g,if_neg (by omega),if_neg (by omega)]
    exact h.hi q (by omega)
theorem Up.done {xs ys:List Wt} (h:Up xs a b (i-1) ys) (h1:a<i) (h2:i≤b) (hs:Srt (a+1) b xs) (hlt:∀p,a<p→p<i→Ahead (ky xs p) (ky xs a)) (hge:∀p,i≤p→p<b→ ¬Ahead (ky xs p) (ky xs a)):Srt a b ys:=fun p q p1 p2 p3=>by
  by_cases e1:p<i-1
  · rw [h.lo p p1 e1]
    by_cases e2:q<i-1
    · rw [h.lo q (by omega) e2]
      exact hs _ _ (by omega) (by omega) (by omega)
    · by_cases e3:q=i-1
      · rw [e3,h.me]
        exact fun x=>al_irr _ (al_trans x (hlt (p+1) (by omega) (by omega)))
      · rw [h.hi q (by omega)]
        exact hs _ _ (by omega) (by omega) p3
  · rw [h.hi q (by omega)]
    by_cases e3:p=i-1
    · rw [e3,h.me]
      exact hge q (by omega) p3
    · rw [h.hi p (by omega)]
      exact hs _ _ (by omega) p2 p3

structure Dn (xs:List Wt) (a m k:Nat) (ys:List Wt):Prop where
  st:StR a (m+1) xs ys
  hi:∀q,k<q→q≤m→ky ys q=ky xs (q-1)
  me:ky ys k=ky xs m
  lo:∀q,q<k→ky ys q=ky xs q
theorem Dn.start {xs:List Wt} (h1:a≤m) (h2:m<xs.length):Dn xs a m m xs:=⟨StR.refl (by omega) h2,fun q h1 h2=>by omega,rfl,fun _ _=>rfl⟩
theorem swp_comm (xs:List Wt) (i j:Nat) (hi:i<xs.length) (hj:j<xs.length):swp xs i j=swp xs j i:=by
  apply List.ext_getElem?;intro q;rw [swp_get xs i j q hi hj,swp_get xs j i q hj hi];congr 1
  split
  · split
    · omega
    · rfl
  · rfl
theorem Dn.step {xs ys:List Wt} (h:Dn xs a m k ys) (ha:a<k) (hk:k≤m) (hl:Ahead (ky xs m) (ky xs (k-1))):Dn xs a m (k-1) (swp ys k (k-1)):=by
  have hb:=h.st.le.2;have hlen:=h.st.len;obtain ⟨j,rfl⟩:∃j,k=j+1:=⟨k-1,by omega⟩;rw [Nat.add_sub_cancel] at hl ⊢;rw [swp_comm ys (j+1) j (by omega) (by omega)];have hs:StR j (j+2) ys (swp ys j (j+1)):=swp_st ys j (by omega) fun e=>by
    rw [h.me,h.lo j (by omega)] at e;rw [e] at hl;exact al_irr _ hl
  have g:=fun q=>ky_swp ys j (j+1) q (by omega) (by omega)
  refine ⟨h.st.trans (hs.wide (by omega) (by omega) (by omega)),fun q q1 q2=>?_,?_,fun q q1=>?_⟩
  · rw [g]
    by_cases e:q=j+1
    · rw [if_pos e,e]
      exact h.lo _ (by omega)
    · rw [if_neg e,if_neg (by omega)]
      exact h.hi q (by omega) q2
  · rw [g,if_neg (by omega),if_pos rfl]
    exact h.me
  · rw [g,if_neg (by omega),if_neg (by omega)]
    exact h.lo q (by omega)
theorem Dn.done {xs ys:List Wt} (h:Dn xs a m i ys) (h1:a≤i) (h2:i≤m) (hs:Srt a m xs) (hge:∀p,a≤p→p<i→ ¬Ahead (ky xs m) (ky xs p)) (hlt:∀p,i≤p→p<m→Ahead (ky xs m) (ky xs p)):Srt a (m+1) ys:=fun p q p1 p2 p3=>by
  by_cases e1:q<i
  · rw [h.lo p (by omega),h.lo q e1]
    exact hs p q p1 p2 (by omega)
  · by_cases e2:q=i
    · rw [e2,h.me,h.lo p (by omega)]
      exact hge p p1 (by omega)
    · rw [h.hi q (by omega) (by omega)]
      by_cases e3:p<i
      · rw [h.lo p e3]
        exact hs p (q-1) p1 (by omega) (by omega)
      · by_cases e4:p=i
        · rw [e4,h.me]
          exact fun x=>al_irr _ (al_trans x (hlt (q-1) (by omega) (by omega)))
        · rw [h.hi p (by omega) (by omega)]
          exact hs _ _ (by omega) (by omega) (by omega)

def swr (xs:List Wt) (a b:Nat):Nat→List Wt
  | 0=>xs
  | n+1=>swp (swr xs a b n) (a+n) (b+n)
theorem swr_len (xs:List Wt) (a b:Nat):∀n,(swr xs a b n).length=xs.length
  | 0=>rfl
  | n+1=>by rw [swr,swp_len,swr_len xs a b n]
theorem swr_get (xs:List Wt) (a b:Nat) (h:a≤b):∀n,a+n≤b→b+n≤xs.length→∀q,(swr xs a b n)[q]?=xs[if a≤q∧q<a+n then q+(b-a) else if b≤q∧q<b+n then q-(b-a) else q]?
  | 0,_,_,q=>by
    rw [swr,if_neg (by omega),if_neg (by omega)]
  | n+1,h1,h2,q=>by
    have ih:=swr_get xs a b h n (by omega) (by omega);rw [swr,swp_get _ _ _ _ (by rw [swr_len];omega) (by rw [swr_len];omega),ih];congr 1
    repeat' split
    all_goals omega

def Rt5 (xs:List Wt) (a m b i j:Nat) (ys:List Wt):Prop:=i≤m∧a≤m-i∧m+j≤b∧0<i∧0<j∧ys.length=xs.length∧rotW ys (m-i) m (m+j)=rotW xs a m b
theorem Rt5.left {xs ys:List Wt} (h:Rt5 xs a m b i j ys) (hb:b≤xs.length) (hij:j<i):Rt5 xs a m b (i-j) j (swr ys (m-i) m j):=by
  obtain ⟨h1,h2,h3,h4,h5,h6,h7⟩:=h;refine ⟨by omega,by omega,h3,by omega,h5,by rw [swr_len,h6],?_⟩;rw [← h7];apply List.ext_getElem?;intro q;rw [rot_get _ _ _ _ _ (by omega) (by omega) (by rw [swr_len];omega),rot_get _ _ _ _ _ (by omega) (by omega) (by omega),swr_get _ _ _ (by omega) _ (by omega) (by omega)];congr 1
  repeat' split
  all_goals omega
theorem Rt5.right {xs ys:List Wt} (h:Rt5 xs a m b i j ys) (hb:b≤xs.length) (hij:i<j):Rt5 xs a m b i (j-i) (swr ys (m-i) (m+j-i) i):=by
  obtain ⟨h1,h2,h3,h4,h5,h6,h7⟩:=h;refine ⟨h1,h2,by omega,h4,by omega,by rw [swr_len,h6],?_⟩;rw [← h7];apply List.ext_getElem?;intro q;rw [rot_get _ _ _ _ _ (by omega) (by omega) (by rw [swr_len];omega),rot_get _ _ _ _ _ (by omega) (by omega) (by omega),swr_get _ _ _ (by omega) _ (by omega) (by omega)];congr 1
  repeat' split
  all_goals omega
theorem Rt5.last {xs ys:List Wt} (h:Rt5 xs a m b i i ys) (hb:b≤xs.length):swr ys (m-i) m i=rotW xs a m b:=by
  obtain ⟨h1,h2,h3,h4,h5,h6,h7⟩:=h;rw [← h7];apply List.ext_getElem?;intro q;rw [swr_get _ _ _ (by omega) _ (by omega) (by omega),rot_get _ _ _ _ _ (by omega) (by omega) (by omega)];congr 1
  repeat' split
  all_goals omega

end Go.Proofs.YtabiglnmfdpcfaaGreatDoor

namespace Go.Proofs.YtabiglnmfdpcfaaGreatDoor
variable {T:Tre}
variable {a b b' c d h i j k m mid r s:Nat}
variable {cs cs':Lz}
variable {fr:List Nat}
set_option maxRecDepth 20000
open Go.RowKit

def LastW (l:List Wt) (x:Wt):Prop:=∃p s,l=p++x::s∧∀y∈s,y.k≠x.k
def Ris (r:List Wt):Prop:=r.Pairwise fun a b=>Ahead a.k b.k
structure Lat (l r:List Wt):Prop where
  ris:Ris r
  mem:∀x,x∈r↔LastW l x

theorem LastW.mem {l:List Wt} {x:Wt} (h:LastW l x):x∈l:=by
  obtain ⟨p,s,rfl,_⟩:=h;simp
theorem Lat.sub {l r:List Wt} (h:Lat l r):∀x∈r,x∈l:=fun x hx=>((h.mem x).1 hx).mem

theorem ris_one:∀(r q:List Wt),Ris r→Ris q→(∀x,x∈r↔x∈q)→r=q
  | [],[],_,_,_=>rfl
  | [],b::q,_,_,h=>absurd ((h b).2 (by simp)) (by simp)
  | a::r,[],_,_,h=>absurd ((h a).1 (by simp)) (by simp)
  | a::r,b::q,hr,hq,h=>by
    have h1:=List.pairwise_cons.1 hr;have h2:=List.pairwise_cons.1 hq;have e:a=b:=by
      rcases List.mem_cons.1 ((h a).1 (by simp)) with e | e
      · exact e
      · rcases List.mem_cons.1 ((h b).2 (by simp)) with f | f
        · exact f.symm
        · exact absurd (al_trans (h1.1 b f) (h2.1 a e)) (al_irr _)
    subst e;rw [ris_one r q h1.2 h2.2 fun x=>⟨fun hx=>?_,fun hx=>?_⟩]
    · rcases List.mem_cons.1 ((h x).1 (by simp [hx])) with e | e
      · subst e
        exact absurd (h1.1 x hx) (al_irr _)
      · exact e
    · rcases List.mem_cons.1 ((h x).2 (by simp [hx])) with e | e
      · subst e
        exact absurd (h2.1 x hx) (al_irr _)
      · exact e
theorem Lat.one {l r q:List Wt} (h:Lat l r) (k:Lat l q):r=q:=ris_one r q h.ris k.ris fun x=>(h.mem x).trans (k.mem x).symm

theorem isLast_filter (l:List Wt) (x:Wt):LastW l x↔(l.filter fun y=>y.k == x.k).getLast?=some x:=by
  constructor
  · rintro ⟨p,s,rfl,h⟩
    have:s.filter (fun y=>y.k == x.k)=[]:=by
      rw [List.filter_eq_nil_iff];intro y hy;simp [h y hy]
    rw [List.filter_append,List.filter_cons_of_pos (by simp),this];simp
  · intro h
    induction l with
    | nil=>simp at h
    | cons a r ih=>
      by_cases e:(r.filter fun y=>y.k == x.k).getLast?=some x
      · obtain ⟨p,s,rfl,h2⟩:=ih e
        exact ⟨a::p,s,rfl,h2⟩
      · by_cases ea:a.k=x.k
        · rw [List.filter_cons_of_pos (by simp [ea])] at h
          cases hr:r.filter (fun y=>y.k == x.k) with
          | nil=>
            rw [hr] at h;obtain rfl:a=x:=by simpa using h
            refine ⟨[],r,rfl,fun y hy e2=>?_⟩;have:=(List.filter_eq_nil_iff.1 hr) y hy;simp [e2] at this
          | cons b q=>
            rw [hr] at h e;rw [List.getLast?_cons_cons] at h;exact absurd h e
        · rw [List.filter_cons_of_neg (by simp [ea])] at h
          exact absurd h e
theorem Stab.last {l m:List Wt} (h:Stab l m) (x:Wt):LastW l x↔LastW m x:=by rw [isLast_filter,isLast_filter,h.2]

def Ltr (ys:List Wt) (j:Nat):Prop:=j+1=ys.length∨ky ys j≠ky ys (j+1)
theorem ky_get {ys:List Wt} {x:Wt} (h:ys[j]?=some x):ky ys j=x.k:=by
  unfold ky;rw [List.getElem!_eq_getElem?_getD,h];rfl
theorem srt_last {ys:List Wt} (hk:Kys ys) (hs:Srt 0 ys.length ys) (x:Wt):LastW ys x↔∃j,ys[j]?=some x∧Ltr ys j:=by
  constructor
  · rintro ⟨p,s,rfl,h⟩
    refine ⟨p.length,by simp,?_⟩;cases s with
    | nil=>left;simp
    | cons b q=>
      right;rw [ky_get (j:=p.length) (x:=x) (by simp),ky_get (j:=p.length+1) (x:=b) (by rw [List.getElem?_append_right (by omega)];simp)];exact fun e=>h b (by simp) e.symm
  · rintro ⟨j,hj,hl⟩
    have hjl:=(List.getElem?_eq_some_iff.1 hj).1;refine ⟨ys.take j,ys.drop (j+1),?_,fun y hy e=>?_⟩
    · have:ys[j]=x:=(List.getElem?_eq_some_iff.1 hj).2
      rw [← this];simp
    · obtain ⟨i,hi,rfl⟩:=List.mem_iff_getElem.1 hy
      rw [List.length_drop] at hi;rcases hl with hl | hl
      · omega
      · have e1:ky ys (j+1+i)=ky ys j:=by
          rw [ky_get hj,← e];unfold ky;rw [getElem!_pos ys _ (by omega)];simp
        have h1:=hs j (j+1) (by omega) (by omega) (by omega);have h2: ¬Ahead (ky ys (j+1+i)) (ky ys (j+1)):=by
          by_cases e0:i=0
          · subst e0
            exact al_irr _
          · exact hs (j+1) (j+1+i) (by omega) (by omega) (by omega)
        rw [e1] at h2;rcases al_tot (hk.at hjl) (hk.at (by omega)) h2 with q | q
        · exact hl q
        · exact h1 q

structure KpI (ys:List Wt) (i:Nat) (ks:List Wt):Prop where
  ris:Ris ks
  mem:∀x,x∈ks↔∃j,j<i∧ys[j]?=some x∧Ltr ys j
theorem KpI.nil (ys:List Wt):KpI ys 0 []:=⟨List.Pairwise.nil,fun x=>⟨fun h=>(by cases h),fun ⟨j,h,_⟩=>(by omega)⟩⟩
theorem KpI.skip {ys ks:List Wt} (h:KpI ys i ks) (hn: ¬Ltr ys i):KpI ys (i+1) ks:=by
  refine ⟨h.ris,fun x=>(h.mem x).trans ⟨?_,?_⟩⟩
  · rintro ⟨j,h1,h2⟩
    exact ⟨j,by omega,h2⟩
  · rintro ⟨j,h1,h2,h3⟩
    by_cases e:j=i
    · subst e;exact absurd h3 hn
    · exact ⟨j,by omega,h2,h3⟩
theorem KpI.take {ys ks:List Wt} {x:Wt} (h:KpI ys i ks) (hk:Kys ys) (hs:Srt 0 ys.length ys) (hx:ys[i]?=some x) (hn:Ltr ys i):KpI ys (i+1) (ks++[x]):=by
  have hi:=(List.getElem?_eq_some_iff.1 hx).1;refine ⟨List.pairwise_append.2 ⟨h.ris,List.pairwise_singleton _ _,fun a ha b hb=>?_⟩,fun y=>?_⟩
  · obtain rfl:b=x:=by simpa using hb
    obtain ⟨j,h1,h2,h3⟩:=(h.mem a).1 ha;rcases h3 with h3 | h3
    · omega
    · rw [← ky_get h2,← ky_get hx]
      have h4:Ahead (ky ys j) (ky ys (j+1)):=by
        rcases al_tot (hk.at (by omega)) (hk.at (by omega)) (hs j (j+1) (by omega) (by omega) (by omega)) with q | q
        · exact absurd q.symm h3
        · exact q
      by_cases e:j+1=i
      · rw [← e];exact h4
      · exact al_lt (hk.at (by omega)) (hk.at hi) h4 (hs (j+1) i (by omega) (by omega) hi)
  · rw [List.mem_append,h.mem]
    constructor
    · rintro (⟨j,h1,h2⟩ | h1)
      · exact ⟨j,by omega,h2⟩
      · obtain rfl:y=x:=by simpa using h1
        exact ⟨i,by omega,hx,hn⟩
    · rintro ⟨j,h1,h2,h3⟩
      by_cases e:j=i
      · subst e
        rw [hx] at h2;injection h2 with h2;exact .inr (by simp [h2])
      · exact .inl ⟨j,by omega,h2,h3⟩
theorem KpI.done {ls ys ks:List Wt} (h:KpI ys ys.length ks) (hk:Kys ys) (hs:Srt 0 ys.length ys) (st:Stab ls ys):Lat ls ks:=⟨h.ris,fun x=>by
  rw [h.mem,st.last x,srt_last hk hs];exact ⟨fun ⟨j,_,h2⟩=>⟨j,h2⟩,fun ⟨j,h2,h3⟩=>⟨j,(List.getElem?_eq_some_iff.1 h2).1,h2,h3⟩⟩⟩

def nrm (x:Wt):Wt:=⟨x.k,x.g,if x.g then [] else x.b,.slice none 0 0⟩
theorem LastW.nm {l:List Wt} {y:Wt}:LastW (l.map nrm) y↔∃x,LastW l x∧nrm x=y:=by
  constructor
  · rintro ⟨p,s,h1,h2⟩
    obtain ⟨p',q,rfl,rfl,h4⟩:=List.map_eq_append_iff.1 h1;obtain ⟨x,s',rfl,rfl,rfl⟩:=List.map_eq_cons_iff.1 h4;exact ⟨x,⟨p',s',rfl,fun z hz=>h2 (nrm z) (List.mem_map_of_mem hz)⟩,rfl⟩
  · rintro ⟨x,⟨p,s,rfl,h⟩,rfl⟩
    refine ⟨p.map nrm,s.map nrm,by simp,fun z hz=>?_⟩;obtain ⟨u,hu,rfl⟩:=List.mem_map.1 hz;exact h u hu
theorem Lat.nm {l r:List Wt} (h:Lat l r):Lat (l.map nrm) (r.map nrm):=⟨List.pairwise_map.2 h.ris,fun y=>by
  rw [List.mem_map,LastW.nm];exact ⟨fun ⟨x,h1,h2⟩=>⟨x,(h.mem x).1 h1,h2⟩,fun ⟨x,h1,h2⟩=>⟨x,(h.mem x).2 h1,h2⟩⟩⟩
end Go.Proofs.YtabiglnmfdpcfaaGreatDoor
