/- The way of a key down a store's tree: its handles, its end, its other sides; that these are the way among the tree's entries, in whatever order. No program in this text. -/
import Derived.Test.YtdjpigfibafokaaGreatDoorDz01
import Derived.Test.YtdjpigfibafokaaGreatDoorDz07
import Derived.Test.YtdjpigfibafokaaGreatDoorDz18
namespace Go.Proofs.YtdjpigfibafokaaGreatDoor
variable {E:List Ent}
variable {K bs:Lq}
variable {c d h i m n r top:Nat}
variable {cs cs' cs0 cs1:Lz}
variable {fr fr' fr1 pend ss:List Nat}
set_option maxRecDepth 20000
open Go.RowKit

def Tre.hs (K:Lq):Nat→Tre→List Nat
  | _,.emp=>[]
  | _,.lf _ _=>[]
  | h,.nd d hl hr l r=>h::(if kb K d=1 then r.hs K hr else l.hs K hl)
def Tre.fin (K:Lq):Nat→Tre→Nat
  | h,.emp=>h
  | h,.lf _ _=>h
  | _,.nd d hl hr l r=>if kb K d=1 then r.fin K hr else l.fin K hl
def Tre.oth (K:Lq):Tre→List Nat
  | .emp=>[]
  | .lf _ _=>[]
  | .nd d hl hr l r=>if kb K d=1 then hl::r.oth K else hr::l.oth K
def Tre.efin (K:Lq):Tre→List Ent
  | .emp=>[]
  | .lf k b=>[(k,b)]
  | .nd d _ _ l r=>if kb K d=1 then r.efin K else l.efin K

theorem Tre.hs_oth (K:Lq):∀(T:Tre) (h:Nat),(T.hs K h).length=(T.oth K).length
  | .emp,_=>rfl
  | .lf _ _,_=>rfl
  | .nd d hl hr l r,h=>by
    have h1:=Tre.hs_oth K l hl;have h2:=Tre.hs_oth K r hr;simp only [Tre.hs,Tre.oth];split <;> simp [h1,h2]

structure NdOk (cs:Lz) (d hl hr:Nat) (L R:Tre):Prop where
  dp:d<256
  bL:∀e∈L.ents,kb e.1 d=0
  bR:∀e∈R.ents,kb e.1 d=1
  two:2≤(L.ents++R.ents).length
  kl:(sdC cs hl).kind=2→(sdC cs hl).dp=d+1
  kr:(sdC cs hr).kind=2→(sdC cs hr).dp=d+1

theorem nd_ok (w:Wf cs pend) {d hl hr h:Nat} {L R:Tre} (hT:IsT cs h (.nd d hl hr L R)):NdOk cs d hl hr L R:=by
  obtain ⟨h1,h2,h3,h4,h5,h6,h7,h8⟩:=hT;obtain ⟨i,rfl⟩:∃i,h=i+1:=⟨h-1,by omega⟩;rw [Nat.add_sub_cancel] at h2 h3 h4 h5 h6;have okL:=tree_ok w L hl h7;have okR:=tree_ok w R hr h8;rcases w.tr i h2 with hn | hn
  · have:=hn.kind;omega
  have hdp:=hn.dp;have sl:=hn.sl;have sr:=hn.sr;have hsz:=hn.sz;have htwo:=hn.two;rw [h4] at hdp sl sr;rw [h5] at sl hsz;rw [h6] at sr hsz;have side:∀(q:Nat) (b:Int) (U:Tre),TreeOk cs q U→SideOk cs d b q→(∀e∈U.ents,kb e.1 d=b)∧((sdC cs q).kind=2→(sdC cs q).dp=d+1):=fun q b U ok s=>by
    rcases s with rfl | ⟨q1,q2,q3,q4⟩
    · refine ⟨fun e he=>?_,fun k=>absurd k (by show ¬zc.kind=2;decide)⟩
      have:=ok.sz;rw [show (sdC cs 0).sz=0 from rfl] at this;rw [List.eq_nil_of_length_eq_zero this.symm] at he;cases he
    · have es:sdC cs q=ce cs (q-1):=if_neg (by omega)
      refine ⟨fun e he=>?_,fun k=>?_⟩
      · rw [ok.share (d+1) (by omega) (fun k=>by rcases q4 with q4 | ⟨_,q4⟩ <;> omega) e he d (by omega),es]
        exact q3
      · rw [es] at k ⊢
        rcases q4 with q4 | ⟨_,q4⟩
        · omega
        · exact q4
  obtain ⟨a1,a2⟩:=side hl 0 L okL sl;obtain ⟨b1,b2⟩:=side hr 1 R okR sr;exact ⟨hdp,a1,b1,by rw [List.length_append,← okL.sz,← okR.sz,← hsz];exact htwo,a2,b2⟩

theorem NdOk.side0 {hl hr:Nat} {L R:Tre} (n:NdOk cs d hl hr L R):sideOf (L.ents++R.ents) d 0=L.ents:=by
  rw [sideOf_app,sideOf_all L.ents d 0 (fun e he=>by rw [kbi_in _ _ n.dp];exact n.bL e he),sideOf_none R.ents d 0 1 (fun e he=>by rw [kbi_in _ _ n.dp];exact n.bR e he) (by omega),List.append_nil]
theorem NdOk.side1 {hl hr:Nat} {L R:Tre} (n:NdOk cs d hl hr L R):sideOf (L.ents++R.ents) d 1=R.ents:=by
  rw [sideOf_app,sideOf_none L.ents d 1 0 (fun e he=>by rw [kbi_in _ _ n.dp];exact n.bL e he) (by omega),sideOf_all R.ents d 1 (fun e he=>by rw [kbi_in _ _ n.dp];exact n.bR e he),List.nil_append]

theorem sds_few (n d:Nat) (l:List Ent) (K:Lq) (h:l.length≤1):sds n d l K=[]∧rst n d l K=l:=by
  cases n with
  | zero=>exact ⟨rfl,rfl⟩
  | succ n=>exact ⟨by rw [sds,if_pos h],by rw [rst,if_pos h]⟩

theorem way_tree {cs:Lz} {pend:List Nat} (w:Wf cs pend) (K:Lq):∀(T:Tre) (h d:Nat),IsT cs h T→((sdC cs h).kind=2→(sdC cs h).dp=d)→d≤256→(T.oth K).map (sdD cs)=sds (256-d) d T.ents K∧T.efin K=rst (256-d) d T.ents K∧(T.oth K).length≤256-d
  | .emp,h,d,_,_,_=>by
    obtain ⟨e1,e2⟩:=sds_few (256-d) d Tre.emp.ents K (by simp [Tre.ents]);rw [e1,e2];exact ⟨rfl,rfl,Nat.zero_le _⟩
  | .lf k b,h,d,_,_,_=>by
    obtain ⟨e1,e2⟩:=sds_few (256-d) d (Tre.lf k b).ents K (by simp [Tre.ents]);rw [e1,e2];exact ⟨rfl,rfl,Nat.zero_le _⟩
  | .nd d hl hr L R,h,d',hT,hd,_=>by
    have n:=nd_ok w hT;obtain ⟨h1,h2,h3,h4,h5,h6,h7,h8⟩:=hT;have es:sdC cs h=ce cs (h-1):=if_neg (by omega);obtain rfl:d=d':=by
      rw [es] at hd;rw [← h4];exact hd h3
    have okL:=tree_ok w L hl h7;have okR:=tree_ok w R hr h8;have hdp:=n.dp;obtain ⟨l1,l2,l3⟩:=way_tree w K L hl (d+1) h7 n.kl (by omega);obtain ⟨r1,r2,r3⟩:=way_tree w K R hr (d+1) h8 n.kr (by omega);have dl:=okL.dig (d+1) n.kl;have dr:=okR.dig (d+1) n.kr;obtain ⟨m,hm⟩:∃m,256-d=m+1:=⟨255-d,by omega⟩;have hm2:256-(d+1)=m:=by omega
    rw [hm2] at l1 l2 l3 r1 r2 r3 dl dr;have htwo:=n.two;rw [hm];show (Tre.oth K (.nd d hl hr L R)).map (sdD cs)=sds (m+1) d (L.ents++R.ents) K∧Tre.efin K (.nd d hl hr L R)=rst (m+1) d (L.ents++R.ents) K∧(Tre.oth K (.nd d hl hr L R)).length≤m+1;rw [sds,rst,if_neg (by omega),if_neg (by omega)];rcases kb_two K d with q | q
    · rw [q,show (1:Int)-0=1 from rfl,n.side0,n.side1]
      simp only [Tre.oth,Tre.efin,q];refine ⟨?_,l2,?_⟩
      · simp only [show ¬((0:Int)=1) by omega,if_false,List.map_cons]
        rw [l1,dr]
      · simp only [show ¬((0:Int)=1) by omega,if_false,List.length_cons]
        omega
    · rw [q,show (1:Int)-1=0 from rfl,n.side0,n.side1]
      simp only [Tre.oth,Tre.efin,q];refine ⟨?_,r2,?_⟩
      · simp only [if_true,List.map_cons]
        rw [r1,dl]
      · simp only [if_true,List.length_cons]
        omega

theorem fin_is {cs:Lz} (K:Lq):∀(T:Tre) (h:Nat),IsT cs h T→(T.fin K h=0∧T.efin K=[])∨∃k b,T.efin K=[(k,b)]∧1≤T.fin K h∧0<cc cs (T.fin K h-1)∧(ce cs (T.fin K h-1)).kind=1∧(ce cs (T.fin K h-1)).key=k∧(ce cs (T.fin K h-1)).bs=b
  | .emp,h,e=>.inl ⟨e,rfl⟩
  | .lf k b,h,⟨h1,h2,h3,h4,h5⟩=>.inr ⟨k,b,rfl,h1,h2,h3,h4,h5⟩
  | .nd d hl hr L R,h,⟨_,_,_,_,_,_,h7,h8⟩=>by
    have a:=fin_is K L hl h7;have b:=fin_is K R hr h8;simp only [Tre.fin,Tre.efin]
    by_cases q:kb K d=1
    · simp only [q,if_true]
      exact b
    · simp only [q,if_false]
      exact a

theorem efin_key {cs:Lz} {pend:List Nat} (w:Wf cs pend) (K:Lq):∀(T:Tre) (h:Nat),IsT cs h T→∀e∈T.ents,e.1=K→T.efin K=[e]
  | .emp,_,_,e,he,_=>by cases he
  | .lf k b,_,_,e,he,_=>by
    obtain rfl:e=(k,b):=by simpa [Tre.ents] using he
    rfl
  | .nd d hl hr L R,h,hT,e,he,hK=>by
    have n:=nd_ok w hT;obtain ⟨_,_,_,_,_,_,h7,h8⟩:=hT;simp only [Tre.efin];rcases List.mem_append.1 he with he | he
    · have:=n.bL e he
      rw [hK] at this;rw [if_neg (by omega)];exact efin_key w K L hl h7 e he hK
    · have:=n.bR e he
      rw [hK] at this;rw [if_pos this];exact efin_key w K R hr h8 e he hK
theorem efin_mem (K:Lq):∀(T:Tre),∀e∈T.efin K,e∈T.ents
  | .emp,e,he=>by cases he
  | .lf k b,e,he=>he
  | .nd d hl hr L R,e,he=>by
    simp only [Tre.efin] at he;split at he
    · exact List.mem_append_right _ (efin_mem K R e he)
    · exact List.mem_append_left _ (efin_mem K L e he)

end Go.Proofs.YtdjpigfibafokaaGreatDoor

namespace Go.Proofs.YtdjpigfibafokaaGreatDoor
variable {E:List Ent}
variable {K bs:Lq}
variable {c d h i m n r top:Nat}
variable {cs cs' cs0 cs1:Lz}
variable {fr fr' fr1 pend ss:List Nat}
set_option maxRecDepth 20000
open Go.RowKit

structure Ext (cs cs':Lz):Prop where
  len:cs.length≤cs'.length
  cc:∀i,i<cs.length→cc cs' i=cc cs i
  ce:∀i,i<cs.length→ce cs' i=ce cs i
theorem IsT.keep {cs cs':Lz} (k:∀i,0<cc cs i→0<cc cs' i∧Core (ce cs i) (ce cs' i)):∀ {T:Tre} {h:Nat},IsT cs h T→IsT cs' h T
  | .emp,_,e=>e
  | .lf _ _,h,⟨h1,h2,h3,h4,h5⟩=>by
    obtain ⟨k1,k2⟩:=k _ h2;refine ⟨h1,k1,?_⟩;rw [k2];exact ⟨h3,h4,h5⟩
  | .nd _ _ _ _ _,h,⟨h1,h2,h3,h4,h5,h6,h7,h8⟩=>by
    obtain ⟨k1,k2⟩:=k _ h2;refine ⟨h1,k1,?_⟩;rw [k2];exact ⟨h3,h4,h5,h6,IsT.keep k h7,IsT.keep k h8⟩
structure Bd (cs:Lz) (es:List Ent) (d h:Nat) (cs':Lz):Prop where
  ext:Ext cs cs'
  wf:Wf cs' []
  tree:∃T,IsT cs' h T∧T.ents.Perm es
  dp:(sdC cs' h).kind=2→(sdC cs' h).dp=d
  own:h≠0→cs.length<h∧h≤cs'.length∧cc cs' (h-1)=1∧(ce cs' (h-1)).ab=0
  num:cs'.length≤cs.length+es.length * (257-d)
  eow:∀i,Go.Proofs.YtdjpigfibafokaaGreatDoor.own cs' [] i=Go.Proofs.YtdjpigfibafokaaGreatDoor.own cs [] i+(if h=i+1 then 1 else 0)

end Go.Proofs.YtdjpigfibafokaaGreatDoor

namespace Go.Proofs.YtdjpigfibafokaaGreatDoor
variable {E:List Ent}
variable {K bs:Lq}
variable {c d h i m n r top:Nat}
variable {cs cs' cs0 cs1:Lz}
variable {fr fr' fr1 pend ss:List Nat}
set_option maxRecDepth 20000
open Go.RowKit

def shr (K:Lq) (d:Nat) (e:Ent):Bool:=(List.range d).all fun j=>kb e.1 j == kb K j
theorem shr_iff {e:Ent}:shr K d e=true↔∀j,j<d→kb e.1 j=kb K j:=by simp [shr]
theorem shr_succ (K:Lq) (d:Nat) (e:Ent):shr K (d+1) e=(shr K d e && (kb e.1 d == kb K d)):=by
  simp [shr,List.range_succ,List.all_append]
theorem shr_le (h:d≤c) {e:Ent} (hs:shr K c e=true):shr K d e=true:=shr_iff.2 fun j hj=>shr_iff.1 hs j (by omega)

def wE (E:List Ent) (K bs:Lq) (d:Nat):List Ent:=(K,bs)::E.filter fun e=>shr K d e && !(e.1 == K)
def bsE (E:List Ent) (K:Lq) (d:Nat):List Ent:=E.filter fun e=>shr K d e && !(kb e.1 d == kb K d)

theorem filter_sub {α:Type} (E:List α) (p q:α→Bool) (h:∀e,q e=true→p e=true):E.filter q=(E.filter p).filter q:=by
  rw [List.filter_filter];congr 1
  funext e
  cases hq:q e with
  | false=>simp
  | true=>simp [h e hq]

theorem wE_step (E:List Ent) (K bs:Lq) (d:Nat):(wE E K bs (d+1)++bsE E K d).Perm (wE E K bs d):=by
  unfold wE;rw [List.cons_append];refine List.Perm.cons _ ?_;have h:=List.filter_append_perm (fun e:Ent=>kb e.1 d == kb K d) (E.filter fun e=>shr K d e && !(e.1 == K));have e1:(E.filter fun e=>shr K d e && !(e.1 == K)).filter (fun e:Ent=>kb e.1 d == kb K d)=E.filter fun e=>shr K (d+1) e && !(e.1 == K):=by
    rw [List.filter_filter];congr 1
    funext e
    rw [shr_succ];cases shr K d e <;> cases (e.1 == K) <;> cases (kb e.1 d == kb K d) <;> rfl
  have e2:(E.filter fun e=>shr K d e && !(e.1 == K)).filter (fun e:Ent=>!(kb e.1 d == kb K d))=bsE E K d:=by
    rw [List.filter_filter];unfold bsE;congr 1
    funext e
    by_cases hk:e.1=K
    · simp [hk]
    · have:(e.1 == K)=false:=by simpa using hk
      rw [this];cases shr K d e <;> cases (kb e.1 d == kb K d) <;> rfl
  rw [e1,e2] at h;exact h

theorem wE_zero (E:List Ent) (K bs:Lq):wE E K bs 0=(K,bs)::E.filter fun e=>!(e.1 == K):=by simp [wE,shr]

structure BesOk (cs:Lz) (E:List Ent) (K:Lq) (ss:List Nat):Prop where
  len:ss.length≤256
  side:∀d,d<ss.length→∃V,IsT cs (ss.getD d 0) V∧V.ents=bsE E K d∧((sdC cs (ss.getD d 0)).kind=2→(sdC cs (ss.getD d 0)).dp=d+1)
  last:0<ss.length→ss.getD (ss.length-1) 0≠0
  none:E.filter (fun e=>shr K ss.length e && !(e.1 == K))=[]

def WayB (cs:Lz) (E:List Ent) (K:Lq) (os:List Nat) (ef:List Ent) (d:Nat):Prop:=
  (∀j,j<os.length→∃V,IsT cs (os.getD j 0) V∧V.ents=bsE E K (d+j)∧((sdC cs (os.getD j 0)).kind=2→(sdC cs (os.getD j 0)).dp=d+j+1))∧ef=E.filter (shr K (d+os.length))∧d+os.length≤256∧(0<os.length→os.getD (os.length-1) 0≠0)

theorem WayB.none {ef:List Ent} (hd:d≤256) (he:ef=E.filter (shr K d)):WayB cs E K [] ef d:=
  ⟨fun j hj=>absurd hj (by simp),by simpa using he,by simpa using hd,fun h=>absurd h (by simp)⟩

theorem WayB.more (w:Wf cs pend) {E:List Ent} {K:Lq} {os:List Nat} {ef:List Ent} {d v:Nat} {V:Tre} (i:WayB cs E K os ef (d+1)) (tV:IsT cs v V) (kV:(sdC cs v).kind=2→(sdC cs v).dp=d+1) (eV:V.ents=bsE E K d) (two:os.length=0→V.ents.length≠0):WayB cs E K (v::os) ef d:=by
  obtain ⟨i1,i2,i3,i4⟩:=i;refine ⟨fun j hj=>?_,by rw [i2,List.length_cons];congr 2;omega,by rw [List.length_cons];omega,fun _=>?_⟩
  · cases j with
    | zero=>exact ⟨V,tV,eV,kV⟩
    | succ j=>
      rw [List.length_cons] at hj;obtain ⟨W,j1,j2,j3⟩:=i1 j (by omega);refine ⟨W,by simpa using j1,by rw [j2];congr 1;omega,fun k=>?_⟩;have:=j3 (by simpa using k);rw [List.getD_cons_succ,this];omega
  · rw [List.length_cons,Nat.add_sub_cancel]
    by_cases hz:0<os.length
    · obtain ⟨q,hq⟩:∃q,os.length=q+1:=⟨os.length-1,by omega⟩
      have:=i4 hz;rw [hq,Nat.add_sub_cancel] at this;rw [hq,List.getD_cons_succ];exact this
    · have hz0:os.length=0:=by omega
      rw [hz0,List.getD_cons_zero];intro hv;subst hv;have:=(tree_ok w V 0 tV).sz;rw [show (sdC cs 0).sz=0 from rfl] at this;exact two hz0 this.symm

theorem oth_few (K:Lq):∀(M:Tre),(M.oth K).length=0→M.ents.length≤1
  | .emp,_=>by simp [Tre.ents]
  | .lf _ _,_=>by simp [Tre.ents]
  | .nd _ _ _ _ _,h=>by
    simp only [Tre.oth] at h;split at h <;> simp at h

theorem way_bes {cs:Lz} {pend:List Nat} (w:Wf cs pend) (E:List Ent) (K:Lq):∀(U:Tre) (x d:Nat),IsT cs x U→((sdC cs x).kind=2→(sdC cs x).dp=d)→d≤256→U.ents=E.filter (shr K d)→WayB cs E K (U.oth K) (U.efin K) d
  | .emp,x,d,_,_,hd,he=>WayB.none hd he
  | .lf k b,x,d,_,_,hd,he=>WayB.none hd he
  | .nd d hl hr L R,x,d',hT,hk,hd,he=>by
    have n:=nd_ok w hT;obtain ⟨h1,h2,h3,h4,h5,h6,h7,h8⟩:=hT;have es:sdC cs x=ce cs (x-1):=if_neg (by omega);obtain rfl:d=d':=by
      rw [es] at hk;rw [← h4];exact hk h3
    have hdp:=n.dp;have ihL:=way_bes w E K L hl (d+1) h7 n.kl (by omega);have ihR:=way_bes w E K R hr (d+1) h8 n.kr (by omega);have he2:L.ents++R.ents=E.filter (shr K d):=he;have f0:(L.ents++R.ents).filter (fun e:Ent=>kb e.1 d == 0)=L.ents:=by
      have e1:L.ents.filter (fun e:Ent=>kb e.1 d == 0)=L.ents:=List.filter_eq_self.2 (fun e h=>by simp [n.bL e h]);have e2:R.ents.filter (fun e:Ent=>kb e.1 d == 0)=[]:=List.filter_eq_nil_iff.2 (fun e h=>by simp [n.bR e h]);rw [List.filter_append,e1,e2,List.append_nil]
    have f1:(L.ents++R.ents).filter (fun e:Ent=>kb e.1 d == 1)=R.ents:=by
      have e1:L.ents.filter (fun e:Ent=>kb e.1 d == 1)=[]:=List.filter_eq_nil_iff.2 (fun e h=>by simp [n.bL e h]);have e2:R.ents.filter (fun e:Ent=>kb e.1 d == 1)=R.ents:=List.filter_eq_self.2 (fun e h=>by simp [n.bR e h]);rw [List.filter_append,e1,e2,List.nil_append]
    have hmine:∀b:Int,kb K d=b→(E.filter (shr K d)).filter (fun e:Ent=>kb e.1 d == b)=E.filter (shr K (d+1)):=fun b hb=>by
      rw [List.filter_filter];congr 1
      funext e
      rw [shr_succ,hb];cases shr K d e <;> cases (kb e.1 d == b) <;> rfl
    have hoth:∀b:Int,kb K d=1-b→(b=0∨b=1)→(E.filter (shr K d)).filter (fun e:Ent=>kb e.1 d == b)=bsE E K d:=fun b hb h01=>by
      rw [List.filter_filter];unfold bsE;congr 1
      funext e
      have e3:(kb e.1 d == b)=!(kb e.1 d == kb K d):=by
        rw [hb];rcases h01 with q | q <;> rcases kb_two e.1 d with q2 | q2 <;> rw [q,q2] <;> rfl
      rw [e3];cases shr K d e <;> cases (kb e.1 d == kb K d) <;> rfl
    have htwo:=n.two;rw [List.length_append] at htwo;rcases kb_two K d with q | q
    · have a1:L.ents=E.filter (shr K (d+1)):=by rw [← hmine 0 q,← he2,f0]
      have a2:R.ents=bsE E K d:=by rw [← hoth 1 (by omega) (.inr rfl),← he2,f1]
      have:=WayB.more w (ihL a1) h8 n.kr a2 (fun z=>by have:=oth_few K L z;omega);simpa [Tre.oth,Tre.efin,q] using this
    · have a1:R.ents=E.filter (shr K (d+1)):=by rw [← hmine 1 q,← he2,f1]
      have a2:L.ents=bsE E K d:=by rw [← hoth 0 (by omega) (.inl rfl),← he2,f0]
      have:=WayB.more w (ihR a1) h7 n.kl a2 (fun z=>by have:=oth_few K R z;omega);simpa [Tre.oth,Tre.efin,q] using this

theorem bes_own (w:Wf cs pend) (K:Lq) {T:Tre} {h:Nat} (hT:IsT cs h T) (hd:(sdC cs h).kind=2→(sdC cs h).dp=0) (hf:∀e∈T.efin K,e.1=K):BesOk cs T.ents K (T.oth K):=by
  obtain ⟨h1,h2,h3,h4⟩:=way_bes w T.ents K T h 0 hT hd (by omega) (by rw [List.filter_eq_self.2];intro e _;simp [shr]);refine ⟨by omega,fun d hd=>?_,h4,?_⟩
  · obtain ⟨V,v1,v2,v3⟩:=h1 d hd
    rw [Nat.zero_add] at v2 v3;exact ⟨V,v1,v2,v3⟩
  · rw [Nat.zero_add] at h2
    rw [filter_sub T.ents (shr K (T.oth K).length) _ (fun e he=>by simp only [Bool.and_eq_true] at he;exact he.1),← h2,List.filter_eq_nil_iff];intro e he;simp [hf e he]

def besX (oth:List Nat) (c f:Nat):List Nat:=oth++(List.replicate (c-oth.length) 0++[f])
theorem besX_len (oth:List Nat) (c f:Nat) (h:oth.length≤c):(besX oth c f).length=c+1:=by simp [besX];omega
theorem besX_low (oth:List Nat) (c f d:Nat) (h:d<oth.length):(besX oth c f).getD d 0=oth.getD d 0:=by
  simp only [besX,List.getD_eq_getElem?_getD];rw [List.getElem?_append_left h]
theorem besX_mid (oth:List Nat) (c f d:Nat) (h:oth.length≤d) (hc:d<c):(besX oth c f).getD d 0=0:=by
  simp only [besX,List.getD_eq_getElem?_getD];rw [List.getElem?_append_right h,List.getElem?_append_left (by simp;omega),List.getElem?_replicate,if_pos (by omega)];rfl
theorem besX_top (oth:List Nat) (c f:Nat) (h:oth.length≤c):(besX oth c f).getD c 0=f:=by
  simp only [besX,List.getD_eq_getElem?_getD];rw [List.getElem?_append_right h,List.getElem?_append_right (by simp),List.length_replicate,Nat.sub_self];rfl

theorem bes_other (w:Wf cs pend) (K:Lq) {T:Tre} {h:Nat} (hT:IsT cs h T) (hd:(sdC cs h).kind=2→(sdC cs h).dp=0) {k b:Lq} (hf:T.efin K=[(k,b)]) (c:Nat) (hc:IsCommon K k c) (hc2:c<256):(T.oth K).length≤c∧BesOk cs T.ents K (besX (T.oth K) c (T.fin K h)):=by
  obtain ⟨h1,h2,h3,h4⟩:=way_bes w T.ents K T h 0 hT hd (by omega) (by rw [List.filter_eq_self.2];intro e _;simp [shr]);rw [Nat.zero_add] at h2 h3;rw [hf] at h2;have hkb:∀j,j<(T.oth K).length→kb k j=kb K j:=by
    have hm:((k,b):Ent)∈T.ents.filter (shr K (T.oth K).length):=by rw [← h2];simp
    exact shr_iff.1 (List.mem_filter.1 hm).2
  have hle:(T.oth K).length≤c:=by
    apply Nat.le_of_not_lt;intro hlt;exact hc.2.2 hc2 (hkb c hlt).symm
  have hsk:∀d,d≤c→shr K d ((k,b):Ent)=true:=fun d hd=>shr_iff.2 fun j hj=>(hc.2.1 j (by omega)).symm
  have hdeep:∀(d:Nat) (q:Ent→Bool),(T.oth K).length≤d→T.ents.filter (fun e=>shr K d e && q e)=[((k,b):Ent)].filter (fun e=>shr K d e && q e):=fun d q hq=>by
    rw [h2];exact filter_sub T.ents _ _ (fun e he=>by simp only [Bool.and_eq_true] at he;exact shr_le hq he.1)
  have hne: ¬kb k c=kb K c:=fun e=>hc.2.2 hc2 e.symm
  obtain ⟨f1,f2⟩ | ⟨k',b',f1,f2,f3,f4,f5,f6⟩:=fin_is K T h hT
  · rw [hf] at f2
    cases f2
  rw [hf] at f1;injection f1 with f1 _;injection f1 with e1 e2;subst e1 e2;have fT:IsT cs (T.fin K h) (.lf k b):=⟨f2,f3,f4,f5,f6⟩;refine ⟨hle,by rw [besX_len _ _ _ hle];omega,fun d hd2=>?_,fun _=>?_,?_⟩
  · rw [besX_len _ _ _ hle] at hd2
    by_cases a1:d<(T.oth K).length
    · obtain ⟨V,v1,v2,v3⟩:=h1 d a1
      rw [Nat.zero_add] at v2 v3;rw [besX_low _ _ _ _ a1];exact ⟨V,v1,v2,v3⟩
    · by_cases a2:d<c
      · rw [besX_mid _ _ _ _ (by omega) a2]
        refine ⟨.emp,rfl,?_,fun q=>absurd q (by show ¬zc.kind=2;decide)⟩;unfold bsE;rw [hdeep d _ (by omega)];have:kb k d=kb K d:=(hc.2.1 d a2).symm;simp [Tre.ents,this]
      · obtain rfl:d=c:=by omega
        rw [besX_top _ _ _ hle];refine ⟨.lf k b,fT,?_,fun q=>?_⟩
        · unfold bsE
          rw [hdeep d _ hle];simp [Tre.ents,hsk d (Nat.le_refl _),hne]
        · rw [sdC,if_neg (by omega)] at q
          omega
  · rw [besX_len _ _ _ hle,Nat.add_sub_cancel,besX_top _ _ _ hle]
    omega
  · rw [besX_len _ _ _ hle,hdeep (c+1) _ (by omega)]
    simp [shr_succ,hne]

end Go.Proofs.YtdjpigfibafokaaGreatDoor

namespace Go.Proofs.YtdjpigfibafokaaGreatDoor
variable {E:List Ent}
variable {K bs:Lq}
variable {c d h i m n r top:Nat}
variable {cs cs' cs0 cs1:Lz}
variable {fr fr' fr1 pend ss:List Nat}
set_option maxRecDepth 20000
open Go.RowKit

theorem moreC_cc (hi:0<cc cs i) (j:Nat):cc (moreC cs i) j=cc cs j+(if i=j then 1 else 0):=by
  unfold moreC;rw [cc_set cs i j _ (cc_lt hi)]
  by_cases e:j=i
  · rw [if_pos e,if_pos e.symm,e]
  · rw [if_neg e,if_neg (fun q=>e q.symm)];rfl
theorem moreC_len (cs:Lz) (i:Nat):(moreC cs i).length=cs.length:=by simp [moreC]
theorem moreC_noc (hi:0<cc cs i):noc (moreC cs i)=noc cs:=by
  have:=noc_set cs i (cc cs i+1,ce cs i) (cc_lt hi);simp only at this;unfold moreC;rw [if_pos hi,if_pos (by omega)] at this;omega

def holdM:Lz→List Nat→Lz
  | cs,[]=>cs
  | cs,h::r=>holdM (if h=0 then cs else moreC cs (h-1)) r

theorem holdM_snoc:∀(l:List Nat) (cs:Lz) (h:Nat),holdM cs (l++[h])=if h=0 then holdM cs l else moreC (holdM cs l) (h-1)
  | [],_,_=>rfl
  | x::r,cs,h=>by
    rw [List.cons_append,holdM,holdM_snoc r];rfl

structure HmOk (cs:Lz) (ss:List Nat) (cs':Lz):Prop where
  len:cs'.length=cs.length
  ce:∀i,ce cs' i=ce cs i
  cc:∀i,cc cs' i=cc cs i+ss.count (i+1)
  noc:noc cs'=noc cs
  wf:Wf cs' []

theorem hm_ok {cs:Lz} (w:Wf cs []):∀(n:Nat) (ss:List Nat),ss.length=n→(∀h∈ss,h=0∨0<cc cs (h-1))→HmOk cs ss (holdM cs ss)
  | 0,ss,hn,_=>by
    obtain rfl:=List.eq_nil_of_length_eq_zero hn;exact ⟨rfl,fun _=>rfl,fun i=>by simp [holdM],rfl,w⟩
  | n+1,ss,hn,hh=>by
    rcases List.eq_nil_or_concat ss with e | ⟨l,h,e⟩
    · rw [e] at hn
      simp at hn
    · rw [List.concat_eq_append] at e
      subst e;have ih:=hm_ok w n l (by simpa using hn) (fun q hq=>hh q (by simp [hq]));rw [holdM_snoc]
      by_cases h0:h=0
      · subst h0
        rw [if_pos rfl];exact ⟨ih.len,ih.ce,fun i=>by rw [ih.cc,List.count_append];simp,ih.noc,ih.wf⟩
      · rw [if_neg h0]
        have hc:0<cc (holdM cs l) (h-1):=by
          rw [ih.cc];rcases hh h (by simp) with e | e <;> omega
        refine ⟨by rw [moreC_len,ih.len],fun i=>by rw [moreC_ce,ih.ce],fun i=>?_,by rw [moreC_noc hc,ih.noc],ih.wf.more _ hc⟩;rw [moreC_cc hc,ih.cc,List.count_append,List.count_singleton]
        by_cases e:h-1=i
        · rw [if_pos e,if_pos (by simp;omega)]
          omega
        · rw [if_neg e,if_neg (by simp;omega)]
          rfl

theorem HmOk.own (h:HmOk cs ss cs') (w:Wf cs []) (i:Nat):own cs' [] i=own cs [] i+ss.count (i+1):=by
  have:=w.le i;unfold Go.Proofs.YtdjpigfibafokaaGreatDoor.own;rw [h.cc,h.ce];omega

theorem noc_tk (h:FrOk cs fr) (p:Nat×Ce) (hp:0<p.1):noc (tkC cs fr p)=noc cs+1:=by
  rcases tk_cases cs fr with ⟨s,fr0,rfl,e1,e2⟩ | ⟨rfl,e1,e2⟩
  · obtain ⟨h1,h2,h3⟩:=h s (by simp)
    have:=noc_set cs (s-1) p (by omega);rw [h3,if_neg (by omega),if_pos hp] at this;rw [e2];omega
  · rw [e2]
    unfold noc;rw [List.map_append,List.map_singleton,occs_snoc];rw [if_pos (show 0<(pl p).1 from hp)]

def InnR (cs:Lz) (fr:List Nat) (d l r:Nat) (cs':Lz):Prop:=
  ∃KF,IsFill (if (sdC cs l).kind=0 then (sdC cs r).key else (sdC cs l).key) d 0 KF∧cs'=upA (upA (tkC cs fr (1,inC (inD (sdD cs l) (sdD cs r)) KF ((sdC cs l).sz+(sdC cs r).sz) d l r)) l) r

theorem own_inner {l:Nat} (W:Wf cs []) (W':Wf cs' []) (hF:FrOk cs fr) (hml:mayP cs (l:Int)) (hmr:mayP cs (r:Int)) (h:InnR cs fr d l r cs'):
    (∀i,own cs' [] i+(if l=i+1 then 1 else 0)+(if r=i+1 then 1 else 0)=own cs [] i+(if tkH cs fr=i+1 then 1 else 0))∧(∀i,0<cc cs i→0<cc cs' i∧Core (ce cs i) (ce cs' i))∧noc cs'=noc cs+1∧cc cs (tkH cs fr-1)=0∧1≤tkH cs fr∧
      (∀L R,IsT cs l L→IsT cs r R→IsT cs' (tkH cs fr) (.nd d l r L R))∧(sdC cs' (tkH cs fr)).dp=d∧(∀i,cc cs' i=if i=tkH cs fr-1 then 1 else cc cs i)∧cs'.length≤cs.length+1:=by
  obtain ⟨KF,hKF,rfl⟩:=h;obtain ⟨X,hX⟩:∃X,X=inC (inD (sdD cs l) (sdD cs r)) KF ((sdC cs l).sz+(sdC cs r).sz) d l r:=⟨_,rfl⟩;rw [← hX] at W' ⊢;have xk:X.kind=2:=by rw [hX];rfl
  have xd:X.dp=d:=by rw [hX];rfl
  have xl:X.l=l:=by rw [hX];rfl
  have xr:X.r=r:=by rw [hX];rfl
  have xa:X.ab=0:=by rw [hX];rfl
  obtain ⟨t1,tk⟩:=tk_of hF (1,X);have u1:=upA_of (tkC cs fr (1,X)) l;have uu:=u1.trans (upA_of (upA (tkC cs fr (1,X)) l) r);have sl:∀q:Nat,mayP cs (q:Int)→(q≠0→0<cc cs (q-1))∧(q-1<(tkC cs fr (1,X)).length∨q=0):=fun q m=>by
    rcases m.side with e | ⟨e1,e2,_⟩
    · exact ⟨fun q0=>absurd e q0,.inr e⟩
    · have:=cc_lt e2
      rw [tk.len];exact ⟨fun _=>e2,.inl (by omega)⟩
  obtain ⟨l1,l2⟩:=sl l hml;obtain ⟨r1,r2⟩:=sl r hmr;have hab:∀i,(ce (upA (upA (tkC cs fr (1,X)) l) r) i).ab=(ce (tkC cs fr (1,X)) i).ab+(if l=i+1 then 1 else 0)+(if r=i+1 then 1 else 0):=fun i=>by
    rw [upA_ab _ r i (by rw [u1.len];exact r2),upA_ab _ l i l2]
  have hcc:∀i,cc (upA (upA (tkC cs fr (1,X)) l) r) i=if i=tkH cs fr-1 then 1 else cc cs i:=fun i=>by rw [uu.cc,tk.cc]
  have nv:∀q:Nat,(q≠0→0<cc cs (q-1))→q≠tkH cs fr:=fun q h e=>by
    have h1:=h (by omega);rw [e,tk.vac] at h1;omega
  have kp:∀i,0<cc cs i→0<cc (upA (upA (tkC cs fr (1,X)) l) r) i∧Core (ce cs i) (ce (upA (upA (tkC cs fr (1,X)) l) r) i):=fun i hi=>by
    have hne: ¬i=tkH cs fr-1:=fun e=>by
      rw [e,tk.vac] at hi;omega
    refine ⟨by rw [hcc,if_neg hne];exact hi,?_⟩;have:=uu.core i;rwa [tk.ce,if_neg hne] at this
  have cr:Core X (ce (upA (upA (tkC cs fr (1,X)) l) r) (tkH cs fr-1)):=by
    have:=uu.core (tkH cs fr-1);rwa [tk.ce,if_pos rfl] at this
  have cn:cc (upA (upA (tkC cs fr (1,X)) l) r) (tkH cs fr-1)=1:=by rw [hcc,if_pos rfl]
  refine ⟨fun i=>?_,kp,?_,tk.vac,t1,fun L R hL hR=>⟨t1,by rw [cn];omega,by rw [cr];exact xk,by rw [cr];exact xd,by rw [cr];exact xl,by rw [cr];exact xr,hL.keep kp,hR.keep kp⟩,by rw [sdC,if_neg (by omega),cr];exact xd,hcc,by rw [uu.len,tk.len];have:=tk.le;omega⟩
  · have hle:=W'.le i
    have hle0:=W.le i;have h1:=hab i;have h2:=hcc i;have h3:=tk.ce i;rw [List.count_nil] at hle hle0;unfold own;rw [List.count_nil]
    by_cases e:i=tkH cs fr-1
    · have e2:tkH cs fr=i+1:=by omega
      have n1: ¬l=i+1:=by rw [← e2];exact nv l l1
      have n2: ¬r=i+1:=by rw [← e2];exact nv r r1
      have v:=tk.vac;rw [← e] at v;rw [if_pos e] at h2 h3;rw [h3] at h1;rw [if_neg n1,if_neg n2,xa] at h1;rw [if_neg n1,if_neg n2,if_pos e2];omega
    · rw [if_neg e] at h2 h3
      rw [h3] at h1;rw [if_neg (show ¬tkH cs fr=i+1 by omega)];omega
  · rw [uu.noc,noc_tk hF (1,X) (by show 0<1;omega)]

theorem side_fits (w:Wf cs []) {x:Nat} {X:Tre} (hT:IsT cs x X) (d:Nat) (hd:(sdC cs x).kind=2→(sdC cs x).dp=d+1) (bit:Int) (hb:∀e∈X.ents,kb e.1 d=bit):
    (sdC cs x).sz=X.ents.length∧fsP (sdC cs x) d bit=true∧(x≠0→∃e∈X.ents,∀j,j<d+1→kb e.1 j=kb (sdC cs x).key j):=by
  have ok:=tree_ok w X x hT
  by_cases h0:x=0
  · subst h0
    exact ⟨ok.sz,rfl,fun q=>absurd rfl q⟩
  · have es1:sdC cs x=ce cs (x-1):=if_neg h0
    have hex:∃e∈X.ents,∀j,j<d+1→kb e.1 j=kb (sdC cs x).key j:=by
      obtain ⟨e,he⟩:=List.exists_mem_of_ne_nil _ (ok.pos h0);refine ⟨e,he,ok.share (d+1) h0 (fun k=>?_) e he⟩;have:=hd (by rw [es1];exact k);rw [es1] at this;omega
    have hk:kb (sdC cs x).key d=bit:=by
      obtain ⟨e,he,hq⟩:=hex;rw [← hq d (by omega)];exact hb e he
    have hcc:0<cc cs (x-1):=by
      match X,hT with
      | .emp,e=>exact absurd e h0
      | .lf _ _,h=>exact h.2.1
      | .nd _ _ _ _ _,h=>exact h.2.1
    have hkd:=w.kinds (x-1) hcc;rw [← es1] at hkd;refine ⟨ok.sz,?_,fun _=>hex⟩;unfold fsP;rcases hkd with e | e
    · rw [if_pos e]
      simpa using hk
    · rw [if_neg (by omega),if_pos e,hd e]
      simpa using hk

theorem two_fit (w:Wf cs []) {l r:Nat} {L R:Tre} (hL:IsT cs l L) (hR:IsT cs r R) (d:Nat) (hd:d<256) (dl:(sdC cs l).kind=2→(sdC cs l).dp=d+1) (dr:(sdC cs r).kind=2→(sdC cs r).dp=d+1) (bl:∀e∈L.ents,kb e.1 d=0) (br:∀e∈R.ents,kb e.1 d=1) (hn:2≤L.ents.length+R.ents.length) (K:Lq) (sl:∀e∈L.ents,∀j,j<d→kb e.1 j=kb K j) (sr:∀e∈R.ents,∀j,j<d→kb e.1 j=kb K j):
    ∃u,(u=true↔Und (sdC cs l).key (sdC cs r).key (d:Int))∧fitP d (sdC cs l) (sdC cs r) u=true:=by
  obtain ⟨a1,a2,a3⟩:=side_fits w hL d dl 0 bl;obtain ⟨b1,b2,b3⟩:=side_fits w hR d dr 1 br
  by_cases hu:Und (sdC cs l).key (sdC cs r).key (d:Int)
  · refine ⟨true,by simp [hu],?_⟩
    unfold fitP;rw [a2,b2];simp;omega
  · refine ⟨false,by simp [hu],?_⟩
    have:(sdC cs l).kind=0∨(sdC cs r).kind=0:=by
      apply Classical.byContradiction;intro hq;have hl0:l≠0:=fun e=>hq (.inl (by rw [e];rfl))
      have hr0:r≠0:=fun e=>hq (.inr (by rw [e];rfl))
      obtain ⟨x,hx,hxk⟩:=a3 hl0;obtain ⟨y,hy,hyk⟩:=b3 hr0;refine hu ⟨by omega,by omega,fun j hj=>?_⟩;rw [← hxk j (by omega),← hyk j (by omega),sl x hx j (by omega),sr y hy j (by omega)]
    unfold fitP;rw [a2,b2];rcases this with e | e <;> simp [e] <;> omega

structure RzI (cs0:Lz) (E:List Ent) (K bs:Lq) (ss:List Nat) (m:Nat) (cs:Lz) (top:Nat):Prop where
  wf:Wf cs []
  keep:∀i,0<cc cs0 i→0<cc cs i∧Core (ce cs0 i) (ce cs i)
  tree:∃U,IsT cs top U∧U.ents.Perm (wE E K bs m)
  dp:(sdC cs top).kind=2→(sdC cs top).dp=m
  own:∀i,own cs [] i=own cs0 [] i+(ss.take m).count (i+1)+(if top=i+1 then 1 else 0)
  new:1≤top∧cc cs0 (top-1)=0
  noc:noc cs+m=noc cs0+1+ss.length
  cnt:∀i,0<cc cs0 i→cc cs i=cc cs0 i+ss.count (i+1)
  len:cs.length+m≤cs0.length+1+ss.length

theorem IsT.occ {T:Tre} (hT:IsT cs h T):h=0∨1≤h∧0<cc cs (h-1):=by
  match T,hT with
  | .emp,e=>exact .inl e
  | .lf _ _,h=>exact .inr ⟨h.1,h.2.1⟩
  | .nd _ _ _ _ _,h=>exact .inr ⟨h.1,h.2.1⟩

theorem may_own (ho:h=0∨0<own cs [] (h-1)):mayP cs (h:Int):=by
  by_cases h0:h=0
  · exact .inl (by omega)
  · refine .inr ?_
    have:=ho.resolve_left h0;unfold own at this;rw [List.count_nil] at this;rw [cat_nat,cot,if_pos (by omega),show ((h:Int)-1).toNat=h-1 by omega,sdC,if_neg h0];omega

theorem rzi_leaf (W0:Wf cs0 []) (b:BesOk cs0 E K ss) (hm:HmOk cs0 ss cs1) (hF:FrOk cs1 fr) (v:Value) (hb:Bytes bs) (hl:bs.length≤1024) (ok:CeOk (lfC (lfD K (vaD bs)) K v bs)):
    RzI cs0 E K bs ss ss.length (tkC cs1 fr (1,lfC (lfD K (vaD bs)) K v bs)) (tkH cs1 fr):=by
  obtain ⟨X,hX⟩:∃X,X=lfC (lfD K (vaD bs)) K v bs:=⟨_,rfl⟩;have lo:=leaf_ok K v bs hb hl;rw [← hX] at ok lo ⊢;obtain ⟨t1,tk⟩:=tk_of hF (1,X);have W2:=hm.wf.leaf tk lo ok (by rw [hX];rfl);have hcn:cc (tkC cs1 fr (1,X)) (tkH cs1 fr-1)=1:=by rw [tk.cc,if_pos rfl]
  have hen:ce (tkC cs1 fr (1,X)) (tkH cs1 fr-1)=X:=by rw [tk.ce,if_pos rfl]
  have hv:cc cs0 (tkH cs1 fr-1)=0:=by
    have:=tk.vac;rw [hm.cc] at this;omega
  refine ⟨W2,fun i hi=>?_,⟨.lf K bs,⟨t1,by rw [hcn];omega,by rw [hen,hX];rfl,by rw [hen,hX];rfl,by rw [hen,hX];rfl⟩,?_⟩,fun k=>?_,fun i=>?_,⟨t1,hv⟩,?_,fun i hi=>?_,by rw [tk.len,← hm.len];have:=tk.le;omega⟩
  · have hne: ¬i=tkH cs1 fr-1:=fun e=>by
      rw [e,hv] at hi;omega
    rw [tk.cc,tk.ce,if_neg hne,if_neg hne,hm.cc,hm.ce];exact ⟨by omega,Core.refl _⟩
  · unfold wE
    rw [b.none];exact List.Perm.refl _
  · rw [sdC,if_neg (by omega),hen,hX] at k
    exact absurd k (by show ¬(1:Int)=2;omega)
  · have h1:=hm.own W0 i
    rw [List.take_of_length_le (Nat.le_refl _),← h1];have hle:=hm.wf.le i;unfold own;rw [tk.cc,tk.ce]
    by_cases e:i=tkH cs1 fr-1
    · have v:=tk.vac
      rw [← e] at v;rw [v] at hle ⊢;rw [if_pos e,if_pos e,if_pos (by omega),hX];simp [lfC]
    · rw [if_neg e,if_neg e,if_neg (by omega)]
      rfl
  · rw [noc_tk hF _ (by show 0<1;omega),hm.noc]
  · have hne: ¬i=tkH cs1 fr-1:=fun e=>by
      rw [e,hv] at hi;omega
    rw [tk.cc,if_neg hne,hm.cc]

def tl (K:Lq) (m top s:Nat):Nat:=if kb K m=1 then s else top
def tr (K:Lq) (m top s:Nat):Nat:=if kb K m=1 then top else s

theorem rzi_fit (b:BesOk cs0 E K ss) (hm:m<ss.length) (I:RzI cs0 E K bs ss (m+1) cs top):
    mayP cs (tl K m top (ss.getD m 0):Int)∧mayP cs (tr K m top (ss.getD m 0):Int)∧∃u,(u=true↔Und (sdC cs (tl K m top (ss.getD m 0))).key (sdC cs (tr K m top (ss.getD m 0))).key (m:Int))∧fitP m (sdC cs (tl K m top (ss.getD m 0))) (sdC cs (tr K m top (ss.getD m 0))) u=true∧
      ∀fr cs',FrOk cs fr→InnR cs fr m (tl K m top (ss.getD m 0)) (tr K m top (ss.getD m 0)) cs'→Wf cs' []→RzI cs0 E K bs ss m cs' (tkH cs fr):=by
  obtain ⟨s,hs⟩:∃s,s=ss.getD m 0:=⟨_,rfl⟩;rw [← hs];obtain ⟨V,v1,v2,v3⟩:=b.side m hm;rw [← hs] at v1 v3;obtain ⟨U,u1,u2⟩:=I.tree;have tV:IsT cs s V:=v1.keep I.keep;have kV:(sdC cs s).kind=2→(sdC cs s).dp=m+1:=fun k=>by
    rcases v1.occ with e | ⟨e1,e2⟩
    · rw [e] at k
      exact absurd k (by show ¬zc.kind=2;decide)
    · have hco:=(I.keep _ e2).2
      have e3:sdC cs0 s=ce cs0 (s-1):=if_neg (by omega);rw [sdC,if_neg (by omega),hco] at k ⊢;rw [e3] at v3;exact v3 k
  have hbU:∀e∈U.ents,(∀j,j<m+1→kb e.1 j=kb K j):=fun e he=>by
    have:=u2.mem_iff.1 he;unfold wE at this;rcases List.mem_cons.1 this with q | q
    · rw [q]
      intro j _;rfl
    · have:=(List.mem_filter.1 q).2
      simp only [Bool.and_eq_true] at this;exact shr_iff.1 this.1
  have hbV:∀e∈V.ents,(∀j,j<m→kb e.1 j=kb K j)∧kb e.1 m=1-kb K m:=fun e he=>by
    rw [v2] at he;have:=(List.mem_filter.1 he).2;simp only [Bool.and_eq_true,Bool.not_eq_true',beq_eq_false_iff_ne,ne_eq] at this;refine ⟨shr_iff.1 this.1,?_⟩;have h2:=this.2;rcases kb_two K m with q | q <;> rcases kb_two e.1 m with q2 | q2 <;> omega
  have hperm:(U.ents++V.ents).Perm (wE E K bs m):=by
    rw [v2];exact (u2.append_right _).trans (wE_step E K bs m)
  have htwo:2≤(wE E K bs m).length:=by
    have hn:0<ss.length:=by omega
    obtain ⟨V',w1,w2,_⟩:=b.side (ss.length-1) (by omega);have hne:=b.last hn;have W0T:V'.ents≠[]:=by
      match V',w1 with
      | .emp,e=>exact absurd e hne
      | .lf _ _,_=>simp [Tre.ents]
      | .nd d' hl' hr' L' R',hT'=>
        have:=(nd_ok I.wf (hT'.keep I.keep)).two;intro e;rw [show L'.ents++R'.ents=[] from e] at this;simp at this
    obtain ⟨e,he⟩:=List.exists_mem_of_ne_nil _ W0T;rw [w2] at he;obtain ⟨e1,e2⟩:=List.mem_filter.1 he;simp only [Bool.and_eq_true,Bool.not_eq_true',beq_eq_false_iff_ne,ne_eq] at e2;have:e∈E.filter fun e=>shr K m e && !(e.1 == K):=by
      refine List.mem_filter.2 ⟨e1,?_⟩;simp only [Bool.and_eq_true,Bool.not_eq_true',beq_eq_false_iff_ne,ne_eq];exact ⟨shr_le (by omega) e2.1,fun q=>e2.2 (by rw [q])⟩
    unfold wE;rw [List.length_cons];have:=List.length_pos_of_mem this;omega
  have hlen:U.ents.length+V.ents.length=(wE E K bs m).length:=by rw [← List.length_append];exact hperm.length_eq
  have otop:0<own cs [] (top-1):=by
    rw [I.own,if_pos (by have:=I.new.1;omega)];omega
  have os:s=0∨0<own cs [] (s-1):=by
    by_cases h0:s=0
    · exact .inl h0
    · refine .inr ?_
      rw [I.own];have:0<(ss.take (m+1)).count (s-1+1):=by
        rw [List.count_pos_iff,show s-1+1=s by omega,List.mem_take_iff_getElem];refine ⟨m,by omega,?_⟩;rw [hs,List.getD_eq_getElem?_getD,List.getElem?_eq_getElem hm];rfl
      omega
  have mt:mayP cs (top:Int):=may_own (.inr otop);have ms:mayP cs (s:Int):=may_own os;have hcount:∀i,(ss.take (m+1)).count (i+1)=(ss.take m).count (i+1)+(if s=i+1 then 1 else 0):=fun i=>by
    rw [List.take_add_one,List.getElem?_eq_getElem hm,List.count_append];have e:ss[m]=s:=by rw [hs,List.getD_eq_getElem?_getD,List.getElem?_eq_getElem hm];rfl
    rw [e];simp [List.count_singleton]
  have step:∀(l r:Nat),mayP cs (l:Int)→mayP cs (r:Int)→(∀i,(if l=i+1 then 1 else 0)+(if r=i+1 then 1 else 0)=(if s=i+1 then 1 else 0)+(if top=i+1 then 1 else 0))→(∃L R,IsT cs l L∧IsT cs r R∧(L.ents++R.ents).Perm (wE E K bs m))→∀fr cs',FrOk cs fr→InnR cs fr m l r cs'→Wf cs' []→RzI cs0 E K bs ss m cs' (tkH cs fr):=fun l r ml mr hi ⟨L,R,tL,tR,tp⟩ fr cs' hF hin wf'=>by
    obtain ⟨o1,o2,o3,o4,o5,o6,o7,o8,o9⟩:=own_inner I.wf wf' hF ml mr hin;refine ⟨wf',fun i hi=>⟨(o2 i (I.keep i hi).1).1,(I.keep i hi).2.trans (o2 i (I.keep i hi).1).2⟩,⟨_,o6 L R tL tR,tp⟩,fun _=>o7,fun i=>?_,⟨o5,?_⟩,?_,fun i hi=>?_,by have:=I.len;omega⟩
    · have h1:=o1 i
      have h2:=I.own i;have h3:=hcount i;have h4:=hi i;omega
    · apply Classical.byContradiction
      intro q;have:=(I.keep (tkH cs fr-1) (by omega)).1;omega
    · have:=I.noc
      omega
    · have h1:=(I.keep i hi).1
      have hne: ¬i=tkH cs fr-1:=fun e=>by
        rw [e,o4] at h1;omega
      rw [o8,if_neg hne];exact I.cnt i hi
  have hb1:=hbU;rcases kb_two K m with q | q
  · have el:tl K m top s=top:=by unfold tl;rw [if_neg (by omega)]
    have er:tr K m top s=s:=by unfold tr;rw [if_neg (by omega)]
    rw [el,er];obtain ⟨u,hu,hf⟩:=two_fit I.wf u1 tV m (by have:=b.len;omega) I.dp kV (fun e he=>by rw [hbU e he m (by omega),q]) (fun e he=>by rw [(hbV e he).2,q];rfl) (by omega) K (fun e he j hj=>hbU e he j (by omega)) (fun e he j hj=>(hbV e he).1 j hj);exact ⟨mt,ms,u,hu,hf,step top s mt ms (fun i=>by omega) ⟨U,V,u1,tV,hperm⟩⟩
  · have el:tl K m top s=s:=by unfold tl;rw [if_pos q]
    have er:tr K m top s=top:=by unfold tr;rw [if_pos q]
    rw [el,er];obtain ⟨u,hu,hf⟩:=two_fit I.wf tV u1 m (by have:=b.len;omega) kV I.dp (fun e he=>by rw [(hbV e he).2,q];rfl) (fun e he=>by rw [hbU e he m (by omega),q]) (by omega) K (fun e he j hj=>(hbV e he).1 j hj) (fun e he j hj=>hbU e he j (by omega));exact ⟨ms,mt,u,hu,hf,step s top ms mt (fun i=>rfl) ⟨V,U,tV,u1,List.perm_append_comm.trans hperm⟩⟩

inductive Rz (K:Lq):List Nat→Lz→List Nat→Nat→Lz→List Nat→Nat→Prop
  | done (cs:Lz) (fr:List Nat) (t:Nat):Rz K [] cs fr t cs fr t
  | step {ss:List Nat} {s:Nat} {cs cs1 cs2:Lz} {fr fr2:List Nat} {t t2:Nat}:InnR cs fr ss.length (tl K ss.length t s) (tr K ss.length t s) cs1→Rz K ss cs1 fr.dropLast (tkH cs fr) cs2 fr2 t2→Rz K (ss++[s]) cs fr t cs2 fr2 t2

theorem IsT.stay {cs cs':Lz} {pend:List Nat} (w':Wf cs' pend) (k:∀i,0<cc cs' i→0<cc cs i∧Core (ce cs i) (ce cs' i)):∀ {T:Tre} {h:Nat},IsT cs h T→(h=0∨0<cc cs' (h-1))→IsT cs' h T
  | .emp,_,e,_=>e
  | .lf _ _,h,⟨h1,h2,h3,h4,h5⟩,ho=>by
    have o:=ho.resolve_left (by omega);refine ⟨h1,o,?_⟩;rw [(k _ o).2];exact ⟨h3,h4,h5⟩
  | .nd _ hl hr _ _,h,⟨h1,h2,h3,h4,h5,h6,h7,h8⟩,ho=>by
    have o:=ho.resolve_left (by omega);have kc:=(k _ o).2;have sd:∀q,(q=hl∨q=hr)→(q=0∨0<cc cs' (q-1)):=fun q hq=>by
      by_cases q0:q=0
      · exact .inl q0
      · refine .inr (Wf.sides w'.ab w'.le (h-1) o q ?_ q0)
        rw [kc];rcases hq with e | e
        · exact .inl (e.trans h5.symm)
        · exact .inr (e.trans h6.symm)
    refine ⟨h1,o,?_⟩;rw [kc];exact ⟨h3,h4,h5,h6,IsT.stay w' k h7 (sd _ (.inl rfl)),IsT.stay w' k h8 (sd _ (.inr rfl))⟩

structure PutOk (cs0:Lz) (E:List Ent) (K bs:Lq) (root top:Nat) (ss:List Nat) (cs':Lz):Prop where
  wf:Wf cs' []
  tree:∃U,IsT cs' top U∧U.ents.Perm ((K,bs)::E.filter fun e=>!(e.1 == K))
  dp:(sdC cs' top).kind=2→(sdC cs' top).dp=0
  own:∀i,own cs' [] i+(if root=i+1 then 1 else 0)=own cs0 [] i+(if top=i+1 then 1 else 0)
  new:1≤top∧cc cs0 (top-1)=0
  keep:∀h T,IsT cs0 h T→(h=0∨0<cc cs' (h-1))→IsT cs' h T
  noc:noc cs'≤noc cs0+(1+ss.length)
  len:cs'.length≤cs0.length+(1+ss.length)
  just:root=0∨root∈ss→Go.Proofs.YtdjpigfibafokaaGreatDoor.noc cs'=Go.Proofs.YtdjpigfibafokaaGreatDoor.noc cs0+(1+ss.length)

theorem put_ok0 (I:RzI cs0 E K bs ss 0 cs1 top):PutOk cs0 E K bs 0 top ss cs1:=by
  obtain ⟨U,u1,u2⟩:=I.tree;rw [wE_zero] at u2;refine ⟨I.wf,⟨U,u1,u2⟩,I.dp,fun i=>?_,I.new,fun h T hT _=>hT.keep I.keep,by have:=I.noc;omega,by have:=I.len;omega,fun _=>by have:=I.noc;omega⟩;have:=I.own i;rw [List.take_zero,List.count_nil] at this;rw [if_neg (by omega)];omega
theorem own_pend (hr:1≤r) (ho:0<own cs [] (r-1)):own cs [r] i+(if r=i+1 then 1 else 0)=own cs [] i:=by
  unfold own at *;rw [List.count_nil,List.count_singleton] at *
  by_cases e:r=i+1
  · subst e
    rw [Nat.add_sub_cancel] at ho;rw [if_pos rfl,if_pos (by simp)];omega
  · rw [if_neg e,if_neg (by simpa using e)]
    rfl

theorem put_ok1 (I:RzI cs0 E K bs ss 0 cs1 top) (ho:0<own cs0 [] (r-1)) (hr:1≤r) (run:Run cs1 fr1 [r] cs' fr' n) (st:Step cs1 [r] cs' [] n):PutOk cs0 E K bs r top ss cs':=by
  obtain ⟨U,u1,u2⟩:=I.tree;rw [wE_zero] at u2;have h0:∀i,own cs1 [] i=own cs0 [] i+(if top=i+1 then 1 else 0):=fun i=>by
    have:=I.own i;rw [List.take_zero,List.count_nil] at this;exact this
  have hown:∀i,own cs' [] i+(if r=i+1 then 1 else 0)=own cs0 [] i+(if top=i+1 then 1 else 0):=fun i=>by
    rw [st.own i,← h0 i];exact own_pend hr (by rw [h0];omega)
  have hnt:=I.new;have hrt:r≠top:=fun e=>by
    have:=hnt.2;rw [← e] at this;unfold Go.Proofs.YtdjpigfibafokaaGreatDoor.own at ho;omega
  have ct:0<cc cs' (top-1):=by
    have:=hown (top-1);rw [if_pos (show top=top-1+1 by omega),if_neg (by omega)] at this;unfold Go.Proofs.YtdjpigfibafokaaGreatDoor.own at this;omega
  have tt:=u1.stay st.wf st.keep (.inr ct);refine ⟨st.wf,⟨U,tt,u2⟩,fun k=>?_,hown,hnt,fun h T hT hh=>(hT.keep I.keep).stay st.wf st.keep hh,by have:=I.noc;have:=st.noc;omega,by have:=I.len;have:=st.len;omega,fun hh=>?_⟩
  · have hc:=(st.keep _ ct).2
    have hd:=I.dp;rw [sdC,if_neg (by omega)] at k hd ⊢;rw [hc] at k ⊢;exact hd k
  · have hm:=hh.resolve_left (by omega)
    have hcc:0<cc cs0 (r-1):=by
      unfold Go.Proofs.YtdjpigfibafokaaGreatDoor.own at ho;omega
    have h2:=I.cnt (r-1) hcc;have h3:0<ss.count (r-1+1):=by
      rw [List.count_pos_iff,show r-1+1=r by omega];exact hm
    have n0:n=0:=by
      cases run with
      | keep _ k=>
        cases k
        rfl
      | free hc _=>
        simp only [Nat.add_sub_cancel] at h2 hcc h3;omega
    have:=I.noc;have:=st.noc;omega

end Go.Proofs.YtdjpigfibafokaaGreatDoor
