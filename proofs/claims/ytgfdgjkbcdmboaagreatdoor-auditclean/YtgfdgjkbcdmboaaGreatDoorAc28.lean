/- node.RootAt and node.Root at any entries, as contracts. -/
import Derived.Test.YtgfdgjkbcdmboaaGreatDoorAc27
namespace Go.Proofs.YtgfdgjkbcdmboaaGreatDoor
set_option maxRecDepth 20000
open Go.RowKit
def RootPost (es:List Ent) (d:Int) (w:World) (e:Ending) (w':World):Prop:=∃h E,e=.returned (.tuple #[.agg (B h),.int .i64 E])∧RootIs es d h E∧Below w.heap.size w w'
theorem Zzl {es:List Ent} (h:4096<es.length):errB es=4:=by rw [errB,if_pos h]
theorem Zvc (v:Value) (V:Nat→Value) (es:List Ent) (d:Int) (w:World) (hv:PrAt w v V es) (hn:es.length≤140737488355328) (hL:Laid w):Calls Tryz.prog 130 #[v,.int .i64 d] w (RootPost es d w):=by
 by_cases hd:d<0∨256<d
 ·exact (Zva v V es d w hv hd).mono fun e w' ⟨h1,h2⟩=>⟨_,_,h1,.out hd,h2⟩
 ·obtain ⟨m,rfl⟩:∃m:Nat,d=(m:Int):=⟨d.toNat,by omega⟩
  by_cases hE:errB es=0
  ·have hl:es.length≤4096:=by
    by_cases h:4096<es.length
    ·rw [Zzl h] at hE
     omega
    ·omega
   by_cases hs:SameE es m
   ·exact (Zoq v V es m true w hv hl hL (by omega) hE ⟨fun _=>hs,fun _=>rfl⟩).mono fun e w' ⟨h1,h2⟩=>⟨_,_,h1,.good (by omega) (by omega) hE (by simpa using hs),h2⟩
   ·exact (Zoq v V es m false w hv hl hL (by omega) hE ⟨fun h=>(by cases h),fun h=>absurd h hs⟩).mono fun e w' ⟨h1,h2⟩=>⟨_,_,h1,.part (by omega) (by omega) hE (by simpa using hs),h2⟩
  ·exact (Zvb v V es m w hv hn (by omega) hE).mono fun e w' ⟨h1,h2⟩=>⟨_,_,h1,.bad _ (by omega) (by omega) rfl hE,h2⟩
set_option maxHeartbeats 2000000 in
theorem Yfi (v:Value) (V:Nat→Value) (es:List Ent) (w:World) (hv:PrAt w v V es) (hn:es.length≤140737488355328) (hL:Laid w):Calls Tryz.prog 72 #[v] w (RootPost es 0 w):=by
 have HR:Hid (∀w',Below w.heap.size w w'→Calls Tryz.prog 130 #[v,.int .i64 0] w' (RootPost es 0 w')):=fun w' hb=>Zvc v V es 0 w' (hv.grow hb) hn (hL.grow hb)
 obtain ⟨a,cap,rfl,_,_,_⟩:=hv
 clear hL
 go_enter Tryz.func72,Tryz.ntmps72
 go_wp2_with (first
  |((with_reducible refine Zv 2 ?_);refine Zg _ rfl _ rfl _ Zab ?_;intro w1 g1 hg1 hl1 B1 b1)
  |(go_at_call 130;refine (HR.out _ b1).mono ?_;rintro e w2 ⟨h,E,rfl,hi,b2⟩;have HI:=Za hi;have HF:=Za (Zds h hi.len);clear hi;have B2:=B1.grow b2)
  |((with_reducible refine Zah 2 ?_);refine Zf _ rfl _ _ _ rfl g1 _ (B h) rfl rfl B2 HF.out.1 HF.out.2 (Zbe _) ?_;intro w3 B3 r3))
 exact bodyPost_ret (v:=.tuple #[.agg (B h),.int .i64 E]) (Zac rfl _ _ g1 _ _ _ _ rfl rfl B3 Tryz.underlying121 HF.out.1) rfl ⟨h,E,rfl,HI.out,Ze (Zb b1 b2) r3 hg1⟩
theorem Ynd (D:List Int) (h:D.length=32):(Tryz.prog.info? 121).map (·.size)=some (B D).toList.length:=by rw [Zaf,List.length_map,h];exact Zy
structure Ext (cs cs':List (Nat×Ce)):Prop where
 len:cs.length≤cs'.length
 cc:∀i,i<cs.length→cc cs' i=cc cs i
 ce:∀i,i<cs.length→ce cs' i=ce cs i
theorem IsT.keep {cs cs':List (Nat×Ce)} (k:∀i,0<cc cs i→0<cc cs' i∧Core (ce cs i) (ce cs' i)):∀ {T:Tre} {h:Nat},IsT cs h T→IsT cs' h T
 | .emp,_,e=>e
 | .lf _ _,h,⟨h1,h2,h3,h4,h5⟩=>by
  obtain ⟨k1,k2⟩:=k _ h2
  refine ⟨h1,k1,?_⟩
  rw [k2]
  exact ⟨h3,h4,h5⟩
 | .nd _ _ _ _ _,h,⟨h1,h2,h3,h4,h5,h6,h7,h8⟩=>by
  obtain ⟨k1,k2⟩:=k _ h2
  refine ⟨h1,k1,?_⟩
  rw [k2]
  exact ⟨h3,h4,h5,h6,IsT.keep k h7,IsT.keep k h8⟩
structure Bd (cs:List (Nat×Ce)) (es:List Ent) (d h:Nat) (cs':List (Nat×Ce)):Prop where
 ext:Ext cs cs'
 wf:Wf cs' []
 tree:∃T,IsT cs' h T∧T.ents.Perm es
 dp:(sdC cs' h).kind=2→(sdC cs' h).dp=d
 own:h≠0→cs.length<h∧h≤cs'.length∧cc cs' (h-1)=1∧(ce cs' (h-1)).ab=0
 num:cs'.length≤cs.length+es.length * (257-d)
def shr (K:List Int) (d:Nat) (e:Ent):Bool:=(List.range d).all fun j=>kb e.1 j == kb K j
theorem Zgr {K:List Int} {d:Nat} {e:Ent}:shr K d e=true↔∀j,j<d→kb e.1 j=kb K j:=by simp [shr]
theorem Zlo (K:List Int) (d:Nat) (e:Ent):shr K (d+1) e=(shr K d e && (kb e.1 d == kb K d)):=by
 simp [shr,List.range_succ,List.all_append]
theorem Yfp {K:List Int} {d c:Nat} (h:d≤c) {e:Ent} (hs:shr K c e=true):shr K d e=true:=Zgr.2 fun j hj=>Zgr.1 hs j (by omega)
def wE (E:List Ent) (K bs:List Int) (d:Nat):List Ent:=(K,bs)::E.filter fun e=>shr K d e && !(e.1 == K)
def bsE (E:List Ent) (K:List Int) (d:Nat):List Ent:=E.filter fun e=>shr K d e && !(kb e.1 d == kb K d)
theorem Zkq {α:Type} (E:List α) (p q:α→Bool) (h:∀e,q e=true→p e=true):E.filter q=(E.filter p).filter q:=by
 rw [List.filter_filter]
 congr 1
 funext e
 cases hq:q e with
 | false=>simp
 | true=>simp [h e hq]
theorem Ygm (E:List Ent) (K bs:List Int) (d:Nat):(wE E K bs (d+1)++bsE E K d).Perm (wE E K bs d):=by
 unfold wE
 rw [List.cons_append]
 refine List.Perm.cons _ ?_
 have h:=List.filter_append_perm (fun e:Ent=>kb e.1 d == kb K d) (E.filter fun e=>shr K d e && !(e.1 == K))
 have e1:(E.filter fun e=>shr K d e && !(e.1 == K)).filter (fun e:Ent=>kb e.1 d == kb K d)=E.filter fun e=>shr K (d+1) e && !(e.1 == K):=by
  rw [List.filter_filter]
  congr 1
  funext e
  rw [Zlo]
  cases shr K d e <;> cases (e.1 == K) <;> cases (kb e.1 d == kb K d) <;> rfl
 have e2:(E.filter fun e=>shr K d e && !(e.1 == K)).filter (fun e:Ent=>!(kb e.1 d == kb K d))=bsE E K d:=by
  rw [List.filter_filter]
  unfold bsE
  congr 1
  funext e
  by_cases hk:e.1=K
  ·simp [hk]
  ·have:(e.1 == K)=false:=by simpa using hk
   rw [this]
   cases shr K d e <;> cases (kb e.1 d == kb K d) <;> rfl
 rw [e1,e2] at h
 exact h
theorem Zvm (E:List Ent) (K bs:List Int):wE E K bs 0=(K,bs)::E.filter fun e=>!(e.1 == K):=by simp [wE,shr]
structure BesOk (cs:List (Nat×Ce)) (E:List Ent) (K:List Int) (ss:List Nat):Prop where
 len:ss.length≤256
 side:∀d,d<ss.length→∃V,IsT cs (ss.getD d 0) V∧V.ents=bsE E K d∧((sdC cs (ss.getD d 0)).kind=2→(sdC cs (ss.getD d 0)).dp=d+1)
 last:0<ss.length→ss.getD (ss.length-1) 0≠0
 none:E.filter (fun e=>shr K ss.length e && !(e.1 == K))=[]
def WayB (cs:List (Nat×Ce)) (E:List Ent) (K:List Int) (os:List Nat) (ef:List Ent) (d:Nat):Prop:=
 (∀j,j<os.length→∃V,IsT cs (os.getD j 0) V∧V.ents=bsE E K (d+j)∧((sdC cs (os.getD j 0)).kind=2→(sdC cs (os.getD j 0)).dp=d+j+1))∧ef=E.filter (shr K (d+os.length))∧d+os.length≤256∧(0<os.length→os.getD (os.length-1) 0≠0)
theorem WayB.none {cs:List (Nat×Ce)} {E:List Ent} {K:List Int} {ef:List Ent} {d:Nat} (hd:d≤256) (he:ef=E.filter (shr K d)):WayB cs E K [] ef d:=
 ⟨fun j hj=>absurd hj (by simp),by simpa using he,by simpa using hd,fun h=>absurd h (by simp)⟩
theorem WayB.more {cs:List (Nat×Ce)} {pend:List Nat} (w:Wf cs pend) {E:List Ent} {K:List Int} {os:List Nat} {ef:List Ent} {d v:Nat} {V:Tre} (i:WayB cs E K os ef (d+1)) (tV:IsT cs v V) (kV:(sdC cs v).kind=2→(sdC cs v).dp=d+1) (eV:V.ents=bsE E K d) (two:os.length=0→V.ents.length≠0):WayB cs E K (v::os) ef d:=by
 obtain ⟨i1,i2,i3,i4⟩:=i
 refine ⟨fun j hj=>?_,by rw [i2,List.length_cons];congr 2;omega,by rw [List.length_cons];omega,fun _=>?_⟩
 ·cases j with
  | zero=>exact ⟨V,tV,eV,kV⟩
  | succ j=>
   rw [List.length_cons] at hj
   obtain ⟨W,j1,j2,j3⟩:=i1 j (by omega)
   refine ⟨W,by simpa using j1,by rw [j2];congr 1;omega,fun k=>?_⟩
   have:=j3 (by simpa using k)
   rw [List.getD_cons_succ,this]
   omega
 ·rw [List.length_cons,Nat.add_sub_cancel]
  by_cases hz:0<os.length
  ·obtain ⟨q,hq⟩:∃q,os.length=q+1:=⟨os.length-1,by omega⟩
   have:=i4 hz
   rw [hq,Nat.add_sub_cancel] at this
   rw [hq,List.getD_cons_succ]
   exact this
  ·have hz0:os.length=0:=by omega
   rw [hz0,List.getD_cons_zero]
   intro hv
   subst hv
   have:=(Zau w V 0 tV).sz
   rw [show (sdC cs 0).sz=0 from rfl] at this
   exact two hz0 this.symm
theorem Zyf (K:List Int):∀(M:Tre),(M.oth K).length=0→M.ents.length≤1
 | .emp,_=>by simp [Tre.ents]
 | .lf _ _,_=>by simp [Tre.ents]
 | .nd _ _ _ _ _,h=>by
  simp only [Tre.oth] at h
  split at h <;> simp at h
theorem Zlb {cs:List (Nat×Ce)} {pend:List Nat} (w:Wf cs pend) (E:List Ent) (K:List Int):∀(U:Tre) (x d:Nat),IsT cs x U→((sdC cs x).kind=2→(sdC cs x).dp=d)→d≤256→U.ents=E.filter (shr K d)→WayB cs E K (U.oth K) (U.efin K) d
 | .emp,x,d,_,_,hd,he=>WayB.none hd he
 | .lf k b,x,d,_,_,hd,he=>WayB.none hd he
 | .nd d hl hr L R,x,d',hT,hk,hd,he=>by
  have n:=Zhp w hT
  obtain ⟨h1,h2,h3,h4,h5,h6,h7,h8⟩:=hT
  have es:sdC cs x=ce cs (x-1):=if_neg (by omega)
  obtain rfl:d=d':=by
   rw [es] at hk
   rw [← h4]
   exact hk h3
  have hdp:=n.dp
  have ihL:=Zlb w E K L hl (d+1) h7 n.kl (by omega)
  have ihR:=Zlb w E K R hr (d+1) h8 n.kr (by omega)
  have he2:L.ents++R.ents=E.filter (shr K d):=he
  have f0:(L.ents++R.ents).filter (fun e:Ent=>kb e.1 d == 0)=L.ents:=by
   have e1:L.ents.filter (fun e:Ent=>kb e.1 d == 0)=L.ents:=List.filter_eq_self.2 (fun e h=>by simp [n.bL e h])
   have e2:R.ents.filter (fun e:Ent=>kb e.1 d == 0)=[]:=List.filter_eq_nil_iff.2 (fun e h=>by simp [n.bR e h])
   rw [List.filter_append,e1,e2,List.append_nil]
  have f1:(L.ents++R.ents).filter (fun e:Ent=>kb e.1 d == 1)=R.ents:=by
   have e1:L.ents.filter (fun e:Ent=>kb e.1 d == 1)=[]:=List.filter_eq_nil_iff.2 (fun e h=>by simp [n.bL e h])
   have e2:R.ents.filter (fun e:Ent=>kb e.1 d == 1)=R.ents:=List.filter_eq_self.2 (fun e h=>by simp [n.bR e h])
   rw [List.filter_append,e1,e2,List.nil_append]
  have hmine:∀b:Int,kb K d=b→(E.filter (shr K d)).filter (fun e:Ent=>kb e.1 d == b)=E.filter (shr K (d+1)):=fun b hb=>by
   rw [List.filter_filter]
   congr 1
   funext e
   rw [Zlo,hb]
   cases shr K d e <;> cases (kb e.1 d == b) <;> rfl
  have hoth:∀b:Int,kb K d=1-b→(b=0∨b=1)→(E.filter (shr K d)).filter (fun e:Ent=>kb e.1 d == b)=bsE E K d:=fun b hb h01=>by
   rw [List.filter_filter]
   unfold bsE
   congr 1
   funext e
   have e3:(kb e.1 d == b)=!(kb e.1 d == kb K d):=by
    rw [hb]
    rcases h01 with q | q <;> rcases Zgb e.1 d with q2 | q2 <;> rw [q,q2] <;> rfl
   rw [e3]
   cases shr K d e <;> cases (kb e.1 d == kb K d) <;> rfl
  have htwo:=n.two
  rw [List.length_append] at htwo
  rcases Zgb K d with q | q
  ·have a1:L.ents=E.filter (shr K (d+1)):=by rw [← hmine 0 q,← he2,f0]
   have a2:R.ents=bsE E K d:=by rw [← hoth 1 (by omega) (.inr rfl),← he2,f1]
   have:=WayB.more w (ihL a1) h8 n.kr a2 (fun z=>by have:=Zyf K L z;omega)
   simpa [Tre.oth,Tre.efin,q] using this
  ·have a1:R.ents=E.filter (shr K (d+1)):=by rw [← hmine 1 q,← he2,f1]
   have a2:L.ents=bsE E K d:=by rw [← hoth 0 (by omega) (.inl rfl),← he2,f0]
   have:=WayB.more w (ihR a1) h7 n.kl a2 (fun z=>by have:=Zyf K R z;omega)
   simpa [Tre.oth,Tre.efin,q] using this
theorem Yap {cs:List (Nat×Ce)} {pend:List Nat} (w:Wf cs pend) (K:List Int) {T:Tre} {h:Nat} (hT:IsT cs h T) (hd:(sdC cs h).kind=2→(sdC cs h).dp=0) (hf:∀e∈T.efin K,e.1=K):BesOk cs T.ents K (T.oth K):=by
 obtain ⟨h1,h2,h3,h4⟩:=Zlb w T.ents K T h 0 hT hd (by omega) (by rw [List.filter_eq_self.2];intro e _;simp [shr])
 refine ⟨by omega,fun d hd=>?_,h4,?_⟩
 ·obtain ⟨V,v1,v2,v3⟩:=h1 d hd
  rw [Nat.zero_add] at v2 v3
  exact ⟨V,v1,v2,v3⟩
 ·rw [Nat.zero_add] at h2
  rw [Zkq T.ents (shr K (T.oth K).length) _ (fun e he=>by simp only [Bool.and_eq_true] at he;exact he.1),← h2,List.filter_eq_nil_iff]
  intro e he
  simp [hf e he]
def besX (oth:List Nat) (c f:Nat):List Nat:=oth++(List.replicate (c-oth.length) 0++[f])
theorem Zdg (oth:List Nat) (c f:Nat) (h:oth.length≤c):(besX oth c f).length=c+1:=by simp [besX];omega
theorem Zsw (oth:List Nat) (c f d:Nat) (h:d<oth.length):(besX oth c f).getD d 0=oth.getD d 0:=by
 simp only [besX,List.getD_eq_getElem?_getD]
 rw [List.getElem?_append_left h]
theorem Zsv (oth:List Nat) (c f d:Nat) (h:oth.length≤d) (hc:d<c):(besX oth c f).getD d 0=0:=by
 simp only [besX,List.getD_eq_getElem?_getD]
 rw [List.getElem?_append_right h,List.getElem?_append_left (by simp;omega),List.getElem?_replicate,if_pos (by omega)]
 rfl
theorem Zmk (oth:List Nat) (c f:Nat) (h:oth.length≤c):(besX oth c f).getD c 0=f:=by
 simp only [besX,List.getD_eq_getElem?_getD]
 rw [List.getElem?_append_right h,List.getElem?_append_right (by simp),List.length_replicate,Nat.sub_self]
 rfl
theorem Yaq {cs:List (Nat×Ce)} {pend:List Nat} (w:Wf cs pend) (K:List Int) {T:Tre} {h:Nat} (hT:IsT cs h T) (hd:(sdC cs h).kind=2→(sdC cs h).dp=0) {k b:List Int} (hf:T.efin K=[(k,b)]) (c:Nat) (hc:IsCommon K k c) (hc2:c<256):(T.oth K).length≤c∧BesOk cs T.ents K (besX (T.oth K) c (T.fin K h)):=by
 obtain ⟨h1,h2,h3,h4⟩:=Zlb w T.ents K T h 0 hT hd (by omega) (by rw [List.filter_eq_self.2];intro e _;simp [shr])
 rw [Nat.zero_add] at h2 h3
 rw [hf] at h2
 have hkb:∀j,j<(T.oth K).length→kb k j=kb K j:=by
  have hm:((k,b):Ent)∈T.ents.filter (shr K (T.oth K).length):=by rw [← h2];simp
  exact Zgr.1 (List.mem_filter.1 hm).2
 have hle:(T.oth K).length≤c:=by
  apply Nat.le_of_not_lt
  intro hlt
  exact hc.2.2 hc2 (hkb c hlt).symm
 have hsk:∀d,d≤c→shr K d ((k,b):Ent)=true:=fun d hd=>Zgr.2 fun j hj=>(hc.2.1 j (by omega)).symm
 have hdeep:∀(d:Nat) (q:Ent→Bool),(T.oth K).length≤d→T.ents.filter (fun e=>shr K d e && q e)=[((k,b):Ent)].filter (fun e=>shr K d e && q e):=fun d q hq=>by
  rw [h2]
  exact Zkq T.ents _ _ (fun e he=>by simp only [Bool.and_eq_true] at he;exact Yfp hq he.1)
 have hne: ¬kb k c=kb K c:=fun e=>hc.2.2 hc2 e.symm
 obtain ⟨f1,f2⟩ | ⟨k',b',f1,f2,f3,f4,f5,f6⟩:=Zen K T h hT
 ·rw [hf] at f2
  cases f2
 rw [hf] at f1
 injection f1 with f1 _
 injection f1 with e1 e2
 subst e1 e2
 have fT:IsT cs (T.fin K h) (.lf k b):=⟨f2,f3,f4,f5,f6⟩
 refine ⟨hle,by rw [Zdg _ _ _ hle];omega,fun d hd2=>?_,fun _=>?_,?_⟩
 ·rw [Zdg _ _ _ hle] at hd2
  by_cases a1:d<(T.oth K).length
  ·obtain ⟨V,v1,v2,v3⟩:=h1 d a1
   rw [Nat.zero_add] at v2 v3
   rw [Zsw _ _ _ _ a1]
   exact ⟨V,v1,v2,v3⟩
  ·by_cases a2:d<c
   ·rw [Zsv _ _ _ _ (by omega) a2]
    refine ⟨.emp,rfl,?_,fun q=>absurd q (by show ¬zc.kind=2;decide)⟩
    unfold bsE
    rw [hdeep d _ (by omega)]
    have:kb k d=kb K d:=(hc.2.1 d a2).symm
    simp [Tre.ents,this]
   ·obtain rfl:d=c:=by omega
    rw [Zmk _ _ _ hle]
    refine ⟨.lf k b,fT,?_,fun q=>?_⟩
    ·unfold bsE
     rw [hdeep d _ hle]
     simp [Tre.ents,hsk d (Nat.le_refl _),hne]
    ·rw [sdC,if_neg (by omega)] at q
     omega
 ·rw [Zdg _ _ _ hle,Nat.add_sub_cancel,Zmk _ _ _ hle]
  omega
 ·rw [Zdg _ _ _ hle,hdeep (c+1) _ (by omega)]
  simp [Zlo,hne]
end Go.Proofs.YtgfdgjkbcdmboaaGreatDoor
