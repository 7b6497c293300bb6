/- While the document's Put makes its way up: each call of its store, at one predicate for how far it is. -/
import Derived.Test.YtgfdgjkbcdmboaaGreatDoorDs32
import Derived.WalkMore
namespace Go.Proofs.YtgfdgjkbcdmboaaGreatDoor
variable {E:List Ent}
variable {K:Lq}
variable {S fr fr' pend:List Nat}
variable {T:Tre}
variable {cs cs' cs0 cs1 csP csR:Lz}
variable {f g gs m n r room top:Nat}
variable {u v v':Value}
variable {w w'':World}
set_option maxHeartbeats 4000000
set_option maxRecDepth 20000
open Go.RowKit
def RW9 (w5:World) (S:List Nat) (q room:Nat) (cs:Lz) (E:List Ent) (K bs:Lq) (ss:List Nat) (cs2:Lz) (fr2:List Nat) (topF m top:Nat) (w':World):Prop:=∃csP csR fr',RfI cs E K bs ss room m csP csR fr' top cs2 fr2 topF∧Hr w5 S w' q room csR fr'
def RM9 (w5:World) (S:List Nat) (q room:Nat) (cs:Lz) (E:List Ent) (K bs:Lq) (ss:List Nat) (cs2:Lz) (fr2:List Nat) (topF m top:Nat) (w':World):Prop:=∃csP csR fr',RfI cs E K bs ss room (m+1) csP csR fr' top cs2 fr2 topF∧Hr w5 S w' q room (csH csR (ss.getD m 0)) fr'
section
variable {w5 w':World} {S:List Nat} {q room:Nat} {cs:Lz} {E:List Ent} {K bs:Lq} {ss:List Nat} {cs2:Lz} {fr2:List Nat} {topF m top:Nat}
theorem RW9.kq {P:World→Prop} (h:RW9 w5 S q room cs E K bs ss cs2 fr2 topF m top w') (k:Kq S w5 P):P w':=by
 obtain ⟨_,_,_,_,H⟩:=h;exact H.kq k
theorem RM9.kq {P:World→Prop} (h:RM9 w5 S q room cs E K bs ss cs2 fr2 topF m top w') (k:Kq S w5 P):P w':=by
 obtain ⟨_,_,_,_,H⟩:=h;exact H.kq k
theorem RW9.grow (h:RW9 w5 S q room cs E K bs ss cs2 fr2 topF m top w') (hb:Below w'.heap.size w' w''):RW9 w5 S q room cs E K bs ss cs2 fr2 topF m top w'':=by
 obtain ⟨a,b,c,I,H⟩:=h;exact ⟨a,b,c,I,H.grow hb⟩
theorem Ybd (h:RW9 w5 S q room cs E K bs ss cs2 fr2 topF (m+1) top w') (h0:ss.getD m 0=0):RM9 w5 S q room cs E K bs ss cs2 fr2 topF m top w':=by
 obtain ⟨a,b,c,I,H⟩:=h;refine ⟨a,b,c,I,?_⟩;rw [h0,csH,if_pos rfl];exact H
theorem Ybh (hbo:BesOk cs E K ss) (hct:∀i,cc cs i+257<1073741824) (hroom:noc cs+258≤room) (hm:m<ss.length) (h0:ss.getD m 0≠0) (h:RW9 w5 S q room cs E K bs ss cs2 fr2 topF (m+1) top w'):Kc 114 #[.pointer (some ⟨q,0,none⟩),.int .i64 (ss.getD m 0:Int)] w' fun e w''=>e=.returned (.int .i64 0)∧RM9 w5 S q room cs E K bs ss cs2 fr2 topF m top w'':=by
 obtain ⟨csP,csR,fr',I,H⟩:=h;have st:=(Zww hbo hm hroom I).1;obtain ⟨s,hs⟩:∃s,s=ss.getD m 0:=⟨_,rfl⟩;have hmem:s∈ss:=by
  rw [hs,List.getD_eq_getElem?_getD,List.getElem?_eq_getElem hm];exact List.getElem_mem hm
 rw [← hs] at h0 st ⊢;have hocc:=(Zdg hbo s hmem).resolve_left h0;have hcnt:=I.ri.cnt (s-1) hocc;have hlt:cc csR (s-1)<1073741824:=by
  have h1:=I.lag.lcc (s-1);have h2:=List.count_le_length (l:=ss) (a:=s-1+1);have h3:=hbo.len;have h4:=hct (s-1);omega
 have hh:=Zmf H (s-1) (st.occ h0) hlt;rw [show (((s-1:Nat):Int)+1)=(s:Int) by omega] at hh;refine hh.mono ?_;rintro e w'' ⟨rfl,k⟩;refine ⟨rfl,csP,csR,fr',I,?_⟩;rw [← hs,csH,if_neg h0];exact k
theorem Ybe (hbo:BesOk cs E K ss) (hroom:noc cs+258≤room) (h5:room≤5000) (hK:Key K) (hm:m<ss.length) (h:RM9 w5 S q room cs E K bs ss cs2 fr2 topF m top w'):Kc 115 #[.pointer (some ⟨q,0,none⟩),.agg (B K),.int .i64 (m:Int),.int .i64 (top:Int),.int .i64 (ss.getD m 0:Int)] w' fun e w''=>∃t:Nat,e=.returned (.int .i64 (t:Int))∧RW9 w5 S q room cs E K bs ss cs2 fr2 topF m t w'':=by
 obtain ⟨csP,csR,fr',I,H⟩:=h;obtain ⟨st,csP',csR',hI,I'⟩:=Zww hbo hm hroom I;obtain ⟨u,hu,hf⟩:=st.fit;refine (Yee H h5 K hK m top (ss.getD m 0) (by have:=hbo.len;omega) st.ml st.mr u hu hf st.full hI).mono ?_;rintro e w'' ⟨rfl,k⟩;exact ⟨_,rfl,csP',csR',_,I',k⟩
theorem Zpf (W:Wf cs []) (I:RfI cs E K bs ss room m csP csR fr' top cs2 fr2 topF) {x:Nat} (hx:x=0∨0<cc cs (x-1)):(cat csR (x:Int)).kind=(sdC cs x).kind∧(cat csR (x:Int)).key=(sdC cs x).key∧(cat csR (x:Int)).l=(sdC cs x).l∧(cat csR (x:Int)).r=(sdC cs x).r:=by
 have:=W;rw [Zy];rcases hx with e | e
 ·subst e;exact ⟨rfl,rfl,rfl,rfl⟩
 ·by_cases h0:x=0
  ·subst h0;exact ⟨rfl,rfl,rfl,rfl⟩
  ·have hc:=(I.ri.keep (x-1) e).2;have hl:=I.lag.lce (x-1);unfold sdC;rw [if_neg h0,if_neg h0,hl,hc];exact ⟨rfl,rfl,rfl,rfl⟩
theorem Zwm {root:Nat} (W:Wf cs []) (hT:IsT cs root T) (hrd:(sdC cs root).kind=2→(sdC cs root).dp=0) (hK:Key K) (hss:BesIs K T root ss) (hm:m<(T.hs K root).length) (h:RW9 w5 S q room cs E K bs ss cs2 fr2 topF (m+1) top w'):Kc 49 #[.pointer (some ⟨q,0,none⟩),.agg (B K),.int .i64 (m:Int),.int .i64 ((T.hs K root).getD m 0:Int)] w' fun e w''=>e=.returned (.int .i64 (ss.getD m 0:Int))∧RW9 w5 S q room cs E K bs ss cs2 fr2 topF (m+1) top w'':=by
 have hh:=h;obtain ⟨csP,csR,fr',I,H⟩:=h;obtain ⟨x,a1,a2,a3,a4,a5,a6,a7,a8⟩:=Zqe W K T root 0 hT hrd m hm;rw [Nat.zero_add] at a5 a6 a7;have hx:(T.hs K root).getD m 0=x:=by rw [List.getD_eq_getElem?_getD,a1];rfl
 have hmo:m<(T.oth K).length:=by rw [← Tre.hs_oth K T root];exact hm
 have ho:ss.getD m 0=(if kb K m=1 then (ce cs (x-1)).l else (ce cs (x-1)).r):=by
  have e0:(T.oth K).getD m 0=(if kb K m=1 then (ce cs (x-1)).l else (ce cs (x-1)).r):=by rw [List.getD_eq_getElem?_getD,a7];rfl
  rcases hss with ⟨_,rfl⟩ | ⟨b,_,rfl⟩ | ⟨k,b,c,_,_,_,_,_,rfl⟩
  ·exact e0
  ·exact e0
  ·rw [Zsr _ _ _ _ hmo];exact e0
 rw [hx];have:=Zlu H K hK m a6 (x:Int);obtain ⟨_,_,c3,c4⟩:=Zpf W I (x:=x) (.inr a3);rw [c3,c4,show sdC cs x=ce cs (x-1) from if_neg (by omega),← ho] at this;exact this.mono fun e w'' ⟨e1,b⟩=>⟨e1,hh.grow b⟩
theorem Ybg (W:Wf cs []) {x:Nat} (hx:x=0∨0<cc cs (x-1)) (h:RW9 w5 S q room cs E K bs ss cs2 fr2 topF m top w'):Kc 48 #[.pointer (some ⟨q,0,none⟩),.int .i64 (x:Int)] w' fun e w''=>e=.returned (.int .u8 (sdC cs x).kind)∧RW9 w5 S q room cs E K bs ss cs2 fr2 topF m top w'':=by
 have hh:=h;obtain ⟨csP,csR,fr',I,H⟩:=h;have:=Zdx H (x:Int);rw [(Zpf W I hx).1] at this;exact this.mono fun e w'' ⟨e1,b⟩=>⟨e1,hh.grow b⟩
theorem Yfm (W:Wf cs []) (h5:room≤5000) {x:Nat} (hx:x=0∨0<cc cs (x-1)) (h:RW9 w5 S q room cs E K bs ss cs2 fr2 topF m top w'):Kc 95 #[.pointer (some ⟨q,0,none⟩),.int .i64 (x:Int)] w' fun e w''=>e=.returned (.agg (B (sdC cs x).key))∧RW9 w5 S q room cs E K bs ss cs2 fr2 topF m top w'':=by
 have hh:=h;obtain ⟨csP,csR,fr',I,H⟩:=h;have:=Zsa H h5 (x:Int);rw [(Zpf W I hx).2.1] at this;exact this.mono fun e w'' ⟨e1,b⟩=>⟨e1,hh.grow b⟩
theorem Ybf (V:Hr w5 S w' q room cs fr) (h5:room≤5000) (hbo:BesOk cs E K ss) (hroom:noc cs+258≤room) (hct:∀i,cc cs i+257<1073741824) (hK:Key K) (hu:Reads w' u bs) (hl:bs.length≤1024) (ok:CeOk (lfC (lfD K (vaD bs)) K v' bs)) (hz:Rz K ss (tkC (holdM cs ss) fr (1,lfC (lfD K (vaD bs)) K v' bs)) fr.dropLast (tkH (holdM cs ss) fr) cs2 fr2 topF):Kc 127 #[.pointer (some ⟨q,0,none⟩),.agg (B K),u] w' fun e w''=>∃t:Nat,e=.returned (.tuple #[.int .i64 (t:Int),.int .i64 0])∧RW9 w5 S q room cs E K bs ss cs2 fr2 topF ss.length t w'':=by
 have W:=V.wf;have hm:=Zqh W ss.length ss rfl (Zdg hbo);have lag0:=Lag.start hm (Zdg hbo);have hbs:Bytes bs:=by obtain ⟨_,_,_,_,_,hb,_⟩:=hu;exact hb
 have I:=V.inv;have IH:Inv room ((holdM cs ss).map pl) fr:=by
  refine ⟨I.r1,I.r2,by rw [List.length_map,hm.len];exact I.lenC,I.nod,fun s hs=>?_,?_,fun i=>?_⟩
  ·obtain ⟨a,b,c⟩:=I.free s hs;rw [List.length_map] at b;rw [Zan] at c;refine ⟨a,by rw [List.length_map,hm.len];exact b,?_⟩;rw [Zan,hm.cc,c];have:ss.count (s-1+1)=0:=by
    apply List.count_eq_zero.2;intro hx;rcases Zdg hbo _ hx with e | e
    ·omega
    ·rw [Nat.add_sub_cancel,c] at e;omega
   omega
  ·have h1:=I.sum;have h2:=hm.noc;rw [List.length_map] at h1 ⊢;unfold noc at h2;rw [hm.len];omega
  ·rw [Zan,hm.cc];have h2:=List.count_le_length (l:=ss) (a:=i+1);have h3:=hbo.len;have h4:=hct i;omega
 have hF:=Zcw IH;have full: ¬Full room cs fr:=fun f=>by
  have h1:=I.sum;rw [f.1,List.length_map] at h1;have:=f.2;unfold noc at hroom;simp at h1;omega
 refine (Ygw V h5 K u v' bs hu hK hl full ok).mono ?_;rintro e w'' ⟨rfl,k⟩;refine ⟨_,rfl,_,_,_,⟨?_,?_,?_,Zya IH (fun f=>full ((lag0.full room).2 f)) (lfC (lfD K (vaD bs)) K v' bs)⟩,k⟩
 ·rw [List.take_length,lag0.tk];exact hz
 ·rw [lag0.tk];exact Zrc W hbo hm hF v' hbs hl ok
 ·rw [List.take_length];exact lag0.fill hF (by show (0:Nat)<1;omega)
theorem Zwn (h:RW9 w5 S q room cs E K bs ss cs2 fr2 topF 0 top w'):top=topF∧Hr w5 S w' q room cs2 fr2∧RzI cs E K bs ss 0 cs2 topF:=by
 obtain ⟨csP,csR,fr',I,H⟩:=h;have hz:=I.rz;have hl:=I.lag;rw [List.take_zero] at hz hl;obtain ⟨rfl,rfl,rfl⟩:=Yeb hz;obtain rfl:=hl.end;exact ⟨rfl,H,I.ri⟩
end
end Go.Proofs.YtgfdgjkbcdmboaaGreatDoor
namespace Go.Proofs.YtgfdgjkbcdmboaaGreatDoor
variable {E:List Ent}
variable {K:Lq}
variable {S fr fr' pend:List Nat}
variable {T:Tre}
variable {cs cs' cs0 cs1 csP csR:Lz}
variable {f g gs m n r room top:Nat}
variable {u v v':Value}
variable {w w'':World}
set_option maxHeartbeats 4000000
set_option maxRecDepth 20000
open Go.RowKit
def dE (E:List Ent) (K:Lq) (d:Nat):List Ent:=E.filter fun e=>shr K d e && !(e.1 == K)
theorem Zqn (E:List Ent) (K:Lq) (d:Nat):(dE E K (d+1)++bsE E K d).Perm (dE E K d):=by
 have h:=Zvc E K [] d;unfold wE at h;rw [List.cons_append] at h;exact List.Perm.cons_inv h
theorem Yho (E:List Ent) (K:Lq):dE E K 0=E.filter fun e=>!(e.1 == K):=by simp [dE,shr]
theorem Yer (E:List Ent) (K:Lq) (d:Nat):(dE E K (d+1)).length+(bsE E K d).length=(dE E K d).length:=by
 rw [← List.length_append];exact (Zqn E K d).length_eq
theorem Zzc (E:List Ent) (K:Lq):∀n d,(dE E K (d+n)).length≤(dE E K d).length
 | 0,d=>Nat.le_refl _
 | n+1,d=>by
  have h1:=Zzc E K n d;have h2:=Yer E K (d+n);rw [show d+(n+1)=d+n+1 by omega];omega
def shk (kd:Nat→Int) (os:List Nat):Nat→Nat→Nat×Nat
 | 0,f=>(0,f)
 | m+1,f=>if os.getD m 0=0 then shk kd os m f else if f=0∧kd (os.getD m 0)=1 then shk kd os m (os.getD m 0) else (m+1,f)
theorem Zkn (kd:Nat→Int) (os:List Nat):∀(m f:Nat),(shk kd os m f).1≤m
 | 0,f=>Nat.le_refl _
 | m+1,f=>by
  rw [shk];split
  ·have:=Zkn kd os m f;omega
  ·split
   ·have:=Zkn kd os m (os.getD m 0);omega
   ·exact Nat.le_refl _
structure DesOk (cs:Lz) (E:List Ent) (K:Lq) (f:Nat) (ss:List Nat):Prop where
 len:ss.length≤256
 side:∀d,d<ss.length→∃V,IsT cs (ss.getD d 0) V∧V.ents=bsE E K d∧((sdC cs (ss.getD d 0)).kind=2→(sdC cs (ss.getD d 0)).dp=d+1)
 low:∃U,IsT cs f U∧U.ents.Perm (dE E K ss.length)
 kind:(sdC cs f).kind≠2
 two:0<ss.length→2≤(dE E K (ss.length-1)).length
theorem IsT.pos (w:Wf cs pend) {h:Nat} {T:Tre} (hT:IsT cs h T) (h0:h≠0):1≤T.ents.length:=by
 have:=(Zbe w T h hT).pos h0;exact List.length_pos_iff.2 this
theorem IsT.none (hT:IsT cs 0 T):T=.emp:=IsT.one hT (show IsT cs 0 .emp from rfl)
theorem Zmw (os:List Nat) (m d:Nat) (h:d<m):(os.take m).getD d 0=os.getD d 0:=by
 rw [List.getD_eq_getElem?_getD,List.getD_eq_getElem?_getD,List.getElem?_take_of_lt h]
theorem Zvx {cs:Lz} {pend:List Nat} (w:Wf cs pend) {E:List Ent} {K:Lq} {os:List Nat} (h256:os.length≤256) (side:∀d,d<os.length→∃V,IsT cs (os.getD d 0) V∧V.ents=bsE E K d∧((sdC cs (os.getD d 0)).kind=2→(sdC cs (os.getD d 0)).dp=d+1)):
  ∀(m f:Nat) (U:Tre),m≤os.length→IsT cs f U→U.ents.Perm (dE E K m)→(sdC cs f).kind≠2→DesOk cs E K (shk (fun h=>(sdC cs h).kind) os m f).2 (os.take (shk (fun h=>(sdC cs h).kind) os m f).1)
 | 0,f,U,_,hU,hp,hk=>by
  refine ⟨by simp [shk],fun d hd=>by simp [shk] at hd,⟨U,hU,by simpa [shk] using hp⟩,hk,fun h=>by simp [shk] at h⟩
 | m+1,f,U,hm,hU,hp,hk=>by
  obtain ⟨V,v1,v2,v3⟩:=side m (by omega);have hst:=Zqn E K m;rw [shk]
  by_cases h0:os.getD m 0=0
  ·rw [if_pos h0];rw [h0] at v1;have ve:=v1.none;subst ve;rw [← v2] at hst;refine Zvx w h256 side m f U (by omega) hU ?_ hk;refine hp.trans ?_;have:Tre.emp.ents=[]:=rfl;rw [this,List.append_nil] at hst;exact hst
  ·rw [if_neg h0]
   by_cases h1:f=0∧(sdC cs (os.getD m 0)).kind=1
   ·rw [if_pos h1];obtain ⟨rfl,h1⟩:=h1;have ue:=hU.none;subst ue;have hn:dE E K (m+1)=[]:=(List.perm_nil.1 (hp.symm.trans (by exact List.Perm.refl [])));rw [hn,List.nil_append,← v2] at hst;exact Zvx w h256 side m _ V (by omega) v1 hst (by rw [h1];decide)
   ·rw [if_neg h1];have hl:(os.take (m+1)).length=m+1:=by rw [List.length_take];omega
    refine ⟨by rw [hl];omega,fun d hd=>?_,⟨U,hU,by rw [hl];exact hp⟩,hk,fun _=>?_⟩
    ·rw [hl] at hd;rw [Zmw _ _ _ hd];exact side d (by omega)
    ·rw [hl,Nat.add_sub_cancel];have q1:=Yer E K m;rw [← v2,← hp.length_eq] at q1;have q2:=v1.pos w h0
     by_cases f0:f=0
     ·have hcc:0<cc cs (os.getD m 0-1):=by
       rcases v1.occ with e | e
       ·exact absurd e h0
       ·exact e.2
      have es:sdC cs (os.getD m 0)=ce cs (os.getD m 0-1):=if_neg h0;have hkd:=w.kinds (os.getD m 0-1) hcc;rw [← es] at hkd;have k2:(sdC cs (os.getD m 0)).kind=2:=hkd.resolve_left (fun e=>h1 ⟨f0,e⟩);have:2≤V.ents.length:=by
       match V,v1 with
       | .emp,e=>exact absurd e h0
       | .lf _ _,hT=>rw [es] at k2;have:=hT.2.2.1;omega
       | .nd _ _ _ L R,hT=>exact (Zlz w hT).two
      omega
     ·have:=hU.pos w f0;omega
theorem Yeq (w:Wf cs pend) (K:Lq) {T:Tre} {h:Nat} (hT:IsT cs h T) (hd:(sdC cs h).kind=2→(sdC cs h).dp=0) {b:Lq} (hf:T.efin K=[(K,b)]):
  DesOk cs T.ents K (shk (fun h=>(sdC cs h).kind) (T.oth K) (T.oth K).length 0).2 ((T.oth K).take (shk (fun h=>(sdC cs h).kind) (T.oth K) (T.oth K).length 0).1):=by
 have bo:=Zjw w K hT hd (fun e he=>by rw [hf] at he;rw [List.mem_singleton.1 he]);refine Zvx w bo.len bo.side _ 0 .emp (Nat.le_refl _) rfl ?_ (by show ¬zc.kind=2;decide);rw [show dE T.ents K (T.oth K).length=[] from bo.none];exact List.Perm.refl _
structure DzI (cs0:Lz) (E:List Ent) (K:Lq) (f:Nat) (ss:List Nat) (m:Nat) (cs:Lz) (top:Nat):Prop where
 wf:Wf cs []
 keep:∀i,0<cc cs0 i→0<cc cs i∧Core (ce cs0 i) (ce cs i)
 tree:∃U,IsT cs top U∧U.ents.Perm (dE E K m)
 dp:(sdC cs top).kind=2→(sdC cs top).dp=m
 own:∀i,own cs [] i=own cs0 [] i+(ss.take m).count (i+1)+(if top=i+1 then 1 else 0)
 noc:noc cs+m=noc cs0+ss.length
 cnt:∀i,0<cc cs0 i→cc cs i=cc cs0 i+(f::ss).count (i+1)
 len:cs.length+m≤cs0.length+ss.length
theorem Zoi {ss:List Nat} (W0:Wf cs0 []) (b:DesOk cs0 E K f ss) (hm:HmOk cs0 (f::ss) cs1):DzI cs0 E K f ss ss.length cs1 f:=by
 have kp:∀i,0<cc cs0 i→0<cc cs1 i∧Core (ce cs0 i) (ce cs1 i):=fun i hi=>by
  rw [hm.cc,hm.ce];exact ⟨by omega,Core.refl _⟩
 have es:sdC cs1 f=sdC cs0 f:=by
  unfold sdC;split
  ·rfl
  ·rw [hm.ce]
 obtain ⟨U,u1,u2⟩:=b.low;refine ⟨hm.wf,kp,⟨U,u1.keep kp,u2⟩,fun k=>absurd (by rw [← es];exact k) b.kind,fun i=>?_,by rw [hm.noc],fun i _=>hm.cc i,by rw [hm.len];omega⟩;rw [hm.own W0 i,List.take_of_length_le (Nat.le_refl _),List.count_cons];simp only [beq_iff_eq];omega
theorem Zys {ss:List Nat} (b:DesOk cs0 E K f ss) (hm:m<ss.length) (I:DzI cs0 E K f ss (m+1) cs top):
  mayP cs (tl K m top (ss.getD m 0):Int)∧mayP cs (tr K m top (ss.getD m 0):Int)∧∃u,(u=true↔Und (sdC cs (tl K m top (ss.getD m 0))).key (sdC cs (tr K m top (ss.getD m 0))).key (m:Int))∧fitP m (sdC cs (tl K m top (ss.getD m 0))) (sdC cs (tr K m top (ss.getD m 0))) u=true∧
   ∀fr cs',FrOk cs fr→InnR cs fr m (tl K m top (ss.getD m 0)) (tr K m top (ss.getD m 0)) cs'→Wf cs' []→DzI cs0 E K f ss m cs' (tkH cs fr):=by
 obtain ⟨s,hs⟩:∃s,s=ss.getD m 0:=⟨_,rfl⟩;rw [← hs];obtain ⟨V,v1,v2,v3⟩:=b.side m hm;rw [← hs] at v1 v3;obtain ⟨U,u1,u2⟩:=I.tree;have tV:IsT cs s V:=v1.keep I.keep;have kV:(sdC cs s).kind=2→(sdC cs s).dp=m+1:=fun k=>by
  rcases v1.occ with e | ⟨e1,e2⟩
  ·rw [e] at k;exact absurd k (by show ¬zc.kind=2;decide)
  ·have hco:=(I.keep _ e2).2;have e3:sdC cs0 s=ce cs0 (s-1):=if_neg (by omega);rw [sdC,if_neg (by omega),hco] at k ⊢;rw [e3] at v3;exact v3 k
 have hbU:∀e∈U.ents,(∀j,j<m+1→kb e.1 j=kb K j):=fun e he=>by
  have:=(List.mem_filter.1 (u2.mem_iff.1 he)).2;simp only [Bool.and_eq_true] at this;exact Zeu.1 this.1
 have hbV:∀e∈V.ents,(∀j,j<m→kb e.1 j=kb K j)∧kb e.1 m=1-kb K m:=fun e he=>by
  rw [v2] at he;have:=(List.mem_filter.1 he).2;simp only [Bool.and_eq_true,Bool.not_eq_true',beq_eq_false_iff_ne,ne_eq] at this;refine ⟨Zeu.1 this.1,?_⟩;have h2:=this.2;rcases Zdq K m with q | q <;> rcases Zdq e.1 m with q2 | q2 <;> omega
 have hperm:(U.ents++V.ents).Perm (dE E K m):=by
  rw [v2];exact (u2.append_right _).trans (Zqn E K m)
 have htwo:2≤(dE E K m).length:=by
  have h1:=b.two (by omega);have h3:=Zzc E K (ss.length-1-m) m;rw [show m+(ss.length-1-m)=ss.length-1 by omega] at h3;omega
 have hlen:U.ents.length+V.ents.length=(dE E K m).length:=by rw [← List.length_append];exact hperm.length_eq
 have otop:top=0∨0<own cs [] (top-1):=by
  by_cases h0:top=0
  ·exact .inl h0
  ·refine .inr ?_;rw [I.own,if_pos (by omega)];omega
 have os:s=0∨0<own cs [] (s-1):=by
  by_cases h0:s=0
  ·exact .inl h0
  ·refine .inr ?_;rw [I.own];have:0<(ss.take (m+1)).count (s-1+1):=by
    rw [List.count_pos_iff,show s-1+1=s by omega,List.mem_take_iff_getElem];refine ⟨m,by omega,?_⟩;rw [hs,List.getD_eq_getElem?_getD,List.getElem?_eq_getElem hm];rfl
   omega
 have mt:mayP cs (top:Int):=Zfa otop;have ms:mayP cs (s:Int):=Zfa os;have hcount:∀i,(ss.take (m+1)).count (i+1)=(ss.take m).count (i+1)+(if s=i+1 then 1 else 0):=fun i=>by
  rw [List.take_add_one,List.getElem?_eq_getElem hm,List.count_append];have e:ss[m]=s:=by rw [hs,List.getD_eq_getElem?_getD,List.getElem?_eq_getElem hm];rfl
  rw [e];simp [List.count_singleton]
 have step:∀(l r:Nat),mayP cs (l:Int)→mayP cs (r:Int)→(∀i,(if l=i+1 then 1 else 0)+(if r=i+1 then 1 else 0)=(if s=i+1 then 1 else 0)+(if top=i+1 then 1 else 0))→(∃L R,IsT cs l L∧IsT cs r R∧(L.ents++R.ents).Perm (dE E K m))→∀fr cs',FrOk cs fr→InnR cs fr m l r cs'→Wf cs' []→DzI cs0 E K f ss m cs' (tkH cs fr):=fun l r ml mr hi ⟨L,R,tL,tR,tp⟩ fr cs' hF hin wf'=>by
  obtain ⟨o1,o2,o3,o4,o5,o6,o7,o8,o9⟩:=Zjb I.wf wf' hF ml mr hin;refine ⟨wf',fun i hi=>⟨(o2 i (I.keep i hi).1).1,(I.keep i hi).2.trans (o2 i (I.keep i hi).1).2⟩,⟨_,o6 L R tL tR,tp⟩,fun _=>o7,fun i=>?_,?_,fun i hi=>?_,by have:=I.len;omega⟩
  ·have h1:=o1 i;have h2:=I.own i;have h3:=hcount i;have h4:=hi i;omega
  ·have:=I.noc;omega
  ·have h1:=(I.keep i hi).1;have hne: ¬i=tkH cs fr-1:=fun e=>by
    rw [e,o4] at h1;omega
   rw [o8,if_neg hne];exact I.cnt i hi
 rcases Zdq K m with q | q
 ·have el:tl K m top s=top:=by unfold tl;rw [if_neg (by omega)]
  have er:tr K m top s=s:=by unfold tr;rw [if_neg (by omega)]
  rw [el,er];obtain ⟨u,hu,hf⟩:=Zli I.wf u1 tV m (by have:=b.len;omega) I.dp kV (fun e he=>by rw [hbU e he m (by omega),q]) (fun e he=>by rw [(hbV e he).2,q];rfl) (by omega) K (fun e he j hj=>hbU e he j (by omega)) (fun e he j hj=>(hbV e he).1 j hj);exact ⟨mt,ms,u,hu,hf,step top s mt ms (fun i=>by omega) ⟨U,V,u1,tV,hperm⟩⟩
 ·have el:tl K m top s=s:=by unfold tl;rw [if_pos q]
  have er:tr K m top s=top:=by unfold tr;rw [if_pos q]
  rw [el,er];obtain ⟨u,hu,hf⟩:=Zli I.wf tV u1 m (by have:=b.len;omega) kV I.dp (fun e he=>by rw [(hbV e he).2,q];rfl) (fun e he=>by rw [hbU e he m (by omega),q]) (by omega) K (fun e he j hj=>(hbV e he).1 j hj) (fun e he j hj=>hbU e he j (by omega));exact ⟨ms,mt,u,hu,hf,step s top ms mt (fun i=>rfl) ⟨V,U,tV,u1,List.perm_append_comm.trans hperm⟩⟩
structure DropOk (cs0:Lz) (E:List Ent) (K:Lq) (root top:Nat) (ss:List Nat) (cs':Lz):Prop where
 wf:Wf cs' []
 tree:∃U,IsT cs' top U∧U.ents.Perm (E.filter fun e=>!(e.1 == K))
 dp:(sdC cs' top).kind=2→(sdC cs' top).dp=0
 own:∀i,own cs' [] i+(if root=i+1 then 1 else 0)=own cs0 [] i+(if top=i+1 then 1 else 0)
 ne:top≠root
 keep:∀h T,IsT cs0 h T→(h=0∨0<cc cs' (h-1))→IsT cs' h T
 noc:noc cs'≤noc cs0+ss.length
 len:cs'.length≤cs0.length+ss.length
theorem Yhn {b:Lq} {ss:List Nat} (I:DzI cs0 T.ents K f ss 0 cs1 top) (hT:IsT cs0 r T) (hK:(K,b)∈T.ents) (ho:0<own cs0 [] (r-1)) (hr:1≤r) (st:Step cs1 [r] cs' [] n):DropOk cs0 T.ents K r top ss cs':=by
 obtain ⟨U,u1,u2⟩:=I.tree;rw [Yho] at u2;have h0:∀i,own cs1 [] i=own cs0 [] i+(if top=i+1 then 1 else 0):=fun i=>by
  have:=I.own i;rw [List.take_zero,List.count_nil] at this;exact this
 have hown:∀i,own cs' [] i+(if r=i+1 then 1 else 0)=own cs0 [] i+(if top=i+1 then 1 else 0):=fun i=>by
  rw [st.own i,← h0 i];exact Zrl hr (by rw [h0];omega)
 have hrt:top≠r:=fun e=>by
  subst e;have:=IsT.one u1 (hT.keep I.keep);subst this;have:=(List.mem_filter.1 (u2.mem_iff.1 hK)).2;simp at this
 have ct:top=0∨0<cc cs' (top-1):=by
  by_cases t0:top=0
  ·exact .inl t0
  ·refine .inr ?_;have:=hown (top-1);rw [if_pos (show top=top-1+1 by omega),if_neg (by omega)] at this;unfold Go.Proofs.YtgfdgjkbcdmboaaGreatDoor.own at this;omega
 have tt:=u1.stay st.wf st.keep ct;refine ⟨st.wf,⟨U,tt,u2⟩,fun k=>?_,hown,hrt,fun h X hX hh=>(hX.keep I.keep).stay st.wf st.keep hh,by have:=I.noc;have:=st.noc;omega,by have:=I.len;have:=st.len;omega⟩
 by_cases t0:top=0
 ·subst t0;exact absurd k (by show ¬zc.kind=2;decide)
 ·have hc:=(st.keep _ (ct.resolve_left t0)).2;have hd:=I.dp;rw [sdC,if_neg t0] at k hd ⊢;rw [hc] at k ⊢;exact hd k
end Go.Proofs.YtgfdgjkbcdmboaaGreatDoor
namespace Go.Proofs.YtgfdgjkbcdmboaaGreatDoor
variable {E:List Ent}
variable {K:Lq}
variable {S fr fr' pend:List Nat}
variable {T:Tre}
variable {cs cs' cs0 cs1 csP csR:Lz}
variable {f g gs m n r room top:Nat}
variable {u v v':Value}
variable {w w'':World}
set_option maxHeartbeats 4000000
set_option maxRecDepth 20000
open Go.RowKit
theorem Zxm {ct:Int→Nat} {ca:Int→Ce} (V:Vw w v true ct ca) (h:Int) (K:Lq) (hK:Key K) (hk:(ca h).kind=2) (hd:(ca h).dp<256):Kc 105 #[v,.int .i64 h,.agg (B K)] w fun e w'=>e=.returned (.int .i64 ((if kb K (ca h).dp=1 then (ca h).l else (ca h).r:Nat):Int))∧Kb w w':=by
 have HSD:Hid (Kr w 96 #[v,.int .i64 h] (.tuple #[.int .i64 ((ca h).l:Int),.int .i64 ((ca h).r:Int)])):=fun w' hb=>Zgg (V.grow hb) h
 have HDP:Hid (Kr w 86 #[v,.int .i64 h] (.int .i64 ((ca h).dp:Int))):=fun w' hb=>by
  have:=Zgt (V.grow hb) h;rwa [show vDp true (ca h)=((ca h).dp:Int) by simp [vDp,hk]] at this
 have HBT:Hid (∀w',Kc 109 #[.agg (B K),.int .i64 ((ca h).dp:Int)] w' fun e w''=>e=.returned (.int .i64 (kb K (ca h).dp))∧Below w'.heap.size w' w''):=fun w'=>by
  have:=Zmn K ((ca h).dp:Int) w' hK;rwa [Zdp K _ hd] at this
 have HPL:=Za (Zgi K hK.1);clear V hk hd hK;generalize (ca h).l=l at HSD ⊢;generalize (ca h).r=r at HSD ⊢;generalize (ca h).dp=d at HDP HBT ⊢;have hq:=Zdq K d;generalize kb K d=q at HBT hq ⊢;generalize hdd:(d:Int)=dd at HDP HBT;clear hdd;rcases hq with rfl | rfl
 ·rw [if_neg (by omega)];go_enter Tryz.func105,Tryz.ntmps105
  go_wp2_with (first
   |((with_reducible refine Zl 5 ?_);refine Zc _ rfl _ _ rfl _ rfl ?_;intro w1 b5 hg5 hl5 B5 q5;have HB5:=Za B5;have HQ5:=Za q5;clear hg5 hl5 B5 q5)
   |(go_at_call 96;refine (HSD.out _ HQ5.out).mono ?_;rintro e w2 ⟨rfl,b2⟩;have HB52:=Za (HB5.out.grow b2);have HQ2:=Za (Zb HQ5.out b2);clear b2))
  refine wp_region_held_drew (S:=fun w'=>Kb w2 w') (by kernel_rfl) ((below_drewN (Below.refl _ _) 1)) (fun hHeld=>?_);refine tkg 0 (.agg (B K)) rfl (yieldsIf_load_mid rfl 34 (.tmp 5) rfl b5 0 rfl (B K).toList _ (fun w hS=>(HB52.out.grow hS).range) Tryz.underlying34 rfl HPL.out) hHeld ?_;simp only [zq];refine tkp 1 v hHeld ?_;simp only [zq];refine tkp 2 (.int .i64 h) hHeld ?_;simp only [zq];refine wpAnyH_ready (rs:=[3]) (by kernel_rfl) (by simp) ?_;refine AllReadyH.cons rfl (fun KQ hK=>?_) AllReadyH.nil;go_simp;refine (HDP.out _ (Zb HQ2.out hHeld)).mono ?_;rintro e z1 ⟨rfl,a1⟩;refine hK.out _ _ (Zb hHeld a1) (fun hHeld=>?_);clear hK KQ;refine wpAnyH_ready (rs:=[4]) (by kernel_rfl) (by simp) ?_;refine AllReadyH.cons rfl (fun KQ hK=>?_) AllReadyH.nil;go_simp;refine (HBT.out _).mono ?_;rintro e z2 ⟨rfl,a2⟩;refine hK.out _ _ (Zb hHeld a2) (fun hHeld=>?_);clear hK KQ;refine tkp 5 (.bool false) hHeld ?_;simp only [zq];refine wpAnyH_done (by kernel_rfl) ?_ _;go_wp2
  go_ret;exact ⟨rfl,Zb HQ2.out hHeld⟩
 ·rw [if_pos rfl];go_enter Tryz.func105,Tryz.ntmps105
  go_wp2_with (first
   |((with_reducible refine Zl 5 ?_);refine Zc _ rfl _ _ rfl _ rfl ?_;intro w1 b5 hg5 hl5 B5 q5;have HB5:=Za B5;have HQ5:=Za q5;clear hg5 hl5 B5 q5)
   |(go_at_call 96;refine (HSD.out _ HQ5.out).mono ?_;rintro e w2 ⟨rfl,b2⟩;have HB52:=Za (HB5.out.grow b2);have HQ2:=Za (Zb HQ5.out b2);clear b2))
  refine wp_region_held_drew (S:=fun w'=>Kb w2 w') (by kernel_rfl) ((below_drewN (Below.refl _ _) 1)) (fun hHeld=>?_);refine tkg 0 (.agg (B K)) rfl (yieldsIf_load_mid rfl 34 (.tmp 5) rfl b5 0 rfl (B K).toList _ (fun w hS=>(HB52.out.grow hS).range) Tryz.underlying34 rfl HPL.out) hHeld ?_;simp only [zq];refine tkp 1 v hHeld ?_;simp only [zq];refine tkp 2 (.int .i64 h) hHeld ?_;simp only [zq];refine wpAnyH_ready (rs:=[3]) (by kernel_rfl) (by simp) ?_;refine AllReadyH.cons rfl (fun KQ hK=>?_) AllReadyH.nil;go_simp;refine (HDP.out _ (Zb HQ2.out hHeld)).mono ?_;rintro e z1 ⟨rfl,a1⟩;refine hK.out _ _ (Zb hHeld a1) (fun hHeld=>?_);clear hK KQ;refine wpAnyH_ready (rs:=[4]) (by kernel_rfl) (by simp) ?_;refine AllReadyH.cons rfl (fun KQ hK=>?_) AllReadyH.nil;go_simp;refine (HBT.out _).mono ?_;rintro e z2 ⟨rfl,a2⟩;refine hK.out _ _ (Zb hHeld a2) (fun hHeld=>?_);clear hK KQ;refine tkp 5 (.bool true) hHeld ?_;simp only [zq];refine wpAnyH_done (by kernel_rfl) ?_ _;go_wp2
  go_ret;exact ⟨rfl,Zb HQ2.out hHeld⟩
def FnPost (hs:List Nat) (b:Bool) (w:World) (e:Ending) (w':World):Prop:=
 ∃a c,e=.returned (.tuple #[.slice a hs.length c,.bool b])∧w'.ownsRow w.heap.size 3 1 (.slice a hs.length c) hs.length (nats hs)∧Kb w w'
theorem Zjr (V:Vw w v true (cot cs) (cat cs)) (W:Wf cs pend) (h:Nat) (T:Tre) (hT:IsT cs h T) (K:Lq) (hK:Key K) (he:vRt true (cot cs h) (cat cs h) h=0):Kc 43 #[v,.int .i64 (h:Int),.agg (B K)] w (FnPost (T.hs K h) (fnd (T.efin K) K).2 w):=by
 have HPS:Hid ((Tryz.prog.info? 34).map (·.size)=some (B K).size):=by show _=_;rw [Zj,hK.1];exact Zi
 have HPL:=Za (Zgi K hK.1);have HHE:Hid (∀w',Kb w w'→Kc 104 #[v,.int .i64 (h:Int),.agg (B K)] w' fun e w''=>∃a c,e=.returned (.tuple #[.slice a (T.hs K h).length c,.int .i64 (T.fin K h:Int),.int .i64 0])∧w''.ownsRow w'.heap.size 3 1 (.slice a (T.hs K h).length c) (T.hs K h).length (nats (T.hs K h))∧Below w'.heap.size w' w''):=fun w' hb=>Zfw (V.grow hb) W h T hT K hK he
 have HKD:Hid (Kr w 85 #[v,.int .i64 (T.fin K h:Int)] (.int .u8 (sdC cs (T.fin K h)).kind)):=fun w' hb=>by
  have:=Zfl (V.grow hb) (T.fin K h:Int);rwa [Zy] at this
 have HKY:Hid (Kr w 94 #[v,.int .i64 (T.fin K h:Int)] (.agg (B (sdC cs (T.fin K h)).key))):=fun w' hb=>by
  have:=Zmd (V.grow hb) (T.fin K h:Int);rwa [Zy] at this
 have HPost:Hid (∀a c w',w'.ownsRow w.heap.size 3 1 (.slice a (T.hs K h).length c) (T.hs K h).length (nats (T.hs K h))→Kb w w'→FnPost (T.hs K h) (fnd (T.efin K) K).2 w (.returned (.tuple #[.slice a (T.hs K h).length c,.bool (fnd (T.efin K) K).2])) w'):=fun a c w' h1 h2=>⟨a,c,rfl,h1,h2⟩
 generalize FnPost (T.hs K h) (fnd (T.efin K) K).2 w=P at HPost ⊢;generalize nats (T.hs K h)=nss at HHE HPost;generalize (T.hs K h).length=hn at HHE HPost;generalize (h:Int)=hh at HHE ⊢;rcases Zds K T h hT with ⟨f1,f2⟩ | ⟨k,b,f1,f2,f3,f4,f5,f6⟩
 ·rw [f1] at HKD HHE;rw [f2] at HPost;have e1:(sdC cs 0).kind=0:=rfl;have e2:(fnd [] K).2=false:=rfl;rw [e1] at HKD;rw [e2] at HPost;generalize ((0:Nat):Int)=fin at HKD HHE;clear V W hT hK he HKY f1 f2 e1 e2;go_enter Tryz.func43,Tryz.ntmps43
  go_wp2_with (first
   |((with_reducible refine Zl 5 ?_);refine Zc _ rfl _ _ rfl _ rfl ?_;intro w1 b5 hg5 hl5 B5 q5;have HB5:=Za B5;have HQ5:=Za q5;clear hg5 hl5 B5 q5)
   |((with_reducible refine Zk 13 5 ?_);refine Zd _ rfl _ _ rfl b5 _ rfl HB5.out _ _ Tryz.underlying34 HPS.out ?_)
   |(go_at_call 104;refine (HHE.out _ HQ5.out).mono ?_;rintro e w2 ⟨ha,hc,rfl,o2,b2⟩;have HO2:=Za (Zae o2 HQ5.out.size);have HB52:=Za (HB5.out.grow b2);have HQ2:=Za (Zb HQ5.out b2);clear b2 o2))
  refine wp_region_held_drew (S:=fun w'=>Kb w2 w') (by kernel_rfl) ((below_drewN (Below.refl _ _) 1)) (fun hHeld=>?_);refine tkp 0 (.slice ha hn hc) hHeld ?_;simp only [zq];refine tkp 1 v hHeld ?_;simp only [zq];refine tkp 2 (.int .i64 fin) hHeld ?_;simp only [zq];refine wpAnyH_ready (rs:=[3]) (by kernel_rfl) (by simp) ?_;refine AllReadyH.cons rfl (fun KQ hK=>?_) AllReadyH.nil;go_simp;refine (HKD.out _ (Zb HQ2.out hHeld)).mono ?_;rintro e z1 ⟨rfl,a1⟩;refine hK.out _ _ (Zb hHeld a1) (fun hHeld=>?_);clear hK KQ;refine tkp 4 (.bool false) hHeld ?_;simp only [zq];refine tkp 5 (.bool false) hHeld ?_;simp only [zq];refine tks 6 hHeld ?_;simp only [zq];refine tks 7 hHeld ?_;simp only [zq];refine tks 8 hHeld ?_;simp only [zq];refine tks 9 hHeld ?_;simp only [zq];refine tks 10 hHeld ?_;simp only [zq];refine tkp 11 (.bool false) hHeld ?_;simp only [zq];refine tkp 12 (.slice ha hn hc) hHeld ?_;simp only [zq];refine tkp 13 (.bool false) hHeld ?_;simp only [zq];refine wpAnyH_done (by kernel_rfl) ?_ _;have HH:=Za hHeld;clear hHeld
  go_wp2_with fail
  exact HPost.out _ _ _ (Zn HO2.out HH.out) (Zb HQ2.out HH.out)
 ·have es:sdC cs (T.fin K h)=ce cs (T.fin K h-1):=if_neg (by omega);have hk:Key k:=((Zbe W T h hT).ent (k,b) (Zce K T (k,b) (by rw [f1];simp))).1;rw [es,f4] at HKD;rw [es,f5] at HKY;rw [f1] at HPost;have hE:=Zcs k K hk.1 hK.1;generalize (T.fin K h:Int)=fin at HKD HHE HKY
  by_cases hq:k=K
  ·simp only [hq,decide_true] at hE;have e2:(fnd [(k,b)] K).2=true:=by simp [fnd,hq]
   rw [e2] at HPost;rw [hq] at HKY;clear V W hT hK he f1 f2 f3 f4 f5 f6 es hk hq e2;go_enter Tryz.func43,Tryz.ntmps43
   go_wp2_with (first
    |((with_reducible refine Zl 5 ?_);refine Zc _ rfl _ _ rfl _ rfl ?_;intro w1 b5 hg5 hl5 B5 q5;have HB5:=Za B5;have HQ5:=Za q5;clear hg5 hl5 B5 q5)
    |((with_reducible refine Zk 13 5 ?_);refine Zd _ rfl _ _ rfl b5 _ rfl HB5.out _ _ Tryz.underlying34 HPS.out ?_)
    |(go_at_call 104;refine (HHE.out _ HQ5.out).mono ?_;rintro e w2 ⟨ha,hc,rfl,o2,b2⟩;have HO2:=Za (Zae o2 HQ5.out.size);have HB52:=Za (HB5.out.grow b2);have HQ2:=Za (Zb HQ5.out b2);clear b2 o2))
   refine wp_region_held_drew (S:=fun w'=>Kb w2 w') (by kernel_rfl) ((below_drewN (Below.refl _ _) 1)) (fun hHeld=>?_);refine tkp 0 (.slice ha hn hc) hHeld ?_;simp only [zq];refine tkp 1 v hHeld ?_;simp only [zq];refine tkp 2 (.int .i64 fin) hHeld ?_;simp only [zq];refine wpAnyH_ready (rs:=[3]) (by kernel_rfl) (by simp) ?_;refine AllReadyH.cons rfl (fun KQ hK=>?_) AllReadyH.nil;go_simp;refine (HKD.out _ (Zb HQ2.out hHeld)).mono ?_;rintro e z1 ⟨rfl,a1⟩;refine hK.out _ _ (Zb hHeld a1) (fun hHeld=>?_);clear hK KQ;refine tkp 4 (.bool true) hHeld ?_;simp only [zq];refine tkp 5 (.bool true) hHeld ?_;simp only [zq];refine tkp 6 v hHeld ?_;simp only [zq];refine tkp 7 (.int .i64 fin) hHeld ?_;simp only [zq];refine tkg 9 (.agg (B K)) rfl (yieldsIf_load_mid rfl 34 (.tmp 5) rfl b5 0 rfl (B K).toList _ (fun w hS=>(HB52.out.grow hS).range) Tryz.underlying34 rfl HPL.out) hHeld ?_;simp only [zq];refine wpAnyH_ready (rs:=[8]) (by kernel_rfl) (by simp) ?_;refine AllReadyH.cons rfl (fun KQ hK=>?_) AllReadyH.nil;go_simp;refine (HKY.out _ (Zb HQ2.out hHeld)).mono ?_;rintro e z2 ⟨rfl,a2⟩;refine hK.out _ _ (Zb hHeld a2) (fun hHeld=>?_);clear hK KQ;refine tkp 10 (.bool true) hHeld ?_;simp only [zq];refine tkp 11 (.bool true) hHeld ?_;simp only [zq];refine tkp 12 (.slice ha hn hc) hHeld ?_;simp only [zq];refine tkp 13 (.bool true) hHeld ?_;simp only [zq];refine wpAnyH_done (by kernel_rfl) ?_ _;have HH:=Za hHeld;clear hHeld
   go_wp2_with fail
   exact HPost.out _ _ _ (Zn HO2.out HH.out) (Zb HQ2.out HH.out)
  ·simp only [hq,decide_false] at hE;have e2:(fnd [(k,b)] K).2=false:=by simp [fnd,hq]
   rw [e2] at HPost;clear V W hT hK he f1 f2 f3 f4 f5 f6 es hk hq e2;go_enter Tryz.func43,Tryz.ntmps43
   go_wp2_with (first
    |((with_reducible refine Zl 5 ?_);refine Zc _ rfl _ _ rfl _ rfl ?_;intro w1 b5 hg5 hl5 B5 q5;have HB5:=Za B5;have HQ5:=Za q5;clear hg5 hl5 B5 q5)
    |((with_reducible refine Zk 13 5 ?_);refine Zd _ rfl _ _ rfl b5 _ rfl HB5.out _ _ Tryz.underlying34 HPS.out ?_)
    |(go_at_call 104;refine (HHE.out _ HQ5.out).mono ?_;rintro e w2 ⟨ha,hc,rfl,o2,b2⟩;have HO2:=Za (Zae o2 HQ5.out.size);have HB52:=Za (HB5.out.grow b2);have HQ2:=Za (Zb HQ5.out b2);clear b2 o2))
   refine wp_region_held_drew (S:=fun w'=>Kb w2 w') (by kernel_rfl) ((below_drewN (Below.refl _ _) 1)) (fun hHeld=>?_);refine tkp 0 (.slice ha hn hc) hHeld ?_;simp only [zq];refine tkp 1 v hHeld ?_;simp only [zq];refine tkp 2 (.int .i64 fin) hHeld ?_;simp only [zq];refine wpAnyH_ready (rs:=[3]) (by kernel_rfl) (by simp) ?_;refine AllReadyH.cons rfl (fun KQ hK=>?_) AllReadyH.nil;go_simp;refine (HKD.out _ (Zb HQ2.out hHeld)).mono ?_;rintro e z1 ⟨rfl,a1⟩;refine hK.out _ _ (Zb hHeld a1) (fun hHeld=>?_);clear hK KQ;refine tkp 4 (.bool true) hHeld ?_;simp only [zq];refine tkp 5 (.bool true) hHeld ?_;simp only [zq];refine tkp 6 v hHeld ?_;simp only [zq];refine tkp 7 (.int .i64 fin) hHeld ?_;simp only [zq];refine tkg 9 (.agg (B K)) rfl (yieldsIf_load_mid rfl 34 (.tmp 5) rfl b5 0 rfl (B K).toList _ (fun w hS=>(HB52.out.grow hS).range) Tryz.underlying34 rfl HPL.out) hHeld ?_;simp only [zq];refine wpAnyH_ready (rs:=[8]) (by kernel_rfl) (by simp) ?_;refine AllReadyH.cons rfl (fun KQ hK=>?_) AllReadyH.nil;go_simp;refine (HKY.out _ (Zb HQ2.out hHeld)).mono ?_;rintro e z2 ⟨rfl,a2⟩;refine hK.out _ _ (Zb hHeld a2) (fun hHeld=>?_);clear hK KQ;refine tkp 10 (.bool false) hHeld ?_;simp only [zq];refine tkp 11 (.bool false) hHeld ?_;simp only [zq];refine tkp 12 (.slice ha hn hc) hHeld ?_;simp only [zq];refine tkp 13 (.bool false) hHeld ?_;simp only [zq];refine wpAnyH_done (by kernel_rfl) ?_ _;have HH:=Za hHeld;clear hHeld
   go_wp2_with fail
   exact HPost.out _ _ _ (Zn HO2.out HH.out) (Zb HQ2.out HH.out)
theorem Zro (V:Vw w v true (cot cs) (cat cs)) (W:Wf cs pend) (h:Nat) (T:Tre) (hT:IsT cs h T) (K:Lq) (hK:Key K) (hrd:(sdC cs h).kind=2→(sdC cs h).dp=0) {a:Option Addr} (hI:Ints9 w a (T.hs K h)):∀k,k<(T.hs K h).length→∃(x o:Nat),(∃lb,a=some ⟨lb,0,none⟩∧w.cell? ⟨lb,k,none⟩=some (.int .i64 (x:Int)))∧(T.oth K)[k]?=some o∧(Kr w 105 #[v,.int .i64 (x:Int),.agg (B K)] (.int .i64 (o:Int))):=fun k hk=>by
 obtain ⟨x,a1,a2,a3,a4,a5,a6,a7,a8⟩:=Zqe W K T h 0 hT hrd k hk;rw [Nat.zero_add] at a5 a6 a7;obtain ⟨lb,e1,e2⟩:=hI k hk;have hx:(T.hs K h).getD k 0=x:=by rw [List.getD_eq_getElem?_getD,a1];rfl
 rw [hx] at e2;have hca:=Zeq (cs:=cs) a2;refine ⟨x,_,⟨lb,e1,e2⟩,a7,fun w' hb=>?_⟩;have:=Zxm (V.grow hb) (x:Int) K hK (by rw [hca];exact a4) (by rw [hca,a5];exact a6);rw [hca,a5] at this;exact this
def ShPost (a:Option Addr) (c:Nat) (z:Nat×Nat) (w:World) (e:Ending) (w':World):Prop:=e=.returned (.tuple #[.slice a z.1 c,.int .i64 (z.2:Int)])∧Kb w w'
theorem Zti (kd:Nat→Int) (K:Lq) (hK:Key K) (a:Option Addr) (n c:Nat) (os:List Nat) (h256:n≤256) (hcap:n≤c) (hkd:∀w' (o:Nat),Kb w w'→Kc 85 #[v,.int .i64 (o:Int)] w' fun e w''=>e=.returned (.int .u8 (kd o))∧Below w'.heap.size w' w'') (hat:∀k,k<n→∃(x o:Nat),(∃lb,a=some ⟨lb,0,none⟩∧w.cell? ⟨lb,k,none⟩=some (.int .i64 (x:Int)))∧os[k]?=some o∧(Kr w 105 #[v,.int .i64 (x:Int),.agg (B K)] (.int .i64 (o:Int)))):
  Kc 44 #[v,.slice a n c,.agg (B K)] w (ShPost a c (shk kd os n 0) w):=by
 have HAX:=Za hat;have HKX:=Za hkd;have HPL:=Za (Zgi K hK.1);have HM:=Za h256;have HC:=Za hcap;have HPost:Hid (∀(m f:Nat) w',shk kd os n 0=(m,f)→Kb w w'→ShPost a c (shk kd os n 0) w (.returned (.tuple #[.slice a m c,.int .i64 (f:Int)])) w'):=fun m f w' h1 h2=>by rw [h1];exact ⟨rfl,h2⟩
 generalize hz:shk kd os n 0=z at HPost ⊢;generalize ShPost a c z w=P at HPost ⊢;have HZ:=Za hz;clear hat hkd h256 hcap hK hz;go_enter Tryz.func44,Tryz.ntmps44
 go_wp2_with (first
  |((with_reducible refine Zl 5 ?_);refine Zc _ rfl _ _ rfl _ rfl ?_;intro w1 b5 hg5 hl5 B5 q5;have HB5:=Za B5;have HQ5:=Za q5;clear hg5 hl5 B5 q5))
 go_step3
 go_wp2_with (first
  |((with_reducible refine Zl 5 ?_);refine Zc _ rfl _ _ rfl _ rfl ?_;intro w1 b5 hg5 hl5 B5 q5;have HB5:=Za B5;have HQ5:=Za q5;clear hg5 hl5 B5 q5))
 go_step3
 go_wp2_with fail
 go_loopw [6,7] (fun sv fv wr=>∃(m f:Nat),m≤n∧sv=.slice a m c∧fv=.int .i64 (f:Int)∧Hid (shk kd os m f=z)∧Hid (Kb w1 wr)) (fun sv _ _=>sLen sv)
 case atStart=>exact ⟨n,0,Nat.le_refl _,rfl,rfl,HZ.out,Below.refl _ _⟩
 case round=>
  obtain ⟨m,f,hmn,rfl,rfl,hS,hB⟩:=hrel;cases m with
  | zero=>
   have HP:Hid (P (.returned (.tuple #[.slice a 0 c,.int .i64 (f:Int)])) wr):=HPost.out 0 f wr (by rw [← hS.out];rfl) (Zb HQ5.out hB.out);generalize (f:Int)=fy at HP ⊢;clear hS
   go_wp2_with fail
   first | exact HP.out | (rw [Exit.noGoto_ret];exact HP.out)
  | succ m=>
   obtain ⟨x,o,⟨lb,rfl,hcl0⟩,ho,hos⟩:=HAX.out m (by omega);have hcl:=Zz (Zb HQ5.out hB.out) hcl0;have HCL:=Za hcl;have HOS:=Za hos;have HBK:=Za (HB5.out.grow hB.out);have HBW:=Za (Zb HQ5.out hB.out);have hog:os.getD m 0=o:=by rw [List.getD_eq_getElem?_getD,ho];rfl
   have hmc:m+1≤c:=Nat.le_trans hmn HC.out;have HMN:=Za hmn;have hm256:m<256:=by have:=HM.out;omega
   have HKD:Hid (Kr w 85 #[v,.int .i64 (o:Int)] (.int .u8 (kd o))):=fun w' hb=>HKX.out w' o hb
   have hs1:=hS.out;rw [shk,hog] at hs1;generalize (x:Int)=xy at hcl HCL HOS;have k0:(0:Int)≤(m:Int):=by omega
   have k1:(m:Int)<(m:Int)+1:=by omega
   have k1':(m:Int)<((m+1:Nat):Int):=by omega
   have k2:(m:Int)≤(c:Int):=by omega
   have k3:(0:Int)<((m+1:Nat):Int):=by omega
   have hwm:wrap64 (m:Int)=(m:Int):=Go.IntWalk.wrap64_in _ (by omega);clear hmn hmc hcl0 hos ho hog hS HKX HAX HC HM
   by_cases o0:o=0
   ·subst o0;rw [if_pos rfl] at hs1;have HS1:=Za hs1;obtain ⟨oy,hoy⟩:∃y:Int,y=((0:Nat):Int):=⟨_,rfl⟩;rw [← hoy] at HOS HKD;have oz:oy=0:=hoy;subst oz;clear hs1 hoy HKD
    go_wp2_with fail
    refine wp_region_held_drew (S:=fun w'=>Kb wr w') (by kernel_rfl) ((below_drewN (Below.refl _ _) 1)) (fun hHeld=>?_);refine tkp 0 v hHeld ?_;simp only [zq];refine tkp 1 (.slice (some ⟨lb,0,none⟩) (m+1) c) hHeld ?_;simp only [zq];refine tkp 2 (.int .i64 (m:Int)) hHeld ?_;simp only [zq];refine tkp 3 (.pointer (some ⟨lb,m,none⟩)) hHeld ?_;simp only [zq];refine tkg 4 (.int .i64 xy) rfl (Or.inl ⟨by rfl,fun w hS=>by (have q1:=Zz hS HCL.out;go_simp)⟩) hHeld ?_;simp only [zq];refine tkg 5 (.agg (B K)) rfl (yieldsIf_load_mid rfl 34 (.tmp 5) rfl b5 0 rfl (B K).toList _ (fun w hS=>(HBK.out.grow hS).range) Tryz.underlying34 rfl HPL.out) hHeld ?_;simp only [zq];refine wpAnyH_ready (rs:=[6]) (by kernel_rfl) (by simp) ?_;refine AllReadyH.cons rfl (fun KQ hK=>?_) AllReadyH.nil;go_simp;refine (HOS.out _ (Zb HBW.out hHeld)).mono ?_;rintro e z1 ⟨rfl,a1⟩;refine hK.out _ _ (Zb hHeld a1) (fun hHeld=>?_);clear hK KQ;refine tkp 7 (.int .i64 0) hHeld ?_;simp only [zq];refine wpAnyH_done (by kernel_rfl) ?_ _;have HH:=Za (Zb HBW.out hHeld);have HHr:=Za (Zb hB.out hHeld);clear hHeld hcl
    go_wp2_with fail
    exact ⟨⟨m,f,by have:=HMN.out;omega,rfl,rfl,HS1.out,HHr.out⟩,by simp only [sLen];omega⟩
   ·rw [if_neg o0] at hs1;have oz: ¬(o:Int)=0:=by omega
    by_cases f0:f=0
    ·by_cases kq:kd o=1
     ·rw [if_pos ⟨f0,kq⟩] at hs1;have HS1:=Za hs1;rw [kq] at HKD;subst f0;obtain ⟨oy,hoy⟩:∃y:Int,y=(o:Int):=⟨_,rfl⟩;rw [← hoy] at HOS HKD oz;have HOY:=Za hoy;clear hs1 hoy o0 kq
      go_wp2_with fail
      refine wp_region_held_drew (S:=fun w'=>Kb wr w') (by kernel_rfl) ((below_drewN (Below.refl _ _) 1)) (fun hHeld=>?_);refine tkp 0 v hHeld ?_;simp only [zq];refine tkp 1 (.slice (some ⟨lb,0,none⟩) (m+1) c) hHeld ?_;simp only [zq];refine tkp 2 (.int .i64 (m:Int)) hHeld ?_;simp only [zq];refine tkp 3 (.pointer (some ⟨lb,m,none⟩)) hHeld ?_;simp only [zq];refine tkg 4 (.int .i64 xy) rfl (Or.inl ⟨by rfl,fun w hS=>by (have q1:=Zz hS HCL.out;go_simp)⟩) hHeld ?_;simp only [zq];refine tkg 5 (.agg (B K)) rfl (yieldsIf_load_mid rfl 34 (.tmp 5) rfl b5 0 rfl (B K).toList _ (fun w hS=>(HBK.out.grow hS).range) Tryz.underlying34 rfl HPL.out) hHeld ?_;simp only [zq];refine wpAnyH_ready (rs:=[6]) (by kernel_rfl) (by simp) ?_;refine AllReadyH.cons rfl (fun KQ hK=>?_) AllReadyH.nil;go_simp;refine (HOS.out _ (Zb HBW.out hHeld)).mono ?_;rintro e z1 ⟨rfl,a1⟩;refine hK.out _ _ (Zb hHeld a1) (fun hHeld=>?_);clear hK KQ;refine tkp 7 (.int .i64 oy) hHeld ?_;simp only [zq];refine wpAnyH_done (by kernel_rfl) ?_ _;have HH:=Za (Zb HBW.out hHeld);have HHr:=Za (Zb hB.out hHeld);clear hHeld hcl
      go_wp2_with (first
       |(go_at_call 85;refine (HKD.out _ HH.out).mono ?_;rintro e z2 ⟨rfl,a2⟩;replace HHr:=Za (Zb HHr.out a2);clear a2))
      exact ⟨⟨m,o,by have:=HMN.out;omega,rfl,by rw [HOY.out],HS1.out,HHr.out⟩,by simp only [sLen];omega⟩
     ·rw [if_neg (fun q=>kq q.2)] at hs1;have HP:Hid (∀w',Kb w1 w'→P (.returned (.tuple #[.slice (some ⟨lb,0,none⟩) (m+1) c,.int .i64 (f:Int)])) w'):=fun w' hb=>HPost.out (m+1) f w' hs1.symm (Zb HQ5.out hb)
      subst f0;generalize kd o=kk at HKD kq;have kq2:(kk == 1)=false:=by simpa using kq
      generalize (o:Int)=oy at HOS HKD oz;clear hs1 HPost o0
      go_wp2_with fail
      refine wp_region_held_drew (S:=fun w'=>Kb wr w') (by kernel_rfl) ((below_drewN (Below.refl _ _) 1)) (fun hHeld=>?_);refine tkp 0 v hHeld ?_;simp only [zq];refine tkp 1 (.slice (some ⟨lb,0,none⟩) (m+1) c) hHeld ?_;simp only [zq];refine tkp 2 (.int .i64 (m:Int)) hHeld ?_;simp only [zq];refine tkp 3 (.pointer (some ⟨lb,m,none⟩)) hHeld ?_;simp only [zq];refine tkg 4 (.int .i64 xy) rfl (Or.inl ⟨by rfl,fun w hS=>by (have q1:=Zz hS HCL.out;go_simp)⟩) hHeld ?_;simp only [zq];refine tkg 5 (.agg (B K)) rfl (yieldsIf_load_mid rfl 34 (.tmp 5) rfl b5 0 rfl (B K).toList _ (fun w hS=>(HBK.out.grow hS).range) Tryz.underlying34 rfl HPL.out) hHeld ?_;simp only [zq];refine wpAnyH_ready (rs:=[6]) (by kernel_rfl) (by simp) ?_;refine AllReadyH.cons rfl (fun KQ hK=>?_) AllReadyH.nil;go_simp;refine (HOS.out _ (Zb HBW.out hHeld)).mono ?_;rintro e z1 ⟨rfl,a1⟩;refine hK.out _ _ (Zb hHeld a1) (fun hHeld=>?_);clear hK KQ;refine tkp 7 (.int .i64 oy) hHeld ?_;simp only [zq];refine wpAnyH_done (by kernel_rfl) ?_ _;have HH:=Za (Zb HBW.out hHeld);have HHr:=Za (Zb hB.out hHeld);clear hHeld hcl
      go_wp2_with (first
       |(go_at_call 85;refine (HKD.out _ HH.out).mono ?_;rintro e z2 ⟨rfl,a2⟩;replace HHr:=Za (Zb HHr.out a2);clear a2))
      first | exact HP.out _ HHr.out | (rw [Exit.noGoto_ret];exact HP.out _ HHr.out)
    ·rw [if_neg (fun q=>f0 q.1)] at hs1;have HP:Hid (∀w',Kb w1 w'→P (.returned (.tuple #[.slice (some ⟨lb,0,none⟩) (m+1) c,.int .i64 (f:Int)])) w'):=fun w' hb=>HPost.out (m+1) f w' hs1.symm (Zb HQ5.out hb)
     have fz: ¬(f:Int)=0:=by omega
     generalize (f:Int)=fy at HP fz ⊢;generalize (o:Int)=oy at HOS HKD oz;clear hs1 HPost o0 f0 HKD
     go_wp2_with fail
     refine wp_region_held_drew (S:=fun w'=>Kb wr w') (by kernel_rfl) ((below_drewN (Below.refl _ _) 1)) (fun hHeld=>?_);refine tkp 0 v hHeld ?_;simp only [zq];refine tkp 1 (.slice (some ⟨lb,0,none⟩) (m+1) c) hHeld ?_;simp only [zq];refine tkp 2 (.int .i64 (m:Int)) hHeld ?_;simp only [zq];refine tkp 3 (.pointer (some ⟨lb,m,none⟩)) hHeld ?_;simp only [zq];refine tkg 4 (.int .i64 xy) rfl (Or.inl ⟨by rfl,fun w hS=>by (have q1:=Zz hS HCL.out;go_simp)⟩) hHeld ?_;simp only [zq];refine tkg 5 (.agg (B K)) rfl (yieldsIf_load_mid rfl 34 (.tmp 5) rfl b5 0 rfl (B K).toList _ (fun w hS=>(HBK.out.grow hS).range) Tryz.underlying34 rfl HPL.out) hHeld ?_;simp only [zq];refine wpAnyH_ready (rs:=[6]) (by kernel_rfl) (by simp) ?_;refine AllReadyH.cons rfl (fun KQ hK=>?_) AllReadyH.nil;go_simp;refine (HOS.out _ (Zb HBW.out hHeld)).mono ?_;rintro e z1 ⟨rfl,a1⟩;refine hK.out _ _ (Zb hHeld a1) (fun hHeld=>?_);clear hK KQ;refine tkp 7 (.int .i64 oy) hHeld ?_;simp only [zq];refine wpAnyH_done (by kernel_rfl) ?_ _;have HH:=Za (Zb HBW.out hHeld);have HHr:=Za (Zb hB.out hHeld);clear hHeld hcl
     go_wp2_with fail
     first | exact HP.out _ HHr.out | (rw [Exit.noGoto_ret];exact HP.out _ HHr.out)
theorem Zqm (K:Lq) (hK:Key K) (a:Option Addr) (m c:Nat) (os:List Nat) (hlen:os.length=m) (h256:m≤256) (hat:∀k,k<m→∃(x o:Nat),(∃lb,a=some ⟨lb,0,none⟩∧w.cell? ⟨lb,k,none⟩=some (.int .i64 (x:Int)))∧os[k]?=some o∧(Kr w 105 #[v,.int .i64 (x:Int),.agg (B K)] (.int .i64 (o:Int)))):Kc 51 #[v,.slice a m c,.agg (B K)] w (BesPost os w):=by
 have HPost:Hid (∀a c w',w'.ownsRow w.heap.size 3 1 (.slice a m c) m (nats os)→Kb w w'→BesPost os w (.returned (.slice a m c)) w'):=fun a c w' h1 h2=>⟨a,c,by rw [hlen],by rw [hlen];exact h1,h2⟩
 have HPS:Hid ((Tryz.prog.info? 34).map (·.size)=some (B K).size):=by show _=_;rw [Zj,hK.1];exact Zi
 have HAX:=Za hat;have HM256:=Za h256;have HLEN:=Za hlen;generalize HE:BesPost os w=P at HPost ⊢;clear hat hlen h256 hK;go_enter Tryz.func51,Tryz.ntmps51
 go_wp2_with (first
  |((with_reducible refine Zl 5 ?_);refine Zc _ rfl _ _ rfl _ rfl ?_;intro w1 b5 hg5 hl5 B5 q5;have HB5:=Za B5;have HQ5:=Za q5;clear hg5 hl5 B5 q5))
 go_loopw [7,12] (fun sv iv wr=>∃(k:Nat) (sa:Option Addr) (sc:Nat),k≤m∧sv=.slice sa k sc∧iv=.int .i64 (k:Int)∧Hid (wr.ownsRow w1.heap.size 3 1 (.slice sa k sc) k (nats (os.take k)))∧Hid (Kb w1 wr)) (fun _ iv _=>m-(intOf iv).toNat)
 case atStart=>exact ⟨0,none,0,by omega,rfl,rfl,World.ownsRow_nil _ _ _ _,Below.refl _ _⟩
 case round=>
  obtain ⟨k,sa,sc,hk,rfl,rfl,hO,hB⟩:=hrel
  by_cases hlt:k<m
  ·obtain ⟨x,o,⟨lb,rfl,hcl0⟩,ho,hos⟩:=HAX.out k hlt;have hcl:=Zz (Zb HQ5.out hB.out) hcl0;have HOS:=Za hos;have HTK:Hid (os.take (k+1)=os.take k++[o]):=by
    show _=_;rw [List.take_add_one,ho];rfl
   generalize os.take k=pre at hO HTK;obtain ⟨oy,hoy⟩:∃y:Int,y=(o:Int):=⟨_,rfl⟩;rw [← hoy] at HOS;have HOY:=Za hoy;have HK256:Hid (k+1≤256):=by have:=HM256.out;show _≤_;omega
   have k0:(0:Int)≤(k:Int):=by omega
   have k1:(k:Int)<(m:Int):=by omega
   have hk256:k<256:=by have:=HM256.out;omega
   have hwk:wrap64 ((k:Int)+1)=((k+1:Nat):Int):=by rw [Go.IntWalk.wrap64_in _ (by omega)];rfl
   generalize (x:Int)=xy at hcl HOS;clear hos hcl0 ho hoy hk HPost
   go_wp2_with (first
    |((with_reducible refine Zk 19 5 ?_);refine Zd _ rfl _ _ rfl b5 _ rfl (HB5.out.grow hB.out) _ _ Tryz.underlying34 HPS.out ?_)
    |(go_at_call 105;refine (HOS.out _ (Zb HQ5.out hB.out)).mono ?_;rintro e w4 ⟨rfl,b4⟩;have HBW4:=Za (Zb hB.out b4);have HOO4:=Za (Zn (Zn hO.out b4) (Zh w4 (.cells #[.int .i64 oy] 3)));clear b4)
    |(at_builtin;refine Zax _ rfl _ _ _ rfl w1.heap.size 3 1 8 Tryz.underlying30 Zak (by omega) _ k (nats pre) rfl HOO4.out w4.heap.size [Value.int .i64 oy] rfl (Blk.new _ _ _) rfl (by intro u hu;simp at hu;subst hu;rfl) (by have:=HK256.out;simp only [maxLen];omega) (by have:=HK256.out;omega) (Nat.le_trans HBW4.out.size (by simp)) ?_;intro a6 c6 w6 o6 g6;have HO6:=Za o6;have HB6:=Za (Zal (Zb HBW4.out (Zh w4 (.cells #[.int .i64 oy] 3))) HOO4.out (Nat.le_refl _) g6);clear o6 g6))
   have ho6:=HO6.out;rw [HOY.out,← Zau,← HTK.out] at ho6;exact ⟨⟨k+1,a6,c6,by omega,rfl,by go_num,ho6,HB6.out⟩,by simp [intOf];exact Zba k1⟩
  ·obtain rfl:k=m:=by omega
   have htk:os.take k=os:=List.take_of_length_le (by rw [HLEN.out];exact Nat.le_refl _);rw [htk] at hO;have nlt: ¬(k:Int)<(k:Int):=by omega
   clear htk hlt hk HAX
   go_wp2_with fail
   exact HPost.out _ _ _ (Zae hO.out HQ5.out.size) (Zb HQ5.out hB.out)
theorem Zkh {ct:Int→Nat} {ca:Int→Ce} (V:Vw w v true ct ca) (hct:∀q,ct q<1073741824) (a1 a2:Option Addr) (n1 n2 c1 c2:Nat) (l1 l2:List Nat) (h1:Ints9 w a1 l1) (h2:Ints9 w a2 l2) (e1:n1=l1.length) (e2:n2=l2.length) (m1:n1≤256) (lf:Int):Kc 52 #[v,.slice a1 n1 c1,.slice a2 n2 c2,.int .i64 lf] w fun e w'=>e=.returned (.bool true)∧Kb w w':=by
 have HCT:Hid (∀w' (q:Int),Kb w w'→∃n:Int,n<1073741824∧Kc 61 #[v,.int .i64 q] w' fun e w''=>e=.returned (.int .i64 n)∧w''=w'):=fun w' q hb=>⟨(ct q:Int),by have:=hct q;omega,V.count w' q hb⟩
 have H1:Hid (∀w' k,Kb w w'→k<n1→∃g,a1=some ⟨g,0,none⟩∧∃x:Int,w'.cell? ⟨g,k,none⟩=some (.int .i64 x)):=fun w' k hb hk=>by
  obtain ⟨g,q1,q2⟩:=h1.grow hb k (by omega);exact ⟨g,q1,_,q2⟩
 have H2:Hid (∀w' k,Kb w w'→k<n2→∃g,a2=some ⟨g,0,none⟩∧∃x:Int,w'.cell? ⟨g,k,none⟩=some (.int .i64 x)):=fun w' k hb hk=>by
  obtain ⟨g,q1,q2⟩:=h2.grow hb k (by omega);exact ⟨g,q1,_,q2⟩
 have HM1:=Za m1;clear V hct h1 h2 e1 e2 m1;go_enter Tryz.func52,Tryz.ntmps52
 go_wp2_with fail
 go_loopw [9,14] (fun sv iv wr=>∃(k:Nat) (b:Bool),k≤n1∧sv=.bool b∧iv=.int .i64 (k:Int)∧Hid (Kb w wr)) (fun _ iv _=>n1-(intOf iv).toNat)
 case atStart=>exact ⟨0,false,by omega,rfl,rfl,Below.refl _ _⟩
 case round=>
  obtain ⟨k,b,hk,rfl,rfl,hB⟩:=hrel
  by_cases hlt:k<n1
  ·obtain ⟨g1,rfl,x1,hc1⟩:=H1.out wr k hB.out hlt;obtain ⟨y1,hy1,HC1⟩:=HCT.out wr x1 hB.out;have HC1:=Za HC1;have k0:(0:Int)≤(k:Int):=by omega
   have k1:(k:Int)<(n1:Int):=by omega
   have hk257:k<257:=by have:=HM1.out;omega
   have hwk:wrap64 ((k:Int)+1)=((k+1:Nat):Int):=by rw [Go.IntWalk.wrap64_in _ (by omega)];rfl
   clear hy1 hk
   by_cases hl1:k<n2
   ·obtain ⟨g2,rfl,x2,hc2⟩:=H2.out wr k hB.out hl1;obtain ⟨y2,hy2,HC2⟩:=HCT.out wr x2 hB.out;have HC2:=Za HC2;have l1:(k:Int)<(n2:Int):=by omega
    have y3: ¬y2=1073741824:=by omega
    clear hy2;cases b with
    | true=>
     go_wp2_with (first
      |(go_at_call 61;refine HC2.out.mono ?_;rintro e w' ⟨rfl,hx⟩;rw [hx];clear hx w'))
     exact ⟨⟨k+1,true,by omega,rfl,by go_num,hB.out⟩,by simp [intOf];exact Zba k1⟩
    | false=>
     by_cases y4:1<y1
     ·go_wp2_with (first
       |(go_at_call 61;have mk:=mk1;clear mk;refine HC2.out.mono ?_;rintro e w' ⟨rfl,hx⟩;rw [hx];clear hx w')
       |(go_at_call 61;refine HC1.out.mono ?_;rintro e w' ⟨rfl,hx⟩;rw [hx];clear hx w';have mk1:Hid True:=trivial))
      exact ⟨⟨k+1,true,by omega,rfl,by go_num,hB.out⟩,by simp [intOf];exact Zba k1⟩
     ·go_wp2_with (first
       |(go_at_call 61;refine HC1.out.mono ?_;rintro e w' ⟨rfl,hx⟩;rw [hx];clear hx w'))
      exact ⟨⟨k+1,false,by omega,rfl,by go_num,hB.out⟩,by simp [intOf];exact Zba k1⟩
   ·have l1: ¬(k:Int)<(n2:Int):=by omega
    cases b with
    | true=>
     go_wp2_with fail
     exact ⟨⟨k+1,true,by omega,rfl,by go_num,hB.out⟩,by simp [intOf];exact Zba k1⟩
    | false=>
     by_cases y4:1<y1
     ·go_wp2_with (first
       |(go_at_call 61;refine HC1.out.mono ?_;rintro e w' ⟨rfl,hx⟩;rw [hx];clear hx w'))
      exact ⟨⟨k+1,true,by omega,rfl,by go_num,hB.out⟩,by simp [intOf];exact Zba k1⟩
     ·go_wp2_with (first
       |(go_at_call 61;refine HC1.out.mono ?_;rintro e w' ⟨rfl,hx⟩;rw [hx];clear hx w'))
      exact ⟨⟨k+1,false,by omega,rfl,by go_num,hB.out⟩,by simp [intOf];exact Zba k1⟩
  ·obtain rfl:k=n1:=by omega
   have nlt: ¬(k:Int)<(k:Int):=by omega
   obtain ⟨y2,hy2,HC2⟩:=HCT.out wr lf hB.out;have HC2:=Za HC2;clear HCT H1 H2;cases b with
   | true=>
    go_wp2_with (first
     |(go_at_call 61;refine HC2.out.mono ?_;rintro e w' ⟨rfl,hx⟩;rw [hx];clear hx w'))
    go_ret;exact ⟨rfl,hB.out⟩
   | false=>
    go_wp2_with fail
    go_ret;exact ⟨rfl,hB.out⟩
theorem Zhz (h:Hs w S w g gs room cs fr) (a:Option Addr) (n c:Nat) (ss:List Nat) (hI:Kq S w (fun w'=>Ints9 w' a ss)) (hn:n=ss.length) (h257:n≤257) (hv:∀x∈ss,x=0∨0<cc cs (x-1)) (hc:0<n→∀i,cc cs i+n<1073741824):Kc 53 #[.pointer (some ⟨g,0,none⟩),.slice a n c] w fun e w'=>e=.returned (.slice none 0 0)∧Hs w S w' g gs room (holdM cs ss) fr:=by
 have HST:Hid (∀wr k,k<n→Hs w S wr g gs room (holdM cs (ss.take k)) fr→∃lb x,a=some ⟨lb,0,none⟩∧wr.cell? ⟨lb,k,none⟩=some (.int .i64 x)∧∃q:Int,¬q=4∧Kc 108 #[.pointer (some ⟨g,0,none⟩),.int .i64 x] wr fun e w'=>e=.returned (.int .i64 q)∧Hs w S w' g gs room (holdM cs (ss.take (k+1))) fr):=fun wr k hk hh=>by
  obtain ⟨lb,e1,e2⟩:=hh.kq hI k (by omega);refine ⟨lb,_,e1,e2,?_⟩;rw [Zkv cs ss k (by omega)];have hm:=Zqh h.2 k (ss.take k) (by rw [List.length_take];omega) (fun x hx=>hv x (List.mem_of_mem_take hx));have hmem:ss.getD k 0∈ss:=by rw [List.getD_eq_getElem?_getD,List.getElem?_eq_getElem (by omega)];exact List.getElem_mem _
  by_cases h0:ss.getD k 0=0
  ·rw [if_pos h0,h0];exact ⟨7,by omega,Zfv hh 0 rfl⟩
  ·rw [if_neg h0];have hcp:=(hv _ hmem).resolve_left h0;have hx:=Zqc hh (ss.getD k 0-1) (by rw [hm.cc];omega) (by
    rw [hm.cc];have h1:=hc (by omega) (ss.getD k 0-1);have h2:=List.count_le_length (a:=ss.getD k 0-1+1) (l:=ss.take k);rw [List.length_take] at h2;omega)
   rw [show (((ss.getD k 0-1:Nat):Int)+1)=((ss.getD k 0:Nat):Int) by omega] at hx;exact ⟨0,by omega,hx⟩
 have HTK:Hid (ss.take n=ss):=List.take_of_length_le (by omega);have HH0:Hid (Hs w S w g gs room (holdM cs (ss.take 0)) fr):=h;have HM:=Za h257;clear h hI hn h257 hv hc;go_enter Tryz.func53,Tryz.ntmps53
 go_wp2_with fail
 go_loopw [4,9] (fun lv iv wr=>∃(k:Nat),k≤n∧lv=.slice none 0 0∧iv=.int .i64 (k:Int)∧Hid (Hs w S wr g gs room (holdM cs (ss.take k)) fr)) (fun _ iv _=>n-(intOf iv).toNat)
 case atStart=>exact ⟨0,by omega,rfl,rfl,HH0.out⟩
 case round=>
  clear HH0;obtain ⟨k,hk,rfl,rfl,HH⟩:=hrel
  by_cases hlt:k<n
  ·obtain ⟨lb,x,rfl,hcl,q,hq,hcall⟩:=HST.out wr k hlt HH.out;have HC:=Za hcall;have k0:(0:Int)≤(k:Int):=by omega
   have k1:(k:Int)<(n:Int):=by omega
   have hk257:k<257:=by have:=HM.out;omega
   have hwk:wrap64 ((k:Int)+1)=((k+1:Nat):Int):=by rw [Go.IntWalk.wrap64_in _ (by omega)];rfl
   clear hcall hk
   go_wp2_with (first
    |(go_at_call 108;refine HC.out.mono ?_;rintro e w2 ⟨rfl,hs2⟩;have HS2:=Za hs2;clear hs2))
   exact ⟨⟨k+1,by omega,rfl,by go_num,HS2.out⟩,by simp [intOf];exact Zba k1⟩
  ·obtain rfl:k=n:=by omega
   have nlt: ¬(k:Int)<(k:Int):=by omega
   rw [HTK.out] at HH
   go_wp2_with fail
   go_ret;exact ⟨rfl,HH.out⟩
end Go.Proofs.YtgfdgjkbcdmboaaGreatDoor
namespace Go.Proofs.YtgfdgjkbcdmboaaGreatDoor
variable {E:List Ent}
variable {K:Lq}
variable {S fr fr' pend:List Nat}
variable {T:Tre}
variable {cs cs' cs0 cs1 csP csR:Lz}
variable {f g gs m n r room top:Nat}
variable {u v v':Value}
variable {w w'':World}
set_option maxHeartbeats 4000000
set_option maxRecDepth 20000
open Go.RowKit
def DraPost (w:World) (S:List Nat) (g gs room:Nat) (cs0 cs1:Lz) (fr:List Nat) (E:List Ent) (K:Lq) (f:Nat) (ss:List Nat) (e:Ending) (w':World):Prop:=
 ∃(top:Nat) (cs2:Lz) (fr2:List Nat),e=.returned (.int .i64 (top:Int))∧Rz K ss cs1 fr f cs2 fr2 top∧DzI cs0 E K f ss 0 cs2 top∧Hs w S w' g gs room cs2 fr2
theorem Zum (h:Hs w S w g gs room cs1 fr) (hS:∀k∈S,k<w.heap.size) (W0:Wf cs0 []) {E:List Ent} {K:Lq} {f:Nat} {ss:List Nat} (hK:Key K) (b:DesOk cs0 E K f ss) (hm:HmOk cs0 (f::ss) cs1) (hroom:noc cs0+258≤room) (a:Option Addr) (n c:Nat) (hn:n=ss.length) (hI:Kq S w (fun w'=>Ints9 w' a ss)) (hL:Kq S w Laid):
  Kc 54 #[.pointer (some ⟨g,0,none⟩),.agg (B K),.int .i64 (f:Int),.slice a n c] w (DraPost w S g gs room cs0 cs1 fr E K f ss):=by
 have h256:n≤256:=by rw [hn];exact b.len
 have HPS:Hid ((Tryz.prog.info? 34).map (·.size)=some (B K).size):=by show _=_;rw [Zj,hK.1];exact Zi
 have HI0:Hid (DzI cs0 E K f ss n cs1 f):=by
  show DzI cs0 E K f ss n cs1 f;rw [hn];exact Zoi W0 b hm
 have HTK:Hid (ss.take n=ss):=List.take_of_length_le (by omega);have HH0:Hid (∀w1,Kb w w1→Hs w1 S w1 g gs room cs1 fr):=fun w1 hb=>h.rebase hb
 have HRD:Hid (∀w1,Kb w w1→∀wr (m:Nat) cs fr' (top:Nat),m<n→Hs w1 S wr g gs room cs fr'→DzI cs0 E K f ss (m+1) cs top→∃(lb s:Nat),a=some ⟨lb,0,none⟩∧wr.cell? ⟨lb,m,none⟩=some (.int .i64 (s:Int))∧(ss.take (m+1)=ss.take m++[s])∧(∀z,Kc 109 #[.agg (B K),.int .i64 (m:Int)] z fun e z'=>e=.returned (.int .i64 (kb K m))∧Kb z z')∧
   ∀z,Kb wr z→Kc 110 #[.pointer (some ⟨g,0,none⟩),.int .i64 (m:Int),.int .i64 (tl K m top s:Int),.int .i64 (tr K m top s:Int)] z fun e z'=>∃cs',e=.returned (.tuple #[.int .i64 (tkH cs fr':Int),.int .i64 0])∧InnR cs fr' m (tl K m top s) (tr K m top s) cs'∧DzI cs0 E K f ss m cs' (tkH cs fr')∧Hs w1 S z' g gs room cs' fr'.dropLast):=fun w1 hb wr m cs fr' top hmn hh hi=>by
  obtain ⟨lb,e1,e2⟩:=hh.kq (hI.grow hb) m (by omega);have hml:m<ss.length:=by omega
  have hm256:m<256:=by omega
  refine ⟨lb,ss.getD m 0,e1,e2,?_,fun z=>?_,fun z hz=>?_⟩
  ·rw [List.take_add_one,List.getElem?_eq_getElem hml,List.getD_eq_getElem?_getD,List.getElem?_eq_getElem hml];rfl
  ·have:=Zmn K (m:Int) z hK;rwa [Zdp K _ hm256] at this
  ·obtain ⟨ml,mr,u,hu,hf,hst⟩:=Zys b hml hi;have hz2:=hh.grow hz;refine (Zry hz2 m _ _ hm256 ml mr u hu hf (hz2.kq (hL.grow hb)) (hz2.free (by have:=hi.noc;omega))).mono ?_;rintro e z' ⟨cs',hin,rfl,hs'⟩;exact ⟨cs',rfl,hin,hst fr' cs' hz2.frok hin hs'.2,hs'⟩
 have HPost:Hid (∀w1,Kb w w1→∀wr (top:Nat) cs2 fr2,Rz K ss cs1 fr f cs2 fr2 top→DzI cs0 E K f ss 0 cs2 top→Hs w1 S wr g gs room cs2 fr2→DraPost w S g gs room cs0 cs1 fr E K f ss (.returned (.int .i64 (top:Int))) wr):=fun w1 hb wr top cs2 fr2 h2 h3 h4=>⟨top,cs2,fr2,rfl,h2,h3,Hs.back hb h4⟩
 generalize DraPost w S g gs room cs0 cs1 fr E K f ss=P at HPost ⊢;have HS:=Za hS;have HM:=Za h256;have hwn:wrap64 ((n:Int)-1)=(n:Int)-1:=Go.IntWalk.wrap64_in _ (by omega);have HNS:=Za hn;clear h hS W0 b hm hroom hn hI hL h256 hK;go_enter Tryz.func54,Tryz.ntmps54
 go_wp2_with (first
  |((with_reducible refine Zl 5 ?_);refine Zc _ rfl _ _ rfl _ rfl ?_;intro w1 b5 hg5 hl5 B5 q5;have HB5:=Za B5;have HQ5:=Za q5;have HG5:=Za hg5;clear hg5 hl5 B5 q5))
 have HBQ:Hid (Kq S w1 (fun w'=>Blk w' b5 34 (B K))):=Kq.blk HB5.out (fun e=>by have:=HS.out _ e;have:=HG5.out;omega);have HPo:Hid (∀wr (top:Nat) cs2 fr2,Rz K ss cs1 fr f cs2 fr2 top→DzI cs0 E K f ss 0 cs2 top→Hs w1 S wr g gs room cs2 fr2→P (.returned (.int .i64 (top:Int))) wr):=HPost.out w1 HQ5.out;have HRw:=Za (HRD.out w1 HQ5.out);have HH2:=Za (HH0.out w1 HQ5.out);clear HPost HRD HB5 HQ5 HG5 HS HH0
 go_loopw [9,10] (fun tv dv wr=>∃(m:Nat) (top:Nat) (cs:Lz) (fr':List Nat),m≤n∧tv=.int .i64 (top:Int)∧dv=.int .i64 ((m:Int)-1)∧Hid (Hs w1 S wr g gs room cs fr')∧Hid (DzI cs0 E K f ss m cs top)∧Hid (∀cs2 fr2 t2,Rz K (ss.take m) cs fr' top cs2 fr2 t2→Rz K ss cs1 fr f cs2 fr2 t2)) (fun _ dv _=>(intOf dv+1).toNat)
 case atStart=>exact ⟨n,f,cs1,fr,Nat.le_refl _,rfl,by first | rfl | (rw [hwn]) | go_num,HH2.out,HI0.out,fun _ _ _ q=>by rw [HTK.out] at q;exact q⟩
 case round=>
  clear HH2 HI0 hwn;obtain ⟨m,top,cs,fr',hmn,rfl,rfl,HH,HI,HZ⟩:=hrel;cases m with
  | zero=>
   have e0:((0:Nat):Int)-1= -1:=rfl;rw [e0];have HF:Hid (P (.returned (.int .i64 (top:Int))) wr):=HPo.out wr top cs fr' (HZ.out _ _ _ (by rw [List.take_zero];exact Rz.done _ _ _)) HI.out HH.out
   go_wp2_with fail
   exact HF.out
  | succ m=>
   have e0:((m+1:Nat):Int)-1=(m:Int):=by omega
   rw [e0];obtain ⟨lb,s,rfl,hcl,hts,hbt,hin⟩:=HRw.out wr m cs fr' top (by omega) HH.out HI.out;have HCL:=Za hcl;have HIN:=Za hin;have HBT:=Za hbt;have HBK:=Za (HH.out.kq HBQ.out);have HZ2:Hid (∀cs1' cs2 fr2 t2,InnR cs fr' m (tl K m top s) (tr K m top s) cs1'→Rz K (ss.take m) cs1' fr'.dropLast (tkH cs fr') cs2 fr2 t2→Rz K ss cs1 fr f cs2 fr2 t2):=fun cs1' cs2 fr2 t2 a1 a2=>by
    have hlm:(ss.take m).length=m:=by rw [List.length_take];have:=HNS.out;omega
    refine HZ.out cs2 fr2 t2 ?_;rw [hts];refine Rz.step (cs1:=cs1') ?_ a2;rw [hlm];exact a1
   obtain ⟨th,hth⟩:∃th:Int,th=(tkH cs fr':Int):=⟨_,rfl⟩;rw [← hth] at HIN;have HTH:=Za hth;have k0:(0:Int)≤(m:Int):=by omega
   have k1:(m:Int)<(n:Int):=by omega
   have hm256:m<256:=by have:=HM.out;omega
   have hwm:wrap64 ((m:Int)-1)=(m:Int)-1:=Go.IntWalk.wrap64_in _ (by omega);have hkb:=Zdq K m;rcases hkb with q | q
   ·have el:(tl K m top s:Int)=(top:Int):=by unfold tl;rw [if_neg (by omega)]
    have er:(tr K m top s:Int)=(s:Int):=by unfold tr;rw [if_neg (by omega)]
    rw [el,er] at HIN;rw [q] at HBT;generalize (s:Int)=sy at hcl HCL HIN;generalize (top:Int)=ty at HIN ⊢;clear hin hbt hth HZ HH HI HPo HRw hts hmn e0 el er q
    go_wp2_with fail
    refine wp_region_held_drew (S:=fun w'=>Kb wr w') (by kernel_rfl) ((below_drewN (Below.refl _ _) 1)) (fun hHeld=>?_);refine tkp 0 (.int .i64 ty) hHeld ?_;simp only [zq];refine tkp 1 (.slice (some ⟨lb,0,none⟩) n c) hHeld ?_;simp only [zq];refine tkp 2 (.int .i64 (m:Int)) hHeld ?_;simp only [zq];refine tkp 3 (.pointer (some ⟨lb,m,none⟩)) hHeld ?_;simp only [zq];refine tkg 4 (.int .i64 sy) rfl (Or.inl ⟨by rfl,fun w hS=>by (have q1:=Zz hS HCL.out;go_simp)⟩) hHeld ?_;simp only [zq];refine tkp 5 (.int .i64 ty) hHeld ?_;simp only [zq];refine tkp 6 (.int .i64 sy) hHeld ?_;simp only [zq];refine wpAnyH_done (by kernel_rfl) ?_ _;have HHd:=Za hHeld;have HBK2:=Za (HBK.out.grow hHeld);clear hHeld hcl
    go_wp2_with (first
     |((with_reducible refine Zk 26 5 ?_);refine Zd _ rfl _ _ rfl b5 _ rfl HBK2.out _ _ Tryz.underlying34 HPS.out ?_)
     |(go_at_call 109;refine (HBT.out _).mono ?_;rintro e z1 ⟨rfl,a1⟩;replace HHd:=Za (Zb HHd.out a1);clear a1)
     |(go_at_call 110;refine (HIN.out _ HHd.out).mono ?_;rintro e z2 ⟨cs',rfl,hin2,hi2,hs2⟩;have HIN2:=Za hin2;have HI2:=Za hi2;have HS2:=Za hs2;clear hin2 hi2 hs2))
    exact ⟨⟨m,tkH cs fr',cs',fr'.dropLast,by omega,by rw [HTH.out],rfl,HS2.out,HI2.out,fun cs2 fr2 t2 q=>HZ2.out cs' cs2 fr2 t2 HIN2.out q⟩,by simp only [intOf];omega⟩
   ·have el:(tl K m top s:Int)=(s:Int):=by unfold tl;rw [if_pos q]
    have er:(tr K m top s:Int)=(top:Int):=by unfold tr;rw [if_pos q]
    rw [el,er] at HIN;rw [q] at HBT;generalize (s:Int)=sy at hcl HCL HIN;generalize (top:Int)=ty at HIN ⊢;clear hin hbt hth HZ HH HI HPo HRw hts hmn e0 el er q
    go_wp2_with fail
    refine wp_region_held_drew (S:=fun w'=>Kb wr w') (by kernel_rfl) ((below_drewN (Below.refl _ _) 1)) (fun hHeld=>?_);refine tkp 0 (.int .i64 ty) hHeld ?_;simp only [zq];refine tkp 1 (.slice (some ⟨lb,0,none⟩) n c) hHeld ?_;simp only [zq];refine tkp 2 (.int .i64 (m:Int)) hHeld ?_;simp only [zq];refine tkp 3 (.pointer (some ⟨lb,m,none⟩)) hHeld ?_;simp only [zq];refine tkg 4 (.int .i64 sy) rfl (Or.inl ⟨by rfl,fun w hS=>by (have q1:=Zz hS HCL.out;go_simp)⟩) hHeld ?_;simp only [zq];refine tkp 5 (.int .i64 ty) hHeld ?_;simp only [zq];refine tkp 6 (.int .i64 sy) hHeld ?_;simp only [zq];refine wpAnyH_done (by kernel_rfl) ?_ _;have HHd:=Za hHeld;have HBK2:=Za (HBK.out.grow hHeld);clear hHeld hcl
    go_wp2_with (first
     |((with_reducible refine Zk 26 5 ?_);refine Zd _ rfl _ _ rfl b5 _ rfl HBK2.out _ _ Tryz.underlying34 HPS.out ?_)
     |(go_at_call 109;refine (HBT.out _).mono ?_;rintro e z1 ⟨rfl,a1⟩;replace HHd:=Za (Zb HHd.out a1);clear a1)
     |(go_at_call 110;refine (HIN.out _ HHd.out).mono ?_;rintro e z2 ⟨cs',rfl,hin2,hi2,hs2⟩;have HIN2:=Za hin2;have HI2:=Za hi2;have HS2:=Za hs2;clear hin2 hi2 hs2))
    exact ⟨⟨m,tkH cs fr',cs',fr'.dropLast,by omega,by rw [HTH.out],rfl,HS2.out,HI2.out,fun cs2 fr2 t2 q=>HZ2.out cs' cs2 fr2 t2 HIN2.out q⟩,by simp only [intOf];omega⟩
end Go.Proofs.YtgfdgjkbcdmboaaGreatDoor
