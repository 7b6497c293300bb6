/- A root at hand, and what Drop and Cost make of it: what the laws ask. -/
import Derived.Test.YtgfdgjkbcdmboaaGreatDoorDs34
namespace Go.Proofs.YtgfdgjkbcdmboaaGreatDoor
variable {E:List Ent}
variable {K:Lq}
variable {P:Ending→World→Prop}
variable {S fr fr' fr2 pend:List Nat}
variable {T:Tre}
variable {cs cs' cs0 cs2 csP csR:Lz}
variable {d f g gs h l m node o q r room top:Nat}
variable {w w'' w0:World}
set_option maxHeartbeats 4000000
set_option maxRecDepth 20000
open Go.RowKit
def hasK (E:List Ent) (K:Lq):Bool:=E.any fun e=>e.1 == K
def dlE (E:List Ent) (K:Lq):List Ent:=E.filter fun e=>!(e.1 == K)
theorem Zmg (w:Wf cs pend) {T:Tre} {h:Nat} (hT:IsT cs h T) (K:Lq):(fnd (T.efin K) K).2=hasK T.ents K:=by
 rw [Bool.eq_iff_iff];constructor
 ·intro q;obtain ⟨b,hb⟩:=Zjn q;exact List.any_eq_true.2 ⟨(K,b),Zce K T _ hb,by simp⟩
 ·intro q;obtain ⟨e,h1,h2⟩:=List.any_eq_true.1 q;have hk:e.1=K:=by simpa using h2
  rw [Zgq w K T h hT e h1 hk];simp [fnd,hk]
def dcostN (cs:Lz) (T:Tre) (K:Lq):Nat:=if hasK T.ents K then shN cs K T else 0
structure DaIs (cs:Lz) (fr:List Nat) (T:Tre) (h:Nat) (K:Lq) (top:Nat) (cs':Lz) (fr':List Nat) (T':Tre):Prop where
 rt:Rt cs' top T'
 ents:T'.ents.Perm (dlE T.ents K)
 own:∀i,own cs' [] i+(if h=i+1 then 1 else 0)=own cs [] i+(if top=i+1 then 1 else 0)
 keep:∀x X,IsT cs x X→(x=0∨0<cc cs' (x-1))→IsT cs' x X
 noc:noc cs'≤noc cs+dcostN cs T K
 same:hasK T.ents K=false→top=h∧cs'=cs∧fr'=fr
 len:cs'.length≤cs.length+dcostN cs T K
 «to»:hasK T.ents K=true→DropTo cs fr h K (shF cs K T) (shS cs K T) top cs' fr'
def DaPost (w0:World) (S:List Nat) (g gs room:Nat) (cs:Lz) (fr:List Nat) (T:Tre) (h:Nat) (K:Lq) (e:Ending) (w':World):Prop:=
 ∃(top:Nat) (cs':Lz) (fr':List Nat) (T':Tre),e=.returned (.tuple #[.int .i64 (top:Int),.bool (hasK T.ents K),.int .i64 0])∧DaIs cs fr T h K top cs' fr' T'∧Hs w0 S w' g gs room cs' fr'
theorem Rt.ahand (r:Rt cs h T):vAh true (cot cs h) (cat cs h) h=0:=by
 have:=r.refuse (n:=0) (by omega);unfold vRf at this;rw [if_pos rfl,if_neg (by omega)] at this;exact this
theorem Zzb (H:Hs w0 S w g gs room cs fr) {h:Nat} {T:Tre} (r:Rt cs h T) {K:Lq} (hK:Key K):
  Kc 12 #[.pointer (some ⟨g,0,none⟩),.int .i64 (h:Int),.agg (B K)] w fun e w'=>e=.returned (.tuple #[.int .i64 (dcostN cs T K:Int),.int .i64 0])∧Kb w w':=by
 have hy:=Zmg H.2 r.tree K;unfold dcostN
 by_cases q:hasK T.ents K=true
 ·rw [if_pos q];rw [q] at hy;exact Zyz H h T r.tree K hK r.ahand r.root hy
 ·have q2:hasK T.ents K=false:=by simpa using q
  rw [if_neg q];rw [q2] at hy;exact Zun H h T r.tree K hK r.ahand r.root hy
structure DfI (cs0:Lz) (E:List Ent) (K:Lq) (f:Nat) (ss:List Nat) (room m:Nat) (csP csR:Lz) (fr:List Nat) (top:Nat) (cs2:Lz) (fr2:List Nat) (topF:Nat):Prop where
 rz:Rz K (ss.take m) csP fr top cs2 fr2 topF
 di:DzI cs0 E K f ss m csP top
 lag:Lag csP csR (ss.take m)
 inv:Inv room (csP.map pl) fr
 inn:m<ss.length→(sdC csR top).kind=2
theorem Yck (hF:FrOk cs fr) (hI:InnR cs fr d l r cs'):(sdC cs' (tkH cs fr)).kind=2:=by
 obtain ⟨KF,_,rfl⟩:=hI;obtain ⟨t1,tk⟩:=Zgc hF (1,inC (inD (sdD cs l) (sdD cs r)) KF ((sdC cs l).sz+(sdC cs r).sz) d l r);have uu:=(Zcp (tkC cs fr (1,inC (inD (sdD cs l) (sdD cs r)) KF ((sdC cs l).sz+(sdC cs r).sz) d l r)) l).trans (Zcp _ r);rw [sdC,if_neg (by omega),uu.core (tkH cs fr-1),tk.ce,if_pos rfl];rfl
theorem Zyy {ss:List Nat} {topF:Nat} (b:DesOk cs0 E K f ss) (hm:m<ss.length) (hroom:noc cs0+258≤room) (I:DfI cs0 E K f ss room (m+1) csP csR fr top cs2 fr2 topF):
  RfS csR fr K m top (ss.getD m 0) room∧∃csP' csR',InnR (csH csR (ss.getD m 0)) fr m (tl K m top (ss.getD m 0)) (tr K m top (ss.getD m 0)) csR'∧DfI cs0 E K f ss room m csP' csR' fr.dropLast (tkH (csH csR (ss.getD m 0)) fr) cs2 fr2 topF:=by
 obtain ⟨hml,hmr,u,hu,hf,next⟩:=Zys b hm I.di;have hF:=Zcw I.inv;have rz:=I.rz;have lag:=I.lag;rw [Zgd hm] at rz lag;obtain ⟨csP',hI,rz'⟩:=Zwl rz;have hlen:(ss.take m).length=m:=by rw [List.length_take];omega
 rw [hlen] at hI;obtain ⟨s,hs⟩:∃s,s=ss.getD m 0:=⟨_,rfl⟩;rw [← hs] at hml hmr hu hf next lag hI ⊢;have hold:(s≠0→0<cc csR (s-1))∧Lag csP (csH csR s) (ss.take m):=by
  unfold csH
  by_cases e:s=0
  ·rw [if_pos e];rw [e] at lag;exact ⟨fun q=>absurd e q,lag.skip⟩
  ·rw [if_neg e];obtain ⟨a,c⟩:=lag.more (by omega);exact ⟨fun _=>a,c⟩
 obtain ⟨h1,lagH⟩:=hold;have W:=I.di.wf;have full: ¬Full room csP fr:=fun f=>by
  have h1:=I.inv.sum;have h2:=I.di.noc;have h3:=b.len;rw [f.1,List.length_map] at h1;have:=f.2;unfold noc at h2 hroom;simp at h1;omega
 have ownH:∀i,own (csH csR s) [] i=own cs0 [] i+(if s=i+1 then 1 else 0)+(if top=i+1 then 1 else 0):=fun i=>by
  rw [lagH.own];have:=I.di.own i;rw [Zgd hm,← hs,List.count_append,List.count_singleton] at this
  by_cases e:s=i+1
  ·rw [if_pos (by simp [e])] at this;rw [if_pos e];omega
  ·rw [if_neg (by simpa using e)] at this;rw [if_neg e];omega
 have mtop:mayP (csH csR s) (top:Int):=Zfa (by
  by_cases e:top=0
  ·exact .inl e
  ·right;have:=ownH (top-1);rw [if_pos (show top=top-1+1 by omega)] at this;omega)
 have ms:mayP (csH csR s) (s:Int):=Zfa (by
  by_cases e:s=0
  ·exact .inl e
  ·right;have:=ownH (s-1);rw [if_pos (show s=s-1+1 by omega)] at this;omega)
 have mlr:mayP (csH csR s) (tl K m top s:Int)∧mayP (csH csR s) (tr K m top s:Int):=by
  unfold tl tr;split
  ·exact ⟨ms,mtop⟩
  ·exact ⟨mtop,ms⟩
 have hl:∀x:Nat,mayP csP (x:Int)→x-1<csP.length∨x=0:=fun x hx=>by
  rcases hx.side with e | ⟨_,e,_⟩
  ·exact .inr e
  ·exact .inl (Zbu e)
 obtain ⟨csR',hR,lag'⟩:=lagH.inner hF (hl _ hml) (hl _ hmr) hI;have hfH:∃u,(u=true↔Und (sdC (csH csR s) (tl K m top s)).key (sdC (csH csR s) (tr K m top s)).key (m:Int))∧fitP m (sdC (csH csR s) (tl K m top s)) (sdC (csH csR s) (tr K m top s)) u=true:=by
  rw [(lagH.sd _).1,(lagH.sd _).1];exact ⟨u,hu,hf⟩
 refine ⟨⟨h1,mlr.1,mlr.2,hfH,fun f=>full ((lagH.full room).1 f)⟩,csP',csR',hR,?_⟩;have W':Wf csP' []:=Zyd W hF (by have:=b.len;omega) hml hmr hu hf hI;have hk:=Yck (lagH.frok hF) hR;rw [lagH.tk] at hk ⊢;exact ⟨rz',next fr csP' hF hI W',lag',Zjk I.inv full hI,fun _=>hk⟩
def DW10 (w5:World) (S:List Nat) (q room:Nat) (cs:Lz) (E:List Ent) (K:Lq) (f:Nat) (ss:List Nat) (cs2:Lz) (fr2:List Nat) (topF m top:Nat) (w':World):Prop:=∃csP csR fr',DfI cs E K f ss room m csP csR fr' top cs2 fr2 topF∧Hr w5 S w' q room csR fr'
def DM10 (w5:World) (S:List Nat) (q room:Nat) (cs:Lz) (E:List Ent) (K:Lq) (f:Nat) (ss:List Nat) (cs2:Lz) (fr2:List Nat) (topF m top:Nat) (w':World):Prop:=∃csP csR fr',DfI cs E K f ss room (m+1) csP csR fr' top cs2 fr2 topF∧Hr w5 S w' q room (csH csR (ss.getD m 0)) fr'
section
variable {w5 w':World} {S:List Nat} {q room:Nat} {cs:Lz} {E:List Ent} {K:Lq} {f:Nat} {ss:List Nat} {cs2:Lz} {fr2:List Nat} {topF m top:Nat}
theorem DW10.kq {P:World→Prop} (h:DW10 w5 S q room cs E K f ss cs2 fr2 topF m top w') (k:Kq S w5 P):P w':=by
 obtain ⟨_,_,_,_,H⟩:=h;exact H.kq k
theorem DM10.kq {P:World→Prop} (h:DM10 w5 S q room cs E K f ss cs2 fr2 topF m top w') (k:Kq S w5 P):P w':=by
 obtain ⟨_,_,_,_,H⟩:=h;exact H.kq k
theorem DW10.grow (h:DW10 w5 S q room cs E K f ss cs2 fr2 topF m top w') (hb:Below w'.heap.size w' w''):DW10 w5 S q room cs E K f ss cs2 fr2 topF m top w'':=by
 obtain ⟨a,b,c,I,H⟩:=h;exact ⟨a,b,c,I,H.grow hb⟩
theorem DM10.grow (h:DM10 w5 S q room cs E K f ss cs2 fr2 topF m top w') (hb:Below w'.heap.size w' w''):DM10 w5 S q room cs E K f ss cs2 fr2 topF m top w'':=by
 obtain ⟨a,b,c,I,H⟩:=h;exact ⟨a,b,c,I,H.grow hb⟩
theorem Yhk (h:DW10 w5 S q room cs E K f ss cs2 fr2 topF (m+1) top w') (h0:ss.getD m 0=0):DM10 w5 S q room cs E K f ss cs2 fr2 topF m top w':=by
 obtain ⟨a,b,c,I,H⟩:=h;refine ⟨a,b,c,I,?_⟩;rw [h0,csH,if_pos rfl];exact H
theorem Yhm (hbo:DesOk cs E K f ss) (hct:∀i,cc cs i+258<1073741824) (hroom:noc cs+258≤room) (hm:m<ss.length) (h0:ss.getD m 0≠0) (h:DW10 w5 S q room cs E K f ss cs2 fr2 topF (m+1) top w'):Kc 114 #[.pointer (some ⟨q,0,none⟩),.int .i64 (ss.getD m 0:Int)] w' fun e w''=>e=.returned (.int .i64 0)∧DM10 w5 S q room cs E K f ss cs2 fr2 topF m top w'':=by
 obtain ⟨csP,csR,fr',I,H⟩:=h;have st:=(Zyy hbo hm hroom I).1;obtain ⟨s,hs⟩:∃s,s=ss.getD m 0:=⟨_,rfl⟩;have hmem:s∈ss:=by
  rw [hs,List.getD_eq_getElem?_getD,List.getElem?_eq_getElem hm];exact List.getElem_mem hm
 rw [← hs] at h0 st ⊢;have hocc:=(Zgs hbo s (List.mem_cons_of_mem _ hmem)).resolve_left h0;have hcnt:=I.di.cnt (s-1) hocc;have hlt:cc csR (s-1)<1073741824:=by
  have h1:=I.lag.lcc (s-1);have h2:=List.count_le_length (l:=f::ss) (a:=s-1+1);have h3:=hbo.len;have h4:=hct (s-1);rw [List.length_cons] at h2;omega
 have hh:=Zmf H (s-1) (st.occ h0) hlt;rw [show (((s-1:Nat):Int)+1)=(s:Int) by omega] at hh;refine hh.mono ?_;rintro e w'' ⟨rfl,k⟩;refine ⟨rfl,csP,csR,fr',I,?_⟩;rw [← hs,csH,if_neg h0];exact k
theorem Yhl (hbo:DesOk cs E K f ss) (hroom:noc cs+258≤room) (h5:room≤5000) (hK:Key K) (hm:m<ss.length) (h:DM10 w5 S q room cs E K f ss cs2 fr2 topF m top w'):Kc 115 #[.pointer (some ⟨q,0,none⟩),.agg (B K),.int .i64 (m:Int),.int .i64 (top:Int),.int .i64 (ss.getD m 0:Int)] w' fun e w''=>∃t:Nat,e=.returned (.int .i64 (t:Int))∧DW10 w5 S q room cs E K f ss cs2 fr2 topF m t w'':=by
 obtain ⟨csP,csR,fr',I,H⟩:=h;obtain ⟨st,csP',csR',hI,I'⟩:=Zyy hbo hm hroom I;obtain ⟨u,hu,hf⟩:=st.fit;refine (Yee H h5 K hK m top (ss.getD m 0) (by have:=hbo.len;omega) st.ml st.mr u hu hf st.full hI).mono ?_;rintro e w'' ⟨rfl,k⟩;exact ⟨_,rfl,csP',csR',_,I',k⟩
theorem Yep (I:DfI cs E K f ss room m csP csR fr' top cs2 fr2 topF) {x:Nat} (hx:x=0∨0<cc cs (x-1)):(cat csR (x:Int)).kind=(sdC cs x).kind∧(cat csR (x:Int)).l=(sdC cs x).l∧(cat csR (x:Int)).r=(sdC cs x).r:=by
 rw [Zy]
 by_cases h0:x=0
 ·subst h0;exact ⟨rfl,rfl,rfl⟩
 ·have e:=hx.resolve_left h0;have hc:=(I.di.keep (x-1) e).2;have hl:=I.lag.lce (x-1);unfold sdC;rw [if_neg h0,if_neg h0,hl,hc];exact ⟨rfl,rfl,rfl⟩
def D110 (w5:World) (S:List Nat) (q room:Nat) (cs:Lz) (fr:List Nat) (node:Nat) (w':World):Prop:=Hr w5 S w' q room (csH cs node) fr
theorem Zmj (cs:Lz) (node:Nat) (x:Nat):(cat (csH cs node) (x:Int))=sdC cs x:=by
 rw [Zy];unfold csH;split
 ·rfl
 ·unfold sdC;split
  ·rfl
  ·rw [Zcl]
theorem Zsi (V:Hr w5 S w' q room (csH cs f) fr) (W:Wf cs []) (I0:Inv room (cs.map pl) fr) (hbo:DesOk cs E K f ss) (hct:∀i,cc cs i+258<1073741824) (hz:Rz K ss (holdM cs (f::ss)) fr f cs2 fr2 topF):DW10 w5 S q room cs E K f ss cs2 fr2 topF ss.length f w':=by
 have hv:=Zgs hbo;have hm:=Zqh W (f::ss).length (f::ss) rfl hv;have lag0:Lag (holdM cs (f::ss)) cs (f::ss):=Lag.start hm hv;have IH:Inv room ((holdM cs (f::ss)).map pl) fr:=by
  refine ⟨I0.r1,I0.r2,by rw [List.length_map,hm.len];exact I0.lenC,I0.nod,fun s hs=>?_,?_,fun i=>?_⟩
  ·obtain ⟨a,b,c⟩:=I0.free s hs;rw [List.length_map] at b;rw [Zan] at c;refine ⟨a,by rw [List.length_map,hm.len];exact b,?_⟩;rw [Zan,hm.cc,c];have:(f::ss).count (s-1+1)=0:=by
    apply List.count_eq_zero.2;intro hx;rcases hv _ hx with e | e
    ·omega
    ·rw [Nat.add_sub_cancel,c] at e;omega
   omega
  ·have h1:=I0.sum;have h2:=hm.noc;rw [List.length_map] at h1 ⊢;unfold noc at h2;rw [hm.len];omega
  ·rw [Zan,hm.cc];have h2:=List.count_le_length (l:=f::ss) (a:=i+1);have h3:=hbo.len;have h4:=hct i;rw [List.length_cons] at h2;omega
 have lagf:Lag (holdM cs (f::ss)) (csH cs f) ss:=by
  have hlc:=lag0.lcc
  by_cases f0:f=0
  ·subst f0;rw [csH,if_pos rfl];refine ⟨lag0.len,lag0.lce,fun i=>?_,fun x hx=>lag0.occ x (List.mem_cons_of_mem _ hx)⟩;rw [hlc i,List.count_cons];simp
  ·have hi:0<cc cs (f-1):=(hv f (by simp)).resolve_left f0;rw [csH,if_neg f0];refine ⟨by rw [Zgl];exact lag0.len,fun i=>by rw [Zcl];exact lag0.lce i,fun i=>?_,fun x hx=>?_⟩
   ·rw [hlc i,List.count_cons,Zdo hi]
    by_cases e:f=i+1
    ·rw [if_pos (by simp [e]),if_pos (by omega)];omega
    ·rw [if_neg (by simpa using e),if_neg (by omega)];omega
   ·rcases lag0.occ x (List.mem_cons_of_mem _ hx) with e | e
    ·exact .inl e
    ·right;rw [Zdo hi];omega
 refine ⟨_,_,_,⟨?_,Zoi W hbo hm,?_,IH,fun h=>absurd h (by omega)⟩,V⟩
 ·rw [List.take_length];exact hz
 ·rw [List.take_length];exact lagf
theorem Yeo (h:DW10 w5 S q room cs E K f ss cs2 fr2 topF 0 top w'):top=topF∧Hr w5 S w' q room cs2 fr2∧DzI cs E K f ss 0 cs2 topF:=by
 obtain ⟨csP,csR,fr',I,H⟩:=h;have hz:=I.rz;have hl:=I.lag;rw [List.take_zero] at hz hl;obtain ⟨rfl,rfl,rfl⟩:=Yeb hz;obtain rfl:=hl.end;exact ⟨rfl,H,I.di⟩
end
end Go.Proofs.YtgfdgjkbcdmboaaGreatDoor
namespace Go.Proofs.YtgfdgjkbcdmboaaGreatDoor
variable {E:List Ent}
variable {K:Lq}
variable {P:Ending→World→Prop}
variable {S fr fr' fr2 pend:List Nat}
variable {T:Tre}
variable {cs cs' cs0 cs2 csP csR:Lz}
variable {d f g gs h l m node o q r room top:Nat}
variable {w w'' w0:World}
set_option maxHeartbeats 4000000
set_option maxRecDepth 20000
open Go.RowKit
theorem Yky {x:Int} {P0:World→World→Prop} (HS:Hid (∀b,w.heap.size≤b→b ∉ S)) (HPS:Hid ((Tryz.prog.info? 34).map (·.size)=some (B K).size)) (HP0:Hid (∀w1,Kb w w1→P0 w1 w1))
  (HOT:Hid (∀b w',P0 b w'→Kc 49 #[.pointer (some ⟨q,0,none⟩),.agg (B K),.int .i64 (m:Int),.int .i64 x] w' fun e w''=>e=.returned (.int .i64 0)∧P0 b w''))
  {kn:Int} (hkn:(kn != 2)=true) (HKN:Hid (∀b w',P0 b w'→Kc 48 #[.pointer (some ⟨q,0,none⟩),.int .i64 (node:Int)] w' fun e w''=>e=.returned (.int .u8 kn)∧P0 b w''))
  (HE:Hid (∀b w',Kb w b→P0 b w'→P (.returned (.tuple #[.int .i64 (node:Int),.int .i64 0])) w')):Kc 57 #[.pointer (some ⟨q,0,none⟩),.agg (B K),.int .i64 (m:Int),.int .i64 x,.int .i64 (node:Int)] w P:=by
 go_enter Tryz.func57,Tryz.ntmps57
 go_wp2_with (first
  |((with_reducible refine Zl 6 ?_);refine Zc _ rfl _ _ rfl _ rfl ?_;intro w1 b6 hg6 hl6 B6 q6;have HQ1:=Za q6;have HB1:=Za (Kq.blk B6 (HS.out b6 hg6));have HR1:=Za (HP0.out _ q6);clear hg6 hl6 B6 q6)
  |((with_reducible refine Zk 14 6 ?_);refine Zd _ rfl _ _ rfl b6 _ rfl HB1.out.now _ _ Tryz.underlying34 HPS.out ?_)
  |(go_at_call 49;refine (HOT.out _ _ HR1.out).mono ?_;rintro e w2 ⟨rfl,r2⟩;have HR2:=Za r2;clear r2)
  |(go_at_call 48;refine (HKN.out _ _ HR2.out).mono ?_;rintro e w3 ⟨rfl,r3⟩;have HR3:=Za r3;clear r3))
 exact HE.out _ _ HQ1.out HR3.out
theorem Ykx {x:Int} {P0 P1:World→World→Prop} (HS:Hid (∀b,w.heap.size≤b→b ∉ S)) (HPS:Hid ((Tryz.prog.info? 34).map (·.size)=some (B K).size)) (HP0:Hid (∀w1,Kb w w1→P0 w1 w1))
  (HOT:Hid (∀b w',P0 b w'→Kc 49 #[.pointer (some ⟨q,0,none⟩),.agg (B K),.int .i64 (m:Int),.int .i64 x] w' fun e w''=>e=.returned (.int .i64 (o:Int))∧P0 b w''))
  (ho:o≠0) (HHO:Hid (∀b w',P0 b w'→Kc 114 #[.pointer (some ⟨q,0,none⟩),.int .i64 (o:Int)] w' fun e w''=>e=.returned (.int .i64 0)∧P1 b w''))
  (HKO:Hid (∀b w',P1 b w'→Kc 48 #[.pointer (some ⟨q,0,none⟩),.int .i64 (o:Int)] w' fun e w''=>e=.returned (.int .u8 1)∧P1 b w''))
  (HE:Hid (∀b w',Kb w b→P1 b w'→P (.returned (.tuple #[.int .i64 (o:Int),.int .i64 0])) w')):Kc 57 #[.pointer (some ⟨q,0,none⟩),.agg (B K),.int .i64 (m:Int),.int .i64 x,.int .i64 0] w P:=by
 have o1:(0:Int)<(o:Int):=by omega
 have o2: ¬(o:Int)=0:=by omega
 have o3:((o:Int) == 0)=false:=by simpa using o2
 go_enter Tryz.func57,Tryz.ntmps57
 go_wp2_with (first
  |((with_reducible refine Zl 6 ?_);refine Zc _ rfl _ _ rfl _ rfl ?_;intro w1 b6 hg6 hl6 B6 q6;have HQ1:=Za q6;have HB1:=Za (Kq.blk B6 (HS.out b6 hg6));have HR1:=Za (HP0.out _ q6);clear hg6 hl6 B6 q6)
  |((with_reducible refine Zk 14 6 ?_);refine Zd _ rfl _ _ rfl b6 _ rfl HB1.out.now _ _ Tryz.underlying34 HPS.out ?_)
  |(go_at_call 49;refine (HOT.out _ _ HR1.out).mono ?_;rintro e w2 ⟨rfl,r2⟩;have HR2:=Za r2;clear r2)
  |(go_at_call 114;refine (HHO.out _ _ HR2.out).mono ?_;rintro e w3 ⟨rfl,r3⟩;have HR3:=Za r3;clear r3)
  |(go_at_call 48;refine (HKO.out _ _ HR3.out).mono ?_;rintro e w4 ⟨rfl,r4⟩;have HR4:=Za r4;clear r4))
 exact HE.out _ _ HQ1.out HR4.out
theorem Yip {x:Int} {P0:World→World→Prop} (HS:Hid (∀b,w.heap.size≤b→b ∉ S)) (HPS:Hid ((Tryz.prog.info? 34).map (·.size)=some (B K).size)) (HP0:Hid (∀w1,Kb w w1→P0 w1 w1))
  (HOT:Hid (∀b w',P0 b w'→Kc 49 #[.pointer (some ⟨q,0,none⟩),.agg (B K),.int .i64 (m:Int),.int .i64 x] w' fun e w''=>e=.returned (.int .i64 0)∧P0 b w''))
  (hnd:node≠0) (HKN:Hid (∀b w',P0 b w'→Kc 48 #[.pointer (some ⟨q,0,none⟩),.int .i64 (node:Int)] w' fun e w''=>e=.returned (.int .u8 2)∧P0 b w''))
  (HK0:Hid (∀b w' (Q:World→Prop),Kq S b Q→P0 b w'→Q w')) (HMA:Hid (∀b w',Kb w b→P0 b w'→Kc 115 #[.pointer (some ⟨q,0,none⟩),.agg (B K),.int .i64 (m:Int),.int .i64 (node:Int),.int .i64 0] w' fun e w''=>∃t:Nat,e=.returned (.int .i64 (t:Int))∧P (.returned (.tuple #[.int .i64 (t:Int),.int .i64 1])) w'')):Kc 57 #[.pointer (some ⟨q,0,none⟩),.agg (B K),.int .i64 (m:Int),.int .i64 x,.int .i64 (node:Int)] w P:=by
 have n1: ¬(node:Int)=0:=by omega
 have n2:((node:Int) == 0)=false:=by simpa using n1
 go_enter Tryz.func57,Tryz.ntmps57
 go_wp2_with (first
  |((with_reducible refine Zl 6 ?_);refine Zc _ rfl _ _ rfl _ rfl ?_;intro w1 b6 hg6 hl6 B6 q6;have HQ1:=Za q6;have HB1:=Za (Kq.blk B6 (HS.out b6 hg6));have HR1:=Za (HP0.out _ q6);clear hg6 hl6 B6 q6)
  |((with_reducible refine Zk 14 6 ?_);refine Zd _ rfl _ _ rfl b6 _ rfl HB1.out.now _ _ Tryz.underlying34 HPS.out ?_)
  |(go_at_call 49;refine (HOT.out _ _ HR1.out).mono ?_;rintro e w2 ⟨rfl,r2⟩;have HR2:=Za r2;clear r2)
  |(go_at_call 48;refine (HKN.out _ _ HR2.out).mono ?_;rintro e w3 ⟨rfl,r3⟩;have HR3:=Za r3;clear r3)
  |((with_reducible refine Zk 42 6 ?_);refine Zd _ rfl _ _ rfl b6 _ rfl (HK0.out _ _ _ HB1.out HR3.out) _ _ Tryz.underlying34 HPS.out ?_)
  |(go_at_call 115;refine (HMA.out _ _ HQ1.out HR3.out).mono ?_;rintro e w4 ⟨t4,rfl,p4⟩;have HP4:=Za p4;clear p4))
 exact HP4.out
theorem Yio {x:Int} {P0 P1:World→World→Prop} (HS:Hid (∀b,w.heap.size≤b→b ∉ S)) (HPS:Hid ((Tryz.prog.info? 34).map (·.size)=some (B K).size)) (HP0:Hid (∀w1,Kb w w1→P0 w1 w1))
  (HOT:Hid (∀b w',P0 b w'→Kc 49 #[.pointer (some ⟨q,0,none⟩),.agg (B K),.int .i64 (m:Int),.int .i64 x] w' fun e w''=>e=.returned (.int .i64 (o:Int))∧P0 b w''))
  (ho:o≠0) (HHO:Hid (∀b w',P0 b w'→Kc 114 #[.pointer (some ⟨q,0,none⟩),.int .i64 (o:Int)] w' fun e w''=>e=.returned (.int .i64 0)∧P1 b w''))
  (hnd:node≠0) (HK1:Hid (∀b w' (Q:World→Prop),Kq S b Q→P1 b w'→Q w')) (HMA:Hid (∀b w',Kb w b→P1 b w'→Kc 115 #[.pointer (some ⟨q,0,none⟩),.agg (B K),.int .i64 (m:Int),.int .i64 (node:Int),.int .i64 (o:Int)] w' fun e w''=>∃t:Nat,e=.returned (.int .i64 (t:Int))∧P (.returned (.tuple #[.int .i64 (t:Int),.int .i64 1])) w'')):Kc 57 #[.pointer (some ⟨q,0,none⟩),.agg (B K),.int .i64 (m:Int),.int .i64 x,.int .i64 (node:Int)] w P:=by
 have o1:(0:Int)<(o:Int):=by omega
 have o2: ¬(o:Int)=0:=by omega
 have o3:((o:Int) == 0)=false:=by simpa using o2
 have n1: ¬(node:Int)=0:=by omega
 have n2:((node:Int) == 0)=false:=by simpa using n1
 go_enter Tryz.func57,Tryz.ntmps57
 go_wp2_with (first
  |((with_reducible refine Zl 6 ?_);refine Zc _ rfl _ _ rfl _ rfl ?_;intro w1 b6 hg6 hl6 B6 q6;have HQ1:=Za q6;have HB1:=Za (Kq.blk B6 (HS.out b6 hg6));have HR1:=Za (HP0.out _ q6);clear hg6 hl6 B6 q6)
  |((with_reducible refine Zk 14 6 ?_);refine Zd _ rfl _ _ rfl b6 _ rfl HB1.out.now _ _ Tryz.underlying34 HPS.out ?_)
  |(go_at_call 49;refine (HOT.out _ _ HR1.out).mono ?_;rintro e w2 ⟨rfl,r2⟩;have HR2:=Za r2;clear r2)
  |(go_at_call 114;refine (HHO.out _ _ HR2.out).mono ?_;rintro e w3 ⟨rfl,r3⟩;have HR3:=Za r3;clear r3)
  |((with_reducible refine Zk 42 6 ?_);refine Zd _ rfl _ _ rfl b6 _ rfl (HK1.out _ _ _ HB1.out HR3.out) _ _ Tryz.underlying34 HPS.out ?_)
  |(go_at_call 115;refine (HMA.out _ _ HQ1.out HR3.out).mono ?_;rintro e w5 ⟨t5,rfl,p5⟩;have HP5:=Za p5;clear p5))
 exact HP5.out
theorem Yin {x:Int} {P0 P1:World→World→Prop} (HS:Hid (∀b,w.heap.size≤b→b ∉ S)) (HPS:Hid ((Tryz.prog.info? 34).map (·.size)=some (B K).size)) (HP0:Hid (∀w1,Kb w w1→P0 w1 w1))
  (HOT:Hid (∀b w',P0 b w'→Kc 49 #[.pointer (some ⟨q,0,none⟩),.agg (B K),.int .i64 (m:Int),.int .i64 x] w' fun e w''=>e=.returned (.int .i64 (o:Int))∧P0 b w''))
  (ho:o≠0) (HHO:Hid (∀b w',P0 b w'→Kc 114 #[.pointer (some ⟨q,0,none⟩),.int .i64 (o:Int)] w' fun e w''=>e=.returned (.int .i64 0)∧P1 b w''))
  {ko:Int} (hko:(ko == 1)=false) (HKO:Hid (∀b w',P1 b w'→Kc 48 #[.pointer (some ⟨q,0,none⟩),.int .i64 (o:Int)] w' fun e w''=>e=.returned (.int .u8 ko)∧P1 b w'')) (HK1:Hid (∀b w' (Q:World→Prop),Kq S b Q→P1 b w'→Q w')) (HMA:Hid (∀b w',Kb w b→P1 b w'→Kc 115 #[.pointer (some ⟨q,0,none⟩),.agg (B K),.int .i64 (m:Int),.int .i64 0,.int .i64 (o:Int)] w' fun e w''=>∃t:Nat,e=.returned (.int .i64 (t:Int))∧P (.returned (.tuple #[.int .i64 (t:Int),.int .i64 1])) w'')):Kc 57 #[.pointer (some ⟨q,0,none⟩),.agg (B K),.int .i64 (m:Int),.int .i64 x,.int .i64 0] w P:=by
 have o1:(0:Int)<(o:Int):=by omega
 have o2: ¬(o:Int)=0:=by omega
 have o3:((o:Int) == 0)=false:=by simpa using o2
 go_enter Tryz.func57,Tryz.ntmps57
 go_wp2_with (first
  |((with_reducible refine Zl 6 ?_);refine Zc _ rfl _ _ rfl _ rfl ?_;intro w1 b6 hg6 hl6 B6 q6;have HQ1:=Za q6;have HB1:=Za (Kq.blk B6 (HS.out b6 hg6));have HR1:=Za (HP0.out _ q6);clear hg6 hl6 B6 q6)
  |((with_reducible refine Zk 14 6 ?_);refine Zd _ rfl _ _ rfl b6 _ rfl HB1.out.now _ _ Tryz.underlying34 HPS.out ?_)
  |(go_at_call 49;refine (HOT.out _ _ HR1.out).mono ?_;rintro e w2 ⟨rfl,r2⟩;have HR2:=Za r2;clear r2)
  |(go_at_call 114;refine (HHO.out _ _ HR2.out).mono ?_;rintro e w3 ⟨rfl,r3⟩;have HR3:=Za r3;clear r3)
  |(go_at_call 48;refine (HKO.out _ _ HR3.out).mono ?_;rintro e w4 ⟨rfl,r4⟩;have HR4:=Za r4;clear r4)
  |((with_reducible refine Zk 42 6 ?_);refine Zd _ rfl _ _ rfl b6 _ rfl (HK1.out _ _ _ HB1.out HR4.out) _ _ Tryz.underlying34 HPS.out ?_)
  |(go_at_call 115;refine (HMA.out _ _ HQ1.out HR4.out).mono ?_;rintro e w5 ⟨t5,rfl,p5⟩;have HP5:=Za p5;clear p5))
 exact HP5.out
def mnP (c:Ce) (K:Lq):Bool:=decide (c.kind=1) && decide (c.key=K)
theorem Zpj (V:Hr w0 S w q room cs fr) (h5:room≤5000) (x:Int) (K:Lq) (hK:Key K):Kc 47 #[.pointer (some ⟨q,0,none⟩),.int .i64 x,.agg (B K)] w fun e w'=>e=.returned (.bool (mnP (cat cs x) K))∧Kb w w':=by
 have HKD:Hid (Kr w 48 #[.pointer (some ⟨q,0,none⟩),.int .i64 x] (.int .u8 (cat cs x).kind)):=fun w' hb=>Zdx (V.grow hb) x
 have HKY:Hid (Kr w 95 #[.pointer (some ⟨q,0,none⟩),.int .i64 x] (.agg (B (cat cs x).key))):=fun w' hb=>Zsa (V.grow hb) h5 x
 have HPL:Hid ((Tryz.prog.info? 34).map (·.size)=some (B K).toList.length):=by show _=_;rw [Array.length_toList,Zj,hK.1];exact Zi
 have hkl:(cat cs x).key.length=32:=(V.wf.catOk x).hk.1;have hEK:=fun w=>Zcs (cat cs x).key K hkl hK.1 w
 unfold mnP;generalize (cat cs x).kind=kd at HKD ⊢;generalize (cat cs x).key=ky at HKY hEK hkl ⊢;clear V hkl
 by_cases k1:kd=1
 ·subst k1
  by_cases k2:ky=K
  ·have k3:=k2.symm;clear k2;subst k3;simp only [decide_true,Bool.true_and] at hEK ⊢;clear hK;go_enter Tryz.func47,Tryz.ntmps47
   go_wp2_with (first
    |((with_reducible refine Zl 5 ?_);refine Zc _ rfl _ _ rfl _ rfl ?_;intro w1 b5 hg5 hl5 B5 q5;have HB5:=Za B5;have HQ1:=Za q5;clear hg5 hl5 B5 q5))
   refine wp_region_held_drew (S:=fun w'=>Kb w1 w') (by kernel_rfl) ((below_drewN (Below.refl _ _) 1)) (fun hHeld=>?_);refine tkp 0 (.pointer (some ⟨q,0,none⟩)) hHeld ?_;simp only [zq];refine tkp 1 (.int .i64 x) hHeld ?_;simp only [zq];refine wpAnyH_ready (rs:=[2]) (by kernel_rfl) (by simp) ?_;refine AllReadyH.cons rfl (fun KQ hK=>?_) AllReadyH.nil;go_simp;refine (HKD.out _ (Zb HQ1.out hHeld)).mono ?_;rintro e z1 ⟨rfl,a1⟩;refine hK.out _ _ (Zb hHeld a1) (fun hHeld=>?_);clear hK KQ;refine tkp 3 (.bool true) hHeld ?_;simp only [zq];refine tkp 4 (.bool true) hHeld ?_;simp only [zq];refine tkp 5 (.pointer (some ⟨q,0,none⟩)) hHeld ?_;simp only [zq];refine tkp 6 (.int .i64 x) hHeld ?_;simp only [zq];refine tkg 8 (.agg (B K)) rfl (yieldsIf_load_mid rfl 34 (.tmp 5) rfl b5 0 rfl (B K).toList _ (fun w hS=>(HB5.out.grow hS).range) Tryz.underlying34 rfl HPL.out) hHeld ?_;simp only [zq];refine wpAnyH_ready (rs:=[7]) (by kernel_rfl) (by simp) ?_;refine AllReadyH.cons rfl (fun KQ hK=>?_) AllReadyH.nil;go_simp;refine (HKY.out _ (Zb HQ1.out hHeld)).mono ?_;rintro e z2 ⟨rfl,a2⟩;refine hK.out _ _ (Zb hHeld a2) (fun hHeld=>?_);clear hK KQ;refine tkp 9 (.bool true) hHeld ?_;simp only [zq];refine tkp 10 (.bool true) hHeld ?_;simp only [zq];refine tkp 11 (.bool true) hHeld ?_;simp only [zq];refine wpAnyH_done (by kernel_rfl) ?_ _;go_wp2
   go_ret;exact ⟨rfl,Zb HQ1.out hHeld⟩
  ·have k2':decide (ky=K)=false:=by simp [k2]
   rw [k2'] at hEK ⊢;simp only [decide_true,Bool.true_and];clear k2' hK;go_enter Tryz.func47,Tryz.ntmps47
   go_wp2_with (first
    |((with_reducible refine Zl 5 ?_);refine Zc _ rfl _ _ rfl _ rfl ?_;intro w1 b5 hg5 hl5 B5 q5;have HB5:=Za B5;have HQ1:=Za q5;clear hg5 hl5 B5 q5))
   refine wp_region_held_drew (S:=fun w'=>Kb w1 w') (by kernel_rfl) ((below_drewN (Below.refl _ _) 1)) (fun hHeld=>?_);refine tkp 0 (.pointer (some ⟨q,0,none⟩)) hHeld ?_;simp only [zq];refine tkp 1 (.int .i64 x) hHeld ?_;simp only [zq];refine wpAnyH_ready (rs:=[2]) (by kernel_rfl) (by simp) ?_;refine AllReadyH.cons rfl (fun KQ hK=>?_) AllReadyH.nil;go_simp;refine (HKD.out _ (Zb HQ1.out hHeld)).mono ?_;rintro e z1 ⟨rfl,a1⟩;refine hK.out _ _ (Zb hHeld a1) (fun hHeld=>?_);clear hK KQ;refine tkp 3 (.bool true) hHeld ?_;simp only [zq];refine tkp 4 (.bool true) hHeld ?_;simp only [zq];refine tkp 5 (.pointer (some ⟨q,0,none⟩)) hHeld ?_;simp only [zq];refine tkp 6 (.int .i64 x) hHeld ?_;simp only [zq];refine tkg 8 (.agg (B K)) rfl (yieldsIf_load_mid rfl 34 (.tmp 5) rfl b5 0 rfl (B K).toList _ (fun w hS=>(HB5.out.grow hS).range) Tryz.underlying34 rfl HPL.out) hHeld ?_;simp only [zq];refine wpAnyH_ready (rs:=[7]) (by kernel_rfl) (by simp) ?_;refine AllReadyH.cons rfl (fun KQ hK=>?_) AllReadyH.nil;go_simp;refine (HKY.out _ (Zb HQ1.out hHeld)).mono ?_;rintro e z2 ⟨rfl,a2⟩;refine hK.out _ _ (Zb hHeld a2) (fun hHeld=>?_);clear hK KQ;refine tkp 9 (.bool false) hHeld ?_;simp only [zq];refine tkp 10 (.bool false) hHeld ?_;simp only [zq];refine tkp 11 (.bool false) hHeld ?_;simp only [zq];refine wpAnyH_done (by kernel_rfl) ?_ _;go_wp2
   go_ret;exact ⟨rfl,Zb HQ1.out hHeld⟩
 ·have k1':decide (kd=1)=false:=by simp [k1]
  rw [k1'];simp only [Bool.false_and];clear k1' hEK hK;go_enter Tryz.func47,Tryz.ntmps47
  go_wp2_with (first
   |((with_reducible refine Zl 5 ?_);refine Zc _ rfl _ _ rfl _ rfl ?_;intro w1 b5 hg5 hl5 B5 q5;have HB5:=Za B5;have HQ1:=Za q5;clear hg5 hl5 B5 q5))
  refine wp_region_held_drew (S:=fun w'=>Kb w1 w') (by kernel_rfl) ((below_drewN (Below.refl _ _) 1)) (fun hHeld=>?_);refine tkp 0 (.pointer (some ⟨q,0,none⟩)) hHeld ?_;simp only [zq];refine tkp 1 (.int .i64 x) hHeld ?_;simp only [zq];refine wpAnyH_ready (rs:=[2]) (by kernel_rfl) (by simp) ?_;refine AllReadyH.cons rfl (fun KQ hK=>?_) AllReadyH.nil;go_simp;refine (HKD.out _ (Zb HQ1.out hHeld)).mono ?_;rintro e z1 ⟨rfl,a1⟩;refine hK.out _ _ (Zb hHeld a1) (fun hHeld=>?_);clear hK KQ;refine tkp 3 (.bool false) hHeld ?_;simp only [zq];refine tkp 4 (.bool false) hHeld ?_;simp only [zq];refine tks 5 hHeld ?_;simp only [zq];refine tks 6 hHeld ?_;simp only [zq];refine tks 7 hHeld ?_;simp only [zq];refine tks 8 hHeld ?_;simp only [zq];refine tks 9 hHeld ?_;simp only [zq];refine tkp 10 (.bool false) hHeld ?_;simp only [zq];refine tkp 11 (.bool false) hHeld ?_;simp only [zq];refine wpAnyH_done (by kernel_rfl) ?_ _;go_wp2
  go_ret;exact ⟨rfl,Zb HQ1.out hHeld⟩
end Go.Proofs.YtgfdgjkbcdmboaaGreatDoor
namespace Go.Proofs.YtgfdgjkbcdmboaaGreatDoor
variable {E:List Ent}
variable {K:Lq}
variable {P:Ending→World→Prop}
variable {S fr fr' fr2 pend:List Nat}
variable {T:Tre}
variable {cs cs' cs0 cs2 csP csR:Lz}
variable {d f g gs h l m node o q r room top:Nat}
variable {w w'' w0:World}
set_option maxHeartbeats 4000000
set_option maxRecDepth 20000
open Go.RowKit
def UP10 (w5:World) (S:List Nat) (q room:Nat) (cs:Lz) (fr:List Nat) (E:List Ent) (K:Lq) (os:List Nat) (n1 f:Nat) (cs2:Lz) (fr2:List Nat) (topF m node:Nat) (w':World):Prop:=
 (shk (fun h=>(sdC cs h).kind) os m node=(n1,f)∧(node=0∨0<cc cs (node-1)∧(sdC cs node).kind=1)∧Hr w5 S w' q room (csH cs node) fr)∨(m<n1∧DW10 w5 S q room cs E K f (os.take n1) cs2 fr2 topF m node w')
section
variable {w5 w w1 w2:World} {S:List Nat} {q room:Nat} {cs:Lz} {fr:List Nat} {E:List Ent} {K:Lq} {os:List Nat} {n1 f:Nat} {cs2:Lz} {fr2:List Nat} {topF m node:Nat}
theorem UP10.kq {P:World→Prop} (h:UP10 w5 S q room cs fr E K os n1 f cs2 fr2 topF m node w) (k:Kq S w5 P):P w:=by
 rcases h with ⟨_,_,H⟩ | ⟨_,H⟩
 ·exact H.kq k
 ·exact H.kq k
theorem UP10.grow (h:UP10 w5 S q room cs fr E K os n1 f cs2 fr2 topF m node w) (hb:Kb w w1):UP10 w5 S q room cs fr E K os n1 f cs2 fr2 topF m node w1:=by
 rcases h with ⟨h1,h2,H⟩ | ⟨h1,H⟩
 ·exact .inl ⟨h1,h2,H.grow hb⟩
 ·exact .inr ⟨h1,H.grow hb⟩
theorem DW10.back {ss:List Nat} (hb:Kb w w1) (h:DW10 w1 S q room cs E K f ss cs2 fr2 topF m node w2):DW10 w S q room cs E K f ss cs2 fr2 topF m node w2:=by
 obtain ⟨a,b,c,I,H⟩:=h;exact ⟨a,b,c,I,Hr.back hb H⟩
theorem UP10.from (h:UP10 w5 S q room cs fr E K os n1 f cs2 fr2 topF m node w):∃S',UP10 w S' q room cs fr E K os n1 f cs2 fr2 topF m node w∧(∀b,w.heap.size≤b→b ∉ S')∧∀m' t w',UP10 w S' q room cs fr E K os n1 f cs2 fr2 topF m' t w'→UP10 w5 S q room cs fr E K os n1 f cs2 fr2 topF m' t w':=by
 have key:∀ {cs0 fr0},Hr w5 S w q room cs0 fr0→∃S',Hr w S' w q room cs0 fr0∧(∀b,w.heap.size≤b→b ∉ S')∧∀w' cs' fr',Hr w S' w' q room cs' fr'→Hr w5 S w' q room cs' fr':=fun H=>by
  obtain ⟨S',V,_,_,hS,hbk⟩:=H.from
  exact ⟨S',V,fun b hb e=>by have:=hS b e;omega,hbk⟩
 have bk:∀ {S'},(∀w' cs' fr',Hr w S' w' q room cs' fr'→Hr w5 S w' q room cs' fr')→∀m' t w',UP10 w S' q room cs fr E K os n1 f cs2 fr2 topF m' t w'→UP10 w5 S q room cs fr E K os n1 f cs2 fr2 topF m' t w':=fun hb m' t w' u=>by
  rcases u with ⟨h1,h2,H⟩ | ⟨h1,a,b,c,I,H⟩
  ·exact .inl ⟨h1,h2,hb _ _ _ H⟩
  ·exact .inr ⟨h1,a,b,c,I,hb _ _ _ H⟩
 rcases h with ⟨h1,h2,H⟩ | ⟨h1,a,b,c,I,H⟩
 ·obtain ⟨S',V,hS,hb⟩:=key H;exact ⟨S',.inl ⟨h1,h2,V⟩,hS,bk hb⟩
 ·obtain ⟨S',V,hS,hb⟩:=key H;exact ⟨S',.inr ⟨h1,a,b,c,I,V⟩,hS,bk hb⟩
structure UpC (cs:Lz) (fr:List Nat) (room:Nat) (K:Lq) (T:Tre) (root:Nat) (n1 f:Nat) (cs2:Lz) (fr2:List Nat) (topF:Nat):Prop where
 wf:Wf cs []
 inv:Inv room (cs.map pl) fr
 h5:room≤5000
 key:Key K
 tree:IsT cs root T
 dp:(sdC cs root).kind=2→(sdC cs root).dp=0
 fits:noc cs+258≤room
 ct:∀i,cc cs i+258<1073741824
 des:DesOk cs T.ents K f ((T.oth K).take n1)
 le:n1≤(T.oth K).length
 rz:Rz K ((T.oth K).take n1) (holdM cs (f::(T.oth K).take n1)) fr f cs2 fr2 topF
 val:∀x∈T.oth K,x=0∨0<cc cs (x-1)
theorem Yid {root:Nat} (c:UpC cs fr room K T root n1 f cs2 fr2 topF) (h:UP10 w5 S q room cs fr T.ents K (T.oth K) n1 f cs2 fr2 topF 0 node w):node=topF∧Hr w5 S w q room cs2 fr2∧DzI cs T.ents K f ((T.oth K).take n1) 0 cs2 topF:=by
 rcases h with ⟨h1,_,H⟩ | ⟨_,H⟩
 ·rw [shk] at h1;injection h1 with e1 e2;subst e1;subst e2;have:=Zsi H c.wf c.inv c.des c.ct c.rz;rw [show ((T.oth K).take 0).length=0 by simp] at this;exact Yeo this
 ·exact Yeo H
theorem Ykz {root:Nat} (c:UpC cs fr room K T root n1 f cs2 fr2 topF) (hm:m<(T.hs K root).length) (h0:UP10 w5 S q room cs fr T.ents K (T.oth K) n1 f cs2 fr2 topF (m+1) node w):Kc 57 #[.pointer (some ⟨q,0,none⟩),.agg (B K),.int .i64 (m:Int),.int .i64 ((T.hs K root).getD m 0:Int),.int .i64 (node:Int)] w fun e w'=>∃(t:Nat) (y:Int),e=.returned (.tuple #[.int .i64 (t:Int),.int .i64 y])∧UP10 w5 S q room cs fr T.ents K (T.oth K) n1 f cs2 fr2 topF m t w':=by
 obtain ⟨S',U,hS,hbk⟩:=h0.from
 have W:=c.wf;have HPS:Hid ((Tryz.prog.info? 34).map (·.size)=some (B K).size):=by show _=_;rw [Zj,c.key.1];exact Zi
 have hlen:=Tre.hs_oth K T root;have hmo:m<(T.oth K).length:=by rw [← hlen];exact hm
 obtain ⟨x,a1,a2,a3,a4,a5,a6,a7,a8⟩:=Zqe W K T root 0 c.tree c.dp m hm;rw [Nat.zero_add] at a5 a6 a7;have hx:(T.hs K root).getD m 0=x:=by rw [List.getD_eq_getElem?_getD,a1];rfl
 rw [hx];obtain ⟨o,ho⟩:∃o,o=(T.oth K).getD m 0:=⟨_,rfl⟩;have ho1:(if kb K m=1 then (ce cs (x-1)).l else (ce cs (x-1)).r)=o:=by rw [ho,List.getD_eq_getElem?_getD,a7];rfl
 have hoc:o=0∨0<cc cs (o-1):=c.val o (by rw [ho,List.getD_eq_getElem?_getD,List.getElem?_eq_getElem hmo];exact List.getElem_mem hmo);have hsx:sdC cs x=ce cs (x-1):=if_neg (by omega);have HOa:∀nd b w',Hr b S' w' q room (csH cs nd) fr→Kc 49 #[.pointer (some ⟨q,0,none⟩),.agg (B K),.int .i64 (m:Int),.int .i64 (x:Int)] w' fun e w''=>e=.returned (.int .i64 (o:Int))∧Hr b S' w'' q room (csH cs nd) fr:=fun nd b w' H=>by
  have:=Zlu H K c.key m a6 (x:Int);rw [Zmj,hsx,ho1] at this;exact this.mono fun e w'' ⟨e1,b⟩=>⟨e1,H.grow b⟩
 have hson:n1≤(T.oth K).length:=c.le;have ssl:((T.oth K).take n1).length=n1:=by rw [List.length_take];omega
 have HOw:∀b w',m<n1→DW10 b S' q room cs T.ents K f ((T.oth K).take n1) cs2 fr2 topF (m+1) node w'→Kc 49 #[.pointer (some ⟨q,0,none⟩),.agg (B K),.int .i64 (m:Int),.int .i64 (x:Int)] w' fun e w''=>e=.returned (.int .i64 (o:Int))∧DW10 b S' q room cs T.ents K f ((T.oth K).take n1) cs2 fr2 topF (m+1) node w'':=fun b w' _ h=>by
  have hh:=h;obtain ⟨csP,csR,fr',I,H⟩:=h;have:=Zlu H K c.key m a6 (x:Int);obtain ⟨_,c2,c3⟩:=Yep I (x:=x) (.inr a3);rw [c2,c3,hsx,ho1] at this;exact this.mono fun e w'' ⟨e1,b⟩=>⟨e1,hh.grow b⟩
 have hsg:m<n1→((T.oth K).take n1).getD m 0=o:=fun h=>by rw [Zmw _ _ _ h,ho]
 have HKm:∀b w',m<n1→DM10 b S' q room cs T.ents K f ((T.oth K).take n1) cs2 fr2 topF m node w'→Kc 48 #[.pointer (some ⟨q,0,none⟩),.int .i64 (o:Int)] w' fun e w''=>e=.returned (.int .u8 (sdC cs o).kind)∧DM10 b S' q room cs T.ents K f ((T.oth K).take n1) cs2 fr2 topF m node w'':=fun b w' _ h=>by
  have hh:=h;obtain ⟨csP,csR,fr',I,H⟩:=h;have:=Zdx H (o:Int);rw [Zmj,← Zy,(Yep I hoc).1] at this;exact this.mono fun e w'' ⟨e1,b⟩=>⟨e1,hh.grow b⟩
 -- a node is made
 have made:m<n1→(o≠0→node=0→(sdC cs o).kind≠1)→(o=0→node≠0∧∀b w',DW10 b S' q room cs T.ents K f ((T.oth K).take n1) cs2 fr2 topF (m+1) node w'→Kc 48 #[.pointer (some ⟨q,0,none⟩),.int .i64 (node:Int)] w' fun e w''=>e=.returned (.int .u8 2)∧DW10 b S' q room cs T.ents K f ((T.oth K).take n1) cs2 fr2 topF (m+1) node w'')→(∀w1,Kb w w1→DW10 w1 S' q room cs T.ents K f ((T.oth K).take n1) cs2 fr2 topF (m+1) node w1)→Kc 57 #[.pointer (some ⟨q,0,none⟩),.agg (B K),.int .i64 (m:Int),.int .i64 (x:Int),.int .i64 (node:Int)] w fun e w'=>∃(t:Nat) (y:Int),e=.returned (.tuple #[.int .i64 (t:Int),.int .i64 y])∧UP10 w5 S q room cs fr T.ents K (T.oth K) n1 f cs2 fr2 topF m t w':=fun hmn hk1 hk2 st=>by
  have hms:m<((T.oth K).take n1).length:=by rw [ssl];exact hmn
  have HK1:Hid (∀b w' (Q:World→Prop),Kq S' b Q→DM10 b S' q room cs T.ents K f ((T.oth K).take n1) cs2 fr2 topF m node w'→Q w'):=fun b w' Q k h=>h.kq k
  have HMA:Hid (∀b w',Kb w b→DM10 b S' q room cs T.ents K f ((T.oth K).take n1) cs2 fr2 topF m node w'→Kc 115 #[.pointer (some ⟨q,0,none⟩),.agg (B K),.int .i64 (m:Int),.int .i64 (node:Int),.int .i64 (o:Int)] w' fun e w''=>∃t:Nat,e=.returned (.int .i64 (t:Int))∧(fun e' w3=>∃(t:Nat) (y:Int),e'=Ending.returned (.tuple #[.int .i64 (t:Int),.int .i64 y])∧UP10 w5 S q room cs fr T.ents K (T.oth K) n1 f cs2 fr2 topF m t w3) (.returned (.tuple #[.int .i64 (t:Int),.int .i64 1])) w''):=fun b w' hb h=>by
   have:=Yhl c.des c.fits c.h5 c.key hms h;rw [hsg hmn] at this;exact this.mono fun e w'' ⟨t,e1,d⟩=>⟨t,e1,t,1,rfl,hbk _ _ _ (.inr ⟨hmn,d.back hb⟩)⟩
  by_cases o0:o=0
  ·obtain ⟨hnd,hkn⟩:=hk2 o0;rw [o0] at HMA;have HMA':Hid (∀b w',Kb w b→DW10 b S' q room cs T.ents K f ((T.oth K).take n1) cs2 fr2 topF (m+1) node w'→Kc 115 #[.pointer (some ⟨q,0,none⟩),.agg (B K),.int .i64 (m:Int),.int .i64 (node:Int),.int .i64 0] w' fun e w''=>∃t:Nat,e=.returned (.int .i64 (t:Int))∧(fun e' w3=>∃(t:Nat) (y:Int),e'=Ending.returned (.tuple #[.int .i64 (t:Int),.int .i64 y])∧UP10 w5 S q room cs fr T.ents K (T.oth K) n1 f cs2 fr2 topF m t w3) (.returned (.tuple #[.int .i64 (t:Int),.int .i64 1])) w''):=fun b w' hb h=>HMA.out b w' hb (Yhk h (by rw [hsg hmn,o0]))
   have HO0:=fun b w' h=>HOw b w' hmn h
   rw [o0] at HO0;exact Yip (P0:=fun b w'=>DW10 b S' q room cs T.ents K f ((T.oth K).take n1) cs2 fr2 topF (m+1) node w') hS HPS st HO0 hnd hkn (fun b w' Q k h=>h.kq k) HMA'
  ·have HHO:Hid (∀b w',DW10 b S' q room cs T.ents K f ((T.oth K).take n1) cs2 fr2 topF (m+1) node w'→Kc 114 #[.pointer (some ⟨q,0,none⟩),.int .i64 (o:Int)] w' fun e w''=>e=.returned (.int .i64 0)∧DM10 b S' q room cs T.ents K f ((T.oth K).take n1) cs2 fr2 topF m node w''):=fun b w' h=>by
    have:=Yhm c.des c.ct c.fits hms (by rw [hsg hmn];exact o0) h;rwa [hsg hmn] at this
   by_cases nd0:node=0
   ·have hk:=hk1 o0 nd0;subst nd0;exact Yin (P0:=fun b w'=>DW10 b S' q room cs T.ents K f ((T.oth K).take n1) cs2 fr2 topF (m+1) 0 w') (P1:=fun b w'=>DM10 b S' q room cs T.ents K f ((T.oth K).take n1) cs2 fr2 topF m 0 w') hS HPS st (fun b w' h=>HOw b w' hmn h) o0 HHO (ko:=(sdC cs o).kind) (by simpa using hk) (fun b w' h=>HKm b w' hmn h) HK1 HMA
   ·exact Yio (P0:=fun b w'=>DW10 b S' q room cs T.ents K f ((T.oth K).take n1) cs2 fr2 topF (m+1) node w') (P1:=fun b w'=>DM10 b S' q room cs T.ents K f ((T.oth K).take n1) cs2 fr2 topF m node w') hS HPS st (fun b w' h=>HOw b w' hmn h) o0 HHO nd0 HK1 HMA
 rcases U with ⟨hk,hnd,V⟩ | ⟨hmn,d⟩
 ·rw [shk,← ho] at hk
  by_cases o0:o=0
  ·rw [if_pos o0] at hk;have hkn:((sdC cs node).kind != 2)=true:=by
    rcases hnd with e | ⟨_,e⟩
    ·rw [e];rfl
    ·rw [e];rfl
   have HO0:=fun b w' h=>HOa node b w' h
   rw [o0] at HO0;exact Yky (P0:=fun b w'=>Hr b S' w' q room (csH cs node) fr) hS HPS (fun w1 hb=>V.rebase hb) HO0 hkn (fun b w' H=>by
    have:=Zdx H (node:Int);rw [Zmj] at this;exact this.mono fun e w'' ⟨e1,b⟩=>⟨e1,H.grow b⟩) (fun b w' hb H=>⟨node,0,rfl,hbk _ _ _ (.inl ⟨hk,hnd,Hr.back hb H⟩)⟩)
  ·rw [if_neg o0] at hk
   by_cases hq:node=0∧(sdC cs o).kind=1
   ·rw [if_pos hq] at hk;obtain ⟨nd0,ko⟩:=hq;subst nd0;have hoc1:=hoc.resolve_left o0;have e0:csH cs 0=cs:=if_pos rfl;exact Ykx (P0:=fun b w'=>Hr b S' w' q room (csH cs 0) fr) (P1:=fun b w'=>Hr b S' w' q room (csH cs o) fr) hS HPS (fun w1 hb=>V.rebase hb) (fun b w' h=>HOa 0 b w' h) o0 (fun b w' H=>by
     have hh:=Zmf (cs:=cs) (by rw [← e0];exact H) (o-1) hoc1 (by have:=c.ct (o-1);omega);rw [show (((o-1:Nat):Int)+1)=(o:Int) by omega] at hh;rw [show csH cs o=moreC cs (o-1) from if_neg o0];exact hh) (fun b w' H=>by
     have:=Zdx H (o:Int);rw [Zmj,ko] at this;exact this.mono fun e w'' ⟨e1,b⟩=>⟨e1,H.grow b⟩) (fun b w' hb H=>⟨o,0,rfl,hbk _ _ _ (.inl ⟨hk,.inr ⟨hoc1,ko⟩,Hr.back hb H⟩)⟩)
   ·rw [if_neg hq] at hk;injection hk with e1 e2;subst e1;subst e2;refine made (by omega) (fun _ nd0 e=>hq ⟨nd0,e⟩) (fun e=>absurd e o0) (fun w1 hb=>?_);have:=Zsi (V.rebase hb) c.wf c.inv c.des c.ct c.rz;rw [ssl] at this;exact this
 ·refine made (by omega) (fun o0 nd0=>?_) (fun _=>?_) (fun w1 hb=>?_)
  ·obtain ⟨csP,csR,fr',I,H⟩:=d;have hi:=I.inn (by rw [ssl];exact hmn);rw [nd0] at hi;exact absurd hi (by show ¬zc.kind=2;decide)
  ·refine ⟨fun nd0=>?_,fun b w' h=>?_⟩
   ·obtain ⟨csP,csR,fr',I,H⟩:=d;have hi:=I.inn (by rw [ssl];exact hmn);rw [nd0] at hi;exact absurd hi (by show ¬zc.kind=2;decide)
   ·have hh:=h;obtain ⟨csP,csR,fr',I,H⟩:=h;have hi:=I.inn (by rw [ssl];exact hmn);have:=Zdx H (node:Int);rw [Zy,hi] at this;exact this.mono fun e w'' ⟨e1,b⟩=>⟨e1,hh.grow b⟩
  ·obtain ⟨csP,csR,fr',I,H⟩:=d;exact ⟨csP,csR,fr',I,H.rebase hb⟩
end
end Go.Proofs.YtgfdgjkbcdmboaaGreatDoor
