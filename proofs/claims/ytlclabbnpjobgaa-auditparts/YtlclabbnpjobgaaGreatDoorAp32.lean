/- The document's examples that every law asks (awake), as a contract. -/
import Derived.Test.YtlclabbnpjobgaaGreatDoorAp31
namespace Go.Proofs.YtlclabbnpjobgaaGreatDoor
variable {K bs:Lq}
variable {R S fr fr':List Nat}
variable {T:Tre}
variable {b c g gs h n r room top:Nat}
variable {cs cs':Lz}
variable {es:List Ent}
variable {w w' w0:World}
set_option maxHeartbeats 4000000
set_option maxRecDepth 20000
open Go.RowKit
def kyB (b:Int):Lq:=b::List.replicate 31 0
theorem Yen (b:Int) (h0:0≤b) (h1:b≤255):Key (kyB b):=⟨by simp [kyB],fun z hz=>by
 rcases List.mem_cons.1 hz with rfl | hz
 ·exact ⟨h0,h1⟩
 ·rw [List.eq_of_mem_replicate hz];omega⟩
theorem Ybq (b:Int):Tryz.prog.built 48 [(0,.int .u8 b)]=some (B (kyB b)):=by kernel_rfl
theorem Yhv (i:Nat) (p:Nat×Ce):con i p≤2:=by
 unfold con;split
 ·split <;> split <;> omega
 ·omega
theorem Yiy (cs:Lz) (i:Nat):ns cs i≤2 * cs.length:=by
 induction cs with
 | nil=>simp [ns]
 | cons p r ih=>
  have h:=Yhv i p;simp only [ns,List.map_cons,List.sum_cons,List.length_cons] at ih ⊢;omega
theorem Wf.ccLe (W:Wf cs []) (i b:Nat) (h:Go.Proofs.YtlclabbnpjobgaaGreatDoor.own cs [] i≤b):cc cs i≤2 * cs.length+b:=by
 have h1:=W.own i;have h2:=W.ab i;have h3:=Yiy cs i;rw [List.count_nil] at h1;omega
structure Rt (cs:Lz) (h:Nat) (T:Tre):Prop where
 tree:IsT cs h T
 dp:(sdC cs h).kind=2→(sdC cs h).dp=0
 own:h=0∨0<own cs [] (h-1)
theorem Rt.root (r:Rt cs h T):vRt true (cot cs h) (cat cs h) h=0:=by
 unfold vRt;rw [if_pos rfl]
 by_cases h0:(h:Int)=0
 ·rw [if_pos h0]
 ·rw [if_neg h0];rcases r.tree.occ with e | ⟨e1,e2⟩
  ·exact absurd (by omega) h0
  ·have hc:cot cs (h:Int)=cc cs (h-1):=by rw [cot,if_pos (by omega),show ((h:Int)-1).toNat=h-1 by omega]
   rw [hc,if_neg (by omega)];have hd:=r.dp;rw [← Zac] at hd;unfold vDp;rw [if_pos rfl]
   by_cases k:(cat cs (h:Int)).kind=2
   ·rw [if_pos k,hd k];rfl
   ·rw [if_neg k];rfl
theorem Rt.refuse (r:Rt cs h T) {n:Nat} (hn:n≤1024):vRf true (cot cs h) (cat cs h) h n=0:=by
 unfold vRf;rw [if_pos rfl,if_neg (by omega)];unfold vAh;rw [if_pos r.root,if_neg];rintro ⟨h0,q⟩;have h1:h≠0:=fun e=>h0 (by omega)
 have ho:=r.own.resolve_left h1;have hc:cot cs (h:Int)=cc cs (h-1):=by rw [cot,if_pos (by omega),show ((h:Int)-1).toNat=h-1 by omega]
 rw [hc,Zac,sdC,if_neg h1] at q;unfold Go.Proofs.YtlclabbnpjobgaaGreatDoor.own at ho;rw [List.count_nil] at ho;omega
theorem Rt.zero (cs:Lz):Rt cs 0 .emp:=⟨rfl,fun k=>absurd k (by show ¬zc.kind=2;decide),.inl rfl⟩
def upE (E:List Ent) (K bs:Lq):List Ent:=(K,bs)::E.filter fun e=>!(e.1 == K)
theorem Zsr:∀(l:List Ent) (K bs:Lq),(l.Pairwise fun a b=>a.1≠b.1)→(K,bs)∈l→l.Perm (upE l K bs)
 | [],_,_,_,h=>by cases h
 | e::r,K,bs,hp,hm=>by
  obtain ⟨h1,h2⟩:=List.pairwise_cons.1 hp;unfold upE;rcases List.mem_cons.1 hm with q | q
  ·subst q;have hr:r.filter (fun e:Ent=>!(e.1 == K))=r:=List.filter_eq_self.2 (fun x hx=>by
    have:=h1 x hx;simp only [Bool.not_eq_true',beq_eq_false_iff_ne,ne_eq];exact fun e=>this e.symm)
   rw [List.filter_cons,if_neg (by simp),hr]
  ·have hne:e.1≠K:=h1 _ q;rw [List.filter_cons,if_pos (by simpa using hne)];exact (List.Perm.cons e (Zsr r K bs h2 q)).trans (List.Perm.swap _ _ _)
def costN (T:Tre) (K bs:Lq) (ss:List Nat):Nat:=if T.efin K=[(K,bs)] then 0 else 1+ss.length
structure PaIs (cs:Lz) (fr:List Nat) (T:Tre) (h:Nat) (K bs:Lq) (ss:List Nat) (top:Nat) (cs':Lz) (fr':List Nat) (T':Tre):Prop where
 rt:Rt cs' top T'
 ents:T'.ents.Perm (upE T.ents K bs)
 pos:1≤top
 own:∀i,own cs' [] i+(if h=i+1 then 1 else 0)=own cs [] i+(if top=i+1 then 1 else 0)
 keep:∀x X,IsT cs x X→(x=0∨0<cc cs' (x-1))→IsT cs' x X
 noc:noc cs'≤noc cs+costN T K bs ss
 same:T.efin K=[(K,bs)]→top=h∧cs'=cs∧fr'=fr
 just:h=0∨h∈ss→Go.Proofs.YtlclabbnpjobgaaGreatDoor.noc cs'=Go.Proofs.YtlclabbnpjobgaaGreatDoor.noc cs+costN T K bs ss
 new:T.efin K≠[(K,bs)]→cc cs (top-1)=0
 len:cs'.length≤cs.length+costN T K bs ss
def PaPost (w0:World) (S:List Nat) (g gs room:Nat) (cs:Lz) (fr:List Nat) (T:Tre) (h:Nat) (K bs:Lq) (ss:List Nat) (e:Ending) (w':World):Prop:=
 ∃(top:Nat) (cs':Lz) (fr':List Nat) (T':Tre),e=.returned (.tuple #[.int .i64 (top:Int),.int .i64 0])∧PaIs cs fr T h K bs ss top cs' fr' T'∧Hs w0 S w' g gs room cs' fr'
theorem Zwr (hT:IsT cs h T) {K bs:Lq} (hs:T.efin K=[(K,bs)]):h≠0:=fun e=>by
 subst e;cases T with
 | emp=>simp [Tre.efin] at hs
 | lf _ _=>have:=hT.1;omega
 | nd _ _ _ _ _=>have:=hT.1;omega
theorem Zuw (H:Hs w0 S w g gs room cs fr) {h:Nat} {T:Tre} (r:Rt cs h T) {K:Lq} (hK:Key K) {u:Value} {bs:Lq} (hu:Kq S w0 (fun w'=>Reads w' u bs)) (hL:Kq S w0 Laid) (hl:bs.length≤1024) (hb:∀i,own cs [] i≤1000000) (hf:noc cs+258≤room) {ss:List Nat} (hss:BesIs K T h ss):
  Kc 38 #[.pointer (some ⟨g,0,none⟩),.int .i64 (h:Int),.agg (B K),u] w (PaPost w0 S g gs room cs fr T h K bs ss):=by
 by_cases hsm:T.efin K=[(K,bs)]
 ·have h0:=Zwr r.tree hsm;refine (Zpe H h T r.tree K hK u bs (H.kq hu) (r.refuse hl) r.root hf hsm).mono ?_;rintro e w' ⟨rfl,b⟩;have hp:=Zsr T.ents K bs (Zbb H.2 T h r.tree).apart (Zds K T _ (by rw [hsm];simp));exact ⟨h,cs,fr,T,rfl,⟨r,hp,by omega,fun _=>rfl,fun x X hX _=>hX,Nat.le_add_right _ _,fun _=>⟨rfl,rfl,rfl⟩,fun _=>by simp [costN,hsm],fun q=>absurd hsm q,Nat.le_add_right _ _⟩,H.grow b⟩
 ·have hbo:BesOk cs T.ents K ss:=by
   obtain ⟨ss2,b1,b2⟩:=Zqg H.2 K hK r.tree r.dp;have:ss=ss2:=by
    rcases hss with ⟨e1,e2⟩ | ⟨b,e1,e2⟩ | ⟨k,b,c,e1,e2,e3,e4,e5,e6⟩ <;> rcases b1 with ⟨f1,f2⟩ | ⟨b',f1,f2⟩ | ⟨k',b',c',f1,f2,f3,f4,f5,f6⟩
    ·rw [e2,f2]
    ·rw [e2,f2]
    ·rw [e1] at f1;cases f1
    ·rw [e2,f2]
    ·rw [e2,f2]
    ·rw [e1] at f1;injection f1 with f1 _;injection f1 with f1 _;exact absurd f1.symm f2
    ·rw [e1] at f1;cases f1
    ·rw [e1] at f1;injection f1 with f1 _;injection f1 with f1 _;exact absurd f1 e2
    ·rw [e1] at f1;injection f1 with f1 _;injection f1 with f1 _;subst f1;rw [e6,f6,e3.one f3]
   rw [this];exact b2
  obtain ⟨_,hr1,hr2⟩:=H.sizes;have hct:∀i,cc cs i+257<1073741824:=fun i=>by
   have:=H.2.ccLe i 1000000 (hb i);omega
  refine (Zuv H h T r.tree K hK u bs hu hL (r.refuse hl) hl r.root r.own hf hsm ss hss hbo hct).mono ?_;rintro e w' ⟨top,cs',fr',rfl,_,p,hh⟩;obtain ⟨U,u1,u2⟩:=p.tree;refine ⟨top,cs',fr',U,rfl,⟨⟨u1,p.dp,.inr ?_⟩,u2,p.new.1,p.own,p.keep,by rw [costN,if_neg hsm];exact p.noc,fun q=>absurd q hsm,fun q=>by rw [costN,if_neg hsm];exact p.just q,fun _=>p.new.2,by rw [costN,if_neg hsm];exact p.len⟩,hh⟩;have h1:=p.own (top-1);have h2:=p.new;rw [if_pos (show top=top-1+1 by omega)] at h1
  by_cases e:h=top-1+1
  ·exfalso;have ho:=r.own.resolve_left (by omega);rw [show h-1=top-1 by omega] at ho;unfold Go.Proofs.YtlclabbnpjobgaaGreatDoor.own at ho;omega
  ·rw [if_neg e] at h1;omega
theorem Ybm (H:Hs w0 S w g gs room cs fr) {h:Nat} {T:Tre} (r:Rt cs h T) {K:Lq} (hK:Key K) {u:Value} {bs:Lq} (hu:Reads w u bs) (hl:bs.length≤1024) (hb:∀i,own cs [] i≤1000000) {ss:List Nat} (hss:BesIs K T h ss) (h256:ss.length≤256):
  Kc 96 #[.pointer (some ⟨g,0,none⟩),.int .i64 (h:Int),.agg (B K),u] w fun e w'=>e=.returned (.tuple #[.int .i64 (costN T K bs ss:Int),.int .i64 0])∧Kb w w':=by
 by_cases hsm:T.efin K=[(K,bs)]
 ·rw [costN,if_pos hsm];exact Zwx H h T r.tree K hK u bs hu (r.refuse hl) r.root hsm
 ·rw [costN,if_neg hsm];obtain ⟨_,hr1,hr2⟩:=H.sizes;exact Ybk H h T r.tree K hK u bs hu (r.refuse hl) r.root hsm ss hss h256 (fun i=>by have:=H.2.ccLe i 1000000 (hb i);omega)
theorem Rt.bes (r:Rt cs h T) (W:Wf cs []) {K:Lq} (hK:Key K):∃ss,BesIs K T h ss∧ss.length≤256:=by
 obtain ⟨ss,b1,b2⟩:=Zqg W K hK r.tree r.dp;exact ⟨ss,b1,b2.len⟩
theorem Yck (room:Nat) (w:World) (h1:1≤room) (h2:room≤65536):Kc 37 #[.int .i64 (room:Int)] w fun e w'=>∃g gs,e=.returned (.tuple #[.pointer (some ⟨g,0,none⟩),.int .i64 0])∧Hs w [] w' g gs room [] []:=by
 refine (Yei room w h1 h2).mono ?_;rintro e w' ⟨g,gs,rfl,hg,hgs,s,b⟩;refine ⟨g,gs,rfl,⟨_,_,s,Mod.of_below b _,fun k hk=>.inr ?_⟩,Wf.new⟩;rcases Zcb.1 hk with rfl | hk | ⟨i,hk⟩
 ·exact hg
 ·rcases Zaa.1 hk with rfl | hk | hk
  ·exact hgs
  ·cases hk
  ·cases hk
 ·simp only [ce,List.getElem?_nil,Option.getD_none] at hk;cases hk
theorem Ycg {P:World→Prop} (h:∀w',Kb w w'→P w'):Kq [] w P:=fun w' m=>h w' m.below0
theorem Hs.low (h:Hs w [] w' g gs room cs fr):Kb w w':=h.mod.below0
theorem Yfn:Tryz.prog.built 48 []=some (B z32):=by kernel_rfl
theorem Rt.one (r:Rt cs h T) (W:Wf cs []) {e:Ent} (he:T.ents.Perm [e]):T=.lf e.1 e.2:=by
 have hl:=he.length_eq
 match T,r.tree with
 | .emp,_=>simp [Tre.ents] at hl
 | .lf k b,_=>
  have:=he.mem_iff.1 (show ((k,b):Ent)∈[(k,b)] by simp);rw [← List.mem_singleton.1 this]
 | .nd d hl' hr L R,hT=>
  have h2:=(Zit W hT).two;rw [show (Tre.nd d hl' hr L R).ents=L.ents++R.ents from rfl] at hl;simp only [List.length_singleton] at hl;omega
theorem Zzq {ss:List Nat} {T':Tre} (hss:BesIs K .emp 0 ss) (p:PaIs cs fr .emp 0 K bs ss top cs' fr' T'):T'.ents.Perm [(K,bs)]∧noc cs'=noc cs+1∧cs'.length≤cs.length+1:=by
 have e:ss=[]:=by
  rcases hss with ⟨_,e⟩ | ⟨b,e,_⟩ | ⟨k,b,c,e,_⟩
  ·exact e
  ·cases e
  ·cases e
 subst e;exact ⟨p.ents,p.just (.inl rfl),p.len⟩
theorem Zvb {k b:Lq} {ss:List Nat} {T':Tre} (hc:IsCommon K k c) (hne:k≠K) (hss:BesIs K (.lf k b) h ss) (p:PaIs cs fr (.lf k b) h K bs ss top cs' fr' T'):T'.ents.Perm [(K,bs),(k,b)]∧noc cs'=noc cs+(c+2)∧costN (.lf k b) K bs ss=c+2∧cs'.length≤cs.length+(c+2):=by
 have e:ss=besX [] c h:=by
  rcases hss with ⟨e,_⟩ | ⟨b',e,_⟩ | ⟨k',b',c',e1,_,e3,_,_,e6⟩
  ·cases e
  ·injection e with e _;injection e with e _;exact absurd e hne
  ·injection e1 with e1 _;injection e1 with e1 _;subst e1;rw [e6,hc.one e3];rfl
 have hl:ss.length=c+1:=by rw [e,Zdb _ _ _ (by simp)]
 have hcst:costN (.lf k b) K bs ss=c+2:=by
  have: ¬((Tre.lf k b).efin K=[(K,bs)]):=fun q=>by
   injection q with q _;injection q with q _;exact hne q
  rw [costN,if_neg this,hl];omega
 refine ⟨?_,?_,hcst,by rw [← hcst];exact p.len⟩
 ·have:=p.ents;unfold upE at this;rw [show (Tre.lf k b).ents=[(k,b)] from rfl,List.filter_cons,if_pos (by simpa using hne),List.filter_nil] at this;exact this
 ·rw [← hcst];exact p.just (.inr (by rw [e];simp [besX]))
def Aw (w:World) (S:List Nat) (w':World) (g gs room r n m:Nat) (es:List Ent):Prop:=∃cs fr T,Hs w S w' g gs room cs fr∧Rt cs r T∧T.ents.Perm es∧noc cs=n∧(∀i,own cs [] i≤m)∧cs.length≤n
theorem Zvc (i:Nat):own [] [] i=0:=by simp [own,cc]
theorem Hs.au (h:Hs w0 S w g gs room cs fr):Au w (.pointer (some ⟨g,0,none⟩)) cs:=⟨h.vw,h.2,by
 obtain ⟨_,h2,h3⟩:=h.sizes;omega,fun w' hb=>by
 obtain ⟨⟨vp,vf,s,_,_⟩,_⟩:=h.grow hb;exact Yey s⟩
def Ax (w:World) (S:List Nat) (w':World) (g gs room r n:Nat) (es:List Ent):Prop:=∃cs fr T,Hs w S w' g gs room cs fr∧Rt cs r T∧T.ents.Perm es∧noc cs=n∧(∀i,own cs [] i=if r=i+1 then 1 else 0)∧cs.length≤n
theorem Ax.grow {w'':World} (h:Ax w S w' g gs room r n es) (hb:Below w'.heap.size w' w''):Ax w S w'' g gs room r n es:=by
 obtain ⟨cs,fr,T,h1,h2⟩:=h;exact ⟨cs,fr,T,h1.grow hb,h2⟩
theorem Ax.low (h:Ax w [] w' g gs room r n es):Kb w w':=by
 obtain ⟨cs,fr,T,h1,h2⟩:=h;exact h1.low
theorem Ybt (hL:Kq S w Laid) (H:Hs w S w' g gs room [] []) (K:Lq) (hK:Key K) (hr:258≤room):Kc 38 #[.pointer (some ⟨g,0,none⟩),.int .i64 0,.agg (B K),.slice none 0 0] w' fun e w''=>∃r:Nat,e=.returned (.tuple #[.int .i64 (r:Int),.int .i64 0])∧Ax w S w'' g gs room r 1 [(K,[])]:=by
 obtain ⟨ss,hss,_⟩:=(Rt.zero []).bes Wf.new hK;refine (Zuw H (Rt.zero []) hK (u:=.slice none 0 0) (bs:=[]) (fun _ _=>Reads.nil _) hL (by simp) (fun i=>by rw [Zvc];omega) (by show 0+258≤room;omega) hss).mono ?_;rintro e w'' ⟨top,cs',fr',T',rfl,p,hh⟩;obtain ⟨q1,q2,q3⟩:=Zzq hss p;refine ⟨top,rfl,cs',fr',T',hh,p.rt,q1,by rw [q2];rfl,fun i=>?_,q3⟩;have:=p.own i;rw [Zvc,if_neg (show ¬0=i+1 by omega)] at this;omega
theorem Zxq (hL:Kq S w Laid) {k:Lq} (H:Ax w S w' g gs room r 1 [(k,[])]) (K:Lq) (hK:Key K) (hne:k≠K) (c:Nat) (hc:IsCommon K k c) (hr:259≤room):Kc 38 #[.pointer (some ⟨g,0,none⟩),.int .i64 (r:Int),.agg (B K),.slice none 0 0] w' fun e w''=>∃r':Nat,e=.returned (.tuple #[.int .i64 (r':Int),.int .i64 0])∧Ax w S w'' g gs room r' (c+3) [(K,[]),(k,[])]:=by
 obtain ⟨cs,fr,T,h1,h2,h3,h4,h5,h6⟩:=H;obtain rfl:=h2.one h1.2 h3;obtain ⟨ss,hss,_⟩:=h2.bes h1.2 hK;refine (Zuw h1 h2 hK (u:=.slice none 0 0) (bs:=[]) (fun _ _=>Reads.nil _) hL (by simp) (fun i=>by rw [h5 i];split <;> omega) (by omega) hss).mono ?_;rintro e w'' ⟨top,cs',fr',T',rfl,p,hh⟩;obtain ⟨q1,q2,q3,q4⟩:=Zvb hc hne hss p;refine ⟨top,rfl,cs',fr',T',hh,p.rt,q1,by omega,fun i=>?_,by omega⟩;have:=p.own i;rw [h5 i] at this;omega
theorem Yct (w:World) (hL:Laid w):Kc 23 #[] w fun e w'=>∃g gs r:Nat,e=.returned (.tuple #[.pointer (some ⟨g,0,none⟩),.int .i64 (r:Int)])∧Ax w [] w' g gs 600 r 3 [(kyB 128,[]),(z32,[])]:=by
 have HN:=Za (Yck 600 w (by omega) (by omega));have kz:Key z32:=⟨rfl,Zdx⟩;have k1:=Yen 128 (by omega) (by omega);have hne:z32≠kyB 128:=by decide
 have hc:IsCommon (kyB 128) z32 0:=⟨by omega,fun j hj=>by omega,fun _=>by decide⟩;have HB0:=Za Yfn;have HB1:=Za (Ybq 128);have H1:Hid (∀w' g gs,Hs w [] w' g gs 600 [] []→Kc 38 #[.pointer (some ⟨g,0,none⟩),.int .i64 0,.agg (B z32),.slice none 0 0] w' fun e w''=>∃r:Nat,e=.returned (.tuple #[.int .i64 (r:Int),.int .i64 0])∧Ax w [] w'' g gs 600 r 1 [(z32,[])]):=fun w' g gs h=>Ybt (Ycg fun _ hb=>hL.grow hb) h z32 kz (by omega)
 have H2:Hid (∀w' g gs r,Ax w [] w' g gs 600 r 1 [(z32,[])]→Kc 38 #[.pointer (some ⟨g,0,none⟩),.int .i64 (r:Int),.agg (B (kyB 128)),.slice none 0 0] w' fun e w''=>∃r':Nat,e=.returned (.tuple #[.int .i64 (r':Int),.int .i64 0])∧Ax w [] w'' g gs 600 r' 3 [(kyB 128,[]),(z32,[])]):=fun w' g gs r h=>Zxq (Ycg fun _ hb=>hL.grow hb) h (kyB 128) k1 hne 0 hc (by omega)
 generalize z32=Z at HB0 H1 H2 ⊢;generalize kyB 128=Y at HB1 H2 ⊢;clear hL kz k1 hne hc;go_enter Tryz.func23,Tryz.ntmps23
 go_wp2_with (first
  |(go_at_call 37;refine HN.out.mono ?_;rintro e w1 ⟨g,gs,rfl,h1⟩;have HH1:=Za h1;clear h1)
  |((with_reducible refine Zgu 12 ?_);refine Zas _ rfl _ _ rfl _ (by rw [List.map_toArray];exact HB0.out) ?_)
  |((with_reducible refine Zgu 19 ?_);refine Zas _ rfl _ _ rfl _ (by rw [List.map_toArray];exact HB1.out) ?_)
  |(go_at_call 38;have mk:=mp1;clear mk;refine (H2.out _ _ _ _ HA1.out).mono ?_;rintro e w4 ⟨r2,rfl,h4⟩;have HA2:=Za h4;clear h4)
  |(go_at_call 38;refine (H1.out _ _ _ HH1.out).mono ?_;rintro e w2 ⟨r1,rfl,h2⟩;have HA1:=Za h2;clear h2;have mp1:Hid True:=trivial))
 go_ret2;exact ⟨g,gs,r2,rfl,HA2.out⟩
theorem Ycl {cs:Lz} {r:Nat} (h:vRt true (cot cs r) (cat cs r) r=0):∀n,frE (cot cs) (cat cs) (zN (List.replicate n r))=0
 | 0=>rfl
 | n+1=>by
  show (if vRt true (cot cs r) (cat cs r) r=0 then _ else _)=0;rw [if_pos h];exact Ycl h n
theorem Ydj (h:Rt cs r T) (hl:r≠0→0<cc cs (r-1)) (n:Nat) (hn:n≤64):Rts cs (List.replicate n r):=⟨by
 rw [auE,if_neg (by rw [Zak,List.length_replicate];omega)];exact Ycl h.root n,fun x hx h0=>by
 obtain rfl:=(List.mem_replicate.1 hx).2;exact hl h0⟩
theorem Ybz (n:Nat) (hB:Blk w b 3 (R.map fun (x:Nat)=>Value.int .i64 (x:Int)).toArray) (hn:n=R.length) (c:Nat):Zs w (.slice (some ⟨b,0,none⟩) n c) (zN R):=by
 refine ⟨some ⟨b,0,none⟩,c,by rw [Zak,hn],fun k hk=>⟨b,0,rfl,?_⟩⟩;rw [Zak] at hk;rw [hB.cell,Yca R k hk];simp [hk]
theorem Zkw (h:Ax w S w' g gs room r 3 [(kyB 128,[]),(z32,[])]):∃cs,Au w' (.pointer (some ⟨g,0,none⟩)) cs∧(∀n,n≤64→Rts cs (List.replicate n r))∧(∀P,RdA cs [] P→(fnA cs P (slotsOf (cs.map pl))).length=3∧∀h∈fnA cs P (slotsOf (cs.map pl)),wnt P (h:Int)=0∧cc cs (h-1)=1)∧(∀P,RdA cs [r] P→fnA cs P (slotsOf (cs.map pl))=[])∧∀P,RdA cs [r,r] P→fnA cs P (slotsOf (cs.map pl))=[r]∧wnt P (r:Int)=2∧cc cs (r-1)=1:=by
 obtain ⟨cs,fr,T,h1,h2,h3,h4,h5,h6⟩:=h;have W:=h1.2;obtain ⟨r1,r2,r3,r4,r5⟩:=Zqt W h2.tree h2.dp h3 (by decide) (by decide) h6 h5;have wa:∀n P,RdA cs (List.replicate n r) P→0<n→∀i,wnt P ((i+1:Nat):Int)=(if r=i+1 then n else 0)+ns cs i:=fun n P hP hn i=>by
  have:=Zxz W hP (fun x hx h0=>by
   obtain rfl:=(List.mem_replicate.1 hx).2;exact r2) (Zun W hP (fun i hi=>by
   rw [h5 i] at hi
   by_cases e:r=i+1
   ·rw [← e];exact List.mem_replicate.2 ⟨by omega,rfl⟩
   ·rw [if_neg e] at hi;omega)) i
  rw [this,List.count_replicate];simp only [beq_iff_eq]
 have cw:∀i,cc cs i=ns cs i+(if r=i+1 then 1 else 0):=fun i=>by
  have c1:=W.own i;have c2:=W.ab i;rw [List.count_nil,h5 i] at c1;omega
 refine ⟨cs,h1.au,fun n hn=>Ydj h2 (fun _=>r2) n hn,fun P hP=>?_,fun P hP=>?_,fun P hP=>?_⟩
 ·obtain rfl:=Zzl hP;have e:fnA cs [] (slotsOf (cs.map pl))=slotsOf (cs.map pl):=by
   unfold fnA;rw [List.filter_eq_self];intro x hx;have:=((Zct cs x).1 hx).2;rw [Zmt];simp;omega
  rw [e];refine ⟨by rw [Zbf];exact r5,fun x hx=>⟨by rw [Zmt],r4 _ ((Zct cs x).1 hx).2⟩⟩
 ·unfold fnA;rw [List.filter_eq_nil_iff];intro x hx;obtain ⟨x0,hxc⟩:=(Zct cs x).1 hx;obtain ⟨i,rfl⟩:∃i,x=i+1:=⟨x-1,by omega⟩;have e1:=wa 1 P hP (by omega) i;have e2:=cw i;rw [Nat.add_sub_cancel] at hxc ⊢;rw [e1];simp only [decide_eq_true_eq,ne_eq,Classical.not_not];omega
 ·have hw2:wnt P (r:Int)=2:=by
   have:=wa 2 P hP (by omega) (r-1);rw [show r-1+1=r by omega,if_pos rfl,r3] at this;exact this
  refine ⟨?_,hw2,r4 _ r2⟩;have nd:(fnA cs P (slotsOf (cs.map pl))).Nodup:=(Zgy _).filter _;have pm:(fnA cs P (slotsOf (cs.map pl))).Perm [r]:=(List.perm_ext_iff_of_nodup nd (by simp)).2 (fun x=>by
   rw [fnA,List.mem_filter,Zct,List.mem_singleton];constructor
   ·rintro ⟨⟨x0,hxc⟩,hd⟩;obtain ⟨i,rfl⟩:∃i,x=i+1:=⟨x-1,by omega⟩;have e1:=wa 2 P hP (by omega) i;have e2:=cw i;rw [Nat.add_sub_cancel,e1] at hd;simp only [decide_eq_true_eq,ne_eq] at hd;apply Classical.byContradiction;intro q;rw [if_neg (fun z=>q z.symm)] at hd e2;omega
   ·rintro rfl;refine ⟨⟨by omega,r2⟩,?_⟩;rw [hw2,r4 _ r2];rfl)
  exact List.perm_singleton.1 pm
theorem Zwo (cs:Lz) (P:List Nat) (x:Nat) (L:List Nat):flF cs P (x::L)=.int .i64 (x:Int):: .int .i64 (wnt P (x:Int):Int):: .int .i64 (cc cs (x-1):Int)::flF cs P L:=rfl
theorem Yjb (z0 z1 z2:Int) (w:World):(Op.equalIn 10000 71 (.agg #[.int .i64 z0,.int .i64 z1,.int .i64 z2]) (.agg #[.int .i64 z0,.int .i64 z1,.int .i64 z2])).run Tryz.prog w=.ok true w:=by
 have hf : ∃ f0 f1 f2 : Field, (Tryz.prog.fieldsOf 71).toList = [f0, f1, f2] ∧ (f0.name ≠ "_" ∧ f0.type = 3 ∧ f0.offset = 0) ∧ (f1.name ≠ "_" ∧ f1.type = 3 ∧ f1.offset = 1) ∧ (f2.name ≠ "_" ∧ f2.type = 3 ∧ f2.offset = 2) :=
  ⟨_,_,_,rfl,⟨by decide,rfl,rfl⟩,⟨by decide,rfl,rfl⟩,⟨by decide,rfl,rfl⟩⟩
 obtain ⟨f0,f1,f2,hF,⟨n0,t0,o0⟩,⟨n1,t1,o1⟩,⟨n2,t2,o2⟩⟩:=hf;have hu:Tryz.prog.underlying 71=some (.struct (Tryz.prog.fieldsOf 71)):=by kernel_rfl
 have ek:∀z,(Op.equalIn 9999 3 (.int .i64 z) (.int .i64 z)).run Tryz.prog w=.ok true w:=fun z=>by rw [run_equalIn_int (P:=Tryz.prog) (w:=w) 9998 3 .i64 .i64 z z Tryz.underlying3];simp
 rw [run_equalIn_struct (P:=Tryz.prog) (w:=w) 9999 71 _ _ hu (by kernel_rfl),hF];have p:∀k (z:Int),(#[Value.int .i64 z0,.int .i64 z1,.int .i64 z2]:Array Value)[k]?=some (.int .i64 z)→(part 3 #[Value.int .i64 z0,.int .i64 z1,.int .i64 z2] k).run Tryz.prog w=.ok (.int .i64 z) w:=by
  intro k z hz;unfold part;rw [Sem.run_bind,Tryz.isAgg3 w];simp [hz]
 have p0:=p 0 z0 rfl;have p1:=p 1 z1 rfl;have p2:=p 2 z2 rfl;rw [Op.eqFields,if_pos n0,Op.eqFields,if_pos n1,Op.eqFields,if_pos n2,Op.eqFields];simp [t0,t1,t2,o0,o1,o2,p0,p1,p2,ek,Sem.run_bind]
theorem Yda:(Tryz.prog.info? 71).map (·.size)=some 3:=by kernel_rfl
theorem Zoh (w:World) (hL:Laid w):Kc 5 #[] w fun e w'=>e=.returned (.bool true)∧Kb w w':=by
 have HT:=Za (Yct w hL);have HC1:Hid (∀w' b g gs r,Ax w [] w' g gs 600 r 3 [(kyB 128,[]),(z32,[])]→Blk w' b 3 #[.int .i64 (r:Int)]→Kc 24 #[.pointer (some ⟨g,0,none⟩),.slice (some ⟨b,0,none⟩) 1 1] w' fun e w''=>∃a c,e=.returned (.tuple #[.slice a 0 c,.int .i64 0])∧Below w'.heap.size w' w''):=fun w' b g gs r h hB=>by
  obtain ⟨cs,A,hR,_,f1,_⟩:=Zkw h;refine (Zod A (hR 1 (by omega)) (Ybz (R:=[r]) 1 hB rfl 1)).mono ?_;rintro e w'' ⟨P,a,c,rfl,q1,q2,q3⟩;rw [f1 P q1];exact ⟨a,c,rfl,q3⟩
 have HC0:Hid (∀w' g gs r,Ax w [] w' g gs 600 r 3 [(kyB 128,[]),(z32,[])]→Kc 24 #[.pointer (some ⟨g,0,none⟩),.slice none 0 0] w' fun e w''=>∃b c,e=.returned (.tuple #[.slice (some ⟨b,0,none⟩) 3 c,.int .i64 0])∧w''.cell? ⟨b,1,none⟩=some (.int .i64 0)∧w''.cell? ⟨b,2,none⟩=some (.int .i64 1)∧Below w'.heap.size w' w''):=fun w' g gs r h=>by
  obtain ⟨cs,A,hR,f0,_,_⟩:=Zkw h;refine (Zod A (hR 0 (by omega)) (Yfv w')).mono ?_;rintro e w'' ⟨P,a,c,rfl,q1,q2,q3⟩;obtain ⟨f2,f3⟩:=f0 P q1
  match hF:fnA cs P (slotsOf (cs.map pl)),f2,f3 with
  | x::L,f2,f3=>
   obtain ⟨g1,g2⟩:=f3 x (by simp);rw [hF,f2] at q2;obtain ⟨b,c',e,_⟩:=Zat (Zu q2) (by omega);injection e with e1 e2 e3;subst e1;have z1:=Zay (Zu q2) 1 (by omega);have z2:=Zay (Zu q2) 2 (by omega);rw [Zwo] at z1 z2;rw [g1] at z1;rw [g2] at z2;rw [f2];exact ⟨b,c,rfl,z1,z2,q3⟩
 have HC2:Hid (∀w' b g gs r,Ax w [] w' g gs 600 r 3 [(kyB 128,[]),(z32,[])]→Blk w' b 3 #[.int .i64 (r:Int),.int .i64 (r:Int)]→Kc 24 #[.pointer (some ⟨g,0,none⟩),.slice (some ⟨b,0,none⟩) 2 2] w' fun e w''=>∃b c,e=.returned (.tuple #[.slice (some ⟨b,0,none⟩) 1 c,.int .i64 0])∧w''.rangeAt b 0 [.int .i64 (r:Int),.int .i64 2,.int .i64 1]∧Below w'.heap.size w' w''):=fun w' b g gs r h hB=>by
  obtain ⟨cs,A,hR,_,_,f0⟩:=Zkw h;refine (Zod A (hR 2 (by omega)) (Ybz (R:=[r,r]) 2 hB rfl 2)).mono ?_;rintro e w'' ⟨P,a,c,rfl,q1,q2,q3⟩;obtain ⟨f1,f2,f3⟩:=f0 P q1;rw [f1] at q2 ⊢;obtain ⟨b,c',e,_⟩:=Zat (Zu q2) (by simp);injection e with e1 e2 e3;subst e1;refine ⟨b,c,rfl,fun j u hu=>?_,q3⟩;have hj:j<3:=by
   have:=(List.getElem?_eq_some_iff.1 hu).1;simpa using this
  rw [Nat.zero_add,Zay (Zu q2) j (by simp;omega),Zwo,f2,f3];exact hu
 have HEQ:=Za Yjb;clear hL;generalize [(kyB 128,[]),(z32,([]:Lq))]=es at HT HC1 HC0 HC2;go_enter Tryz.func5,Tryz.ntmps5
 go_wp2_with (first
  |(go_at_call 23;refine HT.out.mono ?_;rintro e w1 ⟨g,gs,r,rfl,h1⟩;have HA1:=Za h1;have HA2:=Za (h1.grow (Zc w1 (.cells #[.int .i64 (r:Int)] 3)));clear h1)
  |(go_at_call 24;have mk:=mk2;clear mk;refine (HC2.out _ _ _ _ _ HA5.out (Blk.new _ _ _)).mono ?_;rintro e w4 ⟨b2,c2,rfl,r4,b4⟩;have HR4:=Za r4;have HW4:=Za (Zb HA5.out.low b4);have z1:=Zx b4 (Zx (Zc w3 (.cells #[.int .i64 (r:Int),.int .i64 (r:Int)] 3)) HZ1.out);have z2:=Zx b4 (Zx (Zc w3 (.cells #[.int .i64 (r:Int),.int .i64 (r:Int)] 3)) HZ2.out);have hq:=HEQ.out (r:Int) 2 1;clear r4 b4)
  |((with_reducible refine Zk 75 74 ?_);refine Zbn _ rfl _ _ rfl b2 0 rfl [.int .i64 (r:Int),.int .i64 2,.int .i64 1] _ HR4.out Tryz.underlying71 rfl Yda ?_)
  |(go_at_call 24;have mk:=mk1;clear mk;refine (HC0.out _ _ _ _ HA3.out).mono ?_;rintro e w3 ⟨b1,c1,rfl,z1,z2,b3⟩;have HZ1:=Za z1;have HZ2:=Za z2;have HA4:=Za (HA3.out.grow b3);have HA5:=Za ((HA3.out.grow b3).grow (Zc w3 (.cells #[.int .i64 (r:Int),.int .i64 (r:Int)] 3)));have mk2:Hid True:=trivial;clear z1 z2 b3)
  |(go_at_call 24;refine (HC1.out _ _ _ _ _ HA2.out (Blk.new _ _ _)).mono ?_;rintro e w2 ⟨a1,c0,rfl,b2⟩;have HA3:=Za (HA2.out.grow b2);have mk1:Hid True:=trivial;clear b2))
 go_ret;exact ⟨rfl,HW4.out⟩
end Go.Proofs.YtlclabbnpjobgaaGreatDoor
