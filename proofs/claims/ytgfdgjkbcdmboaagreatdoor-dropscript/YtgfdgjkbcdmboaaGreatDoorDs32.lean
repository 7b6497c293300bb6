/- Two rows of cells that differ in holds alone: what the document holds later than the program. No program in this text. -/
import Derived.Test.YtgfdgjkbcdmboaaGreatDoorDs31
namespace Go.Proofs.YtgfdgjkbcdmboaaGreatDoor
variable {E:List Ent}
variable {K bs:Lq}
variable {S S0 fr fr2:List Nat}
variable {cs cs0 cs2 csP csR:Lz}
variable {g gs m q room s top:Nat}
variable {mk:Bool}
variable {v:Value}
variable {w w0:World}
set_option maxHeartbeats 4000000
set_option maxRecDepth 20000
open Go.RowKit
structure Lag (cs csR:Lz) (L:List Nat):Prop where
 len:csR.length=cs.length
 lce:∀i,ce csR i=ce cs i
 lcc:∀i,cc cs i=cc csR i+L.count (i+1)
 occ:∀h∈L,h=0∨0<cc csR (h-1)
section
variable {cs csR:Lz} {L:List Nat} {fr:List Nat}
theorem Lag.frok (h:Lag cs csR L) (hF:FrOk cs fr):FrOk csR fr:=fun s hs=>by
 obtain ⟨a,b,c⟩:=hF s hs;have:=h.lcc (s-1);exact ⟨a,by rw [h.len];exact b,by omega⟩
theorem Lag.tk (h:Lag cs csR L) (fr:List Nat):tkH csR fr=tkH cs fr:=Zgz fr h.len
theorem Lag.full (h:Lag cs csR L) (room:Nat):Full room csR fr↔Full room cs fr:=by
 unfold Full;rw [h.len]
theorem Lag.sd (h:Lag cs csR L) (x:Nat):sdC csR x=sdC cs x∧sdD csR x=sdD cs x:=by
 unfold sdC sdD;rw [h.lce];exact ⟨rfl,rfl⟩
theorem Lag.own (h:Lag cs csR L) (i:Nat):own csR [] i=Go.Proofs.YtgfdgjkbcdmboaaGreatDoor.own cs [] i-L.count (i+1):=by
 unfold Go.Proofs.YtgfdgjkbcdmboaaGreatDoor.own;have:=h.lcc i;rw [h.lce,List.count_nil];omega
theorem Lag.fill (h:Lag cs csR L) {p:Nat×Ce} (hF:FrOk cs fr) (hp:0<p.1):Lag (tkC cs fr p) (tkC csR fr p) L:=by
 obtain ⟨t1,tk⟩:=Zgc hF p;obtain ⟨_,tkR⟩:=Zgc (h.frok hF) p;rw [h.tk fr] at tkR;refine ⟨by rw [tkR.len,tk.len,h.len],fun i=>by rw [tkR.ce,tk.ce,h.lce],fun i=>?_,fun x hx=>?_⟩
 ·rw [tkR.cc,tk.cc];have hl:=h.lcc i
  by_cases e:i=tkH cs fr-1
  ·rw [if_pos e,if_pos e];rw [e,tk.vac] at hl;rw [e];omega
  ·rw [if_neg e,if_neg e];exact hl
 ·rcases h.occ x hx with e | e
  ·exact .inl e
  ·right;rw [tkR.cc];split
   ·exact hp
   ·exact e
theorem Lag.start {ss:List Nat} (hm:HmOk cs ss csR) (hv:∀x∈ss,x=0∨0<cc cs (x-1)):Lag csR cs ss:=⟨hm.len.symm,fun i=>(hm.ce i).symm,hm.cc,hv⟩
theorem Lag.more (h:Lag cs csR (L++[s])) (hs:1≤s):0<cc csR (s-1)∧Lag cs (moreC csR (s-1)) L:=by
 have hi:0<cc csR (s-1):=(h.occ s (by simp)).resolve_left (by omega);refine ⟨hi,by rw [Zgl,h.len],fun i=>by rw [Zcl,h.lce],fun i=>?_,fun x hx=>?_⟩
 ·rw [Zdo hi,h.lcc i,List.count_append,List.count_singleton]
  by_cases e:s=i+1
  ·rw [if_pos (by simp [e]),if_pos (by omega)];omega
  ·rw [if_neg (by simpa using e),if_neg (by omega)];omega
 ·rcases h.occ x (by simp [hx]) with e | e
  ·exact .inl e
  ·right;rw [Zdo hi];omega
theorem Lag.skip (h:Lag cs csR (L++[0])):Lag cs csR L:=⟨h.len,h.lce,fun i=>by
 have:=h.lcc i;rw [List.count_append,List.count_singleton,if_neg (by simp)] at this;exact this,fun x hx=>h.occ x (by simp [hx])⟩
theorem Lag.end (h:Lag cs csR []):csR=cs:=by
 apply List.ext_getElem?;intro i
 by_cases hi:i<cs.length
 ·have h1:=h.lcc i;have h2:=h.lce i;unfold Go.Proofs.YtgfdgjkbcdmboaaGreatDoor.cc at h1;unfold Go.Proofs.YtgfdgjkbcdmboaaGreatDoor.ce at h2;rw [List.getElem?_eq_getElem hi,List.getElem?_eq_getElem (by rw [h.len];exact hi)] at *;simp only [Option.getD_some,List.count_nil,Nat.add_zero] at h1 h2;exact congrArg some (Prod.ext h1.symm h2)
 ·rw [List.getElem?_eq_none (by rw [h.len];omega),List.getElem?_eq_none (by omega)]
theorem Yke (cs:Lz) (l r i:Nat) (hl:l-1<cs.length∨l=0) (hr:r-1<cs.length∨r=0):ce (upA (upA cs l) r) i= { ce cs i with ab:=(ce cs i).ab+(if l=i+1 then 1 else 0)+(if r=i+1 then 1 else 0)}:=by
 have u1:=Zcp cs l;have uu:=u1.trans (Zcp (upA cs l) r);have hc:=uu.core i;rw [hc,Zfn _ r i (by rw [u1.len];exact hr),Zfn _ l i hl]
theorem Lag.inner (h:Lag cs csR L) (hF:FrOk cs fr) {cs':Lz} {d l r:Nat} (hl:l-1<cs.length∨l=0) (hr:r-1<cs.length∨r=0) (hI:InnR cs fr d l r cs'):∃csR',InnR csR fr d l r csR'∧Lag cs' csR' L:=by
 obtain ⟨KF,hKF,rfl⟩:=hI;obtain ⟨a1,a2⟩:=h.sd l;obtain ⟨b1,b2⟩:=h.sd r;refine ⟨_,⟨KF,by rw [a1,b1];exact hKF,rfl⟩,?_⟩;rw [a1,a2,b1,b2];have f:=h.fill (p:=(1,inC (inD (sdD cs l) (sdD cs r)) KF ((sdC cs l).sz+(sdC cs r).sz) d l r)) hF (by show (0:Nat)<1;omega);generalize (1,inC (inD (sdD cs l) (sdD cs r)) KF ((sdC cs l).sz+(sdC cs r).sz) d l r)=p at f;have tk:=(Zgc hF p).2;have hL:cs.length≤(tkC cs fr p).length:=by rw [tk.len];omega
 have hl2:l-1<(tkC cs fr p).length∨l=0:=by rcases hl with e | e;exact .inl (by omega);exact .inr e
 have hr2:r-1<(tkC cs fr p).length∨r=0:=by rcases hr with e | e;exact .inl (by omega);exact .inr e
 have u:=(Zcp (tkC cs fr p) l).trans (Zcp _ r);have v:=(Zcp (tkC csR fr p) l).trans (Zcp _ r);refine ⟨by rw [u.len,v.len,f.len],fun i=>?_,fun i=>by rw [u.cc,v.cc,f.lcc],fun x hx=>by rw [v.cc];exact f.occ x hx⟩;rw [Yke _ l r i hl2 hr2,Yke _ l r i (by rw [f.len];exact hl2) (by rw [f.len];exact hr2),f.lce]
end
theorem Zwl {L:List Nat} {t t2:Nat} (h:Rz K (L++[s]) cs fr t cs2 fr2 t2):∃cs1,InnR cs fr L.length (tl K L.length t s) (tr K L.length t s) cs1∧Rz K L cs1 fr.dropLast (tkH cs fr) cs2 fr2 t2:=by
 generalize hX:L++[s]=X at h;cases h with
 | done=>simp at hX
 | step h1 h2=>
  obtain ⟨rfl,e⟩:=List.append_inj' hX rfl;obtain rfl:s=_:=by simpa using e
  exact ⟨_,h1,h2⟩
theorem Yeb {t t2:Nat} (h:Rz K [] cs fr t cs2 fr2 t2):cs2=cs∧fr2=fr∧t2=t:=by
 generalize hX:([]:List Nat)=X at h;cases h with
 | done=>exact ⟨rfl,rfl,rfl⟩
 | step h1 h2=>simp at hX
structure RfI (cs0:Lz) (E:List Ent) (K bs:Lq) (ss:List Nat) (room m:Nat) (csP csR:Lz) (fr:List Nat) (top:Nat) (cs2:Lz) (fr2:List Nat) (topF:Nat):Prop where
 rz:Rz K (ss.take m) csP fr top cs2 fr2 topF
 ri:RzI cs0 E K bs ss m csP top
 lag:Lag csP csR (ss.take m)
 inv:Inv room (csP.map pl) fr
def csH (csR:Lz) (s:Nat):Lz:=if s=0 then csR else moreC csR (s-1)
theorem Zgd {ss:List Nat} (h:m<ss.length):ss.take (m+1)=ss.take m++[ss.getD m 0]:=by
 rw [List.take_add_one,List.getElem?_eq_getElem h,List.getD_eq_getElem?_getD,List.getElem?_eq_getElem h];rfl
structure RfS (csR:Lz) (fr:List Nat) (K:Lq) (m top s room:Nat):Prop where
 occ:s≠0→0<cc csR (s-1)
 ml:mayP (csH csR s) (tl K m top s:Int)
 mr:mayP (csH csR s) (tr K m top s:Int)
 fit:∃u,(u=true↔Und (sdC (csH csR s) (tl K m top s)).key (sdC (csH csR s) (tr K m top s)).key (m:Int))∧fitP m (sdC (csH csR s) (tl K m top s)) (sdC (csH csR s) (tr K m top s)) u=true
 full: ¬Full room (csH csR s) fr
theorem Zww {ss:List Nat} {topF:Nat} (b:BesOk cs0 E K ss) (hm:m<ss.length) (hroom:noc cs0+258≤room) (I:RfI cs0 E K bs ss room (m+1) csP csR fr top cs2 fr2 topF):
  RfS csR fr K m top (ss.getD m 0) room∧∃csP' csR',InnR (csH csR (ss.getD m 0)) fr m (tl K m top (ss.getD m 0)) (tr K m top (ss.getD m 0)) csR'∧RfI cs0 E K bs ss room m csP' csR' fr.dropLast (tkH (csH csR (ss.getD m 0)) fr) cs2 fr2 topF:=by
 obtain ⟨hml,hmr,u,hu,hf,next⟩:=Zwk b hm I.ri;have hF:=Zcw I.inv;have rz:=I.rz;have lag:=I.lag;rw [Zgd hm] at rz lag;obtain ⟨csP',hI,rz'⟩:=Zwl rz;have hlen:(ss.take m).length=m:=by rw [List.length_take];omega
 rw [hlen] at hI;obtain ⟨s,hs⟩:∃s,s=ss.getD m 0:=⟨_,rfl⟩;rw [← hs] at hml hmr hu hf next lag hI ⊢;have hold:(s≠0→0<cc csR (s-1))∧Lag csP (csH csR s) (ss.take m):=by
  unfold csH
  by_cases e:s=0
  ·rw [if_pos e];rw [e] at lag;exact ⟨fun q=>absurd e q,lag.skip⟩
  ·rw [if_neg e];obtain ⟨a,c⟩:=lag.more (by omega);exact ⟨fun _=>a,c⟩
 obtain ⟨h1,lagH⟩:=hold;have W:=I.ri.wf;have full: ¬Full room csP fr:=fun f=>by
  have h1:=I.inv.sum;have h2:=I.ri.noc;have h3:=b.len;rw [f.1,List.length_map] at h1;have:=f.2;unfold noc at h2 hroom;simp at h1;omega
 have ownH:∀i,own (csH csR s) [] i=own cs0 [] i+(if s=i+1 then 1 else 0)+(if top=i+1 then 1 else 0):=fun i=>by
  rw [lagH.own];have:=I.ri.own i;rw [Zgd hm,← hs,List.count_append,List.count_singleton] at this
  by_cases e:s=i+1
  ·rw [if_pos (by simp [e])] at this;rw [if_pos e];omega
  ·rw [if_neg (by simpa using e)] at this;rw [if_neg e];omega
 have mtop:mayP (csH csR s) (top:Int):=Zfa (.inr (by
  have:=ownH (top-1);have ht:=I.ri.new.1;rw [if_pos (show top=top-1+1 by omega)] at this;omega))
 have ms:mayP (csH csR s) (s:Int):=Zfa (by
  by_cases e:s=0
  ·exact .inl e
  ·right;have:=ownH (s-1);rw [if_pos (show s=s-1+1 by omega)] at this;omega)
 have mlr:mayP (csH csR s) (tl K m top s:Int)∧mayP (csH csR s) (tr K m top s:Int):=by
  unfold tl tr;split
  ·exact ⟨ms,mtop⟩
  ·exact ⟨mtop,ms⟩
 have hl:∀x:Nat,mayP csP (x:Int)→x-1<csP.length∨x=0:=fun x hx=>by
  rcases hx.side with e | ⟨_,e,_⟩
  ·exact .inr e
  ·exact .inl (Zbu e)
 obtain ⟨csR',hR,lag'⟩:=lagH.inner hF (hl _ hml) (hl _ hmr) hI;have hfH:∃u,(u=true↔Und (sdC (csH csR s) (tl K m top s)).key (sdC (csH csR s) (tr K m top s)).key (m:Int))∧fitP m (sdC (csH csR s) (tl K m top s)) (sdC (csH csR s) (tr K m top s)) u=true:=by
  rw [(lagH.sd _).1,(lagH.sd _).1];exact ⟨u,hu,hf⟩
 refine ⟨⟨h1,mlr.1,mlr.2,hfH,fun f=>full ((lagH.full room).1 f)⟩,csP',csR',hR,?_⟩;have W':Wf csP' []:=Zyd W hF (by have:=b.len;omega) hml hmr hu hf hI;rw [lagH.tk];exact ⟨rz',next fr csP' hF hI W',lag',Zjk I.inv full hI⟩
end Go.Proofs.YtgfdgjkbcdmboaaGreatDoor
namespace Go.Proofs.YtgfdgjkbcdmboaaGreatDoor
variable {E:List Ent}
variable {K bs:Lq}
variable {S S0 fr fr2:List Nat}
variable {cs cs0 cs2 csP csR:Lz}
variable {g gs m q room s top:Nat}
variable {mk:Bool}
variable {v:Value}
variable {w w0:World}
set_option maxHeartbeats 4000000
set_option maxRecDepth 20000
open Go.RowKit
section
variable {w0 w:World} {S:List Nat} {q room:Nat} {cs:Lz} {fr:List Nat}
theorem Zdx (h:Hr w0 S w q room cs fr) (x:Int):Kc 48 #[.pointer (some ⟨q,0,none⟩),.int .i64 x] w fun e w'=>e=.returned (.int .u8 (cat cs x).kind)∧Kb w w':=h.tell fun _ _ _ s R=>by
 have:=Yef s x;rwa [(Zbv R h.wf x).kind] at this
theorem Ygx (h:Hr w0 S w q room cs fr) (x:Int):Kc 91 #[.pointer (some ⟨q,0,none⟩),.int .i64 x] w fun e w'=>e=.returned (.int .i64 ((cot cs x-(cat cs x).ab:Nat):Int))∧Kb w w':=h.tell fun _ _ _ s R=>by
 have:=Yeg s x;rwa [(Zbv R h.wf x).own] at this
theorem Zrz (h:Hr w0 S w q room cs fr) (x:Int):Kc 67 #[.pointer (some ⟨q,0,none⟩),.int .i64 x] w fun e w'=>e=.returned (.tuple #[.int .i64 ((cat cs x).l:Int),.int .i64 ((cat cs x).r:Int)])∧Kb w w':=h.tell fun _ _ _ s R=>by
 have:=Zwq s x;rwa [(Zbv R h.wf x).l,(Zbv R h.wf x).r] at this
theorem Ygu (h:Hr w0 S w q room cs fr) (x:Int):Kc 93 #[.pointer (some ⟨q,0,none⟩),.int .i64 x] w fun e w'=>e=.returned (.int .i64 (vRt true (cot cs x) (cat cs x) x))∧Kb w w':=h.tell fun _ _ _ s R=>Yec s R h.wf x
theorem Zsa (h:Hr w0 S w q room cs fr) (h5:room≤5000) (x:Int):Kc 95 #[.pointer (some ⟨q,0,none⟩),.int .i64 x] w fun e w'=>e=.returned (.agg (B (cat cs x).key))∧Kb w w':=h.tell fun _ _ _ s R=>Yiv s R h.wf (by have:=h.inv.lenC;omega) x
theorem Yjn (h:Hr w0 S w q room cs fr) (h5:room≤5000):Kc 37 #[.pointer (some ⟨q,0,none⟩)] w fun e w'=>e=.returned (.int .i64 (noc cs:Int))∧Kb w w':=h.tell fun _ _ _ s R=>Yit s R h.wf (by have:=h.inv.lenC;omega)
theorem Ygv (h:Hr w0 S w q room cs fr):Kc 39 #[.pointer (some ⟨q,0,none⟩)] w fun e w'=>e=.returned (.int .i64 (room:Int))∧Kb w w':=h.tell fun _ _ _ s R=>(Yed s).mono fun e w' ⟨e1,e2⟩=>⟨e1,by rw [e2];exact Below.refl _ _⟩
theorem Zyg (h:Hr w0 S w q room cs fr):Kc 83 #[.pointer (some ⟨q,0,none⟩)] w fun e w'=>e=.returned (.bool false)∧Kb w w':=h.tell fun _ _ _ s R=>(Zab q w s.c0).mono fun e w' ⟨e1,e2⟩=>⟨e1,by rw [e2];exact Below.refl _ _⟩
theorem Hr.sizes (h:Hr w0 S w q room cs fr):noc cs≤room∧room≤65536∧cs.length≤room:=by
 have h1:=h.inv.sum;have h2:=h.inv.len;have h3:=h.inv.r2;rw [List.length_map] at h1 h2;unfold noc;omega
theorem Ziy (h:Hr w0 S w q room cs fr) (h5:room≤5000) (j:Int):Kc 56 #[.pointer (some ⟨q,0,none⟩),.int .i64 j] w fun e w'=>e=.returned (.bool (fitsN (noc cs) room j))∧Kb w w':=by
 have HR:=Za (Zyg h);have HO:Hid (Kr w 37 #[.pointer (some ⟨q,0,none⟩)] (.int .i64 (noc cs:Int))):=fun w' hb=>Yjn (h.grow hb) h5
 have HM:Hid (Kr w 39 #[.pointer (some ⟨q,0,none⟩)] (.int .i64 (room:Int))):=fun w' hb=>Ygv (h.grow hb)
 obtain ⟨h1,h2,_⟩:=h.sizes;generalize noc cs=n at HO h1 ⊢;clear h
 by_cases j0:j<0
 ·rw [show fitsN n room j=false by simp [fitsN];omega];have j0': ¬0≤j:=by omega
  clear h1 h2 h5;go_enter Tryz.func56,Tryz.ntmps56
  go_wp2_with (go_at_call 83;refine HR.out.mono ?_;rintro e w1 ⟨rfl,b1⟩;have HB:=Za b1;clear b1)
  go_ret;exact ⟨rfl,HB.out⟩
 by_cases j1:64<j
 ·rw [show fitsN n room j=false by simp [fitsN];omega];have j0':0≤j:=by omega
  have j1': ¬j≤64:=by omega
  clear h1 h2 h5;go_enter Tryz.func56,Tryz.ntmps56
  go_wp2_with (go_at_call 83;refine HR.out.mono ?_;rintro e w1 ⟨rfl,b1⟩;have HB:=Za b1;clear b1)
  go_ret;exact ⟨rfl,HB.out⟩
 obtain ⟨k,rfl⟩:∃k:Nat,j=(k:Int):=⟨j.toNat,by omega⟩;have hk:k≤64:=by omega
 have HV:Hid (fitsN n room (k:Int)=decide (((n:Int)+258 * (k:Int))≤(room:Int))):=by
  show _=_;unfold fitsN;congr 1
  apply propext;constructor
  ·exact fun q=>q.2.2
  ·exact fun q=>⟨by omega,by omega,q⟩
 have w1:wrap64 (258 * (k:Int))=258 * (k:Int):=Go.IntWalk.wrap64_in _ (by omega);have w2:wrap64 ((n:Int)+258 * (k:Int))=(n:Int)+258 * (k:Int):=Go.IntWalk.wrap64_in _ (by omega);have j2:(k:Int)≤64:=by omega
 have j3:(0:Int)≤(k:Int):=by omega
 rw [HV.out];clear HV j0 j1 h1 h2 h5;go_enter Tryz.func56,Tryz.ntmps56
 go_wp2_with (first
  |(go_at_call 83;refine HR.out.mono ?_;rintro e w1 ⟨rfl,b1⟩;have HB:=Za b1;clear b1)
  |(go_at_call 37;refine (HO.out _ HB.out).mono ?_;rintro e w2 ⟨rfl,b2⟩;replace HB:=Za (Zb HB.out b2);clear b2)
  |(go_at_call 39;refine (HM.out _ HB.out).mono ?_;rintro e w3 ⟨rfl,b3⟩;replace HB:=Za (Zb HB.out b3);clear b3))
 go_ret;exact ⟨rfl,HB.out⟩
theorem Zdm (V:Hr w0 S w q room cs fr) (h:Int):Kc 45 #[.pointer (some ⟨q,0,none⟩),.int .i64 h] w fun e w'=>e=.returned (.int .i64 (vAh true (cot cs h) (cat cs h) h))∧Kb w w':=by
 have HR:=Za (Ygu V h);have HH:Hid (Kr w 91 #[.pointer (some ⟨q,0,none⟩),.int .i64 h] (.int .i64 ((cot cs h-(cat cs h).ab:Nat):Int))):=fun w' hb=>Ygx (V.grow hb) h
 unfold vAh;generalize vRt true (cot cs h) (cat cs h) h=r at HR ⊢;generalize cot cs h-(cat cs h).ab=m at HH ⊢;clear V
 by_cases r0:r=0
 ·subst r0;rw [if_pos rfl]
  by_cases h0:h=0
  ·subst h0;rw [if_neg (by simp)];go_enter Tryz.func45,Tryz.ntmps45
   go_wp2_with (first
    |(go_at_call 93;refine HR.out.mono ?_;rintro e w1 ⟨rfl,b1⟩;have HB:=Za b1;clear b1))
   go_ret;exact ⟨rfl,HB.out⟩
  ·by_cases m0:m=0
   ·subst m0;rw [if_pos ⟨h0,rfl⟩];go_enter Tryz.func45,Tryz.ntmps45
    go_wp2_with (first
     |(go_at_call 93;refine HR.out.mono ?_;rintro e w1 ⟨rfl,b1⟩;have HB:=Za b1;clear b1)
     |(go_at_call 91;refine (HH.out _ HB.out).mono ?_;rintro e w2 ⟨rfl,b2⟩;replace HB:=Za (Zb HB.out b2);clear b2))
    go_ret;exact ⟨rfl,HB.out⟩
   ·rw [if_neg (fun e=>m0 e.2)];have m1: ¬(m:Int)=0:=by omega
    have m2:((m:Int) == 0)=false:=by simpa using m1
    have m3:(h != 0)=true:=by simpa using h0
    go_enter Tryz.func45,Tryz.ntmps45
    go_wp2_with (first
     |(go_at_call 93;refine HR.out.mono ?_;rintro e w1 ⟨rfl,b1⟩;have HB:=Za b1;clear b1)
     |(go_at_call 91;refine (HH.out _ HB.out).mono ?_;rintro e w2 ⟨rfl,b2⟩;replace HB:=Za (Zb HB.out b2);clear b2))
    go_ret;exact ⟨rfl,HB.out⟩
 ·rw [if_neg r0];go_enter Tryz.func45,Tryz.ntmps45
  go_wp2_with (first
   |(go_at_call 93;refine HR.out.mono ?_;rintro e w1 ⟨rfl,b1⟩;have HB:=Za b1;clear b1))
  go_ret;exact ⟨rfl,HB.out⟩
theorem Zhd (V:Hr w0 S w q room cs fr) (h:Int) (a:Option Addr) (n c:Nat):Kc 190 #[.pointer (some ⟨q,0,none⟩),.int .i64 h,.slice a n c] w fun e w'=>e=.returned (.int .i64 (vRf true (cot cs h) (cat cs h) h n))∧Kb w w':=by
 have HR:=Za (Zyg V);have HA:Hid (Kr w 45 #[.pointer (some ⟨q,0,none⟩),.int .i64 h] (.int .i64 (vAh true (cot cs h) (cat cs h) h))):=fun w' hb=>Zdm (V.grow hb) h
 unfold vRf;rw [if_pos rfl];generalize vAh true (cot cs h) (cat cs h) h=r at HA ⊢;clear V
 by_cases hn:1024<n
 ·have hn1:(1024:Int)<(n:Int):=by omega
  rw [if_pos hn];clear hn;go_enter Tryz.func190,Tryz.ntmps190
  go_wp2_with (first
   |(go_at_call 83;refine HR.out.mono ?_;rintro e w1 ⟨rfl,b1⟩;have HB:=Za b1;clear b1))
  go_ret;exact ⟨rfl,HB.out⟩
 ·have hn1: ¬(1024:Int)<(n:Int):=by omega
  rw [if_neg hn];clear hn;go_enter Tryz.func190,Tryz.ntmps190
  go_wp2_with (first
   |(go_at_call 83;refine HR.out.mono ?_;rintro e w1 ⟨rfl,b1⟩;have HB:=Za b1;clear b1)
   |(go_at_call 45;refine (HA.out _ HB.out).mono ?_;rintro e w2 ⟨rfl,b2⟩;replace HB:=Za (Zb HB.out b2);clear b2))
  go_ret;exact ⟨rfl,HB.out⟩
theorem Zlu (V:Hr w0 S w q room cs fr) (K:Lq) (hK:Key K) (d:Nat) (hd:d<256) (h:Int):Kc 49 #[.pointer (some ⟨q,0,none⟩),.agg (B K),.int .i64 (d:Int),.int .i64 h] w fun e w'=>e=.returned (.int .i64 ((if kb K d=1 then (cat cs h).l else (cat cs h).r:Nat):Int))∧Kb w w':=by
 have HSd:Hid (Kr w 67 #[.pointer (some ⟨q,0,none⟩),.int .i64 h] (.tuple #[.int .i64 ((cat cs h).l:Int),.int .i64 ((cat cs h).r:Int)])):=fun w' hb=>Zrz (V.grow hb) h
 have HBt:Hid (∀w',Kc 106 #[.agg (B K),.int .i64 (d:Int)] w' fun e w''=>e=.returned (.int .i64 (kb K d))∧Below w'.heap.size w' w''):=fun w'=>Zft K d w' hK hd
 have HPS:Hid ((Tryz.prog.info? 34).map (·.size)=some (B K).size):=by show _=_;rw [Zj,hK.1];exact Zi
 generalize (cat cs h).l=l at HSd ⊢;generalize (cat cs h).r=r at HSd ⊢;generalize kb K d=kd at HBt ⊢;clear V hK
 by_cases k1:kd=1
 ·subst k1;rw [if_pos rfl];go_enter Tryz.func49,Tryz.ntmps49
  go_wp2_with (first
   |((with_reducible refine Zl 5 ?_);refine Zc _ rfl _ _ rfl _ rfl ?_;intro w1 b5 hg5 hl5 B5 q5;have HB5:=Za B5;have HQ:=Za q5;clear hg5 hl5 B5 q5)
   |(go_at_call 67;refine (HSd.out _ HQ.out).mono ?_;rintro e w2 ⟨rfl,b2⟩;replace HQ:=Za (Zb HQ.out b2);have HB6:=Za (HB5.out.grow b2);clear b2)
   |((with_reducible refine Zk 17 5 ?_);refine Zd _ rfl _ _ rfl b5 _ rfl HB6.out _ _ Tryz.underlying34 HPS.out ?_)
   |(go_at_call 106;refine (HBt.out _).mono ?_;rintro e w3 ⟨rfl,b3⟩;replace HQ:=Za (Zb HQ.out b3);clear b3))
  go_ret;exact ⟨rfl,HQ.out⟩
 ·rw [if_neg k1];go_enter Tryz.func49,Tryz.ntmps49
  go_wp2_with (first
   |((with_reducible refine Zl 5 ?_);refine Zc _ rfl _ _ rfl _ rfl ?_;intro w1 b5 hg5 hl5 B5 q5;have HB5:=Za B5;have HQ:=Za q5;clear hg5 hl5 B5 q5)
   |(go_at_call 67;refine (HSd.out _ HQ.out).mono ?_;rintro e w2 ⟨rfl,b2⟩;replace HQ:=Za (Zb HQ.out b2);have HB6:=Za (HB5.out.grow b2);clear b2)
   |((with_reducible refine Zk 17 5 ?_);refine Zd _ rfl _ _ rfl b5 _ rfl HB6.out _ _ Tryz.underlying34 HPS.out ?_)
   |(go_at_call 106;refine (HBt.out _).mono ?_;rintro e w3 ⟨rfl,b3⟩;replace HQ:=Za (Zb HQ.out b3);clear b3))
  go_ret;exact ⟨rfl,HQ.out⟩
theorem Yee (V0:Hr w0 S w q room cs fr) (h5:room≤5000) (K:Lq) (hK:Key K) (d node other:Nat) (hd:d<256) (hml:mayP cs (tl K d node other:Int)) (hmr:mayP cs (tr K d node other:Int)) (u:Bool) (hu:u=true↔Und (sdC cs (tl K d node other)).key (sdC cs (tr K d node other)).key (d:Int)) (hf:fitP d (sdC cs (tl K d node other)) (sdC cs (tr K d node other)) u=true) (hfu: ¬Full room cs fr) {cs':Lz} (hI:InnR cs fr d (tl K d node other) (tr K d node other) cs'):Kc 115 #[.pointer (some ⟨q,0,none⟩),.agg (B K),.int .i64 (d:Int),.int .i64 (node:Int),.int .i64 (other:Int)] w fun e w'=>e=.returned (.int .i64 (tkH cs fr:Int))∧Hr w0 S w' q room cs' fr.dropLast:=by
 have HIn:Hid (∀w',Kb w w'→Kc 129 #[.pointer (some ⟨q,0,none⟩),.int .i64 (d:Int),.int .i64 (tl K d node other:Int),.int .i64 (tr K d node other:Int)] w' fun e w''=>e=.returned (.tuple #[.int .i64 (tkH cs fr:Int),.int .i64 0])∧Hr w0 S w'' q room cs' fr.dropLast):=fun w' hb=>Ycn (V0.grow hb) h5 d _ _ hd hml hmr u hu hf hfu hI
 have HBt:Hid (∀w',Kc 106 #[.agg (B K),.int .i64 (d:Int)] w' fun e w''=>e=.returned (.int .i64 (kb K d))∧Below w'.heap.size w' w''):=fun w'=>Zft K d w' hK hd
 have HPS:Hid ((Tryz.prog.info? 34).map (·.size)=some (B K).size):=by show _=_;rw [Zj,hK.1];exact Zi
 obtain ⟨R,hR⟩:∃R:World→Prop,R=fun w''=>Hr w0 S w'' q room cs' fr.dropLast:=⟨_,rfl⟩
 replace HIn:Hid (∀w',Kb w w'→Kc 129 #[.pointer (some ⟨q,0,none⟩),.int .i64 (d:Int),.int .i64 (tl K d node other:Int),.int .i64 (tr K d node other:Int)] w' fun e w''=>e=.returned (.tuple #[.int .i64 (tkH cs fr:Int),.int .i64 0])∧R w''):=by rw [hR];exact HIn
 have HPost:Hid (∀w'',R w''→Hr w0 S w'' q room cs' fr.dropLast):=fun w'' h=>by rw [hR] at h;exact h
 unfold tl tr at HIn;generalize (tkH cs fr:Int)=th at HIn ⊢;generalize kb K d=kd at HBt HIn;clear V0 hK hml hmr hu hf hfu hI hR
 by_cases k1:kd=1
 ·subst k1;rw [if_pos rfl,if_pos rfl] at HIn;go_enter Tryz.func115,Tryz.ntmps115
  go_wp2_with (first
   |((with_reducible refine Zl 6 ?_);refine Zc _ rfl _ _ rfl _ rfl ?_;intro w1 b5 hg5 hl5 B5 q5;have HB5:=Za B5;have HQ:=Za q5;clear hg5 hl5 B5 q5)
   |((with_reducible refine Zk 17 6 ?_);refine Zd _ rfl _ _ rfl b5 _ rfl HB5.out _ _ Tryz.underlying34 HPS.out ?_)
   |(go_at_call 106;refine (HBt.out _).mono ?_;rintro e w3 ⟨rfl,b3⟩;replace HQ:=Za (Zb HQ.out b3);clear b3)
   |(go_at_call 129;refine (HIn.out _ HQ.out).mono ?_;rintro e w4 ⟨rfl,r4⟩;have HR4:=Za r4;clear r4))
  go_ret;exact ⟨rfl,HPost.out _ HR4.out⟩
 ·rw [if_neg k1,if_neg k1] at HIn;go_enter Tryz.func115,Tryz.ntmps115
  go_wp2_with (first
   |((with_reducible refine Zl 6 ?_);refine Zc _ rfl _ _ rfl _ rfl ?_;intro w1 b5 hg5 hl5 B5 q5;have HB5:=Za B5;have HQ:=Za q5;clear hg5 hl5 B5 q5)
   |((with_reducible refine Zk 17 6 ?_);refine Zd _ rfl _ _ rfl b5 _ rfl HB5.out _ _ Tryz.underlying34 HPS.out ?_)
   |(go_at_call 106;refine (HBt.out _).mono ?_;rintro e w3 ⟨rfl,b3⟩;replace HQ:=Za (Zb HQ.out b3);clear b3)
   |(go_at_call 129;refine (HIn.out _ HQ.out).mono ?_;rintro e w4 ⟨rfl,r4⟩;have HR4:=Za r4;clear r4))
  go_ret;exact ⟨rfl,HPost.out _ HR4.out⟩
end
end Go.Proofs.YtgfdgjkbcdmboaaGreatDoor
namespace Go.Proofs.YtgfdgjkbcdmboaaGreatDoor
variable {E:List Ent}
variable {K bs:Lq}
variable {S S0 fr fr2:List Nat}
variable {cs cs0 cs2 csP csR:Lz}
variable {g gs m q room s top:Nat}
variable {mk:Bool}
variable {v:Value}
variable {w w0:World}
set_option maxHeartbeats 4000000
set_option maxRecDepth 20000
open Go.RowKit
def WyPost9 (hs:List Nat) (fin:Nat) (w:World) (e:Ending) (w':World):Prop:=∃a c,e=.returned (.tuple #[.slice a hs.length c,.int .i64 (fin:Int)])∧w'.ownsRow w.heap.size 3 1 (.slice a hs.length c) hs.length (nats hs)∧Kb w w'
theorem Ztl (V:Hr w0 S w q room cs fr) (h:Nat) (T:Tre) (hT:IsT cs h T) (K:Lq) (hK:Key K) (hrd:(sdC cs h).kind=2→(sdC cs h).dp=0):Kc 46 #[.pointer (some ⟨q,0,none⟩),.int .i64 (h:Int),.agg (B K)] w (WyPost9 (T.hs K h) (T.fin K h) w):=by
 have HPS:Hid ((Tryz.prog.info? 34).map (·.size)=some (B K).size):=by show _=_;rw [Zj,hK.1];exact Zi
 have HV:=Za V;have HW:=Za V.wf;have HK:=Za hK;have HT:=Za hT;have HRD:=Za hrd;have HN:Hid ((T.hs K h).length≤256):=by
  show _≤_;rw [Tre.hs_oth];have:=(Zcu V.wf K T h 0 hT hrd (by omega)).2.2;omega
 have HPost:Hid (∀a c w',w'.ownsRow w.heap.size 3 1 (.slice a (T.hs K h).length c) (T.hs K h).length (nats (T.hs K h))→Kb w w'→WyPost9 (T.hs K h) (T.fin K h) w (.returned (.tuple #[.slice a (T.hs K h).length c,.int .i64 (T.fin K h:Int)])) w'):=fun a c w' h1 h2=>⟨a,c,rfl,h1,h2⟩
 obtain ⟨hh,hhe⟩:∃y:Int,y=(h:Int):=⟨_,rfl⟩;rw [← hhe];have HHE:=Za hhe;clear V hK hT hhe hrd;generalize HE:WyPost9 (T.hs K h) (T.fin K h) w=P at HPost ⊢;go_enter Tryz.func46,Tryz.ntmps46
 go_wp2_with (first
  |((with_reducible refine Zl 5 ?_);refine Zc _ rfl _ _ rfl _ rfl ?_;intro w2 b5 hg5 hl5 B5 q5;have HB52:=Za B5;have HQ2:=Za q5;clear hg5 hl5 B5 q5))
 go_loopw [8,9] (fun wv ev wr=>∃(pre:List Nat) (x:Nat) (U:Tre) (a:Option Addr) (n c:Nat),wv=.slice a n c∧ev=.int .i64 (x:Int)∧Hid (n=pre.length)∧Hid (wr.ownsRow w2.heap.size 3 1 (.slice a n c) n (nats pre))∧Hid (IsT cs x U∧pre++U.hs K x=T.hs K h∧U.fin K x=T.fin K h∧((sdC cs x).kind=2→(sdC cs x).dp=n))∧Hid (Kb w2 wr)) (fun wv _ _=>300-sLen wv)
 case atStart=>exact ⟨[],h,T,none,0,0,rfl,by rw [HHE.out],rfl,World.ownsRow_nil _ _ _ _,⟨HT.out,rfl,rfl,HRD.out⟩,Below.refl _ _⟩
 case round=>
  clear HT HHE HRD;obtain ⟨pre,x,U,a,n,c,rfl,rfl,hn,hO,hU,hB⟩:=hrel;have HVR:=Za (HV.out.grow (Zb HQ2.out hB.out));have hlen:n+(U.hs K x).length=(T.hs K h).length:=by
   have:=congrArg List.length hU.out.2.1;rw [List.length_append] at this;rw [hn.out];exact this
  have h256:=HN.out;have HKD:Hid (Kc 48 #[.pointer (some ⟨q,0,none⟩),.int .i64 (x:Int)] wr fun e w'=>e=.returned (.int .u8 (cat cs (x:Int)).kind)∧Kb wr w'):=Zdx HVR.out (x:Int);have HFin:Hid (U.hs K x=[]→U.fin K x=x→∀w',Kb wr w'→P (.returned (.tuple #[.slice a n c,.int .i64 (x:Int)])) w'):=fun e1 e2 w' hb=>by
   have q1:=hU.out.2.1;rw [e1,List.append_nil] at q1;have q2:=hU.out.2.2.1;rw [e2] at q2;have q3:=hn.out;have hO':=Zn (Zae hO.out HQ2.out.size) hb;rw [q3,q1] at hO';rw [q3,q1,q2];exact HPost.out a c w' hO' (Zb (Zb HQ2.out hB.out) hb)
  cases U with
  | emp=>
   have hx:x=0:=hU.out.1;have HKZ:Hid ((cat cs (x:Int)).kind=0):=by rw [hx];rfl
   rw [HKZ.out] at HKD;have HF:=Za (HFin.out rfl rfl);generalize (x:Int)=y at HKD HF ⊢;clear HFin HKZ hx hU hlen h256 HVR
   go_wp2_with (first
    |(go_at_call 48;refine HKD.out.mono ?_;rintro e w3 ⟨rfl,b3⟩;have HB3:=Za b3;clear b3))
   exact HF.out _ HB3.out
  | lf k b=>
   obtain ⟨h1,h2,h3,h4,h5⟩:=hU.out.1;have HKZ:Hid ((cat cs (x:Int)).kind=1):=by rw [Zeq h1];exact h3
   rw [HKZ.out] at HKD;have HF:=Za (HFin.out rfl rfl);generalize (x:Int)=y at HKD HF ⊢;clear HFin HKZ hU hlen h256 HVR h1 h2 h3 h4 h5
   go_wp2_with (first
    |(go_at_call 48;refine HKD.out.mono ?_;rintro e w3 ⟨rfl,b3⟩;have HB3:=Za b3;clear b3))
   exact HF.out _ HB3.out
  | nd d hl hr L R=>
   have hno:=Zlz HW.out hU.out.1;obtain ⟨h1,h2,h3,h4,h5,h6,h7,h8⟩:=hU.out.1;have hca:=Zeq (cs:=cs) h1;rw [show (cat cs (x:Int)).kind=2 by rw [hca];exact h3] at HKD;have hdn:d=n:=by
    have:=hU.out.2.2.2 (by rw [sdC,if_neg (by omega)];exact h3);rw [sdC,if_neg (by omega),h4] at this;exact this
   subst hdn;have HSD:Hid (Kr wr 67 #[.pointer (some ⟨q,0,none⟩),.int .i64 (x:Int)] (.tuple #[.int .i64 (hl:Int),.int .i64 (hr:Int)])):=fun w' hb=>by
    have:=Zrz (HVR.out.grow hb) (x:Int);rw [hca,h5,h6] at this;exact this
   have hdp:=hno.dp;have HKB:Hid (∀w',Kc 106 #[.agg (B K),.int .i64 (d:Int)] w' fun e w''=>e=.returned (.int .i64 (kb K d))∧Below w'.heap.size w' w''):=fun w'=>Zft K d w' HK.out hdp
   have hcut:(Tre.nd d hl hr L R).hs K x=x::(if kb K d=1 then R.hs K hr else L.hs K hl):=rfl;have hfi:(Tre.nd d hl hr L R).fin K x=(if kb K d=1 then R.fin K hr else L.fin K hl):=rfl;have HNX:Hid (∃U',IsT cs (if kb K d=1 then hr else hl) U'∧(pre++[x])++U'.hs K (if kb K d=1 then hr else hl)=T.hs K h∧U'.fin K (if kb K d=1 then hr else hl)=T.fin K h∧((sdC cs (if kb K d=1 then hr else hl)).kind=2→(sdC cs (if kb K d=1 then hr else hl)).dp=d+1)):=by
    have q1:=hU.out.2.1;have q2:=hU.out.2.2.1;rw [hcut] at q1;rw [hfi] at q2;show ∃_,_
    by_cases q:kb K d=1
    ·rw [if_pos q] at q1 q2 ⊢;exact ⟨R,h8,by rw [List.append_assoc];exact q1,q2,hno.kr⟩
    ·rw [if_neg q] at q1 q2 ⊢;exact ⟨L,h7,by rw [List.append_assoc];exact q1,q2,hno.kl⟩
   have hn256:d+1≤256:=by
    rw [hcut,List.length_cons] at hlen;omega
   have hw1:wrap64 (d:Int)=(d:Int):=Go.IntWalk.wrap64_in _ (by omega);generalize kb K d=kd at HKB HNX;obtain ⟨y,hy⟩:∃y:Int,y=(x:Int):=⟨_,rfl⟩;rw [← hy] at HKD HSD;rw [← hy];have HY:=Za hy;have H256:=Za hn256;clear HFin hU hlen h256 HVR h1 h2 h3 h4 h5 h6 h7 h8 hca hcut hfi hno hy hn256 hdp
   by_cases k1:kd=1
   ·subst k1;rw [if_pos rfl] at HNX;have HKB1:Hid (∀w',Kc 106 #[.agg (B K),.int .i64 (d:Int)] w' fun e w''=>e=.returned (.int .i64 1)∧Below w'.heap.size w' w''):=HKB;clear HKB
    go_wp2_with (first
     |(go_at_call 48;refine HKD.out.mono ?_;rintro e w3 ⟨rfl,b3⟩;have HB3:=Za b3;clear b3)
     |(go_at_call 67;refine (HSD.out _ HB3.out).mono ?_;rintro e w3b ⟨rfl,b3⟩;replace HB3:=Za (Zb HB3.out b3);have HO3:=Za ((Zn (Zn hO.out HB3.out) (Zh w3b (.cells #[.int .i64 y] 3))));clear b3)
     |(at_builtin;refine Zax _ rfl _ _ _ rfl w2.heap.size 3 1 8 Tryz.underlying30 Zak (by omega) _ d (nats pre) rfl HO3.out w3b.heap.size [Value.int .i64 y] rfl (Blk.new _ _ _) rfl (by intro u hu;simp at hu;subst hu;rfl) (by have:=H256.out;simp only [maxLen];omega) (by have:=H256.out;omega) (Nat.le_trans hB.out.size (Nat.le_trans HB3.out.size (by simp))) ?_;intro a4 c4 w4 o4 g4;have HO4:=Za o4;have HB4:=Za (Zal (Zb (Zb hB.out HB3.out) (Zh w3b (.cells #[.int .i64 y] 3))) HO3.out (Nat.le_refl _) g4);clear o4 g4)
     |((with_reducible refine Zk 28 5 ?_);refine Zd _ rfl _ _ rfl b5 _ rfl (HB52.out.grow HB4.out) _ _ Tryz.underlying34 HPS.out ?_)
     |(go_at_call 106;refine (HKB1.out _).mono ?_;rintro e w5 ⟨rfl,b5'⟩;have HB5:=Za b5';clear b5'))
    obtain ⟨U',hU1,hU2,hU3,hU4⟩:=HNX.out;have ho5:=Zn HO4.out HB5.out;rw [HY.out,← Zau] at ho5;exact ⟨⟨pre++[x],hr,U',a4,d+1,c4,rfl,rfl,by rw [List.length_append,List.length_singleton,← hn.out];exact rfl,ho5,⟨hU1,hU2,hU3,hU4⟩,Zb HB4.out HB5.out⟩,by have:=H256.out;simp only [sLen];omega⟩
   ·rw [if_neg k1] at HNX;have HKB1:Hid (∀w',Kc 106 #[.agg (B K),.int .i64 (d:Int)] w' fun e w''=>e=.returned (.int .i64 kd)∧Below w'.heap.size w' w''):=HKB;clear HKB
    go_wp2_with (first
     |(go_at_call 48;refine HKD.out.mono ?_;rintro e w3 ⟨rfl,b3⟩;have HB3:=Za b3;clear b3)
     |(go_at_call 67;refine (HSD.out _ HB3.out).mono ?_;rintro e w3b ⟨rfl,b3⟩;replace HB3:=Za (Zb HB3.out b3);have HO3:=Za ((Zn (Zn hO.out HB3.out) (Zh w3b (.cells #[.int .i64 y] 3))));clear b3)
     |(at_builtin;refine Zax _ rfl _ _ _ rfl w2.heap.size 3 1 8 Tryz.underlying30 Zak (by omega) _ d (nats pre) rfl HO3.out w3b.heap.size [Value.int .i64 y] rfl (Blk.new _ _ _) rfl (by intro u hu;simp at hu;subst hu;rfl) (by have:=H256.out;simp only [maxLen];omega) (by have:=H256.out;omega) (Nat.le_trans hB.out.size (Nat.le_trans HB3.out.size (by simp))) ?_;intro a4 c4 w4 o4 g4;have HO4:=Za o4;have HB4:=Za (Zal (Zb (Zb hB.out HB3.out) (Zh w3b (.cells #[.int .i64 y] 3))) HO3.out (Nat.le_refl _) g4);clear o4 g4)
     |((with_reducible refine Zk 28 5 ?_);refine Zd _ rfl _ _ rfl b5 _ rfl (HB52.out.grow HB4.out) _ _ Tryz.underlying34 HPS.out ?_)
     |(go_at_call 106;refine (HKB1.out _).mono ?_;rintro e w5 ⟨rfl,b5'⟩;have HB5:=Za b5';clear b5'))
    obtain ⟨U',hU1,hU2,hU3,hU4⟩:=HNX.out;have ho5:=Zn HO4.out HB5.out;rw [HY.out,← Zau] at ho5;exact ⟨⟨pre++[x],hl,U',a4,d+1,c4,rfl,rfl,by rw [List.length_append,List.length_singleton,← hn.out];exact rfl,ho5,⟨hU1,hU2,hU3,hU4⟩,Zb HB4.out HB5.out⟩,by have:=H256.out;simp only [sLen];omega⟩
end Go.Proofs.YtgfdgjkbcdmboaaGreatDoor
namespace Go.Proofs.YtgfdgjkbcdmboaaGreatDoor
variable {E:List Ent}
variable {K bs:Lq}
variable {S S0 fr fr2:List Nat}
variable {cs cs0 cs2 csP csR:Lz}
variable {g gs m q room s top:Nat}
variable {mk:Bool}
variable {v:Value}
variable {w w0:World}
set_option maxHeartbeats 4000000
set_option maxRecDepth 20000
open Go.RowKit
theorem Ygd {ct:Int→Nat} {ca:Int→Ce} (V:Vw w v mk ct ca) (h:Int) (K:Lq) (a:Option Addr) (n c:Nat) (e0:Int) (he:vRf mk (ct h) (ca h) h n=e0) (h0:e0≠0):Kc 135 #[v,.int .i64 h,.agg (B K),.slice a n c] w fun e w'=>e=.returned (.tuple #[.int .i64 0,.int .i64 e0])∧Kb w w':=by
 have HRF:Hid (Kr w 179 #[v,.int .i64 h,.slice a n c] (.int .i64 e0)):=fun w' hb=>by
  have:=Zby (V.grow hb) h a n c;rwa [he] at this
 clear V he;go_enter Tryz.func135,Tryz.ntmps135
 go_wp2_with (first
  |((with_reducible refine Zl 6 ?_);refine Zc _ rfl _ _ rfl _ rfl ?_;intro w1 b5 hg5 hl5 B5 q5;have HQ5:=Za q5;clear hg5 hl5 B5 q5)
  |(go_at_call 179;refine (HRF.out _ HQ5.out).mono ?_;rintro e w2 ⟨rfl,b2⟩;have HQ2:=Za (Zb HQ5.out b2);clear b2))
 go_ret2;exact ⟨rfl,HQ2.out⟩
theorem Ydg {ct:Int→Nat} {ca:Int→Ce} (V:Vw w v mk ct ca) (h:Int) (K:Lq) (a:Option Addr) (n c:Nat) (e0:Int) (he:vRf mk (ct h) (ca h) h n=e0) (h0:e0≠0):Kc 152 #[v,.int .i64 h,.agg (B K),.slice a n c] w fun e w'=>e=.returned (.tuple #[.int .i64 0,.int .i64 e0])∧Kb w w':=by
 have HRF:Hid (Kr w 179 #[v,.int .i64 h,.slice a n c] (.int .i64 e0)):=fun w' hb=>by
  have:=Zby (V.grow hb) h a n c;rwa [he] at this
 clear V he;go_enter Tryz.func152,Tryz.ntmps152
 go_wp2_with (first
  |((with_reducible refine Zl 6 ?_);refine Zc _ rfl _ _ rfl _ rfl ?_;intro w1 b5 hg5 hl5 B5 q5;have HQ5:=Za q5;clear hg5 hl5 B5 q5)
  |(go_at_call 179;refine (HRF.out _ HQ5.out).mono ?_;rintro e w2 ⟨rfl,b2⟩;have HQ2:=Za (Zb HQ5.out b2);clear b2))
 go_ret2;exact ⟨rfl,HQ2.out⟩
theorem Ybu (H:Hs w0 S w g gs room cs fr) (h:Int) (K:Lq) (a:Option Addr) (n c:Nat) (he:vRf true (cot cs h) (cat cs h) h n=0) (hf:room<noc cs+258):Kc 135 #[.pointer (some ⟨g,0,none⟩),.int .i64 h,.agg (B K),.slice a n c] w fun e w'=>e=.returned (.tuple #[.int .i64 0,.int .i64 9])∧Kb w w':=by
 have HRF:Hid (Kr w 179 #[.pointer (some ⟨g,0,none⟩),.int .i64 h,.slice a n c] (.int .i64 0)):=fun w' hb=>by
  have:=Zby (H.vw.grow hb) h a n c;rwa [he] at this
 have HFT:Hid (Kr w 50 #[.pointer (some ⟨g,0,none⟩),.int .i64 1] (.bool false)):=fun w' hb=>by
  have:=Zdf (H.grow hb) 1;rwa [show fitsN (noc cs) room 1=false by simp [fitsN];omega] at this
 clear H he hf;go_enter Tryz.func135,Tryz.ntmps135
 go_wp2_with (first
  |((with_reducible refine Zl 6 ?_);refine Zc _ rfl _ _ rfl _ rfl ?_;intro w1 b5 hg5 hl5 B5 q5;have HQ5:=Za q5;clear hg5 hl5 B5 q5)
  |(go_at_call 179;refine (HRF.out _ HQ5.out).mono ?_;rintro e w2 ⟨rfl,b2⟩;have HQ2:=Za (Zb HQ5.out b2);clear b2)
  |(go_at_call 50;refine (HFT.out _ HQ2.out).mono ?_;rintro e w3 ⟨rfl,b3⟩;have HQ3:=Za (Zb HQ2.out b3);clear b3))
 go_ret2;exact ⟨rfl,HQ3.out⟩
theorem Ybt (H:Hs w0 S w g gs room cs fr) (h:Nat) (T:Tre) (hT:IsT cs h T) (K:Lq) (hK:Key K) (u:Value) (bs:Lq) (hu:Reads w u bs) (he:vRf true (cot cs h) (cat cs h) h bs.length=0) (hr:vRt true (cot cs h) (cat cs h) h=0) (hf:noc cs+258≤room) (hsm:T.efin K=[(K,bs)]):Kc 135 #[.pointer (some ⟨g,0,none⟩),.int .i64 (h:Int),.agg (B K),u] w fun e w'=>e=.returned (.tuple #[.int .i64 (h:Int),.int .i64 0])∧Kb w w':=by
 have HPN:Hid (Kr w 180 #[.pointer (some ⟨g,0,none⟩),.int .i64 (h:Int),.agg (B K),u] (.tuple #[.slice none 0 0,.bool true,.int .i64 0])):=fun w' hb=>Znj (H.vw.grow hb) H.2 h T hT K hK hr u bs (hu.grow hb) hsm
 obtain ⟨a,c,hue,_⟩:=hu;subst hue;have HRF:Hid (Kr w 179 #[.pointer (some ⟨g,0,none⟩),.int .i64 (h:Int),.slice a bs.length c] (.int .i64 0)):=fun w' hb=>by
  have:=Zby (H.vw.grow hb) h a bs.length c;rwa [he] at this
 have HFT:Hid (Kr w 50 #[.pointer (some ⟨g,0,none⟩),.int .i64 1] (.bool true)):=fun w' hb=>by
  have:=Zdf (H.grow hb) 1;rwa [show fitsN (noc cs) room 1=true by simp [fitsN];omega] at this
 have HPS:Hid ((Tryz.prog.info? 34).map (·.size)=some (B K).size):=by show _=_;rw [Zj,hK.1];exact Zi
 generalize (h:Int)=hh at HPN HRF ⊢;generalize bs.length=n at HPN HRF ⊢;clear H he hf hT hK hr hsm;go_enter Tryz.func135,Tryz.ntmps135
 go_wp2_with (first
  |((with_reducible refine Zl 6 ?_);refine Zc _ rfl _ _ rfl _ rfl ?_;intro w1 b5 hg5 hl5 B5 q5;have HB5:=Za B5;have HQ5:=Za q5;clear hg5 hl5 B5 q5)
  |(go_at_call 179;refine (HRF.out _ HQ5.out).mono ?_;rintro e w2 ⟨rfl,b2⟩;have HQ2:=Za (Zb HQ5.out b2);have HB2:=Za (HB5.out.grow b2);clear b2)
  |(go_at_call 50;refine (HFT.out _ HQ2.out).mono ?_;rintro e w3 ⟨rfl,b3⟩;have HQ3:=Za (Zb HQ2.out b3);have HB3:=Za (HB2.out.grow b3);clear b3)
  |((with_reducible refine Zk 29 6 ?_);refine Zd _ rfl _ _ rfl b5 _ rfl HB3.out _ _ Tryz.underlying34 HPS.out ?_)
  |(go_at_call 180;refine (HPN.out _ HQ3.out).mono ?_;rintro e w4 ⟨rfl,b4⟩;have HQ4:=Za (Zb HQ3.out b4);clear b4))
 go_ret2;exact ⟨rfl,HQ4.out⟩
theorem Zzg (H:Hs w0 S w g gs room cs fr) (h:Nat) (T:Tre) (hT:IsT cs h T) (K:Lq) (hK:Key K) (u:Value) (bs:Lq) (hu:Reads w u bs) (he:vRf true (cot cs h) (cat cs h) h bs.length=0) (hr:vRt true (cot cs h) (cat cs h) h=0) (hsm:T.efin K=[(K,bs)]):Kc 152 #[.pointer (some ⟨g,0,none⟩),.int .i64 (h:Int),.agg (B K),u] w fun e w'=>e=.returned (.tuple #[.int .i64 0,.int .i64 0])∧Kb w w':=by
 have HPN:Hid (Kr w 180 #[.pointer (some ⟨g,0,none⟩),.int .i64 (h:Int),.agg (B K),u] (.tuple #[.slice none 0 0,.bool true,.int .i64 0])):=fun w' hb=>Znj (H.vw.grow hb) H.2 h T hT K hK hr u bs (hu.grow hb) hsm
 obtain ⟨a,c,hue,_⟩:=hu;subst hue;have HRF:Hid (Kr w 179 #[.pointer (some ⟨g,0,none⟩),.int .i64 (h:Int),.slice a bs.length c] (.int .i64 0)):=fun w' hb=>by
  have:=Zby (H.vw.grow hb) h a bs.length c;rwa [he] at this
 have HPS:Hid ((Tryz.prog.info? 34).map (·.size)=some (B K).size):=by show _=_;rw [Zj,hK.1];exact Zi
 generalize (h:Int)=hh at HPN HRF ⊢;generalize bs.length=n at HPN HRF ⊢;clear H he hT hK hr hsm;go_enter Tryz.func152,Tryz.ntmps152
 go_wp2_with (first
  |((with_reducible refine Zl 6 ?_);refine Zc _ rfl _ _ rfl _ rfl ?_;intro w1 b5 hg5 hl5 B5 q5;have HB5:=Za B5;have HQ5:=Za q5;clear hg5 hl5 B5 q5)
  |(go_at_call 179;refine (HRF.out _ HQ5.out).mono ?_;rintro e w2 ⟨rfl,b2⟩;have HQ2:=Za (Zb HQ5.out b2);have HB2:=Za (HB5.out.grow b2);clear b2)
  |((with_reducible refine Zk 24 6 ?_);refine Zd _ rfl _ _ rfl b5 _ rfl HB2.out _ _ Tryz.underlying34 HPS.out ?_)
  |(go_at_call 180;refine (HPN.out _ HQ2.out).mono ?_;rintro e w4 ⟨rfl,b4⟩;have HQ4:=Za (Zb HQ2.out b4);clear b4))
 go_ret2;exact ⟨rfl,HQ4.out⟩
theorem Ydf (H:Hs w0 S w g gs room cs fr) (h:Nat) (T:Tre) (hT:IsT cs h T) (K:Lq) (hK:Key K) (u:Value) (bs:Lq) (hu:Reads w u bs) (he:vRf true (cot cs h) (cat cs h) h bs.length=0) (hr:vRt true (cot cs h) (cat cs h) h=0) (hne:T.efin K≠[(K,bs)]) (ss:List Nat) (hss:BesIs K T h ss) (h256:ss.length≤256) (hct:∀i,cc cs i<1073741824):Kc 152 #[.pointer (some ⟨g,0,none⟩),.int .i64 (h:Int),.agg (B K),u] w fun e w'=>e=.returned (.tuple #[.int .i64 ((1+ss.length:Nat):Int),.int .i64 0])∧Kb w w':=by
 have HPN:Hid (∀w',Kb w w'→Kc 180 #[.pointer (some ⟨g,0,none⟩),.int .i64 (h:Int),.agg (B K),u] w' fun e w''=>∃a c,e=.returned (.tuple #[.slice a ss.length c,.bool false,.int .i64 0])∧w''.ownsRow w'.heap.size 3 1 (.slice a ss.length c) ss.length (nats ss)∧Below w'.heap.size w' w''):=fun w' hb=>Zrj (H.vw.grow hb) H.2 h T hT K hK hr u bs (hu.grow hb) hne ss hss h256 hct
 obtain ⟨a,c,hue,_⟩:=hu;subst hue;have HRF:Hid (Kr w 179 #[.pointer (some ⟨g,0,none⟩),.int .i64 (h:Int),.slice a bs.length c] (.int .i64 0)):=fun w' hb=>by
  have:=Zby (H.vw.grow hb) h a bs.length c;rwa [he] at this
 have HPS:Hid ((Tryz.prog.info? 34).map (·.size)=some (B K).size):=by show _=_;rw [Zj,hK.1];exact Zi
 generalize (h:Int)=hh at HPN HRF ⊢;generalize bs.length=n at HPN HRF ⊢;obtain ⟨sn,hsn⟩:∃sn,sn=ss.length:=⟨_,rfl⟩;rw [← hsn] at HPN h256 ⊢;have hw1:wrap64 (1+(sn:Int))=((1+sn:Nat):Int):=by rw [Go.IntWalk.wrap64_in _ (by omega)];omega
 clear H he hT hK hr hne hss hct hsn h256;go_enter Tryz.func152,Tryz.ntmps152
 go_wp2_with (first
  |((with_reducible refine Zl 6 ?_);refine Zc _ rfl _ _ rfl _ rfl ?_;intro w1 b5 hg5 hl5 B5 q5;have HB5:=Za B5;have HQ5:=Za q5;clear hg5 hl5 B5 q5)
  |(go_at_call 179;refine (HRF.out _ HQ5.out).mono ?_;rintro e w2 ⟨rfl,b2⟩;have HQ2:=Za (Zb HQ5.out b2);have HB2:=Za (HB5.out.grow b2);clear b2)
  |((with_reducible refine Zk 24 6 ?_);refine Zd _ rfl _ _ rfl b5 _ rfl HB2.out _ _ Tryz.underlying34 HPS.out ?_)
  |(go_at_call 180;refine (HPN.out _ HQ2.out).mono ?_;rintro e w4 ⟨sa,sc,rfl,o4,b4⟩;have HQ4:=Za (Zb HQ2.out b4);clear b4 o4))
 go_ret2;exact ⟨by first | rfl | (rw [← hw1];rfl),HQ4.out⟩
def PutTo (cs:Lz) (fr:List Nat) (root:Nat) (K bs:Lq) (ss:List Nat) (top:Nat) (cs':Lz) (fr':List Nat):Prop:=
 ∃(v':Value) (cs2:Lz) (fr2:List Nat),CeOk (lfC (lfD K (vaD bs)) K v' bs)∧Rz K ss (tkC (holdM cs ss) fr (1,lfC (lfD K (vaD bs)) K v' bs)) fr.dropLast (tkH (holdM cs ss) fr) cs2 fr2 top∧((root=0∧cs'=cs2∧fr'=fr2)∨(1≤root∧∃n,Run cs2 fr2 [root] cs' fr' n))
def PtPost (w0:World) (S:List Nat) (g gs room:Nat) (cs:Lz) (fr:List Nat) (E:List Ent) (root:Nat) (K bs:Lq) (ss:List Nat) (e:Ending) (w':World):Prop:=
 ∃(top:Nat) (cs':Lz) (fr':List Nat),e=.returned (.tuple #[.int .i64 (top:Int),.int .i64 0])∧PutTo cs fr root K bs ss top cs' fr'∧PutOk cs E K bs root top ss cs'∧Hs w0 S w' g gs room cs' fr'
theorem Zdg {ss:List Nat} (b:BesOk cs E K ss):∀x∈ss,x=0∨0<cc cs (x-1):=fun x hx=>by
 obtain ⟨d,hd,e⟩:=List.getElem_of_mem hx;obtain ⟨V,v1,_⟩:=b.side d hd;have:ss.getD d 0=x:=by rw [List.getD_eq_getElem?_getD,List.getElem?_eq_getElem hd];exact e
 rw [this] at v1;rcases v1.occ with q | q
 ·exact .inl q
 ·exact .inr q.2
theorem Ygc (H0:Hs w0 S0 w g gs room cs fr) (h:Nat) (T:Tre) (hT:IsT cs h T) (K:Lq) (hK:Key K) (u:Value) (bs:Lq) (hu0:Kq S0 w0 (fun w'=>Reads w' u bs)) (hL0:Kq S0 w0 Laid) (he:vRf true (cot cs h) (cat cs h) h bs.length=0) (hl:bs.length≤1024) (hr:vRt true (cot cs h) (cat cs h) h=0) (ho:h=0∨0<own cs [] (h-1)) (hf:noc cs+258≤room) (hne:T.efin K≠[(K,bs)]) (ss:List Nat) (hss:BesIs K T h ss) (hbo:BesOk cs T.ents K ss) (hct:∀i,cc cs i+257<1073741824):
  Kc 135 #[.pointer (some ⟨g,0,none⟩),.int .i64 (h:Int),.agg (B K),u] w (PtPost w0 S0 g gs room cs fr T.ents h K bs ss):=by
 have h256:=hbo.len;obtain ⟨S,H,hN,hkq,hS,hbk⟩:=H0.from
 have hu:=hkq _ hu0;have hL:=hkq _ hL0;have hW:=H.2;have hmk:=Zqh hW ss.length ss rfl (Zdg hbo);have HPN:Hid (∀w',Kb w w'→Kc 180 #[.pointer (some ⟨g,0,none⟩),.int .i64 (h:Int),.agg (B K),u] w' fun e w''=>∃a c,e=.returned (.tuple #[.slice a ss.length c,.bool false,.int .i64 0])∧w''.ownsRow w'.heap.size 3 1 (.slice a ss.length c) ss.length (nats ss)∧Below w'.heap.size w' w''):=fun w' hb=>Zrj (H.vw.grow hb) H.2 h T hT K hK hr u bs (hu.now.grow hb) hne ss hss h256 (fun i=>by have:=hct i;omega)
 have HHA:Hid (∀w4 a c,Kb w w4→w4.ownsRow w.heap.size 3 1 (.slice a ss.length c) ss.length (nats ss)→Kc 181 #[.pointer (some ⟨g,0,none⟩),.slice a ss.length c] w4 fun e w5=>e=.returned (.slice none 0 0)∧Hs w4 S w5 g gs room (holdM cs ss) fr):=fun w4 a c hb o=>Zjm (H.rebase hb) a _ c ss (Zdr o rfl (fun k hk hm=>by have:=(o.lt k hk).1;have:=hS k hm;omega)) rfl (by omega) (Zdg hbo) (fun _ i=>by have:=hct i;omega)
 have HRA:Hid (∀w4 a c w5,Kb w w4→w4.ownsRow w.heap.size 3 1 (.slice a ss.length c) ss.length (nats ss)→Hs w4 S w5 g gs room (holdM cs ss) fr→Kc 182 #[.pointer (some ⟨g,0,none⟩),.agg (B K),u,.slice a ss.length c] w5 fun e w6=>∃top:Nat,e=.returned (.int .i64 (top:Int))∧∃v' cs2 fr2,CeOk (lfC (lfD K (vaD bs)) K v' bs)∧Rz K ss (tkC (holdM cs ss) fr (1,lfC (lfD K (vaD bs)) K v' bs)) fr.dropLast (tkH (holdM cs ss) fr) cs2 fr2 top∧RzI cs T.ents K bs ss 0 cs2 top∧Hs w S w6 g gs room cs2 fr2):=fun w4 a c w5 hb o h5=>by
  have i4:Kq S w4 (fun w'=>Ints9 w' a ss):=Zdr o rfl (fun k hk hm=>by have:=(o.lt k hk).1;have:=hS k hm;omega);obtain ⟨S5,H5,hN5,hkq5,hS5,hbk5⟩:=h5.from
  refine (Zxf H5 hS5 hW hK hbo hmk hf a _ c rfl (hkq5 _ i4) (hkq5 _ (hL.grow hb)) u (hkq5 _ (hu.grow hb)) hl).mono ?_;rintro e w6 ⟨top,v',cs2,fr2,rfl,r1,r2,r3,r4⟩;exact ⟨top,rfl,v',cs2,fr2,r1,r2,r3,Hs.back hb (hbk5 _ _ _ r4)⟩
 have HDR:Hid (∀w6 (top:Nat),(∃v' cs2 fr2,CeOk (lfC (lfD K (vaD bs)) K v' bs)∧Rz K ss (tkC (holdM cs ss) fr (1,lfC (lfD K (vaD bs)) K v' bs)) fr.dropLast (tkH (holdM cs ss) fr) cs2 fr2 top∧RzI cs T.ents K bs ss 0 cs2 top∧Hs w S w6 g gs room cs2 fr2)→Kc 55 #[.pointer (some ⟨g,0,none⟩),.int .i64 (h:Int)] w6 fun e w7=>∃x y:Int,e=.returned (.tuple #[.int .i64 x,.int .i64 y])∧∃cs' fr',PutTo cs fr h K bs ss top cs' fr'∧PutOk cs T.ents K bs h top ss cs'∧Hs w S w7 g gs room cs' fr'):=fun w6 top ⟨v',cs2,fr2,r1,r2,r3,r4⟩=>by
  by_cases h0:h=0
  ·subst h0;refine (Zhw r4 0 (by show (0:Nat)≤_;exact Nat.zero_le _)).mono ?_;rintro e w7 ⟨rfl,h7⟩;exact ⟨0,7,rfl,cs2,fr2,⟨v',cs2,fr2,r1,r2,.inl ⟨rfl,rfl,rfl⟩⟩,Ygb r3,h7⟩
  ·have ho1:=ho.resolve_left h0;have ho2:0<own cs2 [] (h-1):=by
    have:=r3.own (h-1);rw [List.take_zero,List.count_nil] at this;omega
   have hd:=Zqd r4 (h-1) ho2;rw [show h-1+1=h by omega] at hd;refine hd.mono ?_;rintro e w7 ⟨cs',fr',k,hrun,hst,rfl,h7⟩;exact ⟨_,_,rfl,cs',fr',⟨v',cs2,fr2,r1,r2,.inr ⟨by omega,k,hrun⟩⟩,Yga r3 ho1 (by omega) hrun hst,h7⟩
 have HH2:Hid (∀w7 (top:Nat),(∃cs' fr',PutTo cs fr h K bs ss top cs' fr'∧PutOk cs T.ents K bs h top ss cs'∧Hs w S w7 g gs room cs' fr')→Kc 181 #[.pointer (some ⟨g,0,none⟩),.slice none 0 0] w7 fun e w8=>e=.returned (.slice none 0 0)∧∃cs' fr',PutTo cs fr h K bs ss top cs' fr'∧PutOk cs T.ents K bs h top ss cs'∧Hs w S w8 g gs room cs' fr'):=fun w7 top ⟨cs',fr',p1,p2,p3⟩=>by
  obtain ⟨S7,H7,hN7,hkq7,hS7,hbk7⟩:=p3.from
  refine (Zjm H7 none 0 0 [] (fun _ _ k hk=>absurd hk (by simp)) rfl (by omega) (fun x hx=>by cases hx) (fun q=>by omega)).mono ?_;rintro e w8 ⟨rfl,h8⟩;exact ⟨rfl,cs',fr',p1,p2,hbk7 _ _ _ h8⟩
 have HRF:Hid (Kr w 179 #[.pointer (some ⟨g,0,none⟩),.int .i64 (h:Int),u] (.int .i64 0)):=fun w' hb=>by
  obtain ⟨a,c,hue,_⟩:=hu.now;have:=Zby (H.vw.grow hb) h a bs.length c;rw [he] at this;rw [hue];exact this
 have HFT:Hid (Kr w 50 #[.pointer (some ⟨g,0,none⟩),.int .i64 1] (.bool true)):=fun w' hb=>by
  have:=Zdf (H.grow hb) 1;rwa [show fitsN (noc cs) room 1=true by simp [fitsN];omega] at this
 have HPS:Hid ((Tryz.prog.info? 34).map (·.size)=some (B K).size):=by show _=_;rw [Zj,hK.1];exact Zi
 have HPost:Hid (∀w8 (top:Nat),(∃cs' fr',PutTo cs fr h K bs ss top cs' fr'∧PutOk cs T.ents K bs h top ss cs'∧Hs w S w8 g gs room cs' fr')→PtPost w0 S0 g gs room cs fr T.ents h K bs ss (.returned (.tuple #[.int .i64 (top:Int),.int .i64 0])) w8):=fun w8 top ⟨cs',fr',p1,p2,p3⟩=>⟨top,cs',fr',rfl,p1,p2,hbk _ _ _ p3⟩
 have HBK:Hid (∀w4 w5 b6,Kb w w4→w.heap.size≤b6→Blk w4 b6 34 (B K)→Hs w4 S w5 g gs room (holdM cs ss) fr→Blk w5 b6 34 (B K)):=fun w4 w5 b6 hb hg hB h5=>h5.kq (Kq.blk hB (fun e=>by have:=hS _ e;omega))
 obtain ⟨ua,uc,hue,_⟩:=hu.now;clear hu hu0 hL hL0;subst hue;obtain ⟨R7,hR7⟩:∃R7:World→Nat→Prop,R7=fun w7 top=>∃cs' fr',PutTo cs fr h K bs ss top cs' fr'∧PutOk cs T.ents K bs h top ss cs'∧Hs w S w7 g gs room cs' fr':=⟨_,rfl⟩
 obtain ⟨R6,hR6⟩:∃R6:World→Nat→Prop,R6=fun w6 top=>∃v' cs2 fr2,CeOk (lfC (lfD K (vaD bs)) K v' bs)∧Rz K ss (tkC (holdM cs ss) fr (1,lfC (lfD K (vaD bs)) K v' bs)) fr.dropLast (tkH (holdM cs ss) fr) cs2 fr2 top∧RzI cs T.ents K bs ss 0 cs2 top∧Hs w S w6 g gs room cs2 fr2:=⟨_,rfl⟩
 obtain ⟨R5,hR5⟩:∃R5:World→World→Prop,R5=fun w4 w5=>Hs w4 S w5 g gs room (holdM cs ss) fr:=⟨_,rfl⟩
 replace HHA:Hid (∀w4 a c,Kb w w4→w4.ownsRow w.heap.size 3 1 (.slice a ss.length c) ss.length (nats ss)→Kc 181 #[.pointer (some ⟨g,0,none⟩),.slice a ss.length c] w4 fun e w5=>e=.returned (.slice none 0 0)∧R5 w4 w5):=by rw [hR5];exact HHA
 replace HRA:Hid (∀w4 a c w5,Kb w w4→w4.ownsRow w.heap.size 3 1 (.slice a ss.length c) ss.length (nats ss)→R5 w4 w5→Kc 182 #[.pointer (some ⟨g,0,none⟩),.agg (B K),.slice ua bs.length uc,.slice a ss.length c] w5 fun e w6=>∃top:Nat,e=.returned (.int .i64 (top:Int))∧R6 w6 top):=by rw [hR5,hR6];exact HRA
 replace HDR:Hid (∀w6 (top:Nat),R6 w6 top→Kc 55 #[.pointer (some ⟨g,0,none⟩),.int .i64 (h:Int)] w6 fun e w7=>∃x y:Int,e=.returned (.tuple #[.int .i64 x,.int .i64 y])∧R7 w7 top):=by rw [hR6,hR7];exact HDR
 replace HH2:Hid (∀w7 (top:Nat),R7 w7 top→Kc 181 #[.pointer (some ⟨g,0,none⟩),.slice none 0 0] w7 fun e w8=>e=.returned (.slice none 0 0)∧R7 w8 top):=by rw [hR7];exact HH2
 replace HPost:Hid (∀w8 (top:Nat),R7 w8 top→PtPost w0 S0 g gs room cs fr T.ents h K bs ss (.returned (.tuple #[.int .i64 (top:Int),.int .i64 0])) w8):=by rw [hR7];exact HPost
 replace HBK:Hid (∀w4 w5 b6,Kb w w4→w.heap.size≤b6→Blk w4 b6 34 (B K)→R5 w4 w5→Blk w5 b6 34 (B K)):=by rw [hR5];exact HBK
 generalize PtPost w0 S0 g gs room cs fr T.ents h K bs ss=P at HPost ⊢;generalize (h:Int)=hh at HPN HRF HDR ⊢;generalize bs.length=un at HPN HRF HRA ⊢;generalize nats ss=nss at HPN HHA HRA;generalize ss.length=sn at HPN HHA HRA;clear hR7 hR6 hR5 H0 H hN hkq hS hbk hW hmk hT hK he hl hr ho hf hne hss hbo hct h256;go_enter Tryz.func135,Tryz.ntmps135
 go_wp2_with (first
  |((with_reducible refine Zl 6 ?_);refine Zc _ rfl _ _ rfl _ rfl ?_;intro w1 b5 hg5 hl5 B5 q5;have HB5:=Za B5;have HQ5:=Za q5;have HG5:=Za hg5;clear hg5 hl5 B5 q5)
  |(go_at_call 179;refine (HRF.out _ HQ5.out).mono ?_;rintro e w2 ⟨rfl,b2⟩;have HQ2:=Za (Zb HQ5.out b2);have HB2:=Za (HB5.out.grow b2);clear b2)
  |(go_at_call 50;refine (HFT.out _ HQ2.out).mono ?_;rintro e w3 ⟨rfl,b3⟩;have HQ3:=Za (Zb HQ2.out b3);have HB3:=Za (HB2.out.grow b3);clear b3)
  |((with_reducible refine Zk 29 6 ?_);refine Zd _ rfl _ _ rfl b5 _ rfl HB3.out _ _ Tryz.underlying34 HPS.out ?_)
  |(go_at_call 180;refine (HPN.out _ HQ3.out).mono ?_;rintro e w4 ⟨sa,sc,rfl,o4,b4⟩;have HO4:=Za (Zae o4 HQ3.out.size);have HQ4:=Za (Zb HQ3.out b4);have HB4:=Za (HB3.out.grow b4);clear b4 o4)
  |(go_at_call 181;have mk:=mk1;clear mk;refine (HH2.out _ _ HR7.out).mono ?_;rintro e w8 ⟨rfl,r8⟩;have HR8:=Za r8;clear r8)
  |(go_at_call 181;refine (HHA.out _ _ _ HQ4.out HO4.out).mono ?_;rintro e w5 ⟨rfl,r5⟩;have HR5:=Za r5;have HB6:=Za (HBK.out _ _ _ HQ4.out HG5.out HB4.out r5);clear r5;have mk1:Hid True:=trivial)
  |((with_reducible refine Zk 44 6 ?_);refine Zd _ rfl _ _ rfl b5 _ rfl HB6.out _ _ Tryz.underlying34 HPS.out ?_)
  |(go_at_call 182;refine (HRA.out _ _ _ _ HQ4.out HO4.out HR5.out).mono ?_;rintro e w6 ⟨top,rfl,r6⟩;have HR6:=Za r6;clear r6)
  |(go_at_call 55;refine (HDR.out _ _ HR6.out).mono ?_;rintro e w7 ⟨x7,y7,rfl,r7⟩;have HR7:=Za r7;clear r7))
 exact HPost.out _ _ HR8.out
end Go.Proofs.YtgfdgjkbcdmboaaGreatDoor
