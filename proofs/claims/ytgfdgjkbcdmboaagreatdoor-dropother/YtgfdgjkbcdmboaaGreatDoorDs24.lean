/- The document's store beside the program's: what both tell of a handle. -/
import Derived.Test.YtgfdgjkbcdmboaaGreatDoorDs23
namespace Go.Proofs.YtgfdgjkbcdmboaaGreatDoor
variable {S S1 fr pend:List Nat}
variable {cs:Lz}
variable {d g room:Nat}
variable {ss:List Sp}
variable {vf vp:Value}
variable {w w1 w2:World}
set_option maxHeartbeats 4000000
set_option maxRecDepth 20000
open Go.RowKit
structure SatIs (cs:Lz) (ss:List Sp) (q:Int):Prop where
 kind:(sat ss q).kind=(cat cs q).kind
 d:(sat ss q).d=(cat cs q).dp
 bs:(sat ss q).bs=(cat cs q).bs
 l:(sat ss q).l=(cat cs q).l
 r:(sat ss q).r=(cat cs q).r
 own:(sat ss q).own=cot cs q-(cat cs q).ab
 sum:(sat ss q).own+(sat ss q).sd=cot cs q
 key:(cat cs q).kind=1→(sat ss q).key=(cat cs q).key
theorem Zbv (R:Rel7 cs [] [] ss) (W:Wf cs []) (q:Int):SatIs cs ss q:=by
 by_cases h:1≤q
 ·have hle:=W.le (q-1).toNat;have ho:=R.own (q-1).toNat;have hs:=R.sd (q-1).toNat;rw [List.count_nil] at hle hs;unfold Go.Proofs.YtgfdgjkbcdmboaaGreatDoor.own at ho;rw [List.count_nil] at ho;constructor <;> simp only [sat,cat,cot,if_pos h]
  ·exact R.kind _
  ·exact R.d _
  ·exact R.bs _
  ·exact R.l _
  ·exact R.r _
  ·omega
  ·omega
  ·exact R.key _
 ·constructor <;> simp only [sat,cat,cot,if_neg h]
  all_goals first | rfl | (intro e;exact absurd e (by decide))
theorem Zlj (W:Wf cs []) (q:Int):((cat cs q).kind=0∧cat cs q=zc)∨∃(n:Nat) (T:Tre),q=(n:Int)∧1≤n∧0<cc cs (n-1)∧IsT cs n T∧cat cs q=ce cs (n-1)∧((cat cs q).kind=1∨(cat cs q).kind=2):=by
 by_cases hc:cot cs q=0
 ·have:=W.cat0 hc;exact .inl ⟨by rw [this];rfl,this⟩
 ·obtain ⟨i,e,hi,_,hce⟩:=Zfe (cs:=cs) (h:=q) (by omega);obtain ⟨T,hT⟩:=Zoy W i hi;exact .inr ⟨i+1,T,by omega,by omega,hi,hT,hce,by rw [hce];exact W.kinds i hi⟩
theorem Zfm (W:Wf cs []) {n m:Nat} {T:Tre} (hT:IsT cs n T) (h:cs.length≤m):T.ents.length≤m:=Nat.le_trans (Zbe W T n hT).few h
theorem Yiq (h:Rs w g vp vf room ss fr) (R:Rel7 cs [] [] ss) (W:Wf cs []) (h6:cs.length≤5000) (q:Int):Kc 89 #[.pointer (some ⟨g,0,none⟩),.int .i64 q] w fun e w'=>e=.returned (.int .i64 ((cat cs q).sz:Int))∧Kb w w':=by
 have HE:Hid (Kc 76 #[.pointer (some ⟨g,0,none⟩),.int .i64 q] w fun e w'=>∃a c,e=.returned (.slice a (cat cs q).sz c)∧Kb w w'):=by
  rcases Zlj W q with ⟨k0,ez⟩ | ⟨n,T,rfl,n1,n2,hT,hce,hk⟩
  ·rw [ez];exact (Zhe h q (by rw [(Zbv R W q).kind];exact k0)).mono fun e w' ⟨e1,b⟩=>⟨none,0,e1,b⟩
  ·have ok:=Zbe W T n hT;have hsz:(cat cs (n:Int)).sz=T.ents.length:=by rw [Zy];exact ok.sz
   rw [hsz];refine (Zdc h T n w (Below.refl _ _) (hT.s R) (by have:=Zfm W hT h6;omega)).mono ?_;rintro e w' ⟨v,its,e1,m1,_,o1,b⟩;obtain ⟨a,c,rfl⟩:=Zo (Zap o1);rw [show its.length=T.ents.length by rw [← m1,List.length_map]] at e1;exact ⟨a,c,e1,b⟩
 generalize (cat cs q).sz=n at HE ⊢;clear h R W h6;go_enter Tryz.func89,Tryz.ntmps89
 go_wp2_with (go_at_call 76;refine HE.out.mono ?_;rintro e w1 ⟨a,c,rfl,b1⟩)
 go_ret;exact ⟨rfl,b1⟩
theorem Yec (h:Rs w g vp vf room ss fr) (R:Rel7 cs [] [] ss) (W:Wf cs []) (q:Int):Kc 93 #[.pointer (some ⟨g,0,none⟩),.int .i64 q] w fun e w'=>e=.returned (.int .i64 (vRt true (cot cs q) (cat cs q) q))∧Kb w w':=by
 have c0:=h.c0;have hS:=Zbv R W q;have hdp:dp7 (sat ss q)=vDp true (cat cs q):=by
  unfold dp7 vDp;rw [hS.kind,hS.d,if_pos rfl]
 have HD:Hid (Kr w 87 #[.pointer (some ⟨g,0,none⟩),.int .i64 q] (.int .i64 (vDp true (cat cs q)))):=fun w' hb=>by
  have:=Zpt (h.grow hb) q;rwa [hdp] at this
 have HH:=Za (Zbn h q)
 by_cases hq0:q=0
 ·subst hq0;have HV:Hid (vRt true (cot cs 0) (cat cs 0) 0=0):=rfl;rw [HV.out];clear h R W HD HH hdp hS;go_enter Tryz.func93,Tryz.ntmps93
  go_wp2_with (go_at_call 83;refine (Zab g _ c0).mono ?_;rintro e w' ⟨rfl,hx⟩;rw [hx];clear hx w')
  go_ret;exact ⟨rfl,Below.refl _ _⟩
 ·have hb0:(q == 0)=false:=by simp [hq0]
  by_cases hc:cot cs q=0
  ·have HV:Hid (vRt true (cot cs q) (cat cs q) q=7):=by simp [vRt,hq0,hc,Hid]
   rw [HV.out];have hk:(sat ss q).kind=0:=by rw [hS.kind,W.cat0 hc];rfl
   have e1:decide ((sat ss q).kind≠0)=false:=by simp [hk]
   rw [e1] at HH;clear h R W HD hdp hS hk e1 HV hc hq0;go_enter Tryz.func93,Tryz.ntmps93
   go_wp2_with (first
    |(go_at_call 83;refine (Zab g _ c0).mono ?_;rintro e w' ⟨rfl,hx⟩;rw [hx];clear hx w')
    |(go_at_call 84;refine HH.out.mono ?_;rintro e w' ⟨rfl,hx⟩;rw [hx];clear hx w'))
   go_ret;exact ⟨rfl,Below.refl _ _⟩
  ·have hk: ¬(sat ss q).kind=0:=by
    rw [hS.kind];obtain ⟨i,e,hi,_,hce⟩:=Zfe (cs:=cs) (h:=q) (by omega);rw [hce];rcases W.kinds i hi with k | k <;> omega
   have e1:decide ((sat ss q).kind≠0)=true:=by simp [hk]
   rw [e1] at HH;have hv:vRt true (cot cs q) (cat cs q) q=if 0<vDp true (cat cs q) then 2 else 0:=by simp [vRt,hq0,hc]
   rw [hv];generalize vDp true (cat cs q)=dd at HD ⊢;clear h R W hdp hS hk e1 hc hq0 hv
   by_cases hd:0<dd
   ·rw [if_pos hd];go_enter Tryz.func93,Tryz.ntmps93
    go_wp2_with (first
     |(go_at_call 83;refine (Zab g _ c0).mono ?_;rintro e w' ⟨rfl,hx⟩;rw [hx];clear hx w')
     |(go_at_call 84;refine HH.out.mono ?_;rintro e w' ⟨rfl,hx⟩;rw [hx];clear hx w')
     |(go_at_call 87;refine (HD.out _ (Below.refl _ _)).mono ?_;rintro e w2 ⟨rfl,b2⟩))
    go_ret;exact ⟨rfl,b2⟩
   ·rw [if_neg hd];go_enter Tryz.func93,Tryz.ntmps93
    go_wp2_with (first
     |(go_at_call 83;refine (Zab g _ c0).mono ?_;rintro e w' ⟨rfl,hx⟩;rw [hx];clear hx w')
     |(go_at_call 84;refine HH.out.mono ?_;rintro e w' ⟨rfl,hx⟩;rw [hx];clear hx w')
     |(go_at_call 87;refine (HD.out _ (Below.refl _ _)).mono ?_;rintro e w2 ⟨rfl,b2⟩))
    go_ret;exact ⟨rfl,b2⟩
theorem Yis (h:Rs w g vp vf room ss fr) (R:Rel7 cs [] [] ss) (W:Wf cs []) (q:Int) (b:Bool) (hb:b=true↔mayP cs q):Kc 168 #[.pointer (some ⟨g,0,none⟩),.int .i64 q] w fun e w'=>e=.returned (.bool b)∧Kb w w':=by
 have hS:=Zbv R W q;have HH:=Za (Zbn h q);have HA:Hid (Kr w 107 #[.pointer (some ⟨g,0,none⟩),.int .i64 q] (.agg (sz7 (sat ss q)).toArray)):=fun w' hb=>Zbc (h.grow hb) q
 have hf:=Zog (Zcf h q)
 by_cases hq0:q=0
 ·have:b=true:=hb.2 (.inl hq0);subst this;subst hq0;clear h R W hS HH HA hf hb;go_enter Tryz.func168,Tryz.ntmps168
  go_wp2
  go_ret;exact ⟨rfl,Below.refl _ _⟩
 ·have hb0:(q == 0)=false:=by simp [hq0]
  have hbb:b=true↔0<(sat ss q).own:=by
   rw [hb,hS.own];unfold mayP;constructor
   ·rintro (e | e)
    ·exact absurd e hq0
    ·omega
   ·intro e;exact .inr (by omega)
  by_cases hk:(sat ss q).kind=0
  ·have e1:decide ((sat ss q).kind≠0)=false:=by simp [hk]
   rw [e1] at HH;have hc:cot cs q=0:=by
    apply Classical.byContradiction;intro hc;obtain ⟨i,e,hi,_,hce⟩:=Zfe (cs:=cs) (h:=q) (by omega);rw [hS.kind,hce] at hk;rcases W.kinds i hi with k | k <;> omega
   have:b=false:=by
    cases b with
    | false=>rfl
    | true=>
     have h1:=hbb.1 rfl;rw [hS.own,hc] at h1;omega
   subst this;clear h R W hS HA hf hb hbb hk e1 hc hq0;go_enter Tryz.func168,Tryz.ntmps168
   go_wp2_with (go_at_call 84;refine HH.out.mono ?_;rintro e w' ⟨rfl,hx⟩;rw [hx];clear hx w')
   go_ret;exact ⟨rfl,Below.refl _ _⟩
  ·have e1:decide ((sat ss q).kind≠0)=true:=by simp [hk]
   rw [e1] at HH;have hd:decide ((0:Int)<((sat ss q).own:Int))=b:=by
    cases b with
    | true=>
     have:=hbb.1 rfl;simp;omega
    | false=>
     have: ¬0<(sat ss q).own:=fun e=>by have:=hbb.2 e;cases this
     simp;omega
   generalize (sat ss q).own=oo at hf hd;generalize sz7 (sat ss q)=X at HA hf;clear h R W hS hb hbb hk e1 hq0;have hd2:decide (0<oo)=b:=by rw [← hd];simp
   go_enter Tryz.func168,Tryz.ntmps168
   go_wp2_with (first
    |(go_at_call 84;refine HH.out.mono ?_;rintro e w' ⟨rfl,hx⟩;rw [hx];clear hx w')
    |(go_at_call 107;refine (HA.out _ (Below.refl _ _)).mono ?_;rintro e w2 ⟨rfl,b2⟩))
   go_ret;exact ⟨by first | rfl | simp [hd2],b2⟩
def ov7 (ss:List Sp) (q:Nat):List Sp:=if q=0 then ss else ss.set (q-1) { spAt ss (q-1) with own:=(spAt ss (q-1)).own-1,sd:=(spAt ss (q-1)).sd+1}
theorem Zed (ss:List Sp) (q:Nat):(ov7 ss q).length=ss.length:=by
 unfold ov7;split
 ·rfl
 ·exact List.length_set
theorem RT7.trans (h:Mod S w w1) (hn:New S w S1) (k:RT7 w1 g S1 room ss fr w2):RT7 w g S room ss fr w2:=by
 obtain ⟨vp,vf,r,m,n⟩:=k;exact ⟨vp,vf,r,h.trans hn m,hn.trans h.size n⟩
theorem Zkp (h:Rs w g vp vf room ss fr) (q:Nat) (hq:q=0∨(spAt ss (q-1)).kind≠0∧0<(spAt ss (q-1)).own∧(spAt ss (q-1)).own+(spAt ss (q-1)).sd≤1073741824):Kc 170 #[.pointer (some ⟨g,0,none⟩),.int .i64 (q:Int)] w fun e w'=>e=.returned (.tuple #[])∧RT7 w g (rsB g vp vf ss) room (ov7 ss q) fr w':=by
 by_cases q0:q=0
 ·subst q0;refine (Zph g w).mono ?_;rintro e w' ⟨rfl,rfl⟩;exact ⟨rfl,vp,vf,h,Mod.refl _ _,New.refl _ _⟩
 ·obtain ⟨h1,h2,h3⟩:(spAt ss (q-1)).kind≠0∧0<(spAt ss (q-1)).own∧(spAt ss (q-1)).own+(spAt ss (q-1)).sd≤1073741824:=by
   rcases hq with e | e
   ·exact absurd e q0
   ·exact e
  have:=Zwt h (q-1) h1 ((spAt ss (q-1)).own-1) (by omega) h3;rw [show (((q-1:Nat):Int)+1)=(q:Int) by omega] at this;unfold ov7;rw [if_neg q0];exact this
theorem Yfs (h:Rs w g vp vf room ss fr) (d l r:Int) (hd:d<0∨256≤d):Kc 129 #[.pointer (some ⟨g,0,none⟩),.int .i64 d,.int .i64 l,.int .i64 r] w fun e w'=>e=.returned (.tuple #[.int .i64 0,.int .i64 2])∧Kb w w':=by
 have c0:=h.c0;clear h
 by_cases h0:d<0
 ·clear hd;go_enter Tryz.func129,Tryz.ntmps129
  go_wp2_with (go_at_call 83;refine (Zab g _ c0).mono ?_;rintro e w' ⟨rfl,hx⟩;rw [hx];clear hx w')
  go_ret2;exact ⟨rfl,Below.refl _ _⟩
 ·have h1:256≤d:=by omega
  clear hd;go_enter Tryz.func129,Tryz.ntmps129
  go_wp2_with (go_at_call 83;refine (Zab g _ c0).mono ?_;rintro e w' ⟨rfl,hx⟩;rw [hx];clear hx w')
  go_ret2;exact ⟨rfl,Below.refl _ _⟩
def Fit7 (w:World) (g d:Nat) (l r:Int) (f:Bool):Prop:=Kr w 169 #[.pointer (some ⟨g,0,none⟩),.int .i64 (d:Int),.int .i64 l,.int .i64 r] (.bool f)
def Ov7 (ss:List Sp) (q:Nat):Prop:=q=0∨(spAt ss (q-1)).kind≠0∧0<(spAt ss (q-1)).own∧(spAt ss (q-1)).own+(spAt ss (q-1)).sd≤1073741824
theorem Ztp (h:Rs w g vp vf room ss fr) (hfr:∀s∈fr,1≤s∧s≤ss.length) (R:Rel7 cs [] [] ss) (W:Wf cs []) (d l r:Nat) (hd:d<256) (ml:mayP cs (l:Int)) (mr:mayP cs (r:Int)) (hf:Fit7 w g d l r true) (hfu: ¬Full room ss fr) (h6:ss.length+1≤65536) (ol:Ov7 ss l) (orr:Ov7 (ov7 ss l) r):Kc 129 #[.pointer (some ⟨g,0,none⟩),.int .i64 (d:Int),.int .i64 (l:Int),.int .i64 (r:Int)] w fun e w'=>e=.returned (.tuple #[.int .i64 (tkH ss fr:Int),.int .i64 0])∧RT7 w g (rsB g vp vf ss) room (tkC (ov7 (ov7 ss l) r) fr (own1 (in7 d l r))) fr.dropLast w':=by
 have c0:=h.c0;have z0: ¬(d:Int)<0:=by omega
 have z1: ¬256≤(d:Int):=by omega
 have HL:=Za (Yis h R W (l:Int) true (by simp [ml]));have HR:Hid (Kr w 168 #[.pointer (some ⟨g,0,none⟩),.int .i64 (r:Int)] (.bool true)):=fun w' hb=>Yis (h.grow hb) R W (r:Int) true (by simp [mr])
 have HFU:Hid (Kr w 166 #[.pointer (some ⟨g,0,none⟩)] (.bool false)):=fun w' hb=>Zkq (h.grow hb) false (by simp [hfu])
 have HF:=Za hf;have HO1:Hid (∀w',Kb w w'→Kc 170 #[.pointer (some ⟨g,0,none⟩),.int .i64 (l:Int)] w' fun e w''=>e=.returned (.tuple #[])∧RT7 w g (rsB g vp vf ss) room (ov7 ss l) fr w''):=fun w' hb=>(Zkp (h.grow hb) l ol).mono fun e w'' ⟨e1,t⟩=>⟨e1,RT7.trans (Mod.of_below hb _) (New.refl _ _) t⟩
 have HO2:Hid (∀w',RT7 w g (rsB g vp vf ss) room (ov7 ss l) fr w'→Kc 170 #[.pointer (some ⟨g,0,none⟩),.int .i64 (r:Int)] w' fun e w''=>e=.returned (.tuple #[])∧RT7 w g (rsB g vp vf ss) room (ov7 (ov7 ss l) r) fr w''):=fun w' ⟨vp1,vf1,r1,m1,n1⟩=>(Zkp r1 r orr).mono fun e w'' ⟨e1,t⟩=>⟨e1,RT7.trans m1 n1 t⟩
 have hlen:(ov7 (ov7 ss l) r).length=ss.length:=by rw [Zed,Zed]
 have htk:tkH (ov7 (ov7 ss l) r) fr=tkH ss fr:=by unfold tkH;rw [hlen]
 have HTK:Hid (∀w',RT7 w g (rsB g vp vf ss) room (ov7 (ov7 ss l) r) fr w'→Kc 167 #[.pointer (some ⟨g,0,none⟩),.agg (sz7 (in7 d l r)).toArray] w' fun e w''=>e=.returned (.int .i64 (tkH ss fr:Int))∧RT7 w g (rsB g vp vf ss) room (tkC (ov7 (ov7 ss l) r) fr (own1 (in7 d l r))) fr.dropLast w''):=fun w' ⟨vp1,vf1,r1,m1,n1⟩=>by
  have:=Zko (Below.refl _ w') r1 (by rw [hlen];exact hfr) (in7 d l r) (Yjk d l r) (by show ¬(2:Int)=0;omega) ⟨[],Own.nil _ _⟩ (fun k hk=>by cases hk) (by rw [hlen];exact h6);rw [htk] at this;exact this.mono fun e w'' ⟨e1,t,_⟩=>⟨e1,RT7.trans m1 n1 t⟩
 have HBU:=Za (Zzu d l r);generalize sz7 (in7 d l r)=X at HTK HBU;generalize (tkH ss fr:Int)=tk at HTK ⊢;generalize RT7 w g (rsB g vp vf ss) room (tkC (ov7 (ov7 ss l) r) fr (own1 (in7 d l r))) fr.dropLast=PQ at HTK ⊢;generalize RT7 w g (rsB g vp vf ss) room (ov7 (ov7 ss l) r) fr=P2 at HTK HO2;generalize RT7 w g (rsB g vp vf ss) room (ov7 ss l) fr=P1 at HO1 HO2;generalize (l:Int)=ly at HL HF HO1 HBU ⊢;generalize (r:Int)=ry at HR HF HO2 HBU ⊢;clear h R W ml mr hf hfu hlen htk ol orr hfr;go_enter Tryz.func129,Tryz.ntmps129
 go_wp2_with (first
  |(go_at_call 83;refine (Zab g _ c0).mono ?_;rintro e w' ⟨rfl,hx⟩;rw [hx];clear hx w')
  |(go_at_call 168;first | (refine (HR.out _ b1).mono ?_;rintro e w2 ⟨rfl,b2⟩;have b3:=Zb b1 b2) | (refine HL.out.mono ?_;rintro e w1 ⟨rfl,b1⟩))
  |(go_at_call 169;refine (HF.out _ b3).mono ?_;rintro e w4 ⟨rfl,b4⟩;have b5:=Zb b3 b4)
  |(go_at_call 166;refine (HFU.out _ b5).mono ?_;rintro e w6 ⟨rfl,b6⟩;have b7:=Zb b5 b6)
  |(go_at_call 170;first | (refine (HO2.out _ p1.out).mono ?_;rintro e w9 ⟨rfl,q2⟩;have p2:=Za q2;clear q2) | (refine (HO1.out _ b7).mono ?_;rintro e w8 ⟨rfl,q1⟩;have p1:=Za q1;clear q1))
  |((with_reducible refine Zzz ?_);refine Zar _ rfl _ _ rfl _ (by rw [List.map_toArray];exact HBU.out) ?_)
  |(go_at_call 167;refine (HTK.out _ p2.out).mono ?_;rintro e w10 ⟨rfl,q3⟩;have p3:=Za q3;clear q3))
 go_ret2;exact ⟨rfl,p3.out⟩
def Tre.hs (K:Lq):Nat→Tre→List Nat
 | _,.emp=>[]
 | _,.lf _ _=>[]
 | h,.nd d hl hr l r=>h::(if kb K d=1 then r.hs K hr else l.hs K hl)
def Tre.fin (K:Lq):Nat→Tre→Nat
 | h,.emp=>h
 | h,.lf _ _=>h
 | _,.nd d hl hr l r=>if kb K d=1 then r.fin K hr else l.fin K hl
def Tre.oth (K:Lq):Tre→List Nat
 | .emp=>[]
 | .lf _ _=>[]
 | .nd d hl hr l r=>if kb K d=1 then hl::r.oth K else hr::l.oth K
def Tre.efin (K:Lq):Tre→List Ent
 | .emp=>[]
 | .lf k b=>[(k,b)]
 | .nd d _ _ l r=>if kb K d=1 then r.efin K else l.efin K
theorem Tre.hs_oth (K:Lq):∀(T:Tre) (h:Nat),(T.hs K h).length=(T.oth K).length
 | .emp,_=>rfl
 | .lf _ _,_=>rfl
 | .nd d hl hr l r,h=>by
  have h1:=Tre.hs_oth K l hl;have h2:=Tre.hs_oth K r hr;simp only [Tre.hs,Tre.oth];split <;> simp [h1,h2]
structure NdOk (cs:Lz) (d hl hr:Nat) (L R:Tre):Prop where
 dp:d<256
 bL:∀e∈L.ents,kb e.1 d=0
 bR:∀e∈R.ents,kb e.1 d=1
 two:2≤(L.ents++R.ents).length
 kl:(sdC cs hl).kind=2→(sdC cs hl).dp=d+1
 kr:(sdC cs hr).kind=2→(sdC cs hr).dp=d+1
theorem Zlz (w:Wf cs pend) {d hl hr h:Nat} {L R:Tre} (hT:IsT cs h (.nd d hl hr L R)):NdOk cs d hl hr L R:=by
 obtain ⟨h1,h2,h3,h4,h5,h6,h7,h8⟩:=hT;obtain ⟨i,rfl⟩:∃i,h=i+1:=⟨h-1,by omega⟩;rw [Nat.add_sub_cancel] at h2 h3 h4 h5 h6;have okL:=Zbe w L hl h7;have okR:=Zbe w R hr h8;rcases w.tr i h2 with hn | hn
 ·have:=hn.kind;omega
 have hdp:=hn.dp;have sl:=hn.sl;have sr:=hn.sr;have hsz:=hn.sz;have htwo:=hn.two;rw [h4] at hdp sl sr;rw [h5] at sl hsz;rw [h6] at sr hsz;have side:∀(q:Nat) (b:Int) (U:Tre),TreeOk cs q U→SideOk cs d b q→(∀e∈U.ents,kb e.1 d=b)∧((sdC cs q).kind=2→(sdC cs q).dp=d+1):=fun q b U ok s=>by
  rcases s with rfl | ⟨q1,q2,q3,q4⟩
  ·refine ⟨fun e he=>?_,fun k=>absurd k (by show ¬zc.kind=2;decide)⟩;have:=ok.sz;rw [show (sdC cs 0).sz=0 from rfl] at this;rw [List.eq_nil_of_length_eq_zero this.symm] at he;cases he
  ·have es:sdC cs q=ce cs (q-1):=if_neg (by omega);refine ⟨fun e he=>?_,fun k=>?_⟩
   ·rw [ok.share (d+1) (by omega) (fun k=>by rcases q4 with q4 | ⟨_,q4⟩ <;> omega) e he d (by omega),es];exact q3
   ·rw [es] at k ⊢;rcases q4 with q4 | ⟨_,q4⟩
    ·omega
    ·exact q4
 obtain ⟨a1,a2⟩:=side hl 0 L okL sl;obtain ⟨b1,b2⟩:=side hr 1 R okR sr;exact ⟨hdp,a1,b1,by rw [List.length_append,← okL.sz,← okR.sz,← hsz];exact htwo,a2,b2⟩
theorem NdOk.side0 {hl hr:Nat} {L R:Tre} (n:NdOk cs d hl hr L R):sideOf (L.ents++R.ents) d 0=L.ents:=by
 rw [Zfg,Zfh L.ents d 0 (fun e he=>by rw [Zdp _ _ n.dp];exact n.bL e he),Zel R.ents d 0 1 (fun e he=>by rw [Zdp _ _ n.dp];exact n.bR e he) (by omega),List.append_nil]
theorem NdOk.side1 {hl hr:Nat} {L R:Tre} (n:NdOk cs d hl hr L R):sideOf (L.ents++R.ents) d 1=R.ents:=by
 rw [Zfg,Zel L.ents d 1 0 (fun e he=>by rw [Zdp _ _ n.dp];exact n.bL e he) (by omega),Zfh R.ents d 1 (fun e he=>by rw [Zdp _ _ n.dp];exact n.bR e he),List.nil_append]
theorem Zwc (n d:Nat) (l:List Ent) (K:Lq) (h:l.length≤1):sds n d l K=[]∧rst n d l K=l:=by
 cases n with
 | zero=>exact ⟨rfl,rfl⟩
 | succ n=>exact ⟨by rw [sds,if_pos h],by rw [rst,if_pos h]⟩
theorem Zcu {cs:Lz} {pend:List Nat} (w:Wf cs pend) (K:Lq):∀(T:Tre) (h d:Nat),IsT cs h T→((sdC cs h).kind=2→(sdC cs h).dp=d)→d≤256→(T.oth K).map (sdD cs)=sds (256-d) d T.ents K∧T.efin K=rst (256-d) d T.ents K∧(T.oth K).length≤256-d
 | .emp,h,d,_,_,_=>by
  obtain ⟨e1,e2⟩:=Zwc (256-d) d Tre.emp.ents K (by simp [Tre.ents]);rw [e1,e2];exact ⟨rfl,rfl,Nat.zero_le _⟩
 | .lf k b,h,d,_,_,_=>by
  obtain ⟨e1,e2⟩:=Zwc (256-d) d (Tre.lf k b).ents K (by simp [Tre.ents]);rw [e1,e2];exact ⟨rfl,rfl,Nat.zero_le _⟩
 | .nd d hl hr L R,h,d',hT,hd,_=>by
  have n:=Zlz w hT;obtain ⟨h1,h2,h3,h4,h5,h6,h7,h8⟩:=hT;have es:sdC cs h=ce cs (h-1):=if_neg (by omega);obtain rfl:d=d':=by
   rw [es] at hd;rw [← h4];exact hd h3
  have okL:=Zbe w L hl h7;have okR:=Zbe w R hr h8;have hdp:=n.dp;obtain ⟨l1,l2,l3⟩:=Zcu w K L hl (d+1) h7 n.kl (by omega);obtain ⟨r1,r2,r3⟩:=Zcu w K R hr (d+1) h8 n.kr (by omega);have dl:=okL.dig (d+1) n.kl;have dr:=okR.dig (d+1) n.kr;obtain ⟨m,hm⟩:∃m,256-d=m+1:=⟨255-d,by omega⟩;have hm2:256-(d+1)=m:=by omega
  rw [hm2] at l1 l2 l3 r1 r2 r3 dl dr;have htwo:=n.two;rw [hm];show (Tre.oth K (.nd d hl hr L R)).map (sdD cs)=sds (m+1) d (L.ents++R.ents) K∧Tre.efin K (.nd d hl hr L R)=rst (m+1) d (L.ents++R.ents) K∧(Tre.oth K (.nd d hl hr L R)).length≤m+1;rw [sds,rst,if_neg (by omega),if_neg (by omega)];rcases Zdq K d with q | q
  ·rw [q,show (1:Int)-0=1 from rfl,n.side0,n.side1];simp only [Tre.oth,Tre.efin,q];refine ⟨?_,l2,?_⟩
   ·simp only [show ¬((0:Int)=1) by omega,if_false,List.map_cons];rw [l1,dr]
   ·simp only [show ¬((0:Int)=1) by omega,if_false,List.length_cons];omega
  ·rw [q,show (1:Int)-1=0 from rfl,n.side0,n.side1];simp only [Tre.oth,Tre.efin,q];refine ⟨?_,r2,?_⟩
   ·simp only [if_true,List.map_cons];rw [r1,dl]
   ·simp only [if_true,List.length_cons];omega
theorem Zds {cs:Lz} (K:Lq):∀(T:Tre) (h:Nat),IsT cs h T→(T.fin K h=0∧T.efin K=[])∨∃k b,T.efin K=[(k,b)]∧1≤T.fin K h∧0<cc cs (T.fin K h-1)∧(ce cs (T.fin K h-1)).kind=1∧(ce cs (T.fin K h-1)).key=k∧(ce cs (T.fin K h-1)).bs=b
 | .emp,h,e=>.inl ⟨e,rfl⟩
 | .lf k b,h,⟨h1,h2,h3,h4,h5⟩=>.inr ⟨k,b,rfl,h1,h2,h3,h4,h5⟩
 | .nd d hl hr L R,h,⟨_,_,_,_,_,_,h7,h8⟩=>by
  have a:=Zds K L hl h7;have b:=Zds K R hr h8;simp only [Tre.fin,Tre.efin]
  by_cases q:kb K d=1
  ·simp only [q,if_true];exact b
  ·simp only [q,if_false];exact a
theorem Zgq {cs:Lz} {pend:List Nat} (w:Wf cs pend) (K:Lq):∀(T:Tre) (h:Nat),IsT cs h T→∀e∈T.ents,e.1=K→T.efin K=[e]
 | .emp,_,_,e,he,_=>by cases he
 | .lf k b,_,_,e,he,_=>by
  obtain rfl:e=(k,b):=by simpa [Tre.ents] using he
  rfl
 | .nd d hl hr L R,h,hT,e,he,hK=>by
  have n:=Zlz w hT;obtain ⟨_,_,_,_,_,_,h7,h8⟩:=hT;simp only [Tre.efin];rcases List.mem_append.1 he with he | he
  ·have:=n.bL e he;rw [hK] at this;rw [if_neg (by omega)];exact Zgq w K L hl h7 e he hK
  ·have:=n.bR e he;rw [hK] at this;rw [if_pos this];exact Zgq w K R hr h8 e he hK
theorem Zce (K:Lq):∀(T:Tre),∀e∈T.efin K,e∈T.ents
 | .emp,e,he=>by cases he
 | .lf k b,e,he=>he
 | .nd d hl hr L R,e,he=>by
  simp only [Tre.efin] at he;split at he
  ·exact List.mem_append_right _ (Zce K R e he)
  ·exact List.mem_append_left _ (Zce K L e he)
structure Ext (cs cs':Lz):Prop where
 len:cs.length≤cs'.length
 cc:∀i,i<cs.length→cc cs' i=cc cs i
 ce:∀i,i<cs.length→ce cs' i=ce cs i
theorem IsT.keep {cs cs':Lz} (k:∀i,0<cc cs i→0<cc cs' i∧Core (ce cs i) (ce cs' i)):∀ {T:Tre} {h:Nat},IsT cs h T→IsT cs' h T
 | .emp,_,e=>e
 | .lf _ _,h,⟨h1,h2,h3,h4,h5⟩=>by
  obtain ⟨k1,k2⟩:=k _ h2;refine ⟨h1,k1,?_⟩;rw [k2];exact ⟨h3,h4,h5⟩
 | .nd _ _ _ _ _,h,⟨h1,h2,h3,h4,h5,h6,h7,h8⟩=>by
  obtain ⟨k1,k2⟩:=k _ h2;refine ⟨h1,k1,?_⟩;rw [k2];exact ⟨h3,h4,h5,h6,IsT.keep k h7,IsT.keep k h8⟩
structure Bd (cs:Lz) (es:List Ent) (d h:Nat) (cs':Lz):Prop where
 ext:Ext cs cs'
 wf:Wf cs' []
 tree:∃T,IsT cs' h T∧T.ents.Perm es
 dp:(sdC cs' h).kind=2→(sdC cs' h).dp=d
 own:h≠0→cs.length<h∧h≤cs'.length∧cc cs' (h-1)=1∧(ce cs' (h-1)).ab=0
 num:cs'.length≤cs.length+es.length * (257-d)
end Go.Proofs.YtgfdgjkbcdmboaaGreatDoor
