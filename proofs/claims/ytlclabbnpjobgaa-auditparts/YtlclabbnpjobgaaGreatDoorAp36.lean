/- The document's store: Inner. -/
import Derived.Test.YtlclabbnpjobgaaGreatDoorAp35
namespace Go.Proofs.YtlclabbnpjobgaaGreatDoor
variable {S S1 fr:List Nat}
variable {cs cs':Lz}
variable {d g r room:Nat}
variable {ss:List Sp}
variable {vf vp:Value}
variable {w w1 w2:World}
set_option maxHeartbeats 4000000
set_option maxRecDepth 20000
open Go.RowKit
def ov7 (ss:List Sp) (q:Nat):List Sp:=if q=0 then ss else ss.set (q-1) { spAt ss (q-1) with own:=(spAt ss (q-1)).own-1,sd:=(spAt ss (q-1)).sd+1}
theorem Zdi (ss:List Sp) (q:Nat):(ov7 ss q).length=ss.length:=by
 unfold ov7;split
 ·rfl
 ·exact List.length_set
theorem RT7.trans (h:Mod S w w1) (hn:New S w S1) (k:RT7 w1 g S1 room ss fr w2):RT7 w g S room ss fr w2:=by
 obtain ⟨vp,vf,r,m,n⟩:=k;exact ⟨vp,vf,r,h.trans hn m,hn.trans h.size n⟩
theorem Zjb (h:Rs w g vp vf room ss fr) (q:Nat) (hq:q=0∨(spAt ss (q-1)).kind≠0∧0<(spAt ss (q-1)).own∧(spAt ss (q-1)).own+(spAt ss (q-1)).sd≤1073741824):Kc 197 #[.pointer (some ⟨g,0,none⟩),.int .i64 (q:Int)] w fun e w'=>e=.returned (.tuple #[])∧RT7 w g (rsB g vp vf ss) room (ov7 ss q) fr w':=by
 by_cases q0:q=0
 ·subst q0;refine (Zng g w).mono ?_;rintro e w' ⟨rfl,rfl⟩;exact ⟨rfl,vp,vf,h,Mod.refl _ _,New.refl _ _⟩
 ·obtain ⟨h1,h2,h3⟩:(spAt ss (q-1)).kind≠0∧0<(spAt ss (q-1)).own∧(spAt ss (q-1)).own+(spAt ss (q-1)).sd≤1073741824:=by
   rcases hq with e | e
   ·exact absurd e q0
   ·exact e
  have:=Zug h (q-1) h1 ((spAt ss (q-1)).own-1) (by omega) h3;rw [show (((q-1:Nat):Int)+1)=(q:Int) by omega] at this;unfold ov7;rw [if_neg q0];exact this
theorem Yds (h:Rs w g vp vf room ss fr) (d l r:Int) (hd:d<0∨256≤d):Kc 175 #[.pointer (some ⟨g,0,none⟩),.int .i64 d,.int .i64 l,.int .i64 r] w fun e w'=>e=.returned (.tuple #[.int .i64 0,.int .i64 2])∧Kb w w':=by
 have c0:=h.c0;clear h
 by_cases h0:d<0
 ·clear hd;go_enter Tryz.func175,Tryz.ntmps175
  go_wp2_with (go_at_call 88;refine (Zz g _ c0).mono ?_;rintro e w' ⟨rfl,hx⟩;rw [hx];clear hx w')
  go_ret2;exact ⟨rfl,Below.refl _ _⟩
 ·have h1:256≤d:=by omega
  clear hd;go_enter Tryz.func175,Tryz.ntmps175
  go_wp2_with (go_at_call 88;refine (Zz g _ c0).mono ?_;rintro e w' ⟨rfl,hx⟩;rw [hx];clear hx w')
  go_ret2;exact ⟨rfl,Below.refl _ _⟩
def Fit7 (w:World) (g d:Nat) (l r:Int) (f:Bool):Prop:=Kr w 196 #[.pointer (some ⟨g,0,none⟩),.int .i64 (d:Int),.int .i64 l,.int .i64 r] (.bool f)
def Ov7 (ss:List Sp) (q:Nat):Prop:=q=0∨(spAt ss (q-1)).kind≠0∧0<(spAt ss (q-1)).own∧(spAt ss (q-1)).own+(spAt ss (q-1)).sd≤1073741824
theorem Zrg (h:Rs w g vp vf room ss fr) (hfr:∀s∈fr,1≤s∧s≤ss.length) (R:Rel7 cs [] [] ss) (W:Wf cs []) (d l r:Nat) (hd:d<256) (ml:mayP cs (l:Int)) (mr:mayP cs (r:Int)) (hf:Fit7 w g d l r true) (hfu: ¬Full room ss fr) (h6:ss.length+1≤65536) (ol:Ov7 ss l) (orr:Ov7 (ov7 ss l) r):Kc 175 #[.pointer (some ⟨g,0,none⟩),.int .i64 (d:Int),.int .i64 (l:Int),.int .i64 (r:Int)] w fun e w'=>e=.returned (.tuple #[.int .i64 (tkH ss fr:Int),.int .i64 0])∧RT7 w g (rsB g vp vf ss) room (tkC (ov7 (ov7 ss l) r) fr (own1 (in7 d l r))) fr.dropLast w':=by
 have c0:=h.c0;have z0: ¬(d:Int)<0:=by omega
 have z1: ¬256≤(d:Int):=by omega
 have HL:=Za (Ygq h R W (l:Int) true (by simp [ml]));have HR:Hid (Kr w 195 #[.pointer (some ⟨g,0,none⟩),.int .i64 (r:Int)] (.bool true)):=fun w' hb=>Ygq (h.grow hb) R W (r:Int) true (by simp [mr])
 have HFU:Hid (Kr w 171 #[.pointer (some ⟨g,0,none⟩)] (.bool false)):=fun w' hb=>Zjc (h.grow hb) false (by simp [hfu])
 have HF:=Za hf;have HO1:Hid (∀w',Kb w w'→Kc 197 #[.pointer (some ⟨g,0,none⟩),.int .i64 (l:Int)] w' fun e w''=>e=.returned (.tuple #[])∧RT7 w g (rsB g vp vf ss) room (ov7 ss l) fr w''):=fun w' hb=>(Zjb (h.grow hb) l ol).mono fun e w'' ⟨e1,t⟩=>⟨e1,RT7.trans (Mod.of_below hb _) (New.refl _ _) t⟩
 have HO2:Hid (∀w',RT7 w g (rsB g vp vf ss) room (ov7 ss l) fr w'→Kc 197 #[.pointer (some ⟨g,0,none⟩),.int .i64 (r:Int)] w' fun e w''=>e=.returned (.tuple #[])∧RT7 w g (rsB g vp vf ss) room (ov7 (ov7 ss l) r) fr w''):=fun w' ⟨vp1,vf1,r1,m1,n1⟩=>(Zjb r1 r orr).mono fun e w'' ⟨e1,t⟩=>⟨e1,RT7.trans m1 n1 t⟩
 have hlen:(ov7 (ov7 ss l) r).length=ss.length:=by rw [Zdi,Zdi]
 have htk:tkH (ov7 (ov7 ss l) r) fr=tkH ss fr:=by unfold tkH;rw [hlen]
 have HTK:Hid (∀w',RT7 w g (rsB g vp vf ss) room (ov7 (ov7 ss l) r) fr w'→Kc 172 #[.pointer (some ⟨g,0,none⟩),.agg (sz7 (in7 d l r)).toArray] w' fun e w''=>e=.returned (.int .i64 (tkH ss fr:Int))∧RT7 w g (rsB g vp vf ss) room (tkC (ov7 (ov7 ss l) r) fr (own1 (in7 d l r))) fr.dropLast w''):=fun w' ⟨vp1,vf1,r1,m1,n1⟩=>by
  have:=Zja (Below.refl _ w') r1 (by rw [hlen];exact hfr) (in7 d l r) (Yhg d l r) (by show ¬(2:Int)=0;omega) ⟨[],Own.nil _ _⟩ (fun k hk=>by cases hk) (by rw [hlen];exact h6);rw [htk] at this;exact this.mono fun e w'' ⟨e1,t,_⟩=>⟨e1,RT7.trans m1 n1 t⟩
 have HBU:=Za (Zxk d l r);generalize sz7 (in7 d l r)=X at HTK HBU;generalize (tkH ss fr:Int)=tk at HTK ⊢;generalize RT7 w g (rsB g vp vf ss) room (tkC (ov7 (ov7 ss l) r) fr (own1 (in7 d l r))) fr.dropLast=PQ at HTK ⊢;generalize RT7 w g (rsB g vp vf ss) room (ov7 (ov7 ss l) r) fr=P2 at HTK HO2;generalize RT7 w g (rsB g vp vf ss) room (ov7 ss l) fr=P1 at HO1 HO2;generalize (l:Int)=ly at HL HF HO1 HBU ⊢;generalize (r:Int)=ry at HR HF HO2 HBU ⊢;clear h R W ml mr hf hfu hlen htk ol orr hfr;go_enter Tryz.func175,Tryz.ntmps175
 go_wp2_with (first
  |(go_at_call 88;refine (Zz g _ c0).mono ?_;rintro e w' ⟨rfl,hx⟩;rw [hx];clear hx w')
  |(go_at_call 195;first | (refine (HR.out _ b1).mono ?_;rintro e w2 ⟨rfl,b2⟩;have b3:=Zb b1 b2) | (refine HL.out.mono ?_;rintro e w1 ⟨rfl,b1⟩))
  |(go_at_call 196;refine (HF.out _ b3).mono ?_;rintro e w4 ⟨rfl,b4⟩;have b5:=Zb b3 b4)
  |(go_at_call 171;refine (HFU.out _ b5).mono ?_;rintro e w6 ⟨rfl,b6⟩;have b7:=Zb b5 b6)
  |(go_at_call 197;first | (refine (HO2.out _ p1.out).mono ?_;rintro e w9 ⟨rfl,q2⟩;have p2:=Za q2;clear q2) | (refine (HO1.out _ b7).mono ?_;rintro e w8 ⟨rfl,q1⟩;have p1:=Za q1;clear q1))
  |((with_reducible refine Yfr ?_);refine Zas _ rfl _ _ rfl _ (by rw [List.map_toArray];exact HBU.out) ?_)
  |(go_at_call 172;refine (HTK.out _ p2.out).mono ?_;rintro e w10 ⟨rfl,q3⟩;have p3:=Za q3;clear q3))
 go_ret2;exact ⟨rfl,p3.out⟩
structure Sc (c:Ce) (o a:Nat) (s:Sp):Prop where
 kind:s.kind=c.kind
 d:s.d=c.dp
 key:c.kind=1→s.key=c.key
 bs:s.bs=c.bs
 l:s.l=c.l
 r:s.r=c.r
 own:s.own=o
 sd:s.sd=a
theorem Rel7.at (h:Rel7 cs [] [] ss) (i:Nat):Sc (ce cs i) (Go.Proofs.YtlclabbnpjobgaaGreatDoor.own cs [] i) (ce cs i).ab (spAt ss i):=⟨h.kind i,h.d i,h.key i,h.bs i,h.l i,h.r i,h.own i,by have:=h.sd i;rwa [List.count_nil] at this⟩
theorem Rel7.of (hl:ss.length=cs.length) (h:∀i,Sc (ce cs i) (Go.Proofs.YtlclabbnpjobgaaGreatDoor.own cs [] i) (ce cs i).ab (spAt ss i)):Rel7 cs [] [] ss:=⟨hl,fun i=>(h i).kind,fun i=>(h i).d,fun i=>(h i).key,fun i=>(h i).bs,fun i=>(h i).l,fun i=>(h i).r,fun i=>(h i).own,fun i=>by rw [List.count_nil];exact (h i).sd⟩
theorem Rel7.new:Rel7 [] [] [] []:=Rel7.of rfl fun i=>⟨rfl,rfl,fun e=>absurd e (by show ¬(0:Int)=1;omega),rfl,rfl,rfl,rfl,rfl⟩
theorem Zgc {α β:Type} {xs:List α} {ys:List β} (fr:List Nat) (h:xs.length=ys.length):tkH xs fr=tkH ys fr:=by
 unfold tkH;rw [h]
theorem Zti (ss:List Sp) (j:Nat) (s:Sp):spAt (ss++[s]) j=if j=ss.length then s else spAt ss j:=by
 unfold spAt
 by_cases e:j=ss.length
 ·subst e;simp
 ·rw [if_neg e]
  by_cases hl:j<ss.length
  ·rw [List.getElem?_append_left hl]
  ·rw [List.getElem?_eq_none (by simp;omega),List.getElem?_eq_none (by omega)]
theorem tk7 (hF:∀s∈fr,1≤s∧s≤ss.length) (x:Sp):1≤tkH ss fr∧(tkC ss fr x).length=max ss.length (tkH ss fr-1+1)∧∀j,spAt (tkC ss fr x) j=if j=tkH ss fr-1 then x else spAt ss j:=by
 rcases Zeo ss fr with ⟨s,fr0,rfl,e1,e2⟩ | ⟨rfl,e1,e2⟩
 ·obtain ⟨h1,h2⟩:=hF s (by simp);rw [e1,e2];exact ⟨h1,by simp;omega,fun j=>Zdl ss _ j x (by omega)⟩
 ·rw [e1,e2];exact ⟨by omega,by simp,fun j=>Zti ss j x⟩
theorem Zve (ss:List Sp) (q:Nat) (hq:q-1<ss.length∨q=0) (j:Nat):spAt (ov7 ss q) j=if q=j+1 then { spAt ss j with own:=(spAt ss j).own-1,sd:=(spAt ss j).sd+1} else spAt ss j:=by
 unfold ov7
 by_cases q0:q=0
 ·rw [if_pos q0,if_neg (by omega)]
 ·rw [if_neg q0,Zdl ss _ j _ (by omega)]
  by_cases e:j=q-1
  ·rw [if_pos e,if_pos (by omega),e]
  ·rw [if_neg e,if_neg (by omega)]
theorem FrOk.slots (h:FrOk cs fr) (hl:ss.length=cs.length):∀s∈fr,1≤s∧s≤ss.length:=fun s hs=>by
 obtain ⟨h1,h2,_⟩:=h s hs;exact ⟨h1,by omega⟩
theorem Rel7.leaf (h:Rel7 cs [] [] ss) (hF:FrOk cs fr) (D K:Lq) (v v':Value) (bs:Lq):Rel7 (tkC cs fr (1,lfC D K v bs)) [] [] (tkC ss fr (own1 (lf7 K v' bs))):=by
 obtain ⟨t1,tk⟩:=Zgb hF (1,lfC D K v bs);have he:=Zgc fr h.len;obtain ⟨_,l2,at2⟩:=tk7 (hF.slots h.len) (own1 (lf7 K v' bs));refine Rel7.of (by rw [l2,tk.len,h.len,he]) fun i=>?_
 have hown:Go.Proofs.YtlclabbnpjobgaaGreatDoor.own (tkC cs fr (1,lfC D K v bs)) [] i=if i=tkH cs fr-1 then 1 else Go.Proofs.YtlclabbnpjobgaaGreatDoor.own cs [] i:=by
  unfold Go.Proofs.YtlclabbnpjobgaaGreatDoor.own;rw [tk.cc,tk.ce];split
  ·simp [lfC]
  ·rfl
 rw [at2,tk.ce,hown,he]
 by_cases e:i=tkH cs fr-1
 ·rw [if_pos e,if_pos e,if_pos e];exact ⟨rfl,rfl,fun _=>rfl,rfl,rfl,rfl,rfl,rfl⟩
 ·rw [if_neg e,if_neg e,if_neg e];exact h.at i
theorem Rel7.more (h:Rel7 cs [] [] ss) (W:Wf cs []) {i:Nat} (hi:0<cc cs i):Rel7 (moreC cs i) [] [] (ss.set i { spAt ss i with own:=(spAt ss i).own+1}):=by
 have hl:=Zaw hi;refine Rel7.of (by rw [List.length_set,Zhz,h.len]) fun j=>?_
 have hle:=W.le j;rw [List.count_nil] at hle;have hown:Go.Proofs.YtlclabbnpjobgaaGreatDoor.own (moreC cs i) [] j=Go.Proofs.YtlclabbnpjobgaaGreatDoor.own cs [] j+(if i=j then 1 else 0):=by
  unfold Go.Proofs.YtlclabbnpjobgaaGreatDoor.own;rw [Zev hi,Zcv,List.count_nil];omega
 rw [Zdl ss i j _ (by rw [h.len];exact hl),Zcv,hown];have ha:=h.at j
 by_cases e:j=i
 ·subst e;rw [if_pos rfl,if_pos rfl];exact ⟨ha.kind,ha.d,ha.key,ha.bs,ha.l,ha.r,by show _+1=_;rw [ha.own],ha.sd⟩
 ·rw [if_neg e,if_neg (by omega)];exact ha
theorem mayP.inn (R:Rel7 cs [] [] ss) {q:Nat} (m:mayP cs (q:Int)):q-1<ss.length∨q=0:=by
 rcases m.side with e | ⟨_,e2,_⟩
 ·exact .inr e
 ·exact .inl (by rw [R.len];exact Zaw e2)
theorem Rel7.inner {l:Nat} (h:Rel7 cs [] [] ss) (W:Wf cs []) (W':Wf cs' []) (hF:FrOk cs fr) (hml:mayP cs (l:Int)) (hmr:mayP cs (r:Int)) (hI:InnR cs fr d l r cs'):Rel7 cs' [] [] (tkC (ov7 (ov7 ss l) r) fr (own1 (in7 d l r))):=by
 obtain ⟨ho,_,_,hv,h1,_,_,_,_⟩:=Zln W W' hF hml hmr hI;obtain ⟨KF,hKF,rfl⟩:=hI;obtain ⟨X,hX⟩:∃X,X=inC (inD (sdD cs l) (sdD cs r)) KF ((sdC cs l).sz+(sdC cs r).sz) d l r:=⟨_,rfl⟩;rw [← hX] at W' ho ⊢;obtain ⟨t1,tk⟩:=Zgb hF (1,X);have he:=Zgc fr h.len;have ln:(ov7 (ov7 ss l) r).length=ss.length:=by rw [Zdi,Zdi]
 have hb:=Zgc (xs:=ov7 (ov7 ss l) r) (ys:=ss) fr ln;obtain ⟨_,l2,at2⟩:=tk7 (ss:=ov7 (ov7 ss l) r) (fr:=fr) (by rw [ln];exact hF.slots h.len) (own1 (in7 d l r));have u1:=Zcg (tkC cs fr (1,X)) l;have uu:=u1.trans (Zcg (upA (tkC cs fr (1,X)) l) r);have sl:∀q:Nat,mayP cs (q:Int)→(q≠0→0<cc cs (q-1))∧(q-1<(tkC cs fr (1,X)).length∨q=0):=fun q m=>by
  rcases m.side with e | ⟨e1,e2,_⟩
  ·exact ⟨fun q0=>absurd e q0,.inr e⟩
  ·have:=Zaw e2;rw [tk.len];exact ⟨fun _=>e2,.inl (by omega)⟩
 obtain ⟨l1,l3⟩:=sl l hml;obtain ⟨r1,r3⟩:=sl r hmr;have hab:∀i,(ce (upA (upA (tkC cs fr (1,X)) l) r) i).ab=(ce (tkC cs fr (1,X)) i).ab+(if l=i+1 then 1 else 0)+(if r=i+1 then 1 else 0):=fun i=>by
  rw [Zez _ r i (by rw [u1.len];exact r3),Zez _ l i l3]
 have nv:∀q:Nat,(q≠0→0<cc cs (q-1))→q≠tkH cs fr:=fun q hq e=>by
  have h1:=hq (by omega);rw [e,tk.vac] at h1;omega
 refine Rel7.of (by rw [l2,uu.len,tk.len,ln,h.len,hb,he]) fun i=>?_
 have hoi:=ho i;have hai:=hab i;have hci:=uu.core i;have hsi:=at2 i;rw [hb,he] at hsi;rw [tk.ce] at hai hci
 by_cases e:i=tkH cs fr-1
 ·have e2:tkH cs fr=i+1:=by omega
  have n1: ¬l=i+1:=by rw [← e2];exact nv l l1
  have n2: ¬r=i+1:=by rw [← e2];exact nv r r1
  rw [if_pos e] at hsi hai hci;rw [if_neg n1,if_neg n2] at hai hoi;have hv2:Go.Proofs.YtlclabbnpjobgaaGreatDoor.own cs [] i=0:=by
   unfold Go.Proofs.YtlclabbnpjobgaaGreatDoor.own;rw [e,tk.vac];omega
  rw [if_pos e2,hv2] at hoi;rw [hsi];have xa:X.ab=0:=by rw [hX];rfl
  refine ⟨?_,?_,fun k=>?_,?_,?_,?_,by show (1:Nat)=_;omega,by show (0:Nat)=_;rw [hai];show 0=X.ab+0+0;omega⟩
  ·rw [hci,hX];rfl
  ·rw [hci,hX];rfl
  ·rw [hci,hX] at k;exact absurd k (by show ¬(2:Int)=1;omega)
  ·rw [hci,hX];rfl
  ·rw [hci,hX];rfl
  ·rw [hci,hX];rfl
 ·rw [if_neg e] at hsi hai hci;rw [if_neg (show ¬tkH cs fr=i+1 by omega)] at hoi;rw [Zve _ r (by rw [Zdi];exact hmr.inn h),Zve _ l (hml.inn h)] at hsi;have ha:=h.at i;have ho1:=ha.own;have hs1:=ha.sd;rw [hsi]
  by_cases el:l=i+1
  ·by_cases er:r=i+1
   ·rw [if_pos el] at hai hoi;rw [if_pos er] at hai hoi;rw [if_pos er,if_pos el];refine ⟨?_,?_,fun k=>?_,?_,?_,?_,?_,?_⟩
    ·rw [hci];exact ha.kind
    ·rw [hci];exact ha.d
    ·rw [hci] at k ⊢;exact ha.key k
    ·rw [hci];exact ha.bs
    ·rw [hci];exact ha.l
    ·rw [hci];exact ha.r
    ·show _-1-1=_;omega
    ·show _+1+1=_;omega
   ·rw [if_pos el] at hai hoi;rw [if_neg er] at hai hoi;rw [if_neg er,if_pos el];refine ⟨?_,?_,fun k=>?_,?_,?_,?_,?_,?_⟩
    ·rw [hci];exact ha.kind
    ·rw [hci];exact ha.d
    ·rw [hci] at k ⊢;exact ha.key k
    ·rw [hci];exact ha.bs
    ·rw [hci];exact ha.l
    ·rw [hci];exact ha.r
    ·show _-1=_;omega
    ·show _+1=_;omega
  ·by_cases er:r=i+1
   ·rw [if_neg el] at hai hoi;rw [if_pos er] at hai hoi;rw [if_pos er,if_neg el];refine ⟨?_,?_,fun k=>?_,?_,?_,?_,?_,?_⟩
    ·rw [hci];exact ha.kind
    ·rw [hci];exact ha.d
    ·rw [hci] at k ⊢;exact ha.key k
    ·rw [hci];exact ha.bs
    ·rw [hci];exact ha.l
    ·rw [hci];exact ha.r
    ·show _-1=_;omega
    ·show _+1=_;omega
   ·rw [if_neg el] at hai hoi;rw [if_neg er] at hai hoi;rw [if_neg er,if_neg el];refine ⟨?_,?_,fun k=>?_,?_,?_,?_,by omega,by omega⟩
    ·rw [hci];exact ha.kind
    ·rw [hci];exact ha.d
    ·rw [hci] at k ⊢;exact ha.key k
    ·rw [hci];exact ha.bs
    ·rw [hci];exact ha.l
    ·rw [hci];exact ha.r
theorem Ygz (R:Rel7 cs [] [] ss) (W:Wf cs []) (hM:∀i,cc cs i≤1073741824) {l:Nat} (ml:mayP cs (l:Int)):Ov7 ss l:=by
 rcases ml.side with e | ⟨_,e2,e3⟩
 ·exact .inl e
 ·have hle:=W.le (l-1);have h1:=R.own (l-1);have h2:=R.sd (l-1);have hm:=hM (l-1);rw [List.count_nil] at hle h2;unfold Go.Proofs.YtlclabbnpjobgaaGreatDoor.own at h1;rw [List.count_nil] at h1;exact .inr ⟨(R.inn W _).2 e2,by omega,by omega⟩
theorem Yix (R:Rel7 cs [] [] ss) (W:Wf cs []) (hM:∀i,cc cs i≤1073741824) {l r:Nat} (ml:mayP cs (l:Int)) (mr:mayP cs (r:Int)) (hne:l≠0→l≠r):Ov7 (ov7 ss l) r:=by
 rcases Ygz R W hM mr with e | e
 ·exact .inl e
 ·by_cases r0:r=0
  ·exact .inl r0
  ·refine .inr ?_;rw [Zve _ l (ml.inn R),if_neg (by intro e2;exact hne (by omega) (by omega))];exact e
def SamE (es:List Ent) (d:Nat):Prop:=∀a∈es,∀b∈es,∀j,j<d→kb a.1 j=kb b.1 j
def HnPost (hs:List Nat) (w:World) (e:Ending) (w':World):Prop:=
 ∃a c,e=.returned (.slice a hs.length c)∧w'.ownsRow w.heap.size 3 1 (.slice a hs.length c) hs.length (nats hs)∧Kb w w'
theorem Yiu (h:Rs w g vp vf room ss fr) (R:Rel7 cs [] [] ss) (W:Wf cs []) (h6:cs.length≤5000):Kc 148 #[.pointer (some ⟨g,0,none⟩)] w (HnPost (slotsOf (cs.map pl)) w):=by
 have HC:Hid (∀w',Kb w w'→w'.cell? ⟨g,0,none⟩=some (.bool true)∧w'.cell? ⟨g,2,none⟩=some vp):=fun w' hb=>⟨(h.grow hb).c0,(h.grow hb).c2⟩
 obtain ⟨pa,pc,hvp⟩:=Zj h.sps;obtain ⟨n,hn⟩:∃n,n=ss.length:=⟨_,rfl⟩;rw [← hn] at hvp;have hn6:n≤5000:=by rw [hn,R.len];exact h6
 rw [hvp] at HC;have HH:Hid (∀w' (k:Nat) (b:Bool),Kb w w'→(b=true↔0<cnt (cs.map pl) k)→Kc 89 #[.pointer (some ⟨g,0,none⟩),.int .i64 ((k:Int)+1)] w' fun e w''=>e=.returned (.bool b)∧w''=w'):=fun w' k b hb hbk=>by
  have:=Zbr (h.grow hb) ((k:Int)+1);rw [Zeb] at this;rwa [show decide ((spAt ss k).kind≠0)=b by
   have h1:=R.inn W k;rw [Zae] at hbk;cases b with
   | true=>simp;exact h1.2 (hbk.1 rfl)
   | false=>
    simp;apply Classical.byContradiction;intro hne;have:=hbk.2 (h1.1 hne);cases this] at this
 have HPost:Hid (∀(hs:List Nat) (a:Option Addr) (m c:Nat) w',m=hs.length→hs=slotsOf (cs.map pl)→w'.ownsRow w.heap.size 3 1 (.slice a m c) m (nats hs)→Kb w w'→HnPost (slotsOf (cs.map pl)) w (.returned (.slice a m c)) w'):=fun hs a m c w' e1 e2 o b=>by
  subst e1;subst e2;exact ⟨a,c,rfl,o,b⟩
 generalize HnPost (slotsOf (cs.map pl)) w=PP at HPost ⊢;have HLN:Hid (n=(cs.map pl).length):=by rw [hn,List.length_map];exact R.len
 clear h R W h6 hvp hn;go_enter Tryz.func148,Tryz.ntmps148
 go_wp2_with fail
 go_loopw [3,4] (fun s i wr=>∃(k m:Nat) (hs:List Nat) (sa:Option Addr) (sc:Nat),k≤n∧m≤k∧i=.int .i64 ((k:Int)+1)∧s=.slice sa m sc∧Hid (m=hs.length)∧Hid (hs=slotsK (cs.map pl) k)∧Hid (wr.ownsRow w.heap.size 3 1 (.slice sa m sc) m (nats hs))∧Hid (Kb w wr)) (fun _ i _=>5100-(intOf i).toNat)
 case atStart=>exact ⟨0,0,[],none,0,by omega,by omega,rfl,rfl,rfl,rfl,World.ownsRow_nil _ _ _ _,Below.refl _ _⟩
 case round=>
  obtain ⟨k,m,hs,sa,sc,hk,hmk,rfl,rfl,hm,hsl,ho,hbw⟩:=hrel;obtain ⟨cz0,cz2⟩:=HC.out _ hbw.out
  by_cases hlt:k<n
  ·have z1:(k:Int)+1≤(n:Int):=by omega
   have hwk:wrap64 ((k:Int)+1+1)=(k:Int)+1+1:=Go.IntWalk.wrap64_in _ (by omega)
   by_cases hc:0<cnt (cs.map pl) k
   ·have HHk:=Za (HH.out wr k true hbw.out (by simp [hc]));have HS2:Hid (hs++[k+1]=slotsK (cs.map pl) (k+1)):=by show _=_;rw [Zeq _ _ hc,hsl.out]
    obtain ⟨yk,hyk⟩:∃y:Int,y=(k:Int)+1:=⟨_,rfl⟩;have HYK:=Za hyk;have HO1:=Za (Zl ho.out (Zc wr (.cells #[.int .i64 ((k:Int)+1)] 3)));clear hc hyk
    go_wp2_with (first
     |(go_at_call 88;refine (Zz g _ cz0).mono ?_;rintro e w' ⟨rfl,hx⟩;rw [hx];clear hx w')
     |(go_at_call 89;refine HHk.out.mono ?_;rintro e w' ⟨rfl,hx⟩;rw [hx];clear hx w')
     |(at_builtin;refine Zai _ rfl _ _ _ rfl w.heap.size 3 1 8 Tryz.underlying28 Zah (by omega) _ m (nats hs) rfl HO1.out wr.heap.size [Value.int .i64 ((k:Int)+1)] rfl (Blk.new _ _ _) rfl (by intro u hu;simp at hu;subst hu;rfl) (by simp only [maxLen];omega) (by omega) (Nat.le_trans hbw.out.size (by simp)) ?_;intro a4 c4 w4 o4 g4;have HO4:=Za o4;have HB4:=Za (Zaf (Zb hbw.out (Zc wr (.cells #[.int .i64 ((k:Int)+1)] 3))) HO1.out (Nat.le_refl _) g4);clear o4 g4))
    have ho4:=HO4.out;rw [show ((k:Int)+1)=((k+1:Nat):Int) by omega,← Zan] at ho4;exact ⟨⟨k+1,m+1,hs++[k+1],a4,c4,by omega,by omega,by simp,rfl,by rw [List.length_append,List.length_singleton,← hm.out];exact rfl,HS2,Za ho4,HB4⟩,by simp [intOf];omega⟩
   ·have HHk:=Za (HH.out wr k false hbw.out (by simp [hc]));have HS2:Hid (hs=slotsK (cs.map pl) (k+1)):=by show _=_;rw [Zfk _ _ hc,hsl.out]
    clear hc
    go_wp2_with (first
     |(go_at_call 88;refine (Zz g _ cz0).mono ?_;rintro e w' ⟨rfl,hx⟩;rw [hx];clear hx w')
     |(go_at_call 89;refine HHk.out.mono ?_;rintro e w' ⟨rfl,hx⟩;rw [hx];clear hx w'))
    exact ⟨⟨k+1,m,hs,sa,sc,by omega,by omega,by simp,rfl,hm,HS2,ho,hbw⟩,by simp [intOf];omega⟩
  ·obtain rfl:k=n:=by omega
   have z1: ¬(k:Int)+1≤(k:Int):=by omega
   go_wp2_with (first
    |(go_at_call 88;refine (Zz g _ cz0).mono ?_;rintro e w' ⟨rfl,hx⟩;rw [hx];clear hx w'))
   exact HPost.out hs sa m sc _ hm.out (by rw [hsl.out,slotsOf,← HLN.out]) ho.out hbw.out
theorem Yis (h:Rs w g vp vf room ss fr) (R:Rel7 cs [] [] ss) (W:Wf cs []) (h6:cs.length≤5000):Kc 99 #[.pointer (some ⟨g,0,none⟩)] w fun e w'=>e=.returned (.int .i64 (noc cs:Int))∧Kb w w':=by
 have HH:=Za (Yiu h R W h6);have hl:(slotsOf (cs.map pl)).length=noc cs:=Zbf _;have HE:Hid (Kc 148 #[.pointer (some ⟨g,0,none⟩)] w fun e w'=>∃a c,e=.returned (.slice a (noc cs) c)∧Kb w w'):=HH.out.mono fun e w' ⟨a,c,e1,_,b⟩=>⟨a,c,by rw [← hl];exact e1,b⟩
 generalize noc cs=n at HE ⊢;clear h R W h6 HH hl;go_enter Tryz.func99,Tryz.ntmps99
 go_wp2_with (go_at_call 148;refine HE.out.mono ?_;rintro e w1 ⟨a,c,rfl,b1⟩)
 go_ret;exact ⟨rfl,b1⟩
end Go.Proofs.YtlclabbnpjobgaaGreatDoor
