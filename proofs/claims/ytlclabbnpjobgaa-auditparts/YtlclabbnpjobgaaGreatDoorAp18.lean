/- Calls of a store, as contracts: New, Hold, Occupied, Room, Handles; whether sides fit; how many sides a node is. -/
import Derived.Test.YtlclabbnpjobgaaGreatDoorAp17
namespace Go.Proofs.YtlclabbnpjobgaaGreatDoor
variable {b g gs i room:Nat}
variable {cs:Lz}
variable {fr:List Nat}
variable {mk:Bool}
variable {v vf vp:Value}
variable {w w1:World}
set_option maxHeartbeats 4000000
set_option maxRecDepth 20000
open Go.RowKit
theorem Yei (room:Nat) (w:World) (h1:1≤room) (h2:room≤65536):Kc 37 #[.int .i64 (room:Int)] w fun e w'=>∃g gs,e=.returned (.tuple #[.pointer (some ⟨g,0,none⟩),.int .i64 0])∧w.heap.size≤g∧w.heap.size≤gs∧Stm w' g gs (.slice none 0 0) (.slice none 0 0) room [] []∧Kb w w':=by
 have HN:=Za (Yeg room w h1 h2);clear h1 h2;go_enter Tryz.func37,Tryz.ntmps37
 go_wp2_with (go_at_call 73;refine HN.out.mono ?_;rintro e w1 ⟨gs,rfl,hg,S1,b1⟩;have HS1:=Za S1;have Hb1:=Za b1;have Hg:=Za hg;clear S1 b1 hg)
 go_ret2;exact ⟨w1.heap.size,gs,rfl,Hb1.out.size,Hg.out,⟨Blk.new _ _ _,HS1.out.mod (Mod.alloc _ _ []) (fun _ _ h=>by cases h),fun i=>by simp only [ce,List.getElem?_nil,Option.getD_none];exact ⟨[],Own.nil _ _⟩⟩,Hb1.out.trans ((Zc w1 _).mono Hb1.out.size)⟩
theorem Zih (s:Stm w g gs vp vf room cs fr) (h q:Int) (P:World→Prop) (hc:Kc 87 #[.pointer (some ⟨gs,0,none⟩),.int .i64 h] w fun e w'=>e=.returned (.int .i64 q)∧P w'):Kc 53 #[.pointer (some ⟨g,0,none⟩),.int .i64 h] w fun e w'=>e=.returned (.int .i64 q)∧P w':=by
 have c0:=s.c0;have c1:=s.c1;have HC:=Za hc;clear s hc;go_enter Tryz.func53,Tryz.ntmps53
 go_wp2_with (first
  |(go_at_call 30;refine (Zax g _ c0).mono ?_;rintro e w' ⟨rfl,hx⟩;rw [hx];clear hx w')
  |(go_at_call 87;refine HC.out.mono ?_;rintro e w2 ⟨rfl,hp⟩;have HP:=Za hp;clear hp))
 go_ret;exact ⟨rfl,HP.out⟩
def moreC (cs:Lz) (i:Nat):Lz:=cs.set i (cc cs i+1,ce cs i)
theorem Zcv (cs:Lz) (i j:Nat):ce (moreC cs i) j=ce cs j:=by
 unfold moreC
 by_cases hi:i<cs.length
 ·rw [Zcm cs i j _ hi];split
  ·next e=>rw [e]
  ·rfl
 ·rw [List.set_eq_of_length_le (by omega)]
theorem Zwg (s:Stm w g gs vp vf room cs fr) (h:Int) (hc:cot cs h=0):Kc 53 #[.pointer (some ⟨g,0,none⟩),.int .i64 h] w fun e w'=>e=.returned (.int .i64 7)∧w'=w:=
 Zih s h 7 _ (Zwf gs vp vf room _ fr h w s.sl ((Zoc cs h).2 hc))
theorem Zrs (s:Stm w g gs vp vf room cs fr) (i:Nat) (hc:cc cs i=1073741824):Kc 53 #[.pointer (some ⟨g,0,none⟩),.int .i64 ((i:Int)+1)] w fun e w'=>e=.returned (.int .i64 4)∧w'=w:=
 Zih s _ 4 _ (Zrr gs vp vf room _ fr _ i w s.sl rfl (by rw [Zae];omega) (by rw [Zae];exact hc))
theorem Yas (s:Stm w g gs vp vf room cs fr) (i:Nat) (h0:0<cc cs i) (h1:cc cs i<1073741824):Kc 53 #[.pointer (some ⟨g,0,none⟩),.int .i64 ((i:Int)+1)] w fun e w'=>e=.returned (.int .i64 0)∧STurn w g gs (stB g gs vp vf cs) room (moreC cs i) fr w':=by
 refine Zih s _ 0 _ ((Yar gs vp vf room _ fr _ i w s.sl rfl (by rw [Zae];exact h0) (by rw [Zae];exact h1)).mono ?_);rintro e w' ⟨rfl,t⟩;rw [Zae,Zsy cs i (Zaw h0),map_set] at t;exact ⟨rfl,s.turn' (Below.refl _ _) t (fun j=>.inr ⟨j,by show (ce (moreC cs i) j).val=_;rw [Zcv],by show (ce (moreC cs i) j).bs=_;rw [Zcv]⟩)⟩
theorem Yed (s:Stm w g gs vp vf room cs fr):Kc 10 #[.pointer (some ⟨g,0,none⟩)] w fun e w'=>e=.returned (.int .i64 (noc cs:Int))∧Kb w w':=by
 have c0:=s.c0;have c1:=s.c1;have HC:=Za (Zvn gs vp vf room _ fr w s.sl);clear s;go_enter Tryz.func10,Tryz.ntmps10
 go_wp2_with (first
  |(go_at_call 30;refine (Zax g _ c0).mono ?_;rintro e w' ⟨rfl,hx⟩;rw [hx];clear hx w')
  |(go_at_call 31;refine HC.out.mono ?_;rintro e w1 ⟨rfl,b1⟩))
 go_ret;exact ⟨rfl,b1⟩
theorem Zzf (s:Stm w g gs vp vf room cs fr):Kc 98 #[.pointer (some ⟨g,0,none⟩)] w fun e w'=>e=.returned (.int .i64 (room:Int))∧Kb w w':=by
 have c0:=s.c0;have c1:=s.c1;have HC:=Za (Zze gs vp vf room _ fr w s.sl);clear s;go_enter Tryz.func98,Tryz.ntmps98
 go_wp2_with (first
  |(go_at_call 30;refine (Zax g _ c0).mono ?_;rintro e w' ⟨rfl,hx⟩;rw [hx];clear hx w')
  |(go_at_call 147;refine HC.out.mono ?_;rintro e w' ⟨rfl,hx⟩;rw [hx];clear hx w'))
 go_ret;exact ⟨rfl,Below.refl _ _⟩
theorem Yey (s:Stm w g gs vp vf room cs fr):Kc 29 #[.pointer (some ⟨g,0,none⟩)] w fun e w'=>∃a c,e=.returned (.slice a (slotsOf (cs.map pl)).length c)∧w'.ownsRow w.heap.size 3 1 (.slice a (slotsOf (cs.map pl)).length c) (slotsOf (cs.map pl)).length (nats (slotsOf (cs.map pl)))∧Kb w w':=by
 have c0:=s.c0;have c1:=s.c1;have HC:=Za (Ztl gs vp vf room _ fr w s.sl);clear s;go_enter Tryz.func29,Tryz.ntmps29
 go_wp2_with (first
  |(go_at_call 30;refine (Zax g _ c0).mono ?_;rintro e w' ⟨rfl,hx⟩;rw [hx];clear hx w')
  |(go_at_call 66;refine HC.out.mono ?_;rintro e w1 ⟨a,c,rfl,o1,b1⟩))
 go_ret;exact ⟨a,c,rfl,o1,b1⟩
theorem Zef {ct:Int→Nat} {ca:Int→Ce} (V:Vw w v mk ct ca) (h:Int):Kc 165 #[v,.int .i64 h] w fun e w'=>e=.returned (.bool (decide (h=0∨(ca h).ab<ct h)))∧Kb w w':=by
 have HH:=Za (Zhf V h)
 by_cases h0:h=0
 ·subst h0;have e0:decide ((0:Int)=0∨(ca 0).ab<ct 0)=true:=by simp
  rw [e0];clear V e0;go_enter Tryz.func165,Tryz.ntmps165
  go_wp2
  go_ret;exact ⟨rfl,Below.refl _ _⟩
 ·have hb0:(h == 0)=false:=by simp [h0]
  have e0:decide (h=0∨(ca h).ab<ct h)=decide (0<ct h-(ca h).ab):=by
   have:(h=0∨(ca h).ab<ct h)↔(0<ct h-(ca h).ab):=by omega
   simp [this]
  rw [e0];obtain ⟨q,hq⟩:∃q,q=ct h-(ca h).ab:=⟨_,rfl⟩;rw [← hq] at HH;rw [← hq];have e1:decide ((0:Int)<(q:Int))=decide (0<q):=by simp
  clear V e0 h0 hq;go_enter Tryz.func165,Tryz.ntmps165
  go_wp2_with (go_at_call 91;refine HH.out.mono ?_;rintro e w1 ⟨rfl,b1⟩)
  go_ret;exact ⟨rfl,b1⟩
theorem Zbn {ops:Array Oper} {rest:List Oper} {op:Oper} {a:Act} {Q:Exit→Act→World→Prop} (w:World) (hgd:Region.wanted op (yielded ops a.tmps)=true) (ty:TypeId) (x:Operand) (ho:op.op=.load ty x)
  (b o:Nat) (hx:a.eval x=.pointer (some ⟨b,o,none⟩)) (cs:List Value) (d:TypeDesc) (hc:w.rangeAt b o cs) (hu:Tryz.prog.underlying ty=some d) (hd:d.isRow=true) (hi:(Tryz.prog.info? ty).map (·.size)=some cs.length)
  (h:wpList Tryz.prog ops Q rest (a.put op.dst (.agg cs.toArray)) w):wpList Tryz.prog ops Q (op::rest) a w:=
 BigFrame.wpList_want hgd fun _ hK=>wp_load_mid ty x ho b o hx cs d hc hu hd hi (hK _ _ h)
def fsP (c:Ce) (d:Nat) (b:Int):Bool:=if c.kind=1 then decide (kb c.key d=b) else if c.kind=2 then decide (c.dp=d+1) && decide (kb c.key d=b) else true
theorem Zjg {c:Ce} (h:CeOk c):(Tryz.prog.info? 48).map (·.size)=some (c.key.map (Value.int .u8)).length:=by rw [List.length_map,h.hk.1];exact Zi
theorem Zpz (c:Ce) (d:Nat) (b:Int) (w:World) (hc:CeOk c) (hd:d<256):Kc 191 #[.agg (cz c).toArray,.int .i64 (d:Int),.int .i64 b] w fun e w'=>e=.returned (.bool (fsP c d b))∧Kb w w':=by
 have HO:=Za hc;have HB:Hid (∀w',Kc 44 #[.agg (B c.key),.int .i64 (d:Int)] w' fun e w''=>e=.returned (.int .i64 (kb c.key d))∧Below w'.heap.size w' w''):=fun w'=>Ycp c.key d w' hc.hk hd
 obtain ⟨x,hx⟩:∃x,x=kb c.key d:=⟨_,rfl⟩;rw [← hx] at HB;have hw1:wrap64 ((d:Int)+1)=(d:Int)+1:=Go.IntWalk.wrap64_in _ (by omega)
 by_cases h1:c.kind=1
 ·have HV:Hid (fsP c d b=(x == b)):=by
   show _=_;rw [fsP,if_pos h1,← hx]
   by_cases e:x=b <;> simp [e]
  rw [HV.out];have HK:=Za h1;clear HV h1 hc hx hd hw1;go_enter Tryz.func191,Tryz.ntmps191
  go_wp2_with (first
   |((with_reducible refine Zo 3 ?_);refine Zd _ rfl _ _ rfl _ rfl ?_;intro w1 b3 hg3 hl3 B3 b1;have HB3:=Za B3;have c7:=B3.cell 32;simp only [List.getElem?_toArray] at c7;rw [(Zav c HO.out).1,HK.out] at c7;clear hg3 hl3 B3)
   |((with_reducible refine Zk 12 11 ?_);refine wpList_load_mid rfl _ _ rfl b3 35 rfl (c.key.map (Value.int .u8)) _ ((Ydd c HO.out).range HB3.out) Tryz.underlying48 rfl (Zjg HO.out) ?_)
   |(go_at_call 44;refine (HB.out _).mono ?_;rintro e w2 ⟨rfl,b2⟩))
  go_ret;exact ⟨rfl,Zb b1 b2⟩
 ·have n1:(c.kind == 1)=false:=by simp [h1]
  by_cases h2:c.kind=2
  ·by_cases h3:c.dp=d+1
   ·have HV:Hid (fsP c d b=(x == b)):=by
     show _=_;rw [fsP,if_neg h1,if_pos h2,← hx]
     by_cases e:x=b <;> simp [e,h3]
    rw [HV.out];have HK:=Za h2;have HD:Hid ((c.dp:Int)=(d:Int)+1):=by show (c.dp:Int)=_;omega
    clear HV h1 n1 h2 h3 hc hx hd;go_enter Tryz.func191,Tryz.ntmps191
    go_wp2_with (first
     |((with_reducible refine Zo 3 ?_);refine Zd _ rfl _ _ rfl _ rfl ?_;intro w1 b3 hg3 hl3 B3 b1;have HB3:=Za B3;have c7:=B3.cell 32;have c8:=B3.cell 68;simp only [List.getElem?_toArray] at c7 c8;rw [(Zav c HO.out).1,HK.out] at c7;rw [(Zav c HO.out).2.2.2.2.1,HD.out] at c8;clear hg3 hl3 B3)
     |((with_reducible refine Zk 26 25 ?_);refine Zbn _ rfl _ _ rfl b3 35 rfl (c.key.map (Value.int .u8)) _ ((Ydd c HO.out).range HB3.out) Tryz.underlying48 rfl (Zjg HO.out) ?_)
     |(go_at_call 44;refine (HB.out _).mono ?_;rintro e w2 ⟨rfl,b2⟩))
    go_ret;exact ⟨rfl,Zb b1 b2⟩
   ·have HV:Hid (fsP c d b=false):=by
     show _=_;rw [fsP,if_neg h1,if_pos h2];simp [h3]
    rw [HV.out];have HK:=Za h2;have hd1:((c.dp:Int) == (d:Int)+1)=false:=by simp;omega
    clear HV h1 n1 h2 h3 hc hx hd HB;go_enter Tryz.func191,Tryz.ntmps191
    go_wp2_with (first
     |((with_reducible refine Zo 3 ?_);refine Zd _ rfl _ _ rfl _ rfl ?_;intro w1 b3 hg3 hl3 B3 b1;have c7:=B3.cell 32;have c8:=B3.cell 68;simp only [List.getElem?_toArray] at c7 c8;rw [(Zav c HO.out).1,HK.out] at c7;rw [(Zav c HO.out).2.2.2.2.1] at c8;clear hg3 hl3 B3))
    go_ret;exact ⟨rfl,b1⟩
  ·have n2:(c.kind == 2)=false:=by simp [h2]
   have HV:Hid (fsP c d b=true):=by
    show _=_;rw [fsP,if_neg h1,if_neg h2]
   rw [HV.out];obtain ⟨k,hk⟩:∃k,k=c.kind:=⟨_,rfl⟩;have HK:=Za hk;rw [← hk] at n1 n2;clear HV h1 h2 hc hx hd HB hk;go_enter Tryz.func191,Tryz.ntmps191
   go_wp2_with (first
    |((with_reducible refine Zo 3 ?_);refine Zd _ rfl _ _ rfl _ rfl ?_;intro w1 b3 hg3 hl3 B3 b1;have c7:=B3.cell 32;simp only [List.getElem?_toArray] at c7;rw [(Zav c HO.out).1,← HK.out] at c7;clear hg3 hl3 B3))
   go_ret;exact ⟨rfl,b1⟩
def fitP (d:Nat) (L R:Ce) (u:Bool):Bool:=decide (2≤L.sz+R.sz) && (fsP L d 0 && (fsP R d 1 && (decide (L.kind=0) || (decide (R.kind=0) || u))))
theorem Zoa (d:Nat) (L R:Ce) (u:Bool) (w:World) (hL:CeOk L) (hR:CeOk R) (hd:d<256) (sL:L.sz≤65536) (sR:R.sz≤65536) (hu:u=true↔Und L.key R.key (d:Int)):Kc 166 #[.int .i64 (d:Int),.agg (cz L).toArray,.agg (cz R).toArray] w fun e w'=>e=.returned (.bool (fitP d L R u))∧Kb w w':=by
 have HOL:=Za hL;have HOR:=Za hR;have HFL:Hid (∀w',Kc 191 #[.agg (cz L).toArray,.int .i64 (d:Int),.int .i64 0] w' fun e w''=>e=.returned (.bool (fsP L d 0))∧Below w'.heap.size w' w''):=fun w'=>Zpz L d 0 w' hL hd
 have HFR:Hid (∀w',Kc 191 #[.agg (cz R).toArray,.int .i64 (d:Int),.int .i64 1] w' fun e w''=>e=.returned (.bool (fsP R d 1))∧Below w'.heap.size w' w''):=fun w'=>Zpz R d 1 w' hR hd
 have HU:Hid (∀w',Kc 119 #[.agg (B L.key),.agg (B R.key),.int .i64 (d:Int)] w' fun e w''=>e=.returned (.bool u)∧Below w'.heap.size w' w''):=fun w'=>Zyb L.key R.key d u w' hL.hk hR.hk hu
 have hws:wrap64 ((L.sz:Int)+(R.sz:Int))=(L.sz:Int)+(R.sz:Int):=Go.IntWalk.wrap64_in _ (by omega);have hV:fitP d L R u=(decide (2≤L.sz+R.sz) && (fsP L d 0 && (fsP R d 1 && (decide (L.kind=0) || (decide (R.kind=0) || u))))):=rfl;obtain ⟨kL,hkL⟩:∃k,k=L.kind:=⟨_,rfl⟩;obtain ⟨kR,hkR⟩:∃k,k=R.kind:=⟨_,rfl⟩;obtain ⟨zL,hzL⟩:∃k,k=L.sz:=⟨_,rfl⟩;obtain ⟨zR,hzR⟩:∃k,k=R.sz:=⟨_,rfl⟩;rw [← hkL,← hkR,← hzL,← hzR] at hV;rw [← hzL,← hzR] at hws;have HkL:=Za hkL;have HkR:=Za hkR;have HzL:=Za hzL;have HzR:=Za hzR;clear hkL hkR hzL hzR hu sL sR hL hR hd
 by_cases h2:2≤zL+zR
 ·have i2: ¬(zL:Int)+(zR:Int)<2:=by omega
  cases hfL:fsP L d 0 with
  | false=>
   rw [show fitP d L R u=false by rw [hV,hfL];simp];clear hV h2;go_enter Tryz.func166,Tryz.ntmps166
   go_wp2_with (first
    |((with_reducible refine Zo 4 ?_);refine Zd _ rfl _ _ rfl _ rfl ?_;intro w1 b4 hg4 hl4 B4 b1;have HB4:=Za B4;have Hl4:=Za hl4;clear hg4 hl4 B4)
    |((with_reducible refine Zo 5 ?_);refine Zd _ rfl _ _ rfl _ rfl ?_;intro w2 b5 hg5 hl5 B5 b2;have HB5:=Za B5;have HB4':=Za (HB4.out.grow b2);have e4:=HB4'.out.cell 34;have e5:=HB5.out.cell 34;simp only [List.getElem?_toArray] at e4 e5;rw [(Zav L HOL.out).2.2.1,← HzL.out] at e4;rw [(Zav R HOR.out).2.2.1,← HzR.out] at e5;have Hb2:=Za (Zb b1 b2);clear hg5 hl5 B5 b2 b1)
    |((with_reducible refine Zk 13 4 ?_);refine wpList_load_mid rfl _ _ rfl b4 0 rfl (cz L) _ HB4'.out.range Tryz.underlying88 rfl (Zco _ (Zar HOL.out)) ?_)
    |(go_at_call 191;refine (HFL.out _).mono ?_;rw [hfL];rintro e w3 ⟨rfl,b3⟩;have HB4m:=Za (HB4'.out.grow b3);have HB5m:=Za (HB5.out.grow b3);have Hb3:=Za b3;have m1:Hid True:=trivial;clear b3))
   go_ret;exact ⟨rfl,Zb Hb2.out Hb3.out⟩
  | true=>
   cases hfR:fsP R d 1 with
   | false=>
    rw [show fitP d L R u=false by rw [hV,hfL,hfR];simp];clear hV h2;go_enter Tryz.func166,Tryz.ntmps166
    go_wp2_with (first
     |((with_reducible refine Zo 4 ?_);refine Zd _ rfl _ _ rfl _ rfl ?_;intro w1 b4 hg4 hl4 B4 b1;have HB4:=Za B4;have Hl4:=Za hl4;clear hg4 hl4 B4)
     |((with_reducible refine Zo 5 ?_);refine Zd _ rfl _ _ rfl _ rfl ?_;intro w2 b5 hg5 hl5 B5 b2;have HB5:=Za B5;have HB4':=Za (HB4.out.grow b2);have e4:=HB4'.out.cell 34;have e5:=HB5.out.cell 34;simp only [List.getElem?_toArray] at e4 e5;rw [(Zav L HOL.out).2.2.1,← HzL.out] at e4;rw [(Zav R HOR.out).2.2.1,← HzR.out] at e5;have Hb2:=Za (Zb b1 b2);clear hg5 hl5 B5 b2 b1)
     |((with_reducible refine Zk 13 4 ?_);refine wpList_load_mid rfl _ _ rfl b4 0 rfl (cz L) _ HB4'.out.range Tryz.underlying88 rfl (Zco _ (Zar HOL.out)) ?_)
     |(go_at_call 191;have mk:=m1;clear mk;refine (HFR.out _).mono ?_;rw [hfR];rintro e w4 ⟨rfl,b4'⟩;have HB4n:=Za (HB4m.out.grow b4');have HB5n:=Za (HB5m.out.grow b4');have Hb4':=Za b4';have k4:=HB4n.out.cell 32;have k5:=HB5n.out.cell 32;simp only [List.getElem?_toArray] at k4 k5;rw [(Zav L HOL.out).1,← HkL.out] at k4;rw [(Zav R HOR.out).1,← HkR.out] at k5;clear b4')
     |(go_at_call 191;refine (HFL.out _).mono ?_;rw [hfL];rintro e w3 ⟨rfl,b3⟩;have HB4m:=Za (HB4'.out.grow b3);have HB5m:=Za (HB5.out.grow b3);have Hb3:=Za b3;have m1:Hid True:=trivial;clear b3)
     |((with_reducible refine Zk 18 5 ?_);refine Zbn _ rfl _ _ rfl b5 0 rfl (cz R) _ HB5m.out.range Tryz.underlying88 rfl (Zco _ (Zar HOR.out)) ?_))
    go_ret;exact ⟨rfl,Zb (Zb Hb2.out Hb3.out) Hb4'.out⟩
   | true=>
    by_cases k0:kL=0
    ·rw [show fitP d L R u=true by rw [hV,hfL,hfR];simp [h2,k0]];clear hV h2;subst k0;go_enter Tryz.func166,Tryz.ntmps166
     go_wp2_with (first
      |((with_reducible refine Zo 4 ?_);refine Zd _ rfl _ _ rfl _ rfl ?_;intro w1 b4 hg4 hl4 B4 b1;have HB4:=Za B4;have Hl4:=Za hl4;clear hg4 hl4 B4)
      |((with_reducible refine Zo 5 ?_);refine Zd _ rfl _ _ rfl _ rfl ?_;intro w2 b5 hg5 hl5 B5 b2;have HB5:=Za B5;have HB4':=Za (HB4.out.grow b2);have e4:=HB4'.out.cell 34;have e5:=HB5.out.cell 34;simp only [List.getElem?_toArray] at e4 e5;rw [(Zav L HOL.out).2.2.1,← HzL.out] at e4;rw [(Zav R HOR.out).2.2.1,← HzR.out] at e5;have Hb2:=Za (Zb b1 b2);clear hg5 hl5 B5 b2 b1)
      |((with_reducible refine Zk 13 4 ?_);refine wpList_load_mid rfl _ _ rfl b4 0 rfl (cz L) _ HB4'.out.range Tryz.underlying88 rfl (Zco _ (Zar HOL.out)) ?_)
      |(go_at_call 191;have mk:=m1;clear mk;refine (HFR.out _).mono ?_;rw [hfR];rintro e w4 ⟨rfl,b4'⟩;have HB4n:=Za (HB4m.out.grow b4');have HB5n:=Za (HB5m.out.grow b4');have Hb4':=Za b4';have k4:=HB4n.out.cell 32;have k5:=HB5n.out.cell 32;simp only [List.getElem?_toArray] at k4 k5;rw [(Zav L HOL.out).1,← HkL.out] at k4;rw [(Zav R HOR.out).1,← HkR.out] at k5;clear b4')
      |(go_at_call 191;refine (HFL.out _).mono ?_;rw [hfL];rintro e w3 ⟨rfl,b3⟩;have HB4m:=Za (HB4'.out.grow b3);have HB5m:=Za (HB5.out.grow b3);have Hb3:=Za b3;have m1:Hid True:=trivial;clear b3)
      |((with_reducible refine Zk 18 5 ?_);refine Zbn _ rfl _ _ rfl b5 0 rfl (cz R) _ HB5m.out.range Tryz.underlying88 rfl (Zco _ (Zar HOR.out)) ?_))
     go_ret;exact ⟨rfl,Zb (Zb Hb2.out Hb3.out) Hb4'.out⟩
    ·have k0b:(kL == 0)=false:=by simp [k0]
     by_cases k1:kR=0
     ·rw [show fitP d L R u=true by rw [hV,hfL,hfR];simp [h2,k1]];clear hV h2 k0;subst k1;go_enter Tryz.func166,Tryz.ntmps166
      go_wp2_with (first
       |((with_reducible refine Zo 4 ?_);refine Zd _ rfl _ _ rfl _ rfl ?_;intro w1 b4 hg4 hl4 B4 b1;have HB4:=Za B4;have Hl4:=Za hl4;clear hg4 hl4 B4)
       |((with_reducible refine Zo 5 ?_);refine Zd _ rfl _ _ rfl _ rfl ?_;intro w2 b5 hg5 hl5 B5 b2;have HB5:=Za B5;have HB4':=Za (HB4.out.grow b2);have e4:=HB4'.out.cell 34;have e5:=HB5.out.cell 34;simp only [List.getElem?_toArray] at e4 e5;rw [(Zav L HOL.out).2.2.1,← HzL.out] at e4;rw [(Zav R HOR.out).2.2.1,← HzR.out] at e5;have Hb2:=Za (Zb b1 b2);clear hg5 hl5 B5 b2 b1)
       |((with_reducible refine Zk 13 4 ?_);refine wpList_load_mid rfl _ _ rfl b4 0 rfl (cz L) _ HB4'.out.range Tryz.underlying88 rfl (Zco _ (Zar HOL.out)) ?_)
       |(go_at_call 191;have mk:=m1;clear mk;refine (HFR.out _).mono ?_;rw [hfR];rintro e w4 ⟨rfl,b4'⟩;have HB4n:=Za (HB4m.out.grow b4');have HB5n:=Za (HB5m.out.grow b4');have Hb4':=Za b4';have k4:=HB4n.out.cell 32;have k5:=HB5n.out.cell 32;simp only [List.getElem?_toArray] at k4 k5;rw [(Zav L HOL.out).1,← HkL.out] at k4;rw [(Zav R HOR.out).1,← HkR.out] at k5;clear b4')
       |(go_at_call 191;refine (HFL.out _).mono ?_;rw [hfL];rintro e w3 ⟨rfl,b3⟩;have HB4m:=Za (HB4'.out.grow b3);have HB5m:=Za (HB5.out.grow b3);have Hb3:=Za b3;have m1:Hid True:=trivial;clear b3)
       |((with_reducible refine Zk 18 5 ?_);refine Zbn _ rfl _ _ rfl b5 0 rfl (cz R) _ HB5m.out.range Tryz.underlying88 rfl (Zco _ (Zar HOR.out)) ?_))
      go_ret;exact ⟨rfl,Zb (Zb Hb2.out Hb3.out) Hb4'.out⟩
     ·have k1b:(kR == 0)=false:=by simp [k1]
      rw [show fitP d L R u=u by rw [hV,hfL,hfR];simp [h2,k0,k1]];clear hV h2 k0 k1;go_enter Tryz.func166,Tryz.ntmps166
      go_wp2_with (first
       |((with_reducible refine Zo 4 ?_);refine Zd _ rfl _ _ rfl _ rfl ?_;intro w1 b4 hg4 hl4 B4 b1;have HB4:=Za B4;have Hl4:=Za hl4;clear hg4 hl4 B4)
       |((with_reducible refine Zo 5 ?_);refine Zd _ rfl _ _ rfl _ rfl ?_;intro w2 b5 hg5 hl5 B5 b2;have HB5:=Za B5;have HB4':=Za (HB4.out.grow b2);have e4:=HB4'.out.cell 34;have e5:=HB5.out.cell 34;simp only [List.getElem?_toArray] at e4 e5;rw [(Zav L HOL.out).2.2.1,← HzL.out] at e4;rw [(Zav R HOR.out).2.2.1,← HzR.out] at e5;have Hb2:=Za (Zb b1 b2);clear hg5 hl5 B5 b2 b1)
       |((with_reducible refine Zk 13 4 ?_);refine wpList_load_mid rfl _ _ rfl b4 0 rfl (cz L) _ HB4'.out.range Tryz.underlying88 rfl (Zco _ (Zar HOL.out)) ?_)
       |(go_at_call 191;have mk:=m1;clear mk;refine (HFR.out _).mono ?_;rw [hfR];rintro e w4 ⟨rfl,b4'⟩;have HB4n:=Za (HB4m.out.grow b4');have HB5n:=Za (HB5m.out.grow b4');have Hb4':=Za b4';have k4:=HB4n.out.cell 32;have k5:=HB5n.out.cell 32;simp only [List.getElem?_toArray] at k4 k5;rw [(Zav L HOL.out).1,← HkL.out] at k4;rw [(Zav R HOR.out).1,← HkR.out] at k5;clear b4')
       |(go_at_call 191;refine (HFL.out _).mono ?_;rw [hfL];rintro e w3 ⟨rfl,b3⟩;have HB4m:=Za (HB4'.out.grow b3);have HB5m:=Za (HB5.out.grow b3);have Hb3:=Za b3;have m1:Hid True:=trivial;clear b3)
       |((with_reducible refine Zk 18 5 ?_);refine Zbn _ rfl _ _ rfl b5 0 rfl (cz R) _ HB5m.out.range Tryz.underlying88 rfl (Zco _ (Zar HOR.out)) ?_)
       |((with_reducible refine Zk 33 32 ?_);refine Zbn _ rfl _ _ rfl b4 35 rfl (L.key.map (Value.int .u8)) _ ((Ydd L HOL.out).range HB4n.out) Tryz.underlying48 rfl (Zjg HOL.out) ?_)
       |((with_reducible refine Zk 35 34 ?_);refine Zbn _ rfl _ _ rfl b5 35 rfl (R.key.map (Value.int .u8)) _ ((Ydd R HOR.out).range HB5n.out) Tryz.underlying48 rfl (Zjg HOR.out) ?_)
       |(go_at_call 119;refine (HU.out _).mono ?_;rintro e w5 ⟨rfl,b5'⟩))
      go_ret;exact ⟨rfl,Zb (Zb (Zb Hb2.out Hb3.out) Hb4'.out) b5'⟩
 ·have i2:(zL:Int)+(zR:Int)<2:=by omega
  rw [show fitP d L R u=false by rw [hV];simp [h2]];clear hV h2;go_enter Tryz.func166,Tryz.ntmps166
  go_wp2_with (first
   |((with_reducible refine Zo 4 ?_);refine Zd _ rfl _ _ rfl _ rfl ?_;intro w1 b4 hg4 hl4 B4 b1;have HB4:=Za B4;have Hl4:=Za hl4;clear hg4 hl4 B4)
   |((with_reducible refine Zo 5 ?_);refine Zd _ rfl _ _ rfl _ rfl ?_;intro w2 b5 hg5 hl5 B5 b2;have HB5:=Za B5;have HB4':=Za (HB4.out.grow b2);have e4:=HB4'.out.cell 34;have e5:=HB5.out.cell 34;simp only [List.getElem?_toArray] at e4 e5;rw [(Zav L HOL.out).2.2.1,← HzL.out] at e4;rw [(Zav R HOR.out).2.2.1,← HzR.out] at e5;have Hb2:=Za (Zb b1 b2);clear hg5 hl5 B5 b2 b1))
  go_ret;exact ⟨rfl,Hb2.out⟩
theorem Ybj (c:Ce) (h:c.dig.length=32) (n:Nat):(cz c).set 33 (.int .i64 (n:Int))=cz (reAb c n):=by
 have h1:(c.dig.map (Value.int .u8)).length=32:=by simp [h]
 unfold cz reAb;rw [List.set_append_right _ _ (by omega),h1];rfl
theorem Zuo {c:Ce} (h:CeOk c) (n:Nat):CeOk (reAb c n):=⟨h.ld,h.bd,h.hk,h.vs⟩
theorem Zms (s:Stm w g gs vp vf room cs fr) (hw:Wz cs) (h m:Int) (hc:cot cs h=0):Kc 146 #[.pointer (some ⟨g,0,none⟩),.int .i64 h,.int .i64 m] w fun e w'=>e=.returned (.tuple #[])∧Kb w w':=by
 have c1:=s.c1;have HG:=Za (Znx s hw h);rw [if_pos hc] at HG;have hz:=Zar (hw.catOk h);generalize cz (cat cs h)=z at HG hz;have HZ:=Za hz;clear s hw hz hc;go_enter Tryz.func146,Tryz.ntmps146
 go_wp2_with (first
  |(go_at_call 135;refine HG.out.mono ?_;rintro e w2 ⟨rfl,b2⟩;have Hb2:=Za b2;clear b2)
  |((with_reducible refine Zv 6 ?_);refine Zh _ rfl _ rfl _ Zal ?_;intro w3 b6 hg6 hl6 B6 b3;have Hb3:=Za b3;have HB6:=Za B6;have Hg6:=Za hg6;clear b3 B6 hg6 hl6)
  |((with_reducible refine Zag 6 ?_);refine Zf _ rfl _ _ _ rfl b6 _ z.toArray rfl rfl HB6.out (Zco z HZ.out) (Zkx z HZ.out) (all_oneCell_toArray HZ.out.2) ?_;intro w4 B7 g7))
 refine bodyPost_ret (results_none rfl _ _ _) rfl ?_;exact ⟨rfl,Ze (Zb Hb2.out Hb3.out) g7 (by have:=Hg6.out;have:=Hb2.out.size;omega)⟩
theorem Zqk (s:Stm w g gs vp vf room cs fr) (hw:Wz cs) (i n:Nat) (m:Int) (hc:0<cc cs i) (hn:((ce cs i).ab:Int)+m=(n:Int)) (hn2:n≤2147483648):Kc 146 #[.pointer (some ⟨g,0,none⟩),.int .i64 ((i:Int)+1),.int .i64 m] w fun e w'=>e=.returned (.tuple #[])∧STurn w g gs (stB g gs vp vf cs) room (setA cs (i+1) n) fr w':=by
 have HS:Hid (∀w',Kb w w'→Stm w' g gs vp vf room cs fr):=fun w' hb=>s.grow hb
 have c1:=s.c1;have HG:=Za (Znx s hw ((i:Int)+1));have hot:cot cs ((i:Int)+1)=cc cs i:=by unfold cot;rw [if_pos (by omega),show ((i:Int)+1-1).toNat=i by omega]
 have hat:cat cs ((i:Int)+1)=ce cs i:=by unfold cat;rw [if_pos (by omega),show ((i:Int)+1-1).toNat=i by omega]
 rw [hot,if_neg (by omega),hat] at HG;have HSet:Hid (∀w',Kb w w'→Kc 176 #[.pointer (some ⟨gs,0,none⟩),.int .i64 ((i:Int)+1),.agg (cz (reAb (ce cs i) n)).toArray] w' fun e w''=>e=.returned (.int .i64 0)∧STurn w g gs (stB g gs vp vf cs) room (setA cs (i+1) n) fr w''):=by
  intro w' hb;refine (Ydb gs vp vf room _ fr _ i (cz (reAb (ce cs i) n)) (Zar (Zuo (hw.ok i) n)) w' (s.grow hb).sl rfl (by rw [Zae];exact hc)).mono ?_;rintro e w'' ⟨rfl,t⟩;rw [Zae,map_set] at t;refine ⟨rfl,(s.grow hb).turn' hb t (fun j=>.inr ⟨j,?_⟩)⟩;have hcore:Core (ce cs j) (ce (setA cs (i+1) n) j):=Zht cs (i+1) n j;rw [hcore];exact ⟨rfl,rfl⟩
 have HO:=Za (hw.ok i);obtain ⟨c,hcc⟩:∃c,c=ce cs i:=⟨_,rfl⟩;rw [← hcc] at HG HSet HO hn;have hwn:wrap64 ((c.ab:Int)+m)=(n:Int):=by rw [hn];exact Go.IntWalk.wrap64_in _ (by omega)
 have HZA:=Za (Ybj c HO.out.ld n);clear s hw hc hn hn2 hot hat hcc;go_enter Tryz.func146,Tryz.ntmps146
 go_wp2_with (first
  |(go_at_call 135;refine HG.out.mono ?_;rintro e w2 ⟨rfl,b2⟩;have Hb2:=Za b2;clear b2)
  |((with_reducible refine Zv 6 ?_);refine Zh _ rfl _ rfl _ Zal ?_;intro w3 b6 hg6 hl6 B6 b3;have Hb3:=Za b3;have HB6:=Za B6;have Hg6:=Za hg6;clear b3 B6 hg6 hl6)
  |((with_reducible refine Zag 6 ?_);refine Zf _ rfl _ _ _ rfl b6 _ (cz c).toArray rfl rfl HB6.out (Zco _ (Zar HO.out)) (Zkx _ (Zar HO.out)) (all_oneCell_toArray (Zda HO.out)) ?_;intro w4 B7 g7;have c7:=B7.cell 33;have f7:=B7.frozen 33;simp only [List.getElem?_toArray] at c7;rw [(Zav c HO.out).2.1] at c7;have HB7:=Za B7;have Hb7:=Za (Ze (Zb Hb2.out Hb3.out) g7 (by have:=Hg6.out;have:=Hb2.out.size;omega));clear B7 g7))
 have hb8:w.heap.size≤b6:=by have:=Hg6.out;have:=Hb2.out.size;omega
 have HB8:Hid (Blk (w4.setCell ⟨b6,33,none⟩ (.int .i64 (n:Int))) b6 88 (cz (reAb c n)).toArray):=by
  have:=HB7.out.set 33 (.int .i64 (n:Int));rw [List.setIfInBounds_toArray,HZA.out] at this;exact this
 have Hb8:=Za (Zw 33 (.int .i64 (n:Int)) Hb7.out hb8);generalize w4.setCell ⟨b6,33,none⟩ (.int .i64 (n:Int))=w5 at *;have HB9:Hid (Kb w w5.drew):=below_drewN Hb8.out 1;have HS0:Hid (w5.drew.cell? ⟨g,1,none⟩=some (.pointer (some ⟨gs,0,none⟩))∧w5.drew.rangeAt b6 0 (cz (reAb c n))):=⟨(HS.out _ HB9.out).c1,HB8.out.drew.range⟩;refine Zy (S:=fun w'=>w'.cell? ⟨g,1,none⟩=some (.pointer (some ⟨gs,0,none⟩))∧w'.rangeAt b6 0 (cz (reAb c n))) 6 (by kernel_rfl) (HS0.out) (fun hHeld=>?_);refine tlp 0 (.pointer (some ⟨g,0,none⟩)) hHeld ?_;simp only [zq];refine tlp 1 (.pointer (some ⟨g,0,none⟩)) hHeld ?_;simp only [zq];refine tlp 2 (.pointer (some ⟨g,1,none⟩)) hHeld ?_;simp only [zq];refine tlg 3 (.pointer (some ⟨gs,0,none⟩)) rfl (Or.inl ⟨by rfl,fun w hS=>by (have q1:=hS.1;go_simp)⟩) hHeld ?_;simp only [zq];refine tlp 4 (.int .i64 ((i:Int)+1)) hHeld ?_;simp only [zq];refine tlg 5 (.agg (cz (reAb c n)).toArray) rfl (yieldsIf_load_mid rfl 88 (.tmp 6) rfl b6 0 rfl (cz (reAb c n)) _ (fun w hS=>hS.2) Tryz.underlying88 rfl (Zco _ (Zar (Zuo HO.out n)))) hHeld ?_;simp only [zq];refine Zam rfl (by kernel_rfl) (by kernel_rfl) (fun KQ hK=>?_);go_simp;refine (HSet.out _ HB9.out).mono ?_;rintro e w9 ⟨rfl,ht⟩;have HT:=Za ht;clear ht;refine hK.out _ _ ?_;clear hK KQ;go_wp2
 go_end0;exact ⟨rfl,HT.out⟩
def Kp (w:World) (P:World→Prop):Prop:=∀w',Kb w w'→P w'
theorem Kp.now {P:World→Prop} (h:Kp w P):P w:=h w (Below.refl _ _)
theorem Kp.step {P:World→Prop} (h:Kp w P) (q:Kb w w1):Kp w1 P:=fun w' h'=>h w' (Zb q h')
theorem Blk.kp {t:TypeId} {cs:Array Value} (h:Blk w g t cs):Kp w (fun w'=>Blk w' g t cs):=fun _ q=>h.grow q
theorem Ybs (w:World):Kp w (fun w'=>Kb w w'):=fun _ q=>q
theorem Zmu (cs:Lz) (h:Nat):vDg true (cat cs) (h:Int)=sdD cs h:=by
 unfold vDg sdD
 by_cases e:h=0
 ·subst e;simp
 ·rw [if_neg (by omega),if_neg e,Zac,sdC,if_neg e]
theorem Zkp {c:Ce} (h:Kp w (fun w'=>Blk w' b 88 (cz c).toArray)) (e:(cz c)[i]?=some v):∀w',Kb w w'→w'.cell? ⟨b,i,none⟩=some v:=fun w' hb=>by
 rw [(h w' hb).cell];simpa using e
theorem Zlf (s:Stm w g gs vp vf room cs fr) {pend:List Nat} (hw:Wf cs pend) (hL:Laid w) (d l r:Nat) (hd:d<256) (hsz:(sdC cs l).sz+(sdC cs r).sz≤1048576):Kc 167 #[.pointer (some ⟨g,0,none⟩),.int .i64 (d:Int),.int .i64 (l:Int),.int .i64 (r:Int)] w fun e w'=>∃K,IsFill (if (sdC cs l).kind=0 then (sdC cs r).key else (sdC cs l).key) d 0 K∧e=.returned (.agg (cz (inC (inD (sdD cs l) (sdD cs r)) K ((sdC cs l).sz+(sdC cs r).sz) d l r)).toArray)∧Kb w w':=by
 have V:=Zjt s hw;have HAL:Hid (Kr w 80 #[.pointer (some ⟨g,0,none⟩),.int .i64 (l:Int)] (.agg (cz (sdC cs l)).toArray)):=fun w' hb=>by rw [← Zac];exact V.atv w' l hb
 have HAR:Hid (Kr w 80 #[.pointer (some ⟨g,0,none⟩),.int .i64 (r:Int)] (.agg (cz (sdC cs r)).toArray)):=fun w' hb=>by rw [← Zac];exact V.atv w' r hb
 have HDL:Hid (Kr w 193 #[.pointer (some ⟨g,0,none⟩),.int .i64 (l:Int)] (.agg (B (sdD cs l)))):=fun w' hb=>by rw [← Zmu];exact Zox (V.grow hb) l (hL.grow hb)
 have HDR:Hid (Kr w 193 #[.pointer (some ⟨g,0,none⟩),.int .i64 (r:Int)] (.agg (B (sdD cs r)))):=fun w' hb=>by rw [← Zmu];exact Zox (V.grow hb) r (hL.grow hb)
 have hl32:=Zsq V (l:Int);have hr32:=Zsq V (r:Int);rw [Zmu] at hl32 hr32;have HIN:Hid (Kr w 123 #[.agg (B (sdD cs l)),.agg (B (sdD cs r))] (.agg (B (inD (sdD cs l) (sdD cs r))))):=fun w' hb=>Zvv _ _ w' hl32.1 hr32.1 hl32.2 hr32.2 (hL.grow hb)
 have okL:CeOk (sdC cs l):=by rw [← Zac];exact hw.catOk l
 have okR:CeOk (sdC cs r):=by rw [← Zac];exact hw.catOk r
 have HOL:=Za okL;have HOR:=Za okR;have hD32:(inD (sdD cs l) (sdD cs r)).length=32:=Zad _;have HDB:Hid (Bytes (inD (sdD cs l) (sdD cs r))):=Zbj _;generalize sdC cs l=L at *;generalize sdC cs r=R at *;generalize inD (sdD cs l) (sdD cs r)=D at *;generalize sdD cs l=dl at *;generalize sdD cs r=dr at *;have HD32:=Za hD32;have HB0:Hid (Kp w (fun w'=>Kb w w')):=Ybs w;have hws:IntKind.i64.wrap ((L.sz:Int)+(R.sz:Int))=(L.sz:Int)+(R.sz:Int):=by simp only [IntKind.wrap_i64];omega
 obtain ⟨X,hX⟩:∃X,X=if L.kind=0 then R else L:=⟨_,rfl⟩
 have hXk:(if L.kind=0 then R.key else L.key)=X.key:=by rw [hX];split <;> rfl
 rw [hXk];have okX:CeOk X:=by rw [hX];split <;> assumption
 have HOX:=Za okX;have HFI:Hid (∀w',Kc 192 #[.agg (B X.key),.int .i64 (d:Int)] w' (KeyPost (IsFill X.key d 0) 0 w')):=fun w'=>Ybd X.key d w' okX.hk (by omega)
 have HWS:=Za hws;have HXL:Hid (L.kind≠0→X=L):=fun h=>by rw [hX,if_neg h]
 have HXR:Hid (L.kind=0→X=R):=fun h=>by rw [hX,if_pos h]
 clear s hw hL V hl32 hr32 okL okR okX hD32 hws hX hXk hsz hd
 by_cases hk:L.kind=0
 ·have HK:=Za hk;have hXe:=HXR.out hk;rw [hXe] at HFI;rw [hXe];clear hk HXL HXR hXe HOX;go_enter Tryz.func167,Tryz.ntmps167
  go_wp2_with (first
   |((with_reducible refine Zv 8 ?_);refine Zh _ rfl _ rfl _ Zal ?_;intro y1 g8 hg8 hl8 B8 q1;replace HB0:=Za (HB0.out.step q1);have HR8:=Za B8.kp;have Hg8:=Za hg8;clear hg8 hl8 B8 q1)
   |((with_reducible refine Zv 9 ?_);refine Zh _ rfl _ rfl _ Zal ?_;intro y4 g9 hg9 hl9 bz9 q4;have Hg9:=Za hg9;have HQ9:=Za q4;have HZ9:=Za bz9;have Hl9:=Za hl9;clear hg9 hl9 bz9 q4)
   |((with_reducible refine Zv 10 ?_);refine Zh _ rfl _ rfl _ Zal ?_;intro y5 g10 hg10 hl10 bz10 q5;have Hg10:=Za hg10;have HZ10:=Za bz10;have HZ9':=Za (HZ9.out.grow q5);have hne:g10≠g9:=(by have:=Hl9.out;omega);have HQ10:=Za q5;clear hg10 hl10 bz10 q5)
   |((with_reducible refine Zag 9 ?_);refine Zf _ rfl _ _ _ rfl g9 _ (cz L).toArray rfl rfl HZ9'.out (Zco _ (Zar HOL.out)) (Zkx _ (Zar HOL.out)) (all_oneCell_toArray (Zda HOL.out)) ?_;intro y6 by9 r9;have HY9:=Za by9;have HZ10':=Za (HZ10.out.kept r9 hne);have HR9:=Za r9;clear by9 r9)
   |((with_reducible refine Zag 10 ?_);refine Zf _ rfl _ _ _ rfl g10 _ (cz R).toArray rfl rfl HZ10'.out (Zco _ (Zar HOR.out)) (Zkx _ (Zar HOR.out)) (all_oneCell_toArray (Zda HOR.out)) ?_;intro y7 by10 r10;have HLB:=Za (HY9.out.kept r10 hne.symm).kp;have HRB:=Za by10.kp;have q9:=HQ9.out;have q10:=HQ10.out;have qa:=Ze (Zb q9 q10) HR9.out Hg9.out;have qb:=Ze qa r10 (by have:=Hg10.out;have:=q9.size;omega);replace HB0:=Za (HB0.out.step qb);replace HR8:=Za (HR8.out.step qb);clear by10 r10 q9 q10 qa qb)
   |((with_reducible refine Zk 20 9 ?_);refine wpList_load_mid rfl _ _ rfl g9 0 rfl (cz L) _ HLB.out.now.range Tryz.underlying88 rfl (Zco _ (Zar HOL.out)) ?_)
   |((with_reducible refine Zv 11 ?_);refine Zh _ rfl _ rfl _ Zal ?_;intro y8 g11 hg11 hl11 bz11 q8;have Hg11:=Za hg11;have HZ11:=Za bz11;have HQ11:=Za q8;clear hg11 hl11 bz11 q8)
   |((with_reducible refine Zk 24 10 ?_);refine wpList_load_mid rfl _ _ rfl g10 0 rfl (cz R) _ HRB1.out.range Tryz.underlying88 rfl (Zco _ (Zar HOR.out)) ?_)
   |((with_reducible refine Zk 27 26 ?_);refine wpList_load_mid rfl _ _ rfl g11 35 rfl (R.key.map (Value.int .u8)) _ ((Ydd R HOR.out).range HXB.out.now) Tryz.underlying48 rfl (Zjg HOR.out) ?_)
   |((with_reducible refine Zv 12 ?_);refine Zh _ rfl _ rfl _ Zbp ?_;intro y12 g12 hg12 hl12 bz12 q12;have Hg12:=Za hg12;have HZ12:=Za bz12;have HQ12:=Za q12;clear hg12 hl12 bz12 q12)
   |((with_reducible refine Zag 12 ?_);refine Zf _ rfl _ _ _ rfl g12 _ (B K) rfl rfl HZ12.out (by rw [HKZ.out];exact Zi) (by rw [HKZ.out,Zn];simp) (Zbt _) ?_;intro y13 by12 r12;have qd:=Ze HQ12.out r12 Hg12.out;replace HB0:=Za (HB0.out.step qd);replace HR8:=Za (HR8.out.step qd);replace HLB:=Za (HLB.out.step qd);replace HRB:=Za (HRB.out.step qd);replace HXB:=Za (HXB.out.step qd);have HKB:=Za by12.kp;clear by12 r12 qd)
   |(go_at_call 80;have mk:=m1;clear mk;refine (HAR.out _ HB0.out.now).mono ?_;rintro e y3 ⟨rfl,q3⟩;replace HB0:=Za (HB0.out.step q3);replace HR8:=Za (HR8.out.step q3);clear q3)
   |(go_at_call 80;refine (HAL.out _ HB0.out.now).mono ?_;rintro e y2 ⟨rfl,q2⟩;replace HB0:=Za (HB0.out.step q2);replace HR8:=Za (HR8.out.step q2);have m1:Hid True:=trivial;clear q2)
   |((with_reducible refine Zag 11 ?_);have mk:=m2;clear mk;refine Zf _ rfl _ _ _ rfl g11 _ (cz R).toArray rfl rfl HX0.out (Zco _ (Zar HOR.out)) (by rw [List.size_toArray,List.size_toArray,Zim HOL.out,Zim HOR.out]) (all_oneCell_toArray (Zda HOR.out)) ?_;intro y10 by12 r12;have qc:=Ze (Ze HQ11.out HRX.out Hg11.out) r12 Hg11.out;replace HB0:=Za (HB0.out.step qc);replace HR8:=Za (HR8.out.step qc);replace HLB:=Za (HLB.out.step qc);replace HRB:=Za (HRB.out.step qc);have HXB:=Za by12.kp;clear by12 r12 qc)
   |((with_reducible refine Zag 11 ?_);refine Zf _ rfl _ _ _ rfl g11 _ (cz L).toArray rfl rfl HZ11.out (Zco _ (Zar HOL.out)) (Zkx _ (Zar HOL.out)) (all_oneCell_toArray (Zda HOL.out)) ?_;intro y9 by11 r11;have HX0:=Za by11;have HRX:=Za r11;have HLB1:=Za ((HLB.out.step HQ11.out).now.kept r11 (by have:=HLB.out.now.lt;have:=Hg11.out;omega));have HRB1:=Za ((HRB.out.step HQ11.out).now.kept r11 (by have:=HRB.out.now.lt;have:=Hg11.out;omega));have c9:=HLB1.out.cell 32;simp only [List.getElem?_toArray] at c9;rw [(Zav L HOL.out).1,HK.out] at c9;have m2:Hid True:=trivial;clear by11 r11)
   |(go_at_call 192;refine (HFI.out _).mono ?_;rintro e y11 ⟨K,hKf,rfl,q11⟩;replace HB0:=Za (HB0.out.step q11);replace HR8:=Za (HR8.out.step q11);replace HLB:=Za (HLB.out.step q11);replace HRB:=Za (HRB.out.step q11);replace HXB:=Za (HXB.out.step q11);have HKF:=Za hKf;have HKZ:Hid ((B K).size=32):=(by show (B K).size=32;rw [Zn];exact hKf.1.1);clear q11 hKf))
  have HSZL:Hid (∀w',Kb y13 w'→w'.cell? ⟨g9,34,none⟩=some (.int .i64 (L.sz:Int))):=Zkp HLB.out (Zav L HOL.out).2.2.1;have HSZR:Hid (∀w',Kb y13 w'→w'.cell? ⟨g10,34,none⟩=some (.int .i64 (R.sz:Int))):=Zkp HRB.out (Zav R HOR.out).2.2.1;have HKR:Hid (∀w',Kb y13 w'→w'.rangeAt g12 0 (B K).toList):=fun w' hb=>(HKB.out w' hb).range
  have HBL:Hid (∀w',Kb y13 w'→Kb w w'):=HB0.out;have HS0:Hid (Kb y13 y13.drew):=below_drewN (Below.refl _ _) 1;have HBU:=Za (Zqe D K (L.sz+R.sz) d l r HD32.out (by have:=HKZ.out;rwa [Zn] at this));have HTI:Hid (Th (cz (inC D K (L.sz+R.sz) d l r))):=Zar ⟨HD32.out,HDB.out,HKF.out.1,none,0,rfl⟩;refine Zy (S:=fun w'=>Kb y13 w') 17 (by kernel_rfl) (HS0.out) (fun hHeld=>?_);refine tlp 0 (.pointer (some ⟨g,0,none⟩)) hHeld ?_;simp only [zq];refine tlp 1 (.int .i64 (l:Int)) hHeld ?_;simp only [zq];refine tlp 3 (.pointer (some ⟨g,0,none⟩)) hHeld ?_;simp only [zq];refine tlp 4 (.int .i64 (r:Int)) hHeld ?_;simp only [zq];refine tlp 7 (.pointer (some ⟨g9,34,none⟩)) hHeld ?_;simp only [zq];refine tlg 8 (.int .i64 (L.sz:Int)) rfl (Or.inl ⟨by rfl,fun w hS=>by (have q1:=HSZL.out _ hS;go_simp)⟩) hHeld ?_;simp only [zq];refine tlp 9 (.pointer (some ⟨g10,34,none⟩)) hHeld ?_;simp only [zq];refine tlg 10 (.int .i64 (R.sz:Int)) rfl (Or.inl ⟨by rfl,fun w hS=>by (have q1:=HSZR.out _ hS;go_simp)⟩) hHeld ?_;simp only [zq];refine tlg 11 (.int .i64 ((L.sz+R.sz:Nat):Int)) rfl (Or.inl ⟨by rfl,fun w hS=>by (go_simp;exact HWS.out)⟩) hHeld ?_;simp only [zq];refine tlg 12 (.agg (B K)) rfl (yieldsIf_load_mid rfl 48 (.tmp 12) rfl g12 (0) rfl (B K).toList _ (fun w hS=>HKR.out _ hS) Tryz.underlying48 rfl (by rw [Array.length_toList,HKZ.out];exact Zi)) hHeld ?_;simp only [zq];refine tlp 13 (.int .i64 (d:Int)) hHeld ?_;simp only [zq];refine tlp 14 (.int .i64 (l:Int)) hHeld ?_;simp only [zq];refine tlp 15 (.int .i64 (r:Int)) hHeld ?_;simp only [zq];refine Zap (i:=2) rfl (by kernel_rfl) (fun KQ hK=>?_);go_simp;refine (HDL.out _ (HBL.out _ hHeld)).mono ?_;rintro e z1 ⟨rfl,a1⟩;refine hK.out _ _ (Zb hHeld a1) (fun hHeld=>?_);clear hK KQ;refine Zap (i:=5) rfl (by kernel_rfl) (fun KQ hK=>?_);go_simp;refine (HDR.out _ (HBL.out _ hHeld)).mono ?_;rintro e z2 ⟨rfl,a2⟩;refine hK.out _ _ (Zb hHeld a2) (fun hHeld=>?_);clear hK KQ;refine Zap (i:=6) rfl (by kernel_rfl) (fun KQ hK=>?_);go_simp;refine (HIN.out _ (HBL.out _ hHeld)).mono ?_;rintro e z3 ⟨rfl,a3⟩;refine hK.out _ _ (Zb hHeld a3) (fun hHeld=>?_);clear hK KQ;refine tlg 16 (.agg (cz (inC D K (L.sz+R.sz) d l r)).toArray) rfl (Or.inl ⟨by rfl,fun w hS=>Zcz _ _ 88 _ (by rfl) _ (by rw [List.map_toArray];exact HBU.out) w⟩) hHeld ?_;simp only [zq];refine Zam rfl (by kernel_rfl) (by kernel_rfl) (fun KQ hK=>?_);refine Zcs _ rfl _ _ _ rfl g8 _ (cz (inC D K (L.sz+R.sz) d l r)).toArray rfl rfl (HR8.out _ hHeld) (Zco _ HTI.out) (Zkx _ HTI.out) (all_oneCell_toArray HTI.out.2) ?_;intro z4 B9 r9;refine hK.out _ _ ?_;clear hK KQ;go_wp2
  exact bodyPost_ret (v:=.agg (cz (inC D K (L.sz+R.sz) d l r)).toArray) (results_cell_row rfl _ _ g8 _ _ _ _ rfl B9 Tryz.underlying88 rfl (Zco _ HTI.out)) rfl ⟨K,HKF.out,rfl,Ze (HBL.out _ hHeld) r9 Hg8.out⟩
 ·have hXe:=HXL.out hk;rw [hXe] at HFI;rw [hXe];obtain ⟨k,hkk⟩:∃k,k=L.kind:=⟨_,rfl⟩;have HKK:=Za hkk;have hk0:(k == 0)=false:=by simp [hkk,hk]
  clear hk HXL HXR hkk hXe HOX;go_enter Tryz.func167,Tryz.ntmps167
  go_wp2_with (first
   |((with_reducible refine Zv 8 ?_);refine Zh _ rfl _ rfl _ Zal ?_;intro y1 g8 hg8 hl8 B8 q1;replace HB0:=Za (HB0.out.step q1);have HR8:=Za B8.kp;have Hg8:=Za hg8;clear hg8 hl8 B8 q1)
   |((with_reducible refine Zv 9 ?_);refine Zh _ rfl _ rfl _ Zal ?_;intro y4 g9 hg9 hl9 bz9 q4;have Hg9:=Za hg9;have HQ9:=Za q4;have HZ9:=Za bz9;have Hl9:=Za hl9;clear hg9 hl9 bz9 q4)
   |((with_reducible refine Zv 10 ?_);refine Zh _ rfl _ rfl _ Zal ?_;intro y5 g10 hg10 hl10 bz10 q5;have Hg10:=Za hg10;have HZ10:=Za bz10;have HZ9':=Za (HZ9.out.grow q5);have hne:g10≠g9:=(by have:=Hl9.out;omega);have HQ10:=Za q5;clear hg10 hl10 bz10 q5)
   |((with_reducible refine Zag 9 ?_);refine Zf _ rfl _ _ _ rfl g9 _ (cz L).toArray rfl rfl HZ9'.out (Zco _ (Zar HOL.out)) (Zkx _ (Zar HOL.out)) (all_oneCell_toArray (Zda HOL.out)) ?_;intro y6 by9 r9;have HY9:=Za by9;have HZ10':=Za (HZ10.out.kept r9 hne);have HR9:=Za r9;clear by9 r9)
   |((with_reducible refine Zag 10 ?_);refine Zf _ rfl _ _ _ rfl g10 _ (cz R).toArray rfl rfl HZ10'.out (Zco _ (Zar HOR.out)) (Zkx _ (Zar HOR.out)) (all_oneCell_toArray (Zda HOR.out)) ?_;intro y7 by10 r10;have HLB:=Za (HY9.out.kept r10 hne.symm).kp;have HRB:=Za by10.kp;have q9:=HQ9.out;have q10:=HQ10.out;have qa:=Ze (Zb q9 q10) HR9.out Hg9.out;have qb:=Ze qa r10 (by have:=Hg10.out;have:=q9.size;omega);replace HB0:=Za (HB0.out.step qb);replace HR8:=Za (HR8.out.step qb);clear by10 r10 q9 q10 qa qb)
   |((with_reducible refine Zk 20 9 ?_);refine wpList_load_mid rfl _ _ rfl g9 0 rfl (cz L) _ HLB.out.now.range Tryz.underlying88 rfl (Zco _ (Zar HOL.out)) ?_)
   |((with_reducible refine Zv 11 ?_);refine Zh _ rfl _ rfl _ Zal ?_;intro y8 g11 hg11 hl11 bz11 q8;have Hg11:=Za hg11;have HZ11:=Za bz11;have HQ11:=Za q8;clear hg11 hl11 bz11 q8)
   |((with_reducible refine Zk 27 26 ?_);refine wpList_load_mid rfl _ _ rfl g11 35 rfl (L.key.map (Value.int .u8)) _ ((Ydd L HOL.out).range HXB.out.now) Tryz.underlying48 rfl (Zjg HOL.out) ?_)
   |((with_reducible refine Zv 12 ?_);refine Zh _ rfl _ rfl _ Zbp ?_;intro y12 g12 hg12 hl12 bz12 q12;have Hg12:=Za hg12;have HZ12:=Za bz12;have HQ12:=Za q12;clear hg12 hl12 bz12 q12)
   |((with_reducible refine Zag 12 ?_);refine Zf _ rfl _ _ _ rfl g12 _ (B K) rfl rfl HZ12.out (by rw [HKZ.out];exact Zi) (by rw [HKZ.out,Zn];simp) (Zbt _) ?_;intro y13 by12 r12;have qd:=Ze HQ12.out r12 Hg12.out;replace HB0:=Za (HB0.out.step qd);replace HR8:=Za (HR8.out.step qd);replace HLB:=Za (HLB.out.step qd);replace HRB:=Za (HRB.out.step qd);replace HXB:=Za (HXB.out.step qd);have HKB:=Za by12.kp;clear by12 r12 qd)
   |(go_at_call 80;have mk:=m1;clear mk;refine (HAR.out _ HB0.out.now).mono ?_;rintro e y3 ⟨rfl,q3⟩;replace HB0:=Za (HB0.out.step q3);replace HR8:=Za (HR8.out.step q3);clear q3)
   |(go_at_call 80;refine (HAL.out _ HB0.out.now).mono ?_;rintro e y2 ⟨rfl,q2⟩;replace HB0:=Za (HB0.out.step q2);replace HR8:=Za (HR8.out.step q2);have m1:Hid True:=trivial;clear q2)
   |((with_reducible refine Zag 11 ?_);refine Zf _ rfl _ _ _ rfl g11 _ (cz L).toArray rfl rfl HZ11.out (Zco _ (Zar HOL.out)) (Zkx _ (Zar HOL.out)) (all_oneCell_toArray (Zda HOL.out)) ?_;intro y9 by11 r11;have qc:=Ze HQ11.out r11 Hg11.out;replace HB0:=Za (HB0.out.step qc);replace HR8:=Za (HR8.out.step qc);replace HLB:=Za (HLB.out.step qc);replace HRB:=Za (HRB.out.step qc);have HXB:=Za by11.kp;have c9:=HLB.out.now.cell 32;simp only [List.getElem?_toArray] at c9;rw [(Zav L HOL.out).1,← HKK.out] at c9;clear by11 r11 qc)
   |(go_at_call 192;refine (HFI.out _).mono ?_;rintro e y11 ⟨K,hKf,rfl,q11⟩;replace HB0:=Za (HB0.out.step q11);replace HR8:=Za (HR8.out.step q11);replace HLB:=Za (HLB.out.step q11);replace HRB:=Za (HRB.out.step q11);replace HXB:=Za (HXB.out.step q11);have HKF:=Za hKf;have HKZ:Hid ((B K).size=32):=(by show (B K).size=32;rw [Zn];exact hKf.1.1);clear q11 hKf))
  have HSZL:Hid (∀w',Kb y13 w'→w'.cell? ⟨g9,34,none⟩=some (.int .i64 (L.sz:Int))):=Zkp HLB.out (Zav L HOL.out).2.2.1;have HSZR:Hid (∀w',Kb y13 w'→w'.cell? ⟨g10,34,none⟩=some (.int .i64 (R.sz:Int))):=Zkp HRB.out (Zav R HOR.out).2.2.1;have HKR:Hid (∀w',Kb y13 w'→w'.rangeAt g12 0 (B K).toList):=fun w' hb=>(HKB.out w' hb).range
  have HBL:Hid (∀w',Kb y13 w'→Kb w w'):=HB0.out;have HS0:Hid (Kb y13 y13.drew):=below_drewN (Below.refl _ _) 1;have HBU:=Za (Zqe D K (L.sz+R.sz) d l r HD32.out (by have:=HKZ.out;rwa [Zn] at this));have HTI:Hid (Th (cz (inC D K (L.sz+R.sz) d l r))):=Zar ⟨HD32.out,HDB.out,HKF.out.1,none,0,rfl⟩;refine Zy (S:=fun w'=>Kb y13 w') 17 (by kernel_rfl) (HS0.out) (fun hHeld=>?_);refine tlp 0 (.pointer (some ⟨g,0,none⟩)) hHeld ?_;simp only [zq];refine tlp 1 (.int .i64 (l:Int)) hHeld ?_;simp only [zq];refine tlp 3 (.pointer (some ⟨g,0,none⟩)) hHeld ?_;simp only [zq];refine tlp 4 (.int .i64 (r:Int)) hHeld ?_;simp only [zq];refine tlp 7 (.pointer (some ⟨g9,34,none⟩)) hHeld ?_;simp only [zq];refine tlg 8 (.int .i64 (L.sz:Int)) rfl (Or.inl ⟨by rfl,fun w hS=>by (have q1:=HSZL.out _ hS;go_simp)⟩) hHeld ?_;simp only [zq];refine tlp 9 (.pointer (some ⟨g10,34,none⟩)) hHeld ?_;simp only [zq];refine tlg 10 (.int .i64 (R.sz:Int)) rfl (Or.inl ⟨by rfl,fun w hS=>by (have q1:=HSZR.out _ hS;go_simp)⟩) hHeld ?_;simp only [zq];refine tlg 11 (.int .i64 ((L.sz+R.sz:Nat):Int)) rfl (Or.inl ⟨by rfl,fun w hS=>by (go_simp;exact HWS.out)⟩) hHeld ?_;simp only [zq];refine tlg 12 (.agg (B K)) rfl (yieldsIf_load_mid rfl 48 (.tmp 12) rfl g12 (0) rfl (B K).toList _ (fun w hS=>HKR.out _ hS) Tryz.underlying48 rfl (by rw [Array.length_toList,HKZ.out];exact Zi)) hHeld ?_;simp only [zq];refine tlp 13 (.int .i64 (d:Int)) hHeld ?_;simp only [zq];refine tlp 14 (.int .i64 (l:Int)) hHeld ?_;simp only [zq];refine tlp 15 (.int .i64 (r:Int)) hHeld ?_;simp only [zq];refine Zap (i:=2) rfl (by kernel_rfl) (fun KQ hK=>?_);go_simp;refine (HDL.out _ (HBL.out _ hHeld)).mono ?_;rintro e z1 ⟨rfl,a1⟩;refine hK.out _ _ (Zb hHeld a1) (fun hHeld=>?_);clear hK KQ;refine Zap (i:=5) rfl (by kernel_rfl) (fun KQ hK=>?_);go_simp;refine (HDR.out _ (HBL.out _ hHeld)).mono ?_;rintro e z2 ⟨rfl,a2⟩;refine hK.out _ _ (Zb hHeld a2) (fun hHeld=>?_);clear hK KQ;refine Zap (i:=6) rfl (by kernel_rfl) (fun KQ hK=>?_);go_simp;refine (HIN.out _ (HBL.out _ hHeld)).mono ?_;rintro e z3 ⟨rfl,a3⟩;refine hK.out _ _ (Zb hHeld a3) (fun hHeld=>?_);clear hK KQ;refine tlg 16 (.agg (cz (inC D K (L.sz+R.sz) d l r)).toArray) rfl (Or.inl ⟨by rfl,fun w hS=>Zcz _ _ 88 _ (by rfl) _ (by rw [List.map_toArray];exact HBU.out) w⟩) hHeld ?_;simp only [zq];refine Zam rfl (by kernel_rfl) (by kernel_rfl) (fun KQ hK=>?_);refine Zcs _ rfl _ _ _ rfl g8 _ (cz (inC D K (L.sz+R.sz) d l r)).toArray rfl rfl (HR8.out _ hHeld) (Zco _ HTI.out) (Zkx _ HTI.out) (all_oneCell_toArray HTI.out.2) ?_;intro z4 B9 r9;refine hK.out _ _ ?_;clear hK KQ;go_wp2
  exact bodyPost_ret (v:=.agg (cz (inC D K (L.sz+R.sz) d l r)).toArray) (results_cell_row rfl _ _ g8 _ _ _ _ rfl B9 Tryz.underlying88 rfl (Zco _ HTI.out)) rfl ⟨K,HKF.out,rfl,Ze (HBL.out _ hHeld) r9 Hg8.out⟩
end Go.Proofs.YtlclabbnpjobgaaGreatDoor
