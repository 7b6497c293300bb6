/- The statements' Look: a handle of both stores. -/
import Derived.Test.YtlclabbnpjobgaaGreatDoorAp41
namespace Go.Proofs.YtlclabbnpjobgaaGreatDoor
variable {K:Lq}
variable {S fr hsl:List Nat}
variable {T:Tre}
variable {cs:Lz}
variable {fi rt:Int}
variable {g q room sn wn:Nat}
variable {ss:List Sp}
variable {u vf vp:Value}
variable {w w0:World}
set_option maxHeartbeats 8000000
set_option maxRecDepth 20000
open Go.RowKit
theorem Yjl (h:Rs w g vp vf room ss fr) (q:Int):Reads w (sat ss q).val (sat ss q).bs:=by
 have z:Reads w zs7.val zs7.bs:=(Own.nil 0 w).reads;unfold sat;split
 ·unfold spAt
  by_cases hi:(q-1).toNat<ss.length
  ·rw [List.getElem?_eq_getElem hi];obtain ⟨sp,ho⟩:=h.vals _ (List.getElem_mem hi);exact ho.reads
  ·rw [List.getElem?_eq_none (by omega)];exact z
 ·exact z
theorem Yap (h:Hr w0 S w q room cs fr) (x:Int):∃v,∀w',Kb w w'→Reads w' v (cat cs x).bs∧Kc 170 #[.pointer (some ⟨q,0,none⟩),.int .i64 x] w' fun e w''=>e=.returned v∧Below w'.heap.size w' w'':=by
 obtain ⟨⟨ss,⟨vp,vf,s,m,n⟩,R⟩,W,I⟩:=h;refine ⟨(sat ss x).val,fun w' hb=>⟨?_,Ydi (s.grow hb) x⟩⟩;have:=Yjl (s.grow hb) x;rwa [(Zcc R W x).bs] at this
def thP (c:Ce) (K bs:Lq):Bool:=decide (c.kind=1) && (decide (c.key=K) && decide (c.bs=bs))
theorem Zne (V:Hr w0 S w q room cs fr) (h5:room≤5000) (x:Int) (K:Lq) (hK:Key K) (u:Value) (bs:Lq) (hu:Reads w u bs):Kc 139 #[.pointer (some ⟨q,0,none⟩),.int .i64 x,.agg (B K),u] w fun e w'=>e=.returned (.bool (thP (cat cs x) K bs))∧Kb w w':=by
 have HKD:Hid (Kr w 141 #[.pointer (some ⟨q,0,none⟩),.int .i64 x] (.int .u8 (cat cs x).kind)):=fun w' hb=>Zks (V.grow hb) x
 have HKY:Hid (Kr w 142 #[.pointer (some ⟨q,0,none⟩),.int .i64 x] (.agg (B (cat cs x).key))):=fun w' hb=>Zwc (V.grow hb) h5 x
 obtain ⟨vv,hvv⟩:=Yap V x;have hbv:Bytes (cat cs x).bs:=by obtain ⟨_,_,_,_,_,h,_⟩:=(hvv w (Below.refl _ _)).1;exact h
 have HVL:Hid (Kr w 170 #[.pointer (some ⟨q,0,none⟩),.int .i64 x] vv):=fun w' hb=>(hvv w' hb).2
 have HCV:Hid (∀w',Kb w w'→(convert 52 9 vv).run Tryz.prog w'=.ok (.string (strOfNums (cat cs x).bs)) w'):=fun w' hb=>Zcf (hvv w' hb).1
 have HCU:Hid (∀w',Kb w w'→(convert 52 9 u).run Tryz.prog w'=.ok (.string (strOfNums bs)) w'):=fun w' hb=>Zcf (hu.grow hb)
 have HPL:Hid ((Tryz.prog.info? 48).map (·.size)=some (B K).toList.length):=by show _=_;rw [Array.length_toList,Zn,hK.1];exact Zi
 have hkl:(cat cs x).key.length=32:=(V.wf.catOk x).hk.1;have hEK:=fun w=>Zdo (cat cs x).key K hkl hK.1 w
 have hu':=hu;obtain ⟨ua,uc,rfl,_,_,hbu,_⟩:=hu;obtain ⟨u,hue⟩:∃u,u=Value.slice ua bs.length uc:=⟨_,rfl⟩;rw [← hue] at HCU ⊢;clear hue;unfold thP;generalize (cat cs x).kind=kd at HKD ⊢;generalize (cat cs x).key=ky at HKY hEK hkl ⊢;generalize (cat cs x).bs=vs at HCV hbv ⊢;have HBE:Hid (((strOfNums vs).toList == (strOfNums bs).toList)=decide (vs=bs)):=Ztd vs bs hbv hbu;clear V hu' hkl hvv hbv hbu
 by_cases k1:kd=1
 ·subst k1
  by_cases k2:ky=K
  ·have k3:=k2.symm;clear k2;subst k3;simp only [decide_true,Bool.true_and] at hEK ⊢;clear hK;go_enter Tryz.func139,Tryz.ntmps139
   go_wp2_with (first
    |((with_reducible refine Zo 6 ?_);refine Zd _ rfl _ _ rfl _ rfl ?_;intro w1 b5 hg5 hl5 B5 q5;have HB5:=Za B5;have HQ1:=Za q5;clear hg5 hl5 B5 q5))
   refine wp_region_held_drew (S:=fun w'=>Kb w1 w') (by kernel_rfl) ((below_drewN (Below.refl _ _) 1)) (fun hHeld=>?_);refine tkp 0 (.pointer (some ⟨q,0,none⟩)) hHeld ?_;simp only [zq];refine tkp 1 (.int .i64 x) hHeld ?_;simp only [zq];refine wpAnyH_ready (rs:=[2]) (by kernel_rfl) (by simp) ?_;refine AllReadyH.cons rfl (fun KQ hK=>?_) AllReadyH.nil;go_simp;refine (HKD.out _ (Zb HQ1.out hHeld)).mono ?_;rintro e z1 ⟨rfl,a1⟩;refine hK.out _ _ (Zb hHeld a1) (fun hHeld=>?_);clear hK KQ;refine tkp 3 (.bool true) hHeld ?_;simp only [zq];refine tkp 4 (.bool true) hHeld ?_;simp only [zq];refine tkp 5 (.pointer (some ⟨q,0,none⟩)) hHeld ?_;simp only [zq];refine tkp 6 (.int .i64 x) hHeld ?_;simp only [zq];refine tkg 8 (.agg (B K)) rfl (yieldsIf_load_mid rfl 48 (.tmp 6) rfl b5 0 rfl (B K).toList _ (fun w hS=>(HB5.out.grow hS).range) Tryz.underlying48 rfl HPL.out) hHeld ?_;simp only [zq];refine wpAnyH_ready (rs:=[7]) (by kernel_rfl) (by simp) ?_;refine AllReadyH.cons rfl (fun KQ hK=>?_) AllReadyH.nil;go_simp;refine (HKY.out _ (Zb HQ1.out hHeld)).mono ?_;rintro e z2 ⟨rfl,a2⟩;refine hK.out _ _ (Zb hHeld a2) (fun hHeld=>?_);clear hK KQ;refine tkp 9 (.bool true) hHeld ?_;simp only [zq];refine tkp 10 (.bool true) hHeld ?_;simp only [zq];refine tkp 11 (.bool true) hHeld ?_;simp only [zq];refine tkp 12 (.pointer (some ⟨q,0,none⟩)) hHeld ?_;simp only [zq];refine tkp 13 (.int .i64 x) hHeld ?_;simp only [zq];refine tkp 16 u hHeld ?_;simp only [zq];refine tkg 17 (.string (strOfNums bs)) rfl (Or.inl ⟨by rfl,fun w hS=>by (have cu:=HCU.out _ (Zb HQ1.out hS);go_simp)⟩) hHeld ?_;simp only [zq];refine wpAnyH_ready (rs:=[14]) (by kernel_rfl) (by simp) ?_;refine AllReadyH.cons rfl (fun KQ hK=>?_) AllReadyH.nil;go_simp;refine (HVL.out _ (Zb HQ1.out hHeld)).mono ?_;rintro e z3 ⟨rfl,a3⟩;refine hK.out _ _ (Zb hHeld a3) (fun hHeld=>?_);clear hK KQ;refine tkg 15 (.string (strOfNums vs)) rfl (Or.inl ⟨by rfl,fun w hS=>by (have cv:=HCV.out _ (Zb HQ1.out hS);go_simp)⟩) hHeld ?_;simp only [zq];refine tkp 18 (.bool ((strOfNums vs).toList == (strOfNums bs).toList)) hHeld ?_;simp only [zq];refine tkp 19 (.bool ((strOfNums vs).toList == (strOfNums bs).toList)) hHeld ?_;simp only [zq];refine tkp 20 (.bool ((strOfNums vs).toList == (strOfNums bs).toList)) hHeld ?_;simp only [zq];refine wpAnyH_done (by kernel_rfl) ?_ _;go_wp2
   go_ret;exact ⟨by rw [← HBE.out];rfl,Zb HQ1.out hHeld⟩
  ·have k2':decide (ky=K)=false:=by simp [k2]
   rw [k2'] at hEK ⊢;simp only [decide_true,Bool.true_and,Bool.false_and];clear k2' hK;go_enter Tryz.func139,Tryz.ntmps139
   go_wp2_with (first
    |((with_reducible refine Zo 6 ?_);refine Zd _ rfl _ _ rfl _ rfl ?_;intro w1 b5 hg5 hl5 B5 q5;have HB5:=Za B5;have HQ1:=Za q5;clear hg5 hl5 B5 q5))
   refine wp_region_held_drew (S:=fun w'=>Kb w1 w') (by kernel_rfl) ((below_drewN (Below.refl _ _) 1)) (fun hHeld=>?_);refine tkp 0 (.pointer (some ⟨q,0,none⟩)) hHeld ?_;simp only [zq];refine tkp 1 (.int .i64 x) hHeld ?_;simp only [zq];refine wpAnyH_ready (rs:=[2]) (by kernel_rfl) (by simp) ?_;refine AllReadyH.cons rfl (fun KQ hK=>?_) AllReadyH.nil;go_simp;refine (HKD.out _ (Zb HQ1.out hHeld)).mono ?_;rintro e z1 ⟨rfl,a1⟩;refine hK.out _ _ (Zb hHeld a1) (fun hHeld=>?_);clear hK KQ;refine tkp 3 (.bool true) hHeld ?_;simp only [zq];refine tkp 4 (.bool true) hHeld ?_;simp only [zq];refine tkp 5 (.pointer (some ⟨q,0,none⟩)) hHeld ?_;simp only [zq];refine tkp 6 (.int .i64 x) hHeld ?_;simp only [zq];refine tkg 8 (.agg (B K)) rfl (yieldsIf_load_mid rfl 48 (.tmp 6) rfl b5 0 rfl (B K).toList _ (fun w hS=>(HB5.out.grow hS).range) Tryz.underlying48 rfl HPL.out) hHeld ?_;simp only [zq];refine wpAnyH_ready (rs:=[7]) (by kernel_rfl) (by simp) ?_;refine AllReadyH.cons rfl (fun KQ hK=>?_) AllReadyH.nil;go_simp;refine (HKY.out _ (Zb HQ1.out hHeld)).mono ?_;rintro e z2 ⟨rfl,a2⟩;refine hK.out _ _ (Zb hHeld a2) (fun hHeld=>?_);clear hK KQ;refine tkp 9 (.bool false) hHeld ?_;simp only [zq];refine tkp 10 (.bool false) hHeld ?_;simp only [zq];refine tkp 11 (.bool false) hHeld ?_;simp only [zq];refine tks 12 hHeld ?_;simp only [zq];refine tks 13 hHeld ?_;simp only [zq];refine tks 14 hHeld ?_;simp only [zq];refine tks 15 hHeld ?_;simp only [zq];refine tks 16 hHeld ?_;simp only [zq];refine tks 17 hHeld ?_;simp only [zq];refine tks 18 hHeld ?_;simp only [zq];refine tkp 19 (.bool false) hHeld ?_;simp only [zq];refine tkp 20 (.bool false) hHeld ?_;simp only [zq];refine wpAnyH_done (by kernel_rfl) ?_ _;go_wp2
   go_ret;exact ⟨rfl,Zb HQ1.out hHeld⟩
 ·have k1':decide (kd=1)=false:=by simp [k1]
  rw [k1'];simp only [Bool.false_and];clear k1' hEK hK;go_enter Tryz.func139,Tryz.ntmps139
  go_wp2_with (first
   |((with_reducible refine Zo 6 ?_);refine Zd _ rfl _ _ rfl _ rfl ?_;intro w1 b5 hg5 hl5 B5 q5;have HB5:=Za B5;have HQ1:=Za q5;clear hg5 hl5 B5 q5))
  refine wp_region_held_drew (S:=fun w'=>Kb w1 w') (by kernel_rfl) ((below_drewN (Below.refl _ _) 1)) (fun hHeld=>?_);refine tkp 0 (.pointer (some ⟨q,0,none⟩)) hHeld ?_;simp only [zq];refine tkp 1 (.int .i64 x) hHeld ?_;simp only [zq];refine wpAnyH_ready (rs:=[2]) (by kernel_rfl) (by simp) ?_;refine AllReadyH.cons rfl (fun KQ hK=>?_) AllReadyH.nil;go_simp;refine (HKD.out _ (Zb HQ1.out hHeld)).mono ?_;rintro e z1 ⟨rfl,a1⟩;refine hK.out _ _ (Zb hHeld a1) (fun hHeld=>?_);clear hK KQ;refine tkp 3 (.bool false) hHeld ?_;simp only [zq];refine tkp 4 (.bool false) hHeld ?_;simp only [zq];refine tks 5 hHeld ?_;simp only [zq];refine tks 6 hHeld ?_;simp only [zq];refine tks 7 hHeld ?_;simp only [zq];refine tks 8 hHeld ?_;simp only [zq];refine tks 9 hHeld ?_;simp only [zq];refine tkp 10 (.bool false) hHeld ?_;simp only [zq];refine tkp 11 (.bool false) hHeld ?_;simp only [zq];refine tks 12 hHeld ?_;simp only [zq];refine tks 13 hHeld ?_;simp only [zq];refine tks 14 hHeld ?_;simp only [zq];refine tks 15 hHeld ?_;simp only [zq];refine tks 16 hHeld ?_;simp only [zq];refine tks 17 hHeld ?_;simp only [zq];refine tks 18 hHeld ?_;simp only [zq];refine tkp 19 (.bool false) hHeld ?_;simp only [zq];refine tkp 20 (.bool false) hHeld ?_;simp only [zq];refine wpAnyH_done (by kernel_rfl) ?_ _;go_wp2
  go_ret;exact ⟨rfl,Zb HQ1.out hHeld⟩
theorem Ydp {P:Ending→World→Prop} {RW RM:World→Nat→Nat→World→Prop} {sg:Nat→Nat}
  (HS:Hid (∀b,w.heap.size≤b→b ∉ S)) (HPS:Hid ((Tryz.prog.info? 48).map (·.size)=some (B K).size)) (HWN:Hid (wn=hsl.length)) (HLE:Hid (wn≤sn∧sn≤256))
  (HWR:Hid (Kr w 137 #[.pointer (some ⟨q,0,none⟩),.int .i64 rt,u] (.int .i64 0)))
  (HFT:Hid (Kr w 59 #[.pointer (some ⟨q,0,none⟩),.int .i64 1] (.bool true)))
  (HWY:Hid (∀w',Kb w w'→Kc 138 #[.pointer (some ⟨q,0,none⟩),.int .i64 rt,.agg (B K)] w' fun e w''=>∃a c,e=.returned (.tuple #[.slice a wn c,.int .i64 fi])∧w''.ownsRow w'.heap.size 3 1 (.slice a wn c) wn (nats hsl)∧Below w'.heap.size w' w''))
  (HTH:Hid (Kr w 139 #[.pointer (some ⟨q,0,none⟩),.int .i64 fi,.agg (B K),u] (.bool false)))
  (HLF:Hid (∀w5,Kb w w5→Kc 140 #[.pointer (some ⟨q,0,none⟩),.agg (B K),u] w5 fun e w''=>∃t:Nat,e=.returned (.tuple #[.int .i64 (t:Int),.int .i64 0])∧RW w5 sn t w''))
  (HGR:Hid (∀w5 m t w' w'',RW w5 m t w'→Below w'.heap.size w' w''→RW w5 m t w'')) (HKP:Hid (∀w5 m t w' (Q:World→Prop),Kq S w5 Q→RW w5 m t w'→Q w')) (HKM:Hid (∀w5 m t w' (Q:World→Prop),Kq S w5 Q→RM w5 m t w'→Q w'))
  (HNO:Hid (∀w5 m t w',sg m=0→RW w5 (m+1) t w'→RM w5 m t w'))
  (HHO:Hid (∀w5 m t w',m<sn→sg m≠0→RW w5 (m+1) t w'→Kc 54 #[.pointer (some ⟨q,0,none⟩),.int .i64 (sg m:Int)] w' fun e w''=>e=.returned (.int .i64 0)∧RM w5 m t w''))
  (HMA:Hid (∀w5 m (t:Nat) w',m<sn→RM w5 m t w'→Kc 144 #[.pointer (some ⟨q,0,none⟩),.agg (B K),.int .i64 (m:Int),.int .i64 (t:Int),.int .i64 (sg m:Int)] w' fun e w''=>∃t':Nat,e=.returned (.int .i64 (t':Int))∧RW w5 m t' w''))
  (HOT:Hid (∀w5 m t w',m<wn→RW w5 (m+1) t w'→Kc 145 #[.pointer (some ⟨q,0,none⟩),.agg (B K),.int .i64 (m:Int),.int .i64 (hsl.getD m 0:Int)] w' fun e w''=>e=.returned (.int .i64 (sg m:Int))∧RW w5 (m+1) t w''))
  (HDR:Hid (0<rt→∀w5 (t:Nat) w',Kb w w5→RW w5 0 t w'→Kc 56 #[.pointer (some ⟨q,0,none⟩),.int .i64 rt] w' fun e w''=>∃x y:Int,e=.returned (.tuple #[.int .i64 x,.int .i64 y])∧P (.returned (.tuple #[.int .i64 (t:Int),.int .i64 0])) w''))
  (HND:Hid (rt≤0→∀w5 (t:Nat) w',Kb w w5→RW w5 0 t w'→P (.returned (.tuple #[.int .i64 (t:Int),.int .i64 0])) w'))
  (HKD:Hid (∀w5 t w',RW w5 sn t w'→Kc 141 #[.pointer (some ⟨q,0,none⟩),.int .i64 fi] w' fun e w''=>e=.returned (.int .u8 0)∧RW w5 sn t w'')) (HSW:wn=sn):Kc 85 #[.pointer (some ⟨q,0,none⟩),.int .i64 rt,.agg (B K),u] w P:=by
 have HPL:Hid ((Tryz.prog.info? 48).map (·.size)=some (B K).toList.length):=by show _=_;rw [Array.length_toList];exact HPS.out
 have hw256:wn≤256:=by have:=HLE.out;omega
 have hww:wrap64 ((wn:Int)-1)=(wn:Int)-1:=Go.IntWalk.wrap64_in _ (by omega);have u0:=(⟨HNO,HHO,HMA,HOT,HKM⟩:_∧_∧_∧_∧_);clear u0;subst HSW;go_enter Tryz.func85,Tryz.ntmps85
 go_wp2_with (first
  |((with_reducible refine Zo 6 ?_);refine Zd _ rfl _ _ rfl _ rfl ?_;intro w1 b6 hg6 hl6 B6 q6;have HB1:=Za B6;have HQ1:=Za q6;have HG6:=Za hg6;clear hg6 hl6 B6 q6)
  |(go_at_call 137;refine (HWR.out _ HQ1.out).mono ?_;rintro e w2 ⟨rfl,b2⟩;have HQ2:=Za (Zb HQ1.out b2);have HB2:=Za (HB1.out.grow b2);clear b2)
  |(go_at_call 59;refine (HFT.out _ HQ2.out).mono ?_;rintro e w3 ⟨rfl,b3⟩;have HQ3:=Za (Zb HQ2.out b3);have HB3:=Za (HB2.out.grow b3);clear b3)
  |((with_reducible refine Zk 32 6 ?_);refine Zg _ rfl _ _ rfl b6 _ rfl HB3.out _ _ Tryz.underlying48 HPS.out ?_)
  |(go_at_call 138;refine (HWY.out _ HQ3.out).mono ?_;rintro e w4 ⟨wa,wc,rfl,o4,b4⟩;have HO4:=Za (Zaj o4 HQ3.out.size);have HQ4:=Za (Zb HQ3.out b4);have HB4:=Za (HB3.out.grow b4);clear b4 o4)
  |((with_reducible refine Zk 38 6 ?_);refine Zg _ rfl _ _ rfl b6 _ rfl HB4.out _ _ Tryz.underlying48 HPS.out ?_)
  |(go_at_call 139;refine (HTH.out _ HQ4.out).mono ?_;rintro e w5 ⟨rfl,b5⟩;have HQ5:=Za (Zb HQ4.out b5);have HB5:=Za (HB4.out.grow b5);have HB6:=Za (Kq.blk HB5.out (HS.out b6 HG6.out));have HI6:Hid (Kq S w5 (fun w'=>Ints9 w' wa hsl)):=Zfq (Zl HO4.out b5) HWN.out (fun g hg=>HS.out g (HO4.out.lt g hg).1);clear b5)
  |((with_reducible refine Zk 44 6 ?_);refine Zg _ rfl _ _ rfl b6 _ rfl HB5.out _ _ Tryz.underlying48 HPS.out ?_)
  |(go_at_call 140;refine (HLF.out _ HQ5.out).mono ?_;rintro e w6 ⟨t0,rfl,r6⟩;have HR6:=Za r6;clear r6))
 clear HWR HFT HWY HTH HLF HB1 HB2 HB3 HB4 HB5 HQ1 HQ2 HQ3 HQ4 HO4;have hRd:=HGR.out _ _ _ _ _ HR6.out (below_drewN (Below.refl w6.heap.size w6) 1);refine wp_region_held_drew (S:=fun w'=>Blk w' b6 48 (B K)) (by kernel_rfl) (HKP.out _ _ _ _ _ HB6.out hRd) (fun hHeld=>?_);refine tkp 0 (.pointer (some ⟨q,0,none⟩)) hHeld ?_;simp only [zq];refine tkp 1 (.int .i64 fi) hHeld ?_;simp only [zq];refine wpAnyH_ready (rs:=[2]) (by kernel_rfl) (by simp) ?_;refine AllReadyH.cons rfl (fun KQ hK=>?_) AllReadyH.nil;go_simp;refine (HKD.out _ _ _ hRd).mono ?_;rintro e z1 ⟨rfl,r1⟩;refine hK.out _ _ (HKP.out _ _ _ _ _ HB6.out r1) (fun hHeld=>?_);clear hK KQ;refine tkp 3 (.bool false) hHeld ?_;simp only [zq];refine tkp 4 (.bool false) hHeld ?_;simp only [zq];refine tks 5 hHeld ?_;simp only [zq];refine tks 6 hHeld ?_;simp only [zq];refine tks 7 hHeld ?_;simp only [zq];refine tks 8 hHeld ?_;simp only [zq];refine tks 9 hHeld ?_;simp only [zq];refine tkp 10 (.bool false) hHeld ?_;simp only [zq];refine wpAnyH_done (by kernel_rfl) ?_ _
 replace HR6:=Za r1
 clear hRd hHeld r1
 go_wp2_with fail
 go_loopw [13,17] (fun nv dv wr=>∃(j t:Nat),j≤wn∧nv=.int .i64 (t:Int)∧dv=.int .i64 ((j:Int)-1)∧Hid (RW w5 j t wr)) (fun _ dv _=>(intOf dv+1).toNat)
 case atStart=>exact ⟨wn,t0,Nat.le_refl _,rfl,rfl,HR6⟩
 case round=>
  clear HR6;obtain ⟨j,t,hj,rfl,rfl,hR⟩:=hrel
  by_cases hj0:0<j
  ·obtain ⟨m,rfl⟩:∃m,j=m+1:=⟨j-1,by omega⟩;rw [show (((m+1:Nat):Int)-1)=(m:Int) by omega];have i1:(0:Int)≤(m:Int):=by omega
   have i2:(m:Int)<(wn:Int):=by omega
   have hwm:wrap64 ((m:Int)-1)=(m:Int)-1:=Go.IntWalk.wrap64_in _ (by omega);have hmw:m<wn:=by omega
   have hmn:m<wn:=by have:=HLE.out.1;omega
   obtain ⟨lb,rfl,-⟩:=HI6.out.now m (by rw [← HWN.out];exact hmw);have HO2:Hid (∀w5 t w',RW w5 (m+1) t w'→Kc 145 #[.pointer (some ⟨q,0,none⟩),.agg (B K),.int .i64 (m:Int),.int .i64 (hsl.getD m 0:Int)] w' fun e w''=>e=.returned (.int .i64 (sg m:Int))∧RW w5 (m+1) t w''):=fun w5 t w' hr=>HOT.out w5 m t w' hmw hr
   have hcl:∀ {w'},Ints9 w' (some ⟨lb,0,none⟩) hsl→w'.cell? ⟨lb,m,none⟩=some (.int .i64 (hsl.getD m 0:Int)):=fun {w'} hi=>by
    obtain ⟨g',e1,e2⟩:=hi m (by rw [← HWN.out];exact hmw);injection e1 with e1;injection e1 with e1;rw [e1];exact e2
   generalize (hsl.getD m 0:Int)=xx at HO2 hcl;have hRd:=HGR.out _ _ _ _ _ hR.out (below_drewN (Below.refl wr.heap.size wr) 1)
   go_wp2_with fail
   refine wp_region_held_drew (S:=fun w'=>Blk w' b6 48 (B K)∧w'.cell? ⟨lb,m,none⟩=some (.int .i64 xx)) (by kernel_rfl) (⟨HKP.out _ _ _ _ _ HB6.out hRd,hcl (HKP.out _ _ _ _ _ HI6.out hRd)⟩) (fun hHeld=>?_);refine tkp 0 (.pointer (some ⟨q,0,none⟩)) hHeld ?_;simp only [zq];refine tkg 1 (.agg (B K)) rfl (yieldsIf_load_mid rfl 48 (.tmp 6) rfl b6 0 rfl (B K).toList _ (fun w hS=>hS.1.range) Tryz.underlying48 rfl HPL.out) hHeld ?_;simp only [zq];refine tkp 2 (.int .i64 (m:Int)) hHeld ?_;simp only [zq];refine tkp 3 (.slice (some ⟨lb,0,none⟩) wn wc) hHeld ?_;simp only [zq];refine tkp 4 (.int .i64 (m:Int)) hHeld ?_;simp only [zq];refine tkp 5 (.pointer (some ⟨lb,m,none⟩)) hHeld ?_;simp only [zq];refine tkg 6 (.int .i64 xx) rfl (Or.inl ⟨by rfl,fun w hS=>by (have q1:=hS.2;go_simp)⟩) hHeld ?_;simp only [zq];refine wpAnyH_ready (rs:=[7]) (by kernel_rfl) (by simp) ?_;refine AllReadyH.cons rfl (fun KQ hK=>?_) AllReadyH.nil;go_simp;refine (HO2.out _ _ _ hRd).mono ?_;rintro e z1 ⟨rfl,r1⟩;refine hK.out _ _ (⟨HKP.out _ _ _ _ _ HB6.out r1,hcl (HKP.out _ _ _ _ _ HI6.out r1)⟩) (fun hHeld=>?_);clear hK KQ;refine tkp 8 (.int .i64 (sg m:Int)) hHeld ?_;simp only [zq];refine wpAnyH_done (by kernel_rfl) ?_ _;have HR1:=Za r1;clear r1 hRd hHeld hcl hR
   by_cases o0:sg m=0
   ·have o1: ¬(0:Int)<(sg m:Int):=by omega
    have HM1:=Za (HNO.out _ _ _ _ o0 HR1.out);clear o0
    go_wp2_with (first
     |((with_reducible refine Zk 108 6 ?_);refine Zg _ rfl _ _ rfl b6 _ rfl (HKM.out _ _ _ _ _ HB6.out HM1.out) _ _ Tryz.underlying48 HPS.out ?_)
     |(go_at_call 144;refine (HMA.out _ _ _ _ hmn HM1.out).mono ?_;rintro e z3 ⟨t3,rfl,r3⟩;have HR3:=Za r3;clear r3))
    exact ⟨⟨m,t3,by omega,rfl,rfl,HR3⟩,by first | (simp [intOf];done) | (simp [intOf];omega)⟩
   ·have o1:(0:Int)<(sg m:Int):=by omega
    have HHM:=Za (HHO.out _ _ _ _ hmn o0 HR1.out);clear o0
    go_wp2_with (first
     |(go_at_call 54;refine HHM.out.mono ?_;rintro e z2 ⟨rfl,m1⟩;have HM1:=Za m1;clear m1)
     |((with_reducible refine Zk 108 6 ?_);refine Zg _ rfl _ _ rfl b6 _ rfl (HKM.out _ _ _ _ _ HB6.out HM1.out) _ _ Tryz.underlying48 HPS.out ?_)
     |(go_at_call 144;refine (HMA.out _ _ _ _ hmn HM1.out).mono ?_;rintro e z3 ⟨t3,rfl,r3⟩;have HR3:=Za r3;clear r3))
    exact ⟨⟨m,t3,by omega,rfl,rfl,HR3⟩,by first | (simp [intOf];done) | (simp [intOf];omega)⟩
  ·obtain rfl:j=0:=by omega
   have i1: ¬(0:Int)≤((0:Nat):Int)-1:=by omega
   by_cases hrt:0<rt
   ·have HD2:=Za (HDR.out hrt _ _ _ HQ5.out hR.out)
    go_wp2_with (first
     |(go_at_call 56;refine HD2.out.mono ?_;rintro e z4 ⟨x4,y4,rfl,p4⟩;have HP4:=Za p4;clear p4))
    exact HP4.out
   ·have HP4:=Za (HND.out (by omega) _ _ _ HQ5.out hR.out)
    go_wp2_with fail
    exact HP4.out
theorem Ydo {P:Ending→World→Prop} {RW RM:World→Nat→Nat→World→Prop} {sg:Nat→Nat}
  (HS:Hid (∀b,w.heap.size≤b→b ∉ S)) (HPS:Hid ((Tryz.prog.info? 48).map (·.size)=some (B K).size)) (HWN:Hid (wn=hsl.length)) (HLE:Hid (wn≤sn∧sn≤256))
  (HWR:Hid (Kr w 137 #[.pointer (some ⟨q,0,none⟩),.int .i64 rt,u] (.int .i64 0)))
  (HFT:Hid (Kr w 59 #[.pointer (some ⟨q,0,none⟩),.int .i64 1] (.bool true)))
  (HWY:Hid (∀w',Kb w w'→Kc 138 #[.pointer (some ⟨q,0,none⟩),.int .i64 rt,.agg (B K)] w' fun e w''=>∃a c,e=.returned (.tuple #[.slice a wn c,.int .i64 fi])∧w''.ownsRow w'.heap.size 3 1 (.slice a wn c) wn (nats hsl)∧Below w'.heap.size w' w''))
  (HTH:Hid (Kr w 139 #[.pointer (some ⟨q,0,none⟩),.int .i64 fi,.agg (B K),u] (.bool false)))
  (HLF:Hid (∀w5,Kb w w5→Kc 140 #[.pointer (some ⟨q,0,none⟩),.agg (B K),u] w5 fun e w''=>∃t:Nat,e=.returned (.tuple #[.int .i64 (t:Int),.int .i64 0])∧RW w5 sn t w''))
  (HGR:Hid (∀w5 m t w' w'',RW w5 m t w'→Below w'.heap.size w' w''→RW w5 m t w'')) (HKP:Hid (∀w5 m t w' (Q:World→Prop),Kq S w5 Q→RW w5 m t w'→Q w')) (HKM:Hid (∀w5 m t w' (Q:World→Prop),Kq S w5 Q→RM w5 m t w'→Q w'))
  (HNO:Hid (∀w5 m t w',sg m=0→RW w5 (m+1) t w'→RM w5 m t w'))
  (HHO:Hid (∀w5 m t w',m<sn→sg m≠0→RW w5 (m+1) t w'→Kc 54 #[.pointer (some ⟨q,0,none⟩),.int .i64 (sg m:Int)] w' fun e w''=>e=.returned (.int .i64 0)∧RM w5 m t w''))
  (HMA:Hid (∀w5 m (t:Nat) w',m<sn→RM w5 m t w'→Kc 144 #[.pointer (some ⟨q,0,none⟩),.agg (B K),.int .i64 (m:Int),.int .i64 (t:Int),.int .i64 (sg m:Int)] w' fun e w''=>∃t':Nat,e=.returned (.int .i64 (t':Int))∧RW w5 m t' w''))
  (HOT:Hid (∀w5 m t w',m<wn→RW w5 (m+1) t w'→Kc 145 #[.pointer (some ⟨q,0,none⟩),.agg (B K),.int .i64 (m:Int),.int .i64 (hsl.getD m 0:Int)] w' fun e w''=>e=.returned (.int .i64 (sg m:Int))∧RW w5 (m+1) t w''))
  (HDR:Hid (0<rt→∀w5 (t:Nat) w',Kb w w5→RW w5 0 t w'→Kc 56 #[.pointer (some ⟨q,0,none⟩),.int .i64 rt] w' fun e w''=>∃x y:Int,e=.returned (.tuple #[.int .i64 x,.int .i64 y])∧P (.returned (.tuple #[.int .i64 (t:Int),.int .i64 0])) w''))
  (HND:Hid (rt≤0→∀w5 (t:Nat) w',Kb w w5→RW w5 0 t w'→P (.returned (.tuple #[.int .i64 (t:Int),.int .i64 0])) w'))
  (HKD:Hid (∀w5 t w',RW w5 sn t w'→Kc 141 #[.pointer (some ⟨q,0,none⟩),.int .i64 fi] w' fun e w''=>e=.returned (.int .u8 1)∧RW w5 sn t w'')) (HKY:Hid (∀w5 t w',RW w5 sn t w'→Kc 142 #[.pointer (some ⟨q,0,none⟩),.int .i64 fi] w' fun e w''=>e=.returned (.agg (B K))∧RW w5 sn t w'')) (hEK:∀w,(Op.equalIn 10000 48 (.agg (B K)) (.agg (B K))).run Tryz.prog w=.ok true w) (HSW:wn=sn):Kc 85 #[.pointer (some ⟨q,0,none⟩),.int .i64 rt,.agg (B K),u] w P:=by
 have HPL:Hid ((Tryz.prog.info? 48).map (·.size)=some (B K).toList.length):=by show _=_;rw [Array.length_toList];exact HPS.out
 have hw256:wn≤256:=by have:=HLE.out;omega
 have hww:wrap64 ((wn:Int)-1)=(wn:Int)-1:=Go.IntWalk.wrap64_in _ (by omega);have u0:=(⟨HNO,HHO,HMA,HOT,HKM⟩:_∧_∧_∧_∧_);clear u0;subst HSW;go_enter Tryz.func85,Tryz.ntmps85
 go_wp2_with (first
  |((with_reducible refine Zo 6 ?_);refine Zd _ rfl _ _ rfl _ rfl ?_;intro w1 b6 hg6 hl6 B6 q6;have HB1:=Za B6;have HQ1:=Za q6;have HG6:=Za hg6;clear hg6 hl6 B6 q6)
  |(go_at_call 137;refine (HWR.out _ HQ1.out).mono ?_;rintro e w2 ⟨rfl,b2⟩;have HQ2:=Za (Zb HQ1.out b2);have HB2:=Za (HB1.out.grow b2);clear b2)
  |(go_at_call 59;refine (HFT.out _ HQ2.out).mono ?_;rintro e w3 ⟨rfl,b3⟩;have HQ3:=Za (Zb HQ2.out b3);have HB3:=Za (HB2.out.grow b3);clear b3)
  |((with_reducible refine Zk 32 6 ?_);refine Zg _ rfl _ _ rfl b6 _ rfl HB3.out _ _ Tryz.underlying48 HPS.out ?_)
  |(go_at_call 138;refine (HWY.out _ HQ3.out).mono ?_;rintro e w4 ⟨wa,wc,rfl,o4,b4⟩;have HO4:=Za (Zaj o4 HQ3.out.size);have HQ4:=Za (Zb HQ3.out b4);have HB4:=Za (HB3.out.grow b4);clear b4 o4)
  |((with_reducible refine Zk 38 6 ?_);refine Zg _ rfl _ _ rfl b6 _ rfl HB4.out _ _ Tryz.underlying48 HPS.out ?_)
  |(go_at_call 139;refine (HTH.out _ HQ4.out).mono ?_;rintro e w5 ⟨rfl,b5⟩;have HQ5:=Za (Zb HQ4.out b5);have HB5:=Za (HB4.out.grow b5);have HB6:=Za (Kq.blk HB5.out (HS.out b6 HG6.out));have HI6:Hid (Kq S w5 (fun w'=>Ints9 w' wa hsl)):=Zfq (Zl HO4.out b5) HWN.out (fun g hg=>HS.out g (HO4.out.lt g hg).1);clear b5)
  |((with_reducible refine Zk 44 6 ?_);refine Zg _ rfl _ _ rfl b6 _ rfl HB5.out _ _ Tryz.underlying48 HPS.out ?_)
  |(go_at_call 140;refine (HLF.out _ HQ5.out).mono ?_;rintro e w6 ⟨t0,rfl,r6⟩;have HR6:=Za r6;clear r6))
 clear HWR HFT HWY HTH HLF HB1 HB2 HB3 HB4 HB5 HQ1 HQ2 HQ3 HQ4 HO4;have hRd:=HGR.out _ _ _ _ _ HR6.out (below_drewN (Below.refl w6.heap.size w6) 1);refine wp_region_held_drew (S:=fun w'=>Blk w' b6 48 (B K)) (by kernel_rfl) (HKP.out _ _ _ _ _ HB6.out hRd) (fun hHeld=>?_);refine tkp 0 (.pointer (some ⟨q,0,none⟩)) hHeld ?_;simp only [zq];refine tkp 1 (.int .i64 fi) hHeld ?_;simp only [zq];refine wpAnyH_ready (rs:=[2]) (by kernel_rfl) (by simp) ?_;refine AllReadyH.cons rfl (fun KQ hK=>?_) AllReadyH.nil;go_simp;refine (HKD.out _ _ _ hRd).mono ?_;rintro e z1 ⟨rfl,r1⟩;refine hK.out _ _ (HKP.out _ _ _ _ _ HB6.out r1) (fun hHeld=>?_);clear hK KQ;refine tkp 3 (.bool true) hHeld ?_;simp only [zq];refine tkp 4 (.bool true) hHeld ?_;simp only [zq];refine tkp 5 (.pointer (some ⟨q,0,none⟩)) hHeld ?_;simp only [zq];refine tkp 6 (.int .i64 fi) hHeld ?_;simp only [zq];refine tkg 8 (.agg (B K)) rfl (yieldsIf_load_mid rfl 48 (.tmp 6) rfl b6 0 rfl (B K).toList _ (fun w hS=>hS.range) Tryz.underlying48 rfl HPL.out) hHeld ?_;simp only [zq];refine wpAnyH_ready (rs:=[7]) (by kernel_rfl) (by simp) ?_;refine AllReadyH.cons rfl (fun KQ hK=>?_) AllReadyH.nil;go_simp;refine (HKY.out _ _ _ r1).mono ?_;rintro e z2 ⟨rfl,r2⟩;refine hK.out _ _ (HKP.out _ _ _ _ _ HB6.out r2) (fun hHeld=>?_);clear hK KQ;refine tkp 9 (.bool false) hHeld ?_;simp only [zq];refine tkp 10 (.bool false) hHeld ?_;simp only [zq];refine wpAnyH_done (by kernel_rfl) ?_ _
 replace HR6:=Za r2
 clear hRd hHeld r1 r2
 go_wp2_with fail
 go_loopw [13,17] (fun nv dv wr=>∃(j t:Nat),j≤wn∧nv=.int .i64 (t:Int)∧dv=.int .i64 ((j:Int)-1)∧Hid (RW w5 j t wr)) (fun _ dv _=>(intOf dv+1).toNat)
 case atStart=>exact ⟨wn,t0,Nat.le_refl _,rfl,rfl,HR6⟩
 case round=>
  clear HR6;obtain ⟨j,t,hj,rfl,rfl,hR⟩:=hrel
  by_cases hj0:0<j
  ·obtain ⟨m,rfl⟩:∃m,j=m+1:=⟨j-1,by omega⟩;rw [show (((m+1:Nat):Int)-1)=(m:Int) by omega];have i1:(0:Int)≤(m:Int):=by omega
   have i2:(m:Int)<(wn:Int):=by omega
   have hwm:wrap64 ((m:Int)-1)=(m:Int)-1:=Go.IntWalk.wrap64_in _ (by omega);have hmw:m<wn:=by omega
   have hmn:m<wn:=by have:=HLE.out.1;omega
   obtain ⟨lb,rfl,-⟩:=HI6.out.now m (by rw [← HWN.out];exact hmw);have HO2:Hid (∀w5 t w',RW w5 (m+1) t w'→Kc 145 #[.pointer (some ⟨q,0,none⟩),.agg (B K),.int .i64 (m:Int),.int .i64 (hsl.getD m 0:Int)] w' fun e w''=>e=.returned (.int .i64 (sg m:Int))∧RW w5 (m+1) t w''):=fun w5 t w' hr=>HOT.out w5 m t w' hmw hr
   have hcl:∀ {w'},Ints9 w' (some ⟨lb,0,none⟩) hsl→w'.cell? ⟨lb,m,none⟩=some (.int .i64 (hsl.getD m 0:Int)):=fun {w'} hi=>by
    obtain ⟨g',e1,e2⟩:=hi m (by rw [← HWN.out];exact hmw);injection e1 with e1;injection e1 with e1;rw [e1];exact e2
   generalize (hsl.getD m 0:Int)=xx at HO2 hcl;have hRd:=HGR.out _ _ _ _ _ hR.out (below_drewN (Below.refl wr.heap.size wr) 1)
   go_wp2_with fail
   refine wp_region_held_drew (S:=fun w'=>Blk w' b6 48 (B K)∧w'.cell? ⟨lb,m,none⟩=some (.int .i64 xx)) (by kernel_rfl) (⟨HKP.out _ _ _ _ _ HB6.out hRd,hcl (HKP.out _ _ _ _ _ HI6.out hRd)⟩) (fun hHeld=>?_);refine tkp 0 (.pointer (some ⟨q,0,none⟩)) hHeld ?_;simp only [zq];refine tkg 1 (.agg (B K)) rfl (yieldsIf_load_mid rfl 48 (.tmp 6) rfl b6 0 rfl (B K).toList _ (fun w hS=>hS.1.range) Tryz.underlying48 rfl HPL.out) hHeld ?_;simp only [zq];refine tkp 2 (.int .i64 (m:Int)) hHeld ?_;simp only [zq];refine tkp 3 (.slice (some ⟨lb,0,none⟩) wn wc) hHeld ?_;simp only [zq];refine tkp 4 (.int .i64 (m:Int)) hHeld ?_;simp only [zq];refine tkp 5 (.pointer (some ⟨lb,m,none⟩)) hHeld ?_;simp only [zq];refine tkg 6 (.int .i64 xx) rfl (Or.inl ⟨by rfl,fun w hS=>by (have q1:=hS.2;go_simp)⟩) hHeld ?_;simp only [zq];refine wpAnyH_ready (rs:=[7]) (by kernel_rfl) (by simp) ?_;refine AllReadyH.cons rfl (fun KQ hK=>?_) AllReadyH.nil;go_simp;refine (HO2.out _ _ _ hRd).mono ?_;rintro e z1 ⟨rfl,r1⟩;refine hK.out _ _ (⟨HKP.out _ _ _ _ _ HB6.out r1,hcl (HKP.out _ _ _ _ _ HI6.out r1)⟩) (fun hHeld=>?_);clear hK KQ;refine tkp 8 (.int .i64 (sg m:Int)) hHeld ?_;simp only [zq];refine wpAnyH_done (by kernel_rfl) ?_ _;have HR1:=Za r1;clear r1 hRd hHeld hcl hR
   by_cases o0:sg m=0
   ·have o1: ¬(0:Int)<(sg m:Int):=by omega
    have HM1:=Za (HNO.out _ _ _ _ o0 HR1.out);clear o0
    go_wp2_with (first
     |((with_reducible refine Zk 108 6 ?_);refine Zg _ rfl _ _ rfl b6 _ rfl (HKM.out _ _ _ _ _ HB6.out HM1.out) _ _ Tryz.underlying48 HPS.out ?_)
     |(go_at_call 144;refine (HMA.out _ _ _ _ hmn HM1.out).mono ?_;rintro e z3 ⟨t3,rfl,r3⟩;have HR3:=Za r3;clear r3))
    exact ⟨⟨m,t3,by omega,rfl,rfl,HR3⟩,by first | (simp [intOf];done) | (simp [intOf];omega)⟩
   ·have o1:(0:Int)<(sg m:Int):=by omega
    have HHM:=Za (HHO.out _ _ _ _ hmn o0 HR1.out);clear o0
    go_wp2_with (first
     |(go_at_call 54;refine HHM.out.mono ?_;rintro e z2 ⟨rfl,m1⟩;have HM1:=Za m1;clear m1)
     |((with_reducible refine Zk 108 6 ?_);refine Zg _ rfl _ _ rfl b6 _ rfl (HKM.out _ _ _ _ _ HB6.out HM1.out) _ _ Tryz.underlying48 HPS.out ?_)
     |(go_at_call 144;refine (HMA.out _ _ _ _ hmn HM1.out).mono ?_;rintro e z3 ⟨t3,rfl,r3⟩;have HR3:=Za r3;clear r3))
    exact ⟨⟨m,t3,by omega,rfl,rfl,HR3⟩,by first | (simp [intOf];done) | (simp [intOf];omega)⟩
  ·obtain rfl:j=0:=by omega
   have i1: ¬(0:Int)≤((0:Nat):Int)-1:=by omega
   by_cases hrt:0<rt
   ·have HD2:=Za (HDR.out hrt _ _ _ HQ5.out hR.out)
    go_wp2_with (first
     |(go_at_call 56;refine HD2.out.mono ?_;rintro e z4 ⟨x4,y4,rfl,p4⟩;have HP4:=Za p4;clear p4))
    exact HP4.out
   ·have HP4:=Za (HND.out (by omega) _ _ _ HQ5.out hR.out)
    go_wp2_with fail
    exact HP4.out
theorem Ygp {P:Ending→World→Prop} {RW RM:World→Nat→Nat→World→Prop} {sg:Nat→Nat}
  (HS:Hid (∀b,w.heap.size≤b→b ∉ S)) (HPS:Hid ((Tryz.prog.info? 48).map (·.size)=some (B K).size)) (HWN:Hid (wn=hsl.length)) (HLE:Hid (wn≤sn∧sn≤256))
  (HWR:Hid (Kr w 137 #[.pointer (some ⟨q,0,none⟩),.int .i64 rt,u] (.int .i64 0)))
  (HFT:Hid (Kr w 59 #[.pointer (some ⟨q,0,none⟩),.int .i64 1] (.bool true)))
  (HWY:Hid (∀w',Kb w w'→Kc 138 #[.pointer (some ⟨q,0,none⟩),.int .i64 rt,.agg (B K)] w' fun e w''=>∃a c,e=.returned (.tuple #[.slice a wn c,.int .i64 fi])∧w''.ownsRow w'.heap.size 3 1 (.slice a wn c) wn (nats hsl)∧Below w'.heap.size w' w''))
  (HTH:Hid (Kr w 139 #[.pointer (some ⟨q,0,none⟩),.int .i64 fi,.agg (B K),u] (.bool false)))
  (HLF:Hid (∀w5,Kb w w5→Kc 140 #[.pointer (some ⟨q,0,none⟩),.agg (B K),u] w5 fun e w''=>∃t:Nat,e=.returned (.tuple #[.int .i64 (t:Int),.int .i64 0])∧RW w5 sn t w''))
  (HGR:Hid (∀w5 m t w' w'',RW w5 m t w'→Below w'.heap.size w' w''→RW w5 m t w'')) (HKP:Hid (∀w5 m t w' (Q:World→Prop),Kq S w5 Q→RW w5 m t w'→Q w')) (HKM:Hid (∀w5 m t w' (Q:World→Prop),Kq S w5 Q→RM w5 m t w'→Q w'))
  (HNO:Hid (∀w5 m t w',sg m=0→RW w5 (m+1) t w'→RM w5 m t w'))
  (HHO:Hid (∀w5 m t w',m<sn→sg m≠0→RW w5 (m+1) t w'→Kc 54 #[.pointer (some ⟨q,0,none⟩),.int .i64 (sg m:Int)] w' fun e w''=>e=.returned (.int .i64 0)∧RM w5 m t w''))
  (HMA:Hid (∀w5 m (t:Nat) w',m<sn→RM w5 m t w'→Kc 144 #[.pointer (some ⟨q,0,none⟩),.agg (B K),.int .i64 (m:Int),.int .i64 (t:Int),.int .i64 (sg m:Int)] w' fun e w''=>∃t':Nat,e=.returned (.int .i64 (t':Int))∧RW w5 m t' w''))
  (HOT:Hid (∀w5 m t w',m<wn→RW w5 (m+1) t w'→Kc 145 #[.pointer (some ⟨q,0,none⟩),.agg (B K),.int .i64 (m:Int),.int .i64 (hsl.getD m 0:Int)] w' fun e w''=>e=.returned (.int .i64 (sg m:Int))∧RW w5 (m+1) t w''))
  (HDR:Hid (0<rt→∀w5 (t:Nat) w',Kb w w5→RW w5 0 t w'→Kc 56 #[.pointer (some ⟨q,0,none⟩),.int .i64 rt] w' fun e w''=>∃x y:Int,e=.returned (.tuple #[.int .i64 x,.int .i64 y])∧P (.returned (.tuple #[.int .i64 (t:Int),.int .i64 0])) w''))
  (HND:Hid (rt≤0→∀w5 (t:Nat) w',Kb w w5→RW w5 0 t w'→P (.returned (.tuple #[.int .i64 (t:Int),.int .i64 0])) w'))
  (HKD:Hid (∀w5 t w',RW w5 sn t w'→Kc 141 #[.pointer (some ⟨q,0,none⟩),.int .i64 fi] w' fun e w''=>e=.returned (.int .u8 1)∧RW w5 sn t w'')) {ky:Lq} {c:Nat} (HC:Hid (wn≤c∧sn=c+1∧∀m,wn≤m→m<c→sg m=0)) (HFC:fi=(sg c:Int)) (HF0:Hid (sg c≠0)) (HKY:Hid (∀w5 t w',RW w5 sn t w'→Kc 142 #[.pointer (some ⟨q,0,none⟩),.int .i64 fi] w' fun e w''=>e=.returned (.agg (B ky))∧RW w5 sn t w'')) (HCM:Hid (∀w',Kc 143 #[.agg (B K),.agg (B ky)] w' fun e w''=>e=.returned (.int .i64 (c:Int))∧Below w'.heap.size w' w'')) (hEK:∀w,(Op.equalIn 10000 48 (.agg (B ky)) (.agg (B K))).run Tryz.prog w=.ok false w):Kc 85 #[.pointer (some ⟨q,0,none⟩),.int .i64 rt,.agg (B K),u] w P:=by
 have HPL:Hid ((Tryz.prog.info? 48).map (·.size)=some (B K).toList.length):=by show _=_;rw [Array.length_toList];exact HPS.out
 have hw256:wn≤256:=by have:=HLE.out;omega
 have hww:wrap64 ((wn:Int)-1)=(wn:Int)-1:=Go.IntWalk.wrap64_in _ (by omega);have u0:=(⟨HNO,HHO,HMA,HOT,HKM⟩:_∧_∧_∧_∧_);clear u0;subst HFC;go_enter Tryz.func85,Tryz.ntmps85
 go_wp2_with (first
  |((with_reducible refine Zo 6 ?_);refine Zd _ rfl _ _ rfl _ rfl ?_;intro w1 b6 hg6 hl6 B6 q6;have HB1:=Za B6;have HQ1:=Za q6;have HG6:=Za hg6;clear hg6 hl6 B6 q6)
  |(go_at_call 137;refine (HWR.out _ HQ1.out).mono ?_;rintro e w2 ⟨rfl,b2⟩;have HQ2:=Za (Zb HQ1.out b2);have HB2:=Za (HB1.out.grow b2);clear b2)
  |(go_at_call 59;refine (HFT.out _ HQ2.out).mono ?_;rintro e w3 ⟨rfl,b3⟩;have HQ3:=Za (Zb HQ2.out b3);have HB3:=Za (HB2.out.grow b3);clear b3)
  |((with_reducible refine Zk 32 6 ?_);refine Zg _ rfl _ _ rfl b6 _ rfl HB3.out _ _ Tryz.underlying48 HPS.out ?_)
  |(go_at_call 138;refine (HWY.out _ HQ3.out).mono ?_;rintro e w4 ⟨wa,wc,rfl,o4,b4⟩;have HO4:=Za (Zaj o4 HQ3.out.size);have HQ4:=Za (Zb HQ3.out b4);have HB4:=Za (HB3.out.grow b4);clear b4 o4)
  |((with_reducible refine Zk 38 6 ?_);refine Zg _ rfl _ _ rfl b6 _ rfl HB4.out _ _ Tryz.underlying48 HPS.out ?_)
  |(go_at_call 139;refine (HTH.out _ HQ4.out).mono ?_;rintro e w5 ⟨rfl,b5⟩;have HQ5:=Za (Zb HQ4.out b5);have HB5:=Za (HB4.out.grow b5);have HB6:=Za (Kq.blk HB5.out (HS.out b6 HG6.out));have HI6:Hid (Kq S w5 (fun w'=>Ints9 w' wa hsl)):=Zfq (Zl HO4.out b5) HWN.out (fun g hg=>HS.out g (HO4.out.lt g hg).1);clear b5)
  |((with_reducible refine Zk 44 6 ?_);refine Zg _ rfl _ _ rfl b6 _ rfl HB5.out _ _ Tryz.underlying48 HPS.out ?_)
  |(go_at_call 140;refine (HLF.out _ HQ5.out).mono ?_;rintro e w6 ⟨t0,rfl,r6⟩;have HR6:=Za r6;clear r6))
 clear HWR HFT HWY HTH HLF HB1 HB2 HB3 HB4 HB5 HQ1 HQ2 HQ3 HQ4 HO4;have hRd:=HGR.out _ _ _ _ _ HR6.out (below_drewN (Below.refl w6.heap.size w6) 1);refine wp_region_held_drew (S:=fun w'=>Blk w' b6 48 (B K)) (by kernel_rfl) (HKP.out _ _ _ _ _ HB6.out hRd) (fun hHeld=>?_);refine tkp 0 (.pointer (some ⟨q,0,none⟩)) hHeld ?_;simp only [zq];refine tkp 1 (.int .i64 (sg c:Int)) hHeld ?_;simp only [zq];refine wpAnyH_ready (rs:=[2]) (by kernel_rfl) (by simp) ?_;refine AllReadyH.cons rfl (fun KQ hK=>?_) AllReadyH.nil;go_simp;refine (HKD.out _ _ _ hRd).mono ?_;rintro e z1 ⟨rfl,r1⟩;refine hK.out _ _ (HKP.out _ _ _ _ _ HB6.out r1) (fun hHeld=>?_);clear hK KQ;refine tkp 3 (.bool true) hHeld ?_;simp only [zq];refine tkp 4 (.bool true) hHeld ?_;simp only [zq];refine tkp 5 (.pointer (some ⟨q,0,none⟩)) hHeld ?_;simp only [zq];refine tkp 6 (.int .i64 (sg c:Int)) hHeld ?_;simp only [zq];refine tkg 8 (.agg (B K)) rfl (yieldsIf_load_mid rfl 48 (.tmp 6) rfl b6 0 rfl (B K).toList _ (fun w hS=>hS.range) Tryz.underlying48 rfl HPL.out) hHeld ?_;simp only [zq];refine wpAnyH_ready (rs:=[7]) (by kernel_rfl) (by simp) ?_;refine AllReadyH.cons rfl (fun KQ hK=>?_) AllReadyH.nil;go_simp;refine (HKY.out _ _ _ r1).mono ?_;rintro e z2 ⟨rfl,r2⟩;refine hK.out _ _ (HKP.out _ _ _ _ _ HB6.out r2) (fun hHeld=>?_);clear hK KQ;refine tkp 9 (.bool true) hHeld ?_;simp only [zq];refine tkp 10 (.bool true) hHeld ?_;simp only [zq];refine wpAnyH_done (by kernel_rfl) ?_ _
 replace HR6:=Za r2
 clear hRd hHeld r1 r2
 go_wp2_with fail
 have hRd:=HGR.out _ _ _ _ _ HR6.out (below_drewN (Below.refl _ _) 1);refine wp_region_held_drew (S:=fun w'=>Blk w' b6 48 (B K)) (by kernel_rfl) (HKP.out _ _ _ _ _ HB6.out hRd) (fun hHeld=>?_);refine tkg 0 (.agg (B K)) rfl (yieldsIf_load_mid rfl 48 (.tmp 6) rfl b6 0 rfl (B K).toList _ (fun w hS=>hS.range) Tryz.underlying48 rfl HPL.out) hHeld ?_;simp only [zq];refine tkp 1 (.pointer (some ⟨q,0,none⟩)) hHeld ?_;simp only [zq];refine tkp 2 (.int .i64 (sg c:Int)) hHeld ?_;simp only [zq];refine wpAnyH_ready (rs:=[3]) (by kernel_rfl) (by simp) ?_;refine AllReadyH.cons rfl (fun KQ hK=>?_) AllReadyH.nil;go_simp;refine (HKY.out _ _ _ hRd).mono ?_;rintro e z3 ⟨rfl,r3⟩;refine hK.out _ _ (HKP.out _ _ _ _ _ HB6.out r3) (fun hHeld=>?_);clear hK KQ;refine wpAnyH_ready (rs:=[4]) (by kernel_rfl) (by simp) ?_;refine AllReadyH.cons rfl (fun KQ hK=>?_) AllReadyH.nil;go_simp;refine (HCM.out _).mono ?_;rintro e z4 ⟨rfl,b4⟩;have r4:=HGR.out _ _ _ _ _ r3 b4;refine hK.out _ _ (HKP.out _ _ _ _ _ HB6.out r4) (fun hHeld=>?_);clear hK KQ;refine tkp 5 (.int .i64 (c:Int)) hHeld ?_;simp only [zq];refine wpAnyH_done (by kernel_rfl) ?_ _
 replace HR6:=Za r4
 clear hRd hHeld r3 b4 r4;obtain ⟨hc1,hc2,hc3⟩:=HC.out;have hc256:c<256:=by have:=HLE.out.2;omega
 have HHC:Hid (∀w',RW w5 sn t0 w'→Kc 54 #[.pointer (some ⟨q,0,none⟩),.int .i64 (sg c:Int)] w' fun e w''=>e=.returned (.int .i64 0)∧RM w5 c t0 w''):=fun w' hr=>HHO.out w5 c t0 w' (by omega) HF0.out (by rw [← hc2];exact hr)
 have HMC:Hid (∀w',RM w5 c t0 w'→Kc 144 #[.pointer (some ⟨q,0,none⟩),.agg (B K),.int .i64 (c:Int),.int .i64 (t0:Int),.int .i64 (sg c:Int)] w' fun e w''=>∃t':Nat,e=.returned (.int .i64 (t':Int))∧RW w5 c t' w''):=fun w' hr=>HMA.out w5 c t0 w' (by omega) hr
 have HMZ:Hid (∀m (t:Nat) w',wn≤m→m<c→RW w5 (m+1) t w'→Kc 144 #[.pointer (some ⟨q,0,none⟩),.agg (B K),.int .i64 (m:Int),.int .i64 (t:Int),.int .i64 0] w' fun e w''=>∃t':Nat,e=.returned (.int .i64 (t':Int))∧RW w5 m t' w''):=fun m t w' h1 h2 hr=>by
  have h0:=hc3 m h1 h2;have:=HMA.out w5 m t w' (by omega) (HNO.out _ _ _ _ h0 hr);rw [h0] at this;exact this
 have hwc:wrap64 ((c:Int)-1)=(c:Int)-1:=Go.IntWalk.wrap64_in _ (by omega);clear hc2 hc3
 go_wp2_with (first
  |(go_at_call 54;refine (HHC.out _ HR6.out).mono ?_;rintro e z5 ⟨rfl,m5⟩;have HM5:=Za m5;clear m5)
  |((with_reducible refine Zk 69 6 ?_);refine Zg _ rfl _ _ rfl b6 _ rfl (HKM.out _ _ _ _ _ HB6.out HM5.out) _ _ Tryz.underlying48 HPS.out ?_)
  |(go_at_call 144;refine (HMC.out _ HM5.out).mono ?_;rintro e z6 ⟨t6,rfl,r6⟩;have HR7:=Za r6;clear r6))
 go_loopw [13,16] (fun nv dv wr=>∃(j t:Nat),wn≤j∧j≤c∧nv=.int .i64 (t:Int)∧dv=.int .i64 ((j:Int)-1)∧Hid (RW w5 j t wr)) (fun _ dv _=>(intOf dv+1).toNat)
 case atStart=>exact ⟨c,t6,hc1,Nat.le_refl _,rfl,rfl,HR7⟩
 case round=>
  clear HR7 HM5 HR6;obtain ⟨j,t,hjw,hjc,rfl,rfl,hR⟩:=hrel
  by_cases hj0:wn<j
  ·obtain ⟨m,rfl⟩:∃m,j=m+1:=⟨j-1,by omega⟩;rw [show (((m+1:Nat):Int)-1)=(m:Int) by omega];have i1:(wn:Int)≤(m:Int):=by omega
   have hwm:wrap64 ((m:Int)-1)=(m:Int)-1:=Go.IntWalk.wrap64_in _ (by omega);have HM1:=Za (HMZ.out m t _ (by omega) (by omega) hR.out)
   go_wp2_with (first
    |((with_reducible refine Zk 83 6 ?_);refine Zg _ rfl _ _ rfl b6 _ rfl (HKP.out _ _ _ _ _ HB6.out hR.out) _ _ Tryz.underlying48 HPS.out ?_)
    |(go_at_call 144;refine HM1.out.mono ?_;rintro e z7 ⟨t7,rfl,r7⟩;have HR8:=Za r7;clear r7))
   exact ⟨⟨m,t7,by omega,by omega,rfl,rfl,HR8⟩,by first | (simp [intOf];done) | (simp [intOf];omega)⟩
  ·obtain rfl:j=wn:=by omega
   have i1: ¬(j:Int)≤(j:Int)-1:=by omega
   go_wp2_with fail
   go_loopw [13,17] (fun nv dv wr=>∃(jj t:Nat),jj≤j∧nv=.int .i64 (t:Int)∧dv=.int .i64 ((jj:Int)-1)∧Hid (RW w5 jj t wr)) (fun _ dv _=>(intOf dv+1).toNat)
   case atStart=>exact ⟨j,t,Nat.le_refl _,rfl,rfl,hR⟩
   case round=>
    clear hR;obtain ⟨jj,t,hj,rfl,rfl,hR⟩:=hrel
    by_cases hj1:0<jj
    ·obtain ⟨m,rfl⟩:∃m,jj=m+1:=⟨jj-1,by omega⟩;rw [show (((m+1:Nat):Int)-1)=(m:Int) by omega];have i1:(0:Int)≤(m:Int):=by omega
     have i2:(m:Int)<(j:Int):=by omega
     have hwm:wrap64 ((m:Int)-1)=(m:Int)-1:=Go.IntWalk.wrap64_in _ (by omega);have hmw:m<j:=by omega
     have hmn:m<sn:=by have:=HLE.out.1;omega
     obtain ⟨lb,rfl,-⟩:=HI6.out.now m (by rw [← HWN.out];exact hmw);have HO2:Hid (∀w5 t w',RW w5 (m+1) t w'→Kc 145 #[.pointer (some ⟨q,0,none⟩),.agg (B K),.int .i64 (m:Int),.int .i64 (hsl.getD m 0:Int)] w' fun e w''=>e=.returned (.int .i64 (sg m:Int))∧RW w5 (m+1) t w''):=fun w5 t w' hr=>HOT.out w5 m t w' hmw hr
     have hcl:∀ {w'},Ints9 w' (some ⟨lb,0,none⟩) hsl→w'.cell? ⟨lb,m,none⟩=some (.int .i64 (hsl.getD m 0:Int)):=fun {w'} hi=>by
      obtain ⟨g',e1,e2⟩:=hi m (by rw [← HWN.out];exact hmw);injection e1 with e1;injection e1 with e1;rw [e1];exact e2
     generalize (hsl.getD m 0:Int)=xx at HO2 hcl;have hRd:=HGR.out _ _ _ _ _ hR.out (below_drewN (Below.refl wr.heap.size wr) 1)
     go_wp2_with fail
     refine wp_region_held_drew (S:=fun w'=>Blk w' b6 48 (B K)∧w'.cell? ⟨lb,m,none⟩=some (.int .i64 xx)) (by kernel_rfl) (⟨HKP.out _ _ _ _ _ HB6.out hRd,hcl (HKP.out _ _ _ _ _ HI6.out hRd)⟩) (fun hHeld=>?_);refine tkp 0 (.pointer (some ⟨q,0,none⟩)) hHeld ?_;simp only [zq];refine tkg 1 (.agg (B K)) rfl (yieldsIf_load_mid rfl 48 (.tmp 6) rfl b6 0 rfl (B K).toList _ (fun w hS=>hS.1.range) Tryz.underlying48 rfl HPL.out) hHeld ?_;simp only [zq];refine tkp 2 (.int .i64 (m:Int)) hHeld ?_;simp only [zq];refine tkp 3 (.slice (some ⟨lb,0,none⟩) j wc) hHeld ?_;simp only [zq];refine tkp 4 (.int .i64 (m:Int)) hHeld ?_;simp only [zq];refine tkp 5 (.pointer (some ⟨lb,m,none⟩)) hHeld ?_;simp only [zq];refine tkg 6 (.int .i64 xx) rfl (Or.inl ⟨by rfl,fun w hS=>by (have q1:=hS.2;go_simp)⟩) hHeld ?_;simp only [zq];refine wpAnyH_ready (rs:=[7]) (by kernel_rfl) (by simp) ?_;refine AllReadyH.cons rfl (fun KQ hK=>?_) AllReadyH.nil;go_simp;refine (HO2.out _ _ _ hRd).mono ?_;rintro e z1 ⟨rfl,r1⟩;refine hK.out _ _ (⟨HKP.out _ _ _ _ _ HB6.out r1,hcl (HKP.out _ _ _ _ _ HI6.out r1)⟩) (fun hHeld=>?_);clear hK KQ;refine tkp 8 (.int .i64 (sg m:Int)) hHeld ?_;simp only [zq];refine wpAnyH_done (by kernel_rfl) ?_ _;have HR1:=Za r1;clear r1 hRd hHeld hcl hR
     by_cases o0:sg m=0
     ·have o1: ¬(0:Int)<(sg m:Int):=by omega
      have HM1:=Za (HNO.out _ _ _ _ o0 HR1.out);clear o0
      go_wp2_with (first
       |((with_reducible refine Zk 108 6 ?_);refine Zg _ rfl _ _ rfl b6 _ rfl (HKM.out _ _ _ _ _ HB6.out HM1.out) _ _ Tryz.underlying48 HPS.out ?_)
       |(go_at_call 144;refine (HMA.out _ _ _ _ hmn HM1.out).mono ?_;rintro e z3 ⟨t3,rfl,r3⟩;have HR3:=Za r3;clear r3))
      exact ⟨⟨m,t3,by omega,rfl,rfl,HR3⟩,by first | (simp [intOf];done) | (simp [intOf];omega)⟩
     ·have o1:(0:Int)<(sg m:Int):=by omega
      have HHM:=Za (HHO.out _ _ _ _ hmn o0 HR1.out);clear o0
      go_wp2_with (first
       |(go_at_call 54;refine HHM.out.mono ?_;rintro e z2 ⟨rfl,m1⟩;have HM1:=Za m1;clear m1)
       |((with_reducible refine Zk 108 6 ?_);refine Zg _ rfl _ _ rfl b6 _ rfl (HKM.out _ _ _ _ _ HB6.out HM1.out) _ _ Tryz.underlying48 HPS.out ?_)
       |(go_at_call 144;refine (HMA.out _ _ _ _ hmn HM1.out).mono ?_;rintro e z3 ⟨t3,rfl,r3⟩;have HR3:=Za r3;clear r3))
      exact ⟨⟨m,t3,by omega,rfl,rfl,HR3⟩,by first | (simp [intOf];done) | (simp [intOf];omega)⟩
    ·obtain rfl:jj=0:=by omega
     have i1: ¬(0:Int)≤((0:Nat):Int)-1:=by omega
     by_cases hrt:0<rt
     ·have HD2:=Za (HDR.out hrt _ _ _ HQ5.out hR.out)
      go_wp2_with (first
       |(go_at_call 56;refine HD2.out.mono ?_;rintro e z4 ⟨x4,y4,rfl,p4⟩;have HP4:=Za p4;clear p4))
      exact HP4.out
     ·have HP4:=Za (HND.out (by omega) _ _ _ HQ5.out hR.out)
      go_wp2_with fail
      exact HP4.out
section
variable {w0 w:World} {S0:List Nat} {q room:Nat} {cs:Lz} {fr:List Nat}
theorem Zsz {root:Nat} (hT:IsT cs root T) {K bs:Lq} (hs:T.efin K=[(K,bs)]):thP (cat cs (T.fin K root:Int)) K bs=true:=by
 rcases Zej K T root hT with ⟨_,f2⟩ | ⟨k,b,f1,f2,f3,f4,f5,f6⟩
 ·rw [f2] at hs;cases hs
 ·rw [f1] at hs;injection hs with hs _;injection hs with e1 e2;rw [Zen f2];unfold thP;rw [f4,f5,f6,e1,e2];simp
theorem Ycb {root:Nat} (hT:IsT cs root T) {K bs:Lq} (hs:T.efin K≠[(K,bs)]):thP (cat cs (T.fin K root:Int)) K bs=false:=by
 rcases Zej K T root hT with ⟨f1,_⟩ | ⟨k,b,f1,f2,f3,f4,f5,f6⟩
 ·rw [f1];rfl
 ·rw [Zen f2];unfold thP;rw [f4,f5,f6];rw [f1] at hs
  by_cases e1:k=K
  ·by_cases e2:b=bs
   ·exact absurd (by rw [e1,e2]) hs
   ·simp [e2]
  ·simp [e1]
theorem Zzd (V:Hr w0 S0 w q room cs fr) (h:Int) (K:Lq) (u:Value) (bs:Lq) (hu:Reads w u bs) (e0:Int) (he:vRf true (cot cs h) (cat cs h) h bs.length=e0) (h0:e0≠0):Kc 85 #[.pointer (some ⟨q,0,none⟩),.int .i64 h,.agg (B K),u] w fun e w'=>e=.returned (.tuple #[.int .i64 0,.int .i64 e0])∧Kb w w':=by
 obtain ⟨a,c,rfl,_⟩:=hu;have HRF:Hid (Kr w 137 #[.pointer (some ⟨q,0,none⟩),.int .i64 h,.slice a bs.length c] (.int .i64 e0)):=fun w' hb=>by
  have:=Zgg (V.grow hb) h a bs.length c;rwa [he] at this
 have hb0:(e0 != 0)=true:=by simpa using h0
 generalize bs.length=n at HRF ⊢;clear V he h0;go_enter Tryz.func85,Tryz.ntmps85
 go_wp2_with (first
  |((with_reducible refine Zo 6 ?_);refine Zd _ rfl _ _ rfl _ rfl ?_;intro w1 b5 hg5 hl5 B5 q5;have HQ5:=Za q5;clear hg5 hl5 B5 q5)
  |(go_at_call 137;refine (HRF.out _ HQ5.out).mono ?_;rintro e w2 ⟨rfl,b2⟩;have HQ2:=Za (Zb HQ5.out b2);clear b2))
 go_ret2;exact ⟨rfl,HQ2.out⟩
theorem Zuf (V:Hr w0 S0 w q room cs fr) (h5:room≤5000) (h:Int) (K:Lq) (u:Value) (bs:Lq) (hu:Reads w u bs) (he:vRf true (cot cs h) (cat cs h) h bs.length=0) (hf:room<noc cs+258):Kc 85 #[.pointer (some ⟨q,0,none⟩),.int .i64 h,.agg (B K),u] w fun e w'=>e=.returned (.tuple #[.int .i64 0,.int .i64 9])∧Kb w w':=by
 obtain ⟨a,c,rfl,_⟩:=hu;have HRF:Hid (Kr w 137 #[.pointer (some ⟨q,0,none⟩),.int .i64 h,.slice a bs.length c] (.int .i64 0)):=fun w' hb=>by
  have:=Zgg (V.grow hb) h a bs.length c;rwa [he] at this
 have HFT:Hid (Kr w 59 #[.pointer (some ⟨q,0,none⟩),.int .i64 1] (.bool false)):=fun w' hb=>by
  have:=Zpa (V.grow hb) h5 1;rwa [show fitsN (noc cs) room 1=false by simp [fitsN];omega] at this
 generalize bs.length=n at HRF ⊢;clear V he hf;go_enter Tryz.func85,Tryz.ntmps85
 go_wp2_with (first
  |((with_reducible refine Zo 6 ?_);refine Zd _ rfl _ _ rfl _ rfl ?_;intro w1 b5 hg5 hl5 B5 q5;have HQ5:=Za q5;clear hg5 hl5 B5 q5)
  |(go_at_call 137;refine (HRF.out _ HQ5.out).mono ?_;rintro e w2 ⟨rfl,b2⟩;have HQ2:=Za (Zb HQ5.out b2);clear b2)
  |(go_at_call 59;refine (HFT.out _ HQ2.out).mono ?_;rintro e w3 ⟨rfl,b3⟩;have HQ3:=Za (Zb HQ2.out b3);clear b3))
 go_ret2;exact ⟨rfl,HQ3.out⟩
theorem Zue (V:Hr w0 S0 w q room cs fr) (h5:room≤5000) {h:Nat} {T:Tre} (r:Rt cs h T) {K:Lq} (hK:Key K) {u:Value} {bs:Lq} (hu:Reads w u bs) (hl:bs.length≤1024) (hf:noc cs+258≤room) (hsm:T.efin K=[(K,bs)]):Kc 85 #[.pointer (some ⟨q,0,none⟩),.int .i64 (h:Int),.agg (B K),u] w fun e w'=>e=.returned (.tuple #[.int .i64 (h:Int),.int .i64 0])∧Kb w w':=by
 have HWY:Hid (∀w',Kb w w'→Kc 138 #[.pointer (some ⟨q,0,none⟩),.int .i64 (h:Int),.agg (B K)] w' fun e w''=>∃a c n,e=.returned (.tuple #[.slice a n c,.int .i64 (T.fin K h:Int)])∧Below w'.heap.size w' w''):=fun w' hb=>(Ydg (V.grow hb) h T r.tree K hK r.dp).mono fun e w'' ⟨a,c,e1,_,b⟩=>⟨a,c,_,e1,b⟩
 have HTH:Hid (Kr w 139 #[.pointer (some ⟨q,0,none⟩),.int .i64 (T.fin K h:Int),.agg (B K),u] (.bool true)):=fun w' hb=>by
  have:=Zne (V.grow hb) h5 (T.fin K h:Int) K hK u bs (hu.grow hb);rwa [Zsz r.tree hsm] at this
 obtain ⟨a,c,hue,_⟩:=hu;subst hue;have HRF:Hid (Kr w 137 #[.pointer (some ⟨q,0,none⟩),.int .i64 (h:Int),.slice a bs.length c] (.int .i64 0)):=fun w' hb=>by
  have:=Zgg (V.grow hb) (h:Int) a bs.length c;rwa [r.refuse hl] at this
 have HFT:Hid (Kr w 59 #[.pointer (some ⟨q,0,none⟩),.int .i64 1] (.bool true)):=fun w' hb=>by
  have:=Zpa (V.grow hb) h5 1;rwa [show fitsN (noc cs) room 1=true by simp [fitsN];omega] at this
 have HPS:Hid ((Tryz.prog.info? 48).map (·.size)=some (B K).size):=by show _=_;rw [Zn,hK.1];exact Zi
 generalize (h:Int)=hh at HWY HRF ⊢;generalize (T.fin K h:Int)=ff at HWY HTH;generalize bs.length=n at HRF HTH ⊢;clear V hf hK r hsm;go_enter Tryz.func85,Tryz.ntmps85
 go_wp2_with (first
  |((with_reducible refine Zo 6 ?_);refine Zd _ rfl _ _ rfl _ rfl ?_;intro w1 b5 hg5 hl5 B5 q5;have HQ5:=Za q5;have HB5:=Za B5;clear hg5 hl5 B5 q5)
  |(go_at_call 137;refine (HRF.out _ HQ5.out).mono ?_;rintro e w2 ⟨rfl,b2⟩;have HQ2:=Za (Zb HQ5.out b2);have HB2:=Za (HB5.out.grow b2);clear b2)
  |(go_at_call 59;refine (HFT.out _ HQ2.out).mono ?_;rintro e w3 ⟨rfl,b3⟩;have HQ3:=Za (Zb HQ2.out b3);have HB3:=Za (HB2.out.grow b3);clear b3)
  |((with_reducible refine Zk 32 6 ?_);refine Zg _ rfl _ _ rfl b5 _ rfl HB3.out _ _ Tryz.underlying48 HPS.out ?_)
  |(go_at_call 138;refine (HWY.out _ HQ3.out).mono ?_;rintro e w4 ⟨wa,wc,wn,rfl,b4⟩;have HQ4:=Za (Zb HQ3.out b4);have HB4:=Za (HB3.out.grow b4);clear b4)
  |((with_reducible refine Zk 38 6 ?_);refine Zg _ rfl _ _ rfl b5 _ rfl HB4.out _ _ Tryz.underlying48 HPS.out ?_)
  |(go_at_call 139;refine (HTH.out _ HQ4.out).mono ?_;rintro e w5 ⟨rfl,b6⟩;have HQ6:=Za (Zb HQ4.out b6);clear b6))
 go_ret2;exact ⟨rfl,HQ6.out⟩
theorem Zzc (V0:Hr w0 S0 w q room cs fr) (h5:room≤5000) {h:Nat} {T:Tre} (r:Rt cs h T) {K:Lq} (hK:Key K) {u:Value} {bs:Lq} (hu0:Kq S0 w0 fun w'=>Reads w' u bs) (hl:bs.length≤1024) (hct:∀i,cc cs i+257<1073741824) (hf:noc cs+258≤room) (hne:T.efin K≠[(K,bs)]) {ss:List Nat} (hss:BesIs K T h ss) (hbo:BesOk cs T.ents K ss) {topF:Nat} {cs':Lz} {fr':List Nat} (hp:PutTo cs fr h K bs ss topF cs' fr'):Kc 85 #[.pointer (some ⟨q,0,none⟩),.int .i64 (h:Int),.agg (B K),u] w fun e w'=>e=.returned (.tuple #[.int .i64 (topF:Int),.int .i64 0])∧Hr w0 S0 w' q room cs' fr':=by
 obtain ⟨S,V,hN,hkq,hS,hbk⟩:=V0.from
 have hu:=hkq _ hu0;have W:=V.wf;obtain ⟨v',cs2,fr2,ok,hz,hfin⟩:=hp;have hlen:=Tre.hs_oth K T h;have HS:Hid (∀b,w.heap.size≤b→b ∉ S):=fun b hb e=>by have:=hS b e;omega
 have HPS:Hid ((Tryz.prog.info? 48).map (·.size)=some (B K).size):=by show _=_;rw [Zn,hK.1];exact Zi
 have HWR:Hid (Kr w 137 #[.pointer (some ⟨q,0,none⟩),.int .i64 (h:Int),u] (.int .i64 0)):=fun w' hb=>by
  obtain ⟨a,c,hue,_⟩:=hu.now;have:=Zgg (V.grow hb) (h:Int) a bs.length c;rw [r.refuse hl] at this;rw [hue];exact this
 have HFT:Hid (Kr w 59 #[.pointer (some ⟨q,0,none⟩),.int .i64 1] (.bool true)):=fun w' hb=>by
  have:=Zpa (V.grow hb) h5 1;rwa [show fitsN (noc cs) room 1=true by simp [fitsN];omega] at this
 have HWY:Hid (∀w',Kb w w'→Kc 138 #[.pointer (some ⟨q,0,none⟩),.int .i64 (h:Int),.agg (B K)] w' fun e w''=>∃a c,e=.returned (.tuple #[.slice a (T.hs K h).length c,.int .i64 (T.fin K h:Int)])∧w''.ownsRow w'.heap.size 3 1 (.slice a (T.hs K h).length c) (T.hs K h).length (nats (T.hs K h))∧Below w'.heap.size w' w''):=fun w' hb=>Ydg (V.grow hb) h T r.tree K hK r.dp
 have HTH:Hid (Kr w 139 #[.pointer (some ⟨q,0,none⟩),.int .i64 (T.fin K h:Int),.agg (B K),u] (.bool false)):=fun w' hb=>by
  have:=Zne (V.grow hb) h5 (T.fin K h:Int) K hK u bs (hu.now.grow hb);rwa [Ycb r.tree hne] at this
 have HLF:Hid (∀w5,Kb w w5→Kc 140 #[.pointer (some ⟨q,0,none⟩),.agg (B K),u] w5 fun e w''=>∃t:Nat,e=.returned (.tuple #[.int .i64 (t:Int),.int .i64 0])∧RW9 w5 S q room cs T.ents K bs ss cs2 fr2 topF ss.length t w''):=fun w5 hb=>Zyz (V.rebase hb) h5 hbo hf hct hK (hu.now.grow hb) hl ok hz
 have HGR:Hid (∀w5 m t w' w'',RW9 w5 S q room cs T.ents K bs ss cs2 fr2 topF m t w'→Below w'.heap.size w' w''→RW9 w5 S q room cs T.ents K bs ss cs2 fr2 topF m t w''):=fun w5 m t w' w'' h1 h2=>h1.grow h2
 have HKP:Hid (∀w5 m t w' (Q:World→Prop),Kq S w5 Q→RW9 w5 S q room cs T.ents K bs ss cs2 fr2 topF m t w'→Q w'):=fun w5 m t w' Q k h1=>h1.kq k
 have HKM:Hid (∀w5 m t w' (Q:World→Prop),Kq S w5 Q→RM9 w5 S q room cs T.ents K bs ss cs2 fr2 topF m t w'→Q w'):=fun w5 m t w' Q k h1=>h1.kq k
 have HNO:Hid (∀w5 m t w',ss.getD m 0=0→RW9 w5 S q room cs T.ents K bs ss cs2 fr2 topF (m+1) t w'→RM9 w5 S q room cs T.ents K bs ss cs2 fr2 topF m t w'):=fun w5 m t w' h0 h1=>Zyx h1 h0
 have HHO:Hid (∀w5 m t w',m<ss.length→ss.getD m 0≠0→RW9 w5 S q room cs T.ents K bs ss cs2 fr2 topF (m+1) t w'→Kc 54 #[.pointer (some ⟨q,0,none⟩),.int .i64 (ss.getD m 0:Int)] w' fun e w''=>e=.returned (.int .i64 0)∧RM9 w5 S q room cs T.ents K bs ss cs2 fr2 topF m t w''):=fun w5 m t w' hm h0 h1=>Zzb hbo hct hf hm h0 h1
 have HMA:Hid (∀w5 m (t:Nat) w',m<ss.length→RM9 w5 S q room cs T.ents K bs ss cs2 fr2 topF m t w'→Kc 144 #[.pointer (some ⟨q,0,none⟩),.agg (B K),.int .i64 (m:Int),.int .i64 (t:Int),.int .i64 (ss.getD m 0:Int)] w' fun e w''=>∃t':Nat,e=.returned (.int .i64 (t':Int))∧RW9 w5 S q room cs T.ents K bs ss cs2 fr2 topF m t' w''):=fun w5 m t w' hm h1=>Zyy hbo hf h5 hK hm h1
 have HOT:Hid (∀w5 m t w',m<(T.hs K h).length→RW9 w5 S q room cs T.ents K bs ss cs2 fr2 topF (m+1) t w'→Kc 145 #[.pointer (some ⟨q,0,none⟩),.agg (B K),.int .i64 (m:Int),.int .i64 ((T.hs K h).getD m 0:Int)] w' fun e w''=>e=.returned (.int .i64 (ss.getD m 0:Int))∧RW9 w5 S q room cs T.ents K bs ss cs2 fr2 topF (m+1) t w''):=fun w5 m t w' hm h1=>Zub W r.tree r.dp hK hss hm h1
 obtain ⟨P,hP⟩:∃P:Ending→World→Prop,P=fun e w'=>e=.returned (.tuple #[.int .i64 (topF:Int),.int .i64 0])∧Hr w0 S0 w' q room cs' fr':=⟨_,rfl⟩
 have HDR:Hid (0<(h:Int)→∀w5 (t:Nat) w',Kb w w5→RW9 w5 S q room cs T.ents K bs ss cs2 fr2 topF 0 t w'→Kc 56 #[.pointer (some ⟨q,0,none⟩),.int .i64 (h:Int)] w' fun e w''=>∃x y:Int,e=.returned (.tuple #[.int .i64 x,.int .i64 y])∧P (.returned (.tuple #[.int .i64 (t:Int),.int .i64 0])) w''):=fun h0 w5 t w' hb h1=>by
  obtain ⟨rfl,H2,I2⟩:=Zuc h1;obtain ⟨_,n,run⟩:=hfin.resolve_left (fun q=>by omega);have ho2:0<own cs2 [] (h-1):=by
   have:=I2.own (h-1);rw [List.take_zero,List.count_nil] at this;have:=r.own.resolve_left (by omega);omega
  have run':Run cs2 fr2 [h-1+1] cs' fr' n:=by rw [show h-1+1=h by omega];exact run
  have hd:=Zwe H2 (h-1) ho2 run';rw [show (((h-1:Nat):Int)+1)=(h:Int) by omega] at hd;refine hd.mono ?_;rintro e w'' ⟨rfl,k⟩;rw [hP];exact ⟨_,_,rfl,rfl,hbk _ _ _ (Hr.back hb k)⟩
 have HND:Hid ((h:Int)≤0→∀w5 (t:Nat) w',Kb w w5→RW9 w5 S q room cs T.ents K bs ss cs2 fr2 topF 0 t w'→P (.returned (.tuple #[.int .i64 (t:Int),.int .i64 0])) w'):=fun h0 w5 t w' hb h1=>by
  obtain ⟨rfl,H2,I2⟩:=Zuc h1;obtain ⟨_,rfl,rfl⟩:=hfin.resolve_right (fun q=>by have:=q.1;omega);rw [hP];exact ⟨rfl,hbk _ _ _ (Hr.back hb H2)⟩
 rw [← hP];have hfo:=Zej K T h r.tree;have hoc:T.fin K h=0∨0<cc cs (T.fin K h-1):=by
  rcases hfo with ⟨e,_⟩ | ⟨_,_,_,_,e,_⟩
  ·exact .inl e
  ·exact .inr e
 have HKD0:Hid (∀w5 t w',RW9 w5 S q room cs T.ents K bs ss cs2 fr2 topF ss.length t w'→Kc 141 #[.pointer (some ⟨q,0,none⟩),.int .i64 (T.fin K h:Int)] w' fun e w''=>e=.returned (.int .u8 (sdC cs (T.fin K h)).kind)∧RW9 w5 S q room cs T.ents K bs ss cs2 fr2 topF ss.length t w''):=fun w5 t w' h1=>Zza W hoc h1
 have HKY0:Hid (∀w5 t w',RW9 w5 S q room cs T.ents K bs ss cs2 fr2 topF ss.length t w'→Kc 142 #[.pointer (some ⟨q,0,none⟩),.int .i64 (T.fin K h:Int)] w' fun e w''=>e=.returned (.agg (B (sdC cs (T.fin K h)).key))∧RW9 w5 S q room cs T.ents K bs ss cs2 fr2 topF ss.length t w''):=fun w5 t w' h1=>Ydh W h5 hoc h1
 rcases hfo with ⟨f1,f2⟩ | ⟨k,b,f1,f2,f3,f4,f5,f6⟩
 ·have hsl:ss=T.oth K:=by
   rcases hss with ⟨_,e⟩ | ⟨b,e,_⟩ | ⟨k,b,c,e,_⟩
   ·exact e
   ·rw [f2] at e;cases e
   ·rw [f2] at e;cases e
  have hk0:(sdC cs (T.fin K h)).kind=0:=by rw [f1];rfl
  rw [hk0] at HKD0;have hsw:(T.hs K h).length=ss.length:=by rw [hlen,hsl]
  exact Ydp (sg:=fun m=>ss.getD m 0) HS HPS rfl ⟨by omega,hbo.len⟩ HWR HFT HWY HTH HLF HGR HKP HKM HNO HHO HMA HOT HDR HND HKD0 hsw
 ·have hsd:sdC cs (T.fin K h)=ce cs (T.fin K h-1):=if_neg (by omega);rw [hsd,f4] at HKD0;rw [hsd,f5] at HKY0;rcases hss with ⟨e,_⟩ | ⟨b',e,hs⟩ | ⟨k',b',c,e,e2,e3,e4,e5,hs⟩
  ·rw [f1] at e;cases e
  ·rw [f1] at e;injection e with e _;injection e with e _;subst e;have hsw:(T.hs k h).length=ss.length:=by rw [hlen,hs]
   exact Ydo (sg:=fun m=>ss.getD m 0) HS HPS rfl ⟨by omega,hbo.len⟩ HWR HFT HWY HTH HLF HGR HKP HKM HNO HHO HMA HOT HDR HND HKD0 HKY0 (fun w=>by rw [Zdo k k hK.1 hK.1 w,decide_eq_true rfl]) hsw
  ·rw [f1] at e;injection e with e _;injection e with e _;subst e;have hky:Key k:=((Zbb W T h r.tree).ent (k,b) (Zds K T (k,b) (by rw [f1];simp))).1;have hsn:ss.length=c+1:=by rw [hs,Zdb _ _ _ e4]
   have hfc:T.fin K h=ss.getD c 0:=by rw [hs,Zkv _ _ _ e4]
   have hz0:∀m,(T.hs K h).length≤m→m<c→ss.getD m 0=0:=fun m h1 h2=>by rw [hs,Zqh _ _ _ _ (by rw [← hlen];exact h1) h2]
   exact Ygp (sg:=fun m=>ss.getD m 0) HS HPS rfl ⟨by omega,hbo.len⟩ HWR HFT HWY HTH HLF HGR HKP HKM HNO HHO HMA HOT HDR HND HKD0 ⟨by omega,hsn,hz0⟩ (by show (T.fin K h:Int)=_;rw [hfc]) (by show ss.getD c 0≠0;omega) HKY0 (fun w'=>Zgi K k c w' hK hky e3) (fun w=>by rw [Zdo k K hky.1 hK.1 w,decide_eq_false e2])
end
end Go.Proofs.YtlclabbnpjobgaaGreatDoor
