/- Slices of the call's own over a block of bytes of any type (a key that was boxed, too), and OverBytes over them. -/
import Derived.Test.YtgfdgjkbcdmboaaGreatDoorAc40
namespace Go.Proofs.YtgfdgjkbcdmboaaGreatDoor
set_option maxRecDepth 20000
open Go.RowKit
def OwnT (base:Nat) (w:World) (v:Value) (zs sp:List Int):Prop:=
 Bytes zs∧Bytes sp∧zs.length+sp.length≤maxLen∧
 ((v=.slice none 0 0∧zs=[]∧sp=[])∨∃g t rest,base≤g∧v=.slice (some ⟨g,0,none⟩) zs.length (zs.length+sp.length)∧Blk w g t (B (zs++sp++rest)))
structure ListsT (base gl off n:Nat) (V:Nat→Value) (Z S:Nat→List Int) (w:World):Prop where
 cell:∀i,i<n→w.cell? ⟨gl,off+i,none⟩=some (V i)
 own:∀i,i<n→OwnT base w (V i) (Z i) (S i)
 apart:∀i k,i<n→k<n→i≠k→∀g,(V i).ownBlock=some g→(V k).ownBlock≠some g
 far:∀i,i<n→(V i).ownBlock≠some gl
theorem Yno {w:World} {g:Nat} {vp vf:Value} {room:Nat} {ss:List Sp} {fr:List Nat} (h:Rs w g vp vf room ss fr) (q:Int):Reads w (sat ss q).val (sat ss q).bs:=by
 have z:Reads w zs7.val zs7.bs:=(Own.nil 0 w).reads
 unfold sat
 split
 ·unfold spAt
  by_cases hi:(q-1).toNat<ss.length
  ·rw [List.getElem?_eq_getElem hi]
   obtain ⟨sp,ho⟩:=h.vals _ (List.getElem_mem hi)
   exact ho.reads
  ·rw [List.getElem?_eq_none (by omega)]
   exact z
 ·exact z
theorem Ydy {w0 w:World} {S:List Nat} {q room:Nat} {cs:List (Nat×Ce)} {fr:List Nat} (h:Hr w0 S w q room cs fr) (x:Int):∃v,∀w',Below w.heap.size w w'→Reads w' v (cat cs x).bs∧Calls Tryz.prog 99 #[.pointer (some ⟨q,0,none⟩),.int .i64 x] w' fun e w''=>e=.returned v∧Below w'.heap.size w' w'':=by
 obtain ⟨⟨ss,⟨vp,vf,s,m,n⟩,R⟩,W,I⟩:=h
 refine ⟨(sat ss x).val,fun w' hb=>⟨?_,Yhe (s.grow hb) x⟩⟩
 have:=Yno (s.grow hb) x
 rwa [(Zce R W x).bs] at this
def thP (c:Ce) (K bs:List Int):Bool:=decide (c.kind=1) && (decide (c.key=K) && decide (c.bs=bs))
set_option maxHeartbeats 4000000 in
theorem Zpe {w0 w:World} {S:List Nat} {q room:Nat} {cs:List (Nat×Ce)} {fr:List Nat} (V:Hr w0 S w q room cs fr) (h5:room≤5000) (x:Int) (K:List Int) (hK:Key K) (u:Value) (bs:List Int) (hu:Reads w u bs):Calls Tryz.prog 191 #[.pointer (some ⟨q,0,none⟩),.int .i64 x,.agg (B K),u] w fun e w'=>e=.returned (.bool (thP (cat cs x) K bs))∧Below w.heap.size w w':=by
 have HKD:Hid (∀w',Below w.heap.size w w'→Calls Tryz.prog 48 #[.pointer (some ⟨q,0,none⟩),.int .i64 x] w' fun e w''=>e=.returned (.int .u8 (cat cs x).kind)∧Below w'.heap.size w' w''):=fun w' hb=>Zmg (V.grow hb) x
 have HKY:Hid (∀w',Below w.heap.size w w'→Calls Tryz.prog 95 #[.pointer (some ⟨q,0,none⟩),.int .i64 x] w' fun e w''=>e=.returned (.agg (B (cat cs x).key))∧Below w'.heap.size w' w''):=fun w' hb=>Zyy (V.grow hb) h5 x
 obtain ⟨vv,hvv⟩:=Ydy V x
 have hbv:Bytes (cat cs x).bs:=by obtain ⟨_,_,_,_,_,h,_⟩:=(hvv w (Below.refl _ _)).1;exact h
 have HVL:Hid (∀w',Below w.heap.size w w'→Calls Tryz.prog 99 #[.pointer (some ⟨q,0,none⟩),.int .i64 x] w' fun e w''=>e=.returned vv∧Below w'.heap.size w' w''):=fun w' hb=>(hvv w' hb).2
 have HCV:Hid (∀w',Below w.heap.size w w'→(convert 72 9 vv).run Tryz.prog w'=.ok (.string (strOfNums (cat cs x).bs)) w'):=fun w' hb=>Zck (hvv w' hb).1
 have HCU:Hid (∀w',Below w.heap.size w w'→(convert 72 9 u).run Tryz.prog w'=.ok (.string (strOfNums bs)) w'):=fun w' hb=>Zck (hu.grow hb)
 have HPL:Hid ((Tryz.prog.info? 34).map (·.size)=some (B K).toList.length):=by show _=_;rw [Array.length_toList,Zm,hK.1];exact Zj
 have hkl:(cat cs x).key.length=32:=(V.wf.catOk x).hk.1
 have hEK:=fun w=>Zdj (cat cs x).key K hkl hK.1 w
 have hu':=hu
 obtain ⟨ua,uc,rfl,_,_,hbu,_⟩:=hu
 obtain ⟨u,hue⟩:∃u,u=Value.slice ua bs.length uc:=⟨_,rfl⟩
 rw [← hue] at HCU ⊢
 clear hue
 unfold thP
 generalize (cat cs x).kind=kd at HKD ⊢
 generalize (cat cs x).key=ky at HKY hEK hkl ⊢
 generalize (cat cs x).bs=vs at HCV hbv ⊢
 have HBE:Hid (((strOfNums vs).toList == (strOfNums bs).toList)=decide (vs=bs)):=Zwc vs bs hbv hbu
 clear V hu' hkl hvv hbv hbu
 by_cases k1:kd=1
 ·subst k1
  by_cases k2:ky=K
  ·have k3:=k2.symm
   clear k2
   subst k3
   simp only [decide_true,Bool.true_and] at hEK ⊢
   clear hK
   go_enter Tryz.func191,Tryz.ntmps191
   go_wp2_with (first
    |((with_reducible refine Zo 6 ?_);refine Zc _ rfl _ _ rfl _ rfl ?_;intro w1 b5 hg5 hl5 B5 q5;have HB5:=Za B5;have HQ1:=Za q5;clear hg5 hl5 B5 q5))
   refine wp_region_held_drew (S:=fun w'=>Below w1.heap.size w1 w') (by kernel_rfl) ((below_drewN (Below.refl _ _) 1)) (fun hHeld=>?_)
   refine tkp 0 (.pointer (some ⟨q,0,none⟩)) hHeld ?_
   simp only [zq]
   refine tkp 1 (.int .i64 x) hHeld ?_
   simp only [zq]
   refine wpAnyH_ready (rs:=[2]) (by kernel_rfl) (by simp) ?_
   refine AllReadyH.cons rfl (fun KQ hK=>?_) AllReadyH.nil
   go_simp
   refine (HKD.out _ (Zb HQ1.out hHeld)).mono ?_
   rintro e z1 ⟨rfl,a1⟩
   refine hK.out _ _ (Zb hHeld a1) (fun hHeld=>?_)
   clear hK KQ
   refine tkp 3 (.bool true) hHeld ?_
   simp only [zq]
   refine tkp 4 (.bool true) hHeld ?_
   simp only [zq]
   refine tkp 5 (.pointer (some ⟨q,0,none⟩)) hHeld ?_
   simp only [zq]
   refine tkp 6 (.int .i64 x) hHeld ?_
   simp only [zq]
   refine tkg 8 (.agg (B K)) rfl (yieldsIf_load_mid rfl 34 (.tmp 6) rfl b5 0 rfl (B K).toList _ (fun w hS=>(HB5.out.grow hS).range) Tryz.underlying34 rfl HPL.out) hHeld ?_
   simp only [zq]
   refine wpAnyH_ready (rs:=[7]) (by kernel_rfl) (by simp) ?_
   refine AllReadyH.cons rfl (fun KQ hK=>?_) AllReadyH.nil
   go_simp
   refine (HKY.out _ (Zb HQ1.out hHeld)).mono ?_
   rintro e z2 ⟨rfl,a2⟩
   refine hK.out _ _ (Zb hHeld a2) (fun hHeld=>?_)
   clear hK KQ
   refine tkp 9 (.bool true) hHeld ?_
   simp only [zq]
   refine tkp 10 (.bool true) hHeld ?_
   simp only [zq]
   refine tkp 11 (.bool true) hHeld ?_
   simp only [zq]
   refine tkp 12 (.pointer (some ⟨q,0,none⟩)) hHeld ?_
   simp only [zq]
   refine tkp 13 (.int .i64 x) hHeld ?_
   simp only [zq]
   refine tkp 16 u hHeld ?_
   simp only [zq]
   refine tkg 17 (.string (strOfNums bs)) rfl (Or.inl ⟨by rfl,fun w hS=>by (have cu:=HCU.out _ (Zb HQ1.out hS);go_simp)⟩) hHeld ?_
   simp only [zq]
   refine wpAnyH_ready (rs:=[14]) (by kernel_rfl) (by simp) ?_
   refine AllReadyH.cons rfl (fun KQ hK=>?_) AllReadyH.nil
   go_simp
   refine (HVL.out _ (Zb HQ1.out hHeld)).mono ?_
   rintro e z3 ⟨rfl,a3⟩
   refine hK.out _ _ (Zb hHeld a3) (fun hHeld=>?_)
   clear hK KQ
   refine tkg 15 (.string (strOfNums vs)) rfl (Or.inl ⟨by rfl,fun w hS=>by (have cv:=HCV.out _ (Zb HQ1.out hS);go_simp)⟩) hHeld ?_
   simp only [zq]
   refine tkp 18 (.bool ((strOfNums vs).toList == (strOfNums bs).toList)) hHeld ?_
   simp only [zq]
   refine tkp 19 (.bool ((strOfNums vs).toList == (strOfNums bs).toList)) hHeld ?_
   simp only [zq]
   refine tkp 20 (.bool ((strOfNums vs).toList == (strOfNums bs).toList)) hHeld ?_
   simp only [zq]
   refine wpAnyH_done (by kernel_rfl) ?_ _
   go_wp2
   go_ret
   exact ⟨by rw [← HBE.out];rfl,Zb HQ1.out hHeld⟩
  ·have k2':decide (ky=K)=false:=by simp [k2]
   rw [k2'] at hEK ⊢
   simp only [decide_true,Bool.true_and,Bool.false_and]
   clear k2' hK
   go_enter Tryz.func191,Tryz.ntmps191
   go_wp2_with (first
    |((with_reducible refine Zo 6 ?_);refine Zc _ rfl _ _ rfl _ rfl ?_;intro w1 b5 hg5 hl5 B5 q5;have HB5:=Za B5;have HQ1:=Za q5;clear hg5 hl5 B5 q5))
   refine wp_region_held_drew (S:=fun w'=>Below w1.heap.size w1 w') (by kernel_rfl) ((below_drewN (Below.refl _ _) 1)) (fun hHeld=>?_)
   refine tkp 0 (.pointer (some ⟨q,0,none⟩)) hHeld ?_
   simp only [zq]
   refine tkp 1 (.int .i64 x) hHeld ?_
   simp only [zq]
   refine wpAnyH_ready (rs:=[2]) (by kernel_rfl) (by simp) ?_
   refine AllReadyH.cons rfl (fun KQ hK=>?_) AllReadyH.nil
   go_simp
   refine (HKD.out _ (Zb HQ1.out hHeld)).mono ?_
   rintro e z1 ⟨rfl,a1⟩
   refine hK.out _ _ (Zb hHeld a1) (fun hHeld=>?_)
   clear hK KQ
   refine tkp 3 (.bool true) hHeld ?_
   simp only [zq]
   refine tkp 4 (.bool true) hHeld ?_
   simp only [zq]
   refine tkp 5 (.pointer (some ⟨q,0,none⟩)) hHeld ?_
   simp only [zq]
   refine tkp 6 (.int .i64 x) hHeld ?_
   simp only [zq]
   refine tkg 8 (.agg (B K)) rfl (yieldsIf_load_mid rfl 34 (.tmp 6) rfl b5 0 rfl (B K).toList _ (fun w hS=>(HB5.out.grow hS).range) Tryz.underlying34 rfl HPL.out) hHeld ?_
   simp only [zq]
   refine wpAnyH_ready (rs:=[7]) (by kernel_rfl) (by simp) ?_
   refine AllReadyH.cons rfl (fun KQ hK=>?_) AllReadyH.nil
   go_simp
   refine (HKY.out _ (Zb HQ1.out hHeld)).mono ?_
   rintro e z2 ⟨rfl,a2⟩
   refine hK.out _ _ (Zb hHeld a2) (fun hHeld=>?_)
   clear hK KQ
   refine tkp 9 (.bool false) hHeld ?_
   simp only [zq]
   refine tkp 10 (.bool false) hHeld ?_
   simp only [zq]
   refine tkp 11 (.bool false) hHeld ?_
   simp only [zq]
   refine tks 12 hHeld ?_
   simp only [zq]
   refine tks 13 hHeld ?_
   simp only [zq]
   refine tks 14 hHeld ?_
   simp only [zq]
   refine tks 15 hHeld ?_
   simp only [zq]
   refine tks 16 hHeld ?_
   simp only [zq]
   refine tks 17 hHeld ?_
   simp only [zq]
   refine tks 18 hHeld ?_
   simp only [zq]
   refine tkp 19 (.bool false) hHeld ?_
   simp only [zq]
   refine tkp 20 (.bool false) hHeld ?_
   simp only [zq]
   refine wpAnyH_done (by kernel_rfl) ?_ _
   go_wp2
   go_ret
   exact ⟨rfl,Zb HQ1.out hHeld⟩
 ·have k1':decide (kd=1)=false:=by simp [k1]
  rw [k1']
  simp only [Bool.false_and]
  clear k1' hEK hK
  go_enter Tryz.func191,Tryz.ntmps191
  go_wp2_with (first
   |((with_reducible refine Zo 6 ?_);refine Zc _ rfl _ _ rfl _ rfl ?_;intro w1 b5 hg5 hl5 B5 q5;have HB5:=Za B5;have HQ1:=Za q5;clear hg5 hl5 B5 q5))
  refine wp_region_held_drew (S:=fun w'=>Below w1.heap.size w1 w') (by kernel_rfl) ((below_drewN (Below.refl _ _) 1)) (fun hHeld=>?_)
  refine tkp 0 (.pointer (some ⟨q,0,none⟩)) hHeld ?_
  simp only [zq]
  refine tkp 1 (.int .i64 x) hHeld ?_
  simp only [zq]
  refine wpAnyH_ready (rs:=[2]) (by kernel_rfl) (by simp) ?_
  refine AllReadyH.cons rfl (fun KQ hK=>?_) AllReadyH.nil
  go_simp
  refine (HKD.out _ (Zb HQ1.out hHeld)).mono ?_
  rintro e z1 ⟨rfl,a1⟩
  refine hK.out _ _ (Zb hHeld a1) (fun hHeld=>?_)
  clear hK KQ
  refine tkp 3 (.bool false) hHeld ?_
  simp only [zq]
  refine tkp 4 (.bool false) hHeld ?_
  simp only [zq]
  refine tks 5 hHeld ?_
  simp only [zq]
  refine tks 6 hHeld ?_
  simp only [zq]
  refine tks 7 hHeld ?_
  simp only [zq]
  refine tks 8 hHeld ?_
  simp only [zq]
  refine tks 9 hHeld ?_
  simp only [zq]
  refine tkp 10 (.bool false) hHeld ?_
  simp only [zq]
  refine tkp 11 (.bool false) hHeld ?_
  simp only [zq]
  refine tks 12 hHeld ?_
  simp only [zq]
  refine tks 13 hHeld ?_
  simp only [zq]
  refine tks 14 hHeld ?_
  simp only [zq]
  refine tks 15 hHeld ?_
  simp only [zq]
  refine tks 16 hHeld ?_
  simp only [zq]
  refine tks 17 hHeld ?_
  simp only [zq]
  refine tks 18 hHeld ?_
  simp only [zq]
  refine tkp 19 (.bool false) hHeld ?_
  simp only [zq]
  refine tkp 20 (.bool false) hHeld ?_
  simp only [zq]
  refine wpAnyH_done (by kernel_rfl) ?_ _
  go_wp2
  go_ret
  exact ⟨rfl,Zb HQ1.out hHeld⟩
set_option maxHeartbeats 8000000 in
theorem Yhk {w:World} {S:List Nat} {q:Nat} {rt:Int} {K:List Int} {u:Value} {P:Ending→World→Prop} {RW RM:World→Nat→Nat→World→Prop} {hsl:List Nat} {wn sn:Nat} {sg:Nat→Nat} {fi:Int}
  (HS:Hid (∀b,w.heap.size≤b→b ∉ S)) (HPS:Hid ((Tryz.prog.info? 34).map (·.size)=some (B K).size)) (HWN:Hid (wn=hsl.length)) (HLE:Hid (wn≤sn∧sn≤256))
  (HWR:Hid (∀w',Below w.heap.size w w'→Calls Tryz.prog 190 #[.pointer (some ⟨q,0,none⟩),.int .i64 rt,u] w' fun e w''=>e=.returned (.int .i64 0)∧Below w'.heap.size w' w''))
  (HFT:Hid (∀w',Below w.heap.size w w'→Calls Tryz.prog 56 #[.pointer (some ⟨q,0,none⟩),.int .i64 1] w' fun e w''=>e=.returned (.bool true)∧Below w'.heap.size w' w''))
  (HWY:Hid (∀w',Below w.heap.size w w'→Calls Tryz.prog 46 #[.pointer (some ⟨q,0,none⟩),.int .i64 rt,.agg (B K)] w' fun e w''=>∃a c,e=.returned (.tuple #[.slice a wn c,.int .i64 fi])∧w''.ownsRow w'.heap.size 3 1 (.slice a wn c) wn (nats hsl)∧Below w'.heap.size w' w''))
  (HTH:Hid (∀w',Below w.heap.size w w'→Calls Tryz.prog 191 #[.pointer (some ⟨q,0,none⟩),.int .i64 fi,.agg (B K),u] w' fun e w''=>e=.returned (.bool false)∧Below w'.heap.size w' w''))
  (HLF:Hid (∀w5,Below w.heap.size w w5→Calls Tryz.prog 127 #[.pointer (some ⟨q,0,none⟩),.agg (B K),u] w5 fun e w''=>∃t:Nat,e=.returned (.tuple #[.int .i64 (t:Int),.int .i64 0])∧RW w5 sn t w''))
  (HGR:Hid (∀w5 m t w' w'',RW w5 m t w'→Below w'.heap.size w' w''→RW w5 m t w'')) (HKP:Hid (∀w5 m t w' (Q:World→Prop),Kq S w5 Q→RW w5 m t w'→Q w')) (HKM:Hid (∀w5 m t w' (Q:World→Prop),Kq S w5 Q→RM w5 m t w'→Q w'))
  (HNO:Hid (∀w5 m t w',sg m=0→RW w5 (m+1) t w'→RM w5 m t w'))
  (HHO:Hid (∀w5 m t w',m<sn→sg m≠0→RW w5 (m+1) t w'→Calls Tryz.prog 114 #[.pointer (some ⟨q,0,none⟩),.int .i64 (sg m:Int)] w' fun e w''=>e=.returned (.int .i64 0)∧RM w5 m t w''))
  (HMA:Hid (∀w5 m (t:Nat) w',m<sn→RM w5 m t w'→Calls Tryz.prog 115 #[.pointer (some ⟨q,0,none⟩),.agg (B K),.int .i64 (m:Int),.int .i64 (t:Int),.int .i64 (sg m:Int)] w' fun e w''=>∃t':Nat,e=.returned (.int .i64 (t':Int))∧RW w5 m t' w''))
  (HOT:Hid (∀w5 m t w',m<wn→RW w5 (m+1) t w'→Calls Tryz.prog 49 #[.pointer (some ⟨q,0,none⟩),.agg (B K),.int .i64 (m:Int),.int .i64 (hsl.getD m 0:Int)] w' fun e w''=>e=.returned (.int .i64 (sg m:Int))∧RW w5 (m+1) t w''))
  (HDR:Hid (0<rt→∀w5 (t:Nat) w',Below w.heap.size w w5→RW w5 0 t w'→Calls Tryz.prog 58 #[.pointer (some ⟨q,0,none⟩),.int .i64 rt] w' fun e w''=>∃x y:Int,e=.returned (.tuple #[.int .i64 x,.int .i64 y])∧P (.returned (.tuple #[.int .i64 (t:Int),.int .i64 0])) w''))
  (HND:Hid (rt≤0→∀w5 (t:Nat) w',Below w.heap.size w w5→RW w5 0 t w'→P (.returned (.tuple #[.int .i64 (t:Int),.int .i64 0])) w'))
  (HKD:Hid (∀w5 t w',RW w5 sn t w'→Calls Tryz.prog 48 #[.pointer (some ⟨q,0,none⟩),.int .i64 fi] w' fun e w''=>e=.returned (.int .u8 0)∧RW w5 sn t w'')) (HSW:wn=sn):Calls Tryz.prog 151 #[.pointer (some ⟨q,0,none⟩),.int .i64 rt,.agg (B K),u] w P:=by
 have HPL:Hid ((Tryz.prog.info? 34).map (·.size)=some (B K).toList.length):=by show _=_;rw [Array.length_toList];exact HPS.out
 have hw256:wn≤256:=by have:=HLE.out;omega
 have hww:wrap64 ((wn:Int)-1)=(wn:Int)-1:=Go.IntWalk.wrap64_in _ (by omega)
 have u0:=(⟨HNO,HHO,HMA,HOT,HKM⟩:_∧_∧_∧_∧_)
 clear u0
 subst HSW
 go_enter Tryz.func151,Tryz.ntmps151
 go_wp2_with (first
  |((with_reducible refine Zo 6 ?_);refine Zc _ rfl _ _ rfl _ rfl ?_;intro w1 b6 hg6 hl6 B6 q6;have HB1:=Za B6;have HQ1:=Za q6;have HG6:=Za hg6;clear hg6 hl6 B6 q6)
  |(go_at_call 190;refine (HWR.out _ HQ1.out).mono ?_;rintro e w2 ⟨rfl,b2⟩;have HQ2:=Za (Zb HQ1.out b2);have HB2:=Za (HB1.out.grow b2);clear b2)
  |(go_at_call 56;refine (HFT.out _ HQ2.out).mono ?_;rintro e w3 ⟨rfl,b3⟩;have HQ3:=Za (Zb HQ2.out b3);have HB3:=Za (HB2.out.grow b3);clear b3)
  |((with_reducible refine Zk 32 6 ?_);refine Zh _ rfl _ _ rfl b6 _ rfl HB3.out _ _ Tryz.underlying34 HPS.out ?_)
  |(go_at_call 46;refine (HWY.out _ HQ3.out).mono ?_;rintro e w4 ⟨wa,wc,rfl,o4,b4⟩;have HO4:=Za (Zao o4 HQ3.out.size);have HQ4:=Za (Zb HQ3.out b4);have HB4:=Za (HB3.out.grow b4);clear b4 o4)
  |((with_reducible refine Zk 38 6 ?_);refine Zh _ rfl _ _ rfl b6 _ rfl HB4.out _ _ Tryz.underlying34 HPS.out ?_)
  |(go_at_call 191;refine (HTH.out _ HQ4.out).mono ?_;rintro e w5 ⟨rfl,b5⟩;have HQ5:=Za (Zb HQ4.out b5);have HB5:=Za (HB4.out.grow b5);have HB6:=Za (Kq.blk HB5.out (HS.out b6 HG6.out));have HI6:Hid (Kq S w5 (fun w'=>Ints9 w' wa hsl)):=Zgc (Zl HO4.out b5) HWN.out (fun g hg=>HS.out g (HO4.out.lt g hg).1);clear b5)
  |((with_reducible refine Zk 44 6 ?_);refine Zh _ rfl _ _ rfl b6 _ rfl HB5.out _ _ Tryz.underlying34 HPS.out ?_)
  |(go_at_call 127;refine (HLF.out _ HQ5.out).mono ?_;rintro e w6 ⟨t0,rfl,r6⟩;have HR6:=Za r6;clear r6))
 clear HWR HFT HWY HTH HLF HB1 HB2 HB3 HB4 HB5 HQ1 HQ2 HQ3 HQ4 HO4
 have hRd:=HGR.out _ _ _ _ _ HR6.out (below_drewN (Below.refl w6.heap.size w6) 1)
 refine wp_region_held_drew (S:=fun w'=>Blk w' b6 34 (B K)) (by kernel_rfl) (HKP.out _ _ _ _ _ HB6.out hRd) (fun hHeld=>?_)
 refine tkp 0 (.pointer (some ⟨q,0,none⟩)) hHeld ?_
 simp only [zq]
 refine tkp 1 (.int .i64 fi) hHeld ?_
 simp only [zq]
 refine wpAnyH_ready (rs:=[2]) (by kernel_rfl) (by simp) ?_
 refine AllReadyH.cons rfl (fun KQ hK=>?_) AllReadyH.nil
 go_simp
 refine (HKD.out _ _ _ hRd).mono ?_
 rintro e z1 ⟨rfl,r1⟩
 refine hK.out _ _ (HKP.out _ _ _ _ _ HB6.out r1) (fun hHeld=>?_)
 clear hK KQ
 refine tkp 3 (.bool false) hHeld ?_
 simp only [zq]
 refine tkp 4 (.bool false) hHeld ?_
 simp only [zq]
 refine tks 5 hHeld ?_
 simp only [zq]
 refine tks 6 hHeld ?_
 simp only [zq]
 refine tks 7 hHeld ?_
 simp only [zq]
 refine tks 8 hHeld ?_
 simp only [zq]
 refine tks 9 hHeld ?_
 simp only [zq]
 refine tkp 10 (.bool false) hHeld ?_
 simp only [zq]
 refine wpAnyH_done (by kernel_rfl) ?_ _
 replace HR6:=Za r1
 clear hRd hHeld r1
 go_wp2_with fail
 go_loopw [13,17] (fun nv dv wr=>∃(j t:Nat),j≤wn∧nv=.int .i64 (t:Int)∧dv=.int .i64 ((j:Int)-1)∧Hid (RW w5 j t wr)) (fun _ dv _=>(intOf dv+1).toNat)
 case atStart=>exact ⟨wn,t0,Nat.le_refl _,rfl,rfl,HR6⟩
 case round=>
  clear HR6
  obtain ⟨j,t,hj,rfl,rfl,hR⟩:=hrel
  by_cases hj0:0<j
  ·obtain ⟨m,rfl⟩:∃m,j=m+1:=⟨j-1,by omega⟩
   rw [show (((m+1:Nat):Int)-1)=(m:Int) by omega]
   have i1:(0:Int)≤(m:Int):=by omega
   have i2:(m:Int)<(wn:Int):=by omega
   have hwm:wrap64 ((m:Int)-1)=(m:Int)-1:=Go.IntWalk.wrap64_in _ (by omega)
   have hmw:m<wn:=by omega
   have hmn:m<wn:=by have:=HLE.out.1;omega
   obtain ⟨lb,rfl,-⟩:=HI6.out.now m (by rw [← HWN.out];exact hmw)
   have HO2:Hid (∀w5 t w',RW w5 (m+1) t w'→Calls Tryz.prog 49 #[.pointer (some ⟨q,0,none⟩),.agg (B K),.int .i64 (m:Int),.int .i64 (hsl.getD m 0:Int)] w' fun e w''=>e=.returned (.int .i64 (sg m:Int))∧RW w5 (m+1) t w''):=fun w5 t w' hr=>HOT.out w5 m t w' hmw hr
   have hcl:∀ {w'},Ints9 w' (some ⟨lb,0,none⟩) hsl→w'.cell? ⟨lb,m,none⟩=some (.int .i64 (hsl.getD m 0:Int)):=fun {w'} hi=>by
    obtain ⟨g',e1,e2⟩:=hi m (by rw [← HWN.out];exact hmw)
    injection e1 with e1
    injection e1 with e1
    rw [e1]
    exact e2
   generalize (hsl.getD m 0:Int)=xx at HO2 hcl
   have hRd:=HGR.out _ _ _ _ _ hR.out (below_drewN (Below.refl wr.heap.size wr) 1)
   go_wp2_with fail
   refine wp_region_held_drew (S:=fun w'=>Blk w' b6 34 (B K)∧w'.cell? ⟨lb,m,none⟩=some (.int .i64 xx)) (by kernel_rfl) (⟨HKP.out _ _ _ _ _ HB6.out hRd,hcl (HKP.out _ _ _ _ _ HI6.out hRd)⟩) (fun hHeld=>?_)
   refine tkp 0 (.pointer (some ⟨q,0,none⟩)) hHeld ?_
   simp only [zq]
   refine tkg 1 (.agg (B K)) rfl (yieldsIf_load_mid rfl 34 (.tmp 6) rfl b6 0 rfl (B K).toList _ (fun w hS=>hS.1.range) Tryz.underlying34 rfl HPL.out) hHeld ?_
   simp only [zq]
   refine tkp 2 (.int .i64 (m:Int)) hHeld ?_
   simp only [zq]
   refine tkp 3 (.slice (some ⟨lb,0,none⟩) wn wc) hHeld ?_
   simp only [zq]
   refine tkp 4 (.int .i64 (m:Int)) hHeld ?_
   simp only [zq]
   refine tkp 5 (.pointer (some ⟨lb,m,none⟩)) hHeld ?_
   simp only [zq]
   refine tkg 6 (.int .i64 xx) rfl (Or.inl ⟨by rfl,fun w hS=>by (have q1:=hS.2;go_simp)⟩) hHeld ?_
   simp only [zq]
   refine wpAnyH_ready (rs:=[7]) (by kernel_rfl) (by simp) ?_
   refine AllReadyH.cons rfl (fun KQ hK=>?_) AllReadyH.nil
   go_simp
   refine (HO2.out _ _ _ hRd).mono ?_
   rintro e z1 ⟨rfl,r1⟩
   refine hK.out _ _ (⟨HKP.out _ _ _ _ _ HB6.out r1,hcl (HKP.out _ _ _ _ _ HI6.out r1)⟩) (fun hHeld=>?_)
   clear hK KQ
   refine tkp 8 (.int .i64 (sg m:Int)) hHeld ?_
   simp only [zq]
   refine wpAnyH_done (by kernel_rfl) ?_ _
   have HR1:=Za r1
   clear r1 hRd hHeld hcl hR
   by_cases o0:sg m=0
   ·have o1: ¬(0:Int)<(sg m:Int):=by omega
    have HM1:=Za (HNO.out _ _ _ _ o0 HR1.out)
    clear o0
    go_wp2_with (first
     |((with_reducible refine Zk 108 6 ?_);refine Zh _ rfl _ _ rfl b6 _ rfl (HKM.out _ _ _ _ _ HB6.out HM1.out) _ _ Tryz.underlying34 HPS.out ?_)
     |(go_at_call 115;refine (HMA.out _ _ _ _ hmn HM1.out).mono ?_;rintro e z3 ⟨t3,rfl,r3⟩;have HR3:=Za r3;clear r3))
    exact ⟨⟨m,t3,by omega,rfl,rfl,HR3⟩,by first | (simp [intOf];done) | (simp [intOf];omega)⟩
   ·have o1:(0:Int)<(sg m:Int):=by omega
    have HHM:=Za (HHO.out _ _ _ _ hmn o0 HR1.out)
    clear o0
    go_wp2_with (first
     |(go_at_call 114;refine HHM.out.mono ?_;rintro e z2 ⟨rfl,m1⟩;have HM1:=Za m1;clear m1)
     |((with_reducible refine Zk 108 6 ?_);refine Zh _ rfl _ _ rfl b6 _ rfl (HKM.out _ _ _ _ _ HB6.out HM1.out) _ _ Tryz.underlying34 HPS.out ?_)
     |(go_at_call 115;refine (HMA.out _ _ _ _ hmn HM1.out).mono ?_;rintro e z3 ⟨t3,rfl,r3⟩;have HR3:=Za r3;clear r3))
    exact ⟨⟨m,t3,by omega,rfl,rfl,HR3⟩,by first | (simp [intOf];done) | (simp [intOf];omega)⟩
  ·obtain rfl:j=0:=by omega
   have i1: ¬(0:Int)≤((0:Nat):Int)-1:=by omega
   by_cases hrt:0<rt
   ·have HD2:=Za (HDR.out hrt _ _ _ HQ5.out hR.out)
    go_wp2_with (first
     |(go_at_call 58;refine HD2.out.mono ?_;rintro e z4 ⟨x4,y4,rfl,p4⟩;have HP4:=Za p4;clear p4))
    exact HP4.out
   ·have HP4:=Za (HND.out (by omega) _ _ _ HQ5.out hR.out)
    go_wp2_with fail
    exact HP4.out
set_option maxHeartbeats 8000000 in
theorem Yhj {w:World} {S:List Nat} {q:Nat} {rt:Int} {K:List Int} {u:Value} {P:Ending→World→Prop} {RW RM:World→Nat→Nat→World→Prop} {hsl:List Nat} {wn sn:Nat} {sg:Nat→Nat} {fi:Int}
  (HS:Hid (∀b,w.heap.size≤b→b ∉ S)) (HPS:Hid ((Tryz.prog.info? 34).map (·.size)=some (B K).size)) (HWN:Hid (wn=hsl.length)) (HLE:Hid (wn≤sn∧sn≤256))
  (HWR:Hid (∀w',Below w.heap.size w w'→Calls Tryz.prog 190 #[.pointer (some ⟨q,0,none⟩),.int .i64 rt,u] w' fun e w''=>e=.returned (.int .i64 0)∧Below w'.heap.size w' w''))
  (HFT:Hid (∀w',Below w.heap.size w w'→Calls Tryz.prog 56 #[.pointer (some ⟨q,0,none⟩),.int .i64 1] w' fun e w''=>e=.returned (.bool true)∧Below w'.heap.size w' w''))
  (HWY:Hid (∀w',Below w.heap.size w w'→Calls Tryz.prog 46 #[.pointer (some ⟨q,0,none⟩),.int .i64 rt,.agg (B K)] w' fun e w''=>∃a c,e=.returned (.tuple #[.slice a wn c,.int .i64 fi])∧w''.ownsRow w'.heap.size 3 1 (.slice a wn c) wn (nats hsl)∧Below w'.heap.size w' w''))
  (HTH:Hid (∀w',Below w.heap.size w w'→Calls Tryz.prog 191 #[.pointer (some ⟨q,0,none⟩),.int .i64 fi,.agg (B K),u] w' fun e w''=>e=.returned (.bool false)∧Below w'.heap.size w' w''))
  (HLF:Hid (∀w5,Below w.heap.size w w5→Calls Tryz.prog 127 #[.pointer (some ⟨q,0,none⟩),.agg (B K),u] w5 fun e w''=>∃t:Nat,e=.returned (.tuple #[.int .i64 (t:Int),.int .i64 0])∧RW w5 sn t w''))
  (HGR:Hid (∀w5 m t w' w'',RW w5 m t w'→Below w'.heap.size w' w''→RW w5 m t w'')) (HKP:Hid (∀w5 m t w' (Q:World→Prop),Kq S w5 Q→RW w5 m t w'→Q w')) (HKM:Hid (∀w5 m t w' (Q:World→Prop),Kq S w5 Q→RM w5 m t w'→Q w'))
  (HNO:Hid (∀w5 m t w',sg m=0→RW w5 (m+1) t w'→RM w5 m t w'))
  (HHO:Hid (∀w5 m t w',m<sn→sg m≠0→RW w5 (m+1) t w'→Calls Tryz.prog 114 #[.pointer (some ⟨q,0,none⟩),.int .i64 (sg m:Int)] w' fun e w''=>e=.returned (.int .i64 0)∧RM w5 m t w''))
  (HMA:Hid (∀w5 m (t:Nat) w',m<sn→RM w5 m t w'→Calls Tryz.prog 115 #[.pointer (some ⟨q,0,none⟩),.agg (B K),.int .i64 (m:Int),.int .i64 (t:Int),.int .i64 (sg m:Int)] w' fun e w''=>∃t':Nat,e=.returned (.int .i64 (t':Int))∧RW w5 m t' w''))
  (HOT:Hid (∀w5 m t w',m<wn→RW w5 (m+1) t w'→Calls Tryz.prog 49 #[.pointer (some ⟨q,0,none⟩),.agg (B K),.int .i64 (m:Int),.int .i64 (hsl.getD m 0:Int)] w' fun e w''=>e=.returned (.int .i64 (sg m:Int))∧RW w5 (m+1) t w''))
  (HDR:Hid (0<rt→∀w5 (t:Nat) w',Below w.heap.size w w5→RW w5 0 t w'→Calls Tryz.prog 58 #[.pointer (some ⟨q,0,none⟩),.int .i64 rt] w' fun e w''=>∃x y:Int,e=.returned (.tuple #[.int .i64 x,.int .i64 y])∧P (.returned (.tuple #[.int .i64 (t:Int),.int .i64 0])) w''))
  (HND:Hid (rt≤0→∀w5 (t:Nat) w',Below w.heap.size w w5→RW w5 0 t w'→P (.returned (.tuple #[.int .i64 (t:Int),.int .i64 0])) w'))
  (HKD:Hid (∀w5 t w',RW w5 sn t w'→Calls Tryz.prog 48 #[.pointer (some ⟨q,0,none⟩),.int .i64 fi] w' fun e w''=>e=.returned (.int .u8 1)∧RW w5 sn t w'')) (HKY:Hid (∀w5 t w',RW w5 sn t w'→Calls Tryz.prog 95 #[.pointer (some ⟨q,0,none⟩),.int .i64 fi] w' fun e w''=>e=.returned (.agg (B K))∧RW w5 sn t w'')) (hEK:∀w,(Op.equalIn 10000 34 (.agg (B K)) (.agg (B K))).run Tryz.prog w=.ok true w) (HSW:wn=sn):Calls Tryz.prog 151 #[.pointer (some ⟨q,0,none⟩),.int .i64 rt,.agg (B K),u] w P:=by
 have HPL:Hid ((Tryz.prog.info? 34).map (·.size)=some (B K).toList.length):=by show _=_;rw [Array.length_toList];exact HPS.out
 have hw256:wn≤256:=by have:=HLE.out;omega
 have hww:wrap64 ((wn:Int)-1)=(wn:Int)-1:=Go.IntWalk.wrap64_in _ (by omega)
 have u0:=(⟨HNO,HHO,HMA,HOT,HKM⟩:_∧_∧_∧_∧_)
 clear u0
 subst HSW
 go_enter Tryz.func151,Tryz.ntmps151
 go_wp2_with (first
  |((with_reducible refine Zo 6 ?_);refine Zc _ rfl _ _ rfl _ rfl ?_;intro w1 b6 hg6 hl6 B6 q6;have HB1:=Za B6;have HQ1:=Za q6;have HG6:=Za hg6;clear hg6 hl6 B6 q6)
  |(go_at_call 190;refine (HWR.out _ HQ1.out).mono ?_;rintro e w2 ⟨rfl,b2⟩;have HQ2:=Za (Zb HQ1.out b2);have HB2:=Za (HB1.out.grow b2);clear b2)
  |(go_at_call 56;refine (HFT.out _ HQ2.out).mono ?_;rintro e w3 ⟨rfl,b3⟩;have HQ3:=Za (Zb HQ2.out b3);have HB3:=Za (HB2.out.grow b3);clear b3)
  |((with_reducible refine Zk 32 6 ?_);refine Zh _ rfl _ _ rfl b6 _ rfl HB3.out _ _ Tryz.underlying34 HPS.out ?_)
  |(go_at_call 46;refine (HWY.out _ HQ3.out).mono ?_;rintro e w4 ⟨wa,wc,rfl,o4,b4⟩;have HO4:=Za (Zao o4 HQ3.out.size);have HQ4:=Za (Zb HQ3.out b4);have HB4:=Za (HB3.out.grow b4);clear b4 o4)
  |((with_reducible refine Zk 38 6 ?_);refine Zh _ rfl _ _ rfl b6 _ rfl HB4.out _ _ Tryz.underlying34 HPS.out ?_)
  |(go_at_call 191;refine (HTH.out _ HQ4.out).mono ?_;rintro e w5 ⟨rfl,b5⟩;have HQ5:=Za (Zb HQ4.out b5);have HB5:=Za (HB4.out.grow b5);have HB6:=Za (Kq.blk HB5.out (HS.out b6 HG6.out));have HI6:Hid (Kq S w5 (fun w'=>Ints9 w' wa hsl)):=Zgc (Zl HO4.out b5) HWN.out (fun g hg=>HS.out g (HO4.out.lt g hg).1);clear b5)
  |((with_reducible refine Zk 44 6 ?_);refine Zh _ rfl _ _ rfl b6 _ rfl HB5.out _ _ Tryz.underlying34 HPS.out ?_)
  |(go_at_call 127;refine (HLF.out _ HQ5.out).mono ?_;rintro e w6 ⟨t0,rfl,r6⟩;have HR6:=Za r6;clear r6))
 clear HWR HFT HWY HTH HLF HB1 HB2 HB3 HB4 HB5 HQ1 HQ2 HQ3 HQ4 HO4
 have hRd:=HGR.out _ _ _ _ _ HR6.out (below_drewN (Below.refl w6.heap.size w6) 1)
 refine wp_region_held_drew (S:=fun w'=>Blk w' b6 34 (B K)) (by kernel_rfl) (HKP.out _ _ _ _ _ HB6.out hRd) (fun hHeld=>?_)
 refine tkp 0 (.pointer (some ⟨q,0,none⟩)) hHeld ?_
 simp only [zq]
 refine tkp 1 (.int .i64 fi) hHeld ?_
 simp only [zq]
 refine wpAnyH_ready (rs:=[2]) (by kernel_rfl) (by simp) ?_
 refine AllReadyH.cons rfl (fun KQ hK=>?_) AllReadyH.nil
 go_simp
 refine (HKD.out _ _ _ hRd).mono ?_
 rintro e z1 ⟨rfl,r1⟩
 refine hK.out _ _ (HKP.out _ _ _ _ _ HB6.out r1) (fun hHeld=>?_)
 clear hK KQ
 refine tkp 3 (.bool true) hHeld ?_
 simp only [zq]
 refine tkp 4 (.bool true) hHeld ?_
 simp only [zq]
 refine tkp 5 (.pointer (some ⟨q,0,none⟩)) hHeld ?_
 simp only [zq]
 refine tkp 6 (.int .i64 fi) hHeld ?_
 simp only [zq]
 refine tkg 8 (.agg (B K)) rfl (yieldsIf_load_mid rfl 34 (.tmp 6) rfl b6 0 rfl (B K).toList _ (fun w hS=>hS.range) Tryz.underlying34 rfl HPL.out) hHeld ?_
 simp only [zq]
 refine wpAnyH_ready (rs:=[7]) (by kernel_rfl) (by simp) ?_
 refine AllReadyH.cons rfl (fun KQ hK=>?_) AllReadyH.nil
 go_simp
 refine (HKY.out _ _ _ r1).mono ?_
 rintro e z2 ⟨rfl,r2⟩
 refine hK.out _ _ (HKP.out _ _ _ _ _ HB6.out r2) (fun hHeld=>?_)
 clear hK KQ
 refine tkp 9 (.bool false) hHeld ?_
 simp only [zq]
 refine tkp 10 (.bool false) hHeld ?_
 simp only [zq]
 refine wpAnyH_done (by kernel_rfl) ?_ _
 replace HR6:=Za r2
 clear hRd hHeld r1 r2
 go_wp2_with fail
 go_loopw [13,17] (fun nv dv wr=>∃(j t:Nat),j≤wn∧nv=.int .i64 (t:Int)∧dv=.int .i64 ((j:Int)-1)∧Hid (RW w5 j t wr)) (fun _ dv _=>(intOf dv+1).toNat)
 case atStart=>exact ⟨wn,t0,Nat.le_refl _,rfl,rfl,HR6⟩
 case round=>
  clear HR6
  obtain ⟨j,t,hj,rfl,rfl,hR⟩:=hrel
  by_cases hj0:0<j
  ·obtain ⟨m,rfl⟩:∃m,j=m+1:=⟨j-1,by omega⟩
   rw [show (((m+1:Nat):Int)-1)=(m:Int) by omega]
   have i1:(0:Int)≤(m:Int):=by omega
   have i2:(m:Int)<(wn:Int):=by omega
   have hwm:wrap64 ((m:Int)-1)=(m:Int)-1:=Go.IntWalk.wrap64_in _ (by omega)
   have hmw:m<wn:=by omega
   have hmn:m<wn:=by have:=HLE.out.1;omega
   obtain ⟨lb,rfl,-⟩:=HI6.out.now m (by rw [← HWN.out];exact hmw)
   have HO2:Hid (∀w5 t w',RW w5 (m+1) t w'→Calls Tryz.prog 49 #[.pointer (some ⟨q,0,none⟩),.agg (B K),.int .i64 (m:Int),.int .i64 (hsl.getD m 0:Int)] w' fun e w''=>e=.returned (.int .i64 (sg m:Int))∧RW w5 (m+1) t w''):=fun w5 t w' hr=>HOT.out w5 m t w' hmw hr
   have hcl:∀ {w'},Ints9 w' (some ⟨lb,0,none⟩) hsl→w'.cell? ⟨lb,m,none⟩=some (.int .i64 (hsl.getD m 0:Int)):=fun {w'} hi=>by
    obtain ⟨g',e1,e2⟩:=hi m (by rw [← HWN.out];exact hmw)
    injection e1 with e1
    injection e1 with e1
    rw [e1]
    exact e2
   generalize (hsl.getD m 0:Int)=xx at HO2 hcl
   have hRd:=HGR.out _ _ _ _ _ hR.out (below_drewN (Below.refl wr.heap.size wr) 1)
   go_wp2_with fail
   refine wp_region_held_drew (S:=fun w'=>Blk w' b6 34 (B K)∧w'.cell? ⟨lb,m,none⟩=some (.int .i64 xx)) (by kernel_rfl) (⟨HKP.out _ _ _ _ _ HB6.out hRd,hcl (HKP.out _ _ _ _ _ HI6.out hRd)⟩) (fun hHeld=>?_)
   refine tkp 0 (.pointer (some ⟨q,0,none⟩)) hHeld ?_
   simp only [zq]
   refine tkg 1 (.agg (B K)) rfl (yieldsIf_load_mid rfl 34 (.tmp 6) rfl b6 0 rfl (B K).toList _ (fun w hS=>hS.1.range) Tryz.underlying34 rfl HPL.out) hHeld ?_
   simp only [zq]
   refine tkp 2 (.int .i64 (m:Int)) hHeld ?_
   simp only [zq]
   refine tkp 3 (.slice (some ⟨lb,0,none⟩) wn wc) hHeld ?_
   simp only [zq]
   refine tkp 4 (.int .i64 (m:Int)) hHeld ?_
   simp only [zq]
   refine tkp 5 (.pointer (some ⟨lb,m,none⟩)) hHeld ?_
   simp only [zq]
   refine tkg 6 (.int .i64 xx) rfl (Or.inl ⟨by rfl,fun w hS=>by (have q1:=hS.2;go_simp)⟩) hHeld ?_
   simp only [zq]
   refine wpAnyH_ready (rs:=[7]) (by kernel_rfl) (by simp) ?_
   refine AllReadyH.cons rfl (fun KQ hK=>?_) AllReadyH.nil
   go_simp
   refine (HO2.out _ _ _ hRd).mono ?_
   rintro e z1 ⟨rfl,r1⟩
   refine hK.out _ _ (⟨HKP.out _ _ _ _ _ HB6.out r1,hcl (HKP.out _ _ _ _ _ HI6.out r1)⟩) (fun hHeld=>?_)
   clear hK KQ
   refine tkp 8 (.int .i64 (sg m:Int)) hHeld ?_
   simp only [zq]
   refine wpAnyH_done (by kernel_rfl) ?_ _
   have HR1:=Za r1
   clear r1 hRd hHeld hcl hR
   by_cases o0:sg m=0
   ·have o1: ¬(0:Int)<(sg m:Int):=by omega
    have HM1:=Za (HNO.out _ _ _ _ o0 HR1.out)
    clear o0
    go_wp2_with (first
     |((with_reducible refine Zk 108 6 ?_);refine Zh _ rfl _ _ rfl b6 _ rfl (HKM.out _ _ _ _ _ HB6.out HM1.out) _ _ Tryz.underlying34 HPS.out ?_)
     |(go_at_call 115;refine (HMA.out _ _ _ _ hmn HM1.out).mono ?_;rintro e z3 ⟨t3,rfl,r3⟩;have HR3:=Za r3;clear r3))
    exact ⟨⟨m,t3,by omega,rfl,rfl,HR3⟩,by first | (simp [intOf];done) | (simp [intOf];omega)⟩
   ·have o1:(0:Int)<(sg m:Int):=by omega
    have HHM:=Za (HHO.out _ _ _ _ hmn o0 HR1.out)
    clear o0
    go_wp2_with (first
     |(go_at_call 114;refine HHM.out.mono ?_;rintro e z2 ⟨rfl,m1⟩;have HM1:=Za m1;clear m1)
     |((with_reducible refine Zk 108 6 ?_);refine Zh _ rfl _ _ rfl b6 _ rfl (HKM.out _ _ _ _ _ HB6.out HM1.out) _ _ Tryz.underlying34 HPS.out ?_)
     |(go_at_call 115;refine (HMA.out _ _ _ _ hmn HM1.out).mono ?_;rintro e z3 ⟨t3,rfl,r3⟩;have HR3:=Za r3;clear r3))
    exact ⟨⟨m,t3,by omega,rfl,rfl,HR3⟩,by first | (simp [intOf];done) | (simp [intOf];omega)⟩
  ·obtain rfl:j=0:=by omega
   have i1: ¬(0:Int)≤((0:Nat):Int)-1:=by omega
   by_cases hrt:0<rt
   ·have HD2:=Za (HDR.out hrt _ _ _ HQ5.out hR.out)
    go_wp2_with (first
     |(go_at_call 58;refine HD2.out.mono ?_;rintro e z4 ⟨x4,y4,rfl,p4⟩;have HP4:=Za p4;clear p4))
    exact HP4.out
   ·have HP4:=Za (HND.out (by omega) _ _ _ HQ5.out hR.out)
    go_wp2_with fail
    exact HP4.out
set_option maxHeartbeats 8000000 in
theorem Ykk {w:World} {S:List Nat} {q:Nat} {rt:Int} {K:List Int} {u:Value} {P:Ending→World→Prop} {RW RM:World→Nat→Nat→World→Prop} {hsl:List Nat} {wn sn:Nat} {sg:Nat→Nat} {fi:Int}
  (HS:Hid (∀b,w.heap.size≤b→b ∉ S)) (HPS:Hid ((Tryz.prog.info? 34).map (·.size)=some (B K).size)) (HWN:Hid (wn=hsl.length)) (HLE:Hid (wn≤sn∧sn≤256))
  (HWR:Hid (∀w',Below w.heap.size w w'→Calls Tryz.prog 190 #[.pointer (some ⟨q,0,none⟩),.int .i64 rt,u] w' fun e w''=>e=.returned (.int .i64 0)∧Below w'.heap.size w' w''))
  (HFT:Hid (∀w',Below w.heap.size w w'→Calls Tryz.prog 56 #[.pointer (some ⟨q,0,none⟩),.int .i64 1] w' fun e w''=>e=.returned (.bool true)∧Below w'.heap.size w' w''))
  (HWY:Hid (∀w',Below w.heap.size w w'→Calls Tryz.prog 46 #[.pointer (some ⟨q,0,none⟩),.int .i64 rt,.agg (B K)] w' fun e w''=>∃a c,e=.returned (.tuple #[.slice a wn c,.int .i64 fi])∧w''.ownsRow w'.heap.size 3 1 (.slice a wn c) wn (nats hsl)∧Below w'.heap.size w' w''))
  (HTH:Hid (∀w',Below w.heap.size w w'→Calls Tryz.prog 191 #[.pointer (some ⟨q,0,none⟩),.int .i64 fi,.agg (B K),u] w' fun e w''=>e=.returned (.bool false)∧Below w'.heap.size w' w''))
  (HLF:Hid (∀w5,Below w.heap.size w w5→Calls Tryz.prog 127 #[.pointer (some ⟨q,0,none⟩),.agg (B K),u] w5 fun e w''=>∃t:Nat,e=.returned (.tuple #[.int .i64 (t:Int),.int .i64 0])∧RW w5 sn t w''))
  (HGR:Hid (∀w5 m t w' w'',RW w5 m t w'→Below w'.heap.size w' w''→RW w5 m t w'')) (HKP:Hid (∀w5 m t w' (Q:World→Prop),Kq S w5 Q→RW w5 m t w'→Q w')) (HKM:Hid (∀w5 m t w' (Q:World→Prop),Kq S w5 Q→RM w5 m t w'→Q w'))
  (HNO:Hid (∀w5 m t w',sg m=0→RW w5 (m+1) t w'→RM w5 m t w'))
  (HHO:Hid (∀w5 m t w',m<sn→sg m≠0→RW w5 (m+1) t w'→Calls Tryz.prog 114 #[.pointer (some ⟨q,0,none⟩),.int .i64 (sg m:Int)] w' fun e w''=>e=.returned (.int .i64 0)∧RM w5 m t w''))
  (HMA:Hid (∀w5 m (t:Nat) w',m<sn→RM w5 m t w'→Calls Tryz.prog 115 #[.pointer (some ⟨q,0,none⟩),.agg (B K),.int .i64 (m:Int),.int .i64 (t:Int),.int .i64 (sg m:Int)] w' fun e w''=>∃t':Nat,e=.returned (.int .i64 (t':Int))∧RW w5 m t' w''))
  (HOT:Hid (∀w5 m t w',m<wn→RW w5 (m+1) t w'→Calls Tryz.prog 49 #[.pointer (some ⟨q,0,none⟩),.agg (B K),.int .i64 (m:Int),.int .i64 (hsl.getD m 0:Int)] w' fun e w''=>e=.returned (.int .i64 (sg m:Int))∧RW w5 (m+1) t w''))
  (HDR:Hid (0<rt→∀w5 (t:Nat) w',Below w.heap.size w w5→RW w5 0 t w'→Calls Tryz.prog 58 #[.pointer (some ⟨q,0,none⟩),.int .i64 rt] w' fun e w''=>∃x y:Int,e=.returned (.tuple #[.int .i64 x,.int .i64 y])∧P (.returned (.tuple #[.int .i64 (t:Int),.int .i64 0])) w''))
  (HND:Hid (rt≤0→∀w5 (t:Nat) w',Below w.heap.size w w5→RW w5 0 t w'→P (.returned (.tuple #[.int .i64 (t:Int),.int .i64 0])) w'))
  (HKD:Hid (∀w5 t w',RW w5 sn t w'→Calls Tryz.prog 48 #[.pointer (some ⟨q,0,none⟩),.int .i64 fi] w' fun e w''=>e=.returned (.int .u8 1)∧RW w5 sn t w'')) {ky:List Int} {c:Nat} (HC:Hid (wn≤c∧sn=c+1∧∀m,wn≤m→m<c→sg m=0)) (HFC:fi=(sg c:Int)) (HF0:Hid (sg c≠0)) (HKY:Hid (∀w5 t w',RW w5 sn t w'→Calls Tryz.prog 95 #[.pointer (some ⟨q,0,none⟩),.int .i64 fi] w' fun e w''=>e=.returned (.agg (B ky))∧RW w5 sn t w'')) (HCM:Hid (∀w',Calls Tryz.prog 192 #[.agg (B K),.agg (B ky)] w' fun e w''=>e=.returned (.int .i64 (c:Int))∧Below w'.heap.size w' w'')) (hEK:∀w,(Op.equalIn 10000 34 (.agg (B ky)) (.agg (B K))).run Tryz.prog w=.ok false w):Calls Tryz.prog 151 #[.pointer (some ⟨q,0,none⟩),.int .i64 rt,.agg (B K),u] w P:=by
 have HPL:Hid ((Tryz.prog.info? 34).map (·.size)=some (B K).toList.length):=by show _=_;rw [Array.length_toList];exact HPS.out
 have hw256:wn≤256:=by have:=HLE.out;omega
 have hww:wrap64 ((wn:Int)-1)=(wn:Int)-1:=Go.IntWalk.wrap64_in _ (by omega)
 have u0:=(⟨HNO,HHO,HMA,HOT,HKM⟩:_∧_∧_∧_∧_)
 clear u0
 subst HFC
 go_enter Tryz.func151,Tryz.ntmps151
 go_wp2_with (first
  |((with_reducible refine Zo 6 ?_);refine Zc _ rfl _ _ rfl _ rfl ?_;intro w1 b6 hg6 hl6 B6 q6;have HB1:=Za B6;have HQ1:=Za q6;have HG6:=Za hg6;clear hg6 hl6 B6 q6)
  |(go_at_call 190;refine (HWR.out _ HQ1.out).mono ?_;rintro e w2 ⟨rfl,b2⟩;have HQ2:=Za (Zb HQ1.out b2);have HB2:=Za (HB1.out.grow b2);clear b2)
  |(go_at_call 56;refine (HFT.out _ HQ2.out).mono ?_;rintro e w3 ⟨rfl,b3⟩;have HQ3:=Za (Zb HQ2.out b3);have HB3:=Za (HB2.out.grow b3);clear b3)
  |((with_reducible refine Zk 32 6 ?_);refine Zh _ rfl _ _ rfl b6 _ rfl HB3.out _ _ Tryz.underlying34 HPS.out ?_)
  |(go_at_call 46;refine (HWY.out _ HQ3.out).mono ?_;rintro e w4 ⟨wa,wc,rfl,o4,b4⟩;have HO4:=Za (Zao o4 HQ3.out.size);have HQ4:=Za (Zb HQ3.out b4);have HB4:=Za (HB3.out.grow b4);clear b4 o4)
  |((with_reducible refine Zk 38 6 ?_);refine Zh _ rfl _ _ rfl b6 _ rfl HB4.out _ _ Tryz.underlying34 HPS.out ?_)
  |(go_at_call 191;refine (HTH.out _ HQ4.out).mono ?_;rintro e w5 ⟨rfl,b5⟩;have HQ5:=Za (Zb HQ4.out b5);have HB5:=Za (HB4.out.grow b5);have HB6:=Za (Kq.blk HB5.out (HS.out b6 HG6.out));have HI6:Hid (Kq S w5 (fun w'=>Ints9 w' wa hsl)):=Zgc (Zl HO4.out b5) HWN.out (fun g hg=>HS.out g (HO4.out.lt g hg).1);clear b5)
  |((with_reducible refine Zk 44 6 ?_);refine Zh _ rfl _ _ rfl b6 _ rfl HB5.out _ _ Tryz.underlying34 HPS.out ?_)
  |(go_at_call 127;refine (HLF.out _ HQ5.out).mono ?_;rintro e w6 ⟨t0,rfl,r6⟩;have HR6:=Za r6;clear r6))
 clear HWR HFT HWY HTH HLF HB1 HB2 HB3 HB4 HB5 HQ1 HQ2 HQ3 HQ4 HO4
 have hRd:=HGR.out _ _ _ _ _ HR6.out (below_drewN (Below.refl w6.heap.size w6) 1)
 refine wp_region_held_drew (S:=fun w'=>Blk w' b6 34 (B K)) (by kernel_rfl) (HKP.out _ _ _ _ _ HB6.out hRd) (fun hHeld=>?_)
 refine tkp 0 (.pointer (some ⟨q,0,none⟩)) hHeld ?_
 simp only [zq]
 refine tkp 1 (.int .i64 (sg c:Int)) hHeld ?_
 simp only [zq]
 refine wpAnyH_ready (rs:=[2]) (by kernel_rfl) (by simp) ?_
 refine AllReadyH.cons rfl (fun KQ hK=>?_) AllReadyH.nil
 go_simp
 refine (HKD.out _ _ _ hRd).mono ?_
 rintro e z1 ⟨rfl,r1⟩
 refine hK.out _ _ (HKP.out _ _ _ _ _ HB6.out r1) (fun hHeld=>?_)
 clear hK KQ
 refine tkp 3 (.bool true) hHeld ?_
 simp only [zq]
 refine tkp 4 (.bool true) hHeld ?_
 simp only [zq]
 refine tkp 5 (.pointer (some ⟨q,0,none⟩)) hHeld ?_
 simp only [zq]
 refine tkp 6 (.int .i64 (sg c:Int)) hHeld ?_
 simp only [zq]
 refine tkg 8 (.agg (B K)) rfl (yieldsIf_load_mid rfl 34 (.tmp 6) rfl b6 0 rfl (B K).toList _ (fun w hS=>hS.range) Tryz.underlying34 rfl HPL.out) hHeld ?_
 simp only [zq]
 refine wpAnyH_ready (rs:=[7]) (by kernel_rfl) (by simp) ?_
 refine AllReadyH.cons rfl (fun KQ hK=>?_) AllReadyH.nil
 go_simp
 refine (HKY.out _ _ _ r1).mono ?_
 rintro e z2 ⟨rfl,r2⟩
 refine hK.out _ _ (HKP.out _ _ _ _ _ HB6.out r2) (fun hHeld=>?_)
 clear hK KQ
 refine tkp 9 (.bool true) hHeld ?_
 simp only [zq]
 refine tkp 10 (.bool true) hHeld ?_
 simp only [zq]
 refine wpAnyH_done (by kernel_rfl) ?_ _
 replace HR6:=Za r2
 clear hRd hHeld r1 r2
 go_wp2_with fail
 have hRd:=HGR.out _ _ _ _ _ HR6.out (below_drewN (Below.refl _ _) 1)
 refine wp_region_held_drew (S:=fun w'=>Blk w' b6 34 (B K)) (by kernel_rfl) (HKP.out _ _ _ _ _ HB6.out hRd) (fun hHeld=>?_)
 refine tkg 0 (.agg (B K)) rfl (yieldsIf_load_mid rfl 34 (.tmp 6) rfl b6 0 rfl (B K).toList _ (fun w hS=>hS.range) Tryz.underlying34 rfl HPL.out) hHeld ?_
 simp only [zq]
 refine tkp 1 (.pointer (some ⟨q,0,none⟩)) hHeld ?_
 simp only [zq]
 refine tkp 2 (.int .i64 (sg c:Int)) hHeld ?_
 simp only [zq]
 refine wpAnyH_ready (rs:=[3]) (by kernel_rfl) (by simp) ?_
 refine AllReadyH.cons rfl (fun KQ hK=>?_) AllReadyH.nil
 go_simp
 refine (HKY.out _ _ _ hRd).mono ?_
 rintro e z3 ⟨rfl,r3⟩
 refine hK.out _ _ (HKP.out _ _ _ _ _ HB6.out r3) (fun hHeld=>?_)
 clear hK KQ
 refine wpAnyH_ready (rs:=[4]) (by kernel_rfl) (by simp) ?_
 refine AllReadyH.cons rfl (fun KQ hK=>?_) AllReadyH.nil
 go_simp
 refine (HCM.out _).mono ?_
 rintro e z4 ⟨rfl,b4⟩
 have r4:=HGR.out _ _ _ _ _ r3 b4
 refine hK.out _ _ (HKP.out _ _ _ _ _ HB6.out r4) (fun hHeld=>?_)
 clear hK KQ
 refine tkp 5 (.int .i64 (c:Int)) hHeld ?_
 simp only [zq]
 refine wpAnyH_done (by kernel_rfl) ?_ _
 replace HR6:=Za r4
 clear hRd hHeld r3 b4 r4
 obtain ⟨hc1,hc2,hc3⟩:=HC.out
 have hc256:c<256:=by have:=HLE.out.2;omega
 have HHC:Hid (∀w',RW w5 sn t0 w'→Calls Tryz.prog 114 #[.pointer (some ⟨q,0,none⟩),.int .i64 (sg c:Int)] w' fun e w''=>e=.returned (.int .i64 0)∧RM w5 c t0 w''):=fun w' hr=>HHO.out w5 c t0 w' (by omega) HF0.out (by rw [← hc2];exact hr)
 have HMC:Hid (∀w',RM w5 c t0 w'→Calls Tryz.prog 115 #[.pointer (some ⟨q,0,none⟩),.agg (B K),.int .i64 (c:Int),.int .i64 (t0:Int),.int .i64 (sg c:Int)] w' fun e w''=>∃t':Nat,e=.returned (.int .i64 (t':Int))∧RW w5 c t' w''):=fun w' hr=>HMA.out w5 c t0 w' (by omega) hr
 have HMZ:Hid (∀m (t:Nat) w',wn≤m→m<c→RW w5 (m+1) t w'→Calls Tryz.prog 115 #[.pointer (some ⟨q,0,none⟩),.agg (B K),.int .i64 (m:Int),.int .i64 (t:Int),.int .i64 0] w' fun e w''=>∃t':Nat,e=.returned (.int .i64 (t':Int))∧RW w5 m t' w''):=fun m t w' h1 h2 hr=>by
  have h0:=hc3 m h1 h2
  have:=HMA.out w5 m t w' (by omega) (HNO.out _ _ _ _ h0 hr)
  rw [h0] at this
  exact this
 have hwc:wrap64 ((c:Int)-1)=(c:Int)-1:=Go.IntWalk.wrap64_in _ (by omega)
 clear hc2 hc3
 go_wp2_with (first
  |(go_at_call 114;refine (HHC.out _ HR6.out).mono ?_;rintro e z5 ⟨rfl,m5⟩;have HM5:=Za m5;clear m5)
  |((with_reducible refine Zk 69 6 ?_);refine Zh _ rfl _ _ rfl b6 _ rfl (HKM.out _ _ _ _ _ HB6.out HM5.out) _ _ Tryz.underlying34 HPS.out ?_)
  |(go_at_call 115;refine (HMC.out _ HM5.out).mono ?_;rintro e z6 ⟨t6,rfl,r6⟩;have HR7:=Za r6;clear r6))
 go_loopw [13,16] (fun nv dv wr=>∃(j t:Nat),wn≤j∧j≤c∧nv=.int .i64 (t:Int)∧dv=.int .i64 ((j:Int)-1)∧Hid (RW w5 j t wr)) (fun _ dv _=>(intOf dv+1).toNat)
 case atStart=>exact ⟨c,t6,hc1,Nat.le_refl _,rfl,rfl,HR7⟩
 case round=>
  clear HR7 HM5 HR6
  obtain ⟨j,t,hjw,hjc,rfl,rfl,hR⟩:=hrel
  by_cases hj0:wn<j
  ·obtain ⟨m,rfl⟩:∃m,j=m+1:=⟨j-1,by omega⟩
   rw [show (((m+1:Nat):Int)-1)=(m:Int) by omega]
   have i1:(wn:Int)≤(m:Int):=by omega
   have hwm:wrap64 ((m:Int)-1)=(m:Int)-1:=Go.IntWalk.wrap64_in _ (by omega)
   have HM1:=Za (HMZ.out m t _ (by omega) (by omega) hR.out)
   go_wp2_with (first
    |((with_reducible refine Zk 83 6 ?_);refine Zh _ rfl _ _ rfl b6 _ rfl (HKP.out _ _ _ _ _ HB6.out hR.out) _ _ Tryz.underlying34 HPS.out ?_)
    |(go_at_call 115;refine HM1.out.mono ?_;rintro e z7 ⟨t7,rfl,r7⟩;have HR8:=Za r7;clear r7))
   exact ⟨⟨m,t7,by omega,by omega,rfl,rfl,HR8⟩,by first | (simp [intOf];done) | (simp [intOf];omega)⟩
  ·obtain rfl:j=wn:=by omega
   have i1: ¬(j:Int)≤(j:Int)-1:=by omega
   go_wp2_with fail
   go_loopw [13,17] (fun nv dv wr=>∃(jj t:Nat),jj≤j∧nv=.int .i64 (t:Int)∧dv=.int .i64 ((jj:Int)-1)∧Hid (RW w5 jj t wr)) (fun _ dv _=>(intOf dv+1).toNat)
   case atStart=>exact ⟨j,t,Nat.le_refl _,rfl,rfl,hR⟩
   case round=>
    clear hR
    obtain ⟨jj,t,hj,rfl,rfl,hR⟩:=hrel
    by_cases hj1:0<jj
    ·obtain ⟨m,rfl⟩:∃m,jj=m+1:=⟨jj-1,by omega⟩
     rw [show (((m+1:Nat):Int)-1)=(m:Int) by omega]
     have i1:(0:Int)≤(m:Int):=by omega
     have i2:(m:Int)<(j:Int):=by omega
     have hwm:wrap64 ((m:Int)-1)=(m:Int)-1:=Go.IntWalk.wrap64_in _ (by omega)
     have hmw:m<j:=by omega
     have hmn:m<sn:=by have:=HLE.out.1;omega
     obtain ⟨lb,rfl,-⟩:=HI6.out.now m (by rw [← HWN.out];exact hmw)
     have HO2:Hid (∀w5 t w',RW w5 (m+1) t w'→Calls Tryz.prog 49 #[.pointer (some ⟨q,0,none⟩),.agg (B K),.int .i64 (m:Int),.int .i64 (hsl.getD m 0:Int)] w' fun e w''=>e=.returned (.int .i64 (sg m:Int))∧RW w5 (m+1) t w''):=fun w5 t w' hr=>HOT.out w5 m t w' hmw hr
     have hcl:∀ {w'},Ints9 w' (some ⟨lb,0,none⟩) hsl→w'.cell? ⟨lb,m,none⟩=some (.int .i64 (hsl.getD m 0:Int)):=fun {w'} hi=>by
      obtain ⟨g',e1,e2⟩:=hi m (by rw [← HWN.out];exact hmw)
      injection e1 with e1
      injection e1 with e1
      rw [e1]
      exact e2
     generalize (hsl.getD m 0:Int)=xx at HO2 hcl
     have hRd:=HGR.out _ _ _ _ _ hR.out (below_drewN (Below.refl wr.heap.size wr) 1)
     go_wp2_with fail
     refine wp_region_held_drew (S:=fun w'=>Blk w' b6 34 (B K)∧w'.cell? ⟨lb,m,none⟩=some (.int .i64 xx)) (by kernel_rfl) (⟨HKP.out _ _ _ _ _ HB6.out hRd,hcl (HKP.out _ _ _ _ _ HI6.out hRd)⟩) (fun hHeld=>?_)
     refine tkp 0 (.pointer (some ⟨q,0,none⟩)) hHeld ?_
     simp only [zq]
     refine tkg 1 (.agg (B K)) rfl (yieldsIf_load_mid rfl 34 (.tmp 6) rfl b6 0 rfl (B K).toList _ (fun w hS=>hS.1.range) Tryz.underlying34 rfl HPL.out) hHeld ?_
     simp only [zq]
     refine tkp 2 (.int .i64 (m:Int)) hHeld ?_
     simp only [zq]
     refine tkp 3 (.slice (some ⟨lb,0,none⟩) j wc) hHeld ?_
     simp only [zq]
     refine tkp 4 (.int .i64 (m:Int)) hHeld ?_
     simp only [zq]
     refine tkp 5 (.pointer (some ⟨lb,m,none⟩)) hHeld ?_
     simp only [zq]
     refine tkg 6 (.int .i64 xx) rfl (Or.inl ⟨by rfl,fun w hS=>by (have q1:=hS.2;go_simp)⟩) hHeld ?_
     simp only [zq]
     refine wpAnyH_ready (rs:=[7]) (by kernel_rfl) (by simp) ?_
     refine AllReadyH.cons rfl (fun KQ hK=>?_) AllReadyH.nil
     go_simp
     refine (HO2.out _ _ _ hRd).mono ?_
     rintro e z1 ⟨rfl,r1⟩
     refine hK.out _ _ (⟨HKP.out _ _ _ _ _ HB6.out r1,hcl (HKP.out _ _ _ _ _ HI6.out r1)⟩) (fun hHeld=>?_)
     clear hK KQ
     refine tkp 8 (.int .i64 (sg m:Int)) hHeld ?_
     simp only [zq]
     refine wpAnyH_done (by kernel_rfl) ?_ _
     have HR1:=Za r1
     clear r1 hRd hHeld hcl hR
     by_cases o0:sg m=0
     ·have o1: ¬(0:Int)<(sg m:Int):=by omega
      have HM1:=Za (HNO.out _ _ _ _ o0 HR1.out)
      clear o0
      go_wp2_with (first
       |((with_reducible refine Zk 108 6 ?_);refine Zh _ rfl _ _ rfl b6 _ rfl (HKM.out _ _ _ _ _ HB6.out HM1.out) _ _ Tryz.underlying34 HPS.out ?_)
       |(go_at_call 115;refine (HMA.out _ _ _ _ hmn HM1.out).mono ?_;rintro e z3 ⟨t3,rfl,r3⟩;have HR3:=Za r3;clear r3))
      exact ⟨⟨m,t3,by omega,rfl,rfl,HR3⟩,by first | (simp [intOf];done) | (simp [intOf];omega)⟩
     ·have o1:(0:Int)<(sg m:Int):=by omega
      have HHM:=Za (HHO.out _ _ _ _ hmn o0 HR1.out)
      clear o0
      go_wp2_with (first
       |(go_at_call 114;refine HHM.out.mono ?_;rintro e z2 ⟨rfl,m1⟩;have HM1:=Za m1;clear m1)
       |((with_reducible refine Zk 108 6 ?_);refine Zh _ rfl _ _ rfl b6 _ rfl (HKM.out _ _ _ _ _ HB6.out HM1.out) _ _ Tryz.underlying34 HPS.out ?_)
       |(go_at_call 115;refine (HMA.out _ _ _ _ hmn HM1.out).mono ?_;rintro e z3 ⟨t3,rfl,r3⟩;have HR3:=Za r3;clear r3))
      exact ⟨⟨m,t3,by omega,rfl,rfl,HR3⟩,by first | (simp [intOf];done) | (simp [intOf];omega)⟩
    ·obtain rfl:jj=0:=by omega
     have i1: ¬(0:Int)≤((0:Nat):Int)-1:=by omega
     by_cases hrt:0<rt
     ·have HD2:=Za (HDR.out hrt _ _ _ HQ5.out hR.out)
      go_wp2_with (first
       |(go_at_call 58;refine HD2.out.mono ?_;rintro e z4 ⟨x4,y4,rfl,p4⟩;have HP4:=Za p4;clear p4))
      exact HP4.out
     ·have HP4:=Za (HND.out (by omega) _ _ _ HQ5.out hR.out)
      go_wp2_with fail
      exact HP4.out
end Go.Proofs.YtgfdgjkbcdmboaaGreatDoor
