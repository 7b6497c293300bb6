/- Scene.Do: a call of a scene, kind by kind. -/
import Derived.Test.YtlclabbnpjobgaaGreatDoorAp47
namespace Go.Proofs.YtlclabbnpjobgaaGreatDoor
variable {S fr:List Nat}
variable {al:Lq}
variable {base g gc gs k n nb q room:Nat}
variable {cs:Lz}
variable {root:Int}
variable {v v' va:Value}
variable {w w' w0 w1 w2 w3:World}
variable {xs:List Value}
set_option maxHeartbeats 8000000
set_option maxRecDepth 20000
open Go.RowKit
theorem Zby:(Tryz.prog.info? 73).map (·.size)=some 35:=by kernel_rfl
theorem Zyw {P:Ending→World→Prop} (h:Sn w0 w gc g gs q room cs fr root va al nb) (h5:room≤5000) (hnb:nb≤1000) (hL:∀w',Kb w0 w'→Laid w') {K:Lq} {v:Value} {bs:Lq} {hh:Int} (hK:Key K) (hr:∀w',Kb w0 w'→Reads w' v bs) (hm:bs.length≤2000) (HPost:Hid (∀w' cs' fr' root' va' al',Sn w0 w' gc g gs q room cs' fr' root' va' al' (nb+1)→(∀k,Ex k cs root al→Ex (k+1) cs' root' al')→P (.returned (.bool true)) w')):Kc 26 #[.pointer (some ⟨gc,0,none⟩),.agg (apL 0 K v hh).toArray] w P:=by
 have u0:=(⟨h5,hnb,hL,hK,hr,hm⟩:_∧_∧_∧_∧_∧_);clear u0;have HKL:=Za hK.1;have HAZ:Hid ((Tryz.prog.info? 73).map (·.size)=some (apL 0 K v hh).toArray.toList.length):=by show _=_;rw [List.toList_toArray,Zbi _ _ _ _ HKL.out];exact Zby
 obtain ⟨S,o⟩:=h.so;have HO:=Za o;have HPU:Hid (∀w',Kb w w'→Kc 52 #[.pointer (some ⟨gc,0,none⟩),.int .i64 root,.agg (apL 0 K v hh).toArray] w' (ScPut w' S g gs q room cs root)):=fun w' hb=>Ygh (HO.out.rebase hb) h5 hnb hL root ⟨0,K,v,bs,hh⟩ hK hr hm
 clear o h hK hr hm hL h5 hnb;go_enter Tryz.func26,Tryz.ntmps26
 go_wp2_with (first
  |((with_reducible refine Zo 3 ?_);refine Zd _ rfl _ _ rfl _ rfl ?_;intro w1 b3 hg3 hl3 B3 q1;have HQ1:=Za q1;have HB1:=Za (Kq.blk B3 (HO.out.new b3 hg3));have HO1:=Za (HO.out.rebase q1);have zk:=Zfa B3;have zh:=Zcn B3 HKL.out;obtain ⟨y0,y1,y2,y3⟩:=Zp HO1.out.blk.now;clear hg3 hl3 B3 q1))
 have HO2:=Za (HO1.out.rebase (below_drewN (Below.refl w1.heap.size w1) 1));have HB2:=Za (HB1.out.grow (below_drewN (Below.refl w1.heap.size w1) 1));refine wp_region_held_drew (S:=fun w'=>Blk w' gc 35 #[.pointer (some ⟨g,0,none⟩),.pointer (some ⟨q,0,none⟩),.int .i64 root,va]∧Blk w' b3 73 (apL 0 K v hh).toArray) (by kernel_rfl) (⟨HO2.out.blk.now,HB2.out.now⟩) (fun hHeld=>?_);refine tkp 0 (.pointer (some ⟨gc,0,none⟩)) hHeld ?_;simp only [zq];refine tkp 1 (.pointer (some ⟨gc,0,none⟩)) hHeld ?_;simp only [zq];refine tkp 2 (.pointer (some ⟨gc,0,none⟩)) hHeld ?_;simp only [zq];refine tkp 3 (.pointer (some ⟨gc,2,none⟩)) hHeld ?_;simp only [zq];refine tkg 4 (.int .i64 root) rfl (Or.inl ⟨by rfl,fun w hS=>by (have q1:=(Zp hS.1).2.2.1;go_simp)⟩) hHeld ?_;simp only [zq];refine tkg 5 (.agg (apL 0 K v hh).toArray) rfl (yieldsIf_load_mid rfl 73 (.tmp 3) rfl b3 0 rfl (apL 0 K v hh).toArray.toList _ (fun w hS=>(hS.2).range) Tryz.underlying73 rfl HAZ.out) hHeld ?_;simp only [zq];refine wpAnyH_ready (rs:=[6]) (by kernel_rfl) (by simp) ?_;refine AllReadyH.cons rfl (fun KQ hK=>?_) AllReadyH.nil;go_simp;refine (HPU.out _ (Zb HQ1.out (below_drewN (Below.refl w1.heap.size w1) 1))).mono ?_;rintro e w3 ⟨y3',e3,cs3,fr3,rfl,p3,o3⟩;refine hK.out _ _ (⟨HO2.out.blk _ p3.mod,HB2.out _ p3.mod⟩) (fun hHeld=>?_);clear hK KQ;refine tkp 7 (.tuple #[.int .i64 y3',.int .i64 e3,.bool true]) hHeld ?_;simp only [zq];refine tkp 8 (.int .i64 y3') hHeld ?_;simp only [zq];refine tkp 9 (.int .i64 e3) hHeld ?_;simp only [zq];refine tkp 10 (.bool true) hHeld ?_;simp only [zq];refine tkp 11 (.int .i64 y3') hHeld ?_;simp only [zq];refine tkp 12 (.int .i64 e3) hHeld ?_;simp only [zq];refine tkp 13 (.bool true) hHeld ?_;simp only [zq];refine wpAnyH_done (by kernel_rfl) ?_ _;have HN3:=Za (HO2.out.next _ _ _ (nb+1) p3 (fun i=>by have:=o3.few i;have:=HO.out.own i;omega));have HX3:=Za o3;clear hHeld p3 o3
 by_cases e0:e3=0
 ·subst e0;obtain ⟨x0,x1,x2,x3⟩:=Zp HN3.out.blk;have xf:=HN3.out.blk.frozen 2;go_wp2
  exact HPost.out _ _ _ _ _ _ (HN3.out.turn y3') (fun _ h=>Yhq h HX3.out rfl)
 ·have e1:(e3 == 0)=false:=by simp [e0]
  go_wp2
  exact HPost.out _ _ _ _ _ _ HN3.out (fun _ h=>by rw [HX3.out.no e0];exact h.up)
theorem Zrc {P:Ending→World→Prop} (h:Sn w0 w gc g gs q room cs fr root va al nb) (h5:room≤5000) (hnb:nb≤1000) (hL:∀w',Kb w0 w'→Laid w') {K:Lq} {v:Value} {bs:Lq} {hh:Int} (hK:Key K) (hr:∀w',Kb w0 w'→Reads w' v bs) (hm:bs.length≤2000) (HPost:Hid (∀w' cs' fr' root' va' al',Sn w0 w' gc g gs q room cs' fr' root' va' al' (nb+1)→(∀k,Ex k cs root al→Ex (k+1) cs' root' al')→P (.returned (.bool true)) w')):Kc 26 #[.pointer (some ⟨gc,0,none⟩),.agg (apL 4 K v hh).toArray] w P:=by
 have u0:=(⟨h5,hnb,hL,hK,hr,hm⟩:_∧_∧_∧_∧_∧_);clear u0;have HKL:=Za hK.1;have HAZ:Hid ((Tryz.prog.info? 73).map (·.size)=some (apL 4 K v hh).toArray.toList.length):=by show _=_;rw [List.toList_toArray,Zbi _ _ _ _ HKL.out];exact Zby
 obtain ⟨S,o⟩:=h.so;have HO:=Za o;have HCO:Hid (Kr w 57 #[.pointer (some ⟨gc,0,none⟩),.int .i64 root,.agg (apL 4 K v hh).toArray] (.bool true)):=fun w' hb=>Zty (h.grow hb) h5 hnb root ⟨4,K,v,bs,hh⟩ hK hr
 have HN:=Za (h.more (Nat.le_succ nb));clear o h hK hr hm hL h5 hnb;go_enter Tryz.func26,Tryz.ntmps26
 go_wp2_with (first
  |((with_reducible refine Zo 3 ?_);refine Zd _ rfl _ _ rfl _ rfl ?_;intro w1 b3 hg3 hl3 B3 q1;have HQ1:=Za q1;have HB1:=Za (Kq.blk B3 (HO.out.new b3 hg3));have HO1:=Za (HO.out.rebase q1);have zk:=Zfa B3;have zh:=Zcn B3 HKL.out;obtain ⟨y0,y1,y2,y3⟩:=Zp HO1.out.blk.now;clear hg3 hl3 B3 q1))
 refine wp_region_held_drew (S:=fun w'=>Kb w1 w') (by kernel_rfl) (below_drewN (Below.refl _ _) 1) (fun hHeld=>?_);refine tkp 0 (.pointer (some ⟨gc,0,none⟩)) hHeld ?_;simp only [zq];refine tkp 1 (.pointer (some ⟨gc,0,none⟩)) hHeld ?_;simp only [zq];refine tkp 2 (.pointer (some ⟨gc,0,none⟩)) hHeld ?_;simp only [zq];refine tkp 3 (.pointer (some ⟨gc,2,none⟩)) hHeld ?_;simp only [zq];refine tkg 4 (.int .i64 root) rfl (Or.inl ⟨by rfl,fun w hS=>by (have q1:=(Zp (HO1.out.blk.now.grow hS)).2.2.1;go_simp)⟩) hHeld ?_;simp only [zq];refine tkg 5 (.agg (apL 4 K v hh).toArray) rfl (yieldsIf_load_mid rfl 73 (.tmp 3) rfl b3 0 rfl (apL 4 K v hh).toArray.toList _ (fun w hS=>(HB1.out.now.grow hS).range) Tryz.underlying73 rfl HAZ.out) hHeld ?_;simp only [zq];refine wpAnyH_ready (rs:=[6]) (by kernel_rfl) (by simp) ?_;refine AllReadyH.cons rfl (fun KQ hK=>?_) AllReadyH.nil;go_simp;refine (HCO.out _ (Zb HQ1.out hHeld)).mono ?_;rintro e w3 ⟨rfl,b3'⟩;refine hK.out _ _ (Zb hHeld b3') (fun hHeld=>?_);clear hK KQ;refine tkp 7 (.bool true) hHeld ?_;simp only [zq];refine wpAnyH_done (by kernel_rfl) ?_ _;have HN3:=Za (HN.out.grow (Zb HQ1.out hHeld));clear hHeld b3';go_wp2
 exact HPost.out _ _ _ _ _ _ HN3.out (fun _ h=>h.up)
theorem Ztu {P:Ending→World→Prop} (h:Sn w0 w gc g gs q room cs fr root va al nb) (h5:room≤5000) (hnb:nb≤1000) (hL:∀w',Kb w0 w'→Laid w') {K:Lq} {v:Value} {bs:Lq} {hh:Int} (hK:Key K) (hr:∀w',Kb w0 w'→Reads w' v bs) (hm:bs.length≤2000) (HPost:Hid (∀w' cs' fr' root' va' al',Sn w0 w' gc g gs q room cs' fr' root' va' al' (nb+1)→(∀k,Ex k cs root al→Ex (k+1) cs' root' al')→P (.returned (.bool true)) w')):Kc 26 #[.pointer (some ⟨gc,0,none⟩),.agg (apL 5 K v hh).toArray] w P:=by
 have u0:=(⟨h5,hnb,hL,hK,hr,hm⟩:_∧_∧_∧_∧_∧_);clear u0;have HKL:=Za hK.1;have HAZ:Hid ((Tryz.prog.info? 73).map (·.size)=some (apL 5 K v hh).toArray.toList.length):=by show _=_;rw [List.toList_toArray,Zbi _ _ _ _ HKL.out];exact Zby
 obtain ⟨S,o⟩:=h.so;have HO:=Za o;obtain ⟨fb,hfb⟩:=Yho o.p h5 hh;obtain ⟨ae,hae⟩:=Yhk o.p hh;have HF1:Hid (Kr w 58 #[.pointer (some ⟨g,0,none⟩),.int .i64 hh] (.bool fb)):=fun w' hb=>(hfb w' hb).1
 have HF2:Hid (Kr w 59 #[.pointer (some ⟨q,0,none⟩),.int .i64 hh] (.bool fb)):=fun w' hb=>(hfb w' hb).2
 have HA1:Hid (Kr w 60 #[.pointer (some ⟨g,0,none⟩),.int .i64 hh] (.int .i64 ae)):=fun w' hb=>(hae w' hb).1
 have HA2:Hid (Kr w 61 #[.pointer (some ⟨q,0,none⟩),.int .i64 hh] (.int .i64 ae)):=fun w' hb=>(hae w' hb).2
 have HN:=Za (h.more (Nat.le_succ nb));clear o h hK hr hm hL h5 hnb hfb hae;cases fb <;> (
  go_enter Tryz.func26,Tryz.ntmps26
  go_wp2_with (first
   |((with_reducible refine Zo 3 ?_);refine Zd _ rfl _ _ rfl _ rfl ?_;intro w1 b3 hg3 hl3 B3 q1;have HQ1:=Za q1;have HB1:=Za (Kq.blk B3 (HO.out.new b3 hg3));have HO1:=Za (HO.out.rebase q1);have zk:=Zfa B3;have zh:=Zcn B3 HKL.out;obtain ⟨y0,y1,y2,y3⟩:=Zp HO1.out.blk.now;clear hg3 hl3 B3 q1))
  refine wp_region_held_drew (S:=fun w'=>Kb w1 w') (by kernel_rfl) (below_drewN (Below.refl _ _) 1) (fun hHeld=>?_);refine tkp 0 (.pointer (some ⟨gc,0,none⟩)) hHeld ?_;simp only [zq];refine tkp 1 (.pointer (some ⟨gc,0,none⟩)) hHeld ?_;simp only [zq];refine tkp 2 (.pointer (some ⟨gc,0,none⟩)) hHeld ?_;simp only [zq];refine tkg 3 (.pointer (some ⟨g,0,none⟩)) rfl (Or.inl ⟨by rfl,fun w hS=>by (have q1:=(Zp (HO1.out.blk.now.grow hS)).1;go_simp)⟩) hHeld ?_;simp only [zq];refine tkp 4 (.pointer (some ⟨b3,34,none⟩)) hHeld ?_;simp only [zq];refine tkg 5 (.int .i64 hh) rfl (Or.inl ⟨by rfl,fun w hS=>by (have q1:=Zcn (HB1.out.now.grow hS) HKL.out;go_simp)⟩) hHeld ?_;simp only [zq];refine tkp 7 (.pointer (some ⟨gc,0,none⟩)) hHeld ?_;simp only [zq];refine tkp 8 (.pointer (some ⟨gc,0,none⟩)) hHeld ?_;simp only [zq];refine tkp 9 (.pointer (some ⟨gc,1,none⟩)) hHeld ?_;simp only [zq];refine tkg 10 (.pointer (some ⟨q,0,none⟩)) rfl (Or.inl ⟨by rfl,fun w hS=>by (have q1:=(Zp (HO1.out.blk.now.grow hS)).2.1;go_simp)⟩) hHeld ?_;simp only [zq];refine tkp 11 (.pointer (some ⟨b3,34,none⟩)) hHeld ?_;simp only [zq];refine tkg 12 (.int .i64 hh) rfl (Or.inl ⟨by rfl,fun w hS=>by (have q1:=Zcn (HB1.out.now.grow hS) HKL.out;go_simp)⟩) hHeld ?_;simp only [zq];refine wpAnyH_ready (rs:=[6]) (by kernel_rfl) (by simp) ?_;refine AllReadyH.cons rfl (fun KQ hK=>?_) AllReadyH.nil;go_simp;refine (HF1.out _ (Zb HQ1.out hHeld)).mono ?_;rintro e z1 ⟨rfl,a1⟩;refine hK.out _ _ (Zb hHeld a1) (fun hHeld=>?_);clear hK KQ;refine wpAnyH_ready (rs:=[13]) (by kernel_rfl) (by simp) ?_;refine AllReadyH.cons rfl (fun KQ hK=>?_) AllReadyH.nil;go_simp;refine (HF2.out _ (Zb HQ1.out hHeld)).mono ?_;rintro e z2 ⟨rfl,a2⟩;refine hK.out _ _ (Zb hHeld a2) (fun hHeld=>?_);clear hK KQ;refine tkp 14 (.bool true) hHeld ?_;simp only [zq];refine tkp 15 (.bool true) hHeld ?_;simp only [zq];refine tkp 16 (.pointer (some ⟨gc,0,none⟩)) hHeld ?_;simp only [zq];refine tkp 17 (.pointer (some ⟨gc,0,none⟩)) hHeld ?_;simp only [zq];refine tkp 18 (.pointer (some ⟨gc,0,none⟩)) hHeld ?_;simp only [zq];refine tkg 19 (.pointer (some ⟨g,0,none⟩)) rfl (Or.inl ⟨by rfl,fun w hS=>by (have q1:=(Zp (HO1.out.blk.now.grow hS)).1;go_simp)⟩) hHeld ?_;simp only [zq];refine tkp 20 (.pointer (some ⟨b3,34,none⟩)) hHeld ?_;simp only [zq];refine tkg 21 (.int .i64 hh) rfl (Or.inl ⟨by rfl,fun w hS=>by (have q1:=Zcn (HB1.out.now.grow hS) HKL.out;go_simp)⟩) hHeld ?_;simp only [zq];refine tkp 23 (.pointer (some ⟨gc,0,none⟩)) hHeld ?_;simp only [zq];refine tkp 24 (.pointer (some ⟨gc,0,none⟩)) hHeld ?_;simp only [zq];refine tkp 25 (.pointer (some ⟨gc,1,none⟩)) hHeld ?_;simp only [zq];refine tkg 26 (.pointer (some ⟨q,0,none⟩)) rfl (Or.inl ⟨by rfl,fun w hS=>by (have q1:=(Zp (HO1.out.blk.now.grow hS)).2.1;go_simp)⟩) hHeld ?_;simp only [zq];refine tkp 27 (.pointer (some ⟨b3,34,none⟩)) hHeld ?_;simp only [zq];refine tkg 28 (.int .i64 hh) rfl (Or.inl ⟨by rfl,fun w hS=>by (have q1:=Zcn (HB1.out.now.grow hS) HKL.out;go_simp)⟩) hHeld ?_;simp only [zq];refine wpAnyH_ready (rs:=[22]) (by kernel_rfl) (by simp) ?_;refine AllReadyH.cons rfl (fun KQ hK=>?_) AllReadyH.nil;go_simp;refine (HA1.out _ (Zb HQ1.out hHeld)).mono ?_;rintro e z3 ⟨rfl,a3⟩;refine hK.out _ _ (Zb hHeld a3) (fun hHeld=>?_);clear hK KQ;refine wpAnyH_ready (rs:=[29]) (by kernel_rfl) (by simp) ?_;refine AllReadyH.cons rfl (fun KQ hK=>?_) AllReadyH.nil;go_simp;refine (HA2.out _ (Zb HQ1.out hHeld)).mono ?_;rintro e z4 ⟨rfl,a4⟩;refine hK.out _ _ (Zb hHeld a4) (fun hHeld=>?_);clear hK KQ;refine tkp 30 (.bool true) hHeld ?_;simp only [zq];refine tkp 31 (.bool true) hHeld ?_;simp only [zq];refine tkp 32 (.bool true) hHeld ?_;simp only [zq];refine wpAnyH_done (by kernel_rfl) ?_ _;have HN3:=Za (HN.out.grow (Zb HQ1.out hHeld));clear hHeld a1 a2 a3 a4;go_wp2
  exact HPost.out _ _ _ _ _ _ HN3.out (fun _ h=>h.up))
theorem Zrb {P:Ending→World→Prop} (h:Sn w0 w gc g gs q room cs fr root va al nb) (h5:room≤5000) (hnb:nb≤1000) (hL:∀w',Kb w0 w'→Laid w') {K:Lq} {v:Value} {bs:Lq} {hh:Int} (hK:Key K) (hr:∀w',Kb w0 w'→Reads w' v bs) (hm:bs.length≤2000) (HPost:Hid (∀w' cs' fr' root' va' al',Sn w0 w' gc g gs q room cs' fr' root' va' al' (nb+1)→(∀k,Ex k cs root al→Ex (k+1) cs' root' al')→P (.returned (.bool true)) w')):Kc 26 #[.pointer (some ⟨gc,0,none⟩),.agg (apL 6 K v hh).toArray] w P:=by
 have u0:=(⟨h5,hnb,hL,hK,hr,hm⟩:_∧_∧_∧_∧_∧_);clear u0;have HKL:=Za hK.1;have HAZ:Hid ((Tryz.prog.info? 73).map (·.size)=some (apL 6 K v hh).toArray.toList.length):=by show _=_;rw [List.toList_toArray,Zbi _ _ _ _ HKL.out];exact Zby
 obtain ⟨S,o⟩:=h.so;have HO:=Za o;have HCO:Hid (Kr w 57 #[.pointer (some ⟨gc,0,none⟩),.int .i64 hh,.agg (apL 6 K v hh).toArray] (.bool true)):=fun w' hb=>Zty (h.grow hb) h5 hnb hh ⟨6,K,v,bs,hh⟩ hK hr
 have HN:=Za (h.more (Nat.le_succ nb));clear o h hK hr hm hL h5 hnb;go_enter Tryz.func26,Tryz.ntmps26
 go_wp2_with (first
  |((with_reducible refine Zo 3 ?_);refine Zd _ rfl _ _ rfl _ rfl ?_;intro w1 b3 hg3 hl3 B3 q1;have HQ1:=Za q1;have HB1:=Za (Kq.blk B3 (HO.out.new b3 hg3));have HO1:=Za (HO.out.rebase q1);have zk:=Zfa B3;have zh:=Zcn B3 HKL.out;obtain ⟨y0,y1,y2,y3⟩:=Zp HO1.out.blk.now;clear hg3 hl3 B3 q1)
  |((with_reducible refine Zk 199 3 ?_);refine wpList_load_mid rfl _ _ rfl b3 0 rfl (apL 6 K v hh).toArray.toList _ HB1.out.now.range Tryz.underlying73 rfl HAZ.out ?_)
  |(go_at_call 57;refine (HCO.out _ HQ1.out).mono ?_;rintro e w3 ⟨rfl,b3'⟩;have HN3:=Za (HN.out.grow (Zb HQ1.out b3'));clear b3'))
 exact HPost.out _ _ _ _ _ _ HN3.out (fun _ h=>h.up)
theorem Ztv {P:Ending→World→Prop} (h:Sn w0 w gc g gs q room cs fr root va al nb) (h5:room≤5000) (hnb:nb≤1000) (hL:∀w',Kb w0 w'→Laid w') {K:Lq} {v:Value} {bs:Lq} {hh:Int} (hK:Key K) (hr:∀w',Kb w0 w'→Reads w' v bs) (hm:bs.length≤2000) (HPost:Hid (∀w' cs' fr' root' va' al',Sn w0 w' gc g gs q room cs' fr' root' va' al' (nb+1)→(∀k,Ex k cs root al→Ex (k+1) cs' root' al')→P (.returned (.bool true)) w')) {k:Int} (k0:(k == 0)=false) (k1:(k == 1)=false) (k2:(k == 2)=false) (k4:(k == 4)=false) (k5:(k == 5)=false) (k6:(k == 6)=false):Kc 26 #[.pointer (some ⟨gc,0,none⟩),.agg (apL k K v hh).toArray] w P:=by
 have u0:=(⟨h5,hnb,hL,hK,hr,hm⟩:_∧_∧_∧_∧_∧_);clear u0;have HKL:=Za hK.1;have HAZ:Hid ((Tryz.prog.info? 73).map (·.size)=some (apL k K v hh).toArray.toList.length):=by show _=_;rw [List.toList_toArray,Zbi _ _ _ _ HKL.out];exact Zby
 obtain ⟨S,o⟩:=h.so;have HO:=Za o;have HN:=Za (h.more (Nat.le_succ nb));clear o h hK hr hm hL h5 hnb HAZ;go_enter Tryz.func26,Tryz.ntmps26
 go_wp2_with (first
  |((with_reducible refine Zo 3 ?_);refine Zd _ rfl _ _ rfl _ rfl ?_;intro w1 b3 hg3 hl3 B3 q1;have HQ1:=Za q1;have HB1:=Za (Kq.blk B3 (HO.out.new b3 hg3));have HO1:=Za (HO.out.rebase q1);have zk:=Zfa B3;have zh:=Zcn B3 HKL.out;obtain ⟨y0,y1,y2,y3⟩:=Zp HO1.out.blk.now;clear hg3 hl3 B3 q1))
 exact HPost.out _ _ _ _ _ _ (HN.out.grow HQ1.out) (fun _ h=>h.up)
theorem So.lowSize (o:So w0 w gc g gs q room cs fr root va al nb S):w0.heap.size≤w.heap.size:=(o.next w cs fr nb o.p o.own).low.size
theorem Zvd {e:TypeId} {n':Nat} {xs':List Value} (l:Lst w' e k v' n' xs') (h:WhereL w v v') (o:w.ownsRow base e k v n xs) (hb:base≤w.heap.size):w'.ownsRow base e k v' n' xs':=by
 refine ⟨l.1,?_⟩;rcases l.2 with q | ⟨g,cap,cur,rfl,_,rest⟩
 ·exact .inl q
 ·refine .inr ⟨g,cap,cur,rfl,?_,rest⟩;rcases h with e1 | ⟨k',e1,hk⟩
  ·exact (o.lt g e1.symm).1
  ·injection e1 with e1;subst e1;exact Nat.le_trans hb hk
theorem Ztg {ops:Array Oper} {op:Oper} {a:Act} {K:Act→World→Prop} {Q:Exit→Act→World→Prop} {E:Prop} (w:World) (hgd:op.guard=none) (ho:op.op=.buildSlice 28 0 #[])
  (hk:(w.alloc (.cells #[] 3)).ownsRow w.heap.size 3 1 (.slice (some ⟨w.heap.size,0,none⟩) 0 0) 0 []→Kb w (w.alloc (.cells #[] 3))→K (a.put op.dst (.slice (some ⟨w.heap.size,0,none⟩) 0 0)) (w.alloc (.cells #[] 3))):if Region.wanted op (yielded ops a.tmps)=true then Oper.wp Tryz.prog op a w K Q else E:=by
 have hw:Region.wanted op (yielded ops a.tmps)=true:=by simp [Region.wanted,hgd]
 rw [if_pos hw];obtain ⟨i,z,hi,hz,hs,_,hzs⟩:=Zah;have ht:Tryz.prog.underlying 28=some (.slice 3):=Tryz.underlying28;have hrun:(Instr.buildSlice 28 0 #[]).run Tryz.prog w=.ok (.slice (some ⟨w.heap.size,0,none⟩) 0 0) (w.alloc (.cells #[] 3)):=by
  have he:∀f:Nat→Value,Array.map f (Array.range 0)= #[]:=fun f=>Array.eq_empty_of_size_eq_zero (by simp)
  simp [Instr.buildSlice,run_underlying ht,sizeOf,typeInfo,hi,Instr.fill,newRow,he]
 unfold Oper.wp execOp;simp only [ho,List.map_toArray,List.map_nil,Sem.run_bind,hrun,Result.andThen_ok,Sem.run_pure];exact hk ⟨rfl,.inr ⟨w.heap.size,0, #[],rfl,Nat.le_refl _,Blk.new _ _ _,Nat.le_refl _,by simp only [maxLen];omega,rfl,rfl⟩⟩ (Zc w _)
theorem Zlc {P:Program} {ops:Array Oper} {o:Oper} {a:Act} {K:Act→World→Prop} {Q:Exit→Act→World→Prop} {E:Prop} (w:World) (hgd:o.guard=none) (s x:Operand) (t:TypeId)
  (ho:o.op=.call { callee:=.builtin .append,args:= #[s,x],argTypes:= #[t,t]})
  (base:Nat) (e:TypeId) (size bytes:Nat) (ht:P.underlying t=some (.slice e)) (hin:∃i z,P.info? e=some i∧i.zero=some z∧i.size=size∧i.bytes=bytes∧z.cells.size=size) (hsz:0<size)
  (v:Value) (n:Nat) (xs:List Value) (hs:a.eval s=v) (hown:w.ownsRow base e size v n xs)
  (ad:Addr) (m c:Nat) (news:List Value) (hx:a.eval x=.slice (some ad) m c) (hl:news.length=m * size) (hnews:∀j u,news[j]?=some u→w.cell? (ad.add j)=some u) (h1:∀u∈news,u.oneCell'=true)
  (h63:n+m≤maxLen) (hbytes:(n+m) * bytes≤140737488355328) (hbase:base≤w.heap.size)
  (hk:∀v' w',w'.ownsRow base e size v' (n+m) (xs++news)→w.grownBy w' v.ownBlock→K (a.put o.dst v') w'):if Region.wanted o (yielded ops a.tmps)=true then Oper.wp P o a w K Q else E:=by
 have hw:Region.wanted o (yielded ops a.tmps)=true:=by simp [Region.wanted,hgd]
 rw [if_pos hw];obtain ⟨i,z,hi,hz,hsize,hby,hzs⟩:=hin;obtain ⟨v',w',hr,h2,h3,_⟩:=run_append_own (P:=P) w base t o.type e i z size bytes ht hi hz hsize hby hzs hsz v n xs hown ad m c news hl hnews h1 h63 hbytes hbase;unfold Oper.wp execOp;simp only [ho,resolve,invoke,builtin,Sem.run_bind,Sem.run_pure,Result.andThen_ok,List.map_toArray,List.map_cons,List.map_nil,hs,hx,hr];exact hk v' w' h2 h3
theorem Yiw (z:Int) (n:Nat) (w:World) (hn:0<n) (hn2:n≤4096):Kc 22 #[.int .i64 z,.int .i64 (n:Int)] w fun e w'=>(∃p:Nat,p<n∧e=.returned (.int .i64 (p:Int)))∧w'=w:=by
 have hn1:(0:Int)<(n:Int):=by omega
 have hn0: ¬(n:Int)=0:=by omega
 have hn3: ¬n=0:=by omega
 have hb1:=Int.lt_tmod_of_pos z hn1;have hb2:=Int.tmod_lt_of_pos z hn1;obtain ⟨r,hr⟩:∃r,z.tmod n=r:=⟨_,rfl⟩;rw [hr] at hb1 hb2
 by_cases q:r<0
 ·have hw:IntKind.i64.wrap (r+n)=r+n:=by rw [IntKind.wrap_i64];omega
  have HP:Hid (∃p:Nat,p<n∧r+n=p):=⟨(r+n).toNat,by omega,by omega⟩;clear hb1 hb2 hn hn2;go_enter Tryz.func22,Tryz.ntmps22
  go_wp2
  go_ret;obtain ⟨p,hp,e⟩:=HP.out;exact ⟨⟨p,hp,by rw [← e];rfl⟩,rfl⟩
 ·have HP:Hid (∃p:Nat,p<n∧r=p):=⟨r.toNat,by omega,by omega⟩;have q':0≤r:=by omega
  clear hb1 hb2 hn hn2;go_enter Tryz.func22,Tryz.ntmps22
  go_wp2
  go_ret;obtain ⟨p,hp,e⟩:=HP.out;exact ⟨⟨p,hp,by rw [← e];rfl⟩,rfl⟩
theorem Ztw {P:Ending→World→Prop} (h:Sn w0 w gc g gs q room cs fr root va al nb) (h5:room≤5000) (hnb:nb≤1000) (hL:∀w',Kb w0 w'→Laid w') {K:Lq} {v:Value} {bs:Lq} {hh:Int} (hK:Key K) (hr:∀w',Kb w0 w'→Reads w' v bs) (hm:bs.length≤2000) (HPost:Hid (∀w' cs' fr' root' va' al',Sn w0 w' gc g gs q room cs' fr' root' va' al' (nb+1)→(∀k,Ex k cs root al→Ex (k+1) cs' root' al')→P (.returned (.bool true)) w')):Kc 26 #[.pointer (some ⟨gc,0,none⟩),.agg (apL 1 K v hh).toArray] w P:=by
 have u0:=(⟨h5,hnb,hL,hK,hr,hm⟩:_∧_∧_∧_∧_∧_);clear u0;have HKL:=Za hK.1;have HAZ:Hid ((Tryz.prog.info? 73).map (·.size)=some (apL 1 K v hh).toArray.toList.length):=by show _=_;rw [List.toList_toArray,Zbi _ _ _ _ HKL.out];exact Zby
 have HCC:Hid (∀i,cc cs i<1073741824):=fun i=>by
  obtain ⟨_,p,_⟩:=h.ex;have:=p.wf.ccLe i 1000 (Nat.le_trans (h.own i) hnb);have:=p.inv.lenC;omega
 obtain ⟨S,o⟩:=h.so;have HO:=Za o;have HN:=Za (h.more (Nat.le_succ nb));have HH0:=Za h;have hfew:=h.few;obtain ⟨an,han⟩:∃n,n=al.length:=⟨_,rfl⟩;have hasd:w.ownsRow w0.heap.size 3 1 va an (al.map (Value.int .i64)):=by rw [han];exact h.aside
 obtain ⟨aa,ac,hva⟩:∃aa ac,va=.slice aa an ac:=Zj (Zu hasd);subst hva;have HAN:=Za han;rw [← han] at hfew;clear o h hK hr hm hL h5 hnb HAZ han hasd
 by_cases r0:root=0
 ·subst r0;go_enter Tryz.func26,Tryz.ntmps26
  go_wp2_with (first
   |((with_reducible refine Zo 3 ?_);refine Zd _ rfl _ _ rfl _ rfl ?_;intro w1 b3 hg3 hl3 B3 q1;have HQ1:=Za q1;have HB1:=Za (Kq.blk B3 (HO.out.new b3 hg3));have HO1:=Za (HO.out.rebase q1);have zk:=Zfa B3;have zh:=Zcn B3 HKL.out;obtain ⟨y0,y1,y2,y3⟩:=Zp HO1.out.blk.now;clear hg3 hl3 B3 q1))
  exact HPost.out _ _ _ _ _ _ (HN.out.grow HQ1.out) (fun _ h=>h.up)
 ·have HR0:Hid (root≠0):=r0;have r1:(root == 0)=false:=by simp [r0]
  by_cases n8:8<an
  ·have n81:(8:Int)<(an:Int):=by omega
   go_enter Tryz.func26,Tryz.ntmps26
   go_wp2_with (first
    |((with_reducible refine Zo 3 ?_);refine Zd _ rfl _ _ rfl _ rfl ?_;intro w1 b3 hg3 hl3 B3 q1;have HQ1:=Za q1;have HB1:=Za (Kq.blk B3 (HO.out.new b3 hg3));have HO1:=Za (HO.out.rebase q1);have zk:=Zfa B3;have zh:=Zcn B3 HKL.out;obtain ⟨y0,y1,y2,y3⟩:=Zp HO1.out.blk.now;clear hg3 hl3 B3 q1))
   exact HPost.out _ _ _ _ _ _ (HN.out.grow HQ1.out) (fun _ h=>h.up)
  ·have n81: ¬(8:Int)<(an:Int):=by omega
   go_enter Tryz.func26,Tryz.ntmps26
   go_wp2_with (first
    |((with_reducible refine Zo 3 ?_);refine Zd _ rfl _ _ rfl _ rfl ?_;intro w1 b3 hg3 hl3 B3 q1;have HQ1:=Za q1;have HB1:=Za (Kq.blk B3 (HO.out.new b3 hg3));have HO1:=Za (HO.out.rebase q1);have zk:=Zfa B3;have zh:=Zcn B3 HKL.out;obtain ⟨y0,y1,y2,y3⟩:=Zp HO1.out.blk.now;clear hg3 hl3 B3 q1))
   have HO2:=Za (HO1.out.rebase (below_drewN (Below.refl w1.heap.size w1) 1));have HSf:Hid (∀w',Blk w' gc 35 #[.pointer (some ⟨g,0,none⟩),.pointer (some ⟨q,0,none⟩),.int .i64 root,.slice aa an ac]→w'.frozen? ⟨gc,3,none⟩=false):=fun w' hb=>hb.frozen 3
   have HAS:Hid (w1.drew.ownsRow w0.heap.size 3 1 (.slice aa an ac) an (al.map (Value.int .i64))):=by
    have:=HO2.out.aside.now;rw [← HAN.out] at this;exact this
   have H9:Hid (an≤8):=by show an≤8;omega
   clear n8 hfew;refine Zy (S:=fun w'=>Blk w' gc 35 #[.pointer (some ⟨g,0,none⟩),.pointer (some ⟨q,0,none⟩),.int .i64 root,.slice aa an ac]) 13 (by kernel_rfl) (HO2.out.blk.now) (fun hHeld=>?_);refine tlp 0 (.pointer (some ⟨gc,0,none⟩)) hHeld ?_;simp only [zq];refine tlp 1 (.pointer (some ⟨gc,0,none⟩)) hHeld ?_;simp only [zq];refine tlp 2 (.pointer (some ⟨gc,0,none⟩)) hHeld ?_;simp only [zq];refine tlp 3 (.pointer (some ⟨gc,3,none⟩)) hHeld ?_;simp only [zq];refine tlg 4 (.slice aa an ac) rfl (Or.inl ⟨by rfl,fun w hS=>by (have q1:=(Zp hS).2.2.2;go_simp)⟩) hHeld ?_;simp only [zq];refine tlp 5 (.pointer (some ⟨gc,0,none⟩)) hHeld ?_;simp only [zq];refine tlp 6 (.pointer (some ⟨gc,0,none⟩)) hHeld ?_;simp only [zq];refine tlp 7 (.pointer (some ⟨gc,2,none⟩)) hHeld ?_;simp only [zq];refine tlg 8 (.int .i64 root) rfl (Or.inl ⟨by rfl,fun w hS=>by (have q1:=(Zp hS).2.2.1;go_simp)⟩) hHeld ?_;simp only [zq];refine Zap (i:=9) rfl (by kernel_rfl) (fun KQ hK=>?_);go_simp;have a4:=Zc w1.drew (.cells #[Value.int .i64 root] 3);refine hK.out _ _ (hHeld.grow a4) (fun hHeld=>?_);clear hK KQ;have HAS4:=Za (Zl HAS.out a4);refine Zap (i:=10) rfl (by kernel_rfl) (fun KQ hK=>?_);refine Zld _ rfl _ _ _ rfl 3 1 8 Tryz.underlying28 Zah (by omega) _ an (al.map (Value.int .i64)) rfl (Zu HAS4.out) w1.drew.heap.size [Value.int .i64 root] rfl (Blk.new _ _ _) rfl (by intro u hu;simp at hu;subst hu;rfl) (by have:=H9.out;simp only [maxLen];omega) (by have:=H9.out;omega) ?_;intro v5 w5 l5 g5' wh5';have g5:(w1.drew.alloc (.cells #[Value.int .i64 root] 3)).grownBy w5 (Value.slice aa an ac).ownBlock:=g5';have wh5:WhereL (w1.drew.alloc (.cells #[Value.int .i64 root] 3)) (Value.slice aa an ac) v5:=wh5';clear g5' wh5';have m5:Mod (Value.slice aa an ac).ownBlock.toList (w1.drew.alloc (.cells #[Value.int .i64 root] 3)) w5:=Mod.of_grown g5 (fun k hk=>by rw [hk];simp);have hb5:=hHeld.mod m5 (fun e=>Zm (Zu HAS4.out) hHeld Zyg (by simpa using e));obtain ⟨a5,c5,rfl⟩:=Zj l5;refine hK.out _ _ hb5 (fun hHeld=>?_);clear hK KQ;refine tlp 11 (.pointer (some ⟨gc,0,none⟩)) hHeld ?_;simp only [zq];refine tlp 12 (.pointer (some ⟨gc,3,none⟩)) hHeld ?_;simp only [zq];have hc1:=(Zp hHeld).2.2.2;have hc2:=HSf.out _ hHeld;refine Zam rfl (by kernel_rfl) (by kernel_rfl) (fun KQ hK=>?_);go_simp
   
   refine hK.out _ _ ?_;clear hK KQ;have HN6:Hid (Sn w0 (w5.setCell ⟨gc,3,none⟩ (.slice a5 (an+1) c5)) gc g gs q room cs fr root (.slice a5 (an+1) c5) (al++[root]) nb):=by
    have hN1:=HH0.out.grow (Zb HQ1.out (below_drewN (Below.refl w1.heap.size w1) 1));refine hN1.reside ((Mod.of_below a4 _).trans' m5) (fun k hk=>by simpa using hk) ?_ (fun k hk=>?_) ?_
    ·have hl:(al++[root]).length=an+1:=by rw [List.length_append,List.length_singleton,← HAN.out]
     rw [hl,List.map_append];refine Zvd l5 wh5 HAS4.out (Nat.le_trans HO2.out.lowSize a4.size)
    ·rcases wh5 with e | ⟨k',e,hk'⟩
     ·left;rw [← e];exact hk
     ·right;rw [e] at hk;injection hk with hk;subst hk;exact Nat.le_trans a4.size hk'
    ·rw [List.length_append,List.length_singleton,← HAN.out];have:=H9.out;omega
   generalize w5.setCell ⟨gc,3,none⟩ (.slice a5 (an+1) c5)=w6 at *;clear l5 g5 wh5 m5 hb5 hHeld hc1 hc2 a4 HAS4;obtain ⟨S6,o6⟩:=HN6.out.so;have HO6:=Za (o6.rebase (below_drewN (Below.refl w6.heap.size w6) 1));clear o6
   go_wp2_with fail
   refine wp_region_held_drew (S:=fun w'=>Blk w' gc 35 #[.pointer (some ⟨g,0,none⟩),.pointer (some ⟨q,0,none⟩),.int .i64 root,.slice a5 (an+1) c5]) (by kernel_rfl) (HO6.out.blk.now) (fun hHeld=>?_);refine tkp 0 (.pointer (some ⟨gc,0,none⟩)) hHeld ?_;simp only [zq];refine tkp 1 (.pointer (some ⟨gc,0,none⟩)) hHeld ?_;simp only [zq];refine tkp 2 (.pointer (some ⟨gc,0,none⟩)) hHeld ?_;simp only [zq];refine tkg 3 (.pointer (some ⟨g,0,none⟩)) rfl (Or.inl ⟨by rfl,fun w hS=>by (have q1:=(Zp hS).1;go_simp)⟩) hHeld ?_;simp only [zq];refine tkp 4 (.pointer (some ⟨gc,0,none⟩)) hHeld ?_;simp only [zq];refine tkp 5 (.pointer (some ⟨gc,0,none⟩)) hHeld ?_;simp only [zq];refine tkp 6 (.pointer (some ⟨gc,2,none⟩)) hHeld ?_;simp only [zq];refine tkg 7 (.int .i64 root) rfl (Or.inl ⟨by rfl,fun w hS=>by (have q1:=(Zp hS).2.2.1;go_simp)⟩) hHeld ?_;simp only [zq];refine tkp 9 (.pointer (some ⟨gc,0,none⟩)) hHeld ?_;simp only [zq];refine tkp 10 (.pointer (some ⟨gc,0,none⟩)) hHeld ?_;simp only [zq];refine tkp 11 (.pointer (some ⟨gc,1,none⟩)) hHeld ?_;simp only [zq];refine tkg 12 (.pointer (some ⟨q,0,none⟩)) rfl (Or.inl ⟨by rfl,fun w hS=>by (have q1:=(Zp hS).2.1;go_simp)⟩) hHeld ?_;simp only [zq];refine tkp 13 (.pointer (some ⟨gc,0,none⟩)) hHeld ?_;simp only [zq];refine tkp 14 (.pointer (some ⟨gc,0,none⟩)) hHeld ?_;simp only [zq];refine tkp 15 (.pointer (some ⟨gc,2,none⟩)) hHeld ?_;simp only [zq];refine tkg 16 (.int .i64 root) rfl (Or.inl ⟨by rfl,fun w hS=>by (have q1:=(Zp hS).2.2.1;go_simp)⟩) hHeld ?_;simp only [zq];refine wpAnyH_ready (rs:=[8]) (by kernel_rfl) (by simp) ?_;refine AllReadyH.cons rfl (fun KQ hK=>?_) AllReadyH.nil;go_simp;refine (Yhj HO6.out.p root).mono ?_;rintro e z1 ⟨e1,cs1,fr1,rfl,t1,o1⟩;refine hK.out _ _ (t1.kq HO6.out.blk) (fun hHeld=>?_);clear hK KQ;refine wpAnyH_ready (rs:=[17]) (by kernel_rfl) (by simp) ?_;refine AllReadyH.cons rfl (fun KQ hK=>?_) AllReadyH.nil;go_simp;refine t1.go.mono ?_;rintro e z2 ⟨rfl,p2⟩;refine hK.out _ _ (p2.kq HO6.out.blk) (fun hHeld=>?_);clear hK KQ;refine tkp 18 (.bool true) hHeld ?_;simp only [zq];refine tkp 19 (.bool true) hHeld ?_;simp only [zq];refine wpAnyH_done (by kernel_rfl) ?_ _;have HN7:=Za (HO6.out.next _ _ _ (nb+1) p2 (fun i=>by have:=o1.few i;have:=HO6.out.own i;omega));have HX1:=Za o1;clear t1 p2 o1 hHeld;go_wp2
   exact HPost.out _ _ _ _ _ _ HN7.out (fun _ h=>(Yfg h HX1.out HR0.out HCC.out).up)
theorem Ztx {P:Ending→World→Prop} (h:Sn w0 w gc g gs q room cs fr root va al nb) (h5:room≤5000) (hnb:nb≤1000) (hL:∀w',Kb w0 w'→Laid w') {K:Lq} {v:Value} {bs:Lq} {hh:Int} (hK:Key K) (hr:∀w',Kb w0 w'→Reads w' v bs) (hm:bs.length≤2000) (HPost:Hid (∀w' cs' fr' root' va' al',Sn w0 w' gc g gs q room cs' fr' root' va' al' (nb+1)→(∀k,Ex k cs root al→Ex (k+1) cs' root' al')→P (.returned (.bool true)) w')):Kc 26 #[.pointer (some ⟨gc,0,none⟩),.agg (apL 2 K v hh).toArray] w P:=by
 have u0:=(⟨h5,hnb,hL,hK,hr,hm⟩:_∧_∧_∧_∧_∧_);clear u0;have HKL:=Za hK.1;have HAZ:Hid ((Tryz.prog.info? 73).map (·.size)=some (apL 2 K v hh).toArray.toList.length):=by show _=_;rw [List.toList_toArray,Zbi _ _ _ _ HKL.out];exact Zby
 obtain ⟨S,o⟩:=h.so;have HO:=Za o;have HN:=Za (h.more (Nat.le_succ nb));have HH0:=Za h;have hfew:=h.few;obtain ⟨an,han⟩:∃n,n=al.length:=⟨_,rfl⟩;have hasd:w.ownsRow w0.heap.size 3 1 va an (al.map (Value.int .i64)):=by rw [han];exact h.aside
 obtain ⟨aa,ac,hva⟩:∃aa ac,va=.slice aa an ac:=Zj (Zu hasd);subst hva;have HAN:=Za han;rw [← han] at hfew;clear o h hK hr hm hL h5 hnb HAZ han hasd
 by_cases n0:an=0
 ·subst n0;go_enter Tryz.func26,Tryz.ntmps26
  go_wp2_with (first
   |((with_reducible refine Zo 3 ?_);refine Zd _ rfl _ _ rfl _ rfl ?_;intro w1 b3 hg3 hl3 B3 q1;have HQ1:=Za q1;have HB1:=Za (Kq.blk B3 (HO.out.new b3 hg3));have HO1:=Za (HO.out.rebase q1);have zk:=Zfa B3;have zh:=Zcn B3 HKL.out;obtain ⟨y0,y1,y2,y3⟩:=Zp HO1.out.blk.now;clear hg3 hl3 B3 q1))
  exact HPost.out _ _ _ _ _ _ (HN.out.grow HQ1.out) (fun _ h=>h.up)
 ·have n01: ¬(an:Int)=0:=by omega
  have n02:((an:Int) == 0)=false:=by simpa using n01
  have hp0:=hfew;go_enter Tryz.func26,Tryz.ntmps26
  go_wp2_with (first
   |((with_reducible refine Zo 3 ?_);refine Zd _ rfl _ _ rfl _ rfl ?_;intro w1 b3 hg3 hl3 B3 q1;have HQ1:=Za q1;have HB1:=Za (Kq.blk B3 (HO.out.new b3 hg3));have HO1:=Za (HO.out.rebase q1);have zk:=Zfa B3;have zh:=Zcn B3 HKL.out;obtain ⟨y0,y1,y2,y3⟩:=Zp HO1.out.blk.now;clear hg3 hl3 B3 q1))
  have HPK:Hid (∀w',Kc 22 #[.int .i64 hh,.int .i64 (an:Int)] w' fun e w''=>(∃p:Nat,p<an∧e=.returned (.int .i64 (p:Int)))∧w''=w'):=fun w'=>Yiw hh an w' (by omega) (by omega)
  refine wp_region_held_drew (S:=fun w'=>Kb w1 w') (by kernel_rfl) (below_drewN (Below.refl _ _) 1) (fun hHeld=>?_);refine tkp 0 (.pointer (some ⟨b3,34,none⟩)) hHeld ?_;simp only [zq];refine tkg 1 (.int .i64 hh) rfl (Or.inl ⟨by rfl,fun w hS=>by (have q1:=Zcn (HB1.out.now.grow hS) HKL.out;go_simp)⟩) hHeld ?_;simp only [zq];refine tkp 2 (.pointer (some ⟨gc,0,none⟩)) hHeld ?_;simp only [zq];refine tkp 3 (.pointer (some ⟨gc,0,none⟩)) hHeld ?_;simp only [zq];refine tkp 4 (.pointer (some ⟨gc,3,none⟩)) hHeld ?_;simp only [zq];refine tkg 5 (.slice aa an ac) rfl (Or.inl ⟨by rfl,fun w hS=>by (have q1:=(Zp (HO1.out.blk.now.grow hS)).2.2.2;go_simp)⟩) hHeld ?_;simp only [zq];refine tkp 6 (.int .i64 (an:Int)) hHeld ?_;simp only [zq];refine wpAnyH_ready (rs:=[7]) (by kernel_rfl) (by simp) ?_;refine AllReadyH.cons rfl (fun KQ hK=>?_) AllReadyH.nil;go_simp;refine (HPK.out _).mono ?_;rintro e z1 ⟨⟨p,hp,rfl⟩,hz⟩;rw [hz];refine hK.out _ _ (hHeld) (fun hHeld=>?_);clear hK KQ;refine tkp 8 (.int .i64 (p:Int)) hHeld ?_;simp only [zq];refine wpAnyH_done (by kernel_rfl) ?_ _;have HW2:=Za hHeld;clear hHeld hz HPK;generalize w1.drew=w2 at *;have HO2:=Za (HO1.out.rebase HW2.out);have HAS:Hid (w2.ownsRow w0.heap.size 3 1 (.slice aa an ac) an (al.map (Value.int .i64))):=by
   have:=HO2.out.aside.now;rw [← HAN.out] at this;exact this
  obtain ⟨ab,ac',e,hac⟩:=Zat (Zu HAS.out) (by omega);injection e with e1 _ e3;subst e1;subst e3;have hpl:p<al.length:=by rw [← HAN.out];exact hp
  obtain ⟨xh,hxh⟩:∃xh,xh=al.getD p 0:=⟨_,rfl⟩;have HAL:Hid (∀w':World,w'.ownsRow w0.heap.size 3 1 (.slice (some ⟨ab,0,none⟩) an ac) an (al.map (Value.int .i64))→∀j,j<al.length→w'.cell? ⟨ab,j,none⟩=some (.int .i64 (al.getD j 0))):=fun w' ho j hj=>by
   rw [Zay (Zu ho) j (by rw [HAN.out];omega),List.getElem?_map,List.getD_eq_getElem?_getD,List.getElem?_eq_getElem hj];rfl
  have hcell:w2.cell? ⟨ab,p,none⟩=some (.int .i64 xh):=by rw [hxh];exact HAL.out _ HAS.out p hpl
  obtain ⟨u0,u1,u2,u3⟩:=Zp HO2.out.blk.now;have i0:(0:Int)≤(p:Int):=by omega
  have i1:(p:Int)<(an:Int):=by omega
  have i2:(p:Int)+1≤(an:Int):=by omega
  have i3:(p:Int)≤(ac:Int):=by omega
  have i4:(p:Int)+1≤(ac:Int):=by omega
  have i5: ¬(ac:Int)<(an:Int):=by omega
  have i6:(an:Int)≤(ac:Int):=by omega
  have i7:(0:Int)≤(p:Int)+1:=by omega
  obtain ⟨ad,had,hadc⟩:∃ad:Addr,(if ac=p+1 then some (⟨ab,0,none⟩:Addr) else some ⟨ab,p+1,none⟩)=some ad∧∀j,p+1+j<an→ad.add j=⟨ab,p+1+j,none⟩:=by
   by_cases q:ac=p+1
   ·exact ⟨⟨ab,0,none⟩,by rw [if_pos q],fun j hj=>by omega⟩
   ·exact ⟨⟨ab,p+1,none⟩,by rw [if_neg q],fun j _=>by rw [Addr.add_lit]⟩
  have HADC:=Za hadc;clear hadc;have hwp:wrap64 ((p:Int)+1)=(p:Int)+1:=Go.IntWalk.wrap64_in _ (by omega);have hwi:IntKind.i64.wrap ((p:Int)+1)=(p:Int)+1:=(Go.IntWalk.i64_left _).trans hwp;have HPF:=Za (⟨hp,hfew,hpl,hac⟩:_∧_∧_∧_);have HXH:=Za hxh;have hpa:p<al.length:=by rw [← HAN.out];exact hp
  have HPA:=Za hpa;have HXE:Hid (xh=al[p]):=by show _=_;rw [hxh,List.getD_eq_getElem?_getD,List.getElem?_eq_getElem hpa];rfl
  clear hpa;have HSRC1:Hid (∀w':World,w'.ownsRow w0.heap.size 3 1 (.slice (some ⟨ab,0,none⟩) an ac) an (al.map (Value.int .i64))→∀j u,((al.take p).map (Value.int .i64))[j]?=some u→w'.cell? ((⟨ab,0,none⟩:Addr).add j)=some u):=fun w' ho j u hu=>by
   have hj:j<p∧j<al.length:=by
    have:=(List.getElem?_eq_some_iff.1 hu).1;rw [List.length_map,List.length_take] at this;omega
   rw [Addr.add_lit,Nat.zero_add,HAL.out _ ho j hj.2,← hu,List.getElem?_map,List.getElem?_take_of_lt hj.1,List.getD_eq_getElem?_getD,List.getElem?_eq_getElem hj.2];rfl
  have HSRC2:Hid (∀w':World,w'.ownsRow w0.heap.size 3 1 (.slice (some ⟨ab,0,none⟩) an ac) an (al.map (Value.int .i64))→∀j u,((al.drop (p+1)).map (Value.int .i64))[j]?=some u→w'.cell? (ad.add j)=some u):=fun w' ho j u hu=>by
   have hj:p+1+j<al.length:=by
    have:=(List.getElem?_eq_some_iff.1 hu).1;rw [List.length_map,List.length_drop] at this;omega
   rw [HADC.out j (by rw [HAN.out];exact hj),HAL.out _ ho _ hj,← hu,List.getElem?_map,List.getElem?_drop,List.getD_eq_getElem?_getD,List.getElem?_eq_getElem hj];rfl
  clear y0 y1 y2 y3 n0 hp hpl hac hxh hfew hp0
  go_wp2_with fail
  have HO3:=Za (HO2.out.rebase (below_drewN (Below.refl w2.heap.size w2) 1));have HAS3:=Za (Zl HAS.out (below_drewN (Below.refl w2.heap.size w2) 1));have HSf:Hid (∀w',Blk w' gc 35 #[.pointer (some ⟨g,0,none⟩),.pointer (some ⟨q,0,none⟩),.int .i64 root,.slice (some ⟨ab,0,none⟩) an ac]→w'.frozen? ⟨gc,3,none⟩=false):=fun w' hb=>hb.frozen 3
  refine Zy (S:=fun w'=>Blk w' gc 35 #[.pointer (some ⟨g,0,none⟩),.pointer (some ⟨q,0,none⟩),.int .i64 root,.slice (some ⟨ab,0,none⟩) an ac]) 19 (by kernel_rfl) (HO3.out.blk.now) (fun hHeld=>?_);refine tlp 0 (.pointer (some ⟨gc,0,none⟩)) hHeld ?_;simp only [zq];refine tlp 2 (.pointer (some ⟨gc,0,none⟩)) hHeld ?_;simp only [zq];refine tlp 3 (.pointer (some ⟨gc,0,none⟩)) hHeld ?_;simp only [zq];refine tlp 4 (.pointer (some ⟨gc,3,none⟩)) hHeld ?_;simp only [zq];refine tlg 5 (.slice (some ⟨ab,0,none⟩) an ac) rfl (Or.inl ⟨by rfl,fun w hS=>by (have q1:=(Zp hS).2.2.2;go_simp)⟩) hHeld ?_;simp only [zq];refine tlp 6 (.int .i64 (p:Int)) hHeld ?_;simp only [zq];refine tlp 7 (.slice (some ⟨ab,0,none⟩) p ac) hHeld ?_;simp only [zq];refine tlp 9 (.pointer (some ⟨gc,0,none⟩)) hHeld ?_;simp only [zq];refine tlp 10 (.pointer (some ⟨gc,0,none⟩)) hHeld ?_;simp only [zq];refine tlp 11 (.pointer (some ⟨gc,3,none⟩)) hHeld ?_;simp only [zq];refine tlg 12 (.slice (some ⟨ab,0,none⟩) an ac) rfl (Or.inl ⟨by rfl,fun w hS=>by (have q1:=(Zp hS).2.2.2;go_simp)⟩) hHeld ?_;simp only [zq];refine tlp 13 (.int .i64 (p:Int)) hHeld ?_;simp only [zq];refine tlp 14 (.int .i64 ((p:Int)+1)) hHeld ?_;simp only [zq];refine tlp 15 (.slice (some ad) (an-(p+1)) (ac-(p+1))) hHeld ?_;simp only [zq];refine Zap (i:=1) rfl (by kernel_rfl) (fun KQ hK=>?_);refine Ztg _ rfl rfl (fun o4 b4=>?_);refine hK.out _ _ (hHeld.grow b4) (fun hHeld=>?_);clear hK KQ;have HO4:=Za o4;have HB4:=Za b4;have HAS4:=Za (Zl HAS3.out b4);clear o4 b4;refine Zap (i:=8) rfl (by kernel_rfl) (fun KQ hK=>?_);refine Zlc _ rfl _ _ _ rfl w2.drew.heap.size 3 1 8 Tryz.underlying28 Zah (by omega) _ 0 [] rfl HO4.out ⟨ab,0,none⟩ p ac ((al.take p).map (Value.int .i64)) rfl (by rw [List.length_map,List.length_take];have:=HPF.out.2.2.1;omega) (HSRC1.out _ HAS4.out) (by intro u hu;obtain ⟨_,_,rfl⟩:=List.mem_map.1 hu;rfl) (by have:=HPF.out;simp only [maxLen];omega) (by have:=HPF.out;omega) HB4.out.size ?_;intro v5 w5 o5 g5';have b5:=Zaf HB4.out HO4.out (Nat.le_refl _) g5';clear g5';have HB5:=Za b5;have HO5:=Za o5;have hb5:Blk w5 gc 35 #[.pointer (some ⟨g,0,none⟩),.pointer (some ⟨q,0,none⟩),.int .i64 root,.slice (some ⟨ab,0,none⟩) an ac]:=HO3.out.blk.now.grow b5;refine hK.out _ _ hb5 (fun hHeld=>?_);clear hK KQ hb5 o5 b5;have HAS5:=Za (Zl HAS3.out HB5.out);refine Zap (i:=16) rfl (by kernel_rfl) (fun KQ hK=>?_);refine Zlc _ rfl _ _ _ rfl w2.drew.heap.size 3 1 8 Tryz.underlying28 Zah (by omega) _ (0+p) _ rfl HO5.out ad (an-(p+1)) (ac-(p+1)) ((al.drop (p+1)).map (Value.int .i64)) rfl (by rw [List.length_map,List.length_drop,HAN.out];omega) (HSRC2.out _ HAS5.out) (by intro u hu;obtain ⟨_,_,rfl⟩:=List.mem_map.1 hu;rfl) (by have:=HPF.out;simp only [maxLen];omega) (by have:=HPF.out;omega) HB5.out.size ?_;intro v6 w6 o6' g6';have b6:=Zaf HB5.out HO5.out (Nat.le_refl _) g6';clear g6';obtain ⟨n6,hn6⟩:∃n6,0+p+(an-(p+1))=n6:=⟨_,rfl⟩;rw [hn6] at o6';have HNN:=Za hn6;clear hn6;obtain ⟨a6,c6,hv6⟩:=Zj (Zu o6');subst hv6;have HB6:=Za b6;have HO6':=Za o6';have hb6:Blk w6 gc 35 #[.pointer (some ⟨g,0,none⟩),.pointer (some ⟨q,0,none⟩),.int .i64 root,.slice (some ⟨ab,0,none⟩) an ac]:=HO3.out.blk.now.grow b6;refine hK.out _ _ hb6 (fun hHeld=>?_);clear hK KQ hb6 o6' b6;refine tlp 17 (.pointer (some ⟨gc,0,none⟩)) hHeld ?_;simp only [zq];refine tlp 18 (.pointer (some ⟨gc,3,none⟩)) hHeld ?_;simp only [zq];have hc1:=(Zp hHeld).2.2.2;have hc2:=HSf.out _ hHeld;refine Zam rfl (by kernel_rfl) (by kernel_rfl) (fun KQ hK=>?_);go_simp
  
  refine hK.out _ _ ?_;clear hK KQ;have HN6:Hid (Sn w0 (w6.setCell ⟨gc,3,none⟩ (.slice a6 n6 c6)) gc g gs q room cs fr root (.slice a6 n6 c6) (al.take p++al.drop (p+1)) nb):=by
   have hN1:=HH0.out.grow (Zb HQ1.out (Zb HW2.out (below_drewN (Below.refl w2.heap.size w2) 1)));have hl:(al.take p++al.drop (p+1)).length=n6:=by
    rw [← HNN.out,List.length_append,List.length_take,List.length_drop,HAN.out];have:=HPF.out.2.2.1;omega
   refine hN1.reside (A:=[]) (Mod.of_below HB6.out []) (fun k hk=>by cases hk) ?_ (fun k hk=>.inr (HO6'.out.lt k hk).1) ?_
   ·rw [hl,List.map_append];exact Zaj HO6'.out HO3.out.lowSize
   ·rw [hl,← HNN.out];have:=HPF.out;omega
  generalize w6.setCell ⟨gc,3,none⟩ (.slice a6 n6 c6)=w7 at *;clear hHeld hc1 hc2 HB4 HB5 HB6 HO4 HO5 HO6' HAS3 HAS4 HAS5 HAS HAL HSRC1 HSRC2 HSf had u0 u1 u2 u3 hcell;obtain ⟨S7,o7⟩:=HN6.out.so;obtain ⟨u0,u1,u2,u3⟩:=Zp o7.blk.now;have HO7:=Za o7;clear o7
  go_wp2_with (first
   |(go_at_call 55;refine (Yhs HO7.out.p xh).mono ?_;rintro e w8 ⟨n8,e8,cs8,fr8,rfl,t8,o8⟩;have HT8:=Za t8;have HOO:=Za o8;obtain ⟨x0,x1,x2,x3⟩:=Zp (t8.kq HO7.out.blk);clear t8 o8)
   |(go_at_call 56;refine HT8.out.go.mono ?_;rintro e w9 ⟨rfl,p9⟩;have HP9:=Za p9;clear p9))
  exact HPost.out _ _ _ _ _ _ (HO7.out.next _ _ _ (nb+1) HP9.out (fun i=>by have:=HOO.out.few i;have:=HO7.out.own i;omega)) (fun _ h=>(Yfh h HPA.out (by have q:=HOO.out;rw [HXE.out] at q;exact q)).up)
def DoPost9x (w0:World) (gc g gs q room nb:Nat) (cs:Lz) (root:Int) (al:Lq) (e:Ending) (w':World):Prop:=e=.returned (.bool true)∧∃cs' fr' root' va' al',Sn w0 w' gc g gs q room cs' fr' root' va' al' nb∧(∀k,Ex k cs root al→Ex (k+1) cs' root' al')
def DoPost9 (w0:World) (gc g gs q room nb:Nat) (e:Ending) (w':World):Prop:=e=.returned (.bool true)∧∃cs fr root va al,Sn w0 w' gc g gs q room cs fr root va al nb
theorem Ygj (h:Sn w0 w gc g gs q room cs fr root va al nb) (h5:room≤5000) (hnb:nb≤1000) (hL:∀w',Kb w0 w'→Laid w') (a:Ap) (hK:Key a.K) (hr:∀w',Kb w0 w'→Reads w' a.v a.bs) (hm:a.bs.length≤2000):Kc 26 #[.pointer (some ⟨gc,0,none⟩),.agg (apC a).toArray] w (DoPost9x w0 gc g gs q room (nb+1) cs root al):=by
 have HPost:Hid (∀w' cs' fr' root' va' al',Sn w0 w' gc g gs q room cs' fr' root' va' al' (nb+1)→(∀k,Ex k cs root al→Ex (k+1) cs' root' al')→DoPost9x w0 gc g gs q room (nb+1) cs root al (.returned (.bool true)) w'):=fun w' cs' fr' root' va' al' k z=>⟨rfl,cs',fr',root',va',al',k,z⟩
 obtain ⟨k,K,v,bs,hh⟩:=a;have hsh:apC ⟨k,K,v,bs,hh⟩=apL k K v hh:=rfl;rw [hsh]
 by_cases k0:k=0
 ·subst k0;exact Zyw h h5 hnb hL hK hr hm HPost
 ·by_cases k1:k=1
  ·subst k1;exact Ztw h h5 hnb hL hK hr hm HPost
  ·by_cases k2:k=2
   ·subst k2;exact Ztx h h5 hnb hL hK hr hm HPost
   ·by_cases k4:k=4
    ·subst k4;exact Zrc h h5 hnb hL hK hr hm HPost
    ·by_cases k5:k=5
     ·subst k5;exact Ztu h h5 hnb hL hK hr hm HPost
     ·by_cases k6:k=6
      ·subst k6;exact Zrb h h5 hnb hL hK hr hm HPost
      ·exact Ztv h h5 hnb hL hK hr hm HPost (by simp [k0]) (by simp [k1]) (by simp [k2]) (by simp [k4]) (by simp [k5]) (by simp [k6])
theorem Ygy (h:Hs w [] w1 g gs room [] []) (hq:w1.heap.size≤q) (d:Rs w2 q (.slice none 0 0) (.slice none 0 0) room [] []) (hb:Kb w1 w2):P7 w [] w2 g gs q room [] []:=by
 obtain ⟨⟨vp,vf,s,m,n⟩,W⟩:=h;refine ⟨[],⟨vp,vf,_,_,s.grow hb,d,fun k hk hk2=>?_,m.trans' (Mod.of_below hb []),n,fun k hk=>.inr ?_⟩,Rel7.new,W⟩
 ·have:=s.lts k hk;rcases Zq.1 hk2 with rfl | h | h | ⟨_,h,_⟩
  ·omega
  ·cases h
  ·cases h
  ·cases h
 ·rcases Zq.1 hk with rfl | h | h | ⟨_,h,_⟩
  ·exact Nat.le_trans m.size hq
  ·cases h
  ·cases h
  ·cases h
theorem Zxg (x y:Option Addr):Tryz.prog.built 35 [(0,.pointer x),(1,.pointer y)]=some #[.pointer x,.pointer y,.int .i64 0,.slice none 0 0]:=by kernel_rfl
theorem Ygg (p:P7 w [] w2 g gs q room [] []) (hg:w2.heap.size≤gc) (hb:Kb w2 w3) (b:Blk w3 gc 35 #[.pointer (some ⟨g,0,none⟩),.pointer (some ⟨q,0,none⟩),.int .i64 0,.slice none 0 0]):Sn w w3 gc g gs q room [] [] 0 (.slice none 0 0) [] 0:=by
 have hlow:=p.mod.below0;obtain ⟨S,p2,n,l⟩:=p.from2;refine ⟨⟨S,p2.rebase hb,fun k hk=>?_,fun k hk=>Nat.lt_of_lt_of_le (l k hk) hb.size,fun e=>by have:=l _ e;omega,fun k hk=>by cases hk⟩,Zb hlow hb,b,World.ownsRow_nil _ _ _ _,Nat.le_trans hlow.size hg,by simp,fun i=>?_⟩
 ·rcases n k hk with e | e
  ·cases e
  ·exact e
 ·show 0-_≤0;omega
def NwPost (w:World) (room:Nat) (e:Ending) (w':World):Prop:=∃gc g gs q,e=.returned (.tuple #[.pointer (some ⟨gc,0,none⟩),.bool true])∧Sn w w' gc g gs q room [] [] 0 (.slice none 0 0) [] 0
theorem Ygi (room:Nat) (w:World) (h1:1≤room) (h2:room≤5000):Kc 25 #[.int .i64 (room:Int)] w (NwPost w room):=by
 have HNW:=Za (Yck room w h1 (by omega));have HNR:Hid (∀w',Kc 51 #[.int .i64 (room:Int)] w' fun e w''=>∃g,e=.returned (.tuple #[.pointer (some ⟨g,0,none⟩),.int .i64 0])∧w'.heap.size≤g∧Rs w'' g (.slice none 0 0) (.slice none 0 0) room [] []∧Below w'.heap.size w' w''):=fun w'=>Zzg room w' h1 (by omega)
 have HPost:Hid (∀gc g gs q w',Sn w w' gc g gs q room [] [] 0 (.slice none 0 0) [] 0→NwPost w room (.returned (.tuple #[.pointer (some ⟨gc,0,none⟩),.bool true])) w'):=fun gc g gs q w' s=>⟨gc,g,gs,q,rfl,s⟩
 generalize NwPost w room=P at HPost ⊢;clear h1 h2;go_enter Tryz.func25,Tryz.ntmps25
 go_wp2_with (first
  |(go_at_call 37;refine HNW.out.mono ?_;rintro e w1 ⟨g,gs,rfl,h1⟩;have HH1:=Za h1;clear h1)
  |(go_at_call 51;refine (HNR.out _).mono ?_;rintro e w2 ⟨q,rfl,h2,d2,b2⟩;have HP2:=Za (Ygy HH1.out h2 d2 b2);clear h2 d2 b2)
  |((with_reducible refine Zgu 20 ?_);refine Zas _ rfl _ _ rfl _ (by rw [List.map_toArray];exact Zxg _ _) ?_)
  |((with_reducible refine Zo 21 ?_);refine Zd _ rfl _ _ rfl _ rfl ?_;intro w3 gc hg3 hl3 B3 q3;have HN3:=Za (Ygg HP2.out hg3 q3 B3);clear hg3 hl3 B3 q3))
 exact HPost.out _ _ _ _ _ HN3.out
def LgOk (room:Int) (qs:List Ap):Prop:=1≤room∧room≤5000∧qs.length≤16∧∀i,i<qs.length→(qs.getD i default).bs.length≤2000
def LgPost (b:Bool) (w:World) (e:Ending) (w':World):Prop:=e=.returned (.bool b)∧Kb w w'
theorem Yhc (room:Int) (v:Value) (qs:List Ap) (w:World) (hv:ApAt w v qs) (lb:Bool) (hlb:lb=false↔LgOk room qs):Kc 6 #[.int .i64 room,v] w (LgPost lb w):=by
 obtain ⟨a,c,rfl,hcell,hall⟩:=hv;have HP1:Hid (¬LgOk room qs→∀w',Kb w w'→LgPost lb w (.returned (.bool true)) w'):=fun hn w' hb=>⟨by
  cases lb with
  | true=>rfl
  | false=>exact absurd (hlb.1 rfl) hn,hb⟩
 obtain ⟨N,hN⟩:∃N,N=qs.length:=⟨_,rfl⟩;have HP0:Hid (1≤room→room≤5000→N≤16→(∀i,i<N→(qs.getD i default).bs.length≤2000)→∀w',Kb w w'→LgPost lb w (.returned (.bool false)) w'):=fun h1 h2 h3 h4 w' hb=>⟨by rw [hlb.2 ⟨h1,h2,by rw [← hN];exact h3,fun i hi=>h4 i (by rw [hN];exact hi)⟩],hb⟩
 have HNL:Hid (N=qs.length):=hN;rw [← hN];have HCE:Hid (∀i,i<N→∃b off va vc,a=some ⟨b,off,none⟩∧∀w',Kb w w'→w'.cell? ⟨b,off+i * 35+33,none⟩=some (.slice va (qs.getD i default).bs.length vc)):=fun i hi=>by
  obtain ⟨b,off,e1,hrg⟩:=hcell (by rw [← hN];omega);obtain ⟨q1,q2,_⟩:=hall i (by rw [← hN];exact hi);obtain ⟨va,vc,e2,_⟩:=q2;refine ⟨b,off,va,vc,e1,fun w' hb=>Zx hb ?_⟩;refine hrg i (by rw [← hN];exact hi) 33 _ ?_;rw [← e2];exact (Zok q1.1).1
 generalize LgPost lb w=P at HP1 HP0 ⊢;clear hcell hall hN hlb
 by_cases r1:room<1
 ·have HP2:=Za (HP1.out (fun q=>by have:=q.1;omega));go_enter Tryz.func6,Tryz.ntmps6
  go_wp2
  exact HP2.out _ (Below.refl _ _)
 ·by_cases r2:5000<room
  ·have HP2:=Za (HP1.out (fun q=>by have:=q.2.1;omega));go_enter Tryz.func6,Tryz.ntmps6
   go_wp2
   exact HP2.out _ (Below.refl _ _)
  ·by_cases r3:16<N
   ·have r31:(16:Int)<(N:Int):=by omega
    have HP2:=Za (HP1.out (fun q=>by have:=q.2.2.1;rw [← HNL.out] at this;omega));go_enter Tryz.func6,Tryz.ntmps6
    go_wp2
    exact HP2.out _ (Below.refl _ _)
   ·have r31: ¬(16:Int)<(N:Int):=by omega
    have hN16:N≤16:=by omega
    have HRR:Hid (1≤room∧room≤5000):=by show _∧_;omega
    go_enter Tryz.func6,Tryz.ntmps6
    go_wp2_with fail
    go_loopw [5] (fun iv wr=>∃(k:Nat),k≤N∧iv=.int .i64 (k:Int)∧Hid (∀i,i<k→(qs.getD i default).bs.length≤2000)∧Hid (Kb w wr)) (fun iv _=>N-(intOf iv).toNat)
    case atStart=>exact ⟨0,by omega,rfl,fun i hi=>absurd hi (by omega),Below.refl _ _⟩
    case round=>
     obtain ⟨k,hk,rfl,hA,hB⟩:=hrel
     by_cases hlt:k<N
     ·obtain ⟨b,off,va,vc,rfl,hcv0⟩:=HCE.out k hlt;have hcv:=hcv0 _ hB.out;have HVN:Hid ((qs.getD k default).bs.length=(qs.getD k default).bs.length):=rfl;obtain ⟨vn,hvn⟩:∃vn,vn=(qs.getD k default).bs.length:=⟨_,rfl⟩;rw [← hvn] at hcv;have HVE:=Za hvn;have k0:(0:Int)≤(k:Int):=by omega
      have k1:(k:Int)<(N:Int):=by omega
      have hwk:wrap64 ((k:Int)+1)=((k+1:Nat):Int):=by rw [Go.IntWalk.wrap64_in _ (by omega)];rfl
      clear hcv0 hvn HVN
      by_cases hv2:2000<vn
      ·have j1:(2000:Int)<(vn:Int):=by omega
       have HP2:=Za (HP1.out (fun q=>by have:=q.2.2.2 k (by rw [← HNL.out];exact hlt);rw [← HVE.out] at this;omega));go_wp2
       exact HP2.out _ hB.out
      ·have j1: ¬(2000:Int)<(vn:Int):=by omega
       go_wp2_with fail
       refine ⟨⟨k+1,by omega,by go_num,fun i hi=>?_,hB⟩,by simp [intOf];omega⟩
       by_cases e:i<k
       ·exact hA.out i e
       ·obtain rfl:i=k:=by omega
        rw [← HVE.out];omega
     ·obtain rfl:k=N:=by omega
      have nlt: ¬(k:Int)<(k:Int):=by omega
      have HPE:=Za (HP0.out HRR.out.1 HRR.out.2 hN16 hA.out _ hB.out)
      go_wp2_with fail
      exact HPE.out
def PlPost9x (w:World) (room:Nat) (n:Nat) (e:Ending) (w':World):Prop:=∃gc g gs q cs fr root va al,e=.returned (.tuple #[.pointer (some ⟨gc,0,none⟩),.bool true])∧Sn w w' gc g gs q room cs fr root va al n∧Ex n cs root al
def PlPost9 (w:World) (room:Nat) (n:Nat) (e:Ending) (w':World):Prop:=∃gc g gs q cs fr root va al,e=.returned (.tuple #[.pointer (some ⟨gc,0,none⟩),.bool true])∧Sn w w' gc g gs q room cs fr root va al n
theorem Ygx (room:Nat) (v:Value) (qs:List Ap) (w:World) (hv:ApAt w v qs) (hL:∀w',Kb w w'→Laid w') (hg:LgOk (room:Int) qs):Kc 7 #[.int .i64 (room:Int),v] w (PlPost9x w room qs.length):=by
 obtain ⟨a,c,rfl,hcell,hall⟩:=hv;obtain ⟨g1,g2,g3,g4⟩:=hg;have HNW:=Za (Ygi room w (by omega) (by omega));obtain ⟨N,hN⟩:∃N,N=qs.length:=⟨_,rfl⟩;rw [← hN] at g3 g4 hcell hall;have HPost:Hid (∀gc g gs q cs fr root va al w',Sn w w' gc g gs q room cs fr root va al N→Ex N cs root al→PlPost9x w room qs.length (.returned (.tuple #[.pointer (some ⟨gc,0,none⟩),.bool true])) w'):=fun gc g gs q cs fr root va al w' s z=>⟨gc,g,gs,q,cs,fr,root,va,al,rfl,by rw [← hN];exact s,by rw [← hN];exact z⟩
 rw [← hN];rw [← hN] at HPost;have HCE:=Za hcell;have HAL:=Za hall;have HG4:=Za g4;have HLa:=Za hL;have HRM:Hid (room≤5000):=by show _≤_;omega
 generalize PlPost9x w room N=P at HPost ⊢;clear hcell hall hN hL g1 g2 g4;go_enter Tryz.func7,Tryz.ntmps7
 go_wp2_with (first
  |(go_at_call 25;refine HNW.out.mono ?_;rintro e w1 ⟨gc,g,gs,q,rfl,s1⟩;have HS1:=Za s1;clear s1))
 clear HNW
 go_loopw [7,8] (fun bv iv wr=>∃(k:Nat) (cs:Lz) (fr:List Nat) (root:Int) (va:Value) (al:Lq),k≤N∧bv=.bool true∧iv=.int .i64 (k:Int)∧Hid (Sn w wr gc g gs q room cs fr root va al k)∧Hid (Ex k cs root al)) (fun _ iv _=>N-(intOf iv).toNat)
 case atStart=>exact ⟨0,[],[],0,_,[],by omega,rfl,rfl,HS1,Yhr⟩
 case round=>
  clear HS1;obtain ⟨k,cs,fr,root,va,al,hk,rfl,rfl,hS,hX⟩:=hrel
  by_cases hlt:k<N
  ·obtain ⟨b,off,rfl,hrg⟩:=HCE.out (by omega);have hlow:=hS.out.low;have HRG:Hid (wr.rangeAt b (off+k * 35) (apC (qs.getD k default))):=fun j u hu=>Zx hlow (hrg k hlt j u hu)
   obtain ⟨q1,q2,q3⟩:=HAL.out k hlt;have HDO:=Za (Ygj hS.out HRM.out (by omega) HLa.out (qs.getD k default) q1 (fun w' hb=>q2.grow hb) (HG4.out k hlt));have HSZ:Hid ((Tryz.prog.info? 73).map (·.size)=some (apC (qs.getD k default)).length):=by
    show _=_;rw [apC,Zbi _ _ _ _ q1.1];exact Zby
   generalize apC (qs.getD k default)=A at HRG HDO HSZ;have k0:(0:Int)≤(k:Int):=by omega
   have k1:(k:Int)<(N:Int):=by omega
   have hwk:wrap64 ((k:Int)+1)=((k+1:Nat):Int):=by rw [Go.IntWalk.wrap64_in _ (by omega)];rfl
   clear hrg q1 q2 q3 hlow
   go_wp2_with (first
    |((with_reducible refine Zk 27 26 ?_);refine wpList_load_mid rfl _ _ rfl b (off+k * 35) rfl A _ HRG.out Tryz.underlying73 rfl HSZ.out ?_)
    |(go_at_call 26;refine HDO.out.mono ?_;rintro e w3 ⟨rfl,cs3,fr3,root3,va3,al3,h3,z3⟩;have HH3:=Za h3;have HX3:=Za (z3 _ hX.out);clear h3 z3))
   exact ⟨⟨k+1,cs3,fr3,root3,va3,al3,by omega,rfl,by go_num,HH3,HX3⟩,by simp [intOf];omega⟩
  ·obtain rfl:k=N:=by omega
   have nlt: ¬(k:Int)<(k:Int):=by omega
   have HPE:=Za (HPost.out _ _ _ _ _ _ _ _ _ _ hS.out hX.out)
   go_wp2_with fail
   exact HPE.out
theorem Yiv (room:Nat) (v:Value) (qs:List Ap) (w:World) (hv:ApAt w v qs) (hL:∀w',Kb w w'→Laid w') (hg:LgOk (room:Int) qs):Kc 7 #[.int .i64 (room:Int),v] w (PlPost9 w room qs.length):=(Ygx room v qs w hv hL hg).mono fun _ _ ⟨gc,g,gs,q,cs,fr,root,va,al,e,s,_⟩=>⟨gc,g,gs,q,cs,fr,root,va,al,e,s⟩
end Go.Proofs.YtlclabbnpjobgaaGreatDoor
