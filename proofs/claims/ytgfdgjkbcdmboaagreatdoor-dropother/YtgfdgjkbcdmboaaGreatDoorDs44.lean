/- Scene.Do: a call of a scene, kind by kind. -/
import Derived.Test.YtgfdgjkbcdmboaaGreatDoorDs43
namespace Go.Proofs.YtgfdgjkbcdmboaaGreatDoor
variable {P:Ending→World→Prop}
variable {S fr:List Nat}
variable {al:Lq}
variable {base g gc gs k n nb q room:Nat}
variable {cs:Lz}
variable {root:Int}
variable {v v' va:Value}
variable {w w' w0 w1 w2:World}
variable {xs:List Value}
set_option maxHeartbeats 8000000
set_option maxRecDepth 20000
open Go.RowKit
theorem Zcc:(Tryz.prog.info? 74).map (·.size)=some 35:=by kernel_rfl
theorem Ybc (h:Sn w0 w gc g gs q room cs fr root va al nb) (h5:room≤5000) (hnb:nb≤1000) (hL:∀w',Kb w0 w'→Laid w') {K:Lq} {v:Value} {bs:Lq} {hh:Int} (hK:Key K) (hr:∀w',Kb w0 w'→Reads w' v bs) (hm:bs.length≤2000) (HPost:Hid (∀w' cs' fr' root' va' al',Sn w0 w' gc g gs q room cs' fr' root' va' al' (nb+1)→(∀k,Ex k cs root al→Ex (k+1) cs' root' al')→P (.returned (.bool true)) w')):Kc 59 #[.pointer (some ⟨gc,0,none⟩),.agg (apL 0 K v hh).toArray] w P:=by
 have u0:=(⟨h5,hnb,hL,hK,hr,hm⟩:_∧_∧_∧_∧_∧_);clear u0;have HKL:=Za hK.1;have HAZ:Hid ((Tryz.prog.info? 74).map (·.size)=some (apL 0 K v hh).toArray.toList.length):=by show _=_;rw [List.toList_toArray,Zbk _ _ _ _ HKL.out];exact Zcc
 obtain ⟨S,o⟩:=h.so;have HO:=Za o;have HPU:Hid (∀w',Kb w w'→Kc 117 #[.pointer (some ⟨gc,0,none⟩),.int .i64 root,.agg (apL 0 K v hh).toArray] w' (ScPut w' S g gs q room cs root)):=fun w' hb=>Yik (HO.out.rebase hb) h5 hnb hL root ⟨0,K,v,bs,hh⟩ hK hr hm
 clear o h hK hr hm hL h5 hnb;go_enter Tryz.func59,Tryz.ntmps59
 go_wp2_with (first
  |((with_reducible refine Zl 3 ?_);refine Zc _ rfl _ _ rfl _ rfl ?_;intro w1 b3 hg3 hl3 B3 q1;have HQ1:=Za q1;have HB1:=Za (Kq.blk B3 (HO.out.new b3 hg3));have HO1:=Za (HO.out.rebase q1);have zk:=Zeh B3;have zh:=Zdh B3 HKL.out;obtain ⟨y0,y1,y2,y3⟩:=Zm HO1.out.blk.now;clear hg3 hl3 B3 q1))
 have HO2:=Za (HO1.out.rebase (below_drewN (Below.refl w1.heap.size w1) 1));have HB2:=Za (HB1.out.grow (below_drewN (Below.refl w1.heap.size w1) 1));refine wp_region_held_drew (S:=fun w'=>Blk w' gc 32 #[.pointer (some ⟨g,0,none⟩),.pointer (some ⟨q,0,none⟩),.int .i64 root,va]∧Blk w' b3 74 (apL 0 K v hh).toArray) (by kernel_rfl) (⟨HO2.out.blk.now,HB2.out.now⟩) (fun hHeld=>?_);refine tkp 0 (.pointer (some ⟨gc,0,none⟩)) hHeld ?_;simp only [zq];refine tkp 1 (.pointer (some ⟨gc,0,none⟩)) hHeld ?_;simp only [zq];refine tkp 2 (.pointer (some ⟨gc,0,none⟩)) hHeld ?_;simp only [zq];refine tkp 3 (.pointer (some ⟨gc,2,none⟩)) hHeld ?_;simp only [zq];refine tkg 4 (.int .i64 root) rfl (Or.inl ⟨by rfl,fun w hS=>by (have q1:=(Zm hS.1).2.2.1;go_simp)⟩) hHeld ?_;simp only [zq];refine tkg 5 (.agg (apL 0 K v hh).toArray) rfl (yieldsIf_load_mid rfl 74 (.tmp 3) rfl b3 0 rfl (apL 0 K v hh).toArray.toList _ (fun w hS=>(hS.2).range) Tryz.underlying74 rfl HAZ.out) hHeld ?_;simp only [zq];refine wpAnyH_ready (rs:=[6]) (by kernel_rfl) (by simp) ?_;refine AllReadyH.cons rfl (fun KQ hK=>?_) AllReadyH.nil;go_simp;refine (HPU.out _ (Zb HQ1.out (below_drewN (Below.refl w1.heap.size w1) 1))).mono ?_;rintro e w3 ⟨y3',e3,cs3,fr3,rfl,p3,o3⟩;refine hK.out _ _ (⟨HO2.out.blk _ p3.mod,HB2.out _ p3.mod⟩) (fun hHeld=>?_);clear hK KQ;refine tkp 7 (.tuple #[.int .i64 y3',.int .i64 e3,.bool true]) hHeld ?_;simp only [zq];refine tkp 8 (.int .i64 y3') hHeld ?_;simp only [zq];refine tkp 9 (.int .i64 e3) hHeld ?_;simp only [zq];refine tkp 10 (.bool true) hHeld ?_;simp only [zq];refine tkp 11 (.int .i64 y3') hHeld ?_;simp only [zq];refine tkp 12 (.int .i64 e3) hHeld ?_;simp only [zq];refine tkp 13 (.bool true) hHeld ?_;simp only [zq];refine wpAnyH_done (by kernel_rfl) ?_ _;have HN3:=Za (HO2.out.next _ _ _ (nb+1) p3 (fun i=>by have:=o3.few i;have:=HO.out.own i;omega));have HX3:=Za o3;clear hHeld p3 o3
 by_cases e0:e3=0
 ·subst e0;obtain ⟨x0,x1,x2,x3⟩:=Zm HN3.out.blk;have xf:=HN3.out.blk.frozen 2;go_wp2
  exact HPost.out _ _ _ _ _ _ (HN3.out.turn y3') (fun _ h=>Yjx h HX3.out rfl)
 ·have e1:(e3 == 0)=false:=by simp [e0]
  go_wp2
  exact HPost.out _ _ _ _ _ _ HN3.out (fun _ h=>by rw [HX3.out.no e0];exact h.up)
theorem Ztk (h:Sn w0 w gc g gs q room cs fr root va al nb) (h5:room≤5000) (hnb:nb≤1000) (hL:∀w',Kb w0 w'→Laid w') {K:Lq} {v:Value} {bs:Lq} {hh:Int} (hK:Key K) (hr:∀w',Kb w0 w'→Reads w' v bs) (hm:bs.length≤2000) (HPost:Hid (∀w' cs' fr' root' va' al',Sn w0 w' gc g gs q room cs' fr' root' va' al' (nb+1)→(∀k,Ex k cs root al→Ex (k+1) cs' root' al')→P (.returned (.bool true)) w')):Kc 59 #[.pointer (some ⟨gc,0,none⟩),.agg (apL 4 K v hh).toArray] w P:=by
 have u0:=(⟨h5,hnb,hL,hK,hr,hm⟩:_∧_∧_∧_∧_∧_);clear u0;have HKL:=Za hK.1;have HAZ:Hid ((Tryz.prog.info? 74).map (·.size)=some (apL 4 K v hh).toArray.toList.length):=by show _=_;rw [List.toList_toArray,Zbk _ _ _ _ HKL.out];exact Zcc
 obtain ⟨S,o⟩:=h.so;have HO:=Za o;have HCO:Hid (Kr w 118 #[.pointer (some ⟨gc,0,none⟩),.int .i64 root,.agg (apL 4 K v hh).toArray] (.bool true)):=fun w' hb=>Zwi (h.grow hb) h5 hnb root ⟨4,K,v,bs,hh⟩ hK hr
 have HN:=Za (h.more (Nat.le_succ nb));clear o h hK hr hm hL h5 hnb;go_enter Tryz.func59,Tryz.ntmps59
 go_wp2_with (first
  |((with_reducible refine Zl 3 ?_);refine Zc _ rfl _ _ rfl _ rfl ?_;intro w1 b3 hg3 hl3 B3 q1;have HQ1:=Za q1;have HB1:=Za (Kq.blk B3 (HO.out.new b3 hg3));have HO1:=Za (HO.out.rebase q1);have zk:=Zeh B3;have zh:=Zdh B3 HKL.out;obtain ⟨y0,y1,y2,y3⟩:=Zm HO1.out.blk.now;clear hg3 hl3 B3 q1))
 refine wp_region_held_drew (S:=fun w'=>Kb w1 w') (by kernel_rfl) (below_drewN (Below.refl _ _) 1) (fun hHeld=>?_);refine tkp 0 (.pointer (some ⟨gc,0,none⟩)) hHeld ?_;simp only [zq];refine tkp 1 (.pointer (some ⟨gc,0,none⟩)) hHeld ?_;simp only [zq];refine tkp 2 (.pointer (some ⟨gc,0,none⟩)) hHeld ?_;simp only [zq];refine tkp 3 (.pointer (some ⟨gc,2,none⟩)) hHeld ?_;simp only [zq];refine tkg 4 (.int .i64 root) rfl (Or.inl ⟨by rfl,fun w hS=>by (have q1:=(Zm (HO1.out.blk.now.grow hS)).2.2.1;go_simp)⟩) hHeld ?_;simp only [zq];refine tkg 5 (.agg (apL 4 K v hh).toArray) rfl (yieldsIf_load_mid rfl 74 (.tmp 3) rfl b3 0 rfl (apL 4 K v hh).toArray.toList _ (fun w hS=>(HB1.out.now.grow hS).range) Tryz.underlying74 rfl HAZ.out) hHeld ?_;simp only [zq];refine wpAnyH_ready (rs:=[6]) (by kernel_rfl) (by simp) ?_;refine AllReadyH.cons rfl (fun KQ hK=>?_) AllReadyH.nil;go_simp;refine (HCO.out _ (Zb HQ1.out hHeld)).mono ?_;rintro e w3 ⟨rfl,b3'⟩;refine hK.out _ _ (Zb hHeld b3') (fun hHeld=>?_);clear hK KQ;refine tkp 7 (.bool true) hHeld ?_;simp only [zq];refine wpAnyH_done (by kernel_rfl) ?_ _;have HN3:=Za (HN.out.grow (Zb HQ1.out hHeld));clear hHeld b3';go_wp2
 exact HPost.out _ _ _ _ _ _ HN3.out (fun _ h=>h.up)
theorem Zwe (h:Sn w0 w gc g gs q room cs fr root va al nb) (h5:room≤5000) (hnb:nb≤1000) (hL:∀w',Kb w0 w'→Laid w') {K:Lq} {v:Value} {bs:Lq} {hh:Int} (hK:Key K) (hr:∀w',Kb w0 w'→Reads w' v bs) (hm:bs.length≤2000) (HPost:Hid (∀w' cs' fr' root' va' al',Sn w0 w' gc g gs q room cs' fr' root' va' al' (nb+1)→(∀k,Ex k cs root al→Ex (k+1) cs' root' al')→P (.returned (.bool true)) w')):Kc 59 #[.pointer (some ⟨gc,0,none⟩),.agg (apL 5 K v hh).toArray] w P:=by
 have u0:=(⟨h5,hnb,hL,hK,hr,hm⟩:_∧_∧_∧_∧_∧_);clear u0;have HKL:=Za hK.1;have HAZ:Hid ((Tryz.prog.info? 74).map (·.size)=some (apL 5 K v hh).toArray.toList.length):=by show _=_;rw [List.toList_toArray,Zbk _ _ _ _ HKL.out];exact Zcc
 obtain ⟨S,o⟩:=h.so;have HO:=Za o;obtain ⟨fb,hfb⟩:=Yjv o.p h5 hh;obtain ⟨ae,hae⟩:=Yjq o.p hh;have HF1:Hid (Kr w 50 #[.pointer (some ⟨g,0,none⟩),.int .i64 hh] (.bool fb)):=fun w' hb=>(hfb w' hb).1
 have HF2:Hid (Kr w 56 #[.pointer (some ⟨q,0,none⟩),.int .i64 hh] (.bool fb)):=fun w' hb=>(hfb w' hb).2
 have HA1:Hid (Kr w 42 #[.pointer (some ⟨g,0,none⟩),.int .i64 hh] (.int .i64 ae)):=fun w' hb=>(hae w' hb).1
 have HA2:Hid (Kr w 45 #[.pointer (some ⟨q,0,none⟩),.int .i64 hh] (.int .i64 ae)):=fun w' hb=>(hae w' hb).2
 have HN:=Za (h.more (Nat.le_succ nb));clear o h hK hr hm hL h5 hnb hfb hae;cases fb <;> (
  go_enter Tryz.func59,Tryz.ntmps59
  go_wp2_with (first
   |((with_reducible refine Zl 3 ?_);refine Zc _ rfl _ _ rfl _ rfl ?_;intro w1 b3 hg3 hl3 B3 q1;have HQ1:=Za q1;have HB1:=Za (Kq.blk B3 (HO.out.new b3 hg3));have HO1:=Za (HO.out.rebase q1);have zk:=Zeh B3;have zh:=Zdh B3 HKL.out;obtain ⟨y0,y1,y2,y3⟩:=Zm HO1.out.blk.now;clear hg3 hl3 B3 q1))
  refine wp_region_held_drew (S:=fun w'=>Kb w1 w') (by kernel_rfl) (below_drewN (Below.refl _ _) 1) (fun hHeld=>?_);refine tkp 0 (.pointer (some ⟨gc,0,none⟩)) hHeld ?_;simp only [zq];refine tkp 1 (.pointer (some ⟨gc,0,none⟩)) hHeld ?_;simp only [zq];refine tkp 2 (.pointer (some ⟨gc,0,none⟩)) hHeld ?_;simp only [zq];refine tkg 3 (.pointer (some ⟨g,0,none⟩)) rfl (Or.inl ⟨by rfl,fun w hS=>by (have q1:=(Zm (HO1.out.blk.now.grow hS)).1;go_simp)⟩) hHeld ?_;simp only [zq];refine tkp 4 (.pointer (some ⟨b3,34,none⟩)) hHeld ?_;simp only [zq];refine tkg 5 (.int .i64 hh) rfl (Or.inl ⟨by rfl,fun w hS=>by (have q1:=Zdh (HB1.out.now.grow hS) HKL.out;go_simp)⟩) hHeld ?_;simp only [zq];refine tkp 7 (.pointer (some ⟨gc,0,none⟩)) hHeld ?_;simp only [zq];refine tkp 8 (.pointer (some ⟨gc,0,none⟩)) hHeld ?_;simp only [zq];refine tkp 9 (.pointer (some ⟨gc,1,none⟩)) hHeld ?_;simp only [zq];refine tkg 10 (.pointer (some ⟨q,0,none⟩)) rfl (Or.inl ⟨by rfl,fun w hS=>by (have q1:=(Zm (HO1.out.blk.now.grow hS)).2.1;go_simp)⟩) hHeld ?_;simp only [zq];refine tkp 11 (.pointer (some ⟨b3,34,none⟩)) hHeld ?_;simp only [zq];refine tkg 12 (.int .i64 hh) rfl (Or.inl ⟨by rfl,fun w hS=>by (have q1:=Zdh (HB1.out.now.grow hS) HKL.out;go_simp)⟩) hHeld ?_;simp only [zq];refine wpAnyH_ready (rs:=[6]) (by kernel_rfl) (by simp) ?_;refine AllReadyH.cons rfl (fun KQ hK=>?_) AllReadyH.nil;go_simp;refine (HF1.out _ (Zb HQ1.out hHeld)).mono ?_;rintro e z1 ⟨rfl,a1⟩;refine hK.out _ _ (Zb hHeld a1) (fun hHeld=>?_);clear hK KQ;refine wpAnyH_ready (rs:=[13]) (by kernel_rfl) (by simp) ?_;refine AllReadyH.cons rfl (fun KQ hK=>?_) AllReadyH.nil;go_simp;refine (HF2.out _ (Zb HQ1.out hHeld)).mono ?_;rintro e z2 ⟨rfl,a2⟩;refine hK.out _ _ (Zb hHeld a2) (fun hHeld=>?_);clear hK KQ;refine tkp 14 (.bool true) hHeld ?_;simp only [zq];refine tkp 15 (.bool true) hHeld ?_;simp only [zq];refine tkp 16 (.pointer (some ⟨gc,0,none⟩)) hHeld ?_;simp only [zq];refine tkp 17 (.pointer (some ⟨gc,0,none⟩)) hHeld ?_;simp only [zq];refine tkp 18 (.pointer (some ⟨gc,0,none⟩)) hHeld ?_;simp only [zq];refine tkg 19 (.pointer (some ⟨g,0,none⟩)) rfl (Or.inl ⟨by rfl,fun w hS=>by (have q1:=(Zm (HO1.out.blk.now.grow hS)).1;go_simp)⟩) hHeld ?_;simp only [zq];refine tkp 20 (.pointer (some ⟨b3,34,none⟩)) hHeld ?_;simp only [zq];refine tkg 21 (.int .i64 hh) rfl (Or.inl ⟨by rfl,fun w hS=>by (have q1:=Zdh (HB1.out.now.grow hS) HKL.out;go_simp)⟩) hHeld ?_;simp only [zq];refine tkp 23 (.pointer (some ⟨gc,0,none⟩)) hHeld ?_;simp only [zq];refine tkp 24 (.pointer (some ⟨gc,0,none⟩)) hHeld ?_;simp only [zq];refine tkp 25 (.pointer (some ⟨gc,1,none⟩)) hHeld ?_;simp only [zq];refine tkg 26 (.pointer (some ⟨q,0,none⟩)) rfl (Or.inl ⟨by rfl,fun w hS=>by (have q1:=(Zm (HO1.out.blk.now.grow hS)).2.1;go_simp)⟩) hHeld ?_;simp only [zq];refine tkp 27 (.pointer (some ⟨b3,34,none⟩)) hHeld ?_;simp only [zq];refine tkg 28 (.int .i64 hh) rfl (Or.inl ⟨by rfl,fun w hS=>by (have q1:=Zdh (HB1.out.now.grow hS) HKL.out;go_simp)⟩) hHeld ?_;simp only [zq];refine wpAnyH_ready (rs:=[22]) (by kernel_rfl) (by simp) ?_;refine AllReadyH.cons rfl (fun KQ hK=>?_) AllReadyH.nil;go_simp;refine (HA1.out _ (Zb HQ1.out hHeld)).mono ?_;rintro e z3 ⟨rfl,a3⟩;refine hK.out _ _ (Zb hHeld a3) (fun hHeld=>?_);clear hK KQ;refine wpAnyH_ready (rs:=[29]) (by kernel_rfl) (by simp) ?_;refine AllReadyH.cons rfl (fun KQ hK=>?_) AllReadyH.nil;go_simp;refine (HA2.out _ (Zb HQ1.out hHeld)).mono ?_;rintro e z4 ⟨rfl,a4⟩;refine hK.out _ _ (Zb hHeld a4) (fun hHeld=>?_);clear hK KQ;refine tkp 30 (.bool true) hHeld ?_;simp only [zq];refine tkp 31 (.bool true) hHeld ?_;simp only [zq];refine tkp 32 (.bool true) hHeld ?_;simp only [zq];refine wpAnyH_done (by kernel_rfl) ?_ _;have HN3:=Za (HN.out.grow (Zb HQ1.out hHeld));clear hHeld a1 a2 a3 a4;go_wp2
  exact HPost.out _ _ _ _ _ _ HN3.out (fun _ h=>h.up))
theorem Ztj (h:Sn w0 w gc g gs q room cs fr root va al nb) (h5:room≤5000) (hnb:nb≤1000) (hL:∀w',Kb w0 w'→Laid w') {K:Lq} {v:Value} {bs:Lq} {hh:Int} (hK:Key K) (hr:∀w',Kb w0 w'→Reads w' v bs) (hm:bs.length≤2000) (HPost:Hid (∀w' cs' fr' root' va' al',Sn w0 w' gc g gs q room cs' fr' root' va' al' (nb+1)→(∀k,Ex k cs root al→Ex (k+1) cs' root' al')→P (.returned (.bool true)) w')):Kc 59 #[.pointer (some ⟨gc,0,none⟩),.agg (apL 6 K v hh).toArray] w P:=by
 have u0:=(⟨h5,hnb,hL,hK,hr,hm⟩:_∧_∧_∧_∧_∧_);clear u0;have HKL:=Za hK.1;have HAZ:Hid ((Tryz.prog.info? 74).map (·.size)=some (apL 6 K v hh).toArray.toList.length):=by show _=_;rw [List.toList_toArray,Zbk _ _ _ _ HKL.out];exact Zcc
 obtain ⟨S,o⟩:=h.so;have HO:=Za o;have HCO:Hid (Kr w 118 #[.pointer (some ⟨gc,0,none⟩),.int .i64 hh,.agg (apL 6 K v hh).toArray] (.bool true)):=fun w' hb=>Zwi (h.grow hb) h5 hnb hh ⟨6,K,v,bs,hh⟩ hK hr
 have HN:=Za (h.more (Nat.le_succ nb));clear o h hK hr hm hL h5 hnb;go_enter Tryz.func59,Tryz.ntmps59
 go_wp2_with (first
  |((with_reducible refine Zl 3 ?_);refine Zc _ rfl _ _ rfl _ rfl ?_;intro w1 b3 hg3 hl3 B3 q1;have HQ1:=Za q1;have HB1:=Za (Kq.blk B3 (HO.out.new b3 hg3));have HO1:=Za (HO.out.rebase q1);have zk:=Zeh B3;have zh:=Zdh B3 HKL.out;obtain ⟨y0,y1,y2,y3⟩:=Zm HO1.out.blk.now;clear hg3 hl3 B3 q1)
  |((with_reducible refine Zk 199 3 ?_);refine wpList_load_mid rfl _ _ rfl b3 0 rfl (apL 6 K v hh).toArray.toList _ HB1.out.now.range Tryz.underlying74 rfl HAZ.out ?_)
  |(go_at_call 118;refine (HCO.out _ HQ1.out).mono ?_;rintro e w3 ⟨rfl,b3'⟩;have HN3:=Za (HN.out.grow (Zb HQ1.out b3'));clear b3'))
 exact HPost.out _ _ _ _ _ _ HN3.out (fun _ h=>h.up)
theorem Zwf (h:Sn w0 w gc g gs q room cs fr root va al nb) (h5:room≤5000) (hnb:nb≤1000) (hL:∀w',Kb w0 w'→Laid w') {K:Lq} {v:Value} {bs:Lq} {hh:Int} (hK:Key K) (hr:∀w',Kb w0 w'→Reads w' v bs) (hm:bs.length≤2000) (HPost:Hid (∀w' cs' fr' root' va' al',Sn w0 w' gc g gs q room cs' fr' root' va' al' (nb+1)→(∀k,Ex k cs root al→Ex (k+1) cs' root' al')→P (.returned (.bool true)) w')) {k:Int} (k0:(k == 0)=false) (k1:(k == 1)=false) (k2:(k == 2)=false) (k4:(k == 4)=false) (k5:(k == 5)=false) (k6:(k == 6)=false):Kc 59 #[.pointer (some ⟨gc,0,none⟩),.agg (apL k K v hh).toArray] w P:=by
 have u0:=(⟨h5,hnb,hL,hK,hr,hm⟩:_∧_∧_∧_∧_∧_);clear u0;have HKL:=Za hK.1;have HAZ:Hid ((Tryz.prog.info? 74).map (·.size)=some (apL k K v hh).toArray.toList.length):=by show _=_;rw [List.toList_toArray,Zbk _ _ _ _ HKL.out];exact Zcc
 obtain ⟨S,o⟩:=h.so;have HO:=Za o;have HN:=Za (h.more (Nat.le_succ nb));clear o h hK hr hm hL h5 hnb HAZ;go_enter Tryz.func59,Tryz.ntmps59
 go_wp2_with (first
  |((with_reducible refine Zl 3 ?_);refine Zc _ rfl _ _ rfl _ rfl ?_;intro w1 b3 hg3 hl3 B3 q1;have HQ1:=Za q1;have HB1:=Za (Kq.blk B3 (HO.out.new b3 hg3));have HO1:=Za (HO.out.rebase q1);have zk:=Zeh B3;have zh:=Zdh B3 HKL.out;obtain ⟨y0,y1,y2,y3⟩:=Zm HO1.out.blk.now;clear hg3 hl3 B3 q1))
 exact HPost.out _ _ _ _ _ _ (HN.out.grow HQ1.out) (fun _ h=>h.up)
theorem So.lowSize (o:So w0 w gc g gs q room cs fr root va al nb S):w0.heap.size≤w.heap.size:=(o.next w cs fr nb o.p o.own).low.size
theorem Zxh {e:TypeId} {n':Nat} {xs':List Value} (l:Lst w' e k v' n' xs') (h:WhereL w v v') (o:w.ownsRow base e k v n xs) (hb:base≤w.heap.size):w'.ownsRow base e k v' n' xs':=by
 refine ⟨l.1,?_⟩;rcases l.2 with q | ⟨g,cap,cur,rfl,_,rest⟩
 ·exact .inl q
 ·refine .inr ⟨g,cap,cur,rfl,?_,rest⟩;rcases h with e1 | ⟨k',e1,hk⟩
  ·exact (o.lt g e1.symm).1
  ·injection e1 with e1;subst e1;exact Nat.le_trans hb hk
theorem Zvo {ops:Array Oper} {op:Oper} {a:Act} {K:Act→World→Prop} {Q:Exit→Act→World→Prop} {E:Prop} (w:World) (hgd:op.guard=none) (ho:op.op=.buildSlice 30 0 #[])
  (hk:(w.alloc (.cells #[] 3)).ownsRow w.heap.size 3 1 (.slice (some ⟨w.heap.size,0,none⟩) 0 0) 0 []→Kb w (w.alloc (.cells #[] 3))→K (a.put op.dst (.slice (some ⟨w.heap.size,0,none⟩) 0 0)) (w.alloc (.cells #[] 3))):if Region.wanted op (yielded ops a.tmps)=true then Oper.wp Tryz.prog op a w K Q else E:=by
 have hw:Region.wanted op (yielded ops a.tmps)=true:=by simp [Region.wanted,hgd]
 rw [if_pos hw];obtain ⟨i,z,hi,hz,hs,_,hzs⟩:=Zak;have ht:Tryz.prog.underlying 30=some (.slice 3):=Tryz.underlying30;have hrun:(Instr.buildSlice 30 0 #[]).run Tryz.prog w=.ok (.slice (some ⟨w.heap.size,0,none⟩) 0 0) (w.alloc (.cells #[] 3)):=by
  have he:∀f:Nat→Value,Array.map f (Array.range 0)= #[]:=fun f=>Array.eq_empty_of_size_eq_zero (by simp)
  simp [Instr.buildSlice,run_underlying ht,sizeOf,typeInfo,hi,Instr.fill,newRow,he]
 unfold Oper.wp execOp;simp only [ho,List.map_toArray,List.map_nil,Sem.run_bind,hrun,Result.andThen_ok,Sem.run_pure];exact hk ⟨rfl,.inr ⟨w.heap.size,0, #[],rfl,Nat.le_refl _,Blk.new _ _ _,Nat.le_refl _,by simp only [maxLen];omega,rfl,rfl⟩⟩ (Zh w _)
theorem Zmx {P:Program} {ops:Array Oper} {o:Oper} {a:Act} {K:Act→World→Prop} {Q:Exit→Act→World→Prop} {E:Prop} (w:World) (hgd:o.guard=none) (s x:Operand) (t:TypeId)
  (ho:o.op=.call { callee:=.builtin .append,args:= #[s,x],argTypes:= #[t,t]})
  (base:Nat) (e:TypeId) (size bytes:Nat) (ht:P.underlying t=some (.slice e)) (hin:∃i z,P.info? e=some i∧i.zero=some z∧i.size=size∧i.bytes=bytes∧z.cells.size=size) (hsz:0<size)
  (v:Value) (n:Nat) (xs:List Value) (hs:a.eval s=v) (hown:w.ownsRow base e size v n xs)
  (ad:Addr) (m c:Nat) (news:List Value) (hx:a.eval x=.slice (some ad) m c) (hl:news.length=m * size) (hnews:∀j u,news[j]?=some u→w.cell? (ad.add j)=some u) (h1:∀u∈news,u.oneCell'=true)
  (h63:n+m≤maxLen) (hbytes:(n+m) * bytes≤140737488355328) (hbase:base≤w.heap.size)
  (hk:∀v' w',w'.ownsRow base e size v' (n+m) (xs++news)→w.grownBy w' v.ownBlock→K (a.put o.dst v') w'):if Region.wanted o (yielded ops a.tmps)=true then Oper.wp P o a w K Q else E:=by
 have hw:Region.wanted o (yielded ops a.tmps)=true:=by simp [Region.wanted,hgd]
 rw [if_pos hw];obtain ⟨i,z,hi,hz,hsize,hby,hzs⟩:=hin;obtain ⟨v',w',hr,h2,h3,_⟩:=run_append_own (P:=P) w base t o.type e i z size bytes ht hi hz hsize hby hzs hsz v n xs hown ad m c news hl hnews h1 h63 hbytes hbase;unfold Oper.wp execOp;simp only [ho,resolve,invoke,builtin,Sem.run_bind,Sem.run_pure,Result.andThen_ok,List.map_toArray,List.map_cons,List.map_nil,hs,hx,hr];exact hk v' w' h2 h3
theorem Yla (z:Int) (n:Nat) (w:World) (hn:0<n) (hn2:n≤4096):Kc 32 #[.int .i64 z,.int .i64 (n:Int)] w fun e w'=>(∃p:Nat,p<n∧e=.returned (.int .i64 (p:Int)))∧w'=w:=by
 have hn1:(0:Int)<(n:Int):=by omega
 have hn0: ¬(n:Int)=0:=by omega
 have hn3: ¬n=0:=by omega
 have hb1:=Int.lt_tmod_of_pos z hn1;have hb2:=Int.tmod_lt_of_pos z hn1;obtain ⟨r,hr⟩:∃r,z.tmod n=r:=⟨_,rfl⟩;rw [hr] at hb1 hb2
 by_cases q:r<0
 ·have hw:IntKind.i64.wrap (r+n)=r+n:=by rw [IntKind.wrap_i64];omega
  have HP:Hid (∃p:Nat,p<n∧r+n=p):=⟨(r+n).toNat,by omega,by omega⟩;clear hb1 hb2 hn hn2;go_enter Tryz.func32,Tryz.ntmps32
  go_wp2
  go_ret;obtain ⟨p,hp,e⟩:=HP.out;exact ⟨⟨p,hp,by rw [← e];rfl⟩,rfl⟩
 ·have HP:Hid (∃p:Nat,p<n∧r=p):=⟨r.toNat,by omega,by omega⟩;have q':0≤r:=by omega
  clear hb1 hb2 hn hn2;go_enter Tryz.func32,Tryz.ntmps32
  go_wp2
  go_ret;obtain ⟨p,hp,e⟩:=HP.out;exact ⟨⟨p,hp,by rw [← e];rfl⟩,rfl⟩
theorem Zwg (h:Sn w0 w gc g gs q room cs fr root va al nb) (h5:room≤5000) (hnb:nb≤1000) (hL:∀w',Kb w0 w'→Laid w') {K:Lq} {v:Value} {bs:Lq} {hh:Int} (hK:Key K) (hr:∀w',Kb w0 w'→Reads w' v bs) (hm:bs.length≤2000) (HPost:Hid (∀w' cs' fr' root' va' al',Sn w0 w' gc g gs q room cs' fr' root' va' al' (nb+1)→(∀k,Ex k cs root al→Ex (k+1) cs' root' al')→P (.returned (.bool true)) w')):Kc 59 #[.pointer (some ⟨gc,0,none⟩),.agg (apL 1 K v hh).toArray] w P:=by
 have u0:=(⟨h5,hnb,hL,hK,hr,hm⟩:_∧_∧_∧_∧_∧_);clear u0;have HKL:=Za hK.1;have HAZ:Hid ((Tryz.prog.info? 74).map (·.size)=some (apL 1 K v hh).toArray.toList.length):=by show _=_;rw [List.toList_toArray,Zbk _ _ _ _ HKL.out];exact Zcc
 have HCC:Hid (∀i,cc cs i<1073741824):=fun i=>by
  obtain ⟨_,p,_⟩:=h.ex;have:=p.wf.ccLe i 1000 (Nat.le_trans (h.own i) hnb);have:=p.inv.lenC;omega
 obtain ⟨S,o⟩:=h.so;have HO:=Za o;have HN:=Za (h.more (Nat.le_succ nb));have HH0:=Za h;have hfew:=h.few;obtain ⟨an,han⟩:∃n,n=al.length:=⟨_,rfl⟩;have hasd:w.ownsRow w0.heap.size 3 1 va an (al.map (Value.int .i64)):=by rw [han];exact h.aside
 obtain ⟨aa,ac,hva⟩:∃aa ac,va=.slice aa an ac:=Zo (Zap hasd);subst hva;have HAN:=Za han;rw [← han] at hfew;clear o h hK hr hm hL h5 hnb HAZ han hasd
 by_cases r0:root=0
 ·subst r0;go_enter Tryz.func59,Tryz.ntmps59
  go_wp2_with (first
   |((with_reducible refine Zl 3 ?_);refine Zc _ rfl _ _ rfl _ rfl ?_;intro w1 b3 hg3 hl3 B3 q1;have HQ1:=Za q1;have HB1:=Za (Kq.blk B3 (HO.out.new b3 hg3));have HO1:=Za (HO.out.rebase q1);have zk:=Zeh B3;have zh:=Zdh B3 HKL.out;obtain ⟨y0,y1,y2,y3⟩:=Zm HO1.out.blk.now;clear hg3 hl3 B3 q1))
  exact HPost.out _ _ _ _ _ _ (HN.out.grow HQ1.out) (fun _ h=>h.up)
 ·have HR0:Hid (root≠0):=r0;have r1:(root == 0)=false:=by simp [r0]
  by_cases n8:8<an
  ·have n81:(8:Int)<(an:Int):=by omega
   go_enter Tryz.func59,Tryz.ntmps59
   go_wp2_with (first
    |((with_reducible refine Zl 3 ?_);refine Zc _ rfl _ _ rfl _ rfl ?_;intro w1 b3 hg3 hl3 B3 q1;have HQ1:=Za q1;have HB1:=Za (Kq.blk B3 (HO.out.new b3 hg3));have HO1:=Za (HO.out.rebase q1);have zk:=Zeh B3;have zh:=Zdh B3 HKL.out;obtain ⟨y0,y1,y2,y3⟩:=Zm HO1.out.blk.now;clear hg3 hl3 B3 q1))
   exact HPost.out _ _ _ _ _ _ (HN.out.grow HQ1.out) (fun _ h=>h.up)
  ·have n81: ¬(8:Int)<(an:Int):=by omega
   go_enter Tryz.func59,Tryz.ntmps59
   go_wp2_with (first
    |((with_reducible refine Zl 3 ?_);refine Zc _ rfl _ _ rfl _ rfl ?_;intro w1 b3 hg3 hl3 B3 q1;have HQ1:=Za q1;have HB1:=Za (Kq.blk B3 (HO.out.new b3 hg3));have HO1:=Za (HO.out.rebase q1);have zk:=Zeh B3;have zh:=Zdh B3 HKL.out;obtain ⟨y0,y1,y2,y3⟩:=Zm HO1.out.blk.now;clear hg3 hl3 B3 q1))
   have HO2:=Za (HO1.out.rebase (below_drewN (Below.refl w1.heap.size w1) 1));have HSf:Hid (∀w',Blk w' gc 32 #[.pointer (some ⟨g,0,none⟩),.pointer (some ⟨q,0,none⟩),.int .i64 root,.slice aa an ac]→w'.frozen? ⟨gc,3,none⟩=false):=fun w' hb=>hb.frozen 3
   have HAS:Hid (w1.drew.ownsRow w0.heap.size 3 1 (.slice aa an ac) an (al.map (Value.int .i64))):=by
    have:=HO2.out.aside.now;rw [← HAN.out] at this;exact this
   have H9:Hid (an≤8):=by show an≤8;omega
   clear n8 hfew;refine Zx (S:=fun w'=>Blk w' gc 32 #[.pointer (some ⟨g,0,none⟩),.pointer (some ⟨q,0,none⟩),.int .i64 root,.slice aa an ac]) 13 (by kernel_rfl) (HO2.out.blk.now) (fun hHeld=>?_);refine tlp 0 (.pointer (some ⟨gc,0,none⟩)) hHeld ?_;simp only [zq];refine tlp 1 (.pointer (some ⟨gc,0,none⟩)) hHeld ?_;simp only [zq];refine tlp 2 (.pointer (some ⟨gc,0,none⟩)) hHeld ?_;simp only [zq];refine tlp 3 (.pointer (some ⟨gc,3,none⟩)) hHeld ?_;simp only [zq];refine tlg 4 (.slice aa an ac) rfl (Or.inl ⟨by rfl,fun w hS=>by (have q1:=(Zm hS).2.2.2;go_simp)⟩) hHeld ?_;simp only [zq];refine tlp 5 (.pointer (some ⟨gc,0,none⟩)) hHeld ?_;simp only [zq];refine tlp 6 (.pointer (some ⟨gc,0,none⟩)) hHeld ?_;simp only [zq];refine tlp 7 (.pointer (some ⟨gc,2,none⟩)) hHeld ?_;simp only [zq];refine tlg 8 (.int .i64 root) rfl (Or.inl ⟨by rfl,fun w hS=>by (have q1:=(Zm hS).2.2.1;go_simp)⟩) hHeld ?_;simp only [zq];refine Zad (i:=9) rfl (by kernel_rfl) (fun KQ hK=>?_);go_simp;have a4:=Zh w1.drew (.cells #[Value.int .i64 root] 3);refine hK.out _ _ (hHeld.grow a4) (fun hHeld=>?_);clear hK KQ;have HAS4:=Za (Zn HAS.out a4);refine Zad (i:=10) rfl (by kernel_rfl) (fun KQ hK=>?_);refine Zmy _ rfl _ _ _ rfl 3 1 8 Tryz.underlying30 Zak (by omega) _ an (al.map (Value.int .i64)) rfl (Zap HAS4.out) w1.drew.heap.size [Value.int .i64 root] rfl (Blk.new _ _ _) rfl (by intro u hu;simp at hu;subst hu;rfl) (by have:=H9.out;simp only [maxLen];omega) (by have:=H9.out;omega) ?_;intro v5 w5 l5 g5' wh5';have g5:(w1.drew.alloc (.cells #[Value.int .i64 root] 3)).grownBy w5 (Value.slice aa an ac).ownBlock:=g5';have wh5:WhereL (w1.drew.alloc (.cells #[Value.int .i64 root] 3)) (Value.slice aa an ac) v5:=wh5';clear g5' wh5';have m5:Mod (Value.slice aa an ac).ownBlock.toList (w1.drew.alloc (.cells #[Value.int .i64 root] 3)) w5:=Mod.of_grown g5 (fun k hk=>by rw [hk];simp);have hb5:=hHeld.mod m5 (fun e=>Zq (Zap HAS4.out) hHeld Yam (by simpa using e));obtain ⟨a5,c5,rfl⟩:=Zo l5;refine hK.out _ _ hb5 (fun hHeld=>?_);clear hK KQ;refine tlp 11 (.pointer (some ⟨gc,0,none⟩)) hHeld ?_;simp only [zq];refine tlp 12 (.pointer (some ⟨gc,3,none⟩)) hHeld ?_;simp only [zq];have hc1:=(Zm hHeld).2.2.2;have hc2:=HSf.out _ hHeld;refine Zaf rfl (by kernel_rfl) (by kernel_rfl) (fun KQ hK=>?_);go_simp
   
   refine hK.out _ _ ?_;clear hK KQ;have HN6:Hid (Sn w0 (w5.setCell ⟨gc,3,none⟩ (.slice a5 (an+1) c5)) gc g gs q room cs fr root (.slice a5 (an+1) c5) (al++[root]) nb):=by
    have hN1:=HH0.out.grow (Zb HQ1.out (below_drewN (Below.refl w1.heap.size w1) 1));refine hN1.reside ((Mod.of_below a4 _).trans' m5) (fun k hk=>by simpa using hk) ?_ (fun k hk=>?_) ?_
    ·have hl:(al++[root]).length=an+1:=by rw [List.length_append,List.length_singleton,← HAN.out]
     rw [hl,List.map_append];refine Zxh l5 wh5 HAS4.out (Nat.le_trans HO2.out.lowSize a4.size)
    ·rcases wh5 with e | ⟨k',e,hk'⟩
     ·left;rw [← e];exact hk
     ·right;rw [e] at hk;injection hk with hk;subst hk;exact Nat.le_trans a4.size hk'
    ·rw [List.length_append,List.length_singleton,← HAN.out];have:=H9.out;omega
   generalize w5.setCell ⟨gc,3,none⟩ (.slice a5 (an+1) c5)=w6 at *;clear l5 g5 wh5 m5 hb5 hHeld hc1 hc2 a4 HAS4;obtain ⟨S6,o6⟩:=HN6.out.so;have HO6:=Za (o6.rebase (below_drewN (Below.refl w6.heap.size w6) 1));clear o6
   go_wp2_with fail
   refine wp_region_held_drew (S:=fun w'=>Blk w' gc 32 #[.pointer (some ⟨g,0,none⟩),.pointer (some ⟨q,0,none⟩),.int .i64 root,.slice a5 (an+1) c5]) (by kernel_rfl) (HO6.out.blk.now) (fun hHeld=>?_);refine tkp 0 (.pointer (some ⟨gc,0,none⟩)) hHeld ?_;simp only [zq];refine tkp 1 (.pointer (some ⟨gc,0,none⟩)) hHeld ?_;simp only [zq];refine tkp 2 (.pointer (some ⟨gc,0,none⟩)) hHeld ?_;simp only [zq];refine tkg 3 (.pointer (some ⟨g,0,none⟩)) rfl (Or.inl ⟨by rfl,fun w hS=>by (have q1:=(Zm hS).1;go_simp)⟩) hHeld ?_;simp only [zq];refine tkp 4 (.pointer (some ⟨gc,0,none⟩)) hHeld ?_;simp only [zq];refine tkp 5 (.pointer (some ⟨gc,0,none⟩)) hHeld ?_;simp only [zq];refine tkp 6 (.pointer (some ⟨gc,2,none⟩)) hHeld ?_;simp only [zq];refine tkg 7 (.int .i64 root) rfl (Or.inl ⟨by rfl,fun w hS=>by (have q1:=(Zm hS).2.2.1;go_simp)⟩) hHeld ?_;simp only [zq];refine tkp 9 (.pointer (some ⟨gc,0,none⟩)) hHeld ?_;simp only [zq];refine tkp 10 (.pointer (some ⟨gc,0,none⟩)) hHeld ?_;simp only [zq];refine tkp 11 (.pointer (some ⟨gc,1,none⟩)) hHeld ?_;simp only [zq];refine tkg 12 (.pointer (some ⟨q,0,none⟩)) rfl (Or.inl ⟨by rfl,fun w hS=>by (have q1:=(Zm hS).2.1;go_simp)⟩) hHeld ?_;simp only [zq];refine tkp 13 (.pointer (some ⟨gc,0,none⟩)) hHeld ?_;simp only [zq];refine tkp 14 (.pointer (some ⟨gc,0,none⟩)) hHeld ?_;simp only [zq];refine tkp 15 (.pointer (some ⟨gc,2,none⟩)) hHeld ?_;simp only [zq];refine tkg 16 (.int .i64 root) rfl (Or.inl ⟨by rfl,fun w hS=>by (have q1:=(Zm hS).2.2.1;go_simp)⟩) hHeld ?_;simp only [zq];refine wpAnyH_ready (rs:=[8]) (by kernel_rfl) (by simp) ?_;refine AllReadyH.cons rfl (fun KQ hK=>?_) AllReadyH.nil;go_simp;refine (Yjp HO6.out.p root).mono ?_;rintro e z1 ⟨e1,cs1,fr1,rfl,t1,o1⟩;refine hK.out _ _ (t1.kq HO6.out.blk) (fun hHeld=>?_);clear hK KQ;refine wpAnyH_ready (rs:=[17]) (by kernel_rfl) (by simp) ?_;refine AllReadyH.cons rfl (fun KQ hK=>?_) AllReadyH.nil;go_simp;refine t1.go.mono ?_;rintro e z2 ⟨rfl,p2⟩;refine hK.out _ _ (p2.kq HO6.out.blk) (fun hHeld=>?_);clear hK KQ;refine tkp 18 (.bool true) hHeld ?_;simp only [zq];refine tkp 19 (.bool true) hHeld ?_;simp only [zq];refine wpAnyH_done (by kernel_rfl) ?_ _;have HN7:=Za (HO6.out.next _ _ _ (nb+1) p2 (fun i=>by have:=o1.few i;have:=HO6.out.own i;omega));have HX1:=Za o1;clear t1 p2 o1 hHeld;go_wp2
   exact HPost.out _ _ _ _ _ _ HN7.out (fun _ h=>(Yhi h HX1.out HR0.out HCC.out).up)
theorem Zwh (h:Sn w0 w gc g gs q room cs fr root va al nb) (h5:room≤5000) (hnb:nb≤1000) (hL:∀w',Kb w0 w'→Laid w') {K:Lq} {v:Value} {bs:Lq} {hh:Int} (hK:Key K) (hr:∀w',Kb w0 w'→Reads w' v bs) (hm:bs.length≤2000) (HPost:Hid (∀w' cs' fr' root' va' al',Sn w0 w' gc g gs q room cs' fr' root' va' al' (nb+1)→(∀k,Ex k cs root al→Ex (k+1) cs' root' al')→P (.returned (.bool true)) w')):Kc 59 #[.pointer (some ⟨gc,0,none⟩),.agg (apL 2 K v hh).toArray] w P:=by
 have u0:=(⟨h5,hnb,hL,hK,hr,hm⟩:_∧_∧_∧_∧_∧_);clear u0;have HKL:=Za hK.1;have HAZ:Hid ((Tryz.prog.info? 74).map (·.size)=some (apL 2 K v hh).toArray.toList.length):=by show _=_;rw [List.toList_toArray,Zbk _ _ _ _ HKL.out];exact Zcc
 obtain ⟨S,o⟩:=h.so;have HO:=Za o;have HN:=Za (h.more (Nat.le_succ nb));have HH0:=Za h;have hfew:=h.few;obtain ⟨an,han⟩:∃n,n=al.length:=⟨_,rfl⟩;have hasd:w.ownsRow w0.heap.size 3 1 va an (al.map (Value.int .i64)):=by rw [han];exact h.aside
 obtain ⟨aa,ac,hva⟩:∃aa ac,va=.slice aa an ac:=Zo (Zap hasd);subst hva;have HAN:=Za han;rw [← han] at hfew;clear o h hK hr hm hL h5 hnb HAZ han hasd
 by_cases n0:an=0
 ·subst n0;go_enter Tryz.func59,Tryz.ntmps59
  go_wp2_with (first
   |((with_reducible refine Zl 3 ?_);refine Zc _ rfl _ _ rfl _ rfl ?_;intro w1 b3 hg3 hl3 B3 q1;have HQ1:=Za q1;have HB1:=Za (Kq.blk B3 (HO.out.new b3 hg3));have HO1:=Za (HO.out.rebase q1);have zk:=Zeh B3;have zh:=Zdh B3 HKL.out;obtain ⟨y0,y1,y2,y3⟩:=Zm HO1.out.blk.now;clear hg3 hl3 B3 q1))
  exact HPost.out _ _ _ _ _ _ (HN.out.grow HQ1.out) (fun _ h=>h.up)
 ·have n01: ¬(an:Int)=0:=by omega
  have n02:((an:Int) == 0)=false:=by simpa using n01
  have hp0:=hfew;go_enter Tryz.func59,Tryz.ntmps59
  go_wp2_with (first
   |((with_reducible refine Zl 3 ?_);refine Zc _ rfl _ _ rfl _ rfl ?_;intro w1 b3 hg3 hl3 B3 q1;have HQ1:=Za q1;have HB1:=Za (Kq.blk B3 (HO.out.new b3 hg3));have HO1:=Za (HO.out.rebase q1);have zk:=Zeh B3;have zh:=Zdh B3 HKL.out;obtain ⟨y0,y1,y2,y3⟩:=Zm HO1.out.blk.now;clear hg3 hl3 B3 q1))
  have HPK:Hid (∀w',Kc 32 #[.int .i64 hh,.int .i64 (an:Int)] w' fun e w''=>(∃p:Nat,p<an∧e=.returned (.int .i64 (p:Int)))∧w''=w'):=fun w'=>Yla hh an w' (by omega) (by omega)
  refine wp_region_held_drew (S:=fun w'=>Kb w1 w') (by kernel_rfl) (below_drewN (Below.refl _ _) 1) (fun hHeld=>?_);refine tkp 0 (.pointer (some ⟨b3,34,none⟩)) hHeld ?_;simp only [zq];refine tkg 1 (.int .i64 hh) rfl (Or.inl ⟨by rfl,fun w hS=>by (have q1:=Zdh (HB1.out.now.grow hS) HKL.out;go_simp)⟩) hHeld ?_;simp only [zq];refine tkp 2 (.pointer (some ⟨gc,0,none⟩)) hHeld ?_;simp only [zq];refine tkp 3 (.pointer (some ⟨gc,0,none⟩)) hHeld ?_;simp only [zq];refine tkp 4 (.pointer (some ⟨gc,3,none⟩)) hHeld ?_;simp only [zq];refine tkg 5 (.slice aa an ac) rfl (Or.inl ⟨by rfl,fun w hS=>by (have q1:=(Zm (HO1.out.blk.now.grow hS)).2.2.2;go_simp)⟩) hHeld ?_;simp only [zq];refine tkp 6 (.int .i64 (an:Int)) hHeld ?_;simp only [zq];refine wpAnyH_ready (rs:=[7]) (by kernel_rfl) (by simp) ?_;refine AllReadyH.cons rfl (fun KQ hK=>?_) AllReadyH.nil;go_simp;refine (HPK.out _).mono ?_;rintro e z1 ⟨⟨p,hp,rfl⟩,hz⟩;rw [hz];refine hK.out _ _ (hHeld) (fun hHeld=>?_);clear hK KQ;refine tkp 8 (.int .i64 (p:Int)) hHeld ?_;simp only [zq];refine wpAnyH_done (by kernel_rfl) ?_ _;have HW2:=Za hHeld;clear hHeld hz HPK;generalize w1.drew=w2 at *;have HO2:=Za (HO1.out.rebase HW2.out);have HAS:Hid (w2.ownsRow w0.heap.size 3 1 (.slice aa an ac) an (al.map (Value.int .i64))):=by
   have:=HO2.out.aside.now;rw [← HAN.out] at this;exact this
  obtain ⟨ab,ac',e,hac⟩:=Zbg (Zap HAS.out) (by omega);injection e with e1 _ e3;subst e1;subst e3;have hpl:p<al.length:=by rw [← HAN.out];exact hp
  obtain ⟨xh,hxh⟩:∃xh,xh=al.getD p 0:=⟨_,rfl⟩;have HAL:Hid (∀w':World,w'.ownsRow w0.heap.size 3 1 (.slice (some ⟨ab,0,none⟩) an ac) an (al.map (Value.int .i64))→∀j,j<al.length→w'.cell? ⟨ab,j,none⟩=some (.int .i64 (al.getD j 0))):=fun w' ho j hj=>by
   rw [Zcd (Zap ho) j (by rw [HAN.out];omega),List.getElem?_map,List.getD_eq_getElem?_getD,List.getElem?_eq_getElem hj];rfl
  have hcell:w2.cell? ⟨ab,p,none⟩=some (.int .i64 xh):=by rw [hxh];exact HAL.out _ HAS.out p hpl
  obtain ⟨u0,u1,u2,u3⟩:=Zm HO2.out.blk.now;have i0:(0:Int)≤(p:Int):=by omega
  have i1:(p:Int)<(an:Int):=by omega
  have i2:(p:Int)+1≤(an:Int):=by omega
  have i3:(p:Int)≤(ac:Int):=by omega
  have i4:(p:Int)+1≤(ac:Int):=by omega
  have i5: ¬(ac:Int)<(an:Int):=by omega
  have i6:(an:Int)≤(ac:Int):=by omega
  have i7:(0:Int)≤(p:Int)+1:=by omega
  obtain ⟨ad,had,hadc⟩:∃ad:Addr,(if ac=p+1 then some (⟨ab,0,none⟩:Addr) else some ⟨ab,p+1,none⟩)=some ad∧∀j,p+1+j<an→ad.add j=⟨ab,p+1+j,none⟩:=by
   by_cases q:ac=p+1
   ·exact ⟨⟨ab,0,none⟩,by rw [if_pos q],fun j hj=>by omega⟩
   ·exact ⟨⟨ab,p+1,none⟩,by rw [if_neg q],fun j _=>by rw [Addr.add_lit]⟩
  have HADC:=Za hadc;clear hadc;have hwp:wrap64 ((p:Int)+1)=(p:Int)+1:=Go.IntWalk.wrap64_in _ (by omega);have hwi:IntKind.i64.wrap ((p:Int)+1)=(p:Int)+1:=(Go.IntWalk.i64_left _).trans hwp;have HPF:=Za (⟨hp,hfew,hpl,hac⟩:_∧_∧_∧_);have HXH:=Za hxh;have hpa:p<al.length:=by rw [← HAN.out];exact hp
  have HPA:=Za hpa;have HXE:Hid (xh=al[p]):=by show _=_;rw [hxh,List.getD_eq_getElem?_getD,List.getElem?_eq_getElem hpa];rfl
  clear hpa;have HSRC1:Hid (∀w':World,w'.ownsRow w0.heap.size 3 1 (.slice (some ⟨ab,0,none⟩) an ac) an (al.map (Value.int .i64))→∀j u,((al.take p).map (Value.int .i64))[j]?=some u→w'.cell? ((⟨ab,0,none⟩:Addr).add j)=some u):=fun w' ho j u hu=>by
   have hj:j<p∧j<al.length:=by
    have:=(List.getElem?_eq_some_iff.1 hu).1;rw [List.length_map,List.length_take] at this;omega
   rw [Addr.add_lit,Nat.zero_add,HAL.out _ ho j hj.2,← hu,List.getElem?_map,List.getElem?_take_of_lt hj.1,List.getD_eq_getElem?_getD,List.getElem?_eq_getElem hj.2];rfl
  have HSRC2:Hid (∀w':World,w'.ownsRow w0.heap.size 3 1 (.slice (some ⟨ab,0,none⟩) an ac) an (al.map (Value.int .i64))→∀j u,((al.drop (p+1)).map (Value.int .i64))[j]?=some u→w'.cell? (ad.add j)=some u):=fun w' ho j u hu=>by
   have hj:p+1+j<al.length:=by
    have:=(List.getElem?_eq_some_iff.1 hu).1;rw [List.length_map,List.length_drop] at this;omega
   rw [HADC.out j (by rw [HAN.out];exact hj),HAL.out _ ho _ hj,← hu,List.getElem?_map,List.getElem?_drop,List.getD_eq_getElem?_getD,List.getElem?_eq_getElem hj];rfl
  clear y0 y1 y2 y3 n0 hp hpl hac hxh hfew hp0
  go_wp2_with fail
  have HO3:=Za (HO2.out.rebase (below_drewN (Below.refl w2.heap.size w2) 1));have HAS3:=Za (Zn HAS.out (below_drewN (Below.refl w2.heap.size w2) 1));have HSf:Hid (∀w',Blk w' gc 32 #[.pointer (some ⟨g,0,none⟩),.pointer (some ⟨q,0,none⟩),.int .i64 root,.slice (some ⟨ab,0,none⟩) an ac]→w'.frozen? ⟨gc,3,none⟩=false):=fun w' hb=>hb.frozen 3
  refine Zx (S:=fun w'=>Blk w' gc 32 #[.pointer (some ⟨g,0,none⟩),.pointer (some ⟨q,0,none⟩),.int .i64 root,.slice (some ⟨ab,0,none⟩) an ac]) 19 (by kernel_rfl) (HO3.out.blk.now) (fun hHeld=>?_);refine tlp 0 (.pointer (some ⟨gc,0,none⟩)) hHeld ?_;simp only [zq];refine tlp 2 (.pointer (some ⟨gc,0,none⟩)) hHeld ?_;simp only [zq];refine tlp 3 (.pointer (some ⟨gc,0,none⟩)) hHeld ?_;simp only [zq];refine tlp 4 (.pointer (some ⟨gc,3,none⟩)) hHeld ?_;simp only [zq];refine tlg 5 (.slice (some ⟨ab,0,none⟩) an ac) rfl (Or.inl ⟨by rfl,fun w hS=>by (have q1:=(Zm hS).2.2.2;go_simp)⟩) hHeld ?_;simp only [zq];refine tlp 6 (.int .i64 (p:Int)) hHeld ?_;simp only [zq];refine tlp 7 (.slice (some ⟨ab,0,none⟩) p ac) hHeld ?_;simp only [zq];refine tlp 9 (.pointer (some ⟨gc,0,none⟩)) hHeld ?_;simp only [zq];refine tlp 10 (.pointer (some ⟨gc,0,none⟩)) hHeld ?_;simp only [zq];refine tlp 11 (.pointer (some ⟨gc,3,none⟩)) hHeld ?_;simp only [zq];refine tlg 12 (.slice (some ⟨ab,0,none⟩) an ac) rfl (Or.inl ⟨by rfl,fun w hS=>by (have q1:=(Zm hS).2.2.2;go_simp)⟩) hHeld ?_;simp only [zq];refine tlp 13 (.int .i64 (p:Int)) hHeld ?_;simp only [zq];refine tlp 14 (.int .i64 ((p:Int)+1)) hHeld ?_;simp only [zq];refine tlp 15 (.slice (some ad) (an-(p+1)) (ac-(p+1))) hHeld ?_;simp only [zq];refine Zad (i:=1) rfl (by kernel_rfl) (fun KQ hK=>?_);refine Zvo _ rfl rfl (fun o4 b4=>?_);refine hK.out _ _ (hHeld.grow b4) (fun hHeld=>?_);clear hK KQ;have HO4:=Za o4;have HB4:=Za b4;have HAS4:=Za (Zn HAS3.out b4);clear o4 b4;refine Zad (i:=8) rfl (by kernel_rfl) (fun KQ hK=>?_);refine Zmx _ rfl _ _ _ rfl w2.drew.heap.size 3 1 8 Tryz.underlying30 Zak (by omega) _ 0 [] rfl HO4.out ⟨ab,0,none⟩ p ac ((al.take p).map (Value.int .i64)) rfl (by rw [List.length_map,List.length_take];have:=HPF.out.2.2.1;omega) (HSRC1.out _ HAS4.out) (by intro u hu;obtain ⟨_,_,rfl⟩:=List.mem_map.1 hu;rfl) (by have:=HPF.out;simp only [maxLen];omega) (by have:=HPF.out;omega) HB4.out.size ?_;intro v5 w5 o5 g5';have b5:=Zal HB4.out HO4.out (Nat.le_refl _) g5';clear g5';have HB5:=Za b5;have HO5:=Za o5;have hb5:Blk w5 gc 32 #[.pointer (some ⟨g,0,none⟩),.pointer (some ⟨q,0,none⟩),.int .i64 root,.slice (some ⟨ab,0,none⟩) an ac]:=HO3.out.blk.now.grow b5;refine hK.out _ _ hb5 (fun hHeld=>?_);clear hK KQ hb5 o5 b5;have HAS5:=Za (Zn HAS3.out HB5.out);refine Zad (i:=16) rfl (by kernel_rfl) (fun KQ hK=>?_);refine Zmx _ rfl _ _ _ rfl w2.drew.heap.size 3 1 8 Tryz.underlying30 Zak (by omega) _ (0+p) _ rfl HO5.out ad (an-(p+1)) (ac-(p+1)) ((al.drop (p+1)).map (Value.int .i64)) rfl (by rw [List.length_map,List.length_drop,HAN.out];omega) (HSRC2.out _ HAS5.out) (by intro u hu;obtain ⟨_,_,rfl⟩:=List.mem_map.1 hu;rfl) (by have:=HPF.out;simp only [maxLen];omega) (by have:=HPF.out;omega) HB5.out.size ?_;intro v6 w6 o6' g6';have b6:=Zal HB5.out HO5.out (Nat.le_refl _) g6';clear g6';obtain ⟨n6,hn6⟩:∃n6,0+p+(an-(p+1))=n6:=⟨_,rfl⟩;rw [hn6] at o6';have HNN:=Za hn6;clear hn6;obtain ⟨a6,c6,hv6⟩:=Zo (Zap o6');subst hv6;have HB6:=Za b6;have HO6':=Za o6';have hb6:Blk w6 gc 32 #[.pointer (some ⟨g,0,none⟩),.pointer (some ⟨q,0,none⟩),.int .i64 root,.slice (some ⟨ab,0,none⟩) an ac]:=HO3.out.blk.now.grow b6;refine hK.out _ _ hb6 (fun hHeld=>?_);clear hK KQ hb6 o6' b6;refine tlp 17 (.pointer (some ⟨gc,0,none⟩)) hHeld ?_;simp only [zq];refine tlp 18 (.pointer (some ⟨gc,3,none⟩)) hHeld ?_;simp only [zq];have hc1:=(Zm hHeld).2.2.2;have hc2:=HSf.out _ hHeld;refine Zaf rfl (by kernel_rfl) (by kernel_rfl) (fun KQ hK=>?_);go_simp
  
  refine hK.out _ _ ?_;clear hK KQ;have HN6:Hid (Sn w0 (w6.setCell ⟨gc,3,none⟩ (.slice a6 n6 c6)) gc g gs q room cs fr root (.slice a6 n6 c6) (al.take p++al.drop (p+1)) nb):=by
   have hN1:=HH0.out.grow (Zb HQ1.out (Zb HW2.out (below_drewN (Below.refl w2.heap.size w2) 1)));have hl:(al.take p++al.drop (p+1)).length=n6:=by
    rw [← HNN.out,List.length_append,List.length_take,List.length_drop,HAN.out];have:=HPF.out.2.2.1;omega
   refine hN1.reside (A:=[]) (Mod.of_below HB6.out []) (fun k hk=>by cases hk) ?_ (fun k hk=>.inr (HO6'.out.lt k hk).1) ?_
   ·rw [hl,List.map_append];exact Zae HO6'.out HO3.out.lowSize
   ·rw [hl,← HNN.out];have:=HPF.out;omega
  generalize w6.setCell ⟨gc,3,none⟩ (.slice a6 n6 c6)=w7 at *;clear hHeld hc1 hc2 HB4 HB5 HB6 HO4 HO5 HO6' HAS3 HAS4 HAS5 HAS HAL HSRC1 HSRC2 HSf had u0 u1 u2 u3 hcell;obtain ⟨S7,o7⟩:=HN6.out.so;obtain ⟨u0,u1,u2,u3⟩:=Zm o7.blk.now;have HO7:=Za o7;clear o7
  go_wp2_with (first
   |(go_at_call 55;refine (Yjy HO7.out.p xh).mono ?_;rintro e w8 ⟨n8,e8,cs8,fr8,rfl,t8,o8⟩;have HT8:=Za t8;have HOO:=Za o8;obtain ⟨x0,x1,x2,x3⟩:=Zm (t8.kq HO7.out.blk);clear t8 o8)
   |(go_at_call 58;refine HT8.out.go.mono ?_;rintro e w9 ⟨rfl,p9⟩;have HP9:=Za p9;clear p9))
  exact HPost.out _ _ _ _ _ _ (HO7.out.next _ _ _ (nb+1) HP9.out (fun i=>by have:=HOO.out.few i;have:=HO7.out.own i;omega)) (fun _ h=>(Yhj h HPA.out (by have q:=HOO.out;rw [HXE.out] at q;exact q)).up)
def DoPost9x (w0:World) (gc g gs q room nb:Nat) (cs:Lz) (root:Int) (al:Lq) (e:Ending) (w':World):Prop:=e=.returned (.bool true)∧∃cs' fr' root' va' al',Sn w0 w' gc g gs q room cs' fr' root' va' al' nb∧(∀k,Ex k cs root al→Ex (k+1) cs' root' al')
def DoPost9 (w0:World) (gc g gs q room nb:Nat) (e:Ending) (w':World):Prop:=e=.returned (.bool true)∧∃cs fr root va al,Sn w0 w' gc g gs q room cs fr root va al nb
theorem Yim (h:Sn w0 w gc g gs q room cs fr root va al nb) (h5:room≤5000) (hnb:nb≤1000) (hL:∀w',Kb w0 w'→Laid w') (a:Ap) (hK:Key a.K) (hr:∀w',Kb w0 w'→Reads w' a.v a.bs) (hm:a.bs.length≤2000):Kc 59 #[.pointer (some ⟨gc,0,none⟩),.agg (apC a).toArray] w (DoPost9x w0 gc g gs q room (nb+1) cs root al):=by
 have HPost:Hid (∀w' cs' fr' root' va' al',Sn w0 w' gc g gs q room cs' fr' root' va' al' (nb+1)→(∀k,Ex k cs root al→Ex (k+1) cs' root' al')→DoPost9x w0 gc g gs q room (nb+1) cs root al (.returned (.bool true)) w'):=fun w' cs' fr' root' va' al' k z=>⟨rfl,cs',fr',root',va',al',k,z⟩
 obtain ⟨k,K,v,bs,hh⟩:=a;have hsh:apC ⟨k,K,v,bs,hh⟩=apL k K v hh:=rfl;rw [hsh]
 by_cases k0:k=0
 ·subst k0;exact Ybc h h5 hnb hL hK hr hm HPost
 ·by_cases k1:k=1
  ·subst k1;exact Zwg h h5 hnb hL hK hr hm HPost
  ·by_cases k2:k=2
   ·subst k2;exact Zwh h h5 hnb hL hK hr hm HPost
   ·by_cases k4:k=4
    ·subst k4;exact Ztk h h5 hnb hL hK hr hm HPost
    ·by_cases k5:k=5
     ·subst k5;exact Zwe h h5 hnb hL hK hr hm HPost
     ·by_cases k6:k=6
      ·subst k6;exact Ztj h h5 hnb hL hK hr hm HPost
      ·exact Zwf h h5 hnb hL hK hr hm HPost (by simp [k0]) (by simp [k1]) (by simp [k2]) (by simp [k4]) (by simp [k5]) (by simp [k6])
theorem Ykv (h:Sn w0 w gc g gs q room cs fr root va al nb) (h5:room≤5000) (hnb:nb≤1000) (hL:∀w',Kb w0 w'→Laid w') (a:Ap) (hK:Key a.K) (hr:∀w',Kb w0 w'→Reads w' a.v a.bs) (hm:a.bs.length≤2000):Kc 59 #[.pointer (some ⟨gc,0,none⟩),.agg (apC a).toArray] w (DoPost9 w0 gc g gs q room (nb+1)):=(Yim h h5 hnb hL a hK hr hm).mono fun _ _ ⟨e,cs',fr',root',va',al',k,_⟩=>⟨e,cs',fr',root',va',al',k⟩
theorem Ydp (h:Sn w0 w gc g gs q room cs fr root va al nb) (h5:room≤5000) (hnb:nb≤1000) (hL:∀w',Kb w0 w'→Laid w') {K:Lq} {v:Value} {bs:Lq} {hh:Int} (hK:Key K) (hr:∀w',Kb w0 w'→Reads w' v bs) (hm:bs.length≤2000) (HPost:Hid (∀w' cs' fr' root' va' al',Sn w0 w' gc g gs q room cs' fr' root' va' al' (nb+1)→P (.returned (.bool true)) w')):Kc 35 #[.pointer (some ⟨gc,0,none⟩),.agg (apL 7 K v hh).toArray] w P:=by
 have u0:=(⟨h5,hnb,hL,hK,hr,hm⟩:_∧_∧_∧_∧_∧_);clear u0;have HKL:=Za hK.1;have HKZ:Hid ((Tryz.prog.info? 34).map (·.size)=some (B K).toList.length):=by show _=_;rw [Array.length_toList,Zj,HKL.out];exact Zi
 obtain ⟨S,o⟩:=h.so;have HO:=Za o;have HLL:=Za hL;have HDR:Hid (∀w2 w3,P7 w2 S w3 g gs q room cs fr→Kq S w2 Laid→Kc 14 #[.pointer (some ⟨g,0,none⟩),.int .i64 root,.agg (B K)] w3 fun e w'=>∃y b er cs' fr',e=.returned (.tuple #[.int .i64 y,.bool b,.int .i64 er])∧Two7 w2 S g gs q room 15 #[.pointer (some ⟨q,0,none⟩),.int .i64 root,.agg (B K)] (.returned (.tuple #[.int .i64 y,.bool b,.int .i64 er])) cs' fr' w'∧∀i,own cs' [] i≤own cs [] i+1):=fun w2 w3 p k3=>Zyx p h5 (fun i=>by have:=HO.out.own i;omega) root hK k3
 clear o h hK hr hm hL h5 hnb;go_enter Tryz.func35,Tryz.ntmps35
 go_wp2_with (first
  |((with_reducible refine Zl 3 ?_);refine Zc _ rfl _ _ rfl _ rfl ?_;intro w1 b3 hg3 hl3 B3 q1;have HQ1:=Za q1;have HB1:=Za (Kq.blk B3 (HO.out.new b3 hg3));have HO1:=Za (HO.out.rebase q1);have zk:=Zeh B3;obtain ⟨y0,y1,y2,y3⟩:=Zm HO1.out.blk.now;clear hg3 hl3 B3 q1))
 have HO2:=Za (HO1.out.rebase (below_drewN (Below.refl w1.heap.size w1) 1));have HB2:=Za (HB1.out.grow (below_drewN (Below.refl w1.heap.size w1) 1));refine wp_region_held_drew (S:=fun w'=>Blk w' gc 32 #[.pointer (some ⟨g,0,none⟩),.pointer (some ⟨q,0,none⟩),.int .i64 root,va]∧Blk w' b3 74 (apL 7 K v hh).toArray) (by kernel_rfl) (⟨HO2.out.blk.now,HB2.out.now⟩) (fun hHeld=>?_);refine tkp 0 (.pointer (some ⟨gc,0,none⟩)) hHeld ?_;simp only [zq];refine tkp 1 (.pointer (some ⟨gc,0,none⟩)) hHeld ?_;simp only [zq];refine tkp 2 (.pointer (some ⟨gc,0,none⟩)) hHeld ?_;simp only [zq];refine tkg 3 (.pointer (some ⟨g,0,none⟩)) rfl (Or.inl ⟨by rfl,fun w hS=>by (have q1:=(Zm hS.1).1;go_simp)⟩) hHeld ?_;simp only [zq];refine tkp 4 (.int .i64 root) hHeld ?_;simp only [zq];refine tkp 5 (.pointer (some ⟨b3,1,none⟩)) hHeld ?_;simp only [zq];refine tkg 6 (.agg (B K)) rfl (yieldsIf_load_mid rfl 34 (.tmp 30) rfl b3 1 rfl (B K).toList _ (fun w hS=>Zdv hS.2) Tryz.underlying34 rfl HKZ.out) hHeld ?_;simp only [zq];refine wpAnyH_ready (rs:=[7]) (by kernel_rfl) (by simp) ?_;refine AllReadyH.cons rfl (fun KQ hK=>?_) AllReadyH.nil;go_simp;refine (HDR.out _ _ HO2.out.p (HO2.out.low _ HLL.out)).mono ?_;rintro e w3 ⟨z3,d3,e3,cs3,fr3,rfl,t3,o3⟩;refine hK.out _ _ (⟨t3.kq HO2.out.blk,t3.kq HB2.out⟩) (fun hHeld=>?_);clear hK KQ;refine tkp 8 (.tuple #[.int .i64 z3,.bool d3,.int .i64 e3]) hHeld ?_;simp only [zq];refine tkp 9 (.int .i64 z3) hHeld ?_;simp only [zq];refine tkp 10 (.bool d3) hHeld ?_;simp only [zq];refine tkp 11 (.int .i64 e3) hHeld ?_;simp only [zq];refine tkp 12 (.int .i64 z3) hHeld ?_;simp only [zq];refine tkp 13 (.bool d3) hHeld ?_;simp only [zq];refine tkp 14 (.int .i64 e3) hHeld ?_;simp only [zq];refine wpAnyH_done (by kernel_rfl) ?_ _;have HT3:=Za t3;clear t3 hHeld
 go_wp2_with fail
 have hT3:=HT3.out.grow (below_drewN (Below.refl _ _) 1);refine wp_region_held_drew (S:=fun w'=>Blk w' gc 32 #[.pointer (some ⟨g,0,none⟩),.pointer (some ⟨q,0,none⟩),.int .i64 root,va]∧Blk w' b3 74 (apL 7 K v hh).toArray) (by kernel_rfl) (⟨hT3.kq HO2.out.blk,hT3.kq HB2.out⟩) (fun hHeld=>?_);refine tkp 0 (.pointer (some ⟨gc,0,none⟩)) hHeld ?_;simp only [zq];refine tkp 1 (.pointer (some ⟨gc,0,none⟩)) hHeld ?_;simp only [zq];refine tkp 2 (.pointer (some ⟨gc,1,none⟩)) hHeld ?_;simp only [zq];refine tkg 3 (.pointer (some ⟨q,0,none⟩)) rfl (Or.inl ⟨by rfl,fun w hS=>by (have q1:=(Zm hS.1).2.1;go_simp)⟩) hHeld ?_;simp only [zq];refine tkp 4 (.int .i64 root) hHeld ?_;simp only [zq];refine tkp 5 (.pointer (some ⟨b3,1,none⟩)) hHeld ?_;simp only [zq];refine tkg 6 (.agg (B K)) rfl (yieldsIf_load_mid rfl 34 (.tmp 42) rfl b3 1 rfl (B K).toList _ (fun w hS=>Zdv hS.2) Tryz.underlying34 rfl HKZ.out) hHeld ?_;simp only [zq];refine wpAnyH_ready (rs:=[7]) (by kernel_rfl) (by simp) ?_;refine AllReadyH.cons rfl (fun KQ hK=>?_) AllReadyH.nil;go_simp;refine hT3.go.mono ?_;rintro e w4 ⟨rfl,t4⟩;refine hK.out _ _ (⟨t4.kq HO2.out.blk,t4.kq HB2.out⟩) (fun hHeld=>?_);clear hK KQ;refine tkp 8 (.tuple #[.int .i64 z3,.bool d3,.int .i64 e3]) hHeld ?_;simp only [zq];refine tkp 9 (.int .i64 z3) hHeld ?_;simp only [zq];refine tkp 10 (.bool d3) hHeld ?_;simp only [zq];refine tkp 11 (.int .i64 e3) hHeld ?_;simp only [zq];refine tkp 12 (.int .i64 z3) hHeld ?_;simp only [zq];refine tkp 13 (.bool d3) hHeld ?_;simp only [zq];refine tkp 14 (.int .i64 e3) hHeld ?_;simp only [zq];refine wpAnyH_done (by kernel_rfl) ?_ _;have HN3:=Za (HO2.out.next _ _ _ (nb+1) t4 (fun i=>by have:=o3 i;have:=HO.out.own i;omega));clear hHeld t4 o3 hT3 HT3
 by_cases e0:e3=0
 ·subst e0;obtain ⟨x0,x1,x2,x3⟩:=Zm HN3.out.blk;have xf:=HN3.out.blk.frozen 2;cases d3 <;> (
   go_wp2
   exact HPost.out _ _ _ _ _ _ (HN3.out.turn z3))
 ·have e1:(e3 == 0)=false:=by simp [e0]
  cases d3 <;> (
   go_wp2
   exact HPost.out _ _ _ _ _ _ HN3.out)
theorem Ydq (h:Sn w0 w gc g gs q room cs fr root va al nb) (h5:room≤5000) (hnb:nb≤1000) (hL:∀w',Kb w0 w'→Laid w') {K:Lq} {v:Value} {bs:Lq} {hh:Int} (hK:Key K) (hr:∀w',Kb w0 w'→Reads w' v bs) (hm:bs.length≤2000) (HPost:Hid (∀w' cs' fr' root' va' al',Sn w0 w' gc g gs q room cs' fr' root' va' al' (nb+1)→P (.returned (.bool true)) w')):Kc 35 #[.pointer (some ⟨gc,0,none⟩),.agg (apL 9 K v hh).toArray] w P:=by
 have u0:=(⟨h5,hnb,hL,hK,hr,hm⟩:_∧_∧_∧_∧_∧_);clear u0;have HKL:=Za hK.1;have HKZ:Hid ((Tryz.prog.info? 34).map (·.size)=some (B K).toList.length):=by show _=_;rw [Array.length_toList,Zj,HKL.out];exact Zi
 obtain ⟨S,o⟩:=h.so;have HO:=Za o;obtain ⟨yc,ec,hc⟩:=Zsk o.p h5 root hK;have HC1:Hid (Kr w 12 #[.pointer (some ⟨g,0,none⟩),.int .i64 root,.agg (B K)] (.tuple #[.int .i64 yc,.int .i64 ec])):=fun w' hb=>(hc w' hb).1
 have HC2:Hid (Kr w 13 #[.pointer (some ⟨q,0,none⟩),.int .i64 root,.agg (B K)] (.tuple #[.int .i64 yc,.int .i64 ec])):=fun w' hb=>(hc w' hb).2
 have HN:=Za (h.more (Nat.le_succ nb));clear o h hK hr hm hL h5 hnb hc;go_enter Tryz.func35,Tryz.ntmps35
 go_wp2_with (first
  |((with_reducible refine Zl 3 ?_);refine Zc _ rfl _ _ rfl _ rfl ?_;intro w1 b3 hg3 hl3 B3 q1;have HQ1:=Za q1;have HB1:=Za (Kq.blk B3 (HO.out.new b3 hg3));have HO1:=Za (HO.out.rebase q1);have zk:=Zeh B3;obtain ⟨y0,y1,y2,y3⟩:=Zm HO1.out.blk.now;clear hg3 hl3 B3 q1))
 refine wp_region_held_drew (S:=fun w'=>Kb w1 w') (by kernel_rfl) (below_drewN (Below.refl _ _) 1) (fun hHeld=>?_);refine tkp 0 (.pointer (some ⟨gc,0,none⟩)) hHeld ?_;simp only [zq];refine tkp 1 (.pointer (some ⟨gc,0,none⟩)) hHeld ?_;simp only [zq];refine tkp 2 (.pointer (some ⟨gc,0,none⟩)) hHeld ?_;simp only [zq];refine tkg 3 (.pointer (some ⟨g,0,none⟩)) rfl (Or.inl ⟨by rfl,fun w hS=>by (have q1:=(Zm (HO1.out.blk.now.grow hS)).1;go_simp)⟩) hHeld ?_;simp only [zq];refine tkp 4 (.int .i64 root) hHeld ?_;simp only [zq];refine tkp 5 (.pointer (some ⟨b3,1,none⟩)) hHeld ?_;simp only [zq];refine tkg 6 (.agg (B K)) rfl (yieldsIf_load_mid rfl 34 (.tmp 75) rfl b3 1 rfl (B K).toList _ (fun w hS=>Zdv (HB1.out.now.grow hS)) Tryz.underlying34 rfl HKZ.out) hHeld ?_;simp only [zq];refine wpAnyH_ready (rs:=[7]) (by kernel_rfl) (by simp) ?_;refine AllReadyH.cons rfl (fun KQ hK=>?_) AllReadyH.nil;go_simp;refine (HC1.out _ (Zb HQ1.out hHeld)).mono ?_;rintro e z1 ⟨rfl,a1⟩;refine hK.out _ _ (Zb hHeld a1) (fun hHeld=>?_);clear hK KQ;refine tkp 8 (.tuple #[.int .i64 yc,.int .i64 ec]) hHeld ?_;simp only [zq];refine tkp 9 (.int .i64 yc) hHeld ?_;simp only [zq];refine tkp 10 (.int .i64 ec) hHeld ?_;simp only [zq];refine tkp 11 (.int .i64 yc) hHeld ?_;simp only [zq];refine tkp 12 (.int .i64 ec) hHeld ?_;simp only [zq];refine wpAnyH_done (by kernel_rfl) ?_ _;have HH:=Za hHeld;clear hHeld a1
 go_wp2_with fail
 refine wp_region_held_drew (S:=fun w'=>Kb w1 w') (by kernel_rfl) (Zb HH.out (below_drewN (Below.refl _ _) 1)) (fun hHeld=>?_);refine tkp 0 (.pointer (some ⟨gc,0,none⟩)) hHeld ?_;simp only [zq];refine tkp 1 (.pointer (some ⟨gc,0,none⟩)) hHeld ?_;simp only [zq];refine tkp 2 (.pointer (some ⟨gc,1,none⟩)) hHeld ?_;simp only [zq];refine tkg 3 (.pointer (some ⟨q,0,none⟩)) rfl (Or.inl ⟨by rfl,fun w hS=>by (have q1:=(Zm (HO1.out.blk.now.grow hS)).2.1;go_simp)⟩) hHeld ?_;simp only [zq];refine tkp 4 (.int .i64 root) hHeld ?_;simp only [zq];refine tkp 5 (.pointer (some ⟨b3,1,none⟩)) hHeld ?_;simp only [zq];refine tkg 6 (.agg (B K)) rfl (yieldsIf_load_mid rfl 34 (.tmp 86) rfl b3 1 rfl (B K).toList _ (fun w hS=>Zdv (HB1.out.now.grow hS)) Tryz.underlying34 rfl HKZ.out) hHeld ?_;simp only [zq];refine wpAnyH_ready (rs:=[7]) (by kernel_rfl) (by simp) ?_;refine AllReadyH.cons rfl (fun KQ hK=>?_) AllReadyH.nil;go_simp;refine (HC2.out _ (Zb HQ1.out hHeld)).mono ?_;rintro e z2 ⟨rfl,a2⟩;refine hK.out _ _ (Zb hHeld a2) (fun hHeld=>?_);clear hK KQ;refine tkp 8 (.tuple #[.int .i64 yc,.int .i64 ec]) hHeld ?_;simp only [zq];refine tkp 9 (.int .i64 yc) hHeld ?_;simp only [zq];refine tkp 10 (.int .i64 ec) hHeld ?_;simp only [zq];refine tkp 11 (.int .i64 yc) hHeld ?_;simp only [zq];refine tkp 12 (.int .i64 ec) hHeld ?_;simp only [zq];refine wpAnyH_done (by kernel_rfl) ?_ _;have HN3:=Za (HN.out.grow (Zb HQ1.out hHeld));clear hHeld a2;go_wp2
 exact HPost.out _ _ _ _ _ _ HN3.out
theorem Ydo (h:Sn w0 w gc g gs q room cs fr root va al nb) (h5:room≤5000) (hnb:nb≤1000) (hL:∀w',Kb w0 w'→Laid w') {K:Lq} {v:Value} {bs:Lq} {hh:Int} (hK:Key K) (hr:∀w',Kb w0 w'→Reads w' v bs) (hm:bs.length≤2000) (HPost:Hid (∀w' cs' fr' root' va' al',Sn w0 w' gc g gs q room cs' fr' root' va' al' (nb+1)→P (.returned (.bool true)) w')) {k:Int} (k7:(k == 7)=false) (k9:(k == 9)=false):Kc 35 #[.pointer (some ⟨gc,0,none⟩),.agg (apL k K v hh).toArray] w P:=by
 have u0:=(⟨h5,hnb,hL,hK,hr,hm⟩:_∧_∧_∧_∧_∧_);clear u0;have HKL:=Za hK.1;have HKZ:Hid ((Tryz.prog.info? 34).map (·.size)=some (B K).toList.length):=by show _=_;rw [Array.length_toList,Zj,HKL.out];exact Zi
 obtain ⟨S,o⟩:=h.so;have HO:=Za o;have HAZ:Hid ((Tryz.prog.info? 74).map (·.size)=some (apL k K v hh).toArray.toList.length):=by show _=_;rw [List.toList_toArray,Zbk _ _ _ _ HKL.out];exact Zcc
 have HDO:Hid (∀w',Kb w w'→Kc 59 #[.pointer (some ⟨gc,0,none⟩),.agg (apL k K v hh).toArray] w' (DoPost9 w0 gc g gs q room (nb+1))):=fun w' hb=>Ykv (h.grow hb) h5 hnb hL ⟨k,K,v,bs,hh⟩ hK hr hm
 clear o h hK hr hm hL h5 hnb HKZ;go_enter Tryz.func35,Tryz.ntmps35
 go_wp2_with (first
  |((with_reducible refine Zl 3 ?_);refine Zc _ rfl _ _ rfl _ rfl ?_;intro w1 b3 hg3 hl3 B3 q1;have HQ1:=Za q1;have HB1:=Za (Kq.blk B3 (HO.out.new b3 hg3));have HO1:=Za (HO.out.rebase q1);have zk:=Zeh B3;obtain ⟨y0,y1,y2,y3⟩:=Zm HO1.out.blk.now;clear hg3 hl3 B3 q1)
  |((with_reducible refine Zk 100 3 ?_);refine wpList_load_mid rfl _ _ rfl b3 0 rfl (apL k K v hh).toArray.toList _ HB1.out.now.range Tryz.underlying74 rfl HAZ.out ?_)
  |(go_at_call 59;refine (HDO.out _ HQ1.out).mono ?_;rintro e w3 ⟨rfl,cs3,fr3,root3,va3,al3,n3⟩;have HN3:=Za n3;clear n3))
 exact HPost.out _ _ _ _ _ _ HN3.out
theorem Yfk (h:Sn w0 w gc g gs q room cs fr root va al nb) (h5:room≤5000) (hnb:nb≤1000) (hL:∀w',Kb w0 w'→Laid w') (a:Ap) (hK:Key a.K) (hr:∀w',Kb w0 w'→Reads w' a.v a.bs) (hm:a.bs.length≤2000):Kc 35 #[.pointer (some ⟨gc,0,none⟩),.agg (apC a).toArray] w (DoPost9 w0 gc g gs q room (nb+1)):=by
 obtain ⟨k,K,v,bs,hh⟩:=a;have hsh:apC ⟨k,K,v,bs,hh⟩=apL k K v hh:=rfl;rw [hsh];have HPost:Hid (∀w' cs' fr' root' va' al',Sn w0 w' gc g gs q room cs' fr' root' va' al' (nb+1)→DoPost9 w0 gc g gs q room (nb+1) (.returned (.bool true)) w'):=fun w' cs' fr' root' va' al' s=>⟨rfl,cs',fr',root',va',al',s⟩
 by_cases k7:k=7
 ·subst k7;exact Ydp h h5 hnb hL hK hr hm HPost
 by_cases k9:k=9
 ·subst k9;exact Ydq h h5 hnb hL hK hr hm HPost
 exact Ydo h h5 hnb hL hK hr hm HPost (by simpa using k7) (by simpa using k9)
theorem Yja (h:Hs w [] w1 g gs room [] []) (hq:w1.heap.size≤q) (d:Rs w2 q (.slice none 0 0) (.slice none 0 0) room [] []) (hb:Kb w1 w2):P7 w [] w2 g gs q room [] []:=by
 obtain ⟨⟨vp,vf,s,m,n⟩,W⟩:=h;refine ⟨[],⟨vp,vf,_,_,s.grow hb,d,fun k hk hk2=>?_,m.trans' (Mod.of_below hb []),n,fun k hk=>.inr ?_⟩,Rel7.new,W⟩
 ·have:=s.lts k hk;rcases Zt.1 hk2 with rfl | h | h | ⟨_,h,_⟩
  ·omega
  ·cases h
  ·cases h
  ·cases h
 ·rcases Zt.1 hk with rfl | h | h | ⟨_,h,_⟩
  ·exact Nat.le_trans m.size hq
  ·cases h
  ·cases h
  ·cases h
end Go.Proofs.YtgfdgjkbcdmboaaGreatDoor
