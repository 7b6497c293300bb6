/- The document's Cost: its walk. -/
import Derived.Test.YtlclabbnpjobgaaGreatDoorAp42
namespace Go.Proofs.YtlclabbnpjobgaaGreatDoor
variable {K al bs:Lq}
variable {S0 fr:List Nat}
variable {T:Tre}
variable {b h k n q room top wn:Nat}
variable {cs cs' cs1:Lz}
variable {er fi root rt y:Int}
variable {u:Value}
variable {w w' w0:World}
set_option maxHeartbeats 4000000
set_option maxRecDepth 20000
open Go.RowKit
theorem Ydu
  (HPS:Hid ((Tryz.prog.info? 48).map (·.size)=some (B K).size)) (hwn:wn≤256)
  (HWR:Hid (Kr w 137 #[.pointer (some ⟨q,0,none⟩),.int .i64 rt,u] (.int .i64 0)))
  (HWY:Hid (∀w',Kb w w'→Kc 138 #[.pointer (some ⟨q,0,none⟩),.int .i64 rt,.agg (B K)] w' fun e w''=>∃a c,e=.returned (.tuple #[.slice a wn c,.int .i64 fi])∧Below w'.heap.size w' w''))
  (HTH:Hid (Kr w 139 #[.pointer (some ⟨q,0,none⟩),.int .i64 fi,.agg (B K),u] (.bool true))):Kc 97 #[.pointer (some ⟨q,0,none⟩),.int .i64 rt,.agg (B K),u] w fun e w'=>e=.returned (.tuple #[.int .i64 0,.int .i64 0])∧Kb w w':=by
 have HPL:Hid ((Tryz.prog.info? 48).map (·.size)=some (B K).toList.length):=by show _=_;rw [Array.length_toList];exact HPS.out
 have hw1:wrap64 (1+(wn:Int))=1+(wn:Int):=Go.IntWalk.wrap64_in _ (by omega);clear HPL hw1 hwn;go_enter Tryz.func97,Tryz.ntmps97
 go_wp2_with (first
  |((with_reducible refine Zo 6 ?_);refine Zd _ rfl _ _ rfl _ rfl ?_;intro w1 b6 hg6 hl6 B6 q6;have HB1:=Za B6;have HQ1:=Za q6;clear hg6 hl6 B6 q6)
  |(go_at_call 137;refine (HWR.out _ HQ1.out).mono ?_;rintro e w2 ⟨rfl,b2⟩;have HQ2:=Za (Zb HQ1.out b2);have HB2:=Za (HB1.out.grow b2);clear b2)
  |((with_reducible refine Zk 24 6 ?_);refine Zg _ rfl _ _ rfl b6 _ rfl HB2.out _ _ Tryz.underlying48 HPS.out ?_)
  |(go_at_call 138;refine (HWY.out _ HQ2.out).mono ?_;rintro e w4 ⟨wa,wc,rfl,b4⟩;have HQ4:=Za (Zb HQ2.out b4);have HB4:=Za (HB2.out.grow b4);clear b4)
  |((with_reducible refine Zk 30 6 ?_);refine Zg _ rfl _ _ rfl b6 _ rfl HB4.out _ _ Tryz.underlying48 HPS.out ?_)
  |(go_at_call 139;refine (HTH.out _ HQ4.out).mono ?_;rintro e w5 ⟨rfl,b5⟩;have HQ5:=Za (Zb HQ4.out b5);have HB5:=Za (HB4.out.grow b5);clear b5))
 go_ret2;exact ⟨rfl,HQ5.out⟩
theorem Zzk
  (HPS:Hid ((Tryz.prog.info? 48).map (·.size)=some (B K).size)) (hwn:wn≤256)
  (HWR:Hid (Kr w 137 #[.pointer (some ⟨q,0,none⟩),.int .i64 rt,u] (.int .i64 0)))
  (HWY:Hid (∀w',Kb w w'→Kc 138 #[.pointer (some ⟨q,0,none⟩),.int .i64 rt,.agg (B K)] w' fun e w''=>∃a c,e=.returned (.tuple #[.slice a wn c,.int .i64 fi])∧Below w'.heap.size w' w''))
  (HTH:Hid (Kr w 139 #[.pointer (some ⟨q,0,none⟩),.int .i64 fi,.agg (B K),u] (.bool false)))
  (HKD:Hid (Kr w 141 #[.pointer (some ⟨q,0,none⟩),.int .i64 fi] (.int .u8 0))):Kc 97 #[.pointer (some ⟨q,0,none⟩),.int .i64 rt,.agg (B K),u] w fun e w'=>e=.returned (.tuple #[.int .i64 ((1+wn:Nat):Int),.int .i64 0])∧Kb w w':=by
 have HPL:Hid ((Tryz.prog.info? 48).map (·.size)=some (B K).toList.length):=by show _=_;rw [Array.length_toList];exact HPS.out
 have hw1:wrap64 (1+(wn:Int))=1+(wn:Int):=Go.IntWalk.wrap64_in _ (by omega);go_enter Tryz.func97,Tryz.ntmps97
 go_wp2_with (first
  |((with_reducible refine Zo 6 ?_);refine Zd _ rfl _ _ rfl _ rfl ?_;intro w1 b6 hg6 hl6 B6 q6;have HB1:=Za B6;have HQ1:=Za q6;clear hg6 hl6 B6 q6)
  |(go_at_call 137;refine (HWR.out _ HQ1.out).mono ?_;rintro e w2 ⟨rfl,b2⟩;have HQ2:=Za (Zb HQ1.out b2);have HB2:=Za (HB1.out.grow b2);clear b2)
  |((with_reducible refine Zk 24 6 ?_);refine Zg _ rfl _ _ rfl b6 _ rfl HB2.out _ _ Tryz.underlying48 HPS.out ?_)
  |(go_at_call 138;refine (HWY.out _ HQ2.out).mono ?_;rintro e w4 ⟨wa,wc,rfl,b4⟩;have HQ4:=Za (Zb HQ2.out b4);have HB4:=Za (HB2.out.grow b4);clear b4)
  |((with_reducible refine Zk 30 6 ?_);refine Zg _ rfl _ _ rfl b6 _ rfl HB4.out _ _ Tryz.underlying48 HPS.out ?_)
  |(go_at_call 139;refine (HTH.out _ HQ4.out).mono ?_;rintro e w5 ⟨rfl,b5⟩;have HQ5:=Za (Zb HQ4.out b5);have HB5:=Za (HB4.out.grow b5);clear b5))
 clear HWR HWY HTH HB1 HB2 HB4 HQ1 HQ2 HQ4;refine wp_region_held_drew (S:=fun w'=>Kb w5 w') (by kernel_rfl) (below_drewN (Below.refl _ _) 1) (fun hHeld=>?_);refine tkp 0 (.pointer (some ⟨q,0,none⟩)) hHeld ?_;simp only [zq];refine tkp 1 (.int .i64 fi) hHeld ?_;simp only [zq];refine wpAnyH_ready (rs:=[2]) (by kernel_rfl) (by simp) ?_;refine AllReadyH.cons rfl (fun KQ hK=>?_) AllReadyH.nil;go_simp;refine (HKD.out _ (Zb HQ5.out hHeld)).mono ?_;rintro e z1 ⟨rfl,a1⟩;refine hK.out _ _ (Zb hHeld a1) (fun hHeld=>?_);clear hK KQ;refine tkp 3 (.bool false) hHeld ?_;simp only [zq];refine tkp 4 (.bool false) hHeld ?_;simp only [zq];refine tks 5 hHeld ?_;simp only [zq];refine tks 6 hHeld ?_;simp only [zq];refine tks 7 hHeld ?_;simp only [zq];refine tks 8 hHeld ?_;simp only [zq];refine tks 9 hHeld ?_;simp only [zq];refine tkp 10 (.bool false) hHeld ?_;simp only [zq];refine wpAnyH_done (by kernel_rfl) ?_ _;have HH:=Za hHeld;clear hHeld
 go_wp2_with fail
 go_ret2;exact ⟨by rfl,Zb HQ5.out HH.out⟩
theorem Zzj
  (HPS:Hid ((Tryz.prog.info? 48).map (·.size)=some (B K).size)) (hwn:wn≤256)
  (HWR:Hid (Kr w 137 #[.pointer (some ⟨q,0,none⟩),.int .i64 rt,u] (.int .i64 0)))
  (HWY:Hid (∀w',Kb w w'→Kc 138 #[.pointer (some ⟨q,0,none⟩),.int .i64 rt,.agg (B K)] w' fun e w''=>∃a c,e=.returned (.tuple #[.slice a wn c,.int .i64 fi])∧Below w'.heap.size w' w''))
  (HTH:Hid (Kr w 139 #[.pointer (some ⟨q,0,none⟩),.int .i64 fi,.agg (B K),u] (.bool false)))
  (HKD:Hid (Kr w 141 #[.pointer (some ⟨q,0,none⟩),.int .i64 fi] (.int .u8 1))) (HKY:Hid (Kr w 142 #[.pointer (some ⟨q,0,none⟩),.int .i64 fi] (.agg (B K)))) (hEK:∀w,(Op.equalIn 10000 48 (.agg (B K)) (.agg (B K))).run Tryz.prog w=.ok true w):Kc 97 #[.pointer (some ⟨q,0,none⟩),.int .i64 rt,.agg (B K),u] w fun e w'=>e=.returned (.tuple #[.int .i64 ((1+wn:Nat):Int),.int .i64 0])∧Kb w w':=by
 have HPL:Hid ((Tryz.prog.info? 48).map (·.size)=some (B K).toList.length):=by show _=_;rw [Array.length_toList];exact HPS.out
 have hw1:wrap64 (1+(wn:Int))=1+(wn:Int):=Go.IntWalk.wrap64_in _ (by omega);go_enter Tryz.func97,Tryz.ntmps97
 go_wp2_with (first
  |((with_reducible refine Zo 6 ?_);refine Zd _ rfl _ _ rfl _ rfl ?_;intro w1 b6 hg6 hl6 B6 q6;have HB1:=Za B6;have HQ1:=Za q6;clear hg6 hl6 B6 q6)
  |(go_at_call 137;refine (HWR.out _ HQ1.out).mono ?_;rintro e w2 ⟨rfl,b2⟩;have HQ2:=Za (Zb HQ1.out b2);have HB2:=Za (HB1.out.grow b2);clear b2)
  |((with_reducible refine Zk 24 6 ?_);refine Zg _ rfl _ _ rfl b6 _ rfl HB2.out _ _ Tryz.underlying48 HPS.out ?_)
  |(go_at_call 138;refine (HWY.out _ HQ2.out).mono ?_;rintro e w4 ⟨wa,wc,rfl,b4⟩;have HQ4:=Za (Zb HQ2.out b4);have HB4:=Za (HB2.out.grow b4);clear b4)
  |((with_reducible refine Zk 30 6 ?_);refine Zg _ rfl _ _ rfl b6 _ rfl HB4.out _ _ Tryz.underlying48 HPS.out ?_)
  |(go_at_call 139;refine (HTH.out _ HQ4.out).mono ?_;rintro e w5 ⟨rfl,b5⟩;have HQ5:=Za (Zb HQ4.out b5);have HB5:=Za (HB4.out.grow b5);clear b5))
 clear HWR HWY HTH HB1 HB2 HB4 HQ1 HQ2 HQ4;refine wp_region_held_drew (S:=fun w'=>Kb w5 w') (by kernel_rfl) (below_drewN (Below.refl _ _) 1) (fun hHeld=>?_);refine tkp 0 (.pointer (some ⟨q,0,none⟩)) hHeld ?_;simp only [zq];refine tkp 1 (.int .i64 fi) hHeld ?_;simp only [zq];refine wpAnyH_ready (rs:=[2]) (by kernel_rfl) (by simp) ?_;refine AllReadyH.cons rfl (fun KQ hK=>?_) AllReadyH.nil;go_simp;refine (HKD.out _ (Zb HQ5.out hHeld)).mono ?_;rintro e z1 ⟨rfl,a1⟩;refine hK.out _ _ (Zb hHeld a1) (fun hHeld=>?_);clear hK KQ;refine tkp 3 (.bool true) hHeld ?_;simp only [zq];refine tkp 4 (.bool true) hHeld ?_;simp only [zq];refine tkp 5 (.pointer (some ⟨q,0,none⟩)) hHeld ?_;simp only [zq];refine tkp 6 (.int .i64 fi) hHeld ?_;simp only [zq];refine tkg 8 (.agg (B K)) rfl (yieldsIf_load_mid rfl 48 (.tmp 6) rfl b6 0 rfl (B K).toList _ (fun w hS=>(HB5.out.grow hS).range) Tryz.underlying48 rfl HPL.out) hHeld ?_;simp only [zq];refine wpAnyH_ready (rs:=[7]) (by kernel_rfl) (by simp) ?_;refine AllReadyH.cons rfl (fun KQ hK=>?_) AllReadyH.nil;go_simp;refine (HKY.out _ (Zb HQ5.out hHeld)).mono ?_;rintro e z2 ⟨rfl,a2⟩;refine hK.out _ _ (Zb hHeld a2) (fun hHeld=>?_);clear hK KQ;refine tkp 9 (.bool false) hHeld ?_;simp only [zq];refine tkp 10 (.bool false) hHeld ?_;simp only [zq];refine wpAnyH_done (by kernel_rfl) ?_ _;have HH:=Za hHeld;clear hHeld
 go_wp2_with fail
 go_ret2;exact ⟨by rfl,Zb HQ5.out HH.out⟩
theorem Ydv
  (HPS:Hid ((Tryz.prog.info? 48).map (·.size)=some (B K).size)) (hwn:wn≤256)
  (HWR:Hid (Kr w 137 #[.pointer (some ⟨q,0,none⟩),.int .i64 rt,u] (.int .i64 0)))
  (HWY:Hid (∀w',Kb w w'→Kc 138 #[.pointer (some ⟨q,0,none⟩),.int .i64 rt,.agg (B K)] w' fun e w''=>∃a c,e=.returned (.tuple #[.slice a wn c,.int .i64 fi])∧Below w'.heap.size w' w''))
  (HTH:Hid (Kr w 139 #[.pointer (some ⟨q,0,none⟩),.int .i64 fi,.agg (B K),u] (.bool false)))
  (HKD:Hid (Kr w 141 #[.pointer (some ⟨q,0,none⟩),.int .i64 fi] (.int .u8 1))) {ky:Lq} {c:Nat} (hc:wn≤c∧c<256) (HKY:Hid (Kr w 142 #[.pointer (some ⟨q,0,none⟩),.int .i64 fi] (.agg (B ky)))) (HCM:Hid (∀w',Kc 143 #[.agg (B K),.agg (B ky)] w' fun e w''=>e=.returned (.int .i64 (c:Int))∧Below w'.heap.size w' w'')) (hEK:∀w,(Op.equalIn 10000 48 (.agg (B ky)) (.agg (B K))).run Tryz.prog w=.ok false w):Kc 97 #[.pointer (some ⟨q,0,none⟩),.int .i64 rt,.agg (B K),u] w fun e w'=>e=.returned (.tuple #[.int .i64 ((1+(c+1):Nat):Int),.int .i64 0])∧Kb w w':=by
 have HPL:Hid ((Tryz.prog.info? 48).map (·.size)=some (B K).toList.length):=by show _=_;rw [Array.length_toList];exact HPS.out
 have hw1:wrap64 (1+(wn:Int))=1+(wn:Int):=Go.IntWalk.wrap64_in _ (by omega);obtain ⟨hc1,hc2⟩:=hc;have hw2:IntKind.i64.wrap (1+(wn:Int)+(c:Int))=1+(wn:Int)+(c:Int):=(Go.IntWalk.i64_left _).trans (Go.IntWalk.wrap64_in _ (by omega));have hw3:IntKind.i64.wrap (1+(wn:Int)+(c:Int)-(wn:Int))=1+(c:Int):=(Go.IntWalk.i64_left _).trans ((Go.IntWalk.wrap64_in _ (by omega)).trans (by omega));have hw4:IntKind.i64.wrap (1+(c:Int)+1)=((1+(c+1):Nat):Int):=(Go.IntWalk.i64_left _).trans ((Go.IntWalk.wrap64_in _ (by omega)).trans (by omega));go_enter Tryz.func97,Tryz.ntmps97
 go_wp2_with (first
  |((with_reducible refine Zo 6 ?_);refine Zd _ rfl _ _ rfl _ rfl ?_;intro w1 b6 hg6 hl6 B6 q6;have HB1:=Za B6;have HQ1:=Za q6;clear hg6 hl6 B6 q6)
  |(go_at_call 137;refine (HWR.out _ HQ1.out).mono ?_;rintro e w2 ⟨rfl,b2⟩;have HQ2:=Za (Zb HQ1.out b2);have HB2:=Za (HB1.out.grow b2);clear b2)
  |((with_reducible refine Zk 24 6 ?_);refine Zg _ rfl _ _ rfl b6 _ rfl HB2.out _ _ Tryz.underlying48 HPS.out ?_)
  |(go_at_call 138;refine (HWY.out _ HQ2.out).mono ?_;rintro e w4 ⟨wa,wc,rfl,b4⟩;have HQ4:=Za (Zb HQ2.out b4);have HB4:=Za (HB2.out.grow b4);clear b4)
  |((with_reducible refine Zk 30 6 ?_);refine Zg _ rfl _ _ rfl b6 _ rfl HB4.out _ _ Tryz.underlying48 HPS.out ?_)
  |(go_at_call 139;refine (HTH.out _ HQ4.out).mono ?_;rintro e w5 ⟨rfl,b5⟩;have HQ5:=Za (Zb HQ4.out b5);have HB5:=Za (HB4.out.grow b5);clear b5))
 clear HWR HWY HTH HB1 HB2 HB4 HQ1 HQ2 HQ4;refine wp_region_held_drew (S:=fun w'=>Kb w5 w') (by kernel_rfl) (below_drewN (Below.refl _ _) 1) (fun hHeld=>?_);refine tkp 0 (.pointer (some ⟨q,0,none⟩)) hHeld ?_;simp only [zq];refine tkp 1 (.int .i64 fi) hHeld ?_;simp only [zq];refine wpAnyH_ready (rs:=[2]) (by kernel_rfl) (by simp) ?_;refine AllReadyH.cons rfl (fun KQ hK=>?_) AllReadyH.nil;go_simp;refine (HKD.out _ (Zb HQ5.out hHeld)).mono ?_;rintro e z1 ⟨rfl,a1⟩;refine hK.out _ _ (Zb hHeld a1) (fun hHeld=>?_);clear hK KQ;refine tkp 3 (.bool true) hHeld ?_;simp only [zq];refine tkp 4 (.bool true) hHeld ?_;simp only [zq];refine tkp 5 (.pointer (some ⟨q,0,none⟩)) hHeld ?_;simp only [zq];refine tkp 6 (.int .i64 fi) hHeld ?_;simp only [zq];refine tkg 8 (.agg (B K)) rfl (yieldsIf_load_mid rfl 48 (.tmp 6) rfl b6 0 rfl (B K).toList _ (fun w hS=>(HB5.out.grow hS).range) Tryz.underlying48 rfl HPL.out) hHeld ?_;simp only [zq];refine wpAnyH_ready (rs:=[7]) (by kernel_rfl) (by simp) ?_;refine AllReadyH.cons rfl (fun KQ hK=>?_) AllReadyH.nil;go_simp;refine (HKY.out _ (Zb HQ5.out hHeld)).mono ?_;rintro e z2 ⟨rfl,a2⟩;refine hK.out _ _ (Zb hHeld a2) (fun hHeld=>?_);clear hK KQ;refine tkp 9 (.bool true) hHeld ?_;simp only [zq];refine tkp 10 (.bool true) hHeld ?_;simp only [zq];refine wpAnyH_done (by kernel_rfl) ?_ _;have HH:=Za hHeld;clear hHeld
 go_wp2_with fail
 refine wp_region_held_drew (S:=fun w'=>Kb w5 w') (by kernel_rfl) (Zb HH.out (below_drewN (Below.refl _ _) 1)) (fun hHeld=>?_);refine tkp 0 (.int .i64 (1+(wn:Int))) hHeld ?_;simp only [zq];refine tkg 1 (.agg (B K)) rfl (yieldsIf_load_mid rfl 48 (.tmp 6) rfl b6 0 rfl (B K).toList _ (fun w hS=>(HB5.out.grow hS).range) Tryz.underlying48 rfl HPL.out) hHeld ?_;simp only [zq];refine tkp 2 (.pointer (some ⟨q,0,none⟩)) hHeld ?_;simp only [zq];refine tkp 3 (.int .i64 fi) hHeld ?_;simp only [zq];refine tkp 7 (.slice wa wn wc) hHeld ?_;simp only [zq];refine tkp 8 (.int .i64 (wn:Int)) hHeld ?_;simp only [zq];refine wpAnyH_ready (rs:=[4]) (by kernel_rfl) (by simp) ?_;refine AllReadyH.cons rfl (fun KQ hK=>?_) AllReadyH.nil;go_simp;refine (HKY.out _ (Zb HQ5.out hHeld)).mono ?_;rintro e z3 ⟨rfl,a3⟩;refine hK.out _ _ (Zb hHeld a3) (fun hHeld=>?_);clear hK KQ;refine wpAnyH_ready (rs:=[5]) (by kernel_rfl) (by simp) ?_;refine AllReadyH.cons rfl (fun KQ hK=>?_) AllReadyH.nil;go_simp;refine (HCM.out _).mono ?_;rintro e z4 ⟨rfl,a4⟩;refine hK.out _ _ (Zb hHeld a4) (fun hHeld=>?_);clear hK KQ;refine tkp 6 (.int .i64 (1+(wn:Int)+(c:Int))) hHeld ?_;simp only [zq];refine tkp 9 (.int .i64 (1+(c:Int))) hHeld ?_;simp only [zq];refine tkp 10 (.int .i64 ((1+(c+1):Nat):Int)) hHeld ?_;simp only [zq];refine tkp 11 (.int .i64 ((1+(c+1):Nat):Int)) hHeld ?_;simp only [zq];refine wpAnyH_done (by kernel_rfl) ?_ _
 go_wp2_with fail
 go_ret2;exact ⟨rfl,Zb HQ5.out hHeld⟩
theorem Zur (V:Hr w0 S0 w q room cs fr) (h:Int) (K:Lq) (u:Value) (bs:Lq) (hu:Reads w u bs) (e0:Int) (he:vRf true (cot cs h) (cat cs h) h bs.length=e0) (h0:e0≠0):Kc 97 #[.pointer (some ⟨q,0,none⟩),.int .i64 h,.agg (B K),u] w fun e w'=>e=.returned (.tuple #[.int .i64 0,.int .i64 e0])∧Kb w w':=by
 obtain ⟨a,c,rfl,_⟩:=hu;have HRF:Hid (Kr w 137 #[.pointer (some ⟨q,0,none⟩),.int .i64 h,.slice a bs.length c] (.int .i64 e0)):=fun w' hb=>by
  have:=Zgg (V.grow hb) h a bs.length c;rwa [he] at this
 have hb0:(e0 != 0)=true:=by simpa using h0
 generalize bs.length=n at HRF ⊢;clear V he h0;go_enter Tryz.func97,Tryz.ntmps97
 go_wp2_with (first
  |((with_reducible refine Zo 6 ?_);refine Zd _ rfl _ _ rfl _ rfl ?_;intro w1 b5 hg5 hl5 B5 q5;have HQ5:=Za q5;clear hg5 hl5 B5 q5)
  |(go_at_call 137;refine (HRF.out _ HQ5.out).mono ?_;rintro e w2 ⟨rfl,b2⟩;have HQ2:=Za (Zb HQ5.out b2);clear b2))
 go_ret2;exact ⟨rfl,HQ2.out⟩
theorem Zus (V:Hr w0 S0 w q room cs fr) (h5:room≤5000) {h:Nat} {T:Tre} (r:Rt cs h T) {K:Lq} (hK:Key K) {u:Value} {bs:Lq} (hu:Reads w u bs) (hl:bs.length≤1024) {ss:List Nat} (hss:BesIs K T h ss):Kc 97 #[.pointer (some ⟨q,0,none⟩),.int .i64 (h:Int),.agg (B K),u] w fun e w'=>e=.returned (.tuple #[.int .i64 (costN T K bs ss:Int),.int .i64 0])∧Kb w w':=by
 have W:=V.wf;have hlen:=Tre.hs_oth K T h;have HPS:Hid ((Tryz.prog.info? 48).map (·.size)=some (B K).size):=by show _=_;rw [Zn,hK.1];exact Zi
 have HWR:Hid (Kr w 137 #[.pointer (some ⟨q,0,none⟩),.int .i64 (h:Int),u] (.int .i64 0)):=fun w' hb=>by
  obtain ⟨a,c,hue,_⟩:=hu;have:=Zgg (V.grow hb) (h:Int) a bs.length c;rw [r.refuse hl] at this;rw [hue];exact this
 have HWY:Hid (∀w',Kb w w'→Kc 138 #[.pointer (some ⟨q,0,none⟩),.int .i64 (h:Int),.agg (B K)] w' fun e w''=>∃a c,e=.returned (.tuple #[.slice a (T.hs K h).length c,.int .i64 (T.fin K h:Int)])∧Below w'.heap.size w' w''):=fun w' hb=>(Ydg (V.grow hb) h T r.tree K hK r.dp).mono fun e w'' ⟨a,c,e1,_,b⟩=>⟨a,c,e1,b⟩
 have HTH:=fun w' (hb:Kb w w')=>Zne (V.grow hb) h5 (T.fin K h:Int) K hK u bs (hu.grow hb)
 have hwn:(T.hs K h).length≤256:=by
  have:=(Zcr W K T h 0 r.tree r.dp (by omega)).2.2;omega
 by_cases hsm:T.efin K=[(K,bs)]
 ·rw [Zsz r.tree hsm] at HTH;rw [costN,if_pos hsm];exact Ydu HPS hwn HWR HWY HTH
 ·rw [Ycb r.tree hsm] at HTH;rw [costN,if_neg hsm];have HKD:Hid (Kr w 141 #[.pointer (some ⟨q,0,none⟩),.int .i64 (T.fin K h:Int)] (.int .u8 (cat cs (T.fin K h:Int)).kind)):=fun w' hb=>Zks (V.grow hb) _
  have HKY:Hid (Kr w 142 #[.pointer (some ⟨q,0,none⟩),.int .i64 (T.fin K h:Int)] (.agg (B (cat cs (T.fin K h:Int)).key))):=fun w' hb=>Zwc (V.grow hb) h5 _
  rcases Zej K T h r.tree with ⟨f1,f2⟩ | ⟨k,b,f1,f2,f3,f4,f5,f6⟩
  ·have hsl:ss=T.oth K:=by
    rcases hss with ⟨_,e⟩ | ⟨b,e,_⟩ | ⟨k,b,c,e,_⟩
    ·exact e
    ·rw [f2] at e;cases e
    ·rw [f2] at e;cases e
   have hk0:(cat cs (T.fin K h:Int)).kind=0:=by rw [f1];rfl
   rw [hk0] at HKD;rw [hsl,← hlen];exact Zzk HPS hwn HWR HWY HTH HKD
  ·rw [Zen f2] at HKD HKY;rw [f4] at HKD;rw [f5] at HKY;rcases hss with ⟨e,_⟩ | ⟨b',e,hs⟩ | ⟨k',b',c,e,e2,e3,e4,e5,hs⟩
   ·rw [f1] at e;cases e
   ·rw [f1] at e;injection e with e _;injection e with e _;subst e;rw [hs,← hlen];exact Zzj HPS hwn HWR HWY HTH HKD HKY (fun w=>by rw [Zdo k k hK.1 hK.1 w,decide_eq_true rfl])
   ·rw [f1] at e;injection e with e _;injection e with e _;subst e;have hky:Key k:=((Zbb W T h r.tree).ent (k,b) (Zds K T (k,b) (by rw [f1];simp))).1;rw [hs,Zdb _ _ _ e4];exact Ydv HPS hwn HWR HWY HTH HKD ⟨by omega,e5⟩ HKY (fun w'=>Zgi K k c w' hK hky e3) (fun w=>by rw [Zdo k K hky.1 hK.1 w,decide_eq_false e2])
def M7 (w0:World) (S:List Nat) (w:World) (g gs q room:Nat) (cs:Lz) (fr:List Nat) (ss:List Sp) (fr2:List Nat):Prop:=∃vp vf vp2 vf2,Stm w g gs vp vf room cs fr∧Rs w q vp2 vf2 room ss fr2∧(∀k∈stB g gs vp vf cs,k ∉ rsB q vp2 vf2 ss)∧Mod S w0 w∧New S w0 (stB g gs vp vf cs)∧New S w0 (rsB q vp2 vf2 ss)
def P7 (w0:World) (S:List Nat) (w:World) (g gs q room:Nat) (cs:Lz) (fr:List Nat):Prop:=∃ss,M7 w0 S w g gs q room cs fr ss fr∧Rel7 cs [] [] ss∧Wf cs []
def Two7 (w0:World) (S:List Nat) (g gs q room:Nat) (f:FuncId) (args:Array Value) (E:Ending) (cs':Lz) (fr':List Nat) (w':World):Prop:=∃ss fr2,M7 w0 S w' g gs q room cs' fr' ss fr2∧∀w'',M7 w0 S w'' g gs q room cs' fr' ss fr2→Kc f args w'' fun e w3=>e=E∧P7 w0 S w3 g gs q room cs' fr'
section
variable {w0 w:World} {S:List Nat} {g gs q room:Nat} {cs:Lz} {fr:List Nat} {ss:List Sp} {fr2:List Nat}
theorem M7.mod (h:M7 w0 S w g gs q room cs fr ss fr2):Mod S w0 w:=by obtain ⟨_,_,_,_,_,_,_,m,_,_⟩:=h;exact m
theorem M7.grow (h:M7 w0 S w g gs q room cs fr ss fr2) (hb:Kb w w'):M7 w0 S w' g gs q room cs fr ss fr2:=by
 obtain ⟨vp,vf,vp2,vf2,s,d,ap,m,n1,n2⟩:=h;exact ⟨vp,vf,vp2,vf2,s.grow hb,d.grow hb,ap,m.trans' (Mod.of_below hb S),n1,n2⟩
theorem M7.inv (h:M7 w0 S w g gs q room cs fr ss fr2):Inv room (cs.map pl) fr:=by
 obtain ⟨vp,vf,vp2,vf2,s,_⟩:=h;exact s.sl.inv
theorem M7.useS {f:FuncId} {args:Array Value} {P:Ending→Lz→List Nat→Prop} (h:M7 w0 S w g gs q room cs fr ss fr2) (hW:Wf cs []) (hc:∀S',Hs w S' w g gs room cs fr→(∀P:World→Prop,Kq S w0 P→Kq S' w P)→Kc f args w fun e w'=>∃cs' fr',P e cs' fr'∧Hs w S' w' g gs room cs' fr'):Kc f args w fun e w'=>∃cs' fr',P e cs' fr'∧Wf cs' []∧M7 w0 S w' g gs q room cs' fr' ss fr2:=by
 obtain ⟨vp,vf,vp2,vf2,s,d,ap,m,n1,n2⟩:=h;refine (hc _ (Hs.here s hW) fun P k=>k.turn m n1).mono ?_;rintro e w' ⟨cs',fr',hp,⟨vp',vf',s',m',n'⟩,W'⟩;refine ⟨cs',fr',hp,W',vp',vf',vp2,vf2,s',d.mod m' (fun k hk hs=>ap k hs hk),fun k hk hk2=>?_,m.trans n1 m',n1.trans m.size n',n2⟩;rcases n' k hk with e | e
 ·exact ap k e hk2
 ·have:=d.lts k hk2;omega
theorem M7.useR {f:FuncId} {args:Array Value} {E:Ending} (h:M7 w0 S w g gs q room cs fr ss fr2) (R:Rel7 cs1 [] [] ss) (W:Wf cs1 []) (I:Inv room (cs1.map pl) fr2) (W':Wf cs []) (hc:∀S',Hr w S' w q room cs1 fr2→(∀P:World→Prop,Kq S w0 P→Kq S' w P)→Kc f args w fun e w'=>e=E∧Hr w S' w' q room cs fr):Kc f args w fun e w'=>e=E∧P7 w0 S w' g gs q room cs fr:=by
 obtain ⟨vp,vf,vp2,vf2,s,d,ap,m,n1,n2⟩:=h;refine (hc _ (Hr.here d R W I) fun P k=>k.turn m n2).mono ?_;rintro e w' ⟨e1,⟨ss',⟨vp',vf',d',m',n'⟩,R'⟩,_,_⟩;refine ⟨e1,ss',⟨vp,vf,vp',vf',s.mod m' (fun k hk=>ap k hk),d',fun k hk hk2=>?_,m.trans n2 m',n1,n2.trans m.size n'⟩,R',W'⟩;rcases n' k hk2 with e | e
 ·exact ap k hk e
 ·have:=s.lts k hk;omega
theorem P7.grow (h:P7 w0 S w g gs q room cs fr) (hb:Kb w w'):P7 w0 S w' g gs q room cs fr:=by
 obtain ⟨ss,M,R,W⟩:=h;exact ⟨ss,M.grow hb,R,W⟩
theorem P7.mod (h:P7 w0 S w g gs q room cs fr):Mod S w0 w:=by obtain ⟨ss,M,R,W⟩:=h;exact M.mod
theorem P7.kq {P:World→Prop} (h:P7 w0 S w g gs q room cs fr) (k:Kq S w0 P):P w:=k w h.mod
theorem P7.wf (h:P7 w0 S w g gs q room cs fr):Wf cs []:=by obtain ⟨ss,M,R,W⟩:=h;exact W
theorem P7.inv (h:P7 w0 S w g gs q room cs fr):Inv room (cs.map pl) fr:=by obtain ⟨ss,M,R,W⟩:=h;exact M.inv
theorem P7.hs (h:P7 w0 S w g gs q room cs fr):∃S',Hs w S' w g gs room cs fr:=by
 obtain ⟨ss,⟨vp,vf,vp2,vf2,s,_⟩,R,W⟩:=h;exact ⟨_,Hs.here s W⟩
theorem P7.hr (h:P7 w0 S w g gs q room cs fr):∃S',Hr w S' w q room cs fr:=by
 have I:=h.inv;obtain ⟨ss,⟨vp,vf,vp2,vf2,s,d,_⟩,R,W⟩:=h;exact ⟨_,Hr.here d R W I⟩
theorem Two7.grow {f:FuncId} {args:Array Value} {E:Ending} (h:Two7 w0 S g gs q room f args E cs fr w) (hb:Kb w w'):Two7 w0 S g gs q room f args E cs fr w':=by
 obtain ⟨ss,fr2,M,h⟩:=h;exact ⟨ss,fr2,M.grow hb,h⟩
theorem Two7.mod {f:FuncId} {args:Array Value} {E:Ending} (h:Two7 w0 S g gs q room f args E cs fr w):Mod S w0 w:=by obtain ⟨ss,fr2,M,h⟩:=h;exact M.mod
theorem Two7.kq {f:FuncId} {args:Array Value} {E:Ending} {P:World→Prop} (h:Two7 w0 S g gs q room f args E cs fr w) (k:Kq S w0 P):P w:=k w h.mod
theorem Two7.go {f:FuncId} {args:Array Value} {E:Ending} (h:Two7 w0 S g gs q room f args E cs fr w):Kc f args w fun e w3=>e=E∧P7 w0 S w3 g gs q room cs fr:=by
 obtain ⟨ss,fr2,M,h⟩:=h;exact h _ M
theorem P7.two {f f2:FuncId} {args args2:Array Value} {Q:Ending→Lz→List Nat→Prop} (h:P7 w0 S w g gs q room cs fr) (hc:∀S',Hs w S' w g gs room cs fr→(∀P:World→Prop,Kq S w0 P→Kq S' w P)→Kc f args w fun e w'=>∃cs' fr',Q e cs' fr'∧Hs w S' w' g gs room cs' fr') (hr:∀E cs' fr',Q E cs' fr'→∀w' S',Hr w' S' w' q room cs fr→Mod S w0 w'→(∀P:World→Prop,Kq S w0 P→Kq S' w' P)→Kc f2 args2 w' fun e w''=>e=E∧Hr w' S' w'' q room cs' fr'):Kc f args w fun e w'=>∃cs' fr',Q e cs' fr'∧Two7 w0 S g gs q room f2 args2 e cs' fr' w':=by
 have I:=h.inv;obtain ⟨ss,M,R,W⟩:=h;refine (M.useS W hc).mono ?_;rintro e w' ⟨cs',fr',hq,W',M'⟩;exact ⟨cs',fr',hq,ss,fr,M',fun w'' M2=>M2.useR R W I W' fun S' H hk=>hr e cs' fr' hq w'' S' H M2.mod hk⟩
theorem P7.stay {f f2:FuncId} {args args2:Array Value} {E:Ending} (h:P7 w0 S w g gs q room cs fr) (hc:∀S',Hs w S' w g gs room cs fr→Kc f args w fun e w'=>e=E∧Hs w S' w' g gs room cs fr) (hr:∀w' S',Hr w' S' w' q room cs fr→Mod S w0 w'→Kc f2 args2 w' fun e w''=>e=E∧Hr w' S' w'' q room cs fr):Kc f args w fun e w'=>e=E∧Two7 w0 S g gs q room f2 args2 E cs fr w':=by
 refine (h.two (f2:=f2) (args2:=args2) (Q:=fun e cs' fr'=>e=E∧cs'=cs∧fr'=fr) (fun S' H _=>(hc S' H).mono fun e w' ⟨e1,k⟩=>⟨cs,fr,⟨e1,rfl,rfl⟩,k⟩) ?_).mono ?_
 ·rintro _ _ _ ⟨rfl,rfl,rfl⟩ w' S' H m _;exact hr w' S' H m
 ·rintro e w' ⟨_,_,⟨rfl,rfl,rfl⟩,t⟩;exact ⟨rfl,t⟩
theorem Zmb (h:Hs w0 S w g gs room cs fr) (i:Nat) (hc:cc cs i=1073741824):Kc 53 #[.pointer (some ⟨g,0,none⟩),.int .i64 ((i:Int)+1)] w fun e w'=>e=.returned (.int .i64 4)∧Hs w0 S w' g gs room cs fr:=by
 have hh:=h;obtain ⟨⟨vp,vf,s,m,n⟩,W⟩:=h;exact (Zrs s i hc).mono fun e w' ⟨e1,b⟩=>⟨e1,b ▸ hh⟩
theorem Zkk (W:Wf cs []) {i:Nat} (hi:0<cc cs i) (j:Nat):Go.Proofs.YtlclabbnpjobgaaGreatDoor.own (moreC cs i) [] j=Go.Proofs.YtlclabbnpjobgaaGreatDoor.own cs [] j+(if i=j then 1 else 0):=by
 have:=W.le j;rw [List.count_nil] at this;unfold Go.Proofs.YtlclabbnpjobgaaGreatDoor.own;rw [Zev hi,Zcv,List.count_nil];omega
end
end Go.Proofs.YtlclabbnpjobgaaGreatDoor
namespace Go.Proofs.YtlclabbnpjobgaaGreatDoor
variable {K al bs:Lq}
variable {S0 fr:List Nat}
variable {T:Tre}
variable {b h k n q room top wn:Nat}
variable {cs cs' cs1:Lz}
variable {er fi root rt y:Int}
variable {u:Value}
variable {w w' w0:World}
set_option maxHeartbeats 4000000
set_option maxRecDepth 20000
open Go.RowKit
theorem Yjh (W:Wf cs []) {x:Int} (h:vAh true (cot cs x) (cat cs x) x=0):∃(n:Nat) (T:Tre),x=(n:Int)∧Rt cs n T:=by
 unfold vAh at h
 by_cases hr:vRt true (cot cs x) (cat cs x) x=0
 ·rw [if_pos hr] at h
  by_cases h0:x=0
  ·exact ⟨0,.emp,h0,Rt.zero cs⟩
  ·have hc:cot cs x≠0:=fun e=>by
    unfold vRt at hr;rw [if_pos rfl,if_neg h0,if_pos e] at hr;omega
   have hab: ¬(cot cs x-(cat cs x).ab=0):=fun e=>by
    rw [if_pos ⟨h0,e⟩] at h;omega
   obtain ⟨i,rfl,h2,h3,h4⟩:=Zel (cs:=cs) (h:=x) (by omega);obtain ⟨T,hT⟩:=Zmv W i h2;have hr':vRt true (cot cs ((i+1:Nat):Int)) (cat cs ((i+1:Nat):Int)) ((i+1:Nat):Int)=0:=hr;refine ⟨i+1,T,rfl,hT,Zuh hT hr',.inr ?_⟩;rw [h3,h4] at hab;show 0<Go.Proofs.YtlclabbnpjobgaaGreatDoor.own cs [] i;unfold Go.Proofs.YtlclabbnpjobgaaGreatDoor.own;rw [List.count_nil];omega
 ·rw [if_neg hr] at h;exact absurd h hr
theorem Ygv (W:Wf cs []) {x:Int} {n:Nat} (h:vRf true (cot cs x) (cat cs x) x n=0):n≤1024∧∃(k:Nat) (T:Tre),x=(k:Int)∧Rt cs k T:=by
 unfold vRf at h;rw [if_pos rfl] at h
 by_cases hn:1024<n
 ·rw [if_pos hn] at h;omega
 ·rw [if_neg hn] at h;exact ⟨by omega,Yjh W h⟩
section
variable {w0 w:World} {S:List Nat} {g gs q room:Nat} {cs:Lz} {fr:List Nat}
theorem Yhu (h:P7 w0 S w g gs q room cs fr) (h5:room≤5000) (hb:∀i,own cs [] i≤1000000) (x:Int) {K:Lq} (hK:Key K) {v:Value} {bs:Lq} (hv:Reads w v bs):∃y er:Int,∀w',Kb w w'→(Kc 96 #[.pointer (some ⟨g,0,none⟩),.int .i64 x,.agg (B K),v] w' fun e w''=>e=.returned (.tuple #[.int .i64 y,.int .i64 er])∧Below w'.heap.size w' w'')∧Kc 97 #[.pointer (some ⟨q,0,none⟩),.int .i64 x,.agg (B K),v] w' fun e w''=>e=.returned (.tuple #[.int .i64 y,.int .i64 er])∧Below w'.heap.size w' w'':=by
 have W:=h.wf;obtain ⟨S1,H⟩:=h.hs;obtain ⟨S2,V⟩:=h.hr
 by_cases he:vRf true (cot cs x) (cat cs x) x bs.length=0
 ·obtain ⟨hl,n,T,rfl,r⟩:=Ygv W he;obtain ⟨ss,hss,hbo⟩:=Zqg W K hK r.tree r.dp;exact ⟨_,_,fun w' hw=>⟨Ybm (H.grow hw) r hK (hv.grow hw) hl hb hss hbo.len,Zus (V.grow hw) h5 r hK (hv.grow hw) hl hss⟩⟩
 ·refine ⟨_,_,fun w' hw=>⟨?_,Zur (V.grow hw) x K v bs (hv.grow hw) _ rfl he⟩⟩;obtain ⟨a,c,e,_⟩:=hv;rw [e];exact Ybl (H.vw.grow hw) x K a bs.length c _ rfl he
theorem Yho (h:P7 w0 S w g gs q room cs fr) (h5:room≤5000) (j:Int):∃b:Bool,∀w',Kb w w'→(Kc 58 #[.pointer (some ⟨g,0,none⟩),.int .i64 j] w' fun e w''=>e=.returned (.bool b)∧Below w'.heap.size w' w'')∧Kc 59 #[.pointer (some ⟨q,0,none⟩),.int .i64 j] w' fun e w''=>e=.returned (.bool b)∧Below w'.heap.size w' w'':=by
 obtain ⟨S1,H⟩:=h.hs;obtain ⟨S2,V⟩:=h.hr;exact ⟨_,fun w' hw=>⟨Zfr (H.grow hw) j,Zpa (V.grow hw) h5 j⟩⟩
theorem Yhk (h:P7 w0 S w g gs q room cs fr) (j:Int):∃er:Int,∀w',Kb w w'→(Kc 60 #[.pointer (some ⟨g,0,none⟩),.int .i64 j] w' fun e w''=>e=.returned (.int .i64 er)∧Below w'.heap.size w' w'')∧Kc 61 #[.pointer (some ⟨q,0,none⟩),.int .i64 j] w' fun e w''=>e=.returned (.int .i64 er)∧Below w'.heap.size w' w'':=by
 obtain ⟨S1,H⟩:=h.hs;obtain ⟨S2,V⟩:=h.hr;exact ⟨_,fun w' hw=>⟨Zjp (H.vw.grow hw) j,Zpd (V.grow hw) j⟩⟩
end
end Go.Proofs.YtlclabbnpjobgaaGreatDoor
namespace Go.Proofs.YtlclabbnpjobgaaGreatDoor
variable {K al bs:Lq}
variable {S0 fr:List Nat}
variable {T:Tre}
variable {b h k n q room top wn:Nat}
variable {cs cs' cs1:Lz}
variable {er fi root rt y:Int}
variable {u:Value}
variable {w w' w0:World}
set_option maxHeartbeats 4000000
set_option maxRecDepth 20000
open Go.RowKit
theorem Ydk (r:Rt cs h T) (t:IsT cs' h T) (o:h=0∨0<own cs' [] (h-1)):Rt cs' h T:=by
 refine ⟨t,fun hk=>?_,o⟩
 match T,r.tree,t with
 | .emp,_,t=>
  rw [show h=0 from t] at hk;exact absurd hk (show ¬zc.kind=2 by decide)
 | .lf _ _,_,t=>
  obtain ⟨t1,_,t3,_⟩:=t;rw [sdC,if_neg (by omega)] at hk;omega
 | .nd d a b L R,r',t=>
  obtain ⟨t1,_,t3,t4,_⟩:=t;obtain ⟨r1,_,r3,r4,_⟩:=r';have:=r.dp (by rw [sdC,if_neg (by omega)];exact r3);rw [sdC,if_neg (by omega),r4] at this;rw [sdC,if_neg (by omega),t4];exact this
structure HdX (cs:Lz) (x er:Int) (cs':Lz):Prop where
 few:∀j,own cs' [] j≤own cs [] j+1
 yes:∀i:Nat,x=(i:Int)+1→0<cc cs i→cc cs i<1073741824→er=0∧(∀j,own cs' [] j=own cs [] j+(if i=j then 1 else 0))∧∀h T,Rt cs h T→Rt cs' h T
structure DpX (cs:Lz) (x:Int) (cs':Lz):Prop where
 few:∀j,own cs' [] j≤own cs [] j
 yes:∀i:Nat,x=(i:Int)+1→0<own cs [] i→(∀j,own cs' [] j+(if i=j then 1 else 0)=own cs [] j)∧∀h T,Rt cs h T→(h=0∨0<own cs' [] (h-1))→Rt cs' h T
structure PtX (cs:Lz) (x y er:Int) (cs':Lz):Prop where
 few:∀j,own cs' [] j≤own cs [] j+1
 no:er≠0→cs'=cs
 yes:er=0→∃n m:Nat,x=(n:Int)∧y=(m:Int)∧(∀i,own cs' [] i+(if n=i+1 then 1 else 0)=own cs [] i+(if m=i+1 then 1 else 0))∧(∃T,Rt cs' m T∧∀U,Rt cs n U→T.ents.length≤U.ents.length+1)∧∀h T,Rt cs h T→(h=0∨0<own cs' [] (h-1))→Rt cs' h T
theorem Ycd (x y:Int) (h:er≠0):PtX cs x y er cs:=⟨fun _=>Nat.le_add_right _ _,fun _=>rfl,fun e=>absurd e h⟩
theorem Zzp (r:Rt cs n T):PtX cs (n:Int) (n:Int) 0 cs:=⟨fun _=>Nat.le_add_right _ _,fun h=>absurd rfl h,fun _=>⟨n,n,rfl,rfl,fun _=>rfl,⟨T,r,fun U ru=>by rw [IsT.one r.tree ru.tree];omega⟩,fun _ _ r' _=>r'⟩⟩
theorem Yeb {ss:List Nat} (r:Rt cs n T) (p:PutOk cs T.ents K bs n top ss cs'):PtX cs (n:Int) (top:Int) 0 cs':=by
 have hown:=p.own;refine ⟨fun i=>?_,fun h=>absurd rfl h,fun _=>⟨n,top,rfl,rfl,hown,?_,fun a U ra ho=>Ydk ra (p.keep a U ra.tree (ho.imp id fun o=>?_)) ho⟩⟩
 ·have:=hown i;split at this <;> split at this <;> omega
 ·obtain ⟨U,hU,hp⟩:=p.tree;refine ⟨U,⟨hU,p.dp,.inr ?_⟩,fun V rv=>by
   rw [hp.length_eq,List.length_cons,IsT.one rv.tree r.tree];have:=List.length_filter_le (fun e:Ent=>!(e.1 == K)) T.ents;omega⟩
  obtain ⟨t1,t2⟩:=p.new;have q:=hown (top-1);rw [if_pos (show top=top-1+1 by omega)] at q
  by_cases e:n=top-1+1
  ·rcases r.tree.occ with h0 | h0
   ·omega
   ·rw [show n-1=top-1 by omega] at h0;omega
  ·rw [if_neg e] at q;omega
 ·have:=p.wf.own (a-1);omega
section
variable {w0 w:World} {S:List Nat} {g gs q room:Nat} {cs:Lz} {fr:List Nat}
theorem Yhj (h:P7 w0 S w g gs q room cs fr) (x:Int):Kc 53 #[.pointer (some ⟨g,0,none⟩),.int .i64 x] w fun e w'=>∃er cs' fr',e=.returned (.int .i64 er)∧Two7 w0 S g gs q room 54 #[.pointer (some ⟨q,0,none⟩),.int .i64 x] (.returned (.int .i64 er)) cs' fr' w'∧HdX cs x er cs':=by
 have W:=h.wf
 by_cases hc:cot cs x=0
 ·refine (h.stay (fun S' H=>Zig H x hc) (fun w' S' H _=>Znw H x hc)).mono fun e w' ⟨e1,k⟩=>⟨7,cs,fr,e1,k,fun j=>Nat.le_add_right _ _,fun i hi hci _=>?_⟩
  rw [hi,cot,if_pos (by omega),show ((i:Int)+1-1).toNat=i by omega] at hc;omega
 ·obtain ⟨i,rfl,h2,h3,h4⟩:=Zel (cs:=cs) (h:=x) (by omega);have hmo:=h.inv.mostC i
  by_cases hl:cc cs i=1073741824
  ·refine (h.stay (fun S' H=>Zmb H i hl) (fun w' S' H _=>Zmc H i hl)).mono fun e w' ⟨e1,k⟩=>⟨4,cs,fr,e1,k,fun j=>Nat.le_add_right _ _,fun j hj _ hlt=>?_⟩
   obtain rfl:j=i:=by omega
   omega
  ·refine (h.two (f2:=54) (args2:= #[.pointer (some ⟨q,0,none⟩),.int .i64 ((i:Int)+1)]) (Q:=fun e cs' fr'=>e=.returned (.int .i64 0)∧cs'=moreC cs i∧fr'=fr) (fun S' H _=>(Zvy H i h2 (by omega)).mono fun e w' ⟨e1,k⟩=>⟨_,_,⟨e1,rfl,rfl⟩,k⟩) ?_).mono ?_
   ·rintro _ _ _ ⟨rfl,rfl,rfl⟩ w' S' H _ _;exact Zwd H i h2 (by omega)
   ·rintro e w' ⟨_,_,⟨rfl,rfl,rfl⟩,t⟩;refine ⟨0,_,_,rfl,t,fun j=>?_,fun j hj _ _=>?_⟩
    ·rw [Zkk W h2];split <;> omega
    ·obtain rfl:j=i:=by omega
     refine ⟨rfl,Zkk W h2,fun a T r=>Ydk r (IsT.keep (fun k hk=>⟨by rw [Zev h2];omega,by rw [Zcv];exact Core.refl _⟩) r.tree) (r.own.imp id fun o=>?_)⟩;rw [Zkk W h2];omega
theorem Yhs (h:P7 w0 S w g gs q room cs fr) (x:Int):Kc 55 #[.pointer (some ⟨g,0,none⟩),.int .i64 x] w fun e w'=>∃n er cs' fr',e=.returned (.tuple #[.int .i64 n,.int .i64 er])∧Two7 w0 S g gs q room 56 #[.pointer (some ⟨q,0,none⟩),.int .i64 x] (.returned (.tuple #[.int .i64 n,.int .i64 er])) cs' fr' w'∧DpX cs x cs':=by
 have W:=h.wf
 by_cases hm:cot cs x≤(cat cs x).ab
 ·refine (h.stay (fun S' H=>Zgr H x hm) (fun w' S' H _=>Zmd H x hm)).mono fun e w' ⟨e1,k⟩=>⟨0,7,cs,fr,e1,k,fun j=>Nat.le_refl _,fun i hi ho=>?_⟩
  rw [hi,cot,if_pos (by omega),show ((i:Int)+1-1).toNat=i by omega,show ((i:Int)+1)=((i+1:Nat):Int) by omega,Zac,sdC,if_neg (by omega),Nat.add_sub_cancel] at hm;unfold own at ho;rw [List.count_nil] at ho;omega
 ·obtain ⟨i,rfl,h2,h3,h4⟩:=Zel (cs:=cs) (h:=x) (by omega);rw [h3,h4] at hm;have ho:0<own cs [] i:=by
   unfold own;rw [List.count_nil];omega
  refine (h.two (f2:=56) (args2:= #[.pointer (some ⟨q,0,none⟩),.int .i64 ((i:Int)+1)]) (Q:=fun e cs' fr'=>∃n,Run cs fr [i+1] cs' fr' n∧Step cs [i+1] cs' [] n∧e=.returned (.tuple #[.int .i64 (n:Int),.int .i64 0])) (fun S' H _=>(Zwa H i ho).mono fun e w' ⟨cs',fr',n,r,st,e1,k⟩=>⟨_,_,⟨n,r,st,e1⟩,k⟩) ?_).mono ?_
  ·rintro _ cs' fr' ⟨n,r,st,rfl⟩ w' S' H _ _;exact Zwe H i ho r
  ·rintro e w' ⟨cs',fr',⟨n,r,st,rfl⟩,t⟩;have hown:∀j,own cs' [] j+(if i=j then 1 else 0)=own cs [] j:=fun j=>by
    rw [st.own j];unfold own at ho ⊢;rw [List.count_nil] at ho ⊢;rw [List.count_singleton]
    by_cases e:i=j
    ·subst e;simp only [beq_self_eq_true,if_true];omega
    ·rw [if_neg e,if_neg (by simpa using e)];omega
   refine ⟨n,0,_,_,rfl,t,fun j=>?_,fun j hj _=>?_⟩
   ·have:=hown j;omega
   ·obtain rfl:j=i:=by omega
    refine ⟨hown,fun a T r k=>Ydk r (IsT.stay st.wf st.keep r.tree (k.imp id fun o=>?_)) k⟩;have:=st.wf.own (a-1);omega
theorem Ygw (h:P7 w0 S w g gs q room cs fr) (h5:room≤5000) (hb:∀i,own cs [] i≤1000000) (x:Int) {K:Lq} (hK:Key K) {v v2:Value} {bs:Lq} (hv:Kq S w0 fun w'=>Reads w' v bs) (hv2:Kq S w0 fun w'=>Reads w' v2 bs) (hL:Kq S w0 Laid):Kc 38 #[.pointer (some ⟨g,0,none⟩),.int .i64 x,.agg (B K),v] w fun e w'=>∃y er cs' fr',e=.returned (.tuple #[.int .i64 y,.int .i64 er])∧Two7 w0 S g gs q room 85 #[.pointer (some ⟨q,0,none⟩),.int .i64 x,.agg (B K),v2] (.returned (.tuple #[.int .i64 y,.int .i64 er])) cs' fr' w'∧PtX cs x y er cs':=by
 have W:=h.wf;have hln:=h.inv.lenC;have hvw:=h.kq hv
 by_cases he:vRf true (cot cs x) (cat cs x) x bs.length=0
 ·obtain ⟨hl,n,T,rfl,r⟩:=Ygv W he
  by_cases hf:noc cs+258≤room
  ·by_cases hsm:T.efin K=[(K,bs)]
   ·exact (h.stay (fun S' H=>(Zpe H n T r.tree K hK v bs hvw (r.refuse hl) r.root hf hsm).mono fun e w' ⟨e1,b⟩=>⟨e1,H.grow b⟩) (fun w' S' H m=>(Zue H h5 r hK (hv2 _ m) hl hf hsm).mono fun e w'' ⟨e1,b⟩=>⟨e1,H.grow b⟩)).mono fun e w' ⟨e1,k⟩=>⟨_,_,cs,fr,e1,k,Zzp r⟩
   ·obtain ⟨ss,hss,hbo⟩:=Zqg W K hK r.tree r.dp;have hct:∀i,cc cs i+257<1073741824:=fun i=>by
     have:=W.ccLe i 1000000 (hb i);omega
    refine (h.two (f2:=85) (args2:= #[.pointer (some ⟨q,0,none⟩),.int .i64 (n:Int),.agg (B K),v2]) (Q:=fun e cs' fr'=>∃top:Nat,e=.returned (.tuple #[.int .i64 (top:Int),.int .i64 0])∧PutTo cs fr n K bs ss top cs' fr'∧PutOk cs T.ents K bs n top ss cs') (fun S' H hk=>(Zuv H n T r.tree K hK v bs (hk _ hv) (hk _ hL) (r.refuse hl) hl r.root r.own hf hsm ss hss hbo hct).mono fun e w' ⟨top,cs',fr',e1,p1,p2,k⟩=>⟨cs',fr',⟨top,e1,p1,p2⟩,k⟩) ?_).mono ?_
    ·rintro _ cs' fr' ⟨top,rfl,p1,_⟩ w' S' H _ hk;exact Zzc H h5 r hK (hk _ hv2) hl hct hf hsm hss hbo p1
    ·rintro e w' ⟨cs',fr',⟨top,rfl,_,p2⟩,t⟩;exact ⟨_,0,cs',fr',rfl,t,Yeb r p2⟩
  ·exact (h.stay (fun S' H=>by
    obtain ⟨a,c,e,_⟩:=hvw;rw [e];exact (Zzo H n K a bs.length c he (by omega)).mono fun e w' ⟨e1,b⟩=>⟨e1,H.grow b⟩) (fun w' S' H m=>(Zuf H h5 n K v2 bs (hv2 _ m) he (by omega)).mono fun e w'' ⟨e1,b⟩=>⟨e1,H.grow b⟩)).mono fun e w' ⟨e1,k⟩=>⟨_,_,cs,fr,e1,k,Ycd _ _ (by decide)⟩
 ·exact (h.stay (fun S' H=>by
   obtain ⟨a,c,e,_⟩:=hvw;rw [e];exact (Ydz H.vw x K a bs.length c _ rfl he).mono fun e w' ⟨e1,b⟩=>⟨e1,H.grow b⟩) (fun w' S' H m=>(Zzd H x K v2 bs (hv2 _ m) _ rfl he).mono fun e w'' ⟨e1,b⟩=>⟨e1,H.grow b⟩)).mono fun e w' ⟨e1,k⟩=>⟨_,_,cs,fr,e1,k,Ycd _ _ he⟩
end
structure Ex (k:Nat) (cs:Lz) (root:Int) (al:Lq):Prop where
 own:∀i:Nat,own cs [] i=al.count ((i:Int)+1)+(if root=(i:Int)+1 then 1 else 0)
 root:∃n:Nat,root=(n:Int)∧∃T,Rt cs n T∧T.ents.length≤k
 al:∀x∈al,∃n:Nat,x=(n:Int)∧n≠0∧∃T,Rt cs n T∧T.ents.length≤k
theorem Ex.up (h:Ex k cs root al):Ex (k+1) cs root al:=⟨h.own,by
 obtain ⟨n,e,T,r,l⟩:=h.root;exact ⟨n,e,T,r,Nat.le_succ_of_le l⟩,fun x hx=>by
 obtain ⟨n,e,n0,T,r,l⟩:=h.al x hx;exact ⟨n,e,n0,T,r,Nat.le_succ_of_le l⟩⟩
theorem Yhr:Ex 0 [] 0 []:=⟨fun i=>by rw [if_neg (by omega)];simp [Go.Proofs.YtlclabbnpjobgaaGreatDoor.own,cc],⟨0,rfl,.emp,Rt.zero [],Nat.le_refl _⟩,fun x hx=>by cases hx⟩
theorem Yhq (h:Ex k cs root al) (p:PtX cs root y er cs') (e:er=0):Ex (k+1) cs' y al:=by
 obtain ⟨n,m,rfl,rfl,h1,h2,h3⟩:=p.yes e;have ho:∀i:Nat,own cs' [] i=al.count ((i:Int)+1)+(if (m:Int)=(i:Int)+1 then 1 else 0):=fun i=>by
  have q1:=h1 i;have q2:=h.own i;have q3:((n:Int)=(i:Int)+1)↔n=i+1:=by omega
  have q4:((m:Int)=(i:Int)+1)↔m=i+1:=by omega
  simp only [q3] at q2;simp only [q4];omega
 obtain ⟨T',r',l'⟩:=h2;refine ⟨ho,⟨m,rfl,T',r',?_⟩,fun x hx=>?_⟩
 ·obtain ⟨n',e',U,ru,lu⟩:=h.root;obtain rfl:n'=n:=by omega
  have:=l' U ru;omega
 obtain ⟨j,rfl,k0,T,r,l⟩:=h.al x hx;refine ⟨j,rfl,k0,T,h3 j T r (.inr ?_),Nat.le_succ_of_le l⟩;have:=ho (j-1);rw [show ((j-1:Nat):Int)+1=(j:Int) by omega] at this;have:=List.count_pos_iff.2 hx;omega
theorem Yfg (h:Ex k cs root al) (p:HdX cs root er cs') (h0:root≠0) (hc:∀i,cc cs i<1073741824):Ex k cs' root (al++[root]):=by
 obtain ⟨n,rfl,T,r,lr⟩:=h.root;have hn:n≠0:=by omega
 have hl:0<cc cs (n-1):=by
  rcases r.tree.occ with e | e
  ·omega
  ·exact e.2
 obtain ⟨_,h1,h2⟩:=p.yes (n-1) (by omega) hl (hc _);refine ⟨fun i=>?_,⟨n,rfl,T,h2 n T r,lr⟩,fun x hx=>?_⟩
 ·rw [h1 i,h.own i,List.count_append,List.count_singleton];have q:((n:Int) == (i:Int)+1)=decide (n-1=i):=by
   rw [Bool.eq_iff_iff];simp;omega
  rw [q];simp only [decide_eq_true_eq];omega
 ·rcases List.mem_append.1 hx with q | q
  ·obtain ⟨j,rfl,k0,T',r',l'⟩:=h.al x q;exact ⟨j,rfl,k0,T',h2 j T' r',l'⟩
  ·exact ⟨n,List.mem_singleton.1 q,hn,T,h2 n T r,lr⟩
theorem Yfh (h:Ex b cs root al) (hk:k<al.length) (p:DpX cs al[k] cs'):Ex b cs' root (al.take k++al.drop (k+1)):=by
 obtain ⟨n,hn,n0,T,r,_⟩:=h.al al[k] (List.getElem_mem hk);have hc:∀x:Int,(al.take k++al.drop (k+1)).count x+(if x=al[k] then 1 else 0)=al.count x:=fun x=>by
  have e:al=al.take k++(al[k]::al.drop (k+1)):=by rw [List.getElem_cons_drop,List.take_append_drop]
  have e2:=congrArg (List.count x) e;rw [List.count_append,List.count_cons] at e2;rw [List.count_append,e2]
  by_cases q:x=al[k]
  ·rw [if_pos q,if_pos (by rw [q];exact beq_self_eq_true _)];omega
  ·rw [if_neg q,if_neg (by simpa using fun z=>q z.symm)];omega
 have ho:0<own cs [] (n-1):=by
  rw [h.own (n-1),show ((n-1:Nat):Int)+1=al[k] by omega];have:=List.count_pos_iff.2 (List.getElem_mem hk);omega
 obtain ⟨h1,h2⟩:=p.yes (n-1) (by omega) ho;have hown:∀i:Nat,own cs' [] i=(al.take k++al.drop (k+1)).count ((i:Int)+1)+(if root=(i:Int)+1 then 1 else 0):=fun i=>by
  have q1:=h1 i;have q2:=h.own i;have q3:=hc ((i:Int)+1);have q4:((i:Int)+1=al[k])↔n-1=i:=by omega
  simp only [q4] at q3;omega
 obtain ⟨m,hm,U,ru,lu⟩:=h.root;refine ⟨hown,⟨m,hm,U,h2 m U ru ?_,lu⟩,fun x hx=>?_⟩
 ·by_cases m0:m=0
  ·exact .inl m0
  ·right;have:=hown (m-1);rw [if_pos (by omega)] at this;omega
 ·obtain ⟨j,rfl,j0,V,rv,lv⟩:=h.al x (by
   rcases List.mem_append.1 hx with q | q
   ·exact List.mem_of_mem_take q
   ·exact List.mem_of_mem_drop q)
  refine ⟨j,rfl,j0,V,h2 j V rv (.inr ?_),lv⟩;have:=hown (j-1);rw [show ((j-1:Nat):Int)+1=(j:Int) by omega] at this;have:=List.count_pos_iff.2 hx;omega
end Go.Proofs.YtlclabbnpjobgaaGreatDoor
