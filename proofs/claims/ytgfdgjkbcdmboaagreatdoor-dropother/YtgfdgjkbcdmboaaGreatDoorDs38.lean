/- The document's Cost of a Drop: its walk. -/
import Derived.Test.YtgfdgjkbcdmboaaGreatDoorDs37
namespace Go.Proofs.YtgfdgjkbcdmboaaGreatDoor
variable {K:Lq}
variable {S0 fr hsl:List Nat}
variable {cs cs1:Lz}
variable {fi rt:Int}
variable {q room wn:Nat}
variable {u:Value}
variable {w w' w0:World}
set_option maxHeartbeats 8000000
set_option maxRecDepth 20000
open Go.RowKit
theorem Ybn {N:Nat} (Rl:Nat→Int→Nat→Prop) (ov:Nat→Int) (ko:Nat→Int)
  (HPS:Hid ((Tryz.prog.info? 34).map (·.size)=some (B K).size)) (HWN:Hid (wn=hsl.length)) (hw256:wn≤256)
  (HAH:Hid (Kr w 45 #[.pointer (some ⟨q,0,none⟩),.int .i64 rt] (.int .i64 0)))
  (HWY:Hid (∀w',Kb w w'→Kc 46 #[.pointer (some ⟨q,0,none⟩),.int .i64 rt,.agg (B K)] w' fun e w''=>∃a c,e=.returned (.tuple #[.slice a wn c,.int .i64 fi])∧w''.ownsRow w'.heap.size 3 1 (.slice a wn c) wn (nats hsl)∧Below w'.heap.size w' w''))
  (HMN:Hid (Kr w 47 #[.pointer (some ⟨q,0,none⟩),.int .i64 fi,.agg (B K)] (.bool true)))
  (HOT:Hid (∀m w',m<wn→Kb w w'→Kc 49 #[.pointer (some ⟨q,0,none⟩),.agg (B K),.int .i64 (m:Int),.int .i64 (hsl.getD m 0:Int)] w' fun e w''=>e=.returned (.int .i64 (ov m))∧Below w'.heap.size w' w''))
  (HKD:Hid (∀m w',m<wn→Kb w w'→Kc 48 #[.pointer (some ⟨q,0,none⟩),.int .i64 (ov m)] w' fun e w''=>e=.returned (.int .u8 (ko m))∧Below w'.heap.size w' w''))
  (h0:Rl wn 0 0) (hA:∀m k n,m<wn→Rl (m+1) k n→ko m=0→k≠2→Rl m k n) (hB:∀m n,m<wn→Rl (m+1) 0 n→ko m=1→Rl m 1 n) (hC:∀m k n,m<wn→Rl (m+1) k n→ ¬(ko m=0∧k≠2)→ ¬(k=0∧ko m=1)→Rl m 2 (n+1)) (hN:∀j k n,Rl j k n→n+j≤wn) (hE:∀k n,Rl 0 k n→n=N):
  Kc 13 #[.pointer (some ⟨q,0,none⟩),.int .i64 rt,.agg (B K)] w fun e w'=>e=.returned (.tuple #[.int .i64 (N:Int),.int .i64 0])∧Kb w w':=by
 have HPL:Hid ((Tryz.prog.info? 34).map (·.size)=some (B K).toList.length):=by show _=_;rw [Array.length_toList];exact HPS.out
 have hww:wrap64 ((wn:Int)-1)=(wn:Int)-1:=Go.IntWalk.wrap64_in _ (by omega);go_enter Tryz.func13,Tryz.ntmps13
 go_wp2_with (first
  |((with_reducible refine Zl 5 ?_);refine Zc _ rfl _ _ rfl _ rfl ?_;intro w1 b6 hg6 hl6 B6 q6;have HB1:=Za B6;have HQ1:=Za q6;clear hg6 hl6 B6 q6)
  |(go_at_call 45;refine (HAH.out _ HQ1.out).mono ?_;rintro e w3 ⟨rfl,b2⟩;have HQ3:=Za (Zb HQ1.out b2);have HB3:=Za (HB1.out.grow b2);clear b2)
  |((with_reducible refine Zk 24 5 ?_);refine Zd _ rfl _ _ rfl b6 _ rfl HB3.out _ _ Tryz.underlying34 HPS.out ?_)
  |(go_at_call 46;refine (HWY.out _ HQ3.out).mono ?_;rintro e w4 ⟨wa,wc,rfl,o4,b4⟩;have HO4:=Za (Zae o4 HQ3.out.size);have HQ4:=Za (Zb HQ3.out b4);have HB4:=Za (HB3.out.grow b4);clear b4 o4)
  |((with_reducible refine Zk 30 5 ?_);refine Zd _ rfl _ _ rfl b6 _ rfl HB4.out _ _ Tryz.underlying34 HPS.out ?_)
  |(go_at_call 47;refine (HMN.out _ HQ4.out).mono ?_;rintro e w5 ⟨rfl,b5⟩;have HQ5:=Za (Zb HQ4.out b5);have HB5:=Za (HB4.out.grow b5);have HO5:=Za (Zn HO4.out b5);clear b5))
 have HI6:Hid (∀w',Kb w5 w'→Ints9 w' wa hsl):=fun w' hb=>(Zee (Zap HO5.out) HWN.out).grow hb
 clear HAH HWY HMN HB1 HB3 HB4 HQ1 HQ3 HQ4 HO4 HO5
 go_loopw [11,12,13] (fun kv nv dv wr=>∃(j n:Nat) (k:Int),j≤wn∧kv=.int .u8 k∧nv=.int .i64 (n:Int)∧dv=.int .i64 ((j:Int)-1)∧Hid (Rl j k n)∧Kb w5 wr) (fun _ _ dv _=>(intOf dv+1).toNat)
 case atStart=>exact ⟨wn,0,0,Nat.le_refl _,rfl,rfl,rfl,h0,Below.refl _ _⟩
 case round=>
 obtain ⟨j,n,k,hj,rfl,rfl,rfl,hR,hbr⟩:=hrel
 by_cases hj0:0<j
 ·obtain ⟨m,rfl⟩:∃m,j=m+1:=⟨j-1,by omega⟩;rw [show (((m+1:Nat):Int)-1)=(m:Int) by omega];have i1:(0:Int)≤(m:Int):=by omega
  have i2:(m:Int)<(wn:Int):=by omega
  have hwm:wrap64 ((m:Int)-1)=(m:Int)-1:=Go.IntWalk.wrap64_in _ (by omega);have hmw:m<wn:=by omega
  have hn2:=hN _ _ _ hR.out;have hwn1:wrap64 ((n:Int)+1)=(n:Int)+1:=Go.IntWalk.wrap64_in _ (by omega);obtain ⟨lb,rfl,-⟩:=HI6.out _ hbr m (by rw [← HWN.out];exact hmw);have HBr:=Za (HB5.out.grow hbr);have HQr:=Za (Zb HQ5.out hbr);have HO2:Hid (Kr wr 49 #[.pointer (some ⟨q,0,none⟩),.agg (B K),.int .i64 (m:Int),.int .i64 (hsl.getD m 0:Int)] (.int .i64 (ov m))):=fun w' hb=>HOT.out m w' hmw (Zb HQr.out hb)
  have HK2:Hid (Kr wr 48 #[.pointer (some ⟨q,0,none⟩),.int .i64 (ov m)] (.int .u8 (ko m))):=fun w' hb=>HKD.out m w' hmw (Zb HQr.out hb)
  have hcl:∀ {w'},Kb wr w'→w'.cell? ⟨lb,m,none⟩=some (.int .i64 (hsl.getD m 0:Int)):=fun {w'} hb=>by
   obtain ⟨g',e1,e2⟩:=HI6.out w' (Zb hbr hb) m (by rw [← HWN.out];exact hmw);injection e1 with e1;injection e1 with e1;rw [e1];exact e2
  obtain ⟨km,hkm⟩:∃y,y=ko m:=⟨_,rfl⟩;have HA:=Za (hA m k n hmw hR.out);have HB:Hid (k=0→km=1→Rl m 1 n):=fun e1 e2=>hB m n hmw (e1 ▸ hR.out) (by rw [← hkm];exact e2)
  have HC:=Za (hC m k n hmw hR.out);rw [← hkm] at HA HC HK2;generalize (hsl.getD m 0:Int)=xx at HO2 hcl;generalize ov m=oo at HO2 HK2;clear hkm hR HI6 HOT HKD
  go_wp2_with fail
  refine wp_region_held_drew (S:=fun w'=>Kb wr w') (by kernel_rfl) (below_drewN (Below.refl _ _) 1) (fun hHeld=>?_);refine tkp 0 (.pointer (some ⟨q,0,none⟩)) hHeld ?_;simp only [zq];refine tkp 1 (.pointer (some ⟨q,0,none⟩)) hHeld ?_;simp only [zq];refine tkg 2 (.agg (B K)) rfl (yieldsIf_load_mid rfl 34 (.tmp 5) rfl b6 0 rfl (B K).toList _ (fun w hS=>(HBr.out.grow hS).range) Tryz.underlying34 rfl HPL.out) hHeld ?_;simp only [zq];refine tkp 3 (.int .i64 (m:Int)) hHeld ?_;simp only [zq];refine tkp 4 (.slice (some ⟨lb,0,none⟩) wn wc) hHeld ?_;simp only [zq];refine tkp 5 (.int .i64 (m:Int)) hHeld ?_;simp only [zq];refine tkp 6 (.pointer (some ⟨lb,m,none⟩)) hHeld ?_;simp only [zq];refine tkg 7 (.int .i64 xx) rfl (Or.inl ⟨by rfl,fun w hS=>by (have q1:=hcl hS;go_simp)⟩) hHeld ?_;simp only [zq];refine wpAnyH_ready (rs:=[8]) (by kernel_rfl) (by simp) ?_;refine AllReadyH.cons rfl (fun KQ hK=>?_) AllReadyH.nil;go_simp;refine (HO2.out _ hHeld).mono ?_;rintro e z1 ⟨rfl,a1⟩;refine hK.out _ _ (Zb hHeld a1) (fun hHeld=>?_);clear hK KQ;refine wpAnyH_ready (rs:=[9]) (by kernel_rfl) (by simp) ?_;refine AllReadyH.cons rfl (fun KQ hK=>?_) AllReadyH.nil;go_simp;refine (HK2.out _ hHeld).mono ?_;rintro e z2 ⟨rfl,a2⟩;refine hK.out _ _ (Zb hHeld a2) (fun hHeld=>?_);clear hK KQ;refine tkp 10 (.int .u8 km) hHeld ?_;simp only [zq];refine wpAnyH_done (by kernel_rfl) ?_ _;have HBW:=Za (Zb hbr hHeld);clear hHeld hcl HO2 HK2
  by_cases ka:km=0∧k≠2
  ·obtain ⟨ka1,ka2⟩:=ka;have HX:=Za (HA.out ka1 ka2);subst ka1;have kb2:(k == 2)=false:=by simpa using ka2
   go_wp2_with fail
   exact ⟨⟨m,n,k,by omega,rfl,rfl,rfl,HX,HBW.out⟩,by first | (simp [intOf];done) | (simp [intOf];omega)⟩
  ·by_cases kc:k=0∧km=1
   ·obtain ⟨kc1,kc2⟩:=kc;have HX:=Za (HB.out kc1 kc2);subst kc1;subst kc2
    go_wp2_with fail
    exact ⟨⟨m,n,1,by omega,rfl,rfl,rfl,HX,HBW.out⟩,by first | (simp [intOf];done) | (simp [intOf];omega)⟩
   ·have HX:=Za (HC.out ka kc);have ka3:km≠0∨k=2:=by
     by_cases e:km=0
     ·exact .inr (Classical.byContradiction fun q=>ka ⟨e,q⟩)
     ·exact .inl e
    have kc3:k≠0∨km≠1:=by
     by_cases e:k=0
     ·exact .inr (fun q=>kc ⟨e,q⟩)
     ·exact .inl e
    clear ka kc HA HB HC;rcases ka3 with a | a
    ·have a2:(km == 0)=false:=by simpa using a
     rcases kc3 with b | b
     ·have b2:(k == 0)=false:=by simpa using b
      go_wp2_with fail
      exact ⟨⟨m,n+1,2,by omega,rfl,rfl,rfl,HX,HBW.out⟩,by first | (simp [intOf];done) | (simp [intOf];omega)⟩
     ·have b2:(km == 1)=false:=by simpa using b
      by_cases k0:k=0
      ·subst k0
       go_wp2_with fail
       exact ⟨⟨m,n+1,2,by omega,rfl,rfl,rfl,HX,HBW.out⟩,by first | (simp [intOf];done) | (simp [intOf];omega)⟩
      ·have k2:(k == 0)=false:=by simpa using k0
       go_wp2_with fail
       exact ⟨⟨m,n+1,2,by omega,rfl,rfl,rfl,HX,HBW.out⟩,by first | (simp [intOf];done) | (simp [intOf];omega)⟩
    ·subst a
     by_cases e:km=0
     ·subst e
      go_wp2_with fail
      exact ⟨⟨m,n+1,2,by omega,rfl,rfl,rfl,HX,HBW.out⟩,by first | (simp [intOf];done) | (simp [intOf];omega)⟩
     ·have e2:(km == 0)=false:=by simpa using e
      go_wp2_with fail
      exact ⟨⟨m,n+1,2,by omega,rfl,rfl,rfl,HX,HBW.out⟩,by first | (simp [intOf];done) | (simp [intOf];omega)⟩
 ·obtain rfl:j=0:=by omega
  have i1: ¬(0:Int)≤((0:Nat):Int)-1:=by omega
  obtain rfl:=hE _ _ hR.out
  go_wp2_with fail
  go_ret2;exact ⟨rfl,Zb HQ5.out hbr⟩
theorem Ybo (HPS:Hid ((Tryz.prog.info? 34).map (·.size)=some (B K).size))
  (HAH:Hid (Kr w 45 #[.pointer (some ⟨q,0,none⟩),.int .i64 rt] (.int .i64 0)))
  (HWY:Hid (∀w',Kb w w'→Kc 46 #[.pointer (some ⟨q,0,none⟩),.int .i64 rt,.agg (B K)] w' fun e w''=>∃a c,e=.returned (.tuple #[.slice a wn c,.int .i64 fi])∧w''.ownsRow w'.heap.size 3 1 (.slice a wn c) wn (nats hsl)∧Below w'.heap.size w' w''))
  (HMN:Hid (Kr w 47 #[.pointer (some ⟨q,0,none⟩),.int .i64 fi,.agg (B K)] (.bool false))):Kc 13 #[.pointer (some ⟨q,0,none⟩),.int .i64 rt,.agg (B K)] w fun e w'=>e=.returned (.tuple #[.int .i64 0,.int .i64 0])∧Kb w w':=by
 go_enter Tryz.func13,Tryz.ntmps13
 go_wp2_with (first
  |((with_reducible refine Zl 5 ?_);refine Zc _ rfl _ _ rfl _ rfl ?_;intro w1 b6 hg6 hl6 B6 q6;have HB1:=Za B6;have HQ1:=Za q6;clear hg6 hl6 B6 q6)
  |(go_at_call 45;refine (HAH.out _ HQ1.out).mono ?_;rintro e w3 ⟨rfl,b2⟩;have HQ3:=Za (Zb HQ1.out b2);have HB3:=Za (HB1.out.grow b2);clear b2)
  |((with_reducible refine Zk 24 5 ?_);refine Zd _ rfl _ _ rfl b6 _ rfl HB3.out _ _ Tryz.underlying34 HPS.out ?_)
  |(go_at_call 46;refine (HWY.out _ HQ3.out).mono ?_;rintro e w4 ⟨wa,wc,rfl,o4,b4⟩;have HO4:=Za (Zae o4 HQ3.out.size);have HQ4:=Za (Zb HQ3.out b4);have HB4:=Za (HB3.out.grow b4);clear b4 o4)
  |((with_reducible refine Zk 30 5 ?_);refine Zd _ rfl _ _ rfl b6 _ rfl HB4.out _ _ Tryz.underlying34 HPS.out ?_)
  |(go_at_call 47;refine (HMN.out _ HQ4.out).mono ?_;rintro e w5 ⟨rfl,b5⟩;have HQ5:=Za (Zb HQ4.out b5);have HB5:=Za (HB4.out.grow b5);have HO5:=Za (Zn HO4.out b5);clear b5))
 go_ret2;exact ⟨rfl,HQ5.out⟩
theorem Ybp {e0:Int} (h0:(e0 != 0)=true)
  (HAH:Hid (Kr w 45 #[.pointer (some ⟨q,0,none⟩),.int .i64 rt] (.int .i64 e0))):Kc 13 #[.pointer (some ⟨q,0,none⟩),.int .i64 rt,.agg (B K)] w fun e w'=>e=.returned (.tuple #[.int .i64 0,.int .i64 e0])∧Kb w w':=by
 go_enter Tryz.func13,Tryz.ntmps13
 go_wp2_with (first
  |((with_reducible refine Zl 5 ?_);refine Zc _ rfl _ _ rfl _ rfl ?_;intro w1 b6 hg6 hl6 B6 q6;have HB1:=Za B6;have HQ1:=Za q6;clear hg6 hl6 B6 q6)
  |(go_at_call 45;refine (HAH.out _ HQ1.out).mono ?_;rintro e w3 ⟨rfl,b2⟩;have HQ3:=Za (Zb HQ1.out b2);have HB3:=Za (HB1.out.grow b2);clear b2))
 go_ret2;exact ⟨rfl,HQ3.out⟩
theorem Yfy
  (HPS:Hid ((Tryz.prog.info? 34).map (·.size)=some (B K).size)) (hwn:wn≤256)
  (HWR:Hid (Kr w 190 #[.pointer (some ⟨q,0,none⟩),.int .i64 rt,u] (.int .i64 0)))
  (HWY:Hid (∀w',Kb w w'→Kc 46 #[.pointer (some ⟨q,0,none⟩),.int .i64 rt,.agg (B K)] w' fun e w''=>∃a c,e=.returned (.tuple #[.slice a wn c,.int .i64 fi])∧Below w'.heap.size w' w''))
  (HTH:Hid (Kr w 191 #[.pointer (some ⟨q,0,none⟩),.int .i64 fi,.agg (B K),u] (.bool true))):Kc 153 #[.pointer (some ⟨q,0,none⟩),.int .i64 rt,.agg (B K),u] w fun e w'=>e=.returned (.tuple #[.int .i64 0,.int .i64 0])∧Kb w w':=by
 have HPL:Hid ((Tryz.prog.info? 34).map (·.size)=some (B K).toList.length):=by show _=_;rw [Array.length_toList];exact HPS.out
 have hw1:wrap64 (1+(wn:Int))=1+(wn:Int):=Go.IntWalk.wrap64_in _ (by omega);clear HPL hw1 hwn;go_enter Tryz.func153,Tryz.ntmps153
 go_wp2_with (first
  |((with_reducible refine Zl 6 ?_);refine Zc _ rfl _ _ rfl _ rfl ?_;intro w1 b6 hg6 hl6 B6 q6;have HB1:=Za B6;have HQ1:=Za q6;clear hg6 hl6 B6 q6)
  |(go_at_call 190;refine (HWR.out _ HQ1.out).mono ?_;rintro e w2 ⟨rfl,b2⟩;have HQ2:=Za (Zb HQ1.out b2);have HB2:=Za (HB1.out.grow b2);clear b2)
  |((with_reducible refine Zk 24 6 ?_);refine Zd _ rfl _ _ rfl b6 _ rfl HB2.out _ _ Tryz.underlying34 HPS.out ?_)
  |(go_at_call 46;refine (HWY.out _ HQ2.out).mono ?_;rintro e w4 ⟨wa,wc,rfl,b4⟩;have HQ4:=Za (Zb HQ2.out b4);have HB4:=Za (HB2.out.grow b4);clear b4)
  |((with_reducible refine Zk 30 6 ?_);refine Zd _ rfl _ _ rfl b6 _ rfl HB4.out _ _ Tryz.underlying34 HPS.out ?_)
  |(go_at_call 191;refine (HTH.out _ HQ4.out).mono ?_;rintro e w5 ⟨rfl,b5⟩;have HQ5:=Za (Zb HQ4.out b5);have HB5:=Za (HB4.out.grow b5);clear b5))
 go_ret2;exact ⟨rfl,HQ5.out⟩
theorem Ybr
  (HPS:Hid ((Tryz.prog.info? 34).map (·.size)=some (B K).size)) (hwn:wn≤256)
  (HWR:Hid (Kr w 190 #[.pointer (some ⟨q,0,none⟩),.int .i64 rt,u] (.int .i64 0)))
  (HWY:Hid (∀w',Kb w w'→Kc 46 #[.pointer (some ⟨q,0,none⟩),.int .i64 rt,.agg (B K)] w' fun e w''=>∃a c,e=.returned (.tuple #[.slice a wn c,.int .i64 fi])∧Below w'.heap.size w' w''))
  (HTH:Hid (Kr w 191 #[.pointer (some ⟨q,0,none⟩),.int .i64 fi,.agg (B K),u] (.bool false)))
  (HKD:Hid (Kr w 48 #[.pointer (some ⟨q,0,none⟩),.int .i64 fi] (.int .u8 0))):Kc 153 #[.pointer (some ⟨q,0,none⟩),.int .i64 rt,.agg (B K),u] w fun e w'=>e=.returned (.tuple #[.int .i64 ((1+wn:Nat):Int),.int .i64 0])∧Kb w w':=by
 have HPL:Hid ((Tryz.prog.info? 34).map (·.size)=some (B K).toList.length):=by show _=_;rw [Array.length_toList];exact HPS.out
 have hw1:wrap64 (1+(wn:Int))=1+(wn:Int):=Go.IntWalk.wrap64_in _ (by omega);go_enter Tryz.func153,Tryz.ntmps153
 go_wp2_with (first
  |((with_reducible refine Zl 6 ?_);refine Zc _ rfl _ _ rfl _ rfl ?_;intro w1 b6 hg6 hl6 B6 q6;have HB1:=Za B6;have HQ1:=Za q6;clear hg6 hl6 B6 q6)
  |(go_at_call 190;refine (HWR.out _ HQ1.out).mono ?_;rintro e w2 ⟨rfl,b2⟩;have HQ2:=Za (Zb HQ1.out b2);have HB2:=Za (HB1.out.grow b2);clear b2)
  |((with_reducible refine Zk 24 6 ?_);refine Zd _ rfl _ _ rfl b6 _ rfl HB2.out _ _ Tryz.underlying34 HPS.out ?_)
  |(go_at_call 46;refine (HWY.out _ HQ2.out).mono ?_;rintro e w4 ⟨wa,wc,rfl,b4⟩;have HQ4:=Za (Zb HQ2.out b4);have HB4:=Za (HB2.out.grow b4);clear b4)
  |((with_reducible refine Zk 30 6 ?_);refine Zd _ rfl _ _ rfl b6 _ rfl HB4.out _ _ Tryz.underlying34 HPS.out ?_)
  |(go_at_call 191;refine (HTH.out _ HQ4.out).mono ?_;rintro e w5 ⟨rfl,b5⟩;have HQ5:=Za (Zb HQ4.out b5);have HB5:=Za (HB4.out.grow b5);clear b5))
 clear HWR HWY HTH HB1 HB2 HB4 HQ1 HQ2 HQ4;refine wp_region_held_drew (S:=fun w'=>Kb w5 w') (by kernel_rfl) (below_drewN (Below.refl _ _) 1) (fun hHeld=>?_);refine tkp 0 (.pointer (some ⟨q,0,none⟩)) hHeld ?_;simp only [zq];refine tkp 1 (.int .i64 fi) hHeld ?_;simp only [zq];refine wpAnyH_ready (rs:=[2]) (by kernel_rfl) (by simp) ?_;refine AllReadyH.cons rfl (fun KQ hK=>?_) AllReadyH.nil;go_simp;refine (HKD.out _ (Zb HQ5.out hHeld)).mono ?_;rintro e z1 ⟨rfl,a1⟩;refine hK.out _ _ (Zb hHeld a1) (fun hHeld=>?_);clear hK KQ;refine tkp 3 (.bool false) hHeld ?_;simp only [zq];refine tkp 4 (.bool false) hHeld ?_;simp only [zq];refine tks 5 hHeld ?_;simp only [zq];refine tks 6 hHeld ?_;simp only [zq];refine tks 7 hHeld ?_;simp only [zq];refine tks 8 hHeld ?_;simp only [zq];refine tks 9 hHeld ?_;simp only [zq];refine tkp 10 (.bool false) hHeld ?_;simp only [zq];refine wpAnyH_done (by kernel_rfl) ?_ _;have HH:=Za hHeld;clear hHeld
 go_wp2_with fail
 go_ret2;exact ⟨by rfl,Zb HQ5.out HH.out⟩
theorem Ybq
  (HPS:Hid ((Tryz.prog.info? 34).map (·.size)=some (B K).size)) (hwn:wn≤256)
  (HWR:Hid (Kr w 190 #[.pointer (some ⟨q,0,none⟩),.int .i64 rt,u] (.int .i64 0)))
  (HWY:Hid (∀w',Kb w w'→Kc 46 #[.pointer (some ⟨q,0,none⟩),.int .i64 rt,.agg (B K)] w' fun e w''=>∃a c,e=.returned (.tuple #[.slice a wn c,.int .i64 fi])∧Below w'.heap.size w' w''))
  (HTH:Hid (Kr w 191 #[.pointer (some ⟨q,0,none⟩),.int .i64 fi,.agg (B K),u] (.bool false)))
  (HKD:Hid (Kr w 48 #[.pointer (some ⟨q,0,none⟩),.int .i64 fi] (.int .u8 1))) (HKY:Hid (Kr w 95 #[.pointer (some ⟨q,0,none⟩),.int .i64 fi] (.agg (B K)))) (hEK:∀w,(Op.equalIn 10000 34 (.agg (B K)) (.agg (B K))).run Tryz.prog w=.ok true w):Kc 153 #[.pointer (some ⟨q,0,none⟩),.int .i64 rt,.agg (B K),u] w fun e w'=>e=.returned (.tuple #[.int .i64 ((1+wn:Nat):Int),.int .i64 0])∧Kb w w':=by
 have HPL:Hid ((Tryz.prog.info? 34).map (·.size)=some (B K).toList.length):=by show _=_;rw [Array.length_toList];exact HPS.out
 have hw1:wrap64 (1+(wn:Int))=1+(wn:Int):=Go.IntWalk.wrap64_in _ (by omega);go_enter Tryz.func153,Tryz.ntmps153
 go_wp2_with (first
  |((with_reducible refine Zl 6 ?_);refine Zc _ rfl _ _ rfl _ rfl ?_;intro w1 b6 hg6 hl6 B6 q6;have HB1:=Za B6;have HQ1:=Za q6;clear hg6 hl6 B6 q6)
  |(go_at_call 190;refine (HWR.out _ HQ1.out).mono ?_;rintro e w2 ⟨rfl,b2⟩;have HQ2:=Za (Zb HQ1.out b2);have HB2:=Za (HB1.out.grow b2);clear b2)
  |((with_reducible refine Zk 24 6 ?_);refine Zd _ rfl _ _ rfl b6 _ rfl HB2.out _ _ Tryz.underlying34 HPS.out ?_)
  |(go_at_call 46;refine (HWY.out _ HQ2.out).mono ?_;rintro e w4 ⟨wa,wc,rfl,b4⟩;have HQ4:=Za (Zb HQ2.out b4);have HB4:=Za (HB2.out.grow b4);clear b4)
  |((with_reducible refine Zk 30 6 ?_);refine Zd _ rfl _ _ rfl b6 _ rfl HB4.out _ _ Tryz.underlying34 HPS.out ?_)
  |(go_at_call 191;refine (HTH.out _ HQ4.out).mono ?_;rintro e w5 ⟨rfl,b5⟩;have HQ5:=Za (Zb HQ4.out b5);have HB5:=Za (HB4.out.grow b5);clear b5))
 clear HWR HWY HTH HB1 HB2 HB4 HQ1 HQ2 HQ4;refine wp_region_held_drew (S:=fun w'=>Kb w5 w') (by kernel_rfl) (below_drewN (Below.refl _ _) 1) (fun hHeld=>?_);refine tkp 0 (.pointer (some ⟨q,0,none⟩)) hHeld ?_;simp only [zq];refine tkp 1 (.int .i64 fi) hHeld ?_;simp only [zq];refine wpAnyH_ready (rs:=[2]) (by kernel_rfl) (by simp) ?_;refine AllReadyH.cons rfl (fun KQ hK=>?_) AllReadyH.nil;go_simp;refine (HKD.out _ (Zb HQ5.out hHeld)).mono ?_;rintro e z1 ⟨rfl,a1⟩;refine hK.out _ _ (Zb hHeld a1) (fun hHeld=>?_);clear hK KQ;refine tkp 3 (.bool true) hHeld ?_;simp only [zq];refine tkp 4 (.bool true) hHeld ?_;simp only [zq];refine tkp 5 (.pointer (some ⟨q,0,none⟩)) hHeld ?_;simp only [zq];refine tkp 6 (.int .i64 fi) hHeld ?_;simp only [zq];refine tkg 8 (.agg (B K)) rfl (yieldsIf_load_mid rfl 34 (.tmp 6) rfl b6 0 rfl (B K).toList _ (fun w hS=>(HB5.out.grow hS).range) Tryz.underlying34 rfl HPL.out) hHeld ?_;simp only [zq];refine wpAnyH_ready (rs:=[7]) (by kernel_rfl) (by simp) ?_;refine AllReadyH.cons rfl (fun KQ hK=>?_) AllReadyH.nil;go_simp;refine (HKY.out _ (Zb HQ5.out hHeld)).mono ?_;rintro e z2 ⟨rfl,a2⟩;refine hK.out _ _ (Zb hHeld a2) (fun hHeld=>?_);clear hK KQ;refine tkp 9 (.bool false) hHeld ?_;simp only [zq];refine tkp 10 (.bool false) hHeld ?_;simp only [zq];refine wpAnyH_done (by kernel_rfl) ?_ _;have HH:=Za hHeld;clear hHeld
 go_wp2_with fail
 go_ret2;exact ⟨by rfl,Zb HQ5.out HH.out⟩
theorem Yfz
  (HPS:Hid ((Tryz.prog.info? 34).map (·.size)=some (B K).size)) (hwn:wn≤256)
  (HWR:Hid (Kr w 190 #[.pointer (some ⟨q,0,none⟩),.int .i64 rt,u] (.int .i64 0)))
  (HWY:Hid (∀w',Kb w w'→Kc 46 #[.pointer (some ⟨q,0,none⟩),.int .i64 rt,.agg (B K)] w' fun e w''=>∃a c,e=.returned (.tuple #[.slice a wn c,.int .i64 fi])∧Below w'.heap.size w' w''))
  (HTH:Hid (Kr w 191 #[.pointer (some ⟨q,0,none⟩),.int .i64 fi,.agg (B K),u] (.bool false)))
  (HKD:Hid (Kr w 48 #[.pointer (some ⟨q,0,none⟩),.int .i64 fi] (.int .u8 1))) {ky:Lq} {c:Nat} (hc:wn≤c∧c<256) (HKY:Hid (Kr w 95 #[.pointer (some ⟨q,0,none⟩),.int .i64 fi] (.agg (B ky)))) (HCM:Hid (∀w',Kc 192 #[.agg (B K),.agg (B ky)] w' fun e w''=>e=.returned (.int .i64 (c:Int))∧Below w'.heap.size w' w'')) (hEK:∀w,(Op.equalIn 10000 34 (.agg (B ky)) (.agg (B K))).run Tryz.prog w=.ok false w):Kc 153 #[.pointer (some ⟨q,0,none⟩),.int .i64 rt,.agg (B K),u] w fun e w'=>e=.returned (.tuple #[.int .i64 ((1+(c+1):Nat):Int),.int .i64 0])∧Kb w w':=by
 have HPL:Hid ((Tryz.prog.info? 34).map (·.size)=some (B K).toList.length):=by show _=_;rw [Array.length_toList];exact HPS.out
 have hw1:wrap64 (1+(wn:Int))=1+(wn:Int):=Go.IntWalk.wrap64_in _ (by omega);obtain ⟨hc1,hc2⟩:=hc;have hw2:IntKind.i64.wrap (1+(wn:Int)+(c:Int))=1+(wn:Int)+(c:Int):=(Go.IntWalk.i64_left _).trans (Go.IntWalk.wrap64_in _ (by omega));have hw3:IntKind.i64.wrap (1+(wn:Int)+(c:Int)-(wn:Int))=1+(c:Int):=(Go.IntWalk.i64_left _).trans ((Go.IntWalk.wrap64_in _ (by omega)).trans (by omega));have hw4:IntKind.i64.wrap (1+(c:Int)+1)=((1+(c+1):Nat):Int):=(Go.IntWalk.i64_left _).trans ((Go.IntWalk.wrap64_in _ (by omega)).trans (by omega));go_enter Tryz.func153,Tryz.ntmps153
 go_wp2_with (first
  |((with_reducible refine Zl 6 ?_);refine Zc _ rfl _ _ rfl _ rfl ?_;intro w1 b6 hg6 hl6 B6 q6;have HB1:=Za B6;have HQ1:=Za q6;clear hg6 hl6 B6 q6)
  |(go_at_call 190;refine (HWR.out _ HQ1.out).mono ?_;rintro e w2 ⟨rfl,b2⟩;have HQ2:=Za (Zb HQ1.out b2);have HB2:=Za (HB1.out.grow b2);clear b2)
  |((with_reducible refine Zk 24 6 ?_);refine Zd _ rfl _ _ rfl b6 _ rfl HB2.out _ _ Tryz.underlying34 HPS.out ?_)
  |(go_at_call 46;refine (HWY.out _ HQ2.out).mono ?_;rintro e w4 ⟨wa,wc,rfl,b4⟩;have HQ4:=Za (Zb HQ2.out b4);have HB4:=Za (HB2.out.grow b4);clear b4)
  |((with_reducible refine Zk 30 6 ?_);refine Zd _ rfl _ _ rfl b6 _ rfl HB4.out _ _ Tryz.underlying34 HPS.out ?_)
  |(go_at_call 191;refine (HTH.out _ HQ4.out).mono ?_;rintro e w5 ⟨rfl,b5⟩;have HQ5:=Za (Zb HQ4.out b5);have HB5:=Za (HB4.out.grow b5);clear b5))
 clear HWR HWY HTH HB1 HB2 HB4 HQ1 HQ2 HQ4;refine wp_region_held_drew (S:=fun w'=>Kb w5 w') (by kernel_rfl) (below_drewN (Below.refl _ _) 1) (fun hHeld=>?_);refine tkp 0 (.pointer (some ⟨q,0,none⟩)) hHeld ?_;simp only [zq];refine tkp 1 (.int .i64 fi) hHeld ?_;simp only [zq];refine wpAnyH_ready (rs:=[2]) (by kernel_rfl) (by simp) ?_;refine AllReadyH.cons rfl (fun KQ hK=>?_) AllReadyH.nil;go_simp;refine (HKD.out _ (Zb HQ5.out hHeld)).mono ?_;rintro e z1 ⟨rfl,a1⟩;refine hK.out _ _ (Zb hHeld a1) (fun hHeld=>?_);clear hK KQ;refine tkp 3 (.bool true) hHeld ?_;simp only [zq];refine tkp 4 (.bool true) hHeld ?_;simp only [zq];refine tkp 5 (.pointer (some ⟨q,0,none⟩)) hHeld ?_;simp only [zq];refine tkp 6 (.int .i64 fi) hHeld ?_;simp only [zq];refine tkg 8 (.agg (B K)) rfl (yieldsIf_load_mid rfl 34 (.tmp 6) rfl b6 0 rfl (B K).toList _ (fun w hS=>(HB5.out.grow hS).range) Tryz.underlying34 rfl HPL.out) hHeld ?_;simp only [zq];refine wpAnyH_ready (rs:=[7]) (by kernel_rfl) (by simp) ?_;refine AllReadyH.cons rfl (fun KQ hK=>?_) AllReadyH.nil;go_simp;refine (HKY.out _ (Zb HQ5.out hHeld)).mono ?_;rintro e z2 ⟨rfl,a2⟩;refine hK.out _ _ (Zb hHeld a2) (fun hHeld=>?_);clear hK KQ;refine tkp 9 (.bool true) hHeld ?_;simp only [zq];refine tkp 10 (.bool true) hHeld ?_;simp only [zq];refine wpAnyH_done (by kernel_rfl) ?_ _;have HH:=Za hHeld;clear hHeld
 go_wp2_with fail
 refine wp_region_held_drew (S:=fun w'=>Kb w5 w') (by kernel_rfl) (Zb HH.out (below_drewN (Below.refl _ _) 1)) (fun hHeld=>?_);refine tkp 0 (.int .i64 (1+(wn:Int))) hHeld ?_;simp only [zq];refine tkg 1 (.agg (B K)) rfl (yieldsIf_load_mid rfl 34 (.tmp 6) rfl b6 0 rfl (B K).toList _ (fun w hS=>(HB5.out.grow hS).range) Tryz.underlying34 rfl HPL.out) hHeld ?_;simp only [zq];refine tkp 2 (.pointer (some ⟨q,0,none⟩)) hHeld ?_;simp only [zq];refine tkp 3 (.int .i64 fi) hHeld ?_;simp only [zq];refine tkp 7 (.slice wa wn wc) hHeld ?_;simp only [zq];refine tkp 8 (.int .i64 (wn:Int)) hHeld ?_;simp only [zq];refine wpAnyH_ready (rs:=[4]) (by kernel_rfl) (by simp) ?_;refine AllReadyH.cons rfl (fun KQ hK=>?_) AllReadyH.nil;go_simp;refine (HKY.out _ (Zb HQ5.out hHeld)).mono ?_;rintro e z3 ⟨rfl,a3⟩;refine hK.out _ _ (Zb hHeld a3) (fun hHeld=>?_);clear hK KQ;refine wpAnyH_ready (rs:=[5]) (by kernel_rfl) (by simp) ?_;refine AllReadyH.cons rfl (fun KQ hK=>?_) AllReadyH.nil;go_simp;refine (HCM.out _).mono ?_;rintro e z4 ⟨rfl,a4⟩;refine hK.out _ _ (Zb hHeld a4) (fun hHeld=>?_);clear hK KQ;refine tkp 6 (.int .i64 (1+(wn:Int)+(c:Int))) hHeld ?_;simp only [zq];refine tkp 9 (.int .i64 (1+(c:Int))) hHeld ?_;simp only [zq];refine tkp 10 (.int .i64 ((1+(c+1):Nat):Int)) hHeld ?_;simp only [zq];refine tkp 11 (.int .i64 ((1+(c+1):Nat):Int)) hHeld ?_;simp only [zq];refine wpAnyH_done (by kernel_rfl) ?_ _
 go_wp2_with fail
 go_ret2;exact ⟨rfl,Zb HQ5.out hHeld⟩
theorem Zxd (V:Hr w0 S0 w q room cs fr) (h:Int) (K:Lq) (u:Value) (bs:Lq) (hu:Reads w u bs) (e0:Int) (he:vRf true (cot cs h) (cat cs h) h bs.length=e0) (h0:e0≠0):Kc 153 #[.pointer (some ⟨q,0,none⟩),.int .i64 h,.agg (B K),u] w fun e w'=>e=.returned (.tuple #[.int .i64 0,.int .i64 e0])∧Kb w w':=by
 obtain ⟨a,c,rfl,_⟩:=hu;have HRF:Hid (Kr w 190 #[.pointer (some ⟨q,0,none⟩),.int .i64 h,.slice a bs.length c] (.int .i64 e0)):=fun w' hb=>by
  have:=Zhd (V.grow hb) h a bs.length c;rwa [he] at this
 have hb0:(e0 != 0)=true:=by simpa using h0
 generalize bs.length=n at HRF ⊢;clear V he h0;go_enter Tryz.func153,Tryz.ntmps153
 go_wp2_with (first
  |((with_reducible refine Zl 6 ?_);refine Zc _ rfl _ _ rfl _ rfl ?_;intro w1 b5 hg5 hl5 B5 q5;have HQ5:=Za q5;clear hg5 hl5 B5 q5)
  |(go_at_call 190;refine (HRF.out _ HQ5.out).mono ?_;rintro e w2 ⟨rfl,b2⟩;have HQ2:=Za (Zb HQ5.out b2);clear b2))
 go_ret2;exact ⟨rfl,HQ2.out⟩
theorem Zxe (V:Hr w0 S0 w q room cs fr) (h5:room≤5000) {h:Nat} {T:Tre} (r:Rt cs h T) {K:Lq} (hK:Key K) {u:Value} {bs:Lq} (hu:Reads w u bs) (hl:bs.length≤1024) {ss:List Nat} (hss:BesIs K T h ss):Kc 153 #[.pointer (some ⟨q,0,none⟩),.int .i64 (h:Int),.agg (B K),u] w fun e w'=>e=.returned (.tuple #[.int .i64 (costN T K bs ss:Int),.int .i64 0])∧Kb w w':=by
 have W:=V.wf;have hlen:=Tre.hs_oth K T h;have HPS:Hid ((Tryz.prog.info? 34).map (·.size)=some (B K).size):=by show _=_;rw [Zj,hK.1];exact Zi
 have HWR:Hid (Kr w 190 #[.pointer (some ⟨q,0,none⟩),.int .i64 (h:Int),u] (.int .i64 0)):=fun w' hb=>by
  obtain ⟨a,c,hue,_⟩:=hu;have:=Zhd (V.grow hb) (h:Int) a bs.length c;rw [r.refuse hl] at this;rw [hue];exact this
 have HWY:Hid (∀w',Kb w w'→Kc 46 #[.pointer (some ⟨q,0,none⟩),.int .i64 (h:Int),.agg (B K)] w' fun e w''=>∃a c,e=.returned (.tuple #[.slice a (T.hs K h).length c,.int .i64 (T.fin K h:Int)])∧Below w'.heap.size w' w''):=fun w' hb=>(Ztl (V.grow hb) h T r.tree K hK r.dp).mono fun e w'' ⟨a,c,e1,_,b⟩=>⟨a,c,e1,b⟩
 have HTH:=fun w' (hb:Kb w w')=>Zpg (V.grow hb) h5 (T.fin K h:Int) K hK u bs (hu.grow hb)
 have hwn:(T.hs K h).length≤256:=by
  have:=(Zcu W K T h 0 r.tree r.dp (by omega)).2.2;omega
 by_cases hsm:T.efin K=[(K,bs)]
 ·rw [Zvl r.tree hsm] at HTH;rw [costN,if_pos hsm];exact Yfy HPS hwn HWR HWY HTH
 ·rw [Ydy r.tree hsm] at HTH;rw [costN,if_neg hsm];have HKD:Hid (Kr w 48 #[.pointer (some ⟨q,0,none⟩),.int .i64 (T.fin K h:Int)] (.int .u8 (cat cs (T.fin K h:Int)).kind)):=fun w' hb=>Zdx (V.grow hb) _
  have HKY:Hid (Kr w 95 #[.pointer (some ⟨q,0,none⟩),.int .i64 (T.fin K h:Int)] (.agg (B (cat cs (T.fin K h:Int)).key))):=fun w' hb=>Zsa (V.grow hb) h5 _
  rcases Zds K T h r.tree with ⟨f1,f2⟩ | ⟨k,b,f1,f2,f3,f4,f5,f6⟩
  ·have hsl:ss=T.oth K:=by
    rcases hss with ⟨_,e⟩ | ⟨b,e,_⟩ | ⟨k,b,c,e,_⟩
    ·exact e
    ·rw [f2] at e;cases e
    ·rw [f2] at e;cases e
   have hk0:(cat cs (T.fin K h:Int)).kind=0:=by rw [f1];rfl
   rw [hk0] at HKD;rw [hsl,← hlen];exact Ybr HPS hwn HWR HWY HTH HKD
  ·rw [Zeq f2] at HKD HKY;rw [f4] at HKD;rw [f5] at HKY;rcases hss with ⟨e,_⟩ | ⟨b',e,hs⟩ | ⟨k',b',c,e,e2,e3,e4,e5,hs⟩
   ·rw [f1] at e;cases e
   ·rw [f1] at e;injection e with e _;injection e with e _;subst e;rw [hs,← hlen];exact Ybq HPS hwn HWR HWY HTH HKD HKY (fun w=>by rw [Zcs k k hK.1 hK.1 w,decide_eq_true rfl])
   ·rw [f1] at e;injection e with e _;injection e with e _;subst e;have hky:Key k:=((Zbe W T h r.tree).ent (k,b) (Zce K T (k,b) (by rw [f1];simp))).1;rw [hs,Zen _ _ _ e4];exact Yfz HPS hwn HWR HWY HTH HKD ⟨by omega,e5⟩ HKY (fun w'=>Zhg K k c w' hK hky e3) (fun w=>by rw [Zcs k K hky.1 hK.1 w,decide_eq_false e2])
def M7 (w0:World) (S:List Nat) (w:World) (g gs q room:Nat) (cs:Lz) (fr:List Nat) (ss:List Sp) (fr2:List Nat):Prop:=∃vp vf vp2 vf2,Stm w g gs vp vf room cs fr∧Rs w q vp2 vf2 room ss fr2∧(∀k∈stB g gs vp vf cs,k ∉ rsB q vp2 vf2 ss)∧Mod S w0 w∧New S w0 (stB g gs vp vf cs)∧New S w0 (rsB q vp2 vf2 ss)
def P7 (w0:World) (S:List Nat) (w:World) (g gs q room:Nat) (cs:Lz) (fr:List Nat):Prop:=∃ss,M7 w0 S w g gs q room cs fr ss fr∧Rel7 cs [] [] ss∧Wf cs []
def Two7 (w0:World) (S:List Nat) (g gs q room:Nat) (f:FuncId) (args:Array Value) (E:Ending) (cs':Lz) (fr':List Nat) (w':World):Prop:=∃ss fr2,M7 w0 S w' g gs q room cs' fr' ss fr2∧∀w'',M7 w0 S w'' g gs q room cs' fr' ss fr2→Kc f args w'' fun e w3=>e=E∧P7 w0 S w3 g gs q room cs' fr'
section
variable {w0 w:World} {S:List Nat} {g gs q room:Nat} {cs:Lz} {fr:List Nat} {ss:List Sp} {fr2:List Nat}
theorem M7.mod (h:M7 w0 S w g gs q room cs fr ss fr2):Mod S w0 w:=by obtain ⟨_,_,_,_,_,_,_,m,_,_⟩:=h;exact m
theorem M7.grow (h:M7 w0 S w g gs q room cs fr ss fr2) (hb:Kb w w'):M7 w0 S w' g gs q room cs fr ss fr2:=by
 obtain ⟨vp,vf,vp2,vf2,s,d,ap,m,n1,n2⟩:=h;exact ⟨vp,vf,vp2,vf2,s.grow hb,d.grow hb,ap,m.trans' (Mod.of_below hb S),n1,n2⟩
theorem M7.inv (h:M7 w0 S w g gs q room cs fr ss fr2):Inv room (cs.map pl) fr:=by
 obtain ⟨vp,vf,vp2,vf2,s,_⟩:=h;exact s.sl.inv
theorem M7.useS {f:FuncId} {args:Array Value} {P:Ending→Lz→List Nat→Prop} (h:M7 w0 S w g gs q room cs fr ss fr2) (hW:Wf cs []) (hc:∀S',Hs w S' w g gs room cs fr→(∀P:World→Prop,Kq S w0 P→Kq S' w P)→Kc f args w fun e w'=>∃cs' fr',P e cs' fr'∧Hs w S' w' g gs room cs' fr'):Kc f args w fun e w'=>∃cs' fr',P e cs' fr'∧Wf cs' []∧M7 w0 S w' g gs q room cs' fr' ss fr2:=by
 obtain ⟨vp,vf,vp2,vf2,s,d,ap,m,n1,n2⟩:=h;refine (hc _ (Hs.here s hW) fun P k=>k.turn m n1).mono ?_;rintro e w' ⟨cs',fr',hp,⟨vp',vf',s',m',n'⟩,W'⟩;refine ⟨cs',fr',hp,W',vp',vf',vp2,vf2,s',d.mod m' (fun k hk hs=>ap k hs hk),fun k hk hk2=>?_,m.trans n1 m',n1.trans m.size n',n2⟩;rcases n' k hk with e | e
 ·exact ap k e hk2
 ·have:=d.lts k hk2;omega
theorem M7.useR {f:FuncId} {args:Array Value} {E:Ending} (h:M7 w0 S w g gs q room cs fr ss fr2) (R:Rel7 cs1 [] [] ss) (W:Wf cs1 []) (I:Inv room (cs1.map pl) fr2) (W':Wf cs []) (hc:∀S',Hr w S' w q room cs1 fr2→(∀P:World→Prop,Kq S w0 P→Kq S' w P)→Kc f args w fun e w'=>e=E∧Hr w S' w' q room cs fr):Kc f args w fun e w'=>e=E∧P7 w0 S w' g gs q room cs fr:=by
 obtain ⟨vp,vf,vp2,vf2,s,d,ap,m,n1,n2⟩:=h;refine (hc _ (Hr.here d R W I) fun P k=>k.turn m n2).mono ?_;rintro e w' ⟨e1,⟨ss',⟨vp',vf',d',m',n'⟩,R'⟩,_,_⟩;refine ⟨e1,ss',⟨vp,vf,vp',vf',s.mod m' (fun k hk=>ap k hk),d',fun k hk hk2=>?_,m.trans n2 m',n1,n2.trans m.size n'⟩,R',W'⟩;rcases n' k hk2 with e | e
 ·exact ap k hk e
 ·have:=s.lts k hk;omega
theorem P7.grow (h:P7 w0 S w g gs q room cs fr) (hb:Kb w w'):P7 w0 S w' g gs q room cs fr:=by
 obtain ⟨ss,M,R,W⟩:=h;exact ⟨ss,M.grow hb,R,W⟩
theorem P7.mod (h:P7 w0 S w g gs q room cs fr):Mod S w0 w:=by obtain ⟨ss,M,R,W⟩:=h;exact M.mod
theorem P7.kq {P:World→Prop} (h:P7 w0 S w g gs q room cs fr) (k:Kq S w0 P):P w:=k w h.mod
theorem P7.wf (h:P7 w0 S w g gs q room cs fr):Wf cs []:=by obtain ⟨ss,M,R,W⟩:=h;exact W
theorem P7.inv (h:P7 w0 S w g gs q room cs fr):Inv room (cs.map pl) fr:=by obtain ⟨ss,M,R,W⟩:=h;exact M.inv
theorem P7.hs (h:P7 w0 S w g gs q room cs fr):∃S',Hs w S' w g gs room cs fr:=by
 obtain ⟨ss,⟨vp,vf,vp2,vf2,s,_⟩,R,W⟩:=h;exact ⟨_,Hs.here s W⟩
theorem P7.hr (h:P7 w0 S w g gs q room cs fr):∃S',Hr w S' w q room cs fr:=by
 have I:=h.inv;obtain ⟨ss,⟨vp,vf,vp2,vf2,s,d,_⟩,R,W⟩:=h;exact ⟨_,Hr.here d R W I⟩
theorem Two7.grow {f:FuncId} {args:Array Value} {E:Ending} (h:Two7 w0 S g gs q room f args E cs fr w) (hb:Kb w w'):Two7 w0 S g gs q room f args E cs fr w':=by
 obtain ⟨ss,fr2,M,h⟩:=h;exact ⟨ss,fr2,M.grow hb,h⟩
theorem Two7.mod {f:FuncId} {args:Array Value} {E:Ending} (h:Two7 w0 S g gs q room f args E cs fr w):Mod S w0 w:=by obtain ⟨ss,fr2,M,h⟩:=h;exact M.mod
theorem Two7.kq {f:FuncId} {args:Array Value} {E:Ending} {P:World→Prop} (h:Two7 w0 S g gs q room f args E cs fr w) (k:Kq S w0 P):P w:=k w h.mod
theorem Two7.go {f:FuncId} {args:Array Value} {E:Ending} (h:Two7 w0 S g gs q room f args E cs fr w):Kc f args w fun e w3=>e=E∧P7 w0 S w3 g gs q room cs fr:=by
 obtain ⟨ss,fr2,M,h⟩:=h;exact h _ M
theorem P7.two {f f2:FuncId} {args args2:Array Value} {Q:Ending→Lz→List Nat→Prop} (h:P7 w0 S w g gs q room cs fr) (hc:∀S',Hs w S' w g gs room cs fr→(∀P:World→Prop,Kq S w0 P→Kq S' w P)→Kc f args w fun e w'=>∃cs' fr',Q e cs' fr'∧Hs w S' w' g gs room cs' fr') (hr:∀E cs' fr',Q E cs' fr'→∀w' S',Hr w' S' w' q room cs fr→Mod S w0 w'→(∀P:World→Prop,Kq S w0 P→Kq S' w' P)→Kc f2 args2 w' fun e w''=>e=E∧Hr w' S' w'' q room cs' fr'):Kc f args w fun e w'=>∃cs' fr',Q e cs' fr'∧Two7 w0 S g gs q room f2 args2 e cs' fr' w':=by
 have I:=h.inv;obtain ⟨ss,M,R,W⟩:=h;refine (M.useS W hc).mono ?_;rintro e w' ⟨cs',fr',hq,W',M'⟩;exact ⟨cs',fr',hq,ss,fr,M',fun w'' M2=>M2.useR R W I W' fun S' H hk=>hr e cs' fr' hq w'' S' H M2.mod hk⟩
theorem P7.stay {f f2:FuncId} {args args2:Array Value} {E:Ending} (h:P7 w0 S w g gs q room cs fr) (hc:∀S',Hs w S' w g gs room cs fr→Kc f args w fun e w'=>e=E∧Hs w S' w' g gs room cs fr) (hr:∀w' S',Hr w' S' w' q room cs fr→Mod S w0 w'→Kc f2 args2 w' fun e w''=>e=E∧Hr w' S' w'' q room cs fr):Kc f args w fun e w'=>e=E∧Two7 w0 S g gs q room f2 args2 E cs fr w':=by
 refine (h.two (f2:=f2) (args2:=args2) (Q:=fun e cs' fr'=>e=E∧cs'=cs∧fr'=fr) (fun S' H _=>(hc S' H).mono fun e w' ⟨e1,k⟩=>⟨cs,fr,⟨e1,rfl,rfl⟩,k⟩) ?_).mono ?_
 ·rintro _ _ _ ⟨rfl,rfl,rfl⟩ w' S' H m _;exact hr w' S' H m
 ·rintro e w' ⟨_,_,⟨rfl,rfl,rfl⟩,t⟩;exact ⟨rfl,t⟩
theorem Zoa (h:Hs w0 S w g gs room cs fr) (i:Nat) (hc:cc cs i=1073741824):Kc 108 #[.pointer (some ⟨g,0,none⟩),.int .i64 ((i:Int)+1)] w fun e w'=>e=.returned (.int .i64 4)∧Hs w0 S w' g gs room cs fr:=by
 have hh:=h;obtain ⟨⟨vp,vf,s,m,n⟩,W⟩:=h;exact (Zuf s i hc).mono fun e w' ⟨e1,b⟩=>⟨e1,b ▸ hh⟩
theorem Zma (W:Wf cs []) {i:Nat} (hi:0<cc cs i) (j:Nat):Go.Proofs.YtgfdgjkbcdmboaaGreatDoor.own (moreC cs i) [] j=Go.Proofs.YtgfdgjkbcdmboaaGreatDoor.own cs [] j+(if i=j then 1 else 0):=by
 have:=W.le j;rw [List.count_nil] at this;unfold Go.Proofs.YtgfdgjkbcdmboaaGreatDoor.own;rw [Zdo hi,Zcl,List.count_nil];omega
end
end Go.Proofs.YtgfdgjkbcdmboaaGreatDoor
namespace Go.Proofs.YtgfdgjkbcdmboaaGreatDoor
variable {K:Lq}
variable {S0 fr hsl:List Nat}
variable {cs cs1:Lz}
variable {fi rt:Int}
variable {q room wn:Nat}
variable {u:Value}
variable {w w' w0:World}
set_option maxHeartbeats 8000000
set_option maxRecDepth 20000
open Go.RowKit
theorem Yhz (W:Wf cs []) {x:Int} (h:vAh true (cot cs x) (cat cs x) x=0):∃(n:Nat) (T:Tre),x=(n:Int)∧Rt cs n T:=by
 unfold vAh at h
 by_cases hr:vRt true (cot cs x) (cat cs x) x=0
 ·rw [if_pos hr] at h
  by_cases h0:x=0
  ·exact ⟨0,.emp,h0,Rt.zero cs⟩
  ·have hc:cot cs x≠0:=fun e=>by
    unfold vRt at hr;rw [if_pos rfl,if_neg h0,if_pos e] at hr;omega
   have hab: ¬(cot cs x-(cat cs x).ab=0):=fun e=>by
    rw [if_pos ⟨h0,e⟩] at h;omega
   obtain ⟨i,rfl,h2,h3,h4⟩:=Zfe (cs:=cs) (h:=x) (by omega);obtain ⟨T,hT⟩:=Zoy W i h2;have hr':vRt true (cot cs ((i+1:Nat):Int)) (cat cs ((i+1:Nat):Int)) ((i+1:Nat):Int)=0:=hr;refine ⟨i+1,T,rfl,hT,Zpi hT hr',.inr ?_⟩;rw [h3,h4] at hab;show 0<Go.Proofs.YtgfdgjkbcdmboaaGreatDoor.own cs [] i;unfold Go.Proofs.YtgfdgjkbcdmboaaGreatDoor.own;rw [List.count_nil];omega
 ·rw [if_neg hr] at h;exact absurd h hr
theorem Yiy (W:Wf cs []) {x:Int} {n:Nat} (h:vRf true (cot cs x) (cat cs x) x n=0):n≤1024∧∃(k:Nat) (T:Tre),x=(k:Int)∧Rt cs k T:=by
 unfold vRf at h;rw [if_pos rfl] at h
 by_cases hn:1024<n
 ·rw [if_pos hn] at h;omega
 ·rw [if_neg hn] at h;exact ⟨by omega,Yhz W h⟩
section
variable {w0 w:World} {S:List Nat} {g gs q room:Nat} {cs:Lz} {fr:List Nat}
theorem Yka (h:P7 w0 S w g gs q room cs fr) (h5:room≤5000) (hb:∀i,own cs [] i≤1000000) (x:Int) {K:Lq} (hK:Key K) {v:Value} {bs:Lq} (hv:Reads w v bs):∃y er:Int,∀w',Kb w w'→(Kc 152 #[.pointer (some ⟨g,0,none⟩),.int .i64 x,.agg (B K),v] w' fun e w''=>e=.returned (.tuple #[.int .i64 y,.int .i64 er])∧Below w'.heap.size w' w'')∧Kc 153 #[.pointer (some ⟨q,0,none⟩),.int .i64 x,.agg (B K),v] w' fun e w''=>e=.returned (.tuple #[.int .i64 y,.int .i64 er])∧Below w'.heap.size w' w'':=by
 have W:=h.wf;obtain ⟨S1,H⟩:=h.hs;obtain ⟨S2,V⟩:=h.hr
 by_cases he:vRf true (cot cs x) (cat cs x) x bs.length=0
 ·obtain ⟨hl,n,T,rfl,r⟩:=Yiy W he;obtain ⟨ss,hss,hbo⟩:=Yew W K hK r.tree r.dp;exact ⟨_,_,fun w' hw=>⟨Ydh (H.grow hw) r hK (hv.grow hw) hl hb hss hbo.len,Zxe (V.grow hw) h5 r hK (hv.grow hw) hl hss⟩⟩
 ·refine ⟨_,_,fun w' hw=>⟨?_,Zxd (V.grow hw) x K v bs (hv.grow hw) _ rfl he⟩⟩;obtain ⟨a,c,e,_⟩:=hv;rw [e];exact Ydg (H.vw.grow hw) x K a bs.length c _ rfl he
theorem Yjv (h:P7 w0 S w g gs q room cs fr) (h5:room≤5000) (j:Int):∃b:Bool,∀w',Kb w w'→(Kc 50 #[.pointer (some ⟨g,0,none⟩),.int .i64 j] w' fun e w''=>e=.returned (.bool b)∧Below w'.heap.size w' w'')∧Kc 56 #[.pointer (some ⟨q,0,none⟩),.int .i64 j] w' fun e w''=>e=.returned (.bool b)∧Below w'.heap.size w' w'':=by
 obtain ⟨S1,H⟩:=h.hs;obtain ⟨S2,V⟩:=h.hr;exact ⟨_,fun w' hw=>⟨Zdf (H.grow hw) j,Ziy (V.grow hw) h5 j⟩⟩
theorem Yjq (h:P7 w0 S w g gs q room cs fr) (j:Int):∃er:Int,∀w',Kb w w'→(Kc 42 #[.pointer (some ⟨g,0,none⟩),.int .i64 j] w' fun e w''=>e=.returned (.int .i64 er)∧Below w'.heap.size w' w'')∧Kc 45 #[.pointer (some ⟨q,0,none⟩),.int .i64 j] w' fun e w''=>e=.returned (.int .i64 er)∧Below w'.heap.size w' w'':=by
 obtain ⟨S1,H⟩:=h.hs;obtain ⟨S2,V⟩:=h.hr;exact ⟨_,fun w' hw=>⟨Zbt (H.vw.grow hw) j,Zdm (V.grow hw) j⟩⟩
end
end Go.Proofs.YtgfdgjkbcdmboaaGreatDoor
