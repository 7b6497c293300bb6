/- slices.swapRangeCmpFunc and slices.rotateCmpFunc at writes, as contracts. -/
import Derived.Test.YtdjpigfibafokaaGreatDoorDz01
import Derived.Test.YtdjpigfibafokaaGreatDoorDz28
import Derived.Deep.CutRange
namespace Go.Proofs.YtdjpigfibafokaaGreatDoor
variable {N2 a b i j k m mid n p r r0 s s0 t:Nat}
set_option maxHeartbeats 8000000
set_option maxRecDepth 20000
open Go.RowKit

set_option maxRecDepth 100000 in
theorem swr_any (w0:World) (g n c a b m:Nat) (xs:List Wt) (fv:Value) (w:World) (h:Sw w0 g n c w xs) (hab:a+m≤b) (hb:b+m≤n) (hn:n≤65536):
    Kc 330 #[.slice (some ⟨g,0,none⟩) n c,.int .i64 (a:Int),.int .i64 (b:Int),.int .i64 (m:Int),fv] w fun e w'=>e=.returned (.tuple #[])∧Sw w0 g n c w' (swr xs a b m):=by
  obtain ⟨fs,hu⟩:=u_write;have HUW:=hidden hu;have HSW:=hidden h;clear h hu;go_enter Tryz.func330,Tryz.ntmps330
  go_wp2_with fail
  go_loopw [10] (fun iv wr=>∃(k:Nat),k≤m∧iv=.int .i64 (k:Int)∧Hid (Sw w0 g n c wr (swr xs a b k))) (fun iv _=>m-(intOf iv).toNat)
  case atStart=>exact ⟨0,by omega,rfl,HSW⟩
  case round=>
    clear HSW;obtain ⟨k,hkm,rfl,hsw⟩:=hrel
    by_cases hlt:k<m
    · as_aux_lemma=>
        have z1:(k:Int)<(m:Int):=by omega
        have hwk:wrap64 ((k:Int)+1)=((k+1:Nat):Int):=by rw [Go.IntWalk.wrap64_in _ (by omega)];rfl
        obtain ⟨p,hp⟩:∃p,p=a+k:=⟨_,rfl⟩;obtain ⟨q,hq⟩:∃q,q=b+k:=⟨_,rfl⟩;have HNX:Hid (swr xs a b (k+1)=swp (swr xs a b k) p q):=by show _=_;rw [swr,hp,hq]
        have z2:IntKind.i64.wrap ((a:Int)+(k:Int))=(p:Int):=by rw [IntKind.wrap_i64];omega
        have z3:IntKind.i64.wrap ((b:Int)+(k:Int))=(q:Int):=by rw [IntKind.wrap_i64];omega
        have z4:(0:Int)≤(p:Int):=by omega
        have z5:(p:Int)<(n:Int):=by omega
        have z6:(0:Int)≤(q:Int):=by omega
        have z7:(q:Int)<(n:Int):=by omega
        obtain ⟨X,Y,htwo⟩:=hsw.out.twos p q (by omega) (by omega);have HT:=hidden (htwo _ (Below.refl _ _).drew);clear htwo hp hq hsw
        go_wp2_with fail
        refine wp_region_wrote (S:=fun w'=>w'.rangeAt g (p * 34) (encW X)∧w'.rangeAt g (q * 34) (encW Y)) [21,23] (by kernel_rfl) (HT.out.rg) (fun hHeld=>?_);refine wpAnyW_take0 (i:=0) (v:=.slice (some ⟨g,0,none⟩) n c) rfl (by kernel_rfl) (by kernel_rfl) (by kernel_rfl) (by kernel_rfl) (fun _ _ _ h=>h) (Or.inl ⟨by rfl,fun w hS=>by go_simp⟩) (.inr hHeld) ?_;simp only [Act.put,zq1,zq2,zq4,zq5,zq6];refine wpAnyW_take0 (i:=1) (v:=.int .i64 (a:Int)) rfl (by kernel_rfl) (by kernel_rfl) (by kernel_rfl) (by kernel_rfl) (fun _ _ _ h=>h) (Or.inl ⟨by rfl,fun w hS=>by go_simp⟩) (.inr hHeld) ?_;simp only [Act.put,zq1,zq2,zq3,zq4,zq5,zq6];refine wpAnyW_take0 (i:=2) (v:=.int .i64 (k:Int)) rfl (by kernel_rfl) (by kernel_rfl) (by kernel_rfl) (by kernel_rfl) (fun _ _ _ h=>h) (Or.inl ⟨by rfl,fun w hS=>by go_simp⟩) (.inr hHeld) ?_;simp only [Act.put,zq1,zq2,zq3,zq4,zq5,zq6];refine wpAnyW_take0 (i:=3) (v:=.int .i64 (p:Int)) rfl (by kernel_rfl) (by kernel_rfl) (by kernel_rfl) (by kernel_rfl) (fun _ _ _ h=>h) (Or.inl ⟨by rfl,fun w hS=>by go_simp⟩) (.inr hHeld) ?_;simp only [Act.put,zq1,zq2,zq3,zq4,zq5,zq6];refine wpAnyW_take0 (i:=4) (v:=.slice (some ⟨g,0,none⟩) n c) rfl (by kernel_rfl) (by kernel_rfl) (by kernel_rfl) (by kernel_rfl) (fun _ _ _ h=>h) (Or.inl ⟨by rfl,fun w hS=>by go_simp⟩) (.inr hHeld) ?_;simp only [Act.put,zq1,zq2,zq3,zq4,zq5,zq6];refine wpAnyW_take0 (i:=5) (v:=.int .i64 (b:Int)) rfl (by kernel_rfl) (by kernel_rfl) (by kernel_rfl) (by kernel_rfl) (fun _ _ _ h=>h) (Or.inl ⟨by rfl,fun w hS=>by go_simp⟩) (.inr hHeld) ?_;simp only [Act.put,zq1,zq2,zq3,zq4,zq5,zq6];refine wpAnyW_take0 (i:=6) (v:=.int .i64 (k:Int)) rfl (by kernel_rfl) (by kernel_rfl) (by kernel_rfl) (by kernel_rfl) (fun _ _ _ h=>h) (Or.inl ⟨by rfl,fun w hS=>by go_simp⟩) (.inr hHeld) ?_;simp only [Act.put,zq1,zq2,zq3,zq4,zq5,zq6];refine wpAnyW_take0 (i:=7) (v:=.int .i64 (q:Int)) rfl (by kernel_rfl) (by kernel_rfl) (by kernel_rfl) (by kernel_rfl) (fun _ _ _ h=>h) (Or.inl ⟨by rfl,fun w hS=>by go_simp⟩) (.inr hHeld) ?_;simp only [Act.put,zq1,zq2,zq3,zq4,zq5,zq6];refine wpAnyW_take0 (i:=8) (v:=.slice (some ⟨g,0,none⟩) n c) rfl (by kernel_rfl) (by kernel_rfl) (by kernel_rfl) (by kernel_rfl) (fun _ _ _ h=>h) (Or.inl ⟨by rfl,fun w hS=>by go_simp⟩) (.inr hHeld) ?_;simp only [Act.put,zq1,zq2,zq3,zq4,zq5,zq6];refine wpAnyW_take0 (i:=9) (v:=.int .i64 (b:Int)) rfl (by kernel_rfl) (by kernel_rfl) (by kernel_rfl) (by kernel_rfl) (fun _ _ _ h=>h) (Or.inl ⟨by rfl,fun w hS=>by go_simp⟩) (.inr hHeld) ?_;simp only [Act.put,zq1,zq2,zq3,zq4,zq5,zq6];refine wpAnyW_take0 (i:=10) (v:=.int .i64 (k:Int)) rfl (by kernel_rfl) (by kernel_rfl) (by kernel_rfl) (by kernel_rfl) (fun _ _ _ h=>h) (Or.inl ⟨by rfl,fun w hS=>by go_simp⟩) (.inr hHeld) ?_;simp only [Act.put,zq1,zq2,zq3,zq4,zq5,zq6];refine wpAnyW_take0 (i:=11) (v:=.int .i64 (q:Int)) rfl (by kernel_rfl) (by kernel_rfl) (by kernel_rfl) (by kernel_rfl) (fun _ _ _ h=>h) (Or.inl ⟨by rfl,fun w hS=>by go_simp⟩) (.inr hHeld) ?_;simp only [Act.put,zq1,zq2,zq3,zq4,zq5,zq6];refine wpAnyW_take0 (i:=12) (v:=.pointer (some ⟨g,q * 34,none⟩)) rfl (by kernel_rfl) (by kernel_rfl) (by kernel_rfl) (by kernel_rfl) (fun _ _ _ h=>h) (Or.inl ⟨by rfl,fun w hS=>by go_simp⟩) (.inr hHeld) ?_;simp only [Act.put,zq1,zq2,zq3,zq4,zq5,zq6];refine wpAnyW_take (i:=13) (v:=.agg (encW Y).toArray) rfl (by kernel_rfl) (by kernel_rfl) (by kernel_rfl) (by kernel_rfl) (by kernel_rfl) (by kernel_rfl) (fun _ _ _ h=>h) (yieldsIf_load_mid rfl 198 (.tmp 28) rfl g (q * 34) rfl (encW Y) _ (fun w hS=>hS.2) HUW.out rfl HT.out.sy) hHeld ?_;simp only [Act.put,zq1,zq2,zq3,zq4,zq5,zq6];refine wpAnyW_take0 (i:=14) (v:=.slice (some ⟨g,0,none⟩) n c) rfl (by kernel_rfl) (by kernel_rfl) (by kernel_rfl) (by kernel_rfl) (fun _ _ _ h=>h) (Or.inl ⟨by rfl,fun w hS=>by go_simp⟩) (.inr hHeld) ?_;simp only [Act.put,zq1,zq2,zq3,zq4,zq5,zq6];refine wpAnyW_take0 (i:=15) (v:=.int .i64 (a:Int)) rfl (by kernel_rfl) (by kernel_rfl) (by kernel_rfl) (by kernel_rfl) (fun _ _ _ h=>h) (Or.inl ⟨by rfl,fun w hS=>by go_simp⟩) (.inr hHeld) ?_;simp only [Act.put,zq1,zq2,zq3,zq4,zq5,zq6];refine wpAnyW_take0 (i:=16) (v:=.int .i64 (k:Int)) rfl (by kernel_rfl) (by kernel_rfl) (by kernel_rfl) (by kernel_rfl) (fun _ _ _ h=>h) (Or.inl ⟨by rfl,fun w hS=>by go_simp⟩) (.inr hHeld) ?_;simp only [Act.put,zq1,zq2,zq3,zq4,zq5,zq6];refine wpAnyW_take0 (i:=17) (v:=.int .i64 (p:Int)) rfl (by kernel_rfl) (by kernel_rfl) (by kernel_rfl) (by kernel_rfl) (fun _ _ _ h=>h) (Or.inl ⟨by rfl,fun w hS=>by go_simp⟩) (.inr hHeld) ?_;simp only [Act.put,zq1,zq2,zq3,zq4,zq5,zq6];refine wpAnyW_take0 (i:=18) (v:=.pointer (some ⟨g,p * 34,none⟩)) rfl (by kernel_rfl) (by kernel_rfl) (by kernel_rfl) (by kernel_rfl) (fun _ _ _ h=>h) (Or.inl ⟨by rfl,fun w hS=>by go_simp⟩) (.inr hHeld) ?_;simp only [Act.put,zq1,zq2,zq3,zq4,zq5,zq6];refine wpAnyW_take (i:=19) (v:=.agg (encW X).toArray) rfl (by kernel_rfl) (by kernel_rfl) (by kernel_rfl) (by kernel_rfl) (by kernel_rfl) (by kernel_rfl) (fun _ _ _ h=>h) (yieldsIf_load_mid rfl 198 (.tmp 34) rfl g (p * 34) rfl (encW X) _ (fun w hS=>hS.1) HUW.out rfl HT.out.sx) hHeld ?_;simp only [Act.put,zq1,zq2,zq3,zq4,zq5,zq6];refine wpAnyW_take0 (i:=20) (v:=.pointer (some ⟨g,p * 34,none⟩)) rfl (by kernel_rfl) (by kernel_rfl) (by kernel_rfl) (by kernel_rfl) (fun _ _ _ h=>h) (Or.inl ⟨by rfl,fun w hS=>by go_simp⟩) (.inr hHeld) ?_;simp only [Act.put,zq1,zq2,zq3,zq4,zq5,zq6];refine wpAnyW_one (i:=21) rfl (by kernel_rfl) (by kernel_rfl) (fun KQ hK=>?_);refine step_stw _ rfl _ _ _ rfl g (p * 34) (encW Y).toArray rfl rfl HT.out.tx HT.out.ay HT.out.oy ?_;refine hK.out _ _ ?_;clear hK KQ;refine wpAnyW_take0 (i:=22) (v:=.pointer (some ⟨g,q * 34,none⟩)) rfl (by kernel_rfl) (by kernel_rfl) (by kernel_rfl) (by kernel_rfl) (fun _ _ _ h=>h) (Or.inl ⟨by rfl,fun w hS=>by go_simp⟩) (.inl (by kernel_rfl)) ?_;simp only [Act.put,zq1,zq2,zq3,zq4,zq5,zq6];refine wpAnyW_one (i:=23) rfl (by kernel_rfl) (by kernel_rfl) (fun KQ hK=>?_);refine step_stw _ rfl _ _ _ rfl g (q * 34) (encW X).toArray rfl rfl HT.out.ty HT.out.ax HT.out.ox ?_;refine hK.out _ _ ?_;clear hK KQ;refine wpAnyW_done (by kernel_rfl) ?_;have HSW2:=hidden HT.out.swap;clear HT;rw [← HNX.out] at HSW2;clear HNX;generalize (wr.drew.setCells g (p * 34) (encW Y)).setCells g (q * 34) (encW X)=wz at HSW2 ⊢;generalize hzs:swr xs a b (k+1)=zs at HSW2;have HZS:=hidden hzs;clear hzs
        go_wp2_with fail
        exact ⟨⟨k+1,by omega,rfl,by rw [HZS.out];exact HSW2⟩,by simp [intOf];omega⟩
    · have z1: ¬(k:Int)<(m:Int):=by omega
      have HSM:Hid (Sw w0 g n c wr (swr xs a b m)):=by rw [show m=k by omega];exact hsw.out
      clear hsw;go_wp2
      go_end0;exact ⟨rfl,HSM.out⟩

theorem w64_sub (h:i≤m) (hm:m≤200000):wrap64 ((m:Int)-(i:Int))=((m-i:Nat):Int):=by rw [Go.IntWalk.wrap64_in _ (by omega)];omega
theorem w64_add (hm:m+i≤200000):wrap64 ((m:Int)+(i:Int))=((m+i:Nat):Int):=by rw [Go.IntWalk.wrap64_in _ (by omega)];omega
theorem rt_right {xs ys:List Wt} (h:Rt5 xs a m b i j ys) (hij:i<j) (hb:b≤n) (hn:n≤65536):m-i+i≤m+j-i∧m+j-i+i≤n∧i≤m∧m≤200000∧m+j≤200000∧i≤m+j∧i≤j∧j≤200000∧j-i<j:=by
  obtain ⟨r1,r2,r3,r4,r5,_⟩:=h;omega
theorem rt_last {xs ys:List Wt} (h:Rt5 xs a m b i i ys) (hb:b≤n) (hn:n≤65536):m-i+i≤m∧m+i≤n∧i≤m∧m≤200000:=by
  obtain ⟨r1,r2,r3,r4,r5,_⟩:=h;omega
theorem rt_left {xs ys:List Wt} (h:Rt5 xs a m b i j ys) (hij:j<i) (hb:b≤n) (hn:n≤65536):m-i+j≤m∧m+j≤n∧i≤m∧m≤200000∧j≤i∧i≤200000∧i-j<i:=by
  obtain ⟨r1,r2,r3,r4,r5,_⟩:=h;omega

set_option maxRecDepth 100000 in
theorem rot_any (w0:World) (g n c a m b:Nat) (xs:List Wt) (fv:Value) (w:World) (h:Sw w0 g n c w xs) (ham:a<m) (hmb:m<b) (hb:b≤n) (hn:n≤65536):
    Kc 327 #[.slice (some ⟨g,0,none⟩) n c,.int .i64 (a:Int),.int .i64 (m:Int),.int .i64 (b:Int),fv] w fun e w'=>e=.returned (.tuple #[])∧Sw w0 g n c w' (rotW xs a m b):=by
  have HSW:=hidden h;have HR0:Hid (Rt5 xs a m b (m-a) (b-m) xs):=⟨by omega,by omega,by omega,by omega,by omega,rfl,by rw [show m-(m-a)=a by omega,show m+(b-m)=b by omega]⟩;have HBL:Hid (b≤xs.length):=by rw [h.len];exact hb
  obtain ⟨i0,hi0⟩:∃i0,i0=m-a:=⟨_,rfl⟩;obtain ⟨j0,hj0⟩:∃j0,j0=b-m:=⟨_,rfl⟩;rw [← hi0,← hj0] at HR0;have z1:(m:Int)-(a:Int)=(i0:Int):=by omega
  have z2:(b:Int)-(m:Int)=(j0:Int):=by omega
  have z3:wrap64 (i0:Int)=(i0:Int):=Go.IntWalk.wrap64_in _ (by omega);have z4:wrap64 (j0:Int)=(j0:Int):=Go.IntWalk.wrap64_in _ (by omega);clear h hi0 hj0;go_enter Tryz.func327,Tryz.ntmps327
  go_wp2_with fail
  clear z1 z2 z3 z4
  go_loopw [10,11] (fun iv jv wr=>∃(i j:Nat) (ys:List Wt),iv=.int .i64 (i:Int)∧jv=.int .i64 (j:Int)∧Hid (Sw w0 g n c wr ys)∧Hid (Rt5 xs a m b i j ys)) (fun iv jv _=>(intOf iv).toNat+(intOf jv).toNat)
  case atStart=>exact ⟨i0,j0,xs,rfl,rfl,HSW,HR0⟩
  case round=>
    clear HSW HR0;obtain ⟨i,j,ys,rfl,rfl,hsw,hrt⟩:=hrel;rcases Nat.lt_trichotomy i j with hij | hij | hij
    · as_aux_lemma=>
        have z1: ¬(i:Int)=(j:Int):=by omega
        have z2: ¬(j:Int)<(i:Int):=by omega
        obtain ⟨s1,s2,s3,s4,s5,s6,s7,s8,s9⟩:=rt_right hrt.out hij hb hn;have HN:=hidden (hrt.out.right HBL.out hij);have HC:Hid (∀w',Kb wr w'→Kc 330 #[.slice (some ⟨g,0,none⟩) n c,.int .i64 ((m-i:Nat):Int),.int .i64 ((m+j-i:Nat):Int),.int .i64 (i:Int),fv] w' fun e w''=>e=.returned (.tuple #[])∧Sw w0 g n c w'' (swr ys (m-i) (m+j-i) i)):=fun w' hb=>swr_any w0 g n c (m-i) (m+j-i) i ys fv w' (hsw.out.grow hb) s1 s2 hn
        have z3:=w64_sub s3 s4;have z4:=w64_add s5;have z5:=w64_sub s6 s5;have z6:=w64_sub s7 s8;have HS9:=hidden s9;obtain ⟨j2,hj2⟩:∃j2,j2=j-i:=⟨_,rfl⟩;obtain ⟨p,hp⟩:∃p,p=m-i:=⟨_,rfl⟩;obtain ⟨q,hq⟩:∃q,q=m+j-i:=⟨_,rfl⟩;obtain ⟨mj,hmj⟩:∃mj,mj=m+j:=⟨_,rfl⟩;rw [← hq] at z5 HC HN;rw [← hj2] at z6 HN HS9;rw [← hp] at z3 HC HN;rw [← hmj] at z4 z5;clear hj2 hp hq hmj hsw hrt s1 s2 s3 s4 s5 s6 s7 s8 s9 hij
        go_wp2_with (go_at_call 330;refine (HC.out _ (Below.refl _ _)).mono ?_;rintro e wx ⟨rfl,hswx⟩;have HSWX:=hidden hswx;clear hswx)
        exact ⟨⟨i,j2,_,rfl,by rw [z6],HSWX,HN⟩,by have:=HS9.out;simp [intOf];omega⟩
    · as_aux_lemma=>
        subst hij;obtain ⟨s1,s2,s3,s4⟩:=rt_last hrt.out hb hn;have HN:=hidden (hrt.out.last HBL.out);have HC:Hid (∀w',Kb wr w'→Kc 330 #[.slice (some ⟨g,0,none⟩) n c,.int .i64 ((m-i:Nat):Int),.int .i64 (m:Int),.int .i64 (i:Int),fv] w' fun e w''=>e=.returned (.tuple #[])∧Sw w0 g n c w'' (swr ys (m-i) m i)):=fun w' hb=>swr_any w0 g n c (m-i) m i ys fv w' (hsw.out.grow hb) s1 s2 hn
        have z3:=w64_sub s3 s4;obtain ⟨p,hp⟩:∃p,p=m-i:=⟨_,rfl⟩;rw [← hp] at z3 HC HN;rw [HN.out] at HC;clear hp HN hsw hrt s1 s2 s3 s4
        go_wp2_with (go_at_call 330;refine (HC.out _ (Below.refl _ _)).mono ?_;rintro e wx ⟨rfl,hswx⟩;have HSWX:=hidden hswx;clear hswx)
        go_end0;exact ⟨rfl,HSWX.out⟩
    · as_aux_lemma=>
        have z1: ¬(i:Int)=(j:Int):=by omega
        have z2:(j:Int)<(i:Int):=by omega
        obtain ⟨s1,s2,s3,s4,s5,s6,s7⟩:=rt_left hrt.out hij hb hn;have HN:=hidden (hrt.out.left HBL.out hij);have HC:Hid (∀w',Kb wr w'→Kc 330 #[.slice (some ⟨g,0,none⟩) n c,.int .i64 ((m-i:Nat):Int),.int .i64 (m:Int),.int .i64 (j:Int),fv] w' fun e w''=>e=.returned (.tuple #[])∧Sw w0 g n c w'' (swr ys (m-i) m j)):=fun w' hb=>swr_any w0 g n c (m-i) m j ys fv w' (hsw.out.grow hb) s1 s2 hn
        have z3:=w64_sub s3 s4;have z6:=w64_sub s5 s6;have HS9:=hidden s7;obtain ⟨j2,hj2⟩:∃j2,j2=i-j:=⟨_,rfl⟩;obtain ⟨p,hp⟩:∃p,p=m-i:=⟨_,rfl⟩;rw [← hj2] at z6 HN HS9;rw [← hp] at z3 HC HN;clear hj2 hp hsw hrt s1 s2 s3 s4 s5 s6 s7 hij
        go_wp2_with (go_at_call 330;refine (HC.out _ (Below.refl _ _)).mono ?_;rintro e wx ⟨rfl,hswx⟩;have HSWX:=hidden hswx;clear hswx)
        exact ⟨⟨j2,j,_,by rw [z6],rfl,HSWX,HN⟩,by have:=HS9.out;simp [intOf];omega⟩

end Go.Proofs.YtdjpigfibafokaaGreatDoor

namespace Go.Proofs.YtdjpigfibafokaaGreatDoor
variable {N2 a b i j k m mid n p r r0 s s0 t:Nat}
set_option maxHeartbeats 8000000
set_option maxRecDepth 20000
open Go.RowKit

theorem w64_nat (h:k≤200000):wrap64 (k:Int)=(k:Int):=Go.IntWalk.wrap64_in _ (by omega)
theorem w64_succ {k1:Nat} (h:k≤200000) (h1:k1=k+1):wrap64 ((k:Int)+1)=(k1:Int):=by rw [Go.IntWalk.wrap64_in _ (by omega)];omega
theorem wi_succ {k1:Nat} (h:k≤200000) (h1:k1=k+1):IntKind.i64.wrap ((k:Int)+1)=(k1:Int):=by rw [IntKind.wrap_i64];omega

theorem mid_ex (h:i<j) (hb:j≤b) (hn:b≤65536):∃h:Nat,((i:Int)+(j:Int)) / 2=(h:Int)∧i≤h∧h<j∧wrap64 ((h:Int)+1)=((h+1:Nat):Int)∧(0:Int)≤(h:Int)∧(h:Int)<(b:Int):=by
  refine ⟨(i+j) / 2,by omega,by omega,by omega,?_,by omega,by omega⟩;rw [Go.IntWalk.wrap64_in _ (by omega)];rfl

set_option maxRecDepth 100000 in
theorem mrgA_any (w0:World) (g n c a m b:Nat) (xs:List Wt) (w:World) (h:Sw w0 g n c w xs) (ham:m=a+1) (hmb:m<b) (hb:b≤n) (hn:n≤65536) (hs:Srt m b xs):
    Kc 314 #[.slice (some ⟨g,0,none⟩) n c,.int .i64 (a:Int),.int .i64 (m:Int),.int .i64 (b:Int),.func (.func 249) #[] #[]] w fun e w'=>e=.returned (.tuple #[])∧∃ys,Sw w0 g n c w' ys∧StR a b xs ys∧Srt a b ys:=by
  obtain ⟨fs,hu⟩:=u_write;have HUW:=hidden hu;have HSW:=hidden h;have HLX:=hidden h.len;have HSR:=hidden hs;have HAM:=hidden ham;have z1:(m:Int)-(a:Int)=1:=by omega
  have hbn:b≤65536:=by omega
  have hlta:a<m:=by omega
  clear h hu hs ham;go_enter Tryz.func314,Tryz.ntmps314
  go_wp2_with fail
  clear z1
  go_loopw [10,11,12] (fun iv jv hv wr=>∃(i j:Nat),m≤i∧i≤j∧j≤b∧iv=.int .i64 (i:Int)∧jv=.int .i64 (j:Int)∧Hid (Sw w0 g n c wr xs)∧Hid (∀p,a<p→p<i→Ahead (ky xs p) (ky xs a))∧Hid (∀p,j≤p→p<b→ ¬Ahead (ky xs p) (ky xs a))) (fun iv jv _ _=>(intOf jv).toNat-(intOf iv).toNat)
  case atStart=>exact ⟨m,b,by omega,by omega,by omega,rfl,rfl,HSW,fun p h1 h2=>by have:=HAM.out;omega,fun p h1 h2=>by omega⟩
  case round=>
    clear HSW;obtain ⟨i,j,hmi,hij,hjb,rfl,rfl,hsw,hlo,hhi⟩:=hrel
    by_cases hlt:i<j
    · as_aux_lemma=>
        have z1:(i:Int)<(j:Int):=by omega
        have z2:(a:Int)<(n:Int):=by omega
        have z9:(0:Int)≤(a:Int):=by omega
        obtain ⟨q,z3,q1,q2,z4,z5,z6⟩:=mid_ex hlt hjb hbn;have z7:(q:Int)<(n:Int):=by omega
        obtain ⟨X,Y,htwo⟩:=hsw.out.twos q a (by omega) (by omega);have HT:=hidden htwo;have HT0:=hidden (htwo wr (Below.refl _ _));have HCM:=hidden HT0.out.lt;have HC:=hidden HT0.out.call;obtain ⟨r,hr⟩:∃r,r=cmp X.k Y.k:=⟨_,rfl⟩;rw [← hr] at HC HCM;clear htwo hr z6
        go_wp2_with fail
        have d0:Kb wr wr.drew:=(Below.refl _ _).drew;refine wp_region_held_drew (S:=fun w'=>w'.rangeAt g (q * 34) (encW X)∧w'.rangeAt g (a * 34) (encW Y)) (by kernel_rfl) ((HT.out _ d0).rg) (fun hHeld=>?_);refine tkp 0 (.func (.func 249) #[] #[]) hHeld ?_;simp only [Act.put,zq1,zq2,zq4,zq5,zq6];refine tkp 1 (.slice (some ⟨g,0,none⟩) n c) hHeld ?_;simp only [Act.put,zq1,zq2,zq3,zq4,zq5,zq6];refine tkp 2 (.int .i64 (q:Int)) hHeld ?_;simp only [Act.put,zq1,zq2,zq3,zq4,zq5,zq6];refine tkp 3 (.pointer (some ⟨g,q * 34,none⟩)) hHeld ?_;simp only [Act.put,zq1,zq2,zq3,zq4,zq5,zq6];refine tkg 4 (.agg (encW X).toArray) rfl (yieldsIf_load_mid rfl 198 (.tmp 43) rfl g (q * 34) rfl (encW X) _ (fun w hS=>hS.1) HUW.out rfl HT0.out.sx) hHeld ?_;simp only [Act.put,zq1,zq2,zq3,zq4,zq5,zq6];refine tkp 5 (.slice (some ⟨g,0,none⟩) n c) hHeld ?_;simp only [Act.put,zq1,zq2,zq3,zq4,zq5,zq6];refine tkp 6 (.int .i64 (a:Int)) hHeld ?_;simp only [Act.put,zq1,zq2,zq3,zq4,zq5,zq6];refine tkp 7 (.pointer (some ⟨g,a * 34,none⟩)) hHeld ?_;simp only [Act.put,zq1,zq2,zq3,zq4,zq5,zq6];refine tkg 8 (.agg (encW Y).toArray) rfl (yieldsIf_load_mid rfl 198 (.tmp 47) rfl g (a * 34) rfl (encW Y) _ (fun w hS=>hS.2) HUW.out rfl HT0.out.sy) hHeld ?_;simp only [Act.put,zq1,zq2,zq3,zq4,zq5,zq6];refine wpAnyH_ready (rs:=[9]) (by kernel_rfl) (by simp) ?_;refine AllReadyH.cons rfl (fun KQ hK=>?_) AllReadyH.nil;go_simp;refine (HC.out _).mono ?_;rintro e wx ⟨rfl,bx⟩;have d1:=grow_trans d0 bx;refine hK.out _ _ ((HT.out _ d1).rg) (fun hHeld=>?_);clear hK KQ;refine tkp 10 (.bool (decide (r<0))) hHeld ?_;simp only [Act.put,zq1,zq2,zq3,zq4,zq5,zq6];refine wpAnyH_done (by kernel_rfl) ?_ _;have HSW2:=hidden (HT.out _ d1).sw;have HKY:=hidden HSW2.out.kys;clear HC HT0 HT
        by_cases hr0:r<0
        · have HAL:=hidden (HCM.out.1 hr0)
          have HLO:Hid (∀p,a<p→p<q+1→Ahead (ky xs p) (ky xs a)):=fun p h1 h2=>by
            by_cases e:p<i
            · exact hlo.out p h1 e
            · by_cases e2:p=q
              · rw [e2];exact HAL.out
              · have:=HLX.out
                exact al_le (HKY.out.at (by omega)) (HKY.out.at (by omega)) (HSR.out p q (by omega) (by omega) (by omega)) HAL.out
          clear HCM hlo
          go_wp2_with fail
          exact ⟨⟨q+1,j,by omega,by omega,by omega,rfl,rfl,HSW2,HLO,hhi⟩,by simp [intOf];omega⟩
        · have HHI:Hid (∀p,q≤p→p<b→ ¬Ahead (ky xs p) (ky xs a)):=fun p h1 h2=>by
            by_cases e:j≤p
            · exact hhi.out p e h2
            · by_cases e2:p=q
              · rw [e2];exact fun x=>hr0 (HCM.out.2 x)
              · have:=HLX.out
                exact al_nn (HKY.out.at (by omega)) (HKY.out.at (by omega)) (fun x=>hr0 (HCM.out.2 x)) (HSR.out q p (by omega) (by omega) (by omega))
          clear HCM hhi
          go_wp2_with fail
          exact ⟨⟨i,q,by omega,by omega,by omega,rfl,rfl,HSW2,hlo,HHI⟩,by simp [intOf];omega⟩
    · as_aux_lemma=>
        have z1: ¬(i:Int)<(j:Int):=by omega
        obtain ⟨i1,hi1⟩:∃i1,i=i1+1:=⟨i-1,by omega⟩;have HI1:=hidden hi1;have z2:(i:Int)-1=(i1:Int):=by omega
        have hi200:i1≤200000:=by omega
        have hai:a≤i1:=by omega
        have hib:i1<b:=by omega
        have HHI:Hid (∀p,i≤p→p<b→ ¬Ahead (ky xs p) (ky xs a)):=fun p h1 h2=>hhi.out p (by omega) h2
        have HU0:Hid (Up xs a b a xs):=Up.start (by omega) (by have:=HLX.out;omega);have z3:=w64_nat hi200;clear hhi hi1
        go_wp2_with fail
        clear z3
        go_loopw [13] (fun kv wr=>∃(k:Nat) (ys:List Wt),a≤k∧k≤i1∧kv=.int .i64 (k:Int)∧Hid (Sw w0 g n c wr ys)∧Hid (Up xs a b k ys)) (fun kv _=>i1-(intOf kv).toNat)
        case atStart=>exact ⟨a,xs,by omega,by omega,rfl,hsw,HU0⟩
        case round=>
          clear HU0 hsw;obtain ⟨k,ys,hak,hki,rfl,hsw,hup⟩:=hrel;have z2:(i:Int)-1=(i1:Int):=by have:=HI1.out;omega
          have hi200:i1≤200000:=by omega
          by_cases hlt2:k<i1
          · as_aux_lemma=>
              have z4:(k:Int)<(i1:Int):=by omega
              obtain ⟨k1,hk1⟩:∃k1,k1=k+1:=⟨_,rfl⟩;have HK1:=hidden hk1;have hk200:k≤200000:=by omega
              have z7:(0:Int)≤(k:Int):=by omega
              have z8:(k:Int)<(n:Int):=by omega
              have z9:(0:Int)≤(k1:Int):=by omega
              have z10:(k1:Int)<(n:Int):=by omega
              obtain ⟨X,Y,htwo⟩:=hsw.out.twos k k1 (by omega) (by omega);have HT:=hidden (htwo _ (Below.refl _ _).drew);have HUP2:Hid (Up xs a b k1 (swp ys k k1)):=by
                show Up _ _ _ _ _;have e:=HK1.out;rw [e];exact hup.out.step hak (by omega) (hlo.out (k+1) (by omega) (by have:=HI1.out;omega))
              have z3:=w64_nat hi200;have z5:=wi_succ hk200 hk1;have z6':=w64_succ hk200 hk1;clear htwo hk1 hsw hup hi200 hk200
              go_wp2_with fail
              refine wp_region_wrote (S:=fun w'=>w'.rangeAt g (k * 34) (encW X)∧w'.rangeAt g (k1 * 34) (encW Y)) [15,17] (by kernel_rfl) (HT.out.rg) (fun hHeld=>?_);refine wpAnyW_take0 (i:=0) (v:=.slice (some ⟨g,0,none⟩) n c) rfl (by kernel_rfl) (by kernel_rfl) (by kernel_rfl) (by kernel_rfl) (fun _ _ _ h=>h) (Or.inl ⟨by rfl,fun w hS=>by go_simp⟩) (.inr hHeld) ?_;simp only [Act.put,zq1,zq2,zq4,zq5,zq6];refine wpAnyW_take0 (i:=1) (v:=.int .i64 (k:Int)) rfl (by kernel_rfl) (by kernel_rfl) (by kernel_rfl) (by kernel_rfl) (fun _ _ _ h=>h) (Or.inl ⟨by rfl,fun w hS=>by go_simp⟩) (.inr hHeld) ?_;simp only [Act.put,zq1,zq2,zq3,zq4,zq5,zq6];refine wpAnyW_take0 (i:=2) (v:=.slice (some ⟨g,0,none⟩) n c) rfl (by kernel_rfl) (by kernel_rfl) (by kernel_rfl) (by kernel_rfl) (fun _ _ _ h=>h) (Or.inl ⟨by rfl,fun w hS=>by go_simp⟩) (.inr hHeld) ?_;simp only [Act.put,zq1,zq2,zq3,zq4,zq5,zq6];refine wpAnyW_take0 (i:=3) (v:=.int .i64 (k:Int)) rfl (by kernel_rfl) (by kernel_rfl) (by kernel_rfl) (by kernel_rfl) (fun _ _ _ h=>h) (Or.inl ⟨by rfl,fun w hS=>by go_simp⟩) (.inr hHeld) ?_;simp only [Act.put,zq1,zq2,zq3,zq4,zq5,zq6];refine wpAnyW_take0 (i:=4) (v:=.int .i64 (k1:Int)) rfl (by kernel_rfl) (by kernel_rfl) (by kernel_rfl) (by kernel_rfl) (fun _ _ _ h=>h) (Or.inl ⟨by rfl,fun w hS=>by go_simp⟩) (.inr hHeld) ?_;simp only [Act.put,zq1,zq2,zq3,zq4,zq5,zq6];refine wpAnyW_take0 (i:=5) (v:=.slice (some ⟨g,0,none⟩) n c) rfl (by kernel_rfl) (by kernel_rfl) (by kernel_rfl) (by kernel_rfl) (fun _ _ _ h=>h) (Or.inl ⟨by rfl,fun w hS=>by go_simp⟩) (.inr hHeld) ?_;simp only [Act.put,zq1,zq2,zq3,zq4,zq5,zq6];refine wpAnyW_take0 (i:=6) (v:=.int .i64 (k:Int)) rfl (by kernel_rfl) (by kernel_rfl) (by kernel_rfl) (by kernel_rfl) (fun _ _ _ h=>h) (Or.inl ⟨by rfl,fun w hS=>by go_simp⟩) (.inr hHeld) ?_;simp only [Act.put,zq1,zq2,zq3,zq4,zq5,zq6];refine wpAnyW_take0 (i:=7) (v:=.int .i64 (k1:Int)) rfl (by kernel_rfl) (by kernel_rfl) (by kernel_rfl) (by kernel_rfl) (fun _ _ _ h=>h) (Or.inl ⟨by rfl,fun w hS=>by go_simp⟩) (.inr hHeld) ?_;simp only [Act.put,zq1,zq2,zq3,zq4,zq5,zq6];refine wpAnyW_take0 (i:=8) (v:=.pointer (some ⟨g,k1 * 34,none⟩)) rfl (by kernel_rfl) (by kernel_rfl) (by kernel_rfl) (by kernel_rfl) (fun _ _ _ h=>h) (Or.inl ⟨by rfl,fun w hS=>by go_simp⟩) (.inr hHeld) ?_;simp only [Act.put,zq1,zq2,zq3,zq4,zq5,zq6];refine wpAnyW_take (i:=9) (v:=.agg (encW Y).toArray) rfl (by kernel_rfl) (by kernel_rfl) (by kernel_rfl) (by kernel_rfl) (by kernel_rfl) (by kernel_rfl) (fun _ _ _ h=>h) (yieldsIf_load_mid rfl 198 (.tmp 69) rfl g (k1 * 34) rfl (encW Y) _ (fun w hS=>hS.2) HUW.out rfl HT.out.sy) hHeld ?_;simp only [Act.put,zq1,zq2,zq3,zq4,zq5,zq6];refine wpAnyW_take0 (i:=10) (v:=.slice (some ⟨g,0,none⟩) n c) rfl (by kernel_rfl) (by kernel_rfl) (by kernel_rfl) (by kernel_rfl) (fun _ _ _ h=>h) (Or.inl ⟨by rfl,fun w hS=>by go_simp⟩) (.inr hHeld) ?_;simp only [Act.put,zq1,zq2,zq3,zq4,zq5,zq6];refine wpAnyW_take0 (i:=11) (v:=.int .i64 (k:Int)) rfl (by kernel_rfl) (by kernel_rfl) (by kernel_rfl) (by kernel_rfl) (fun _ _ _ h=>h) (Or.inl ⟨by rfl,fun w hS=>by go_simp⟩) (.inr hHeld) ?_;simp only [Act.put,zq1,zq2,zq3,zq4,zq5,zq6];refine wpAnyW_take0 (i:=12) (v:=.pointer (some ⟨g,k * 34,none⟩)) rfl (by kernel_rfl) (by kernel_rfl) (by kernel_rfl) (by kernel_rfl) (fun _ _ _ h=>h) (Or.inl ⟨by rfl,fun w hS=>by go_simp⟩) (.inr hHeld) ?_;simp only [Act.put,zq1,zq2,zq3,zq4,zq5,zq6];refine wpAnyW_take (i:=13) (v:=.agg (encW X).toArray) rfl (by kernel_rfl) (by kernel_rfl) (by kernel_rfl) (by kernel_rfl) (by kernel_rfl) (by kernel_rfl) (fun _ _ _ h=>h) (yieldsIf_load_mid rfl 198 (.tmp 73) rfl g (k * 34) rfl (encW X) _ (fun w hS=>hS.1) HUW.out rfl HT.out.sx) hHeld ?_;simp only [Act.put,zq1,zq2,zq3,zq4,zq5,zq6];refine wpAnyW_take0 (i:=14) (v:=.pointer (some ⟨g,k * 34,none⟩)) rfl (by kernel_rfl) (by kernel_rfl) (by kernel_rfl) (by kernel_rfl) (fun _ _ _ h=>h) (Or.inl ⟨by rfl,fun w hS=>by go_simp⟩) (.inr hHeld) ?_;simp only [Act.put,zq1,zq2,zq3,zq4,zq5,zq6];refine wpAnyW_one (i:=15) rfl (by kernel_rfl) (by kernel_rfl) (fun KQ hK=>?_);refine step_stw _ rfl _ _ _ rfl g (k * 34) (encW Y).toArray rfl rfl HT.out.tx HT.out.ay HT.out.oy ?_;refine hK.out _ _ ?_;clear hK KQ;refine wpAnyW_take0 (i:=16) (v:=.pointer (some ⟨g,k1 * 34,none⟩)) rfl (by kernel_rfl) (by kernel_rfl) (by kernel_rfl) (by kernel_rfl) (fun _ _ _ h=>h) (Or.inl ⟨by rfl,fun w hS=>by go_simp⟩) (.inl (by kernel_rfl)) ?_;simp only [Act.put,zq1,zq2,zq3,zq4,zq5,zq6];refine wpAnyW_one (i:=17) rfl (by kernel_rfl) (by kernel_rfl) (fun KQ hK=>?_);refine step_stw _ rfl _ _ _ rfl g (k1 * 34) (encW X).toArray rfl rfl HT.out.ty HT.out.ax HT.out.ox ?_;refine hK.out _ _ ?_;clear hK KQ;refine wpAnyW_done (by kernel_rfl) ?_;have HSW2:=hidden HT.out.swap;have hkk:=HK1.out;clear HT HI1 HK1;generalize (wr.drew.setCells g (k * 34) (encW Y)).setCells g (k1 * 34) (encW X)=wz at HSW2 ⊢;generalize swp ys k k1=zs at HSW2 HUP2;have HKK:=hidden hkk;clear hkk
              go_wp2_with fail
              clear z3 z5 z6';exact ⟨⟨k1,zs,by have:=HKK.out;omega,by have:=HKK.out;omega,rfl,HSW2,HUP2⟩,by have:=HKK.out;simp [intOf];omega⟩
          · have z4: ¬(k:Int)<(i1:Int):=by omega
            have z3:=w64_nat hi200;have HP:Hid (∃ys,Sw w0 g n c wr ys∧StR a b xs ys∧Srt a b ys):=⟨ys,hsw.out,hup.out.st,Up.done (i:=i) (by rw [show i-1=k by have:=HI1.out;omega];exact hup.out) (by have:=HI1.out;omega) (by omega) (by have:=HSR.out;rw [HAM.out] at this;exact this) hlo.out HHI.out⟩;clear hsw hup hlo HHI;go_wp2
            refine bodyPost_ret (results_none rfl _ _ _) rfl ?_;exact ⟨rfl,HP.out⟩

set_option maxRecDepth 100000 in
theorem mrgB_any (w0:World) (g n c a m b:Nat) (xs:List Wt) (w:World) (h:Sw w0 g n c w xs) (ham:a+1<m) (hmb:b=m+1) (hb:b≤n) (hn:n≤65536) (hs:Srt a m xs):
    Kc 314 #[.slice (some ⟨g,0,none⟩) n c,.int .i64 (a:Int),.int .i64 (m:Int),.int .i64 (b:Int),.func (.func 249) #[] #[]] w fun e w'=>e=.returned (.tuple #[])∧∃ys,Sw w0 g n c w' ys∧StR a b xs ys∧Srt a b ys:=by
  obtain ⟨fs,hu⟩:=u_write;have HUW:=hidden hu;have HSW:=hidden h;have HLX:=hidden h.len;have HSR:=hidden hs;have HMB:=hidden hmb;have z0: ¬(m:Int)-(a:Int)=1:=by omega
  have z0':((m:Int)-(a:Int) == 1)=false:=by simp;omega
  have z1:(b:Int)-(m:Int)=1:=by omega
  have hbn:m≤65536:=by omega
  have hltb:m<b:=by omega
  clear h hu hs hmb;go_enter Tryz.func314,Tryz.ntmps314
  go_wp2_with fail
  clear z1 z0 z0'
  go_loopw [14,15,16] (fun iv jv hv wr=>∃(i j:Nat),a≤i∧i≤j∧j≤m∧iv=.int .i64 (i:Int)∧jv=.int .i64 (j:Int)∧Hid (Sw w0 g n c wr xs)∧Hid (∀p,a≤p→p<i→ ¬Ahead (ky xs m) (ky xs p))∧Hid (∀p,j≤p→p<m→Ahead (ky xs m) (ky xs p))) (fun iv jv _ _=>(intOf jv).toNat-(intOf iv).toNat)
  case atStart=>exact ⟨a,m,by omega,by omega,by omega,rfl,rfl,HSW,fun p h1 h2=>by omega,fun p h1 h2=>by omega⟩
  case round=>
    clear HSW;obtain ⟨i,j,hmi,hij,hjb,rfl,rfl,hsw,hlo,hhi⟩:=hrel
    by_cases hlt:i<j
    · as_aux_lemma=>
        have z1:(i:Int)<(j:Int):=by omega
        have z2:(m:Int)<(n:Int):=by omega
        have z9:(0:Int)≤(m:Int):=by omega
        obtain ⟨q,z3,q1,q2,z4,z5,z6⟩:=mid_ex hlt hjb hbn;have z7:(q:Int)<(n:Int):=by omega
        obtain ⟨X,Y,htwo⟩:=hsw.out.twos m q (by omega) (by omega);have HT:=hidden htwo;have HT0:=hidden (htwo wr (Below.refl _ _));have HCM:=hidden HT0.out.lt;have HC:=hidden HT0.out.call;obtain ⟨r,hr⟩:∃r,r=cmp X.k Y.k:=⟨_,rfl⟩;rw [← hr] at HC HCM;obtain ⟨d,hd⟩:∃d:Bool,d=!decide (r<0):=⟨_,rfl⟩;have HD:=hidden hd;clear htwo hr z6 hd
        go_wp2_with fail
        have d0:Kb wr wr.drew:=(Below.refl _ _).drew;refine wp_region_held_drew (S:=fun w'=>w'.rangeAt g (m * 34) (encW X)∧w'.rangeAt g (q * 34) (encW Y)) (by kernel_rfl) ((HT.out _ d0).rg) (fun hHeld=>?_);refine tkp 0 (.func (.func 249) #[] #[]) hHeld ?_;simp only [Act.put,zq1,zq2,zq4,zq5,zq6];refine tkp 1 (.slice (some ⟨g,0,none⟩) n c) hHeld ?_;simp only [Act.put,zq1,zq2,zq3,zq4,zq5,zq6];refine tkp 2 (.int .i64 (m:Int)) hHeld ?_;simp only [Act.put,zq1,zq2,zq3,zq4,zq5,zq6];refine tkp 3 (.pointer (some ⟨g,m * 34,none⟩)) hHeld ?_;simp only [Act.put,zq1,zq2,zq3,zq4,zq5,zq6];refine tkg 4 (.agg (encW X).toArray) rfl (yieldsIf_load_mid rfl 198 (.tmp 95) rfl g (m * 34) rfl (encW X) _ (fun w hS=>hS.1) HUW.out rfl HT0.out.sx) hHeld ?_;simp only [Act.put,zq1,zq2,zq3,zq4,zq5,zq6];refine tkp 5 (.slice (some ⟨g,0,none⟩) n c) hHeld ?_;simp only [Act.put,zq1,zq2,zq3,zq4,zq5,zq6];refine tkp 6 (.int .i64 (q:Int)) hHeld ?_;simp only [Act.put,zq1,zq2,zq3,zq4,zq5,zq6];refine tkp 7 (.pointer (some ⟨g,q * 34,none⟩)) hHeld ?_;simp only [Act.put,zq1,zq2,zq3,zq4,zq5,zq6];refine tkg 8 (.agg (encW Y).toArray) rfl (yieldsIf_load_mid rfl 198 (.tmp 99) rfl g (q * 34) rfl (encW Y) _ (fun w hS=>hS.2) HUW.out rfl HT0.out.sy) hHeld ?_;simp only [Act.put,zq1,zq2,zq3,zq4,zq5,zq6];refine wpAnyH_ready (rs:=[9]) (by kernel_rfl) (by simp) ?_;refine AllReadyH.cons rfl (fun KQ hK=>?_) AllReadyH.nil;go_simp;refine (HC.out _).mono ?_;rintro e wx ⟨rfl,bx⟩;have d1:=grow_trans d0 bx;refine hK.out _ _ ((HT.out _ d1).rg) (fun hHeld=>?_);clear hK KQ;refine tkp 10 (.bool (decide (r<0))) hHeld ?_;simp only [Act.put,zq1,zq2,zq3,zq4,zq5,zq6];refine tkg 11 (.bool d) rfl (Or.inl ⟨by rfl,fun w hS=>by (go_simp;rw [HD.out];simp)⟩) hHeld ?_;simp only [Act.put,zq1,zq2,zq3,zq4,zq5,zq6];refine wpAnyH_done (by kernel_rfl) ?_ _;have HSW2:=hidden (HT.out _ d1).sw;have HKY:=hidden HSW2.out.kys;clear HC HT0 HT
        by_cases hr0:r<0
        · obtain rfl:d=false:=by rw [HD.out];simp [hr0]
          have HAL:=hidden (HCM.out.1 hr0);have HHI:Hid (∀p,q≤p→p<m→Ahead (ky xs m) (ky xs p)):=fun p h1 h2=>by
            by_cases e2:p=q
            · rw [e2];exact HAL.out
            · have:=HLX.out
              exact al_lt (HKY.out.at (by omega)) (HKY.out.at (by omega)) HAL.out (HSR.out q p (by omega) (by omega) (by omega))
          clear HCM hhi HD
          go_wp2_with fail
          exact ⟨⟨i,q,by omega,by omega,by omega,rfl,rfl,HSW2,hlo,HHI⟩,by simp [intOf];omega⟩
        · obtain rfl:d=true:=by rw [HD.out];simp [hr0]
          have HLO:Hid (∀p,a≤p→p<q+1→ ¬Ahead (ky xs m) (ky xs p)):=fun p h1 h2=>by
            by_cases e2:p=q
            · rw [e2];exact fun x=>hr0 (HCM.out.2 x)
            · have:=HLX.out
              exact al_nn (HKY.out.at (by omega)) (HKY.out.at (by omega)) (HSR.out p q (by omega) (by omega) (by omega)) (fun x=>hr0 (HCM.out.2 x))
          clear HCM hlo HD
          go_wp2_with fail
          exact ⟨⟨q+1,j,by omega,by omega,by omega,rfl,rfl,HSW2,HLO,hhi⟩,by simp [intOf];omega⟩
    · as_aux_lemma=>
        have z1: ¬(i:Int)<(j:Int):=by omega
        have HHI:Hid (∀p,i≤p→p<m→Ahead (ky xs m) (ky xs p)):=fun p h1 h2=>hhi.out p (by omega) h2
        have HU0:Hid (Dn xs a m m xs):=Dn.start (by omega) (by have:=HLX.out;omega);clear hhi
        go_wp2_with fail
        go_loopw [17] (fun kv wr=>∃(k:Nat) (ys:List Wt),i≤k∧k≤m∧kv=.int .i64 (k:Int)∧Hid (Sw w0 g n c wr ys)∧Hid (Dn xs a m k ys)) (fun kv _=>(intOf kv).toNat)
        case atStart=>exact ⟨m,xs,by omega,by omega,rfl,hsw,HU0⟩
        case round=>
          clear HU0 hsw;obtain ⟨k,ys,hak,hki,rfl,hsw,hup⟩:=hrel
          by_cases hlt2:i<k
          · as_aux_lemma=>
              have z4:(i:Int)<(k:Int):=by omega
              obtain ⟨k1,hk1⟩:∃k1,k=k1+1:=⟨k-1,by omega⟩;have HK1:=hidden hk1;have z5:(k:Int)-1=(k1:Int):=by omega
              have z6:IntKind.i64.wrap (k1:Int)=(k1:Int):=by rw [IntKind.wrap_i64];omega
              have z6':wrap64 (k1:Int)=(k1:Int):=Go.IntWalk.wrap64_in _ (by omega);have z7:(0:Int)≤(k:Int):=by omega
              have z8:(k:Int)<(n:Int):=by omega
              have z9:(0:Int)≤(k1:Int):=by omega
              have z10:(k1:Int)<(n:Int):=by omega
              obtain ⟨X,Y,htwo⟩:=hsw.out.twos k k1 (by omega) (by omega);have HT:=hidden (htwo _ (Below.refl _ _).drew);have HUP2:Hid (Dn xs a m k1 (swp ys k k1)):=by
                show Dn _ _ _ _ _;have e:k1=k-1:=by have:=HK1.out;omega
                rw [e];exact hup.out.step (by omega) hki (HHI.out (k-1) (by omega) (by omega))
              clear htwo hk1 hsw hup
              go_wp2_with fail
              refine wp_region_wrote (S:=fun w'=>w'.rangeAt g (k * 34) (encW X)∧w'.rangeAt g (k1 * 34) (encW Y)) [15,17] (by kernel_rfl) (HT.out.rg) (fun hHeld=>?_);refine wpAnyW_take0 (i:=0) (v:=.slice (some ⟨g,0,none⟩) n c) rfl (by kernel_rfl) (by kernel_rfl) (by kernel_rfl) (by kernel_rfl) (fun _ _ _ h=>h) (Or.inl ⟨by rfl,fun w hS=>by go_simp⟩) (.inr hHeld) ?_;simp only [Act.put,zq1,zq2,zq4,zq5,zq6];refine wpAnyW_take0 (i:=1) (v:=.int .i64 (k:Int)) rfl (by kernel_rfl) (by kernel_rfl) (by kernel_rfl) (by kernel_rfl) (fun _ _ _ h=>h) (Or.inl ⟨by rfl,fun w hS=>by go_simp⟩) (.inr hHeld) ?_;simp only [Act.put,zq1,zq2,zq3,zq4,zq5,zq6];refine wpAnyW_take0 (i:=2) (v:=.slice (some ⟨g,0,none⟩) n c) rfl (by kernel_rfl) (by kernel_rfl) (by kernel_rfl) (by kernel_rfl) (fun _ _ _ h=>h) (Or.inl ⟨by rfl,fun w hS=>by go_simp⟩) (.inr hHeld) ?_;simp only [Act.put,zq1,zq2,zq3,zq4,zq5,zq6];refine wpAnyW_take0 (i:=3) (v:=.int .i64 (k:Int)) rfl (by kernel_rfl) (by kernel_rfl) (by kernel_rfl) (by kernel_rfl) (fun _ _ _ h=>h) (Or.inl ⟨by rfl,fun w hS=>by go_simp⟩) (.inr hHeld) ?_;simp only [Act.put,zq1,zq2,zq3,zq4,zq5,zq6];refine wpAnyW_take0 (i:=4) (v:=.int .i64 (k1:Int)) rfl (by kernel_rfl) (by kernel_rfl) (by kernel_rfl) (by kernel_rfl) (fun _ _ _ h=>h) (Or.inl ⟨by rfl,fun w hS=>by go_simp⟩) (.inr hHeld) ?_;simp only [Act.put,zq1,zq2,zq3,zq4,zq5,zq6];refine wpAnyW_take0 (i:=5) (v:=.slice (some ⟨g,0,none⟩) n c) rfl (by kernel_rfl) (by kernel_rfl) (by kernel_rfl) (by kernel_rfl) (fun _ _ _ h=>h) (Or.inl ⟨by rfl,fun w hS=>by go_simp⟩) (.inr hHeld) ?_;simp only [Act.put,zq1,zq2,zq3,zq4,zq5,zq6];refine wpAnyW_take0 (i:=6) (v:=.int .i64 (k:Int)) rfl (by kernel_rfl) (by kernel_rfl) (by kernel_rfl) (by kernel_rfl) (fun _ _ _ h=>h) (Or.inl ⟨by rfl,fun w hS=>by go_simp⟩) (.inr hHeld) ?_;simp only [Act.put,zq1,zq2,zq3,zq4,zq5,zq6];refine wpAnyW_take0 (i:=7) (v:=.int .i64 (k1:Int)) rfl (by kernel_rfl) (by kernel_rfl) (by kernel_rfl) (by kernel_rfl) (fun _ _ _ h=>h) (Or.inl ⟨by rfl,fun w hS=>by go_simp⟩) (.inr hHeld) ?_;simp only [Act.put,zq1,zq2,zq3,zq4,zq5,zq6];refine wpAnyW_take0 (i:=8) (v:=.pointer (some ⟨g,k1 * 34,none⟩)) rfl (by kernel_rfl) (by kernel_rfl) (by kernel_rfl) (by kernel_rfl) (fun _ _ _ h=>h) (Or.inl ⟨by rfl,fun w hS=>by go_simp⟩) (.inr hHeld) ?_;simp only [Act.put,zq1,zq2,zq3,zq4,zq5,zq6];refine wpAnyW_take (i:=9) (v:=.agg (encW Y).toArray) rfl (by kernel_rfl) (by kernel_rfl) (by kernel_rfl) (by kernel_rfl) (by kernel_rfl) (by kernel_rfl) (fun _ _ _ h=>h) (yieldsIf_load_mid rfl 198 (.tmp 121) rfl g (k1 * 34) rfl (encW Y) _ (fun w hS=>hS.2) HUW.out rfl HT.out.sy) hHeld ?_;simp only [Act.put,zq1,zq2,zq3,zq4,zq5,zq6];refine wpAnyW_take0 (i:=10) (v:=.slice (some ⟨g,0,none⟩) n c) rfl (by kernel_rfl) (by kernel_rfl) (by kernel_rfl) (by kernel_rfl) (fun _ _ _ h=>h) (Or.inl ⟨by rfl,fun w hS=>by go_simp⟩) (.inr hHeld) ?_;simp only [Act.put,zq1,zq2,zq3,zq4,zq5,zq6];refine wpAnyW_take0 (i:=11) (v:=.int .i64 (k:Int)) rfl (by kernel_rfl) (by kernel_rfl) (by kernel_rfl) (by kernel_rfl) (fun _ _ _ h=>h) (Or.inl ⟨by rfl,fun w hS=>by go_simp⟩) (.inr hHeld) ?_;simp only [Act.put,zq1,zq2,zq3,zq4,zq5,zq6];refine wpAnyW_take0 (i:=12) (v:=.pointer (some ⟨g,k * 34,none⟩)) rfl (by kernel_rfl) (by kernel_rfl) (by kernel_rfl) (by kernel_rfl) (fun _ _ _ h=>h) (Or.inl ⟨by rfl,fun w hS=>by go_simp⟩) (.inr hHeld) ?_;simp only [Act.put,zq1,zq2,zq3,zq4,zq5,zq6];refine wpAnyW_take (i:=13) (v:=.agg (encW X).toArray) rfl (by kernel_rfl) (by kernel_rfl) (by kernel_rfl) (by kernel_rfl) (by kernel_rfl) (by kernel_rfl) (fun _ _ _ h=>h) (yieldsIf_load_mid rfl 198 (.tmp 125) rfl g (k * 34) rfl (encW X) _ (fun w hS=>hS.1) HUW.out rfl HT.out.sx) hHeld ?_;simp only [Act.put,zq1,zq2,zq3,zq4,zq5,zq6];refine wpAnyW_take0 (i:=14) (v:=.pointer (some ⟨g,k * 34,none⟩)) rfl (by kernel_rfl) (by kernel_rfl) (by kernel_rfl) (by kernel_rfl) (fun _ _ _ h=>h) (Or.inl ⟨by rfl,fun w hS=>by go_simp⟩) (.inr hHeld) ?_;simp only [Act.put,zq1,zq2,zq3,zq4,zq5,zq6];refine wpAnyW_one (i:=15) rfl (by kernel_rfl) (by kernel_rfl) (fun KQ hK=>?_);refine step_stw _ rfl _ _ _ rfl g (k * 34) (encW Y).toArray rfl rfl HT.out.tx HT.out.ay HT.out.oy ?_;refine hK.out _ _ ?_;clear hK KQ;refine wpAnyW_take0 (i:=16) (v:=.pointer (some ⟨g,k1 * 34,none⟩)) rfl (by kernel_rfl) (by kernel_rfl) (by kernel_rfl) (by kernel_rfl) (fun _ _ _ h=>h) (Or.inl ⟨by rfl,fun w hS=>by go_simp⟩) (.inl (by kernel_rfl)) ?_;simp only [Act.put,zq1,zq2,zq3,zq4,zq5,zq6];refine wpAnyW_one (i:=17) rfl (by kernel_rfl) (by kernel_rfl) (fun KQ hK=>?_);refine step_stw _ rfl _ _ _ rfl g (k1 * 34) (encW X).toArray rfl rfl HT.out.ty HT.out.ax HT.out.ox ?_;refine hK.out _ _ ?_;clear hK KQ;refine wpAnyW_done (by kernel_rfl) ?_;have HSW2:=hidden HT.out.swap;clear HT;generalize (wr.drew.setCells g (k * 34) (encW Y)).setCells g (k1 * 34) (encW X)=wz at HSW2 ⊢;generalize swp ys k k1=zs at HSW2 HUP2
              go_wp2_with fail
              clear z6 z6';exact ⟨⟨k1,zs,by have:=HK1.out;omega,by have:=HK1.out;omega,rfl,HSW2,HUP2⟩,by have:=HK1.out;simp [intOf];omega⟩
          · have z4: ¬(i:Int)<(k:Int):=by omega
            have HP:Hid (∃ys,Sw w0 g n c wr ys∧StR a b xs ys∧Srt a b ys):=by
              have e:i=k:=by omega
              have h1:=hup.out;rw [← e] at h1;have h2:=h1.done hmi (by omega) HSR.out hlo.out HHI.out;rw [HMB.out];exact ⟨ys,hsw.out,h1.st,h2⟩
            clear hsw hup hlo HHI;go_wp2
            refine bodyPost_ret (results_none rfl _ _ _) rfl ?_;exact ⟨rfl,HP.out⟩

end Go.Proofs.YtdjpigfibafokaaGreatDoor

namespace Go.Proofs.YtdjpigfibafokaaGreatDoor
variable {N2 a b i j k m mid n p r r0 s s0 t:Nat}
set_option maxHeartbeats 8000000
set_option maxRecDepth 20000
open Go.RowKit

structure Mn (a m b mid N2 s0 r0 p:Nat):Prop where
  fm:mid=(a+b) / 2
  fn:N2=mid+m
  fp:p+1=N2
  fs:(mid<m∧s0+b=N2∧r0=mid)∨(m≤mid∧s0=a∧r0=m)
  le:s0≤r0
theorem mn_cut (ham:a+1<m) (hmb:m+1<b):∃mid N2 s0 r0 p,Mn a m b mid N2 s0 r0 p:=by
  by_cases h:(a+b) / 2<m
  · exact ⟨_,_,(a+b) / 2+m-b,(a+b) / 2,(a+b) / 2+m-1,rfl,rfl,by omega,.inl ⟨h,by omega,rfl⟩,by omega⟩
  · exact ⟨_,_,a,m,(a+b) / 2+m-1,rfl,rfl,by omega,.inr ⟨by omega,rfl,rfl⟩,by omega⟩
structure Ms (xs:List Wt) (N2 s0 r0 s r:Nat):Prop where
  h1:s0≤s
  h2:s≤r
  h3:r≤r0
  lo:s0<s→ ¬Ahead (ky xs (N2-s)) (ky xs (s-1))
  hi:r<r0→Ahead (ky xs (N2-r-1)) (ky xs r)
theorem Ms.mg {xs:List Wt} (M:Mn a m b mid N2 s0 r0 p) (ham:a+1<m) (hmb:m+1<b) (h:Ms xs N2 s0 r0 s s):Mg xs a m b s:=by
  obtain ⟨rfl,rfl,h3,h4,h5⟩:=M;obtain ⟨q1,q2,q3,q4,q5⟩:=h;refine ⟨by omega,by omega,by omega,by omega,fun h6 h7=>q5 (by omega),fun h6 h7=>q4 (by omega)⟩
theorem Ms.rise {xs:List Wt} {q:Nat} (h:Ms xs N2 s0 r0 s r) (h1:s≤q) (h2:q<r) (k: ¬Ahead (ky xs (N2-1-q)) (ky xs q)):Ms xs N2 s0 r0 (q+1) r:=by
  obtain ⟨q1,q2,q3,q4,q5⟩:=h;exact ⟨by omega,by omega,q3,fun _=>by rw [show N2-(q+1)=N2-1-q by omega,Nat.add_sub_cancel];exact k,q5⟩
theorem Ms.fall {xs:List Wt} {q:Nat} (h:Ms xs N2 s0 r0 s r) (h1:s≤q) (h2:q<r) (k:Ahead (ky xs (N2-1-q)) (ky xs q)):Ms xs N2 s0 r0 s q:=by
  obtain ⟨q1,q2,q3,q4,q5⟩:=h;exact ⟨q1,h1,by omega,q4,fun _=>by rw [show N2-q-1=N2-1-q by omega];exact k⟩
theorem mn_look {q:Nat} (M:Mn a m b mid N2 s0 r0 p) (ham:a+1<m) (hmb:m+1<b) (hb:b≤n) (h1:s0≤s) (h2:s≤q) (h3:q<r) (h4:r≤r0):∃pc,p=pc+q∧pc=N2-1-q∧pc<n∧q<n:=by
  obtain ⟨rfl,rfl,h5,h6,h7⟩:=M;exact ⟨p-q,by omega,by omega,by omega,by omega⟩
theorem mn_end (M:Mn a m b mid N2 s0 r0 p) (ham:a+1<m) (hmb:m+1<b) (hb:b≤n) (h1:s0≤s) (h2:s≤r0):∃e,N2=e+s∧e=(a+b) / 2+m-s∧m≤e∧e≤b∧a≤s∧s≤m∧s≤mid∧mid≤e∧mid<b∧a<mid∧N2≤2 * n:=by
  obtain ⟨rfl,rfl,h5,h6,h7⟩:=M;exact ⟨(a+b) / 2+m-s,by omega,by omega,by omega,by omega,by omega,by omega,by omega,by omega,by omega,by omega,by omega⟩
theorem wi_sub {q pc:Nat} (h:p=pc+q) (hp:p≤200000):IntKind.i64.wrap ((p:Int)-(q:Int))=(pc:Int):=by rw [IntKind.wrap_i64];omega
set_option maxRecDepth 100000 in
theorem mrgC_any (w0:World) (g n c a m b:Nat) (xs:List Wt) (w:World) (h:Sw w0 g n c w xs) (ham:a+1<m) (hmb:m+1<b) (hb:b≤n) (hn:n≤65536) (hs1:Srt a m xs) (hs2:Srt m b xs)
    (hrec:∀(a' m' b':Nat) (xs':List Wt) (w':World),b'-a'<b-a→Sw w0 g n c w' xs'→a'<m'→m'<b'→b'≤n→Srt a' m' xs'→Srt m' b' xs'→Kc 314 #[.slice (some ⟨g,0,none⟩) n c,.int .i64 (a':Int),.int .i64 (m':Int),.int .i64 (b':Int),.func (.func 249) #[] #[]] w' fun e w''=>e=.returned (.tuple #[])∧∃ys,Sw w0 g n c w'' ys∧StR a' b' xs' ys∧Srt a' b' ys):
    Kc 314 #[.slice (some ⟨g,0,none⟩) n c,.int .i64 (a:Int),.int .i64 (m:Int),.int .i64 (b:Int),.func (.func 249) #[] #[]] w fun e w'=>e=.returned (.tuple #[])∧∃ys,Sw w0 g n c w' ys∧StR a b xs ys∧Srt a b ys:=by
  obtain ⟨fs,hu⟩:=u_write;have HUW:=hidden hu;have HSW:=hidden h;have HLX:=hidden h.len;have HS1:=hidden hs1;have HS2:=hidden hs2;have HREC:=hidden hrec;obtain ⟨mid,N2,s0,r0,p,M⟩:=mn_cut ham hmb;have HM:=hidden M;have z0: ¬(m:Int)-(a:Int)=1:=by omega
  have z0':((m:Int)-(a:Int) == 1)=false:=by simp;omega
  have z1: ¬(b:Int)-(m:Int)=1:=by omega
  have z1':((b:Int)-(m:Int) == 1)=false:=by simp;omega
  have z2:((a:Int)+(b:Int)) / 2=(mid:Int):=by have:=M.fm;omega
  have hN:N2≤131072:=by obtain ⟨e,_,_,_,_,_,_,_,_,_,_,h⟩:=mn_end M ham hmb hb (Nat.le_refl _) M.le;omega
  have z3:(mid:Int)+(m:Int)=(N2:Int):=by have:=M.fn;omega
  have z3':=w64_nat (k:=N2) (by omega);have HN:=hidden hN;have HAM:=hidden ham;have HMB:=hidden hmb;clear h hu hs1 hs2 hrec M hN;go_enter Tryz.func314,Tryz.ntmps314
  go_upto_if 140 with fail
  go_cut [20,21] from 135 (fun sv rv wx=>sv=.int .i64 (s0:Int)∧rv=.int .i64 (r0:Int)∧wx=w)
  case first=>
    by_cases hmm:mid<m
    · have y1:(mid:Int)<(m:Int):=by clear z3';omega
      obtain ⟨e1,e2⟩:s0+b=N2∧r0=mid:=by
        rcases HM.out.fs with ⟨_,h1,h2⟩ | ⟨h1,_⟩
        · exact ⟨h1,h2⟩
        · exact absurd hmm (Nat.not_lt.2 h1)
      have y2:(N2:Int)-(b:Int)=(s0:Int):=by clear z3';omega
      have y3:=w64_nat (k:=s0) (by clear z3';have:=HN.out;omega);have HR:=hidden e2;clear e1 e2;go_wp2
      go_meet
      case rel=>exact ⟨rfl,by rw [HR.out],rfl⟩
    · have y1: ¬(mid:Int)<(m:Int):=by clear z3';omega
      obtain ⟨e1,e2⟩:s0=a∧r0=m:=by
        rcases HM.out.fs with ⟨h1,_⟩ | ⟨_,h1,h2⟩
        · exact absurd h1 hmm
        · exact ⟨h1,h2⟩
      have HR:=hidden (And.intro e1 e2);clear e1 e2;go_wp2
      go_meet
      case rel=>exact ⟨by rw [HR.out.1],by rw [HR.out.2],rfl⟩
  case rest=>
    obtain ⟨rfl,rfl,rfl⟩:=hcut;clear z0 z0' z1 z1' z2 z3 z3';have y1:(N2:Int)-1=(p:Int):=by have:=HM.out.fp;omega
    have y2:=w64_nat (k:=p) (by have:=HM.out.fp;have:=HN.out;omega)
    go_wp2_with fail
    rw [y2];clear y1 y2
    go_loopw [20,21,23] (fun sv rv cv wr=>∃(s r:Nat),sv=.int .i64 (s:Int)∧rv=.int .i64 (r:Int)∧Hid (Sw w0 g n c wr xs)∧Hid (Ms xs N2 s0 r0 s r)) (fun sv rv _ _=>(intOf rv).toNat-(intOf sv).toNat)
    case atStart=>exact ⟨s0,r0,rfl,rfl,HSW,⟨Nat.le_refl _,HM.out.le,Nat.le_refl _,fun h=>by omega,fun h=>by omega⟩⟩
    case round=>
      clear HSW;obtain ⟨s,r,rfl,rfl,hsw,hms⟩:=hrel
      by_cases hlt:s<r
      · as_aux_lemma=>
          have z1:(s:Int)<(r:Int):=by omega
          have hrb:r≤65536:=by
            obtain ⟨e,_,_,_,_,_,h1,_⟩:=mn_end HM.out HAM.out HMB.out hb HM.out.le (Nat.le_refl _);have:=hms.out.h3;omega
          obtain ⟨q,z3,q1,q2,z4,z5,z6⟩:=mid_ex hlt (Nat.le_refl _) hrb;obtain ⟨pc,p1,p2,p3,p4⟩:=mn_look HM.out HAM.out HMB.out hb hms.out.h1 q1 q2 hms.out.h3;have z7:(q:Int)<(n:Int):=by omega
          have z8:(0:Int)≤(pc:Int):=by omega
          have z9:(pc:Int)<(n:Int):=by omega
          obtain ⟨X,Y,htwo⟩:=hsw.out.twos pc q (by omega) (by omega);have HT:=hidden htwo;have HT0:=hidden (htwo wr (Below.refl _ _));have HCM:Hid (cmp X.k Y.k<0↔Ahead (ky xs (N2-1-q)) (ky xs q)):=by show _↔_;rw [← p2];exact HT0.out.lt
          have HC:=hidden HT0.out.call;have z10:=wi_sub p1 (by have h1:=HM.out.fp;have:=HN.out;omega);obtain ⟨r',hr⟩:∃r',r'=cmp X.k Y.k:=⟨_,rfl⟩;rw [← hr] at HC HCM;obtain ⟨d,hd⟩:∃d:Bool,d=!decide (r'<0):=⟨_,rfl⟩;have HD:=hidden hd;have HQ1:=hidden (And.intro q1 q2);clear htwo hr z6 hd p1 p2 p3 p4 hrb
          go_wp2_with fail
          have d0:Kb wr wr.drew:=(Below.refl _ _).drew;refine wp_region_held_drew (S:=fun w'=>w'.rangeAt g (pc * 34) (encW X)∧w'.rangeAt g (q * 34) (encW Y)) (by kernel_rfl) ((HT.out _ d0).rg) (fun hHeld=>?_);refine tkp 0 (.func (.func 249) #[] #[]) hHeld ?_;simp only [Act.put,zq1,zq2,zq4,zq5,zq6];refine tkp 1 (.slice (some ⟨g,0,none⟩) n c) hHeld ?_;simp only [Act.put,zq1,zq2,zq3,zq4,zq5,zq6];refine tkp 2 (.int .i64 (p:Int)) hHeld ?_;simp only [Act.put,zq1,zq2,zq3,zq4,zq5,zq6];refine tkp 3 (.int .i64 (q:Int)) hHeld ?_;simp only [Act.put,zq1,zq2,zq3,zq4,zq5,zq6];refine tkp 4 (.int .i64 (pc:Int)) hHeld ?_;simp only [Act.put,zq1,zq2,zq3,zq4,zq5,zq6];refine tkp 5 (.pointer (some ⟨g,pc * 34,none⟩)) hHeld ?_;simp only [Act.put,zq1,zq2,zq3,zq4,zq5,zq6];refine tkg 6 (.agg (encW X).toArray) rfl (yieldsIf_load_mid rfl 198 (.tmp 163) rfl g (pc * 34) rfl (encW X) _ (fun w hS=>hS.1) HUW.out rfl HT0.out.sx) hHeld ?_;simp only [Act.put,zq1,zq2,zq3,zq4,zq5,zq6];refine tkp 7 (.slice (some ⟨g,0,none⟩) n c) hHeld ?_;simp only [Act.put,zq1,zq2,zq3,zq4,zq5,zq6];refine tkp 8 (.int .i64 (q:Int)) hHeld ?_;simp only [Act.put,zq1,zq2,zq3,zq4,zq5,zq6];refine tkp 9 (.pointer (some ⟨g,q * 34,none⟩)) hHeld ?_;simp only [Act.put,zq1,zq2,zq3,zq4,zq5,zq6];refine tkg 10 (.agg (encW Y).toArray) rfl (yieldsIf_load_mid rfl 198 (.tmp 167) rfl g (q * 34) rfl (encW Y) _ (fun w hS=>hS.2) HUW.out rfl HT0.out.sy) hHeld ?_;simp only [Act.put,zq1,zq2,zq3,zq4,zq5,zq6];refine wpAnyH_ready (rs:=[11]) (by kernel_rfl) (by simp) ?_;refine AllReadyH.cons rfl (fun KQ hK=>?_) AllReadyH.nil;go_simp;refine (HC.out _).mono ?_;rintro e wx ⟨rfl,bx⟩;have d1:=grow_trans d0 bx;refine hK.out _ _ ((HT.out _ d1).rg) (fun hHeld=>?_);clear hK KQ;refine tkp 12 (.bool (decide (r'<0))) hHeld ?_;simp only [Act.put,zq1,zq2,zq3,zq4,zq5,zq6];refine tkg 13 (.bool d) rfl (Or.inl ⟨by rfl,fun w hS=>by (go_simp;rw [HD.out];simp)⟩) hHeld ?_;simp only [Act.put,zq1,zq2,zq3,zq4,zq5,zq6];refine wpAnyH_done (by kernel_rfl) ?_ _;have HSW2:=hidden (HT.out _ d1).sw;clear HC HT0 HT
          by_cases hr0:r'<0
          · obtain rfl:d=false:=by rw [HD.out];simp [hr0]
            have HMS:=hidden (hms.out.fall HQ1.out.1 HQ1.out.2 (HCM.out.1 hr0));clear HCM hms HD z10
            go_wp2_with fail
            exact ⟨⟨s,q,rfl,rfl,HSW2,HMS⟩,by have:=HQ1.out;simp [intOf];omega⟩
          · obtain rfl:d=true:=by rw [HD.out];simp [hr0]
            have HMS:=hidden (hms.out.rise HQ1.out.1 HQ1.out.2 (fun x=>hr0 (HCM.out.2 x)));clear HCM hms HD z10
            go_wp2_with fail
            clear z4;exact ⟨⟨q+1,r,rfl,rfl,HSW2,HMS⟩,by have:=HQ1.out;simp [intOf];omega⟩
      · have z1: ¬(s:Int)<(r:Int):=by omega
        have hsr:s=r:=by have:=hms.out.h2;omega
        have HMS:Hid (Ms xs N2 s0 r0 s s):=by
          show Ms _ _ _ _ _ _;have h1:=hms.out;rw [← hsr] at h1;exact h1
        clear hms hsr;have HMG:=hidden (HMS.out.mg HM.out HAM.out HMB.out);obtain ⟨e,e1,e2,e3,e4,e5,e6,e7,e8,e9,e10,_⟩:=mn_end HM.out HAM.out HMB.out hb HMS.out.h1 HMS.out.h3;have HMR:=hidden (HMG.out.turn hsw.out.kys (by have:=HLX.out;omega) HS1.out HS2.out);rw [← e2,← HM.out.fm] at HMR;have HRT:Hid (∀w',Sw w0 g n c w' xs→s<m→m<e→Kc 327 #[.slice (some ⟨g,0,none⟩) n c,.int .i64 (s:Int),.int .i64 (m:Int),.int .i64 (e:Int),.func (.func 249) #[] #[]] w' fun e' w''=>e'=.returned (.tuple #[])∧Sw w0 g n c w'' (rotW xs s m e)):=fun w' h1 h2 h3=>rot_any w0 g n c s m e xs _ w' h1 h2 h3 (by omega) hn
        have HID:Hid (s=m∨m=e→rotW xs s m e=xs):=fun h1=>rot_id xs s m e e6 e3 (by have:=HLX.out;omega) h1
        have y1:(N2:Int)-(s:Int)=(e:Int):=by omega
        have y1':=w64_nat (k:=e) (by omega);have HE:=hidden (And.intro e3 (And.intro e4 (And.intro e5 (And.intro e6 (And.intro e7 (And.intro e8 (And.intro e9 e10)))))));obtain ⟨ys,hys⟩:∃ys,ys=rotW xs s m e:=⟨_,rfl⟩;rw [← hys] at HMR HRT HID;clear hys e1 e2 e3 e4 e5 e6 e7 e8 e9 e10 HMG HMS;obtain ⟨d1,hd1⟩:∃d1:Bool,d1=(decide (s<m) && decide (m<e)):=⟨_,rfl⟩;have HD1:=hidden hd1;clear hd1
        go_upto_region 39 with fail
        go_cut [185] from 178 (fun dv wx=>dv=.bool d1∧wx=wr)
        case first=>
          by_cases h1:s<m
          · have y2:(s:Int)<(m:Int):=by clear y1';omega
            by_cases h2:m<e
            · have y3:(m:Int)<(e:Int):=by clear y1';omega
              go_wp2
              go_meet
              case rel=>exact ⟨by rw [HD1.out];simp [h1,h2],rfl⟩
            · have y3: ¬(m:Int)<(e:Int):=by clear y1';omega
              go_wp2
              go_meet
              case rel=>exact ⟨by rw [HD1.out];simp [h2],rfl⟩
          · have y2: ¬(s:Int)<(m:Int):=by clear y1';omega
            go_wp2
            go_meet
            case rel=>exact ⟨by rw [HD1.out];simp [h1],rfl⟩
        case rest=>
         obtain ⟨rfl,rfl⟩:=hcut;clear y1 y1'
         go_upto_if 185 with fail
         go_cut [24] from 186 (fun ev wx=>ev=.int .i64 (e:Int)∧Hid (Sw w0 g n c wx ys))
         case first=>
          by_cases h1:s<m∧m<e
          · obtain rfl:d1=true:=by rw [HD1.out];simp [h1]
            go_wp2_with (go_at_call 327;refine (HRT.out _ hsw.out h1.1 h1.2).mono ?_;rintro e' wx ⟨rfl,hswx⟩;have HSWX:=hidden hswx;clear hswx)
            go_meet
            case rel=>exact ⟨rfl,HSWX⟩
          · obtain rfl:d1=false:=by rw [HD1.out];simp;omega
            have HSWX:Hid (Sw w0 g n c wc ys):=by rw [HID.out (by have:=HE.out;omega)];exact hsw.out
            go_wp2
            go_meet
            case rel=>exact ⟨rfl,HSWX⟩
         case rest=>
          obtain ⟨rfl,hsw1⟩:=hcut;clear hsw HRT HID HD1;obtain ⟨d2,hd2⟩:∃d2:Bool,d2=(decide (a<s) && decide (s<mid)):=⟨_,rfl⟩;have HD2:=hidden hd2;clear hd2
          go_upto_region 41 with fail
          go_cut [199] from 192 (fun dv wx=>dv=.bool d2∧wx=wc)
          case first=>
            by_cases h1:a<s
            · have y2:(a:Int)<(s:Int):=by omega
              by_cases h2:s<mid
              · have y3:(s:Int)<(mid:Int):=by omega
                go_wp2
                go_meet
                case rel=>exact ⟨by rw [HD2.out];simp [h1,h2],rfl⟩
              · have y3: ¬(s:Int)<(mid:Int):=by omega
                go_wp2
                go_meet
                case rel=>exact ⟨by rw [HD2.out];simp [h2],rfl⟩
            · have y2: ¬(a:Int)<(s:Int):=by omega
              go_wp2
              go_meet
              case rel=>exact ⟨by rw [HD2.out];simp [h1],rfl⟩
          case rest=>
           obtain ⟨rfl,hwc⟩:=hcut;rw [← hwc] at hsw1;clear hwc
           go_upto_if 199 with fail
           go_cut [24] from 200 (fun ev wx=>ev=.int .i64 (e:Int)∧∃zs,Hid (Sw w0 g n c wx zs)∧Hid (StR a mid ys zs)∧Hid (Srt a mid zs))
           case first=>
            by_cases h1:a<s∧s<mid
            · obtain rfl:d2=true:=by rw [HD2.out];simp [h1]
              have HC:=hidden (fun w' h0=>HREC.out a s mid ys w' (by have:=HE.out;omega) h0 h1.1 h1.2 (by have:=HE.out;omega) HMR.out.s1 HMR.out.s2)
              go_wp2_with (go_at_call 314;refine (HC.out _ hsw1.out).mono ?_;rintro e' wx ⟨rfl,zs,hz1,hz2,hz3⟩;have HZ1:=hidden hz1;have HZ2:=hidden hz2;have HZ3:=hidden hz3;clear hz1 hz2 hz3)
              go_meet
              case rel=>exact ⟨rfl,zs,HZ1,HZ2,HZ3⟩
            · obtain rfl:d2=false:=by rw [HD2.out];simp;omega
              have HZ2:Hid (StR a mid ys ys):=StR.refl (by have:=HE.out;omega) (by have:=hsw1.out.len;have:=HE.out;omega);have HZ3:Hid (Srt a mid ys):=by
                show Srt _ _ _
                by_cases h2:a<s
                · rw [show mid=s by have:=HE.out;omega];exact HMR.out.s1
                · rw [show a=s by have:=HE.out;omega];exact HMR.out.s2
              go_wp2
              go_meet
              case rel=>exact ⟨rfl,ys,hsw1,HZ2,HZ3⟩
           case rest=>
            obtain ⟨rfl,zs,hz1,hz2,hz3⟩:=hcut;clear hsw1 HD2;have HZ3:Hid (Srt mid e zs):=HMR.out.s3.keep hz2.out (.inr (Nat.le_refl _));have HZ4:Hid (Srt e b zs):=HMR.out.s4.keep hz2.out (.inr (by have:=HE.out;omega))
            by_cases h1:mid<e
            · have y2:(mid:Int)<(e:Int):=by omega
              by_cases h2:e<b
              · have y3:(e:Int)<(b:Int):=by omega
                have HC:=hidden (HREC.out mid e b zs _ (by have:=HE.out;omega) hz1.out h1 h2 hb HZ3.out HZ4.out)
                go_wp2_with (go_at_call 314;refine HC.out.mono ?_;rintro e' wx ⟨rfl,us,hu1,hu2,hu3⟩;have HP:=hidden (show ∃ys,Sw w0 g n c wx ys∧StR a b xs ys∧Srt a b ys from ⟨us,hu1,HMR.out.done hz2.out hz3.out hu2 hu3⟩);clear hu1 hu2 hu3)
                go_end0;exact ⟨rfl,HP.out⟩
              · have y3: ¬(e:Int)<(b:Int):=by omega
                have HP:Hid (∃ys,Sw w0 g n c _ ys∧StR a b xs ys∧Srt a b ys):=⟨zs,hz1.out,HMR.out.done hz2.out hz3.out (StR.refl (by have:=HE.out;omega) (by rw [hz1.out.len];exact hb)) (by rw [show b=e by have:=HE.out;omega];exact HZ3.out)⟩;go_wp2
                go_end0;exact ⟨rfl,HP.out⟩
            · have y2: ¬(mid:Int)<(e:Int):=by omega
              have HP:Hid (∃ys,Sw w0 g n c _ ys∧StR a b xs ys∧Srt a b ys):=⟨zs,hz1.out,HMR.out.done hz2.out hz3.out (StR.refl (by have:=HE.out;omega) (by rw [hz1.out.len];exact hb)) (by rw [show mid=e by have:=HE.out;omega];exact HZ4.out)⟩;go_wp2
              go_end0;exact ⟨rfl,HP.out⟩

theorem mrg_any (w0:World) (g n c:Nat) (hn:n≤65536):∀(N a m b:Nat) (xs:List Wt) (w:World),b-a≤N→Sw w0 g n c w xs→a<m→m<b→b≤n→Srt a m xs→Srt m b xs→Kc 314 #[.slice (some ⟨g,0,none⟩) n c,.int .i64 (a:Int),.int .i64 (m:Int),.int .i64 (b:Int),.func (.func 249) #[] #[]] w fun e w'=>e=.returned (.tuple #[])∧∃ys,Sw w0 g n c w' ys∧StR a b xs ys∧Srt a b ys
  | 0,a,m,b,xs,w,hN,_,h1,h2,_,_,_=>by omega
  | N+1,a,m,b,xs,w,hN,h,h1,h2,hb,hs1,hs2=>by
    by_cases e1:m=a+1
    · exact mrgA_any w0 g n c a m b xs w h e1 h2 hb hn hs2
    · by_cases e2:b=m+1
      · exact mrgB_any w0 g n c a m b xs w h (by omega) e2 hb hn hs1
      · exact mrgC_any w0 g n c a m b xs w h (by omega) (by omega) hb hn hs1 hs2 fun a' m' b' xs' w' k0 k1 k2 k3 k4 k5 k6=>mrg_any w0 g n c hn N a' m' b' xs' w' (by omega) k1 k2 k3 k4 k5 k6

end Go.Proofs.YtdjpigfibafokaaGreatDoor

namespace Go.Proofs.YtdjpigfibafokaaGreatDoor
variable {N2 a b i j k m mid n p r r0 s s0 t:Nat}
set_option maxHeartbeats 8000000
set_option maxRecDepth 20000
open Go.RowKit

def BsW (k n:Nat) (ys:List Wt):Prop:=∀q,Srt (q * k) (min ((q+1) * k) n) ys
def BsT (k n t:Nat) (ys:List Wt):Prop:=∀q,q<t→Srt (q * k) (min ((q+1) * k) n) ys
theorem Srt.none {xs:List Wt} (h:b≤a):Srt a b xs:=fun i j h1 h2 h3=>by omega
theorem BsT.step {ys zs:List Wt} (h:BsT 20 n t ys) (st:StR (t * 20) (t * 20+20) ys zs) (s:Srt (t * 20) (t * 20+20) zs):BsT 20 n (t+1) zs:=fun q hq=>by
  by_cases e:q=t
  · subst e
    exact s.sub (Nat.le_refl _) (by omega)
  · exact (h q (by omega)).keep st (.inl (by omega))
theorem BsT.done {ys zs:List Wt} (h:BsT 20 n t ys) (hn:n<t * 20+20) (st:StR (t * 20) n ys zs) (s:Srt (t * 20) n zs):BsW 20 n zs:=fun q=>by
  rcases Nat.lt_trichotomy q t with e | e | e
  · exact (h q e).keep st (.inl (by omega))
  · subst e
    exact s.sub (Nat.le_refl _) (by omega)
  · exact Srt.none (by omega)
theorem BsW.all {ys:List Wt} (h:BsW k n ys) (hk:n≤k):Srt 0 n ys:=by
  have:=h 0;rw [Nat.zero_mul,Nat.zero_add,Nat.one_mul,Nat.min_eq_right hk] at this;exact this

structure Mx (k n t:Nat) (ys:List Wt):Prop where
  lo:∀q,q<t→Srt (q * (2 * k)) (min ((q+1) * (2 * k)) n) ys
  hi:∀q,2 * t≤q→Srt (q * k) (min ((q+1) * k) n) ys
theorem Mx.start {ys:List Wt} (h:BsW k n ys):Mx k n 0 ys:=⟨fun q hq=>by omega,fun q _=>h q⟩
theorem two_mul (t k:Nat):(2 * t) * k=t * (2 * k):=by rw [Nat.mul_comm 2 t,Nat.mul_assoc]
theorem Mx.halves {ys:List Wt} (h:Mx k n t ys):Srt (t * (2 * k)) (min (t * (2 * k)+k) n) ys∧Srt (t * (2 * k)+k) (min (t * (2 * k)+2 * k) n) ys:=by
  have h1:=h.hi (2 * t) (Nat.le_refl _);have h2:=h.hi (2 * t+1) (by omega);rw [Nat.succ_mul (2 * t) k,two_mul] at h1;rw [Nat.succ_mul (2 * t+1) k,Nat.succ_mul (2 * t) k,two_mul] at h2;exact ⟨h1,by rw [show t * (2 * k)+2 * k=t * (2 * k)+k+k by omega];exact h2⟩
theorem mul_le_of {q:Nat} (h:q<t):(q+1) * k≤t * k:=Nat.mul_le_mul_right k h
theorem Mx.step {ys zs:List Wt} (h:Mx k n t ys) (st:StR (t * (2 * k)) (t * (2 * k)+2 * k) ys zs) (s:Srt (t * (2 * k)) (t * (2 * k)+2 * k) zs):Mx k n (t+1) zs:=by
  refine ⟨fun q hq=>?_,fun q hq=>?_⟩
  · by_cases e:q=t
    · subst e
      rw [Nat.succ_mul q (2 * k)];exact s.sub (Nat.le_refl _) (by omega)
    · have:=mul_le_of (q:=q) (t:=t) (k:=2 * k) (by omega)
      exact (h.lo q (by omega)).keep st (.inl (by omega))
  · have h1:(2 * (t+1)) * k≤q * k:=Nat.mul_le_mul_right k hq
    rw [two_mul,Nat.succ_mul t (2 * k)] at h1;exact (h.hi q (by omega)).keep st (.inr h1)
theorem Mx.last {ys zs:List Wt} (h:Mx k n t ys) (hn:n<t * (2 * k)+2 * k) (st:StR (t * (2 * k)) n ys zs) (s:Srt (t * (2 * k)) n zs):BsW (2 * k) n zs:=fun q=>by
  rcases Nat.lt_trichotomy q t with e | e | e
  · have:=mul_le_of (q:=q) (t:=t) (k:=2 * k) e
    exact (h.lo q e).keep st (.inl (by omega))
  · subst e
    exact s.sub (Nat.le_refl _) (Nat.min_le_right _ _)
  · have:=mul_le_of (q:=t) (t:=q) (k:=2 * k) e
    rw [Nat.succ_mul t (2 * k)] at this;exact Srt.none (by omega)
theorem Mx.end {ys:List Wt} (h:Mx k n t ys) (hn:n≤t * (2 * k)+k):BsW (2 * k) n ys:=fun q=>by
  rcases Nat.lt_trichotomy q t with e | e | e
  · exact h.lo q e
  · subst e
    rw [Nat.succ_mul q (2 * k)];exact h.halves.1.sub (Nat.le_refl _) (by omega)
  · have:=mul_le_of (q:=t) (t:=q) (k:=2 * k) e
    rw [Nat.succ_mul t (2 * k)] at this;exact Srt.none (by omega)

set_option maxRecDepth 100000 in
theorem stb_any (w0:World) (g n c:Nat) (xs:List Wt) (w:World) (h:Sw w0 g n c w xs) (hn:n≤65536):
    Kc 278 #[.slice (some ⟨g,0,none⟩) n c,.int .i64 (n:Int),.func (.func 249) #[] #[]] w fun e w'=>e=.returned (.tuple #[])∧∃ys,Sw w0 g n c w' ys∧StR 0 n xs ys∧Srt 0 n ys:=by
  have HSW:=hidden h;have HL:=hidden h.len;have HI:Hid (∀(A B:Nat) (ys:List Wt) (w':World),Sw w0 g n c w' ys→A≤B→B≤n→Kc 313 #[.slice (some ⟨g,0,none⟩) n c,.int .i64 (A:Int),.int .i64 (B:Int),.func (.func 249) #[] #[]] w' fun e w''=>e=.returned (.tuple #[])∧∃zs,Sw w0 g n c w'' zs∧StR A B ys zs∧Srt A B zs):=fun A B ys w' h1 h2 h3=>ins_any w0 g n c A B ys w' h1 h2 h3 hn
  have HM:Hid (∀(A M B:Nat) (ys:List Wt) (w':World),Sw w0 g n c w' ys→A<M→M<B→B≤n→Srt A M ys→Srt M B ys→Kc 314 #[.slice (some ⟨g,0,none⟩) n c,.int .i64 (A:Int),.int .i64 (M:Int),.int .i64 (B:Int),.func (.func 249) #[] #[]] w' fun e w''=>e=.returned (.tuple #[])∧∃zs,Sw w0 g n c w'' zs∧StR A B ys zs∧Srt A B zs):=fun A M B ys w' h1 h2 h3 h4 h5 h6=>mrg_any w0 g n c hn (B-A) A M B ys w' (Nat.le_refl _) h1 h2 h3 h4 h5 h6
  clear h;go_enter Tryz.func278,Tryz.ntmps278
  go_wp2_with fail
  go_loopw [7,8] (fun av bv wr=>∃(t A B:Nat) (ys:List Wt),av=.int .i64 (A:Int)∧bv=.int .i64 (B:Int)∧Hid (A=t * 20∧B=A+20∧A≤n)∧Hid (Sw w0 g n c wr ys)∧Hid (StR 0 n xs ys)∧Hid (BsT 20 n t ys)) (fun _ bv _=>n+20-(intOf bv).toNat)
  case atStart=>exact ⟨0,0,20,xs,rfl,rfl,⟨rfl,rfl,by omega⟩,HSW,StR.refl (by omega) (by rw [HL.out];exact Nat.le_refl _),fun q hq=>by omega⟩
  case round=>
    clear HSW;obtain ⟨t,A,B,ys,rfl,rfl,hab,hsw,hst,hbs⟩:=hrel
    by_cases hlt:B≤n
    · as_aux_lemma=>
        have z1:(B:Int)≤(n:Int):=by omega
        have HC:=hidden (HI.out A B ys wr hsw.out (by have:=hab.out;omega) hlt);obtain ⟨B2,hB2⟩:∃B2,B2=B+20:=⟨_,rfl⟩;have HB2:=hidden hB2;have z2:(B:Int)+20=(B2:Int):=by omega
        have z3:=w64_nat (k:=B2) (by omega);clear hB2
        go_wp2_with (go_at_call 313;refine HC.out.mono ?_;rintro e wx ⟨rfl,zs,hz1,hz2,hz3⟩;have HZ1:=hidden hz1;have HZ2:=hidden hz2;have HZ3:=hidden hz3;clear hz1 hz2 hz3)
        clear z3;have hAB:=hab.out;have HST2:Hid (StR 0 n xs zs):=hst.out.trans (HZ2.out.wide (by omega) hlt (by rw [hsw.out.len];exact Nat.le_refl _));have HBS2:Hid (BsT 20 n (t+1) zs):=by
          have h1:=HZ2.out;have h2:=HZ3.out;rw [hAB.2.1,hAB.1] at h1 h2;exact hbs.out.step h1 h2
        have HAB2:Hid (B=(t+1) * 20∧B2=B+20∧B≤n):=⟨by omega,HB2.out,hlt⟩;exact ⟨⟨t+1,B,B2,zs,rfl,rfl,HAB2,HZ1,HST2,HBS2⟩,by have:=HB2.out;simp [intOf];omega⟩
    · have z1: ¬(B:Int)≤(n:Int):=by omega
      have HC:=hidden (HI.out A n ys wr hsw.out hab.out.2.2 (Nat.le_refl _));have HNX:Hid (∀zs,StR A n ys zs→Srt A n zs→StR 0 n xs zs∧BsW 20 n zs):=fun zs h1 h2=>by
        have hAB:=hab.out;refine ⟨hst.out.trans (h1.wide (by omega) (Nat.le_refl _) (by rw [hsw.out.len];exact Nat.le_refl _)),?_⟩;rw [hAB.1] at h1 h2;exact hbs.out.done (by omega) h1 h2
      clear hsw hst hbs hab
      go_wp2_with (go_at_call 313;refine HC.out.mono ?_;rintro e wx ⟨rfl,zs,hz1,hz2,hz3⟩;have HZ1:=hidden hz1;have HZ2:=hidden (HNX.out zs hz2 hz3);clear hz1 hz2 hz3)
      clear HNX HC z1 hlt
      go_loopw [6,7,8,9] (fun kv _ _ _ wr=>∃(k:Nat) (ys:List Wt),kv=.int .i64 (k:Int)∧20≤k∧k≤131072∧Hid (Sw w0 g n c wr ys)∧Hid (StR 0 n xs ys)∧Hid (BsW k n ys)) (fun kv _ _ _ _=>n-(intOf kv).toNat)
      case atStart=>exact ⟨20,zs,rfl,by omega,by omega,HZ1,HZ2.out.1,HZ2.out.2⟩
      case round=>
        clear HZ1 HZ2 zs;obtain ⟨k,ys,rfl,hk20,hk,hsw,hst,hbs⟩:=hrel
        by_cases hlt:k<n
        · as_aux_lemma=>
            have z1:(k:Int)<(n:Int):=by omega
            obtain ⟨k2,hk2⟩:∃k2,k2=2 * k:=⟨_,rfl⟩;have HK2:=hidden hk2;have z2:2 * (k:Int)=(k2:Int):=by omega
            have z2':(k:Int) * 2=(k2:Int):=by omega
            have z3:=w64_nat (k:=k2) (by omega);have HX0:=hidden (Mx.start hbs.out);clear hk2 hbs
            go_wp2_with fail
            go_loopw [7,8] (fun av bv wr=>∃(t A B:Nat) (ys:List Wt),av=.int .i64 (A:Int)∧bv=.int .i64 (B:Int)∧Hid (A=t * k2∧B=A+k2∧A≤n)∧Hid (Sw w0 g n c wr ys)∧Hid (StR 0 n xs ys)∧Hid (Mx k n t ys)) (fun _ bv _=>n+k2-(intOf bv).toNat)
            case atStart=>exact ⟨0,0,k2,ys,rfl,rfl,⟨by simp,by simp,by omega⟩,hsw,hst,HX0⟩
            case round=>
              clear HX0 hsw hst ys;obtain ⟨t,A,B,ys,rfl,rfl,hab,hsw,hst,hmx⟩:=hrel;obtain ⟨M,hM⟩:∃M,M=A+k:=⟨_,rfl⟩;have HHM:=hidden hM;have HHV:Hid (Srt A (min M n) ys∧Srt M (min B n) ys):=by
                have h1:=hmx.out.halves;have h2:=hab.out;rw [← HK2.out,← h2.1,← hM,← h2.2.1] at h1;exact h1
              have hA13:A≤65536:=by have:=hab.out;clear z3;omega
              have hM2:M≤200000:=by clear z3;omega
              have y1:(A:Int)+(k:Int)=(M:Int):=by clear z3;omega
              by_cases hlt2:B≤n
              · as_aux_lemma=>
                  have y2:(B:Int)≤(n:Int):=by clear z3;omega
                  obtain ⟨B2,hB2⟩:∃B2,B2=B+k2:=⟨_,rfl⟩;have HB2:=hidden hB2;have y3:(B:Int)+(k2:Int)=(B2:Int):=by clear z3;omega
                  have hB2b:B2≤200000:=by have:=HK2.out;clear z3;omega
                  have HC:=hidden (HM.out A M B ys wr hsw.out (by clear z3;omega) (by have:=hab.out;have:=HK2.out;clear z3;omega) hlt2 (by have:=HHV.out.1;rw [Nat.min_eq_left (by have:=hab.out;have:=HK2.out;clear z3;omega)] at this;exact this) (by have:=HHV.out.2;rw [Nat.min_eq_left hlt2] at this;exact this));have y4:=w64_nat hM2;have y5:=w64_nat hB2b;clear hB2 hM
                  go_wp2_with (go_at_call 314;refine HC.out.mono ?_;rintro e wx ⟨rfl,zs,hz1,hz2,hz3⟩;have HZ1:=hidden hz1;have HZ2:=hidden hz2;have HZ3:=hidden hz3;clear hz1 hz2 hz3)
                  clear y4 y5 z3;have hAB:=hab.out;have HST2:Hid (StR 0 n xs zs):=hst.out.trans (HZ2.out.wide (by omega) hlt2 (by rw [hsw.out.len];exact Nat.le_refl _));have HMX2:Hid (Mx k n (t+1) zs):=by
                    have h1:=HZ2.out;have h2:=HZ3.out;rw [hAB.2.1,hAB.1,HK2.out] at h1 h2;exact hmx.out.step h1 h2
                  have HAB2:Hid (B=(t+1) * k2∧B2=B+k2∧B≤n):=⟨by rw [Nat.succ_mul,← hAB.1];exact hAB.2.1,HB2.out,hlt2⟩;exact ⟨⟨t+1,B,B2,zs,rfl,rfl,HAB2,HZ1,HST2,HMX2⟩,by have:=HB2.out;have:=HK2.out;simp [intOf];omega⟩
              · have y2: ¬(B:Int)≤(n:Int):=by clear z3;omega
                by_cases hlt3:M<n
                · as_aux_lemma=>
                    have y3:(M:Int)<(n:Int):=by clear z3;omega
                    have HC:=hidden (HM.out A M n ys wr hsw.out (by clear z3;omega) hlt3 (Nat.le_refl _) (by have:=HHV.out.1;rw [Nat.min_eq_left (by clear z3;omega)] at this;exact this) (by have:=HHV.out.2;rw [Nat.min_eq_right (by clear z3;omega)] at this;exact this));have y4:=w64_nat hM2;clear hM
                    go_wp2_with (go_at_call 314;refine HC.out.mono ?_;rintro e wx ⟨rfl,zs,hz1,hz2,hz3⟩;have HZ1:=hidden hz1;have HZ2:=hidden hz2;have HZ3:=hidden hz3;clear hz1 hz2 hz3)
                    clear y4 z3;have hAB:=hab.out;have HST2:Hid (StR 0 n xs zs):=hst.out.trans (HZ2.out.wide (by omega) (Nat.le_refl _) (by rw [hsw.out.len];exact Nat.le_refl _));have HBS2:Hid (BsW k2 n zs):=by
                      show BsW _ _ _;have h1:=HZ2.out;have h2:=HZ3.out;have h3:=hAB.2.1;rw [hAB.1,HK2.out] at h1 h2 h3;rw [HK2.out];exact hmx.out.last (by omega) h1 h2
                    exact ⟨⟨k2,zs,rfl,by have:=HK2.out;omega,by have:=HK2.out;omega,HZ1,HST2,HBS2⟩,by have:=HK2.out;simp [intOf];omega⟩
                · as_aux_lemma=>
                    have y3: ¬(M:Int)<(n:Int):=by clear z3;omega
                    have y4:=w64_nat hM2;have HBS2:Hid (BsW k2 n ys):=by
                      show BsW _ _ _;rw [HK2.out];refine hmx.out.end ?_;have h3:=hab.out.1;rw [HK2.out] at h3;rw [← h3];clear z3 y4;omega
                    clear hM
                    go_wp2_with fail
                    clear y4 z3;exact ⟨⟨k2,ys,rfl,by have:=HK2.out;omega,by have:=HK2.out;omega,hsw,hst,HBS2⟩,by have:=HK2.out;simp [intOf];omega⟩
        · have z1: ¬(k:Int)<(n:Int):=by omega
          have HP:Hid (∃ys,Sw w0 g n c wr ys∧StR 0 n xs ys∧Srt 0 n ys):=⟨ys,hsw.out,hst.out,hbs.out.all (by omega)⟩;clear hsw hst hbs;go_wp2
          go_end0;exact ⟨rfl,HP.out⟩

theorem srt_any (w0:World) (g n c:Nat) (xs:List Wt) (w:World) (h:Sw w0 g n c w xs) (hn:n≤65536):
    Kc 251 #[.slice (some ⟨g,0,none⟩) n c,.func (.func 249) #[] #[]] w fun e w'=>e=.returned (.tuple #[])∧∃ys,Sw w0 g n c w' ys∧StR 0 n xs ys∧Srt 0 n ys:=by
  have HC:=hidden (stb_any w0 g n c xs w h hn);clear h;go_enter Tryz.func251,Tryz.ntmps251
  go_wp2_with (go_at_call 278;refine HC.out.mono ?_;rintro e wx ⟨rfl,hp⟩;have HP:=hidden hp;clear hp)
  go_end0;exact ⟨rfl,HP.out⟩

end Go.Proofs.YtdjpigfibafokaaGreatDoor
