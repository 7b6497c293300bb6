/- The document's Set (rootcellarref04), as a contract. -/
import Derived.Test.YtlclabbnpjobgaaGreatDoorAp25
namespace Go.Proofs.YtlclabbnpjobgaaGreatDoor
set_option maxHeartbeats 4000000
set_option maxRecDepth 20000
open Go.RowKit
theorem Zis:Tryz.prog.underlying 42=some (.array 32 5):=Tryz.underlying42
theorem Zhh {xs:Lq} (h:Key xs):(Tryz.prog.info? 42).map (·.size)=some (B xs).size:=by rw [Zn,h.1];exact Zbv
theorem Ydc (xs:Lq) (d:Nat) (b z:Int) (hx:Key xs) (hd:d<256) (hb:b=0∨b=1) (hz:z=xs.getD (d / 8) 0+(b-kb xs d) * 2 ^ (7-d % 8)):0≤z∧z≤255∧IsSet xs d b (xs.set (d / 8) z):=by
 obtain ⟨⟨h1,h2⟩,h3⟩:=Yib (xs.getD (d / 8) 0) b (hx.byte _) hb (d % 8) (by omega);have e:xs.getD (d / 8) 0+(b-bt (xs.getD (d / 8) 0) (d % 8)) * 2 ^ (7-d % 8)=z:=hz.symm;rw [e] at h1 h2 h3;refine ⟨h1,h2,hx.set _ _ ⟨h1,h2⟩,fun j hj=>?_⟩;rw [Yhd _ _ _ _ (by rw [hx.1];omega)]
 by_cases q:j / 8=d / 8
 ·rw [if_pos q,h3 _ (by omega)]
  by_cases p:j % 8=d % 8
  ·rw [if_pos p,if_pos (by omega)]
  ·rw [if_neg p,if_neg (by omega)];unfold kb;rw [q]
 ·rw [if_neg q,if_neg (by omega)]
set_option maxRecDepth 10000 in
theorem Ydn (xs:Lq) (d:Nat) (b:Int) (w:World) (hx:Key xs) (hd:d<256) (hb:b=0∨b=1):Kc 194 #[.agg (B xs),.int .i64 d,.int .i64 b] w fun e w'=>∃ys,IsSet xs d b ys∧e=.returned (.agg (B ys))∧Kb w w':=by
 have HX:=Za hx;have h2:((d / 8:Nat):Int)<32:=by omega
 have hby:=hx.byte (d / 8);obtain ⟨x,hxx⟩:∃x,x=xs.getD (d / 8) 0:=⟨_,rfl⟩;rw [← hxx] at hby;have hwx:wrap64 x=x:=Go.IntWalk.wrap64_in _ (by omega);obtain ⟨y,hy⟩:∃y,y=kb xs d:=⟨_,rfl⟩;have hy2:y=0∨y=1:=by rw [hy];exact Zfp xs d
 have cB:Hid (∀w',Kc 169 #[.agg (B xs),.int .i64 d] w' fun e w''=>e=.returned (.int .i64 y)∧Below w'.heap.size w' w''):=by
  intro w';rw [hy];exact Zfd xs d w' hx hd
 obtain ⟨W,hW⟩:∃W:Int,W=2 ^ (7-d % 8):=⟨_,rfl⟩;obtain ⟨f,hf⟩:∃f:Int,f=b-y:=⟨_,rfl⟩;obtain ⟨m,hm⟩:∃m:Int,m=f * W:=⟨_,rfl⟩;obtain ⟨z,hz⟩:∃z:Int,z=x+m:=⟨_,rfl⟩;obtain ⟨z0,z1,hset⟩:=Ydc xs d b z hx hd hb (by rw [hz,hm,hf,hxx,hy,hW]);have HSET:=Za hset;have HW:=Za hW;have w9:IntKind.i64.wrap (b-y)=f:=by rw [IntKind.wrap_i64];omega
 have w11:IntKind.i64.wrap (f * W)=m:=by rw [← hm,IntKind.wrap_i64];omega
 have w12:IntKind.i64.wrap (x+m)=z:=by rw [← hz,IntKind.wrap_i64];omega
 have w13:z % 256=z:=by omega
 have w1:IntKind.i64.wrap ((d:Int) / 8)=(d:Int) / 8:=by rw [IntKind.wrap_i64];omega
 have w4:IntKind.i64.wrap x=x:=by rw [IntKind.wrap_i64];omega
 have hbd:0≤(d:Int) / 8∧(d:Int) / 8<32:=by omega
 have htn:((d:Int) / 8).toNat=d / 8:=by omega
 have HXX:=Za hxx;have hs:=Zhh hx;have hs2:=Zhh hset.1;have HZ:Hid ((B (xs.set (d / 8) z)).size=32):=by rw [Zn];exact hset.1.1
 have hiX:(Tryz.prog.info? 42).map (·.size)=some (B xs).toList.length:=by rw [Zaz,List.length_map,hx.1];exact Zbv
 clear hx hxx hW hf hm hz hset hy2 hb hy;go_enter Tryz.func194,Tryz.ntmps194
 go_wp2_with (first | (refine Zd _ rfl _ _ rfl _ rfl ?_;intro w1 g1 hg1 hl1 B1 b1) | (refine Zh _ rfl _ rfl _ Zfg ?_;intro w2 g2 hg2 hl2 B2 b2;have B1':=B1.grow b2))
 have c2:=Zb b1 b2;have hg3:w.heap.size≤g2:=Nat.le_trans b1.size hg2;have hne:g2≠g1:=by omega
 have HB:Hid (∀w',Kb w2 w'→Blk w' g1 42 (B xs)∧Blk w' g2 42 (B (List.replicate 32 0))):=fun w' hw'=>⟨B1'.grow hw',B2.grow hw'⟩
 have HS:Hid (∀w',Kb w2 w'→w'.rangeAt g1 0 (B xs).toList∧w'.cell? ⟨g1,d / 8,none⟩=some (.int .u8 x)):=fun w' hw'=>⟨(B1'.grow hw').range,by
  have:=(B1'.grow hw').bcell (d / 8) (by rw [HX.out.1];omega);rw [← HXX.out] at this;exact this⟩
 clear B1 B1' B2 b1 b2 hl1 hl2 hg2;have hm:d % 8<8:=Nat.mod_lt _ (by omega)
 go_loopw [7,8] (fun s i wr=>∃(k:Nat) (v:Int),k≤7-d % 8∧s=.int .i64 v∧i=.int .i64 k∧Hid (v=2 ^ k)∧0≤v∧v≤128∧wr=w2) (fun _ i _=>8-(intOf i).toNat)
 case atStart=>exact ⟨0,1,by omega,rfl,rfl,by show _=_;simp,by omega,by omega,rfl⟩
 case round=>
  obtain ⟨k,v,hk,rfl,rfl,hv,hv0,hv1,hwr⟩:=hrel
  by_cases hlt:k<7-d % 8
  ·subst hwr;have hlt':(k:Int)<7-(d:Int) % 8:=by omega
   have hv2:v≤64:=by
    have h:=(show ∀k,k<7→2 ^ k≤64 from by decide+kernel) k (by omega);rw [hv.out];have e:(2:Int) ^ k=((2 ^ k:Nat):Int):=by rw [Int.natCast_pow];rfl
    rw [e];exact Int.ofNat_le.2 h
   go_wp2
   exact ⟨⟨k+1,2 * v,by omega,by go_num,by go_num,by show _=_;rw [hv.out,Int.pow_succ,Int.mul_comm],by omega,by omega,trivial⟩,by simp [intOf];omega⟩
  ·have hlt':decide ((k:Int)<7-(d:Int) % 8)=false:=decide_eq_false (by omega);obtain rfl:k=7-d % 8:=by omega
   obtain rfl:v=W:=by rw [hv.out,HW.out]
   subst hwr;obtain ⟨wz,rfl⟩:∃x,x=wr:=⟨_,rfl⟩;have d0:Kb wz wz.drew:=(Below.refl _ _).drew;clear hlt hlt'
   go_wp2_with fail
   refine wp_region_held_drew (S:=fun w'=>w'.rangeAt g1 0 (B xs).toList∧w'.cell? ⟨g1,d / 8,none⟩=some (.int .u8 x)) (by kernel_rfl) (HS.out _ d0) (fun hHeld=>?_);refine tkp 0 (.int .i64 (d:Int)) hHeld ?_;simp only [zq];refine tkp 1 (.int .i64 ((d:Int) / 8)) hHeld ?_;simp only [zq];refine tkp 2 (.pointer (some ⟨g1,d / 8,none⟩)) hHeld ?_;simp only [zq];refine tkg 3 (.int .u8 x) rfl (Or.inl ⟨by rfl,fun w hS=>by (have q1:=hS.2;go_simp)⟩) hHeld ?_;simp only [zq];refine tkp 4 (.int .i64 x) hHeld ?_;simp only [zq];refine tkp 5 (.int .i64 b) hHeld ?_;simp only [zq];refine tkg 6 (.agg (B xs)) rfl (yieldsIf_load_mid rfl 42 (.tmp 3) rfl g1 0 rfl (B xs).toList _ (fun w hS=>hS.1) Zis rfl hiX) hHeld ?_;simp only [zq];refine tkp 7 (.int .i64 (d:Int)) hHeld ?_;simp only [zq];refine tkp 10 (.int .i64 v) hHeld ?_;simp only [zq];refine wpAnyH_ready (rs:=[8]) (by kernel_rfl) (by simp) ?_;refine AllReadyH.cons rfl (fun KQ hK=>?_) AllReadyH.nil;go_simp;refine (cB.out _).mono ?_;rintro e x1 ⟨rfl,a1⟩;have d1:=Zb d0 a1;refine hK.out _ _ (HS.out _ d1) (fun hHeld=>?_);clear hK KQ;refine tkp 9 (.int .i64 f) hHeld ?_;simp only [zq];refine tkp 11 (.int .i64 m) hHeld ?_;simp only [zq];refine tkp 12 (.int .i64 z) hHeld ?_;simp only [zq];refine wpAnyH_ready (rs:=[13]) (by kernel_rfl) (by simp) ?_;refine AllReadyH.cons rfl (fun KQ hK=>?_) AllReadyH.nil;go_simp;refine hK.out _ _ (HS.out _ d1) (fun hHeld=>?_);clear hK KQ;refine wpAnyH_done (by kernel_rfl) ?_ _;have B4:=(HB.out _ d1).1;have B5:=(HB.out _ d1).2;have c1:=(HS.out _ d1).2;have f1:=B4.frozen (d / 8);have c4:Kb w x1:=Zb c2 d1;clear HS HB d0 d1 a1 w9 w11 w12 w1 w4 hbd htn
   go_wp2_with (first | (refine Zg _ rfl _ _ rfl g1 _ rfl (B4.bset (d / 8) z) _ _ Zis hs2 ?_) | (refine Zf _ rfl _ _ _ rfl g2 _ (B (xs.set (d / 8) z)) rfl rfl (B5.other (d / 8) (.int .u8 z) hne) hs2 (by rw [HZ.out,Zn];simp) (Zbt _) ?_;intro w5 B6 g5))
   exact bodyPost_ret (v:=.agg (B (xs.set (d / 8) z))) (results_cell_row rfl _ _ g2 _ _ _ _ rfl B6 Zis rfl hs2) rfl ⟨_,HSET.out,rfl,Ze (Zw _ _ c4 hg1) g5 hg3⟩
def Cop (xs:Lq) (k:Nat) (ys:Lq):Prop:=ys.length=32∧∀j,j<32→ys.getD j 0=if j<k then xs.getD j 0 else 0
set_option maxRecDepth 10000 in
theorem Zgi (xs ys:Lq) (c:Nat) (w:World) (hx:Key xs) (hy:Key ys) (hc:IsCommon xs ys c):Kc 143 #[.agg (B xs),.agg (B ys)] w fun e w'=>e=.returned (.int .i64 c)∧Kb w w':=by
 have HX:=Za hx;have HY:=Za hy;have HC:=Za hc;have hc0:c≤256:=hc.1;have hiX:(Tryz.prog.info? 42).map (·.size)=some (B xs).toList.length:=by rw [Zaz,List.length_map,hx.1];exact Zbv
 have hiY:(Tryz.prog.info? 42).map (·.size)=some (B ys).toList.length:=by rw [Zaz,List.length_map,hy.1];exact Zbv
 clear hx hy hc;go_enter Tryz.func143,Tryz.ntmps143
 go_wp2_with (first | (have hz:=hl1;clear hz;refine Zd _ rfl _ _ rfl _ rfl ?_;intro w2 g2 hg2 hl2 B2 b2;have B1':=B1.grow b2) | (refine Zd _ rfl _ _ rfl _ rfl ?_;intro w1 g1 hg1 hl1 B1 b1))
 have c2:=Zb b1 b2;have HS0:Hid (∀w',Kb w2 w'→w'.rangeAt g1 0 (B xs).toList∧w'.rangeAt g2 0 (B ys).toList):=fun w' hw'=>⟨(B1'.grow hw').range,(B2.grow hw').range⟩
 clear B1 B1' B2 b1 b2 hg1 hg2 hl1 hl2
 go_loopw [5] (fun s wr=>∃k:Nat,k≤c∧s=.int .i64 k∧Hid (Kb w2 wr)) (fun s _=>257-(intOf s).toNat)
 case atStart=>exact ⟨0,by omega,rfl,Below.refl _ _⟩
 case round=>
  obtain ⟨k,hk,rfl,hb⟩:=hrel;obtain ⟨wz,rfl⟩:∃x,x=wr:=⟨_,rfl⟩;have HS:Hid (∀w',Kb wz w'→w'.rangeAt g1 0 (B xs).toList∧w'.rangeAt g2 0 (B ys).toList):=fun w' hw'=>HS0.out w' (Zb hb.out hw')
  have d0:Kb wz wz.drew:=(Below.refl _ _).drew
  by_cases hk2:k<256
  ·have hk':decide ((k:Int)<256)=true:=decide_eq_true (by omega);obtain ⟨x,hx⟩:∃x,x=kb xs k:=⟨_,rfl⟩;obtain ⟨y,hy⟩:∃y,y=kb ys k:=⟨_,rfl⟩;have cX:Hid (∀w',Kc 169 #[.agg (B xs),.int .i64 k] w' fun e w''=>e=.returned (.int .i64 x)∧Below w'.heap.size w' w''):=by
    intro w';rw [hx];exact Zfd xs k w' HX.out hk2
   have cY:Hid (∀w',Kc 169 #[.agg (B ys),.int .i64 k] w' fun e w''=>e=.returned (.int .i64 y)∧Below w'.heap.size w' w''):=by
    intro w';rw [hy];exact Zfd ys k w' HY.out hk2
   by_cases hkc:k<c
   ·have hxy:(x == y)=true:=by rw [beq_iff_eq,hx,hy];exact HC.out.2.1 k hkc
    clear hx hy
    go_wp2_with fail
    refine wp_region_held_drew (S:=fun w'=>w'.rangeAt g1 0 (B xs).toList∧w'.rangeAt g2 0 (B ys).toList) (by kernel_rfl) (HS.out _ d0) (fun hHeld=>?_);refine tkp 0 (.int .i64 k) hHeld ?_;simp only [zq];refine tkp 1 (.bool true) hHeld ?_;simp only [zq];refine tkp 2 (.bool true) hHeld ?_;simp only [zq];refine tkg 3 (.agg (B xs)) rfl (yieldsIf_load_mid rfl 42 (.tmp 2) rfl g1 0 rfl (B xs).toList _ (fun w hS=>hS.1) Zis rfl hiX) hHeld ?_;simp only [zq];refine tkp 4 (.int .i64 k) hHeld ?_;simp only [zq];refine tkg 6 (.agg (B ys)) rfl (yieldsIf_load_mid rfl 42 (.tmp 3) rfl g2 0 rfl (B ys).toList _ (fun w hS=>hS.2) Zis rfl hiY) hHeld ?_;simp only [zq];refine tkp 7 (.int .i64 k) hHeld ?_;simp only [zq];refine wpAnyH_ready (rs:=[5]) (by kernel_rfl) (by simp) ?_;refine AllReadyH.cons rfl (fun KQ hK=>?_) AllReadyH.nil;go_simp;refine (cX.out _).mono ?_;rintro e x1 ⟨rfl,a1⟩;have d1:=Zb d0 a1;refine hK.out _ _ (HS.out _ d1) (fun hHeld=>?_);clear hK KQ;refine wpAnyH_ready (rs:=[8]) (by kernel_rfl) (by simp) ?_;refine AllReadyH.cons rfl (fun KQ hK=>?_) AllReadyH.nil;go_simp;refine (cY.out _).mono ?_;rintro e x2 ⟨rfl,a2⟩;have d2:=Zb d1 a2;refine hK.out _ _ (HS.out _ d2) (fun hHeld=>?_);clear hK KQ;refine tkp 9 (.bool true) hHeld ?_;simp only [zq];refine tkp 10 (.bool true) hHeld ?_;simp only [zq];refine wpAnyH_done (by kernel_rfl) ?_ _;go_wp2
    exact ⟨⟨k+1,by omega,by go_num,Zb hb.out d2⟩,by simp [intOf];omega⟩
   ·obtain rfl:k=c:=by omega
    have hxy:(x == y)=false:=by rw [beq_eq_false_iff_ne,hx,hy];exact HC.out.2.2 hk2
    clear hx hy
    go_wp2_with fail
    refine wp_region_held_drew (S:=fun w'=>w'.rangeAt g1 0 (B xs).toList∧w'.rangeAt g2 0 (B ys).toList) (by kernel_rfl) (HS.out _ d0) (fun hHeld=>?_);refine tkp 0 (.int .i64 k) hHeld ?_;simp only [zq];refine tkp 1 (.bool true) hHeld ?_;simp only [zq];refine tkp 2 (.bool true) hHeld ?_;simp only [zq];refine tkg 3 (.agg (B xs)) rfl (yieldsIf_load_mid rfl 42 (.tmp 2) rfl g1 0 rfl (B xs).toList _ (fun w hS=>hS.1) Zis rfl hiX) hHeld ?_;simp only [zq];refine tkp 4 (.int .i64 k) hHeld ?_;simp only [zq];refine tkg 6 (.agg (B ys)) rfl (yieldsIf_load_mid rfl 42 (.tmp 3) rfl g2 0 rfl (B ys).toList _ (fun w hS=>hS.2) Zis rfl hiY) hHeld ?_;simp only [zq];refine tkp 7 (.int .i64 k) hHeld ?_;simp only [zq];refine wpAnyH_ready (rs:=[5]) (by kernel_rfl) (by simp) ?_;refine AllReadyH.cons rfl (fun KQ hK=>?_) AllReadyH.nil;go_simp;refine (cX.out _).mono ?_;rintro e x1 ⟨rfl,a1⟩;have d1:=Zb d0 a1;refine hK.out _ _ (HS.out _ d1) (fun hHeld=>?_);clear hK KQ;refine wpAnyH_ready (rs:=[8]) (by kernel_rfl) (by simp) ?_;refine AllReadyH.cons rfl (fun KQ hK=>?_) AllReadyH.nil;go_simp;refine (cY.out _).mono ?_;rintro e x2 ⟨rfl,a2⟩;have d2:=Zb d1 a2;refine hK.out _ _ (HS.out _ d2) (fun hHeld=>?_);clear hK KQ;refine tkp 9 (.bool false) hHeld ?_;simp only [zq];refine tkp 10 (.bool false) hHeld ?_;simp only [zq];refine wpAnyH_done (by kernel_rfl) ?_ _;go_wp2
    go_ret;exact ⟨rfl,Zb c2 (Zb hb.out d2)⟩
  ·have hk':decide ((k:Int)<256)=false:=decide_eq_false (by omega);obtain rfl:k=c:=by omega
   go_wp2_with fail
   refine wp_region_held_drew (S:=fun w'=>w'.rangeAt g1 0 (B xs).toList∧w'.rangeAt g2 0 (B ys).toList) (by kernel_rfl) (HS.out _ d0) (fun hHeld=>?_);refine tkp 0 (.int .i64 k) hHeld ?_;simp only [zq];refine tkp 1 (.bool false) hHeld ?_;simp only [zq];refine tkp 2 (.bool false) hHeld ?_;simp only [zq];refine tks 3 hHeld ?_;simp only [zq];refine tks 4 hHeld ?_;simp only [zq];refine tks 6 hHeld ?_;simp only [zq];refine tks 7 hHeld ?_;simp only [zq];refine wpAnyH_ready (rs:=[5]) (by kernel_rfl) (by simp) ?_;refine AllReadyH.cons rfl (fun KQ hK=>?_) AllReadyH.nil;go_simp;refine hK.out _ _ (HS.out _ d0) (fun hHeld=>?_);clear hK KQ;refine wpAnyH_ready (rs:=[8]) (by kernel_rfl) (by simp) ?_;refine AllReadyH.cons rfl (fun KQ hK=>?_) AllReadyH.nil;go_simp;refine hK.out _ _ (HS.out _ d0) (fun hHeld=>?_);clear hK KQ;refine tks 9 hHeld ?_;simp only [zq];refine tkp 10 (.bool false) hHeld ?_;simp only [zq];refine wpAnyH_done (by kernel_rfl) ?_ _;go_wp2
   go_ret;exact ⟨rfl,Zb c2 (Zb hb.out d0)⟩
end Go.Proofs.YtlclabbnpjobgaaGreatDoor
