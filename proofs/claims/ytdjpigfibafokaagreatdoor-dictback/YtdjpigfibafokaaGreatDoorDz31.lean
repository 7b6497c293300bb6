/- A plan's parts: is one inner, what stands on both sides, is it a key's place, a leaf, what stands above two parts; as contracts. -/
import Derived.Test.YtdjpigfibafokaaGreatDoorDz01
import Derived.Test.YtdjpigfibafokaaGreatDoorDz30
import Derived.Test.YtdjpigfibafokaaGreatDoorDz16
import Derived.Test.YtdjpigfibafokaaGreatDoorDz18
import Derived.Test.YtdjpigfibafokaaGreatDoorDz20
import Derived.Test.YtdjpigfibafokaaGreatDoorDz22
import Derived.Test.YtdjpigfibafokaaGreatDoorDz19
namespace Go.Proofs.YtdjpigfibafokaaGreatDoor
variable {E:List Ent}
variable {K:Lq}
variable {T:Tre}
variable {bp c d f g h m n r top:Nat}
variable {cs cs' cs0 cs1:Lz}
variable {lv:Value}
variable {pend ss:List Nat}
variable {q:Int}
variable {w wa:World}
set_option maxHeartbeats 2000000
set_option maxRecDepth 20000
open Go.RowKit

theorem isInner_neg {ps:List Pn} (P:PlM wa w bp (.pointer (some ⟨g,0,none⟩)) ps lv) (i:Nat) (hi:i<ps.length) (h6:ps.length≤65536) (b:Bool) (hb:ps[i].inn=b):Kc 277 #[.pointer (some ⟨bp,0,none⟩),.int .i64 (-((i:Int)+1))] w fun e w'=>e=.returned (.bool b)∧w'=w:=by
  obtain ⟨gl,c,rfl,hr⟩:=P.at hi;have c1:=P.cells.2;have ck:w.cell? ⟨gl,i * 38,none⟩=some (.int .u8 (if b then 2 else 1)):=by
    have:=hr 0 (.int .u8 (if ps[i].inn then 2 else 1)) rfl;rw [hb] at this;exact this
  obtain ⟨nn,hnn⟩:∃q,q=ps.length:=⟨_,rfl⟩;rw [← hnn] at c1 hi h6;obtain ⟨z,hz⟩:∃z:Int,z= -((i:Int)+1):=⟨_,rfl⟩;obtain ⟨y,hy⟩:∃y:Int,y=(i:Int)+1:=⟨_,rfl⟩;have z0:z<0:=by omega
  have e1:wrap64 (-z)=y:=by rw [Go.IntWalk.wrap64_in _ (by omega)];omega
  have e2:wrap64 (y-1)=(i:Int):=by rw [Go.IntWalk.wrap64_in _ (by omega)];omega
  have i0:(0:Int)≤(i:Int):=by omega
  have i1:(i:Int)<(nn:Int):=by omega
  rw [← hz];clear P hr hnn hz hy hb h6;cases b with
  | false=>
    simp only [Bool.false_eq_true,if_false] at ck;go_enter Tryz.func277,Tryz.ntmps277
    go_wp2_with fail
    go_ret;exact ⟨rfl,rfl⟩
  | true=>
    simp only [if_true] at ck;go_enter Tryz.func277,Tryz.ntmps277
    go_wp2_with fail
    go_ret;exact ⟨rfl,rfl⟩

theorem isInner_pos {ps:List Pn} (P:PlM wa w bp (.pointer (some ⟨g,0,none⟩)) ps lv) (V:Kq [bp] wa fun w'=>Vw w' (.pointer (some ⟨g,0,none⟩)) true (cot cs) (cat cs)) (h:Nat) (b:Bool) (hb:b=true↔(sdC cs h).kind=2):Kc 277 #[.pointer (some ⟨bp,0,none⟩),.int .i64 (h:Int)] w fun e w'=>e=.returned (.bool b)∧Kb w w':=by
  have HKD:Hid (Kr w 149 #[.pointer (some ⟨g,0,none⟩),.int .i64 (h:Int)] (.int .u8 (sdC cs h).kind)):=fun w' hb=>by
    have:=kind_any (V _ (P.grow hb).mod) (h:Int);rwa [cat_nat] at this
  have c0:=P.cells.1;have z0: ¬(h:Int)<0:=by omega
  generalize (h:Int)=y at HKD z0 ⊢;generalize (sdC cs h).kind=k at HKD hb;clear P V
  by_cases hk:k=2
  · have:b=true:=hb.2 hk
    subst this hk;clear hb;go_enter Tryz.func277,Tryz.ntmps277
    go_wp2_with (go_at_call 149;refine (HKD.out _ (Below.refl _ _)).mono ?_;rintro e w1 ⟨rfl,b1⟩;have HB1:=hidden b1;clear b1)
    go_ret;exact ⟨rfl,HB1.out⟩
  · have:b=false:=by
      cases b with
      | false=>rfl
      | true=>exact absurd (hb.1 rfl) hk
    subst this;have hk2:(k == 2)=false:=by simpa using hk
    clear hb;go_enter Tryz.func277,Tryz.ntmps277
    go_wp2_with (go_at_call 149;refine (HKD.out _ (Below.refl _ _)).mono ?_;rintro e w1 ⟨rfl,b1⟩;have HB1:=hidden b1;clear b1)
    go_ret;exact ⟨rfl,HB1.out⟩

def InP (ps:List Pn) (q:Int):Prop:= -q≤(ps.length:Int)
theorem isInner_any {ps:List Pn} (P:PlM wa w bp (.pointer (some ⟨g,0,none⟩)) ps lv) (V:Kq [bp] wa fun w'=>Vw w' (.pointer (some ⟨g,0,none⟩)) true (cot cs) (cat cs)) (q:Int) (hq:InP ps q) (h6:ps.length≤65536) (b:Bool) (hb:b=true↔kdP cs ps q=2):Kc 277 #[.pointer (some ⟨bp,0,none⟩),.int .i64 q] w fun e w'=>e=.returned (.bool b)∧Kb w w':=by
  unfold InP at hq
  by_cases hn:q<0
  · obtain ⟨i,rfl⟩:∃i:Nat,q= -((i:Int)+1):=⟨(-q-1).toNat,by omega⟩
    have hi:i<ps.length:=by omega
    have hb2:ps[i].inn=b:=by
      rw [kdP,if_pos hn,show (- -((i:Int)+1)-1).toNat=i by omega,getElem!_pos ps i hi] at hb;cases b <;> cases hx:ps[i].inn <;> simp [hx] at hb ⊢
    exact (isInner_neg P i hi h6 b hb2).mono fun e w' ⟨e1,e2⟩=>⟨e1,by rw [e2];exact Below.refl _ _⟩
  · obtain ⟨h,rfl⟩:∃h:Nat,q=(h:Int):=⟨q.toNat,by omega⟩
    rw [kdP,if_neg hn,Int.toNat_natCast] at hb;exact isInner_pos P V h b hb

theorem pfork_any {ps:List Pn} (P:PlM wa w bp (.pointer (some ⟨g,0,none⟩)) ps lv) (V:Kq [bp] wa fun w'=>Vw w' (.pointer (some ⟨g,0,none⟩)) true (cot cs) (cat cs)) (h d:Nat) (hd:d<256):Kc 246 #[.pointer (some ⟨bp,0,none⟩),.int .i64 (h:Int),.int .i64 (d:Int)] w fun e w'=>e=.returned (.tuple #[.int .i64 (frkL cs h d:Int),.int .i64 (frkR cs h d:Int)])∧Kb w w':=by
  have HKD:Hid (Kr w 149 #[.pointer (some ⟨g,0,none⟩),.int .i64 (h:Int)] (.int .u8 (sdC cs h).kind)):=fun w' hb=>by
    have:=kind_any (V _ (P.grow hb).mod) (h:Int);rwa [cat_nat] at this
  have HSD:Hid (Kr w 132 #[.pointer (some ⟨g,0,none⟩),.int .i64 (h:Int)] (.tuple #[.int .i64 ((sdC cs h).l:Int),.int .i64 ((sdC cs h).r:Int)])):=fun w' hb=>by
    have:=sides_any (V _ (P.grow hb).mod) (h:Int);rwa [cat_nat] at this
  have HKY:Hid (Kr w 150 #[.pointer (some ⟨g,0,none⟩),.int .i64 (h:Int)] (.agg (B (sdC cs h).key))):=fun w' hb=>by
    have:=key_any (V _ (P.grow hb).mod) (h:Int);rwa [cat_nat] at this
  have hK:Key (sdC cs h).key:=by
    have:=(V.now.ok (h:Int)).hk;rwa [cat_nat] at this
  have HBT:Hid (∀w',Kc 180 #[.agg (B (sdC cs h).key),.int .i64 (d:Int)] w' fun e w''=>e=.returned (.int .i64 (kb (sdC cs h).key d))∧Below w'.heap.size w' w''):=fun w'=>by
    have:=bit_any (sdC cs h).key (d:Int) w' hK;rwa [kbi_in _ _ hd] at this
  have HC:Hid (∀w',Kb w w'→w'.cell? ⟨bp,0,none⟩=some (.pointer (some ⟨g,0,none⟩))):=fun w' hb=>(P.grow hb).cells.1
  have c0:=P.cells.1;have hq:=kb_two (sdC cs h).key d;unfold frkL frkR;generalize kb (sdC cs h).key d=q at HBT hq ⊢;generalize (sdC cs h).kind=k at HKD ⊢;generalize (sdC cs h).key=K at HKY HBT;generalize (sdC cs h).l=l at HSD ⊢;generalize (sdC cs h).r=r at HSD ⊢;clear P V hK hd
  by_cases hk:k=2
  · subst hk
    rw [if_pos rfl,if_pos rfl];generalize (h:Int)=y at *;generalize (d:Int)=dd at *;clear hq;go_enter Tryz.func246,Tryz.ntmps246
    go_wp2_with (first
      |(go_at_call 149;refine (HKD.out _ (Below.refl _ _)).mono ?_;rintro e w1 ⟨rfl,b1⟩;have HB1:=hidden b1;have c1:=HC.out _ b1;clear b1)
      |(go_at_call 132;refine (HSD.out _ HB1.out).mono ?_;rintro e w2 ⟨rfl,b2⟩;have HB2:=hidden (grow_trans HB1.out b2);clear b2))
    go_ret2;exact ⟨rfl,HB2.out⟩
  · rw [if_neg hk,if_neg hk]
    have hk2:(k == 2)=false:=by simpa using hk
    rcases hq with rfl | rfl
    · rw [if_neg (by omega),if_neg (by omega)]
      generalize (h:Int)=y at *;generalize (d:Int)=dd at *;go_enter Tryz.func246,Tryz.ntmps246
      go_wp2_with (first
        |(go_at_call 149;refine (HKD.out _ (Below.refl _ _)).mono ?_;rintro e w1 ⟨rfl,b1⟩;have HB1:=hidden b1;have c1:=HC.out _ b1;clear b1)
        |(go_at_call 150;refine (HKY.out _ HB1.out).mono ?_;rintro e w2 ⟨rfl,b2⟩;have HB2:=hidden (grow_trans HB1.out b2);clear b2)
        |(go_at_call 180;refine (HBT.out _).mono ?_;rintro e w3 ⟨rfl,b3⟩;have HB3:=hidden (grow_trans HB2.out b3);clear b3))
      go_ret2;exact ⟨rfl,HB3.out⟩
    · rw [if_pos rfl,if_pos rfl]
      generalize (h:Int)=y at *;generalize (d:Int)=dd at *;go_enter Tryz.func246,Tryz.ntmps246
      go_wp2_with (first
        |(go_at_call 149;refine (HKD.out _ (Below.refl _ _)).mono ?_;rintro e w1 ⟨rfl,b1⟩;have HB1:=hidden b1;have c1:=HC.out _ b1;clear b1)
        |(go_at_call 150;refine (HKY.out _ HB1.out).mono ?_;rintro e w2 ⟨rfl,b2⟩;have HB2:=hidden (grow_trans HB1.out b2);clear b2)
        |(go_at_call 180;refine (HBT.out _).mono ?_;rintro e w3 ⟨rfl,b3⟩;have HB3:=hidden (grow_trans HB2.out b3);clear b3))
      go_ret2;exact ⟨rfl,HB3.out⟩

theorem place_any {ps:List Pn} (P:PlM wa w bp (.pointer (some ⟨g,0,none⟩)) ps lv) (V:Kq [bp] wa fun w'=>Vw w' (.pointer (some ⟨g,0,none⟩)) true (cot cs) (cat cs)) (h:Nat) (K:Lq) (hK:Key K) (bb:Bool) (hbb:bb=true↔Plc cs h K):Kc 244 #[.pointer (some ⟨bp,0,none⟩),.int .i64 (h:Int),.agg (B K)] w fun e w'=>e=.returned (.bool bb)∧Kb w w':=by
  have HKD0:Hid (Kr w 149 #[.pointer (some ⟨g,0,none⟩),.int .i64 (h:Int)] (.int .u8 (sdC cs h).kind)):=fun w' hb=>by
    have:=kind_any (V _ (P.grow hb).mod) (h:Int);rwa [cat_nat] at this
  have HKY0:Hid (Kr w 150 #[.pointer (some ⟨g,0,none⟩),.int .i64 (h:Int)] (.agg (B (sdC cs h).key))):=fun w' hb=>by
    have:=key_any (V _ (P.grow hb).mod) (h:Int);rwa [cat_nat] at this
  have hk':Key (sdC cs h).key:=by
    have:=(V.now.ok (h:Int)).hk;rwa [cat_nat] at this
  have HC:Hid (∀w',Kb w w'→w'.cell? ⟨bp,0,none⟩=some (.pointer (some ⟨g,0,none⟩))):=fun w' hb=>(P.grow hb).cells.1
  have HPL:=hidden (pth_ln K hK.1);clear V P
  by_cases h0:h=0
  · have:bb=true:=hbb.2 (.inl h0)
    subst this;have y0:(h:Int)=0:=by omega
    generalize (h:Int)=y at HKD0 HKY0 y0 ⊢;subst y0;clear hbb h0 hk' hK;go_enter Tryz.func244,Tryz.ntmps244
    go_wp2_with ((with_reducible refine at_bxd 5 ?_);refine wpList_bx _ rfl _ _ rfl _ rfl ?_;intro w1 b5 hg5 hl5 B5 q5;have HQ5:=hidden q5;clear hg5 hl5 B5 q5)
    have HS:Hid (∀w',Kb w1 w'→w'.cell? ⟨bp,0,none⟩=some (.pointer (some ⟨g,0,none⟩))):=fun w' hb=>HC.out w' (grow_trans HQ5.out hb)
    have hb0:Kb w1 w1.drew:=below_drewN (Below.refl _ _) 1;refine wp_region_held_drew (S:=fun w'=>w'.cell? ⟨bp,0,none⟩=some (.pointer (some ⟨g,0,none⟩))) (by kernel_rfl) (HS.out _ (below_drewN (Below.refl _ _) 1)) (fun hHeld=>?_);refine tkp 0 (.int .i64 0) hHeld ?_;simp only [Act.put,zq1,zq2,zq4,zq5,zq6];refine tkp 1 (.bool true) hHeld ?_;simp only [Act.put,zq1,zq2,zq3,zq4,zq5,zq6];refine tkp 2 (.bool true) hHeld ?_;simp only [Act.put,zq1,zq2,zq3,zq4,zq5,zq6];refine tks 3 hHeld ?_;simp only [Act.put,zq1,zq2,zq3,zq4,zq5,zq6];refine tks 4 hHeld ?_;simp only [Act.put,zq1,zq2,zq3,zq4,zq5,zq6];refine tks 5 hHeld ?_;simp only [Act.put,zq1,zq2,zq3,zq4,zq5,zq6];refine tks 6 hHeld ?_;simp only [Act.put,zq1,zq2,zq3,zq4,zq5,zq6];refine tks 7 hHeld ?_;simp only [Act.put,zq1,zq2,zq3,zq4,zq5,zq6];refine tks 8 hHeld ?_;simp only [Act.put,zq1,zq2,zq3,zq4,zq5,zq6];refine tks 9 hHeld ?_;simp only [Act.put,zq1,zq2,zq3,zq4,zq5,zq6];refine tks 10 hHeld ?_;simp only [Act.put,zq1,zq2,zq3,zq4,zq5,zq6];refine tks 11 hHeld ?_;simp only [Act.put,zq1,zq2,zq3,zq4,zq5,zq6];refine tks 12 hHeld ?_;simp only [Act.put,zq1,zq2,zq3,zq4,zq5,zq6];refine tks 13 hHeld ?_;simp only [Act.put,zq1,zq2,zq3,zq4,zq5,zq6];refine tks 14 hHeld ?_;simp only [Act.put,zq1,zq2,zq3,zq4,zq5,zq6];refine tks 15 hHeld ?_;simp only [Act.put,zq1,zq2,zq3,zq4,zq5,zq6];refine tks 16 hHeld ?_;simp only [Act.put,zq1,zq2,zq3,zq4,zq5,zq6];refine tks 17 hHeld ?_;simp only [Act.put,zq1,zq2,zq3,zq4,zq5,zq6];refine tks 18 hHeld ?_;simp only [Act.put,zq1,zq2,zq3,zq4,zq5,zq6];refine tks 19 hHeld ?_;simp only [Act.put,zq1,zq2,zq3,zq4,zq5,zq6];refine tkp 20 (.bool true) hHeld ?_;simp only [Act.put,zq1,zq2,zq3,zq4,zq5,zq6];refine tkp 21 (.bool true) hHeld ?_;simp only [Act.put,zq1,zq2,zq3,zq4,zq5,zq6];refine wpAnyH_done (by kernel_rfl) ?_ _;go_wp2
    go_ret;exact ⟨rfl,grow_trans HQ5.out hb0⟩
  · have y0: ¬(h:Int)=0:=by omega
    have y1:((h:Int) == 0)=false:=by simpa using h0
    by_cases hk:(sdC cs h).kind=1
    · have hbe:bb=decide ((sdC cs h).key=K):=by
        have:bb=true↔(sdC cs h).key=K:=hbb.trans ⟨fun p=>(p.resolve_left h0).2,fun e=>.inr ⟨hk,e⟩⟩
        by_cases q:(sdC cs h).key=K
        · rw [decide_eq_true q]
          exact this.2 q
        · rw [decide_eq_false q]
          cases bb with
          | false=>rfl
          | true=>exact absurd (this.1 rfl) q
      have HEQ:Hid (∀w,(Op.equalIn 10000 63 (.agg (B (sdC cs h).key)) (.agg (B K))).run Tryz.prog w=.ok bb w):=fun w=>by rw [hbe];exact path_eq _ _ hk'.1 hK.1 w
      generalize (sdC cs h).key=K' at HKY0 HEQ;generalize (sdC cs h).kind=k at HKD0 hk;subst hk;generalize (h:Int)=y at HKD0 HKY0 y0 y1 ⊢;clear hbb h0 hk' hK hbe;go_enter Tryz.func244,Tryz.ntmps244
      go_wp2_with ((with_reducible refine at_bxd 5 ?_);refine wpList_bx _ rfl _ _ rfl _ rfl ?_;intro w1 b5 hg5 hl5 B5 q5;have HQ5:=hidden q5;have HB5:=hidden B5;clear hg5 hl5 B5 q5)
      have HS:Hid (∀w',Kb w1 w'→w'.cell? ⟨bp,0,none⟩=some (.pointer (some ⟨g,0,none⟩))∧w'.rangeAt b5 0 (B K).toList):=fun w' hb=>⟨HC.out w' (grow_trans HQ5.out hb),(HB5.out.grow hb).range⟩
      have HKD:Hid (Kr w1 149 #[.pointer (some ⟨g,0,none⟩),.int .i64 y] (.int .u8 1)):=fun w' hb=>HKD0.out w' (grow_trans HQ5.out hb)
      have HKY:Hid (Kr w1 150 #[.pointer (some ⟨g,0,none⟩),.int .i64 y] (.agg (B K'))):=fun w' hb=>HKY0.out w' (grow_trans HQ5.out hb)
      have hb0:Kb w1 w1.drew:=below_drewN (Below.refl _ _) 1;refine wp_region_held_drew (S:=fun w'=>w'.cell? ⟨bp,0,none⟩=some (.pointer (some ⟨g,0,none⟩))∧w'.rangeAt b5 0 (B K).toList) (by kernel_rfl) (HS.out _ (below_drewN (Below.refl _ _) 1)) (fun hHeld=>?_);refine tkp 0 (.int .i64 y) hHeld ?_;simp only [Act.put,zq1,zq2,zq4,zq5,zq6];refine tkp 1 (.bool false) hHeld ?_;simp only [Act.put,zq1,zq2,zq3,zq4,zq5,zq6];refine tkp 2 (.bool false) hHeld ?_;simp only [Act.put,zq1,zq2,zq3,zq4,zq5,zq6];refine tkp 3 (.pointer (some ⟨bp,0,none⟩)) hHeld ?_;simp only [Act.put,zq1,zq2,zq3,zq4,zq5,zq6];refine tkp 4 (.pointer (some ⟨bp,0,none⟩)) hHeld ?_;simp only [Act.put,zq1,zq2,zq3,zq4,zq5,zq6];refine tkp 5 (.pointer (some ⟨bp,0,none⟩)) hHeld ?_;simp only [Act.put,zq1,zq2,zq3,zq4,zq5,zq6];refine tkg 6 (.pointer (some ⟨g,0,none⟩)) rfl (Or.inl ⟨by rfl,fun w hS=>by (have q1:=hS.1;go_simp)⟩) hHeld ?_;simp only [Act.put,zq1,zq2,zq3,zq4,zq5,zq6];refine tkp 7 (.int .i64 y) hHeld ?_;simp only [Act.put,zq1,zq2,zq3,zq4,zq5,zq6];refine wpAnyH_ready (rs:=[8]) (by kernel_rfl) (by simp) ?_;refine AllReadyH.cons rfl (fun KQ hK=>?_) AllReadyH.nil;go_simp;refine (HKD.out _ hb0).mono ?_;rintro e x1 ⟨rfl,a1⟩;have hb1:=grow_trans hb0 a1;refine hK.out _ _ (HS.out _ hb1) (fun hHeld=>?_);clear hK KQ;refine tkp 9 (.bool true) hHeld ?_;simp only [Act.put,zq1,zq2,zq3,zq4,zq5,zq6];refine tkp 10 (.bool true) hHeld ?_;simp only [Act.put,zq1,zq2,zq3,zq4,zq5,zq6];refine tkp 11 (.pointer (some ⟨bp,0,none⟩)) hHeld ?_;simp only [Act.put,zq1,zq2,zq3,zq4,zq5,zq6];refine tkp 12 (.pointer (some ⟨bp,0,none⟩)) hHeld ?_;simp only [Act.put,zq1,zq2,zq3,zq4,zq5,zq6];refine tkp 13 (.pointer (some ⟨bp,0,none⟩)) hHeld ?_;simp only [Act.put,zq1,zq2,zq3,zq4,zq5,zq6];refine tkg 14 (.pointer (some ⟨g,0,none⟩)) rfl (Or.inl ⟨by rfl,fun w hS=>by (have q1:=hS.1;go_simp)⟩) hHeld ?_;simp only [Act.put,zq1,zq2,zq3,zq4,zq5,zq6];refine tkp 15 (.int .i64 y) hHeld ?_;simp only [Act.put,zq1,zq2,zq3,zq4,zq5,zq6];refine tkg 17 (.agg (B K)) rfl (yieldsIf_load_mid rfl 63 (.tmp 5) rfl b5 0 rfl (B K).toList _ (fun w hS=>hS.2) Tryz.underlying63 rfl HPL.out) hHeld ?_;simp only [Act.put,zq1,zq2,zq3,zq4,zq5,zq6];refine wpAnyH_ready (rs:=[16]) (by kernel_rfl) (by simp) ?_;refine AllReadyH.cons rfl (fun KQ hK=>?_) AllReadyH.nil;go_simp;refine (HKY.out _ hb1).mono ?_;rintro e x2 ⟨rfl,a2⟩;have hb2:=grow_trans hb1 a2;refine hK.out _ _ (HS.out _ hb2) (fun hHeld=>?_);clear hK KQ;refine tkg 18 (.bool bb) rfl (Or.inl ⟨by rfl,fun w hS=>by (have q1:=HEQ.out w;go_simp)⟩) hHeld ?_;simp only [Act.put,zq1,zq2,zq3,zq4,zq5,zq6];refine tkp 19 (.bool bb) hHeld ?_;simp only [Act.put,zq1,zq2,zq3,zq4,zq5,zq6];refine tkp 20 (.bool bb) hHeld ?_;simp only [Act.put,zq1,zq2,zq3,zq4,zq5,zq6];refine tkp 21 (.bool bb) hHeld ?_;simp only [Act.put,zq1,zq2,zq3,zq4,zq5,zq6];refine wpAnyH_done (by kernel_rfl) ?_ _;go_wp2
      go_ret;exact ⟨rfl,grow_trans HQ5.out hb2⟩
    · have:bb=false:=by
        cases bb with
        | false=>rfl
        | true=>exact absurd ((hbb.1 rfl).resolve_left h0).1 hk
      subst this;generalize (sdC cs h).kind=k at HKD0 hk;have hk2:(k == 1)=false:=by simpa using hk
      generalize (h:Int)=y at HKD0 HKY0 y0 y1 ⊢;clear hbb h0 hk' hK HKY0;go_enter Tryz.func244,Tryz.ntmps244
      go_wp2_with ((with_reducible refine at_bxd 5 ?_);refine wpList_bx _ rfl _ _ rfl _ rfl ?_;intro w1 b5 hg5 hl5 B5 q5;have HQ5:=hidden q5;clear hg5 hl5 B5 q5)
      have HS:Hid (∀w',Kb w1 w'→w'.cell? ⟨bp,0,none⟩=some (.pointer (some ⟨g,0,none⟩))):=fun w' hb=>HC.out w' (grow_trans HQ5.out hb)
      have HKD:Hid (Kr w1 149 #[.pointer (some ⟨g,0,none⟩),.int .i64 y] (.int .u8 k)):=fun w' hb=>HKD0.out w' (grow_trans HQ5.out hb)
      have hb0:Kb w1 w1.drew:=below_drewN (Below.refl _ _) 1;refine wp_region_held_drew (S:=fun w'=>w'.cell? ⟨bp,0,none⟩=some (.pointer (some ⟨g,0,none⟩))) (by kernel_rfl) (HS.out _ (below_drewN (Below.refl _ _) 1)) (fun hHeld=>?_);refine tkp 0 (.int .i64 y) hHeld ?_;simp only [Act.put,zq1,zq2,zq4,zq5,zq6];refine tkp 1 (.bool false) hHeld ?_;simp only [Act.put,zq1,zq2,zq3,zq4,zq5,zq6];refine tkp 2 (.bool false) hHeld ?_;simp only [Act.put,zq1,zq2,zq3,zq4,zq5,zq6];refine tkp 3 (.pointer (some ⟨bp,0,none⟩)) hHeld ?_;simp only [Act.put,zq1,zq2,zq3,zq4,zq5,zq6];refine tkp 4 (.pointer (some ⟨bp,0,none⟩)) hHeld ?_;simp only [Act.put,zq1,zq2,zq3,zq4,zq5,zq6];refine tkp 5 (.pointer (some ⟨bp,0,none⟩)) hHeld ?_;simp only [Act.put,zq1,zq2,zq3,zq4,zq5,zq6];refine tkg 6 (.pointer (some ⟨g,0,none⟩)) rfl (Or.inl ⟨by rfl,fun w hS=>by (have q1:=hS;go_simp)⟩) hHeld ?_;simp only [Act.put,zq1,zq2,zq3,zq4,zq5,zq6];refine tkp 7 (.int .i64 y) hHeld ?_;simp only [Act.put,zq1,zq2,zq3,zq4,zq5,zq6];refine wpAnyH_ready (rs:=[8]) (by kernel_rfl) (by simp) ?_;refine AllReadyH.cons rfl (fun KQ hK=>?_) AllReadyH.nil;go_simp;refine (HKD.out _ hb0).mono ?_;rintro e x1 ⟨rfl,a1⟩;have hb1:=grow_trans hb0 a1;refine hK.out _ _ (HS.out _ hb1) (fun hHeld=>?_);clear hK KQ;refine tkp 9 (.bool false) hHeld ?_;simp only [Act.put,zq1,zq2,zq3,zq4,zq5,zq6];refine tkp 10 (.bool false) hHeld ?_;simp only [Act.put,zq1,zq2,zq3,zq4,zq5,zq6];refine tks 11 hHeld ?_;simp only [Act.put,zq1,zq2,zq3,zq4,zq5,zq6];refine tks 12 hHeld ?_;simp only [Act.put,zq1,zq2,zq3,zq4,zq5,zq6];refine tks 13 hHeld ?_;simp only [Act.put,zq1,zq2,zq3,zq4,zq5,zq6];refine tks 14 hHeld ?_;simp only [Act.put,zq1,zq2,zq3,zq4,zq5,zq6];refine tks 15 hHeld ?_;simp only [Act.put,zq1,zq2,zq3,zq4,zq5,zq6];refine tks 16 hHeld ?_;simp only [Act.put,zq1,zq2,zq3,zq4,zq5,zq6];refine tks 17 hHeld ?_;simp only [Act.put,zq1,zq2,zq3,zq4,zq5,zq6];refine tks 18 hHeld ?_;simp only [Act.put,zq1,zq2,zq3,zq4,zq5,zq6];refine tkp 19 (.bool false) hHeld ?_;simp only [Act.put,zq1,zq2,zq3,zq4,zq5,zq6];refine tkp 20 (.bool false) hHeld ?_;simp only [Act.put,zq1,zq2,zq3,zq4,zq5,zq6];refine tkp 21 (.bool false) hHeld ?_;simp only [Act.put,zq1,zq2,zq3,zq4,zq5,zq6];refine wpAnyH_done (by kernel_rfl) ?_ _;go_wp2
      go_ret;exact ⟨rfl,grow_trans HQ5.out hb1⟩

end Go.Proofs.YtdjpigfibafokaaGreatDoor

namespace Go.Proofs.YtdjpigfibafokaaGreatDoor
variable {E:List Ent}
variable {K:Lq}
variable {T:Tre}
variable {bp c d f g h m n r top:Nat}
variable {cs cs' cs0 cs1:Lz}
variable {lv:Value}
variable {pend ss:List Nat}
variable {q:Int}
variable {w wa:World}
set_option maxHeartbeats 2000000
set_option maxRecDepth 20000
open Go.RowKit

def BlnPost (wa:World) (bp:Nat) (sv:Value) (q:Int) (ps':List Pn) (e:Ending) (w':World):Prop:=e=.returned (.int .i64 q)∧∃lv',PlM wa w' bp sv ps' lv'

theorem pleaf_gone {ps:List Pn} (P:PlM wa w bp (.pointer (some ⟨g,0,none⟩)) ps lv) (h:Int) (x:Wt) (hx:WtOk x) (hg:x.g=true):Kc 245 #[.pointer (some ⟨bp,0,none⟩),.int .i64 h,.agg (encW x).toArray] w (BlnPost wa bp (.pointer (some ⟨g,0,none⟩)) 0 ps):=by
  have HP:=hidden P;have HPost:Hid (∀w',(∃lv',PlM wa w' bp (.pointer (some ⟨g,0,none⟩)) ps lv')→BlnPost wa bp (.pointer (some ⟨g,0,none⟩)) 0 ps (.returned (.int .i64 0)) w'):=fun w' q=>⟨rfl,q⟩
  have HG:Hid (∀(w':World) (b:Nat),Blk w' b 198 (encW x).toArray→w'.cell? ⟨b,32,none⟩=some (.bool true)):=fun w' b hb=>by
    have:=encW_gone (g:=b) (o:=0) (x:=x) (by have:=hb.range;simpa using this) hx.hk.1;rw [hg] at this;simpa using this
  generalize BlnPost wa bp (.pointer (some ⟨g,0,none⟩)) 0 ps=PP at HPost ⊢;generalize (encW x).toArray=X at HG ⊢;clear P hx hg;go_enter Tryz.func245,Tryz.ntmps245
  go_wp2_with ((with_reducible refine at_bxd 5 ?_);refine wpList_bx _ rfl _ _ rfl _ rfl ?_;intro w1 b5 hg5 hl5 B5 q5;have HQ5:=hidden q5;have c32:=HG.out _ _ B5;clear hg5 hl5 B5 q5)
  exact HPost.out _ ⟨_,HP.out.grow HQ5.out⟩

theorem pleaf_same {ps:List Pn} (P:PlM wa w bp (.pointer (some ⟨g,0,none⟩)) ps lv) (V:Kq [bp] wa fun w'=>Vw w' (.pointer (some ⟨g,0,none⟩)) true (cot cs) (cat cs)) (h:Nat) (h0:h≠0) (x:Wt) (hx:WtOk x) (hg:x.g=false) (hrd:Kq [bp] wa fun w'=>Reads w' x.v x.b) (hs:(sdC cs h).bs=x.b):Kc 245 #[.pointer (some ⟨bp,0,none⟩),.int .i64 (h:Int),.agg (encW x).toArray] w (BlnPost wa bp (.pointer (some ⟨g,0,none⟩)) (h:Int) ps):=by
  have HP:=hidden P;have HPost:Hid (∀w',(∃lv',PlM wa w' bp (.pointer (some ⟨g,0,none⟩)) ps lv')→BlnPost wa bp (.pointer (some ⟨g,0,none⟩)) (h:Int) ps (.returned (.int .i64 (h:Int))) w'):=fun w' q=>⟨rfl,q⟩
  obtain ⟨va,vc,hv⟩:=hx.hv;have HG:Hid (∀(w':World) (b:Nat),Blk w' b 198 (encW x).toArray→w'.cell? ⟨b,32,none⟩=some (.bool false)∧w'.cell? ⟨b,33,none⟩=some (.slice va x.b.length vc)):=fun w' b hb=>by
    have hr:w'.rangeAt b 0 (encW x):=by have:=hb.range;simpa using this
    have h1:=encW_gone hr hx.hk.1;have h2:=encW_val hr hx.hk.1;rw [hg] at h1;rw [hv] at h2;exact ⟨by simpa using h1,by simpa using h2⟩
  have HVL0:Hid (∀w',Kb w w'→Kc 151 #[.pointer (some ⟨g,0,none⟩),.int .i64 (h:Int)] w' fun e w''=>∃v' sp,e=.returned v'∧Own w'.heap.size w'' v' (sdC cs h).bs sp∧Below w'.heap.size w' w''):=fun w' hb=>by
    have:=valueS_any (V _ (P.grow hb).mod) (h:Int);rwa [cat_nat] at this
  have HEQ0:Hid (∀w' v',Reads w' v' (sdC cs h).bs→Kb w w'→Kc 220 #[v',.slice va x.b.length vc] w' fun e w''=>e=.returned (.bool true)∧w''=w'):=fun w' v' hr hb=>by
    have:=equal_any v' (.slice va x.b.length vc) (sdC cs h).bs x.b w' hr (by rw [← hv];exact hrd w' (P.grow hb).mod);rwa [decide_eq_true hs] at this
  have HC:Hid (∀w',Kb w w'→w'.cell? ⟨bp,0,none⟩=some (.pointer (some ⟨g,0,none⟩))):=fun w' hb=>(P.grow hb).cells.1
  have y0: ¬(h:Int)=0:=by omega
  have y1:((h:Int) == 0)=false:=by simpa using h0
  generalize BlnPost wa bp (.pointer (some ⟨g,0,none⟩)) (h:Int) ps=PP at HPost ⊢;generalize (encW x).toArray=X at HG ⊢;generalize (h:Int)=y at HPost HVL0 y0 y1 ⊢;generalize (sdC cs h).bs=bs at HVL0 HEQ0 hs;generalize x.b.length=vn at HG HEQ0;clear P V hx hg hrd hs hv h0;go_enter Tryz.func245,Tryz.ntmps245
  go_wp2_with ((with_reducible refine at_bxd 5 ?_);refine wpList_bx _ rfl _ _ rfl _ rfl ?_;intro w1 b5 hg5 hl5 B5 q5;have HQ5:=hidden q5;have HB5:=hidden B5;obtain ⟨c32,c33⟩:=HG.out _ _ B5;clear hg5 hl5 B5 q5)
  have HS:Hid (∀w',Kb w1 w'→w'.cell? ⟨bp,0,none⟩=some (.pointer (some ⟨g,0,none⟩))∧w'.cell? ⟨b5,33,none⟩=some (.slice va vn vc)):=fun w' hb=>⟨HC.out w' (grow_trans HQ5.out hb),(HG.out _ _ (HB5.out.grow hb)).2⟩
  have HVL:Hid (∀w',Kb w1 w'→Kc 151 #[.pointer (some ⟨g,0,none⟩),.int .i64 y] w' fun e w''=>∃v' sp,e=.returned v'∧Own w'.heap.size w'' v' bs sp∧Below w'.heap.size w' w''):=fun w' hb=>HVL0.out w' (grow_trans HQ5.out hb)
  have HEQ:Hid (∀w' v',Reads w' v' bs→Kb w1 w'→Kc 220 #[v',.slice va vn vc] w' fun e w''=>e=.returned (.bool true)∧w''=w'):=fun w' v' hr hb=>HEQ0.out w' v' hr (grow_trans HQ5.out hb)
  have hb0:Kb w1 w1.drew:=below_drewN (Below.refl _ _) 1;refine wp_region_held_drew (S:=fun w'=>w'.cell? ⟨bp,0,none⟩=some (.pointer (some ⟨g,0,none⟩))∧w'.cell? ⟨b5,33,none⟩=some (.slice va vn vc)) (by kernel_rfl) (HS.out _ (below_drewN (Below.refl _ _) 1)) (fun hHeld=>?_);refine tkp 0 (.int .i64 y) hHeld ?_;simp only [Act.put,zq1,zq2,zq4,zq5,zq6];refine tkp 1 (.bool true) hHeld ?_;simp only [Act.put,zq1,zq2,zq3,zq4,zq5,zq6];refine tkp 2 (.bool true) hHeld ?_;simp only [Act.put,zq1,zq2,zq3,zq4,zq5,zq6];refine tkp 3 (.pointer (some ⟨bp,0,none⟩)) hHeld ?_;simp only [Act.put,zq1,zq2,zq3,zq4,zq5,zq6];refine tkp 4 (.pointer (some ⟨bp,0,none⟩)) hHeld ?_;simp only [Act.put,zq1,zq2,zq3,zq4,zq5,zq6];refine tkp 5 (.pointer (some ⟨bp,0,none⟩)) hHeld ?_;simp only [Act.put,zq1,zq2,zq3,zq4,zq5,zq6];refine tkg 6 (.pointer (some ⟨g,0,none⟩)) rfl (Or.inl ⟨by rfl,fun w hS=>by (have q1:=hS.1;go_simp)⟩) hHeld ?_;simp only [Act.put,zq1,zq2,zq3,zq4,zq5,zq6];refine tkp 7 (.int .i64 y) hHeld ?_;simp only [Act.put,zq1,zq2,zq3,zq4,zq5,zq6];refine tkp 9 (.pointer (some ⟨b5,33,none⟩)) hHeld ?_;simp only [Act.put,zq1,zq2,zq3,zq4,zq5,zq6];refine tkg 10 (.slice va vn vc) rfl (Or.inl ⟨by rfl,fun w hS=>by (have q1:=hS.2;go_simp)⟩) hHeld ?_;simp only [Act.put,zq1,zq2,zq3,zq4,zq5,zq6];refine wpAnyH_ready (rs:=[8]) (by kernel_rfl) (by simp) ?_;refine AllReadyH.cons rfl (fun KQ hK=>?_) AllReadyH.nil;go_simp;refine (HVL.out _ hb0).mono ?_;rintro e x1 ⟨v',sp,rfl,o1,a1⟩;have hb1:=grow_trans hb0 a1;refine hK.out _ _ (HS.out _ hb1) (fun hHeld=>?_);clear hK KQ;refine wpAnyH_ready (rs:=[11]) (by kernel_rfl) (by simp) ?_;refine AllReadyH.cons rfl (fun KQ hK=>?_) AllReadyH.nil;go_simp;refine (HEQ.out _ _ o1.reads hb1).mono ?_;rintro e x2 ⟨rfl,hx⟩;rw [hx];clear hx x2;refine hK.out _ _ (HS.out _ hb1) (fun hHeld=>?_);clear hK KQ;refine tkp 12 (.bool true) hHeld ?_;simp only [Act.put,zq1,zq2,zq3,zq4,zq5,zq6];refine tkp 13 (.bool true) hHeld ?_;simp only [Act.put,zq1,zq2,zq3,zq4,zq5,zq6];refine wpAnyH_done (by kernel_rfl) ?_ _;go_wp2
  exact HPost.out _ ⟨_,HP.out.grow (grow_trans HQ5.out hb1)⟩

theorem pleaf_new {ps:List Pn} (P:PlM wa w bp (.pointer (some ⟨g,0,none⟩)) ps lv) (V:Kq [bp] wa fun w'=>Vw w' (.pointer (some ⟨g,0,none⟩)) true (cot cs) (cat cs)) (h:Nat) (x:Wt) (hx:WtOk x) (hg:x.g=false) (hrd:Kq [bp] wa fun w'=>Reads w' x.v x.b) (hs: ¬(h≠0∧(sdC cs h).bs=x.b)) (h6:ps.length+1≤65536):Kc 245 #[.pointer (some ⟨bp,0,none⟩),.int .i64 (h:Int),.agg (encW x).toArray] w (BlnPost wa bp (.pointer (some ⟨g,0,none⟩)) (-((ps.length:Int)+1)) (ps++[pnL x])):=by
  obtain ⟨qq,hqq⟩:∃q,q= -((ps.length:Int)+1):=⟨_,rfl⟩;obtain ⟨va,vc,hv⟩:=hx.hv;have HG:Hid (∀(w':World) (b:Nat),Blk w' b 198 (encW x).toArray→w'.cell? ⟨b,32,none⟩=some (.bool false)∧w'.cell? ⟨b,33,none⟩=some (.slice va x.b.length vc)):=fun w' b hb=>by
    have hr:w'.rangeAt b 0 (encW x):=by have:=hb.range;simpa using this
    have h1:=encW_gone hr hx.hk.1;have h2:=encW_val hr hx.hk.1;rw [hg] at h1;rw [hv] at h2;exact ⟨by simpa using h1,by simpa using h2⟩
  have HAD:Hid (∀w',Kb w w'→Kc 275 #[.pointer (some ⟨bp,0,none⟩),.agg (encPl (pnL x)).toArray] w' fun e w''=>e=.returned (.int .i64 qq)∧BlnPost wa bp (.pointer (some ⟨g,0,none⟩)) qq (ps++[pnL x]) (.returned (.int .i64 qq)) w''):=fun w' hb=>(padd_any (P.grow hb) (pnL x) hx h6).mono fun e w'' ⟨e1,e2⟩=>⟨by rw [hqq];exact e1,rfl,e2⟩
  have HBU:=hidden (built_pnL x hx);have HSZ:Hid ((Tryz.prog.info? 198).map (·.size)=some (encW x).toArray.size):=by show _=_;rw [List.size_toArray,hx.len];exact size_write
  have HUW:Hid (∃fs,Tryz.prog.underlying 198=some (.struct fs)):=u_write;obtain ⟨fs,hfs⟩:=HUW.out;have HFS:=hidden hfs;have HVL0:Hid (∀w',Kb w w'→Kc 151 #[.pointer (some ⟨g,0,none⟩),.int .i64 (h:Int)] w' fun e w''=>∃v' sp,e=.returned v'∧Own w'.heap.size w'' v' (sdC cs h).bs sp∧Below w'.heap.size w' w''):=fun w' hb=>by
    have:=valueS_any (V _ (P.grow hb).mod) (h:Int);rwa [cat_nat] at this
  have HEQ0:Hid (h≠0→∀w' v',Reads w' v' (sdC cs h).bs→Kb w w'→Kc 220 #[v',.slice va x.b.length vc] w' fun e w''=>e=.returned (.bool false)∧w''=w'):=fun h0 w' v' hr hb=>by
    have:=equal_any v' (.slice va x.b.length vc) (sdC cs h).bs x.b w' hr (by rw [← hv];exact hrd w' (P.grow hb).mod);rwa [decide_eq_false (fun e=>hs ⟨h0,e⟩)] at this
  have HC:Hid (∀w',Kb w w'→w'.cell? ⟨bp,0,none⟩=some (.pointer (some ⟨g,0,none⟩))):=fun w' hb=>(P.grow hb).cells.1
  rw [← hqq];generalize BlnPost wa bp (.pointer (some ⟨g,0,none⟩)) qq (ps++[pnL x])=PP at HAD ⊢;generalize (encPl (pnL x)).toArray=XP at HAD HBU;generalize (encW x).toArray=X at HG HBU HSZ ⊢;generalize (sdC cs h).bs=bs at HVL0 HEQ0 hs;generalize x.b.length=vn at HG HEQ0;clear P V hx hg hrd hs hv h6 HUW hfs hqq
  by_cases h0:h=0
  · have y0:(h:Int)=0:=by omega
    generalize (h:Int)=y at HVL0 y0 ⊢;subst y0;clear h0 HEQ0 HVL0;go_enter Tryz.func245,Tryz.ntmps245
    go_wp2_with ((with_reducible refine at_bxd 5 ?_);refine wpList_bx _ rfl _ _ rfl _ rfl ?_;intro w1 b5 hg5 hl5 B5 q5;have HQ5:=hidden q5;have HB5:=hidden B5;obtain ⟨c32,c33⟩:=HG.out _ _ B5;clear hg5 hl5 B5 q5)
    have HS:Hid (∀w',Kb w1 w'→w'.cell? ⟨bp,0,none⟩=some (.pointer (some ⟨g,0,none⟩))∧w'.cell? ⟨b5,33,none⟩=some (.slice va vn vc)):=fun w' hb=>⟨HC.out w' (grow_trans HQ5.out hb),(HG.out _ _ (HB5.out.grow hb)).2⟩
    have hb0:Kb w1 w1.drew:=below_drewN (Below.refl _ _) 1;refine wp_region_held_drew (S:=fun w'=>w'.cell? ⟨bp,0,none⟩=some (.pointer (some ⟨g,0,none⟩))∧w'.cell? ⟨b5,33,none⟩=some (.slice va vn vc)) (by kernel_rfl) (HS.out _ (below_drewN (Below.refl _ _) 1)) (fun hHeld=>?_);refine tkp 0 (.int .i64 0) hHeld ?_;simp only [Act.put,zq1,zq2,zq4,zq5,zq6];refine tkp 1 (.bool false) hHeld ?_;simp only [Act.put,zq1,zq2,zq3,zq4,zq5,zq6];refine tkp 2 (.bool false) hHeld ?_;simp only [Act.put,zq1,zq2,zq3,zq4,zq5,zq6];refine tks 3 hHeld ?_;simp only [Act.put,zq1,zq2,zq3,zq4,zq5,zq6];refine tks 4 hHeld ?_;simp only [Act.put,zq1,zq2,zq3,zq4,zq5,zq6];refine tks 5 hHeld ?_;simp only [Act.put,zq1,zq2,zq3,zq4,zq5,zq6];refine tks 6 hHeld ?_;simp only [Act.put,zq1,zq2,zq3,zq4,zq5,zq6];refine tks 7 hHeld ?_;simp only [Act.put,zq1,zq2,zq3,zq4,zq5,zq6];refine tks 8 hHeld ?_;simp only [Act.put,zq1,zq2,zq3,zq4,zq5,zq6];refine tks 9 hHeld ?_;simp only [Act.put,zq1,zq2,zq3,zq4,zq5,zq6];refine tks 10 hHeld ?_;simp only [Act.put,zq1,zq2,zq3,zq4,zq5,zq6];refine tks 11 hHeld ?_;simp only [Act.put,zq1,zq2,zq3,zq4,zq5,zq6];refine tkp 12 (.bool false) hHeld ?_;simp only [Act.put,zq1,zq2,zq3,zq4,zq5,zq6];refine tkp 13 (.bool false) hHeld ?_;simp only [Act.put,zq1,zq2,zq3,zq4,zq5,zq6];refine wpAnyH_done (by kernel_rfl) ?_ _;have HB6:=hidden (HB5.out.grow hb0);have HQ6:=hidden (grow_trans HQ5.out hb0);clear hHeld hb0
    go_wp2_with (first
      |((with_reducible refine at_ldd 26 5 ?_);refine wpList_lds _ rfl _ _ rfl b5 _ _ rfl HB6.out HFS.out HSZ.out ?_)
      |((with_reducible refine at_bdd 27 ?_);refine wpList_bld _ rfl _ _ rfl _ (by rw [List.map_toArray];exact HBU.out) ?_)
      |(go_at_call 275;refine (HAD.out _ HQ6.out).mono ?_;rintro e w3 ⟨rfl,ha⟩;have HA:=hidden ha;clear ha))
    exact HA.out
  · have y0: ¬(h:Int)=0:=by omega
    have y1:((h:Int) == 0)=false:=by simpa using h0
    have HEQ1:=hidden (HEQ0.out h0);generalize (h:Int)=y at HVL0 y0 y1 ⊢;clear h0 HEQ0;go_enter Tryz.func245,Tryz.ntmps245
    go_wp2_with ((with_reducible refine at_bxd 5 ?_);refine wpList_bx _ rfl _ _ rfl _ rfl ?_;intro w1 b5 hg5 hl5 B5 q5;have HQ5:=hidden q5;have HB5:=hidden B5;obtain ⟨c32,c33⟩:=HG.out _ _ B5;clear hg5 hl5 B5 q5)
    have HS:Hid (∀w',Kb w1 w'→w'.cell? ⟨bp,0,none⟩=some (.pointer (some ⟨g,0,none⟩))∧w'.cell? ⟨b5,33,none⟩=some (.slice va vn vc)):=fun w' hb=>⟨HC.out w' (grow_trans HQ5.out hb),(HG.out _ _ (HB5.out.grow hb)).2⟩
    have HVL:Hid (∀w',Kb w1 w'→Kc 151 #[.pointer (some ⟨g,0,none⟩),.int .i64 y] w' fun e w''=>∃v' sp,e=.returned v'∧Own w'.heap.size w'' v' bs sp∧Below w'.heap.size w' w''):=fun w' hb=>HVL0.out w' (grow_trans HQ5.out hb)
    have HEQ:Hid (∀w' v',Reads w' v' bs→Kb w1 w'→Kc 220 #[v',.slice va vn vc] w' fun e w''=>e=.returned (.bool false)∧w''=w'):=fun w' v' hr hb=>HEQ1.out w' v' hr (grow_trans HQ5.out hb)
    have hb0:Kb w1 w1.drew:=below_drewN (Below.refl _ _) 1;refine wp_region_held_drew (S:=fun w'=>w'.cell? ⟨bp,0,none⟩=some (.pointer (some ⟨g,0,none⟩))∧w'.cell? ⟨b5,33,none⟩=some (.slice va vn vc)) (by kernel_rfl) (HS.out _ (below_drewN (Below.refl _ _) 1)) (fun hHeld=>?_);refine tkp 0 (.int .i64 y) hHeld ?_;simp only [Act.put,zq1,zq2,zq4,zq5,zq6];refine tkp 1 (.bool true) hHeld ?_;simp only [Act.put,zq1,zq2,zq3,zq4,zq5,zq6];refine tkp 2 (.bool true) hHeld ?_;simp only [Act.put,zq1,zq2,zq3,zq4,zq5,zq6];refine tkp 3 (.pointer (some ⟨bp,0,none⟩)) hHeld ?_;simp only [Act.put,zq1,zq2,zq3,zq4,zq5,zq6];refine tkp 4 (.pointer (some ⟨bp,0,none⟩)) hHeld ?_;simp only [Act.put,zq1,zq2,zq3,zq4,zq5,zq6];refine tkp 5 (.pointer (some ⟨bp,0,none⟩)) hHeld ?_;simp only [Act.put,zq1,zq2,zq3,zq4,zq5,zq6];refine tkg 6 (.pointer (some ⟨g,0,none⟩)) rfl (Or.inl ⟨by rfl,fun w hS=>by (have q1:=hS.1;go_simp)⟩) hHeld ?_;simp only [Act.put,zq1,zq2,zq3,zq4,zq5,zq6];refine tkp 7 (.int .i64 y) hHeld ?_;simp only [Act.put,zq1,zq2,zq3,zq4,zq5,zq6];refine tkp 9 (.pointer (some ⟨b5,33,none⟩)) hHeld ?_;simp only [Act.put,zq1,zq2,zq3,zq4,zq5,zq6];refine tkg 10 (.slice va vn vc) rfl (Or.inl ⟨by rfl,fun w hS=>by (have q1:=hS.2;go_simp)⟩) hHeld ?_;simp only [Act.put,zq1,zq2,zq3,zq4,zq5,zq6];refine wpAnyH_ready (rs:=[8]) (by kernel_rfl) (by simp) ?_;refine AllReadyH.cons rfl (fun KQ hK=>?_) AllReadyH.nil;go_simp;refine (HVL.out _ hb0).mono ?_;rintro e x1 ⟨v',sp,rfl,o1,a1⟩;have hb1:=grow_trans hb0 a1;refine hK.out _ _ (HS.out _ hb1) (fun hHeld=>?_);clear hK KQ;refine wpAnyH_ready (rs:=[11]) (by kernel_rfl) (by simp) ?_;refine AllReadyH.cons rfl (fun KQ hK=>?_) AllReadyH.nil;go_simp;refine (HEQ.out _ _ o1.reads hb1).mono ?_;rintro e x2 ⟨rfl,hx⟩;rw [hx];clear hx x2;refine hK.out _ _ (HS.out _ hb1) (fun hHeld=>?_);clear hK KQ;refine tkp 12 (.bool false) hHeld ?_;simp only [Act.put,zq1,zq2,zq3,zq4,zq5,zq6];refine tkp 13 (.bool false) hHeld ?_;simp only [Act.put,zq1,zq2,zq3,zq4,zq5,zq6];refine wpAnyH_done (by kernel_rfl) ?_ _;have HB6:=hidden (HB5.out.grow hb1);have HQ6:=hidden (grow_trans HQ5.out hb1);clear hHeld hb0 hb1 o1 a1
    go_wp2_with (first
      |((with_reducible refine at_ldd 26 5 ?_);refine wpList_lds _ rfl _ _ rfl b5 _ _ rfl HB6.out HFS.out HSZ.out ?_)
      |((with_reducible refine at_bdd 27 ?_);refine wpList_bld _ rfl _ _ rfl _ (by rw [List.map_toArray];exact HBU.out) ?_)
      |(go_at_call 275;refine (HAD.out _ HQ6.out).mono ?_;rintro e w3 ⟨rfl,ha⟩;have HA:=hidden ha;clear ha))
    exact HA.out

theorem jn_r {ps:List Pn} {a b:Int} (d:Nat) (h:a=0∧kdP cs ps b≠2):jnQ cs ps a b=b∧jnP cs ps d a b=ps:=⟨if_pos h,if_pos h⟩
theorem jn_l {ps:List Pn} {a b:Int} (d:Nat) (h1: ¬(a=0∧kdP cs ps b≠2)) (h:b=0∧kdP cs ps a≠2):jnQ cs ps a b=a∧jnP cs ps d a b=ps:=⟨(if_neg h1).trans (if_pos h),(if_neg h1).trans (if_pos h)⟩
theorem jn_i {ps:List Pn} {a b:Int} (d:Nat) (h1: ¬(a=0∧kdP cs ps b≠2)) (h: ¬(b=0∧kdP cs ps a≠2)):jnQ cs ps a b= -((ps.length:Int)+1)∧jnP cs ps d a b=ps++[pnI d a b]:=⟨(if_neg h1).trans (if_neg h),(if_neg h1).trans (if_neg h)⟩

theorem pjoin_any {ps:List Pn} (P:PlM wa w bp (.pointer (some ⟨g,0,none⟩)) ps lv) (V:Kq [bp] wa fun w'=>Vw w' (.pointer (some ⟨g,0,none⟩)) true (cot cs) (cat cs)) (d:Nat) (a b:Int) (ha:InP ps a) (hb:InP ps b) (h6:ps.length+1≤65536):Kc 248 #[.pointer (some ⟨bp,0,none⟩),.int .i64 (d:Int),.int .i64 a,.int .i64 b] w (BlnPost wa bp (.pointer (some ⟨g,0,none⟩)) (jnQ cs ps a b) (jnP cs ps d a b)):=by
  have h65:ps.length≤65536:=by omega
  have HP:=hidden P;have HIA:Hid (∀w' r,Kb w w'→(r=true↔kdP cs ps a=2)→Kc 277 #[.pointer (some ⟨bp,0,none⟩),.int .i64 a] w' fun e w''=>e=.returned (.bool r)∧Below w'.heap.size w' w''):=fun w' r hw hr=>isInner_any (P.grow hw) V a ha h65 r hr
  have HIB:Hid (∀w' r,Kb w w'→(r=true↔kdP cs ps b=2)→Kc 277 #[.pointer (some ⟨bp,0,none⟩),.int .i64 b] w' fun e w''=>e=.returned (.bool r)∧Below w'.heap.size w' w''):=fun w' r hw hr=>isInner_any (P.grow hw) V b hb h65 r hr
  obtain ⟨qq,hqq⟩:∃q,q= -((ps.length:Int)+1):=⟨_,rfl⟩;have HAD:Hid (∀w',Kb w w'→Kc 275 #[.pointer (some ⟨bp,0,none⟩),.agg (encPl (pnI d a b)).toArray] w' fun e w''=>e=.returned (.int .i64 qq)∧BlnPost wa bp (.pointer (some ⟨g,0,none⟩)) qq (ps++[pnI d a b]) (.returned (.int .i64 qq)) w''):=fun w' hb=>(padd_any (P.grow hb) (pnI d a b) wtZ_ok h6).mono fun e w'' ⟨e1,e2⟩=>⟨by rw [hqq];exact e1,rfl,e2⟩
  have HBU:=hidden (built_pnI d a b);have z2:kdP cs ps 0≠2:=by
    rw [kdP,if_neg (by omega)];show ¬zc.kind=2;decide
  generalize (encPl (pnI d a b)).toArray=XP at HAD HBU
  by_cases a0:a=0
  · subst a0
    by_cases kb:kdP cs ps b=2
    · have b0: ¬b=0:=fun e=>z2 (by rw [← e];exact kb)
      have b1:(b == 0)=false:=by simpa using b0
      obtain ⟨j1,j2⟩:=jn_i (cs:=cs) (ps:=ps) (a:=0) (b:=b) d (fun q=>q.2 kb) (fun q=>b0 q.1);rw [j1,j2,← hqq];clear j1 j2;have HIN:Hid (Kr w 277 #[.pointer (some ⟨bp,0,none⟩),.int .i64 b] (.bool true)):=fun w' hw=>HIB.out w' true hw (by simp [kb])
      generalize BlnPost wa bp (.pointer (some ⟨g,0,none⟩)) qq (ps++[pnI d 0 b])=PP at HAD ⊢;generalize (d:Int)=dd at HBU ⊢;clear P V ha hb h6 h65 HIA HIB hqq z2 kb HP;go_enter Tryz.func248,Tryz.ntmps248
      go_wp2_with (first
        |(go_at_call 277;refine (HIN.out _ (Below.refl _ _)).mono ?_;rintro e w1 ⟨rfl,q1⟩;have HQ1:=hidden q1;clear q1)
        |((with_reducible refine at_bdd 33 ?_);refine wpList_bld _ rfl _ _ rfl _ (by rw [List.map_toArray];exact HBU.out) ?_)
        |(go_at_call 275;refine (HAD.out _ HQ1.out).mono ?_;rintro e w3 ⟨rfl,hA⟩;have HA:=hidden hA;clear hA))
      exact HA.out
    · obtain ⟨j1,j2⟩:=jn_r (cs:=cs) (ps:=ps) (a:=0) (b:=b) d ⟨rfl,kb⟩
      rw [j1,j2];clear j1 j2;have HIN:Hid (Kr w 277 #[.pointer (some ⟨bp,0,none⟩),.int .i64 b] (.bool false)):=fun w' hw=>HIB.out w' false hw (by simp [kb])
      have HPost:Hid (∀w',(∃lv',PlM wa w' bp (.pointer (some ⟨g,0,none⟩)) ps lv')→BlnPost wa bp (.pointer (some ⟨g,0,none⟩)) b ps (.returned (.int .i64 b)) w'):=fun w' q=>⟨rfl,q⟩
      generalize BlnPost wa bp (.pointer (some ⟨g,0,none⟩)) b ps=PP at HPost ⊢;generalize (d:Int)=dd at HBU ⊢;clear P V ha hb h6 h65 HIA HIB hqq z2 kb HAD HBU;go_enter Tryz.func248,Tryz.ntmps248
      go_wp2_with (go_at_call 277;refine (HIN.out _ (Below.refl _ _)).mono ?_;rintro e w1 ⟨rfl,q1⟩;have HQ1:=hidden q1;clear q1)
      exact HPost.out _ ⟨_,HP.out.grow HQ1.out⟩
  · have a1:(a == 0)=false:=by simpa using a0
    by_cases b0:b=0
    · subst b0
      by_cases kA:kdP cs ps a=2
      · obtain ⟨j1,j2⟩:=jn_i (cs:=cs) (ps:=ps) (a:=a) (b:=0) d (fun q=>a0 q.1) (fun q=>q.2 kA)
        rw [j1,j2,← hqq];clear j1 j2;have HIN:Hid (Kr w 277 #[.pointer (some ⟨bp,0,none⟩),.int .i64 a] (.bool true)):=fun w' hw=>HIA.out w' true hw (by simp [kA])
        generalize BlnPost wa bp (.pointer (some ⟨g,0,none⟩)) qq (ps++[pnI d a 0])=PP at HAD ⊢;generalize (d:Int)=dd at HBU ⊢;clear P V ha hb h6 h65 HIA HIB hqq z2 kA HP;go_enter Tryz.func248,Tryz.ntmps248
        go_wp2_with (first
          |(go_at_call 277;refine (HIN.out _ (Below.refl _ _)).mono ?_;rintro e w1 ⟨rfl,q1⟩;have HQ1:=hidden q1;clear q1)
          |((with_reducible refine at_bdd 33 ?_);refine wpList_bld _ rfl _ _ rfl _ (by rw [List.map_toArray];exact HBU.out) ?_)
          |(go_at_call 275;refine (HAD.out _ HQ1.out).mono ?_;rintro e w3 ⟨rfl,hA⟩;have HA:=hidden hA;clear hA))
        exact HA.out
      · obtain ⟨j1,j2⟩:=jn_l (cs:=cs) (ps:=ps) (a:=a) (b:=0) d (fun q=>a0 q.1) ⟨rfl,kA⟩
        rw [j1,j2];clear j1 j2;have HIN:Hid (Kr w 277 #[.pointer (some ⟨bp,0,none⟩),.int .i64 a] (.bool false)):=fun w' hw=>HIA.out w' false hw (by simp [kA])
        have HPost:Hid (∀w',(∃lv',PlM wa w' bp (.pointer (some ⟨g,0,none⟩)) ps lv')→BlnPost wa bp (.pointer (some ⟨g,0,none⟩)) a ps (.returned (.int .i64 a)) w'):=fun w' q=>⟨rfl,q⟩
        generalize BlnPost wa bp (.pointer (some ⟨g,0,none⟩)) a ps=PP at HPost ⊢;generalize (d:Int)=dd at HBU ⊢;clear P V ha hb h6 h65 HIA HIB hqq z2 kA HAD HBU;go_enter Tryz.func248,Tryz.ntmps248
        go_wp2_with (go_at_call 277;refine (HIN.out _ (Below.refl _ _)).mono ?_;rintro e w1 ⟨rfl,q1⟩;have HQ1:=hidden q1;clear q1)
        exact HPost.out _ ⟨_,HP.out.grow HQ1.out⟩
    · have b1:(b == 0)=false:=by simpa using b0
      obtain ⟨j1,j2⟩:=jn_i (cs:=cs) (ps:=ps) (a:=a) (b:=b) d (fun q=>a0 q.1) (fun q=>b0 q.1);rw [j1,j2,← hqq];clear j1 j2;generalize BlnPost wa bp (.pointer (some ⟨g,0,none⟩)) qq (ps++[pnI d a b])=PP at HAD ⊢;generalize (d:Int)=dd at HBU ⊢;clear P V ha hb h6 h65 HIA HIB hqq z2 HP;go_enter Tryz.func248,Tryz.ntmps248
      go_wp2_with (first
        |((with_reducible refine at_bdd 33 ?_);refine wpList_bld _ rfl _ _ rfl _ (by rw [List.map_toArray];exact HBU.out) ?_)
        |(go_at_call 275;refine (HAD.out _ (Below.refl _ _)).mono ?_;rintro e w3 ⟨rfl,hA⟩;have HA:=hidden hA;clear hA))
      exact HA.out

end Go.Proofs.YtdjpigfibafokaaGreatDoor

namespace Go.Proofs.YtdjpigfibafokaaGreatDoor
variable {E:List Ent}
variable {K:Lq}
variable {T:Tre}
variable {bp c d f g h m n r top:Nat}
variable {cs cs' cs0 cs1:Lz}
variable {lv:Value}
variable {pend ss:List Nat}
variable {q:Int}
variable {w wa:World}
set_option maxHeartbeats 2000000
set_option maxRecDepth 20000
open Go.RowKit

def dE (E:List Ent) (K:Lq) (d:Nat):List Ent:=E.filter fun e=>shr K d e && !(e.1 == K)

theorem dE_step (E:List Ent) (K:Lq) (d:Nat):(dE E K (d+1)++bsE E K d).Perm (dE E K d):=by
  have h:=wE_step E K [] d;unfold wE at h;rw [List.cons_append] at h;exact List.Perm.cons_inv h
theorem dE_zero (E:List Ent) (K:Lq):dE E K 0=E.filter fun e=>!(e.1 == K):=by simp [dE,shr]
theorem dE_len (E:List Ent) (K:Lq) (d:Nat):(dE E K (d+1)).length+(bsE E K d).length=(dE E K d).length:=by
  rw [← List.length_append];exact (dE_step E K d).length_eq
theorem dE_mono (E:List Ent) (K:Lq):∀n d,(dE E K (d+n)).length≤(dE E K d).length
  | 0,d=>Nat.le_refl _
  | n+1,d=>by
    have h1:=dE_mono E K n d;have h2:=dE_len E K (d+n);rw [show d+(n+1)=d+n+1 by omega];omega

def shk (kd:Nat→Int) (os:List Nat):Nat→Nat→Nat×Nat
  | 0,f=>(0,f)
  | m+1,f=>if os.getD m 0=0 then shk kd os m f else if f=0∧kd (os.getD m 0)=1 then shk kd os m (os.getD m 0) else (m+1,f)

theorem shk_le (kd:Nat→Int) (os:List Nat):∀(m f:Nat),(shk kd os m f).1≤m
  | 0,f=>Nat.le_refl _
  | m+1,f=>by
    rw [shk];split
    · have:=shk_le kd os m f;omega
    · split
      · have:=shk_le kd os m (os.getD m 0);omega
      · exact Nat.le_refl _

structure DesOk (cs:Lz) (E:List Ent) (K:Lq) (f:Nat) (ss:List Nat):Prop where
  len:ss.length≤256
  side:∀d,d<ss.length→∃V,IsT cs (ss.getD d 0) V∧V.ents=bsE E K d∧((sdC cs (ss.getD d 0)).kind=2→(sdC cs (ss.getD d 0)).dp=d+1)
  low:∃U,IsT cs f U∧U.ents.Perm (dE E K ss.length)
  kind:(sdC cs f).kind≠2
  two:0<ss.length→2≤(dE E K (ss.length-1)).length

theorem IsT.pos (w:Wf cs pend) {h:Nat} {T:Tre} (hT:IsT cs h T) (h0:h≠0):1≤T.ents.length:=by
  have:=(tree_ok w T h hT).pos h0;exact List.length_pos_iff.2 this
theorem IsT.none (hT:IsT cs 0 T):T=.emp:=IsT.one hT (show IsT cs 0 .emp from rfl)

theorem take_getD (os:List Nat) (m d:Nat) (h:d<m):(os.take m).getD d 0=os.getD d 0:=by
  rw [List.getD_eq_getElem?_getD,List.getD_eq_getElem?_getD,List.getElem?_take_of_lt h]

theorem shk_ok {cs:Lz} {pend:List Nat} (w:Wf cs pend) {E:List Ent} {K:Lq} {os:List Nat} (h256:os.length≤256) (side:∀d,d<os.length→∃V,IsT cs (os.getD d 0) V∧V.ents=bsE E K d∧((sdC cs (os.getD d 0)).kind=2→(sdC cs (os.getD d 0)).dp=d+1)):
    ∀(m f:Nat) (U:Tre),m≤os.length→IsT cs f U→U.ents.Perm (dE E K m)→(sdC cs f).kind≠2→DesOk cs E K (shk (fun h=>(sdC cs h).kind) os m f).2 (os.take (shk (fun h=>(sdC cs h).kind) os m f).1)
  | 0,f,U,_,hU,hp,hk=>by
    refine ⟨by simp [shk],fun d hd=>by simp [shk] at hd,⟨U,hU,by simpa [shk] using hp⟩,hk,fun h=>by simp [shk] at h⟩
  | m+1,f,U,hm,hU,hp,hk=>by
    obtain ⟨V,v1,v2,v3⟩:=side m (by omega);have hst:=dE_step E K m;rw [shk]
    by_cases h0:os.getD m 0=0
    · rw [if_pos h0]
      rw [h0] at v1;have ve:=v1.none;subst ve;rw [← v2] at hst;refine shk_ok w h256 side m f U (by omega) hU ?_ hk;refine hp.trans ?_;have:Tre.emp.ents=[]:=rfl;rw [this,List.append_nil] at hst;exact hst
    · rw [if_neg h0]
      by_cases h1:f=0∧(sdC cs (os.getD m 0)).kind=1
      · rw [if_pos h1]
        obtain ⟨rfl,h1⟩:=h1;have ue:=hU.none;subst ue;have hn:dE E K (m+1)=[]:=(List.perm_nil.1 (hp.symm.trans (by exact List.Perm.refl [])));rw [hn,List.nil_append,← v2] at hst;exact shk_ok w h256 side m _ V (by omega) v1 hst (by rw [h1];decide)
      · rw [if_neg h1]
        have hl:(os.take (m+1)).length=m+1:=by rw [List.length_take];omega
        refine ⟨by rw [hl];omega,fun d hd=>?_,⟨U,hU,by rw [hl];exact hp⟩,hk,fun _=>?_⟩
        · rw [hl] at hd
          rw [take_getD _ _ _ hd];exact side d (by omega)
        · rw [hl,Nat.add_sub_cancel]
          have q1:=dE_len E K m;rw [← v2,← hp.length_eq] at q1;have q2:=v1.pos w h0
          by_cases f0:f=0
          · have hcc:0<cc cs (os.getD m 0-1):=by
              rcases v1.occ with e | e
              · exact absurd e h0
              · exact e.2
            have es:sdC cs (os.getD m 0)=ce cs (os.getD m 0-1):=if_neg h0;have hkd:=w.kinds (os.getD m 0-1) hcc;rw [← es] at hkd;have k2:(sdC cs (os.getD m 0)).kind=2:=hkd.resolve_left (fun e=>h1 ⟨f0,e⟩);have:2≤V.ents.length:=by
              match V,v1 with
              | .emp,e=>exact absurd e h0
              | .lf _ _,hT=>rw [es] at k2;have:=hT.2.2.1;omega
              | .nd _ _ _ L R,hT=>exact (nd_ok w hT).two
            omega
          · have:=hU.pos w f0
            omega

theorem des_ex (w:Wf cs pend) (K:Lq) {T:Tre} {h:Nat} (hT:IsT cs h T) (hd:(sdC cs h).kind=2→(sdC cs h).dp=0) {b:Lq} (hf:T.efin K=[(K,b)]):
    DesOk cs T.ents K (shk (fun h=>(sdC cs h).kind) (T.oth K) (T.oth K).length 0).2 ((T.oth K).take (shk (fun h=>(sdC cs h).kind) (T.oth K) (T.oth K).length 0).1):=by
  have bo:=bes_own w K hT hd (fun e he=>by rw [hf] at he;rw [List.mem_singleton.1 he]);refine shk_ok w bo.len bo.side _ 0 .emp (Nat.le_refl _) rfl ?_ (by show ¬zc.kind=2;decide);rw [show dE T.ents K (T.oth K).length=[] from bo.none];exact List.Perm.refl _

theorem DesOk.count (h:DesOk cs E K f ss):∀d,d<ss.length↔2≤(dE E K d).length∧d<256:=fun d=>by
  constructor
  · intro hd
    have h2:=h.two (by omega);have h3:=dE_mono E K (ss.length-1-d) d;rw [show d+(ss.length-1-d)=ss.length-1 by omega] at h3;have:=h.len;omega
  · rintro ⟨h2,_⟩
    apply Nat.lt_of_not_le;intro hle;obtain ⟨U,u1,u2⟩:=h.low;have h3:=dE_mono E K (d-ss.length) ss.length;rw [show ss.length+(d-ss.length)=d by omega,← u2.length_eq] at h3;have h4:U.ents.length≤1:=by
      match U,u1 with
      | .emp,_=>simp [Tre.ents]
      | .lf _ _,_=>simp [Tre.ents]
      | .nd _ _ _ _ _,hT=>
        refine absurd ?_ h.kind;rw [sdC,if_neg (by have:=hT.1;omega)];exact hT.2.2.1
    omega

structure DzI (cs0:Lz) (E:List Ent) (K:Lq) (f:Nat) (ss:List Nat) (m:Nat) (cs:Lz) (top:Nat):Prop where
  wf:Wf cs []
  keep:∀i,0<cc cs0 i→0<cc cs i∧Core (ce cs0 i) (ce cs i)
  tree:∃U,IsT cs top U∧U.ents.Perm (dE E K m)
  dp:(sdC cs top).kind=2→(sdC cs top).dp=m
  own:∀i,own cs [] i=own cs0 [] i+(ss.take m).count (i+1)+(if top=i+1 then 1 else 0)
  noc:noc cs+m=noc cs0+ss.length
  cnt:∀i,0<cc cs0 i→cc cs i=cc cs0 i+(f::ss).count (i+1)
  len:cs.length+m≤cs0.length+ss.length

theorem dzi_start (W0:Wf cs0 []) (b:DesOk cs0 E K f ss) (hm:HmOk cs0 (f::ss) cs1):DzI cs0 E K f ss ss.length cs1 f:=by
  have kp:∀i,0<cc cs0 i→0<cc cs1 i∧Core (ce cs0 i) (ce cs1 i):=fun i hi=>by
    rw [hm.cc,hm.ce];exact ⟨by omega,Core.refl _⟩
  have es:sdC cs1 f=sdC cs0 f:=by
    unfold sdC;split
    · rfl
    · rw [hm.ce]
  obtain ⟨U,u1,u2⟩:=b.low;refine ⟨hm.wf,kp,⟨U,u1.keep kp,u2⟩,fun k=>absurd (by rw [← es];exact k) b.kind,fun i=>?_,by rw [hm.noc],fun i _=>hm.cc i,by rw [hm.len];omega⟩;rw [hm.own W0 i,List.take_of_length_le (Nat.le_refl _),List.count_cons];simp only [beq_iff_eq];omega

theorem dzi_fit (b:DesOk cs0 E K f ss) (hm:m<ss.length) (I:DzI cs0 E K f ss (m+1) cs top):
    mayP cs (tl K m top (ss.getD m 0):Int)∧mayP cs (tr K m top (ss.getD m 0):Int)∧∃u,(u=true↔Und (sdC cs (tl K m top (ss.getD m 0))).key (sdC cs (tr K m top (ss.getD m 0))).key (m:Int))∧fitP m (sdC cs (tl K m top (ss.getD m 0))) (sdC cs (tr K m top (ss.getD m 0))) u=true∧
      ∀fr cs',FrOk cs fr→InnR cs fr m (tl K m top (ss.getD m 0)) (tr K m top (ss.getD m 0)) cs'→Wf cs' []→DzI cs0 E K f ss m cs' (tkH cs fr):=by
  obtain ⟨s,hs⟩:∃s,s=ss.getD m 0:=⟨_,rfl⟩;rw [← hs];obtain ⟨V,v1,v2,v3⟩:=b.side m hm;rw [← hs] at v1 v3;obtain ⟨U,u1,u2⟩:=I.tree;have tV:IsT cs s V:=v1.keep I.keep;have kV:(sdC cs s).kind=2→(sdC cs s).dp=m+1:=fun k=>by
    rcases v1.occ with e | ⟨e1,e2⟩
    · rw [e] at k
      exact absurd k (by show ¬zc.kind=2;decide)
    · have hco:=(I.keep _ e2).2
      have e3:sdC cs0 s=ce cs0 (s-1):=if_neg (by omega);rw [sdC,if_neg (by omega),hco] at k ⊢;rw [e3] at v3;exact v3 k
  have hbU:∀e∈U.ents,(∀j,j<m+1→kb e.1 j=kb K j):=fun e he=>by
    have:=(List.mem_filter.1 (u2.mem_iff.1 he)).2;simp only [Bool.and_eq_true] at this;exact shr_iff.1 this.1
  have hbV:∀e∈V.ents,(∀j,j<m→kb e.1 j=kb K j)∧kb e.1 m=1-kb K m:=fun e he=>by
    rw [v2] at he;have:=(List.mem_filter.1 he).2;simp only [Bool.and_eq_true,Bool.not_eq_true',beq_eq_false_iff_ne,ne_eq] at this;refine ⟨shr_iff.1 this.1,?_⟩;have h2:=this.2;rcases kb_two K m with q | q <;> rcases kb_two e.1 m with q2 | q2 <;> omega
  have hperm:(U.ents++V.ents).Perm (dE E K m):=by
    rw [v2];exact (u2.append_right _).trans (dE_step E K m)
  have htwo:2≤(dE E K m).length:=by
    have h1:=b.two (by omega);have h3:=dE_mono E K (ss.length-1-m) m;rw [show m+(ss.length-1-m)=ss.length-1 by omega] at h3;omega
  have hlen:U.ents.length+V.ents.length=(dE E K m).length:=by rw [← List.length_append];exact hperm.length_eq
  have otop:top=0∨0<own cs [] (top-1):=by
    by_cases h0:top=0
    · exact .inl h0
    · refine .inr ?_
      rw [I.own,if_pos (by omega)];omega
  have os:s=0∨0<own cs [] (s-1):=by
    by_cases h0:s=0
    · exact .inl h0
    · refine .inr ?_
      rw [I.own];have:0<(ss.take (m+1)).count (s-1+1):=by
        rw [List.count_pos_iff,show s-1+1=s by omega,List.mem_take_iff_getElem];refine ⟨m,by omega,?_⟩;rw [hs,List.getD_eq_getElem?_getD,List.getElem?_eq_getElem hm];rfl
      omega
  have mt:mayP cs (top:Int):=may_own otop;have ms:mayP cs (s:Int):=may_own os;have hcount:∀i,(ss.take (m+1)).count (i+1)=(ss.take m).count (i+1)+(if s=i+1 then 1 else 0):=fun i=>by
    rw [List.take_add_one,List.getElem?_eq_getElem hm,List.count_append];have e:ss[m]=s:=by rw [hs,List.getD_eq_getElem?_getD,List.getElem?_eq_getElem hm];rfl
    rw [e];simp [List.count_singleton]
  have step:∀(l r:Nat),mayP cs (l:Int)→mayP cs (r:Int)→(∀i,(if l=i+1 then 1 else 0)+(if r=i+1 then 1 else 0)=(if s=i+1 then 1 else 0)+(if top=i+1 then 1 else 0))→(∃L R,IsT cs l L∧IsT cs r R∧(L.ents++R.ents).Perm (dE E K m))→∀fr cs',FrOk cs fr→InnR cs fr m l r cs'→Wf cs' []→DzI cs0 E K f ss m cs' (tkH cs fr):=fun l r ml mr hi ⟨L,R,tL,tR,tp⟩ fr cs' hF hin wf'=>by
    obtain ⟨o1,o2,o3,o4,o5,o6,o7,o8,o9⟩:=own_inner I.wf wf' hF ml mr hin;refine ⟨wf',fun i hi=>⟨(o2 i (I.keep i hi).1).1,(I.keep i hi).2.trans (o2 i (I.keep i hi).1).2⟩,⟨_,o6 L R tL tR,tp⟩,fun _=>o7,fun i=>?_,?_,fun i hi=>?_,by have:=I.len;omega⟩
    · have h1:=o1 i
      have h2:=I.own i;have h3:=hcount i;have h4:=hi i;omega
    · have:=I.noc
      omega
    · have h1:=(I.keep i hi).1
      have hne: ¬i=tkH cs fr-1:=fun e=>by
        rw [e,o4] at h1;omega
      rw [o8,if_neg hne];exact I.cnt i hi
  rcases kb_two K m with q | q
  · have el:tl K m top s=top:=by unfold tl;rw [if_neg (by omega)]
    have er:tr K m top s=s:=by unfold tr;rw [if_neg (by omega)]
    rw [el,er];obtain ⟨u,hu,hf⟩:=two_fit I.wf u1 tV m (by have:=b.len;omega) I.dp kV (fun e he=>by rw [hbU e he m (by omega),q]) (fun e he=>by rw [(hbV e he).2,q];rfl) (by omega) K (fun e he j hj=>hbU e he j (by omega)) (fun e he j hj=>(hbV e he).1 j hj);exact ⟨mt,ms,u,hu,hf,step top s mt ms (fun i=>by omega) ⟨U,V,u1,tV,hperm⟩⟩
  · have el:tl K m top s=s:=by unfold tl;rw [if_pos q]
    have er:tr K m top s=top:=by unfold tr;rw [if_pos q]
    rw [el,er];obtain ⟨u,hu,hf⟩:=two_fit I.wf tV u1 m (by have:=b.len;omega) kV I.dp (fun e he=>by rw [(hbV e he).2,q];rfl) (fun e he=>by rw [hbU e he m (by omega),q]) (by omega) K (fun e he j hj=>(hbV e he).1 j hj) (fun e he j hj=>hbU e he j (by omega));exact ⟨ms,mt,u,hu,hf,step s top ms mt (fun i=>rfl) ⟨V,U,tV,u1,List.perm_append_comm.trans hperm⟩⟩

structure DropOk (cs0:Lz) (E:List Ent) (K:Lq) (root top:Nat) (ss:List Nat) (cs':Lz):Prop where
  wf:Wf cs' []
  tree:∃U,IsT cs' top U∧U.ents.Perm (E.filter fun e=>!(e.1 == K))
  dp:(sdC cs' top).kind=2→(sdC cs' top).dp=0
  own:∀i,own cs' [] i+(if root=i+1 then 1 else 0)=own cs0 [] i+(if top=i+1 then 1 else 0)
  ne:top≠root
  keep:∀h T,IsT cs0 h T→(h=0∨0<cc cs' (h-1))→IsT cs' h T
  noc:noc cs'≤noc cs0+ss.length
  len:cs'.length≤cs0.length+ss.length

theorem drop_ok {b:Lq} (I:DzI cs0 T.ents K f ss 0 cs1 top) (hT:IsT cs0 r T) (hK:(K,b)∈T.ents) (ho:0<own cs0 [] (r-1)) (hr:1≤r) (st:Step cs1 [r] cs' [] n):DropOk cs0 T.ents K r top ss cs':=by
  obtain ⟨U,u1,u2⟩:=I.tree;rw [dE_zero] at u2;have h0:∀i,own cs1 [] i=own cs0 [] i+(if top=i+1 then 1 else 0):=fun i=>by
    have:=I.own i;rw [List.take_zero,List.count_nil] at this;exact this
  have hown:∀i,own cs' [] i+(if r=i+1 then 1 else 0)=own cs0 [] i+(if top=i+1 then 1 else 0):=fun i=>by
    rw [st.own i,← h0 i];exact own_pend hr (by rw [h0];omega)
  have hrt:top≠r:=fun e=>by
    subst e;have:=IsT.one u1 (hT.keep I.keep);subst this;have:=(List.mem_filter.1 (u2.mem_iff.1 hK)).2;simp at this
  have ct:top=0∨0<cc cs' (top-1):=by
    by_cases t0:top=0
    · exact .inl t0
    · refine .inr ?_
      have:=hown (top-1);rw [if_pos (show top=top-1+1 by omega),if_neg (by omega)] at this;unfold Go.Proofs.YtdjpigfibafokaaGreatDoor.own at this;omega
  have tt:=u1.stay st.wf st.keep ct;refine ⟨st.wf,⟨U,tt,u2⟩,fun k=>?_,hown,hrt,fun h X hX hh=>(hX.keep I.keep).stay st.wf st.keep hh,by have:=I.noc;have:=st.noc;omega,by have:=I.len;have:=st.len;omega⟩
  by_cases t0:top=0
  · subst t0
    exact absurd k (by show ¬zc.kind=2;decide)
  · have hc:=(st.keep _ (ct.resolve_left t0)).2
    have hd:=I.dp;rw [sdC,if_neg t0] at k hd ⊢;rw [hc] at k ⊢;exact hd k

end Go.Proofs.YtdjpigfibafokaaGreatDoor

namespace Go.Proofs.YtdjpigfibafokaaGreatDoor
variable {E:List Ent}
variable {K:Lq}
variable {T:Tre}
variable {bp c d f g h m n r top:Nat}
variable {cs cs' cs0 cs1:Lz}
variable {lv:Value}
variable {pend ss:List Nat}
variable {q:Int}
variable {w wa:World}
set_option maxHeartbeats 2000000
set_option maxRecDepth 20000
open Go.RowKit

theorem entW_app (a b:List Wt):entW (a++b)=entW a++entW b:=by simp [entW]
theorem entW_perm {a b:List Wt} (h:a.Perm b):(entW a).Perm (entW b):=(h.filter _).map _
theorem wsd_perm (l:List Wt) (d:Nat):l.Perm (wsd l d 0++wsd l d 1):=by
  have h:=List.filter_append_perm (fun x:Wt=>kb x.k d == 0) l;have e:l.filter (fun x:Wt=>!(kb x.k d == 0))=wsd l d 1:=by
    unfold wsd;congr 1
    funext x
    rcases kb_two x.k d with q | q <;> rw [q] <;> rfl
  rw [e] at h;exact h.symm
theorem wsd_len (l:List Wt) (d:Nat):(wsd l d 0).length+(wsd l d 1).length=l.length:=by
  rw [← List.length_append];exact (wsd_perm l d).length_eq.symm
theorem any_wsd (l:List Wt) (d:Nat) (b:Int) (k:Lq) (hk:kb k d=b):((wsd l d b).any fun x=>x.k == k)=l.any fun x=>x.k == k:=by
  unfold wsd;rw [List.any_filter];congr 1
  funext x
  by_cases e:x.k=k
  · simp [e,hk]
  · have:(x.k == k)=false:=by simpa using e
    simp [this]
theorem ovE_split {EL ER:List Ent} (l:List Wt) {d:Nat} (bl:∀e∈EL,kb e.1 d=0) (br:∀e∈ER,kb e.1 d=1):(ovE (EL++ER) l).Perm (ovE EL (wsd l d 0)++ovE ER (wsd l d 1)):=by
  unfold ovE;rw [List.filter_append];have e1:EL.filter (fun e=>!((wsd l d 0).any fun x=>x.k == e.1))=EL.filter (fun e=>!(l.any fun x=>x.k == e.1)):=List.filter_congr fun e he=>by rw [any_wsd l d 0 e.1 (bl e he)]
  have e2:ER.filter (fun e=>!((wsd l d 1).any fun x=>x.k == e.1))=ER.filter (fun e=>!(l.any fun x=>x.k == e.1)):=List.filter_congr fun e he=>by rw [any_wsd l d 1 e.1 (br e he)]
  rw [e1,e2];have e3:(entW l).Perm (entW (wsd l d 0)++entW (wsd l d 1)):=by
    rw [← entW_app];exact entW_perm (wsd_perm l d)
  generalize EL.filter (fun e=>!(l.any fun x=>x.k == e.1))=A;generalize ER.filter (fun e=>!(l.any fun x=>x.k == e.1))=B;generalize entW (wsd l d 0)=C at e3 ⊢;generalize entW (wsd l d 1)=D at e3 ⊢;refine (e3.append_left (A++B)).trans ?_;rw [List.append_assoc,List.append_assoc];refine List.Perm.append_left A ?_;rw [← List.append_assoc,← List.append_assoc];exact List.perm_append_comm.append_right D
theorem ovE_mem {l:List Wt} {e:Ent} (h:e∈ovE E l):e∈E∨∃x∈l,x.g=false∧e=(x.k,x.b):=by
  rcases List.mem_append.1 h with q | q
  · exact .inl (List.mem_filter.1 q).1
  · obtain ⟨x,hx,rfl⟩:=List.mem_map.1 q
    have h1:=List.mem_filter.1 hx;exact .inr ⟨x,h1.1,by simpa using h1.2,rfl⟩

theorem nds_ok {cs:Lz} (W:Wf cs []):∀(T:Tre) (h d:Nat),IsT cs h T→((sdC cs h).kind=2→(sdC cs h).dp=d)→∀z∈T.nds,z.2≠[]∧(∀e∈z.2,e∈T.ents)∧∀c,z.1=some c→d≤c
  | .emp,_,_,_,_,z,hz=>by cases hz
  | .lf k b,h,d,_,_,z,hz=>by
    obtain rfl:z=(none,[(k,b)]):=by simpa [Tre.nds] using hz
    exact ⟨by simp,fun e he=>he,fun c hc=>by cases hc⟩
  | .nd d hl hr L R,h,d',hT,hd,z,hz=>by
    have n:=nd_ok W hT;obtain ⟨h1,h2,h3,h4,h5,h6,h7,h8⟩:=hT;have es:sdC cs h=ce cs (h-1):=if_neg (by omega);obtain rfl:d=d':=by
      rw [es] at hd;rw [← h4];exact hd h3
    rcases List.mem_cons.1 hz with q | q
    · subst q
      refine ⟨fun e=>?_,fun e he=>he,fun c hc=>by injection hc with hc;omega⟩;have:=n.two;simp only at e;rw [e] at this;simp at this
    · rcases List.mem_append.1 q with q | q
      · obtain ⟨a1,a2,a3⟩:=nds_ok W L hl (d+1) h7 n.kl z q
        exact ⟨a1,fun e he=>List.mem_append_left _ (a2 e he),fun c hc=>by have:=a3 c hc;omega⟩
      · obtain ⟨a1,a2,a3⟩:=nds_ok W R hr (d+1) h8 n.kr z q
        exact ⟨a1,fun e he=>List.mem_append_right _ (a2 e he),fun c hc=>by have:=a3 c hc;omega⟩
theorem pnd_ok {cs:Lz}:∀(G:Gt) (d:Nat),GOk cs d G→∀z∈G.pnd,z.2≠[]∧(∀e∈z.2,e∈G.ents)∧∀c,z.1=some c→d≤c
  | .old _ _,_,_,z,hz=>by cases hz
  | .lf x,d,_,z,hz=>by
    obtain rfl:z=(none,[(x.k,x.b)]):=by simpa [Gt.pnd] using hz
    exact ⟨by simp,fun e he=>he,fun c hc=>by cases hc⟩
  | .nd e L R,d,ok,z,hz=>by
    obtain ⟨rfl,_,k1,k2,_,_,two⟩:=ok;rcases List.mem_cons.1 hz with q | q
    · subst q
      refine ⟨fun e=>?_,fun e he=>he,fun c hc=>by injection hc with hc;omega⟩;simp only at e;rw [e] at two;simp at two
    · rcases List.mem_append.1 q with q | q
      · obtain ⟨a1,a2,a3⟩:=pnd_ok L _ k1 z q
        exact ⟨a1,fun e he=>List.mem_append_left _ (a2 e he),fun c hc=>by have:=a3 c hc;omega⟩
      · obtain ⟨a1,a2,a3⟩:=pnd_ok R _ k2 z q
        exact ⟨a1,fun e he=>List.mem_append_right _ (a2 e he),fun c hc=>by have:=a3 c hc;omega⟩
structure GrOk (cs:Lz) (d h:Nat) (T:Tre) (l:List Wt) (ps:List Pn) (q:Int) (ps':List Pn) (G:Gt):Prop where
  app:∃ns,ps'=ps++ns
  isG:IsG cs ps' ps.length ps'.length q G
  ents:G.ents.Perm (ovE T.ents l)
  ok:GOk cs d G
  new:G.ents.Perm T.ents→q=(h:Int)
  cnt:ps'.length≤ps.length+(257-d) * l.length
  ond:∀z∈G.ond,z∈T.nds
  pnd:∀y∈G.pnd,∀z∈T.nds,y.1=z.1→ ¬y.2.Perm z.2

theorem GrOk.stays {l:List Wt} {ps ps':List Pn} {G:Gt} (g:GrOk cs d h T l ps q ps' G) (hq:0≤q):ps'=ps∧∃U,G=.old q.toNat U∧IsT cs q.toNat U:=by
  obtain ⟨U,u1,u2,u3⟩:=g.isG.nat hq;obtain ⟨ns,e⟩:=g.app;refine ⟨?_,U,u1,u3⟩;have:ns.length=0:=by
    have:=congrArg List.length e;rw [List.length_append] at this;omega
  rw [e,List.eq_nil_of_length_eq_zero this,List.append_nil]
theorem GOk.up {G:Gt} (h:GOk cs d G) (hi: ¬G.isI cs=true):GOk cs c G:=by
  cases G with
  | old x T=>exact fun k=>absurd (by simp [Gt.isI,k]) hi
  | lf x=>exact h
  | nd e L R=>exact absurd rfl hi
theorem GOk.some (W:Wf cs []) {ps:List Pn} {d lo hi:Nat} {q:Int} {G:Gt} (h:GOk cs d G) (g:IsG cs ps lo hi q G):(q≠0→1≤G.ents.length)∧(G.isI cs=true→2≤G.ents.length):=by
  cases G with
  | old x T=>
    obtain ⟨h1,_,h3⟩:=g;refine ⟨fun h0=>?_,fun hi=>?_⟩
    · have:=h3.pos W (by omega:x≠0)
      exact this
    · have hk:(sdC cs x).kind=2:=by simpa [Gt.isI] using hi
      rcases h3.cases with ⟨e,_⟩ | ⟨_,e,_⟩ | ⟨_,_,L,R,e,_⟩
      · rw [e] at hk
        exact absurd hk (by show ¬zc.kind=2;decide)
      · omega
      · subst e
        exact (nd_ok W h3).two
  | lf x=>exact ⟨fun _=>by simp [Gt.ents],fun e=>by cases e⟩
  | nd e L R=>
    obtain ⟨_,_,_,_,_,_,two⟩:=h;exact ⟨fun _=>by show 1≤(L.ents++R.ents).length;omega,fun _=>two⟩

theorem side_perm {A B C D:List Ent} (ha:∀e∈A,kb e.1 d=0) (hb:∀e∈B,kb e.1 d=1) (hc:∀e∈C,kb e.1 d=0) (hd:∀e∈D,kb e.1 d=1) (h:(A++B).Perm (C++D)):A.Perm C∧B.Perm D:=by
  have f0:∀(X Y:List Ent),(∀e∈X,kb e.1 d=0)→(∀e∈Y,kb e.1 d=1)→(X++Y).filter (fun e=>kb e.1 d == 0)=X∧(X++Y).filter (fun e=>kb e.1 d == 1)=Y:=fun X Y hx hy=>by
    rw [List.filter_append,List.filter_append,List.filter_eq_self.2 (fun e he=>by simp [hx e he]),List.filter_eq_nil_iff.2 (fun e he=>by simp [hy e he]),List.filter_eq_nil_iff.2 (fun e he=>by simp [hx e he]),List.filter_eq_self.2 (fun e he=>by simp [hy e he])];simp
  have h0:=h.filter (fun e=>kb e.1 d == 0);have h1:=h.filter (fun e=>kb e.1 d == 1);rw [(f0 A B ha hb).1,(f0 C D hc hd).1] at h0;rw [(f0 A B ha hb).2,(f0 C D hc hd).2] at h1;exact ⟨h0,h1⟩

theorem plc_tree {k:Lq} (t:IsT cs h T) (p:Plc cs h k):(h=0∧T=.emp)∨(h≠0∧T=.lf k (sdC cs h).bs):=by
  rcases t.cases with e | ⟨e0,e1,e2⟩ | ⟨e0,e1,_⟩
  · exact .inl e
  · rcases p with p | ⟨_,p⟩
    · exact absurd p e0
    · exact .inr ⟨e0,by rw [e2,p]⟩
  · rcases p with p | ⟨p,_⟩
    · exact absurd p e0
    · omega

theorem grw_ok (W:Wf cs []) {d h:Nat} {l:List Wt} {ps ps':List Pn} {q:Int} (g:Grw cs d h l ps q ps'):∀(T:Tre),GPre cs d h T l→∃G,GrOk cs d h T l ps q ps' G:=by
  induction g with
  | @none d h ps=>
    intro T p;exact ⟨.old h T,⟨[],by simp⟩,⟨rfl,rfl,p.tree⟩,by rw [ovE_nil];exact .refl _,p.dp,fun _=>rfl,Nat.le_add_right _ _,fun z hz=>hz,fun y hy=>by cases hy⟩
  | @gone d h x ps hp hg=>
    intro T p;refine ⟨.old 0 .emp,⟨[],by simp⟩,⟨rfl,rfl,rfl⟩,?_,fun k=>absurd k (by show ¬zc.kind=2;decide),fun q=>?_,Nat.le_add_right _ _,fun z hz=>(by cases hz),fun y hy=>by cases hy⟩
    · rcases plc_tree p.tree hp with ⟨_,rfl⟩ | ⟨_,rfl⟩
      · simp [ovE,entW,hg,Tre.ents,Gt.ents]
      · simp [ovE,entW,hg,Tre.ents,Gt.ents]
    · rcases plc_tree p.tree hp with ⟨e,_⟩ | ⟨_,rfl⟩
      · rw [e];rfl
      · have:=q.length_eq
        simp [Gt.ents,Tre.ents] at this
  | @same d h x ps hp hg h0 hb=>
    intro T p;refine ⟨.old h T,⟨[],by simp⟩,⟨rfl,rfl,p.tree⟩,?_,p.dp,fun _=>rfl,Nat.le_add_right _ _,fun z hz=>hz,fun y hy=>by cases hy⟩;rcases plc_tree p.tree hp with ⟨e,_⟩ | ⟨_,rfl⟩
    · exact absurd e h0
    · simp [ovE,entW,hg,Tre.ents,Gt.ents,hb]
  | @leaf d h x ps hp hg hn=>
    intro T p;refine ⟨.lf x,⟨[pnL x],rfl⟩,⟨rfl,by simp,by simp⟩,?_,⟨p.ok x (by simp),hg⟩,fun q=>?_,?_,fun z hz=>(by cases hz),fun y hy z hz e1 e2=>?_⟩
    · rcases plc_tree p.tree hp with ⟨_,rfl⟩ | ⟨_,rfl⟩
      · simp [ovE,entW,hg,Tre.ents,Gt.ents]
      · simp [ovE,entW,hg,Tre.ents,Gt.ents]
    · rcases plc_tree p.tree hp with ⟨_,rfl⟩ | ⟨h0,rfl⟩
      · have:=q.length_eq
        simp [Gt.ents,Tre.ents] at this
      · have:=List.perm_singleton.1 q
        simp [Gt.ents] at this;exact absurd ⟨h0,this.symm⟩ hn
    · have:=p.d
      simp;omega
    · obtain rfl:y=(Option.none,[(x.k,x.b)]):=by simpa [Gt.pnd] using hy
      rcases plc_tree p.tree hp with ⟨_,rfl⟩ | ⟨h0,rfl⟩
      · cases hz
      · obtain rfl:z=(Option.none,[(x.k,(sdC cs h).bs)]):=by simpa [Tre.nds] using hz
        have:=List.perm_singleton.1 e2;simp at this;exact hn ⟨h0,this.symm⟩
  | @stay d h l ps p1 p2 h0 hp g1 g2 ih1 ih2=>
    intro T p;obtain ⟨TL,TR,S⟩:=gsd_of W p h0 hp;obtain ⟨GL,k1⟩:=ih1 TL S.pl;obtain ⟨GR,k2⟩:=ih2 TR S.pr;obtain ⟨rfl,U,rfl,u1⟩:=k1.stays (by omega);obtain ⟨rfl,V,rfl,v1⟩:=k2.stays (by omega);rw [Int.toNat_natCast] at u1 v1;have eU:=u1.one S.pl.tree;have eV:=v1.one S.pr.tree;subst eU eV;refine ⟨.old h T,⟨[],by simp⟩,⟨rfl,rfl,p.tree⟩,?_,p.dp,fun _=>rfl,Nat.le_add_right _ _,fun z hz=>hz,fun y hy=>by cases hy⟩;show T.ents.Perm _;rw [S.ents];exact (k1.ents.append k2.ents).trans (ovE_split l S.bl S.br).symm
  | @join d h l ps p1 p2 a b h0 hp g1 g2 hne ih1 ih2=>
    intro T p;obtain ⟨TL,TR,S⟩:=gsd_of W p h0 hp;obtain ⟨GL,k1⟩:=ih1 TL S.pl;obtain ⟨GR,k2⟩:=ih2 TR S.pr;have hd:=S.lt;have bits:∀(E:List Ent) (c:Int),(∀e∈E,kb e.1 d=c)→∀e∈ovE E (wsd l d c),kb e.1 d=c:=fun E c hE e he=>by
      rcases ovE_mem he with q | ⟨x,hx,_,rfl⟩
      · exact hE e q
      · simpa using (List.mem_filter.1 hx).2
    have bL:∀e∈GL.ents,kb e.1 d=0:=fun e he=>bits TL.ents 0 S.bl e (k1.ents.mem_iff.1 he)
    have bR:∀e∈GR.ents,kb e.1 d=1:=fun e he=>bits TR.ents 1 S.br e (k2.ents.mem_iff.1 he)
    have he:(GL.ents++GR.ents).Perm (ovE T.ents l):=by
      rw [S.ents];exact (k1.ents.append k2.ents).trans (ovE_split l S.bl S.br).symm
    have hnw: ¬(GL.ents++GR.ents).Perm T.ents:=fun q=>by
      rw [S.ents] at q;obtain ⟨q1,q2⟩:=side_perm bL bR S.bl S.br q;exact hne ⟨k1.new q1,k2.new q2⟩
    obtain ⟨n1,e1⟩:=k1.app;obtain ⟨n2,e2⟩:=k2.app;have c1:=k1.cnt;have c2:=k2.cnt;have hl:=wsd_len l d;have hl0:1≤l.length:=List.length_pos_iff.2 h0;have hc:p2.length+1≤ps.length+(257-d) * l.length:=by
      have hm:(257-d) * l.length=(257-(d+1)) * (wsd l d 0).length+(257-(d+1)) * (wsd l d 1).length+l.length:=by
        rw [← Nat.mul_add,hl,show 257-d=257-(d+1)+1 by omega,Nat.succ_mul]
      omega
    have oL:∀z∈GL.ond,z∈T.nds:=fun z hz=>S.sub z (.inl (k1.ond z hz))
    have oR:∀z∈GR.ond,z∈T.nds:=fun z hz=>S.sub z (.inr (k2.ond z hz))
    have apart:∀(y z:Option Nat×List Ent) (c c':Int),c≠c'→y.2≠[]→(∀e∈y.2,kb e.1 d=c)→(∀e∈z.2,kb e.1 d=c')→ ¬y.2.Perm z.2:=fun y z c c' hcc h1 h2 h3 hpm=>by
      obtain ⟨e,he⟩:=List.exists_mem_of_ne_nil _ h1;have:=h2 e he;have:=h3 e (hpm.mem_iff.1 he);omega
    have dL:=nds_ok W TL _ _ S.pl.tree S.pl.dp;have dR:=nds_ok W TR _ _ S.pr.tree S.pr.dp;have nL:∀y∈GL.pnd,∀z∈T.nds,y.1=z.1→ ¬y.2.Perm z.2:=fun y hy z hz q=>by
      obtain ⟨a1,a2,a3⟩:=pnd_ok GL _ k1.ok y hy;rcases S.nds z hz with hz | hz | rfl
      · exact k1.pnd y hy z hz q
      · exact apart y z 0 1 (by omega) a1 (fun e he=>bL e (a2 e he)) (fun e he=>S.br e ((dR z hz).2.1 e he))
      · have:=a3 d q
        omega
    have nR:∀y∈GR.pnd,∀z∈T.nds,y.1=z.1→ ¬y.2.Perm z.2:=fun y hy z hz q=>by
      obtain ⟨a1,a2,a3⟩:=pnd_ok GR _ k2.ok y hy;rcases S.nds z hz with hz | hz | rfl
      · exact apart y z 1 0 (by omega) a1 (fun e he=>bR e (a2 e he)) (fun e he=>S.bl e ((dL z hz).2.1 e he))
      · exact k2.pnd y hy z hz q
      · have:=a3 d q
        omega
    have i1:IsG cs p2 ps.length p1.length a GL:=by
      rw [e2];exact k1.isG.more n2
    have hkd:=i1.kd;have hkb:=k2.isG.kd;have z2:kdP cs p2 0≠2:=by
      rw [kdP,if_neg (by omega)];show ¬zc.kind=2;decide
    by_cases ca:a=0∧kdP cs p2 b≠2
    · obtain ⟨rfl,cb⟩:=ca
      obtain ⟨rfl,U,rfl,u1⟩:=k1.stays (by omega);have u1:IsT cs 0 U:=u1;have ue:=u1.none;subst ue;unfold jnQ jnP;rw [if_pos ⟨rfl,cb⟩,if_pos ⟨rfl,cb⟩];exact ⟨GR,k2.app,k2.isG,he,k2.ok.up (fun q=>cb (hkb.2 q)),fun q=>absurd q hnw,by omega,oR,nR⟩
    · by_cases cb:b=0∧kdP cs p2 a≠2
      · obtain ⟨rfl,cb⟩:=cb
        obtain ⟨rfl,U,rfl,u1⟩:=k2.stays (by omega);have u1:IsT cs 0 U:=u1;have ue:=u1.none;subst ue;unfold jnQ jnP;rw [if_neg ca,if_neg ca,if_pos ⟨rfl,cb⟩,if_pos ⟨rfl,cb⟩];have hz:GL.ents++(Gt.old (Int.toNat 0) .emp).ents=GL.ents:=by show GL.ents++[]=_;simp
        rw [hz] at he hnw;exact ⟨GL,⟨n1,e1⟩,i1,he,k1.ok.up (fun q=>cb (hkd.2 q)),fun q=>absurd q hnw,by omega,oL,nL⟩
      · unfold jnQ jnP
        rw [if_neg ca,if_neg ca,if_neg cb,if_neg cb];obtain ⟨sa1,sa2⟩:=k1.ok.some W k1.isG;obtain ⟨sb1,sb2⟩:=k2.ok.some W k2.isG;have two:2≤(GL.ents++GR.ents).length:=by
          rw [List.length_append]
          by_cases a0:a=0
          · have:=sb2 (hkb.1 (Classical.byContradiction fun q=>ca ⟨a0,q⟩))
            omega
          · by_cases b0:b=0
            · have:=sa2 (hkd.1 (Classical.byContradiction fun q=>cb ⟨b0,q⟩))
              omega
            · have:=sa1 a0
              have:=sb1 b0;omega
        refine ⟨.nd d GL GR,⟨n1++n2++[pnI d a b],by rw [e2,e1];simp⟩,⟨p1.length,p2.length,a,b,by simp,rfl,by simp,i1.more _,k2.isG.more _⟩,he,⟨rfl,hd,k1.ok,k2.ok,bL,bR,two⟩,fun q=>absurd q hnw,by rw [List.length_append];exact hc,fun z hz=>?_,fun y hy z hz q=>?_⟩
        · rcases List.mem_append.1 hz with hz | hz
          · exact oL z hz
          · exact oR z hz
        · rcases List.mem_cons.1 hy with rfl | hy
          · intro hpm
            rcases S.nds z hz with hz | hz | rfl
            · have:=(dL z hz).2.2 d q.symm
              omega
            · have:=(dR z hz).2.2 d q.symm
              omega
            · exact hnw hpm
          · rcases List.mem_append.1 hy with hy | hy
            · exact nL y hy z hz q
            · exact nR y hy z hz q

end Go.Proofs.YtdjpigfibafokaaGreatDoor
