/- walk.Find and walk.Depth, as contracts. -/
import Derived.Test.YtdjpigfibafokaaGreatDoorDz01
import Derived.Test.YtdjpigfibafokaaGreatDoorDz20
namespace Go.Proofs.YtdjpigfibafokaaGreatDoor
variable {S fr l pend:List Nat}
variable {T:Tre}
variable {base c g gs h k m n room:Nat}
variable {cs cs0 cs1:Lz}
variable {mk:Bool}
variable {v:Value}
variable {w w' w0:World}
set_option maxHeartbeats 4000000
set_option maxRecDepth 20000
open Go.RowKit

structure HsAt1 (cs:Lz) (K:Lq) (hs:List Nat) (fin:Nat) (oth:List Nat) (d k x:Nat):Prop where
  at_:hs[k]?=some x
  pos:1≤x
  occ:0<cc cs (x-1)
  kind:(ce cs (x-1)).kind=2
  dp:(ce cs (x-1)).dp=d+k
  lt:d+k<256
  oth_:oth[k]?=some (if kb K (d+k)=1 then (ce cs (x-1)).l else (ce cs (x-1)).r)
  next:(hs++[fin])[k+1]?=some (if kb K (d+k)=1 then (ce cs (x-1)).r else (ce cs (x-1)).l)

theorem hs_head (K:Lq):∀(T:Tre) (h:Nat),(T.hs K h++[T.fin K h])[0]?=some h
  | .emp,_=>rfl
  | .lf _ _,_=>rfl
  | .nd _ _ _ _ _,_=>rfl

theorem hs_at {cs:Lz} {pend:List Nat} (w:Wf cs pend) (K:Lq):∀(T:Tre) (h d:Nat),IsT cs h T→((sdC cs h).kind=2→(sdC cs h).dp=d)→∀k,k<(T.hs K h).length→∃x,HsAt1 cs K (T.hs K h) (T.fin K h) (T.oth K) d k x
  | .emp,h,d,_,_,k,hk=>by simp [Tre.hs] at hk
  | .lf _ _,h,d,_,_,k,hk=>by simp [Tre.hs] at hk
  | .nd d hl hr L R,h,d',hT,hd,k,hk=>by
    have n:=nd_ok w hT;obtain ⟨h1,h2,h3,h4,h5,h6,h7,h8⟩:=hT;have es:sdC cs h=ce cs (h-1):=if_neg (by omega);obtain rfl:d=d':=by
      rw [es] at hd;rw [← h4];exact hd h3
    have hdp:=n.dp;cases k with
    | zero=>
      refine ⟨h,rfl,h1,h2,h3,h4,by omega,?_,?_⟩
      · rw [Nat.add_zero,h5,h6]
        simp only [Tre.oth];split <;> rfl
      · simp only [Nat.add_zero,h5,h6,Tre.hs,Tre.fin]
        by_cases q:kb K d=1
        · rw [if_pos q,if_pos q,if_pos q,List.cons_append,List.getElem?_cons_succ]
          exact hs_head K R hr
        · rw [if_neg q,if_neg q,if_neg q,List.cons_append,List.getElem?_cons_succ]
          exact hs_head K L hl
    | succ k=>
      by_cases q:kb K d=1
      · have e1:Tre.hs K h (.nd d hl hr L R)=h::R.hs K hr:=by simp [Tre.hs,q]
        have e2:Tre.fin K h (.nd d hl hr L R)=R.fin K hr:=by simp [Tre.fin,q]
        have e3:Tre.oth K (.nd d hl hr L R)=hl::R.oth K:=by simp [Tre.oth,q]
        rw [e1,List.length_cons] at hk;obtain ⟨x,b1,b2,b3,b4,b5,b6,b7,b8⟩:=hs_at w K R hr (d+1) h8 n.kr k (by omega);have e4:d+1+k=d+(k+1):=by omega
        rw [e4] at b5 b6 b7 b8;rw [e1,e2,e3];exact ⟨x,by rw [List.getElem?_cons_succ];exact b1,b2,b3,b4,b5,b6,by rw [List.getElem?_cons_succ];exact b7,by rw [List.cons_append,List.getElem?_cons_succ];exact b8⟩
      · have e1:Tre.hs K h (.nd d hl hr L R)=h::L.hs K hl:=by simp [Tre.hs,q]
        have e2:Tre.fin K h (.nd d hl hr L R)=L.fin K hl:=by simp [Tre.fin,q]
        have e3:Tre.oth K (.nd d hl hr L R)=hr::L.oth K:=by simp [Tre.oth,q]
        rw [e1,List.length_cons] at hk;obtain ⟨x,b1,b2,b3,b4,b5,b6,b7,b8⟩:=hs_at w K L hl (d+1) h7 n.kl k (by omega);have e4:d+1+k=d+(k+1):=by omega
        rw [e4] at b5 b6 b7 b8;rw [e1,e2,e3];exact ⟨x,by rw [List.getElem?_cons_succ];exact b1,b2,b3,b4,b5,b6,by rw [List.getElem?_cons_succ];exact b7,by rw [List.cons_append,List.getElem?_cons_succ];exact b8⟩

theorem root_dp (hT:IsT cs h T) (he:vRt true (cot cs h) (cat cs h) h=0):(sdC cs h).kind=2→(sdC cs h).dp=0:=fun k=>by
  rw [← cat_nat] at k ⊢;have h0: ¬(h:Int)=0:=fun e=>by
    have:h=0:=by omega
    subst this;exact absurd k (by show ¬zc.kind=2;decide)
  have hc: ¬cot cs (h:Int)=0:=by
    match T,hT with
    | .emp,e=>exact absurd (show ((h:Nat):Int)=0 by rw [show h=0 from e];rfl) h0
    | .lf _ _,⟨h1,h2,_⟩=>rw [cot,if_pos (by omega),show ((h:Int)-1).toNat=h-1 by omega];omega
    | .nd _ _ _ _ _,⟨h1,h2,_⟩=>rw [cot,if_pos (by omega),show ((h:Int)-1).toNat=h-1 by omega];omega
  unfold vRt at he;rw [if_pos rfl,if_neg h0,if_neg hc] at he
  by_cases q:0<vDp true (cat cs (h:Int))
  · rw [if_pos q] at he
    omega
  · unfold vDp at q
    rw [if_pos rfl,if_pos k] at q;omega

def fnd (l:List Ent) (K:Lq):Lq×Bool:=match l with
  | [e]=>if e.1=K then (e.2,true) else ([],false)
  | _=>([],false)
def FdPost (r:Lq×Bool) (w:World) (e:Ending) (w':World):Prop:=
  ∃v' sp,e=.returned (.tuple #[v',.bool r.2,.int .i64 0])∧Own w.heap.size w' v' r.1 sp∧Kb w w'

theorem find_any (V:Vw w v true (cot cs) (cat cs)) (W:Wf cs pend) (h:Nat) (T:Tre) (hT:IsT cs h T) (K:Lq) (hK:Key K) (he:vRt true (cot cs h) (cat cs h) h=0):Kc 86 #[v,.int .i64 (h:Int),.agg (B K)] w (FdPost (fnd (T.efin K) K) w):=by
  have HHD:Hid (∀w',Kb w w'→Kc 148 #[v,.int .i64 (h:Int),.agg (B K)] w' (HdPost (T.hs K h) (T.fin K h) w')):=fun w' hb=>handles_any (V.grow hb) W h T hT K hK he
  have HPL:=hidden (pth_ln K hK.1);have HPS:Hid ((Tryz.prog.info? 63).map (·.size)=some (B K).size):=by show _=_;rw [B_size,hK.1];exact size_path
  have hfin:=fin_is K T h hT;have HV:=hidden V;obtain ⟨hs,hhs⟩:∃l,l=T.hs K h:=⟨_,rfl⟩;rw [← hhs] at HHD;obtain ⟨x,hx⟩:∃x,x=T.fin K h:=⟨_,rfl⟩;rw [← hx] at HHD hfin;obtain ⟨hh,hhe⟩:∃y:Int,y=(h:Int):=⟨_,rfl⟩;rw [← hhe] at HHD;rw [← hhe];have HKL:=hidden hK.1;clear V W hT he hhs hx hK;generalize HFE:(x:Int)=y at HHD;have HFY:=hidden HFE;clear HFE;rcases hfin with ⟨hx0,hf⟩ | ⟨k,b,hf,h1,h2,h3,h4,h5⟩
  · rw [hf]
    have HKD:Hid (Kr w 149 #[v,.int .i64 y] (.int .u8 0)):=fun w' hb=>by
      have:=kind_any (HV.out.grow hb) y;rwa [show (cat cs y).kind=0 by rw [← HFY.out,hx0];rfl] at this
    have HPost:Hid (∀w',Kb w w'→FdPost (fnd [] K) w (.returned (.tuple #[.slice none 0 0,.bool false,.int .i64 0])) w'):=fun w' hb=>⟨_,[],rfl,Own.nil _ _,hb⟩
    generalize FdPost (fnd [] K) w=P at HPost ⊢;clear hf HV hhe hx0 HFY;go_enter Tryz.func86,Tryz.ntmps86
    go_wp2_with (first
      |((with_reducible refine at_bxd 5 ?_);refine wpList_bx _ rfl _ _ rfl _ rfl ?_;intro w1 b5 hg5 hl5 B5 q5;have HB5:=hidden B5;have HQ5:=hidden q5;clear hg5 hl5 B5 q5)
      |((with_reducible refine at_ldd 14 5 ?_);refine wpList_ld _ rfl _ _ rfl b5 _ rfl HB5.out _ _ Tryz.underlying63 HPS.out ?_)
      |(go_at_call 148;refine (HHD.out _ HQ5.out).mono ?_;rintro e w2 ⟨a2,c2,rfl,o2,b2⟩;have HB52:=hidden (HB5.out.grow b2);have HQ2:=hidden (grow_trans HQ5.out b2);clear b2 o2))
    refine wp_region_held_drew (S:=fun w'=>Kb w2 w') (by kernel_rfl) ((below_drewN (Below.refl _ _) 1)) (fun hHeld=>?_);refine tkp 0 (.int .i64 0) hHeld ?_;simp only [Act.put,zq1,zq2,zq4,zq5,zq6];refine tkp 1 (.bool false) hHeld ?_;simp only [Act.put,zq1,zq2,zq3,zq4,zq5,zq6];refine tkp 2 (.bool false) hHeld ?_;simp only [Act.put,zq1,zq2,zq3,zq4,zq5,zq6];refine tkp 3 v hHeld ?_;simp only [Act.put,zq1,zq2,zq3,zq4,zq5,zq6];refine tkp 4 (.int .i64 y) hHeld ?_;simp only [Act.put,zq1,zq2,zq3,zq4,zq5,zq6];refine wpAnyH_ready (rs:=[5]) (by kernel_rfl) (by simp) ?_;refine AllReadyH.cons rfl (fun KQ hK=>?_) AllReadyH.nil;go_simp;refine (HKD.out _ (grow_trans HQ2.out hHeld)).mono ?_;rintro e z1 ⟨rfl,a1⟩;refine hK.out _ _ (grow_trans hHeld a1) (fun hHeld=>?_);clear hK KQ;refine tkp 6 (.bool true) hHeld ?_;simp only [Act.put,zq1,zq2,zq3,zq4,zq5,zq6];refine tkp 7 (.bool true) hHeld ?_;simp only [Act.put,zq1,zq2,zq3,zq4,zq5,zq6];refine tkp 8 (.bool true) hHeld ?_;simp only [Act.put,zq1,zq2,zq3,zq4,zq5,zq6];refine tks 9 hHeld ?_;simp only [Act.put,zq1,zq2,zq3,zq4,zq5,zq6];refine tks 10 hHeld ?_;simp only [Act.put,zq1,zq2,zq3,zq4,zq5,zq6];refine tks 11 hHeld ?_;simp only [Act.put,zq1,zq2,zq3,zq4,zq5,zq6];refine tks 12 hHeld ?_;simp only [Act.put,zq1,zq2,zq3,zq4,zq5,zq6];refine tks 13 hHeld ?_;simp only [Act.put,zq1,zq2,zq3,zq4,zq5,zq6];refine tkp 14 (.bool true) hHeld ?_;simp only [Act.put,zq1,zq2,zq3,zq4,zq5,zq6];refine wpAnyH_done (by kernel_rfl) ?_ _;go_wp2
    go_ret3;exact HPost.out _ (grow_trans HQ2.out hHeld)
  · rw [hf]
    have hca:cat cs y=ce cs (x-1):=by rw [← HFY.out];exact cat_is h1
    have HKD:Hid (Kr w 149 #[v,.int .i64 y] (.int .u8 1)):=fun w' hb=>by
      have:=kind_any (HV.out.grow hb) y;rwa [show (cat cs y).kind=1 by rw [hca];exact h3] at this
    have HKY:Hid (Kr w 150 #[v,.int .i64 y] (.agg (B k))):=fun w' hb=>by
      have:=key_any (HV.out.grow hb) y;rwa [show (cat cs y).key=k by rw [hca];exact h4] at this
    have HVA:Hid (∀w',Kb w w'→Kc 151 #[v,.int .i64 y] w' fun e w''=>∃v' sp,e=.returned v'∧Own w'.heap.size w'' v' b sp∧Below w'.heap.size w' w''):=fun w' hb=>by
      have:=valueS_any (HV.out.grow hb) y;rwa [show (cat cs y).bs=b by rw [hca];exact h5] at this
    have hkl:k.length=32:=by have:=(HV.out.ok y).hk.1;rwa [hca,h4] at this
    have hE:=path_eq k K hkl HKL.out
    by_cases hq:k=K
    · have HPost:Hid (∀w' v' sp,Own w.heap.size w' v' b sp→Kb w w'→FdPost (fnd [(k,b)] K) w (.returned (.tuple #[v',.bool true,.int .i64 0])) w'):=fun w' v' sp ho hb=>⟨v',sp,by simp [fnd,hq],by simpa [fnd,hq] using ho,hb⟩
      generalize FdPost (fnd [(k,b)] K) w=P at HPost ⊢;simp only [hq,decide_true] at hE;rw [hq] at HKY;clear hf HV hhe HFY hca h1 h2 h3 h4 h5 hkl hq;go_enter Tryz.func86,Tryz.ntmps86
      go_wp2_with (first
        |((with_reducible refine at_bxd 5 ?_);refine wpList_bx _ rfl _ _ rfl _ rfl ?_;intro w1 b5 hg5 hl5 B5 q5;have HB5:=hidden B5;have HQ5:=hidden q5;clear hg5 hl5 B5 q5)
        |((with_reducible refine at_ldd 14 5 ?_);refine wpList_ld _ rfl _ _ rfl b5 _ rfl HB5.out _ _ Tryz.underlying63 HPS.out ?_)
        |(go_at_call 148;refine (HHD.out _ HQ5.out).mono ?_;rintro e w2 ⟨a2,c2,rfl,o2,b2⟩;have HB52:=hidden (HB5.out.grow b2);have HQ2:=hidden (grow_trans HQ5.out b2);clear b2 o2))
      refine wp_region_held_drew (S:=fun w'=>Kb w2 w') (by kernel_rfl) ((below_drewN (Below.refl _ _) 1)) (fun hHeld=>?_);refine tkp 0 (.int .i64 0) hHeld ?_;simp only [Act.put,zq1,zq2,zq4,zq5,zq6];refine tkp 1 (.bool false) hHeld ?_;simp only [Act.put,zq1,zq2,zq3,zq4,zq5,zq6];refine tkp 2 (.bool false) hHeld ?_;simp only [Act.put,zq1,zq2,zq3,zq4,zq5,zq6];refine tkp 3 v hHeld ?_;simp only [Act.put,zq1,zq2,zq3,zq4,zq5,zq6];refine tkp 4 (.int .i64 y) hHeld ?_;simp only [Act.put,zq1,zq2,zq3,zq4,zq5,zq6];refine wpAnyH_ready (rs:=[5]) (by kernel_rfl) (by simp) ?_;refine AllReadyH.cons rfl (fun KQ hK=>?_) AllReadyH.nil;go_simp;refine (HKD.out _ (grow_trans HQ2.out hHeld)).mono ?_;rintro e z1 ⟨rfl,a1⟩;refine hK.out _ _ (grow_trans hHeld a1) (fun hHeld=>?_);clear hK KQ;refine tkp 6 (.bool false) hHeld ?_;simp only [Act.put,zq1,zq2,zq3,zq4,zq5,zq6];refine tkp 7 (.bool false) hHeld ?_;simp only [Act.put,zq1,zq2,zq3,zq4,zq5,zq6];refine tkp 8 (.bool false) hHeld ?_;simp only [Act.put,zq1,zq2,zq3,zq4,zq5,zq6];refine tkp 9 v hHeld ?_;simp only [Act.put,zq1,zq2,zq3,zq4,zq5,zq6];refine tkp 10 (.int .i64 y) hHeld ?_;simp only [Act.put,zq1,zq2,zq3,zq4,zq5,zq6];refine tkg 12 (.agg (B K)) rfl (yieldsIf_load_mid rfl 63 (.tmp 5) rfl b5 0 rfl (B K).toList _ (fun w hS=>(HB52.out.grow hS).range) Tryz.underlying63 rfl HPL.out) hHeld ?_;simp only [Act.put,zq1,zq2,zq3,zq4,zq5,zq6];refine wpAnyH_ready (rs:=[11]) (by kernel_rfl) (by simp) ?_;refine AllReadyH.cons rfl (fun KQ hK=>?_) AllReadyH.nil;go_simp;refine (HKY.out _ (grow_trans HQ2.out hHeld)).mono ?_;rintro e z2 ⟨rfl,a2⟩;refine hK.out _ _ (grow_trans hHeld a2) (fun hHeld=>?_);clear hK KQ;refine tkp 13 (.bool false) hHeld ?_;simp only [Act.put,zq1,zq2,zq3,zq4,zq5,zq6];refine tkp 14 (.bool false) hHeld ?_;simp only [Act.put,zq1,zq2,zq3,zq4,zq5,zq6];refine wpAnyH_done (by kernel_rfl) ?_ _;have HH:=hidden hHeld;clear hHeld
      go_wp2_with (go_at_call 151;refine (HVA.out _ (grow_trans HQ2.out HH.out)).mono ?_;rintro e w7 ⟨v7,sp7,rfl,o7,b7⟩)
      go_ret3;exact HPost.out _ _ sp7 (o7.mono (grow_trans HQ2.out HH.out).size) (grow_trans (grow_trans HQ2.out HH.out) b7)
    · have HPost:Hid (∀w',Kb w w'→FdPost (fnd [(k,b)] K) w (.returned (.tuple #[.slice none 0 0,.bool false,.int .i64 0])) w'):=fun w' hb=>⟨.slice none 0 0,[],by simp [fnd,hq],by simp only [fnd,hq,if_false];exact Own.nil _ _,hb⟩
      generalize FdPost (fnd [(k,b)] K) w=P at HPost ⊢;simp only [hq,decide_false] at hE;clear hf HV hhe HFY hca h1 h2 h3 h4 h5 hkl hq HVA;go_enter Tryz.func86,Tryz.ntmps86
      go_wp2_with (first
        |((with_reducible refine at_bxd 5 ?_);refine wpList_bx _ rfl _ _ rfl _ rfl ?_;intro w1 b5 hg5 hl5 B5 q5;have HB5:=hidden B5;have HQ5:=hidden q5;clear hg5 hl5 B5 q5)
        |((with_reducible refine at_ldd 14 5 ?_);refine wpList_ld _ rfl _ _ rfl b5 _ rfl HB5.out _ _ Tryz.underlying63 HPS.out ?_)
        |(go_at_call 148;refine (HHD.out _ HQ5.out).mono ?_;rintro e w2 ⟨a2,c2,rfl,o2,b2⟩;have HB52:=hidden (HB5.out.grow b2);have HQ2:=hidden (grow_trans HQ5.out b2);clear b2 o2))
      refine wp_region_held_drew (S:=fun w'=>Kb w2 w') (by kernel_rfl) ((below_drewN (Below.refl _ _) 1)) (fun hHeld=>?_);refine tkp 0 (.int .i64 0) hHeld ?_;simp only [Act.put,zq1,zq2,zq4,zq5,zq6];refine tkp 1 (.bool false) hHeld ?_;simp only [Act.put,zq1,zq2,zq3,zq4,zq5,zq6];refine tkp 2 (.bool false) hHeld ?_;simp only [Act.put,zq1,zq2,zq3,zq4,zq5,zq6];refine tkp 3 v hHeld ?_;simp only [Act.put,zq1,zq2,zq3,zq4,zq5,zq6];refine tkp 4 (.int .i64 y) hHeld ?_;simp only [Act.put,zq1,zq2,zq3,zq4,zq5,zq6];refine wpAnyH_ready (rs:=[5]) (by kernel_rfl) (by simp) ?_;refine AllReadyH.cons rfl (fun KQ hK=>?_) AllReadyH.nil;go_simp;refine (HKD.out _ (grow_trans HQ2.out hHeld)).mono ?_;rintro e z1 ⟨rfl,a1⟩;refine hK.out _ _ (grow_trans hHeld a1) (fun hHeld=>?_);clear hK KQ;refine tkp 6 (.bool false) hHeld ?_;simp only [Act.put,zq1,zq2,zq3,zq4,zq5,zq6];refine tkp 7 (.bool false) hHeld ?_;simp only [Act.put,zq1,zq2,zq3,zq4,zq5,zq6];refine tkp 8 (.bool false) hHeld ?_;simp only [Act.put,zq1,zq2,zq3,zq4,zq5,zq6];refine tkp 9 v hHeld ?_;simp only [Act.put,zq1,zq2,zq3,zq4,zq5,zq6];refine tkp 10 (.int .i64 y) hHeld ?_;simp only [Act.put,zq1,zq2,zq3,zq4,zq5,zq6];refine tkg 12 (.agg (B K)) rfl (yieldsIf_load_mid rfl 63 (.tmp 5) rfl b5 0 rfl (B K).toList _ (fun w hS=>(HB52.out.grow hS).range) Tryz.underlying63 rfl HPL.out) hHeld ?_;simp only [Act.put,zq1,zq2,zq3,zq4,zq5,zq6];refine wpAnyH_ready (rs:=[11]) (by kernel_rfl) (by simp) ?_;refine AllReadyH.cons rfl (fun KQ hK=>?_) AllReadyH.nil;go_simp;refine (HKY.out _ (grow_trans HQ2.out hHeld)).mono ?_;rintro e z2 ⟨rfl,a2⟩;refine hK.out _ _ (grow_trans hHeld a2) (fun hHeld=>?_);clear hK KQ;refine tkp 13 (.bool true) hHeld ?_;simp only [Act.put,zq1,zq2,zq3,zq4,zq5,zq6];refine tkp 14 (.bool true) hHeld ?_;simp only [Act.put,zq1,zq2,zq3,zq4,zq5,zq6];refine wpAnyH_done (by kernel_rfl) ?_ _;go_wp2
      go_ret3;exact HPost.out _ (grow_trans HQ2.out hHeld)

theorem mea_step (h:(k:Int)<(m:Int)):m-(k+1)<m-k:=by omega

end Go.Proofs.YtdjpigfibafokaaGreatDoor

namespace Go.Proofs.YtdjpigfibafokaaGreatDoor
variable {S fr l pend:List Nat}
variable {T:Tre}
variable {base c g gs h k m n room:Nat}
variable {cs cs0 cs1:Lz}
variable {mk:Bool}
variable {v:Value}
variable {w w' w0:World}
set_option maxHeartbeats 4000000
set_option maxRecDepth 20000
open Go.RowKit

theorem fits9_no {ct:Int→Nat} {ca:Int→Ce} (V:Vw w v false ct ca) (j:Int):Kc 156 #[v,.int .i64 j] w fun e w'=>e=.returned (.bool false)∧Kb w w':=by
  have HR:=hidden (root_any V 0);rw [show vRt false (ct 0) (ca 0) 0=1 from rfl] at HR;clear V;go_enter Tryz.func156,Tryz.ntmps156
  go_wp2_with (go_at_call 112;refine HR.out.mono ?_;rintro e w1 ⟨rfl,b1⟩;have HB:=hidden b1;clear b1)
  go_ret;exact ⟨rfl,HB.out⟩

theorem Hs.sizes (h:Hs w0 S w g gs room cs fr):noc cs≤room∧room≤65536∧cs.length≤room:=by
  have h1:=h.inv.sum;have h2:=h.inv.len;have h3:=h.inv.r2;rw [List.length_map] at h1 h2;unfold noc;omega

def fitsN (n room:Nat) (j:Int):Bool:=decide (0≤j∧j≤64∧(n:Int)+258 * j≤room)

theorem fits9_any (h:Hs w0 S w g gs room cs fr) (j:Int):Kc 156 #[.pointer (some ⟨g,0,none⟩),.int .i64 j] w fun e w'=>e=.returned (.bool (fitsN (noc cs) room j))∧Kb w w':=by
  have HR:=hidden (root_any h.vw 0);rw [show vRt true (cot cs 0) (cat cs 0) 0=0 from rfl] at HR;have HO:Hid (Kr w 21 #[.pointer (some ⟨g,0,none⟩)] (.int .i64 (noc cs:Int))):=fun w' hb=>hs_occ (h.grow hb)
  have HM:Hid (Kr w 121 #[.pointer (some ⟨g,0,none⟩)] (.int .i64 (room:Int))):=fun w' hb=>hs_room (h.grow hb)
  obtain ⟨h1,h2,_⟩:=h.sizes;generalize noc cs=n at HO h1 ⊢;clear h
  by_cases j0:j<0
  · rw [show fitsN n room j=false by simp [fitsN];omega]
    clear h1 h2;go_enter Tryz.func156,Tryz.ntmps156
    go_wp2_with (go_at_call 112;refine HR.out.mono ?_;rintro e w1 ⟨rfl,b1⟩;have HB:=hidden b1;clear b1)
    go_ret;exact ⟨rfl,HB.out⟩
  by_cases j1:64<j
  · rw [show fitsN n room j=false by simp [fitsN];omega]
    clear h1 h2;go_enter Tryz.func156,Tryz.ntmps156
    go_wp2_with (go_at_call 112;refine HR.out.mono ?_;rintro e w1 ⟨rfl,b1⟩;have HB:=hidden b1;clear b1)
    go_ret;exact ⟨rfl,HB.out⟩
  obtain ⟨k,rfl⟩:∃k:Nat,j=(k:Int):=⟨j.toNat,by omega⟩;have hk:k≤64:=by omega
  have HV:Hid (fitsN n room (k:Int)=decide (((n:Int)+258 * (k:Int))≤(room:Int))):=by
    show _=_;unfold fitsN;congr 1
    apply propext;constructor
    · exact fun q=>q.2.2
    · exact fun q=>⟨by omega,by omega,q⟩
  have w1:wrap64 (258 * (k:Int))=258 * (k:Int):=Go.IntWalk.wrap64_in _ (by omega);have w2:wrap64 ((n:Int)+258 * (k:Int))=(n:Int)+258 * (k:Int):=Go.IntWalk.wrap64_in _ (by omega);have j2: ¬(64:Int)<(k:Int):=j1;have j3: ¬(k:Int)<0:=j0;rw [HV.out];clear HV j0 j1 h1 h2;go_enter Tryz.func156,Tryz.ntmps156
  go_wp2_with (first
    |(go_at_call 112;refine HR.out.mono ?_;rintro e w1 ⟨rfl,b1⟩;have HB:=hidden b1;clear b1)
    |(go_at_call 21;refine (HO.out _ HB.out).mono ?_;rintro e w2 ⟨rfl,b2⟩;replace HB:=hidden (grow_trans HB.out b2);clear b2)
    |(go_at_call 121;refine (HM.out _ HB.out).mono ?_;rintro e w3 ⟨rfl,b3⟩;replace HB:=hidden (grow_trans HB.out b3);clear b3))
  go_ret;exact ⟨rfl,HB.out⟩

def vAh (mk:Bool) (q:Nat) (c:Ce) (h:Int):Int:=if vRt mk q c h=0 then (if h≠0∧q-c.ab=0 then 7 else 0) else vRt mk q c h

theorem athand_any {ct:Int→Nat} {ca:Int→Ce} (V:Vw w v mk ct ca) (h:Int):Kc 160 #[v,.int .i64 h] w fun e w'=>e=.returned (.int .i64 (vAh mk (ct h) (ca h) h))∧Kb w w':=by
  have HR:=hidden (root_any V h);have HH:Hid (Kr w 172 #[v,.int .i64 h] (.int .i64 ((ct h-(ca h).ab:Nat):Int))):=fun w' hb=>held_any (V.grow hb) h
  unfold vAh;generalize vRt mk (ct h) (ca h) h=r at HR ⊢;generalize ct h-(ca h).ab=q at HH ⊢;clear V
  by_cases r0:r=0
  · subst r0
    rw [if_pos rfl]
    by_cases h0:h=0
    · subst h0
      rw [if_neg (by simp)];go_enter Tryz.func160,Tryz.ntmps160
      go_wp2_with (go_at_call 112;refine HR.out.mono ?_;rintro e w1 ⟨rfl,b1⟩;have HB:=hidden b1;clear b1)
      go_ret;exact ⟨rfl,HB.out⟩
    · by_cases q0:q=0
      · subst q0
        rw [if_pos ⟨h0,rfl⟩];go_enter Tryz.func160,Tryz.ntmps160
        go_wp2_with (first
          |(go_at_call 112;refine HR.out.mono ?_;rintro e w1 ⟨rfl,b1⟩;have HB:=hidden b1;clear b1)
          |(go_at_call 172;refine (HH.out _ HB.out).mono ?_;rintro e w2 ⟨rfl,b2⟩;replace HB:=hidden (grow_trans HB.out b2);clear b2))
        go_ret;exact ⟨rfl,HB.out⟩
      · rw [if_neg (fun e=>q0 e.2)]
        have q1: ¬(q:Int)=0:=by omega
        have q2:((q:Int) == 0)=false:=by simpa using q1
        have q3:(h != 0)=true:=by simpa using h0
        go_enter Tryz.func160,Tryz.ntmps160
        go_wp2_with (first
          |(go_at_call 112;refine HR.out.mono ?_;rintro e w1 ⟨rfl,b1⟩;have HB:=hidden b1;clear b1)
          |(go_at_call 172;refine (HH.out _ HB.out).mono ?_;rintro e w2 ⟨rfl,b2⟩;replace HB:=hidden (grow_trans HB.out b2);clear b2))
        go_ret;exact ⟨rfl,HB.out⟩
  · rw [if_neg r0]
    go_enter Tryz.func160,Tryz.ntmps160
    go_wp2_with (go_at_call 112;refine HR.out.mono ?_;rintro e w1 ⟨rfl,b1⟩;have HB:=hidden b1;clear b1)
    go_ret;exact ⟨rfl,HB.out⟩

def vRf (mk:Bool) (q:Nat) (c:Ce) (h:Int) (n:Nat):Int:=if mk then (if 1024<n then 4 else vAh mk q c h) else 1

theorem refusal_any {ct:Int→Nat} {ca:Int→Ce} (V:Vw w v mk ct ca) (h:Int) (a:Option Addr) (n c:Nat):Kc 155 #[v,.int .i64 h,.slice a n c] w fun e w'=>e=.returned (.int .i64 (vRf mk (ct h) (ca h) h n))∧Kb w w':=by
  have HR:=hidden (root_any V 0);have HA:Hid (Kr w 160 #[v,.int .i64 h] (.int .i64 (vAh mk (ct h) (ca h) h))):=fun w' hb=>athand_any (V.grow hb) h
  unfold vRf;generalize vAh mk (ct h) (ca h) h=r at HA ⊢;clear V;cases mk with
  | false=>
    rw [show vRt false (ct 0) (ca 0) 0=1 from rfl] at HR;simp only [Bool.false_eq_true,if_false];go_enter Tryz.func155,Tryz.ntmps155
    go_wp2_with (go_at_call 112;refine HR.out.mono ?_;rintro e w1 ⟨rfl,b1⟩;have HB:=hidden b1;clear b1)
    go_ret;exact ⟨rfl,HB.out⟩
  | true=>
    rw [show vRt true (ct 0) (ca 0) 0=0 from rfl] at HR;simp only [if_true]
    by_cases hn:1024<n
    · rw [if_pos hn]
      have hn2:(1024:Int)<(n:Int):=by omega
      go_enter Tryz.func155,Tryz.ntmps155
      go_wp2_with (go_at_call 112;refine HR.out.mono ?_;rintro e w1 ⟨rfl,b1⟩;have HB:=hidden b1;clear b1)
      go_ret;exact ⟨rfl,HB.out⟩
    · rw [if_neg hn]
      have hn2: ¬(1024:Int)<(n:Int):=by omega
      go_enter Tryz.func155,Tryz.ntmps155
      go_wp2_with (first
        |(go_at_call 112;refine HR.out.mono ?_;rintro e w1 ⟨rfl,b1⟩;have HB:=hidden b1;clear b1)
        |(go_at_call 160;refine (HA.out _ HB.out).mono ?_;rintro e w2 ⟨rfl,b2⟩;replace HB:=hidden (grow_trans HB.out b2);clear b2))
      go_ret;exact ⟨rfl,HB.out⟩

theorem turned9_any (w:World) (K:Lq) (hK:Key K) (d:Nat) (hd:d<256) (x y:Int):Kc 224 #[.agg (B K),.int .i64 (d:Int),.int .i64 x,.int .i64 y] w fun e w'=>e=.returned (.tuple #[.int .i64 (if kb K d=1 then y else x),.int .i64 (if kb K d=1 then x else y)])∧Kb w w':=by
  have HBT:Hid (∀w',Kc 180 #[.agg (B K),.int .i64 (d:Int)] w' fun e w''=>e=.returned (.int .i64 (kb K d))∧Below w'.heap.size w' w''):=fun w'=>by
    have:=bit_any K (d:Int) w' hK;rwa [kbi_in K _ hd] at this
  have HPS:Hid ((Tryz.prog.info? 63).map (·.size)=some (B K).size):=by show _=_;rw [B_size,hK.1];exact size_path
  have hq:=kb_two K d;generalize kb K d=q at HBT hq ⊢;clear hK hd;rcases hq with rfl | rfl
  · rw [if_neg (by omega),if_neg (by omega)]
    go_enter Tryz.func224,Tryz.ntmps224
    go_wp2_with (first
      |((with_reducible refine at_bxd 4 ?_);refine wpList_bx _ rfl _ _ rfl _ rfl ?_;intro w1 b5 hg5 hl5 B5 q5;have HB5:=hidden B5;have HQ5:=hidden q5;clear hg5 hl5 B5 q5)
      |((with_reducible refine at_ldd 10 4 ?_);refine wpList_ld _ rfl _ _ rfl b5 _ rfl HB5.out _ _ Tryz.underlying63 HPS.out ?_)
      |(go_at_call 180;refine (HBT.out _).mono ?_;rintro e w2 ⟨rfl,b2⟩;have HQ2:=hidden (grow_trans HQ5.out b2);clear b2))
    go_ret2;exact ⟨rfl,HQ2.out⟩
  · rw [if_pos rfl,if_pos rfl]
    go_enter Tryz.func224,Tryz.ntmps224
    go_wp2_with (first
      |((with_reducible refine at_bxd 4 ?_);refine wpList_bx _ rfl _ _ rfl _ rfl ?_;intro w1 b5 hg5 hl5 B5 q5;have HB5:=hidden B5;have HQ5:=hidden q5;clear hg5 hl5 B5 q5)
      |((with_reducible refine at_ldd 10 4 ?_);refine wpList_ld _ rfl _ _ rfl b5 _ rfl HB5.out _ _ Tryz.underlying63 HPS.out ?_)
      |(go_at_call 180;refine (HBT.out _).mono ?_;rintro e w2 ⟨rfl,b2⟩;have HQ2:=hidden (grow_trans HQ5.out b2);clear b2))
    go_ret2;exact ⟨rfl,HQ2.out⟩

end Go.Proofs.YtdjpigfibafokaaGreatDoor

namespace Go.Proofs.YtdjpigfibafokaaGreatDoor
variable {S fr l pend:List Nat}
variable {T:Tre}
variable {base c g gs h k m n room:Nat}
variable {cs cs0 cs1:Lz}
variable {mk:Bool}
variable {v:Value}
variable {w w' w0:World}
set_option maxHeartbeats 4000000
set_option maxRecDepth 20000
open Go.RowKit

def BesPost (ss:List Nat) (w:World) (e:Ending) (w':World):Prop:=
  ∃a c,e=.returned (.slice a ss.length c)∧w'.ownsRow w.heap.size 3 1 (.slice a ss.length c) ss.length (nats ss)∧Kb w w'

theorem beside_none (K:Lq) (hK:Key K) (a:Option Addr) (m c:Nat) (os:List Nat) (hlen:os.length=m) (h256:m≤256) (hat:∀k,k<m→∃(x o:Nat) (l r q:Int),(∃lb,a=some ⟨lb,0,none⟩∧w.cell? ⟨lb,k,none⟩=some (.int .i64 (x:Int)))∧os[k]?=some o∧(Kr w 132 #[v,.int .i64 (x:Int)] (.tuple #[.int .i64 l,.int .i64 r]))∧∀w',Kc 224 #[.agg (B K),.int .i64 (k:Int),.int .i64 l,.int .i64 r] w' fun e w''=>e=.returned (.tuple #[.int .i64 q,.int .i64 (o:Int)])∧Below w'.heap.size w' w''):Kc 221 #[v,.agg (B K),.slice a m c,.int .i64 0] w (BesPost os w):=by
  have HPost:Hid (∀a c w',w'.ownsRow w.heap.size 3 1 (.slice a m c) m (nats os)→Kb w w'→BesPost os w (.returned (.slice a m c)) w'):=fun a c w' h1 h2=>⟨a,c,by rw [hlen],by rw [hlen];exact h1,h2⟩
  have HPS:Hid ((Tryz.prog.info? 63).map (·.size)=some (B K).size):=by show _=_;rw [B_size,hK.1];exact size_path
  have HPL:=hidden (pth_ln K hK.1);have HAX:Hid (∀k,k<m→∃(x o:Nat) (l r q:Int),(∃lb,a=some ⟨lb,0,none⟩∧w.cell? ⟨lb,k,none⟩=some (.int .i64 (x:Int)))∧os[k]?=some o∧(Kr w 132 #[v,.int .i64 (x:Int)] (.tuple #[.int .i64 l,.int .i64 r]))∧∀w',Kc 224 #[.agg (B K),.int .i64 (k:Int),.int .i64 l,.int .i64 r] w' fun e w''=>e=.returned (.tuple #[.int .i64 q,.int .i64 (o:Int)])∧Below w'.heap.size w' w''):=hat;have HM256:=hidden h256;have HLEN:=hidden hlen;generalize HE:BesPost os w=P at HPost ⊢;clear hat hlen h256 hK;go_enter Tryz.func221,Tryz.ntmps221
  go_wp2_with (first
    |((with_reducible refine at_bxd 5 ?_);refine wpList_bx _ rfl _ _ rfl _ rfl ?_;intro w1 b5 hg5 hl5 B5 q5;have HB5:=hidden B5;have HQ5:=hidden q5;clear hg5 hl5 B5 q5))
  go_loopw [9,19] (fun sv iv wr=>∃(k:Nat) (sa:Option Addr) (sc:Nat),k≤m∧sv=.slice sa k sc∧iv=.int .i64 (k:Int)∧Hid (wr.ownsRow w1.heap.size 3 1 (.slice sa k sc) k (nats (os.take k)))∧Hid (Kb w1 wr)) (fun _ iv _=>m-(intOf iv).toNat)
  case atStart=>exact ⟨0,none,0,by omega,rfl,rfl,World.ownsRow_nil _ _ _ _,Below.refl _ _⟩
  case round=>
    obtain ⟨k,sa,sc,hk,rfl,rfl,hO,hB⟩:=hrel
    by_cases hlt:k<m
    · obtain ⟨x,o,l,r,q,hcx,ho,hsd,htn⟩:=HAX.out k hlt
      obtain ⟨lb,rfl,hcl0⟩:=hcx;have hcl:=below_cell (grow_trans HQ5.out hB.out) hcl0;have HSD:=hidden hsd;have HTN:=hidden htn;have HTK:Hid (os.take (k+1)=os.take k++[o]):=by
        show _=_;rw [List.take_add_one,ho];rfl
      generalize os.take k=pre at hO HTK;obtain ⟨oy,hoy⟩:∃y:Int,y=(o:Int):=⟨_,rfl⟩;rw [← hoy] at HTN;have HOY:=hidden hoy;have HK256:Hid (k+1≤256):=by have:=HM256.out;show _≤_;omega
      have k0:(0:Int)≤(k:Int):=by omega
      have k1:(k:Int)<(m:Int):=by omega
      have hk256:k<256:=by have:=HM256.out;omega
      have hwk:wrap64 ((k:Int)+1)=((k+1:Nat):Int):=by rw [Go.IntWalk.wrap64_in _ (by omega)];rfl
      generalize (x:Int)=xy at hcl HSD;clear hsd htn hcl0 ho hoy hk HPost
      go_wp2_with (first
        |(go_at_call 132;refine (HSD.out _ (grow_trans HQ5.out hB.out)).mono ?_;rintro e w3 ⟨rfl,b3⟩;have HBW3:=hidden (grow_trans hB.out b3);have HOO3:=hidden (owR_grow hO.out b3);clear b3)
        |((with_reducible refine at_ldd 31 5 ?_);refine wpList_ld _ rfl _ _ rfl b5 _ rfl (HB5.out.grow HBW3.out) _ _ Tryz.underlying63 HPS.out ?_)
        |(go_at_call 224;refine (HTN.out _).mono ?_;rintro e w4 ⟨rfl,b4⟩;have HBW4:=hidden (grow_trans HBW3.out b4);have HOO4:=hidden (owR_grow (owR_grow HOO3.out b4) (grow_alloc w4 (.cells #[.int .i64 oy] 3)));clear b4)
        |(at_builtin;refine wpList_appB _ rfl _ _ _ rfl w1.heap.size 3 1 8 Tryz.underlying45 info_nat (by omega) _ k (nats pre) rfl HOO4.out w4.heap.size [Value.int .i64 oy] rfl (Blk.new _ _ _) rfl (by intro u hu;simp at hu;subst hu;rfl) (by have:=HK256.out;simp only [maxLen];omega) (by have:=HK256.out;omega) (Nat.le_trans HBW4.out.size (by simp)) ?_;intro a6 c6 w6 o6 g6;have HO6:=hidden o6;have HB6:=hidden (owR_below (grow_trans HBW4.out (grow_alloc w4 (.cells #[.int .i64 oy] 3))) HOO4.out (Nat.le_refl _) g6);clear o6 g6))
      have ho6:=HO6.out;rw [HOY.out,← nats_snoc,← HTK.out] at ho6;exact ⟨⟨k+1,a6,c6,by omega,rfl,by go_num,ho6,HB6.out⟩,by simp [intOf];exact mea_step k1⟩
    · obtain rfl:k=m:=by omega
      have htk:os.take k=os:=List.take_of_length_le (by rw [HLEN.out];exact Nat.le_refl _);rw [htk] at hO;have nlt: ¬(k:Int)<(k:Int):=by omega
      clear htk hlt hk HAX
      go_wp2_with fail
      refine wp_region_held_drew (S:=fun w'=>Kb wr w') (by kernel_rfl) ((below_drewN (Below.refl _ _) 1)) (fun hHeld=>?_);refine tkp 0 (.int .i64 0) hHeld ?_;simp only [Act.put,zq1,zq2,zq4,zq5,zq6];refine tkp 1 (.bool true) hHeld ?_;simp only [Act.put,zq1,zq2,zq3,zq4,zq5,zq6];refine tkp 2 (.bool true) hHeld ?_;simp only [Act.put,zq1,zq2,zq3,zq4,zq5,zq6];refine tks 3 hHeld ?_;simp only [Act.put,zq1,zq2,zq3,zq4,zq5,zq6];refine tks 4 hHeld ?_;simp only [Act.put,zq1,zq2,zq3,zq4,zq5,zq6];refine tks 5 hHeld ?_;simp only [Act.put,zq1,zq2,zq3,zq4,zq5,zq6];refine tks 6 hHeld ?_;simp only [Act.put,zq1,zq2,zq3,zq4,zq5,zq6];refine tks 7 hHeld ?_;simp only [Act.put,zq1,zq2,zq3,zq4,zq5,zq6];refine tkp 8 (.bool true) hHeld ?_;simp only [Act.put,zq1,zq2,zq3,zq4,zq5,zq6];refine wpAnyH_done (by kernel_rfl) ?_ _;have HH:=hidden hHeld;clear hHeld;go_wp2
      exact HPost.out _ _ _ (owR_grow (owR_base hO.out HQ5.out.size) HH.out) (grow_trans (grow_trans HQ5.out hB.out) HH.out)

theorem beside_own (K:Lq) (hK:Key K) (a:Option Addr) (m c:Nat) (os:List Nat) (hlen:os.length=m) (h256:m≤256) (hat:∀k,k<m→∃(x o:Nat) (l r q:Int),(∃lb,a=some ⟨lb,0,none⟩∧w.cell? ⟨lb,k,none⟩=some (.int .i64 (x:Int)))∧os[k]?=some o∧(Kr w 132 #[v,.int .i64 (x:Int)] (.tuple #[.int .i64 l,.int .i64 r]))∧∀w',Kc 224 #[.agg (B K),.int .i64 (k:Int),.int .i64 l,.int .i64 r] w' fun e w''=>e=.returned (.tuple #[.int .i64 q,.int .i64 (o:Int)])∧Below w'.heap.size w' w'') (y:Int) (hy: ¬y=0) (HKY0:Kr w 150 #[v,.int .i64 y] (.agg (B K))):Kc 221 #[v,.agg (B K),.slice a m c,.int .i64 y] w (BesPost os w):=by
  have HPost:Hid (∀a c w',w'.ownsRow w.heap.size 3 1 (.slice a m c) m (nats os)→Kb w w'→BesPost os w (.returned (.slice a m c)) w'):=fun a c w' h1 h2=>⟨a,c,by rw [hlen],by rw [hlen];exact h1,h2⟩
  have HKY:=hidden HKY0;have hE:=path_eq K K hK.1 hK.1;simp only [decide_true] at hE;clear HKY0;have HPS:Hid ((Tryz.prog.info? 63).map (·.size)=some (B K).size):=by show _=_;rw [B_size,hK.1];exact size_path
  have HPL:=hidden (pth_ln K hK.1);have HAX:Hid (∀k,k<m→∃(x o:Nat) (l r q:Int),(∃lb,a=some ⟨lb,0,none⟩∧w.cell? ⟨lb,k,none⟩=some (.int .i64 (x:Int)))∧os[k]?=some o∧(Kr w 132 #[v,.int .i64 (x:Int)] (.tuple #[.int .i64 l,.int .i64 r]))∧∀w',Kc 224 #[.agg (B K),.int .i64 (k:Int),.int .i64 l,.int .i64 r] w' fun e w''=>e=.returned (.tuple #[.int .i64 q,.int .i64 (o:Int)])∧Below w'.heap.size w' w''):=hat;have HM256:=hidden h256;have HLEN:=hidden hlen;generalize HE:BesPost os w=P at HPost ⊢;clear hat hlen h256 hK;go_enter Tryz.func221,Tryz.ntmps221
  go_wp2_with (first
    |((with_reducible refine at_bxd 5 ?_);refine wpList_bx _ rfl _ _ rfl _ rfl ?_;intro w1 b5 hg5 hl5 B5 q5;have HB5:=hidden B5;have HQ5:=hidden q5;clear hg5 hl5 B5 q5))
  go_loopw [9,19] (fun sv iv wr=>∃(k:Nat) (sa:Option Addr) (sc:Nat),k≤m∧sv=.slice sa k sc∧iv=.int .i64 (k:Int)∧Hid (wr.ownsRow w1.heap.size 3 1 (.slice sa k sc) k (nats (os.take k)))∧Hid (Kb w1 wr)) (fun _ iv _=>m-(intOf iv).toNat)
  case atStart=>exact ⟨0,none,0,by omega,rfl,rfl,World.ownsRow_nil _ _ _ _,Below.refl _ _⟩
  case round=>
    obtain ⟨k,sa,sc,hk,rfl,rfl,hO,hB⟩:=hrel
    by_cases hlt:k<m
    · obtain ⟨x,o,l,r,q,hcx,ho,hsd,htn⟩:=HAX.out k hlt
      obtain ⟨lb,rfl,hcl0⟩:=hcx;have hcl:=below_cell (grow_trans HQ5.out hB.out) hcl0;have HSD:=hidden hsd;have HTN:=hidden htn;have HTK:Hid (os.take (k+1)=os.take k++[o]):=by
        show _=_;rw [List.take_add_one,ho];rfl
      generalize os.take k=pre at hO HTK;obtain ⟨oy,hoy⟩:∃y:Int,y=(o:Int):=⟨_,rfl⟩;rw [← hoy] at HTN;have HOY:=hidden hoy;have HK256:Hid (k+1≤256):=by have:=HM256.out;show _≤_;omega
      have k0:(0:Int)≤(k:Int):=by omega
      have k1:(k:Int)<(m:Int):=by omega
      have hk256:k<256:=by have:=HM256.out;omega
      have hwk:wrap64 ((k:Int)+1)=((k+1:Nat):Int):=by rw [Go.IntWalk.wrap64_in _ (by omega)];rfl
      generalize (x:Int)=xy at hcl HSD;clear hsd htn hcl0 ho hoy hk HPost
      go_wp2_with (first
        |(go_at_call 132;refine (HSD.out _ (grow_trans HQ5.out hB.out)).mono ?_;rintro e w3 ⟨rfl,b3⟩;have HBW3:=hidden (grow_trans hB.out b3);have HOO3:=hidden (owR_grow hO.out b3);clear b3)
        |((with_reducible refine at_ldd 31 5 ?_);refine wpList_ld _ rfl _ _ rfl b5 _ rfl (HB5.out.grow HBW3.out) _ _ Tryz.underlying63 HPS.out ?_)
        |(go_at_call 224;refine (HTN.out _).mono ?_;rintro e w4 ⟨rfl,b4⟩;have HBW4:=hidden (grow_trans HBW3.out b4);have HOO4:=hidden (owR_grow (owR_grow HOO3.out b4) (grow_alloc w4 (.cells #[.int .i64 oy] 3)));clear b4)
        |(at_builtin;refine wpList_appB _ rfl _ _ _ rfl w1.heap.size 3 1 8 Tryz.underlying45 info_nat (by omega) _ k (nats pre) rfl HOO4.out w4.heap.size [Value.int .i64 oy] rfl (Blk.new _ _ _) rfl (by intro u hu;simp at hu;subst hu;rfl) (by have:=HK256.out;simp only [maxLen];omega) (by have:=HK256.out;omega) (Nat.le_trans HBW4.out.size (by simp)) ?_;intro a6 c6 w6 o6 g6;have HO6:=hidden o6;have HB6:=hidden (owR_below (grow_trans HBW4.out (grow_alloc w4 (.cells #[.int .i64 oy] 3))) HOO4.out (Nat.le_refl _) g6);clear o6 g6))
      have ho6:=HO6.out;rw [HOY.out,← nats_snoc,← HTK.out] at ho6;exact ⟨⟨k+1,a6,c6,by omega,rfl,by go_num,ho6,HB6.out⟩,by simp [intOf];exact mea_step k1⟩
    · obtain rfl:k=m:=by omega
      have htk:os.take k=os:=List.take_of_length_le (by rw [HLEN.out];exact Nat.le_refl _);rw [htk] at hO;have nlt: ¬(k:Int)<(k:Int):=by omega
      clear htk hlt hk HAX
      go_wp2_with fail
      refine wp_region_held_drew (S:=fun w'=>Kb wr w') (by kernel_rfl) ((below_drewN (Below.refl _ _) 1)) (fun hHeld=>?_);refine tkp 0 (.int .i64 y) hHeld ?_;simp only [Act.put,zq1,zq2,zq4,zq5,zq6];refine tkp 1 (.bool false) hHeld ?_;simp only [Act.put,zq1,zq2,zq3,zq4,zq5,zq6];refine tkp 2 (.bool false) hHeld ?_;simp only [Act.put,zq1,zq2,zq3,zq4,zq5,zq6];refine tkp 3 v hHeld ?_;simp only [Act.put,zq1,zq2,zq3,zq4,zq5,zq6];refine tkp 4 (.int .i64 y) hHeld ?_;simp only [Act.put,zq1,zq2,zq3,zq4,zq5,zq6];refine tkg 6 (.agg (B K)) rfl (yieldsIf_load_mid rfl 63 (.tmp 5) rfl b5 0 rfl (B K).toList _ (fun w hS=>((HB5.out.grow hB.out).grow hS).range) Tryz.underlying63 rfl HPL.out) hHeld ?_;simp only [Act.put,zq1,zq2,zq3,zq4,zq5,zq6];refine wpAnyH_ready (rs:=[5]) (by kernel_rfl) (by simp) ?_;refine AllReadyH.cons rfl (fun KQ hK=>?_) AllReadyH.nil;go_simp;refine (HKY.out _ (grow_trans (grow_trans HQ5.out hB.out) hHeld)).mono ?_;rintro e z2 ⟨rfl,a2⟩;refine hK.out _ _ (grow_trans hHeld a2) (fun hHeld=>?_);clear hK KQ;refine tkp 7 (.bool true) hHeld ?_;simp only [Act.put,zq1,zq2,zq3,zq4,zq5,zq6];refine tkp 8 (.bool true) hHeld ?_;simp only [Act.put,zq1,zq2,zq3,zq4,zq5,zq6];refine wpAnyH_done (by kernel_rfl) ?_ _;have HH:=hidden hHeld;clear hHeld;go_wp2
      exact HPost.out _ _ _ (owR_grow (owR_base hO.out HQ5.out.size) HH.out) (grow_trans (grow_trans HQ5.out hB.out) HH.out)

theorem rep_snoc (os:List Nat) (j:Nat):(os++List.replicate j 0)++[0]=os++List.replicate (j+1) 0:=by
  rw [List.append_assoc,List.replicate_succ']

theorem beside_other (K:Lq) (hK:Key K) (a:Option Addr) (m c:Nat) (os:List Nat) (hlen:os.length=m) (h256:m≤256) (hat:∀k,k<m→∃(x o:Nat) (l r q:Int),(∃lb,a=some ⟨lb,0,none⟩∧w.cell? ⟨lb,k,none⟩=some (.int .i64 (x:Int)))∧os[k]?=some o∧(Kr w 132 #[v,.int .i64 (x:Int)] (.tuple #[.int .i64 l,.int .i64 r]))∧∀w',Kc 224 #[.agg (B K),.int .i64 (k:Int),.int .i64 l,.int .i64 r] w' fun e w''=>e=.returned (.tuple #[.int .i64 q,.int .i64 (o:Int)])∧Below w'.heap.size w' w'') (y:Nat) (hy: ¬(y:Int)=0) (k':Lq) (hk':Key k') (hne:k'≠K) (HKY0:Kr w 150 #[v,.int .i64 (y:Int)] (.agg (B k'))) (cm:Nat) (hcm:IsCommon K k' cm) (hcm1:m≤cm) (hcm2:cm<256):Kc 221 #[v,.agg (B K),.slice a m c,.int .i64 (y:Int)] w (BesPost (besX os cm y) w):=by
  have hbl:=besX_len os cm y (by rw [hlen];exact hcm1);have HPost:Hid (∀a c w',w'.ownsRow w.heap.size 3 1 (.slice a (cm+1) c) (cm+1) (nats (os++List.replicate (cm-m) 0++[y]))→Kb w w'→BesPost (besX os cm y) w (.returned (.slice a (cm+1) c)) w'):=fun a c w' h1 h2=>⟨a,c,by rw [hbl],by
    rw [hbl];rw [← hlen,List.append_assoc] at h1;exact h1,h2⟩
  have HKY:=hidden HKY0;have HCM:Hid (∀w',Kc 233 #[.agg (B K),.agg (B k')] w' fun e w''=>e=.returned (.int .i64 (cm:Int))∧Below w'.heap.size w' w''):=fun w'=>common_at K k' cm w' hK hk' hcm
  have hE:=path_eq k' K hk'.1 hK.1;simp only [hne,decide_false] at hE;obtain ⟨z,hz⟩:∃z:Int,z=(y:Int):=⟨_,rfl⟩;rw [← hz] at hy HKY ⊢;have HYN:=hidden hz;clear HKY0 hk' hne hcm hbl hz;have HPS:Hid ((Tryz.prog.info? 63).map (·.size)=some (B K).size):=by show _=_;rw [B_size,hK.1];exact size_path
  have HPL:=hidden (pth_ln K hK.1);have HAX:Hid (∀k,k<m→∃(x o:Nat) (l r q:Int),(∃lb,a=some ⟨lb,0,none⟩∧w.cell? ⟨lb,k,none⟩=some (.int .i64 (x:Int)))∧os[k]?=some o∧(Kr w 132 #[v,.int .i64 (x:Int)] (.tuple #[.int .i64 l,.int .i64 r]))∧∀w',Kc 224 #[.agg (B K),.int .i64 (k:Int),.int .i64 l,.int .i64 r] w' fun e w''=>e=.returned (.tuple #[.int .i64 q,.int .i64 (o:Int)])∧Below w'.heap.size w' w''):=hat;have HM256:=hidden h256;have HLEN:=hidden hlen;generalize HE:BesPost (besX os cm y) w=P at HPost ⊢;clear hat hlen h256 hK;go_enter Tryz.func221,Tryz.ntmps221
  go_wp2_with (first
    |((with_reducible refine at_bxd 5 ?_);refine wpList_bx _ rfl _ _ rfl _ rfl ?_;intro w1 b5 hg5 hl5 B5 q5;have HB5:=hidden B5;have HQ5:=hidden q5;clear hg5 hl5 B5 q5))
  go_loopw [9,19] (fun sv iv wr=>∃(k:Nat) (sa:Option Addr) (sc:Nat),k≤m∧sv=.slice sa k sc∧iv=.int .i64 (k:Int)∧Hid (wr.ownsRow w1.heap.size 3 1 (.slice sa k sc) k (nats (os.take k)))∧Hid (Kb w1 wr)) (fun _ iv _=>m-(intOf iv).toNat)
  case atStart=>exact ⟨0,none,0,by omega,rfl,rfl,World.ownsRow_nil _ _ _ _,Below.refl _ _⟩
  case round=>
    obtain ⟨k,sa,sc,hk,rfl,rfl,hO,hB⟩:=hrel
    by_cases hlt:k<m
    · obtain ⟨x,o,l,r,q,hcx,ho,hsd,htn⟩:=HAX.out k hlt
      obtain ⟨lb,rfl,hcl0⟩:=hcx;have hcl:=below_cell (grow_trans HQ5.out hB.out) hcl0;have HSD:=hidden hsd;have HTN:=hidden htn;have HTK:Hid (os.take (k+1)=os.take k++[o]):=by
        show _=_;rw [List.take_add_one,ho];rfl
      generalize os.take k=pre at hO HTK;obtain ⟨oy,hoy⟩:∃y:Int,y=(o:Int):=⟨_,rfl⟩;rw [← hoy] at HTN;have HOY:=hidden hoy;have HK256:Hid (k+1≤256):=by have:=HM256.out;show _≤_;omega
      have k0:(0:Int)≤(k:Int):=by omega
      have k1:(k:Int)<(m:Int):=by omega
      have hk256:k<256:=by have:=HM256.out;omega
      have hwk:wrap64 ((k:Int)+1)=((k+1:Nat):Int):=by rw [Go.IntWalk.wrap64_in _ (by omega)];rfl
      generalize (x:Int)=xy at hcl HSD;clear hsd htn hcl0 ho hoy hk HPost
      go_wp2_with (first
        |(go_at_call 132;refine (HSD.out _ (grow_trans HQ5.out hB.out)).mono ?_;rintro e w3 ⟨rfl,b3⟩;have HBW3:=hidden (grow_trans hB.out b3);have HOO3:=hidden (owR_grow hO.out b3);clear b3)
        |((with_reducible refine at_ldd 31 5 ?_);refine wpList_ld _ rfl _ _ rfl b5 _ rfl (HB5.out.grow HBW3.out) _ _ Tryz.underlying63 HPS.out ?_)
        |(go_at_call 224;refine (HTN.out _).mono ?_;rintro e w4 ⟨rfl,b4⟩;have HBW4:=hidden (grow_trans HBW3.out b4);have HOO4:=hidden (owR_grow (owR_grow HOO3.out b4) (grow_alloc w4 (.cells #[.int .i64 oy] 3)));clear b4)
        |(at_builtin;refine wpList_appB _ rfl _ _ _ rfl w1.heap.size 3 1 8 Tryz.underlying45 info_nat (by omega) _ k (nats pre) rfl HOO4.out w4.heap.size [Value.int .i64 oy] rfl (Blk.new _ _ _) rfl (by intro u hu;simp at hu;subst hu;rfl) (by have:=HK256.out;simp only [maxLen];omega) (by have:=HK256.out;omega) (Nat.le_trans HBW4.out.size (by simp)) ?_;intro a6 c6 w6 o6 g6;have HO6:=hidden o6;have HB6:=hidden (owR_below (grow_trans HBW4.out (grow_alloc w4 (.cells #[.int .i64 oy] 3))) HOO4.out (Nat.le_refl _) g6);clear o6 g6))
      have ho6:=HO6.out;rw [HOY.out,← nats_snoc,← HTK.out] at ho6;exact ⟨⟨k+1,a6,c6,by omega,rfl,by go_num,ho6,HB6.out⟩,by simp [intOf];exact mea_step k1⟩
    · obtain rfl:k=m:=by omega
      have htk:os.take k=os:=List.take_of_length_le (by rw [HLEN.out];exact Nat.le_refl _);rw [htk] at hO;have nlt: ¬(k:Int)<(k:Int):=by omega
      clear htk hlt hk HAX
      go_wp2_with fail
      refine wp_region_held_drew (S:=fun w'=>Kb wr w') (by kernel_rfl) ((below_drewN (Below.refl _ _) 1)) (fun hHeld=>?_);refine tkp 0 (.int .i64 z) hHeld ?_;simp only [Act.put,zq1,zq2,zq4,zq5,zq6];refine tkp 1 (.bool false) hHeld ?_;simp only [Act.put,zq1,zq2,zq3,zq4,zq5,zq6];refine tkp 2 (.bool false) hHeld ?_;simp only [Act.put,zq1,zq2,zq3,zq4,zq5,zq6];refine tkp 3 v hHeld ?_;simp only [Act.put,zq1,zq2,zq3,zq4,zq5,zq6];refine tkp 4 (.int .i64 z) hHeld ?_;simp only [Act.put,zq1,zq2,zq3,zq4,zq5,zq6];refine tkg 6 (.agg (B K)) rfl (yieldsIf_load_mid rfl 63 (.tmp 5) rfl b5 0 rfl (B K).toList _ (fun w hS=>((HB5.out.grow hB.out).grow hS).range) Tryz.underlying63 rfl HPL.out) hHeld ?_;simp only [Act.put,zq1,zq2,zq3,zq4,zq5,zq6];refine wpAnyH_ready (rs:=[5]) (by kernel_rfl) (by simp) ?_;refine AllReadyH.cons rfl (fun KQ hK=>?_) AllReadyH.nil;go_simp;refine (HKY.out _ (grow_trans (grow_trans HQ5.out hB.out) hHeld)).mono ?_;rintro e z2 ⟨rfl,a2⟩;refine hK.out _ _ (grow_trans hHeld a2) (fun hHeld=>?_);clear hK KQ;refine tkp 7 (.bool false) hHeld ?_;simp only [Act.put,zq1,zq2,zq3,zq4,zq5,zq6];refine tkp 8 (.bool false) hHeld ?_;simp only [Act.put,zq1,zq2,zq3,zq4,zq5,zq6];refine wpAnyH_done (by kernel_rfl) ?_ _;have HZ0:=hidden (grow_trans hB.out hHeld);have HO0:=hidden (owR_grow hO.out hHeld);clear hHeld hO hB
      go_wp2_with fail
      refine wp_region_held_drew (S:=fun w'=>Kb z2 w') (by kernel_rfl) ((below_drewN (Below.refl _ _) 1)) (fun hHeld=>?_);refine tkg 0 (.agg (B K)) rfl (yieldsIf_load_mid rfl 63 (.tmp 5) rfl b5 0 rfl (B K).toList _ (fun w hS=>((HB5.out.grow HZ0.out).grow hS).range) Tryz.underlying63 rfl HPL.out) hHeld ?_;simp only [Act.put,zq1,zq2,zq4,zq5,zq6];refine tkp 1 v hHeld ?_;simp only [Act.put,zq1,zq2,zq3,zq4,zq5,zq6];refine tkp 2 (.int .i64 z) hHeld ?_;simp only [Act.put,zq1,zq2,zq3,zq4,zq5,zq6];refine wpAnyH_ready (rs:=[3]) (by kernel_rfl) (by simp) ?_;refine AllReadyH.cons rfl (fun KQ hK=>?_) AllReadyH.nil;go_simp;refine (HKY.out _ (grow_trans (grow_trans HQ5.out HZ0.out) hHeld)).mono ?_;rintro e z4 ⟨rfl,a4⟩;refine hK.out _ _ (grow_trans hHeld a4) (fun hHeld=>?_);clear hK KQ;refine wpAnyH_ready (rs:=[4]) (by kernel_rfl) (by simp) ?_;refine AllReadyH.cons rfl (fun KQ hK=>?_) AllReadyH.nil;go_simp;refine (HCM.out _).mono ?_;rintro e z5 ⟨rfl,a5⟩;refine hK.out _ _ (grow_trans hHeld a5) (fun hHeld=>?_);clear hK KQ;refine tkp 5 (.int .i64 (cm:Int)) hHeld ?_;simp only [Act.put,zq1,zq2,zq3,zq4,zq5,zq6];refine wpAnyH_done (by kernel_rfl) ?_ _;have HZ1:=hidden (grow_trans HZ0.out hHeld);have HO1:=hidden (owR_grow HO0.out hHeld);clear hHeld HZ0 HO0 HKY HCM HPL HPS;have H1:=hidden hcm1;have H2:=hidden hcm2;clear hcm1 hcm2
      go_wp2_with fail
      go_loopw [9] (fun sv wr=>∃(j:Nat) (sa:Option Addr) (sc:Nat),j≤256∧sv=.slice sa j sc∧Hid (k≤j∧j≤cm)∧Hid (wr.ownsRow w1.heap.size 3 1 (.slice sa j sc) j (nats (os++List.replicate (j-k) 0)))∧Hid (Kb w1 wr)) (fun sv _=>cm-sLen sv)
      case atStart=>exact ⟨k,sa,sc,by have:=HM256.out;exact this,rfl,⟨Nat.le_refl _,H1.out⟩,by have:=HO1.out;rw [Nat.sub_self,List.replicate_zero,List.append_nil];exact this,HZ1.out⟩
      case round=>
        clear HO1 HZ1;obtain ⟨j,ja,jc,hj,rfl,hJ,HOJ,HBJ⟩:=hrel
        by_cases hlt:j<cm
        · have HJ256:Hid (j+1≤256):=by have:=H2.out;show _≤_;omega
          have j1:(j:Int)<(cm:Int):=by omega
          have HOA:=hidden (owR_grow HOJ.out (grow_alloc wr (.cells #[.int .i64 0] 3)))
          go_wp2_with (first
            |(at_builtin;refine wpList_appB _ rfl _ _ _ rfl w1.heap.size 3 1 8 Tryz.underlying45 info_nat (by omega) _ j (nats (os++List.replicate (j-k) 0)) rfl HOA.out wr.heap.size [Value.int .i64 0] rfl (Blk.new _ _ _) rfl (by intro u hu;simp at hu;subst hu;rfl) (by have:=HJ256.out;simp only [maxLen];omega) (by have:=HJ256.out;omega) (Nat.le_trans HBJ.out.size (by simp)) ?_;intro a6 c6 w6 o6 g6;have HO6:=hidden o6;have HB6:=hidden (owR_below (grow_trans HBJ.out (grow_alloc wr (.cells #[.int .i64 0] 3))) HOA.out (Nat.le_refl _) g6);clear o6 g6))
          have ho6:=HO6.out;have e6:nats (os++List.replicate (j-k) 0)++[Value.int .i64 0]=nats (os++List.replicate (j+1-k) 0):=by
            rw [show j+1-k=(j-k)+1 by have:=hJ.out.1;omega,← rep_snoc,nats_snoc];rfl
          rw [e6] at ho6;exact ⟨⟨j+1,a6,c6,by have:=HJ256.out;exact this,rfl,⟨by have:=hJ.out.1;omega,by omega⟩,ho6,HB6.out⟩,by simp only [sLen];omega⟩
        · obtain rfl:j=cm:=by have:=hJ.out.2;omega
          have nlt: ¬(j:Int)<(j:Int):=by omega
          have HJ256:Hid (j+1≤256):=by have:=H2.out;show _≤_;omega
          have HOA:=hidden (owR_grow HOJ.out (grow_alloc wr (.cells #[.int .i64 z] 3)))
          go_wp2_with (first
            |(at_builtin;refine wpList_appB _ rfl _ _ _ rfl w1.heap.size 3 1 8 Tryz.underlying45 info_nat (by omega) _ j (nats (os++List.replicate (j-k) 0)) rfl HOA.out wr.heap.size [Value.int .i64 z] rfl (Blk.new _ _ _) rfl (by intro u hu;simp at hu;subst hu;rfl) (by have:=HJ256.out;simp only [maxLen];omega) (by have:=HJ256.out;omega) (Nat.le_trans HBJ.out.size (by simp)) ?_;intro a6 c6 w6 o6 g6;have HO6:=hidden o6;have HB6:=hidden (owR_below (grow_trans HBJ.out (grow_alloc wr (.cells #[.int .i64 z] 3))) HOA.out (Nat.le_refl _) g6);clear o6 g6))
          have ho6:=HO6.out;rw [HYN.out,← nats_snoc] at ho6;exact HPost.out _ _ _ (owR_base ho6 HQ5.out.size) (grow_trans HQ5.out HB6.out)

def Ints9 (w:World) (a:Option Addr) (l:List Nat):Prop:=∀k,k<l.length→∃g,a=some ⟨g,0,none⟩∧w.cell? ⟨g,k,none⟩=some (.int .i64 (l.getD k 0:Int))
theorem Ints9.grow {a:Option Addr} (h:Ints9 w a l) (hb:Kb w w'):Ints9 w' a l:=fun k hk=>by
  obtain ⟨g,h1,h2⟩:=h k hk;exact ⟨g,h1,below_cell hb h2⟩
theorem ints9_lst {a:Option Addr} (h:Lst w 3 1 (.slice a n c) n (nats l)) (hn:n=l.length):Ints9 w a l:=fun k hk=>by
  obtain ⟨g,c',e,_⟩:=lst_pos h (by omega);injection e with e1 e2 e3;subst e1;refine ⟨g,rfl,?_⟩;rw [lst_cell h k (by omega),nats_get l k hk]
theorem ints9_kq {a:Option Addr} (h:w.ownsRow base 3 1 (.slice a n c) n (nats l)) (hn:n=l.length) (hS:∀g,(Value.slice a n c).ownBlock=some g→g ∉ S):Kq S w (fun w'=>Ints9 w' a l):=fun _ m=>ints9_lst (owR_lst (owR_mod h m hS)) hn

theorem countable_any {ct:Int→Nat} {ca:Int→Ce} (V:Vw w v true ct ca) (hct:∀q,ct q<1073741824) (a1 a2:Option Addr) (n1 n2 c1 c2:Nat) (l1 l2:List Nat) (h1:Ints9 w a1 l1) (h2:Ints9 w a2 l2) (e1:n1=l1.length) (e2:n2=l2.length) (m1:n1≤256) (m2:n2≤257):Kc 222 #[v,.slice a1 n1 c1,.slice a2 n2 c2] w fun e w'=>e=.returned (.bool true)∧Kb w w':=by
  have HCT:Hid (∀w' (q:Int),Kb w w'→∃n:Int,n<1073741824∧Kc 72 #[v,.int .i64 q] w' fun e w''=>e=.returned (.int .i64 n)∧w''=w'):=fun w' q hb=>⟨(ct q:Int),by have:=hct q;omega,V.count w' q hb⟩
  have H1:Hid (∀w' k,Kb w w'→k<n1→∃g,a1=some ⟨g,0,none⟩∧∃x:Int,w'.cell? ⟨g,k,none⟩=some (.int .i64 x)):=fun w' k hb hk=>by
    obtain ⟨g,q1,q2⟩:=h1.grow hb k (by omega);exact ⟨g,q1,_,q2⟩
  have H2:Hid (∀w' k,Kb w w'→k<n2→∃g,a2=some ⟨g,0,none⟩∧∃x:Int,w'.cell? ⟨g,k,none⟩=some (.int .i64 x)):=fun w' k hb hk=>by
    obtain ⟨g,q1,q2⟩:=h2.grow hb k (by omega);exact ⟨g,q1,_,q2⟩
  have HM1:=hidden m1;have HM2:=hidden m2;clear V hct h1 h2 e1 e2 m1 m2;go_enter Tryz.func222,Tryz.ntmps222
  go_wp2_with fail
  go_loopw [7,12] (fun sv iv wr=>∃(k:Nat) (b:Bool),k≤n2∧sv=.bool b∧iv=.int .i64 (k:Int)∧Hid (Kb w wr)) (fun _ iv _=>n2-(intOf iv).toNat)
  case atStart=>exact ⟨0,false,by omega,rfl,rfl,Below.refl _ _⟩
  case round=>
    obtain ⟨k,b,hk,rfl,rfl,hB⟩:=hrel
    by_cases hlt:k<n2
    · obtain ⟨g2,rfl,x2,hc2⟩:=H2.out wr k hB.out hlt
      obtain ⟨y2,hy2,HC2⟩:=HCT.out wr x2 hB.out;have HC2:=hidden HC2;have k0:(0:Int)≤(k:Int):=by omega
      have k1:(k:Int)<(n2:Int):=by omega
      have hk257:k<257:=by have:=HM2.out;omega
      have hwk:wrap64 ((k:Int)+1)=((k+1:Nat):Int):=by rw [Go.IntWalk.wrap64_in _ (by omega)];rfl
      have y3: ¬y2=1073741824:=by omega
      clear hy2 hk
      by_cases hl1:k<n1
      · obtain ⟨g1,rfl,x1,hc1⟩:=H1.out wr k hB.out hl1
        obtain ⟨y1,hy1,HC1⟩:=HCT.out wr x1 hB.out;have HC1:=hidden HC1;have l1:(k:Int)<(n1:Int):=by omega
        clear hy1;cases b with
        | true=>
          go_wp2_with (first
            |(go_at_call 72;refine HC2.out.mono ?_;rintro e w' ⟨rfl,hx⟩;rw [hx];clear hx w'))
          exact ⟨⟨k+1,true,by omega,rfl,by go_num,hB.out⟩,by simp [intOf];exact mea_step k1⟩
        | false=>
          by_cases y4:1<y1
          · go_wp2_with (first
              |(go_at_call 72;have mk:=mk1;clear mk;refine HC2.out.mono ?_;rintro e w' ⟨rfl,hx⟩;rw [hx];clear hx w')
              |(go_at_call 72;refine HC1.out.mono ?_;rintro e w' ⟨rfl,hx⟩;rw [hx];clear hx w';have mk1:Hid True:=trivial))
            exact ⟨⟨k+1,true,by omega,rfl,by go_num,hB.out⟩,by simp [intOf];exact mea_step k1⟩
          · go_wp2_with (first
              |(go_at_call 72;refine HC1.out.mono ?_;rintro e w' ⟨rfl,hx⟩;rw [hx];clear hx w'))
            exact ⟨⟨k+1,false,by omega,rfl,by go_num,hB.out⟩,by simp [intOf];exact mea_step k1⟩
      · have l1: ¬(k:Int)<(n1:Int):=by omega
        cases b with
        | true=>
          go_wp2_with (first
            |(go_at_call 72;refine HC2.out.mono ?_;rintro e w' ⟨rfl,hx⟩;rw [hx];clear hx w'))
          exact ⟨⟨k+1,true,by omega,rfl,by go_num,hB.out⟩,by simp [intOf];exact mea_step k1⟩
        | false=>
          go_wp2_with fail
          exact ⟨⟨k+1,false,by omega,rfl,by go_num,hB.out⟩,by simp [intOf];exact mea_step k1⟩
    · obtain rfl:k=n2:=by omega
      have nlt: ¬(k:Int)<(k:Int):=by omega
      go_wp2_with fail
      go_ret;exact ⟨rfl,hB.out⟩

theorem holdM_take (cs:Lz) (ss:List Nat) (k:Nat) (hk:k<ss.length):holdM cs (ss.take (k+1))=if ss.getD k 0=0 then holdM cs (ss.take k) else moreC (holdM cs (ss.take k)) (ss.getD k 0-1):=by
  rw [List.take_add_one,List.getElem?_eq_getElem hk];show holdM cs (ss.take k++[ss[k]])=_;rw [holdM_snoc];have e:ss.getD k 0=ss[k]:=by rw [List.getD_eq_getElem?_getD,List.getElem?_eq_getElem hk];rfl
  rw [e]

theorem holdAll_any (h:Hs w S w g gs room cs fr) (a:Option Addr) (n c:Nat) (ss:List Nat) (hI:Kq S w (fun w'=>Ints9 w' a ss)) (hn:n=ss.length) (h257:n≤257) (hv:∀x∈ss,x=0∨0<cc cs (x-1)) (hc:0<n→∀i,cc cs i+n<1073741824):Kc 158 #[.pointer (some ⟨g,0,none⟩),.slice a n c] w fun e w'=>e=.returned (.slice none 0 0)∧Hs w S w' g gs room (holdM cs ss) fr:=by
  have HST:Hid (∀wr k,k<n→Hs w S wr g gs room (holdM cs (ss.take k)) fr→∃lb x,a=some ⟨lb,0,none⟩∧wr.cell? ⟨lb,k,none⟩=some (.int .i64 x)∧∃q:Int,¬q=4∧Kc 96 #[.pointer (some ⟨g,0,none⟩),.int .i64 x] wr fun e w'=>e=.returned (.int .i64 q)∧Hs w S w' g gs room (holdM cs (ss.take (k+1))) fr):=fun wr k hk hh=>by
    obtain ⟨lb,e1,e2⟩:=hh.kq hI k (by omega);refine ⟨lb,_,e1,e2,?_⟩;rw [holdM_take cs ss k (by omega)];have hm:=hm_ok h.2 k (ss.take k) (by rw [List.length_take];omega) (fun x hx=>hv x (List.mem_of_mem_take hx));have hmem:ss.getD k 0∈ss:=by rw [List.getD_eq_getElem?_getD,List.getElem?_eq_getElem (by omega)];exact List.getElem_mem _
    by_cases h0:ss.getD k 0=0
    · rw [if_pos h0,h0]
      exact ⟨7,by omega,hs_hold_bad hh 0 rfl⟩
    · rw [if_neg h0]
      have hcp:=(hv _ hmem).resolve_left h0;have hx:=hs_hold hh (ss.getD k 0-1) (by rw [hm.cc];omega) (by
        rw [hm.cc];have h1:=hc (by omega) (ss.getD k 0-1);have h2:=List.count_le_length (a:=ss.getD k 0-1+1) (l:=ss.take k);rw [List.length_take] at h2;omega)
      rw [show (((ss.getD k 0-1:Nat):Int)+1)=((ss.getD k 0:Nat):Int) by omega] at hx;exact ⟨0,by omega,hx⟩
  have HTK:Hid (ss.take n=ss):=List.take_of_length_le (by omega);have HH0:Hid (Hs w S w g gs room (holdM cs (ss.take 0)) fr):=h;have HM:=hidden h257;clear h hI hn h257 hv hc;go_enter Tryz.func158,Tryz.ntmps158
  go_wp2_with fail
  go_loopw [4,9] (fun lv iv wr=>∃(k:Nat),k≤n∧lv=.slice none 0 0∧iv=.int .i64 (k:Int)∧Hid (Hs w S wr g gs room (holdM cs (ss.take k)) fr)) (fun _ iv _=>n-(intOf iv).toNat)
  case atStart=>exact ⟨0,by omega,rfl,rfl,HH0.out⟩
  case round=>
    clear HH0;obtain ⟨k,hk,rfl,rfl,HH⟩:=hrel
    by_cases hlt:k<n
    · obtain ⟨lb,x,rfl,hcl,q,hq,hcall⟩:=HST.out wr k hlt HH.out
      have HC:=hidden hcall;have k0:(0:Int)≤(k:Int):=by omega
      have k1:(k:Int)<(n:Int):=by omega
      have hk257:k<257:=by have:=HM.out;omega
      have hwk:wrap64 ((k:Int)+1)=((k+1:Nat):Int):=by rw [Go.IntWalk.wrap64_in _ (by omega)];rfl
      clear hcall hk
      go_wp2_with (first
        |(go_at_call 96;refine HC.out.mono ?_;rintro e w2 ⟨rfl,hs2⟩;have HS2:=hidden hs2;clear hs2))
      exact ⟨⟨k+1,by omega,rfl,by go_num,HS2.out⟩,by simp [intOf];exact mea_step k1⟩
    · obtain rfl:k=n:=by omega
      have nlt: ¬(k:Int)<(k:Int):=by omega
      rw [HTK.out] at HH
      go_wp2_with fail
      go_ret;exact ⟨rfl,HH.out⟩

end Go.Proofs.YtdjpigfibafokaaGreatDoor

namespace Go.Proofs.YtdjpigfibafokaaGreatDoor
variable {S fr l pend:List Nat}
variable {T:Tre}
variable {base c g gs h k m n room:Nat}
variable {cs cs0 cs1:Lz}
variable {mk:Bool}
variable {v:Value}
variable {w w' w0:World}
set_option maxHeartbeats 4000000
set_option maxRecDepth 20000
open Go.RowKit

section
variable {w w1 w2:World} {S:List Nat} {g gs room:Nat} {cs:Lz} {fr:List Nat}
theorem Hs.rebase (h:Hs w S w g gs room cs fr) (hb:Kb w w1):Hs w1 S w1 g gs room cs fr:=by
  obtain ⟨⟨vp,vf,s,m,n⟩,W⟩:=h;refine ⟨⟨vp,vf,s.grow hb,Mod.refl _ _,fun k hk=>?_⟩,W⟩;rcases n k hk with q | q
  · exact .inl q
  · have:=s.lts k hk
    omega
theorem Hs.back (hb:Kb w w1) (h:Hs w1 S w2 g gs room cs fr):Hs w S w2 g gs room cs fr:=by
  obtain ⟨⟨vp,vf,s,m,n⟩,W⟩:=h;refine ⟨⟨vp,vf,s,(Mod.of_below hb S).trans' m,fun k hk=>?_⟩,W⟩;rcases n k hk with q | q
  · exact .inl q
  · exact .inr (Nat.le_trans hb.size q)
end

def RaPost (w:World) (S:List Nat) (g gs room:Nat) (cs0 cs1:Lz) (fr:List Nat) (E:List Ent) (K bs:Lq) (ss:List Nat) (e:Ending) (w':World):Prop:=
  ∃(top:Nat) (v':Value) (cs2:Lz) (fr2:List Nat),e=.returned (.int .i64 (top:Int))∧CeOk (lfC (lfD K (vaD bs)) K v' bs)∧Rz K ss (tkC cs1 fr (1,lfC (lfD K (vaD bs)) K v' bs)) fr.dropLast (tkH cs1 fr) cs2 fr2 top∧RzI cs0 E K bs ss 0 cs2 top∧Hs w S w' g gs room cs2 fr2

theorem raise_any (h:Hs w S w g gs room cs1 fr) (hS:∀k∈S,k<w.heap.size) (W0:Wf cs0 []) {E:List Ent} {K bs:Lq} {ss:List Nat} (hK:Key K) (b:BesOk cs0 E K ss) (hm:HmOk cs0 ss cs1) (hroom:noc cs0+258≤room) (a:Option Addr) (n c:Nat) (hn:n=ss.length) (hI:Kq S w (fun w'=>Ints9 w' a ss)) (hL:Kq S w Laid) (v:Value) (hR:Kq S w (fun w'=>Reads w' v bs)) (hl:bs.length≤1024):
    Kc 159 #[.pointer (some ⟨g,0,none⟩),.agg (B K),v,.slice a n c] w (RaPost w S g gs room cs0 cs1 fr E K bs ss):=by
  have h256:n≤256:=by rw [hn];exact b.len
  have HPS:Hid ((Tryz.prog.info? 63).map (·.size)=some (B K).size):=by show _=_;rw [B_size,hK.1];exact size_path
  have HPL:=hidden (pth_ln K hK.1);have hbs:Bytes bs:=by obtain ⟨_,_,_,_,_,hb,_⟩:=hR.now;exact hb
  have hfu: ¬Full room cs1 fr:=h.free (by rw [hm.noc];omega);have HLF:Hid (∀w1,Kb w w1→Kc 223 #[.pointer (some ⟨g,0,none⟩),.agg (B K),v] w1 fun e w'=>∃v',e=.returned (.tuple #[.int .i64 (tkH cs1 fr:Int),.int .i64 0])∧CeOk (lfC (lfD K (vaD bs)) K v' bs)∧Hs w1 S w' g gs room (tkC cs1 fr (1,lfC (lfD K (vaD bs)) K v' bs)) fr.dropLast):=fun w1 hb=>hs_leaf (h.rebase hb) K v bs ((hR.grow hb).now) hK ((hL.grow hb).now) hl hfu
  have HI0:Hid (∀v',CeOk (lfC (lfD K (vaD bs)) K v' bs)→RzI cs0 E K bs ss n (tkC cs1 fr (1,lfC (lfD K (vaD bs)) K v' bs)) (tkH cs1 fr)):=fun v' ok=>by
    rw [hn];exact rzi_leaf W0 b hm h.frok v' hbs hl ok
  have HTK:Hid (ss.take n=ss):=List.take_of_length_le (by omega);have HRD:Hid (∀w1,Kb w w1→∀wr (m:Nat) cs fr' (top:Nat),m<n→Hs w1 S wr g gs room cs fr'→RzI cs0 E K bs ss (m+1) cs top→∃(lb s:Nat),a=some ⟨lb,0,none⟩∧wr.cell? ⟨lb,m,none⟩=some (.int .i64 (s:Int))∧(ss.take (m+1)=ss.take m++[s])∧(∀z,Kc 224 #[.agg (B K),.int .i64 (m:Int),.int .i64 (top:Int),.int .i64 (s:Int)] z fun e z'=>e=.returned (.tuple #[.int .i64 (tl K m top s:Int),.int .i64 (tr K m top s:Int)])∧Kb z z')∧
      ∀z,Kb wr z→Kc 225 #[.pointer (some ⟨g,0,none⟩),.int .i64 (m:Int),.int .i64 (tl K m top s:Int),.int .i64 (tr K m top s:Int)] z fun e z'=>∃cs',e=.returned (.tuple #[.int .i64 (tkH cs fr':Int),.int .i64 0])∧InnR cs fr' m (tl K m top s) (tr K m top s) cs'∧RzI cs0 E K bs ss m cs' (tkH cs fr')∧Hs w1 S z' g gs room cs' fr'.dropLast):=fun w1 hb wr m cs fr' top hmn hh hi=>by
    obtain ⟨lb,e1,e2⟩:=hh.kq (hI.grow hb) m (by omega);have hml:m<ss.length:=by omega
    have hm256:m<256:=by omega
    refine ⟨lb,ss.getD m 0,e1,e2,?_,fun z=>?_,fun z hz=>?_⟩
    · rw [List.take_add_one,List.getElem?_eq_getElem hml,List.getD_eq_getElem?_getD,List.getElem?_eq_getElem hml]
      rfl
    · have:=turned9_any z K hK m hm256 (top:Int) (ss.getD m 0:Int)
      unfold tl tr
      by_cases q:kb K m=1
      · simp only [q,if_true] at this ⊢
        exact this
      · simp only [q,if_false] at this ⊢
        exact this
    · obtain ⟨ml,mr,u,hu,hf,hst⟩:=rzi_fit b hml hi
      have hz2:=hh.grow hz;refine (hs_inner hz2 m _ _ hm256 ml mr u hu hf (hz2.kq (hL.grow hb)) (hz2.free (by have:=hi.noc;omega))).mono ?_;rintro e z' ⟨cs',hin,rfl,hs'⟩;exact ⟨cs',rfl,hin,hst fr' cs' hz2.frok hin hs'.2,hs'⟩
  have HPost:Hid (∀w1,Kb w w1→∀(v':Value) wr (top:Nat) cs2 fr2,CeOk (lfC (lfD K (vaD bs)) K v' bs)→Rz K ss (tkC cs1 fr (1,lfC (lfD K (vaD bs)) K v' bs)) fr.dropLast (tkH cs1 fr) cs2 fr2 top→RzI cs0 E K bs ss 0 cs2 top→Hs w1 S wr g gs room cs2 fr2→RaPost w S g gs room cs0 cs1 fr E K bs ss (.returned (.int .i64 (top:Int))) wr):=fun w1 hb v' wr top cs2 fr2 h1 h2 h3 h4=>⟨top,v',cs2,fr2,rfl,h1,h2,h3,Hs.back hb h4⟩
  generalize RaPost w S g gs room cs0 cs1 fr E K bs ss=P at HPost ⊢;have HS:=hidden hS;have HKE:Hid (Key K):=hK;have HM:=hidden h256;have hwn:wrap64 ((n:Int)-1)=(n:Int)-1:=Go.IntWalk.wrap64_in _ (by omega);have HNS:=hidden hn;have HV:Hid (∃va vn vc,v=.slice va vn vc):=by obtain ⟨va,vc,e,_⟩:=hR.now;exact ⟨va,_,vc,e⟩
  obtain ⟨va,vn,vc,hve⟩:=HV.out;subst hve;clear h hS W0 b hm hroom hn hI hL hR hl h256 hbs hfu hK HV;go_enter Tryz.func159,Tryz.ntmps159
  go_wp2_with (first
    |((with_reducible refine at_bxd 5 ?_);refine wpList_bx _ rfl _ _ rfl _ rfl ?_;intro w1 b5 hg5 hl5 B5 q5;have HB5:=hidden B5;have HQ5:=hidden q5;have HG5:=hidden hg5;clear hg5 hl5 B5 q5)
    |((with_reducible refine at_ldd 16 5 ?_);refine wpList_ld _ rfl _ _ rfl b5 _ rfl HB5.out _ _ Tryz.underlying63 HPS.out ?_)
    |(go_at_call 223;refine (HLF.out _ HQ5.out).mono ?_;rintro e w2 ⟨v',rfl,ok,hs2⟩;have HOK:=hidden ok;have HH2:=hidden hs2;clear ok hs2))
  have HBQ:Hid (Kq S w1 (fun w'=>Blk w' b5 63 (B K))):=Kq.blk HB5.out (fun e=>by have:=HS.out _ e;have:=HG5.out;omega);have HI1:=hidden (HI0.out v' HOK.out);obtain ⟨csL,hcsL⟩:∃x,x=tkC cs1 fr (1,lfC (lfD K (vaD bs)) K v' bs):=⟨_,rfl⟩;rw [← hcsL] at HH2 HI1;have HPo:Hid (∀wr (top:Nat) cs2 fr2,Rz K ss csL fr.dropLast (tkH cs1 fr) cs2 fr2 top→RzI cs0 E K bs ss 0 cs2 top→Hs w1 S wr g gs room cs2 fr2→P (.returned (.int .i64 (top:Int))) wr):=fun wr top cs2 fr2 a1 a2 a3=>HPost.out w1 HQ5.out v' wr top cs2 fr2 HOK.out (by rw [← hcsL];exact a1) a2 a3
  have HRw:=hidden (HRD.out w1 HQ5.out);generalize tkH cs1 fr=t0 at HH2 HI1 HPo ⊢;generalize fr.dropLast=frL at HH2 HPo;clear HPost HRD HI0 HLF HB5 HQ5 HG5 HS HOK hcsL
  go_loopw [9,11] (fun tv dv wr=>∃(m:Nat) (top:Nat) (cs:Lz) (fr':List Nat),m≤n∧tv=.int .i64 (top:Int)∧dv=.int .i64 ((m:Int)-1)∧Hid (Hs w1 S wr g gs room cs fr')∧Hid (RzI cs0 E K bs ss m cs top)∧Hid (∀cs2 fr2 t2,Rz K (ss.take m) cs fr' top cs2 fr2 t2→Rz K ss csL frL t0 cs2 fr2 t2)) (fun _ dv _=>(intOf dv+1).toNat)
  case atStart=>exact ⟨n,t0,csL,frL,Nat.le_refl _,rfl,by first | rfl | (rw [hwn]) | go_num,HH2.out,HI1.out,fun _ _ _ q=>by rw [HTK.out] at q;exact q⟩
  case round=>
    clear HH2 HI1 hwn;obtain ⟨m,top,cs,fr',hmn,rfl,rfl,HH,HI,HZ⟩:=hrel;cases m with
    | zero=>
      have e0:((0:Nat):Int)-1= -1:=rfl;rw [e0];have HF:Hid (P (.returned (.int .i64 (top:Int))) wr):=HPo.out wr top cs fr' (HZ.out _ _ _ (by rw [List.take_zero];exact Rz.done _ _ _)) HI.out HH.out
      go_wp2_with fail
      exact HF.out
    | succ m=>
      have e0:((m+1:Nat):Int)-1=(m:Int):=by omega
      rw [e0];obtain ⟨lb,s,rfl,hcl,hts,htn,hin⟩:=HRw.out wr m cs fr' top (by omega) HH.out HI.out;have HCL:=hidden hcl;have HIN:=hidden hin;have HBK:=hidden (HH.out.kq HBQ.out);have HZ2:Hid (∀cs1 cs2 fr2 t2,InnR cs fr' m (tl K m top s) (tr K m top s) cs1→Rz K (ss.take m) cs1 fr'.dropLast (tkH cs fr') cs2 fr2 t2→Rz K ss csL frL t0 cs2 fr2 t2):=fun cs1 cs2 fr2 t2 a1 a2=>by
        have hlm:(ss.take m).length=m:=by rw [List.length_take];have:=HNS.out;omega
        refine HZ.out cs2 fr2 t2 ?_;rw [hts];refine Rz.step (cs1:=cs1) ?_ a2;rw [hlm];exact a1
      have HTN:=hidden htn;generalize (tl K m top s:Int)=lz at HTN HIN;generalize (tr K m top s:Int)=rz at HTN HIN;obtain ⟨th,hth⟩:∃th:Int,th=(tkH cs fr':Int):=⟨_,rfl⟩;rw [← hth] at HIN;have HTH:=hidden hth;generalize (s:Int)=sy at HCL HTN;generalize (top:Int)=ty at HTN ⊢;have k0:(0:Int)≤(m:Int):=by omega
      have k1:(m:Int)<(n:Int):=by omega
      have hm256:m<256:=by have:=HM.out;omega
      have hwm:wrap64 ((m:Int)-1)=(m:Int)-1:=Go.IntWalk.wrap64_in _ (by omega);have hcl:=HCL.out;clear hin htn hth HZ HH HI HPo HRw hts hmn e0
      go_wp2_with fail
      refine wp_region_held_drew (S:=fun w'=>Kb wr w') (by kernel_rfl) ((below_drewN (Below.refl _ _) 1)) (fun hHeld=>?_);refine tkg 0 (.agg (B K)) rfl (yieldsIf_load_mid rfl 63 (.tmp 5) rfl b5 0 rfl (B K).toList _ (fun w hS=>(HBK.out.grow hS).range) Tryz.underlying63 rfl HPL.out) hHeld ?_;simp only [Act.put,zq1,zq2,zq4,zq5,zq6];refine tkp 1 (.int .i64 (m:Int)) hHeld ?_;simp only [Act.put,zq1,zq2,zq3,zq4,zq5,zq6];refine tkp 2 (.int .i64 ty) hHeld ?_;simp only [Act.put,zq1,zq2,zq3,zq4,zq5,zq6];refine tkp 3 (.slice (some ⟨lb,0,none⟩) n c) hHeld ?_;simp only [Act.put,zq1,zq2,zq3,zq4,zq5,zq6];refine tkp 4 (.int .i64 (m:Int)) hHeld ?_;simp only [Act.put,zq1,zq2,zq3,zq4,zq5,zq6];refine tkp 5 (.pointer (some ⟨lb,m,none⟩)) hHeld ?_;simp only [Act.put,zq1,zq2,zq3,zq4,zq5,zq6];refine tkg 6 (.int .i64 sy) rfl (Or.inl ⟨by rfl,fun w hS=>by (have q1:=below_cell hS HCL.out;go_simp)⟩) hHeld ?_;simp only [Act.put,zq1,zq2,zq3,zq4,zq5,zq6];refine wpAnyH_ready (rs:=[7]) (by kernel_rfl) (by simp) ?_;refine AllReadyH.cons rfl (fun KQ hK=>?_) AllReadyH.nil;go_simp;refine (HTN.out _).mono ?_;rintro e z1 ⟨rfl,a1⟩;refine hK.out _ _ (grow_trans hHeld a1) (fun hHeld=>?_);clear hK KQ;refine tkp 8 (.tuple #[.int .i64 lz,.int .i64 rz]) hHeld ?_;simp only [Act.put,zq1,zq2,zq3,zq4,zq5,zq6];refine tkp 9 (.int .i64 lz) hHeld ?_;simp only [Act.put,zq1,zq2,zq3,zq4,zq5,zq6];refine tkp 10 (.int .i64 rz) hHeld ?_;simp only [Act.put,zq1,zq2,zq3,zq4,zq5,zq6];refine tkp 11 (.int .i64 lz) hHeld ?_;simp only [Act.put,zq1,zq2,zq3,zq4,zq5,zq6];refine tkp 12 (.int .i64 rz) hHeld ?_;simp only [Act.put,zq1,zq2,zq3,zq4,zq5,zq6];refine wpAnyH_done (by kernel_rfl) ?_ _;have HHd:=hidden hHeld;clear hHeld hcl
      go_wp2_with (first
        |(go_at_call 225;refine (HIN.out _ HHd.out).mono ?_;rintro e z2 ⟨cs',rfl,hin2,hi2,hs2⟩;have HIN2:=hidden hin2;have HI2:=hidden hi2;have HS2:=hidden hs2;clear hin2 hi2 hs2))
      exact ⟨⟨m,tkH cs fr',cs',fr'.dropLast,by omega,by rw [HTH.out],rfl,HS2.out,HI2.out,fun cs2 fr2 t2 q=>HZ2.out cs' cs2 fr2 t2 HIN2.out q⟩,by simp only [intOf];omega⟩

end Go.Proofs.YtdjpigfibafokaaGreatDoor
