/- tag's EmptyText, ValueText, LeafText, InnerText and the document's texts, as contracts. -/
import Derived.Test.YtdjpigfibafokaaGreatDoorDz01
import Derived.Test.YtdjpigfibafokaaGreatDoorDz12
import Derived.Test.YtdjpigfibafokaaGreatDoorDz03
import Derived.Deep.RegionHeld2
import Derived.Test.YtdjpigfibafokaaGreatDoorDz04
import Derived.Test.YtdjpigfibafokaaGreatDoorDz07
import Derived.Test.YtdjpigfibafokaaGreatDoorDz08
import Derived.Test.YtdjpigfibafokaaGreatDoorDz09
import Derived.Maps.OwnSet
import Derived.Maps.RangeWalk
import Derived.Maps.OwnOps
import Derived.Maps.Views
namespace Go.Proofs.YtdjpigfibafokaaGreatDoor
variable {S fr fr' pend:List Nat}
variable {b g gs k o room:Nat}
variable {cs cs':Lz}
variable {sp xs zs:Lq}
variable {v vf vp:Value}
variable {w w' w0 w1 w2:World}
set_option maxHeartbeats 2000000
set_option maxRecDepth 20000
open Go.RowKit

theorem parts_nil (w:World):Parts w (.slice none 0 0) []:=⟨none,0,fun _=>.slice none 0 0,rfl,by simp,by simp,fun h=>by simp at h,fun i hi=>by simp at hi⟩

theorem parts_one (w:World) (v:Value) (zs:Lq) (h:Reads w v zs):Parts (w.alloc (.cells #[v] 30)) (.slice (some ⟨w.heap.size,0,none⟩) 1 1) [zs]:=by
  refine ⟨_,1,fun _=>v,rfl,Nat.le_refl _,by simp,fun _=>⟨w.heap.size,0,rfl,fun i hi=>?_⟩,fun i hi=>?_⟩
  · have hr:(w.alloc (.cells #[v] 30)).heap[w.heap.size]?=some (.cells #[v] 30 (0,0)):=heap_alloc_new w _
    rw [cell_of_row _ _ _ _ _ _ hr]
    match i,hi with
    | 0,_=>rfl
  · match i,hi with
    | 0,_=>exact h.grow (grow_alloc w _)

theorem parts_two (w:World) (v u:Value) (zs ys:Lq) (h:Reads w v zs) (k:Reads w u ys):Parts (w.alloc (.cells #[v,u] 30)) (.slice (some ⟨w.heap.size,0,none⟩) 2 2) [zs,ys]:=by
  refine ⟨_,2,fun i=>if i=0 then v else u,rfl,Nat.le_refl _,by simp,fun _=>⟨w.heap.size,0,rfl,fun i hi=>?_⟩,fun i hi=>?_⟩
  · have hr:(w.alloc (.cells #[v,u] 30)).heap[w.heap.size]?=some (.cells #[v,u] 30 (0,0)):=heap_alloc_new w _
    rw [cell_of_row _ _ _ _ _ _ hr]
    match i,hi with
    | 0,_=>rfl
    | 1,_=>rfl
  · match i,hi with
    | 0,_=>exact h.grow (grow_alloc w _)
    | 1,_=>exact k.grow (grow_alloc w _)

theorem Blk.readsN {t:TypeId} (h:Blk w g t (B zs)) (hb:Bytes zs) (n:Nat) (hn:zs.length=n):Reads w (.slice (some ⟨g,0,none⟩) n n) zs:=by
  subst hn;exact ⟨_,_,rfl,Nat.le_refl _,fun h=>by simp at h,hb,fun _=>⟨g,0,rfl,fun i hi=>by rw [Nat.zero_add];exact h.bcell i hi⟩⟩

end Go.Proofs.YtdjpigfibafokaaGreatDoor

namespace Go.Proofs.YtdjpigfibafokaaGreatDoor
variable {S fr fr' pend:List Nat}
variable {b g gs k o room:Nat}
variable {cs cs':Lz}
variable {sp xs zs:Lq}
variable {v vf vp:Value}
variable {w w' w0 w1 w2:World}
set_option maxHeartbeats 2000000
set_option maxRecDepth 20000
open Go.RowKit

def DigPost (l:Lq) (w:World) (e:Ending) (w':World):Prop:=e=.returned (.agg (B (dig l)))∧Kb w w'

set_option maxRecDepth 10000 in
theorem of_any (t:Int) (v:Value) (ps:List (Lq)) (w:World) (h0:0≤t) (h1:t≤255) (h:Parts w v ps) (hL:Laid w) (hl:1+ps.flatten.length≤576460752303423488):
    Kc 110 #[.int .u8 t,v] w (DigPost (t::ps.flatten) w):=by
  obtain ⟨a,cap,V,rfl,hcap,hn,hcell,hr⟩:=h;have HC:=hidden hcell;have HR:=hidden hr;have HL:=hidden hL;have HN:=hidden hn;have HLN:=hidden hl;have hp0:(0:Int)≤(ps.length:Int):=by omega
  clear hcell hr hL hl;go_enter Tryz.func110,Tryz.ntmps110
  go_wp2_with (refine wpList_al _ rfl _ rfl _ zero_hash ?_;intro w1 g1 hg1 hl1 B1 b1)
  have L1:=HL.out.grow b1;refine (new_any w1 L1).mono ?_;rintro e w2 ⟨g,rfl,hg,hgl,S2,b2⟩;have L2:=L1.grow b2;have T2:Txt w2 g []:=⟨_,S2,rfl,Bytes.nil⟩;have c2:=b1.trans (b2.mono b1.size);have hgw:w.heap.size≤g:=Nat.le_trans b1.size hg;have hg2:2≤g:=Nat.le_trans HL.out.1 hgw;have bA:=grow_alloc w2 (.cells #[.int .u8 t] 5);have cA:=grow_trans c2 bA;have HW:=hidden (write_any g (.slice (some ⟨w2.heap.size,0,none⟩) 1 1) [] [t] (w2.alloc (.cells #[.int .u8 t] 5)) (T2.grow bA) (one_reads w2 t h0 h1) (fun _ e=>by
    have e':some w2.heap.size=some g:=e;injection e' with e';omega) (L2.grow bA) hg2 (by simp))
  have BA:=(B1.grow b2).grow bA;clear S2 T2 L1 L2 B1
  go_wp2_with (go_at_call 189;refine HW.out.mono ?_;rintro e w3 ⟨rfl,T3,L3,g3⟩)
  have HT3:Hid (Txt w3 g (t::(ps.take 0).flatten)):=T3;have HL3:=hidden L3;have HG3:=hidden g3;have HBA:=hidden BA;obtain ⟨wA,hwA⟩:∃x,x=w2.alloc (.cells #[.int .u8 t] 5):=⟨_,rfl⟩;rw [← hwA] at HG3 HBA cA;clear T3 L3 g3 BA HW bA hwA
  go_loopw [15] (fun i wr=>∃k:Nat,k≤ps.length∧i=.int .i64 k∧Hid (Txt wr g (t::(ps.take k).flatten))∧Hid (Laid wr)∧Hid (wA.grownBy wr (some g))) (fun i _=>ps.length-(intOf i).toNat)
  case atStart=>exact ⟨0,by omega,rfl,HT3,HL3,HG3⟩
  case round=>
    clear HT3 HL3 HG3;obtain ⟨k,hk,rfl,hT,hLr,hG⟩:=hrel
    by_cases hlt:k<ps.length
    · obtain ⟨b,off,rfl,hcc⟩:=HC.out (by omega)
      have hx:=hcc k hlt;have hbw:=block_lt_of_cell hx;have hx1:=(cA.cell (p:=⟨b,off+k,none⟩) hbw).trans hx;have hx2:wr.cell? ⟨b,off+k,none⟩=some (V k):=hG.out.cell hx1 (fun e=>by
        injection e with e;have hbw':b<w.heap.size:=hbw;have e':b=g:=e;omega)
      have hap:=(HR.out k hlt).apart hgw;have hrk:=((HR.out k hlt).grow cA).kept hG.out hap;have HWK:=hidden (write_any g (V k) (t::(ps.take k).flatten) (ps.getD k []) wr hT.out hrk hap hLr.out hg2 (by
        have h2:=lens_succ ps k hlt;have h3:=lens_le ps (k+1);have h4:=HLN.out;unfold lens at h2 h3;rw [List.length_cons];omega))
      have HF:Hid ((t::(ps.take (k+1)).flatten)=(t::(ps.take k).flatten)++ps.getD k []):=by
        show _=_;rw [flat_succ ps k hlt];rfl
      have k0:(0:Int)≤(k:Int):=by omega
      have k1:(k:Int)<(ps.length:Int):=by omega
      clear hx hcc hx1 hap hrk hbw;generalize V k=vk at *
      go_wp2_with (go_at_call 189;refine HWK.out.mono ?_;rintro e w4 ⟨rfl,T4,L4,g4⟩)
      refine ⟨⟨k+1,by omega,by go_num,?_,L4,grown_trans hG.out g4⟩,by simp [intOf];omega⟩;show Txt _ _ _;rw [HF.out];exact T4
    · have hfl:(ps.take k).flatten=ps.flatten:=by rw [List.take_of_length_le (by omega)]
      rw [hfl] at hT;have c5:=below_row cA hG.out hgw;have B5:=HBA.out.kept hG.out (show g1≠g by omega);have HSU:=hidden (sum_at g (t::ps.flatten) wr hT.out hLr.out (by have:=HLN.out;rw [List.length_cons];omega));have HSZ:Hid ((B (dig (t::ps.flatten))).size=32):=by rw [B_size];exact dig_length _
      obtain ⟨D,hD⟩:∃D,D=dig (t::ps.flatten):=⟨_,rfl⟩;rw [← hD] at HSU HSZ;have HD:=hidden hD;clear hD
      go_wp2_with (first | (go_at_call 190;refine HSU.out.mono ?_;rintro e w6 ⟨rfl,b6⟩;have B6:=B5.grow b6) | (refine wpList_sto _ rfl _ _ _ rfl g1 _ _ rfl rfl B6 (by rw [HSZ.out];exact size_hash) (by rw [HSZ.out,B_size];simp) (B_one _) ?_;intro w7 B7 g7))
      exact bodyPost_ret (v:=.agg (B D)) (results_cell_row rfl _ _ g1 _ _ _ _ rfl B7 Tryz.underlying36 rfl (by rw [HSZ.out];exact size_hash)) rfl ⟨by rw [HD.out],below_row (grow_trans c5 b6) g7 hg1⟩

theorem Laid.alloc (h:Laid w) (o:Obj):Laid (w.alloc o):=h.grow (grow_alloc w o)

theorem empty_any (w:World) (hL:Laid w):Kc 124 #[] w (DigPost [0] w):=by
  have HL:=hidden hL;have HSZ:Hid ((B (dig [0])).size=32):=by rw [B_size];exact dig_length _
  obtain ⟨D,hD⟩:∃D,D=dig [0]:=⟨_,rfl⟩;have HD:=hidden hD;have H:Hid (∀w',Laid w'→Kc 110 #[.int .u8 0,.slice none 0 0] w' fun e w''=>e=.returned (.agg (B D))∧Below w'.heap.size w' w''):=by
    intro w' hw';rw [hD];exact of_any 0 _ [] w' (by omega) (by omega) (parts_nil w') hw' (by simp)
  rw [← hD] at HSZ;clear hL hD;go_enter Tryz.func124,Tryz.ntmps124
  go_wp2_with (first | (refine wpList_al _ rfl _ rfl _ zero_hash ?_;intro w1 g1 hg1 hl1 B1 b1) | (go_at_call 110;refine (H.out _ (HL.out.grow b1)).mono ?_;rintro e w2 ⟨rfl,b2⟩;have B2:=B1.grow b2) | (refine wpList_sto _ rfl _ _ _ rfl g1 _ _ rfl rfl B2 (by rw [HSZ.out];exact size_hash) (by rw [HSZ.out,B_size];simp) (B_one _) ?_;intro w3 B3 g3))
  exact bodyPost_ret (v:=.agg (B D)) (results_cell_row rfl _ _ g1 _ _ _ _ rfl B3 Tryz.underlying36 rfl (by rw [HSZ.out];exact size_hash)) rfl ⟨by rw [HD.out],below_row (grow_trans b1 b2) g3 hg1⟩

theorem value_any (v:Value) (zs:Lq) (w:World) (h:Reads w v zs) (hL:Laid w) (hl:zs.length<576460752303423488):Kc 46 #[v] w (DigPost (3::zs) w):=by
  have HL:=hidden hL;have HSZ:Hid ((B (dig (3::zs))).size=32):=by rw [B_size];exact dig_length _
  obtain ⟨D,hD⟩:∃D,D=dig (3::zs):=⟨_,rfl⟩;have HD:=hidden hD;have H:Hid (∀w',Laid w'→Kb w w'→Kc 110 #[.int .u8 3,.slice (some ⟨w'.heap.size,0,none⟩) 1 1] (w'.alloc (.cells #[v] 30)) fun e w''=>e=.returned (.agg (B D))∧Below w'.heap.size w' w''):=by
    intro w' hw' hb;have h1:=of_any 3 _ [zs] _ (by omega) (by omega) (parts_one w' v zs (h.grow hb)) (hw'.alloc _) (by simp;omega);rw [show [zs].flatten=zs by simp] at h1;rw [hD];exact h1.mono fun e w'' ⟨h2,h3⟩=>⟨h2,grow_trans (grow_alloc _ _) h3⟩
  rw [← hD] at HSZ;obtain ⟨va,vc,rfl,_,_,_,_⟩:=h;clear hL hD;go_enter Tryz.func46,Tryz.ntmps46
  go_wp2_with (first | (refine wpList_al _ rfl _ rfl _ zero_hash ?_;intro w1 g1 hg1 hl1 B1 b1) | (go_at_call 110;refine (H.out w1 (HL.out.grow b1) b1).mono ?_;rintro e w2 ⟨rfl,b2⟩;have B2:=B1.grow b2) | (refine wpList_sto _ rfl _ _ _ rfl g1 _ _ rfl rfl B2 (by rw [HSZ.out];exact size_hash) (by rw [HSZ.out,B_size];simp) (B_one _) ?_;intro w3 B3 g3))
  exact bodyPost_ret (v:=.agg (B D)) (results_cell_row rfl _ _ g1 _ _ _ _ rfl B3 Tryz.underlying36 rfl (by rw [HSZ.out];exact size_hash)) rfl ⟨by rw [HD.out],below_row (grow_trans b1 b2) g3 hg1⟩

theorem leaf_any (K A:Lq) (w:World) (hk:K.length=32) (ha:A.length=32) (bk:Bytes K) (ba:Bytes A) (hL:Laid w):Kc 185 #[.agg (B K),.agg (B A)] w (DigPost (1::(K++A)) w):=by
  have HL:=hidden hL;have HSZ:Hid ((B (dig (1::(K++A)))).size=32):=by rw [B_size];exact dig_length _
  obtain ⟨D,hD⟩:∃D,D=dig (1::(K++A)):=⟨_,rfl⟩;have HD:=hidden hD;have H:Hid (∀w' g1 g2,Laid w'→Blk w' g1 63 (B K)→Blk w' g2 36 (B A)→Kc 110 #[.int .u8 1,.slice (some ⟨w'.heap.size,0,none⟩) 2 2] (w'.alloc (.cells #[.slice (some ⟨g1,0,none⟩) 32 32,.slice (some ⟨g2,0,none⟩) 32 32] 30)) fun e w''=>e=.returned (.agg (B D))∧Below w'.heap.size w' w''):=by
    intro w' g1 g2 hw' B1 B2;have h1:=of_any 1 _ [K,A] _ (by omega) (by omega) (parts_two w' _ _ K A (B1.readsN bk 32 hk) (B2.readsN ba 32 ha)) (hw'.alloc _) (by simp [hk,ha]);rw [show [K,A].flatten=K++A by simp] at h1;rw [hD];exact h1.mono fun e w'' ⟨h2,h3⟩=>⟨h2,grow_trans (grow_alloc _ _) h3⟩
  rw [← hD] at HSZ;clear bk ba hk ha hL hD;go_enter Tryz.func185,Tryz.ntmps185
  go_wp2_with (first | (refine wpList_al _ rfl _ rfl _ zero_hash ?_;intro w3 g3 hg3 hl3 B3 b3) | (have hx:=hl1;clear hx;refine wpList_bx _ rfl _ _ rfl _ rfl ?_;intro w2 g2 hg2 hl2 B2 b2) | (refine wpList_bx _ rfl _ _ rfl _ rfl ?_;intro w1 g1 hg1 hl1 B1 b1))
  have c2:=b1.trans (b2.mono b1.size);have c3:=c2.trans (b3.mono c2.size);have HB1:=hidden ((B1.grow b2).grow b3);have HB2:=hidden (B2.grow b3);have HL3:=hidden (HL.out.grow c3);have HB3:=hidden B3;clear B1 B2 B3;refine wp_region_any (by kernel_rfl) ?_
  change wpAny _ _ _ _ _ _ _ (World.drew _)
  refine wpAny_take (i:=0) (v:=.slice (some ⟨g1,0,none⟩) 32 32) rfl (by kernel_rfl) (by kernel_rfl) (by kernel_rfl) (fun _ _ _ h=>h) (Or.inl ⟨by rfl,fun w=>by go_simp⟩) ?_;simp only [Act.put,zq1,zq2,zq4,zq5,zq6];refine wpAny_take (i:=1) (v:=.slice (some ⟨g2,0,none⟩) 32 32) rfl (by kernel_rfl) (by kernel_rfl) (by kernel_rfl) (fun _ _ _ h=>h) (Or.inl ⟨by rfl,fun w=>by go_simp⟩) ?_;simp only [Act.put,zq1,zq2,zq3,zq4,zq5,zq6];refine wpAny_ready (rs:=[2]) (by kernel_rfl) (by simp) ?_;refine AllReady.cons rfl (fun K1 hK=>?_) AllReady.nil;go_simp;refine hK _ _ ?_;clear hK K1;refine wpAny_ready (rs:=[3]) (by kernel_rfl) (by simp) ?_;refine AllReady.cons rfl (fun K1 hK=>?_) AllReady.nil;go_simp;refine (H.out w3.drew g1 g2 (HL3.out.grow (Below.refl _ _).drew) HB1.out HB2.out).mono ?_;rintro e w4 ⟨rfl,b4⟩;refine hK _ _ ?_;clear hK K1;have c4:Kb w w4:=c3.trans ((grow_trans (Below.refl _ _).drew b4).mono c3.size);have B4:=HB3.out.grow (grow_trans (Below.refl _ _).drew b4);refine wpAny_ready (rs:=[4]) (by kernel_rfl) (by simp) ?_;refine AllReady.cons rfl (fun K1 hK=>?_) AllReady.nil;refine step_sto _ rfl _ _ _ rfl g3 _ (B D) rfl rfl B4 (by rw [HSZ.out];exact size_hash) (by rw [HSZ.out,B_size];simp) (B_one _) ?_;intro w5 B5 g5;refine hK _ _ ?_;clear hK K1;refine wpAny_done (by kernel_rfl) ?_ _;simp only [Act.put,List.getElem_toArray,List.getElem_cons_zero,List.getElem_cons_succ]
  go_wp2_with fail
  exact bodyPost_ret (v:=.agg (B D)) (results_cell_row rfl _ _ g3 _ _ _ _ rfl B5 Tryz.underlying36 rfl (by rw [HSZ.out];exact size_hash)) rfl ⟨by rw [HD.out],below_row c4 g5 (Nat.le_trans c2.size hg3)⟩

theorem inner_any (K A:Lq) (w:World) (hk:K.length=32) (ha:A.length=32) (bk:Bytes K) (ba:Bytes A) (hL:Laid w):Kc 186 #[.agg (B K),.agg (B A)] w (DigPost (2::(K++A)) w):=by
  have HL:=hidden hL;have HSZ:Hid ((B (dig (2::(K++A)))).size=32):=by rw [B_size];exact dig_length _
  obtain ⟨D,hD⟩:∃D,D=dig (2::(K++A)):=⟨_,rfl⟩;have HD:=hidden hD;have H:Hid (∀w' g1 g2,Laid w'→Blk w' g1 36 (B K)→Blk w' g2 36 (B A)→Kc 110 #[.int .u8 2,.slice (some ⟨w'.heap.size,0,none⟩) 2 2] (w'.alloc (.cells #[.slice (some ⟨g1,0,none⟩) 32 32,.slice (some ⟨g2,0,none⟩) 32 32] 30)) fun e w''=>e=.returned (.agg (B D))∧Below w'.heap.size w' w''):=by
    intro w' g1 g2 hw' B1 B2;have h1:=of_any 2 _ [K,A] _ (by omega) (by omega) (parts_two w' _ _ K A (B1.readsN bk 32 hk) (B2.readsN ba 32 ha)) (hw'.alloc _) (by simp [hk,ha]);rw [show [K,A].flatten=K++A by simp] at h1;rw [hD];exact h1.mono fun e w'' ⟨h2,h3⟩=>⟨h2,grow_trans (grow_alloc _ _) h3⟩
  rw [← hD] at HSZ;clear bk ba hk ha hL hD;go_enter Tryz.func186,Tryz.ntmps186
  go_wp2_with (first | (refine wpList_al _ rfl _ rfl _ zero_hash ?_;intro w3 g3 hg3 hl3 B3 b3) | (have hx:=hl1;clear hx;refine wpList_bx _ rfl _ _ rfl _ rfl ?_;intro w2 g2 hg2 hl2 B2 b2) | (refine wpList_bx _ rfl _ _ rfl _ rfl ?_;intro w1 g1 hg1 hl1 B1 b1))
  have c2:=b1.trans (b2.mono b1.size);have c3:=c2.trans (b3.mono c2.size);have HB1:=hidden ((B1.grow b2).grow b3);have HB2:=hidden (B2.grow b3);have HL3:=hidden (HL.out.grow c3);have HB3:=hidden B3;clear B1 B2 B3;refine wp_region_any (by kernel_rfl) ?_
  change wpAny _ _ _ _ _ _ _ (World.drew _)
  refine wpAny_take (i:=0) (v:=.slice (some ⟨g1,0,none⟩) 32 32) rfl (by kernel_rfl) (by kernel_rfl) (by kernel_rfl) (fun _ _ _ h=>h) (Or.inl ⟨by rfl,fun w=>by go_simp⟩) ?_;simp only [Act.put,zq1,zq2,zq4,zq5,zq6];refine wpAny_take (i:=1) (v:=.slice (some ⟨g2,0,none⟩) 32 32) rfl (by kernel_rfl) (by kernel_rfl) (by kernel_rfl) (fun _ _ _ h=>h) (Or.inl ⟨by rfl,fun w=>by go_simp⟩) ?_;simp only [Act.put,zq1,zq2,zq3,zq4,zq5,zq6];refine wpAny_ready (rs:=[2]) (by kernel_rfl) (by simp) ?_;refine AllReady.cons rfl (fun K1 hK=>?_) AllReady.nil;go_simp;refine hK _ _ ?_;clear hK K1;refine wpAny_ready (rs:=[3]) (by kernel_rfl) (by simp) ?_;refine AllReady.cons rfl (fun K1 hK=>?_) AllReady.nil;go_simp;refine (H.out w3.drew g1 g2 (HL3.out.grow (Below.refl _ _).drew) HB1.out HB2.out).mono ?_;rintro e w4 ⟨rfl,b4⟩;refine hK _ _ ?_;clear hK K1;have c4:Kb w w4:=c3.trans ((grow_trans (Below.refl _ _).drew b4).mono c3.size);have B4:=HB3.out.grow (grow_trans (Below.refl _ _).drew b4);refine wpAny_ready (rs:=[4]) (by kernel_rfl) (by simp) ?_;refine AllReady.cons rfl (fun K1 hK=>?_) AllReady.nil;refine step_sto _ rfl _ _ _ rfl g3 _ (B D) rfl rfl B4 (by rw [HSZ.out];exact size_hash) (by rw [HSZ.out,B_size];simp) (B_one _) ?_;intro w5 B5 g5;refine hK _ _ ?_;clear hK K1;refine wpAny_done (by kernel_rfl) ?_ _;simp only [Act.put,List.getElem_toArray,List.getElem_cons_zero,List.getElem_cons_succ]
  go_wp2_with fail
  exact bodyPost_ret (v:=.agg (B D)) (results_cell_row rfl _ _ g3 _ _ _ _ rfl B5 Tryz.underlying36 rfl (by rw [HSZ.out];exact size_hash)) rfl ⟨by rw [HD.out],below_row c4 g5 (Nat.le_trans c2.size hg3)⟩

end Go.Proofs.YtdjpigfibafokaaGreatDoor

namespace Go.Proofs.YtdjpigfibafokaaGreatDoor
variable {S fr fr' pend:List Nat}
variable {b g gs k o room:Nat}
variable {cs cs':Lz}
variable {sp xs zs:Lq}
variable {v vf vp:Value}
variable {w w' w0 w1 w2:World}
set_option maxHeartbeats 2000000
set_option maxRecDepth 20000
open Go.RowKit

theorem cz_zc:cz zc=zcl:=rfl
theorem cz_th {c:Ce} (h:CeOk c):Th (cz c):=⟨cz_length h,cz_one h⟩

theorem cz_at (c:Ce) (h:CeOk c):(cz c)[32]?=some (.int .u8 c.kind)∧(cz c)[33]?=some (.int .i64 (c.ab:Int))∧(cz c)[34]?=some (.int .i64 (c.sz:Int))∧(cz c)[67]?=some c.val∧(cz c)[68]?=some (.int .i64 (c.dp:Int))∧(cz c)[69]?=some (.int .i64 (c.l:Int))∧(cz c)[70]?=some (.int .i64 (c.r:Int)):=by
  have h1:(c.dig.map (Value.int .u8)).length=32:=by simp [h.ld]
  have h2:(c.key.map (Value.int .u8)).length=32:=by simp [h.hk.1]
  unfold cz;refine ⟨?_,?_,?_,?_,?_,?_,?_⟩
  · rw [List.getElem?_append_right (by omega),h1];rfl
  · rw [List.getElem?_append_right (by omega),h1];rfl
  · rw [List.getElem?_append_right (by omega),h1];rfl
  · rw [List.getElem?_append_right (by omega),h1]
    show (c.key.map (Value.int .u8)++_)[32]?=_;rw [List.getElem?_append_right (by omega),h2];rfl
  · rw [List.getElem?_append_right (by omega),h1]
    show (c.key.map (Value.int .u8)++_)[33]?=_;rw [List.getElem?_append_right (by omega),h2];rfl
  · rw [List.getElem?_append_right (by omega),h1]
    show (c.key.map (Value.int .u8)++_)[34]?=_;rw [List.getElem?_append_right (by omega),h2];rfl
  · rw [List.getElem?_append_right (by omega),h1]
    show (c.key.map (Value.int .u8)++_)[35]?=_;rw [List.getElem?_append_right (by omega),h2];rfl

def SegC (c:Ce) (o:Nat) (xs:Lq):Prop:=∀j v,(xs.map (Value.int .u8))[j]?=some v→(cz c)[o+j]?=some v
theorem segD (c:Ce):SegC c 0 c.dig:=fun j v hj=>by
  have hlt:j<(c.dig.map (Value.int .u8)).length:=(List.getElem?_eq_some_iff.1 hj).1;unfold cz;rw [Nat.zero_add,List.getElem?_append_left hlt];exact hj
theorem segK (c:Ce) (h:CeOk c):SegC c 35 c.key:=fun j v hj=>by
  have h1:(c.dig.map (Value.int .u8)).length=32:=by simp [h.ld]
  have hlt:j<(c.key.map (Value.int .u8)).length:=(List.getElem?_eq_some_iff.1 hj).1;unfold cz;rw [List.getElem?_append_right (by omega),h1,show 35+j-32=j+3 by omega];show (c.key.map (Value.int .u8)++_)[j]?=_;rw [List.getElem?_append_left hlt];exact hj
theorem SegC.range {t:TypeId} {c:Ce} (h:SegC c o xs) (hb:Blk w g t (cz c).toArray):w.rangeAt g o (xs.map (Value.int .u8)):=fun j v hv=>by
  rw [hb.cell];simpa using h j v hv

theorem fld_one (f ft off:Nat) (v:Value) (cs:Array Value) (fs:Array Field) (fd:Field) (hu:Tryz.prog.underlying 150=some (.struct fs)) (hf:fs[f]?=some fd) (ht:fd.type=ft) (ho:fd.offset=off) (hag:∀w,(isAgg ft).run Tryz.prog w=.ok false w) (hc:cs[off]?=some v) (w:World):(Instr.field 150 (.agg cs) f).run Tryz.prog w=.ok v w:=by
  subst ht ho;unfold Instr.field;rw [Sem.run_bind,run_underlying hu w];simp only [Result.andThen_ok,hf];rw [Sem.run_bind];show (part fd.type cs fd.offset).run Tryz.prog w=_;unfold part;rw [Sem.run_bind,hag w];simp only [Result.andThen_ok,Bool.false_eq_true,if_false,hc];rfl

theorem fld_seg (f ft off:Nat) (n e:Nat) (c:Ce) (xs:Lq) (fs:Array Field) (fd:Field) (hu:Tryz.prog.underlying 150=some (.struct fs)) (hf:fs[f]?=some fd) (ht:fd.type=ft) (ho:fd.offset=off) (hag:Tryz.prog.underlying ft=some (.array n e)) (hi:(Tryz.prog.info? ft).map (·.size)=some xs.length) (hs:SegC c off xs) (w:World):(Instr.field 150 (.agg (cz c).toArray) f).run Tryz.prog w=.ok (.agg (B xs)) w:=by
  subst ht ho;cases hq:Tryz.prog.info? fd.type with
  | none=>simp [hq] at hi
  | some i=>
    have hz:i.size=xs.length:=by simpa [hq] using hi
    have hagg:(isAgg fd.type).run Tryz.prog w=.ok true w:=by
      unfold isAgg;rw [Sem.run_bind,run_underlying hag w];rfl
    have hex:((cz c).toArray).extract fd.offset (fd.offset+xs.length)=B xs:=by
      apply Array.ext';simp only [Array.toList_extract,B_toList,List.extract_eq_take_drop];apply List.ext_getElem?;intro j;rw [List.getElem?_take]
      by_cases hj:j<xs.length
      · rw [if_pos (by omega),List.getElem?_drop,hs j ((xs.map (Value.int .u8))[j]'(by simpa using hj)) (by rw [List.getElem?_eq_getElem])]
        rw [List.getElem?_eq_getElem]
      · rw [if_neg (by omega),List.getElem?_eq_none (by simpa using hj)]
    unfold Instr.field;rw [Sem.run_bind,run_underlying hu w];simp only [Result.andThen_ok,hf];rw [Sem.run_bind];show (part fd.type (cz c).toArray fd.offset).run Tryz.prog w=_;unfold part;rw [Sem.run_bind,hagg];simp only [Result.andThen_ok,if_true];rw [Sem.run_bind];simp [sizeOf,typeInfo,hq,hz];simpa using hex

theorem agg_kind:∀w,(isAgg 73).run Tryz.prog w=.ok false w:=fun w=>by kernel_rfl

theorem agg_int:∀w,(isAgg 3).run Tryz.prog w=.ok false w:=fun w=>by kernel_rfl

theorem agg_bytes:∀w,(isAgg 30).run Tryz.prog w=.ok false w:=fun w=>by kernel_rfl

theorem fld_kind (c:Ce) (h:CeOk c):∀w,(Instr.field 150 (.agg (cz c).toArray) 1).run Tryz.prog w=.ok (.int .u8 c.kind) w:=fun w=>fld_one 1 73 32 _ _ _ _ Tryz.underlying150 rfl rfl rfl agg_kind (by simpa using (cz_at c h).1) w

theorem fld_ab (c:Ce) (h:CeOk c):∀w,(Instr.field 150 (.agg (cz c).toArray) 2).run Tryz.prog w=.ok (.int .i64 (c.ab:Int)) w:=fun w=>fld_one 2 3 33 _ _ _ _ Tryz.underlying150 rfl rfl rfl agg_int (by simpa using (cz_at c h).2.1) w

theorem fld_val (c:Ce) (h:CeOk c):∀w,(Instr.field 150 (.agg (cz c).toArray) 5).run Tryz.prog w=.ok c.val w:=fun w=>fld_one 5 30 67 _ _ _ _ Tryz.underlying150 rfl rfl rfl agg_bytes (by simpa using (cz_at c h).2.2.2.1) w

theorem fld_dig (c:Ce) (h:CeOk c):∀w,(Instr.field 150 (.agg (cz c).toArray) 0).run Tryz.prog w=.ok (.agg (B c.dig)) w:=fun w=>fld_seg 0 36 0 _ _ c c.dig _ _ Tryz.underlying150 rfl rfl rfl Tryz.underlying36 (by rw [h.ld];exact size_hash) (segD c) w

theorem fld_key (c:Ce) (h:CeOk c):∀w,(Instr.field 150 (.agg (cz c).toArray) 4).run Tryz.prog w=.ok (.agg (B c.key)) w:=fun w=>fld_seg 4 63 35 _ _ c c.key _ _ Tryz.underlying150 rfl rfl rfl Tryz.underlying63 (by rw [h.hk.1];exact size_path) (segK c h) w

def cePlaces:Nat→Option (Nat×Nat):=fun i=>(#[(0,32),(32,1),(33,1),(34,1),(35,32),(67,1),(68,1),(69,1),(70,1)]:Array (Nat×Nat))[i]?

theorem built_ceE (ps:List (Nat×Value)):Tryz.prog.built 150 ps=Instr.fill cePlaces zcl.toArray ps:=by kernel_rfl

def lfC (D K:Lq) (v:Value) (bs:Lq):Ce:=⟨D,1,0,1,K,v,bs,0,0,0⟩
def inC (D K:Lq) (sz d l r:Nat):Ce:=⟨D,2,0,sz,K,.slice none 0 0,[],d,l,r⟩

theorem fill_mid (i off n:Nat) (v:Value) (p q r xs:List Value) (rest:List (Nat×Value)) (hi:cePlaces i=some (off,n)) (hv:v.cells=xs.toArray) (hx:xs.length=n) (hp:p.length=off) (hq:q.length=n):Instr.fill cePlaces (p++(q++r)).toArray ((i,v)::rest)=Instr.fill cePlaces (p++(xs++r)).toArray rest:=by
  rw [fill_one cePlaces i off n v xs _ rest hi hv hx (by simp;omega),← hp,List.take_left' rfl,List.append_assoc,show p.length+n=(p++q).length by simp [hq],← List.append_assoc p q r,List.drop_left' rfl]

theorem cf_dig (c:Ce) (h:c.dig.length=32) (D:Lq) (hD:D.length=32) (rest:List (Nat×Value)):Instr.fill cePlaces (cz c).toArray ((0,.agg (B D))::rest)=Instr.fill cePlaces (cz { c with dig:=D}).toArray rest:=by
  unfold cz;exact fill_mid 0 0 32 _ [] (c.dig.map (Value.int .u8)) _ (D.map (Value.int .u8)) rest rfl (cells_b D) (by simp [hD]) rfl (by simp [h])

theorem cf_kind (c:Ce) (h:c.dig.length=32) (k:Int) (rest:List (Nat×Value)):Instr.fill cePlaces (cz c).toArray ((1,.int .u8 k)::rest)=Instr.fill cePlaces (cz { c with kind:=k}).toArray rest:=by
  unfold cz;exact fill_mid 1 32 1 _ (c.dig.map (Value.int .u8)) [Value.int .u8 c.kind] _ [Value.int .u8 k] rest rfl rfl rfl (by simp [h]) rfl

theorem cf_sz (c:Ce) (h:c.dig.length=32) (n:Nat) (rest:List (Nat×Value)):Instr.fill cePlaces (cz c).toArray ((3,.int .i64 (n:Int))::rest)=Instr.fill cePlaces (cz { c with sz:=n}).toArray rest:=by
  have:=fill_mid 3 34 1 (.int .i64 (n:Int)) (c.dig.map (Value.int .u8)++[Value.int .u8 c.kind,.int .i64 (c.ab:Int)]) [Value.int .i64 (c.sz:Int)] (c.key.map (Value.int .u8)++[c.val,.int .i64 (c.dp:Int),.int .i64 (c.l:Int),.int .i64 (c.r:Int)]) [Value.int .i64 (n:Int)] rest rfl rfl rfl (by simp [h]) rfl;simpa [cz] using this

theorem cf_key (c:Ce) (h:c.dig.length=32) (hk:c.key.length=32) (K:Lq) (hK:K.length=32) (rest:List (Nat×Value)):Instr.fill cePlaces (cz c).toArray ((4,.agg (B K))::rest)=Instr.fill cePlaces (cz { c with key:=K}).toArray rest:=by
  have:=fill_mid 4 35 32 (.agg (B K)) (c.dig.map (Value.int .u8)++[Value.int .u8 c.kind,.int .i64 (c.ab:Int),.int .i64 (c.sz:Int)]) (c.key.map (Value.int .u8)) [c.val,.int .i64 (c.dp:Int),.int .i64 (c.l:Int),.int .i64 (c.r:Int)] (K.map (Value.int .u8)) rest rfl (cells_b K) (by simp [hK]) (by simp [h]) (by simp [hk]);simpa [cz] using this

theorem cf_val (c:Ce) (h:c.dig.length=32) (hk:c.key.length=32) (v:Value) (hv:v.cells= #[v]) (bs:Lq) (rest:List (Nat×Value)):Instr.fill cePlaces (cz c).toArray ((5,v)::rest)=Instr.fill cePlaces (cz { c with val:=v,bs:=bs}).toArray rest:=by
  have:=fill_mid 5 67 1 v (c.dig.map (Value.int .u8)++([Value.int .u8 c.kind,.int .i64 (c.ab:Int),.int .i64 (c.sz:Int)]++c.key.map (Value.int .u8))) [c.val] [.int .i64 (c.dp:Int),.int .i64 (c.l:Int),.int .i64 (c.r:Int)] [v] rest rfl hv rfl (by simp [h,hk]) rfl;simpa [cz] using this

theorem cf_dp (c:Ce) (h:c.dig.length=32) (hk:c.key.length=32) (n:Nat) (rest:List (Nat×Value)):Instr.fill cePlaces (cz c).toArray ((6,.int .i64 (n:Int))::rest)=Instr.fill cePlaces (cz { c with dp:=n}).toArray rest:=by
  have:=fill_mid 6 68 1 (.int .i64 (n:Int)) (c.dig.map (Value.int .u8)++([Value.int .u8 c.kind,.int .i64 (c.ab:Int),.int .i64 (c.sz:Int)]++(c.key.map (Value.int .u8)++[c.val]))) [.int .i64 (c.dp:Int)] [.int .i64 (c.l:Int),.int .i64 (c.r:Int)] [.int .i64 (n:Int)] rest rfl rfl rfl (by simp [h,hk]) rfl;simpa [cz] using this

theorem cf_l (c:Ce) (h:c.dig.length=32) (hk:c.key.length=32) (n:Nat) (rest:List (Nat×Value)):Instr.fill cePlaces (cz c).toArray ((7,.int .i64 (n:Int))::rest)=Instr.fill cePlaces (cz { c with l:=n}).toArray rest:=by
  have:=fill_mid 7 69 1 (.int .i64 (n:Int)) (c.dig.map (Value.int .u8)++([Value.int .u8 c.kind,.int .i64 (c.ab:Int),.int .i64 (c.sz:Int)]++(c.key.map (Value.int .u8)++[c.val,.int .i64 (c.dp:Int)]))) [.int .i64 (c.l:Int)] [.int .i64 (c.r:Int)] [.int .i64 (n:Int)] rest rfl rfl rfl (by simp [h,hk]) rfl;simpa [cz] using this

theorem cf_r (c:Ce) (h:c.dig.length=32) (hk:c.key.length=32) (n:Nat) (rest:List (Nat×Value)):Instr.fill cePlaces (cz c).toArray ((8,.int .i64 (n:Int))::rest)=Instr.fill cePlaces (cz { c with r:=n}).toArray rest:=by
  have:=fill_mid 8 70 1 (.int .i64 (n:Int)) (c.dig.map (Value.int .u8)++([Value.int .u8 c.kind,.int .i64 (c.ab:Int),.int .i64 (c.sz:Int)]++(c.key.map (Value.int .u8)++[c.val,.int .i64 (c.dp:Int),.int .i64 (c.l:Int)]))) [.int .i64 (c.r:Int)] [] [.int .i64 (n:Int)] rest rfl rfl rfl (by simp [h,hk]) rfl;simpa [cz] using this

theorem built_lf (D K:Lq) (v:Value) (bs:Lq) (hD:D.length=32) (hK:K.length=32) (hv:v.cells= #[v]):Tryz.prog.built 150 [(0,.agg (B D)),(1,.int .u8 1),(3,.int .i64 1),(4,.agg (B K)),(5,v)]=some (cz (lfC D K v bs)).toArray:=by
  rw [built_ceE,← cz_zc];exact (cf_dig zc rfl D hD _).trans ((cf_kind ⟨D,0,0,0,z32,.slice none 0 0,[],0,0,0⟩ hD 1 _).trans ((cf_sz ⟨D,1,0,0,z32,.slice none 0 0,[],0,0,0⟩ hD 1 _).trans ((cf_key ⟨D,1,0,1,z32,.slice none 0 0,[],0,0,0⟩ hD rfl K hK _).trans (cf_val ⟨D,1,0,1,K,.slice none 0 0,[],0,0,0⟩ hD hK v hv bs _))))

theorem built_in (D K:Lq) (sz d l r:Nat) (hD:D.length=32) (hK:K.length=32):Tryz.prog.built 150 [(0,.agg (B D)),(1,.int .u8 2),(3,.int .i64 (sz:Int)),(4,.agg (B K)),(6,.int .i64 (d:Int)),(7,.int .i64 (l:Int)),(8,.int .i64 (r:Int))]=some (cz (inC D K sz d l r)).toArray:=by
  rw [built_ceE,← cz_zc];exact (cf_dig zc rfl D hD _).trans ((cf_kind ⟨D,0,0,0,z32,.slice none 0 0,[],0,0,0⟩ hD 2 _).trans ((cf_sz ⟨D,2,0,0,z32,.slice none 0 0,[],0,0,0⟩ hD sz _).trans ((cf_key ⟨D,2,0,sz,z32,.slice none 0 0,[],0,0,0⟩ hD rfl K hK _).trans ((cf_dp ⟨D,2,0,sz,K,.slice none 0 0,[],0,0,0⟩ hD hK d _).trans ((cf_l ⟨D,2,0,sz,K,.slice none 0 0,[],d,0,0⟩ hD hK l _).trans (cf_r ⟨D,2,0,sz,K,.slice none 0 0,[],d,l,0⟩ hD hK r _))))))

def cot (cs:Lz) (h:Int):Nat:=if 1≤h then cc cs (h-1).toNat else 0
def cat (cs:Lz) (h:Int):Ce:=if 1≤h then ce cs (h-1).toNat else zc

structure Stm (w:World) (g gs:Nat) (vp vf:Value) (room:Nat) (cs:Lz) (fr:List Nat):Prop where
  blk:Blk w g 148 #[.pointer (some ⟨g,0,none⟩),.pointer (some ⟨gs,0,none⟩)]
  sl:SlC w gs vp vf room (cs.map pl) fr
  vals:∀i,∃sp,Own 0 w (ce cs i).val (ce cs i).bs sp

def stB (g gs:Nat) (vp vf:Value) (cs:Lz):List Nat:=g::(slB gs vp vf++cs.flatMap fun p=>p.2.val.ownBlock.toList)
theorem stB_mem:k∈stB g gs vp vf cs↔k=g∨k∈slB gs vp vf∨∃i,(ce cs i).val.ownBlock=some k:=by
  simp only [stB,List.mem_cons,List.mem_append,List.mem_flatMap,Option.mem_toList];constructor
  · rintro (h | h | ⟨p,hp,hk⟩)
    · exact .inl h
    · exact .inr (.inl h)
    · obtain ⟨i,hi,rfl⟩:=List.getElem_of_mem hp
      exact .inr (.inr ⟨i,by simpa [ce,hi] using hk⟩)
  · rintro (h | h | ⟨i,hk⟩)
    · exact .inl h
    · exact .inr (.inl h)
    · by_cases hi:i<cs.length
      · exact .inr (.inr ⟨cs[i],List.getElem_mem hi,by simpa [ce,hi] using hk⟩)
      · rw [ce_out cs i (by omega)] at hk
        cases hk

theorem Own.blk (h:Own b w v zs sp) (k:Nat) (hk:v.ownBlock=some k):∃cs,Blk w k 5 cs:=by
  rcases h.2.2.2 with ⟨rfl,_⟩ | ⟨g,ex,_,rfl,hr⟩
  · cases hk
  · simp only [Value.ownBlock,Option.some.injEq] at hk
    subst hk;exact ⟨_,hr⟩

theorem Own.mod (h:Own b w v zs sp) (m:Mod S w w') (hn:∀k,v.ownBlock=some k→k ∉ S):Own b w' v zs sp:=h.of_block fun k hk=>m.block k (h.lt k hk).2 (hn k hk)

theorem Stm.mod (h:Stm w g gs vp vf room cs fr) (m:Mod S w w') (hn:∀k∈stB g gs vp vf cs,k ∉ S):Stm w' g gs vp vf room cs fr:=
  ⟨h.blk.mod m (hn g (stB_mem.2 (.inl rfl))),h.sl.mod m (fun k hk=>hn k (stB_mem.2 (.inr (.inl hk)))),fun i=>by
    obtain ⟨sp,ho⟩:=h.vals i;exact ⟨sp,ho.mod m fun k hk=>hn k (stB_mem.2 (.inr (.inr ⟨i,hk⟩)))⟩⟩
theorem Stm.grow (h:Stm w g gs vp vf room cs fr) (hb:Kb w w'):Stm w' g gs vp vf room cs fr:=h.mod (Mod.of_below hb []) (fun _ _ h=>by cases h)

theorem SlC.lts {ps:List Pl} (h:SlC w g vp vf room ps fr):∀k∈slB g vp vf,k<w.heap.size:=fun k hk=>by
  rcases slB_mem.1 hk with rfl | hk | hk
  · exact h.blk.lt
  · exact lst_lt h.pls k hk
  · exact lst_lt h.frs k hk
theorem Stm.lts (h:Stm w g gs vp vf room cs fr):∀k∈stB g gs vp vf cs,k<w.heap.size:=fun k hk=>by
  rcases stB_mem.1 hk with rfl | hk | ⟨i,hk⟩
  · exact h.blk.lt
  · exact h.sl.lts k hk
  · obtain ⟨sp,ho⟩:=h.vals i
    exact (ho.lt k hk).2

theorem tneS1:(5:Nat)≠222:=by decide

theorem tneS2:(5:Nat)≠3:=by decide

theorem tneS3:(288:Nat)≠5:=by decide

theorem tneS4:(148:Nat)≠222:=by decide

theorem tneS5:(3:Nat)≠148:=by decide

theorem tneS6:(288:Nat)≠148:=by decide

theorem SlC.not_byte {ps:List Pl} (h:SlC w g vp vf room ps fr) {k:Nat} {cs:Array Value} (hb:Blk w k 5 cs):k ∉ slB g vp vf:=fun hk=>by
  rcases slB_mem.1 hk with rfl | hk | hk
  · exact hb.ne h.blk tneS1 rfl
  · exact lst_blk_ne h.pls hb tneS3 hk
  · exact lst_blk_ne h.frs hb tneS2.symm hk
theorem SlC.not_store {ps:List Pl} (h:SlC w g vp vf room ps fr) {k:Nat} {cs:Array Value} (hb:Blk w k 148 cs):k ∉ slB g vp vf:=fun hk=>by
  rcases slB_mem.1 hk with rfl | hk | hk
  · exact hb.ne h.blk tneS4 rfl
  · exact lst_blk_ne h.pls hb tneS6 hk
  · exact lst_blk_ne h.frs hb tneS5 hk

def STurn (w:World) (g gs:Nat) (S:List Nat) (room:Nat) (cs:Lz) (fr:List Nat) (w':World):Prop:=∃vp vf,Stm w' g gs vp vf room cs fr∧Mod S w w'∧New S w (stB g gs vp vf cs)

theorem Stm.turn (hb:Kb w0 w) (h:Stm w g gs vp vf room cs fr) (t:TurnC w gs (slB gs vp vf) room (cs'.map pl) fr' w')
    (hv:∀i,∃sp,Own 0 w (ce cs' i).val (ce cs' i).bs sp) (hn:∀i k,(ce cs' i).val.ownBlock=some k→(∃j,(ce cs j).val.ownBlock=some k)∨w0.heap.size≤k):STurn w0 g gs (stB g gs vp vf cs) room cs' fr' w':=by
  obtain ⟨vp',vf',s,m,n⟩:=t;refine ⟨vp',vf',⟨h.blk.mod m (h.sl.not_store h.blk),s,fun i=>?_⟩,?_,fun k hk=>?_⟩
  · obtain ⟨sp,ho⟩:=hv i
    refine ⟨sp,ho.mod m fun k hk=>?_⟩;obtain ⟨_,hb⟩:=ho.blk k hk;exact h.sl.not_byte hb
  · exact (Mod.of_below hb _).trans' (m.mono fun k hk=>stB_mem.2 (.inr (.inl hk)))
  · rcases stB_mem.1 hk with rfl | hk | ⟨i,hk⟩
    · exact .inl (stB_mem.2 (.inl rfl))
    · rcases n k hk with hk | hk
      · exact .inl (stB_mem.2 (.inr (.inl hk)))
      · exact .inr (Nat.le_trans hb.size hk)
    · rcases hn i k hk with ⟨j,hk⟩ | hk
      · exact .inl (stB_mem.2 (.inr (.inr ⟨j,hk⟩)))
      · exact .inr hk

theorem Stm.turn' (hb:Kb w0 w) (h:Stm w g gs vp vf room cs fr) (t:TurnC w gs (slB gs vp vf) room (cs'.map pl) fr' w')
    (hv:∀i,((ce cs' i).val=.slice none 0 0∧(ce cs' i).bs=[])∨∃j,(ce cs' i).val=(ce cs j).val∧(ce cs' i).bs=(ce cs j).bs):STurn w0 g gs (stB g gs vp vf cs) room cs' fr' w':=
  h.turn hb t (fun i=>by
    rcases hv i with ⟨e1,e2⟩ | ⟨j,e1,e2⟩
    · rw [e1,e2]
      exact ⟨[],Own.nil _ _⟩
    · rw [e1,e2]
      exact h.vals j) (fun i k hk=>by
    rcases hv i with ⟨e1,_⟩ | ⟨j,e1,_⟩
    · rw [e1] at hk
      cases hk
    · exact .inl ⟨j,by rw [← e1];exact hk⟩)

theorem STurn.trans (h:STurn w0 g gs S room cs fr w1) (k:∀vp vf,Stm w1 g gs vp vf room cs fr→STurn w1 g gs (stB g gs vp vf cs) room cs' fr' w2):STurn w0 g gs S room cs' fr' w2:=by
  obtain ⟨vp,vf,h1,h2,h3⟩:=h;obtain ⟨vp',vf',k1,k2,k3⟩:=k vp vf h1;exact ⟨vp',vf',k1,h2.trans h3 k2,h3.trans h2.size k3⟩
theorem STurn.refl (hb:Kb w0 w) (h:Stm w g gs vp vf room cs fr):STurn w0 g gs (stB g gs vp vf cs) room cs fr w:=⟨vp,vf,h,Mod.of_below hb _,fun _ hk=>.inl hk⟩

theorem cot_out (cs:Lz) (h:Int):Vac (cs.map pl) h↔cot cs h=0:=by
  rw [vac_pl];unfold cot;constructor
  · intro hv
    split
    · exact hv _ (by omega)
    · rfl
  · intro he i hi
    rw [if_pos (by omega)] at he;rw [show (h-1).toNat=i by omega] at he;exact he
theorem cot_in {h:Int} (hc:0<cot cs h):∃i:Nat,h=(i:Int)+1∧0<cc cs i∧cot cs h=cc cs i∧cat cs h=ce cs i:=by
  unfold cot at hc;split at hc
  · next h1=>
    refine ⟨(h-1).toNat,by omega,hc,?_,?_⟩
    · unfold cot;rw [if_pos h1]
    · unfold cat;rw [if_pos h1]
  · omega
structure Wz (cs:Lz):Prop where
  zero:∀i,cc cs i=0→ce cs i=zc
  ok:∀i,CeOk (ce cs i)
theorem Wf.z (w:Wf cs pend):Wz cs:=⟨w.zero,w.ok⟩
theorem Wz.cat0 (w:Wz cs) {h:Int} (hc:cot cs h=0):cat cs h=zc:=by
  unfold cot at hc;unfold cat;split
  · next h1=>
    rw [if_pos h1] at hc;exact w.zero _ hc
  · rfl
theorem Wf.cat0 (w:Wf cs pend) {h:Int} (hc:cot cs h=0):cat cs h=zc:=w.z.cat0 hc
theorem Wz.catOk (w:Wz cs) (h:Int):CeOk (cat cs h):=by
  unfold cat;split
  · exact w.ok _
  · exact zc_ok
theorem Wf.catOk (w:Wf cs pend) (h:Int):CeOk (cat cs h):=w.z.catOk h
theorem Wz.set (w:Wz cs) (i n:Nat) (c:Ce) (h:CeOk c) (hn:n=0→c=zc):Wz (cs.set i (n,c)):=by
  by_cases hl:i<cs.length
  · refine ⟨fun j hj=>?_,fun j=>?_⟩
    · rw [cc_set cs i j _ hl] at hj
      rw [ce_set cs i j _ hl];split
      · next e=>rw [if_pos e] at hj;exact hn hj
      · next e=>rw [if_neg e] at hj;exact w.zero j hj
    · rw [ce_set cs i j _ hl]
      split
      · exact h
      · exact w.ok j
  · rw [List.set_eq_of_length_le (by omega)]
    exact w
theorem Wz.setA (w:Wz cs) (h n:Nat) (hc:0<cc cs (h-1)):Wz (setA cs h n):=w.set _ _ _ ⟨(w.ok _).ld,(w.ok _).bd,(w.ok _).hk,(w.ok _).vs⟩ (fun e=>by omega)
theorem cat_nat (cs:Lz) (h:Nat):cat cs (h:Int)=sdC cs h:=by
  unfold cat sdC
  by_cases e:h=0
  · rw [if_pos e,if_neg (by omega)]
  · rw [if_neg e,if_pos (by omega),show ((h:Int)-1).toNat=h-1 by omega]

end Go.Proofs.YtdjpigfibafokaaGreatDoor

namespace Go.Proofs.YtdjpigfibafokaaGreatDoor
variable {S fr fr' pend:List Nat}
variable {b g gs k o room:Nat}
variable {cs cs':Lz}
variable {sp xs zs:Lq}
variable {v vf vp:Value}
variable {w w' w0 w1 w2:World}
set_option maxHeartbeats 2000000
set_option maxRecDepth 20000
open Go.RowKit

abbrev kl7 (x:Int):Lit:=.int .i64 x
abbrev Wfi (x:Int):Prop:=(Lit.int .i64 x).wf=true
theorem wfi_nat (n:Nat) (h:n≤2147483648):Wfi (n:Int):=by
  have:=wrap64_wf (n:Int);rw [Go.IntWalk.wrap64_in _ (by omega)] at this;exact this
theorem lit7_inj {H:Type} {x y:Int} (h:(DataW.lit (.int .i64 x):DataW H)=.lit (.int .i64 y)):x=y:=by
  simp only [DataW.lit.injEq,Lit.int.injEq,true_and] at h;exact h
def SM (w:World) (b n:Nat) (f:Int→Nat):Prop:=∃D:DataW Unit,w.ownsMap Tryz.prog 3 (plainElem Tryz.prog 3) b n D∧∀x,D.atKey (kl7 x) (.lit (.int .i64 0))=.lit (.int .i64 (f x:Int))

end Go.Proofs.YtdjpigfibafokaaGreatDoor
