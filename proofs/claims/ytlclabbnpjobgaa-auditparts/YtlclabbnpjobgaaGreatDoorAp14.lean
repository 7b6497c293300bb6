/- tag.Of, as a contract: the digest of the byte and of the parts behind it. -/
import Derived.Test.YtlclabbnpjobgaaGreatDoorAp12
import Derived.Test.YtlclabbnpjobgaaGreatDoorAp13
import Derived.Test.YtlclabbnpjobgaaGreatDoorAp09
import Derived.Maps.OwnSet
import Derived.Maps.RangeWalk
import Derived.Maps.OwnOps
import Derived.Maps.Views
namespace Go.Proofs.YtlclabbnpjobgaaGreatDoor
variable {S S1 fr fr' pend:List Nat}
variable {b base g gs k n o room:Nat}
variable {cs cs':Lz}
variable {sp zs:Lq}
variable {v vf vp:Value}
variable {w w' w0 w1 w2:World}
variable {xs:List Value}
variable {y:Int}
set_option maxHeartbeats 2000000
set_option maxRecDepth 20000
open Go.RowKit
def DigPost (l:Lq) (w:World) (e:Ending) (w':World):Prop:=e=.returned (.agg (B (dig l)))∧Kb w w'
set_option maxRecDepth 10000 in
theorem Zpj (t:Int) (v:Value) (ps:List (Lq)) (w:World) (h0:0≤t) (h1:t≤255) (h:Parts w v ps) (hL:Laid w) (hl:1+ps.flatten.length≤576460752303423488):
  Kc 156 #[.int .u8 t,v] w (DigPost (t::ps.flatten) w):=by
 obtain ⟨a,cap,V,rfl,hcap,hn,hcell,hr⟩:=h;have HC:=Za hcell;have HR:=Za hr;have HL:=Za hL;have HN:=Za hn;have HLN:=Za hl;have hp0:(0:Int)≤(ps.length:Int):=by omega
 clear hcell hr hL hl;go_enter Tryz.func156,Tryz.ntmps156
 go_wp2_with (refine Zh _ rfl _ rfl _ Zba ?_;intro w1 g1 hg1 hl1 B1 b1)
 have L1:=HL.out.grow b1;refine (Yeh w1 L1).mono ?_;rintro e w2 ⟨g,rfl,hg,hgl,S2,b2⟩;have L2:=L1.grow b2;have T2:Txt w2 g []:=⟨_,S2,rfl,Bytes.nil⟩;have c2:=b1.trans (b2.mono b1.size);have hgw:w.heap.size≤g:=Nat.le_trans b1.size hg;have hg2:3≤g:=Nat.le_trans HL.out.1 hgw;have bA:=Zc w2 (.cells #[.int .u8 t] 5);have cA:=Zb c2 bA;have HW:=Za (Zhk g (.slice (some ⟨w2.heap.size,0,none⟩) 1 1) [] [t] (w2.alloc (.cells #[.int .u8 t] 5)) (T2.grow bA) (Zlq w2 t h0 h1) (fun _ e=>by
  have e':some w2.heap.size=some g:=e;injection e' with e';omega) (L2.grow bA) hg2 (by simp))
 have BA:=(B1.grow b2).grow bA;clear S2 T2 L1 L2 B1
 go_wp2_with (go_at_call 179;refine HW.out.mono ?_;rintro e w3 ⟨rfl,T3,L3,g3⟩)
 have HT3:Hid (Txt w3 g (t::(ps.take 0).flatten)):=T3;have HL3:=Za L3;have HG3:=Za g3;have HBA:=Za BA;obtain ⟨wA,hwA⟩:∃x,x=w2.alloc (.cells #[.int .u8 t] 5):=⟨_,rfl⟩;rw [← hwA] at HG3 HBA cA;clear T3 L3 g3 BA HW bA hwA
 go_loopw [15] (fun i wr=>∃k:Nat,k≤ps.length∧i=.int .i64 k∧Hid (Txt wr g (t::(ps.take k).flatten))∧Hid (Laid wr)∧Hid (wA.grownBy wr (some g))) (fun i _=>ps.length-(intOf i).toNat)
 case atStart=>exact ⟨0,by omega,rfl,HT3,HL3,HG3⟩
 case round=>
  clear HT3 HL3 HG3;obtain ⟨k,hk,rfl,hT,hLr,hG⟩:=hrel
  by_cases hlt:k<ps.length
  ·obtain ⟨b,off,rfl,hcc⟩:=HC.out (by omega);have hx:=hcc k hlt;have hbw:=block_lt_of_cell hx;have hx1:=(cA.cell (p:=⟨b,off+k,none⟩) hbw).trans hx;have hx2:wr.cell? ⟨b,off+k,none⟩=some (V k):=hG.out.cell hx1 (fun e=>by
    injection e with e;have hbw':b<w.heap.size:=hbw;have e':b=g:=e;omega)
   have hap:=(HR.out k hlt).apart hgw;have hrk:=((HR.out k hlt).grow cA).kept hG.out hap;have HWK:=Za (Zhk g (V k) (t::(ps.take k).flatten) (ps.getD k []) wr hT.out hrk hap hLr.out hg2 (by
    have h2:=Zvm ps k hlt;have h3:=Yem ps (k+1);have h4:=HLN.out;unfold lens at h2 h3;rw [List.length_cons];omega))
   have HF:Hid ((t::(ps.take (k+1)).flatten)=(t::(ps.take k).flatten)++ps.getD k []):=by
    show _=_;rw [Zwm ps k hlt];rfl
   have k0:(0:Int)≤(k:Int):=by omega
   have k1:(k:Int)<(ps.length:Int):=by omega
   clear hx hcc hx1 hap hrk hbw;generalize V k=vk at *
   go_wp2_with (go_at_call 179;refine HWK.out.mono ?_;rintro e w4 ⟨rfl,T4,L4,g4⟩)
   refine ⟨⟨k+1,by omega,by go_num,?_,L4,Zbe hG.out g4⟩,by simp [intOf];omega⟩;show Txt _ _ _;rw [HF.out];exact T4
  ·have hfl:(ps.take k).flatten=ps.flatten:=by rw [List.take_of_length_le (by omega)]
   rw [hfl] at hT;have c5:=Ze cA hG.out hgw;have B5:=HBA.out.kept hG.out (show g1≠g by omega);have HSU:=Za (Yge g (t::ps.flatten) wr hT.out hLr.out (by have:=HLN.out;rw [List.length_cons];omega));have HSZ:Hid ((B (dig (t::ps.flatten))).size=32):=by rw [Zn];exact Zad _
   obtain ⟨D,hD⟩:∃D,D=dig (t::ps.flatten):=⟨_,rfl⟩;rw [← hD] at HSU HSZ;have HD:=Za hD;clear hD
   go_wp2_with (first | (go_at_call 180;refine HSU.out.mono ?_;rintro e w6 ⟨rfl,b6⟩;have B6:=B5.grow b6) | (refine Zf _ rfl _ _ _ rfl g1 _ _ rfl rfl B6 (by rw [HSZ.out];exact Zt) (by rw [HSZ.out,Zn];simp) (Zbt _) ?_;intro w7 B7 g7))
   exact bodyPost_ret (v:=.agg (B D)) (results_cell_row rfl _ _ g1 _ _ _ _ rfl B7 Tryz.underlying43 rfl (by rw [HSZ.out];exact Zt)) rfl ⟨by rw [HD.out],Ze (Zb c5 b6) g7 hg1⟩
theorem Laid.alloc (h:Laid w) (o:Obj):Laid (w.alloc o):=h.grow (Zc w o)
theorem Zwq (w:World) (hL:Laid w):Kc 120 #[] w (DigPost [0] w):=by
 have HL:=Za hL;have HSZ:Hid ((B (dig [0])).size=32):=by rw [Zn];exact Zad _
 obtain ⟨D,hD⟩:∃D,D=dig [0]:=⟨_,rfl⟩;have HD:=Za hD;have H:Hid (∀w',Laid w'→Kc 156 #[.int .u8 0,.slice none 0 0] w' fun e w''=>e=.returned (.agg (B D))∧Below w'.heap.size w' w''):=by
  intro w' hw';rw [hD];exact Zpj 0 _ [] w' (by omega) (by omega) (Zuz w') hw' (by simp)
 rw [← hD] at HSZ;clear hL hD;go_enter Tryz.func120,Tryz.ntmps120
 go_wp2_with (first | (refine Zh _ rfl _ rfl _ Zba ?_;intro w1 g1 hg1 hl1 B1 b1) | (go_at_call 156;refine (H.out _ (HL.out.grow b1)).mono ?_;rintro e w2 ⟨rfl,b2⟩;have B2:=B1.grow b2) | (refine Zf _ rfl _ _ _ rfl g1 _ _ rfl rfl B2 (by rw [HSZ.out];exact Zt) (by rw [HSZ.out,Zn];simp) (Zbt _) ?_;intro w3 B3 g3))
 exact bodyPost_ret (v:=.agg (B D)) (results_cell_row rfl _ _ g1 _ _ _ _ rfl B3 Tryz.underlying43 rfl (by rw [HSZ.out];exact Zt)) rfl ⟨by rw [HD.out],Ze (Zb b1 b2) g3 hg1⟩
theorem Zsn (v:Value) (zs:Lq) (w:World) (h:Reads w v zs) (hL:Laid w) (hl:zs.length<576460752303423488):Kc 116 #[v] w (DigPost (3::zs) w):=by
 have HL:=Za hL;have HSZ:Hid ((B (dig (3::zs))).size=32):=by rw [Zn];exact Zad _
 obtain ⟨D,hD⟩:∃D,D=dig (3::zs):=⟨_,rfl⟩;have HD:=Za hD;have H:Hid (∀w',Laid w'→Kb w w'→Kc 156 #[.int .u8 3,.slice (some ⟨w'.heap.size,0,none⟩) 1 1] (w'.alloc (.cells #[v] 52)) fun e w''=>e=.returned (.agg (B D))∧Below w'.heap.size w' w''):=by
  intro w' hw' hb;have h1:=Zpj 3 _ [zs] _ (by omega) (by omega) (Zuy w' v zs (h.grow hb)) (hw'.alloc _) (by simp;omega);rw [show [zs].flatten=zs by simp] at h1;rw [hD];exact h1.mono fun e w'' ⟨h2,h3⟩=>⟨h2,Zb (Zc _ _) h3⟩
 rw [← hD] at HSZ;obtain ⟨va,vc,rfl,_,_,_,_⟩:=h;clear hL hD;go_enter Tryz.func116,Tryz.ntmps116
 go_wp2_with (first | (refine Zh _ rfl _ rfl _ Zba ?_;intro w1 g1 hg1 hl1 B1 b1) | (go_at_call 156;refine (H.out w1 (HL.out.grow b1) b1).mono ?_;rintro e w2 ⟨rfl,b2⟩;have B2:=B1.grow b2) | (refine Zf _ rfl _ _ _ rfl g1 _ _ rfl rfl B2 (by rw [HSZ.out];exact Zt) (by rw [HSZ.out,Zn];simp) (Zbt _) ?_;intro w3 B3 g3))
 exact bodyPost_ret (v:=.agg (B D)) (results_cell_row rfl _ _ g1 _ _ _ _ rfl B3 Tryz.underlying43 rfl (by rw [HSZ.out];exact Zt)) rfl ⟨by rw [HD.out],Ze (Zb b1 b2) g3 hg1⟩
theorem Yag (K A:Lq) (w:World) (hk:K.length=32) (ha:A.length=32) (bk:Bytes K) (ba:Bytes A) (hL:Laid w):Kc 121 #[.agg (B K),.agg (B A)] w (DigPost (1::(K++A)) w):=by
 have HL:=Za hL;have HSZ:Hid ((B (dig (1::(K++A)))).size=32):=by rw [Zn];exact Zad _
 obtain ⟨D,hD⟩:∃D,D=dig (1::(K++A)):=⟨_,rfl⟩;have HD:=Za hD;have H:Hid (∀w' g1 g2,Laid w'→Blk w' g1 48 (B K)→Blk w' g2 43 (B A)→Kc 156 #[.int .u8 1,.slice (some ⟨w'.heap.size,0,none⟩) 2 2] (w'.alloc (.cells #[.slice (some ⟨g1,0,none⟩) 32 32,.slice (some ⟨g2,0,none⟩) 32 32] 52)) fun e w''=>e=.returned (.agg (B D))∧Below w'.heap.size w' w''):=by
  intro w' g1 g2 hw' B1 B2;have h1:=Zpj 1 _ [K,A] _ (by omega) (by omega) (Zlm w' _ _ K A (B1.readsN bk 32 hk) (B2.readsN ba 32 ha)) (hw'.alloc _) (by simp [hk,ha]);rw [show [K,A].flatten=K++A by simp] at h1;rw [hD];exact h1.mono fun e w'' ⟨h2,h3⟩=>⟨h2,Zb (Zc _ _) h3⟩
 rw [← hD] at HSZ;clear bk ba hk ha hL hD;go_enter Tryz.func121,Tryz.ntmps121
 go_wp2_with (first | (refine Zh _ rfl _ rfl _ Zba ?_;intro w3 g3 hg3 hl3 B3 b3) | (have hx:=hl1;clear hx;refine Zd _ rfl _ _ rfl _ rfl ?_;intro w2 g2 hg2 hl2 B2 b2) | (refine Zd _ rfl _ _ rfl _ rfl ?_;intro w1 g1 hg1 hl1 B1 b1))
 have c2:=b1.trans (b2.mono b1.size);have c3:=c2.trans (b3.mono c2.size);have HB1:=Za ((B1.grow b2).grow b3);have HB2:=Za (B2.grow b3);have HL3:=Za (HL.out.grow c3);have HB3:=Za B3;clear B1 B2 B3;refine wp_region_any (by kernel_rfl) ?_
 change wpAny _ _ _ _ _ _ _ (World.drew _)
 refine wpAny_take (i:=0) (v:=.slice (some ⟨g1,0,none⟩) 32 32) rfl (by kernel_rfl) (by kernel_rfl) (by kernel_rfl) (fun _ _ _ h=>h) (Or.inl ⟨by rfl,fun w=>by go_simp⟩) ?_;simp only [zq];refine wpAny_take (i:=1) (v:=.slice (some ⟨g2,0,none⟩) 32 32) rfl (by kernel_rfl) (by kernel_rfl) (by kernel_rfl) (fun _ _ _ h=>h) (Or.inl ⟨by rfl,fun w=>by go_simp⟩) ?_;simp only [zq];refine wpAny_ready (rs:=[2]) (by kernel_rfl) (by simp) ?_;refine AllReady.cons rfl (fun K1 hK=>?_) AllReady.nil;go_simp;refine hK _ _ ?_;clear hK K1;refine wpAny_ready (rs:=[3]) (by kernel_rfl) (by simp) ?_;refine AllReady.cons rfl (fun K1 hK=>?_) AllReady.nil;go_simp;refine (H.out w3.drew g1 g2 (HL3.out.grow (Below.refl _ _).drew) HB1.out HB2.out).mono ?_;rintro e w4 ⟨rfl,b4⟩;refine hK _ _ ?_;clear hK K1;have c4:Kb w w4:=c3.trans ((Zb (Below.refl _ _).drew b4).mono c3.size);have B4:=HB3.out.grow (Zb (Below.refl _ _).drew b4);refine wpAny_ready (rs:=[4]) (by kernel_rfl) (by simp) ?_;refine AllReady.cons rfl (fun K1 hK=>?_) AllReady.nil;refine Zcs _ rfl _ _ _ rfl g3 _ (B D) rfl rfl B4 (by rw [HSZ.out];exact Zt) (by rw [HSZ.out,Zn];simp) (Zbt _) ?_;intro w5 B5 g5;refine hK _ _ ?_;clear hK K1;refine wpAny_done (by kernel_rfl) ?_ _;simp only [Act.put,List.getElem_toArray,List.getElem_cons_zero,List.getElem_cons_succ]
 go_wp2_with fail
 exact bodyPost_ret (v:=.agg (B D)) (results_cell_row rfl _ _ g3 _ _ _ _ rfl B5 Tryz.underlying43 rfl (by rw [HSZ.out];exact Zt)) rfl ⟨by rw [HD.out],Ze c4 g5 (Nat.le_trans c2.size hg3)⟩
theorem Zvv (K A:Lq) (w:World) (hk:K.length=32) (ha:A.length=32) (bk:Bytes K) (ba:Bytes A) (hL:Laid w):Kc 123 #[.agg (B K),.agg (B A)] w (DigPost (2::(K++A)) w):=by
 have HL:=Za hL;have HSZ:Hid ((B (dig (2::(K++A)))).size=32):=by rw [Zn];exact Zad _
 obtain ⟨D,hD⟩:∃D,D=dig (2::(K++A)):=⟨_,rfl⟩;have HD:=Za hD;have H:Hid (∀w' g1 g2,Laid w'→Blk w' g1 43 (B K)→Blk w' g2 43 (B A)→Kc 156 #[.int .u8 2,.slice (some ⟨w'.heap.size,0,none⟩) 2 2] (w'.alloc (.cells #[.slice (some ⟨g1,0,none⟩) 32 32,.slice (some ⟨g2,0,none⟩) 32 32] 52)) fun e w''=>e=.returned (.agg (B D))∧Below w'.heap.size w' w''):=by
  intro w' g1 g2 hw' B1 B2;have h1:=Zpj 2 _ [K,A] _ (by omega) (by omega) (Zlm w' _ _ K A (B1.readsN bk 32 hk) (B2.readsN ba 32 ha)) (hw'.alloc _) (by simp [hk,ha]);rw [show [K,A].flatten=K++A by simp] at h1;rw [hD];exact h1.mono fun e w'' ⟨h2,h3⟩=>⟨h2,Zb (Zc _ _) h3⟩
 rw [← hD] at HSZ;clear bk ba hk ha hL hD;go_enter Tryz.func123,Tryz.ntmps123
 go_wp2_with (first | (refine Zh _ rfl _ rfl _ Zba ?_;intro w3 g3 hg3 hl3 B3 b3) | (have hx:=hl1;clear hx;refine Zd _ rfl _ _ rfl _ rfl ?_;intro w2 g2 hg2 hl2 B2 b2) | (refine Zd _ rfl _ _ rfl _ rfl ?_;intro w1 g1 hg1 hl1 B1 b1))
 have c2:=b1.trans (b2.mono b1.size);have c3:=c2.trans (b3.mono c2.size);have HB1:=Za ((B1.grow b2).grow b3);have HB2:=Za (B2.grow b3);have HL3:=Za (HL.out.grow c3);have HB3:=Za B3;clear B1 B2 B3;refine wp_region_any (by kernel_rfl) ?_
 change wpAny _ _ _ _ _ _ _ (World.drew _)
 refine wpAny_take (i:=0) (v:=.slice (some ⟨g1,0,none⟩) 32 32) rfl (by kernel_rfl) (by kernel_rfl) (by kernel_rfl) (fun _ _ _ h=>h) (Or.inl ⟨by rfl,fun w=>by go_simp⟩) ?_;simp only [zq];refine wpAny_take (i:=1) (v:=.slice (some ⟨g2,0,none⟩) 32 32) rfl (by kernel_rfl) (by kernel_rfl) (by kernel_rfl) (fun _ _ _ h=>h) (Or.inl ⟨by rfl,fun w=>by go_simp⟩) ?_;simp only [zq];refine wpAny_ready (rs:=[2]) (by kernel_rfl) (by simp) ?_;refine AllReady.cons rfl (fun K1 hK=>?_) AllReady.nil;go_simp;refine hK _ _ ?_;clear hK K1;refine wpAny_ready (rs:=[3]) (by kernel_rfl) (by simp) ?_;refine AllReady.cons rfl (fun K1 hK=>?_) AllReady.nil;go_simp;refine (H.out w3.drew g1 g2 (HL3.out.grow (Below.refl _ _).drew) HB1.out HB2.out).mono ?_;rintro e w4 ⟨rfl,b4⟩;refine hK _ _ ?_;clear hK K1;have c4:Kb w w4:=c3.trans ((Zb (Below.refl _ _).drew b4).mono c3.size);have B4:=HB3.out.grow (Zb (Below.refl _ _).drew b4);refine wpAny_ready (rs:=[4]) (by kernel_rfl) (by simp) ?_;refine AllReady.cons rfl (fun K1 hK=>?_) AllReady.nil;refine Zcs _ rfl _ _ _ rfl g3 _ (B D) rfl rfl B4 (by rw [HSZ.out];exact Zt) (by rw [HSZ.out,Zn];simp) (Zbt _) ?_;intro w5 B5 g5;refine hK _ _ ?_;clear hK K1;refine wpAny_done (by kernel_rfl) ?_ _;simp only [Act.put,List.getElem_toArray,List.getElem_cons_zero,List.getElem_cons_succ]
 go_wp2_with fail
 exact bodyPost_ret (v:=.agg (B D)) (results_cell_row rfl _ _ g3 _ _ _ _ rfl B5 Tryz.underlying43 rfl (by rw [HSZ.out];exact Zt)) rfl ⟨by rw [HD.out],Ze c4 g5 (Nat.le_trans c2.size hg3)⟩
theorem Yfi:cz zc=zcl:=rfl
theorem Zar {c:Ce} (h:CeOk c):Th (cz c):=⟨Zim h,Zda h⟩
theorem Zav (c:Ce) (h:CeOk c):(cz c)[32]?=some (.int .u8 c.kind)∧(cz c)[33]?=some (.int .i64 (c.ab:Int))∧(cz c)[34]?=some (.int .i64 (c.sz:Int))∧(cz c)[67]?=some c.val∧(cz c)[68]?=some (.int .i64 (c.dp:Int))∧(cz c)[69]?=some (.int .i64 (c.l:Int))∧(cz c)[70]?=some (.int .i64 (c.r:Int)):=by
 have h1:(c.dig.map (Value.int .u8)).length=32:=by simp [h.ld]
 have h2:(c.key.map (Value.int .u8)).length=32:=by simp [h.hk.1]
 unfold cz;refine ⟨?_,?_,?_,?_,?_,?_,?_⟩
 ·rw [List.getElem?_append_right (by omega),h1];rfl
 ·rw [List.getElem?_append_right (by omega),h1];rfl
 ·rw [List.getElem?_append_right (by omega),h1];rfl
 ·rw [List.getElem?_append_right (by omega),h1];show (c.key.map (Value.int .u8)++_)[32]?=_;rw [List.getElem?_append_right (by omega),h2];rfl
 ·rw [List.getElem?_append_right (by omega),h1];show (c.key.map (Value.int .u8)++_)[33]?=_;rw [List.getElem?_append_right (by omega),h2];rfl
 ·rw [List.getElem?_append_right (by omega),h1];show (c.key.map (Value.int .u8)++_)[34]?=_;rw [List.getElem?_append_right (by omega),h2];rfl
 ·rw [List.getElem?_append_right (by omega),h1];show (c.key.map (Value.int .u8)++_)[35]?=_;rw [List.getElem?_append_right (by omega),h2];rfl
def SegC (c:Ce) (o:Nat) (xs:Lq):Prop:=∀j v,(xs.map (Value.int .u8))[j]?=some v→(cz c)[o+j]?=some v
theorem Yjp (c:Ce):SegC c 0 c.dig:=fun j v hj=>by
 have hlt:j<(c.dig.map (Value.int .u8)).length:=(List.getElem?_eq_some_iff.1 hj).1;unfold cz;rw [Nat.zero_add,List.getElem?_append_left hlt];exact hj
theorem Ydd (c:Ce) (h:CeOk c):SegC c 35 c.key:=fun j v hj=>by
 have h1:(c.dig.map (Value.int .u8)).length=32:=by simp [h.ld]
 have hlt:j<(c.key.map (Value.int .u8)).length:=(List.getElem?_eq_some_iff.1 hj).1;unfold cz;rw [List.getElem?_append_right (by omega),h1,show 35+j-32=j+3 by omega];show (c.key.map (Value.int .u8)++_)[j]?=_;rw [List.getElem?_append_left hlt];exact hj
theorem SegC.range {t:TypeId} {c:Ce} {xs:Lq} (h:SegC c o xs) (hb:Blk w g t (cz c).toArray):w.rangeAt g o (xs.map (Value.int .u8)):=fun j v hv=>by
 rw [hb.cell];simpa using h j v hv
theorem Zny (f ft off:Nat) (v:Value) (cs:Array Value) (fs:Array Field) (fd:Field) (hu:Tryz.prog.underlying 88=some (.struct fs)) (hf:fs[f]?=some fd) (ht:fd.type=ft) (ho:fd.offset=off) (hag:∀w,(isAgg ft).run Tryz.prog w=.ok false w) (hc:cs[off]?=some v) (w:World):(Instr.field 88 (.agg cs) f).run Tryz.prog w=.ok v w:=by
 subst ht ho;unfold Instr.field;rw [Sem.run_bind,run_underlying hu w];simp only [Result.andThen_ok,hf];rw [Sem.run_bind];show (part fd.type cs fd.offset).run Tryz.prog w=_;unfold part;rw [Sem.run_bind,hag w];simp only [Result.andThen_ok,Bool.false_eq_true,if_false,hc];rfl
theorem Zwl (f ft off:Nat) (n e:Nat) (c:Ce) (xs:Lq) (fs:Array Field) (fd:Field) (hu:Tryz.prog.underlying 88=some (.struct fs)) (hf:fs[f]?=some fd) (ht:fd.type=ft) (ho:fd.offset=off) (hag:Tryz.prog.underlying ft=some (.array n e)) (hi:(Tryz.prog.info? ft).map (·.size)=some xs.length) (hs:SegC c off xs) (w:World):(Instr.field 88 (.agg (cz c).toArray) f).run Tryz.prog w=.ok (.agg (B xs)) w:=by
 subst ht ho;cases hq:Tryz.prog.info? fd.type with
 | none=>simp [hq] at hi
 | some i=>
  have hz:i.size=xs.length:=by simpa [hq] using hi
  have hagg:(isAgg fd.type).run Tryz.prog w=.ok true w:=by
   unfold isAgg;rw [Sem.run_bind,run_underlying hag w];rfl
  have hex:((cz c).toArray).extract fd.offset (fd.offset+xs.length)=B xs:=by
   apply Array.ext';simp only [Array.toList_extract,Zaz,List.extract_eq_take_drop];apply List.ext_getElem?;intro j;rw [List.getElem?_take]
   by_cases hj:j<xs.length
   ·rw [if_pos (by omega),List.getElem?_drop,hs j ((xs.map (Value.int .u8))[j]'(by simpa using hj)) (by rw [List.getElem?_eq_getElem])];rw [List.getElem?_eq_getElem]
   ·rw [if_neg (by omega),List.getElem?_eq_none (by simpa using hj)]
  unfold Instr.field;rw [Sem.run_bind,run_underlying hu w];simp only [Result.andThen_ok,hf];rw [Sem.run_bind];show (part fd.type (cz c).toArray fd.offset).run Tryz.prog w=_;unfold part;rw [Sem.run_bind,hagg];simp only [Result.andThen_ok,if_true];rw [Sem.run_bind];simp [sizeOf,typeInfo,hq,hz];simpa using hex
theorem Zqj:∀w,(isAgg 86).run Tryz.prog w=.ok false w:=fun w=>by kernel_rfl
theorem Zgn:∀w,(isAgg 3).run Tryz.prog w=.ok false w:=fun w=>by kernel_rfl
theorem Zmq:∀w,(isAgg 52).run Tryz.prog w=.ok false w:=fun w=>by kernel_rfl
theorem Yaz (c:Ce) (h:CeOk c):∀w,(Instr.field 88 (.agg (cz c).toArray) 1).run Tryz.prog w=.ok (.int .u8 c.kind) w:=fun w=>Zny 1 86 32 _ _ _ _ Tryz.underlying88 rfl rfl rfl Zqj (by simpa using (Zav c h).1) w
theorem Yhn (c:Ce) (h:CeOk c):∀w,(Instr.field 88 (.agg (cz c).toArray) 2).run Tryz.prog w=.ok (.int .i64 (c.ab:Int)) w:=fun w=>Zny 2 3 33 _ _ _ _ Tryz.underlying88 rfl rfl rfl Zgn (by simpa using (Zav c h).2.1) w
theorem Yfb (c:Ce) (h:CeOk c):∀w,(Instr.field 88 (.agg (cz c).toArray) 5).run Tryz.prog w=.ok c.val w:=fun w=>Zny 5 52 67 _ _ _ _ Tryz.underlying88 rfl rfl rfl Zmq (by simpa using (Zav c h).2.2.2.1) w
theorem Yfd (c:Ce) (h:CeOk c):∀w,(Instr.field 88 (.agg (cz c).toArray) 0).run Tryz.prog w=.ok (.agg (B c.dig)) w:=fun w=>Zwl 0 43 0 _ _ c c.dig _ _ Tryz.underlying88 rfl rfl rfl Tryz.underlying43 (by rw [h.ld];exact Zt) (Yjp c) w
theorem Yfc (c:Ce) (h:CeOk c):∀w,(Instr.field 88 (.agg (cz c).toArray) 4).run Tryz.prog w=.ok (.agg (B c.key)) w:=fun w=>Zwl 4 48 35 _ _ c c.key _ _ Tryz.underlying88 rfl rfl rfl Tryz.underlying48 (by rw [h.hk.1];exact Zi) (Ydd c h) w
def cePlaces:Nat→Option (Nat×Nat):=fun i=>(#[(0,32),(32,1),(33,1),(34,1),(35,32),(67,1),(68,1),(69,1),(70,1)]:Array (Nat×Nat))[i]?
theorem Zmo (ps:List (Nat×Value)):Tryz.prog.built 88 ps=Instr.fill cePlaces zcl.toArray ps:=by kernel_rfl
def lfC (D K:Lq) (v:Value) (bs:Lq):Ce:=⟨D,1,0,1,K,v,bs,0,0,0⟩
def inC (D K:Lq) (sz d l r:Nat):Ce:=⟨D,2,0,sz,K,.slice none 0 0,[],d,l,r⟩
theorem Zcy (i off n:Nat) (v:Value) (p q r xs:List Value) (rest:List (Nat×Value)) (hi:cePlaces i=some (off,n)) (hv:v.cells=xs.toArray) (hx:xs.length=n) (hp:p.length=off) (hq:q.length=n):Instr.fill cePlaces (p++(q++r)).toArray ((i,v)::rest)=Instr.fill cePlaces (p++(xs++r)).toArray rest:=by
 rw [Zcx cePlaces i off n v xs _ rest hi hv hx (by simp;omega),← hp,List.take_left' rfl,List.append_assoc,show p.length+n=(p++q).length by simp [hq],← List.append_assoc p q r,List.drop_left' rfl]
theorem Ycn (c:Ce) (h:c.dig.length=32) (D:Lq) (hD:D.length=32) (rest:List (Nat×Value)):Instr.fill cePlaces (cz c).toArray ((0,.agg (B D))::rest)=Instr.fill cePlaces (cz { c with dig:=D}).toArray rest:=by
 unfold cz;exact Zcy 0 0 32 _ [] (c.dig.map (Value.int .u8)) _ (D.map (Value.int .u8)) rest rfl (Zoe D) (by simp [hD]) rfl (by simp [h])
theorem Zxb (c:Ce) (h:c.dig.length=32) (k:Int) (rest:List (Nat×Value)):Instr.fill cePlaces (cz c).toArray ((1,.int .u8 k)::rest)=Instr.fill cePlaces (cz { c with kind:=k}).toArray rest:=by
 unfold cz;exact Zcy 1 32 1 _ (c.dig.map (Value.int .u8)) [Value.int .u8 c.kind] _ [Value.int .u8 k] rest rfl rfl rfl (by simp [h]) rfl
theorem Yhx (c:Ce) (h:c.dig.length=32) (n:Nat) (rest:List (Nat×Value)):Instr.fill cePlaces (cz c).toArray ((3,.int .i64 (n:Int))::rest)=Instr.fill cePlaces (cz { c with sz:=n}).toArray rest:=by
 have:=Zcy 3 34 1 (.int .i64 (n:Int)) (c.dig.map (Value.int .u8)++[Value.int .u8 c.kind,.int .i64 (c.ab:Int)]) [Value.int .i64 (c.sz:Int)] (c.key.map (Value.int .u8)++[c.val,.int .i64 (c.dp:Int),.int .i64 (c.l:Int),.int .i64 (c.r:Int)]) [Value.int .i64 (n:Int)] rest rfl rfl rfl (by simp [h]) rfl;simpa [cz] using this
theorem Ycm (c:Ce) (h:c.dig.length=32) (hk:c.key.length=32) (K:Lq) (hK:K.length=32) (rest:List (Nat×Value)):Instr.fill cePlaces (cz c).toArray ((4,.agg (B K))::rest)=Instr.fill cePlaces (cz { c with key:=K}).toArray rest:=by
 have:=Zcy 4 35 32 (.agg (B K)) (c.dig.map (Value.int .u8)++[Value.int .u8 c.kind,.int .i64 (c.ab:Int),.int .i64 (c.sz:Int)]) (c.key.map (Value.int .u8)) [c.val,.int .i64 (c.dp:Int),.int .i64 (c.l:Int),.int .i64 (c.r:Int)] (K.map (Value.int .u8)) rest rfl (Zoe K) (by simp [hK]) (by simp [h]) (by simp [hk]);simpa [cz] using this
theorem Yhw (c:Ce) (h:c.dig.length=32) (hk:c.key.length=32) (v:Value) (hv:v.cells= #[v]) (bs:Lq) (rest:List (Nat×Value)):Instr.fill cePlaces (cz c).toArray ((5,v)::rest)=Instr.fill cePlaces (cz { c with val:=v,bs:=bs}).toArray rest:=by
 have:=Zcy 5 67 1 v (c.dig.map (Value.int .u8)++([Value.int .u8 c.kind,.int .i64 (c.ab:Int),.int .i64 (c.sz:Int)]++c.key.map (Value.int .u8))) [c.val] [.int .i64 (c.dp:Int),.int .i64 (c.l:Int),.int .i64 (c.r:Int)] [v] rest rfl hv rfl (by simp [h,hk]) rfl;simpa [cz] using this
theorem Yjf (c:Ce) (h:c.dig.length=32) (hk:c.key.length=32) (n:Nat) (rest:List (Nat×Value)):Instr.fill cePlaces (cz c).toArray ((6,.int .i64 (n:Int))::rest)=Instr.fill cePlaces (cz { c with dp:=n}).toArray rest:=by
 have:=Zcy 6 68 1 (.int .i64 (n:Int)) (c.dig.map (Value.int .u8)++([Value.int .u8 c.kind,.int .i64 (c.ab:Int),.int .i64 (c.sz:Int)]++(c.key.map (Value.int .u8)++[c.val]))) [.int .i64 (c.dp:Int)] [.int .i64 (c.l:Int),.int .i64 (c.r:Int)] [.int .i64 (n:Int)] rest rfl rfl rfl (by simp [h,hk]) rfl;simpa [cz] using this
theorem Yjv (c:Ce) (h:c.dig.length=32) (hk:c.key.length=32) (n:Nat) (rest:List (Nat×Value)):Instr.fill cePlaces (cz c).toArray ((7,.int .i64 (n:Int))::rest)=Instr.fill cePlaces (cz { c with l:=n}).toArray rest:=by
 have:=Zcy 7 69 1 (.int .i64 (n:Int)) (c.dig.map (Value.int .u8)++([Value.int .u8 c.kind,.int .i64 (c.ab:Int),.int .i64 (c.sz:Int)]++(c.key.map (Value.int .u8)++[c.val,.int .i64 (c.dp:Int)]))) [.int .i64 (c.l:Int)] [.int .i64 (c.r:Int)] [.int .i64 (n:Int)] rest rfl rfl rfl (by simp [h,hk]) rfl;simpa [cz] using this
theorem Yju (c:Ce) (h:c.dig.length=32) (hk:c.key.length=32) (n:Nat) (rest:List (Nat×Value)):Instr.fill cePlaces (cz c).toArray ((8,.int .i64 (n:Int))::rest)=Instr.fill cePlaces (cz { c with r:=n}).toArray rest:=by
 have:=Zcy 8 70 1 (.int .i64 (n:Int)) (c.dig.map (Value.int .u8)++([Value.int .u8 c.kind,.int .i64 (c.ab:Int),.int .i64 (c.sz:Int)]++(c.key.map (Value.int .u8)++[c.val,.int .i64 (c.dp:Int),.int .i64 (c.l:Int)]))) [.int .i64 (c.r:Int)] [] [.int .i64 (n:Int)] rest rfl rfl rfl (by simp [h,hk]) rfl;simpa [cz] using this
theorem Zqd (D K:Lq) (v:Value) (bs:Lq) (hD:D.length=32) (hK:K.length=32) (hv:v.cells= #[v]):Tryz.prog.built 88 [(0,.agg (B D)),(1,.int .u8 1),(3,.int .i64 1),(4,.agg (B K)),(5,v)]=some (cz (lfC D K v bs)).toArray:=by
 rw [Zmo,← Yfi];exact (Ycn zc rfl D hD _).trans ((Zxb ⟨D,0,0,0,z32,.slice none 0 0,[],0,0,0⟩ hD 1 _).trans ((Yhx ⟨D,1,0,0,z32,.slice none 0 0,[],0,0,0⟩ hD 1 _).trans ((Ycm ⟨D,1,0,1,z32,.slice none 0 0,[],0,0,0⟩ hD rfl K hK _).trans (Yhw ⟨D,1,0,1,K,.slice none 0 0,[],0,0,0⟩ hD hK v hv bs _))))
theorem Zqe (D K:Lq) (sz d l r:Nat) (hD:D.length=32) (hK:K.length=32):Tryz.prog.built 88 [(0,.agg (B D)),(1,.int .u8 2),(3,.int .i64 (sz:Int)),(4,.agg (B K)),(6,.int .i64 (d:Int)),(7,.int .i64 (l:Int)),(8,.int .i64 (r:Int))]=some (cz (inC D K sz d l r)).toArray:=by
 rw [Zmo,← Yfi];exact (Ycn zc rfl D hD _).trans ((Zxb ⟨D,0,0,0,z32,.slice none 0 0,[],0,0,0⟩ hD 2 _).trans ((Yhx ⟨D,2,0,0,z32,.slice none 0 0,[],0,0,0⟩ hD sz _).trans ((Ycm ⟨D,2,0,sz,z32,.slice none 0 0,[],0,0,0⟩ hD rfl K hK _).trans ((Yjf ⟨D,2,0,sz,K,.slice none 0 0,[],0,0,0⟩ hD hK d _).trans ((Yjv ⟨D,2,0,sz,K,.slice none 0 0,[],d,0,0⟩ hD hK l _).trans (Yju ⟨D,2,0,sz,K,.slice none 0 0,[],d,l,0⟩ hD hK r _))))))
def cot (cs:Lz) (h:Int):Nat:=if 1≤h then cc cs (h-1).toNat else 0
def cat (cs:Lz) (h:Int):Ce:=if 1≤h then ce cs (h-1).toNat else zc
structure Stm (w:World) (g gs:Nat) (vp vf:Value) (room:Nat) (cs:Lz) (fr:List Nat):Prop where
 blk:Blk w g 85 #[.pointer (some ⟨g,0,none⟩),.pointer (some ⟨gs,0,none⟩)]
 sl:SlC w gs vp vf room (cs.map pl) fr
 vals:∀i,∃sp,Own 0 w (ce cs i).val (ce cs i).bs sp
def stB (g gs:Nat) (vp vf:Value) (cs:Lz):List Nat:=g::(slB gs vp vf++cs.flatMap fun p=>p.2.val.ownBlock.toList)
theorem Zcb:k∈stB g gs vp vf cs↔k=g∨k∈slB gs vp vf∨∃i,(ce cs i).val.ownBlock=some k:=by
 simp only [stB,List.mem_cons,List.mem_append,List.mem_flatMap,Option.mem_toList];constructor
 ·rintro (h | h | ⟨p,hp,hk⟩)
  ·exact .inl h
  ·exact .inr (.inl h)
  ·obtain ⟨i,hi,rfl⟩:=List.getElem_of_mem hp;exact .inr (.inr ⟨i,by simpa [ce,hi] using hk⟩)
 ·rintro (h | h | ⟨i,hk⟩)
  ·exact .inl h
  ·exact .inr (.inl h)
  ·by_cases hi:i<cs.length
   ·exact .inr (.inr ⟨cs[i],List.getElem_mem hi,by simpa [ce,hi] using hk⟩)
   ·rw [Yhz cs i (by omega)] at hk;cases hk
theorem Own.blk (h:Own b w v zs sp) (k:Nat) (hk:v.ownBlock=some k):∃cs,Blk w k 5 cs:=by
 rcases h.2.2.2 with ⟨rfl,_⟩ | ⟨g,ex,_,rfl,hr⟩
 ·cases hk
 ·simp only [Value.ownBlock,Option.some.injEq] at hk;subst hk;exact ⟨_,hr⟩
theorem Own.mod (h:Own b w v zs sp) (m:Mod S w w') (hn:∀k,v.ownBlock=some k→k ∉ S):Own b w' v zs sp:=h.of_block fun k hk=>m.block k (h.lt k hk).2 (hn k hk)
theorem Stm.mod (h:Stm w g gs vp vf room cs fr) (m:Mod S w w') (hn:∀k∈stB g gs vp vf cs,k ∉ S):Stm w' g gs vp vf room cs fr:=
 ⟨h.blk.mod m (hn g (Zcb.2 (.inl rfl))),h.sl.mod m (fun k hk=>hn k (Zcb.2 (.inr (.inl hk)))),fun i=>by
  obtain ⟨sp,ho⟩:=h.vals i;exact ⟨sp,ho.mod m fun k hk=>hn k (Zcb.2 (.inr (.inr ⟨i,hk⟩)))⟩⟩
theorem Stm.grow (h:Stm w g gs vp vf room cs fr) (hb:Kb w w'):Stm w' g gs vp vf room cs fr:=h.mod (Mod.of_below hb []) (fun _ _ h=>by cases h)
theorem SlC.lts {ps:List Pl} (h:SlC w g vp vf room ps fr):∀k∈slB g vp vf,k<w.heap.size:=fun k hk=>by
 rcases Zaa.1 hk with rfl | hk | hk
 ·exact h.blk.lt
 ·exact Zdu h.pls k hk
 ·exact Zdu h.frs k hk
theorem Stm.lts (h:Stm w g gs vp vf room cs fr):∀k∈stB g gs vp vf cs,k<w.heap.size:=fun k hk=>by
 rcases Zcb.1 hk with rfl | hk | ⟨i,hk⟩
 ·exact h.blk.lt
 ·exact h.sl.lts k hk
 ·obtain ⟨sp,ho⟩:=h.vals i;exact (ho.lt k hk).2
theorem Yir:(5:Nat)≠127:=by decide
theorem Ygb:(5:Nat)≠3:=by decide
theorem Yiq:(173:Nat)≠5:=by decide
theorem Yip:(85:Nat)≠127:=by decide
theorem Yio:(3:Nat)≠85:=by decide
theorem Yin:(173:Nat)≠85:=by decide
theorem SlC.not_byte {ps:List Pl} (h:SlC w g vp vf room ps fr) {k:Nat} {cs:Array Value} (hb:Blk w k 5 cs):k ∉ slB g vp vf:=fun hk=>by
 rcases Zaa.1 hk with rfl | hk | hk
 ·exact hb.ne h.blk Yir rfl
 ·exact Zm h.pls hb Yiq hk
 ·exact Zm h.frs hb Ygb.symm hk
theorem SlC.not_store {ps:List Pl} (h:SlC w g vp vf room ps fr) {k:Nat} {cs:Array Value} (hb:Blk w k 85 cs):k ∉ slB g vp vf:=fun hk=>by
 rcases Zaa.1 hk with rfl | hk | hk
 ·exact hb.ne h.blk Yip rfl
 ·exact Zm h.pls hb Yin hk
 ·exact Zm h.frs hb Yio hk
def STurn (w:World) (g gs:Nat) (S:List Nat) (room:Nat) (cs:Lz) (fr:List Nat) (w':World):Prop:=∃vp vf,Stm w' g gs vp vf room cs fr∧Mod S w w'∧New S w (stB g gs vp vf cs)
theorem Stm.turn (hb:Kb w0 w) (h:Stm w g gs vp vf room cs fr) (t:TurnC w gs (slB gs vp vf) room (cs'.map pl) fr' w')
  (hv:∀i,∃sp,Own 0 w (ce cs' i).val (ce cs' i).bs sp) (hn:∀i k,(ce cs' i).val.ownBlock=some k→(∃j,(ce cs j).val.ownBlock=some k)∨w0.heap.size≤k):STurn w0 g gs (stB g gs vp vf cs) room cs' fr' w':=by
 obtain ⟨vp',vf',s,m,n⟩:=t;refine ⟨vp',vf',⟨h.blk.mod m (h.sl.not_store h.blk),s,fun i=>?_⟩,?_,fun k hk=>?_⟩
 ·obtain ⟨sp,ho⟩:=hv i;refine ⟨sp,ho.mod m fun k hk=>?_⟩;obtain ⟨_,hb⟩:=ho.blk k hk;exact h.sl.not_byte hb
 ·exact (Mod.of_below hb _).trans' (m.mono fun k hk=>Zcb.2 (.inr (.inl hk)))
 ·rcases Zcb.1 hk with rfl | hk | ⟨i,hk⟩
  ·exact .inl (Zcb.2 (.inl rfl))
  ·rcases n k hk with hk | hk
   ·exact .inl (Zcb.2 (.inr (.inl hk)))
   ·exact .inr (Nat.le_trans hb.size hk)
  ·rcases hn i k hk with ⟨j,hk⟩ | hk
   ·exact .inl (Zcb.2 (.inr (.inr ⟨j,hk⟩)))
   ·exact .inr hk
theorem Stm.turn' (hb:Kb w0 w) (h:Stm w g gs vp vf room cs fr) (t:TurnC w gs (slB gs vp vf) room (cs'.map pl) fr' w')
  (hv:∀i,((ce cs' i).val=.slice none 0 0∧(ce cs' i).bs=[])∨∃j,(ce cs' i).val=(ce cs j).val∧(ce cs' i).bs=(ce cs j).bs):STurn w0 g gs (stB g gs vp vf cs) room cs' fr' w':=
 h.turn hb t (fun i=>by
  rcases hv i with ⟨e1,e2⟩ | ⟨j,e1,e2⟩
  ·rw [e1,e2];exact ⟨[],Own.nil _ _⟩
  ·rw [e1,e2];exact h.vals j) (fun i k hk=>by
  rcases hv i with ⟨e1,_⟩ | ⟨j,e1,_⟩
  ·rw [e1] at hk;cases hk
  ·exact .inl ⟨j,by rw [← e1];exact hk⟩)
theorem STurn.trans (h:STurn w0 g gs S room cs fr w1) (k:∀vp vf,Stm w1 g gs vp vf room cs fr→STurn w1 g gs (stB g gs vp vf cs) room cs' fr' w2):STurn w0 g gs S room cs' fr' w2:=by
 obtain ⟨vp,vf,h1,h2,h3⟩:=h;obtain ⟨vp',vf',k1,k2,k3⟩:=k vp vf h1;exact ⟨vp',vf',k1,h2.trans h3 k2,h3.trans h2.size k3⟩
theorem STurn.refl (hb:Kb w0 w) (h:Stm w g gs vp vf room cs fr):STurn w0 g gs (stB g gs vp vf cs) room cs fr w:=⟨vp,vf,h,Mod.of_below hb _,fun _ hk=>.inl hk⟩
theorem Zoc (cs:Lz) (h:Int):Vac (cs.map pl) h↔cot cs h=0:=by
 rw [Yfy];unfold cot;constructor
 ·intro hv;split
  ·exact hv _ (by omega)
  ·rfl
 ·intro he i hi;rw [if_pos (by omega)] at he;rw [show (h-1).toNat=i by omega] at he;exact he
theorem Zel {h:Int} (hc:0<cot cs h):∃i:Nat,h=(i:Int)+1∧0<cc cs i∧cot cs h=cc cs i∧cat cs h=ce cs i:=by
 unfold cot at hc;split at hc
 ·next h1=>
  refine ⟨(h-1).toNat,by omega,hc,?_,?_⟩
  ·unfold cot;rw [if_pos h1]
  ·unfold cat;rw [if_pos h1]
 ·omega
structure Wz (cs:Lz):Prop where
 zero:∀i,cc cs i=0→ce cs i=zc
 ok:∀i,CeOk (ce cs i)
theorem Wf.z (w:Wf cs pend):Wz cs:=⟨w.zero,w.ok⟩
theorem Wz.cat0 (w:Wz cs) {h:Int} (hc:cot cs h=0):cat cs h=zc:=by
 unfold cot at hc;unfold cat;split
 ·next h1=>
  rw [if_pos h1] at hc;exact w.zero _ hc
 ·rfl
theorem Wf.cat0 (w:Wf cs pend) {h:Int} (hc:cot cs h=0):cat cs h=zc:=w.z.cat0 hc
theorem Wz.catOk (w:Wz cs) (h:Int):CeOk (cat cs h):=by
 unfold cat;split
 ·exact w.ok _
 ·exact Zql
theorem Wf.catOk (w:Wf cs pend) (h:Int):CeOk (cat cs h):=w.z.catOk h
theorem Wz.set (w:Wz cs) (i n:Nat) (c:Ce) (h:CeOk c) (hn:n=0→c=zc):Wz (cs.set i (n,c)):=by
 by_cases hl:i<cs.length
 ·refine ⟨fun j hj=>?_,fun j=>?_⟩
  ·rw [Zem cs i j _ hl] at hj;rw [Zcm cs i j _ hl];split
   ·next e=>rw [if_pos e] at hj;exact hn hj
   ·next e=>rw [if_neg e] at hj;exact w.zero j hj
  ·rw [Zcm cs i j _ hl];split
   ·exact h
   ·exact w.ok j
 ·rw [List.set_eq_of_length_le (by omega)];exact w
theorem Wz.setA (w:Wz cs) (h n:Nat) (hc:0<cc cs (h-1)):Wz (setA cs h n):=w.set _ _ _ ⟨(w.ok _).ld,(w.ok _).bd,(w.ok _).hk,(w.ok _).vs⟩ (fun e=>by omega)
theorem Zac (cs:Lz) (h:Nat):cat cs (h:Int)=sdC cs h:=by
 unfold cat sdC
 by_cases e:h=0
 ·rw [if_pos e,if_neg (by omega)]
 ·rw [if_neg e,if_pos (by omega),show ((h:Int)-1).toNat=h-1 by omega]
abbrev kl7 (x:Int):Lit:=.int .i64 x
theorem Zvp (x:Int):WideAt.IsKeyLit (kl7 x):=trivial
theorem Zvo {x:Int} (h:x≠y):kl7 x≠kl7 y:=fun e=>h (by injection e)
abbrev Wfi (x:Int):Prop:=(Lit.int .i64 x).wf=true
theorem Zdy (n:Nat) (h:n≤2147483648):Wfi (n:Int):=by
 have:=wrap64_wf (n:Int);rw [Go.IntWalk.wrap64_in _ (by omega)] at this;exact this
theorem Yad {H:Type} {x:Int} (h:(DataW.lit (.int .i64 x):DataW H)=.lit (.int .i64 y)):x=y:=by
 simp only [DataW.lit.injEq,Lit.int.injEq,true_and] at h;exact h
theorem iK7:Maps.Keyed Tryz.prog 3:=Maps.int_keyed Tryz.underlying3
theorem Yam {x:Int} (h:Wfi x):keyOf Tryz.prog 3 (.int .i64 x)=some (kl7 x):=Maps.keyOf_int_mk Tryz.underlying3 h
def SM (w:World) (b n:Nat) (f:Int→Nat):Prop:=∃D:DataW Unit,w.ownsMap Tryz.prog 3 (plainElem Tryz.prog 3) b n D∧∀x,D.atKey (kl7 x) (.lit (.int .i64 0))=.lit (.int .i64 (f x:Int))
theorem SM.lt {f:Int→Nat} (h:SM w b n f):b<w.heap.size:=by
 obtain ⟨D,h,_⟩:=h;exact h.lt
theorem SM.grow {f:Int→Nat} (h:SM w b n f) (hb:Kb w w'):SM w' b n f:=by
 obtain ⟨D,⟨es,clock,k1,k2⟩,h3⟩:=h;exact ⟨D,⟨es,clock,(hb.block b (Array.getElem?_eq_some_iff.1 k1).1).trans k1,k2⟩,h3⟩
theorem SM.notCells {f:Int→Nat} {t:TypeId} {cs:Array Value} (h:SM w b n f) (hb:Blk w g t cs):b≠g:=by
 rintro rfl;obtain ⟨D,⟨es,clock,k1,_⟩,_⟩:=h;unfold Blk at hb;rw [k1] at hb;cases hb
theorem SM.new (w:World):SM (w.alloc (.map #[] 0)) w.heap.size 0 (fun _=>0):=⟨.map [],World.ownsMap_made w _ _ _,fun _=>rfl⟩
theorem SM.look {f:Int→Nat} (h:SM w b n f) {x:Int} (hx:Wfi x):(Instr.lookup 76 (.map (some b)) (.int .i64 x) false).run Tryz.prog w=.ok (.int .i64 (f x:Int)) w:=by
 obtain ⟨D,h1,h2⟩:=h;obtain ⟨c,hrun,hat,_⟩:=h1.lookup_int iK7 Tryz.underlying76 Tryz.underlying3 (Tryz.zeroValue3 w) (Yam hx);rw [hrun];rw [h2 x] at hat;rw [Yad hat]
theorem SM.put {f:Int→Nat} (h:SM w b n f) (x:Int) (c:Nat) (hx:Wfi x) (hc:c≤2147483648) (hn:n≤1073741824):∃w',(Instr.mapUpdate 76 (.map (some b)) (.int .i64 x) (.int .i64 (c:Int))).run Tryz.prog w=.ok () w'∧SM w' b (n+1) (fun y=>if y=x then c else f y)∧w.grownBy w' (some b):=by
 obtain ⟨D,h1,h2⟩:=h;obtain ⟨w',hrun,hown,hg⟩:=h1.update iK7 Tryz.underlying76 (by simp only [maxLen];omega) (Yam hx) (plainElem_int (H:=Unit) Tryz.underlying3 (Zdy c hc));refine ⟨w',hrun,⟨_,hown,fun y=>?_⟩,hg⟩;show _=DataW.lit (Lit.int .i64 ((if y=x then c else f y:Nat):Int))
 by_cases e:y=x
 ·subst e;rw [if_pos rfl];exact Maps.atKey_put_same h1.isMap (Zvp _) _ _
 ·rw [if_neg e,Maps.atKey_put_other (Zvo e)];exact h2 y
theorem Zfb {ops:Array Oper} {rest:List Oper} {o:Oper} {a:Act} {Q:Exit→Act→World→Prop} (hg:o.guard=none) (m x v:Operand) (t:TypeId) (hop:o.op=Op.mapUpdate t m x v) (vm vx vv:Value)
  (hm:a.eval m=vm) (hx:a.eval x=vx) (hv:a.eval v=vv) (hrun:(Instr.mapUpdate t vm vx vv).run Tryz.prog w=.ok () w') (hK:wpList Tryz.prog ops Q rest (a.put o.dst undef) w'):wpList Tryz.prog ops Q (o::rest) a w:=by
 refine wpList_plain hg fun K' hK'=>?_
 unfold Oper.wp;simp [execOp,hop,hm,hx,hv,hrun,Result.andThen];exact hK' _ _ hK
def Kq (S:List Nat) (w:World) (P:World→Prop):Prop:=∀w',Mod S w w'→P w'
theorem Kq.now {P:World→Prop} (h:Kq S w P):P w:=h w (Mod.refl _ _)
theorem Kq.turn {P:World→Prop} (h:Kq S w P) (m:Mod S w w1) (n:New S w S1):Kq S1 w1 P:=fun w' m'=>h w' (m.trans n m')
theorem Kq.step {P:World→Prop} (h:Kq S w P) (m:Mod S w w1):Kq S w1 P:=h.turn m (New.refl _ _)
theorem Kq.grow {P:World→Prop} (h:Kq S w P) (b:Kb w w1):Kq S w1 P:=h.step (Mod.of_below b S)
theorem Kq.imp {P Q:World→Prop} (h:Kq S w P) (q:∀w',Mod S w w'→P w'→Q w'):Kq S w Q:=fun w' m=>q w' m (h w' m)
theorem Kq.blk {t:TypeId} {cs:Array Value} (h:Blk w g t cs) (hn:g ∉ S):Kq S w (fun w'=>Blk w' g t cs):=fun _ m=>h.mod m hn
theorem Kq.of_low {P:World→Prop} (h:∀w',Kb w0 w'→P w') (hb:Kb w0 w) (hS:∀k∈S,w0.heap.size≤k):Kq S w P:=fun w' m=>h w' (hb.trans (m.below hS hb.size))
theorem Zck {e:TypeId} (h:w.ownsRow base e k v n xs) (m:Mod S w w') (hn:∀g,v.ownBlock=some g→g ∉ S):w'.ownsRow base e k v n xs:=by
 refine ⟨h.1,?_⟩;rcases h.2 with hh | ⟨g,cap,cur,rfl,hb,hgg,rest⟩
 ·exact .inl hh
 ·exact .inr ⟨g,cap,cur,rfl,hb,(m.block g (Array.getElem?_eq_some_iff.1 hgg).1 (hn g rfl)).trans hgg,rest⟩
theorem Zl {e:TypeId} (h:w.ownsRow base e k v n xs) (hb:Kb w w'):w'.ownsRow base e k v n xs:=Zck h (Mod.of_below hb []) (fun _ _ h=>by cases h)
theorem Zaj {base':Nat} {e:TypeId} (h:w.ownsRow base e k v n xs) (hb:base'≤base):w.ownsRow base' e k v n xs:=by
 refine ⟨h.1,h.2.imp id ?_⟩;rintro ⟨g,cap,cur,e1,e2,e3⟩;exact ⟨g,cap,cur,e1,Nat.le_trans hb e2,e3⟩
theorem Zu {e:TypeId} (h:w.ownsRow base e k v n xs):Lst w e k v n xs:=⟨h.1,h.2.imp id (fun ⟨g,cap,cur,a1,_,a3⟩=>⟨g,cap,cur,a1,Nat.zero_le _,a3⟩)⟩
theorem Zaf {e:TypeId} (hb:Kb w0 w) (h:w.ownsRow base e k v n xs) (hl:w0.heap.size≤base) (hg:w.grownBy w' v.ownBlock):Kb w0 w':=by
 have m:Mod v.ownBlock.toList w w':=Mod.of_grown hg (fun k hk=>by simp [hk]);refine hb.trans (m.below (fun k hk=>?_) hb.size);have:=(h.lt k (by simpa using hk)).1;omega
end Go.Proofs.YtlclabbnpjobgaaGreatDoor
