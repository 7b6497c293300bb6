/- The document's Drop: its walk. -/
import Derived.Test.YtgfdgjkbcdmboaaGreatDoorDs35
namespace Go.Proofs.YtgfdgjkbcdmboaaGreatDoor
variable {K bs sp zs:Lq}
variable {P:Ending→World→Prop}
variable {S fr hsl:List Nat}
variable {b base c g l n q room wn:Nat}
variable {cs:Lz}
variable {fi rt:Int}
variable {ss:List Sp}
variable {u v vf vp:Value}
variable {w w' w0:World}
set_option maxHeartbeats 8000000
set_option maxRecDepth 20000
open Go.RowKit
theorem Yft {RW:World→Nat→Nat→World→Prop}
  (HS:Hid (∀b,w.heap.size≤b→b ∉ S)) (HPS:Hid ((Tryz.prog.info? 34).map (·.size)=some (B K).size)) (HWN:Hid (wn=hsl.length)) (hw256:wn≤256)
  (HAH:Hid (Kr w 45 #[.pointer (some ⟨q,0,none⟩),.int .i64 rt] (.int .i64 0)))
  (HFT:Hid (Kr w 56 #[.pointer (some ⟨q,0,none⟩),.int .i64 1] (.bool true)))
  (HWY:Hid (∀w',Kb w w'→Kc 46 #[.pointer (some ⟨q,0,none⟩),.int .i64 rt,.agg (B K)] w' fun e w''=>∃a c,e=.returned (.tuple #[.slice a wn c,.int .i64 fi])∧w''.ownsRow w'.heap.size 3 1 (.slice a wn c) wn (nats hsl)∧Below w'.heap.size w' w''))
  (HMN:Hid (Kr w 47 #[.pointer (some ⟨q,0,none⟩),.int .i64 fi,.agg (B K)] (.bool true)))
  (HP0:Hid (∀w5,Kb w w5→RW w5 wn 0 w5)) (HGR:Hid (∀w5 m t w' w'',RW w5 m t w'→Below w'.heap.size w' w''→RW w5 m t w'')) (HKP:Hid (∀w5 m t w' (Q:World→Prop),Kq S w5 Q→RW w5 m t w'→Q w'))
  (HUP:Hid (∀w5 m (t:Nat) w',m<wn→RW w5 (m+1) t w'→Kc 57 #[.pointer (some ⟨q,0,none⟩),.agg (B K),.int .i64 (m:Int),.int .i64 (hsl.getD m 0:Int),.int .i64 (t:Int)] w' fun e w''=>∃(t':Nat) (y:Int),e=.returned (.tuple #[.int .i64 (t':Int),.int .i64 y])∧RW w5 m t' w''))
  (HDR:Hid (∀w5 (t:Nat) w',Kb w w5→RW w5 0 t w'→Kc 58 #[.pointer (some ⟨q,0,none⟩),.int .i64 rt] w' fun e w''=>∃x y:Int,e=.returned (.tuple #[.int .i64 x,.int .i64 y])∧P (.returned (.tuple #[.int .i64 (t:Int),.bool true,.int .i64 0])) w'')):Kc 15 #[.pointer (some ⟨q,0,none⟩),.int .i64 rt,.agg (B K)] w P:=by
 have HPL:Hid ((Tryz.prog.info? 34).map (·.size)=some (B K).toList.length):=by show _=_;rw [Array.length_toList];exact HPS.out
 have hww:wrap64 ((wn:Int)-1)=(wn:Int)-1:=Go.IntWalk.wrap64_in _ (by omega);go_enter Tryz.func15,Tryz.ntmps15
 go_wp2_with (first
  |((with_reducible refine Zl 5 ?_);refine Zc _ rfl _ _ rfl _ rfl ?_;intro w1 b6 hg6 hl6 B6 q6;have HB1:=Za B6;have HQ1:=Za q6;have HG6:=Za hg6;clear hg6 hl6 B6 q6)
  |(go_at_call 45;refine (HAH.out _ HQ1.out).mono ?_;rintro e w2 ⟨rfl,b2⟩;have HQ2:=Za (Zb HQ1.out b2);have HB2:=Za (HB1.out.grow b2);clear b2)
  |(go_at_call 56;refine (HFT.out _ HQ2.out).mono ?_;rintro e w3 ⟨rfl,b3⟩;have HQ3:=Za (Zb HQ2.out b3);have HB3:=Za (HB2.out.grow b3);clear b3)
  |((with_reducible refine Zk 26 5 ?_);refine Zd _ rfl _ _ rfl b6 _ rfl HB3.out _ _ Tryz.underlying34 HPS.out ?_)
  |(go_at_call 46;refine (HWY.out _ HQ3.out).mono ?_;rintro e w4 ⟨wa,wc,rfl,o4,b4⟩;have HO4:=Za (Zae o4 HQ3.out.size);have HQ4:=Za (Zb HQ3.out b4);have HB4:=Za (HB3.out.grow b4);clear b4 o4)
  |((with_reducible refine Zk 32 5 ?_);refine Zd _ rfl _ _ rfl b6 _ rfl HB4.out _ _ Tryz.underlying34 HPS.out ?_)
  |(go_at_call 47;refine (HMN.out _ HQ4.out).mono ?_;rintro e w5 ⟨rfl,b5⟩;have HQ5:=Za (Zb HQ4.out b5);have HB5:=Za (HB4.out.grow b5);have HO5:=Za (Zn HO4.out b5);clear b5))
 have HB6:=Za (Kq.blk HB5.out (HS.out b6 HG6.out));have HI6:Hid (Kq S w5 (fun w'=>Ints9 w' wa hsl)):=Zdr HO5.out HWN.out (fun g hg=>HS.out g (HO5.out.lt g hg).1);have HR6:=Za (HP0.out _ HQ5.out);clear HAH HFT HWY HMN HB1 HB2 HB3 HB4 HB5 HQ1 HQ2 HQ3 HQ4 HO4 HO5
 go_loopw [12,13] (fun nv dv wr=>∃(j t:Nat),j≤wn∧nv=.int .i64 (t:Int)∧dv=.int .i64 ((j:Int)-1)∧Hid (RW w5 j t wr)) (fun _ dv _=>(intOf dv+1).toNat)
 case atStart=>exact ⟨wn,0,Nat.le_refl _,rfl,rfl,HR6⟩
 case round=>
 clear HR6;obtain ⟨j,t,hj,rfl,rfl,hR⟩:=hrel
 by_cases hj0:0<j
 ·obtain ⟨m,rfl⟩:∃m,j=m+1:=⟨j-1,by omega⟩;rw [show (((m+1:Nat):Int)-1)=(m:Int) by omega];have i1:(0:Int)≤(m:Int):=by omega
  have i2:(m:Int)<(wn:Int):=by omega
  have hwm:wrap64 ((m:Int)-1)=(m:Int)-1:=Go.IntWalk.wrap64_in _ (by omega);have hmw:m<wn:=by omega
  obtain ⟨lb,rfl,-⟩:=HI6.out.now m (by rw [← HWN.out];exact hmw);have HU2:Hid (∀w5 (t:Nat) w',RW w5 (m+1) t w'→Kc 57 #[.pointer (some ⟨q,0,none⟩),.agg (B K),.int .i64 (m:Int),.int .i64 (hsl.getD m 0:Int),.int .i64 (t:Int)] w' fun e w''=>∃(t':Nat) (y:Int),e=.returned (.tuple #[.int .i64 (t':Int),.int .i64 y])∧RW w5 m t' w''):=fun w5 t w' hr=>HUP.out w5 m t w' hmw hr
  have hcl:∀ {w'},Ints9 w' (some ⟨lb,0,none⟩) hsl→w'.cell? ⟨lb,m,none⟩=some (.int .i64 (hsl.getD m 0:Int)):=fun {w'} hi=>by
   obtain ⟨g',e1,e2⟩:=hi m (by rw [← HWN.out];exact hmw);injection e1 with e1;injection e1 with e1;rw [e1];exact e2
  generalize (hsl.getD m 0:Int)=xx at HU2 hcl;have hRd:=HGR.out _ _ _ _ _ hR.out (below_drewN (Below.refl wr.heap.size wr) 1)
  go_wp2_with fail
  refine wp_region_held_drew (S:=fun w'=>Blk w' b6 34 (B K)∧w'.cell? ⟨lb,m,none⟩=some (.int .i64 xx)) (by kernel_rfl) (⟨HKP.out _ _ _ _ _ HB6.out hRd,hcl (HKP.out _ _ _ _ _ HI6.out hRd)⟩) (fun hHeld=>?_);refine tkp 0 (.pointer (some ⟨q,0,none⟩)) hHeld ?_;simp only [zq];refine tkg 1 (.agg (B K)) rfl (yieldsIf_load_mid rfl 34 (.tmp 5) rfl b6 0 rfl (B K).toList _ (fun w hS=>hS.1.range) Tryz.underlying34 rfl HPL.out) hHeld ?_;simp only [zq];refine tkp 2 (.int .i64 (m:Int)) hHeld ?_;simp only [zq];refine tkp 3 (.slice (some ⟨lb,0,none⟩) wn wc) hHeld ?_;simp only [zq];refine tkp 4 (.int .i64 (m:Int)) hHeld ?_;simp only [zq];refine tkp 5 (.pointer (some ⟨lb,m,none⟩)) hHeld ?_;simp only [zq];refine tkg 6 (.int .i64 xx) rfl (Or.inl ⟨by rfl,fun w hS=>by (have q1:=hS.2;go_simp)⟩) hHeld ?_;simp only [zq];refine tkp 7 (.int .i64 (t:Int)) hHeld ?_;simp only [zq];refine wpAnyH_ready (rs:=[8]) (by kernel_rfl) (by simp) ?_;refine AllReadyH.cons rfl (fun KQ hK=>?_) AllReadyH.nil;go_simp;refine (HU2.out _ _ _ hRd).mono ?_;rintro e z1 ⟨t1,y1,rfl,r1⟩;refine hK.out _ _ (⟨HKP.out _ _ _ _ _ HB6.out r1,hcl (HKP.out _ _ _ _ _ HI6.out r1)⟩) (fun hHeld=>?_);clear hK KQ;refine tkp 9 (.tuple #[.int .i64 (t1:Int),.int .i64 y1]) hHeld ?_;simp only [zq];refine tkp 10 (.int .i64 (t1:Int)) hHeld ?_;simp only [zq];refine tkp 11 (.int .i64 y1) hHeld ?_;simp only [zq];refine tkp 12 (.int .i64 (t1:Int)) hHeld ?_;simp only [zq];refine wpAnyH_done (by kernel_rfl) ?_ _;have HR1:=Za r1;clear r1 hRd hHeld hcl hR
  go_wp2_with fail
  exact ⟨⟨m,t1,by omega,rfl,rfl,HR1⟩,by first | (simp [intOf];done) | (simp [intOf];omega)⟩
 ·obtain rfl:j=0:=by omega
  have i1: ¬(0:Int)≤((0:Nat):Int)-1:=by omega
  have HD2:=Za (HDR.out _ _ _ HQ5.out hR.out)
  go_wp2_with (first
   |(go_at_call 58;refine HD2.out.mono ?_;rintro e z4 ⟨x4,y4,rfl,p4⟩;have HP4:=Za p4;clear p4))
  go_ret3;exact HP4.out
theorem Yfu (HPS:Hid ((Tryz.prog.info? 34).map (·.size)=some (B K).size))
  (HAH:Hid (Kr w 45 #[.pointer (some ⟨q,0,none⟩),.int .i64 rt] (.int .i64 0)))
  (HFT:Hid (Kr w 56 #[.pointer (some ⟨q,0,none⟩),.int .i64 1] (.bool true)))
  (HWY:Hid (∀w',Kb w w'→Kc 46 #[.pointer (some ⟨q,0,none⟩),.int .i64 rt,.agg (B K)] w' fun e w''=>∃a c,e=.returned (.tuple #[.slice a wn c,.int .i64 fi])∧w''.ownsRow w'.heap.size 3 1 (.slice a wn c) wn (nats hsl)∧Below w'.heap.size w' w''))
  (HMN:Hid (Kr w 47 #[.pointer (some ⟨q,0,none⟩),.int .i64 fi,.agg (B K)] (.bool false))):Kc 15 #[.pointer (some ⟨q,0,none⟩),.int .i64 rt,.agg (B K)] w fun e w'=>e=.returned (.tuple #[.int .i64 rt,.bool false,.int .i64 0])∧Kb w w':=by
 go_enter Tryz.func15,Tryz.ntmps15
 go_wp2_with (first
  |((with_reducible refine Zl 5 ?_);refine Zc _ rfl _ _ rfl _ rfl ?_;intro w1 b6 hg6 hl6 B6 q6;have HB1:=Za B6;have HQ1:=Za q6;have HG6:=Za hg6;clear hg6 hl6 B6 q6)
  |(go_at_call 45;refine (HAH.out _ HQ1.out).mono ?_;rintro e w2 ⟨rfl,b2⟩;have HQ2:=Za (Zb HQ1.out b2);have HB2:=Za (HB1.out.grow b2);clear b2)
  |(go_at_call 56;refine (HFT.out _ HQ2.out).mono ?_;rintro e w3 ⟨rfl,b3⟩;have HQ3:=Za (Zb HQ2.out b3);have HB3:=Za (HB2.out.grow b3);clear b3)
  |((with_reducible refine Zk 26 5 ?_);refine Zd _ rfl _ _ rfl b6 _ rfl HB3.out _ _ Tryz.underlying34 HPS.out ?_)
  |(go_at_call 46;refine (HWY.out _ HQ3.out).mono ?_;rintro e w4 ⟨wa,wc,rfl,o4,b4⟩;have HO4:=Za (Zae o4 HQ3.out.size);have HQ4:=Za (Zb HQ3.out b4);have HB4:=Za (HB3.out.grow b4);clear b4 o4)
  |((with_reducible refine Zk 32 5 ?_);refine Zd _ rfl _ _ rfl b6 _ rfl HB4.out _ _ Tryz.underlying34 HPS.out ?_)
  |(go_at_call 47;refine (HMN.out _ HQ4.out).mono ?_;rintro e w5 ⟨rfl,b5⟩;have HQ5:=Za (Zb HQ4.out b5);have HB5:=Za (HB4.out.grow b5);have HO5:=Za (Zn HO4.out b5);clear b5))
 go_ret3;exact ⟨rfl,HQ5.out⟩
theorem Yfv
  (HAH:Hid (Kr w 45 #[.pointer (some ⟨q,0,none⟩),.int .i64 rt] (.int .i64 0)))
  (HFT:Hid (Kr w 56 #[.pointer (some ⟨q,0,none⟩),.int .i64 1] (.bool false))):Kc 15 #[.pointer (some ⟨q,0,none⟩),.int .i64 rt,.agg (B K)] w fun e w'=>e=.returned (.tuple #[.int .i64 0,.bool false,.int .i64 9])∧Kb w w':=by
 go_enter Tryz.func15,Tryz.ntmps15
 go_wp2_with (first
  |((with_reducible refine Zl 5 ?_);refine Zc _ rfl _ _ rfl _ rfl ?_;intro w1 b6 hg6 hl6 B6 q6;have HB1:=Za B6;have HQ1:=Za q6;have HG6:=Za hg6;clear hg6 hl6 B6 q6)
  |(go_at_call 45;refine (HAH.out _ HQ1.out).mono ?_;rintro e w2 ⟨rfl,b2⟩;have HQ2:=Za (Zb HQ1.out b2);have HB2:=Za (HB1.out.grow b2);clear b2)
  |(go_at_call 56;refine (HFT.out _ HQ2.out).mono ?_;rintro e w3 ⟨rfl,b3⟩;have HQ3:=Za (Zb HQ2.out b3);have HB3:=Za (HB2.out.grow b3);clear b3))
 go_ret3;exact ⟨rfl,HQ3.out⟩
theorem Yfw {e0:Int} (h0:(e0 != 0)=true)
  (HAH:Hid (Kr w 45 #[.pointer (some ⟨q,0,none⟩),.int .i64 rt] (.int .i64 e0))):Kc 15 #[.pointer (some ⟨q,0,none⟩),.int .i64 rt,.agg (B K)] w fun e w'=>e=.returned (.tuple #[.int .i64 0,.bool false,.int .i64 e0])∧Kb w w':=by
 go_enter Tryz.func15,Tryz.ntmps15
 go_wp2_with (first
  |((with_reducible refine Zl 5 ?_);refine Zc _ rfl _ _ rfl _ rfl ?_;intro w1 b6 hg6 hl6 B6 q6;have HB1:=Za B6;have HQ1:=Za q6;have HG6:=Za hg6;clear hg6 hl6 B6 q6)
  |(go_at_call 45;refine (HAH.out _ HQ1.out).mono ?_;rintro e w2 ⟨rfl,b2⟩;have HQ2:=Za (Zb HQ1.out b2);have HB2:=Za (HB1.out.grow b2);clear b2))
 go_ret3;exact ⟨rfl,HQ2.out⟩
theorem Zvg:Tryz.prog.underlying 187=some (.slice 9):=Tryz.underlying187
theorem Zqb:(Tryz.prog.info? 9).map (fun i=>(i.zero,i.size,i.bytes))=some (some (.string ByteArray.empty),1,16):=by kernel_rfl
def SRow (w:World) (g:Nat) (ss:List ByteArray):Prop:=w.heap[g]?=some (.cells (ss.map Value.string).toArray 9 (0,0))
theorem SRow.cell {ss:List ByteArray} (h:SRow w g ss) (i:Nat) (hi:i<ss.length):w.cell? ⟨g,i,none⟩=some (.string (ss.getD i ByteArray.empty)):=by
 rw [cell_of_row w g i _ _ _ h];simp [List.getD,hi]
theorem SRow.frozen {ss:List ByteArray} (h:SRow w g ss) (i:Nat):w.frozen? ⟨g,i,none⟩=false:=frozen_of_row w g i _ _ h
theorem SRow.set {ss:List ByteArray} (h:SRow w g ss) (i:Nat) (s:ByteArray):SRow (w.setCell ⟨g,i,none⟩ (.string s)) g (ss.set i s):=by
 unfold SRow;rw [heap_setCell_same w g i _ _ _ h];congr 2
 apply Array.ext';simp [List.map_set]
theorem Zsw {ops:Array Oper} {rest:List Oper} {o:Oper} {a:Act} {Q:Exit→Act→World→Prop} (w:World) (hgd:o.guard=none) (x y:Operand)
  (hop:o.op=Op.makeSlice 187 x y) (kl kc:IntKind) (L C:Int) (n:Nat) (hx:a.eval x=.int kl L) (hy:a.eval y=.int kc C) (hL:L=(n:Int)) (hC:C=(n:Int)) (hn:n≤17592186044416)
  (h:∀w',SRow w' w.heap.size (List.replicate n ByteArray.empty)→Kb w w'→w'.heap.size=w.heap.size+1→wpList Tryz.prog ops Q rest (a.put o.dst (.slice (some ⟨w.heap.size,0,none⟩) n n)) w'):
  wpList Tryz.prog ops Q (o::rest) a w:=by
 refine wpList_plain hgd fun K hK=>?_
 obtain ⟨i,hi,hz,hs,hby⟩:=info_parts Zqb;subst hL;subst hC;have hr:=run_make (P:=Tryz.prog) w 187 9 i _ Zvg hi hz kl kc n n (by omega) (by omega) (by rw [hby];omega) (by omega);rw [hs,Nat.mul_one] at hr;simp only [Int.toNat_natCast] at hr;have hm:madeCells (Value.cells (.string ByteArray.empty)) n=((List.replicate n ByteArray.empty).map Value.string).toArray:=by
  apply Array.ext';have h:=toList_madeCells_one (.string ByteArray.empty) n;simp only [Value.cells] at *;rw [h];simp
 rw [hm] at hr;unfold Oper.wp;simp [execOp,hop,hx,hy,hr,Result.andThen];exact hK _ _ (h _ (by unfold SRow;rw [show ((List.replicate n ByteArray.empty).map Value.string).toArray=Array.replicate n (Value.string ByteArray.empty) by simp];exact heap_alloc_new w _) (Zh w _) (by simp))
structure Lists (base gl off n:Nat) (V:Nat→Value) (Z S:Nat→Lq) (w:World):Prop where
 cell:∀i,i<n→w.cell? ⟨gl,off+i,none⟩=some (V i)
 own:∀i,i<n→Own base w (V i) (Z i) (S i)
 apart:∀i k,i<n→k<n→i≠k→∀g,(V i).ownBlock=some g→(V k).ownBlock≠some g
 far:∀i,i<n→(V i).ownBlock≠some gl
def txt (Z S:Nat→Lq) (k:Nat):ByteArray:=strOfNums (Z k++S k)
theorem Yah (Z S:Nat→Lq) (n k:Nat) (h:k<n):((List.range k).map (txt Z S)++List.replicate (n-k) ByteArray.empty).set k (txt Z S k)=(List.range (k+1)).map (txt Z S)++List.replicate (n-(k+1)) ByteArray.empty:=by
 have e:List.replicate (n-k) ByteArray.empty=ByteArray.empty::List.replicate (n-(k+1)) ByteArray.empty:=by
  rw [show n-k=(n-(k+1))+1 by omega];rfl
 rw [e,List.set_append_right _ _ (by simp),List.range_succ];simp
theorem Blk.bput {t:TypeId} (h:Blk w g t (B zs)) (i:Nat) (z:Int):Blk (w.setCell ⟨g,i,none⟩ (.int .u8 z)) g t (B (zs.set i z)):=by
 have:=h.set i (.int .u8 z);rw [Zou] at this;exact this
def OwnT (base:Nat) (w:World) (v:Value) (zs sp:Lq):Prop:=
 Bytes zs∧Bytes sp∧zs.length+sp.length≤maxLen∧
 ((v=.slice none 0 0∧zs=[]∧sp=[])∨∃g t rest,base≤g∧v=.slice (some ⟨g,0,none⟩) zs.length (zs.length+sp.length)∧Blk w g t (B (zs++sp++rest)))
theorem Own.toT (h:Own base w v zs sp):OwnT base w v zs sp:=by
 obtain ⟨h1,h2,h3,h4⟩:=h;refine ⟨h1,h2,h3,?_⟩;rcases h4 with h4 | ⟨g,rest,hg,h5,h6⟩
 ·exact .inl h4
 ·exact .inr ⟨g,_,rest,hg,h5,h6⟩
theorem OwnT.slice (h:OwnT b w v zs sp):∃a c,v=.slice a zs.length c:=by
 obtain ⟨_,_,_,h4⟩:=h;rcases h4 with ⟨rfl,rfl,rfl⟩ | ⟨g,t,rest,hg,rfl,h5⟩
 ·exact ⟨_,_,rfl⟩
 ·exact ⟨_,_,rfl⟩
theorem OwnT.of_block (h:OwnT b w v zs sp) (hw:∀k,v.ownBlock=some k→w'.heap[k]?=w.heap[k]?):OwnT b w' v zs sp:=by
 obtain ⟨h1,h2,h3,h4⟩:=h;refine ⟨h1,h2,h3,?_⟩;rcases h4 with h4 | ⟨g,t,rest,hg,rfl,h5⟩
 ·exact .inl h4
 ·exact .inr ⟨g,t,rest,hg,rfl,h5.of_block (hw g rfl)⟩
theorem OwnT.lt (h:OwnT b w v zs sp):∀k,v.ownBlock=some k→b≤k∧k<w.heap.size:=by
 obtain ⟨h1,h2,h3,h4⟩:=h;intro k hk;rcases h4 with ⟨rfl,_⟩ | ⟨g,t,rest,hg,rfl,h5⟩
 ·simp [Value.ownBlock] at hk
 ·simp only [Value.ownBlock,Option.some.injEq] at hk;subst hk;exact ⟨hg,h5.lt⟩
theorem OwnT.grow (h:OwnT b w v zs sp) (hb:Kb w w'):OwnT b w' v zs sp:=h.of_block fun k hk=>hb.block k (h.lt k hk).2
theorem Zno (g n:Nat) (t:TypeId) (zs rest:Lq) (w:World) (h:Blk w g t (B (zs++rest))) (hl:zs.length≤maxLen):
  Kc 101 #[.slice (some ⟨g,0,none⟩) n zs.length] w fun e w'=>e=.returned (.tuple #[])∧Blk w' g t (B (zs.map x5++rest))∧w.grownBy w' (some g)∧w'.heap.size=w.heap.size:=by
 unfold maxLen at hl;have HR:Hid (Blk w g t (B (((zs.take 0).map x5++zs.drop 0)++rest))):=by
  show Blk _ _ _ _;simpa using h
 clear h;go_enter Tryz.func101,Tryz.ntmps101
 go_wp2_with fail
 go_loopw [3] (fun i wr=>∃k:Nat,k≤zs.length∧i=.int .i64 k∧Hid (Blk wr g t (B (((zs.take k).map x5++zs.drop k)++rest)))∧w.grownBy wr (some g)∧wr.heap.size=w.heap.size) (fun i _=>zs.length-(intOf i).toNat)
 case atStart=>exact ⟨0,by omega,by simp,HR,World.grownBy.refl _ _,rfl⟩
 case round=>
  obtain ⟨k,hk,rfl,hr,hb,hs⟩:=hrel
  by_cases hlt:k<zs.length
  ·have hL:((zs.take k).map x5++zs.drop k).length=zs.length:=by simp;omega
   have hc:=hr.out.bcell k (by rw [List.length_append];omega);rw [show (((zs.take k).map x5++zs.drop k)++rest).getD k 0=((zs.take k).map x5++zs.drop k).getD k 0 by simp only [List.getD];rw [List.getElem?_append_left (by omega)],Zrn zs k hlt] at hc;have hf:=hr.out.frozen k;have this:=hr.out.bput k (x5 (zs.getD k 0));rw [List.set_append_left _ _ (by omega),Zks zs k hlt] at this;generalize zs.getD k 0=z at hc this;have HT:=Za this;clear this hL;go_wp2
   refine ⟨⟨k+1,by omega,by go_num,?_,Zbb hb (Zaj _ _ _ _),by simpa using hs⟩,by simp [intOf];omega⟩;exact HT
  ·go_wp2
   go_end0;refine ⟨rfl,?_,hb,hs⟩;have:=hr.out;rw [List.take_of_length_le (by omega),List.drop_of_length_le (by omega),List.append_nil] at this;exact this
theorem OwnT.full {a:Option Addr} (h:OwnT b w (.slice a l c) zs sp):Reads w (.slice a c c) (zs++sp)∧c=zs.length+sp.length∧l=zs.length∧c≤maxLen:=by
 obtain ⟨h1,h2,h3,h4⟩:=h;rcases h4 with ⟨e,rfl,rfl⟩ | ⟨g,t,rest,hg,e,h5⟩
 ·injection e with e1 e2 e3;subst e1;subst e2;subst e3;exact ⟨Reads.nil _,rfl,rfl,by simp [maxLen]⟩
 ·injection e with e1 e2 e3;subst e1;subst e2;subst e3;refine ⟨⟨_,_,by rw [List.length_append],by simp,fun h=>by simp at h,h1.append h2,fun _=>⟨g,0,rfl,fun i hi=>?_⟩⟩,rfl,rfl,h3⟩;rw [Nat.zero_add,h5.bcell i (by simp at hi ⊢;omega)];simp only [List.getD];rw [List.getElem?_append_left hi]
theorem Ztz (base:Nat) (v:Value) (zs sp:Lq) (w:World) (h:OwnT base w v zs sp):
  Kc 101 #[v] w fun e w1=>e=.returned (.tuple #[])∧w.grownBy w1 v.ownBlock∧w1.heap.size=w.heap.size∧
   ∀w2,(∀k,v.ownBlock=some k→w2.heap[k]?=w1.heap[k]?)→Kc 101 #[v] w2 fun e w3=>e=.returned (.tuple #[])∧w2.grownBy w3 v.ownBlock∧w3.heap.size=w2.heap.size∧∀k,v.ownBlock=some k→w3.heap[k]?=w.heap[k]?:=by
 obtain ⟨h1,h2,h3,h4⟩:=h;rcases h4 with ⟨rfl,rfl,rfl⟩ | ⟨g,t,rest,hg,rfl,hr⟩
 ·refine (Zlx w).mono ?_;rintro e w' ⟨rfl,rfl⟩;refine ⟨rfl,World.grownBy.refl _ _,rfl,fun w2 _=>?_⟩;refine (Zlx w2).mono ?_;rintro e w3 ⟨rfl,rfl⟩;exact ⟨rfl,World.grownBy.refl _ _,rfl,fun k hk=>by simp [Value.ownBlock] at hk⟩
 ·have:=Zno g zs.length t (zs++sp) rest w hr (by simpa using h3);rw [List.length_append] at this;refine this.mono ?_;rintro e w1 ⟨rfl,hr1,hg1,hs1⟩;refine ⟨rfl,hg1,hs1,fun w2 hw2=>?_⟩;have hr2:Blk w2 g t (B ((zs++sp).map x5++rest)):=hr1.of_block (hw2 g rfl);have this2:=Zno g zs.length t ((zs++sp).map x5) rest w2 hr2 (by simpa using h3);rw [List.length_map,List.length_append] at this2;refine this2.mono ?_;rintro e w3 ⟨rfl,hr3,hg3,hs3⟩;refine ⟨rfl,hg3,hs3,fun k hk=>?_⟩;simp only [Value.ownBlock,Option.some.injEq] at hk;subst hk;rw [Yje (h1.append h2)] at hr3;unfold Blk at hr hr3;rw [hr,hr3]
structure ListsT (base gl off n:Nat) (V:Nat→Value) (Z S:Nat→Lq) (w:World):Prop where
 cell:∀i,i<n→w.cell? ⟨gl,off+i,none⟩=some (V i)
 own:∀i,i<n→OwnT base w (V i) (Z i) (S i)
 apart:∀i k,i<n→k<n→i≠k→∀g,(V i).ownBlock=some g→(V k).ownBlock≠some g
 far:∀i,i<n→(V i).ownBlock≠some gl
theorem ListsT.of_block {gl off:Nat} {V:Nat→Value} {Z S:Nat→Lq} (h:ListsT base gl off n V Z S w) (hw:∀k,k<w.heap.size→w'.heap[k]?=w.heap[k]?):ListsT base gl off n V Z S w' where
 cell:=fun i hi=>by
  have:=h.cell i hi;have hlt:=block_lt_of_cell this;rw [World.cell?_of_block (w:=w) (hw _ hlt)];exact this
 own:=fun i hi=>(h.own i hi).of_block fun k hk=>hw k ((h.own i hi).lt k hk).2
 apart:=h.apart
 far:=h.far
set_option maxRecDepth 100000 in
theorem Zkb (base gl off n cap:Nat) (V:Nat→Value) (Z S:Nat→Lq) (w:World) (hn:n≤17592186044416) (h:ListsT base gl off n V Z S w) (hcap:n≤cap):
  Kc 100 #[.slice (some ⟨gl,off,none⟩) n cap] w fun e w'=>e=.returned (.bool true)∧Kb w w':=by
 have H:=Za h;clear h;go_enter Tryz.func100,Tryz.ntmps100
 go_wp2_with fail
 go_loopw [3] (fun i wr=>∃k:Nat,k≤n∧i=.int .i64 k∧Kb w wr) (fun i _=>n-(intOf i).toNat)
 case atStart=>exact ⟨0,by omega,rfl,Below.refl _ _⟩
 case round=>
  obtain ⟨i,hi,rfl,hb⟩:=hrel;obtain ⟨wo,rfl⟩:∃x,x=wr:=⟨_,rfl⟩
  by_cases hlt:i<n
  ·have HW:=Za (H.out.of_block (w':=wo) (fun k hk=>hb.block k hk))
   go_wp2_with (at_make;refine Zsw _ rfl _ _ rfl _ _ _ _ n rfl rfl rfl rfl hn ?_;intro w1 hr1 hb1 hs1)
   have HR1:Hid (SRow w1 wo.heap.size ((List.range 0).map (txt Z S)++List.replicate (n-0) ByteArray.empty)):=by
    show SRow _ _ _;simpa using hr1
   clear hr1
   go_loopw [5] (fun j wk=>∃k:Nat,k≤n∧j=.int .i64 k∧Hid (SRow wk wo.heap.size ((List.range k).map (txt Z S)++List.replicate (n-k) ByteArray.empty))∧Kb wo wk∧wk.heap.size=wo.heap.size+1) (fun j _=>n-(intOf j).toNat)
   case atStart=>exact ⟨0,by omega,rfl,HR1,hb1,hs1⟩
   case round=>
    obtain ⟨k,hk,rfl,hS,hbk,hsk⟩:=hrel;obtain ⟨wk,rfl⟩:∃x,x=wr:=⟨_,rfl⟩
    by_cases hkn:k<n
    ·obtain ⟨a,c,hv⟩:=(HW.out.own k hkn).slice;have hcell:=HW.out.cell k hkn;have hown:=HW.out.own k hkn;rw [hv] at hcell hown;have hful:=hown.full;generalize (Z k).length=l at *;have HC:Hid (∀w',Kb wo w'→w'.cell? ⟨gl,off+k,none⟩=some (.slice a l c)∧(convert 72 9 (.slice a c c)).run Tryz.prog w'=.ok (.string (txt Z S k)) w'):=
      fun w' hw'=>⟨(hw'.cell (p:=⟨gl,off+k,none⟩) (block_lt_of_cell hcell)).trans hcell,Zbj (hful.1.grow hw')⟩
     have hcm:c≤9223372036854775807:=by have:=hful.2.2.2;simp only [maxLen] at this;omega
     have hsc:=hS.out.cell k (by simp;omega);have hsf:=hS.out.frozen k;have kk:(k:Int)<(n:Int):=by omega
     have k0:(0:Int)≤(k:Int):=by omega
     have HTS:Hid (SRow (wk.setCell ⟨wo.heap.size,k,none⟩ (.string (txt Z S k))) wo.heap.size ((List.range (k+1)).map (txt Z S)++List.replicate (n-(k+1)) ByteArray.empty)):=by
      have:=hS.out.set k (txt Z S k);rw [Yah Z S n k hkn] at this;exact this
     generalize txt Z S k=tx at *;generalize ((List.range k).map (txt Z S)++List.replicate (n-k) ByteArray.empty).getD k ByteArray.empty=old at *;have hbd:=hbk.drew;have hbs:Kb wo ((wk.setCell ⟨wo.heap.size,k,none⟩ (.string tx)).drew):=(hbk.setCell (Nat.le_refl _) _).drew;clear hown hful hcell
     go_wp2_with fail
     go_region_held2 (fun w'=>w'.cell? ⟨gl,off+k,none⟩=some (.slice a l c)∧(convert 72 9 (.slice a c c)).run Tryz.prog w'=.ok (.string tx) w')
      (first | exact HC.out _ hbd | exact HC.out _ hbs)
      (fail)
     go_wp2
     exact ⟨⟨k+1,by omega,by go_num,HTS,hbs,by simpa using hsk⟩,by simp [intOf];omega⟩
    ·have hke:k=n:=by omega
     subst hke;have HLk:=Za (HW.out.of_block (w':=wk) (fun j hj=>hbk.block j hj));obtain ⟨a,c,hv⟩:=(HW.out.own i hlt).slice;have hci:=HLk.out.cell i hlt;rw [hv] at hci;have hgl:gl<wo.heap.size:=block_lt_of_cell (HW.out.cell i hlt);have HOV:=Za (Ztz base (V i) (Z i) (S i) wk (HLk.out.own i hlt));have hfar:=HW.out.far i hlt;have HFAR:=Za hfar;have HV:=Za hv;have ki:(i:Int)<(k:Int):=by omega
     have i0:(0:Int)≤(i:Int):=by omega
     rw [hv] at HOV;generalize (Z i).length=l at *;clear hv hfar
     go_wp2_with (go_at_call 101;refine HOV.out.mono ?_;rintro e w2 ⟨rfl,hg2,hs2,hpair⟩)
     have HPR:=Za hpair;have HG2:=Za hg2;clear hpair hg2
     -- what holds behind the first writing over
     have hci2:w2.cell? ⟨gl,off+i,none⟩=some (.slice a l c):=by
      refine HG2.out.cell hci ?_;intro e;exact HFAR.out (by rw [HV.out];exact e.symm)
     have HT:Hid (∀j,j<k→j≠i→∃aj lj cj,w2.cell? ⟨gl,off+j,none⟩=some (.slice aj lj cj)∧cj≤9223372036854775807∧(∀d,(convert 72 9 (.slice aj cj cj)).run Tryz.prog (w2.drewN d)=.ok (.string (txt Z S j)) (w2.drewN d))∧w2.cell? ⟨wo.heap.size,j,none⟩=some (.string (txt Z S j))):=by
      intro j hj hji;obtain ⟨aj,cj,hvj⟩:=(HW.out.own j hj).slice;have hcj:=HLk.out.cell j hj;have hoj:=HLk.out.own j hj;have hne:(V j).ownBlock≠(Value.slice a l c).ownBlock∨(V j).ownBlock=none:=by
       cases hb:(V j).ownBlock with
       | none=>exact .inr rfl
       | some g=>
        refine .inl (fun e=>?_);exact HW.out.apart j i hj hlt hji g hb (by rw [HV.out];exact e.symm)
      have hoj2:OwnT base w2 (V j) (Z j) (S j):=by
       refine hoj.of_block (fun g hg=>HG2.out.block g (hoj.lt g hg).2 ?_);rcases hne with h | h
       ·rw [← hg];exact h
       ·rw [h] at hg;cases hg
      rw [hvj] at hcj hoj2;have hful:=hoj2.full;refine ⟨aj,_,cj,HG2.out.cell hcj ?_,by have:=hful.2.2.2;simp only [maxLen] at this;omega,fun d=>?_,?_⟩
      ·intro e;exact HFAR.out (by rw [HV.out];exact e.symm)
      ·exact Zbj (hful.1.grow (below_drewN (Below.refl _ _) d))
      ·have hsc:=hS.out.cell j (by simp;omega);have e1:((List.range k).map (txt Z S)++List.replicate (k-k) ByteArray.empty).getD j ByteArray.empty=txt Z S j:=by
        simp [List.getD,hj]
       rw [e1] at hsc;refine HG2.out.cell hsc ?_;intro e;have:=(HLk.out.own i hlt).lt wo.heap.size (by rw [HV.out];exact e.symm);have h3:=(HW.out.own i hlt).lt wo.heap.size (by rw [HV.out];exact e.symm);omega
     go_wp2_with fail
     go_loopw [6] (fun j wl=>∃(m d:Nat),m≤k∧j=.int .i64 m∧wl=w2.drewN d) (fun j _=>k-(intOf j).toNat)
     case atStart=>exact ⟨0,0,by omega,rfl,rfl⟩
     case round=>
      obtain ⟨m,d,hm,rfl,rfl⟩:=hrel
      by_cases hmk:m<k
      ·by_cases hmi:m=i
       ·subst hmi
        go_wp2_with fail
        go_quiet (fail)
        go_wp2
        exact ⟨⟨m+1,_,by omega,by go_num,rfl⟩,by simp [intOf];omega⟩
       ·obtain ⟨aj,lj,cj,q1,q2,q3,q4⟩:=HT.out m hmk hmi;have hne:((m:Int) != (i:Int))=true:=by rw [bne_iff_ne];omega
        have m1:(m:Int)<(k:Int):=by omega
        have m0:(0:Int)≤(m:Int):=by omega
        generalize txt Z S m=tx at *
        go_wp2_with fail
        go_quiet (fail)
        go_wp2
        exact ⟨⟨m+1,_,by omega,by go_num,rfl⟩,by simp [intOf];omega⟩
      ·go_wp2_with fail
       refine (HPR.out (w2.drewN d) (fun _ _=>rfl)).mono ?_;rintro e w3 ⟨rfl,hg3,hs3,hback⟩;have hbel:Kb w w3:=by
        have hg2:=HG2.out;refine hb.trans ⟨?_,?_,?_,?_,fun b hb'=>?_⟩
        ·exact hg3.os.trans (hg2.os.trans hbk.os)
        ·exact hg3.tape.trans (hg2.tape.trans hbk.tape)
        ·exact hg3.output.trans (hg2.output.trans hbk.output)
        ·have h1:=hg3.size;have h2:=hg2.size;have h3:=hbk.size;have h4:(w2.drewN d).heap.size=w2.heap.size:=rfl;omega
        ·have hbo:b<wo.heap.size:=Nat.lt_of_lt_of_le hb' hb.size
         by_cases he:(Value.slice a l c).ownBlock=some b
         ·rw [hback b he];exact hbk.block b hbo
         ·have h1:=hg3.block b (by show b<w2.heap.size;omega) (fun e=>he e.symm);have h2:=hg2.block b (by omega) (fun e=>he e.symm);have h3:(w2.drewN d).heap[b]?=w2.heap[b]?:=rfl;rw [h1,h3,h2];exact hbk.block b hbo
       clear HPR HG2 hback hg3;go_wp2
       exact ⟨⟨i+1,by omega,by go_num,hbel⟩,by simp [intOf];omega⟩
  ·go_wp2
   go_ret;exact ⟨rfl,hb⟩
theorem Zxt (base:Nat) (w:World) (vs:List Value) (Zs Ss:List (Lq)) (n:Nat) (hv:vs.length=n) (hO:∀i,i<n→OwnT base w (vs.getD i undef) (Zs.getD i []) (Ss.getD i []))
  (hA:∀i k,i<n→k<n→i≠k→∀g,(vs.getD i undef).ownBlock=some g→(vs.getD k undef).ownBlock≠some g):ListsT base w.heap.size 0 n (fun i=>vs.getD i undef) (fun i=>Zs.getD i []) (fun i=>Ss.getD i []) (w.alloc (.cells vs.toArray 72)) where
 cell:=fun i hi=>by
  have hr:(w.alloc (.cells vs.toArray 72)).heap[w.heap.size]?=some (.cells vs.toArray 72 (0,0)):=heap_alloc_new w _;rw [cell_of_row _ _ _ _ _ _ hr];simp [List.getD,hv,hi]
 own:=fun i hi=>(hO i hi).grow (Zh w _)
 apart:=hA
 far:=fun i hi e=>by
  have:=((hO i hi).lt _ e).2;omega
theorem Ylk (h:Rs w g vp vf room ss fr) (q:Int):Reads w (sat ss q).val (sat ss q).bs:=by
 have z:Reads w zs7.val zs7.bs:=(Own.nil 0 w).reads;unfold sat;split
 ·unfold spAt
  by_cases hi:(q-1).toNat<ss.length
  ·rw [List.getElem?_eq_getElem hi];obtain ⟨sp,ho⟩:=h.vals _ (List.getElem_mem hi);exact ho.reads
  ·rw [List.getElem?_eq_none (by omega)];exact z
 ·exact z
theorem Yha (R:Rel7 cs [] [] ss) (W:Wf cs []) (q:Int):decide ((sat ss q).kind≠0)=decide (0<cot cs q):=by
 rw [(Zbv R W q).kind]
 by_cases hc:0<cot cs q
 ·obtain ⟨i,_,h1,h2,h3⟩:=Zfe hc;rw [decide_eq_true hc,h3];rcases W.kinds i h1 with e | e <;> rw [e] <;> rfl
 ·rw [decide_eq_false hc,W.cat0 (by omega)];rfl
theorem Zmu {sp2:Lq} (h1:Own 0 w u bs sp) (h2:Own 0 w v bs sp2) (hn:∀k,u.ownBlock=some k→v.ownBlock≠some k):ListsT 0 w.heap.size 0 2 (fun i=>[u,v].getD i undef) (fun i=>[bs,bs].getD i []) (fun i=>[sp,sp2].getD i []) (w.alloc (.cells #[u,v] 72)):=by
 refine Zxt 0 w [u,v] _ _ 2 rfl ?_ ?_
 ·intro i hi
  match i,hi with
  | 0,_=>exact h1.toT
  | 1,_=>exact h2.toT
 ·intro i j hi hj hne g e1 e2
  match i,j,hi,hj with
  | 0,0,_,_=>omega
  | 1,1,_,_=>omega
  | 0,1,_,_=>exact hn g e1 e2
  | 1,0,_,_=>exact hn g e2 e1
theorem Zjy (hb:Kb w0 w) (hg:w.grownBy w' v.ownBlock) (h:∀k,v.ownBlock=some k→w0.heap.size≤k):Kb w0 w':=by
 cases e:v.ownBlock with
 | none=>
  rw [e] at hg;exact Zld hb hg
 | some k=>
  rw [e] at hg;exact Ze hb hg (h k e)
theorem Yjf (V:Vw w (.pointer (some ⟨g,0,none⟩)) true (cot cs) (cat cs)) (s:Rs w q vp vf room ss fr) (R:Rel7 cs [] [] ss) (W:Wf cs []) (hL:Laid w) (h6:cs.length≤5000) (h:Int) (deep:Bool) (hd:deep=true→cs.length≤60):Kc 41 #[.pointer (some ⟨g,0,none⟩),.pointer (some ⟨q,0,none⟩),.int .i64 h,.bool deep] w fun e w'=>e=.returned (.bool true)∧Kb w w':=by
 have hS:=Zbv R W h;have hle:=V.le h;have A1:Hid (Kr w 33 #[.pointer (some ⟨g,0,none⟩),.int .i64 h] (.bool (decide (0<cot cs h)))):=fun w' hb=>Zyj (V.grow hb) h
 have B1:Hid (Kr w 84 #[.pointer (some ⟨q,0,none⟩),.int .i64 h] (.bool (decide (0<cot cs h)))):=fun w' hb=>by
  rw [← Yha R W h];exact (Zbn (s.grow hb) h).mono fun e w'' ⟨e1,e2⟩=>⟨e1,by rw [e2];exact Below.refl _ _⟩
 have A2:Hid (Kr w 85 #[.pointer (some ⟨g,0,none⟩),.int .i64 h] (.int .u8 (cat cs h).kind)):=fun w' hb=>Zfl (V.grow hb) h
 have B2:Hid (Kr w 48 #[.pointer (some ⟨q,0,none⟩),.int .i64 h] (.int .u8 (cat cs h).kind)):=fun w' hb=>by
  rw [← hS.kind];exact Yef (s.grow hb) h
 have A3:Hid (Kr w 86 #[.pointer (some ⟨g,0,none⟩),.int .i64 h] (.int .i64 (vDp true (cat cs h)))):=fun w' hb=>Zgt (V.grow hb) h
 have B3:Hid (Kr w 87 #[.pointer (some ⟨q,0,none⟩),.int .i64 h] (.int .i64 (vDp true (cat cs h)))):=fun w' hb=>by
  rw [show vDp true (cat cs h)=dp7 (sat ss h) by unfold vDp dp7;rw [hS.kind,hS.d];rfl];exact Zpt (s.grow hb) h
 have A4:Hid (Kr w 88 #[.pointer (some ⟨g,0,none⟩),.int .i64 h] (.int .i64 ((cat cs h).sz:Int))):=fun w' hb=>Yaw (V.grow hb) h
 have B4:Hid (Kr w 89 #[.pointer (some ⟨q,0,none⟩),.int .i64 h] (.int .i64 ((cat cs h).sz:Int))):=fun w' hb=>by
  exact Yiq (s.grow hb) R W h6 h
 have A5:Hid (Kr w 61 #[.pointer (some ⟨g,0,none⟩),.int .i64 h] (.int .i64 (cot cs h:Int))):=fun w' hb=>(V.count w' h hb).mono fun e w'' ⟨e1,e2⟩=>⟨e1,by rw [e2];exact Below.refl _ _⟩
 have B5:Hid (Kr w 63 #[.pointer (some ⟨q,0,none⟩),.int .i64 h] (.int .i64 (cot cs h:Int))):=fun w' hb=>by
  have:=Zpu (s.grow hb) h (by rw [hS.sum];exact hle.2);rwa [hS.sum] at this
 have A6:Hid (Kr w 90 #[.pointer (some ⟨g,0,none⟩),.int .i64 h] (.int .i64 ((cot cs h-(cat cs h).ab:Nat):Int))):=fun w' hb=>Zgo (V.grow hb) h
 have B6:Hid (Kr w 91 #[.pointer (some ⟨q,0,none⟩),.int .i64 h] (.int .i64 ((cot cs h-(cat cs h).ab:Nat):Int))):=fun w' hb=>by
  rw [← hS.own];exact Yeg (s.grow hb) h
 have A7:Hid (Kr w 92 #[.pointer (some ⟨g,0,none⟩),.int .i64 h] (.int .i64 (vRt true (cot cs h) (cat cs h) h))):=fun w' hb=>Zfi (V.grow hb) h
 have B7:Hid (Kr w 93 #[.pointer (some ⟨q,0,none⟩),.int .i64 h] (.int .i64 (vRt true (cot cs h) (cat cs h) h))):=fun w' hb=>by
  exact Yec (s.grow hb) R W h
 have A8:Hid (Kr w 94 #[.pointer (some ⟨g,0,none⟩),.int .i64 h] (.agg (B (cat cs h).key))):=fun w' hb=>Zmd (V.grow hb) h
 have B8:Hid (Kr w 95 #[.pointer (some ⟨q,0,none⟩),.int .i64 h] (.agg (B (cat cs h).key))):=fun w' hb=>by
  exact Yiv (s.grow hb) R W h6 h
 have A9:Hid (Kr w 96 #[.pointer (some ⟨g,0,none⟩),.int .i64 h] (.tuple #[.int .i64 ((cat cs h).l:Int),.int .i64 ((cat cs h).r:Int)])):=fun w' hb=>Zgg (V.grow hb) h
 have B9:Hid (Kr w 67 #[.pointer (some ⟨q,0,none⟩),.int .i64 h] (.tuple #[.int .i64 ((cat cs h).l:Int),.int .i64 ((cat cs h).r:Int)])):=fun w' hb=>by
  rw [← hS.l,← hS.r];exact Zwq (s.grow hb) h
 have AV:Hid (∀w',Kb w w'→Kc 97 #[.pointer (some ⟨g,0,none⟩),.int .i64 h] w' fun e w''=>∃v sp,e=.returned v∧Own w'.heap.size w'' v (cat cs h).bs sp∧Below w'.heap.size w' w''):=fun w' hb=>Zkl (V.grow hb) h
 have BV:Hid (∀w',Kb w w'→Kc 99 #[.pointer (some ⟨q,0,none⟩),.int .i64 h] w' fun e w''=>e=.returned (sat ss h).val∧Below w'.heap.size w' w''):=fun w' hb=>Zwo (s.grow hb) h
 have BR:Hid (∀w',Kb w w'→Reads w' (sat ss h).val (cat cs h).bs):=fun w' hb=>by
  rw [← hS.bs];exact Ylk (s.grow hb) h
 have A10:Hid (Kr w 74 #[.pointer (some ⟨g,0,none⟩),.int .i64 h] (.agg (B (vDg true (cat cs) h)))):=fun w' hb=>Zif (V.grow hb) h (hL.grow hb)
 have B10:Hid (deep=true→Kr w 77 #[.pointer (some ⟨q,0,none⟩),.int .i64 h] (.agg (B (vDg true (cat cs) h)))):=fun e w' hb=>Yfx (s.grow hb) R W (hd e) h
 have A11:Hid (Kr w 102 #[.pointer (some ⟨g,0,none⟩),.int .i64 h] (.agg (B (vNd true (cat cs) h)))):=fun w' hb=>Yca (V.grow hb) h (hL.grow hb)
 have B11:Hid (deep=true→Kr w 103 #[.pointer (some ⟨q,0,none⟩),.int .i64 h] (.agg (B (vNd true (cat cs) h)))):=fun e w' hb=>Yiu (s.grow hb) R W (hd e) h
 have hEK:∀w,(Op.equalIn 10000 34 (.agg (B (cat cs h).key)) (.agg (B (cat cs h).key))).run Tryz.prog w=.ok true w:=fun w=>by rw [Zcs _ _ (V.ok h).hk.1 (V.ok h).hk.1 w,decide_eq_true rfl]
 have hDl:=(Zej V h).1;have hED:∀w,(Op.equalIn 10000 121 (.agg (B (vDg true (cat cs) h))) (.agg (B (vDg true (cat cs) h)))).run Tryz.prog w=.ok true w:=fun w=>by rw [Ygz _ _ hDl hDl w,decide_eq_true rfl]
 have hEN:∀w,(Op.equalIn 10000 145 (.agg (B (vNd true (cat cs) h))) (.agg (B (vNd true (cat cs) h)))).run Tryz.prog w=.ok true w:=fun w=>by
  obtain ⟨_,k,a,b,c,d,e,hn⟩:=Ydw V h;rw [e];have:=Ygj hn hn w;simpa using this
 clear V s R W hL h6 hd hS hle hDl;generalize B (vNd true (cat cs) h)=NN at A11 B11 hEN;generalize B (vDg true (cat cs) h)=DD at A10 B10 hED;generalize B (cat cs h).key=KK at A8 B8 hEK;generalize (sat ss h).val=sv at BV BR;generalize vRt true (cot cs h) (cat cs h) h=rt at A7 B7;generalize vDp true (cat cs h)=dp at A3 B3;generalize ((cot cs h-(cat cs h).ab:Nat):Int)=hel at A6 B6;generalize decide (0<cot cs h)=has at A1 B1;generalize (cot cs h:Int)=cou at A5 B5;generalize ((cat cs h).sz:Int)=sz at A4 B4;generalize (cat cs h).kind=kd at A2 B2;generalize ((cat cs h).l:Int)=sl at A9 B9;generalize ((cat cs h).r:Int)=sr at A9 B9;generalize (cat cs h).bs=bs at AV BR;generalize hx:Value.pointer (some ⟨g,0,none⟩)=x at A1 A2 A3 A4 A5 A6 A7 A8 A9 AV A10 A11 ⊢;generalize hy:Value.pointer (some ⟨q,0,none⟩)=y at B1 B2 B3 B4 B5 B6 B7 B8 B9 BV B10 B11 ⊢;clear hx hy;have hB:Hid (Kb w w):=Below.refl _ _;cases deep with
 | false=>
  clear A10 B10 A11 B11 hED hEN;cases has <;> (
  go_enter Tryz.func41,Tryz.ntmps41
  go_wp2_with (first
   |(go_at_call 33;refine (A1.out _ hB.out).mono ?_;rintro e w' ⟨rfl,b⟩;replace hB:=Za (Zb hB.out b);(try (replace hC:=Za (Zb hC.out b)));clear b)
   |(go_at_call 84;refine (B1.out _ hB.out).mono ?_;rintro e w' ⟨rfl,b⟩;replace hB:=Za (Zb hB.out b);(try (replace hC:=Za (Zb hC.out b)));clear b)
   |(go_at_call 85;refine (A2.out _ hB.out).mono ?_;rintro e w' ⟨rfl,b⟩;replace hB:=Za (Zb hB.out b);(try (replace hC:=Za (Zb hC.out b)));clear b)
   |(go_at_call 48;refine (B2.out _ hB.out).mono ?_;rintro e w' ⟨rfl,b⟩;replace hB:=Za (Zb hB.out b);(try (replace hC:=Za (Zb hC.out b)));clear b)
   |(go_at_call 86;refine (A3.out _ hB.out).mono ?_;rintro e w' ⟨rfl,b⟩;replace hB:=Za (Zb hB.out b);(try (replace hC:=Za (Zb hC.out b)));clear b)
   |(go_at_call 87;refine (B3.out _ hB.out).mono ?_;rintro e w' ⟨rfl,b⟩;replace hB:=Za (Zb hB.out b);(try (replace hC:=Za (Zb hC.out b)));clear b)
   |(go_at_call 88;refine (A4.out _ hB.out).mono ?_;rintro e w' ⟨rfl,b⟩;replace hB:=Za (Zb hB.out b);(try (replace hC:=Za (Zb hC.out b)));clear b)
   |(go_at_call 89;refine (B4.out _ hB.out).mono ?_;rintro e w' ⟨rfl,b⟩;replace hB:=Za (Zb hB.out b);(try (replace hC:=Za (Zb hC.out b)));clear b)
   |(go_at_call 61;refine (A5.out _ hB.out).mono ?_;rintro e w' ⟨rfl,b⟩;replace hB:=Za (Zb hB.out b);(try (replace hC:=Za (Zb hC.out b)));clear b)
   |(go_at_call 63;refine (B5.out _ hB.out).mono ?_;rintro e w' ⟨rfl,b⟩;replace hB:=Za (Zb hB.out b);(try (replace hC:=Za (Zb hC.out b)));clear b)
   |(go_at_call 90;refine (A6.out _ hB.out).mono ?_;rintro e w' ⟨rfl,b⟩;replace hB:=Za (Zb hB.out b);(try (replace hC:=Za (Zb hC.out b)));clear b)
   |(go_at_call 91;refine (B6.out _ hB.out).mono ?_;rintro e w' ⟨rfl,b⟩;replace hB:=Za (Zb hB.out b);(try (replace hC:=Za (Zb hC.out b)));clear b)
   |(go_at_call 92;refine (A7.out _ hB.out).mono ?_;rintro e w' ⟨rfl,b⟩;replace hB:=Za (Zb hB.out b);(try (replace hC:=Za (Zb hC.out b)));clear b)
   |(go_at_call 93;refine (B7.out _ hB.out).mono ?_;rintro e w' ⟨rfl,b⟩;replace hB:=Za (Zb hB.out b);(try (replace hC:=Za (Zb hC.out b)));clear b)
   |(go_at_call 94;refine (A8.out _ hB.out).mono ?_;rintro e w' ⟨rfl,b⟩;replace hB:=Za (Zb hB.out b);(try (replace hC:=Za (Zb hC.out b)));clear b)
   |(go_at_call 95;refine (B8.out _ hB.out).mono ?_;rintro e w' ⟨rfl,b⟩;replace hB:=Za (Zb hB.out b);(try (replace hC:=Za (Zb hC.out b)));clear b)
   |(go_at_call 96;refine (A9.out _ hB.out).mono ?_;rintro e w' ⟨rfl,b⟩;replace hB:=Za (Zb hB.out b);(try (replace hC:=Za (Zb hC.out b)));clear b)
   |(go_at_call 67;refine (B9.out _ hB.out).mono ?_;rintro e w' ⟨rfl,b⟩;replace hB:=Za (Zb hB.out b);(try (replace hC:=Za (Zb hC.out b)));clear b)
   |(go_at_call 97;refine (AV.out _ hB.out).mono ?_;first | (have HQ:=HOV;rintro e w' ⟨v3,sp3,rfl,o3,b⟩;obtain ⟨a3,c3,rfl⟩:=o3.slice;have HU3:=Za o3.reads;clear o3;replace hB:=Za (Zb hB.out b);(try (replace hC:=Za (Zb hC.out b)));clear b) | (have HQ:=HU1;rintro e w2 ⟨v2,sp2,rfl,o2,b⟩;obtain ⟨a2,c2,rfl⟩:=o2.slice;have HU2:=Za (o2.later (Nat.zero_le _));have HNE:Hid (∀k,(Value.slice a1 bs.length c1).ownBlock=some k→(Value.slice a2 bs.length c2).ownBlock≠some k):=(fun k e1 e2=>absurd (HU1.out.lt k e1).2 (by have:=(o2.lt k e2).1;omega));have HUA:=Za ((HU1.out.grow b).later (Nat.zero_le _));have HB1:Hid (∀k,(Value.slice a1 bs.length c1).ownBlock=some k→w.heap.size≤k):=(fun k e1=>Nat.le_trans HSZ.out (HU1.out.lt k e1).1);have hC:=Za (Below.refl w2.heap.size w2);replace hB:=Za (Zb hB.out b);clear o2 b) | (have HSZ:=Za hB.out.size;rintro e w1 ⟨v1,sp1,rfl,o1,b⟩;obtain ⟨a1,c1,rfl⟩:=o1.slice;have HU1:=Za o1;clear o1;replace hB:=Za (Zb hB.out b);clear b))
   |(go_at_call 99;refine (BV.out _ hB.out).mono ?_;rintro e w' ⟨rfl,b⟩;first | (have HQ:=HU3;replace HU3:=Za (HU3.out.grow b);replace hB:=Za (Zb hB.out b);clear HQ b) | (replace hB:=Za (Zb hB.out b);(try (replace hC:=Za (Zb hC.out b)));clear b))
   |(go_at_call 98;first | (refine (Zig _ _ bs bs _ HU3.out (BR.out _ hB.out)).mono ?_;rintro e w' ⟨rfl,hx⟩;rw [hx];clear hx w') | (refine (Zig _ _ bs bs _ (HUA.out.grow hC.out).reads (BR.out _ hB.out)).mono ?_;rintro e w' ⟨rfl,hx⟩;rw [hx];clear hx w'))
   |(go_at_call 100;refine (Zkb 0 _ 0 2 2 _ _ _ _ (by omega) (Zmu (HUA.out.grow hC.out) (HU2.out.grow hC.out) HNE.out) (Nat.le_refl _)).mono ?_;rintro e w' ⟨rfl,b0⟩;have b:=Zb (Zh _ _) b0;clear b0;replace hB:=Za (Zb hB.out b);(try (replace hC:=Za (Zb hC.out b)));clear b)
   |(go_at_call 101;refine (Zlw 0 _ bs _ _ (HUA.out.grow hC.out)).mono ?_;rintro e w' ⟨rfl,-,g4,-⟩;have HOV:=Za g4;replace hB:=Za (Zjy hB.out g4 HB1.out);clear g4))
  go_ret;exact ⟨rfl,hB.out⟩)
 | true=>
  have B12:=Za (B10.out rfl);have B13:=Za (B11.out rfl);clear B10 B11;cases has <;> (
  go_enter Tryz.func41,Tryz.ntmps41
  go_wp2_with (first
   |(go_at_call 33;refine (A1.out _ hB.out).mono ?_;rintro e w' ⟨rfl,b⟩;replace hB:=Za (Zb hB.out b);(try (replace hC:=Za (Zb hC.out b)));clear b)
   |(go_at_call 84;refine (B1.out _ hB.out).mono ?_;rintro e w' ⟨rfl,b⟩;replace hB:=Za (Zb hB.out b);(try (replace hC:=Za (Zb hC.out b)));clear b)
   |(go_at_call 85;refine (A2.out _ hB.out).mono ?_;rintro e w' ⟨rfl,b⟩;replace hB:=Za (Zb hB.out b);(try (replace hC:=Za (Zb hC.out b)));clear b)
   |(go_at_call 48;refine (B2.out _ hB.out).mono ?_;rintro e w' ⟨rfl,b⟩;replace hB:=Za (Zb hB.out b);(try (replace hC:=Za (Zb hC.out b)));clear b)
   |(go_at_call 86;refine (A3.out _ hB.out).mono ?_;rintro e w' ⟨rfl,b⟩;replace hB:=Za (Zb hB.out b);(try (replace hC:=Za (Zb hC.out b)));clear b)
   |(go_at_call 87;refine (B3.out _ hB.out).mono ?_;rintro e w' ⟨rfl,b⟩;replace hB:=Za (Zb hB.out b);(try (replace hC:=Za (Zb hC.out b)));clear b)
   |(go_at_call 88;refine (A4.out _ hB.out).mono ?_;rintro e w' ⟨rfl,b⟩;replace hB:=Za (Zb hB.out b);(try (replace hC:=Za (Zb hC.out b)));clear b)
   |(go_at_call 89;refine (B4.out _ hB.out).mono ?_;rintro e w' ⟨rfl,b⟩;replace hB:=Za (Zb hB.out b);(try (replace hC:=Za (Zb hC.out b)));clear b)
   |(go_at_call 61;refine (A5.out _ hB.out).mono ?_;rintro e w' ⟨rfl,b⟩;replace hB:=Za (Zb hB.out b);(try (replace hC:=Za (Zb hC.out b)));clear b)
   |(go_at_call 63;refine (B5.out _ hB.out).mono ?_;rintro e w' ⟨rfl,b⟩;replace hB:=Za (Zb hB.out b);(try (replace hC:=Za (Zb hC.out b)));clear b)
   |(go_at_call 90;refine (A6.out _ hB.out).mono ?_;rintro e w' ⟨rfl,b⟩;replace hB:=Za (Zb hB.out b);(try (replace hC:=Za (Zb hC.out b)));clear b)
   |(go_at_call 91;refine (B6.out _ hB.out).mono ?_;rintro e w' ⟨rfl,b⟩;replace hB:=Za (Zb hB.out b);(try (replace hC:=Za (Zb hC.out b)));clear b)
   |(go_at_call 92;refine (A7.out _ hB.out).mono ?_;rintro e w' ⟨rfl,b⟩;replace hB:=Za (Zb hB.out b);(try (replace hC:=Za (Zb hC.out b)));clear b)
   |(go_at_call 93;refine (B7.out _ hB.out).mono ?_;rintro e w' ⟨rfl,b⟩;replace hB:=Za (Zb hB.out b);(try (replace hC:=Za (Zb hC.out b)));clear b)
   |(go_at_call 94;refine (A8.out _ hB.out).mono ?_;rintro e w' ⟨rfl,b⟩;replace hB:=Za (Zb hB.out b);(try (replace hC:=Za (Zb hC.out b)));clear b)
   |(go_at_call 95;refine (B8.out _ hB.out).mono ?_;rintro e w' ⟨rfl,b⟩;replace hB:=Za (Zb hB.out b);(try (replace hC:=Za (Zb hC.out b)));clear b)
   |(go_at_call 96;refine (A9.out _ hB.out).mono ?_;rintro e w' ⟨rfl,b⟩;replace hB:=Za (Zb hB.out b);(try (replace hC:=Za (Zb hC.out b)));clear b)
   |(go_at_call 67;refine (B9.out _ hB.out).mono ?_;rintro e w' ⟨rfl,b⟩;replace hB:=Za (Zb hB.out b);(try (replace hC:=Za (Zb hC.out b)));clear b)
   |(go_at_call 97;refine (AV.out _ hB.out).mono ?_;first | (have HQ:=HOV;rintro e w' ⟨v3,sp3,rfl,o3,b⟩;obtain ⟨a3,c3,rfl⟩:=o3.slice;have HU3:=Za o3.reads;clear o3;replace hB:=Za (Zb hB.out b);(try (replace hC:=Za (Zb hC.out b)));clear b) | (have HQ:=HU1;rintro e w2 ⟨v2,sp2,rfl,o2,b⟩;obtain ⟨a2,c2,rfl⟩:=o2.slice;have HU2:=Za (o2.later (Nat.zero_le _));have HNE:Hid (∀k,(Value.slice a1 bs.length c1).ownBlock=some k→(Value.slice a2 bs.length c2).ownBlock≠some k):=(fun k e1 e2=>absurd (HU1.out.lt k e1).2 (by have:=(o2.lt k e2).1;omega));have HUA:=Za ((HU1.out.grow b).later (Nat.zero_le _));have HB1:Hid (∀k,(Value.slice a1 bs.length c1).ownBlock=some k→w.heap.size≤k):=(fun k e1=>Nat.le_trans HSZ.out (HU1.out.lt k e1).1);have hC:=Za (Below.refl w2.heap.size w2);replace hB:=Za (Zb hB.out b);clear o2 b) | (have HSZ:=Za hB.out.size;rintro e w1 ⟨v1,sp1,rfl,o1,b⟩;obtain ⟨a1,c1,rfl⟩:=o1.slice;have HU1:=Za o1;clear o1;replace hB:=Za (Zb hB.out b);clear b))
   |(go_at_call 99;refine (BV.out _ hB.out).mono ?_;rintro e w' ⟨rfl,b⟩;first | (have HQ:=HU3;replace HU3:=Za (HU3.out.grow b);replace hB:=Za (Zb hB.out b);clear HQ b) | (replace hB:=Za (Zb hB.out b);(try (replace hC:=Za (Zb hC.out b)));clear b))
   |(go_at_call 98;first | (refine (Zig _ _ bs bs _ HU3.out (BR.out _ hB.out)).mono ?_;rintro e w' ⟨rfl,hx⟩;rw [hx];clear hx w') | (refine (Zig _ _ bs bs _ (HUA.out.grow hC.out).reads (BR.out _ hB.out)).mono ?_;rintro e w' ⟨rfl,hx⟩;rw [hx];clear hx w'))
   |(go_at_call 100;refine (Zkb 0 _ 0 2 2 _ _ _ _ (by omega) (Zmu (HUA.out.grow hC.out) (HU2.out.grow hC.out) HNE.out) (Nat.le_refl _)).mono ?_;rintro e w' ⟨rfl,b0⟩;have b:=Zb (Zh _ _) b0;clear b0;replace hB:=Za (Zb hB.out b);(try (replace hC:=Za (Zb hC.out b)));clear b)
   |(go_at_call 101;refine (Zlw 0 _ bs _ _ (HUA.out.grow hC.out)).mono ?_;rintro e w' ⟨rfl,-,g4,-⟩;have HOV:=Za g4;replace hB:=Za (Zjy hB.out g4 HB1.out);clear g4)
   |(go_at_call 74;refine (A10.out _ hB.out).mono ?_;rintro e w' ⟨rfl,b⟩;replace hB:=Za (Zb hB.out b);clear b)
   |(go_at_call 77;refine (B12.out _ hB.out).mono ?_;rintro e w' ⟨rfl,b⟩;replace hB:=Za (Zb hB.out b);clear b)
   |(go_at_call 102;refine (A11.out _ hB.out).mono ?_;rintro e w' ⟨rfl,b⟩;replace hB:=Za (Zb hB.out b);clear b)
   |(go_at_call 103;refine (B13.out _ hB.out).mono ?_;rintro e w' ⟨rfl,b⟩;replace hB:=Za (Zb hB.out b);clear b))
  go_ret;exact ⟨rfl,hB.out⟩)
end Go.Proofs.YtgfdgjkbcdmboaaGreatDoor
