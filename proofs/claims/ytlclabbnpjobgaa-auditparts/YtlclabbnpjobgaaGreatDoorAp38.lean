/- The document's Filled and Next (rootcellarref04), as contracts. -/
import Derived.Test.YtlclabbnpjobgaaGreatDoorAp37
import Derived.Test.YtlclabbnpjobgaaGreatDoorAp36
namespace Go.Proofs.YtlclabbnpjobgaaGreatDoor
variable {A C es:List Ent}
variable {base d g k n room:Nat}
variable {cs:Lz}
variable {fr:List Nat}
variable {ss:List Sp}
variable {u v vf vp:Value}
variable {w w' w0:World}
variable {xs:List Value}
variable {ys zs:Lq}
set_option maxHeartbeats 8000000
set_option maxRecDepth 20000
open Go.RowKit
def Part (xs:Lq) (d:Nat) (b:Int) (k:Nat) (ys:Lq):Prop:=Key ys∧∀j,j<256→kb ys j=if d≤j∧j<k then b else kb xs j
theorem Part.start {xs:Lq} (hx:Key xs) (d:Nat) (b:Int):Part xs d b d xs:=⟨hx,fun j _=>by rw [if_neg (by omega)]⟩
theorem Part.step {xs:Lq} {b:Int} (h:Part xs d b k ys) (hs:IsSet ys k b zs) (hk:d≤k):Part xs d b (k+1) zs:=by
 refine ⟨hs.1,fun j hj=>?_⟩;rw [hs.2 j hj,h.2 j hj]
 by_cases e:j=k
 ·rw [if_pos e,if_pos (by omega)]
 ·rw [if_neg e]
  by_cases q:d≤j∧j<k
  ·rw [if_pos q,if_pos (by omega)]
  ·rw [if_neg q,if_neg (by omega)]
theorem Part.fill {xs:Lq} {b:Int} (h:Part xs d b 256 ys):IsFill xs d b ys:=by
 refine ⟨h.1,fun j hj=>?_⟩;rw [h.2 j hj]
 by_cases q:j<d
 ·rw [if_pos q,if_neg (by omega)]
 ·rw [if_neg q,if_pos (by omega)]
theorem Zrj (xs:Lq) (d:Nat) (b:Int) (w:World) (hx:Key xs) (hd:d≤256) (hb:b=0∨b=1):Kc 174 #[.agg (B xs),.int .i64 d,.int .i64 b] w (KeyPost (IsFill xs d b) 0 w):=by
 have t0:decide ((d:Int)<0)=false:=decide_eq_false (by omega);have t1:decide ((256:Int)<(d:Int))=false:=decide_eq_false (by omega);have HX:=Za hx;have HBB:=Za hb;clear hx hb;go_enter Tryz.func174,Tryz.ntmps174
 go_wp2_with (first | (refine Zd _ rfl _ _ rfl _ rfl ?_;intro w1 g1 hg1 hl1 B1 b1) | (refine Zh _ rfl _ rfl _ Zfg ?_;intro w2 g2 hg2 hl2 B2 b2;have B1':=B1.grow b2))
 have c2:=Zb b1 b2;have hg3:w.heap.size≤g2:=Nat.le_trans b1.size hg2;have hne:g2≠g1:=by omega
 have HB1:=Za B1';have HB2:=Za B2;have HS:=Za (Part.start HX.out d b);clear B1 B1' B2 b1 b2 hl1 hl2 hg2
 go_loopw [8] (fun s wr=>∃(k:Nat) (ys:Lq),d≤k∧k≤256∧s=.int .i64 k∧Hid (Part xs d b k ys)∧Hid (Blk wr g1 42 (B ys))∧Hid (Blk wr g2 42 (B (List.replicate 32 0)))∧Hid (Kb w wr)) (fun s _=>256-(intOf s).toNat)
 case atStart=>exact ⟨d,xs,by omega,hd,rfl,HS,HB1,HB2,c2⟩
 case round=>
  clear HB1 HB2 c2 HS;obtain ⟨k,ys,hk1,hk2,rfl,hF,hB,hC,hb⟩:=hrel;have hs:=Zhh hF.out.1
  by_cases hk:k<256
  ·have hk':(k:Int)<256:=by omega
   go_wp2_with (first | (refine Zg _ rfl _ _ rfl g1 _ rfl hB.out _ _ Zis hs ?_) | (go_at_call 194;refine (Ydn ys k b _ hF.out.1 hk HBB.out).mono ?_;rintro e w4 ⟨zs,hzs,rfl,b4⟩;have hs2:=Zhh hzs.1;have HZ:Hid ((B zs).size=(B ys).size):=(by rw [Zn,Zn,hzs.1.1,hF.out.1.1];rfl);have HY:=Za (hF.out.step hzs hk1);clear hzs;have B4:=hB.out.grow b4) | (refine Zf _ rfl _ _ _ rfl g1 _ (B zs) rfl rfl B4 hs2 (by rw [HZ.out]) (Zbt _) ?_;intro w5 B6 g5))
   exact ⟨⟨k+1,zs,by omega,by omega,by go_num,HY,B6,(hC.out.grow b4).kept g5 hne,Ze (Zb hb.out b4) g5 hg1⟩,by simp [intOf];omega⟩
  ·obtain rfl:k=256:=by omega
   have HZ:Hid ((B ys).size=32):=by rw [Zn];exact hF.out.1.1
   go_wp2_with (first | (refine Zg _ rfl _ _ rfl g1 _ rfl hB.out _ _ Zis hs ?_) | (refine Zf _ rfl _ _ _ rfl g2 _ (B ys) rfl rfl hC.out hs (by rw [HZ.out,Zn];simp) (Zbt _) ?_;intro w5 B6 g5))
   exact bodyPost_ret (v:=.tuple #[.agg (B ys),.int .i64 0]) (Zbg rfl _ _ g2 _ _ _ _ rfl rfl B6 Zis hs) rfl ⟨_,hF.out.fill,rfl,Ze hb.out g5 hg3⟩
theorem Zjy {ops:Array Oper} {op:Oper} {a:Act} {K:Act→World→Prop} {Q:Exit→Act→World→Prop} {E:Prop} (w:World) (hgd:op.guard=none) (ty:TypeId) (ho:op.op=.alloc ty) (cs:Array Value)
  (hz:∀w,(zeroValue ty).run Tryz.prog w=.ok (.agg cs) w)
  (hk:∀w' g,w.heap.size≤g→Blk w' g ty cs→Kb w w'→K (a.put op.dst (.pointer (some ⟨g,0,none⟩))) w'):if Region.wanted op (yielded ops a.tmps)=true then Oper.wp Tryz.prog op a w K Q else E:=by
 have hw:Region.wanted op (yielded ops a.tmps)=true:=by simp [Region.wanted,hgd]
 rw [if_pos hw];unfold Oper.wp execOp;simp [ho,hz,Instr.alloc,newVar,Value.cells,newRow];exact hk _ w.heap.size (Nat.le_refl _) (Blk.new w ty cs) (Zc w _)
theorem Yje (h:Rs w g vp vf room ss fr) (R:Rel7 cs [] [] ss) (W:Wf cs []) (h6:cs.length≤5000) {n:Nat} {T:Tre} (hT:IsT cs n T):∀w',Kb w w'→Kc 173 #[.pointer (some ⟨g,0,none⟩),.int .i64 (n:Int)] w' fun e w''=>∃a c V,e=.returned (.slice a T.ents.length c)∧PrAt w'' (.slice a T.ents.length c) V T.ents∧Below w'.heap.size w' w'':=fun w' hb=>by
 have hfew:=Zhg W hT h6;refine (Zec h T n w' hb (hT.s R) (by omega)).mono ?_;rintro e w'' ⟨v,its,e1,m1,p1,o1,b⟩;obtain ⟨a,c,rfl⟩:=Zj (Zu o1);have:=Zpf o1 (fun p hp=>(p1 p hp).1) (fun p hp=>(p1 p hp).2.grow (Zb hb b));rw [m1] at this;have hl:its.length=T.ents.length:=by rw [← m1,List.length_map]
 rw [hl] at this e1;exact ⟨a,c,_,e1,this,b⟩
theorem Yit (h:Rs w g vp vf room ss fr) (R:Rel7 cs [] [] ss) (W:Wf cs []) (h6:cs.length≤5000) (q:Int):Kc 142 #[.pointer (some ⟨g,0,none⟩),.int .i64 q] w fun e w'=>e=.returned (.agg (B (cat cs q).key))∧Kb w w':=by
 have hS:=Zcc R W q;have HSZ:Hid ((B (cat cs q).key).size=32):=by rw [Zn];exact (W.catOk q).hk.1
 rcases Zsw W q with ⟨k0,ez⟩ | ⟨n,T,rfl,n1,n2,hT,hce,hk⟩
 ·have HE:Hid (Kr w 173 #[.pointer (some ⟨g,0,none⟩),.int .i64 q] (.slice none 0 0)):=fun w' hb=>Zjd (h.grow hb) q (by rw [hS.kind];exact k0)
  have HBU:Hid (Tryz.prog.built 48 []=some (B (cat cs q).key)):=by show _=_;rw [ez];kernel_rfl
  generalize (cat cs q).key=K at HSZ HBU ⊢;clear h R W hS k0 ez;go_enter Tryz.func142,Tryz.ntmps142
  go_wp2_with (first
   |((with_reducible refine Zv 4 ?_);refine Zh _ rfl _ rfl _ Zbp ?_;intro w1 b4 hg4 hl4 B4 b1;have HB4:=Za B4;have Hg4:=Za hg4;have Hb1:=Za b1;clear B4 hg4 hl4 b1)
   |(go_at_call 173;refine (HE.out _ Hb1.out).mono ?_;rintro e w2 ⟨rfl,b2⟩;have HB4b:=Za (HB4.out.grow b2);have Hb2:=Za (Zb Hb1.out b2);clear b2)
   |((with_reducible refine Yfr ?_);refine Zas _ rfl _ _ rfl _ (by rw [List.map_toArray];exact HBU.out) ?_)
   |((with_reducible refine Zag 4 ?_);refine Zf _ rfl _ _ _ rfl b4 _ (B K) rfl rfl HB4b.out (by rw [HSZ.out];exact Zi) (by rw [HSZ.out,Zn];simp) (Zbt _) ?_;intro w3 B5 g3))
  exact bodyPost_ret (v:=.agg (B K)) (results_cell_row rfl _ _ b4 _ _ _ _ rfl B5 Tryz.underlying48 rfl (by rw [HSZ.out];exact Zi)) rfl ⟨rfl,Ze Hb2.out g3 Hg4.out⟩
 ·have ok:=Zbb W T n hT;have HE:=Za (Yje h R W h6 hT);have HA:Hid (Kr w 94 #[.pointer (some ⟨g,0,none⟩),.int .i64 (n:Int)] (.agg (sz7 (sat ss (n:Int))).toArray)):=fun w' hb=>Zbc (h.grow hb) (n:Int)
  have ho:=Zbz h (n:Int);have hfk:=Zob ho;have hfd:=Yjk ho;rw [hS.kind] at hfk;rw [hS.d] at hfd;have hpos:0<T.ents.length:=List.length_pos_iff.2 (ok.pos (by omega));have hes:sdC cs n=ce cs (n-1):=if_neg (by omega);have hm:T.ents.getD 0 e00∈T.ents:=by
   rw [show T.ents.getD 0 e00=T.ents[0] by simp [List.getD,hpos]];exact List.getElem_mem hpos
  have hK0:=(ok.ent _ hm).1;have HP0:Hid (∀w' a c V,PrAt w' (.slice a T.ents.length c) V T.ents→∃ge off,a=some ⟨ge,off,none⟩∧w'.rangeAt ge off (B (T.ents.getD 0 e00).1).toList):=fun w' a c V hp=>by
   obtain ⟨a',c',e,_,h2,_⟩:=hp;obtain ⟨ge,off,ea,hr⟩:=h2 hpos;injection e with e1;refine ⟨ge,off,by rw [e1,ea],?_⟩;have:=Zui (hr 0 hpos);rwa [Nat.zero_mul,Nat.add_zero] at this
  have hfew:T.ents.length≤5000:=Zhg W hT h6;have hsh:=fun d hd=>ok.share d (by omega) hd _ hm
  have hcK:Key (cat cs (n:Int)).key:=(W.catOk (n:Int)).hk;have HPL:Hid ((Tryz.prog.info? 48).map (·.size)=some (B (T.ents.getD 0 e00).1).toList.length):=by show _=_;rw [Zaz,List.length_map,hK0.1];exact Zjx
  have hkk:(sdC cs n).key=(cat cs (n:Int)).key:=by rw [hes,hce]
  have hif:(cat cs (n:Int)).kind=2→(cat cs (n:Int)).dp<256∧∀j,j<256→ ¬j<(cat cs (n:Int)).dp→kb (cat cs (n:Int)).key j=0:=fun k2=>by
   rw [hce] at k2 ⊢;rcases W.tr (n-1) n2 with hl | hi
   ·have:=hl.kind;omega
   ·exact ⟨hi.dp,fun j hj hd=>by rw [hi.key.2 j hj,if_neg hd]⟩
  rw [hkk] at hsh;rw [← hce] at hsh;generalize (T.ents.getD 0 e00).1=K0 at HP0 hK0 hsh HPL;generalize (cat cs (n:Int)).key=K at HSZ hcK hsh hif ⊢;generalize (cat cs (n:Int)).dp=dd at hif hfd hsh;generalize (cat cs (n:Int)).kind=kk at hk hif hfk hsh;generalize (n:Int)=y at HE HA hfk hfd ⊢;generalize sz7 (sat ss y)=X at HA hfk hfd;generalize T.ents=es at HE HP0 hpos hfew;generalize es.length=m at HE HP0 hpos hfew;have z1:(0:Int)<(m:Int):=by omega
  have z2:((m:Int) == 0)=false:=by simp;omega
  rcases hk with rfl | rfl
  ·have hK1:K0=K:=Zkr hK0 hcK (fun j hj=>hsh 256 (fun e=>by omega) j hj);subst hK1;clear h R W hS ok n1 n2 hT hce hes hm hsh hkk hif hfew hfd ho;go_enter Tryz.func142,Tryz.ntmps142
   go_wp2_with (first
    |((with_reducible refine Zv 4 ?_);refine Zh _ rfl _ rfl _ Zbp ?_;intro w1 b4 hg4 hl4 B4 b1;have HB4:=Za B4;have Hg4:=Za hg4;have Hb1:=Za b1;clear B4 hg4 hl4 b1)
    |(go_at_call 173;refine (HE.out _ Hb1.out).mono ?_;rintro e w2 ⟨ea,ec,eV,rfl,p2,b2⟩;obtain ⟨ge,off,rfl,hr0⟩:=HP0.out _ _ _ _ p2;have HB4b:=Za (HB4.out.grow b2);have Hb2:=Za (Zb Hb1.out b2);have HR2:=Za hr0;clear b2 p2 hr0)
    |(go_at_call 94;refine (HA.out _ Hb2.out).mono ?_;rintro e w3 ⟨rfl,b3⟩;have HB4c:=Za (HB4b.out.grow b3);have Hb3:=Za (Zb Hb2.out b3);have HR3:=Za (Zha HR2.out b3);clear b3)
    |((with_reducible refine Zk 23 22 ?_);refine Zqo _ rfl _ rfl ge off K0 rfl HR3.out hK0.1 ?_)
    |((with_reducible refine Zag 4 ?_);refine Zf _ rfl _ _ _ rfl b4 _ (B K0) rfl rfl HB4c.out (by rw [HSZ.out];exact Zi) (by rw [HSZ.out,Zn];simp) (Zbt _) ?_;intro w5 B5 g3))
   exact bodyPost_ret (v:=.agg (B K0)) (results_cell_row rfl _ _ b4 _ _ _ _ rfl B5 Tryz.underlying48 rfl (by rw [HSZ.out];exact Zi)) rfl ⟨rfl,Ze Hb3.out g3 Hg4.out⟩
  ·obtain ⟨hd2,hz2⟩:=hif rfl;have hF:IsFill K0 dd 0 K:=⟨hcK,fun j hj=>by
    by_cases hjd:j<dd
    ·rw [if_pos hjd];exact (hsh dd (fun _=>Nat.le_refl _) j hjd).symm
    ·rw [if_neg hjd];exact hz2 j hj hjd⟩
   have HF:Hid (∀w',Kc 174 #[.agg (B K0),.int .i64 (dd:Int),.int .i64 0] w' fun e w''=>e=.returned (.tuple #[.agg (B K),.int .i64 0])∧Below w'.heap.size w' w''):=fun w'=>by
    refine (Zrj K0 dd 0 w' hK0 (by omega) (.inl rfl)).mono ?_;rintro e w'' ⟨ys,f1,rfl,b⟩;rw [f1.one hF];exact ⟨rfl,b⟩
   clear h R W hS ok n1 n2 hT hce hes hm hsh hkk hif hfew ho hcK hF hz2 hd2;go_enter Tryz.func142,Tryz.ntmps142
   go_wp2_with (first
    |((with_reducible refine Zv 4 ?_);refine Zh _ rfl _ rfl _ Zbp ?_;intro w1 b4 hg4 hl4 B4 b1;have HB4:=Za B4;have Hg4:=Za hg4;have Hb1:=Za b1;clear B4 hg4 hl4 b1)
    |(go_at_call 173;refine (HE.out _ Hb1.out).mono ?_;rintro e w2 ⟨ea,ec,eV,rfl,p2,b2⟩;obtain ⟨ge,off,rfl,hr0⟩:=HP0.out _ _ _ _ p2;have HB4b:=Za (HB4.out.grow b2);have Hb2:=Za (Zb Hb1.out b2);have HR2:=Za hr0;clear b2 p2 hr0)
    |(go_at_call 94;refine (HA.out _ Hb2.out).mono ?_;rintro e w3 ⟨rfl,b3⟩;have HB4c:=Za (HB4b.out.grow b3);have Hb3:=Za (Zb Hb2.out b3);have HR3:=Za (Zha HR2.out b3);clear b3))
   have HR0:Hid (∀w',Kb w3 w'→w'.rangeAt ge off (B K0).toList):=fun w' hb=>Zha HR3.out hb
   refine wp_region_held_drew (S:=fun w'=>Kb w3 w') (by kernel_rfl) (below_drewN (Below.refl _ _) 1) (fun hHeld=>?_);refine tkp 0 (.slice (some ⟨ge,off,none⟩) m ec) hHeld ?_;simp only [zq];refine tkp 1 (.pointer (some ⟨ge,off,none⟩)) hHeld ?_;simp only [zq];refine tkp 2 (.pointer (some ⟨ge,off,none⟩)) hHeld ?_;simp only [zq];refine tkg 3 (.agg (B K0)) rfl (yieldsIf_load_mid rfl 48 (.tmp 27) rfl ge off rfl (B K0).toList _ (fun w hS=>HR0.out _ hS) Tryz.underlying48 rfl HPL.out) hHeld ?_;simp only [zq];refine tkp 4 (.pointer (some ⟨g,0,none⟩)) hHeld ?_;simp only [zq];refine tkp 5 (.int .i64 y) hHeld ?_;simp only [zq];refine wpAnyH_ready (rs:=[6,12]) (by kernel_rfl) (by simp) ?_;refine AllReadyH.cons rfl (fun KQ hK=>?_) (AllReadyH.cons rfl (fun KQ hK=>?_) AllReadyH.nil)
   ·go_simp;refine (HA.out _ (Zb Hb3.out hHeld)).mono ?_;rintro e z1 ⟨rfl,a1⟩;refine hK.out _ _ (Zb hHeld a1) (fun hHeld=>?_);clear hK KQ;refine tkp 7 (.int .i64 (dd:Int)) hHeld ?_;simp only [zq];refine wpAnyH_ready (rs:=[8,12]) (by kernel_rfl) (by simp) ?_;refine AllReadyH.cons rfl (fun KQ hK=>?_) (AllReadyH.cons rfl (fun KQ hK=>?_) AllReadyH.nil)
    ·go_simp;refine (HF.out _).mono ?_;rintro e z2 ⟨rfl,a2⟩;refine hK.out _ _ (Zb hHeld a2) (fun hHeld=>?_);clear hK KQ;refine tkp 9 (.tuple #[.agg (B K),.int .i64 0]) hHeld ?_;simp only [zq];refine tkp 10 (.agg (B K)) hHeld ?_;simp only [zq];refine tkp 11 (.int .i64 0) hHeld ?_;simp only [zq];refine wpAnyH_ready (rs:=[12]) (by kernel_rfl) (by simp) ?_;refine AllReadyH.cons rfl (fun KQ hK=>?_) AllReadyH.nil;refine Zjy _ rfl _ rfl _ Zfg ?_;intro z3 b6 hg6 B6 a3;have HB6:=Za B6;have HG6:Hid (w3.heap.size≤b6):=Nat.le_trans hHeld.size hg6;refine hK.out _ _ (Zb hHeld a3) (fun hHeld=>?_);clear hK KQ;clear B6 hg6;refine wpAnyH_ready (rs:=[13]) (by kernel_rfl) (by simp) ?_;refine AllReadyH.cons rfl (fun KQ hK=>?_) AllReadyH.nil;refine Zcs _ rfl _ _ _ rfl b6 _ (B K) rfl rfl HB6.out (by rw [HSZ.out];exact Zbv) (by rw [HSZ.out,Zn];simp) (Zbt _) ?_;intro z4 B7 r7;have HB7:=Za B7;have HQ4:Hid (Kb w3 z4):=Ze hHeld r7 HG6.out;refine hK.out _ _ (HQ4.out) (fun hHeld=>?_);clear hK KQ;clear B7 r7;refine tkp 14 (.int .i64 0) hHeld ?_;simp only [zq];refine wpAnyH_done (by kernel_rfl) ?_ _;have HB4z:=Za (HB4c.out.grow HQ4.out);have hne:b4≠b6:=by have:=HB4c.out.lt;have:=HG6.out;omega
     have HBw:=Za (Zb Hb3.out HQ4.out);clear hHeld
     go_wp2_with (first
      |((with_reducible refine Zk 36 6 ?_);refine Zg _ rfl _ _ rfl b6 (B K) rfl HB7.out _ _ Tryz.underlying42 (by rw [HSZ.out];exact Zbv) ?_)
      |((with_reducible refine Zag 4 ?_);refine Zf _ rfl _ _ _ rfl b4 _ (B K) rfl rfl HB4z.out (by rw [HSZ.out];exact Zi) (by rw [HSZ.out,Zn];simp) (Zbt _) ?_;intro w5 B5 g3))
     exact bodyPost_ret (v:=.agg (B K)) (results_cell_row rfl _ _ b4 _ _ _ _ rfl B5 Tryz.underlying48 rfl (by rw [HSZ.out];exact Zi)) rfl ⟨rfl,Ze HBw.out g3 Hg4.out⟩
    ·refine Zjy _ rfl _ rfl _ Zfg ?_;intro z3 b6 hg6 B6 a3;have HB6a:=Za B6;have HG6:Hid (w3.heap.size≤b6):=Nat.le_trans hHeld.size hg6;refine hK.out _ _ (Zb hHeld a3) (fun hHeld=>?_);clear hK KQ;clear B6 hg6;refine wpAnyH_ready (rs:=[8]) (by kernel_rfl) (by simp) ?_;refine AllReadyH.cons rfl (fun KQ hK=>?_) AllReadyH.nil;go_simp;refine (HF.out _).mono ?_;rintro e z2 ⟨rfl,a2⟩;have HB6:=Za (HB6a.out.grow a2);refine hK.out _ _ (Zb hHeld a2) (fun hHeld=>?_);clear hK KQ;refine tkp 9 (.tuple #[.agg (B K),.int .i64 0]) hHeld ?_;simp only [zq];refine tkp 10 (.agg (B K)) hHeld ?_;simp only [zq];refine tkp 11 (.int .i64 0) hHeld ?_;simp only [zq];refine wpAnyH_ready (rs:=[13]) (by kernel_rfl) (by simp) ?_;refine AllReadyH.cons rfl (fun KQ hK=>?_) AllReadyH.nil;refine Zcs _ rfl _ _ _ rfl b6 _ (B K) rfl rfl HB6.out (by rw [HSZ.out];exact Zbv) (by rw [HSZ.out,Zn];simp) (Zbt _) ?_;intro z4 B7 r7;have HB7:=Za B7;have HQ4:Hid (Kb w3 z4):=Ze hHeld r7 HG6.out;refine hK.out _ _ (HQ4.out) (fun hHeld=>?_);clear hK KQ;clear B7 r7;refine tkp 14 (.int .i64 0) hHeld ?_;simp only [zq];refine wpAnyH_done (by kernel_rfl) ?_ _;have HB4z:=Za (HB4c.out.grow HQ4.out);have hne:b4≠b6:=by have:=HB4c.out.lt;have:=HG6.out;omega
     have HBw:=Za (Zb Hb3.out HQ4.out);clear hHeld
     go_wp2_with (first
      |((with_reducible refine Zk 36 6 ?_);refine Zg _ rfl _ _ rfl b6 (B K) rfl HB7.out _ _ Tryz.underlying42 (by rw [HSZ.out];exact Zbv) ?_)
      |((with_reducible refine Zag 4 ?_);refine Zf _ rfl _ _ _ rfl b4 _ (B K) rfl rfl HB4z.out (by rw [HSZ.out];exact Zi) (by rw [HSZ.out,Zn];simp) (Zbt _) ?_;intro w5 B5 g3))
     exact bodyPost_ret (v:=.agg (B K)) (results_cell_row rfl _ _ b4 _ _ _ _ rfl B5 Tryz.underlying48 rfl (by rw [HSZ.out];exact Zi)) rfl ⟨rfl,Ze HBw.out g3 Hg4.out⟩
   ·refine Zjy _ rfl _ rfl _ Zfg ?_;intro z3 b6 hg6 B6 a3;have HB6a:=Za B6;have HG6:Hid (w3.heap.size≤b6):=Nat.le_trans hHeld.size hg6;refine hK.out _ _ (Zb hHeld a3) (fun hHeld=>?_);clear hK KQ;clear B6 hg6;refine wpAnyH_ready (rs:=[6]) (by kernel_rfl) (by simp) ?_;refine AllReadyH.cons rfl (fun KQ hK=>?_) AllReadyH.nil;go_simp;refine (HA.out _ (Zb Hb3.out hHeld)).mono ?_;rintro e z1 ⟨rfl,a1⟩;have HB6b:=Za (HB6a.out.grow a1);refine hK.out _ _ (Zb hHeld a1) (fun hHeld=>?_);clear hK KQ;refine tkp 7 (.int .i64 (dd:Int)) hHeld ?_;simp only [zq];refine wpAnyH_ready (rs:=[8]) (by kernel_rfl) (by simp) ?_;refine AllReadyH.cons rfl (fun KQ hK=>?_) AllReadyH.nil;go_simp;refine (HF.out _).mono ?_;rintro e z2 ⟨rfl,a2⟩;have HB6:=Za (HB6b.out.grow a2);refine hK.out _ _ (Zb hHeld a2) (fun hHeld=>?_);clear hK KQ;refine tkp 9 (.tuple #[.agg (B K),.int .i64 0]) hHeld ?_;simp only [zq];refine tkp 10 (.agg (B K)) hHeld ?_;simp only [zq];refine tkp 11 (.int .i64 0) hHeld ?_;simp only [zq];refine wpAnyH_ready (rs:=[13]) (by kernel_rfl) (by simp) ?_;refine AllReadyH.cons rfl (fun KQ hK=>?_) AllReadyH.nil;refine Zcs _ rfl _ _ _ rfl b6 _ (B K) rfl rfl HB6.out (by rw [HSZ.out];exact Zbv) (by rw [HSZ.out,Zn];simp) (Zbt _) ?_;intro z4 B7 r7;have HB7:=Za B7;have HQ4:Hid (Kb w3 z4):=Ze hHeld r7 HG6.out;refine hK.out _ _ (HQ4.out) (fun hHeld=>?_);clear hK KQ;clear B7 r7;refine tkp 14 (.int .i64 0) hHeld ?_;simp only [zq];refine wpAnyH_done (by kernel_rfl) ?_ _;have HB4z:=Za (HB4c.out.grow HQ4.out);have hne:b4≠b6:=by have:=HB4c.out.lt;have:=HG6.out;omega
    have HBw:=Za (Zb Hb3.out HQ4.out);clear hHeld
    go_wp2_with (first
     |((with_reducible refine Zk 36 6 ?_);refine Zg _ rfl _ _ rfl b6 (B K) rfl HB7.out _ _ Tryz.underlying42 (by rw [HSZ.out];exact Zbv) ?_)
     |((with_reducible refine Zag 4 ?_);refine Zf _ rfl _ _ _ rfl b4 _ (B K) rfl rfl HB4z.out (by rw [HSZ.out];exact Zi) (by rw [HSZ.out,Zn];simp) (Zbt _) ?_;intro w5 B5 g3))
    exact bodyPost_ret (v:=.agg (B K)) (results_cell_row rfl _ _ b4 _ _ _ _ rfl B5 Tryz.underlying48 rfl (by rw [HSZ.out];exact Zi)) rfl ⟨rfl,Ze HBw.out g3 Hg4.out⟩
structure Sd7 (C:Ce) (q:Int) (es:List Ent):Prop where
 sz:C.sz=es.length
 kinds:(C.kind=0∧q=0∧es=[])∨(C.kind=1∧q≠0∧es.length=1∧∀e∈es,e.1=C.key)∨(C.kind=2∧q≠0∧2≤es.length∧∀e∈es,∀j,j<C.dp→kb e.1 j=kb C.key j)
theorem Zto (W:Wf cs []) {q:Int} (hm:mayP cs q):∃(n:Nat) (T:Tre),q=(n:Int)∧IsT cs n T∧Sd7 (cat cs q) q T.ents∧∀e∈T.ents,Key e.1:=by
 rcases Zsw W q with ⟨k0,ez⟩ | ⟨n,T,rfl,n1,n2,hT,hce,hk⟩
 ·have hq:q=0:=by
   rcases hm with e | e
   ·exact e
   ·exfalso;obtain ⟨i,_,hi,_,hce⟩:=Zel (cs:=cs) (h:=q) (by omega);rw [hce] at k0;rcases W.kinds i hi with k | k <;> omega
  subst hq;exact ⟨0,.emp,rfl,rfl,⟨by rw [ez];rfl,.inl ⟨k0,rfl,rfl⟩⟩,fun e he=>by cases he⟩
 ·have ok:=Zbb W T n hT;have hes:sdC cs n=ce cs (n-1):=if_neg (by omega);have hpos:0<T.ents.length:=List.length_pos_iff.2 (ok.pos (by omega));have hsz:=ok.sz;have hsh:=fun d hd=>ok.share d (by omega) hd
  rw [hes,← hce] at hsz hsh;refine ⟨n,T,rfl,hT,⟨hsz,.inr ?_⟩,fun e he=>(ok.ent e he).1⟩;rcases hk with k | k
  ·refine .inl ⟨k,by omega,?_,fun e he=>Zkr (ok.ent e he).1 (W.catOk (n:Int)).hk (fun j hj=>hsh 256 (fun e=>by rw [k] at e;omega) e he j hj)⟩;rw [← hsz,hce];rcases W.tr (n-1) n2 with hl | hi
   ·exact hl.sz
   ·have:=hi.kind;rw [hce] at k;omega
  ·refine .inr ⟨k,by omega,?_,fun e he j hj=>hsh _ (fun _=>Nat.le_refl _) e he j hj⟩;rw [← hsz,hce];rcases W.tr (n-1) n2 with hl | hi
   ·have:=hl.kind;rw [hce] at k;omega
   ·exact hi.two
def Good7 (d:Nat) (n1:Nat) (es:List Ent) (i:Nat):Prop:=kb (es.getD i e00).1 d=(if i<n1 then 0 else 1)∧Und (es.getD i e00).1 (es.getD 0 e00).1 (d:Int)
theorem Zpu (hd:d<256) {A C:List Ent} {ka kc:Lq} (hA:∀e∈A,∀j,j≤d→kb e.1 j=kb ka j) (hC:∀e∈C,∀j,j≤d→kb e.1 j=kb kc j):
  (∀i,i<(A++C).length→Good7 d A.length (A++C) i)↔(A≠[]→kb ka d=0)∧(C≠[]→kb kc d=1)∧(A≠[]→C≠[]→Und ka kc (d:Int)):=by
 have gA:∀i,i<A.length→(A++C).getD i e00∈A:=fun i hi=>by
  rw [List.getD_eq_getElem?_getD,List.getElem?_append_left hi,List.getElem?_eq_getElem hi];exact List.getElem_mem hi
 have gC:∀i,¬i<A.length→i<(A++C).length→(A++C).getD i e00∈C:=fun i hi hl=>by
  rw [List.length_append] at hl;rw [List.getD_eq_getElem?_getD,List.getElem?_append_right (by omega),List.getElem?_eq_getElem (by omega)];exact List.getElem_mem _
 constructor
 ·intro h;have h1:A≠[]→kb ka d=0:=fun hne=>by
   have hp:=List.length_pos_iff.2 hne;have:=(h 0 (by rw [List.length_append];omega)).1;rw [if_pos hp,hA _ (gA 0 hp) d (Nat.le_refl _)] at this;exact this
  have h2:C≠[]→Good7 d A.length (A++C) A.length∧(A++C).getD A.length e00∈C:=fun hne=>by
   have hp:=List.length_pos_iff.2 hne;exact ⟨h A.length (by rw [List.length_append];omega),gC _ (by omega) (by rw [List.length_append];omega)⟩
  refine ⟨h1,fun hne=>?_,fun ha hc=>?_⟩
  ·obtain ⟨q1,q2⟩:=h2 hne;have:=q1.1;rw [if_neg (by omega),hC _ q2 d (Nat.le_refl _)] at this;exact this
  ·obtain ⟨q1,q2⟩:=h2 hc;refine ⟨by omega,by omega,fun j hj=>?_⟩;have:=q1.2.2.2 j hj;rw [hC _ q2 j (by omega),hA _ (gA 0 (List.length_pos_iff.2 ha)) j (by omega)] at this;exact this.symm
 ·rintro ⟨h1,h2,h3⟩ i hi;have h0:Und ((A++C).getD 0 e00).1 ((A++C).getD 0 e00).1 (d:Int):=⟨by omega,by omega,fun _ _=>rfl⟩
  by_cases hlt:i<A.length
  ·have hne:A≠[]:=List.length_pos_iff.1 (by omega);refine ⟨by rw [if_pos hlt,hA _ (gA i hlt) d (Nat.le_refl _)];exact h1 hne,by omega,by omega,fun j hj=>?_⟩;rw [hA _ (gA i hlt) j (by omega),hA _ (gA 0 (by omega)) j (by omega)]
  ·have hm:=gC i hlt hi;have hne:C≠[]:=List.ne_nil_of_mem hm;refine ⟨by rw [if_neg hlt,hC _ hm d (Nat.le_refl _)];exact h2 hne,by omega,by omega,fun j hj=>?_⟩
   by_cases ha:A=[]
   ·have hz:=gC 0 (by rw [ha];simp) (by omega);rw [hC _ hm j (by omega),hC _ hz j (by omega)]
   ·rw [hC _ hm j (by omega),hA _ (gA 0 (List.length_pos_iff.2 ha)) j (by omega)];exact ((h3 ha hne).2.2 j hj).symm
def Pre7 (d:Nat) (C:Ce):Prop:=C.kind=2→C.dp=d+1
theorem Yhp {L R:Ce} {l r:Int} (hl:Sd7 L l A) (hr:Sd7 R r C) {d:Nat} (hd:d<256) {u:Bool} (hu:u=true↔Und L.key R.key (d:Int)):
  fitP d L R u=true↔2≤A.length+C.length∧Pre7 d L∧Pre7 d R∧∀i,i<(A++C).length→Good7 d A.length (A++C) i:=by
 have sL:∀ {C:Ce} {q:Int} {es:List Ent},Sd7 C q es→Pre7 d C→∀e∈es,∀j,j≤d→kb e.1 j=kb C.key j:=fun {C q es} h hp e he j hj=>by
  rcases h.kinds with ⟨_,_,rfl⟩ | ⟨_,_,_,k⟩ | ⟨k2,_,_,k⟩
  ·cases he
  ·rw [k e he]
  ·exact k e he j (by rw [hp k2];omega)
 have fs:∀ {C:Ce} {q:Int} {es:List Ent} {b:Int},Sd7 C q es→(fsP C d b=true↔Pre7 d C∧(es≠[]→kb C.key d=b)):=fun {C q es b} h=>by
  unfold fsP Pre7;rcases h.kinds with ⟨k,_,rfl⟩ | ⟨k,_,k1,_⟩ | ⟨k,_,k1,_⟩
  ·simp [k]
  ·have:es≠[]:=List.length_pos_iff.1 (by omega);simp [k,this]
  ·have:es≠[]:=List.length_pos_iff.1 (by omega);simp [k,this]
 have nk:∀ {C:Ce} {q:Int} {es:List Ent},Sd7 C q es→(C.kind=0↔es=[]):=fun {C q es} h=>by
  rcases h.kinds with ⟨k,_,rfl⟩ | ⟨k,_,k1,_⟩ | ⟨k,_,k1,_⟩
  ·simp [k]
  ·have:es≠[]:=List.length_pos_iff.1 (by omega);simp [k,this]
  ·have:es≠[]:=List.length_pos_iff.1 (by omega);simp [k,this]
 unfold fitP;rw [Bool.and_eq_true,Bool.and_eq_true,Bool.and_eq_true,Bool.or_eq_true,Bool.or_eq_true,decide_eq_true_eq,decide_eq_true_eq,decide_eq_true_eq,fs hl,fs hr,hu,nk hl,nk hr,hl.sz,hr.sz];constructor
 ·rintro ⟨a,⟨b1,b2⟩,⟨c1,c2⟩,e⟩;refine ⟨a,b1,c1,(Zpu hd (sL hl b1) (sL hr c1)).2 ⟨b2,c2,fun n1 n2=>?_⟩⟩;rcases e with e | e | e
  ·exact absurd e n1
  ·exact absurd e n2
  ·exact e
 ·rintro ⟨a,b,c,e⟩;obtain ⟨g1,g2,g3⟩:=(Zpu hd (sL hl b) (sL hr c)).1 e;refine ⟨a,⟨b,g1⟩,⟨c,g2⟩,?_⟩
  by_cases n1:A=[]
  ·exact .inl n1
  ·by_cases n2:C=[]
   ·exact .inr (.inl n2)
   ·exact .inr (.inr (g3 n1 n2))
theorem Ziw {ops:Array Oper} {rest:List Oper} {op:Oper} {a:Act} {Q:Exit→Act→World→Prop} (w:World) (hgd:op.guard=none) (ho:op.op=.buildSlice 41 0 #[])
  (hk:∀w' g,w.heap.size≤g→w'.ownsRow w.heap.size 58 33 (.slice (some ⟨g,0,none⟩) 0 0) 0 []→Kb w w'→wpList Tryz.prog ops Q rest (a.put op.dst (.slice (some ⟨g,0,none⟩) 0 0)) w'):wpList Tryz.prog ops Q (op::rest) a w:=by
 refine wpList_plain hgd fun K hK=>?_
 obtain ⟨i,z,hi,hz,hs,_,hzs⟩:=Zif;have ht:Tryz.prog.underlying 41=some (.slice 58):=Tryz.underlying41;have hrun:(Instr.buildSlice 41 0 #[]).run Tryz.prog w=.ok (.slice (some ⟨w.heap.size,0,none⟩) 0 0) (w.alloc (.cells #[] 58)):=by
  have he:∀f:Nat→Value,Array.map f (Array.range 0)= #[]:=fun f=>Array.eq_empty_of_size_eq_zero (by simp)
  simp [Instr.buildSlice,run_underlying ht,sizeOf,typeInfo,hi,Instr.fill,newRow,he]
 unfold Oper.wp execOp;simp only [ho,List.map_toArray,List.map_nil,Sem.run_bind,hrun,Result.andThen_ok,Sem.run_pure];refine hK _ _ (hk _ w.heap.size (Nat.le_refl _) ⟨rfl,.inr ⟨w.heap.size,0, #[],rfl,Nat.le_refl _,Blk.new _ _ _,Nat.le_refl _,by simp only [maxLen];omega,rfl,rfl⟩⟩ (Zc w _))
theorem Zcq {ops:Array Oper} {rest:List Oper} {o:Oper} {a:Act} {Q:Exit→Act→World→Prop} (w:World) (hgd:o.guard=none) (s x:Operand)
  (hop:o.op=.call { callee:=.builtin .append,args:= #[s,x],argTypes:= #[41,41]})
  (base base2:Nat) (v1 v2:Value) (n1 n2:Nat) (xs1 xs2:List Value) (hs:a.eval s=v1) (hx:a.eval x=v2) (h1:w.ownsRow base 58 33 v1 n1 xs1) (h2:w.ownsRow base2 58 33 v2 n2 xs2) (hc:∀u∈xs2,u.oneCell'=true) (hn:n1+n2≤65536) (hbase:base≤w.heap.size)
  (hk:∀v' w',w'.ownsRow base 58 33 v' (n1+n2) (xs1++xs2)→w.grownBy w' v1.ownBlock→wpList Tryz.prog ops Q rest (a.put o.dst v') w'):wpList Tryz.prog ops Q (o::rest) a w:=by
 refine wpList_plain hgd fun K hK=>?_
 obtain ⟨v',w',hr,q1,q2⟩:=Zlk o.type w base base2 v1 v2 n1 n2 xs1 xs2 h1 h2 hc hn hbase;unfold Oper.wp execOp;simp only [hop,resolve,invoke,builtin,Sem.run_bind,Sem.run_pure,Result.andThen_ok,List.map_toArray,List.map_cons,List.map_nil,hs,hx,hr];exact hK _ _ (hk v' w' q1 q2)
theorem Zlo {e:TypeId} (h:w.ownsRow base e k v n xs) (hg:w.grownBy w' u.ownBlock) (hn:∀g,v.ownBlock=some g→u.ownBlock=some g→False):w'.ownsRow base e k v n xs:=
 Zck (S:=u.ownBlock.toList) h (Mod.of_grown hg (fun k hk=>by simp [hk])) (fun g e1 e2=>hn g e1 (by simpa using e2))
def En7 (w0:World) (es:List Ent) (n:Nat) (w:World) (e:Ending) (w':World):Prop:=
 ∃a c its,e=.returned (.slice a n c)∧its.map (·.1)=es∧its.length=n∧(∀p∈its,Key p.1.1∧Reads w0 p.2 p.1.2)∧w'.ownsRow w.heap.size 58 33 (.slice a n c) n (flatP its)∧Kb w w'
theorem en7 {e:Ending} (h:EnPost w0 es w e w'):En7 w0 es es.length w e w':=by
 obtain ⟨v,its,e1,m,p,o,q⟩:=h;obtain ⟨a,c,rfl⟩:=Zj (Zu o);have hl:its.length=es.length:=by rw [← m,List.length_map]
 rw [hl] at e1 o;exact ⟨a,c,its,e1,m,hl,p,o,q⟩
structure FitH (w:World) (g d:Nat) (l r:Int) (X Y Z:List Value) (kl kr:Int) (dl dr:Int) (A C es:List Ent) (n1 n2:Nat) (b:Bool) (dpl dpr:Nat):Prop where
 HEl:∀w',Kb w w'→Kc 173 #[.pointer (some ⟨g,0,none⟩),.int .i64 l] w' (En7 w A n1 w')
 HEr:∀w',Kb w w'→Kc 173 #[.pointer (some ⟨g,0,none⟩),.int .i64 r] w' (En7 w C n2 w')
 HAl:Kr w 94 #[.pointer (some ⟨g,0,none⟩),.int .i64 l] (.agg X.toArray)
 HAr:Kr w 94 #[.pointer (some ⟨g,0,none⟩),.int .i64 r] (.agg Y.toArray)
 HLX:(Tryz.prog.info? 153).map (·.size)=some X.toArray.size
 HLY:(Tryz.prog.info? 153).map (·.size)=some Y.toArray.size
 HZ:∀w,(zeroValue 153).run Tryz.prog w=.ok (.agg Z.toArray) w
 HZX:Z.toArray.size=X.toArray.size
 HZY:Z.toArray.size=Y.toArray.size
 H1X:∀u∈X,u.oneCell'=true
 H1Y:∀u∈Y,u.oneCell'=true
 HX0:X[0]?=some (.int .u8 kl)
 HX1:X[1]?=some (.int .i64 dl)
 HY0:Y[0]?=some (.int .u8 kr)
 HY1:Y[1]?=some (.int .i64 dr)
 hdl:dl=(dpl:Int)
 hdr:dr=(dpr:Int)
 HES:A++C=es
 hle:es.length=n1+n2
 fl:n1≤5000
 fr:n2≤5000
 hfit:b=true↔2≤n1+n2∧(kl=2→dpl=d+1)∧(kr=2→dpr=d+1)∧∀i,i<es.length→Good7 d n1 es i
end Go.Proofs.YtlclabbnpjobgaaGreatDoor
