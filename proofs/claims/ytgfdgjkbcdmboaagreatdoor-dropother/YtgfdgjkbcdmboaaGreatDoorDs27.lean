/- The document's Common, Under, Flip, Filled, Next (rootcellarref04), as contracts. -/
import Derived.Test.YtgfdgjkbcdmboaaGreatDoorDs26
namespace Go.Proofs.YtgfdgjkbcdmboaaGreatDoor
variable {cs:Lz}
variable {d g k room:Nat}
variable {fr:List Nat}
variable {ss:List Sp}
variable {vf vp:Value}
variable {w:World}
variable {ys zs:Lq}
set_option maxHeartbeats 8000000
set_option maxRecDepth 20000
open Go.RowKit
set_option maxRecDepth 10000 in
theorem Zhg (xs ys:Lq) (c:Nat) (w:World) (hx:Key xs) (hy:Key ys) (hc:IsCommon xs ys c):Kc 192 #[.agg (B xs),.agg (B ys)] w fun e w'=>e=.returned (.int .i64 c)∧Kb w w':=by
 have HX:=Za hx;have HY:=Za hy;have HC:=Za hc;have hc0:c≤256:=hc.1;have hiX:(Tryz.prog.info? 33).map (·.size)=some (B xs).toList.length:=by rw [Zas,List.length_map,hx.1];exact Zaa
 have hiY:(Tryz.prog.info? 33).map (·.size)=some (B ys).toList.length:=by rw [Zas,List.length_map,hy.1];exact Zaa
 clear hx hy hc;go_enter Tryz.func192,Tryz.ntmps192
 go_wp2_with (first | (have hz:=hl1;clear hz;refine Zc _ rfl _ _ rfl _ rfl ?_;intro w2 g2 hg2 hl2 B2 b2;have B1':=B1.grow b2) | (refine Zc _ rfl _ _ rfl _ rfl ?_;intro w1 g1 hg1 hl1 B1 b1))
 have c2:=Zb b1 b2;have HS0:Hid (∀w',Kb w2 w'→w'.rangeAt g1 0 (B xs).toList∧w'.rangeAt g2 0 (B ys).toList):=fun w' hw'=>⟨(B1'.grow hw').range,(B2.grow hw').range⟩
 clear B1 B1' B2 b1 b2 hg1 hg2 hl1 hl2
 go_loopw [5] (fun s wr=>∃k:Nat,k≤c∧s=.int .i64 k∧Hid (Kb w2 wr)) (fun s _=>257-(intOf s).toNat)
 case atStart=>exact ⟨0,by omega,rfl,Below.refl _ _⟩
 case round=>
  obtain ⟨k,hk,rfl,hb⟩:=hrel;obtain ⟨wz,rfl⟩:∃x,x=wr:=⟨_,rfl⟩;have HS:Hid (∀w',Kb wz w'→w'.rangeAt g1 0 (B xs).toList∧w'.rangeAt g2 0 (B ys).toList):=fun w' hw'=>HS0.out w' (Zb hb.out hw')
  have d0:Kb wz wz.drew:=(Below.refl _ _).drew
  by_cases hk2:k<256
  ·have hk':decide ((k:Int)<256)=true:=decide_eq_true (by omega);obtain ⟨x,hx⟩:∃x,x=kb xs k:=⟨_,rfl⟩;obtain ⟨y,hy⟩:∃y,y=kb ys k:=⟨_,rfl⟩;have cX:Hid (∀w',Kc 106 #[.agg (B xs),.int .i64 k] w' fun e w''=>e=.returned (.int .i64 x)∧Below w'.heap.size w' w''):=by
    intro w';rw [hx];exact Zft xs k w' HX.out hk2
   have cY:Hid (∀w',Kc 106 #[.agg (B ys),.int .i64 k] w' fun e w''=>e=.returned (.int .i64 y)∧Below w'.heap.size w' w''):=by
    intro w';rw [hy];exact Zft ys k w' HY.out hk2
   by_cases hkc:k<c
   ·have hxy:(x == y)=true:=by rw [beq_iff_eq,hx,hy];exact HC.out.2.1 k hkc
    clear hx hy
    go_wp2_with fail
    refine wp_region_held_drew (S:=fun w'=>w'.rangeAt g1 0 (B xs).toList∧w'.rangeAt g2 0 (B ys).toList) (by kernel_rfl) (HS.out _ d0) (fun hHeld=>?_);refine tkp 0 (.int .i64 k) hHeld ?_;simp only [zq];refine tkp 1 (.bool true) hHeld ?_;simp only [zq];refine tkp 2 (.bool true) hHeld ?_;simp only [zq];refine tkg 3 (.agg (B xs)) rfl (yieldsIf_load_mid rfl 33 (.tmp 2) rfl g1 0 rfl (B xs).toList _ (fun w hS=>hS.1) Zke rfl hiX) hHeld ?_;simp only [zq];refine tkp 4 (.int .i64 k) hHeld ?_;simp only [zq];refine tkg 6 (.agg (B ys)) rfl (yieldsIf_load_mid rfl 33 (.tmp 3) rfl g2 0 rfl (B ys).toList _ (fun w hS=>hS.2) Zke rfl hiY) hHeld ?_;simp only [zq];refine tkp 7 (.int .i64 k) hHeld ?_;simp only [zq];refine wpAnyH_ready (rs:=[5]) (by kernel_rfl) (by simp) ?_;refine AllReadyH.cons rfl (fun KQ hK=>?_) AllReadyH.nil;go_simp;refine (cX.out _).mono ?_;rintro e x1 ⟨rfl,a1⟩;have d1:=Zb d0 a1;refine hK.out _ _ (HS.out _ d1) (fun hHeld=>?_);clear hK KQ;refine wpAnyH_ready (rs:=[8]) (by kernel_rfl) (by simp) ?_;refine AllReadyH.cons rfl (fun KQ hK=>?_) AllReadyH.nil;go_simp;refine (cY.out _).mono ?_;rintro e x2 ⟨rfl,a2⟩;have d2:=Zb d1 a2;refine hK.out _ _ (HS.out _ d2) (fun hHeld=>?_);clear hK KQ;refine tkp 9 (.bool true) hHeld ?_;simp only [zq];refine tkp 10 (.bool true) hHeld ?_;simp only [zq];refine wpAnyH_done (by kernel_rfl) ?_ _;go_wp2
    exact ⟨⟨k+1,by omega,by go_num,Zb hb.out d2⟩,by simp [intOf];omega⟩
   ·obtain rfl:k=c:=by omega
    have hxy:(x == y)=false:=by rw [beq_eq_false_iff_ne,hx,hy];exact HC.out.2.2 hk2
    clear hx hy
    go_wp2_with fail
    refine wp_region_held_drew (S:=fun w'=>w'.rangeAt g1 0 (B xs).toList∧w'.rangeAt g2 0 (B ys).toList) (by kernel_rfl) (HS.out _ d0) (fun hHeld=>?_);refine tkp 0 (.int .i64 k) hHeld ?_;simp only [zq];refine tkp 1 (.bool true) hHeld ?_;simp only [zq];refine tkp 2 (.bool true) hHeld ?_;simp only [zq];refine tkg 3 (.agg (B xs)) rfl (yieldsIf_load_mid rfl 33 (.tmp 2) rfl g1 0 rfl (B xs).toList _ (fun w hS=>hS.1) Zke rfl hiX) hHeld ?_;simp only [zq];refine tkp 4 (.int .i64 k) hHeld ?_;simp only [zq];refine tkg 6 (.agg (B ys)) rfl (yieldsIf_load_mid rfl 33 (.tmp 3) rfl g2 0 rfl (B ys).toList _ (fun w hS=>hS.2) Zke rfl hiY) hHeld ?_;simp only [zq];refine tkp 7 (.int .i64 k) hHeld ?_;simp only [zq];refine wpAnyH_ready (rs:=[5]) (by kernel_rfl) (by simp) ?_;refine AllReadyH.cons rfl (fun KQ hK=>?_) AllReadyH.nil;go_simp;refine (cX.out _).mono ?_;rintro e x1 ⟨rfl,a1⟩;have d1:=Zb d0 a1;refine hK.out _ _ (HS.out _ d1) (fun hHeld=>?_);clear hK KQ;refine wpAnyH_ready (rs:=[8]) (by kernel_rfl) (by simp) ?_;refine AllReadyH.cons rfl (fun KQ hK=>?_) AllReadyH.nil;go_simp;refine (cY.out _).mono ?_;rintro e x2 ⟨rfl,a2⟩;have d2:=Zb d1 a2;refine hK.out _ _ (HS.out _ d2) (fun hHeld=>?_);clear hK KQ;refine tkp 9 (.bool false) hHeld ?_;simp only [zq];refine tkp 10 (.bool false) hHeld ?_;simp only [zq];refine wpAnyH_done (by kernel_rfl) ?_ _;go_wp2
    go_ret;exact ⟨rfl,Zb c2 (Zb hb.out d2)⟩
  ·have hk':decide ((k:Int)<256)=false:=decide_eq_false (by omega);obtain rfl:k=c:=by omega
   go_wp2_with fail
   refine wp_region_held_drew (S:=fun w'=>w'.rangeAt g1 0 (B xs).toList∧w'.rangeAt g2 0 (B ys).toList) (by kernel_rfl) (HS.out _ d0) (fun hHeld=>?_);refine tkp 0 (.int .i64 k) hHeld ?_;simp only [zq];refine tkp 1 (.bool false) hHeld ?_;simp only [zq];refine tkp 2 (.bool false) hHeld ?_;simp only [zq];refine tks 3 hHeld ?_;simp only [zq];refine tks 4 hHeld ?_;simp only [zq];refine tks 6 hHeld ?_;simp only [zq];refine tks 7 hHeld ?_;simp only [zq];refine wpAnyH_ready (rs:=[5]) (by kernel_rfl) (by simp) ?_;refine AllReadyH.cons rfl (fun KQ hK=>?_) AllReadyH.nil;go_simp;refine hK.out _ _ (HS.out _ d0) (fun hHeld=>?_);clear hK KQ;refine wpAnyH_ready (rs:=[8]) (by kernel_rfl) (by simp) ?_;refine AllReadyH.cons rfl (fun KQ hK=>?_) AllReadyH.nil;go_simp;refine hK.out _ _ (HS.out _ d0) (fun hHeld=>?_);clear hK KQ;refine tks 9 hHeld ?_;simp only [zq];refine tkp 10 (.bool false) hHeld ?_;simp only [zq];refine wpAnyH_done (by kernel_rfl) ?_ _;go_wp2
   go_ret;exact ⟨rfl,Zb c2 (Zb hb.out d0)⟩
def Part (xs:Lq) (d:Nat) (b:Int) (k:Nat) (ys:Lq):Prop:=Key ys∧∀j,j<256→kb ys j=if d≤j∧j<k then b else kb xs j
theorem Part.start {xs:Lq} (hx:Key xs) (d:Nat) (b:Int):Part xs d b d xs:=⟨hx,fun j _=>by rw [if_neg (by omega)]⟩
theorem Part.step {xs:Lq} {b:Int} (h:Part xs d b k ys) (hs:IsSet ys k b zs) (hk:d≤k):Part xs d b (k+1) zs:=by
 refine ⟨hs.1,fun j hj=>?_⟩;rw [hs.2 j hj,h.2 j hj]
 by_cases e:j=k
 ·rw [if_pos e,if_pos (by omega)]
 ·rw [if_neg e]
  by_cases q:d≤j∧j<k
  ·rw [if_pos q,if_pos (by omega)]
  ·rw [if_neg q,if_neg (by omega)]
theorem Part.fill {xs:Lq} {b:Int} (h:Part xs d b 256 ys):IsFill xs d b ys:=by
 refine ⟨h.1,fun j hj=>?_⟩;rw [h.2 j hj]
 by_cases q:j<d
 ·rw [if_pos q,if_neg (by omega)]
 ·rw [if_neg q,if_pos (by omega)]
theorem Zts (xs:Lq) (d:Nat) (b:Int) (w:World) (hx:Key xs) (hd:d≤256) (hb:b=0∨b=1):Kc 137 #[.agg (B xs),.int .i64 d,.int .i64 b] w (KeyPost (IsFill xs d b) 0 w):=by
 have t0:decide ((d:Int)<0)=false:=decide_eq_false (by omega);have t1:decide ((256:Int)<(d:Int))=false:=decide_eq_false (by omega);have HX:=Za hx;have HBB:=Za hb;clear hx hb;go_enter Tryz.func137,Tryz.ntmps137
 go_wp2_with (first | (refine Zc _ rfl _ _ rfl _ rfl ?_;intro w1 g1 hg1 hl1 B1 b1) | (refine Zf _ rfl _ rfl _ Zbq ?_;intro w2 g2 hg2 hl2 B2 b2;have B1':=B1.grow b2))
 have c2:=Zb b1 b2;have hg3:w.heap.size≤g2:=Nat.le_trans b1.size hg2;have hne:g2≠g1:=by omega
 have HB1:=Za B1';have HB2:=Za B2;have HS:=Za (Part.start HX.out d b);clear B1 B1' B2 b1 b2 hl1 hl2 hg2
 go_loopw [8] (fun s wr=>∃(k:Nat) (ys:Lq),d≤k∧k≤256∧s=.int .i64 k∧Hid (Part xs d b k ys)∧Hid (Blk wr g1 33 (B ys))∧Hid (Blk wr g2 33 (B (List.replicate 32 0)))∧Hid (Kb w wr)) (fun s _=>256-(intOf s).toNat)
 case atStart=>exact ⟨d,xs,by omega,hd,rfl,HS,HB1,HB2,c2⟩
 case round=>
  clear HB1 HB2 c2 HS;obtain ⟨k,ys,hk1,hk2,rfl,hF,hB,hC,hb⟩:=hrel;have hs:=Zik hF.out.1
  by_cases hk:k<256
  ·have hk':(k:Int)<256:=by omega
   go_wp2_with (first | (refine Zd _ rfl _ _ rfl g1 _ rfl hB.out _ _ Zke hs ?_) | (go_at_call 183;refine (Yfo ys k b _ hF.out.1 hk HBB.out).mono ?_;rintro e w4 ⟨zs,hzs,rfl,b4⟩;have hs2:=Zik hzs.1;have HZ:Hid ((B zs).size=(B ys).size):=(by rw [Zj,Zj,hzs.1.1,hF.out.1.1];rfl);have HY:=Za (hF.out.step hzs hk1);clear hzs;have B4:=hB.out.grow b4) | (refine Zg _ rfl _ _ _ rfl g1 _ (B zs) rfl rfl B4 hs2 (by rw [HZ.out]) (Zay _) ?_;intro w5 B6 g5))
   exact ⟨⟨k+1,zs,by omega,by omega,by go_num,HY,B6,(hC.out.grow b4).kept g5 hne,Ze (Zb hb.out b4) g5 hg1⟩,by simp [intOf];omega⟩
  ·obtain rfl:k=256:=by omega
   have HZ:Hid ((B ys).size=32):=by rw [Zj];exact hF.out.1.1
   go_wp2_with (first | (refine Zd _ rfl _ _ rfl g1 _ rfl hB.out _ _ Zke hs ?_) | (refine Zg _ rfl _ _ _ rfl g2 _ (B ys) rfl rfl hC.out hs (by rw [HZ.out,Zj];simp) (Zay _) ?_;intro w5 B6 g5))
   exact bodyPost_ret (v:=.tuple #[.agg (B ys),.int .i64 0]) (Zbo rfl _ _ g2 _ _ _ _ rfl rfl B6 Zke hs) rfl ⟨_,hF.out.fill,rfl,Ze hb.out g5 hg3⟩
theorem Zln {ops:Array Oper} {op:Oper} {a:Act} {K:Act→World→Prop} {Q:Exit→Act→World→Prop} {E:Prop} (w:World) (hgd:op.guard=none) (ty:TypeId) (ho:op.op=.alloc ty) (cs:Array Value)
  (hz:∀w,(zeroValue ty).run Tryz.prog w=.ok (.agg cs) w)
  (hk:∀w' g,w.heap.size≤g→Blk w' g ty cs→Kb w w'→K (a.put op.dst (.pointer (some ⟨g,0,none⟩))) w'):if Region.wanted op (yielded ops a.tmps)=true then Oper.wp Tryz.prog op a w K Q else E:=by
 have hw:Region.wanted op (yielded ops a.tmps)=true:=by simp [Region.wanted,hgd]
 rw [if_pos hw];unfold Oper.wp execOp;simp [ho,hz,Instr.alloc,newVar,Value.cells,newRow];exact hk _ w.heap.size (Nat.le_refl _) (Blk.new w ty cs) (Zh w _)
theorem Ylg (h:Rs w g vp vf room ss fr) (R:Rel7 cs [] [] ss) (W:Wf cs []) (h6:cs.length≤5000) {n:Nat} {T:Tre} (hT:IsT cs n T):∀w',Kb w w'→Kc 76 #[.pointer (some ⟨g,0,none⟩),.int .i64 (n:Int)] w' fun e w''=>∃a c V,e=.returned (.slice a T.ents.length c)∧PrAt w'' (.slice a T.ents.length c) V T.ents∧Below w'.heap.size w' w'':=fun w' hb=>by
 have hfew:=Zfm W hT h6;refine (Zdc h T n w' hb (hT.s R) (by omega)).mono ?_;rintro e w'' ⟨v,its,e1,m1,p1,o1,b⟩;obtain ⟨a,c,rfl⟩:=Zo (Zap o1);have:=Zih o1 (fun p hp=>(p1 p hp).1) (fun p hp=>(p1 p hp).2.grow (Zb hb b));rw [m1] at this;have hl:its.length=T.ents.length:=by rw [← m1,List.length_map]
 rw [hl] at this e1;exact ⟨a,c,_,e1,this,b⟩
theorem Yiv (h:Rs w g vp vf room ss fr) (R:Rel7 cs [] [] ss) (W:Wf cs []) (h6:cs.length≤5000) (q:Int):Kc 95 #[.pointer (some ⟨g,0,none⟩),.int .i64 q] w fun e w'=>e=.returned (.agg (B (cat cs q).key))∧Kb w w':=by
 have hS:=Zbv R W q;have HSZ:Hid ((B (cat cs q).key).size=32):=by rw [Zj];exact (W.catOk q).hk.1
 rcases Zlj W q with ⟨k0,ez⟩ | ⟨n,T,rfl,n1,n2,hT,hce,hk⟩
 ·have HE:Hid (Kr w 76 #[.pointer (some ⟨g,0,none⟩),.int .i64 q] (.slice none 0 0)):=fun w' hb=>Zhe (h.grow hb) q (by rw [hS.kind];exact k0)
  have HBU:Hid (Tryz.prog.built 34 []=some (B (cat cs q).key)):=by show _=_;rw [ez];kernel_rfl
  generalize (cat cs q).key=K at HSZ HBU ⊢;clear h R W hS k0 ez;go_enter Tryz.func95,Tryz.ntmps95
  go_wp2_with (first
   |((with_reducible refine Zw 4 ?_);refine Zf _ rfl _ rfl _ Zca ?_;intro w1 b4 hg4 hl4 B4 b1;have HB4:=Za B4;have Hg4:=Za hg4;have Hb1:=Za b1;clear B4 hg4 hl4 b1)
   |(go_at_call 76;refine (HE.out _ Hb1.out).mono ?_;rintro e w2 ⟨rfl,b2⟩;have HB4b:=Za (HB4.out.grow b2);have Hb2:=Za (Zb Hb1.out b2);clear b2)
   |((with_reducible refine Zzz ?_);refine Zar _ rfl _ _ rfl _ (by rw [List.map_toArray];exact HBU.out) ?_)
   |((with_reducible refine Zah 4 ?_);refine Zg _ rfl _ _ _ rfl b4 _ (B K) rfl rfl HB4b.out (by rw [HSZ.out];exact Zi) (by rw [HSZ.out,Zj];simp) (Zay _) ?_;intro w3 B5 g3))
  exact bodyPost_ret (v:=.agg (B K)) (results_cell_row rfl _ _ b4 _ _ _ _ rfl B5 Tryz.underlying34 rfl (by rw [HSZ.out];exact Zi)) rfl ⟨rfl,Ze Hb2.out g3 Hg4.out⟩
 ·have ok:=Zbe W T n hT;have HE:=Za (Ylg h R W h6 hT);have HA:Hid (Kr w 107 #[.pointer (some ⟨g,0,none⟩),.int .i64 (n:Int)] (.agg (sz7 (sat ss (n:Int))).toArray)):=fun w' hb=>Zbc (h.grow hb) (n:Int)
  have ho:=Zcf h (n:Int);have hfk:=Zql ho;have hfd:=Yln ho;rw [hS.kind] at hfk;rw [hS.d] at hfd;have hpos:0<T.ents.length:=List.length_pos_iff.2 (ok.pos (by omega));have hes:sdC cs n=ce cs (n-1):=if_neg (by omega);have hm:T.ents.getD 0 e00∈T.ents:=by
   rw [show T.ents.getD 0 e00=T.ents[0] by simp [List.getD,hpos]];exact List.getElem_mem hpos
  have hK0:=(ok.ent _ hm).1;have HP0:Hid (∀w' a c V,PrAt w' (.slice a T.ents.length c) V T.ents→∃ge off,a=some ⟨ge,off,none⟩∧w'.rangeAt ge off (B (T.ents.getD 0 e00).1).toList):=fun w' a c V hp=>by
   obtain ⟨a',c',e,_,h2,_⟩:=hp;obtain ⟨ge,off,ea,hr⟩:=h2 hpos;injection e with e1;refine ⟨ge,off,by rw [e1,ea],?_⟩;have:=Zix (hr 0 hpos);rwa [Nat.zero_mul,Nat.add_zero] at this
  have hfew:T.ents.length≤5000:=Zfm W hT h6;have hsh:=fun d hd=>ok.share d (by omega) hd _ hm
  have hcK:Key (cat cs (n:Int)).key:=(W.catOk (n:Int)).hk;have HPL:Hid ((Tryz.prog.info? 34).map (·.size)=some (B (T.ents.getD 0 e00).1).toList.length):=by show _=_;rw [Zas,List.length_map,hK0.1];exact Zfq
  have hkk:(sdC cs n).key=(cat cs (n:Int)).key:=by rw [hes,hce]
  have hif:(cat cs (n:Int)).kind=2→(cat cs (n:Int)).dp<256∧∀j,j<256→ ¬j<(cat cs (n:Int)).dp→kb (cat cs (n:Int)).key j=0:=fun k2=>by
   rw [hce] at k2 ⊢;rcases W.tr (n-1) n2 with hl | hi
   ·have:=hl.kind;omega
   ·exact ⟨hi.dp,fun j hj hd=>by rw [hi.key.2 j hj,if_neg hd]⟩
  rw [hkk] at hsh;rw [← hce] at hsh;generalize (T.ents.getD 0 e00).1=K0 at HP0 hK0 hsh HPL;generalize (cat cs (n:Int)).key=K at HSZ hcK hsh hif ⊢;generalize (cat cs (n:Int)).dp=dd at hif hfd hsh;generalize (cat cs (n:Int)).kind=kk at hk hif hfk hsh;generalize (n:Int)=y at HE HA hfk hfd ⊢;generalize sz7 (sat ss y)=X at HA hfk hfd;generalize T.ents=es at HE HP0 hpos hfew;generalize es.length=m at HE HP0 hpos hfew;have z1:(0:Int)<(m:Int):=by omega
  have z2:((m:Int) == 0)=false:=by simp;omega
  rcases hk with rfl | rfl
  ·have hK1:K0=K:=Zji hK0 hcK (fun j hj=>hsh 256 (fun e=>by omega) j hj);subst hK1;clear h R W hS ok n1 n2 hT hce hes hm hsh hkk hif hfew hfd ho;go_enter Tryz.func95,Tryz.ntmps95
   go_wp2_with (first
    |((with_reducible refine Zw 4 ?_);refine Zf _ rfl _ rfl _ Zca ?_;intro w1 b4 hg4 hl4 B4 b1;have HB4:=Za B4;have Hg4:=Za hg4;have Hb1:=Za b1;clear B4 hg4 hl4 b1)
    |(go_at_call 76;refine (HE.out _ Hb1.out).mono ?_;rintro e w2 ⟨ea,ec,eV,rfl,p2,b2⟩;obtain ⟨ge,off,rfl,hr0⟩:=HP0.out _ _ _ _ p2;have HB4b:=Za (HB4.out.grow b2);have Hb2:=Za (Zb Hb1.out b2);have HR2:=Za hr0;clear b2 p2 hr0)
    |(go_at_call 107;refine (HA.out _ Hb2.out).mono ?_;rintro e w3 ⟨rfl,b3⟩;have HB4c:=Za (HB4b.out.grow b3);have Hb3:=Za (Zb Hb2.out b3);have HR3:=Za (Zdl HR2.out b3);clear b3)
    |((with_reducible refine Zk 23 22 ?_);refine Zgy _ rfl _ rfl ge off K0 rfl HR3.out hK0.1 ?_)
    |((with_reducible refine Zah 4 ?_);refine Zg _ rfl _ _ _ rfl b4 _ (B K0) rfl rfl HB4c.out (by rw [HSZ.out];exact Zi) (by rw [HSZ.out,Zj];simp) (Zay _) ?_;intro w5 B5 g3))
   exact bodyPost_ret (v:=.agg (B K0)) (results_cell_row rfl _ _ b4 _ _ _ _ rfl B5 Tryz.underlying34 rfl (by rw [HSZ.out];exact Zi)) rfl ⟨rfl,Ze Hb3.out g3 Hg4.out⟩
  ·obtain ⟨hd2,hz2⟩:=hif rfl;have hF:IsFill K0 dd 0 K:=⟨hcK,fun j hj=>by
    by_cases hjd:j<dd
    ·rw [if_pos hjd];exact (hsh dd (fun _=>Nat.le_refl _) j hjd).symm
    ·rw [if_neg hjd];exact hz2 j hj hjd⟩
   have HF:Hid (∀w',Kc 137 #[.agg (B K0),.int .i64 (dd:Int),.int .i64 0] w' fun e w''=>e=.returned (.tuple #[.agg (B K),.int .i64 0])∧Below w'.heap.size w' w''):=fun w'=>by
    refine (Zts K0 dd 0 w' hK0 (by omega) (.inl rfl)).mono ?_;rintro e w'' ⟨ys,f1,rfl,b⟩;rw [f1.one hF];exact ⟨rfl,b⟩
   clear h R W hS ok n1 n2 hT hce hes hm hsh hkk hif hfew ho hcK hF hz2 hd2;go_enter Tryz.func95,Tryz.ntmps95
   go_wp2_with (first
    |((with_reducible refine Zw 4 ?_);refine Zf _ rfl _ rfl _ Zca ?_;intro w1 b4 hg4 hl4 B4 b1;have HB4:=Za B4;have Hg4:=Za hg4;have Hb1:=Za b1;clear B4 hg4 hl4 b1)
    |(go_at_call 76;refine (HE.out _ Hb1.out).mono ?_;rintro e w2 ⟨ea,ec,eV,rfl,p2,b2⟩;obtain ⟨ge,off,rfl,hr0⟩:=HP0.out _ _ _ _ p2;have HB4b:=Za (HB4.out.grow b2);have Hb2:=Za (Zb Hb1.out b2);have HR2:=Za hr0;clear b2 p2 hr0)
    |(go_at_call 107;refine (HA.out _ Hb2.out).mono ?_;rintro e w3 ⟨rfl,b3⟩;have HB4c:=Za (HB4b.out.grow b3);have Hb3:=Za (Zb Hb2.out b3);have HR3:=Za (Zdl HR2.out b3);clear b3))
   have HR0:Hid (∀w',Kb w3 w'→w'.rangeAt ge off (B K0).toList):=fun w' hb=>Zdl HR3.out hb
   refine wp_region_held_drew (S:=fun w'=>Kb w3 w') (by kernel_rfl) (below_drewN (Below.refl _ _) 1) (fun hHeld=>?_);refine tkp 0 (.slice (some ⟨ge,off,none⟩) m ec) hHeld ?_;simp only [zq];refine tkp 1 (.pointer (some ⟨ge,off,none⟩)) hHeld ?_;simp only [zq];refine tkp 2 (.pointer (some ⟨ge,off,none⟩)) hHeld ?_;simp only [zq];refine tkg 3 (.agg (B K0)) rfl (yieldsIf_load_mid rfl 34 (.tmp 27) rfl ge off rfl (B K0).toList _ (fun w hS=>HR0.out _ hS) Tryz.underlying34 rfl HPL.out) hHeld ?_;simp only [zq];refine tkp 4 (.pointer (some ⟨g,0,none⟩)) hHeld ?_;simp only [zq];refine tkp 5 (.int .i64 y) hHeld ?_;simp only [zq];refine wpAnyH_ready (rs:=[6,12]) (by kernel_rfl) (by simp) ?_;refine AllReadyH.cons rfl (fun KQ hK=>?_) (AllReadyH.cons rfl (fun KQ hK=>?_) AllReadyH.nil)
   ·go_simp;refine (HA.out _ (Zb Hb3.out hHeld)).mono ?_;rintro e z1 ⟨rfl,a1⟩;refine hK.out _ _ (Zb hHeld a1) (fun hHeld=>?_);clear hK KQ;refine tkp 7 (.int .i64 (dd:Int)) hHeld ?_;simp only [zq];refine wpAnyH_ready (rs:=[8,12]) (by kernel_rfl) (by simp) ?_;refine AllReadyH.cons rfl (fun KQ hK=>?_) (AllReadyH.cons rfl (fun KQ hK=>?_) AllReadyH.nil)
    ·go_simp;refine (HF.out _).mono ?_;rintro e z2 ⟨rfl,a2⟩;refine hK.out _ _ (Zb hHeld a2) (fun hHeld=>?_);clear hK KQ;refine tkp 9 (.tuple #[.agg (B K),.int .i64 0]) hHeld ?_;simp only [zq];refine tkp 10 (.agg (B K)) hHeld ?_;simp only [zq];refine tkp 11 (.int .i64 0) hHeld ?_;simp only [zq];refine wpAnyH_ready (rs:=[12]) (by kernel_rfl) (by simp) ?_;refine AllReadyH.cons rfl (fun KQ hK=>?_) AllReadyH.nil;refine Zln _ rfl _ rfl _ Zbq ?_;intro z3 b6 hg6 B6 a3;have HB6:=Za B6;have HG6:Hid (w3.heap.size≤b6):=Nat.le_trans hHeld.size hg6;refine hK.out _ _ (Zb hHeld a3) (fun hHeld=>?_);clear hK KQ;clear B6 hg6;refine wpAnyH_ready (rs:=[13]) (by kernel_rfl) (by simp) ?_;refine AllReadyH.cons rfl (fun KQ hK=>?_) AllReadyH.nil;refine Zbr _ rfl _ _ _ rfl b6 _ (B K) rfl rfl HB6.out (by rw [HSZ.out];exact Zaa) (by rw [HSZ.out,Zj];simp) (Zay _) ?_;intro z4 B7 r7;have HB7:=Za B7;have HQ4:Hid (Kb w3 z4):=Ze hHeld r7 HG6.out;refine hK.out _ _ (HQ4.out) (fun hHeld=>?_);clear hK KQ;clear B7 r7;refine tkp 14 (.int .i64 0) hHeld ?_;simp only [zq];refine wpAnyH_done (by kernel_rfl) ?_ _;have HB4z:=Za (HB4c.out.grow HQ4.out);have hne:b4≠b6:=by have:=HB4c.out.lt;have:=HG6.out;omega
     have HBw:=Za (Zb Hb3.out HQ4.out);clear hHeld
     go_wp2_with (first
      |((with_reducible refine Zk 36 6 ?_);refine Zd _ rfl _ _ rfl b6 (B K) rfl HB7.out _ _ Tryz.underlying33 (by rw [HSZ.out];exact Zaa) ?_)
      |((with_reducible refine Zah 4 ?_);refine Zg _ rfl _ _ _ rfl b4 _ (B K) rfl rfl HB4z.out (by rw [HSZ.out];exact Zi) (by rw [HSZ.out,Zj];simp) (Zay _) ?_;intro w5 B5 g3))
     exact bodyPost_ret (v:=.agg (B K)) (results_cell_row rfl _ _ b4 _ _ _ _ rfl B5 Tryz.underlying34 rfl (by rw [HSZ.out];exact Zi)) rfl ⟨rfl,Ze HBw.out g3 Hg4.out⟩
    ·refine Zln _ rfl _ rfl _ Zbq ?_;intro z3 b6 hg6 B6 a3;have HB6a:=Za B6;have HG6:Hid (w3.heap.size≤b6):=Nat.le_trans hHeld.size hg6;refine hK.out _ _ (Zb hHeld a3) (fun hHeld=>?_);clear hK KQ;clear B6 hg6;refine wpAnyH_ready (rs:=[8]) (by kernel_rfl) (by simp) ?_;refine AllReadyH.cons rfl (fun KQ hK=>?_) AllReadyH.nil;go_simp;refine (HF.out _).mono ?_;rintro e z2 ⟨rfl,a2⟩;have HB6:=Za (HB6a.out.grow a2);refine hK.out _ _ (Zb hHeld a2) (fun hHeld=>?_);clear hK KQ;refine tkp 9 (.tuple #[.agg (B K),.int .i64 0]) hHeld ?_;simp only [zq];refine tkp 10 (.agg (B K)) hHeld ?_;simp only [zq];refine tkp 11 (.int .i64 0) hHeld ?_;simp only [zq];refine wpAnyH_ready (rs:=[13]) (by kernel_rfl) (by simp) ?_;refine AllReadyH.cons rfl (fun KQ hK=>?_) AllReadyH.nil;refine Zbr _ rfl _ _ _ rfl b6 _ (B K) rfl rfl HB6.out (by rw [HSZ.out];exact Zaa) (by rw [HSZ.out,Zj];simp) (Zay _) ?_;intro z4 B7 r7;have HB7:=Za B7;have HQ4:Hid (Kb w3 z4):=Ze hHeld r7 HG6.out;refine hK.out _ _ (HQ4.out) (fun hHeld=>?_);clear hK KQ;clear B7 r7;refine tkp 14 (.int .i64 0) hHeld ?_;simp only [zq];refine wpAnyH_done (by kernel_rfl) ?_ _;have HB4z:=Za (HB4c.out.grow HQ4.out);have hne:b4≠b6:=by have:=HB4c.out.lt;have:=HG6.out;omega
     have HBw:=Za (Zb Hb3.out HQ4.out);clear hHeld
     go_wp2_with (first
      |((with_reducible refine Zk 36 6 ?_);refine Zd _ rfl _ _ rfl b6 (B K) rfl HB7.out _ _ Tryz.underlying33 (by rw [HSZ.out];exact Zaa) ?_)
      |((with_reducible refine Zah 4 ?_);refine Zg _ rfl _ _ _ rfl b4 _ (B K) rfl rfl HB4z.out (by rw [HSZ.out];exact Zi) (by rw [HSZ.out,Zj];simp) (Zay _) ?_;intro w5 B5 g3))
     exact bodyPost_ret (v:=.agg (B K)) (results_cell_row rfl _ _ b4 _ _ _ _ rfl B5 Tryz.underlying34 rfl (by rw [HSZ.out];exact Zi)) rfl ⟨rfl,Ze HBw.out g3 Hg4.out⟩
   ·refine Zln _ rfl _ rfl _ Zbq ?_;intro z3 b6 hg6 B6 a3;have HB6a:=Za B6;have HG6:Hid (w3.heap.size≤b6):=Nat.le_trans hHeld.size hg6;refine hK.out _ _ (Zb hHeld a3) (fun hHeld=>?_);clear hK KQ;clear B6 hg6;refine wpAnyH_ready (rs:=[6]) (by kernel_rfl) (by simp) ?_;refine AllReadyH.cons rfl (fun KQ hK=>?_) AllReadyH.nil;go_simp;refine (HA.out _ (Zb Hb3.out hHeld)).mono ?_;rintro e z1 ⟨rfl,a1⟩;have HB6b:=Za (HB6a.out.grow a1);refine hK.out _ _ (Zb hHeld a1) (fun hHeld=>?_);clear hK KQ;refine tkp 7 (.int .i64 (dd:Int)) hHeld ?_;simp only [zq];refine wpAnyH_ready (rs:=[8]) (by kernel_rfl) (by simp) ?_;refine AllReadyH.cons rfl (fun KQ hK=>?_) AllReadyH.nil;go_simp;refine (HF.out _).mono ?_;rintro e z2 ⟨rfl,a2⟩;have HB6:=Za (HB6b.out.grow a2);refine hK.out _ _ (Zb hHeld a2) (fun hHeld=>?_);clear hK KQ;refine tkp 9 (.tuple #[.agg (B K),.int .i64 0]) hHeld ?_;simp only [zq];refine tkp 10 (.agg (B K)) hHeld ?_;simp only [zq];refine tkp 11 (.int .i64 0) hHeld ?_;simp only [zq];refine wpAnyH_ready (rs:=[13]) (by kernel_rfl) (by simp) ?_;refine AllReadyH.cons rfl (fun KQ hK=>?_) AllReadyH.nil;refine Zbr _ rfl _ _ _ rfl b6 _ (B K) rfl rfl HB6.out (by rw [HSZ.out];exact Zaa) (by rw [HSZ.out,Zj];simp) (Zay _) ?_;intro z4 B7 r7;have HB7:=Za B7;have HQ4:Hid (Kb w3 z4):=Ze hHeld r7 HG6.out;refine hK.out _ _ (HQ4.out) (fun hHeld=>?_);clear hK KQ;clear B7 r7;refine tkp 14 (.int .i64 0) hHeld ?_;simp only [zq];refine wpAnyH_done (by kernel_rfl) ?_ _;have HB4z:=Za (HB4c.out.grow HQ4.out);have hne:b4≠b6:=by have:=HB4c.out.lt;have:=HG6.out;omega
    have HBw:=Za (Zb Hb3.out HQ4.out);clear hHeld
    go_wp2_with (first
     |((with_reducible refine Zk 36 6 ?_);refine Zd _ rfl _ _ rfl b6 (B K) rfl HB7.out _ _ Tryz.underlying33 (by rw [HSZ.out];exact Zaa) ?_)
     |((with_reducible refine Zah 4 ?_);refine Zg _ rfl _ _ _ rfl b4 _ (B K) rfl rfl HB4z.out (by rw [HSZ.out];exact Zi) (by rw [HSZ.out,Zj];simp) (Zay _) ?_;intro w5 B5 g3))
    exact bodyPost_ret (v:=.agg (B K)) (results_cell_row rfl _ _ b4 _ _ _ _ rfl B5 Tryz.underlying34 rfl (by rw [HSZ.out];exact Zi)) rfl ⟨rfl,Ze HBw.out g3 Hg4.out⟩
end Go.Proofs.YtgfdgjkbcdmboaaGreatDoor
