/- A survey in memory: the handles that are reached, how often each is wanted; one more asked for. -/
import Derived.Test.YtlclabbnpjobgaaGreatDoorAp14
import Derived.KernelRfl
namespace Go.Proofs.YtlclabbnpjobgaaGreatDoor
variable {P S fr pend:List Nat}
variable {b bm bv g gs m n room:Nat}
variable {cs:Lz}
variable {slv vf vp:Value}
variable {w w' w1:World}
set_option maxHeartbeats 2000000
set_option maxRecDepth 20000
open Go.RowKit
structure Sv (m:Nat) (w:World) (bv:Nat) (P:List Nat) (slv:Value) (bm n:Nat):Prop where
 blk:Blk w bv 78 #[slv,.map (some bm)]
 lst:w.ownsRow m 3 1 slv (rch P).length (nats (rch P))
 mp:SM w bm n (wnt P)
 le:n≤P.length
 lv:m≤bv
 lm:m≤bm
theorem Sv.grow (h:Sv m w bv P slv bm n) (hb:Kb w w'):Sv m w' bv P slv bm n:=
 ⟨h.blk.grow hb,Zl h.lst hb,h.mp.grow hb,h.le,h.lv,h.lm⟩
theorem Sv.cells (h:Sv m w bv P slv bm n):w.cell? ⟨bv,0,none⟩=some slv∧w.cell? ⟨bv,1,none⟩=some (.map (some bm)):=by
 rw [h.blk.cell,h.blk.cell];exact ⟨rfl,rfl⟩
theorem Sv.mne (h:Sv m w bv P slv bm n):bm≠bv:=h.mp.notCells h.blk
theorem Sv.lne (h:Sv m w bv P slv bm n):slv.ownBlock≠some bv:=Zm (Zu h.lst) h.blk (by decide)
theorem SM.mod {f:Int→Nat} (h:SM w b n f) (md:Mod S w w') (hn:b ∉ S):SM w' b n f:=by
 obtain ⟨D,⟨es,clock,k1,k2⟩,h3⟩:=h;exact ⟨D,⟨es,clock,(md.block b (Array.getElem?_eq_some_iff.1 k1).1 hn).trans k1,k2⟩,h3⟩
theorem Sv.snoc {w4:World} {slv':Value} (h:Sv m w bv P slv bm n) (hb:Kb w w1) (hg:w1.grownBy w4 slv.ownBlock) (x:Nat) (h0:x≠0) (hx:x ∉ rch P) (ho:w4.ownsRow m 3 1 slv' ((rch P).length+1) (nats (rch P)++[Value.int .i64 (x:Int)])):Blk (w4.setCell ⟨bv,0,none⟩ slv') bv 78 #[slv',.map (some bm)]∧(w4.setCell ⟨bv,0,none⟩ slv').ownsRow m 3 1 slv' (rch (P++[x])).length (nats (rch (P++[x])))∧SM (w4.setCell ⟨bv,0,none⟩ slv') bm n (wnt P)∧Below m w (w4.setCell ⟨bv,0,none⟩ slv')∧w4.cell? ⟨bv,0,none⟩=some slv∧w4.frozen? ⟨bv,0,none⟩=false:=by
 have h1:=h.grow hb;have md:Mod slv.ownBlock.toList w1 w4:=Mod.of_grown hg (fun k hk=>by simp [hk]);have hn:bv ∉ slv.ownBlock.toList:=fun q=>h.lne (by simpa using q)
 have B4:Blk w4 bv 78 #[slv,.map (some bm)]:=h1.blk.mod md hn;have hmm:bm ∉ slv.ownBlock.toList:=fun q=>by
  obtain ⟨_,_,_,b,_⟩:=Zdq (Zu h1.lst) bm (by simpa using q);exact h1.mp.notCells b rfl
 have M4:=h1.mp.mod md hmm;have m5:Mod [bv] w4 (w4.setCell ⟨bv,0,none⟩ slv'):=Mod.setCell _ _ _ _ (by simp);have er:rch (P++[x])=rch P++[x]:=by rw [Zkg,if_neg (fun q=>q.elim h0 hx)]
 have ln:=Zm (Zu ho) B4 (by decide);refine ⟨?_,?_,M4.mod m5 (by simpa using h.mne),?_,by rw [B4.cell];rfl,B4.frozen 0⟩
 ·have:=B4.set 0 slv';simpa using this
 ·rw [er,List.length_append,List.length_singleton,nats,List.map_append];exact Zck ho m5 (fun g hg e=>ln (by have e':g=bv:=(by simpa using e);rw [← e'];exact hg))
 ·have hm:m≤w.heap.size:=Nat.le_of_lt (Nat.lt_of_le_of_lt h.lv h.blk.lt);have b1:Below m w w1:=hb.mono hm;have b2:Below m w1 w4:=md.below (fun k hk=>by
   have:=(h1.lst.lt k (by simpa using hk)).1;exact this) (Nat.le_trans hm hb.size)
  have b3:Below m w4 (w4.setCell ⟨bv,0,none⟩ slv'):=m5.below (fun k hk=>by simp at hk;rw [hk];exact h.lv) (Nat.le_trans hm (Nat.le_trans hb.size hg.size));exact (b1.trans b2).trans b3
theorem Zjs (h:Sv m w bv P slv bm n) (x:Nat) (hx:x≤1073741824) (hP:P.length≤1073741000):Kc 63 #[.pointer (some ⟨bv,0,none⟩),.int .i64 (x:Int)] w fun e w'=>e=.returned (.tuple #[])∧(∃slv' n',Sv m w' bv (P++[x]) slv' bm n')∧Below m w w':=by
 have hm:m≤w.heap.size:=Nat.le_of_lt (Nat.lt_of_le_of_lt h.lv h.blk.lt)
 by_cases h0:x=0
 ·have HF:Hid (∃slv' n',Sv m w bv (P++[x]) slv' bm n'):=by
   rw [h0];exact ⟨slv,n,h.blk,by rw [Zut];exact h.lst,by rw [Zsl];exact h.mp,by rw [List.length_append];have:=h.le;omega,h.lv,h.lm⟩
  have x0:(x:Int)=0:=by omega
  generalize (x:Int)=y at x0 ⊢;clear h;subst x0;go_enter Tryz.func63,Tryz.ntmps63
  go_wp2_with fail
  refine bodyPost_ret (results_none rfl _ _ _) rfl ?_;exact ⟨rfl,HF.out,Below.refl _ _⟩
 ·have hwl:=Yfx P (x:Int);have hn:n≤1073741824:=by have:=h.le;omega
  have H:=Za h;have HP:=Za hP;have hl:=h.mp.look (Zdy x (by omega));obtain ⟨c0,c1⟩:=h.cells;have x0: ¬(x:Int)=0:=by omega
  have hlen:(rch P).length≤P.length:=by
   have e:∀(P l:List Nat),(P.foldl stp12 l).length≤l.length+P.length:=fun P=>by
    induction P with
    | nil=>intro l;simp
    | cons a P ih=>
     intro l;have:=ih (stp12 l a);have q:(stp12 l a).length≤l.length+1:=by
      unfold stp12;split
      ·omega
      ·simp
     simp only [List.foldl_cons,List.length_cons];omega
   have:=e P [];simpa [rch] using this
  by_cases hw:wnt P (x:Int)=0
  ·have hnx:=(Zga P x h0).1 hw;have HO:=Za (Zl h.lst (Zc w (.cells #[.int .i64 (x:Int)] 3)));have HS:Hid (∀v4 w4,w4.ownsRow m 3 1 v4 ((rch P).length+1) (nats (rch P)++[Value.int .i64 (x:Int)])→(w.alloc (.cells #[.int .i64 (x:Int)] 3)).grownBy w4 slv.ownBlock→∃w6,(Instr.mapUpdate 76 (.map (some bm)) (.int .i64 (x:Int)) (.int .i64 (1:Int))).run Tryz.prog (w4.setCell ⟨bv,0,none⟩ v4)=.ok () w6∧(∃slv' n',Sv m w6 bv (P++[x]) slv' bm n')∧Below m w w6∧w4.cell? ⟨bv,0,none⟩=some slv∧w4.frozen? ⟨bv,0,none⟩=false∧(w4.setCell ⟨bv,0,none⟩ v4).cell? ⟨bv,1,none⟩=some (.map (some bm))∧(Instr.lookup 76 (.map (some bm)) (.int .i64 (x:Int)) false).run Tryz.prog (w4.setCell ⟨bv,0,none⟩ v4)=.ok (.int .i64 (0:Int)) (w4.setCell ⟨bv,0,none⟩ v4)):=fun v4 w4 o4 g4=>by
    obtain ⟨B,O,M,Q,f1,f2⟩:=H.out.snoc (Zc w _) g4 x h0 hnx o4;obtain ⟨w6,r6,m6,g6⟩:=M.put (x:Int) 1 (Zdy x (by omega)) (by omega) hn;have ef:(fun y=>if y=(x:Int) then 1 else wnt P y)=wnt (P++[x]):=by
     have:=Zoq P x h0;rw [hw] at this;exact this
    rw [ef] at m6;have md:Mod [bm] (w4.setCell ⟨bv,0,none⟩ v4) w6:=Mod.of_some g6 (by simp);have l6:=M.look (Zdy x (by omega));rw [hw] at l6;refine ⟨w6,r6,⟨v4,n+1,B.mod md (by simpa using fun e=>H.out.mne e.symm),Zck O md (fun g hg e=>?_),m6,by rw [List.length_append];have:=H.out.le;simp;omega,H.out.lv,H.out.lm⟩,Q.trans (md.below (fun k hk=>by simp at hk;rw [hk];exact H.out.lm) (Nat.le_trans hm Q.size)),f1,f2,?_,l6⟩
    ·obtain ⟨_,_,_,b,_⟩:=Zdq (Zu O) g hg;have e':g=bm:=by simpa using e
     exact M.notCells b e'.symm
    ·rw [B.cell];rfl
   rw [hw] at hl;have HL:Hid ((rch P).length≤1073741000):=Nat.le_trans hlen hP;have HM:=Za hm;generalize hyy:(x:Int)=y at *;generalize (rch P).length=q at *;clear hx hP h hwl hn hw hlen hnx h0 H HP hm;go_enter Tryz.func63,Tryz.ntmps63
   go_wp2_with (first
    |(at_builtin;refine Zai _ rfl _ _ _ rfl m 3 1 8 Tryz.underlying28 Zah (by omega) _ q (nats (rch P)) rfl HO.out w.heap.size [Value.int .i64 y] rfl (Blk.new _ _ _) rfl (by intro u hu;simp at hu;subst hu;rfl) (by have:=HL.out;simp only [maxLen];omega) (by have:=HL.out;omega) (Nat.le_trans HM.out (by simp)) ?_;intro a4 c4 w4 o4 g4;obtain ⟨w6,r6,s6,q6,f1,f2,f3,f4⟩:=HS.out _ _ o4 g4;have HR6:=Za r6;have HS6:=Za s6;have HQ6:=Za q6;clear o4 g4 r6 s6 q6)
    |(at_mapUpdate;refine Zfb rfl _ _ _ 76 rfl (.map (some bm)) (.int .i64 y) (.int .i64 1) rfl rfl (by first | rfl | (go_simp;done)) HR6.out ?_))
   go_end0;exact ⟨rfl,HS6.out,HQ6.out⟩
  ·obtain ⟨w6,r6,m6,g6⟩:=h.mp.put (x:Int) (wnt P (x:Int)+1) (Zdy x (by omega)) (by omega) hn;have hmem:x∈rch P:=Classical.byContradiction fun q=>hw ((Zga P x h0).2 q)
   have HS:Hid ((∃slv' n',Sv m w6 bv (P++[x]) slv' bm n')∧Below m w w6):=by
    rw [Zoq P x h0] at m6;have md:Mod [bm] w w6:=Mod.of_some g6 (by simp);have er:rch (P++[x])=rch P:=by rw [Zkg,if_pos (.inr hmem)]
    refine ⟨⟨slv,n+1,h.blk.mod md (by simpa using fun e=>h.mne e.symm),?_,m6,by rw [List.length_append];have:=h.le;simp;omega,h.lv,h.lm⟩,md.below (fun k hk=>by simp at hk;rw [hk];exact h.lm) hm⟩;rw [er];refine Zck h.lst md (fun g hg e=>?_);obtain ⟨_,_,_,b,_⟩:=Zdq (Zu h.lst) g hg;have e':g=bm:=by simpa using e
    exact h.mp.notCells b e'.symm
   have HR6:=Za r6;have hw1:wrap64 ((wnt P (x:Int):Int)+1)=((wnt P (x:Int)+1:Nat):Int):=by rw [Go.IntWalk.wrap64_in _ (by omega)];rfl
   have hw0: ¬((wnt P (x:Int):Nat):Int)=0:=by omega
   generalize wnt P (x:Int)=f1 at *;generalize hyy:(x:Int)=y at *;clear hx hP h hwl hn hw hlen h0 H HP hm m6 g6 r6 hmem;go_enter Tryz.func63,Tryz.ntmps63
   go_wp2_with (at_mapUpdate;refine Zfb rfl _ _ _ 76 rfl (.map (some bm)) (.int .i64 y) (.int .i64 ((f1+1:Nat):Int)) rfl rfl (by first | rfl | (go_simp;done)) HR6.out ?_)
   go_end0;exact ⟨rfl,HS.out⟩
theorem Stm.c0 (h:Stm w g gs vp vf room cs fr):w.cell? ⟨g,0,none⟩=some (.pointer (some ⟨g,0,none⟩)):=by rw [h.blk.cell];rfl
theorem Stm.c1 (h:Stm w g gs vp vf room cs fr):w.cell? ⟨g,1,none⟩=some (.pointer (some ⟨gs,0,none⟩)):=by rw [h.blk.cell];rfl
def NoS (w:World) (v:Value):Prop:=v=.pointer none∨∃g,v=.pointer (some ⟨g,0,none⟩)∧w.cell? ⟨g,0,none⟩=some (.pointer none)
theorem Zzz (v:Value) (w:World) (h:NoS w v):Kc 30 #[v] w fun e w'=>e=.returned (.bool false)∧w'=w:=by
 have hq:=fun a=>Ybg (P:=Tryz.prog) w a Tryz.underlying32
 rcases h with rfl | ⟨g,rfl,hc⟩
 all_goals
  go_enter Tryz.func30,Tryz.ntmps30
  go_wp2
  go_ret;exact ⟨rfl,rfl⟩
theorem Zax (g:Nat) (w:World) (hc:w.cell? ⟨g,0,none⟩=some (.pointer (some ⟨g,0,none⟩))):Kc 30 #[.pointer (some ⟨g,0,none⟩)] w fun e w'=>e=.returned (.bool true)∧w'=w:=by
 obtain ⟨j,hj⟩:∃j,Tryz.prog.info? 85=some j:=⟨_,rfl⟩;have hq:=fun a=>run_eql_ptr_same (P:=Tryz.prog) w a Tryz.underlying32 hj
 clear hj;go_enter Tryz.func30,Tryz.ntmps30
 go_wp2
 go_ret;exact ⟨rfl,rfl⟩
theorem Znx (s:Stm w g gs vp vf room cs fr) (hw:Wz cs) (h:Int):Kc 135 #[.pointer (some ⟨gs,0,none⟩),.int .i64 h] w fun e w'=>e=.returned (.tuple #[.agg (cz (cat cs h)).toArray,.int .i64 (if cot cs h=0 then 7 else 0)])∧Kb w w':=by
 by_cases hc:cot cs h=0
 ·rw [if_pos hc,hw.cat0 hc];exact Yau gs vp vf room _ fr h w s.sl ((Zoc cs h).2 hc)
 ·obtain ⟨i,h1,h2,h3,h4⟩:=Zel (cs:=cs) (h:=h) (by omega);rw [if_neg hc,h4];exact Yez gs vp vf room _ fr h i (cz (ce cs i)) (Zar (hw.ok i)) w s.sl h1 (by rw [Zae];exact h2) (Zsy cs i (Zaw h2))
theorem Zwv (s:Stm w g gs vp vf room cs fr) (h:Int):Kc 68 #[.pointer (some ⟨gs,0,none⟩),.int .i64 h] w fun e w'=>e=.returned (.int .i64 (cot cs h:Int))∧w'=w:=by
 by_cases hc:cot cs h=0
 ·rw [hc];exact Zry gs vp vf room _ fr h w s.sl ((Zoc cs h).2 hc)
 ·obtain ⟨i,h1,h2,h3,h4⟩:=Zel (cs:=cs) (h:=h) (by omega);rw [h3,← Zae];exact Zwu gs vp vf room _ fr h i w s.sl h1 (by rw [Zae];exact h2)
theorem Yid (s:Stm w g gs vp vf room cs fr) (hw:Wf cs pend) (h:Int):Kc 80 #[.pointer (some ⟨g,0,none⟩),.int .i64 h] w fun e w'=>e=.returned (.agg (cz (cat cs h)).toArray)∧Kb w w':=by
 have HS:Hid (∀w',Kb w w'→Stm w' g gs vp vf room cs fr):=fun w' hb=>s.grow hb
 have HW:=Za hw;have HG:Hid (Kr w 135 #[.pointer (some ⟨gs,0,none⟩),.int .i64 h] (.tuple #[.agg (cz (cat cs h)).toArray,.int .i64 (if cot cs h=0 then 7 else 0)])):=fun w' hb=>Znx (s.grow hb) hw.z h
 have hz:=Zar (hw.catOk h);generalize cz (cat cs h)=z at HG hz ⊢;generalize (if cot cs h=0 then (7:Int) else 0)=q at HG;have HZ:=Za hz;clear s hw hz;go_enter Tryz.func80,Tryz.ntmps80
 go_wp2_with (first
  |((with_reducible refine Zv 4 ?_);refine Zh _ rfl _ rfl _ Zal ?_;intro w1 b4 hg4 hl4 B4 b1;have c0:=(HS.out _ b1).c0;have c1:=(HS.out _ b1).c1;have HB4:=Za B4;have Hg4:=Za hg4;have Hl4:=Za hl4;clear B4 hg4 hl4)
  |(go_at_call 30;refine (Zax g _ c0).mono ?_;rintro e w' ⟨rfl,hx⟩;rw [hx];clear hx w')
  |(go_at_call 135;refine (HG.out _ b1).mono ?_;rintro e w2 ⟨rfl,b2⟩;have B4':=Za (HB4.out.grow b2);have Hb2:=Za b2;clear b2)
  |((with_reducible refine Zv 5 ?_);refine Zh _ rfl _ rfl _ Zal ?_;intro w3 b5 hg5 hl5 B5 b3;have B4'':=Za (B4'.out.grow b3);have Hb3:=Za b3;have HB5:=Za B5;have hne:b4≠b5:=(by have:=Hl4.out;have:=Hb2.out.size;omega);have Hg5:=Za hg5;clear b3 B5 hg5 hl5)
  |((with_reducible refine Zag 5 ?_);refine Zf _ rfl _ _ _ rfl b5 _ z.toArray rfl rfl HB5.out (Zco z HZ.out) (Zkx z HZ.out) (all_oneCell_toArray HZ.out.2) ?_;intro w4 B5' g5;have HB5':=Za B5';have B4n:=Za (B4''.out.kept g5 hne);have Hg:=Za g5;clear B5' g5)
  |((with_reducible refine Zk 20 5 ?_);refine wpList_load_mid rfl _ _ rfl b5 0 rfl z _ HB5'.out.range Tryz.underlying88 rfl (Zco z HZ.out) ?_)
  |((with_reducible refine Zag 4 ?_);refine Zf _ rfl _ _ _ rfl b4 _ z.toArray rfl rfl B4n.out (Zco z HZ.out) (Zkx z HZ.out) (all_oneCell_toArray HZ.out.2) ?_;intro w5 B6 g6))
 have hbel:=Ze (Ze (Zb (Zb b1 Hb2.out) Hb3.out) Hg.out (by have:=Hg5.out;have:=Hb2.out.size;have:=b1.size;omega)) g6 Hg4.out;exact bodyPost_ret (v:=.agg z.toArray) (results_cell_row rfl _ _ b4 _ _ _ _ rfl B6 Tryz.underlying88 rfl (Zco z HZ.out)) rfl ⟨rfl,hbel⟩
def NoState (r:Value) (w:World):Prop:=Kc 198 #[r] w fun e w'=>e=.returned (.bool false)∧w'=w
end Go.Proofs.YtlclabbnpjobgaaGreatDoor
