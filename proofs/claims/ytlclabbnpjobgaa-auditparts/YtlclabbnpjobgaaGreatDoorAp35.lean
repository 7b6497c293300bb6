/- The document's store: is no slot free; a node comes into a slot; New, Leaf. -/
import Derived.Test.YtlclabbnpjobgaaGreatDoorAp34
import Derived.Deep.CutRange
namespace Go.Proofs.YtlclabbnpjobgaaGreatDoor
variable {K:Lq}
variable {cs:Lz}
variable {fr p:List Nat}
variable {g i room x:Nat}
variable {ss:List Sp}
variable {vf vp vp':Value}
variable {w w' w0 w1 w2:World}
set_option maxHeartbeats 4000000
set_option maxRecDepth 20000
open Go.RowKit
theorem Zni (h:Rs w g vp vf room ss fr) (hf:fr≠[]):Kc 171 #[.pointer (some ⟨g,0,none⟩)] w fun e w'=>e=.returned (.bool false)∧Kb w w':=by
 have c3:=h.c3;obtain ⟨fa,fc,rfl⟩:=Zj h.frs;obtain ⟨nf,hnf⟩:∃n,n=fr.length:=⟨_,rfl⟩;rw [← hnf] at c3;have hp:0<nf:=by rw [hnf];exact List.length_pos_iff.2 hf
 have z1: ¬(nf:Int)=0:=by omega
 have z2: ¬nf=0:=by omega
 have c3d:w.drew.cell? ⟨g,3,none⟩=some (.slice fa nf fc):=c3;clear h hf hnf;go_enter Tryz.func171,Tryz.ntmps171
 go_wp2_with fail
 refine wp_region_held_drew (S:=fun w'=>w'.cell? ⟨g,3,none⟩=some (.slice fa nf fc)) (by kernel_rfl) (c3d) (fun hHeld=>?_);refine tkp 0 (.pointer (some ⟨g,0,none⟩)) hHeld ?_;simp only [zq];refine tkp 1 (.pointer (some ⟨g,0,none⟩)) hHeld ?_;simp only [zq];refine tkp 2 (.pointer (some ⟨g,3,none⟩)) hHeld ?_;simp only [zq];refine tkg 3 (.slice fa nf fc) rfl (Or.inl ⟨by rfl,fun w hS=>by (have q1:=hS;go_simp)⟩) hHeld ?_;simp only [zq];refine tkp 4 (.int .i64 nf) hHeld ?_;simp only [zq];refine tkp 5 (.bool false) hHeld ?_;simp only [zq];refine tkp 6 (.bool false) hHeld ?_;simp only [zq];refine tks 7 hHeld ?_;simp only [zq];refine tks 8 hHeld ?_;simp only [zq];refine tks 9 hHeld ?_;simp only [zq];refine tks 10 hHeld ?_;simp only [zq];refine tks 11 hHeld ?_;simp only [zq];refine tks 12 hHeld ?_;simp only [zq];refine tks 13 hHeld ?_;simp only [zq];refine tks 14 hHeld ?_;simp only [zq];refine tks 15 hHeld ?_;simp only [zq];refine tks 16 hHeld ?_;simp only [zq];refine tkp 17 (.bool false) hHeld ?_;simp only [zq];refine tkp 18 (.bool false) hHeld ?_;simp only [zq];refine wpAnyH_done (by kernel_rfl) ?_ _;go_wp2
 go_ret;exact ⟨rfl,below_drewN (Below.refl _ _) 1⟩
theorem Zjc (h:Rs w g vp vf room ss fr) (b:Bool) (hb:b=true↔Full room ss fr):Kc 171 #[.pointer (some ⟨g,0,none⟩)] w fun e w'=>e=.returned (.bool b)∧Kb w w':=by
 by_cases hf:fr=[]
 ·subst hf;refine Znj h b ?_
  by_cases q:room≤ss.length
  ·rw [hb.2 ⟨rfl,q⟩];simp [q]
  ·have: ¬b=true:=fun e=>q (hb.1 e).2
   simp [q,this]
 ·have:b=false:=by
   cases b with
   | false=>rfl
   | true=>exact absurd (hb.1 rfl).1 hf
  subst this;exact Zni h hf
theorem Zpr:∃i z,Tryz.prog.info? 153=some i∧i.zero=some z∧i.size=39∧i.bytes=104∧z.cells.size=39:=by
 refine ⟨_,_,rfl,rfl,?_,?_,?_⟩ <;> kernel_rfl
theorem Zyk {ops:Array Oper} {op:Oper} {a:Act} {K:Act→World→Prop} {Q:Exit→Act→World→Prop} {E:Prop} (w:World) (hgd:op.guard=none) (x:Operand) (ho:op.op=.buildSlice 147 1 #[(0,x)])
  (X:List Value) (hx:a.eval x=.agg X.toArray) (hl:X.length=39)
  (hk:K (a.put op.dst (.slice (some ⟨w.heap.size,0,none⟩) 1 1)) (w.alloc (.cells X.toArray 153))):if Region.wanted op (yielded ops a.tmps)=true then Oper.wp Tryz.prog op a w K Q else E:=by
 have hw:Region.wanted op (yielded ops a.tmps)=true:=by simp [Region.wanted,hgd]
 rw [if_pos hw];obtain ⟨i,z,hi,hz,hs,_,hzs⟩:=Zpr;have hrun:=run_buildSlice (P:=Tryz.prog) w 147 153 1 #[(0,.agg X.toArray)] X.toArray i z Tryz.underlying147 hi hz (by rw [hs];omega) (by rw [hs];omega) (by
  rw [hs];obtain ⟨zs,hzz,hzl⟩:∃zs:List Value,(Array.range (1 * 39)).map (z.cells[· % z.cells.size]!)=zs.toArray∧zs.length=39:=⟨_,(Array.toArray_toList).symm,by simp⟩;rw [hzz];have:=Zcx (fun i=>some (i * 39,39)) 0 0 39 (.agg X.toArray) X zs [] rfl rfl hl (by omega);rw [show (#[(0,Value.agg X.toArray)]:Array (Nat×Value)).toList=[(0,Value.agg X.toArray)] from rfl,this,Instr.fill];simp [hzl])
 unfold Oper.wp execOp;simp only [ho,List.map_toArray,List.map_cons,List.map_nil,hx,Sem.run_bind,hrun,Result.andThen_ok,Sem.run_pure];exact hk
theorem Zld {P:Program} {ops:Array Oper} {o:Oper} {a:Act} {K:Act→World→Prop} {Q:Exit→Act→World→Prop} {E:Prop} (w:World) (hgd:o.guard=none) (s x:Operand) (t:TypeId)
  (ho:o.op=.call { callee:=.builtin .append,args:= #[s,x],argTypes:= #[t,t]})
  (e:TypeId) (size bytes:Nat) (ht:P.underlying t=some (.slice e)) (hin:∃i z,P.info? e=some i∧i.zero=some z∧i.size=size∧i.bytes=bytes∧z.cells.size=size) (hsz:0<size)
  (v:Value) (n:Nat) (xs:List Value) (hs:a.eval s=v) (hown:Lst w e size v n xs)
  (g:Nat) (news:List Value) (hx:a.eval x=.slice (some ⟨g,0,none⟩) 1 1) (hb:Blk w g e news.toArray) (hl:news.length=size) (h1:∀u∈news,u.oneCell'=true)
  (h63:n+1≤maxLen) (hbytes:(n+1) * bytes≤140737488355328)
  (hk:∀v' w',Lst w' e size v' (n+1) (xs++news)→w.grownBy w' v.ownBlock→WhereL w v v'→K (a.put o.dst v') w'):if Region.wanted o (yielded ops a.tmps)=true then Oper.wp P o a w K Q else E:=by
 have hw:Region.wanted o (yielded ops a.tmps)=true:=by simp [Region.wanted,hgd]
 rw [if_pos hw];obtain ⟨i,z,hi,hz,hsize,hby,hzs⟩:=hin;obtain ⟨v',w',hr,h2,h3,h4⟩:=Zoz (P:=P) w t o.type e i z size bytes ht hi hz hsize hby hzs hsz v n xs hown ⟨g,0,none⟩ 1 1 news (by omega) (by
  intro j q hq;rw [Addr.add_lit,Nat.zero_add,hb.cell];simpa using hq) h1 (by omega) h63 hbytes
 unfold Oper.wp execOp;simp only [ho,resolve,invoke,builtin,Sem.run_bind,Sem.run_pure,Result.andThen_ok,List.map_toArray,List.map_cons,List.map_nil,hs,hx,hr];exact hk v' w' h2 h3 h4
theorem Zsi (n:Nat) (h:n≤70000):IntKind.i64.wrap (n:Int)=(n:Int):=by rw [IntKind.wrap_i64];omega
theorem Rs.newP {s':Sp} (h:Rs w g vp vf room ss fr) (hl:Lst w1 153 39 vp' (ss++[s']).length ((ss++[s']).flatMap sz7)) (hg:w.grownBy w1 vp.ownBlock) (hs:w2=w1.setCell ⟨g,2,none⟩ vp') (ok:SpOk s') (hz:s'.kind=0→s'=zs7) (hv:∃sp,Own 0 w s'.val s'.bs sp) (h6:ss.length+1≤65536):Rs w2 g vp' vf room (ss++[s']) fr∧Mod (g::vp.ownBlock.toList) w w2:=by
 have m1:Mod vp.ownBlock.toList w w1:=Mod.of_grown hg (fun k hk=>by simp [hk]);have hS:∀k∈vp.ownBlock.toList,vp.ownBlock=some k:=fun k hk=>by simpa using hk
 have hb1:Blk w1 g 149 #[.bool true,.int .i64 (room:Int),vp,vf]:=h.blk.mod m1 (fun e=>Zm h.sps h.blk Zqv (hS g e));have m2:Mod [g] w1 w2:=by rw [hs];exact Mod.setCell _ _ _ _ (by simp)
 have mm:Mod (g::vp.ownBlock.toList) w w2:=(m1.mono (fun k hk=>List.mem_cons_of_mem _ hk)).trans' (m2.mono (fun k hk=>by simp at hk;subst hk;exact List.mem_cons_self ..));have hne:vp'.ownBlock≠some g:=fun e=>by
  exact Zm hl hb1 Zqv e
 have hvv:∀(v:Value) (zs:Lq),(∃sp,Own 0 w v zs sp)→∃sp,Own 0 w2 v zs sp:=fun v zs ⟨sp,ho⟩=>by
  refine ⟨sp,ho.mod mm (fun k hk e=>?_)⟩;obtain ⟨_,hb2⟩:=ho.blk k hk;rcases List.mem_cons.1 e with rfl | e
  ·exact hb2.ne h.blk Ycw rfl
  ·exact Zm h.sps hb2 Ycx (hS k e)
 refine ⟨⟨?_,Zbd hl m2 (fun k hk e=>?_),Zbd h.frs mm (fun k hk e=>?_),fun s hs'=>?_,fun s hs'=>?_,fun s hs' hk=>?_,by rw [List.length_append,List.length_singleton];exact h6,h.few.2⟩,mm⟩
 ·have:=hb1.set 2 vp';rw [hs];exact this
 ·obtain rfl:k=g:=by simpa using e
  exact hne hk
 ·rcases List.mem_cons.1 e with rfl | e
  ·exact Zm h.frs h.blk Zmx hk
  ·exact Zic h.sps h.frs Zyh k (hS k e) hk
 ·rcases List.mem_append.1 hs' with hs' | hs'
  ·exact hvv _ _ (h.vals s hs')
  ·obtain rfl:s=s':=by simpa using hs'
   exact hvv _ _ hv
 ·rcases List.mem_append.1 hs' with hs' | hs'
  ·exact h.ok s hs'
  ·obtain rfl:s=s':=by simpa using hs'
   exact ok
 ·rcases List.mem_append.1 hs' with hs' | hs'
  ·exact h.zero s hs' hk
  ·obtain rfl:s=s':=by simpa using hs'
   exact hz hk
theorem Rs.popF {bf nf fc:Nat} {fr0:List Nat} (h:Rs w g vp (.slice (some ⟨bf,0,none⟩) (nf+1) fc) room ss (fr0++[x])) (hn:nf=fr0.length):Rs (w.setCell ⟨g,3,none⟩ (.slice (some ⟨bf,0,none⟩) nf fc)) g vp (.slice (some ⟨bf,0,none⟩) nf fc) room ss fr0:=by
 subst hn;have h0:=h.frs;rw [List.length_append,List.length_singleton] at h0;have hl:=Znu (m:=fr0.length) h0 (by omega);rw [Nat.mul_one,Zhy,List.take_left] at hl;exact (h.newF (w1:=w) hl ⟨rfl,rfl,rfl,Nat.le_refl _,fun _ _ _=>rfl⟩ rfl (by have:=h.few.2;rw [List.length_append] at this;omega)).1
def own1 (x:Sp):Sp:={ x with own:=1}
theorem Zki {x:Sp} (h:SpOk x):SpOk (own1 x):=⟨h.hk,h.vs⟩
theorem Zyj (x:Sp) (h:x.key.length=32):(sz7 x).set 37 (.int .i64 1)=sz7 (own1 x):=Zmy x h 1
theorem Zpi {b3:Nat} {x:Sp} (h:Blk w b3 153 (sz7 x).toArray) (hk:x.key.length=32):Blk (w.setCell ⟨b3,37,none⟩ (.int .i64 1)) b3 153 (sz7 (own1 x)).toArray:=by
 have:=h.set 37 (.int .i64 1);rw [← Zyj x hk];simpa using this
theorem Zre (hb:Kb w0 w) (h:Rs w g vp vf room ss []) (x:Sp) (ok:SpOk x) (hk:x.kind≠0) (hv:∃sp,Own 0 w x.val x.bs sp) (hvb:∀k,x.val.ownBlock=some k→w0.heap.size≤k) (h6:ss.length+1≤65536):Kc 172 #[.pointer (some ⟨g,0,none⟩),.agg (sz7 x).toArray] w fun e w'=>e=.returned (.int .i64 ((ss.length+1:Nat):Int))∧RT7 w0 g (rsB g vp vf ss) room (ss++[own1 x]) [] w'∧Mod (rsB g vp vf ss) w w':=by
 obtain ⟨pa,pc,rfl⟩:=Zj h.sps;obtain ⟨fa,fc,rfl⟩:=Zj h.frs;have HR:=Za h;have HV:=Za hv;have HVB:=Za hvb;have HOK:=Za ok;have HK:=Za hk;have HBB:=Za hb;obtain ⟨nn,hnn⟩:∃n,n=ss.length:=⟨_,rfl⟩;have HNN:=Za hnn;have H6:Hid (nn+1≤65536):=by rw [hnn];exact h6
 rw [← hnn] at HR;rw [← hnn];have c37:(sz7 x)[37]?=some (.int .i64 (x.own:Int)):=(Zbq x ok.hk.1).2.2.2.2.2.1;have HC37:=Za c37;have HXN:Hid ((sz7 (own1 x)).length=39):=Zr _ ok.hk.1;have HXL:Hid ((Tryz.prog.info? 153).map (·.size)=some (sz7 (own1 x)).length):=by show _=_;rw [HXN.out];exact Zbk
 have HX1:=Za (Zca (Zki ok));have HFM:Hid ((ss++[own1 x]).flatMap sz7=ss.flatMap sz7++sz7 (own1 x)):=by show _=_;simp
 generalize hX:sz7 (own1 x)=X at HXN HXL HX1 HFM;have HX:=Za hX;generalize hY:sz7 x=Y at HC37;have HY:=Za hY;have hn6:nn≤65536:=by have:=H6.out;omega
 clear h hv hvb ok hk hb hnn h6 c37 hX hY;go_enter Tryz.func172,Tryz.ntmps172
 go_upto_region 2 with (first
  |((with_reducible refine Zo 3 ?_);refine Zd _ rfl _ _ rfl _ rfl ?_;intro w1 b3 hg3 hl3 B3 q3;have HB3:=Za B3;have HG3:=Za hg3;have HQ3:=Za q3;have c37:w1.cell? ⟨b3,37,none⟩=some (.int .i64 (x.own:Int)):=(by rw [B3.cell];simpa using HC37.out);have f37:=B3.frozen 37;clear hg3 hl3 B3 q3))
 have HB3c:Hid (Blk (w1.setCell ⟨b3,37,none⟩ (.int .i64 1)) b3 153 X.toArray):=by
  rw [← HX.out];exact Zpi (by rw [HY.out];exact HB3.out) HOK.out.hk.1
 have gr:=Zao w1 b3 37 (.int .i64 1);have HQ2:Hid (Kb w (w1.setCell ⟨b3,37,none⟩ (.int .i64 1))):=Ze HQ3.out gr HG3.out;generalize w1.setCell ⟨b3,37,none⟩ (.int .i64 1)=w2 at *;have HR2:=Za (HR.out.grow HQ2.out);have HS7:Hid (∀w',Kb w2 w'→w'.cell? ⟨g,2,none⟩=some (.slice pa nn pc)∧w'.frozen? ⟨g,2,none⟩=false∧w'.rangeAt b3 0 X):=fun w' hb=>⟨(HR2.out.grow hb).c2,(HR2.out.grow hb).blk.frozen 2,by have:=(HB3c.out.grow hb).range;simpa using this⟩
 have HNB:Hid (∀k∈rsB g (.slice pa nn pc) (.slice fa 0 fc) ss,k≠b3):=fun k hk e=>by
  have h1:=HR.out.lts k hk;have h2:=HG3.out;omega
 have HS75:Hid (∀w4 w5,Kb w2 w4→w4.grownBy w5 (Value.slice pa nn pc).ownBlock→w5.cell? ⟨g,2,none⟩=some (.slice pa nn pc)∧w5.frozen? ⟨g,2,none⟩=false∧w5.rangeAt b3 0 X):=fun w4 w5 hb hg=>by
  have m1:Mod (Value.slice pa nn pc).ownBlock.toList w4 w5:=Mod.of_grown hg (fun k hk=>by simp [hk]);have hS:∀k∈(Value.slice pa nn pc).ownBlock.toList,(Value.slice pa nn pc).ownBlock=some k:=fun k hk=>by simpa using hk
  have h4:=HR2.out.grow hb;have b1:=h4.blk.mod m1 (fun e=>Zm h4.sps h4.blk Zqv (hS g e));have b2:=(HB3c.out.grow hb).mod m1 (fun e=>HNB.out b3 (Zq.2 (.inr (.inl (hS b3 e)))) rfl);refine ⟨by rw [b1.cell];rfl,b1.frozen 2,by have:=b2.range;simpa using this⟩
 have c3:=HR2.out.c3;have HF:Hid (∀w4 w5 a5 c5,Kb w2 w4→Lst w5 153 39 (.slice a5 (nn+1) c5) (nn+1) (ss.flatMap sz7++X)→w4.grownBy w5 (Value.slice pa nn pc).ownBlock→WhereL w4 (.slice pa nn pc) (.slice a5 (nn+1) c5)→RT7 w0 g (rsB g (.slice pa nn pc) (.slice fa 0 fc) ss) room (ss++[own1 x]) [] (w5.setCell ⟨g,2,none⟩ (.slice a5 (nn+1) c5))∧(w5.setCell ⟨g,2,none⟩ (.slice a5 (nn+1) c5)).cell? ⟨g,2,none⟩=some (.slice a5 (nn+1) c5)∧Mod (rsB g (.slice pa nn pc) (.slice fa 0 fc) ss) w (w5.setCell ⟨g,2,none⟩ (.slice a5 (nn+1) c5))):=fun w4 w5 a5 c5 hb hl hg hw=>by
  have h4:=HR2.out.grow hb;have hbb:=Zb HQ2.out hb;obtain ⟨hr,hm⟩:=h4.newP (s':=own1 x) (w2:=w5.setCell ⟨g,2,none⟩ (.slice a5 (nn+1) c5)) (by rw [HFM.out,List.length_append,List.length_singleton,← HNN.out];exact hl) hg rfl (Zki HOK.out) (fun e=>absurd e HK.out) (by obtain ⟨sp,ho⟩:=HV.out;exact ⟨sp,ho.grow hbb⟩) (by rw [← HNN.out];exact H6.out);have hmm:=hm.mono (S':=rsB g (.slice pa nn pc) (.slice fa 0 fc) ss) (fun k hk=>by
   rcases List.mem_cons.1 hk with rfl | hk
   ·exact Zq.2 (.inl rfl)
   ·exact Zq.2 (.inr (.inl (by simpa using hk))))
  refine ⟨⟨_,_,hr,?_,fun k hk=>?_⟩,hr.c2,(Mod.of_below hbb _).trans' hmm⟩
  ·have h1:Kb w0 w4:=Zb HBB.out hbb;exact (Mod.of_below h1 _).trans' hmm
  ·rcases Zq.1 hk with rfl | hk | hk | ⟨s,hs,hk⟩
   ·exact .inl (Zq.2 (.inl rfl))
   ·rcases hw with e | ⟨q,e,hq⟩
    ·exact .inl (Zq.2 (.inr (.inl (by rw [← e];exact hk))))
    ·rw [e] at hk;injection hk with hk;have:=hbb.size;have:=HBB.out.size;exact .inr (by omega)
   ·exact .inl (Zq.2 (.inr (.inr (.inl hk))))
   ·rcases List.mem_append.1 hs with hs | hs
    ·exact .inl (Zq.2 (.inr (.inr (.inr ⟨s,hs,hk⟩))))
    ·obtain rfl:s=own1 x:=by simpa using hs
     exact .inr (HVB.out k hk)
 clear gr c37 f37
 go_wp2_with fail
 refine Zy (S:=fun w'=>w'.cell? ⟨g,2,none⟩=some (.slice pa nn pc)∧w'.frozen? ⟨g,2,none⟩=false∧w'.rangeAt b3 0 X) 10 (by kernel_rfl) (HS7.out _ (below_drewN (Below.refl _ _) 1)) (fun hHeld=>?_);refine tlp 0 (.pointer (some ⟨g,0,none⟩)) hHeld ?_;simp only [zq];refine tlp 1 (.pointer (some ⟨g,0,none⟩)) hHeld ?_;simp only [zq];refine tlp 2 (.pointer (some ⟨g,0,none⟩)) hHeld ?_;simp only [zq];refine tlp 3 (.pointer (some ⟨g,2,none⟩)) hHeld ?_;simp only [zq];refine tlg 4 (.slice pa nn pc) rfl (Or.inl ⟨by rfl,fun w hS=>by (have q1:=hS.1;go_simp)⟩) hHeld ?_;simp only [zq];refine tlg 5 (.agg X.toArray) rfl (yieldsIf_load_mid rfl 153 (.tmp 3) rfl b3 0 rfl X _ (fun w hS=>hS.2.2) Tryz.underlying153 rfl HXL.out) hHeld ?_;simp only [zq];refine Zap (i:=6) rfl (by kernel_rfl) (fun KQ hK=>?_);have a4:Kb w2 (w2.drew.alloc (.cells X.toArray 153)):=Zb (below_drewN (Below.refl w2.heap.size w2) 1) (Zc w2.drew (.cells X.toArray 153));refine Zyk _ rfl _ rfl X rfl HXN.out ?_;refine hK.out _ _ (HS7.out _ a4) (fun hHeld=>?_);clear hK KQ;have HR4:=Za (HR2.out.grow a4);refine Zap (i:=7) rfl (by kernel_rfl) (fun KQ hK=>?_);refine Zld _ rfl _ _ _ rfl 153 39 104 Tryz.underlying147 Zpr (by omega) _ nn (ss.flatMap sz7) rfl (by have:=HR4.out.sps;rw [← HNN.out] at this;exact this) w2.drew.heap.size X rfl (Blk.new _ _ _) HXN.out HX1.out (by have:=H6.out;simp only [maxLen];omega) (by have:=H6.out;omega) ?_;intro v5 w5 l5 g5 wh5;have hS5:=HS75.out _ w5 a4 g5;obtain ⟨a5,c5,rfl⟩:=Zj l5;refine hK.out _ _ hS5 (fun hHeld=>?_);clear hK KQ;refine tlp 8 (.pointer (some ⟨g,0,none⟩)) hHeld ?_;simp only [zq];refine tlp 9 (.pointer (some ⟨g,2,none⟩)) hHeld ?_;simp only [zq];obtain ⟨hc1,hc2,_⟩:=hHeld;refine Zam rfl (by kernel_rfl) (by kernel_rfl) (fun KQ hK=>?_);go_simp
 
 refine hK.out _ _ ?_;clear hK KQ;obtain ⟨hrt,hcl,hmd⟩:=HF.out _ _ _ _ a4 l5 g5 wh5;have HRT:=Za hrt;have HMD:=Za hmd;generalize w5.setCell ⟨g,2,none⟩ (.slice a5 (nn+1) c5)=w6 at *;clear hc1 hc2 hS5 l5 g5 wh5 hrt a4 hmd;go_wp2
 go_ret;exact ⟨by simp,HRT.out,HMD.out⟩
theorem Zrd {fr0:List Nat} (hb:Kb w0 w) (h:Rs w g vp vf room ss (fr0++[i+1])) (hi:i<ss.length) (x:Sp) (ok:SpOk x) (hk:x.kind≠0) (hv:∃sp,Own 0 w x.val x.bs sp) (hvb:∀k,x.val.ownBlock=some k→w0.heap.size≤k):Kc 172 #[.pointer (some ⟨g,0,none⟩),.agg (sz7 x).toArray] w fun e w'=>e=.returned (.int .i64 ((i+1:Nat):Int))∧RT7 w0 g (rsB g vp vf ss) room (ss.set i (own1 x)) fr0 w'∧Mod (rsB g vp vf ss) w w':=by
 obtain ⟨b,c,rfl,hcap⟩:=Zat h.sps (by omega);obtain ⟨bf,fc,rfl,hfcap⟩:=Zat h.frs (by simp);have HR:=Za h;have HV:=Za hv;have HVB:=Za hvb;have HOK:=Za ok;have HK:=Za hk;have HBB:=Za hb;obtain ⟨nn,hnn⟩:∃n,n=ss.length:=⟨_,rfl⟩;have HNN:=Za hnn;obtain ⟨nf,hnf⟩:∃n,n=fr0.length:=⟨_,rfl⟩;have HNF:=Za hnf;rw [← hnn] at HR hcap;rw [← hnn];have hfl:(fr0++[i+1]).length=nf+1:=by rw [List.length_append,hnf];rfl
 rw [hfl] at HR hfcap;rw [hfl];have hf6:=h.few;rw [hfl] at hf6;have HIL:Hid (i<nn):=by rw [hnn];exact hi
 have c37:(sz7 x)[37]?=some (.int .i64 (x.own:Int)):=(Zbq x ok.hk.1).2.2.2.2.2.1;have HC37:=Za c37;have HXN:Hid ((sz7 (own1 x)).length=39):=Zr _ ok.hk.1;have HXL:Hid ((Tryz.prog.info? 153).map (·.size)=some (sz7 (own1 x)).length):=by show _=_;rw [HXN.out];exact Zbk
 have HX1:=Za (Zca (Zki ok));generalize hX:sz7 (own1 x)=X at HXN HXL HX1;have HX:=Za hX;generalize hY:sz7 x=Y at HC37;have HY:=Za hY;obtain ⟨hq,hqe⟩:∃q:Int,q=((i+1:Nat):Int):=⟨_,rfl⟩;have HQE:=Za hqe;rw [← hqe];have hi7:i≤70000:=Nat.le_trans (Nat.le_of_lt hi) (Nat.le_trans hf6.1 (by decide));have hq1:wrap64 (hq-1)=(i:Int):=by rw [hqe,Go.IntWalk.wrap64_in _ (by have:=HIL.out;have:=hf6.1;omega)];omega
 have hq2:IntKind.i64.wrap (hq-1)=(i:Int):=by rw [show hq-1=(i:Int) by omega];exact Zsi i hi7
 have hi6:i<65536:=by have:=hf6.1;omega
 have i0:(0:Int)≤(i:Int):=by omega
 have i1:(i:Int)<(nn:Int):=by have:=HIL.out;omega
 have i2:i<nn:=HIL.out;have f0:(0:Int)≤(nf:Int):=by omega
 have f1:(nf:Int)<(nf:Int)+1:=by omega
 have f2:(nf:Int)≤(fc:Int):=by omega
 have f3:(0:Int)<(nf:Int)+1:=by omega
 have hnf6:nf≤65536:=by have:=hf6.2;omega
 have hwn:wrap64 (nf:Int)=(nf:Int):=Go.IntWalk.wrap64_in _ (by omega);have hwn2:IntKind.i64.wrap (nf:Int)=(nf:Int):=Zsi nf (Nat.le_trans hnf6 (by decide));clear h hv hvb ok hk hb hnn hnf c37 hX hY hqe hf6 hcap hfcap hi;go_enter Tryz.func172,Tryz.ntmps172
 go_upto_region 2 with (first
  |((with_reducible refine Zo 3 ?_);refine Zd _ rfl _ _ rfl _ rfl ?_;intro w1 b3 hg3 hl3 B3 q3;have HB3:=Za B3;have HG3:=Za hg3;have HQ3:=Za q3;have c37:w1.cell? ⟨b3,37,none⟩=some (.int .i64 (x.own:Int)):=(by rw [B3.cell];simpa using HC37.out);have f37:=B3.frozen 37;clear hg3 hl3 B3 q3))
 have HB3c:Hid (Blk (w1.setCell ⟨b3,37,none⟩ (.int .i64 1)) b3 153 X.toArray):=by
  rw [← HX.out];exact Zpi (by rw [HY.out];exact HB3.out) HOK.out.hk.1
 have gr:=Zao w1 b3 37 (.int .i64 1);have HQ2:Hid (Kb w (w1.setCell ⟨b3,37,none⟩ (.int .i64 1))):=Ze HQ3.out gr HG3.out;generalize w1.setCell ⟨b3,37,none⟩ (.int .i64 1)=w2 at *;have HR2:=Za (HR.out.grow HQ2.out);have c3:=HR2.out.c3;have HCL:Hid (∀w',Kb w2 w'→w'.cell? ⟨bf,nf,none⟩=some (.int .i64 hq)):=fun w' hb=>by
  have h0:=(HR2.out.grow hb).frs;rw [hfl] at h0;rw [Zay h0 nf (by omega),HQE.out,Zan,List.getElem?_append_right (by rw [Zdp,← HNF.out];exact Nat.le_refl _),Zdp,← HNF.out,Nat.sub_self];rfl
 have HS3:Hid (w2.drew.cell? ⟨g,3,none⟩=some (.slice (some ⟨bf,0,none⟩) (nf+1) fc)∧w2.drew.cell? ⟨bf,nf,none⟩=some (.int .i64 hq)):=⟨c3,HCL.out _ (below_drewN (Below.refl _ _) 1)⟩;clear gr c37 f37
 go_wp2_with fail
 refine wp_region_held_drew (S:=fun w'=>w'.cell? ⟨g,3,none⟩=some (.slice (some ⟨bf,0,none⟩) (nf+1) fc)∧w'.cell? ⟨bf,nf,none⟩=some (.int .i64 hq)) (by kernel_rfl) (HS3.out) (fun hHeld=>?_);refine tkp 0 (.pointer (some ⟨g,0,none⟩)) hHeld ?_;simp only [zq];refine tkp 1 (.pointer (some ⟨g,0,none⟩)) hHeld ?_;simp only [zq];refine tkp 2 (.pointer (some ⟨g,3,none⟩)) hHeld ?_;simp only [zq];refine tkg 3 (.slice (some ⟨bf,0,none⟩) (nf+1) fc) rfl (Or.inl ⟨by rfl,fun w hS=>by (have q1:=hS.1;go_simp)⟩) hHeld ?_;simp only [zq];refine tkp 4 (.pointer (some ⟨g,0,none⟩)) hHeld ?_;simp only [zq];refine tkp 5 (.pointer (some ⟨g,0,none⟩)) hHeld ?_;simp only [zq];refine tkp 6 (.pointer (some ⟨g,3,none⟩)) hHeld ?_;simp only [zq];refine tkg 7 (.slice (some ⟨bf,0,none⟩) (nf+1) fc) rfl (Or.inl ⟨by rfl,fun w hS=>by (have q1:=hS.1;go_simp)⟩) hHeld ?_;simp only [zq];refine tkp 8 (.int .i64 ((nf:Int)+1)) hHeld ?_;simp only [zq];refine tkp 9 (.int .i64 (nf:Int)) hHeld ?_;simp only [zq];refine tkp 10 (.pointer (some ⟨bf,nf,none⟩)) hHeld ?_;simp only [zq];refine tkg 11 (.int .i64 hq) rfl (Or.inl ⟨by rfl,fun w hS=>by (have q1:=hS.2;go_simp)⟩) hHeld ?_;simp only [zq];refine tkp 12 (.int .i64 hq) hHeld ?_;simp only [zq];refine wpAnyH_done (by kernel_rfl) ?_ _;clear hHeld;have HQ3':Hid (Kb w2 w2.drew.drew):=below_drewN (Below.refl _ _) 2;have HS4:Hid (w2.drew.drew.cell? ⟨g,3,none⟩=some (.slice (some ⟨bf,0,none⟩) (nf+1) fc)∧w2.drew.drew.frozen? ⟨g,3,none⟩=false):=⟨(HR2.out.grow HQ3'.out).c3,(HR2.out.grow HQ3'.out).blk.frozen 3⟩
 go_wp2_with fail
 refine Zy (S:=fun w'=>w'.cell? ⟨g,3,none⟩=some (.slice (some ⟨bf,0,none⟩) (nf+1) fc)∧w'.frozen? ⟨g,3,none⟩=false) 14 (by kernel_rfl) (HS4.out) (fun hHeld=>?_);refine tlp 0 (.pointer (some ⟨g,0,none⟩)) hHeld ?_;simp only [zq];refine tlp 1 (.pointer (some ⟨g,0,none⟩)) hHeld ?_;simp only [zq];refine tlp 2 (.pointer (some ⟨g,0,none⟩)) hHeld ?_;simp only [zq];refine tlp 3 (.pointer (some ⟨g,3,none⟩)) hHeld ?_;simp only [zq];refine tlg 4 (.slice (some ⟨bf,0,none⟩) (nf+1) fc) rfl (Or.inl ⟨by rfl,fun w hS=>by (have q1:=hS.1;go_simp)⟩) hHeld ?_;simp only [zq];refine tlp 5 (.pointer (some ⟨g,0,none⟩)) hHeld ?_;simp only [zq];refine tlp 6 (.pointer (some ⟨g,0,none⟩)) hHeld ?_;simp only [zq];refine tlp 7 (.pointer (some ⟨g,3,none⟩)) hHeld ?_;simp only [zq];refine tlg 8 (.slice (some ⟨bf,0,none⟩) (nf+1) fc) rfl (Or.inl ⟨by rfl,fun w hS=>by (have q1:=hS.1;go_simp)⟩) hHeld ?_;simp only [zq];refine tlp 9 (.int .i64 ((nf:Int)+1)) hHeld ?_;simp only [zq];refine tlp 10 (.int .i64 (nf:Int)) hHeld ?_;simp only [zq];refine tlp 11 (.slice (some ⟨bf,0,none⟩) nf fc) hHeld ?_;simp only [zq];refine tlp 12 (.pointer (some ⟨g,0,none⟩)) hHeld ?_;simp only [zq];refine tlp 13 (.pointer (some ⟨g,3,none⟩)) hHeld ?_;simp only [zq];obtain ⟨hc1,hc2⟩:=hHeld;refine Zam rfl (by kernel_rfl) (by kernel_rfl) (fun KQ hK=>?_);go_simp
 
 refine hK.out _ _ ?_;clear hK KQ;have HR5:Hid (Rs (w2.setCell ⟨g,3,none⟩ (.slice (some ⟨bf,0,none⟩) nf fc)).drew.drew g (.slice (some ⟨b,0,none⟩) nn c) (.slice (some ⟨bf,0,none⟩) nf fc) room ss fr0):=(HR2.out.grow HQ3'.out).popF HNF.out;have HM5:Hid (Mod [g] w2 (w2.setCell ⟨g,3,none⟩ (.slice (some ⟨bf,0,none⟩) nf fc)).drew.drew):=(Mod.of_below HQ3'.out _).trans' (Mod.setCell w2.drew.drew g 3 _ (by simp));have HNG:Hid (b3≠g):=fun e=>by
  have h1:=HR.out.blk.lt;have h2:=HG3.out;omega
 have HB5:Hid (Blk (w2.setCell ⟨g,3,none⟩ (.slice (some ⟨bf,0,none⟩) nf fc)).drew.drew b3 153 X.toArray):=HB3c.out.mod HM5.out (by simpa using HNG.out);generalize (w2.setCell ⟨g,3,none⟩ (.slice (some ⟨bf,0,none⟩) nf fc)).drew.drew=w5 at *;have HQ5:Hid (Kb w5 w5.drew):=below_drewN (Below.refl _ _) 1;have HS5:Hid (w5.drew.cell? ⟨g,2,none⟩=some (.slice (some ⟨b,0,none⟩) nn c)∧w5.drew.rangeAt b3 0 X):=⟨HR5.out.c2,by have:=(HB5.out.grow HQ5.out).range;simpa using this⟩;have HLP:Hid (Lst w5.drew 153 39 (.slice (some ⟨b,0,none⟩) nn c) nn (ss.flatMap sz7)):=by have:=(HR5.out.grow HQ5.out).sps;rw [← HNN.out] at this;exact this
 have HF:Hid (∀w6,Lst w6 153 39 (.slice (some ⟨b,0,none⟩) nn c) nn (setL (ss.flatMap sz7) (i * 39) X)→Mod [b] w5.drew w6→RT7 w0 g (rsB g (.slice (some ⟨b,0,none⟩) nn c) (.slice (some ⟨bf,0,none⟩) (nf+1) fc) ss) room (ss.set i (own1 x)) fr0 w6∧Mod (rsB g (.slice (some ⟨b,0,none⟩) nn c) (.slice (some ⟨bf,0,none⟩) (nf+1) fc) ss) w w6):=fun w6 l6 m6=>by
  have hil:i<ss.length:=by rw [← HNN.out];exact HIL.out
  have hv5:∃sp,Own 0 w5.drew x.val x.bs sp:=by
   obtain ⟨sp,ho⟩:=HV.out;refine ⟨sp,((ho.grow HQ2.out).mod HM5.out (fun k hk e=>?_)).grow HQ5.out⟩;obtain rfl:k=g:=by simpa using e
   obtain ⟨_,hb2⟩:=(ho.grow HQ2.out).blk k hk;exact hb2.ne HR2.out.blk Ycw rfl
  have hr:=(HR5.out.grow HQ5.out).putS i hil (own1 x) (Zki HOK.out) (fun e=>absurd e HK.out) hv5 (by rw [HX.out];exact l6) m6;have hfin:∀wx,Kb wx w→Mod (rsB g (.slice (some ⟨b,0,none⟩) nn c) (.slice (some ⟨bf,0,none⟩) (nf+1) fc) ss) wx w6:=fun wx hbx=>by
   have h1:Mod (rsB g (.slice (some ⟨b,0,none⟩) nn c) (.slice (some ⟨bf,0,none⟩) (nf+1) fc) ss) wx w2:=Mod.of_below (Zb hbx HQ2.out) _;refine ((h1.trans' (HM5.out.mono fun k hk=>?_)).trans' (Mod.of_below HQ5.out _)).trans' (m6.mono fun k hk=>?_)
   ·obtain rfl:k=g:=by simpa using hk
    exact Zq.2 (.inl rfl)
   ·obtain rfl:k=b:=by simpa using hk
    exact Zq.2 (.inr (.inl rfl))
  refine ⟨⟨_,_,hr,hfin w0 HBB.out,fun k hk=>?_⟩,hfin w (Below.refl _ _)⟩
  ·rcases Zq.1 hk with rfl | hk | hk | ⟨s,hs,hk⟩
   ·exact .inl (Zq.2 (.inl rfl))
   ·exact .inl (Zq.2 (.inr (.inl hk)))
   ·exact .inl (Zq.2 (.inr (.inr (.inl hk))))
   ·rcases Zbw hs with rfl | hs
    ·exact .inr (HVB.out k hk)
    ·exact .inl (Zq.2 (.inr (.inr (.inr ⟨s,hs,hk⟩))))
 clear hc1 hc2
 go_wp2_with fail
 refine Zy (S:=fun w'=>w'.cell? ⟨g,2,none⟩=some (.slice (some ⟨b,0,none⟩) nn c)∧w'.rangeAt b3 0 X) 8 (by kernel_rfl) (HS5.out) (fun hHeld=>?_);refine tlp 0 (.pointer (some ⟨g,0,none⟩)) hHeld ?_;simp only [zq];refine tlp 1 (.pointer (some ⟨g,0,none⟩)) hHeld ?_;simp only [zq];refine tlp 2 (.pointer (some ⟨g,2,none⟩)) hHeld ?_;simp only [zq];refine tlg 3 (.slice (some ⟨b,0,none⟩) nn c) rfl (Or.inl ⟨by rfl,fun w hS=>by (have q1:=hS.1;go_simp)⟩) hHeld ?_;simp only [zq];refine tlp 4 (.int .i64 hq) hHeld ?_;simp only [zq];refine tlp 5 (.int .i64 (i:Int)) hHeld ?_;simp only [zq];refine tlg 6 (.agg X.toArray) rfl (yieldsIf_load_mid rfl 153 (.tmp 3) rfl b3 0 rfl X _ (fun w hS=>hS.2) Tryz.underlying153 rfl HXL.out) hHeld ?_;simp only [zq];refine tlp 7 (.pointer (some ⟨b,i * 39,none⟩)) hHeld ?_;simp only [zq];refine Zam rfl (by kernel_rfl) (by kernel_rfl) (fun KQ hK=>?_);refine Zgw _ rfl _ _ _ rfl 153 39 nn c b (i * 39) (ss.flatMap sz7) X rfl rfl HLP.out HXL.out (by rw [HXN.out];have:=HIL.out;have:=HNN.out;omega) HX1.out ?_;intro w6 l6 m6 s6;refine hK.out _ _ ?_;clear hK KQ;have HRT:=Za (HF.out w6 l6 m6);clear hHeld l6 m6 s6;go_wp2
 go_ret;exact ⟨rfl,HRT.out.1,HRT.out.2⟩
theorem Zja (hb:Kb w0 w) (h:Rs w g vp vf room ss fr) (hfr:∀s∈fr,1≤s∧s≤ss.length) (x:Sp) (ok:SpOk x) (hk:x.kind≠0) (hv:∃sp,Own 0 w x.val x.bs sp) (hvb:∀k,x.val.ownBlock=some k→w0.heap.size≤k) (h6:ss.length+1≤65536):Kc 172 #[.pointer (some ⟨g,0,none⟩),.agg (sz7 x).toArray] w fun e w'=>e=.returned (.int .i64 (tkH ss fr:Int))∧RT7 w0 g (rsB g vp vf ss) room (tkC ss fr (own1 x)) fr.dropLast w'∧Mod (rsB g vp vf ss) w w':=by
 rcases Zeo ss fr with ⟨s,fr0,rfl,e1,e2⟩ | ⟨rfl,e1,e2⟩
 ·obtain ⟨s1,s2⟩:=hfr s (by simp);obtain ⟨i,rfl⟩:∃i,s=i+1:=⟨s-1,by omega⟩;rw [e1,e2,Nat.add_sub_cancel,List.dropLast_concat];exact Zrd hb h (by omega) x ok hk hv hvb
 ·rw [e1,e2];exact Zre hb h x ok hk hv hvb h6
def sp7Places:Nat→Option (Nat×Nat):=fun i=>(#[(0,1),(1,1),(2,33),(35,1),(36,1),(37,1),(38,1)]:Array (Nat×Nat))[i]?
theorem Zjo (ps:List (Nat×Value)):Tryz.prog.built 153 ps=Instr.fill sp7Places (sz7 zs7).toArray ps:=by kernel_rfl
theorem Zek (i off n:Nat) (v:Value) (p q r xs:List Value) (rest:List (Nat×Value)) (hi:sp7Places i=some (off,n)) (hv:v.cells=xs.toArray) (hx:xs.length=n) (hp:p.length=off) (hq:q.length=n):Instr.fill sp7Places (p++(q++r)).toArray ((i,v)::rest)=Instr.fill sp7Places (p++(xs++r)).toArray rest:=by
 rw [Zcx sp7Places i off n v xs _ rest hi hv hx (by simp;omega),← hp,List.take_left' rfl,List.append_assoc,show p.length+n=(p++q).length by simp [hq],← List.append_assoc p q r,List.drop_left' rfl]
theorem Ztp (s:Sp) (k:Int) (rest:List (Nat×Value)):Instr.fill sp7Places (sz7 s).toArray ((0,.int .u8 k)::rest)=Instr.fill sp7Places (sz7 { s with kind:=k}).toArray rest:=by
 have:=Zek 0 0 1 (.int .u8 k) [] [.int .u8 s.kind] (.int .i64 (s.d:Int)::(encP s.key s.val++[.int .i64 (s.l:Int),.int .i64 (s.r:Int),.int .i64 (s.own:Int),.int .i64 (s.sd:Int)])) [.int .u8 k] rest rfl rfl rfl rfl rfl;simpa [sz7] using this
theorem Yjo (s:Sp) (n:Nat) (rest:List (Nat×Value)):Instr.fill sp7Places (sz7 s).toArray ((1,.int .i64 (n:Int))::rest)=Instr.fill sp7Places (sz7 { s with d:=n}).toArray rest:=by
 have:=Zek 1 1 1 (.int .i64 (n:Int)) [.int .u8 s.kind] [.int .i64 (s.d:Int)] (encP s.key s.val++[.int .i64 (s.l:Int),.int .i64 (s.r:Int),.int .i64 (s.own:Int),.int .i64 (s.sd:Int)]) [.int .i64 (n:Int)] rest rfl rfl rfl rfl rfl;simpa [sz7] using this
theorem Zyu (s:Sp) (hs:s.key.length=32) (K:Lq) (hK:K.length=32) (v:Value) (bs:Lq) (rest:List (Nat×Value)):Instr.fill sp7Places (sz7 s).toArray ((2,.agg (encP K v).toArray)::rest)=Instr.fill sp7Places (sz7 { s with key:=K,val:=v,bs:=bs}).toArray rest:=by
 have:=Zek 2 2 33 (.agg (encP K v).toArray) [.int .u8 s.kind,.int .i64 (s.d:Int)] (encP s.key s.val) [.int .i64 (s.l:Int),.int .i64 (s.r:Int),.int .i64 (s.own:Int),.int .i64 (s.sd:Int)] (encP K v) rest rfl rfl (Zab K v hK) rfl (Zab _ _ hs);simpa [sz7] using this
theorem Yjn (s:Sp) (hs:s.key.length=32) (n:Nat) (rest:List (Nat×Value)):Instr.fill sp7Places (sz7 s).toArray ((3,.int .i64 (n:Int))::rest)=Instr.fill sp7Places (sz7 { s with l:=n}).toArray rest:=by
 have:=Zek 3 35 1 (.int .i64 (n:Int)) ([Value.int .u8 s.kind,.int .i64 (s.d:Int)]++encP s.key s.val) [.int .i64 (s.l:Int)] [.int .i64 (s.r:Int),.int .i64 (s.own:Int),.int .i64 (s.sd:Int)] [.int .i64 (n:Int)] rest rfl rfl rfl (by simp [Zab _ _ hs]) rfl;simpa [sz7] using this
theorem Yjm (s:Sp) (hs:s.key.length=32) (n:Nat) (rest:List (Nat×Value)):Instr.fill sp7Places (sz7 s).toArray ((4,.int .i64 (n:Int))::rest)=Instr.fill sp7Places (sz7 { s with r:=n}).toArray rest:=by
 have:=Zek 4 36 1 (.int .i64 (n:Int)) ([Value.int .u8 s.kind,.int .i64 (s.d:Int)]++(encP s.key s.val++[.int .i64 (s.l:Int)])) [.int .i64 (s.r:Int)] [.int .i64 (s.own:Int),.int .i64 (s.sd:Int)] [.int .i64 (n:Int)] rest rfl rfl rfl (by simp [Zab _ _ hs]) rfl;simpa [sz7] using this
def lf7 (K:Lq) (v:Value) (bs:Lq):Sp:=⟨1,0,K,v,bs,0,0,0,0⟩
def in7 (d l r:Nat):Sp:=⟨2,d,z32,.slice none 0 0,[],l,r,0,0⟩
theorem Zxj (K:Lq) (a:Option Addr) (n c:Nat) (bs:Lq) (hK:K.length=32):Tryz.prog.built 153 [(0,.int .u8 1),(2,.agg (encP K (.slice a n c)).toArray)]=some (sz7 (lf7 K (.slice a n c) bs)).toArray:=by
 rw [Zjo];exact (Ztp zs7 1 _).trans (Zyu ⟨1,0,z32,.slice none 0 0,[],0,0,0,0⟩ rfl K hK (.slice a n c) bs [])
theorem Zxk (d l r:Nat):Tryz.prog.built 153 [(0,.int .u8 2),(1,.int .i64 (d:Int)),(3,.int .i64 (l:Int)),(4,.int .i64 (r:Int))]=some (sz7 (in7 d l r)).toArray:=by
 rw [Zjo];exact (Ztp zs7 2 _).trans ((Yjo ⟨2,0,z32,.slice none 0 0,[],0,0,0,0⟩ d _).trans ((Yjn ⟨2,d,z32,.slice none 0 0,[],0,0,0,0⟩ rfl l _).trans (Yjm ⟨2,d,z32,.slice none 0 0,[],l,0,0,0⟩ rfl r [])))
def p7xPlaces:Nat→Option (Nat×Nat):=fun i=>(#[(0,32),(32,1)]:Array (Nat×Nat))[i]?
theorem Zsa (ps:List (Nat×Value)):Tryz.prog.built 58 ps=Instr.fill p7xPlaces (encP z32 (.slice none 0 0)).toArray ps:=by kernel_rfl
theorem Zxi (K:Lq) (a:Option Addr) (n c:Nat) (hk:K.length=32):Tryz.prog.built 58 [(0,.agg (B K)),(1,.slice a n c)]=some (encP K (.slice a n c)).toArray:=by
 rw [Zsa];rw [Zcx p7xPlaces 0 0 32 (.agg (B K)) (K.map (Value.int .u8)) (encP z32 (.slice none 0 0)) _ rfl (Zoe K) (by simp [hk]) (by simp [encP,Zfy])];have e1:(encP z32 (.slice none 0 0)).take 0++(K.map (Value.int .u8)++(encP z32 (.slice none 0 0)).drop (0+32))=K.map (Value.int .u8)++[.slice none 0 0]:=by simp [encP,z32]
 first
  | rw [e1]
  | skip
 rw [Zcx p7xPlaces 1 32 1 (.slice a n c) [.slice a n c] _ _ rfl rfl rfl (by simp [hk,encP,Zfy])];simp [encP,Instr.fill,hk,z32]
theorem Yhb (hK:Key K) (a:Option Addr) (c:Nat) (bs:Lq):SpOk (lf7 K (.slice a bs.length c) bs):=⟨hK,a,c,rfl⟩
theorem Yhg (d l r:Nat):SpOk (in7 d l r):=⟨Zql.hk,none,0,rfl⟩
theorem Zsd (hb:Kb w0 w) (hg:w.grownBy w' none):Kb w0 w':=
 hb.trans ⟨hg.os,hg.tape,hg.output,hg.size,fun k hk=>hg.block k (Nat.lt_of_lt_of_le hk hb.size) (by simp)⟩
theorem Zxf (room:Nat):Tryz.prog.built 149 [(0,.bool true),(1,.int .i64 (room:Int))]=some #[.bool true,.int .i64 (room:Int),.slice none 0 0,.slice none 0 0]:=by kernel_rfl
theorem Zzg (room:Nat) (w:World) (h1:1≤room) (h2:room≤65536):Kc 51 #[.int .i64 (room:Int)] w fun e w'=>∃g,e=.returned (.tuple #[.pointer (some ⟨g,0,none⟩),.int .i64 0])∧w.heap.size≤g∧Rs w' g (.slice none 0 0) (.slice none 0 0) room [] []∧Kb w w':=by
 have z1: ¬(room:Int)<1:=by omega
 have z2: ¬(65536:Int)<(room:Int):=by omega
 have HB:=Za (Zxf room);have HP:Hid (∀w' g,w.heap.size≤g→Blk w' g 149 #[.bool true,.int .i64 (room:Int),.slice none 0 0,.slice none 0 0]→Kb w w'→∃g',(Ending.returned (.tuple #[.pointer (some ⟨g,0,none⟩),.int .i64 0]))=.returned (.tuple #[.pointer (some ⟨g',0,none⟩),.int .i64 0])∧w.heap.size≤g'∧Rs w' g' (.slice none 0 0) (.slice none 0 0) room [] []∧Kb w w'):=fun w' g hg B b=>⟨g,rfl,hg,⟨B,⟨rfl,.inl ⟨rfl,rfl⟩⟩,⟨rfl,.inl ⟨rfl,rfl⟩⟩,fun s hs=>(by cases hs),fun s hs=>(by cases hs),fun s hs=>(by cases hs),⟨by simp,by simp⟩⟩,b⟩
 clear h1 h2;go_enter Tryz.func51,Tryz.ntmps51
 go_wp2_with (first
  |((with_reducible refine Yfr ?_);refine Zas _ rfl _ _ rfl _ (by rw [List.map_toArray];exact HB.out) ?_)
  |((with_reducible refine Zo 12 ?_);refine Zd _ rfl _ _ rfl _ rfl ?_;intro w1 g12 hg12 hl12 B12 q12))
 go_ret2;exact HP.out _ _ hg12 B12 q12
theorem Zuj (h:Rs w g vp vf room ss fr) (hfr:∀s∈fr,1≤s∧s≤ss.length) (K:Lq) (v:Value) (bs:Lq) (hr:Reads w v bs) (hK:Key K) (hn:bs.length≤1024) (hf: ¬Full room ss fr) (h6:ss.length+1≤65536):Kc 140 #[.pointer (some ⟨g,0,none⟩),.agg (B K),v] w fun e w'=>∃a c,e=.returned (.tuple #[.int .i64 (tkH ss fr:Int),.int .i64 0])∧RT7 w g (rsB g vp vf ss) room (tkC ss fr (own1 (lf7 K (.slice a bs.length c) bs))) fr.dropLast w':=by
 have HC:Hid (∀w',Kb w w'→w'.cell? ⟨g,0,none⟩=some (.bool true)):=fun w' hb=>(h.grow hb).c0
 have HFU:Hid (Kr w 171 #[.pointer (some ⟨g,0,none⟩)] (.bool false)):=fun w' hb=>Zjc (h.grow hb) false (by simp [hf])
 have HTK:Hid (∀w' v' sp,Kb w w'→Own w.heap.size w' v' bs sp→Kc 172 #[.pointer (some ⟨g,0,none⟩),.agg (sz7 (lf7 K v' bs)).toArray] w' fun e w''=>e=.returned (.int .i64 (tkH ss fr:Int))∧RT7 w g (rsB g vp vf ss) room (tkC ss fr (own1 (lf7 K v' bs))) fr.dropLast w''∧Mod (rsB g vp vf ss) w' w''):=fun w' v' sp hb ho=>by
  obtain ⟨a,c,rfl⟩:=ho.slice;exact Zja hb (h.grow hb) hfr _ (Yhb hK a c bs) (by show ¬(1:Int)=0;omega) ⟨sp,ho.mono (Nat.zero_le _)⟩ (fun k hk=>(ho.lt k hk).1) h6
 have HRD:Hid (∀w',Kb w w'→Reads w' v bs):=fun w' hb=>hr.grow hb
 have HLT:=Za h.lts;have HKL:=Za hK.1;have HPL:Hid ((Tryz.prog.info? 48).map (·.size)=some (B K).toList.length):=by show _=_;rw [Zaz,List.length_map,hK.1];exact Zi
 have HLN:=Za hn;obtain ⟨va,vc,rfl,_⟩:=hr;obtain ⟨vn,hvn⟩:∃n,n=bs.length:=⟨_,rfl⟩;rw [← hvn] at HRD;rw [← hvn];have z1: ¬(1024:Int)<(vn:Int):=by omega
 generalize (tkH ss fr:Int)=th at HTK ⊢;have HVN:=Za hvn;clear h hfr hK hn hf h6 hvn;go_enter Tryz.func140,Tryz.ntmps140
 go_wp2_with (first
  |((with_reducible refine Zo 4 ?_);refine Zd _ rfl _ _ rfl _ rfl ?_;intro w1 b4 hg4 hl4 B4 q4;have HB4:=Za B4;have HG4:=Za hg4;have HQ4:=Za q4;clear hg4 hl4 B4 q4)
  |(go_at_call 88;refine (Zz g _ (HC.out _ HQ4.out)).mono ?_;rintro e w' ⟨rfl,hx⟩;rw [hx];clear hx w')
  |(go_at_call 171;refine (HFU.out _ HQ4.out).mono ?_;rintro e w4 ⟨rfl,b4'⟩;have HB44:=Za (HB4.out.grow b4');have HQ5:=Za (Zb HQ4.out b4');clear b4'))
 have HK4:Hid (∀w',Kb w4 w'→w'.rangeAt b4 0 (B K).toList):=fun w' hb=>(HB44.out.grow hb).range
 have HK6:Hid (∀w5 w6,Kb w4 w5→Mod (rsB g vp vf ss) w5 w6→w6.rangeAt b4 0 (B K).toList):=fun w5 w6 hb m=>((HB44.out.grow hb).mod m (fun e=>by have h1:=HLT.out _ e;have h2:=HG4.out;omega)).range
 refine wp_region_held_drew (S:=fun w'=>w'.rangeAt b4 0 (B K).toList) (by kernel_rfl) (HK4.out _ (below_drewN (Below.refl _ _) 1)) (fun hHeld=>?_);refine tkp 0 (.pointer (some ⟨g,0,none⟩)) hHeld ?_;simp only [zq];refine tkg 1 (.agg (B K)) rfl (yieldsIf_load_mid rfl 48 (.tmp 4) rfl b4 0 rfl (B K).toList _ (fun w hS=>hS) Tryz.underlying48 rfl HPL.out) hHeld ?_;simp only [zq];refine tkp 2 (.slice none 0 0) hHeld ?_;simp only [zq];refine tkp 3 (.slice va vn vc) hHeld ?_;simp only [zq];refine wpAnyH_ready (rs:=[4]) (by kernel_rfl) (by simp) ?_;refine AllReadyH.cons rfl (fun KQ hK=>?_) AllReadyH.nil;refine Zyl _ rfl _ _ rfl w.heap.size _ _ [] [] bs (Own.nil _ _) (HRD.out _ (Zb HQ5.out (below_drewN (Below.refl _ _) 1))) rfl rfl (by have:=HLN.out;simp;omega) (Nat.le_trans HQ5.out.size (Nat.le_refl _)) ?_;intro v5 w5 sp5 o5 g5 _ _ _;have HB5:Hid (Kb w4 w5):=Zsd (below_drewN (Below.refl _ _) 1) g5;have HO5:=Za o5;obtain ⟨ua,uc,rfl⟩:=o5.slice;clear o5 g5;refine hK.out _ _ (HK4.out _ HB5.out) (fun hHeld=>?_);clear hK KQ;have HX:=Za (Zxj K ua bs.length uc bs HKL.out);have HY:=Za (Zxi K ua bs.length uc HKL.out);refine tkg 5 (.agg (encP K (.slice ua bs.length uc)).toArray) rfl (Or.inl ⟨by rfl,fun w hS=>Zcz _ _ 58 _ (by rfl) _ (by rw [List.map_toArray];exact HY.out) w⟩) hHeld ?_;simp only [zq];refine tkg 6 (.agg (sz7 (lf7 K (.slice ua bs.length uc) bs)).toArray) rfl (Or.inl ⟨by rfl,fun w hS=>Zcz _ _ 153 _ (by rfl) _ (by rw [List.map_toArray];exact HX.out) w⟩) hHeld ?_;simp only [zq];refine wpAnyH_ready (rs:=[7]) (by kernel_rfl) (by simp) ?_;refine AllReadyH.cons rfl (fun KQ hK=>?_) AllReadyH.nil;go_simp;refine (HTK.out w5 (.slice ua bs.length uc) sp5 (Zb HQ5.out HB5.out) HO5.out).mono ?_;rintro e w6 ⟨rfl,rt6,md6⟩;have HRT:=Za rt6;have HMD:=Za md6;clear rt6 md6;refine hK.out _ _ (HK6.out w5 w6 HB5.out HMD.out) (fun hHeld=>?_);clear hK KQ;refine tkp 8 (.int .i64 th) hHeld ?_;simp only [zq];refine tkp 9 (.int .i64 0) hHeld ?_;simp only [zq];refine wpAnyH_done (by kernel_rfl) ?_ _;clear hHeld;go_wp2
 go_ret2;exact ⟨rfl,ua,uc,by rw [HVN.out];exact HRT.out⟩
def IsS (ss:List Sp):Nat→Tre→Prop
 | h,.emp=>h=0
 | h,.lf k b=>1≤h∧(spAt ss (h-1)).kind=1∧(spAt ss (h-1)).key=k∧(spAt ss (h-1)).bs=b
 | h,.nd d hl hr l r=>1≤h∧(spAt ss (h-1)).kind=2∧(spAt ss (h-1)).d=d∧(spAt ss (h-1)).l=hl∧(spAt ss (h-1)).r=hr∧IsS ss hl l∧IsS ss hr r
theorem IsT.s {q:List Nat} (r:Rel7 cs p q ss):∀ {T:Tre} {h:Nat},IsT cs h T→IsS ss h T
 | .emp,_,e=>e
 | .lf _ _,h,⟨h1,h2,h3,h4,h5⟩=>⟨h1,by rw [r.kind];exact h3,by rw [r.key _ h3];exact h4,by rw [r.bs];exact h5⟩
 | .nd _ _ _ _ _,h,⟨h1,h2,h3,h4,h5,h6,h7,h8⟩=>⟨h1,by rw [r.kind];exact h3,by rw [r.d];exact h4,by rw [r.l];exact h5,by rw [r.r];exact h6,h7.s r,h8.s r⟩
theorem Ztz (ss:List Sp) {h:Nat} (h1:1≤h):sat ss (h:Int)=spAt ss (h-1):=by
 unfold sat;rw [if_pos (by omega),show ((h:Int)-1).toNat=h-1 by omega]
def EnPost (w0:World) (es:List Ent) (w:World) (e:Ending) (w':World):Prop:=
 ∃v its,e=.returned v∧its.map (·.1)=es∧(∀p∈its,Key p.1.1∧Reads w0 p.2 p.1.2)∧w'.ownsRow w.heap.size 58 33 v its.length (flatP its)∧Kb w w'
theorem Zdj {its:List (Ent×Value)} (h:∀p∈its,Key p.1.1∧Reads w p.2 p.1.2):∀u∈flatP its,u.oneCell'=true:=fun u hu=>by
 unfold flatP at hu;rw [List.mem_flatMap] at hu;obtain ⟨p,hp,hu⟩:=hu;obtain ⟨_,_,e,_⟩:=(h p hp).2;unfold encP at hu;rcases List.mem_append.1 hu with hu | hu
 ·obtain ⟨z,_,rfl⟩:=List.mem_map.1 hu;rfl
 ·obtain rfl:u=p.2:=by simpa using hu
  rw [e];rfl
theorem Zlk (ty:TypeId) (w:World) (base base2:Nat) (v1 v2:Value) (n1 n2:Nat) (xs1 xs2:List Value) (h1:w.ownsRow base 58 33 v1 n1 xs1) (h2:w.ownsRow base2 58 33 v2 n2 xs2) (hc:∀u∈xs2,u.oneCell'=true) (hn:n1+n2≤65536) (hbase:base≤w.heap.size):
  ∃v' w',(Builtin.append_ #[41,41] ty #[v1,v2]).run Tryz.prog w=.ok v' w'∧w'.ownsRow base 58 33 v' (n1+n2) (xs1++xs2)∧w.grownBy w' v1.ownBlock:=by
 obtain ⟨i,z,hi,hz,hsz,hby,hzs⟩:=Zif;rcases h2.2 with ⟨rfl,rfl⟩ | ⟨g2,cap2,cur2,rfl,hb2,hg2,hnc2,hcm2,hcs2,ht2⟩
 ·have e:xs2=[]:=by have:=h2.1;simpa using this
  subst e;refine ⟨v1,w,?_,by simpa using h1,World.grownBy.refl _ _⟩;have ht:Tryz.prog.underlying 41=some (.slice 58):=Tryz.underlying41;rcases h1.2 with ⟨rfl,rfl⟩ | ⟨g,cap,cur,rfl,hb,hg,hnc,hcm,hcs,htk⟩
  ·simp [Builtin.append_,run_underlying ht,sizeOf,typeInfo,hi,Builtin.lenOf,Builtin.firstCells]
  ·simp [Builtin.append_,run_underlying ht,sizeOf,typeInfo,hi,Builtin.lenOf,Builtin.firstCells,hnc,storeCells]
 ·obtain ⟨v',w',hr,q1,q2,_⟩:=run_append_own (P:=Tryz.prog) w base 41 ty 58 i z 33 56 Tryz.underlying41 hi hz hsz hby hzs (by omega) v1 n1 xs1 h1 ⟨g2,0,none⟩ n2 cap2 xs2 (by rw [h2.1]) (fun j u hu=>h2.cells (g:=g2) rfl j u hu) hc (by simp only [maxLen];omega) (by omega) hbase;exact ⟨v',w',hr,q1,q2⟩
theorem Zqz {ops:Array Oper} {o:Oper} {a:Act} {K:Act→World→Prop} {Q:Exit→Act→World→Prop} {E:Prop} (w:World) (hgd:o.guard=none) (s x:Operand)
  (hop:o.op=.call { callee:=.builtin .append,args:= #[s,x],argTypes:= #[41,41]})
  (base base2:Nat) (v1 v2:Value) (n1 n2:Nat) (xs1 xs2:List Value) (hs:a.eval s=v1) (hx:a.eval x=v2) (h1:w.ownsRow base 58 33 v1 n1 xs1) (h2:w.ownsRow base2 58 33 v2 n2 xs2) (hc:∀u∈xs2,u.oneCell'=true) (hn:n1+n2≤65536) (hbase:base≤w.heap.size)
  (hk:∀v' w',w'.ownsRow base 58 33 v' (n1+n2) (xs1++xs2)→w.grownBy w' v1.ownBlock→K (a.put o.dst v') w'):if Region.wanted o (yielded ops a.tmps)=true then Oper.wp Tryz.prog o a w K Q else E:=by
 have hw:Region.wanted o (yielded ops a.tmps)=true:=by simp [Region.wanted,hgd]
 rw [if_pos hw];obtain ⟨v',w',hr,q1,q2⟩:=Zlk o.type w base base2 v1 v2 n1 n2 xs1 xs2 h1 h2 hc hn hbase;unfold Oper.wp execOp;simp only [hop,resolve,invoke,builtin,Sem.run_bind,Sem.run_pure,Result.andThen_ok,List.map_toArray,List.map_cons,List.map_nil,hs,hx,hr];exact hk v' w' q1 q2
theorem Zzs (w:World) (k:Lq) (u:Value) (hk:k.length=32):(w.alloc (.cells (encP k u).toArray 58)).ownsRow w.heap.size 58 33 (.slice (some ⟨w.heap.size,0,none⟩) 1 1) 1 (encP k u):=by
 refine ⟨by rw [Zab k u hk],.inr ⟨w.heap.size,1,_,rfl,Nat.le_refl _,Blk.new _ _ _,Nat.le_refl _,by simp only [maxLen];omega,by simp [Zab k u hk],?_⟩⟩;show (encP k u).take 33=encP k u;exact List.take_of_length_le (by rw [Zab k u hk];exact Nat.le_refl _)
theorem Zjd (h:Rs w g vp vf room ss fr) (q:Int) (hk:(sat ss q).kind=0):Kc 173 #[.pointer (some ⟨g,0,none⟩),.int .i64 q] w fun e w'=>e=.returned (.slice none 0 0)∧Kb w w':=by
 have HA:=Za (Zbc h q);have HO:=Za (Zbz h q);have HL:Hid ((Tryz.prog.info? 153).map (·.size)=some (sz7 (sat ss q)).toArray.size):=by show _=_;rw [List.size_toArray,Zr _ HO.out.hk.1];exact Zbk
 have HZ:=Za Zcp;have HZL:Hid ((sz7 zs7).toArray.size=(sz7 (sat ss q)).toArray.size):=by show _=_;rw [List.size_toArray,List.size_toArray,Zr _ HO.out.hk.1];rfl
 have H1:=Za (Zca HO.out);have c0:=(Zbq (sat ss q) HO.out.hk.1).1;rw [hk] at c0;generalize sz7 zs7=Z at HZ HZL;generalize sz7 (sat ss q)=X at HA HL HZL H1 c0;have HC0:=Za c0;clear h hk HO c0;go_enter Tryz.func173,Tryz.ntmps173
 go_wp2_with (first
  |(go_at_call 94;refine HA.out.mono ?_;rintro e w1 ⟨rfl,b1⟩;have HB1:=Za b1;clear b1)
  |((with_reducible refine Zv 5 ?_);refine Zh _ rfl _ rfl _ HZ.out ?_;intro w2 b5 hg5 hl5 B5 q2;have HB5:=Za B5;have HG5:=Za hg5;have HQ2:=Za q2;clear B5 hg5 hl5 q2)
  |((with_reducible refine Zag 5 ?_);refine Zf _ rfl _ _ _ rfl b5 _ X.toArray rfl rfl HB5.out HL.out HZL.out (all_oneCell_toArray H1.out) ?_;intro w3 B6 r6;have HQ3:=Za (Zb HB1.out (Ze HQ2.out r6 HG5.out));have cc0:=B6.cell 0;rw [List.getElem?_toArray,HC0.out] at cc0;clear B6 r6))
 go_ret;exact ⟨rfl,HQ3.out⟩
theorem Zec {w0:World} {g:Nat} {vp vf:Value} {room:Nat} {ss:List Sp} {fr:List Nat} (h0:Rs w0 g vp vf room ss fr):∀(T:Tre) (h:Nat) (w:World),Kb w0 w→IsS ss h T→T.ents.length≤10000→Kc 173 #[.pointer (some ⟨g,0,none⟩),.int .i64 (h:Int)] w (EnPost w0 T.ents w)
 | .emp,h,w,hb,e,_=>by
  have e:h=0:=e;subst e;exact (Zjd (h0.grow hb) ((0:Nat):Int) rfl).mono fun e w' ⟨e1,b⟩=>⟨_,[],e1,rfl,fun p hp=>(by cases hp),World.ownsRow_nil _ _ _ _,b⟩
 | .lf k bs,h,w,hb,⟨h1,h2,h3,h4⟩,_=>by
  have hR:=h0.grow hb;have hs:=Ztz ss h1;have ho:=Zch hR (h-1);have HA:Hid (Kc 94 #[.pointer (some ⟨g,0,none⟩),.int .i64 (h:Int)] w fun e w'=>e=.returned (.agg (sz7 (spAt ss (h-1))).toArray)∧Kb w w'):=by
   have:=Zbc hR (h:Int);rwa [hs] at this
  have hrd:Reads w0 (spAt ss (h-1)).val (spAt ss (h-1)).bs:=by
   have hin:h-1<ss.length:=Zgd (by rw [h2];omega);obtain ⟨sp,hown⟩:=h0.vals (spAt ss (h-1)) (by rw [show spAt ss (h-1)=ss[h-1] by simp [spAt,hin]];exact List.getElem_mem hin);exact hown.reads
  obtain ⟨s,hse⟩:∃s,s=spAt ss (h-1):=⟨_,rfl⟩;rw [← hse] at HA hrd h2 h3 h4 ho;have HL:Hid ((Tryz.prog.info? 153).map (·.size)=some (sz7 s).toArray.size):=by show _=_;rw [List.size_toArray,Zr _ ho.hk.1];exact Zbk
  have HZ:=Za Zcp;have HZL:Hid ((sz7 zs7).toArray.size=(sz7 s).toArray.size):=by show _=_;rw [List.size_toArray,List.size_toArray,Zr _ ho.hk.1];rfl
  have H1:=Za (Zca ho);have c0:=(Zbq s ho.hk.1).1;rw [h2] at c0;have HEN:Hid (∀w' b,Blk w' b 153 (sz7 s).toArray→w'.rangeAt b 2 (encP k s.val)):=fun w' b hB j v hv=>by
   rw [hB.cell,List.getElem?_toArray];unfold sz7;rw [h3,show 2+j=(j+1)+1 by omega,List.getElem?_cons_succ,List.getElem?_cons_succ];have hj:=(List.getElem?_eq_some_iff.1 hv).1;rw [List.getElem?_append_left hj];exact hv
  have hkl:k.length=32:=by rw [← h3];exact ho.hk.1
  have hkk:Key k:=by rw [← h3];exact ho.hk
  rw [h4] at hrd;have HRD:=Za hrd;have HPost:Hid (∀w',Kb w w'→EnPost w0 [(k,bs)] w (.returned (.slice (some ⟨w'.heap.size,0,none⟩) 1 1)) (w'.alloc (.cells (encP k s.val).toArray 58))):=fun w' b=>by
   refine ⟨_,[((k,bs),s.val)],rfl,rfl,fun p hp=>?_,?_,Zb b (Zc _ _)⟩
   ·obtain rfl:p=((k,bs),s.val):=by simpa using hp
    exact ⟨hkk,HRD.out⟩
   ·have:=Zaj (Zzs w' k s.val hkl) b.size;simpa [flatP] using this
  have HKL:=Za hkl;have HPZ:Hid ((Tryz.prog.info? 58).map (·.size)=some (encP k s.val).length):=by show _=_;rw [Zab _ _ hkl];exact Zlg
  obtain ⟨fP,hfP⟩:=Yga;have HUPa:=Za hfP;generalize sz7 zs7=Z at HZ HZL;generalize sz7 s=X at HA HL HZL H1 c0 HEN;have HC0:=Za c0;generalize (h:Int)=hy at HA ⊢;show Kc _ _ w (EnPost w0 [(k,bs)] w);generalize EnPost w0 [(k,bs)] w=P at HPost ⊢;clear h2 h3 h4 ho c0 hR hs hse hrd hkl hkk hfP hb;go_enter Tryz.func173,Tryz.ntmps173
  go_wp2_with (first
   |(go_at_call 94;refine HA.out.mono ?_;rintro e w1 ⟨rfl,b1⟩;have HB1:=Za b1;clear b1)
   |((with_reducible refine Zv 5 ?_);refine Zh _ rfl _ rfl _ HZ.out ?_;intro w2 b5 hg5 hl5 B5 q2;have HB5:=Za B5;have HG5:=Za hg5;have HQ2:=Za q2;clear B5 hg5 hl5 q2)
   |((with_reducible refine Zag 5 ?_);refine Zf _ rfl _ _ _ rfl b5 _ X.toArray rfl rfl HB5.out HL.out HZL.out (all_oneCell_toArray H1.out) ?_;intro w3 B6 r6;have HQ3:=Za (Zb HB1.out (Ze HQ2.out r6 HG5.out));have HB6:=Za B6;have cc0:=B6.cell 0;rw [List.getElem?_toArray,HC0.out] at cc0;clear B6 r6)
   |((with_reducible refine Zk 13 12 ?_);refine wpList_load_mid rfl 58 _ rfl b5 2 rfl (encP k s.val) _ (HEN.out _ _ HB6.out) HUPa.out rfl HPZ.out ?_)
   |(refine Zqp _ rfl _ rfl k s.val rfl HKL.out ?_))
  exact HPost.out _ HQ3.out
 | .nd d hl hr L R,h,w,hb,⟨h1,h2,h3,h4,h5,h6,h7⟩,hn=>by
  have hR:=h0.grow hb;have hs:=Ztz ss h1;have ho:=Zch hR (h-1);have hnL:L.ents.length+R.ents.length≤10000:=by rw [← List.length_append];exact hn
  have HIL:Hid (∀w',Kb w w'→Kc 173 #[.pointer (some ⟨g,0,none⟩),.int .i64 (hl:Int)] w' (EnPost w0 L.ents w')):=fun w' b=>Zec h0 L hl w' (Zb hb b) h6 (by omega)
  have HIR:Hid (∀w',Kb w w'→Kc 173 #[.pointer (some ⟨g,0,none⟩),.int .i64 (hr:Int)] w' (EnPost w0 R.ents w')):=fun w' b=>Zec h0 R hr w' (Zb hb b) h7 (by omega)
  have HA:Hid (Kc 94 #[.pointer (some ⟨g,0,none⟩),.int .i64 (h:Int)] w fun e w'=>e=.returned (.agg (sz7 (spAt ss (h-1))).toArray)∧Kb w w'):=by
   have:=Zbc hR (h:Int);rwa [hs] at this
  obtain ⟨s,hse⟩:∃s,s=spAt ss (h-1):=⟨_,rfl⟩;rw [← hse] at HA h2 h3 h4 h5 ho;have HL:Hid ((Tryz.prog.info? 153).map (·.size)=some (sz7 s).toArray.size):=by show _=_;rw [List.size_toArray,Zr _ ho.hk.1];exact Zbk
  have HZ:=Za Zcp;have HZL:Hid ((sz7 zs7).toArray.size=(sz7 s).toArray.size):=by show _=_;rw [List.size_toArray,List.size_toArray,Zr _ ho.hk.1];rfl
  have H1:=Za (Zca ho);have hcs:=Zbq s ho.hk.1;have c0:=hcs.1;have cl:=hcs.2.2.2.1;have cr:=hcs.2.2.2.2.1;rw [h2] at c0;rw [h4] at cl;rw [h5] at cr;have HTN:=Za hnL;have HPost:Hid (∀(its1 its2:List (Ent×Value)) v w1 w',its1.map (·.1)=L.ents→its2.map (·.1)=R.ents→(∀p∈its1,Key p.1.1∧Reads w0 p.2 p.1.2)→(∀p∈its2,Key p.1.1∧Reads w0 p.2 p.1.2)→w'.ownsRow w.heap.size 58 33 v (its1.length+its2.length) (flatP its1++flatP its2)→Kb w w1→Kb w w'→EnPost w0 (L.ents++R.ents) w (.returned v) w'):=fun its1 its2 v w1 w' m1 m2 p1 p2 o _ b=>by
   refine ⟨v,its1++its2,rfl,by rw [List.map_append,m1,m2],fun p hp=>?_,?_,b⟩
   ·rcases List.mem_append.1 hp with hp | hp
    ·exact p1 p hp
    ·exact p2 p hp
   ·rw [List.length_append,show flatP (its1++its2)=flatP its1++flatP its2 by simp [flatP]];exact o
  generalize sz7 zs7=Z at HZ HZL;generalize sz7 s=X at HA HL HZL H1 c0 cl cr;have HC0:=Za c0;have HXl:=Za cl;have HXr:=Za cr;generalize (h:Int)=hy at HA ⊢;generalize (hl:Int)=ly at HIL HXl;generalize (hr:Int)=ry at HIR HXr;show Kc _ _ w (EnPost w0 (L.ents++R.ents) w);generalize EnPost w0 (L.ents++R.ents) w=P at HPost ⊢;clear h2 h3 h4 h5 h6 h7 ho c0 cl cr hcs hR hs hse hn hnL hb;go_enter Tryz.func173,Tryz.ntmps173
  go_wp2_with (first
   |(go_at_call 94;refine HA.out.mono ?_;rintro e w1 ⟨rfl,b1⟩;have HB1:=Za b1;clear b1)
   |((with_reducible refine Zv 5 ?_);refine Zh _ rfl _ rfl _ HZ.out ?_;intro w2 b5 hg5 hl5 B5 q2;have HB5:=Za B5;have HG5:=Za hg5;have HQ2:=Za q2;clear B5 hg5 hl5 q2)
   |((with_reducible refine Zag 5 ?_);refine Zf _ rfl _ _ _ rfl b5 _ X.toArray rfl rfl HB5.out HL.out HZL.out (all_oneCell_toArray H1.out) ?_;intro w3 B6 r6;have HQ3:=Za (Zb HB1.out (Ze HQ2.out r6 HG5.out));have HB6:=Za B6;have cc0:=B6.cell 0;rw [List.getElem?_toArray,HC0.out] at cc0;clear B6 r6))
  have HCl:Hid (∀w',Kb w3 w'→w'.cell? ⟨b5,35,none⟩=some (.int .i64 ly)):=fun w' b=>by rw [(HB6.out.grow b).cell,List.getElem?_toArray];exact HXl.out
  have HCr:Hid (∀w',Kb w3 w'→w'.cell? ⟨b5,36,none⟩=some (.int .i64 ry)):=fun w' b=>by rw [(HB6.out.grow b).cell,List.getElem?_toArray];exact HXr.out
  refine wp_region_held_drew (S:=fun w'=>Kb w3 w') (by kernel_rfl) ((below_drewN (Below.refl _ _) 1)) (fun hHeld=>?_);refine tkp 0 (.pointer (some ⟨g,0,none⟩)) hHeld ?_;simp only [zq];refine tkp 1 (.pointer (some ⟨b5,35,none⟩)) hHeld ?_;simp only [zq];refine tkg 2 (.int .i64 ly) rfl (Or.inl ⟨by rfl,fun w hS=>by (have q1:=HCl.out _ hS;go_simp)⟩) hHeld ?_;simp only [zq];refine tkp 4 (.pointer (some ⟨g,0,none⟩)) hHeld ?_;simp only [zq];refine tkp 5 (.pointer (some ⟨b5,36,none⟩)) hHeld ?_;simp only [zq];refine tkg 6 (.int .i64 ry) rfl (Or.inl ⟨by rfl,fun w hS=>by (have q1:=HCr.out _ hS;go_simp)⟩) hHeld ?_;simp only [zq];refine wpAnyH_ready (rs:=[3]) (by kernel_rfl) (by simp) ?_;refine AllReadyH.cons rfl (fun KQ hK=>?_) AllReadyH.nil;go_simp;refine (HIL.out _ (Zb HQ3.out hHeld)).mono ?_;rintro e z1 ⟨v1,its1,rfl,m1,p1,o1,q1⟩;have O1:=Za o1;have P1:=Za p1;have M1:=Za m1;have Q1:=Za q1;have HS1:=Za hHeld;clear o1 p1 m1 q1;refine hK.out _ _ (Zb hHeld Q1.out) (fun hHeld=>?_);clear hK KQ;refine wpAnyH_ready (rs:=[7]) (by kernel_rfl) (by simp) ?_;refine AllReadyH.cons rfl (fun KQ hK=>?_) AllReadyH.nil;go_simp;refine (HIR.out _ (Zb HQ3.out hHeld)).mono ?_;rintro e z2 ⟨v2,its2,rfl,m2,p2,o2,q2⟩;have O2:=Za o2;have P2:=Za p2;have M2:=Za m2;have Q2:=Za q2;have HS2:=Za hHeld;clear o2 p2 m2 q2;refine hK.out _ _ (Zb hHeld Q2.out) (fun hHeld=>?_);clear hK KQ;have O1c:Hid (z2.ownsRow w3.heap.size 58 33 v1 its1.length (flatP its1)):=Zaj (Zl O1.out Q2.out) HS1.out.size;have O1b:=Za (Zaj (base':=w.heap.size) (Zl O1.out Q2.out) (Zb HQ3.out HS1.out).size);have HN12:Hid (its1.length+its2.length≤10000):=by
   have e1:=congrArg List.length M1.out;have e2:=congrArg List.length M2.out;rw [List.length_map] at e1 e2;have:=HTN.out;show _≤_;omega
  refine wpAnyH_ready (rs:=[8]) (by kernel_rfl) (by simp) ?_;refine AllReadyH.cons rfl (fun KQ hK=>?_) AllReadyH.nil;refine Zqz _ rfl _ _ rfl w.heap.size z1.heap.size v1 v2 its1.length its2.length (flatP its1) (flatP its2) rfl rfl O1b.out (Zaj O2.out (Nat.le_refl _)) (Zdj P2.out) (by have:=HN12.out;omega) (Nat.le_trans (Zb HQ3.out hHeld).size (Nat.le_refl _)) ?_;intro v8 z8 o8 g8;have HB8:Hid (Kb w3 z8):=Zaf hHeld O1c.out (Nat.le_refl _) g8;have O8:=Za o8;refine hK.out _ _ HB8.out (fun hHeld=>?_);clear hK KQ o8 g8;refine tkp 9 v8 hHeld ?_;simp only [zq];refine wpAnyH_done (by kernel_rfl) ?_ _;have HF:=Za hHeld;clear hHeld;go_wp2
  exact HPost.out its1 its2 v8 w3 _ M1.out M2.out P1.out P2.out O8.out HQ3.out (Zb HQ3.out HF.out)
structure SatIs (cs:Lz) (ss:List Sp) (q:Int):Prop where
 kind:(sat ss q).kind=(cat cs q).kind
 d:(sat ss q).d=(cat cs q).dp
 bs:(sat ss q).bs=(cat cs q).bs
 l:(sat ss q).l=(cat cs q).l
 r:(sat ss q).r=(cat cs q).r
 own:(sat ss q).own=cot cs q-(cat cs q).ab
 sum:(sat ss q).own+(sat ss q).sd=cot cs q
 key:(cat cs q).kind=1→(sat ss q).key=(cat cs q).key
theorem Zcc (R:Rel7 cs [] [] ss) (W:Wf cs []) (q:Int):SatIs cs ss q:=by
 by_cases h:1≤q
 ·have hle:=W.le (q-1).toNat;have ho:=R.own (q-1).toNat;have hs:=R.sd (q-1).toNat;rw [List.count_nil] at hle hs;unfold Go.Proofs.YtlclabbnpjobgaaGreatDoor.own at ho;rw [List.count_nil] at ho;constructor <;> simp only [sat,cat,cot,if_pos h]
  ·exact R.kind _
  ·exact R.d _
  ·exact R.bs _
  ·exact R.l _
  ·exact R.r _
  ·omega
  ·omega
  ·exact R.key _
 ·constructor <;> simp only [sat,cat,cot,if_neg h]
  all_goals first | rfl | (intro e;exact absurd e (by decide))
theorem Zsw (W:Wf cs []) (q:Int):((cat cs q).kind=0∧cat cs q=zc)∨∃(n:Nat) (T:Tre),q=(n:Int)∧1≤n∧0<cc cs (n-1)∧IsT cs n T∧cat cs q=ce cs (n-1)∧((cat cs q).kind=1∨(cat cs q).kind=2):=by
 by_cases hc:cot cs q=0
 ·have:=W.cat0 hc;exact .inl ⟨by rw [this];rfl,this⟩
 ·obtain ⟨i,e,hi,_,hce⟩:=Zel (cs:=cs) (h:=q) (by omega);obtain ⟨T,hT⟩:=Zmv W i hi;exact .inr ⟨i+1,T,by omega,by omega,hi,hT,hce,by rw [hce];exact W.kinds i hi⟩
theorem Zhg (W:Wf cs []) {n m:Nat} {T:Tre} (hT:IsT cs n T) (h:cs.length≤m):T.ents.length≤m:=Nat.le_trans (Zbb W T n hT).few h
theorem Ygn (h:Rs w g vp vf room ss fr) (R:Rel7 cs [] [] ss) (W:Wf cs []) (q:Int):Kc 101 #[.pointer (some ⟨g,0,none⟩),.int .i64 q] w fun e w'=>e=.returned (.int .i64 (vRt true (cot cs q) (cat cs q) q))∧Kb w w':=by
 have c0:=h.c0;have hS:=Zcc R W q;have hdp:dp7 (sat ss q)=vDp true (cat cs q):=by
  unfold dp7 vDp;rw [hS.kind,hS.d,if_pos rfl]
 have HD:Hid (Kr w 149 #[.pointer (some ⟨g,0,none⟩),.int .i64 q] (.int .i64 (vDp true (cat cs q)))):=fun w' hb=>by
  have:=Ydt (h.grow hb) q;rwa [hdp] at this
 have HH:=Za (Zbr h q)
 by_cases hq0:q=0
 ·subst hq0;have HV:Hid (vRt true (cot cs 0) (cat cs 0) 0=0):=rfl;rw [HV.out];clear h R W HD HH hdp hS;go_enter Tryz.func101,Tryz.ntmps101
  go_wp2_with (go_at_call 88;refine (Zz g _ c0).mono ?_;rintro e w' ⟨rfl,hx⟩;rw [hx];clear hx w')
  go_ret;exact ⟨rfl,Below.refl _ _⟩
 ·have hb0:(q == 0)=false:=by simp [hq0]
  by_cases hc:cot cs q=0
  ·have HV:Hid (vRt true (cot cs q) (cat cs q) q=7):=by simp [vRt,hq0,hc,Hid]
   rw [HV.out];have hk:(sat ss q).kind=0:=by rw [hS.kind,W.cat0 hc];rfl
   have e1:decide ((sat ss q).kind≠0)=false:=by simp [hk]
   rw [e1] at HH;clear h R W HD hdp hS hk e1 HV hc hq0;go_enter Tryz.func101,Tryz.ntmps101
   go_wp2_with (first
    |(go_at_call 88;refine (Zz g _ c0).mono ?_;rintro e w' ⟨rfl,hx⟩;rw [hx];clear hx w')
    |(go_at_call 89;refine HH.out.mono ?_;rintro e w' ⟨rfl,hx⟩;rw [hx];clear hx w'))
   go_ret;exact ⟨rfl,Below.refl _ _⟩
  ·have hk: ¬(sat ss q).kind=0:=by
    rw [hS.kind];obtain ⟨i,e,hi,_,hce⟩:=Zel (cs:=cs) (h:=q) (by omega);rw [hce];rcases W.kinds i hi with k | k <;> omega
   have e1:decide ((sat ss q).kind≠0)=true:=by simp [hk]
   rw [e1] at HH;have hv:vRt true (cot cs q) (cat cs q) q=if 0<vDp true (cat cs q) then 2 else 0:=by simp [vRt,hq0,hc]
   rw [hv];generalize vDp true (cat cs q)=dd at HD ⊢;clear h R W hdp hS hk e1 hc hq0 hv
   by_cases hd:0<dd
   ·rw [if_pos hd];go_enter Tryz.func101,Tryz.ntmps101
    go_wp2_with (first
     |(go_at_call 88;refine (Zz g _ c0).mono ?_;rintro e w' ⟨rfl,hx⟩;rw [hx];clear hx w')
     |(go_at_call 89;refine HH.out.mono ?_;rintro e w' ⟨rfl,hx⟩;rw [hx];clear hx w')
     |(go_at_call 149;refine (HD.out _ (Below.refl _ _)).mono ?_;rintro e w2 ⟨rfl,b2⟩))
    go_ret;exact ⟨rfl,b2⟩
   ·rw [if_neg hd];go_enter Tryz.func101,Tryz.ntmps101
    go_wp2_with (first
     |(go_at_call 88;refine (Zz g _ c0).mono ?_;rintro e w' ⟨rfl,hx⟩;rw [hx];clear hx w')
     |(go_at_call 89;refine HH.out.mono ?_;rintro e w' ⟨rfl,hx⟩;rw [hx];clear hx w')
     |(go_at_call 149;refine (HD.out _ (Below.refl _ _)).mono ?_;rintro e w2 ⟨rfl,b2⟩))
    go_ret;exact ⟨rfl,b2⟩
theorem Ygq (h:Rs w g vp vf room ss fr) (R:Rel7 cs [] [] ss) (W:Wf cs []) (q:Int) (b:Bool) (hb:b=true↔mayP cs q):Kc 195 #[.pointer (some ⟨g,0,none⟩),.int .i64 q] w fun e w'=>e=.returned (.bool b)∧Kb w w':=by
 have hS:=Zcc R W q;have HH:=Za (Zbr h q);have HA:Hid (Kr w 94 #[.pointer (some ⟨g,0,none⟩),.int .i64 q] (.agg (sz7 (sat ss q)).toArray)):=fun w' hb=>Zbc (h.grow hb) q
 have hf:=Zmg (Zbz h q)
 by_cases hq0:q=0
 ·have:b=true:=hb.2 (.inl hq0);subst this;subst hq0;clear h R W hS HH HA hf hb;go_enter Tryz.func195,Tryz.ntmps195
  go_wp2
  go_ret;exact ⟨rfl,Below.refl _ _⟩
 ·have hb0:(q == 0)=false:=by simp [hq0]
  have hbb:b=true↔0<(sat ss q).own:=by
   rw [hb,hS.own];unfold mayP;constructor
   ·rintro (e | e)
    ·exact absurd e hq0
    ·omega
   ·intro e;exact .inr (by omega)
  by_cases hk:(sat ss q).kind=0
  ·have e1:decide ((sat ss q).kind≠0)=false:=by simp [hk]
   rw [e1] at HH;have hc:cot cs q=0:=by
    apply Classical.byContradiction;intro hc;obtain ⟨i,e,hi,_,hce⟩:=Zel (cs:=cs) (h:=q) (by omega);rw [hS.kind,hce] at hk;rcases W.kinds i hi with k | k <;> omega
   have:b=false:=by
    cases b with
    | false=>rfl
    | true=>
     have h1:=hbb.1 rfl;rw [hS.own,hc] at h1;omega
   subst this;clear h R W hS HA hf hb hbb hk e1 hc hq0;go_enter Tryz.func195,Tryz.ntmps195
   go_wp2_with (go_at_call 89;refine HH.out.mono ?_;rintro e w' ⟨rfl,hx⟩;rw [hx];clear hx w')
   go_ret;exact ⟨rfl,Below.refl _ _⟩
  ·have e1:decide ((sat ss q).kind≠0)=true:=by simp [hk]
   rw [e1] at HH;have hd:decide ((0:Int)<((sat ss q).own:Int))=b:=by
    cases b with
    | true=>
     have:=hbb.1 rfl;simp;omega
    | false=>
     have: ¬0<(sat ss q).own:=fun e=>by have:=hbb.2 e;cases this
     simp;omega
   generalize (sat ss q).own=oo at hf hd;generalize sz7 (sat ss q)=X at HA hf;clear h R W hS hb hbb hk e1 hq0;have hd2:decide (0<oo)=b:=by rw [← hd];simp
   go_enter Tryz.func195,Tryz.ntmps195
   go_wp2_with (first
    |(go_at_call 89;refine HH.out.mono ?_;rintro e w' ⟨rfl,hx⟩;rw [hx];clear hx w')
    |(go_at_call 94;refine (HA.out _ (Below.refl _ _)).mono ?_;rintro e w2 ⟨rfl,b2⟩))
   go_ret;exact ⟨by first | rfl | simp [hd2],b2⟩
end Go.Proofs.YtlclabbnpjobgaaGreatDoor
