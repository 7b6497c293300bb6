/- What stands in every world that differs in some blocks alone; rows of any kind that are the call's own. -/
import Derived.Test.YtabiglnmfdpcfaaGreatDoorBz01
import Derived.Test.YtabiglnmfdpcfaaGreatDoorBz20
import Derived.Test.YtabiglnmfdpcfaaGreatDoorBz22
import Derived.Test.YtabiglnmfdpcfaaGreatDoorBz16
import Derived.Test.YtabiglnmfdpcfaaGreatDoorBz19
import Derived.Test.YtabiglnmfdpcfaaGreatDoorBz15
namespace Go.Proofs.YtabiglnmfdpcfaaGreatDoor
variable {S S1:List Nat}
variable {base bp g k n:Nat}
variable {lv sv v vf vp:Value}
variable {w w' w0 w1 w4 wa:World}
variable {xs:List Value}
set_option maxRecDepth 20000
open Go.RowKit

def Kq (S:List Nat) (w:World) (P:World→Prop):Prop:=∀w',Mod S w w'→P w'
theorem Kq.now {P:World→Prop} (h:Kq S w P):P w:=h w (Mod.refl _ _)
theorem Kq.turn {P:World→Prop} (h:Kq S w P) (m:Mod S w w1) (n:New S w S1):Kq S1 w1 P:=fun w' m'=>h w' (m.trans n m')
theorem Kq.step {P:World→Prop} (h:Kq S w P) (m:Mod S w w1):Kq S w1 P:=h.turn m (New.refl _ _)
theorem Kq.grow {P:World→Prop} (h:Kq S w P) (b:Kb w w1):Kq S w1 P:=h.step (Mod.of_below b S)
theorem Kq.blk {t:TypeId} {cs:Array Value} (h:Blk w g t cs) (hn:g ∉ S):Kq S w (fun w'=>Blk w' g t cs):=fun _ m=>h.mod m hn
theorem Kq.of_low {P:World→Prop} (h:∀w',Kb w0 w'→P w') (hb:Kb w0 w) (hS:∀k∈S,w0.heap.size≤k):Kq S w P:=fun w' m=>h w' (hb.trans (m.below hS hb.size))

theorem owR_mod {e:TypeId} (h:w.ownsRow base e k v n xs) (m:Mod S w w') (hn:∀g,v.ownBlock=some g→g ∉ S):w'.ownsRow base e k v n xs:=by
  refine ⟨h.1,?_⟩;rcases h.2 with hh | ⟨g,cap,cur,rfl,hb,hgg,rest⟩
  · exact .inl hh
  · exact .inr ⟨g,cap,cur,rfl,hb,(m.block g (Array.getElem?_eq_some_iff.1 hgg).1 (hn g rfl)).trans hgg,rest⟩
theorem owR_grow {e:TypeId} (h:w.ownsRow base e k v n xs) (hb:Kb w w'):w'.ownsRow base e k v n xs:=owR_mod h (Mod.of_below hb []) (fun _ _ h=>by cases h)
theorem owR_base {base':Nat} {e:TypeId} (h:w.ownsRow base e k v n xs) (hb:base'≤base):w.ownsRow base' e k v n xs:=by
  refine ⟨h.1,h.2.imp id ?_⟩;rintro ⟨g,cap,cur,e1,e2,e3⟩;exact ⟨g,cap,cur,e1,Nat.le_trans hb e2,e3⟩
theorem owR_lst {e:TypeId} (h:w.ownsRow base e k v n xs):Lst w e k v n xs:=⟨h.1,h.2.imp id (fun ⟨g,cap,cur,a1,_,a3⟩=>⟨g,cap,cur,a1,Nat.zero_le _,a3⟩)⟩
end Go.Proofs.YtabiglnmfdpcfaaGreatDoor

namespace Go.Proofs.YtabiglnmfdpcfaaGreatDoor
variable {S S1:List Nat}
variable {base bp g k n:Nat}
variable {lv sv v vf vp:Value}
variable {w w' w0 w1 w4 wa:World}
variable {xs:List Value}
set_option maxRecDepth 20000
open Go.RowKit

def encPl (n:Pn):List Value:=Value.int .u8 (if n.inn then 2 else 1)::(encW n.w++[.int .i64 (n.dp:Int),.int .i64 n.l,.int .i64 n.r])

theorem encPl_len {n:Pn} (h:WtOk n.w):(encPl n).length=38:=by simp [encPl,h.len]
theorem encPl_one {n:Pn} (h:WtOk n.w):∀u∈encPl n,u.oneCell'=true:=fun u hu=>by
  unfold encPl at hu;rcases List.mem_cons.1 hu with rfl | hu
  · rfl
  · rcases List.mem_append.1 hu with hu | hu
    · exact h.one u hu
    · simp only [List.mem_cons,List.not_mem_nil,or_false] at hu
      rcases hu with rfl | rfl | rfl <;> rfl
theorem wtZ_ok:WtOk wtZ:=zW_ok

theorem size_pl:(Tryz.prog.info? 139).map (·.size)=some 38:=by kernel_rfl

theorem info_pl:∃i z,Tryz.prog.info? 139=some i∧i.zero=some z∧i.size=38∧i.bytes=96∧z.cells.size=38:=by
  refine ⟨_,_,rfl,rfl,?_,?_,?_⟩ <;> kernel_rfl

def pnPlaces:Nat→Option (Nat×Nat):=fun i=>(#[(0,1),(1,34),(35,1),(36,1),(37,1)]:Array (Nat×Nat))[i]?

def zPl (k:Int) (e:List Value) (d a b:Int):List Value:=Value.int .u8 k::(e++[.int .i64 d,.int .i64 a,.int .i64 b])

theorem built_pnE (ps:List (Nat×Value)):Tryz.prog.built 139 ps=Instr.fill pnPlaces (zPl 0 (encW wtZ) 0 0 0).toArray ps:=by kernel_rfl

theorem zPl_len (k:Int) (e:List Value) (d a b:Int) (h:e.length=34):(zPl k e d a b).length=38:=by simp [zPl,h]
theorem fp_mid (i off n:Nat) (v:Value) (p q r xs:List Value) (rest:List (Nat×Value)) (hi:pnPlaces i=some (off,n)) (hv:v.cells=xs.toArray) (hx:xs.length=n) (hp:p.length=off) (hq:q.length=n):Instr.fill pnPlaces (p++(q++r)).toArray ((i,v)::rest)=Instr.fill pnPlaces (p++(xs++r)).toArray rest:=by
  rw [fill_one pnPlaces i off n v xs _ rest hi hv hx (by simp;omega),← hp,List.take_left' rfl,List.append_assoc,show p.length+n=(p++q).length by simp [hq],← List.append_assoc p q r,List.drop_left' rfl]
theorem fp_kind (k k':Int) (e:List Value) (d a b:Int) (rest:List (Nat×Value)):Instr.fill pnPlaces (zPl k e d a b).toArray ((0,.int .u8 k')::rest)=Instr.fill pnPlaces (zPl k' e d a b).toArray rest:=
  fp_mid 0 0 1 _ [] [Value.int .u8 k] _ [Value.int .u8 k'] rest rfl rfl rfl rfl rfl
theorem fp_w (k:Int) (e e':List Value) (d a b:Int) (h:e.length=34) (h':e'.length=34) (rest:List (Nat×Value)):Instr.fill pnPlaces (zPl k e d a b).toArray ((1,.agg e'.toArray)::rest)=Instr.fill pnPlaces (zPl k e' d a b).toArray rest:=
  fp_mid 1 1 34 _ [Value.int .u8 k] e _ e' rest rfl rfl h' rfl h
theorem fp_d (k:Int) (e:List Value) (d d' a b:Int) (h:e.length=34) (rest:List (Nat×Value)):Instr.fill pnPlaces (zPl k e d a b).toArray ((2,.int .i64 d')::rest)=Instr.fill pnPlaces (zPl k e d' a b).toArray rest:=by
  have:=fp_mid 2 35 1 (.int .i64 d') (Value.int .u8 k::e) [Value.int .i64 d] [.int .i64 a,.int .i64 b] [Value.int .i64 d'] rest rfl rfl rfl (by simp [h]) rfl;simpa [zPl] using this
theorem fp_a (k:Int) (e:List Value) (d a a' b:Int) (h:e.length=34) (rest:List (Nat×Value)):Instr.fill pnPlaces (zPl k e d a b).toArray ((3,.int .i64 a')::rest)=Instr.fill pnPlaces (zPl k e d a' b).toArray rest:=by
  have:=fp_mid 3 36 1 (.int .i64 a') (Value.int .u8 k::(e++[.int .i64 d])) [Value.int .i64 a] [.int .i64 b] [Value.int .i64 a'] rest rfl rfl rfl (by simp [h]) rfl;simpa [zPl] using this
theorem fp_b (k:Int) (e:List Value) (d a b b':Int) (h:e.length=34) (rest:List (Nat×Value)):Instr.fill pnPlaces (zPl k e d a b).toArray ((4,.int .i64 b')::rest)=Instr.fill pnPlaces (zPl k e d a b').toArray rest:=by
  have:=fp_mid 4 37 1 (.int .i64 b') (Value.int .u8 k::(e++[.int .i64 d,.int .i64 a])) [Value.int .i64 b] [] [Value.int .i64 b'] rest rfl rfl rfl (by simp [h]) rfl;simpa [zPl] using this

theorem built_pnL (x:Wt) (h:WtOk x):Tryz.prog.built 139 [(0,.int .u8 1),(1,.agg (encW x).toArray)]=some (encPl (pnL x)).toArray:=by
  rw [built_pnE];exact (fp_kind 0 1 _ 0 0 0 _).trans (fp_w 1 _ (encW x) 0 0 0 wtZ_ok.len h.len [])

theorem built_pnI (d:Nat) (a b:Int):Tryz.prog.built 139 [(0,.int .u8 2),(2,.int .i64 (d:Int)),(3,.int .i64 a),(4,.int .i64 b)]=some (encPl (pnI d a b)).toArray:=by
  rw [built_pnE];exact (fp_kind 0 2 _ 0 0 0 _).trans ((fp_d 2 _ 0 (d:Int) 0 0 wtZ_ok.len _).trans ((fp_a 2 _ (d:Int) 0 a 0 wtZ_ok.len _).trans (fp_b 2 _ (d:Int) a 0 b wtZ_ok.len [])))

structure PlM (wa w:World) (bp:Nat) (sv:Value) (ps:List Pn) (lv:Value):Prop where
  blk:Blk w bp 82 #[sv,lv]
  lst:w.ownsRow wa.heap.size 139 38 lv ps.length (flatE encPl ps)
  ok:∀n∈ps,WtOk n.w
  mod:Mod [bp] wa w

theorem PlM.grow {ps:List Pn} (h:PlM wa w bp sv ps lv) (hb:Kb w w'):PlM wa w' bp sv ps lv:=⟨h.blk.grow hb,owR_grow h.lst hb,h.ok,h.mod.trans' (Mod.of_below hb _)⟩
theorem PlM.cells {ps:List Pn} (h:PlM wa w bp sv ps lv):w.cell? ⟨bp,0,none⟩=some sv∧w.cell? ⟨bp,1,none⟩=some lv:=by
  rw [h.blk.cell,h.blk.cell];exact ⟨rfl,rfl⟩
theorem PlM.lne {ps:List Pn} (h:PlM wa w bp sv ps lv):lv.ownBlock≠some bp:=lst_blk_ne (owR_lst h.lst) h.blk (by decide)
theorem PlM.at {ps:List Pn} (h:PlM wa w bp sv ps lv) {i:Nat} (hi:i<ps.length):∃g c,lv=.slice (some ⟨g,0,none⟩) ps.length c∧w.rangeAt g (i * 38) (encPl ps[i]):=by
  obtain ⟨g,c,rfl,_⟩:=lst_pos (owR_lst h.lst) (by omega);exact ⟨g,c,rfl,(lstE_range (owR_lst h.lst) rfl (fun x hx=>encPl_len (h.ok x hx)) i hi).1⟩
theorem PlM.snoc {ps:List Pn} {lv':Value} (h:PlM wa w bp sv ps lv) (hb:Kb w w1) (hg:w1.grownBy w4 lv.ownBlock) (n:Pn) (hn:WtOk n.w) (ho:Lst w4 139 38 lv' (ps.length+1) (flatE encPl ps++encPl n)) (hw:WhereL w1 lv lv'):PlM wa (w4.setCell ⟨bp,1,none⟩ lv') bp sv (ps++[n]) lv':=by
  have h1:=h.grow hb;have md:Mod lv.ownBlock.toList w1 w4:=Mod.of_grown hg (fun k hk=>by simp [hk]);have hnb:bp ∉ lv.ownBlock.toList:=fun q=>h.lne (by simpa using q)
  have B4:Blk w4 bp 82 #[sv,lv]:=h1.blk.mod md hnb;have m5:Mod [bp] w4 (w4.setCell ⟨bp,1,none⟩ lv'):=Mod.setCell _ _ _ _ (by simp);have ln:=lst_blk_ne ho B4 (by decide);have hbase:∀g,lv'.ownBlock=some g→wa.heap.size≤g:=fun g hg'=>by
    rcases hw with e | ⟨k,e,hk⟩
    · rw [e] at hg'
      exact (h.lst.lt g hg').1
    · rw [e] at hg'
      injection hg' with hg';have:=h1.mod.size;omega
  have ho2:w4.ownsRow wa.heap.size 139 38 lv' (ps.length+1) (flatE encPl ps++encPl n):=by
    refine ⟨ho.1,ho.2.imp id ?_⟩;rintro ⟨g,cap,cur,rfl,_,rest⟩;exact ⟨g,cap,cur,rfl,hbase g rfl,rest⟩
  refine ⟨?_,?_,fun x hx=>?_,(h1.mod.trans (fun k hk=>.inr (h1.lst.lt k (by simpa using hk)).1) md).trans' m5⟩
  · have:=B4.set 1 lv'
    simpa using this
  · rw [List.length_append,List.length_singleton,flatE_snoc]
    exact owR_mod ho2 m5 (fun g hg e=>ln (by have e':g=bp:=(by simpa using e);rw [← e'];exact hg))
  · rcases List.mem_append.1 hx with q | q
    · exact h.ok x q
    · obtain rfl:x=n:=by simpa using q
      exact hn

theorem step_bsp1 {ops:Array Oper} {op:Oper} {a:Act} {K:Act→World→Prop} {Q:Exit→Act→World→Prop} {E:Prop} (w:World) (hgd:op.guard=none) (x:Operand) (ho:op.op=.buildSlice 80 1 #[(0,x)])
    (X:List Value) (hx:a.eval x=.agg X.toArray) (hl:X.length=38)
    (hk:K (a.put op.dst (.slice (some ⟨w.heap.size,0,none⟩) 1 1)) (w.alloc (.cells X.toArray 139))):if Region.wanted op (yielded ops a.tmps)=true then Oper.wp Tryz.prog op a w K Q else E:=by
  have hw:Region.wanted op (yielded ops a.tmps)=true:=by simp [Region.wanted,hgd]
  rw [if_pos hw];obtain ⟨i,z,hi,hz,hs,_,hzs⟩:=info_pl;have hrun:=run_buildSlice (P:=Tryz.prog) w 80 139 1 #[(0,.agg X.toArray)] X.toArray i z Tryz.underlying80 hi hz (by rw [hs];omega) (by rw [hs];omega) (by
    rw [hs];obtain ⟨zs,hzz,hzl⟩:∃zs:List Value,(Array.range (1 * 38)).map (z.cells[· % z.cells.size]!)=zs.toArray∧zs.length=38:=⟨_,(Array.toArray_toList).symm,by simp⟩;rw [hzz];have:=fill_one (fun i=>some (i * 38,38)) 0 0 38 (.agg X.toArray) X zs [] rfl rfl hl (by omega);rw [show (#[(0,Value.agg X.toArray)]:Array (Nat×Value)).toList=[(0,Value.agg X.toArray)] from rfl,this,Instr.fill];simp [hzl])
  unfold Oper.wp execOp;simp only [ho,List.map_toArray,List.map_cons,List.map_nil,hx,Sem.run_bind,hrun,Result.andThen_ok,Sem.run_pure];exact hk

theorem step_appL11 {P:Program} {ops:Array Oper} {o:Oper} {a:Act} {K:Act→World→Prop} {Q:Exit→Act→World→Prop} {E:Prop} (w:World) (hgd:o.guard=none) (s x:Operand) (t:TypeId)
    (ho:o.op=.call { callee:=.builtin .append,args:= #[s,x],argTypes:= #[t,t]})
    (e:TypeId) (size bytes:Nat) (ht:P.underlying t=some (.slice e)) (hin:∃i z,P.info? e=some i∧i.zero=some z∧i.size=size∧i.bytes=bytes∧z.cells.size=size) (hsz:0<size)
    (v:Value) (n:Nat) (xs:List Value) (hs:a.eval s=v) (hown:Lst w e size v n xs)
    (g:Nat) (news:List Value) (hx:a.eval x=.slice (some ⟨g,0,none⟩) 1 1) (hb:Blk w g e news.toArray) (hl:news.length=size) (h1:∀u∈news,u.oneCell'=true)
    (h63:n+1≤maxLen) (hbytes:(n+1) * bytes≤140737488355328)
    (hk:∀v' w',Lst w' e size v' (n+1) (xs++news)→w.grownBy w' v.ownBlock→WhereL w v v'→K (a.put o.dst v') w'):if Region.wanted o (yielded ops a.tmps)=true then Oper.wp P o a w K Q else E:=by
  have hw:Region.wanted o (yielded ops a.tmps)=true:=by simp [Region.wanted,hgd]
  rw [if_pos hw];obtain ⟨i,z,hi,hz,hsize,hby,hzs⟩:=hin;obtain ⟨v',w',hr,h2,h3,h4⟩:=run_appL (P:=P) w t o.type e i z size bytes ht hi hz hsize hby hzs hsz v n xs hown ⟨g,0,none⟩ 1 1 news (by omega) (by
    intro j q hq;rw [Addr.add_lit,Nat.zero_add,hb.cell];simpa using hq) h1 (by omega) h63 hbytes
  unfold Oper.wp execOp;simp only [ho,resolve,invoke,builtin,Sem.run_bind,Sem.run_pure,Result.andThen_ok,List.map_toArray,List.map_cons,List.map_nil,hs,hx,hr];exact hk v' w' h2 h3 h4

theorem neg_one (n:Nat) (h:n+1≤70000):wrap64 (-((n:Int)+1))= -((n:Int)+1):=Go.IntWalk.wrap64_in _ (by omega)

def AddPost (wa:World) (bp:Nat) (sv:Value) (ps:List Pn) (n:Pn) (e:Ending) (w':World):Prop:=e=.returned (.int .i64 (-((ps.length:Int)+1)))∧∃lv',PlM wa w' bp sv (ps++[n]) lv'

set_option maxHeartbeats 2000000 in
theorem padd_any {ps:List Pn} (h:PlM wa w bp sv ps lv) (n:Pn) (hn:WtOk n.w) (h6:ps.length+1≤65536):Kc 129 #[.pointer (some ⟨bp,0,none⟩),.agg (encPl n).toArray] w (AddPost wa bp sv ps n):=by
  obtain ⟨la,lc,rfl⟩:=lst_slice (owR_lst h.lst);have HR:=hidden h;have HXN:Hid ((encPl n).length=38):=encPl_len hn;have HXL:Hid ((Tryz.prog.info? 139).map (·.size)=some (encPl n).length):=by show _=_;rw [HXN.out];exact size_pl
  have HX1:=hidden (encPl_one hn);have HN:=hidden hn;obtain ⟨nn,hnn⟩:∃q,q=ps.length:=⟨_,rfl⟩;obtain ⟨XS,hXS⟩:∃q,q=flatE encPl ps:=⟨_,rfl⟩;have HPost:Hid (∀w',(∃lv',PlM wa w' bp sv (ps++[n]) lv')→AddPost wa bp sv ps n (.returned (.int .i64 (-((nn:Int)+1)))) w'):=fun w' q=>⟨by rw [hnn],q⟩
  have H6:Hid (nn+1≤65536):=by rw [hnn];exact h6
  have HSN:Hid (∀w1 w4 lv',Kb w w1→w1.grownBy w4 (Value.slice la nn lc).ownBlock→Lst w4 139 38 lv' (nn+1) (XS++encPl n)→WhereL w1 (.slice la nn lc) lv'→PlM wa (w4.setCell ⟨bp,1,none⟩ lv') bp sv (ps++[n]) lv'):=fun w1 w4 lv' hb hg hl hw=>by
    rw [hnn] at hg hl hw;rw [hXS] at hl;exact HR.out.snoc hb hg n HN.out hl hw
  have HR0:Hid (w.ownsRow 0 139 38 (.slice la nn lc) nn XS):=by rw [hnn,hXS];exact owR_base h.lst (Nat.zero_le _)
  have HBK:Hid (Blk w bp 82 #[sv,.slice la nn lc]):=by rw [hnn];exact h.blk
  have HNL:Hid ((Value.slice la nn lc).ownBlock≠some bp):=by rw [hnn];exact h.lne
  have HLT:Hid (∀g,(Value.slice la nn lc).ownBlock=some g→g<w.heap.size):=fun g hg=>(HR0.out.lt g hg).2
  have hwn:wrap64 (-((nn:Int)+1))= -((nn:Int)+1):=neg_one nn (by have:=H6.out;omega);generalize hX:encPl n=X at HXN HXL HX1 HSN ⊢;generalize AddPost wa bp sv ps n=PP at HPost ⊢;rw [← hnn] at h;clear h h6 hn hnn hXS hX HN HR;go_enter Tryz.func129,Tryz.ntmps129
  go_wp2_with (first
    |((with_reducible refine at_bxd 3 ?_);refine wpList_bx _ rfl _ _ rfl _ rfl ?_;intro w2 b3 hg3 hl3 B3 q3;have HB3:=hidden B3;have HG3:=hidden hg3;have HQ3:=hidden q3;clear hg3 hl3 B3 q3))
  have HR2:=hidden (owR_grow HR0.out HQ3.out);have HS7:Hid (∀w',Kb w2 w'→w'.cell? ⟨bp,1,none⟩=some (.slice la nn lc)∧w'.frozen? ⟨bp,1,none⟩=false∧w'.rangeAt b3 0 X):=fun w' hb=>by
    have B:=(HBK.out.grow HQ3.out).grow hb;refine ⟨by rw [B.cell];rfl,B.frozen 1,?_⟩;have:=(HB3.out.grow hb).range;simpa using this
  have HS75:Hid (∀w4 w5,Kb w2 w4→w4.grownBy w5 (Value.slice la nn lc).ownBlock→w5.cell? ⟨bp,1,none⟩=some (.slice la nn lc)∧w5.frozen? ⟨bp,1,none⟩=false∧w5.rangeAt b3 0 X):=fun w4 w5 hb hg=>by
    have md:Mod (Value.slice la nn lc).ownBlock.toList w4 w5:=Mod.of_grown hg (fun k hk=>by simp [hk]);have B:=((HBK.out.grow HQ3.out).grow hb).mod md (fun q=>HNL.out (by simpa using q));have B3:=(HB3.out.grow hb).mod md (fun q=>by
      have:=HLT.out b3 (by simpa using q);have:=HG3.out;omega)
    refine ⟨by rw [B.cell];rfl,B.frozen 1,?_⟩;have:=B3.range;simpa using this
  go_wp2_with fail
  refine wp_region_last (S:=fun w'=>w'.cell? ⟨bp,1,none⟩=some (.slice la nn lc)∧w'.frozen? ⟨bp,1,none⟩=false∧w'.rangeAt b3 0 X) 10 (by kernel_rfl) (HS7.out _ (below_drewN (Below.refl _ _) 1)) (fun hHeld=>?_);refine tlp 0 (.pointer (some ⟨bp,0,none⟩)) hHeld ?_;simp only [Act.put,zq1,zq2,zq4,zq5,zq6];refine tlp 1 (.pointer (some ⟨bp,0,none⟩)) hHeld ?_;simp only [Act.put,zq1,zq2,zq3,zq4,zq5,zq6];refine tlp 2 (.pointer (some ⟨bp,0,none⟩)) hHeld ?_;simp only [Act.put,zq1,zq2,zq3,zq4,zq5,zq6];refine tlp 3 (.pointer (some ⟨bp,1,none⟩)) hHeld ?_;simp only [Act.put,zq1,zq2,zq3,zq4,zq5,zq6];refine tlg 4 (.slice la nn lc) rfl (Or.inl ⟨by rfl,fun w hS=>by (have q1:=hS.1;go_simp)⟩) hHeld ?_;simp only [Act.put,zq1,zq2,zq3,zq4,zq5,zq6];refine tlg 5 (.agg X.toArray) rfl (yieldsIf_load_mid rfl 139 (.tmp 3) rfl b3 0 rfl X _ (fun w hS=>hS.2.2) Tryz.underlying139 rfl HXL.out) hHeld ?_;simp only [Act.put,zq1,zq2,zq3,zq4,zq5,zq6];refine wpAnyL_one (i:=6) rfl (by kernel_rfl) (fun KQ hK=>?_);have a4:Kb w2 (w2.drew.alloc (.cells X.toArray 139)):=grow_trans (below_drewN (Below.refl w2.heap.size w2) 1) (grow_alloc w2.drew (.cells X.toArray 139));refine step_bsp1 _ rfl _ rfl X rfl HXN.out ?_;refine hK.out _ _ (HS7.out _ a4) (fun hHeld=>?_);clear hK KQ;have HR4:=hidden (owR_grow HR2.out a4);refine wpAnyL_one (i:=7) rfl (by kernel_rfl) (fun KQ hK=>?_);refine step_appL11 _ rfl _ _ _ rfl 139 38 96 Tryz.underlying80 info_pl (by omega) _ nn XS rfl HR4.out w2.drew.heap.size X rfl (Blk.new _ _ _) HXN.out HX1.out (by have:=H6.out;simp only [maxLen];omega) (by have:=H6.out;omega) ?_;intro v5 w5 l5 g5 wh5;have hS5:=HS75.out _ w5 a4 g5;obtain ⟨a5,c5,rfl⟩:=lst_slice l5;refine hK.out _ _ hS5 (fun hHeld=>?_);clear hK KQ;refine tlp 8 (.pointer (some ⟨bp,0,none⟩)) hHeld ?_;simp only [Act.put,zq1,zq2,zq3,zq4,zq5,zq6];refine tlp 9 (.pointer (some ⟨bp,1,none⟩)) hHeld ?_;simp only [Act.put,zq1,zq2,zq3,zq4,zq5,zq6];obtain ⟨hc1,hc2,_⟩:=hHeld;refine wpAnyL_last rfl (by kernel_rfl) (by kernel_rfl) (fun KQ hK=>?_);go_simp
  
  refine hK.out _ _ ?_;clear hK KQ;have HPL:=hidden (HSN.out _ _ _ (grow_trans HQ3.out a4) g5 l5 wh5);have hcl:=HPL.out.cells.2;generalize w5.setCell ⟨bp,1,none⟩ (.slice a5 (nn+1) c5)=w6 at *;clear hc1 hc2 hS5 l5 g5 wh5 a4;go_wp2
  have hfin:=HPost.out w6 ⟨_,HPL.out⟩;rw [← hwn] at hfin;exact hfin

end Go.Proofs.YtabiglnmfdpcfaaGreatDoor

namespace Go.Proofs.YtabiglnmfdpcfaaGreatDoor
variable {S S1:List Nat}
variable {base bp g k n:Nat}
variable {lv sv v vf vp:Value}
variable {w w' w0 w1 w4 wa:World}
variable {xs:List Value}
set_option maxRecDepth 20000
open Go.RowKit

def Hs (w0:World) (S:List Nat) (w:World) (g gs room:Nat) (cs:Lz) (fr:List Nat):Prop:=STurn w0 g gs S room cs fr w∧Wf cs []

section
variable {w0 w:World} {S:List Nat} {g gs room:Nat} {cs:Lz} {fr:List Nat}

theorem Hs.here (s:Stm w g gs vp vf room cs fr) (W:Wf cs []):Hs w (stB g gs vp vf cs) w g gs room cs fr:=⟨STurn.refl (Below.refl _ _) s,W⟩
theorem Hs.mod (h:Hs w0 S w g gs room cs fr):Mod S w0 w:=by obtain ⟨⟨_,_,_,m,_⟩,_⟩:=h;exact m
theorem Hs.kq {P:World→Prop} (h:Hs w0 S w g gs room cs fr) (k:Kq S w0 P):P w:=k w h.mod
theorem Hs.grow (h:Hs w0 S w g gs room cs fr) (hb:Kb w w'):Hs w0 S w' g gs room cs fr:=by
  obtain ⟨t,W⟩:=h;exact ⟨t.trans fun vp vf s=>STurn.refl hb (s.grow hb),W⟩
theorem Hs.vw (h:Hs w0 S w g gs room cs fr):Vw w (.pointer (some ⟨g,0,none⟩)) true (cot cs) (cat cs):=by
  obtain ⟨⟨vp,vf,s,_,_⟩,W⟩:=h;exact vw_ok s W
theorem Hs.inv (h:Hs w0 S w g gs room cs fr):Inv room (cs.map pl) fr:=by
  obtain ⟨⟨vp,vf,s,_,_⟩,W⟩:=h;exact s.sl.inv
theorem Hs.frok (h:Hs w0 S w g gs room cs fr):FrOk cs fr:=frOk_inv h.inv
theorem Hs.free (h:Hs w0 S w g gs room cs fr) (hn:noc cs<room): ¬Full room cs fr:=fun f=>by
  have:=h.inv.sum;rw [f.1,List.length_map] at this;have:=f.2;unfold noc at hn;simp at *;omega
theorem Hs.from (h:Hs w0 S w g gs room cs fr):∃S',Hs w S' w g gs room cs fr∧New S w0 S'∧(∀P:World→Prop,Kq S w0 P→Kq S' w P)∧(∀k∈S',k<w.heap.size)∧∀w' cs' fr',Hs w S' w' g gs room cs' fr'→Hs w0 S w' g gs room cs' fr':=by
  obtain ⟨⟨vp,vf,s,m,n⟩,W⟩:=h;refine ⟨stB g gs vp vf cs,Hs.here s W,n,fun P k=>k.turn m n,s.lts,fun w' cs' fr' k=>⟨?_,k.2⟩⟩;obtain ⟨vp',vf',s',m',n'⟩:=k.1;exact ⟨vp',vf',s',m.trans n m',n.trans m.size n'⟩

theorem hs_hold (h:Hs w0 S w g gs room cs fr) (i:Nat) (hc:0<cc cs i) (hm:cc cs i<1073741824):Kc 9 #[.pointer (some ⟨g,0,none⟩),.int .i64 ((i:Int)+1)] w fun e w'=>e=.returned (.int .i64 0)∧Hs w0 S w' g gs room (moreC cs i) fr:=by
  obtain ⟨t,W⟩:=h;obtain ⟨vp,vf,s,m,n⟩:=t;refine (holdS_ok s i hc hm).mono ?_;rintro e w' ⟨rfl,t'⟩;obtain ⟨vp',vf',s',m',n'⟩:=t';exact ⟨rfl,⟨vp',vf',s',m.trans n m',n.trans m.size n'⟩,W.more i hc⟩
theorem hs_hold_bad (h:Hs w0 S w g gs room cs fr) (q:Int) (hc:cot cs q=0):Kc 9 #[.pointer (some ⟨g,0,none⟩),.int .i64 q] w fun e w'=>e=.returned (.int .i64 7)∧Hs w0 S w' g gs room cs fr:=by
  have hh:=h;obtain ⟨⟨vp,vf,s,m,n⟩,W⟩:=h;exact (holdS_bad s q hc).mono fun e w' ⟨e1,b⟩=>⟨e1,b ▸ hh⟩
theorem hs_leaf (h:Hs w0 S w g gs room cs fr) (K:Lq) (v:Value) (bs:Lq) (hr:Reads w v bs) (hK:Key K) (hL:Laid w) (hl:bs.length≤1024) (hf: ¬Full room cs fr):Kc 30 #[.pointer (some ⟨g,0,none⟩),.agg (B K),v] w fun e w'=>∃v',e=.returned (.tuple #[.int .i64 (tkH cs fr:Int),.int .i64 0])∧CeOk (lfC (lfD K (vaD bs)) K v' bs)∧Hs w0 S w' g gs room (tkC cs fr (1,lfC (lfD K (vaD bs)) K v' bs)) fr.dropLast:=by
  obtain ⟨⟨vp,vf,s,m,n⟩,W⟩:=h;have hbs:Bytes bs:=by obtain ⟨_,_,_,_,_,hb,_⟩:=hr;exact hb
  refine (leafS_ok s K v bs hr hK hL hl hf).mono ?_;rintro e w' ⟨v',rfl,ok,t⟩;have tk:=(tk_of (frOk_inv s.sl.inv) (1,lfC (lfD K (vaD bs)) K v' bs)).2;obtain ⟨vp',vf',s',m',n'⟩:=t;exact ⟨v',rfl,ok,⟨vp',vf',s',m.trans n m',n.trans m.size n'⟩,W.leaf tk (leaf_ok K v' bs hbs hl) ok rfl⟩
theorem hs_inner (h:Hs w0 S w g gs room cs fr) (d l r:Nat) (hd:d<256) (hml:mayP cs (l:Int)) (hmr:mayP cs (r:Int)) (u:Bool) (hu:u=true↔Und (sdC cs l).key (sdC cs r).key (d:Int)) (hf:fitP d (sdC cs l) (sdC cs r) u=true) (hL:Laid w) (hfu: ¬Full room cs fr):Kc 32 #[.pointer (some ⟨g,0,none⟩),.int .i64 (d:Int),.int .i64 (l:Int),.int .i64 (r:Int)] w fun e w'=>∃cs',InnR cs fr d l r cs'∧e=.returned (.tuple #[.int .i64 (tkH cs fr:Int),.int .i64 0])∧Hs w0 S w' g gs room cs' fr.dropLast:=by
  obtain ⟨⟨vp,vf,s,m,n⟩,W⟩:=h;refine (innerS_ok s W d l r hd hml hmr u hu hf hL hfu).mono ?_;rintro e w' ⟨K,hK,rfl,t⟩;have tk:=(tk_of (frOk_inv s.sl.inv) (1,inC (inD (sdD cs l) (sdD cs r)) K ((sdC cs l).sz+(sdC cs r).sz) d l r)).2;obtain ⟨vp',vf',s',m',n'⟩:=t;exact ⟨_,⟨K,hK,rfl⟩,rfl,⟨vp',vf',s',m.trans n m',n.trans m.size n'⟩,W.inner tk (inn_ok W hd hml hmr hu hf hK) ⟨dig_length _,dig_bytes _,hK.1,none,0,rfl⟩ rfl hml.own hmr.own⟩
theorem hs_drop (h:Hs w0 S w g gs room cs fr) (i:Nat) (ho:0<own cs [] i):Kc 46 #[.pointer (some ⟨g,0,none⟩),.int .i64 ((i+1:Nat):Int)] w fun e w'=>∃cs' fr' n,Run cs fr [i+1] cs' fr' n∧Step cs [i+1] cs' [] n∧e=.returned (.tuple #[.int .i64 (n:Int),.int .i64 0])∧Hs w0 S w' g gs room cs' fr':=by
  obtain ⟨⟨vp,vf,s,m,n⟩,W⟩:=h;refine (dropS_ok s W i ho).mono ?_;rintro e w' ⟨cs',fr',k,hr,rfl,t⟩;have st:=hr.step (W.less i ho);obtain ⟨vp',vf',s',m',n'⟩:=t;exact ⟨cs',fr',k,hr,st,rfl,⟨vp',vf',s',m.trans n m',n.trans m.size n'⟩,st.wf⟩
theorem hs_drop_miss (h:Hs w0 S w g gs room cs fr) (q:Int) (hm:cot cs q≤(cat cs q).ab):Kc 46 #[.pointer (some ⟨g,0,none⟩),.int .i64 q] w fun e w'=>e=.returned (.tuple #[.int .i64 0,.int .i64 7])∧Hs w0 S w' g gs room cs fr:=by
  have hh:=h;obtain ⟨⟨vp,vf,s,m,n⟩,W⟩:=h;exact (dropS_miss s W q hm).mono fun e w' ⟨e1,b⟩=>⟨e1,hh.grow b⟩
theorem hs_occ (h:Hs w0 S w g gs room cs fr):Kc 10 #[.pointer (some ⟨g,0,none⟩)] w fun e w'=>e=.returned (.int .i64 (noc cs:Int))∧Kb w w':=by
  obtain ⟨⟨vp,vf,s,m,n⟩,W⟩:=h;exact occS_ok s
theorem hs_room (h:Hs w0 S w g gs room cs fr):Kc 106 #[.pointer (some ⟨g,0,none⟩)] w fun e w'=>e=.returned (.int .i64 (room:Int))∧Kb w w':=by
  obtain ⟨⟨vp,vf,s,m,n⟩,W⟩:=h;exact roomS_ok s
end

end Go.Proofs.YtabiglnmfdpcfaaGreatDoor

namespace Go.Proofs.YtabiglnmfdpcfaaGreatDoor
variable {S S1:List Nat}
variable {base bp g k n:Nat}
variable {lv sv v vf vp:Value}
variable {w w' w0 w1 w4 wa:World}
variable {xs:List Value}
set_option maxRecDepth 20000
open Go.RowKit

def vNd (mk:Bool) (ca:Int→Ce) (h:Int):Lq:=if (ca h).kind=1 then nd 1 (ca h).key (vaD (ca h).bs) z32 z32 else if (ca h).kind=2 then nd 2 z32 z32 (vDg mk ca ((ca h).l:Int)) (vDg mk ca ((ca h).r:Int)) else nd 0 z32 z32 z32 z32

end Go.Proofs.YtabiglnmfdpcfaaGreatDoor
