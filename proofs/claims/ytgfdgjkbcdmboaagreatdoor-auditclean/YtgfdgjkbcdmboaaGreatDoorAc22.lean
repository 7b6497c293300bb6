/- Entries in lists of the call's own, appended one by one; parts of an entry in memory. -/
import Derived.Test.YtgfdgjkbcdmboaaGreatDoorAc21
namespace Go.Proofs.YtgfdgjkbcdmboaaGreatDoor
set_option maxRecDepth 20000
open Go.RowKit
theorem Zxh {w:World} {g o:Nat} {k:List Int} {v:Value} (h:w.rangeAt g o (encP k v)):w.rangeAt g o (B k).toList:=by
 intro j u hu
 rw [Zaf] at hu
 have hj:j<(k.map (Value.int .u8)).length:=(List.getElem?_eq_some_iff.1 hu).1
 refine h j u ?_
 unfold encP
 rw [List.getElem?_append_left hj]
 exact hu
def flatP (its:List (Ent×Value)):List Value:=its.flatMap fun p=>encP p.1.1 p.2
theorem Zuj (its:List (Ent×Value)) (p:Ent×Value):flatP (its++[p])=flatP its++encP p.1.1 p.2:=by simp [flatP]
theorem Zsj:∀(its:List (Ent×Value)),(∀p∈its,p.1.1.length=32)→∀(i:Nat) (hi:i<its.length) (j:Nat) (v:Value),(encP its[i].1.1 its[i].2)[j]?=some v→(flatP its)[i * 33+j]?=some v
 | [],_,i,hi,_,_,_=>by simp at hi
 | p::r,hl,0,_,j,v,h=>by
  have h:(encP p.1.1 p.2)[j]?=some v:=h
  have hj:=(List.getElem?_eq_some_iff.1 h).1
  simp only [flatP,List.flatMap_cons,Nat.zero_mul,Nat.zero_add]
  rw [List.getElem?_append_left hj]
  exact h
 | p::r,hl,i+1,hi,j,v,h=>by
  have ih:=Zsj r (fun q hq=>hl q (by simp [hq])) i (by simpa using hi) j v (by simpa using h)
  have e1:(encP p.1.1 p.2).length=33:=Zx _ _ (hl p (by simp))
  simp only [flatP,List.flatMap_cons]
  rw [List.getElem?_append_right (by omega),show (i+1) * 33+j-(encP p.1.1 p.2).length=i * 33+j by omega]
  exact ih
theorem Zgd:∃i z,Tryz.prog.info? 152=some i∧i.zero=some z∧i.size=33∧i.bytes=56∧z.cells.size=33:=⟨_,_,rfl,rfl,rfl,rfl,rfl⟩
theorem Zkd {ops:Array Oper} {rest:List Oper} {op:Oper} {a:Act} {Q:Exit→Act→World→Prop} (w:World) (hgd:op.guard=none) (x:Operand) (ho:op.op=.buildSlice 124 1 #[(0,x)])
  (k:List Int) (v:Value) (hx:a.eval x=.agg (encP k v).toArray) (hl:k.length=32)
  (hk:wpList Tryz.prog ops Q rest (a.put op.dst (.slice (some ⟨w.heap.size,0,none⟩) 1 1)) (w.alloc (.cells (encP k v).toArray 152))):wpList Tryz.prog ops Q (op::rest) a w:=by
 refine wpList_plain hgd fun K hK=>?_
 obtain ⟨i,z,hi,hz,hs,_,hzs⟩:=Zgd
 have hrun:=run_buildSlice (P:=Tryz.prog) w 124 152 1 #[(0,.agg (encP k v).toArray)] (encP k v).toArray i z Tryz.underlying124 hi hz (by rw [hs];omega) (by rw [hs];omega) (by
  rw [hs]
  obtain ⟨zs,hzz,hzl⟩:∃zs:List Value,(Array.range (1 * 33)).map (z.cells[· % z.cells.size]!)=zs.toArray∧zs.length=33:=⟨_,(Array.toArray_toList).symm,by simp⟩
  rw [hzz]
  have:=Zbl (fun i=>some (i * 33,33)) 0 0 33 (.agg (encP k v).toArray) (encP k v) zs [] rfl rfl (Zx k v hl) (by omega)
  rw [show (#[(0,Value.agg (encP k v).toArray)]:Array (Nat×Value)).toList=[(0,Value.agg (encP k v).toArray)] from rfl,this,Instr.fill]
  simp [hzl])
 unfold Oper.wp execOp
 simp only [ho,List.map_toArray,List.map_cons,List.map_nil,hx,Sem.run_bind,hrun,Result.andThen_ok,Sem.run_pure]
 exact hK _ _ hk
theorem Zos {ops:Array Oper} {rest:List Oper} {o:Oper} {a:Act} {Q:Exit→Act→World→Prop} (w:World) (hgd:o.guard=none) (s x:Operand)
  (hop:o.op=.call { callee:=.builtin .append,args:= #[s,x],argTypes:= #[124,124]})
  (base:Nat) (v:Value) (n:Nat) (xs:List Value) (hown:w.ownsRow base 152 33 v n xs) (hs:a.eval s=v) (g:Nat) (k:List Int) (u:Value) (hx:a.eval x=.slice (some ⟨g,0,none⟩) 1 1)
  (hb:Blk w g 152 (encP k u).toArray) (hl:k.length=32) (h1:u.oneCell'=true) (hn:n≤4096) (hbase:base≤w.heap.size)
  (h:∀v' w',w'.ownsRow base 152 33 v' (n+1) (xs++encP k u)→w.grownBy w' v.ownBlock→wpList Tryz.prog ops Q rest (a.put o.dst v') w'):
  wpList Tryz.prog ops Q (o::rest) a w:=by
 obtain ⟨i,z,hi,hz,hsz,hby,hzs⟩:=Zgd
 refine wpList_append_own w hgd s x _ hop base _ i z 33 56 Tryz.underlying124 hi hz hsz hby hzs (by omega) v n xs hs hown ⟨g,0,none⟩ 1 1 (encP k u) hx (by rw [Zx k u hl]) ?_ ?_ (by simp only [maxLen];omega) (by omega) hbase (fun v' w' h1 h2 _=>h v' w' h1 h2)
 ·intro j q hq
  rw [Addr.add_lit,Nat.zero_add,hb.cell]
  simpa using hq
 ·intro q hq
  unfold encP at hq
  rcases List.mem_append.1 hq with hq | hq
  ·obtain ⟨z,_,rfl⟩:=List.mem_map.1 hq
   rfl
  ·obtain rfl:q=u:=by simpa using hq
   exact h1
theorem Zpp {w w':World} {base:Nat} {v:Value} {n:Nat} {xs:List Value} (h:w.ownsRow base 152 33 v n xs) (hb:Below w.heap.size w w'):w'.ownsRow base 152 33 v n xs:=by
 refine ⟨h.1,?_⟩
 rcases h.2 with hn | ⟨g,cap,cur,rfl,hb2,hgg,rest⟩
 ·exact .inl hn
 ·exact .inr ⟨g,cap,cur,rfl,hb2,(hb.block g (Array.getElem?_eq_some_iff.1 hgg).1).trans hgg,rest⟩
theorem Zlu {w:World} {base:Nat} {v:Value} {its:List (Ent×Value)} (h:w.ownsRow base 152 33 v its.length (flatP its)) (hk:∀p∈its,Key p.1.1) (hr:∀p∈its,Reads w p.2 p.1.2):
  PrAt w v (fun i=>(its.getD i (e00,undef)).2) (its.map (·.1)):=by
 have hget:∀i (hi:i<its.length),(its.map (·.1)).getD i e00=its[i].1∧its.getD i (e00,undef)=its[i]:=fun i hi=>⟨by simp [List.getD,hi],by simp [List.getD,hi]⟩
 have hlast:∀i,i<(its.map (·.1)).length→Key ((its.map (·.1)).getD i e00).1∧Reads w (its.getD i (e00,undef)).2 ((its.map (·.1)).getD i e00).2:=by
  intro i hi
  rw [List.length_map] at hi
  obtain ⟨e1,e2⟩:=hget i hi
  rw [e1,e2]
  exact ⟨hk _ (List.getElem_mem hi),hr _ (List.getElem_mem hi)⟩
 rcases h.2 with ⟨rfl,hn⟩ | ⟨g,cap,cur,rfl,_,hg,hcap,_,hsz,htake⟩
 ·exact ⟨none,0,by rw [List.length_map,hn],by rw [List.length_map];omega,fun hp=>by rw [List.length_map] at hp;omega,hlast⟩
 ·refine ⟨_,cap,by rw [List.length_map],by rw [List.length_map];exact hcap,fun _=>⟨g,0,rfl,fun i hi j u hu=>?_⟩,hlast⟩
  rw [List.length_map] at hi
  obtain ⟨e1,e2⟩:=hget i hi
  rw [e1] at hu
  simp only [e2] at hu
  have h1:=Zsj its (fun p hp=>(hk p hp).1) i hi j u hu
  rw [← htake] at h1
  have h2:(cur.toList)[i * 33+j]?=some u:=by
   rw [List.getElem?_take] at h1
   split at h1
   ·exact h1
   ·cases h1
  rw [cell_of_row w g _ cur _ _ hg,Nat.zero_add]
  simpa using h2
def okN (k:Int) (a b c d:List Int):Bool:=decide ((k=0∧a=z32∧b=z32∧c=z32∧d=z32)∨(k=1∧c=z32∧d=z32)∨(k=2∧a=z32∧b=z32))
def BarePost (k:Int) (a b c d:List Int) (w:World) (e:Ending) (w':World):Prop:=
 ∃k' a' b' c' d',e=.returned (.agg (B (nd k' a' b' c' d')))∧Nd k' a' b' c' d'∧okN k a b c d=decide (nd k a b c d=nd k' a' b' c' d')∧Below w.heap.size w w'
def okE (k:Int) (a b c d:List Int):Int:=if okN k a b c d=true then 0 else 2
def TxtPost (zs:List Int) (n:Nat) (w:World) (e:Ending) (w':World):Prop:=
 ∃g c sp,e=.returned (.slice (some ⟨g,0,none⟩) n c)∧w.heap.size≤g∧g<w'.heap.size∧Own w.heap.size w' (.slice (some ⟨g,0,none⟩) n c) zs sp∧Below w.heap.size w w'
structure NdF (N:List Int) (k:Int) (a b c d:List Int):Prop where
 kd:∀w g t,Blk w g t (B N)→w.cell? ⟨g,0,none⟩=some (.int .u8 k)
 sa:Seg N 1 a
 sb:Seg N 33 b
 sc:Seg N 65 c
 sd:Seg N 97 d
 la:(Tryz.prog.info? 34).map (·.size)=some a.length
 lb:(Tryz.prog.info? 121).map (·.size)=some b.length
 lc:(Tryz.prog.info? 121).map (·.size)=some c.length
 ld:(Tryz.prog.info? 121).map (·.size)=some d.length
 ln:(Tryz.prog.info? 145).map (·.size)=some (B N).size
 ll:(Tryz.prog.info? 145).map (·.size)=some (B N).toList.length
def txN (k:Int) (a b c d:List Int):List Int:=if okN k a b c d=true then (if k=1 then 1::(a++b) else if k=2 then 2::(c++d) else [0]) else []
def dgN (k:Int) (a b c d:List Int):List Int:=if okN k a b c d=true then dig (txN k a b c d) else z32
def EncPost (k:Int) (a b c d:List Int) (w:World) (e:Ending) (w':World):Prop:=
 ∃v sp,e=.returned (.tuple #[v,.int .i64 (okE k a b c d)])∧Own w.heap.size w' v (txN k a b c d) sp∧Below w.heap.size w w'
def DigNPost (k:Int) (a b c d:List Int) (w:World) (e:Ending) (w':World):Prop:=
 e=.returned (.tuple #[.agg (B (dgN k a b c d)),.int .i64 (okE k a b c d)])∧Below w.heap.size w w'
theorem Zhe:Tryz.prog.built 121 []=some (B z32):=by kernel_rfl
end Go.Proofs.YtgfdgjkbcdmboaaGreatDoor
