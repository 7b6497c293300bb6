/- Short words for the rows of a region that draws its order. -/
import Derived.Test.YtdjpigfibafokaaGreatDoorProg
import Derived.Deep.RegionHeld
import Derived.WalkKit
import Derived.WalkSpells
import Derived.WalkLawsBesides
import Derived.Test.YtdjpigfibafokaaGreatDoorProg
import Derived.Deep.MidRow
import Derived.Deep.WholeRow
import Derived.Laws.ResultCell
import Derived.BigQuiet
import Derived.Deep.QuietTactic
import Derived.Laws.AppendOwn
import Derived.Laws.OwnMore
import Derived.Great.BuildSlice
namespace Go.Proofs.YtdjpigfibafokaaGreatDoor
set_option maxRecDepth 20000

open Go.RowKit
abbrev Lq:=List Int
abbrev Kb (w w':World):Prop:=Below w.heap.size w w'
abbrev Kc (f:FuncId) (xs:Array Value) (w:World) (R:Ending→World→Prop):Prop:=Calls Tryz.prog f xs w R
abbrev Kr (w:World) (f:FuncId) (xs:Array Value) (v:Value):Prop:=∀w',Below w.heap.size w w'→Calls Tryz.prog f xs w' fun e w''=>e=.returned v∧Below w'.heap.size w' w''

theorem zq1 {α:Type} {xs:List α} {i:Nat} (h:i<xs.toArray.size):xs.toArray[i]=xs[i]'(by simpa using h):=List.getElem_toArray h
theorem zq2 {α:Type} (a:α) (l:List α) (h:0<(a::l).length):(a::l)[0]=a:=rfl
theorem zq3 {α:Type} (a:α) (l:List α) (i:Nat) (h:i+1<(a::l).length):(a::l)[i+1]=l[i]'(Nat.lt_of_succ_lt_succ h):=rfl
theorem zq4 {α:Type} {xs:List α} {i:Nat} {a:α}:xs.toArray.setIfInBounds i a=(xs.set i a).toArray:=List.setIfInBounds_toArray ..
theorem zq5 {α:Type} {x:α} {xs:List α} {a:α}:(x::xs).set 0 a=a::xs:=rfl
theorem zq6 {α:Type} {x:α} {xs:List α} {n:Nat} {a:α}:(x::xs).set (n+1) a=x::xs.set n a:=rfl

section
variable {P:Program} {md:Region.Mode} {ops:Array Oper} {Q:Exit→Act→World→Prop} {S:World→Prop}

theorem tkp (i:Nat) (v:Value) {oi:Oper} {fuel:Nat} {listed:Array Bool} {a:Act} {w:World} (hS:S w) (h:wpAnyH P md ops Q S fuel (listed.setIfInBounds i true) (a.put oi.dst v) w)
    (hi:ops[i]?=some oi:=by rfl) (hs:Region.noSelect ops=true:=by kernel_rfl) (hf:Region.free md ops listed i=true:=by kernel_rfl) (hr:(Region.ready md ops listed).contains i=true:=by kernel_rfl)
    (hQ:∀c a w,Q (.panic c) (a.put oi.dst v) w→Q (.panic c) a w:=by exact fun _ _ _ h=>h) (hy:YieldsIf P ops S oi v a:=by exact Or.inl ⟨by rfl,fun w hS=>by go_simp⟩):wpAnyH P md ops Q S (fuel+1) listed a w:=wpAnyH_take hi hs hf hr hQ hy hS h
theorem tks (i:Nat) {oi:Oper} {fuel:Nat} {listed:Array Bool} {a:Act} {w:World} (hS:S w) (h:wpAnyH P md ops Q S fuel (listed.setIfInBounds i true) (a.put oi.dst undef) w)
    (hi:ops[i]?=some oi:=by rfl) (hs:Region.noSelect ops=true:=by kernel_rfl) (hf:Region.free md ops listed i=true:=by kernel_rfl) (hr:(Region.ready md ops listed).contains i=true:=by kernel_rfl)
    (hQ:∀c a w,Q (.panic c) (a.put oi.dst undef) w→Q (.panic c) a w:=by exact fun _ _ _ h=>h) (hy:YieldsIf P ops S oi undef a:=by exact Or.inr ⟨by rfl,rfl⟩):wpAnyH P md ops Q S (fuel+1) listed a w:=wpAnyH_take hi hs hf hr hQ hy hS h
theorem tkg (i:Nat) (v:Value) {oi:Oper} {fuel:Nat} {listed:Array Bool} {a:Act} {w:World} (hi:ops[i]?=some oi) (hy:YieldsIf P ops S oi v a) (hS:S w) (h:wpAnyH P md ops Q S fuel (listed.setIfInBounds i true) (a.put oi.dst v) w)
    (hs:Region.noSelect ops=true:=by kernel_rfl) (hf:Region.free md ops listed i=true:=by kernel_rfl) (hr:(Region.ready md ops listed).contains i=true:=by kernel_rfl)
    (hQ:∀c a w,Q (.panic c) (a.put oi.dst v) w→Q (.panic c) a w:=by exact fun _ _ _ h=>h):wpAnyH P md ops Q S (fuel+1) listed a w:=wpAnyH_take hi hs hf hr hQ hy hS h
end

end Go.Proofs.YtdjpigfibafokaaGreatDoor

namespace Go.Proofs.YtdjpigfibafokaaGreatDoor
set_option maxRecDepth 20000
open Go.RowKit

theorem grow_trans {a b c:World} (h:Kb a b) (k:Kb b c):Kb a c:=h.trans (k.mono h.size)
theorem grow_alloc (w:World) (o:Obj):Kb w (w.alloc o):=(Below.refl _ _).alloc (Nat.le_refl _) o
theorem below_grown {w w':World} (h:Kb w w') (row:Option Nat):w.grownBy w' row:=⟨h.os,h.tape,h.output,h.size,fun k hk _=>h.block k hk⟩

theorem grown_trans {a b c:World} {row:Option Nat} (h:a.grownBy b row) (k:b.grownBy c row):a.grownBy c row:=
  ⟨k.os.trans h.os,k.tape.trans h.tape,k.output.trans h.output,Nat.le_trans h.size k.size,fun i hi hr=>(k.block i (Nat.lt_of_lt_of_le hi h.size) hr).trans (h.block i hi hr)⟩

theorem grown_setCell (w:World) (b o:Nat) (v:Value):w.grownBy (w.setCell ⟨b,o,none⟩ v) (some b):=
  ⟨rfl,rfl,rfl,by simp,fun k _ hr=>heap_setCell_other w _ k v (fun e=>hr (by simp [e]))⟩

theorem below_row {w0 w w':World} {g:Nat} (hb:Kb w0 w) (hg:w.grownBy w' (some g)) (h:w0.heap.size≤g):Kb w0 w':=
  hb.grown hg hb.size (fun k hk=>by injection hk with hk;omega)

theorem hidden {p:Prop} (h:p):Hid p:=h

def numOf (zs:Lq):Int:=zs.foldl (fun n z=>256 * n+z) 0

def Bytes (zs:Lq):Prop:=∀z∈zs,0≤z∧z≤255

theorem Bytes.take {zs:Lq} (h:Bytes zs) (k:Nat):Bytes (zs.take k):=fun z hz=>h z (List.mem_of_mem_take hz)
theorem Bytes.drop {zs:Lq} (h:Bytes zs) (k:Nat):Bytes (zs.drop k):=fun z hz=>h z (List.mem_of_mem_drop hz)
theorem Bytes.append {xs ys:Lq} (h:Bytes xs) (k:Bytes ys):Bytes (xs++ys):=fun z hz=>(List.mem_append.1 hz).elim (h z) (k z)
theorem Bytes.getD {zs:Lq} (h:Bytes zs) (k:Nat):0≤zs.getD k 0∧zs.getD k 0≤255:=by
  by_cases hk:k<zs.length
  · have:=h zs[k] (List.getElem_mem hk)
    simpa [List.getD,hk] using this
  · simp [List.getD,Nat.le_of_not_lt hk]
theorem Bytes.nil:Bytes []:=fun _ h=>by cases h

end Go.Proofs.YtdjpigfibafokaaGreatDoor

namespace Go.Proofs.YtdjpigfibafokaaGreatDoor
set_option maxRecDepth 20000
open Go.RowKit

def Blk (w:World) (g:Nat) (t:TypeId) (cs:Array Value):Prop:=w.heap[g]?=some (.cells cs t (0,0))

theorem Blk.lt {w:World} {g:Nat} {t:TypeId} {cs:Array Value} (h:Blk w g t cs):g<w.heap.size:=(Array.getElem?_eq_some_iff.1 h).1

theorem Blk.of_block {w w':World} {g:Nat} {t:TypeId} {cs:Array Value} (h:Blk w g t cs) (k:w'.heap[g]?=w.heap[g]?):Blk w' g t cs:=by unfold Blk at *;rw [k];exact h

theorem Blk.grow {w w':World} {g:Nat} {t:TypeId} {cs:Array Value} (h:Blk w g t cs) (hb:Kb w w'):Blk w' g t cs:=h.of_block (hb.block g h.lt)

theorem Blk.cell {w:World} {g:Nat} {t:TypeId} {cs:Array Value} (h:Blk w g t cs) (i:Nat):w.cell? ⟨g,i,none⟩=cs[i]?:=cell_of_row w g i _ _ _ h

theorem Blk.frozen {w:World} {g:Nat} {t:TypeId} {cs:Array Value} (h:Blk w g t cs) (i:Nat):w.frozen? ⟨g,i,none⟩=false:=frozen_of_row w g i _ _ h

theorem Blk.set {w:World} {g:Nat} {t:TypeId} {cs:Array Value} (h:Blk w g t cs) (i:Nat) (v:Value):Blk (w.setCell ⟨g,i,none⟩ v) g t (cs.setIfInBounds i v):=by
  unfold Blk;rw [heap_setCell_same w g i _ _ _ h]

theorem Blk.other {w:World} {g g':Nat} {t:TypeId} {cs:Array Value} (h:Blk w g t cs) (i:Nat) (v:Value) (hne:g≠g'):Blk (w.setCell ⟨g',i,none⟩ v) g t cs:=by
  unfold Blk;rw [heap_setCell_other w ⟨g',i,none⟩ g v (fun e=>hne e)];exact h

theorem Blk.new (w:World) (t:TypeId) (cs:Array Value):Blk (w.alloc (.cells cs t)) w.heap.size t cs:=heap_alloc_new w _

theorem Blk.drew {w:World} {g:Nat} {t:TypeId} {cs:Array Value} (h:Blk w g t cs):Blk w.drew g t cs:=h

theorem Blk.load {w:World} {g:Nat} {t:TypeId} {cs:Array Value} (h:Blk w g t cs) (n:Nat) (e:TypeId) (hu:Tryz.prog.underlying t=some (.array n e)) (hi:(Tryz.prog.info? t).map (·.size)=some cs.size):
    (loadVar t ⟨g,0,none⟩).run Tryz.prog w=.ok (.agg cs) w:=run_loadVar_row _ _ t t cs (0,0) _ h hu rfl hi

theorem wpList_ld {ops:Array Oper} {rest:List Oper} {op:Oper} {a:Act} {Q:Exit→Act→World→Prop} (w:World) (hgd:op.guard=none) (x:Operand) (ty:TypeId) (ho:op.op=.load ty x)
    (g:Nat) (cs:Array Value) (hx:a.eval x=.pointer (some ⟨g,0,none⟩)) (h:Blk w g ty cs) (n:Nat) (e:TypeId) (hu:Tryz.prog.underlying ty=some (.array n e)) (hi:(Tryz.prog.info? ty).map (·.size)=some cs.size)
    (hk:wpList Tryz.prog ops Q rest (a.put op.dst (.agg cs)) w):wpList Tryz.prog ops Q (op::rest) a w:=by
  refine wpList_plain hgd fun K hK=>?_
  unfold Oper.wp execOp;simp only [ho,hx,Instr.loadAt,Instr.sureAddr,Sem.run_bind,Sem.run_pure,Result.andThen_ok,h.load n e hu hi];exact hK _ _ hk

theorem setRow_below {w0 w:World} {g:Nat} (cs:Array Value) (hb:Kb w0 w) (hg:w0.heap.size≤g):Kb w0 (w.setRow g cs):=
  hb.grown (row:=some g) ⟨rfl,rfl,rfl,by simp,fun k _ hk=>setRow_other w g k _ (fun e=>hk (by simp [e]))⟩ hb.size (fun k hk=>by injection hk with hk;omega)

theorem setCell_below {w0 w:World} {g:Nat} (o:Nat) (v:Value) (hb:Kb w0 w) (hg:w0.heap.size≤g):Kb w0 (w.setCell ⟨g,o,none⟩ v):=
  hb.grown (grown_setCell w g o v) hb.size (fun k hk=>by injection hk with hk;omega)

theorem Blk.row {w:World} {g:Nat} {t:TypeId} {cs:Array Value} (h:Blk w g t cs) (cs':Array Value):Blk (w.setRow g cs') g t cs':=setRow_heap w g _ _ _ _ h

theorem wpList_st {ops:Array Oper} {rest:List Oper} {op:Oper} {a:Act} {Q:Exit→Act→World→Prop} (w:World) (hgd:op.guard=none) (x y:Operand) (ty:TypeId) (ho:op.op=.store ty x y)
    (g:Nat) (cs cs':Array Value) (hx:a.eval x=.pointer (some ⟨g,0,none⟩)) (hy:a.eval y=.agg cs') (h:Blk w g ty cs) (hi:(Tryz.prog.info? ty).map (·.size)=some cs'.size) (hs:cs.size=cs'.size) (h1:cs'.all (·.oneCell')=true)
    (hk:wpList Tryz.prog ops Q rest (a.put op.dst undef) (w.setRow g cs')):wpList Tryz.prog ops Q (op::rest) a w:=by
  refine wpList_plain hgd fun K hK=>?_
  unfold Oper.wp execOp;simp only [ho,hx,hy,Instr.storeAt,Instr.sureAddr,Sem.run_bind,Sem.run_pure,Result.andThen_ok,run_storeVar_row w g ty ty cs cs' h hi hs h1];exact hK _ _ hk

theorem wpList_al {ops:Array Oper} {rest:List Oper} {op:Oper} {a:Act} {Q:Exit→Act→World→Prop} (w:World) (hgd:op.guard=none) (ty:TypeId) (ho:op.op=.alloc ty)
    (cs:Array Value) (hz:∀w,(zeroValue ty).run Tryz.prog w=.ok (.agg cs) w)
    (hk:∀w' g,w.heap.size≤g→g<w'.heap.size→Blk w' g ty cs→Kb w w'→wpList Tryz.prog ops Q rest (a.put op.dst (.pointer (some ⟨g,0,none⟩))) w'):wpList Tryz.prog ops Q (op::rest) a w:=by
  refine wpList_plain hgd fun K hK=>?_
  unfold Oper.wp execOp;simp [ho,hz,Instr.alloc,newVar,Value.cells,newRow];exact hK _ _ (hk _ w.heap.size (Nat.le_refl _) (by simp) (Blk.new w ty cs) (grow_alloc w _))

theorem wpList_bx {ops:Array Oper} {rest:List Oper} {op:Oper} {a:Act} {Q:Exit→Act→World→Prop} (w:World) (hgd:op.guard=none) (x:Operand) (ty:TypeId) (ho:op.op=.box ty x)
    (cs:Array Value) (hx:a.eval x=.agg cs)
    (hk:∀w' g,w.heap.size≤g→g<w'.heap.size→Blk w' g ty cs→Kb w w'→wpList Tryz.prog ops Q rest (a.put op.dst (.pointer (some ⟨g,0,none⟩))) w'):wpList Tryz.prog ops Q (op::rest) a w:=by
  refine wpList_plain hgd fun K hK=>?_
  unfold Oper.wp execOp;simp [ho,hx,Instr.box,newVar,Value.cells,newRow];exact hK _ _ (hk _ w.heap.size (Nat.le_refl _) (by simp) (Blk.new w ty cs) (grow_alloc w _))

theorem Blk.range {w:World} {g:Nat} {t:TypeId} {cs:Array Value} (h:Blk w g t cs):w.rangeAt g 0 cs.toList:=fun j v hv=>by
  rw [Nat.zero_add,h.cell];simpa using hv

theorem cell_set_ne (w:World) (g o g' o':Nat) (v:Value) (h:g≠g'):(w.setCell ⟨g',o',none⟩ v).cell? ⟨g,o,none⟩=w.cell? ⟨g,o,none⟩:=
  World.cell?_setCell_other _ _ _ _ (fun e=>h (by injection e with e1;exact e1.symm))

theorem cell_set_off (w:World) (g o o':Nat) (v:Value) (h:o≠o'):(w.setCell ⟨g,o',none⟩ v).cell? ⟨g,o,none⟩=w.cell? ⟨g,o,none⟩:=
  World.cell?_setCell_other _ _ _ _ (fun e=>h (by injection e with _ e1;exact e1.symm))

theorem wpList_sto {ops:Array Oper} {rest:List Oper} {op:Oper} {a:Act} {Q:Exit→Act→World→Prop} (w:World) (hgd:op.guard=none) (x y:Operand) (ty:TypeId) (ho:op.op=.store ty x y)
    (g:Nat) (cs cs':Array Value) (hx:a.eval x=.pointer (some ⟨g,0,none⟩)) (hy:a.eval y=.agg cs') (h:Blk w g ty cs) (hi:(Tryz.prog.info? ty).map (·.size)=some cs'.size) (hs:cs.size=cs'.size) (h1:cs'.all (·.oneCell')=true)
    (hk:∀w',Blk w' g ty cs'→w.grownBy w' (some g)→wpList Tryz.prog ops Q rest (a.put op.dst undef) w'):wpList Tryz.prog ops Q (op::rest) a w:=
  wpList_st w hgd x y ty ho g cs cs' hx hy h hi hs h1 (hk _ (h.row cs') ⟨rfl,rfl,rfl,by simp,fun k _ hk=>setRow_other w g k _ (fun e=>hk (by simp [e]))⟩)

theorem Blk.kept {w w':World} {g g':Nat} {t:TypeId} {cs:Array Value} (h:Blk w g t cs) (hg:w.grownBy w' (some g')) (hne:g≠g'):Blk w' g t cs:=h.of_block (hg.block g h.lt (fun e=>hne (by injection e)))

theorem wpList_bld {ops:Array Oper} {rest:List Oper} {op:Oper} {a:Act} {Q:Exit→Act→World→Prop} (w:World) (hgd:op.guard=none) (ty:TypeId) (parts:Array (Nat×Operand)) (ho:op.op=.build ty parts)
    (cs:Array Value) (h:Tryz.prog.built ty (parts.map fun (i,x)=>(i,a.eval x)).toList=some cs)
    (hk:wpList Tryz.prog ops Q rest (a.put op.dst (.agg cs)) w):wpList Tryz.prog ops Q (op::rest) a w:=by
  refine wpList_build hgd ty parts ho (by rw [h];rfl) ?_;rw [h];exact hk

theorem step_sto {ops:Array Oper} {o:Oper} {a:Act} {K:Act→World→Prop} {Q:Exit→Act→World→Prop} {E:Prop} (w:World) (hgd:o.guard=none) (x y:Operand) (ty:TypeId) (ho:o.op=.store ty x y)
    (g:Nat) (cs cs':Array Value) (hx:a.eval x=.pointer (some ⟨g,0,none⟩)) (hy:a.eval y=.agg cs') (h:Blk w g ty cs) (hi:(Tryz.prog.info? ty).map (·.size)=some cs'.size) (hs:cs.size=cs'.size) (h1:cs'.all (·.oneCell')=true)
    (hk:∀w',Blk w' g ty cs'→w.grownBy w' (some g)→K (a.put o.dst undef) w'):if Region.wanted o (yielded ops a.tmps)=true then Oper.wp Tryz.prog o a w K Q else E:=by
  have hw:Region.wanted o (yielded ops a.tmps)=true:=by simp [Region.wanted,hgd]
  rw [if_pos hw];unfold Oper.wp execOp;simp only [ho,hx,hy,Instr.storeAt,Instr.sureAddr,Sem.run_bind,Sem.run_pure,Result.andThen_ok,run_storeVar_row w g ty ty cs cs' h hi hs h1];exact hk _ (h.row cs') ⟨rfl,rfl,rfl,by simp,fun k _ hk=>setRow_other w g k _ (fun e=>hk (by simp [e]))⟩

theorem wpList_lds {ops:Array Oper} {rest:List Oper} {op:Oper} {a:Act} {Q:Exit→Act→World→Prop} (w:World) (hgd:op.guard=none) (x:Operand) (ty:TypeId) (ho:op.op=.load ty x)
    (g:Nat) (t:TypeId) (cs:Array Value) (hx:a.eval x=.pointer (some ⟨g,0,none⟩)) (h:Blk w g t cs) {fs:Array Field} (hu:Tryz.prog.underlying ty=some (.struct fs)) (hi:(Tryz.prog.info? ty).map (·.size)=some cs.size)
    (hk:wpList Tryz.prog ops Q rest (a.put op.dst (.agg cs)) w):wpList Tryz.prog ops Q (op::rest) a w:=
  wpList_load_row hgd ty x ho g hx t cs (0,0) _ h hu rfl hi hk

theorem results_agg_tmp {fn:Func} {p u:Tmp} {ty:TypeId} (h:fn.results= #[.cell p ty,.tmp u]) (tmps:Array Value) (w:World) (g:Nat) (cs:Array Value) {fs:Array Field} (x:Value) (hp:tmps.getD p undef=.pointer (some ⟨g,0,none⟩)) (hx:tmps.getD u undef=x) (hg:Blk w g ty cs)
    (hu:Tryz.prog.underlying ty=some (.struct fs)) (hi:(Tryz.prog.info? ty).map (·.size)=some cs.size):
    (results fn tmps).run Tryz.prog w=.ok (.tuple #[.agg cs,x]) w:=by
  rw [results_cell_tmp h,hp,hx];simp [asAddr,run_loadVar_row w g ty ty cs (0,0) _ hg hu rfl hi]

theorem below_cell {w w':World} (hb:Kb w w') {g o:Nat} {v:Value} (h:w.cell? ⟨g,o,none⟩=some v):w'.cell? ⟨g,o,none⟩=some v:=(hb.cell (p:=⟨g,o,none⟩) (block_lt_of_cell h)).trans h

end Go.Proofs.YtdjpigfibafokaaGreatDoor

namespace Go.Proofs.YtdjpigfibafokaaGreatDoor
set_option maxRecDepth 20000
open Go.RowKit

structure Mod (S:List Nat) (w w':World):Prop where
  os:w'.os=w.os
  tape:w'.tape=w.tape
  output:w'.output=w.output
  size:w.heap.size≤w'.heap.size
  block:∀k,k<w.heap.size→k ∉ S→w'.heap[k]?=w.heap[k]?

def New (S:List Nat) (w:World) (S':List Nat):Prop:=∀k∈S',k∈S∨w.heap.size≤k

theorem New.refl (S:List Nat) (w:World):New S w S:=fun _ h=>.inl h
theorem New.trans {S S1 S2:List Nat} {w w1:World} (h:New S w S1) (hs:w.heap.size≤w1.heap.size) (k:New S1 w1 S2):New S w S2:=fun x hx=>by
  rcases k x hx with hx | hx
  · exact h x hx
  · exact .inr (Nat.le_trans hs hx)
theorem Mod.refl (S:List Nat) (w:World):Mod S w w:=⟨rfl,rfl,rfl,Nat.le_refl _,fun _ _ _=>rfl⟩
theorem Mod.drew (S:List Nat) (w:World):Mod S w w.drew:=⟨rfl,rfl,rfl,Nat.le_refl _,fun _ _ _=>rfl⟩
theorem Mod.drewN (S:List Nat) (w:World) (n:Nat):Mod S w (w.drewN n):=⟨rfl,rfl,rfl,Nat.le_refl _,fun _ _ _=>rfl⟩
theorem Mod.mono {S S':List Nat} {w w':World} (h:Mod S w w') (hs:∀k∈S,k∈S'):Mod S' w w':=⟨h.os,h.tape,h.output,h.size,fun k hk hn=>h.block k hk (fun hx=>hn (hs k hx))⟩
theorem Mod.trans {S S1:List Nat} {w w1 w2:World} (h:Mod S w w1) (hn:New S w S1) (k:Mod S1 w1 w2):Mod S w w2:=
  ⟨k.os.trans h.os,k.tape.trans h.tape,k.output.trans h.output,Nat.le_trans h.size k.size,fun i hi hs=>(k.block i (Nat.lt_of_lt_of_le hi h.size) (fun hx=>by
    rcases hn i hx with h1 | h1
    · exact hs h1
    · omega)).trans (h.block i hi hs)⟩
theorem Mod.trans' {S:List Nat} {w w1 w2:World} (h:Mod S w w1) (k:Mod S w1 w2):Mod S w w2:=h.trans (New.refl S w) k
theorem Mod.of_below {w w':World} (h:Kb w w') (S:List Nat):Mod S w w':=⟨h.os,h.tape,h.output,h.size,fun k hk _=>h.block k hk⟩
theorem Mod.below {S:List Nat} {w w':World} {b:Nat} (h:Mod S w w') (hb:∀k∈S,b≤k) (hw:b≤w.heap.size):Below b w w':=
  ⟨h.os,h.tape,h.output,h.size,fun k hk=>h.block k (Nat.lt_of_lt_of_le hk hw) (fun hs=>by have:=hb k hs;omega)⟩
theorem Mod.below0 {w w':World} (h:Mod [] w w'):Kb w w':=h.below (fun _ h=>by cases h) (Nat.le_refl _)
theorem Mod.of_grown {w w':World} {v:Value} {S:List Nat} (h:w.grownBy w' v.ownBlock) (hs:∀k,v.ownBlock=some k→k∈S):Mod S w w':=
  ⟨h.os,h.tape,h.output,h.size,fun k hk hn=>h.block k hk (fun e=>hn (hs k e.symm))⟩
theorem Mod.of_some {w w':World} {g:Nat} {S:List Nat} (h:w.grownBy w' (some g)) (hs:g∈S):Mod S w w':=
  ⟨h.os,h.tape,h.output,h.size,fun k hk hn=>h.block k hk (fun e=>hn (by injection e with e;rw [e];exact hs))⟩
theorem Mod.setCell (w:World) (g o:Nat) (v:Value) {S:List Nat} (hs:g∈S):Mod S w (w.setCell ⟨g,o,none⟩ v):=Mod.of_some (grown_setCell w g o v) hs
theorem Mod.alloc (w:World) (o:Obj) (S:List Nat):Mod S w (w.alloc o):=Mod.of_below (grow_alloc w o) S

theorem Blk.mod {w w':World} {g:Nat} {t:TypeId} {cs:Array Value} {S:List Nat} (h:Blk w g t cs) (m:Mod S w w') (hn:g ∉ S):Blk w' g t cs:=h.of_block (m.block g h.lt hn)
theorem Blk.ne {w:World} {g g':Nat} {t t':TypeId} {cs cs':Array Value} (h:Blk w g t cs) (h':Blk w g' t' cs') (ht:t≠t'):g≠g':=by
  rintro rfl;unfold Blk at h h';rw [h] at h';injection h' with h';injection h' with _ h2;exact ht h2

abbrev Lst (w:World) (e:TypeId) (k:Nat) (v:Value) (n:Nat) (xs:List Value):Prop:=w.ownsRow 0 e k v n xs

theorem lst_blk {w:World} {e:TypeId} {k:Nat} {v:Value} {n:Nat} {xs:List Value} (h:Lst w e k v n xs) (g:Nat) (hg:v.ownBlock=some g):∃cap cur,v=.slice (some ⟨g,0,none⟩) n cap∧Blk w g e cur∧n≤cap∧cap≤maxLen∧cur.size=cap * k∧cur.toList.take (n * k)=xs:=by
  rcases h.2 with ⟨rfl,_⟩ | ⟨g',cap,cur,rfl,_,hgg,h1,h2,h3,h4⟩
  · simp [Value.ownBlock] at hg
  · simp only [Value.ownBlock,Option.some.injEq] at hg
    subst hg;exact ⟨cap,cur,rfl,hgg,h1,h2,h3,h4⟩
theorem lst_slice {w:World} {e:TypeId} {k:Nat} {v:Value} {n:Nat} {xs:List Value} (h:Lst w e k v n xs):∃a c,v=.slice a n c:=by
  rcases h.2 with ⟨rfl,rfl⟩ | ⟨g',cap,cur,rfl,_⟩
  · exact ⟨_,_,rfl⟩
  · exact ⟨_,_,rfl⟩
theorem lst_pos {w:World} {e:TypeId} {k:Nat} {v:Value} {n:Nat} {xs:List Value} (h:Lst w e k v n xs) (hn:0<n):∃g c,v=.slice (some ⟨g,0,none⟩) n c∧n≤c:=by
  rcases h.2 with ⟨rfl,rfl⟩ | ⟨g',cap,cur,rfl,_,_,h1,_⟩
  · omega
  · exact ⟨_,_,rfl,h1⟩
theorem lst_lt {w:World} {e:TypeId} {k:Nat} {v:Value} {n:Nat} {xs:List Value} (h:Lst w e k v n xs):∀g,v.ownBlock=some g→g<w.heap.size:=fun g hg=>(h.lt g hg).2
theorem lst_mod {w w':World} {e:TypeId} {k:Nat} {v:Value} {n:Nat} {xs:List Value} {S:List Nat} (h:Lst w e k v n xs) (m:Mod S w w') (hn:∀g,v.ownBlock=some g→g ∉ S):Lst w' e k v n xs:=by
  refine ⟨h.1,?_⟩;rcases h.2 with hh | ⟨g,cap,cur,rfl,hb,hgg,rest⟩
  · exact .inl hh
  · exact .inr ⟨g,cap,cur,rfl,hb,(m.block g (Array.getElem?_eq_some_iff.1 hgg).1 (hn g rfl)).trans hgg,rest⟩
theorem lst_grow {w w':World} {e:TypeId} {k:Nat} {v:Value} {n:Nat} {xs:List Value} (h:Lst w e k v n xs) (hb:Kb w w'):Lst w' e k v n xs:=lst_mod h (Mod.of_below hb []) (fun _ _ h=>by cases h)
theorem lst_ne {w:World} {e e':TypeId} {k k':Nat} {v v':Value} {n n':Nat} {xs xs':List Value} (h:Lst w e k v n xs) (h':Lst w e' k' v' n' xs') (ht:e≠e'):∀g,v.ownBlock=some g→v'.ownBlock≠some g:=fun g hg hg'=>by
  obtain ⟨_,_,_,b1,_⟩:=lst_blk h g hg;obtain ⟨_,_,_,b2,_⟩:=lst_blk h' g hg';exact b1.ne b2 ht rfl
theorem lst_blk_ne {w:World} {e t:TypeId} {k:Nat} {v:Value} {n:Nat} {xs:List Value} {g:Nat} {cs:Array Value} (h:Lst w e k v n xs) (h':Blk w g t cs) (ht:e≠t):v.ownBlock≠some g:=fun hg=>by
  obtain ⟨_,_,_,b1,_⟩:=lst_blk h g hg;exact b1.ne h' ht rfl
theorem lst_cell {w:World} {e:TypeId} {k:Nat} {n c g:Nat} {xs:List Value} (h:Lst w e k (.slice (some ⟨g,0,none⟩) n c) n xs) (j:Nat) (hj:j<n * k):w.cell? ⟨g,j,none⟩=xs[j]?:=h.cellAt j hj
theorem lst_frozen {w:World} {e:TypeId} {k:Nat} {n c g:Nat} {xs:List Value} (h:Lst w e k (.slice (some ⟨g,0,none⟩) n c) n xs) (j:Nat):w.frozen? ⟨g,j,none⟩=false:=h.frozenAt j

theorem lst_set {w:World} {e:TypeId} {k:Nat} {n c g:Nat} {xs:List Value} (h:Lst w e k (.slice (some ⟨g,0,none⟩) n c) n xs) (j:Nat) (u:Value):Lst (w.setCell ⟨g,j,none⟩ u) e k (.slice (some ⟨g,0,none⟩) n c) n (xs.set j u):=(h.stored j u).1

def setL (xs:List Value):Nat→List Value→List Value
  | _,[]=>xs
  | j,u::us=>setL (xs.set j u) (j+1) us

theorem lst_sets {e:TypeId} {k:Nat} {n c g:Nat}:∀(us:List Value) (j:Nat) (w:World) (xs:List Value),Lst w e k (.slice (some ⟨g,0,none⟩) n c) n xs→Lst (w.setCells g j us) e k (.slice (some ⟨g,0,none⟩) n c) n (setL xs j us)
  | [],_,_,_,h=>h
  | u::us,j,_,_,h=>lst_sets us (j+1) _ _ (lst_set h j u)

theorem setL_mid:∀(us p q r:List Value),q.length=us.length→setL (p++(q++r)) p.length us=p++(us++r)
  | [],p,q,r,h=>by
    have:q=[]:=List.eq_nil_of_length_eq_zero (by simpa using h);subst this;rfl
  | u::us,p,[],r,h=>by simp at h
  | u::us,p,x::q,r,h=>by
    have ih:=setL_mid us (p++[u]) q r (by simpa using h);simp only [setL];have e:(p++(x::q++r)).set p.length u=(p++[u])++(q++r):=by simp
    rw [e];rw [show p.length+1=(p++[u]).length by simp];rw [ih];simp

theorem mod_setCells (g:Nat) {S:List Nat} (hs:g∈S):∀(us:List Value) (j:Nat) (w:World),Mod S w (w.setCells g j us)
  | [],_,w=>Mod.refl S w
  | u::us,j,w=>(Mod.setCell w g j u hs).trans' (mod_setCells g hs us (j+1) _)

theorem sz_setCells (g:Nat):∀(us:List Value) (j:Nat) (w:World),(w.setCells g j us).heap.size=w.heap.size
  | [],_,_=>rfl
  | u::us,j,w=>by rw [World.setCells,sz_setCells g us];simp

theorem lst_cut {w:World} {e:TypeId} {k:Nat} {n c g m:Nat} {xs:List Value} (h:Lst w e k (.slice (some ⟨g,0,none⟩) n c) n xs) (hm:m≤n):Lst w e k (.slice (some ⟨g,0,none⟩) m c) m (xs.take (m * k)):=by
  obtain ⟨cap,cur,hv,hb,h1,h2,h3,h4⟩:=lst_blk h g rfl;injection hv with _ _ hc;subst hc;have hmk:m * k≤n * k:=Nat.mul_le_mul_right k hm;refine ⟨?_,.inr ⟨g,c,cur,rfl,Nat.zero_le _,hb,by omega,h2,h3,?_⟩⟩
  · rw [List.length_take,h.1]
    omega
  · rw [← h4,List.take_take]
    congr 1
    omega

def WhereL (w:World) (v v':Value):Prop:=v'.ownBlock=v.ownBlock∨∃k,v'.ownBlock=some k∧w.heap.size≤k

theorem run_appL {P:Program} (w:World) (t ty e:TypeId) (i:TypeInfo) (z:Value) (size bytes:Nat) (ht:P.underlying t=some (.slice e)) (hi:P.info? e=some i) (hz:i.zero=some z)
    (hsize:i.size=size) (hby:i.bytes=bytes) (hzs:z.cells.size=size) (hsz:0<size)
    (v:Value) (n:Nat) (xs:List Value) (hown:Lst w e size v n xs)
    (a:Addr) (m c:Nat) (news:List Value) (hl:news.length=m * size) (hnews:∀j u,news[j]?=some u→w.cell? (a.add j)=some u) (h1:∀u∈news,u.oneCell'=true)
    (hm:0<m) (h63:n+m≤maxLen) (hbytes:(n+m) * bytes≤140737488355328):
    ∃v' w',(Builtin.append_ #[t,t] ty #[v,.slice (some a) m c]).run P w=.ok v' w'∧Lst w' e size v' (n+m) (xs++news)∧w.grownBy w' v.ownBlock∧WhereL w v v':=by
  obtain ⟨v',w',hr,h2,h3,_⟩:=run_append_own (P:=P) w 0 t ty e i z size bytes ht hi hz hsize hby hzs hsz v n xs hown a m c news hl hnews h1 h63 hbytes (Nat.zero_le _);refine ⟨v',w',hr,h2,h3,?_⟩;rcases hown.2 with ⟨rfl,rfl⟩ | ⟨g0,cap,cur,rfl,hbg,hg,hnc,hcm,hcs,htake⟩
  · right
    obtain ⟨v2,w2,hr2,h4,_⟩:=run_append_own (P:=P) w w.heap.size t ty e i z size bytes ht hi hz hsize hby hzs hsz (.slice none 0 0) 0 [] (World.ownsRow_nil _ _ _ _) a m c news hl hnews h1 h63 hbytes (Nat.le_refl _);rw [hr] at hr2;injection hr2 with e1 e2;subst e1;obtain ⟨g,c',hv,_⟩:=lst_pos h2 (by omega);subst hv;exact ⟨g,rfl,(h4.lt g rfl).1⟩
  · by_cases hroom:n+m≤cap
    · left
      have hr':=run_append_room (P:=P) w t ty e i ht hi g0 n cap cur hg a m c news (by rw [hsize];exact hl) hnews h1 hroom (by rw [hsize,hcs,hl,← Nat.add_mul];exact Nat.mul_le_mul_right size hroom);rw [hr] at hr';injection hr' with e1 e2;subst e1;rfl
    · right
      have hxs:∀j u,xs[j]?=some u→w.cell? ((⟨g0,0,none⟩:Addr).add j)=some u:=fun j u hu=>hown.cells (g:=g0) rfl j u hu
      have hr':=run_append_grow (P:=P) w t ty e i _ ht hi hz ⟨g0,0,none⟩ n cap xs (by rw [hsize];exact hown.1) hxs a m c news (by rw [hsize];exact hl) hnews (by omega) (by simp only [maxLen] at h63;omega) (by rw [hby];exact growslice_fits (by omega) (by omega));rw [hr] at hr';injection hr' with e1 e2;subst e1;exact ⟨w.heap.size,rfl,Nat.le_refl _⟩

theorem wpList_appL {P:Program} {ops:Array Oper} {rest:List Oper} {o:Oper} {a:Act} {Q:Exit→Act→World→Prop} (w:World) (hgd:o.guard=none) (s x:Operand) (t:TypeId)
    (ho:o.op=.call { callee:=.builtin .append,args:= #[s,x],argTypes:= #[t,t]})
    (e:TypeId) (size bytes:Nat) (ht:P.underlying t=some (.slice e)) (hin:∃i z,P.info? e=some i∧i.zero=some z∧i.size=size∧i.bytes=bytes∧z.cells.size=size) (hsz:0<size)
    (v:Value) (n:Nat) (xs:List Value) (hs:a.eval s=v) (hown:Lst w e size v n xs)
    (g:Nat) (news:List Value) (hx:a.eval x=.slice (some ⟨g,0,none⟩) 1 1) (hb:Blk w g e news.toArray) (hl:news.length=size) (h1:∀u∈news,u.oneCell'=true)
    (h63:n+1≤maxLen) (hbytes:(n+1) * bytes≤140737488355328)
    (hk:∀v' w',Lst w' e size v' (n+1) (xs++news)→w.grownBy w' v.ownBlock→WhereL w v v'→wpList P ops Q rest (a.put o.dst v') w'):wpList P ops Q (o::rest) a w:=by
  refine wpList_plain hgd fun K hK=>?_
  obtain ⟨i,z,hi,hz,hsize,hby,hzs⟩:=hin;obtain ⟨v',w',hr,h2,h3,h4⟩:=run_appL (P:=P) w t o.type e i z size bytes ht hi hz hsize hby hzs hsz v n xs hown ⟨g,0,none⟩ 1 1 news (by omega) (by
    intro j q hq;rw [Addr.add_lit,Nat.zero_add,hb.cell];simpa using hq) h1 (by omega) h63 hbytes
  unfold Oper.wp execOp;simp only [ho,resolve,invoke,builtin,Sem.run_bind,Sem.run_pure,Result.andThen_ok,List.map_toArray,List.map_cons,List.map_nil,hs,hx,hr];exact hK _ _ (hk v' w' h2 h3 h4)

theorem wpList_appB {P:Program} {ops:Array Oper} {rest:List Oper} {o:Oper} {a:Act} {Q:Exit→Act→World→Prop} (w:World) (hgd:o.guard=none) (s x:Operand) (t:TypeId)
    (ho:o.op=.call { callee:=.builtin .append,args:= #[s,x],argTypes:= #[t,t]})
    (base:Nat) (e:TypeId) (size bytes:Nat) (ht:P.underlying t=some (.slice e)) (hin:∃i z,P.info? e=some i∧i.zero=some z∧i.size=size∧i.bytes=bytes∧z.cells.size=size) (hsz:0<size)
    (v:Value) (n:Nat) (xs:List Value) (hs:a.eval s=v) (hown:w.ownsRow base e size v n xs)
    (g:Nat) (news:List Value) (hx:a.eval x=.slice (some ⟨g,0,none⟩) 1 1) (hb:Blk w g e news.toArray) (hl:news.length=size) (h1:∀u∈news,u.oneCell'=true)
    (h63:n+1≤maxLen) (hbytes:(n+1) * bytes≤140737488355328) (hbase:base≤w.heap.size)
    (hk:∀b c w',w'.ownsRow base e size (.slice b (n+1) c) (n+1) (xs++news)→w.grownBy w' v.ownBlock→wpList P ops Q rest (a.put o.dst (.slice b (n+1) c)) w'):wpList P ops Q (o::rest) a w:=by
  obtain ⟨i,z,hi,hz,hsize,hby,hzs⟩:=hin;refine wpList_append_own w hgd s x t ho base e i z size bytes ht hi hz hsize hby hzs hsz v n xs hs hown ⟨g,0,none⟩ 1 1 news hx (by omega) (by
    intro j q hq;rw [Addr.add_lit,Nat.zero_add,hb.cell];simpa using hq) h1 h63 hbytes hbase ?_
  intro v' w' h2 h3 _;rcases h2.2 with ⟨_,h⟩ | ⟨g',cap',cur,rfl,_⟩
  · omega
  · exact hk _ _ _ h2 h3

theorem wpList_stl {P:Program} {ops:Array Oper} {rest:List Oper} {op:Oper} {a:Act} {Q:Exit→Act→World→Prop} (w:World) (hgd:op.guard=none) (x y:Operand) (ty:TypeId) (ho:op.op=.store ty x y)
    (e:TypeId) (k n c g o:Nat) (xs us:List Value) (hx:a.eval x=.pointer (some ⟨g,o,none⟩)) (hy:a.eval y=.agg us.toArray) (h:Lst w e k (.slice (some ⟨g,0,none⟩) n c) n xs) (hi:(P.info? ty).map (·.size)=some us.length) (hf:o+us.length≤n * k) (h1:∀u∈us,u.oneCell'=true)
    (hk:∀w',Lst w' e k (.slice (some ⟨g,0,none⟩) n c) n (setL xs o us)→Mod [g] w w'→w'.heap.size=w.heap.size→wpList P ops Q rest (a.put op.dst undef) w'):wpList P ops Q (op::rest) a w:=by
  have hth:w.there g o us.length:=fun j hj=>by
    refine ⟨?_,?_⟩
    · rw [h.cellAt (o+j) (by omega),List.getElem?_eq_getElem (by rw [h.1];omega)]
      rfl
    · exact h.frozenAt (o+j)
  refine wpList_store_mid hgd ty x y ho g o us.toArray hx hy (by simpa using hth) (by simpa using hi) (all_oneCell_toArray h1) ?_;exact hk _ (lst_sets us o w xs h) (mod_setCells g (by simp) us o w) (sz_setCells g us o w)

theorem step_stl {P:Program} {ops:Array Oper} {o':Oper} {a:Act} {K:Act→World→Prop} {Q:Exit→Act→World→Prop} {E:Prop} (w:World) (hgd:o'.guard=none) (x y:Operand) (ty:TypeId) (ho:o'.op=.store ty x y)
    (e:TypeId) (k n c g o:Nat) (xs us:List Value) (hx:a.eval x=.pointer (some ⟨g,o,none⟩)) (hy:a.eval y=.agg us.toArray) (h:Lst w e k (.slice (some ⟨g,0,none⟩) n c) n xs) (hi:(P.info? ty).map (·.size)=some us.length) (hf:o+us.length≤n * k) (h1:∀u∈us,u.oneCell'=true)
    (hk:∀w',Lst w' e k (.slice (some ⟨g,0,none⟩) n c) n (setL xs o us)→Mod [g] w w'→w'.heap.size=w.heap.size→K (a.put o'.dst undef) w'):if Region.wanted o' (yielded ops a.tmps)=true then Oper.wp P o' a w K Q else E:=by
  have hw:Region.wanted o' (yielded ops a.tmps)=true:=by simp [Region.wanted,hgd]
  rw [if_pos hw];have hth:w.there g o us.length:=fun j hj=>by
    refine ⟨?_,?_⟩
    · rw [h.cellAt (o+j) (by omega),List.getElem?_eq_getElem (by rw [h.1];omega)]
      rfl
    · exact h.frozenAt (o+j)
  refine wp_store_mid ty x y ho g o us.toArray hx hy (by simpa using hth) (by simpa using hi) (all_oneCell_toArray h1) ?_;exact hk _ (lst_sets us o w xs h) (mod_setCells g (by simp) us o w) (sz_setCells g us o w)

end Go.Proofs.YtdjpigfibafokaaGreatDoor
