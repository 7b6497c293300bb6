/- audit.Reached, as a contract: what is reached, sorted by the library. -/
import Derived.Test.YtlclabbnpjobgaaGreatDoorAp21
import Derived.Shelf.Slices.In.SortNone
import Derived.Sort.OwnSortedInts
namespace Go.Proofs.YtlclabbnpjobgaaGreatDoor
variable {P R l:List Nat}
variable {b base g m o x:Nat}
variable {cs:Lz}
variable {v:Value}
variable {w w':World}
set_option maxRecDepth 20000
open Go.RowKit
def srtI (l:List Nat):Lq:=(zN l).mergeSort fun x y=>decide (x≤y)
theorem Zaq (l:List Nat):(srtI l).length=l.length:=by rw [srtI,List.length_mergeSort,Zak]
theorem Yej (l:List Nat):nats l=(zN l).map (Value.int .i64):=by simp [nats,zN]
theorem Ztj (h:w.ownsRow m 3 1 v l.length (nats l)) (hl:l.length≤140737488355328):Kc 28 #[v] w fun e w'=>e=.returned (.tuple #[])∧w'.ownsRow m 3 1 v l.length ((srtI l).map (Value.int .i64))∧w.grownBy w' v.ownBlock:=by
 rcases h.2 with ⟨rfl,h0⟩ | ⟨g,cap,cur,rfl,hb,hgg,h1,h2,h3,h4⟩
 ·obtain rfl:l=[]:=List.eq_nil_of_length_eq_zero h0;refine (Any.slices_Sort_int_none Ygf none 0 w).mono ?_;rintro e w' ⟨rfl,rfl⟩;exact ⟨rfl,by rw [show srtI []=[] by simp [srtI,zN]];exact World.ownsRow_nil _ _ _ _,World.grownBy.refl _ _⟩
 ·have hH:Go.Sort.Holds (Value.int .i64) w g 0 (zN l).toArray:=holds_of_blockI hgg (by rw [Zak,← Yej];simpa using h4);have:=Any.slices_Sort_int Ygf g 0 cap (zN l) w hH (Array.getElem?_eq_some_iff.1 hgg).1 (by rw [Zak];omega);rw [Zak] at this;refine this.mono ?_;rintro e w' ⟨rfl,n,os,rfl⟩;have q:=ownsRow_sortedI (n:=n) (os:=os) (ss:=zN l) (ts:=srtI l) (by rw [Zaq,Zak]) hb hgg (by rw [Zak];exact h1) h2 h3;rw [Zak] at q;exact ⟨rfl,q,grownBy_sortedI _⟩
def RePost (cs:Lz) (R:List Nat) (w:World) (e:Ending) (w':World):Prop:=∃P a c,e=.returned (.tuple #[.slice a (rch P).length c,.int .i64 0])∧RdA cs R P∧w'.ownsRow w.heap.size 3 1 (.slice a (rch P).length c) (rch P).length ((srtI (rch P)).map (Value.int .i64))∧Kb w w'
set_option maxHeartbeats 2000000 in
theorem Zkf (A:Au w v cs) {R:List Nat} (hR:Rts cs R) {rv:Value} (hz:Zs w rv (zN R)):Kc 8 #[v,rv] w (RePost cs R w):=by
 have HL:=Za (Zkn A.vw A.wf A.le rv R hz hR.ok hR.lv);have HLL:Hid (∀P,RdA cs R P→(rch P).length≤65537):=fun P h=>by
  have h1:=Zhu A.wf hR.lv h.rc;have h2:=A.le;omega
 have HPost:Hid (∀P a c w',RdA cs R P→w'.ownsRow w.heap.size 3 1 (.slice a (rch P).length c) (rch P).length ((srtI (rch P)).map (Value.int .i64))→Kb w w'→RePost cs R w (.returned (.tuple #[.slice a (rch P).length c,.int .i64 0])) w'):=fun P a c w' q1 q2 q3=>⟨P,a,c,rfl,q1,q2,q3⟩
 generalize HE:RePost cs R w=Post at HPost ⊢;clear A hR hz HE;go_enter Tryz.func8,Tryz.ntmps8
 go_wp2_with (first
  |(go_at_call 27;refine HL.out.mono ?_;rintro e w1 ⟨P,slv,bm,n,rfl,r1,o1,m1,l1,b1⟩;have HRD:=Za r1;have HO1:=Za o1;have HB1:=Za b1;obtain ⟨sa,sc,esl⟩:=Zj (Zu o1);subst esl;clear r1 o1 m1 b1 l1)
  |((with_reducible refine Zv 6 ?_);refine Zh _ rfl _ rfl _ Zdw ?_;intro w2 b6 hg1 hl1 B2 q2;have HB2:=Za B2;have HQ2:=Za q2;have HG2:=Za hg1;clear hg1 hl1 B2 q2)
  |((with_reducible refine Zag 6 ?_);refine Zf _ rfl _ _ _ rfl b6 _ #[.slice sa (rch P).length sc,.map (some bm)] rfl rfl HB2.out Zcj rfl (by simp [Value.oneCell']) ?_;intro w3 B3 g3;have HB3:=Za B3;have HQ3:=Za (Ze HQ2.out g3 HG2.out);have c0:=B3.cell 0;simp only [List.getElem?_toArray,List.getElem?_cons_zero] at c0;have HSI:=Za (Ztj (Zl HO1.out HQ3.out) (by have:=HLL.out P HRD.out;omega));clear B3 g3)
  |(go_at_call 28;refine HSI.out.mono ?_;rintro e w4 ⟨rfl,o4,g4⟩;have HO4:=Za o4;have hne:(Value.slice sa (rch P).length sc).ownBlock≠some b6:=(Zm (Zu (Zl HO1.out HQ3.out)) HB3.out (by decide));have c4:=(HB3.out.mod (Mod.of_grown g4 (S:=(Value.slice sa (rch P).length sc).ownBlock.toList) (fun k hk=>by simp [hk])) (fun q=>hne (by simpa using q))).cell 0;simp only [List.getElem?_toArray,List.getElem?_cons_zero] at c4;have HB4:=Za (Zaf (Zb HB1.out HQ3.out) (Zl HO1.out HQ3.out) (Nat.le_refl _) g4);clear o4 g4 hne))
 exact HPost.out P sa sc w4 HRD.out HO4.out HB4.out
theorem Rch.mono {R':List Nat} (h:∀x∈R,x∈R') {x:Nat} (q:Rch cs R x):Rch cs R' x:=by
 induction q with
 | top hm h0=>exact .top (h _ hm) h0
 | side _ hq h0 ih=>exact .side ih hq h0
theorem Zno {a:Nat}:Rch cs [a,b] x↔Rch cs [a] x∨Rch cs [b] x:=by
 constructor
 ·intro q;induction q with
  | top hm h0=>
   simp only [List.mem_cons,List.not_mem_nil,or_false] at hm;rcases hm with e | e
   ·exact .inl (.top (by simp [e]) h0)
   ·exact .inr (.top (by simp [e]) h0)
  | side _ hq h0 ih=>
   rcases ih with q | q
   ·exact .inl (.side q hq h0)
   ·exact .inr (.side q hq h0)
 ·rintro (q | q)
  ·exact q.mono (by simp)
  ·exact q.mono (by simp)
theorem Zle (l:List Nat):(srtI l).Perm (zN l):=List.mergeSort_perm _ _
theorem Zsg (l:List Nat) (x:Int):x∈zN l↔∃n∈l,x=(n:Int):=by
 unfold zN;rw [List.mem_map];exact ⟨fun ⟨n,h,e⟩=>⟨n,h,e.symm⟩,fun ⟨n,h,e⟩=>⟨n,h,e.symm⟩⟩
theorem Zth (h:l.Nodup):(srtI l).Pairwise (· < ·):=by
 have hs:(srtI l).Pairwise fun x y=>decide (x≤y)=true:=List.pairwise_mergeSort (fun a b c h1 h2=>by
  simp only [decide_eq_true_eq] at *;omega) (fun a b=>by
  simp only [Bool.or_eq_true,decide_eq_true_eq];omega) (zN l)
 have hn:(srtI l).Pairwise (· ≠ ·):=by
  have h1:(zN l).Nodup:=by
   unfold zN List.Nodup;rw [List.pairwise_map];exact List.Pairwise.imp (fun q e=>q (Int.ofNat.inj e)) h
  exact ((Zle l).nodup_iff).2 h1
 exact (hs.and hn).imp (fun ⟨h1,h2⟩=>by
  simp only [decide_eq_true_eq] at h1;omega)
theorem Zux (W:Wf cs []) (lv:∀h∈R,h≠0→0<cc cs (h-1)) (h:RdA cs R P):(rch P).length+(lsA P (slotsOf (cs.map pl))).length=noc cs:=by
 have pm:(rch P).Perm ((slotsOf (cs.map pl)).filter fun (x:Nat)=>!decide (wnt P (x:Int)=0)):=(List.perm_ext_iff_of_nodup (Zdh P) ((Zgy _).filter _)).2 (fun x=>by
  rw [List.mem_filter,Zct];constructor
  ·intro q;have l:=((h.mem x).1 q).live W lv;refine ⟨l,?_⟩;simp only [Bool.not_eq_true',decide_eq_false_iff_not];exact fun e=>(Zga P x l.1).1 e q
  ·rintro ⟨l,q⟩;simp only [Bool.not_eq_true',decide_eq_false_iff_not] at q;exact Classical.byContradiction fun z=>q ((Zga P x l.1).2 z))
 have e1:=pm.length_eq;have e2:noc cs=(slotsOf (cs.map pl)).length:=(Zbf _).symm;have e3:∀l:List Nat,(l.filter fun (x:Nat)=>decide (wnt P (x:Int)=0)).length+(l.filter fun (x:Nat)=>!decide (wnt P (x:Int)=0)).length=l.length:=fun l=>by
  induction l with
  | nil=>rfl
  | cons a l ih=>
   by_cases q:wnt P (a:Int)=0
   ·simp only [List.filter_cons,q,decide_true,if_true,Bool.not_true,Bool.false_eq_true,if_false,List.length_cons];omega
   ·simp only [List.filter_cons,q,decide_false,Bool.false_eq_true,if_false,Bool.not_false,if_true,List.length_cons];omega
 have e4:=e3 (slotsOf (cs.map pl));unfold lsA;omega
theorem Zpl (h:RdA cs R P) (x:Nat):x∈lsA P (slotsOf (cs.map pl))↔(x≠0∧0<cc cs (x-1))∧ ¬Rch cs R x:=by
 unfold lsA;rw [List.mem_filter,Zct];constructor
 ·rintro ⟨l,q⟩;simp only [decide_eq_true_eq] at q;exact ⟨l,fun z=>(Zga P x l.1).1 q ((h.mem x).2 z)⟩
 ·rintro ⟨l,q⟩;refine ⟨l,?_⟩;simp only [decide_eq_true_eq];exact (Zga P x l.1).2 (fun z=>q ((h.mem x).1 z))
def e00:Ent:=([],[])
def encP (k:Lq) (v:Value):List Value:=k.map (Value.int .u8)++[v]
theorem Zab (k:Lq) (v:Value) (h:k.length=32):(encP k v).length=33:=by simp [encP,h]
def PrAt (w:World) (v:Value) (V:Nat→Value) (es:List Ent):Prop:=
 ∃a cap,v=.slice a es.length cap∧es.length≤cap∧(0<es.length→∃g off,a=some ⟨g,off,none⟩∧∀i,i<es.length→w.rangeAt g (off+i * 33) (encP (es.getD i e00).1 (V i)))∧
  ∀i,i<es.length→Key (es.getD i e00).1∧Reads w (V i) (es.getD i e00).2
theorem Zha {cs:List Value} (h:w.rangeAt g o cs) (hb:Kb w w'):w'.rangeAt g o cs:=fun j v hv=>(hb.cell (p:=⟨g,o+j,none⟩) (block_lt_of_cell (h j v hv))).trans (h j v hv)
def lsE:List (Lq)→List Ent→Int
 | _,[]=>0
 | ks,e::r=>if 1024<e.2.length then 4 else if e.1∈ks then 6 else lsE (ks++[e.1]) r
def errB (es:List Ent):Int:=if 4096<es.length then 4 else lsE [] es
theorem Zlg:(Tryz.prog.info? 58).map (·.size)=some 33:=by kernel_rfl
theorem Yga:∃fs,Tryz.prog.underlying 58=some (.struct fs):=⟨_,Tryz.underlying58⟩
theorem Zqo {ops:Array Oper} {rest:List Oper} {op:Oper} {a:Act} {Q:Exit→Act→World→Prop} (w:World) (hgd:op.guard=none) (x:Operand) (ho:op.op=.load 48 x)
  (g o:Nat) (k:Lq) (hx:a.eval x=.pointer (some ⟨g,o,none⟩)) (h:w.rangeAt g o (B k).toList) (hl:k.length=32)
  (hk:wpList Tryz.prog ops Q rest (a.put op.dst (.agg (B k))) w):wpList Tryz.prog ops Q (op::rest) a w:=
 wpList_load_mid hgd 48 x ho g o hx (B k).toList _ h Tryz.underlying48 rfl (by rw [Zaz,List.length_map,hl];exact Zjx) (by simpa using hk)
theorem Zui {k:Lq} (h:w.rangeAt g o (encP k v)):w.rangeAt g o (B k).toList:=by
 intro j u hu;rw [Zaz] at hu;have hj:j<(k.map (Value.int .u8)).length:=(List.getElem?_eq_some_iff.1 hu).1;refine h j u ?_;unfold encP;rw [List.getElem?_append_left hj];exact hu
def flatP (its:List (Ent×Value)):List Value:=its.flatMap fun p=>encP p.1.1 p.2
theorem Zpx:∀(its:List (Ent×Value)),(∀p∈its,p.1.1.length=32)→∀(i:Nat) (hi:i<its.length) (j:Nat) (v:Value),(encP its[i].1.1 its[i].2)[j]?=some v→(flatP its)[i * 33+j]?=some v
 | [],_,i,hi,_,_,_=>by simp at hi
 | p::r,hl,0,_,j,v,h=>by
  have h:(encP p.1.1 p.2)[j]?=some v:=h;have hj:=(List.getElem?_eq_some_iff.1 h).1;simp only [flatP,List.flatMap_cons,Nat.zero_mul,Nat.zero_add];rw [List.getElem?_append_left hj];exact h
 | p::r,hl,i+1,hi,j,v,h=>by
  have ih:=Zpx r (fun q hq=>hl q (by simp [hq])) i (by simpa using hi) j v (by simpa using h);have e1:(encP p.1.1 p.2).length=33:=Zab _ _ (hl p (by simp));simp only [flatP,List.flatMap_cons];rw [List.getElem?_append_right (by omega),show (i+1) * 33+j-(encP p.1.1 p.2).length=i * 33+j by omega];exact ih
theorem Zif:∃i z,Tryz.prog.info? 58=some i∧i.zero=some z∧i.size=33∧i.bytes=56∧z.cells.size=33:=⟨_,_,rfl,rfl,rfl,rfl,rfl⟩
theorem Zqp {ops:Array Oper} {rest:List Oper} {op:Oper} {a:Act} {Q:Exit→Act→World→Prop} (w:World) (hgd:op.guard=none) (x:Operand) (ho:op.op=.buildSlice 41 1 #[(0,x)])
  (k:Lq) (v:Value) (hx:a.eval x=.agg (encP k v).toArray) (hl:k.length=32)
  (hk:wpList Tryz.prog ops Q rest (a.put op.dst (.slice (some ⟨w.heap.size,0,none⟩) 1 1)) (w.alloc (.cells (encP k v).toArray 58))):wpList Tryz.prog ops Q (op::rest) a w:=by
 refine wpList_plain hgd fun K hK=>?_
 obtain ⟨i,z,hi,hz,hs,_,hzs⟩:=Zif;have hrun:=run_buildSlice (P:=Tryz.prog) w 41 58 1 #[(0,.agg (encP k v).toArray)] (encP k v).toArray i z Tryz.underlying41 hi hz (by rw [hs];omega) (by rw [hs];omega) (by
  rw [hs];obtain ⟨zs,hzz,hzl⟩:∃zs:List Value,(Array.range (1 * 33)).map (z.cells[· % z.cells.size]!)=zs.toArray∧zs.length=33:=⟨_,(Array.toArray_toList).symm,by simp⟩;rw [hzz];have:=Zcx (fun i=>some (i * 33,33)) 0 0 33 (.agg (encP k v).toArray) (encP k v) zs [] rfl rfl (Zab k v hl) (by omega);rw [show (#[(0,Value.agg (encP k v).toArray)]:Array (Nat×Value)).toList=[(0,Value.agg (encP k v).toArray)] from rfl,this,Instr.fill];simp [hzl])
 unfold Oper.wp execOp;simp only [ho,List.map_toArray,List.map_cons,List.map_nil,hx,Sem.run_bind,hrun,Result.andThen_ok,Sem.run_pure];exact hK _ _ hk
theorem Zpf {its:List (Ent×Value)} (h:w.ownsRow base 58 33 v its.length (flatP its)) (hk:∀p∈its,Key p.1.1) (hr:∀p∈its,Reads w p.2 p.1.2):
  PrAt w v (fun i=>(its.getD i (e00,undef)).2) (its.map (·.1)):=by
 have hget:∀i (hi:i<its.length),(its.map (·.1)).getD i e00=its[i].1∧its.getD i (e00,undef)=its[i]:=fun i hi=>⟨by simp [List.getD,hi],by simp [List.getD,hi]⟩
 have hlast:∀i,i<(its.map (·.1)).length→Key ((its.map (·.1)).getD i e00).1∧Reads w (its.getD i (e00,undef)).2 ((its.map (·.1)).getD i e00).2:=by
  intro i hi;rw [List.length_map] at hi;obtain ⟨e1,e2⟩:=hget i hi;rw [e1,e2];exact ⟨hk _ (List.getElem_mem hi),hr _ (List.getElem_mem hi)⟩
 rcases h.2 with ⟨rfl,hn⟩ | ⟨g,cap,cur,rfl,_,hg,hcap,_,hsz,htake⟩
 ·exact ⟨none,0,by rw [List.length_map,hn],by rw [List.length_map];omega,fun hp=>by rw [List.length_map] at hp;omega,hlast⟩
 ·refine ⟨_,cap,by rw [List.length_map],by rw [List.length_map];exact hcap,fun _=>⟨g,0,rfl,fun i hi j u hu=>?_⟩,hlast⟩;rw [List.length_map] at hi;obtain ⟨e1,e2⟩:=hget i hi;rw [e1] at hu;simp only [e2] at hu;have h1:=Zpx its (fun p hp=>(hk p hp).1) i hi j u hu;rw [← htake] at h1;have h2:(cur.toList)[i * 33+j]?=some u:=by
   rw [List.getElem?_take] at h1;split at h1
   ·exact h1
   ·cases h1
  rw [cell_of_row w g _ cur _ _ hg,Nat.zero_add];simpa using h2
end Go.Proofs.YtlclabbnpjobgaaGreatDoor
