/- Slabs by definition: for each slot that was ever occupied how often it is held and the cells of its thing, and the free slots among them; how these lie in a list, cell by cell. -/
import Derived.Test.YtlclabbnpjobgaaGreatDoorAp01
import Derived.LaidEqlPtr
import Derived.Laws.CopyOwn
import Derived.Lib.Bytealg
namespace Go.Proofs.YtlclabbnpjobgaaGreatDoor
variable {b base c g i k room s:Nat}
variable {fr:List Nat}
variable {sp zs:Lq}
variable {v vf vf' vp vp':Value}
variable {w w':World}
set_option maxRecDepth 20000
open Go.RowKit
abbrev Pl:=Nat×List Value
def cnt (ps:List Pl) (i:Nat):Nat:=(ps[i]?.getD (0,[])).1
def thg (ps:List Pl) (i:Nat):List Value:=(ps[i]?.getD (0,[])).2
def occs (ps:List Pl):Nat:=ps.countP fun p=>decide (0<p.1)
theorem Yfk (ps:List Pl) (i:Nat) (h:ps.length≤i):cnt ps i=0:=by simp [cnt,List.getElem?_eq_none h]
theorem Zqa {ps:List Pl} (h:0<cnt ps i):i<ps.length:=by
 apply Nat.lt_of_not_le;intro hn;rw [Yfk ps i hn] at h;omega
theorem Zff (ps:List Pl) (i j:Nat) (p:Pl) (hi:i<ps.length):cnt (ps.set i p) j=if j=i then p.1 else cnt ps j:=by
 unfold cnt;rw [List.getElem?_set]
 by_cases h:i=j
 ·subst h;simp [hi]
 ·rw [if_neg h,if_neg (fun e=>h e.symm)]
theorem Ybo (ps:List Pl) (j:Nat) (p:Pl):cnt (ps++[p]) j=if j=ps.length then p.1 else cnt ps j:=by
 unfold cnt
 by_cases h:j=ps.length
 ·subst h;simp
 ·rw [if_neg h]
  by_cases h2:j<ps.length
  ·rw [List.getElem?_append_left h2]
  ·rw [List.getElem?_eq_none (by simp;omega),List.getElem?_eq_none (by omega)]
theorem Zhc (ps:List Pl) (i:Nat) (p:Pl) (hi:i<ps.length):occs (ps.set i p)+(if 0<cnt ps i then 1 else 0)=occs ps+(if 0<p.1 then 1 else 0):=by
 induction ps generalizing i with
 | nil=>simp at hi
 | cons q r ih=>
  cases i with
  | zero=>
   have e:cnt (q::r) 0=q.1:=rfl;rw [e];simp only [occs,List.set_cons_zero,List.countP_cons,decide_eq_true_eq];omega
  | succ i=>
   have e:cnt (q::r) (i+1)=cnt r i:=by simp [cnt]
   have:=ih i (by simpa using hi);rw [e];simp only [occs,List.set_cons_succ,List.countP_cons,decide_eq_true_eq] at this ⊢;omega
theorem Zhv (ps:List Pl) (p:Pl):occs (ps++[p])=occs ps+(if 0<p.1 then 1 else 0):=by
 simp [occs,List.countP_append,List.countP_cons]
structure Inv (room:Nat) (ps:List Pl) (fr:List Nat):Prop where
 r1:1≤room
 r2:room≤65536
 len:ps.length≤room
 nod:fr.Nodup
 free:∀s∈fr,1≤s∧s≤ps.length∧cnt ps (s-1)=0
 sum:occs ps+fr.length=ps.length
 most:∀i,cnt ps i≤1073741824
theorem Inv.new (h1:1≤room) (h2:room≤65536):Inv room [] []:=⟨h1,h2,by simp,by simp,by simp,by simp [occs],fun i=>by simp [cnt]⟩
theorem Inv.takeFree {ps:List Pl} (h:Inv room ps (fr++[s])) (x:List Value):Inv room (ps.set (s-1) (1,x)) fr:=by
 obtain ⟨h1,h2,h3⟩:=h.free s (by simp);have hi:s-1<ps.length:=by omega
 have ho:=Zhc ps (s-1) (1,x) hi;rw [h3] at ho;have hs:=h.sum;have hn:=h.nod;rw [List.nodup_append] at hn;refine ⟨h.r1,h.r2,by simpa using h.len,hn.1,fun q hq=>?_,?_,fun i=>?_⟩
 ·obtain ⟨q1,q2,q3⟩:=h.free q (by simp [hq]);have hne:q≠s:=hn.2.2 q hq s (by simp);refine ⟨q1,by simpa using q2,?_⟩;rw [Zff ps _ _ _ hi,if_neg (by omega)];exact q3
 ·simp at hs ho ⊢;omega
 ·rw [Zff ps _ _ _ hi];split
  ·simp
  ·exact h.most i
theorem Inv.takeNew {ps:List Pl} (h:Inv room ps []) (hl:ps.length<room) (x:List Value):Inv room (ps++[(1,x)]) []:=by
 have hs:=h.sum;have ho:=Zhv ps (1,x);refine ⟨h.r1,h.r2,by simp;omega,by simp,by simp,?_,fun i=>?_⟩
 ·simp at hs ho ⊢;omega
 ·rw [Ybo];split
  ·simp
  ·exact h.most i
theorem Inv.held {ps:List Pl} (h:Inv room ps fr) (hi:0<cnt ps i) (hc:0<c) (hm:c≤1073741824) (x:List Value):Inv room (ps.set i (c,x)) fr:=by
 have hl:=Zqa hi;have ho:=Zhc ps i (c,x) hl;rw [if_pos hi,if_pos hc] at ho;have hs:=h.sum;refine ⟨h.r1,h.r2,by simpa using h.len,h.nod,fun q hq=>?_,?_,fun j=>?_⟩
 ·obtain ⟨q1,q2,q3⟩:=h.free q hq;refine ⟨q1,by simpa using q2,?_⟩;rw [Zff ps _ _ _ hl,if_neg (by intro e;rw [e] at q3;omega)];exact q3
 ·simp at ho ⊢;omega
 ·rw [Zff ps _ _ _ hl];split
  ·exact hm
  ·exact h.most j
theorem Inv.drop {ps:List Pl} (h:Inv room ps fr) (hi:0<cnt ps i) (z:List Value):Inv room (ps.set i (0,z)) (fr++[i+1]):=by
 have hl:=Zqa hi;have ho:=Zhc ps i (0,z) hl;rw [if_pos hi] at ho;have hs:=h.sum;have hnot:i+1 ∉ fr:=fun hm=>by
  have:=(h.free (i+1) hm).2.2;simp at this;omega
 refine ⟨h.r1,h.r2,by simpa using h.len,?_,fun q hq=>?_,?_,fun j=>?_⟩
 ·rw [List.nodup_append];refine ⟨h.nod,by simp,fun a ha b hb e=>?_⟩;simp at hb;subst hb;subst e;exact hnot ha
 ·rcases List.mem_append.1 hq with hq | hq
  ·obtain ⟨q1,q2,q3⟩:=h.free q hq;refine ⟨q1,by simpa using q2,?_⟩;rw [Zff ps _ _ _ hl];split
   ·rfl
   ·exact q3
  ·obtain rfl:q=i+1:=by simpa using hq
   refine ⟨by omega,by simp;omega,?_⟩;rw [Zff ps _ _ _ hl];simp
 ·simp at ho ⊢;omega
 ·rw [Zff ps _ _ _ hl];split
  ·simp
  ·exact h.most j
theorem Inv.frlen {ps:List Pl} (h:Inv room ps fr):fr.length≤ps.length:=by
 have:=h.sum;omega
def flatS (ps:List Pl):List Value:=ps.flatMap fun p=>Value.int .i64 (p.1:Int)::p.2
def Wid (k:Nat) (ps:List Pl):Prop:=∀p∈ps,p.2.length=k∧∀u∈p.2,u.oneCell'=true
theorem Wid.nil (k:Nat):Wid k []:=fun _ h=>by cases h
theorem Wid.set {ps:List Pl} (h:Wid k ps) (i c:Nat) (x:List Value) (hl:x.length=k) (h1:∀u∈x,u.oneCell'=true):Wid k (ps.set i (c,x)):=fun p hp=>by
 rcases List.mem_or_eq_of_mem_set hp with hp | rfl
 ·exact h p hp
 ·exact ⟨hl,h1⟩
theorem Wid.snoc {ps:List Pl} (h:Wid k ps) (c:Nat) (x:List Value) (hl:x.length=k) (h1:∀u∈x,u.oneCell'=true):Wid k (ps++[(c,x)]):=fun p hp=>by
 rcases List.mem_append.1 hp with hp | hp
 ·exact h p hp
 ·obtain rfl:p=(c,x):=by simpa using hp
  exact ⟨hl,h1⟩
theorem Wid.at {ps:List Pl} (h:Wid k ps) (i:Nat) (hi:i<ps.length):(thg ps i).length=k∧∀u∈thg ps i,u.oneCell'=true:=by
 have:thg ps i=ps[i].2:=by simp [thg,hi]
 rw [this];exact h _ (List.getElem_mem hi)
theorem Zru (ps:List Pl) (p:Pl):flatS (ps++[p])=flatS ps++(Value.int .i64 (p.1:Int)::p.2):=by simp [flatS]
theorem Zgt (ps qs:List Pl):flatS (ps++qs)=flatS ps++flatS qs:=by simp [flatS]
theorem Zgs {k:Nat}:∀ {ps:List Pl},Wid k ps→(flatS ps).length=ps.length * (k+1)
 | [],_=>by simp [flatS]
 | p::r,h=>by
  have ih:=Zgs (k:=k) (ps:=r) (fun q hq=>h q (by simp [hq]));have h1:=(h p (by simp)).1;simp only [flatS,List.flatMap_cons,List.length_append,List.length_cons] at ih ⊢;rw [Nat.add_mul];omega
theorem Zyo (ps:List Pl) (i:Nat) (hi:i<ps.length):ps=ps.take i++((cnt ps i,thg ps i)::ps.drop (i+1)):=by
 have e:(cnt ps i,thg ps i)=ps[i]:=by simp [cnt,thg,hi]
 rw [e,← List.drop_eq_getElem_cons hi,List.take_append_drop]
theorem Zcl (ps:List Pl) (i:Nat) (hi:i<ps.length):flatS ps=flatS (ps.take i)++((Value.int .i64 (cnt ps i:Int)::thg ps i)++flatS (ps.drop (i+1))):=by
 conv=>lhs;rw [Zyo ps i hi,Zgt]
 simp [flatS]
theorem Zik (ps:List Pl) (i:Nat) (p:Pl) (hi:i<ps.length):flatS (ps.set i p)=flatS (ps.take i)++((Value.int .i64 (p.1:Int)::p.2)++flatS (ps.drop (i+1))):=by
 rw [List.set_eq_take_append_cons_drop,if_pos hi,Zgt];simp [flatS]
theorem Wid.take {ps:List Pl} (h:Wid k ps) (i:Nat):Wid k (ps.take i):=fun p hp=>h p (List.mem_of_mem_take hp)
theorem Zbu {ps:List Pl} (h:Wid k ps) (i:Nat) (hi:i<ps.length):(flatS (ps.take i)).length=i * (k+1):=by
 rw [Zgs (h.take i),List.length_take,Nat.min_eq_left (by omega)]
theorem Zfe {ps:List Pl} (h:Wid k ps) (i:Nat) (hi:i<ps.length):(flatS ps)[i * (k+1)]?=some (.int .i64 (cnt ps i:Int)):=by
 rw [Zcl ps i hi,List.getElem?_append_right (by rw [Zbu h i hi];omega),Zbu h i hi,Nat.sub_self];rfl
theorem Znz {ps:List Pl} (h:Wid k ps) (i:Nat) (hi:i<ps.length) (j:Nat) (u:Value) (hu:(thg ps i)[j]?=some u):(flatS ps)[i * (k+1)+1+j]?=some u:=by
 have hj:=(List.getElem?_eq_some_iff.1 hu).1;rw [Zcl ps i hi,List.getElem?_append_right (by rw [Zbu h i hi];omega),Zbu h i hi,show i * (k+1)+1+j-i * (k+1)=j+1 by omega,List.getElem?_append_left (by simp;omega)];simpa using hu
theorem Zdd {ps:List Pl} (h:Wid k ps) (i c:Nat) (x:List Value) (hi:i<ps.length) (hx:x.length=k):setL (flatS ps) (i * (k+1)) (Value.int .i64 (c:Int)::x)=flatS (ps.set i (c,x)):=by
 rw [Zik ps i _ hi]
 conv=>lhs;rw [Zcl ps i hi,← Zbu h i hi]
 exact Zgz _ _ _ _ (by simp [hx,(h.at i hi).1])
theorem Zde {ps:List Pl} (h:Wid k ps) (i c:Nat) (hi:i<ps.length):(flatS ps).set (i * (k+1)) (Value.int .i64 (c:Int))=flatS (ps.set i (c,thg ps i)):=by
 rw [Zik ps i _ hi]
 conv=>lhs;rw [Zcl ps i hi,← Zbu h i hi]
 simp
theorem Ziu {ps:List Pl} (h:Wid k ps) (i:Nat) (x:List Value) (hi:i<ps.length) (hx:x.length=k):setL (flatS ps) (i * (k+1)+1) x=flatS (ps.set i (cnt ps i,x)):=by
 rw [Zik ps i _ hi]
 conv=>lhs;rw [Zcl ps i hi,← Zbu h i hi]
 have:=Zgz x (flatS (ps.take i)++[Value.int .i64 (cnt ps i:Int)]) (thg ps i) (flatS (ps.drop (i+1))) (by rw [hx,(h.at i hi).1]);simpa using this
def nats (fr:List Nat):List Value:=fr.map fun (s:Nat)=>Value.int .i64 (s:Int)
theorem Zdp (fr:List Nat):(nats fr).length=fr.length:=by simp [nats]
theorem Zan (fr:List Nat) (s:Nat):nats (fr++[s])=nats fr++[Value.int .i64 (s:Int)]:=by simp [nats]
theorem Zhy (fr:List Nat) (n:Nat):(nats fr).take n=nats (fr.take n):=by simp [nats,List.map_take]
theorem Zhd (fr:List Nat) (i:Nat) (hi:i<fr.length):(nats fr)[i]?=some (.int .i64 (fr.getD i 0:Nat)):=by simp [nats,List.getD,hi]
def Vac (ps:List Pl) (slot:Int):Prop:=∀i:Nat,slot=(i:Int)+1→cnt ps i=0
def slotsK (ps:List Pl) (k:Nat):List Nat:=((List.range k).filter fun i=>decide (0<cnt ps i)).map (· +1)
def slotsOf (ps:List Pl):List Nat:=slotsK ps ps.length
theorem Zeq (ps:List Pl) (k:Nat) (h:0<cnt ps k):slotsK ps (k+1)=slotsK ps k++[k+1]:=by simp [slotsK,List.range_succ,List.filter_append,h]
theorem Zfk (ps:List Pl) (k:Nat) (h: ¬0<cnt ps k):slotsK ps (k+1)=slotsK ps k:=by simp [slotsK,List.range_succ,List.filter_append,h]
theorem Ztm (ps:List Pl) (k:Nat):(slotsK ps k).length≤k:=by
 have:=List.length_filter_le (fun i=>decide (0<cnt ps i)) (List.range k);simpa [slotsK] using this
theorem Zho (ps:List Pl) (s:Nat):s∈slotsOf ps↔∃i,s=i+1∧0<cnt ps i:=by
 simp only [slotsOf,slotsK,List.mem_map,List.mem_filter,List.mem_range,decide_eq_true_eq];constructor
 ·rintro ⟨i,⟨_,h⟩,rfl⟩;exact ⟨i,rfl,h⟩
 ·rintro ⟨i,rfl,h⟩;exact ⟨i,⟨Zqa h,h⟩,rfl⟩
theorem Zlr (ps:List Pl):∀k,k≤ps.length→(slotsK ps k).length=occs (ps.take k)
 | 0,_=>by simp [slotsK,occs]
 | k+1,h=>by
  have ih:=Zlr ps k (by omega);have e:ps.take (k+1)=ps.take k++[(cnt ps k,thg ps k)]:=by
   have:(cnt ps k,thg ps k)=ps[k]:=by simp [cnt,thg,show k<ps.length by omega]
   rw [this,List.take_succ_eq_append_getElem (by omega)]
  rw [e,Zhv]
  by_cases hc:0<cnt ps k
  ·rw [Zeq ps k hc,if_pos hc,List.length_append,ih];rfl
  ·rw [Zfk ps k hc,if_neg hc,ih,Nat.add_zero]
theorem Zbf (ps:List Pl):(slotsOf ps).length=occs ps:=by
 rw [slotsOf,Zlr ps ps.length (Nat.le_refl _),List.take_length]
def slB (g:Nat) (vp vf:Value):List Nat:=g::(vp.ownBlock.toList++vf.ownBlock.toList)
theorem Zaa:k∈slB g vp vf↔k=g∨vp.ownBlock=some k∨vf.ownBlock=some k:=by simp [slB]
theorem Zjz (hp:vp'.ownBlock=vp.ownBlock∨∃k,vp'.ownBlock=some k∧w.heap.size≤k) (hf:vf'.ownBlock=vf.ownBlock∨∃k,vf'.ownBlock=some k∧w.heap.size≤k):New (slB g vp vf) w (slB g vp' vf'):=fun k hk=>by
 rcases Zaa.1 hk with rfl | h | h
 ·exact .inl (Zaa.2 (.inl rfl))
 ·rcases hp with e | ⟨q,e,hq⟩
  ·exact .inl (Zaa.2 (.inr (.inl (e ▸ h))))
  ·rw [e] at h;injection h with h;exact .inr (h ▸ hq)
 ·rcases hf with e | ⟨q,e,hq⟩
  ·exact .inl (Zaa.2 (.inr (.inr (e ▸ h))))
  ·rw [e] at h;injection h with h;exact .inr (h ▸ hq)
theorem Zyv (ps:List Pl) (p q:Pl):(ps++[p]).set ps.length q=ps++[q]:=by simp
theorem Ybg {P:Program} (w:World) {tp te:TypeId} (a:Addr) (hp:P.underlying tp=some (.pointer te)):(binOp .eql tp (.pointer none) (.pointer (some a))).run P w=.ok (.bool false) w:=by
 have h:∀d:Nat,(Op.equalIn (d+1) tp (.pointer none) (.pointer (some a))).run P w=.ok false w:=fun d=>by
  simp [Op.equalIn,run_underlying hp]
 simp only [binOp];simp [Op.equal,Op.maxDepth,h 9999]
theorem Zah:∃i z,Tryz.prog.info? 3=some i∧i.zero=some z∧i.size=1∧i.bytes=8∧z.cells.size=1:=⟨_,_,rfl,rfl,rfl,rfl,rfl⟩
theorem Zdc:Tryz.prog.underlying 52=some (.slice 5):=Tryz.underlying52
theorem Ziy:Tryz.prog.underlying 5=some (.int .u8):=Tryz.underlying5
theorem Zju:Tryz.prog.underlying 9=some .string:=Tryz.underlying9
theorem Zma:(Tryz.prog.info? 5).map (fun i=>(i.zero,i.size,i.bytes))=some (some (.int .u8 0),1,1):=by kernel_rfl
def B (zs:Lq):Array Value:=(zs.map (Value.int .u8)).toArray
theorem Zn (zs:Lq):(B zs).size=zs.length:=by simp [B]
theorem Yby (zs:Lq) (i:Nat) (h:i<zs.length):(B zs)[i]?=some (.int .u8 (zs.getD i 0)):=by simp [B,List.getD,h]
theorem Zaz (zs:Lq):(B zs).toList=zs.map (Value.int .u8):=by simp [B]
def Row (w:World) (g:Nat) (zs:Lq):Prop:=w.heap[g]?=some (.cells (B zs) 5 (0,0))
theorem Row.lt (h:Row w g zs):g<w.heap.size:=by
 unfold Row at h;exact (Array.getElem?_eq_some_iff.1 h).1
theorem Row.cell (h:Row w g zs) (i:Nat) (hi:i<zs.length):w.cell? ⟨g,i,none⟩=some (.int .u8 (zs.getD i 0)):=by
 rw [cell_of_row w g i _ _ _ h,Yby zs i hi]
theorem Row.frozen (h:Row w g zs) (i:Nat):w.frozen? ⟨g,i,none⟩=false:=frozen_of_row w g i _ _ h
theorem Row.of_block (h:Row w g zs) (k:w'.heap[g]?=w.heap[g]?):Row w' g zs:=by unfold Row at *;rw [k];exact h
def Reads (w:World) (v:Value) (zs:Lq):Prop:=
 ∃a cap,v=.slice a zs.length cap∧zs.length≤cap∧(a=none→cap=0)∧Bytes zs∧
  (0<zs.length→∃b off,a=some ⟨b,off,none⟩∧∀i,i<zs.length→w.cell? ⟨b,off+i,none⟩=some (.int .u8 (zs.getD i 0)))
theorem Reads.nil (w:World):Reads w (.slice none 0 0) []:=⟨none,0,rfl,Nat.le_refl _,fun _=>rfl,Bytes.nil,fun h=>by simp at h⟩
theorem Reads.grow (h:Reads w v zs) (hb:Kb w w'):Reads w' v zs:=by
 obtain ⟨a,cap,e,h1,h2,h3,h4⟩:=h;refine ⟨a,cap,e,h1,h2,h3,fun hp=>?_⟩;obtain ⟨b,off,ea,hc⟩:=h4 hp;refine ⟨b,off,ea,fun i hi=>?_⟩;have hlt:=block_lt_of_cell (hc i hi);rw [hb.cell hlt];exact hc i hi
def Own (base:Nat) (w:World) (v:Value) (zs sp:Lq):Prop:=
 Bytes zs∧Bytes sp∧zs.length+sp.length≤maxLen∧
 ((v=.slice none 0 0∧zs=[]∧sp=[])∨∃g rest,base≤g∧v=.slice (some ⟨g,0,none⟩) zs.length (zs.length+sp.length)∧Row w g (zs++sp++rest))
theorem Own.nil (base:Nat) (w:World):Own base w (.slice none 0 0) [] []:=⟨Bytes.nil,Bytes.nil,by simp,.inl ⟨rfl,rfl,rfl⟩⟩
theorem Own.empty (base:Nat) (w:World) (hb:base≤w.heap.size):Own base (w.alloc (.cells #[] 5)) (.slice (some ⟨w.heap.size,0,none⟩) 0 0) [] []:=
 ⟨Bytes.nil,Bytes.nil,by simp,.inr ⟨w.heap.size,[],hb,rfl,heap_alloc_new w _⟩⟩
theorem Own.mk (hz:Bytes zs) (hs:Bytes sp) (hl:zs.length+sp.length≤maxLen) (hb:base≤g) (h:Row w g (zs++sp)):Own base w (.slice (some ⟨g,0,none⟩) zs.length (zs.length+sp.length)) zs sp:=
 ⟨hz,hs,hl,.inr ⟨g,[],hb,rfl,by simpa using h⟩⟩
theorem Own.slice (h:Own b w v zs sp):∃a c,v=.slice a zs.length c:=by
 obtain ⟨_,_,_,h4⟩:=h;rcases h4 with ⟨rfl,rfl,rfl⟩ | ⟨g,rest,hg,rfl,h5⟩
 ·exact ⟨_,_,rfl⟩
 ·exact ⟨_,_,rfl⟩
theorem Own.mono {b':Nat} (h:Own b w v zs sp) (hb:b'≤b):Own b' w v zs sp:=by
 obtain ⟨h1,h2,h3,h4⟩:=h;refine ⟨h1,h2,h3,?_⟩;rcases h4 with h4 | ⟨g,rest,hg,h5⟩
 ·exact .inl h4
 ·exact .inr ⟨g,rest,Nat.le_trans hb hg,h5⟩
theorem Own.of_block (h:Own b w v zs sp) (hw:∀k,v.ownBlock=some k→w'.heap[k]?=w.heap[k]?):Own b w' v zs sp:=by
 obtain ⟨h1,h2,h3,h4⟩:=h;refine ⟨h1,h2,h3,?_⟩;rcases h4 with h4 | ⟨g,rest,hg,rfl,h5⟩
 ·exact .inl h4
 ·exact .inr ⟨g,rest,hg,rfl,h5.of_block (hw g rfl)⟩
theorem Own.lt (h:Own b w v zs sp):∀k,v.ownBlock=some k→b≤k∧k<w.heap.size:=by
 obtain ⟨h1,h2,h3,h4⟩:=h;intro k hk;rcases h4 with ⟨rfl,_⟩ | ⟨g,rest,hg,rfl,h5⟩
 ·simp [Value.ownBlock] at hk
 ·simp only [Value.ownBlock,Option.some.injEq] at hk;subst hk;exact ⟨hg,h5.lt⟩
theorem Own.grow (h:Own b w v zs sp) (hb:Kb w w'):Own b w' v zs sp:=
 h.of_block fun k hk=>hb.block k (h.lt k hk).2
theorem Own.reads (h:Own b w v zs sp):Reads w v zs:=by
 obtain ⟨h1,h2,h3,h4⟩:=h;rcases h4 with ⟨rfl,rfl,rfl⟩ | ⟨g,rest,hg,rfl,h5⟩
 ·exact Reads.nil w
 ·refine ⟨_,_,rfl,by omega,fun h=>by simp at h,h1,fun _=>⟨g,0,rfl,fun i hi=>?_⟩⟩;rw [Nat.zero_add,h5.cell i (by simp;omega)];rw [List.append_assoc];simp [List.getD,List.getElem?_append_left hi]
theorem Reads.cells (h:Reads w v zs) {x:Addr} {n c:Nat} (hv:v=.slice (some x) n c):n=zs.length∧∀j u,(zs.map (Value.int .u8))[j]?=some u→w.cell? (x.add j)=some u:=by
 obtain ⟨a,cap,e,h1,h2,h3,h4⟩:=h;rw [e] at hv;injection hv with e1 e2 e3;subst e2;refine ⟨rfl,fun j u hu=>?_⟩;have hj:j<zs.length:=by have:=(List.getElem?_eq_some_iff.1 hu).1;simpa using this
 obtain ⟨b,off,ea,hc⟩:=h4 (by omega);rw [ea] at e1;injection e1 with e1;subst e1;rw [Addr.add_lit,hc j hj];simp [hj] at hu;simp [List.getD,hj,hu]
theorem Zhj (n:Nat):Builtin.zeroCells (Value.cells (.int .u8 0)) n=B (List.replicate n 0):=by
 apply Array.ext';simp only [Builtin.zeroCells,B,Value.cells];apply List.ext_getElem
 ·simp
 ·intro i h1 h2;simp [Nat.mod_one]
theorem Bytes.zeros (n:Nat):Bytes (List.replicate n 0):=fun z hz=>by rw [List.eq_of_mem_replicate hz];omega
set_option maxRecDepth 20000 in
theorem Zud (ty:TypeId) (w:World) (base:Nat) (v x:Value) (zs sp ys:Lq) (ho:Own base w v zs sp) (hr:Reads w x ys) (hl0:ys.length≤sp.length∨zs.length+ys.length≤140737488355328) (hb:base≤w.heap.size):
  ∃v' w' sp',(Builtin.append_ #[52,52] ty #[v,x]).run Tryz.prog w=.ok v' w'∧Own base w' v' (zs++ys) sp'∧w.grownBy w' v.ownBlock∧
   (v'.ownBlock=v.ownBlock∨v'.ownBlock=some w.heap.size)∧(v'=.slice none 0 0↔v=.slice none 0 0∧ys=[])∧(ys.length≤sp.length→sp'.length=sp.length-ys.length):=by
 obtain ⟨i,hi,hz,hs,hby⟩:=info_parts Zma;have ht:=Zdc;obtain ⟨b1,b2,b3,ho⟩:=ho;have hby':=hr;obtain ⟨a,cap,rfl,h1,h2,h3,h4⟩:=hby';have hnl:(ys.map (Value.int .u8)).length=ys.length * i.size:=by simp [hs]
 have h1c:=ints_oneCell .u8 ys;rcases ho with ⟨rfl,rfl,rfl⟩ | ⟨g,hid,hg,rfl,hrow⟩
 ·by_cases hy:ys=[]
  ·subst hy;refine ⟨.slice none 0 0,w,[],?_,Own.nil _ _,World.grownBy.refl _ _,.inl rfl,by simp,by simp⟩;simp only [List.length_nil];cases a with
   | none=>simp [Builtin.append_,run_underlying ht,sizeOf,typeInfo,hi,Builtin.lenOf,Builtin.firstCells]
   | some a=>simp [Builtin.append_,run_underlying ht,sizeOf,typeInfo,hi,Builtin.lenOf,Builtin.firstCells,loadCells,loadCellsFrom]
  ·have hpos:0<ys.length:=List.length_pos_iff.2 hy;have hl:ys.length≤140737488355328:=by
    rcases hl0 with h | h
    ·exact absurd (List.eq_nil_of_length_eq_zero (by simpa using h)) hy
    ·simpa using h
   have hlen:ys.length≤maxLen:=by simp only [maxLen];omega
   obtain ⟨bb,off,rfl,hc⟩:=h4 hpos;have hr':=run_append_nil (P:=Tryz.prog) w 52 ty 5 i _ ht hi hz ⟨bb,off,none⟩ ys.length cap (ys.map (Value.int .u8)) hnl (hr.cells rfl).2 hpos (by omega) (by rw [hby];omega);have hge:=grownCap_ge w ys.length 0 5;have hcm:=grownCap_le_maxLen w ys.length 0 5 (by omega);refine ⟨_,_,List.replicate (grownCap w ys.length 0 5-ys.length) 0,hr',⟨by simpa using h3,Bytes.zeros _,by simp;omega,.inr ⟨w.heap.size,[],hb,?_,?_⟩⟩,⟨rfl,rfl,rfl,by simp,fun k hk _=>Below.heap_alloc w.drew _ k hk⟩,.inr rfl,by simp [hy],fun h=>absurd (List.eq_nil_of_length_eq_zero (by simpa using h)) hy⟩
   ·simp;omega
   ·unfold Row;rw [Zhj];rw [show (w.drew.alloc (.cells ((ys.map (Value.int .u8)).toArray++B (List.replicate (grownCap w ys.length 0 5-ys.length) 0)) 5)).heap[w.heap.size]?=_ from heap_alloc_new w.drew _];simp [B]
 ·have hxs:∀j u,(zs.map (Value.int .u8))[j]?=some u→w.cell? ((⟨g,0,none⟩:Addr).add j)=some u:=by
   intro j u hu;have hj:j<zs.length:=by have:=(List.getElem?_eq_some_iff.1 hu).1;simpa using this
   rw [Addr.add_lit,Nat.zero_add,hrow.cell j (by simp;omega)];simp [hj] at hu;rw [List.append_assoc];simp [List.getD,List.getElem?_append_left hj,hj,hu]
  by_cases hroom:ys.length≤sp.length
  ·by_cases hy:ys=[]
   ·subst hy;refine ⟨_,w,sp,?_,⟨by simpa using b1,b2,by simpa using b3,.inr ⟨g,hid,hg,rfl,by simpa using hrow⟩⟩,World.grownBy.refl _ _,.inl rfl,by simp,by simp⟩;cases a with
    | none=>simp [Builtin.append_,run_underlying ht,sizeOf,typeInfo,hi,Builtin.lenOf,Builtin.firstCells,storeCells]
    | some a=>simp [Builtin.append_,run_underlying ht,sizeOf,typeInfo,hi,Builtin.lenOf,Builtin.firstCells,loadCells,loadCellsFrom,storeCells]
   ·have hpos:0<ys.length:=List.length_pos_iff.2 hy;obtain ⟨bb,off,rfl,hc⟩:=h4 hpos;have hr':=run_append_room (P:=Tryz.prog) w 52 ty 5 i ht hi g zs.length (zs.length+sp.length) (B (zs++sp++hid)) hrow ⟨bb,off,none⟩ ys.length cap (ys.map (Value.int .u8)) hnl (hr.cells rfl).2 h1c (by omega) (by rw [Zn];simp [hs];omega);refine ⟨_,_,sp.drop ys.length,hr',⟨b1.append h3,b2.drop _,by simp;omega,.inr ⟨g,hid,hg,by simp;omega,?_⟩⟩,⟨rfl,rfl,rfl,by simp,fun k _ hk=>setRow_other w g k _ (fun e=>hk (by simp [Value.ownBlock,e]))⟩,.inl rfl,by simp,by simp⟩;unfold Row;rw [setRow_heap w g _ _ _ _ hrow];congr 2
    simp only [hs,Nat.mul_one,List.length_map,B];congr 1
    rw [List.append_assoc zs sp hid];simp [List.drop_append,List.append_assoc,show ys.length-sp.length=0 by omega]
  ·have hpos:0<ys.length:=by omega
   have hl:zs.length+ys.length≤140737488355328:=by omega
   have hlen:zs.length+ys.length≤maxLen:=by simp only [maxLen];omega
   obtain ⟨bb,off,rfl,hc⟩:=h4 hpos;have hr':=run_append_grow (P:=Tryz.prog) w 52 ty 5 i _ ht hi hz ⟨g,0,none⟩ zs.length (zs.length+sp.length) (zs.map (Value.int .u8)) (by simp [hs]) hxs ⟨bb,off,none⟩ ys.length cap (ys.map (Value.int .u8)) hnl (hr.cells rfl).2 (by omega) (by simp only [maxLen] at hlen;omega) (by rw [hby];exact growslice_fits (by omega) (by omega));have hge:=grownCap_ge w (zs.length+ys.length) (zs.length+sp.length) 5;have hcm:=grownCap_le_maxLen w (zs.length+ys.length) (zs.length+sp.length) 5 hlen;refine ⟨_,_,List.replicate (grownCap w (zs.length+ys.length) (zs.length+sp.length) 5-(zs.length+ys.length)) 0,hr',⟨b1.append h3,Bytes.zeros _,by simp;omega,.inr ⟨w.heap.size,[],hb,by simp;omega,?_⟩⟩,⟨rfl,rfl,rfl,by simp,fun k hk _=>Below.heap_alloc w.drew _ k hk⟩,.inr rfl,by simp,fun h=>absurd h hroom⟩;unfold Row;rw [Zhj];rw [show (w.drew.alloc (.cells ((zs.map (Value.int .u8)).toArray++(ys.map (Value.int .u8)).toArray++B (List.replicate (grownCap w (zs.length+ys.length) (zs.length+sp.length) 5-(zs.length+ys.length)) 0)) 5)).heap[w.heap.size]?=_ from heap_alloc_new w.drew _];simp [B]
theorem Zix {ops:Array Oper} {rest:List Oper} {o:Oper} {a:Act} {Q:Exit→Act→World→Prop} (w:World) (hgd:o.guard=none) (s x:Operand)
  (hop:o.op=.call { callee:=.builtin .append,args:= #[s,x],argTypes:= #[52,52]})
  (base:Nat) (v xv:Value) (zs sp ys:Lq) (ho:Own base w v zs sp) (hr:Reads w xv ys) (hs:a.eval s=v) (hx:a.eval x=xv) (hl:zs.length+ys.length≤140737488355328) (hb:base≤w.heap.size)
  (h:∀v' w' sp',Own base w' v' (zs++ys) sp'→w.grownBy w' v.ownBlock→(v'.ownBlock=v.ownBlock∨v'.ownBlock=some w.heap.size)→(v'=.slice none 0 0↔v=.slice none 0 0∧ys=[])→wpList Tryz.prog ops Q rest (a.put o.dst v') w'):
  wpList Tryz.prog ops Q (o::rest) a w:=by
 refine wpList_plain hgd fun K hK=>?_
 obtain ⟨v',w',sp',hr,h2,h3,h4,h5,_⟩:=Zud o.type w base v xv zs sp ys ho hr (.inr hl) hb;unfold Oper.wp execOp;simp only [hop,resolve,invoke,builtin,Sem.run_bind,Sem.run_pure,Result.andThen_ok,List.map_toArray,List.map_cons,List.map_nil,hs,hx,hr];exact hK _ _ (h v' w' sp' h2 h3 h4 h5)
theorem Zyl {ops:Array Oper} {o:Oper} {a:Act} {K:Act→World→Prop} {Q:Exit→Act→World→Prop} {E:Prop} (w:World) (hgd:o.guard=none) (s x:Operand)
  (hop:o.op=.call { callee:=.builtin .append,args:= #[s,x],argTypes:= #[52,52]})
  (base:Nat) (v xv:Value) (zs sp ys:Lq) (ho:Own base w v zs sp) (hr:Reads w xv ys) (hs:a.eval s=v) (hx:a.eval x=xv) (hl:ys.length≤sp.length∨zs.length+ys.length≤140737488355328) (hb:base≤w.heap.size)
  (h:∀v' w' sp',Own base w' v' (zs++ys) sp'→w.grownBy w' v.ownBlock→(v'.ownBlock=v.ownBlock∨v'.ownBlock=some w.heap.size)→(v'=.slice none 0 0↔v=.slice none 0 0∧ys=[])→(ys.length≤sp.length→sp'.length=sp.length-ys.length)→K (a.put o.dst v') w'):
  if Region.wanted o (yielded ops a.tmps)=true then Oper.wp Tryz.prog o a w K Q else E:=by
 have hw:Region.wanted o (yielded ops a.tmps)=true:=by simp [Region.wanted,hgd]
 rw [if_pos hw];obtain ⟨v',w',sp',hr,h2,h3,h4,h5,h6⟩:=Zud o.type w base v xv zs sp ys ho hr hl hb;unfold Oper.wp execOp;simp only [hop,resolve,invoke,builtin,Sem.run_bind,Sem.run_pure,Result.andThen_ok,List.map_toArray,List.map_cons,List.map_nil,hs,hx,hr];exact h v' w' sp' h2 h3 h4 h5 h6
theorem Zro (n:Nat):madeCells (Value.cells (.int .u8 0)) n=B (List.replicate n 0):=by
 apply Array.ext';have h:=toList_madeCells_one (.int .u8 0) n;simp only [Value.cells] at *;rw [h,Zaz];simp
theorem Zhq:(Tryz.prog.info? 5).map (·.size)=some 1:=by kernel_rfl
theorem Zky {ops:Array Oper} {rest:List Oper} {o:Oper} {a:Act} {Q:Exit→Act→World→Prop} (w:World) (hgd:o.guard=none) (x y:Operand)
  (hop:o.op=Op.makeSlice 52 x y) (kl kc:IntKind) (L C:Int) (l c:Nat) (hx:a.eval x=.int kl L) (hy:a.eval y=.int kc C) (hL:L=(l:Int)) (hC:C=(c:Int)) (hlc:l≤c) (hc:c≤281474976710656)
  (h:∀w',Row w' w.heap.size (List.replicate c 0)→Kb w w'→w'.heap.size=w.heap.size+1→wpList Tryz.prog ops Q rest (a.put o.dst (.slice (some ⟨w.heap.size,0,none⟩) l c)) w'):
  wpList Tryz.prog ops Q (o::rest) a w:=by
 refine wpList_plain hgd fun K hK=>?_
 obtain ⟨i,hi,hz,hs,hby⟩:=info_parts Zma;subst hL;subst hC;have hr:=run_make (P:=Tryz.prog) w 52 5 i _ Zdc hi hz kl kc l c (by omega) (by omega) (by rw [hby];omega) (by omega);rw [hs,Nat.mul_one,Zro] at hr;simp only [Int.toNat_natCast] at hr;unfold Oper.wp;simp [execOp,hop,hx,hy,hr,Result.andThen];exact hK _ _ (h _ (heap_alloc_new w _) (Zc w _) (by simp))
theorem Zsk {ops:Array Oper} {rest:List Oper} {o:Oper} {a:Act} {Q:Exit→Act→World→Prop} (w:World) (hgd:o.guard=none) (d s:Operand)
  (hop:o.op=.call { callee:=.builtin .copy,args:= #[d,s],argTypes:= #[52,52]})
  (g off dl dc:Nat) (xs ys:Lq) (sv:Value) (hr:Row w g xs) (hs:Reads w sv ys) (hd:a.eval d=.slice (some ⟨g,off,none⟩) dl dc) (hx:a.eval s=sv) (hfit:off+dl≤xs.length)
  (h:∀w',Row w' g (xs.take off++ys.take dl++xs.drop (off+min ys.length dl))→w.grownBy w' (some g)→w'.heap.size=w.heap.size→wpList Tryz.prog ops Q rest (a.put o.dst (.int .i64 (min ys.length dl:Nat))) w'):
  wpList Tryz.prog ops Q (o::rest) a w:=by
 have hs':=hs;obtain ⟨sa,sc,rfl,h1,h2,h3,h4⟩:=hs'
 by_cases h0:Nat.min ys.length dl=0
 ·refine wpList_copy_nothing hgd d s _ _ hop 5 Zdc Zhq _ _ _ _ _ _ hd hx h0 ?_;have e:xs.take off++ys.take dl++xs.drop (off+min ys.length dl)=xs:=by
   have h0':min ys.length dl=0:=h0;have:ys.take dl=[]:=by
    apply List.eq_nil_of_length_eq_zero;rw [List.length_take,Nat.min_comm];exact h0'
   rw [this,h0'];simp
  have h0':min ys.length dl=0:=h0;have:=h w (by rw [e];exact hr) (World.grownBy.refl _ _) rfl;rw [h0'] at this;exact this
 ·have hpos:0<ys.length:=by
   have:Nat.min ys.length dl≤ys.length:=Nat.min_le_left _ _;omega
  obtain ⟨b,o',rfl,hc⟩:=h4 hpos;have hmin:min ys.length dl≤dl:=Nat.min_le_right _ _;have hlen:((ys.take dl).map (Value.int .u8)).length=Nat.min ys.length dl:=by
   have:min dl ys.length=Nat.min ys.length dl:=Nat.min_comm _ _;simpa using this
  refine wpList_copy_own hgd d s _ _ hop 5 Zdc Zhq g off dl dc ⟨b,o',none⟩ ys.length sc hd hx (B xs) _ hr ((ys.take dl).map (Value.int .u8)) hlen ?_ ?_ (ints_oneCell .u8 _) ?_
  ·intro j v hv;refine (hs.cells rfl).2 j v ?_;have hj:=(List.getElem?_eq_some_iff.1 hv).1;rw [hlen] at hj;have hj':j<dl:=Nat.lt_of_lt_of_le hj hmin;rw [List.map_take,List.getElem?_take,if_pos hj'] at hv;exact hv
  ·rw [Zn,hlen];have:Nat.min ys.length dl=min ys.length dl:=rfl;omega
  ·rw [hlen];refine h _ ?_ ⟨rfl,rfl,rfl,by simp,fun k _ hk=>setRow_other w g k _ (fun e=>hk (by simp [e]))⟩ (by simp);unfold Row;rw [setRow_heap w g _ _ _ _ hr];congr 2
   have:Nat.min ys.length dl=min ys.length dl:=rfl;rw [this];simp [B,List.append_assoc]
theorem Zse (zs:Lq) (i:Nat) (z:Int):(B zs).setIfInBounds i (.int .u8 z)=B (zs.set i z):=by
 apply Array.ext';simp [B,List.map_set]
theorem Row.set (h:Row w g zs) (i:Nat) (z:Int):Row (w.setCell ⟨g,i,none⟩ (.int .u8 z)) g (zs.set i z):=by
 unfold Row;rw [heap_setCell_same w g i _ _ _ h,Zse]
theorem Zcf (h:Reads w v zs):(convert 52 9 v).run Tryz.prog w=.ok (.string (strOfNums zs)) w:=by
 obtain ⟨a,c,rfl,h1,h2,h3,h4⟩:=h
 by_cases hz:zs=[]
 ·subst hz;cases a with
  | none=>exact run_convert_bytes_nil w _ _ Zdc Ziy _ _ _ Zju
  | some x=>
   rw [run_convert_bytes_string w _ _ _ _ _ c Zdc Ziy Zju,run_bytesToString w _ _ c [] (by simpa using run_loadCells_list (P:=Tryz.prog) w x [] (by simp))];rfl
 ·obtain ⟨b,off,rfl,hc⟩:=h4 (List.length_pos_iff.2 hz);exact run_convert_bytes_arg w _ _ Zdc Ziy b off _ c zs rfl hc _ Zju
theorem Ztd (xs ys:Lq) (hx:Bytes xs) (hy:Bytes ys):((strOfNums xs).toList == (strOfNums ys).toList)=decide (xs=ys):=by
 rw [ByteArray.toList_eq,ByteArray.toList_eq,strOfNums_data,strOfNums_data];rw [Bool.eq_iff_iff];simp only [beq_iff_eq,decide_eq_true_eq];constructor
 ·intro h;have key:∀(l:Lq),Bytes l→(l.map fun n=>UInt8.ofNat n.toNat).map (fun u=>(u.toNat:Int))=l:=by
   intro l hl;rw [List.map_map]
   conv=>rhs;rw [← List.map_id l]
   apply List.map_congr_left;intro z hz;have:=hl z hz;simp only [Function.comp,id_eq,UInt8.toNat_ofNat'];omega
  rw [← key xs hx,← key ys hy,h]
 ·rintro rfl;rfl
def cmp:Lq→Lq→Int
 | [],[]=>0
 | [],_::_=> -1
 | _::_,[]=>1
 | a::r,b::s=>if a<b then -1 else if b<a then 1 else cmp r s
end Go.Proofs.YtlclabbnpjobgaaGreatDoor
