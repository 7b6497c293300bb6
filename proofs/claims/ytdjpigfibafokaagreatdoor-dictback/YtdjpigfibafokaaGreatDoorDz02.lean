/- Slabs by definition: for each slot that was ever occupied how often it is held and the cells of its thing, and the free slots among them; how these lie in a list, cell by cell. -/
import Derived.Test.YtdjpigfibafokaaGreatDoorDz01
import Derived.LaidEqlPtr
import Derived.Test.YtdjpigfibafokaaGreatDoorProg
import Derived.Laws.CopyOwn
import Derived.Lib.Bytealg
import Derived.Deep.QuietTactic
import Derived.BigQuiet
namespace Go.Proofs.YtdjpigfibafokaaGreatDoor
variable {b b' base c g i k room s:Nat}
variable {fr:List Nat}
variable {sp xs ys zs:Lq}
variable {v vf vf' vp vp':Value}
variable {w w':World}
set_option maxHeartbeats 400000
set_option maxRecDepth 20000
open Go.RowKit

abbrev Pl:=Nat×List Value

def cnt (ps:List Pl) (i:Nat):Nat:=(ps[i]?.getD (0,[])).1
def thg (ps:List Pl) (i:Nat):List Value:=(ps[i]?.getD (0,[])).2
def occs (ps:List Pl):Nat:=ps.countP fun p=>decide (0<p.1)

theorem cnt_out (ps:List Pl) (i:Nat) (h:ps.length≤i):cnt ps i=0:=by simp [cnt,List.getElem?_eq_none h]
theorem cnt_lt {ps:List Pl} (h:0<cnt ps i):i<ps.length:=by
  apply Nat.lt_of_not_le;intro hn;rw [cnt_out ps i hn] at h;omega
theorem cnt_set (ps:List Pl) (i j:Nat) (p:Pl) (hi:i<ps.length):cnt (ps.set i p) j=if j=i then p.1 else cnt ps j:=by
  unfold cnt;rw [List.getElem?_set]
  by_cases h:i=j
  · subst h
    simp [hi]
  · rw [if_neg h,if_neg (fun e=>h e.symm)]
theorem cnt_snoc (ps:List Pl) (j:Nat) (p:Pl):cnt (ps++[p]) j=if j=ps.length then p.1 else cnt ps j:=by
  unfold cnt
  by_cases h:j=ps.length
  · subst h
    simp
  · rw [if_neg h]
    by_cases h2:j<ps.length
    · rw [List.getElem?_append_left h2]
    · rw [List.getElem?_eq_none (by simp;omega),List.getElem?_eq_none (by omega)]
theorem occs_set (ps:List Pl) (i:Nat) (p:Pl) (hi:i<ps.length):occs (ps.set i p)+(if 0<cnt ps i then 1 else 0)=occs ps+(if 0<p.1 then 1 else 0):=by
  induction ps generalizing i with
  | nil=>simp at hi
  | cons q r ih=>
    cases i with
    | zero=>
      have e:cnt (q::r) 0=q.1:=rfl;rw [e];simp only [occs,List.set_cons_zero,List.countP_cons,decide_eq_true_eq];omega
    | succ i=>
      have e:cnt (q::r) (i+1)=cnt r i:=by simp [cnt]
      have:=ih i (by simpa using hi);rw [e];simp only [occs,List.set_cons_succ,List.countP_cons,decide_eq_true_eq] at this ⊢;omega
theorem occs_snoc (ps:List Pl) (p:Pl):occs (ps++[p])=occs ps+(if 0<p.1 then 1 else 0):=by
  simp [occs,List.countP_append,List.countP_cons]

structure Inv (room:Nat) (ps:List Pl) (fr:List Nat):Prop where
  r1:1≤room
  r2:room≤65536
  len:ps.length≤room
  nod:fr.Nodup
  free:∀s∈fr,1≤s∧s≤ps.length∧cnt ps (s-1)=0
  sum:occs ps+fr.length=ps.length
  most:∀i,cnt ps i≤1073741824

theorem Inv.new (h1:1≤room) (h2:room≤65536):Inv room [] []:=⟨h1,h2,by simp,by simp,by simp,by simp [occs],fun i=>by simp [cnt]⟩

theorem Inv.takeFree {ps:List Pl} (h:Inv room ps (fr++[s])) (x:List Value):Inv room (ps.set (s-1) (1,x)) fr:=by
  obtain ⟨h1,h2,h3⟩:=h.free s (by simp);have hi:s-1<ps.length:=by omega
  have ho:=occs_set ps (s-1) (1,x) hi;rw [h3] at ho;have hs:=h.sum;have hn:=h.nod;rw [List.nodup_append] at hn;refine ⟨h.r1,h.r2,by simpa using h.len,hn.1,fun q hq=>?_,?_,fun i=>?_⟩
  · obtain ⟨q1,q2,q3⟩:=h.free q (by simp [hq])
    have hne:q≠s:=hn.2.2 q hq s (by simp);refine ⟨q1,by simpa using q2,?_⟩;rw [cnt_set ps _ _ _ hi,if_neg (by omega)];exact q3
  · simp at hs ho ⊢
    omega
  · rw [cnt_set ps _ _ _ hi]
    split
    · simp
    · exact h.most i

theorem Inv.takeNew {ps:List Pl} (h:Inv room ps []) (hl:ps.length<room) (x:List Value):Inv room (ps++[(1,x)]) []:=by
  have hs:=h.sum;have ho:=occs_snoc ps (1,x);refine ⟨h.r1,h.r2,by simp;omega,by simp,by simp,?_,fun i=>?_⟩
  · simp at hs ho ⊢
    omega
  · rw [cnt_snoc]
    split
    · simp
    · exact h.most i

theorem Inv.held {ps:List Pl} (h:Inv room ps fr) (hi:0<cnt ps i) (hc:0<c) (hm:c≤1073741824) (x:List Value):Inv room (ps.set i (c,x)) fr:=by
  have hl:=cnt_lt hi;have ho:=occs_set ps i (c,x) hl;rw [if_pos hi,if_pos hc] at ho;have hs:=h.sum;refine ⟨h.r1,h.r2,by simpa using h.len,h.nod,fun q hq=>?_,?_,fun j=>?_⟩
  · obtain ⟨q1,q2,q3⟩:=h.free q hq
    refine ⟨q1,by simpa using q2,?_⟩;rw [cnt_set ps _ _ _ hl,if_neg (by intro e;rw [e] at q3;omega)];exact q3
  · simp at ho ⊢
    omega
  · rw [cnt_set ps _ _ _ hl]
    split
    · exact hm
    · exact h.most j

theorem Inv.drop {ps:List Pl} (h:Inv room ps fr) (hi:0<cnt ps i) (z:List Value):Inv room (ps.set i (0,z)) (fr++[i+1]):=by
  have hl:=cnt_lt hi;have ho:=occs_set ps i (0,z) hl;rw [if_pos hi] at ho;have hs:=h.sum;have hnot:i+1 ∉ fr:=fun hm=>by
    have:=(h.free (i+1) hm).2.2;simp at this;omega
  refine ⟨h.r1,h.r2,by simpa using h.len,?_,fun q hq=>?_,?_,fun j=>?_⟩
  · rw [List.nodup_append]
    refine ⟨h.nod,by simp,fun a ha b hb e=>?_⟩;simp at hb;subst hb;subst e;exact hnot ha
  · rcases List.mem_append.1 hq with hq | hq
    · obtain ⟨q1,q2,q3⟩:=h.free q hq
      refine ⟨q1,by simpa using q2,?_⟩;rw [cnt_set ps _ _ _ hl];split
      · rfl
      · exact q3
    · obtain rfl:q=i+1:=by simpa using hq
      refine ⟨by omega,by simp;omega,?_⟩;rw [cnt_set ps _ _ _ hl];simp
  · simp at ho ⊢
    omega
  · rw [cnt_set ps _ _ _ hl]
    split
    · simp
    · exact h.most j

theorem Inv.frlen {ps:List Pl} (h:Inv room ps fr):fr.length≤ps.length:=by
  have:=h.sum;omega

def flatS (ps:List Pl):List Value:=ps.flatMap fun p=>Value.int .i64 (p.1:Int)::p.2
def Wid (k:Nat) (ps:List Pl):Prop:=∀p∈ps,p.2.length=k∧∀u∈p.2,u.oneCell'=true

theorem Wid.nil (k:Nat):Wid k []:=fun _ h=>by cases h
theorem Wid.set {ps:List Pl} (h:Wid k ps) (i c:Nat) (x:List Value) (hl:x.length=k) (h1:∀u∈x,u.oneCell'=true):Wid k (ps.set i (c,x)):=fun p hp=>by
  rcases List.mem_or_eq_of_mem_set hp with hp | rfl
  · exact h p hp
  · exact ⟨hl,h1⟩
theorem Wid.snoc {ps:List Pl} (h:Wid k ps) (c:Nat) (x:List Value) (hl:x.length=k) (h1:∀u∈x,u.oneCell'=true):Wid k (ps++[(c,x)]):=fun p hp=>by
  rcases List.mem_append.1 hp with hp | hp
  · exact h p hp
  · obtain rfl:p=(c,x):=by simpa using hp
    exact ⟨hl,h1⟩
theorem Wid.at {ps:List Pl} (h:Wid k ps) (i:Nat) (hi:i<ps.length):(thg ps i).length=k∧∀u∈thg ps i,u.oneCell'=true:=by
  have:thg ps i=ps[i].2:=by simp [thg,hi]
  rw [this];exact h _ (List.getElem_mem hi)

theorem flatS_snoc (ps:List Pl) (p:Pl):flatS (ps++[p])=flatS ps++(Value.int .i64 (p.1:Int)::p.2):=by simp [flatS]
theorem flatS_append (ps qs:List Pl):flatS (ps++qs)=flatS ps++flatS qs:=by simp [flatS]
theorem flatS_length {k:Nat}:∀ {ps:List Pl},Wid k ps→(flatS ps).length=ps.length * (k+1)
  | [],_=>by simp [flatS]
  | p::r,h=>by
    have ih:=flatS_length (k:=k) (ps:=r) (fun q hq=>h q (by simp [hq]));have h1:=(h p (by simp)).1;simp only [flatS,List.flatMap_cons,List.length_append,List.length_cons] at ih ⊢;rw [Nat.add_mul];omega
theorem split_at (ps:List Pl) (i:Nat) (hi:i<ps.length):ps=ps.take i++((cnt ps i,thg ps i)::ps.drop (i+1)):=by
  have e:(cnt ps i,thg ps i)=ps[i]:=by simp [cnt,thg,hi]
  rw [e,← List.drop_eq_getElem_cons hi,List.take_append_drop]
theorem flatS_split (ps:List Pl) (i:Nat) (hi:i<ps.length):flatS ps=flatS (ps.take i)++((Value.int .i64 (cnt ps i:Int)::thg ps i)++flatS (ps.drop (i+1))):=by
  conv=>lhs;rw [split_at ps i hi,flatS_append]
  simp [flatS]
theorem flatS_put (ps:List Pl) (i:Nat) (p:Pl) (hi:i<ps.length):flatS (ps.set i p)=flatS (ps.take i)++((Value.int .i64 (p.1:Int)::p.2)++flatS (ps.drop (i+1))):=by
  rw [List.set_eq_take_append_cons_drop,if_pos hi,flatS_append];simp [flatS]
theorem Wid.take {ps:List Pl} (h:Wid k ps) (i:Nat):Wid k (ps.take i):=fun p hp=>h p (List.mem_of_mem_take hp)
theorem flatS_head {ps:List Pl} (h:Wid k ps) (i:Nat) (hi:i<ps.length):(flatS (ps.take i)).length=i * (k+1):=by
  rw [flatS_length (h.take i),List.length_take,Nat.min_eq_left (by omega)]

theorem flatS_count {ps:List Pl} (h:Wid k ps) (i:Nat) (hi:i<ps.length):(flatS ps)[i * (k+1)]?=some (.int .i64 (cnt ps i:Int)):=by
  rw [flatS_split ps i hi,List.getElem?_append_right (by rw [flatS_head h i hi];omega),flatS_head h i hi,Nat.sub_self];rfl
theorem flatS_thing {ps:List Pl} (h:Wid k ps) (i:Nat) (hi:i<ps.length) (j:Nat) (u:Value) (hu:(thg ps i)[j]?=some u):(flatS ps)[i * (k+1)+1+j]?=some u:=by
  have hj:=(List.getElem?_eq_some_iff.1 hu).1;rw [flatS_split ps i hi,List.getElem?_append_right (by rw [flatS_head h i hi];omega),flatS_head h i hi,show i * (k+1)+1+j-i * (k+1)=j+1 by omega,List.getElem?_append_left (by simp;omega)];simpa using hu
theorem flatS_setPlace {ps:List Pl} (h:Wid k ps) (i c:Nat) (x:List Value) (hi:i<ps.length) (hx:x.length=k):setL (flatS ps) (i * (k+1)) (Value.int .i64 (c:Int)::x)=flatS (ps.set i (c,x)):=by
  rw [flatS_put ps i _ hi]
  conv=>lhs;rw [flatS_split ps i hi,← flatS_head h i hi]
  exact setL_mid _ _ _ _ (by simp [hx,(h.at i hi).1])
theorem flatS_setCount {ps:List Pl} (h:Wid k ps) (i c:Nat) (hi:i<ps.length):(flatS ps).set (i * (k+1)) (Value.int .i64 (c:Int))=flatS (ps.set i (c,thg ps i)):=by
  rw [flatS_put ps i _ hi]
  conv=>lhs;rw [flatS_split ps i hi,← flatS_head h i hi]
  simp
theorem flatS_setThing {ps:List Pl} (h:Wid k ps) (i:Nat) (x:List Value) (hi:i<ps.length) (hx:x.length=k):setL (flatS ps) (i * (k+1)+1) x=flatS (ps.set i (cnt ps i,x)):=by
  rw [flatS_put ps i _ hi]
  conv=>lhs;rw [flatS_split ps i hi,← flatS_head h i hi]
  have:=setL_mid x (flatS (ps.take i)++[Value.int .i64 (cnt ps i:Int)]) (thg ps i) (flatS (ps.drop (i+1))) (by rw [hx,(h.at i hi).1]);simpa using this

def nats (fr:List Nat):List Value:=fr.map fun (s:Nat)=>Value.int .i64 (s:Int)
theorem nats_length (fr:List Nat):(nats fr).length=fr.length:=by simp [nats]
theorem nats_snoc (fr:List Nat) (s:Nat):nats (fr++[s])=nats fr++[Value.int .i64 (s:Int)]:=by simp [nats]
theorem nats_take (fr:List Nat) (n:Nat):(nats fr).take n=nats (fr.take n):=by simp [nats,List.map_take]
theorem nats_get (fr:List Nat) (i:Nat) (hi:i<fr.length):(nats fr)[i]?=some (.int .i64 (fr.getD i 0:Nat)):=by simp [nats,List.getD,hi]

def Vac (ps:List Pl) (slot:Int):Prop:=∀i:Nat,slot=(i:Int)+1→cnt ps i=0

def slotsK (ps:List Pl) (k:Nat):List Nat:=((List.range k).filter fun i=>decide (0<cnt ps i)).map (· +1)
def slotsOf (ps:List Pl):List Nat:=slotsK ps ps.length

def slB (g:Nat) (vp vf:Value):List Nat:=g::(vp.ownBlock.toList++vf.ownBlock.toList)

theorem slB_mem:k∈slB g vp vf↔k=g∨vp.ownBlock=some k∨vf.ownBlock=some k:=by simp [slB]
theorem slB_new (hp:vp'.ownBlock=vp.ownBlock∨∃k,vp'.ownBlock=some k∧w.heap.size≤k) (hf:vf'.ownBlock=vf.ownBlock∨∃k,vf'.ownBlock=some k∧w.heap.size≤k):New (slB g vp vf) w (slB g vp' vf'):=fun k hk=>by
  rcases slB_mem.1 hk with rfl | h | h
  · exact .inl (slB_mem.2 (.inl rfl))
  · rcases hp with e | ⟨q,e,hq⟩
    · exact .inl (slB_mem.2 (.inr (.inl (e ▸ h))))
    · rw [e] at h
      injection h with h;exact .inr (h ▸ hq)
  · rcases hf with e | ⟨q,e,hq⟩
    · exact .inl (slB_mem.2 (.inr (.inr (e ▸ h))))
    · rw [e] at h
      injection h with h;exact .inr (h ▸ hq)

theorem set_last (ps:List Pl) (p q:Pl):(ps++[p]).set ps.length q=ps++[q]:=by simp

theorem eql_none {P:Program} (w:World) {tp te:TypeId} (a:Addr) (hp:P.underlying tp=some (.pointer te)):(binOp .eql tp (.pointer none) (.pointer (some a))).run P w=.ok (.bool false) w:=by
  have h:∀d:Nat,(Op.equalIn (d+1) tp (.pointer none) (.pointer (some a))).run P w=.ok false w:=fun d=>by
    simp [Op.equalIn,run_underlying hp]
  simp only [binOp];simp [Op.equal,Op.maxDepth,h 9999]

theorem info_nat:∃i z,Tryz.prog.info? 3=some i∧i.zero=some z∧i.size=1∧i.bytes=8∧z.cells.size=1:=⟨_,_,rfl,rfl,rfl,rfl,rfl⟩

end Go.Proofs.YtdjpigfibafokaaGreatDoor

namespace Go.Proofs.YtdjpigfibafokaaGreatDoor
variable {b b' base c g i k room s:Nat}
variable {fr:List Nat}
variable {sp xs ys zs:Lq}
variable {v vf vf' vp vp':Value}
variable {w w':World}
set_option maxHeartbeats 400000
set_option maxRecDepth 20000
open Go.RowKit

theorem u_bytes:Tryz.prog.underlying 30=some (.slice 5):=Tryz.underlying30
theorem u_byte:Tryz.prog.underlying 5=some (.int .u8):=Tryz.underlying5
theorem u_string:Tryz.prog.underlying 9=some .string:=Tryz.underlying9
theorem info_byte:(Tryz.prog.info? 5).map (fun i=>(i.zero,i.size,i.bytes))=some (some (.int .u8 0),1,1):=by kernel_rfl

def B (zs:Lq):Array Value:=(zs.map (Value.int .u8)).toArray
theorem B_size (zs:Lq):(B zs).size=zs.length:=by simp [B]
theorem B_get (zs:Lq) (i:Nat) (h:i<zs.length):(B zs)[i]?=some (.int .u8 (zs.getD i 0)):=by simp [B,List.getD,h]
theorem B_toList (zs:Lq):(B zs).toList=zs.map (Value.int .u8):=by simp [B]

def Row (w:World) (g:Nat) (zs:Lq):Prop:=w.heap[g]?=some (.cells (B zs) 5 (0,0))

theorem Row.lt (h:Row w g zs):g<w.heap.size:=by
  unfold Row at h;exact (Array.getElem?_eq_some_iff.1 h).1
theorem Row.cell (h:Row w g zs) (i:Nat) (hi:i<zs.length):w.cell? ⟨g,i,none⟩=some (.int .u8 (zs.getD i 0)):=by
  rw [cell_of_row w g i _ _ _ h,B_get zs i hi]
theorem Row.frozen (h:Row w g zs) (i:Nat):w.frozen? ⟨g,i,none⟩=false:=frozen_of_row w g i _ _ h
theorem Row.of_block (h:Row w g zs) (k:w'.heap[g]?=w.heap[g]?):Row w' g zs:=by unfold Row at *;rw [k];exact h
def Reads (w:World) (v:Value) (zs:Lq):Prop:=
  ∃a cap,v=.slice a zs.length cap∧zs.length≤cap∧(a=none→cap=0)∧Bytes zs∧
    (0<zs.length→∃b off,a=some ⟨b,off,none⟩∧∀i,i<zs.length→w.cell? ⟨b,off+i,none⟩=some (.int .u8 (zs.getD i 0)))

theorem Reads.nil (w:World):Reads w (.slice none 0 0) []:=⟨none,0,rfl,Nat.le_refl _,fun _=>rfl,Bytes.nil,fun h=>by simp at h⟩

theorem Reads.grow (h:Reads w v zs) (hb:Kb w w'):Reads w' v zs:=by
  obtain ⟨a,cap,e,h1,h2,h3,h4⟩:=h;refine ⟨a,cap,e,h1,h2,h3,fun hp=>?_⟩;obtain ⟨b,off,ea,hc⟩:=h4 hp;refine ⟨b,off,ea,fun i hi=>?_⟩;have hlt:=block_lt_of_cell (hc i hi);rw [hb.cell hlt];exact hc i hi

def Own (base:Nat) (w:World) (v:Value) (zs sp:Lq):Prop:=
  Bytes zs∧Bytes sp∧zs.length+sp.length≤maxLen∧
  ((v=.slice none 0 0∧zs=[]∧sp=[])∨∃g rest,base≤g∧v=.slice (some ⟨g,0,none⟩) zs.length (zs.length+sp.length)∧Row w g (zs++sp++rest))

theorem Own.nil (base:Nat) (w:World):Own base w (.slice none 0 0) [] []:=⟨Bytes.nil,Bytes.nil,by simp,.inl ⟨rfl,rfl,rfl⟩⟩

theorem Own.empty (base:Nat) (w:World) (hb:base≤w.heap.size):Own base (w.alloc (.cells #[] 5)) (.slice (some ⟨w.heap.size,0,none⟩) 0 0) [] []:=
  ⟨Bytes.nil,Bytes.nil,by simp,.inr ⟨w.heap.size,[],hb,rfl,heap_alloc_new w _⟩⟩

theorem Own.mk (hz:Bytes zs) (hs:Bytes sp) (hl:zs.length+sp.length≤maxLen) (hb:base≤g) (h:Row w g (zs++sp)):Own base w (.slice (some ⟨g,0,none⟩) zs.length (zs.length+sp.length)) zs sp:=
  ⟨hz,hs,hl,.inr ⟨g,[],hb,rfl,by simpa using h⟩⟩

theorem Own.slice (h:Own b w v zs sp):∃a c,v=.slice a zs.length c:=by
  obtain ⟨_,_,_,h4⟩:=h;rcases h4 with ⟨rfl,rfl,rfl⟩ | ⟨g,rest,hg,rfl,h5⟩
  · exact ⟨_,_,rfl⟩
  · exact ⟨_,_,rfl⟩

theorem Own.mono (h:Own b w v zs sp) (hb:b'≤b):Own b' w v zs sp:=by
  obtain ⟨h1,h2,h3,h4⟩:=h;refine ⟨h1,h2,h3,?_⟩;rcases h4 with h4 | ⟨g,rest,hg,h5⟩
  · exact .inl h4
  · exact .inr ⟨g,rest,Nat.le_trans hb hg,h5⟩

theorem Own.of_block (h:Own b w v zs sp) (hw:∀k,v.ownBlock=some k→w'.heap[k]?=w.heap[k]?):Own b w' v zs sp:=by
  obtain ⟨h1,h2,h3,h4⟩:=h;refine ⟨h1,h2,h3,?_⟩;rcases h4 with h4 | ⟨g,rest,hg,rfl,h5⟩
  · exact .inl h4
  · exact .inr ⟨g,rest,hg,rfl,h5.of_block (hw g rfl)⟩

theorem Own.lt (h:Own b w v zs sp):∀k,v.ownBlock=some k→b≤k∧k<w.heap.size:=by
  obtain ⟨h1,h2,h3,h4⟩:=h;intro k hk;rcases h4 with ⟨rfl,_⟩ | ⟨g,rest,hg,rfl,h5⟩
  · simp [Value.ownBlock] at hk
  · simp only [Value.ownBlock,Option.some.injEq] at hk
    subst hk;exact ⟨hg,h5.lt⟩

theorem Own.grow (h:Own b w v zs sp) (hb:Kb w w'):Own b w' v zs sp:=
  h.of_block fun k hk=>hb.block k (h.lt k hk).2

theorem Own.reads (h:Own b w v zs sp):Reads w v zs:=by
  obtain ⟨h1,h2,h3,h4⟩:=h;rcases h4 with ⟨rfl,rfl,rfl⟩ | ⟨g,rest,hg,rfl,h5⟩
  · exact Reads.nil w
  · refine ⟨_,_,rfl,by omega,fun h=>by simp at h,h1,fun _=>⟨g,0,rfl,fun i hi=>?_⟩⟩
    rw [Nat.zero_add,h5.cell i (by simp;omega)];rw [List.append_assoc];simp [List.getD,List.getElem?_append_left hi]

theorem Reads.cells (h:Reads w v zs) {x:Addr} {n c:Nat} (hv:v=.slice (some x) n c):n=zs.length∧∀j u,(zs.map (Value.int .u8))[j]?=some u→w.cell? (x.add j)=some u:=by
  obtain ⟨a,cap,e,h1,h2,h3,h4⟩:=h;rw [e] at hv;injection hv with e1 e2 e3;subst e2;refine ⟨rfl,fun j u hu=>?_⟩;have hj:j<zs.length:=by have:=(List.getElem?_eq_some_iff.1 hu).1;simpa using this
  obtain ⟨b,off,ea,hc⟩:=h4 (by omega);rw [ea] at e1;injection e1 with e1;subst e1;rw [Addr.add_lit,hc j hj];simp [hj] at hu;simp [List.getD,hj,hu]

theorem zeros_bytes (n:Nat):Builtin.zeroCells (Value.cells (.int .u8 0)) n=B (List.replicate n 0):=by
  apply Array.ext';simp only [Builtin.zeroCells,B,Value.cells];apply List.ext_getElem
  · simp
  · intro i h1 h2
    simp [Nat.mod_one]

theorem Bytes.zeros (n:Nat):Bytes (List.replicate n 0):=fun z hz=>by rw [List.eq_of_mem_replicate hz];omega

set_option maxRecDepth 20000 in
theorem run_app (ty:TypeId) (w:World) (base:Nat) (v x:Value) (zs sp ys:Lq) (ho:Own base w v zs sp) (hr:Reads w x ys) (hl0:ys.length≤sp.length∨zs.length+ys.length≤140737488355328) (hb:base≤w.heap.size):
    ∃v' w' sp',(Builtin.append_ #[30,30] ty #[v,x]).run Tryz.prog w=.ok v' w'∧Own base w' v' (zs++ys) sp'∧w.grownBy w' v.ownBlock∧
      (v'.ownBlock=v.ownBlock∨v'.ownBlock=some w.heap.size)∧(v'=.slice none 0 0↔v=.slice none 0 0∧ys=[])∧(ys.length≤sp.length→sp'.length=sp.length-ys.length):=by
  obtain ⟨i,hi,hz,hs,hby⟩:=info_parts info_byte;have ht:=u_bytes;obtain ⟨b1,b2,b3,ho⟩:=ho;have hby':=hr;obtain ⟨a,cap,rfl,h1,h2,h3,h4⟩:=hby';have hnl:(ys.map (Value.int .u8)).length=ys.length * i.size:=by simp [hs]
  have h1c:=ints_oneCell .u8 ys;rcases ho with ⟨rfl,rfl,rfl⟩ | ⟨g,hid,hg,rfl,hrow⟩
  · by_cases hy:ys=[]
    · subst hy
      refine ⟨.slice none 0 0,w,[],?_,Own.nil _ _,World.grownBy.refl _ _,.inl rfl,by simp,by simp⟩;simp only [List.length_nil];cases a with
      | none=>simp [Builtin.append_,run_underlying ht,sizeOf,typeInfo,hi,Builtin.lenOf,Builtin.firstCells]
      | some a=>simp [Builtin.append_,run_underlying ht,sizeOf,typeInfo,hi,Builtin.lenOf,Builtin.firstCells,loadCells,loadCellsFrom]
    · have hpos:0<ys.length:=List.length_pos_iff.2 hy
      have hl:ys.length≤140737488355328:=by
        rcases hl0 with h | h
        · exact absurd (List.eq_nil_of_length_eq_zero (by simpa using h)) hy
        · simpa using h
      have hlen:ys.length≤maxLen:=by simp only [maxLen];omega
      obtain ⟨bb,off,rfl,hc⟩:=h4 hpos;have hr':=run_append_nil (P:=Tryz.prog) w 30 ty 5 i _ ht hi hz ⟨bb,off,none⟩ ys.length cap (ys.map (Value.int .u8)) hnl (hr.cells rfl).2 hpos (by omega) (by rw [hby];omega);have hge:=grownCap_ge w ys.length 0 5;have hcm:=grownCap_le_maxLen w ys.length 0 5 (by omega);refine ⟨_,_,List.replicate (grownCap w ys.length 0 5-ys.length) 0,hr',⟨by simpa using h3,Bytes.zeros _,by simp;omega,.inr ⟨w.heap.size,[],hb,?_,?_⟩⟩,⟨rfl,rfl,rfl,by simp,fun k hk _=>Below.heap_alloc w.drew _ k hk⟩,.inr rfl,by simp [hy],fun h=>absurd (List.eq_nil_of_length_eq_zero (by simpa using h)) hy⟩
      · simp;omega
      · unfold Row
        rw [zeros_bytes];rw [show (w.drew.alloc (.cells ((ys.map (Value.int .u8)).toArray++B (List.replicate (grownCap w ys.length 0 5-ys.length) 0)) 5)).heap[w.heap.size]?=_ from heap_alloc_new w.drew _];simp [B]
  · have hxs:∀j u,(zs.map (Value.int .u8))[j]?=some u→w.cell? ((⟨g,0,none⟩:Addr).add j)=some u:=by
      intro j u hu;have hj:j<zs.length:=by have:=(List.getElem?_eq_some_iff.1 hu).1;simpa using this
      rw [Addr.add_lit,Nat.zero_add,hrow.cell j (by simp;omega)];simp [hj] at hu;rw [List.append_assoc];simp [List.getD,List.getElem?_append_left hj,hj,hu]
    by_cases hroom:ys.length≤sp.length
    · by_cases hy:ys=[]
      · subst hy
        refine ⟨_,w,sp,?_,⟨by simpa using b1,b2,by simpa using b3,.inr ⟨g,hid,hg,rfl,by simpa using hrow⟩⟩,World.grownBy.refl _ _,.inl rfl,by simp,by simp⟩;cases a with
        | none=>simp [Builtin.append_,run_underlying ht,sizeOf,typeInfo,hi,Builtin.lenOf,Builtin.firstCells,storeCells]
        | some a=>simp [Builtin.append_,run_underlying ht,sizeOf,typeInfo,hi,Builtin.lenOf,Builtin.firstCells,loadCells,loadCellsFrom,storeCells]
      · have hpos:0<ys.length:=List.length_pos_iff.2 hy
        obtain ⟨bb,off,rfl,hc⟩:=h4 hpos;have hr':=run_append_room (P:=Tryz.prog) w 30 ty 5 i ht hi g zs.length (zs.length+sp.length) (B (zs++sp++hid)) hrow ⟨bb,off,none⟩ ys.length cap (ys.map (Value.int .u8)) hnl (hr.cells rfl).2 h1c (by omega) (by rw [B_size];simp [hs];omega);refine ⟨_,_,sp.drop ys.length,hr',⟨b1.append h3,b2.drop _,by simp;omega,.inr ⟨g,hid,hg,by simp;omega,?_⟩⟩,⟨rfl,rfl,rfl,by simp,fun k _ hk=>setRow_other w g k _ (fun e=>hk (by simp [Value.ownBlock,e]))⟩,.inl rfl,by simp,by simp⟩;unfold Row;rw [setRow_heap w g _ _ _ _ hrow];congr 2
        simp only [hs,Nat.mul_one,List.length_map,B];congr 1
        rw [List.append_assoc zs sp hid];simp [List.drop_append,List.append_assoc,show ys.length-sp.length=0 by omega]
    · have hpos:0<ys.length:=by omega
      have hl:zs.length+ys.length≤140737488355328:=by omega
      have hlen:zs.length+ys.length≤maxLen:=by simp only [maxLen];omega
      obtain ⟨bb,off,rfl,hc⟩:=h4 hpos;have hr':=run_append_grow (P:=Tryz.prog) w 30 ty 5 i _ ht hi hz ⟨g,0,none⟩ zs.length (zs.length+sp.length) (zs.map (Value.int .u8)) (by simp [hs]) hxs ⟨bb,off,none⟩ ys.length cap (ys.map (Value.int .u8)) hnl (hr.cells rfl).2 (by omega) (by simp only [maxLen] at hlen;omega) (by rw [hby];exact growslice_fits (by omega) (by omega));have hge:=grownCap_ge w (zs.length+ys.length) (zs.length+sp.length) 5;have hcm:=grownCap_le_maxLen w (zs.length+ys.length) (zs.length+sp.length) 5 hlen;refine ⟨_,_,List.replicate (grownCap w (zs.length+ys.length) (zs.length+sp.length) 5-(zs.length+ys.length)) 0,hr',⟨b1.append h3,Bytes.zeros _,by simp;omega,.inr ⟨w.heap.size,[],hb,by simp;omega,?_⟩⟩,⟨rfl,rfl,rfl,by simp,fun k hk _=>Below.heap_alloc w.drew _ k hk⟩,.inr rfl,by simp,fun h=>absurd h hroom⟩;unfold Row;rw [zeros_bytes];rw [show (w.drew.alloc (.cells ((zs.map (Value.int .u8)).toArray++(ys.map (Value.int .u8)).toArray++B (List.replicate (grownCap w (zs.length+ys.length) (zs.length+sp.length) 5-(zs.length+ys.length)) 0)) 5)).heap[w.heap.size]?=_ from heap_alloc_new w.drew _];simp [B]

theorem wpList_app {ops:Array Oper} {rest:List Oper} {o:Oper} {a:Act} {Q:Exit→Act→World→Prop} (w:World) (hgd:o.guard=none) (s x:Operand)
    (hop:o.op=.call { callee:=.builtin .append,args:= #[s,x],argTypes:= #[30,30]})
    (base:Nat) (v xv:Value) (zs sp ys:Lq) (ho:Own base w v zs sp) (hr:Reads w xv ys) (hs:a.eval s=v) (hx:a.eval x=xv) (hl:zs.length+ys.length≤140737488355328) (hb:base≤w.heap.size)
    (h:∀v' w' sp',Own base w' v' (zs++ys) sp'→w.grownBy w' v.ownBlock→(v'.ownBlock=v.ownBlock∨v'.ownBlock=some w.heap.size)→(v'=.slice none 0 0↔v=.slice none 0 0∧ys=[])→wpList Tryz.prog ops Q rest (a.put o.dst v') w'):
    wpList Tryz.prog ops Q (o::rest) a w:=by
  refine wpList_plain hgd fun K hK=>?_
  obtain ⟨v',w',sp',hr,h2,h3,h4,h5,_⟩:=run_app o.type w base v xv zs sp ys ho hr (.inr hl) hb;unfold Oper.wp execOp;simp only [hop,resolve,invoke,builtin,Sem.run_bind,Sem.run_pure,Result.andThen_ok,List.map_toArray,List.map_cons,List.map_nil,hs,hx,hr];exact hK _ _ (h v' w' sp' h2 h3 h4 h5)

end Go.Proofs.YtdjpigfibafokaaGreatDoor

namespace Go.Proofs.YtdjpigfibafokaaGreatDoor
variable {b b' base c g i k room s:Nat}
variable {fr:List Nat}
variable {sp xs ys zs:Lq}
variable {v vf vf' vp vp':Value}
variable {w w':World}
set_option maxHeartbeats 400000
set_option maxRecDepth 20000
open Go.RowKit

theorem made_bytes (n:Nat):madeCells (Value.cells (.int .u8 0)) n=B (List.replicate n 0):=by
  apply Array.ext';have h:=toList_madeCells_one (.int .u8 0) n;simp only [Value.cells] at *;rw [h,B_toList];simp

theorem size_byte:(Tryz.prog.info? 5).map (·.size)=some 1:=by kernel_rfl

theorem wpList_mk {ops:Array Oper} {rest:List Oper} {o:Oper} {a:Act} {Q:Exit→Act→World→Prop} (w:World) (hgd:o.guard=none) (x y:Operand)
    (hop:o.op=Op.makeSlice 30 x y) (kl kc:IntKind) (L C:Int) (l c:Nat) (hx:a.eval x=.int kl L) (hy:a.eval y=.int kc C) (hL:L=(l:Int)) (hC:C=(c:Int)) (hlc:l≤c) (hc:c≤281474976710656)
    (h:∀w',Row w' w.heap.size (List.replicate c 0)→Kb w w'→w'.heap.size=w.heap.size+1→wpList Tryz.prog ops Q rest (a.put o.dst (.slice (some ⟨w.heap.size,0,none⟩) l c)) w'):
    wpList Tryz.prog ops Q (o::rest) a w:=by
  refine wpList_plain hgd fun K hK=>?_
  obtain ⟨i,hi,hz,hs,hby⟩:=info_parts info_byte;subst hL;subst hC;have hr:=run_make (P:=Tryz.prog) w 30 5 i _ u_bytes hi hz kl kc l c (by omega) (by omega) (by rw [hby];omega) (by omega);rw [hs,Nat.mul_one,made_bytes] at hr;simp only [Int.toNat_natCast] at hr;unfold Oper.wp;simp [execOp,hop,hx,hy,hr,Result.andThen];exact hK _ _ (h _ (heap_alloc_new w _) (grow_alloc w _) (by simp))

theorem B_set (zs:Lq) (i:Nat) (z:Int):(B zs).setIfInBounds i (.int .u8 z)=B (zs.set i z):=by
  apply Array.ext';simp [B,List.map_set]

theorem Row.set (h:Row w g zs) (i:Nat) (z:Int):Row (w.setCell ⟨g,i,none⟩ (.int .u8 z)) g (zs.set i z):=by
  unfold Row;rw [heap_setCell_same w g i _ _ _ h,B_set]

theorem conv_reads (h:Reads w v zs):(convert 30 9 v).run Tryz.prog w=.ok (.string (strOfNums zs)) w:=by
  obtain ⟨a,c,rfl,h1,h2,h3,h4⟩:=h
  by_cases hz:zs=[]
  · subst hz
    cases a with
    | none=>exact run_convert_bytes_nil w _ _ u_bytes u_byte _ _ _ u_string
    | some x=>
      rw [run_convert_bytes_string w _ _ _ _ _ c u_bytes u_byte u_string,run_bytesToString w _ _ c [] (by simpa using run_loadCells_list (P:=Tryz.prog) w x [] (by simp))];rfl
  · obtain ⟨b,off,rfl,hc⟩:=h4 (List.length_pos_iff.2 hz)
    exact run_convert_bytes_arg w _ _ u_bytes u_byte b off _ c zs rfl hc _ u_string

theorem str_beq (xs ys:Lq) (hx:Bytes xs) (hy:Bytes ys):((strOfNums xs).toList == (strOfNums ys).toList)=decide (xs=ys):=by
  rw [ByteArray.toList_eq,ByteArray.toList_eq,strOfNums_data,strOfNums_data];rw [Bool.eq_iff_iff];simp only [beq_iff_eq,decide_eq_true_eq];constructor
  · intro h
    have key:∀(l:Lq),Bytes l→(l.map fun n=>UInt8.ofNat n.toNat).map (fun u=>(u.toNat:Int))=l:=by
      intro l hl;rw [List.map_map]
      conv=>rhs;rw [← List.map_id l]
      apply List.map_congr_left;intro z hz;have:=hl z hz;simp only [Function.comp,id_eq,UInt8.toNat_ofNat'];omega
    rw [← key xs hx,← key ys hy,h]
  · rintro rfl;rfl

end Go.Proofs.YtdjpigfibafokaaGreatDoor

namespace Go.Proofs.YtdjpigfibafokaaGreatDoor
variable {b b' base c g i k room s:Nat}
variable {fr:List Nat}
variable {sp xs ys zs:Lq}
variable {v vf vf' vp vp':Value}
variable {w w':World}
set_option maxHeartbeats 400000
set_option maxRecDepth 20000
open Go.RowKit

def cmp:Lq→Lq→Int
  | [],[]=>0
  | [],_::_=> -1
  | _::_,[]=>1
  | a::r,b::s=>if a<b then -1 else if b<a then 1 else cmp r s

theorem cmp_bytes:∀(xs ys:Lq),Bytes xs→Bytes ys→Lib.compareBytes (xs.map fun n=>UInt8.ofNat n.toNat) (ys.map fun n=>UInt8.ofNat n.toNat)=cmp xs ys
  | [],[],_,_=>rfl
  | [],_::_,_,_=>rfl
  | _::_,[],_,_=>rfl
  | a::r,b::s,ha,hb=>by
    have h1:=ha a (by simp);have h2:=hb b (by simp);have ih:=cmp_bytes r s (fun z hz=>ha z (by simp [hz])) (fun z hz=>hb z (by simp [hz]));have e:∀x y:Int,0≤x∧x≤255→0≤y∧y≤255→(UInt8.ofNat x.toNat<UInt8.ofNat y.toNat↔x<y):=by
      intro x y hx hy;rw [UInt8.lt_iff_toNat_lt,UInt8.toNat_ofNat',UInt8.toNat_ofNat'];omega
    simp only [List.map_cons,Lib.compareBytes,cmp,ih,e a b h1 h2,e b a h2 h1]

theorem load_bytes:∀(zs:Lq) (b off:Nat) (acc:ByteArray) (w:World),(∀i,i<zs.length→w.cell? ⟨b,off+i,none⟩=some (.int .u8 (zs.getD i 0)))→
    (Extern.Bytes.loadBytes ⟨b,off,none⟩ zs.length acc).run Tryz.prog w=.ok (zs.foldl (fun r n=>r.push (n.toNat.toUInt8)) acc) w
  | [],_,_,_,_,_=>by simp [Extern.Bytes.loadBytes]
  | z::zs,b,off,acc,w,h=>by
    have h0:=h 0 (by simp);simp only [Nat.add_zero,List.getD_cons_zero] at h0;have hl:(load ⟨b,off,none⟩).run Tryz.prog w=.ok (.int .u8 z) w:=by
      simp [go_sem,h0]
    have ih:=load_bytes zs b (off+1) (acc.push z.toNat.toUInt8) w (fun i hi=>by
      have:=h (i+1) (by simpa using hi);rw [show off+1+i=off+(i+1) by omega];simpa using this)
    simp only [List.length_cons,Extern.Bytes.loadBytes,Sem.run_bind,hl,Result.andThen_ok,Addr.add_lit,ih,List.foldl_cons]

theorem bytesOf_reads (h:Reads w v zs):(Extern.Bytes.bytesOf v).run Tryz.prog w=.ok (strOfNums zs) w:=by
  obtain ⟨a,c,rfl,h1,h2,h3,h4⟩:=h;have hfold:zs.foldl (fun r n=>r.push (n.toNat.toUInt8)) ByteArray.empty=strOfNums zs:=by
    have:=foldl_push_bytes zs ByteArray.empty;have e:(fun (r:ByteArray) (n:Int)=>r.push (n.toNat.toUInt8))=fun r n=>r.push (UInt8.ofNat n.toNat):=rfl
    rw [e,this];simp [strOfNums,ByteArray.empty,ByteArray.emptyWithCapacity];rfl
  cases a with
  | none=>
    have hz:zs=[]:=by
      by_cases hz:zs=[]
      · exact hz
      · obtain ⟨_,_,e,_⟩:=h4 (List.length_pos_iff.2 hz)
        cases e
    subst hz;rfl
  | some x=>
    by_cases hz:zs=[]
    · subst hz
      rfl
    · obtain ⟨b,off,e,hc⟩:=h4 (List.length_pos_iff.2 hz)
      injection e with e;subst e;show (Extern.Bytes.loadBytes ⟨b,off,none⟩ zs.length .empty).run Tryz.prog w=_;rw [load_bytes zs b off _ w hc,hfold]

theorem call_cmp {x y:Value} (hx:Reads w x xs) (hy:Reads w y ys):(callFunc 321 #[x,y]).run Tryz.prog w=.ok (.value (.int .i64 (cmp xs ys))) w:=by
  have b1:Bytes xs:=by obtain ⟨_,_,_,_,_,h,_⟩:=hx;exact h
  have b2:Bytes ys:=by obtain ⟨_,_,_,_,_,h,_⟩:=hy;exact h
  rw [run_callFunc_extern Tryz.func321 (by kernel_rfl) (by kernel_rfl) (by kernel_rfl) (e:=Extern.BytealgCompare.compare) (by kernel_rfl)];have e:Extern.BytealgCompare.compare #[x,y]=(do pure (goInt (Extern.BytealgCompare.cmp (← Extern.Bytes.bytesOf x) (← Extern.Bytes.bytesOf y)))):=rfl;rw [e];simp only [Sem.run_bind,bytesOf_reads hx,bytesOf_reads hy,Result.andThen_ok,Sem.run_pure];rw [Lib.cmp_eq,strOfNums_data,strOfNums_data,cmp_bytes xs ys b1 b2];rfl

theorem bcompare_any (x y:Value) (xs ys:Lq) (w:World) (hx:Reads w x xs) (hy:Reads w y ys):
    Kc 293 #[x,y] w fun e w'=>e=.returned (.int .i64 (cmp xs ys))∧w'=w:=by
  have hc:=call_cmp hx hy;clear hx hy;generalize cmp xs ys=r at *;go_enter Tryz.func293,Tryz.ntmps293
  go_wp2
  go_ret;exact ⟨rfl,rfl⟩

theorem compare_any (x y:Value) (xs ys:Lq) (w:World) (hx:Reads w x xs) (hy:Reads w y ys):
    Kc 259 #[x,y] w fun e w'=>e=.returned (.int .i64 (cmp xs ys))∧w'=w:=by
  have H:=hidden (bcompare_any x y xs ys w hx hy);clear hx hy;go_enter Tryz.func259,Tryz.ntmps259
  go_wp2_with (go_at_call 293;refine H.out.mono ?_;rintro e w' ⟨rfl,rfl⟩)
  go_ret;exact ⟨rfl,rfl⟩

end Go.Proofs.YtdjpigfibafokaaGreatDoor
