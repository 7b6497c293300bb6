/- A root at hand stays one where its tree stays; a hold more. No program in this text but the store's own. -/
import Derived.Test.YtabiglnmfdpcfaaGreatDoorBz01
import Derived.Test.YtabiglnmfdpcfaaGreatDoorBz26
import Derived.Test.YtabiglnmfdpcfaaGreatDoorBz18
import Derived.Test.YtabiglnmfdpcfaaGreatDoorBz33
import Derived.Test.YtabiglnmfdpcfaaGreatDoorBz21
import Derived.Test.YtabiglnmfdpcfaaGreatDoorBz36
import Derived.Test.YtabiglnmfdpcfaaGreatDoorBz30
import Derived.Test.YtabiglnmfdpcfaaGreatDoorBz37
import Derived.Test.YtabiglnmfdpcfaaGreatDoorBz11
import Derived.Test.YtabiglnmfdpcfaaGreatDoorBz04
namespace Go.Proofs.YtabiglnmfdpcfaaGreatDoor
variable {T:Tre}
variable {cs cs':Lz}
variable {d g n n' x:Nat}
variable {es:List Ent}
variable {v v':Value}
variable {w w' w0 wr:World}
variable {xs xs':List Value}
set_option maxHeartbeats 8000000
set_option maxRecDepth 20000
open Go.RowKit

theorem rt_tree (r:Rt cs x T) (h9:IsT cs' x T) (ho:x=0∨0<own cs' [] (x-1)):Rt cs' x T:=by
  refine ⟨h9,fun q=>?_,ho⟩;have h4:=r.dp
  match T,r.tree,h9 with
  | .emp,e,_=>exact absurd q (by rw [sdC,if_pos (show x=0 from e)];show ¬zc.kind=2;decide)
  | .lf _ _,_,e=>have:=e.1;rw [sdC,if_neg (by omega)] at q;have:=e.2.2.1;omega
  | .nd d _ _ _ _,e0,e=>
    have h1:=e.1;have hk:(sdC cs x).kind=2:=by rw [sdC,if_neg (by omega)];exact e0.2.2.1
    have:=h4 hk;rw [sdC,if_neg (by omega)] at this ⊢;rw [e.2.2.2.1,← e0.2.2.2.1];exact this
theorem rt_more14 (W:Wf cs []) {i:Nat} (hi:0<cc cs i) {x:Nat} {T:Tre} (r:Rt cs x T):Rt (moreC cs i) x T:=by
  have hk:∀j,0<cc cs j→0<cc (moreC cs i) j∧Core (ce cs j) (ce (moreC cs i) j):=fun j hj=>by
    rw [moreC_cc hi,moreC_ce];exact ⟨by omega,rfl⟩
  refine rt_tree r (r.tree.keep hk) (r.own.imp id (fun h=>?_));have:=W.le (x-1);unfold own at h ⊢;rw [moreC_cc hi,moreC_ce];omega
theorem own_more14 (W:Wf cs []) {i:Nat} (hi:0<cc cs i) (j:Nat):own (moreC cs i) [] j=own cs [] j+(if i=j then 1 else 0):=by
  have:=W.le j;unfold own;rw [moreC_cc hi,moreC_ce];omega

end Go.Proofs.YtabiglnmfdpcfaaGreatDoor

namespace Go.Proofs.YtabiglnmfdpcfaaGreatDoor
variable {T:Tre}
variable {cs cs':Lz}
variable {d g n n' x:Nat}
variable {es:List Ent}
variable {v v':Value}
variable {w w' w0 wr:World}
variable {xs xs':List Value}
set_option maxHeartbeats 8000000
set_option maxRecDepth 20000
open Go.RowKit

structure Nr where
  d:Int
  v:Value
  V:Nat→Value
  es:List Ent
def encN (x:Nr):List Value:=[.int .i64 x.d,x.v]
theorem encN_len (x:Nr):(encN x).length=2:=rfl

theorem info_nodes:∃i z,Tryz.prog.info? 94=some i∧i.zero=some z∧i.size=2∧i.bytes=32∧z.cells.size=2:=⟨_,_,rfl,rfl,rfl,rfl,rfl⟩
theorem size_nodes:(Tryz.prog.info? 94).map (·.size)=some 2:=by kernel_rfl
theorem u_nodes:∃fs,Tryz.prog.underlying 94=some (.struct fs):=⟨_,Tryz.underlying94⟩

def Rw (w0 z:World) (v:Value) (V:Nat→Value) (es:List Ent):Prop:=
  (∀z',Kb w0 z'→PrAt z' v V es)∨∃its,Lst z 62 33 v its.length (flatP its)∧its.map (·.1)=es∧V=(fun i=>(its.getD i (e00,undef)).2)∧∀p∈its,Key p.1.1∧Reads w0 p.2 p.1.2

section
variable {w0 z z':World} {v:Value} {V:Nat→Value} {es:List Ent}
theorem Rw.at (h:Rw w0 z v V es) (hb:Kb w0 z):PrAt z v V es:=by
  rcases h with h | ⟨its,h1,rfl,rfl,h2⟩
  · exact h z hb
  · exact prAt_own (base:=0) h1 (fun p hp=>(h2 p hp).1) (fun p hp=>(h2 p hp).2.grow hb)
theorem Rw.rd (h:Rw w0 z v V es) (i:Nat) (hi:i<es.length):Key (es.getD i e00).1∧Reads w0 (V i) (es.getD i e00).2:=by
  rcases h with h | ⟨its,h1,rfl,rfl,h2⟩
  · obtain ⟨_,_,_,_,_,h3⟩:=h w0 (Below.refl _ _)
    exact h3 i hi
  · rw [List.length_map] at hi
    have e1:(its.map (·.1)).getD i e00=its[i].1:=by simp [List.getD,hi]
    have e2:its.getD i (e00,undef)=its[i]:=by simp [List.getD,hi]
    simp only [e1,e2];exact h2 _ (List.getElem_mem hi)
theorem Rw.grow (h:Rw w0 z v V es) (hb:Kb z z'):Rw w0 z' v V es:=h.imp id fun ⟨its,h1,h2⟩=>⟨its,lst_grow h1 hb,h2⟩
theorem Rw.turn (h:Rw w0 z v V es) {u:Value} {n:Nat} {xs:List Value} (ho:Lst z 94 2 u n xs) (hg:z.grownBy z' u.ownBlock):Rw w0 z' v V es:=h.imp id fun ⟨its,h1,h2⟩=>⟨its,lst_mod h1 (Mod.of_grown (S:=u.ownBlock.toList) hg (fun k hk=>by simp [hk])) (fun g hg1 hg2=>by
  have hg3:u.ownBlock=some g:=by simpa using hg2
  obtain ⟨_,_,_,b1,_⟩:=lst_blk h1 g hg1;exact lst_blk_ne ho b1 (by decide) hg3),h2⟩
theorem Rw.len (h:Rw w0 z v V es) (hb:Kb w0 z):∃a c,v=.slice a es.length c:=by
  obtain ⟨a,c,e,_⟩:=h.at hb;exact ⟨a,c,e⟩
end

structure Sd2 (w0 w:World) (va vb:Value) (A B:List (Ent×Value)):Prop where
  a:Lst w 62 33 va A.length (flatP A)
  b:Lst w 62 33 vb B.length (flatP B)
  na:∀x,va.ownBlock=some x→w0.heap.size≤x
  nb:∀x,vb.ownBlock=some x→w0.heap.size≤x
  ap:∀x,va.ownBlock=some x→vb.ownBlock≠some x
  bel:Kb w0 w
theorem Sd2.nil (w:World):Sd2 w w (.slice none 0 0) (.slice none 0 0) [] []:=⟨⟨rfl,.inl ⟨rfl,rfl⟩⟩,⟨rfl,.inl ⟨rfl,rfl⟩⟩,fun g hg=>by simp [Value.ownBlock] at hg,fun g hg=>by simp [Value.ownBlock] at hg,fun g hg=>by simp [Value.ownBlock] at hg,Below.refl _ _⟩
section
variable {w0 w w':World} {va vb v':Value} {A B:List (Ent×Value)}
theorem Sd2.grow (h:Sd2 w0 w va vb A B) (hb:Kb w w'):Sd2 w0 w' va vb A B:=⟨lst_grow h.a hb,lst_grow h.b hb,h.na,h.nb,h.ap,grow_trans h.bel hb⟩
theorem Sd2.flip (h:Sd2 w0 w va vb A B):Sd2 w0 w vb va B A:=⟨h.b,h.a,h.nb,h.na,fun x h1 h2=>h.ap x h2 h1,h.bel⟩
theorem Sd2.app (h:Sd2 w0 w va vb A B) (q:Ent×Value) (k1:Lst w' 62 33 v' (A.length+1) (flatP A++encP q.1.1 q.2)) (k2:w.grownBy w' va.ownBlock) (k3:WhereL w va v'):Sd2 w0 w' v' vb (A++[q]) B:=by
  refine ⟨by rw [flatP_snoc,List.length_append];exact k1,lst_mod h.b (Mod.of_grown (S:=va.ownBlock.toList) k2 (fun k hk=>by simp [hk])) (fun g hg hg2=>h.ap g (by simpa using hg2) hg),fun x hx=>?_,h.nb,fun x hx hx2=>?_,h.bel.grown k2 h.bel.size h.na⟩
  · rcases k3 with k3 | ⟨k,e,k4⟩
    · exact h.na x (by rw [← k3];exact hx)
    · rw [hx] at e
      injection e with e;have:=h.bel.size;omega
  · rcases k3 with k3 | ⟨k,e,k4⟩
    · exact h.ap x (by rw [← k3];exact hx) hx2
    · rw [hx] at e
      injection e with e;obtain ⟨_,_,_,b1,_⟩:=lst_blk h.b x hx2;have:=b1.lt;omega
end

structure TrAt (w0 w:World) (v:Value) (ns:List Nr):Prop where
  own:Lst w 94 2 v ns.length (flatE encN ns)
  ok:∀x∈ns,Rw w0 w x.v x.V x.es
section
variable {w0 w w':World} {v:Value} {ns:List Nr}
theorem TrAt.grow (h:TrAt w0 w v ns) (hb:Kb w w'):TrAt w0 w' v ns:=⟨lst_grow h.own hb,fun x hx=>(h.ok x hx).grow hb⟩
theorem TrAt.one (h:TrAt w0 w v ns) (hb:Kb w0 w):∀x∈ns,∀u∈encN x,u.oneCell'=true:=fun x hx u hu=>by
  obtain ⟨a,c,e⟩:=(h.ok x hx).len hb;unfold encN at hu;rcases List.mem_cons.1 hu with rfl | hu
  · rfl
  · obtain rfl:u=x.v:=by simpa using hu
    rw [e];rfl
end

theorem wpList_bsn {ops:Array Oper} {rest:List Oper} {op:Oper} {a:Act} {Q:Exit→Act→World→Prop} (w:World) (hgd:op.guard=none) (x:Operand) (ho:op.op=.buildSlice 49 1 #[(0,x)])
    (X:Nr) (hx:a.eval x=.agg (encN X).toArray)
    (hk:∀w' g,w.heap.size≤g→Blk w' g 94 (encN X).toArray→Kb w w'→wpList Tryz.prog ops Q rest (a.put op.dst (.slice (some ⟨g,0,none⟩) 1 1)) w'):wpList Tryz.prog ops Q (op::rest) a w:=by
  refine wpList_plain hgd fun K hK=>?_
  obtain ⟨i,z,hi,hz,hs,_,hzs⟩:=info_nodes;have hrun:=run_buildSlice (P:=Tryz.prog) w 49 94 1 #[(0,.agg (encN X).toArray)] (encN X).toArray i z Tryz.underlying49 hi hz (by rw [hs];omega) (by rw [hs];omega) (by
    rw [hs];obtain ⟨zs,hzz,hzl⟩:∃zs:List Value,(Array.range (1 * 2)).map (z.cells[· % z.cells.size]!)=zs.toArray∧zs.length=2:=⟨_,(Array.toArray_toList).symm,by simp⟩;rw [hzz];have:=fill_one (fun i=>some (i * 2,2)) 0 0 2 (.agg (encN X).toArray) (encN X) zs [] rfl rfl rfl (by omega);rw [show (#[(0,Value.agg (encN X).toArray)]:Array (Nat×Value)).toList=[(0,Value.agg (encN X).toArray)] from rfl,this,Instr.fill];simp [hzl])
  unfold Oper.wp execOp;simp only [ho,List.map_toArray,List.map_cons,List.map_nil,hx,Sem.run_bind,hrun,Result.andThen_ok,Sem.run_pure];exact hK _ _ (hk _ w.heap.size (Nat.le_refl _) (Blk.new w _ _) (grow_alloc w _))

theorem lst_one11 {X:Nr} (b:Blk w g 94 (encN X).toArray):Lst w 94 2 (.slice (some ⟨g,0,none⟩) 1 1) 1 (flatE encN [X]):=
  ⟨by simp [flatE,encN],.inr ⟨g,1,(encN X).toArray,rfl,Nat.zero_le _,b,Nat.le_refl _,by simp only [maxLen];omega,by simp [encN],by simp [flatE,encN]⟩⟩

theorem run_appNs (ty:TypeId) (w:World) (v1 v2:Value) (n1 n2:Nat) (xs1 xs2:List Value) (h1:Lst w 94 2 v1 n1 xs1) (h2:Lst w 94 2 v2 n2 xs2) (ho:∀u∈xs2,u.oneCell'=true) (hn:n1+n2≤1000000):
    ∃v' w',(Builtin.append_ #[49,49] ty #[v1,v2]).run Tryz.prog w=.ok v' w'∧Lst w' 94 2 v' (n1+n2) (xs1++xs2)∧w.grownBy w' v1.ownBlock∧WhereL w v1 v':=by
  obtain ⟨i,z,hi,hz,hsz,hby,hzs⟩:=info_nodes;have ht:Tryz.prog.underlying 49=some (.slice 94):=Tryz.underlying49;have h0:∀(a:Option Addr) (c:Nat),v2=.slice a 0 c→xs2=[]→n2=0→∃v' w',(Builtin.append_ #[49,49] ty #[v1,v2]).run Tryz.prog w=.ok v' w'∧Lst w' 94 2 v' (n1+n2) (xs1++xs2)∧w.grownBy w' v1.ownBlock∧WhereL w v1 v':=fun a c e1 e2 e3=>by
    subst e1;subst e2;subst e3;refine ⟨v1,w,?_,by simpa using h1,World.grownBy.refl _ _,.inl rfl⟩;rcases h1.2 with ⟨rfl,rfl⟩ | ⟨g,cap,cur,rfl,hb,hg,hnc,hcm,hcs,htk⟩
    · cases a with
      | none=>simp [Builtin.append_,run_underlying ht,sizeOf,typeInfo,hi,Builtin.lenOf,Builtin.firstCells]
      | some a=>simp [Builtin.append_,run_underlying ht,sizeOf,typeInfo,hi,Builtin.lenOf,Builtin.firstCells,loadCells,loadCellsFrom]
    · cases a with
      | none=>simp [Builtin.append_,run_underlying ht,sizeOf,typeInfo,hi,Builtin.lenOf,Builtin.firstCells,hnc,storeCells]
      | some a=>simp [Builtin.append_,run_underlying ht,sizeOf,typeInfo,hi,Builtin.lenOf,Builtin.firstCells,loadCells,loadCellsFrom,hnc,storeCells]
  have hl2:xs2.length=n2 * 2:=h2.1;obtain ⟨a2,c2,e2⟩:=lst_slice h2
  by_cases e:n2=0
  · subst e
    exact h0 a2 c2 e2 (List.length_eq_zero_iff.1 (by omega)) rfl
  · rcases h2.2 with ⟨_,q⟩ | ⟨g,cap,cur,rfl,hb,hg,hnc,hcm,hcs,htk⟩
    · exact absurd q e
    · have hc:∀j u,xs2[j]?=some u→w.cell? ((⟨g,0,none⟩:Addr).add j)=some u:=fun j u hu=>by
        have hj:j<n2 * 2:=by rw [← hl2];exact (List.getElem?_eq_some_iff.1 hu).1
        rw [Addr.add_lit,Nat.zero_add,lst_cell h2 j hj];exact hu
      exact run_appL (P:=Tryz.prog) w 49 ty 94 i z 2 32 ht hi hz hsz hby hzs (by omega) v1 n1 xs1 h1 ⟨g,0,none⟩ n2 cap xs2 hl2 hc ho (by omega) (by simp only [maxLen];omega) (by omega)
theorem wpList_appNs {ops:Array Oper} {rest:List Oper} {o:Oper} {a:Act} {Q:Exit→Act→World→Prop} (w:World) (hgd:o.guard=none) (s x:Operand)
    (hop:o.op=.call { callee:=.builtin .append,args:= #[s,x],argTypes:= #[49,49]})
    (v1 v2:Value) (n1 n2:Nat) (xs1 xs2:List Value) (hs:a.eval s=v1) (hx:a.eval x=v2) (h1:Lst w 94 2 v1 n1 xs1) (h2:Lst w 94 2 v2 n2 xs2) (ho:∀u∈xs2,u.oneCell'=true) (hn:n1+n2≤1000000)
    (hk:∀v' w',Lst w' 94 2 v' (n1+n2) (xs1++xs2)→w.grownBy w' v1.ownBlock→WhereL w v1 v'→wpList Tryz.prog ops Q rest (a.put o.dst v') w'):wpList Tryz.prog ops Q (o::rest) a w:=by
  refine wpList_plain hgd fun K hK=>?_
  obtain ⟨v',w',hr,q1,q2,q3⟩:=run_appNs o.type w v1 v2 n1 n2 xs1 xs2 h1 h2 ho hn;unfold Oper.wp execOp;simp only [hop,resolve,invoke,builtin,Sem.run_bind,Sem.run_pure,Result.andThen_ok,List.map_toArray,List.map_cons,List.map_nil,hs,hx,hr];exact hK _ _ (hk v' w' q1 q2 q3)

end Go.Proofs.YtabiglnmfdpcfaaGreatDoor

namespace Go.Proofs.YtabiglnmfdpcfaaGreatDoor
variable {T:Tre}
variable {cs cs':Lz}
variable {d g n n' x:Nat}
variable {es:List Ent}
variable {v v':Value}
variable {w w' w0 wr:World}
variable {xs xs':List Value}
set_option maxHeartbeats 8000000
set_option maxRecDepth 20000
open Go.RowKit

def dpI:Option Nat→Int
  | none=> -1
  | some d=>(d:Int)
def dpE (y:Option Nat×List Ent):Int×List Ent:=(dpI y.1,y.2)

structure TPre (d:Nat) (es:List Ent):Prop where
  ne:es.Pairwise fun a b=>a.1≠b.1
  sh:∀x∈es,∀y∈es,∀j,j<d→kb x.1 j=kb y.1 j
  key:∀x∈es,Key x.1

def TrPost (w0 w:World) (n d:Nat) (es:List Ent) (e:Ending) (w':World):Prop:=∃v' ns,e=.returned v'∧TrAt w0 w' v' ns∧ns.map (fun x=>(x.d,x.es))=(trN n d es).map dpE∧Kb w w'

theorem trN_len_le:∀(n d:Nat) (l:List Ent),(trN n d l).length≤l.length * (n+1)
  | 0,d,l=>by
    unfold trN;split
    · simp;omega
    · simp
  | n+1,d,l=>by
    unfold trN;split
    · simp
    · rename_i h0
      split
      · rename_i h1
        rw [h1];simp
      · have h1:=trN_len_le n (d+1) (l.filter fun e=>kb e.1 d == 0)
        have h2:=trN_len_le n (d+1) (l.filter fun e=>!(kb e.1 d == 0));have h3:(l.filter fun e=>kb e.1 d == 0).length+(l.filter fun e=>!(kb e.1 d == 0)).length=l.length:=by
          rw [← List.length_append];exact (List.filter_append_perm _ _).length_eq
        rw [List.length_cons,List.length_append,← h3,Nat.add_mul];have e1:∀x:Nat,x * (n+1+1)=x * (n+1)+x:=fun x=>by rw [Nat.mul_add x (n+1) 1,Nat.mul_one]
        rw [e1,e1];omega

theorem TPre.side (p:TPre d es):TPre (d+1) (es.filter fun e=>kb e.1 d == 0)∧TPre (d+1) (es.filter fun e=>!(kb e.1 d == 0)):=by
  refine ⟨⟨p.ne.sublist List.filter_sublist,fun x hx y hy j hj=>?_,fun x hx=>p.key x (List.mem_filter.1 hx).1⟩,⟨p.ne.sublist List.filter_sublist,fun x hx y hy j hj=>?_,fun x hx=>p.key x (List.mem_filter.1 hx).1⟩⟩
  · obtain ⟨x1,x2⟩:=List.mem_filter.1 hx
    obtain ⟨y1,y2⟩:=List.mem_filter.1 hy
    by_cases e:j=d
    · subst e
      have x2:kb x.1 j=0:=by simpa using x2
      have y2:kb y.1 j=0:=by simpa using y2
      rw [x2,y2]
    · exact p.sh x x1 y y1 j (by omega)
  · obtain ⟨x1,x2⟩:=List.mem_filter.1 hx
    obtain ⟨y1,y2⟩:=List.mem_filter.1 hy
    by_cases e:j=d
    · subst e
      have x2: ¬kb x.1 j=0:=by simpa using x2
      have y2: ¬kb y.1 j=0:=by simpa using y2
      rcases kb_two x.1 j with q | q
      · exact absurd q x2
      · rcases kb_two y.1 j with r | r
        · exact absurd r y2
        · rw [q,r]
    · exact p.sh x x1 y y1 j (by omega)
theorem TPre.few (p:TPre 256 es):es.length≤1:=by
  match es,p with
  | [],_=>simp
  | [_],_=>simp
  | a::b::l,p=>
    exfalso;have h1:=List.rel_of_pairwise_cons p.ne (List.mem_cons_self (a:=b) (l:=l));exact h1 (key_ext (p.key a (by simp)) (p.key b (by simp)) fun j hj=>p.sh a (by simp) b (by simp) j (by omega))

theorem built_nodes (d:Int) (a:Option Addr) (n c:Nat) (V:Nat→Value) (es:List Ent):Tryz.prog.built 94 [(0,.int .i64 d),(1,.slice a n c)]=some (encN ⟨d,.slice a n c,V,es⟩).toArray:=rfl

theorem trPost_nil (w0 w:World) (n d:Nat):TrPost w0 w n d [] (.returned (.slice none 0 0)) w:=⟨_,[],rfl,⟨⟨rfl,.inl ⟨rfl,rfl⟩⟩,fun x hx=>(by cases hx)⟩,by rw [trN_nil];rfl,Below.refl _ _⟩

theorem tree11_few {V:Nat→Value} (hb:Kb w0 w) (hR:Rw w0 w v V es) (hn:es.length≤1):Kc 20 #[v,.int .i64 (d:Int)] w (TrPost w0 w n d es):=by
  obtain ⟨a,cap,rfl⟩:=hR.len hb
  match es,hR,hn with
  | [],hR,_=>
    have HP:=hidden (trPost_nil w0 w n d);generalize TrPost w0 w n d []=P at HP ⊢;rw [show ([]:List Ent).length=0 from rfl];clear hR hb;go_enter Tryz.func20,Tryz.ntmps20
    go_wp2
    exact HP.out
  | [x],hR,_=>
    rw [show [x].length=1 from rfl] at hR ⊢;have HP:Hid (∀w' g,Blk w' g 94 (encN ⟨-1,.slice a 1 cap,V,[x]⟩).toArray→Kb w w'→TrPost w0 w n d [x] (.returned (.slice (some ⟨g,0,none⟩) 1 1)) w'):=fun w' g b hb2=>
      ⟨_,[⟨-1,.slice a 1 cap,V,[x]⟩],rfl,⟨lst_one11 b,fun y hy=>by
        obtain rfl:y=⟨-1,.slice a 1 cap,V,[x]⟩:=by simpa using hy
        exact hR.grow hb2⟩,by rw [trN_one];rfl,hb2⟩
    have HBL:=hidden (built_nodes (-1) a 1 cap V [x]);generalize TrPost w0 w n d [x]=P at HP ⊢;clear hR hb;go_enter Tryz.func20,Tryz.ntmps20
    go_wp2_with (first
      |(refine wpList_bld _ rfl _ _ rfl (encN ⟨-1,.slice a 1 cap,V,[x]⟩).toArray (by rw [List.map_toArray];exact HBL.out) ?_)
      |(refine wpList_bsn _ rfl _ rfl ⟨-1,.slice a 1 cap,V,[x]⟩ rfl ?_;intro w1 g hg B b;have HQ:=hidden (HP.out _ _ B b);clear B b))
    exact HQ.out

structure Gt2 (w0 w wr:World) (V:Nat→Value) (es:List Ent) (d k:Nat) (va vb:Value) (A B:List (Ent×Value)):Prop where
  sd:Sd2 w wr va vb A B
  ea:A.map (·.1)=(es.take k).filter fun e=>kb e.1 d == 0
  eb:B.map (·.1)=(es.take k).filter fun e=>!(kb e.1 d == 0)
  oa:∀p∈A,Key p.1.1∧Reads w0 p.2 p.1.2
  ob:∀p∈B,Key p.1.1∧Reads w0 p.2 p.1.2
theorem take_filter (f:Ent→Bool) (es:List Ent) (k:Nat) (hk:k<es.length):(es.take (k+1)).filter f=(es.take k).filter f++(if f (es.getD k e00)=true then [es.getD k e00] else []):=by
  rw [List.take_add_one,List.filter_append];congr 1
  simp [List.getD,hk,List.filter_cons]
section
variable {w0 w wr w':World} {V:Nat→Value} {es:List Ent} {d k:Nat} {va vb v':Value} {A B:List (Ent×Value)}
theorem Gt2.grow (h:Gt2 w0 w wr V es d k va vb A B) (hb:Kb wr w'):Gt2 w0 w w' V es d k va vb A B:=⟨h.sd.grow hb,h.ea,h.eb,h.oa,h.ob⟩
theorem Gt2.lenA (h:Gt2 w0 w wr V es d k va vb A B):A.length≤es.length:=by
  have:=congrArg List.length h.ea;rw [List.length_map] at this;rw [this];exact Nat.le_trans (List.length_filter_le _ _) (by rw [List.length_take];exact Nat.min_le_right _ _)
theorem Gt2.lenB (h:Gt2 w0 w wr V es d k va vb A B):B.length≤es.length:=by
  have:=congrArg List.length h.eb;rw [List.length_map] at this;rw [this];exact Nat.le_trans (List.length_filter_le _ _) (by rw [List.length_take];exact Nat.min_le_right _ _)
theorem Gt2.inA (h:Gt2 w0 w wr V es d k va vb A B) (hk:k<es.length) (hE:Key (es.getD k e00).1∧Reads w0 (V k) (es.getD k e00).2) (hz:kb (es.getD k e00).1 d=0) (k1:Lst w' 62 33 v' (A.length+1) (flatP A++encP (es.getD k e00).1 (V k))) (k2:wr.grownBy w' va.ownBlock) (k3:WhereL wr va v'):Gt2 w0 w w' V es d (k+1) v' vb (A++[(es.getD k e00,V k)]) B:=by
  refine ⟨h.sd.app _ k1 k2 k3,?_,?_,fun p hp=>?_,h.ob⟩
  · rw [take_filter _ _ _ hk,if_pos (by rw [hz];rfl),List.map_append,h.ea]
    rfl
  · rw [take_filter _ _ _ hk,if_neg (by rw [hz];decide),List.append_nil,h.eb]
  · rcases List.mem_append.1 hp with hp | hp
    · exact h.oa p hp
    · obtain rfl:p=(es.getD k e00,V k):=by simpa using hp
      exact hE
theorem Gt2.inB (h:Gt2 w0 w wr V es d k va vb A B) (hk:k<es.length) (hE:Key (es.getD k e00).1∧Reads w0 (V k) (es.getD k e00).2) (hz: ¬kb (es.getD k e00).1 d=0) (k1:Lst w' 62 33 v' (B.length+1) (flatP B++encP (es.getD k e00).1 (V k))) (k2:wr.grownBy w' vb.ownBlock) (k3:WhereL wr vb v'):Gt2 w0 w w' V es d (k+1) va v' A (B++[(es.getD k e00,V k)]):=by
  refine ⟨(h.sd.flip.app _ k1 k2 k3).flip,?_,?_,h.oa,fun p hp=>?_⟩
  · rw [take_filter _ _ _ hk,if_neg (by simpa using hz),List.append_nil,h.ea]
  · rw [take_filter _ _ _ hk,if_pos (by simpa using hz),List.map_append,h.eb]
    rfl
  · rcases List.mem_append.1 hp with hp | hp
    · exact h.ob p hp
    · obtain rfl:p=(es.getD k e00,V k):=by simpa using hp
      exact hE
end

structure OutN (w wr:World) (v:Value) (n:Nat) (xs:List Value):Prop where
  own:Lst wr 94 2 v n xs
  new:∀g,v.ownBlock=some g→w.heap.size≤g
  bel:Kb w wr
theorem OutN.grow (h:OutN w wr v n xs) (hb:Kb wr w'):OutN w w' v n xs:=⟨lst_grow h.own hb,h.new,grow_trans h.bel hb⟩
theorem OutN.app (h:OutN w wr v n xs) (k1:Lst w' 94 2 v' n' xs') (k2:wr.grownBy w' v.ownBlock) (k3:WhereL wr v v'):OutN w w' v' n' xs':=by
  refine ⟨k1,fun g hg=>?_,h.bel.grown k2 h.bel.size h.new⟩;rcases k3 with k3 | ⟨k,e,k4⟩
  · exact h.new g (by rw [← k3];exact hg)
  · rw [hg] at e
    injection e with e;have:=h.bel.size;omega

set_option maxRecDepth 100000 in
theorem tree11_more {V:Nat→Value} (hd:d+(n+1)=256) (hb:Kb w0 w) (hR:Rw w0 w v V es) (h2:2≤es.length) (hn:es.length≤100) (p:TPre d es)
    (IH:∀w' v' V' es',Kb w0 w'→Rw w0 w' v' V' es'→es'.length≤100→TPre (d+1) es'→Kc 20 #[v',.int .i64 ((d+1:Nat):Int)] w' (TrPost w0 w' n (d+1) es')):
    Kc 20 #[v,.int .i64 (d:Int)] w (TrPost w0 w (n+1) d es):=by
  obtain ⟨a,cap,rfl,hcap,hc,hr⟩:=hR.at hb;have HC:=hidden hc;have HRd:=hidden hR.rd;obtain ⟨m,hm⟩:∃m,m=es.length:=⟨_,rfl⟩;have HM:=hidden hm;have hkb:d<256:=by omega
  have HBit:Hid (∀k,k<es.length→∀w',Kc 53 #[.agg (B (es.getD k e00).1),.int .i64 d] w' fun e w''=>e=.returned (.int .i64 (kb (es.getD k e00).1 d))∧Below w'.heap.size w' w''):=fun k hk w'=>by
    have:=rbit_any (es.getD k e00).1 d w' (hr k hk).1;rwa [kbi_in _ _ hkb] at this
  have HFIN:Hid (∀wr va vb A B,Gt2 w0 w wr V es d es.length va vb A B→∃VA VB EA EB,(EA.length≤100∧EB.length≤100)∧Rw w0 wr va VA EA∧Rw w0 wr vb VB EB∧(∀w' v',Kb w w'→Rw w0 w' v' VA EA→Kc 20 #[v',.int .i64 ((d+1:Nat):Int)] w' (TrPost w0 w' n (d+1) EA))∧(∀w' v',Kb w w'→Rw w0 w' v' VB EB→Kc 20 #[v',.int .i64 ((d+1:Nat):Int)] w' (TrPost w0 w' n (d+1) EB))∧(∀(w':World) (v':Value) (ns1 ns2:List Nr),Lst w' 94 2 v' (1+ns1.length+ns2.length) (flatE encN [⟨d,.slice a es.length cap,V,es⟩]++flatE encN ns1++flatE encN ns2)→Rw w0 w' (.slice a es.length cap) V es→(∀x∈ns1,Rw w0 w' x.v x.V x.es)→(∀x∈ns2,Rw w0 w' x.v x.V x.es)→ns1.map (fun x=>(x.d,x.es))=(trN n (d+1) EA).map dpE→ns2.map (fun x=>(x.d,x.es))=(trN n (d+1) EB).map dpE→Kb w w'→TrPost w0 w (n+1) d es (.returned v') w')):=fun wr va vb A B g=>by
    have q1:=g.lenA;have q2:=g.lenB;have ea:=g.ea;have eb:=g.eb;rw [List.take_length] at ea eb;obtain ⟨p1,p2⟩:=p.side;refine ⟨_,_,A.map (·.1),B.map (·.1),⟨by rw [List.length_map];omega,by rw [List.length_map];omega⟩,.inr ⟨A,g.sd.a,rfl,rfl,g.oa⟩,.inr ⟨B,g.sd.b,rfl,rfl,g.ob⟩,fun w' v' b' r'=>IH w' v' _ _ (grow_trans hb b') r' (by rw [List.length_map];omega) (by rw [ea];exact p1),fun w' v' b' r'=>IH w' v' _ _ (grow_trans hb b') r' (by rw [List.length_map];omega) (by rw [eb];exact p2),fun w' v' ns1 ns2 l r0 r1 r2 s1 s2 b'=>?_⟩;refine ⟨v',⟨d,.slice a es.length cap,V,es⟩::(ns1++ns2),rfl,⟨?_,fun x hx=>?_⟩,?_,b'⟩
    · rw [← flatE_app,← flatE_app] at l
      rw [List.length_cons,List.length_append];simpa [Nat.add_comm,Nat.add_left_comm,Nat.add_assoc] using l
    · rcases List.mem_cons.1 hx with rfl | hx
      · exact r0
      · exact (List.mem_append.1 hx).elim (r1 x) (r2 x)
    · rw [trN,if_neg (by omega),if_neg (by omega),List.map_cons,List.map_cons,List.map_append,List.map_append,s1,s2,ea,eb]
      rfl
  have HLEN:Hid (∀(ns:List Nr) EA,EA.length≤100→ns.map (fun x=>(x.d,x.es))=(trN n (d+1) EA).map dpE→ns.length≤30000):=fun ns EA h1 h2=>by
    have h3:=congrArg List.length h2;rw [List.length_map,List.length_map] at h3;have h4:=trN_len_le n (d+1) EA;have h5:EA.length * (n+1)≤100 * 256:=Nat.mul_le_mul h1 (by omega);omega
  have HRW:=hidden hR;have HB0:=hidden hb;have hwd:wrap64 ((d:Int)+1)=((d+1:Nat):Int):=by rw [Go.IntWalk.wrap64_in _ (by omega)];rfl
  have hne0: ¬(m:Int)=0:=by omega
  have hne1: ¬(m:Int)=1:=by omega
  have hne0b:((m:Int) == 0)=false:=by simpa using hne0
  have hne1b:((m:Int) == 1)=false:=by simpa using hne1
  have hm100:m≤100:=by omega
  have HBL:=hidden (built_nodes (d:Int) a m cap V es);obtain ⟨X,hX⟩:∃X,X=(⟨d,.slice a m cap,V,es⟩:Nr):=⟨_,rfl⟩;have HX:=hidden hX;rw [← hX] at HBL;rw [← hm,← hX] at HFIN;rw [← hm] at HRW ⊢;generalize TrPost w0 w (n+1) d es=PP at HFIN ⊢;have HIN:=hidden info_pair;generalize ((d+1:Nat):Int)=d1 at HFIN hwd;generalize hdd:(d:Int)=di at HFIN hwd HBit HBL ⊢;clear hc hr hR hb hcap hm IH p hd hkb h2 hn hX;go_enter Tryz.func20,Tryz.ntmps20
  go_wp2_with fail
  go_loopw [5,6,7] (fun va vb iv wr=>∃(k:Nat) (A B:List (Ent×Value)) (aa ba:Option Addr) (an ac bn bc:Nat),k≤m∧iv=.int .i64 (k:Int)∧va=.slice aa an ac∧vb=.slice ba bn bc∧Hid (Gt2 w0 w wr V es d k (.slice aa an ac) (.slice ba bn bc) A B)) (fun _ _ iv _=>m-(intOf iv).toNat)
  case atStart=>exact ⟨0,[],[],none,none,0,0,0,0,by omega,rfl,rfl,rfl,⟨Sd2.nil w,rfl,rfl,fun p hp=>(by cases hp),fun p hp=>(by cases hp)⟩⟩
  case round=>
    obtain ⟨k,A,B2,aa,ba,an,ac,bn,bc,hk,rfl,rfl,rfl,hg⟩:=hrel
    by_cases hlt:k<m
    · have hlt':k<es.length:=by rw [← HM.out];exact hlt
      obtain ⟨g,off,rfl,hcc⟩:=HC.out (by omega);have z1:(k:Int)<(m:Int):=by omega
      have z0:(0:Int)≤(k:Int):=by omega
      have HCC:Hid (∀w',Kb w w'→w'.rangeAt g (off+k * 33) (encP (es.getD k e00).1 (V k))):=fun w' hw'=>rng_grow (hcc k hlt') hw'
      have HBT:=hidden (HBit.out k hlt');have hE:=HRd.out k hlt';have HV1:=hidden (reads_one hE.2);have HKY:=hidden hE.1;have HLA:Hid (A.length+1≤101):=by have h1:=hg.out.lenA;have h2:=HM.out;show _≤_;omega
      have HLB:Hid (B2.length+1≤101):=by have h1:=hg.out.lenB;have h2:=HM.out;show _≤_;omega
      have HNA:Hid (∀wq w' v',Gt2 w0 w wq V es d k (.slice aa an ac) (.slice ba bn bc) A B2→kb (es.getD k e00).1 d=0→Lst w' 62 33 v' (A.length+1) (flatP A++encP (es.getD k e00).1 (V k))→wq.grownBy w' (Value.slice aa an ac).ownBlock→WhereL wq (.slice aa an ac) v'→Gt2 w0 w w' V es d (k+1) v' (.slice ba bn bc) (A++[(es.getD k e00,V k)]) B2):=fun wq w' v' g hz k1 k2 k3=>g.inA hlt' hE hz k1 k2 k3
      have HNB:Hid (∀wq w' v',Gt2 w0 w wq V es d k (.slice aa an ac) (.slice ba bn bc) A B2→ ¬kb (es.getD k e00).1 d=0→Lst w' 62 33 v' (B2.length+1) (flatP B2++encP (es.getD k e00).1 (V k))→wq.grownBy w' (Value.slice ba bn bc).ownBlock→WhereL wq (.slice ba bn bc) v'→Gt2 w0 w w' V es d (k+1) (.slice aa an ac) v' A (B2++[(es.getD k e00,V k)])):=fun wq w' v' g hz k1 k2 k3=>g.inB hlt' hE hz k1 k2 k3
      have HON:Hid (∀u∈encP (es.getD k e00).1 (V k),u.oneCell'=true):=fun q hq=>by
        unfold encP at hq;rcases List.mem_append.1 hq with hq | hq
        · obtain ⟨z,_,rfl⟩:=List.mem_map.1 hq
          rfl
        · obtain rfl:q=V k:=by simpa using hq
          exact HV1.out
      have HEL:Hid ((encP (es.getD k e00).1 (V k)).length=33):=encP_length _ _ HKY.out.1;obtain ⟨b,hbk⟩:∃b,b=kb (es.getD k e00).1 d:=⟨_,rfl⟩;rw [← hbk] at HBT HNA HNB;generalize (es.getD k e00).1=K at HCC HBT HKY HNA HNB HON HEL;generalize V k=U at HCC HNA HNB HON HEL HV1;clear hcc hlt' hE hbk HBit HRd HC HFIN HLEN HRW HBL hwd
      by_cases hbb:b=0
      · have HNC:=hidden (fun wq w' v' g=>HNA.out wq w' v' g hbb)
        clear HNA HNB;subst hbb
        go_wp2_with (first
          |((with_reducible refine at_ldd 28 27 ?_);refine wpList_ldk _ rfl _ rfl g (off+k * 33) K rfl (rng_key (HCC.out _ hg.out.sd.bel)) HKY.out.1 ?_)
          |(go_at_call 53;refine (HBT.out _).mono ?_;rintro e w2 ⟨rfl,q2⟩;have HG2:=hidden (hg.out.grow q2);clear q2)
          |((with_reducible refine at_ldd 36 35 ?_);refine wpList_ldp _ rfl _ rfl g (off+k * 33) K U rfl (HCC.out _ HG2.out.sd.bel) HKY.out.1 ?_)
          |(refine wpList_bsp _ rfl _ rfl K U rfl HKY.out.1 ?_;have HG3:=hidden (HG2.out.grow (grow_alloc w2 (.cells (encP K U).toArray 62))))
          |(refine wpList_appL _ rfl _ _ _ rfl 62 33 56 Tryz.underlying22 HIN.out (by omega) _ A.length (flatP A) rfl HG3.out.sd.a w2.heap.size (encP K U) rfl (Blk.new _ _ _) HEL.out HON.out (by have:=HLA.out;simp only [maxLen];omega) (by have:=HLA.out;omega) ?_;intro v' w3 k1 k2 k3;have HG4:=hidden (HNC.out _ _ _ HG3.out k1 k2 k3);clear k2 k3;obtain ⟨ua,uc,rfl⟩:=lst_slice k1;clear k1))
        exact ⟨⟨k+1,_,_,_,_,_,_,_,_,by omega,by go_num,rfl,rfl,HG4.out⟩,by simp [intOf];omega⟩
      · have hb2:(b == 0)=false:=by simp [hbb]
        have HNC:=hidden (fun wq w' v' g=>HNB.out wq w' v' g hbb);clear HNA HNB
        go_wp2_with (first
          |((with_reducible refine at_ldd 28 27 ?_);refine wpList_ldk _ rfl _ rfl g (off+k * 33) K rfl (rng_key (HCC.out _ hg.out.sd.bel)) HKY.out.1 ?_)
          |(go_at_call 53;refine (HBT.out _).mono ?_;rintro e w2 ⟨rfl,q2⟩;have HG2:=hidden (hg.out.grow q2);clear q2)
          |((with_reducible refine at_ldd 43 42 ?_);refine wpList_ldp _ rfl _ rfl g (off+k * 33) K U rfl (HCC.out _ HG2.out.sd.bel) HKY.out.1 ?_)
          |(refine wpList_bsp _ rfl _ rfl K U rfl HKY.out.1 ?_;have HG3:=hidden (HG2.out.grow (grow_alloc w2 (.cells (encP K U).toArray 62))))
          |(refine wpList_appL _ rfl _ _ _ rfl 62 33 56 Tryz.underlying22 HIN.out (by omega) _ B2.length (flatP B2) rfl HG3.out.sd.b w2.heap.size (encP K U) rfl (Blk.new _ _ _) HEL.out HON.out (by have:=HLB.out;simp only [maxLen];omega) (by have:=HLB.out;omega) ?_;intro v' w3 k1 k2 k3;have HG4:=hidden (HNC.out _ _ _ HG3.out k1 k2 k3);clear k2 k3;obtain ⟨ua,uc,rfl⟩:=lst_slice k1;clear k1))
        exact ⟨⟨k+1,_,_,_,_,_,_,_,_,by omega,by go_num,rfl,rfl,HG4.out⟩,by simp [intOf];omega⟩
    · obtain rfl:k=m:=by omega
      have z1: ¬(k:Int)<(k:Int):=by omega
      have hg2:=hg.out;have hkm:k=es.length:=HM.out;have hq1:=hg2.lenA;have hq2:=hg2.lenB;obtain ⟨VA,VB,EA,EB,el,ra,rb,ca,cb,fin⟩:=HFIN.out _ _ _ _ _ hg2;have HEL:=hidden el;have HRA:=hidden (And.intro ra rb);have HCA:=hidden ca;have HCB:=hidden cb;have HF:=hidden fin;have HBW:=hidden hg2.sd.bel;have HR0:=hidden (HRW.out.grow hg2.sd.bel);clear hg2 hkm hq1 hq2 el ra rb ca cb fin hg HFIN HC HRd HBit HRW;have HL1:=hidden (fun ns1=>HLEN.out ns1 EA);have HL2:=hidden (fun ns2=>HLEN.out ns2 EB);clear HLEN
      go_wp2_with (first
        |(refine wpList_bld _ rfl _ _ rfl (encN X).toArray (by rw [List.map_toArray];exact HBL.out) ?_)
        |(refine wpList_bsn _ rfl _ rfl X rfl ?_;intro w5 go hgo BO b5;have HO:Hid (OutN w w5 (.slice (some ⟨go,0,none⟩) 1 1) 1 (flatE encN [X])):=⟨lst_one11 BO,fun g hg=>(by simp [Value.ownBlock] at hg;have:=HBW.out.size;omega),grow_trans HBW.out b5⟩;have HO1:=hidden (And.intro (HRA.out.1.grow b5) (HRA.out.2.grow b5));have HR5:=hidden (HR0.out.grow b5);clear BO b5 HRA HBW HR0)
        |(go_at_call 20;have mk:=mk1;clear mk;refine (HCB.out _ _ HP7.out.bel HRB7.out).mono ?_;rintro e w8 ⟨v8,ns2,rfl,t8,s8,b8⟩;have HT8:=hidden t8;have HS8:=hidden s8;have HP8:=hidden (HP7.out.grow b8);have HR8:=hidden (HR7.out.grow b8);have HN8:Hid (∀x∈ns1,Rw w0 w8 x.v x.V x.es):=fun x hx=>(HN7.out x hx).grow b8;obtain ⟨a8,c8,e8⟩:=lst_slice t8.own;subst e8;have HLL2:=hidden (HL2.out ns2 HEL.out.2 s8);have mk2:Hid True:=trivial;clear t8 s8 b8 HCB HP7 HR7 HN7 HRB7 HL2)
        |(go_at_call 20;refine (HCA.out _ _ HO.out.bel HO1.out.1).mono ?_;rintro e w6 ⟨v6,ns1,rfl,t6,s6,b6⟩;have HT6:=hidden t6;have HS6:=hidden s6;have HP6:=hidden (HO.out.grow b6);have HR6:=hidden (HR5.out.grow b6);have HRB6:=hidden (HO1.out.2.grow b6);obtain ⟨a6,c6,e6⟩:=lst_slice t6.own;subst e6;have HLL1:=hidden (HL1.out ns1 HEL.out.1 s6);clear t6 s6 b6 HCA HO HR5 HO1 HL1)
        |(have mk:=mk2;clear mk;refine wpList_appNs _ rfl _ _ rfl _ _ _ ns2.length _ (flatE encN ns2) rfl rfl HP8.out.own HT8.out.own (flatE_one ns2 (HT8.out.one (grow_trans HB0.out HP8.out.bel))) (by have h1:=HLL1.out;have h2:=HLL2.out;omega) ?_;intro v9 w9 k1 k2 k3;have HE9:=hidden (HF.out w9 v9 ns1 ns2 k1 (HR8.out.turn HP8.out.own k2) (fun x hx=>(HN8.out x hx).turn HP8.out.own k2) (fun x hx=>(HT8.out.ok x hx).turn HP8.out.own k2) HS6.out HS8.out (HP8.out.app k1 k2 k3).bel);obtain ⟨a9,c9,e9⟩:=lst_slice k1;subst e9;clear k1 k2 k3)
        |(refine wpList_appNs _ rfl _ _ rfl _ _ _ ns1.length _ (flatE encN ns1) rfl rfl HP6.out.own HT6.out.own (flatE_one ns1 (HT6.out.one (grow_trans HB0.out HP6.out.bel))) (by have h1:=HLL1.out;omega) ?_;intro v7 w7 k1 k2 k3;have HP7:=hidden (HP6.out.app k1 k2 k3);have HR7:=hidden (HR6.out.turn HP6.out.own k2);have HRB7:=hidden (HRB6.out.turn HP6.out.own k2);have HN7:Hid (∀x∈ns1,Rw w0 w7 x.v x.V x.es):=fun x hx=>(HT6.out.ok x hx).turn HP6.out.own k2;obtain ⟨a7,c7,e7⟩:=lst_slice k1;subst e7;have mk1:Hid True:=trivial;clear k1 k2 k3 HP6 HR6 HRB6 HT6))
      exact HE9.out

theorem tree11_any {w0:World}:∀(n d:Nat),d+n=256→∀(w:World) (v:Value) (V:Nat→Value) (es:List Ent),Kb w0 w→Rw w0 w v V es→es.length≤100→TPre d es→Kc 20 #[v,.int .i64 (d:Int)] w (TrPost w0 w n d es)
  | 0,d,hd,w,v,V,es,hb,r,hn,p=>tree11_few hb r (by
    obtain rfl:d=256:=by omega
    exact p.few)
  | n+1,d,hd,w,v,V,es,hb,r,hn,p=>by
    by_cases h:es.length≤1
    · exact tree11_few hb r h
    · exact tree11_more hd hb r (by omega) hn p (fun w' v' V' es' b' r' n' p'=>tree11_any n (d+1) (by omega) w' v' V' es' b' r' n' p')

end Go.Proofs.YtabiglnmfdpcfaaGreatDoor

namespace Go.Proofs.YtabiglnmfdpcfaaGreatDoor
variable {T:Tre}
variable {cs cs':Lz}
variable {d g n n' x:Nat}
variable {es:List Ent}
variable {v v':Value}
variable {w w' w0 wr:World}
variable {xs xs':List Value}
set_option maxHeartbeats 8000000
set_option maxRecDepth 20000
open Go.RowKit

set_option maxRecDepth 100000 in
theorem same11_any (x y:Nr) (w:World) (hx:PrAt w x.v x.V x.es) (hy:PrAt w y.v y.V y.es) (hn:x.es.length≤65536):Kc 54 #[.agg (encN x).toArray,.agg (encN y).toArray] w fun e w'=>e=.returned (.bool (decide (x.d=y.d∧x.es=y.es)))∧Kb w w':=by
  obtain ⟨dx,vx,Vx,es⟩:=x;obtain ⟨dy,vy,Vy,fs⟩:=y;simp only at hx hy hn ⊢;obtain ⟨aA,ca,rfl,_,hA,hkA⟩:=hx;obtain ⟨aB,cb,rfl,_,hB,hkB⟩:=hy;obtain ⟨P,hP⟩:∃P,P=decide (dx=dy∧es=fs):=⟨_,rfl⟩;rw [← hP];have e0:(encN ⟨dx,.slice aA es.length ca,Vx,es⟩).toArray= #[.int .i64 dx,.slice aA es.length ca]:=rfl;have e1:(encN ⟨dy,.slice aB fs.length cb,Vy,fs⟩).toArray= #[.int .i64 dy,.slice aB fs.length cb]:=rfl;rw [e0,e1];clear e0 e1;have HA:=hidden hA;have HB:=hidden hB;have HKA:=hidden hkA;have HKB:=hidden hkB;obtain ⟨n,hn0⟩:∃n,n=es.length:=⟨_,rfl⟩;obtain ⟨m,hm0⟩:∃m,m=fs.length:=⟨_,rfl⟩
  by_cases hsame:dx=dy∧n=m
  · obtain ⟨hd,hnm⟩:=hsame
    subst hd;have HN:Hid (n=es.length∧n=fs.length∧n≤65536):=⟨hn0,by rw [hnm];exact hm0,by rw [hn0];exact hn⟩;have HP:Hid (P=decide (es=fs)):=by show _=_;rw [hP];simp
    rw [← hn0,← hm0,← hnm];rw [← hn0] at HA;rw [← hm0,← hnm] at HB;clear hA hB hkA hkB hn hn0 hm0 hnm hP;have y1:(dx == dx)=true:=by simp
    go_enter Tryz.func54,Tryz.ntmps54
    go_wp2_with (first
      |((with_reducible refine at_bxd 2 ?_);refine wpList_bx _ rfl _ _ rfl _ rfl ?_;intro w1 bx hgx hlx BX qx;have HBX:=hidden BX;have HQX:=hidden qx;clear BX qx hlx hgx)
      |((with_reducible refine at_bxd 3 ?_);refine wpList_bx _ rfl _ _ rfl _ rfl ?_;intro w2 bby hgy hly BY qy;have HB0:Hid (Kb w w2):=grow_trans HQX.out qy;have HCX:Hid (∀w',Kb w2 w'→w'.cell? ⟨bx,0,none⟩=some (.int .i64 dx)∧w'.cell? ⟨bx,1,none⟩=some (.slice aA n ca)):=fun w' hb=>⟨(((HBX.out.grow qy).grow hb).cell 0).trans rfl,(((HBX.out.grow qy).grow hb).cell 1).trans rfl⟩;have HCY:Hid (∀w',Kb w2 w'→w'.cell? ⟨bby,0,none⟩=some (.int .i64 dx)∧w'.cell? ⟨bby,1,none⟩=some (.slice aB n cb)):=fun w' hb=>⟨((BY.grow hb).cell 0).trans rfl,((BY.grow hb).cell 1).trans rfl⟩;obtain ⟨cx0,cx1⟩:=HCX.out _ (Below.refl _ _);obtain ⟨cy0,cy1⟩:=HCY.out _ (Below.refl _ _);clear BY qy hly hgy HBX HQX))
    clear cx0 cx1 cy0 cy1
    go_loopw [5] (fun iv wr=>∃i:Nat,iv=.int .i64 (i:Int)∧i≤n∧Hid (es.take i=fs.take i)∧Hid (Kb w2 wr)) (fun iv _=>n-(intOf iv).toNat)
    case atStart=>exact ⟨0,rfl,by omega,rfl,Below.refl _ _⟩
    case round=>
      obtain ⟨i,rfl,hin,heq,hb⟩:=hrel;obtain ⟨cx0,cx1⟩:=HCX.out _ hb.out;obtain ⟨cy0,cy1⟩:=HCY.out _ hb.out
      by_cases hlt:i<n
      · have z1:(i:Int)<(n:Int):=by omega
        have z0:(0:Int)≤(i:Int):=by omega
        have hil:i<es.length:=by have:=HN.out.1;omega
        have hjl:i<fs.length:=by have:=HN.out.2.1;omega
        obtain ⟨ga,oa,rfl,hra⟩:=HA.out (by omega);obtain ⟨gb,ob,rfl,hrb⟩:=HB.out (by omega);obtain ⟨hkey,hrx⟩:=HKA.out i hil;obtain ⟨hkeyL,hry⟩:=HKB.out i hjl;obtain ⟨xa,xc,hxv⟩:∃xa xc,Vx i=.slice xa (es.getD i e00).2.length xc:=by obtain ⟨a,c,e,_⟩:=hrx;exact ⟨a,c,e⟩
        obtain ⟨ya,yc,hyv⟩:∃ya yc,Vy i=.slice ya (fs.getD i e00).2.length yc:=by obtain ⟨a,c,e,_⟩:=hry;exact ⟨a,c,e⟩
        have hsb:=str_beq (es.getD i e00).2 (fs.getD i e00).2 (by obtain ⟨_,_,_,_,_,h,_⟩:=hrx;exact h) (by obtain ⟨_,_,_,_,_,h,_⟩:=hry;exact h);have HSTEP:Hid ((es.getD i e00).1=(fs.getD i e00).1→(es.getD i e00).2=(fs.getD i e00).2→es.take (i+1)=fs.take (i+1)):=fun h1 h2=>by
          rw [List.take_add_one,List.take_add_one,heq.out];congr 1
          have e1:es.getD i e00=fs.getD i e00:=Prod.ext h1 h2;simp only [List.getD,List.getElem?_eq_getElem hil,List.getElem?_eq_getElem hjl,Option.getD_some] at e1;rw [List.getElem?_eq_getElem hil,List.getElem?_eq_getElem hjl,e1]
        have HOFF:Hid (¬((es.getD i e00).1=(fs.getD i e00).1∧(es.getD i e00).2=(fs.getD i e00).2)→P=false):=fun h1=>by
          rw [HP.out];simp only [decide_eq_false_iff_not];intro e;exact h1 (by rw [e];exact ⟨rfl,rfl⟩)
        have cvx:∀w',Kb w w'→(convert 35 9 (Vx i)).run Tryz.prog w'=.ok (.string (strOfNums (es.getD i e00).2)) w':=fun w' hb=>conv_reads (hrx.grow hb)
        have cvy:∀w',Kb w w'→(convert 35 9 (Vy i)).run Tryz.prog w'=.ok (.string (strOfNums (fs.getD i e00).2)) w':=fun w' hb=>conv_reads (hry.grow hb)
        rw [hxv] at cvx;rw [hyv] at cvy;have hrA:∀w',Kb w w'→w'.rangeAt ga (oa+i * 33) (encP (es.getD i e00).1 (Vx i)):=fun w' hb=>rng_grow (hra i hlt) hb
        have hrB:∀w',Kb w w'→w'.rangeAt gb (ob+i * 33) (encP (fs.getD i e00).1 (Vy i)):=fun w' hb=>rng_grow (hrb i hlt) hb
        rw [hxv] at hrA;rw [hyv] at hrB;have hpe:=path_eq (es.getD i e00).1 (fs.getD i e00).1 hkey.1 hkeyL.1;have HKL:Hid ((es.getD i e00).1.length=32):=hkey.1;have HLN:Hid ((fs.getD i e00).1.length=32):=hkeyL.1;obtain ⟨xl,hxl⟩:∃xl,xl=(es.getD i e00).2.length:=⟨_,rfl⟩;obtain ⟨yl,hyl⟩:∃yl,yl=(fs.getD i e00).2.length:=⟨_,rfl⟩;rw [← hxl] at cvx hrA;rw [← hyl] at cvy hrB;clear hra hrb hkey hkeyL hrx hry hxv hyv hxl hyl HA HB HKA HKB hil hjl HP;generalize (es.getD i e00).1=K at hrA hpe HKL HSTEP HOFF;generalize (fs.getD i e00).1=L at hrB hpe HLN HSTEP HOFF;generalize hbx:(es.getD i e00).2=ex at hsb cvx HSTEP HOFF;generalize hby:(fs.getD i e00).2=ey at hsb cvy HSTEP HOFF;generalize strOfNums ex=SX at hsb cvx;generalize strOfNums ey=SY at hsb cvy;clear hbx hby;have HLK:Hid ((Tryz.prog.info? 34).map (·.size)=some (B K).toList.length):=by show _=_;rw [B_toList,List.length_map,HKL.out];exact size_path
        have HLL:Hid ((Tryz.prog.info? 34).map (·.size)=some (B L).toList.length):=by show _=_;rw [B_toList,List.length_map,HLN.out];exact size_path
        obtain ⟨ss,hss⟩:∃ss,ss=decide (ex=ey):=⟨_,rfl⟩;rw [← hss] at hsb;have HSS:=hidden hss;have HSB:=hidden hsb;have HS:Hid (∀w',Kb w2 w'→w'.cell? ⟨bx,1,none⟩=some (.slice (some ⟨ga,oa,none⟩) n ca)∧w'.cell? ⟨bby,1,none⟩=some (.slice (some ⟨gb,ob,none⟩) n cb)∧w'.rangeAt ga (oa+i * 33) (encP K (.slice xa xl xc))∧w'.rangeAt gb (ob+i * 33) (encP L (.slice ya yl yc))∧(convert 35 9 (.slice xa xl xc)).run Tryz.prog w'=.ok (.string SX) w'∧(convert 35 9 (.slice ya yl yc)).run Tryz.prog w'=.ok (.string SY) w'):=fun w' hb=>⟨(HCX.out _ hb).2,(HCY.out _ hb).2,hrA _ (grow_trans HB0.out hb),hrB _ (grow_trans HB0.out hb),cvx _ (grow_trans HB0.out hb),cvy _ (grow_trans HB0.out hb)⟩
        obtain ⟨j,hj⟩:∃j,j=i+1:=⟨_,rfl⟩;have HJ:=hidden hj;have hwi:wrap64 ((i:Int)+1)=(j:Int):=by rw [Go.IntWalk.wrap64_in _ (by have:=HN.out.2.2;omega),hj];rfl
        have d0:Kb w2 wr.drew:=grow_trans hb.out (Below.refl _ _).drew;have HD:=hidden (And.intro d0 (grow_trans HB0.out d0));clear hsb cvx cvy hrA hrB hss hj
        by_cases hKL:K=L
        · as_aux_lemma=>
            have EQ:∀w,(Op.equalIn 10000 34 (.agg (B K)) (.agg (B L))).run Tryz.prog w=.ok true w:=fun w=>by rw [hpe w,decide_eq_true hKL]
            have HKL2:=hidden hKL;clear hKL hpe
            go_wp2_with fail
            refine wp_region_held_drew (S:=fun w'=>w'.cell? ⟨bx,1,none⟩=some (.slice (some ⟨ga,oa,none⟩) n ca)∧w'.cell? ⟨bby,1,none⟩=some (.slice (some ⟨gb,ob,none⟩) n cb)∧w'.rangeAt ga (oa+i * 33) (encP K (.slice xa xl xc))∧w'.rangeAt gb (ob+i * 33) (encP L (.slice ya yl yc))∧(convert 35 9 (.slice xa xl xc)).run Tryz.prog w'=.ok (.string SX) w'∧(convert 35 9 (.slice ya yl yc)).run Tryz.prog w'=.ok (.string SY) w') (by kernel_rfl) (HS.out _ d0) (fun hHeld=>?_);refine tkp 0 (.pointer (some ⟨bx,1,none⟩)) hHeld ?_;simp only [Act.put,zq1,zq2,zq4,zq5,zq6];refine tkg 1 (.slice (some ⟨ga,oa,none⟩) n ca) rfl (Or.inl ⟨by rfl,fun w hS=>by (have q1:=hS.1;go_simp)⟩) hHeld ?_;simp only [Act.put,zq1,zq2,zq3,zq4,zq5,zq6];refine tkp 2 (.int .i64 (i:Int)) hHeld ?_;simp only [Act.put,zq1,zq2,zq3,zq4,zq5,zq6];refine tkp 3 (.pointer (some ⟨ga,oa+i * 33,none⟩)) hHeld ?_;simp only [Act.put,zq1,zq2,zq3,zq4,zq5,zq6];refine tkp 4 (.pointer (some ⟨ga,oa+i * 33,none⟩)) hHeld ?_;simp only [Act.put,zq1,zq2,zq3,zq4,zq5,zq6];refine tkg 5 (.agg (B K)) rfl (yieldsIf_load_mid rfl 34 (.tmp 31) rfl ga (oa+i * 33) rfl (B K).toList _ (fun w hS=>rng_key hS.2.2.1) Tryz.underlying34 rfl HLK.out) hHeld ?_;simp only [Act.put,zq1,zq2,zq3,zq4,zq5,zq6];refine tkp 6 (.pointer (some ⟨bby,1,none⟩)) hHeld ?_;simp only [Act.put,zq1,zq2,zq3,zq4,zq5,zq6];refine tkg 7 (.slice (some ⟨gb,ob,none⟩) n cb) rfl (Or.inl ⟨by rfl,fun w hS=>by (have q1:=hS.2.1;go_simp)⟩) hHeld ?_;simp only [Act.put,zq1,zq2,zq3,zq4,zq5,zq6];refine tkp 8 (.int .i64 (i:Int)) hHeld ?_;simp only [Act.put,zq1,zq2,zq3,zq4,zq5,zq6];refine tkp 9 (.pointer (some ⟨gb,ob+i * 33,none⟩)) hHeld ?_;simp only [Act.put,zq1,zq2,zq3,zq4,zq5,zq6];refine tkp 10 (.pointer (some ⟨gb,ob+i * 33,none⟩)) hHeld ?_;simp only [Act.put,zq1,zq2,zq3,zq4,zq5,zq6];refine tkg 11 (.agg (B L)) rfl (yieldsIf_load_mid rfl 34 (.tmp 37) rfl gb (ob+i * 33) rfl (B L).toList _ (fun w hS=>rng_key hS.2.2.2.1) Tryz.underlying34 rfl HLL.out) hHeld ?_;simp only [Act.put,zq1,zq2,zq3,zq4,zq5,zq6];refine tkp 12 (.bool false) hHeld ?_;simp only [Act.put,zq1,zq2,zq3,zq4,zq5,zq6];refine tkp 13 (.bool false) hHeld ?_;simp only [Act.put,zq1,zq2,zq3,zq4,zq5,zq6];refine tkp 14 (.pointer (some ⟨bx,1,none⟩)) hHeld ?_;simp only [Act.put,zq1,zq2,zq3,zq4,zq5,zq6];refine tkg 15 (.slice (some ⟨ga,oa,none⟩) n ca) rfl (Or.inl ⟨by rfl,fun w hS=>by (have q1:=hS.1;go_simp)⟩) hHeld ?_;simp only [Act.put,zq1,zq2,zq3,zq4,zq5,zq6];refine tkp 16 (.int .i64 (i:Int)) hHeld ?_;simp only [Act.put,zq1,zq2,zq3,zq4,zq5,zq6];refine tkp 17 (.pointer (some ⟨ga,oa+i * 33,none⟩)) hHeld ?_;simp only [Act.put,zq1,zq2,zq3,zq4,zq5,zq6];refine tkp 18 (.pointer (some ⟨ga,oa+i * 33+32,none⟩)) hHeld ?_;simp only [Act.put,zq1,zq2,zq3,zq4,zq5,zq6];refine tkg 19 (.slice xa xl xc) rfl (Or.inl ⟨by rfl,fun w hS=>by (have q1:=rng_val hS.2.2.1 HKL.out;go_simp)⟩) hHeld ?_;simp only [Act.put,zq1,zq2,zq3,zq4,zq5,zq6];refine tkg 20 (.string SX) rfl (Or.inl ⟨by rfl,fun w hS=>by (have q1:=hS.2.2.2.2.1;go_simp)⟩) hHeld ?_;simp only [Act.put,zq1,zq2,zq3,zq4,zq5,zq6];refine tkp 21 (.pointer (some ⟨bby,1,none⟩)) hHeld ?_;simp only [Act.put,zq1,zq2,zq3,zq4,zq5,zq6];refine tkg 22 (.slice (some ⟨gb,ob,none⟩) n cb) rfl (Or.inl ⟨by rfl,fun w hS=>by (have q1:=hS.2.1;go_simp)⟩) hHeld ?_;simp only [Act.put,zq1,zq2,zq3,zq4,zq5,zq6];refine tkp 23 (.int .i64 (i:Int)) hHeld ?_;simp only [Act.put,zq1,zq2,zq3,zq4,zq5,zq6];refine tkp 24 (.pointer (some ⟨gb,ob+i * 33,none⟩)) hHeld ?_;simp only [Act.put,zq1,zq2,zq3,zq4,zq5,zq6];refine tkp 25 (.pointer (some ⟨gb,ob+i * 33+32,none⟩)) hHeld ?_;simp only [Act.put,zq1,zq2,zq3,zq4,zq5,zq6];refine tkg 26 (.slice ya yl yc) rfl (Or.inl ⟨by rfl,fun w hS=>by (have q1:=rng_val hS.2.2.2.1 HLN.out;go_simp)⟩) hHeld ?_;simp only [Act.put,zq1,zq2,zq3,zq4,zq5,zq6];refine tkg 27 (.string SY) rfl (Or.inl ⟨by rfl,fun w hS=>by (have q1:=hS.2.2.2.2.2;go_simp)⟩) hHeld ?_;simp only [Act.put,zq1,zq2,zq3,zq4,zq5,zq6];refine tkg 28 (.bool (!ss)) rfl (Or.inl ⟨by rfl,fun w hS=>by (have q1:=HSB.out;go_simp)⟩) hHeld ?_;simp only [Act.put,zq1,zq2,zq3,zq4,zq5,zq6];refine tkp 29 (.bool (!ss)) hHeld ?_;simp only [Act.put,zq1,zq2,zq3,zq4,zq5,zq6];refine wpAnyH_done (by kernel_rfl) ?_ _;clear hHeld d0 EQ;cases hsv:ss with
            | true=>
              have HNX:=hidden (HSTEP.out HKL2.out (by have:=HSS.out;rw [hsv] at this;exact of_decide_eq_true this.symm));clear HS HSB HSTEP HOFF HSS hsv
              go_wp2_with fail
              rw [hwi];clear hwi;exact ⟨⟨j,rfl,by have:=HJ.out;omega,by show _=_;rw [HJ.out];exact HNX.out,HD.out.1⟩,by have:=HJ.out;simp [intOf];omega⟩
            | false=>
              have hpf:=HOFF.out (fun q=>by have:=HSS.out;rw [hsv] at this;exact of_decide_eq_false this.symm q.2);clear HS HSB HSTEP HOFF HSS hsv hwi
              go_wp2_with fail
              go_ret;exact ⟨by first | (rw [hpf];rfl) | rfl,HD.out.2⟩
        · as_aux_lemma=>
            have EQ:∀w,(Op.equalIn 10000 34 (.agg (B K)) (.agg (B L))).run Tryz.prog w=.ok false w:=fun w=>by rw [hpe w,decide_eq_false hKL]
            have hpf:=HOFF.out (fun q=>hKL q.1);clear hKL hpe hwi
            go_wp2_with fail
            refine wp_region_held_drew (S:=fun w'=>w'.cell? ⟨bx,1,none⟩=some (.slice (some ⟨ga,oa,none⟩) n ca)∧w'.cell? ⟨bby,1,none⟩=some (.slice (some ⟨gb,ob,none⟩) n cb)∧w'.rangeAt ga (oa+i * 33) (encP K (.slice xa xl xc))∧w'.rangeAt gb (ob+i * 33) (encP L (.slice ya yl yc))∧(convert 35 9 (.slice xa xl xc)).run Tryz.prog w'=.ok (.string SX) w'∧(convert 35 9 (.slice ya yl yc)).run Tryz.prog w'=.ok (.string SY) w') (by kernel_rfl) (HS.out _ d0) (fun hHeld=>?_);refine tkp 0 (.pointer (some ⟨bx,1,none⟩)) hHeld ?_;simp only [Act.put,zq1,zq2,zq4,zq5,zq6];refine tkg 1 (.slice (some ⟨ga,oa,none⟩) n ca) rfl (Or.inl ⟨by rfl,fun w hS=>by (have q1:=hS.1;go_simp)⟩) hHeld ?_;simp only [Act.put,zq1,zq2,zq3,zq4,zq5,zq6];refine tkp 2 (.int .i64 (i:Int)) hHeld ?_;simp only [Act.put,zq1,zq2,zq3,zq4,zq5,zq6];refine tkp 3 (.pointer (some ⟨ga,oa+i * 33,none⟩)) hHeld ?_;simp only [Act.put,zq1,zq2,zq3,zq4,zq5,zq6];refine tkp 4 (.pointer (some ⟨ga,oa+i * 33,none⟩)) hHeld ?_;simp only [Act.put,zq1,zq2,zq3,zq4,zq5,zq6];refine tkg 5 (.agg (B K)) rfl (yieldsIf_load_mid rfl 34 (.tmp 31) rfl ga (oa+i * 33) rfl (B K).toList _ (fun w hS=>rng_key hS.2.2.1) Tryz.underlying34 rfl HLK.out) hHeld ?_;simp only [Act.put,zq1,zq2,zq3,zq4,zq5,zq6];refine tkp 6 (.pointer (some ⟨bby,1,none⟩)) hHeld ?_;simp only [Act.put,zq1,zq2,zq3,zq4,zq5,zq6];refine tkg 7 (.slice (some ⟨gb,ob,none⟩) n cb) rfl (Or.inl ⟨by rfl,fun w hS=>by (have q1:=hS.2.1;go_simp)⟩) hHeld ?_;simp only [Act.put,zq1,zq2,zq3,zq4,zq5,zq6];refine tkp 8 (.int .i64 (i:Int)) hHeld ?_;simp only [Act.put,zq1,zq2,zq3,zq4,zq5,zq6];refine tkp 9 (.pointer (some ⟨gb,ob+i * 33,none⟩)) hHeld ?_;simp only [Act.put,zq1,zq2,zq3,zq4,zq5,zq6];refine tkp 10 (.pointer (some ⟨gb,ob+i * 33,none⟩)) hHeld ?_;simp only [Act.put,zq1,zq2,zq3,zq4,zq5,zq6];refine tkg 11 (.agg (B L)) rfl (yieldsIf_load_mid rfl 34 (.tmp 37) rfl gb (ob+i * 33) rfl (B L).toList _ (fun w hS=>rng_key hS.2.2.2.1) Tryz.underlying34 rfl HLL.out) hHeld ?_;simp only [Act.put,zq1,zq2,zq3,zq4,zq5,zq6];refine tkp 12 (.bool true) hHeld ?_;simp only [Act.put,zq1,zq2,zq3,zq4,zq5,zq6];refine tkp 13 (.bool true) hHeld ?_;simp only [Act.put,zq1,zq2,zq3,zq4,zq5,zq6];refine tks 14 hHeld ?_;simp only [Act.put,zq1,zq2,zq3,zq4,zq5,zq6];refine tks 15 hHeld ?_;simp only [Act.put,zq1,zq2,zq3,zq4,zq5,zq6];refine tks 16 hHeld ?_;simp only [Act.put,zq1,zq2,zq3,zq4,zq5,zq6];refine tks 17 hHeld ?_;simp only [Act.put,zq1,zq2,zq3,zq4,zq5,zq6];refine tks 18 hHeld ?_;simp only [Act.put,zq1,zq2,zq3,zq4,zq5,zq6];refine tks 19 hHeld ?_;simp only [Act.put,zq1,zq2,zq3,zq4,zq5,zq6];refine tks 20 hHeld ?_;simp only [Act.put,zq1,zq2,zq3,zq4,zq5,zq6];refine tks 21 hHeld ?_;simp only [Act.put,zq1,zq2,zq3,zq4,zq5,zq6];refine tks 22 hHeld ?_;simp only [Act.put,zq1,zq2,zq3,zq4,zq5,zq6];refine tks 23 hHeld ?_;simp only [Act.put,zq1,zq2,zq3,zq4,zq5,zq6];refine tks 24 hHeld ?_;simp only [Act.put,zq1,zq2,zq3,zq4,zq5,zq6];refine tks 25 hHeld ?_;simp only [Act.put,zq1,zq2,zq3,zq4,zq5,zq6];refine tks 26 hHeld ?_;simp only [Act.put,zq1,zq2,zq3,zq4,zq5,zq6];refine tks 27 hHeld ?_;simp only [Act.put,zq1,zq2,zq3,zq4,zq5,zq6];refine tks 28 hHeld ?_;simp only [Act.put,zq1,zq2,zq3,zq4,zq5,zq6];refine tkp 29 (.bool true) hHeld ?_;simp only [Act.put,zq1,zq2,zq3,zq4,zq5,zq6];refine wpAnyH_done (by kernel_rfl) ?_ _;clear hHeld d0 EQ HS HSB HSTEP HOFF HSS
            go_wp2_with fail
            go_ret;exact ⟨by first | (rw [hpf];rfl) | rfl,HD.out.2⟩
      · have z1: ¬(i:Int)<(n:Int):=by omega
        have hpt:P=true:=by
          rw [HP.out];have h1:=heq.out;rw [List.take_of_length_le (by have:=HN.out.1;omega),List.take_of_length_le (by have:=HN.out.2.1;omega)] at h1;exact decide_eq_true h1
        have HD:=hidden (grow_trans HB0.out hb.out);clear HP heq
        go_wp2_with fail
        go_ret;exact ⟨by first | (rw [hpt];rfl) | rfl,HD.out⟩
  · have hpf:P=false:=by
      rw [hP];simp only [decide_eq_false_iff_not];rintro ⟨h1,h2⟩;exact hsame ⟨h1,by rw [hn0,hm0,h2]⟩
    rw [← hn0,← hm0];have hc: ¬(dx=dy)∨(dx=dy∧ ¬(n:Int)=(m:Int)):=by
      by_cases q:dx=dy
      · exact .inr ⟨q,fun h=>hsame ⟨q,by omega⟩⟩
      · exact .inl q
    clear hA hB hkA hkB hn hn0 hm0 hP HA HB HKA HKB hsame;rcases hc with hc | ⟨rfl,hc⟩
    · have y1:(dx == dy)=false:=by simpa using hc
      have y2:(dx != dy)=true:=by rw [bne,y1];rfl
      go_enter Tryz.func54,Tryz.ntmps54
      go_wp2_with (first
        |((with_reducible refine at_bxd 2 ?_);refine wpList_bx _ rfl _ _ rfl _ rfl ?_;intro w1 bx hgx hlx BX qx;have HBX:=hidden BX;have HQX:=hidden qx;clear BX qx hlx hgx)
        |((with_reducible refine at_bxd 3 ?_);refine wpList_bx _ rfl _ _ rfl _ rfl ?_;intro w2 bby hgy hly BY qy;have HB0:Hid (Kb w w2):=grow_trans HQX.out qy;have cx0:=((HBX.out.grow qy).cell 0).trans rfl;have cx1:=((HBX.out.grow qy).cell 1).trans rfl;have cy0:=(BY.cell 0).trans rfl;have cy1:=(BY.cell 1).trans rfl;clear BY qy hly hgy HBX HQX))
      go_ret;exact ⟨by first | (rw [hpf];rfl) | rfl,HB0.out⟩
    · have y1:(dx == dx)=true:=by simp
      have y3:((n:Int) == (m:Int))=false:=by simpa using hc
      go_enter Tryz.func54,Tryz.ntmps54
      go_wp2_with (first
        |((with_reducible refine at_bxd 2 ?_);refine wpList_bx _ rfl _ _ rfl _ rfl ?_;intro w1 bx hgx hlx BX qx;have HBX:=hidden BX;have HQX:=hidden qx;clear BX qx hlx hgx)
        |((with_reducible refine at_bxd 3 ?_);refine wpList_bx _ rfl _ _ rfl _ rfl ?_;intro w2 bby hgy hly BY qy;have HB0:Hid (Kb w w2):=grow_trans HQX.out qy;have cx0:=((HBX.out.grow qy).cell 0).trans rfl;have cx1:=((HBX.out.grow qy).cell 1).trans rfl;have cy0:=(BY.cell 0).trans rfl;have cy1:=(BY.cell 1).trans rfl;clear BY qy hly hgy HBX HQX))
      go_ret;exact ⟨by first | (rw [hpf];rfl) | rfl,HB0.out⟩

end Go.Proofs.YtabiglnmfdpcfaaGreatDoor
