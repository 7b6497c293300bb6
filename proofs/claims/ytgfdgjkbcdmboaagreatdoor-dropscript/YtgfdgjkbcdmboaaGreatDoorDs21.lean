/- The document's Bit, Set, Common, Compare (rootcellarref04), as contracts. -/
import Derived.Test.YtgfdgjkbcdmboaaGreatDoorDs20
namespace Go.Proofs.YtgfdgjkbcdmboaaGreatDoor
variable {S fr:List Nat}
variable {b base c g k n room:Nat}
variable {v vf vp:Value}
variable {w w' w0:World}
variable {xs:List Value}
set_option maxHeartbeats 8000000
set_option maxRecDepth 20000
open Go.RowKit
theorem Zyk (x:Int) (k:Nat):x / 2 ^ k / 2=x / 2 ^ (k+1):=by
 rw [Int.pow_succ,Int.ediv_ediv_of_nonneg (Int.pow_nonneg (by omega))]
theorem Zft (xs:Lq) (d:Nat) (w:World) (hx:Key xs) (hd:d<256):Kc 106 #[.agg (B xs),.int .i64 d] w fun e w'=>e=.returned (.int .i64 (kb xs d))∧Kb w w':=by
 have HX:=Za hx;have h2:((d / 8:Nat):Int)<32:=by omega
 have hb:=hx.byte (d / 8);have t0:decide ((d:Int)<0)=false:=decide_eq_false (by omega);have t1:decide ((256:Int)≤(d:Int))=false:=decide_eq_false (by omega);obtain ⟨x,hxx⟩:∃x,x=xs.getD (d / 8) 0:=⟨_,rfl⟩;have HK:Hid (kb xs d=x / 2 ^ (7-d % 8) % 2):=by rw [hxx];rfl
 rw [← hxx] at hb;have hwx:wrap64 x=x:=Go.IntWalk.wrap64_in _ (by omega);have HXX:=Za hxx;clear hx hxx;go_enter Tryz.func106,Tryz.ntmps106
 go_wp2_with (refine Zc _ rfl _ _ rfl _ rfl ?_;intro w1 g1 hg1 hl1 B1 b1;have c1:=B1.bcell (d / 8) (by rw [HX.out.1];omega);rw [← HXX.out] at c1)
 clear c1 B1;have hm:d % 8<8:=Nat.mod_lt _ (by omega)
 go_loopw [5,6] (fun s i wr=>∃(k:Nat) (v:Int),k≤7-d % 8∧s=.int .i64 v∧i=.int .i64 k∧Hid (v=x / 2 ^ k)∧0≤v∧v≤255∧wr=w1) (fun _ i _=>8-(intOf i).toNat)
 case atStart=>exact ⟨0,x,by omega,rfl,rfl,by show _=_;simp,hb.1,hb.2,rfl⟩
 case round=>
  obtain ⟨k,v,hk,rfl,rfl,hv,hv0,hv1,hwr⟩:=hrel;subst hwr
  by_cases hlt:k<7-d % 8
  ·have hlt':(k:Int)<7-(d:Int) % 8:=by omega
   go_wp2
   exact ⟨⟨k+1,v / 2,by omega,by go_num,by go_num,by show _=_;rw [hv.out,Zyk],by omega,by omega,trivial⟩,by simp [intOf];omega⟩
  ·have hlt':decide ((k:Int)<7-(d:Int) % 8)=false:=decide_eq_false (by omega);obtain rfl:k=7-d % 8:=by omega
   go_wp2
   go_ret;exact ⟨by rw [HK.out,← hv.out];rfl,b1⟩
theorem Ybs (xs:Lq) (d:Int) (w:World) (hd: ¬(0≤d∧d<256)):Kc 106 #[.agg (B xs),.int .i64 d] w fun e w'=>e=.returned (.int .i64 (-1))∧Kb w w':=by
 by_cases h0:d<0
 ·have t0:decide (d<0)=true:=decide_eq_true h0;clear hd h0;go_enter Tryz.func106,Tryz.ntmps106
  go_wp2_with (refine Zc _ rfl _ _ rfl _ rfl ?_;intro w1 g1 hg1 hl1 B1 b1)
  go_ret;exact ⟨rfl,b1⟩
 ·have t0:decide (d<0)=false:=decide_eq_false h0;have t1:decide (256≤d)=true:=decide_eq_true (by omega);clear hd h0;go_enter Tryz.func106,Tryz.ntmps106
  go_wp2_with (refine Zc _ rfl _ _ rfl _ rfl ?_;intro w1 g1 hg1 hl1 B1 b1)
  go_ret;exact ⟨rfl,b1⟩
theorem Zri (xs:Lq) (d:Int) (w:World) (hx:Key xs):Kc 106 #[.agg (B xs),.int .i64 d] w fun e w'=>e=.returned (.int .i64 (kbi xs d))∧Kb w w':=by
 unfold kbi
 by_cases h:0≤d∧d<256
 ·rw [if_pos h];have e:d=((d.toNat:Nat):Int):=by omega
  have:=Zft xs d.toNat w hx (by omega);rw [← e] at this;exact this
 ·rw [if_neg h];exact Ybs xs d w h
theorem Zvv (es:List Ent) (k d:Nat) (b:Int) (hk:k<es.length):sideOf (es.take (k+1)) d b=sideOf (es.take k) d b++(if (kbi (es.getD k e00).1 d == b)=true then [es.getD k e00] else []):=by
 unfold sideOf;rw [List.take_add_one,List.filter_append];congr 1
 simp [List.getD,hk,List.filter_cons]
def SidePost (es:List Ent) (d:Nat) (b:Int) (w:World) (e:Ending) (w':World):Prop:=∃v V,e=.returned v∧PrAt w' v V (sideOf es d b)∧Kb w w'
theorem Zzy (hb:Kb w0 w) (ho:w.ownsRow base 152 33 v n xs) (hbase:w0.heap.size≤base) (hg:w.grownBy w' v.ownBlock):Kb w0 w':=
 hb.trans ⟨hg.os,hg.tape,hg.output,hg.size,fun k hk=>hg.block k (Nat.lt_of_lt_of_le hk hb.size) (fun e=>by have:=(ho.lt k e.symm).1;omega)⟩
set_option maxRecDepth 100000 in
theorem Zpq (v:Value) (V:Nat→Value) (es:List Ent) (d:Nat) (b:Int) (w:World) (hv:PrAt w v V es) (hn:es.length≤4096):
  Kc 177 #[v,.int .i64 d,.int .i64 b] w (SidePost es d b w):=by
 have hkeys:=hv.keys;obtain ⟨a,cap,rfl,hcap,hc,hr⟩:=hv;have HC:=Za hc;have HR:=Za hr;obtain ⟨n,hnn⟩:∃n,n=es.length:=⟨_,rfl⟩;have HN:=Za hnn;have HPost:Hid (∀w' s its,its.map (·.1)=sideOf es d b→(∀p∈its,Key p.1.1∧Reads w p.2 p.1.2)→w'.ownsRow w.heap.size 152 33 s its.length (flatP its)→Kb w w'→SidePost es d b w (.returned s) w'):=fun w' s its h1 h2 h3 h4=>⟨s,_,rfl,by
  have:=Zih h3 (fun p hp=>(h2 p hp).1) (fun p hp=>(h2 p hp).2.grow h4);rwa [h1] at this,h4⟩
 rw [← hnn] at hn ⊢;clear hc hr hcap hnn hkeys;go_enter Tryz.func177,Tryz.ntmps177
 go_wp2_with fail
 go_loopw [7,8] (fun s i wr=>∃(k m:Nat) (its:List (Ent×Value)) (sa:Option Addr) (sc:Nat),k≤n∧i=.int .i64 k∧s=.slice sa m sc∧Hid (its.length=m)∧Hid (its.map (·.1)=sideOf (es.take k) d b)∧Hid (∀p∈its,Key p.1.1∧Reads w p.2 p.1.2)∧Hid (wr.ownsRow w.heap.size 152 33 (.slice sa m sc) m (flatP its))∧Kb w wr) (fun _ i _=>n-(intOf i).toNat)
 case atStart=>exact ⟨0,0,[],none,0,by omega,rfl,rfl,rfl,rfl,fun p hp=>by simp at hp,World.ownsRow_nil _ _ _ _,Below.refl _ _⟩
 case round=>
  obtain ⟨k,m,its,sa,sc,hk,rfl,rfl,hml,him,hia,hio,hbw⟩:=hrel
  by_cases hlt:k<n
  ·have hlt':k<es.length:=by rw [← HN.out];exact hlt
   obtain ⟨g,off,rfl,hcc⟩:=HC.out (by omega);have z1:(k:Int)<(n:Int):=by omega
   have z0:(0:Int)≤(k:Int):=by omega
   obtain ⟨hkey,hrd⟩:=HR.out k hlt';have hst:=Zvv es k d b hlt';have hil:m≤4096:=by
    have:=congrArg List.length him.out;rw [List.length_map,hml.out] at this;rw [this];exact Nat.le_trans (List.length_filter_le _ _) (by simp;omega)
   have HCC:Hid (∀w',Kb w w'→w'.rangeAt g (off+k * 33) (encP (es.getD k e00).1 (V k))):=fun w' hw'=>Zdl (hcc k hlt') hw'
   have HBit:Hid (∀w',Kc 106 #[.agg (B (es.getD k e00).1),.int .i64 d] w' fun e w''=>e=.returned (.int .i64 (kbi (es.getD k e00).1 d))∧Below w'.heap.size w' w''):=fun w'=>Zri _ d w' hkey
   have HV1:=Za (Zwy hrd);have HKY:=Za hkey;have HRD:=Za hrd;obtain ⟨E,hE⟩:∃E,E=es.getD k e00:=⟨_,rfl⟩;obtain ⟨β,hβ⟩:∃β,β=kbi E.1 d:=⟨_,rfl⟩;rw [← hE] at hst HCC HBit HKY HRD;rw [← hβ] at hst HBit;clear hcc hkey hrd hlt' hE hβ
   by_cases hbb:β=b
   ·have hb2:(β == b)=true:=by simp [hbb]
    rw [hb2,if_pos rfl] at hst;have HIM:Hid ((its++[(E,V k)]).map (·.1)=sideOf (es.take (k+1)) d b):=by
     show _=_;rw [hst,List.map_append,him.out];rfl
    have HIA:Hid (∀p∈its++[(E,V k)],Key p.1.1∧Reads w p.2 p.1.2):=by
     intro p hp;rcases List.mem_append.1 hp with hp | hp
     ·exact hia.out p hp
     ·obtain rfl:p=(E,V k):=by simpa using hp
      exact ⟨HKY.out,HRD.out⟩
    clear hst hbb
    go_wp2_with (first
     |((with_reducible refine Zk 19 18 ?_);refine Zgy _ rfl _ rfl g (off+k * 33) E.1 rfl (Zix (HCC.out _ hbw)) HKY.out.1 ?_)
     |(go_at_call 106;refine (HBit.out _).mono ?_;rintro e w2 ⟨rfl,q2⟩;have c2:=Zb hbw q2;have HIO:=Za (Zja hio.out q2))
     |((with_reducible refine Zk 28 27 ?_);refine Zsy _ rfl _ rfl g (off+k * 33) E.1 (V k) rfl (HCC.out _ c2) HKY.out.1 ?_)
     |(refine Zkj _ rfl _ rfl E.1 (V k) rfl HKY.out.1 ?_)
     |(at_builtin;refine Zov _ rfl _ _ rfl w.heap.size _ m (flatP its) (HIO.out.alloc _) rfl w2.heap.size E.1 (V k) rfl (Blk.new _ _ _) HKY.out.1 HV1.out hil (Nat.le_trans c2.size (by simp)) ?_;intro v' w3 ho3 hg3))
    have c3:=Zzy (Zb c2 (Zh _ _)) (HIO.out.alloc _) (Nat.le_refl _) hg3;rw [← Zuh its (E,V k)] at ho3;obtain ⟨sa',sc',rfl⟩:∃sa' sc',v'=.slice sa' (m+1) sc':=by
     rcases ho3.2 with ⟨e,e2⟩ | ⟨g',cap',cur,e,_⟩
     ·omega
     ·exact ⟨_,_,e⟩
    exact ⟨⟨k+1,m+1,its++[(E,V k)],sa',sc',by omega,by go_num,rfl,by show _=_;rw [List.length_append,hml.out];rfl,HIM,HIA,ho3,c3⟩,by simp [intOf];omega⟩
   ·have hb2:(β == b)=false:=by simp [hbb]
    rw [hb2,if_neg (by simp),List.append_nil] at hst;have HIM:Hid (its.map (·.1)=sideOf (es.take (k+1)) d b):=by
     show _=_;rw [hst,him.out]
    clear hst hbb
    go_wp2_with (first
     |((with_reducible refine Zk 19 18 ?_);refine Zgy _ rfl _ rfl g (off+k * 33) E.1 rfl (Zix (HCC.out _ hbw)) HKY.out.1 ?_)
     |(go_at_call 106;refine (HBit.out _).mono ?_;rintro e w2 ⟨rfl,q2⟩;have c2:=Zb hbw q2;have HIO:=Za (Zja hio.out q2)))
    exact ⟨⟨k+1,m,its,sa,sc,by omega,by go_num,rfl,hml,HIM,hia,HIO,c2⟩,by simp [intOf];omega⟩
  ·have hkn:k=es.length:=by rw [← HN.out];omega
   have z1: ¬(k:Int)<(n:Int):=by omega
   rw [hkn,List.take_length] at him;clear hkn;go_wp2
   go_ret;exact HPost.out _ _ _ him.out hia.out (by rw [hml.out];exact hio.out) hbw
structure Sp where
 kind:Int
 d:Nat
 key:Lq
 val:Value
 bs:Lq
 l:Nat
 r:Nat
 own:Nat
 sd:Nat
def zs7:Sp:=⟨0,0,z32,.slice none 0 0,[],0,0,0,0⟩
def sz7 (s:Sp):List Value:=.int .u8 s.kind:: .int .i64 (s.d:Int)::(encP s.key s.val++[.int .i64 (s.l:Int),.int .i64 (s.r:Int),.int .i64 (s.own:Int),.int .i64 (s.sd:Int)])
theorem Zv (s:Sp) (h:s.key.length=32):(sz7 s).length=39:=by simp [sz7,Zac _ _ h]
theorem Zbz (s:Sp) (h:s.key.length=32):(sz7 s)[0]?=some (.int .u8 s.kind)∧(sz7 s)[1]?=some (.int .i64 (s.d:Int))∧(sz7 s)[34]?=some s.val∧(sz7 s)[35]?=some (.int .i64 (s.l:Int))∧(sz7 s)[36]?=some (.int .i64 (s.r:Int))∧(sz7 s)[37]?=some (.int .i64 (s.own:Int))∧(sz7 s)[38]?=some (.int .i64 (s.sd:Int)):=by
 have hl:=Zac s.key s.val h;have hk:(s.key.map (Value.int .u8)).length=32:=by simp [h]
 unfold sz7;refine ⟨rfl,rfl,?_,?_,?_,?_,?_⟩
 ·show (encP s.key s.val++_)[32]?=_;rw [List.getElem?_append_left (by omega)];unfold encP;rw [List.getElem?_append_right (by omega),hk];rfl
 ·show (encP s.key s.val++_)[33]?=_;rw [List.getElem?_append_right (by omega),hl];rfl
 ·show (encP s.key s.val++_)[34]?=_;rw [List.getElem?_append_right (by omega),hl];rfl
 ·show (encP s.key s.val++_)[35]?=_;rw [List.getElem?_append_right (by omega),hl];rfl
 ·show (encP s.key s.val++_)[36]?=_;rw [List.getElem?_append_right (by omega),hl];rfl
structure SpOk (s:Sp):Prop where
 hk:Key s.key
 vs:∃a c,s.val=.slice a s.bs.length c
theorem Zhp:SpOk zs7:=⟨Zsv.hk,⟨none,0,rfl⟩⟩
theorem Zci {s:Sp} (h:SpOk s):∀v∈sz7 s,v.oneCell'=true:=fun v hv=>by
 obtain ⟨a,c,e⟩:=h.vs;unfold sz7 encP at hv;rw [e] at hv;simp only [List.mem_cons,List.mem_append,List.mem_map,List.not_mem_nil,or_false] at hv;rcases hv with rfl | rfl | (⟨_,_,rfl⟩ | rfl) | rfl | rfl | rfl | rfl <;> rfl
def spAt (ss:List Sp) (i:Nat):Sp:=ss[i]?.getD zs7
def sat (ss:List Sp) (h:Int):Sp:=if 1≤h then spAt ss (h-1).toNat else zs7
theorem Zsf:∀(ss:List Sp),(∀s∈ss,s.key.length=32)→∀(i:Nat) (hi:i<ss.length) (j:Nat) (v:Value),(sz7 ss[i])[j]?=some v→(ss.flatMap sz7)[i * 39+j]?=some v
 | [],_,i,hi,_,_,_=>by simp at hi
 | s::ss,h,0,_,j,v,hv=>by
  rw [List.flatMap_cons,Nat.zero_mul,Nat.zero_add];have hlt:j<(sz7 s).length:=(List.getElem?_eq_some_iff.1 hv).1;rw [List.getElem?_append_left hlt];exact hv
 | s::ss,h,i+1,hi,j,v,hv=>by
  rw [List.flatMap_cons];have hl:=Zv s (h s (by simp));rw [List.getElem?_append_right (by rw [hl];omega),hl,show (i+1) * 39+j-39=i * 39+j by omega];exact Zsf ss (fun s hs=>h s (List.mem_cons_of_mem _ hs)) i (by simpa using hi) j v hv
structure Rs (w:World) (g:Nat) (vp vf:Value) (room:Nat) (ss:List Sp) (fr:List Nat):Prop where
 blk:Blk w g 80 #[.bool true,.int .i64 (room:Int),vp,vf]
 sps:Lst w 154 39 vp ss.length (ss.flatMap sz7)
 frs:Lst w 3 1 vf fr.length (nats fr)
 vals:∀s∈ss,∃sp,Own 0 w s.val s.bs sp
 ok:∀s∈ss,SpOk s
 zero:∀s∈ss,s.kind=0→s=zs7
 few:ss.length≤65536∧fr.length≤65536
def rsB (g:Nat) (vp vf:Value) (ss:List Sp):List Nat:=g::(vp.ownBlock.toList++(vf.ownBlock.toList++ss.flatMap fun s=>s.val.ownBlock.toList))
theorem Zt {ss:List Sp}:k∈rsB g vp vf ss↔k=g∨vp.ownBlock=some k∨vf.ownBlock=some k∨∃s∈ss,s.val.ownBlock=some k:=by simp [rsB]
theorem Rs.mod {ss:List Sp} (h:Rs w g vp vf room ss fr) (m:Mod S w w') (hn:∀k∈rsB g vp vf ss,k ∉ S):Rs w' g vp vf room ss fr:=
 ⟨h.blk.mod m (hn g (Zt.2 (.inl rfl))),Zbh h.sps m (fun k hk=>hn k (Zt.2 (.inr (.inl hk)))),Zbh h.frs m (fun k hk=>hn k (Zt.2 (.inr (.inr (.inl hk))))),fun s hs=>by
  obtain ⟨sp,ho⟩:=h.vals s hs;exact ⟨sp,ho.mod m (fun k hk=>hn k (Zt.2 (.inr (.inr (.inr ⟨s,hs,hk⟩)))))⟩,h.ok,h.zero,h.few⟩
theorem Rs.grow {ss:List Sp} (h:Rs w g vp vf room ss fr) (hb:Kb w w'):Rs w' g vp vf room ss fr:=h.mod (Mod.of_below hb []) (fun _ _ h=>by cases h)
theorem Rs.lts {ss:List Sp} (h:Rs w g vp vf room ss fr):∀k∈rsB g vp vf ss,k<w.heap.size:=fun k hk=>by
 rcases Zt.1 hk with rfl | hk | hk | ⟨s,hs,hk⟩
 ·exact h.blk.lt
 ·exact Zep h.sps k hk
 ·exact Zep h.frs k hk
 ·obtain ⟨sp,ho⟩:=h.vals s hs;exact (ho.lt k hk).2
theorem Rs.c0 {ss:List Sp} (h:Rs w g vp vf room ss fr):w.cell? ⟨g,0,none⟩=some (.bool true):=by rw [h.blk.cell];rfl
theorem Rs.c1 {ss:List Sp} (h:Rs w g vp vf room ss fr):w.cell? ⟨g,1,none⟩=some (.int .i64 (room:Int)):=by rw [h.blk.cell];rfl
theorem Rs.c2 {ss:List Sp} (h:Rs w g vp vf room ss fr):w.cell? ⟨g,2,none⟩=some vp:=by rw [h.blk.cell];rfl
theorem Rs.c3 {ss:List Sp} (h:Rs w g vp vf room ss fr):w.cell? ⟨g,3,none⟩=some vf:=by rw [h.blk.cell];rfl
theorem Rs.range {ss:List Sp} (h:Rs w g (.slice (some ⟨b,0,none⟩) n c) vf room ss fr) (i:Nat) (hi:i<ss.length):w.rangeAt b (i * 39) (sz7 (spAt ss i)):=fun j v hv=>by
 have e:spAt ss i=ss[i]:=by simp [spAt,hi]
 rw [e] at hv;have h1:=Zsf ss (fun s hs=>(h.ok s hs).hk.1) i hi j v hv;have hlt:i * 39+j<(ss.flatMap sz7).length:=(List.getElem?_eq_some_iff.1 h1).1;have h0:=h.sps;obtain ⟨_,_,e2⟩:=Zo h0;injection e2 with _ e2 _;subst e2;rw [Zcd h0 (i * 39+j) (by rw [← h0.1];exact hlt)];exact h1
theorem Zdb {ss:List Sp} (h:Rs w g vp vf room ss fr) (i:Nat):SpOk (spAt ss i):=by
 unfold spAt
 by_cases hi:i<ss.length
 ·rw [List.getElem?_eq_getElem hi];exact h.ok _ (List.getElem_mem hi)
 ·rw [List.getElem?_eq_none (by omega)];exact Zhp
theorem Zcf {ss:List Sp} (h:Rs w g vp vf room ss fr) (q:Int):SpOk (sat ss q):=by
 unfold sat;split
 ·exact Zdb h _
 ·exact Zhp
theorem Zab (g:Nat) (w:World) (hc:w.cell? ⟨g,0,none⟩=some (.bool true)):Kc 83 #[.pointer (some ⟨g,0,none⟩)] w fun e w'=>e=.returned (.bool false)∧w'=w:=by
 go_enter Tryz.func83,Tryz.ntmps83
 go_wp2
 go_ret;exact ⟨rfl,rfl⟩
theorem Zbn {ss:List Sp} (h:Rs w g vp vf room ss fr) (q:Int):Kc 84 #[.pointer (some ⟨g,0,none⟩),.int .i64 q] w fun e w'=>e=.returned (.bool (decide ((sat ss q).kind≠0)))∧w'=w:=by
 have c0:=h.c0;have c2:=h.c2;obtain ⟨a,c,rfl⟩:=Zo h.sps
 by_cases h1:1≤q
 ·by_cases h2:q≤(ss.length:Int)
  ·obtain ⟨i,hi⟩:∃i:Nat,q-1=(i:Int):=⟨(q-1).toNat,by omega⟩;have hil:i<ss.length:=by omega
   obtain ⟨b,c',e,hc⟩:=Zbg h.sps (by omega);injection e with e1 _ e3;subst e1;subst e3;have hr:=h.range i hil;have hk:w.cell? ⟨b,i * 39,none⟩=some (.int .u8 (spAt ss i).kind):=by
    have:=hr 0 _ (Zbz (spAt ss i) (Zdb h i).hk.1).1;rwa [Nat.add_zero] at this
   have hs:sat ss q=spAt ss i:=by
    unfold sat;rw [if_pos h1,show (q-1).toNat=i by omega]
   rw [hs];have hf:=h.few;have hw:wrap64 (i:Int)=(i:Int):=Go.IntWalk.wrap64_in _ (by omega);have i0:(0:Int)≤(i:Int):=by omega
   have i1:(i:Int)<(ss.length:Int):=by omega
   generalize (spAt ss i).kind=K at hk ⊢;clear h hr hs hf;go_enter Tryz.func84,Tryz.ntmps84
   go_wp2_with (go_at_call 83;refine (Zab g _ c0).mono ?_;rintro e w' ⟨rfl,hx⟩;rw [hx];clear hx w')
   go_ret;exact ⟨by simp;rfl,rfl⟩
  ·have hs:sat ss q=zs7:=by
    unfold sat spAt;rw [if_pos h1,List.getElem?_eq_none (by omega)];rfl
   rw [hs];clear h hs;go_enter Tryz.func84,Tryz.ntmps84
   go_wp2_with (go_at_call 83;refine (Zab g _ c0).mono ?_;rintro e w' ⟨rfl,hx⟩;rw [hx];clear hx w')
   go_ret;exact ⟨rfl,rfl⟩
 ·have hs:sat ss q=zs7:=by
   unfold sat;rw [if_neg h1]
  rw [hs];clear h hs;go_enter Tryz.func84,Tryz.ntmps84
  go_wp2_with (go_at_call 83;refine (Zab g _ c0).mono ?_;rintro e w' ⟨rfl,hx⟩;rw [hx];clear hx w')
  go_ret;exact ⟨rfl,rfl⟩
theorem Zct:∀w,(zeroValue 154).run Tryz.prog w=.ok (.agg (sz7 zs7).toArray) w:=zero_of_info (n:=39) (by kernel_rfl) |>.1
theorem Zbs:(Tryz.prog.info? 154).map (·.size)=some 39:=by kernel_rfl
theorem Zla:Tryz.prog.built 154 []=some (sz7 zs7).toArray:=by kernel_rfl
theorem Zbc {ss:List Sp} (h:Rs w g vp vf room ss fr) (q:Int):Kc 107 #[.pointer (some ⟨g,0,none⟩),.int .i64 q] w fun e w'=>e=.returned (.agg (sz7 (sat ss q)).toArray)∧Kb w w':=by
 have HS:Hid (∀w',Kb w w'→Rs w' g vp vf room ss fr):=fun w' hb=>h.grow hb
 have HO:=Za (Zcf h q);have HH:Hid (∀w',Kb w w'→Kc 84 #[.pointer (some ⟨g,0,none⟩),.int .i64 q] w' fun e w''=>e=.returned (.bool (decide ((sat ss q).kind≠0)))∧w''=w'):=fun w' hb=>Zbn (h.grow hb) q
 by_cases hz:(sat ss q).kind=0
 ·have hs:sat ss q=zs7:=by
   unfold sat at hz ⊢;split at hz
   ·next h1=>
    rw [if_pos h1];unfold spAt at hz ⊢
    by_cases hi:(q-1).toNat<ss.length
    ·rw [List.getElem?_eq_getElem hi] at hz ⊢;exact h.zero _ (List.getElem_mem hi) hz
    ·rw [List.getElem?_eq_none (by omega)];rfl
   ·next h1=>rw [if_neg h1]
  have hd:decide ((sat ss q).kind≠0)=false:=by simp [hz]
  rw [hd] at HH;rw [hs];have HL:Hid ((Tryz.prog.info? 154).map (·.size)=some (sz7 zs7).toArray.size):=Zbs;have HB:=Za Zla;have H1:=Za (Zci Zhp);have HZ:=Za Zct;generalize sz7 zs7=Z at HL HB H1 HZ ⊢;clear h HS HO hz hs hd;go_enter Tryz.func107,Tryz.ntmps107
  go_wp2_with (first
   |((with_reducible refine Zw 4 ?_);refine Zf _ rfl _ rfl _ HZ.out ?_;intro w1 b4 hg4 hl4 B4 b1;have HB4:=Za B4;have Hg4:=Za hg4;clear B4 hg4 hl4)
   |(go_at_call 84;refine (HH.out _ b1).mono ?_;rintro e w' ⟨rfl,hx⟩;rw [hx];clear hx w')
   |((with_reducible refine Zle 9 ?_);refine Zar _ rfl _ _ rfl _ (by rw [List.map_toArray];exact HB.out) ?_)
   |((with_reducible refine Zah 4 ?_);refine Zg _ rfl _ _ _ rfl b4 _ Z.toArray rfl rfl HB4.out HL.out rfl (all_oneCell_toArray H1.out) ?_;intro w5 B6 g6))
  exact bodyPost_ret (v:=.agg Z.toArray) (results_cell_row rfl _ _ b4 _ _ _ _ rfl B6 Tryz.underlying154 rfl HL.out) rfl ⟨rfl,Ze b1 g6 Hg4.out⟩
 ·have hd:decide ((sat ss q).kind≠0)=true:=by simp [hz]
  rw [hd] at HH;obtain ⟨i,hi,hil⟩:∃i:Nat,q-1=(i:Int)∧i<ss.length:=by
   by_cases h1:1≤q
   ·refine ⟨(q-1).toNat,by omega,?_⟩;apply Nat.lt_of_not_le;intro hn;apply hz;unfold sat spAt;rw [if_pos h1,List.getElem?_eq_none hn];rfl
   ·exact absurd (by unfold sat;rw [if_neg h1];rfl) hz
  have hs:sat ss q=spAt ss i:=by
   unfold sat;rw [if_pos (by omega),show (q-1).toNat=i by omega]
  rw [hs] at HO ⊢;obtain ⟨b,c,hv,hc⟩:=Zbg h.sps (by omega);subst hv;have HR:Hid (∀w',Kb w w'→w'.rangeAt b (i * 39) (sz7 (spAt ss i))):=fun w' hb=>(h.grow hb).range i hil
  have HL:Hid ((Tryz.prog.info? 154).map (·.size)=some (sz7 (spAt ss i)).length):=by
   show _=_;rw [Zv _ HO.out.hk.1];exact Zbs
  have HL2:Hid ((Tryz.prog.info? 154).map (·.size)=some (sz7 (spAt ss i)).toArray.size):=HL.out;have HL3:Hid ((sz7 zs7).toArray.size=(sz7 (spAt ss i)).toArray.size):=by
   show (sz7 zs7).length=(sz7 (spAt ss i)).length;rw [Zv _ HO.out.hk.1];rfl
  have H1:=Za (Zci HO.out);have HZ:=Za Zct;generalize sz7 zs7=Z at HL3 HZ;generalize sz7 (spAt ss i)=X at HR HL HL2 HL3 H1 ⊢;have hf:=h.few;have hw:wrap64 (i:Int)=(i:Int):=Go.IntWalk.wrap64_in _ (by omega);have i0:(0:Int)≤(i:Int):=by omega
  have i1:(i:Int)<(ss.length:Int):=by omega
  clear h HO hz hd hs hf;go_enter Tryz.func107,Tryz.ntmps107
  go_wp2_with (first
   |((with_reducible refine Zw 4 ?_);refine Zf _ rfl _ rfl _ HZ.out ?_;intro w1 b4 hg4 hl4 B4 b1;have c0:=(HS.out _ b1).c0;have c2:=(HS.out _ b1).c2;have HB4:=Za B4;have Hg4:=Za hg4;clear B4 hg4 hl4)
   |(go_at_call 84;refine (HH.out _ b1).mono ?_;rintro e w' ⟨rfl,hx⟩;rw [hx];clear hx w')
   |((with_reducible refine Zk 17 16 ?_);refine wpList_load_mid rfl _ _ rfl b (i * 39) rfl X _ (HR.out _ b1) Tryz.underlying154 rfl HL.out ?_)
   |((with_reducible refine Zah 4 ?_);refine Zg _ rfl _ _ _ rfl b4 _ X.toArray rfl rfl HB4.out HL2.out HL3.out (all_oneCell_toArray H1.out) ?_;intro w5 B6 g6))
  exact bodyPost_ret (v:=.agg X.toArray) (results_cell_row rfl _ _ b4 _ _ _ _ rfl B6 Tryz.underlying154 rfl HL2.out) rfl ⟨rfl,Ze b1 g6 Hg4.out⟩
theorem Zem (T f ft off:Nat) (v:Value) (cs:Array Value) (fs:Array Field) (fd:Field) (hu:Tryz.prog.underlying T=some (.struct fs)) (hf:fs[f]?=some fd) (ht:fd.type=ft) (ho:fd.offset=off) (hag:∀w,(isAgg ft).run Tryz.prog w=.ok false w) (hc:cs[off]?=some v) (w:World):(Instr.field T (.agg cs) f).run Tryz.prog w=.ok v w:=by
 subst ht ho;unfold Instr.field;rw [Sem.run_bind,run_underlying hu w];simp only [Result.andThen_ok,hf];rw [Sem.run_bind];show (part fd.type cs fd.offset).run Tryz.prog w=_;unfold part;rw [Sem.run_bind,hag w];simp only [Result.andThen_ok,Bool.false_eq_true,if_false,hc];rfl
theorem Ycv (T f ft off:Nat) (cs xs:List Value) (fs:Array Field) (fd:Field) (hu:Tryz.prog.underlying T=some (.struct fs)) (hf:fs[f]?=some fd) (ht:fd.type=ft) (ho:fd.offset=off) (hag:∀w,(isAgg ft).run Tryz.prog w=.ok true w) (hi:(Tryz.prog.info? ft).map (·.size)=some xs.length) (hx:(cs.drop off).take xs.length=xs) (w:World):(Instr.field T (.agg cs.toArray) f).run Tryz.prog w=.ok (.agg xs.toArray) w:=by
 subst ht ho;cases hq:Tryz.prog.info? fd.type with
 | none=>simp [hq] at hi
 | some i=>
  have hz:i.size=xs.length:=by simpa [hq] using hi
  have hex:(cs.toArray).extract fd.offset (fd.offset+xs.length)=xs.toArray:=by
   apply Array.ext';simp only [Array.toList_extract,List.extract_eq_take_drop];rw [show fd.offset+xs.length-fd.offset=xs.length by omega];exact hx
  unfold Instr.field;rw [Sem.run_bind,run_underlying hu w];simp only [Result.andThen_ok,hf];rw [Sem.run_bind];show (part fd.type cs.toArray fd.offset).run Tryz.prog w=_;unfold part;rw [Sem.run_bind,hag w];simp only [Result.andThen_ok,if_true];rw [Sem.run_bind];simp [sizeOf,typeInfo,hq,hz];simpa using hex
theorem Zql {s:Sp} (h:SpOk s):∀w,(Instr.field 154 (.agg (sz7 s).toArray) 0).run Tryz.prog w=.ok (.int .u8 s.kind) w:=fun w=>Zem 154 0 90 0 _ _ _ _ Tryz.underlying154 rfl rfl rfl Zst (by simpa using (Zbz s h.hk.1).1) w
theorem Yln {s:Sp} (h:SpOk s):∀w,(Instr.field 154 (.agg (sz7 s).toArray) 1).run Tryz.prog w=.ok (.int .i64 (s.d:Int)) w:=fun w=>Zem 154 1 3 1 _ _ _ _ Tryz.underlying154 rfl rfl rfl Zga (by simpa using (Zbz s h.hk.1).2.1) w
theorem Ylt {s:Sp} (h:SpOk s):∀w,(Instr.field 154 (.agg (sz7 s).toArray) 3).run Tryz.prog w=.ok (.int .i64 (s.l:Int)) w:=fun w=>Zem 154 3 3 35 _ _ _ _ Tryz.underlying154 rfl rfl rfl Zga (by simpa using (Zbz s h.hk.1).2.2.2.1) w
theorem Yls {s:Sp} (h:SpOk s):∀w,(Instr.field 154 (.agg (sz7 s).toArray) 4).run Tryz.prog w=.ok (.int .i64 (s.r:Int)) w:=fun w=>Zem 154 4 3 36 _ _ _ _ Tryz.underlying154 rfl rfl rfl Zga (by simpa using (Zbz s h.hk.1).2.2.2.2.1) w
theorem Zog {s:Sp} (h:SpOk s):∀w,(Instr.field 154 (.agg (sz7 s).toArray) 5).run Tryz.prog w=.ok (.int .i64 (s.own:Int)) w:=fun w=>Zem 154 5 3 37 _ _ _ _ Tryz.underlying154 rfl rfl rfl Zga (by simpa using (Zbz s h.hk.1).2.2.2.2.2.1) w
theorem Ylf {s:Sp} (h:SpOk s):∀w,(Instr.field 154 (.agg (sz7 s).toArray) 6).run Tryz.prog w=.ok (.int .i64 (s.sd:Int)) w:=fun w=>Zem 154 6 3 38 _ _ _ _ Tryz.underlying154 rfl rfl rfl Zga (by simpa using (Zbz s h.hk.1).2.2.2.2.2.2) w
theorem Yaa:∀w,(isAgg 152).run Tryz.prog w=.ok true w:=fun w=>by kernel_rfl
theorem Ycz {s:Sp} (h:SpOk s):∀w,(Instr.field 154 (.agg (sz7 s).toArray) 2).run Tryz.prog w=.ok (.agg (encP s.key s.val).toArray) w:=fun w=>Ycv 154 2 152 2 (sz7 s) (encP s.key s.val) _ _ Tryz.underlying154 rfl rfl rfl Yaa (by rw [Zac _ _ h.hk.1];exact Zit) (by unfold sz7;simp) w
theorem Yhh {k:Lq} {v:Value} (h:k.length=32):∀w,(Instr.field 152 (.agg (encP k v).toArray) 1).run Tryz.prog w=.ok v w:=fun w=>Zem 152 1 72 32 _ _ _ _ Tryz.underlying152 rfl rfl rfl Zor (by
 unfold encP;rw [List.getElem?_toArray,List.getElem?_append_right (by simp [h])];simp [h]) w
theorem Yef {ss:List Sp} (h:Rs w g vp vf room ss fr) (q:Int):Kc 48 #[.pointer (some ⟨g,0,none⟩),.int .i64 q] w fun e w'=>e=.returned ((.int .u8 (sat ss q).kind))∧Kb w w':=by
 have HA:Hid (Kr w 107 #[.pointer (some ⟨g,0,none⟩),.int .i64 q] (.agg (sz7 (sat ss q)).toArray)):=fun w' hb=>Zbc (h.grow hb) q
 have hf0:=Zql (Zcf h q);obtain ⟨c,hc⟩:∃c,c=sat ss q:=⟨_,rfl⟩;rw [← hc] at HA hf0;rw [← hc];generalize (sz7 c).toArray=X at HA hf0;clear hc h;go_enter Tryz.func48,Tryz.ntmps48
 go_wp2_with (first
  |(go_at_call 107;have mk:=m1;clear mk;refine (HA.out _ HB1.out).mono ?_;rintro e w2 ⟨rfl,b2⟩;have HB2:=Za (Zb HB1.out b2);clear b2)
  |(go_at_call 107;refine (HA.out _ (Below.refl _ _)).mono ?_;rintro e w1 ⟨rfl,b1⟩;have HB1:=Za b1;have m1:Hid True:=trivial;clear b1))
 go_ret;exact ⟨rfl,HB1.out⟩
theorem Yeg {ss:List Sp} (h:Rs w g vp vf room ss fr) (q:Int):Kc 91 #[.pointer (some ⟨g,0,none⟩),.int .i64 q] w fun e w'=>e=.returned ((.int .i64 ((sat ss q).own:Int)))∧Kb w w':=by
 have HA:Hid (Kr w 107 #[.pointer (some ⟨g,0,none⟩),.int .i64 q] (.agg (sz7 (sat ss q)).toArray)):=fun w' hb=>Zbc (h.grow hb) q
 have hf0:=Zog (Zcf h q);obtain ⟨c,hc⟩:∃c,c=sat ss q:=⟨_,rfl⟩;rw [← hc] at HA hf0;rw [← hc];generalize (sz7 c).toArray=X at HA hf0;clear hc h;go_enter Tryz.func91,Tryz.ntmps91
 go_wp2_with (first
  |(go_at_call 107;have mk:=m1;clear mk;refine (HA.out _ HB1.out).mono ?_;rintro e w2 ⟨rfl,b2⟩;have HB2:=Za (Zb HB1.out b2);clear b2)
  |(go_at_call 107;refine (HA.out _ (Below.refl _ _)).mono ?_;rintro e w1 ⟨rfl,b1⟩;have HB1:=Za b1;have m1:Hid True:=trivial;clear b1))
 go_ret;exact ⟨rfl,HB1.out⟩
theorem Zwo {ss:List Sp} (h:Rs w g vp vf room ss fr) (q:Int):Kc 99 #[.pointer (some ⟨g,0,none⟩),.int .i64 q] w fun e w'=>e=.returned ((sat ss q).val)∧Kb w w':=by
 have HA:Hid (Kr w 107 #[.pointer (some ⟨g,0,none⟩),.int .i64 q] (.agg (sz7 (sat ss q)).toArray)):=fun w' hb=>Zbc (h.grow hb) q
 have hf0:=Ycz (Zcf h q);have hp:=@Yhh (sat ss q).key (sat ss q).val (Zcf h q).hk.1;obtain ⟨c,hc⟩:∃c,c=sat ss q:=⟨_,rfl⟩;rw [← hc] at HA hf0 hp;rw [← hc];generalize (sz7 c).toArray=X at HA hf0;clear hc h;go_enter Tryz.func99,Tryz.ntmps99
 go_wp2_with (first
  |(go_at_call 107;have mk:=m1;clear mk;refine (HA.out _ HB1.out).mono ?_;rintro e w2 ⟨rfl,b2⟩;have HB2:=Za (Zb HB1.out b2);clear b2)
  |(go_at_call 107;refine (HA.out _ (Below.refl _ _)).mono ?_;rintro e w1 ⟨rfl,b1⟩;have HB1:=Za b1;have m1:Hid True:=trivial;clear b1))
 go_ret;exact ⟨rfl,HB1.out⟩
theorem Zwq {ss:List Sp} (h:Rs w g vp vf room ss fr) (q:Int):Kc 67 #[.pointer (some ⟨g,0,none⟩),.int .i64 q] w fun e w'=>e=.returned ((.tuple #[.int .i64 ((sat ss q).l:Int),.int .i64 ((sat ss q).r:Int)]))∧Kb w w':=by
 have HA:Hid (Kr w 107 #[.pointer (some ⟨g,0,none⟩),.int .i64 q] (.agg (sz7 (sat ss q)).toArray)):=fun w' hb=>Zbc (h.grow hb) q
 have hf0:=Ylt (Zcf h q);have hf1:=Yls (Zcf h q);obtain ⟨c,hc⟩:∃c,c=sat ss q:=⟨_,rfl⟩;rw [← hc] at HA hf0 hf1;rw [← hc];generalize (sz7 c).toArray=X at HA hf0 hf1;clear hc h;go_enter Tryz.func67,Tryz.ntmps67
 go_wp2_with (first
  |(go_at_call 107;have mk:=m1;clear mk;refine (HA.out _ HB1.out).mono ?_;rintro e w2 ⟨rfl,b2⟩;have HB2:=Za (Zb HB1.out b2);clear b2)
  |(go_at_call 107;refine (HA.out _ (Below.refl _ _)).mono ?_;rintro e w1 ⟨rfl,b1⟩;have HB1:=Za b1;have m1:Hid True:=trivial;clear b1))
 go_ret2;exact ⟨rfl,HB2.out⟩
theorem Zpu {ss:List Sp} (h:Rs w g vp vf room ss fr) (q:Int) (hm:(sat ss q).own+(sat ss q).sd≤1073741824):Kc 63 #[.pointer (some ⟨g,0,none⟩),.int .i64 q] w fun e w'=>e=.returned ((.int .i64 (((sat ss q).own+(sat ss q).sd:Nat):Int)))∧Kb w w':=by
 have HA:Hid (Kr w 107 #[.pointer (some ⟨g,0,none⟩),.int .i64 q] (.agg (sz7 (sat ss q)).toArray)):=fun w' hb=>Zbc (h.grow hb) q
 have hf0:=Zog (Zcf h q);have hf1:=Ylf (Zcf h q);have hx:wrap64 (((sat ss q).own:Int)+((sat ss q).sd:Int))=(((sat ss q).own+(sat ss q).sd:Nat):Int):=by rw [Go.IntWalk.wrap64_in _ (by omega)];rfl
 obtain ⟨c,hc⟩:∃c,c=sat ss q:=⟨_,rfl⟩;rw [← hc] at HA hf0 hf1 hx;rw [← hc];generalize (sz7 c).toArray=X at HA hf0 hf1;clear hc h hm;go_enter Tryz.func63,Tryz.ntmps63
 go_wp2_with (first
  |(go_at_call 107;have mk:=m1;clear mk;refine (HA.out _ HB1.out).mono ?_;rintro e w2 ⟨rfl,b2⟩;have HB2:=Za (Zb HB1.out b2);clear b2)
  |(go_at_call 107;refine (HA.out _ (Below.refl _ _)).mono ?_;rintro e w1 ⟨rfl,b1⟩;have HB1:=Za b1;have m1:Hid True:=trivial;clear b1))
 go_ret;exact ⟨by rw [← hx];rfl,HB2.out⟩
def dp7 (s:Sp):Int:=if s.kind=2 then (s.d:Int) else -1
theorem Zpt {ss:List Sp} (h:Rs w g vp vf room ss fr) (q:Int):Kc 87 #[.pointer (some ⟨g,0,none⟩),.int .i64 q] w fun e w'=>e=.returned (.int .i64 (dp7 (sat ss q)))∧Kb w w':=by
 have HA:Hid (Kr w 107 #[.pointer (some ⟨g,0,none⟩),.int .i64 q] (.agg (sz7 (sat ss q)).toArray)):=fun w' hb=>Zbc (h.grow hb) q
 have hf0:=Zql (Zcf h q);have hf1:=Yln (Zcf h q);obtain ⟨c,hc⟩:∃c,c=sat ss q:=⟨_,rfl⟩;rw [← hc] at HA hf0 hf1;rw [← hc];generalize (sz7 c).toArray=X at HA hf0 hf1;clear hc h;unfold dp7
 by_cases hk:c.kind=2
 ·rw [if_pos hk];rw [hk] at hf0;clear hk;go_enter Tryz.func87,Tryz.ntmps87
  go_wp2_with (first
   |(go_at_call 107;have mk:=m1;clear mk;refine (HA.out _ HB1.out).mono ?_;rintro e w2 ⟨rfl,b2⟩;have HB2:=Za (Zb HB1.out b2);clear b2)
   |(go_at_call 107;refine (HA.out _ (Below.refl _ _)).mono ?_;rintro e w1 ⟨rfl,b1⟩;have HB1:=Za b1;have m1:Hid True:=trivial;clear b1))
  go_ret;exact ⟨rfl,HB2.out⟩
 ·rw [if_neg hk];generalize c.kind=K at hk hf0;have hb:(K == 2)=false:=by simp [hk]
  clear hk;go_enter Tryz.func87,Tryz.ntmps87
  go_wp2_with (first
   |(go_at_call 107;refine (HA.out _ (Below.refl _ _)).mono ?_;rintro e w1 ⟨rfl,b1⟩;have HB1:=Za b1;clear b1))
  go_ret;exact ⟨rfl,HB1.out⟩
theorem Yed {ss:List Sp} (h:Rs w g vp vf room ss fr):Kc 39 #[.pointer (some ⟨g,0,none⟩)] w fun e w'=>e=.returned (.int .i64 (room:Int))∧w'=w:=by
 have c0:=h.c0;have c1:=h.c1;clear h;go_enter Tryz.func39,Tryz.ntmps39
 go_wp2_with (go_at_call 83;refine (Zab g _ c0).mono ?_;rintro e w' ⟨rfl,hx⟩;rw [hx];clear hx w')
 go_ret;exact ⟨rfl,rfl⟩
end Go.Proofs.YtgfdgjkbcdmboaaGreatDoor
