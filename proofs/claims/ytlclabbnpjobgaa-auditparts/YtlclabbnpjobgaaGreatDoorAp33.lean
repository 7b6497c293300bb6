/- audit.Sound of a root of at most 4,096 leaves: true. -/
import Derived.Test.YtlclabbnpjobgaaGreatDoorAp25
import Derived.Test.YtlclabbnpjobgaaGreatDoorAp32
namespace Go.Proofs.YtlclabbnpjobgaaGreatDoor
variable {S fr:List Nat}
variable {b c g k n room:Nat}
variable {vf vp:Value}
variable {w w':World}
set_option maxHeartbeats 1000000
set_option maxRecDepth 20000
open Go.RowKit
structure Sp where
 kind:Int
 d:Nat
 key:Lq
 val:Value
 bs:Lq
 l:Nat
 r:Nat
 own:Nat
 sd:Nat
def zs7:Sp:=⟨0,0,z32,.slice none 0 0,[],0,0,0,0⟩
def sz7 (s:Sp):List Value:=.int .u8 s.kind:: .int .i64 (s.d:Int)::(encP s.key s.val++[.int .i64 (s.l:Int),.int .i64 (s.r:Int),.int .i64 (s.own:Int),.int .i64 (s.sd:Int)])
theorem Zr (s:Sp) (h:s.key.length=32):(sz7 s).length=39:=by simp [sz7,Zab _ _ h]
theorem Zbq (s:Sp) (h:s.key.length=32):(sz7 s)[0]?=some (.int .u8 s.kind)∧(sz7 s)[1]?=some (.int .i64 (s.d:Int))∧(sz7 s)[34]?=some s.val∧(sz7 s)[35]?=some (.int .i64 (s.l:Int))∧(sz7 s)[36]?=some (.int .i64 (s.r:Int))∧(sz7 s)[37]?=some (.int .i64 (s.own:Int))∧(sz7 s)[38]?=some (.int .i64 (s.sd:Int)):=by
 have hl:=Zab s.key s.val h;have hk:(s.key.map (Value.int .u8)).length=32:=by simp [h]
 unfold sz7;refine ⟨rfl,rfl,?_,?_,?_,?_,?_⟩
 ·show (encP s.key s.val++_)[32]?=_;rw [List.getElem?_append_left (by omega)];unfold encP;rw [List.getElem?_append_right (by omega),hk];rfl
 ·show (encP s.key s.val++_)[33]?=_;rw [List.getElem?_append_right (by omega),hl];rfl
 ·show (encP s.key s.val++_)[34]?=_;rw [List.getElem?_append_right (by omega),hl];rfl
 ·show (encP s.key s.val++_)[35]?=_;rw [List.getElem?_append_right (by omega),hl];rfl
 ·show (encP s.key s.val++_)[36]?=_;rw [List.getElem?_append_right (by omega),hl];rfl
structure SpOk (s:Sp):Prop where
 hk:Key s.key
 vs:∃a c,s.val=.slice a s.bs.length c
theorem Zgo:SpOk zs7:=⟨Zql.hk,⟨none,0,rfl⟩⟩
theorem Zca {s:Sp} (h:SpOk s):∀v∈sz7 s,v.oneCell'=true:=fun v hv=>by
 obtain ⟨a,c,e⟩:=h.vs;unfold sz7 encP at hv;rw [e] at hv;simp only [List.mem_cons,List.mem_append,List.mem_map,List.not_mem_nil,or_false] at hv;rcases hv with rfl | rfl | (⟨_,_,rfl⟩ | rfl) | rfl | rfl | rfl | rfl <;> rfl
def spAt (ss:List Sp) (i:Nat):Sp:=ss[i]?.getD zs7
def sat (ss:List Sp) (h:Int):Sp:=if 1≤h then spAt ss (h-1).toNat else zs7
theorem Zpy:∀(ss:List Sp),(∀s∈ss,s.key.length=32)→∀(i:Nat) (hi:i<ss.length) (j:Nat) (v:Value),(sz7 ss[i])[j]?=some v→(ss.flatMap sz7)[i * 39+j]?=some v
 | [],_,i,hi,_,_,_=>by simp at hi
 | s::ss,h,0,_,j,v,hv=>by
  rw [List.flatMap_cons,Nat.zero_mul,Nat.zero_add];have hlt:j<(sz7 s).length:=(List.getElem?_eq_some_iff.1 hv).1;rw [List.getElem?_append_left hlt];exact hv
 | s::ss,h,i+1,hi,j,v,hv=>by
  rw [List.flatMap_cons];have hl:=Zr s (h s (by simp));rw [List.getElem?_append_right (by rw [hl];omega),hl,show (i+1) * 39+j-39=i * 39+j by omega];exact Zpy ss (fun s hs=>h s (List.mem_cons_of_mem _ hs)) i (by simpa using hi) j v hv
structure Rs (w:World) (g:Nat) (vp vf:Value) (room:Nat) (ss:List Sp) (fr:List Nat):Prop where
 blk:Blk w g 149 #[.bool true,.int .i64 (room:Int),vp,vf]
 sps:Lst w 153 39 vp ss.length (ss.flatMap sz7)
 frs:Lst w 3 1 vf fr.length (nats fr)
 vals:∀s∈ss,∃sp,Own 0 w s.val s.bs sp
 ok:∀s∈ss,SpOk s
 zero:∀s∈ss,s.kind=0→s=zs7
 few:ss.length≤65536∧fr.length≤65536
def rsB (g:Nat) (vp vf:Value) (ss:List Sp):List Nat:=g::(vp.ownBlock.toList++(vf.ownBlock.toList++ss.flatMap fun s=>s.val.ownBlock.toList))
theorem Zq {ss:List Sp}:k∈rsB g vp vf ss↔k=g∨vp.ownBlock=some k∨vf.ownBlock=some k∨∃s∈ss,s.val.ownBlock=some k:=by simp [rsB]
theorem Rs.mod {ss:List Sp} (h:Rs w g vp vf room ss fr) (m:Mod S w w') (hn:∀k∈rsB g vp vf ss,k ∉ S):Rs w' g vp vf room ss fr:=
 ⟨h.blk.mod m (hn g (Zq.2 (.inl rfl))),Zbd h.sps m (fun k hk=>hn k (Zq.2 (.inr (.inl hk)))),Zbd h.frs m (fun k hk=>hn k (Zq.2 (.inr (.inr (.inl hk))))),fun s hs=>by
  obtain ⟨sp,ho⟩:=h.vals s hs;exact ⟨sp,ho.mod m (fun k hk=>hn k (Zq.2 (.inr (.inr (.inr ⟨s,hs,hk⟩)))))⟩,h.ok,h.zero,h.few⟩
theorem Rs.grow {ss:List Sp} (h:Rs w g vp vf room ss fr) (hb:Kb w w'):Rs w' g vp vf room ss fr:=h.mod (Mod.of_below hb []) (fun _ _ h=>by cases h)
theorem Rs.lts {ss:List Sp} (h:Rs w g vp vf room ss fr):∀k∈rsB g vp vf ss,k<w.heap.size:=fun k hk=>by
 rcases Zq.1 hk with rfl | hk | hk | ⟨s,hs,hk⟩
 ·exact h.blk.lt
 ·exact Zdu h.sps k hk
 ·exact Zdu h.frs k hk
 ·obtain ⟨sp,ho⟩:=h.vals s hs;exact (ho.lt k hk).2
theorem Rs.c0 {ss:List Sp} (h:Rs w g vp vf room ss fr):w.cell? ⟨g,0,none⟩=some (.bool true):=by rw [h.blk.cell];rfl
theorem Rs.c1 {ss:List Sp} (h:Rs w g vp vf room ss fr):w.cell? ⟨g,1,none⟩=some (.int .i64 (room:Int)):=by rw [h.blk.cell];rfl
theorem Rs.c2 {ss:List Sp} (h:Rs w g vp vf room ss fr):w.cell? ⟨g,2,none⟩=some vp:=by rw [h.blk.cell];rfl
theorem Rs.c3 {ss:List Sp} (h:Rs w g vp vf room ss fr):w.cell? ⟨g,3,none⟩=some vf:=by rw [h.blk.cell];rfl
theorem Rs.range {ss:List Sp} (h:Rs w g (.slice (some ⟨b,0,none⟩) n c) vf room ss fr) (i:Nat) (hi:i<ss.length):w.rangeAt b (i * 39) (sz7 (spAt ss i)):=fun j v hv=>by
 have e:spAt ss i=ss[i]:=by simp [spAt,hi]
 rw [e] at hv;have h1:=Zpy ss (fun s hs=>(h.ok s hs).hk.1) i hi j v hv;have hlt:i * 39+j<(ss.flatMap sz7).length:=(List.getElem?_eq_some_iff.1 h1).1;have h0:=h.sps;obtain ⟨_,_,e2⟩:=Zj h0;injection e2 with _ e2 _;subst e2;rw [Zay h0 (i * 39+j) (by rw [← h0.1];exact hlt)];exact h1
theorem Zch {ss:List Sp} (h:Rs w g vp vf room ss fr) (i:Nat):SpOk (spAt ss i):=by
 unfold spAt
 by_cases hi:i<ss.length
 ·rw [List.getElem?_eq_getElem hi];exact h.ok _ (List.getElem_mem hi)
 ·rw [List.getElem?_eq_none (by omega)];exact Zgo
theorem Zbz {ss:List Sp} (h:Rs w g vp vf room ss fr) (q:Int):SpOk (sat ss q):=by
 unfold sat;split
 ·exact Zch h _
 ·exact Zgo
theorem Zz (g:Nat) (w:World) (hc:w.cell? ⟨g,0,none⟩=some (.bool true)):Kc 88 #[.pointer (some ⟨g,0,none⟩)] w fun e w'=>e=.returned (.bool false)∧w'=w:=by
 go_enter Tryz.func88,Tryz.ntmps88
 go_wp2
 go_ret;exact ⟨rfl,rfl⟩
theorem Zbr {ss:List Sp} (h:Rs w g vp vf room ss fr) (q:Int):Kc 89 #[.pointer (some ⟨g,0,none⟩),.int .i64 q] w fun e w'=>e=.returned (.bool (decide ((sat ss q).kind≠0)))∧w'=w:=by
 have c0:=h.c0;have c2:=h.c2;obtain ⟨a,c,rfl⟩:=Zj h.sps
 by_cases h1:1≤q
 ·by_cases h2:q≤(ss.length:Int)
  ·obtain ⟨i,hi⟩:∃i:Nat,q-1=(i:Int):=⟨(q-1).toNat,by omega⟩;have hil:i<ss.length:=by omega
   obtain ⟨b,c',e,hc⟩:=Zat h.sps (by omega);injection e with e1 _ e3;subst e1;subst e3;have hr:=h.range i hil;have hk:w.cell? ⟨b,i * 39,none⟩=some (.int .u8 (spAt ss i).kind):=by
    have:=hr 0 _ (Zbq (spAt ss i) (Zch h i).hk.1).1;rwa [Nat.add_zero] at this
   have hs:sat ss q=spAt ss i:=by
    unfold sat;rw [if_pos h1,show (q-1).toNat=i by omega]
   rw [hs];have hf:=h.few;have hw:wrap64 (i:Int)=(i:Int):=Go.IntWalk.wrap64_in _ (by omega);have i0:(0:Int)≤(i:Int):=by omega
   have i1:(i:Int)<(ss.length:Int):=by omega
   generalize (spAt ss i).kind=K at hk ⊢;clear h hr hs hf;go_enter Tryz.func89,Tryz.ntmps89
   go_wp2_with (go_at_call 88;refine (Zz g _ c0).mono ?_;rintro e w' ⟨rfl,hx⟩;rw [hx];clear hx w')
   go_ret;exact ⟨by simp;rfl,rfl⟩
  ·have hs:sat ss q=zs7:=by
    unfold sat spAt;rw [if_pos h1,List.getElem?_eq_none (by omega)];rfl
   rw [hs];clear h hs;go_enter Tryz.func89,Tryz.ntmps89
   go_wp2_with (go_at_call 88;refine (Zz g _ c0).mono ?_;rintro e w' ⟨rfl,hx⟩;rw [hx];clear hx w')
   go_ret;exact ⟨rfl,rfl⟩
 ·have hs:sat ss q=zs7:=by
   unfold sat;rw [if_neg h1]
  rw [hs];clear h hs;go_enter Tryz.func89,Tryz.ntmps89
  go_wp2_with (go_at_call 88;refine (Zz g _ c0).mono ?_;rintro e w' ⟨rfl,hx⟩;rw [hx];clear hx w')
  go_ret;exact ⟨rfl,rfl⟩
theorem Zcp:∀w,(zeroValue 153).run Tryz.prog w=.ok (.agg (sz7 zs7).toArray) w:=zero_of_info (n:=39) (by kernel_rfl) |>.1
theorem Zbk:(Tryz.prog.info? 153).map (·.size)=some 39:=by kernel_rfl
theorem Zjn:Tryz.prog.built 153 []=some (sz7 zs7).toArray:=by kernel_rfl
theorem Zbc {ss:List Sp} (h:Rs w g vp vf room ss fr) (q:Int):Kc 94 #[.pointer (some ⟨g,0,none⟩),.int .i64 q] w fun e w'=>e=.returned (.agg (sz7 (sat ss q)).toArray)∧Kb w w':=by
 have HS:Hid (∀w',Kb w w'→Rs w' g vp vf room ss fr):=fun w' hb=>h.grow hb
 have HO:=Za (Zbz h q);have HH:Hid (∀w',Kb w w'→Kc 89 #[.pointer (some ⟨g,0,none⟩),.int .i64 q] w' fun e w''=>e=.returned (.bool (decide ((sat ss q).kind≠0)))∧w''=w'):=fun w' hb=>Zbr (h.grow hb) q
 by_cases hz:(sat ss q).kind=0
 ·have hs:sat ss q=zs7:=by
   unfold sat at hz ⊢;split at hz
   ·next h1=>
    rw [if_pos h1];unfold spAt at hz ⊢
    by_cases hi:(q-1).toNat<ss.length
    ·rw [List.getElem?_eq_getElem hi] at hz ⊢;exact h.zero _ (List.getElem_mem hi) hz
    ·rw [List.getElem?_eq_none (by omega)];rfl
   ·next h1=>rw [if_neg h1]
  have hd:decide ((sat ss q).kind≠0)=false:=by simp [hz]
  rw [hd] at HH;rw [hs];have HL:Hid ((Tryz.prog.info? 153).map (·.size)=some (sz7 zs7).toArray.size):=Zbk;have HB:=Za Zjn;have H1:=Za (Zca Zgo);have HZ:=Za Zcp;generalize sz7 zs7=Z at HL HB H1 HZ ⊢;clear h HS HO hz hs hd;go_enter Tryz.func94,Tryz.ntmps94
  go_wp2_with (first
   |((with_reducible refine Zv 4 ?_);refine Zh _ rfl _ rfl _ HZ.out ?_;intro w1 b4 hg4 hl4 B4 b1;have HB4:=Za B4;have Hg4:=Za hg4;clear B4 hg4 hl4)
   |(go_at_call 89;refine (HH.out _ b1).mono ?_;rintro e w' ⟨rfl,hx⟩;rw [hx];clear hx w')
   |((with_reducible refine Zgu 9 ?_);refine Zas _ rfl _ _ rfl _ (by rw [List.map_toArray];exact HB.out) ?_)
   |((with_reducible refine Zag 4 ?_);refine Zf _ rfl _ _ _ rfl b4 _ Z.toArray rfl rfl HB4.out HL.out rfl (all_oneCell_toArray H1.out) ?_;intro w5 B6 g6))
  exact bodyPost_ret (v:=.agg Z.toArray) (results_cell_row rfl _ _ b4 _ _ _ _ rfl B6 Tryz.underlying153 rfl HL.out) rfl ⟨rfl,Ze b1 g6 Hg4.out⟩
 ·have hd:decide ((sat ss q).kind≠0)=true:=by simp [hz]
  rw [hd] at HH;obtain ⟨i,hi,hil⟩:∃i:Nat,q-1=(i:Int)∧i<ss.length:=by
   by_cases h1:1≤q
   ·refine ⟨(q-1).toNat,by omega,?_⟩;apply Nat.lt_of_not_le;intro hn;apply hz;unfold sat spAt;rw [if_pos h1,List.getElem?_eq_none hn];rfl
   ·exact absurd (by unfold sat;rw [if_neg h1];rfl) hz
  have hs:sat ss q=spAt ss i:=by
   unfold sat;rw [if_pos (by omega),show (q-1).toNat=i by omega]
  rw [hs] at HO ⊢;obtain ⟨b,c,hv,hc⟩:=Zat h.sps (by omega);subst hv;have HR:Hid (∀w',Kb w w'→w'.rangeAt b (i * 39) (sz7 (spAt ss i))):=fun w' hb=>(h.grow hb).range i hil
  have HL:Hid ((Tryz.prog.info? 153).map (·.size)=some (sz7 (spAt ss i)).length):=by
   show _=_;rw [Zr _ HO.out.hk.1];exact Zbk
  have HL2:Hid ((Tryz.prog.info? 153).map (·.size)=some (sz7 (spAt ss i)).toArray.size):=HL.out;have HL3:Hid ((sz7 zs7).toArray.size=(sz7 (spAt ss i)).toArray.size):=by
   show (sz7 zs7).length=(sz7 (spAt ss i)).length;rw [Zr _ HO.out.hk.1];rfl
  have H1:=Za (Zca HO.out);have HZ:=Za Zcp;generalize sz7 zs7=Z at HL3 HZ;generalize sz7 (spAt ss i)=X at HR HL HL2 HL3 H1 ⊢;have hf:=h.few;have hw:wrap64 (i:Int)=(i:Int):=Go.IntWalk.wrap64_in _ (by omega);have i0:(0:Int)≤(i:Int):=by omega
  have i1:(i:Int)<(ss.length:Int):=by omega
  clear h HO hz hd hs hf;go_enter Tryz.func94,Tryz.ntmps94
  go_wp2_with (first
   |((with_reducible refine Zv 4 ?_);refine Zh _ rfl _ rfl _ HZ.out ?_;intro w1 b4 hg4 hl4 B4 b1;have c0:=(HS.out _ b1).c0;have c2:=(HS.out _ b1).c2;have HB4:=Za B4;have Hg4:=Za hg4;clear B4 hg4 hl4)
   |(go_at_call 89;refine (HH.out _ b1).mono ?_;rintro e w' ⟨rfl,hx⟩;rw [hx];clear hx w')
   |((with_reducible refine Zk 17 16 ?_);refine wpList_load_mid rfl _ _ rfl b (i * 39) rfl X _ (HR.out _ b1) Tryz.underlying153 rfl HL.out ?_)
   |((with_reducible refine Zag 4 ?_);refine Zf _ rfl _ _ _ rfl b4 _ X.toArray rfl rfl HB4.out HL2.out HL3.out (all_oneCell_toArray H1.out) ?_;intro w5 B6 g6))
  exact bodyPost_ret (v:=.agg X.toArray) (results_cell_row rfl _ _ b4 _ _ _ _ rfl B6 Tryz.underlying153 rfl HL2.out) rfl ⟨rfl,Ze b1 g6 Hg4.out⟩
theorem Zdr (T f ft off:Nat) (v:Value) (cs:Array Value) (fs:Array Field) (fd:Field) (hu:Tryz.prog.underlying T=some (.struct fs)) (hf:fs[f]?=some fd) (ht:fd.type=ft) (ho:fd.offset=off) (hag:∀w,(isAgg ft).run Tryz.prog w=.ok false w) (hc:cs[off]?=some v) (w:World):(Instr.field T (.agg cs) f).run Tryz.prog w=.ok v w:=by
 subst ht ho;unfold Instr.field;rw [Sem.run_bind,run_underlying hu w];simp only [Result.andThen_ok,hf];rw [Sem.run_bind];show (part fd.type cs fd.offset).run Tryz.prog w=_;unfold part;rw [Sem.run_bind,hag w];simp only [Result.andThen_ok,Bool.false_eq_true,if_false,hc];rfl
theorem Yba (T f ft off:Nat) (cs xs:List Value) (fs:Array Field) (fd:Field) (hu:Tryz.prog.underlying T=some (.struct fs)) (hf:fs[f]?=some fd) (ht:fd.type=ft) (ho:fd.offset=off) (hag:∀w,(isAgg ft).run Tryz.prog w=.ok true w) (hi:(Tryz.prog.info? ft).map (·.size)=some xs.length) (hx:(cs.drop off).take xs.length=xs) (w:World):(Instr.field T (.agg cs.toArray) f).run Tryz.prog w=.ok (.agg xs.toArray) w:=by
 subst ht ho;cases hq:Tryz.prog.info? fd.type with
 | none=>simp [hq] at hi
 | some i=>
  have hz:i.size=xs.length:=by simpa [hq] using hi
  have hex:(cs.toArray).extract fd.offset (fd.offset+xs.length)=xs.toArray:=by
   apply Array.ext';simp only [Array.toList_extract,List.extract_eq_take_drop];rw [show fd.offset+xs.length-fd.offset=xs.length by omega];exact hx
  unfold Instr.field;rw [Sem.run_bind,run_underlying hu w];simp only [Result.andThen_ok,hf];rw [Sem.run_bind];show (part fd.type cs.toArray fd.offset).run Tryz.prog w=_;unfold part;rw [Sem.run_bind,hag w];simp only [Result.andThen_ok,if_true];rw [Sem.run_bind];simp [sizeOf,typeInfo,hq,hz];simpa using hex
theorem Zob {s:Sp} (h:SpOk s):∀w,(Instr.field 153 (.agg (sz7 s).toArray) 0).run Tryz.prog w=.ok (.int .u8 s.kind) w:=fun w=>Zdr 153 0 86 0 _ _ _ _ Tryz.underlying153 rfl rfl rfl Zqj (by simpa using (Zbq s h.hk.1).1) w
theorem Yjk {s:Sp} (h:SpOk s):∀w,(Instr.field 153 (.agg (sz7 s).toArray) 1).run Tryz.prog w=.ok (.int .i64 (s.d:Int)) w:=fun w=>Zdr 153 1 3 1 _ _ _ _ Tryz.underlying153 rfl rfl rfl Zgn (by simpa using (Zbq s h.hk.1).2.1) w
theorem Yjt {s:Sp} (h:SpOk s):∀w,(Instr.field 153 (.agg (sz7 s).toArray) 3).run Tryz.prog w=.ok (.int .i64 (s.l:Int)) w:=fun w=>Zdr 153 3 3 35 _ _ _ _ Tryz.underlying153 rfl rfl rfl Zgn (by simpa using (Zbq s h.hk.1).2.2.2.1) w
theorem Yjs {s:Sp} (h:SpOk s):∀w,(Instr.field 153 (.agg (sz7 s).toArray) 4).run Tryz.prog w=.ok (.int .i64 (s.r:Int)) w:=fun w=>Zdr 153 4 3 36 _ _ _ _ Tryz.underlying153 rfl rfl rfl Zgn (by simpa using (Zbq s h.hk.1).2.2.2.2.1) w
theorem Zmg {s:Sp} (h:SpOk s):∀w,(Instr.field 153 (.agg (sz7 s).toArray) 5).run Tryz.prog w=.ok (.int .i64 (s.own:Int)) w:=fun w=>Zdr 153 5 3 37 _ _ _ _ Tryz.underlying153 rfl rfl rfl Zgn (by simpa using (Zbq s h.hk.1).2.2.2.2.2.1) w
theorem Yjd {s:Sp} (h:SpOk s):∀w,(Instr.field 153 (.agg (sz7 s).toArray) 6).run Tryz.prog w=.ok (.int .i64 (s.sd:Int)) w:=fun w=>Zdr 153 6 3 38 _ _ _ _ Tryz.underlying153 rfl rfl rfl Zgn (by simpa using (Zbq s h.hk.1).2.2.2.2.2.2) w
theorem Zxt:∀w,(isAgg 58).run Tryz.prog w=.ok true w:=fun w=>by kernel_rfl
theorem Ybf {s:Sp} (h:SpOk s):∀w,(Instr.field 153 (.agg (sz7 s).toArray) 2).run Tryz.prog w=.ok (.agg (encP s.key s.val).toArray) w:=fun w=>Yba 153 2 58 2 (sz7 s) (encP s.key s.val) _ _ Tryz.underlying153 rfl rfl rfl Zxt (by rw [Zab _ _ h.hk.1];exact Zlg) (by unfold sz7;simp) w
theorem Yff {k:Lq} {v:Value} (h:k.length=32):∀w,(Instr.field 58 (.agg (encP k v).toArray) 1).run Tryz.prog w=.ok v w:=fun w=>Zdr 58 1 52 32 _ _ _ _ Tryz.underlying58 rfl rfl rfl Zmq (by
 unfold encP;rw [List.getElem?_toArray,List.getElem?_append_right (by simp [h])];simp [h]) w
theorem Ygs {ss:List Sp} (h:Rs w g vp vf room ss fr) (q:Int):Kc 141 #[.pointer (some ⟨g,0,none⟩),.int .i64 q] w fun e w'=>e=.returned ((.int .u8 (sat ss q).kind))∧Kb w w':=by
 have HA:Hid (Kr w 94 #[.pointer (some ⟨g,0,none⟩),.int .i64 q] (.agg (sz7 (sat ss q)).toArray)):=fun w' hb=>Zbc (h.grow hb) q
 have hf0:=Zob (Zbz h q);obtain ⟨c,hc⟩:∃c,c=sat ss q:=⟨_,rfl⟩;rw [← hc] at HA hf0;rw [← hc];generalize (sz7 c).toArray=X at HA hf0;clear hc h;go_enter Tryz.func141,Tryz.ntmps141
 go_wp2_with (first
  |(go_at_call 94;have mk:=m1;clear mk;refine (HA.out _ HB1.out).mono ?_;rintro e w2 ⟨rfl,b2⟩;have HB2:=Za (Zb HB1.out b2);clear b2)
  |(go_at_call 94;refine (HA.out _ (Below.refl _ _)).mono ?_;rintro e w1 ⟨rfl,b1⟩;have HB1:=Za b1;have m1:Hid True:=trivial;clear b1))
 go_ret;exact ⟨rfl,HB1.out⟩
theorem Ygt {ss:List Sp} (h:Rs w g vp vf room ss fr) (q:Int):Kc 102 #[.pointer (some ⟨g,0,none⟩),.int .i64 q] w fun e w'=>e=.returned ((.int .i64 ((sat ss q).own:Int)))∧Kb w w':=by
 have HA:Hid (Kr w 94 #[.pointer (some ⟨g,0,none⟩),.int .i64 q] (.agg (sz7 (sat ss q)).toArray)):=fun w' hb=>Zbc (h.grow hb) q
 have hf0:=Zmg (Zbz h q);obtain ⟨c,hc⟩:∃c,c=sat ss q:=⟨_,rfl⟩;rw [← hc] at HA hf0;rw [← hc];generalize (sz7 c).toArray=X at HA hf0;clear hc h;go_enter Tryz.func102,Tryz.ntmps102
 go_wp2_with (first
  |(go_at_call 94;have mk:=m1;clear mk;refine (HA.out _ HB1.out).mono ?_;rintro e w2 ⟨rfl,b2⟩;have HB2:=Za (Zb HB1.out b2);clear b2)
  |(go_at_call 94;refine (HA.out _ (Below.refl _ _)).mono ?_;rintro e w1 ⟨rfl,b1⟩;have HB1:=Za b1;have m1:Hid True:=trivial;clear b1))
 go_ret;exact ⟨rfl,HB1.out⟩
theorem Ydi {ss:List Sp} (h:Rs w g vp vf room ss fr) (q:Int):Kc 170 #[.pointer (some ⟨g,0,none⟩),.int .i64 q] w fun e w'=>e=.returned ((sat ss q).val)∧Kb w w':=by
 have HA:Hid (Kr w 94 #[.pointer (some ⟨g,0,none⟩),.int .i64 q] (.agg (sz7 (sat ss q)).toArray)):=fun w' hb=>Zbc (h.grow hb) q
 have hf0:=Ybf (Zbz h q);have hp:=@Yff (sat ss q).key (sat ss q).val (Zbz h q).hk.1;obtain ⟨c,hc⟩:∃c,c=sat ss q:=⟨_,rfl⟩;rw [← hc] at HA hf0 hp;rw [← hc];generalize (sz7 c).toArray=X at HA hf0;clear hc h;go_enter Tryz.func170,Tryz.ntmps170
 go_wp2_with (first
  |(go_at_call 94;have mk:=m1;clear mk;refine (HA.out _ HB1.out).mono ?_;rintro e w2 ⟨rfl,b2⟩;have HB2:=Za (Zb HB1.out b2);clear b2)
  |(go_at_call 94;refine (HA.out _ (Below.refl _ _)).mono ?_;rintro e w1 ⟨rfl,b1⟩;have HB1:=Za b1;have m1:Hid True:=trivial;clear b1))
 go_ret;exact ⟨rfl,HB1.out⟩
theorem Ydm {ss:List Sp} (h:Rs w g vp vf room ss fr) (q:Int):Kc 168 #[.pointer (some ⟨g,0,none⟩),.int .i64 q] w fun e w'=>e=.returned ((.tuple #[.int .i64 ((sat ss q).l:Int),.int .i64 ((sat ss q).r:Int)]))∧Kb w w':=by
 have HA:Hid (Kr w 94 #[.pointer (some ⟨g,0,none⟩),.int .i64 q] (.agg (sz7 (sat ss q)).toArray)):=fun w' hb=>Zbc (h.grow hb) q
 have hf0:=Yjt (Zbz h q);have hf1:=Yjs (Zbz h q);obtain ⟨c,hc⟩:∃c,c=sat ss q:=⟨_,rfl⟩;rw [← hc] at HA hf0 hf1;rw [← hc];generalize (sz7 c).toArray=X at HA hf0 hf1;clear hc h;go_enter Tryz.func168,Tryz.ntmps168
 go_wp2_with (first
  |(go_at_call 94;have mk:=m1;clear mk;refine (HA.out _ HB1.out).mono ?_;rintro e w2 ⟨rfl,b2⟩;have HB2:=Za (Zb HB1.out b2);clear b2)
  |(go_at_call 94;refine (HA.out _ (Below.refl _ _)).mono ?_;rintro e w1 ⟨rfl,b1⟩;have HB1:=Za b1;have m1:Hid True:=trivial;clear b1))
 go_ret2;exact ⟨rfl,HB2.out⟩
theorem Zuq {ss:List Sp} (h:Rs w g vp vf room ss fr) (q:Int) (hm:(sat ss q).own+(sat ss q).sd≤1073741824):Kc 90 #[.pointer (some ⟨g,0,none⟩),.int .i64 q] w fun e w'=>e=.returned ((.int .i64 (((sat ss q).own+(sat ss q).sd:Nat):Int)))∧Kb w w':=by
 have HA:Hid (Kr w 94 #[.pointer (some ⟨g,0,none⟩),.int .i64 q] (.agg (sz7 (sat ss q)).toArray)):=fun w' hb=>Zbc (h.grow hb) q
 have hf0:=Zmg (Zbz h q);have hf1:=Yjd (Zbz h q);have hx:wrap64 (((sat ss q).own:Int)+((sat ss q).sd:Int))=(((sat ss q).own+(sat ss q).sd:Nat):Int):=by rw [Go.IntWalk.wrap64_in _ (by omega)];rfl
 obtain ⟨c,hc⟩:∃c,c=sat ss q:=⟨_,rfl⟩;rw [← hc] at HA hf0 hf1 hx;rw [← hc];generalize (sz7 c).toArray=X at HA hf0 hf1;clear hc h hm;go_enter Tryz.func90,Tryz.ntmps90
 go_wp2_with (first
  |(go_at_call 94;have mk:=m1;clear mk;refine (HA.out _ HB1.out).mono ?_;rintro e w2 ⟨rfl,b2⟩;have HB2:=Za (Zb HB1.out b2);clear b2)
  |(go_at_call 94;refine (HA.out _ (Below.refl _ _)).mono ?_;rintro e w1 ⟨rfl,b1⟩;have HB1:=Za b1;have m1:Hid True:=trivial;clear b1))
 go_ret;exact ⟨by rw [← hx];rfl,HB2.out⟩
def dp7 (s:Sp):Int:=if s.kind=2 then (s.d:Int) else -1
theorem Ydt {ss:List Sp} (h:Rs w g vp vf room ss fr) (q:Int):Kc 149 #[.pointer (some ⟨g,0,none⟩),.int .i64 q] w fun e w'=>e=.returned (.int .i64 (dp7 (sat ss q)))∧Kb w w':=by
 have HA:Hid (Kr w 94 #[.pointer (some ⟨g,0,none⟩),.int .i64 q] (.agg (sz7 (sat ss q)).toArray)):=fun w' hb=>Zbc (h.grow hb) q
 have hf0:=Zob (Zbz h q);have hf1:=Yjk (Zbz h q);obtain ⟨c,hc⟩:∃c,c=sat ss q:=⟨_,rfl⟩;rw [← hc] at HA hf0 hf1;rw [← hc];generalize (sz7 c).toArray=X at HA hf0 hf1;clear hc h;unfold dp7
 by_cases hk:c.kind=2
 ·rw [if_pos hk];rw [hk] at hf0;clear hk;go_enter Tryz.func149,Tryz.ntmps149
  go_wp2_with (first
   |(go_at_call 94;have mk:=m1;clear mk;refine (HA.out _ HB1.out).mono ?_;rintro e w2 ⟨rfl,b2⟩;have HB2:=Za (Zb HB1.out b2);clear b2)
   |(go_at_call 94;refine (HA.out _ (Below.refl _ _)).mono ?_;rintro e w1 ⟨rfl,b1⟩;have HB1:=Za b1;have m1:Hid True:=trivial;clear b1))
  go_ret;exact ⟨rfl,HB2.out⟩
 ·rw [if_neg hk];generalize c.kind=K at hk hf0;have hb:(K == 2)=false:=by simp [hk]
  clear hk;go_enter Tryz.func149,Tryz.ntmps149
  go_wp2_with (first
   |(go_at_call 94;refine (HA.out _ (Below.refl _ _)).mono ?_;rintro e w1 ⟨rfl,b1⟩;have HB1:=Za b1;clear b1))
  go_ret;exact ⟨rfl,HB1.out⟩
theorem Ygo {ss:List Sp} (h:Rs w g vp vf room ss fr):Kc 100 #[.pointer (some ⟨g,0,none⟩)] w fun e w'=>e=.returned (.int .i64 (room:Int))∧w'=w:=by
 have c0:=h.c0;have c1:=h.c1;clear h;go_enter Tryz.func100,Tryz.ntmps100
 go_wp2_with (go_at_call 88;refine (Zz g _ c0).mono ?_;rintro e w' ⟨rfl,hx⟩;rw [hx];clear hx w')
 go_ret;exact ⟨rfl,rfl⟩
end Go.Proofs.YtlclabbnpjobgaaGreatDoor
