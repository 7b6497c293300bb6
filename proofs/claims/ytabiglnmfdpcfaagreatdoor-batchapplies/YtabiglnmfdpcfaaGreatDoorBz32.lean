/- The document's Set (rootcellarref04), as a contract. -/
import Derived.Test.YtabiglnmfdpcfaaGreatDoorBz01
import Derived.Test.YtabiglnmfdpcfaaGreatDoorBz31
import Derived.Deep.RegionHeld2
import Derived.Test.YtabiglnmfdpcfaaGreatDoorBz20
import Derived.Deep.CutRange
import Derived.Test.YtabiglnmfdpcfaaGreatDoorBz06
import Derived.Test.YtabiglnmfdpcfaaGreatDoorBz16
namespace Go.Proofs.YtabiglnmfdpcfaaGreatDoor
variable {c g i n n' o:Nat}
variable {es:List Ent}
variable {ov v v':Value}
variable {w w' w0 wb:World}
variable {xs xs':List Value}
set_option maxHeartbeats 8000000
set_option maxRecDepth 20000
open Go.RowKit

end Go.Proofs.YtabiglnmfdpcfaaGreatDoor

namespace Go.Proofs.YtabiglnmfdpcfaaGreatDoor
variable {c g i n n' o:Nat}
variable {es:List Ent}
variable {ov v v':Value}
variable {w w' w0 wb:World}
variable {xs xs':List Value}
set_option maxHeartbeats 8000000
set_option maxRecDepth 20000
open Go.RowKit

def Cop (xs:Lq) (k:Nat) (ys:Lq):Prop:=ys.length=32∧∀j,j<32→ys.getD j 0=if j<k then xs.getD j 0 else 0
set_option maxRecDepth 10000 in
theorem rcmp_any (xs ys:Lq) (w:World) (hx:Key xs) (hy:Key ys):Kc 48 #[.agg (B xs),.agg (B ys)] w fun e w'=>e=.returned (.int .i64 (cmp xs ys))∧Kb w w':=by
  have HX:=hidden hx;have HY:=hidden hy;clear hx hy;go_enter Tryz.func48,Tryz.ntmps48
  go_wp2_with (first | (have hz:=hl1;clear hz;refine wpList_bx _ rfl _ _ rfl _ rfl ?_;intro w2 g2 hg2 hl2 B2 b2;have B1':=B1.grow b2) | (refine wpList_bx _ rfl _ _ rfl _ rfl ?_;intro w1 g1 hg1 hl1 B1 b1))
  have c2:=grow_trans b1 b2;have C1:Hid (∀w',Kb w2 w'→∀i,i<32→w'.cell? ⟨g1,i,none⟩=some (.int .u8 (xs.getD i 0))):=fun w' hw' i hi=>(B1'.grow hw').bcell i (by rw [HX.out.1];exact hi)
  have C2:Hid (∀w',Kb w2 w'→∀i,i<32→w'.cell? ⟨g2,i,none⟩=some (.int .u8 (ys.getD i 0))):=fun w' hw' i hi=>(B2.grow hw').bcell i (by rw [HY.out.1];exact hi)
  clear B1 B1' B2 b1 b2 hg1 hg2 hl1 hl2
  go_loopw [5] (fun i wr=>∃k:Nat,k≤32∧i=.int .i64 k∧Hid (cmp xs ys=cmp (xs.drop k) (ys.drop k))∧Hid (Kb w2 wr)) (fun i _=>32-(intOf i).toNat)
  case atStart=>exact ⟨0,by omega,rfl,rfl,Below.refl _ _⟩
  case round=>
    obtain ⟨k,hk,rfl,hcm,hb⟩:=hrel
    by_cases hk2:k<32
    · have hk':(k:Int)<32:=by omega
      have h1:k<xs.length:=by rw [HX.out.1];exact hk2
      have h2:k<ys.length:=by rw [HY.out.1];exact hk2
      have q1:=C1.out _ hb.out k hk2;have q2:=C2.out _ hb.out k hk2;have HC:Hid (cmp xs ys=if xs.getD k 0<ys.getD k 0 then -1 else if ys.getD k 0<xs.getD k 0 then 1 else cmp (xs.drop (k+1)) (ys.drop (k+1))):=by
        show _=_;rw [hcm.out,drop_getD xs k h1,drop_getD ys k h2,cmp]
      clear h1 h2;generalize xs.getD k 0=p at *;generalize ys.getD k 0=q at *;clear hcm
      by_cases hpq:p<q
      · have HR:Hid (cmp xs ys= -1):=by show _=_;rw [HC.out,if_pos hpq]
        go_wp2_with fail
        go_quiet (fail)
        go_wp2
        go_ret;exact ⟨by rw [HR.out];rfl,below_drewN (grow_trans c2 hb.out) _⟩
      · by_cases hqp:q<p
        · have HR:Hid (cmp xs ys=1):=by show _=_;rw [HC.out,if_neg hpq,if_pos hqp]
          go_wp2_with fail
          go_quiet (fail)
          go_wp2_with fail
          go_quiet (fail)
          go_wp2
          go_ret;exact ⟨by rw [HR.out];rfl,below_drewN (below_drewN (grow_trans c2 hb.out) _) _⟩
        · have HR:Hid (cmp xs ys=cmp (xs.drop (k+1)) (ys.drop (k+1))):=by show _=_;rw [HC.out,if_neg hpq,if_neg hqp]
          go_wp2_with fail
          go_quiet (fail)
          go_wp2_with fail
          go_quiet (fail)
          go_wp2
          exact ⟨⟨k+1,by omega,by go_num,HR,below_drewN hb.out _⟩,by simp [intOf];omega⟩
    · obtain rfl:k=32:=by omega
      have HR:Hid (cmp xs ys=0):=by
        show _=_;rw [hcm.out,List.drop_of_length_le (by rw [HX.out.1];omega),List.drop_of_length_le (by rw [HY.out.1];omega)];rfl
      go_wp2
      go_ret;exact ⟨by rw [HR.out];rfl,grow_trans c2 hb.out⟩

end Go.Proofs.YtabiglnmfdpcfaaGreatDoor

namespace Go.Proofs.YtabiglnmfdpcfaaGreatDoor
variable {c g i n n' o:Nat}
variable {es:List Ent}
variable {ov v v':Value}
variable {w w' w0 wb:World}
variable {xs xs':List Value}
set_option maxHeartbeats 8000000
set_option maxRecDepth 20000
open Go.RowKit

def wrPlaces:Nat→Option (Nat×Nat):=fun i=>(#[(0,32),(32,1),(33,1)]:Array (Nat×Nat))[i]?

theorem builtW_eq (ps:List (Nat×Value)):Tryz.prog.built 37 ps=Instr.fill wrPlaces (encW zW).toArray ps:=by kernel_rfl

theorem enc_part (K:Lq) (a b:Value) (hk:K.length=32):(K.map (Value.int .u8)++[a,b]).drop 33=[b]∧(K.map (Value.int .u8)++[a,b]).take 33=K.map (Value.int .u8)++[a]∧(K.map (Value.int .u8)++[a,b]).drop 34=[]∧(K.map (Value.int .u8)++[a,b]).take 32=K.map (Value.int .u8):=by
  have hl:(K.map (Value.int .u8)).length=32:=by simp [hk]
  refine ⟨?_,?_,?_,?_⟩
  · rw [show (33:Nat)=(K.map (Value.int .u8)).length+1 by omega,List.drop_length_add_append];rfl
  · rw [show (33:Nat)=(K.map (Value.int .u8)).length+1 by omega,List.take_length_add_append];rfl
  · rw [show (34:Nat)=(K.map (Value.int .u8)).length+2 by omega,List.drop_length_add_append];rfl
  · rw [← hl,List.take_left]
theorem fillW_key (K:Lq) (ps:List (Nat×Value)) (hk:K.length=32):Instr.fill wrPlaces (encW zW).toArray ((0,.agg (B K))::ps)=Instr.fill wrPlaces (K.map (Value.int .u8)++[Value.bool false,Value.slice none 0 0]).toArray ps:=by
  rw [fill_one wrPlaces 0 0 32 _ (K.map (Value.int .u8)) _ _ rfl (cells_b K) (by simp [hk]) (by simp [encW,zW,z32])];have:(encW zW).drop (0+32)=[.bool false,.slice none 0 0]:=by rfl
  rw [this];rfl
theorem built_wkg (K:Lq) (g:Bool) (hk:K.length=32):Tryz.prog.built 37 [(0,.agg (B K)),(1,.bool g)]=some (encW ⟨K,g,[],.slice none 0 0⟩).toArray:=by
  obtain ⟨e1,e2,e3,e4⟩:=enc_part K (.bool false) (.slice none 0 0) hk;rw [builtW_eq,fillW_key K _ hk,fill_one wrPlaces 1 32 1 _ [.bool g] _ _ rfl rfl rfl (by simp [hk]),Instr.fill,show 32+1=33 from rfl,e1,e4];simp [encW]
theorem built_wkv (K b:Lq) (a:Option Addr) (l c:Nat) (hk:K.length=32):Tryz.prog.built 37 [(0,.agg (B K)),(2,.slice a l c)]=some (encW ⟨K,false,b,.slice a l c⟩).toArray:=by
  obtain ⟨e1,e2,e3,e4⟩:=enc_part K (.bool false) (.slice none 0 0) hk;rw [builtW_eq,fillW_key K _ hk,fill_one wrPlaces 2 33 1 _ [.slice a l c] _ _ rfl rfl rfl (by simp [hk]),Instr.fill,show 33+1=34 from rfl,e2,e3];simp [encW]

theorem wrAt_take {a:Option Addr} {ls:List Wt} (h:WrAt w (.slice a n c) ls) (p:Nat) (hp:p≤ls.length):WrAt w (sliced a 0 p c 34) (ls.take p):=by
  obtain ⟨a',cap,e,h1,h2,h3,h4,h6⟩:=h;injection e with e1 e2 e3;subst e1;subst e3;unfold sliced;rw [Nat.sub_zero,Nat.sub_zero];refine ⟨_,_,by rw [List.length_take,Nat.min_eq_left hp],by rw [List.length_take];omega,fun ha=>?_,fun hl=>?_,fun x hx=>h4 x (List.mem_of_mem_take hx),fun x hx=>h6 x (List.mem_of_mem_take hx)⟩
  · cases a with
    | none=>have:=h2 rfl;omega
    | some a=>split at ha <;> cases ha
  rw [List.length_take] at hl;obtain ⟨g,off,ea,hr⟩:=h3 (by omega);subst ea;refine ⟨g,off,by split <;> simp [Addr.add_lit],fun i hi=>?_⟩;have hi2:=hi;rw [List.length_take] at hi;rw [getElem!_pos (ls.take p) _ hi2,List.getElem_take,← getElem!_pos ls i (by omega)];exact hr i (by omega)
theorem wrAt_drop {a:Option Addr} {ls:List Wt} (h:WrAt w (.slice a n c) ls) (p:Nat) (hp:p≤ls.length):WrAt w (sliced a p n c 34) (ls.drop p):=by
  obtain ⟨a',cap,e,h1,h2,h3,h4,h6⟩:=h;injection e with e1 e2 e3;subst e1;subst e3;subst e2;unfold sliced;refine ⟨_,_,by rw [List.length_drop],by rw [List.length_drop];omega,fun ha=>?_,fun hl=>?_,fun x hx=>h4 x (List.mem_of_mem_drop hx),fun x hx=>h6 x (List.mem_of_mem_drop hx)⟩
  · cases a with
    | none=>have:=h2 rfl;omega
    | some a=>split at ha <;> cases ha
  have hl2:=hl;rw [List.length_drop] at hl;obtain ⟨g,off,ea,hr⟩:=h3 (by omega);subst ea;rw [if_neg (by omega)];refine ⟨g,off+p * 34,by simp [Addr.add_lit],fun i hi=>?_⟩;have hi2:=hi;rw [List.length_drop] at hi;rw [getElem!_pos (ls.drop p) _ hi2,List.getElem_drop,← getElem!_pos ls (p+i) (by omega),show off+p * 34+i * 34=off+(p+i) * 34 by omega];exact hr (p+i) (by omega)
theorem sizeOf_wr (w:World):(sizeOf (Tryz.prog.elem 23)).run Tryz.prog w=.ok 34 w:=by
  obtain ⟨i,z,hi,_,hs,_⟩:=info_write;have e:Tryz.prog.elem 23=37:=by kernel_rfl
  rw [e];simp [sizeOf,typeInfo,hi,hs]
theorem elem_wr:Tryz.prog.underlying 23=some (.slice (Tryz.prog.elem 23)):=by
  have e:Tryz.prog.elem 23=37:=by kernel_rfl
  rw [e];exact Tryz.underlying23
theorem wpList_slh {ops:Array Oper} {rest:List Oper} {op:Oper} {a:Act} {Q:Exit→Act→World→Prop} (w:World) (hgd:op.guard=none) (x y:Operand) (ho:op.op=.slice 23 x none (some y) none)
    (oa:Option Addr) (om oc p:Nat) (rs:List Wt) (hx:a.eval x=.slice oa om oc) (hy:a.eval y=.int .i64 (p:Int)) (h:WrAt w (.slice oa om oc) rs) (hp:p≤rs.length)
    (hk:∀v1,WrAt w v1 (rs.take p)→wpList Tryz.prog ops Q rest (a.put op.dst v1) w):wpList Tryz.prog ops Q (op::rest) a w:=by
  refine wpList_plain hgd fun K hK=>?_
  have hc:rs.length≤oc:=by
    obtain ⟨a',cap,e,h1,_⟩:=h;injection e with _ _ e3;omega
  have hr:=run_slice_h (P:=Tryz.prog) (w:=w) 23 oa om oc elem_wr .i64 (p:Int) (by omega) (by omega);rw [sizeOf_wr,Result.andThen_ok,Int.toNat_natCast] at hr;have hr2:=run_sliceAt_slice (P:=Tryz.prog) (w:=w) 23 (.slice oa om oc) none (some (.int .i64 (p:Int))) none elem_wr;rw [hr] at hr2;unfold Oper.wp execOp;simp only [ho,hx,hy,Option.map_none,Option.map_some,Sem.run_bind,Sem.run_pure,Result.andThen_ok,hr2];exact hK _ _ (hk _ (wrAt_take h p hp))
theorem wpList_sll {ops:Array Oper} {rest:List Oper} {op:Oper} {a:Act} {Q:Exit→Act→World→Prop} (w:World) (hgd:op.guard=none) (x y:Operand) (ho:op.op=.slice 23 x (some y) none none)
    (oa:Option Addr) (om oc p:Nat) (rs:List Wt) (hx:a.eval x=.slice oa om oc) (hy:a.eval y=.int .i64 (p:Int)) (h:WrAt w (.slice oa om oc) rs) (hp:p≤rs.length)
    (hk:∀v1,WrAt w v1 (rs.drop p)→wpList Tryz.prog ops Q rest (a.put op.dst v1) w):wpList Tryz.prog ops Q (op::rest) a w:=by
  refine wpList_plain hgd fun K hK=>?_
  have hc:om=rs.length:=by
    obtain ⟨a',cap,e,h1,_⟩:=h;injection e with _ e2 _
  have hr:=run_slice_l (P:=Tryz.prog) (w:=w) 23 oa om oc elem_wr .i64 (p:Int) (by omega) (by omega);rw [sizeOf_wr,Result.andThen_ok,Int.toNat_natCast] at hr;have hr2:=run_sliceAt_slice (P:=Tryz.prog) (w:=w) 23 (.slice oa om oc) (some (.int .i64 (p:Int))) none none elem_wr;rw [hr] at hr2;unfold Oper.wp execOp;simp only [ho,hx,hy,Option.map_none,Option.map_some,Sem.run_bind,Sem.run_pure,Result.andThen_ok,hr2];exact hK _ _ (hk _ (wrAt_drop h p hp))

theorem exec_bdw (o:Oper) (a:Act) (ty:TypeId) (parts:Array (Nat×Operand)) (ho:o.op=.build ty parts) (cs:Array Value) (h:Tryz.prog.built ty (parts.map fun (i,x)=>(i,a.eval x)).toList=some cs) (w:World):(execOp a.eval o).run Tryz.prog w=.ok (.value (.agg cs)) w:=by
  unfold execOp;simp only [ho,Sem.run_bind,run_build w ty _ cs h,Result.andThen_ok,Sem.run_pure]

theorem step_al {ops:Array Oper} {o:Oper} {a:Act} {K:Act→World→Prop} {Q:Exit→Act→World→Prop} {E:Prop} (w:World) (hgd:o.guard=none) (ty:TypeId) (ho:o.op=.alloc ty)
    (cs:Array Value) (hz:∀w,(zeroValue ty).run Tryz.prog w=.ok (.agg cs) w)
    (hk:∀w' g,w.heap.size≤g→Blk w' g ty cs→Kb w w'→K (a.put o.dst (.pointer (some ⟨g,0,none⟩))) w'):if Region.wanted o (yielded ops a.tmps)=true then Oper.wp Tryz.prog o a w K Q else E:=by
  have hw:Region.wanted o (yielded ops a.tmps)=true:=by simp [Region.wanted,hgd]
  rw [if_pos hw];unfold Oper.wp execOp;simp [ho,hz,Instr.alloc,newVar,Value.cells,newRow];exact hk _ w.heap.size (Nat.le_refl _) (Blk.new w ty cs) (grow_alloc w _)

structure AccW (wb w:World) (v:Value) (n:Nat) (xs:List Value):Prop where
  own:Lst w 37 34 v n xs
  new:∀g,v.ownBlock=some g→wb.heap.size≤g
  bel:Kb wb w
theorem AccW.nil (w:World):AccW w w (.slice none 0 0) 0 []:=⟨⟨rfl,.inl ⟨rfl,rfl⟩⟩,fun g hg=>by simp [Value.ownBlock] at hg,Below.refl _ _⟩
theorem AccW.grow (h:AccW wb w v n xs) (hb:Kb w w'):AccW wb w' v n xs:=⟨lst_grow h.own hb,h.new,grow_trans h.bel hb⟩
theorem AccW.app (h:AccW wb w v n xs) (k1:Lst w' 37 34 v' n' xs') (k2:w.grownBy w' v.ownBlock) (k3:WhereL w v v'):AccW wb w' v' n' xs':=by
  refine ⟨k1,fun g hg=>?_,h.bel.grown k2 h.bel.size h.new⟩;rcases k3 with k3 | ⟨k,e,k4⟩
  · exact h.new g (by rw [← k3];exact hg)
  · rw [hg] at e
    injection e with e;have:=h.bel.size;omega

structure RoS (w0:World) (ls:List Wt) (i:Nat) (w:World) (ov:Value) (rs:List Wt):Prop where
  own:Lst w 37 34 ov rs.length (flatE encW rs)
  roi:RoI ls i rs
  ok:∀x∈rs,WtOk x∧Reads w x.v x.b∧(x.g=true→x.b=[])
  few:rs.length≤i
  bel:Kb w0 w
theorem RoS.grow {ls rs:List Wt} (h:RoS w0 ls i w ov rs) (hb:Kb w w'):RoS w0 ls i w' ov rs:=⟨lst_grow h.own hb,h.roi,fun x hx=>⟨(h.ok x hx).1,(h.ok x hx).2.1.grow hb,(h.ok x hx).2.2⟩,h.few,grow_trans h.bel hb⟩
theorem RoS.kys {ls rs:List Wt} (h:RoS w0 ls i w ov rs):Kys rs:=fun x hx=>(h.ok x hx).1.hk
theorem RoS.wr {ls rs:List Wt} (h:RoS w0 ls i w ov rs):WrAt w ov rs:=wrAt_own h.own (fun x hx=>(h.ok x hx).1) (fun x hx=>(h.ok x hx).2.1)
def RoPost (ls:List Wt) (w:World) (e:Ending) (w':World):Prop:=∃v rs,e=.returned v∧Lst w' 37 34 v rs.length (flatE encW rs)∧Lat (ls.map nrm) (rs.map nrm)∧(∀x∈rs,WtOk x∧Reads w' x.v x.b∧(x.g=true→x.b=[]))∧rs.length≤ls.length∧Kb w w'

set_option maxRecDepth 100000 in
theorem rorder_any (v:Value) (ls:List Wt) (w:World) (h:WrAt w v ls) (hn:ls.length≤65536) (hlen:∀x∈ls,x.b.length≤140737488355328):Kc 15 #[v] w (RoPost ls w):=by
  obtain ⟨fs,hu⟩:=u_write;have HUW:=hidden hu;have HWR:=hidden h;have HLE:=hidden hlen;obtain ⟨va,vc,rfl,h1,h2,h3,h4,h5⟩:=id h;have HV:=hidden h3;obtain ⟨n,hn0⟩:∃n,n=ls.length:=⟨_,rfl⟩;have HN:Hid (n=ls.length∧n≤65536∧n≤vc):=⟨hn0,by rw [hn0];exact hn,by rw [hn0];exact h1⟩;have HPost:Hid (∀w' ov rs,RoS w ls n w' ov rs→RoPost ls w (.returned ov) w'):=fun w' ov rs k=>⟨ov,rs,rfl,k.own,by have:=k.roi;rw [hn0] at this;exact this.done,k.ok,by have:=k.few;omega,k.bel⟩
  rw [← hn0];have HS0:Hid (RoS w ls 0 w (.slice none 0 0) []):=⟨⟨rfl,.inl ⟨rfl,rfl⟩⟩,RoI.nil ls,fun x hx=>(by cases hx),by simp,Below.refl _ _⟩;clear h hn hu hlen h1 h2 h3 h4 h5 hn0;go_enter Tryz.func15,Tryz.ntmps15
  go_wp2_with fail
  go_loopw [3,4,5,6,7,8,9] (fun ov iv _ _ _ _ _ wr=>∃(i:Nat) (rs:List Wt),iv=.int .i64 (i:Int)∧i≤n∧(∃a m c,ov=.slice a m c)∧Hid (RoS w ls i wr ov rs)) (fun _ iv _ _ _ _ _ _=>n-(intOf iv).toNat)
  case atStart=>exact ⟨0,[],rfl,by omega,⟨_,_,_,rfl⟩,HS0⟩
  case round=>
    clear HS0;obtain ⟨i,rs,rfl,hin,⟨oa,om,oc,rfl⟩,hro⟩:=hrel
    by_cases hlt:i<n
    · as_aux_lemma=>
        have z1:(i:Int)<(n:Int):=by omega
        have z0:(0:Int)≤(i:Int):=by omega
        have hil:i<ls.length:=by have:=HN.out;omega
        obtain ⟨g,off,hva,hrg⟩:=HV.out (by omega);subst hva;obtain ⟨X,hX⟩:∃X,X=ls[i]!:=⟨_,rfl⟩;have hXg:ls[i]?=some X:=by rw [hX,getElem!_pos ls i hil];exact List.getElem?_eq_getElem hil
        have hXm:X∈ls:=List.mem_of_getElem? hXg;have hXo:=HWR.out.ok X hXm;have HXO:=hidden hXo;have HXR:=hidden (HWR.out.reads X hXm);have HXL:=hidden (HLE.out X hXm);have HXG:=hidden hXg;have HRX:Hid (∀w',Kb w w'→w'.rangeAt g (off+i * 34) (encW X)):=fun w' hb=>by rw [hX];exact rngW_grow (hrg i hil) hb
        have HRQ:Hid (∀q,q<n→∀w',Kb w w'→w'.rangeAt g (off+q * 34) (encW ls[q]!)):=fun q hq w' hb=>rngW_grow (hrg q (by have:=HN.out;omega)) hb
        obtain ⟨j,hj⟩:∃j,j=i+1:=⟨_,rfl⟩;have HJ:=hidden hj;have hi2:i≤200000:=by have:=HN.out;omega
        have hwi:=w64_succ hi2 hj;clear hX hXg hXm hXo hrg hil hj hi2
        go_wp2_with fail
        rw [hwi]
        go_loopw [5,6] (fun lv kv wr=>∃(k:Nat) (b:Bool),lv=.bool b∧kv=.int .i64 (k:Int)∧j≤k∧k≤n∧Hid (b=true↔∀q,i<q→q<k→ky ls q≠ky ls i)∧Hid (RoS w ls i wr (.slice oa om oc) rs)) (fun _ kv _=>n-(intOf kv).toNat)
        case atStart=>exact ⟨j,true,rfl,rfl,Nat.le_refl _,by have:=HJ.out;clear hwi;omega,⟨fun _ q h1 h2=>by have:=HJ.out;clear hwi;omega,fun _=>rfl⟩,hro⟩
        case round=>
          clear hro;obtain ⟨k,b,rfl,rfl,hjk,hkn,hb,hro⟩:=hrel
          by_cases hlt2:k<n
          · as_aux_lemma=>
              have y1:(k:Int)<(n:Int):=by clear hwi;omega
              have y0:(0:Int)≤(k:Int):=by clear hwi;omega
              have hk2:k≤200000:=by have:=HN.out;clear hwi;omega
              obtain ⟨k1,hk1⟩:∃k1,k1=k+1:=⟨_,rfl⟩;have HK1:=hidden hk1;have hkl:k<ls.length:=by have:=HN.out;clear hwi;omega
              obtain ⟨Y,hY⟩:∃Y,Y=ls[k]!:=⟨_,rfl⟩;have hYo:WtOk Y:=by rw [hY,getElem!_pos ls k hkl];exact HWR.out.ok _ (List.getElem_mem hkl)
              have HYK:Hid (ky ls k=Y.k∧ky ls i=X.k):=⟨by unfold ky;rw [← hY],ky_get HXG.out⟩;have HRY:Hid (∀w',Kb w w'→w'.rangeAt g (off+k * 34) (encW Y)):=fun w' hb=>by rw [hY];exact HRQ.out k hlt2 w' hb
              have HBL:=hidden hro.out.bel;have y2:=w64_succ hk2 hk1;cases b with
              | false=>
                have HB2:Hid (false=true↔∀q,i<q→q<k1→ky ls q≠ky ls i):=⟨fun h=>(by cases h),fun h=>hb.out.2 fun q q1 q2=>h q q1 (by have:=HK1.out;clear hwi y2;omega)⟩;have HRO:=hidden (hro.out.grow (Below.refl _ _).drew);clear hk1 hk2 hkl hY hYo hb hro
                go_wp2_with fail
                refine wp_region_held_drew (S:=fun _=>True) (by kernel_rfl) (trivial) (fun hHeld=>?_);refine tkp 0 (.bool false) hHeld ?_;simp only [Act.put,zq1,zq2,zq4,zq5,zq6];refine tkp 1 (.bool false) hHeld ?_;simp only [Act.put,zq1,zq2,zq3,zq4,zq5,zq6];refine tks 2 hHeld ?_;simp only [Act.put,zq1,zq2,zq3,zq4,zq5,zq6];refine tks 3 hHeld ?_;simp only [Act.put,zq1,zq2,zq3,zq4,zq5,zq6];refine tks 4 hHeld ?_;simp only [Act.put,zq1,zq2,zq3,zq4,zq5,zq6];refine tks 5 hHeld ?_;simp only [Act.put,zq1,zq2,zq3,zq4,zq5,zq6];refine tks 6 hHeld ?_;simp only [Act.put,zq1,zq2,zq3,zq4,zq5,zq6];refine tks 7 hHeld ?_;simp only [Act.put,zq1,zq2,zq3,zq4,zq5,zq6];refine tks 8 hHeld ?_;simp only [Act.put,zq1,zq2,zq3,zq4,zq5,zq6];refine tks 9 hHeld ?_;simp only [Act.put,zq1,zq2,zq3,zq4,zq5,zq6];refine tks 10 hHeld ?_;simp only [Act.put,zq1,zq2,zq3,zq4,zq5,zq6];refine tks 11 hHeld ?_;simp only [Act.put,zq1,zq2,zq3,zq4,zq5,zq6];refine tks 12 hHeld ?_;simp only [Act.put,zq1,zq2,zq3,zq4,zq5,zq6];refine tkp 13 (.bool false) hHeld ?_;simp only [Act.put,zq1,zq2,zq3,zq4,zq5,zq6];refine tkp 14 (.bool false) hHeld ?_;simp only [Act.put,zq1,zq2,zq3,zq4,zq5,zq6];refine wpAnyH_done (by kernel_rfl) ?_ _
                go_wp2_with fail
                rw [y2];clear y2 hwi;exact ⟨⟨k1,false,rfl,rfl,by have:=HK1.out;omega,by have:=HK1.out;omega,HB2,HRO⟩,by have:=HK1.out;simp [intOf];omega⟩
              | true=>
                obtain ⟨q,hq⟩:∃q:Bool,q=decide (Y.k=X.k):=⟨_,rfl⟩;have EQ:∀w,(Op.equalIn 10000 34 (.agg (B Y.k)) (.agg (B X.k))).run Tryz.prog w=.ok q w:=fun w=>by rw [hq];exact path_eq Y.k X.k hYo.hk.1 HXO.out.hk.1 w
                have HB2:Hid ((!q)=true↔∀q,i<q→q<k1→ky ls q≠ky ls i):=by
                  show _↔_;rw [hq];constructor
                  · intro h p p1 p2
                    by_cases e:p=k
                    · rw [e,HYK.out.1,HYK.out.2]
                      simpa using h
                    · exact hb.out.1 rfl p p1 (by have:=HK1.out;clear hwi y2;omega)
                  · intro h
                    have:=h k (by have:=HJ.out;clear hwi y2;omega) (by have:=HK1.out;clear hwi y2;omega);rw [HYK.out.1,HYK.out.2] at this;simpa using this
                have HLY:Hid ((Tryz.prog.info? 34).map (·.size)=some (B Y.k).toList.length):=by show _=_;rw [B_toList,List.length_map,hYo.hk.1];exact sz_path0
                have HLX:Hid ((Tryz.prog.info? 34).map (·.size)=some (B X.k).toList.length):=by show _=_;rw [B_toList,List.length_map,HXO.out.hk.1];exact sz_path0
                have HRO:=hidden (hro.out.grow (Below.refl _ _).drew);have HRS:Hid (wr.drew.rangeAt g (off+k * 34) (B Y.k).toList∧wr.drew.rangeAt g (off+i * 34) (B X.k).toList):=⟨encW_key (HRY.out _ HRO.out.bel),encW_key (HRX.out _ HRO.out.bel)⟩;clear hk1 hk2 hkl hY hYo hb hro hq HBL
                go_wp2_with fail
                refine wp_region_held_drew (S:=fun w'=>w'.rangeAt g (off+k * 34) (B Y.k).toList∧w'.rangeAt g (off+i * 34) (B X.k).toList) (by kernel_rfl) (HRS.out) (fun hHeld=>?_);refine tkp 0 (.bool true) hHeld ?_;simp only [Act.put,zq1,zq2,zq4,zq5,zq6];refine tkp 1 (.bool true) hHeld ?_;simp only [Act.put,zq1,zq2,zq3,zq4,zq5,zq6];refine tkp 2 (.slice (some ⟨g,off,none⟩) n vc) hHeld ?_;simp only [Act.put,zq1,zq2,zq3,zq4,zq5,zq6];refine tkp 3 (.int .i64 (k:Int)) hHeld ?_;simp only [Act.put,zq1,zq2,zq3,zq4,zq5,zq6];refine tkp 4 (.pointer (some ⟨g,off+k * 34,none⟩)) hHeld ?_;simp only [Act.put,zq1,zq2,zq3,zq4,zq5,zq6];refine tkp 5 (.pointer (some ⟨g,off+k * 34,none⟩)) hHeld ?_;simp only [Act.put,zq1,zq2,zq3,zq4,zq5,zq6];refine tkg 6 (.agg (B Y.k)) rfl (yieldsIf_load_mid rfl 34 (.tmp 29) rfl g (off+k * 34) rfl (B Y.k).toList _ (fun w hS=>hS.1) Tryz.underlying34 rfl HLY.out) hHeld ?_;simp only [Act.put,zq1,zq2,zq3,zq4,zq5,zq6];refine tkp 7 (.slice (some ⟨g,off,none⟩) n vc) hHeld ?_;simp only [Act.put,zq1,zq2,zq3,zq4,zq5,zq6];refine tkp 8 (.int .i64 (i:Int)) hHeld ?_;simp only [Act.put,zq1,zq2,zq3,zq4,zq5,zq6];refine tkp 9 (.pointer (some ⟨g,off+i * 34,none⟩)) hHeld ?_;simp only [Act.put,zq1,zq2,zq3,zq4,zq5,zq6];refine tkp 10 (.pointer (some ⟨g,off+i * 34,none⟩)) hHeld ?_;simp only [Act.put,zq1,zq2,zq3,zq4,zq5,zq6];refine tkg 11 (.agg (B X.k)) rfl (yieldsIf_load_mid rfl 34 (.tmp 34) rfl g (off+i * 34) rfl (B X.k).toList _ (fun w hS=>hS.2) Tryz.underlying34 rfl HLX.out) hHeld ?_;simp only [Act.put,zq1,zq2,zq3,zq4,zq5,zq6];refine tkp 12 (.bool (!q)) hHeld ?_;simp only [Act.put,zq1,zq2,zq3,zq4,zq5,zq6];refine tkp 13 (.bool (!q)) hHeld ?_;simp only [Act.put,zq1,zq2,zq3,zq4,zq5,zq6];refine tkp 14 (.bool (!q)) hHeld ?_;simp only [Act.put,zq1,zq2,zq3,zq4,zq5,zq6];refine wpAnyH_done (by kernel_rfl) ?_ _
                go_wp2_with fail
                rw [y2];clear y2 hwi EQ;exact ⟨⟨k1,!q,rfl,rfl,by have:=HK1.out;omega,by have:=HK1.out;omega,HB2,HRO⟩,by have:=HK1.out;simp [intOf];omega⟩
          · have y1: ¬(k:Int)<(n:Int):=by clear hwi;omega
            have HLA:Hid (b=true↔LastAt ls i):=by
              show _↔_;rw [hb.out];unfold LastAt;rw [show ls.length=k by have:=HN.out;clear hwi;omega]
            clear hb;cases b with
            | false=>
              have HRO:Hid (RoS w ls j wr (.slice oa om oc) rs):=by
                show RoS _ _ _ _ _ _;rw [HJ.out];exact ⟨hro.out.own,hro.out.roi.skip (fun q=>by have:=HLA.out.2 q;cases this),hro.out.ok,Nat.le_succ_of_le hro.out.few,hro.out.bel⟩
              clear hro HLA
              go_wp2_with fail
              rw [hwi];clear hwi;exact ⟨⟨j,rs,rfl,by have:=HJ.out;omega,⟨_,_,_,rfl⟩,HRO⟩,by have:=HJ.out;simp [intOf];omega⟩
            | true=>
              as_aux_lemma=>
                have HLA2:=hidden (HLA.out.1 rfl);clear HLA;obtain ⟨xa,xc,hxv⟩:=HXO.out.hv;obtain ⟨xl,hxl⟩:∃xl,xl=X.b.length:=⟨_,rfl⟩;rw [← hxl] at hxv;obtain ⟨xg,hxg⟩:∃xg,xg=X.g:=⟨_,rfl⟩;have HXE:Hid (X.v=.slice xa xl xc∧xg=X.g):=⟨hxv,hxg⟩;have HW0:Hid (WtOk ⟨X.k,xg,[],.slice none 0 0⟩):=⟨HXO.out.hk,Bytes.nil,none,0,rfl⟩;have HBLD:=hidden (built_wkg X.k xg HXO.out.hk.1);have HSA:Hid ((Tryz.prog.info? 37).map (·.size)=some (encW ⟨X.k,xg,[],.slice none 0 0⟩).toArray.size):=by show _=_;rw [List.size_toArray,HW0.out.len];exact size_write
                have HSZ:Hid ((encW zW).toArray.size=(encW ⟨X.k,xg,[],.slice none 0 0⟩).toArray.size):=by show _=_;rw [List.size_toArray,List.size_toArray,HW0.out.len,zW_ok.len]
                have HON:=hidden HW0.out.all;have HLX:Hid ((Tryz.prog.info? 34).map (·.size)=some (B X.k).toList.length):=by show _=_;rw [B_toList,List.length_map,HXO.out.hk.1];exact sz_path0
                have HBL:=hidden hro.out.bel;have HRS:Hid (∀w',Kb wr w'→w'.rangeAt g (off+i * 34) (encW X)):=fun w' hb=>HRX.out w' (grow_trans HBL.out hb)
                have d0:Kb wr wr.drew:=(Below.refl _ _).drew;clear hxv hxl hxg
                go_wp2_with fail
                refine wp_region_held_drew (S:=fun w'=>w'.rangeAt g (off+i * 34) (encW X)) (by kernel_rfl) (HRS.out _ d0) (fun hHeld=>?_);refine tkp 0 (.slice (some ⟨g,off,none⟩) n vc) hHeld ?_;simp only [Act.put,zq1,zq2,zq4,zq5,zq6];refine tkp 1 (.int .i64 (i:Int)) hHeld ?_;simp only [Act.put,zq1,zq2,zq3,zq4,zq5,zq6];refine tkp 2 (.pointer (some ⟨g,off+i * 34,none⟩)) hHeld ?_;simp only [Act.put,zq1,zq2,zq3,zq4,zq5,zq6];refine tkp 3 (.pointer (some ⟨g,off+i * 34,none⟩)) hHeld ?_;simp only [Act.put,zq1,zq2,zq3,zq4,zq5,zq6];refine tkg 4 (.agg (B X.k)) rfl (yieldsIf_load_mid rfl 34 (.tmp 43) rfl g (off+i * 34) rfl (B X.k).toList _ (fun w hS=>encW_key hS) Tryz.underlying34 rfl HLX.out) hHeld ?_;simp only [Act.put,zq1,zq2,zq3,zq4,zq5,zq6];refine tkp 5 (.slice (some ⟨g,off,none⟩) n vc) hHeld ?_;simp only [Act.put,zq1,zq2,zq3,zq4,zq5,zq6];refine tkp 6 (.int .i64 (i:Int)) hHeld ?_;simp only [Act.put,zq1,zq2,zq3,zq4,zq5,zq6];refine tkp 7 (.pointer (some ⟨g,off+i * 34,none⟩)) hHeld ?_;simp only [Act.put,zq1,zq2,zq3,zq4,zq5,zq6];refine tkp 8 (.pointer (some ⟨g,off+i * 34+32,none⟩)) hHeld ?_;simp only [Act.put,zq1,zq2,zq3,zq4,zq5,zq6];refine tkg 9 (.bool xg) rfl (Or.inl ⟨by rfl,fun w hS=>by (have q1:=encW_gone hS HXO.out.hk.1;have q2:=HXE.out.2;go_simp)⟩) hHeld ?_;simp only [Act.put,zq1,zq2,zq3,zq4,zq5,zq6];refine tkg 10 (.agg (encW ⟨X.k,xg,[],.slice none 0 0⟩).toArray) rfl (Or.inl ⟨by rfl,fun w hS=>exec_bdw _ _ 37 _ (by rfl) _ (by rw [List.map_toArray];exact HBLD.out) w⟩) hHeld ?_;simp only [Act.put,zq1,zq2,zq3,zq4,zq5,zq6];refine wpAnyH_ready (rs:=[11]) (by kernel_rfl) (by simp) ?_;refine AllReadyH.cons rfl (fun KQ hK=>?_) AllReadyH.nil;refine step_al _ rfl _ rfl _ zero_write ?_;intro w3 g7 hg7 bq3 q3;have d3:=grow_trans d0 q3;refine hK.out _ _ (HRS.out _ d3) (fun hHeld=>?_);clear hK KQ;refine wpAnyH_ready (rs:=[12]) (by kernel_rfl) (by simp) ?_;refine AllReadyH.cons rfl (fun KQ hK=>?_) AllReadyH.nil;refine step_sto _ rfl _ _ _ rfl g7 _ (encW ⟨X.k,xg,[],.slice none 0 0⟩).toArray rfl rfl bq3 HSA.out HSZ.out HON.out ?_;intro w4 bq4 r4;have HG7:Hid (wr.heap.size≤g7):=hg7;have d4:=below_row d3 r4 HG7.out;refine hK.out _ _ (HRS.out _ d4) (fun hHeld=>?_);clear hK KQ hg7 bq3 r4 q3 d3 d0;refine wpAnyH_done (by kernel_rfl) ?_ _;have BW0:=hidden bq4;obtain ⟨c5,_⟩:w4.cell? ⟨g7,32,none⟩=some (.bool xg)∧True:=by
                  have h1:=encW_gone (show Blk w4 g7 37 (encW ⟨X.k,xg,[],.slice none 0 0⟩).toArray from bq4).rngW HXO.out.hk.1;rw [Nat.zero_add] at h1;exact ⟨h1,trivial⟩
                clear bq4 HBLD HSA HSZ HON
                go_upto_if 53 with fail
                go_cut [7] from 54 to 61 (fun pv wx=>pv=.pointer (some ⟨g7,0,none⟩)∧∃X',Hid (Blk wx g7 37 (encW X').toArray∧WtOk X'∧Reads wx X'.v X'.b∧nrm X'=nrm X∧(X'.g=true→X'.b=[]))∧Hid (Kb wr wx))
                case first=>
                  cases xg with
                  | true=>
                    have HR1:Hid (Blk w4 g7 37 (encW ⟨X.k,true,[],.slice none 0 0⟩).toArray∧WtOk ⟨X.k,true,[],.slice none 0 0⟩∧Reads w4 (.slice none 0 0) []∧nrm ⟨X.k,true,[],.slice none 0 0⟩=nrm X∧(true=true→([]:Lq)=[])):=⟨BW0.out,HW0.out,Reads.nil _,by unfold nrm;rw [← HXE.out.2];rfl,fun _=>rfl⟩;go_wp2
                    go_meet
                    case rel=>exact ⟨rfl,⟨X.k,true,[],.slice none 0 0⟩,hidden (And.intro BW0.out (And.intro HW0.out (And.intro (Reads.nil _) (And.intro HR1.out.2.2.2.1 (fun _=>rfl))))),hidden d4⟩
                  | false=>
                    have HOE:=hidden (Own.empty w4.heap.size w4 (Nat.le_refl _));have HRE:=hidden ((HXR.out.grow (grow_trans HBL.out d4)).grow (grow_alloc w4 (.cells #[] 5)));have cA:(w4.alloc (.cells #[] 5)).cell? ⟨g,off+i * 34+33,none⟩=some (.slice xa xl xc):=by rw [← HXE.out.1];exact encW_val (HRS.out _ (grow_trans d4 (grow_alloc w4 _))) HXO.out.hk.1
                    rw [HXE.out.1] at HRE;have HSB:Hid ((Tryz.prog.info? 35).map (·.size)=some 1):=by show _=_;kernel_rfl
                    have HGL:Hid (g7<w4.heap.size):=BW0.out.lt
                    go_wp2_with (first
                      |(at_builtin;refine wpList_app _ rfl _ _ rfl w4.heap.size _ _ [] [] X.b HOE.out HRE.out rfl rfl (by simpa using HXL.out) (by simp) ?_;intro v' w6 sp' o6 g6 _ _;have d6:Kb w4 w6:=below_row (grow_alloc w4 _) (by simpa [Value.ownBlock] using g6) (Nat.le_refl _);have HB6:=hidden (BW0.out.grow d6);obtain ⟨ua,uc,rfl⟩:=o6.slice;have HO6:=hidden o6;have HC6:Hid (w6.cell? ⟨g7,33,none⟩=some (.slice none 0 0)∧w6.frozen? ⟨g7,33,none⟩=false):=⟨by have h1:=encW_val HB6.out.rngW HXO.out.hk.1;rw [Nat.zero_add] at h1;exact h1,HB6.out.frozen _⟩;clear o6 g6)
                      |((with_reducible refine at_st 61 ?_);refine wpList_stc _ rfl _ _ _ rfl g7 33 (.slice ua X.b.length uc) _ rfl rfl rfl rfl HC6.out.1 HC6.out.2 HSB.out ?_))
                    have HB7:Hid (Blk (w6.setCell ⟨g7,33,none⟩ (.slice ua X.b.length uc)) g7 37 (encW ⟨X.k,false,X.b,.slice ua X.b.length uc⟩).toArray):=by
                      have h1:=HB6.out.set 33 (.slice ua X.b.length uc);rw [List.setIfInBounds_toArray] at h1;have h2:=encW_setv ⟨X.k,false,[],.slice none 0 0⟩ (.slice ua X.b.length uc) X.b HXO.out.hk.1;simp only at h2;rw [h2];exact h1
                    have HR7:Hid (Reads (w6.setCell ⟨g7,33,none⟩ (.slice ua X.b.length uc)) (.slice ua X.b.length uc) X.b):=(HO6.out.of_block fun k hk=>heap_setCell_other w6 ⟨g7,33,none⟩ k _ (fun e=>by have h1:=(HO6.out.lt k hk).1;have h2:=HGL.out;have e':k=g7:=e;omega)).reads;have d7:Kb wr (w6.setCell ⟨g7,33,none⟩ (.slice ua X.b.length uc)):=setCell_below _ _ (grow_trans d4 d6) HG7.out;have HR1:Hid (Blk (w6.setCell ⟨g7,33,none⟩ (.slice ua X.b.length uc)) g7 37 (encW ⟨X.k,false,X.b,.slice ua X.b.length uc⟩).toArray∧WtOk ⟨X.k,false,X.b,.slice ua X.b.length uc⟩∧Reads (w6.setCell ⟨g7,33,none⟩ (.slice ua X.b.length uc)) (.slice ua X.b.length uc) X.b∧nrm ⟨X.k,false,X.b,.slice ua X.b.length uc⟩=nrm X∧(false=true→X.b=[])):=⟨HB7.out,⟨HXO.out.hk,HXO.out.hb,ua,uc,rfl⟩,HR7.out,by unfold nrm;rw [← HXE.out.2];try simp,fun h=>(by cases h)⟩
                    go_meet
                    case rel=>exact ⟨rfl,⟨X.k,false,X.b,.slice ua X.b.length uc⟩,HR1,hidden d7⟩
                case rest=>
                  obtain ⟨rfl,X',HX1,HBC⟩:=hcut;clear c5 BW0 d4 HW0 HXR HXL HXE;have HRO1:Hid (∀w',Kb wc w'→RoS w ls i w' (.slice oa om oc) rs):=fun w' hb=>hro.out.grow (grow_trans HBC.out hb)
                  have HOM:Hid (om=rs.length):=by
                    obtain ⟨_,_,e⟩:=lst_slice hro.out.own;injection e
                  have HSX':Hid ((Tryz.prog.info? 37).map (·.size)=some (encW X').toArray.size):=by show _=_;rw [List.size_toArray,HX1.out.2.1.len];exact size_write
                  clear hro HBC HRS HBL
                  go_wp2_with fail
                  go_loopw [8] (fun pv wr=>∃p:Nat,pv=.int .i64 (p:Int)∧Hid (p≤rs.length)∧Hid (∀q,q<p→Ahead (ky rs q) X'.k)∧Hid (Kb wc wr)) (fun pv _=>rs.length-(intOf pv).toNat)
                  case atStart=>exact ⟨0,rfl,Nat.zero_le _,fun q hq=>by clear hwi;omega,Below.refl _ _⟩
                  case round=>
                    obtain ⟨p,rfl,HP,HLO,HB2⟩:=hrel
                    by_cases hpo:p<om
                    · as_aux_lemma=>
                        obtain ⟨og,oc',hoa,_⟩:=lst_pos (HRO1.out wc (Below.refl _ _)).own (by have:=HOM.out;clear hwi;omega);injection hoa with hoa hnn hoc;subst hoa;clear hnn hoc;have y1:(p:Int)<(om:Int):=by clear hwi;omega
                        have y0:(0:Int)≤(p:Int):=by clear hwi;omega
                        have hpl:p<rs.length:=by have:=HOM.out;clear hwi;omega
                        obtain ⟨Z,hZ⟩:∃Z,Z=rs[p]!:=⟨_,rfl⟩;have hZo:WtOk Z:=by rw [hZ,getElem!_pos rs p hpl];exact ((HRO1.out wc (Below.refl _ _)).ok _ (List.getElem_mem hpl)).1
                        have HZK:Hid (ky rs p=Z.k):=by show ky _ _=_;unfold ky;rw [← hZ]
                        have HRZ:Hid (∀w',Kb wr w'→w'.rangeAt og (p * 34) (encW Z)∧w'.rangeAt g7 0 (encW X')):=fun w' hb=>by
                          have h1:=(HRO1.out w' (grow_trans HB2.out hb));have h2:=(lstE_range (by have:=h1.own;rw [← HOM.out] at this;exact this) HOM.out.symm (fun x hx=>(h1.ok x hx).1.len) p hpl).1;rw [hZ,getElem!_pos rs p hpl];exact ⟨h2,(HX1.out.1.grow (grow_trans HB2.out hb)).rngW⟩
                        have HLZ:Hid ((Tryz.prog.info? 34).map (·.size)=some (B Z.k).toList.length):=by show _=_;rw [B_toList,List.length_map,hZo.hk.1];exact sz_path0
                        have HLX':Hid ((Tryz.prog.info? 34).map (·.size)=some (B X'.k).toList.length):=by show _=_;rw [B_toList,List.length_map,HX1.out.2.1.hk.1];exact sz_path0
                        have HCR:Hid (∀w',Kc 48 #[.agg (B Z.k),.agg (B X'.k)] w' fun e w''=>e=.returned (.int .i64 (cmp Z.k X'.k))∧Below w'.heap.size w' w''):=fun w'=>rcmp_any Z.k X'.k w' hZo.hk HX1.out.2.1.hk
                        have HCM:Hid (cmp Z.k X'.k<0↔Ahead (ky rs p) X'.k):=by show _↔_;rw [HZK.out];exact al_cmp hZo.hk HX1.out.2.1.hk
                        obtain ⟨r,hr⟩:∃r,r=cmp Z.k X'.k:=⟨_,rfl⟩;rw [← hr] at HCR HCM;obtain ⟨p1,hp1⟩:∃p1,p1=p+1:=⟨_,rfl⟩;have HP1:=hidden hp1;have hp2:p≤200000:=by have:=(HRO1.out wc (Below.refl _ _)).few;have:=HN.out;clear hwi;omega
                        have y2:=w64_succ hp2 hp1;have HPL2:=hidden hpl;clear hZ hZo hr hp1 hp2 hpl
                        go_wp2_with fail
                        have d0:Kb wr wr.drew:=(Below.refl _ _).drew;refine wp_region_held_drew (S:=fun w'=>w'.rangeAt og (p * 34) (encW Z)∧w'.rangeAt g7 0 (encW X')) (by kernel_rfl) (HRZ.out _ d0) (fun hHeld=>?_);refine tkp 0 (.int .i64 (p:Int)) hHeld ?_;simp only [Act.put,zq1,zq2,zq4,zq5,zq6];refine tkp 1 (.slice (some ⟨og,0,none⟩) om oc) hHeld ?_;simp only [Act.put,zq1,zq2,zq3,zq4,zq5,zq6];refine tkp 2 (.int .i64 (om:Int)) hHeld ?_;simp only [Act.put,zq1,zq2,zq3,zq4,zq5,zq6];refine tkp 3 (.bool true) hHeld ?_;simp only [Act.put,zq1,zq2,zq3,zq4,zq5,zq6];refine tkp 4 (.bool true) hHeld ?_;simp only [Act.put,zq1,zq2,zq3,zq4,zq5,zq6];refine tkp 5 (.slice (some ⟨og,0,none⟩) om oc) hHeld ?_;simp only [Act.put,zq1,zq2,zq3,zq4,zq5,zq6];refine tkp 6 (.int .i64 (p:Int)) hHeld ?_;simp only [Act.put,zq1,zq2,zq3,zq4,zq5,zq6];refine tkp 7 (.pointer (some ⟨og,p * 34,none⟩)) hHeld ?_;simp only [Act.put,zq1,zq2,zq3,zq4,zq5,zq6];refine tkp 8 (.pointer (some ⟨og,p * 34,none⟩)) hHeld ?_;simp only [Act.put,zq1,zq2,zq3,zq4,zq5,zq6];refine tkg 9 (.agg (B Z.k)) rfl (yieldsIf_load_mid rfl 34 (.tmp 70) rfl og (p * 34) rfl (B Z.k).toList _ (fun w hS=>encW_key hS.1) Tryz.underlying34 rfl HLZ.out) hHeld ?_;simp only [Act.put,zq1,zq2,zq3,zq4,zq5,zq6];refine tkp 10 (.pointer (some ⟨g7,0,none⟩)) hHeld ?_;simp only [Act.put,zq1,zq2,zq3,zq4,zq5,zq6];refine tkg 11 (.agg (B X'.k)) rfl (yieldsIf_load_mid rfl 34 (.tmp 72) rfl g7 0 rfl (B X'.k).toList _ (fun w hS=>encW_key hS.2) Tryz.underlying34 rfl HLX'.out) hHeld ?_;simp only [Act.put,zq1,zq2,zq3,zq4,zq5,zq6];refine wpAnyH_ready (rs:=[12]) (by kernel_rfl) (by simp) ?_;refine AllReadyH.cons rfl (fun KQ hK=>?_) AllReadyH.nil;go_simp;refine (HCR.out _).mono ?_;rintro e wx ⟨rfl,bx⟩;have d1:=grow_trans d0 bx;refine hK.out _ _ (HRZ.out _ d1) (fun hHeld=>?_);clear hK KQ;refine tkp 13 (.bool (decide (r<0))) hHeld ?_;simp only [Act.put,zq1,zq2,zq3,zq4,zq5,zq6];refine tkp 14 (.bool (decide (r<0))) hHeld ?_;simp only [Act.put,zq1,zq2,zq3,zq4,zq5,zq6];refine wpAnyH_done (by kernel_rfl) ?_ _;clear HRZ HCR HLZ HLX'
                        by_cases hr0:r<0
                        · have HLO2:Hid (∀q,q<p1→Ahead (ky rs q) X'.k):=fun q hq=>by
                            by_cases e:q=p
                            · rw [e];exact HCM.out.1 hr0
                            · exact HLO.out q (by have:=HP1.out;clear hwi y2;omega)
                          have HPP:Hid (p1≤rs.length):=by show p1≤rs.length;have:=HP1.out;have:=HPL2.out;clear hwi y2;omega
                          have HBB:Hid (Kb wc wx):=grow_trans HB2.out d1;clear HCM HLO
                          go_wp2_with fail
                          rw [y2];clear y2 hwi;exact ⟨⟨p1,rfl,HPP,HLO2,HBB⟩,by have:=HP1.out;have:=HPP.out;simp [intOf];omega⟩
                        · have HHI:Hid (p<rs.length→ ¬Ahead (ky rs p) X'.k):=fun _ q=>hr0 (HCM.out.2 q)
                          have HB3:Hid (Kb wc wx):=grow_trans HB2.out d1;clear HB2 HCM y2 d0 d1 bx;have HB2:=HB3;clear HB3;obtain ⟨oa,hoa⟩:∃oa,oa=some (⟨og,0,none⟩:Addr):=⟨_,rfl⟩;rw [← hoa] at HRO1 ⊢;clear hoa;have HA0:=hidden (AccW.nil wx);have HWO:=hidden (HRO1.out wx (HB2.out)).wr;have HBX:=hidden (HX1.out.1.grow HB2.out);have HFIN:Hid (∀w8 u3,AccW wx w8 u3 (rs.length+1) (([]++flatE encW (rs.take p))++encW X'++flatE encW (rs.drop p))→RoS w ls j w8 u3 (rs.take p++X'::rs.drop p)):=fun w8 u3 k=>by
                            have hr:=(HRO1.out wx HB2.out).grow k.bel;have e1:(rs.take p++X'::rs.drop p).length=rs.length+1:=by have:=HP.out;simp;clear hwi;omega
                            refine ⟨by rw [e1,flatE_app];have:=k.own;simpa [flatE] using this,by rw [HJ.out];exact hr.roi.put HXG.out HLA2.out HX1.out.2.2.2.1 hr.kys HX1.out.2.1.hk HP.out HLO.out HHI.out,fun x hx=>?_,?_,hr.bel⟩
                            · rcases List.mem_append.1 hx with hx | hx
                              · exact hr.ok x (List.mem_of_mem_take hx)
                              · rcases List.mem_cons.1 hx with rfl | hx
                                · exact ⟨HX1.out.2.1,(HX1.out.2.2.1.grow HB2.out).grow k.bel,HX1.out.2.2.2.2⟩
                                · exact hr.ok x (List.mem_of_mem_drop hx)
                            · rw [e1]
                              have:=hr.few;have:=HJ.out;simp;clear hwi;omega
                          have HFW:Hid (rs.length+1≤65536):=by show rs.length+1≤65536;have:=(HRO1.out wx HB2.out).few;have:=HN.out;clear hwi;omega
                          have HTD:Hid ((rs.take p).length=p∧(rs.drop p).length=rs.length-p):=⟨by rw [List.length_take];exact Nat.min_eq_left HP.out,List.length_drop⟩;have HL1:Hid (0+(rs.take p).length≤65536∧0+(rs.take p).length+1+(rs.drop p).length≤65536):=by
                            have h1:=HFW.out;have h2:=HP.out;show _∧_;rw [HTD.out.1,HTD.out.2];clear hwi;omega
                          have HE1:Hid (0+(rs.take p).length=p∧p+1+(rs.drop p).length=rs.length+1∧p≤65535∧p+1+(rs.drop p).length≤65536):=by
                            have h1:=HFW.out;have h2:=HP.out;show _∧_;rw [HTD.out.1,HTD.out.2];clear hwi;omega
                          have HIN:=hidden info_write;clear HB2 HLO HHI HRO1
                          go_wp2_with (first
                            |(refine wpList_slh _ rfl _ _ rfl oa om oc p rs rfl rfl HWO.out HP.out ?_;intro v1 hv1)
                            |(refine wpList_appWs _ rfl _ _ rfl _ _ 0 [] (rs.take p) rfl rfl HA0.out.own hv1 HL1.out.1 ?_;intro u1 w5 k1 k2 k3;rw [HE1.out.1] at k1;have HA1:=hidden (HA0.out.app k1 k2 k3);clear HA0 k2 k3 hv1;obtain ⟨ua1,uc1,rfl⟩:=lst_slice k1;clear k1;have HB5:=hidden (HBX.out.grow HA1.out.bel))
                            |((with_reducible refine at_ldd 85 7 ?_);refine wpList_lds _ rfl _ _ rfl g7 _ _ rfl HB5.out HUW.out HSX'.out ?_)
                            |(refine wpList_bsw _ rfl _ rfl X' rfl HX1.out.2.1.len ?_;intro w6 g6 hg6 B6 b6;have HA2:=hidden (HA1.out.grow b6);clear HA1)
                            |(refine wpList_appL _ rfl _ _ _ rfl 37 34 64 Tryz.underlying23 HIN.out (by omega) _ _ _ rfl HA2.out.own g6 (encW X') rfl B6 HX1.out.2.1.len HX1.out.2.1.one (by have:=HE1.out;simp only [maxLen];clear hwi;omega) (by have:=HE1.out;clear hwi;omega) ?_;intro u2 w7 k1 k2 k3;have HA3:=hidden (HA2.out.app k1 k2 k3);clear HA2 k2 k3;obtain ⟨ua2,uc2,rfl⟩:=lst_slice k1;clear k1 B6;have HWO2:=hidden (HWO.out.grow HA3.out.bel))
                            |(refine wpList_sll _ rfl _ _ rfl oa om oc p rs rfl rfl HWO2.out HP.out ?_;intro v2 hv2)
                            |(refine wpList_appWs _ rfl _ _ rfl _ _ _ _ (rs.drop p) rfl rfl HA3.out.own hv2 HE1.out.2.2.2 ?_;intro u3 w8 k1 k2 k3;rw [HE1.out.2.1] at k1;have HA4:=hidden (HA3.out.app k1 k2 k3);clear k2 k3 hv2;obtain ⟨ua3,uc3,rfl⟩:=lst_slice k1;clear k1))
                          have HRF:=hidden (HFIN.out _ _ HA4.out);rw [hwi];clear hwi;exact ⟨⟨j,_,rfl,by have:=HJ.out;omega,⟨_,_,_,rfl⟩,HRF⟩,by have:=HJ.out;simp [intOf];omega⟩
                    · as_aux_lemma=>
                        have y1: ¬(p:Int)<(om:Int):=by clear hwi;omega
                        have HHI:Hid (p<rs.length→ ¬Ahead (ky rs p) X'.k):=fun q=>absurd q (by have:=HOM.out;clear hwi;omega)
                        go_wp2_with fail
                        refine wp_region_held_drew (S:=fun _=>True) (by kernel_rfl) (trivial) (fun hHeld=>?_);refine tkp 0 (.int .i64 (p:Int)) hHeld ?_;simp only [Act.put,zq1,zq2,zq4,zq5,zq6];refine tkp 1 (.slice oa om oc) hHeld ?_;simp only [Act.put,zq1,zq2,zq3,zq4,zq5,zq6];refine tkp 2 (.int .i64 (om:Int)) hHeld ?_;simp only [Act.put,zq1,zq2,zq3,zq4,zq5,zq6];refine tkp 3 (.bool false) hHeld ?_;simp only [Act.put,zq1,zq2,zq3,zq4,zq5,zq6];refine tkp 4 (.bool false) hHeld ?_;simp only [Act.put,zq1,zq2,zq3,zq4,zq5,zq6];refine tks 5 hHeld ?_;simp only [Act.put,zq1,zq2,zq3,zq4,zq5,zq6];refine tks 6 hHeld ?_;simp only [Act.put,zq1,zq2,zq3,zq4,zq5,zq6];refine tks 7 hHeld ?_;simp only [Act.put,zq1,zq2,zq3,zq4,zq5,zq6];refine tks 8 hHeld ?_;simp only [Act.put,zq1,zq2,zq3,zq4,zq5,zq6];refine tks 9 hHeld ?_;simp only [Act.put,zq1,zq2,zq3,zq4,zq5,zq6];refine tks 10 hHeld ?_;simp only [Act.put,zq1,zq2,zq3,zq4,zq5,zq6];refine tks 11 hHeld ?_;simp only [Act.put,zq1,zq2,zq3,zq4,zq5,zq6];refine tks 12 hHeld ?_;simp only [Act.put,zq1,zq2,zq3,zq4,zq5,zq6];refine tks 13 hHeld ?_;simp only [Act.put,zq1,zq2,zq3,zq4,zq5,zq6];refine tkp 14 (.bool false) hHeld ?_;simp only [Act.put,zq1,zq2,zq3,zq4,zq5,zq6];refine wpAnyH_done (by kernel_rfl) ?_ _;have HB3:Hid (Kb wc wr.drew):=grow_trans HB2.out (Below.refl _ _).drew;clear HB2;have HB2:=HB3;clear HB3;obtain ⟨wx,hwx⟩:∃wx,wx=wr.drew:=⟨_,rfl⟩;rw [← hwx] at HB2 ⊢;clear hwx;have HA0:=hidden (AccW.nil wx);have HWO:=hidden (HRO1.out wx (HB2.out)).wr;have HBX:=hidden (HX1.out.1.grow HB2.out);have HFIN:Hid (∀w8 u3,AccW wx w8 u3 (rs.length+1) (([]++flatE encW (rs.take p))++encW X'++flatE encW (rs.drop p))→RoS w ls j w8 u3 (rs.take p++X'::rs.drop p)):=fun w8 u3 k=>by
                          have hr:=(HRO1.out wx HB2.out).grow k.bel;have e1:(rs.take p++X'::rs.drop p).length=rs.length+1:=by have:=HP.out;simp;clear hwi;omega
                          refine ⟨by rw [e1,flatE_app];have:=k.own;simpa [flatE] using this,by rw [HJ.out];exact hr.roi.put HXG.out HLA2.out HX1.out.2.2.2.1 hr.kys HX1.out.2.1.hk HP.out HLO.out HHI.out,fun x hx=>?_,?_,hr.bel⟩
                          · rcases List.mem_append.1 hx with hx | hx
                            · exact hr.ok x (List.mem_of_mem_take hx)
                            · rcases List.mem_cons.1 hx with rfl | hx
                              · exact ⟨HX1.out.2.1,(HX1.out.2.2.1.grow HB2.out).grow k.bel,HX1.out.2.2.2.2⟩
                              · exact hr.ok x (List.mem_of_mem_drop hx)
                          · rw [e1]
                            have:=hr.few;have:=HJ.out;simp;clear hwi;omega
                        have HFW:Hid (rs.length+1≤65536):=by show rs.length+1≤65536;have:=(HRO1.out wx HB2.out).few;have:=HN.out;clear hwi;omega
                        have HTD:Hid ((rs.take p).length=p∧(rs.drop p).length=rs.length-p):=⟨by rw [List.length_take];exact Nat.min_eq_left HP.out,List.length_drop⟩;have HL1:Hid (0+(rs.take p).length≤65536∧0+(rs.take p).length+1+(rs.drop p).length≤65536):=by
                          have h1:=HFW.out;have h2:=HP.out;show _∧_;rw [HTD.out.1,HTD.out.2];clear hwi;omega
                        have HE1:Hid (0+(rs.take p).length=p∧p+1+(rs.drop p).length=rs.length+1∧p≤65535∧p+1+(rs.drop p).length≤65536):=by
                          have h1:=HFW.out;have h2:=HP.out;show _∧_;rw [HTD.out.1,HTD.out.2];clear hwi;omega
                        have HIN:=hidden info_write;clear HB2 HLO HHI HRO1
                        go_wp2_with (first
                          |(refine wpList_slh _ rfl _ _ rfl oa om oc p rs rfl rfl HWO.out HP.out ?_;intro v1 hv1)
                          |(refine wpList_appWs _ rfl _ _ rfl _ _ 0 [] (rs.take p) rfl rfl HA0.out.own hv1 HL1.out.1 ?_;intro u1 w5 k1 k2 k3;rw [HE1.out.1] at k1;have HA1:=hidden (HA0.out.app k1 k2 k3);clear HA0 k2 k3 hv1;obtain ⟨ua1,uc1,rfl⟩:=lst_slice k1;clear k1;have HB5:=hidden (HBX.out.grow HA1.out.bel))
                          |((with_reducible refine at_ldd 85 7 ?_);refine wpList_lds _ rfl _ _ rfl g7 _ _ rfl HB5.out HUW.out HSX'.out ?_)
                          |(refine wpList_bsw _ rfl _ rfl X' rfl HX1.out.2.1.len ?_;intro w6 g6 hg6 B6 b6;have HA2:=hidden (HA1.out.grow b6);clear HA1)
                          |(refine wpList_appL _ rfl _ _ _ rfl 37 34 64 Tryz.underlying23 HIN.out (by omega) _ _ _ rfl HA2.out.own g6 (encW X') rfl B6 HX1.out.2.1.len HX1.out.2.1.one (by have:=HE1.out;simp only [maxLen];clear hwi;omega) (by have:=HE1.out;clear hwi;omega) ?_;intro u2 w7 k1 k2 k3;have HA3:=hidden (HA2.out.app k1 k2 k3);clear HA2 k2 k3;obtain ⟨ua2,uc2,rfl⟩:=lst_slice k1;clear k1 B6;have HWO2:=hidden (HWO.out.grow HA3.out.bel))
                          |(refine wpList_sll _ rfl _ _ rfl oa om oc p rs rfl rfl HWO2.out HP.out ?_;intro v2 hv2)
                          |(refine wpList_appWs _ rfl _ _ rfl _ _ _ _ (rs.drop p) rfl rfl HA3.out.own hv2 HE1.out.2.2.2 ?_;intro u3 w8 k1 k2 k3;rw [HE1.out.2.1] at k1;have HA4:=hidden (HA3.out.app k1 k2 k3);clear k2 k3 hv2;obtain ⟨ua3,uc3,rfl⟩:=lst_slice k1;clear k1))
                        have HRF:=hidden (HFIN.out _ _ HA4.out);rw [hwi];clear hwi;exact ⟨⟨j,_,rfl,by have:=HJ.out;omega,⟨_,_,_,rfl⟩,HRF⟩,by have:=HJ.out;simp [intOf];omega⟩
    · have z1: ¬(i:Int)<(n:Int):=by omega
      have HP:=hidden (HPost.out wr _ rs (by rw [show n=i by omega];exact hro.out));clear hro;go_wp2
      go_ret;exact HP.out

end Go.Proofs.YtabiglnmfdpcfaaGreatDoor

namespace Go.Proofs.YtabiglnmfdpcfaaGreatDoor
variable {c g i n n' o:Nat}
variable {es:List Ent}
variable {ov v v':Value}
variable {w w' w0 wb:World}
variable {xs xs':List Value}
set_option maxHeartbeats 8000000
set_option maxRecDepth 20000
open Go.RowKit

def e00:Ent:=([],[])
def encP (k:Lq) (v:Value):List Value:=k.map (Value.int .u8)++[v]
theorem encP_length (k:Lq) (v:Value) (h:k.length=32):(encP k v).length=33:=by simp [encP,h]

def PrAt (w:World) (v:Value) (V:Nat→Value) (es:List Ent):Prop:=
  ∃a cap,v=.slice a es.length cap∧es.length≤cap∧(0<es.length→∃g off,a=some ⟨g,off,none⟩∧∀i,i<es.length→w.rangeAt g (off+i * 33) (encP (es.getD i e00).1 (V i)))∧
    ∀i,i<es.length→Key (es.getD i e00).1∧Reads w (V i) (es.getD i e00).2

theorem rng_grow {cs:List Value} (h:w.rangeAt g o cs) (hb:Kb w w'):w'.rangeAt g o cs:=fun j v hv=>(hb.cell (p:=⟨g,o+j,none⟩) (block_lt_of_cell (h j v hv))).trans (h j v hv)

theorem PrAt.grow {V:Nat→Value} (h:PrAt w v V es) (hb:Kb w w'):PrAt w' v V es:=by
  obtain ⟨a,cap,e,h1,h2,h3⟩:=h;refine ⟨a,cap,e,h1,fun hp=>?_,fun i hi=>⟨(h3 i hi).1,(h3 i hi).2.grow hb⟩⟩;obtain ⟨g,off,ea,hr⟩:=h2 hp;exact ⟨g,off,ea,fun i hi=>rng_grow (hr i hi) hb⟩
theorem PrAt.keys {V:Nat→Value} (h:PrAt w v V es):∀e∈es,Key e.1:=by
  intro e he;obtain ⟨_,_,_,_,_,h3⟩:=h;obtain ⟨i,hi,rfl⟩:=List.mem_iff_getElem.1 he;have:=(h3 i hi).1;simpa [List.getD,hi] using this

def lsE:List (Lq)→List Ent→Int
  | _,[]=>0
  | ks,e::r=>if 1024<e.2.length then 4 else if e.1∈ks then 6 else lsE (ks++[e.1]) r
def errB (es:List Ent):Int:=if 4096<es.length then 4 else lsE [] es
theorem lsE_step (ks:List (Lq)) (es:List Ent) (k:Nat) (hk:k<es.length):lsE ks (es.drop k)=if 1024<(es.getD k e00).2.length then 4 else if (es.getD k e00).1∈ks then 6 else lsE (ks++[(es.getD k e00).1]) (es.drop (k+1)):=by
  rw [List.drop_eq_getElem_cons hk,lsE];simp [List.getD,hk]
theorem keys_take (es:List Ent) (k:Nat) (hk:k<es.length):(es.take (k+1)).map (·.1)=(es.take k).map (·.1)++[(es.getD k e00).1]:=by
  rw [List.take_add_one,List.map_append];simp [List.getD,hk]

theorem lsE_ok:∀(ks:List (Lq)) (es:List Ent),lsE ks es=0→(∀e∈es,e.2.length≤1024)∧Apart1 es∧∀e∈es,e.1 ∉ ks
  | ks,[],_=>⟨by simp,List.Pairwise.nil,by simp⟩
  | ks,e::r,h=>by
    rw [lsE] at h;split at h
    · omega
    · rename_i h1
      split at h
      · omega
      · rename_i h2
        obtain ⟨a,b,c⟩:=lsE_ok _ r h;refine ⟨fun x hx=>?_,List.pairwise_cons.2 ⟨fun x hx e1=>?_,b⟩,fun x hx=>?_⟩
        · rcases List.mem_cons.1 hx with rfl | hx
          · omega
          · exact a x hx
        · exact c x hx (by simp [e1])
        · rcases List.mem_cons.1 hx with rfl | hx
          · exact h2
          · exact fun hm=>c x hx (by simp [hm])
theorem lsE_of:∀(ks:List (Lq)) (es:List Ent),(∀e∈es,e.2.length≤1024)→Apart1 es→(∀e∈es,e.1 ∉ ks)→lsE ks es=0
  | ks,[],_,_,_=>rfl
  | ks,e::r,h1,h2,h3=>by
    have a:=h1 e (by simp);rw [lsE,if_neg (by omega),if_neg (h3 e (by simp))];refine lsE_of _ r (fun x hx=>h1 x (by simp [hx])) (List.pairwise_cons.1 h2).2 (fun x hx hm=>?_);rcases List.mem_append.1 hm with hm | hm
    · exact h3 x (by simp [hx]) hm
    · have:x.1=e.1:=by simpa using hm
      exact (List.pairwise_cons.1 h2).1 x hx this.symm
theorem size_pair:(Tryz.prog.info? 62).map (·.size)=some 33:=by kernel_rfl

theorem u_pair:∃fs,Tryz.prog.underlying 62=some (.struct fs):=⟨_,Tryz.underlying62⟩

theorem wpList_ldp {ops:Array Oper} {rest:List Oper} {op:Oper} {a:Act} {Q:Exit→Act→World→Prop} (w:World) (hgd:op.guard=none) (x:Operand) (ho:op.op=.load 62 x)
    (g o:Nat) (k:Lq) (v:Value) (hx:a.eval x=.pointer (some ⟨g,o,none⟩)) (h:w.rangeAt g o (encP k v)) (hl:k.length=32)
    (hk:wpList Tryz.prog ops Q rest (a.put op.dst (.agg (encP k v).toArray)) w):wpList Tryz.prog ops Q (op::rest) a w:=by
  obtain ⟨fs,hu⟩:=u_pair;exact wpList_load_mid hgd 62 x ho g o hx (encP k v) _ h hu rfl (by rw [encP_length k v hl];exact size_pair) hk

theorem wpList_ldk {ops:Array Oper} {rest:List Oper} {op:Oper} {a:Act} {Q:Exit→Act→World→Prop} (w:World) (hgd:op.guard=none) (x:Operand) (ho:op.op=.load 34 x)
    (g o:Nat) (k:Lq) (hx:a.eval x=.pointer (some ⟨g,o,none⟩)) (h:w.rangeAt g o (B k).toList) (hl:k.length=32)
    (hk:wpList Tryz.prog ops Q rest (a.put op.dst (.agg (B k))) w):wpList Tryz.prog ops Q (op::rest) a w:=
  wpList_load_mid hgd 34 x ho g o hx (B k).toList _ h Tryz.underlying34 rfl (by rw [B_toList,List.length_map,hl];exact sz_path) (by simpa using hk)

end Go.Proofs.YtabiglnmfdpcfaaGreatDoor
