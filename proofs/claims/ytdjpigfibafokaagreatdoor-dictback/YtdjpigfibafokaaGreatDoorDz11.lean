/- The statements' own helpers on bytes, as contracts: SameBytes, LentBytes, KeptBytes, OverBytes. -/
import Derived.Test.YtdjpigfibafokaaGreatDoorDz01
import Derived.Test.YtdjpigfibafokaaGreatDoorDz02
import Derived.Test.YtdjpigfibafokaaGreatDoorDz10
import Derived.Laws.CopyOwn
import Derived.Deep.RegionLaw
import Derived.Deep.RegionHeld2
namespace Go.Proofs.YtdjpigfibafokaaGreatDoor
variable {bk ws zs:Lq}
variable {c g:Nat}
variable {v:Value}
variable {w w':World}
set_option maxHeartbeats 8000000
set_option maxRecDepth 20000
open Go.RowKit

def marks (n:Nat):Lq:=(List.range 5).map fun k=>200+((n+k:Nat):Int) % 50

def x5 (z:Int):Int:=bits .xor .u8 z 90

end Go.Proofs.YtdjpigfibafokaaGreatDoor

namespace Go.Proofs.YtdjpigfibafokaaGreatDoor
variable {bk ws zs:Lq}
variable {c g:Nat}
variable {v:Value}
variable {w w':World}
set_option maxHeartbeats 8000000
set_option maxRecDepth 20000
open Go.RowKit

theorem one_reads (w:World) (z:Int) (h0:0≤z) (h1:z≤255):Reads (w.alloc (.cells #[.int .u8 z] 5)) (.slice (some ⟨w.heap.size,0,none⟩) 1 1) [z]:=by
  refine ⟨_,1,rfl,Nat.le_refl _,fun h=>by simp at h,?_,fun _=>⟨w.heap.size,0,rfl,?_⟩⟩
  · intro y hy
    simp at hy;subst hy;exact ⟨h0,h1⟩
  · intro i hi
    have hr:(w.alloc (.cells #[.int .u8 z] 5)).heap[w.heap.size]?=some (.cells #[.int .u8 z] 5 (0,0)):=heap_alloc_new w _;rw [cell_of_row _ _ _ _ _ _ hr]
    match i,hi with
    | 0,_=>rfl

theorem zero_hash:∀w,(zeroValue 36).run Tryz.prog w=.ok (.agg (B (List.replicate 32 0))) w:=Tryz.zeroValue36
theorem size_hash:(Tryz.prog.info? 36).map (·.size)=some 32:=by kernel_rfl

def PadPost (zs:Lq) (w:World) (e:Ending) (w':World):Prop:=∃v sp,e=.returned v∧Own w.heap.size w' v zs sp∧Kb w w'

theorem padding_any (n:Nat) (w:World) (hn:n<1152921504606846976):Kc 240 #[.int .i64 (n:Int)] w (PadPost (pad n) w):=by
  obtain ⟨q,hq⟩:∃q,q=(119-n % 64) % 64:=⟨_,rfl⟩;have HQ:=hidden hq;have q64:q<64:=by omega
  clear hq;go_enter Tryz.func240,Tryz.ntmps240
  go_wp2_with (first | (at_make;refine wpList_mk _ rfl _ _ rfl _ _ _ _ (q+1) (q+9) rfl rfl (by have:=HQ.out;omega) (by have:=HQ.out;omega) (by omega) (by omega) ?_;intro w1 hr1 hb1 hs1;have hc0:=hr1.cell 0 (by simp);have hf0:=hr1.frozen 0;have i0:(0:Int)<((q+1:Nat):Int):=by omega))
  have HO:Hid (Own w.heap.size (w1.setCell ⟨w.heap.size,0,none⟩ (.int .u8 128)) (.slice (some ⟨w.heap.size,0,none⟩) (q+1) (q+9)) ((128::List.replicate q 0)++be8 (8 * (n:Int)) 0) (List.replicate 8 0)):=by
    have h1:=hr1.set 0 128;have e:(List.replicate (q+9) (0:Int)).set 0 128=((128::List.replicate q 0)++be8 (8 * (n:Int)) 0)++List.replicate 8 0:=by
      rw [show q+9=(q+8)+1 by omega,List.replicate_succ,List.set_cons_zero,show List.replicate (q+8) (0:Int)=List.replicate q 0++List.replicate 8 0 from (List.replicate_append_replicate).symm];simp [be8]
    rw [e] at h1;have h2:=Own.mk (base:=w.heap.size) (zs:=(128::List.replicate q 0)++be8 (8 * (n:Int)) 0) (sp:=List.replicate 8 0) (by intro z hz;simp [be8] at hz;rcases hz with rfl | ⟨_,rfl⟩ <;> omega) (Bytes.zeros 8) (by simp [be8,maxLen];omega) (Nat.le_refl _) h1;have e2:((128::List.replicate q 0)++be8 (8 * (n:Int)) 0).length=q+1:=by simp [be8]
    rw [e2,show q+1+(List.replicate 8 (0:Int)).length=q+9 by simp] at h2;exact h2
  have hb2:Kb w (w1.setCell ⟨w.heap.size,0,none⟩ (.int .u8 128)):=setCell_below _ _ hb1 (Nat.le_refl _);clear hr1 hb1 hs1 hc0 hf0
  go_loopw [4,6] (fun v i wr=>∃(j:Nat) (a:Option Addr) (c:Nat) (sp:Lq),j≤8∧i=.int .i64 (56-8 * (j:Int))∧v=.slice a (q+1+j) c∧Hid (Own w.heap.size wr (.slice a (q+1+j) c) ((128::List.replicate q 0)++be8 (8 * (n:Int)) j) sp)∧Kb w wr) (fun _ i _=>(intOf i+8).toNat)
  case atStart=>exact ⟨0,_,_,_,by omega,rfl,rfl,HO,hb2⟩
  case round=>
    clear HO hb2;obtain ⟨j,a,c,sp,hj,rfl,rfl,hO,hbl⟩:=hrel
    by_cases hlt:j<8
    · obtain ⟨s,hs⟩:∃s:Nat,56-8 * (j:Int)=(s:Int):=⟨56-8 * j,by omega⟩
      have HS:Hid (s=56-8 * j):=by show s=_;omega
      have s0:(0:Int)≤(s:Int):=by omega
      have s1:(s:Int)<64:=by omega
      rw [hs];have HE:Hid (be8 (8 * (n:Int)) (j+1)=be8 (8 * (n:Int)) j++[(n:Int) * 8 / 2 ^ s % 256]):=by
        show _=_;rw [be8,HS.out,show 8 * (7-j)=56-8 * j by omega,Int.mul_comm]
      have HLen:Hid (((128::List.replicate q 0)++be8 (8 * (n:Int)) j).length=q+1+j):=by
        show _=_;simp [be8_length];omega
      have z0:0≤(n:Int) * 8 / 2 ^ s % 256:=by omega
      have z1:(n:Int) * 8 / 2 ^ s % 256≤255:=by omega
      clear hs
      go_wp2_with (at_builtin;refine wpList_app _ rfl _ _ rfl w.heap.size _ _ ((128::List.replicate q 0)++be8 (8 * (n:Int)) j) sp [(n:Int) * 8 / 2 ^ s % 256] (hO.out.grow (grow_alloc _ _)) (one_reads _ _ z0 z1) rfl rfl (by rw [HLen.out];simp;omega) (by have:=hbl.size;simp;omega) ?_;intro v' w' sp' h1 h2 h3 h4)
      obtain ⟨a',c',hv'⟩:=h1.slice;have hv2:v'=.slice a' (q+1+(j+1)) c':=by
        rw [hv',List.length_append,HLen.out];rfl
      subst hv2;rw [List.append_assoc,← HE.out] at h1;have hb':Kb w w':=(hbl.trans ((grow_alloc wr _).mono hbl.size)).grown h2 (by have:=hbl.size;simp;omega) (fun k hk=>(hO.out.lt k hk).1);refine ⟨⟨j+1,a',c',sp',by omega,?_,rfl,h1,hb'⟩,?_⟩
      · have:=HS.out
        congr 1
        omega
      · have:=HS.out
        simp [intOf];omega
    · obtain rfl:j=8:=by omega
      rw [show (56:Int)-8 * ((8:Nat):Int)= -8 from rfl];go_wp2
      go_ret;refine ⟨_,sp,rfl,?_,hbl⟩;have:=hO.out;rw [pad,← HQ.out];exact this

theorem out_take (ws:Lq) (k:Nat) (hk:k<ws.length):out (ws.take (k+1))=out (ws.take k)++[ws.getD k 0 / 16777216 % 256,ws.getD k 0 / 65536 % 256,ws.getD k 0 / 256 % 256,ws.getD k 0 % 256]:=by
  unfold out;rw [List.take_succ_eq_append_getElem hk,List.flatMap_append];simp [List.getD,hk]

theorem four_set (p:Lq) (m:Nat) (a b c d:Int):((((p++List.replicate (m+4) 0).set p.length a).set (p.length+1) b).set (p.length+2) c).set (p.length+3) d=p++[a,b,c,d]++List.replicate m 0:=by
  rw [show List.replicate (m+4) (0:Int)=0::0::0::0::List.replicate m 0 from rfl];simp

theorem bytesOf_any (ws:Lq) (w:World) (hw:ws.length=8):Kc 241 #[.agg (U ws)] w fun e w'=>e=.returned (.agg (B (out ws)))∧Kb w w':=by
  have HW:=hidden hw;have SZ:Hid ((U ws).size=8):=by rw [U_size];exact hw
  clear hw;go_enter Tryz.func241,Tryz.ntmps241
  go_wp2_with (first | (refine wpList_bx _ rfl _ _ rfl _ rfl ?_;intro w1 g1 hg1 hl1 B1 b1) | (have hh2:=hl2;clear hh2;refine wpList_al _ rfl _ rfl _ zero_hash ?_;intro w3 g3 hg3 hl3 B3 b3;have BB1:=(B1.grow b2).grow b3) | (refine wpList_al _ rfl _ rfl _ zero_hash ?_;intro w2 g2 hg2 hl2 B2 b2) | (refine wpList_ld _ rfl _ _ rfl g1 _ rfl BB1 8 _ Tryz.underlying315 (by rw [SZ.out];exact size_w8) ?_))
  have s1:=b1.size;have s2:=b2.size;have s3:=b3.size;have HB2:=hidden (B2.grow b3);have HB3:Hid (Blk w3 g3 36 (B (out (ws.take 0)++List.replicate (32-4 * 0) 0))):=B3;have hbl:=(b1.trans (b2.mono s1)).trans (b3.mono (Nat.le_trans s1 s2));clear B1 B2 B3 b1 b2 b3 BB1;have n2:g2≠g3:=by omega
  have n3:w.heap.size≤g3:=by omega
  have n4:w.heap.size≤g2:=by omega
  clear hg1 hg2 hg3 hl1 hl2 hl3 s1 s2 s3
  go_loopw [7] (fun i wr=>∃k:Nat,k≤8∧i=.int .i64 k∧Hid (Blk wr g2 36 (B (List.replicate 32 0)))∧Hid (Blk wr g3 36 (B (out (ws.take k)++List.replicate (32-4 * k) 0)))∧Kb w wr) (fun i _=>8-(intOf i).toNat)
  case atStart=>exact ⟨0,by omega,rfl,HB2,HB3,hbl⟩
  case round=>
    clear HB2 HB3 hbl;obtain ⟨k,hk,rfl,hB2,hB3,hbl⟩:=hrel
    by_cases hlt:k<8
    · have hix:=index_w8 ws k HW.out hlt
      have hlen:(out (ws.take k)).length=4 * k:=by rw [out_length,List.length_take,HW.out];omega
      have hc:∀i:Nat,i<32→∃z,wr.cell? ⟨g3,i,none⟩=some (.int .u8 z):=fun i hi=>⟨_,hB3.out.bcell i (by simp [hlen];omega)⟩
      obtain ⟨y0,c0⟩:=hc (4 * k) (by omega);obtain ⟨y1,c1⟩:=hc (4 * k+1) (by omega);obtain ⟨y2,c2⟩:=hc (4 * k+2) (by omega);obtain ⟨y3,c3⟩:=hc (4 * k+3) (by omega);have f0:=hB3.out.frozen (4 * k);have f1:=hB3.out.frozen (4 * k+1);have f2:=hB3.out.frozen (4 * k+2);have f3:=hB3.out.frozen (4 * k+3);have k0:(0:Int)≤(k:Int):=by omega
      have k1:(k:Int)<8:=by omega
      have j0:4 * (k:Int)<32:=by omega
      have j1:4 * (k:Int)+1<32:=by omega
      have j2:4 * (k:Int)+2<32:=by omega
      have j3:4 * (k:Int)+3<32:=by omega
      have n0:(0:Int)≤4 * (k:Int):=by omega
      have n1':(0:Int)≤4 * (k:Int)+1:=by omega
      have n2':(0:Int)≤4 * (k:Int)+2:=by omega
      have n3':(0:Int)≤4 * (k:Int)+3:=by omega
      have r0:IntKind.i64.wrap (4 * (k:Int))=4 * (k:Int):=by rw [IntKind.wrap_i64];omega
      have r1:IntKind.i64.wrap (4 * (k:Int)+1)=4 * (k:Int)+1:=by rw [IntKind.wrap_i64];omega
      have r2:IntKind.i64.wrap (4 * (k:Int)+2)=4 * (k:Int)+2:=by rw [IntKind.wrap_i64];omega
      have r3:IntKind.i64.wrap (4 * (k:Int)+3)=4 * (k:Int)+3:=by rw [IntKind.wrap_i64];omega
      have e0:(4 * (k:Int)).toNat=4 * k:=by omega
      have e1:(4 * (k:Int)+1).toNat=4 * k+1:=by omega
      have e2:(4 * (k:Int)+2).toNat=4 * k+2:=by omega
      have e3:(4 * (k:Int)+3).toNat=4 * k+3:=by omega
      have HT:=hidden (out_take ws k (by have:=HW.out;omega));have HF:=hidden (four_set (out (ws.take k)) (32-4 * (k+1)));have HLn:=hidden hlen;clear hc hlen;generalize ws.getD k 0=x at *;have HN:Hid (∀a b c d:Int,((((out (ws.take k)++List.replicate (32-4 * k) 0).set (4 * k) a).set (4 * k+1) b).set (4 * k+2) c).set (4 * k+3) d=out (ws.take k)++[a,b,c,d]++List.replicate (32-4 * (k+1)) 0):=by
        intro a b c d;have:=HF.out a b c d;rw [HLn.out,show 32-4 * (k+1)+4=32-4 * k by omega] at this;exact this
      go_wp2_with fail
      have hn:=(((hB3.out.set (4 * k) (.int .u8 (x / 16777216 % 256))).set (4 * k+1) (.int .u8 (x / 65536 % 256))).set (4 * k+2) (.int .u8 (x / 256 % 256))).set (4 * k+3) (.int .u8 (x % 256));rw [B_set,B_set,B_set,B_set,HN.out,← HT.out] at hn;exact ⟨⟨k+1,by omega,by go_num,(((hB2.out.other _ _ n2).other _ _ n2).other _ _ n2).other _ _ n2,hn,setCell_below _ _ (setCell_below _ _ (setCell_below _ _ (setCell_below _ _ hbl n3) n3) n3) n3⟩,by simp [intOf];omega⟩
    · obtain rfl:k=8:=by omega
      have HF:Hid (Blk wr g3 36 (B (out ws))):=by
        have:Blk wr g3 36 (B (out (ws.take 8)++List.replicate (32-4 * 8) 0)):=hB3.out;rw [List.take_of_length_le (by have:=HW.out;omega),show 32-4 * 8=0 from rfl,List.replicate_zero,List.append_nil] at this;exact this
      have HS:Hid ((B (out ws)).size=32):=by rw [B_size,out_length,HW.out];exact rfl
      go_wp2_with (first | (refine wpList_ld _ rfl _ _ rfl g3 _ rfl HF.out 32 _ Tryz.underlying36 (by rw [HS.out];exact size_hash) ?_) | (refine wpList_sto _ rfl _ _ _ rfl g2 _ _ rfl rfl hB2.out (by rw [HS.out];exact size_hash) (by rw [HS.out,B_size];simp) (B_one _) ?_;intro wZ BZ gZ))
      exact bodyPost_ret (v:=.agg (B (out ws))) (results_cell_row rfl _ _ g2 _ _ _ _ rfl BZ Tryz.underlying36 rfl (by rw [HS.out];exact size_hash)) rfl ⟨rfl,below_row hbl gZ n4⟩

end Go.Proofs.YtdjpigfibafokaaGreatDoor

namespace Go.Proofs.YtdjpigfibafokaaGreatDoor
variable {bk ws zs:Lq}
variable {c g:Nat}
variable {v:Value}
variable {w w':World}
set_option maxHeartbeats 8000000
set_option maxRecDepth 20000
open Go.RowKit

theorem run_copy_blk {ops:Array Oper} {o:Oper} {a:Act} {K:Act→World→Prop} {Q:Exit→Act→World→Prop} {E:Prop} (w:World) (hgd:o.guard=none) (d s:Operand)
    (hop:o.op=.call { callee:=.builtin .copy,args:= #[d,s],argTypes:= #[30,30]})
    (g off dl dc:Nat) (cur:Array Value) (t:TypeId) (ys:Lq) (sv:Value) (hr:Blk w g t cur) (hs:Reads w sv ys) (hd:a.eval d=.slice (some ⟨g,off,none⟩) dl dc) (hx:a.eval s=sv) (m:Nat) (hm:m=min ys.length dl) (hpos:0<m) (hfit:off+m≤cur.size)
    (h:∀w',Blk w' g t (cur.toList.take off++((ys.take m).map (Value.int .u8)++cur.toList.drop (off+m))).toArray→w.grownBy w' (some g)→w'.heap.size=w.heap.size→K (a.put o.dst (.int .i64 (m:Nat))) w'):
    if Region.wanted o (yielded ops a.tmps)=true then Oper.wp Tryz.prog o a w K Q else E:=by
  have hw:Region.wanted o (yielded ops a.tmps)=true:=by simp [Region.wanted,hgd]
  rw [if_pos hw];have hs':=hs;obtain ⟨sa,sc,rfl,h1,h2,h3,h4⟩:=hs';obtain ⟨b,o',rfl,hc⟩:=h4 (by omega);have hlen:((ys.take m).map (Value.int .u8)).length=Nat.min ys.length dl:=by
    have:Nat.min ys.length dl=min ys.length dl:=rfl;rw [this,List.length_map,List.length_take];omega
  have hl2:((ys.take m).map (Value.int .u8)).length=m:=by rw [List.length_map,List.length_take];omega
  have hsrc:∀j v,((ys.take m).map (Value.int .u8))[j]?=some v→w.cell? ((⟨b,o',none⟩:Addr).add j)=some v:=by
    intro j v hv;refine (hs.cells rfl).2 j v ?_;have hj:=(List.getElem?_eq_some_iff.1 hv).1;rw [hl2] at hj;rw [List.map_take,List.getElem?_take,if_pos (by omega)] at hv;exact hv
  have hone:=ints_oneCell .u8 (ys.take m);generalize (ys.take m).map (Value.int .u8)=cs at *;have hrun:=run_copy_row (P:=Tryz.prog) w 30 30 o.type 5 g off dl dc ⟨b,o',none⟩ ys.length sc cur t cs u_bytes size_byte hr hlen hsrc (by omega) hone;rw [hl2] at hrun;unfold Oper.wp;simp [execOp,hop,resolve,invoke,builtin,hd,hx,hrun,Result.andThen];exact h _ (setRow_heap w g _ _ _ _ hr) ⟨rfl,rfl,rfl,by simp,fun k _ hk=>setRow_other w g k _ (fun e=>hk (by simp [e]))⟩ (by simp)

theorem Blk.cells {g:Nat} {t:TypeId}:∀(vs:List Value) (o:Nat) {w:World} {cs:Array Value},Blk w g t cs→o+vs.length≤cs.size→
    Blk (w.setCells g o vs) g t (cs.toList.take o++(vs++cs.toList.drop (o+vs.length))).toArray
  | [],o,w,cs,h,_=>by
    have:(cs.toList.take o++([]++cs.toList.drop (o+([]:List Value).length))).toArray=cs:=by simp
    rw [this];exact h
  | v::vs,o,w,cs,h,hf=>by
    have h1:=Blk.cells vs (o+1) (h.set o v) (by simp at hf ⊢;omega);have e:((cs.setIfInBounds o v).toList.take (o+1)++(vs++(cs.setIfInBounds o v).toList.drop (o+1+vs.length))).toArray=(cs.toList.take o++((v::vs)++cs.toList.drop (o+(v::vs).length))).toArray:=by
      congr 1
      simp only [Array.toList_setIfInBounds,List.length_cons];have ho:o<cs.toList.length:=by simp at hf ⊢;omega
      rw [List.take_set,List.drop_set,if_pos (by omega),show o+1+vs.length=o+(vs.length+1) by omega,List.take_succ_eq_append_getElem ho,List.set_append_right _ _ (by rw [List.length_take];exact Nat.min_le_left _ _),List.length_take,Nat.min_eq_left (Nat.le_of_lt ho),Nat.sub_self,List.set_cons_zero];simp
    rw [e] at h1;exact h1

theorem Cs_toList (ws bk:Lq) (c:Int) (m:Bool):(Cs ws bk c m).toList=ws.map (Value.int .u32)++(bk.map (Value.int .u8)++[Value.int .i64 c,Value.bool m]):=by simp [Cs]
theorem Cs_words (ws ws' bk:Lq) (c:Int) (m:Bool) (h:ws.length=ws'.length):((Cs ws bk c m).toList.take 0++((ws'.map (Value.int .u32))++(Cs ws bk c m).toList.drop (0+(ws'.map (Value.int .u32)).length))).toArray=Cs ws' bk c m:=by
  rw [Cs_toList];have:0+(ws'.map (Value.int .u32)).length=(ws.map (Value.int .u32)).length:=by simp [h]
  rw [this];simp [Cs]
theorem Cs_count (ws bk:Lq) (c d:Int) (m:Bool) (hw:ws.length=8) (hb:bk.length=64):(Cs ws bk c m).setIfInBounds 72 (.int .i64 d)=Cs ws bk d m:=by
  apply Array.ext';rw [Array.toList_setIfInBounds,Cs_toList,Cs_toList,List.set_append_right _ _ (by simp [hw]),List.set_append_right _ _ (by simp [hw,hb])];simp [hw,hb]
theorem Cs_block (ws bk ys:Lq) (c:Int) (m:Bool) (f n:Nat) (hw:ws.length=8) (hb:bk.length=64) (hf:f+n≤64):((Cs ws bk c m).toList.take (8+f)++(ys.map (Value.int .u8)++(Cs ws bk c m).toList.drop (8+f+n))).toArray=Cs ws (bk.take f++ys++bk.drop (f+n)) c m:=by
  rw [Cs_toList];have e1:(ws.map (Value.int .u32)++(bk.map (Value.int .u8)++[Value.int .i64 c,Value.bool m])).take (8+f)=ws.map (Value.int .u32)++(bk.take f).map (Value.int .u8):=by
    rw [List.take_append,List.take_of_length_le (by simp;omega)];simp [hw,List.take_append,hb,show f-64=0 by omega,List.map_take]
  have e2:(ws.map (Value.int .u32)++(bk.map (Value.int .u8)++[Value.int .i64 c,Value.bool m])).drop (8+f+n)=(bk.drop (f+n)).map (Value.int .u8)++[Value.int .i64 c,Value.bool m]:=by
    rw [List.drop_append,List.drop_of_length_le (by simp;omega)];simp [hw,List.drop_append,hb,show 8+f+n-8=f+n by omega,show f+n-64=0 by omega,List.map_drop]
  rw [e1,e2];simp [Cs,List.append_assoc]

def Txt (w:World) (g:Nat) (l:Lq):Prop:=∃bk,St w g (eat l (l.length / 64)) bk (l.length:Int)∧bk.take (l.length % 64)=l.drop (64 * (l.length / 64))∧Bytes l
theorem Txt.grow {l:Lq} (h:Txt w g l) (hb:Kb w w'):Txt w' g l:=by
  obtain ⟨bk,h1,h2⟩:=h;exact ⟨bk,h1.grow hb,h2⟩
theorem Txt.lt {l:Lq} (h:Txt w g l):g<w.heap.size:=by
  obtain ⟨bk,h1,_⟩:=h;exact h1.1.lt

theorem some_part (l bk ys:Lq) (f n:Nat) (hf:f=l.length % 64) (hn:ys.length=n) (hb:bk.length=64) (h:bk.take f=l.drop (64 * (l.length / 64))) (hlt:f+n<64):
    eat (l++ys) ((l++ys).length / 64)=eat l (l.length / 64)∧(bk.take f++ys++bk.drop (f+n)).take ((l++ys).length % 64)=(l++ys).drop (64 * ((l++ys).length / 64)):=by
  have e1:(l++ys).length / 64=l.length / 64:=by rw [List.length_append];omega
  have e2:(l++ys).length % 64=f+n:=by rw [List.length_append];omega
  rw [e1,e2];refine ⟨eat_append l ys _ (by omega),?_⟩;rw [List.drop_append_of_le_length (by omega),← h,List.take_left' (by simp;omega)]

theorem whole_part (l bk ys:Lq) (f n:Nat) (hf:f=l.length % 64) (hn:ys.length=n) (hb:bk.length=64) (h:bk.take f=l.drop (64 * (l.length / 64))) (hlt:f+n=64):
    eat (l++ys) ((l++ys).length / 64)=stp (eat l (l.length / 64)) (bk.take f++ys++bk.drop (f+n))∧(bk.take f++ys++bk.drop (f+n)).take ((l++ys).length % 64)=(l++ys).drop (64 * ((l++ys).length / 64)):=by
  have e1:(l++ys).length / 64=l.length / 64+1:=by rw [List.length_append];omega
  have e2:(l++ys).length % 64=0:=by rw [List.length_append];omega
  have e3:bk.drop (f+n)=[]:=List.drop_of_length_le (by omega);rw [e1,e2,e3,List.append_nil];refine ⟨?_,?_⟩
  · simp only [eat]
    rw [eat_append l ys _ (by omega),List.drop_append_of_le_length (by omega),← h,List.take_of_length_le (by simp;omega)]
  · rw [List.take_zero,List.drop_of_length_le (by rw [List.length_append];omega)]

end Go.Proofs.YtdjpigfibafokaaGreatDoor

namespace Go.Proofs.YtdjpigfibafokaaGreatDoor
variable {bk ws zs:Lq}
variable {c g:Nat}
variable {v:Value}
variable {w w':World}
set_option maxHeartbeats 8000000
set_option maxRecDepth 20000
open Go.RowKit

def movedTo (a:Option Addr) (c n:Nat):Option Addr:=if c=n then a else a.map fun x=>x.add n
def slen:Value→Nat
  | .slice _ n _=>n
  | _=>0

theorem Reads.drop {a:Option Addr} {L:Nat} (h:Reads w (.slice a L c) zs) (n:Nat) (hn:n≤L):Reads w (.slice (movedTo a c n) (L-n) (c-n)) (zs.drop n):=by
  obtain ⟨a',c',e,h1,h2,h3,h4⟩:=h;injection e with e1 e2 e3;subst e1;subst e3;refine ⟨movedTo a c n,c-n,?_,by rw [List.length_drop];omega,?_,h3.drop n,?_⟩
  · rw [List.length_drop,e2]
  · intro hm
    unfold movedTo at hm
    by_cases hc:c=n
    · omega
    · rw [if_neg hc] at hm
      have:=h2 (by cases a with
        | none=>rfl
        | some x=>simp at hm)
      omega
  · intro hp
    rw [List.length_drop] at hp;obtain ⟨b,off,rfl,hc⟩:=h4 (by omega);refine ⟨b,off+n,?_,fun i hi=>?_⟩
    · unfold movedTo
      rw [if_neg (by omega)];simp [Addr.add_lit]
    · rw [List.length_drop] at hi
      have:=hc (n+i) (by omega);rw [← Nat.add_assoc] at this;rw [this];simp [List.getD,List.getElem?_drop]
theorem movedTo_own (a:Option Addr) (L c L' c' n:Nat) (g:Nat) (h:(Value.slice a L c).ownBlock≠some g):(Value.slice (movedTo a c n) L' c').ownBlock≠some g:=by
  unfold movedTo
  by_cases hc:c=n
  · rw [if_pos hc]
    cases a with
    | none=>simp [Value.ownBlock]
    | some x=>simpa [Value.ownBlock] using h
  · rw [if_neg hc]
    cases a with
    | none=>simp [Value.ownBlock]
    | some x=>
      have:(x.add n).block=x.block:=by unfold Addr.add;split <;> rfl
      simpa [Value.ownBlock,this] using h

theorem Reads.kept (h:Reads w v zs) (hg:w.grownBy w' (some g)) (hv:0<zs.length→v.ownBlock≠some g):Reads w' v zs:=by
  obtain ⟨a,cap,e,h1,h2,h3,h4⟩:=h;refine ⟨a,cap,e,h1,h2,h3,fun hp=>?_⟩;obtain ⟨b,off,ea,hc⟩:=h4 hp;refine ⟨b,off,ea,fun i hi=>?_⟩;have hlt:=block_lt_of_cell (hc i hi);have hb:b≠g:=by
    intro e2;apply hv hp;rw [e,ea,e2];rfl
  have:=hg.block b hlt (fun e=>hb (by injection e));rw [← hc i hi];unfold World.cell?;simp only [this]
theorem Laid.kept (h:Laid w) (hg:w.grownBy w' (some g)) (h2:2≤g):Laid w':=by
  obtain ⟨h0,h1,h3⟩:=h;have e1:=hg.block 1 (by omega) (fun e=>by injection e;omega);have e0:=hg.block 0 (by omega) (fun e=>by injection e;omega);refine ⟨Nat.le_trans h0 hg.size,fun i hi=>?_,fun i hi=>?_⟩
  · rw [← h1 i hi]
    unfold World.cell?;simp only [e1]
  · rw [← h3 i hi]
    unfold World.cell?;simp only [e0]

theorem step_ldm {ops:Array Oper} {o:Oper} {a:Act} {K:Act→World→Prop} {Q:Exit→Act→World→Prop} {E:Prop} (w:World) (hgd:o.guard=none) (ty:TypeId) (x:Operand) (ho:o.op=.load ty x)
    (b off:Nat) (hx:a.eval x=.pointer (some ⟨b,off,none⟩)) (cs:List Value) (hc:w.rangeAt b off cs) (d:TypeDesc) (hu:Tryz.prog.underlying ty=some d) (hd:d.isRow=true) (hi:(Tryz.prog.info? ty).map (·.size)=some cs.length)
    (h:K (a.put o.dst (.agg cs.toArray)) w):if Region.wanted o (yielded ops a.tmps)=true then Oper.wp Tryz.prog o a w K Q else E:=by
  have hw:Region.wanted o (yielded ops a.tmps)=true:=by simp [Region.wanted,hgd]
  rw [if_pos hw];exact wp_load_mid ty x ho b off hx cs d hc hu hd hi h

theorem step_stm {ops:Array Oper} {o:Oper} {a:Act} {K:Act→World→Prop} {Q:Exit→Act→World→Prop} {E:Prop} (w:World) (hgd:o.guard=none) (ty:TypeId) (x y:Operand) (ho:o.op=.store ty x y)
    (b off:Nat) (cells:Array Value) (hx:a.eval x=.pointer (some ⟨b,off,none⟩)) (hy:a.eval y=.agg cells) (ht:w.there b off cells.size) (hi:(Tryz.prog.info? ty).map (·.size)=some cells.size) (h1:cells.all (·.oneCell')=true)
    (h:K (a.put o.dst undef) (w.setCells b off cells.toList)):if Region.wanted o (yielded ops a.tmps)=true then Oper.wp Tryz.prog o a w K Q else E:=by
  have hw:Region.wanted o (yielded ops a.tmps)=true:=by simp [Region.wanted,hgd]
  rw [if_pos hw];exact wp_store_mid ty x y ho b off cells hx hy ht hi h1 h

theorem St.words {c:Int} (h:St w g ws bk c):w.rangeAt g 0 (U ws).toList:=by
  intro j v hv;have hj:j<8:=by have:=(List.getElem?_eq_some_iff.1 hv).1;simpa [U_toList,h.2.1] using this
  rw [Nat.zero_add,h.word j hj];rw [U_toList,List.getElem?_map,List.getElem?_eq_getElem (by have:=h.2.1;omega)] at hv;have:=h.2.1;simp [List.getD,this,hj];simpa using hv
theorem St.there {c:Int} (h:St w g ws bk c):w.there g 0 8:=by
  intro j hj;rw [Nat.zero_add];exact ⟨by rw [h.word j hj];rfl,h.1.frozen j⟩
theorem St.stepped {ws':Lq} {c:Int} (h:St w g ws bk c) (hl:ws'.length=8):St (w.setCells g 0 (U ws').toList) g ws' bk c:=by
  obtain ⟨h1,h2,h3,h4⟩:=h;have h5:=h1.cells (U ws').toList 0 (by rw [Cs_size _ _ _ _ h2 h3,U_toList,List.length_map];omega);rw [U_toList] at h5 ⊢;rw [Cs_words ws ws' bk c true (by omega)] at h5;exact ⟨h5,hl,h3,h4⟩
theorem grown_setCells (g:Nat):∀(vs:List Value) (o:Nat) (w:World),w.grownBy (w.setCells g o vs) (some g)
  | [],_,w=>World.grownBy.refl _ _
  | v::vs,o,w=>by
    rw [World.setCells];exact grown_trans (grown_setCell w g o v) (grown_setCells g vs (o+1) _)

theorem st_block {c:Int} (h:St w g ws bk c) (f m:Nat) (ys:Lq) (hy:ys.length=m) (hf:f+m≤64) (hb:Bytes ys)
    (hB:Blk w' g 318 ((Cs ws bk c true).toList.take (8+f)++(ys.map (Value.int .u8)++(Cs ws bk c true).toList.drop (8+f+m))).toArray):St w' g ws (bk.take f++ys++bk.drop (f+m)) c:=by
  obtain ⟨h1,h2,h3,h4⟩:=h;rw [Cs_block ws bk ys c true f m h2 h3 hf] at hB;exact ⟨hB,h2,by simp [hy,h3];omega,((h4.take f).append hb).append (h4.drop _)⟩

theorem st_count {c:Int} (h:St w g ws bk c) (d:Int):St (w.setCell ⟨g,72,none⟩ (.int .i64 d)) g ws bk d:=by
  obtain ⟨h1,h2,h3,h4⟩:=h;have:=h1.set 72 (.int .i64 d);rw [Cs_count ws bk c d true h2 h3] at this;exact ⟨this,h2,h3,h4⟩

set_option maxRecDepth 20000 in
theorem write_any (g:Nat) (v:Value) (l bs:Lq) (w:World) (hT:Txt w g l) (hr:Reads w v bs) (hv:0<bs.length→v.ownBlock≠some g) (hL:Laid w) (hg:2≤g) (hlen:l.length+bs.length≤1152921504606846976):
    Kc 189 #[.pointer (some ⟨g,0,none⟩),v] w fun e w'=>e=.returned (.int .i64 (bs.length:Int))∧Txt w' g (l++bs)∧Laid w'∧w.grownBy w' (some g):=by
  have hm:w.cell? ⟨g,73,none⟩=some (.bool true):=by
    obtain ⟨bk,h1,_⟩:=hT;exact h1.made
  have HT:=hidden hT;have HR:=hidden hr;have HV:=hidden hv;have HL:=hidden hL;obtain ⟨a,c,rfl,hlc,_,_,_⟩:=hr;clear hT hv hL;go_enter Tryz.func189,Tryz.ntmps189
  go_wp2_with (go_at_call 237;refine (good_at _ _ _ hm).mono ?_;rintro e w' ⟨rfl,hw'⟩;rw [hw'];clear hw')
  clear hm
  go_loopw [5] (fun r wr=>∃(k:Nat) (a':Option Addr) (c':Nat),k≤bs.length∧bs.length-k≤c'∧r=.slice a' (bs.length-k) c'∧Hid (Reads wr (.slice a' (bs.length-k) c') (bs.drop k))∧Hid (0<bs.length-k→(Value.slice a' (bs.length-k) c').ownBlock≠some g)∧Hid (Txt wr g (l++bs.take k))∧Hid (Laid wr)∧Hid (w.grownBy wr (some g))) (fun r _=>slen r)
  case atStart=>exact ⟨0,a,c,by omega,hlc,rfl,HR,fun _=>HV.out (by omega),by simpa using HT,HL,World.grownBy.refl _ _⟩
  case round=>
    clear HT HR HV HL;obtain ⟨k,a',c',hk,hc',rfl,hR,hV,hT,hL,hG⟩:=hrel
    by_cases hlt:k<bs.length
    · obtain ⟨bk,hSt,htk,hby⟩:=hT.out
      have htl:(l++bs.take k).length=l.length+k:=by rw [List.length_append,List.length_take];omega
      obtain ⟨t,ht⟩:∃t,t=l.length+k:=⟨_,rfl⟩;obtain ⟨n,hn⟩:∃n,n=bs.length-k:=⟨_,rfl⟩;obtain ⟨f,hf⟩:∃f,f=t % 64:=⟨_,rfl⟩;obtain ⟨m,hm⟩:∃m,m=min n (64-f):=⟨_,rfl⟩;have cc:=hSt.count;rw [htl,← ht] at cc;rw [← hn] at hc' hR hV ⊢;have HF:Hid (∀w',w'.cell? ⟨g,72,none⟩=some (.int .i64 (t:Int))→Kc 238 #[.pointer (some ⟨g,0,none⟩)] w' fun e w''=>e=.returned (.int .i64 (f:Int))∧w''=w'):=by
        intro w' hw';rw [hf];exact filled_at g t w' hw'
      have hRl:(bs.drop k).length=n:=by rw [List.length_drop,hn]
      rw [htl,← ht] at hSt htk;obtain ⟨W,hW⟩:∃W,W=eat (l++bs.take k) (t / 64):=⟨_,rfl⟩;rw [← hW] at hSt;have HW:=hidden hW;clear hW;have HBL:Hid (W.length=8∧bk.length=64∧Bytes bk):=hSt.2;have HSt:=hidden hSt;have HTK:=hidden htk;have HBY:=hidden hby;have HTL:=hidden htl;have Ht:=hidden ht;have Hn:=hidden hn;have Hf:=hidden hf;have Hm:=hidden hm;have HRl:=hidden hRl;have hRB:Hid (Bytes ((bs.drop k).take m)):=by
        obtain ⟨_,_,_,_,_,hb,_⟩:=hR.out;exact hb.take m
      have n0:0<n:=by omega
      replace hV:=hidden (hV.out n0)
      have n1:(0:Int)<(n:Int):=by omega
      have f0:(0:Int)≤(f:Int):=by omega
      have f1:(f:Int)≤64:=by omega
      have f2: ¬(64=f):=by omega
      have m0:(0:Int)≤(m:Int):=by omega
      have m1:(m:Int)≤(n:Int):=by omega
      have m2:(n:Int)≤(c':Int):=by omega
      have m3:(m:Int)≤(c':Int):=by omega
      clear hSt htk hby htl ht hn hf hm hRl hT
      go_wp2_with fail
      go_region_held2 (fun w'=>w'.cell? ⟨g,72,none⟩=some (.int .i64 (t:Int)))
        (first | assumption)
        (first | (go_at_call 238;refine (HF.out _ (by assumption)).mono ?_;rintro e w7 ⟨rfl,hw7⟩;rw [hw7];clear hw7) | (refine run_copy_blk _ rfl _ _ rfl g (8+f) (64-f) (64-f) _ _ (bs.drop k) _ HSt.out.1 hR.out rfl rfl m (by rw [HRl.out];exact Hm.out) (by have:=Hm.out;have:=Hf.out;omega) (by rw [Cs_size _ _ _ _ HSt.out.2.1 HSt.out.2.2.1];have:=Hm.out;omega) ?_;intro w8 B8 g8 s8;have S8:=st_block HSt.out f m ((bs.drop k).take m) (by rw [List.length_take,HRl.out];have:=Hm.out;omega) (by have:=Hm.out;have:=Hf.out;omega) hRB.out B8;have c8:=S8.count))
      have G8:Hid (w.grownBy w8 (some g)):=grown_trans hG.out ⟨g8.os,g8.tape,g8.output,g8.size,g8.block⟩;have R8:Hid (Reads w8 (.slice a' n c') (bs.drop k)):=Reads.kept hR.out ⟨g8.os,g8.tape,g8.output,g8.size,g8.block⟩ (fun _=>hV.out);have L8:Hid (Laid w8):=Laid.kept hL.out ⟨g8.os,g8.tape,g8.output,g8.size,g8.block⟩ hg;have HS8:=hidden S8;have fr:=S8.1.frozen 72;have t0:(0:Int)≤(t:Int):=by omega
      have t1:(t:Int)+(m:Int)≤1152921504606846976:=by have:=Ht.out;have:=Hm.out;have:=Hn.out;omega
      have t2:(t:Int)≤1152921504606846976:=by omega
      obtain ⟨u,hu⟩:∃u:Nat,(t:Int)+(m:Int)=(u:Int):=⟨t+m,by omega⟩;have HU:Hid (u=t+m):=by show u=_;omega
      have ru:IntKind.i64.wrap (u:Int)=(u:Int):=by rw [IntKind.wrap_i64];omega
      have S9:Hid (St (w8.setCell ⟨g,72,none⟩ (.int .i64 (u:Int))) g W (bk.take f++(bs.drop k).take m++bk.drop (f+m)) (u:Int)):=st_count S8 u;have G9:Hid (w.grownBy (w8.setCell ⟨g,72,none⟩ (.int .i64 (u:Int))) (some g)):=grown_trans G8.out (grown_setCell _ _ _ _);have L9:Hid (Laid (w8.setCell ⟨g,72,none⟩ (.int .i64 (u:Int)))):=L8.out.kept (grown_setCell _ _ _ _) hg;have R9:Hid (Reads (w8.setCell ⟨g,72,none⟩ (.int .i64 (u:Int))) (.slice a' n c') (bs.drop k)):=R8.out.kept (grown_setCell _ _ _ _) (fun _=>hV.out);clear B8 g8 s8 S8 hR hL hG HSt R8 L8 G8 HS8 cc;have HY:Hid ((l++bs.take k)++(bs.drop k).take m=l++bs.take (k+m)):=by
        show _=_;rw [List.append_assoc,← List.take_add]
      have HYl:Hid (((bs.drop k).take m).length=m):=by
        show _=_;rw [List.length_take,HRl.out];have:=Hm.out;omega
      have HF2:Hid (∀w',w'.cell? ⟨g,72,none⟩=some (.int .i64 (u:Int))→Kc 238 #[.pointer (some ⟨g,0,none⟩)] w' fun e w''=>e=.returned (.int .i64 ((u % 64:Nat):Int))∧w''=w'):=fun w' hw'=>filled_at g u w' hw'
      have HV2:Hid ((Value.slice (movedTo a' c' m) (n-m) (c'-m)).ownBlock≠some g):=movedTo_own a' n c' _ _ m g hV.out;have R10:Hid (Reads (w8.setCell ⟨g,72,none⟩ (.int .i64 (u:Int))) (.slice (movedTo a' c' m) (n-m) (c'-m)) ((bs.drop k).drop m)):=R9.out.drop m (by omega);have HNM:Hid (n-m=bs.length-(k+m)∧bs.length-(k+m)≤c'-m∧(bs.drop k).drop m=bs.drop (k+m)∧k+m≤bs.length∧n-m<n):=by
        have h1:=Hn.out;have h2:=Hm.out;have h3:=Hf.out;exact ⟨by omega,by omega,by rw [List.drop_drop],by omega,by omega⟩
      have HUL:Hid (((l++bs.take k)++(bs.drop k).take m).length=u):=by
        show _=_;rw [List.length_append,HTL.out,HYl.out,HU.out,Ht.out]
      have HBB:Hid (Bytes ((l++bs.take k)++(bs.drop k).take m)):=HBY.out.append hRB.out;have END:Hid (∀(r:Value) (wx:World),r=.slice (movedTo a' c' m) (n-m) (c'-m)→Reads wx (.slice (movedTo a' c' m) (n-m) (c'-m)) ((bs.drop k).drop m)→Txt wx g ((l++bs.take k)++(bs.drop k).take m)→Laid wx→w.grownBy wx (some g)→
          (∃(k:Nat) (a':Option Addr) (c':Nat),k≤bs.length∧bs.length-k≤c'∧r=.slice a' (bs.length-k) c'∧Hid (Reads wx (.slice a' (bs.length-k) c') (bs.drop k))∧Hid (0<bs.length-k→(Value.slice a' (bs.length-k) c').ownBlock≠some g)∧Hid (Txt wx g (l++bs.take k))∧Hid (Laid wx)∧Hid (w.grownBy wx (some g)))∧slen r<n):=by
        intro r wx hr h1 h2 h3 h4;obtain ⟨q1,q2,q3,q4,q5⟩:=HNM.out;have h5:=HV2.out;rw [HY.out] at h2;rw [q3,q1] at h1;rw [q1] at h5;refine ⟨⟨k+m,_,_,q4,q2,by rw [hr,q1],h1,fun _=>h5,h2,h3,h4⟩,?_⟩;rw [hr];exact q5
      obtain ⟨a2,ha2⟩:∃a2,a2=movedTo a' c' m:=⟨_,rfl⟩;have HA:=hidden ha2;have HV3:=HV2;rw [← ha2] at END R10 HV3;clear HV2 HNM ha2
      by_cases hfm:f+m=64
      · have hu0:u % 64=0:=by have:=HU.out;have:=Hf.out;omega
        rw [hu0] at HF2;have TT:Hid (∀wx,St wx g (stp W (bk.take f++(bs.drop k).take m++bk.drop (f+m))) (bk.take f++(bs.drop k).take m++bk.drop (f+m)) (u:Int)→Txt wx g ((l++bs.take k)++(bs.drop k).take m)):=by
          intro wx hx;have h1:=whole_part (l++bs.take k) bk ((bs.drop k).take m) f m (by rw [HTL.out,← Ht.out];exact Hf.out) HYl.out HBL.out.2.1 (by rw [HTL.out,← Ht.out,Hf.out];exact HTK.out) hfm;refine ⟨_,?_,h1.2,HBB.out⟩;rw [h1.1,HTL.out,← Ht.out,← HW.out,HUL.out];exact hx
        generalize bk.take f++(bs.drop k).take m++bk.drop (f+m)=bk' at *;generalize hw9:w8.setCell ⟨g,72,none⟩ (.int .i64 (u:Int))=w9 at *;have HU8:Hid ((U W).toList.length=8):=by rw [U_toList,List.length_map];exact HBL.out.1
        have HB64:Hid ((B bk').toList.length=64):=by rw [B_toList,List.length_map];exact S9.out.2.2.1
        have hif:(if c'=m then a' else Option.map (fun x=>x.add m) a')=a2:=by rw [HA.out,movedTo]
        go_wp2_with (go_at_call 238;refine (HF2.out _ S9.out.count).mono ?_;rintro e wy ⟨rfl,hwy⟩;rw [hwy];clear hwy)
        refine wp_region_any (by kernel_rfl) ?_
        change wpAny _ _ _ _ _ _ _ (World.drew _)
        refine wpAny_take (i:=0) (v:=.pointer (some ⟨g,0,none⟩)) rfl (by kernel_rfl) (by kernel_rfl) (by kernel_rfl) (fun _ _ _ h=>h) (Or.inl ⟨by rfl,fun w=>by go_simp⟩) ?_;simp only [Act.put,zq1,zq2,zq4,zq5,zq6];refine wpAny_take (i:=1) (v:=.pointer (some ⟨g,0,none⟩)) rfl (by kernel_rfl) (by kernel_rfl) (by kernel_rfl) (fun _ _ _ h=>h) (Or.inl ⟨by rfl,fun w=>by go_simp⟩) ?_;simp only [Act.put,zq1,zq2,zq3,zq4,zq5,zq6];refine wpAny_take (i:=5) (v:=.pointer (some ⟨g,0,none⟩)) rfl (by kernel_rfl) (by kernel_rfl) (by kernel_rfl) (fun _ _ _ h=>h) (Or.inl ⟨by rfl,fun w=>by go_simp⟩) ?_;simp only [Act.put,zq1,zq2,zq3,zq4,zq5,zq6];refine wpAny_take (i:=2) (v:=.pointer (some ⟨g,0,none⟩)) rfl (by kernel_rfl) (by kernel_rfl) (by kernel_rfl) (fun _ _ _ h=>h) (Or.inl ⟨by rfl,fun w=>by go_simp⟩) ?_;simp only [Act.put,zq1,zq2,zq3,zq4,zq5,zq6];refine wpAny_take (i:=6) (v:=.pointer (some ⟨g,0,none⟩)) rfl (by kernel_rfl) (by kernel_rfl) (by kernel_rfl) (fun _ _ _ h=>h) (Or.inl ⟨by rfl,fun w=>by go_simp⟩) ?_;simp only [Act.put,zq1,zq2,zq3,zq4,zq5,zq6];refine wpAny_take (i:=3) (v:=.pointer (some ⟨g,0,none⟩)) rfl (by kernel_rfl) (by kernel_rfl) (by kernel_rfl) (fun _ _ _ h=>h) (Or.inl ⟨by rfl,fun w=>by go_simp⟩) ?_;simp only [Act.put,zq1,zq2,zq3,zq4,zq5,zq6];refine wpAny_take (i:=7) (v:=.pointer (some ⟨g,8,none⟩)) rfl (by kernel_rfl) (by kernel_rfl) (by kernel_rfl) (fun _ _ _ h=>h) (Or.inl ⟨by rfl,fun w=>by go_simp⟩) ?_;simp only [Act.put,zq1,zq2,zq3,zq4,zq5,zq6];refine wpAny_ready (rs:=[4,8]) (by kernel_rfl) (by simp) ?_;refine AllReady.cons rfl (fun K hK=>?_) (AllReady.cons rfl (fun K hK=>?_) AllReady.nil)
        · refine step_ldm _ rfl _ _ rfl g 0 rfl (U W).toList S9.out.words _ Tryz.underlying315 rfl (by rw [HU8.out];exact size_w8) ?_
          refine hK _ _ ?_;clear hK K;simp only [Act.put,zq1,zq2,zq3,zq4,zq5,zq6];refine wpAny_ready (rs:=[8]) (by kernel_rfl) (by simp) ?_;refine AllReady.cons rfl (fun K hK=>?_) AllReady.nil;refine step_ldm _ rfl _ _ rfl g 8 rfl (B bk').toList S9.out.range _ Tryz.underlying316 rfl (by rw [HB64.out];exact size_b64) ?_;refine hK _ _ ?_;clear hK K;simp only [Act.put,zq1,zq2,zq3,zq4,zq5,zq6];refine wpAny_ready (rs:=[9]) (by kernel_rfl) (by simp) ?_;refine AllReady.cons rfl (fun K hK=>?_) AllReady.nil;go_simp;refine (step_any W bk' _ (L9.out.grow (Below.refl _ _).drew) HBL.out.1 S9.out.2.2.1 S9.out.2.2.2).mono ?_;rintro e w10 ⟨rfl,b10⟩;have hb10:Kb w9 w10:=grow_trans (Below.refl _ _).drew b10;refine hK _ _ ?_;clear hK K;refine wpAny_take (i:=10) (v:=.pointer (some ⟨g,0,none⟩)) rfl (by kernel_rfl) (by kernel_rfl) (by kernel_rfl) (fun _ _ _ h=>h) (Or.inl ⟨by rfl,fun w=>by go_simp⟩) ?_;simp only [Act.put,zq1,zq2,zq3,zq4,zq5,zq6];refine wpAny_take (i:=11) (v:=.pointer (some ⟨g,0,none⟩)) rfl (by kernel_rfl) (by kernel_rfl) (by kernel_rfl) (fun _ _ _ h=>h) (Or.inl ⟨by rfl,fun w=>by go_simp⟩) ?_;simp only [Act.put,zq1,zq2,zq3,zq4,zq5,zq6];refine wpAny_ready (rs:=[12]) (by kernel_rfl) (by simp) ?_;refine AllReady.cons rfl (fun K hK=>?_) AllReady.nil;have S10:=S9.out.grow hb10;have hl8:(stp W bk').length=8:=stp_length _ _ HBL.out.1;have hz8:(U (stp W bk')).size=8:=by rw [U_size];exact hl8
          refine step_stm _ rfl _ _ _ rfl g 0 (U (stp W bk')) rfl rfl (by rw [hz8];exact S10.there) (by rw [hz8];exact size_w8) (U_one _) ?_;refine hK _ _ ?_;clear hK K;refine wpAny_done (by kernel_rfl) ?_ _;simp only [Act.put,List.getElem_toArray,List.getElem_cons_zero,List.getElem_cons_succ];have S11:=S10.stepped hl8;have G11:w.grownBy (w10.setCells g 0 (U (stp W bk')).toList) (some g):=grown_trans (grown_trans G9.out (below_grown hb10 _)) (grown_setCells _ _ _ _);have L11:=(L9.out.grow hb10).kept (grown_setCells g (U (stp W bk')).toList 0 w10) hg;have R11:=(R10.out.grow hb10).kept (grown_setCells g (U (stp W bk')).toList 0 w10) (fun _=>HV3.out);have T11:=TT.out _ S11;clear S10 hl8 hz8 S11;generalize w10.setCells g 0 (U (stp W bk')).toList=w11 at *;go_wp2
          exact END.out _ _ rfl R11 T11 L11 G11
        · refine step_ldm _ rfl _ _ rfl g 8 rfl (B bk').toList S9.out.range _ Tryz.underlying316 rfl (by rw [HB64.out];exact size_b64) ?_
          refine hK _ _ ?_;clear hK K;simp only [Act.put,zq1,zq2,zq3,zq4,zq5,zq6];refine wpAny_ready (rs:=[4]) (by kernel_rfl) (by simp) ?_;refine AllReady.cons rfl (fun K hK=>?_) AllReady.nil;refine step_ldm _ rfl _ _ rfl g 0 rfl (U W).toList S9.out.words _ Tryz.underlying315 rfl (by rw [HU8.out];exact size_w8) ?_;refine hK _ _ ?_;clear hK K;simp only [Act.put,zq1,zq2,zq3,zq4,zq5,zq6];refine wpAny_ready (rs:=[9]) (by kernel_rfl) (by simp) ?_;refine AllReady.cons rfl (fun K hK=>?_) AllReady.nil;go_simp;refine (step_any W bk' _ (L9.out.grow (Below.refl _ _).drew) HBL.out.1 S9.out.2.2.1 S9.out.2.2.2).mono ?_;rintro e w10 ⟨rfl,b10⟩;have hb10:Kb w9 w10:=grow_trans (Below.refl _ _).drew b10;refine hK _ _ ?_;clear hK K;refine wpAny_take (i:=10) (v:=.pointer (some ⟨g,0,none⟩)) rfl (by kernel_rfl) (by kernel_rfl) (by kernel_rfl) (fun _ _ _ h=>h) (Or.inl ⟨by rfl,fun w=>by go_simp⟩) ?_;simp only [Act.put,zq1,zq2,zq3,zq4,zq5,zq6];refine wpAny_take (i:=11) (v:=.pointer (some ⟨g,0,none⟩)) rfl (by kernel_rfl) (by kernel_rfl) (by kernel_rfl) (fun _ _ _ h=>h) (Or.inl ⟨by rfl,fun w=>by go_simp⟩) ?_;simp only [Act.put,zq1,zq2,zq3,zq4,zq5,zq6];refine wpAny_ready (rs:=[12]) (by kernel_rfl) (by simp) ?_;refine AllReady.cons rfl (fun K hK=>?_) AllReady.nil;have S10:=S9.out.grow hb10;have hl8:(stp W bk').length=8:=stp_length _ _ HBL.out.1;have hz8:(U (stp W bk')).size=8:=by rw [U_size];exact hl8
          refine step_stm _ rfl _ _ _ rfl g 0 (U (stp W bk')) rfl rfl (by rw [hz8];exact S10.there) (by rw [hz8];exact size_w8) (U_one _) ?_;refine hK _ _ ?_;clear hK K;refine wpAny_done (by kernel_rfl) ?_ _;simp only [Act.put,List.getElem_toArray,List.getElem_cons_zero,List.getElem_cons_succ];have S11:=S10.stepped hl8;have G11:w.grownBy (w10.setCells g 0 (U (stp W bk')).toList) (some g):=grown_trans (grown_trans G9.out (below_grown hb10 _)) (grown_setCells _ _ _ _);have L11:=(L9.out.grow hb10).kept (grown_setCells g (U (stp W bk')).toList 0 w10) hg;have R11:=(R10.out.grow hb10).kept (grown_setCells g (U (stp W bk')).toList 0 w10) (fun _=>HV3.out);have T11:=TT.out _ S11;clear S10 hl8 hz8 S11;generalize w10.setCells g 0 (U (stp W bk')).toList=w11 at *;go_wp2
          exact END.out _ _ rfl R11 T11 L11 G11
      · obtain ⟨fu,hfu⟩:∃fu:Nat,fu=u % 64:=⟨_,rfl⟩
        rw [← hfu] at HF2;have hne:((fu:Int) == 0)=false:=beq_eq_false_iff_ne.2 (by have:=HU.out;have:=Hf.out;have:=Hm.out;omega);have hne2: ¬(fu=0):=by have:=HU.out;have:=Hf.out;have:=Hm.out;omega
        have TT:Hid (Txt (w8.setCell ⟨g,72,none⟩ (.int .i64 (u:Int))) g ((l++bs.take k)++(bs.drop k).take m)):=by
          have h1:=some_part (l++bs.take k) bk ((bs.drop k).take m) f m (by rw [HTL.out,← Ht.out];exact Hf.out) HYl.out HBL.out.2.1 (by rw [HTL.out,← Ht.out,Hf.out];exact HTK.out) (by have:=Hm.out;have:=Hf.out;omega);refine ⟨_,?_,h1.2,HBB.out⟩;rw [h1.1,HTL.out,← Ht.out,← HW.out,HUL.out];exact S9.out
        clear hfu;have hif:(if c'=m then a' else Option.map (fun x=>x.add m) a')=a2:=by rw [HA.out,movedTo]
        go_wp2_with (go_at_call 238;refine (HF2.out _ S9.out.count).mono ?_;rintro e w9 ⟨rfl,hw9⟩;rw [hw9];clear hw9)
        exact END.out _ _ rfl R10.out TT.out L9.out G9.out
    · have hkn:k=bs.length:=by omega
      have HKN:=hidden hkn;have h0:bs.length-k=0:=by omega
      clear hkn;go_wp2
      go_ret;refine ⟨rfl,?_,hL.out,hG.out⟩;have:=hT.out;rw [HKN.out,List.take_of_length_le (Nat.le_refl _)] at this;exact this

end Go.Proofs.YtdjpigfibafokaaGreatDoor
