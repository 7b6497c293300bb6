/- node.mayBe, as a contract. -/
import Derived.Test.YtgfdgjkbcdmboaaGreatDoorAc25
import Derived.Sort.Grow
import Derived.Shelf.SlSortCmp.WholeK
import Derived.Shelf.SlSorted.Search
import Derived.Lib.SlicesSearch
namespace Go.Proofs.YtgfdgjkbcdmboaaGreatDoor
set_option maxRecDepth 20000
open Go.RowKit
theorem Zut:Tryz.prog.built 266 []=some #[]:=by kernel_rfl
theorem Zmo {ops:Array Oper} {rest:List Oper} {op:Oper} {a:Act} {Q:Exit→Act→World→Prop} (w:World) (hgd:op.guard=none) (x:Operand) (ho:op.op=.makeMap 265 (some x))
  (n:Int) (hx:a.eval x=.int .i64 n)
  (hk:∀w' g,w.heap.size≤g→KeysAt w' g []→Below w.heap.size w w'→wpList Tryz.prog ops Q rest (a.put op.dst (.map (some g))) w'):wpList Tryz.prog ops Q (op::rest) a w:=by
 refine wpList_plain hgd fun K hK=>?_
 unfold Oper.wp execOp
 simp only [ho]
 simp [Instr.makeMap,hx,run_underlying Zhq,asInt]
 exact hK _ _ (hk _ w.heap.size (Nat.le_refl _) (KeysAt.new w) (Zd w _))
set_option maxRecDepth 100000 in
set_option maxHeartbeats 8000000 in
theorem Znn (v:Value) (V:Nat→Value) (es:List Ent) (w:World) (hv:PrAt w v V es) (hn:es.length≤140737488355328):
  Calls Tryz.prog 200 #[v] w fun e w'=>e=.returned (.int .i64 (errB es))∧Below w.heap.size w w':=by
 obtain ⟨a,cap,rfl,hcap,hc,hr⟩:=hv
 by_cases hbig:4096<es.length
 ·have hE:errB es=4:=by rw [errB,if_pos hbig]
  rw [hE]
  have hb:(4096:Int)<(es.length:Int):=by omega
  clear hc hr hcap hbig hE
  go_enter Tryz.func200,Tryz.ntmps200
  go_wp2
  go_ret
  exact ⟨rfl,Below.refl _ _⟩
 ·have HE:Hid (errB es=lsE [] es):=by show _=_;rw [errB,if_neg hbig]
  have HC:=Za hc
  have HR:=Za hr
  have hb: ¬(4096:Int)<(es.length:Int):=by omega
  obtain ⟨n,hnn⟩:∃n,n=es.length:=⟨_,rfl⟩
  have HN:=Za hnn
  obtain ⟨E,hE⟩:∃E,E=errB es:=⟨_,rfl⟩
  rw [← hE] at HE ⊢
  rw [← hnn] at hb hn ⊢
  clear hc hr hcap hbig hnn hE
  go_enter Tryz.func200,Tryz.ntmps200
  go_wp2_with (first
   |(refine Zmo _ rfl _ rfl _ rfl ?_;intro w1 gm hgm hk0 b1))
  have HGM:=Za hgm
  have HK0:=Za hk0
  clear hgm hk0
  go_loopw [16] (fun i wr=>∃k:Nat,k≤n∧i=.int .i64 k∧Hid (KeysAt wr gm ((es.take k).map (·.1)))∧Hid (E=lsE ((es.take k).map (·.1)) (es.drop k))∧Below w.heap.size w wr) (fun i _=>n-(intOf i).toNat)
  case atStart=>exact ⟨0,by omega,rfl,HK0,HE,b1⟩
  case round=>
   obtain ⟨k,hk,rfl,hks,hls,hbw⟩:=hrel
   by_cases hlt:k<n
   ·have hlt':k<es.length:=by rw [← HN.out];exact hlt
    obtain ⟨g,off,rfl,hcc⟩:=HC.out (by omega)
    have z1:(k:Int)<(n:Int):=by omega
    have z0:(0:Int)≤(k:Int):=by omega
    obtain ⟨hkey,hrd⟩:=HR.out k hlt'
    have HRG:Hid (wr.rangeAt g (off+k * 33) (encP (es.getD k e00).1 (V k))):=Zdx (hcc k hlt') hbw
    have hst:=Ydk ((es.take k).map (·.1)) es k hlt'
    rw [← hls.out] at hst
    have HKT:=Za (Zyn es k hlt')
    have HKL:Hid (∀q∈(es.take k).map (·.1),q.length=32):=by
     intro q hq
     obtain ⟨x,hx,rfl⟩:=List.mem_map.1 hq
     obtain ⟨j,hj,rfl⟩:=List.mem_iff_getElem.1 (List.mem_of_mem_take hx)
     have:=(HR.out j hj).1.1
     simpa [List.getD,hj] using this
    obtain ⟨va,vc,hV,_,_,_,_⟩:=hrd
    obtain ⟨K,hK⟩:∃K,K=(es.getD k e00).1:=⟨_,rfl⟩
    obtain ⟨L,hL⟩:∃L,L=(es.getD k e00).2.length:=⟨_,rfl⟩
    rw [← hK,← hL] at hst
    rw [← hK] at HKT HRG hkey
    rw [← hL] at hV
    rw [hV] at HRG
    have HKY:=Za hkey
    obtain ⟨ks,hksd⟩:∃ks,ks=(es.take k).map (·.1):=⟨_,rfl⟩
    rw [← hksd] at hst hks HKL HKT
    have hsz:(Tryz.prog.info? 152).map (·.size)=some (encP K (.slice va L vc)).toArray.size:=by rw [List.size_toArray,Zx K _ HKY.out.1];exact Zeg
    have hsz2:(encP z32 (.slice none 0 0)).toArray.size=(encP K (.slice va L vc)).toArray.size:=by rw [List.size_toArray,List.size_toArray,Zx K _ HKY.out.1];rfl
    have HSZ:=Za hsz
    have HSZ2:=Za hsz2
    clear hcc hls hK hL hV hkey hksd hsz hsz2 hlt'
    by_cases hlong:1024<L
    ·rw [if_pos hlong] at hst
     have hl2:(1024:Int)<(L:Int):=by omega
     have HSTT:=Za hst
     clear hst hlong
     go_wp2_with (first
      |((with_reducible refine Zk 19 18 ?_);refine Zeq _ rfl _ rfl g (off+k * 33) K _ rfl HRG.out HKY.out.1 ?_)
      |((with_reducible refine Zv 5 ?_);refine Zg _ rfl _ rfl _ Zfr ?_;intro w2 g5 hg5 hl5 B5 q5)
      |((with_reducible refine Zah 5 ?_);refine Zf _ rfl _ _ _ rfl g5 _ _ rfl rfl B5 HSZ.out HSZ2.out (Zic _ _ _ _) ?_;intro w3 B6 r6;have q6:=Ze q5 r6 hg5;have ckv:=Zhv B6 HKY.out.1))
     go_ret
     exact ⟨by rw [HSTT.out];rfl,Zb hbw q6⟩
    ·rw [if_neg hlong] at hst
     have hl2: ¬(1024:Int)<(L:Int):=by omega
     by_cases hmem:K∈ks
     ·rw [if_pos hmem] at hst
      have hdd:decide (K∈ks)=true:=decide_eq_true hmem
      have HSTT:=Za hst
      clear hst hlong hmem
      go_wp2_with (first
       |((with_reducible refine Zk 19 18 ?_);refine Zeq _ rfl _ rfl g (off+k * 33) K _ rfl HRG.out HKY.out.1 ?_)
       |((with_reducible refine Zv 5 ?_);refine Zg _ rfl _ rfl _ Zfr ?_;intro w2 g5 hg5 hl5 B5 q5)
       |((with_reducible refine Zah 5 ?_);refine Zf _ rfl _ _ _ rfl g5 _ _ rfl rfl B5 HSZ.out HSZ2.out (Zic _ _ _ _) ?_;intro w3 B6 r6;have q6:=Ze q5 r6 hg5;have ckv:=Zhv B6 HKY.out.1)
       |((with_reducible refine Zk 27 26 ?_);refine Zer _ rfl _ rfl g5 0 K rfl (Zhw B6) HKY.out.1 ?_)
       |(refine Zij _ rfl _ _ rfl gm ks K rfl rfl HKY.out.1 HKL.out (hks.out.grow q6) ?_)
       |((with_reducible refine Zv 6 ?_);refine Zg _ rfl _ rfl _ Zmn ?_;intro w4 g6 hg6 hl6 B7 q7))
      go_ret
      exact ⟨by rw [HSTT.out];rfl,Zb (Zb hbw q6) q7⟩
     ·rw [if_neg hmem] at hst
      have hdd:decide (K∈ks)=false:=decide_eq_false hmem
      have HSTT:=Za hst
      have HMEM:=Za hmem
      clear hst hlong hmem
      go_wp2_with (first
       |((with_reducible refine Zk 19 18 ?_);refine Zeq _ rfl _ rfl g (off+k * 33) K _ rfl HRG.out HKY.out.1 ?_)
       |((with_reducible refine Zv 5 ?_);refine Zg _ rfl _ rfl _ Zfr ?_;intro w2 g5 hg5 hl5 B5 q5)
       |((with_reducible refine Zah 5 ?_);refine Zf _ rfl _ _ _ rfl g5 _ _ rfl rfl B5 HSZ.out HSZ2.out (Zic _ _ _ _) ?_;intro w3 B6 r6;have q6:=Ze q5 r6 hg5;have ckv:=Zhv B6 HKY.out.1)
       |((with_reducible refine Zk 27 26 ?_);refine Zer _ rfl _ rfl g5 0 K rfl (Zhw B6) HKY.out.1 ?_)
       |(refine Zij _ rfl _ _ rfl gm ks K rfl rfl HKY.out.1 HKL.out (hks.out.grow q6) ?_)
       |((with_reducible refine Zv 6 ?_);refine Zg _ rfl _ rfl _ Zmn ?_;intro w4 g6 hg6 hl6 B7 q7)
       |((with_reducible refine Zk 34 33 ?_);refine Zer _ rfl _ rfl g5 0 K rfl (Zhw (B6.grow q7)) HKY.out.1 ?_)
       |((with_reducible refine Zfi 35 ?_);refine Zai _ rfl _ _ rfl _ (by rw [List.map_toArray];exact Zut) ?_)
       |(refine Zkz _ rfl _ _ _ rfl gm ks K rfl rfl rfl HKY.out.1 HKL.out HMEM.out ((hks.out.grow q6).grow q7) ?_;intro w6 K6 r9))
      have hbel:Below w.heap.size w w6:=Ze (Zb (Zb hbw q6) q7) r9 HGM.out
      exact ⟨⟨k+1,by omega,by go_num,by rw [HKT.out];exact K6,by rw [HKT.out];exact HSTT.out,hbel⟩,by simp [intOf];omega⟩
   ·have hkn:k=es.length:=by rw [← HN.out];omega
    have HZ:Hid (E=0):=by
     show _=_
     rw [hls.out,hkn,List.drop_of_length_le (Nat.le_refl _)]
     rfl
    have z1: ¬(k:Int)<(n:Int):=by omega
    clear hls hks
    go_wp2
    go_ret
    exact ⟨by rw [HZ.out];rfl,hbw⟩
def Grew (w w':World):Prop:=∃(q:Nat) (os:Array Obj),w'=Go.Sort.grow (w.drewN q) os
theorem Grew.trans {a b c:World} (h:Grew a b) (k:Grew b c):Grew a c:=by
 obtain ⟨q,os,rfl⟩:=h
 obtain ⟨p,us,rfl⟩:=k
 refine ⟨q+p,os++us,?_⟩
 rw [← Go.Sort.grow_grow]
 simp [Go.Sort.grow,World.drewN,Nat.add_assoc]
theorem Grew.alloc (w:World) (o:Obj):Grew w (w.alloc o):=⟨0, #[o],by rw [Go.Sort.alloc_eq_grow];rfl⟩
theorem Grew.drewN (w:World) (n:Nat):Grew w (w.drewN n):=⟨n, #[],by rw [Go.Sort.grow_empty]⟩
theorem Grew.drew (w:World):Grew w w.drew:=Grew.drewN w 1
theorem Grew.below {w w':World} (h:Grew w w'):Below w.heap.size w w':=by
 obtain ⟨q,os,rfl⟩:=h
 exact ⟨rfl,rfl,rfl,by simp [Go.Sort.grow,World.drewN],fun k hk=>Go.Sort.heap_grow_old (w.drewN q) os hk⟩
theorem Zdo {ops:Array Oper} {rest:List Oper} {op:Oper} {a:Act} {Q:Exit→Act→World→Prop} (w:World) (hgd:op.guard=none) (x:Operand) (ty:TypeId) (ho:op.op=.box ty x)
  (cs:Array Value) (hx:a.eval x=.agg cs)
  (hk:∀w' g,w.heap.size≤g→Blk w' g ty cs→Grew w w'→wpList Tryz.prog ops Q rest (a.put op.dst (.pointer (some ⟨g,0,none⟩))) w'):wpList Tryz.prog ops Q (op::rest) a w:=by
 refine wpList_plain hgd fun K hK=>?_
 unfold Oper.wp execOp
 simp [ho,hx,Instr.box,newVar,Value.cells,newRow]
 exact hK _ _ (hk _ w.heap.size (Nat.le_refl _) (Blk.new w ty cs) (Grew.alloc w _))
set_option maxHeartbeats 1000000 in
theorem Zlv (xs ys:List Int) (w:World) (hx:Key xs) (hy:Key ys):Calls Tryz.prog 203 #[.agg (B xs),.agg (B ys)] w fun e w'=>e=.returned (.int .i64 (cmp xs ys))∧Grew w w':=by
 go_enter Tryz.func203,Tryz.ntmps203
 go_wp2_with (first | ((with_reducible refine Zo 2 ?_);refine Zdo _ rfl _ _ rfl _ rfl ?_;intro w1 g1 hg1 B1 b1) | ((with_reducible refine Zo 3 ?_);refine Zdo _ rfl _ _ rfl _ rfl ?_;intro w2 g2 hg2 B2 b2))
 have c2:=b1.trans b2
 have HC:Hid (∀w',Below w2.heap.size w2 w'→Calls Tryz.prog 222 #[.slice (some ⟨g1,0,none⟩) 32 32,.slice (some ⟨g2,0,none⟩) 32 32] w' fun e w''=>e=.returned (.int .i64 (cmp xs ys))∧w''=w'):=
  fun w' hw'=>Zql _ _ xs ys w' (((B1.grow b2.below).grow hw').key_reads hx) ((B2.grow hw').key_reads hy)
 clear hx hy
 go_quiet ((go_at_call 222;exact Calls.quiet_of_same (HC.out _ (below_drewN (Below.refl _ _) _))))
 go_wp2
 go_ret
 exact ⟨rfl,c2.trans (Grew.drewN _ _)⟩
set_option maxHeartbeats 1000000 in
theorem Yfe (xs:List Int) (d:Nat) (w:World) (hx:Key xs) (hd:d<256):Calls Tryz.prog 109 #[.agg (B xs),.int .i64 d] w fun e w'=>e=.returned (.int .i64 (kb xs d))∧Grew w w':=by
 have HI:Hid (∀w,Calls Tryz.prog 143 #[.int .i64 (d:Int)] w fun e w'=>e=.returned (.bool true)∧w'=w):=by
  intro w
  have:=Zjh d w
  rw [decide_eq_true (by omega)] at this
  exact this
 have HW:=Za (Zst xs hx d)
 have h2:((d / 8:Nat):Int)<32:=by omega
 go_enter Tryz.func109,Tryz.ntmps109
 go_wp2_with (first | (go_at_call 143;refine (HI.out _).mono ?_;rintro e w2 ⟨rfl,rfl⟩) | ((with_reducible refine Zo 2 ?_);refine Zdo _ rfl _ _ rfl _ rfl ?_;intro w1 g1 hg1 B1 b1;have c1:=B1.bcell (d / 8) (by rw [hx.1];omega)))
 go_ret
 exact ⟨by rw [HW.out];rfl,b1⟩
theorem Zqm (k k':Int) (a b c d a' b' c' d':List Int) (w:World) (h:Nd k a b c d) (h':Nd k' a' b' c' d'):Calls Tryz.prog 202 #[.agg (B (nd k a b c d)),.agg (B (nd k' a' b' c' d'))] w fun e w'=>e=.returned (.int .i64 (cmp a a'))∧Grew w w':=by
 have HC:Hid (∀w',Calls Tryz.prog 203 #[.agg (B a),.agg (B a')] w' fun e w''=>e=.returned (.int .i64 (cmp a a'))∧Grew w' w''):=fun w'=>Zlv a a' w' ⟨h.la,h.ba⟩ ⟨h'.la,h'.ba⟩
 have S1:Hid (Seg (nd k a b c d) 1 a):=h.segA
 have S2:Hid (Seg (nd k' a' b' c' d') 1 a'):=h'.segA
 have L1:Hid ((Tryz.prog.info? 34).map (·.size)=some a.length):=by show _=_;rw [h.la];exact Zcn
 have L2:Hid ((Tryz.prog.info? 34).map (·.size)=some a'.length):=by show _=_;rw [h'.la];exact Zcn
 obtain ⟨N,hN⟩:∃N,N=nd k a b c d:=⟨_,rfl⟩
 obtain ⟨M,hM⟩:∃M,M=nd k' a' b' c' d':=⟨_,rfl⟩
 obtain ⟨r,hr⟩:∃r,r=cmp a a':=⟨_,rfl⟩
 rw [← hN] at S1 ⊢
 rw [← hM] at S2 ⊢
 rw [← hr] at HC ⊢
 clear h h' hN hM hr
 go_enter Tryz.func202,Tryz.ntmps202
 go_wp2_with (first
  |((with_reducible refine Zo 2 ?_);refine Zdo _ rfl _ _ rfl _ rfl ?_;intro w1 g1 hg1 B1 b1)
  |((with_reducible refine Zo 3 ?_);refine Zdo _ rfl _ _ rfl _ rfl ?_;intro w2 g2 hg2 B2 b2;have B1':=B1.grow b2.below)
  |((with_reducible refine Zk 6 5 ?_);refine Zkb _ rfl _ _ rfl g1 1 _ _ a rfl B1' S1.out _ _ Tryz.underlying34 L1.out ?_)
  |((with_reducible refine Zk 8 7 ?_);refine Zkb _ rfl _ _ rfl g2 1 _ _ a' rfl B2 S2.out _ _ Tryz.underlying34 L2.out ?_)
  |(go_at_call 203;refine (HC.out _).mono ?_;rintro e w3 ⟨rfl,b3⟩))
 go_ret
 exact ⟨rfl,(b1.trans b2).trans b3⟩
open Go.Shelf
def sortNode_ren:Go.Shelf.Ren:=⟨fun | 6=>201 | 15=>123 | 14=>221 | 28=>163 | 29=>164 | 20=>232 | 21=>233 | 22=>234 | 23=>235 | 24=>236 | 25=>237 | 26=>238 | 27=>239 | 46=>247 | 47=>194 | 48=>195 | 49=>248 | 50=>249 | 57=>258 | n=>n,fun | 22=>215 | 24=>145 | 25=>249 | 3=>3 | 39=>169 | 0=>0 | 53=>209 | 55=>211 | 4=>4 | 46=>201 | 45=>200 | 50=>206 | 5=>5 | 9=>9 | 66=>239 | 70=>243 | 76=>263 | 77=>100 | n=>n,fun | n=>n⟩
theorem Ybs:Go.Proofs.SlLaysF0.n6 Tryz.prog sortNode_ren:={
 mixed:=by kernel_rfl
 f6:=⟨Tryz.f201.name,by decide,Tryz.func201.trans (congrArg some (by kernel_rfl))⟩
 f14:=⟨Tryz.f221.name,by decide,Tryz.func221.trans (congrArg some (by kernel_rfl))⟩
 f15:=Tryz.func123.trans (congrArg some (by kernel_rfl))
 f20:=⟨Tryz.f232.name,by decide,Tryz.func232.trans (congrArg some (by kernel_rfl))⟩
 f21:=⟨Tryz.f233.name,by decide,Tryz.func233.trans (congrArg some (by kernel_rfl))⟩
 f22:=⟨Tryz.f234.name,by decide,Tryz.func234.trans (congrArg some (by kernel_rfl))⟩
 f23:=⟨Tryz.f235.name,by decide,Tryz.func235.trans (congrArg some (by kernel_rfl))⟩
 f24:=⟨Tryz.f236.name,by decide,Tryz.func236.trans (congrArg some (by kernel_rfl))⟩
 f25:=⟨Tryz.f237.name,by decide,Tryz.func237.trans (congrArg some (by kernel_rfl))⟩
 f26:=⟨Tryz.f238.name,by decide,Tryz.func238.trans (congrArg some (by kernel_rfl))⟩
 f27:=⟨Tryz.f239.name,by decide,Tryz.func239.trans (congrArg some (by kernel_rfl))⟩
 f28:=Tryz.func163.trans (congrArg some (by kernel_rfl))
 f29:=Tryz.func164.trans (congrArg some (by kernel_rfl))
 f46:=⟨Tryz.f247.name,by decide,Tryz.func247.trans (congrArg some (by kernel_rfl))⟩
 f47:=Tryz.func194.trans (congrArg some (by kernel_rfl))
 f48:=Tryz.func195.trans (congrArg some (by kernel_rfl))
 f49:=⟨Tryz.f248.name,by decide,Tryz.func248.trans (congrArg some (by kernel_rfl))⟩
 f50:=⟨Tryz.f249.name,by decide,Tryz.func249.trans (congrArg some (by kernel_rfl))⟩
 f57:=⟨Tryz.f258.name,by decide,Tryz.func258.trans (congrArg some (by kernel_rfl))⟩
 t0:=Tryz.underlying0
 a0:=Tryz.isAgg0
 z0:=Tryz.sizeOf0
 v0:=Tryz.zeroValue0
 t3:=Tryz.underlying3
 a3:=Tryz.isAgg3
 z3:=Tryz.sizeOf3
 v3:=Tryz.zeroValue3
 t4:=Tryz.underlying4
 a4:=Tryz.isAgg4
 z4:=Tryz.sizeOf4
 v4:=Tryz.zeroValue4
 t5:=Tryz.underlying5
 a5:=Tryz.isAgg5
 z5:=Tryz.sizeOf5
 v5:=Tryz.zeroValue5
 t9:=Tryz.underlying9
 a9:=Tryz.isAgg9
 z9:=Tryz.sizeOf9
 v9:=Tryz.zeroValue9
 t22:=Tryz.underlying215
 a22:=Tryz.isAgg215
 z22:=Tryz.sizeOf215
 v22:=Tryz.zeroValue215
 t25:=Tryz.underlying249
 a25:=Tryz.isAgg249
 z25:=Tryz.sizeOf249
 v25:=Tryz.zeroValue249
 t39:=Tryz.underlying169
 a39:=Tryz.isAgg169
 z39:=Tryz.sizeOf169
 v39:=Tryz.zeroValue169
 t45:=Tryz.underlying200
 a45:=Tryz.isAgg200
 z45:=Tryz.sizeOf200
 v45:=Tryz.zeroValue200
 t46:=Tryz.underlying201
 a46:=Tryz.isAgg201
 z46:=Tryz.sizeOf201
 v46:=Tryz.zeroValue201
 t50:=Tryz.underlying206
 a50:=Tryz.isAgg206
 z50:=Tryz.sizeOf206
 v50:=Tryz.zeroValue206
 t53:=Tryz.underlying209
 a53:=Tryz.isAgg209
 z53:=Tryz.sizeOf209
 v53:=Tryz.zeroValue209
 t55:=Tryz.underlying211
 a55:=Tryz.isAgg211
 z55:=Tryz.sizeOf211
 v55:=Tryz.zeroValue211
 t66:=Tryz.underlying239
 a66:=Tryz.isAgg239
 z66:=Tryz.sizeOf239
 v66:=Tryz.zeroValue239
 t70:=Tryz.underlying243
 a70:=Tryz.isAgg243
 z70:=Tryz.sizeOf243
 v70:=Tryz.zeroValue243
 t76:=Tryz.underlying263
 a76:=Tryz.isAgg263
 z76:=Tryz.sizeOf263
 v76:=Tryz.zeroValue263
 t77:=Tryz.underlying100
 a77:=Tryz.isAgg100
 z77:=Tryz.sizeOf100
 v77:=Tryz.zeroValue100}
def searchL_ren:Go.Shelf.Ren:=⟨fun | 16=>223 | n=>n,fun | 3=>3 | 35=>70 | 4=>4 | 38=>169 | n=>n,fun | n=>n⟩
theorem Ygz:Go.Proofs.SlLaysO.n16 Tryz.prog searchL_ren:={
 mixed:=by kernel_rfl
 f16:=Tryz.func223.trans (congrArg some (by kernel_rfl))
 t3:=Tryz.underlying3
 a3:=Tryz.isAgg3
 z3:=Tryz.sizeOf3
 v3:=Tryz.zeroValue3
 t4:=Tryz.underlying4
 a4:=Tryz.isAgg4
 z4:=Tryz.sizeOf4
 v4:=Tryz.zeroValue4
 t35:=Tryz.underlying70
 a35:=Tryz.isAgg70
 z35:=Tryz.sizeOf70
 v35:=Tryz.zeroValue70
 t38:=Tryz.underlying169
 a38:=Tryz.isAgg169
 z38:=Tryz.sizeOf169
 v38:=Tryz.zeroValue169}
def LvAt (w:World) (v:Value) (ls:List Lf):Prop:=
 ∃a cap,v=.slice a ls.length cap∧ls.length≤cap∧(0<ls.length→∃g off,a=some ⟨g,off,none⟩∧∀i,i<ls.length→w.rangeAt g (off+i * 129) (encLf ls[i]!))
theorem Zbh {w w':World} {g o:Nat} {cs:List Value} (h:w.rangeAt g o cs) (hb:Below w.heap.size w w'):w'.rangeAt g o cs:=fun j v hv=>(hb.cell (p:=⟨g,o+j,none⟩) (block_lt_of_cell (h j v hv))).trans (h j v hv)
theorem LvAt.grow {w w':World} {v:Value} {ls:List Lf} (h:LvAt w v ls) (hb:Below w.heap.size w w'):LvAt w' v ls:=by
 obtain ⟨a,cap,e,h1,h2⟩:=h
 refine ⟨a,cap,e,h1,fun hp=>?_⟩
 obtain ⟨g,off,ea,hr⟩:=h2 hp
 exact ⟨g,off,ea,fun i hi=>Zbh (hr i hi) hb⟩
theorem Zrx {w:World} {g o:Nat} {x:Lf} (h:w.rangeAt g o (encLf x)):w.rangeAt g (o+1) (B x.key).toList:=by
 intro j v hv
 rw [Zaf,List.getElem?_map,Option.map_eq_some_iff] at hv
 obtain ⟨z,hz,rfl⟩:=hv
 rw [Nat.add_assoc]
 refine h (1+j) _ ?_
 unfold encLf Lf.ints
 rw [List.getElem?_map,x.nd.segA j z hz]
 rfl
theorem Yla {w:World} {g o:Nat} {x:Lf} (h:w.rangeAt g o (encLf x)):w.rangeAt g (o+33) (B x.val).toList:=by
 intro j v hv
 rw [Zaf,List.getElem?_map,Option.map_eq_some_iff] at hv
 obtain ⟨z,hz,rfl⟩:=hv
 rw [Nat.add_assoc]
 refine h (33+j) _ ?_
 unfold encLf Lf.ints
 rw [List.getElem?_map,x.nd.segB j z hz]
 rfl
set_option maxHeartbeats 2000000 in
theorem Zqn (g off cap n i d g1 g2:Nat) (x:Lf) (W:World) (hi:i<n) (hd:d<256) (h1:W.cell? ⟨g1,0,none⟩=some (.slice (some ⟨g,off,none⟩) n cap)) (h2:W.cell? ⟨g2,0,none⟩=some (.int .i64 d)) (hr:W.rangeAt g (off+i * 129) (encLf x)):
  Calls Tryz.prog 224 #[.int .i64 i,.pointer (some ⟨g1,0,none⟩),.pointer (some ⟨g2,0,none⟩)] W fun e w'=>e=.returned (.bool (kb x.key d == 1))∧Grew W w':=by
 have HB:Hid (∀w',Calls Tryz.prog 109 #[.agg (B x.key),.int .i64 d] w' fun e w''=>e=.returned (.int .i64 (kb x.key d))∧Grew w' w''):=fun w'=>Yfe x.key d w' x.hk hd
 have HL:Hid ((Tryz.prog.info? 34).map (·.size)=some (B x.key).toList.length):=by show _=_;rw [Zaf,List.length_map,x.hk.1];exact Zcn
 have HS:Hid (∀w',Below W.heap.size W w'→w'.cell? ⟨g1,0,none⟩=some (.slice (some ⟨g,off,none⟩) n cap)∧w'.cell? ⟨g2,0,none⟩=some (.int .i64 d)∧w'.rangeAt g (off+i * 129+1) (B x.key).toList):=fun w' hw'=>⟨(hw'.cell (block_lt_of_cell h1)).trans h1,(hw'.cell (block_lt_of_cell h2)).trans h2,Zbh (Zrx hr) hw'⟩
 obtain ⟨K,hK⟩:∃K,K=x.key:=⟨_,rfl⟩
 rw [← hK] at HB HL HS ⊢
 obtain ⟨z,hz⟩:∃z,z=kb K d:=⟨_,rfl⟩
 rw [← hz] at HB ⊢
 have hi1:(i:Int)<(n:Int):=by omega
 have hi0:(0:Int)≤(i:Int):=by omega
 clear hr h1 h2 hK hz hi
 go_enter Tryz.func224,Tryz.ntmps224
 go_wp2_with fail
 have d0:Below W.heap.size W W.drew:=(Below.refl _ _).drew
 refine wp_region_held_drew (S:=fun w'=>w'.cell? ⟨g1,0,none⟩=some (.slice (some ⟨g,off,none⟩) n cap)∧w'.cell? ⟨g2,0,none⟩=some (.int .i64 d)∧w'.rangeAt g (off+i * 129+1) (B K).toList) (by kernel_rfl) (HS.out _ d0) (fun hHeld=>?_)
 refine tkg 0 (.slice (some ⟨g,off,none⟩) n cap) rfl (Or.inl ⟨by rfl,fun w hS=>by (have s1:=hS.1;go_simp)⟩) hHeld ?_
 simp only [zq]
 refine tkp 1 (.int .i64 i) hHeld ?_
 simp only [zq]
 refine tkp 2 (.pointer (some ⟨g,off+i * 129,none⟩)) hHeld ?_
 simp only [zq]
 refine tkp 3 (.pointer (some ⟨g,off+i * 129+1,none⟩)) hHeld ?_
 simp only [zq]
 refine tkg 4 (.agg (B K)) rfl (yieldsIf_load_mid rfl 34 (.tmp 8) rfl g (off+i * 129+1) rfl (B K).toList _ (fun w hS=>hS.2.2) Tryz.underlying34 rfl HL.out) hHeld ?_
 simp only [zq]
 refine tkg 5 (.int .i64 d) rfl (Or.inl ⟨by rfl,fun w hS=>by (have s1:=hS.2.1;go_simp)⟩) hHeld ?_
 simp only [zq]
 refine wpAnyH_ready (rs:=[6]) (by kernel_rfl) (by simp) ?_
 refine AllReadyH.cons rfl (fun KQ hK=>?_) AllReadyH.nil
 go_simp
 refine (HB.out _).mono ?_
 rintro e x1 ⟨rfl,a1⟩
 have d1:=Zb d0 a1.below
 refine hK.out _ _ (HS.out _ d1) (fun hHeld=>?_)
 clear hK KQ
 refine tkp 7 (.bool (z == 1)) hHeld ?_
 simp only [zq]
 refine tkp 8 (.bool (z == 1)) hHeld ?_
 simp only [zq]
 refine wpAnyH_done (by kernel_rfl) ?_ _
 go_wp2_with fail
 go_ret
 exact ⟨rfl,(Grew.drew W).trans a1⟩
theorem Zuo (q:Lf→Bool):∀l:List Lf,(List.range l.length).countP (fun i=>q l[i]!)=l.countP q:=by
 intro l
 have e:(List.range l.length).map (fun i=>l[i]!)=l:=by
  apply List.ext_getElem (by simp)
  intro i h1 h2
  simp [h2]
 have h:=List.countP_map (p:=q) (f:=fun i=>l[i]!) (l:=List.range l.length)
 rw [e] at h
 exact h.symm
theorem LvAt.cut {w:World} {g off cap:Nat} {ls:List Lf} (h:∀i,i<ls.length→w.rangeAt g (off+i * 129) (encLf ls[i]!)) (hc:ls.length≤cap) (c:Nat) (hcn:c≤ls.length):
  LvAt w (.slice (some ⟨g,off,none⟩) c cap) (ls.take c)∧LvAt w (.slice (if cap=c then some ⟨g,off,none⟩ else some ⟨g,off+c * 129,none⟩) (ls.length-c) (cap-c)) (ls.drop c):=by
 constructor
 ·have hl:(ls.take c).length=c:=by simp;omega
  refine ⟨_,_,by rw [hl],by omega,fun _=>⟨g,off,rfl,fun i hi=>?_⟩⟩
  rw [hl] at hi
  have e:(ls.take c)[i]! = ls[i]!:=by
   rw [getElem!_pos _ i (by omega),getElem!_pos _ i (by omega)]
   simp
  rw [e]
  exact h i (by omega)
 ·have hl:(ls.drop c).length=ls.length-c:=by simp
  refine ⟨_,_,by rw [hl],by omega,fun hp=>?_⟩
  rw [hl] at hp
  rw [if_neg (by omega)]
  refine ⟨g,off+c * 129,rfl,fun i hi=>?_⟩
  rw [hl] at hi
  have e:(ls.drop c)[i]! = ls[c+i]!:=by
   rw [getElem!_pos _ i (by omega),getElem!_pos _ (c+i) (by omega)]
   simp
  rw [e,Nat.add_assoc,← Nat.add_mul]
  exact h (c+i) (by omega)
set_option maxHeartbeats 4000000 in
theorem Ycx (g off cap d:Nat) (ls:List Lf) (w:World) (hd:d<256) (hn:ls.length≤4096) (hcap:ls.length≤cap) (hr:Rise ls) (hs:Same ls d) (hv:∀i,i<ls.length→w.rangeAt g (off+i * 129) (encLf ls[i]!)):
  Calls Tryz.prog 204 #[.slice (some ⟨g,off,none⟩) ls.length cap,.int .i64 d] w fun e w'=>∃v0 v1,e=.returned (.tuple #[v0,v1])∧LvAt w' v0 (sdL ls d 0)∧LvAt w' v1 (sdL ls d 1)∧Below w.heap.size w w':=by
 obtain ⟨c,hc⟩:∃c,c=ls.countP fun x=>!(kb x.key d == 1):=⟨_,rfl⟩
 have hcn:c≤ls.length:=by rw [hc];exact List.countP_le_length
 obtain ⟨p0,p1⟩:=Zxz ls d hd hr hs
 rw [← hc] at p0 p1
 have eg:∀args w,(callFunc 224 args).run Tryz.prog w=.ok (.enter 224 args) w:=enters_of Tryz.func224 (by kernel_rfl) rfl
 have HSE:Hid (∀w' g1 g2,Below w.heap.size w w'→w'.cell? ⟨g1,0,none⟩=some (.slice (some ⟨g,off,none⟩) ls.length cap)→w'.cell? ⟨g2,0,none⟩=some (.int .i64 d)→
   Calls Tryz.prog 223 #[.int .i64 ls.length,.func (.func 224) #[] #[.pointer (some ⟨g1,0,none⟩),.pointer (some ⟨g2,0,none⟩)]] w' fun e w''=>e=.returned (.int .i64 c)∧Grew w' w''):=by
  intro w' g1 g2 hb h1 h2
  have h:=Any.sort_Search Ygz 224 #[.pointer (some ⟨g1,0,none⟩),.pointer (some ⟨g2,0,none⟩)] ls.length (fun i=>kb ls[i]!.key d == 1) w' eg (by omega) (fun m os i hi=>by
   have q:Grew w' (Go.Sort.grow (w'.drewN m) os):=⟨m,os,rfl⟩
   have:=Zqn g off cap ls.length i d g1 g2 ls[i]! _ hi hd ((q.below.cell (block_lt_of_cell h1)).trans h1) ((q.below.cell (block_lt_of_cell h2)).trans h2) (Zbh (hv i hi) (Zb hb q.below))
   exact this.mono fun e w'' ⟨e1,e2⟩=>⟨e1,e2⟩) (Zxx ls d hd hr hs)
  rw [Zuo (fun x=>!(kb x.key d == 1)) ls,← hc] at h
  exact h
 have HV:Hid (∀w',Below w.heap.size w w'→LvAt w' (.slice (some ⟨g,off,none⟩) c cap) (sdL ls d 0)∧LvAt w' (.slice (if cap=c then some ⟨g,off,none⟩ else some ⟨g,off+c * 129,none⟩) (ls.length-c) (cap-c)) (sdL ls d 1)):=by
  intro w' hb
  have:=LvAt.cut (fun i hi=>Zbh (hv i hi) hb) hcap c hcn
  rwa [p0,p1] at this
 obtain ⟨n,hnn⟩:∃n,n=ls.length:=⟨_,rfl⟩
 rw [← hnn] at HSE HV hcn hcap hn ⊢
 have i1:(c:Int)≤(n:Int):=by omega
 have i2:(0:Int)≤(c:Int):=by omega
 have i3:(n:Int)≤(cap:Int):=by omega
 have i4:(c:Int)≤(cap:Int):=by omega
 clear hr hs hv hc p0 p1 eg hnn
 go_enter Tryz.func204,Tryz.ntmps204
 go_wp2_with (go_at_call 223;refine (HSE.out _ _ _ (Zb (Zd _ _) (Zd _ _)) (by simp) (by simp)).mono ?_;rintro e x1 ⟨rfl,a1⟩)
 have hx:Below w.heap.size w x1:=Zb (Zb (Zd _ _) (Zd _ _)) a1.below
 have HS:Hid (∀w',Below x1.heap.size x1 w'→w'.cell? ⟨w.heap.size,0,none⟩=some (.slice (some ⟨g,off,none⟩) n cap)):=by
  intro w' hw'
  have q0:((w.alloc (.cells #[.slice (some ⟨g,off,none⟩) n cap] 215)).alloc (.cells #[.int .i64 d] 3)).cell? ⟨w.heap.size,0,none⟩=some (.slice (some ⟨g,off,none⟩) n cap):=by simp
  have q1:=(a1.below.cell (block_lt_of_cell q0)).trans q0
  exact (hw'.cell (block_lt_of_cell q1)).trans q1
 have d0:Below x1.heap.size x1 x1.drew:=(Below.refl _ _).drew
 refine wp_region_held_drew (S:=fun w'=>w'.cell? ⟨w.heap.size,0,none⟩=some (.slice (some ⟨g,off,none⟩) n cap)) (by kernel_rfl) (HS.out _ d0) (fun hHeld=>?_)
 refine tkg 0 (.slice (some ⟨g,off,none⟩) n cap) rfl (Or.inl ⟨by rfl,fun w hS=>by (have s1:=hS;go_simp)⟩) hHeld ?_
 simp only [zq]
 refine tkp 1 (.int .i64 c) hHeld ?_
 simp only [zq]
 refine tkp 2 (.slice (some ⟨g,off,none⟩) c cap) hHeld ?_
 simp only [zq]
 refine tkg 3 (.slice (some ⟨g,off,none⟩) n cap) rfl (Or.inl ⟨by rfl,fun w hS=>by (have s1:=hS;go_simp)⟩) hHeld ?_
 simp only [zq]
 refine tkp 4 (.int .i64 c) hHeld ?_
 simp only [zq]
 refine tkg 5 (.slice (if cap=c then some ⟨g,off,none⟩ else some ⟨g,off+c * 129,none⟩) (n-c) (cap-c)) rfl (Or.inl ⟨by rfl,fun w hS=>by (go_simp;skip)⟩) hHeld ?_
 simp only [zq]
 refine tkp 6 (.slice (some ⟨g,off,none⟩) c cap) hHeld ?_
 simp only [zq]
 refine tkp 7 (.slice (if cap=c then some ⟨g,off,none⟩ else some ⟨g,off+c * 129,none⟩) (n-c) (cap-c)) hHeld ?_
 simp only [zq]
 refine wpAnyH_done (by kernel_rfl) ?_ _
 generalize (if cap=c then (some ⟨g,off,none⟩:Option Addr) else some ⟨g,off+c * 129,none⟩)=A1 at HV ⊢
 go_wp2_with fail
 go_ret2
 exact ⟨_,_,rfl,(HV.out _ (Zb hx d0)).1,(HV.out _ (Zb hx d0)).2,Zb hx d0⟩
end Go.Proofs.YtgfdgjkbcdmboaaGreatDoor
