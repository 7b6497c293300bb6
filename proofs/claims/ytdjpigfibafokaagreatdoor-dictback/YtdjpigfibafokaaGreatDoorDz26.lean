/- A dictionary in memory: what its own small calls answer: made, all, Store, the tree of a name, and the checks of a request. -/
import Derived.Test.YtdjpigfibafokaaGreatDoorDz01
import Derived.Test.YtdjpigfibafokaaGreatDoorDz25
import Derived.Test.YtdjpigfibafokaaGreatDoorDz06
import Derived.Test.YtdjpigfibafokaaGreatDoorDz17
import Derived.Test.YtdjpigfibafokaaGreatDoorDz05
namespace Go.Proofs.YtdjpigfibafokaaGreatDoor
variable {c d g gv hd k n o r:Nat}
variable {kv lv v:Value}
variable {w w':World}
variable {xs:Lq}
set_option maxHeartbeats 4000000
set_option maxRecDepth 20000
open Go.RowKit

def Dk (w:World) (d gv hd:Nat):Prop:=Blk w d 106 #[.pointer (some ⟨d,0,none⟩),.pointer (some ⟨gv,0,none⟩),.int .i64 (hd:Int)]
theorem Dk.grow (h:Dk w d gv hd) (hb:Kb w w'):Dk w' d gv hd:=Blk.grow h hb
theorem Dk.c0 (h:Dk w d gv hd):w.cell? ⟨d,0,none⟩=some (.pointer (some ⟨d,0,none⟩)):=by rw [Blk.cell h];rfl
theorem Dk.c1 (h:Dk w d gv hd):w.cell? ⟨d,1,none⟩=some (.pointer (some ⟨gv,0,none⟩)):=by rw [Blk.cell h];rfl
theorem Dk.c2 (h:Dk w d gv hd):w.cell? ⟨d,2,none⟩=some (.int .i64 (hd:Int)):=by rw [Blk.cell h];rfl
theorem Dk.row (h:Dk w d gv hd):w.rangeAt d 1 [.pointer (some ⟨gv,0,none⟩),.int .i64 (hd:Int)]:=fun j v hv=>by
  have:=Blk.range h (j+1) v (by simpa using hv);rwa [show 0+(j+1)=1+j by omega] at this

def Rq (w:World) (r d:Nat) (s:ByteArray) (kv lv:Value):Prop:=Blk w r 157 #[.pointer (some ⟨d,0,none⟩),.string s,kv,lv]
theorem Rq.c0 {s:ByteArray} (h:Rq w r d s kv lv):w.cell? ⟨r,0,none⟩=some (.pointer (some ⟨d,0,none⟩)):=by rw [Blk.cell h];rfl
theorem Rq.c1 {s:ByteArray} (h:Rq w r d s kv lv):w.cell? ⟨r,1,none⟩=some (.string s):=by rw [Blk.cell h];rfl
theorem Rq.c2 {s:ByteArray} (h:Rq w r d s kv lv):w.cell? ⟨r,2,none⟩=some kv:=by rw [Blk.cell h];rfl
theorem Rq.c3 {s:ByteArray} (h:Rq w r d s kv lv):w.cell? ⟨r,3,none⟩=some lv:=by rw [Blk.cell h];rfl
theorem Rq.grow {s:ByteArray} (h:Rq w r d s kv lv) (hb:Kb w w'):Rq w' r d s kv lv:=Blk.grow h hb

theorem dmade_ok (g:Nat) (w:World) (hc:w.cell? ⟨g,0,none⟩=some (.pointer (some ⟨g,0,none⟩))):Kc 135 #[.pointer (some ⟨g,0,none⟩)] w fun e w'=>e=.returned (.bool true)∧w'=w:=by
  obtain ⟨j,hj⟩:∃j,Tryz.prog.info? 106=some j:=⟨_,rfl⟩;have hq:=fun a=>run_eql_ptr_same (P:=Tryz.prog) w a Tryz.underlying23 hj
  clear hj;go_enter Tryz.func135,Tryz.ntmps135
  go_wp2
  go_ret;exact ⟨rfl,rfl⟩

theorem notMade_ok {s:ByteArray} (h:Dk w d gv hd) (hr:Rq w r d s kv lv):Kc 83 #[.pointer (some ⟨r,0,none⟩)] w fun e w'=>e=.returned (.int .i64 0)∧w'=w:=by
  have HM:=hidden (dmade_ok d w h.c0);have c0:=hr.c0;clear h hr;go_enter Tryz.func83,Tryz.ntmps83
  go_wp2_with (go_at_call 135;refine HM.out.mono ?_;rintro e w' ⟨rfl,hx⟩;rw [hx];clear hx w')
  go_ret;exact ⟨rfl,rfl⟩

theorem all_ok (h:Dk w d gv hd):Kc 73 #[.pointer (some ⟨d,0,none⟩)] w fun e w'=>e=.returned (.agg #[.pointer (some ⟨gv,0,none⟩),.int .i64 (hd:Int)])∧Kb w w':=by
  have HM:Hid (∀w',Kb w w'→Kc 135 #[.pointer (some ⟨d,0,none⟩)] w' fun e w''=>e=.returned (.bool true)∧w''=w'):=fun w' hb=>dmade_ok d w' (h.grow hb).c0
  have HD:Hid (∀w',Kb w w'→Dk w' d gv hd):=fun w' hb=>h.grow hb
  obtain ⟨fs,hfs⟩:∃fs,Tryz.prog.underlying 104=some (.struct fs):=⟨_,Tryz.underlying104⟩;have HFS:=hidden hfs;clear h hfs;go_enter Tryz.func73,Tryz.ntmps73
  go_wp2_with (first
    |((with_reducible refine at_ald 2 ?_);refine wpList_al _ rfl _ rfl _ zero_tr ?_;intro w0 g2 hg0 hl0 B0 q0;have HG0:=hidden hg0;have HQ0:=hidden q0;have HB0:=hidden B0;clear hg0 hl0 q0 B0)
    |(go_at_call 135;refine (HM.out _ HQ0.out).mono ?_;rintro e w' ⟨rfl,hx⟩;rw [hx];clear hx w')
    |((with_reducible refine at_ldd 10 9 ?_);refine wpList_ldw _ rfl _ _ rfl d 1 rfl [.pointer (some ⟨gv,0,none⟩),.int .i64 (hd:Int)] _ (HD.out _ HQ0.out).row Tryz.underlying104 rfl size_tr ?_)
    |((with_reducible refine at_st 2 ?_);refine wpList_sto _ rfl _ _ _ rfl g2 _ #[.pointer (some ⟨gv,0,none⟩),.int .i64 (hd:Int)] rfl rfl HB0.out size_tr rfl (by simp [Value.oneCell']) ?_;intro w2 B2 r2;have HB2:=hidden B2;have HQ2:=hidden (below_row HQ0.out r2 HG0.out);clear B2 r2))
  exact bodyPost_ret (v:=.agg #[.pointer (some ⟨gv,0,none⟩),.int .i64 (hd:Int)]) (results_cell_row rfl _ _ g2 _ _ _ _ rfl HB2.out HFS.out rfl size_tr) rfl ⟨rfl,HQ2.out⟩

section
variable {w1 w:World} {X:List Nat} {d gv hd b g gs R:Nat} {ms:Nms} {cs:Lz} {fr:List Nat}

theorem dstore_ok (h:Dk w d gv hd) (hv:Hv w1 w X gv b g gs R ms cs fr):Kc 19 #[.pointer (some ⟨d,0,none⟩)] w fun e w'=>e=.returned (.pointer (some ⟨g,0,none⟩))∧Kb w w':=by
  have HA:=hidden (all_ok h);have HV:Hid (∀w',Kb w w'→Kc 74 #[.pointer (some ⟨gv,0,none⟩)] w' fun e w''=>e=.returned (.pointer (some ⟨g,0,none⟩))∧w''=w'):=fun w' hb=>vstore_ok (hv.grow hb)
  have hf:∀w:World,(Instr.field 104 (.agg #[.pointer (some ⟨gv,0,none⟩),.int .i64 (hd:Int)]) 0).run Tryz.prog w=.ok (.pointer (some ⟨gv,0,none⟩)) w:=fun w=>by kernel_rfl
  clear h hv;go_enter Tryz.func19,Tryz.ntmps19
  go_wp2_with (first
    |(go_at_call 73;refine HA.out.mono ?_;rintro e w1 ⟨rfl,q1⟩;have HQ1:=hidden q1;clear q1)
    |(go_at_call 74;refine (HV.out _ HQ1.out).mono ?_;rintro e w' ⟨rfl,hx⟩;rw [hx];clear hx w'))
  go_ret;exact ⟨rfl,HQ1.out⟩
end

end Go.Proofs.YtdjpigfibafokaaGreatDoor

namespace Go.Proofs.YtdjpigfibafokaaGreatDoor
variable {c d g gv hd k n o r:Nat}
variable {kv lv v:Value}
variable {w w':World}
variable {xs:Lq}
set_option maxHeartbeats 4000000
set_option maxRecDepth 20000
open Go.RowKit

def e00:Ent:=([],[])
def encP (k:Lq) (v:Value):List Value:=k.map (Value.int .u8)++[v]
def PrAt (w:World) (v:Value) (V:Nat→Value) (es:List Ent):Prop:=
  ∃a cap,v=.slice a es.length cap∧es.length≤cap∧(0<es.length→∃g off,a=some ⟨g,off,none⟩∧∀i,i<es.length→w.rangeAt g (off+i * 33) (encP (es.getD i e00).1 (V i)))∧
    ∀i,i<es.length→Key (es.getD i e00).1∧Reads w (V i) (es.getD i e00).2

theorem rng_grow {cs:List Value} (h:w.rangeAt g o cs) (hb:Kb w w'):w'.rangeAt g o cs:=fun j v hv=>(hb.cell (p:=⟨g,o+j,none⟩) (block_lt_of_cell (h j v hv))).trans (h j v hv)

def lsE:List (Lq)→List Ent→Int
  | _,[]=>0
  | ks,e::r=>if 1024<e.2.length then 4 else if e.1∈ks then 6 else lsE (ks++[e.1]) r
def errB (es:List Ent):Int:=if 4096<es.length then 4 else lsE [] es
end Go.Proofs.YtdjpigfibafokaaGreatDoor

namespace Go.Proofs.YtdjpigfibafokaaGreatDoor
variable {c d g gv hd k n o r:Nat}
variable {kv lv v:Value}
variable {w w':World}
variable {xs:Lq}
set_option maxHeartbeats 4000000
set_option maxRecDepth 20000
open Go.RowKit

structure Rw where
  kv:Value
  k:Lq
  g:Bool
  b:Lq
  v:Value
instance:Inhabited Rw:=⟨⟨.slice none 0 0,[],false,[],.slice none 0 0⟩⟩
def Rw.cells (x:Rw):List Value:=[x.kv,.bool x.g,x.v]
def tooR (x:Rw):Bool:=!x.g && decide (1024<x.b.length)
def RwAt (w:World) (v:Value) (l:List Rw):Prop:=
  ∃a cap,v=.slice a l.length cap∧l.length≤cap∧(0<l.length→∃g off,a=some ⟨g,off,none⟩∧∀i,i<l.length→w.rangeAt g (off+i * 3) (l[i]!).cells)∧
    ∀x∈l,Reads w x.kv x.k∧Reads w x.v x.b
theorem RwAt.grow {l:List Rw} (h:RwAt w v l) (hb:Kb w w'):RwAt w' v l:=by
  obtain ⟨a,cap,e,h1,h2,h3⟩:=h;refine ⟨a,cap,e,h1,fun hp=>?_,fun x hx=>⟨(h3 x hx).1.grow hb,(h3 x hx).2.grow hb⟩⟩;obtain ⟨g,off,ea,hr⟩:=h2 hp;exact ⟨g,off,ea,fun i hi=>rng_grow (hr i hi) hb⟩
theorem rwAt_one {x:Rw} (hb:Blk w g 163 x.cells.toArray) (h1:Reads w x.kv x.k) (h2:Reads w x.v x.b):RwAt w (.slice (some ⟨g,0,none⟩) 1 1) [x]:=by
  refine ⟨_,1,rfl,Nat.le_refl _,fun _=>⟨g,0,rfl,fun i hi=>?_⟩,fun y hy=>?_⟩
  · obtain rfl:i=0:=by simp at hi;omega
    have:=hb.range;simpa using this
  · obtain rfl:y=x:=by simpa using hy
    exact ⟨h1,h2⟩

def bkE (l:List Rw):Int:=if l.all (fun x=>decide (x.k.length=32))=true then 0 else 3
def tlE (l:List Rw):Int:=if 64<l.length then 4 else if l.any (fun x=>tooR x)=true then 4 else 0

theorem reads_len (h:Reads w v xs):∃a c,v=.slice a xs.length c:=by
  obtain ⟨a,c,e,_⟩:=h;exact ⟨a,c,e⟩

theorem of_e (h:Reads w v xs):Kc 88 #[v] w fun e w'=>e=.returned (.tuple #[.agg (B (if xs.length=32 then xs else z32)),.int .i64 (if xs.length=32 then 0 else 3)])∧Kb w w':=by
  by_cases hl:xs.length=32
  · rw [if_pos hl,if_pos hl]
    exact of_at v xs w h hl
  · rw [if_neg hl,if_neg hl]
    refine (of_out v xs w h hl).mono ?_;rintro e w' ⟨ys,h,rfl,b⟩;rw [h];exact ⟨rfl,b⟩

theorem zero_raw:∀w,(zeroValue 163).run Tryz.prog w=.ok (.agg #[.slice none 0 0,.bool false,.slice none 0 0]) w:=fun w=>by kernel_rfl
theorem size_raw:(Tryz.prog.info? 163).map (·.size)=some 3:=by kernel_rfl
theorem sz_path3 (xs:Lq) (h:xs.length=32):(Tryz.prog.info? 63).map (·.size)=some (B xs).size∧(B (List.replicate 32 0)).size=(B xs).size:=⟨by rw [B_size,h];exact sz_path,by rw [B_size,B_size,h];rfl⟩
theorem ofK_len (xs:Lq):(if xs.length=32 then xs else z32).length=32:=by
  split
  · assumption
  · rfl

theorem badKey_any {s:ByteArray} {k:Lq} (hr:Rq w r d s kv lv) (hk:Reads w kv k):Kc 140 #[.pointer (some ⟨r,0,none⟩)] w fun e w'=>e=.returned (.int .i64 (if k.length=32 then 0 else 3))∧Kb w w':=by
  have HO:=hidden (of_e hk);have c2:=hr.c2;have HS:=hidden (sz_path3 _ (ofK_len k));clear hr hk;generalize (if k.length=32 then (0:Int) else 3)=E at *;generalize (if k.length=32 then k else z32)=K at *;go_enter Tryz.func140,Tryz.ntmps140
  go_wp2_with (first
    |(go_at_call 88;refine HO.out.mono ?_;rintro e w1 ⟨rfl,b1⟩)
    |((with_reducible refine at_ald 3 ?_);refine wpList_al _ rfl _ rfl _ zero_path ?_;intro w2 g3 hg3 hl3 B3 b2;clear hl3)
    |((with_reducible refine at_st 3 ?_);refine wpList_sto _ rfl _ _ _ rfl g3 _ (B K) rfl rfl B3 HS.out.1 HS.out.2 (B_one _) ?_;intro w3 B3' r3;have b3:=below_row b2 r3 hg3))
  go_ret;exact ⟨rfl,grow_trans b1 b3⟩

section
variable {w:World} {r d:Nat} {s:ByteArray} {kv lv:Value} {l:List Rw}

theorem badKeys_any (hr:Rq w r d s kv lv) (hl:RwAt w lv l) (hbd:l.length≤140737488355328):Kc 152 #[.pointer (some ⟨r,0,none⟩)] w fun e w'=>e=.returned (.int .i64 (bkE l))∧Kb w w':=by
  obtain ⟨a,cap,rfl,hc,hrow,hrd⟩:=hl;obtain ⟨n,hn⟩:∃n,n=l.length:=⟨_,rfl⟩;have c3:=hr.c3;rw [← hn] at c3 hc hbd;have HI:Hid (∀i,i<n→∃g off,a=some ⟨g,off,none⟩∧w.rangeAt g (off+i * 3) (l[i]!).cells∧Reads w (l[i]!).kv (l[i]!).k∧Reads w (l[i]!).v (l[i]!).b):=fun i hi=>by
    obtain ⟨g,off,e,h⟩:=hrow (by omega);have hm:l[i]!∈l:=by rw [getElem!_pos l i (by omega)];exact List.getElem_mem _
    exact ⟨g,off,e,h i (by omega),hrd _ hm⟩
  have HNo:Hid (∀i,i<n→(l[i]!).k.length≠32→bkE l=3):=fun i hi h=>by
    unfold bkE;rw [if_neg];intro h2;rw [List.all_eq_true] at h2;have:=h2 (l[i]!) (by rw [getElem!_pos l i (by omega)];exact List.getElem_mem _);exact h (by simpa using this)
  have HYes:Hid ((∀i,i<n→(l[i]!).k.length=32)→bkE l=0):=fun h=>by
    unfold bkE;rw [if_pos];rw [List.all_eq_true];intro x hx;obtain ⟨i,hi,rfl⟩:=List.mem_iff_getElem.1 hx;have:=h i (by omega);rw [getElem!_pos l i hi] at this;simpa using this
  obtain ⟨fr,hur⟩:∃fr,Tryz.prog.underlying 163=some (.struct fr):=⟨_,Tryz.underlying163⟩;have HUR:=hidden hur;clear hr hrow hrd hn hur;generalize bkE l=E at *;go_enter Tryz.func152,Tryz.ntmps152
  go_wp2_with fail
  go_loopw [12] (fun iv wr=>∃i:Nat,i≤n∧iv=.int .i64 (i:Int)∧Hid (∀j,j<i→(l[j]!).k.length=32)∧Hid (Kb w wr)) (fun iv _=>n-(intOf iv).toNat)
  case atStart=>exact ⟨0,by omega,rfl,fun j hj=>absurd hj (Nat.not_lt_zero j),Below.refl _ _⟩
  case round=>
    obtain ⟨i,hi,rfl,hz,hB⟩:=hrel
    by_cases hin:i<n
    · have q1:(i:Int)<(n:Int):=by omega
      have q0:(0:Int)≤(i:Int):=by omega
      obtain ⟨g,off,rfl,hrg,hre,hrv⟩:=HI.out i hin;have HRV:=hidden hrv;have HRG:=hidden (rng_grow hrg hB.out);have HO:Hid (∀w',Kb wr w'→_):=fun w' hb'=>of_e (w:=w') ((hre.grow hB.out).grow hb')
      have HRE:=hidden hre;have HN3:=hidden (HNo.out i hin);have HZ:Hid ((l[i]!).k.length=32→∀j,j<i+1→(l[j]!).k.length=32):=fun h j hj=>by
        rcases Nat.lt_succ_iff_lt_or_eq.1 hj with h' | rfl
        · exact hz.out j h'
        · exact h
      clear hrg hre hrv HI HNo;generalize l[i]! =x at *;obtain ⟨ka,kc,hkv⟩:=reads_len HRE.out;obtain ⟨kv,k,gn,b,v⟩:=x;unfold Rw.cells at HRG;dsimp only at hkv HRG HO HRE HN3 HZ HRV;subst hkv;have HONE:Hid ((#[.slice ka k.length kc,.bool gn,v]:Array Value).all (·.oneCell')=true):=by
        obtain ⟨va,vc,hvv⟩:=reads_len HRV.out;subst hvv;show _=_;simp [Value.oneCell']
      clear HRV
      by_cases h32:k.length=32
      · rw [if_pos h32,if_pos h32] at HO
        replace HZ:=hidden (HZ.out h32)
        have HS:=hidden (sz_path3 k h32);obtain ⟨kl,hkl⟩:∃kl,kl=k.length:=⟨_,rfl⟩;rw [← hkl] at HRG HO HONE;clear HN3 h32 hkl HRE
        go_wp2_with (first
          |((with_reducible refine at_ldd 15 14 ?_);refine wpList_ldw _ rfl _ _ rfl g (off+i * 3) rfl [.slice ka kl kc,.bool gn,v] _ HRG.out Tryz.underlying163 rfl size_raw ?_)
          |((with_reducible refine at_ald 4 ?_);refine wpList_al _ rfl _ rfl _ zero_raw ?_;intro w1 g4 hg4 hl4 B4 b1;have HG4:=hidden hg4;have HB4:=hidden B4;have Hb1:=hidden b1;clear hg4 hl4 B4 b1)
          |((with_reducible refine at_st 4 ?_);refine wpList_sto _ rfl _ _ _ rfl g4 _ #[.slice ka kl kc,.bool gn,v] rfl rfl HB4.out size_raw rfl HONE.out ?_;intro w2 B4' r4;have cc0:w2.cell? ⟨g4,0,none⟩=some (.slice ka kl kc):=(by rw [Blk.cell B4'];rfl);have Hb2:=hidden (below_row Hb1.out r4 HG4.out);clear r4 B4')
          |(go_at_call 88;refine (HO.out _ Hb2.out).mono ?_;rintro e w3 ⟨rfl,b3⟩;have Hb3:=hidden (grow_trans Hb2.out b3);clear b3)
          |((with_reducible refine at_ald 5 ?_);refine wpList_al _ rfl _ rfl _ zero_path ?_;intro w4 g5 hg5 hl5 B5 b4;have HG5:=hidden hg5;have HB5:=hidden B5;have Hb4:=hidden b4;clear hg5 hl5 B5 b4)
          |((with_reducible refine at_st 5 ?_);refine wpList_sto _ rfl _ _ _ rfl g5 _ (B k) rfl rfl HB5.out HS.out.1 HS.out.2 (B_one _) ?_;intro w5 B5' r5;have Hb5:=hidden (grow_trans Hb3.out (below_row Hb4.out r5 HG5.out));clear r5 B5'))
        have HB3:=hidden (grow_trans hB.out Hb5.out);exact ⟨⟨i+1,by omega,by go_num,HZ.out,HB3.out⟩,by simp [intOf];omega⟩
      · rw [if_neg h32,if_neg h32] at HO
        have e3:=HN3.out h32;have HS:=hidden (sz_path3 z32 rfl);subst e3;obtain ⟨kl,hkl⟩:∃kl,kl=k.length:=⟨_,rfl⟩;rw [← hkl] at HRG HO HONE;clear HN3 h32 hkl HRE HZ HYes
        go_wp2_with (first
          |((with_reducible refine at_ldd 15 14 ?_);refine wpList_ldw _ rfl _ _ rfl g (off+i * 3) rfl [.slice ka kl kc,.bool gn,v] _ HRG.out Tryz.underlying163 rfl size_raw ?_)
          |((with_reducible refine at_ald 4 ?_);refine wpList_al _ rfl _ rfl _ zero_raw ?_;intro w1 g4 hg4 hl4 B4 b1;have HG4:=hidden hg4;have HB4:=hidden B4;have Hb1:=hidden b1;clear hg4 hl4 B4 b1)
          |((with_reducible refine at_st 4 ?_);refine wpList_sto _ rfl _ _ _ rfl g4 _ #[.slice ka kl kc,.bool gn,v] rfl rfl HB4.out size_raw rfl HONE.out ?_;intro w2 B4' r4;have cc0:w2.cell? ⟨g4,0,none⟩=some (.slice ka kl kc):=(by rw [Blk.cell B4'];rfl);have Hb2:=hidden (below_row Hb1.out r4 HG4.out);clear r4 B4')
          |(go_at_call 88;refine (HO.out _ Hb2.out).mono ?_;rintro e w3 ⟨rfl,b3⟩;have Hb3:=hidden (grow_trans Hb2.out b3);clear b3)
          |((with_reducible refine at_ald 5 ?_);refine wpList_al _ rfl _ rfl _ zero_path ?_;intro w4 g5 hg5 hl5 B5 b4;have HG5:=hidden hg5;have HB5:=hidden B5;have Hb4:=hidden b4;clear hg5 hl5 B5 b4)
          |((with_reducible refine at_st 5 ?_);refine wpList_sto _ rfl _ _ _ rfl g5 _ (B z32) rfl rfl HB5.out HS.out.1 HS.out.2 (B_one _) ?_;intro w5 B5' r5;have Hb5:=hidden (grow_trans Hb3.out (below_row Hb4.out r5 HG5.out));clear r5 B5'))
        have HB3:=hidden (grow_trans hB.out Hb5.out);go_ret;exact ⟨rfl,HB3.out⟩
    · have q1: ¬(i:Int)<(n:Int):=by omega
      obtain rfl:i=n:=by omega
      have e0:=HYes.out hz.out;subst e0
      go_wp2_with fail
      go_ret;exact ⟨rfl,hB.out⟩

theorem tooLong_any (hr:Rq w r d s kv lv) (hl:RwAt w lv l) (hbd:l.length≤140737488355328):Kc 153 #[.pointer (some ⟨r,0,none⟩)] w fun e w'=>e=.returned (.int .i64 (tlE l))∧Kb w w':=by
  obtain ⟨a,cap,rfl,hc,hrow,hrd⟩:=hl;obtain ⟨n,hn⟩:∃n,n=l.length:=⟨_,rfl⟩;have c3:=hr.c3;rw [← hn] at c3 hc hbd;unfold tlE;rw [← hn]
  by_cases h64:64<n
  · have z64:(64:Int)<(n:Int):=by omega
    rw [if_pos h64];clear hr hrow hrd hn hc h64;go_enter Tryz.func153,Tryz.ntmps153
    go_wp2_with fail
    go_ret;exact ⟨rfl,Below.refl _ _⟩
  have z64: ¬(64:Int)<(n:Int):=by omega
  rw [if_neg h64];have HI:Hid (∀i,i<n→∃g off,a=some ⟨g,off,none⟩∧w.rangeAt g (off+i * 3) (l[i]!).cells∧Reads w (l[i]!).kv (l[i]!).k∧Reads w (l[i]!).v (l[i]!).b):=fun i hi=>by
    obtain ⟨g,off,e,h⟩:=hrow (by omega);have hm:l[i]!∈l:=by rw [getElem!_pos l i (by omega)];exact List.getElem_mem _
    exact ⟨g,off,e,h i (by omega),hrd _ hm⟩
  have HNo:Hid (∀i,i<n→tooR (l[i]!)=true→(if l.any (fun x=>tooR x)=true then (4:Int) else 0)=4):=fun i hi h=>by
    rw [if_pos];rw [List.any_eq_true];exact ⟨l[i]!,by rw [getElem!_pos l i (by omega)];exact List.getElem_mem _,h⟩
  have HYes:Hid ((∀i,i<n→tooR (l[i]!)=false)→(if l.any (fun x=>tooR x)=true then (4:Int) else 0)=0):=fun h=>by
    rw [if_neg];intro h2;rw [List.any_eq_true] at h2;obtain ⟨x,hx,h3⟩:=h2;obtain ⟨i,hi,rfl⟩:=List.mem_iff_getElem.1 hx;have:=h i (by omega);rw [getElem!_pos l i hi] at this;rw [this] at h3;cases h3
  generalize (if l.any (fun x=>tooR x)=true then (4:Int) else 0)=E at *;clear hr hrow hrd hn h64;go_enter Tryz.func153,Tryz.ntmps153
  go_wp2_with fail
  go_loopw [16] (fun iv wr=>∃i:Nat,i≤n∧iv=.int .i64 (i:Int)∧Hid (∀j,j<i→tooR (l[j]!)=false)∧Hid (Kb w wr)) (fun iv _=>n-(intOf iv).toNat)
  case atStart=>exact ⟨0,by omega,rfl,fun j hj=>absurd hj (Nat.not_lt_zero j),Below.refl _ _⟩
  case round=>
    obtain ⟨i,hi,rfl,hz,hB⟩:=hrel
    by_cases hin:i<n
    · have q1:(i:Int)<(n:Int):=by omega
      have q0:(0:Int)≤(i:Int):=by omega
      obtain ⟨g,off,rfl,hrg,hre,hrv⟩:=HI.out i hin;have HRG:=hidden (rng_grow hrg hB.out);have HRE:=hidden hre;have HRV:=hidden hrv;have HN3:=hidden (HNo.out i hin);have HZ:Hid (tooR (l[i]!)=false→∀j,j<i+1→tooR (l[j]!)=false):=fun h j hj=>by
        rcases Nat.lt_succ_iff_lt_or_eq.1 hj with h' | rfl
        · exact hz.out j h'
        · exact h
      clear hrg hre hrv HI HNo;generalize l[i]! =x at *;obtain ⟨ka,kc,hkv⟩:=reads_len HRE.out;obtain ⟨va,vc,hvv⟩:=reads_len HRV.out;obtain ⟨kv,k,gn,b,v⟩:=x;unfold Rw.cells at HRG;unfold tooR at HN3 HZ;dsimp only at hkv hvv HRG HRE HRV HN3 HZ;subst hkv hvv;obtain ⟨kl,hkl⟩:∃kl,kl=k.length:=⟨_,rfl⟩;obtain ⟨bl,hbl⟩:∃bl,bl=b.length:=⟨_,rfl⟩;rw [← hkl,← hbl] at HRG;rw [← hbl] at HN3 HZ;have HONE:Hid ((#[.slice ka kl kc,.bool gn,.slice va bl vc]:Array Value).all (·.oneCell')=true):=by show _=_;simp [Value.oneCell']
      clear hkl hbl HRE HRV;cases gn with
      | true=>
        replace HZ:=hidden (HZ.out rfl)
        clear HN3
        go_wp2_with (first
          |((with_reducible refine at_ldd 19 18 ?_);refine wpList_ldw _ rfl _ _ rfl g (off+i * 3) rfl [.slice ka kl kc,.bool true,.slice va bl vc] _ HRG.out Tryz.underlying163 rfl size_raw ?_)
          |((with_reducible refine at_ald 4 ?_);refine wpList_al _ rfl _ rfl _ zero_raw ?_;intro w1 g4 hg4 hl4 B4 b1;have HG4:=hidden hg4;have HB4:=hidden B4;have Hb1:=hidden b1;clear hg4 hl4 B4 b1)
          |((with_reducible refine at_st 4 ?_);refine wpList_sto _ rfl _ _ _ rfl g4 _ #[.slice ka kl kc,.bool true,.slice va bl vc] rfl rfl HB4.out size_raw rfl HONE.out ?_;intro w2 B4' r4;have cc1:w2.cell? ⟨g4,1,none⟩=some (.bool true):=(by rw [Blk.cell B4'];rfl);have cc2:w2.cell? ⟨g4,2,none⟩=some (.slice va bl vc):=(by rw [Blk.cell B4'];rfl);have Hb2:=hidden (below_row Hb1.out r4 HG4.out);clear r4 B4'))
        have HB3:=hidden (grow_trans hB.out Hb2.out);exact ⟨⟨i+1,by omega,by go_num,HZ.out,HB3.out⟩,by simp [intOf];omega⟩
      | false=>
        by_cases hb4:1024<bl
        · have z4:(1024:Int)<(bl:Int):=by omega
          have e4:=HN3.out (by simp [hb4]);subst e4;clear HN3 HZ HYes
          go_wp2_with (first
            |((with_reducible refine at_ldd 19 18 ?_);refine wpList_ldw _ rfl _ _ rfl g (off+i * 3) rfl [.slice ka kl kc,.bool false,.slice va bl vc] _ HRG.out Tryz.underlying163 rfl size_raw ?_)
            |((with_reducible refine at_ald 4 ?_);refine wpList_al _ rfl _ rfl _ zero_raw ?_;intro w1 g4 hg4 hl4 B4 b1;have HG4:=hidden hg4;have HB4:=hidden B4;have Hb1:=hidden b1;clear hg4 hl4 B4 b1)
            |((with_reducible refine at_st 4 ?_);refine wpList_sto _ rfl _ _ _ rfl g4 _ #[.slice ka kl kc,.bool false,.slice va bl vc] rfl rfl HB4.out size_raw rfl HONE.out ?_;intro w2 B4' r4;have cc1:w2.cell? ⟨g4,1,none⟩=some (.bool false):=(by rw [Blk.cell B4'];rfl);have cc2:w2.cell? ⟨g4,2,none⟩=some (.slice va bl vc):=(by rw [Blk.cell B4'];rfl);have Hb2:=hidden (below_row Hb1.out r4 HG4.out);clear r4 B4'))
          have HB3:=hidden (grow_trans hB.out Hb2.out);go_ret;exact ⟨rfl,HB3.out⟩
        · have z4: ¬(1024:Int)<(bl:Int):=by omega
          replace HZ:=hidden (HZ.out (by simp [hb4]))
          clear HN3
          go_wp2_with (first
            |((with_reducible refine at_ldd 19 18 ?_);refine wpList_ldw _ rfl _ _ rfl g (off+i * 3) rfl [.slice ka kl kc,.bool false,.slice va bl vc] _ HRG.out Tryz.underlying163 rfl size_raw ?_)
            |((with_reducible refine at_ald 4 ?_);refine wpList_al _ rfl _ rfl _ zero_raw ?_;intro w1 g4 hg4 hl4 B4 b1;have HG4:=hidden hg4;have HB4:=hidden B4;have Hb1:=hidden b1;clear hg4 hl4 B4 b1)
            |((with_reducible refine at_st 4 ?_);refine wpList_sto _ rfl _ _ _ rfl g4 _ #[.slice ka kl kc,.bool false,.slice va bl vc] rfl rfl HB4.out size_raw rfl HONE.out ?_;intro w2 B4' r4;have cc1:w2.cell? ⟨g4,1,none⟩=some (.bool false):=(by rw [Blk.cell B4'];rfl);have cc2:w2.cell? ⟨g4,2,none⟩=some (.slice va bl vc):=(by rw [Blk.cell B4'];rfl);have Hb2:=hidden (below_row Hb1.out r4 HG4.out);clear r4 B4'))
          have HB3:=hidden (grow_trans hB.out Hb2.out);exact ⟨⟨i+1,by omega,by go_num,HZ.out,HB3.out⟩,by simp [intOf];omega⟩
    · have q1: ¬(i:Int)<(n:Int):=by omega
      obtain rfl:i=n:=by omega
      have e0:=HYes.out hz.out;subst e0
      go_wp2_with fail
      go_ret;exact ⟨rfl,hB.out⟩
end

end Go.Proofs.YtdjpigfibafokaaGreatDoor

namespace Go.Proofs.YtdjpigfibafokaaGreatDoor
variable {c d g gv hd k n o r:Nat}
variable {kv lv v:Value}
variable {w w':World}
variable {xs:Lq}
set_option maxHeartbeats 4000000
set_option maxRecDepth 20000
open Go.RowKit

section
variable {α:Type} {enc:α→List Value} {K:Nat}

def flatE (enc:α→List Value) (xs:List α):List Value:=xs.flatMap enc
theorem flatE_snoc (xs:List α) (x:α):flatE enc (xs++[x])=flatE enc xs++enc x:=by simp [flatE]
theorem flatE_app (xs ys:List α):flatE enc (xs++ys)=flatE enc xs++flatE enc ys:=by simp [flatE]
theorem flatE_len:∀(xs:List α),(∀x∈xs,(enc x).length=K)→(flatE enc xs).length=xs.length * K
  | [],_=>by simp [flatE]
  | x::r,h=>by
    have h1:=flatE_len r (fun q hq=>h q (by simp [hq]));have h2:=h x (by simp);unfold flatE at h1 ⊢;rw [List.flatMap_cons,List.length_append,h1,h2,List.length_cons,Nat.succ_mul,Nat.add_comm]
theorem flatE_at:∀(xs:List α),(∀x∈xs,(enc x).length=K)→∀(i:Nat) (hi:i<xs.length) (j:Nat) (v:Value),(enc xs[i])[j]?=some v→(flatE enc xs)[i * K+j]?=some v
  | [],_,i,hi,_,_,_=>by simp at hi
  | x::r,hl,0,_,j,v,h=>by
    have h:(enc x)[j]?=some v:=h;have hj:=(List.getElem?_eq_some_iff.1 h).1;simp only [flatE,List.flatMap_cons,Nat.zero_mul,Nat.zero_add];rw [List.getElem?_append_left hj];exact h
  | x::r,hl,i+1,hi,j,v,h=>by
    have ih:=flatE_at r (fun q hq=>hl q (by simp [hq])) i (by simpa using hi) j v (by simpa using h);have e1:(enc x).length=K:=hl x (by simp);simp only [flatE,List.flatMap_cons];rw [List.getElem?_append_right (by rw [Nat.succ_mul,e1];omega),show (i+1) * K+j-(enc x).length=i * K+j by rw [Nat.succ_mul,e1];omega];exact ih
theorem flatE_one (xs:List α) (h1:∀x∈xs,∀u∈enc x,u.oneCell'=true):∀u∈flatE enc xs,u.oneCell'=true:=fun u hu=>by
  obtain ⟨x,hx,hux⟩:=List.mem_flatMap.1 hu;exact h1 x hx u hux
theorem flatE_set (xs:List α) (hl:∀x∈xs,(enc x).length=K) (i:Nat) (hi:i<xs.length) (p:α) (hp:(enc p).length=K):setL (flatE enc xs) (i * K) (enc p)=flatE enc (xs.set i p):=by
  have e:xs=xs.take i++(xs[i]::xs.drop (i+1)):=by simp
  have e2:xs.set i p=xs.take i++(p::xs.drop (i+1)):=by rw [List.set_eq_take_append_cons_drop,if_pos hi]
  have l1:(flatE enc (xs.take i)).length=i * K:=by rw [flatE_len _ (fun x hx=>hl x (List.mem_of_mem_take hx)),List.length_take,Nat.min_eq_left (by omega)]
  rw [e2]
  conv=>lhs;rw [e]
  rw [flatE_app,flatE_app,← l1];show setL (_++(enc xs[i]++flatE enc (xs.drop (i+1)))) _ _=_++(enc p++flatE enc (xs.drop (i+1)));exact setL_mid _ _ _ _ (by rw [hp,hl _ (List.getElem_mem hi)])
theorem lstE_range {e:TypeId} {xs:List α} (h:Lst w e K (.slice (some ⟨g,0,none⟩) n c) n (flatE enc xs)) (hn:xs.length=n) (hl:∀x∈xs,(enc x).length=K) (i:Nat) (hi:i<xs.length):w.rangeAt g (i * K) (enc xs[i])∧w.there g (i * K) K:=by
  have hK:i * K+K≤n * K:=by rw [← hn,← Nat.succ_mul];exact Nat.mul_le_mul_right K hi
  constructor
  · intro j u hu
    have hj:j<K:=by rw [← hl _ (List.getElem_mem hi)];exact (List.getElem?_eq_some_iff.1 hu).1
    rw [lst_cell h (i * K+j) (by omega)];exact flatE_at xs hl i hi j u hu
  · intro j hj
    refine ⟨?_,h.frozenAt (i * K+j)⟩;rw [h.cellAt (i * K+j) (by omega),List.getElem?_eq_getElem (by rw [h.1];omega)];rfl
theorem lstE_set {e:TypeId} {xs:List α} (h:Lst w e K (.slice (some ⟨g,0,none⟩) n c) n (flatE enc xs)) (hl:∀x∈xs,(enc x).length=K) (i:Nat) (hi:i<xs.length) (p:α) (hp:(enc p).length=K):Lst (w.setCells g (i * K) (enc p)) e K (.slice (some ⟨g,0,none⟩) n c) n (flatE enc (xs.set i p)):=by
  rw [← flatE_set xs hl i hi p hp];exact lst_sets _ _ _ _ h
theorem there_sets (h:w.there g o k) (g' o':Nat) (us:List Value):(w.setCells g' o' us).there g o k:=World.there_setCells h _ _ _
end

end Go.Proofs.YtdjpigfibafokaaGreatDoor
