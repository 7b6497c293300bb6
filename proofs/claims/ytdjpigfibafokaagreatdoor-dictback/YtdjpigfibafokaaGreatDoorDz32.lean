/- Worlds that have but grown: draws, and new blocks; path.Compare and path.Bit told so; the function that the leaves are sorted by. -/
import Derived.Test.YtdjpigfibafokaaGreatDoorDz01
import Derived.Test.YtdjpigfibafokaaGreatDoorDz06
import Derived.Test.YtdjpigfibafokaaGreatDoorDz05
import Derived.Sort.Grow
import Derived.Shelf.SlSorted.Search
import Derived.Test.YtdjpigfibafokaaGreatDoorProg
import Derived.Test.YtdjpigfibafokaaGreatDoorDz30
import Derived.Test.YtdjpigfibafokaaGreatDoorDz28
import Derived.Lib.SlicesSearch
import Derived.Test.YtdjpigfibafokaaGreatDoorDz31
import Derived.Deep.CutRange
namespace Go.Proofs.YtdjpigfibafokaaGreatDoor
variable {bp d g h:Nat}
variable {cs:Lz}
variable {lv v:Value}
variable {q:Int}
variable {w w' wa:World}
set_option maxHeartbeats 4000000
set_option maxRecDepth 20000
open Go.RowKit

def Grew (w w':World):Prop:=∃(q:Nat) (os:Array Obj),w'=Go.Sort.grow (w.drewN q) os
theorem Grew.trans {a b c:World} (h:Grew a b) (k:Grew b c):Grew a c:=by
  obtain ⟨q,os,rfl⟩:=h;obtain ⟨p,us,rfl⟩:=k;refine ⟨q+p,os++us,?_⟩;rw [← Go.Sort.grow_grow];simp [Go.Sort.grow,World.drewN,Nat.add_assoc]
theorem Grew.alloc (w:World) (o:Obj):Grew w (w.alloc o):=⟨0, #[o],by rw [Go.Sort.alloc_eq_grow];rfl⟩
theorem Grew.drewN (w:World) (n:Nat):Grew w (w.drewN n):=⟨n, #[],by rw [Go.Sort.grow_empty]⟩
theorem Grew.drew (w:World):Grew w w.drew:=Grew.drewN w 1
theorem Grew.below (h:Grew w w'):Kb w w':=by
  obtain ⟨q,os,rfl⟩:=h;exact ⟨rfl,rfl,rfl,by simp [Go.Sort.grow,World.drewN],fun k hk=>Go.Sort.heap_grow_old (w.drewN q) os hk⟩

theorem wpList_bxG {ops:Array Oper} {rest:List Oper} {op:Oper} {a:Act} {Q:Exit→Act→World→Prop} (w:World) (hgd:op.guard=none) (x:Operand) (ty:TypeId) (ho:op.op=.box ty x)
    (cs:Array Value) (hx:a.eval x=.agg cs)
    (hk:∀w' g,w.heap.size≤g→Blk w' g ty cs→Grew w w'→wpList Tryz.prog ops Q rest (a.put op.dst (.pointer (some ⟨g,0,none⟩))) w'):wpList Tryz.prog ops Q (op::rest) a w:=by
  refine wpList_plain hgd fun K hK=>?_
  unfold Oper.wp execOp;simp [ho,hx,Instr.box,newVar,Value.cells,newRow];exact hK _ _ (hk _ w.heap.size (Nat.le_refl _) (Blk.new w ty cs) (Grew.alloc w _))

theorem bit_grew (xs:Lq) (d:Nat) (w:World) (hx:Key xs) (hd:d<256):Kc 180 #[.agg (B xs),.int .i64 d] w fun e w'=>e=.returned (.int .i64 (kb xs d))∧Grew w w':=by
  have HI:Hid (∀w,Kc 231 #[.int .i64 (d:Int)] w fun e w'=>e=.returned (.bool true)∧w'=w):=by
    intro w;have:=isBit_any d w;rw [decide_eq_true (by omega)] at this;exact this
  have HW:=hidden (bit_word xs hx d);have h2:((d / 8:Nat):Int)<32:=by omega
  go_enter Tryz.func180,Tryz.ntmps180
  go_wp2_with (first | (go_at_call 231;refine (HI.out _).mono ?_;rintro e w2 ⟨rfl,rfl⟩) | ((with_reducible refine at_bxd 2 ?_);refine wpList_bxG _ rfl _ _ rfl _ rfl ?_;intro w1 g1 hg1 B1 b1;have c1:=B1.bcell (d / 8) (by rw [hx.1];omega)))
  go_ret;exact ⟨by rw [HW.out];rfl,b1⟩

end Go.Proofs.YtdjpigfibafokaaGreatDoor

namespace Go.Proofs.YtdjpigfibafokaaGreatDoor
variable {bp d g h:Nat}
variable {cs:Lz}
variable {lv v:Value}
variable {q:Int}
variable {w w' wa:World}
set_option maxHeartbeats 4000000
set_option maxRecDepth 20000
open Go.Shelf
def searchO_ren:Go.Shelf.Ren:=⟨fun | 16=>262 | n=>n,fun | 3=>3 | 35=>272 | 4=>4 | 38=>340 | n=>n,fun | n=>n⟩
theorem searchO:Go.Proofs.SlLaysO.n16 Tryz.prog searchO_ren:={
  mixed:=by kernel_rfl
  f16:=Tryz.func262.trans (congrArg some (by kernel_rfl))
  t3:=Tryz.underlying3
  a3:=Tryz.isAgg3
  z3:=Tryz.sizeOf3
  v3:=Tryz.zeroValue3
  t4:=Tryz.underlying4
  a4:=Tryz.isAgg4
  z4:=Tryz.sizeOf4
  v4:=Tryz.zeroValue4
  t35:=Tryz.underlying272
  a35:=Tryz.isAgg272
  z35:=Tryz.sizeOf272
  v35:=Tryz.zeroValue272
  t38:=Tryz.underlying340
  a38:=Tryz.isAgg340
  z38:=Tryz.sizeOf340
  v38:=Tryz.zeroValue340}

end Go.Proofs.YtdjpigfibafokaaGreatDoor

namespace Go.Proofs.YtdjpigfibafokaaGreatDoor
variable {bp d g h:Nat}
variable {cs:Lz}
variable {lv v:Value}
variable {q:Int}
variable {w w' wa:World}
set_option maxHeartbeats 4000000
set_option maxRecDepth 20000
open Go.RowKit

theorem ris_bit {a b:Lq} (h:Ahead a b) (hc:∀j,j<d→kb a j=kb b j) (h1:kb a d=1):kb b d=1:=by
  obtain ⟨c,c1,c2,c3,c4⟩:=h;rcases Nat.lt_trichotomy c d with e | e | e
  · have:=hc c e
    omega
  · subst e
    omega
  · rw [← c2 d e]
    exact h1
theorem wsd_cut:∀(l:List Wt) (d:Nat),Ris l→Com d (l.map (·.k))→l.take (l.countP fun x=>!(kb x.k d == 1))=wsd l d 0∧l.drop (l.countP fun x=>!(kb x.k d == 1))=wsd l d 1
  | [],d,_,_=>⟨rfl,rfl⟩
  | x::r,d,h,hc=>by
    obtain ⟨h1,h2⟩:=List.pairwise_cons.1 h;obtain ⟨i1,i2⟩:=wsd_cut r d h2 (hc.sub fun a ha=>List.mem_cons_of_mem _ ha);unfold wsd at i1 i2 ⊢;rcases kb_two x.k d with q | q
    · rw [List.countP_cons_of_pos (by rw [q];rfl),List.take_succ_cons,List.drop_succ_cons,i1,i2,List.filter_cons_of_pos (by rw [q];rfl),List.filter_cons_of_neg (by rw [q];decide)]
      exact ⟨rfl,rfl⟩
    · have all:∀y∈r,kb y.k d=1:=fun y hy=>ris_bit (h1 y hy) (hc x.k (by simp) y.k (by simp;exact .inr ⟨y,hy,rfl⟩)) q
      have c0:r.countP (fun x=>!(kb x.k d == 1))=0:=by
        rw [List.countP_eq_zero];intro y hy;simp [all y hy]
      rw [List.countP_cons_of_neg (by rw [q];decide),c0,List.filter_cons_of_neg (by rw [q];decide),List.filter_cons_of_pos (by rw [q];rfl)];rw [c0] at i1 i2;exact ⟨i1,by rw [← i2];rfl⟩
theorem wts_mono (l:List Wt) (d:Nat) (h:Ris l) (hc:Com d (l.map (·.k))):∀i j,i≤j→j<l.length→(kb l[i]!.k d == 1)=true→(kb l[j]!.k d == 1)=true:=fun i j hij hj h1=>by
  by_cases e:i=j
  · subst e
    exact h1
  · have hi:i<l.length:=by omega
    rw [getElem!_pos l i hi] at h1;rw [getElem!_pos l j hj];have h2:=List.pairwise_iff_getElem.1 h i j hi hj (by omega);simp only [beq_iff_eq] at h1 ⊢;exact ris_bit h2 (hc _ (List.mem_map_of_mem (List.getElem_mem hi)) _ (List.mem_map_of_mem (List.getElem_mem hj))) h1
theorem countP_rngW (q:Wt→Bool):∀l:List Wt,(List.range l.length).countP (fun i=>q l[i]!)=l.countP q:=by
  intro l;have e:(List.range l.length).map (fun i=>l[i]!)=l:=by
    apply List.ext_getElem (by simp);intro i h1 h2;simp [h2]
  have h:=List.countP_map (p:=q) (f:=fun i=>l[i]!) (l:=List.range l.length);rw [e] at h;exact h.symm

theorem WrAt.cut {off cap:Nat} {ls:List Wt} (h:∀i,i<ls.length→w.rangeAt g (off+i * 34) (encW ls[i]!)) (ok:∀x∈ls,WtOk x) (rd:∀x∈ls,Reads w x.v x.b) (hc:ls.length≤cap) (c:Nat) (hcn:c≤ls.length):
    WrAt w (.slice (some ⟨g,off,none⟩) c cap) (ls.take c)∧WrAt w (.slice (if cap=c then some ⟨g,off,none⟩ else some ⟨g,off+c * 34,none⟩) (ls.length-c) (cap-c)) (ls.drop c):=by
  constructor
  · have hl:(ls.take c).length=c:=by simp;omega
    refine ⟨_,_,by rw [hl],by omega,fun e=>(by cases e),fun _=>⟨g,off,rfl,fun i hi=>?_⟩,fun x hx=>ok x (List.mem_of_mem_take hx),fun x hx=>rd x (List.mem_of_mem_take hx)⟩;rw [hl] at hi;have e:(ls.take c)[i]! =ls[i]!:=by
      rw [getElem!_pos _ i (by omega),getElem!_pos _ i (by omega)];simp
    rw [e];exact h i (by omega)
  · have hl:(ls.drop c).length=ls.length-c:=by simp
    refine ⟨_,_,by rw [hl],by omega,fun e=>?_,fun hp=>?_,fun x hx=>ok x (List.mem_of_mem_drop hx),fun x hx=>rd x (List.mem_of_mem_drop hx)⟩
    · split at e <;> cases e
    rw [hl] at hp;rw [if_neg (by omega)];refine ⟨g,off+c * 34,rfl,fun i hi=>?_⟩;rw [hl] at hi;have e:(ls.drop c)[i]! =ls[c+i]!:=by
      rw [getElem!_pos _ i (by omega),getElem!_pos _ (c+i) (by omega)];simp
    rw [e,Nat.add_assoc,← Nat.add_mul];exact h (c+i) (by omega)

theorem closure_sp (g off cap n i d g1 g2:Nat) (x:Wt) (hx:Key x.k) (W:World) (hi:i<n) (hd:d<256) (h1:W.cell? ⟨g1,0,none⟩=some (.slice (some ⟨g,off,none⟩) n cap)) (h2:W.cell? ⟨g2,0,none⟩=some (.int .i64 d)) (hr:W.rangeAt g (off+i * 34) (encW x)):
    Kc 276 #[.int .i64 i,.pointer (some ⟨g1,0,none⟩),.pointer (some ⟨g2,0,none⟩)] W fun e w'=>e=.returned (.bool (kb x.k d == 1))∧Grew W w':=by
  have HB:Hid (∀w',Kc 180 #[.agg (B x.k),.int .i64 d] w' fun e w''=>e=.returned (.int .i64 (kb x.k d))∧Grew w' w''):=fun w'=>bit_grew x.k d w' hx hd
  have HL:Hid ((Tryz.prog.info? 63).map (·.size)=some (B x.k).toList.length):=by show _=_;rw [B_toList,List.length_map,hx.1];exact size_path
  have HS:Hid (∀w',Kb W w'→w'.cell? ⟨g1,0,none⟩=some (.slice (some ⟨g,off,none⟩) n cap)∧w'.cell? ⟨g2,0,none⟩=some (.int .i64 d)∧w'.rangeAt g (off+i * 34) (B x.k).toList):=fun w' hw'=>⟨(hw'.cell (block_lt_of_cell h1)).trans h1,(hw'.cell (block_lt_of_cell h2)).trans h2,rngW_grow (encW_key hr) hw'⟩
  obtain ⟨K,hK⟩:∃K,K=x.k:=⟨_,rfl⟩;rw [← hK] at HB HL HS ⊢;obtain ⟨z,hz⟩:∃z,z=kb K d:=⟨_,rfl⟩;rw [← hz] at HB ⊢;have hi1:(i:Int)<(n:Int):=by omega
  have hi0:(0:Int)≤(i:Int):=by omega
  clear hr h1 h2 hK hz hi hx;go_enter Tryz.func276,Tryz.ntmps276
  go_wp2_with fail
  have d0:Kb W W.drew:=(Below.refl _ _).drew;refine wp_region_held_drew (S:=fun w'=>w'.cell? ⟨g1,0,none⟩=some (.slice (some ⟨g,off,none⟩) n cap)∧w'.cell? ⟨g2,0,none⟩=some (.int .i64 d)∧w'.rangeAt g (off+i * 34) (B K).toList) (by kernel_rfl) (HS.out _ d0) (fun hHeld=>?_);refine tkg 0 (.slice (some ⟨g,off,none⟩) n cap) rfl (Or.inl ⟨by rfl,fun w hS=>by (have s1:=hS.1;go_simp)⟩) hHeld ?_;simp only [Act.put,zq1,zq2,zq4,zq5,zq6];refine tkp 1 (.int .i64 i) hHeld ?_;simp only [Act.put,zq1,zq2,zq3,zq4,zq5,zq6];refine tkp 2 (.pointer (some ⟨g,off+i * 34,none⟩)) hHeld ?_;simp only [Act.put,zq1,zq2,zq3,zq4,zq5,zq6];refine tkp 3 (.pointer (some ⟨g,off+i * 34,none⟩)) hHeld ?_;simp only [Act.put,zq1,zq2,zq3,zq4,zq5,zq6];refine tkg 4 (.agg (B K)) rfl (yieldsIf_load_mid rfl 63 (.tmp 8) rfl g (off+i * 34) rfl (B K).toList _ (fun w hS=>hS.2.2) Tryz.underlying63 rfl HL.out) hHeld ?_;simp only [Act.put,zq1,zq2,zq3,zq4,zq5,zq6];refine tkg 5 (.int .i64 d) rfl (Or.inl ⟨by rfl,fun w hS=>by (have s1:=hS.2.1;go_simp)⟩) hHeld ?_;simp only [Act.put,zq1,zq2,zq3,zq4,zq5,zq6];refine wpAnyH_ready (rs:=[6]) (by kernel_rfl) (by simp) ?_;refine AllReadyH.cons rfl (fun KQ hK=>?_) AllReadyH.nil;go_simp;refine (HB.out _).mono ?_;rintro e x1 ⟨rfl,a1⟩;have d1:=grow_trans d0 a1.below;refine hK.out _ _ (HS.out _ d1) (fun hHeld=>?_);clear hK KQ;refine tkp 7 (.bool (z == 1)) hHeld ?_;simp only [Act.put,zq1,zq2,zq3,zq4,zq5,zq6];refine tkp 8 (.bool (z == 1)) hHeld ?_;simp only [Act.put,zq1,zq2,zq3,zq4,zq5,zq6];refine wpAnyH_done (by kernel_rfl) ?_ _
  go_wp2_with fail
  go_ret;exact ⟨rfl,(Grew.drew W).trans a1⟩

theorem split_any {ls:List Wt} (R:World→Prop) (d:Nat) (hw:WrAt w v ls) (hR:∀w',R w'→WrAt w' v ls) (h0:ls≠[]) (hd:d<256) (hn:ls.length≤65536) (hr:Ris ls) (hs:Com d (ls.map (·.k))):
    Kc 247 #[v,.int .i64 d] w fun e w'=>∃v0 v1,e=.returned (.tuple #[v0,v1])∧(∀w',R w'→WrAt w' v0 (wsd ls d 0))∧(∀w',R w'→WrAt w' v1 (wsd ls d 1))∧Kb w w':=by
  obtain ⟨a,cap,rfl,hcap,_,hp,hok,hrd⟩:=hw;obtain ⟨g,off,rfl,hv⟩:=hp (List.length_pos_iff.2 h0);obtain ⟨c,hc⟩:∃c,c=ls.countP fun x=>!(kb x.k d == 1):=⟨_,rfl⟩
  have hcn:c≤ls.length:=by rw [hc];exact List.countP_le_length
  obtain ⟨p0,p1⟩:=wsd_cut ls d hr hs;rw [← hc] at p0 p1;have eg:∀args w,(callFunc 276 args).run Tryz.prog w=.ok (.enter 276 args) w:=enters_of Tryz.func276 (by kernel_rfl) rfl;have HSE:Hid (∀w' g1 g2,Kb w w'→w'.cell? ⟨g1,0,none⟩=some (.slice (some ⟨g,off,none⟩) ls.length cap)→w'.cell? ⟨g2,0,none⟩=some (.int .i64 d)→
      Kc 262 #[.int .i64 ls.length,.func (.func 276) #[] #[.pointer (some ⟨g1,0,none⟩),.pointer (some ⟨g2,0,none⟩)]] w' fun e w''=>e=.returned (.int .i64 c)∧Grew w' w''):=by
    intro w' g1 g2 hb h1 h2;have h:=Any.sort_Search searchO 276 #[.pointer (some ⟨g1,0,none⟩),.pointer (some ⟨g2,0,none⟩)] ls.length (fun i=>kb ls[i]!.k d == 1) w' eg (by omega) (fun m os i hi=>by
      have q:Grew w' (Go.Sort.grow (w'.drewN m) os):=⟨m,os,rfl⟩;have hk:Key ls[i]!.k:=by rw [getElem!_pos ls i hi];exact (hok _ (List.getElem_mem hi)).hk
      have:=closure_sp g off cap ls.length i d g1 g2 ls[i]! hk _ hi hd ((q.below.cell (block_lt_of_cell h1)).trans h1) ((q.below.cell (block_lt_of_cell h2)).trans h2) (rngW_grow (hv i hi) (grow_trans hb q.below));exact this.mono fun e w'' ⟨e1,e2⟩=>⟨e1,e2⟩) (wts_mono ls d hr hs)
    rw [countP_rngW (fun x=>!(kb x.k d == 1)) ls,← hc] at h;exact h
  have HV:Hid (∀w',R w'→WrAt w' (.slice (some ⟨g,off,none⟩) c cap) (wsd ls d 0)∧WrAt w' (.slice (if cap=c then some ⟨g,off,none⟩ else some ⟨g,off+c * 34,none⟩) (ls.length-c) (cap-c)) (wsd ls d 1)):=by
    intro w' hr';obtain ⟨a',cap',e',hcap',_,hp',hok',hrd'⟩:=hR w' hr';obtain ⟨g',off',ea,hv'⟩:=hp' (List.length_pos_iff.2 h0);subst ea;injection e' with e1 _ e2;injection e1 with e1;injection e1 with e1 e3 _;subst e1 e2 e3;have:=WrAt.cut hv' hok' hrd' hcap' c hcn;rwa [p0,p1] at this
  obtain ⟨n,hnn⟩:∃n,n=ls.length:=⟨_,rfl⟩;rw [← hnn] at HSE HV hcn hcap hn ⊢;have i1:(c:Int)≤(n:Int):=by omega
  have i2:(0:Int)≤(c:Int):=by omega
  have i3:(n:Int)≤(cap:Int):=by omega
  have i4:(c:Int)≤(cap:Int):=by omega
  clear hr hs hv hc p0 p1 eg hnn hok hrd hp h0 hR;go_enter Tryz.func247,Tryz.ntmps247
  go_wp2_with (go_at_call 262;refine (HSE.out _ _ _ (grow_trans (grow_alloc _ _) (grow_alloc _ _)) (by simp) (by simp)).mono ?_;rintro e x1 ⟨rfl,a1⟩)
  have hx:Kb w x1:=grow_trans (grow_trans (grow_alloc _ _) (grow_alloc _ _)) a1.below;have HS:Hid (∀w',Kb x1 w'→w'.cell? ⟨w.heap.size,0,none⟩=some (.slice (some ⟨g,off,none⟩) n cap)):=by
    intro w' hw';have q0:((w.alloc (.cells #[.slice (some ⟨g,off,none⟩) n cap] 199)).alloc (.cells #[.int .i64 d] 3)).cell? ⟨w.heap.size,0,none⟩=some (.slice (some ⟨g,off,none⟩) n cap):=by simp
    have q1:=(a1.below.cell (block_lt_of_cell q0)).trans q0;exact (hw'.cell (block_lt_of_cell q1)).trans q1
  have d0:Kb x1 x1.drew:=(Below.refl _ _).drew;refine wp_region_held_drew (S:=fun w'=>w'.cell? ⟨w.heap.size,0,none⟩=some (.slice (some ⟨g,off,none⟩) n cap)) (by kernel_rfl) (HS.out _ d0) (fun hHeld=>?_);refine tkg 0 (.slice (some ⟨g,off,none⟩) n cap) rfl (Or.inl ⟨by rfl,fun w hS=>by (have s1:=hS;go_simp)⟩) hHeld ?_;simp only [Act.put,zq1,zq2,zq4,zq5,zq6];refine tkp 1 (.int .i64 c) hHeld ?_;simp only [Act.put,zq1,zq2,zq3,zq4,zq5,zq6];refine tkp 2 (.slice (some ⟨g,off,none⟩) c cap) hHeld ?_;simp only [Act.put,zq1,zq2,zq3,zq4,zq5,zq6];refine tkg 3 (.slice (some ⟨g,off,none⟩) n cap) rfl (Or.inl ⟨by rfl,fun w hS=>by (have s1:=hS;go_simp)⟩) hHeld ?_;simp only [Act.put,zq1,zq2,zq3,zq4,zq5,zq6];refine tkp 4 (.int .i64 c) hHeld ?_;simp only [Act.put,zq1,zq2,zq3,zq4,zq5,zq6];refine tkg 5 (.slice (if cap=c then some ⟨g,off,none⟩ else some ⟨g,off+c * 34,none⟩) (n-c) (cap-c)) rfl (Or.inl ⟨by rfl,fun w hS=>by (go_simp;skip)⟩) hHeld ?_;simp only [Act.put,zq1,zq2,zq3,zq4,zq5,zq6];refine tkp 6 (.slice (some ⟨g,off,none⟩) c cap) hHeld ?_;simp only [Act.put,zq1,zq2,zq3,zq4,zq5,zq6];refine tkp 7 (.slice (if cap=c then some ⟨g,off,none⟩ else some ⟨g,off+c * 34,none⟩) (n-c) (cap-c)) hHeld ?_;simp only [Act.put,zq1,zq2,zq3,zq4,zq5,zq6];refine wpAnyH_done (by kernel_rfl) ?_ _;generalize (if cap=c then (some ⟨g,off,none⟩:Option Addr) else some ⟨g,off+c * 34,none⟩)=A1 at HV ⊢
  go_wp2_with fail
  go_ret2;exact ⟨_,_,rfl,fun w' hr'=>(HV.out w' hr').1,fun w' hr'=>(HV.out w' hr').2,grow_trans hx d0⟩

end Go.Proofs.YtdjpigfibafokaaGreatDoor

namespace Go.Proofs.YtdjpigfibafokaaGreatDoor
variable {bp d g h:Nat}
variable {cs:Lz}
variable {lv v:Value}
variable {q:Int}
variable {w w' wa:World}
set_option maxHeartbeats 4000000
set_option maxRecDepth 20000
open Go.RowKit

def GwPost (wa:World) (bp g:Nat) (cs:Lz) (d h:Nat) (l:List Wt) (ps:List Pn) (e:Ending) (w':World):Prop:=∃(q:Int) (ps':List Pn) (lv':Value),e=.returned (.int .i64 q)∧Grw cs d h l ps q ps'∧PlM wa w' bp (.pointer (some ⟨g,0,none⟩)) ps' lv'

theorem gw_of_pl {l:List Wt} {ps ps':List Pn} (hg:Grw cs d h l ps q ps') {e:Ending} {w':World} (p:BlnPost wa bp (.pointer (some ⟨g,0,none⟩)) q ps' e w'):GwPost wa bp g cs d h l ps e w':=by
  obtain ⟨e1,lv',p1⟩:=p;exact ⟨q,ps',lv',e1,hg,p1⟩

theorem WrAt.fst {x:Wt} {l:List Wt} (h:WrAt w v (x::l)):∃g off c,v=.slice (some ⟨g,off,none⟩) (l.length+1) c∧w.rangeAt g off (encW x):=by
  obtain ⟨a,cap,e,h1,_,h3,_⟩:=h;obtain ⟨g,off,ea,hr⟩:=h3 (by simp);subst ea;have:=hr 0 (by simp);rw [Nat.zero_mul,Nat.add_zero] at this;exact ⟨g,off,cap,e,this⟩

theorem grow_none {ps:List Pn} (P:PlM wa w bp (.pointer (some ⟨g,0,none⟩)) ps lv) (h d:Nat) (v:Value) (hv:WrAt w v []):Kc 196 #[.pointer (some ⟨bp,0,none⟩),.int .i64 (h:Int),.int .i64 (d:Int),v] w (GwPost wa bp g cs d h [] ps):=by
  have HPost:Hid (∀w',PlM wa w' bp (.pointer (some ⟨g,0,none⟩)) ps lv→GwPost wa bp g cs d h [] ps (.returned (.int .i64 (h:Int))) w'):=fun w' q=>⟨_,_,_,rfl,.none,q⟩
  have HP:=hidden P;obtain ⟨a,c,rfl,_⟩:=hv;rw [List.length_nil];generalize GwPost wa bp g cs d h [] ps=PP at HPost ⊢;clear P;go_enter Tryz.func196,Tryz.ntmps196
  go_wp2_with fail
  exact HPost.out _ HP.out

theorem grow_place {ps:List Pn} (P:PlM wa w bp (.pointer (some ⟨g,0,none⟩)) ps lv) (V:Kq [bp] wa fun w'=>Vw w' (.pointer (some ⟨g,0,none⟩)) true (cot cs) (cat cs)) (h d:Nat) (v:Value) (x:Wt) (hv:WrAt w v [x]) (hrd:Kq [bp] wa fun w'=>Reads w' x.v x.b) (hpl:Plc cs h x.k) (h6:ps.length+1≤65536):Kc 196 #[.pointer (some ⟨bp,0,none⟩),.int .i64 (h:Int),.int .i64 (d:Int),v] w (GwPost wa bp g cs d h [x] ps):=by
  have ok:WtOk x:=hv.ok x (by simp);have HPL:Hid (Kr w 244 #[.pointer (some ⟨bp,0,none⟩),.int .i64 (h:Int),.agg (B x.k)] (.bool true)):=fun w' hb=>place_any (P.grow hb) V h x.k ok.hk true (by simp [hpl])
  have HLF:Hid (∀w',Kb w w'→Kc 245 #[.pointer (some ⟨bp,0,none⟩),.int .i64 (h:Int),.agg (encW x).toArray] w' fun e w''=>∃q,e=.returned (.int .i64 q)∧GwPost wa bp g cs d h [x] ps (.returned (.int .i64 q)) w''):=fun w' hb=>by
    have wrap:∀ {q:Int} {ps':List Pn},Grw cs d h [x] ps q ps'→∀e w'',BlnPost wa bp (.pointer (some ⟨g,0,none⟩)) q ps' e w''→∃q,e=.returned (.int .i64 q)∧GwPost wa bp g cs d h [x] ps (.returned (.int .i64 q)) w'':=fun {q ps'} hg e w'' p=>⟨q,p.1,gw_of_pl hg ⟨rfl,p.2⟩⟩
    cases hgn:x.g with
    | true=>exact (pleaf_gone (P.grow hb) (h:Int) x ok hgn).mono (wrap (.gone hpl hgn))
    | false=>
      by_cases hs:h≠0∧(sdC cs h).bs=x.b
      · exact (pleaf_same (P.grow hb) V h hs.1 x ok hgn hrd hs.2).mono (wrap (.same hpl hgn hs.1 hs.2))
      · exact (pleaf_new (P.grow hb) V h x ok hgn hrd hs h6).mono (wrap (.leaf hpl hgn hs))
  obtain ⟨gl,off,c,rfl,hr⟩:=hv.fst;have HRG:Hid (∀w',Kb w w'→w'.rangeAt gl off (encW x)):=fun w' hb=>rngW_grow hr hb
  have HRK:Hid (∀w',Kb w w'→w'.rangeAt gl off (x.k.map (Value.int .u8))):=fun w' hb=>by
    have:=encW_key (rngW_grow hr hb);rwa [B_toList] at this
  have HSK:Hid ((Tryz.prog.info? 63).map (·.size)=some (x.k.map (Value.int .u8)).length):=by show _=_;rw [List.length_map,ok.hk.1];exact size_path
  have HSZ:Hid ((Tryz.prog.info? 198).map (·.size)=some (encW x).length):=by show _=_;rw [ok.len];exact size_write
  have HEK:Hid ((x.k.map (Value.int .u8)).toArray=B x.k):=rfl;obtain ⟨fs,hfs⟩:=u_write;have HFS:=hidden hfs;generalize GwPost wa bp g cs d h [x] ps=PP at HLF ⊢;have HKX:Hid (∃K E X,K=B x.k∧E=x.k.map (Value.int .u8)∧X=encW x):=⟨_,_,_,rfl,rfl,rfl⟩;obtain ⟨K,E,X,hK,hE,hX⟩:=HKX.out;rw [← hK] at HPL HEK;rw [← hE] at HRK HSK HEK;rw [← hX] at HLF HRG HSZ;generalize (h:Int)=y at HPL HLF ⊢;generalize (d:Int)=dd;have hEK:=HEK.out;subst hEK;clear P V hv hrd hpl h6 ok hr hfs hK hE hX HKX HEK;go_enter Tryz.func196,Tryz.ntmps196
  go_wp2_with (first
    |((with_reducible refine at_ldd 30 29 ?_);refine wpList_ldw _ rfl _ _ rfl gl off rfl E _ (HRK.out _ (Below.refl _ _)) Tryz.underlying63 rfl HSK.out ?_)
    |(go_at_call 244;refine (HPL.out _ (Below.refl _ _)).mono ?_;rintro e w1 ⟨rfl,q1⟩;have HQ1:=hidden q1;clear q1)
    |((with_reducible refine at_ldd 37 36 ?_);refine wpList_ldw _ rfl _ _ rfl gl off rfl X _ (HRG.out _ HQ1.out) HFS.out rfl HSZ.out ?_)
    |(go_at_call 245;refine (HLF.out _ HQ1.out).mono ?_;rintro e w2 ⟨q,rfl,hA⟩;have HA:=hidden hA;clear hA))
  exact HA.out

theorem nat_wrap (d:Nat) (h:d<256):wrap64 ((d:Int)+1)=((d+1:Nat):Int):=by rw [Go.IntWalk.wrap64_in _ (by omega)];rfl

theorem grow_more {ps:List Pn} (P:PlM wa w bp (.pointer (some ⟨g,0,none⟩)) ps lv) (V:Kq [bp] wa fun w'=>Vw w' (.pointer (some ⟨g,0,none⟩)) true (cot cs) (cat cs)) (h d:Nat) (v:Value) (l:List Wt) (hv:Kq [bp] wa fun w'=>WrAt w' v l) (hne:l≠[]) (hnp:∀x,l=[x]→ ¬Plc cs h x.k) (hd:d<256) (hr:Ris l) (hs:Com d (l.map (·.k))) (hn:l.length≤65536)
    (HL0:∀w' v0 lv',(Kq [bp] wa fun w'=>WrAt w' v0 (wsd l d 0))→PlM wa w' bp (.pointer (some ⟨g,0,none⟩)) ps lv'→Kc 196 #[.pointer (some ⟨bp,0,none⟩),.int .i64 (frkL cs h d:Int),.int .i64 ((d+1:Nat):Int),v0] w' (GwPost wa bp g cs (d+1) (frkL cs h d) (wsd l d 0) ps))
    (HR0:∀w' v1 p1 lv1 a,Grw cs (d+1) (frkL cs h d) (wsd l d 0) ps a p1→(Kq [bp] wa fun w'=>WrAt w' v1 (wsd l d 1))→PlM wa w' bp (.pointer (some ⟨g,0,none⟩)) p1 lv1→Kc 196 #[.pointer (some ⟨bp,0,none⟩),.int .i64 (frkR cs h d:Int),.int .i64 ((d+1:Nat):Int),v1] w' (GwPost wa bp g cs (d+1) (frkR cs h d) (wsd l d 1) p1))
    (HI:∀a p1 b p2,Grw cs (d+1) (frkL cs h d) (wsd l d 0) ps a p1→Grw cs (d+1) (frkR cs h d) (wsd l d 1) p1 b p2→InP p2 a∧InP p2 b∧p2.length+1≤65536):
    Kc 196 #[.pointer (some ⟨bp,0,none⟩),.int .i64 (h:Int),.int .i64 (d:Int),v] w (GwPost wa bp g cs d h l ps):=by
  have HP:=hidden P;have hvw:=hv _ P.mod;have HPF:Hid (Kr w 246 #[.pointer (some ⟨bp,0,none⟩),.int .i64 (h:Int),.int .i64 (d:Int)] (.tuple #[.int .i64 (frkL cs h d:Int),.int .i64 (frkR cs h d:Int)])):=fun w' hb=>pfork_any (P.grow hb) V h d hd
  have HSP:Hid (∀w',Kb w w'→Kc 247 #[v,.int .i64 (d:Int)] w' fun e w''=>∃v0 v1,e=.returned (.tuple #[v0,v1])∧(Kq [bp] wa fun w'=>WrAt w' v0 (wsd l d 0))∧(Kq [bp] wa fun w'=>WrAt w' v1 (wsd l d 1))∧Below w'.heap.size w' w''):=fun w' hb=>split_any (Mod [bp] wa) d (hvw.grow hb) hv hne hd hn hr hs
  have HLC:=hidden HL0;have HRC:=hidden HR0;have HIC:=hidden HI;have HJN:Hid (∀w' p2 lv2 a b,PlM wa w' bp (.pointer (some ⟨g,0,none⟩)) p2 lv2→InP p2 a∧InP p2 b∧p2.length+1≤65536→Kc 248 #[.pointer (some ⟨bp,0,none⟩),.int .i64 (d:Int),.int .i64 a,.int .i64 b] w' fun e w''=>e=.returned (.int .i64 (jnQ cs p2 a b))∧∃lv',PlM wa w'' bp (.pointer (some ⟨g,0,none⟩)) (jnP cs p2 d a b) lv'):=fun w' p2 lv2 a b hp ⟨i1,i2,i3⟩=>pjoin_any hp V d a b i1 i2 i3
  have hwd:=nat_wrap d hd;have hn0: ¬(l.length:Int)=0:=by
    have:=List.length_pos_iff.2 hne;omega
  have hn01:((l.length:Int) == 0)=false:=by simpa using hne
  obtain ⟨PP,hPP⟩:∃PP,PP=GwPost wa bp g cs d h l ps:=⟨_,rfl⟩;have HSame:Hid (∀w' p1 p2 lv2 a b,Grw cs (d+1) (frkL cs h d) (wsd l d 0) ps a p1→Grw cs (d+1) (frkR cs h d) (wsd l d 1) p1 b p2→a=(frkL cs h d:Nat)→b=(frkR cs h d:Nat)→PlM wa w' bp (.pointer (some ⟨g,0,none⟩)) p2 lv2→PP (.returned (.int .i64 (h:Int))) w'):=fun w' p1 p2 lv2 a b g1 g2 e1 e2 hp=>by subst e1 e2;rw [hPP];exact ⟨_,_,_,rfl,.stay hne hnp g1 g2,hp⟩
  have HJoin:Hid (∀w' p1 p2 a b lv',Grw cs (d+1) (frkL cs h d) (wsd l d 0) ps a p1→Grw cs (d+1) (frkR cs h d) (wsd l d 1) p1 b p2→ ¬(a=(frkL cs h d:Nat)∧b=(frkR cs h d:Nat))→PlM wa w' bp (.pointer (some ⟨g,0,none⟩)) (jnP cs p2 d a b) lv'→PP (.returned (.int .i64 (jnQ cs p2 a b))) w'):=fun w' p1 p2 a b lv' g1 g2 hne' hp=>by rw [hPP];exact ⟨_,_,_,rfl,.join hne hnp g1 g2 hne',hp⟩
  rw [← hPP];clear HI HL0 HR0 hPP
  by_cases h1:l.length=1
  · obtain ⟨x,rfl⟩:∃x,l=[x]:=by
      match l,h1 with
      | [x],_=>exact ⟨x,rfl⟩
    have ok:WtOk x:=hvw.ok x (by simp);have HPL:Hid (Kr w 244 #[.pointer (some ⟨bp,0,none⟩),.int .i64 (h:Int),.agg (B x.k)] (.bool false)):=fun w' hb=>place_any (P.grow hb) V h x.k ok.hk false (by simp [hnp x rfl])
    obtain ⟨gl,off,c,rfl,hrr⟩:=hvw.fst;have HRK:Hid (w.rangeAt gl off (x.k.map (Value.int .u8))):=by
      have:=encW_key hrr;rwa [B_toList] at this
    have HSK:Hid ((Tryz.prog.info? 63).map (·.size)=some (x.k.map (Value.int .u8)).length):=by show _=_;rw [List.length_map,ok.hk.1];exact size_path
    have HEK:Hid ((x.k.map (Value.int .u8)).toArray=B x.k):=rfl;have HKX:Hid (∃K E,K=B x.k∧E=x.k.map (Value.int .u8)):=⟨_,_,rfl,rfl⟩;obtain ⟨K,E,hK,hE⟩:=HKX.out;rw [← hK] at HPL HEK;rw [← hE] at HRK HSK HEK;have hEK:=HEK.out;subst hEK;clear P V hv hvw hne hnp hd hr hs hn hrr ok hK hE HKX HEK h1 hn0 hn01;generalize frkL cs h d=fl at *;generalize frkR cs h d=fr at *;generalize hfl:(fl:Int)=fi at *;generalize hfr:(fr:Int)=fj at *;generalize hh:(h:Int)=hi at *;generalize hdd:(d:Int)=di at *;clear hfl hfr hh hdd;go_enter Tryz.func196,Tryz.ntmps196
    go_upto_region 8 with (first
      |((with_reducible refine at_ldd 30 29 ?_);refine wpList_ldw _ rfl _ _ rfl gl off rfl E _ HRK.out Tryz.underlying63 rfl HSK.out ?_)
      |(go_at_call 244;refine (HPL.out _ (Below.refl _ _)).mono ?_;rintro e w0 ⟨rfl,q0⟩;have HQ0:=hidden q0;clear q0 HPL)
      |(go_at_call 246;refine (HPF.out _ HQ0.out).mono ?_;rintro e w1 ⟨rfl,q1⟩;have HQ1:=hidden (grow_trans HQ0.out q1);clear q1 HPF)
      |(go_at_call 247;refine (HSP.out _ HQ1.out).mono ?_;rintro e w2 ⟨v0,v1,rfl,r0,r1,q2⟩;have HP2:=hidden (HP.out.grow (grow_trans HQ1.out q2));have HR0:=hidden r0;have HR1:=hidden r1;clear q2 r0 r1 HSP HQ1 HP)
      |(go_at_call 196;have mk:=mk1;clear mk;refine (HRC.out _ _ _ _ _ HG1.out HR1.out HP3.out).mono ?_;rintro e w4 ⟨b,p2,lv2,rfl,g2,hp2⟩;have HG2:=hidden g2;have HP4:=hidden hp2;clear g2 hp2 HRC HR1 HP3)
      |(go_at_call 196;refine (HLC.out _ _ _ HR0.out HP2.out).mono ?_;rintro e w3 ⟨a,p1,lv1,rfl,g1,hp1⟩;have mk1:Hid True:=trivial;have HG1:=hidden g1;have HP3:=hidden hp1;clear g1 hp1 HLC HR0 HP2))
    by_cases e1:a=fi
    · by_cases e2:b=fj
      · have HS:=hidden (HSame.out _ _ _ _ _ _ HG1.out HG2.out e1 e2 HP4.out)
        subst e1 e2;clear HSame HJoin HJN HIC HG1 HG2 HP4 mk1
        go_wp2_with fail
        exact HS.out
      · have e3:(b == fj)=false:=by simpa using e2
        have HJ:=hidden (HJN.out _ _ _ _ _ HP4.out (HIC.out _ _ _ _ HG1.out HG2.out));have HF:Hid (∀w' lv',PlM wa w' bp (.pointer (some ⟨g,0,none⟩)) (jnP cs p2 d a b) lv'→PP (.returned (.int .i64 (jnQ cs p2 a b))) w'):=fun w' lv' hp=>HJoin.out _ _ _ _ _ _ HG1.out HG2.out (fun q=>e2 q.2) hp
        generalize jnQ cs p2 a b=jq at HJ HF;generalize jnP cs p2 d a b=jp at HJ HF;clear HSame HJoin HJN HIC HG1 HG2 HP4 mk1;subst e1
        go_wp2_with (go_at_call 248;refine HJ.out.mono ?_;rintro e w5 ⟨rfl,lv',hp⟩;have HZ:=hidden (HF.out _ _ hp);clear hp)
        exact HZ.out
    · have e3:(a == fi)=false:=by simpa using e1
      have HJ:=hidden (HJN.out _ _ _ _ _ HP4.out (HIC.out _ _ _ _ HG1.out HG2.out));have HF:Hid (∀w' lv',PlM wa w' bp (.pointer (some ⟨g,0,none⟩)) (jnP cs p2 d a b) lv'→PP (.returned (.int .i64 (jnQ cs p2 a b))) w'):=fun w' lv' hp=>HJoin.out _ _ _ _ _ _ HG1.out HG2.out (fun q=>e1 q.1) hp
      generalize jnQ cs p2 a b=jq at HJ HF;generalize jnP cs p2 d a b=jp at HJ HF;clear HSame HJoin HJN HIC HG1 HG2 HP4 mk1
      go_wp2_with (go_at_call 248;refine HJ.out.mono ?_;rintro e w5 ⟨rfl,lv',hp⟩;have HZ:=hidden (HF.out _ _ hp);clear hp)
      exact HZ.out

  · have hl1: ¬(l.length:Int)=1:=by omega
    have hl11:((l.length:Int) == 1)=false:=beq_eq_false_iff_ne.2 hl1;obtain ⟨va,vc,rfl⟩:∃va vc,v=.slice va l.length vc:=by
      obtain ⟨a,c,e,_⟩:=hvw;exact ⟨a,c,e⟩
    clear P V hv hvw hne hnp hd hr hs hn h1;generalize l.length=nn at *;generalize frkL cs h d=fl at *;generalize frkR cs h d=fr at *;generalize hfl:(fl:Int)=fi at *;generalize hfr:(fr:Int)=fj at *;generalize hh:(h:Int)=hi at *;generalize hdd:(d:Int)=di at *;clear hfl hfr hh hdd;go_enter Tryz.func196,Tryz.ntmps196
    go_upto_region 8 with (first
      |(go_at_call 246;refine (HPF.out _ (Below.refl _ _)).mono ?_;rintro e w1 ⟨rfl,q1⟩;have HQ1:=hidden (grow_trans (Below.refl _ _) q1);clear q1 HPF)
      |(go_at_call 247;refine (HSP.out _ HQ1.out).mono ?_;rintro e w2 ⟨v0,v1,rfl,r0,r1,q2⟩;have HP2:=hidden (HP.out.grow (grow_trans HQ1.out q2));have HR0:=hidden r0;have HR1:=hidden r1;clear q2 r0 r1 HSP HQ1 HP)
      |(go_at_call 196;have mk:=mk1;clear mk;refine (HRC.out _ _ _ _ _ HG1.out HR1.out HP3.out).mono ?_;rintro e w4 ⟨b,p2,lv2,rfl,g2,hp2⟩;have HG2:=hidden g2;have HP4:=hidden hp2;clear g2 hp2 HRC HR1 HP3)
      |(go_at_call 196;refine (HLC.out _ _ _ HR0.out HP2.out).mono ?_;rintro e w3 ⟨a,p1,lv1,rfl,g1,hp1⟩;have mk1:Hid True:=trivial;have HG1:=hidden g1;have HP3:=hidden hp1;clear g1 hp1 HLC HR0 HP2))
    by_cases e1:a=fi
    · by_cases e2:b=fj
      · have HS:=hidden (HSame.out _ _ _ _ _ _ HG1.out HG2.out e1 e2 HP4.out)
        subst e1 e2;clear HSame HJoin HJN HIC HG1 HG2 HP4 mk1
        go_wp2_with fail
        exact HS.out
      · have e3:(b == fj)=false:=by simpa using e2
        have HJ:=hidden (HJN.out _ _ _ _ _ HP4.out (HIC.out _ _ _ _ HG1.out HG2.out));have HF:Hid (∀w' lv',PlM wa w' bp (.pointer (some ⟨g,0,none⟩)) (jnP cs p2 d a b) lv'→PP (.returned (.int .i64 (jnQ cs p2 a b))) w'):=fun w' lv' hp=>HJoin.out _ _ _ _ _ _ HG1.out HG2.out (fun q=>e2 q.2) hp
        generalize jnQ cs p2 a b=jq at HJ HF;generalize jnP cs p2 d a b=jp at HJ HF;clear HSame HJoin HJN HIC HG1 HG2 HP4 mk1;subst e1
        go_wp2_with (go_at_call 248;refine HJ.out.mono ?_;rintro e w5 ⟨rfl,lv',hp⟩;have HZ:=hidden (HF.out _ _ hp);clear hp)
        exact HZ.out
    · have e3:(a == fi)=false:=by simpa using e1
      have HJ:=hidden (HJN.out _ _ _ _ _ HP4.out (HIC.out _ _ _ _ HG1.out HG2.out));have HF:Hid (∀w' lv',PlM wa w' bp (.pointer (some ⟨g,0,none⟩)) (jnP cs p2 d a b) lv'→PP (.returned (.int .i64 (jnQ cs p2 a b))) w'):=fun w' lv' hp=>HJoin.out _ _ _ _ _ _ HG1.out HG2.out (fun q=>e1 q.1) hp
      generalize jnQ cs p2 a b=jq at HJ HF;generalize jnP cs p2 d a b=jp at HJ HF;clear HSame HJoin HJN HIC HG1 HG2 HP4 mk1
      go_wp2_with (go_at_call 248;refine HJ.out.mono ?_;rintro e w5 ⟨rfl,lv',hp⟩;have HZ:=hidden (HF.out _ _ hp);clear hp)
      exact HZ.out

theorem Grw.lenLe (W:Wf cs []) {d h:Nat} {l:List Wt} {ps ps':List Pn} {q:Int} (g:Grw cs d h l ps q ps') {T:Tre} (p:GPre cs d h T l):ps.length≤ps'.length∧ps'.length≤ps.length+(257-d) * l.length∧InP ps' q:=by
  obtain ⟨G,k⟩:=grw_ok W g T p;obtain ⟨ns,e⟩:=k.app;refine ⟨by rw [e];simp,k.cnt,?_⟩;have:=k.isG.part;unfold InP;omega

theorem grow_any {cs:Lz} (W:Wf cs []) {wa:World} {bp g:Nat} (V:Kq [bp] wa fun w'=>Vw w' (.pointer (some ⟨g,0,none⟩)) true (cot cs) (cat cs)):∀(n d:Nat),d+n=256→∀(w:World) (lv:Value) (ps:List Pn) (h:Nat) (T:Tre) (l:List Wt) (v:Value),PlM wa w bp (.pointer (some ⟨g,0,none⟩)) ps lv→GPre cs d h T l→(Kq [bp] wa fun w'=>WrAt w' v l)→ps.length+(257-d) * l.length≤65000→l.length≤65536→
    Kc 196 #[.pointer (some ⟨bp,0,none⟩),.int .i64 (h:Int),.int .i64 (d:Int),v] w (GwPost wa bp g cs d h l ps)
  | n,d,hdn,w,lv,ps,h,T,l,v,P,p,hv,h6,hn=>by
    by_cases h0:l=[]
    · subst h0
      exact grow_none P h d v (hv _ P.mod)
    · by_cases hp:∃x,l=[x]∧Plc cs h x.k
      · obtain ⟨x,rfl,hpl⟩:=hp
        refine grow_place P V h d v x (hv _ P.mod) (fun w' m=>(hv w' m).reads x (by simp)) hpl ?_;have:=p.d;simp only [List.length_singleton,Nat.mul_one] at h6;omega
      · have hnp:∀x,l=[x]→ ¬Plc cs h x.k:=fun x e q=>hp ⟨x,e,q⟩
        obtain ⟨TL,TR,S⟩:=gsd_of W p h0 hnp;have hd:=S.lt;obtain ⟨m,rfl⟩:∃m,n=m+1:=⟨n-1,by omega⟩;have hl:=wsd_len l d;have hl0:1≤l.length:=List.length_pos_iff.2 h0;have hm:(257-d) * l.length=(257-(d+1)) * (wsd l d 0).length+(257-(d+1)) * (wsd l d 1).length+l.length:=by
          rw [← Nat.mul_add,hl,show 257-d=257-(d+1)+1 by omega,Nat.succ_mul]
        refine grow_more P V h d v l hv h0 hnp hd p.ris (p.com.sub fun a ha=>List.mem_append_right _ ha) hn (fun w' v0 lv' hv0 hp'=>?_) (fun w' v1 p1 lv1 a g1 hv1 hp1=>?_) (fun a p1 b p2 g1 g2=>?_)
        · exact grow_any W V m (d+1) (by omega) w' lv' ps _ TL _ v0 hp' S.pl hv0 (by omega) (by omega)
        · obtain ⟨_,c1,_⟩:=g1.lenLe W S.pl
          exact grow_any W V m (d+1) (by omega) w' lv1 p1 _ TR _ v1 hp1 S.pr hv1 (by omega) (by omega)
        · obtain ⟨_,c1,i1⟩:=g1.lenLe W S.pl
          obtain ⟨c2,c3,i2⟩:=g2.lenLe W S.pr;unfold InP at *;exact ⟨by omega,i2,by omega⟩

end Go.Proofs.YtdjpigfibafokaaGreatDoor
