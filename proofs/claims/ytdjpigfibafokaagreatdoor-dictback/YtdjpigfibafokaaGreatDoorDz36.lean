/- dict.Handle: the root under a name. -/
import Derived.Test.YtdjpigfibafokaaGreatDoorDz01
import Derived.Test.YtdjpigfibafokaaGreatDoorDz35
import Derived.Test.YtdjpigfibafokaaGreatDoorDz25
import Derived.Test.YtdjpigfibafokaaGreatDoorDz22
import Derived.Test.YtdjpigfibafokaaGreatDoorDz20
namespace Go.Proofs.YtdjpigfibafokaaGreatDoor
set_option maxHeartbeats 2000000
set_option maxRecDepth 20000
open Go.RowKit

section
variable {w1 w:World} {X:List Nat} {d gv hd b g gs R:Nat} {ms:Nms} {cs:Lz} {fr:List Nat} {s:ByteArray}

theorem tree_first (hk:Dk w d gv hd) (h:Hv w1 w X gv b g gs R ms cs fr) (hs:s.size≤maxLen) (kv lv:Value) (w':World) (hb:Kb w w') (r q c:Nat) (hr:Rq w' r d s kv lv)
    (c0:w'.cell? ⟨q,0,none⟩=some (.func (.func 83) #[.pointer (some ⟨r,0,none⟩)] #[])) (c1:w'.cell? ⟨q,1,none⟩=some (.func (.func 122) #[.pointer (some ⟨r,0,none⟩)] #[])):
    Kc 82 #[.slice (some ⟨q,0,none⟩) 2 c] w' fun e w''=>e=.returned (.int .i64 (trE ms s))∧Below w'.heap.size w' w'':=by
  have hf:fst15 [(83,0),(122,trE ms s)]=trE ms s:=by
    unfold fst15 fst15 fst15;rw [if_pos rfl];split
    · rename_i q;exact q.symm
    · rfl
  have:=first_p (w:=w') q 2 c r [(83,0),(122,trE ms s)] rfl (by omega) (fun i hi=>by
      rcases (show i=0∨i=1 by omega) with rfl | rfl
      · exact List.mem_cons_self
      · exact List.mem_cons_of_mem _ (List.mem_cons_of_mem _ List.mem_cons_self)) (fun i hi=>by
      rcases (show i=0∨i=1 by omega) with rfl | rfl
      · exact c0
      · exact c1) (fun i hi _ z hz=>by
      rcases (show i=0∨i=1 by omega) with rfl | rfl
      · exact (notMade_ok (hk.grow (grow_trans hb hz)) (hr.grow hz)).mono fun e w'' ⟨q1,q2⟩=>⟨q1,q2 ▸ Below.refl _ _⟩
      · exact noTree_any (hk.grow (grow_trans hb hz)) (hr.grow hz) (h.grow (grow_trans hb hz)) hs)
  rwa [hf] at this

theorem handle_any (hk:Dk w d gv hd) (h:Hv w1 w X gv b g gs R ms cs fr) (hs:s.size≤maxLen):Kc 67 #[.pointer (some ⟨d,0,none⟩),.string s] w fun e w'=>e=.returned (.tuple #[.int .i64 (if trE ms s=0 then (trV ms hd s:Int) else 0),.int .i64 (trE ms s)])∧Kb w w':=by
  have HBU:Hid (Tryz.prog.built 157 [(0,.pointer (some ⟨d,0,none⟩)),(1,.string s)]=some #[.pointer (some ⟨d,0,none⟩),.string s,.slice none 0 0,.slice none 0 0]):=by rfl
  have HF:=hidden (fun w' hb r q c hr c0 c1=>tree_first hk h hs (.slice none 0 0) (.slice none 0 0) w' hb r q c hr c0 c1);have HO:Hid (Kr w 123 #[.agg #[.pointer (some ⟨gv,0,none⟩),.int .i64 (hd:Int)],.string s] (.tuple #[.int .i64 (trV ms hd s:Int),.int .i64 (trE ms s)])):=fun w' hb=>of_any15 (hd:=hd) (h.grow hb) hs
  have HDK:Hid (∀w',Kb w w'→Dk w' d gv hd):=fun w' hb=>hk.grow hb
  clear h hs hk
  by_cases he:trE ms s=0
  · rw [if_pos he]
    rw [he] at HF HO ⊢;clear he;go_enter Tryz.func67,Tryz.ntmps67
    go_wp2_with (first
      |((with_reducible refine at_bdd 10 ?_);refine wpList_bld _ rfl _ _ rfl _ (by rw [List.map_toArray];exact HBU.out) ?_)
      |((with_reducible refine at_ald 6 ?_);refine wpList_al _ rfl _ rfl _ zero_rq ?_;intro w1 r hg1 hl1 B1 q1;have HG1:=hidden hg1;have HQ1:=hidden q1;clear hg1 hl1 q1)
      |((with_reducible refine at_st 6 ?_);refine wpList_sto _ rfl _ _ _ rfl r _ #[.pointer (some ⟨d,0,none⟩),.string s,.slice none 0 0,.slice none 0 0] rfl rfl B1 size_rq rfl (by simp [Value.oneCell']) ?_;intro w2 B2 r2;have HB2:=hidden B2;have HQ2:=hidden (below_row HQ1.out r2 HG1.out);clear B1 B2 r2)
      |(go_at_call 82;refine (HF.out _ (grow_trans HQ2.out (grow_alloc _ _)) r _ _ (HB2.out.grow (grow_alloc _ _)) (by rw [Blk.cell (Blk.new _ _ _)];rfl) (by rw [Blk.cell (Blk.new _ _ _)];rfl)).mono ?_;rintro e w3 ⟨rfl,hx⟩;have HQ3:=hidden (grow_trans (grow_trans HQ2.out (grow_alloc _ _)) hx);clear hx)
      |((with_reducible refine at_ldd 21 20 ?_);refine wpList_ldw _ rfl _ _ rfl d 1 rfl [.pointer (some ⟨gv,0,none⟩),.int .i64 (hd:Int)] _ (HDK.out _ HQ3.out).row Tryz.underlying104 rfl size_tr ?_)
      |(go_at_call 123;refine (HO.out _ HQ3.out).mono ?_;rintro e w4 ⟨rfl,hx⟩;have HQ4:=hidden (grow_trans HQ3.out hx);clear hx))
    go_ret2;exact ⟨rfl,HQ4.out⟩
  · rw [if_neg he]
    go_enter Tryz.func67,Tryz.ntmps67
    go_wp2_with (first
      |((with_reducible refine at_bdd 10 ?_);refine wpList_bld _ rfl _ _ rfl _ (by rw [List.map_toArray];exact HBU.out) ?_)
      |((with_reducible refine at_ald 6 ?_);refine wpList_al _ rfl _ rfl _ zero_rq ?_;intro w1 r hg1 hl1 B1 q1;have HG1:=hidden hg1;have HQ1:=hidden q1;clear hg1 hl1 q1)
      |((with_reducible refine at_st 6 ?_);refine wpList_sto _ rfl _ _ _ rfl r _ #[.pointer (some ⟨d,0,none⟩),.string s,.slice none 0 0,.slice none 0 0] rfl rfl B1 size_rq rfl (by simp [Value.oneCell']) ?_;intro w2 B2 r2;have HB2:=hidden B2;have HQ2:=hidden (below_row HQ1.out r2 HG1.out);clear B1 B2 r2)
      |(go_at_call 82;refine (HF.out _ (grow_trans HQ2.out (grow_alloc _ _)) r _ _ (HB2.out.grow (grow_alloc _ _)) (by rw [Blk.cell (Blk.new _ _ _)];rfl) (by rw [Blk.cell (Blk.new _ _ _)];rfl)).mono ?_;rintro e w3 ⟨rfl,hx⟩;have HQ3:=hidden (grow_trans (grow_trans HQ2.out (grow_alloc _ _)) hx);clear hx))
    go_ret2;exact ⟨rfl,HQ3.out⟩
end

end Go.Proofs.YtdjpigfibafokaaGreatDoor

namespace Go.Proofs.YtdjpigfibafokaaGreatDoor
set_option maxHeartbeats 2000000
set_option maxRecDepth 20000
open Go.RowKit

def rfE (o R:Nat) (l:List Rw):Int:=if bkE l=0 then (if tlE l=0 then rmE o R l else 4) else 3

theorem bkE_zero {l:List Rw} (h:bkE l=0):∀x∈l,x.k.length=32:=by
  unfold bkE at h;split at h
  · rename_i q
    rw [List.all_eq_true] at q;intro x hx;simpa using q x hx
  · omega
theorem tlE_zero {l:List Rw} (h:tlE l=0):l.length≤64∧∀x∈l,tooR x=false:=by
  unfold tlE at h;split at h
  · omega
  · split at h
    · omega
    · rename_i q1 q2
      refine ⟨by omega,fun x hx=>?_⟩;cases e:tooR x with
      | false=>rfl
      | true=>exact absurd (List.any_eq_true.2 ⟨x,hx,e⟩) q2
theorem bkE_in (l:List Rw):bkE l=0∨bkE l=3:=by
  unfold bkE;split <;> simp
theorem tlE_in (l:List Rw):tlE l=0∨tlE l=4:=by
  unfold tlE;split
  · simp
  · split <;> simp

section
variable {w1 w:World} {X:List Nat} {d gv hd b g gs R:Nat} {ms:Nms} {cs:Lz} {fr:List Nat} {l:List Rw}

theorem write_first (hk:Dk w d gv hd) (h:Hv w1 w X gv b g gs R ms cs fr) {lv:Value} (hl:RwAt w lv l) (hbd:l.length≤140737488355328) (s:ByteArray) (kv:Value) (w':World) (hb:Kb w w') (r q c:Nat) (hr:Rq w' r d s kv lv)
    (c0:w'.cell? ⟨q,0,none⟩=some (.func (.func 83) #[.pointer (some ⟨r,0,none⟩)] #[])) (c1:w'.cell? ⟨q,1,none⟩=some (.func (.func 152) #[.pointer (some ⟨r,0,none⟩)] #[])) (c2:w'.cell? ⟨q,2,none⟩=some (.func (.func 153) #[.pointer (some ⟨r,0,none⟩)] #[])) (c3:w'.cell? ⟨q,3,none⟩=some (.func (.func 154) #[.pointer (some ⟨r,0,none⟩)] #[])):
    Kc 82 #[.slice (some ⟨q,0,none⟩) 4 c] w' fun e w''=>e=.returned (.int .i64 (rfE (noc cs) R l))∧Below w'.heap.size w' w'':=by
  have hf:fst15 [(83,0),(152,bkE l),(153,tlE l),(154,rmE (noc cs) R l)]=rfE (noc cs) R l:=by
    unfold rfE;rcases bkE_in l with e1 | e1 <;> rcases tlE_in l with e2 | e2 <;> rw [e1,e2] <;> simp [fst15]
    intro q;exact q.symm
  have:=first_w (w:=w') q 4 c r [(83,0),(152,bkE l),(153,tlE l),(154,rmE (noc cs) R l)] rfl (by omega) (fun i hi=>by
      rcases (show i=0∨i=1∨i=2∨i=3 by omega) with rfl | rfl | rfl | rfl
      · exact List.mem_cons_self
      · exact List.mem_cons_of_mem _ List.mem_cons_self
      · exact List.mem_cons_of_mem _ (List.mem_cons_of_mem _ List.mem_cons_self)
      · exact List.mem_cons_of_mem _ (List.mem_cons_of_mem _ (List.mem_cons_of_mem _ List.mem_cons_self))) (fun i hi=>by
      rcases (show i=0∨i=1∨i=2∨i=3 by omega) with rfl | rfl | rfl | rfl
      · exact c0
      · exact c1
      · exact c2
      · exact c3) (fun i hi hz z hz'=>by
      rcases (show i=0∨i=1∨i=2∨i=3 by omega) with rfl | rfl | rfl | rfl
      · exact (notMade_ok (hk.grow (grow_trans hb hz')) (hr.grow hz')).mono fun e w'' ⟨q1,q2⟩=>⟨q1,q2 ▸ Below.refl _ _⟩
      · exact badKeys_any (hr.grow hz') (hl.grow (grow_trans hb hz')) hbd
      · exact tooLong_any (hr.grow hz') (hl.grow (grow_trans hb hz')) hbd
      · have e1:bkE l=0:=hz 1 (by omega)
        have e2:tlE l=0:=hz 2 (by omega);exact noRoom_any (hk.grow (grow_trans hb hz')) (h.grow (grow_trans hb hz')) (hr.grow hz') (hl.grow (grow_trans hb hz')) (by have:=(tlE_zero e2).1;omega) (bkE_zero e1))
  rwa [hf] at this

theorem refused_dict (hk:Dk w d gv hd) (h:Hv w1 w X gv b g gs R ms cs fr) {lv:Value} (hl:RwAt w lv l) (hbd:l.length≤140737488355328):Kc 87 #[.pointer (some ⟨d,0,none⟩),lv] w fun e w'=>e=.returned (.int .i64 (rfE (noc cs) R l))∧Kb w w':=by
  obtain ⟨la,lc,hlv⟩:∃a c,lv=.slice a l.length c:=by obtain ⟨a,c,e,_⟩:=hl;exact ⟨a,c,e⟩
  have HF:=hidden (fun w' hb r q c hr c0 c1 c2 c3=>write_first hk h hl hbd ⟨#[]⟩ (.slice none 0 0) w' hb r q c hr c0 c1 c2 c3);clear h hk hl;generalize rfE (noc cs) R l=E at *;subst hlv;generalize l.length=n at *;have HBU:Hid (Tryz.prog.built 157 [(0,.pointer (some ⟨d,0,none⟩)),(3,.slice la n lc)]=some #[.pointer (some ⟨d,0,none⟩),.string ⟨#[]⟩,.slice none 0 0,.slice la n lc]):=by show _=_;rfl
  go_enter Tryz.func87,Tryz.ntmps87
  go_wp2_with (first
    |((with_reducible refine at_bdd 8 ?_);refine wpList_bld _ rfl _ _ rfl _ (by rw [List.map_toArray];exact HBU.out) ?_)
    |((with_reducible refine at_ald 5 ?_);refine wpList_al _ rfl _ rfl _ zero_rq ?_;intro w1 r hg1 hl1 B1 q1;have HG1:=hidden hg1;have HQ1:=hidden q1;clear hg1 hl1 q1)
    |((with_reducible refine at_st 5 ?_);refine wpList_sto _ rfl _ _ _ rfl r _ #[.pointer (some ⟨d,0,none⟩),.string ⟨#[]⟩,.slice none 0 0,.slice la n lc] rfl rfl B1 size_rq rfl (by simp [Value.oneCell']) ?_;intro w2 B2 r2;have HB2:=hidden B2;have HQ2:=hidden (below_row HQ1.out r2 HG1.out);clear B1 B2 r2)
    |(go_at_call 82;refine (HF.out _ (grow_trans HQ2.out (grow_alloc _ _)) r _ _ (HB2.out.grow (grow_alloc _ _)) (by rw [Blk.cell (Blk.new _ _ _)];rfl) (by rw [Blk.cell (Blk.new _ _ _)];rfl) (by rw [Blk.cell (Blk.new _ _ _)];rfl) (by rw [Blk.cell (Blk.new _ _ _)];rfl)).mono ?_;rintro e w3 ⟨rfl,hx⟩;have HQ3:=hidden (grow_trans (grow_trans HQ2.out (grow_alloc _ _)) hx);clear hx))
  go_ret;exact ⟨rfl,HQ3.out⟩
end

end Go.Proofs.YtdjpigfibafokaaGreatDoor

namespace Go.Proofs.YtdjpigfibafokaaGreatDoor
set_option maxHeartbeats 2000000
set_option maxRecDepth 20000
open Go.RowKit

section
variable {w1 w:World} {X:List Nat} {gv b g gs R:Nat} {ms:Nms} {cs:Lz} {fr:List Nat}

theorem vnew_ok (h:Hz w1 w X g gs R cs fr):Kc 48 #[.pointer (some ⟨g,0,none⟩)] w fun e w'=>∃gv b,e=.returned (.tuple #[.pointer (some ⟨gv,0,none⟩),.int .i64 0])∧Hv w1 w' (gv::b::X) gv b g gs R [] cs fr∧Kb w w':=by
  have HR:=hidden (root_any h.vw 0);have hz:vRt true (cot cs 0) (cat cs 0) 0=0:=rfl;rw [hz] at HR;have HH:=hidden h;clear h hz;go_enter Tryz.func48,Tryz.ntmps48
  have hmm:=@run_makeMap Tryz.prog
  go_wp2_with (first
    |(go_at_call 112;refine HR.out.mono ?_;rintro e w2 ⟨rfl,b2⟩)
    |((with_reducible refine at_bxd 14 ?_);refine wpList_bx _ rfl _ _ rfl _ rfl ?_;intro w3 g3 hg3 hl3 B3 b3;have HB3:=hidden B3;have HG3:=hidden hg3;have HL3:=hidden hl3;have HQ3:=hidden b3;have c0:w3.cell? ⟨g3,0,none⟩=some (.pointer none):=(by rw [B3.cell];rfl);have z0:w3.frozen? ⟨g3,0,none⟩=false:=B3.frozen 0;clear B3 hg3 hl3 b3))
  go_ret2;have z1:=HH.out.grow b2;have z2:=z1.add (x:=w2.heap.size) (grow_alloc w2 (.map #[] 0)) (Nat.le_refl _) (by simp);have z3:=z2.add HQ3.out HG3.out HL3.out;have m6:Mod [g3] w3 (w3.setCell ⟨g3,0,none⟩ (.pointer (some ⟨g3,0,none⟩))):=Mod.setCell _ _ _ _ (by simp);obtain ⟨z4,k4⟩:=z3.turn (x:=g3) (w':=w3.setCell ⟨g3,0,none⟩ (.pointer (some ⟨g3,0,none⟩))) (by simp) (grownBy_setCell0_a w3 g3 _);have hv:=(VM.new w2).grow HQ3.out;have hn:=hv.notCells HB3.out;have hlow:Kb w w3:=grow_trans (grow_trans b2 (grow_alloc _ _)) HQ3.out;have hg:w.heap.size≤g3:=by
    have:=HG3.out;have:=b2.size;simp at *;omega
  exact ⟨g3,w2.heap.size,rfl,⟨z4,by simp,by simp,HB3.out.set 0 _,vm_at hv (k4 _ (by simp) hn)⟩,hlow.trans (m6.below (fun x hx=>by rw [List.mem_singleton.1 hx];exact hg) hlow.size)⟩

theorem vadd_there (h:Hv w1 w X gv b g gs R ms cs fr) {s:ByteArray} (hs:s.size≤maxLen) (hn:nmOk s=true) (q:Int) (hr:vRt true (cot cs q) (cat cs q) q=0) (ht:nmHas ms s.data.toList=true):Kc 94 #[.pointer (some ⟨gv,0,none⟩),.string s,.int .i64 q] w fun e w'=>e=.returned (.int .i64 6)∧Kb w w':=by
  have HM:Hid (∀w',Kb w w'→Kc 136 #[.pointer (some ⟨gv,0,none⟩)] w' fun e w''=>e=.returned (.bool true)∧w''=w'):=fun w' hb=>vmade_ok gv w' (h.grow hb).c0
  have HS:=hidden (vstore_ok h);have HR:=hidden (root_any h.hz.vw q);have HN:Hid (∀w':World,Kc 167 #[.string s] w' fun e w''=>e=.returned (.bool (nmOk s))∧w''=w'):=fun w'=>name_any s w' hs
  rw [hr] at HR;rw [hn] at HN;have HA:Hid (∀w',Kb w w'→Kc 169 #[.pointer (some ⟨gv,0,none⟩),.string s] w' fun e w''=>e=.returned (.bool (nmHas ms s.data.toList))∧w''=w'):=fun w' hb=>vhas_ok (h.grow hb) hs
  rw [ht] at HA;clear h hn hr ht;go_enter Tryz.func94,Tryz.ntmps94
  go_wp2_with (first
    |(go_at_call 74;refine HS.out.mono ?_;rintro e w' ⟨rfl,hx⟩;rw [hx];clear hx w')
    |(go_at_call 112;refine HR.out.mono ?_;rintro e w1 ⟨rfl,b1⟩)
    |(go_at_call 136;refine (HM.out _ b1).mono ?_;rintro e w' ⟨rfl,hx⟩;rw [hx];clear hx w')
    |(go_at_call 167;refine (HN.out _).mono ?_;rintro e w' ⟨rfl,hx⟩;rw [hx];clear hx w')
    |(go_at_call 169;refine (HA.out _ b1).mono ?_;rintro e w' ⟨rfl,hx⟩;rw [hx];clear hx w'))
  go_ret;exact ⟨rfl,b1⟩

theorem vadd_set (h:Hv w1 w X gv b g gs R ms cs fr) {s:ByteArray} (hs:s.size≤maxLen) (hn:nmOk s=true) (q:Int) (hr:vRt true (cot cs q) (cat cs q) q=0) (ht:nmHas ms s.data.toList=false) (hl:ms.length<16) {P:Ending→World→Prop} (hp:∀w',Kb w w'→Kc 170 #[.pointer (some ⟨gv,0,none⟩),.string s,.int .i64 q] w' fun e w''=>e=.returned (.int .i64 0)∧P (.returned (.int .i64 0)) w''):Kc 94 #[.pointer (some ⟨gv,0,none⟩),.string s,.int .i64 q] w P:=by
  have HM:Hid (∀w',Kb w w'→Kc 136 #[.pointer (some ⟨gv,0,none⟩)] w' fun e w''=>e=.returned (.bool true)∧w''=w'):=fun w' hb=>vmade_ok gv w' (h.grow hb).c0
  have HS:=hidden (vstore_ok h);have HR:=hidden (root_any h.hz.vw q);have HN:Hid (∀w':World,Kc 167 #[.string s] w' fun e w''=>e=.returned (.bool (nmOk s))∧w''=w'):=fun w'=>name_any s w' hs
  rw [hr] at HR;rw [hn] at HN;have HA:Hid (∀w',Kb w w'→Kc 169 #[.pointer (some ⟨gv,0,none⟩),.string s] w' fun e w''=>e=.returned (.bool (nmHas ms s.data.toList))∧w''=w'):=fun w' hb=>vhas_ok (h.grow hb) hs
  rw [ht] at HA;have HL:Hid (∀w',Kb w w'→Kc 168 #[.pointer (some ⟨gv,0,none⟩)] w' fun e w''=>e=.returned (.int .i64 (ms.length:Int))∧w''=w'):=fun w' hb=>vlen_ok (h.grow hb)
  obtain ⟨n,e⟩:∃n,n=ms.length:=⟨_,rfl⟩;rw [← e] at HL hl;have i1: ¬((16:Int)≤(n:Int)):=by omega
  have HP:=hidden hp;clear h hn hr ht e hp;go_enter Tryz.func94,Tryz.ntmps94
  go_wp2_with (first
    |(go_at_call 74;refine HS.out.mono ?_;rintro e w' ⟨rfl,hx⟩;rw [hx];clear hx w')
    |(go_at_call 112;refine HR.out.mono ?_;rintro e w1 ⟨rfl,b1⟩)
    |(go_at_call 136;refine (HM.out _ b1).mono ?_;rintro e w' ⟨rfl,hx⟩;rw [hx];clear hx w')
    |(go_at_call 167;refine (HN.out _).mono ?_;rintro e w' ⟨rfl,hx⟩;rw [hx];clear hx w')
    |(go_at_call 169;refine (HA.out _ b1).mono ?_;rintro e w' ⟨rfl,hx⟩;rw [hx];clear hx w')
    |(go_at_call 168;refine (HL.out _ b1).mono ?_;rintro e w' ⟨rfl,hx⟩;rw [hx];clear hx w')
    |(go_at_call 170;refine (HP.out _ b1).mono ?_;rintro e w3 ⟨rfl,h3⟩))
  exact h3

theorem nmOk_le {s:ByteArray} (h:nmOk s=true):s.size≤20:=by
  unfold nmOk at h;simp only [Bool.and_eq_true,decide_eq_true_eq] at h;exact h.1.1.2

theorem vadd_zero (h:Hv w1 w X gv b g gs R ms cs fr) {s:ByteArray} (hn:nmOk s=true) (ht:nmHas ms s.data.toList=false) (hl:ms.length<16):Kc 94 #[.pointer (some ⟨gv,0,none⟩),.string s,.int .i64 0] w fun e w'=>e=.returned (.int .i64 0)∧Hv w1 w' X gv b g gs R (nmPut ms s.data.toList 0) cs fr∧Kx X b w w':=
  vadd_set h (by have:=nmOk_le hn;unfold maxLen;omega) hn 0 rfl ht hl fun w' hb=>by
    refine (vset_zero (h.grow hb) (nmOk_le hn) (by omega)).mono ?_;rintro e w'' ⟨rfl,k1,k2⟩;exact ⟨rfl,rfl,k1,(h.kx hb b).trans k2⟩
theorem vadd_ok (h:Hv w1 w X gv b g gs R ms cs fr) {s:ByteArray} (hn:nmOk s=true) (i:Nat) (hr:vRt true (cot cs ((i:Int)+1)) (cat cs ((i:Int)+1)) ((i:Int)+1)=0) (hc:0<cc cs i) (hm:cc cs i<1073741824) (ht:nmHas ms s.data.toList=false) (hl:ms.length<16):Kc 94 #[.pointer (some ⟨gv,0,none⟩),.string s,.int .i64 ((i:Int)+1)] w fun e w'=>e=.returned (.int .i64 0)∧Hv w1 w' X gv b g gs R (nmPut ms s.data.toList (i+1)) (moreC cs i) fr∧Kx X b w w':=
  vadd_set h (by have:=nmOk_le hn;unfold maxLen;omega) hn _ hr ht hl fun w' hb=>by
    refine (vset_hold (h.grow hb) (nmOk_le hn) (by omega) i hc hm).mono ?_;rintro e w'' ⟨rfl,k1,k2⟩;exact ⟨rfl,rfl,k1,(h.kx hb b).trans k2⟩

theorem vdrop_go (h:Hv w1 w X gv b g gs R ms cs fr) {s:ByteArray} (hs:s.size≤maxLen) {v:Nat} (hv:(s.data.toList,v)∈ms) {Q:Int→World→Prop} (hp:∀w',Hv w1 w' X gv b g gs R (nmDel ms s.data.toList) cs fr→Kx X b w w'→Kc 147 #[.pointer (some ⟨gv,0,none⟩),.int .i64 (v:Int)] w' fun e w''=>∃n:Int,e=.returned (.int .i64 n)∧Q n w''):Kc 85 #[.pointer (some ⟨gv,0,none⟩),.string s] w fun e w'=>∃n:Int,e=.returned (.tuple #[.int .i64 n,.int .i64 0])∧Q n w':=by
  have HM:=hidden (vroot_ok h hs hv);have c2:=h.c2;obtain ⟨w2,hd,hm,hg⟩:=h.vm.drop (s:=s) hs 0;obtain ⟨h2,k2⟩:=h.turn hm hg;have HP:=hidden (hp w2 h2 k2);clear h hv hp hm hg h2 k2;go_enter Tryz.func85,Tryz.ntmps85
  go_wp2_with (first
    |(go_at_call 95;refine HM.out.mono ?_;rintro e w' ⟨rfl,hx⟩;rw [hx];clear hx w')
    |(go_at_call 147;refine HP.out.mono ?_;rintro e w3 ⟨n,rfl,h3⟩))
  go_ret2;exact ⟨n,rfl,h3⟩
end

end Go.Proofs.YtdjpigfibafokaaGreatDoor

namespace Go.Proofs.YtdjpigfibafokaaGreatDoor
set_option maxHeartbeats 2000000
set_option maxRecDepth 20000
open Go.RowKit

def azL (k:Int) (K:Lq) (v:Value) (d x y:Int):List Value:=.int .i64 k::(K.map (Value.int .u8)++[v,.int .i64 d,.int .i64 x,.int .i64 y])
end Go.Proofs.YtdjpigfibafokaaGreatDoor
