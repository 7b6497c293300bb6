/- dict.place, and Get. -/
import Derived.Test.YtdjpigfibafokaaGreatDoorDz01
import Derived.Test.YtdjpigfibafokaaGreatDoorDz42
import Derived.Test.YtdjpigfibafokaaGreatDoorDz21
import Derived.Test.YtdjpigfibafokaaGreatDoorDz40
import Derived.Test.YtdjpigfibafokaaGreatDoorDz38
import Derived.Test.YtdjpigfibafokaaGreatDoorDz37
import Derived.ChangeSame
import Derived.Deep.Slices
namespace Go.Proofs.YtdjpigfibafokaaGreatDoor
variable {D bs xs zs:Lq}
variable {E:List Ent}
variable {T0:Tre}
variable {W w w':World}
variable {base c fuel g i n:Nat}
variable {v:Value}
set_option maxHeartbeats 16000000
set_option maxRecDepth 20000
open Go.RowKit

def plE (ms:Nms) (s:ByteArray) (k:Lq):Int:=if k.length=32 then trE ms s else 3

section
variable {w1 w w':World} {X:List Nat} {d gv hd b g gs R:Nat} {ms:Nms} {G:List UInt8→Tre} {T:Tre} {cs cs':Lz} {fr fr':List Nat} {s:ByteArray}

theorem place_first (hk:Dk w d gv hd) (h:Hv w1 w X gv b g gs R ms cs fr) (hs:s.size≤maxLen) {kv:Value} {k:Lq} (hkv:Reads w kv k) (lv:Value) (w':World) (hb:Kb w w') (r q c:Nat) (hr:Rq w' r d s kv lv)
    (c0:w'.cell? ⟨q,0,none⟩=some (.func (.func 83) #[.pointer (some ⟨r,0,none⟩)] #[])) (c1:w'.cell? ⟨q,1,none⟩=some (.func (.func 140) #[.pointer (some ⟨r,0,none⟩)] #[])) (c2:w'.cell? ⟨q,2,none⟩=some (.func (.func 122) #[.pointer (some ⟨r,0,none⟩)] #[])):
    Kc 82 #[.slice (some ⟨q,0,none⟩) 3 c] w' fun e w''=>e=.returned (.int .i64 (plE ms s k))∧Below w'.heap.size w' w'':=by
  have hf:fst15 [(83,0),(140,if k.length=32 then 0 else 3),(122,trE ms s)]=plE ms s k:=by
    unfold plE
    by_cases h32:k.length=32
    · rw [if_pos h32,if_pos h32]
      unfold fst15 fst15 fst15 fst15;rw [if_pos rfl,if_pos rfl];split
      · rename_i q;exact q.symm
      · rfl
    · rw [if_neg h32,if_neg h32]
      unfold fst15 fst15;rw [if_pos rfl,if_neg (show ¬(3:Int)=0 by omega)]
  have:=first_p (w:=w') q 3 c r [(83,0),(140,if k.length=32 then 0 else 3),(122,trE ms s)] rfl (by omega) (fun i hi=>by
      rcases (show i=0∨i=1∨i=2 by omega) with rfl | rfl | rfl
      · exact List.mem_cons_self
      · exact List.mem_cons_of_mem _ List.mem_cons_self
      · exact List.mem_cons_of_mem _ (List.mem_cons_of_mem _ List.mem_cons_self)) (fun i hi=>by
      rcases (show i=0∨i=1∨i=2 by omega) with rfl | rfl | rfl
      · exact c0
      · exact c1
      · exact c2) (fun i hi _ z hz=>by
      rcases (show i=0∨i=1∨i=2 by omega) with rfl | rfl | rfl
      · exact (notMade_ok (hk.grow (grow_trans hb hz)) (hr.grow hz)).mono fun e w'' ⟨q1,q2⟩=>⟨q1,q2 ▸ Below.refl _ _⟩
      · exact badKey_any (hr.grow hz) (hkv.grow (grow_trans hb hz))
      · exact noTree_any (hk.grow (grow_trans hb hz)) (hr.grow hz) (h.grow (grow_trans hb hz)) hs)
  rwa [hf] at this

theorem dplace_any (h:Ds w1 w X d gv b g gs R ms G hd T cs fr) (hs:s.size≤maxLen) {kv:Value} {k:Lq} (hkv:Reads w kv k):Kc 78 #[.pointer (some ⟨d,0,none⟩),.string s,kv] w fun e w'=>e=.returned (.tuple #[.int .i64 (if plE ms s k=0 then (trV ms hd s:Int) else 0),.agg (B (if plE ms s k=0 then k else z32)),.int .i64 (plE ms s k)])∧Kb w w':=by
  obtain ⟨a,c,hk1⟩:=reads_len hkv;have HF:=hidden (fun w' hb r q c hr c0 c1 c2=>place_first h.dk h.sv.hv hs hkv (.slice none 0 0) w' hb r q c hr c0 c1 c2);have HOf:Hid (Kr w 123 #[.agg #[.pointer (some ⟨gv,0,none⟩),.int .i64 (hd:Int)],.string s] (.tuple #[.int .i64 (trV ms hd s:Int),.int .i64 (trE ms s)])):=fun w' hb=>of_any15 (hd:=hd) (h.grow hb).sv.hv hs
  have HPo:Hid (Kr w 88 #[kv] (.tuple #[.agg (B (if k.length=32 then k else z32)),.int .i64 (if k.length=32 then 0 else 3)])):=fun w' hb=>of_e (hkv.grow hb)
  have HDK:Hid (∀w',Kb w w'→Dk w' d gv hd):=fun w' hb=>(h.grow hb).dk
  have HP0:Hid (Tryz.prog.built 63 []=some (B z32)):=by show _=_;kernel_rfl
  have HPS:=hidden (sz_path3 z32 rfl);have HPZ:Hid (∀w,(zeroValue 63).run Tryz.prog w=.ok (.agg (B z32)) w):=fun w=>by kernel_rfl
  by_cases he:plE ms s k=0
  · obtain ⟨h32,ht⟩:k.length=32∧trE ms s=0:=by
      unfold plE at he;split at he
      · exact ⟨by assumption,he⟩
      · omega
    have HSk:=hidden (sz_path3 k h32);have HLk:Hid ((Tryz.prog.info? 63).map (·.size)=some (B k).toList.length):=by show _=_;rw [Array.length_toList];exact HSk.out.1
    rw [if_pos h32,if_pos h32] at HPo;rw [if_pos he,if_pos he];rw [he] at HF ⊢;rw [ht] at HOf;clear h hs hkv he h32 ht;subst hk1;generalize trV ms hd s=v at *;obtain ⟨n,hn⟩:∃n,n=k.length:=⟨_,rfl⟩;rw [← hn] at HF HPo ⊢;clear hn;have HBU:Hid (Tryz.prog.built 157 [(0,.pointer (some ⟨d,0,none⟩)),(1,.string s),(2,.slice a n c)]=some #[.pointer (some ⟨d,0,none⟩),.string s,.slice a n c,.slice none 0 0]):=by show _=_;rfl
    go_enter Tryz.func78,Tryz.ntmps78
    go_wp2_with (first
      |((with_reducible refine at_ald 7 ?_);refine wpList_al _ rfl _ rfl _ HPZ.out ?_;intro w0 g7 hg0 hl0 B0 q0;have HG0:=hidden hg0;have HQ0:=hidden q0;have HB0:=hidden B0;have HL0:=hidden hl0;clear hg0 hl0 q0 B0)
      |((with_reducible refine at_bdd 13 ?_);refine wpList_bld _ rfl _ _ rfl _ (by rw [List.map_toArray];exact HBU.out) ?_)
      |((with_reducible refine at_ald 9 ?_);refine wpList_al _ rfl _ rfl _ zero_rq ?_;intro w1 r hg1 hl1 B1 q1;have HG1:=hidden hg1;have HQ1:=hidden (grow_trans HQ0.out q1);have HB01:=hidden (HB0.out.grow q1);clear hl1 q1)
      |((with_reducible refine at_st 9 ?_);refine wpList_sto _ rfl _ _ _ rfl r _ #[.pointer (some ⟨d,0,none⟩),.string s,.slice a n c,.slice none 0 0] rfl rfl B1 size_rq rfl (by simp [Value.oneCell']) ?_;intro w2 B2 r2;have HB2:=hidden B2;have HQ2:=hidden (below_row HQ1.out r2 (Nat.le_trans HQ0.out.size HG1.out));have HB02:=hidden (HB01.out.kept r2 (fun e=>by have:=HL0.out;have:=HG1.out;omega));clear B1 B2 r2)
      |(go_at_call 82;refine (HF.out _ (grow_trans HQ2.out (grow_alloc _ _)) r _ _ (HB2.out.grow (grow_alloc _ _)) (by rw [Blk.cell (Blk.new _ _ _)];rfl) (by rw [Blk.cell (Blk.new _ _ _)];rfl) (by rw [Blk.cell (Blk.new _ _ _)];rfl)).mono ?_;rintro e w3 ⟨rfl,hx⟩;have HQ3:=hidden (grow_trans (grow_trans HQ2.out (grow_alloc _ _)) hx);have HB03:=hidden ((HB02.out.grow (grow_alloc _ _)).grow hx);clear hx)
      |((with_reducible refine at_ldd 27 26 ?_);refine wpList_ldw _ rfl _ _ rfl d 1 rfl [.pointer (some ⟨gv,0,none⟩),.int .i64 (hd:Int)] _ (HDK.out _ HQ3.out).row Tryz.underlying104 rfl size_tr ?_)
      |(go_at_call 123;refine (HOf.out _ HQ3.out).mono ?_;rintro e w4 ⟨rfl,hx⟩;have HQ4:=hidden (grow_trans HQ3.out hx);have HB04:=hidden (HB03.out.grow hx);clear hx)
      |(go_at_call 88;refine (HPo.out _ HQ4.out).mono ?_;rintro e w5 ⟨rfl,hx⟩;have HQ5:=hidden (grow_trans HQ4.out hx);have HB05:=hidden (HB04.out.grow hx);clear hx)
      |((with_reducible refine at_st 7 ?_);refine wpList_sto _ rfl _ _ _ rfl g7 _ (B k) rfl rfl HB05.out HSk.out.1 HSk.out.2 (B_one _) ?_;intro x6 B6 r6;have HB6:=hidden B6;have HQ6:=hidden (below_row HQ5.out r6 HG0.out);clear B6 r6))
    have B7:=HB6.out.drew;refine wp_region_wrote (S:=fun w'=>Blk w' g7 63 (B k)) [3] (by kernel_rfl) (B7) (fun hHeld=>?_);refine wpAnyW_take0 (i:=0) (v:=.int .i64 (v:Int)) rfl (by kernel_rfl) (by kernel_rfl) (by kernel_rfl) (by kernel_rfl) (fun _ _ _ h=>h) (Or.inl ⟨by rfl,fun w hS=>by go_simp⟩) (.inr hHeld) ?_;simp only [Act.put,zq1,zq2,zq4,zq5,zq6];refine wpAnyW_take (i:=1) (v:=.agg (B k)) rfl (by kernel_rfl) (by kernel_rfl) (by kernel_rfl) (by kernel_rfl) (by kernel_rfl) (by kernel_rfl) (fun _ _ _ h=>h) (yieldsIf_load_mid rfl 63 (.tmp 7) rfl g7 0 rfl (B k).toList _ (fun w hS=>hS.range) Tryz.underlying63 rfl HLk.out) hHeld ?_;simp only [Act.put,zq1,zq2,zq3,zq4,zq5,zq6];refine wpAnyW_take0 (i:=2) (v:=.int .i64 (v:Int)) rfl (by kernel_rfl) (by kernel_rfl) (by kernel_rfl) (by kernel_rfl) (fun _ _ _ h=>h) (Or.inl ⟨by rfl,fun w hS=>by go_simp⟩) (.inr hHeld) ?_;simp only [Act.put,zq1,zq2,zq3,zq4,zq5,zq6];refine wpAnyW_one (i:=3) rfl (by kernel_rfl) (by kernel_rfl) (fun KQ hK=>?_);refine step_sto _ rfl _ _ _ rfl g7 _ (B k) rfl rfl B7 HSk.out.1 rfl (B_one _) ?_;intro x9 B9 r9;refine hK.out _ _ ?_;clear hK KQ;refine wpAnyW_take0 (i:=4) (v:=.int .i64 0) rfl (by kernel_rfl) (by kernel_rfl) (by kernel_rfl) (by kernel_rfl) (fun _ _ _ h=>h) (Or.inl ⟨by rfl,fun w hS=>by go_simp⟩) (.inl (by kernel_rfl)) ?_;simp only [Act.put,zq1,zq2,zq3,zq4,zq5,zq6];refine wpAnyW_done (by kernel_rfl) ?_;go_wp2
    exact bodyPost_ret (v:=.tuple #[.int .i64 (v:Int),.agg (B k),.int .i64 0]) (results_tmp_row_tmp rfl _ _ g7 _ _ _ _ _ rfl rfl rfl B9 Tryz.underlying63 HSk.out.1) rfl ⟨rfl,below_row (below_drewN HQ6.out 1) r9 HG0.out⟩
  · rw [if_neg he,if_neg he]
    generalize plE ms s k=E at *;have zE:(E != 0)=true:=by simp [he]
    clear h hs hkv he HOf HPo;subst hk1;obtain ⟨n,hn⟩:∃n,n=k.length:=⟨_,rfl⟩;rw [← hn] at HF ⊢;clear hn;have HBU:Hid (Tryz.prog.built 157 [(0,.pointer (some ⟨d,0,none⟩)),(1,.string s),(2,.slice a n c)]=some #[.pointer (some ⟨d,0,none⟩),.string s,.slice a n c,.slice none 0 0]):=by show _=_;rfl
    go_enter Tryz.func78,Tryz.ntmps78
    go_wp2_with (first
      |((with_reducible refine at_ald 7 ?_);refine wpList_al _ rfl _ rfl _ HPZ.out ?_;intro w0 g7 hg0 hl0 B0 q0;have HG0:=hidden hg0;have HQ0:=hidden q0;have HB0:=hidden B0;have HL0:=hidden hl0;clear hg0 hl0 q0 B0)
      |((with_reducible refine at_bdd 13 ?_);refine wpList_bld _ rfl _ _ rfl _ (by rw [List.map_toArray];exact HBU.out) ?_)
      |((with_reducible refine at_ald 9 ?_);refine wpList_al _ rfl _ rfl _ zero_rq ?_;intro w1 r hg1 hl1 B1 q1;have HG1:=hidden hg1;have HQ1:=hidden (grow_trans HQ0.out q1);have HB01:=hidden (HB0.out.grow q1);clear hl1 q1)
      |((with_reducible refine at_st 9 ?_);refine wpList_sto _ rfl _ _ _ rfl r _ #[.pointer (some ⟨d,0,none⟩),.string s,.slice a n c,.slice none 0 0] rfl rfl B1 size_rq rfl (by simp [Value.oneCell']) ?_;intro w2 B2 r2;have HB2:=hidden B2;have HQ2:=hidden (below_row HQ1.out r2 (Nat.le_trans HQ0.out.size HG1.out));have HB02:=hidden (HB01.out.kept r2 (fun e=>by have:=HL0.out;have:=HG1.out;omega));clear B1 B2 r2)
      |(go_at_call 82;refine (HF.out _ (grow_trans HQ2.out (grow_alloc _ _)) r _ _ (HB2.out.grow (grow_alloc _ _)) (by rw [Blk.cell (Blk.new _ _ _)];rfl) (by rw [Blk.cell (Blk.new _ _ _)];rfl) (by rw [Blk.cell (Blk.new _ _ _)];rfl)).mono ?_;rintro e w3 ⟨rfl,hx⟩;have HQ3:=hidden (grow_trans (grow_trans HQ2.out (grow_alloc _ _)) hx);have HB03:=hidden ((HB02.out.grow (grow_alloc _ _)).grow hx);clear hx)
      |(refine wpList_bld _ rfl _ _ rfl (B z32) (by rw [List.map_toArray];exact HP0.out) ?_)
      |((with_reducible refine at_st 7 ?_);refine wpList_sto _ rfl _ _ _ rfl g7 _ (B z32) rfl rfl HB03.out HPS.out.1 rfl (B_one _) ?_;intro w4 B4 r4;have HB4:=hidden B4;have HQ4:=hidden (below_row HQ3.out r4 HG0.out);clear B4 r4))
    exact bodyPost_ret (v:=.tuple #[.int .i64 0,.agg (B z32),.int .i64 E]) (results_tmp_row_tmp rfl _ _ g7 _ _ _ _ _ rfl rfl rfl HB4.out Tryz.underlying63 HPS.out.1) rfl ⟨rfl,HQ4.out⟩

theorem dget_any (h:Ds w1 w X d gv b g gs R ms G hd T cs fr) (hs:s.size≤maxLen) {kv:Value} {k:Lq} (hkv:Reads w kv k):Kc 28 #[.pointer (some ⟨d,0,none⟩),.string s,kv] w fun e w'=>∃v sp,e=.returned (.tuple #[v,.bool (if plE ms s k=0 then hasK (trT G T s).ents k else false),.int .i64 (plE ms s k)])∧Own w.heap.size w' v (if plE ms s k=0 then (fnd ((trT G T s).efin k) k).1 else []) sp∧Kb w w':=by
  have HPl:=hidden (dplace_any h hs hkv);have HSt:Hid (Kr w 19 #[.pointer (some ⟨d,0,none⟩)] (.pointer (some ⟨g,0,none⟩))):=fun w' hb=>dstore_ok (h.grow hb).dk (h.grow hb).sv.hv
  have HPZ:Hid (∀w,(zeroValue 63).run Tryz.prog w=.ok (.agg (B z32)) w):=fun w=>by kernel_rfl
  have hbk:Bytes k:=by obtain ⟨_,_,_,_,_,hb,_⟩:=hkv;exact hb
  by_cases he:plE ms s k=0
  · obtain ⟨h32,ht⟩:k.length=32∧trE ms s=0:=by
      unfold plE at he;split at he
      · exact ⟨by assumption,he⟩
      · omega
    have HFi:Hid (∀w',Kb w w'→Kc 86 #[.pointer (some ⟨g,0,none⟩),.int .i64 (trV ms hd s:Int),.agg (B k)] w' fun e w''=>∃v sp,e=.returned (.tuple #[v,.bool (hasK (trT G T s).ents k),.int .i64 0])∧Own w'.heap.size w'' v (fnd ((trT G T s).efin k) k).1 sp∧Below w'.heap.size w' w''):=fun w' hb=>by
      have q:=h.grow hb;obtain ⟨S,H,_⟩:=q.sv.hv.hs;have r:=q.sv.name ht;refine (find_any H.vw H.2 _ _ r.tree k ⟨h32,hbk⟩ r.root).mono ?_;rintro e w'' ⟨v,sp,e1,e2,e3⟩;rw [hasK_fin H.2 r.tree k] at e1;exact ⟨v,sp,e1,e2,e3⟩
    have HSk:=hidden (sz_path3 k h32);have HLk:Hid ((Tryz.prog.info? 63).map (·.size)=some (B k).toList.length):=by show _=_;rw [Array.length_toList];exact HSk.out.1
    rw [if_pos he,if_pos he];rw [if_pos he,if_pos he] at HPl;rw [he] at HPl ⊢;clear h hs hkv he h32 ht hbk;generalize trV ms hd s=v at *;generalize hasK (trT G T s).ents k=is at *;generalize (fnd ((trT G T s).efin k) k).1=zs at *;go_enter Tryz.func28,Tryz.ntmps28
    go_wp2_with (first
      |(go_at_call 78;refine HPl.out.mono ?_;rintro e w1 ⟨rfl,q1⟩;have HQ1:=hidden q1;clear q1)
      |((with_reducible refine at_ald 10 ?_);refine wpList_al _ rfl _ rfl _ HPZ.out ?_;intro w2 g2 hg2 hl2 B2 q2;have HG2:=hidden (Nat.le_trans HQ1.out.size hg2);have HQ2:=hidden (grow_trans HQ1.out q2);clear hg2 hl2 q2)
      |((with_reducible refine at_st 10 ?_);refine wpList_sto _ rfl _ _ _ rfl g2 _ (B k) rfl rfl B2 HSk.out.1 HSk.out.2 (B_one _) ?_;intro x3 B3 r3;have HQ3:=hidden (below_row HQ2.out r3 HG2.out);have K3:=hidden B3.kp;clear B2 B3 r3))
    refine wp_region_held_drew (S:=fun w'=>Kb x3 w') (by kernel_rfl) (below_drewN (Below.refl _ _) 1) (fun hHeld=>?_);refine tkp 0 (.pointer (some ⟨d,0,none⟩)) hHeld ?_;simp only [Act.put,zq1,zq2,zq4,zq5,zq6];refine tkp 2 (.int .i64 (v:Int)) hHeld ?_;simp only [Act.put,zq1,zq2,zq3,zq4,zq5,zq6];refine tkg 3 (.agg (B k)) rfl (yieldsIf_load_mid rfl 63 (.tmp 10) rfl g2 0 rfl (B k).toList _ (fun w hS=>(K3.out _ hS).range) Tryz.underlying63 rfl HLk.out) hHeld ?_;simp only [Act.put,zq1,zq2,zq3,zq4,zq5,zq6];refine wpAnyH_ready (rs:=[1]) (by kernel_rfl) (by simp) ?_;refine AllReadyH.cons rfl (fun KQ hK=>?_) AllReadyH.nil;go_simp;refine (HSt.out _ (grow_trans HQ3.out hHeld)).mono ?_;rintro e y1 ⟨rfl,a1⟩;refine hK.out _ _ (grow_trans hHeld a1) (fun hHeld=>?_);clear hK KQ;refine wpAnyH_ready (rs:=[4]) (by kernel_rfl) (by simp) ?_;refine AllReadyH.cons rfl (fun KQ hK=>?_) AllReadyH.nil;go_simp;have hsz:=hHeld.size;refine (HFi.out _ (grow_trans HQ3.out hHeld)).mono ?_;rintro e y2 ⟨fv,fsp,rfl,fo,a2⟩;refine hK.out _ _ (grow_trans hHeld a2) (fun hHeld=>?_);clear hK KQ;refine tkp 5 fv hHeld ?_;simp only [Act.put,zq1,zq2,zq3,zq4,zq5,zq6];refine tkp 6 (.bool is) hHeld ?_;simp only [Act.put,zq1,zq2,zq3,zq4,zq5,zq6];refine tkp 7 (.int .i64 0) hHeld ?_;simp only [Act.put,zq1,zq2,zq3,zq4,zq5,zq6];refine tkp 8 fv hHeld ?_;simp only [Act.put,zq1,zq2,zq3,zq4,zq5,zq6];refine tkp 9 (.bool is) hHeld ?_;simp only [Act.put,zq1,zq2,zq3,zq4,zq5,zq6];refine tkp 10 (.int .i64 0) hHeld ?_;simp only [Act.put,zq1,zq2,zq3,zq4,zq5,zq6];refine wpAnyH_done (by kernel_rfl) ?_ _;go_wp2
    go_ret3;exact ⟨fv,fsp,rfl,fo.mono (Nat.le_trans HQ3.out.size hsz),grow_trans HQ3.out hHeld⟩
  · rw [if_neg he,if_neg he]
    rw [if_neg he,if_neg he] at HPl;have HPS:=hidden (sz_path3 z32 rfl);generalize plE ms s k=E at *;have zE:(E != 0)=true:=by simp [he]
    clear h hs hkv he hbk;go_enter Tryz.func28,Tryz.ntmps28
    go_wp2_with (first
      |(go_at_call 78;refine HPl.out.mono ?_;rintro e w1 ⟨rfl,q1⟩;have HQ1:=hidden q1;clear q1)
      |((with_reducible refine at_ald 10 ?_);refine wpList_al _ rfl _ rfl _ HPZ.out ?_;intro w2 g2 hg2 hl2 B2 q2;have HG2:=hidden (Nat.le_trans HQ1.out.size hg2);have HQ2:=hidden (grow_trans HQ1.out q2);clear hg2 hl2 q2)
      |((with_reducible refine at_st 10 ?_);refine wpList_sto _ rfl _ _ _ rfl g2 _ (B z32) rfl rfl B2 HPS.out.1 rfl (B_one _) ?_;intro w3 B3 r3;have HQ3:=hidden (below_row HQ2.out r3 HG2.out);clear B2 B3 r3))
    go_ret3;exact ⟨.slice none 0 0,[],rfl,Own.nil _ _,HQ3.out⟩
end

end Go.Proofs.YtdjpigfibafokaaGreatDoor

namespace Go.Proofs.YtdjpigfibafokaaGreatDoor
variable {D bs xs zs:Lq}
variable {E:List Ent}
variable {T0:Tre}
variable {W w w':World}
variable {base c fuel g i n:Nat}
variable {v:Value}
set_option maxHeartbeats 16000000
set_option maxRecDepth 20000
open Go.RowKit

def kptS:ByteArray:=⟨#[107,101,112,116,45,97,115,45,105,116,45,115,116,111,111,100]⟩
def aaaS:ByteArray:=⟨#[97,97,97,97,97,97,97,97,97,97,97,97,97,97,97,97,97,97,97,97]⟩
def empS:ByteArray:=⟨#[]⟩
theorem kpt_ok:nmOk kptS=true:=by decide+kernel
theorem aaa_ok:nmOk aaaS=true:=by decide+kernel
theorem kpt_size:kptS.size≤maxLen:=by unfold maxLen;decide+kernel
theorem aaa_size:aaaS.size≤maxLen:=by unfold maxLen;decide+kernel
theorem emp_size:empS.size≤maxLen:=by unfold maxLen;decide+kernel
def kptK:List UInt8:=kptS.data.toList

def AnyD (_:Nms) (_:List UInt8→Tre) (_:Tre) (_:Nat):Prop:=True
def FixD (m0:Nms) (T0:Tre) (ms:Nms) (_:List UInt8→Tre) (T:Tre) (_:Nat):Prop:=ms=m0∧T=T0
def KptD (D:Lq) (ms:Nms) (G:List UInt8→Tre) (_:Tre) (_:Nat):Prop:=nmHas ms kptK=true∧rt 256 0 (G kptK).ents=D
def CurD (D:Lq) (_:Nms) (_:List UInt8→Tre) (T:Tre) (_:Nat):Prop:=rt 256 0 T.ents=D

section
variable {w1 w w':World} {d R:Nat} {Y:List Nat}

theorem bk_do {x:A15} (h:Dst w1 w d R Y AnyD) (hx:A15Ok w1 x) (hL:∀z,Kb w1 z→Laid z):Kc 16 #[.pointer (some ⟨d,0,none⟩),.agg x.cells.toArray] w fun e w'=>e=.returned (.tuple #[])∧Dst w1 w' d R Y AnyD∧Keep Y w w':=by
  obtain ⟨X,gv,b,g,gs,ms,G,hd,T,cs,fr,h1,h2,h3⟩:=h;exact (do15_any h1 h2 hx hL).mono fun e w' ⟨e1,e2,e3⟩=>⟨e1,e2.imp fun _ _ _ _ _=>trivial,e3⟩
theorem bk_oth {x:A15} (h:Dst w1 w d R Y (KptD D)) (hx:A15Ok w1 x) (hn:x.s.data.toList≠kptK) (hL:∀z,Kb w1 z→Laid z):Kc 16 #[.pointer (some ⟨d,0,none⟩),.agg x.cells.toArray] w fun e w'=>e=.returned (.tuple #[])∧Dst w1 w' d R Y (KptD D)∧Keep Y w w':=by
  obtain ⟨X,gv,b,g,gs,ms,G,hd,T,cs,fr,h1,h2,h3⟩:=h;exact (do15_any h1 h2 hx hL).mono fun e w' ⟨e1,e2,e3⟩=>⟨e1,e2.imp fun ms' G' T' o' q=>by
    obtain ⟨q1,q2⟩:=q.1 kptK (fun e=>hn e.symm);exact ⟨by rw [q1];exact h3.1,by rw [q2];exact h3.2⟩,e3⟩
theorem bk_prune (h:Dst w1 w d R Y AnyD):Kc 26 #[.pointer (some ⟨d,0,none⟩),.string kptS] w fun e w'=>(∃r,e=.returned r)∧∃m0 T0,nmHas m0 kptK=false∧Dst w1 w' d R Y (FixD m0 T0):=by
  obtain ⟨X,gv,b,g,gs,ms,G,hd,T,cs,fr,h1,h2,h3⟩:=h;cases hn:nmHas ms kptK with
  | true=>
    refine (dprune_ok h1 kpt_size hn).mono ?_;rintro e w' ⟨e1,cs',fr',e2,e3,e4⟩;refine ⟨⟨_,e1⟩,_,T,?_,X,gv,b,g,gs,_,G,hd,T,cs',fr',e2,h2,rfl,rfl⟩;rw [Bool.eq_false_iff];intro q;obtain ⟨p,hp,hk⟩:=List.mem_map.1 (nmHas_iff.1 q);exact (nmDel_mem.1 hp).2 hk
  | false=>
    refine (dprune_bad h1.dk h1.sv.hv kpt_size (by rw [vrE,if_neg (show ¬nmHas ms kptS.data.toList=true from fun q=>by rw [show nmHas ms kptS.data.toList=false from hn] at q;cases q)];omega)).mono ?_;rintro e w' ⟨e1,e2⟩;exact ⟨⟨_,e1⟩,ms,T,hn,X,gv,b,g,gs,ms,G,hd,T,cs,fr,h1.grow e2,h2,rfl,rfl⟩
theorem bk_get {m0:Nms} (h:Dst w1 w d R Y (FixD m0 T0)) {kv:Value} {k:Lq} (hk:Reads w kv k) (h32:k.length=32):Kc 28 #[.pointer (some ⟨d,0,none⟩),.string empS,kv] w fun e w'=>∃v,e=.returned (.tuple #[v,.bool (hasK T0.ents k),.int .i64 0])∧Kb w w':=by
  obtain ⟨X,gv,b,g,gs,ms,G,hd,T,cs,fr,h1,h2,rfl,rfl⟩:=h;refine (dget_any h1 emp_size hk).mono ?_;have hp:plE ms empS k=0:=by rw [plE,if_pos h32];exact if_pos rfl
  rintro e w' ⟨v,sp,e1,_,e3⟩;rw [hp,if_pos rfl] at e1;exact ⟨v,e1,e3⟩
theorem bk_root {m0:Nms} (h:Dst w1 w d R Y (FixD m0 T0)) (hL:Laid w):Kc 12 #[.pointer (some ⟨d,0,none⟩),.string empS] w fun e w'=>e=.returned (.tuple #[.agg (B (rt 256 0 T0.ents)),.int .i64 0])∧Kb w w':=by
  obtain ⟨X,gv,b,g,gs,ms,G,hd,T,cs,fr,h1,h2,rfl,rfl⟩:=h;exact droot_any h1 emp_size hL
theorem bk_rootC (h:Dst w1 w d R Y (CurD D)) (hL:Laid w):Kc 12 #[.pointer (some ⟨d,0,none⟩),.string empS] w fun e w'=>e=.returned (.tuple #[.agg (B D),.int .i64 0])∧Kb w w':=by
  obtain ⟨X,gv,b,g,gs,ms,G,hd,T,cs,fr,h1,h2,rfl⟩:=h;exact droot_any h1 emp_size hL
theorem bk_rootK (h:Dst w1 w d R Y (KptD D)) (hL:Laid w):Kc 12 #[.pointer (some ⟨d,0,none⟩),.string kptS] w fun e w'=>e=.returned (.tuple #[.agg (B D),.int .i64 0])∧Kb w w':=by
  obtain ⟨X,gv,b,g,gs,ms,G,hd,T,cs,fr,h1,h2,h3,rfl⟩:=h;have:=droot_any h1 kpt_size hL;have ht:trE ms kptS=0:=by
    rw [trE,if_neg (by decide+kernel)];exact if_pos h3
  have hT:trT G T kptS=G kptK:=if_neg (by decide+kernel);rwa [ht,if_pos rfl,hT] at this
theorem bk_roll (h:Dst w1 w d R Y (KptD D)):Kc 32 #[.pointer (some ⟨d,0,none⟩),.string kptS] w fun e w'=>e=.returned (.int .i64 0)∧Dst w1 w' d R Y (CurD D)∧Keep Y w w':=by
  obtain ⟨X,gv,b,g,gs,ms,G,hd,T,cs,fr,h1,h2,h3,h4⟩:=h;refine (droll_ok h1 kpt_size h3).mono ?_;rintro e w' ⟨e1,cs',fr',e2,_,e4⟩;exact ⟨e1,⟨X,gv,b,g,gs,ms,G,_,_,cs',fr',e2,h2,h4⟩,fun y hy=>e4 y (h2 y hy).1 (h2 y hy).2.1 (h2 y hy).2.2⟩
theorem rfE_in (o R:Nat) (x:Rw) (h32:x.k.length=32) (ht:tooR x=false):rfE o R [x]=0∨rfE o R [x]=9:=by
  have h1:bkE [x]=0:=by simp [bkE,h32]
  have h2:tlE [x]=0:=by simp [tlE,ht]
  rw [rfE,if_pos h1,if_pos h2,rmE];split <;> simp
theorem bk_put {m0:Nms} (h:Dst w1 w d R Y (FixD m0 T0)) {kv v:Value} {k bs:Lq} (hk:Reads w kv k) (h32:k.length=32) (hb:bs.length≤1024) (hv:∀z,Kb w1 z→Reads z v bs) (hL:∀z,Kb w1 z→Laid z):
    Kc 29 #[.pointer (some ⟨d,0,none⟩),kv,v] w fun e w'=>(e=.returned (.int .i64 9)∧Kb w w')∨(e=.returned (.int .i64 0)∧∃T1,T1.ents.Perm (upE T0.ents k bs)∧Dst w1 w' d R Y (FixD m0 T1)∧Keep Y w w'):=by
  obtain ⟨X,gv,b,g,gs,ms,G,hd,T,cs,fr,h1,h2,rfl,rfl⟩:=h;refine (dput_any h1 hk hv hL).mono ?_;rintro e w' ⟨e1,e2⟩;rcases e2 with ⟨q,e2⟩ | ⟨q,top,T',cs',fr',e2,e3,_,e4⟩
  · refine .inl ⟨?_,e2⟩
    rw [(rfE_in (noc cs) R ⟨kv,k,false,bs,v⟩ h32 (by simp [tooR];omega)).resolve_left q] at e1;exact e1
  · rw [q] at e1
    exact .inr ⟨e1,T',e3,⟨X,gv,b,g,gs,ms,G,top,T',cs',fr',e2,h2,rfl,rfl⟩,fun y hy=>e4 y (h2 y hy).1 (h2 y hy).2.1 (h2 y hy).2.2⟩
theorem bk_del {m0:Nms} (h:Dst w1 w d R Y (FixD m0 T0)) {kv:Value} {k:Lq} (hk:Reads w kv k) (h32:k.length=32) (hL:∀z,Kb w1 z→Laid z):
    Kc 30 #[.pointer (some ⟨d,0,none⟩),kv] w fun e w'=>(e=.returned (.tuple #[.bool false,.int .i64 9])∧Dst w1 w' d R Y (FixD m0 T0)∧Keep Y w w')∨(e=.returned (.tuple #[.bool (hasK T0.ents k),.int .i64 0])∧∃T1,T1.ents.Perm (dlE T0.ents k)∧Dst w1 w' d R Y (FixD m0 T1)∧Keep Y w w'):=by
  have h0:=h;obtain ⟨X,gv,b,g,gs,ms,G,hd,T,cs,fr,h1,h2,rfl,rfl⟩:=h;refine (ddel_any h1 hk hL).mono ?_;rintro e w' (⟨q,e1,e2⟩ | ⟨q,e1,top,T',cs',fr',e2,e3,_,e4⟩)
  · refine .inl ⟨?_,h0.grow e2,h0.keep e2⟩
    rw [(rfE_in (noc cs) R ⟨kv,k,true,[],.slice none 0 0⟩ h32 (by simp [tooR])).resolve_left q] at e1;exact e1
  · exact .inr ⟨e1,T',e3,⟨X,gv,b,g,gs,ms,G,top,T',cs',fr',e2,h2,rfl,rfl⟩,fun y hy=>e4 y (h2 y hy).1 (h2 y hy).2.1 (h2 y hy).2.2⟩
theorem bk_names {m0:Nms} (h:Dst w1 w d R Y (FixD m0 T0)):m0.length≤16∧Kc 22 #[.pointer (some ⟨d,0,none⟩)] w fun e w'=>∃a c,e=.returned (.slice a m0.length c)∧Kb w w':=by
  obtain ⟨X,gv,b,g,gs,ms,G,hd,T,cs,fr,h1,h2,rfl,rfl⟩:=h;refine ⟨h1.sv.few,(dnames_any h1).mono ?_⟩;rintro e w' ⟨v,e1,e2,e3⟩;obtain ⟨a,c,rfl⟩:∃a c,v=.slice a (nmSort ms).length c:=lst_slice (k:=1) (h:=⟨e2.1,e2.2.imp id fun ⟨g,c,cur,k1,k2,k3⟩=>⟨g,c,cur,k1,Nat.zero_le _,k3⟩⟩);rw [show (nmSort ms).length=ms.length by rw [nmSort,List.length_mergeSort,List.length_map]] at e1;exact ⟨a,c,e1,e3⟩
theorem bk_full {m0:Nms} (h:Dst w1 w d R Y (FixD m0 T0)) (h16:m0.length=16):Kc 31 #[.pointer (some ⟨d,0,none⟩),.string aaaS] w fun e w'=>e=.returned (.int .i64 8)∧Kb w w':=by
  obtain ⟨X,gv,b,g,gs,ms,G,hd,T,cs,fr,h1,h2,rfl,rfl⟩:=h;have hs:snE ms aaaS=8:=by rw [snE,if_pos aaa_ok,if_pos (by omega)]
  have:=dsnap_bad h1.dk h1.sv.hv aaa_size (by rw [hs];omega);rwa [hs] at this
theorem bk_snap {m0:Nms} (h:Dst w1 w d R Y (FixD m0 T0)) (h16:m0.length≠16) (hn:nmHas m0 kptK=false):Kc 31 #[.pointer (some ⟨d,0,none⟩),.string kptS] w fun e w'=>e=.returned (.int .i64 0)∧Dst w1 w' d R Y (KptD (rt 256 0 T0.ents))∧Keep Y w w':=by
  obtain ⟨X,gv,b,g,gs,ms,G,hd,T,cs,fr,h1,h2,rfl,rfl⟩:=h;have hf:=h1.sv.few;have hs:snE ms kptS=0:=by rw [snE,if_pos kpt_ok,if_neg (by omega)]
  rcases dsnap_any h1 kpt_size with ⟨q,_⟩ | ⟨_,q,_⟩ | ⟨_,_,q⟩
  · exact absurd hs q
  · rw [show nmHas ms kptS.data.toList=false from hn] at q
    cases q
  · refine q.mono ?_
    rintro e w' ⟨e1,cs',e2,_,e4⟩;refine ⟨e1,⟨X,gv,b,g,gs,_,_,hd,T,cs',fr,e2,h2,?_,?_⟩,fun y hy=>e4 y (h2 y hy).1 (h2 y hy).2.1 (h2 y hy).2.2⟩
    · rw [show (kptS.data.toList:List UInt8)=kptK from rfl,nmPut_new hn,nmHas_iff]
      simp
    · rw [show (kptS.data.toList:List UInt8)=kptK from rfl,upG,if_pos rfl]

theorem back_perm {E1 E2:List Ent} {k:Lq} (h0:hasK E k=false) (h1:E1.Perm (upE E k bs)) (h2:E2.Perm (dlE E1 k)):hasK E1 k=true∧E2.Perm E:=by
  have hno:∀e∈E,(e.1 == k)=false:=fun e he=>by
    unfold hasK at h0;rw [List.any_eq_false] at h0;simpa using h0 e he
  have hf:E.filter (fun e=>!(e.1 == k))=E:=List.filter_eq_self.2 fun e he=>by rw [hno e he];rfl
  constructor
  · rw [hasK_perm h1]
    simp [hasK,upE]
  · refine h2.trans ?_
    have h3:(dlE E1 k).Perm (dlE (upE E k bs) k):=h1.filter _;refine h3.trans ?_;rw [upE,hf,dlE,List.filter_cons_of_neg (by simp),hf]
end

end Go.Proofs.YtdjpigfibafokaaGreatDoor

namespace Go.Proofs.YtdjpigfibafokaaGreatDoor
variable {D bs xs zs:Lq}
variable {E:List Ent}
variable {T0:Tre}
variable {W w w':World}
variable {base c fuel g i n:Nat}
variable {v:Value}
set_option maxHeartbeats 16000000
set_option maxRecDepth 20000
open Go.RowKit

def AcAt15 (w:World) (v:Value) (l:List A15):Prop:=
  ∃a cap,v=.slice a l.length cap∧(0<l.length→∃g off,a=some ⟨g,off,none⟩∧∀i,i<l.length→w.rangeAt g (off+i * 6) (l.getD i ⟨0,empS,.slice none 0 0,[],.slice none 0 0,[],.slice none 0 0,[],0⟩).cells)∧∀x∈l,A15Ok w x
def a15o:A15:=⟨0,empS,.slice none 0 0,[],.slice none 0 0,[],.slice none 0 0,[],0⟩
theorem AcAt15.at {a:Option Addr} {l:List A15} (h:AcAt15 w (.slice a n c) l) (hn:n=l.length) {i:Nat} (hi:i<n):∃g off,a=some ⟨g,off,none⟩∧(∀w',Kb w w'→w'.rangeAt g (off+i * 6) (l.getD i a15o).cells)∧A15Ok w (l.getD i a15o):=by
  obtain ⟨a',c',e,h1,h2⟩:=h;injection e with e1 e2 e3;obtain ⟨g,off,q1,q2⟩:=h1 (by omega);refine ⟨g,off,by rw [e1,q1],fun w' hb=>rng_grow (q2 i (by omega)) hb,h2 _ ?_⟩;rw [List.getD_eq_getElem?_getD,List.getElem?_eq_getElem (by omega)];exact List.getElem_mem _

theorem str_ne (a b:ByteArray):(a.data.toList=b.data.toList)↔a=b:=by
  constructor
  · intro h
    obtain ⟨a⟩:=a;obtain ⟨b⟩:=b;have:a=b:=Array.ext' h;rw [this]
  · rintro rfl;rfl

theorem harr_eq15 (xs ys:Lq) (hx:xs.length=32) (hy:ys.length=32) (w:World):(Op.equalIn 10000 36 (.agg (B xs)) (.agg (B ys))).run Tryz.prog w=.ok (decide (xs=ys)) w:=hash_eq xs ys hx hy w
theorem reads_cut15 {a:Option Addr} (h:Reads w (.slice a zs.length c) zs) (hn:n≤zs.length):Reads w (.slice a n c) (zs.take n):=by
  obtain ⟨a',c',e,h1,h2,h3,h4⟩:=h;injection e with e1 _ e3;subst e1 e3;have hl:(zs.take n).length=n:=by rw [List.length_take];omega
  refine ⟨a,c,by rw [hl],by rw [hl];omega,h2,h3.take n,fun hp=>?_⟩;rw [hl] at hp;obtain ⟨g,o,q1,q2⟩:=h4 (by omega);refine ⟨g,o,q1,fun i hi=>?_⟩;rw [hl] at hi;have:=q2 i (by omega);rw [this];simp [List.getD,hi]
theorem reads_path15 {t:TypeId} (h:Blk w g t (B xs)) (hk:Key xs):Reads w (.slice (some ⟨g,0,none⟩) 32 32) xs:=by
  refine ⟨_,32,by rw [hk.1],by rw [hk.1];omega,(fun e=>by cases e),hk.2,fun _=>⟨g,0,rfl,fun i hi=>?_⟩⟩;rw [Nat.zero_add,h.cell];simp [B,List.getD,hi]
theorem bkeep {Y:List Nat} {t:TypeId} {cs:Array Value} (h:Blk w g t cs) (k:Keep Y w w') (hg:g∈Y):Blk w' g t cs:=h.of_block (k g hg)

set_option maxRecDepth 100000 in
theorem dictBack_walk (sv mv vv:Value) (sl ml:List A15) (key bs:Lq) (w:World) (hs:AcAt15 w sv sl) (hm:AcAt15 w mv ml) (hkey:Key key) (hv:Reads w vv bs) (hsl:sl.length≤140737488355328) (hml:ml.length≤140737488355328) (hL:Laid w):
    Kc 5 #[sv,.agg (B key),vv,mv] w fun e w'=>e=.returned (.bool true)∧Kb w w':=by
  obtain ⟨sa,sc,rfl⟩:∃a c,sv=.slice a sl.length c:=by obtain ⟨a,c,e,_⟩:=hs;exact ⟨a,c,e⟩
  obtain ⟨ma,mc,rfl⟩:∃a c,mv=.slice a ml.length c:=by obtain ⟨a,c,e,_⟩:=hm;exact ⟨a,c,e⟩
  obtain ⟨va,vc,hvv⟩:=reads_len hv;obtain ⟨n,hn⟩:∃n,n=sl.length:=⟨_,rfl⟩;obtain ⟨m,hmn⟩:∃m,m=ml.length:=⟨_,rfl⟩;have HSI:Hid (∀i,i<n→∃g off,sa=some ⟨g,off,none⟩∧(∀w',Kb w w'→w'.rangeAt g (off+i * 6) (sl.getD i a15o).cells)∧A15Ok w (sl.getD i a15o)):=fun i hi=>hs.at rfl (by omega)
  have HMI:Hid (∀i,i<m→∃g off,ma=some ⟨g,off,none⟩∧(∀w',Kb w w'→w'.rangeAt g (off+i * 6) (ml.getD i a15o).cells)∧A15Ok w (ml.getD i a15o)):=fun i hi=>hm.at rfl (by omega)
  have HL:Hid (∀z,Kb w z→Laid z):=fun z hz=>hL.grow hz
  have HSk:=hidden (sz_path3 key hkey.1);have HKey:=hidden hkey;have HK32:Hid (key.length=32):=hkey.1;have hn':n≤140737488355328:=by omega
  have hm':m≤140737488355328:=by omega
  have HQE:Hid (∀D:Lq,D.length=32→∀w,(Op.equalIn 10000 36 (.agg (B D)) (.agg (B D))).run Tryz.prog w=.ok true w):=fun D h w=>by
    have:=harr_eq15 D D h h w;simpa using this
  -- the value, cut
  obtain ⟨cl,cb,hcv,hcl⟩:∃(cl:Nat) (cb:Lq),(∀z,Kb w z→Reads z (.slice va cl vc) cb)∧cb.length≤1024∧(1024<bs.length→cl=1024)∧(¬1024<bs.length→cl=bs.length):=by
    by_cases h:1024<bs.length
    · exact ⟨1024,bs.take 1024,fun z hz=>reads_cut15 (hvv ▸ hv.grow hz) (by omega),by rw [List.length_take];omega,fun _=>rfl,fun q=>absurd h q⟩
    · exact ⟨bs.length,bs,fun z hz=>hvv ▸ hv.grow hz,by omega,fun q=>absurd q h,fun _=>rfl⟩
  have HCV:=hidden hcv;have HCB:Hid (cb.length≤1024):=hcl.1;have hvs:∃g o,1024<bs.length→va=some ⟨g,o,none⟩:=by
    by_cases h:1024<bs.length
    · obtain ⟨a',c',e,_,_,_,h4⟩:=hv
      rw [hvv] at e;injection e with e1 _ _;obtain ⟨g,o,e4,_⟩:=h4 (by omega);exact ⟨g,o,fun _=>e1.trans e4⟩
    · exact ⟨0,0,fun q=>absurd q h⟩
  have hcap:bs.length≤vc:=by
    obtain ⟨a',c',e,h1,_⟩:=hv;rw [hvv] at e;injection e with _ _ e3;omega
  obtain ⟨vg,vo,hvs⟩:=hvs;subst hvv;obtain ⟨bl,hbl⟩:∃bl,bl=bs.length:=⟨_,rfl⟩;rw [← hbl] at hcl hvs hcap ⊢;rw [← hn,← hmn];clear hs hm hv hL hkey hsl hml hn hmn hcv hbl;obtain ⟨_,hcl1,hcl2⟩:=hcl;have hz:((1024:Int)<(bl:Int)∧(0:Int)≤(1024:Int)∧ ¬(vc:Int)<(1024:Int)∧(1024:Int)≤(vc:Int)∧cl=1024∧va=some ⟨vg,vo,none⟩)∨(¬(1024:Int)<(bl:Int)∧cl=bl):=by
    by_cases h24:1024<bl
    · exact .inl ⟨by omega,by omega,by omega,by omega,hcl1 h24,hvs h24⟩
    · exact .inr ⟨by omega,hcl2 h24⟩
  clear hcl1 hcl2 hvs hcap;rcases hz with ⟨z24,kd0,kd1,kd2,rfl,rfl⟩ | ⟨z24,rfl⟩
  all_goals
    go_enter Tryz.func5,Tryz.ntmps5
    go_wp2_with (first
      |((with_reducible refine at_bxd 5 ?_);refine wpList_bx _ rfl _ _ rfl _ rfl ?_;intro x0 g5 hg5 hl5 B5 b5;have K5:=hidden B5.kp;have HW0:=hidden b5;clear hg5 hl5 B5 b5)
      |(go_at_call 8;refine (dnew_ok 60000 _ (by omega) (by omega)).mono ?_;rintro e x1 ⟨X1,d,gv1,b1,g1,gs1,rfl,hD1⟩;have HS1:Hid (Dst x0 x1 d 60000 [] AnyD):=⟨X1,gv1,b1,g1,gs1,[],_,0,.emp,[],[],hD1,fun y hy=>(by cases hy),trivial⟩;clear hD1))
    have HL0:Hid (∀z,Kb x0 z→Laid z):=fun z hz=>HL.out z (grow_trans HW0.out hz)
    have HV0:Hid (∀z,Kb x0 z→Reads z _ cb):=fun z hz=>HCV.out z (grow_trans HW0.out hz)
    go_loopw [11] (fun iv wr=>∃i:Nat,i≤n∧i≤20∧iv=.int .i64 (i:Int)∧Hid (Dst x0 wr d 60000 [] AnyD)) (fun iv _=>n-(intOf iv).toNat)
    case atStart=>exact ⟨0,by omega,by omega,rfl,HS1.out⟩
    case round=>
      obtain ⟨i,hi,hi2,rfl,hst⟩:=hrel
      by_cases hlt:i<n∧i<20
      · have z1:(i:Int)<(n:Int):=by omega
        have z2:(i:Int)<(20:Int):=by omega
        have z0:(0:Int)≤(i:Int):=by omega
        obtain ⟨g,off,rfl,hrg,hok⟩:=HSI.out i hlt.1;have HRG:=hidden (hrg wr (grow_trans HW0.out hst.out.low));have HDo:=hidden (bk_do hst.out (hok.grow HW0.out) HL0.out);clear hrg hok;generalize sl.getD i a15o=x at *
        go_wp2_with (first
          |((with_reducible refine at_ldd 54 53 ?_);refine wpList_ldw _ rfl _ _ rfl g (off+i * 6) rfl x.cells _ HRG.out Tryz.underlying33 rfl size_a15 ?_)
          |(go_at_call 16;refine HDo.out.mono ?_;rintro e y1 ⟨rfl,hq,_⟩;have HQ:=hidden hq;clear hq))
        exact ⟨⟨i+1,by omega,by omega,by go_num,HQ.out⟩,by simp [intOf];omega⟩
      · have hz: ¬(i:Int)<(n:Int)∨((i:Int)<(n:Int)∧ ¬(i:Int)<(20:Int)):=by omega
        clear hlt hi hi2 HS1 HSI;rcases hz with z1 | ⟨z1,z2⟩
        all_goals
          go_wp2_with (first
            |(go_at_call 26;refine (bk_prune hst.out).mono ?_;rintro e x2 ⟨⟨rr,rfl⟩,m0,T0,hn0,hS2⟩;have HS2:=hidden hS2;have HN0:=hidden hn0;clear hS2 hn0)
            |((with_reducible refine at_ldd 63 5 ?_);refine wpList_ld _ rfl _ _ rfl g5 _ rfl (K5.out _ HS2.out.low) _ _ Tryz.underlying63 HSk.out.1 ?_)
            |(go_at_call 27;refine (pbytes_any key _).mono ?_;rintro e x3 ⟨g12,rfl,hg12,B12,b12⟩;have HS3:=hidden (HS2.out.add b12 hg12 B12.lt);have HB12:=hidden B12;clear hg12 B12 b12)
            |(go_at_call 28;refine (bk_get HS3.out (reads_path15 HB12.out HKey.out) HK32.out).mono ?_))
          rintro e x4 ⟨v4,rfl,b4⟩;have HS4:=hidden (HS3.out.grow b4);have HB124:=hidden (HB12.out.grow b4);obtain ⟨D,hD⟩:∃D,D=rt 256 0 T0.ents:=⟨_,rfl⟩;have HDL:Hid (D.length=32):=by show _=_;rw [hD];exact rt_len15 256 0 T0.ents
          have HSD:=hidden (hash_sz15 D HDL.out);have HRo:=hidden (bk_root HS4.out (HL0.out _ HS4.out.low));rw [← hD] at HRo;have HDD:=hidden hD;clear hD b4 HS3 HS2 HB12 hst;cases hi0:hasK T0.ents key with
          | true=>
            clear hi0
            go_wp2_with (first
              |(go_at_call 12;refine HRo.out.mono ?_;rintro e x5 ⟨rfl,b5⟩;have HS5:=hidden (HS4.out.grow b5);have HB125:=hidden (HB124.out.grow b5);clear b5)
              |((with_reducible refine at_ald 16 ?_);refine wpList_al _ rfl _ rfl _ zero_hash ?_;intro x6 g16 hg16 hl16 B16 b16;have HG16:=hidden hg16;have HB16:=hidden B16;have Hb16:=hidden b16;clear hg16 hl16 B16 b16)
              |((with_reducible refine at_st 16 ?_);refine wpList_sto _ rfl _ _ _ rfl g16 _ (B D) rfl rfl HB16.out HSD.out.1 HSD.out.2 (B_one _) ?_;intro x7 B16' r16;have hbw:=below_row Hb16.out r16 HG16.out;have HS7:=hidden (HS5.out.add hbw HG16.out B16'.lt);have HB7:=hidden B16';have HB127:=hidden (HB125.out.grow hbw);clear hbw))
            clear HG16 HB16 Hb16;have HSn:Hid (∃T2,rt 256 0 T2.ents=D∧Dst x0 x7 d 60000 [g16,g12] (FixD m0 T2)):=⟨T0,HDD.out.symm,HS7.out⟩;have HB8:=hidden HB7.out;clear HS7 HB7 HB127 HDD HS5 HS4 HB125 HB124 HRo;obtain ⟨T2,hr2,hs2⟩:=HSn.out;have HSN:=hidden hs2;have HR2:=hidden hr2;obtain ⟨hm16,hnm⟩:=bk_names hs2;have HNm:=hidden hnm;clear hs2 hr2 hnm HSn;obtain ⟨ml0,hml0⟩:∃x,x=m0.length:=⟨_,rfl⟩;rw [← hml0] at HNm hm16
            by_cases h16:ml0=16
            · have z16:((ml0:Int) == 16)=true:=by simp [h16]
              have HFu:=hidden (fun w' (hb:Below _ _ w')=>bk_full (HSN.out.grow hb) (hml0 ▸ h16));clear hm16 hml0
              go_wp2_with (first
                |(go_at_call 22;refine HNm.out.mono ?_;rintro e y1 ⟨na,nc,rfl,b1⟩;have HQ1:=hidden b1;have HSM:=hidden (HSN.out.grow b1);clear b1)
                |(go_at_call 31;refine (HFu.out _ HQ1.out).mono ?_;rintro e y2 ⟨rfl,b2⟩;have HWx:=hidden (grow_trans HW0.out (HSM.out.grow b2).low)))
              go_ret;exact ⟨rfl,HWx.out⟩
            · have z16:((ml0:Int) == 16)=false:=by simp;omega
              have HSnp:=hidden (fun w' (hb:Below _ _ w')=>bk_snap (HSN.out.grow hb) (hml0 ▸ h16) HN0.out);rw [HR2.out] at HSnp;clear hm16 hml0 h16
              go_wp2_with (first
                |(go_at_call 22;refine HNm.out.mono ?_;rintro e y1 ⟨na,nc,rfl,b1⟩;have HQ1:=hidden b1;have HB9:=hidden (HB8.out.grow b1);clear b1)
                |(go_at_call 31;refine (HSnp.out _ HQ1.out).mono ?_;rintro e y2 ⟨rfl,hs2,k2⟩;have HSK:=hidden hs2;have HBK:=hidden (bkeep HB9.out k2 (by simp));clear hs2 k2))
              clear HSnp HB9 HQ1 HNm HSN HB8
              go_loopw [24] (fun iv wr=>∃i:Nat,i≤m∧i≤20∧iv=.int .i64 (i:Int)∧Hid (Dst x0 wr d 60000 [g16,g12] (KptD D))∧Hid (Blk wr g16 36 (B D))) (fun iv _=>m-(intOf iv).toNat)
              case atStart=>exact ⟨0,by omega,by omega,rfl,HSK.out,HBK.out⟩
              case round=>
                obtain ⟨i,hi,hi2,rfl,hst,hbk⟩:=hrel
                by_cases hlt:i<m∧i<20
                · have z1:(i:Int)<(m:Int):=by omega
                  have z2:(i:Int)<(20:Int):=by omega
                  have z0:(0:Int)≤(i:Int):=by omega
                  obtain ⟨g,off,rfl,hrg,hok⟩:=HMI.out i hlt.1;have HRG:=hidden (hrg wr (grow_trans HW0.out hst.out.low));have HOK:=hidden (hok.grow HW0.out);clear hrg hok;generalize ml.getD i a15o=x at *;have cst:wr.cell? ⟨g,off+i * 6+1,none⟩=some (.string x.s):=HRG.out 1 _ rfl
                  by_cases hks:x.s=kptS
                  · have zks:(!(x.s.toList == [107,101,112,116,45,97,115,45,105,116,45,115,116,111,111,100]))=false:=by
                      rw [ByteArray.toList_eq,hks];decide+kernel
                    clear hks;go_wp2
                    exact ⟨⟨i+1,by omega,by omega,by go_num,hst.out,hbk.out⟩,by simp [intOf];omega⟩
                  · have zks:(x.s.toList == [107,101,112,116,45,97,115,45,105,116,45,115,116,111,111,100])=false:=by
                      rw [ByteArray.toList_eq,Bool.eq_false_iff];intro e;exact hks ((str_ne _ _).1 (by simpa [kptS] using e))
                    have HDo:=hidden (bk_oth hst.out HOK.out (fun e=>hks ((str_ne _ _).1 e)) HL0.out)
                    go_wp2_with (first
                      |((with_reducible refine at_ldd 162 161 ?_);refine wpList_ldw _ rfl _ _ rfl g (off+i * 6) rfl x.cells _ HRG.out Tryz.underlying33 rfl size_a15 ?_)
                      |(go_at_call 16;refine HDo.out.mono ?_;rintro e y3 ⟨rfl,hq,kq⟩;have HQ:=hidden hq;have HBQ:=hidden (bkeep hbk.out kq (by simp));clear hq kq))
                    exact ⟨⟨i+1,by omega,by omega,by go_num,HQ.out,HBQ.out⟩,by simp [intOf];omega⟩
                · have hz: ¬(i:Int)<(m:Int)∨((i:Int)<(m:Int)∧ ¬(i:Int)<(20:Int)):=by omega
                  clear hlt hi hi2 HSK HBK HMI;have hqe:=HQE.out D HDL.out;rcases hz with z1 | ⟨z1,z2⟩
                  all_goals
                    go_wp2_with (first
                      |(go_at_call 12;have mk:=mk_one;clear mk;refine (bk_rootC HS6.out (HL0.out _ HS6.out.low)).mono ?_;rintro e y7 ⟨rfl,b7⟩;have HS7:=hidden (HS6.out.grow b7);have HB167:=hidden (HB166.out.grow b7);have HB257:=hidden (HB256.out.grow b7);clear b7)
                      |(go_at_call 12;refine (bk_rootK hst.out (HL0.out _ hst.out.low)).mono ?_;rintro e y3 ⟨rfl,b3⟩;have HS3:=hidden (hst.out.grow b3);have HB163:=hidden (hbk.out.grow b3);have mk_one:Hid True:=trivial;clear b3)
                      |((with_reducible refine at_ald 25 ?_);refine wpList_al _ rfl _ rfl _ zero_hash ?_;intro y4 g25 hg25 hl25 B25 b25)
                      |((with_reducible refine at_st 25 ?_);refine wpList_sto _ rfl _ _ _ rfl g25 _ (B D) rfl rfl B25 HSD.out.1 HSD.out.2 (B_one _) ?_;intro y5 B25' r25;have hbw:=below_row b25 r25 hg25;have HS5:=hidden (HS3.out.add hbw hg25 B25'.lt);have HB165:=hidden (HB163.out.grow hbw);have HB255:=hidden B25';clear hbw b25 r25 hg25 B25 B25' hl25)
                      |(go_at_call 32;refine (bk_roll HS5.out).mono ?_;rintro e y6 ⟨rfl,hs6,k6⟩;have HS6:=hidden hs6;have HB166:=hidden (bkeep HB165.out k6 (by simp));have HB256:=hidden (bkeep HB255.out k6 (by simp));clear hs6 k6)
                      |((with_reducible refine at_ald 28 ?_);refine wpList_al _ rfl _ rfl _ zero_hash ?_;intro y8 g28 hg28 hl28 B28 b28)
                      |((with_reducible refine at_st 28 ?_);refine wpList_sto _ rfl _ _ _ rfl g28 _ (B D) rfl rfl B28 HSD.out.1 HSD.out.2 (B_one _) ?_;intro y9 B28' r28;have hbw:=below_row b28 r28 hg28;have HWx:=hidden (grow_trans HW0.out (HS7.out.grow hbw).low);have HB169:=hidden (HB167.out.grow hbw);have HB259:=hidden (HB257.out.grow hbw);have HB289:=hidden B28';clear hbw b28 r28 hg28 B28 B28' hl28)
                      |((with_reducible refine at_ldd 187 25 ?_);refine wpList_ldg _ rfl _ _ rfl g25 _ rfl HB259.out _ _ Tryz.underlying36 HSD.out.1 ?_)
                      |((with_reducible refine at_ldd 188 16 ?_);refine wpList_ldg _ rfl _ _ rfl g16 _ rfl HB169.out _ _ Tryz.underlying36 HSD.out.1 ?_)
                      |((with_reducible refine at_ldd 192 28 ?_);refine wpList_ldg _ rfl _ _ rfl g28 _ rfl HB289.out _ _ Tryz.underlying36 HSD.out.1 ?_)
                      |((with_reducible refine at_ldd 193 16 ?_);refine wpList_ldg _ rfl _ _ rfl g16 _ rfl HB169.out _ _ Tryz.underlying36 HSD.out.1 ?_))
                    go_ret;exact ⟨rfl,HWx.out⟩
          | false=>
            have HI0:=hidden hi0;clear hi0
            go_wp2_with (first
              |(go_at_call 12;refine HRo.out.mono ?_;rintro e x5 ⟨rfl,b5⟩;have HS5:=hidden (HS4.out.grow b5);have HB125:=hidden (HB124.out.grow b5);clear b5)
              |((with_reducible refine at_ald 16 ?_);refine wpList_al _ rfl _ rfl _ zero_hash ?_;intro x6 g16 hg16 hl16 B16 b16;have HG16:=hidden hg16;have HB16:=hidden B16;have Hb16:=hidden b16;clear hg16 hl16 B16 b16)
              |((with_reducible refine at_st 16 ?_);refine wpList_sto _ rfl _ _ _ rfl g16 _ (B D) rfl rfl HB16.out HSD.out.1 HSD.out.2 (B_one _) ?_;intro x7 B16' r16;have hbw:=below_row Hb16.out r16 HG16.out;have HS7:=hidden (HS5.out.add hbw HG16.out B16'.lt);have HB7:=hidden B16';have HB127:=hidden (HB125.out.grow hbw);clear hbw))
            clear HG16 HB16 Hb16;clear HS5 HS4 HB125 HB124 HRo
            go_wp2_with (go_at_call 29;refine (bk_put HS7.out (reads_path15 HB127.out HKey.out) HK32.out HCB.out HV0.out HL0.out).mono ?_)
            rintro e x8 (⟨rfl,b8⟩ | ⟨rfl,T1,hp1,hS8,k8⟩)
            · have HWx:=hidden (grow_trans HW0.out (HS7.out.grow b8).low)
              go_wp2
              go_ret;exact ⟨rfl,HWx.out⟩
            · have HS8:=hidden hS8
              have HP1:=hidden hp1;have HB128:=hidden (bkeep HB127.out k8 (by simp));have HB168:=hidden (bkeep HB7.out k8 (by simp));clear hS8 hp1 k8 HS7 HB7 HB127
              go_wp2_with (go_at_call 30;refine (bk_del HS8.out (reads_path15 HB128.out HKey.out) HK32.out HL0.out).mono ?_)
              rintro e x9 (⟨rfl,hS9,k9⟩ | ⟨rfl,T2,hp2,hS9,k9⟩)
              · have HS9:=hidden hS9
                clear hS9 k9;have HSD2:=hidden (hash_sz15 _ (rt_len15 256 0 T1.ents))
                go_wp2_with (first
                  |(go_at_call 12;refine (bk_root HS9.out (HL0.out _ HS9.out.low)).mono ?_;rintro e x10 ⟨rfl,b10⟩;have HS10:=hidden (HS9.out.grow b10);clear b10)
                  |((with_reducible refine at_ald 21 ?_);refine wpList_al _ rfl _ rfl _ zero_hash ?_;intro x11 g21 hg21 hl21 B21 b21)
                  |((with_reducible refine at_st 21 ?_);refine wpList_sto _ rfl _ _ _ rfl g21 _ (B (rt 256 0 T1.ents)) rfl rfl B21 HSD2.out.1 HSD2.out.2 (B_one _) ?_;intro x12 B21' r21;have HWx:=hidden (grow_trans HW0.out (HS10.out.grow (below_row b21 r21 hg21)).low)))
                go_ret;exact ⟨rfl,HWx.out⟩
              · obtain ⟨hk1,hpp⟩:=back_perm HI0.out HP1.out hp2
                have hrt:rt 256 0 T2.ents=D:=(rt_perm _ _ _ _ hpp).trans HDD.out.symm;have HS9:=hidden hS9;have HB169:=hidden (bkeep HB168.out k9 (by simp));have HRt:=hidden hrt;have hqe:=HQE.out D HDL.out;rw [hk1];clear hS9 k9 hp2 hpp hk1 hrt HS8 HB168 HB128 HP1
                go_wp2_with (first
                  |(go_at_call 12;refine (bk_root HS9.out (HL0.out _ HS9.out.low)).mono ?_;rintro e x10 ⟨rfl,b10⟩;rw [HRt.out];have HS10:=hidden (HS9.out.grow b10);have HB1610:=hidden (HB169.out.grow b10);clear b10)
                  |((with_reducible refine at_ald 21 ?_);refine wpList_al _ rfl _ rfl _ zero_hash ?_;intro x11 g21 hg21 hl21 B21 b21)
                  |((with_reducible refine at_st 21 ?_);refine wpList_sto _ rfl _ _ _ rfl g21 _ (B D) rfl rfl B21 HSD.out.1 HSD.out.2 (B_one _) ?_;intro x12 B21' r21;have hbw:=below_row b21 r21 hg21;have HS12:=hidden (HS10.out.grow hbw);have HB12x:=hidden (HB1610.out.grow hbw);have HB21x:=hidden B21';clear hbw b21 r21 hg21 B21 B21' hl21)
                  |((with_reducible refine at_ldd 123 21 ?_);refine wpList_ldg _ rfl _ _ rfl g21 _ rfl HB21x.out _ _ Tryz.underlying36 HSD.out.1 ?_)
                  |((with_reducible refine at_ldd 124 16 ?_);refine wpList_ldg _ rfl _ _ rfl g16 _ rfl HB12x.out _ _ Tryz.underlying36 HSD.out.1 ?_))
                have HSn:Hid (∃T2,rt 256 0 T2.ents=D∧Dst x0 x12 d 60000 [g16,g12] (FixD m0 T2)):=⟨T2,HRt.out,HS12.out⟩;have HB8:=hidden HB12x.out;clear HS12 HB12x HB21x HS10 HB1610 HS9 HB169 HRt HDD HI0;obtain ⟨T2,hr2,hs2⟩:=HSn.out;have HSN:=hidden hs2;have HR2:=hidden hr2;obtain ⟨hm16,hnm⟩:=bk_names hs2;have HNm:=hidden hnm;clear hs2 hr2 hnm HSn;obtain ⟨ml0,hml0⟩:∃x,x=m0.length:=⟨_,rfl⟩;rw [← hml0] at HNm hm16
                by_cases h16:ml0=16
                · have z16:((ml0:Int) == 16)=true:=by simp [h16]
                  have HFu:=hidden (fun w' (hb:Below _ _ w')=>bk_full (HSN.out.grow hb) (hml0 ▸ h16));clear hm16 hml0
                  go_wp2_with (first
                    |(go_at_call 22;refine HNm.out.mono ?_;rintro e y1 ⟨na,nc,rfl,b1⟩;have HQ1:=hidden b1;have HSM:=hidden (HSN.out.grow b1);clear b1)
                    |(go_at_call 31;refine (HFu.out _ HQ1.out).mono ?_;rintro e y2 ⟨rfl,b2⟩;have HWx:=hidden (grow_trans HW0.out (HSM.out.grow b2).low)))
                  go_ret;exact ⟨rfl,HWx.out⟩
                · have z16:((ml0:Int) == 16)=false:=by simp;omega
                  have HSnp:=hidden (fun w' (hb:Below _ _ w')=>bk_snap (HSN.out.grow hb) (hml0 ▸ h16) HN0.out);rw [HR2.out] at HSnp;clear hm16 hml0 h16
                  go_wp2_with (first
                    |(go_at_call 22;refine HNm.out.mono ?_;rintro e y1 ⟨na,nc,rfl,b1⟩;have HQ1:=hidden b1;have HB9:=hidden (HB8.out.grow b1);clear b1)
                    |(go_at_call 31;refine (HSnp.out _ HQ1.out).mono ?_;rintro e y2 ⟨rfl,hs2,k2⟩;have HSK:=hidden hs2;have HBK:=hidden (bkeep HB9.out k2 (by simp));clear hs2 k2))
                  clear HSnp HB9 HQ1 HNm HSN HB8
                  go_loopw [24] (fun iv wr=>∃i:Nat,i≤m∧i≤20∧iv=.int .i64 (i:Int)∧Hid (Dst x0 wr d 60000 [g16,g12] (KptD D))∧Hid (Blk wr g16 36 (B D))) (fun iv _=>m-(intOf iv).toNat)
                  case atStart=>exact ⟨0,by omega,by omega,rfl,HSK.out,HBK.out⟩
                  case round=>
                    obtain ⟨i,hi,hi2,rfl,hst,hbk⟩:=hrel
                    by_cases hlt:i<m∧i<20
                    · have z1:(i:Int)<(m:Int):=by omega
                      have z2:(i:Int)<(20:Int):=by omega
                      have z0:(0:Int)≤(i:Int):=by omega
                      obtain ⟨g,off,rfl,hrg,hok⟩:=HMI.out i hlt.1;have HRG:=hidden (hrg wr (grow_trans HW0.out hst.out.low));have HOK:=hidden (hok.grow HW0.out);clear hrg hok;generalize ml.getD i a15o=x at *;have cst:wr.cell? ⟨g,off+i * 6+1,none⟩=some (.string x.s):=HRG.out 1 _ rfl
                      by_cases hks:x.s=kptS
                      · have zks:(!(x.s.toList == [107,101,112,116,45,97,115,45,105,116,45,115,116,111,111,100]))=false:=by
                          rw [ByteArray.toList_eq,hks];decide+kernel
                        clear hks;go_wp2
                        exact ⟨⟨i+1,by omega,by omega,by go_num,hst.out,hbk.out⟩,by simp [intOf];omega⟩
                      · have zks:(x.s.toList == [107,101,112,116,45,97,115,45,105,116,45,115,116,111,111,100])=false:=by
                          rw [ByteArray.toList_eq,Bool.eq_false_iff];intro e;exact hks ((str_ne _ _).1 (by simpa [kptS] using e))
                        have HDo:=hidden (bk_oth hst.out HOK.out (fun e=>hks ((str_ne _ _).1 e)) HL0.out)
                        go_wp2_with (first
                          |((with_reducible refine at_ldd 162 161 ?_);refine wpList_ldw _ rfl _ _ rfl g (off+i * 6) rfl x.cells _ HRG.out Tryz.underlying33 rfl size_a15 ?_)
                          |(go_at_call 16;refine HDo.out.mono ?_;rintro e y3 ⟨rfl,hq,kq⟩;have HQ:=hidden hq;have HBQ:=hidden (bkeep hbk.out kq (by simp));clear hq kq))
                        exact ⟨⟨i+1,by omega,by omega,by go_num,HQ.out,HBQ.out⟩,by simp [intOf];omega⟩
                    · have hz: ¬(i:Int)<(m:Int)∨((i:Int)<(m:Int)∧ ¬(i:Int)<(20:Int)):=by omega
                      clear hlt hi hi2 HSK HBK HMI;have hqe:=HQE.out D HDL.out;rcases hz with z1 | ⟨z1,z2⟩
                      all_goals
                        go_wp2_with (first
                          |(go_at_call 12;have mk:=mk_one;clear mk;refine (bk_rootC HS6.out (HL0.out _ HS6.out.low)).mono ?_;rintro e y7 ⟨rfl,b7⟩;have HS7:=hidden (HS6.out.grow b7);have HB167:=hidden (HB166.out.grow b7);have HB257:=hidden (HB256.out.grow b7);clear b7)
                          |(go_at_call 12;refine (bk_rootK hst.out (HL0.out _ hst.out.low)).mono ?_;rintro e y3 ⟨rfl,b3⟩;have HS3:=hidden (hst.out.grow b3);have HB163:=hidden (hbk.out.grow b3);have mk_one:Hid True:=trivial;clear b3)
                          |((with_reducible refine at_ald 25 ?_);refine wpList_al _ rfl _ rfl _ zero_hash ?_;intro y4 g25 hg25 hl25 B25 b25)
                          |((with_reducible refine at_st 25 ?_);refine wpList_sto _ rfl _ _ _ rfl g25 _ (B D) rfl rfl B25 HSD.out.1 HSD.out.2 (B_one _) ?_;intro y5 B25' r25;have hbw:=below_row b25 r25 hg25;have HS5:=hidden (HS3.out.add hbw hg25 B25'.lt);have HB165:=hidden (HB163.out.grow hbw);have HB255:=hidden B25';clear hbw b25 r25 hg25 B25 B25' hl25)
                          |(go_at_call 32;refine (bk_roll HS5.out).mono ?_;rintro e y6 ⟨rfl,hs6,k6⟩;have HS6:=hidden hs6;have HB166:=hidden (bkeep HB165.out k6 (by simp));have HB256:=hidden (bkeep HB255.out k6 (by simp));clear hs6 k6)
                          |((with_reducible refine at_ald 28 ?_);refine wpList_al _ rfl _ rfl _ zero_hash ?_;intro y8 g28 hg28 hl28 B28 b28)
                          |((with_reducible refine at_st 28 ?_);refine wpList_sto _ rfl _ _ _ rfl g28 _ (B D) rfl rfl B28 HSD.out.1 HSD.out.2 (B_one _) ?_;intro y9 B28' r28;have hbw:=below_row b28 r28 hg28;have HWx:=hidden (grow_trans HW0.out (HS7.out.grow hbw).low);have HB169:=hidden (HB167.out.grow hbw);have HB259:=hidden (HB257.out.grow hbw);have HB289:=hidden B28';clear hbw b28 r28 hg28 B28 B28' hl28)
                          |((with_reducible refine at_ldd 187 25 ?_);refine wpList_ldg _ rfl _ _ rfl g25 _ rfl HB259.out _ _ Tryz.underlying36 HSD.out.1 ?_)
                          |((with_reducible refine at_ldd 188 16 ?_);refine wpList_ldg _ rfl _ _ rfl g16 _ rfl HB169.out _ _ Tryz.underlying36 HSD.out.1 ?_)
                          |((with_reducible refine at_ldd 192 28 ?_);refine wpList_ldg _ rfl _ _ rfl g28 _ rfl HB289.out _ _ Tryz.underlying36 HSD.out.1 ?_)
                          |((with_reducible refine at_ldd 193 16 ?_);refine wpList_ldg _ rfl _ _ rfl g16 _ rfl HB169.out _ _ Tryz.underlying36 HSD.out.1 ?_))
                        go_ret;exact ⟨rfl,HWx.out⟩

end Go.Proofs.YtdjpigfibafokaaGreatDoor

namespace Go.Proofs.YtdjpigfibafokaaGreatDoor
variable {D bs xs zs:Lq}
variable {E:List Ent}
variable {T0:Tre}
variable {W w w':World}
variable {base c fuel g i n:Nat}
variable {v:Value}
set_option maxHeartbeats 16000000
set_option maxRecDepth 20000
open Go.ChangeShapes Go.WideShapes Go.ChangeAt Go.RowKit

instance:Inhabited A15:=⟨⟨0,empS,.slice none 0 0,[],.slice none 0 0,[],.slice none 0 0,[],0⟩⟩
theorem weights_all15 {H:Type} {P:Program} {e:TypeId} {d:DataW H} {n:Nat} (hn:n∈d.weights P e):∀l:List (DataW H),d∈l→n∈DataW.weightsAll P e l
  | [],h=>by simp at h
  | x::r,h=>by
    simp only [DataW.weightsAll,List.mem_append];rcases List.mem_cons.1 h with rfl | h
    · exact .inl hn
    · exact .inr (weights_all15 hn r h)
theorem cells_rw15:Tryz.prog.cellsOf 163=3:=by kernel_rfl
theorem cells_sl15:Tryz.prog.cellsOf 30=1:=by kernel_rfl
theorem cells_bo15:Tryz.prog.cellsOf 4=1:=by kernel_rfl
theorem cells_ac15:Tryz.prog.cellsOf 33=6:=by kernel_rfl
theorem cells_in15:Tryz.prog.cellsOf 3=1:=by kernel_rfl
theorem cells_u15:Tryz.prog.cellsOf 5=1:=by kernel_rfl
theorem cells_st15:Tryz.prog.cellsOf 9=1:=by kernel_rfl
theorem cells_rs15:Tryz.prog.cellsOf 31=1:=by kernel_rfl
theorem bytesOf_rw15:Tryz.prog.bytesOf 163=56:=by kernel_rfl
theorem bytesOf_ac15:Tryz.prog.bytesOf 33=104:=by kernel_rfl
theorem one_ofA (cs:List Value) (i:Nat) (h:i<cs.length):∃u,(cs.drop i).take 1=[u]∧cs[i]?=some u:=by
  refine ⟨cs[i],?_,List.getElem?_eq_getElem h⟩;rw [List.drop_eq_getElem_cons h];rfl
theorem drop_ofA {cs:List Value} {u:Value} (h:cs[i]?=some u):cs.drop i=u::cs.drop (i+1):=by
  obtain ⟨h1,h2⟩:=List.getElem?_eq_some_iff.1 h;rw [List.drop_eq_getElem_cons h1,h2]

theorem trod_rw15 {H:Type} {enc:TypeId×Value→H} {cs:List Value} {x:DataW H×List MemPlace} (h:DataW.trod enc Tryz.prog W 0 (fun _=>true) true fuel 163 cs=some x) (hw:∀m∈x.1.weights Tryz.prog 163,m≤reachBytes):∃q:Rw,cs=q.cells∧Reads W q.kv q.k∧Reads W q.v q.b:=by
  have hF:∃f0 f1 f2:Field,Tryz.prog.underlying 163=some (.struct #[f0,f1,f2])∧(f0.type=30∧f0.offset=0)∧(f1.type=4∧f1.offset=1)∧(f2.type=30∧f2.offset=2):=⟨_,_,_,Tryz.underlying163,⟨rfl,rfl⟩,⟨rfl,rfl⟩,⟨rfl,rfl⟩⟩;obtain ⟨f0,f1,f2,hu,⟨t0,o0⟩,⟨t1,o1⟩,⟨t2,o2⟩⟩:=hF;obtain ⟨xs,n,hk,hxy,hl,hxl,hf⟩:=DataW.trod_struct hu h;rw [cells_rw15] at hl
  match xs,hxl with
  | [y0,y1,y2],_=>
    have g0:DataW.trod enc Tryz.prog W 0 (fun _=>true) true n f0.type ((cs.drop f0.offset).take (Tryz.prog.cellsOf f0.type))=some y0:=hf 0 f0 rfl;have g1:DataW.trod enc Tryz.prog W 0 (fun _=>true) true n f1.type ((cs.drop f1.offset).take (Tryz.prog.cellsOf f1.type))=some y1:=hf 1 f1 rfl;have g2:DataW.trod enc Tryz.prog W 0 (fun _=>true) true n f2.type ((cs.drop f2.offset).take (Tryz.prog.cellsOf f2.type))=some y2:=hf 2 f2 rfl;rw [t0,o0,cells_sl15] at g0;rw [t1,o1,cells_bo15] at g1;rw [t2,o2,cells_sl15] at g2;obtain ⟨u0,a0,b0⟩:=one_ofA cs 0 (by omega);obtain ⟨u1,a1,b1⟩:=one_ofA cs 1 (by omega);obtain ⟨u2,a2,b2⟩:=one_ofA cs 2 (by omega);rw [a0] at g0;rw [a1] at g1;rw [a2] at g2;have hsz2:(DataW.weightsEach Tryz.prog [30,4,30] [y0.1,y1.1,y2.1]).all (· ≤reachBytes)=true:=by
      rw [List.all_eq_true];intro m hm;rw [decide_eq_true_iff];refine hw m ?_;rw [hxy];simp only [DataW.weights,hu];rw [show (#[f0,f1,f2]:Array Field).toList.map (·.type)=[30,4,30] by simp [t0,t1,t2]];exact hm
    obtain ⟨ks,r0,_⟩:=trod_sized (d:=y0.1) (p:=y0.2) g0 hsz2 0 rfl rfl;obtain ⟨bs,r2,_⟩:=trod_sized (d:=y2.1) (p:=y2.2) g2 hsz2 2 rfl rfl;obtain ⟨gn,e1,_⟩:=DataW.trod_bool Tryz.underlying4 g1;simp only [List.cons.injEq,and_true] at e1;subst e1;refine ⟨⟨u0,ks,gn,bs,u2⟩,?_,r0,r2⟩;show cs=_;have d0:=drop_ofA b0;rw [List.drop_zero] at d0;rw [d0,drop_ofA b1,drop_ofA b2,List.drop_eq_nil_of_le (by omega)];rfl

theorem trod_rws15 {H:Type} {enc:TypeId×Value→H} {d:DataW H} {p:List MemPlace} (hf:DataW.trod enc Tryz.prog W 0 (fun _=>true) true fuel 31 [v]=some (d,p)) {ts:List TypeId} {ds:List (DataW H)} (hsz:(DataW.weightsEach Tryz.prog ts ds).all (· ≤reachBytes)=true) (j:Nat) (ht:ts[j]?=some 31) (hd:ds[j]?=some d):∃l:List Rw,RwAt W v l∧l.length≤140737488355328:=by
  rcases Go.Deep.open_slice Tryz.underlying31 hf with ⟨hcs,hx⟩ | ⟨x,l,c,m,n,D,Pl,hcs,_,hl,hm,hmm,hx,hcell⟩
  · simp at hcs
    subst hcs;exact ⟨[],⟨none,0,rfl,by simp,fun h=>by simp at h,fun i hi=>by simp at hi⟩,by simp⟩
  · simp at hcs
    subst hcs;simp at hmm;simp only [Prod.mk.injEq] at hx;have hs:=sized_slice hsz ht (by rw [hd,hx.1]) Tryz.underlying31;rw [bytesOf_rw15] at hs;simp only [List.length_map,List.length_range,reachBytes] at hs;have hwt:∀i,i<l→∀q∈(D i).weights Tryz.prog 163,q≤reachBytes:=by
      intro i hi q hq;have h1:=List.all_eq_true.1 hsz q (DataW.weights_mem_each ht hd q (by
        rw [hx.1];simp only [DataW.weights,Tryz.underlying31,List.mem_cons,List.mem_append];exact .inr (.inl (weights_all15 hq _ (List.mem_map.2 ⟨i,List.mem_range.2 hi,rfl⟩)))))
      simpa using h1
    have each:∀i,i<l→∃q:Rw,(∀k u,(q.cells)[k]?=some u→W.cell? (x.add (i * 3+k))=some u)∧Reads W q.kv q.k∧Reads W q.v q.b:=by
      intro i hi;obtain ⟨cs',h1,h2⟩:=hcell i (by omega);rw [cells_rw15] at h1;obtain ⟨_,hlen,hc⟩:=World.cells?_some h1;obtain ⟨q,rfl,hk⟩:=trod_rw15 h2 (hwt i hi);refine ⟨q,fun k w hw=>?_,hk⟩;have hk3:k<3:=by rw [← hlen];exact (List.getElem?_eq_some_iff.1 hw).1
      have h3:=hc k hk3;rw [Go.Deep.add_add] at h3;rw [h3];exact hw
    obtain ⟨q,hq⟩:=Go.Deep.choose_lt each;refine ⟨(List.range l).map q,⟨some x,c,by simp,by simp;omega,fun hp=>?_,fun y hy=>?_⟩,by simp;omega⟩
    · simp only [List.length_map,List.length_range] at hp
      obtain ⟨b,off,spot⟩:=x;have hspot:spot=none:=by
        have:=World.cell?_spot ((hq 0 hp).1 0 _ rfl);simpa [Addr.add] using this
      subst hspot;refine ⟨b,off,rfl,fun i hi k u hu=>?_⟩;simp only [List.length_map,List.length_range] at hi;rw [getElem!_pos _ i (by simpa using hi)] at hu;simp only [List.getElem_map,List.getElem_range] at hu;have:=(hq i hi).1 k u hu;rw [Addr.add_lit] at this;rw [Nat.add_assoc];exact this
    · obtain ⟨i,hi,rfl⟩:=List.mem_map.1 hy
      exact (hq i (List.mem_range.1 hi)).2

theorem trod_ac15 {H:Type} {enc:TypeId×Value→H} {cs:List Value} {x:DataW H×List MemPlace} (h:DataW.trod enc Tryz.prog W 0 (fun _=>true) true fuel 33 cs=some x) (hw:∀m∈x.1.weights Tryz.prog 33,m≤reachBytes):∃q:A15,cs=q.cells∧A15Ok W q:=by
  have hF:∃f0 f1 f2 f3 f4 f5:Field,Tryz.prog.underlying 33=some (.struct #[f0,f1,f2,f3,f4,f5])∧(f0.type=5∧f0.offset=0)∧(f1.type=9∧f1.offset=1)∧(f2.type=30∧f2.offset=2)∧(f3.type=30∧f3.offset=3)∧(f4.type=31∧f4.offset=4)∧(f5.type=3∧f5.offset=5):=⟨_,_,_,_,_,_,Tryz.underlying33,⟨rfl,rfl⟩,⟨rfl,rfl⟩,⟨rfl,rfl⟩,⟨rfl,rfl⟩,⟨rfl,rfl⟩,⟨rfl,rfl⟩⟩;obtain ⟨f0,f1,f2,f3,f4,f5,hu,⟨t0,o0⟩,⟨t1,o1⟩,⟨t2,o2⟩,⟨t3,o3⟩,⟨t4,o4⟩,⟨t5,o5⟩⟩:=hF;obtain ⟨xs,n,hk,hxy,hl,hxl,hf⟩:=DataW.trod_struct hu h;rw [cells_ac15] at hl
  match xs,hxl with
  | [y0,y1,y2,y3,y4,y5],_=>
    have g0:DataW.trod enc Tryz.prog W 0 (fun _=>true) true n f0.type ((cs.drop f0.offset).take (Tryz.prog.cellsOf f0.type))=some y0:=hf 0 f0 rfl;have g1:DataW.trod enc Tryz.prog W 0 (fun _=>true) true n f1.type ((cs.drop f1.offset).take (Tryz.prog.cellsOf f1.type))=some y1:=hf 1 f1 rfl;have g2:DataW.trod enc Tryz.prog W 0 (fun _=>true) true n f2.type ((cs.drop f2.offset).take (Tryz.prog.cellsOf f2.type))=some y2:=hf 2 f2 rfl;have g3:DataW.trod enc Tryz.prog W 0 (fun _=>true) true n f3.type ((cs.drop f3.offset).take (Tryz.prog.cellsOf f3.type))=some y3:=hf 3 f3 rfl;have g4:DataW.trod enc Tryz.prog W 0 (fun _=>true) true n f4.type ((cs.drop f4.offset).take (Tryz.prog.cellsOf f4.type))=some y4:=hf 4 f4 rfl;have g5:DataW.trod enc Tryz.prog W 0 (fun _=>true) true n f5.type ((cs.drop f5.offset).take (Tryz.prog.cellsOf f5.type))=some y5:=hf 5 f5 rfl;rw [t0,o0,cells_u15] at g0;rw [t1,o1,cells_st15] at g1;rw [t2,o2,cells_sl15] at g2;rw [t3,o3,cells_sl15] at g3;rw [t4,o4,cells_rs15] at g4;rw [t5,o5,cells_in15] at g5;obtain ⟨u0,a0,b0⟩:=one_ofA cs 0 (by omega);obtain ⟨u1,a1,b1⟩:=one_ofA cs 1 (by omega);obtain ⟨u2,a2,b2⟩:=one_ofA cs 2 (by omega);obtain ⟨u3,a3,b3⟩:=one_ofA cs 3 (by omega);obtain ⟨u4,a4,b4⟩:=one_ofA cs 4 (by omega);obtain ⟨u5,a5,b5⟩:=one_ofA cs 5 (by omega);rw [a0] at g0;rw [a1] at g1;rw [a2] at g2;rw [a3] at g3;rw [a4] at g4;rw [a5] at g5;have hsz2:(DataW.weightsEach Tryz.prog [5,9,30,30,31,3] [y0.1,y1.1,y2.1,y3.1,y4.1,y5.1]).all (· ≤reachBytes)=true:=by
      rw [List.all_eq_true];intro m hm;rw [decide_eq_true_iff];refine hw m ?_;rw [hxy];simp only [DataW.weights,hu];rw [show (#[f0,f1,f2,f3,f4,f5]:Array Field).toList.map (·.type)=[5,9,30,30,31,3] by simp [t0,t1,t2,t3,t4,t5]];exact hm
    obtain ⟨k0,e0,_⟩:=DataW.trod_int Tryz.underlying5 g0;obtain ⟨s,e1,_,hs⟩:=DataW.trod_string Tryz.underlying9 g1;obtain ⟨ks,r2,_⟩:=trod_sized (d:=y2.1) (p:=y2.2) g2 hsz2 2 rfl rfl;obtain ⟨bs,r3,_⟩:=trod_sized (d:=y3.1) (p:=y3.2) g3 hsz2 3 rfl rfl;obtain ⟨l,r4,r5⟩:=trod_rws15 (d:=y4.1) (p:=y4.2) g4 hsz2 4 rfl rfl;obtain ⟨k5,e5,_⟩:=DataW.trod_int Tryz.underlying3 g5;simp only [List.cons.injEq,and_true] at e0 e1 e5;subst e0 e1 e5;refine ⟨⟨k0,s,u2,ks,u3,bs,u4,l,k5⟩,?_,⟨hs,r2,r3,r4,r5⟩⟩;show cs=_;have d0:=drop_ofA b0;rw [List.drop_zero] at d0;rw [d0,drop_ofA b1,drop_ofA b2,drop_ofA b3,drop_ofA b4,drop_ofA b5,List.drop_eq_nil_of_le (by omega)];rfl

theorem arg_acts15 {H:Type} {enc:TypeId×Value→H} {d:DataW H} {p:List MemPlace} (hv:Value.okWide Tryz.prog W .any base 22 v) (h:DataW.Trod enc Tryz.prog W 0 (fun _=>true) true 22 v d p) {ts:List TypeId} {ds:List (DataW H)} (hsz:(DataW.weightsEach Tryz.prog ts ds).all (· ≤reachBytes)=true) (j:Nat) (ht:ts[j]?=some 22) (hd:ds[j]?=some d):∃l:List A15,AcAt15 W v l∧l.length≤140737488355328:=by
  obtain ⟨a,len,cap,rfl⟩:=okWide_slice Tryz.underlying22 hv;obtain ⟨fuel,hf⟩:=h;rcases Go.Deep.open_slice Tryz.underlying22 hf with ⟨hcs,hx⟩ | ⟨x,l,c,m,n,D,Pl,hcs,_,hl,hm,hmm,hx,hcell⟩
  · simp [Value.cells] at hcs
    obtain ⟨rfl,rfl,rfl⟩:=hcs;exact ⟨[],⟨none,0,rfl,fun h=>by simp at h,fun i hi=>by simp at hi⟩,by simp⟩
  · simp [Value.cells] at hcs
    obtain ⟨rfl,rfl,rfl⟩:=hcs;simp at hmm;simp only [Prod.mk.injEq] at hx;have hs:=sized_slice hsz ht (by rw [hd,hx.1]) Tryz.underlying22;rw [bytesOf_ac15] at hs;simp only [List.length_map,List.length_range,reachBytes] at hs;have hwt:∀i,i<len→∀q∈(D i).weights Tryz.prog 33,q≤reachBytes:=by
      intro i hi q hq;have h1:=List.all_eq_true.1 hsz q (DataW.weights_mem_each ht hd q (by
        rw [hx.1];simp only [DataW.weights,Tryz.underlying22,List.mem_cons,List.mem_append];exact .inr (.inl (weights_all15 hq _ (List.mem_map.2 ⟨i,List.mem_range.2 hi,rfl⟩)))))
      simpa using h1
    have each:∀i,i<len→∃q:A15,(∀k u,(q.cells)[k]?=some u→W.cell? (x.add (i * 6+k))=some u)∧A15Ok W q:=by
      intro i hi;obtain ⟨cs',h1,h2⟩:=hcell i (by omega);rw [cells_ac15] at h1;obtain ⟨_,hlen,hc⟩:=World.cells?_some h1;obtain ⟨q,rfl,hk⟩:=trod_ac15 h2 (hwt i hi);refine ⟨q,fun k w hw=>?_,hk⟩;have hk3:k<6:=by rw [← hlen];exact (List.getElem?_eq_some_iff.1 hw).1
      have h3:=hc k hk3;rw [Go.Deep.add_add] at h3;rw [h3];exact hw
    obtain ⟨q,hq⟩:=Go.Deep.choose_lt each;refine ⟨(List.range len).map q,⟨some x,cap,by simp,fun hp=>?_,fun y hy=>?_⟩,by simp;omega⟩
    · simp only [List.length_map,List.length_range] at hp
      obtain ⟨b,off,spot⟩:=x;have hspot:spot=none:=by
        have:=World.cell?_spot ((hq 0 hp).1 0 _ rfl);simpa [Addr.add] using this
      subst hspot;refine ⟨b,off,rfl,fun i hi k u hu=>?_⟩;simp only [List.length_map,List.length_range] at hi;have hgd:((List.range len).map q).getD i ⟨0,empS,.slice none 0 0,[],.slice none 0 0,[],.slice none 0 0,[],0⟩=q i:=by simp [List.getD,hi]
      rw [hgd] at hu;have:=(hq i hi).1 k u hu;rw [Addr.add_lit] at this;rw [Nat.add_assoc];exact this
    · obtain ⟨i,hi,rfl⟩:=List.mem_map.1 hy
      exact (hq i (List.mem_range.1 hi)).2

end Go.Proofs.YtdjpigfibafokaaGreatDoor
