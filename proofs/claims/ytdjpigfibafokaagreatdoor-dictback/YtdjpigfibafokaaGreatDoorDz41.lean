/- A dictionary's Delete and Batch. -/
import Derived.Test.YtdjpigfibafokaaGreatDoorDz01
import Derived.Test.YtdjpigfibafokaaGreatDoorDz39
import Derived.Test.YtdjpigfibafokaaGreatDoorDz40
import Derived.Test.YtdjpigfibafokaaGreatDoorDz35
import Derived.Test.YtdjpigfibafokaaGreatDoorDz36
namespace Go.Proofs.YtdjpigfibafokaaGreatDoor
variable {E:List Ent}
variable {R n o top:Nat}
variable {cs' cs0:Lz}
variable {kv:Value}
set_option maxHeartbeats 4000000
set_option maxRecDepth 20000
open Go.RowKit

section
variable {w1 w w':World} {X:List Nat} {d gv hd b g gs R:Nat} {ms:Nms} {G:List UInt8→Tre} {T:Tre} {cs cs':Lz} {fr fr':List Nat}

theorem rfE_del {k:Lq} (h:rfE o R [⟨kv,k,true,[],.slice none 0 0⟩]=0):k.length=32∧o+258≤R:=by
  unfold rfE at h;split at h
  · rename_i h1
    split at h
    · have a:=bkE_zero h1 ⟨kv,k,true,[],.slice none 0 0⟩ (by simp)
      unfold rmE at h;split at h
      · rename_i h3
        refine ⟨a,?_⟩;simp [fitsN,kcnt] at h3;omega
      · omega
    · omega
  · omega
theorem built_raw3 (a1:Option Addr) (n1 c1:Nat):Tryz.prog.built 163 [(0,.slice a1 n1 c1),(1,.bool true)]=some #[.slice a1 n1 c1,.bool true,.slice none 0 0]:=by rfl
theorem reads_none (w:World):Reads w (.slice none 0 0) []:=⟨none,0,rfl,by simp,fun _=>by simp,Bytes.nil,fun h=>by simp at h⟩

theorem Ds.go (h:Ds w1 w X d gv b g gs R ms G hd T cs fr) (top:Nat) {T':Tre} (q1:Dk w' d gv hd) (q2:Sv w1 w' X gv b g gs R ms G top T' cs' fr'):Kc 89 #[.pointer (some ⟨d,0,none⟩),.int .i64 (top:Int),.int .i64 0] w' fun e w''=>e=.returned (.int .i64 0)∧Ds w1 w'' X d gv b g gs R ms G top T' cs' fr'∧∀y,y≠d→w''.heap[y]?=w'.heap[y]?:=
  (goOn_ok q1 top).mono fun e w'' ⟨q3,q4⟩=>⟨q3,by rw [q4];exact Ds.move q1 h.dx h.dg q2,fun y hy=>by rw [q4];exact heap_setCell_other _ _ y _ hy⟩

theorem ddel_any (h:Ds w1 w X d gv b g gs R ms G hd T cs fr) {kv:Value} {k:Lq} (hkv:Reads w kv k) (hL:∀z,Kb w1 z→Laid z):
    Kc 30 #[.pointer (some ⟨d,0,none⟩),kv] w fun e w'=>
      (rfE (noc cs) R [⟨kv,k,true,[],.slice none 0 0⟩]≠0∧e=.returned (.tuple #[.bool false,.int .i64 (rfE (noc cs) R [⟨kv,k,true,[],.slice none 0 0⟩])])∧Kb w w')∨
      (rfE (noc cs) R [⟨kv,k,true,[],.slice none 0 0⟩]=0∧e=.returned (.tuple #[.bool (hasK T.ents k),.int .i64 0])∧∃top T' cs' fr',Ds w1 w' X d gv b g gs R ms G top T' cs' fr'∧T'.ents.Perm (dlE T.ents k)∧noc cs'≤noc cs+258∧Kz X b d w w'):=by
  obtain ⟨ka,kc,hk1⟩:=reads_len hkv;have HRef:Hid (∀w' rl,Kb w w'→RwAt w' rl [⟨kv,k,true,[],.slice none 0 0⟩]→Kc 87 #[.pointer (some ⟨d,0,none⟩),rl] w' fun e w''=>e=.returned (.int .i64 (rfE (noc cs) R [⟨kv,k,true,[],.slice none 0 0⟩]))∧Below w'.heap.size w' w''):=fun w' rl hb h1=>refused_dict (h.grow hb).dk (h.grow hb).sv.hv h1 (by simp)
  have HRA:Hid (∀w' g,Kb w w'→Blk w' g 163 #[kv,.bool true,.slice none 0 0]→RwAt w' (.slice (some ⟨g,0,none⟩) 1 1) [⟨kv,k,true,[],.slice none 0 0⟩]):=fun w' g hb h1=>rwAt_one h1 (hkv.grow hb) (reads_none w')
  by_cases hE:rfE (noc cs) R [⟨kv,k,true,[],.slice none 0 0⟩]=0
  · obtain ⟨h32,hroom⟩:=rfE_del hE
    have hbk:Bytes k:=by obtain ⟨_,_,_,_,_,hb,_⟩:=hkv;exact hb
    have HOf:Hid (Kr w 88 #[kv] (.tuple #[.agg (B k),.int .i64 0])):=fun w' hb=>of_at _ _ w' (hkv.grow hb) h32
    have HSt:Hid (Kr w 19 #[.pointer (some ⟨d,0,none⟩)] (.pointer (some ⟨g,0,none⟩))):=fun w' hb=>dstore_ok (h.grow hb).dk (h.grow hb).sv.hv
    have HPu:Hid (∀w',Kb w w'→Kc 91 #[.pointer (some ⟨g,0,none⟩),.int .i64 (hd:Int),.agg (B k)] w' fun e w''=>∃(top:Nat) (T':Tre) (cs':Lz) (fr':List Nat),e=.returned (.tuple #[.int .i64 (top:Int),.bool (hasK T.ents k),.int .i64 0])∧Dk w'' d gv hd∧Sv w1 w'' X gv b g gs R ms G top T' cs' fr'∧T'.ents.Perm (dlE T.ents k)∧noc cs'≤noc cs+258∧∀y∈X,y≠b→w''.heap[y]?=w.heap[y]?):=fun w' hb=>by
      have s:=h.grow hb;obtain ⟨S,H,hq,back⟩:=s.sv.hv.hs;refine (drop_any H s.sv.rt ⟨h32,hbk⟩ (hq _ hL) (fun i=>Nat.le_trans (s.sv.ownLe i) (by omega)) hroom).mono ?_;rintro e w'' ⟨top,cs',fr',T',rfl,p,H'⟩;obtain ⟨b1,b2⟩:=back _ _ _ H';refine ⟨top,T',cs',fr',rfl,s.kx (b2 b),sv_step s.sv b1 p.own p.keep p.rt,p.ents,Nat.le_trans p.noc ?_,fun y hy hyb=>(b2 b y hy hyb).trans (h.old hb y hy)⟩;have:=(dcost_le H.2 s.sv.rt.tree s.sv.rt.dp k).1;omega
    have HC2:Hid (∀w',Kb w w'→w'.cell? ⟨d,2,none⟩=some (.int .i64 (hd:Int))):=fun w' hb=>(h.grow hb).dk.c2
    have HGo:Hid (∀w' (top:Nat) T' cs' fr',Dk w' d gv hd→Sv w1 w' X gv b g gs R ms G top T' cs' fr'→Kc 89 #[.pointer (some ⟨d,0,none⟩),.int .i64 (top:Int),.int .i64 0] w' fun e w''=>e=.returned (.int .i64 0)∧Ds w1 w'' X d gv b g gs R ms G top T' cs' fr'∧∀y,y≠d→w''.heap[y]?=w'.heap[y]?):=fun w' top T' cs' fr' q1 q2=>h.go top q1 q2
    have HSk:=hidden (sz_path3 k h32);have HLk:Hid ((Tryz.prog.info? 63).map (·.size)=some (B k).toList.length):=by show _=_;rw [Array.length_toList];exact HSk.out.1
    have HBW:=hidden (Below.refl w.heap.size w);rw [hE] at HRef;clear h hkv hL h32 hroom hbk;subst hk1
    suffices hsu:Kc 30 #[.pointer (some ⟨d,0,none⟩),.slice ka k.length kc] w (fun e w'=>e=.returned (.tuple #[.bool (hasK T.ents k),.int .i64 0])∧∃top T' cs' fr',Ds w1 w' X d gv b g gs R ms G top T' cs' fr'∧T'.ents.Perm (dlE T.ents k)∧noc cs'≤noc cs+258∧Kz X b d w w') from hsu.mono (fun e w' q=>.inr ⟨hE,q.1,q.2⟩)
    clear hE;have HBR:Hid (Tryz.prog.built 163 [(0,.slice ka k.length kc),(1,.bool true)]=some #[.slice ka k.length kc,.bool true,.slice none 0 0]):=built_raw3 _ _ _;obtain ⟨kl,hkl⟩:∃kl,kl=k.length:=⟨_,rfl⟩;rw [← hkl] at HRef HRA HBR HOf ⊢;clear hkl;generalize hasK T.ents k=hs at *;go_enter Tryz.func30,Tryz.ntmps30
    go_wp2_with (first
      |((with_reducible refine at_bdd 14 ?_);refine wpList_bld _ rfl _ _ rfl _ (by rw [List.map_toArray];exact HBR.out) ?_)
      |(refine wpList_bsr1 _ rfl _ rfl [.slice ka kl kc,.bool true,.slice none 0 0] rfl rfl ?_;intro x1 gr Br b1;have HQ1:=hidden (grow_trans HBW.out b1);have HRw:=hidden (HRA.out _ _ HQ1.out Br);clear Br b1)
      |(go_at_call 87;refine (HRef.out _ _ HQ1.out HRw.out).mono ?_;rintro e x2 ⟨rfl,b2⟩;have HQ2:=hidden (grow_trans HQ1.out b2);clear b2)
      |(go_at_call 88;refine (HOf.out _ HQ2.out).mono ?_;rintro e x3 ⟨rfl,b3⟩;have HQ3:=hidden (grow_trans HQ2.out b3);clear b3)
      |((with_reducible refine at_ald 7 ?_);refine wpList_al _ rfl _ rfl _ zero_path ?_;intro x4 g8 hg8 hl8 B8 b4;have HG8:=hidden hg8;have HB8:=hidden B8;have Hb4:=hidden b4;clear hg8 hl8 B8 b4)
      |((with_reducible refine at_st 7 ?_);refine wpList_sto _ rfl _ _ _ rfl g8 _ (B k) rfl rfl HB8.out HSk.out.1 HSk.out.2 (B_one _) ?_;intro x5 B8' r8;have HQ5:=hidden (grow_trans HQ3.out (below_row Hb4.out r8 HG8.out));have K8:=hidden B8'.kp;clear r8 B8'))
    refine wp_region_wrote (S:=fun w'=>Kb x5 w') [8] (by kernel_rfl) (below_drewN (Below.refl _ _) 1) (fun hHeld=>?_);refine wpAnyW_take0 (i:=0) (v:=.pointer (some ⟨d,0,none⟩)) rfl (by kernel_rfl) (by kernel_rfl) (by kernel_rfl) (by kernel_rfl) (fun _ _ _ h=>h) (Or.inl ⟨by rfl,fun w hS=>by go_simp⟩) (.inr hHeld) ?_;simp only [Act.put,zq1,zq2,zq4,zq5,zq6];refine wpAnyW_take0 (i:=2) (v:=.pointer (some ⟨d,0,none⟩)) rfl (by kernel_rfl) (by kernel_rfl) (by kernel_rfl) (by kernel_rfl) (fun _ _ _ h=>h) (Or.inl ⟨by rfl,fun w hS=>by go_simp⟩) (.inr hHeld) ?_;simp only [Act.put,zq1,zq2,zq3,zq4,zq5,zq6];refine wpAnyW_take0 (i:=3) (v:=.pointer (some ⟨d,0,none⟩)) rfl (by kernel_rfl) (by kernel_rfl) (by kernel_rfl) (by kernel_rfl) (fun _ _ _ h=>h) (Or.inl ⟨by rfl,fun w hS=>by go_simp⟩) (.inr hHeld) ?_;simp only [Act.put,zq1,zq2,zq3,zq4,zq5,zq6];refine wpAnyW_take0 (i:=4) (v:=.pointer (some ⟨d,1,none⟩)) rfl (by kernel_rfl) (by kernel_rfl) (by kernel_rfl) (by kernel_rfl) (fun _ _ _ h=>h) (Or.inl ⟨by rfl,fun w hS=>by go_simp⟩) (.inr hHeld) ?_;simp only [Act.put,zq1,zq2,zq3,zq4,zq5,zq6];refine wpAnyW_take0 (i:=5) (v:=.pointer (some ⟨d,2,none⟩)) rfl (by kernel_rfl) (by kernel_rfl) (by kernel_rfl) (by kernel_rfl) (fun _ _ _ h=>h) (Or.inl ⟨by rfl,fun w hS=>by go_simp⟩) (.inr hHeld) ?_;simp only [Act.put,zq1,zq2,zq3,zq4,zq5,zq6];refine wpAnyW_take (i:=6) (v:=.int .i64 (hd:Int)) rfl (by kernel_rfl) (by kernel_rfl) (by kernel_rfl) (by kernel_rfl) (by kernel_rfl) (by kernel_rfl) (fun _ _ _ h=>h) (Or.inl ⟨by rfl,fun w hS=>by (have c2:=HC2.out _ (grow_trans HQ5.out hS);go_simp)⟩) hHeld ?_;simp only [Act.put,zq1,zq2,zq3,zq4,zq5,zq6];refine wpAnyW_take (i:=7) (v:=.agg (B k)) rfl (by kernel_rfl) (by kernel_rfl) (by kernel_rfl) (by kernel_rfl) (by kernel_rfl) (by kernel_rfl) (fun _ _ _ h=>h) (yieldsIf_load_mid rfl 63 (.tmp 7) rfl g8 0 rfl (B k).toList _ (fun w hS=>(K8.out _ hS).range) Tryz.underlying63 rfl HLk.out) hHeld ?_;simp only [Act.put,zq1,zq2,zq3,zq4,zq5,zq6];refine wpAnyW_keep (i:=1) rfl (by kernel_rfl) (fun KQ hK=>?_);go_simp;refine (HSt.out _ (grow_trans HQ5.out hHeld)).mono ?_;rintro e y1 ⟨rfl,a1⟩;refine hK.out _ _ (grow_trans hHeld a1) ?_;have hHeld:=grow_trans hHeld a1;clear hK KQ;refine wpAnyW_one (i:=8) rfl (by kernel_rfl) (by kernel_rfl) (fun KQ hK=>?_);go_simp;refine (HPu.out _ (grow_trans HQ5.out hHeld)).mono ?_;rintro e y2 ⟨top,T',cs',fr',rfl,q1,q2,q3,q4,q5⟩;refine hK.out _ _ ?_;clear hK KQ;refine wpAnyW_take0 (i:=9) (v:=.tuple #[.int .i64 (top:Int),.bool hs,.int .i64 0]) rfl (by kernel_rfl) (by kernel_rfl) (by kernel_rfl) (by kernel_rfl) (fun _ _ _ h=>h) (Or.inl ⟨by rfl,fun w hS=>by go_simp⟩) (.inl (by kernel_rfl)) ?_;simp only [Act.put,zq1,zq2,zq3,zq4,zq5,zq6];refine wpAnyW_take0 (i:=10) (v:=.int .i64 (top:Int)) rfl (by kernel_rfl) (by kernel_rfl) (by kernel_rfl) (by kernel_rfl) (fun _ _ _ h=>h) (Or.inl ⟨by rfl,fun w hS=>by go_simp⟩) (.inl (by kernel_rfl)) ?_;simp only [Act.put,zq1,zq2,zq3,zq4,zq5,zq6];refine wpAnyW_take0 (i:=11) (v:=.bool hs) rfl (by kernel_rfl) (by kernel_rfl) (by kernel_rfl) (by kernel_rfl) (fun _ _ _ h=>h) (Or.inl ⟨by rfl,fun w hS=>by go_simp⟩) (.inl (by kernel_rfl)) ?_;simp only [Act.put,zq1,zq2,zq3,zq4,zq5,zq6];refine wpAnyW_take0 (i:=12) (v:=.int .i64 0) rfl (by kernel_rfl) (by kernel_rfl) (by kernel_rfl) (by kernel_rfl) (fun _ _ _ h=>h) (Or.inl ⟨by rfl,fun w hS=>by go_simp⟩) (.inl (by kernel_rfl)) ?_;simp only [Act.put,zq1,zq2,zq3,zq4,zq5,zq6];refine wpAnyW_take0 (i:=13) (v:=.int .i64 (top:Int)) rfl (by kernel_rfl) (by kernel_rfl) (by kernel_rfl) (by kernel_rfl) (fun _ _ _ h=>h) (Or.inl ⟨by rfl,fun w hS=>by go_simp⟩) (.inl (by kernel_rfl)) ?_;simp only [Act.put,zq1,zq2,zq3,zq4,zq5,zq6];refine wpAnyW_take0 (i:=14) (v:=.bool hs) rfl (by kernel_rfl) (by kernel_rfl) (by kernel_rfl) (by kernel_rfl) (fun _ _ _ h=>h) (Or.inl ⟨by rfl,fun w hS=>by go_simp⟩) (.inl (by kernel_rfl)) ?_;simp only [Act.put,zq1,zq2,zq3,zq4,zq5,zq6];refine wpAnyW_take0 (i:=15) (v:=.int .i64 0) rfl (by kernel_rfl) (by kernel_rfl) (by kernel_rfl) (by kernel_rfl) (fun _ _ _ h=>h) (Or.inl ⟨by rfl,fun w hS=>by go_simp⟩) (.inl (by kernel_rfl)) ?_;simp only [Act.put,zq1,zq2,zq3,zq4,zq5,zq6];refine wpAnyW_done (by kernel_rfl) ?_
    go_wp2_with (go_at_call 89;refine (HGo.out _ top T' cs' fr' q1 q2).mono ?_;rintro e y3 ⟨rfl,hds,q6⟩)
    go_ret2;exact ⟨rfl,top,T',cs',fr',hds,q3,q4,fun y hy h1 h2=>(q6 y h2).trans (q5 y hy h1)⟩
  · suffices hsu:Kc 30 #[.pointer (some ⟨d,0,none⟩),kv] w (fun e w'=>e=.returned (.tuple #[.bool false,.int .i64 (rfE (noc cs) R [⟨kv,k,true,[],.slice none 0 0⟩])])∧Kb w w') from hsu.mono (fun e w' q=>.inl ⟨hE,q.1,q.2⟩)
    clear h hkv hL;subst hk1;have HBR:Hid (Tryz.prog.built 163 [(0,.slice ka k.length kc),(1,.bool true)]=some #[.slice ka k.length kc,.bool true,.slice none 0 0]):=built_raw3 _ _ _;have HBW:=hidden (Below.refl w.heap.size w);generalize rfE (noc cs) R [⟨.slice ka k.length kc,k,true,[],.slice none 0 0⟩]=E at *;obtain ⟨kl,hkl⟩:∃kl,kl=k.length:=⟨_,rfl⟩;rw [← hkl] at HRef HRA HBR ⊢;have zE:(E != 0)=true:=by simp [hE]
    clear hkl hE;go_enter Tryz.func30,Tryz.ntmps30
    go_wp2_with (first
      |((with_reducible refine at_bdd 14 ?_);refine wpList_bld _ rfl _ _ rfl _ (by rw [List.map_toArray];exact HBR.out) ?_)
      |(refine wpList_bsr1 _ rfl _ rfl [.slice ka kl kc,.bool true,.slice none 0 0] rfl rfl ?_;intro x1 gr Br b1;have HQ1:=hidden (grow_trans HBW.out b1);have HRw:=hidden (HRA.out _ _ HQ1.out Br);clear Br b1)
      |(go_at_call 87;refine (HRef.out _ _ HQ1.out HRw.out).mono ?_;rintro e x2 ⟨rfl,b2⟩;have HQ2:=hidden (grow_trans HQ1.out b2);clear b2))
    go_ret2;exact ⟨rfl,HQ2.out⟩
end

end Go.Proofs.YtdjpigfibafokaaGreatDoor

namespace Go.Proofs.YtdjpigfibafokaaGreatDoor
variable {E:List Ent}
variable {R n o top:Nat}
variable {cs' cs0:Lz}
variable {kv:Value}
set_option maxHeartbeats 4000000
set_option maxRecDepth 20000
open Go.RowKit

theorem bat_rt {l:List Wt} {root:Nat} {olds:List Nat} (p:BatOk cs0 E l root top n olds cs') (ho:root=0∨0<own cs0 [] (root-1)):∃U,Rt cs' top U∧U.ents.Perm (ovE E l):=by
  obtain ⟨U,h1,h2⟩:=p.tree;refine ⟨U,⟨h1,p.dp,?_⟩,h2⟩
  by_cases h0:top=0
  · exact .inl h0
  · refine .inr ?_
    have:=p.own (top-1);rw [if_pos (show top=top-1+1 by omega)] at this
    by_cases q:root=top-1+1
    · rw [if_pos q] at this
      rcases ho with h | h
      · omega
      · rw [q,Nat.add_sub_cancel] at h
        omega
    · rw [if_neg q] at this
      omega

section
variable {w1 w w':World} {X:List Nat} {d gv hd b g gs R:Nat} {ms:Nms} {G:List UInt8→Tre} {T:Tre} {cs cs':Lz} {fr fr':List Nat} {l:List Rw}

theorem rfE_bat (h:rfE o R l=0):(∀x∈l,x.k.length=32)∧l.length≤64∧(l.map Rw.wt).any tooL=false∧o+258 * kcnt (l.map (·.k))≤R:=by
  unfold rfE at h;split at h
  · rename_i h1
    split at h
    · rename_i h2
      unfold rmE at h;split at h
      · rename_i h3
        obtain ⟨q1,q2⟩:=tlE_zero h2;refine ⟨bkE_zero h1,q1,?_,?_⟩
        · rw [List.any_map,List.any_eq_false]
          intro x hx;have:=q2 x hx;simp only [Function.comp,tooR_wt,this];simp
        · unfold fitsN at h3
          rw [decide_eq_true_eq] at h3;omega
      · omega
    · omega
  · omega

theorem dbat_any (h:Ds w1 w X d gv b g gs R ms G hd T cs fr) {lv:Value} (hl:RwAt w lv l) (hbd:l.length≤140737488355328) (hv:∀x∈l,∀z,Kb w1 z→Reads z x.v x.b) (hL:∀z,Kb w1 z→Laid z):
    Kc 52 #[.pointer (some ⟨d,0,none⟩),lv] w fun e w'=>e=.returned (.int .i64 (rfE (noc cs) R l))∧
      ((rfE (noc cs) R l≠0∧Kb w w')∨(rfE (noc cs) R l=0∧∃ks top T' cs' fr',Lat (l.map Rw.wt) ks∧Ds w1 w' X d gv b g gs R ms G top T' cs' fr'∧T'.ents.Perm (ovE T.ents ks)∧noc cs'≤noc cs+258 * l.length∧Kz X b d w w')):=by
  obtain ⟨la,lc,hlv⟩:∃a c,lv=.slice a l.length c:=by obtain ⟨a,c,e,_⟩:=hl;exact ⟨a,c,e⟩
  have HRef:Hid (Kr w 87 #[.pointer (some ⟨d,0,none⟩),lv] (.int .i64 (rfE (noc cs) R l))):=fun w' hb=>refused_dict (h.grow hb).dk (h.grow hb).sv.hv (hl.grow hb) hbd
  have HBW:=hidden (Below.refl w.heap.size w)
  by_cases hE:rfE (noc cs) R l=0
  · obtain ⟨h32,h64,hto,hroom⟩:=rfE_bat hE
    have HSt:Hid (Kr w 19 #[.pointer (some ⟨d,0,none⟩)] (.pointer (some ⟨g,0,none⟩))):=fun w' hb=>dstore_ok (h.grow hb).dk (h.grow hb).sv.hv
    have HWr:Hid (∀w',Kb w w'→Kc 118 #[lv] w' fun e w''=>∃v,e=.returned v∧WrAt w'' v (l.map Rw.wt)∧Below w'.heap.size w' w''):=fun w' hb=>writes_any (hl.grow hb) (by omega) h32
    have HPu:Hid (∀w' v,Kb w w'→WrAt w' v (l.map Rw.wt)→Kc 117 #[.pointer (some ⟨g,0,none⟩),.int .i64 (hd:Int),v] w' fun e w''=>∃(ks:List Wt) (top:Nat) (T':Tre) (cs':Lz) (fr':List Nat),e=.returned (.tuple #[.int .i64 (top:Int),.int .i64 0])∧Lat (l.map Rw.wt) ks∧Dk w'' d gv hd∧Sv w1 w'' X gv b g gs R ms G top T' cs' fr'∧T'.ents.Perm (ovE T.ents ks)∧noc cs'≤noc cs+258 * l.length∧∀y∈X,y≠b→w''.heap[y]?=w.heap[y]?):=fun w' v hb hw=>by
      have s:=h.grow hb;obtain ⟨S,H,hq,back⟩:=s.sv.hv.hs;refine (apply_any H s.sv.rt v (l.map Rw.wt) hw (fun x hx=>?_) (hq _ hL) (fun i=>Nat.le_trans (s.sv.ownLe i) (by omega)) (by rw [List.length_map];exact h64) hto (fun ks q=>?_)).mono ?_
      · obtain ⟨y,hy,rfl⟩:=List.mem_map.1 hx
        exact hq _ (hv y hy)
      · rw [q.cnt,List.map_map]
        exact hroom
      · rintro e w'' ⟨ks,q,ps,Gt,top,cs',fr',rfl,H',hlat,hgr,hbat,_⟩
        obtain ⟨b1,b2⟩:=back _ _ _ H';obtain ⟨U,u1,u2⟩:=bat_rt hbat s.sv.rt.own;refine ⟨ks,top,U,cs',fr',rfl,hlat,s.kx (b2 b),sv_step s.sv b1 hbat.own hbat.keep u1,u2,Nat.le_trans hbat.noc ?_,fun y hy hyb=>(b2 b y hy hyb).trans (h.old hb y hy)⟩;have c1:=hgr.cnt;have c2:=hlat.len;rw [List.length_map] at c2;simp only [List.length_nil] at c1;have:(257-0) * ks.length≤258 * l.length:=Nat.mul_le_mul (by omega) c2;omega
    have HC2:Hid (∀w',Kb w w'→w'.cell? ⟨d,2,none⟩=some (.int .i64 (hd:Int))):=fun w' hb=>(h.grow hb).dk.c2
    have HGo:Hid (∀w' (top:Nat) T' cs' fr',Dk w' d gv hd→Sv w1 w' X gv b g gs R ms G top T' cs' fr'→Kc 89 #[.pointer (some ⟨d,0,none⟩),.int .i64 (top:Int),.int .i64 0] w' fun e w''=>e=.returned (.int .i64 0)∧Ds w1 w'' X d gv b g gs R ms G top T' cs' fr'∧∀y,y≠d→w''.heap[y]?=w'.heap[y]?):=fun w' top T' cs' fr' q1 q2=>(goOn_ok q1 top).mono fun e w'' ⟨q3,q4⟩=>⟨q3,by rw [q4];exact Ds.move q1 h.dx h.dg q2,fun y hy=>by rw [q4];exact heap_setCell_other _ _ y _ hy⟩
    rw [hE] at HRef ⊢;clear h hl hbd hv hL h32 h64 hto hroom hE;subst hlv;generalize l.length=n at *;go_enter Tryz.func52,Tryz.ntmps52
    go_wp2_with (go_at_call 87;refine (HRef.out _ HBW.out).mono ?_;rintro e x2 ⟨rfl,b2⟩;have HQ2:=hidden b2;clear b2)
    refine wp_region_wrote (S:=fun w'=>Kb x2 w') [10,13] (by kernel_rfl) (below_drewN (Below.refl _ _) 1) (fun hHeld=>?_);refine wpAnyW_take0 (i:=0) (v:=.pointer (some ⟨d,0,none⟩)) rfl (by kernel_rfl) (by kernel_rfl) (by kernel_rfl) (by kernel_rfl) (fun _ _ _ h=>h) (Or.inl ⟨by rfl,fun w hS=>by go_simp⟩) (.inr hHeld) ?_;simp only [Act.put,zq1,zq2,zq4,zq5,zq6];refine wpAnyW_take0 (i:=1) (v:=.pointer (some ⟨d,0,none⟩)) rfl (by kernel_rfl) (by kernel_rfl) (by kernel_rfl) (by kernel_rfl) (fun _ _ _ h=>h) (Or.inl ⟨by rfl,fun w hS=>by go_simp⟩) (.inr hHeld) ?_;simp only [Act.put,zq1,zq2,zq3,zq4,zq5,zq6];refine wpAnyW_take0 (i:=3) (v:=.pointer (some ⟨d,0,none⟩)) rfl (by kernel_rfl) (by kernel_rfl) (by kernel_rfl) (by kernel_rfl) (fun _ _ _ h=>h) (Or.inl ⟨by rfl,fun w hS=>by go_simp⟩) (.inr hHeld) ?_;simp only [Act.put,zq1,zq2,zq3,zq4,zq5,zq6];refine wpAnyW_take0 (i:=4) (v:=.pointer (some ⟨d,0,none⟩)) rfl (by kernel_rfl) (by kernel_rfl) (by kernel_rfl) (by kernel_rfl) (fun _ _ _ h=>h) (Or.inl ⟨by rfl,fun w hS=>by go_simp⟩) (.inr hHeld) ?_;simp only [Act.put,zq1,zq2,zq3,zq4,zq5,zq6];refine wpAnyW_take0 (i:=5) (v:=.pointer (some ⟨d,1,none⟩)) rfl (by kernel_rfl) (by kernel_rfl) (by kernel_rfl) (by kernel_rfl) (fun _ _ _ h=>h) (Or.inl ⟨by rfl,fun w hS=>by go_simp⟩) (.inr hHeld) ?_;simp only [Act.put,zq1,zq2,zq3,zq4,zq5,zq6];refine wpAnyW_take0 (i:=6) (v:=.pointer (some ⟨d,2,none⟩)) rfl (by kernel_rfl) (by kernel_rfl) (by kernel_rfl) (by kernel_rfl) (fun _ _ _ h=>h) (Or.inl ⟨by rfl,fun w hS=>by go_simp⟩) (.inr hHeld) ?_;simp only [Act.put,zq1,zq2,zq3,zq4,zq5,zq6];refine wpAnyW_take (i:=7) (v:=.int .i64 (hd:Int)) rfl (by kernel_rfl) (by kernel_rfl) (by kernel_rfl) (by kernel_rfl) (by kernel_rfl) (by kernel_rfl) (fun _ _ _ h=>h) (Or.inl ⟨by rfl,fun w hS=>by (have c2:=HC2.out _ (grow_trans HQ2.out hS);go_simp)⟩) hHeld ?_;simp only [Act.put,zq1,zq2,zq3,zq4,zq5,zq6];refine wpAnyW_take0 (i:=8) (v:=.slice la n lc) rfl (by kernel_rfl) (by kernel_rfl) (by kernel_rfl) (by kernel_rfl) (fun _ _ _ h=>h) (Or.inl ⟨by rfl,fun w hS=>by go_simp⟩) (.inr hHeld) ?_;simp only [Act.put,zq1,zq2,zq3,zq4,zq5,zq6];refine wpAnyW_keep (i:=2) rfl (by kernel_rfl) (fun KQ hK=>?_);go_simp;refine (HSt.out _ (grow_trans HQ2.out hHeld)).mono ?_;rintro e y1 ⟨rfl,a1⟩;refine hK.out _ _ (grow_trans hHeld a1) ?_;have hHeld:=grow_trans hHeld a1;clear hK KQ;refine wpAnyW_keep (i:=9) rfl (by kernel_rfl) (fun KQ hK=>?_);go_simp;refine (HWr.out _ (grow_trans HQ2.out hHeld)).mono ?_;rintro e y1w ⟨v1,rfl,hw1,a1w⟩;refine hK.out _ _ (grow_trans hHeld a1w) ?_;have hHeld:=grow_trans hHeld a1w;clear hK KQ;refine wpAnyW_one (i:=10) rfl (by kernel_rfl) (by kernel_rfl) (fun KQ hK=>?_);go_simp;refine (HPu.out _ _ (grow_trans HQ2.out hHeld) hw1).mono ?_;rintro e y2 ⟨ks,top,T',cs',fr',rfl,q0,q1,q2,q3,q4,q5⟩;refine hK.out _ _ ?_;clear hK KQ;refine wpAnyW_take0 (i:=11) (v:=.int .i64 (top:Int)) rfl (by kernel_rfl) (by kernel_rfl) (by kernel_rfl) (by kernel_rfl) (fun _ _ _ h=>h) (Or.inl ⟨by rfl,fun w hS=>by go_simp⟩) (.inl (by kernel_rfl)) ?_;simp only [Act.put,zq1,zq2,zq3,zq4,zq5,zq6];refine wpAnyW_take0 (i:=12) (v:=.int .i64 0) rfl (by kernel_rfl) (by kernel_rfl) (by kernel_rfl) (by kernel_rfl) (fun _ _ _ h=>h) (Or.inl ⟨by rfl,fun w hS=>by go_simp⟩) (.inl (by kernel_rfl)) ?_;simp only [Act.put,zq1,zq2,zq3,zq4,zq5,zq6];refine wpAnyW_one (i:=13) rfl (by kernel_rfl) (by kernel_rfl) (fun KQ hK=>?_);go_simp;refine (HGo.out _ top T' cs' fr' q1 q2).mono ?_;rintro e y3 ⟨rfl,hds,q6⟩;refine hK.out _ _ ?_;clear hK KQ;refine wpAnyW_take0 (i:=14) (v:=.int .i64 0) rfl (by kernel_rfl) (by kernel_rfl) (by kernel_rfl) (by kernel_rfl) (fun _ _ _ h=>h) (Or.inl ⟨by rfl,fun w hS=>by go_simp⟩) (.inl (by kernel_rfl)) ?_;simp only [Act.put,zq1,zq2,zq3,zq4,zq5,zq6];refine wpAnyW_done (by kernel_rfl) ?_;go_wp2
    go_ret;exact ⟨rfl,.inr ⟨trivial,ks,top,T',cs',fr',q0,hds,q3,q4,fun y hy h1 h2=>(q6 y h2).trans (q5 y hy h1)⟩⟩
  · clear h hl hbd hv hL
    subst hlv;generalize hEE:rfE (noc cs) R l=E at *;generalize l.length=n at *;have zE:(E != 0)=true:=by simp [hE]
    go_enter Tryz.func52,Tryz.ntmps52
    go_wp2_with (go_at_call 87;refine (HRef.out _ HBW.out).mono ?_;rintro e x2 ⟨rfl,b2⟩;have HQ2:=hidden b2;clear b2)
    go_ret;exact ⟨rfl,.inl ⟨hE,HQ2.out⟩⟩
end

end Go.Proofs.YtdjpigfibafokaaGreatDoor

namespace Go.Proofs.YtdjpigfibafokaaGreatDoor
variable {E:List Ent}
variable {R n o top:Nat}
variable {cs' cs0:Lz}
variable {kv:Value}
set_option maxHeartbeats 4000000
set_option maxRecDepth 20000
open Go.RowKit

def snE (ms:Nms) (s:ByteArray):Int:=if nmOk s=true then (if 16≤ms.length then 8 else 0) else 5

section
variable {w1 w:World} {X:List Nat} {d gv hd b g gs R:Nat} {ms:Nms} {cs:Lz} {fr:List Nat} {s:ByteArray}

theorem snap_first (hk:Dk w d gv hd) (h:Hv w1 w X gv b g gs R ms cs fr) (hs:s.size≤maxLen) (kv lv:Value) (w':World) (hb:Kb w w') (r q c:Nat) (hr:Rq w' r d s kv lv)
    (c0:w'.cell? ⟨q,0,none⟩=some (.func (.func 83) #[.pointer (some ⟨r,0,none⟩)] #[])) (c1:w'.cell? ⟨q,1,none⟩=some (.func (.func 92) #[.pointer (some ⟨r,0,none⟩)] #[])) (c2:w'.cell? ⟨q,2,none⟩=some (.func (.func 93) #[.pointer (some ⟨r,0,none⟩)] #[])):
    Kc 82 #[.slice (some ⟨q,0,none⟩) 3 c] w' fun e w''=>e=.returned (.int .i64 (snE ms s))∧Below w'.heap.size w' w'':=by
  have hf:fst15 [(83,0),(92,if nmOk s=true then 0 else 5),(93,if 16≤ms.length then 8 else 0)]=snE ms s:=by
    unfold snE;cases nmOk s <;> by_cases hl:16≤ms.length <;> simp [fst15,hl]
  have:=first_s (w:=w') q 3 c r [(83,0),(92,if nmOk s=true then 0 else 5),(93,if 16≤ms.length then 8 else 0)] rfl (by omega) (fun i hi=>by
      rcases (show i=0∨i=1∨i=2 by omega) with rfl | rfl | rfl
      · exact List.mem_cons_self
      · exact List.mem_cons_of_mem _ List.mem_cons_self
      · exact List.mem_cons_of_mem _ (List.mem_cons_of_mem _ List.mem_cons_self)) (fun i hi=>by
      rcases (show i=0∨i=1∨i=2 by omega) with rfl | rfl | rfl
      · exact c0
      · exact c1
      · exact c2) (fun i hi _ z hz=>by
      rcases (show i=0∨i=1∨i=2 by omega) with rfl | rfl | rfl
      · exact (notMade_ok (hk.grow (grow_trans hb hz)) (hr.grow hz)).mono fun e w'' ⟨q1,q2⟩=>⟨q1,q2 ▸ Below.refl _ _⟩
      · exact (noName_any (hr.grow hz) hs).mono fun e w'' ⟨q1,q2⟩=>⟨q1,q2 ▸ Below.refl _ _⟩
      · exact (noPlace_any (hk.grow (grow_trans hb hz)) (hr.grow hz) (h.grow (grow_trans hb hz))).mono fun e w'' ⟨q1,q2⟩=>⟨q1,q2 ▸ Below.refl _ _⟩)
  rwa [hf] at this

theorem ver_first (hk:Dk w d gv hd) (h:Hv w1 w X gv b g gs R ms cs fr) (hs:s.size≤maxLen) (kv lv:Value) (w':World) (hb:Kb w w') (r q c:Nat) (hr:Rq w' r d s kv lv)
    (c0:w'.cell? ⟨q,0,none⟩=some (.func (.func 83) #[.pointer (some ⟨r,0,none⟩)] #[])) (c1:w'.cell? ⟨q,1,none⟩=some (.func (.func 84) #[.pointer (some ⟨r,0,none⟩)] #[])):
    Kc 82 #[.slice (some ⟨q,0,none⟩) 2 c] w' fun e w''=>e=.returned (.int .i64 (vrE ms s))∧Below w'.heap.size w' w'':=by
  have hf:fst15 [(83,0),(84,vrE ms s)]=vrE ms s:=by
    unfold fst15 fst15 fst15;rw [if_pos rfl];split
    · rename_i q;exact q.symm
    · rfl
  have:=first_v (w:=w') q 2 c r [(83,0),(84,vrE ms s)] rfl (by omega) (fun i hi=>by
      rcases (show i=0∨i=1 by omega) with rfl | rfl
      · exact List.mem_cons_self
      · exact List.mem_cons_of_mem _ List.mem_cons_self) (fun i hi=>by
      rcases (show i=0∨i=1 by omega) with rfl | rfl
      · exact c0
      · exact c1) (fun i hi _ z hz=>by
      rcases (show i=0∨i=1 by omega) with rfl | rfl
      · exact (notMade_ok (hk.grow (grow_trans hb hz)) (hr.grow hz)).mono fun e w'' ⟨q1,q2⟩=>⟨q1,q2 ▸ Below.refl _ _⟩
      · exact noVersion_any (hk.grow (grow_trans hb hz)) (hr.grow hz) (h.grow (grow_trans hb hz)) hs)
  rwa [hf] at this
end

end Go.Proofs.YtdjpigfibafokaaGreatDoor

namespace Go.Proofs.YtdjpigfibafokaaGreatDoor
variable {E:List Ent}
variable {R n o top:Nat}
variable {cs' cs0:Lz}
variable {kv:Value}
set_option maxHeartbeats 4000000
set_option maxRecDepth 20000
open Go.RowKit

section
variable {w1 w:World} {X:List Nat} {d gv hd b g gs R:Nat} {ms:Nms} {cs:Lz} {fr:List Nat} {s:ByteArray}

theorem dsnap_bad (hk:Dk w d gv hd) (h:Hv w1 w X gv b g gs R ms cs fr) (hs:s.size≤maxLen) (he:snE ms s≠0):Kc 31 #[.pointer (some ⟨d,0,none⟩),.string s] w fun e w'=>e=.returned (.int .i64 (snE ms s))∧Kb w w':=by
  have HBU:Hid (Tryz.prog.built 157 [(0,.pointer (some ⟨d,0,none⟩)),(1,.string s)]=some #[.pointer (some ⟨d,0,none⟩),.string s,.slice none 0 0,.slice none 0 0]):=by rfl
  have HF:=hidden (fun w' hb r q c hr c0 c1 c2=>snap_first hk h hs (.slice none 0 0) (.slice none 0 0) w' hb r q c hr c0 c1 c2);clear h hs hk;generalize snE ms s=E at he HF ⊢;go_enter Tryz.func31,Tryz.ntmps31
  go_wp2_with (first
    |((with_reducible refine at_bdd 9 ?_);refine wpList_bld _ rfl _ _ rfl _ (by rw [List.map_toArray];exact HBU.out) ?_)
    |((with_reducible refine at_ald 5 ?_);refine wpList_al _ rfl _ rfl _ zero_rq ?_;intro w1 r hg1 hl1 B1 q1;have HG1:=hidden hg1;have HQ1:=hidden q1;clear hg1 hl1 q1)
    |((with_reducible refine at_st 5 ?_);refine wpList_sto _ rfl _ _ _ rfl r _ #[.pointer (some ⟨d,0,none⟩),.string s,.slice none 0 0,.slice none 0 0] rfl rfl B1 size_rq rfl (by simp [Value.oneCell']) ?_;intro w2 B2 r2;have HB2:=hidden B2;have HQ2:=hidden (below_row HQ1.out r2 HG1.out);clear B1 B2 r2)
    |(go_at_call 82;refine (HF.out _ (grow_trans HQ2.out (grow_alloc _ _)) r _ _ (HB2.out.grow (grow_alloc _ _)) (by rw [Blk.cell (Blk.new _ _ _)];rfl) (by rw [Blk.cell (Blk.new _ _ _)];rfl) (by rw [Blk.cell (Blk.new _ _ _)];rfl)).mono ?_;rintro e w3 ⟨rfl,hx⟩;have HQ3:=hidden (grow_trans (grow_trans HQ2.out (grow_alloc _ _)) hx);clear hx))
  go_ret;exact ⟨rfl,HQ3.out⟩

theorem droll_bad (hk:Dk w d gv hd) (h:Hv w1 w X gv b g gs R ms cs fr) (hs:s.size≤maxLen) (he:vrE ms s≠0):Kc 32 #[.pointer (some ⟨d,0,none⟩),.string s] w fun e w'=>e=.returned (.int .i64 (vrE ms s))∧Kb w w':=by
  have HBU:Hid (Tryz.prog.built 157 [(0,.pointer (some ⟨d,0,none⟩)),(1,.string s)]=some #[.pointer (some ⟨d,0,none⟩),.string s,.slice none 0 0,.slice none 0 0]):=by rfl
  have HF:=hidden (fun w' hb r q c hr c0 c1=>ver_first hk h hs (.slice none 0 0) (.slice none 0 0) w' hb r q c hr c0 c1);clear h hs hk;generalize vrE ms s=E at he HF ⊢;go_enter Tryz.func32,Tryz.ntmps32
  go_wp2_with (first
    |((with_reducible refine at_bdd 12 ?_);refine wpList_bld _ rfl _ _ rfl _ (by rw [List.map_toArray];exact HBU.out) ?_)
    |((with_reducible refine at_ald 5 ?_);refine wpList_al _ rfl _ rfl _ zero_rq ?_;intro w1 r hg1 hl1 B1 q1;have HG1:=hidden hg1;have HQ1:=hidden q1;clear hg1 hl1 q1)
    |((with_reducible refine at_st 5 ?_);refine wpList_sto _ rfl _ _ _ rfl r _ #[.pointer (some ⟨d,0,none⟩),.string s,.slice none 0 0,.slice none 0 0] rfl rfl B1 size_rq rfl (by simp [Value.oneCell']) ?_;intro w2 B2 r2;have HB2:=hidden B2;have HQ2:=hidden (below_row HQ1.out r2 HG1.out);clear B1 B2 r2)
    |(go_at_call 82;refine (HF.out _ (grow_trans HQ2.out (grow_alloc _ _)) r _ _ (HB2.out.grow (grow_alloc _ _)) (by rw [Blk.cell (Blk.new _ _ _)];rfl) (by rw [Blk.cell (Blk.new _ _ _)];rfl)).mono ?_;rintro e w3 ⟨rfl,hx⟩;have HQ3:=hidden (grow_trans (grow_trans HQ2.out (grow_alloc _ _)) hx);clear hx))
  go_ret;exact ⟨rfl,HQ3.out⟩

theorem dprune_bad (hk:Dk w d gv hd) (h:Hv w1 w X gv b g gs R ms cs fr) (hs:s.size≤maxLen) (he:vrE ms s≠0):Kc 26 #[.pointer (some ⟨d,0,none⟩),.string s] w fun e w'=>e=.returned (.int .i64 (vrE ms s))∧Kb w w':=by
  have HBU:Hid (Tryz.prog.built 157 [(0,.pointer (some ⟨d,0,none⟩)),(1,.string s)]=some #[.pointer (some ⟨d,0,none⟩),.string s,.slice none 0 0,.slice none 0 0]):=by rfl
  have HF:=hidden (fun w' hb r q c hr c0 c1=>ver_first hk h hs (.slice none 0 0) (.slice none 0 0) w' hb r q c hr c0 c1);clear h hs hk;generalize vrE ms s=E at he HF ⊢;go_enter Tryz.func26,Tryz.ntmps26
  go_wp2_with (first
    |((with_reducible refine at_bdd 11 ?_);refine wpList_bld _ rfl _ _ rfl _ (by rw [List.map_toArray];exact HBU.out) ?_)
    |((with_reducible refine at_ald 5 ?_);refine wpList_al _ rfl _ rfl _ zero_rq ?_;intro w1 r hg1 hl1 B1 q1;have HG1:=hidden hg1;have HQ1:=hidden q1;clear hg1 hl1 q1)
    |((with_reducible refine at_st 5 ?_);refine wpList_sto _ rfl _ _ _ rfl r _ #[.pointer (some ⟨d,0,none⟩),.string s,.slice none 0 0,.slice none 0 0] rfl rfl B1 size_rq rfl (by simp [Value.oneCell']) ?_;intro w2 B2 r2;have HB2:=hidden B2;have HQ2:=hidden (below_row HQ1.out r2 HG1.out);clear B1 B2 r2)
    |(go_at_call 82;refine (HF.out _ (grow_trans HQ2.out (grow_alloc _ _)) r _ _ (HB2.out.grow (grow_alloc _ _)) (by rw [Blk.cell (Blk.new _ _ _)];rfl) (by rw [Blk.cell (Blk.new _ _ _)];rfl)).mono ?_;rintro e w3 ⟨rfl,hx⟩;have HQ3:=hidden (grow_trans (grow_trans HQ2.out (grow_alloc _ _)) hx);clear hx))
  go_ret;exact ⟨rfl,HQ3.out⟩

end

end Go.Proofs.YtdjpigfibafokaaGreatDoor
