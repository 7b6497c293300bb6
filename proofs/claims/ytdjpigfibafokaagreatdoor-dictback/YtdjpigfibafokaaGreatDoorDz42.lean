/- A dictionary's Snapshot and Prune. -/
import Derived.Test.YtdjpigfibafokaaGreatDoorDz01
import Derived.Test.YtdjpigfibafokaaGreatDoorDz39
import Derived.Test.YtdjpigfibafokaaGreatDoorDz41
import Derived.Test.YtdjpigfibafokaaGreatDoorDz36
namespace Go.Proofs.YtdjpigfibafokaaGreatDoor
variable {T:Tre}
variable {cs:Lz}
variable {w w':World}
variable {x:Nat}
set_option maxHeartbeats 8000000
set_option maxRecDepth 20000
open Go.RowKit

section
variable {w1 w w':World} {X:List Nat} {d gv hd b g gs R:Nat} {ms:Nms} {G:List UInt8→Tre} {T:Tre} {cs cs':Lz} {fr fr':List Nat} {s:ByteArray}

theorem dsnap_go (h:Ds w1 w X d gv b g gs R ms G hd T cs fr) (hs:s.size≤maxLen) (he:snE ms s=0) (A:Int) (P:World→Prop) (HA:∀w',Kb w w'→Kc 94 #[.pointer (some ⟨gv,0,none⟩),.string s,.int .i64 (hd:Int)] w' fun e w''=>e=.returned (.int .i64 A)∧P w''):Kc 31 #[.pointer (some ⟨d,0,none⟩),.string s] w fun e w'=>e=.returned (.int .i64 A)∧P w':=by
  have HBU:Hid (Tryz.prog.built 157 [(0,.pointer (some ⟨d,0,none⟩)),(1,.string s)]=some #[.pointer (some ⟨d,0,none⟩),.string s,.slice none 0 0,.slice none 0 0]):=by rfl
  have HF:=hidden (fun w' hb r q c hr c0 c1 c2=>snap_first h.dk h.sv.hv hs (.slice none 0 0) (.slice none 0 0) w' hb r q c hr c0 c1 c2);have HD:Hid (∀w',Kb w w'→w'.cell? ⟨d,1,none⟩=some (.pointer (some ⟨gv,0,none⟩))∧w'.cell? ⟨d,2,none⟩=some (.int .i64 (hd:Int))):=fun w' hb=>⟨(h.grow hb).dk.c1,(h.grow hb).dk.c2⟩
  have HAd:=hidden HA;rw [he] at HF;clear h hs he HA;go_enter Tryz.func31,Tryz.ntmps31
  go_wp2_with (first
    |((with_reducible refine at_bdd 9 ?_);refine wpList_bld _ rfl _ _ rfl _ (by rw [List.map_toArray];exact HBU.out) ?_)
    |((with_reducible refine at_ald 5 ?_);refine wpList_al _ rfl _ rfl _ zero_rq ?_;intro w1 r hg1 hl1 B1 q1;have HG1:=hidden hg1;have HQ1:=hidden q1;clear hg1 hl1 q1)
    |((with_reducible refine at_st 5 ?_);refine wpList_sto _ rfl _ _ _ rfl r _ #[.pointer (some ⟨d,0,none⟩),.string s,.slice none 0 0,.slice none 0 0] rfl rfl B1 size_rq rfl (by simp [Value.oneCell']) ?_;intro w2 B2 r2;have HB2:=hidden B2;have HQ2:=hidden (below_row HQ1.out r2 HG1.out);clear B1 B2 r2)
    |(go_at_call 82;refine (HF.out _ (grow_trans HQ2.out (grow_alloc _ _)) r _ _ (HB2.out.grow (grow_alloc _ _)) (by rw [Blk.cell (Blk.new _ _ _)];rfl) (by rw [Blk.cell (Blk.new _ _ _)];rfl) (by rw [Blk.cell (Blk.new _ _ _)];rfl)).mono ?_;rintro e x5 ⟨rfl,hx⟩;have HQ5:=hidden (grow_trans (grow_trans HQ2.out (grow_alloc _ _)) hx);clear hx))
  refine wp_region_wrote (S:=fun w'=>Kb x5 w') [11] (by kernel_rfl) (below_drewN (Below.refl _ _) 1) (fun hHeld=>?_);refine wpAnyW_take0 (i:=0) (v:=.pointer (some ⟨d,0,none⟩)) rfl (by kernel_rfl) (by kernel_rfl) (by kernel_rfl) (by kernel_rfl) (fun _ _ _ h=>h) (Or.inl ⟨by rfl,fun w hS=>by go_simp⟩) (.inr hHeld) ?_;simp only [Act.put,zq1,zq2,zq4,zq5,zq6];refine wpAnyW_take0 (i:=1) (v:=.pointer (some ⟨d,0,none⟩)) rfl (by kernel_rfl) (by kernel_rfl) (by kernel_rfl) (by kernel_rfl) (fun _ _ _ h=>h) (Or.inl ⟨by rfl,fun w hS=>by go_simp⟩) (.inr hHeld) ?_;simp only [Act.put,zq1,zq2,zq3,zq4,zq5,zq6];refine wpAnyW_take0 (i:=2) (v:=.pointer (some ⟨d,1,none⟩)) rfl (by kernel_rfl) (by kernel_rfl) (by kernel_rfl) (by kernel_rfl) (fun _ _ _ h=>h) (Or.inl ⟨by rfl,fun w hS=>by go_simp⟩) (.inr hHeld) ?_;simp only [Act.put,zq1,zq2,zq3,zq4,zq5,zq6];refine wpAnyW_take0 (i:=3) (v:=.pointer (some ⟨d,1,none⟩)) rfl (by kernel_rfl) (by kernel_rfl) (by kernel_rfl) (by kernel_rfl) (fun _ _ _ h=>h) (Or.inl ⟨by rfl,fun w hS=>by go_simp⟩) (.inr hHeld) ?_;simp only [Act.put,zq1,zq2,zq3,zq4,zq5,zq6];refine wpAnyW_take (i:=4) (v:=.pointer (some ⟨gv,0,none⟩)) rfl (by kernel_rfl) (by kernel_rfl) (by kernel_rfl) (by kernel_rfl) (by kernel_rfl) (by kernel_rfl) (fun _ _ _ h=>h) (Or.inl ⟨by rfl,fun w hS=>by (have c1:=(HD.out _ (grow_trans HQ5.out hS)).1;go_simp)⟩) hHeld ?_;simp only [Act.put,zq1,zq2,zq3,zq4,zq5,zq6];refine wpAnyW_take0 (i:=5) (v:=.string s) rfl (by kernel_rfl) (by kernel_rfl) (by kernel_rfl) (by kernel_rfl) (fun _ _ _ h=>h) (Or.inl ⟨by rfl,fun w hS=>by go_simp⟩) (.inr hHeld) ?_;simp only [Act.put,zq1,zq2,zq3,zq4,zq5,zq6];refine wpAnyW_take0 (i:=6) (v:=.pointer (some ⟨d,0,none⟩)) rfl (by kernel_rfl) (by kernel_rfl) (by kernel_rfl) (by kernel_rfl) (fun _ _ _ h=>h) (Or.inl ⟨by rfl,fun w hS=>by go_simp⟩) (.inr hHeld) ?_;simp only [Act.put,zq1,zq2,zq3,zq4,zq5,zq6];refine wpAnyW_take0 (i:=7) (v:=.pointer (some ⟨d,0,none⟩)) rfl (by kernel_rfl) (by kernel_rfl) (by kernel_rfl) (by kernel_rfl) (fun _ _ _ h=>h) (Or.inl ⟨by rfl,fun w hS=>by go_simp⟩) (.inr hHeld) ?_;simp only [Act.put,zq1,zq2,zq3,zq4,zq5,zq6];refine wpAnyW_take0 (i:=8) (v:=.pointer (some ⟨d,1,none⟩)) rfl (by kernel_rfl) (by kernel_rfl) (by kernel_rfl) (by kernel_rfl) (fun _ _ _ h=>h) (Or.inl ⟨by rfl,fun w hS=>by go_simp⟩) (.inr hHeld) ?_;simp only [Act.put,zq1,zq2,zq3,zq4,zq5,zq6];refine wpAnyW_take0 (i:=9) (v:=.pointer (some ⟨d,2,none⟩)) rfl (by kernel_rfl) (by kernel_rfl) (by kernel_rfl) (by kernel_rfl) (fun _ _ _ h=>h) (Or.inl ⟨by rfl,fun w hS=>by go_simp⟩) (.inr hHeld) ?_;simp only [Act.put,zq1,zq2,zq3,zq4,zq5,zq6];refine wpAnyW_take (i:=10) (v:=.int .i64 (hd:Int)) rfl (by kernel_rfl) (by kernel_rfl) (by kernel_rfl) (by kernel_rfl) (by kernel_rfl) (by kernel_rfl) (fun _ _ _ h=>h) (Or.inl ⟨by rfl,fun w hS=>by (have c2:=(HD.out _ (grow_trans HQ5.out hS)).2;go_simp)⟩) hHeld ?_;simp only [Act.put,zq1,zq2,zq3,zq4,zq5,zq6];refine wpAnyW_one (i:=11) rfl (by kernel_rfl) (by kernel_rfl) (fun KQ hK=>?_);go_simp;refine (HAd.out _ (grow_trans HQ5.out hHeld)).mono ?_;rintro e y2 ⟨rfl,hP⟩;refine hK.out _ _ ?_;clear hK KQ;refine wpAnyW_take0 (i:=12) (v:=.int .i64 A) rfl (by kernel_rfl) (by kernel_rfl) (by kernel_rfl) (by kernel_rfl) (fun _ _ _ h=>h) (Or.inl ⟨by rfl,fun w hS=>by go_simp⟩) (.inl (by kernel_rfl)) ?_;simp only [Act.put,zq1,zq2,zq3,zq4,zq5,zq6];refine wpAnyW_done (by kernel_rfl) ?_;go_wp2
  go_ret;exact ⟨rfl,hP⟩

theorem dsnap_any (h:Ds w1 w X d gv b g gs R ms G hd T cs fr) (hs:s.size≤maxLen):
    (snE ms s≠0∧Kc 31 #[.pointer (some ⟨d,0,none⟩),.string s] w fun e w'=>e=.returned (.int .i64 (snE ms s))∧Kb w w')∨
    (snE ms s=0∧nmHas ms s.data.toList=true∧Kc 31 #[.pointer (some ⟨d,0,none⟩),.string s] w fun e w'=>e=.returned (.int .i64 6)∧Kb w w')∨
    (snE ms s=0∧nmHas ms s.data.toList=false∧Kc 31 #[.pointer (some ⟨d,0,none⟩),.string s] w fun e w'=>e=.returned (.int .i64 0)∧∃cs',Ds w1 w' X d gv b g gs R (nmPut ms s.data.toList hd) (upG G s.data.toList T) hd T cs' fr∧noc cs'=noc cs∧Kz X b d w w'):=by
  by_cases he:snE ms s=0
  · have hn:nmOk s=true∧ms.length<16:=by
      unfold snE at he;split at he
      · split at he
        · omega
        · rename_i q1 q2
          exact ⟨q1,by omega⟩
      · omega
    cases hh:nmHas ms s.data.toList with
    | true=>
      refine .inr (.inl ⟨he,rfl,dsnap_go h hs he 6 _ fun w' hb=>(sv_there (h.grow hb).sv hn.1 hh).mono fun e w'' ⟨q1,q2⟩=>⟨q1,grow_trans hb q2⟩⟩)
    | false=>
      refine .inr (.inr ⟨he,rfl,dsnap_go h hs he 0 _ fun w' hb=>(sv_add (h.grow hb).sv hn.1 hh hn.2).mono fun e w'' ⟨cs',q1,q2,q3,_,q5⟩=>⟨q1,cs',⟨(h.grow hb).kx q5,h.dx,h.dg,q2⟩,q3,fun y hy h1 _=>(q5 y hy h1).trans (h.old hb y hy)⟩⟩)
  · exact .inl ⟨he,dsnap_bad h.dk h.sv.hv hs he⟩

theorem dprune_ok (h:Ds w1 w X d gv b g gs R ms G hd T cs fr) (hs:s.size≤maxLen) (he:nmHas ms s.data.toList=true):Kc 26 #[.pointer (some ⟨d,0,none⟩),.string s] w fun e w'=>e=.returned (.int .i64 0)∧∃cs' fr',Ds w1 w' X d gv b g gs R (nmDel ms s.data.toList) G hd T cs' fr'∧noc cs'≤noc cs∧Kz X b d w w':=by
  have hv0:vrE ms s=0:=by rw [vrE,if_pos he]
  have HBU:Hid (Tryz.prog.built 157 [(0,.pointer (some ⟨d,0,none⟩)),(1,.string s)]=some #[.pointer (some ⟨d,0,none⟩),.string s,.slice none 0 0,.slice none 0 0]):=by rfl
  have HF:=hidden (fun w' hb r q c hr c0 c1=>ver_first h.dk h.sv.hv hs (.slice none 0 0) (.slice none 0 0) w' hb r q c hr c0 c1);have HD:Hid (∀w',Kb w w'→w'.cell? ⟨d,1,none⟩=some (.pointer (some ⟨gv,0,none⟩))):=fun w' hb=>(h.grow hb).dk.c1
  have HDr:Hid (∀w',Kb w w'→Kc 85 #[.pointer (some ⟨gv,0,none⟩),.string s] w' fun e w''=>∃n:Int,e=.returned (.tuple #[.int .i64 n,.int .i64 0])∧∃cs' fr',Ds w1 w'' X d gv b g gs R (nmDel ms s.data.toList) G hd T cs' fr'∧noc cs'≤noc cs∧Kz X b d w w''):=fun w' hb=>(sv_drop hs (h.grow hb).sv (nmAt_mem he)).mono fun e w'' ⟨n,q1,cs',fr',m,_,q2,q3,_,q5⟩=>⟨n,q1,cs',fr',⟨(h.grow hb).kx q5,h.dx,h.dg,q2⟩,by omega,fun y hy h1 _=>(q5 y hy h1).trans (h.old hb y hy)⟩
  rw [hv0] at HF;clear h hs he hv0;go_enter Tryz.func26,Tryz.ntmps26
  go_wp2_with (first
    |((with_reducible refine at_bdd 11 ?_);refine wpList_bld _ rfl _ _ rfl _ (by rw [List.map_toArray];exact HBU.out) ?_)
    |((with_reducible refine at_ald 5 ?_);refine wpList_al _ rfl _ rfl _ zero_rq ?_;intro w1 r hg1 hl1 B1 q1;have HG1:=hidden hg1;have HQ1:=hidden q1;clear hg1 hl1 q1)
    |((with_reducible refine at_st 5 ?_);refine wpList_sto _ rfl _ _ _ rfl r _ #[.pointer (some ⟨d,0,none⟩),.string s,.slice none 0 0,.slice none 0 0] rfl rfl B1 size_rq rfl (by simp [Value.oneCell']) ?_;intro w2 B2 r2;have HB2:=hidden B2;have HQ2:=hidden (below_row HQ1.out r2 HG1.out);clear B1 B2 r2)
    |(go_at_call 82;refine (HF.out _ (grow_trans HQ2.out (grow_alloc _ _)) r _ _ (HB2.out.grow (grow_alloc _ _)) (by rw [Blk.cell (Blk.new _ _ _)];rfl) (by rw [Blk.cell (Blk.new _ _ _)];rfl)).mono ?_;rintro e x5 ⟨rfl,hx⟩;have HQ5:=hidden (grow_trans (grow_trans HQ2.out (grow_alloc _ _)) hx);have cc1:=HD.out _ HQ5.out;clear hx)
    |(go_at_call 85;refine (HDr.out _ HQ5.out).mono ?_;rintro e x6 ⟨n6,rfl,hP⟩))
  go_ret;exact ⟨rfl,hP⟩
end

end Go.Proofs.YtdjpigfibafokaaGreatDoor

namespace Go.Proofs.YtdjpigfibafokaaGreatDoor
variable {T:Tre}
variable {cs:Lz}
variable {w w':World}
variable {x:Nat}
set_option maxHeartbeats 8000000
set_option maxRecDepth 20000
open Go.RowKit

structure Rbk (w1 w:World) (X:List Nat) (gv b g gs R:Nat) (ms:Nms) (G:List UInt8→Tre) (hd:Nat) (T:Tre) (v:Nat) (V:Tre) (cs:Lz) (fr:List Nat):Prop where
  hv:Hv w1 w X gv b g gs R ms cs fr
  own:∀j,own cs [] j=nct ms j+(if hd=j+1 then 1 else 0)+(if v=j+1 then 1 else 0)
  rt:Rt cs hd T
  rv:Rt cs v V
  rts:∀p∈ms,Rt cs p.2 (G p.1)
  few:ms.length≤16

section
variable {w1 w w':World} {X:List Nat} {d gv hd b g gs R v:Nat} {ms:Nms} {G:List UInt8→Tre} {T V:Tre} {cs cs':Lz} {fr fr':List Nat} {s:ByteArray}

theorem Rbk.grow (h:Rbk w1 w X gv b g gs R ms G hd T v V cs fr) (hb:Kb w w'):Rbk w1 w' X gv b g gs R ms G hd T v V cs fr:=⟨h.hv.grow hb,h.own,h.rt,h.rv,h.rts,h.few⟩
theorem rbk_zero (h:Sv w1 w X gv b g gs R ms G hd T cs fr) (r:Rt cs 0 V):Rbk w1 w X gv b g gs R ms G hd T 0 V cs fr:=⟨h.hv,fun j=>by rw [h.own];simp,h.rt,r,h.rts,h.few⟩
theorem rbk_hold (h:Sv w1 w X gv b g gs R ms G hd T cs fr) (r:Rt cs v V) (h0:v≠0):Kc 96 #[.pointer (some ⟨g,0,none⟩),.int .i64 (v:Int)] w fun e w'=>∃cs',e=.returned (.int .i64 0)∧Rbk w1 w' X gv b g gs R ms G hd T v V cs' fr∧noc cs'=noc cs∧Kx X b w w':=by
  obtain ⟨i,rfl⟩:∃i,v=i+1:=⟨v-1,by omega⟩;have hc:0<cc cs i:=by
    have:=r.own.resolve_left (by omega);rw [show i+1-1=i from rfl] at this;unfold Go.Proofs.YtdjpigfibafokaaGreatDoor.own at this;omega
  obtain ⟨S,H,_,hk⟩:=h.hv.hs;rw [show (((i+1:Nat)):Int)=(i:Int)+1 from by push_cast;rfl];refine (hs_hold H i hc (h.small i)).mono ?_;rintro e w' ⟨rfl,H'⟩;obtain ⟨k1,k2⟩:=hk _ _ _ H';refine ⟨moreC cs i,rfl,⟨k1,fun j=>?_,rt_more14 h.wf hc h.rt,rt_more14 h.wf hc r,fun p hp=>rt_more14 h.wf hc (h.rts p hp),h.few⟩,moreC_noc hc,k2 b⟩;rw [own_more14 h.wf hc,h.own];have e:(i=j)=(i+1=j+1):=by simp
  simp only [e]
theorem rbk_drop (h:Rbk w1 w X gv b g gs R ms G hd T v V cs fr):Kc 97 #[.pointer (some ⟨g,0,none⟩),.int .i64 (hd:Int)] w fun e w'=>∃x y cs' fr',e=.returned (.tuple #[.int .i64 x,.int .i64 y])∧Sv w1 w' X gv b g gs R ms G v V cs' fr'∧noc cs'≤noc cs∧Kx X b w w':=by
  obtain ⟨S,H,_,hk⟩:=h.hv.hs;cases hd with
  | zero=>
    refine (hs_drop_miss H 0 (Nat.zero_le _)).mono ?_;rintro e w' ⟨rfl,H'⟩;obtain ⟨k1,k2⟩:=hk _ _ _ H';exact ⟨0,7,cs,fr,rfl,⟨k1,fun j=>by rw [h.own];simp,h.rv,h.rts,h.few⟩,Nat.le_refl _,k2 b⟩
  | succ i=>
    have ho:0<Go.Proofs.YtdjpigfibafokaaGreatDoor.own cs [] i:=by rw [h.own,if_pos rfl];omega
    refine (hs_drop H i ho).mono ?_;rintro e w' ⟨cs',fr',n,r,st,rfl,H'⟩;obtain ⟨k1,k2⟩:=hk _ _ _ H';have hown:∀j,Go.Proofs.YtdjpigfibafokaaGreatDoor.own cs' [] j=nct ms j+(if v=j+1 then 1 else 0):=fun j=>by
      rw [own_less14 h.hv.wf st,h.own];have e:(i=j)=(i+1=j+1):=by simp
      simp only [e];omega
    refine ⟨_,_,cs',fr',rfl,⟨k1,hown,rt_stay st.wf st.keep h.rv ?_,fun p hp=>rt_stay st.wf st.keep (h.rts p hp) ?_,h.few⟩,by have:=st.noc;omega,k2 b⟩
    · by_cases e:v=0
      · exact .inl e
      · refine .inr ?_
        rw [hown,if_pos (by omega)];omega
    · by_cases e:p.2=0
      · exact .inl e
      · refine .inr ?_
        rw [hown];have:=nct_pos (ms:=ms) (k:=p.1) (j:=p.2-1) (by rw [show p.2-1+1=p.2 by omega];exact hp);omega

theorem droll_ok (h:Ds w1 w X d gv b g gs R ms G hd T cs fr) (hs:s.size≤maxLen) (he:nmHas ms s.data.toList=true):Kc 32 #[.pointer (some ⟨d,0,none⟩),.string s] w fun e w'=>e=.returned (.int .i64 0)∧∃cs' fr',Ds w1 w' X d gv b g gs R ms G (nmAt ms s.data.toList) (G s.data.toList) cs' fr'∧noc cs'≤noc cs∧Kz X b d w w':=by
  have hv0:vrE ms s=0:=by rw [vrE,if_pos he]
  have hrv:Rt cs (nmAt ms s.data.toList) (G s.data.toList):=h.sv.rts _ (nmAt_mem he);have HBU:Hid (Tryz.prog.built 157 [(0,.pointer (some ⟨d,0,none⟩)),(1,.string s)]=some #[.pointer (some ⟨d,0,none⟩),.string s,.slice none 0 0,.slice none 0 0]):=by rfl
  have HF:=hidden (fun w' hb r q c hr c0 c1=>ver_first h.dk h.sv.hv hs (.slice none 0 0) (.slice none 0 0) w' hb r q c hr c0 c1);have HD:Hid (∀w',Kb w w'→w'.cell? ⟨d,1,none⟩=some (.pointer (some ⟨gv,0,none⟩))∧w'.cell? ⟨d,2,none⟩=some (.int .i64 (hd:Int))):=fun w' hb=>⟨(h.grow hb).dk.c1,(h.grow hb).dk.c2⟩
  have HRo:Hid (Kr w 95 #[.pointer (some ⟨gv,0,none⟩),.string s] (.tuple #[.int .i64 (nmAt ms s.data.toList:Int),.int .i64 0])):=fun w' hb=>(vroot_any (h.grow hb).sv.hv hs).mono fun e w'' ⟨q1,q2⟩=>by
    rw [hv0] at q1;exact ⟨q1,q2 ▸ Below.refl _ _⟩
  have HSt:Hid (Kr w 19 #[.pointer (some ⟨d,0,none⟩)] (.pointer (some ⟨g,0,none⟩))):=fun w' hb=>dstore_ok (h.grow hb).dk (h.grow hb).sv.hv
  have HDs:Hid (∀w',Kb w w'→Ds w1 w' X d gv b g gs R ms G hd T cs fr):=fun w' hb=>h.grow hb
  have hDX:d∈X∧d≠gv:=⟨h.dx,h.dg⟩;have HKz:Hid (∀w',Kb w w'→Kz X b d w w'):=fun w' hb=>h.kz hb
  rw [hv0] at HF;clear h hs he hv0;generalize nmAt ms s.data.toList=v at *;generalize G s.data.toList=V at *
  by_cases hvh:v=hd
  · subst hvh
    have HEnd:Hid (∀w',Kb w w'→Ds w1 w' X d gv b g gs R ms G v V cs fr):=fun w' hb=>by
      have q:=HDs.out w' hb;exact ⟨q.dk,q.dx,q.dg,⟨q.sv.hv,q.sv.own,hrv,q.sv.rts,q.sv.few⟩⟩
    clear hrv HDs hDX;go_enter Tryz.func32,Tryz.ntmps32
    go_wp2_with (first
        |((with_reducible refine at_bdd 12 ?_);refine wpList_bld _ rfl _ _ rfl _ (by rw [List.map_toArray];exact HBU.out) ?_)
        |((with_reducible refine at_ald 5 ?_);refine wpList_al _ rfl _ rfl _ zero_rq ?_;intro w1 r hg1 hl1 B1 q1;have HG1:=hidden hg1;have HQ1:=hidden q1;clear hg1 hl1 q1)
        |((with_reducible refine at_st 5 ?_);refine wpList_sto _ rfl _ _ _ rfl r _ #[.pointer (some ⟨d,0,none⟩),.string s,.slice none 0 0,.slice none 0 0] rfl rfl B1 size_rq rfl (by simp [Value.oneCell']) ?_;intro w2 B2 r2;have HB2:=hidden B2;have HQ2:=hidden (below_row HQ1.out r2 HG1.out);clear B1 B2 r2)
        |(go_at_call 82;refine (HF.out _ (grow_trans HQ2.out (grow_alloc _ _)) r _ _ (HB2.out.grow (grow_alloc _ _)) (by rw [Blk.cell (Blk.new _ _ _)];rfl) (by rw [Blk.cell (Blk.new _ _ _)];rfl)).mono ?_;rintro e x5 ⟨rfl,hx⟩;have HQ5:=hidden (grow_trans (grow_trans HQ2.out (grow_alloc _ _)) hx);have cc1:=(HD.out _ HQ5.out).1;clear hx)
        |(go_at_call 95;refine (HRo.out _ HQ5.out).mono ?_;rintro e x6 ⟨rfl,b6⟩;have HQ6:=hidden (grow_trans HQ5.out b6);have cc2:=(HD.out _ HQ6.out).2;clear b6))
    go_ret;exact ⟨rfl,cs,fr,HEnd.out _ HQ6.out,Nat.le_refl _,HKz.out _ HQ6.out⟩
  · have zvh:((v:Int) == (hd:Int))=false:=by simp;omega
    have HEnd:Hid (∀w' cs' fr',Dk w' d gv hd→Sv w1 w' X gv b g gs R ms G v V cs' fr'→Ds w1 (w'.setCell ⟨d,2,none⟩ (.int .i64 (v:Int))) X d gv b g gs R ms G v V cs' fr'):=fun w' cs' fr' q1 q2=>Ds.move q1 hDX.1 hDX.2 q2
    have HDw:Hid (∀x cs0 fr0,Dk x d gv hd→Rbk w1 x X gv b g gs R ms G hd T v V cs0 fr0→∀w',Kb x w'→Kc 97 #[.pointer (some ⟨g,0,none⟩),.int .i64 (hd:Int)] w' fun e w''=>∃xx yy cs' fr',e=.returned (.tuple #[.int .i64 xx,.int .i64 yy])∧Sv w1 w'' X gv b g gs R ms G v V cs' fr'∧noc cs'≤noc cs0∧Dk w'' d gv hd∧∀y∈X,y≠b→w''.heap[y]?=x.heap[y]?):=fun x cs0 fr0 q1 q2 w' hb=>(rbk_drop (q2.grow hb)).mono fun e w'' ⟨xx,yy,cs',fr',r1,r2,r3,r4⟩=>by
      have hne:d≠b:=fun e=>(q2.hv).vm.notCells (e ▸ q1) rfl
      exact ⟨xx,yy,cs',fr',r1,r2,r3,blk_at (q1.grow hb) (r4 d hDX.1 hne),fun y hy hyb=>(r4 y hy hyb).trans (q2.hv.kx hb (y+1) y hy (by omega))⟩
    have HSw:Hid (∀x cs0 fr0,Dk x d gv hd→Rbk w1 x X gv b g gs R ms G hd T v V cs0 fr0→Kr x 19 #[.pointer (some ⟨d,0,none⟩)] (.pointer (some ⟨g,0,none⟩))):=fun x cs0 fr0 q1 q2 w' hb=>dstore_ok (q1.grow hb) (q2.hv.grow hb)
    by_cases hv0:v=0
    · subst hv0
      have HS0:Hid (∀w',Kb w w'→Dk w' d gv hd∧Rbk w1 w' X gv b g gs R ms G hd T 0 V cs fr):=fun w' hb=>⟨(HDs.out w' hb).dk,rbk_zero (HDs.out w' hb).sv hrv⟩
      clear hrv HDs hDX hvh;go_enter Tryz.func32,Tryz.ntmps32
      go_wp2_with (first
        |((with_reducible refine at_bdd 12 ?_);refine wpList_bld _ rfl _ _ rfl _ (by rw [List.map_toArray];exact HBU.out) ?_)
        |((with_reducible refine at_ald 5 ?_);refine wpList_al _ rfl _ rfl _ zero_rq ?_;intro w1 r hg1 hl1 B1 q1;have HG1:=hidden hg1;have HQ1:=hidden q1;clear hg1 hl1 q1)
        |((with_reducible refine at_st 5 ?_);refine wpList_sto _ rfl _ _ _ rfl r _ #[.pointer (some ⟨d,0,none⟩),.string s,.slice none 0 0,.slice none 0 0] rfl rfl B1 size_rq rfl (by simp [Value.oneCell']) ?_;intro w2 B2 r2;have HB2:=hidden B2;have HQ2:=hidden (below_row HQ1.out r2 HG1.out);clear B1 B2 r2)
        |(go_at_call 82;refine (HF.out _ (grow_trans HQ2.out (grow_alloc _ _)) r _ _ (HB2.out.grow (grow_alloc _ _)) (by rw [Blk.cell (Blk.new _ _ _)];rfl) (by rw [Blk.cell (Blk.new _ _ _)];rfl)).mono ?_;rintro e x5 ⟨rfl,hx⟩;have HQ5:=hidden (grow_trans (grow_trans HQ2.out (grow_alloc _ _)) hx);have cc1:=(HD.out _ HQ5.out).1;clear hx)
        |(go_at_call 95;refine (HRo.out _ HQ5.out).mono ?_;rintro e x6 ⟨rfl,b6⟩;have HQ6:=hidden (grow_trans HQ5.out b6);have cc2:=(HD.out _ HQ6.out).2;clear b6))
      obtain ⟨hk6,hw6⟩:=HS0.out _ HQ6.out;refine wp_region_wrote (S:=fun w'=>Kb x6 w') [7] (by kernel_rfl) (below_drewN (Below.refl _ _) 1) (fun hHeld=>?_);refine wpAnyW_take0 (i:=0) (v:=.pointer (some ⟨d,0,none⟩)) rfl (by kernel_rfl) (by kernel_rfl) (by kernel_rfl) (by kernel_rfl) (fun _ _ _ h=>h) (Or.inl ⟨by rfl,fun w hS=>by go_simp⟩) (.inr hHeld) ?_;simp only [Act.put,zq1,zq2,zq4,zq5,zq6];refine wpAnyW_take0 (i:=2) (v:=.pointer (some ⟨d,0,none⟩)) rfl (by kernel_rfl) (by kernel_rfl) (by kernel_rfl) (by kernel_rfl) (fun _ _ _ h=>h) (Or.inl ⟨by rfl,fun w hS=>by go_simp⟩) (.inr hHeld) ?_;simp only [Act.put,zq1,zq2,zq3,zq4,zq5,zq6];refine wpAnyW_take0 (i:=3) (v:=.pointer (some ⟨d,0,none⟩)) rfl (by kernel_rfl) (by kernel_rfl) (by kernel_rfl) (by kernel_rfl) (fun _ _ _ h=>h) (Or.inl ⟨by rfl,fun w hS=>by go_simp⟩) (.inr hHeld) ?_;simp only [Act.put,zq1,zq2,zq3,zq4,zq5,zq6];refine wpAnyW_take0 (i:=4) (v:=.pointer (some ⟨d,1,none⟩)) rfl (by kernel_rfl) (by kernel_rfl) (by kernel_rfl) (by kernel_rfl) (fun _ _ _ h=>h) (Or.inl ⟨by rfl,fun w hS=>by go_simp⟩) (.inr hHeld) ?_;simp only [Act.put,zq1,zq2,zq3,zq4,zq5,zq6];refine wpAnyW_take0 (i:=5) (v:=.pointer (some ⟨d,2,none⟩)) rfl (by kernel_rfl) (by kernel_rfl) (by kernel_rfl) (by kernel_rfl) (fun _ _ _ h=>h) (Or.inl ⟨by rfl,fun w hS=>by go_simp⟩) (.inr hHeld) ?_;simp only [Act.put,zq1,zq2,zq3,zq4,zq5,zq6];refine wpAnyW_take (i:=6) (v:=.int .i64 (hd:Int)) rfl (by kernel_rfl) (by kernel_rfl) (by kernel_rfl) (by kernel_rfl) (by kernel_rfl) (by kernel_rfl) (fun _ _ _ h=>h) (Or.inl ⟨by rfl,fun w hS=>by (have c2:=(hk6.grow hS).c2;go_simp)⟩) hHeld ?_;simp only [Act.put,zq1,zq2,zq3,zq4,zq5,zq6];refine wpAnyW_keep (i:=1) rfl (by kernel_rfl) (fun KQ hK=>?_);go_simp;refine (HSw.out _ _ _ hk6 hw6 _ hHeld).mono ?_;rintro e y1 ⟨rfl,a1⟩;refine hK.out _ _ (grow_trans hHeld a1) ?_;have hHeld:=grow_trans hHeld a1;clear hK KQ;refine wpAnyW_one (i:=7) rfl (by kernel_rfl) (by kernel_rfl) (fun KQ hK=>?_);go_simp;refine (HDw.out _ _ _ hk6 hw6 _ hHeld).mono ?_;rintro e y2 ⟨xx,yy,cs',fr',rfl,hsv,hno,hdk,q5⟩;refine hK.out _ _ ?_;clear hK KQ;refine wpAnyW_done (by kernel_rfl) ?_;have hbf:=Blk.frozen hdk 2;have cc2:=hdk.c2;go_wp2
      go_ret;exact ⟨rfl,cs',fr',HEnd.out _ _ _ hdk hsv,hno,fun y hy h1 h2=>((heap_setCell_other _ _ y _ h2).trans (q5 y hy h1)).trans (HKz.out _ HQ6.out y hy h1 h2)⟩
    · have zv0:((v:Int) != 0)=true:=by simp;omega
      have HHo:Hid (∀w',Kb w w'→Kc 96 #[.pointer (some ⟨g,0,none⟩),.int .i64 (v:Int)] w' fun e w''=>∃cs',e=.returned (.int .i64 0)∧Dk w'' d gv hd∧Rbk w1 w'' X gv b g gs R ms G hd T v V cs' fr∧noc cs'=noc cs∧∀y∈X,y≠b→w''.heap[y]?=w'.heap[y]?):=fun w' hb=>by
        have q:=HDs.out w' hb;exact (rbk_hold q.sv hrv hv0).mono fun e w'' ⟨cs',r1,r2,r3,r4⟩=>⟨cs',r1,q.kx r4,r2,r3,r4⟩
      clear hrv HDs hDX hvh hv0;go_enter Tryz.func32,Tryz.ntmps32
      go_wp2_with (first
        |((with_reducible refine at_bdd 12 ?_);refine wpList_bld _ rfl _ _ rfl _ (by rw [List.map_toArray];exact HBU.out) ?_)
        |((with_reducible refine at_ald 5 ?_);refine wpList_al _ rfl _ rfl _ zero_rq ?_;intro w1 r hg1 hl1 B1 q1;have HG1:=hidden hg1;have HQ1:=hidden q1;clear hg1 hl1 q1)
        |((with_reducible refine at_st 5 ?_);refine wpList_sto _ rfl _ _ _ rfl r _ #[.pointer (some ⟨d,0,none⟩),.string s,.slice none 0 0,.slice none 0 0] rfl rfl B1 size_rq rfl (by simp [Value.oneCell']) ?_;intro w2 B2 r2;have HB2:=hidden B2;have HQ2:=hidden (below_row HQ1.out r2 HG1.out);clear B1 B2 r2)
        |(go_at_call 82;refine (HF.out _ (grow_trans HQ2.out (grow_alloc _ _)) r _ _ (HB2.out.grow (grow_alloc _ _)) (by rw [Blk.cell (Blk.new _ _ _)];rfl) (by rw [Blk.cell (Blk.new _ _ _)];rfl)).mono ?_;rintro e x5 ⟨rfl,hx⟩;have HQ5:=hidden (grow_trans (grow_trans HQ2.out (grow_alloc _ _)) hx);have cc1:=(HD.out _ HQ5.out).1;clear hx)
        |(go_at_call 95;refine (HRo.out _ HQ5.out).mono ?_;rintro e x6 ⟨rfl,b6⟩;have HQ6:=hidden (grow_trans HQ5.out b6);have cc2:=(HD.out _ HQ6.out).2;clear b6)
        |(go_at_call 19;refine (HSt.out _ HQ6.out).mono ?_;rintro e x7 ⟨rfl,b7⟩;have HQ7:=hidden (grow_trans HQ6.out b7);clear b7)
        |(go_at_call 96;refine (HHo.out _ HQ7.out).mono ?_;rintro e x8 ⟨cs8,rfl,hk6,hw6,hn8,q8⟩))
      refine wp_region_wrote (S:=fun w'=>Kb x8 w') [7] (by kernel_rfl) (below_drewN (Below.refl _ _) 1) (fun hHeld=>?_);refine wpAnyW_take0 (i:=0) (v:=.pointer (some ⟨d,0,none⟩)) rfl (by kernel_rfl) (by kernel_rfl) (by kernel_rfl) (by kernel_rfl) (fun _ _ _ h=>h) (Or.inl ⟨by rfl,fun w hS=>by go_simp⟩) (.inr hHeld) ?_;simp only [Act.put,zq1,zq2,zq4,zq5,zq6];refine wpAnyW_take0 (i:=2) (v:=.pointer (some ⟨d,0,none⟩)) rfl (by kernel_rfl) (by kernel_rfl) (by kernel_rfl) (by kernel_rfl) (fun _ _ _ h=>h) (Or.inl ⟨by rfl,fun w hS=>by go_simp⟩) (.inr hHeld) ?_;simp only [Act.put,zq1,zq2,zq3,zq4,zq5,zq6];refine wpAnyW_take0 (i:=3) (v:=.pointer (some ⟨d,0,none⟩)) rfl (by kernel_rfl) (by kernel_rfl) (by kernel_rfl) (by kernel_rfl) (fun _ _ _ h=>h) (Or.inl ⟨by rfl,fun w hS=>by go_simp⟩) (.inr hHeld) ?_;simp only [Act.put,zq1,zq2,zq3,zq4,zq5,zq6];refine wpAnyW_take0 (i:=4) (v:=.pointer (some ⟨d,1,none⟩)) rfl (by kernel_rfl) (by kernel_rfl) (by kernel_rfl) (by kernel_rfl) (fun _ _ _ h=>h) (Or.inl ⟨by rfl,fun w hS=>by go_simp⟩) (.inr hHeld) ?_;simp only [Act.put,zq1,zq2,zq3,zq4,zq5,zq6];refine wpAnyW_take0 (i:=5) (v:=.pointer (some ⟨d,2,none⟩)) rfl (by kernel_rfl) (by kernel_rfl) (by kernel_rfl) (by kernel_rfl) (fun _ _ _ h=>h) (Or.inl ⟨by rfl,fun w hS=>by go_simp⟩) (.inr hHeld) ?_;simp only [Act.put,zq1,zq2,zq3,zq4,zq5,zq6];refine wpAnyW_take (i:=6) (v:=.int .i64 (hd:Int)) rfl (by kernel_rfl) (by kernel_rfl) (by kernel_rfl) (by kernel_rfl) (by kernel_rfl) (by kernel_rfl) (fun _ _ _ h=>h) (Or.inl ⟨by rfl,fun w hS=>by (have c2:=(hk6.grow hS).c2;go_simp)⟩) hHeld ?_;simp only [Act.put,zq1,zq2,zq3,zq4,zq5,zq6];refine wpAnyW_keep (i:=1) rfl (by kernel_rfl) (fun KQ hK=>?_);go_simp;refine (HSw.out _ _ _ hk6 hw6 _ hHeld).mono ?_;rintro e y1 ⟨rfl,a1⟩;refine hK.out _ _ (grow_trans hHeld a1) ?_;have hHeld:=grow_trans hHeld a1;clear hK KQ;refine wpAnyW_one (i:=7) rfl (by kernel_rfl) (by kernel_rfl) (fun KQ hK=>?_);go_simp;refine (HDw.out _ _ _ hk6 hw6 _ hHeld).mono ?_;rintro e y2 ⟨xx,yy,cs',fr',rfl,hsv,hno,hdk,q5⟩;refine hK.out _ _ ?_;clear hK KQ;refine wpAnyW_done (by kernel_rfl) ?_;have hbf:=Blk.frozen hdk 2;have cc2:=hdk.c2;go_wp2
      go_ret;exact ⟨rfl,cs',fr',HEnd.out _ _ _ hdk hsv,by omega,fun y hy h1 h2=>(((heap_setCell_other _ _ y _ h2).trans (q5 y hy h1)).trans (q8 y hy h1)).trans (HKz.out _ HQ7.out y hy h1 h2)⟩
end

end Go.Proofs.YtdjpigfibafokaaGreatDoor

namespace Go.Proofs.YtdjpigfibafokaaGreatDoor
variable {T:Tre}
variable {cs:Lz}
variable {w w':World}
variable {x:Nat}
set_option maxHeartbeats 8000000
set_option maxRecDepth 20000
open Go.RowKit

structure A15 where
  kd:Int
  s:ByteArray
  kv:Value
  k:Lq
  vv:Value
  b:Lq
  lv:Value
  l:List Rw
  q:Int
def A15.cells (x:A15):List Value:=[.int .u8 x.kd,.string x.s,x.kv,x.vv,x.lv,.int .i64 x.q]
structure A15Ok (w:World) (x:A15):Prop where
  ss:x.s.size≤maxLen
  kr:Reads w x.kv x.k
  vr:Reads w x.vv x.b
  lr:RwAt w x.lv x.l
  few:x.l.length≤140737488355328
theorem A15Ok.grow {x:A15} (h:A15Ok w x) (hb:Kb w w'):A15Ok w' x:=⟨h.ss,h.kr.grow hb,h.vr.grow hb,h.lr.grow hb,h.few⟩

def Dst (w1 w:World) (d R:Nat) (Y:List Nat) (Φ:Nms→(List UInt8→Tre)→Tre→Nat→Prop):Prop:=∃X gv b g gs ms G hd T cs fr,Ds w1 w X d gv b g gs R ms G hd T cs fr∧(∀y∈Y,y∈X∧y≠b∧y≠d)∧Φ ms G T (noc cs)
def Keep (Y:List Nat) (w w':World):Prop:=∀y∈Y,w'.heap[y]?=w.heap[y]?
section
variable {w1 w w':World} {d R:Nat} {Y:List Nat} {Φ Ψ:Nms→(List UInt8→Tre)→Tre→Nat→Prop}
theorem Dst.imp (h:Dst w1 w d R Y Φ) (k:∀ms G T o,Φ ms G T o→Ψ ms G T o):Dst w1 w d R Y Ψ:=by
  obtain ⟨X,gv,b,g,gs,ms,G,hd,T,cs,fr,h1,h2,h3⟩:=h;exact ⟨X,gv,b,g,gs,ms,G,hd,T,cs,fr,h1,h2,k _ _ _ _ h3⟩
theorem Dst.grow (h:Dst w1 w d R Y Φ) (hb:Kb w w'):Dst w1 w' d R Y Φ:=by
  obtain ⟨X,gv,b,g,gs,ms,G,hd,T,cs,fr,h1,h2,h3⟩:=h;exact ⟨X,gv,b,g,gs,ms,G,hd,T,cs,fr,h1.grow hb,h2,h3⟩
theorem Dst.low (h:Dst w1 w d R Y Φ):Kb w1 w:=by
  obtain ⟨X,gv,b,g,gs,ms,G,hd,T,cs,fr,h1,h2,h3⟩:=h;exact h1.low
theorem Dst.keep (h:Dst w1 w d R Y Φ) (hb:Kb w w'):Keep Y w w':=by
  obtain ⟨X,gv,b,g,gs,ms,G,hd,T,cs,fr,h1,h2,h3⟩:=h;exact fun y hy=>h1.old hb y (h2 y hy).1
theorem Dst.add (h:Dst w1 w d R Y Φ) (hb:Kb w w') (hx:w.heap.size≤x) (hlt:x<w'.heap.size):Dst w1 w' d R (x::Y) Φ:=by
  obtain ⟨X,gv,b,g,gs,ms,G,hd,T,cs,fr,h1,h2,h3⟩:=h;refine ⟨x::X,gv,b,g,gs,ms,G,hd,T,cs,fr,h1.add hb hx hlt,fun y hy=>?_,h3⟩;rcases List.mem_cons.1 hy with rfl | hy
  · have:=h1.sv.hv.vm.lt
    have:=Blk.lt h1.dk;exact ⟨List.mem_cons_self,by omega,by omega⟩
  · exact ⟨List.mem_cons_of_mem _ (h2 y hy).1,(h2 y hy).2⟩
end

def Oth (ms:Nms) (G:List UInt8→Tre) (k0:List UInt8) (ms':Nms) (G':List UInt8→Tre):Prop:=∀k,k≠k0→nmHas ms' k=nmHas ms k∧G' k=G k
theorem Oth.refl (ms:Nms) (G:List UInt8→Tre) (k0:List UInt8):Oth ms G k0 ms G:=fun _ _=>⟨rfl,rfl⟩
theorem oth_put {ms:Nms} {G:List UInt8→Tre} {k0:List UInt8} {v:Nat} (h:nmHas ms k0=false):Oth ms G k0 (nmPut ms k0 v) (upG G k0 T):=fun k hk=>by
  refine ⟨?_,by rw [upG,if_neg hk]⟩;rw [nmPut_new h,Bool.eq_iff_iff,nmHas_iff,nmHas_iff];simp [hk]
theorem oth_del {ms:Nms} {G:List UInt8→Tre} {k0:List UInt8}:Oth ms G k0 (nmDel ms k0) G:=fun k hk=>by
  refine ⟨?_,rfl⟩;rw [Bool.eq_iff_iff,nmHas_iff,nmHas_iff,List.mem_map,List.mem_map];constructor
  · rintro ⟨p,h1,h2⟩
    exact ⟨p,(nmDel_mem.1 h1).1,h2⟩
  · rintro ⟨p,h1,h2⟩
    exact ⟨p,nmDel_mem.2 ⟨h1,fun e=>hk (h2.symm.trans e)⟩,h2⟩

def A15.most (x:A15):Nat:=if x.kd≤1 then 258 else if x.kd=2 then 258 * x.l.length else 0

section
variable {w1 w:World} {X:List Nat} {d gv hd b g gs R:Nat} {ms:Nms} {G:List UInt8→Tre} {T:Tre} {cs:Lz} {fr:List Nat} {Y:List Nat}

theorem size_a15:(Tryz.prog.info? 33).map (·.size)=some 6:=by kernel_rfl

theorem do15_any (h:Ds w1 w X d gv b g gs R ms G hd T cs fr) (hY:∀y∈Y,y∈X∧y≠b∧y≠d) {x:A15} (hx:A15Ok w1 x) (hL:∀z,Kb w1 z→Laid z):Kc 16 #[.pointer (some ⟨d,0,none⟩),.agg x.cells.toArray] w fun e w'=>e=.returned (.tuple #[])∧(Dst w1 w' d R Y (fun ms' G' _ o'=>Oth ms G x.s.data.toList ms' G'∧o'≤noc cs+x.most)∧Keep Y w w'):=by
  have hxw:=hx.grow h.low;have HKz:Hid (∀w',Kz X b d w w'→Keep Y w w'):=fun w' q y hy=>q y (hY y hy).1 (hY y hy).2.1 (hY y hy).2.2
  have HSame:Hid (∀w',Kb w w'→(Dst w1 w' d R Y (fun ms' G' _ o'=>Oth ms G x.s.data.toList ms' G'∧o'≤noc cs+x.most)∧Keep Y w w')):=fun w' q=>⟨⟨X,gv,b,g,gs,ms,G,hd,T,cs,fr,h.grow q,hY,Oth.refl _ _ _,by omega⟩,HKz.out _ (h.kz q)⟩
  have HP:Hid (x.kd=0→∀w',Kb w w'→Kc 29 #[.pointer (some ⟨d,0,none⟩),x.kv,x.vv] w' fun e w''=>(∃r,e=.returned r)∧(Dst w1 w'' d R Y (fun ms' G' _ o'=>Oth ms G x.s.data.toList ms' G'∧o'≤noc cs+x.most)∧Keep Y w w'')):=fun hk w' hb=>(dput_any (h.grow hb) (hxw.kr.grow hb) (fun z hz=>hx.vr.grow hz) hL).mono fun e w'' ⟨e1,e2⟩=>by
    refine ⟨⟨_,e1⟩,?_⟩;rcases e2 with ⟨_,q⟩ | ⟨_,top,T',cs',fr',q1,_,q2,q3⟩
    · exact HSame.out _ (grow_trans hb q)
    · exact ⟨⟨X,gv,b,g,gs,ms,G,top,T',cs',fr',q1,hY,Oth.refl _ _ _,by unfold A15.most;rw [if_pos (by omega)];exact q2⟩,HKz.out _ ((h.kz hb).trans q3)⟩
  have HDl:Hid (x.kd=1→∀w',Kb w w'→Kc 30 #[.pointer (some ⟨d,0,none⟩),x.kv] w' fun e w''=>(∃r,e=.returned r)∧(Dst w1 w'' d R Y (fun ms' G' _ o'=>Oth ms G x.s.data.toList ms' G'∧o'≤noc cs+x.most)∧Keep Y w w'')):=fun hk w' hb=>(ddel_any (h.grow hb) (hxw.kr.grow hb) hL).mono fun e w'' q=>by
    rcases q with ⟨_,e1,q⟩ | ⟨_,e1,top,T',cs',fr',q1,_,q2,q3⟩
    · exact ⟨⟨_,e1⟩,HSame.out _ (grow_trans hb q)⟩
    · exact ⟨⟨_,e1⟩,⟨X,gv,b,g,gs,ms,G,top,T',cs',fr',q1,hY,Oth.refl _ _ _,by unfold A15.most;rw [if_pos (by omega)];exact q2⟩,HKz.out _ ((h.kz hb).trans q3)⟩
  have HB:Hid (x.kd=2→∀w',Kb w w'→Kc 52 #[.pointer (some ⟨d,0,none⟩),x.lv] w' fun e w''=>(∃r,e=.returned r)∧(Dst w1 w'' d R Y (fun ms' G' _ o'=>Oth ms G x.s.data.toList ms' G'∧o'≤noc cs+x.most)∧Keep Y w w'')):=fun hk w' hb=>(dbat_any (h.grow hb) (hxw.lr.grow hb) hx.few (fun y hy z hz=>by obtain ⟨_,_,_,_,_,q⟩:=hx.lr;exact (q y hy).2.grow hz) hL).mono fun e w'' ⟨e1,e2⟩=>by
    refine ⟨⟨_,e1⟩,?_⟩;rcases e2 with ⟨_,q⟩ | ⟨_,ks,top,T',cs',fr',_,q1,_,q2,q3⟩
    · exact HSame.out _ (grow_trans hb q)
    · exact ⟨⟨X,gv,b,g,gs,ms,G,top,T',cs',fr',q1,hY,Oth.refl _ _ _,by unfold A15.most;rw [if_neg (by omega),if_pos hk];exact q2⟩,HKz.out _ ((h.kz hb).trans q3)⟩
  have HSn:Hid (∀w',Kb w w'→Kc 31 #[.pointer (some ⟨d,0,none⟩),.string x.s] w' fun e w''=>(∃r,e=.returned r)∧(Dst w1 w'' d R Y (fun ms' G' _ o'=>Oth ms G x.s.data.toList ms' G'∧o'≤noc cs+x.most)∧Keep Y w w'')):=fun w' hb=>by
    rcases dsnap_any (h.grow hb) hx.ss with ⟨_,q⟩ | ⟨_,_,q⟩ | ⟨_,hn,q⟩
    · exact q.mono fun e w'' ⟨e1,e2⟩=>⟨⟨_,e1⟩,HSame.out _ (grow_trans hb e2)⟩
    · exact q.mono fun e w'' ⟨e1,e2⟩=>⟨⟨_,e1⟩,HSame.out _ (grow_trans hb e2)⟩
    · exact q.mono fun e w'' ⟨e1,cs',e2,e3,e4⟩=>⟨⟨_,e1⟩,⟨X,gv,b,g,gs,_,_,hd,T,cs',fr,e2,hY,oth_put hn,by omega⟩,HKz.out _ ((h.kz hb).trans e4)⟩
  have HRo:Hid (∀w',Kb w w'→Kc 32 #[.pointer (some ⟨d,0,none⟩),.string x.s] w' fun e w''=>(∃r,e=.returned r)∧(Dst w1 w'' d R Y (fun ms' G' _ o'=>Oth ms G x.s.data.toList ms' G'∧o'≤noc cs+x.most)∧Keep Y w w'')):=fun w' hb=>by
    cases hn:nmHas ms x.s.data.toList with
    | true=>exact (droll_ok (h.grow hb) hx.ss hn).mono fun e w'' ⟨e1,cs',fr',e2,e3,e4⟩=>⟨⟨_,e1⟩,⟨X,gv,b,g,gs,ms,G,_,_,cs',fr',e2,hY,Oth.refl _ _ _,by omega⟩,HKz.out _ ((h.kz hb).trans e4)⟩
    | false=>exact (droll_bad (h.grow hb).dk (h.grow hb).sv.hv hx.ss (by rw [vrE,if_neg (by rw [hn];simp)];omega)).mono fun e w'' ⟨e1,e2⟩=>⟨⟨_,e1⟩,HSame.out _ (grow_trans hb e2)⟩
  have HPr:Hid (∀w',Kb w w'→Kc 26 #[.pointer (some ⟨d,0,none⟩),.string x.s] w' fun e w''=>(∃r,e=.returned r)∧(Dst w1 w'' d R Y (fun ms' G' _ o'=>Oth ms G x.s.data.toList ms' G'∧o'≤noc cs+x.most)∧Keep Y w w'')):=fun w' hb=>by
    cases hn:nmHas ms x.s.data.toList with
    | true=>exact (dprune_ok (h.grow hb) hx.ss hn).mono fun e w'' ⟨e1,cs',fr',e2,e3,e4⟩=>⟨⟨_,e1⟩,⟨X,gv,b,g,gs,_,G,hd,T,cs',fr',e2,hY,oth_del,by omega⟩,HKz.out _ ((h.kz hb).trans e4)⟩
    | false=>exact (dprune_bad (h.grow hb).dk (h.grow hb).sv.hv hx.ss (by rw [vrE,if_neg (by rw [hn];simp)];omega)).mono fun e w'' ⟨e1,e2⟩=>⟨⟨_,e1⟩,HSame.out _ (grow_trans hb e2)⟩
  obtain ⟨ka,kc,hkv⟩:=reads_len hxw.kr;obtain ⟨va,vc,hvv⟩:=reads_len hxw.vr;obtain ⟨la,lc,hlv⟩:∃a c,x.lv=.slice a x.l.length c:=by obtain ⟨a,c,e,_⟩:=hx.lr;exact ⟨a,c,e⟩
  rw [hkv,hvv] at HP;rw [hkv] at HDl;rw [hlv] at HB;generalize hPD:(fun (ms':Nms) (G':List UInt8→Tre) (_:Tre) (o':Nat)=>Oth ms G x.s.data.toList ms' G'∧o'≤noc cs+x.most)=Φ at *;unfold A15.cells;rw [hkv,hvv,hlv];generalize x.k.length=kl at *;generalize x.b.length=bl at *;generalize x.l.length=ll at *;generalize x.kd=kd at *;generalize x.s=s at *;generalize x.q=q at *;clear hPD hxw hx hL hkv hvv hlv h HKz hY;have cc:∀w g,Blk w g 33 #[.int .u8 kd,.string s,.slice ka kl kc,.slice va bl vc,.slice la ll lc,.int .i64 q]→w.cell? ⟨g,0,none⟩=some (.int .u8 kd)∧w.cell? ⟨g,1,none⟩=some (.string s)∧w.cell? ⟨g,2,none⟩=some (.slice ka kl kc)∧w.cell? ⟨g,3,none⟩=some (.slice va bl vc)∧w.cell? ⟨g,4,none⟩=some (.slice la ll lc):=fun w g hb=>⟨by rw [hb.cell];rfl,by rw [hb.cell];rfl,by rw [hb.cell];rfl,by rw [hb.cell];rfl,by rw [hb.cell];rfl⟩
  have CC:=hidden cc;clear cc
  by_cases k0:kd=0
  · replace HP:=hidden (HP.out k0)
    subst k0;clear HDl HB;go_enter Tryz.func16,Tryz.ntmps16
    go_wp2_with (first
      |((with_reducible refine at_bxd 3 ?_);refine wpList_bx _ rfl _ _ rfl _ rfl ?_;intro x1 g3 hg3 hl3 B3 b1;obtain ⟨cc0,cc1,cc2,cc3,cc4⟩:=CC.out _ _ B3)
      |(go_at_call 29;refine (HP.out _ b1).mono ?_;rintro e x2 ⟨⟨rr,rfl⟩,hq⟩))
    exact bodyPost_end (results_none rfl _ _ _) rfl ⟨rfl,hq⟩
  have z0:(kd == 0)=false:=by simp [k0]
  clear HP
  by_cases k1:kd=1
  · replace HDl:=hidden (HDl.out k1)
    subst k1;clear HB;go_enter Tryz.func16,Tryz.ntmps16
    go_wp2_with (first
      |((with_reducible refine at_bxd 3 ?_);refine wpList_bx _ rfl _ _ rfl _ rfl ?_;intro x1 g3 hg3 hl3 B3 b1;obtain ⟨cc0,cc1,cc2,cc3,cc4⟩:=CC.out _ _ B3)
      |(go_at_call 30;refine (HDl.out _ b1).mono ?_;rintro e x2 ⟨⟨rr,rfl⟩,hq⟩))
    exact bodyPost_end (results_none rfl _ _ _) rfl ⟨rfl,hq⟩
  have z1:(kd == 1)=false:=by simp [k1]
  clear HDl
  by_cases k2:kd=2
  · replace HB:=hidden (HB.out k2)
    subst k2;go_enter Tryz.func16,Tryz.ntmps16
    go_wp2_with (first
      |((with_reducible refine at_bxd 3 ?_);refine wpList_bx _ rfl _ _ rfl _ rfl ?_;intro x1 g3 hg3 hl3 B3 b1;obtain ⟨cc0,cc1,cc2,cc3,cc4⟩:=CC.out _ _ B3)
      |(go_at_call 52;refine (HB.out _ b1).mono ?_;rintro e x2 ⟨⟨rr,rfl⟩,hq⟩))
    exact bodyPost_end (results_none rfl _ _ _) rfl ⟨rfl,hq⟩
  have z2:(kd == 2)=false:=by simp [k2]
  clear HB
  by_cases k7:kd=7
  · subst k7
    go_enter Tryz.func16,Tryz.ntmps16
    go_wp2_with (first
      |((with_reducible refine at_bxd 3 ?_);refine wpList_bx _ rfl _ _ rfl _ rfl ?_;intro x1 g3 hg3 hl3 B3 b1;obtain ⟨cc0,cc1,cc2,cc3,cc4⟩:=CC.out _ _ B3)
      |(go_at_call 31;refine (HSn.out _ b1).mono ?_;rintro e x2 ⟨⟨rr,rfl⟩,hq⟩))
    exact bodyPost_end (results_none rfl _ _ _) rfl ⟨rfl,hq⟩
  have z7:(kd == 7)=false:=by simp [k7]
  clear HSn
  by_cases k8:kd=8
  · subst k8
    go_enter Tryz.func16,Tryz.ntmps16
    go_wp2_with (first
      |((with_reducible refine at_bxd 3 ?_);refine wpList_bx _ rfl _ _ rfl _ rfl ?_;intro x1 g3 hg3 hl3 B3 b1;obtain ⟨cc0,cc1,cc2,cc3,cc4⟩:=CC.out _ _ B3)
      |(go_at_call 32;refine (HRo.out _ b1).mono ?_;rintro e x2 ⟨⟨rr,rfl⟩,hq⟩))
    exact bodyPost_end (results_none rfl _ _ _) rfl ⟨rfl,hq⟩
  have z8:(kd == 8)=false:=by simp [k8]
  clear HRo
  by_cases k9:kd=9
  · subst k9
    go_enter Tryz.func16,Tryz.ntmps16
    go_wp2_with (first
      |((with_reducible refine at_bxd 3 ?_);refine wpList_bx _ rfl _ _ rfl _ rfl ?_;intro x1 g3 hg3 hl3 B3 b1;obtain ⟨cc0,cc1,cc2,cc3,cc4⟩:=CC.out _ _ B3)
      |(go_at_call 26;refine (HPr.out _ b1).mono ?_;rintro e x2 ⟨⟨rr,rfl⟩,hq⟩))
    exact bodyPost_end (results_none rfl _ _ _) rfl ⟨rfl,hq⟩
  have z9:(kd == 9)=false:=by simp [k9]
  go_enter Tryz.func16,Tryz.ntmps16
  go_wp2_with (first
    |((with_reducible refine at_bxd 3 ?_);refine wpList_bx _ rfl _ _ rfl _ rfl ?_;intro x1 g3 hg3 hl3 B3 b1;obtain ⟨cc0,cc1,cc2,cc3,cc4⟩:=CC.out _ _ B3))
  exact bodyPost_end (results_none rfl _ _ _) rfl ⟨rfl,HSame.out _ b1⟩
end

end Go.Proofs.YtdjpigfibafokaaGreatDoor

namespace Go.Proofs.YtdjpigfibafokaaGreatDoor
variable {T:Tre}
variable {cs:Lz}
variable {w w':World}
variable {x:Nat}
set_option maxHeartbeats 8000000
set_option maxRecDepth 20000
open Go.RowKit

theorem hash_sz15 (D:Lq) (h:D.length=32):(Tryz.prog.info? 36).map (·.size)=some (B D).size∧(B (List.replicate 32 0)).size=(B D).size:=⟨by rw [B_size,h];rfl,by rw [B_size,B_size,h];rfl⟩
theorem built_hash15:Tryz.prog.built 36 []=some (B z32):=by kernel_rfl
theorem rt_len15 (n d:Nat) (es:List Ent):(rt n d es).length=32:=by
  match n,es with
  | _,[]=>rw [rt_nil];exact dig_length _
  | _,[x]=>rw [rt_one];exact dig_length _
  | 0,_::_::_=>exact dig_length _
  | n+1,a::b::l=>rw [rt_more n d _ (by simp)];exact dig_length _
theorem own_nil15 (i:Nat):own [] [] i=0:=by simp [own,cc]
theorem sdD_vDg15 (h:Nat):vDg true (cat cs) (h:Int)=sdD cs h:=by
  unfold vDg sdD
  by_cases h0:h=0
  · subst h0
    rfl
  · rw [if_neg (by omega),if_neg h0,cat_nat,sdC,if_neg h0]

section
variable {w1 w w':World} {X:List Nat} {d gv hd b g gs R:Nat} {ms:Nms} {G:List UInt8→Tre} {T:Tre} {cs cs':Lz} {fr fr':List Nat} {s:ByteArray}

def trT (G:List UInt8→Tre) (T:Tre) (s:ByteArray):Tre:=if s.size=0 then T else G s.data.toList
theorem Sv.name (h:Sv w1 w X gv b g gs R ms G hd T cs fr) (he:trE ms s=0):Rt cs (trV ms hd s) (trT G T s):=by
  unfold trE at he;unfold trV trT;split
  · exact h.rt
  · rename_i q
    rw [if_neg q] at he;unfold vrE at he;split at he
    · rename_i q2
      exact h.rts _ (nmAt_mem q2)
    · omega

theorem droot_any (h:Ds w1 w X d gv b g gs R ms G hd T cs fr) (hs:s.size≤maxLen) (hL:Laid w):Kc 12 #[.pointer (some ⟨d,0,none⟩),.string s] w fun e w'=>e=.returned (.tuple #[.agg (B (if trE ms s=0 then rt 256 0 (trT G T s).ents else z32)),.int .i64 (trE ms s)])∧Kb w w':=by
  have HH:Hid (Kr w 67 #[.pointer (some ⟨d,0,none⟩),.string s] (.tuple #[.int .i64 (if trE ms s=0 then (trV ms hd s:Int) else 0),.int .i64 (trE ms s)])):=fun w' hb=>handle_any (h.grow hb).dk (h.grow hb).sv.hv hs
  have HSt:Hid (Kr w 19 #[.pointer (some ⟨d,0,none⟩)] (.pointer (some ⟨g,0,none⟩))):=fun w' hb=>dstore_ok (h.grow hb).dk (h.grow hb).sv.hv
  have HBh:Hid (Tryz.prog.built 36 []=some (B z32)):=built_hash15
  by_cases he:trE ms s=0
  · have HDi:Hid (Kr w 68 #[.pointer (some ⟨g,0,none⟩),.int .i64 (trV ms hd s:Int)] (.agg (B (rt 256 0 (trT G T s).ents)))):=fun w' hb=>by
      have q:=h.grow hb;obtain ⟨S,H,_⟩:=q.sv.hv.hs;have:=sdig_any H.vw (trV ms hd s:Int) (hL.grow hb);rwa [sdD_vDg15,(q.sv.name he).dig H.2] at this
    have HSz:=hidden (hash_sz15 _ (rt_len15 256 0 (trT G T s).ents));rw [if_pos he] at HH ⊢;rw [he] at HH ⊢;generalize rt 256 0 (trT G T s).ents=D at *;generalize trV ms hd s=v at *;clear h hs hL he;go_enter Tryz.func12,Tryz.ntmps12
    go_wp2_with (first
      |((with_reducible refine at_ald 4 ?_);refine wpList_al _ rfl _ rfl _ zero_hash ?_;intro x1 g4 hg4 hl4 B4 b1;have HG4:=hidden hg4;have HB4:=hidden B4;have HQ1:=hidden b1;clear hg4 hl4 B4 b1)
      |(go_at_call 67;refine (HH.out _ HQ1.out).mono ?_;rintro e x2 ⟨rfl,b2⟩;have HQ2:=hidden (grow_trans HQ1.out b2);have HB42:=hidden (HB4.out.grow b2);clear b2)
      |(go_at_call 19;refine (HSt.out _ HQ2.out).mono ?_;rintro e x3 ⟨rfl,b3⟩;have HQ3:=hidden (grow_trans HQ2.out b3);have HB43:=hidden (HB42.out.grow b3);clear b3)
      |(go_at_call 68;refine (HDi.out _ HQ3.out).mono ?_;rintro e x4 ⟨rfl,b4⟩;have HQ4:=hidden (grow_trans HQ3.out b4);have HB44:=hidden (HB43.out.grow b4);clear b4)
      |((with_reducible refine at_st 4 ?_);refine wpList_sto _ rfl _ _ _ rfl g4 _ (B D) rfl rfl HB44.out HSz.out.1 HSz.out.2 (B_one _) ?_;intro x5 B5 r5))
    exact bodyPost_ret (v:=.tuple #[.agg (B D),.int .i64 0]) (results_row_tmp rfl _ _ g4 _ _ _ _ rfl rfl B5 Tryz.underlying36 HSz.out.1) rfl ⟨rfl,below_row HQ4.out r5 HG4.out⟩
  · rw [if_neg he] at HH ⊢
    have HSz:=hidden (hash_sz15 z32 rfl);generalize trE ms s=E at *;have zE:(E != 0)=true:=by simp [he]
    clear h hs hL he;go_enter Tryz.func12,Tryz.ntmps12
    go_wp2_with (first
      |((with_reducible refine at_ald 4 ?_);refine wpList_al _ rfl _ rfl _ zero_hash ?_;intro x1 g4 hg4 hl4 B4 b1;have HG4:=hidden hg4;have HB4:=hidden B4;have HQ1:=hidden b1;clear hg4 hl4 B4 b1)
      |(go_at_call 67;refine (HH.out _ HQ1.out).mono ?_;rintro e x2 ⟨rfl,b2⟩;have HQ2:=hidden (grow_trans HQ1.out b2);have HB42:=hidden (HB4.out.grow b2);clear b2)
      |((with_reducible refine at_bdd 16 ?_);refine wpList_bld _ rfl _ _ rfl _ (by rw [List.map_toArray];exact HBh.out) ?_)
      |((with_reducible refine at_st 4 ?_);refine wpList_sto _ rfl _ _ _ rfl g4 _ (B z32) rfl rfl HB42.out HSz.out.1 rfl (B_one _) ?_;intro x5 B5 r5))
    exact bodyPost_ret (v:=.tuple #[.agg (B z32),.int .i64 E]) (results_row_tmp rfl _ _ g4 _ _ _ _ rfl rfl B5 Tryz.underlying36 HSz.out.1) rfl ⟨rfl,below_row HQ2.out r5 HG4.out⟩

theorem dnames_any (h:Ds w1 w X d gv b g gs R ms G hd T cs fr):Kc 22 #[.pointer (some ⟨d,0,none⟩)] w (NmPost w ms):=by
  have HAl:=hidden (all_ok h.dk);have HNm:Hid (∀w',Kb w w'→Kc 77 #[.pointer (some ⟨gv,0,none⟩)] w' (NmPost w' ms)):=fun w' hb=>vnames_ok (h.grow hb).sv.hv (Nat.le_trans h.sv.few (by omega))
  have hf:∀w:World,(Instr.field 104 (.agg #[.pointer (some ⟨gv,0,none⟩),.int .i64 (hd:Int)]) 0).run Tryz.prog w=.ok (.pointer (some ⟨gv,0,none⟩)) w:=fun w=>by kernel_rfl
  clear h;go_enter Tryz.func22,Tryz.ntmps22
  go_wp2_with (first
    |(go_at_call 73;refine HAl.out.mono ?_;rintro e x1 ⟨rfl,b1⟩;have HQ1:=hidden b1;clear b1)
    |(go_at_call 77;refine (HNm.out _ HQ1.out).mono ?_;rintro e x2 ⟨v,rfl,q1,q2⟩))
  go_ret;exact ⟨v,rfl,⟨q1.1,q1.2.imp id fun ⟨g,c,cur,k1,k2,k3,k4⟩=>⟨g,c,cur,k1,Nat.le_trans HQ1.out.size k2,k3,k4⟩⟩,grow_trans HQ1.out q2⟩

theorem dnew_ok (R:Nat) (w:World) (h1:1≤R) (h2:R≤65536):Kc 8 #[.int .i64 (R:Int)] w fun e w'=>∃X d gv b g gs,e=.returned (.tuple #[.pointer (some ⟨d,0,none⟩),.int .i64 0])∧Ds w w' X d gv b g gs R [] (fun _=>.emp) 0 .emp [] []:=by
  have HNw:=hidden (hs_new R w h1 h2);have HVn:Hid (∀w' g gs,Hz w w' [] g gs R [] []→Kc 48 #[.pointer (some ⟨g,0,none⟩)] w' fun e w''=>∃gv b,e=.returned (.tuple #[.pointer (some ⟨gv,0,none⟩),.int .i64 0])∧Hv w w'' [gv,b] gv b g gs R [] [] []):=fun w' g gs h=>(vnew_ok h).mono fun e w'' ⟨gv,b,q1,q2,_⟩=>⟨gv,b,q1,q2⟩
  have HB1:Hid (∀gv:Nat,Tryz.prog.built 104 [(0,.pointer (some ⟨gv,0,none⟩))]=some #[.pointer (some ⟨gv,0,none⟩),.int .i64 0]):=fun gv=>by rfl
  have HB2:Hid (∀gv:Nat,Tryz.prog.built 106 [(1,.agg #[.pointer (some ⟨gv,0,none⟩),.int .i64 0])]=some #[.pointer none,.pointer (some ⟨gv,0,none⟩),.int .i64 0]):=fun gv=>by rfl
  clear h1 h2;go_enter Tryz.func8,Tryz.ntmps8
  go_wp2_with (first
    |(go_at_call 47;refine HNw.out.mono ?_;rintro e x1 ⟨g,gs,rfl,hN⟩;have HZ:=hidden (Hz.new hN);clear hN)
    |(go_at_call 48;refine (HVn.out _ _ _ HZ.out).mono ?_;rintro e x2 ⟨gv,b,rfl,hV⟩)
    |((with_reducible refine at_bdd 25 ?_);refine wpList_bld _ rfl _ _ rfl _ (by rw [List.map_toArray];exact HB1.out _) ?_)
    |((with_reducible refine at_bdd 26 ?_);refine wpList_bld _ rfl _ _ rfl _ (by rw [List.map_toArray];exact HB2.out _) ?_)
    |((with_reducible refine at_bxd 27 ?_);refine wpList_bx _ rfl _ _ rfl _ rfl ?_;intro x3 d hgd hld Bd bd;have cd0:x3.cell? ⟨d,0,none⟩=some (.pointer none):=(by rw [Bd.cell];rfl);have fd0:=Bd.frozen 0))
  go_ret2;refine ⟨[d,gv,b],d,gv,b,g,gs,rfl,?_⟩;have hlt:=Bd.lt;have hv2:Hv w x3 [d,gv,b] gv b g gs R [] [] []:=⟨hV.hz.add bd hgd hlt,List.mem_cons_of_mem _ hV.gx,List.mem_cons_of_mem _ hV.bx,hV.blk.grow bd,hV.vm.grow bd⟩;have hdg:d≠gv:=fun e=>by have:=hV.blk.lt;omega
  have hdb:d≠b:=fun e=>hv2.vm.notCells (e ▸ Bd) rfl
  have hgr:=grown_setCell x3 d 0 (.pointer (some ⟨d,0,none⟩));have hv3:=hv2.turnX (x:=d) (by simp) hdg.symm hdb.symm hgr;refine ⟨Bd.set 0 (.pointer (some ⟨d,0,none⟩)),by simp,hdg,⟨hv3,fun j=>?_,Rt.zero _,fun p hp=>by simp at hp,by simp⟩⟩;simp [nct,own_nil15]
end

end Go.Proofs.YtdjpigfibafokaaGreatDoor
