/- sha.Step, as a contract: the block step. -/
import Derived.Test.YtdjpigfibafokaaGreatDoorDz01
import Derived.Test.YtdjpigfibafokaaGreatDoorDz09
import Derived.Deep.RegionHeld2
import Derived.RegionTactic
import Derived.Test.YtdjpigfibafokaaGreatDoorDz04
namespace Go.Proofs.YtdjpigfibafokaaGreatDoor
variable {bk ws:Lq}
variable {g g':Nat}
variable {w w':World}
set_option maxHeartbeats 1000000
set_option maxRecDepth 20000
open Go.RowKit

theorem zip_set (h v:Lq) (k:Nat) (hh:k<h.length) (hv:k<v.length):((List.zipWith ad h v).take k++h.drop k).set k (ad (((List.zipWith ad h v).take k++h.drop k).getD k 0) (v.getD k 0))=(List.zipWith ad h v).take (k+1)++h.drop (k+1):=by
  have hl:((List.zipWith ad h v).take k).length=k:=by simp;omega
  have e:h.drop k=h[k]::h.drop (k+1):=List.drop_eq_getElem_cons hh;have e1:((List.zipWith ad h v).take k++h.drop k).getD k 0=h[k]:=by
    rw [List.getD,List.getElem?_append_right (by omega),hl,Nat.sub_self,e];rfl
  rw [e1,e,List.set_append_right _ _ (by omega),hl,Nat.sub_self,List.set_cons_zero,List.take_succ_eq_append_getElem (by simp;omega)];simp [List.getD,hv]

theorem step_any (h bs:Lq) (w:World) (hL:Laid w) (hh:h.length=8) (hb:bs.length=64) (hby:Bytes bs):
    Kc 239 #[.agg (U h),.agg (B bs)] w fun e w'=>e=.returned (.agg (U (stp h bs)))∧Kb w w':=by
  obtain ⟨a,b,c,d,e,f,g,k,hvv⟩:=eight h hh;have HV:Hid (h=[a,b,c,d,e,f,g,k]):=hvv;clear hvv;have HL:=hidden hL;have HH:=hidden hh;have HB:=hidden hb;have HBY:=hidden hby;clear hL hh hb hby;go_enter Tryz.func239,Tryz.ntmps239
  go_wp2_with (first | (have hh1:=hl1;clear hh1;refine wpList_bx _ rfl _ _ rfl _ rfl ?_;intro w2 g2 hg2 hl2 B2 b2) | (refine wpList_bx _ rfl _ _ rfl _ rfl ?_;intro w1 g1 hg1 hl1 B1 b1) | (refine wpList_al _ rfl _ rfl _ zero_w8 ?_;intro w3 g3 hg3 hl3 B3 b3))
  have s1:=b1.size;have s2:=b2.size;have s3:=b3.size;have HB1:=hidden ((B1.grow b2).grow b3);have HB2:=hidden (B2.grow b3);have HB3:=hidden B3;have hbl:=(b1.trans (b2.mono s1)).trans (b3.mono (Nat.le_trans s1 s2));clear B1 B2 B3 b1 b2 b3;have n1:w.heap.size≤g1:=by omega
  have n3:w.heap.size≤g3:=by omega
  have n13:g1≠g3:=by omega
  clear hg1 hg2 hg3 hl1 hl2 hl3 s1 s2 s3;have HL3:=hidden (HL.out.grow hbl);have HLG:Hid (∀w',Kb w3 w'→Laid w'):=fun w' hw=>HL3.out.grow hw
  have HS:Hid (∀w',Kb w3 w'→w'.rangeAt g2 0 (B bs).toList∧w'.cell? ⟨g1,0,none⟩=some (.int .u32 a)∧w'.cell? ⟨g1,1,none⟩=some (.int .u32 b)∧w'.cell? ⟨g1,2,none⟩=some (.int .u32 c)∧w'.cell? ⟨g1,3,none⟩=some (.int .u32 d)∧w'.cell? ⟨g1,4,none⟩=some (.int .u32 e)∧w'.cell? ⟨g1,5,none⟩=some (.int .u32 f)∧w'.cell? ⟨g1,6,none⟩=some (.int .u32 g)∧w'.cell? ⟨g1,7,none⟩=some (.int .u32 k)):=by
    intro w' hw';have h1:=HB1.out.grow hw';rw [HV.out] at h1;exact ⟨(HB2.out.grow hw').range,h1.eight⟩
  have hu64:Tryz.prog.underlying 316=some (.array 64 5):=Tryz.underlying316;have hi64:(Tryz.prog.info? 316).map (·.size)=some (B bs).toList.length:=by rw [B_toList,List.length_map,HB.out];exact size_b64
  have hd0:Kb w3 w3.drew:=(Below.refl _ _).drew
  go_region_held2 (fun w'=>w'.rangeAt g2 0 (B bs).toList∧w'.cell? ⟨g1,0,none⟩=some (.int .u32 a)∧w'.cell? ⟨g1,1,none⟩=some (.int .u32 b)∧w'.cell? ⟨g1,2,none⟩=some (.int .u32 c)∧w'.cell? ⟨g1,3,none⟩=some (.int .u32 d)∧w'.cell? ⟨g1,4,none⟩=some (.int .u32 e)∧w'.cell? ⟨g1,5,none⟩=some (.int .u32 f)∧w'.cell? ⟨g1,6,none⟩=some (.int .u32 g)∧w'.cell? ⟨g1,7,none⟩=some (.int .u32 k))
    (first | exact HS.out _ (by assumption))
    (first | (go_at_call 273;refine (schedule_any bs _ HBY.out HB.out).mono ?_;rintro e w4 ⟨rfl,hb4⟩;have hbd:=grow_trans hd0 hb4) | (go_at_call 272;refine (mixed_any [a,b,c,d,e,f,g,k] (sch bs 64) _ (HLG.out _ hbd) rfl (sch_length _ _)).mono ?_;rintro e w5 ⟨rfl,hb5⟩;have hbe:=grow_trans hbd hb5))
  have hb5':Kb w w5:=hbl.trans (hbe.mono hbl.size);have HB1':Hid (Blk w5 g1 315 (U h)):=HB1.out.grow hbe;have HB3':Hid (Blk w5 g3 315 (U (List.replicate 8 0))):=HB3.out.grow hbe;have HX:Hid (rds (sch bs 64) [a,b,c,d,e,f,g,k] 64=rds (sch bs 64) h 64):=by rw [HV.out];exact rfl
  rw [HX.out];have HY:Hid (stp h bs=List.zipWith ad h (rds (sch bs 64) h 64)):=rfl;have HZ:Hid ((rds (sch bs 64) h 64).length=8):=rds_length _ _ HH.out _;generalize rds (sch bs 64) h 64=v at *;clear HB1 HB2 HB3 hbl HS HLG HL3 HL hi64 hu64 hd0 hb4 hbd hb5 hbe HX HV
  go_wp2_with fail
  go_loopw [11] (fun i wr=>∃k:Nat,k≤8∧i=.int .i64 k∧Hid (Blk wr g1 315 (U ((List.zipWith ad h v).take k++h.drop k)))∧Hid (Blk wr g3 315 (U (List.replicate 8 0)))∧Kb w wr) (fun i _=>8-(intOf i).toNat)
  case atStart=>exact ⟨0,by omega,rfl,by simpa using HB1',HB3',hb5'⟩
  case round=>
    clear HB1' HB3' hb5';obtain ⟨k,hk,rfl,hB1,hB3,hbl⟩:=hrel
    by_cases hlt:k<8
    · have k0:(0:Int)≤(k:Int):=by omega
      have k1:(k:Int)<8:=by omega
      have c1:=hB1.out.wcell k (by have:=HH.out;have:=HZ.out;simp;omega);have f1:=hB1.out.frozen k;have hix:=index_w8 v k HZ.out hlt;have HE:Hid (((List.zipWith ad h v).take k++h.drop k).set k (ad (((List.zipWith ad h v).take k++h.drop k).getD k 0) (v.getD k 0))=(List.zipWith ad h v).take (k+1)++h.drop (k+1)):=zip_set h v k (by have:=HH.out;omega) (by have:=HZ.out;omega);generalize ((List.zipWith ad h v).take k++h.drop k).getD k 0=x at *;generalize v.getD k 0=y at *
      go_wp2_with fail
      have hn:=hB1.out.set k (.int .u32 (ad x y));rw [U_set,HE.out] at hn;exact ⟨⟨k+1,by omega,by go_num,hn,hB3.out.other _ _ (Ne.symm n13),setCell_below _ _ hbl n1⟩,by simp [intOf];omega⟩
    · have HF:Hid (Blk wr g1 315 (U (stp h bs))):=by
        have:Blk wr g1 315 (U ((List.zipWith ad h v).take k++h.drop k)):=hB1.out;rw [List.take_of_length_le (by have:=HH.out;have:=HZ.out;simp;omega),List.drop_of_length_le (by have:=HH.out;omega),List.append_nil,← HY.out] at this;exact this
      have HS:Hid ((U (stp h bs)).size=8):=by rw [U_size];exact stp_length _ _ HH.out
      go_wp2_with (first | (refine wpList_ld _ rfl _ _ rfl g1 _ rfl HF.out 8 _ Tryz.underlying315 (by rw [HS.out];exact size_w8) ?_) | (refine wpList_st _ rfl _ _ _ rfl g3 _ _ rfl rfl hB3.out (by rw [HS.out];exact size_w8) (by rw [HS.out,U_size];simp) (U_one _) ?_))
      exact bodyPost_ret (v:=.agg (U (stp h bs))) (results_cell_row rfl _ _ g3 _ _ _ _ rfl (hB3.out.row _) Tryz.underlying315 rfl (by rw [HS.out];exact size_w8)) rfl ⟨rfl,setRow_below _ hbl n3⟩

end Go.Proofs.YtdjpigfibafokaaGreatDoor

namespace Go.Proofs.YtdjpigfibafokaaGreatDoor
variable {bk ws:Lq}
variable {g g':Nat}
variable {w w':World}
set_option maxHeartbeats 1000000
set_option maxRecDepth 20000
open Go.RowKit

def acc (b:Lq) (t:Nat):Nat→Int
  | 0=>0
  | i+1=>acc b t i * 256+b.getD (4 * t+i) 0
end Go.Proofs.YtdjpigfibafokaaGreatDoor

namespace Go.Proofs.YtdjpigfibafokaaGreatDoor
variable {bk ws:Lq}
variable {g g':Nat}
variable {w w':World}
set_option maxHeartbeats 1000000
set_option maxRecDepth 20000
open Go.RowKit

end Go.Proofs.YtdjpigfibafokaaGreatDoor

namespace Go.Proofs.YtdjpigfibafokaaGreatDoor
variable {bk ws:Lq}
variable {g g':Nat}
variable {w w':World}
set_option maxHeartbeats 1000000
set_option maxRecDepth 20000
open Go.RowKit

def Cs (ws bk:Lq) (c:Int) (m:Bool):Array Value:=(ws.map (Value.int .u32)++bk.map (Value.int .u8)++[Value.int .i64 c,Value.bool m]).toArray
theorem Cs_size (ws bk:Lq) (c:Int) (m:Bool) (hw:ws.length=8) (hb:bk.length=64):(Cs ws bk c m).size=74:=by simp [Cs,hw,hb]
theorem Cs_one (ws bk:Lq) (c:Int) (m:Bool):(Cs ws bk c m).all (·.oneCell')=true:=Array.all_eq_true_iff_forall_mem.2 (fun v hv=>by
  simp only [Cs,List.mem_toArray,List.mem_append,List.mem_map] at hv;rcases hv with (⟨z,_,rfl⟩ | ⟨z,_,rfl⟩) | hv
  · rfl
  · rfl
  · simp at hv
    rcases hv with rfl | rfl <;> rfl)

def St (w:World) (g:Nat) (ws bk:Lq) (c:Int):Prop:=Blk w g 318 (Cs ws bk c true)∧ws.length=8∧bk.length=64∧Bytes bk

theorem St.made {c:Int} (h:St w g ws bk c):w.cell? ⟨g,73,none⟩=some (.bool true):=by
  obtain ⟨h1,h2,h3,_⟩:=h;rw [h1.cell];simp [Cs,h2,h3]
theorem St.count {c:Int} (h:St w g ws bk c):w.cell? ⟨g,72,none⟩=some (.int .i64 c):=by
  obtain ⟨h1,h2,h3,_⟩:=h;rw [h1.cell];simp [Cs,h2,h3]
theorem St.word {c:Int} (h:St w g ws bk c) (i:Nat) (hi:i<8):w.cell? ⟨g,i,none⟩=some (.int .u32 (ws.getD i 0)):=by
  obtain ⟨h1,h2,h3,_⟩:=h;rw [h1.cell];simp [Cs,List.getElem?_append,h2,List.getD,hi]
theorem St.range {c:Int} (h:St w g ws bk c):w.rangeAt g 8 (B bk).toList:=by
  obtain ⟨h1,h2,h3,_⟩:=h;intro j v hv;rw [h1.cell];have hj:j<64:=by have:=(List.getElem?_eq_some_iff.1 hv).1;simpa [B_toList,h3] using this
  rw [B_toList] at hv;rw [List.getElem?_map,List.getElem?_eq_getElem (by omega)] at hv;simp [Cs,List.getElem?_append,h2,h3,hj];simpa using hv
theorem St.grow {c:Int} (h:St w g ws bk c) (hb:Kb w w'):St w' g ws bk c:=⟨h.1.grow hb,h.2⟩
theorem St.kept {c:Int} (h:St w g ws bk c) (hg:w.grownBy w' (some g')) (hne:g≠g'):St w' g ws bk c:=⟨h.1.kept hg hne,h.2⟩

theorem size_st:(Tryz.prog.info? 318).map (·.size)=some 74:=by kernel_rfl
theorem zero_st:(Tryz.prog.info? 318).map (fun i=>(i.zero,i.size))=some (some (.agg (Cs (List.replicate 8 0) (List.replicate 64 0) 0 false)),74):=by kernel_rfl

set_option maxRecDepth 10000 in
theorem new_any (w:World) (hL:Laid w):Kc 188 #[] w fun e w'=>∃g,e=.returned (.pointer (some ⟨g,0,none⟩))∧w.heap.size≤g∧g<w'.heap.size∧St w' g hs (List.replicate 64 0) 0∧Kb w w':=by
  obtain ⟨_,_,h⟩:=hL;have a0:=h 0 (by omega);have a1:=h 1 (by omega);have a2:=h 2 (by omega);have a3:=h 3 (by omega);have a4:=h 4 (by omega);have a5:=h 5 (by omega);have a6:=h 6 (by omega);have a7:=h 7 (by omega);simp only [hs,List.getD_cons_zero,List.getD_cons_succ] at a0 a1 a2 a3 a4 a5 a6 a7;clear h;go_enter Tryz.func188,Tryz.ntmps188
  go_wp2_with (first | (refine wpList_bld _ rfl _ _ rfl (Cs hs (List.replicate 64 0) 0 true) (by kernel_rfl) ?_) | (refine wpList_bx _ rfl _ _ rfl _ rfl ?_;intro w1 g1 hg1 hl1 B1 b1))
  go_ret;exact ⟨g1,rfl,hg1,hl1,⟨B1,rfl,rfl,by intro z hz;rw [List.eq_of_mem_replicate hz];omega⟩,b1⟩

theorem good_at (g:Nat) (m:Bool) (w:World) (hm:w.cell? ⟨g,73,none⟩=some (.bool m)):
    Kc 237 #[.pointer (some ⟨g,0,none⟩)] w fun e w'=>e=.returned (.bool m)∧w'=w:=by
  cases m
  all_goals
    go_enter Tryz.func237,Tryz.ntmps237
    go_wp2
    go_ret;exact ⟨rfl,rfl⟩

theorem filled_at (g c:Nat) (w:World) (hm:w.cell? ⟨g,72,none⟩=some (.int .i64 (c:Int))):
    Kc 238 #[.pointer (some ⟨g,0,none⟩)] w fun e w'=>e=.returned (.int .i64 ((c % 64:Nat):Int))∧w'=w:=by
  go_enter Tryz.func238,Tryz.ntmps238
  go_wp2
  go_ret;exact ⟨by show Ending.returned (.int .i64 ((c:Int).tmod 64))=_;congr 2,rfl⟩

end Go.Proofs.YtdjpigfibafokaaGreatDoor
