/- sha's State.Sum and sha.Sum, as contracts: the digest of what was written. -/
import Derived.Test.YtdjpigfibafokaaGreatDoorDz01
import Derived.Test.YtdjpigfibafokaaGreatDoorDz11
import Derived.Deep.RegionHeld
import Derived.Test.YtdjpigfibafokaaGreatDoorDz02
import Derived.Lib.MakeNoZero
namespace Go.Proofs.YtdjpigfibafokaaGreatDoor
variable {g:Nat}
variable {v:Value}
variable {w:World}
variable {zs:Lq}
set_option maxRecDepth 20000
open Go.RowKit

theorem Reads.block (h:Reads w v zs) (hp:0<zs.length):∃k,v.ownBlock=some k∧k<w.heap.size:=by
  obtain ⟨a,cap,rfl,h1,h2,h3,h4⟩:=h;obtain ⟨b,off,rfl,hc⟩:=h4 hp;exact ⟨b,rfl,block_lt_of_cell (hc 0 hp)⟩
theorem Reads.apart (h:Reads w v zs) (hg:w.heap.size≤g):0<zs.length→v.ownBlock≠some g:=by
  intro hp;obtain ⟨k,h1,h2⟩:=h.block hp;rw [h1];intro e;injection e with e;omega

set_option maxHeartbeats 2000000 in
set_option maxRecDepth 10000 in
theorem sum_at (g:Nat) (l:Lq) (w:World) (hT:Txt w g l) (hL:Laid w) (hlen:l.length≤576460752303423488):
    Kc 190 #[.pointer (some ⟨g,0,none⟩)] w fun e w'=>e=.returned (.agg (B (dig l)))∧Kb w w':=by
  obtain ⟨bk,hSt,htk,hby⟩:=hT;have hm:=hSt.made;have HS:=hidden hSt;have HTK:=hidden htk;have HBY:=hidden hby;have HL:=hidden hL;have HZ:Hid ((Cs (eat l (l.length / 64)) bk (l.length:Int) true).size=74):=Cs_size _ _ _ _ hSt.2.1 hSt.2.2.1;clear hSt htk hby hL;go_enter Tryz.func190,Tryz.ntmps190
  go_wp2_with (first | (refine wpList_al _ rfl _ rfl _ zero_hash ?_;intro w1 g1 hg1 hl1 B1 b1;have hm1:=(HS.out.grow b1).made))
  refine (good_at g true _ hm1).mono ?_;rintro e w' ⟨rfl,hw'⟩;rw [hw'];clear hw' hm1 hm;have S1:=HS.out.grow b1;have L1:=HL.out.grow b1
  go_wp2_with (first | (refine wpList_load_row rfl _ _ rfl g rfl _ (Cs (eat l (l.length / 64)) bk (l.length:Int) true) _ _ S1.1 Tryz.underlying318 rfl (by rw [HZ.out];exact size_st) ?_) | (refine wpList_al _ rfl _ rfl _ (zero_of_info zero_st).1 ?_;intro w2 g2 hg2 hl2 B2 b2) | (refine wpList_sto _ rfl _ _ _ rfl g2 _ _ rfl rfl B2 (by rw [HZ.out];exact size_st) (by rw [HZ.out];rfl) (Cs_one _ _ _ _) ?_;intro w3 B3 gg3;have hne:g≠g2:=Nat.ne_of_lt (Nat.lt_of_lt_of_le S1.1.lt hg2);have hc3:=((S1.grow b2).kept gg3 hne).count))
  have n12:g1≠g2:=by omega
  have B1':=(B1.grow b2).kept gg3 n12;have L3:=(L1.grow b2).kept gg3 (by have:=L1.1;omega);have T3:Txt w3 g2 l:=⟨bk,⟨B3,HS.out.2⟩,HTK.out,HBY.out⟩;have c2:=b1.trans (b2.mono b1.size);have c3:=below_row c2 gg3 (by have:=b1.size;omega);clear B1 B2 B3 S1 L1 hc3 gg3 hne;refine (padding_any l.length w3 (by omega)).mono ?_;rintro e w4 ⟨v,sp,rfl,hO,b4⟩;have c4:=c3.trans (b4.mono c3.size);have T4:=T3.grow b4;have L4:=L3.grow b4;have B4:=B1'.grow b4;have hv2:0<(pad l.length).length→v.ownBlock≠some g2:=by
    intro _ e;have:=(hO.lt g2 e).1;have:=T3.lt;omega
  have hR4:=hO.reads;have HPL:Hid ((pad l.length).length≤72):=by
    show _≤_;rw [pad_length];omega
  go_wp2_with fail
  refine (write_any g2 v l (pad l.length) w4 T4 hR4 hv2 L4 (by have:=L3.1;have:=HL.out.1;have:=b1.size;omega) (by have:=HPL.out;omega)).mono ?_;rintro e w5 ⟨rfl,T5,L5,g5⟩;have c5:=below_row c4 g5 (by have:=b1.size;omega);have B5:=B4.kept g5 n12;obtain ⟨bk5,S5,_,_⟩:=T5;have HE:Hid (out (eat (l++pad l.length) ((l++pad l.length).length / 64))=dig l):=by
    show _=_;rw [dig,List.length_append]
  have hW8:(eat (l++pad l.length) ((l++pad l.length).length / 64)).length=8:=eat_length _ _;generalize eat (l++pad l.length) ((l++pad l.length).length / 64)=W at *;have HS5:=hidden S5;have HW8:=hidden hW8;have HU8:Hid ((U W).toList.length=8):=by rw [U_toList,List.length_map];exact hW8
  clear S5 hW8 hR4 hO T3 T4 L3 L4 HPL hv2
  go_wp2_with (first | (refine wpList_load_mid rfl _ _ rfl g2 0 rfl (U W).toList _ HS5.out.words Tryz.underlying315 rfl (by rw [HU8.out];exact size_w8) ?_))
  refine (bytesOf_any W w5 HW8.out).mono ?_;rintro e w6 ⟨rfl,b6⟩;have B6:=B5.grow b6;have HSZ:Hid ((B (out W)).size=32):=by rw [B_size,out_length,HW8.out];exact rfl
  go_wp2_with (first | (refine wpList_sto _ rfl _ _ _ rfl g1 _ _ rfl rfl B6 (by rw [HSZ.out];exact size_hash) (by rw [HSZ.out,B_size];simp) (B_one _) ?_;intro w7 B7 g7))
  exact bodyPost_ret (v:=.agg (B (out W))) (results_cell_row rfl _ _ g1 _ _ _ _ rfl B7 Tryz.underlying36 rfl (by rw [HSZ.out];exact size_hash)) rfl ⟨by rw [HE.out],below_row (c5.trans (b6.mono c5.size)) g7 hg1⟩

end Go.Proofs.YtdjpigfibafokaaGreatDoor

namespace Go.Proofs.YtdjpigfibafokaaGreatDoor
variable {g:Nat}
variable {v:Value}
variable {w:World}
variable {zs:Lq}
set_option maxRecDepth 20000
open Go.RowKit

end Go.Proofs.YtdjpigfibafokaaGreatDoor

namespace Go.Proofs.YtdjpigfibafokaaGreatDoor
variable {g:Nat}
variable {v:Value}
variable {w:World}
variable {zs:Lq}
set_option maxRecDepth 20000
open Go.RowKit

def Parts (w:World) (v:Value) (ps:List (Lq)):Prop:=
  ∃(a:Option Addr) (cap:Nat) (V:Nat→Value),v=.slice a ps.length cap∧ps.length≤cap∧ps.length≤140737488355328∧(0<ps.length→∃b off,a=some ⟨b,off,none⟩∧∀i,i<ps.length→w.cell? ⟨b,off+i,none⟩=some (V i))∧∀i,i<ps.length→Reads w (V i) (ps.getD i [])

def lens (ps:List (Lq)) (k:Nat):Nat:=((ps.take k).flatten).length
theorem lens_succ (ps:List (Lq)) (k:Nat) (h:k<ps.length):lens ps (k+1)=lens ps k+(ps.getD k []).length:=by
  unfold lens;rw [List.take_succ_eq_append_getElem h,List.flatten_append,List.length_append];simp [List.getD,h]
theorem flat_succ (ps:List (Lq)) (k:Nat) (h:k<ps.length):(ps.take (k+1)).flatten=(ps.take k).flatten++ps.getD k []:=by
  rw [List.take_succ_eq_append_getElem h,List.flatten_append];simp [List.getD,h]
theorem lens_le (ps:List (Lq)) (k:Nat):lens ps k≤ps.flatten.length:=by
  unfold lens
  conv=>rhs;rw [← List.take_append_drop k ps,List.flatten_append,List.length_append]
  omega
def JoinPost (zs:Lq) (w:World) (e:Ending) (w':World):Prop:=∃u sp,e=.returned u∧Own w.heap.size w' u zs sp∧Kb w w'

end Go.Proofs.YtdjpigfibafokaaGreatDoor

namespace Go.Proofs.YtdjpigfibafokaaGreatDoor
variable {g:Nat}
variable {v:Value}
variable {w:World}
variable {zs:Lq}
set_option maxRecDepth 20000
open Go.RowKit

end Go.Proofs.YtdjpigfibafokaaGreatDoor
