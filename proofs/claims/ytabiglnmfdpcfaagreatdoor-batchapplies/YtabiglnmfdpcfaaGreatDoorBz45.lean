/- node.RootAt and node.Root at any entries, as contracts. -/
import Derived.Test.YtabiglnmfdpcfaaGreatDoorBz01
import Derived.Test.YtabiglnmfdpcfaaGreatDoorBz44
import Derived.Test.YtabiglnmfdpcfaaGreatDoorBz32
import Derived.Test.YtabiglnmfdpcfaaGreatDoorBz37
import Derived.Test.YtabiglnmfdpcfaaGreatDoorBz42
namespace Go.Proofs.YtabiglnmfdpcfaaGreatDoor
variable {es:List Ent}
set_option maxRecDepth 20000
open Go.RowKit

def RootPost (es:List Ent) (d:Int) (w:World) (e:Ending) (w':World):Prop:=∃h E,e=.returned (.tuple #[.agg (B h),.int .i64 E])∧RootIs es d h E∧Kb w w'

theorem errB_long (h:4096<es.length):errB es=4:=by rw [errB,if_pos h]

end Go.Proofs.YtabiglnmfdpcfaaGreatDoor

namespace Go.Proofs.YtabiglnmfdpcfaaGreatDoor
variable {es:List Ent}
set_option maxRecDepth 20000
open Go.RowKit

end Go.Proofs.YtabiglnmfdpcfaaGreatDoor

namespace Go.Proofs.YtabiglnmfdpcfaaGreatDoor
variable {es:List Ent}
set_option maxRecDepth 20000
open Go.RowKit

set_option maxHeartbeats 2000000 in
theorem refRoot_any (v:Value) (V:Nat→Value) (es:List Ent) (w:World) (hv:PrAt w v V es) (hn:es.length≤140737488355328):Kc 17 #[v] w (RootPost es 0 w):=by
  have HLs:Hid (Kr w 49 #[v] (.int .i64 (errB es))):=fun w' hb=>refList_any v V es w' (hv.grow hb) hn
  have HB:Hid (Tryz.prog.built 39 []=some (B z32)):=built_hash
  by_cases hE:errB es=0
  · have hl:es.length≤4096:=by
      by_cases h:4096<es.length
      · rw [errB_long h] at hE
        omega
      · omega
    have hls:lsE [] es=0:=by rw [errB,if_neg (by omega)] at hE;exact hE
    obtain ⟨hlen,hap,_⟩:=lsE_ok [] es hls;have HAt:Hid (Kr w 50 #[v,.int .i64 0] (.agg (B (rt 256 0 es)))):=fun w' hb=>refAt_any 256 0 es v V w' rfl hl hap (fun a _ b _ j hj=>by omega) hlen (hv.grow hb)
    have HX:Hid (∀w',Kb w w'→RootPost es 0 w (.returned (.tuple #[.agg (B (rt 256 0 es)),.int .i64 0])) w'):=fun w' hb=>⟨_,_,rfl,.good (by omega) (by omega) hE (fun a _ b _ j hj=>by simp at hj),hb⟩
    obtain ⟨D,hD⟩:∃D,D=rt 256 0 es:=⟨_,rfl⟩;have HF:=hidden (hash_facts D (by rw [hD];exact rt_length _ _ _));rw [hE] at HLs;rw [← hD] at HAt HX;obtain ⟨a,cap,rfl,_,_,_⟩:=hv;clear hE hl hls hlen hap hD;go_enter Tryz.func17,Tryz.ntmps17
    go_wp2_with (first
      |((with_reducible refine at_ald 2 ?_);refine wpList_al _ rfl _ rfl _ zero_hash ?_;intro w1 g1 hg1 hl1 B1 b1)
      |(go_at_call 49;refine (HLs.out _ b1).mono ?_;rintro e w2 ⟨rfl,b2⟩;have B2:=B1.grow b2;have c2:=grow_trans b1 b2)
      |(go_at_call 50;refine (HAt.out _ c2).mono ?_;rintro e w3 ⟨rfl,b3⟩;have B3:=B2.grow b3)
      |((with_reducible refine at_st 2 ?_);refine wpList_sto _ rfl _ _ _ rfl g1 _ (B D) rfl rfl B3 HF.out.1 HF.out.2 (B_one _) ?_;intro w4 B4 r4))
    exact bodyPost_ret (v:=.tuple #[.agg (B D),.int .i64 0]) (results_row_tmp rfl _ _ g1 _ _ _ _ rfl rfl B4 Tryz.underlying39 HF.out.1) rfl (HX.out _ (below_row (grow_trans c2 b3) r4 hg1))
  · have HX:Hid (∀w',Kb w w'→RootPost es 0 w (.returned (.tuple #[.agg (B z32),.int .i64 (errB es)])) w'):=fun w' hb=>⟨_,_,rfl,.bad _ (by omega) (by omega) rfl hE,hb⟩
    obtain ⟨E,hEE⟩:∃E,E=errB es:=⟨_,rfl⟩;rw [← hEE] at HLs HX hE;have h1:(E != 0)=true:=by simp [hE]
    have h2:(E == 0)=false:=by simp [hE]
    obtain ⟨a,cap,rfl,_,_,_⟩:=hv;clear hE hEE;go_enter Tryz.func17,Tryz.ntmps17
    go_wp2_with (first
      |((with_reducible refine at_ald 2 ?_);refine wpList_al _ rfl _ rfl _ zero_hash ?_;intro w1 g1 hg1 hl1 B1 b1)
      |(go_at_call 49;refine (HLs.out _ b1).mono ?_;rintro e w2 ⟨rfl,b2⟩;have B2:=B1.grow b2;have c2:=grow_trans b1 b2)
      |((with_reducible refine at_bd ?_);refine wpList_bld _ rfl _ _ rfl _ (by rw [List.map_toArray];exact HB.out) ?_)
      |((with_reducible refine at_st 2 ?_);refine wpList_sto _ rfl _ _ _ rfl g1 _ (B z32) rfl rfl B2 (by kernel_rfl) rfl (B_one _) ?_;intro w4 B4 r4))
    exact bodyPost_ret (v:=.tuple #[.agg (B z32),.int .i64 E]) (results_row_tmp rfl _ _ g1 _ _ _ _ rfl rfl B4 Tryz.underlying39 (by kernel_rfl)) rfl (HX.out _ (below_row c2 r4 hg1))

end Go.Proofs.YtabiglnmfdpcfaaGreatDoor

namespace Go.Proofs.YtabiglnmfdpcfaaGreatDoor
variable {es:List Ent}
set_option maxRecDepth 20000
open Go.RowKit

theorem rootIs_ex (es:List Ent) (d:Int):∃h E,RootIs es d h E:=by
  by_cases hd:d<0∨256<d
  · exact ⟨_,_,.out hd⟩
  · by_cases hE:errB es=0
    · by_cases hs:SameE es d.toNat
      · exact ⟨_,_,.good (by omega) (by omega) hE hs⟩
      · exact ⟨_,_,.part (by omega) (by omega) hE hs⟩
    · exact ⟨_,_,.bad _ (by omega) (by omega) rfl hE⟩

end Go.Proofs.YtabiglnmfdpcfaaGreatDoor
