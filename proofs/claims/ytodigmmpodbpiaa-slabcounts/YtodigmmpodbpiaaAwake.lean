/- What the statements ask of every slab ahead of their own: the document's examples, at things that are texts. -/
import Derived.Test.YtodigmmpodbpiaaSlabHS
import Derived.Test.YtodigmmpodbpiaaSlabDS
namespace Go.Proofs.Ytodigmmpodbpiaa
set_option maxRecDepth 20000
open Go.RowKit

set_option maxHeartbeats 4000000 in
theorem awake_any (w : World) : Calls Try.prog 12 #[] w fun e w' => e = .returned (.bool true) ∧ Below w.heap.size w w' := by
  go_enter Try.func12, Try.ntmps12
  go_wp2_with (first
    | (go_at_call 45; refine (HS.out.look (E := .int .i64 2) (fun vp vf h => (len_okS g vp vf 2 _ _ _ h).mono (fun e w' ⟨h1, h2⟩ => ⟨h1.trans rfl, h2⟩))).mono ?_; rintro e x10 ⟨rfl, hs10⟩; replace HS := hidden hs10; clear hs10; have mk_Len_1 : Hid True := trivial)
    | (go_at_call 44; refine (HS.out.look (fun vp vf h => calls_sameS (get_okS g vp vf 2 _ _ 1 0 ⟨#[100]⟩ _ h rfl (by decide) rfl))).mono ?_; rintro e x9 ⟨rfl, hs9⟩; replace HS := hidden hs9; clear hs9; have mk_Get_1 : Hid True := trivial)
    | (go_at_call 22; have mk := mk_Take_3; clear mk; refine (HS.out.use (fun vp vf h => take_freeS g vp vf 2 _ [] 1 ⟨#[100]⟩ _ h)).mono ?_; rintro e x8 ⟨rfl, hs8⟩; replace HS := hidden hs8; clear hs8; have mk_Take_4 : Hid True := trivial)
    | (go_at_call 23; have mk := mk_Drop_2; clear mk; refine (HS.out.look (fun vp vf h => calls_sameS (drop_badS g vp vf 2 _ _ 1 _ h (fun i hi => by obtain rfl : i = 0 := (by omega); rfl)))).mono ?_; rintro e x7 ⟨rfl, hs7⟩; replace HS := hidden hs7; clear hs7; have mk_Drop_3 : Hid True := trivial)
    | (go_at_call 23; have mk := mk_Drop_1; clear mk; refine (HS.out.use (fun vp vf h => drop_lastS g vp vf 2 _ _ 1 0 _ h rfl (by decide) rfl)).mono ?_; rintro e x6 ⟨rfl, hs6⟩; replace HS := hidden hs6; clear hs6; have mk_Drop_2 : Hid True := trivial)
    | (go_at_call 23; refine (HS.out.use (fun vp vf h => drop_moreS g vp vf 2 _ _ 1 0 _ h rfl (by decide) (by decide))).mono ?_; rintro e x5 ⟨rfl, hs5⟩; replace HS := hidden hs5; clear hs5; have mk_Drop_1 : Hid True := trivial)
    | (go_at_call 43; refine (HS.out.use (fun vp vf h => hold_okS g vp vf 2 _ _ 1 0 _ h rfl (by decide) (by decide))).mono ?_; rintro e x4 ⟨rfl, hs4⟩; replace HS := hidden hs4; clear hs4; have mk_Hold_1 : Hid True := trivial)
    | (go_at_call 22; have mk := mk_Take_2; clear mk; refine (HS.out.look (fun vp vf h => take_fullS g vp vf 2 _ ⟨#[99]⟩ _ h rfl)).mono ?_; rintro e x3 ⟨rfl, hs3⟩; replace HS := hidden hs3; clear hs3; have mk_Take_3 : Hid True := trivial)
    | (go_at_call 22; have mk := mk_Take_1; clear mk; refine (HS.out.use (fun vp vf h => take_newS g vp vf 2 _ ⟨#[98]⟩ _ h (by decide))).mono ?_; rintro e x2 ⟨rfl, hs2⟩; replace HS := hidden hs2; clear hs2; have mk_Take_2 : Hid True := trivial)
    | (go_at_call 22; refine (HS.out.use (fun vp vf h => take_newS g vp vf 2 [] ⟨#[97]⟩ _ h (by decide))).mono ?_; rintro e x1 ⟨rfl, hs1⟩; replace HS := hidden hs1; clear hs1; have mk_Take_1 : Hid True := trivial)
    | (go_at_call 20; refine (new_okS 2 _ (by decide) (by decide)).mono ?_; rintro e x0 ⟨g, rfl, hg, hs, hb⟩; have HS := hidden (show HsS w x0 g 2 [] [] from ⟨_, _, hs, fun k hk => (by rcases slB_mem.1 hk with rfl | h | h; exact hg; cases h; cases h), hb⟩); clear hs hb hg; have mk_Newstring_1 : Hid True := trivial))
  go_ret
  exact ⟨rfl, HS.out.low⟩

end Go.Proofs.Ytodigmmpodbpiaa
