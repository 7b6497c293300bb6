/- SlabKnown's walk: the document's examples hold, and nothing that was in memory turns. -/
import Derived.Test.YtodigmmpodbpiaaAwake
import Derived.Test.YtodigmmpodbpiaaSlabHI
namespace Go.Proofs.Ytodigmmpodbpiaa
set_option maxRecDepth 20000
open Go.RowKit

set_option maxHeartbeats 4000000 in
theorem slabKnown_walk (w : World) : Calls Try.prog 6 #[] w fun e w' => e = .returned (.bool true) ∧ Below w.heap.size w w' := by
  obtain ⟨R, hR⟩ : ∃ R : Nat, R = 65536 := ⟨_, rfl⟩
  have hcast : (R : Int) = 65536 := by omega
  have HN : Hid (∀ w, Calls Try.prog 7 #[.int .i64 65536] w fun e w' => ∃ g, e = .returned (.tuple #[.pointer (some ⟨g, 0, none⟩), .int .i64 0]) ∧ w.heap.size ≤ g ∧ SlI w' g (.slice none 0 0) (.slice none 0 0) R [] [] ∧ Below w.heap.size w w') := by
    intro w
    have := new_okI R w (by omega) (by omega)
    rw [hcast] at this
    exact this
  clear hR
  go_enter Try.func6, Try.ntmps6
  go_wp2_with (first
    | (go_at_call 12; refine (awake_any _).mono ?_; rintro e xa ⟨rfl, ha⟩; replace HS := hidden (HS.out.grow ha); clear ha)
    | (go_at_call 22; have mk := mk_SlabstringTake_3; clear mk; refine (HS.out.use (fun vp vf h => take_freeS g vp vf 2 _ [] 2 ⟨#[102]⟩ _ h)).mono ?_; rintro e x10 ⟨rfl, hs10⟩; replace HS := hidden hs10; clear hs10; have mk_SlabstringTake_4 : Hid True := trivial)
    | (go_at_call 22; have mk := mk_SlabstringTake_2; clear mk; refine (HS.out.use (fun vp vf h => take_freeS g vp vf 2 _ [2] 1 ⟨#[101]⟩ _ h)).mono ?_; rintro e x9 ⟨rfl, hs9⟩; replace HS := hidden hs9; clear hs9; have mk_SlabstringTake_3 : Hid True := trivial)
    | (go_at_call 23; have mk := mk_SlabstringDrop_1; clear mk; refine (HS.out.use (fun vp vf h => drop_lastS g vp vf 2 _ _ 1 0 _ h rfl (by decide) rfl)).mono ?_; rintro e x8 ⟨rfl, hs8⟩; replace HS := hidden hs8; clear hs8; have mk_SlabstringDrop_2 : Hid True := trivial)
    | (go_at_call 23; refine (HS.out.use (fun vp vf h => drop_lastS g vp vf 2 _ _ 2 1 _ h rfl (by decide) rfl)).mono ?_; rintro e x7 ⟨rfl, hs7⟩; replace HS := hidden hs7; clear hs7; have mk_SlabstringDrop_1 : Hid True := trivial)
    | (go_at_call 22; have mk := mk_SlabstringTake_1; clear mk; refine (HS.out.use (fun vp vf h => take_newS g vp vf 2 _ ⟨#[98]⟩ _ h (by decide))).mono ?_; rintro e x6 ⟨rfl, hs6⟩; replace HS := hidden hs6; clear hs6; have mk_SlabstringTake_2 : Hid True := trivial)
    | (go_at_call 22; refine (HS.out.use (fun vp vf h => take_newS g vp vf 2 [] ⟨#[97]⟩ _ h (by decide))).mono ?_; rintro e x5 ⟨rfl, hs5⟩; replace HS := hidden hs5; clear hs5; have mk_SlabstringTake_1 : Hid True := trivial)
    | (go_at_call 21; obtain ⟨vpi, vfi, hvi, _, _⟩ := HI.out; refine (room_okI gi vpi vfi R _ _ _ hvi).mono ?_; clear hvi; rintro e xr ⟨rfl, hx⟩; rw [hx]; clear hx xr)
    | (go_at_call 20; refine (new_okS 2 _ (by decide) (by decide)).mono ?_; rintro e x3 ⟨g, rfl, hg, hs, hb⟩; have HS := hidden (show HsS w x3 g 2 [] [] from ⟨_, _, hs, fun k hk => (by have := HB.out.size; rcases slB_mem.1 hk with rfl | h | h; omega; cases h; cases h), grow_trans HB.out hb⟩); replace HI := hidden (HI.out.grow hb); replace HB := hidden (grow_trans HB.out hb); clear hs hb hg; have mk_Newstring_1 : Hid True := trivial)
    | (go_at_call 7; have mk := mk_Newint_2; clear mk; refine (HN.out _).mono ?_; rintro e x2 ⟨gi, rfl, hg, hs, hb⟩; have HI := hidden (show HsI w x2 gi R [] [] from ⟨_, _, hs, fun k hk => (by rcases slB_mem.1 hk with rfl | h | h; exact hg; cases h; cases h), hb⟩); have HB := hidden hb; clear hs hb hg; have mk_Newint_3 : Hid True := trivial)
    | (go_at_call 7; have mk := mk_Newint_1; clear mk; refine (new_badI 65537 _ (by omega)).mono ?_; rintro e x1 ⟨rfl, hx⟩; rw [hx]; clear hx x1; have mk_Newint_2 : Hid True := trivial)
    | (go_at_call 7; refine (new_badI 0 _ (by omega)).mono ?_; rintro e x0 ⟨rfl, hx⟩; rw [hx]; clear hx x0; have mk_Newint_1 : Hid True := trivial))
  go_ret
  exact ⟨rfl, HS.out.low⟩

end Go.Proofs.Ytodigmmpodbpiaa
