/- ListKnown's walk: the document's examples. -/
import Derived.Test.YtgfdgjkbcdmboabGreatDoorLk39
import Derived.Test.YtgfdgjkbcdmboabGreatDoorRows
import Derived.ProofKit
import Derived.OpenShut
import Derived.ShutString
import Derived.ChangeOld
import Derived.Below
import Derived.SizedLaws
import Derived.Test.YtgfdgjkbcdmboabGreatDoorLk13
import Derived.LaidMore
import Derived.Stop.Joined
import Derived.Lib.LaidTab
namespace Go.Proofs.YtgfdgjkbcdmboabGreatDoor
set_option maxRecDepth 20000
open Go.RowKit

theorem so_ov {w : World} {es : List Ent} {e : Ending} {w' : World} (h : ∃ w0, w.heap.size ≤ w0.heap.size ∧ Below w.heap.size w w' ∧ SoPost w0 es e w') : ∃ a c V, e = .returned (.tuple #[.slice a es.length c, .int .i64 0]) ∧ PrAt w' (.slice a es.length c) V es ∧ Below w.heap.size w w' := by
  obtain ⟨w0, _, hb, lv, rfl, hp⟩ := h
  obtain ⟨a, c, V, rfl, hP, _⟩ := enPost_ov hp
  exact ⟨a, c, V, rfl, hP, hb⟩
theorem not_last64 (h : IsLast (kyB 64)) : False := by
  have h1 := h 0 (by omega)
  have h2 : kb (kyB 64) 0 = 0 := by kernel_rfl
  omega
theorem e3_keys : ∀ e ∈ E3, Key e.1 := by
  intro e he
  simp only [E3, List.mem_cons, List.not_mem_nil, or_false] at he
  rcases he with rfl | rfl | rfl
  · exact key_zero
  · exact ky64
  · exact ky128
theorem e3_next {ys : List Int} (h : IsNext (kyB 64) ys) : (E3.drop (ahd ys E3)).take 256 = E3.drop 2 := by
  rw [upt_next ky64 h E3 e3_keys, show upt (kyB 64) E3 = 2 by kernel_rfl]
  rfl
theorem e3_btw : btw z32 (kyB 64) E3 = 2 ∧ btw (kyB 64) z32 E3 = 0 := ⟨by kernel_rfl, by kernel_rfl⟩

set_option maxRecDepth 100000 in
set_option maxHeartbeats 8000000 in
theorem listKnown_walk (w : World) (hL : Laid w) : Calls Tryz.prog 7 #[] w fun e w' => e = .returned (.bool true) ∧ Below w.heap.size w w' := by
  have HTH : Hid (∀ w', Calls Tryz.prog 36 #[] w' fun e w'' => ∃ g u0 u1 u2, e = .returned (.slice (some ⟨g, 0, none⟩) 3 3) ∧ Th3 w'' g u0 u1 u2 ∧ Below w'.heap.size w' w'') := three_any
  have HLD : Hid (∀ w', Below w.heap.size w w' → Laid w') := fun w' hb => hL.grow hb
  have HNX : Hid (∀ w', Calls Tryz.prog 35 #[.agg (B (kyB 64))] w' (NextPost (kyB 64) w')) := fun w' => next_any (kyB 64) w' ky64
  have HB0 := hidden built_k0
  have HB64 := hidden (built_ky 64)
  have HB128 := hidden (built_ky 128)
  have HZ : Hid ((Tryz.prog.info? 66).map (·.size) = some (encP z32 (.slice none 0 0)).toArray.size) := (encP_sz z32_length).1
  clear hL
  go_enter Tryz.func7, Tryz.ntmps7
  go_wp2_with (first
    | (go_at_call 29; refine (filled3 H3.out (HLD.out _ HQ0.out)).mono ?_; rintro e w2 ⟨g, cs, root, T, rfl, hF, b2⟩; have HF := hidden hF; have HQ2 := hidden (grow_trans HQ0.out b2); have HQ := hidden (Below.refl w2.heap.size w2); clear hF b2; have HN3 : Hid (∀ w', Below w2.heap.size w2 w' → Calls Tryz.prog 25 #[.pointer (some ⟨g, 0, none⟩), .int .i64 (root : Int), .int .i64 3] w' (NthNo w' 7)) := (fun w' hb => nth_none (HF.out.grow hb).li 3 (by rw [HF.out.ents]; decide) (by omega)); have HNm : Hid (∀ w', Below w2.heap.size w2 w' → Calls Tryz.prog 25 #[.pointer (some ⟨g, 0, none⟩), .int .i64 (root : Int), .int .i64 (-1)] w' (NthNo w' 2)) := (fun w' hb => nth_arg (HF.out.grow hb).li (-1) (by omega)); have HRK : Hid (∀ w', Below w2.heap.size w2 w' → Calls Tryz.prog 24 #[.pointer (some ⟨g, 0, none⟩), .int .i64 (root : Int), .agg (B z32)] w' fun e w'' => e = .returned (.tuple #[.int .i64 0, .int .i64 0]) ∧ Below w'.heap.size w' w'') := (fun w' hb => by have := (HF.out.grow hb).li.rank z32 key_z32; rw [HF.out.li.rkd _ key_z32, HF.out.ents, e3_rank.2] at this; exact this); have HS2 : Hid (∀ w', Below w2.heap.size w2 w' → Calls Tryz.prog 16 #[.pointer (some ⟨g, 0, none⟩), .int .i64 (root : Int), .agg (B z32), .int .i64 2] w' fun e w'' => ∃ a c V, e = .returned (.tuple #[.slice a (E3.take 2).length c, .int .i64 0]) ∧ PrAt w'' (.slice a (E3.take 2).length c) V (E3.take 2) ∧ Below w'.heap.size w' w'') := (fun w' hb => (some_any (HF.out.grow hb).li z32 key_z32 2 (by omega)).mono (fun e w'' hp => by rw [HF.out.li.rkd _ key_z32, HF.out.ents, e3_rank.2] at hp; exact so_ov hp)); have HSR : Hid (∀ ys, IsNext (kyB 64) ys → ∀ w', Below w2.heap.size w2 w' → Calls Tryz.prog 16 #[.pointer (some ⟨g, 0, none⟩), .int .i64 (root : Int), .agg (B ys), .int .i64 256] w' fun e w'' => ∃ a c V, e = .returned (.tuple #[.slice a (E3.drop 2).length c, .int .i64 0]) ∧ PrAt w'' (.slice a (E3.drop 2).length c) V (E3.drop 2) ∧ Below w'.heap.size w' w'') := (fun ys hN w' hb => (some_any (HF.out.grow hb).li ys hN.1 256 (by omega)).mono (fun e w'' hp => by rw [HF.out.li.rkd _ hN.1, HF.out.ents, e3_next hN] at hp; exact so_ov hp)); have HSA : Hid (∀ ys, Key ys → ∀ w', Below w2.heap.size w2 w' → Calls Tryz.prog 16 #[.pointer (some ⟨g, 0, none⟩), .int .i64 (root : Int), .agg (B ys), .int .i64 257] w' fun e w'' => e = .returned (.tuple #[.slice none 0 0, .int .i64 2]) ∧ Below w'.heap.size w' w'') := (fun ys hK w' hb => some_arg (HF.out.grow hb).li ys hK 257 (by omega)); have HSB : Hid (∀ ys, Key ys → ∀ w', Below w2.heap.size w2 w' → Calls Tryz.prog 16 #[.pointer (some ⟨g, 0, none⟩), .int .i64 (root : Int), .agg (B ys), .int .i64 (-1)] w' fun e w'' => e = .returned (.tuple #[.slice none 0 0, .int .i64 2]) ∧ Below w'.heap.size w' w'') := (fun ys hK w' hb => some_arg (HF.out.grow hb).li ys hK (-1) (by omega)); have HB1 : Hid (∀ w', Below w2.heap.size w2 w' → Calls Tryz.prog 26 #[.pointer (some ⟨g, 0, none⟩), .int .i64 (root : Int), .agg (B z32), .agg (B (kyB 64))] w' fun e w'' => e = .returned (.tuple #[.int .i64 2, .int .i64 0]) ∧ Below w'.heap.size w' w'') := (fun w' hb => by have := between_any (HF.out.grow hb).li z32 (kyB 64) key_z32 ky64; rw [HF.out.ents, e3_btw.1] at this; exact this); have HB2 : Hid (∀ w', Below w2.heap.size w2 w' → Calls Tryz.prog 26 #[.pointer (some ⟨g, 0, none⟩), .int .i64 (root : Int), .agg (B (kyB 64)), .agg (B z32)] w' fun e w'' => e = .returned (.tuple #[.int .i64 0, .int .i64 0]) ∧ Below w'.heap.size w' w'') := (fun w' hb => by have := between_any (HF.out.grow hb).li (kyB 64) z32 ky64 key_z32; rw [HF.out.ents, e3_btw.2] at this; exact this); have HFR : Hid (∀ w', Below w2.heap.size w2 w' → Calls Tryz.prog 15 #[.pointer (some ⟨g, 0, none⟩), .int .i64 (root : Int), .agg (B (kyB 128))] w' (OvPost w' (E3.drop 2))) := (fun w' hb => by have := from_any (HF.out.grow hb).li (kyB 128) ky128; rw [HF.out.li.rkd _ ky128, HF.out.ents, e3_rank.1] at this; exact this))
    | (go_at_call 36; refine (HTH.out _).mono ?_; rintro e w1 ⟨g0, u0, u1, u2, rfl, h3, b1⟩; have H3 := hidden h3; have HQ0 := hidden b1; clear h3 b1; (try replace HQ := hidden (grow_trans HQ.out HQ0.out)); (try replace HQ1 := hidden (grow_trans HQ1.out HQ0.out)); (try replace HQ3 := hidden (grow_trans HQ3.out HQ0.out)))
    | (go_at_call 25; refine (HN3.out _ HQ.out).mono ?_; rintro e x ⟨rfl, bx⟩; clear HN3; replace HQ := hidden (grow_trans HQ.out bx); (try replace HQ1 := hidden (grow_trans HQ1.out bx)); (try replace HQ3 := hidden (grow_trans HQ3.out bx)); (try replace HBN := hidden (HBN.out.grow bx)); clear bx)
    | (go_at_call 25; refine (HNm.out _ HQ.out).mono ?_; rintro e x ⟨rfl, bx⟩; clear HNm; replace HQ := hidden (grow_trans HQ.out bx); (try replace HQ1 := hidden (grow_trans HQ1.out bx)); (try replace HQ3 := hidden (grow_trans HQ3.out bx)); (try replace HBN := hidden (HBN.out.grow bx)); clear bx)
    | ((with_reducible refine at_ald 4 ?_); refine wpList_al _ rfl _ rfl _ zero_pair ?_; intro x g4 hg hl B4 bx; have HG4 : Hid (w2.heap.size ≤ g4) := Nat.le_trans HQ.out.size hg; have HB4 := hidden B4; clear hg hl B4; replace HQ := hidden (grow_trans HQ.out bx); (try replace HQ1 := hidden (grow_trans HQ1.out bx)); (try replace HQ3 := hidden (grow_trans HQ3.out bx)); (try replace HBN := hidden (HBN.out.grow bx)); clear bx)
    | ((with_reducible refine at_st 4 ?_); refine wpList_sto _ rfl _ _ _ rfl g4 _ (encP z32 (.slice none 0 0)).toArray rfl rfl HB4.out HZ.out rfl (encP_one _ _ _ _) ?_; intro x B9 r9; replace HQ := hidden (below_row HQ.out r9 HG4.out); clear B9 r9)
    | ((with_reducible refine at_ald 6 ?_); refine wpList_al _ rfl _ rfl _ zero_pair ?_; intro x g6 hg hl B6 bx; have HG6 : Hid (w2.heap.size ≤ g6) := Nat.le_trans HQ.out.size hg; have HB6 := hidden B6; clear hg hl B6; replace HQ := hidden (grow_trans HQ.out bx); (try replace HQ1 := hidden (grow_trans HQ1.out bx)); (try replace HQ3 := hidden (grow_trans HQ3.out bx)); (try replace HBN := hidden (HBN.out.grow bx)); clear bx)
    | ((with_reducible refine at_st 6 ?_); refine wpList_sto _ rfl _ _ _ rfl g6 _ (encP z32 (.slice none 0 0)).toArray rfl rfl HB6.out HZ.out rfl (encP_one _ _ _ _) ?_; intro x B9 r9; replace HQ := hidden (below_row HQ.out r9 HG6.out); clear B9 r9)
    | ((with_reducible refine at_bdd 46 ?_); refine wpList_bld _ rfl _ _ rfl _ (by rw [List.map_toArray]; exact HB0.out) ?_)
    | ((with_reducible refine at_bdd 53 ?_); refine wpList_bld _ rfl _ _ rfl _ (by rw [List.map_toArray]; exact HB0.out) ?_)
    | ((with_reducible refine at_bdd 86 ?_); refine wpList_bld _ rfl _ _ rfl _ (by rw [List.map_toArray]; exact HB0.out) ?_)
    | ((with_reducible refine at_bdd 95 ?_); refine wpList_bld _ rfl _ _ rfl _ (by rw [List.map_toArray]; exact HB0.out) ?_)
    | ((with_reducible refine at_bdd 58 ?_); refine wpList_bld _ rfl _ _ rfl _ (by rw [List.map_toArray]; exact HB64.out) ?_)
    | ((with_reducible refine at_bdd 87 ?_); refine wpList_bld _ rfl _ _ rfl _ (by rw [List.map_toArray]; exact HB64.out) ?_)
    | ((with_reducible refine at_bdd 94 ?_); refine wpList_bld _ rfl _ _ rfl _ (by rw [List.map_toArray]; exact HB64.out) ?_)
    | ((with_reducible refine at_bdd 167 ?_); refine wpList_bld13 _ rfl _ _ rfl _ (by rw [List.map_toArray]; exact HB128.out) ?_)
    | (go_at_call 24; refine (HRK.out _ HQ.out).mono ?_; rintro e x ⟨rfl, bx⟩; clear HRK; replace HQ := hidden (grow_trans HQ.out bx); (try replace HQ1 := hidden (grow_trans HQ1.out bx)); (try replace HQ3 := hidden (grow_trans HQ3.out bx)); (try replace HBN := hidden (HBN.out.grow bx)); clear bx)
    | (go_at_call 16; refine (HS2.out _ HQ.out).mono ?_; rintro e x1 ⟨a1, c1, V1, rfl, hp, bx⟩; replace HQ := hidden (grow_trans HQ.out bx); (try replace HQ1 := hidden (grow_trans HQ1.out bx)); (try replace HQ3 := hidden (grow_trans HQ3.out bx)); (try replace HBN := hidden (HBN.out.grow bx)); clear bx; have HP1 := hidden hp; have HQ1 := hidden (Below.refl x1.heap.size x1); clear hp HS2)
    | (go_at_call 35; refine (HNX.out _).mono ?_; rintro e x ⟨ys, bb, hor, rfl, bx⟩; obtain ⟨rfl, hN⟩ : bb = true ∧ IsNext (kyB 64) ys := (hor.resolve_right (fun h => not_last64 h.2.1)); have HNY := hidden hN; have HYK : Hid (Key ys) := hN.1; have HYS : Hid ((Tryz.prog.info? 24).map (·.size) = some (B ys).size ∧ (B (List.replicate 32 0)).size = (B ys).size) := ⟨keyB_size HYK.out, by rw [B_size, B_size, HYK.out.1]; rfl⟩; clear hor hN; replace HQ := hidden (grow_trans HQ.out bx); (try replace HQ1 := hidden (grow_trans HQ1.out bx)); (try replace HQ3 := hidden (grow_trans HQ3.out bx)); (try replace HBN := hidden (HBN.out.grow bx)); clear bx)
    | ((with_reducible refine at_ald 12 ?_); refine wpList_al _ rfl _ rfl _ zero_path ?_; intro x g12 hg hl B12 bx; have HG12 : Hid (w2.heap.size ≤ g12 ∧ x1.heap.size ≤ g12) := ⟨Nat.le_trans HQ.out.size hg, Nat.le_trans HQ1.out.size hg⟩; have HB12 := hidden B12; clear hg hl B12; replace HQ := hidden (grow_trans HQ.out bx); (try replace HQ1 := hidden (grow_trans HQ1.out bx)); (try replace HQ3 := hidden (grow_trans HQ3.out bx)); (try replace HBN := hidden (HBN.out.grow bx)); clear bx)
    | ((with_reducible refine at_st 12 ?_); refine wpList_sto _ rfl _ _ _ rfl g12 _ (B ys) rfl rfl HB12.out HYS.out.1 HYS.out.2 (B_one _) ?_; intro x B9 r9; replace HQ := hidden (below_row HQ.out r9 HG12.out.1); replace HQ1 := hidden (below_row HQ1.out r9 HG12.out.2); have HBN := hidden B9; clear B9 r9)
    | ((with_reducible refine at_ldd 65 12 ?_); refine wpList_ld _ rfl _ _ rfl g12 _ rfl HBN.out _ _ Tryz.underlying24 HYS.out.1 ?_)
    | ((with_reducible refine at_ldd 72 12 ?_); refine wpList_ld _ rfl _ _ rfl g12 _ rfl HBN.out _ _ Tryz.underlying24 HYS.out.1 ?_)
    | ((with_reducible refine at_ldd 79 12 ?_); refine wpList_ld _ rfl _ _ rfl g12 _ rfl HBN.out _ _ Tryz.underlying24 HYS.out.1 ?_)
    | (go_at_call 16; refine (HSR.out ys HNY.out _ HQ.out).mono ?_; rintro e x3 ⟨a3, c3, V3, rfl, hp, bx⟩; replace HQ := hidden (grow_trans HQ.out bx); (try replace HQ1 := hidden (grow_trans HQ1.out bx)); (try replace HQ3 := hidden (grow_trans HQ3.out bx)); (try replace HBN := hidden (HBN.out.grow bx)); clear bx; have HP3 := hidden hp; have HQ3 := hidden (Below.refl x3.heap.size x3); clear hp HSR)
    | (go_at_call 16; refine (HSA.out ys HYK.out _ HQ.out).mono ?_; rintro e x ⟨rfl, bx⟩; clear HSA; replace HQ := hidden (grow_trans HQ.out bx); (try replace HQ1 := hidden (grow_trans HQ1.out bx)); (try replace HQ3 := hidden (grow_trans HQ3.out bx)); (try replace HBN := hidden (HBN.out.grow bx)); clear bx)
    | (go_at_call 16; refine (HSB.out ys HYK.out _ HQ.out).mono ?_; rintro e x ⟨rfl, bx⟩; clear HSB; replace HQ := hidden (grow_trans HQ.out bx); (try replace HQ1 := hidden (grow_trans HQ1.out bx)); (try replace HQ3 := hidden (grow_trans HQ3.out bx)); (try replace HBN := hidden (HBN.out.grow bx)); clear bx)
    | (go_at_call 26; refine (HB1.out _ HQ.out).mono ?_; rintro e x ⟨rfl, bx⟩; clear HB1; replace HQ := hidden (grow_trans HQ.out bx); (try replace HQ1 := hidden (grow_trans HQ1.out bx)); (try replace HQ3 := hidden (grow_trans HQ3.out bx)); (try replace HBN := hidden (HBN.out.grow bx)); clear bx)
    | (go_at_call 26; refine (HB2.out _ HQ.out).mono ?_; rintro e x ⟨rfl, bx⟩; clear HB2; replace HQ := hidden (grow_trans HQ.out bx); (try replace HQ1 := hidden (grow_trans HQ1.out bx)); (try replace HQ3 := hidden (grow_trans HQ3.out bx)); (try replace HBN := hidden (HBN.out.grow bx)); clear bx)
    | (go_at_call 27; refine (awake13_any _ (HLD.out _ (grow_trans HQ2.out HQ.out))).mono ?_; rintro e x ⟨rfl, bx⟩; replace HQ := hidden (grow_trans HQ.out bx); (try replace HQ1 := hidden (grow_trans HQ1.out bx)); (try replace HQ3 := hidden (grow_trans HQ3.out bx)); (try replace HBN := hidden (HBN.out.grow bx)); clear bx)
    | (go_at_call 18; refine (samePairs_true _ _ _ _ (E3.take 2) _ (HP1.out.grow HQ1.out) H3.out.two (by decide)).mono ?_; rintro e x ⟨rfl, bx⟩; clear HP1; replace HQ := hidden (grow_trans HQ.out bx); (try replace HQ1 := hidden (grow_trans HQ1.out bx)); (try replace HQ3 := hidden (grow_trans HQ3.out bx)); (try replace HBN := hidden (HBN.out.grow bx)); clear bx)
    | (go_at_call 18; refine (samePairs_true _ _ _ _ (E3.drop 2) _ (HP3.out.grow HQ3.out) H3.out.last (by decide)).mono ?_; rintro e x ⟨rfl, bx⟩; replace HQ := hidden (grow_trans HQ.out bx); (try replace HQ1 := hidden (grow_trans HQ1.out bx)); (try replace HQ3 := hidden (grow_trans HQ3.out bx)); (try replace HBN := hidden (HBN.out.grow bx)); clear bx)
    | (go_at_call 15; refine (HFR.out _ HQ.out).mono ?_; rintro e x5 ⟨b5, rfl, _, hO, bx⟩; replace HQ := hidden (grow_trans HQ.out bx); (try replace HQ1 := hidden (grow_trans HQ1.out bx)); (try replace HQ3 := hidden (grow_trans HQ3.out bx)); (try replace HBN := hidden (HBN.out.grow bx)); clear bx; have HO := hidden hO; clear hO)
    | (go_at_call 22; refine (gone13_any (HO.out.grow HQ0.out) (by decide) (fun e he => Nat.le_trans (e3_small e (List.mem_of_mem_drop he)) (by omega)) _ _ _ H3.out.last 0).mono ?_; rintro e x ⟨rfl, bx⟩; replace HQ := hidden (grow_trans HQ.out bx); (try replace HQ1 := hidden (grow_trans HQ1.out bx)); (try replace HQ3 := hidden (grow_trans HQ3.out bx)); (try replace HBN := hidden (HBN.out.grow bx)); clear bx))
  go_ret
  exact ⟨rfl, grow_trans HQ2.out HQ.out⟩

end Go.Proofs.YtgfdgjkbcdmboabGreatDoor

/- What every statement's proof asks of the program as a whole. -/
namespace Go.Proofs.YtgfdgjkbcdmboabGreatDoor
set_option maxRecDepth 20000
open Go.ChangeShapes Go.WideShapes Go.ChangeAt Go.RowKit

theorem ownK : ownKnob Tryz.prog.godebug = none := by kernel_rfl
theorem laidOut : laidOutB Tryz.prog = true := by kernel_rfl

theorem okWide_st {t : TypeId} {fs : Array Field} {W : World} {base : Nat} {v : Value} (ht : Tryz.prog.underlying t = some (.struct fs)) (h : Value.okWide Tryz.prog W .any base t v) : ∃ cs, v = .agg cs := by
  unfold Value.okWide at h
  cases v <;> simp_all

end Go.Proofs.YtgfdgjkbcdmboabGreatDoor

/- What the two tables of sha hold when a statement's call begins, as the rows list it; and the start that the program's own text lays. -/
namespace Go.Proofs.YtgfdgjkbcdmboabGreatDoor
set_option maxRecDepth 20000
open Go.ChangeShapes Go.WideShapes Go.ChangeAt Go.WideMaps Go.WideElems Go.RowKit

abbrev laid2 : List (String × DataW Unit) := Rows.listCallsRow.laid
abbrev nameOf (i : Nat) : String := (laid2.map (·.1)).getD i Rows.listCallsRow.func

theorem gFirst : Tryz.prog.globalNamed (nameOf 0) = some 1 := by kernel_rfl
theorem gRounds : Tryz.prog.globalNamed (nameOf 1) = some 2 := by kernel_rfl
theorem tFirst : (Tryz.prog.globals[1]?).map (·.type) = some 237 := by kernel_rfl
theorem tRounds : (Tryz.prog.globals[2]?).map (·.type) = some 251 := by kernel_rfl

/-- The door's own heap meets the condition. -/
theorem door_met (os : Os) (args : Array Value) : laidMetH Tryz.prog laid2 ((World.doorLaid Tryz.prog 400 os).forCall (fun _ _ => 0) ⟨#[], args, []⟩).memory :=
  laidMetH_of_parts3 (fuel := 8) (laidMet_of_run' 8 (by kernel_rfl) (by kernel_rfl)) (by kernel_rfl) (by kernel_rfl)

theorem tab_first : (Rows.laid_rootcellar_sha_first : DataW Unit) = Lib.tabData .u32 hs := rfl
theorem tab_rounds : (Rows.laid_rootcellar_sha_rounds : DataW Unit) = Lib.tabData .u32 ks := rfl
theorem cells_w8 : Tryz.prog.cellsOf 237 = 8 := by kernel_rfl
theorem cells_w64 : Tryz.prog.cellsOf 251 = 64 := by kernel_rfl
theorem cells_w : Tryz.prog.cellsOf 225 = 1 := by kernel_rfl

/-- What the condition gives the walks. -/
theorem of_laid {W : World} (h : laidMetH Tryz.prog laid2 W) : Laid W := by
  rw [MakeChecks.laidMetH_plain _ _ _ (by kernel_rfl)] at h
  obtain ⟨ps, ⟨g0, t0, cs0, f0, p0, q0, hg0, ht0, hv0, hd0, ⟨g1, t1, cs1, f1, p1, q1, hg1, ht1, hv1, hd1, _, _⟩, _⟩, _, _⟩ := h
  obtain rfl := Option.some.inj (gFirst.symm.trans hg0)
  obtain rfl := Option.some.inj (gRounds.symm.trans hg1)
  obtain rfl := Option.some.inj (tFirst.symm.trans ht0)
  obtain rfl := Option.some.inj (tRounds.symm.trans ht1)
  rw [tab_first] at hd0
  rw [tab_rounds] at hd1
  have e0 := Lib.cells_of_tab Tryz.underlying237 Tryz.underlying225 cells_w cells_w8 hd0
  have e1 := Lib.cells_of_tab Tryz.underlying251 Tryz.underlying225 cells_w cells_w64 hd1
  have c1 : ∀ i, i < 64 → W.cell? ⟨2, i, none⟩ = some (.int .u32 (ks.getD i 0)) := by
    intro i hi
    rw [World.var?_cell hg1 hv1 i, ← Array.getElem?_toList, e1, List.getElem?_map, List.getElem?_eq_getElem (show i < ks.length from hi)]
    simp [List.getD, show i < ks.length from hi]
  have c0 : ∀ i, i < 8 → W.cell? ⟨1, i, none⟩ = some (.int .u32 (hs.getD i 0)) := by
    intro i hi
    rw [World.var?_cell hg0 hv0 i, ← Array.getElem?_toList, e0, List.getElem?_map, List.getElem?_eq_getElem (show i < hs.length from hi)]
    simp [List.getD, show i < hs.length from hi]
  exact ⟨block_lt_of_cell (c1 0 (by omega)), c1, c0⟩

end Go.Proofs.YtgfdgjkbcdmboabGreatDoor
