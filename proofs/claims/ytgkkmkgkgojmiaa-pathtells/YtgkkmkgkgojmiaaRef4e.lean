/- The document's Flip, Filled, Next (rootcellarref04), as contracts. -/
import Derived.Test.YtgkkmkgkgojmiaaRef4d
namespace Go.Proofs.Ytgkkmkgkgojmiaa
open Go.RowKit

set_option maxHeartbeats 1000000 in
theorem rflip_out (xs : List Int) (d : Int) (w : World) (hd : ¬ (0 ≤ d ∧ d < 256)) : Calls Try.prog 23 #[.agg (B xs), .int .i64 d] w (KeyPost (fun ys => ys = List.replicate 32 0) 2 w) := by
  have hs := b32_size key_zero
  by_cases h0 : d < 0
  · have t0 : decide (d < 0) = true := decide_eq_true h0
    clear hd h0
    go_enter Try.func23, Try.ntmps23
    go_wp2_with (first | (refine wpList_bx _ rfl _ _ rfl _ rfl ?_; intro w1 g1 hg1 hl1 B1 b1) | (refine wpList_al _ rfl _ rfl _ zero_b32 ?_; intro w2 g2 hg2 hl2 B2 b2) | (refine wpList_bld _ rfl _ _ rfl (B (List.replicate 32 0)) (by kernel_rfl) ?_) | (refine wpList_sto _ rfl _ _ _ rfl g2 _ (B (List.replicate 32 0)) rfl rfl B2 hs rfl (B_one _) ?_; intro w4 B4 g4))
    exact bodyPost_ret (v := .tuple #[.agg (B (List.replicate 32 0)), .int .i64 2]) (results_row_tmp rfl _ _ g2 _ _ _ _ rfl rfl B4 u_b32 hs) rfl ⟨_, rfl, rfl, below_row (grow_trans b1 b2) g4 (Nat.le_trans b1.size hg2)⟩
  · have t0 : decide (d < 0) = false := decide_eq_false h0
    have t1 : decide (256 ≤ d) = true := decide_eq_true (by omega)
    clear hd h0
    go_enter Try.func23, Try.ntmps23
    go_wp2_with (first | (refine wpList_bx _ rfl _ _ rfl _ rfl ?_; intro w1 g1 hg1 hl1 B1 b1) | (refine wpList_al _ rfl _ rfl _ zero_b32 ?_; intro w2 g2 hg2 hl2 B2 b2) | (refine wpList_bld _ rfl _ _ rfl (B (List.replicate 32 0)) (by kernel_rfl) ?_) | (refine wpList_sto _ rfl _ _ _ rfl g2 _ (B (List.replicate 32 0)) rfl rfl B2 hs rfl (B_one _) ?_; intro w4 B4 g4))
    exact bodyPost_ret (v := .tuple #[.agg (B (List.replicate 32 0)), .int .i64 2]) (results_row_tmp rfl _ _ g2 _ _ _ _ rfl rfl B4 u_b32 hs) rfl ⟨_, rfl, rfl, below_row (grow_trans b1 b2) g4 (Nat.le_trans b1.size hg2)⟩

set_option maxHeartbeats 4000000 in
set_option maxRecDepth 10000 in
theorem rflip_in (xs : List Int) (d : Nat) (w : World) (hx : Key xs) (hd : d < 256) : Calls Try.prog 23 #[.agg (B xs), .int .i64 d] w (KeyPost (IsFlip xs d) 0 w) := by
  have t0 : decide ((d : Int) < 0) = false := decide_eq_false (by omega)
  have t1 : decide ((256 : Int) ≤ (d : Int)) = false := decide_eq_false (by omega)
  have hiX : (Try.prog.info? 23).map (·.size) = some (B xs).toList.length := by rw [B_toList, List.length_map, hx.1]; exact size_b32
  obtain ⟨y, hy⟩ : ∃ y, y = kb xs d := ⟨_, rfl⟩
  have hy2 : y = 0 ∨ y = 1 := by rw [hy]; exact kb_two xs d
  have cB : Hid (∀ w', Calls Try.prog 15 #[.agg (B xs), .int .i64 d] w' fun e w'' => e = .returned (.int .i64 y) ∧ Below w'.heap.size w' w'') := by
    intro w'
    rw [hy]
    exact rbit_in xs d w' hx hd
  obtain ⟨f, hf⟩ : ∃ f : Int, f = 1 - y := ⟨_, rfl⟩
  have w5 : IntKind.i64.wrap (1 - y) = f := by rw [IntKind.wrap_i64]; omega
  have cS : Hid (∀ w', Calls Try.prog 35 #[.agg (B xs), .int .i64 d, .int .i64 f] w' fun e w'' => ∃ ys, IsSet xs d f ys ∧ e = .returned (.agg (B ys)) ∧ Below w'.heap.size w' w'') := fun w' => rset_in xs d f w' hx hd (by omega)
  have HF : Hid (∀ ys, IsSet xs d f ys → IsFlip xs d ys) := fun ys h => ⟨h.1, fun j hj => by
    rw [h.2 j hj]
    by_cases e : j = d
    · rw [if_pos e, if_pos e, e, hf, hy]
    · rw [if_neg e, if_neg e]⟩
  clear hx hy hf hy2
  go_enter Try.func23, Try.ntmps23
  go_wp2_with (first | (refine wpList_bx _ rfl _ _ rfl _ rfl ?_; intro w1 g1 hg1 hl1 B1 b1) | (refine wpList_al _ rfl _ rfl _ zero_b32 ?_; intro w2 g2 hg2 hl2 B2 b2; have B1' := B1.grow b2))
  have c2 := grow_trans b1 b2
  have hg3 : w.heap.size ≤ g2 := Nat.le_trans b1.size hg2
  have hne : g1 ≠ g2 := by omega
  have HS : Hid (∀ w', Below w2.heap.size w2 w' → w'.rangeAt g1 0 (B xs).toList) := fun w' hw' => (B1'.grow hw').range
  have HB : Hid (∀ w', Below w2.heap.size w2 w' → Blk w' g1 23 (B xs) ∧ Blk w' g2 23 (B (List.replicate 32 0))) := fun w' hw' => ⟨B1'.grow hw', B2.grow hw'⟩
  have d0 : Below w2.heap.size w2 w2.drew := (Below.refl _ _).drew
  clear B1 B1' B2 b1 b2 hl1 hl2 hg2
  refine wp_region_held_drew (S := fun w' => w'.rangeAt g1 0 (B xs).toList) (by kernel_rfl) (HS.out _ d0) (fun hHeld => ?_)
  refine wpAnyH_take (i := 0) (v := .agg (B xs)) rfl (by kernel_rfl) (by kernel_rfl) (by kernel_rfl) (fun _ _ _ h => h) (yieldsIf_load_mid rfl 23 (.tmp 2) rfl g1 0 rfl (B xs).toList _ (fun w hS => hS) u_b32 rfl hiX) hHeld ?_
  simp only [Act.put, List.getElem_toArray, List.getElem_cons_zero, List.setIfInBounds_toArray, List.set_cons_zero, List.set_cons_succ]
  refine wpAnyH_take (i := 1) (v := .int .i64 (d : Int)) rfl (by kernel_rfl) (by kernel_rfl) (by kernel_rfl) (fun _ _ _ h => h) (Or.inl ⟨by rfl, fun w hS => by go_simp⟩) hHeld ?_
  simp only [Act.put, List.getElem_toArray, List.getElem_cons_zero, List.getElem_cons_succ, List.setIfInBounds_toArray, List.set_cons_zero, List.set_cons_succ]
  refine wpAnyH_take (i := 2) (v := .agg (B xs)) rfl (by kernel_rfl) (by kernel_rfl) (by kernel_rfl) (fun _ _ _ h => h) (yieldsIf_load_mid rfl 23 (.tmp 2) rfl g1 0 rfl (B xs).toList _ (fun w hS => hS) u_b32 rfl hiX) hHeld ?_
  simp only [Act.put, List.getElem_toArray, List.getElem_cons_zero, List.getElem_cons_succ, List.setIfInBounds_toArray, List.set_cons_zero, List.set_cons_succ]
  refine wpAnyH_take (i := 3) (v := .int .i64 (d : Int)) rfl (by kernel_rfl) (by kernel_rfl) (by kernel_rfl) (fun _ _ _ h => h) (Or.inl ⟨by rfl, fun w hS => by go_simp⟩) hHeld ?_
  simp only [Act.put, List.getElem_toArray, List.getElem_cons_zero, List.getElem_cons_succ, List.setIfInBounds_toArray, List.set_cons_zero, List.set_cons_succ]
  refine wpAnyH_ready (rs := [4]) (by kernel_rfl) (by simp) ?_
  refine AllReadyH.cons rfl (fun KQ hK => ?_) AllReadyH.nil
  go_simp
  refine (cB.out _).mono ?_
  rintro e x1 ⟨rfl, a1⟩
  have d1 := grow_trans d0 a1
  refine hK.out _ _ (HS.out _ d1) (fun hHeld => ?_)
  clear hK KQ
  refine wpAnyH_take (i := 5) (v := .int .i64 f) rfl (by kernel_rfl) (by kernel_rfl) (by kernel_rfl) (fun _ _ _ h => h) (Or.inl ⟨by rfl, fun w hS => by go_simp⟩) hHeld ?_
  simp only [Act.put, List.getElem_toArray, List.getElem_cons_zero, List.getElem_cons_succ, List.setIfInBounds_toArray, List.set_cons_zero, List.set_cons_succ]
  refine wpAnyH_ready (rs := [6]) (by kernel_rfl) (by simp) ?_
  refine AllReadyH.cons rfl (fun KQ hK => ?_) AllReadyH.nil
  go_simp
  refine (cS.out _).mono ?_
  rintro e x2 ⟨ys, hys, rfl, a2⟩
  have d2 := grow_trans d1 a2
  refine hK.out _ _ (HS.out _ d2) (fun hHeld => ?_)
  clear hK KQ
  have hs2 := b32_size hys.1
  have HZ : Hid ((B ys).size = 32) := by rw [B_size]; exact hys.1.1
  have HY := hidden (HF.out _ hys)
  clear hys
  refine wpAnyH_ready (rs := [7]) (by kernel_rfl) (by simp) ?_
  refine AllReadyH.cons rfl (fun KQ hK => ?_) AllReadyH.nil
  refine step_sto _ rfl _ _ _ rfl g2 _ (B ys) rfl rfl (HB.out _ d2).2 hs2 (by rw [HZ.out, B_size]; simp) (B_one _) ?_
  intro w5 B6 g5
  refine hK.out _ _ (((HB.out _ d2).1.kept g5 hne).range) (fun hHeld => ?_)
  clear hK KQ
  refine wpAnyH_ready (rs := [8]) (by kernel_rfl) (by simp) ?_
  refine AllReadyH.cons rfl (fun KQ hK => ?_) AllReadyH.nil
  go_simp
  refine hK.out _ _ (((HB.out _ d2).1.kept g5 hne).range) (fun hHeld => ?_)
  clear hK KQ
  refine wpAnyH_done (by kernel_rfl) ?_ _
  go_wp2_with fail
  exact bodyPost_ret (v := .tuple #[.agg (B ys), .int .i64 0]) (results_row_tmp rfl _ _ g2 _ _ _ _ rfl rfl B6 u_b32 hs2) rfl ⟨_, HY.out, rfl, below_row (grow_trans c2 d2) g5 hg3⟩

end Go.Proofs.Ytgkkmkgkgojmiaa
