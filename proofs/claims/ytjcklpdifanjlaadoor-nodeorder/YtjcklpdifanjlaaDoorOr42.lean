/- The document's Of and Compare (rootcellarref04), as contracts. -/
import Derived.Test.YtjcklpdifanjlaaDoorOr41
namespace Go.Proofs.YtjcklpdifanjlaaDoor
set_option maxRecDepth 20000
open Go.RowKit

/-- The first k bytes are laid. -/
def Cop (xs : List Int) (k : Nat) (ys : List Int) : Prop := ys.length = 32 ∧ ∀ j, j < 32 → ys.getD j 0 = if j < k then xs.getD j 0 else 0
theorem Cop.start (xs : List Int) : Cop xs 0 (List.replicate 32 0) := ⟨by simp, fun j hj => by rw [if_neg (by omega)]; rw [List.getD_eq_getElem?_getD, List.getElem?_replicate, if_pos hj]; rfl⟩
theorem Cop.step {xs ys : List Int} {k : Nat} (h : Cop xs k ys) (hk : k < 32) : Cop xs (k + 1) (ys.set k (xs.getD k 0)) := by
  refine ⟨by rw [List.length_set]; exact h.1, fun j hj => ?_⟩
  rw [key_getD_set _ _ _ _ (by rw [h.1]; exact hk), h.2 j hj]
  by_cases e : j = k
  · subst e
    rw [if_pos rfl, if_pos (by omega)]
  · rw [if_neg e]
    by_cases q : j < k
    · rw [if_pos q, if_pos (by omega)]
    · rw [if_neg q, if_neg (by omega)]
theorem Cop.all {xs ys : List Int} (h : Cop xs 32 ys) (hl : xs.length = 32) : ys = xs := by
  apply List.ext_getElem (by rw [h.1, hl])
  intro j h1 h2
  have := h.2 j (by have := h.1; omega)
  rw [if_pos (by have := h.1; omega)] at this
  simpa [List.getD, h1, h2] using this

set_option maxHeartbeats 2000000 in
theorem rof_in (v : Value) (xs : List Int) (w : World) (h : Reads w v xs) (hl : xs.length = 32) : Calls Tryd.prog 47 #[v] w fun e w' => e = .returned (.tuple #[.agg (B xs), .int .i64 0]) ∧ Below w.heap.size w w' := by
  have HBY : Hid (Bytes xs) := by obtain ⟨_, _, _, _, _, hb, _⟩ := h; exact hb
  obtain ⟨a, c, rfl, h1, _, _, h4⟩ := h
  obtain ⟨b, off, rfl, hc⟩ := h4 (by omega)
  have HC : Hid (∀ w', Below w.heap.size w w' → ∀ i, i < 32 → w'.cell? ⟨b, off + i, none⟩ = some (.int .u8 (xs.getD i 0))) := fun w' hw' i hi => (hw'.cell (p := ⟨b, off + i, none⟩) (block_lt_of_cell (hc i (by omega)))).trans (hc i (by omega))
  have HL := hidden hl
  have hs := b32_size (xs := xs) ⟨hl, HBY.out⟩
  have HZ : Hid ((B xs).size = 32) := by rw [B_size]; exact hl
  have hsz : ∀ ys : List Int, ys.length = 32 → (Tryd.prog.info? 23).map (·.size) = some (B ys).size := fun ys h => by rw [B_size, h]; exact size_b32
  have HSZ := hidden hsz
  rw [hl] at h1 ⊢
  clear h4 hc hl hsz
  go_enter Tryd.func47, Tryd.ntmps47
  go_wp2_with (first | (have hx := hl1; clear hx; refine wpList_al _ rfl _ rfl _ zero_b32 ?_; intro w2 g2 hg2 hl2 B2 b2; have B1' := B1.grow b2) | (refine wpList_al _ rfl _ rfl _ zero_b32 ?_; intro w1 g1 hg1 hl1 B1 b1))
  have c2 := grow_trans b1 b2
  have hg3 : w.heap.size ≤ g2 := Nat.le_trans b1.size hg2
  have hne : g1 ≠ g2 := by omega
  have HB1 := hidden B1'
  have HB2 := hidden B2
  clear B1 B1' B2 b1 b2 hl1 hl2 hg2
  go_loopw [5] (fun s wr => ∃ (k : Nat) (ys : List Int), k ≤ 32 ∧ s = .int .i64 k ∧ Hid (Cop xs k ys) ∧ Hid (Blk wr g1 23 (B (List.replicate 32 0))) ∧ Hid (Blk wr g2 23 (B ys)) ∧ Hid (Below w.heap.size w wr)) (fun s _ => 32 - (intOf s).toNat)
  case atStart => exact ⟨0, _, by omega, rfl, Cop.start xs, HB1, HB2, c2⟩
  case round =>
    clear HB1 HB2 c2
    obtain ⟨k, ys, hk, rfl, hF, hB, hC, hb⟩ := hrel
    by_cases hk2 : k < 32
    · have hk' : (k : Int) < 32 := by omega
      have c1 := HC.out _ hb.out k hk2
      have c3 := hC.out.bcell k (by rw [hF.out.1]; exact hk2)
      have f3 := hC.out.frozen k
      have HST := hidden (hF.out.step hk2)
      generalize xs.getD k 0 = x at *
      go_wp2
      exact ⟨⟨k + 1, _, by omega, by go_num, HST, hB.out.other k _ hne, hC.out.bset k x, setCell_below _ _ hb.out hg3⟩, by simp [intOf]; omega⟩
    · obtain rfl : k = 32 := by omega
      have hyx := hF.out.all HL.out
      rw [hyx] at hC
      go_wp2_with (first | (refine wpList_ld _ rfl _ _ rfl g2 _ rfl hC.out _ _ u_b32 hs ?_) | (refine wpList_sto _ rfl _ _ _ rfl g1 _ (B xs) rfl rfl hB.out hs (by rw [HZ.out, B_size]; simp) (B_one _) ?_; intro w5 B6 g5))
      exact bodyPost_ret (v := .tuple #[.agg (B xs), .int .i64 0]) (results_row_tmp rfl _ _ g1 _ _ _ _ rfl rfl B6 u_b32 hs) rfl ⟨rfl, below_row hb.out g5 hg1⟩

set_option maxHeartbeats 1000000 in
theorem rof_out (v : Value) (xs : List Int) (w : World) (h : Reads w v xs) (hl : xs.length ≠ 32) : Calls Tryd.prog 47 #[v] w fun e w' => e = .returned (.tuple #[.agg (B (List.replicate 32 0)), .int .i64 3]) ∧ Below w.heap.size w w' := by
  obtain ⟨a, c, rfl, _, _, _, _⟩ := h
  have h2 : decide ((xs.length : Int) = 32) = false := decide_eq_false (by omega)
  have h3 : ¬ (xs.length : Int) = 32 := by omega
  have hs := b32_size key_zero
  go_enter Tryd.func47, Tryd.ntmps47
  go_wp2_with (first | (have hx := hl1; clear hx; refine wpList_al _ rfl _ rfl _ zero_b32 ?_; intro w2 g2 hg2 hl2 B2 b2; have B1' := B1.grow b2) | (refine wpList_al _ rfl _ rfl _ zero_b32 ?_; intro w1 g1 hg1 hl1 B1 b1) | (refine wpList_ld _ rfl _ _ rfl g2 _ rfl B2 _ _ u_b32 hs ?_) | (refine wpList_sto _ rfl _ _ _ rfl g1 _ (B (List.replicate 32 0)) rfl rfl B1' hs rfl (B_one _) ?_; intro w5 B6 g5))
  exact bodyPost_ret (v := .tuple #[.agg (B (List.replicate 32 0)), .int .i64 3]) (results_row_tmp rfl _ _ g1 _ _ _ _ rfl rfl B6 u_b32 hs) rfl ⟨rfl, below_row (grow_trans b1 b2) g5 hg1⟩

end Go.Proofs.YtjcklpdifanjlaaDoor

/- The document's Common, Under, Flip, Filled, Next (rootcellarref04), as contracts. -/
namespace Go.Proofs.YtjcklpdifanjlaaDoor
set_option maxRecDepth 20000
open Go.RowKit

set_option maxHeartbeats 4000000 in
set_option maxRecDepth 10000 in
theorem rcommon_at (xs ys : List Int) (c : Nat) (w : World) (hx : Key xs) (hy : Key ys) (hc : IsCommon xs ys c) : Calls Tryd.prog 55 #[.agg (B xs), .agg (B ys)] w fun e w' => e = .returned (.int .i64 c) ∧ Below w.heap.size w w' := by
  have HX := hidden hx
  have HY := hidden hy
  have HC := hidden hc
  have hc0 : c ≤ 256 := hc.1
  have hiX : (Tryd.prog.info? 23).map (·.size) = some (B xs).toList.length := by rw [B_toList, List.length_map, hx.1]; exact size_b32
  have hiY : (Tryd.prog.info? 23).map (·.size) = some (B ys).toList.length := by rw [B_toList, List.length_map, hy.1]; exact size_b32
  clear hx hy hc
  go_enter Tryd.func55, Tryd.ntmps55
  go_wp2_with (first | (have hz := hl1; clear hz; refine wpList_bx _ rfl _ _ rfl _ rfl ?_; intro w2 g2 hg2 hl2 B2 b2; have B1' := B1.grow b2) | (refine wpList_bx _ rfl _ _ rfl _ rfl ?_; intro w1 g1 hg1 hl1 B1 b1))
  have c2 := grow_trans b1 b2
  have HS0 : Hid (∀ w', Below w2.heap.size w2 w' → w'.rangeAt g1 0 (B xs).toList ∧ w'.rangeAt g2 0 (B ys).toList) := fun w' hw' => ⟨(B1'.grow hw').range, (B2.grow hw').range⟩
  clear B1 B1' B2 b1 b2 hg1 hg2 hl1 hl2
  go_loopw [5] (fun s wr => ∃ k : Nat, k ≤ c ∧ s = .int .i64 k ∧ Hid (Below w2.heap.size w2 wr)) (fun s _ => 257 - (intOf s).toNat)
  case atStart => exact ⟨0, by omega, rfl, Below.refl _ _⟩
  case round =>
    obtain ⟨k, hk, rfl, hb⟩ := hrel
    obtain ⟨wz, rfl⟩ : ∃ x, x = wr := ⟨_, rfl⟩
    have HS : Hid (∀ w', Below wz.heap.size wz w' → w'.rangeAt g1 0 (B xs).toList ∧ w'.rangeAt g2 0 (B ys).toList) := fun w' hw' => HS0.out w' (grow_trans hb.out hw')
    have d0 : Below wz.heap.size wz wz.drew := (Below.refl _ _).drew
    by_cases hk2 : k < 256
    · have hk' : decide ((k : Int) < 256) = true := decide_eq_true (by omega)
      obtain ⟨x, hx⟩ : ∃ x, x = kb xs k := ⟨_, rfl⟩
      obtain ⟨y, hy⟩ : ∃ y, y = kb ys k := ⟨_, rfl⟩
      have cX : Hid (∀ w', Calls Tryd.prog 57 #[.agg (B xs), .int .i64 k] w' fun e w'' => e = .returned (.int .i64 x) ∧ Below w'.heap.size w' w'') := by
        intro w'
        rw [hx]
        exact rbit_in xs k w' HX.out hk2
      have cY : Hid (∀ w', Calls Tryd.prog 57 #[.agg (B ys), .int .i64 k] w' fun e w'' => e = .returned (.int .i64 y) ∧ Below w'.heap.size w' w'') := by
        intro w'
        rw [hy]
        exact rbit_in ys k w' HY.out hk2
      by_cases hkc : k < c
      · have hxy : (x == y) = true := by rw [beq_iff_eq, hx, hy]; exact HC.out.2.1 k hkc
        clear hx hy
        go_wp2_with fail
        refine wp_region_held_drew (S := fun w' => w'.rangeAt g1 0 (B xs).toList ∧ w'.rangeAt g2 0 (B ys).toList) (by kernel_rfl) (HS.out _ d0) (fun hHeld => ?_)
        refine wpAnyH_take (i := 0) (v := .int .i64 k) rfl (by kernel_rfl) (by kernel_rfl) (by kernel_rfl) (fun _ _ _ h => h) (Or.inl ⟨by rfl, fun w hS => by go_simp⟩) hHeld ?_
        simp only [Act.put, List.getElem_toArray, List.getElem_cons_zero, List.setIfInBounds_toArray, List.set_cons_zero, List.set_cons_succ]
        refine wpAnyH_take (i := 1) (v := .bool true) rfl (by kernel_rfl) (by kernel_rfl) (by kernel_rfl) (fun _ _ _ h => h) (Or.inl ⟨by rfl, fun w hS => by go_simp⟩) hHeld ?_
        simp only [Act.put, List.getElem_toArray, List.getElem_cons_zero, List.getElem_cons_succ, List.setIfInBounds_toArray, List.set_cons_zero, List.set_cons_succ]
        refine wpAnyH_take (i := 2) (v := .bool true) rfl (by kernel_rfl) (by kernel_rfl) (by kernel_rfl) (fun _ _ _ h => h) (Or.inl ⟨by rfl, fun w hS => by go_simp⟩) hHeld ?_
        simp only [Act.put, List.getElem_toArray, List.getElem_cons_zero, List.getElem_cons_succ, List.setIfInBounds_toArray, List.set_cons_zero, List.set_cons_succ]
        refine wpAnyH_take (i := 3) (v := .agg (B xs)) rfl (by kernel_rfl) (by kernel_rfl) (by kernel_rfl) (fun _ _ _ h => h) (yieldsIf_load_mid rfl 23 (.tmp 2) rfl g1 0 rfl (B xs).toList _ (fun w hS => hS.1) u_b32 rfl hiX) hHeld ?_
        simp only [Act.put, List.getElem_toArray, List.getElem_cons_zero, List.getElem_cons_succ, List.setIfInBounds_toArray, List.set_cons_zero, List.set_cons_succ]
        refine wpAnyH_take (i := 4) (v := .int .i64 k) rfl (by kernel_rfl) (by kernel_rfl) (by kernel_rfl) (fun _ _ _ h => h) (Or.inl ⟨by rfl, fun w hS => by go_simp⟩) hHeld ?_
        simp only [Act.put, List.getElem_toArray, List.getElem_cons_zero, List.getElem_cons_succ, List.setIfInBounds_toArray, List.set_cons_zero, List.set_cons_succ]
        refine wpAnyH_take (i := 6) (v := .agg (B ys)) rfl (by kernel_rfl) (by kernel_rfl) (by kernel_rfl) (fun _ _ _ h => h) (yieldsIf_load_mid rfl 23 (.tmp 3) rfl g2 0 rfl (B ys).toList _ (fun w hS => hS.2) u_b32 rfl hiY) hHeld ?_
        simp only [Act.put, List.getElem_toArray, List.getElem_cons_zero, List.getElem_cons_succ, List.setIfInBounds_toArray, List.set_cons_zero, List.set_cons_succ]
        refine wpAnyH_take (i := 7) (v := .int .i64 k) rfl (by kernel_rfl) (by kernel_rfl) (by kernel_rfl) (fun _ _ _ h => h) (Or.inl ⟨by rfl, fun w hS => by go_simp⟩) hHeld ?_
        simp only [Act.put, List.getElem_toArray, List.getElem_cons_zero, List.getElem_cons_succ, List.setIfInBounds_toArray, List.set_cons_zero, List.set_cons_succ]
        refine wpAnyH_ready (rs := [5]) (by kernel_rfl) (by simp) ?_
        refine AllReadyH.cons rfl (fun KQ hK => ?_) AllReadyH.nil
        go_simp
        refine (cX.out _).mono ?_
        rintro e x1 ⟨rfl, a1⟩
        have d1 := grow_trans d0 a1
        refine hK.out _ _ (HS.out _ d1) (fun hHeld => ?_)
        clear hK KQ
        refine wpAnyH_ready (rs := [8]) (by kernel_rfl) (by simp) ?_
        refine AllReadyH.cons rfl (fun KQ hK => ?_) AllReadyH.nil
        go_simp
        refine (cY.out _).mono ?_
        rintro e x2 ⟨rfl, a2⟩
        have d2 := grow_trans d1 a2
        refine hK.out _ _ (HS.out _ d2) (fun hHeld => ?_)
        clear hK KQ
        refine wpAnyH_take (i := 9) (v := .bool true) rfl (by kernel_rfl) (by kernel_rfl) (by kernel_rfl) (fun _ _ _ h => h) (Or.inl ⟨by rfl, fun w hS => by go_simp⟩) hHeld ?_
        simp only [Act.put, List.getElem_toArray, List.getElem_cons_zero, List.getElem_cons_succ, List.setIfInBounds_toArray, List.set_cons_zero, List.set_cons_succ]
        refine wpAnyH_take (i := 10) (v := .bool true) rfl (by kernel_rfl) (by kernel_rfl) (by kernel_rfl) (fun _ _ _ h => h) (Or.inl ⟨by rfl, fun w hS => by go_simp⟩) hHeld ?_
        simp only [Act.put, List.getElem_toArray, List.getElem_cons_zero, List.getElem_cons_succ, List.setIfInBounds_toArray, List.set_cons_zero, List.set_cons_succ]
        refine wpAnyH_done (by kernel_rfl) ?_ _
        go_wp2
        exact ⟨⟨k + 1, by omega, by go_num, grow_trans hb.out d2⟩, by simp [intOf]; omega⟩
      · obtain rfl : k = c := by omega
        have hxy : (x == y) = false := by rw [beq_eq_false_iff_ne, hx, hy]; exact HC.out.2.2 hk2
        clear hx hy
        go_wp2_with fail
        refine wp_region_held_drew (S := fun w' => w'.rangeAt g1 0 (B xs).toList ∧ w'.rangeAt g2 0 (B ys).toList) (by kernel_rfl) (HS.out _ d0) (fun hHeld => ?_)
        refine wpAnyH_take (i := 0) (v := .int .i64 k) rfl (by kernel_rfl) (by kernel_rfl) (by kernel_rfl) (fun _ _ _ h => h) (Or.inl ⟨by rfl, fun w hS => by go_simp⟩) hHeld ?_
        simp only [Act.put, List.getElem_toArray, List.getElem_cons_zero, List.setIfInBounds_toArray, List.set_cons_zero, List.set_cons_succ]
        refine wpAnyH_take (i := 1) (v := .bool true) rfl (by kernel_rfl) (by kernel_rfl) (by kernel_rfl) (fun _ _ _ h => h) (Or.inl ⟨by rfl, fun w hS => by go_simp⟩) hHeld ?_
        simp only [Act.put, List.getElem_toArray, List.getElem_cons_zero, List.getElem_cons_succ, List.setIfInBounds_toArray, List.set_cons_zero, List.set_cons_succ]
        refine wpAnyH_take (i := 2) (v := .bool true) rfl (by kernel_rfl) (by kernel_rfl) (by kernel_rfl) (fun _ _ _ h => h) (Or.inl ⟨by rfl, fun w hS => by go_simp⟩) hHeld ?_
        simp only [Act.put, List.getElem_toArray, List.getElem_cons_zero, List.getElem_cons_succ, List.setIfInBounds_toArray, List.set_cons_zero, List.set_cons_succ]
        refine wpAnyH_take (i := 3) (v := .agg (B xs)) rfl (by kernel_rfl) (by kernel_rfl) (by kernel_rfl) (fun _ _ _ h => h) (yieldsIf_load_mid rfl 23 (.tmp 2) rfl g1 0 rfl (B xs).toList _ (fun w hS => hS.1) u_b32 rfl hiX) hHeld ?_
        simp only [Act.put, List.getElem_toArray, List.getElem_cons_zero, List.getElem_cons_succ, List.setIfInBounds_toArray, List.set_cons_zero, List.set_cons_succ]
        refine wpAnyH_take (i := 4) (v := .int .i64 k) rfl (by kernel_rfl) (by kernel_rfl) (by kernel_rfl) (fun _ _ _ h => h) (Or.inl ⟨by rfl, fun w hS => by go_simp⟩) hHeld ?_
        simp only [Act.put, List.getElem_toArray, List.getElem_cons_zero, List.getElem_cons_succ, List.setIfInBounds_toArray, List.set_cons_zero, List.set_cons_succ]
        refine wpAnyH_take (i := 6) (v := .agg (B ys)) rfl (by kernel_rfl) (by kernel_rfl) (by kernel_rfl) (fun _ _ _ h => h) (yieldsIf_load_mid rfl 23 (.tmp 3) rfl g2 0 rfl (B ys).toList _ (fun w hS => hS.2) u_b32 rfl hiY) hHeld ?_
        simp only [Act.put, List.getElem_toArray, List.getElem_cons_zero, List.getElem_cons_succ, List.setIfInBounds_toArray, List.set_cons_zero, List.set_cons_succ]
        refine wpAnyH_take (i := 7) (v := .int .i64 k) rfl (by kernel_rfl) (by kernel_rfl) (by kernel_rfl) (fun _ _ _ h => h) (Or.inl ⟨by rfl, fun w hS => by go_simp⟩) hHeld ?_
        simp only [Act.put, List.getElem_toArray, List.getElem_cons_zero, List.getElem_cons_succ, List.setIfInBounds_toArray, List.set_cons_zero, List.set_cons_succ]
        refine wpAnyH_ready (rs := [5]) (by kernel_rfl) (by simp) ?_
        refine AllReadyH.cons rfl (fun KQ hK => ?_) AllReadyH.nil
        go_simp
        refine (cX.out _).mono ?_
        rintro e x1 ⟨rfl, a1⟩
        have d1 := grow_trans d0 a1
        refine hK.out _ _ (HS.out _ d1) (fun hHeld => ?_)
        clear hK KQ
        refine wpAnyH_ready (rs := [8]) (by kernel_rfl) (by simp) ?_
        refine AllReadyH.cons rfl (fun KQ hK => ?_) AllReadyH.nil
        go_simp
        refine (cY.out _).mono ?_
        rintro e x2 ⟨rfl, a2⟩
        have d2 := grow_trans d1 a2
        refine hK.out _ _ (HS.out _ d2) (fun hHeld => ?_)
        clear hK KQ
        refine wpAnyH_take (i := 9) (v := .bool false) rfl (by kernel_rfl) (by kernel_rfl) (by kernel_rfl) (fun _ _ _ h => h) (Or.inl ⟨by rfl, fun w hS => by go_simp⟩) hHeld ?_
        simp only [Act.put, List.getElem_toArray, List.getElem_cons_zero, List.getElem_cons_succ, List.setIfInBounds_toArray, List.set_cons_zero, List.set_cons_succ]
        refine wpAnyH_take (i := 10) (v := .bool false) rfl (by kernel_rfl) (by kernel_rfl) (by kernel_rfl) (fun _ _ _ h => h) (Or.inl ⟨by rfl, fun w hS => by go_simp⟩) hHeld ?_
        simp only [Act.put, List.getElem_toArray, List.getElem_cons_zero, List.getElem_cons_succ, List.setIfInBounds_toArray, List.set_cons_zero, List.set_cons_succ]
        refine wpAnyH_done (by kernel_rfl) ?_ _
        go_wp2
        go_ret
        exact ⟨rfl, grow_trans c2 (grow_trans hb.out d2)⟩
    · have hk' : decide ((k : Int) < 256) = false := decide_eq_false (by omega)
      obtain rfl : k = c := by omega
      go_wp2_with fail
      refine wp_region_held_drew (S := fun w' => w'.rangeAt g1 0 (B xs).toList ∧ w'.rangeAt g2 0 (B ys).toList) (by kernel_rfl) (HS.out _ d0) (fun hHeld => ?_)
      refine wpAnyH_take (i := 0) (v := .int .i64 k) rfl (by kernel_rfl) (by kernel_rfl) (by kernel_rfl) (fun _ _ _ h => h) (Or.inl ⟨by rfl, fun w hS => by go_simp⟩) hHeld ?_
      simp only [Act.put, List.getElem_toArray, List.getElem_cons_zero, List.setIfInBounds_toArray, List.set_cons_zero, List.set_cons_succ]
      refine wpAnyH_take (i := 1) (v := .bool false) rfl (by kernel_rfl) (by kernel_rfl) (by kernel_rfl) (fun _ _ _ h => h) (Or.inl ⟨by rfl, fun w hS => by go_simp⟩) hHeld ?_
      simp only [Act.put, List.getElem_toArray, List.getElem_cons_zero, List.getElem_cons_succ, List.setIfInBounds_toArray, List.set_cons_zero, List.set_cons_succ]
      refine wpAnyH_take (i := 2) (v := .bool false) rfl (by kernel_rfl) (by kernel_rfl) (by kernel_rfl) (fun _ _ _ h => h) (Or.inl ⟨by rfl, fun w hS => by go_simp⟩) hHeld ?_
      simp only [Act.put, List.getElem_toArray, List.getElem_cons_zero, List.getElem_cons_succ, List.setIfInBounds_toArray, List.set_cons_zero, List.set_cons_succ]
      refine wpAnyH_take (i := 3) (v := undef) rfl (by kernel_rfl) (by kernel_rfl) (by kernel_rfl) (fun _ _ _ h => h) (Or.inr ⟨by rfl, rfl⟩) hHeld ?_
      simp only [Act.put, List.getElem_toArray, List.getElem_cons_zero, List.getElem_cons_succ, List.setIfInBounds_toArray, List.set_cons_zero, List.set_cons_succ]
      refine wpAnyH_take (i := 4) (v := undef) rfl (by kernel_rfl) (by kernel_rfl) (by kernel_rfl) (fun _ _ _ h => h) (Or.inr ⟨by rfl, rfl⟩) hHeld ?_
      simp only [Act.put, List.getElem_toArray, List.getElem_cons_zero, List.getElem_cons_succ, List.setIfInBounds_toArray, List.set_cons_zero, List.set_cons_succ]
      refine wpAnyH_take (i := 6) (v := undef) rfl (by kernel_rfl) (by kernel_rfl) (by kernel_rfl) (fun _ _ _ h => h) (Or.inr ⟨by rfl, rfl⟩) hHeld ?_
      simp only [Act.put, List.getElem_toArray, List.getElem_cons_zero, List.getElem_cons_succ, List.setIfInBounds_toArray, List.set_cons_zero, List.set_cons_succ]
      refine wpAnyH_take (i := 7) (v := undef) rfl (by kernel_rfl) (by kernel_rfl) (by kernel_rfl) (fun _ _ _ h => h) (Or.inr ⟨by rfl, rfl⟩) hHeld ?_
      simp only [Act.put, List.getElem_toArray, List.getElem_cons_zero, List.getElem_cons_succ, List.setIfInBounds_toArray, List.set_cons_zero, List.set_cons_succ]
      refine wpAnyH_ready (rs := [5]) (by kernel_rfl) (by simp) ?_
      refine AllReadyH.cons rfl (fun KQ hK => ?_) AllReadyH.nil
      go_simp
      refine hK.out _ _ (HS.out _ d0) (fun hHeld => ?_)
      clear hK KQ
      refine wpAnyH_ready (rs := [8]) (by kernel_rfl) (by simp) ?_
      refine AllReadyH.cons rfl (fun KQ hK => ?_) AllReadyH.nil
      go_simp
      refine hK.out _ _ (HS.out _ d0) (fun hHeld => ?_)
      clear hK KQ
      refine wpAnyH_take (i := 9) (v := undef) rfl (by kernel_rfl) (by kernel_rfl) (by kernel_rfl) (fun _ _ _ h => h) (Or.inr ⟨by rfl, rfl⟩) hHeld ?_
      simp only [Act.put, List.getElem_toArray, List.getElem_cons_zero, List.getElem_cons_succ, List.setIfInBounds_toArray, List.set_cons_zero, List.set_cons_succ]
      refine wpAnyH_take (i := 10) (v := .bool false) rfl (by kernel_rfl) (by kernel_rfl) (by kernel_rfl) (fun _ _ _ h => h) (Or.inl ⟨by rfl, fun w hS => by go_simp⟩) hHeld ?_
      simp only [Act.put, List.getElem_toArray, List.getElem_cons_zero, List.getElem_cons_succ, List.setIfInBounds_toArray, List.set_cons_zero, List.set_cons_succ]
      refine wpAnyH_done (by kernel_rfl) ?_ _
      go_wp2
      go_ret
      exact ⟨rfl, grow_trans c2 (grow_trans hb.out d0)⟩

end Go.Proofs.YtjcklpdifanjlaaDoor
