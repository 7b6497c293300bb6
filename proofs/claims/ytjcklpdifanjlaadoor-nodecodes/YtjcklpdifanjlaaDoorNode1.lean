/- node.bare, Check, is, as contracts. -/
import Derived.Test.YtjcklpdifanjlaaDoorNodeMem
import Derived.Deep.RegionHeld
import Derived.Deep.RegionHeld2
namespace Go.Proofs.YtjcklpdifanjlaaDoor
set_option maxRecDepth 20000
open Go.RowKit

/-- A node that may be. -/
def okN (k : Int) (a b c d : List Int) : Bool := decide ((k = 0 ∧ a = z32 ∧ b = z32 ∧ c = z32 ∧ d = z32) ∨ (k = 1 ∧ c = z32 ∧ d = z32) ∨ (k = 2 ∧ a = z32 ∧ b = z32))

theorem z_nd : Nd 0 z32 z32 z32 z32 := ⟨by omega, by omega, rfl, rfl, rfl, rfl, z32_bytes, z32_bytes, z32_bytes, z32_bytes⟩

def BarePost (k : Int) (a b c d : List Int) (w : World) (e : Ending) (w' : World) : Prop :=
  ∃ k' a' b' c' d', e = .returned (.agg (B (nd k' a' b' c' d'))) ∧ Nd k' a' b' c' d' ∧ okN k a b c d = decide (nd k a b c d = nd k' a' b' c' d') ∧ Below w.heap.size w w'

set_option maxHeartbeats 2000000 in
theorem bare_any (k : Int) (a b c d : List Int) (w : World) (h : Nd k a b c d) : Calls Tryd.prog 48 #[.agg (B (nd k a b c d))] w (BarePost k a b c d w) := by
  obtain ⟨fs, hu⟩ := u_node
  have HU := hidden hu
  have H := hidden h
  have H129 : Hid ((Tryd.prog.info? 27).map (·.size) = some (B (nd k a b c d)).size) := by show _ = _; rw [h.size, size_node]
  obtain ⟨N, hN⟩ : ∃ N, N = nd k a b c d := ⟨_, rfl⟩
  have HN := hidden hN
  rw [← hN] at H129 ⊢
  have hkd := fun w g t (q : Blk w g t (B N)) => Nd.kind (k := k) (a := a) (b := b) (c := c) (d := d) (by rw [← hN]; exact q)
  have HKD : Hid (∀ w g t, Blk w g t (B N) → w.cell? ⟨g, 0, none⟩ = some (.int .u8 k)) := hkd
  have SA : Hid (Seg N 1 a) := by rw [hN]; exact h.segA
  have SB : Hid (Seg N 33 b) := by rw [hN]; exact h.segB
  have SC : Hid (Seg N 65 c) := by rw [hN]; exact h.segC
  have SD : Hid (Seg N 97 d) := by rw [hN]; exact h.segD
  have LA : Hid ((Tryd.prog.info? 24).map (·.size) = some a.length) := by show _ = _; rw [h.la]; exact sz_path
  have LB : Hid ((Tryd.prog.info? 25).map (·.size) = some b.length) := by show _ = _; rw [h.lb]; exact sz_hash
  have LC : Hid ((Tryd.prog.info? 25).map (·.size) = some c.length) := by show _ = _; rw [h.lc]; exact sz_hash
  have LD : Hid ((Tryd.prog.info? 25).map (·.size) = some d.length) := by show _ = _; rw [h.ld]; exact sz_hash
  by_cases hk1 : k = 1
  · have HB : Hid (Tryd.prog.built 27 [(0, .int .u8 1), (1, .agg (B a)), (2, .agg (B b))] = some (B (nd 1 a b z32 z32))) := built_leaf a b h.la h.lb
    have HR : Hid (Nd 1 a b z32 z32) := ⟨by omega, by omega, h.la, h.lb, rfl, rfl, h.ba, h.bb, z32_bytes, z32_bytes⟩
    have HO : Hid (okN k a b c d = decide (nd k a b c d = nd 1 a b z32 z32)) := by
      show _ = _
      rw [Bool.eq_iff_iff, decide_eq_true_iff, nd_inj h HR.out]
      simp [okN, hk1]
    have q1 : (k == 1) = true := by simp [hk1]
    clear h hu hN hkd hk1
    go_enter Tryd.func48, Tryd.ntmps48
    go_wp2_with (first
      | ((with_reducible refine at_bx ?_); refine wpList_bx _ rfl _ _ rfl _ rfl ?_; intro w1 g1 hg1 hl1 B1 b1; have ck := HKD.out _ _ _ B1)
      | ((with_reducible refine at_al ?_); refine wpList_al _ rfl _ rfl _ zero_node ?_; intro w2 g2 hg2 hl2 B2 b2; have B1' := B1.grow b2; have ck2 := HKD.out _ _ _ B1')
      | ((with_reducible refine at_ld 7 ?_); refine wpList_ldm _ rfl _ _ rfl g1 1 _ _ a rfl B1' SA.out _ _ Tryd.underlying24 LA.out ?_)
      | ((with_reducible refine at_ld 9 ?_); refine wpList_ldm _ rfl _ _ rfl g1 33 _ _ b rfl B1' SB.out _ _ Tryd.underlying25 LB.out ?_)
      | ((with_reducible refine at_bd ?_); refine wpList_bld _ rfl _ _ rfl _ (by rw [List.map_toArray]; exact HB.out) ?_)
      | ((with_reducible refine at_st 2 ?_); refine wpList_sto _ rfl _ _ _ rfl g2 _ _ rfl rfl B2 (by rw [HR.out.size]; exact size_node) (by rw [HR.out.size]; rfl) (B_one _) ?_; intro w3 B3 g3))
    exact bodyPost_ret (v := .agg (B (nd 1 a b z32 z32))) (results_cell_row rfl _ _ g2 _ _ _ _ rfl B3 HU.out rfl (by rw [HR.out.size]; exact size_node)) rfl ⟨_, _, _, _, _, rfl, HR.out, HO.out, below_row (grow_trans b1 b2) g3 (Nat.le_trans b1.size hg2)⟩
  · have q1 : (k == 1) = false := by simp [hk1]
    by_cases hk2 : k = 2
    · have HB : Hid (Tryd.prog.built 27 [(0, .int .u8 2), (3, .agg (B c)), (4, .agg (B d))] = some (B (nd 2 z32 z32 c d))) := built_inner c d h.lc h.ld
      have HR : Hid (Nd 2 z32 z32 c d) := ⟨by omega, by omega, rfl, rfl, h.lc, h.ld, z32_bytes, z32_bytes, h.bc, h.bd⟩
      have HO : Hid (okN k a b c d = decide (nd k a b c d = nd 2 z32 z32 c d)) := by
        show _ = _
        rw [Bool.eq_iff_iff, decide_eq_true_iff, nd_inj h HR.out]
        simp [okN, hk2]
      have q2 : (k == 2) = true := by simp [hk2]
      clear h hu hN hkd hk1 hk2
      go_enter Tryd.func48, Tryd.ntmps48
      go_wp2_with (first
        | ((with_reducible refine at_bx ?_); refine wpList_bx _ rfl _ _ rfl _ rfl ?_; intro w1 g1 hg1 hl1 B1 b1; have ck := HKD.out _ _ _ B1)
        | ((with_reducible refine at_al ?_); refine wpList_al _ rfl _ rfl _ zero_node ?_; intro w2 g2 hg2 hl2 B2 b2; have B1' := B1.grow b2; have ck2 := HKD.out _ _ _ B1')
        | ((with_reducible refine at_ld 14 ?_); refine wpList_ldm _ rfl _ _ rfl g1 65 _ _ c rfl B1' SC.out _ _ Tryd.underlying25 LC.out ?_)
        | ((with_reducible refine at_ld 16 ?_); refine wpList_ldm _ rfl _ _ rfl g1 97 _ _ d rfl B1' SD.out _ _ Tryd.underlying25 LD.out ?_)
        | ((with_reducible refine at_bd ?_); refine wpList_bld _ rfl _ _ rfl _ (by rw [List.map_toArray]; exact HB.out) ?_)
        | ((with_reducible refine at_st 2 ?_); refine wpList_sto _ rfl _ _ _ rfl g2 _ _ rfl rfl B2 (by rw [HR.out.size]; exact size_node) (by rw [HR.out.size]; rfl) (B_one _) ?_; intro w3 B3 g3))
      exact bodyPost_ret (v := .agg (B (nd 2 z32 z32 c d))) (results_cell_row rfl _ _ g2 _ _ _ _ rfl B3 HU.out rfl (by rw [HR.out.size]; exact size_node)) rfl ⟨_, _, _, _, _, rfl, HR.out, HO.out, below_row (grow_trans b1 b2) g3 (Nat.le_trans b1.size hg2)⟩
    · have HB : Hid (Tryd.prog.built 27 [] = some (B (nd 0 z32 z32 z32 z32))) := built_empty
      have HR : Hid (Nd 0 z32 z32 z32 z32) := z_nd
      have HO : Hid (okN k a b c d = decide (nd k a b c d = nd 0 z32 z32 z32 z32)) := by
        show _ = _
        rw [Bool.eq_iff_iff, decide_eq_true_iff, nd_inj h HR.out]
        simp [okN, hk1, hk2]
      have q2 : (k == 2) = false := by simp [hk2]
      clear h hu hN hkd hk1 hk2
      go_enter Tryd.func48, Tryd.ntmps48
      go_wp2_with (first
        | ((with_reducible refine at_bx ?_); refine wpList_bx _ rfl _ _ rfl _ rfl ?_; intro w1 g1 hg1 hl1 B1 b1; have ck := HKD.out _ _ _ B1)
        | ((with_reducible refine at_al ?_); refine wpList_al _ rfl _ rfl _ zero_node ?_; intro w2 g2 hg2 hl2 B2 b2; have B1' := B1.grow b2; have ck2 := HKD.out _ _ _ B1')
        | ((with_reducible refine at_bd ?_); refine wpList_bld _ rfl _ _ rfl _ (by rw [List.map_toArray]; exact HB.out) ?_)
        | ((with_reducible refine at_st 2 ?_); refine wpList_sto _ rfl _ _ _ rfl g2 _ _ rfl rfl B2 (by rw [HR.out.size]; exact size_node) (by rw [HR.out.size]; rfl) (B_one _) ?_; intro w3 B3 g3))
      exact bodyPost_ret (v := .agg (B (nd 0 z32 z32 z32 z32))) (results_cell_row rfl _ _ g2 _ _ _ _ rfl B3 HU.out rfl (by rw [HR.out.size]; exact size_node)) rfl ⟨_, _, _, _, _, rfl, HR.out, HO.out, below_row (grow_trans b1 b2) g3 (Nat.le_trans b1.size hg2)⟩

def okE (k : Int) (a b c d : List Int) : Int := if okN k a b c d = true then 0 else 2

set_option maxHeartbeats 2000000 in
theorem check_any (k : Int) (a b c d : List Int) (w : World) (h : Nd k a b c d) : Calls Tryd.prog 15 #[.agg (B (nd k a b c d))] w fun e w' => e = .returned (.int .i64 (okE k a b c d)) ∧ Below w.heap.size w w' := by
  obtain ⟨fs, hu⟩ := u_node
  have HU := hidden hu
  have H := hidden h
  have H129 : Hid ((Tryd.prog.info? 27).map (·.size) = some (B (nd k a b c d)).toList.length) := by show _ = _; rw [Array.length_toList, h.size, size_node]
  have HC : Hid (∀ w', Calls Tryd.prog 48 #[.agg (B (nd k a b c d))] w' (BarePost k a b c d w')) := fun w' => bare_any k a b c d w' h
  have HEQ : Hid (∀ k' a' b' c' d', Nd k' a' b' c' d' → ∀ w, (Op.equalIn 10000 27 (.agg (B (nd k a b c d))) (.agg (B (nd k' a' b' c' d')))).run Tryd.prog w = .ok (decide (nd k a b c d = nd k' a' b' c' d')) w) := fun k' a' b' c' d' h' w => node_eq h h' w
  obtain ⟨r, hr⟩ : ∃ r, r = okN k a b c d := ⟨_, rfl⟩
  have HO : Hid (okE k a b c d = if r = true then 0 else 2) := by show _ = _; rw [okE, hr]
  rw [HO.out]
  have HP : Hid (∀ w e w', BarePost k a b c d w e w' → ∃ M, e = .returned (.agg (B M)) ∧ (∀ w, (Op.equalIn 10000 27 (.agg (B (nd k a b c d))) (.agg (B M))).run Tryd.prog w = .ok r w) ∧ Below w.heap.size w w') := by
    rintro w e w' ⟨k', a', b', c', d', rfl, hn, ho, hb⟩
    refine ⟨_, rfl, fun w => ?_, hb⟩
    rw [HEQ.out k' a' b' c' d' hn w, hr, ho]
  obtain ⟨N, hN⟩ : ∃ N, N = nd k a b c d := ⟨_, rfl⟩
  rw [← hN] at H129 HC HP ⊢
  clear h hu hN hr HEQ
  go_enter Tryd.func15, Tryd.ntmps15
  go_wp2_with (first
    | ((with_reducible refine at_bx ?_); refine wpList_bx _ rfl _ _ rfl _ rfl ?_; intro w1 g1 hg1 hl1 B1 b1))
  have HS : Hid (∀ w', Below w1.heap.size w1 w' → w'.rangeAt g1 0 (B N).toList) := fun w' hw' => (B1.grow hw').range
  have d0 : Below w1.heap.size w1 w1.drew := (Below.refl _ _).drew
  refine wp_region_held_drew (S := fun w' => w'.rangeAt g1 0 (B N).toList) (by kernel_rfl) (HS.out _ d0) (fun hHeld => ?_)
  refine wpAnyH_take (i := 0) (v := .agg (B N)) rfl (by kernel_rfl) (by kernel_rfl) (by kernel_rfl) (fun _ _ _ h => h) (yieldsIf_load_mid rfl 27 (.tmp 1) rfl g1 0 rfl (B N).toList _ (fun w hS => hS) HU.out rfl H129.out) hHeld ?_
  simp only [Act.put, List.getElem_toArray, List.getElem_cons_zero, List.setIfInBounds_toArray, List.set_cons_zero, List.set_cons_succ]
  refine wpAnyH_take (i := 1) (v := .agg (B N)) rfl (by kernel_rfl) (by kernel_rfl) (by kernel_rfl) (fun _ _ _ h => h) (yieldsIf_load_mid rfl 27 (.tmp 1) rfl g1 0 rfl (B N).toList _ (fun w hS => hS) HU.out rfl H129.out) hHeld ?_
  simp only [Act.put, List.getElem_toArray, List.getElem_cons_zero, List.getElem_cons_succ, List.setIfInBounds_toArray, List.set_cons_zero, List.set_cons_succ]
  refine wpAnyH_ready (rs := [2]) (by kernel_rfl) (by simp) ?_
  refine AllReadyH.cons rfl (fun KQ hK => ?_) AllReadyH.nil
  go_simp
  refine (HC.out _).mono ?_
  intro e x1 hx
  obtain ⟨M, rfl, hEq, a1⟩ := HP.out _ _ _ hx
  clear hx
  have d1 := grow_trans d0 a1
  refine hK.out _ _ (HS.out _ d1) (fun hHeld => ?_)
  clear hK KQ
  refine wpAnyH_take (i := 3) (v := .bool (!r)) rfl (by kernel_rfl) (by kernel_rfl) (by kernel_rfl) (fun _ _ _ h => h) (Or.inl ⟨by rfl, fun w hS => by (go_simp; skip)⟩) hHeld ?_
  simp only [Act.put, List.getElem_toArray, List.getElem_cons_zero, List.getElem_cons_succ, List.setIfInBounds_toArray, List.set_cons_zero, List.set_cons_succ]
  refine wpAnyH_done (by kernel_rfl) ?_ _
  clear hEq
  cases r
  · go_wp2_with fail
    go_ret
    exact ⟨rfl, grow_trans b1 d1⟩
  · go_wp2_with fail
    go_ret
    exact ⟨rfl, grow_trans b1 d1⟩

end Go.Proofs.YtjcklpdifanjlaaDoor
