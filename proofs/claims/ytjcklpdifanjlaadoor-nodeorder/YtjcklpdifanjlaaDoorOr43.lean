/- The document's Root and RootAt, as contracts. -/
import Derived.Test.YtjcklpdifanjlaaDoorOr27
import Derived.Test.YtjcklpdifanjlaaDoorOr41
import Derived.Test.YtjcklpdifanjlaaDoorOr42
import Derived.Test.YtjcklpdifanjlaaDoorOr39
namespace Go.Proofs.YtjcklpdifanjlaaDoor
set_option maxRecDepth 20000
open Go.RowKit

set_option maxHeartbeats 2000000 in
theorem refRoot_any (v : Value) (V : Nat → Value) (es : List Ent) (w : World) (hv : PrAt w v V es) (hn : es.length ≤ 140737488355328) : Calls Tryd.prog 23 #[v] w (RootPost es 0 w) := by
  have HLs : Hid (∀ w', Below w.heap.size w w' → Calls Tryd.prog 50 #[v] w' fun e w'' => e = .returned (.int .i64 (errB es)) ∧ Below w'.heap.size w' w'') := fun w' hb => refList_any v V es w' (hv.grow hb) hn
  have HB : Hid (Tryd.prog.built 25 [] = some (B z32)) := built_hash
  by_cases hE : errB es = 0
  · have hl : es.length ≤ 4096 := by
      by_cases h : 4096 < es.length
      · rw [errB_long h] at hE
        omega
      · omega
    have hls : lsE [] es = 0 := by rw [errB, if_neg (by omega)] at hE; exact hE
    obtain ⟨hlen, hap, _⟩ := lsE_ok [] es hls
    have HAt : Hid (∀ w', Below w.heap.size w w' → Calls Tryd.prog 51 #[v, .int .i64 0] w' fun e w'' => e = .returned (.agg (B (rt 256 0 es))) ∧ Below w'.heap.size w' w'') := fun w' hb => refAt_any 256 0 es v V w' rfl hl hap (fun a _ b _ j hj => by omega) hlen (hv.grow hb)
    have HX : Hid (∀ w', Below w.heap.size w w' → RootPost es 0 w (.returned (.tuple #[.agg (B (rt 256 0 es)), .int .i64 0])) w') := fun w' hb => ⟨_, _, rfl, .good (by omega) (by omega) hE (fun a _ b _ j hj => by simp at hj), hb⟩
    obtain ⟨D, hD⟩ : ∃ D, D = rt 256 0 es := ⟨_, rfl⟩
    have HF := hidden (hash_facts D (by rw [hD]; exact rt_length _ _ _))
    rw [hE] at HLs
    rw [← hD] at HAt HX
    obtain ⟨a, cap, rfl, _, _, _⟩ := hv
    clear hE hl hls hlen hap hD
    go_enter Tryd.func23, Tryd.ntmps23
    go_wp2_with (first
      | ((with_reducible refine at_ald 2 ?_); refine wpList_al _ rfl _ rfl _ zero_hash ?_; intro w1 g1 hg1 hl1 B1 b1)
      | (go_at_call 50; refine (HLs.out _ b1).mono ?_; rintro e w2 ⟨rfl, b2⟩; have B2 := B1.grow b2; have c2 := grow_trans b1 b2)
      | (go_at_call 51; refine (HAt.out _ c2).mono ?_; rintro e w3 ⟨rfl, b3⟩; have B3 := B2.grow b3)
      | ((with_reducible refine at_st 2 ?_); refine wpList_sto _ rfl _ _ _ rfl g1 _ (B D) rfl rfl B3 HF.out.1 HF.out.2 (B_one _) ?_; intro w4 B4 r4))
    exact bodyPost_ret (v := .tuple #[.agg (B D), .int .i64 0]) (results_row_tmp rfl _ _ g1 _ _ _ _ rfl rfl B4 Tryd.underlying25 HF.out.1) rfl (HX.out _ (below_row (grow_trans c2 b3) r4 hg1))
  · have HX : Hid (∀ w', Below w.heap.size w w' → RootPost es 0 w (.returned (.tuple #[.agg (B z32), .int .i64 (errB es)])) w') := fun w' hb => ⟨_, _, rfl, .bad _ (by omega) (by omega) rfl hE, hb⟩
    obtain ⟨E, hEE⟩ : ∃ E, E = errB es := ⟨_, rfl⟩
    rw [← hEE] at HLs HX hE
    have h1 : (E != 0) = true := by simp [hE]
    have h2 : (E == 0) = false := by simp [hE]
    obtain ⟨a, cap, rfl, _, _, _⟩ := hv
    clear hE hEE
    go_enter Tryd.func23, Tryd.ntmps23
    go_wp2_with (first
      | ((with_reducible refine at_ald 2 ?_); refine wpList_al _ rfl _ rfl _ zero_hash ?_; intro w1 g1 hg1 hl1 B1 b1)
      | (go_at_call 50; refine (HLs.out _ b1).mono ?_; rintro e w2 ⟨rfl, b2⟩; have B2 := B1.grow b2; have c2 := grow_trans b1 b2)
      | ((with_reducible refine at_bd ?_); refine wpList_bld _ rfl _ _ rfl _ (by rw [List.map_toArray]; exact HB.out) ?_)
      | ((with_reducible refine at_st 2 ?_); refine wpList_sto _ rfl _ _ _ rfl g1 _ (B z32) rfl rfl B2 (by kernel_rfl) rfl (B_one _) ?_; intro w4 B4 r4))
    exact bodyPost_ret (v := .tuple #[.agg (B z32), .int .i64 E]) (results_row_tmp rfl _ _ g1 _ _ _ _ rfl rfl B4 Tryd.underlying25 (by kernel_rfl)) rfl (HX.out _ (below_row c2 r4 hg1))

set_option maxHeartbeats 2000000 in
theorem refRootAt_out (v : Value) (V : Nat → Value) (es : List Ent) (d : Int) (w : World) (hv : PrAt w v V es) (hd : d < 0 ∨ 256 < d) : Calls Tryd.prog 25 #[v, .int .i64 d] w (RootPost es d w) := by
  have HX : Hid (∀ w', Below w.heap.size w w' → RootPost es d w (.returned (.tuple #[.agg (B z32), .int .i64 2])) w') := fun w' hb => ⟨_, _, rfl, .out hd, hb⟩
  obtain ⟨a, cap, rfl, _, _, _⟩ := hv
  have HB : Hid (Tryd.prog.built 25 [] = some (B z32)) := built_hash
  by_cases h0 : d < 0
  · have t0 : decide (d < 0) = true := decide_eq_true h0
    clear hd
    go_enter Tryd.func25, Tryd.ntmps25
    go_wp2_with (first
      | ((with_reducible refine at_ald 4 ?_); refine wpList_al _ rfl _ rfl _ zero_hash ?_; intro w1 g1 hg1 hl1 B1 b1)
      | ((with_reducible refine at_bd ?_); refine wpList_bld _ rfl _ _ rfl _ (by rw [List.map_toArray]; exact HB.out) ?_)
      | ((with_reducible refine at_st 4 ?_); refine wpList_sto _ rfl _ _ _ rfl g1 _ (B z32) rfl rfl B1 (by kernel_rfl) rfl (B_one _) ?_; intro w3 B3 r3))
    exact bodyPost_ret (v := .tuple #[.agg (B z32), .int .i64 2]) (results_row_tmp rfl _ _ g1 _ _ _ _ rfl rfl B3 Tryd.underlying25 (by kernel_rfl)) rfl (HX.out _ (below_row b1 r3 hg1))
  · have h1 : 256 < d := by omega
    have t0 : decide (d < 0) = false := decide_eq_false h0
    have t1 : decide (256 < d) = true := decide_eq_true h1
    clear hd
    go_enter Tryd.func25, Tryd.ntmps25
    go_wp2_with (first
      | ((with_reducible refine at_ald 4 ?_); refine wpList_al _ rfl _ rfl _ zero_hash ?_; intro w1 g1 hg1 hl1 B1 b1)
      | ((with_reducible refine at_bd ?_); refine wpList_bld _ rfl _ _ rfl _ (by rw [List.map_toArray]; exact HB.out) ?_)
      | ((with_reducible refine at_st 4 ?_); refine wpList_sto _ rfl _ _ _ rfl g1 _ (B z32) rfl rfl B1 (by kernel_rfl) rfl (B_one _) ?_; intro w3 B3 r3))
    exact bodyPost_ret (v := .tuple #[.agg (B z32), .int .i64 2]) (results_row_tmp rfl _ _ g1 _ _ _ _ rfl rfl B3 Tryd.underlying25 (by kernel_rfl)) rfl (HX.out _ (below_row b1 r3 hg1))

set_option maxHeartbeats 2000000 in
theorem refRootAt_bad (v : Value) (V : Nat → Value) (es : List Ent) (d : Nat) (w : World) (hv : PrAt w v V es) (hn : es.length ≤ 140737488355328) (hd : d ≤ 256) (hE : errB es ≠ 0) : Calls Tryd.prog 25 #[v, .int .i64 d] w (RootPost es d w) := by
  have HLs : Hid (∀ w', Below w.heap.size w w' → Calls Tryd.prog 50 #[v] w' fun e w'' => e = .returned (.int .i64 (errB es)) ∧ Below w'.heap.size w' w'') := fun w' hb => refList_any v V es w' (hv.grow hb) hn
  have HB : Hid (Tryd.prog.built 25 [] = some (B z32)) := built_hash
  have HX : Hid (∀ w', Below w.heap.size w w' → RootPost es d w (.returned (.tuple #[.agg (B z32), .int .i64 (errB es)])) w') := fun w' hb => ⟨_, _, rfl, .bad _ (by omega) (by omega) rfl hE, hb⟩
  obtain ⟨E, hEE⟩ : ∃ E, E = errB es := ⟨_, rfl⟩
  rw [← hEE] at HLs HX hE
  have h1 : (E != 0) = true := by simp [hE]
  have h2 : (E == 0) = false := by simp [hE]
  have t0 : decide ((d : Int) < 0) = false := decide_eq_false (by omega)
  have t1 : decide ((256 : Int) < (d : Int)) = false := decide_eq_false (by omega)
  have u0 : ¬ (d : Int) < 0 := by omega
  have u1 : ¬ (256 : Int) < (d : Int) := by omega
  obtain ⟨a, cap, rfl, _, _, _⟩ := hv
  clear hE hEE hd
  go_enter Tryd.func25, Tryd.ntmps25
  go_wp2_with (first
    | ((with_reducible refine at_ald 4 ?_); refine wpList_al _ rfl _ rfl _ zero_hash ?_; intro w1 g1 hg1 hl1 B1 b1)
    | (go_at_call 50; refine (HLs.out _ b1).mono ?_; rintro e w2 ⟨rfl, b2⟩; have B2 := B1.grow b2; have c2 := grow_trans b1 b2)
    | ((with_reducible refine at_bd ?_); refine wpList_bld _ rfl _ _ rfl _ (by rw [List.map_toArray]; exact HB.out) ?_)
    | ((with_reducible refine at_st 4 ?_); refine wpList_sto _ rfl _ _ _ rfl g1 _ (B z32) rfl rfl B2 (by kernel_rfl) rfl (B_one _) ?_; intro w4 B4 r4))
  exact bodyPost_ret (v := .tuple #[.agg (B z32), .int .i64 E]) (results_row_tmp rfl _ _ g1 _ _ _ _ rfl rfl B4 Tryd.underlying25 (by kernel_rfl)) rfl (HX.out _ (below_row c2 r4 hg1))

set_option maxRecDepth 100000 in
set_option maxHeartbeats 8000000 in
theorem refRootAt_in (v : Value) (V : Nat → Value) (es : List Ent) (d : Nat) (w : World) (hv : PrAt w v V es) (hn : es.length ≤ 4096) (hd : d ≤ 256) (hE : errB es = 0) : Calls Tryd.prog 25 #[v, .int .i64 d] w (RootPost es d w) := by
  have hkeys := hv.keys
  have HLs : Hid (∀ w', Below w.heap.size w w' → Calls Tryd.prog 50 #[v] w' fun e w'' => e = .returned (.int .i64 (errB es)) ∧ Below w'.heap.size w' w'') := fun w' hb => refList_any v V es w' (hv.grow hb) (by omega)
  rw [hE] at HLs
  have hls : lsE [] es = 0 := by rw [errB, if_neg (by omega)] at hE; exact hE
  obtain ⟨hlen, hap, _⟩ := lsE_ok [] es hls
  have HAt : Hid (SameE es d → ∀ w', Below w.heap.size w w' → Calls Tryd.prog 51 #[v, .int .i64 d] w' fun e w'' => e = .returned (.agg (B (rt (256 - d) d es))) ∧ Below w'.heap.size w' w'') := fun hs w' hb => refAt_any (256 - d) d es v V w' (by omega) hn hap hs hlen (hv.grow hb)
  have HXg : Hid (∀ w', SameE es d → Below w.heap.size w w' → RootPost es d w (.returned (.tuple #[.agg (B (rt (256 - d) d es)), .int .i64 0])) w') := fun w' hs hb => ⟨_, _, rfl, .good (by omega) (by omega) hE (by simpa using hs), hb⟩
  have HXb : Hid (∀ w', ¬ SameE es d → Below w.heap.size w w' → RootPost es d w (.returned (.tuple #[.agg (B z32), .int .i64 2])) w') := fun w' hs hb => ⟨_, _, rfl, .part (by omega) (by omega) hE (by simpa using hs), hb⟩
  obtain ⟨D, hD⟩ : ∃ D, D = rt (256 - d) d es := ⟨_, rfl⟩
  have HF := hidden (hash_facts D (by rw [hD]; exact rt_length _ _ _))
  rw [← hD] at HAt HXg
  have HB : Hid (Tryd.prog.built 25 [] = some (B z32)) := built_hash
  have t0 : decide ((d : Int) < 0) = false := decide_eq_false (by omega)
  have t1 : decide ((256 : Int) < (d : Int)) = false := decide_eq_false (by omega)
  have u0 : ¬ (d : Int) < 0 := by omega
  have u1 : ¬ (256 : Int) < (d : Int) := by omega
  obtain ⟨a, cap, rfl, _, hc, hr⟩ := hv
  have HC := hidden hc
  have HR := hidden hr
  obtain ⟨n, hnn⟩ : ∃ n, n = es.length := ⟨_, rfl⟩
  have HN := hidden hnn
  have HD := hidden hd
  rw [← hnn] at hn HLs HAt ⊢
  clear hE hls hlen hap hD hc hr hnn hkeys
  go_enter Tryd.func25, Tryd.ntmps25
  go_wp2_with (first
    | ((with_reducible refine at_ald 4 ?_); refine wpList_al _ rfl _ rfl _ zero_hash ?_; intro w1 g1 hg1 hl1 B1 b1)
    | (go_at_call 50; refine (HLs.out _ b1).mono ?_; rintro e w2 ⟨rfl, b2⟩; have B2 := B1.grow b2; have c2 := grow_trans b1 b2))
  have HG1 : Hid (w.heap.size ≤ g1) := hg1
  have HB2 := hidden B2
  clear B1 B2 hg1 hl1 b1 b2
  go_loopw [7] (fun i wr => ∃ k : Nat, 1 ≤ k ∧ (k ≤ n ∨ k = 1) ∧ i = .int .i64 k ∧ Hid (∀ q, q < k → q < n → ∀ j, j < d → kb (es.getD 0 e00).1 j = kb (es.getD q e00).1 j) ∧ Hid (Blk wr g1 25 (B (List.replicate 32 0))) ∧ Below w.heap.size w wr) (fun i _ => n - (intOf i).toNat)
  case atStart => exact ⟨1, by omega, .inr rfl, rfl, (fun q hq _ j _ => by
    have e : q = 0 := by omega
    rw [e]), HB2, c2⟩
  case round =>
    obtain ⟨k, hk1, hk, rfl, hsh, hbk, hbw⟩ := hrel
    by_cases hlt : k < n
    · have hlt' : k < es.length := by rw [← HN.out]; exact hlt
      obtain ⟨g, off, rfl, hcc⟩ := HC.out (by omega)
      have z1 : (k : Int) < (n : Int) := by omega
      have z0 : (0 : Int) ≤ (k : Int) := by omega
      have zn : (0 : Int) < (n : Int) := by omega
      have zn0 : ¬ n = 0 := by omega
      obtain ⟨key0, _⟩ := HR.out 0 (by omega)
      obtain ⟨keyk, _⟩ := HR.out k hlt'
      obtain ⟨c, hcm⟩ := common_ex (es.getD 0 e00).1 (es.getD k e00).1
      have HCm : Hid (∀ w', Calls Tryd.prog 55 #[.agg (B (es.getD 0 e00).1), .agg (B (es.getD k e00).1)] w' fun e w'' => e = .returned (.int .i64 c) ∧ Below w'.heap.size w' w'') := fun w' => by
        exact rcommon_at _ _ c w' key0 keyk hcm
      have HCM := hidden hcm
      have HS : Hid (∀ w', Below w.heap.size w w' → w'.rangeAt g off (B (es.getD 0 e00).1).toList ∧ w'.rangeAt g (off + k * 33) (B (es.getD k e00).1).toList) := fun w' hw' => by
        have h1 := rng_key (rng_grow (hcc 0 (by omega)) hw')
        rw [Nat.zero_mul, Nat.add_zero] at h1
        exact ⟨h1, rng_key (rng_grow (hcc k hlt') hw')⟩
      have HLJ : Hid ((Tryd.prog.info? 24).map (·.size) = some (B (es.getD 0 e00).1).toList.length) := by show _ = _; rw [B_toList, List.length_map, key0.1]; exact sz_path
      have HLK : Hid ((Tryd.prog.info? 24).map (·.size) = some (B (es.getD k e00).1).toList.length) := by show _ = _; rw [B_toList, List.length_map, keyk.1]; exact sz_path
      obtain ⟨J, hJ⟩ : ∃ J, J = (es.getD 0 e00).1 := ⟨_, rfl⟩
      obtain ⟨K, hK⟩ : ∃ K, K = (es.getD k e00).1 := ⟨_, rfl⟩
      have HJ := hidden hJ
      have HK := hidden hK
      rw [← hJ] at HCm HS HLJ HCM
      rw [← hK] at HCm HS HLK HCM
      clear hcc key0 keyk hcm hJ hK
      by_cases hcd : c < d
      · have HNS : Hid (¬ SameE es d) := by
          intro hs
          have m0 : es.getD 0 e00 ∈ es := by simp [List.getD, show 0 < es.length by omega]
          have mk : es.getD k e00 ∈ es := by simp [List.getD, hlt']
          have h1 := hs _ m0 _ mk c hcd
          rw [← HJ.out, ← HK.out] at h1
          exact HCM.out.2.2 (by have := HD.out; omega) h1
        have tcd : decide ((c : Int) < (d : Int)) = true := decide_eq_true (by omega)
        have tcd2 : (c : Int) < (d : Int) := by omega
        clear hcd hlt'
        go_wp2_with fail
        have d0 : Below w.heap.size w wr.drew := grow_trans hbw (Below.refl _ _).drew
        refine wp_region_held_drew (S := fun w' => w'.rangeAt g off (B J).toList ∧ w'.rangeAt g (off + k * 33) (B K).toList) (by kernel_rfl) (HS.out _ d0) (fun hHeld => ?_)
        refine wpAnyH_take (i := 0) (v := .slice (some ⟨g, off, none⟩) n cap) rfl (by kernel_rfl) (by kernel_rfl) (by kernel_rfl) (fun _ _ _ h => h) (Or.inl ⟨by rfl, fun w hS => by go_simp⟩) hHeld ?_
        simp only [Act.put, List.getElem_toArray, List.getElem_cons_zero, List.setIfInBounds_toArray, List.set_cons_zero, List.set_cons_succ]
        refine wpAnyH_take (i := 1) (v := .pointer (some ⟨g, off, none⟩)) rfl (by kernel_rfl) (by kernel_rfl) (by kernel_rfl) (fun _ _ _ h => h) (Or.inl ⟨by rfl, fun w hS => by go_simp⟩) hHeld ?_
        simp only [Act.put, List.getElem_toArray, List.getElem_cons_zero, List.getElem_cons_succ, List.setIfInBounds_toArray, List.set_cons_zero, List.set_cons_succ]
        refine wpAnyH_take (i := 2) (v := .pointer (some ⟨g, off, none⟩)) rfl (by kernel_rfl) (by kernel_rfl) (by kernel_rfl) (fun _ _ _ h => h) (Or.inl ⟨by rfl, fun w hS => by go_simp⟩) hHeld ?_
        simp only [Act.put, List.getElem_toArray, List.getElem_cons_zero, List.getElem_cons_succ, List.setIfInBounds_toArray, List.set_cons_zero, List.set_cons_succ]
        refine wpAnyH_take (i := 3) (v := .agg (B J)) rfl (by kernel_rfl) (by kernel_rfl) (by kernel_rfl) (fun _ _ _ h => h) (yieldsIf_load_mid rfl 24 (.tmp 29) rfl g off rfl (B J).toList _ (fun w hS => hS.1) Tryd.underlying24 rfl HLJ.out) hHeld ?_
        simp only [Act.put, List.getElem_toArray, List.getElem_cons_zero, List.getElem_cons_succ, List.setIfInBounds_toArray, List.set_cons_zero, List.set_cons_succ]
        refine wpAnyH_take (i := 4) (v := .slice (some ⟨g, off, none⟩) n cap) rfl (by kernel_rfl) (by kernel_rfl) (by kernel_rfl) (fun _ _ _ h => h) (Or.inl ⟨by rfl, fun w hS => by go_simp⟩) hHeld ?_
        simp only [Act.put, List.getElem_toArray, List.getElem_cons_zero, List.getElem_cons_succ, List.setIfInBounds_toArray, List.set_cons_zero, List.set_cons_succ]
        refine wpAnyH_take (i := 5) (v := .int .i64 k) rfl (by kernel_rfl) (by kernel_rfl) (by kernel_rfl) (fun _ _ _ h => h) (Or.inl ⟨by rfl, fun w hS => by go_simp⟩) hHeld ?_
        simp only [Act.put, List.getElem_toArray, List.getElem_cons_zero, List.getElem_cons_succ, List.setIfInBounds_toArray, List.set_cons_zero, List.set_cons_succ]
        refine wpAnyH_take (i := 6) (v := .pointer (some ⟨g, off + k * 33, none⟩)) rfl (by kernel_rfl) (by kernel_rfl) (by kernel_rfl) (fun _ _ _ h => h) (Or.inl ⟨by rfl, fun w hS => by go_simp⟩) hHeld ?_
        simp only [Act.put, List.getElem_toArray, List.getElem_cons_zero, List.getElem_cons_succ, List.setIfInBounds_toArray, List.set_cons_zero, List.set_cons_succ]
        refine wpAnyH_take (i := 7) (v := .pointer (some ⟨g, off + k * 33, none⟩)) rfl (by kernel_rfl) (by kernel_rfl) (by kernel_rfl) (fun _ _ _ h => h) (Or.inl ⟨by rfl, fun w hS => by go_simp⟩) hHeld ?_
        simp only [Act.put, List.getElem_toArray, List.getElem_cons_zero, List.getElem_cons_succ, List.setIfInBounds_toArray, List.set_cons_zero, List.set_cons_succ]
        refine wpAnyH_take (i := 8) (v := .agg (B K)) rfl (by kernel_rfl) (by kernel_rfl) (by kernel_rfl) (fun _ _ _ h => h) (yieldsIf_load_mid rfl 24 (.tmp 34) rfl g (off + k * 33) rfl (B K).toList _ (fun w hS => hS.2) Tryd.underlying24 rfl HLK.out) hHeld ?_
        simp only [Act.put, List.getElem_toArray, List.getElem_cons_zero, List.getElem_cons_succ, List.setIfInBounds_toArray, List.set_cons_zero, List.set_cons_succ]
        refine wpAnyH_take (i := 10) (v := .int .i64 d) rfl (by kernel_rfl) (by kernel_rfl) (by kernel_rfl) (fun _ _ _ h => h) (Or.inl ⟨by rfl, fun w hS => by go_simp⟩) hHeld ?_
        simp only [Act.put, List.getElem_toArray, List.getElem_cons_zero, List.getElem_cons_succ, List.setIfInBounds_toArray, List.set_cons_zero, List.set_cons_succ]
        refine wpAnyH_ready (rs := [9]) (by kernel_rfl) (by simp) ?_
        refine AllReadyH.cons rfl (fun KQ hK => ?_) AllReadyH.nil
        go_simp
        refine (HCm.out _).mono ?_
        rintro e x1 ⟨rfl, a1⟩
        have d1 := grow_trans d0 a1
        refine hK.out _ _ (HS.out _ d1) (fun hHeld => ?_)
        clear hK KQ
        refine wpAnyH_take (i := 11) (v := .bool true) rfl (by kernel_rfl) (by kernel_rfl) (by kernel_rfl) (fun _ _ _ h => h) (Or.inl ⟨by rfl, fun w hS => by go_simp⟩) hHeld ?_
        simp only [Act.put, List.getElem_toArray, List.getElem_cons_zero, List.getElem_cons_succ, List.setIfInBounds_toArray, List.set_cons_zero, List.set_cons_succ]
        refine wpAnyH_done (by kernel_rfl) ?_ _
        have B9 := hbk.out.grow (grow_trans (Below.refl _ _).drew a1)
        go_wp2_with (first
          | ((with_reducible refine at_bd ?_); refine wpList_bld _ rfl _ _ rfl _ (by rw [List.map_toArray]; exact HB.out) ?_)
          | ((with_reducible refine at_st 4 ?_); refine wpList_sto _ rfl _ _ _ rfl g1 _ (B z32) rfl rfl B9 (by kernel_rfl) rfl (B_one _) ?_; intro w4 B4 r4))
        exact bodyPost_ret (v := .tuple #[.agg (B z32), .int .i64 2]) (results_row_tmp rfl _ _ g1 _ _ _ _ rfl rfl B4 Tryd.underlying25 (by kernel_rfl)) rfl (HXb.out _ HNS.out (below_row d1 r4 HG1.out))
      · have HSH : Hid (∀ q, q < k + 1 → q < n → ∀ j, j < d → kb (es.getD 0 e00).1 j = kb (es.getD q e00).1 j) := by
          intro q hq hqn j hj
          by_cases e : q = k
          · rw [e, ← HJ.out, ← HK.out]
            exact HCM.out.2.1 j (by omega)
          · exact hsh.out q (by omega) hqn j hj
        have tcd : decide ((c : Int) < (d : Int)) = false := decide_eq_false (by omega)
        have tcd2 : ¬ (c : Int) < (d : Int) := by omega
        have tcd3 : d ≤ c := by omega
        clear hcd hlt'
        go_wp2_with fail
        have d0 : Below w.heap.size w wr.drew := grow_trans hbw (Below.refl _ _).drew
        refine wp_region_held_drew (S := fun w' => w'.rangeAt g off (B J).toList ∧ w'.rangeAt g (off + k * 33) (B K).toList) (by kernel_rfl) (HS.out _ d0) (fun hHeld => ?_)
        refine wpAnyH_take (i := 0) (v := .slice (some ⟨g, off, none⟩) n cap) rfl (by kernel_rfl) (by kernel_rfl) (by kernel_rfl) (fun _ _ _ h => h) (Or.inl ⟨by rfl, fun w hS => by go_simp⟩) hHeld ?_
        simp only [Act.put, List.getElem_toArray, List.getElem_cons_zero, List.setIfInBounds_toArray, List.set_cons_zero, List.set_cons_succ]
        refine wpAnyH_take (i := 1) (v := .pointer (some ⟨g, off, none⟩)) rfl (by kernel_rfl) (by kernel_rfl) (by kernel_rfl) (fun _ _ _ h => h) (Or.inl ⟨by rfl, fun w hS => by go_simp⟩) hHeld ?_
        simp only [Act.put, List.getElem_toArray, List.getElem_cons_zero, List.getElem_cons_succ, List.setIfInBounds_toArray, List.set_cons_zero, List.set_cons_succ]
        refine wpAnyH_take (i := 2) (v := .pointer (some ⟨g, off, none⟩)) rfl (by kernel_rfl) (by kernel_rfl) (by kernel_rfl) (fun _ _ _ h => h) (Or.inl ⟨by rfl, fun w hS => by go_simp⟩) hHeld ?_
        simp only [Act.put, List.getElem_toArray, List.getElem_cons_zero, List.getElem_cons_succ, List.setIfInBounds_toArray, List.set_cons_zero, List.set_cons_succ]
        refine wpAnyH_take (i := 3) (v := .agg (B J)) rfl (by kernel_rfl) (by kernel_rfl) (by kernel_rfl) (fun _ _ _ h => h) (yieldsIf_load_mid rfl 24 (.tmp 29) rfl g off rfl (B J).toList _ (fun w hS => hS.1) Tryd.underlying24 rfl HLJ.out) hHeld ?_
        simp only [Act.put, List.getElem_toArray, List.getElem_cons_zero, List.getElem_cons_succ, List.setIfInBounds_toArray, List.set_cons_zero, List.set_cons_succ]
        refine wpAnyH_take (i := 4) (v := .slice (some ⟨g, off, none⟩) n cap) rfl (by kernel_rfl) (by kernel_rfl) (by kernel_rfl) (fun _ _ _ h => h) (Or.inl ⟨by rfl, fun w hS => by go_simp⟩) hHeld ?_
        simp only [Act.put, List.getElem_toArray, List.getElem_cons_zero, List.getElem_cons_succ, List.setIfInBounds_toArray, List.set_cons_zero, List.set_cons_succ]
        refine wpAnyH_take (i := 5) (v := .int .i64 k) rfl (by kernel_rfl) (by kernel_rfl) (by kernel_rfl) (fun _ _ _ h => h) (Or.inl ⟨by rfl, fun w hS => by go_simp⟩) hHeld ?_
        simp only [Act.put, List.getElem_toArray, List.getElem_cons_zero, List.getElem_cons_succ, List.setIfInBounds_toArray, List.set_cons_zero, List.set_cons_succ]
        refine wpAnyH_take (i := 6) (v := .pointer (some ⟨g, off + k * 33, none⟩)) rfl (by kernel_rfl) (by kernel_rfl) (by kernel_rfl) (fun _ _ _ h => h) (Or.inl ⟨by rfl, fun w hS => by go_simp⟩) hHeld ?_
        simp only [Act.put, List.getElem_toArray, List.getElem_cons_zero, List.getElem_cons_succ, List.setIfInBounds_toArray, List.set_cons_zero, List.set_cons_succ]
        refine wpAnyH_take (i := 7) (v := .pointer (some ⟨g, off + k * 33, none⟩)) rfl (by kernel_rfl) (by kernel_rfl) (by kernel_rfl) (fun _ _ _ h => h) (Or.inl ⟨by rfl, fun w hS => by go_simp⟩) hHeld ?_
        simp only [Act.put, List.getElem_toArray, List.getElem_cons_zero, List.getElem_cons_succ, List.setIfInBounds_toArray, List.set_cons_zero, List.set_cons_succ]
        refine wpAnyH_take (i := 8) (v := .agg (B K)) rfl (by kernel_rfl) (by kernel_rfl) (by kernel_rfl) (fun _ _ _ h => h) (yieldsIf_load_mid rfl 24 (.tmp 34) rfl g (off + k * 33) rfl (B K).toList _ (fun w hS => hS.2) Tryd.underlying24 rfl HLK.out) hHeld ?_
        simp only [Act.put, List.getElem_toArray, List.getElem_cons_zero, List.getElem_cons_succ, List.setIfInBounds_toArray, List.set_cons_zero, List.set_cons_succ]
        refine wpAnyH_take (i := 10) (v := .int .i64 d) rfl (by kernel_rfl) (by kernel_rfl) (by kernel_rfl) (fun _ _ _ h => h) (Or.inl ⟨by rfl, fun w hS => by go_simp⟩) hHeld ?_
        simp only [Act.put, List.getElem_toArray, List.getElem_cons_zero, List.getElem_cons_succ, List.setIfInBounds_toArray, List.set_cons_zero, List.set_cons_succ]
        refine wpAnyH_ready (rs := [9]) (by kernel_rfl) (by simp) ?_
        refine AllReadyH.cons rfl (fun KQ hK => ?_) AllReadyH.nil
        go_simp
        refine (HCm.out _).mono ?_
        rintro e x1 ⟨rfl, a1⟩
        have d1 := grow_trans d0 a1
        refine hK.out _ _ (HS.out _ d1) (fun hHeld => ?_)
        clear hK KQ
        refine wpAnyH_take (i := 11) (v := .bool false) rfl (by kernel_rfl) (by kernel_rfl) (by kernel_rfl) (fun _ _ _ h => h) (Or.inl ⟨by rfl, fun w hS => by go_simp⟩) hHeld ?_
        simp only [Act.put, List.getElem_toArray, List.getElem_cons_zero, List.getElem_cons_succ, List.setIfInBounds_toArray, List.set_cons_zero, List.set_cons_succ]
        refine wpAnyH_done (by kernel_rfl) ?_ _
        have B9 := hbk.out.grow (grow_trans (Below.refl _ _).drew a1)
        go_wp2_with fail
        exact ⟨⟨k + 1, by omega, .inl (by omega), by go_num, HSH, B9, d1⟩, by simp [intOf]; omega⟩
    · have HSame : SameE es d := by
        have hall : ∀ x ∈ es, ∀ j, j < d → kb (es.getD 0 e00).1 j = kb x.1 j := by
          intro x hx j hj
          obtain ⟨q, hq, rfl⟩ := List.mem_iff_getElem.1 hx
          have h1 := hsh.out q (by have := HN.out; omega) (by rw [HN.out]; exact hq) j hj
          simpa [List.getD, hq] using h1
        intro x hx y hy j hj
        rw [← hall x hx j hj, hall y hy j hj]
      have HA := hidden (HAt.out HSame)
      have HXX : Hid (∀ w', Below w.heap.size w w' → RootPost es d w (.returned (.tuple #[.agg (B D), .int .i64 0])) w') := fun w' hb => HXg.out w' HSame hb
      have z1 : ¬ (k : Int) < (n : Int) := by omega
      clear HAt HXg HSame hsh
      go_wp2_with (first
        | (go_at_call 51; refine (HA.out _ hbw).mono ?_; rintro e w3 ⟨rfl, b3⟩; have B3 := hbk.out.grow b3)
        | ((with_reducible refine at_st 4 ?_); refine wpList_sto _ rfl _ _ _ rfl g1 _ (B D) rfl rfl B3 HF.out.1 HF.out.2 (B_one _) ?_; intro w4 B4 r4))
      exact bodyPost_ret (v := .tuple #[.agg (B D), .int .i64 0]) (results_row_tmp rfl _ _ g1 _ _ _ _ rfl rfl B4 Tryd.underlying25 HF.out.1) rfl (HXX.out _ (below_row (grow_trans hbw b3) r4 HG1.out))

theorem refRootAt_any (v : Value) (V : Nat → Value) (es : List Ent) (d : Int) (w : World) (hv : PrAt w v V es) (hn : es.length ≤ 140737488355328) : Calls Tryd.prog 25 #[v, .int .i64 d] w (RootPost es d w) := by
  by_cases hd : d < 0 ∨ 256 < d
  · exact refRootAt_out v V es d w hv hd
  · obtain ⟨m, rfl⟩ : ∃ m : Nat, d = (m : Int) := ⟨d.toNat, by omega⟩
    by_cases hE : errB es = 0
    · have hl : es.length ≤ 4096 := by
        by_cases h : 4096 < es.length
        · rw [errB_long h] at hE
          omega
        · omega
      exact refRootAt_in v V es m w hv hl (by omega) hE
    · exact refRootAt_bad v V es m w hv hn (by omega) hE

end Go.Proofs.YtjcklpdifanjlaaDoor

/- NodeRoots' walk: the law returns true at all entries and depths, and nothing that was in memory turns. -/
namespace Go.Proofs.YtjcklpdifanjlaaDoor
set_option maxRecDepth 20000
open Go.RowKit

theorem rootIs_ex (es : List Ent) (d : Int) : ∃ h E, RootIs es d h E := by
  by_cases hd : d < 0 ∨ 256 < d
  · exact ⟨_, _, .out hd⟩
  · by_cases hE : errB es = 0
    · by_cases hs : SameE es d.toNat
      · exact ⟨_, _, .good (by omega) (by omega) hE hs⟩
      · exact ⟨_, _, .part (by omega) (by omega) hE hs⟩
    · exact ⟨_, _, .bad _ (by omega) (by omega) rfl hE⟩

theorem rootPost_at {es : List Ent} {d : Int} {h : List Int} {E : Int} (hi : RootIs es d h E) {f : Nat} {args : Array Value} {w : World} (hc : Calls Tryd.prog f args w (RootPost es d w)) :
    Calls Tryd.prog f args w fun e w' => e = .returned (.tuple #[.agg (B h), .int .i64 E]) ∧ Below w.heap.size w w' :=
  hc.mono fun e w' ⟨h', E', h1, h2, h3⟩ => by
    obtain ⟨e1, e2⟩ := h2.one hi
    rw [e1, e2] at h1
    exact ⟨h1, h3⟩

set_option maxHeartbeats 8000000 in
theorem nodeRoots_walk (v : Value) (V : Nat → Value) (es : List Ent) (d : Int) (w : World) (hv : PrAt w v V es) (hn : es.length * 56 ≤ 140737488355328 - 4096) (hl : ∀ i, i < es.length → (es.getD i e00).2.length ≤ 140737488355328 - 4096) (hL : Laid w) :
    Calls Tryd.prog 4 #[v, .int .i64 d] w fun e w' => e = .returned (.bool true) ∧ Below w.heap.size w w' := by
  have KV := hidden hv.kp
  have KW := hidden (below_kp w)
  have KL := hidden hL.kp
  have hkb : ∀ i, i < es.length → Key (es.getD i e00).1 ∧ Bytes (es.getD i e00).2 := by
    obtain ⟨_, _, _, _, _, hr⟩ := hv
    intro i hi
    obtain ⟨h1, ⟨_, _, _, _, _, hb, _⟩⟩ := hr i hi
    exact ⟨h1, hb⟩
  have HLent : Hid (∀ w', PrAt w' v V es → Calls Tryd.prog 21 #[v] w' (LentPost es w')) := fun w' h => lentPairs_any v V es w' h hn hl
  have HKept : Hid (∀ w' g G, LentP w' g es.length G es → PrAt w' v V es → Calls Tryd.prog 26 #[.slice (some ⟨g, 0, none⟩) es.length (es.length + 2), v] w' fun e w'' => e = .returned (.bool true) ∧ Below w'.heap.size w' w'') := fun w' g G h1 h2 => keptPairs_true g G v V es w' h1 h2 hn hl
  have HPr : Hid (∀ w' g G, LentP w' g es.length G es → PrAt w' (.slice (some ⟨g, 0, none⟩) es.length (es.length + 2)) (lvP es G) es) := fun w' g G h => h.prAt (fun i hi => (hkb i hi).1) (fun i hi => (hkb i hi).2)
  obtain ⟨h0, E0, hR0⟩ := rootIs_ex es 0
  obtain ⟨h1, E1, hR1⟩ := rootIs_ex es d
  have HR : Hid (∀ w' g G, LentP w' g es.length G es → Laid w' → Calls Tryd.prog 22 #[.slice (some ⟨g, 0, none⟩) es.length (es.length + 2)] w' fun e w'' => e = .returned (.tuple #[.agg (B h0), .int .i64 E0]) ∧ Below w'.heap.size w' w'') := fun w' g G hp hl' => rootPost_at hR0 (Root_any _ _ es w' (HPr.out w' g G hp) (by omega) hl')
  have HRr : Hid (∀ w', PrAt w' v V es → Calls Tryd.prog 23 #[v] w' fun e w'' => e = .returned (.tuple #[.agg (B h0), .int .i64 E0]) ∧ Below w'.heap.size w' w'') := fun w' hp => rootPost_at hR0 (refRoot_any v V es w' hp (by omega))
  have HA : Hid (∀ w' g G, LentP w' g es.length G es → Laid w' → Calls Tryd.prog 24 #[.slice (some ⟨g, 0, none⟩) es.length (es.length + 2), .int .i64 d] w' fun e w'' => e = .returned (.tuple #[.agg (B h1), .int .i64 E1]) ∧ Below w'.heap.size w' w'') := fun w' g G hp hl' => rootPost_at hR1 (RootAt_any _ _ es d w' (HPr.out w' g G hp) (by omega) hl')
  have HAr : Hid (∀ w', PrAt w' v V es → Calls Tryd.prog 25 #[v, .int .i64 d] w' fun e w'' => e = .returned (.tuple #[.agg (B h1), .int .i64 E1]) ∧ Below w'.heap.size w' w'') := fun w' hp => rootPost_at hR1 (refRootAt_any v V es d w' hp (by omega))
  have hq0 : ∀ w, (Op.equalIn 10000 25 (.agg (B h0)) (.agg (B h0))).run Tryd.prog w = .ok true w := fun w => by have := hash_eq h0 h0 hR0.len hR0.len w; simpa using this
  have hq1 : ∀ w, (Op.equalIn 10000 25 (.agg (B h1)) (.agg (B h1))).run Tryd.prog w = .ok true w := fun w => by have := hash_eq h1 h1 hR1.len hR1.len w; simpa using this
  have HF0 := hidden (hash_facts h0 hR0.len)
  have HF1 := hidden (hash_facts h1 hR1.len)
  obtain ⟨a, cap, rfl, _, _, _⟩ := hv
  have HFew : Hid (∀ w', Calls Tryd.prog 20 #[.slice a es.length cap] w' fun e w'' => e = .returned (.bool (decide (es.length ≤ 40 ∨ 4096 < es.length))) ∧ w'' = w') := fun w' => few_any a es.length cap w'
  obtain ⟨b, hb⟩ : ∃ b, b = decide (es.length ≤ 40 ∨ 4096 < es.length) := ⟨_, rfl⟩
  rw [← hb] at HFew
  have HLP : Hid (∀ w0 e w1, LentPost es w0 e w1 → ∃ g G, e = .returned (.slice (some ⟨g, 0, none⟩) es.length (es.length + 2)) ∧ LentP w1 g es.length G es ∧ Below w0.heap.size w0 w1) := fun w0 e w1 ⟨g, G, q1, _, q2, q3⟩ => ⟨g, G, q1, q2, q3⟩
  obtain ⟨n, hnn⟩ : ∃ n, n = es.length := ⟨_, rfl⟩
  obtain ⟨m, hm⟩ : ∃ m, m = es.length + 2 := ⟨_, rfl⟩
  rw [← hm, ← hnn] at HKept HR HA HLP
  rw [← hnn] at HLent HRr HAr HFew KV ⊢
  clear hn hl hL hkb hR0 hR1 hb hnn hm HPr
  cases b with
  | false =>
    go_enter Tryd.func4, Tryd.ntmps4
    go_wp2_with (go_at_call 20; refine (HFew.out _).mono ?_; rintro e w1 ⟨rfl, rfl⟩)
    go_ret
    exact ⟨rfl, KW.out.now⟩
  | true =>
    go_enter Tryd.func4, Tryd.ntmps4
    go_wp2_with (first
      | ((with_reducible refine at_ald 6 ?_); refine wpList_al _ rfl _ rfl _ zero_hash ?_; intro x4 g6 hg6 hl4 bq4 q4; clear hl4)
      | ((with_reducible refine at_st 6 ?_); refine wpList_sto _ rfl _ _ _ rfl g6 _ (B h0) rfl rfl bq4 HF0.out.1 HF0.out.2 (B_one _) ?_; intro x5 by5 r5; have q5 := below_row q4 r5 hg6; replace KV := hidden (KV.out.step q5); replace KW := hidden (KW.out.step q5); replace KL := hidden (KL.out.step q5); replace KP := hidden (KP.out.step q5); have K6 := hidden by5.kp; clear q5 q4 r5 by5 bq4 hg6)
      | ((with_reducible refine at_ald 8 ?_); refine wpList_al _ rfl _ rfl _ zero_hash ?_; intro x7 g8 hg8 hl7 bq7 q7; clear hl7)
      | ((with_reducible refine at_st 8 ?_); refine wpList_sto _ rfl _ _ _ rfl g8 _ (B h0) rfl rfl bq7 HF0.out.1 HF0.out.2 (B_one _) ?_; intro x8 by8 r8; have q8 := below_row q7 r8 hg8; replace KV := hidden (KV.out.step q8); replace KW := hidden (KW.out.step q8); replace KL := hidden (KL.out.step q8); replace KP := hidden (KP.out.step q8); replace K6 := hidden (K6.out.step q8); have K8 := hidden by8.kp; clear q8 q7 r8 by8 bq7 hg8)
      | ((with_reducible refine at_ald 10 ?_); refine wpList_al _ rfl _ rfl _ zero_hash ?_; intro x10 g10 hg10 hl10 bq10 q10; clear hl10)
      | ((with_reducible refine at_st 10 ?_); refine wpList_sto _ rfl _ _ _ rfl g10 _ (B h1) rfl rfl bq10 HF1.out.1 HF1.out.2 (B_one _) ?_; intro x11 by11 r11; have q11 := below_row q10 r11 hg10; replace KV := hidden (KV.out.step q11); replace KW := hidden (KW.out.step q11); replace KL := hidden (KL.out.step q11); replace KP := hidden (KP.out.step q11); replace K6 := hidden (K6.out.step q11); replace K8 := hidden (K8.out.step q11); have K10 := hidden by11.kp; clear q11 q10 r11 by11 bq10 hg10)
      | ((with_reducible refine at_ald 12 ?_); refine wpList_al _ rfl _ rfl _ zero_hash ?_; intro x13 g12 hg12 hl13 bq13 q13; clear hl13)
      | ((with_reducible refine at_st 12 ?_); refine wpList_sto _ rfl _ _ _ rfl g12 _ (B h1) rfl rfl bq13 HF1.out.1 HF1.out.2 (B_one _) ?_; intro x14 by14 r14; have q14 := below_row q13 r14 hg12; replace KV := hidden (KV.out.step q14); replace KW := hidden (KW.out.step q14); replace KL := hidden (KL.out.step q14); replace KP := hidden (KP.out.step q14); replace K6 := hidden (K6.out.step q14); replace K8 := hidden (K8.out.step q14); replace K10 := hidden (K10.out.step q14); have K12 := hidden by14.kp; clear q14 q13 r14 by14 bq13 hg12)
      | ((with_reducible refine at_ldd 41 6 ?_); refine wpList_ld _ rfl _ _ rfl g6 _ rfl K6.out.now _ _ Tryd.underlying25 HF0.out.1 ?_)
      | ((with_reducible refine at_ldd 42 8 ?_); refine wpList_ld _ rfl _ _ rfl g8 _ rfl K8.out.now _ _ Tryd.underlying25 HF0.out.1 ?_)
      | ((with_reducible refine at_ldd 50 10 ?_); refine wpList_ldg _ rfl _ _ rfl g10 _ rfl K10.out.now _ _ Tryd.underlying25 HF1.out.1 ?_)
      | ((with_reducible refine at_ldd 51 12 ?_); refine wpList_ldg _ rfl _ _ rfl g12 _ rfl K12.out.now _ _ Tryd.underlying25 HF1.out.1 ?_)
      | (go_at_call 26; refine (HKept.out _ _ _ KP.out.now KV.out.now).mono ?_; rintro e x15 ⟨rfl, q15⟩; replace KV := hidden (KV.out.step q15); replace KW := hidden (KW.out.step q15); replace KL := hidden (KL.out.step q15); replace KP := hidden (KP.out.step q15); replace K6 := hidden (K6.out.step q15); replace K8 := hidden (K8.out.step q15); replace K10 := hidden (K10.out.step q15); replace K12 := hidden (K12.out.step q15); have mk_frootcellarkitKeptPairs_1 : Hid True := trivial; clear q15)
      | (go_at_call 25; refine (HAr.out _ KV.out.now).mono ?_; rintro e x12 ⟨rfl, q12⟩; replace KV := hidden (KV.out.step q12); replace KW := hidden (KW.out.step q12); replace KL := hidden (KL.out.step q12); replace KP := hidden (KP.out.step q12); replace K6 := hidden (K6.out.step q12); replace K8 := hidden (K8.out.step q12); replace K10 := hidden (K10.out.step q12); have mk_frootcellarref05RootAt_1 : Hid True := trivial; clear q12)
      | (go_at_call 24; refine (HA.out _ _ _ KP.out.now KL.out.now).mono ?_; rintro e x9 ⟨rfl, q9⟩; replace KV := hidden (KV.out.step q9); replace KW := hidden (KW.out.step q9); replace KL := hidden (KL.out.step q9); replace KP := hidden (KP.out.step q9); replace K6 := hidden (K6.out.step q9); replace K8 := hidden (K8.out.step q9); have mk_fnodeRootAt_1 : Hid True := trivial; clear q9)
      | (go_at_call 23; refine (HRr.out _ KV.out.now).mono ?_; rintro e x6 ⟨rfl, q6⟩; replace KV := hidden (KV.out.step q6); replace KW := hidden (KW.out.step q6); replace KL := hidden (KL.out.step q6); replace KP := hidden (KP.out.step q6); replace K6 := hidden (K6.out.step q6); have mk_frootcellarref05Root_1 : Hid True := trivial; clear q6)
      | (go_at_call 22; refine (HR.out _ _ _ KP.out.now KL.out.now).mono ?_; rintro e x3 ⟨rfl, q3⟩; replace KV := hidden (KV.out.step q3); replace KW := hidden (KW.out.step q3); replace KL := hidden (KL.out.step q3); replace KP := hidden (KP.out.step q3); have mk_fnodeRoot_1 : Hid True := trivial; clear q3)
      | (go_at_call 21; refine (HLent.out _ KV.out.now).mono ?_; intro e x2 hpost; obtain ⟨g, G, rfl, hlp, q2⟩ := HLP.out _ _ _ hpost; clear hpost; replace KV := hidden (KV.out.step q2); replace KW := hidden (KW.out.step q2); replace KL := hidden (KL.out.step q2); have KP := hidden hlp.kp; clear hlp q2)
      | (go_at_call 20; refine (HFew.out _).mono ?_; rintro e x1 ⟨rfl, rfl⟩; have mk_frootcellarlaw05few_1 : Hid True := trivial))
    go_ret
    exact ⟨rfl, KW.out.now⟩

end Go.Proofs.YtjcklpdifanjlaaDoor
