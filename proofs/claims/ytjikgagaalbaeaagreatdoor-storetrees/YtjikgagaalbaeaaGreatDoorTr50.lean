/- node.rootAt, as a contract. -/
import Derived.Test.YtjikgagaalbaeaaGreatDoorTr48
import Derived.Test.YtjikgagaalbaeaaGreatDoorTr49
namespace Go.Proofs.YtjikgagaalbaeaaGreatDoor
set_option maxRecDepth 20000
open Go.RowKit

theorem hash_facts (D : List Int) (h : D.length = 32) : (Tryz.prog.info? 44).map (·.size) = some (B D).size ∧ (B (List.replicate 32 0)).size = (B D).size := ⟨by rw [B_size, h]; exact sz_hash, by rw [B_size, B_size, h]; rfl⟩

set_option maxHeartbeats 2000000 in
theorem rootAt_none (d : Nat) (a : Option Addr) (cap : Nat) (w : World) (hL : Laid w) : Calls Tryz.prog 48 #[.slice a 0 cap, .int .i64 d] w fun e w' => e = .returned (.agg (B emD)) ∧ Below w.heap.size w w' := by
  have HL := hidden hL
  obtain ⟨D, hD⟩ : ∃ D, D = emD := ⟨_, rfl⟩
  have HF := hidden (hash_facts D (by rw [hD]; exact dig_length _))
  have HE : Hid (∀ w', Laid w' → Calls Tryz.prog 18 #[] w' fun e w'' => e = .returned (.agg (B D)) ∧ Below w'.heap.size w' w'') := fun w' hl => by rw [hD]; exact empty_any w' hl
  rw [← hD]
  clear hL hD
  go_enter Tryz.func48, Tryz.ntmps48
  go_wp2_with (first
    | ((with_reducible refine at_ald 4 ?_); refine wpList_al _ rfl _ rfl _ zero_hash ?_; intro w1 g1 hg1 hl1 B1 b1)
    | (go_at_call 18; refine (HE.out _ (HL.out.grow b1)).mono ?_; rintro e w2 ⟨rfl, b2⟩; have B2 := B1.grow b2)
    | ((with_reducible refine at_st 4 ?_); refine wpList_sto _ rfl _ _ _ rfl g1 _ (B D) rfl rfl B2 HF.out.1 HF.out.2 (B_one _) ?_; intro w3 B3 r3))
  exact bodyPost_ret (v := .agg (B D)) (results_cell_row rfl _ _ g1 _ _ _ _ rfl B3 Tryz.underlying44 rfl HF.out.1) rfl ⟨rfl, below_row (grow_trans b1 b2) r3 hg1⟩

set_option maxHeartbeats 2000000 in
theorem rootAt_leaf (d g off cap : Nat) (x : Lf) (w : World) (hr : w.rangeAt g off (encLf x)) (hL : Laid w) : Calls Tryz.prog 48 #[.slice (some ⟨g, off, none⟩) 1 cap, .int .i64 d] w fun e w' => e = .returned (.agg (B (lfD x.key x.val))) ∧ Below w.heap.size w w' := by
  have HL := hidden hL
  obtain ⟨D, hD⟩ : ∃ D, D = lfD x.key x.val := ⟨_, rfl⟩
  have HF := hidden (hash_facts D (by rw [hD]; exact dig_length _))
  have HE : Hid (∀ w', Laid w' → Calls Tryz.prog 96 #[.agg (B x.key), .agg (B x.val)] w' fun e w'' => e = .returned (.agg (B D)) ∧ Below w'.heap.size w' w'') := fun w' hl => by rw [hD]; exact leaf_any x.key x.val w' x.hk.1 x.hl x.hk.2 x.hb hl
  have HR : Hid (∀ w', Below w.heap.size w w' → w'.rangeAt g (off + 1) (B x.key).toList ∧ w'.rangeAt g (off + 33) (B x.val).toList) := fun w' hw' => ⟨range_grow (lf_key hr) hw', range_grow (lf_val hr) hw'⟩
  have HLK : Hid ((Tryz.prog.info? 31).map (·.size) = some (B x.key).toList.length) := by show _ = _; rw [B_toList, List.length_map, x.hk.1]; exact sz_path
  have HLV : Hid ((Tryz.prog.info? 44).map (·.size) = some (B x.val).toList.length) := by show _ = _; rw [B_toList, List.length_map, x.hl]; exact sz_hash
  obtain ⟨K, hK⟩ : ∃ K, K = x.key := ⟨_, rfl⟩
  obtain ⟨V, hV⟩ : ∃ V, V = x.val := ⟨_, rfl⟩
  rw [← hK] at HE HR HLK
  rw [← hV] at HE HR HLV
  rw [← hD]
  clear hL hD hK hV hr
  go_enter Tryz.func48, Tryz.ntmps48
  go_wp2_with (first
    | ((with_reducible refine at_ald 4 ?_); refine wpList_al _ rfl _ rfl _ zero_hash ?_; intro w1 g1 hg1 hl1 B1 b1))
  have d0 : Below w.heap.size w w1.drew := grow_trans b1 (Below.refl _ _).drew
  refine wp_region_held_drew (S := fun w' => w'.rangeAt g (off + 1) (B K).toList ∧ w'.rangeAt g (off + 33) (B V).toList) (by kernel_rfl) (HR.out _ d0) (fun hHeld => ?_)
  refine wpAnyH_take (i := 0) (v := .slice (some ⟨g, off, none⟩) 1 cap) rfl (by kernel_rfl) (by kernel_rfl) (by kernel_rfl) (fun _ _ _ h => h) (Or.inl ⟨by rfl, fun w hS => by go_simp⟩) hHeld ?_
  simp only [Act.put, List.getElem_toArray, List.getElem_cons_zero, List.setIfInBounds_toArray, List.set_cons_zero, List.set_cons_succ]
  refine wpAnyH_take (i := 1) (v := .pointer (some ⟨g, off, none⟩)) rfl (by kernel_rfl) (by kernel_rfl) (by kernel_rfl) (fun _ _ _ h => h) (Or.inl ⟨by rfl, fun w hS => by go_simp⟩) hHeld ?_
  simp only [Act.put, List.getElem_toArray, List.getElem_cons_zero, List.getElem_cons_succ, List.setIfInBounds_toArray, List.set_cons_zero, List.set_cons_succ]
  refine wpAnyH_take (i := 2) (v := .pointer (some ⟨g, off + 1, none⟩)) rfl (by kernel_rfl) (by kernel_rfl) (by kernel_rfl) (fun _ _ _ h => h) (Or.inl ⟨by rfl, fun w hS => by go_simp⟩) hHeld ?_
  simp only [Act.put, List.getElem_toArray, List.getElem_cons_zero, List.getElem_cons_succ, List.setIfInBounds_toArray, List.set_cons_zero, List.set_cons_succ]
  refine wpAnyH_take (i := 3) (v := .agg (B K)) rfl (by kernel_rfl) (by kernel_rfl) (by kernel_rfl) (fun _ _ _ h => h) (yieldsIf_load_mid rfl 31 (.tmp 16) rfl g (off + 1) rfl (B K).toList _ (fun w hS => hS.1) Tryz.underlying31 rfl HLK.out) hHeld ?_
  simp only [Act.put, List.getElem_toArray, List.getElem_cons_zero, List.getElem_cons_succ, List.setIfInBounds_toArray, List.set_cons_zero, List.set_cons_succ]
  refine wpAnyH_take (i := 4) (v := .slice (some ⟨g, off, none⟩) 1 cap) rfl (by kernel_rfl) (by kernel_rfl) (by kernel_rfl) (fun _ _ _ h => h) (Or.inl ⟨by rfl, fun w hS => by go_simp⟩) hHeld ?_
  simp only [Act.put, List.getElem_toArray, List.getElem_cons_zero, List.getElem_cons_succ, List.setIfInBounds_toArray, List.set_cons_zero, List.set_cons_succ]
  refine wpAnyH_take (i := 5) (v := .pointer (some ⟨g, off, none⟩)) rfl (by kernel_rfl) (by kernel_rfl) (by kernel_rfl) (fun _ _ _ h => h) (Or.inl ⟨by rfl, fun w hS => by go_simp⟩) hHeld ?_
  simp only [Act.put, List.getElem_toArray, List.getElem_cons_zero, List.getElem_cons_succ, List.setIfInBounds_toArray, List.set_cons_zero, List.set_cons_succ]
  refine wpAnyH_take (i := 6) (v := .pointer (some ⟨g, off + 33, none⟩)) rfl (by kernel_rfl) (by kernel_rfl) (by kernel_rfl) (fun _ _ _ h => h) (Or.inl ⟨by rfl, fun w hS => by go_simp⟩) hHeld ?_
  simp only [Act.put, List.getElem_toArray, List.getElem_cons_zero, List.getElem_cons_succ, List.setIfInBounds_toArray, List.set_cons_zero, List.set_cons_succ]
  refine wpAnyH_take (i := 7) (v := .agg (B V)) rfl (by kernel_rfl) (by kernel_rfl) (by kernel_rfl) (fun _ _ _ h => h) (yieldsIf_load_mid rfl 44 (.tmp 20) rfl g (off + 33) rfl (B V).toList _ (fun w hS => hS.2) Tryz.underlying44 rfl HLV.out) hHeld ?_
  simp only [Act.put, List.getElem_toArray, List.getElem_cons_zero, List.getElem_cons_succ, List.setIfInBounds_toArray, List.set_cons_zero, List.set_cons_succ]
  refine wpAnyH_ready (rs := [8]) (by kernel_rfl) (by simp) ?_
  refine AllReadyH.cons rfl (fun KQ hK => ?_) AllReadyH.nil
  go_simp
  refine (HE.out _ (HL.out.grow d0)).mono ?_
  rintro e x1 ⟨rfl, a1⟩
  have d1 := grow_trans d0 a1
  refine hK.out _ _ (HR.out _ d1) (fun hHeld => ?_)
  clear hK KQ
  refine wpAnyH_ready (rs := [9]) (by kernel_rfl) (by simp) ?_
  refine AllReadyH.cons rfl (fun KQ hK => ?_) AllReadyH.nil
  refine step_sto _ rfl _ _ _ rfl g1 _ (B D) rfl rfl (B1.drew.grow a1) HF.out.1 HF.out.2 (B_one _) ?_
  intro w4 B4 g4
  have c4 := below_row d1 g4 hg1
  refine hK.out _ _ (HR.out _ c4) (fun hHeld => ?_)
  clear hK KQ
  refine wpAnyH_done (by kernel_rfl) ?_ _
  go_wp2_with fail
  exact bodyPost_ret (v := .agg (B D)) (results_cell_row rfl _ _ g1 _ _ _ _ rfl B4 Tryz.underlying44 rfl HF.out.1) rfl ⟨rfl, c4⟩

theorem rtL_length (n d : Nat) (ls : List Lf) : (rtL n d ls).length = 32 := by
  match n, ls with
  | _, [] => rw [rtL_nil]; exact dig_length _
  | _, [x] => rw [rtL_one]; exact dig_length _
  | 0, _ :: _ :: _ => exact dig_length _
  | n + 1, a :: b :: l => rw [rtL_more n d _ (by simp)]; exact dig_length _
theorem rtL_bytes (n d : Nat) (ls : List Lf) : Bytes (rtL n d ls) := by
  match n, ls with
  | _, [] => rw [rtL_nil]; exact dig_bytes _
  | _, [x] => rw [rtL_one]; exact dig_bytes _
  | 0, _ :: _ :: _ => exact dig_bytes _
  | n + 1, a :: b :: l => rw [rtL_more n d _ (by simp)]; exact dig_bytes _

set_option maxHeartbeats 4000000 in
theorem rootAt_more (d : Nat) (a : Option Addr) (m cap : Nat) (R0 R1 : List Int) (P0 P1 : World → Value → Prop) (w : World) (hd : d < 256) (hm : 2 ≤ m) (l0 : R0.length = 32) (l1 : R1.length = 32) (y0 : Bytes R0) (y1 : Bytes R1) (hL : Laid w)
    (hg : ∀ w w' v, Below w.heap.size w w' → P1 w v → P1 w' v)
    (hp : ∀ w', Below w.heap.size w w' → Calls Tryz.prog 97 #[.slice a m cap, .int .i64 d] w' fun e w'' => ∃ v0 v1, e = .returned (.tuple #[v0, v1]) ∧ P0 w'' v0 ∧ P1 w'' v1 ∧ Below w'.heap.size w' w'')
    (h0 : ∀ w' v, P0 w' v → Laid w' → Calls Tryz.prog 48 #[v, .int .i64 ((d : Int) + 1)] w' fun e w'' => e = .returned (.agg (B R0)) ∧ Below w'.heap.size w' w'')
    (h1 : ∀ w' v, P1 w' v → Laid w' → Calls Tryz.prog 48 #[v, .int .i64 ((d : Int) + 1)] w' fun e w'' => e = .returned (.agg (B R1)) ∧ Below w'.heap.size w' w'') :
    Calls Tryz.prog 48 #[.slice a m cap, .int .i64 d] w fun e w' => e = .returned (.agg (B (inD R0 R1))) ∧ Below w.heap.size w w' := by
  have HL := hidden hL
  have HP := hidden hp
  have H0 := hidden h0
  have H1 := hidden h1
  have HG := hidden hg
  obtain ⟨D, hD⟩ : ∃ D, D = inD R0 R1 := ⟨_, rfl⟩
  have HF := hidden (hash_facts D (by rw [hD]; exact dig_length _))
  have HI : Hid (∀ w', Laid w' → Calls Tryz.prog 98 #[.agg (B R0), .agg (B R1)] w' fun e w'' => e = .returned (.agg (B D)) ∧ Below w'.heap.size w' w'') := fun w' hl => by rw [hD]; exact inner_any R0 R1 w' l0 l1 y0 y1 hl
  have hw : IntKind.i64.wrap ((d : Int) + 1) = (d : Int) + 1 := by rw [IntKind.wrap_i64]; omega
  have e0 : ((m : Int) == 0) = false := by simp; omega
  have e1 : ((m : Int) == 1) = false := by simp; omega
  rw [← hD]
  clear hL hD hp h0 h1 hg l0 l1 y0 y1 hm hd
  go_enter Tryz.func48, Tryz.ntmps48
  go_wp2_with (first
    | ((with_reducible refine at_ald 4 ?_); refine wpList_al _ rfl _ rfl _ zero_hash ?_; intro w1 g1 hg1 hl1 B1 b1; have KB := hidden B1.kp)
    | (go_at_call 97; refine (HP.out _ b1).mono ?_; rintro e w2 ⟨v0, v1, rfl, p0, p1, q2⟩; have HP0 := hidden p0; have HP1 := hidden p1; clear p0 p1; have c := grow_trans b1 q2; replace KB := hidden (KB.out.step q2))
    | (go_at_call 48; have mk := mk1; refine (H1.out _ _ HP1.out (HL.out.grow c)).mono ?_; rintro e w4 ⟨rfl, q4⟩; clear mk mk1; have cc := grow_trans c q4; clear c; have c := cc; clear cc; replace KB := hidden (KB.out.step q4))
    | (go_at_call 48; refine (H0.out _ _ HP0.out (HL.out.grow c)).mono ?_; rintro e w3 ⟨rfl, q3⟩; have mk1 : Hid True := trivial; have cc := grow_trans c q3; clear c; have c := cc; clear cc; replace KB := hidden (KB.out.step q3); replace HP1 := hidden (HG.out _ _ _ q3 HP1.out))
    | (go_at_call 98; refine (HI.out _ (HL.out.grow c)).mono ?_; rintro e w5 ⟨rfl, q5⟩; have cc := grow_trans c q5; clear c; have c := cc; clear cc; replace KB := hidden (KB.out.step q5))
    | ((with_reducible refine at_st 4 ?_); refine wpList_sto _ rfl _ _ _ rfl g1 _ (B D) rfl rfl KB.out.now HF.out.1 HF.out.2 (B_one _) ?_; intro w6 B6 r6))
  exact bodyPost_ret (v := .agg (B D)) (results_cell_row rfl _ _ g1 _ _ _ _ rfl B6 Tryz.underlying44 rfl HF.out.1) rfl ⟨rfl, below_row c r6 hg1⟩

theorem rootAt_any : ∀ (n d : Nat) (ls : List Lf) (v : Value) (w : World), d + n = 256 → ls.length ≤ 4096 → Rise ls → Same ls d → LvAt w v ls → Laid w →
    Calls Tryz.prog 48 #[v, .int .i64 d] w fun e w' => e = .returned (.agg (B (rtL n d ls))) ∧ Below w.heap.size w w' := by
  intro n
  induction n with
  | zero =>
    intro d ls v w hd hn hr hs hv hL
    obtain rfl : d = 256 := by omega
    have hf := hr.few hs
    obtain ⟨a, cap, rfl, hc, h⟩ := hv
    match ls, hf, h with
    | [], _, _ => rw [rtL_nil]; exact rootAt_none 256 a cap w hL
    | [x], _, h =>
      obtain ⟨g, off, rfl, hrr⟩ := h (by simp)
      have h0 := hrr 0 (by simp)
      rw [rtL_one]
      exact rootAt_leaf 256 g off cap x w (by simpa using h0) hL
  | succ n ih =>
    intro d ls v w hd hn hr hs hv hL
    obtain ⟨a, cap, rfl, hc, h⟩ := hv
    match ls, hn, hr, hs, hc, h with
    | [], _, _, _, _, _ => rw [rtL_nil]; exact rootAt_none d a cap w hL
    | [x], _, _, _, _, h =>
      obtain ⟨g, off, rfl, hrr⟩ := h (by simp)
      have h0 := hrr 0 (by simp)
      rw [rtL_one]
      exact rootAt_leaf d g off cap x w (by simpa using h0) hL
    | x :: y :: ls, hn, hr, hs, hc, h =>
      obtain ⟨g, off, rfl, hrr⟩ := h (by simp)
      rw [rtL_more n d _ (by simp)]
      have hle : ∀ b, (sdL (x :: y :: ls) d b).length ≤ 4096 := fun b => Nat.le_trans (List.length_filter_le _ _) hn
      have hi : ∀ b w' v, LvAt w' v (sdL (x :: y :: ls) d b) → Laid w' → Calls Tryz.prog 48 #[v, .int .i64 ((d : Int) + 1)] w' fun e w'' => e = .returned (.agg (B (rtL n (d + 1) (sdL (x :: y :: ls) d b)))) ∧ Below w'.heap.size w' w'' := by
        intro b w' v hv hl
        have := ih (d + 1) _ v w' (by omega) (hle b) (hr.side d b) (hs.side b) hv hl
        simpa using this
      exact rootAt_more d _ _ cap _ _ (fun w v => LvAt w v (sdL (x :: y :: ls) d 0)) (fun w v => LvAt w v (sdL (x :: y :: ls) d 1)) w (by omega) (by simp) (rtL_length _ _ _) (rtL_length _ _ _) (rtL_bytes _ _ _) (rtL_bytes _ _ _) hL
        (fun w w' v hb hv => hv.grow hb)
        (fun w' hb => part_any g off cap d (x :: y :: ls) w' (by omega) hn hc hr hs (fun i hi => range_grow (hrr i hi) hb))
        (hi 0) (hi 1)

end Go.Proofs.YtjikgagaalbaeaaGreatDoor

/- node.parted, node.RootAt, node.Root, as contracts. -/
namespace Go.Proofs.YtjikgagaalbaeaaGreatDoor
set_option maxRecDepth 20000
open Go.RowKit

/-- Between two keys with the same first d bits all keys have these. -/
theorem between {a b c : List Int} {d : Nat} (h1 : Ahead a b) (h2 : Ahead b c) (hs : ∀ j, j < d → kb a j = kb c j) : ∀ j, j < d → kb a j = kb b j := by
  obtain ⟨i, hi, e1, e2, e3⟩ := h1
  by_cases hid : i < d
  · have h3 : Ahead c b := ⟨i, hi, fun j hj => by rw [← hs j (by omega)]; exact e1 j hj, by rw [← hs i hid]; exact e2, e3⟩
    exact absurd (h2.trans h3) (Ahead.irrefl _)
  · intro j hj
    exact e1 j (by omega)

theorem same_ends {ls : List Lf} (hr : Rise ls) (hl : 2 ≤ ls.length) (d : Nat) : Same ls d ↔ ∀ j, j < d → kb ls[0]!.key j = kb ls[ls.length - 1]!.key j := by
  rw [getElem!_pos ls 0 (by omega), getElem!_pos ls (ls.length - 1) (by omega)]
  constructor
  · intro h j hj
    exact h _ (List.getElem_mem _) _ (List.getElem_mem _) j hj
  · intro h
    have hall : ∀ x ∈ ls, ∀ j, j < d → kb ls[0].key j = kb x.key j := by
      intro x hx j hj
      obtain ⟨i, hi, rfl⟩ := List.mem_iff_getElem.1 hx
      by_cases h0 : i = 0
      · subst h0
        rfl
      · by_cases h1 : i = ls.length - 1
        · subst h1
          exact h j hj
        · exact between (List.pairwise_iff_getElem.1 hr 0 i (by omega) hi (by omega)) (List.pairwise_iff_getElem.1 hr i (ls.length - 1) hi (by omega) (by omega)) h j hj
    intro x hx y hy j hj
    rw [← hall x hx j hj, hall y hy j hj]

theorem same_few {ls : List Lf} (h : ls.length ≤ 1) (d : Nat) : Same ls d := by
  match ls, h with
  | [], _ => intro a ha; simp at ha
  | [x], _ =>
    intro a ha b hb j _
    have h1 : a = x := by simpa using ha
    have h2 : b = x := by simpa using hb
    rw [h1, h2]

set_option maxHeartbeats 2000000 in
theorem parted_few (a : Option Addr) (m cap : Nat) (d : Int) (w : World) (hm : m ≤ 1) : Calls Tryz.prog 47 #[.slice a m cap, .int .i64 d] w fun e w' => e = .returned (.bool false) ∧ Below w.heap.size w w' := by
  have h1 : ¬ (1 : Int) < (m : Int) := by omega
  have h2 : decide ((1 : Int) < (m : Int)) = false := decide_eq_false h1
  go_enter Tryz.func47, Tryz.ntmps47
  go_wp2_with fail
  have d0 : Below w.heap.size w w.drew := (Below.refl _ _).drew
  refine wp_region_held_drew (S := fun _ => True) (by kernel_rfl) (trivial) (fun hHeld => ?_)
  refine wpAnyH_take (i := 0) (v := .slice a m cap) rfl (by kernel_rfl) (by kernel_rfl) (by kernel_rfl) (fun _ _ _ h => h) (Or.inl ⟨by rfl, fun w hS => by go_simp⟩) hHeld ?_
  simp only [Act.put, List.getElem_toArray, List.getElem_cons_zero, List.setIfInBounds_toArray, List.set_cons_zero, List.set_cons_succ]
  refine wpAnyH_take (i := 1) (v := .int .i64 m) rfl (by kernel_rfl) (by kernel_rfl) (by kernel_rfl) (fun _ _ _ h => h) (Or.inl ⟨by rfl, fun w hS => by go_simp⟩) hHeld ?_
  simp only [Act.put, List.getElem_toArray, List.getElem_cons_zero, List.getElem_cons_succ, List.setIfInBounds_toArray, List.set_cons_zero, List.set_cons_succ]
  refine wpAnyH_take (i := 2) (v := .bool false) rfl (by kernel_rfl) (by kernel_rfl) (by kernel_rfl) (fun _ _ _ h => h) (Or.inl ⟨by rfl, fun w hS => by go_simp⟩) hHeld ?_
  simp only [Act.put, List.getElem_toArray, List.getElem_cons_zero, List.getElem_cons_succ, List.setIfInBounds_toArray, List.set_cons_zero, List.set_cons_succ]
  refine wpAnyH_take (i := 3) (v := .bool false) rfl (by kernel_rfl) (by kernel_rfl) (by kernel_rfl) (fun _ _ _ h => h) (Or.inl ⟨by rfl, fun w hS => by go_simp⟩) hHeld ?_
  simp only [Act.put, List.getElem_toArray, List.getElem_cons_zero, List.getElem_cons_succ, List.setIfInBounds_toArray, List.set_cons_zero, List.set_cons_succ]
  refine wpAnyH_take (i := 4) (v := undef) rfl (by kernel_rfl) (by kernel_rfl) (by kernel_rfl) (fun _ _ _ h => h) (Or.inr ⟨by rfl, rfl⟩) hHeld ?_
  simp only [Act.put, List.getElem_toArray, List.getElem_cons_zero, List.getElem_cons_succ, List.setIfInBounds_toArray, List.set_cons_zero, List.set_cons_succ]
  refine wpAnyH_take (i := 5) (v := undef) rfl (by kernel_rfl) (by kernel_rfl) (by kernel_rfl) (fun _ _ _ h => h) (Or.inr ⟨by rfl, rfl⟩) hHeld ?_
  simp only [Act.put, List.getElem_toArray, List.getElem_cons_zero, List.getElem_cons_succ, List.setIfInBounds_toArray, List.set_cons_zero, List.set_cons_succ]
  refine wpAnyH_take (i := 6) (v := undef) rfl (by kernel_rfl) (by kernel_rfl) (by kernel_rfl) (fun _ _ _ h => h) (Or.inr ⟨by rfl, rfl⟩) hHeld ?_
  simp only [Act.put, List.getElem_toArray, List.getElem_cons_zero, List.getElem_cons_succ, List.setIfInBounds_toArray, List.set_cons_zero, List.set_cons_succ]
  refine wpAnyH_take (i := 7) (v := undef) rfl (by kernel_rfl) (by kernel_rfl) (by kernel_rfl) (fun _ _ _ h => h) (Or.inr ⟨by rfl, rfl⟩) hHeld ?_
  simp only [Act.put, List.getElem_toArray, List.getElem_cons_zero, List.getElem_cons_succ, List.setIfInBounds_toArray, List.set_cons_zero, List.set_cons_succ]
  refine wpAnyH_take (i := 8) (v := undef) rfl (by kernel_rfl) (by kernel_rfl) (by kernel_rfl) (fun _ _ _ h => h) (Or.inr ⟨by rfl, rfl⟩) hHeld ?_
  simp only [Act.put, List.getElem_toArray, List.getElem_cons_zero, List.getElem_cons_succ, List.setIfInBounds_toArray, List.set_cons_zero, List.set_cons_succ]
  refine wpAnyH_take (i := 9) (v := undef) rfl (by kernel_rfl) (by kernel_rfl) (by kernel_rfl) (fun _ _ _ h => h) (Or.inr ⟨by rfl, rfl⟩) hHeld ?_
  simp only [Act.put, List.getElem_toArray, List.getElem_cons_zero, List.getElem_cons_succ, List.setIfInBounds_toArray, List.set_cons_zero, List.set_cons_succ]
  refine wpAnyH_take (i := 10) (v := undef) rfl (by kernel_rfl) (by kernel_rfl) (by kernel_rfl) (fun _ _ _ h => h) (Or.inr ⟨by rfl, rfl⟩) hHeld ?_
  simp only [Act.put, List.getElem_toArray, List.getElem_cons_zero, List.getElem_cons_succ, List.setIfInBounds_toArray, List.set_cons_zero, List.set_cons_succ]
  refine wpAnyH_take (i := 11) (v := undef) rfl (by kernel_rfl) (by kernel_rfl) (by kernel_rfl) (fun _ _ _ h => h) (Or.inr ⟨by rfl, rfl⟩) hHeld ?_
  simp only [Act.put, List.getElem_toArray, List.getElem_cons_zero, List.getElem_cons_succ, List.setIfInBounds_toArray, List.set_cons_zero, List.set_cons_succ]
  refine wpAnyH_take (i := 12) (v := undef) rfl (by kernel_rfl) (by kernel_rfl) (by kernel_rfl) (fun _ _ _ h => h) (Or.inr ⟨by rfl, rfl⟩) hHeld ?_
  simp only [Act.put, List.getElem_toArray, List.getElem_cons_zero, List.getElem_cons_succ, List.setIfInBounds_toArray, List.set_cons_zero, List.set_cons_succ]
  refine wpAnyH_take (i := 13) (v := undef) rfl (by kernel_rfl) (by kernel_rfl) (by kernel_rfl) (fun _ _ _ h => h) (Or.inr ⟨by rfl, rfl⟩) hHeld ?_
  simp only [Act.put, List.getElem_toArray, List.getElem_cons_zero, List.getElem_cons_succ, List.setIfInBounds_toArray, List.set_cons_zero, List.set_cons_succ]
  refine wpAnyH_take (i := 14) (v := undef) rfl (by kernel_rfl) (by kernel_rfl) (by kernel_rfl) (fun _ _ _ h => h) (Or.inr ⟨by rfl, rfl⟩) hHeld ?_
  simp only [Act.put, List.getElem_toArray, List.getElem_cons_zero, List.getElem_cons_succ, List.setIfInBounds_toArray, List.set_cons_zero, List.set_cons_succ]
  refine wpAnyH_take (i := 15) (v := undef) rfl (by kernel_rfl) (by kernel_rfl) (by kernel_rfl) (fun _ _ _ h => h) (Or.inr ⟨by rfl, rfl⟩) hHeld ?_
  simp only [Act.put, List.getElem_toArray, List.getElem_cons_zero, List.getElem_cons_succ, List.setIfInBounds_toArray, List.set_cons_zero, List.set_cons_succ]
  refine wpAnyH_take (i := 16) (v := undef) rfl (by kernel_rfl) (by kernel_rfl) (by kernel_rfl) (fun _ _ _ h => h) (Or.inr ⟨by rfl, rfl⟩) hHeld ?_
  simp only [Act.put, List.getElem_toArray, List.getElem_cons_zero, List.getElem_cons_succ, List.setIfInBounds_toArray, List.set_cons_zero, List.set_cons_succ]
  refine wpAnyH_take (i := 17) (v := undef) rfl (by kernel_rfl) (by kernel_rfl) (by kernel_rfl) (fun _ _ _ h => h) (Or.inr ⟨by rfl, rfl⟩) hHeld ?_
  simp only [Act.put, List.getElem_toArray, List.getElem_cons_zero, List.getElem_cons_succ, List.setIfInBounds_toArray, List.set_cons_zero, List.set_cons_succ]
  refine wpAnyH_take (i := 18) (v := .bool false) rfl (by kernel_rfl) (by kernel_rfl) (by kernel_rfl) (fun _ _ _ h => h) (Or.inl ⟨by rfl, fun w hS => by go_simp⟩) hHeld ?_
  simp only [Act.put, List.getElem_toArray, List.getElem_cons_zero, List.getElem_cons_succ, List.setIfInBounds_toArray, List.set_cons_zero, List.set_cons_succ]
  refine wpAnyH_take (i := 19) (v := .bool false) rfl (by kernel_rfl) (by kernel_rfl) (by kernel_rfl) (fun _ _ _ h => h) (Or.inl ⟨by rfl, fun w hS => by go_simp⟩) hHeld ?_
  simp only [Act.put, List.getElem_toArray, List.getElem_cons_zero, List.getElem_cons_succ, List.setIfInBounds_toArray, List.set_cons_zero, List.set_cons_succ]
  refine wpAnyH_done (by kernel_rfl) ?_ _
  go_wp2_with fail
  go_ret
  exact ⟨rfl, d0⟩

set_option maxHeartbeats 4000000 in
theorem parted_more (g off m cap : Nat) (x y : Lf) (d : Int) (b : Bool) (w : World) (hm : 2 ≤ m) (hm2 : m ≤ 4096) (h0 : w.rangeAt g off (encLf x)) (h1 : w.rangeAt g (off + (m - 1) * 129) (encLf y)) (hb : b = true ↔ Und x.key y.key d) :
    Calls Tryz.prog 47 #[.slice (some ⟨g, off, none⟩) m cap, .int .i64 d] w fun e w' => e = .returned (.bool (!b)) ∧ Below w.heap.size w w' := by
  have HU : Hid (∀ w', Calls Tryz.prog 95 #[.agg (B x.key), .agg (B y.key), .int .i64 d] w' fun e w'' => e = .returned (.bool b) ∧ Below w'.heap.size w' w'') := fun w' => under_at x.key y.key d b w' x.hk y.hk hb
  have HS : Hid (∀ w', Below w.heap.size w w' → w'.rangeAt g (off + 1) (B x.key).toList ∧ w'.rangeAt g (off + (m - 1) * 129 + 1) (B y.key).toList) := fun w' hw' => ⟨range_grow (lf_key h0) hw', range_grow (lf_key h1) hw'⟩
  have HLX : Hid ((Tryz.prog.info? 31).map (·.size) = some (B x.key).toList.length) := by show _ = _; rw [B_toList, List.length_map, x.hk.1]; exact sz_path
  have HLY : Hid ((Tryz.prog.info? 31).map (·.size) = some (B y.key).toList.length) := by show _ = _; rw [B_toList, List.length_map, y.hk.1]; exact sz_path
  obtain ⟨K, hK⟩ : ∃ K, K = x.key := ⟨_, rfl⟩
  obtain ⟨J, hJ⟩ : ∃ J, J = y.key := ⟨_, rfl⟩
  rw [← hK] at HU HS HLX
  rw [← hJ] at HU HS HLY
  obtain ⟨q, rfl⟩ : ∃ q, m = q + 1 := ⟨m - 1, by omega⟩
  rw [show q + 1 - 1 = q by omega] at HS
  have g1 : (1 : Int) < ((q + 1 : Nat) : Int) := by omega
  have g2 : decide ((1 : Int) < ((q + 1 : Nat) : Int)) = true := decide_eq_true g1
  have i0 : (0 : Int) < ((q + 1 : Nat) : Int) := by omega
  have i1 : IntKind.i64.wrap (((q + 1 : Nat) : Int) - 1) = (q : Int) := by rw [IntKind.wrap_i64]; omega
  have i2 : (q : Int) < ((q + 1 : Nat) : Int) := by omega
  have i3 : (0 : Int) ≤ (q : Int) := by omega
  have d0 : Below w.heap.size w w.drew := (Below.refl _ _).drew
  obtain ⟨m, hmm⟩ : ∃ m, m = q + 1 := ⟨_, rfl⟩
  have hm0 : ¬ m = 0 := by omega
  rw [← hmm] at g1 g2 i0 i1 i2 ⊢
  clear h0 h1 hb hK hJ hm hm2 hmm
  go_enter Tryz.func47, Tryz.ntmps47
  go_wp2_with fail
  refine wp_region_held_drew (S := fun w' => w'.rangeAt g (off + 1) (B K).toList ∧ w'.rangeAt g (off + q * 129 + 1) (B J).toList) (by kernel_rfl) (HS.out _ d0) (fun hHeld => ?_)
  refine wpAnyH_take (i := 0) (v := .slice (some ⟨g, off, none⟩) m cap) rfl (by kernel_rfl) (by kernel_rfl) (by kernel_rfl) (fun _ _ _ h => h) (Or.inl ⟨by rfl, fun w hS => by go_simp⟩) hHeld ?_
  simp only [Act.put, List.getElem_toArray, List.getElem_cons_zero, List.setIfInBounds_toArray, List.set_cons_zero, List.set_cons_succ]
  refine wpAnyH_take (i := 1) (v := .int .i64 m) rfl (by kernel_rfl) (by kernel_rfl) (by kernel_rfl) (fun _ _ _ h => h) (Or.inl ⟨by rfl, fun w hS => by go_simp⟩) hHeld ?_
  simp only [Act.put, List.getElem_toArray, List.getElem_cons_zero, List.getElem_cons_succ, List.setIfInBounds_toArray, List.set_cons_zero, List.set_cons_succ]
  refine wpAnyH_take (i := 2) (v := .bool true) rfl (by kernel_rfl) (by kernel_rfl) (by kernel_rfl) (fun _ _ _ h => h) (Or.inl ⟨by rfl, fun w hS => by go_simp⟩) hHeld ?_
  simp only [Act.put, List.getElem_toArray, List.getElem_cons_zero, List.getElem_cons_succ, List.setIfInBounds_toArray, List.set_cons_zero, List.set_cons_succ]
  refine wpAnyH_take (i := 3) (v := .bool true) rfl (by kernel_rfl) (by kernel_rfl) (by kernel_rfl) (fun _ _ _ h => h) (Or.inl ⟨by rfl, fun w hS => by go_simp⟩) hHeld ?_
  simp only [Act.put, List.getElem_toArray, List.getElem_cons_zero, List.getElem_cons_succ, List.setIfInBounds_toArray, List.set_cons_zero, List.set_cons_succ]
  refine wpAnyH_take (i := 4) (v := .slice (some ⟨g, off, none⟩) m cap) rfl (by kernel_rfl) (by kernel_rfl) (by kernel_rfl) (fun _ _ _ h => h) (Or.inl ⟨by rfl, fun w hS => by go_simp⟩) hHeld ?_
  simp only [Act.put, List.getElem_toArray, List.getElem_cons_zero, List.getElem_cons_succ, List.setIfInBounds_toArray, List.set_cons_zero, List.set_cons_succ]
  refine wpAnyH_take (i := 5) (v := .pointer (some ⟨g, off, none⟩)) rfl (by kernel_rfl) (by kernel_rfl) (by kernel_rfl) (fun _ _ _ h => h) (Or.inl ⟨by rfl, fun w hS => by go_simp⟩) hHeld ?_
  simp only [Act.put, List.getElem_toArray, List.getElem_cons_zero, List.getElem_cons_succ, List.setIfInBounds_toArray, List.set_cons_zero, List.set_cons_succ]
  refine wpAnyH_take (i := 6) (v := .pointer (some ⟨g, off + 1, none⟩)) rfl (by kernel_rfl) (by kernel_rfl) (by kernel_rfl) (fun _ _ _ h => h) (Or.inl ⟨by rfl, fun w hS => by go_simp⟩) hHeld ?_
  simp only [Act.put, List.getElem_toArray, List.getElem_cons_zero, List.getElem_cons_succ, List.setIfInBounds_toArray, List.set_cons_zero, List.set_cons_succ]
  refine wpAnyH_take (i := 7) (v := .agg (B K)) rfl (by kernel_rfl) (by kernel_rfl) (by kernel_rfl) (fun _ _ _ h => h) (yieldsIf_load_mid rfl 31 (.tmp 11) rfl g (off + 1) rfl (B K).toList _ (fun w hS => hS.1) Tryz.underlying31 rfl HLX.out) hHeld ?_
  simp only [Act.put, List.getElem_toArray, List.getElem_cons_zero, List.getElem_cons_succ, List.setIfInBounds_toArray, List.set_cons_zero, List.set_cons_succ]
  refine wpAnyH_take (i := 8) (v := .slice (some ⟨g, off, none⟩) m cap) rfl (by kernel_rfl) (by kernel_rfl) (by kernel_rfl) (fun _ _ _ h => h) (Or.inl ⟨by rfl, fun w hS => by go_simp⟩) hHeld ?_
  simp only [Act.put, List.getElem_toArray, List.getElem_cons_zero, List.getElem_cons_succ, List.setIfInBounds_toArray, List.set_cons_zero, List.set_cons_succ]
  refine wpAnyH_take (i := 9) (v := .slice (some ⟨g, off, none⟩) m cap) rfl (by kernel_rfl) (by kernel_rfl) (by kernel_rfl) (fun _ _ _ h => h) (Or.inl ⟨by rfl, fun w hS => by go_simp⟩) hHeld ?_
  simp only [Act.put, List.getElem_toArray, List.getElem_cons_zero, List.getElem_cons_succ, List.setIfInBounds_toArray, List.set_cons_zero, List.set_cons_succ]
  refine wpAnyH_take (i := 10) (v := .int .i64 m) rfl (by kernel_rfl) (by kernel_rfl) (by kernel_rfl) (fun _ _ _ h => h) (Or.inl ⟨by rfl, fun w hS => by go_simp⟩) hHeld ?_
  simp only [Act.put, List.getElem_toArray, List.getElem_cons_zero, List.getElem_cons_succ, List.setIfInBounds_toArray, List.set_cons_zero, List.set_cons_succ]
  refine wpAnyH_take (i := 11) (v := .int .i64 q) rfl (by kernel_rfl) (by kernel_rfl) (by kernel_rfl) (fun _ _ _ h => h) (Or.inl ⟨by rfl, fun w hS => by go_simp⟩) hHeld ?_
  simp only [Act.put, List.getElem_toArray, List.getElem_cons_zero, List.getElem_cons_succ, List.setIfInBounds_toArray, List.set_cons_zero, List.set_cons_succ]
  refine wpAnyH_take (i := 12) (v := .pointer (some ⟨g, off + q * 129, none⟩)) rfl (by kernel_rfl) (by kernel_rfl) (by kernel_rfl) (fun _ _ _ h => h) (Or.inl ⟨by rfl, fun w hS => by go_simp⟩) hHeld ?_
  simp only [Act.put, List.getElem_toArray, List.getElem_cons_zero, List.getElem_cons_succ, List.setIfInBounds_toArray, List.set_cons_zero, List.set_cons_succ]
  refine wpAnyH_take (i := 13) (v := .pointer (some ⟨g, off + q * 129 + 1, none⟩)) rfl (by kernel_rfl) (by kernel_rfl) (by kernel_rfl) (fun _ _ _ h => h) (Or.inl ⟨by rfl, fun w hS => by go_simp⟩) hHeld ?_
  simp only [Act.put, List.getElem_toArray, List.getElem_cons_zero, List.getElem_cons_succ, List.setIfInBounds_toArray, List.set_cons_zero, List.set_cons_succ]
  refine wpAnyH_take (i := 14) (v := .agg (B J)) rfl (by kernel_rfl) (by kernel_rfl) (by kernel_rfl) (fun _ _ _ h => h) (yieldsIf_load_mid rfl 31 (.tmp 18) rfl g (off + q * 129 + 1) rfl (B J).toList _ (fun w hS => hS.2) Tryz.underlying31 rfl HLY.out) hHeld ?_
  simp only [Act.put, List.getElem_toArray, List.getElem_cons_zero, List.getElem_cons_succ, List.setIfInBounds_toArray, List.set_cons_zero, List.set_cons_succ]
  refine wpAnyH_take (i := 15) (v := .int .i64 d) rfl (by kernel_rfl) (by kernel_rfl) (by kernel_rfl) (fun _ _ _ h => h) (Or.inl ⟨by rfl, fun w hS => by go_simp⟩) hHeld ?_
  simp only [Act.put, List.getElem_toArray, List.getElem_cons_zero, List.getElem_cons_succ, List.setIfInBounds_toArray, List.set_cons_zero, List.set_cons_succ]
  refine wpAnyH_ready (rs := [16]) (by kernel_rfl) (by simp) ?_
  refine AllReadyH.cons rfl (fun KQ hK => ?_) AllReadyH.nil
  go_simp
  refine (HU.out _).mono ?_
  rintro e x1 ⟨rfl, a1⟩
  have d1 := grow_trans d0 a1
  refine hK.out _ _ (HS.out _ d1) (fun hHeld => ?_)
  clear hK KQ
  refine wpAnyH_take (i := 17) (v := .bool (!b)) rfl (by kernel_rfl) (by kernel_rfl) (by kernel_rfl) (fun _ _ _ h => h) (Or.inl ⟨by rfl, fun w hS => by go_simp⟩) hHeld ?_
  simp only [Act.put, List.getElem_toArray, List.getElem_cons_zero, List.getElem_cons_succ, List.setIfInBounds_toArray, List.set_cons_zero, List.set_cons_succ]
  refine wpAnyH_take (i := 18) (v := .bool (!b)) rfl (by kernel_rfl) (by kernel_rfl) (by kernel_rfl) (fun _ _ _ h => h) (Or.inl ⟨by rfl, fun w hS => by go_simp⟩) hHeld ?_
  simp only [Act.put, List.getElem_toArray, List.getElem_cons_zero, List.getElem_cons_succ, List.setIfInBounds_toArray, List.set_cons_zero, List.set_cons_succ]
  refine wpAnyH_take (i := 19) (v := .bool (!b)) rfl (by kernel_rfl) (by kernel_rfl) (by kernel_rfl) (fun _ _ _ h => h) (Or.inl ⟨by rfl, fun w hS => by go_simp⟩) hHeld ?_
  simp only [Act.put, List.getElem_toArray, List.getElem_cons_zero, List.getElem_cons_succ, List.setIfInBounds_toArray, List.set_cons_zero, List.set_cons_succ]
  refine wpAnyH_done (by kernel_rfl) ?_ _
  go_wp2_with fail
  go_ret
  exact ⟨rfl, d1⟩

theorem parted_any (v : Value) (ls : List Lf) (d : Nat) (b : Bool) (w : World) (hv : LvAt w v ls) (hr : Rise ls) (hn : ls.length ≤ 4096) (hd : d ≤ 256) (hb : b = true ↔ Same ls d) :
    Calls Tryz.prog 47 #[v, .int .i64 d] w fun e w' => e = .returned (.bool (!b)) ∧ Below w.heap.size w w' := by
  obtain ⟨a, cap, rfl, hc, h⟩ := hv
  by_cases hl : ls.length ≤ 1
  · have : b = true := hb.2 (same_few hl d)
    subst this
    exact parted_few a ls.length cap d w hl
  · obtain ⟨g, off, rfl, hrr⟩ := h (by omega)
    have h0 := hrr 0 (by omega)
    rw [Nat.zero_mul, Nat.add_zero] at h0
    refine parted_more g off ls.length cap ls[0]! ls[ls.length - 1]! d b w (by omega) hn h0 (hrr (ls.length - 1) (by omega)) ?_
    rw [hb, same_ends hr (by omega) d]
    exact ⟨fun h => ⟨by omega, by omega, fun j hj => h j (by omega)⟩, fun h j hj => h.2.2 j (by omega)⟩

/-- All keys have the same first d bits. -/
def SameE (es : List Ent) (d : Nat) : Prop := ∀ a ∈ es, ∀ b ∈ es, ∀ j, j < d → kb a.1 j = kb b.1 j
theorem same_map {es : List Ent} {ls : List Lf} {d : Nat} (hk : ∀ e ∈ es, Key e.1) (hp : ls.Perm (es.map mkLf)) : Same ls d ↔ SameE es d := by
  constructor
  · intro h a ha b hb j hj
    have h1 := h (mkLf a) (hp.mem_iff.2 (List.mem_map_of_mem ha)) (mkLf b) (hp.mem_iff.2 (List.mem_map_of_mem hb)) j hj
    rwa [mkLf_key (hk a ha), mkLf_key (hk b hb)] at h1
  · intro h x hx y hy j hj
    obtain ⟨a, ha, rfl⟩ := List.mem_map.1 (hp.mem_iff.1 hx)
    obtain ⟨b, hb, rfl⟩ := List.mem_map.1 (hp.mem_iff.1 hy)
    rw [mkLf_key (hk a ha), mkLf_key (hk b hb)]
    exact h a ha b hb j hj

/-- What RootAt tells. -/
inductive RootIs (es : List Ent) (d : Int) : List Int → Int → Prop
  | out : (d < 0 ∨ 256 < d) → RootIs es d z32 2
  | bad (E : Int) : 0 ≤ d → d ≤ 256 → errB es = E → E ≠ 0 → RootIs es d z32 E
  | part : 0 ≤ d → d ≤ 256 → errB es = 0 → ¬ SameE es d.toNat → RootIs es d z32 2
  | good : 0 ≤ d → d ≤ 256 → errB es = 0 → SameE es d.toNat → RootIs es d (rt (256 - d.toNat) d.toNat es) 0

theorem RootIs.one {es : List Ent} {d : Int} {h h' : List Int} {e e' : Int} (p : RootIs es d h e) (q : RootIs es d h' e') : h = h' ∧ e = e' := by
  cases p <;> cases q <;> first | exact ⟨rfl, rfl⟩ | (exfalso; omega) | (exfalso; contradiction) | (refine ⟨rfl, ?_⟩; omega) | skip

theorem RootIs.len {es : List Ent} {d : Int} {h : List Int} {e : Int} (p : RootIs es d h e) : h.length = 32 := by
  cases p with
  | out _ => rfl
  | bad _ _ _ _ _ => rfl
  | part _ _ _ _ => rfl
  | good _ _ _ _ =>
    match hn : 256 - d.toNat, es with
    | _, [] => rw [rt_nil]; exact dig_length _
    | _, [x] => rw [rt_one]; exact dig_length _
    | 0, _ :: _ :: _ => exact dig_length _
    | n + 1, a :: b :: l => rw [rt_more n _ _ (by simp)]; exact dig_length _

set_option maxHeartbeats 2000000 in
theorem RootAt_out (v : Value) (V : Nat → Value) (es : List Ent) (d : Int) (w : World) (hv : PrAt w v V es) (hd : d < 0 ∨ 256 < d) :
    Calls Tryz.prog 13 #[v, .int .i64 d] w fun e w' => e = .returned (.tuple #[.agg (B z32), .int .i64 2]) ∧ Below w.heap.size w w' := by
  obtain ⟨a, cap, rfl, _, _, _⟩ := hv
  have HB : Hid (Tryz.prog.built 44 [] = some (B z32)) := built_hash
  by_cases h0 : d < 0
  · have t0 : decide (d < 0) = true := decide_eq_true h0
    clear hd
    go_enter Tryz.func13, Tryz.ntmps13
    go_wp2_with (first
      | ((with_reducible refine at_ald 4 ?_); refine wpList_al _ rfl _ rfl _ zero_hash ?_; intro w1 g1 hg1 hl1 B1 b1)
      | ((with_reducible refine at_bd ?_); refine wpList_bld _ rfl _ _ rfl _ (by rw [List.map_toArray]; exact HB.out) ?_)
      | ((with_reducible refine at_st 4 ?_); refine wpList_sto _ rfl _ _ _ rfl g1 _ (B z32) rfl rfl B1 (by kernel_rfl) rfl (B_one _) ?_; intro w3 B3 r3))
    exact bodyPost_ret (v := .tuple #[.agg (B z32), .int .i64 2]) (results_row_tmp rfl _ _ g1 _ _ _ _ rfl rfl B3 Tryz.underlying44 (by kernel_rfl)) rfl ⟨rfl, below_row b1 r3 hg1⟩
  · have h1 : 256 < d := by omega
    have t0 : decide (d < 0) = false := decide_eq_false h0
    have t1 : decide (256 < d) = true := decide_eq_true h1
    clear hd
    go_enter Tryz.func13, Tryz.ntmps13
    go_wp2_with (first
      | ((with_reducible refine at_ald 4 ?_); refine wpList_al _ rfl _ rfl _ zero_hash ?_; intro w1 g1 hg1 hl1 B1 b1)
      | ((with_reducible refine at_bd ?_); refine wpList_bld _ rfl _ _ rfl _ (by rw [List.map_toArray]; exact HB.out) ?_)
      | ((with_reducible refine at_st 4 ?_); refine wpList_sto _ rfl _ _ _ rfl g1 _ (B z32) rfl rfl B1 (by kernel_rfl) rfl (B_one _) ?_; intro w3 B3 r3))
    exact bodyPost_ret (v := .tuple #[.agg (B z32), .int .i64 2]) (results_row_tmp rfl _ _ g1 _ _ _ _ rfl rfl B3 Tryz.underlying44 (by kernel_rfl)) rfl ⟨rfl, below_row b1 r3 hg1⟩

set_option maxHeartbeats 2000000 in
theorem RootAt_bad (v : Value) (V : Nat → Value) (es : List Ent) (d : Nat) (w : World) (hv : PrAt w v V es) (hn : es.length ≤ 140737488355328) (hd : d ≤ 256) (hE : errB es ≠ 0) :
    Calls Tryz.prog 13 #[v, .int .i64 d] w fun e w' => e = .returned (.tuple #[.agg (B z32), .int .i64 (errB es)]) ∧ Below w.heap.size w w' := by
  have HLv : Hid (∀ w', Below w.heap.size w w' → Calls Tryz.prog 46 #[v] w' fun e w'' => e = .returned (.tuple #[.slice none 0 0, .int .i64 (errB es)]) ∧ Below w'.heap.size w' w'') := fun w' hb => leavesOf_bad v V es w' (hv.grow hb) hn hE
  obtain ⟨a, cap, rfl, _, _, _⟩ := hv
  have HB : Hid (Tryz.prog.built 44 [] = some (B z32)) := built_hash
  obtain ⟨E, hEE⟩ : ∃ E, E = errB es := ⟨_, rfl⟩
  rw [← hEE] at HLv hE ⊢
  have h1 : (E != 0) = true := by simp [hE]
  have h2 : (E == 0) = false := by simp [hE]
  have t0 : decide ((d : Int) < 0) = false := decide_eq_false (by omega)
  have t1 : decide ((256 : Int) < (d : Int)) = false := decide_eq_false (by omega)
  have u0 : ¬ (d : Int) < 0 := by omega
  have u1 : ¬ (256 : Int) < (d : Int) := by omega
  clear hEE hE hd
  go_enter Tryz.func13, Tryz.ntmps13
  go_wp2_with (first
    | ((with_reducible refine at_ald 4 ?_); refine wpList_al _ rfl _ rfl _ zero_hash ?_; intro w1 g1 hg1 hl1 B1 b1)
    | (go_at_call 46; refine (HLv.out _ b1).mono ?_; rintro e w2 ⟨rfl, b2⟩; have B2 := B1.grow b2)
    | ((with_reducible refine at_bd ?_); refine wpList_bld _ rfl _ _ rfl _ (by rw [List.map_toArray]; exact HB.out) ?_)
    | ((with_reducible refine at_st 4 ?_); refine wpList_sto _ rfl _ _ _ rfl g1 _ (B z32) rfl rfl B2 (by kernel_rfl) rfl (B_one _) ?_; intro w3 B3 r3))
  exact bodyPost_ret (v := .tuple #[.agg (B z32), .int .i64 E]) (results_row_tmp rfl _ _ g1 _ _ _ _ rfl rfl B3 Tryz.underlying44 (by kernel_rfl)) rfl ⟨rfl, below_row (grow_trans b1 b2) r3 hg1⟩

set_option maxHeartbeats 4000000 in
theorem RootAt_in (v : Value) (V : Nat → Value) (es : List Ent) (d : Nat) (b : Bool) (w : World) (hv : PrAt w v V es) (hn : es.length ≤ 4096) (hL : Laid w) (hd : d ≤ 256) (hE : errB es = 0) (hb : b = true ↔ SameE es d) :
    Calls Tryz.prog 13 #[v, .int .i64 d] w fun e w' => e = .returned (.tuple #[.agg (B (if b = true then rt (256 - d) d es else z32)), .int .i64 (if b = true then 0 else 2)]) ∧ Below w.heap.size w w' := by
  have hkeys := hv.keys
  have HL := hidden hL
  have HLv : Hid (∀ w', Below w.heap.size w w' → Calls Tryz.prog 46 #[v] w' (LvPost es w')) := fun w' hbb => leavesOf_ok v V es w' (hv.grow hbb) hn (hL.grow hbb) hE
  have HPa : Hid (∀ w' x ls, LvAt w' x ls → ls.Perm (es.map mkLf) → Rise ls → Calls Tryz.prog 47 #[x, .int .i64 d] w' fun e w'' => e = .returned (.bool (!b)) ∧ Below w'.heap.size w' w'') := fun w' x ls h1 h2 h3 => parted_any x ls d b w' h1 h3 (by rw [h2.length_eq, List.length_map]; exact hn) hd (by rw [hb, same_map hkeys h2])
  have HRt : Hid (b = true → ∀ w' x ls, LvAt w' x ls → ls.Perm (es.map mkLf) → Rise ls → Laid w' → Calls Tryz.prog 48 #[x, .int .i64 d] w' fun e w'' => e = .returned (.agg (B (rt (256 - d) d es))) ∧ Below w'.heap.size w' w'') := by
    intro hbt w' x ls h1 h2 h3 hl
    have h4 := rootAt_any (256 - d) d ls x w' (by omega) (by rw [h2.length_eq, List.length_map]; exact hn) h3 ((same_map hkeys h2).2 (hb.1 hbt)) h1 hl
    rwa [rtL_perm _ _ _ _ h2, rt_map _ _ _ (by omega) hkeys] at h4
  obtain ⟨a, cap, rfl, _, _, _⟩ := hv
  have HB : Hid (Tryz.prog.built 44 [] = some (B z32)) := built_hash
  have t0 : decide ((d : Int) < 0) = false := decide_eq_false (by omega)
  have t1 : decide ((256 : Int) < (d : Int)) = false := decide_eq_false (by omega)
  have u0 : ¬ (d : Int) < 0 := by omega
  have u1 : ¬ (256 : Int) < (d : Int) := by omega
  obtain ⟨D, hD⟩ : ∃ D, D = rt (256 - d) d es := ⟨_, rfl⟩
  have HF : Hid (b = true → (Tryz.prog.info? 44).map (·.size) = some (B D).size ∧ (B (List.replicate 32 0)).size = (B D).size) := fun hbt => hash_facts D (by
    rw [hD]
    exact (RootIs.good (es := es) (d := (d : Int)) (by omega) (by omega) hE (by simpa using hb.1 hbt)).len)
  rw [← hD] at HRt ⊢
  clear hb hE hd hD hkeys hL
  cases b with
  | false =>
    go_enter Tryz.func13, Tryz.ntmps13
    go_wp2_with (first
      | ((with_reducible refine at_ald 4 ?_); refine wpList_al _ rfl _ rfl _ zero_hash ?_; intro w1 g1 hg1 hl1 B1 b1)
      | (go_at_call 46; refine (HLv.out _ b1).mono ?_; rintro e w2 ⟨x, ls, rfl, p1, p2, p3, b2⟩; have B2 := B1.grow b2; have P1 := hidden p1; have P2 := hidden p2; have P3 := hidden p3; clear p1 p2 p3)
      | (go_at_call 47; refine (HPa.out _ _ _ P1.out P2.out P3.out).mono ?_; rintro e w3 ⟨rfl, b3⟩; have B3 := B2.grow b3)
      | ((with_reducible refine at_bd ?_); refine wpList_bld _ rfl _ _ rfl _ (by rw [List.map_toArray]; exact HB.out) ?_)
      | ((with_reducible refine at_st 4 ?_); refine wpList_sto _ rfl _ _ _ rfl g1 _ (B z32) rfl rfl B3 (by kernel_rfl) rfl (B_one _) ?_; intro w4 B4 r4))
    exact bodyPost_ret (v := .tuple #[.agg (B z32), .int .i64 2]) (results_row_tmp rfl _ _ g1 _ _ _ _ rfl rfl B4 Tryz.underlying44 (by kernel_rfl)) rfl ⟨rfl, below_row (grow_trans (grow_trans b1 b2) b3) r4 hg1⟩
  | true =>
    have HF1 := hidden (HF.out rfl)
    have HR1 := hidden (HRt.out rfl)
    clear HF HRt
    go_enter Tryz.func13, Tryz.ntmps13
    go_wp2_with (first
      | ((with_reducible refine at_ald 4 ?_); refine wpList_al _ rfl _ rfl _ zero_hash ?_; intro w1 g1 hg1 hl1 B1 b1)
      | (go_at_call 46; refine (HLv.out _ b1).mono ?_; rintro e w2 ⟨x, ls, rfl, p1, p2, p3, b2⟩; have B2 := B1.grow b2; have P1 := hidden p1; have P2 := hidden p2; have P3 := hidden p3; clear p1 p2 p3)
      | (go_at_call 47; refine (HPa.out _ _ _ P1.out P2.out P3.out).mono ?_; rintro e w3 ⟨rfl, b3⟩; have B3 := B2.grow b3; have c3 := grow_trans (grow_trans b1 b2) b3)
      | (go_at_call 48; refine (HR1.out _ _ _ (P1.out.grow b3) P2.out P3.out (HL.out.grow c3)).mono ?_; rintro e w5 ⟨rfl, b5⟩; have B5 := B3.grow b5)
      | ((with_reducible refine at_st 4 ?_); refine wpList_sto _ rfl _ _ _ rfl g1 _ (B D) rfl rfl B5 HF1.out.1 HF1.out.2 (B_one _) ?_; intro w4 B4 r4))
    exact bodyPost_ret (v := .tuple #[.agg (B D), .int .i64 0]) (results_row_tmp rfl _ _ g1 _ _ _ _ rfl rfl B4 Tryz.underlying44 HF1.out.1) rfl ⟨rfl, below_row (grow_trans c3 b5) r4 hg1⟩

end Go.Proofs.YtjikgagaalbaeaaGreatDoor
