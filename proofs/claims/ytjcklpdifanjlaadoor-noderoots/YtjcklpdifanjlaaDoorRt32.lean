/- The document's root at a depth, as a contract. -/
import Derived.Test.YtjcklpdifanjlaaDoorRt31
import Derived.Test.YtjcklpdifanjlaaDoorRt29
import Derived.Test.YtjcklpdifanjlaaDoorRt25
namespace Go.Proofs.YtjcklpdifanjlaaDoor
set_option maxRecDepth 20000
open Go.RowKit

theorem b32_facts (D : List Int) (h : D.length = 32) : (Tryd.prog.info? 23).map (·.size) = some (B D).size ∧ (B (List.replicate 32 0)).size = (B D).size := ⟨by rw [B_size, h]; exact size_b32, by rw [B_size, B_size, h]; rfl⟩

set_option maxHeartbeats 2000000 in
theorem refAt_none (d : Int) (a : Option Addr) (cap : Nat) (w : World) : Calls Tryd.prog 51 #[.slice a 0 cap, .int .i64 d] w fun e w' => e = .returned (.agg (B emD)) ∧ Below w.heap.size w w' := by
  obtain ⟨D, hD⟩ : ∃ D, D = emD := ⟨_, rfl⟩
  have HF := hidden (b32_facts D (by rw [hD]; exact dig_length _))
  have HE : Hid (∀ w', Calls Tryd.prog 73 #[] w' fun e w'' => e = .returned (.agg (B D)) ∧ Below w'.heap.size w' w'') := fun w' => by rw [hD]; exact refEmpty_any w'
  rw [← hD]
  clear hD
  go_enter Tryd.func51, Tryd.ntmps51
  go_wp2_with (first
    | ((with_reducible refine at_ald 4 ?_); refine wpList_al _ rfl _ rfl _ zero_b32 ?_; intro w1 g1 hg1 hl1 B1 b1)
    | (go_at_call 73; refine (HE.out _).mono ?_; rintro e w2 ⟨rfl, b2⟩; have B2 := B1.grow b2)
    | ((with_reducible refine at_st 4 ?_); refine wpList_sto _ rfl _ _ _ rfl g1 _ (B D) rfl rfl B2 HF.out.1 HF.out.2 (B_one _) ?_; intro w3 B3 r3))
  exact bodyPost_ret (v := .agg (B D)) (results_cell_row rfl _ _ g1 _ _ _ _ rfl B3 Tryd.underlying23 rfl HF.out.1) rfl ⟨rfl, below_row (grow_trans b1 b2) r3 hg1⟩

set_option maxHeartbeats 2000000 in
theorem refAt_leaf (d : Int) (g off cap : Nat) (E : Ent) (u : Value) (w : World) (hk : Key E.1) (hu : Reads w u E.2) (hl : E.2.length ≤ 1024) (hr : w.rangeAt g off (encP E.1 u)) : Calls Tryd.prog 51 #[.slice (some ⟨g, off, none⟩) 1 cap, .int .i64 d] w fun e w' => e = .returned (.agg (B (enD E))) ∧ Below w.heap.size w w' := by
  obtain ⟨D, hD⟩ : ∃ D, D = enD E := ⟨_, rfl⟩
  have HF := hidden (b32_facts D (by rw [hD]; exact dig_length _))
  obtain ⟨A, hA⟩ : ∃ A, A = vaD E.2 := ⟨_, rfl⟩
  have HVa : Hid (∀ w', Below w.heap.size w w' → Calls Tryd.prog 59 #[u] w' fun e w'' => e = .returned (.agg (B A)) ∧ Below w'.heap.size w' w'') := fun w' hb => by rw [hA]; exact refValue_any u _ w' (hu.grow hb) (by omega)
  have HE : Hid (∀ w', Calls Tryd.prog 74 #[.agg (B E.1), .agg (B A)] w' fun e w'' => e = .returned (.agg (B D)) ∧ Below w'.heap.size w' w'') := fun w' => by rw [hD, hA]; exact refLeaf_any E.1 (vaD E.2) w' hk.1 (dig_length _) hk.2 (dig_bytes _)
  have HR : Hid (∀ w', Below w.heap.size w w' → w'.rangeAt g off (B E.1).toList ∧ w'.cell? ⟨g, off + 32, none⟩ = some u) := fun w' hw' => ⟨rng_key (rng_grow hr hw'), rng_val (rng_grow hr hw') hk.1⟩
  have HLK : Hid ((Tryd.prog.info? 24).map (·.size) = some (B E.1).toList.length) := by show _ = _; rw [B_toList, List.length_map, hk.1]; exact sz_path
  obtain ⟨K, hK⟩ : ∃ K, K = E.1 := ⟨_, rfl⟩
  rw [← hK] at HE HR HLK
  rw [← hD]
  obtain ⟨ua, uc, rfl, _, _, _, _⟩ := hu
  obtain ⟨L, hL⟩ : ∃ L, L = E.2.length := ⟨_, rfl⟩
  rw [← hL] at HVa HR
  clear hD hK hA hr hk hl hL
  go_enter Tryd.func51, Tryd.ntmps51
  go_wp2_with (first
    | ((with_reducible refine at_ald 4 ?_); refine wpList_al _ rfl _ rfl _ zero_b32 ?_; intro w1 g1 hg1 hl1 B1 b1))
  have d0 : Below w.heap.size w w1.drew := grow_trans b1 (Below.refl _ _).drew
  refine wp_region_held_drew (S := fun w' => w'.rangeAt g off (B K).toList ∧ w'.cell? ⟨g, off + 32, none⟩ = some (.slice ua L uc)) (by kernel_rfl) (HR.out _ d0) (fun hHeld => ?_)
  refine wpAnyH_take (i := 0) (v := .slice (some ⟨g, off, none⟩) 1 cap) rfl (by kernel_rfl) (by kernel_rfl) (by kernel_rfl) (fun _ _ _ h => h) (Or.inl ⟨by rfl, fun w hS => by go_simp⟩) hHeld ?_
  simp only [Act.put, List.getElem_toArray, List.getElem_cons_zero, List.setIfInBounds_toArray, List.set_cons_zero, List.set_cons_succ]
  refine wpAnyH_take (i := 1) (v := .pointer (some ⟨g, off, none⟩)) rfl (by kernel_rfl) (by kernel_rfl) (by kernel_rfl) (fun _ _ _ h => h) (Or.inl ⟨by rfl, fun w hS => by go_simp⟩) hHeld ?_
  simp only [Act.put, List.getElem_toArray, List.getElem_cons_zero, List.getElem_cons_succ, List.setIfInBounds_toArray, List.set_cons_zero, List.set_cons_succ]
  refine wpAnyH_take (i := 2) (v := .pointer (some ⟨g, off, none⟩)) rfl (by kernel_rfl) (by kernel_rfl) (by kernel_rfl) (fun _ _ _ h => h) (Or.inl ⟨by rfl, fun w hS => by go_simp⟩) hHeld ?_
  simp only [Act.put, List.getElem_toArray, List.getElem_cons_zero, List.getElem_cons_succ, List.setIfInBounds_toArray, List.set_cons_zero, List.set_cons_succ]
  refine wpAnyH_take (i := 3) (v := .agg (B K)) rfl (by kernel_rfl) (by kernel_rfl) (by kernel_rfl) (fun _ _ _ h => h) (yieldsIf_load_mid rfl 24 (.tmp 14) rfl g off rfl (B K).toList _ (fun w hS => hS.1) Tryd.underlying24 rfl HLK.out) hHeld ?_
  simp only [Act.put, List.getElem_toArray, List.getElem_cons_zero, List.getElem_cons_succ, List.setIfInBounds_toArray, List.set_cons_zero, List.set_cons_succ]
  refine wpAnyH_take (i := 4) (v := .slice (some ⟨g, off, none⟩) 1 cap) rfl (by kernel_rfl) (by kernel_rfl) (by kernel_rfl) (fun _ _ _ h => h) (Or.inl ⟨by rfl, fun w hS => by go_simp⟩) hHeld ?_
  simp only [Act.put, List.getElem_toArray, List.getElem_cons_zero, List.getElem_cons_succ, List.setIfInBounds_toArray, List.set_cons_zero, List.set_cons_succ]
  refine wpAnyH_take (i := 5) (v := .pointer (some ⟨g, off, none⟩)) rfl (by kernel_rfl) (by kernel_rfl) (by kernel_rfl) (fun _ _ _ h => h) (Or.inl ⟨by rfl, fun w hS => by go_simp⟩) hHeld ?_
  simp only [Act.put, List.getElem_toArray, List.getElem_cons_zero, List.getElem_cons_succ, List.setIfInBounds_toArray, List.set_cons_zero, List.set_cons_succ]
  refine wpAnyH_take (i := 6) (v := .pointer (some ⟨g, off + 32, none⟩)) rfl (by kernel_rfl) (by kernel_rfl) (by kernel_rfl) (fun _ _ _ h => h) (Or.inl ⟨by rfl, fun w hS => by go_simp⟩) hHeld ?_
  simp only [Act.put, List.getElem_toArray, List.getElem_cons_zero, List.getElem_cons_succ, List.setIfInBounds_toArray, List.set_cons_zero, List.set_cons_succ]
  refine wpAnyH_take (i := 7) (v := .slice ua L uc) rfl (by kernel_rfl) (by kernel_rfl) (by kernel_rfl) (fun _ _ _ h => h) (Or.inl ⟨by rfl, fun w hS => by (have s1 := hS.2; go_simp)⟩) hHeld ?_
  simp only [Act.put, List.getElem_toArray, List.getElem_cons_zero, List.getElem_cons_succ, List.setIfInBounds_toArray, List.set_cons_zero, List.set_cons_succ]
  refine wpAnyH_ready (rs := [8]) (by kernel_rfl) (by simp) ?_
  refine AllReadyH.cons rfl (fun KQ hK => ?_) AllReadyH.nil
  go_simp
  refine (HVa.out _ d0).mono ?_
  rintro e x1 ⟨rfl, a1⟩
  have d1 := grow_trans d0 a1
  refine hK.out _ _ (HR.out _ d1) (fun hHeld => ?_)
  clear hK KQ
  refine wpAnyH_ready (rs := [9]) (by kernel_rfl) (by simp) ?_
  refine AllReadyH.cons rfl (fun KQ hK => ?_) AllReadyH.nil
  go_simp
  refine (HE.out _).mono ?_
  rintro e x2 ⟨rfl, a2⟩
  have d2 := grow_trans d1 a2
  refine hK.out _ _ (HR.out _ d2) (fun hHeld => ?_)
  clear hK KQ
  refine wpAnyH_ready (rs := [10]) (by kernel_rfl) (by simp) ?_
  refine AllReadyH.cons rfl (fun KQ hK => ?_) AllReadyH.nil
  refine step_sto _ rfl _ _ _ rfl g1 _ (B D) rfl rfl ((B1.drew.grow a1).grow a2) HF.out.1 HF.out.2 (B_one _) ?_
  intro w4 B4 g4
  have c4 := below_row d2 g4 hg1
  refine hK.out _ _ (HR.out _ c4) (fun hHeld => ?_)
  clear hK KQ
  refine wpAnyH_done (by kernel_rfl) ?_ _
  go_wp2_with fail
  exact bodyPost_ret (v := .agg (B D)) (results_cell_row rfl _ _ g1 _ _ _ _ rfl B4 Tryd.underlying23 rfl HF.out.1) rfl ⟨rfl, c4⟩

theorem rt_length (n d : Nat) (es : List Ent) : (rt n d es).length = 32 := by
  match n, es with
  | _, [] => rw [rt_nil]; exact dig_length _
  | _, [x] => rw [rt_one]; exact dig_length _
  | 0, _ :: _ :: _ => exact dig_length _
  | n + 1, a :: b :: l => rw [rt_more n d _ (by simp)]; exact dig_length _
theorem rt_bytes (n d : Nat) (es : List Ent) : Bytes (rt n d es) := by
  match n, es with
  | _, [] => rw [rt_nil]; exact dig_bytes _
  | _, [x] => rw [rt_one]; exact dig_bytes _
  | 0, _ :: _ :: _ => exact dig_bytes _
  | n + 1, a :: b :: l => rw [rt_more n d _ (by simp)]; exact dig_bytes _

set_option maxHeartbeats 4000000 in
theorem refAt_more (d : Nat) (a : Option Addr) (m cap : Nat) (es : List Ent) (R0 R1 : List Int) (w : World) (hd : d < 256) (hm : 2 ≤ m) (l0 : R0.length = 32) (l1 : R1.length = 32) (y0 : Bytes R0) (y1 : Bytes R1)
    (hp : ∀ w' b, Below w.heap.size w w' → Calls Tryd.prog 58 #[.slice a m cap, .int .i64 d, .int .i64 b] w' (SidePost es d b w'))
    (h0 : ∀ w' v V, PrAt w' v V (sideOf es d 0) → Calls Tryd.prog 51 #[v, .int .i64 ((d : Int) + 1)] w' fun e w'' => e = .returned (.agg (B R0)) ∧ Below w'.heap.size w' w'')
    (h1 : ∀ w' v V, PrAt w' v V (sideOf es d 1) → Calls Tryd.prog 51 #[v, .int .i64 ((d : Int) + 1)] w' fun e w'' => e = .returned (.agg (B R1)) ∧ Below w'.heap.size w' w'') :
    Calls Tryd.prog 51 #[.slice a m cap, .int .i64 d] w fun e w' => e = .returned (.agg (B (inD R0 R1))) ∧ Below w.heap.size w w' := by
  have HP := hidden hp
  have H0 := hidden h0
  have H1 := hidden h1
  obtain ⟨D, hD⟩ : ∃ D, D = inD R0 R1 := ⟨_, rfl⟩
  have HF := hidden (b32_facts D (by rw [hD]; exact dig_length _))
  have HI : Hid (∀ w', Calls Tryd.prog 63 #[.agg (B R0), .agg (B R1)] w' fun e w'' => e = .returned (.agg (B D)) ∧ Below w'.heap.size w' w'') := fun w' => by rw [hD]; exact refInner_any R0 R1 w' l0 l1 y0 y1
  have hw : IntKind.i64.wrap ((d : Int) + 1) = (d : Int) + 1 := by rw [IntKind.wrap_i64]; omega
  have e0 : ((m : Int) == 0) = false := by simp; omega
  have e1 : ((m : Int) == 1) = false := by simp; omega
  rw [← hD]
  clear hD hp h0 h1 l0 l1 y0 y1 hm hd
  go_enter Tryd.func51, Tryd.ntmps51
  go_wp2_with (first
    | ((with_reducible refine at_ald 4 ?_); refine wpList_al _ rfl _ rfl _ zero_b32 ?_; intro w1 g1 hg1 hl1 B1 b1; have KB := hidden B1.kp; have c := b1)
    | (go_at_call 58; have mk := mk1; refine (HP.out _ _ c).mono ?_; rintro e w4 ⟨v1, V1, rfl, p1, q4⟩; clear mk mk1; have HP1 := hidden p1; clear p1; have cc := grow_trans c q4; clear c; have c := cc; clear cc; replace KB := hidden (KB.out.step q4); have mk2 : Hid True := trivial)
    | (go_at_call 58; refine (HP.out _ _ c).mono ?_; rintro e w2 ⟨v0, V0, rfl, p0, q2⟩; have HP0 := hidden p0; clear p0; have cc := grow_trans c q2; clear c; have c := cc; clear cc; replace KB := hidden (KB.out.step q2))
    | (go_at_call 51; have mk := mk2; refine (H1.out _ _ _ HP1.out).mono ?_; rintro e w5 ⟨rfl, q5⟩; clear mk mk2; have cc := grow_trans c q5; clear c; have c := cc; clear cc; replace KB := hidden (KB.out.step q5))
    | (go_at_call 51; refine (H0.out _ _ _ HP0.out).mono ?_; rintro e w3 ⟨rfl, q3⟩; have mk1 : Hid True := trivial; have cc := grow_trans c q3; clear c; have c := cc; clear cc; replace KB := hidden (KB.out.step q3))
    | (go_at_call 63; refine (HI.out _).mono ?_; rintro e w6 ⟨rfl, q6⟩; have cc := grow_trans c q6; clear c; have c := cc; clear cc; replace KB := hidden (KB.out.step q6))
    | ((with_reducible refine at_st 4 ?_); refine wpList_sto _ rfl _ _ _ rfl g1 _ (B D) rfl rfl KB.out.now HF.out.1 HF.out.2 (B_one _) ?_; intro w7 B7 r7))
  exact bodyPost_ret (v := .agg (B D)) (results_cell_row rfl _ _ g1 _ _ _ _ rfl B7 Tryd.underlying23 rfl HF.out.1) rfl ⟨rfl, below_row c r7 hg1⟩

/-- All keys have the same first d bits. -/
def SamE (es : List Ent) (d : Nat) : Prop := ∀ a ∈ es, ∀ b ∈ es, ∀ j, j < d → kb a.1 j = kb b.1 j
theorem SamE.side {es : List Ent} {d : Nat} (hd : d < 256) (b : Int) (h : SamE es d) : SamE (sideOf es d b) (d + 1) := by
  intro x hx y hy j hj
  unfold sideOf at hx hy
  rw [List.mem_filter, beq_iff_eq, kbi_in _ _ hd] at hx hy
  by_cases e : j = d
  · rw [e, hx.2, hy.2]
  · exact h x hx.1 y hy.1 j (by omega)
theorem SamE.few {es : List Ent} (hk : ∀ e ∈ es, Key e.1) (ha : Apart1 es) (h : SamE es 256) : es.length ≤ 1 := by
  match es, hk, ha, h with
  | [], _, _, _ => simp
  | e :: r, hk, ha, h => exact Share.few (key := e.1) hk ha (fun x hx j hj => h x hx e (by simp) j hj)

theorem refAt_any : ∀ (n d : Nat) (es : List Ent) (v : Value) (V : Nat → Value) (w : World), d + n = 256 → es.length ≤ 4096 → Apart1 es → SamE es d → (∀ e ∈ es, e.2.length ≤ 1024) → PrAt w v V es →
    Calls Tryd.prog 51 #[v, .int .i64 d] w fun e w' => e = .returned (.agg (B (rt n d es))) ∧ Below w.heap.size w w' := by
  have one : ∀ (n d : Nat) (E : Ent) (a : Option Addr) (cap : Nat) (V : Nat → Value) (w : World), E.2.length ≤ 1024 → PrAt w (.slice a 1 cap) V [E] → Calls Tryd.prog 51 #[.slice a 1 cap, .int .i64 d] w fun e w' => e = .returned (.agg (B (rt n d [E]))) ∧ Below w.heap.size w w' := by
    intro n d E a cap V w hl hv
    obtain ⟨a', cap', e, _, hc, hr⟩ := hv
    injection e with e1 e2 e3
    subst e1
    subst e3
    obtain ⟨g, off, rfl, hcc⟩ := hc (by simp)
    have h0 := hcc 0 (by simp)
    rw [Nat.zero_mul, Nat.add_zero] at h0
    obtain ⟨k0, r0⟩ := hr 0 (by simp)
    rw [rt_one]
    exact refAt_leaf d g off cap E (V 0) w k0 r0 hl h0
  intro n
  induction n with
  | zero =>
    intro d es v V w hd hn ha hs hlen hv
    obtain rfl : d = 256 := by omega
    have hf := SamE.few hv.keys ha hs
    have hv' := hv
    obtain ⟨a, cap, rfl, _⟩ := hv'
    match es, hf, hv, hlen with
    | [], _, _, _ => rw [rt_nil]; exact refAt_none (256 : Nat) a cap w
    | [E], _, hv, hlen => exact one 0 256 E a cap V w (hlen E (by simp)) hv
  | succ n ih =>
    intro d es v V w hd hn ha hs hlen hv
    have hv' := hv
    obtain ⟨a, cap, rfl, _⟩ := hv'
    match es, hn, ha, hs, hlen, hv with
    | [], _, _, _, _, _ => rw [rt_nil]; exact refAt_none d a cap w
    | [E], _, _, _, hlen, hv => exact one (n + 1) d E a cap V w (hlen E (by simp)) hv
    | x :: y :: es, hn, ha, hs, hlen, hv =>
      rw [rt_more n d _ (by simp)]
      have hi : ∀ b w' v V, PrAt w' v V (sideOf (x :: y :: es) d b) → Calls Tryd.prog 51 #[v, .int .i64 ((d : Int) + 1)] w' fun e w'' => e = .returned (.agg (B (rt n (d + 1) (sideOf (x :: y :: es) d b)))) ∧ Below w'.heap.size w' w'' := by
        intro b w' v V hv
        have := ih (d + 1) (sideOf (x :: y :: es) d b) v V w' (by omega) (Nat.le_trans (List.length_filter_le _ _) hn) (ha.side d b) (hs.side (by omega) b) (fun e he => hlen e (List.mem_filter.1 he).1) hv
        rwa [show ((d + 1 : Nat) : Int) = (d : Int) + 1 by omega] at this
      exact refAt_more d a _ cap (x :: y :: es) _ _ w (by omega) (by simp) (rt_length _ _ _) (rt_length _ _ _) (rt_bytes _ _ _) (rt_bytes _ _ _) (fun w' b hb => refSide_any _ V (x :: y :: es) d b w' (hv.grow hb) hn) (hi 0) (hi 1)

end Go.Proofs.YtjcklpdifanjlaaDoor

/- node.leavesOf, as a contract. -/
namespace Go.Proofs.YtjcklpdifanjlaaDoor
set_option maxRecDepth 20000
open Go.RowKit

/-- What leavesOf tells of entries that may be. -/
def LvPost (es : List Ent) (w : World) (e : Ending) (w' : World) : Prop :=
  ∃ v ls, e = .returned (.tuple #[v, .int .i64 0]) ∧ LvAt w' v ls ∧ ls.Perm (es.map mkLf) ∧ Rise ls ∧ Below w.heap.size w w'

set_option maxHeartbeats 1000000 in
theorem leavesOf_bad (v : Value) (V : Nat → Value) (es : List Ent) (w : World) (hv : PrAt w v V es) (hn : es.length ≤ 140737488355328) (hE : errB es ≠ 0) :
    Calls Tryd.prog 52 #[v] w fun e w' => e = .returned (.tuple #[.slice none 0 0, .int .i64 (errB es)]) ∧ Below w.heap.size w w' := by
  have HM := hidden (mayBe_any v V es w hv hn)
  obtain ⟨a, cap, rfl, _, _, _⟩ := hv
  obtain ⟨E, hEE⟩ : ∃ E, E = errB es := ⟨_, rfl⟩
  rw [← hEE] at HM hE ⊢
  have h1 : (E != 0) = true := by simp [hE]
  have h2 : (E == 0) = false := by simp [hE]
  clear hEE hE
  go_enter Tryd.func52, Tryd.ntmps52
  go_wp2_with (go_at_call 75; refine HM.out.mono ?_; rintro e w1 ⟨rfl, b1⟩)
  go_ret2
  exact ⟨rfl, b1⟩

set_option maxRecDepth 100000 in
set_option maxHeartbeats 8000000 in
theorem leavesOf_ok (v : Value) (V : Nat → Value) (es : List Ent) (w : World) (hv : PrAt w v V es) (hn : es.length ≤ 4096) (hL : Laid w) (hE : errB es = 0) :
    Calls Tryd.prog 52 #[v] w (LvPost es w) := by
  have HM := hidden (mayBe_any v V es w hv (by omega))
  rw [hE] at HM
  have hls : lsE [] es = 0 := by rw [errB, if_neg (by omega)] at hE; exact hE
  obtain ⟨hlen, hap, _⟩ := lsE_ok [] es hls
  have hkeys := hv.keys
  have HPost : Hid (∀ w' v' ls, LvAt w' v' ls → ls.Perm (es.map mkLf) → Rise ls → Below w.heap.size w w' → LvPost es w (.returned (.tuple #[v', .int .i64 0])) w') := fun w' v' ls h1 h2 h3 h4 => ⟨v', ls, rfl, h1, h2, h3, h4⟩
  have HNE : Hid ((es.map mkLf).Pairwise fun a b => a.key ≠ b.key) := by
    show List.Pairwise _ _
    rw [List.pairwise_map]
    refine List.Pairwise.imp_of_mem ?_ hap
    intro a b ha hb hab
    rw [mkLf_key (hkeys a ha), mkLf_key (hkeys b hb)]
    exact hab
  have HLN : Hid (∀ k, k < es.length → (es.getD k e00).2.length ≤ 1024) := by
    intro k hk
    have := hlen es[k] (List.getElem_mem hk)
    simpa [List.getD, hk] using this
  have HL := hidden hL
  obtain ⟨a, cap, rfl, hcap, hc, hr⟩ := hv
  have HC := hidden hc
  have HR := hidden hr
  obtain ⟨n, hnn⟩ : ∃ n, n = es.length := ⟨_, rfl⟩
  have HN := hidden hnn
  rw [← hnn] at HM hn ⊢
  clear hc hr hcap hnn hE hls hlen hap hkeys hL
  go_enter Tryd.func52, Tryd.ntmps52
  go_wp2_with (first
    | (go_at_call 75; refine HM.out.mono ?_; rintro e w1 ⟨rfl, b1⟩)
    | (refine wpList_mkn _ rfl _ _ rfl n rfl rfl hn ?_; intro w2 g cs hg2 Bg hcs b2))
  have HG : Hid (w.heap.size ≤ g) := Nat.le_trans b1.size hg2
  have HR0 : Hid (Rows w2 g n []) := ⟨fun i hi => by simp at hi, fun i hi => Bg.there _ _ (by rw [hcs]; omega)⟩
  have HGL : Hid (g < w2.heap.size) := Bg.lt
  have c2 := grow_trans b1 b2
  clear Bg hcs hg2 b1 b2 cs HM
  go_loopw [18] (fun i wr => ∃ k : Nat, k ≤ n ∧ i = .int .i64 k ∧ Hid (Rows wr g n ((es.take k).map mkLf)) ∧ Hid (g < wr.heap.size) ∧ Below w.heap.size w wr) (fun i _ => n - (intOf i).toNat)
  case atStart => exact ⟨0, by omega, rfl, HR0, HGL, c2⟩
  case round =>
    obtain ⟨k, hk, rfl, hrows, hgl, hbw⟩ := hrel
    by_cases hlt : k < n
    · have hlt' : k < es.length := by rw [← HN.out]; exact hlt
      obtain ⟨ga, off, rfl, hcc⟩ := HC.out (by omega)
      have z1 : (k : Int) < (n : Int) := by omega
      have z0 : (0 : Int) ≤ (k : Int) := by omega
      obtain ⟨hkey, hrd⟩ := HR.out k hlt'
      have HRG : Hid (wr.rangeAt ga (off + k * 33) (encP (es.getD k e00).1 (V k))) := rng_grow (hcc k hlt') hbw
      have hlv := HLN.out k hlt'
      have HV : Hid (∀ w', Below w.heap.size w w' → Laid w' → Calls Tryd.prog 76 #[V k] w' fun e w'' => e = .returned (.agg (B (vaD (es.getD k e00).2))) ∧ Below w'.heap.size w' w'') := fun w' hb hl => value_any (V k) _ w' (hrd.grow hb) hl (by omega)
      have HX : Hid (encLf (mkLf (es.getD k e00)) = (B (nd 1 (es.getD k e00).1 (vaD (es.getD k e00).2) z32 z32)).toList) := by
        show _ = _
        rw [B_toList, encLf, Lf.ints, mkLf_key hkey, mkLf_val hkey]
      have HBL : Hid (Tryd.prog.built 27 [(0, .int .u8 1), (1, .agg (B (es.getD k e00).1)), (2, .agg (B (vaD (es.getD k e00).2)))] = some (B (nd 1 (es.getD k e00).1 (vaD (es.getD k e00).2) z32 z32))) := built_leaf _ _ hkey.1 (dig_length _)
      have HT : Hid ((es.take (k + 1)).map mkLf = (es.take k).map mkLf ++ [mkLf (es.getD k e00)]) := by
        show _ = _
        rw [List.take_add_one, List.map_append]
        simp [List.getD, hlt']
      have HTL : Hid (((es.take k).map mkLf).length = k) := by show _ = _; simp; omega
      have HNS : Hid ((B (nd 1 (es.getD k e00).1 (vaD (es.getD k e00).2) z32 z32)).size = 129) := by
        have : Nd 1 (es.getD k e00).1 (vaD (es.getD k e00).2) z32 z32 := ⟨by omega, by omega, hkey.1, dig_length _, rfl, rfl, hkey.2, dig_bytes _, z32_bytes, z32_bytes⟩
        exact this.size
      obtain ⟨va, vc, hV, _, _, _, _⟩ := hrd
      obtain ⟨K, hK⟩ : ∃ K, K = (es.getD k e00).1 := ⟨_, rfl⟩
      obtain ⟨Z, hZ⟩ : ∃ Z, Z = (es.getD k e00).2 := ⟨_, rfl⟩
      obtain ⟨x, hx⟩ : ∃ x, x = mkLf (es.getD k e00) := ⟨_, rfl⟩
      obtain ⟨ls, hlsd⟩ : ∃ ls, ls = (es.take k).map mkLf := ⟨_, rfl⟩
      rw [← hx] at HX HT
      rw [← hlsd] at HT HTL hrows
      rw [← hK] at HRG hkey HX HBL HNS
      rw [← hZ] at HV HX hV HBL HNS
      obtain ⟨A, hA⟩ : ∃ A, A = vaD Z := ⟨_, rfl⟩
      rw [← hA] at HV HX HBL HNS
      obtain ⟨N, hNd⟩ : ∃ N, N = nd 1 K A z32 z32 := ⟨_, rfl⟩
      rw [← hNd] at HX HBL HNS
      rw [hV] at HRG HV
      obtain ⟨L, hLL⟩ : ∃ L, L = Z.length := ⟨_, rfl⟩
      rw [← hLL] at HRG HV
      have HKY := hidden hkey
      have hsz : (Tryd.prog.info? 75).map (·.size) = some (encP K (.slice va L vc)).toArray.size := by rw [List.size_toArray, encP_length K _ HKY.out.1]; exact size_pair
      have hsz2 : (encP z32 (.slice none 0 0)).toArray.size = (encP K (.slice va L vc)).toArray.size := by rw [List.size_toArray, List.size_toArray, encP_length K _ HKY.out.1]; rfl
      have HSZ := hidden hsz
      have HSZ2 := hidden hsz2
      have HLK : Hid ((Tryd.prog.info? 24).map (·.size) = some (B K).toList.length) := by show _ = _; rw [B_toList, List.length_map, HKY.out.1]; exact sz_path
      clear hcc hK hZ hV hkey hx hlsd hsz hsz2 hlt' hA hNd hLL hlv
      go_wp2_with (first
        | ((with_reducible refine at_ldd 22 21 ?_); refine wpList_ldp _ rfl _ rfl ga (off + k * 33) K _ rfl HRG.out HKY.out.1 ?_)
        | ((with_reducible refine at_ald 7 ?_); refine wpList_al _ rfl _ rfl _ zero_pair ?_; intro w2 g7 hg7 hl7 B7 q7)
        | ((with_reducible refine at_st 7 ?_); refine wpList_sto _ rfl _ _ _ rfl g7 _ _ rfl rfl B7 HSZ.out HSZ2.out (encP_one _ _ _ _) ?_; intro w3 B8 r8; have q8 := below_row q7 r8 hg7))
      have HS : Hid (∀ w', Below w3.heap.size w3 w' → w'.rangeAt g7 0 (B K).toList ∧ w'.cell? ⟨g7, 32, none⟩ = some (.slice va L vc)) := fun w' hw' => ⟨pair_key (B8.grow hw'), pair_val (B8.grow hw') HKY.out.1⟩
      have d0 : Below w3.heap.size w3 w3.drew := (Below.refl _ _).drew
      have hb3 := grow_trans hbw q8
      have HROW : Hid (Rows w3 g n ls) := hrows.out.grow q8
      have HG3 : Hid (g ≠ g7) := by
        have h1 := hgl.out
        intro e
        subst e
        omega
      clear hrows B7 q7 r8 hg7 hl7 B8 HRG
      refine wp_region_held_drew (S := fun w' => w'.rangeAt g7 0 (B K).toList ∧ w'.cell? ⟨g7, 32, none⟩ = some (.slice va L vc)) (by kernel_rfl) (HS.out _ d0) (fun hHeld => ?_)
      refine wpAnyH_take (i := 0) (v := .slice (some ⟨g, 0, none⟩) n n) rfl (by kernel_rfl) (by kernel_rfl) (by kernel_rfl) (fun _ _ _ h => h) (Or.inl ⟨by rfl, fun w hS => by go_simp⟩) hHeld ?_
      simp only [Act.put, List.getElem_toArray, List.getElem_cons_zero, List.setIfInBounds_toArray, List.set_cons_zero, List.set_cons_succ]
      refine wpAnyH_take (i := 1) (v := .int .i64 k) rfl (by kernel_rfl) (by kernel_rfl) (by kernel_rfl) (fun _ _ _ h => h) (Or.inl ⟨by rfl, fun w hS => by go_simp⟩) hHeld ?_
      simp only [Act.put, List.getElem_toArray, List.getElem_cons_zero, List.getElem_cons_succ, List.setIfInBounds_toArray, List.set_cons_zero, List.set_cons_succ]
      refine wpAnyH_take (i := 2) (v := .pointer (some ⟨g7, 0, none⟩)) rfl (by kernel_rfl) (by kernel_rfl) (by kernel_rfl) (fun _ _ _ h => h) (Or.inl ⟨by rfl, fun w hS => by go_simp⟩) hHeld ?_
      simp only [Act.put, List.getElem_toArray, List.getElem_cons_zero, List.getElem_cons_succ, List.setIfInBounds_toArray, List.set_cons_zero, List.set_cons_succ]
      refine wpAnyH_take (i := 3) (v := .agg (B K)) rfl (by kernel_rfl) (by kernel_rfl) (by kernel_rfl) (fun _ _ _ h => h) (yieldsIf_load_mid rfl 24 (.tmp 25) rfl g7 0 rfl (B K).toList _ (fun w hS => hS.1) Tryd.underlying24 rfl HLK.out) hHeld ?_
      simp only [Act.put, List.getElem_toArray, List.getElem_cons_zero, List.getElem_cons_succ, List.setIfInBounds_toArray, List.set_cons_zero, List.set_cons_succ]
      refine wpAnyH_take (i := 4) (v := .pointer (some ⟨g7, 32, none⟩)) rfl (by kernel_rfl) (by kernel_rfl) (by kernel_rfl) (fun _ _ _ h => h) (Or.inl ⟨by rfl, fun w hS => by go_simp⟩) hHeld ?_
      simp only [Act.put, List.getElem_toArray, List.getElem_cons_zero, List.getElem_cons_succ, List.setIfInBounds_toArray, List.set_cons_zero, List.set_cons_succ]
      refine wpAnyH_take (i := 5) (v := .slice va L vc) rfl (by kernel_rfl) (by kernel_rfl) (by kernel_rfl) (fun _ _ _ h => h) (Or.inl ⟨by rfl, fun w hS => by (have s1 := hS.2; go_simp)⟩) hHeld ?_
      simp only [Act.put, List.getElem_toArray, List.getElem_cons_zero, List.getElem_cons_succ, List.setIfInBounds_toArray, List.set_cons_zero, List.set_cons_succ]
      refine wpAnyH_ready (rs := [6]) (by kernel_rfl) (by simp) ?_
      refine AllReadyH.cons rfl (fun KQ hK => ?_) AllReadyH.nil
      go_simp
      refine (HV.out _ (grow_trans hb3 d0) (HL.out.grow (grow_trans hb3 d0))).mono ?_
      rintro e x1 ⟨rfl, a1⟩
      have d1 := grow_trans d0 a1
      refine hK.out _ _ (HS.out _ d1) (fun hHeld => ?_)
      clear hK KQ
      refine wpAnyH_take (i := 7) (v := .agg (B N)) rfl (by kernel_rfl) (by kernel_rfl) (by kernel_rfl) (fun _ _ _ h => h) (Or.inl ⟨by rfl, fun w hS => exec_bd _ _ 27 _ (by rfl) (B N) (by rw [List.map_toArray]; exact HBL.out) w⟩) hHeld ?_
      simp only [Act.put, List.getElem_toArray, List.getElem_cons_zero, List.getElem_cons_succ, List.setIfInBounds_toArray, List.set_cons_zero, List.set_cons_succ]
      refine wpAnyH_take (i := 8) (v := .pointer (some ⟨g, k * 129, none⟩)) rfl (by kernel_rfl) (by kernel_rfl) (by kernel_rfl) (fun _ _ _ h => h) (Or.inl ⟨by rfl, fun w hS => by go_simp⟩) hHeld ?_
      simp only [Act.put, List.getElem_toArray, List.getElem_cons_zero, List.getElem_cons_succ, List.setIfInBounds_toArray, List.set_cons_zero, List.set_cons_succ]
      refine wpAnyH_ready (rs := [9]) (by kernel_rfl) (by simp) ?_
      refine AllReadyH.cons rfl (fun KQ hK => ?_) AllReadyH.nil
      have HRW := HROW.out.grow d1
      refine step_stL _ rfl _ _ _ rfl g (k * 129) (B N) rfl rfl (by rw [HNS.out]; exact HRW.2 k hlt) (by rw [HNS.out]; exact size_node) (B_one _) ?_
      have c4 : Below w.heap.size w (x1.setCells g (k * 129) (B N).toList) := setCells_below HG.out _ _ _ (grow_trans hb3 d1)
      have hput := HRW.put x (by rw [HTL.out]; exact hlt)
      rw [HTL.out, HX.out, ← HT.out] at hput
      have HPT := hidden hput
      have hS9 : (x1.setCells g (k * 129) (B N).toList).rangeAt g7 0 (B K).toList ∧ (x1.setCells g (k * 129) (B N).toList).cell? ⟨g7, 32, none⟩ = some (.slice va L vc) := by
        have h1 := HS.out _ d1
        have h2 : x1.rangeAt g7 32 [.slice va L vc] := fun j v hv => by
          obtain ⟨h3, h4⟩ := List.getElem?_eq_some_iff.1 hv
          have : j = 0 := by simpa using h3
          subst this
          have : Value.slice va L vc = v := by simpa using h4
          rw [← this]
          exact h1.2
        refine ⟨World.rangeAt_setCells_apart h1.1 _ _ _ (.inl (Ne.symm HG3.out)), ?_⟩
        have h5 := World.rangeAt_setCells_apart h2 g (k * 129) (B N).toList (.inl (Ne.symm HG3.out))
        exact h5 0 _ rfl
      refine hK.out _ _ hS9 (fun hHeld => ?_)
      clear hK KQ hput hS9 HRW
      refine wpAnyH_done (by kernel_rfl) ?_ _
      generalize x1.setCells g (k * 129) (B N).toList = x2 at c4 HPT ⊢
      have hg2 : Hid (g < x2.heap.size) := by
        obtain ⟨h1, _⟩ := HPT.out.2 k hlt 0 (by omega)
        obtain ⟨u, hu⟩ := Option.isSome_iff_exists.1 h1
        exact block_lt_of_cell hu
      go_wp2_with fail
      exact ⟨⟨k + 1, by omega, by go_num, HPT, hg2, c4⟩, by simp [intOf]; omega⟩
    · have hkn : k = es.length := by rw [← HN.out]; omega
      have z1 : ¬ (k : Int) < (n : Int) := by omega
      have HTK : Hid ((es.take k).map mkLf = es.map mkLf) := by show _ = _; rw [hkn, List.take_length]
      rw [HTK.out] at hrows
      have HSO : Hid (Calls Tryd.prog 77 #[.slice (some ⟨g, 0, none⟩) n n, .func (.func 78) #[] #[]] wr fun e w' => e = .returned (.tuple #[]) ∧ (∃ l', LvAt w' (.slice (some ⟨g, 0, none⟩) n n) l' ∧ l'.Perm (es.map mkLf) ∧ Rise l') ∧ Below w.heap.size w w') := by
        have hl : (es.map mkLf).length = n := by rw [List.length_map, HN.out]
        have := sort_any g (es.map mkLf) w wr (by rw [hl]; exact hrows.out) hgl.out hbw HG.out (by rw [hl]; exact hn) HNE.out
        rwa [hl] at this
      clear hrows hkn
      go_wp2_with (go_at_call 77; refine HSO.out.mono ?_; rintro e w5 ⟨rfl, ⟨l', p1, p2, p3⟩, b5⟩)
      go_ret2
      exact HPost.out _ _ _ p1 p2 p3 b5

end Go.Proofs.YtjcklpdifanjlaaDoor
