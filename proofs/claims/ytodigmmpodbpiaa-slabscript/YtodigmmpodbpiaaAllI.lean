/- All of a slab of numbers, as a contract: what the function that it hands back has caught. -/
import Derived.Test.YtodigmmpodbpiaaSlabFI
import Derived.Test.YtodigmmpodbpiaaSlabDI
import Derived.Deep.RegionHeld2
namespace Go.Proofs.Ytodigmmpodbpiaa
set_option maxRecDepth 20000
open Go.RowKit

/-- Two boxes, new since then: the slots, and their things. -/
def AllAt (base : Nat) (w : World) (b3 b4 : Nat) (ss : List Nat) (zs : List Int) : Prop :=
  ∃ vs vt, Blk w b3 39 #[vs] ∧ Blk w b4 39 #[vt] ∧ base ≤ b3 ∧ base ≤ b4 ∧ w.ownsRow base 3 1 vs ss.length (nats ss) ∧ w.ownsRow base 3 1 vt zs.length (zs.map (Value.int .i64)) ∧ zs.length = ss.length

theorem wrap_small (s : Nat) (h : s ≤ 65536) : IntKind.i64.wrap (s : Int) = s := by
  simp only [IntKind.wrap_i64]
  omega

/-- What was filled up to k. -/
def upK (zs : List Int) (k : Nat) : List Value := ((zs.take k).map (Value.int .i64)) ++ List.replicate (zs.length - k) (.int .i64 0)
theorem upK_zero (zs : List Int) : upK zs 0 = List.replicate zs.length (.int .i64 0) := by simp [upK]
theorem upK_all (zs : List Int) : upK zs zs.length = zs.map (Value.int .i64) := by simp [upK]
theorem upK_length (zs : List Int) (k : Nat) (h : k ≤ zs.length) : (upK zs k).length = zs.length := by simp [upK]; omega
theorem upK_set (zs : List Int) (k : Nat) (h : k < zs.length) : (upK zs k).set k (.int .i64 (zs.getD k 0)) = upK zs (k + 1) := by
  unfold upK
  have hl : ((zs.take k).map (Value.int .i64)).length = k := by simp; omega
  rw [List.set_append_right _ _ (by omega), hl, Nat.sub_self, show zs.length - k = (zs.length - (k + 1)) + 1 by omega, List.replicate_succ, List.set_cons_zero, List.take_succ_eq_append_getElem h, List.map_append]
  simp only [List.getD, List.getElem?_eq_getElem h, Option.getD_some, List.map_cons, List.map_nil, List.append_assoc, List.singleton_append]

set_option maxHeartbeats 4000000 in
theorem all_core (v : Value) (ss : List Nat) (zs : List Int) (w : World) (hl : zs.length = ss.length) (hm : ss.length ≤ 65536)
    (hc : ∀ w1, Below w.heap.size w w1 → Calls Try.prog 36 #[v] w1 fun e w' => ∃ a c, e = .returned (.slice a ss.length c) ∧ w'.ownsRow w1.heap.size 3 1 (.slice a ss.length c) ss.length (nats ss) ∧ Below w1.heap.size w1 w')
    (hr : 0 < ss.length → ∃ g gp n c, v = .pointer (some ⟨g, 0, none⟩) ∧ w.cell? ⟨g, 2, none⟩ = some (.slice (some ⟨gp, 0, none⟩) n c) ∧ ∀ j, j < ss.length → 1 ≤ ss.getD j 0 ∧ ss.getD j 0 ≤ n ∧ ss.getD j 0 ≤ 65536 ∧ w.cell? ⟨gp, (ss.getD j 0 - 1) * 2 + 1, none⟩ = some (.int .i64 (zs.getD j 0))) :
    Calls Try.prog 42 #[v] w fun e w' => ∃ b3 b4, e = .returned (.func (.func 57) #[] #[.pointer (some ⟨b3, 0, none⟩), .pointer (some ⟨b4, 0, none⟩)]) ∧ AllAt w.heap.size w' b3 b4 ss zs ∧ Below w.heap.size w w' := by
  have HC := hidden hc
  have HR := hidden hr
  have HL := hidden hl
  have HM := hidden hm
  obtain ⟨m, hmm⟩ : ∃ m, m = ss.length := ⟨_, rfl⟩
  have HMM := hidden hmm
  have HCm : Hid (∀ w1, Below w.heap.size w w1 → Calls Try.prog 36 #[v] w1 fun e w' => ∃ a c, e = .returned (.slice a m c) ∧ w'.ownsRow w1.heap.size 3 1 (.slice a m c) m (nats ss) ∧ Below w1.heap.size w1 w') := by rw [hmm]; exact hc
  clear hc hr hl hm hmm HC
  go_enter Try.func42, Try.ntmps42
  go_wp2_with (first
    | (go_at_call 36; refine (HCm.out _ (Below.refl _ _)).mono ?_; rintro e w1 ⟨a, c, rfl, o1, b1⟩)
    | (at_make; refine wpList_mkL _ rfl _ _ _ 3 Try.underlying39 (.int .i64 0) 8 ⟨_, rfl, rfl, rfl, rfl⟩ rfl rfl _ _ _ _ m m rfl rfl rfl rfl (by omega) (by have := HM.out; have := HMM.out; omega) (by omega) ?_; intro w2 o2 b2 s2; have hB3 := (Blk.new w1 39 #[Value.slice a m c]).grow b2; have c3 : w2.cell? ⟨w1.heap.size, 0, none⟩ = some (.slice a m c) := (by rw [hB3.cell]; rfl)))
  have hs1 := b1.size
  have HA : Hid (∀ q, (Value.slice a m c).ownBlock = some q → q < w1.heap.size) := fun q hq => (o1.lt q hq).2
  have hO1 := (o1.alloc (.cells #[Value.slice a m c] 39))
  have gA : (w1.alloc (.cells #[Value.slice a m c] 39)).grownBy w2 none := below_grown b2 none
  have hO2 := (hO1.kept gA (by cases hv : (Value.slice a m c).ownBlock <;> simp)).alloc (.cells #[Value.slice (some ⟨w1.heap.size + 1, 0, none⟩) m m] 39)
  have hB3' := hB3.grow (grow_alloc w2 (.cells #[Value.slice (some ⟨w1.heap.size + 1, 0, none⟩) m m] 39))
  have hB4 := Blk.new w2 39 #[Value.slice (some ⟨w1.heap.size + 1, 0, none⟩) m m]
  have hO3 := o2.alloc (.cells #[Value.slice (some ⟨w1.heap.size + 1, 0, none⟩) m m] 39)
  rw [s2, World.size_alloc] at hB4
  rw [World.size_alloc] at hO3
  have hbl : Below w.heap.size w (w2.alloc (.cells #[Value.slice (some ⟨w1.heap.size + 1, 0, none⟩) m m] 39)) := (b1.trans (((grow_alloc w1 _).trans (b2.mono (by simp))).mono hs1)).trans ((grow_alloc w2 _).mono (by rw [s2, World.size_alloc]; omega))
  have hO4 : (w2.alloc (.cells #[Value.slice (some ⟨w1.heap.size + 1, 0, none⟩) m m] 39)).ownsRow w.heap.size 3 1 (.slice (some ⟨w1.heap.size + 1, 0, none⟩) m m) m (upK zs 0) := by
    rw [upK_zero, HL.out, ← HMM.out]
    refine ⟨hO3.1, ?_⟩
    rcases hO3.2 with ⟨h, _⟩ | ⟨g', cap, cur, h1, h2, h3⟩
    · cases h
    · exact .inr ⟨g', cap, cur, h1, by omega, h3⟩
  have H2 := hidden hO2
  have H3 := hidden hB3'
  have H4 := hidden hB4
  have H5 := hidden hO4
  clear hO1 hO2 hB3 hB3' hB4 hO3 hO4 o2 b2 s2 gA c3 o1 b1
  obtain ⟨w3, hw3⟩ : ∃ x, x = w2.alloc (.cells #[Value.slice (some ⟨w1.heap.size + 1, 0, none⟩) m m] 39) := ⟨_, rfl⟩
  rw [← hw3] at H2 H3 H4 H5 hbl ⊢
  clear hw3
  generalize w1.heap.size = B at *
  have HB := hidden hs1
  clear hs1
  go_loopw [14] (fun i wr => ∃ k : Nat, k ≤ m ∧ i = .int .i64 k ∧ Hid (Blk wr B 39 #[Value.slice a m c]) ∧ Hid (Blk wr (B + 1 + 1) 39 #[Value.slice (some ⟨B + 1, 0, none⟩) m m]) ∧ Hid (wr.ownsRow w.heap.size 3 1 (.slice a m c) m (nats ss)) ∧ Hid (wr.ownsRow w.heap.size 3 1 (.slice (some ⟨B + 1, 0, none⟩) m m) m (upK zs k)) ∧ Below w.heap.size w wr) (fun i _ => m - (intOf i).toNat)
  case atStart => exact ⟨0, by omega, rfl, H3, H4, H2, H5, hbl⟩
  case round =>
    clear H2 H3 H4 H5 hbl
    obtain ⟨k, hk, rfl, H3, H4, H2, H5, hbl⟩ := hrel
    have hm6 : m ≤ 65536 := by have := HM.out; have := HMM.out; omega
    have hwk : wrap64 ((k : Int) + 1) = ((k + 1 : Nat) : Int) := by rw [Go.IntWalk.wrap64_in _ (by omega)]; rfl
    by_cases hlt : k < m
    · have i1 : (k : Int) < (m : Int) := by omega
      have i0 : (0 : Int) ≤ (k : Int) := by omega
      obtain ⟨g, gp, n, pc, rfl, hc2, hall⟩ := HR.out (by rw [← HMM.out]; omega)
      obtain ⟨q1, q2, q3, q4⟩ := hall k (by rw [← HMM.out]; exact hlt)
      rcases H2.out.2 with ⟨_, h0⟩ | ⟨gs, cap, cur, hv, hgs, hrow, hcap, _, hsz, htake⟩
      · omega
      · injection hv with hv1 _ hv3
        subst hv1
        subst hv3
        have cs : wr.cell? ⟨gs, k, none⟩ = some (.int .i64 (ss.getD k 0 : Nat)) := by
          rw [H2.out.cellAt k (by omega)]
          exact nats_get ss k (by rw [← HMM.out]; exact hlt)
        have c4 : wr.cell? ⟨B + 1 + 1, 0, none⟩ = some (.slice (some ⟨B + 1, 0, none⟩) m m) := by rw [H4.out.cell]; rfl
        have c2' := hc2
        have c2 := below_cell hbl hc2
        have ct := below_cell hbl q4
        have ct' := q4
        have hlu := upK_length zs k (by rw [HL.out, ← HMM.out]; omega)
        have c5 : ∃ u, wr.cell? ⟨B + 1, k, none⟩ = some u := by
          rw [H5.out.cellAt k (by omega), List.getElem?_eq_getElem (by rw [hlu, HL.out, ← HMM.out]; exact hlt)]
          exact ⟨_, rfl⟩
        obtain ⟨u, c5⟩ := c5
        have f5 := H5.out.frozenAt k
        obtain ⟨s, hs, hs6⟩ : ∃ s, ss.getD k 0 = s + 1 ∧ s ≤ 65536 := ⟨ss.getD k 0 - 1, by omega, Nat.le_trans (Nat.sub_le _ 1) q3⟩
        rw [hs] at cs ct
        rw [show s + 1 - 1 = s by omega] at ct
        have j0 : (0 : Int) ≤ (s : Int) := by omega
        have j1 : (s : Int) < (n : Int) := by omega
        have hws : wrap64 (s : Int) = s := Go.IntWalk.wrap64_in _ (by omega)
        have HW2 := hidden (wrap_small s hs6)
        clear hs6
        obtain ⟨z, hz⟩ : ∃ z, z = zs.getD k 0 := ⟨_, rfl⟩
        rw [← hz] at ct
        have HZ := hidden hz
        clear q1 q2 q3 q4 hall hs hz hlu hrow hcap hsz htake hc2 hgs
        have hgB : g < B := by have : g < w.heap.size := block_lt_of_cell c2'; have := HB.out; omega
        have hpB : gp < B := by have : gp < w.heap.size := block_lt_of_cell ct'; have := HB.out; omega
        have hS0 : wr.drew.cell? ⟨B + 1 + 1, 0, none⟩ = some (.slice (some ⟨B + 1, 0, none⟩) m m) ∧ wr.drew.cell? ⟨g, 2, none⟩ = some (.slice (some ⟨gp, 0, none⟩) n pc) ∧ wr.drew.cell? ⟨gp, s * 2 + 1, none⟩ = some (.int .i64 z) := ⟨c4, c2, ct⟩
        have hS1 : (wr.drew.setCell ⟨B + 1, k, none⟩ (.int .i64 z)).cell? ⟨B + 1 + 1, 0, none⟩ = some (.slice (some ⟨B + 1, 0, none⟩) m m) ∧ (wr.drew.setCell ⟨B + 1, k, none⟩ (.int .i64 z)).cell? ⟨g, 2, none⟩ = some (.slice (some ⟨gp, 0, none⟩) n pc) ∧ (wr.drew.setCell ⟨B + 1, k, none⟩ (.int .i64 z)).cell? ⟨gp, s * 2 + 1, none⟩ = some (.int .i64 z) := by
          refine ⟨?_, ?_, ?_⟩
          · rw [cell_set_ne _ _ _ _ _ _ (by omega)]; exact c4
          · rw [cell_set_ne _ _ _ _ _ _ (by omega)]; exact c2
          · rw [cell_set_ne _ _ _ _ _ _ (by omega)]; exact ct
        have HS0 := hidden hS0
        have HS1 := hidden hS1
        clear hS0 hS1 hgB hpB c2' ct'
        go_wp2_with fail
        refine wp_region_held_drew (S := fun w' => w'.cell? ⟨B + 1 + 1, 0, none⟩ = some (.slice (some ⟨B + 1, 0, none⟩) m m) ∧ w'.cell? ⟨g, 2, none⟩ = some (.slice (some ⟨gp, 0, none⟩) n pc) ∧ w'.cell? ⟨gp, s * 2 + 1, none⟩ = some (.int .i64 z)) (by kernel_rfl) (HS0.out) (fun hHeld => ?_)
        refine wpAnyH_take (i := 0) (v := .slice (some ⟨B + 1, 0, none⟩) m m) rfl (by kernel_rfl) (by kernel_rfl) (by kernel_rfl) (fun _ _ _ h => h) (Or.inl ⟨by rfl, fun w hS => by (have q1 := hS.1; go_simp)⟩) hHeld ?_
        simp only [Act.put, List.getElem_toArray, List.getElem_cons_zero, List.setIfInBounds_toArray, List.set_cons_zero, List.set_cons_succ]
        refine wpAnyH_take (i := 1) (v := .int .i64 (k : Int)) rfl (by kernel_rfl) (by kernel_rfl) (by kernel_rfl) (fun _ _ _ h => h) (Or.inl ⟨by rfl, fun w hS => by go_simp⟩) hHeld ?_
        simp only [Act.put, List.getElem_toArray, List.getElem_cons_zero, List.getElem_cons_succ, List.setIfInBounds_toArray, List.set_cons_zero, List.set_cons_succ]
        refine wpAnyH_take (i := 2) (v := .pointer (some ⟨g, 0, none⟩)) rfl (by kernel_rfl) (by kernel_rfl) (by kernel_rfl) (fun _ _ _ h => h) (Or.inl ⟨by rfl, fun w hS => by go_simp⟩) hHeld ?_
        simp only [Act.put, List.getElem_toArray, List.getElem_cons_zero, List.getElem_cons_succ, List.setIfInBounds_toArray, List.set_cons_zero, List.set_cons_succ]
        refine wpAnyH_take (i := 3) (v := .pointer (some ⟨g, 0, none⟩)) rfl (by kernel_rfl) (by kernel_rfl) (by kernel_rfl) (fun _ _ _ h => h) (Or.inl ⟨by rfl, fun w hS => by go_simp⟩) hHeld ?_
        simp only [Act.put, List.getElem_toArray, List.getElem_cons_zero, List.getElem_cons_succ, List.setIfInBounds_toArray, List.set_cons_zero, List.set_cons_succ]
        refine wpAnyH_take (i := 4) (v := .pointer (some ⟨g, 2, none⟩)) rfl (by kernel_rfl) (by kernel_rfl) (by kernel_rfl) (fun _ _ _ h => h) (Or.inl ⟨by rfl, fun w hS => by go_simp⟩) hHeld ?_
        simp only [Act.put, List.getElem_toArray, List.getElem_cons_zero, List.getElem_cons_succ, List.setIfInBounds_toArray, List.set_cons_zero, List.set_cons_succ]
        refine wpAnyH_take (i := 5) (v := .slice (some ⟨gp, 0, none⟩) n pc) rfl (by kernel_rfl) (by kernel_rfl) (by kernel_rfl) (fun _ _ _ h => h) (Or.inl ⟨by rfl, fun w hS => by (have q1 := hS.2.1; go_simp)⟩) hHeld ?_
        simp only [Act.put, List.getElem_toArray, List.getElem_cons_zero, List.getElem_cons_succ, List.setIfInBounds_toArray, List.set_cons_zero, List.set_cons_succ]
        refine wpAnyH_take (i := 6) (v := .int .i64 ((s : Int) + 1)) rfl (by kernel_rfl) (by kernel_rfl) (by kernel_rfl) (fun _ _ _ h => h) (Or.inl ⟨by rfl, fun w hS => by go_simp⟩) hHeld ?_
        simp only [Act.put, List.getElem_toArray, List.getElem_cons_zero, List.getElem_cons_succ, List.setIfInBounds_toArray, List.set_cons_zero, List.set_cons_succ]
        refine wpAnyH_take (i := 7) (v := .int .i64 (s : Int)) rfl (by kernel_rfl) (by kernel_rfl) (by kernel_rfl) (fun _ _ _ h => h) (Or.inl ⟨by rfl, fun w hS => by (have hw2 := HW2.out; go_simp)⟩) hHeld ?_
        simp only [Act.put, List.getElem_toArray, List.getElem_cons_zero, List.getElem_cons_succ, List.setIfInBounds_toArray, List.set_cons_zero, List.set_cons_succ]
        refine wpAnyH_take (i := 8) (v := .pointer (some ⟨gp, s * 2, none⟩)) rfl (by kernel_rfl) (by kernel_rfl) (by kernel_rfl) (fun _ _ _ h => h) (Or.inl ⟨by rfl, fun w hS => by go_simp⟩) hHeld ?_
        simp only [Act.put, List.getElem_toArray, List.getElem_cons_zero, List.getElem_cons_succ, List.setIfInBounds_toArray, List.set_cons_zero, List.set_cons_succ]
        refine wpAnyH_take (i := 9) (v := .pointer (some ⟨gp, s * 2 + 1, none⟩)) rfl (by kernel_rfl) (by kernel_rfl) (by kernel_rfl) (fun _ _ _ h => h) (Or.inl ⟨by rfl, fun w hS => by go_simp⟩) hHeld ?_
        simp only [Act.put, List.getElem_toArray, List.getElem_cons_zero, List.getElem_cons_succ, List.setIfInBounds_toArray, List.set_cons_zero, List.set_cons_succ]
        refine wpAnyH_take (i := 10) (v := .int .i64 z) rfl (by kernel_rfl) (by kernel_rfl) (by kernel_rfl) (fun _ _ _ h => h) (Or.inl ⟨by rfl, fun w hS => by (have q1 := hS.2.2; go_simp)⟩) hHeld ?_
        simp only [Act.put, List.getElem_toArray, List.getElem_cons_zero, List.getElem_cons_succ, List.setIfInBounds_toArray, List.set_cons_zero, List.set_cons_succ]
        refine wpAnyH_take (i := 11) (v := .pointer (some ⟨(B + 1), k, none⟩)) rfl (by kernel_rfl) (by kernel_rfl) (by kernel_rfl) (fun _ _ _ h => h) (Or.inl ⟨by rfl, fun w hS => by go_simp⟩) hHeld ?_
        simp only [Act.put, List.getElem_toArray, List.getElem_cons_zero, List.getElem_cons_succ, List.setIfInBounds_toArray, List.set_cons_zero, List.set_cons_succ]
        refine wpAnyH_ready (rs := [12]) (by kernel_rfl) (by simp) ?_
        refine AllReadyH.cons rfl (fun KQ hK => ?_) AllReadyH.nil
        go_simp
        refine hK.out _ _ (HS1.out) (fun hHeld => ?_)
        clear hK KQ
        refine wpAnyH_done (by kernel_rfl) ?_ _
        go_wp2
        have hgs : gs < B := HA.out gs rfl
        have e5 := (H5.out.stored k (.int .i64 z)).1
        rw [HZ.out, upK_set zs k (by rw [HL.out, ← HMM.out]; exact hlt), ← HZ.out] at e5
        refine ⟨⟨k + 1, by omega, by go_num, (H3.out.other k (.int .i64 z) (by omega : B ≠ B + 1)).drew, (H4.out.other k (.int .i64 z) (by omega : B + 1 + 1 ≠ B + 1)).drew, ?_, ?_, ?_⟩, by simp [intOf]; omega⟩
        · have := H2.out.kept (grown_setCell wr (B + 1) k (.int .i64 z)) (.inr (by simp only [Value.ownBlock, ne_eq, Option.some.injEq]; omega))
          exact this
        · exact e5
        · exact (setCell_below k (.int .i64 z) hbl (by have := HB.out; omega)).drew
    · obtain rfl : k = m := by omega
      go_wp2
      go_ret
      refine ⟨B, B + 1 + 1, rfl, ⟨_, _, H3.out, H4.out, HB.out, by have := HB.out; omega, ?_, ?_, HL.out⟩, hbl⟩
      · rw [← HMM.out]
        exact H2.out
      · have := H5.out
        rw [show k = zs.length by rw [HL.out, HMM.out], upK_all] at this
        rw [HL.out, ← HMM.out]
        rw [show zs.length = k by rw [HL.out, HMM.out]] at this
        exact this

/-- A slab that is none: nothing. -/
theorem all_noI (v : Value) (w : World) (h : NoI w v) : Calls Try.prog 42 #[v] w fun e w' => ∃ b3 b4, e = .returned (.func (.func 57) #[] #[.pointer (some ⟨b3, 0, none⟩), .pointer (some ⟨b4, 0, none⟩)]) ∧ AllAt w.heap.size w' b3 b4 [] [] ∧ Below w.heap.size w w' := by
  refine all_core v [] [] w rfl (by simp) (fun w1 hb => ?_) (fun h => by simp at h)
  have hn : NoI w1 v := by
    rcases h with h | ⟨g, h1, h2⟩
    · exact .inl h
    · exact .inr ⟨g, h1, below_cell hb h2⟩
  refine (slots_noI v w1 hn).mono ?_
  rintro e w' ⟨rfl, rfl⟩
  exact ⟨none, 0, rfl, World.ownsRow_nil _ _ _ _, Below.refl _ _⟩

/-- The things of the occupied slots, rising. -/
def thgI (ps : List Pl) (s : Nat) : Int := intOf ((thg ps (s - 1)).headD undef)
def NumsI (ps : List Pl) : Prop := ∀ i, i < ps.length → ∃ z : Int, thg ps i = [Value.int .i64 z]
theorem NumsI.at {ps : List Pl} (h : NumsI ps) (i : Nat) (hi : i < ps.length) : thg ps i = [Value.int .i64 (thgI ps (i + 1))] := by
  obtain ⟨z, hz⟩ := h i hi
  have e : thgI ps (i + 1) = z := by
    unfold thgI
    rw [Nat.add_sub_cancel, hz]
    rfl
  rw [e]
  exact hz

theorem all_okI (g : Nat) (vp vf : Value) (room : Nat) (ps : List Pl) (fr : List Nat) (w : World) (h : SlI w g vp vf room ps fr) (hn : NumsI ps) : Calls Try.prog 42 #[.pointer (some ⟨g, 0, none⟩)] w fun e w' => ∃ b3 b4, e = .returned (.func (.func 57) #[] #[.pointer (some ⟨b3, 0, none⟩), .pointer (some ⟨b4, 0, none⟩)]) ∧ AllAt w.heap.size w' b3 b4 (slotsOf ps) ((slotsOf ps).map (thgI ps)) ∧ Below w.heap.size w w' := by
  have h1 := h.inv.len
  have h2 := h.inv.r2
  have h3 := slotsK_le ps ps.length
  refine all_core (.pointer (some ⟨g, 0, none⟩)) (slotsOf ps) ((slotsOf ps).map (thgI ps)) w (by simp) (by unfold slotsOf; omega) (fun w1 hb => ?_) (fun hp => ?_)
  · exact slots_okI g vp vf room ps fr w1 (h.mod (Mod.of_below hb []) (fun _ _ h => by cases h))
  · have hpos : 0 < ps.length := by unfold slotsOf at hp; omega
    obtain ⟨gp, c, rfl, _⟩ := lst_pos h.pls hpos
    refine ⟨g, gp, ps.length, c, rfl, h.c2, fun j hj => ?_⟩
    have hm : (slotsOf ps).getD j 0 ∈ slotsOf ps := by
      have : (slotsOf ps).getD j 0 = (slotsOf ps)[j] := by simp [List.getD, hj]
      rw [this]
      exact List.getElem_mem hj
    obtain ⟨i, hi, hc⟩ := (slots_mem ps _).1 hm
    have hil := cnt_lt hc
    have hg : ((slotsOf ps).map (thgI ps)).getD j 0 = thgI ps (i + 1) := by
      simp only [List.getD, List.getElem?_map, List.getElem?_eq_getElem hj, Option.map_some, Option.getD_some] at hi ⊢
      rw [hi]
    rw [hg, hi]
    refine ⟨by omega, by omega, by omega, ?_⟩
    rw [show i + 1 - 1 = i by omega, lst_cell h.pls _ (by omega)]
    exact flatS_thing h.wid i hil 0 _ (by rw [hn.at i hil]; rfl)

end Go.Proofs.Ytodigmmpodbpiaa
