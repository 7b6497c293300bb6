/- node.parted, node.RootAt, node.Root, as contracts. -/
import Derived.Test.YtkhinjkcfjncgaaGreatDoorKn38
import Derived.Test.YtkhinjkcfjncgaaGreatDoorKn27
namespace Go.Proofs.YtkhinjkcfjncgaaGreatDoor
set_option maxRecDepth 20000
open Go.RowKit

/-- Between two keys with the same first d bits all keys have these. -/
theorem between {a b c : List Int} {d : Nat} (h1 : Ahead a b) (h2 : Ahead b c) (hs : ∀ j, j < d → kb a j = kb c j) : ∀ j, j < d → kb a j = kb b j := by
  obtain ⟨i, hi, e1, e2, e3⟩ := h1
  by_cases hid : i < d
  · have h3 : Ahead c b := ⟨i, hi, fun j hj => by rw [← hs j (by omega)]; exact e1 j hj, by rw [← hs i hid]; exact e2, e3⟩
    exact absurd (h2.trans h3) (Ahead.irrefl _)
  · intro j hj
    exact e1 j (by omega)

theorem same_ends {ls : List Lf} (hr : Rise ls) (hl : 2 ≤ ls.length) (d : Nat) : Same ls d ↔ ∀ j, j < d → kb ls[0]!.key j = kb ls[ls.length - 1]!.key j := by
  rw [getElem!_pos ls 0 (by omega), getElem!_pos ls (ls.length - 1) (by omega)]
  constructor
  · intro h j hj
    exact h _ (List.getElem_mem _) _ (List.getElem_mem _) j hj
  · intro h
    have hall : ∀ x ∈ ls, ∀ j, j < d → kb ls[0].key j = kb x.key j := by
      intro x hx j hj
      obtain ⟨i, hi, rfl⟩ := List.mem_iff_getElem.1 hx
      by_cases h0 : i = 0
      · subst h0
        rfl
      · by_cases h1 : i = ls.length - 1
        · subst h1
          exact h j hj
        · exact between (List.pairwise_iff_getElem.1 hr 0 i (by omega) hi (by omega)) (List.pairwise_iff_getElem.1 hr i (ls.length - 1) hi (by omega) (by omega)) h j hj
    intro x hx y hy j hj
    rw [← hall x hx j hj, hall y hy j hj]

theorem same_few {ls : List Lf} (h : ls.length ≤ 1) (d : Nat) : Same ls d := by
  match ls, h with
  | [], _ => intro a ha; simp at ha
  | [x], _ =>
    intro a ha b hb j _
    have h1 : a = x := by simpa using ha
    have h2 : b = x := by simpa using hb
    rw [h1, h2]

set_option maxHeartbeats 2000000 in
theorem parted_few (a : Option Addr) (m cap : Nat) (d : Int) (w : World) (hm : m ≤ 1) : Calls Tryz.prog 152 #[.slice a m cap, .int .i64 d] w fun e w' => e = .returned (.bool false) ∧ Below w.heap.size w w' := by
  have h1 : ¬ (1 : Int) < (m : Int) := by omega
  have h2 : decide ((1 : Int) < (m : Int)) = false := decide_eq_false h1
  go_enter Tryz.func152, Tryz.ntmps152
  go_wp2_with fail
  have d0 : Below w.heap.size w w.drew := (Below.refl _ _).drew
  refine wp_region_held_drew (S := fun _ => True) (by kernel_rfl) (trivial) (fun hHeld => ?_)
  refine wpAnyH_take (i := 0) (v := .slice a m cap) rfl (by kernel_rfl) (by kernel_rfl) (by kernel_rfl) (fun _ _ _ h => h) (Or.inl ⟨by rfl, fun w hS => by go_simp⟩) hHeld ?_
  simp only [Act.put, List.getElem_toArray, List.getElem_cons_zero, List.setIfInBounds_toArray, List.set_cons_zero, List.set_cons_succ]
  refine wpAnyH_take (i := 1) (v := .int .i64 m) rfl (by kernel_rfl) (by kernel_rfl) (by kernel_rfl) (fun _ _ _ h => h) (Or.inl ⟨by rfl, fun w hS => by go_simp⟩) hHeld ?_
  simp only [Act.put, List.getElem_toArray, List.getElem_cons_zero, List.getElem_cons_succ, List.setIfInBounds_toArray, List.set_cons_zero, List.set_cons_succ]
  refine wpAnyH_take (i := 2) (v := .bool false) rfl (by kernel_rfl) (by kernel_rfl) (by kernel_rfl) (fun _ _ _ h => h) (Or.inl ⟨by rfl, fun w hS => by go_simp⟩) hHeld ?_
  simp only [Act.put, List.getElem_toArray, List.getElem_cons_zero, List.getElem_cons_succ, List.setIfInBounds_toArray, List.set_cons_zero, List.set_cons_succ]
  refine wpAnyH_take (i := 3) (v := .bool false) rfl (by kernel_rfl) (by kernel_rfl) (by kernel_rfl) (fun _ _ _ h => h) (Or.inl ⟨by rfl, fun w hS => by go_simp⟩) hHeld ?_
  simp only [Act.put, List.getElem_toArray, List.getElem_cons_zero, List.getElem_cons_succ, List.setIfInBounds_toArray, List.set_cons_zero, List.set_cons_succ]
  refine wpAnyH_take (i := 4) (v := undef) rfl (by kernel_rfl) (by kernel_rfl) (by kernel_rfl) (fun _ _ _ h => h) (Or.inr ⟨by rfl, rfl⟩) hHeld ?_
  simp only [Act.put, List.getElem_toArray, List.getElem_cons_zero, List.getElem_cons_succ, List.setIfInBounds_toArray, List.set_cons_zero, List.set_cons_succ]
  refine wpAnyH_take (i := 5) (v := undef) rfl (by kernel_rfl) (by kernel_rfl) (by kernel_rfl) (fun _ _ _ h => h) (Or.inr ⟨by rfl, rfl⟩) hHeld ?_
  simp only [Act.put, List.getElem_toArray, List.getElem_cons_zero, List.getElem_cons_succ, List.setIfInBounds_toArray, List.set_cons_zero, List.set_cons_succ]
  refine wpAnyH_take (i := 6) (v := undef) rfl (by kernel_rfl) (by kernel_rfl) (by kernel_rfl) (fun _ _ _ h => h) (Or.inr ⟨by rfl, rfl⟩) hHeld ?_
  simp only [Act.put, List.getElem_toArray, List.getElem_cons_zero, List.getElem_cons_succ, List.setIfInBounds_toArray, List.set_cons_zero, List.set_cons_succ]
  refine wpAnyH_take (i := 7) (v := undef) rfl (by kernel_rfl) (by kernel_rfl) (by kernel_rfl) (fun _ _ _ h => h) (Or.inr ⟨by rfl, rfl⟩) hHeld ?_
  simp only [Act.put, List.getElem_toArray, List.getElem_cons_zero, List.getElem_cons_succ, List.setIfInBounds_toArray, List.set_cons_zero, List.set_cons_succ]
  refine wpAnyH_take (i := 8) (v := undef) rfl (by kernel_rfl) (by kernel_rfl) (by kernel_rfl) (fun _ _ _ h => h) (Or.inr ⟨by rfl, rfl⟩) hHeld ?_
  simp only [Act.put, List.getElem_toArray, List.getElem_cons_zero, List.getElem_cons_succ, List.setIfInBounds_toArray, List.set_cons_zero, List.set_cons_succ]
  refine wpAnyH_take (i := 9) (v := undef) rfl (by kernel_rfl) (by kernel_rfl) (by kernel_rfl) (fun _ _ _ h => h) (Or.inr ⟨by rfl, rfl⟩) hHeld ?_
  simp only [Act.put, List.getElem_toArray, List.getElem_cons_zero, List.getElem_cons_succ, List.setIfInBounds_toArray, List.set_cons_zero, List.set_cons_succ]
  refine wpAnyH_take (i := 10) (v := undef) rfl (by kernel_rfl) (by kernel_rfl) (by kernel_rfl) (fun _ _ _ h => h) (Or.inr ⟨by rfl, rfl⟩) hHeld ?_
  simp only [Act.put, List.getElem_toArray, List.getElem_cons_zero, List.getElem_cons_succ, List.setIfInBounds_toArray, List.set_cons_zero, List.set_cons_succ]
  refine wpAnyH_take (i := 11) (v := undef) rfl (by kernel_rfl) (by kernel_rfl) (by kernel_rfl) (fun _ _ _ h => h) (Or.inr ⟨by rfl, rfl⟩) hHeld ?_
  simp only [Act.put, List.getElem_toArray, List.getElem_cons_zero, List.getElem_cons_succ, List.setIfInBounds_toArray, List.set_cons_zero, List.set_cons_succ]
  refine wpAnyH_take (i := 12) (v := undef) rfl (by kernel_rfl) (by kernel_rfl) (by kernel_rfl) (fun _ _ _ h => h) (Or.inr ⟨by rfl, rfl⟩) hHeld ?_
  simp only [Act.put, List.getElem_toArray, List.getElem_cons_zero, List.getElem_cons_succ, List.setIfInBounds_toArray, List.set_cons_zero, List.set_cons_succ]
  refine wpAnyH_take (i := 13) (v := undef) rfl (by kernel_rfl) (by kernel_rfl) (by kernel_rfl) (fun _ _ _ h => h) (Or.inr ⟨by rfl, rfl⟩) hHeld ?_
  simp only [Act.put, List.getElem_toArray, List.getElem_cons_zero, List.getElem_cons_succ, List.setIfInBounds_toArray, List.set_cons_zero, List.set_cons_succ]
  refine wpAnyH_take (i := 14) (v := undef) rfl (by kernel_rfl) (by kernel_rfl) (by kernel_rfl) (fun _ _ _ h => h) (Or.inr ⟨by rfl, rfl⟩) hHeld ?_
  simp only [Act.put, List.getElem_toArray, List.getElem_cons_zero, List.getElem_cons_succ, List.setIfInBounds_toArray, List.set_cons_zero, List.set_cons_succ]
  refine wpAnyH_take (i := 15) (v := undef) rfl (by kernel_rfl) (by kernel_rfl) (by kernel_rfl) (fun _ _ _ h => h) (Or.inr ⟨by rfl, rfl⟩) hHeld ?_
  simp only [Act.put, List.getElem_toArray, List.getElem_cons_zero, List.getElem_cons_succ, List.setIfInBounds_toArray, List.set_cons_zero, List.set_cons_succ]
  refine wpAnyH_take (i := 16) (v := undef) rfl (by kernel_rfl) (by kernel_rfl) (by kernel_rfl) (fun _ _ _ h => h) (Or.inr ⟨by rfl, rfl⟩) hHeld ?_
  simp only [Act.put, List.getElem_toArray, List.getElem_cons_zero, List.getElem_cons_succ, List.setIfInBounds_toArray, List.set_cons_zero, List.set_cons_succ]
  refine wpAnyH_take (i := 17) (v := undef) rfl (by kernel_rfl) (by kernel_rfl) (by kernel_rfl) (fun _ _ _ h => h) (Or.inr ⟨by rfl, rfl⟩) hHeld ?_
  simp only [Act.put, List.getElem_toArray, List.getElem_cons_zero, List.getElem_cons_succ, List.setIfInBounds_toArray, List.set_cons_zero, List.set_cons_succ]
  refine wpAnyH_take (i := 18) (v := .bool false) rfl (by kernel_rfl) (by kernel_rfl) (by kernel_rfl) (fun _ _ _ h => h) (Or.inl ⟨by rfl, fun w hS => by go_simp⟩) hHeld ?_
  simp only [Act.put, List.getElem_toArray, List.getElem_cons_zero, List.getElem_cons_succ, List.setIfInBounds_toArray, List.set_cons_zero, List.set_cons_succ]
  refine wpAnyH_take (i := 19) (v := .bool false) rfl (by kernel_rfl) (by kernel_rfl) (by kernel_rfl) (fun _ _ _ h => h) (Or.inl ⟨by rfl, fun w hS => by go_simp⟩) hHeld ?_
  simp only [Act.put, List.getElem_toArray, List.getElem_cons_zero, List.getElem_cons_succ, List.setIfInBounds_toArray, List.set_cons_zero, List.set_cons_succ]
  refine wpAnyH_done (by kernel_rfl) ?_ _
  go_wp2_with fail
  go_ret
  exact ⟨rfl, d0⟩

set_option maxHeartbeats 4000000 in
theorem parted_more (g off m cap : Nat) (x y : Lf) (d : Int) (b : Bool) (w : World) (hm : 2 ≤ m) (hm2 : m ≤ 4096) (h0 : w.rangeAt g off (encLf x)) (h1 : w.rangeAt g (off + (m - 1) * 129) (encLf y)) (hb : b = true ↔ Und x.key y.key d) :
    Calls Tryz.prog 152 #[.slice (some ⟨g, off, none⟩) m cap, .int .i64 d] w fun e w' => e = .returned (.bool (!b)) ∧ Below w.heap.size w w' := by
  have HU : Hid (∀ w', Calls Tryz.prog 182 #[.agg (B x.key), .agg (B y.key), .int .i64 d] w' fun e w'' => e = .returned (.bool b) ∧ Below w'.heap.size w' w'') := fun w' => under_at x.key y.key d b w' x.hk y.hk hb
  have HS : Hid (∀ w', Below w.heap.size w w' → w'.rangeAt g (off + 1) (B x.key).toList ∧ w'.rangeAt g (off + (m - 1) * 129 + 1) (B y.key).toList) := fun w' hw' => ⟨range_grow (lf_key h0) hw', range_grow (lf_key h1) hw'⟩
  have HLX : Hid ((Tryz.prog.info? 72).map (·.size) = some (B x.key).toList.length) := by show _ = _; rw [B_toList, List.length_map, x.hk.1]; exact sz_path
  have HLY : Hid ((Tryz.prog.info? 72).map (·.size) = some (B y.key).toList.length) := by show _ = _; rw [B_toList, List.length_map, y.hk.1]; exact sz_path
  obtain ⟨K, hK⟩ : ∃ K, K = x.key := ⟨_, rfl⟩
  obtain ⟨J, hJ⟩ : ∃ J, J = y.key := ⟨_, rfl⟩
  rw [← hK] at HU HS HLX
  rw [← hJ] at HU HS HLY
  obtain ⟨q, rfl⟩ : ∃ q, m = q + 1 := ⟨m - 1, by omega⟩
  rw [show q + 1 - 1 = q by omega] at HS
  have g1 : (1 : Int) < ((q + 1 : Nat) : Int) := by omega
  have g2 : decide ((1 : Int) < ((q + 1 : Nat) : Int)) = true := decide_eq_true g1
  have i0 : (0 : Int) < ((q + 1 : Nat) : Int) := by omega
  have i1 : IntKind.i64.wrap (((q + 1 : Nat) : Int) - 1) = (q : Int) := by rw [IntKind.wrap_i64]; omega
  have i2 : (q : Int) < ((q + 1 : Nat) : Int) := by omega
  have i3 : (0 : Int) ≤ (q : Int) := by omega
  have d0 : Below w.heap.size w w.drew := (Below.refl _ _).drew
  obtain ⟨m, hmm⟩ : ∃ m, m = q + 1 := ⟨_, rfl⟩
  have hm0 : ¬ m = 0 := by omega
  rw [← hmm] at g1 g2 i0 i1 i2 ⊢
  clear h0 h1 hb hK hJ hm hm2 hmm
  go_enter Tryz.func152, Tryz.ntmps152
  go_wp2_with fail
  refine wp_region_held_drew (S := fun w' => w'.rangeAt g (off + 1) (B K).toList ∧ w'.rangeAt g (off + q * 129 + 1) (B J).toList) (by kernel_rfl) (HS.out _ d0) (fun hHeld => ?_)
  refine wpAnyH_take (i := 0) (v := .slice (some ⟨g, off, none⟩) m cap) rfl (by kernel_rfl) (by kernel_rfl) (by kernel_rfl) (fun _ _ _ h => h) (Or.inl ⟨by rfl, fun w hS => by go_simp⟩) hHeld ?_
  simp only [Act.put, List.getElem_toArray, List.getElem_cons_zero, List.setIfInBounds_toArray, List.set_cons_zero, List.set_cons_succ]
  refine wpAnyH_take (i := 1) (v := .int .i64 m) rfl (by kernel_rfl) (by kernel_rfl) (by kernel_rfl) (fun _ _ _ h => h) (Or.inl ⟨by rfl, fun w hS => by go_simp⟩) hHeld ?_
  simp only [Act.put, List.getElem_toArray, List.getElem_cons_zero, List.getElem_cons_succ, List.setIfInBounds_toArray, List.set_cons_zero, List.set_cons_succ]
  refine wpAnyH_take (i := 2) (v := .bool true) rfl (by kernel_rfl) (by kernel_rfl) (by kernel_rfl) (fun _ _ _ h => h) (Or.inl ⟨by rfl, fun w hS => by go_simp⟩) hHeld ?_
  simp only [Act.put, List.getElem_toArray, List.getElem_cons_zero, List.getElem_cons_succ, List.setIfInBounds_toArray, List.set_cons_zero, List.set_cons_succ]
  refine wpAnyH_take (i := 3) (v := .bool true) rfl (by kernel_rfl) (by kernel_rfl) (by kernel_rfl) (fun _ _ _ h => h) (Or.inl ⟨by rfl, fun w hS => by go_simp⟩) hHeld ?_
  simp only [Act.put, List.getElem_toArray, List.getElem_cons_zero, List.getElem_cons_succ, List.setIfInBounds_toArray, List.set_cons_zero, List.set_cons_succ]
  refine wpAnyH_take (i := 4) (v := .slice (some ⟨g, off, none⟩) m cap) rfl (by kernel_rfl) (by kernel_rfl) (by kernel_rfl) (fun _ _ _ h => h) (Or.inl ⟨by rfl, fun w hS => by go_simp⟩) hHeld ?_
  simp only [Act.put, List.getElem_toArray, List.getElem_cons_zero, List.getElem_cons_succ, List.setIfInBounds_toArray, List.set_cons_zero, List.set_cons_succ]
  refine wpAnyH_take (i := 5) (v := .pointer (some ⟨g, off, none⟩)) rfl (by kernel_rfl) (by kernel_rfl) (by kernel_rfl) (fun _ _ _ h => h) (Or.inl ⟨by rfl, fun w hS => by go_simp⟩) hHeld ?_
  simp only [Act.put, List.getElem_toArray, List.getElem_cons_zero, List.getElem_cons_succ, List.setIfInBounds_toArray, List.set_cons_zero, List.set_cons_succ]
  refine wpAnyH_take (i := 6) (v := .pointer (some ⟨g, off + 1, none⟩)) rfl (by kernel_rfl) (by kernel_rfl) (by kernel_rfl) (fun _ _ _ h => h) (Or.inl ⟨by rfl, fun w hS => by go_simp⟩) hHeld ?_
  simp only [Act.put, List.getElem_toArray, List.getElem_cons_zero, List.getElem_cons_succ, List.setIfInBounds_toArray, List.set_cons_zero, List.set_cons_succ]
  refine wpAnyH_take (i := 7) (v := .agg (B K)) rfl (by kernel_rfl) (by kernel_rfl) (by kernel_rfl) (fun _ _ _ h => h) (yieldsIf_load_mid rfl 72 (.tmp 11) rfl g (off + 1) rfl (B K).toList _ (fun w hS => hS.1) Tryz.underlying72 rfl HLX.out) hHeld ?_
  simp only [Act.put, List.getElem_toArray, List.getElem_cons_zero, List.getElem_cons_succ, List.setIfInBounds_toArray, List.set_cons_zero, List.set_cons_succ]
  refine wpAnyH_take (i := 8) (v := .slice (some ⟨g, off, none⟩) m cap) rfl (by kernel_rfl) (by kernel_rfl) (by kernel_rfl) (fun _ _ _ h => h) (Or.inl ⟨by rfl, fun w hS => by go_simp⟩) hHeld ?_
  simp only [Act.put, List.getElem_toArray, List.getElem_cons_zero, List.getElem_cons_succ, List.setIfInBounds_toArray, List.set_cons_zero, List.set_cons_succ]
  refine wpAnyH_take (i := 9) (v := .slice (some ⟨g, off, none⟩) m cap) rfl (by kernel_rfl) (by kernel_rfl) (by kernel_rfl) (fun _ _ _ h => h) (Or.inl ⟨by rfl, fun w hS => by go_simp⟩) hHeld ?_
  simp only [Act.put, List.getElem_toArray, List.getElem_cons_zero, List.getElem_cons_succ, List.setIfInBounds_toArray, List.set_cons_zero, List.set_cons_succ]
  refine wpAnyH_take (i := 10) (v := .int .i64 m) rfl (by kernel_rfl) (by kernel_rfl) (by kernel_rfl) (fun _ _ _ h => h) (Or.inl ⟨by rfl, fun w hS => by go_simp⟩) hHeld ?_
  simp only [Act.put, List.getElem_toArray, List.getElem_cons_zero, List.getElem_cons_succ, List.setIfInBounds_toArray, List.set_cons_zero, List.set_cons_succ]
  refine wpAnyH_take (i := 11) (v := .int .i64 q) rfl (by kernel_rfl) (by kernel_rfl) (by kernel_rfl) (fun _ _ _ h => h) (Or.inl ⟨by rfl, fun w hS => by go_simp⟩) hHeld ?_
  simp only [Act.put, List.getElem_toArray, List.getElem_cons_zero, List.getElem_cons_succ, List.setIfInBounds_toArray, List.set_cons_zero, List.set_cons_succ]
  refine wpAnyH_take (i := 12) (v := .pointer (some ⟨g, off + q * 129, none⟩)) rfl (by kernel_rfl) (by kernel_rfl) (by kernel_rfl) (fun _ _ _ h => h) (Or.inl ⟨by rfl, fun w hS => by go_simp⟩) hHeld ?_
  simp only [Act.put, List.getElem_toArray, List.getElem_cons_zero, List.getElem_cons_succ, List.setIfInBounds_toArray, List.set_cons_zero, List.set_cons_succ]
  refine wpAnyH_take (i := 13) (v := .pointer (some ⟨g, off + q * 129 + 1, none⟩)) rfl (by kernel_rfl) (by kernel_rfl) (by kernel_rfl) (fun _ _ _ h => h) (Or.inl ⟨by rfl, fun w hS => by go_simp⟩) hHeld ?_
  simp only [Act.put, List.getElem_toArray, List.getElem_cons_zero, List.getElem_cons_succ, List.setIfInBounds_toArray, List.set_cons_zero, List.set_cons_succ]
  refine wpAnyH_take (i := 14) (v := .agg (B J)) rfl (by kernel_rfl) (by kernel_rfl) (by kernel_rfl) (fun _ _ _ h => h) (yieldsIf_load_mid rfl 72 (.tmp 18) rfl g (off + q * 129 + 1) rfl (B J).toList _ (fun w hS => hS.2) Tryz.underlying72 rfl HLY.out) hHeld ?_
  simp only [Act.put, List.getElem_toArray, List.getElem_cons_zero, List.getElem_cons_succ, List.setIfInBounds_toArray, List.set_cons_zero, List.set_cons_succ]
  refine wpAnyH_take (i := 15) (v := .int .i64 d) rfl (by kernel_rfl) (by kernel_rfl) (by kernel_rfl) (fun _ _ _ h => h) (Or.inl ⟨by rfl, fun w hS => by go_simp⟩) hHeld ?_
  simp only [Act.put, List.getElem_toArray, List.getElem_cons_zero, List.getElem_cons_succ, List.setIfInBounds_toArray, List.set_cons_zero, List.set_cons_succ]
  refine wpAnyH_ready (rs := [16]) (by kernel_rfl) (by simp) ?_
  refine AllReadyH.cons rfl (fun KQ hK => ?_) AllReadyH.nil
  go_simp
  refine (HU.out _).mono ?_
  rintro e x1 ⟨rfl, a1⟩
  have d1 := grow_trans d0 a1
  refine hK.out _ _ (HS.out _ d1) (fun hHeld => ?_)
  clear hK KQ
  refine wpAnyH_take (i := 17) (v := .bool (!b)) rfl (by kernel_rfl) (by kernel_rfl) (by kernel_rfl) (fun _ _ _ h => h) (Or.inl ⟨by rfl, fun w hS => by go_simp⟩) hHeld ?_
  simp only [Act.put, List.getElem_toArray, List.getElem_cons_zero, List.getElem_cons_succ, List.setIfInBounds_toArray, List.set_cons_zero, List.set_cons_succ]
  refine wpAnyH_take (i := 18) (v := .bool (!b)) rfl (by kernel_rfl) (by kernel_rfl) (by kernel_rfl) (fun _ _ _ h => h) (Or.inl ⟨by rfl, fun w hS => by go_simp⟩) hHeld ?_
  simp only [Act.put, List.getElem_toArray, List.getElem_cons_zero, List.getElem_cons_succ, List.setIfInBounds_toArray, List.set_cons_zero, List.set_cons_succ]
  refine wpAnyH_take (i := 19) (v := .bool (!b)) rfl (by kernel_rfl) (by kernel_rfl) (by kernel_rfl) (fun _ _ _ h => h) (Or.inl ⟨by rfl, fun w hS => by go_simp⟩) hHeld ?_
  simp only [Act.put, List.getElem_toArray, List.getElem_cons_zero, List.getElem_cons_succ, List.setIfInBounds_toArray, List.set_cons_zero, List.set_cons_succ]
  refine wpAnyH_done (by kernel_rfl) ?_ _
  go_wp2_with fail
  go_ret
  exact ⟨rfl, d1⟩

theorem parted_any (v : Value) (ls : List Lf) (d : Nat) (b : Bool) (w : World) (hv : LvAt w v ls) (hr : Rise ls) (hn : ls.length ≤ 4096) (hd : d ≤ 256) (hb : b = true ↔ Same ls d) :
    Calls Tryz.prog 152 #[v, .int .i64 d] w fun e w' => e = .returned (.bool (!b)) ∧ Below w.heap.size w w' := by
  obtain ⟨a, cap, rfl, hc, h⟩ := hv
  by_cases hl : ls.length ≤ 1
  · have : b = true := hb.2 (same_few hl d)
    subst this
    exact parted_few a ls.length cap d w hl
  · obtain ⟨g, off, rfl, hrr⟩ := h (by omega)
    have h0 := hrr 0 (by omega)
    rw [Nat.zero_mul, Nat.add_zero] at h0
    refine parted_more g off ls.length cap ls[0]! ls[ls.length - 1]! d b w (by omega) hn h0 (hrr (ls.length - 1) (by omega)) ?_
    rw [hb, same_ends hr (by omega) d]
    exact ⟨fun h => ⟨by omega, by omega, fun j hj => h j (by omega)⟩, fun h j hj => h.2.2 j (by omega)⟩

/-- All keys have the same first d bits. -/
def SameE (es : List Ent) (d : Nat) : Prop := ∀ a ∈ es, ∀ b ∈ es, ∀ j, j < d → kb a.1 j = kb b.1 j
theorem same_map {es : List Ent} {ls : List Lf} {d : Nat} (hk : ∀ e ∈ es, Key e.1) (hp : ls.Perm (es.map mkLf)) : Same ls d ↔ SameE es d := by
  constructor
  · intro h a ha b hb j hj
    have h1 := h (mkLf a) (hp.mem_iff.2 (List.mem_map_of_mem ha)) (mkLf b) (hp.mem_iff.2 (List.mem_map_of_mem hb)) j hj
    rwa [mkLf_key (hk a ha), mkLf_key (hk b hb)] at h1
  · intro h x hx y hy j hj
    obtain ⟨a, ha, rfl⟩ := List.mem_map.1 (hp.mem_iff.1 hx)
    obtain ⟨b, hb, rfl⟩ := List.mem_map.1 (hp.mem_iff.1 hy)
    rw [mkLf_key (hk a ha), mkLf_key (hk b hb)]
    exact h a ha b hb j hj

/-- What RootAt tells. -/
inductive RootIs (es : List Ent) (d : Int) : List Int → Int → Prop
  | out : (d < 0 ∨ 256 < d) → RootIs es d z32 2
  | bad (E : Int) : 0 ≤ d → d ≤ 256 → errB es = E → E ≠ 0 → RootIs es d z32 E
  | part : 0 ≤ d → d ≤ 256 → errB es = 0 → ¬ SameE es d.toNat → RootIs es d z32 2
  | good : 0 ≤ d → d ≤ 256 → errB es = 0 → SameE es d.toNat → RootIs es d (rt (256 - d.toNat) d.toNat es) 0

theorem RootIs.one {es : List Ent} {d : Int} {h h' : List Int} {e e' : Int} (p : RootIs es d h e) (q : RootIs es d h' e') : h = h' ∧ e = e' := by
  cases p <;> cases q <;> first | exact ⟨rfl, rfl⟩ | (exfalso; omega) | (exfalso; contradiction) | (refine ⟨rfl, ?_⟩; omega) | skip

theorem RootIs.len {es : List Ent} {d : Int} {h : List Int} {e : Int} (p : RootIs es d h e) : h.length = 32 := by
  cases p with
  | out _ => rfl
  | bad _ _ _ _ _ => rfl
  | part _ _ _ _ => rfl
  | good _ _ _ _ =>
    match hn : 256 - d.toNat, es with
    | _, [] => rw [rt_nil]; exact dig_length _
    | _, [x] => rw [rt_one]; exact dig_length _
    | 0, _ :: _ :: _ => exact dig_length _
    | n + 1, a :: b :: l => rw [rt_more n _ _ (by simp)]; exact dig_length _

set_option maxHeartbeats 2000000 in
theorem RootAt_out (v : Value) (V : Nat → Value) (es : List Ent) (d : Int) (w : World) (hv : PrAt w v V es) (hd : d < 0 ∨ 256 < d) :
    Calls Tryz.prog 106 #[v, .int .i64 d] w fun e w' => e = .returned (.tuple #[.agg (B z32), .int .i64 2]) ∧ Below w.heap.size w w' := by
  obtain ⟨a, cap, rfl, _, _, _⟩ := hv
  have HB : Hid (Tryz.prog.built 103 [] = some (B z32)) := built_hash
  by_cases h0 : d < 0
  · have t0 : decide (d < 0) = true := decide_eq_true h0
    clear hd
    go_enter Tryz.func106, Tryz.ntmps106
    go_wp2_with (first
      | ((with_reducible refine at_ald 4 ?_); refine wpList_al _ rfl _ rfl _ zero_hash ?_; intro w1 g1 hg1 hl1 B1 b1)
      | ((with_reducible refine at_bd ?_); refine wpList_bld _ rfl _ _ rfl _ (by rw [List.map_toArray]; exact HB.out) ?_)
      | ((with_reducible refine at_st 4 ?_); refine wpList_sto _ rfl _ _ _ rfl g1 _ (B z32) rfl rfl B1 (by kernel_rfl) rfl (B_one _) ?_; intro w3 B3 r3))
    exact bodyPost_ret (v := .tuple #[.agg (B z32), .int .i64 2]) (results_row_tmp rfl _ _ g1 _ _ _ _ rfl rfl B3 Tryz.underlying103 (by kernel_rfl)) rfl ⟨rfl, below_row b1 r3 hg1⟩
  · have h1 : 256 < d := by omega
    have t0 : decide (d < 0) = false := decide_eq_false h0
    have t1 : decide (256 < d) = true := decide_eq_true h1
    clear hd
    go_enter Tryz.func106, Tryz.ntmps106
    go_wp2_with (first
      | ((with_reducible refine at_ald 4 ?_); refine wpList_al _ rfl _ rfl _ zero_hash ?_; intro w1 g1 hg1 hl1 B1 b1)
      | ((with_reducible refine at_bd ?_); refine wpList_bld _ rfl _ _ rfl _ (by rw [List.map_toArray]; exact HB.out) ?_)
      | ((with_reducible refine at_st 4 ?_); refine wpList_sto _ rfl _ _ _ rfl g1 _ (B z32) rfl rfl B1 (by kernel_rfl) rfl (B_one _) ?_; intro w3 B3 r3))
    exact bodyPost_ret (v := .tuple #[.agg (B z32), .int .i64 2]) (results_row_tmp rfl _ _ g1 _ _ _ _ rfl rfl B3 Tryz.underlying103 (by kernel_rfl)) rfl ⟨rfl, below_row b1 r3 hg1⟩

set_option maxHeartbeats 2000000 in
theorem RootAt_bad (v : Value) (V : Nat → Value) (es : List Ent) (d : Nat) (w : World) (hv : PrAt w v V es) (hn : es.length ≤ 140737488355328) (hd : d ≤ 256) (hE : errB es ≠ 0) :
    Calls Tryz.prog 106 #[v, .int .i64 d] w fun e w' => e = .returned (.tuple #[.agg (B z32), .int .i64 (errB es)]) ∧ Below w.heap.size w w' := by
  have HLv : Hid (∀ w', Below w.heap.size w w' → Calls Tryz.prog 151 #[v] w' fun e w'' => e = .returned (.tuple #[.slice none 0 0, .int .i64 (errB es)]) ∧ Below w'.heap.size w' w'') := fun w' hb => leavesOf_bad v V es w' (hv.grow hb) hn hE
  obtain ⟨a, cap, rfl, _, _, _⟩ := hv
  have HB : Hid (Tryz.prog.built 103 [] = some (B z32)) := built_hash
  obtain ⟨E, hEE⟩ : ∃ E, E = errB es := ⟨_, rfl⟩
  rw [← hEE] at HLv hE ⊢
  have h1 : (E != 0) = true := by simp [hE]
  have h2 : (E == 0) = false := by simp [hE]
  have t0 : decide ((d : Int) < 0) = false := decide_eq_false (by omega)
  have t1 : decide ((256 : Int) < (d : Int)) = false := decide_eq_false (by omega)
  have u0 : ¬ (d : Int) < 0 := by omega
  have u1 : ¬ (256 : Int) < (d : Int) := by omega
  clear hEE hE hd
  go_enter Tryz.func106, Tryz.ntmps106
  go_wp2_with (first
    | ((with_reducible refine at_ald 4 ?_); refine wpList_al _ rfl _ rfl _ zero_hash ?_; intro w1 g1 hg1 hl1 B1 b1)
    | (go_at_call 151; refine (HLv.out _ b1).mono ?_; rintro e w2 ⟨rfl, b2⟩; have B2 := B1.grow b2)
    | ((with_reducible refine at_bd ?_); refine wpList_bld _ rfl _ _ rfl _ (by rw [List.map_toArray]; exact HB.out) ?_)
    | ((with_reducible refine at_st 4 ?_); refine wpList_sto _ rfl _ _ _ rfl g1 _ (B z32) rfl rfl B2 (by kernel_rfl) rfl (B_one _) ?_; intro w3 B3 r3))
  exact bodyPost_ret (v := .tuple #[.agg (B z32), .int .i64 E]) (results_row_tmp rfl _ _ g1 _ _ _ _ rfl rfl B3 Tryz.underlying103 (by kernel_rfl)) rfl ⟨rfl, below_row (grow_trans b1 b2) r3 hg1⟩

set_option maxHeartbeats 4000000 in
theorem RootAt_in (v : Value) (V : Nat → Value) (es : List Ent) (d : Nat) (b : Bool) (w : World) (hv : PrAt w v V es) (hn : es.length ≤ 4096) (hL : Laid w) (hd : d ≤ 256) (hE : errB es = 0) (hb : b = true ↔ SameE es d) :
    Calls Tryz.prog 106 #[v, .int .i64 d] w fun e w' => e = .returned (.tuple #[.agg (B (if b = true then rt (256 - d) d es else z32)), .int .i64 (if b = true then 0 else 2)]) ∧ Below w.heap.size w w' := by
  have hkeys := hv.keys
  have HL := hidden hL
  have HLv : Hid (∀ w', Below w.heap.size w w' → Calls Tryz.prog 151 #[v] w' (LvPost es w')) := fun w' hbb => leavesOf_ok v V es w' (hv.grow hbb) hn (hL.grow hbb) hE
  have HPa : Hid (∀ w' x ls, LvAt w' x ls → ls.Perm (es.map mkLf) → Rise ls → Calls Tryz.prog 152 #[x, .int .i64 d] w' fun e w'' => e = .returned (.bool (!b)) ∧ Below w'.heap.size w' w'') := fun w' x ls h1 h2 h3 => parted_any x ls d b w' h1 h3 (by rw [h2.length_eq, List.length_map]; exact hn) hd (by rw [hb, same_map hkeys h2])
  have HRt : Hid (b = true → ∀ w' x ls, LvAt w' x ls → ls.Perm (es.map mkLf) → Rise ls → Laid w' → Calls Tryz.prog 153 #[x, .int .i64 d] w' fun e w'' => e = .returned (.agg (B (rt (256 - d) d es))) ∧ Below w'.heap.size w' w'') := by
    intro hbt w' x ls h1 h2 h3 hl
    have h4 := rootAt_any (256 - d) d ls x w' (by omega) (by rw [h2.length_eq, List.length_map]; exact hn) h3 ((same_map hkeys h2).2 (hb.1 hbt)) h1 hl
    rwa [rtL_perm _ _ _ _ h2, rt_map _ _ _ (by omega) hkeys] at h4
  obtain ⟨a, cap, rfl, _, _, _⟩ := hv
  have HB : Hid (Tryz.prog.built 103 [] = some (B z32)) := built_hash
  have t0 : decide ((d : Int) < 0) = false := decide_eq_false (by omega)
  have t1 : decide ((256 : Int) < (d : Int)) = false := decide_eq_false (by omega)
  have u0 : ¬ (d : Int) < 0 := by omega
  have u1 : ¬ (256 : Int) < (d : Int) := by omega
  obtain ⟨D, hD⟩ : ∃ D, D = rt (256 - d) d es := ⟨_, rfl⟩
  have HF : Hid (b = true → (Tryz.prog.info? 103).map (·.size) = some (B D).size ∧ (B (List.replicate 32 0)).size = (B D).size) := fun hbt => hash_facts D (by
    rw [hD]
    exact (RootIs.good (es := es) (d := (d : Int)) (by omega) (by omega) hE (by simpa using hb.1 hbt)).len)
  rw [← hD] at HRt ⊢
  clear hb hE hd hD hkeys hL
  cases b with
  | false =>
    go_enter Tryz.func106, Tryz.ntmps106
    go_wp2_with (first
      | ((with_reducible refine at_ald 4 ?_); refine wpList_al _ rfl _ rfl _ zero_hash ?_; intro w1 g1 hg1 hl1 B1 b1)
      | (go_at_call 151; refine (HLv.out _ b1).mono ?_; rintro e w2 ⟨x, ls, rfl, p1, p2, p3, b2⟩; have B2 := B1.grow b2; have P1 := hidden p1; have P2 := hidden p2; have P3 := hidden p3; clear p1 p2 p3)
      | (go_at_call 152; refine (HPa.out _ _ _ P1.out P2.out P3.out).mono ?_; rintro e w3 ⟨rfl, b3⟩; have B3 := B2.grow b3)
      | ((with_reducible refine at_bd ?_); refine wpList_bld _ rfl _ _ rfl _ (by rw [List.map_toArray]; exact HB.out) ?_)
      | ((with_reducible refine at_st 4 ?_); refine wpList_sto _ rfl _ _ _ rfl g1 _ (B z32) rfl rfl B3 (by kernel_rfl) rfl (B_one _) ?_; intro w4 B4 r4))
    exact bodyPost_ret (v := .tuple #[.agg (B z32), .int .i64 2]) (results_row_tmp rfl _ _ g1 _ _ _ _ rfl rfl B4 Tryz.underlying103 (by kernel_rfl)) rfl ⟨rfl, below_row (grow_trans (grow_trans b1 b2) b3) r4 hg1⟩
  | true =>
    have HF1 := hidden (HF.out rfl)
    have HR1 := hidden (HRt.out rfl)
    clear HF HRt
    go_enter Tryz.func106, Tryz.ntmps106
    go_wp2_with (first
      | ((with_reducible refine at_ald 4 ?_); refine wpList_al _ rfl _ rfl _ zero_hash ?_; intro w1 g1 hg1 hl1 B1 b1)
      | (go_at_call 151; refine (HLv.out _ b1).mono ?_; rintro e w2 ⟨x, ls, rfl, p1, p2, p3, b2⟩; have B2 := B1.grow b2; have P1 := hidden p1; have P2 := hidden p2; have P3 := hidden p3; clear p1 p2 p3)
      | (go_at_call 152; refine (HPa.out _ _ _ P1.out P2.out P3.out).mono ?_; rintro e w3 ⟨rfl, b3⟩; have B3 := B2.grow b3; have c3 := grow_trans (grow_trans b1 b2) b3)
      | (go_at_call 153; refine (HR1.out _ _ _ (P1.out.grow b3) P2.out P3.out (HL.out.grow c3)).mono ?_; rintro e w5 ⟨rfl, b5⟩; have B5 := B3.grow b5)
      | ((with_reducible refine at_st 4 ?_); refine wpList_sto _ rfl _ _ _ rfl g1 _ (B D) rfl rfl B5 HF1.out.1 HF1.out.2 (B_one _) ?_; intro w4 B4 r4))
    exact bodyPost_ret (v := .tuple #[.agg (B D), .int .i64 0]) (results_row_tmp rfl _ _ g1 _ _ _ _ rfl rfl B4 Tryz.underlying103 HF1.out.1) rfl ⟨rfl, below_row (grow_trans c3 b5) r4 hg1⟩

end Go.Proofs.YtkhinjkcfjncgaaGreatDoor

/- node.RootAt and node.Root at any entries, as contracts. -/
namespace Go.Proofs.YtkhinjkcfjncgaaGreatDoor
set_option maxRecDepth 20000
open Go.RowKit

def RootPost (es : List Ent) (d : Int) (w : World) (e : Ending) (w' : World) : Prop := ∃ h E, e = .returned (.tuple #[.agg (B h), .int .i64 E]) ∧ RootIs es d h E ∧ Below w.heap.size w w'

theorem errB_long {es : List Ent} (h : 4096 < es.length) : errB es = 4 := by rw [errB, if_pos h]

theorem RootAt_any (v : Value) (V : Nat → Value) (es : List Ent) (d : Int) (w : World) (hv : PrAt w v V es) (hn : es.length ≤ 140737488355328) (hL : Laid w) : Calls Tryz.prog 106 #[v, .int .i64 d] w (RootPost es d w) := by
  by_cases hd : d < 0 ∨ 256 < d
  · exact (RootAt_out v V es d w hv hd).mono fun e w' ⟨h1, h2⟩ => ⟨_, _, h1, .out hd, h2⟩
  · obtain ⟨m, rfl⟩ : ∃ m : Nat, d = (m : Int) := ⟨d.toNat, by omega⟩
    by_cases hE : errB es = 0
    · have hl : es.length ≤ 4096 := by
        by_cases h : 4096 < es.length
        · rw [errB_long h] at hE
          omega
        · omega
      by_cases hs : SameE es m
      · exact (RootAt_in v V es m true w hv hl hL (by omega) hE ⟨fun _ => hs, fun _ => rfl⟩).mono fun e w' ⟨h1, h2⟩ => ⟨_, _, h1, .good (by omega) (by omega) hE (by simpa using hs), h2⟩
      · exact (RootAt_in v V es m false w hv hl hL (by omega) hE ⟨fun h => (by cases h), fun h => absurd h hs⟩).mono fun e w' ⟨h1, h2⟩ => ⟨_, _, h1, .part (by omega) (by omega) hE (by simpa using hs), h2⟩
    · exact (RootAt_bad v V es m w hv hn (by omega) hE).mono fun e w' ⟨h1, h2⟩ => ⟨_, _, h1, .bad _ (by omega) (by omega) rfl hE, h2⟩

set_option maxHeartbeats 2000000 in
theorem Root_any (v : Value) (V : Nat → Value) (es : List Ent) (w : World) (hv : PrAt w v V es) (hn : es.length ≤ 140737488355328) (hL : Laid w) : Calls Tryz.prog 50 #[v] w (RootPost es 0 w) := by
  have HR : Hid (∀ w', Below w.heap.size w w' → Calls Tryz.prog 106 #[v, .int .i64 0] w' (RootPost es 0 w')) := fun w' hb => RootAt_any v V es 0 w' (hv.grow hb) hn (hL.grow hb)
  obtain ⟨a, cap, rfl, _, _, _⟩ := hv
  clear hL
  go_enter Tryz.func50, Tryz.ntmps50
  go_wp2_with (first
    | ((with_reducible refine at_ald 2 ?_); refine wpList_al _ rfl _ rfl _ zero_hash ?_; intro w1 g1 hg1 hl1 B1 b1)
    | (go_at_call 106; refine (HR.out _ b1).mono ?_; rintro e w2 ⟨h, E, rfl, hi, b2⟩; have HI := hidden hi; have HF := hidden (hash_facts h hi.len); clear hi; have B2 := B1.grow b2)
    | ((with_reducible refine at_st 2 ?_); refine wpList_sto _ rfl _ _ _ rfl g1 _ (B h) rfl rfl B2 HF.out.1 HF.out.2 (B_one _) ?_; intro w3 B3 r3))
  exact bodyPost_ret (v := .tuple #[.agg (B h), .int .i64 E]) (results_row_tmp rfl _ _ g1 _ _ _ _ rfl rfl B3 Tryz.underlying103 HF.out.1) rfl ⟨h, E, rfl, HI.out, below_row (grow_trans b1 b2) r3 hg1⟩

end Go.Proofs.YtkhinjkcfjncgaaGreatDoor

/- audit.Sound of the root 0: the digest of no entries. -/
namespace Go.Proofs.YtkhinjkcfjncgaaGreatDoor
set_option maxRecDepth 20000
open Go.RowKit

theorem hsh12 (D : List Int) (h : D.length = 32) : (Tryz.prog.info? 103).map (·.size) = some (B D).toList.length := by rw [B_toList, List.length_map, h]; exact size_hash

theorem leaves0_any (v : Value) (a : Option Addr) (c : Nat) (w : World) : Calls Tryz.prog 49 #[v, .slice a 0 c] w fun e w' => e = .returned (.slice none 0 0) ∧ w' = w := by
  go_enter Tryz.func49, Tryz.ntmps49
  go_wp2_with fail
  refine wp_loop_rounds 1 ?_
  rw [rounds_succ]
  go_wp2
  go_ret
  exact ⟨rfl, rfl⟩
theorem entries0_any (v : Value) (a : Option Addr) (c : Nat) (w : World) : Calls Tryz.prog 51 #[v, .slice a 0 c] w fun e w' => e = .returned (.slice none 0 0) ∧ w' = w := by
  go_enter Tryz.func51, Tryz.ntmps51
  go_wp2_with fail
  refine wp_loop_rounds 1 ?_
  rw [rounds_succ]
  go_wp2
  go_ret
  exact ⟨rfl, rfl⟩

theorem rts_zero (cs : List (Nat × Ce)) : Rts cs [0] := ⟨rfl, fun _ hm h0 => absurd (List.mem_singleton.1 hm) h0⟩
theorem rch_zero {cs : List (Nat × Ce)} {P : List Nat} (h : RdA cs [0] P) : rch P = [] := by
  have no : ∀ x, ¬ Rch cs [0] x := fun x q => by
    induction q with
    | top hm h0 => exact h0 (List.mem_singleton.1 hm)
    | side _ _ _ ih => exact ih
  apply List.eq_nil_iff_forall_not_mem.2
  intro x hx
  exact no x ((h.mem x).1 hx)

set_option maxHeartbeats 4000000 in
theorem snd_zero {w : World} {v : Value} {cs : List (Nat × Ce)} (A : Au w v cs) (hL : Laid w) : Calls Tryz.prog 23 #[v, .int .i64 0] w fun e w' => e = .returned (.tuple #[.bool true, .int .i64 0]) ∧ Below w.heap.size w w' := by
  have hA := grow_alloc w (.cells #[.int .i64 0] 3)
  have HA := hidden hA
  have HLK := hidden (look_any (A.grow hA).vw A.wf A.le (.slice (some ⟨w.heap.size, 0, none⟩) 1 1) [0] ⟨_, _, rfl, fun k hk => ⟨w.heap.size, 0, rfl, by
    have hk : k < 1 := hk
    obtain rfl : k = 0 := by omega
    rw [(Blk.new w 3 #[.int .i64 0]).cell]
    rfl⟩⟩ (rts_zero cs).ok (rts_zero cs).lv)
  have HRT : Hid (∀ w', Below w.heap.size w w' → Calls Tryz.prog 50 #[.slice none 0 0] w' fun e w'' => e = .returned (.tuple #[.agg (B emD), .int .i64 0]) ∧ Below w'.heap.size w' w'') := fun w' hb => by
    refine (Root_any (.slice none 0 0) (fun _ => .slice none 0 0) [] w' ⟨none, 0, rfl, Nat.le_refl _, fun h => absurd h (Nat.lt_irrefl _), fun i hi => absurd hi (Nat.not_lt_zero _)⟩ (by simp) (hL.grow hb)).mono ?_
    rintro e w'' ⟨h, E, rfl, q1, q2⟩
    have q := q1.one (RootIs.good (es := []) (d := 0) (by omega) (by omega) rfl (fun a ha => by cases ha))
    rw [q.1, q.2, rt_nil]
    exact ⟨rfl, q2⟩
  have HDG0 : Hid (∀ w', Below w.heap.size w w' → Calls Tryz.prog 52 #[v, .int .i64 0] w' fun e w'' => e = .returned (.agg (B emD)) ∧ Below w'.heap.size w' w'') := fun w' hb => by
    have := sdig_any (A.grow hb).vw 0 (hL.grow hb)
    rwa [show vDg true (cat cs) 0 = emD from by simp [vDg]] at this
  have HLV := hidden (leaves0_any v)
  have HEN := hidden (entries0_any v none 0)
  obtain ⟨D, hD⟩ : ∃ D, D = emD := ⟨_, rfl⟩
  rw [← hD] at HRT HDG0
  have HDL : Hid (D.length = 32) := by show _ = _; rw [hD]; exact dig_length _
  have hE := hash_eq D D HDL.out HDL.out
  rw [decide_eq_true rfl] at hE
  clear A hL hA hD
  go_enter Tryz.func23, Tryz.ntmps23
  go_wp2_with (first
    | (go_at_call 32; refine HLK.out.mono ?_; rintro e w1 ⟨P, slv, bm, n, rfl, r1, o1, m1, l1, b1⟩; have e0 := rch_zero r1; rw [e0] at o1; obtain ⟨sa, sc, esl⟩ := lst_slice (owR_lst o1); subst esl; simp only [List.length_nil] at o1; have HB1 := hidden (grow_trans HA.out b1); clear r1 o1 m1 l1 b1 e0)
    | ((with_reducible refine at_ald 6 ?_); refine wpList_al _ rfl _ rfl _ zero_sv ?_; intro w2 b6 hg1 hl1 B2 q2; have HB2 := hidden B2; have HQ2 := hidden (grow_trans HB1.out q2); have HG2 := hidden (Nat.le_trans HB1.out.size hg1); clear hg1 hl1 B2 q2)
    | ((with_reducible refine at_st 6 ?_); refine wpList_sto _ rfl _ _ _ rfl b6 _ #[.slice sa 0 sc, .map (some bm)] rfl rfl HB2.out size_sv rfl (by simp [Value.oneCell']) ?_; intro w3 B3 g3; have HQ3 := hidden (below_row HQ2.out g3 HG2.out); have c0 := B3.cell 0; simp only [List.getElem?_toArray, List.getElem?_cons_zero] at c0; clear B3 g3)
    | (go_at_call 49; refine (HLV.out sa sc w3).mono ?_; rintro e w4 ⟨rfl, ew4⟩; subst ew4)
    | (go_at_call 51; refine (HEN.out _).mono ?_; rintro e w5 ⟨rfl, ew5⟩; subst ew5)
    | (go_at_call 50; refine (HRT.out _ HQ3.out).mono ?_; rintro e x4 ⟨rfl, b4⟩; have HX4 := hidden (grow_trans HQ3.out b4); clear b4)
    | ((with_reducible refine at_ald 9 ?_); refine wpList_al _ rfl _ rfl _ zero_hash ?_; intro x5 b9 hg9 hl9 B9 q9; have HB9' := hidden B9; have HX5 := hidden (grow_trans HX4.out q9); have HG9 := hidden (Nat.le_trans HX4.out.size hg9); clear hg9 hl9 B9 q9)
    | ((with_reducible refine at_st 9 ?_); refine wpList_sto _ rfl _ _ _ rfl b9 _ (B D) rfl rfl HB9'.out (by rw [B_size, HDL.out]; exact size_hash) (by rw [B_size, B_size, HDL.out, List.length_replicate]) (B_one _) ?_; intro x6 B9 g9; have HB9 := hidden B9; have HX6 := hidden (below_row HX5.out g9 HG9.out); clear B9 g9))
  have HDG : Hid (∀ w', Below x6.heap.size x6 w' → Calls Tryz.prog 52 #[v, .int .i64 0] w' fun e w'' => e = .returned (.agg (B D)) ∧ Below w'.heap.size w' w'') := fun w' hb => HDG0.out w' (grow_trans HX6.out hb)
  refine wp_region_held_drew (S := fun w' => Below x6.heap.size x6 w') (by kernel_rfl) (below_drewN (Below.refl _ _) 1) (fun hHeld => ?_)
  refine wpAnyH_take (i := 0) (v := .int .i64 0) rfl (by kernel_rfl) (by kernel_rfl) (by kernel_rfl) (fun _ _ _ h => h) (Or.inl ⟨by rfl, fun w hS => by go_simp⟩) hHeld ?_
  simp only [Act.put, List.getElem_toArray, List.getElem_cons_zero, List.setIfInBounds_toArray, List.set_cons_zero, List.set_cons_succ]
  refine wpAnyH_take (i := 1) (v := .bool true) rfl (by kernel_rfl) (by kernel_rfl) (by kernel_rfl) (fun _ _ _ h => h) (Or.inl ⟨by rfl, fun w hS => by go_simp⟩) hHeld ?_
  simp only [Act.put, List.getElem_toArray, List.getElem_cons_zero, List.getElem_cons_succ, List.setIfInBounds_toArray, List.set_cons_zero, List.set_cons_succ]
  refine wpAnyH_take (i := 2) (v := .bool true) rfl (by kernel_rfl) (by kernel_rfl) (by kernel_rfl) (fun _ _ _ h => h) (Or.inl ⟨by rfl, fun w hS => by go_simp⟩) hHeld ?_
  simp only [Act.put, List.getElem_toArray, List.getElem_cons_zero, List.getElem_cons_succ, List.setIfInBounds_toArray, List.set_cons_zero, List.set_cons_succ]
  refine wpAnyH_take (i := 3) (v := v) rfl (by kernel_rfl) (by kernel_rfl) (by kernel_rfl) (fun _ _ _ h => h) (Or.inl ⟨by rfl, fun w hS => by go_simp⟩) hHeld ?_
  simp only [Act.put, List.getElem_toArray, List.getElem_cons_zero, List.getElem_cons_succ, List.setIfInBounds_toArray, List.set_cons_zero, List.set_cons_succ]
  refine wpAnyH_take (i := 4) (v := .int .i64 0) rfl (by kernel_rfl) (by kernel_rfl) (by kernel_rfl) (fun _ _ _ h => h) (Or.inl ⟨by rfl, fun w hS => by go_simp⟩) hHeld ?_
  simp only [Act.put, List.getElem_toArray, List.getElem_cons_zero, List.getElem_cons_succ, List.setIfInBounds_toArray, List.set_cons_zero, List.set_cons_succ]
  refine wpAnyH_take (i := 6) (v := .agg (B D)) rfl (by kernel_rfl) (by kernel_rfl) (by kernel_rfl) (fun _ _ _ h => h) (yieldsIf_load_mid rfl 103 (.tmp 9) rfl b9 0 rfl (B D).toList _ (fun w hS => (HB9.out.grow hS).range) Tryz.underlying103 rfl (hsh12 D HDL.out)) hHeld ?_
  simp only [Act.put, List.getElem_toArray, List.getElem_cons_zero, List.getElem_cons_succ, List.setIfInBounds_toArray, List.set_cons_zero, List.set_cons_succ]
  refine wpAnyH_ready (rs := [5]) (by kernel_rfl) (by simp) ?_
  refine AllReadyH.cons rfl (fun KQ hK => ?_) AllReadyH.nil
  go_simp
  refine (HDG.out _ hHeld).mono ?_
  rintro e z1 ⟨rfl, a1⟩
  refine hK.out _ _ (grow_trans hHeld a1) (fun hHeld => ?_)
  clear hK KQ
  refine wpAnyH_take (i := 7) (v := .bool true) rfl (by kernel_rfl) (by kernel_rfl) (by kernel_rfl) (fun _ _ _ h => h) (Or.inl ⟨by rfl, fun w hS => by (go_simp; skip)⟩) hHeld ?_
  simp only [Act.put, List.getElem_toArray, List.getElem_cons_zero, List.getElem_cons_succ, List.setIfInBounds_toArray, List.set_cons_zero, List.set_cons_succ]
  refine wpAnyH_take (i := 8) (v := .bool true) rfl (by kernel_rfl) (by kernel_rfl) (by kernel_rfl) (fun _ _ _ h => h) (Or.inl ⟨by rfl, fun w hS => by go_simp⟩) hHeld ?_
  simp only [Act.put, List.getElem_toArray, List.getElem_cons_zero, List.getElem_cons_succ, List.setIfInBounds_toArray, List.set_cons_zero, List.set_cons_succ]
  refine wpAnyH_take (i := 9) (v := .bool true) rfl (by kernel_rfl) (by kernel_rfl) (by kernel_rfl) (fun _ _ _ h => h) (Or.inl ⟨by rfl, fun w hS => by go_simp⟩) hHeld ?_
  simp only [Act.put, List.getElem_toArray, List.getElem_cons_zero, List.getElem_cons_succ, List.setIfInBounds_toArray, List.set_cons_zero, List.set_cons_succ]
  refine wpAnyH_take (i := 10) (v := .int .i64 0) rfl (by kernel_rfl) (by kernel_rfl) (by kernel_rfl) (fun _ _ _ h => h) (Or.inl ⟨by rfl, fun w hS => by go_simp⟩) hHeld ?_
  simp only [Act.put, List.getElem_toArray, List.getElem_cons_zero, List.getElem_cons_succ, List.setIfInBounds_toArray, List.set_cons_zero, List.set_cons_succ]
  refine wpAnyH_done (by kernel_rfl) ?_ _
  go_wp2_with fail
  go_ret2
  exact ⟨rfl, grow_trans HX6.out hHeld⟩

end Go.Proofs.YtkhinjkcfjncgaaGreatDoor
