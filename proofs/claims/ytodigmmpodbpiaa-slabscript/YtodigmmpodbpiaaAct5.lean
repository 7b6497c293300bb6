/- One call of a slab beside the document's, of kind 5: Slots, Len and Room, and what was told written over. -/
import Derived.Test.YtodigmmpodbpiaaAct1
namespace Go.Proofs.Ytodigmmpodbpiaa
set_option maxRecDepth 20000
open Go.RowKit

theorem ns_own' {w : World} {base n : Nat} {v : Value} {ss : List Nat} (h : w.ownsRow base 3 1 v n (nats ss)) (hn : n = ss.length) : Ns w v (ss.map fun (s : Nat) => (s : Int)) := by
  subst hn
  exact ns_own h

theorem owns_grow {w w' : World} {base e k n : Nat} {v : Value} {xs : List Value} (h : w.ownsRow base e k v n xs) (hb : Below w.heap.size w w') : w'.ownsRow base e k v n xs :=
  h.kept (below_grown hb none) (by cases hv : v.ownBlock <;> simp)

set_option maxHeartbeats 4000000 in
theorem act5 (gs gw room : Nat) (ps : List Pl) (fr : List Nat) (ts : List Int) (cs fr2 : List Nat) (s x : Int) (X : List (Nat × Obj)) (w0 w : World) (h : Hp w0 w X gs gw room ps fr ts cs fr2) (hr : Rel ps fr ts cs fr2) : Calls Try.prog 9 #[.agg #[Value.pointer (some ⟨gs, 0, none⟩), .pointer (some ⟨gw, 0, none⟩)], .agg #[.int .i64 5, .int .i64 s, .int .i64 x]] w (ActPost w0 X gs gw room) := by
  obtain ⟨wA, hwA⟩ : ∃ y, y = (w.alloc (.cells #[Value.pointer (some ⟨gs, 0, none⟩), .pointer (some ⟨gw, 0, none⟩)] 31)).alloc (.cells #[Value.int .i64 5, .int .i64 s, .int .i64 x] 34) := ⟨_, rfl⟩
  have hh : Hp w0 wA ((w.heap.size + 1, (Obj.cells #[Value.int .i64 5, .int .i64 s, .int .i64 x] 34 (0, 0))) :: (w.heap.size, (Obj.cells #[Value.pointer (some ⟨gs, 0, none⟩), .pointer (some ⟨gw, 0, none⟩)] 31 (0, 0))) :: X) gs gw room ps fr ts cs fr2 := by
    rw [hwA]
    have := (h.hold (Obj.cells #[Value.pointer (some ⟨gs, 0, none⟩), .pointer (some ⟨gw, 0, none⟩)] 31 (0, 0))).hold (Obj.cells #[Value.int .i64 5, .int .i64 s, .int .i64 x] 34 (0, 0))
    rw [World.size_alloc] at this
    exact this
  have HC : Hid (∀ w' ps fr ts cs fr2, Hp w0 w' ((w.heap.size + 1, (Obj.cells #[Value.int .i64 5, .int .i64 s, .int .i64 x] 34 (0, 0))) :: (w.heap.size, (Obj.cells #[Value.pointer (some ⟨gs, 0, none⟩), .pointer (some ⟨gw, 0, none⟩)] 31 (0, 0))) :: X) gs gw room ps fr ts cs fr2 → w'.cell? ⟨w.heap.size, 0, none⟩ = some (.pointer (some ⟨gs, 0, none⟩)) ∧ w'.cell? ⟨w.heap.size, 1, none⟩ = some (.pointer (some ⟨gw, 0, none⟩)) ∧ w'.cell? ⟨w.heap.size + 1, 0, none⟩ = some (.int .i64 5) ∧ w'.cell? ⟨w.heap.size + 1, 1, none⟩ = some (.int .i64 s) ∧ w'.cell? ⟨w.heap.size + 1, 2, none⟩ = some (.int .i64 x)) := by
    intro w' ps fr ts cs fr2 hp
    have k1 := hp.held (g := w.heap.size + 1) (cells := #[Value.int .i64 5, .int .i64 s, .int .i64 x]) (t := 34) (by simp)
    have k2 := hp.held (g := w.heap.size) (cells := #[Value.pointer (some ⟨gs, 0, none⟩), .pointer (some ⟨gw, 0, none⟩)]) (t := 31) (by simp)
    exact ⟨by rw [k2.cell]; rfl, by rw [k2.cell]; rfl, by rw [k1.cell]; rfl, by rw [k1.cell]; rfl, by rw [k1.cell]; rfl⟩
  have HL : Hid (∀ y ∈ X, y ∈ ((w.heap.size + 1, (Obj.cells #[Value.int .i64 5, .int .i64 s, .int .i64 x] 34 (0, 0))) :: (w.heap.size, (Obj.cells #[Value.pointer (some ⟨gs, 0, none⟩), .pointer (some ⟨gw, 0, none⟩)] 31 (0, 0))) :: X)) := fun y hy => List.mem_cons_of_mem _ (List.mem_cons_of_mem _ hy)
  have HH := hidden hh
  have HR := hidden hr
  have HWA := hidden hwA
  have HI := hidden h.inv
  have hh2 := hh
  obtain ⟨vp, vf, vt, vc, vf2', hS1, hR1, _⟩ := hh2
  have HSl : Hid (∀ w', Below wA.heap.size wA w' → SlI w' gs vp vf room ps fr) := fun w' hb => hS1.mod (Mod.of_below hb []) (fun _ _ h => by cases h)
  have HRf : Hid (∀ w', Below wA.heap.size wA w' → Rf w' gw vt vc vf2' room ts cs fr2) := fun w' hb => hR1.mod (Mod.of_below hb []) (fun _ _ h => by cases h)
  have HCw : Hid (∀ w', Below wA.heap.size wA w' → w'.cell? ⟨w.heap.size, 0, none⟩ = some (.pointer (some ⟨gs, 0, none⟩)) ∧ w'.cell? ⟨w.heap.size, 1, none⟩ = some (.pointer (some ⟨gw, 0, none⟩)) ∧ w'.cell? ⟨w.heap.size + 1, 0, none⟩ = some (.int .i64 5) ∧ w'.cell? ⟨w.heap.size + 1, 1, none⟩ = some (.int .i64 s) ∧ w'.cell? ⟨w.heap.size + 1, 2, none⟩ = some (.int .i64 x)) := fun w' hb => HC.out _ _ _ _ _ _ (HH.out.grow hb)
  obtain ⟨n, hn⟩ : ∃ n, n = (slotsOf ps).length := ⟨_, rfl⟩
  have HNN := hidden hn
  have hslots : cnK cs cs.length = slotsOf ps := by rw [hr.cs]; exact cnK_map ps
  have HLs : Hid (∀ w', Below wA.heap.size wA w' → Calls Try.prog 36 #[.pointer (some ⟨gs, 0, none⟩)] w' fun e w'' => ∃ a c, e = .returned (.slice a n c) ∧ w''.ownsRow w'.heap.size 3 1 (.slice a n c) n (nats (slotsOf ps)) ∧ Below w'.heap.size w' w'') := fun w' hb => by
    have := slots_okI gs vp vf room ps fr w' (HSl.out _ hb)
    rw [← hn] at this
    exact this
  have HRs : Hid (∀ w', Below wA.heap.size wA w' → Calls Try.prog 38 #[.pointer (some ⟨gw, 0, none⟩)] w' fun e w'' => ∃ a c, e = .returned (.slice a n c) ∧ w''.ownsRow w'.heap.size 3 1 (.slice a n c) n (nats (slotsOf ps)) ∧ Below w'.heap.size w' w'') := fun w' hb => by
    have := rslots_ok gw vt vc vf2' room ts cs fr2 w' (HRf.out _ hb)
    rw [hslots, ← hn] at this
    exact this
  have HLen : Hid (∀ w', Below wA.heap.size wA w' → Calls Try.prog 39 #[.pointer (some ⟨gs, 0, none⟩)] w' fun e w'' => e = .returned (.int .i64 (n : Int)) ∧ Below w'.heap.size w' w'') := fun w' hb => by
    have := len_okI gs vp vf room ps fr w' (HSl.out _ hb)
    rw [← slots_length, ← hn] at this
    exact this
  have HRLen : Hid (∀ w', Below wA.heap.size wA w' → Calls Try.prog 40 #[.pointer (some ⟨gw, 0, none⟩)] w' fun e w'' => e = .returned (.int .i64 (n : Int)) ∧ Below w'.heap.size w' w'') := fun w' hb => by
    have := rlen_ok gw vt vc vf2' room ts cs fr2 w' (HRf.out _ hb)
    rw [hslots, ← hn] at this
    exact this
  have HRoom : Hid (∀ w', Below wA.heap.size wA w' → Calls Try.prog 21 #[.pointer (some ⟨gs, 0, none⟩)] w' fun e w'' => e = .returned (.int .i64 (room : Int)) ∧ Below w'.heap.size w' w'') := fun w' hb => same_below (room_okI gs vp vf room ps fr w' (HSl.out _ hb))
  have HRRoom : Hid (∀ w', Below wA.heap.size wA w' → Calls Try.prog 41 #[.pointer (some ⟨gw, 0, none⟩)] w' fun e w'' => e = .returned (.int .i64 (room : Int)) ∧ Below w'.heap.size w' w'') := fun w' hb => same_below (rroom_ok gw vt vc vf2' room ts cs fr2 w' (HRf.out _ hb))
  have h6 : n ≤ 65536 := by
    have h1 := HI.out.len
    have h2 := HI.out.r2
    have h3 := slotsK_le ps ps.length
    rw [hn]
    unfold slotsOf
    omega
  have HSame : Hid (∀ w' x y, Ns w' x ((slotsOf ps).map fun (s : Nat) => (s : Int)) → Ns w' y ((slotsOf ps).map fun (s : Nat) => (s : Int)) → Calls Try.prog 37 #[x, y] w' fun e w'' => e = .returned (.bool true) ∧ Below w'.heap.size w' w'') := fun w' x y hx hy => by
    have := sameInts_any x y _ _ w' hx hy (by rw [List.length_map, ← hn]; omega)
    rw [decide_eq_true rfl] at this
    exact this
  have d0 : Below wA.heap.size wA wA.drew := (Below.refl _ _).drew
  have HSd := hidden (HCw.out _ d0)
  clear hS1 hR1 hslots hn
  clear h hr hh hwA
  go_enter Try.func9, Try.ntmps9
  go_wp2_with fail
  rw [← HWA.out]
  refine wp_region_held_drew (S := fun w' => w'.cell? ⟨w.heap.size, 0, none⟩ = some (.pointer (some ⟨gs, 0, none⟩)) ∧ w'.cell? ⟨w.heap.size, 1, none⟩ = some (.pointer (some ⟨gw, 0, none⟩)) ∧ w'.cell? ⟨w.heap.size + 1, 0, none⟩ = some (.int .i64 5) ∧ w'.cell? ⟨w.heap.size + 1, 1, none⟩ = some (.int .i64 s) ∧ w'.cell? ⟨w.heap.size + 1, 2, none⟩ = some (.int .i64 x)) (by kernel_rfl) (HSd.out) (fun hHeld => ?_)
  refine wpAnyH_take (i := 0) (v := .pointer (some ⟨w.heap.size, 0, none⟩)) rfl (by kernel_rfl) (by kernel_rfl) (by kernel_rfl) (fun _ _ _ h => h) (Or.inl ⟨by rfl, fun w hS => by go_simp⟩) hHeld ?_
  simp only [Act.put, List.getElem_toArray, List.getElem_cons_zero, List.setIfInBounds_toArray, List.set_cons_zero, List.set_cons_succ]
  refine wpAnyH_take (i := 1) (v := .pointer (some ⟨gs, 0, none⟩)) rfl (by kernel_rfl) (by kernel_rfl) (by kernel_rfl) (fun _ _ _ h => h) (Or.inl ⟨by rfl, fun w hS => by (have q1 := hS.1; go_simp)⟩) hHeld ?_
  simp only [Act.put, List.getElem_toArray, List.getElem_cons_zero, List.getElem_cons_succ, List.setIfInBounds_toArray, List.set_cons_zero, List.set_cons_succ]
  refine wpAnyH_take (i := 3) (v := .pointer (some ⟨w.heap.size, 0, none⟩)) rfl (by kernel_rfl) (by kernel_rfl) (by kernel_rfl) (fun _ _ _ h => h) (Or.inl ⟨by rfl, fun w hS => by go_simp⟩) hHeld ?_
  simp only [Act.put, List.getElem_toArray, List.getElem_cons_zero, List.getElem_cons_succ, List.setIfInBounds_toArray, List.set_cons_zero, List.set_cons_succ]
  refine wpAnyH_take (i := 4) (v := .pointer (some ⟨gs, 0, none⟩)) rfl (by kernel_rfl) (by kernel_rfl) (by kernel_rfl) (fun _ _ _ h => h) (Or.inl ⟨by rfl, fun w hS => by (have q1 := hS.1; go_simp)⟩) hHeld ?_
  simp only [Act.put, List.getElem_toArray, List.getElem_cons_zero, List.getElem_cons_succ, List.setIfInBounds_toArray, List.set_cons_zero, List.set_cons_succ]
  refine wpAnyH_ready (rs := [2]) (by kernel_rfl) (by simp) ?_
  refine AllReadyH.cons rfl (fun KQ hK => ?_) AllReadyH.nil
  go_simp
  refine (HLs.out _ d0).mono ?_
  rintro e wB ⟨a, c, rfl, oB, bB'⟩
  have bB := grow_trans d0 bB'
  refine hK.out _ _ (HCw.out _ bB) (fun hHeld => ?_)
  clear hK KQ
  refine wpAnyH_ready (rs := [5]) (by kernel_rfl) (by simp) ?_
  refine AllReadyH.cons rfl (fun KQ hK => ?_) AllReadyH.nil
  go_simp
  refine (HLs.out _ bB).mono ?_
  rintro e wC ⟨a2, c2, rfl, oC, bC'⟩
  have bC := grow_trans bB bC'
  refine hK.out _ _ (HCw.out _ bC) (fun hHeld => ?_)
  clear hK KQ
  refine wpAnyH_take (i := 6) (v := .slice a n c) rfl (by kernel_rfl) (by kernel_rfl) (by kernel_rfl) (fun _ _ _ h => h) (Or.inl ⟨by rfl, fun w hS => by go_simp⟩) hHeld ?_
  simp only [Act.put, List.getElem_toArray, List.getElem_cons_zero, List.getElem_cons_succ, List.setIfInBounds_toArray, List.set_cons_zero, List.set_cons_succ]
  refine wpAnyH_take (i := 7) (v := .slice a2 n c2) rfl (by kernel_rfl) (by kernel_rfl) (by kernel_rfl) (fun _ _ _ h => h) (Or.inl ⟨by rfl, fun w hS => by go_simp⟩) hHeld ?_
  simp only [Act.put, List.getElem_toArray, List.getElem_cons_zero, List.getElem_cons_succ, List.setIfInBounds_toArray, List.set_cons_zero, List.set_cons_succ]
  refine wpAnyH_done (by kernel_rfl) ?_ _
  have gC' := bC'
  have nB : Hid (∀ w', Below wC.heap.size wC w' → Ns w' (.slice a n c) ((slotsOf ps).map fun (s : Nat) => (s : Int))) := fun w' hb => (ns_own' oB HNN.out).grow (grow_trans bC' hb)
  have nC : Hid (∀ w', Below wC.heap.size wC w' → Ns w' (.slice a2 n c2) ((slotsOf ps).map fun (s : Nat) => (s : Int))) := fun w' hb => (ns_own' oC HNN.out).grow hb
  have dC : Below wA.heap.size wA wC.drew := bC.drew
  have gC : Below wC.heap.size wC wC.drew := (Below.refl _ _).drew
  have gD := gC
  have HOB := hidden oB
  have HOC := hidden oC
  clear hHeld oB oC gC'
  go_wp2_with fail
  refine wp_region_held_drew (S := fun w' => w'.cell? ⟨w.heap.size, 0, none⟩ = some (.pointer (some ⟨gs, 0, none⟩)) ∧ w'.cell? ⟨w.heap.size, 1, none⟩ = some (.pointer (some ⟨gw, 0, none⟩)) ∧ w'.cell? ⟨w.heap.size + 1, 0, none⟩ = some (.int .i64 5) ∧ w'.cell? ⟨w.heap.size + 1, 1, none⟩ = some (.int .i64 s) ∧ w'.cell? ⟨w.heap.size + 1, 2, none⟩ = some (.int .i64 x)) (by kernel_rfl) (HCw.out _ dC) (fun hHeld => ?_)
  refine wpAnyH_take (i := 0) (v := .slice a n c) rfl (by kernel_rfl) (by kernel_rfl) (by kernel_rfl) (fun _ _ _ h => h) (Or.inl ⟨by rfl, fun w hS => by go_simp⟩) hHeld ?_
  simp only [Act.put, List.getElem_toArray, List.getElem_cons_zero, List.setIfInBounds_toArray, List.set_cons_zero, List.set_cons_succ]
  refine wpAnyH_take (i := 1) (v := .pointer (some ⟨w.heap.size, 1, none⟩)) rfl (by kernel_rfl) (by kernel_rfl) (by kernel_rfl) (fun _ _ _ h => h) (Or.inl ⟨by rfl, fun w hS => by go_simp⟩) hHeld ?_
  simp only [Act.put, List.getElem_toArray, List.getElem_cons_zero, List.getElem_cons_succ, List.setIfInBounds_toArray, List.set_cons_zero, List.set_cons_succ]
  refine wpAnyH_take (i := 2) (v := .pointer (some ⟨gw, 0, none⟩)) rfl (by kernel_rfl) (by kernel_rfl) (by kernel_rfl) (fun _ _ _ h => h) (Or.inl ⟨by rfl, fun w hS => by (have q1 := hS.2.1; go_simp)⟩) hHeld ?_
  simp only [Act.put, List.getElem_toArray, List.getElem_cons_zero, List.getElem_cons_succ, List.setIfInBounds_toArray, List.set_cons_zero, List.set_cons_succ]
  refine wpAnyH_ready (rs := [3]) (by kernel_rfl) (by simp) ?_
  refine AllReadyH.cons rfl (fun KQ hK => ?_) AllReadyH.nil
  go_simp
  refine (HRs.out _ dC).mono ?_
  rintro e wD ⟨a3, c3, rfl, oD, bD'⟩
  have bD := grow_trans dC bD'
  refine hK.out _ _ (HCw.out _ bD) (fun hHeld => ?_)
  clear hK KQ
  refine wpAnyH_ready (rs := [4]) (by kernel_rfl) (by simp) ?_
  refine AllReadyH.cons rfl (fun KQ hK => ?_) AllReadyH.nil
  go_simp
  refine (HSame.out _ _ _ (nB.out _ (grow_trans gC bD')) (ns_own' oD HNN.out)).mono ?_
  rintro e wE ⟨rfl, bE'⟩
  have bE := grow_trans bD bE'
  refine hK.out _ _ (HCw.out _ bE) (fun hHeld => ?_)
  clear hK KQ
  refine wpAnyH_take (i := 5) (v := .bool true) rfl (by kernel_rfl) (by kernel_rfl) (by kernel_rfl) (fun _ _ _ h => h) (Or.inl ⟨by rfl, fun w hS => by go_simp⟩) hHeld ?_
  simp only [Act.put, List.getElem_toArray, List.getElem_cons_zero, List.getElem_cons_succ, List.setIfInBounds_toArray, List.set_cons_zero, List.set_cons_succ]
  refine wpAnyH_take (i := 6) (v := .slice a2 n c2) rfl (by kernel_rfl) (by kernel_rfl) (by kernel_rfl) (fun _ _ _ h => h) (Or.inl ⟨by rfl, fun w hS => by go_simp⟩) hHeld ?_
  simp only [Act.put, List.getElem_toArray, List.getElem_cons_zero, List.getElem_cons_succ, List.setIfInBounds_toArray, List.set_cons_zero, List.set_cons_succ]
  refine wpAnyH_take (i := 7) (v := .slice a n c) rfl (by kernel_rfl) (by kernel_rfl) (by kernel_rfl) (fun _ _ _ h => h) (Or.inl ⟨by rfl, fun w hS => by go_simp⟩) hHeld ?_
  simp only [Act.put, List.getElem_toArray, List.getElem_cons_zero, List.getElem_cons_succ, List.setIfInBounds_toArray, List.set_cons_zero, List.set_cons_succ]
  refine wpAnyH_ready (rs := [8]) (by kernel_rfl) (by simp) ?_
  refine AllReadyH.cons rfl (fun KQ hK => ?_) AllReadyH.nil
  go_simp
  refine (HSame.out _ _ _ (nC.out _ (grow_trans gD (grow_trans bD' bE'))) (nB.out _ (grow_trans gC (grow_trans bD' bE')))).mono ?_
  rintro e wF ⟨rfl, bF'⟩
  have bF := grow_trans bE bF'
  refine hK.out _ _ (HCw.out _ bF) (fun hHeld => ?_)
  clear hK KQ
  refine wpAnyH_take (i := 9) (v := .bool true) rfl (by kernel_rfl) (by kernel_rfl) (by kernel_rfl) (fun _ _ _ h => h) (Or.inl ⟨by rfl, fun w hS => by go_simp⟩) hHeld ?_
  simp only [Act.put, List.getElem_toArray, List.getElem_cons_zero, List.getElem_cons_succ, List.setIfInBounds_toArray, List.set_cons_zero, List.set_cons_succ]
  refine wpAnyH_take (i := 10) (v := .bool true) rfl (by kernel_rfl) (by kernel_rfl) (by kernel_rfl) (fun _ _ _ h => h) (Or.inl ⟨by rfl, fun w hS => by go_simp⟩) hHeld ?_
  simp only [Act.put, List.getElem_toArray, List.getElem_cons_zero, List.getElem_cons_succ, List.setIfInBounds_toArray, List.set_cons_zero, List.set_cons_succ]
  refine wpAnyH_take (i := 11) (v := .pointer (some ⟨w.heap.size, 0, none⟩)) rfl (by kernel_rfl) (by kernel_rfl) (by kernel_rfl) (fun _ _ _ h => h) (Or.inl ⟨by rfl, fun w hS => by go_simp⟩) hHeld ?_
  simp only [Act.put, List.getElem_toArray, List.getElem_cons_zero, List.getElem_cons_succ, List.setIfInBounds_toArray, List.set_cons_zero, List.set_cons_succ]
  refine wpAnyH_take (i := 12) (v := .pointer (some ⟨gs, 0, none⟩)) rfl (by kernel_rfl) (by kernel_rfl) (by kernel_rfl) (fun _ _ _ h => h) (Or.inl ⟨by rfl, fun w hS => by (have q1 := hS.1; go_simp)⟩) hHeld ?_
  simp only [Act.put, List.getElem_toArray, List.getElem_cons_zero, List.getElem_cons_succ, List.setIfInBounds_toArray, List.set_cons_zero, List.set_cons_succ]
  refine wpAnyH_take (i := 14) (v := .pointer (some ⟨w.heap.size, 1, none⟩)) rfl (by kernel_rfl) (by kernel_rfl) (by kernel_rfl) (fun _ _ _ h => h) (Or.inl ⟨by rfl, fun w hS => by go_simp⟩) hHeld ?_
  simp only [Act.put, List.getElem_toArray, List.getElem_cons_zero, List.getElem_cons_succ, List.setIfInBounds_toArray, List.set_cons_zero, List.set_cons_succ]
  refine wpAnyH_take (i := 15) (v := .pointer (some ⟨gw, 0, none⟩)) rfl (by kernel_rfl) (by kernel_rfl) (by kernel_rfl) (fun _ _ _ h => h) (Or.inl ⟨by rfl, fun w hS => by (have q1 := hS.2.1; go_simp)⟩) hHeld ?_
  simp only [Act.put, List.getElem_toArray, List.getElem_cons_zero, List.getElem_cons_succ, List.setIfInBounds_toArray, List.set_cons_zero, List.set_cons_succ]
  refine wpAnyH_ready (rs := [13]) (by kernel_rfl) (by simp) ?_
  refine AllReadyH.cons rfl (fun KQ hK => ?_) AllReadyH.nil
  go_simp
  refine (HLen.out _ bF).mono ?_
  rintro e wG ⟨rfl, bG'⟩
  have bG := grow_trans bF bG'
  refine hK.out _ _ (HCw.out _ bG) (fun hHeld => ?_)
  clear hK KQ
  refine wpAnyH_ready (rs := [16]) (by kernel_rfl) (by simp) ?_
  refine AllReadyH.cons rfl (fun KQ hK => ?_) AllReadyH.nil
  go_simp
  refine (HRLen.out _ bG).mono ?_
  rintro e wH ⟨rfl, bH'⟩
  have bH := grow_trans bG bH'
  refine hK.out _ _ (HCw.out _ bH) (fun hHeld => ?_)
  clear hK KQ
  refine wpAnyH_take (i := 17) (v := .bool true) rfl (by kernel_rfl) (by kernel_rfl) (by kernel_rfl) (fun _ _ _ h => h) (Or.inl ⟨by rfl, fun w hS => by go_simp⟩) hHeld ?_
  simp only [Act.put, List.getElem_toArray, List.getElem_cons_zero, List.getElem_cons_succ, List.setIfInBounds_toArray, List.set_cons_zero, List.set_cons_succ]
  refine wpAnyH_take (i := 18) (v := .bool true) rfl (by kernel_rfl) (by kernel_rfl) (by kernel_rfl) (fun _ _ _ h => h) (Or.inl ⟨by rfl, fun w hS => by go_simp⟩) hHeld ?_
  simp only [Act.put, List.getElem_toArray, List.getElem_cons_zero, List.getElem_cons_succ, List.setIfInBounds_toArray, List.set_cons_zero, List.set_cons_succ]
  refine wpAnyH_take (i := 19) (v := .bool true) rfl (by kernel_rfl) (by kernel_rfl) (by kernel_rfl) (fun _ _ _ h => h) (Or.inl ⟨by rfl, fun w hS => by go_simp⟩) hHeld ?_
  simp only [Act.put, List.getElem_toArray, List.getElem_cons_zero, List.getElem_cons_succ, List.setIfInBounds_toArray, List.set_cons_zero, List.set_cons_succ]
  refine wpAnyH_take (i := 20) (v := .pointer (some ⟨w.heap.size, 0, none⟩)) rfl (by kernel_rfl) (by kernel_rfl) (by kernel_rfl) (fun _ _ _ h => h) (Or.inl ⟨by rfl, fun w hS => by go_simp⟩) hHeld ?_
  simp only [Act.put, List.getElem_toArray, List.getElem_cons_zero, List.getElem_cons_succ, List.setIfInBounds_toArray, List.set_cons_zero, List.set_cons_succ]
  refine wpAnyH_take (i := 21) (v := .pointer (some ⟨gs, 0, none⟩)) rfl (by kernel_rfl) (by kernel_rfl) (by kernel_rfl) (fun _ _ _ h => h) (Or.inl ⟨by rfl, fun w hS => by (have q1 := hS.1; go_simp)⟩) hHeld ?_
  simp only [Act.put, List.getElem_toArray, List.getElem_cons_zero, List.getElem_cons_succ, List.setIfInBounds_toArray, List.set_cons_zero, List.set_cons_succ]
  refine wpAnyH_take (i := 23) (v := .pointer (some ⟨w.heap.size, 1, none⟩)) rfl (by kernel_rfl) (by kernel_rfl) (by kernel_rfl) (fun _ _ _ h => h) (Or.inl ⟨by rfl, fun w hS => by go_simp⟩) hHeld ?_
  simp only [Act.put, List.getElem_toArray, List.getElem_cons_zero, List.getElem_cons_succ, List.setIfInBounds_toArray, List.set_cons_zero, List.set_cons_succ]
  refine wpAnyH_take (i := 24) (v := .pointer (some ⟨gw, 0, none⟩)) rfl (by kernel_rfl) (by kernel_rfl) (by kernel_rfl) (fun _ _ _ h => h) (Or.inl ⟨by rfl, fun w hS => by (have q1 := hS.2.1; go_simp)⟩) hHeld ?_
  simp only [Act.put, List.getElem_toArray, List.getElem_cons_zero, List.getElem_cons_succ, List.setIfInBounds_toArray, List.set_cons_zero, List.set_cons_succ]
  refine wpAnyH_ready (rs := [22]) (by kernel_rfl) (by simp) ?_
  refine AllReadyH.cons rfl (fun KQ hK => ?_) AllReadyH.nil
  go_simp
  refine (HRoom.out _ bH).mono ?_
  rintro e wI ⟨rfl, bI'⟩
  have bI := grow_trans bH bI'
  refine hK.out _ _ (HCw.out _ bI) (fun hHeld => ?_)
  clear hK KQ
  refine wpAnyH_ready (rs := [25]) (by kernel_rfl) (by simp) ?_
  refine AllReadyH.cons rfl (fun KQ hK => ?_) AllReadyH.nil
  go_simp
  refine (HRRoom.out _ bI).mono ?_
  rintro e wJ ⟨rfl, bJ'⟩
  have bJ := grow_trans bI bJ'
  refine hK.out _ _ (HCw.out _ bJ) (fun hHeld => ?_)
  clear hK KQ
  refine wpAnyH_take (i := 26) (v := .bool true) rfl (by kernel_rfl) (by kernel_rfl) (by kernel_rfl) (fun _ _ _ h => h) (Or.inl ⟨by rfl, fun w hS => by go_simp⟩) hHeld ?_
  simp only [Act.put, List.getElem_toArray, List.getElem_cons_zero, List.getElem_cons_succ, List.setIfInBounds_toArray, List.set_cons_zero, List.set_cons_succ]
  refine wpAnyH_take (i := 27) (v := .bool true) rfl (by kernel_rfl) (by kernel_rfl) (by kernel_rfl) (fun _ _ _ h => h) (Or.inl ⟨by rfl, fun w hS => by go_simp⟩) hHeld ?_
  simp only [Act.put, List.getElem_toArray, List.getElem_cons_zero, List.getElem_cons_succ, List.setIfInBounds_toArray, List.set_cons_zero, List.set_cons_succ]
  refine wpAnyH_take (i := 28) (v := .bool true) rfl (by kernel_rfl) (by kernel_rfl) (by kernel_rfl) (fun _ _ _ h => h) (Or.inl ⟨by rfl, fun w hS => by go_simp⟩) hHeld ?_
  simp only [Act.put, List.getElem_toArray, List.getElem_cons_zero, List.getElem_cons_succ, List.setIfInBounds_toArray, List.set_cons_zero, List.set_cons_succ]
  refine wpAnyH_done (by kernel_rfl) ?_ _
  have bCJ : Below wC.heap.size wC wJ := grow_trans gC (grow_trans bD' (grow_trans bE' (grow_trans bF' (grow_trans bG' (grow_trans bH' (grow_trans bI' bJ'))))))
  have hlB : ∀ q, (Value.slice a n c).ownBlock = some q → wA.heap.size ≤ q ∧ q < wB.heap.size := fun q hq => HOB.out.lt q hq
  have hOl : wJ.ownsRow wA.heap.size 3 1 (.slice a n c) n (nats (slotsOf ps)) := owns_grow HOB.out (grow_trans bC' bCJ)
  have hOm : wJ.ownsRow wB.heap.size 3 1 (.slice a2 n c2) n (nats (slotsOf ps)) := owns_grow HOC.out bCJ
  have HlB := hidden hlB
  have HOl : Hid (∃ ys, wJ.ownsRow wA.heap.size 3 1 (.slice a n c) n ys) := ⟨_, hOl⟩
  have HOm := hidden hOm
  have HBJ := hidden bJ
  clear bCJ hlB hOl hOm hHeld bB' bC' bD' bE' bF' bG' bH' bI' bJ' bB bC bD bE bF bG bH bI bJ gC gD dC d0 HSd HOB HOC nB nC
  go_wp2_with fail
  go_loopw [20] (fun i wr => ∃ k : Nat, k ≤ n ∧ i = .int .i64 k ∧ Hid (∃ ys, wr.ownsRow wA.heap.size 3 1 (.slice a n c) n ys) ∧ Hid (wr.ownsRow wB.heap.size 3 1 (.slice a2 n c2) n (nats (slotsOf ps))) ∧ Hid (Below wA.heap.size wA wr)) (fun i _ => n - (intOf i).toNat)
  case atStart => exact ⟨0, by omega, rfl, HOl, HOm, HBJ⟩
  case round =>
    clear HOl HOm HBJ
    obtain ⟨k, hk, rfl, HOl, HOm, hbl⟩ := hrel
    have hwk : wrap64 ((k : Int) + 1) = ((k + 1 : Nat) : Int) := by rw [Go.IntWalk.wrap64_in _ (by omega)]; rfl
    by_cases hlt : k < n
    · have i1 : (k : Int) < (n : Int) := by omega
      have i0 : (0 : Int) ≤ (k : Int) := by omega
      obtain ⟨ys, ho⟩ := HOl.out
      rcases ho.2 with ⟨_, h0⟩ | ⟨gl, cap, cur, hv, _⟩
      · omega
      · simp only [Value.slice.injEq, true_and] at hv
        obtain ⟨rfl, rfl⟩ := hv
        obtain ⟨z, cz⟩ : ∃ z, wr.cell? ⟨gl, k, none⟩ = some z := by
          rw [ho.cellAt k (by omega), List.getElem?_eq_getElem (by rw [ho.1]; omega)]
          exact ⟨_, rfl⟩
        have fz := ho.frozenAt k
        have HO := hidden ho
        clear ho
        go_wp2
        obtain ⟨g1, g2⟩ := HlB.out gl rfl
        refine ⟨⟨k + 1, by omega, by go_num, ⟨_, (HO.out.stored k (.int .i64 (-7))).1⟩, ?_, setCell_below k (.int .i64 (-7)) hbl.out g1⟩, by simp [intOf]; omega⟩
        refine HOm.out.kept (grown_setCell wr gl k (.int .i64 (-7))) ?_
        cases hq : (Value.slice a2 n c2).ownBlock with
        | none => exact .inl rfl
        | some q =>
          right
          have := (HOm.out.lt q hq).1
          intro e
          injection e with e
          omega
    · obtain rfl : k = n := by omega
      obtain ⟨p0, p1, p2, p3, p4⟩ := HCw.out _ hbl.out
      go_wp2_with (first
        | (go_at_call 38; refine (HRs.out _ hbl.out).mono ?_; rintro e wK ⟨a4, c4, rfl, oK, bK'⟩; have HOK := hidden oK; have HBK := hidden bK'; clear oK bK')
        | (go_at_call 37; refine (HSame.out _ _ _ (ns_own' (owns_grow HOm.out HBK.out) HNN.out) (ns_own' HOK.out HNN.out)).mono ?_; rintro e wL ⟨rfl, bL'⟩; have HBL := hidden bL'; clear bL'))
      go_ret
      exact ⟨rfl, _, _, _, _, _, (HH.out.grow (grow_trans hbl.out (grow_trans HBK.out HBL.out))).less HL.out, HR.out⟩

end Go.Proofs.Ytodigmmpodbpiaa
