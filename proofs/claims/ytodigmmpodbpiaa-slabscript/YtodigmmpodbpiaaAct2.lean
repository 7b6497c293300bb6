/- One call of a slab beside the document's, as a contract: kinds 1, 3, 4, 6 and others. -/
import Derived.Test.YtodigmmpodbpiaaAct1
namespace Go.Proofs.Ytodigmmpodbpiaa
set_option maxRecDepth 20000
open Go.RowKit

set_option maxHeartbeats 4000000 in
theorem act1_long (gs gw room : Nat) (ps : List Pl) (fr : List Nat) (ts : List Int) (cs fr2 : List Nat) (s x : Int) (X : List (Nat × Obj)) (w0 w : World) (h : Hp w0 w X gs gw room ps fr ts cs fr2) (hr : Rel ps fr ts cs fr2) (i : Nat) (hs : s = (i : Int) + 1) (hi : 0 < cnt ps i) (hc : cnt ps i = 1073741824) : Calls Try.prog 9 #[.agg #[Value.pointer (some ⟨gs, 0, none⟩), .pointer (some ⟨gw, 0, none⟩)], .agg #[.int .i64 1, .int .i64 s, .int .i64 x]] w (ActPost w0 X gs gw room) := by
  obtain ⟨wA, hwA⟩ : ∃ y, y = (w.alloc (.cells #[Value.pointer (some ⟨gs, 0, none⟩), .pointer (some ⟨gw, 0, none⟩)] 31)).alloc (.cells #[Value.int .i64 1, .int .i64 s, .int .i64 x] 34) := ⟨_, rfl⟩
  have hh : Hp w0 wA ((w.heap.size + 1, (Obj.cells #[Value.int .i64 1, .int .i64 s, .int .i64 x] 34 (0, 0))) :: (w.heap.size, (Obj.cells #[Value.pointer (some ⟨gs, 0, none⟩), .pointer (some ⟨gw, 0, none⟩)] 31 (0, 0))) :: X) gs gw room ps fr ts cs fr2 := by
    rw [hwA]
    have := (h.hold (Obj.cells #[Value.pointer (some ⟨gs, 0, none⟩), .pointer (some ⟨gw, 0, none⟩)] 31 (0, 0))).hold (Obj.cells #[Value.int .i64 1, .int .i64 s, .int .i64 x] 34 (0, 0))
    rw [World.size_alloc] at this
    exact this
  have HC : Hid (∀ w' ps fr ts cs fr2, Hp w0 w' ((w.heap.size + 1, (Obj.cells #[Value.int .i64 1, .int .i64 s, .int .i64 x] 34 (0, 0))) :: (w.heap.size, (Obj.cells #[Value.pointer (some ⟨gs, 0, none⟩), .pointer (some ⟨gw, 0, none⟩)] 31 (0, 0))) :: X) gs gw room ps fr ts cs fr2 → w'.cell? ⟨w.heap.size, 0, none⟩ = some (.pointer (some ⟨gs, 0, none⟩)) ∧ w'.cell? ⟨w.heap.size, 1, none⟩ = some (.pointer (some ⟨gw, 0, none⟩)) ∧ w'.cell? ⟨w.heap.size + 1, 0, none⟩ = some (.int .i64 1) ∧ w'.cell? ⟨w.heap.size + 1, 1, none⟩ = some (.int .i64 s) ∧ w'.cell? ⟨w.heap.size + 1, 2, none⟩ = some (.int .i64 x)) := by
    intro w' ps fr ts cs fr2 hp
    have k1 := hp.held (g := w.heap.size + 1) (cells := #[Value.int .i64 1, .int .i64 s, .int .i64 x]) (t := 34) (by simp)
    have k2 := hp.held (g := w.heap.size) (cells := #[Value.pointer (some ⟨gs, 0, none⟩), .pointer (some ⟨gw, 0, none⟩)]) (t := 31) (by simp)
    exact ⟨by rw [k2.cell]; rfl, by rw [k2.cell]; rfl, by rw [k1.cell]; rfl, by rw [k1.cell]; rfl, by rw [k1.cell]; rfl⟩
  have HL : Hid (∀ y ∈ X, y ∈ ((w.heap.size + 1, (Obj.cells #[Value.int .i64 1, .int .i64 s, .int .i64 x] 34 (0, 0))) :: (w.heap.size, (Obj.cells #[Value.pointer (some ⟨gs, 0, none⟩), .pointer (some ⟨gw, 0, none⟩)] 31 (0, 0))) :: X)) := fun y hy => List.mem_cons_of_mem _ (List.mem_cons_of_mem _ hy)
  have HH := hidden hh
  have HR := hidden hr
  have HWA := hidden hwA
  have HI := hidden h.inv
  have HE := hidden hs
  have HCI := hidden hi
  have HCN : Hid (0 < cn cs i) := by show 0 < cn cs i; rw [hr.cn]; exact hi
  have HCE := hidden (hr.cn i)
  have hfr := hr.fr
  subst hfr
  have HMo := hidden hc
  clear hs hi hc
  have hhd := hh.grow (w' := wA.drew) (Below.refl _ _).drew
  have HHd := hidden hhd
  have HSd := hidden (HC.out _ _ _ _ _ _ hhd)
  clear hhd
  clear h hr hh hwA
  go_enter Try.func9, Try.ntmps9
  go_wp2_with fail
  rw [← HWA.out]
  refine wp_region_held_drew (S := fun w' => w'.cell? ⟨w.heap.size, 0, none⟩ = some (.pointer (some ⟨gs, 0, none⟩)) ∧ w'.cell? ⟨w.heap.size, 1, none⟩ = some (.pointer (some ⟨gw, 0, none⟩)) ∧ w'.cell? ⟨w.heap.size + 1, 0, none⟩ = some (.int .i64 1) ∧ w'.cell? ⟨w.heap.size + 1, 1, none⟩ = some (.int .i64 s) ∧ w'.cell? ⟨w.heap.size + 1, 2, none⟩ = some (.int .i64 x)) (by kernel_rfl) (HSd.out) (fun hHeld => ?_)
  refine wpAnyH_take (i := 0) (v := .pointer (some ⟨w.heap.size, 0, none⟩)) rfl (by kernel_rfl) (by kernel_rfl) (by kernel_rfl) (fun _ _ _ h => h) (Or.inl ⟨by rfl, fun w hS => by go_simp⟩) hHeld ?_
  simp only [Act.put, List.getElem_toArray, List.getElem_cons_zero, List.setIfInBounds_toArray, List.set_cons_zero, List.set_cons_succ]
  refine wpAnyH_take (i := 1) (v := .pointer (some ⟨gs, 0, none⟩)) rfl (by kernel_rfl) (by kernel_rfl) (by kernel_rfl) (fun _ _ _ h => h) (Or.inl ⟨by rfl, fun w hS => by (have q1 := hS.1; go_simp)⟩) hHeld ?_
  simp only [Act.put, List.getElem_toArray, List.getElem_cons_zero, List.getElem_cons_succ, List.setIfInBounds_toArray, List.set_cons_zero, List.set_cons_succ]
  refine wpAnyH_take (i := 2) (v := .pointer (some ⟨w.heap.size + 1, 1, none⟩)) rfl (by kernel_rfl) (by kernel_rfl) (by kernel_rfl) (fun _ _ _ h => h) (Or.inl ⟨by rfl, fun w hS => by go_simp⟩) hHeld ?_
  simp only [Act.put, List.getElem_toArray, List.getElem_cons_zero, List.getElem_cons_succ, List.setIfInBounds_toArray, List.set_cons_zero, List.set_cons_succ]
  refine wpAnyH_take (i := 3) (v := .int .i64 s) rfl (by kernel_rfl) (by kernel_rfl) (by kernel_rfl) (fun _ _ _ h => h) (Or.inl ⟨by rfl, fun w hS => by (have q1 := hS.2.2.2.1; go_simp)⟩) hHeld ?_
  simp only [Act.put, List.getElem_toArray, List.getElem_cons_zero, List.getElem_cons_succ, List.setIfInBounds_toArray, List.set_cons_zero, List.set_cons_succ]
  refine wpAnyH_take (i := 5) (v := .pointer (some ⟨w.heap.size, 1, none⟩)) rfl (by kernel_rfl) (by kernel_rfl) (by kernel_rfl) (fun _ _ _ h => h) (Or.inl ⟨by rfl, fun w hS => by go_simp⟩) hHeld ?_
  simp only [Act.put, List.getElem_toArray, List.getElem_cons_zero, List.getElem_cons_succ, List.setIfInBounds_toArray, List.set_cons_zero, List.set_cons_succ]
  refine wpAnyH_take (i := 6) (v := .pointer (some ⟨gw, 0, none⟩)) rfl (by kernel_rfl) (by kernel_rfl) (by kernel_rfl) (fun _ _ _ h => h) (Or.inl ⟨by rfl, fun w hS => by (have q1 := hS.2.1; go_simp)⟩) hHeld ?_
  simp only [Act.put, List.getElem_toArray, List.getElem_cons_zero, List.getElem_cons_succ, List.setIfInBounds_toArray, List.set_cons_zero, List.set_cons_succ]
  refine wpAnyH_take (i := 7) (v := .pointer (some ⟨w.heap.size + 1, 1, none⟩)) rfl (by kernel_rfl) (by kernel_rfl) (by kernel_rfl) (fun _ _ _ h => h) (Or.inl ⟨by rfl, fun w hS => by go_simp⟩) hHeld ?_
  simp only [Act.put, List.getElem_toArray, List.getElem_cons_zero, List.getElem_cons_succ, List.setIfInBounds_toArray, List.set_cons_zero, List.set_cons_succ]
  refine wpAnyH_take (i := 8) (v := .int .i64 s) rfl (by kernel_rfl) (by kernel_rfl) (by kernel_rfl) (fun _ _ _ h => h) (Or.inl ⟨by rfl, fun w hS => by (have q1 := hS.2.2.2.1; go_simp)⟩) hHeld ?_
  simp only [Act.put, List.getElem_toArray, List.getElem_cons_zero, List.getElem_cons_succ, List.setIfInBounds_toArray, List.set_cons_zero, List.set_cons_succ]
  refine wpAnyH_ready (rs := [4]) (by kernel_rfl) (by simp) ?_
  refine AllReadyH.cons rfl (fun KQ hK => ?_) AllReadyH.nil
  go_simp
  refine (HHd.out.look (fun vp vf vt vc vf2 h1 h2 => same_below (hold_longI gs vp vf room ps fr2 s i _ h1 HE.out HCI.out HMo.out))).mono ?_
  rintro e wB ⟨rfl, hB⟩
  have hSB := HC.out _ _ _ _ _ _ hB
  have HB := hidden hB
  clear hB
  refine hK.out _ _ (hSB) (fun hHeld => ?_)
  clear hK KQ
  refine wpAnyH_ready (rs := [9]) (by kernel_rfl) (by simp) ?_
  refine AllReadyH.cons rfl (fun KQ hK => ?_) AllReadyH.nil
  go_simp
  refine (HB.out.look (fun vp vf vt vc vf2' h1 h2 => same_below (rhold_long gw vt vc vf2' room ts cs fr2 s i _ h2 HE.out HCN.out (by rw [HCE.out]; exact HMo.out)))).mono ?_
  rintro e wC ⟨rfl, hC⟩
  have hSC := HC.out _ _ _ _ _ _ hC
  have HCC := hidden hC
  clear hC
  refine hK.out _ _ (hSC) (fun hHeld => ?_)
  clear hK KQ
  refine wpAnyH_take (i := 10) (v := .bool true) rfl (by kernel_rfl) (by kernel_rfl) (by kernel_rfl) (fun _ _ _ h => h) (Or.inl ⟨by rfl, fun w hS => by go_simp⟩) hHeld ?_
  simp only [Act.put, List.getElem_toArray, List.getElem_cons_zero, List.getElem_cons_succ, List.setIfInBounds_toArray, List.set_cons_zero, List.set_cons_succ]
  refine wpAnyH_take (i := 11) (v := .bool true) rfl (by kernel_rfl) (by kernel_rfl) (by kernel_rfl) (fun _ _ _ h => h) (Or.inl ⟨by rfl, fun w hS => by go_simp⟩) hHeld ?_
  simp only [Act.put, List.getElem_toArray, List.getElem_cons_zero, List.getElem_cons_succ, List.setIfInBounds_toArray, List.set_cons_zero, List.set_cons_succ]
  refine wpAnyH_done (by kernel_rfl) ?_ _
  go_wp2
  go_ret
  exact ⟨rfl, _, _, _, _, _, HCC.out.less HL.out, HR.out⟩

set_option maxHeartbeats 4000000 in
theorem act1_ok (gs gw room : Nat) (ps : List Pl) (fr : List Nat) (ts : List Int) (cs fr2 : List Nat) (s x : Int) (X : List (Nat × Obj)) (w0 w : World) (h : Hp w0 w X gs gw room ps fr ts cs fr2) (hr : Rel ps fr ts cs fr2) (i : Nat) (hs : s = (i : Int) + 1) (hi : 0 < cnt ps i) (hc : cnt ps i < 1073741824) : Calls Try.prog 9 #[.agg #[Value.pointer (some ⟨gs, 0, none⟩), .pointer (some ⟨gw, 0, none⟩)], .agg #[.int .i64 1, .int .i64 s, .int .i64 x]] w (ActPost w0 X gs gw room) := by
  obtain ⟨wA, hwA⟩ : ∃ y, y = (w.alloc (.cells #[Value.pointer (some ⟨gs, 0, none⟩), .pointer (some ⟨gw, 0, none⟩)] 31)).alloc (.cells #[Value.int .i64 1, .int .i64 s, .int .i64 x] 34) := ⟨_, rfl⟩
  have hh : Hp w0 wA ((w.heap.size + 1, (Obj.cells #[Value.int .i64 1, .int .i64 s, .int .i64 x] 34 (0, 0))) :: (w.heap.size, (Obj.cells #[Value.pointer (some ⟨gs, 0, none⟩), .pointer (some ⟨gw, 0, none⟩)] 31 (0, 0))) :: X) gs gw room ps fr ts cs fr2 := by
    rw [hwA]
    have := (h.hold (Obj.cells #[Value.pointer (some ⟨gs, 0, none⟩), .pointer (some ⟨gw, 0, none⟩)] 31 (0, 0))).hold (Obj.cells #[Value.int .i64 1, .int .i64 s, .int .i64 x] 34 (0, 0))
    rw [World.size_alloc] at this
    exact this
  have HC : Hid (∀ w' ps fr ts cs fr2, Hp w0 w' ((w.heap.size + 1, (Obj.cells #[Value.int .i64 1, .int .i64 s, .int .i64 x] 34 (0, 0))) :: (w.heap.size, (Obj.cells #[Value.pointer (some ⟨gs, 0, none⟩), .pointer (some ⟨gw, 0, none⟩)] 31 (0, 0))) :: X) gs gw room ps fr ts cs fr2 → w'.cell? ⟨w.heap.size, 0, none⟩ = some (.pointer (some ⟨gs, 0, none⟩)) ∧ w'.cell? ⟨w.heap.size, 1, none⟩ = some (.pointer (some ⟨gw, 0, none⟩)) ∧ w'.cell? ⟨w.heap.size + 1, 0, none⟩ = some (.int .i64 1) ∧ w'.cell? ⟨w.heap.size + 1, 1, none⟩ = some (.int .i64 s) ∧ w'.cell? ⟨w.heap.size + 1, 2, none⟩ = some (.int .i64 x)) := by
    intro w' ps fr ts cs fr2 hp
    have k1 := hp.held (g := w.heap.size + 1) (cells := #[Value.int .i64 1, .int .i64 s, .int .i64 x]) (t := 34) (by simp)
    have k2 := hp.held (g := w.heap.size) (cells := #[Value.pointer (some ⟨gs, 0, none⟩), .pointer (some ⟨gw, 0, none⟩)]) (t := 31) (by simp)
    exact ⟨by rw [k2.cell]; rfl, by rw [k2.cell]; rfl, by rw [k1.cell]; rfl, by rw [k1.cell]; rfl, by rw [k1.cell]; rfl⟩
  have HL : Hid (∀ y ∈ X, y ∈ ((w.heap.size + 1, (Obj.cells #[Value.int .i64 1, .int .i64 s, .int .i64 x] 34 (0, 0))) :: (w.heap.size, (Obj.cells #[Value.pointer (some ⟨gs, 0, none⟩), .pointer (some ⟨gw, 0, none⟩)] 31 (0, 0))) :: X)) := fun y hy => List.mem_cons_of_mem _ (List.mem_cons_of_mem _ hy)
  have HH := hidden hh
  have HR := hidden hr
  have HWA := hidden hwA
  have HI := hidden h.inv
  have HE := hidden hs
  have HCI := hidden hi
  have HCN : Hid (0 < cn cs i) := by show 0 < cn cs i; rw [hr.cn]; exact hi
  have HCE := hidden (hr.cn i)
  have hfr := hr.fr
  subst hfr
  have HMo := hidden hc
  have HRR := hidden (hr.keep hi (cnt ps i + 1))
  clear hs hi hc
  have hhd := hh.grow (w' := wA.drew) (Below.refl _ _).drew
  have HHd := hidden hhd
  have HSd := hidden (HC.out _ _ _ _ _ _ hhd)
  clear hhd
  clear h hr hh hwA
  go_enter Try.func9, Try.ntmps9
  go_wp2_with fail
  rw [← HWA.out]
  refine wp_region_held_drew (S := fun w' => w'.cell? ⟨w.heap.size, 0, none⟩ = some (.pointer (some ⟨gs, 0, none⟩)) ∧ w'.cell? ⟨w.heap.size, 1, none⟩ = some (.pointer (some ⟨gw, 0, none⟩)) ∧ w'.cell? ⟨w.heap.size + 1, 0, none⟩ = some (.int .i64 1) ∧ w'.cell? ⟨w.heap.size + 1, 1, none⟩ = some (.int .i64 s) ∧ w'.cell? ⟨w.heap.size + 1, 2, none⟩ = some (.int .i64 x)) (by kernel_rfl) (HSd.out) (fun hHeld => ?_)
  refine wpAnyH_take (i := 0) (v := .pointer (some ⟨w.heap.size, 0, none⟩)) rfl (by kernel_rfl) (by kernel_rfl) (by kernel_rfl) (fun _ _ _ h => h) (Or.inl ⟨by rfl, fun w hS => by go_simp⟩) hHeld ?_
  simp only [Act.put, List.getElem_toArray, List.getElem_cons_zero, List.setIfInBounds_toArray, List.set_cons_zero, List.set_cons_succ]
  refine wpAnyH_take (i := 1) (v := .pointer (some ⟨gs, 0, none⟩)) rfl (by kernel_rfl) (by kernel_rfl) (by kernel_rfl) (fun _ _ _ h => h) (Or.inl ⟨by rfl, fun w hS => by (have q1 := hS.1; go_simp)⟩) hHeld ?_
  simp only [Act.put, List.getElem_toArray, List.getElem_cons_zero, List.getElem_cons_succ, List.setIfInBounds_toArray, List.set_cons_zero, List.set_cons_succ]
  refine wpAnyH_take (i := 2) (v := .pointer (some ⟨w.heap.size + 1, 1, none⟩)) rfl (by kernel_rfl) (by kernel_rfl) (by kernel_rfl) (fun _ _ _ h => h) (Or.inl ⟨by rfl, fun w hS => by go_simp⟩) hHeld ?_
  simp only [Act.put, List.getElem_toArray, List.getElem_cons_zero, List.getElem_cons_succ, List.setIfInBounds_toArray, List.set_cons_zero, List.set_cons_succ]
  refine wpAnyH_take (i := 3) (v := .int .i64 s) rfl (by kernel_rfl) (by kernel_rfl) (by kernel_rfl) (fun _ _ _ h => h) (Or.inl ⟨by rfl, fun w hS => by (have q1 := hS.2.2.2.1; go_simp)⟩) hHeld ?_
  simp only [Act.put, List.getElem_toArray, List.getElem_cons_zero, List.getElem_cons_succ, List.setIfInBounds_toArray, List.set_cons_zero, List.set_cons_succ]
  refine wpAnyH_take (i := 5) (v := .pointer (some ⟨w.heap.size, 1, none⟩)) rfl (by kernel_rfl) (by kernel_rfl) (by kernel_rfl) (fun _ _ _ h => h) (Or.inl ⟨by rfl, fun w hS => by go_simp⟩) hHeld ?_
  simp only [Act.put, List.getElem_toArray, List.getElem_cons_zero, List.getElem_cons_succ, List.setIfInBounds_toArray, List.set_cons_zero, List.set_cons_succ]
  refine wpAnyH_take (i := 6) (v := .pointer (some ⟨gw, 0, none⟩)) rfl (by kernel_rfl) (by kernel_rfl) (by kernel_rfl) (fun _ _ _ h => h) (Or.inl ⟨by rfl, fun w hS => by (have q1 := hS.2.1; go_simp)⟩) hHeld ?_
  simp only [Act.put, List.getElem_toArray, List.getElem_cons_zero, List.getElem_cons_succ, List.setIfInBounds_toArray, List.set_cons_zero, List.set_cons_succ]
  refine wpAnyH_take (i := 7) (v := .pointer (some ⟨w.heap.size + 1, 1, none⟩)) rfl (by kernel_rfl) (by kernel_rfl) (by kernel_rfl) (fun _ _ _ h => h) (Or.inl ⟨by rfl, fun w hS => by go_simp⟩) hHeld ?_
  simp only [Act.put, List.getElem_toArray, List.getElem_cons_zero, List.getElem_cons_succ, List.setIfInBounds_toArray, List.set_cons_zero, List.set_cons_succ]
  refine wpAnyH_take (i := 8) (v := .int .i64 s) rfl (by kernel_rfl) (by kernel_rfl) (by kernel_rfl) (fun _ _ _ h => h) (Or.inl ⟨by rfl, fun w hS => by (have q1 := hS.2.2.2.1; go_simp)⟩) hHeld ?_
  simp only [Act.put, List.getElem_toArray, List.getElem_cons_zero, List.getElem_cons_succ, List.setIfInBounds_toArray, List.set_cons_zero, List.set_cons_succ]
  refine wpAnyH_ready (rs := [4]) (by kernel_rfl) (by simp) ?_
  refine AllReadyH.cons rfl (fun KQ hK => ?_) AllReadyH.nil
  go_simp
  refine (HHd.out.useS (fun vp vf h1 => hold_okI gs vp vf room ps fr2 s i _ h1 HE.out HCI.out HMo.out)).mono ?_
  rintro e wB ⟨rfl, hB⟩
  have hSB := HC.out _ _ _ _ _ _ hB
  have HB := hidden hB
  clear hB
  refine hK.out _ _ (hSB) (fun hHeld => ?_)
  clear hK KQ
  refine wpAnyH_ready (rs := [9]) (by kernel_rfl) (by simp) ?_
  refine AllReadyH.cons rfl (fun KQ hK => ?_) AllReadyH.nil
  go_simp
  refine (HB.out.useR (fun vt vc vf2' h2 => rhold_ok gw vt vc vf2' room ts cs fr2 s i _ h2 HE.out HCN.out (by rw [HCE.out]; exact HMo.out))).mono ?_
  rintro e wC ⟨rfl, hC⟩
  have hSC := HC.out _ _ _ _ _ _ hC
  have HCC := hidden hC
  clear hC
  refine hK.out _ _ (hSC) (fun hHeld => ?_)
  clear hK KQ
  refine wpAnyH_take (i := 10) (v := .bool true) rfl (by kernel_rfl) (by kernel_rfl) (by kernel_rfl) (fun _ _ _ h => h) (Or.inl ⟨by rfl, fun w hS => by go_simp⟩) hHeld ?_
  simp only [Act.put, List.getElem_toArray, List.getElem_cons_zero, List.getElem_cons_succ, List.setIfInBounds_toArray, List.set_cons_zero, List.set_cons_succ]
  refine wpAnyH_take (i := 11) (v := .bool true) rfl (by kernel_rfl) (by kernel_rfl) (by kernel_rfl) (fun _ _ _ h => h) (Or.inl ⟨by rfl, fun w hS => by go_simp⟩) hHeld ?_
  simp only [Act.put, List.getElem_toArray, List.getElem_cons_zero, List.getElem_cons_succ, List.setIfInBounds_toArray, List.set_cons_zero, List.set_cons_succ]
  refine wpAnyH_done (by kernel_rfl) ?_ _
  go_wp2
  go_ret
  exact ⟨rfl, _, _, _, _, _, HCC.out.less HL.out, by rw [HCE.out]; exact HRR.out⟩

set_option maxHeartbeats 4000000 in
theorem act4_bad (gs gw room : Nat) (ps : List Pl) (fr : List Nat) (ts : List Int) (cs fr2 : List Nat) (s x : Int) (X : List (Nat × Obj)) (w0 w : World) (h : Hp w0 w X gs gw room ps fr ts cs fr2) (hr : Rel ps fr ts cs fr2) (hv : Vac ps s) : Calls Try.prog 9 #[.agg #[Value.pointer (some ⟨gs, 0, none⟩), .pointer (some ⟨gw, 0, none⟩)], .agg #[.int .i64 4, .int .i64 s, .int .i64 x]] w (ActPost w0 X gs gw room) := by
  obtain ⟨wA, hwA⟩ : ∃ y, y = (w.alloc (.cells #[Value.pointer (some ⟨gs, 0, none⟩), .pointer (some ⟨gw, 0, none⟩)] 31)).alloc (.cells #[Value.int .i64 4, .int .i64 s, .int .i64 x] 34) := ⟨_, rfl⟩
  have hh : Hp w0 wA ((w.heap.size + 1, (Obj.cells #[Value.int .i64 4, .int .i64 s, .int .i64 x] 34 (0, 0))) :: (w.heap.size, (Obj.cells #[Value.pointer (some ⟨gs, 0, none⟩), .pointer (some ⟨gw, 0, none⟩)] 31 (0, 0))) :: X) gs gw room ps fr ts cs fr2 := by
    rw [hwA]
    have := (h.hold (Obj.cells #[Value.pointer (some ⟨gs, 0, none⟩), .pointer (some ⟨gw, 0, none⟩)] 31 (0, 0))).hold (Obj.cells #[Value.int .i64 4, .int .i64 s, .int .i64 x] 34 (0, 0))
    rw [World.size_alloc] at this
    exact this
  have HC : Hid (∀ w' ps fr ts cs fr2, Hp w0 w' ((w.heap.size + 1, (Obj.cells #[Value.int .i64 4, .int .i64 s, .int .i64 x] 34 (0, 0))) :: (w.heap.size, (Obj.cells #[Value.pointer (some ⟨gs, 0, none⟩), .pointer (some ⟨gw, 0, none⟩)] 31 (0, 0))) :: X) gs gw room ps fr ts cs fr2 → w'.cell? ⟨w.heap.size, 0, none⟩ = some (.pointer (some ⟨gs, 0, none⟩)) ∧ w'.cell? ⟨w.heap.size, 1, none⟩ = some (.pointer (some ⟨gw, 0, none⟩)) ∧ w'.cell? ⟨w.heap.size + 1, 0, none⟩ = some (.int .i64 4) ∧ w'.cell? ⟨w.heap.size + 1, 1, none⟩ = some (.int .i64 s) ∧ w'.cell? ⟨w.heap.size + 1, 2, none⟩ = some (.int .i64 x)) := by
    intro w' ps fr ts cs fr2 hp
    have k1 := hp.held (g := w.heap.size + 1) (cells := #[Value.int .i64 4, .int .i64 s, .int .i64 x]) (t := 34) (by simp)
    have k2 := hp.held (g := w.heap.size) (cells := #[Value.pointer (some ⟨gs, 0, none⟩), .pointer (some ⟨gw, 0, none⟩)]) (t := 31) (by simp)
    exact ⟨by rw [k2.cell]; rfl, by rw [k2.cell]; rfl, by rw [k1.cell]; rfl, by rw [k1.cell]; rfl, by rw [k1.cell]; rfl⟩
  have HL : Hid (∀ y ∈ X, y ∈ ((w.heap.size + 1, (Obj.cells #[Value.int .i64 4, .int .i64 s, .int .i64 x] 34 (0, 0))) :: (w.heap.size, (Obj.cells #[Value.pointer (some ⟨gs, 0, none⟩), .pointer (some ⟨gw, 0, none⟩)] 31 (0, 0))) :: X)) := fun y hy => List.mem_cons_of_mem _ (List.mem_cons_of_mem _ hy)
  have HH := hidden hh
  have HR := hidden hr
  have HWA := hidden hwA
  have HI := hidden h.inv
  have HV := hidden hv
  have HVC := hidden (hr.vac hv)
  clear hv
  have hhd := hh.grow (w' := wA.drew) (Below.refl _ _).drew
  have HHd := hidden hhd
  have HSd := hidden (HC.out _ _ _ _ _ _ hhd)
  clear hhd
  clear h hr hh hwA
  go_enter Try.func9, Try.ntmps9
  go_wp2_with fail
  rw [← HWA.out]
  refine wp_region_held_drew (S := fun w' => w'.cell? ⟨w.heap.size, 0, none⟩ = some (.pointer (some ⟨gs, 0, none⟩)) ∧ w'.cell? ⟨w.heap.size, 1, none⟩ = some (.pointer (some ⟨gw, 0, none⟩)) ∧ w'.cell? ⟨w.heap.size + 1, 0, none⟩ = some (.int .i64 4) ∧ w'.cell? ⟨w.heap.size + 1, 1, none⟩ = some (.int .i64 s) ∧ w'.cell? ⟨w.heap.size + 1, 2, none⟩ = some (.int .i64 x)) (by kernel_rfl) (HSd.out) (fun hHeld => ?_)
  refine wpAnyH_take (i := 0) (v := .pointer (some ⟨w.heap.size, 0, none⟩)) rfl (by kernel_rfl) (by kernel_rfl) (by kernel_rfl) (fun _ _ _ h => h) (Or.inl ⟨by rfl, fun w hS => by go_simp⟩) hHeld ?_
  simp only [Act.put, List.getElem_toArray, List.getElem_cons_zero, List.setIfInBounds_toArray, List.set_cons_zero, List.set_cons_succ]
  refine wpAnyH_take (i := 1) (v := .pointer (some ⟨gs, 0, none⟩)) rfl (by kernel_rfl) (by kernel_rfl) (by kernel_rfl) (fun _ _ _ h => h) (Or.inl ⟨by rfl, fun w hS => by (have q1 := hS.1; go_simp)⟩) hHeld ?_
  simp only [Act.put, List.getElem_toArray, List.getElem_cons_zero, List.getElem_cons_succ, List.setIfInBounds_toArray, List.set_cons_zero, List.set_cons_succ]
  refine wpAnyH_take (i := 2) (v := .pointer (some ⟨w.heap.size + 1, 1, none⟩)) rfl (by kernel_rfl) (by kernel_rfl) (by kernel_rfl) (fun _ _ _ h => h) (Or.inl ⟨by rfl, fun w hS => by go_simp⟩) hHeld ?_
  simp only [Act.put, List.getElem_toArray, List.getElem_cons_zero, List.getElem_cons_succ, List.setIfInBounds_toArray, List.set_cons_zero, List.set_cons_succ]
  refine wpAnyH_take (i := 3) (v := .int .i64 s) rfl (by kernel_rfl) (by kernel_rfl) (by kernel_rfl) (fun _ _ _ h => h) (Or.inl ⟨by rfl, fun w hS => by (have q1 := hS.2.2.2.1; go_simp)⟩) hHeld ?_
  simp only [Act.put, List.getElem_toArray, List.getElem_cons_zero, List.getElem_cons_succ, List.setIfInBounds_toArray, List.set_cons_zero, List.set_cons_succ]
  refine wpAnyH_take (i := 4) (v := .pointer (some ⟨w.heap.size + 1, 2, none⟩)) rfl (by kernel_rfl) (by kernel_rfl) (by kernel_rfl) (fun _ _ _ h => h) (Or.inl ⟨by rfl, fun w hS => by go_simp⟩) hHeld ?_
  simp only [Act.put, List.getElem_toArray, List.getElem_cons_zero, List.getElem_cons_succ, List.setIfInBounds_toArray, List.set_cons_zero, List.set_cons_succ]
  refine wpAnyH_take (i := 5) (v := .int .i64 x) rfl (by kernel_rfl) (by kernel_rfl) (by kernel_rfl) (fun _ _ _ h => h) (Or.inl ⟨by rfl, fun w hS => by (have q1 := hS.2.2.2.2; go_simp)⟩) hHeld ?_
  simp only [Act.put, List.getElem_toArray, List.getElem_cons_zero, List.getElem_cons_succ, List.setIfInBounds_toArray, List.set_cons_zero, List.set_cons_succ]
  refine wpAnyH_take (i := 7) (v := .pointer (some ⟨w.heap.size, 1, none⟩)) rfl (by kernel_rfl) (by kernel_rfl) (by kernel_rfl) (fun _ _ _ h => h) (Or.inl ⟨by rfl, fun w hS => by go_simp⟩) hHeld ?_
  simp only [Act.put, List.getElem_toArray, List.getElem_cons_zero, List.getElem_cons_succ, List.setIfInBounds_toArray, List.set_cons_zero, List.set_cons_succ]
  refine wpAnyH_take (i := 8) (v := .pointer (some ⟨gw, 0, none⟩)) rfl (by kernel_rfl) (by kernel_rfl) (by kernel_rfl) (fun _ _ _ h => h) (Or.inl ⟨by rfl, fun w hS => by (have q1 := hS.2.1; go_simp)⟩) hHeld ?_
  simp only [Act.put, List.getElem_toArray, List.getElem_cons_zero, List.getElem_cons_succ, List.setIfInBounds_toArray, List.set_cons_zero, List.set_cons_succ]
  refine wpAnyH_take (i := 9) (v := .pointer (some ⟨w.heap.size + 1, 1, none⟩)) rfl (by kernel_rfl) (by kernel_rfl) (by kernel_rfl) (fun _ _ _ h => h) (Or.inl ⟨by rfl, fun w hS => by go_simp⟩) hHeld ?_
  simp only [Act.put, List.getElem_toArray, List.getElem_cons_zero, List.getElem_cons_succ, List.setIfInBounds_toArray, List.set_cons_zero, List.set_cons_succ]
  refine wpAnyH_take (i := 10) (v := .int .i64 s) rfl (by kernel_rfl) (by kernel_rfl) (by kernel_rfl) (fun _ _ _ h => h) (Or.inl ⟨by rfl, fun w hS => by (have q1 := hS.2.2.2.1; go_simp)⟩) hHeld ?_
  simp only [Act.put, List.getElem_toArray, List.getElem_cons_zero, List.getElem_cons_succ, List.setIfInBounds_toArray, List.set_cons_zero, List.set_cons_succ]
  refine wpAnyH_take (i := 11) (v := .pointer (some ⟨w.heap.size + 1, 2, none⟩)) rfl (by kernel_rfl) (by kernel_rfl) (by kernel_rfl) (fun _ _ _ h => h) (Or.inl ⟨by rfl, fun w hS => by go_simp⟩) hHeld ?_
  simp only [Act.put, List.getElem_toArray, List.getElem_cons_zero, List.getElem_cons_succ, List.setIfInBounds_toArray, List.set_cons_zero, List.set_cons_succ]
  refine wpAnyH_take (i := 12) (v := .int .i64 x) rfl (by kernel_rfl) (by kernel_rfl) (by kernel_rfl) (fun _ _ _ h => h) (Or.inl ⟨by rfl, fun w hS => by (have q1 := hS.2.2.2.2; go_simp)⟩) hHeld ?_
  simp only [Act.put, List.getElem_toArray, List.getElem_cons_zero, List.getElem_cons_succ, List.setIfInBounds_toArray, List.set_cons_zero, List.set_cons_succ]
  refine wpAnyH_ready (rs := [6]) (by kernel_rfl) (by simp) ?_
  refine AllReadyH.cons rfl (fun KQ hK => ?_) AllReadyH.nil
  go_simp
  refine (HHd.out.look (fun vp vf vt vc vf2 h1 h2 => same_below (set_badI gs vp vf room ps fr s x _ h1 HV.out))).mono ?_
  rintro e wB ⟨rfl, hB⟩
  have hSB := HC.out _ _ _ _ _ _ hB
  have HB := hidden hB
  clear hB
  refine hK.out _ _ (hSB) (fun hHeld => ?_)
  clear hK KQ
  refine wpAnyH_ready (rs := [13]) (by kernel_rfl) (by simp) ?_
  refine AllReadyH.cons rfl (fun KQ hK => ?_) AllReadyH.nil
  go_simp
  refine (HB.out.look (fun vp vf vt vc vf2' h1 h2 => same_below (rset_bad gw vt vc vf2' room ts cs fr2 s x _ h2 HVC.out))).mono ?_
  rintro e wC ⟨rfl, hC⟩
  have hSC := HC.out _ _ _ _ _ _ hC
  have HCC := hidden hC
  clear hC
  refine hK.out _ _ (hSC) (fun hHeld => ?_)
  clear hK KQ
  refine wpAnyH_take (i := 14) (v := .bool true) rfl (by kernel_rfl) (by kernel_rfl) (by kernel_rfl) (fun _ _ _ h => h) (Or.inl ⟨by rfl, fun w hS => by go_simp⟩) hHeld ?_
  simp only [Act.put, List.getElem_toArray, List.getElem_cons_zero, List.getElem_cons_succ, List.setIfInBounds_toArray, List.set_cons_zero, List.set_cons_succ]
  refine wpAnyH_take (i := 15) (v := .bool true) rfl (by kernel_rfl) (by kernel_rfl) (by kernel_rfl) (fun _ _ _ h => h) (Or.inl ⟨by rfl, fun w hS => by go_simp⟩) hHeld ?_
  simp only [Act.put, List.getElem_toArray, List.getElem_cons_zero, List.getElem_cons_succ, List.setIfInBounds_toArray, List.set_cons_zero, List.set_cons_succ]
  refine wpAnyH_done (by kernel_rfl) ?_ _
  go_wp2
  go_ret
  exact ⟨rfl, _, _, _, _, _, HCC.out.less HL.out, HR.out⟩

set_option maxHeartbeats 4000000 in
theorem act4_ok (gs gw room : Nat) (ps : List Pl) (fr : List Nat) (ts : List Int) (cs fr2 : List Nat) (s x : Int) (X : List (Nat × Obj)) (w0 w : World) (h : Hp w0 w X gs gw room ps fr ts cs fr2) (hr : Rel ps fr ts cs fr2) (i : Nat) (hs : s = (i : Int) + 1) (hi : 0 < cnt ps i) : Calls Try.prog 9 #[.agg #[Value.pointer (some ⟨gs, 0, none⟩), .pointer (some ⟨gw, 0, none⟩)], .agg #[.int .i64 4, .int .i64 s, .int .i64 x]] w (ActPost w0 X gs gw room) := by
  obtain ⟨wA, hwA⟩ : ∃ y, y = (w.alloc (.cells #[Value.pointer (some ⟨gs, 0, none⟩), .pointer (some ⟨gw, 0, none⟩)] 31)).alloc (.cells #[Value.int .i64 4, .int .i64 s, .int .i64 x] 34) := ⟨_, rfl⟩
  have hh : Hp w0 wA ((w.heap.size + 1, (Obj.cells #[Value.int .i64 4, .int .i64 s, .int .i64 x] 34 (0, 0))) :: (w.heap.size, (Obj.cells #[Value.pointer (some ⟨gs, 0, none⟩), .pointer (some ⟨gw, 0, none⟩)] 31 (0, 0))) :: X) gs gw room ps fr ts cs fr2 := by
    rw [hwA]
    have := (h.hold (Obj.cells #[Value.pointer (some ⟨gs, 0, none⟩), .pointer (some ⟨gw, 0, none⟩)] 31 (0, 0))).hold (Obj.cells #[Value.int .i64 4, .int .i64 s, .int .i64 x] 34 (0, 0))
    rw [World.size_alloc] at this
    exact this
  have HC : Hid (∀ w' ps fr ts cs fr2, Hp w0 w' ((w.heap.size + 1, (Obj.cells #[Value.int .i64 4, .int .i64 s, .int .i64 x] 34 (0, 0))) :: (w.heap.size, (Obj.cells #[Value.pointer (some ⟨gs, 0, none⟩), .pointer (some ⟨gw, 0, none⟩)] 31 (0, 0))) :: X) gs gw room ps fr ts cs fr2 → w'.cell? ⟨w.heap.size, 0, none⟩ = some (.pointer (some ⟨gs, 0, none⟩)) ∧ w'.cell? ⟨w.heap.size, 1, none⟩ = some (.pointer (some ⟨gw, 0, none⟩)) ∧ w'.cell? ⟨w.heap.size + 1, 0, none⟩ = some (.int .i64 4) ∧ w'.cell? ⟨w.heap.size + 1, 1, none⟩ = some (.int .i64 s) ∧ w'.cell? ⟨w.heap.size + 1, 2, none⟩ = some (.int .i64 x)) := by
    intro w' ps fr ts cs fr2 hp
    have k1 := hp.held (g := w.heap.size + 1) (cells := #[Value.int .i64 4, .int .i64 s, .int .i64 x]) (t := 34) (by simp)
    have k2 := hp.held (g := w.heap.size) (cells := #[Value.pointer (some ⟨gs, 0, none⟩), .pointer (some ⟨gw, 0, none⟩)]) (t := 31) (by simp)
    exact ⟨by rw [k2.cell]; rfl, by rw [k2.cell]; rfl, by rw [k1.cell]; rfl, by rw [k1.cell]; rfl, by rw [k1.cell]; rfl⟩
  have HL : Hid (∀ y ∈ X, y ∈ ((w.heap.size + 1, (Obj.cells #[Value.int .i64 4, .int .i64 s, .int .i64 x] 34 (0, 0))) :: (w.heap.size, (Obj.cells #[Value.pointer (some ⟨gs, 0, none⟩), .pointer (some ⟨gw, 0, none⟩)] 31 (0, 0))) :: X)) := fun y hy => List.mem_cons_of_mem _ (List.mem_cons_of_mem _ hy)
  have HH := hidden hh
  have HR := hidden hr
  have HWA := hidden hwA
  have HI := hidden h.inv
  have HE := hidden hs
  have HCI := hidden hi
  have HCN : Hid (0 < cn cs i) := by show 0 < cn cs i; rw [hr.cn]; exact hi
  have HCE := hidden (hr.cn i)
  have hfr := hr.fr
  subst hfr
  have HRR := hidden (hr.put hi x)
  clear hs hi
  have hhd := hh.grow (w' := wA.drew) (Below.refl _ _).drew
  have HHd := hidden hhd
  have HSd := hidden (HC.out _ _ _ _ _ _ hhd)
  clear hhd
  clear h hr hh hwA
  go_enter Try.func9, Try.ntmps9
  go_wp2_with fail
  rw [← HWA.out]
  refine wp_region_held_drew (S := fun w' => w'.cell? ⟨w.heap.size, 0, none⟩ = some (.pointer (some ⟨gs, 0, none⟩)) ∧ w'.cell? ⟨w.heap.size, 1, none⟩ = some (.pointer (some ⟨gw, 0, none⟩)) ∧ w'.cell? ⟨w.heap.size + 1, 0, none⟩ = some (.int .i64 4) ∧ w'.cell? ⟨w.heap.size + 1, 1, none⟩ = some (.int .i64 s) ∧ w'.cell? ⟨w.heap.size + 1, 2, none⟩ = some (.int .i64 x)) (by kernel_rfl) (HSd.out) (fun hHeld => ?_)
  refine wpAnyH_take (i := 0) (v := .pointer (some ⟨w.heap.size, 0, none⟩)) rfl (by kernel_rfl) (by kernel_rfl) (by kernel_rfl) (fun _ _ _ h => h) (Or.inl ⟨by rfl, fun w hS => by go_simp⟩) hHeld ?_
  simp only [Act.put, List.getElem_toArray, List.getElem_cons_zero, List.setIfInBounds_toArray, List.set_cons_zero, List.set_cons_succ]
  refine wpAnyH_take (i := 1) (v := .pointer (some ⟨gs, 0, none⟩)) rfl (by kernel_rfl) (by kernel_rfl) (by kernel_rfl) (fun _ _ _ h => h) (Or.inl ⟨by rfl, fun w hS => by (have q1 := hS.1; go_simp)⟩) hHeld ?_
  simp only [Act.put, List.getElem_toArray, List.getElem_cons_zero, List.getElem_cons_succ, List.setIfInBounds_toArray, List.set_cons_zero, List.set_cons_succ]
  refine wpAnyH_take (i := 2) (v := .pointer (some ⟨w.heap.size + 1, 1, none⟩)) rfl (by kernel_rfl) (by kernel_rfl) (by kernel_rfl) (fun _ _ _ h => h) (Or.inl ⟨by rfl, fun w hS => by go_simp⟩) hHeld ?_
  simp only [Act.put, List.getElem_toArray, List.getElem_cons_zero, List.getElem_cons_succ, List.setIfInBounds_toArray, List.set_cons_zero, List.set_cons_succ]
  refine wpAnyH_take (i := 3) (v := .int .i64 s) rfl (by kernel_rfl) (by kernel_rfl) (by kernel_rfl) (fun _ _ _ h => h) (Or.inl ⟨by rfl, fun w hS => by (have q1 := hS.2.2.2.1; go_simp)⟩) hHeld ?_
  simp only [Act.put, List.getElem_toArray, List.getElem_cons_zero, List.getElem_cons_succ, List.setIfInBounds_toArray, List.set_cons_zero, List.set_cons_succ]
  refine wpAnyH_take (i := 4) (v := .pointer (some ⟨w.heap.size + 1, 2, none⟩)) rfl (by kernel_rfl) (by kernel_rfl) (by kernel_rfl) (fun _ _ _ h => h) (Or.inl ⟨by rfl, fun w hS => by go_simp⟩) hHeld ?_
  simp only [Act.put, List.getElem_toArray, List.getElem_cons_zero, List.getElem_cons_succ, List.setIfInBounds_toArray, List.set_cons_zero, List.set_cons_succ]
  refine wpAnyH_take (i := 5) (v := .int .i64 x) rfl (by kernel_rfl) (by kernel_rfl) (by kernel_rfl) (fun _ _ _ h => h) (Or.inl ⟨by rfl, fun w hS => by (have q1 := hS.2.2.2.2; go_simp)⟩) hHeld ?_
  simp only [Act.put, List.getElem_toArray, List.getElem_cons_zero, List.getElem_cons_succ, List.setIfInBounds_toArray, List.set_cons_zero, List.set_cons_succ]
  refine wpAnyH_take (i := 7) (v := .pointer (some ⟨w.heap.size, 1, none⟩)) rfl (by kernel_rfl) (by kernel_rfl) (by kernel_rfl) (fun _ _ _ h => h) (Or.inl ⟨by rfl, fun w hS => by go_simp⟩) hHeld ?_
  simp only [Act.put, List.getElem_toArray, List.getElem_cons_zero, List.getElem_cons_succ, List.setIfInBounds_toArray, List.set_cons_zero, List.set_cons_succ]
  refine wpAnyH_take (i := 8) (v := .pointer (some ⟨gw, 0, none⟩)) rfl (by kernel_rfl) (by kernel_rfl) (by kernel_rfl) (fun _ _ _ h => h) (Or.inl ⟨by rfl, fun w hS => by (have q1 := hS.2.1; go_simp)⟩) hHeld ?_
  simp only [Act.put, List.getElem_toArray, List.getElem_cons_zero, List.getElem_cons_succ, List.setIfInBounds_toArray, List.set_cons_zero, List.set_cons_succ]
  refine wpAnyH_take (i := 9) (v := .pointer (some ⟨w.heap.size + 1, 1, none⟩)) rfl (by kernel_rfl) (by kernel_rfl) (by kernel_rfl) (fun _ _ _ h => h) (Or.inl ⟨by rfl, fun w hS => by go_simp⟩) hHeld ?_
  simp only [Act.put, List.getElem_toArray, List.getElem_cons_zero, List.getElem_cons_succ, List.setIfInBounds_toArray, List.set_cons_zero, List.set_cons_succ]
  refine wpAnyH_take (i := 10) (v := .int .i64 s) rfl (by kernel_rfl) (by kernel_rfl) (by kernel_rfl) (fun _ _ _ h => h) (Or.inl ⟨by rfl, fun w hS => by (have q1 := hS.2.2.2.1; go_simp)⟩) hHeld ?_
  simp only [Act.put, List.getElem_toArray, List.getElem_cons_zero, List.getElem_cons_succ, List.setIfInBounds_toArray, List.set_cons_zero, List.set_cons_succ]
  refine wpAnyH_take (i := 11) (v := .pointer (some ⟨w.heap.size + 1, 2, none⟩)) rfl (by kernel_rfl) (by kernel_rfl) (by kernel_rfl) (fun _ _ _ h => h) (Or.inl ⟨by rfl, fun w hS => by go_simp⟩) hHeld ?_
  simp only [Act.put, List.getElem_toArray, List.getElem_cons_zero, List.getElem_cons_succ, List.setIfInBounds_toArray, List.set_cons_zero, List.set_cons_succ]
  refine wpAnyH_take (i := 12) (v := .int .i64 x) rfl (by kernel_rfl) (by kernel_rfl) (by kernel_rfl) (fun _ _ _ h => h) (Or.inl ⟨by rfl, fun w hS => by (have q1 := hS.2.2.2.2; go_simp)⟩) hHeld ?_
  simp only [Act.put, List.getElem_toArray, List.getElem_cons_zero, List.getElem_cons_succ, List.setIfInBounds_toArray, List.set_cons_zero, List.set_cons_succ]
  refine wpAnyH_ready (rs := [6]) (by kernel_rfl) (by simp) ?_
  refine AllReadyH.cons rfl (fun KQ hK => ?_) AllReadyH.nil
  go_simp
  refine (HHd.out.useS (fun vp vf h1 => set_okI gs vp vf room ps fr2 s i x _ h1 HE.out HCI.out)).mono ?_
  rintro e wB ⟨rfl, hB⟩
  have hSB := HC.out _ _ _ _ _ _ hB
  have HB := hidden hB
  clear hB
  refine hK.out _ _ (hSB) (fun hHeld => ?_)
  clear hK KQ
  refine wpAnyH_ready (rs := [13]) (by kernel_rfl) (by simp) ?_
  refine AllReadyH.cons rfl (fun KQ hK => ?_) AllReadyH.nil
  go_simp
  refine (HB.out.useR (fun vt vc vf2' h2 => rset_ok gw vt vc vf2' room ts cs fr2 s i x _ h2 HE.out HCN.out)).mono ?_
  rintro e wC ⟨rfl, hC⟩
  have hSC := HC.out _ _ _ _ _ _ hC
  have HCC := hidden hC
  clear hC
  refine hK.out _ _ (hSC) (fun hHeld => ?_)
  clear hK KQ
  refine wpAnyH_take (i := 14) (v := .bool true) rfl (by kernel_rfl) (by kernel_rfl) (by kernel_rfl) (fun _ _ _ h => h) (Or.inl ⟨by rfl, fun w hS => by go_simp⟩) hHeld ?_
  simp only [Act.put, List.getElem_toArray, List.getElem_cons_zero, List.getElem_cons_succ, List.setIfInBounds_toArray, List.set_cons_zero, List.set_cons_succ]
  refine wpAnyH_take (i := 15) (v := .bool true) rfl (by kernel_rfl) (by kernel_rfl) (by kernel_rfl) (fun _ _ _ h => h) (Or.inl ⟨by rfl, fun w hS => by go_simp⟩) hHeld ?_
  simp only [Act.put, List.getElem_toArray, List.getElem_cons_zero, List.getElem_cons_succ, List.setIfInBounds_toArray, List.set_cons_zero, List.set_cons_succ]
  refine wpAnyH_done (by kernel_rfl) ?_ _
  go_wp2
  go_ret
  exact ⟨rfl, _, _, _, _, _, HCC.out.less HL.out, HRR.out⟩

set_option maxHeartbeats 4000000 in
theorem act3_bad (gs gw room : Nat) (ps : List Pl) (fr : List Nat) (ts : List Int) (cs fr2 : List Nat) (s x : Int) (X : List (Nat × Obj)) (w0 w : World) (h : Hp w0 w X gs gw room ps fr ts cs fr2) (hr : Rel ps fr ts cs fr2) (hv : Vac ps s) : Calls Try.prog 9 #[.agg #[Value.pointer (some ⟨gs, 0, none⟩), .pointer (some ⟨gw, 0, none⟩)], .agg #[.int .i64 3, .int .i64 s, .int .i64 x]] w (ActPost w0 X gs gw room) := by
  obtain ⟨wA, hwA⟩ : ∃ y, y = (w.alloc (.cells #[Value.pointer (some ⟨gs, 0, none⟩), .pointer (some ⟨gw, 0, none⟩)] 31)).alloc (.cells #[Value.int .i64 3, .int .i64 s, .int .i64 x] 34) := ⟨_, rfl⟩
  have hh : Hp w0 wA ((w.heap.size + 1, (Obj.cells #[Value.int .i64 3, .int .i64 s, .int .i64 x] 34 (0, 0))) :: (w.heap.size, (Obj.cells #[Value.pointer (some ⟨gs, 0, none⟩), .pointer (some ⟨gw, 0, none⟩)] 31 (0, 0))) :: X) gs gw room ps fr ts cs fr2 := by
    rw [hwA]
    have := (h.hold (Obj.cells #[Value.pointer (some ⟨gs, 0, none⟩), .pointer (some ⟨gw, 0, none⟩)] 31 (0, 0))).hold (Obj.cells #[Value.int .i64 3, .int .i64 s, .int .i64 x] 34 (0, 0))
    rw [World.size_alloc] at this
    exact this
  have HC : Hid (∀ w' ps fr ts cs fr2, Hp w0 w' ((w.heap.size + 1, (Obj.cells #[Value.int .i64 3, .int .i64 s, .int .i64 x] 34 (0, 0))) :: (w.heap.size, (Obj.cells #[Value.pointer (some ⟨gs, 0, none⟩), .pointer (some ⟨gw, 0, none⟩)] 31 (0, 0))) :: X) gs gw room ps fr ts cs fr2 → w'.cell? ⟨w.heap.size, 0, none⟩ = some (.pointer (some ⟨gs, 0, none⟩)) ∧ w'.cell? ⟨w.heap.size, 1, none⟩ = some (.pointer (some ⟨gw, 0, none⟩)) ∧ w'.cell? ⟨w.heap.size + 1, 0, none⟩ = some (.int .i64 3) ∧ w'.cell? ⟨w.heap.size + 1, 1, none⟩ = some (.int .i64 s) ∧ w'.cell? ⟨w.heap.size + 1, 2, none⟩ = some (.int .i64 x)) := by
    intro w' ps fr ts cs fr2 hp
    have k1 := hp.held (g := w.heap.size + 1) (cells := #[Value.int .i64 3, .int .i64 s, .int .i64 x]) (t := 34) (by simp)
    have k2 := hp.held (g := w.heap.size) (cells := #[Value.pointer (some ⟨gs, 0, none⟩), .pointer (some ⟨gw, 0, none⟩)]) (t := 31) (by simp)
    exact ⟨by rw [k2.cell]; rfl, by rw [k2.cell]; rfl, by rw [k1.cell]; rfl, by rw [k1.cell]; rfl, by rw [k1.cell]; rfl⟩
  have HL : Hid (∀ y ∈ X, y ∈ ((w.heap.size + 1, (Obj.cells #[Value.int .i64 3, .int .i64 s, .int .i64 x] 34 (0, 0))) :: (w.heap.size, (Obj.cells #[Value.pointer (some ⟨gs, 0, none⟩), .pointer (some ⟨gw, 0, none⟩)] 31 (0, 0))) :: X)) := fun y hy => List.mem_cons_of_mem _ (List.mem_cons_of_mem _ hy)
  have HH := hidden hh
  have HR := hidden hr
  have HWA := hidden hwA
  have HI := hidden h.inv
  have HV := hidden hv
  have HVC := hidden (hr.vac hv)
  clear hv
  clear h hr hh hwA
  go_enter Try.func9, Try.ntmps9
  go_wp2_with (first
    | (go_at_call 30; rw [← HWA.out]; refine (HH.out.look (fun vp vf vt vc vf2' h1 h2 => same_below (get_badI gs vp vf room ps fr s _ h1 HV.out))).mono ?_; rintro e wB ⟨rfl, hB⟩; obtain ⟨p0, p1, p2, p3, p4⟩ := HC.out _ _ _ _ _ _ hB; have HB := hidden hB; clear hB)
    | (go_at_call 31; refine (HB.out.look (fun vp vf vt vc vf2' h1 h2 => same_below (rget_bad gw vt vc vf2' room ts cs fr2 s _ h2 HVC.out))).mono ?_; rintro e wC ⟨rfl, hC⟩; have HCC := hidden hC; clear hC))
  have hhd := HCC.out.grow (w' := wC.drew) (Below.refl _ _).drew
  have HHd := hidden hhd
  have HSd := hidden (HC.out _ _ _ _ _ _ hhd)
  clear hhd
  refine wp_region_held_drew (S := fun w' => w'.cell? ⟨w.heap.size, 0, none⟩ = some (.pointer (some ⟨gs, 0, none⟩)) ∧ w'.cell? ⟨w.heap.size, 1, none⟩ = some (.pointer (some ⟨gw, 0, none⟩)) ∧ w'.cell? ⟨w.heap.size + 1, 0, none⟩ = some (.int .i64 3) ∧ w'.cell? ⟨w.heap.size + 1, 1, none⟩ = some (.int .i64 s) ∧ w'.cell? ⟨w.heap.size + 1, 2, none⟩ = some (.int .i64 x)) (by kernel_rfl) (HSd.out) (fun hHeld => ?_)
  refine wpAnyH_take (i := 0) (v := .int .i64 0) rfl (by kernel_rfl) (by kernel_rfl) (by kernel_rfl) (fun _ _ _ h => h) (Or.inl ⟨by rfl, fun w hS => by go_simp⟩) hHeld ?_
  simp only [Act.put, List.getElem_toArray, List.getElem_cons_zero, List.setIfInBounds_toArray, List.set_cons_zero, List.set_cons_succ]
  refine wpAnyH_take (i := 1) (v := .int .i64 0) rfl (by kernel_rfl) (by kernel_rfl) (by kernel_rfl) (fun _ _ _ h => h) (Or.inl ⟨by rfl, fun w hS => by go_simp⟩) hHeld ?_
  simp only [Act.put, List.getElem_toArray, List.getElem_cons_zero, List.getElem_cons_succ, List.setIfInBounds_toArray, List.set_cons_zero, List.set_cons_succ]
  refine wpAnyH_take (i := 2) (v := .bool true) rfl (by kernel_rfl) (by kernel_rfl) (by kernel_rfl) (fun _ _ _ h => h) (Or.inl ⟨by rfl, fun w hS => by go_simp⟩) hHeld ?_
  simp only [Act.put, List.getElem_toArray, List.getElem_cons_zero, List.getElem_cons_succ, List.setIfInBounds_toArray, List.set_cons_zero, List.set_cons_succ]
  refine wpAnyH_take (i := 3) (v := .bool true) rfl (by kernel_rfl) (by kernel_rfl) (by kernel_rfl) (fun _ _ _ h => h) (Or.inl ⟨by rfl, fun w hS => by go_simp⟩) hHeld ?_
  simp only [Act.put, List.getElem_toArray, List.getElem_cons_zero, List.getElem_cons_succ, List.setIfInBounds_toArray, List.set_cons_zero, List.set_cons_succ]
  refine wpAnyH_take (i := 4) (v := .int .i64 7) rfl (by kernel_rfl) (by kernel_rfl) (by kernel_rfl) (fun _ _ _ h => h) (Or.inl ⟨by rfl, fun w hS => by go_simp⟩) hHeld ?_
  simp only [Act.put, List.getElem_toArray, List.getElem_cons_zero, List.getElem_cons_succ, List.setIfInBounds_toArray, List.set_cons_zero, List.set_cons_succ]
  refine wpAnyH_take (i := 5) (v := .int .i64 7) rfl (by kernel_rfl) (by kernel_rfl) (by kernel_rfl) (fun _ _ _ h => h) (Or.inl ⟨by rfl, fun w hS => by go_simp⟩) hHeld ?_
  simp only [Act.put, List.getElem_toArray, List.getElem_cons_zero, List.getElem_cons_succ, List.setIfInBounds_toArray, List.set_cons_zero, List.set_cons_succ]
  refine wpAnyH_take (i := 6) (v := .bool true) rfl (by kernel_rfl) (by kernel_rfl) (by kernel_rfl) (fun _ _ _ h => h) (Or.inl ⟨by rfl, fun w hS => by go_simp⟩) hHeld ?_
  simp only [Act.put, List.getElem_toArray, List.getElem_cons_zero, List.getElem_cons_succ, List.setIfInBounds_toArray, List.set_cons_zero, List.set_cons_succ]
  refine wpAnyH_take (i := 7) (v := .bool true) rfl (by kernel_rfl) (by kernel_rfl) (by kernel_rfl) (fun _ _ _ h => h) (Or.inl ⟨by rfl, fun w hS => by go_simp⟩) hHeld ?_
  simp only [Act.put, List.getElem_toArray, List.getElem_cons_zero, List.getElem_cons_succ, List.setIfInBounds_toArray, List.set_cons_zero, List.set_cons_succ]
  refine wpAnyH_take (i := 8) (v := .bool true) rfl (by kernel_rfl) (by kernel_rfl) (by kernel_rfl) (fun _ _ _ h => h) (Or.inl ⟨by rfl, fun w hS => by go_simp⟩) hHeld ?_
  simp only [Act.put, List.getElem_toArray, List.getElem_cons_zero, List.getElem_cons_succ, List.setIfInBounds_toArray, List.set_cons_zero, List.set_cons_succ]
  refine wpAnyH_take (i := 9) (v := .pointer (some ⟨w.heap.size, 0, none⟩)) rfl (by kernel_rfl) (by kernel_rfl) (by kernel_rfl) (fun _ _ _ h => h) (Or.inl ⟨by rfl, fun w hS => by go_simp⟩) hHeld ?_
  simp only [Act.put, List.getElem_toArray, List.getElem_cons_zero, List.getElem_cons_succ, List.setIfInBounds_toArray, List.set_cons_zero, List.set_cons_succ]
  refine wpAnyH_take (i := 10) (v := .pointer (some ⟨gs, 0, none⟩)) rfl (by kernel_rfl) (by kernel_rfl) (by kernel_rfl) (fun _ _ _ h => h) (Or.inl ⟨by rfl, fun w hS => by (have q1 := hS.1; go_simp)⟩) hHeld ?_
  simp only [Act.put, List.getElem_toArray, List.getElem_cons_zero, List.getElem_cons_succ, List.setIfInBounds_toArray, List.set_cons_zero, List.set_cons_succ]
  refine wpAnyH_take (i := 11) (v := .pointer (some ⟨w.heap.size + 1, 1, none⟩)) rfl (by kernel_rfl) (by kernel_rfl) (by kernel_rfl) (fun _ _ _ h => h) (Or.inl ⟨by rfl, fun w hS => by go_simp⟩) hHeld ?_
  simp only [Act.put, List.getElem_toArray, List.getElem_cons_zero, List.getElem_cons_succ, List.setIfInBounds_toArray, List.set_cons_zero, List.set_cons_succ]
  refine wpAnyH_take (i := 12) (v := .int .i64 s) rfl (by kernel_rfl) (by kernel_rfl) (by kernel_rfl) (fun _ _ _ h => h) (Or.inl ⟨by rfl, fun w hS => by (have q1 := hS.2.2.2.1; go_simp)⟩) hHeld ?_
  simp only [Act.put, List.getElem_toArray, List.getElem_cons_zero, List.getElem_cons_succ, List.setIfInBounds_toArray, List.set_cons_zero, List.set_cons_succ]
  refine wpAnyH_take (i := 14) (v := .pointer (some ⟨w.heap.size, 1, none⟩)) rfl (by kernel_rfl) (by kernel_rfl) (by kernel_rfl) (fun _ _ _ h => h) (Or.inl ⟨by rfl, fun w hS => by go_simp⟩) hHeld ?_
  simp only [Act.put, List.getElem_toArray, List.getElem_cons_zero, List.getElem_cons_succ, List.setIfInBounds_toArray, List.set_cons_zero, List.set_cons_succ]
  refine wpAnyH_take (i := 15) (v := .pointer (some ⟨gw, 0, none⟩)) rfl (by kernel_rfl) (by kernel_rfl) (by kernel_rfl) (fun _ _ _ h => h) (Or.inl ⟨by rfl, fun w hS => by (have q1 := hS.2.1; go_simp)⟩) hHeld ?_
  simp only [Act.put, List.getElem_toArray, List.getElem_cons_zero, List.getElem_cons_succ, List.setIfInBounds_toArray, List.set_cons_zero, List.set_cons_succ]
  refine wpAnyH_take (i := 16) (v := .pointer (some ⟨w.heap.size + 1, 1, none⟩)) rfl (by kernel_rfl) (by kernel_rfl) (by kernel_rfl) (fun _ _ _ h => h) (Or.inl ⟨by rfl, fun w hS => by go_simp⟩) hHeld ?_
  simp only [Act.put, List.getElem_toArray, List.getElem_cons_zero, List.getElem_cons_succ, List.setIfInBounds_toArray, List.set_cons_zero, List.set_cons_succ]
  refine wpAnyH_take (i := 17) (v := .int .i64 s) rfl (by kernel_rfl) (by kernel_rfl) (by kernel_rfl) (fun _ _ _ h => h) (Or.inl ⟨by rfl, fun w hS => by (have q1 := hS.2.2.2.1; go_simp)⟩) hHeld ?_
  simp only [Act.put, List.getElem_toArray, List.getElem_cons_zero, List.getElem_cons_succ, List.setIfInBounds_toArray, List.set_cons_zero, List.set_cons_succ]
  refine wpAnyH_ready (rs := [13]) (by kernel_rfl) (by simp) ?_
  refine AllReadyH.cons rfl (fun KQ hK => ?_) AllReadyH.nil
  go_simp
  refine (HHd.out.look (fun vp vf vt vc vf2' h1 h2 => same_below (count_badI gs vp vf room ps fr s _ h1 HV.out))).mono ?_
  rintro e wD ⟨rfl, hD⟩
  have hSD := HC.out _ _ _ _ _ _ hD
  have HD := hidden hD
  clear hD
  refine hK.out _ _ (hSD) (fun hHeld => ?_)
  clear hK KQ
  refine wpAnyH_ready (rs := [18]) (by kernel_rfl) (by simp) ?_
  refine AllReadyH.cons rfl (fun KQ hK => ?_) AllReadyH.nil
  go_simp
  refine (HD.out.look (fun vp vf vt vc vf2' h1 h2 => same_below (rcount_bad gw vt vc vf2' room ts cs fr2 s _ h2 HVC.out))).mono ?_
  rintro e wE ⟨rfl, hE⟩
  have hSE := HC.out _ _ _ _ _ _ hE
  have HEE := hidden hE
  clear hE
  refine hK.out _ _ (hSE) (fun hHeld => ?_)
  clear hK KQ
  refine wpAnyH_take (i := 19) (v := .bool true) rfl (by kernel_rfl) (by kernel_rfl) (by kernel_rfl) (fun _ _ _ h => h) (Or.inl ⟨by rfl, fun w hS => by go_simp⟩) hHeld ?_
  simp only [Act.put, List.getElem_toArray, List.getElem_cons_zero, List.getElem_cons_succ, List.setIfInBounds_toArray, List.set_cons_zero, List.set_cons_succ]
  refine wpAnyH_take (i := 20) (v := .bool true) rfl (by kernel_rfl) (by kernel_rfl) (by kernel_rfl) (fun _ _ _ h => h) (Or.inl ⟨by rfl, fun w hS => by go_simp⟩) hHeld ?_
  simp only [Act.put, List.getElem_toArray, List.getElem_cons_zero, List.getElem_cons_succ, List.setIfInBounds_toArray, List.set_cons_zero, List.set_cons_succ]
  refine wpAnyH_take (i := 21) (v := .bool true) rfl (by kernel_rfl) (by kernel_rfl) (by kernel_rfl) (fun _ _ _ h => h) (Or.inl ⟨by rfl, fun w hS => by go_simp⟩) hHeld ?_
  simp only [Act.put, List.getElem_toArray, List.getElem_cons_zero, List.getElem_cons_succ, List.setIfInBounds_toArray, List.set_cons_zero, List.set_cons_succ]
  refine wpAnyH_done (by kernel_rfl) ?_ _
  go_wp2
  go_ret
  exact ⟨rfl, _, _, _, _, _, HEE.out.less HL.out, HR.out⟩

set_option maxHeartbeats 4000000 in
theorem act3_ok (gs gw room : Nat) (ps : List Pl) (fr : List Nat) (ts : List Int) (cs fr2 : List Nat) (s x : Int) (X : List (Nat × Obj)) (w0 w : World) (h : Hp w0 w X gs gw room ps fr ts cs fr2) (hr : Rel ps fr ts cs fr2) (i : Nat) (hs : s = (i : Int) + 1) (hi : 0 < cnt ps i) : Calls Try.prog 9 #[.agg #[Value.pointer (some ⟨gs, 0, none⟩), .pointer (some ⟨gw, 0, none⟩)], .agg #[.int .i64 3, .int .i64 s, .int .i64 x]] w (ActPost w0 X gs gw room) := by
  obtain ⟨wA, hwA⟩ : ∃ y, y = (w.alloc (.cells #[Value.pointer (some ⟨gs, 0, none⟩), .pointer (some ⟨gw, 0, none⟩)] 31)).alloc (.cells #[Value.int .i64 3, .int .i64 s, .int .i64 x] 34) := ⟨_, rfl⟩
  have hh : Hp w0 wA ((w.heap.size + 1, (Obj.cells #[Value.int .i64 3, .int .i64 s, .int .i64 x] 34 (0, 0))) :: (w.heap.size, (Obj.cells #[Value.pointer (some ⟨gs, 0, none⟩), .pointer (some ⟨gw, 0, none⟩)] 31 (0, 0))) :: X) gs gw room ps fr ts cs fr2 := by
    rw [hwA]
    have := (h.hold (Obj.cells #[Value.pointer (some ⟨gs, 0, none⟩), .pointer (some ⟨gw, 0, none⟩)] 31 (0, 0))).hold (Obj.cells #[Value.int .i64 3, .int .i64 s, .int .i64 x] 34 (0, 0))
    rw [World.size_alloc] at this
    exact this
  have HC : Hid (∀ w' ps fr ts cs fr2, Hp w0 w' ((w.heap.size + 1, (Obj.cells #[Value.int .i64 3, .int .i64 s, .int .i64 x] 34 (0, 0))) :: (w.heap.size, (Obj.cells #[Value.pointer (some ⟨gs, 0, none⟩), .pointer (some ⟨gw, 0, none⟩)] 31 (0, 0))) :: X) gs gw room ps fr ts cs fr2 → w'.cell? ⟨w.heap.size, 0, none⟩ = some (.pointer (some ⟨gs, 0, none⟩)) ∧ w'.cell? ⟨w.heap.size, 1, none⟩ = some (.pointer (some ⟨gw, 0, none⟩)) ∧ w'.cell? ⟨w.heap.size + 1, 0, none⟩ = some (.int .i64 3) ∧ w'.cell? ⟨w.heap.size + 1, 1, none⟩ = some (.int .i64 s) ∧ w'.cell? ⟨w.heap.size + 1, 2, none⟩ = some (.int .i64 x)) := by
    intro w' ps fr ts cs fr2 hp
    have k1 := hp.held (g := w.heap.size + 1) (cells := #[Value.int .i64 3, .int .i64 s, .int .i64 x]) (t := 34) (by simp)
    have k2 := hp.held (g := w.heap.size) (cells := #[Value.pointer (some ⟨gs, 0, none⟩), .pointer (some ⟨gw, 0, none⟩)]) (t := 31) (by simp)
    exact ⟨by rw [k2.cell]; rfl, by rw [k2.cell]; rfl, by rw [k1.cell]; rfl, by rw [k1.cell]; rfl, by rw [k1.cell]; rfl⟩
  have HL : Hid (∀ y ∈ X, y ∈ ((w.heap.size + 1, (Obj.cells #[Value.int .i64 3, .int .i64 s, .int .i64 x] 34 (0, 0))) :: (w.heap.size, (Obj.cells #[Value.pointer (some ⟨gs, 0, none⟩), .pointer (some ⟨gw, 0, none⟩)] 31 (0, 0))) :: X)) := fun y hy => List.mem_cons_of_mem _ (List.mem_cons_of_mem _ hy)
  have HH := hidden hh
  have HR := hidden hr
  have HWA := hidden hwA
  have HI := hidden h.inv
  have HE := hidden hs
  have HCI := hidden hi
  have HCN : Hid (0 < cn cs i) := by show 0 < cn cs i; rw [hr.cn]; exact hi
  have HCE := hidden (hr.cn i)
  have hfr := hr.fr
  subst hfr
  obtain ⟨z, hz⟩ : ∃ z, z = thgI ps (i + 1) := ⟨_, rfl⟩
  have HTH : Hid (thg ps i = [Value.int .i64 z]) := by show _ = _; rw [hz]; exact hr.nums.at i (cnt_lt hi)
  have HTZ : Hid (ts[i]?.getD 0 = z) := by show _ = _; rw [hz, hr.ths i hi]
  obtain ⟨q, hq⟩ : ∃ q, q = cnt ps i := ⟨_, rfl⟩
  have HQ := hidden hq
  clear hs hi hz hq
  clear h hr hh hwA
  go_enter Try.func9, Try.ntmps9
  go_wp2_with (first
    | (go_at_call 30; rw [← HWA.out]; refine (HH.out.look (P := fun e _ => e = .returned (.tuple #[.int .i64 z, .int .i64 0])) (fun vp vf vt vc vf2' h1 h2 => same_below (get_okI gs vp vf room ps fr2 s i z _ h1 HE.out HCI.out HTH.out))).mono ?_; rintro e wB ⟨rfl, hB⟩; obtain ⟨p0, p1, p2, p3, p4⟩ := HC.out _ _ _ _ _ _ hB; have HB := hidden hB; clear hB)
    | (go_at_call 31; refine (HB.out.look (P := fun e _ => e = .returned (.tuple #[.int .i64 z, .int .i64 0])) (fun vp vf vt vc vf2' h1 h2 => same_below (by have := rget_ok gw vt vc vf2' room ts cs fr2 s i _ h2 HE.out HCN.out; rw [HTZ.out] at this; exact this))).mono ?_; rintro e wC ⟨rfl, hC⟩; have HCC := hidden hC; clear hC))
  have hhd := HCC.out.grow (w' := wC.drew) (Below.refl _ _).drew
  have HHd := hidden hhd
  have HSd := hidden (HC.out _ _ _ _ _ _ hhd)
  clear hhd
  refine wp_region_held_drew (S := fun w' => w'.cell? ⟨w.heap.size, 0, none⟩ = some (.pointer (some ⟨gs, 0, none⟩)) ∧ w'.cell? ⟨w.heap.size, 1, none⟩ = some (.pointer (some ⟨gw, 0, none⟩)) ∧ w'.cell? ⟨w.heap.size + 1, 0, none⟩ = some (.int .i64 3) ∧ w'.cell? ⟨w.heap.size + 1, 1, none⟩ = some (.int .i64 s) ∧ w'.cell? ⟨w.heap.size + 1, 2, none⟩ = some (.int .i64 x)) (by kernel_rfl) (HSd.out) (fun hHeld => ?_)
  refine wpAnyH_take (i := 0) (v := .int .i64 z) rfl (by kernel_rfl) (by kernel_rfl) (by kernel_rfl) (fun _ _ _ h => h) (Or.inl ⟨by rfl, fun w hS => by go_simp⟩) hHeld ?_
  simp only [Act.put, List.getElem_toArray, List.getElem_cons_zero, List.setIfInBounds_toArray, List.set_cons_zero, List.set_cons_succ]
  refine wpAnyH_take (i := 1) (v := .int .i64 z) rfl (by kernel_rfl) (by kernel_rfl) (by kernel_rfl) (fun _ _ _ h => h) (Or.inl ⟨by rfl, fun w hS => by go_simp⟩) hHeld ?_
  simp only [Act.put, List.getElem_toArray, List.getElem_cons_zero, List.getElem_cons_succ, List.setIfInBounds_toArray, List.set_cons_zero, List.set_cons_succ]
  refine wpAnyH_take (i := 2) (v := .bool true) rfl (by kernel_rfl) (by kernel_rfl) (by kernel_rfl) (fun _ _ _ h => h) (Or.inl ⟨by rfl, fun w hS => by go_simp⟩) hHeld ?_
  simp only [Act.put, List.getElem_toArray, List.getElem_cons_zero, List.getElem_cons_succ, List.setIfInBounds_toArray, List.set_cons_zero, List.set_cons_succ]
  refine wpAnyH_take (i := 3) (v := .bool true) rfl (by kernel_rfl) (by kernel_rfl) (by kernel_rfl) (fun _ _ _ h => h) (Or.inl ⟨by rfl, fun w hS => by go_simp⟩) hHeld ?_
  simp only [Act.put, List.getElem_toArray, List.getElem_cons_zero, List.getElem_cons_succ, List.setIfInBounds_toArray, List.set_cons_zero, List.set_cons_succ]
  refine wpAnyH_take (i := 4) (v := .int .i64 0) rfl (by kernel_rfl) (by kernel_rfl) (by kernel_rfl) (fun _ _ _ h => h) (Or.inl ⟨by rfl, fun w hS => by go_simp⟩) hHeld ?_
  simp only [Act.put, List.getElem_toArray, List.getElem_cons_zero, List.getElem_cons_succ, List.setIfInBounds_toArray, List.set_cons_zero, List.set_cons_succ]
  refine wpAnyH_take (i := 5) (v := .int .i64 0) rfl (by kernel_rfl) (by kernel_rfl) (by kernel_rfl) (fun _ _ _ h => h) (Or.inl ⟨by rfl, fun w hS => by go_simp⟩) hHeld ?_
  simp only [Act.put, List.getElem_toArray, List.getElem_cons_zero, List.getElem_cons_succ, List.setIfInBounds_toArray, List.set_cons_zero, List.set_cons_succ]
  refine wpAnyH_take (i := 6) (v := .bool true) rfl (by kernel_rfl) (by kernel_rfl) (by kernel_rfl) (fun _ _ _ h => h) (Or.inl ⟨by rfl, fun w hS => by go_simp⟩) hHeld ?_
  simp only [Act.put, List.getElem_toArray, List.getElem_cons_zero, List.getElem_cons_succ, List.setIfInBounds_toArray, List.set_cons_zero, List.set_cons_succ]
  refine wpAnyH_take (i := 7) (v := .bool true) rfl (by kernel_rfl) (by kernel_rfl) (by kernel_rfl) (fun _ _ _ h => h) (Or.inl ⟨by rfl, fun w hS => by go_simp⟩) hHeld ?_
  simp only [Act.put, List.getElem_toArray, List.getElem_cons_zero, List.getElem_cons_succ, List.setIfInBounds_toArray, List.set_cons_zero, List.set_cons_succ]
  refine wpAnyH_take (i := 8) (v := .bool true) rfl (by kernel_rfl) (by kernel_rfl) (by kernel_rfl) (fun _ _ _ h => h) (Or.inl ⟨by rfl, fun w hS => by go_simp⟩) hHeld ?_
  simp only [Act.put, List.getElem_toArray, List.getElem_cons_zero, List.getElem_cons_succ, List.setIfInBounds_toArray, List.set_cons_zero, List.set_cons_succ]
  refine wpAnyH_take (i := 9) (v := .pointer (some ⟨w.heap.size, 0, none⟩)) rfl (by kernel_rfl) (by kernel_rfl) (by kernel_rfl) (fun _ _ _ h => h) (Or.inl ⟨by rfl, fun w hS => by go_simp⟩) hHeld ?_
  simp only [Act.put, List.getElem_toArray, List.getElem_cons_zero, List.getElem_cons_succ, List.setIfInBounds_toArray, List.set_cons_zero, List.set_cons_succ]
  refine wpAnyH_take (i := 10) (v := .pointer (some ⟨gs, 0, none⟩)) rfl (by kernel_rfl) (by kernel_rfl) (by kernel_rfl) (fun _ _ _ h => h) (Or.inl ⟨by rfl, fun w hS => by (have q1 := hS.1; go_simp)⟩) hHeld ?_
  simp only [Act.put, List.getElem_toArray, List.getElem_cons_zero, List.getElem_cons_succ, List.setIfInBounds_toArray, List.set_cons_zero, List.set_cons_succ]
  refine wpAnyH_take (i := 11) (v := .pointer (some ⟨w.heap.size + 1, 1, none⟩)) rfl (by kernel_rfl) (by kernel_rfl) (by kernel_rfl) (fun _ _ _ h => h) (Or.inl ⟨by rfl, fun w hS => by go_simp⟩) hHeld ?_
  simp only [Act.put, List.getElem_toArray, List.getElem_cons_zero, List.getElem_cons_succ, List.setIfInBounds_toArray, List.set_cons_zero, List.set_cons_succ]
  refine wpAnyH_take (i := 12) (v := .int .i64 s) rfl (by kernel_rfl) (by kernel_rfl) (by kernel_rfl) (fun _ _ _ h => h) (Or.inl ⟨by rfl, fun w hS => by (have q1 := hS.2.2.2.1; go_simp)⟩) hHeld ?_
  simp only [Act.put, List.getElem_toArray, List.getElem_cons_zero, List.getElem_cons_succ, List.setIfInBounds_toArray, List.set_cons_zero, List.set_cons_succ]
  refine wpAnyH_take (i := 14) (v := .pointer (some ⟨w.heap.size, 1, none⟩)) rfl (by kernel_rfl) (by kernel_rfl) (by kernel_rfl) (fun _ _ _ h => h) (Or.inl ⟨by rfl, fun w hS => by go_simp⟩) hHeld ?_
  simp only [Act.put, List.getElem_toArray, List.getElem_cons_zero, List.getElem_cons_succ, List.setIfInBounds_toArray, List.set_cons_zero, List.set_cons_succ]
  refine wpAnyH_take (i := 15) (v := .pointer (some ⟨gw, 0, none⟩)) rfl (by kernel_rfl) (by kernel_rfl) (by kernel_rfl) (fun _ _ _ h => h) (Or.inl ⟨by rfl, fun w hS => by (have q1 := hS.2.1; go_simp)⟩) hHeld ?_
  simp only [Act.put, List.getElem_toArray, List.getElem_cons_zero, List.getElem_cons_succ, List.setIfInBounds_toArray, List.set_cons_zero, List.set_cons_succ]
  refine wpAnyH_take (i := 16) (v := .pointer (some ⟨w.heap.size + 1, 1, none⟩)) rfl (by kernel_rfl) (by kernel_rfl) (by kernel_rfl) (fun _ _ _ h => h) (Or.inl ⟨by rfl, fun w hS => by go_simp⟩) hHeld ?_
  simp only [Act.put, List.getElem_toArray, List.getElem_cons_zero, List.getElem_cons_succ, List.setIfInBounds_toArray, List.set_cons_zero, List.set_cons_succ]
  refine wpAnyH_take (i := 17) (v := .int .i64 s) rfl (by kernel_rfl) (by kernel_rfl) (by kernel_rfl) (fun _ _ _ h => h) (Or.inl ⟨by rfl, fun w hS => by (have q1 := hS.2.2.2.1; go_simp)⟩) hHeld ?_
  simp only [Act.put, List.getElem_toArray, List.getElem_cons_zero, List.getElem_cons_succ, List.setIfInBounds_toArray, List.set_cons_zero, List.set_cons_succ]
  refine wpAnyH_ready (rs := [13]) (by kernel_rfl) (by simp) ?_
  refine AllReadyH.cons rfl (fun KQ hK => ?_) AllReadyH.nil
  go_simp
  refine (HHd.out.look (P := fun e _ => e = .returned (.int .i64 (q : Int))) (fun vp vf vt vc vf2' h1 h2 => same_below (by have := count_okI gs vp vf room ps fr2 s i _ h1 HE.out HCI.out; rw [← HQ.out] at this; exact this))).mono ?_
  rintro e wD ⟨rfl, hD⟩
  have hSD := HC.out _ _ _ _ _ _ hD
  have HD := hidden hD
  clear hD
  refine hK.out _ _ (hSD) (fun hHeld => ?_)
  clear hK KQ
  refine wpAnyH_ready (rs := [18]) (by kernel_rfl) (by simp) ?_
  refine AllReadyH.cons rfl (fun KQ hK => ?_) AllReadyH.nil
  go_simp
  refine (HD.out.look (P := fun e _ => e = .returned (.int .i64 (q : Int))) (fun vp vf vt vc vf2' h1 h2 => same_below (by have := rcount_ok gw vt vc vf2' room ts cs fr2 s i _ h2 HE.out HCN.out; rw [HCE.out, ← HQ.out] at this; exact this))).mono ?_
  rintro e wE ⟨rfl, hE⟩
  have hSE := HC.out _ _ _ _ _ _ hE
  have HEE := hidden hE
  clear hE
  refine hK.out _ _ (hSE) (fun hHeld => ?_)
  clear hK KQ
  refine wpAnyH_take (i := 19) (v := .bool true) rfl (by kernel_rfl) (by kernel_rfl) (by kernel_rfl) (fun _ _ _ h => h) (Or.inl ⟨by rfl, fun w hS => by go_simp⟩) hHeld ?_
  simp only [Act.put, List.getElem_toArray, List.getElem_cons_zero, List.getElem_cons_succ, List.setIfInBounds_toArray, List.set_cons_zero, List.set_cons_succ]
  refine wpAnyH_take (i := 20) (v := .bool true) rfl (by kernel_rfl) (by kernel_rfl) (by kernel_rfl) (fun _ _ _ h => h) (Or.inl ⟨by rfl, fun w hS => by go_simp⟩) hHeld ?_
  simp only [Act.put, List.getElem_toArray, List.getElem_cons_zero, List.getElem_cons_succ, List.setIfInBounds_toArray, List.set_cons_zero, List.set_cons_succ]
  refine wpAnyH_take (i := 21) (v := .bool true) rfl (by kernel_rfl) (by kernel_rfl) (by kernel_rfl) (fun _ _ _ h => h) (Or.inl ⟨by rfl, fun w hS => by go_simp⟩) hHeld ?_
  simp only [Act.put, List.getElem_toArray, List.getElem_cons_zero, List.getElem_cons_succ, List.setIfInBounds_toArray, List.set_cons_zero, List.set_cons_succ]
  refine wpAnyH_done (by kernel_rfl) ?_ _
  go_wp2
  go_ret
  exact ⟨rfl, _, _, _, _, _, HEE.out.less HL.out, HR.out⟩

set_option maxHeartbeats 4000000 in
theorem act6 (gs gw room : Nat) (ps : List Pl) (fr : List Nat) (ts : List Int) (cs fr2 : List Nat) (s x : Int) (X : List (Nat × Obj)) (w0 w : World) (h : Hp w0 w X gs gw room ps fr ts cs fr2) (hr : Rel ps fr ts cs fr2) : Calls Try.prog 9 #[.agg #[Value.pointer (some ⟨gs, 0, none⟩), .pointer (some ⟨gw, 0, none⟩)], .agg #[.int .i64 6, .int .i64 s, .int .i64 x]] w (ActPost w0 X gs gw room) := by
  obtain ⟨wA, hwA⟩ : ∃ y, y = (w.alloc (.cells #[Value.pointer (some ⟨gs, 0, none⟩), .pointer (some ⟨gw, 0, none⟩)] 31)).alloc (.cells #[Value.int .i64 6, .int .i64 s, .int .i64 x] 34) := ⟨_, rfl⟩
  have hh : Hp w0 wA ((w.heap.size + 1, (Obj.cells #[Value.int .i64 6, .int .i64 s, .int .i64 x] 34 (0, 0))) :: (w.heap.size, (Obj.cells #[Value.pointer (some ⟨gs, 0, none⟩), .pointer (some ⟨gw, 0, none⟩)] 31 (0, 0))) :: X) gs gw room ps fr ts cs fr2 := by
    rw [hwA]
    have := (h.hold (Obj.cells #[Value.pointer (some ⟨gs, 0, none⟩), .pointer (some ⟨gw, 0, none⟩)] 31 (0, 0))).hold (Obj.cells #[Value.int .i64 6, .int .i64 s, .int .i64 x] 34 (0, 0))
    rw [World.size_alloc] at this
    exact this
  have HC : Hid (∀ w' ps fr ts cs fr2, Hp w0 w' ((w.heap.size + 1, (Obj.cells #[Value.int .i64 6, .int .i64 s, .int .i64 x] 34 (0, 0))) :: (w.heap.size, (Obj.cells #[Value.pointer (some ⟨gs, 0, none⟩), .pointer (some ⟨gw, 0, none⟩)] 31 (0, 0))) :: X) gs gw room ps fr ts cs fr2 → w'.cell? ⟨w.heap.size, 0, none⟩ = some (.pointer (some ⟨gs, 0, none⟩)) ∧ w'.cell? ⟨w.heap.size, 1, none⟩ = some (.pointer (some ⟨gw, 0, none⟩)) ∧ w'.cell? ⟨w.heap.size + 1, 0, none⟩ = some (.int .i64 6) ∧ w'.cell? ⟨w.heap.size + 1, 1, none⟩ = some (.int .i64 s) ∧ w'.cell? ⟨w.heap.size + 1, 2, none⟩ = some (.int .i64 x)) := by
    intro w' ps fr ts cs fr2 hp
    have k1 := hp.held (g := w.heap.size + 1) (cells := #[Value.int .i64 6, .int .i64 s, .int .i64 x]) (t := 34) (by simp)
    have k2 := hp.held (g := w.heap.size) (cells := #[Value.pointer (some ⟨gs, 0, none⟩), .pointer (some ⟨gw, 0, none⟩)]) (t := 31) (by simp)
    exact ⟨by rw [k2.cell]; rfl, by rw [k2.cell]; rfl, by rw [k1.cell]; rfl, by rw [k1.cell]; rfl, by rw [k1.cell]; rfl⟩
  have HL : Hid (∀ y ∈ X, y ∈ ((w.heap.size + 1, (Obj.cells #[Value.int .i64 6, .int .i64 s, .int .i64 x] 34 (0, 0))) :: (w.heap.size, (Obj.cells #[Value.pointer (some ⟨gs, 0, none⟩), .pointer (some ⟨gw, 0, none⟩)] 31 (0, 0))) :: X)) := fun y hy => List.mem_cons_of_mem _ (List.mem_cons_of_mem _ hy)
  have HH := hidden hh
  have HR := hidden hr
  have HWA := hidden hwA
  have HI := hidden h.inv
  clear h hr hh hwA
  go_enter Try.func9, Try.ntmps9
  go_wp2_with (first
    | (go_at_call 10; have mk := mk1; clear mk; refine (HB.out.look (P := fun e _ => e = .returned (.bool true)) (fun vp vf vt vc vf2' h1 h2 => gone_any gs gw vp vf vt vc vf2' room ps fr fr2 ts cs 0 _ h1 h2 HR.out.cs HR.out.nums HR.out.ths)).mono ?_; rintro e wC ⟨rfl, hC⟩; have HCC := hidden hC; clear hC)
    | (go_at_call 10; rw [← HWA.out]; refine (HH.out.look (P := fun e _ => e = .returned (.bool true)) (fun vp vf vt vc vf2' h1 h2 => gone_any gs gw vp vf vt vc vf2' room ps fr fr2 ts cs x _ h1 h2 HR.out.cs HR.out.nums HR.out.ths)).mono ?_; rintro e wB ⟨rfl, hB⟩; obtain ⟨p0, p1, p2, p3, p4⟩ := HC.out _ _ _ _ _ _ hB; have HB := hidden hB; have mk1 : Hid True := trivial; clear hB))
  go_ret
  exact ⟨rfl, _, _, _, _, _, HCC.out.less HL.out, HR.out⟩

set_option maxHeartbeats 4000000 in
theorem act_other (gs gw room : Nat) (ps : List Pl) (fr : List Nat) (ts : List Int) (cs fr2 : List Nat) (k s x : Int) (X : List (Nat × Obj)) (w0 w : World) (h : Hp w0 w X gs gw room ps fr ts cs fr2) (hr : Rel ps fr ts cs fr2) (hk : k < 0 ∨ 6 < k) : Calls Try.prog 9 #[.agg #[Value.pointer (some ⟨gs, 0, none⟩), .pointer (some ⟨gw, 0, none⟩)], .agg #[.int .i64 k, .int .i64 s, .int .i64 x]] w (ActPost w0 X gs gw room) := by
  obtain ⟨wA, hwA⟩ : ∃ y, y = (w.alloc (.cells #[Value.pointer (some ⟨gs, 0, none⟩), .pointer (some ⟨gw, 0, none⟩)] 31)).alloc (.cells #[Value.int .i64 k, .int .i64 s, .int .i64 x] 34) := ⟨_, rfl⟩
  have hh : Hp w0 wA ((w.heap.size + 1, (Obj.cells #[Value.int .i64 k, .int .i64 s, .int .i64 x] 34 (0, 0))) :: (w.heap.size, (Obj.cells #[Value.pointer (some ⟨gs, 0, none⟩), .pointer (some ⟨gw, 0, none⟩)] 31 (0, 0))) :: X) gs gw room ps fr ts cs fr2 := by
    rw [hwA]
    have := (h.hold (Obj.cells #[Value.pointer (some ⟨gs, 0, none⟩), .pointer (some ⟨gw, 0, none⟩)] 31 (0, 0))).hold (Obj.cells #[Value.int .i64 k, .int .i64 s, .int .i64 x] 34 (0, 0))
    rw [World.size_alloc] at this
    exact this
  have HC : Hid (∀ w' ps fr ts cs fr2, Hp w0 w' ((w.heap.size + 1, (Obj.cells #[Value.int .i64 k, .int .i64 s, .int .i64 x] 34 (0, 0))) :: (w.heap.size, (Obj.cells #[Value.pointer (some ⟨gs, 0, none⟩), .pointer (some ⟨gw, 0, none⟩)] 31 (0, 0))) :: X) gs gw room ps fr ts cs fr2 → w'.cell? ⟨w.heap.size, 0, none⟩ = some (.pointer (some ⟨gs, 0, none⟩)) ∧ w'.cell? ⟨w.heap.size, 1, none⟩ = some (.pointer (some ⟨gw, 0, none⟩)) ∧ w'.cell? ⟨w.heap.size + 1, 0, none⟩ = some (.int .i64 k) ∧ w'.cell? ⟨w.heap.size + 1, 1, none⟩ = some (.int .i64 s) ∧ w'.cell? ⟨w.heap.size + 1, 2, none⟩ = some (.int .i64 x)) := by
    intro w' ps fr ts cs fr2 hp
    have k1 := hp.held (g := w.heap.size + 1) (cells := #[Value.int .i64 k, .int .i64 s, .int .i64 x]) (t := 34) (by simp)
    have k2 := hp.held (g := w.heap.size) (cells := #[Value.pointer (some ⟨gs, 0, none⟩), .pointer (some ⟨gw, 0, none⟩)]) (t := 31) (by simp)
    exact ⟨by rw [k2.cell]; rfl, by rw [k2.cell]; rfl, by rw [k1.cell]; rfl, by rw [k1.cell]; rfl, by rw [k1.cell]; rfl⟩
  have HL : Hid (∀ y ∈ X, y ∈ ((w.heap.size + 1, (Obj.cells #[Value.int .i64 k, .int .i64 s, .int .i64 x] 34 (0, 0))) :: (w.heap.size, (Obj.cells #[Value.pointer (some ⟨gs, 0, none⟩), .pointer (some ⟨gw, 0, none⟩)] 31 (0, 0))) :: X)) := fun y hy => List.mem_cons_of_mem _ (List.mem_cons_of_mem _ hy)
  have HH := hidden hh
  have HR := hidden hr
  have HWA := hidden hwA
  have HI := hidden h.inv
  have e0 : (k == 0) = false := by simp; omega
  have e1 : (k == 1) = false := by simp; omega
  have e2 : (k == 2) = false := by simp; omega
  have e3 : (k == 3) = false := by simp; omega
  have e4 : (k == 4) = false := by simp; omega
  have e5 : (k == 5) = false := by simp; omega
  have e6 : (k == 6) = false := by simp; omega
  clear hk
  clear h hr hh hwA
  go_enter Try.func9, Try.ntmps9
  go_wp2
  go_ret
  exact ⟨rfl, _, _, _, _, _, (HWA.out ▸ HH.out).less HL.out, HR.out⟩

end Go.Proofs.Ytodigmmpodbpiaa
