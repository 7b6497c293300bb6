/- One call of a slab beside the document's (the law's 'act'), as a contract: kinds 0 to 4. -/
import Derived.Test.YtodigmmpodbpiaaPair1
namespace Go.Proofs.Ytodigmmpodbpiaa
set_option maxRecDepth 20000
open Go.RowKit

/-- It is answered as the document says, and both slabs are again beside each other. -/
def ActPost (w0 : World) (X : List (Nat × Obj)) (gs gw room : Nat) (e : Ending) (w' : World) : Prop := e = .returned (.bool true) ∧ ∃ ps fr ts cs fr2, Hp w0 w' X gs gw room ps fr ts cs fr2 ∧ Rel ps fr ts cs fr2

theorem last_of (fr : List Nat) : fr = [] ∨ ∃ fr0 s, fr = fr0 ++ [s] := by
  rcases List.eq_nil_or_concat fr with h | ⟨a, b, h⟩
  · exact .inl h
  · exact .inr ⟨a, b, by rw [h, List.concat_eq_append]⟩

set_option maxHeartbeats 4000000 in
theorem act0_full (gs gw room : Nat) (ps : List Pl) (fr : List Nat) (ts : List Int) (cs fr2 : List Nat) (s x : Int) (X : List (Nat × Obj)) (w0 w : World) (h : Hp w0 w X gs gw room ps fr ts cs fr2) (hr : Rel ps fr ts cs fr2) (hf : fr = []) (hl : ps.length = room) : Calls Try.prog 9 #[.agg #[Value.pointer (some ⟨gs, 0, none⟩), .pointer (some ⟨gw, 0, none⟩)], .agg #[.int .i64 0, .int .i64 s, .int .i64 x]] w (ActPost w0 X gs gw room) := by
  obtain ⟨wA, hwA⟩ : ∃ y, y = (w.alloc (.cells #[Value.pointer (some ⟨gs, 0, none⟩), .pointer (some ⟨gw, 0, none⟩)] 31)).alloc (.cells #[Value.int .i64 0, .int .i64 s, .int .i64 x] 34) := ⟨_, rfl⟩
  have hh : Hp w0 wA ((w.heap.size + 1, (Obj.cells #[Value.int .i64 0, .int .i64 s, .int .i64 x] 34 (0, 0))) :: (w.heap.size, (Obj.cells #[Value.pointer (some ⟨gs, 0, none⟩), .pointer (some ⟨gw, 0, none⟩)] 31 (0, 0))) :: X) gs gw room ps fr ts cs fr2 := by
    rw [hwA]
    have := (h.hold (Obj.cells #[Value.pointer (some ⟨gs, 0, none⟩), .pointer (some ⟨gw, 0, none⟩)] 31 (0, 0))).hold (Obj.cells #[Value.int .i64 0, .int .i64 s, .int .i64 x] 34 (0, 0))
    rw [World.size_alloc] at this
    exact this
  have HC : Hid (∀ w' ps fr ts cs fr2, Hp w0 w' ((w.heap.size + 1, (Obj.cells #[Value.int .i64 0, .int .i64 s, .int .i64 x] 34 (0, 0))) :: (w.heap.size, (Obj.cells #[Value.pointer (some ⟨gs, 0, none⟩), .pointer (some ⟨gw, 0, none⟩)] 31 (0, 0))) :: X) gs gw room ps fr ts cs fr2 → w'.cell? ⟨w.heap.size, 0, none⟩ = some (.pointer (some ⟨gs, 0, none⟩)) ∧ w'.cell? ⟨w.heap.size, 1, none⟩ = some (.pointer (some ⟨gw, 0, none⟩)) ∧ w'.cell? ⟨w.heap.size + 1, 0, none⟩ = some (.int .i64 0) ∧ w'.cell? ⟨w.heap.size + 1, 1, none⟩ = some (.int .i64 s) ∧ w'.cell? ⟨w.heap.size + 1, 2, none⟩ = some (.int .i64 x)) := by
    intro w' ps fr ts cs fr2 hp
    have k1 := hp.held (g := w.heap.size + 1) (cells := #[Value.int .i64 0, .int .i64 s, .int .i64 x]) (t := 34) (by simp)
    have k2 := hp.held (g := w.heap.size) (cells := #[Value.pointer (some ⟨gs, 0, none⟩), .pointer (some ⟨gw, 0, none⟩)]) (t := 31) (by simp)
    exact ⟨by rw [k2.cell]; rfl, by rw [k2.cell]; rfl, by rw [k1.cell]; rfl, by rw [k1.cell]; rfl, by rw [k1.cell]; rfl⟩
  have HL : Hid (∀ y ∈ X, y ∈ ((w.heap.size + 1, (Obj.cells #[Value.int .i64 0, .int .i64 s, .int .i64 x] 34 (0, 0))) :: (w.heap.size, (Obj.cells #[Value.pointer (some ⟨gs, 0, none⟩), .pointer (some ⟨gw, 0, none⟩)] 31 (0, 0))) :: X)) := fun y hy => List.mem_cons_of_mem _ (List.mem_cons_of_mem _ hy)
  have HH := hidden hh
  have HR := hidden hr
  have HWA := hidden hwA
  have HI := hidden h.inv
  subst hf
  have hfr := hr.fr
  subst hfr
  have HLE := hidden hl
  have HCL : Hid (cs.length = room) := by show cs.length = room; rw [hr.cs, List.length_map]; exact hl
  clear hl
  clear h hr hh hwA
  go_enter Try.func9, Try.ntmps9
  go_wp2_with (first
    | (go_at_call 24; rw [← HWA.out]; refine (HH.out.look (fun vp vf vt vc vf2 h1 h2 => (take_fullI gs vp vf room ps x _ h1 HLE.out))).mono ?_; rintro e wB ⟨rfl, hB⟩; obtain ⟨p0, p1, p2, p3, p4⟩ := HC.out _ _ _ _ _ _ hB; have HB := hidden hB; clear hB)
    | (go_at_call 25; refine (HB.out.look (fun vp vf vt vc vf2 h1 h2 => (rtake_full gw vt vc vf2 room ts cs x _ h2 HCL.out))).mono ?_; rintro e wC ⟨rfl, hC⟩; have HCC := hidden hC; clear hC))
  go_ret
  exact ⟨rfl, _, _, _, _, _, HCC.out.less HL.out, HR.out⟩

set_option maxHeartbeats 4000000 in
theorem act0_new (gs gw room : Nat) (ps : List Pl) (fr : List Nat) (ts : List Int) (cs fr2 : List Nat) (s x : Int) (X : List (Nat × Obj)) (w0 w : World) (h : Hp w0 w X gs gw room ps fr ts cs fr2) (hr : Rel ps fr ts cs fr2) (hf : fr = []) (hl : ps.length < room) : Calls Try.prog 9 #[.agg #[Value.pointer (some ⟨gs, 0, none⟩), .pointer (some ⟨gw, 0, none⟩)], .agg #[.int .i64 0, .int .i64 s, .int .i64 x]] w (ActPost w0 X gs gw room) := by
  obtain ⟨wA, hwA⟩ : ∃ y, y = (w.alloc (.cells #[Value.pointer (some ⟨gs, 0, none⟩), .pointer (some ⟨gw, 0, none⟩)] 31)).alloc (.cells #[Value.int .i64 0, .int .i64 s, .int .i64 x] 34) := ⟨_, rfl⟩
  have hh : Hp w0 wA ((w.heap.size + 1, (Obj.cells #[Value.int .i64 0, .int .i64 s, .int .i64 x] 34 (0, 0))) :: (w.heap.size, (Obj.cells #[Value.pointer (some ⟨gs, 0, none⟩), .pointer (some ⟨gw, 0, none⟩)] 31 (0, 0))) :: X) gs gw room ps fr ts cs fr2 := by
    rw [hwA]
    have := (h.hold (Obj.cells #[Value.pointer (some ⟨gs, 0, none⟩), .pointer (some ⟨gw, 0, none⟩)] 31 (0, 0))).hold (Obj.cells #[Value.int .i64 0, .int .i64 s, .int .i64 x] 34 (0, 0))
    rw [World.size_alloc] at this
    exact this
  have HC : Hid (∀ w' ps fr ts cs fr2, Hp w0 w' ((w.heap.size + 1, (Obj.cells #[Value.int .i64 0, .int .i64 s, .int .i64 x] 34 (0, 0))) :: (w.heap.size, (Obj.cells #[Value.pointer (some ⟨gs, 0, none⟩), .pointer (some ⟨gw, 0, none⟩)] 31 (0, 0))) :: X) gs gw room ps fr ts cs fr2 → w'.cell? ⟨w.heap.size, 0, none⟩ = some (.pointer (some ⟨gs, 0, none⟩)) ∧ w'.cell? ⟨w.heap.size, 1, none⟩ = some (.pointer (some ⟨gw, 0, none⟩)) ∧ w'.cell? ⟨w.heap.size + 1, 0, none⟩ = some (.int .i64 0) ∧ w'.cell? ⟨w.heap.size + 1, 1, none⟩ = some (.int .i64 s) ∧ w'.cell? ⟨w.heap.size + 1, 2, none⟩ = some (.int .i64 x)) := by
    intro w' ps fr ts cs fr2 hp
    have k1 := hp.held (g := w.heap.size + 1) (cells := #[Value.int .i64 0, .int .i64 s, .int .i64 x]) (t := 34) (by simp)
    have k2 := hp.held (g := w.heap.size) (cells := #[Value.pointer (some ⟨gs, 0, none⟩), .pointer (some ⟨gw, 0, none⟩)]) (t := 31) (by simp)
    exact ⟨by rw [k2.cell]; rfl, by rw [k2.cell]; rfl, by rw [k1.cell]; rfl, by rw [k1.cell]; rfl, by rw [k1.cell]; rfl⟩
  have HL : Hid (∀ y ∈ X, y ∈ ((w.heap.size + 1, (Obj.cells #[Value.int .i64 0, .int .i64 s, .int .i64 x] 34 (0, 0))) :: (w.heap.size, (Obj.cells #[Value.pointer (some ⟨gs, 0, none⟩), .pointer (some ⟨gw, 0, none⟩)] 31 (0, 0))) :: X)) := fun y hy => List.mem_cons_of_mem _ (List.mem_cons_of_mem _ hy)
  have HH := hidden hh
  have HR := hidden hr
  have HWA := hidden hwA
  have HI := hidden h.inv
  subst hf
  have hfr := hr.fr
  subst hfr
  have HLE := hidden hl
  have hcl : cs.length = ps.length := by rw [hr.cs, List.length_map]
  have HRR := hidden (hr.takeNew x)
  have HTk : Hid (∀ w' vt vc vf2, Rf w' gw vt vc vf2 room ts cs [] → Calls Try.prog 25 #[.pointer (some ⟨gw, 0, none⟩), .int .i64 x] w' fun e w'' => e = .returned (.tuple #[.int .i64 ((ps.length + 1 : Nat) : Int), .int .i64 0]) ∧ RTurn w' gw (rfB gw vt vc vf2) room (ts ++ [x]) (cs ++ [1]) [] w'') := fun w' vt vc vf2 h2 => by
    have := rtake_new gw vt vc vf2 room ts cs x w' h2 (by omega) HI.out.r2
    rw [hcl] at this
    exact this
  clear hl hcl
  clear h hr hh hwA
  go_enter Try.func9, Try.ntmps9
  go_wp2_with (first
    | (go_at_call 24; rw [← HWA.out]; refine (HH.out.useS (fun vp vf h1 => take_newI gs vp vf room ps x _ h1 HLE.out)).mono ?_; rintro e wB ⟨rfl, hB⟩; obtain ⟨p0, p1, p2, p3, p4⟩ := HC.out _ _ _ _ _ _ hB; have HB := hidden hB; clear hB)
    | (go_at_call 25; refine (HB.out.useR (fun vt vc vf2 h2 => HTk.out _ vt vc vf2 h2)).mono ?_; rintro e wC ⟨rfl, hC⟩; have HCC := hidden hC; clear hC))
  go_ret
  exact ⟨rfl, _, _, _, _, _, HCC.out.less HL.out, HRR.out⟩

set_option maxHeartbeats 4000000 in
theorem act0_free (gs gw room : Nat) (ps : List Pl) (fr : List Nat) (ts : List Int) (cs fr2 : List Nat) (s x : Int) (X : List (Nat × Obj)) (w0 w : World) (h : Hp w0 w X gs gw room ps fr ts cs fr2) (hr : Rel ps fr ts cs fr2) (fr0 : List Nat) (i : Nat) (hf : fr = fr0 ++ [i + 1]) : Calls Try.prog 9 #[.agg #[Value.pointer (some ⟨gs, 0, none⟩), .pointer (some ⟨gw, 0, none⟩)], .agg #[.int .i64 0, .int .i64 s, .int .i64 x]] w (ActPost w0 X gs gw room) := by
  obtain ⟨wA, hwA⟩ : ∃ y, y = (w.alloc (.cells #[Value.pointer (some ⟨gs, 0, none⟩), .pointer (some ⟨gw, 0, none⟩)] 31)).alloc (.cells #[Value.int .i64 0, .int .i64 s, .int .i64 x] 34) := ⟨_, rfl⟩
  have hh : Hp w0 wA ((w.heap.size + 1, (Obj.cells #[Value.int .i64 0, .int .i64 s, .int .i64 x] 34 (0, 0))) :: (w.heap.size, (Obj.cells #[Value.pointer (some ⟨gs, 0, none⟩), .pointer (some ⟨gw, 0, none⟩)] 31 (0, 0))) :: X) gs gw room ps fr ts cs fr2 := by
    rw [hwA]
    have := (h.hold (Obj.cells #[Value.pointer (some ⟨gs, 0, none⟩), .pointer (some ⟨gw, 0, none⟩)] 31 (0, 0))).hold (Obj.cells #[Value.int .i64 0, .int .i64 s, .int .i64 x] 34 (0, 0))
    rw [World.size_alloc] at this
    exact this
  have HC : Hid (∀ w' ps fr ts cs fr2, Hp w0 w' ((w.heap.size + 1, (Obj.cells #[Value.int .i64 0, .int .i64 s, .int .i64 x] 34 (0, 0))) :: (w.heap.size, (Obj.cells #[Value.pointer (some ⟨gs, 0, none⟩), .pointer (some ⟨gw, 0, none⟩)] 31 (0, 0))) :: X) gs gw room ps fr ts cs fr2 → w'.cell? ⟨w.heap.size, 0, none⟩ = some (.pointer (some ⟨gs, 0, none⟩)) ∧ w'.cell? ⟨w.heap.size, 1, none⟩ = some (.pointer (some ⟨gw, 0, none⟩)) ∧ w'.cell? ⟨w.heap.size + 1, 0, none⟩ = some (.int .i64 0) ∧ w'.cell? ⟨w.heap.size + 1, 1, none⟩ = some (.int .i64 s) ∧ w'.cell? ⟨w.heap.size + 1, 2, none⟩ = some (.int .i64 x)) := by
    intro w' ps fr ts cs fr2 hp
    have k1 := hp.held (g := w.heap.size + 1) (cells := #[Value.int .i64 0, .int .i64 s, .int .i64 x]) (t := 34) (by simp)
    have k2 := hp.held (g := w.heap.size) (cells := #[Value.pointer (some ⟨gs, 0, none⟩), .pointer (some ⟨gw, 0, none⟩)]) (t := 31) (by simp)
    exact ⟨by rw [k2.cell]; rfl, by rw [k2.cell]; rfl, by rw [k1.cell]; rfl, by rw [k1.cell]; rfl, by rw [k1.cell]; rfl⟩
  have HL : Hid (∀ y ∈ X, y ∈ ((w.heap.size + 1, (Obj.cells #[Value.int .i64 0, .int .i64 s, .int .i64 x] 34 (0, 0))) :: (w.heap.size, (Obj.cells #[Value.pointer (some ⟨gs, 0, none⟩), .pointer (some ⟨gw, 0, none⟩)] 31 (0, 0))) :: X)) := fun y hy => List.mem_cons_of_mem _ (List.mem_cons_of_mem _ hy)
  have HH := hidden hh
  have HR := hidden hr
  have HWA := hidden hwA
  have HI := hidden h.inv
  subst hf
  have hfr := hr.fr
  subst hfr
  obtain ⟨_, hil, _⟩ := HI.out.free (i + 1) (by simp)
  have hfl := HI.out.frlen
  have HF : Hid (fr0.length ≤ 65536) := by
    show fr0.length ≤ 65536
    have := HI.out.len
    have := HI.out.r2
    simp at hfl
    omega
  have HCL : Hid (i + 1 ≤ cs.length) := by show i + 1 ≤ cs.length; rw [hr.cs, List.length_map]; exact hil
  have HRR := hidden (hr.takeFree (by omega) x)
  have HTk : Hid (∀ w' vt vc vf2, Rf w' gw vt vc vf2 room ts cs (fr0 ++ [i + 1]) → Calls Try.prog 25 #[.pointer (some ⟨gw, 0, none⟩), .int .i64 x] w' fun e w'' => e = .returned (.tuple #[.int .i64 ((i + 1 : Nat) : Int), .int .i64 0]) ∧ RTurn w' gw (rfB gw vt vc vf2) room (ts.set i x) (cs.set i 1) fr0 w'') := fun w' vt vc vf2 h2 => by
    exact rtake_free gw vt vc vf2 room ts cs fr0 (i + 1) x w' h2 (by omega) HCL.out HF.out
  clear hil hfl
  clear h hr hh hwA
  go_enter Try.func9, Try.ntmps9
  go_wp2_with (first
    | (go_at_call 24; rw [← HWA.out]; refine (HH.out.useS (fun vp vf h1 => take_freeI gs vp vf room ps fr0 (i + 1) x _ h1)).mono ?_; rintro e wB ⟨rfl, hB⟩; obtain ⟨p0, p1, p2, p3, p4⟩ := HC.out _ _ _ _ _ _ hB; have HB := hidden hB; clear hB)
    | (go_at_call 25; refine (HB.out.useR (fun vt vc vf2 h2 => HTk.out _ vt vc vf2 h2)).mono ?_; rintro e wC ⟨rfl, hC⟩; have HCC := hidden hC; clear hC))
  go_ret
  exact ⟨rfl, _, _, _, _, _, HCC.out.less HL.out, HRR.out⟩

set_option maxHeartbeats 4000000 in
theorem act2_bad (gs gw room : Nat) (ps : List Pl) (fr : List Nat) (ts : List Int) (cs fr2 : List Nat) (s x : Int) (X : List (Nat × Obj)) (w0 w : World) (h : Hp w0 w X gs gw room ps fr ts cs fr2) (hr : Rel ps fr ts cs fr2) (hv : Vac ps s) : Calls Try.prog 9 #[.agg #[Value.pointer (some ⟨gs, 0, none⟩), .pointer (some ⟨gw, 0, none⟩)], .agg #[.int .i64 2, .int .i64 s, .int .i64 x]] w (ActPost w0 X gs gw room) := by
  obtain ⟨wA, hwA⟩ : ∃ y, y = (w.alloc (.cells #[Value.pointer (some ⟨gs, 0, none⟩), .pointer (some ⟨gw, 0, none⟩)] 31)).alloc (.cells #[Value.int .i64 2, .int .i64 s, .int .i64 x] 34) := ⟨_, rfl⟩
  have hh : Hp w0 wA ((w.heap.size + 1, (Obj.cells #[Value.int .i64 2, .int .i64 s, .int .i64 x] 34 (0, 0))) :: (w.heap.size, (Obj.cells #[Value.pointer (some ⟨gs, 0, none⟩), .pointer (some ⟨gw, 0, none⟩)] 31 (0, 0))) :: X) gs gw room ps fr ts cs fr2 := by
    rw [hwA]
    have := (h.hold (Obj.cells #[Value.pointer (some ⟨gs, 0, none⟩), .pointer (some ⟨gw, 0, none⟩)] 31 (0, 0))).hold (Obj.cells #[Value.int .i64 2, .int .i64 s, .int .i64 x] 34 (0, 0))
    rw [World.size_alloc] at this
    exact this
  have HC : Hid (∀ w' ps fr ts cs fr2, Hp w0 w' ((w.heap.size + 1, (Obj.cells #[Value.int .i64 2, .int .i64 s, .int .i64 x] 34 (0, 0))) :: (w.heap.size, (Obj.cells #[Value.pointer (some ⟨gs, 0, none⟩), .pointer (some ⟨gw, 0, none⟩)] 31 (0, 0))) :: X) gs gw room ps fr ts cs fr2 → w'.cell? ⟨w.heap.size, 0, none⟩ = some (.pointer (some ⟨gs, 0, none⟩)) ∧ w'.cell? ⟨w.heap.size, 1, none⟩ = some (.pointer (some ⟨gw, 0, none⟩)) ∧ w'.cell? ⟨w.heap.size + 1, 0, none⟩ = some (.int .i64 2) ∧ w'.cell? ⟨w.heap.size + 1, 1, none⟩ = some (.int .i64 s) ∧ w'.cell? ⟨w.heap.size + 1, 2, none⟩ = some (.int .i64 x)) := by
    intro w' ps fr ts cs fr2 hp
    have k1 := hp.held (g := w.heap.size + 1) (cells := #[Value.int .i64 2, .int .i64 s, .int .i64 x]) (t := 34) (by simp)
    have k2 := hp.held (g := w.heap.size) (cells := #[Value.pointer (some ⟨gs, 0, none⟩), .pointer (some ⟨gw, 0, none⟩)]) (t := 31) (by simp)
    exact ⟨by rw [k2.cell]; rfl, by rw [k2.cell]; rfl, by rw [k1.cell]; rfl, by rw [k1.cell]; rfl, by rw [k1.cell]; rfl⟩
  have HL : Hid (∀ y ∈ X, y ∈ ((w.heap.size + 1, (Obj.cells #[Value.int .i64 2, .int .i64 s, .int .i64 x] 34 (0, 0))) :: (w.heap.size, (Obj.cells #[Value.pointer (some ⟨gs, 0, none⟩), .pointer (some ⟨gw, 0, none⟩)] 31 (0, 0))) :: X)) := fun y hy => List.mem_cons_of_mem _ (List.mem_cons_of_mem _ hy)
  have HH := hidden hh
  have HR := hidden hr
  have HWA := hidden hwA
  have HI := hidden h.inv
  have HV := hidden hv
  have HVC := hidden (hr.vac hv)
  clear hv
  clear h hr hh hwA
  go_enter Try.func9, Try.ntmps9
  go_wp2_with (first
    | (go_at_call 28; rw [← HWA.out]; refine (HH.out.look (fun vp vf vt vc vf2 h1 h2 => same_below (drop_badI gs vp vf room ps fr s _ h1 HV.out))).mono ?_; rintro e wB ⟨rfl, hB⟩; obtain ⟨p0, p1, p2, p3, p4⟩ := HC.out _ _ _ _ _ _ hB; have HB := hidden hB; clear hB)
    | (go_at_call 29; refine (HB.out.look (fun vp vf vt vc vf2 h1 h2 => same_below (rdrop_bad gw vt vc vf2 room ts cs fr2 s _ h2 HVC.out))).mono ?_; rintro e wC ⟨rfl, hC⟩; have HCC := hidden hC; clear hC))
  go_ret
  exact ⟨rfl, _, _, _, _, _, HCC.out.less HL.out, HR.out⟩

set_option maxHeartbeats 4000000 in
theorem act2_more (gs gw room : Nat) (ps : List Pl) (fr : List Nat) (ts : List Int) (cs fr2 : List Nat) (s x : Int) (X : List (Nat × Obj)) (w0 w : World) (h : Hp w0 w X gs gw room ps fr ts cs fr2) (hr : Rel ps fr ts cs fr2) (i : Nat) (hs : s = (i : Int) + 1) (hi : 0 < cnt ps i) (hc : 1 < cnt ps i) : Calls Try.prog 9 #[.agg #[Value.pointer (some ⟨gs, 0, none⟩), .pointer (some ⟨gw, 0, none⟩)], .agg #[.int .i64 2, .int .i64 s, .int .i64 x]] w (ActPost w0 X gs gw room) := by
  obtain ⟨wA, hwA⟩ : ∃ y, y = (w.alloc (.cells #[Value.pointer (some ⟨gs, 0, none⟩), .pointer (some ⟨gw, 0, none⟩)] 31)).alloc (.cells #[Value.int .i64 2, .int .i64 s, .int .i64 x] 34) := ⟨_, rfl⟩
  have hh : Hp w0 wA ((w.heap.size + 1, (Obj.cells #[Value.int .i64 2, .int .i64 s, .int .i64 x] 34 (0, 0))) :: (w.heap.size, (Obj.cells #[Value.pointer (some ⟨gs, 0, none⟩), .pointer (some ⟨gw, 0, none⟩)] 31 (0, 0))) :: X) gs gw room ps fr ts cs fr2 := by
    rw [hwA]
    have := (h.hold (Obj.cells #[Value.pointer (some ⟨gs, 0, none⟩), .pointer (some ⟨gw, 0, none⟩)] 31 (0, 0))).hold (Obj.cells #[Value.int .i64 2, .int .i64 s, .int .i64 x] 34 (0, 0))
    rw [World.size_alloc] at this
    exact this
  have HC : Hid (∀ w' ps fr ts cs fr2, Hp w0 w' ((w.heap.size + 1, (Obj.cells #[Value.int .i64 2, .int .i64 s, .int .i64 x] 34 (0, 0))) :: (w.heap.size, (Obj.cells #[Value.pointer (some ⟨gs, 0, none⟩), .pointer (some ⟨gw, 0, none⟩)] 31 (0, 0))) :: X) gs gw room ps fr ts cs fr2 → w'.cell? ⟨w.heap.size, 0, none⟩ = some (.pointer (some ⟨gs, 0, none⟩)) ∧ w'.cell? ⟨w.heap.size, 1, none⟩ = some (.pointer (some ⟨gw, 0, none⟩)) ∧ w'.cell? ⟨w.heap.size + 1, 0, none⟩ = some (.int .i64 2) ∧ w'.cell? ⟨w.heap.size + 1, 1, none⟩ = some (.int .i64 s) ∧ w'.cell? ⟨w.heap.size + 1, 2, none⟩ = some (.int .i64 x)) := by
    intro w' ps fr ts cs fr2 hp
    have k1 := hp.held (g := w.heap.size + 1) (cells := #[Value.int .i64 2, .int .i64 s, .int .i64 x]) (t := 34) (by simp)
    have k2 := hp.held (g := w.heap.size) (cells := #[Value.pointer (some ⟨gs, 0, none⟩), .pointer (some ⟨gw, 0, none⟩)]) (t := 31) (by simp)
    exact ⟨by rw [k2.cell]; rfl, by rw [k2.cell]; rfl, by rw [k1.cell]; rfl, by rw [k1.cell]; rfl, by rw [k1.cell]; rfl⟩
  have HL : Hid (∀ y ∈ X, y ∈ ((w.heap.size + 1, (Obj.cells #[Value.int .i64 2, .int .i64 s, .int .i64 x] 34 (0, 0))) :: (w.heap.size, (Obj.cells #[Value.pointer (some ⟨gs, 0, none⟩), .pointer (some ⟨gw, 0, none⟩)] 31 (0, 0))) :: X)) := fun y hy => List.mem_cons_of_mem _ (List.mem_cons_of_mem _ hy)
  have HH := hidden hh
  have HR := hidden hr
  have HWA := hidden hwA
  have HI := hidden h.inv
  have HE := hidden hs
  have HCI := hidden hi
  have HCN : Hid (0 < cn cs i) := by show 0 < cn cs i; rw [hr.cn]; exact hi
  have HCE := hidden (hr.cn i)
  have hfr := hr.fr
  subst hfr
  have HMo := hidden hc
  have HRR := hidden (hr.keep hi (cnt ps i - 1))
  clear hs hi hc
  clear h hr hh hwA
  go_enter Try.func9, Try.ntmps9
  go_wp2_with (first
    | (go_at_call 28; rw [← HWA.out]; refine (HH.out.useS (fun vp vf h1 => drop_moreI gs vp vf room ps fr2 s i _ h1 HE.out HCI.out HMo.out)).mono ?_; rintro e wB ⟨rfl, hB⟩; obtain ⟨p0, p1, p2, p3, p4⟩ := HC.out _ _ _ _ _ _ hB; have HB := hidden hB; clear hB)
    | (go_at_call 29; refine (HB.out.useR (fun vt vc vf2 h2 => rdrop_more gw vt vc vf2 room ts cs fr2 s i _ h2 HE.out HCN.out (by rw [HCE.out]; exact HMo.out) (by rw [HCE.out]; exact HI.out.most i))).mono ?_; rintro e wC ⟨rfl, hC⟩; have HCC := hidden hC; clear hC))
  go_ret
  exact ⟨rfl, _, _, _, _, _, HCC.out.less HL.out, by rw [HCE.out]; exact HRR.out⟩

set_option maxHeartbeats 4000000 in
theorem act2_last (gs gw room : Nat) (ps : List Pl) (fr : List Nat) (ts : List Int) (cs fr2 : List Nat) (s x : Int) (X : List (Nat × Obj)) (w0 w : World) (h : Hp w0 w X gs gw room ps fr ts cs fr2) (hr : Rel ps fr ts cs fr2) (i : Nat) (hs : s = (i : Int) + 1) (hi : 0 < cnt ps i) (hc : cnt ps i = 1) : Calls Try.prog 9 #[.agg #[Value.pointer (some ⟨gs, 0, none⟩), .pointer (some ⟨gw, 0, none⟩)], .agg #[.int .i64 2, .int .i64 s, .int .i64 x]] w (ActPost w0 X gs gw room) := by
  obtain ⟨wA, hwA⟩ : ∃ y, y = (w.alloc (.cells #[Value.pointer (some ⟨gs, 0, none⟩), .pointer (some ⟨gw, 0, none⟩)] 31)).alloc (.cells #[Value.int .i64 2, .int .i64 s, .int .i64 x] 34) := ⟨_, rfl⟩
  have hh : Hp w0 wA ((w.heap.size + 1, (Obj.cells #[Value.int .i64 2, .int .i64 s, .int .i64 x] 34 (0, 0))) :: (w.heap.size, (Obj.cells #[Value.pointer (some ⟨gs, 0, none⟩), .pointer (some ⟨gw, 0, none⟩)] 31 (0, 0))) :: X) gs gw room ps fr ts cs fr2 := by
    rw [hwA]
    have := (h.hold (Obj.cells #[Value.pointer (some ⟨gs, 0, none⟩), .pointer (some ⟨gw, 0, none⟩)] 31 (0, 0))).hold (Obj.cells #[Value.int .i64 2, .int .i64 s, .int .i64 x] 34 (0, 0))
    rw [World.size_alloc] at this
    exact this
  have HC : Hid (∀ w' ps fr ts cs fr2, Hp w0 w' ((w.heap.size + 1, (Obj.cells #[Value.int .i64 2, .int .i64 s, .int .i64 x] 34 (0, 0))) :: (w.heap.size, (Obj.cells #[Value.pointer (some ⟨gs, 0, none⟩), .pointer (some ⟨gw, 0, none⟩)] 31 (0, 0))) :: X) gs gw room ps fr ts cs fr2 → w'.cell? ⟨w.heap.size, 0, none⟩ = some (.pointer (some ⟨gs, 0, none⟩)) ∧ w'.cell? ⟨w.heap.size, 1, none⟩ = some (.pointer (some ⟨gw, 0, none⟩)) ∧ w'.cell? ⟨w.heap.size + 1, 0, none⟩ = some (.int .i64 2) ∧ w'.cell? ⟨w.heap.size + 1, 1, none⟩ = some (.int .i64 s) ∧ w'.cell? ⟨w.heap.size + 1, 2, none⟩ = some (.int .i64 x)) := by
    intro w' ps fr ts cs fr2 hp
    have k1 := hp.held (g := w.heap.size + 1) (cells := #[Value.int .i64 2, .int .i64 s, .int .i64 x]) (t := 34) (by simp)
    have k2 := hp.held (g := w.heap.size) (cells := #[Value.pointer (some ⟨gs, 0, none⟩), .pointer (some ⟨gw, 0, none⟩)]) (t := 31) (by simp)
    exact ⟨by rw [k2.cell]; rfl, by rw [k2.cell]; rfl, by rw [k1.cell]; rfl, by rw [k1.cell]; rfl, by rw [k1.cell]; rfl⟩
  have HL : Hid (∀ y ∈ X, y ∈ ((w.heap.size + 1, (Obj.cells #[Value.int .i64 2, .int .i64 s, .int .i64 x] 34 (0, 0))) :: (w.heap.size, (Obj.cells #[Value.pointer (some ⟨gs, 0, none⟩), .pointer (some ⟨gw, 0, none⟩)] 31 (0, 0))) :: X)) := fun y hy => List.mem_cons_of_mem _ (List.mem_cons_of_mem _ hy)
  have HH := hidden hh
  have HR := hidden hr
  have HWA := hidden hwA
  have HI := hidden h.inv
  have HE := hidden hs
  have HCI := hidden hi
  have HCN : Hid (0 < cn cs i) := by show 0 < cn cs i; rw [hr.cn]; exact hi
  have HCE := hidden (hr.cn i)
  have hfr := hr.fr
  subst hfr
  have HMo := hidden hc
  have HRR := hidden (hr.drop hi)
  have HF : Hid (fr2.length ≤ 65536) := by
    show fr2.length ≤ 65536
    have := HI.out.frlen
    have := HI.out.len
    have := HI.out.r2
    omega
  clear hs hi hc
  clear h hr hh hwA
  go_enter Try.func9, Try.ntmps9
  go_wp2_with (first
    | (go_at_call 28; rw [← HWA.out]; refine (HH.out.useS (fun vp vf h1 => drop_lastI gs vp vf room ps fr2 s i _ h1 HE.out HCI.out HMo.out)).mono ?_; rintro e wB ⟨rfl, hB⟩; obtain ⟨p0, p1, p2, p3, p4⟩ := HC.out _ _ _ _ _ _ hB; have HB := hidden hB; clear hB)
    | (go_at_call 29; refine (HB.out.useR (fun vt vc vf2 h2 => rdrop_last gw vt vc vf2 room ts cs fr2 s i _ h2 HE.out HCN.out (by rw [HCE.out]; exact HMo.out) HF.out)).mono ?_; rintro e wC ⟨rfl, hC⟩; have HCC := hidden hC; clear hC))
  go_ret
  exact ⟨rfl, _, _, _, _, _, HCC.out.less HL.out, HRR.out⟩

set_option maxHeartbeats 4000000 in
theorem act1_bad (gs gw room : Nat) (ps : List Pl) (fr : List Nat) (ts : List Int) (cs fr2 : List Nat) (s x : Int) (X : List (Nat × Obj)) (w0 w : World) (h : Hp w0 w X gs gw room ps fr ts cs fr2) (hr : Rel ps fr ts cs fr2) (hv : Vac ps s) : Calls Try.prog 9 #[.agg #[Value.pointer (some ⟨gs, 0, none⟩), .pointer (some ⟨gw, 0, none⟩)], .agg #[.int .i64 1, .int .i64 s, .int .i64 x]] w (ActPost w0 X gs gw room) := by
  obtain ⟨wA, hwA⟩ : ∃ y, y = (w.alloc (.cells #[Value.pointer (some ⟨gs, 0, none⟩), .pointer (some ⟨gw, 0, none⟩)] 31)).alloc (.cells #[Value.int .i64 1, .int .i64 s, .int .i64 x] 34) := ⟨_, rfl⟩
  have hh : Hp w0 wA ((w.heap.size + 1, (Obj.cells #[Value.int .i64 1, .int .i64 s, .int .i64 x] 34 (0, 0))) :: (w.heap.size, (Obj.cells #[Value.pointer (some ⟨gs, 0, none⟩), .pointer (some ⟨gw, 0, none⟩)] 31 (0, 0))) :: X) gs gw room ps fr ts cs fr2 := by
    rw [hwA]
    have := (h.hold (Obj.cells #[Value.pointer (some ⟨gs, 0, none⟩), .pointer (some ⟨gw, 0, none⟩)] 31 (0, 0))).hold (Obj.cells #[Value.int .i64 1, .int .i64 s, .int .i64 x] 34 (0, 0))
    rw [World.size_alloc] at this
    exact this
  have HC : Hid (∀ w' ps fr ts cs fr2, Hp w0 w' ((w.heap.size + 1, (Obj.cells #[Value.int .i64 1, .int .i64 s, .int .i64 x] 34 (0, 0))) :: (w.heap.size, (Obj.cells #[Value.pointer (some ⟨gs, 0, none⟩), .pointer (some ⟨gw, 0, none⟩)] 31 (0, 0))) :: X) gs gw room ps fr ts cs fr2 → w'.cell? ⟨w.heap.size, 0, none⟩ = some (.pointer (some ⟨gs, 0, none⟩)) ∧ w'.cell? ⟨w.heap.size, 1, none⟩ = some (.pointer (some ⟨gw, 0, none⟩)) ∧ w'.cell? ⟨w.heap.size + 1, 0, none⟩ = some (.int .i64 1) ∧ w'.cell? ⟨w.heap.size + 1, 1, none⟩ = some (.int .i64 s) ∧ w'.cell? ⟨w.heap.size + 1, 2, none⟩ = some (.int .i64 x)) := by
    intro w' ps fr ts cs fr2 hp
    have k1 := hp.held (g := w.heap.size + 1) (cells := #[Value.int .i64 1, .int .i64 s, .int .i64 x]) (t := 34) (by simp)
    have k2 := hp.held (g := w.heap.size) (cells := #[Value.pointer (some ⟨gs, 0, none⟩), .pointer (some ⟨gw, 0, none⟩)]) (t := 31) (by simp)
    exact ⟨by rw [k2.cell]; rfl, by rw [k2.cell]; rfl, by rw [k1.cell]; rfl, by rw [k1.cell]; rfl, by rw [k1.cell]; rfl⟩
  have HL : Hid (∀ y ∈ X, y ∈ ((w.heap.size + 1, (Obj.cells #[Value.int .i64 1, .int .i64 s, .int .i64 x] 34 (0, 0))) :: (w.heap.size, (Obj.cells #[Value.pointer (some ⟨gs, 0, none⟩), .pointer (some ⟨gw, 0, none⟩)] 31 (0, 0))) :: X)) := fun y hy => List.mem_cons_of_mem _ (List.mem_cons_of_mem _ hy)
  have HH := hidden hh
  have HR := hidden hr
  have HWA := hidden hwA
  have HI := hidden h.inv
  have HV := hidden hv
  have HVC := hidden (hr.vac hv)
  clear hv
  have hhd := hh.grow (w' := wA.drew) (Below.refl _ _).drew
  have HHd := hidden hhd
  have HSd := hidden (HC.out _ _ _ _ _ _ hhd)
  clear hhd
  clear h hr hh hwA
  go_enter Try.func9, Try.ntmps9
  go_wp2_with fail
  rw [← HWA.out]
  refine wp_region_held_drew (S := fun w' => w'.cell? ⟨w.heap.size, 0, none⟩ = some (.pointer (some ⟨gs, 0, none⟩)) ∧ w'.cell? ⟨w.heap.size, 1, none⟩ = some (.pointer (some ⟨gw, 0, none⟩)) ∧ w'.cell? ⟨w.heap.size + 1, 0, none⟩ = some (.int .i64 1) ∧ w'.cell? ⟨w.heap.size + 1, 1, none⟩ = some (.int .i64 s) ∧ w'.cell? ⟨w.heap.size + 1, 2, none⟩ = some (.int .i64 x)) (by kernel_rfl) (HSd.out) (fun hHeld => ?_)
  refine wpAnyH_take (i := 0) (v := .pointer (some ⟨w.heap.size, 0, none⟩)) rfl (by kernel_rfl) (by kernel_rfl) (by kernel_rfl) (fun _ _ _ h => h) (Or.inl ⟨by rfl, fun w hS => by go_simp⟩) hHeld ?_
  simp only [Act.put, List.getElem_toArray, List.getElem_cons_zero, List.setIfInBounds_toArray, List.set_cons_zero, List.set_cons_succ]
  refine wpAnyH_take (i := 1) (v := .pointer (some ⟨gs, 0, none⟩)) rfl (by kernel_rfl) (by kernel_rfl) (by kernel_rfl) (fun _ _ _ h => h) (Or.inl ⟨by rfl, fun w hS => by (have q1 := hS.1; go_simp)⟩) hHeld ?_
  simp only [Act.put, List.getElem_toArray, List.getElem_cons_zero, List.getElem_cons_succ, List.setIfInBounds_toArray, List.set_cons_zero, List.set_cons_succ]
  refine wpAnyH_take (i := 2) (v := .pointer (some ⟨w.heap.size + 1, 1, none⟩)) rfl (by kernel_rfl) (by kernel_rfl) (by kernel_rfl) (fun _ _ _ h => h) (Or.inl ⟨by rfl, fun w hS => by go_simp⟩) hHeld ?_
  simp only [Act.put, List.getElem_toArray, List.getElem_cons_zero, List.getElem_cons_succ, List.setIfInBounds_toArray, List.set_cons_zero, List.set_cons_succ]
  refine wpAnyH_take (i := 3) (v := .int .i64 s) rfl (by kernel_rfl) (by kernel_rfl) (by kernel_rfl) (fun _ _ _ h => h) (Or.inl ⟨by rfl, fun w hS => by (have q1 := hS.2.2.2.1; go_simp)⟩) hHeld ?_
  simp only [Act.put, List.getElem_toArray, List.getElem_cons_zero, List.getElem_cons_succ, List.setIfInBounds_toArray, List.set_cons_zero, List.set_cons_succ]
  refine wpAnyH_take (i := 5) (v := .pointer (some ⟨w.heap.size, 1, none⟩)) rfl (by kernel_rfl) (by kernel_rfl) (by kernel_rfl) (fun _ _ _ h => h) (Or.inl ⟨by rfl, fun w hS => by go_simp⟩) hHeld ?_
  simp only [Act.put, List.getElem_toArray, List.getElem_cons_zero, List.getElem_cons_succ, List.setIfInBounds_toArray, List.set_cons_zero, List.set_cons_succ]
  refine wpAnyH_take (i := 6) (v := .pointer (some ⟨gw, 0, none⟩)) rfl (by kernel_rfl) (by kernel_rfl) (by kernel_rfl) (fun _ _ _ h => h) (Or.inl ⟨by rfl, fun w hS => by (have q1 := hS.2.1; go_simp)⟩) hHeld ?_
  simp only [Act.put, List.getElem_toArray, List.getElem_cons_zero, List.getElem_cons_succ, List.setIfInBounds_toArray, List.set_cons_zero, List.set_cons_succ]
  refine wpAnyH_take (i := 7) (v := .pointer (some ⟨w.heap.size + 1, 1, none⟩)) rfl (by kernel_rfl) (by kernel_rfl) (by kernel_rfl) (fun _ _ _ h => h) (Or.inl ⟨by rfl, fun w hS => by go_simp⟩) hHeld ?_
  simp only [Act.put, List.getElem_toArray, List.getElem_cons_zero, List.getElem_cons_succ, List.setIfInBounds_toArray, List.set_cons_zero, List.set_cons_succ]
  refine wpAnyH_take (i := 8) (v := .int .i64 s) rfl (by kernel_rfl) (by kernel_rfl) (by kernel_rfl) (fun _ _ _ h => h) (Or.inl ⟨by rfl, fun w hS => by (have q1 := hS.2.2.2.1; go_simp)⟩) hHeld ?_
  simp only [Act.put, List.getElem_toArray, List.getElem_cons_zero, List.getElem_cons_succ, List.setIfInBounds_toArray, List.set_cons_zero, List.set_cons_succ]
  refine wpAnyH_ready (rs := [4]) (by kernel_rfl) (by simp) ?_
  refine AllReadyH.cons rfl (fun KQ hK => ?_) AllReadyH.nil
  go_simp
  refine (HHd.out.look (fun vp vf vt vc vf2 h1 h2 => same_below (hold_badI gs vp vf room ps fr s _ h1 HV.out))).mono ?_
  rintro e wB ⟨rfl, hB⟩
  have hSB := HC.out _ _ _ _ _ _ hB
  have HB := hidden hB
  clear hB
  refine hK.out _ _ (hSB) (fun hHeld => ?_)
  clear hK KQ
  refine wpAnyH_ready (rs := [9]) (by kernel_rfl) (by simp) ?_
  refine AllReadyH.cons rfl (fun KQ hK => ?_) AllReadyH.nil
  go_simp
  refine (HB.out.look (fun vp vf vt vc vf2 h1 h2 => same_below (rhold_bad gw vt vc vf2 room ts cs fr2 s _ h2 HVC.out))).mono ?_
  rintro e wC ⟨rfl, hC⟩
  have hSC := HC.out _ _ _ _ _ _ hC
  have HCC := hidden hC
  clear hC
  refine hK.out _ _ (hSC) (fun hHeld => ?_)
  clear hK KQ
  refine wpAnyH_take (i := 10) (v := .bool true) rfl (by kernel_rfl) (by kernel_rfl) (by kernel_rfl) (fun _ _ _ h => h) (Or.inl ⟨by rfl, fun w hS => by go_simp⟩) hHeld ?_
  simp only [Act.put, List.getElem_toArray, List.getElem_cons_zero, List.getElem_cons_succ, List.setIfInBounds_toArray, List.set_cons_zero, List.set_cons_succ]
  refine wpAnyH_take (i := 11) (v := .bool true) rfl (by kernel_rfl) (by kernel_rfl) (by kernel_rfl) (fun _ _ _ h => h) (Or.inl ⟨by rfl, fun w hS => by go_simp⟩) hHeld ?_
  simp only [Act.put, List.getElem_toArray, List.getElem_cons_zero, List.getElem_cons_succ, List.setIfInBounds_toArray, List.set_cons_zero, List.set_cons_succ]
  refine wpAnyH_done (by kernel_rfl) ?_ _
  go_wp2
  go_ret
  exact ⟨rfl, _, _, _, _, _, HCC.out.less HL.out, HR.out⟩

end Go.Proofs.Ytodigmmpodbpiaa
