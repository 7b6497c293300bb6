/- Calls of a slab that take or tell things, of things of type int, as contracts: Take, Get, Set. -/
import Derived.Test.YtodigmmpodbpiaaSlabCI
namespace Go.Proofs.Ytodigmmpodbpiaa
set_option maxRecDepth 20000
open Go.RowKit

set_option maxHeartbeats 400000 in
theorem take_noI (v : Value) (z : Int) (w : World) (h : NoI w v) : Calls Try.prog 24 #[v, (.int .i64 z)] w fun e w' => e = .returned (.tuple #[.int .i64 0, .int .i64 1]) ∧ w' = w := by
  have HN := hidden h
  clear h
  go_enter Try.func24, Try.ntmps24
  go_wp2_with (go_at_call 49; refine (made_noI v _ HN.out).mono ?_; rintro e w' ⟨rfl, rfl⟩)
  go_ret2
  exact ⟨rfl, rfl⟩

set_option maxHeartbeats 400000 in
theorem take_fullI (g : Nat) (vp vf : Value) (room : Nat) (ps : List Pl) (z : Int) (w : World) (h : SlI w g vp vf room ps []) (hl : ps.length = room) : Calls Try.prog 24 #[.pointer (some ⟨g, 0, none⟩), (.int .i64 z)] w fun e w' => e = .returned (.tuple #[.int .i64 0, .int .i64 9]) ∧ Below w.heap.size w w' := by
  have c0 := h.c0
  have HS := hidden h
  have HL := hidden hl
  clear h hl
  go_enter Try.func24, Try.ntmps24
  go_wp2_with (first
    | (go_at_call 49; refine (made_okI g _ c0).mono ?_; rintro e w' ⟨rfl, rfl⟩)
    | (go_at_call 53; refine (vac_fullI g vp vf room ps _ HS.out.toSmI HL.out).mono ?_; rintro e w1 ⟨rfl, b1⟩))
  go_ret2
  exact ⟨rfl, b1⟩

set_option maxHeartbeats 1000000 in
theorem take_freeI (g : Nat) (vp vf : Value) (room : Nat) (ps : List Pl) (fr : List Nat) (s : Nat) (z : Int) (w : World) (h : SlI w g vp vf room ps (fr ++ [s])) : Calls Try.prog 24 #[.pointer (some ⟨g, 0, none⟩), (.int .i64 z)] w fun e w' => e = .returned (.tuple #[.int .i64 (s : Int), .int .i64 0]) ∧ TurnI w g (slB g vp vf) room (ps.set (s - 1) (1, [Value.int .i64 z])) fr w' := by
  have c0 := h.c0
  have HS := hidden h
  obtain ⟨q1, q2, q3⟩ := h.inv.free s (by simp)
  obtain ⟨i, rfl⟩ : ∃ i, s = i + 1 := ⟨s - 1, by omega⟩
  have hil : i < ps.length := by omega
  have h1 := h.inv.len
  have h2 := h.inv.r2
  have h3 := h.inv.frlen
  have HF : Hid (fr.length ≤ 65536) := by show fr.length ≤ 65536; simp at h3; omega
  obtain ⟨gp, c, rfl, _⟩ := lst_pos h.pls (by omega)
  have j0 : (0 : Int) ≤ (i : Int) := by omega
  have j1 : (i : Int) < (ps.length : Int) := by omega
  have hw : wrap64 (i : Int) = i := Go.IntWalk.wrap64_in _ (by omega)
  have HI := hidden hil
  clear h q1 q2 q3 h1 h2 h3
  go_enter Try.func24, Try.ntmps24
  go_wp2_with (first
    | (go_at_call 49; refine (made_okI g _ c0).mono ?_; rintro e w' ⟨rfl, rfl⟩)
    | (go_at_call 53; refine (vac_freeI g _ vf room ps fr (i + 1) _ HS.out.toSmI HF.out).mono ?_; rintro e w1 ⟨vf', rfl, hm1, m1, ob⟩; have c2 := hm1.c2; have HM1 := hidden hm1; clear hm1)
    | ((with_reducible refine at_st 26 ?_); refine wpList_stm _ rfl _ _ _ rfl 85 (1 + 1) ps.length c gp (i * (1 + 1)) (flatS ps) (Value.int .i64 1 :: [Value.int .i64 z]) rfl rfl HM1.out.pls size_plI (by have := Nat.mul_le_mul_right (1 + 1) (show i + 1 ≤ ps.length from HI.out); rw [Nat.add_mul] at this; simpa using this) (xoneI z 1) ?_; intro w2 hl2 m2 sz2))
  go_ret2
  have hi := HI.out
  have hs := flatS_setPlace HM1.out.wid i 1 [Value.int .i64 z] hi rfl
  rw [show ((1 : Nat) : Int) = 1 from rfl] at hs
  rw [hs] at hl2
  refine ⟨rfl, _, _, ⟨HM1.out.over m2 (ps' := ps.set i (1, [Value.int .i64 z])) (by rw [List.length_set]; exact hl2) (HM1.out.wid.set i 1 _ rfl (fun u hu => xoneI z 1 u (by simp only [List.mem_cons]; exact .inr (by simpa using hu)))), HS.out.inv.takeFree _⟩, ?_, slB_new (.inl rfl) (.inl ob)⟩
  exact (m1.mono (fun k hk => by simp at hk; exact slB_mem.2 (.inl hk))).trans' (m2.mono (fun k hk => by simp at hk; exact slB_mem.2 (.inr (.inl (by rw [hk]; rfl)))))

set_option maxHeartbeats 1000000 in
theorem take_newI (g : Nat) (vp vf : Value) (room : Nat) (ps : List Pl) (z : Int) (w : World) (h : SlI w g vp vf room ps []) (hl : ps.length < room) : Calls Try.prog 24 #[.pointer (some ⟨g, 0, none⟩), (.int .i64 z)] w fun e w' => e = .returned (.tuple #[.int .i64 ((ps.length + 1 : Nat) : Int), .int .i64 0]) ∧ TurnI w g (slB g vp vf) room (ps ++ [(1, [Value.int .i64 z])]) [] w' := by
  have c0 := h.c0
  have HS := hidden h
  have h2 := h.inv.r2
  have HR := hidden h2
  obtain ⟨i, hi⟩ : ∃ i, i = ps.length := ⟨_, rfl⟩
  have j0 : (0 : Int) ≤ (i : Int) := by omega
  have j1 : (i : Int) < ((i + 1 : Nat) : Int) := by omega
  have hw : wrap64 (i : Int) = i := Go.IntWalk.wrap64_in _ (by omega)
  have HI := hidden hi
  have HL := hidden hl
  have HE : Hid (∀ w, Calls Try.prog 53 #[.pointer (some ⟨g, 0, none⟩)] w (fun e w' => ∃ vp', e = .returned (.tuple #[.int .i64 ((ps.length + 1 : Nat) : Int), .bool true]) ∧ SmI w' g vp' vf room (ps ++ [(0, [Value.int .i64 0])]) [] ∧ Mod (slB g vp vf) w w' ∧ WhereL w vp vp') → Calls Try.prog 53 #[.pointer (some ⟨g, 0, none⟩)] w (fun e w' => ∃ gp c, e = .returned (.tuple #[.int .i64 ((i + 1 : Nat) : Int), .bool true]) ∧ SmI w' g (.slice (some ⟨gp, 0, none⟩) (i + 1) c) vf room (ps ++ [(0, [Value.int .i64 0])]) [] ∧ Mod (slB g vp vf) w w' ∧ WhereL w vp (.slice (some ⟨gp, 0, none⟩) (i + 1) c))) := by
    intro w hc
    refine hc.mono ?_
    rintro e w' ⟨vp', rfl, hm, m, wh⟩
    obtain ⟨gp, c, rfl, _⟩ := lst_pos hm.pls (by simp)
    rw [show (ps ++ [((0, [Value.int .i64 0]) : Pl)]).length = i + 1 by simp [hi]] at hm wh
    exact ⟨gp, c, by rw [hi], hm, m, wh⟩
  clear h h2 hl hi
  go_enter Try.func24, Try.ntmps24
  go_wp2_with (first
    | (go_at_call 49; refine (made_okI g _ c0).mono ?_; rintro e w' ⟨rfl, rfl⟩)
    | (go_at_call 53; refine (HE.out _ (vac_newI g vp vf room ps _ HS.out.toSmI HL.out HR.out)).mono ?_; rintro e w1 ⟨gp, c, rfl, hm1, m1, wh⟩; have c2 := hm1.c2; have HM1 := hidden hm1; clear hm1)
    | ((with_reducible refine at_st 26 ?_); refine wpList_stm _ rfl _ _ _ rfl 85 (1 + 1) (i + 1) c gp (i * (1 + 1)) (flatS (ps ++ [(0, [Value.int .i64 0])])) (Value.int .i64 1 :: [Value.int .i64 z]) rfl rfl (by have := HM1.out.pls; rw [List.length_append, List.length_singleton, ← HI.out] at this; exact this) size_plI (by rw [Nat.add_mul]; simp) (xoneI z 1) ?_; intro w2 hl2 m2 sz2))
  go_ret2
  have hi := HI.out
  have hs := flatS_setPlace HM1.out.wid i 1 [Value.int .i64 z] (by simp; omega) rfl
  rw [show ((1 : Nat) : Int) = 1 from rfl] at hs
  rw [hs, hi, set_last] at hl2
  rw [hi] at wh HM1
  refine ⟨by rw [hi]; rfl, _, _, ⟨HM1.out.over m2 (ps' := ps ++ [(1, [Value.int .i64 z])]) (by simpa using hl2) (HS.out.wid.snoc 1 _ rfl (fun u hu => xoneI z 1 u (by simp only [List.mem_cons]; exact .inr (by simpa using hu)))), HS.out.inv.takeNew HL.out _⟩, ?_, slB_new wh (.inl rfl)⟩
  exact m1.trans (slB_new (g := g) wh (.inl rfl)) (m2.mono (fun k hk => by simp at hk; exact slB_mem.2 (.inr (.inl (by rw [hk]; rfl)))))

set_option maxHeartbeats 400000 in
theorem get_noI (v : Value) (slot : Int) (w : World) (h : NoI w v) : Calls Try.prog 30 #[v, .int .i64 slot] w fun e w' => e = .returned (.tuple #[(.int .i64 0), .int .i64 1]) ∧ w' = w := by
  have HN := hidden h
  clear h
  go_enter Try.func30, Try.ntmps30
  go_wp2_with (go_at_call 55; refine (at_noI v slot _ HN.out).mono ?_; rintro e w' ⟨rfl, rfl⟩)
  go_ret2
  exact ⟨rfl, rfl⟩

set_option maxHeartbeats 400000 in
theorem get_badI (g : Nat) (vp vf : Value) (room : Nat) (ps : List Pl) (fr : List Nat) (slot : Int) (w : World) (h : SlI w g vp vf room ps fr) (hv : Vac ps slot) : Calls Try.prog 30 #[.pointer (some ⟨g, 0, none⟩), .int .i64 slot] w fun e w' => e = .returned (.tuple #[(.int .i64 0), .int .i64 7]) ∧ w' = w := by
  have HS := hidden h
  have HV := hidden hv
  clear h hv
  go_enter Try.func30, Try.ntmps30
  go_wp2_with (go_at_call 55; refine (at_badI g vp vf room ps fr slot _ HS.out HV.out).mono ?_; rintro e w' ⟨rfl, rfl⟩)
  go_ret2
  exact ⟨rfl, rfl⟩

set_option maxHeartbeats 1000000 in
theorem get_okI (g : Nat) (vp vf : Value) (room : Nat) (ps : List Pl) (fr : List Nat) (slot : Int) (i : Nat) (z : Int) (w : World) (h : SlI w g vp vf room ps fr) (hs : slot = (i : Int) + 1) (hi : 0 < cnt ps i) (ht : thg ps i = [Value.int .i64 z]) : Calls Try.prog 30 #[.pointer (some ⟨g, 0, none⟩), .int .i64 slot] w fun e w' => e = .returned (.tuple #[(.int .i64 z), .int .i64 0]) ∧ w' = w := by
  have HS := hidden h
  have HI := hidden hi
  have HE := hidden hs
  have c2 := h.c2
  obtain ⟨gp, c, rfl, c4, hil, j0, j1, hw, hm⟩ := h.at i hi
  have HIL := hidden hil
  have c5 : w.cell? ⟨gp, i * (1 + 1) + 1, none⟩ = some (.int .i64 z) := by
    rw [lst_cell h.pls _ (by have := Nat.mul_le_mul_right (1 + 1) (show i + 1 ≤ ps.length from hil); rw [Nat.add_mul] at this; omega)]
    exact flatS_thing h.wid i hil 0 (.int .i64 z) (by rw [ht]; rfl)
  clear h hs hi ht
  go_enter Try.func30, Try.ntmps30
  go_wp2_with (first
    | (go_at_call 55; refine (at_okI g _ vf room ps fr slot i _ HS.out HE.out HI.out).mono ?_; rintro e w' ⟨rfl, rfl⟩))
  go_ret2
  exact ⟨rfl, rfl⟩

set_option maxHeartbeats 400000 in
theorem set_noI (v : Value) (slot : Int) (z : Int) (w : World) (h : NoI w v) : Calls Try.prog 34 #[v, .int .i64 slot, (.int .i64 z)] w fun e w' => e = .returned (.int .i64 1) ∧ w' = w := by
  have HN := hidden h
  clear h
  go_enter Try.func34, Try.ntmps34
  go_wp2_with (go_at_call 55; refine (at_noI v slot _ HN.out).mono ?_; rintro e w' ⟨rfl, rfl⟩)
  go_ret
  exact ⟨rfl, rfl⟩

set_option maxHeartbeats 400000 in
theorem set_badI (g : Nat) (vp vf : Value) (room : Nat) (ps : List Pl) (fr : List Nat) (slot : Int) (z : Int) (w : World) (h : SlI w g vp vf room ps fr) (hv : Vac ps slot) : Calls Try.prog 34 #[.pointer (some ⟨g, 0, none⟩), .int .i64 slot, (.int .i64 z)] w fun e w' => e = .returned (.int .i64 7) ∧ w' = w := by
  have HS := hidden h
  have HV := hidden hv
  clear h hv
  go_enter Try.func34, Try.ntmps34
  go_wp2_with (go_at_call 55; refine (at_badI g vp vf room ps fr slot _ HS.out HV.out).mono ?_; rintro e w' ⟨rfl, rfl⟩)
  go_ret
  exact ⟨rfl, rfl⟩

set_option maxHeartbeats 1000000 in
theorem set_okI (g : Nat) (vp vf : Value) (room : Nat) (ps : List Pl) (fr : List Nat) (slot : Int) (i : Nat) (z : Int) (w : World) (h : SlI w g vp vf room ps fr) (hs : slot = (i : Int) + 1) (hi : 0 < cnt ps i) : Calls Try.prog 34 #[.pointer (some ⟨g, 0, none⟩), .int .i64 slot, (.int .i64 z)] w fun e w' => e = .returned (.int .i64 0) ∧ TurnI w g (slB g vp vf) room (ps.set i (cnt ps i, [Value.int .i64 z])) fr w' := by
  have HS := hidden h
  have HI := hidden hi
  have HE := hidden hs
  have c2 := h.c2
  obtain ⟨gp, c, rfl, c4, hil, j0, j1, hw, hm⟩ := h.at i hi
  have HIL := hidden hil
  have hlt : i * (1 + 1) + 1 < ps.length * (1 + 1) := by have := Nat.mul_le_mul_right (1 + 1) (show i + 1 ≤ ps.length from hil); rw [Nat.add_mul] at this; omega
  obtain ⟨u, c5⟩ : ∃ u, w.cell? ⟨gp, i * (1 + 1) + 1, none⟩ = some u := by
    rw [lst_cell h.pls _ hlt, List.getElem?_eq_getElem (by rw [flatS_length h.wid]; exact hlt)]
    exact ⟨_, rfl⟩
  have f5 := lst_frozen h.pls (i * (1 + 1) + 1)
  have hle := h.inv.most i
  have HLE := hidden hle
  clear h hs hi hle hlt
  go_enter Try.func34, Try.ntmps34
  go_wp2_with (first
    | (go_at_call 55; refine (at_okI g _ vf room ps fr slot i _ HS.out HE.out HI.out).mono ?_; rintro e w' ⟨rfl, rfl⟩))
  go_ret
  have h := HS.out
  have hl2 := lst_set h.pls (i * (1 + 1) + 1) (.int .i64 z)
  have hs2 := flatS_setThing h.wid i [Value.int .i64 z] HIL.out rfl
  simp only [setL] at hs2
  rw [hs2] at hl2
  have m2 : Mod [gp] w' (w'.setCell ⟨gp, i * (1 + 1) + 1, none⟩ (.int .i64 z)) := Mod.setCell _ _ _ _ (by simp)
  refine ⟨rfl, _, _, ⟨h.toSmI.over m2 (ps' := ps.set i (cnt ps i, [Value.int .i64 z])) (by rw [List.length_set]; exact hl2) (h.wid.set i _ _ rfl (fun u hu => xoneI z 1 u (by simp only [List.mem_cons]; exact .inr (by simpa using hu)))), h.inv.held HI.out HI.out HLE.out _⟩, m2.mono (fun k hk => by simp at hk; exact slB_mem.2 (.inr (.inl (by rw [hk]; rfl)))), New.refl _ _⟩

end Go.Proofs.Ytodigmmpodbpiaa
