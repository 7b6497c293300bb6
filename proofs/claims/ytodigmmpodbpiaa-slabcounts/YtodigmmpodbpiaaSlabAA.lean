/- A slab in memory, of things of type rootcellarlaw06.Act, and its small calls, as contracts: New, made, at, Count, Len, Room. -/
import Derived.Test.YtodigmmpodbpiaaSlabSpec
import Derived.Test.YtodigmmpodbpiaaAtOps
namespace Go.Proofs.Ytodigmmpodbpiaa
set_option maxRecDepth 20000
open Go.RowKit

/-- Block g holds a slab: its room, its places, its free slots; vp and vf are its two lists. -/
structure SmA (w : World) (g : Nat) (vp vf : Value) (room : Nat) (ps : List Pl) (fr : List Nat) : Prop where
  blk : Blk w g 74 #[.pointer (some ⟨g, 0, none⟩), .int .i64 (room : Int), vp, vf]
  pls : Lst w 78 (3 + 1) vp ps.length (flatS ps)
  frs : Lst w 3 1 vf fr.length (nats fr)
  wid : Wid 3 ps

/-- The same, and it is a state that calls lead to. -/
structure SlA (w : World) (g : Nat) (vp vf : Value) (room : Nat) (ps : List Pl) (fr : List Nat) : Prop extends SmA w g vp vf room ps fr where
  inv : Inv room ps fr

theorem SmA.mod {w w' : World} {g : Nat} {vp vf : Value} {room : Nat} {ps : List Pl} {fr : List Nat} {S : List Nat} (h : SmA w g vp vf room ps fr) (m : Mod S w w') (hn : ∀ k ∈ slB g vp vf, k ∉ S) : SmA w' g vp vf room ps fr :=
  ⟨h.blk.mod m (hn g (by simp [slB])), lst_mod h.pls m (fun k hk => hn k (by simp [slB, hk])), lst_mod h.frs m (fun k hk => hn k (by simp [slB, hk])), h.wid⟩

theorem SlA.mod {w w' : World} {g : Nat} {vp vf : Value} {room : Nat} {ps : List Pl} {fr : List Nat} {S : List Nat} (h : SlA w g vp vf room ps fr) (m : Mod S w w') (hn : ∀ k ∈ slB g vp vf, k ∉ S) : SlA w' g vp vf room ps fr := ⟨h.toSmA.mod m hn, h.inv⟩

theorem size_slA : (Try.prog.info? 74).map (·.size) = some 4 := by kernel_rfl

theorem info_plA : ∃ i z, Try.prog.info? 78 = some i ∧ i.zero = some z ∧ i.size = 3 + 1 ∧ i.bytes = 32 ∧ z.cells.size = 3 + 1 := ⟨_, _, rfl, rfl, rfl, rfl, rfl⟩

theorem size_plA : (Try.prog.info? 78).map (·.size) = some (3 + 1) := by kernel_rfl

set_option maxHeartbeats 400000 in
theorem new_badA (room : Int) (w : World) (h : ¬ (1 ≤ room ∧ room ≤ 65536)) : Calls Try.prog 13 #[.int .i64 room] w fun e w' => e = .returned (.tuple #[.pointer none, .int .i64 2]) ∧ w' = w := by
  by_cases h1 : room < 1
  · go_enter Try.func13, Try.ntmps13
    go_wp2
    go_ret2
    exact ⟨rfl, rfl⟩
  · have h2 : 65536 < room := by omega
    clear h
    go_enter Try.func13, Try.ntmps13
    go_wp2
    go_ret2
    exact ⟨rfl, rfl⟩

set_option maxHeartbeats 400000 in
theorem new_okA (room : Nat) (w : World) (h1 : 1 ≤ room) (h2 : room ≤ 65536) : Calls Try.prog 13 #[.int .i64 (room : Int)] w fun e w' => ∃ g, e = .returned (.tuple #[.pointer (some ⟨g, 0, none⟩), .int .i64 0]) ∧ w.heap.size ≤ g ∧ SlA w' g (.slice none 0 0) (.slice none 0 0) room [] [] ∧ Below w.heap.size w w' := by
  have i1 : ¬ (room : Int) < 1 := by omega
  have i2 : ¬ 65536 < (room : Int) := by omega
  go_enter Try.func13, Try.ntmps13
  go_wp2
  go_ret2
  exact ⟨w.heap.size, rfl, Nat.le_refl _, ⟨⟨Blk.new _ _ _, World.ownsRow_nil _ _ _ _, World.ownsRow_nil _ _ _ _, Wid.nil _⟩, Inv.new h1 h2⟩, grow_alloc _ _⟩

/-- v is no slab: it points nowhere, or to one that New did not answer. -/
def NoA (w : World) (v : Value) : Prop := v = .pointer none ∨ ∃ g, v = .pointer (some ⟨g, 0, none⟩) ∧ w.cell? ⟨g, 0, none⟩ = some (.pointer none)

set_option maxHeartbeats 400000 in
theorem made_noA (v : Value) (w : World) (h : NoA w v) : Calls Try.prog 46 #[v] w fun e w' => e = .returned (.bool false) ∧ w' = w := by
  have hq := fun a => eql_none (P := Try.prog) w a Try.underlying43
  rcases h with rfl | ⟨g, rfl, hc⟩
  all_goals
    go_enter Try.func46, Try.ntmps46
    go_wp2
    go_ret
    exact ⟨rfl, rfl⟩

set_option maxHeartbeats 400000 in
theorem made_okA (g : Nat) (w : World) (hc : w.cell? ⟨g, 0, none⟩ = some (.pointer (some ⟨g, 0, none⟩))) : Calls Try.prog 46 #[.pointer (some ⟨g, 0, none⟩)] w fun e w' => e = .returned (.bool true) ∧ w' = w := by
  obtain ⟨j, hj⟩ : ∃ j, Try.prog.info? 74 = some j := ⟨_, rfl⟩
  have hq := fun a => run_eql_ptr_same (P := Try.prog) w a Try.underlying43 hj
  clear hj
  go_enter Try.func46, Try.ntmps46
  go_wp2
  go_ret
  exact ⟨rfl, rfl⟩

set_option maxHeartbeats 400000 in
theorem at_noA (v : Value) (slot : Int) (w : World) (h : NoA w v) : Calls Try.prog 48 #[v, .int .i64 slot] w fun e w' => e = .returned (.tuple #[.int .i64 0, .int .i64 1]) ∧ w' = w := by
  have HN := hidden h
  clear h
  go_enter Try.func48, Try.ntmps48
  go_wp2_with (go_at_call 46; refine (made_noA v _ HN.out).mono ?_; rintro e w' ⟨rfl, rfl⟩)
  go_ret2
  exact ⟨rfl, rfl⟩

theorem SmA.c0 {w : World} {g : Nat} {vp vf : Value} {room : Nat} {ps : List Pl} {fr : List Nat} (h : SmA w g vp vf room ps fr) : w.cell? ⟨g, 0, none⟩ = some (.pointer (some ⟨g, 0, none⟩)) := by rw [h.blk.cell]; rfl
theorem SmA.c1 {w : World} {g : Nat} {vp vf : Value} {room : Nat} {ps : List Pl} {fr : List Nat} (h : SmA w g vp vf room ps fr) : w.cell? ⟨g, 1, none⟩ = some (.int .i64 (room : Int)) := by rw [h.blk.cell]; rfl
theorem SmA.c2 {w : World} {g : Nat} {vp vf : Value} {room : Nat} {ps : List Pl} {fr : List Nat} (h : SmA w g vp vf room ps fr) : w.cell? ⟨g, 2, none⟩ = some vp := by rw [h.blk.cell]; rfl
theorem SmA.c3 {w : World} {g : Nat} {vp vf : Value} {room : Nat} {ps : List Pl} {fr : List Nat} (h : SmA w g vp vf room ps fr) : w.cell? ⟨g, 3, none⟩ = some vf := by rw [h.blk.cell]; rfl
theorem SmA.count {w : World} {g gp n c : Nat} {vf : Value} {room : Nat} {ps : List Pl} {fr : List Nat} (h : SmA w g (.slice (some ⟨gp, 0, none⟩) n c) vf room ps fr) (i : Nat) (hi : i < ps.length) : w.cell? ⟨gp, i * (3 + 1), none⟩ = some (.int .i64 (cnt ps i : Int)) := by
  have hp := h.pls
  obtain rfl : n = ps.length := by
    obtain ⟨_, _, e⟩ := lst_slice hp
    injection e
  rw [lst_cell hp _ (by have := Nat.mul_le_mul_right (3 + 1) (show i + 1 ≤ ps.length from hi); rw [Nat.add_mul] at this; omega)]
  exact flatS_count h.wid i hi

set_option maxHeartbeats 1000000 in
theorem at_badA (g : Nat) (vp vf : Value) (room : Nat) (ps : List Pl) (fr : List Nat) (slot : Int) (w : World) (h : SlA w g vp vf room ps fr) (hv : Vac ps slot) : Calls Try.prog 48 #[.pointer (some ⟨g, 0, none⟩), .int .i64 slot] w fun e w' => e = .returned (.tuple #[.int .i64 0, .int .i64 7]) ∧ w' = w := by
  have c0 := h.c0
  have c2 := h.c2
  have HS := hidden h
  obtain ⟨a, c, rfl⟩ := lst_slice h.pls
  by_cases h1 : slot < 1
  · clear h hv
    go_enter Try.func48, Try.ntmps48
    go_wp2_with (go_at_call 46; refine (made_okA g _ c0).mono ?_; rintro e w' ⟨rfl, rfl⟩)
    go_ret2
    exact ⟨rfl, rfl⟩
  · by_cases h2 : (ps.length : Int) < slot
    · clear h hv
      go_enter Try.func48, Try.ntmps48
      go_wp2_with (go_at_call 46; refine (made_okA g _ c0).mono ?_; rintro e w' ⟨rfl, rfl⟩)
      go_ret2
      exact ⟨rfl, rfl⟩
    · obtain ⟨i, hi⟩ : ∃ i : Nat, slot - 1 = (i : Int) := ⟨(slot - 1).toNat, by omega⟩
      have hil : i < ps.length := by omega
      have hc := hv i (by omega)
      obtain ⟨gp, c', e, _⟩ := lst_pos h.pls (by omega)
      injection e with e1 _ e3
      subst e1
      subst e3
      have c4 := h.count i hil
      rw [hc] at c4
      have hw : wrap64 (i : Int) = i := Go.IntWalk.wrap64_in _ (by have := h.inv.len; have := h.inv.r2; omega)
      have j0 : (0 : Int) ≤ (i : Int) := by omega
      have j1 : (i : Int) < (ps.length : Int) := by omega
      clear h hv hc
      go_enter Try.func48, Try.ntmps48
      go_wp2_with (go_at_call 46; refine (made_okA g _ c0).mono ?_; rintro e w' ⟨rfl, rfl⟩)
      go_ret2
      exact ⟨rfl, rfl⟩

theorem SlA.at {w : World} {g : Nat} {vp vf : Value} {room : Nat} {ps : List Pl} {fr : List Nat} (h : SlA w g vp vf room ps fr) (i : Nat) (hi : 0 < cnt ps i) : ∃ gp c, vp = .slice (some ⟨gp, 0, none⟩) ps.length c ∧ w.cell? ⟨gp, i * (3 + 1), none⟩ = some (.int .i64 (cnt ps i : Int)) ∧ i < ps.length ∧ (0 : Int) ≤ (i : Int) ∧ (i : Int) < (ps.length : Int) ∧ wrap64 (i : Int) = i ∧ ps.length ≤ 65536 := by
  have hl := cnt_lt hi
  obtain ⟨gp, c, rfl, _⟩ := lst_pos h.pls (by omega)
  have h1 := h.inv.len
  have h2 := h.inv.r2
  exact ⟨gp, c, rfl, h.count i hl, hl, by omega, by omega, Go.IntWalk.wrap64_in _ (by omega), by omega⟩

set_option maxHeartbeats 1000000 in
theorem at_okA (g : Nat) (vp vf : Value) (room : Nat) (ps : List Pl) (fr : List Nat) (slot : Int) (i : Nat) (w : World) (h : SlA w g vp vf room ps fr) (hs : slot = (i : Int) + 1) (hi : 0 < cnt ps i) : Calls Try.prog 48 #[.pointer (some ⟨g, 0, none⟩), .int .i64 slot] w fun e w' => e = .returned (.tuple #[.int .i64 (i : Int), .int .i64 0]) ∧ w' = w := by
  have c0 := h.c0
  have c2 := h.c2
  obtain ⟨gp, c, rfl, c4, hil, j0, j1, hw, hm⟩ := h.at i hi
  have hne : ((cnt ps i : Int) == 0) = false := by simp; omega
  generalize cnt ps i = q at c4 hne
  have h1 : ¬ slot < 1 := by omega
  have h2 : ¬ (ps.length : Int) < slot := by omega
  have h3 : slot - 1 = (i : Int) := by omega
  clear h hs hi
  go_enter Try.func48, Try.ntmps48
  go_wp2_with (go_at_call 46; refine (made_okA g _ c0).mono ?_; rintro e w' ⟨rfl, rfl⟩)
  go_ret2
  exact ⟨rfl, rfl⟩

set_option maxHeartbeats 400000 in
theorem count_noA (v : Value) (slot : Int) (w : World) (h : NoA w v) : Calls Try.prog 18 #[v, .int .i64 slot] w fun e w' => e = .returned (.int .i64 0) ∧ w' = w := by
  have HN := hidden h
  clear h
  go_enter Try.func18, Try.ntmps18
  go_wp2_with (go_at_call 48; refine (at_noA v slot _ HN.out).mono ?_; rintro e w' ⟨rfl, rfl⟩)
  go_ret
  exact ⟨rfl, rfl⟩

set_option maxHeartbeats 400000 in
theorem count_badA (g : Nat) (vp vf : Value) (room : Nat) (ps : List Pl) (fr : List Nat) (slot : Int) (w : World) (h : SlA w g vp vf room ps fr) (hv : Vac ps slot) : Calls Try.prog 18 #[.pointer (some ⟨g, 0, none⟩), .int .i64 slot] w fun e w' => e = .returned (.int .i64 0) ∧ w' = w := by
  have HS := hidden h
  have HV := hidden hv
  clear h hv
  go_enter Try.func18, Try.ntmps18
  go_wp2_with (go_at_call 48; refine (at_badA g vp vf room ps fr slot _ HS.out HV.out).mono ?_; rintro e w' ⟨rfl, rfl⟩)
  go_ret
  exact ⟨rfl, rfl⟩

set_option maxHeartbeats 400000 in
theorem count_okA (g : Nat) (vp vf : Value) (room : Nat) (ps : List Pl) (fr : List Nat) (slot : Int) (i : Nat) (w : World) (h : SlA w g vp vf room ps fr) (hs : slot = (i : Int) + 1) (hi : 0 < cnt ps i) : Calls Try.prog 18 #[.pointer (some ⟨g, 0, none⟩), .int .i64 slot] w fun e w' => e = .returned (.int .i64 (cnt ps i : Int)) ∧ w' = w := by
  have HS := hidden h
  have HI := hidden hi
  have HE := hidden hs
  have c2 := h.c2
  obtain ⟨gp, c, rfl, c4, hil, j0, j1, hw, hm⟩ := h.at i hi
  obtain ⟨q, hq⟩ : ∃ q, q = cnt ps i := ⟨_, rfl⟩
  rw [← hq] at c4 ⊢
  have HQ := hidden hq
  clear h hs hi hq
  go_enter Try.func18, Try.ntmps18
  go_wp2_with (go_at_call 48; refine (at_okA g _ vf room ps fr slot i _ HS.out HE.out HI.out).mono ?_; rintro e w' ⟨rfl, rfl⟩)
  go_ret
  exact ⟨rfl, rfl⟩

set_option maxHeartbeats 400000 in
theorem len_noA (v : Value) (w : World) (h : NoA w v) : Calls Try.prog 17 #[v] w fun e w' => e = .returned (.int .i64 0) ∧ w' = w := by
  have HN := hidden h
  clear h
  go_enter Try.func17, Try.ntmps17
  go_wp2_with (go_at_call 46; refine (made_noA v _ HN.out).mono ?_; rintro e w' ⟨rfl, rfl⟩)
  go_ret
  exact ⟨rfl, rfl⟩

set_option maxHeartbeats 1000000 in
theorem len_okA (g : Nat) (vp vf : Value) (room : Nat) (ps : List Pl) (fr : List Nat) (w : World) (h : SlA w g vp vf room ps fr) : Calls Try.prog 17 #[.pointer (some ⟨g, 0, none⟩)] w fun e w' => e = .returned (.int .i64 (occs ps : Int)) ∧ Below w.heap.size w w' := by
  have c0 := h.c0
  have c2 := h.c2
  have c3 := h.c3
  obtain ⟨a, c, rfl⟩ := lst_slice h.pls
  obtain ⟨a', c', rfl⟩ := lst_slice h.frs
  have h1 := h.inv.len
  have h2 := h.inv.r2
  have h3 := h.inv.sum
  have HW : Hid (wrap64 ((ps.length : Int) - (fr.length : Int)) = (occs ps : Int)) := by
    show _ = _
    rw [Go.IntWalk.wrap64_in _ (by omega)]
    omega
  clear h h1 h2 h3
  go_enter Try.func17, Try.ntmps17
  go_wp2_with (go_at_call 46; refine (made_okA g _ c0).mono ?_; rintro e w' ⟨rfl, rfl⟩)
  go_quiet (fail)
  go_wp2
  go_ret
  exact ⟨by rw [← HW.out]; rfl, below_drewN (Below.refl _ _) _⟩

end Go.Proofs.Ytodigmmpodbpiaa
