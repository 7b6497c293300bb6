/- A slab in memory, of things of type store.cell, and its small calls, as contracts: New, made, at, Count, Len, Room. -/
import Derived.Test.YtgfdgjkbcdmboabGreatDoorLk02
import Derived.Test.YtgfdgjkbcdmboabGreatDoorLk07
namespace Go.Proofs.YtgfdgjkbcdmboabGreatDoor
set_option maxRecDepth 20000
open Go.RowKit

/-- A thing's cells. -/
def Th (z : List Value) : Prop := z.length = 71 ∧ ∀ u ∈ z, u.oneCell' = true
def zcl : List Value := List.replicate 32 (.int .u8 0) ++ (.int .u8 0 :: .int .i64 0 :: .int .i64 0 :: (List.replicate 32 (.int .u8 0) ++ [.slice none 0 0, .int .i64 0, .int .i64 0, .int .i64 0]))
theorem zcl_th : Th zcl := ⟨rfl, fun u hu => List.all_eq_true.1 (show zcl.all (·.oneCell') = true from rfl) u hu⟩

/-- Block g holds a slab: its room, its places, its free slots; vp and vf are its two lists. -/
structure SmC (w : World) (g : Nat) (vp vf : Value) (room : Nat) (ps : List Pl) (fr : List Nat) : Prop where
  blk : Blk w g 148 #[.pointer (some ⟨g, 0, none⟩), .int .i64 (room : Int), vp, vf]
  pls : Lst w 145 (71 + 1) vp ps.length (flatS ps)
  frs : Lst w 3 1 vf fr.length (nats fr)
  wid : Wid 71 ps

/-- The same, and it is a state that calls lead to. -/
structure SlC (w : World) (g : Nat) (vp vf : Value) (room : Nat) (ps : List Pl) (fr : List Nat) : Prop extends SmC w g vp vf room ps fr where
  inv : Inv room ps fr

theorem SmC.mod {w w' : World} {g : Nat} {vp vf : Value} {room : Nat} {ps : List Pl} {fr : List Nat} {S : List Nat} (h : SmC w g vp vf room ps fr) (m : Mod S w w') (hn : ∀ k ∈ slB g vp vf, k ∉ S) : SmC w' g vp vf room ps fr :=
  ⟨h.blk.mod m (hn g (by simp [slB])), lst_mod h.pls m (fun k hk => hn k (by simp [slB, hk])), lst_mod h.frs m (fun k hk => hn k (by simp [slB, hk])), h.wid⟩

theorem SlC.mod {w w' : World} {g : Nat} {vp vf : Value} {room : Nat} {ps : List Pl} {fr : List Nat} {S : List Nat} (h : SlC w g vp vf room ps fr) (m : Mod S w w') (hn : ∀ k ∈ slB g vp vf, k ∉ S) : SlC w' g vp vf room ps fr := ⟨h.toSmC.mod m hn, h.inv⟩

theorem size_slC : (Tryz.prog.info? 148).map (·.size) = some 4 := by kernel_rfl

theorem info_plC : ∃ i z, Tryz.prog.info? 145 = some i ∧ i.zero = some z ∧ i.size = 71 + 1 ∧ i.bytes = 144 ∧ z.cells.size = 71 + 1 := ⟨_, _, rfl, rfl, rfl, rfl, rfl⟩

theorem size_plC : (Tryz.prog.info? 145).map (·.size) = some (71 + 1) := by kernel_rfl

set_option maxHeartbeats 400000 in
theorem new_badC (room : Int) (w : World) (h : ¬ (1 ≤ room ∧ room ≤ 65536)) : Calls Tryz.prog 95 #[.int .i64 room] w fun e w' => e = .returned (.tuple #[.pointer none, .int .i64 2]) ∧ w' = w := by
  by_cases h1 : room < 1
  · go_enter Tryz.func95, Tryz.ntmps95
    go_wp2
    go_ret2
    exact ⟨rfl, rfl⟩
  · have h2 : 65536 < room := by omega
    clear h
    go_enter Tryz.func95, Tryz.ntmps95
    go_wp2
    go_ret2
    exact ⟨rfl, rfl⟩

set_option maxHeartbeats 400000 in
theorem new_okC (room : Nat) (w : World) (h1 : 1 ≤ room) (h2 : room ≤ 65536) : Calls Tryz.prog 95 #[.int .i64 (room : Int)] w fun e w' => ∃ g, e = .returned (.tuple #[.pointer (some ⟨g, 0, none⟩), .int .i64 0]) ∧ w.heap.size ≤ g ∧ SlC w' g (.slice none 0 0) (.slice none 0 0) room [] [] ∧ Below w.heap.size w w' := by
  have i1 : ¬ (room : Int) < 1 := by omega
  have i2 : ¬ 65536 < (room : Int) := by omega
  go_enter Tryz.func95, Tryz.ntmps95
  go_wp2
  go_ret2
  exact ⟨w.heap.size, rfl, Nat.le_refl _, ⟨⟨Blk.new _ _ _, World.ownsRow_nil _ _ _ _, World.ownsRow_nil _ _ _ _, Wid.nil _⟩, Inv.new h1 h2⟩, grow_alloc _ _⟩

/-- v is no slab: it points nowhere, or to one that New did not answer. -/
def NoC (w : World) (v : Value) : Prop := v = .pointer none ∨ ∃ g, v = .pointer (some ⟨g, 0, none⟩) ∧ w.cell? ⟨g, 0, none⟩ = some (.pointer none)

set_option maxHeartbeats 400000 in
theorem made_noC (v : Value) (w : World) (h : NoC w v) : Calls Tryz.prog 116 #[v] w fun e w' => e = .returned (.bool false) ∧ w' = w := by
  have hq := fun a => eql_none (P := Tryz.prog) w a Tryz.underlying58
  rcases h with rfl | ⟨g, rfl, hc⟩
  all_goals
    go_enter Tryz.func116, Tryz.ntmps116
    go_wp2
    go_ret
    exact ⟨rfl, rfl⟩

set_option maxHeartbeats 400000 in
theorem made_okC (g : Nat) (w : World) (hc : w.cell? ⟨g, 0, none⟩ = some (.pointer (some ⟨g, 0, none⟩))) : Calls Tryz.prog 116 #[.pointer (some ⟨g, 0, none⟩)] w fun e w' => e = .returned (.bool true) ∧ w' = w := by
  obtain ⟨j, hj⟩ : ∃ j, Tryz.prog.info? 148 = some j := ⟨_, rfl⟩
  have hq := fun a => run_eql_ptr_same (P := Tryz.prog) w a Tryz.underlying58 hj
  clear hj
  go_enter Tryz.func116, Tryz.ntmps116
  go_wp2
  go_ret
  exact ⟨rfl, rfl⟩

set_option maxHeartbeats 400000 in
theorem at_noC (v : Value) (slot : Int) (w : World) (h : NoC w v) : Calls Tryz.prog 88 #[v, .int .i64 slot] w fun e w' => e = .returned (.tuple #[.int .i64 0, .int .i64 1]) ∧ w' = w := by
  have HN := hidden h
  clear h
  go_enter Tryz.func88, Tryz.ntmps88
  go_wp2_with (go_at_call 116; refine (made_noC v _ HN.out).mono ?_; rintro e w' ⟨rfl, rfl⟩)
  go_ret2
  exact ⟨rfl, rfl⟩

theorem SmC.c0 {w : World} {g : Nat} {vp vf : Value} {room : Nat} {ps : List Pl} {fr : List Nat} (h : SmC w g vp vf room ps fr) : w.cell? ⟨g, 0, none⟩ = some (.pointer (some ⟨g, 0, none⟩)) := by rw [h.blk.cell]; rfl
theorem SmC.c1 {w : World} {g : Nat} {vp vf : Value} {room : Nat} {ps : List Pl} {fr : List Nat} (h : SmC w g vp vf room ps fr) : w.cell? ⟨g, 1, none⟩ = some (.int .i64 (room : Int)) := by rw [h.blk.cell]; rfl
theorem SmC.c2 {w : World} {g : Nat} {vp vf : Value} {room : Nat} {ps : List Pl} {fr : List Nat} (h : SmC w g vp vf room ps fr) : w.cell? ⟨g, 2, none⟩ = some vp := by rw [h.blk.cell]; rfl
theorem SmC.c3 {w : World} {g : Nat} {vp vf : Value} {room : Nat} {ps : List Pl} {fr : List Nat} (h : SmC w g vp vf room ps fr) : w.cell? ⟨g, 3, none⟩ = some vf := by rw [h.blk.cell]; rfl
theorem SmC.count {w : World} {g gp n c : Nat} {vf : Value} {room : Nat} {ps : List Pl} {fr : List Nat} (h : SmC w g (.slice (some ⟨gp, 0, none⟩) n c) vf room ps fr) (i : Nat) (hi : i < ps.length) : w.cell? ⟨gp, i * (71 + 1), none⟩ = some (.int .i64 (cnt ps i : Int)) := by
  have hp := h.pls
  obtain rfl : n = ps.length := by
    obtain ⟨_, _, e⟩ := lst_slice hp
    injection e
  rw [lst_cell hp _ (by have := Nat.mul_le_mul_right (71 + 1) (show i + 1 ≤ ps.length from hi); rw [Nat.add_mul] at this; omega)]
  exact flatS_count h.wid i hi

set_option maxHeartbeats 1000000 in
theorem at_badC (g : Nat) (vp vf : Value) (room : Nat) (ps : List Pl) (fr : List Nat) (slot : Int) (w : World) (h : SlC w g vp vf room ps fr) (hv : Vac ps slot) : Calls Tryz.prog 88 #[.pointer (some ⟨g, 0, none⟩), .int .i64 slot] w fun e w' => e = .returned (.tuple #[.int .i64 0, .int .i64 7]) ∧ w' = w := by
  have c0 := h.c0
  have c2 := h.c2
  have HS := hidden h
  obtain ⟨a, c, rfl⟩ := lst_slice h.pls
  by_cases h1 : slot < 1
  · clear h hv
    go_enter Tryz.func88, Tryz.ntmps88
    go_wp2_with (go_at_call 116; refine (made_okC g _ c0).mono ?_; rintro e w' ⟨rfl, rfl⟩)
    go_ret2
    exact ⟨rfl, rfl⟩
  · by_cases h2 : (ps.length : Int) < slot
    · clear h hv
      go_enter Tryz.func88, Tryz.ntmps88
      go_wp2_with (go_at_call 116; refine (made_okC g _ c0).mono ?_; rintro e w' ⟨rfl, rfl⟩)
      go_ret2
      exact ⟨rfl, rfl⟩
    · obtain ⟨i, hi⟩ : ∃ i : Nat, slot - 1 = (i : Int) := ⟨(slot - 1).toNat, by omega⟩
      have hil : i < ps.length := by omega
      have hc := hv i (by omega)
      obtain ⟨gp, c', e, _⟩ := lst_pos h.pls (by omega)
      injection e with e1 _ e3
      subst e1
      subst e3
      have c4 := h.count i hil
      rw [hc] at c4
      have hw : wrap64 (i : Int) = i := Go.IntWalk.wrap64_in _ (by have := h.inv.len; have := h.inv.r2; omega)
      have j0 : (0 : Int) ≤ (i : Int) := by omega
      have j1 : (i : Int) < (ps.length : Int) := by omega
      clear h hv hc
      go_enter Tryz.func88, Tryz.ntmps88
      go_wp2_with (go_at_call 116; refine (made_okC g _ c0).mono ?_; rintro e w' ⟨rfl, rfl⟩)
      go_ret2
      exact ⟨rfl, rfl⟩

theorem SlC.at {w : World} {g : Nat} {vp vf : Value} {room : Nat} {ps : List Pl} {fr : List Nat} (h : SlC w g vp vf room ps fr) (i : Nat) (hi : 0 < cnt ps i) : ∃ gp c, vp = .slice (some ⟨gp, 0, none⟩) ps.length c ∧ w.cell? ⟨gp, i * (71 + 1), none⟩ = some (.int .i64 (cnt ps i : Int)) ∧ i < ps.length ∧ (0 : Int) ≤ (i : Int) ∧ (i : Int) < (ps.length : Int) ∧ wrap64 (i : Int) = i ∧ ps.length ≤ 65536 := by
  have hl := cnt_lt hi
  obtain ⟨gp, c, rfl, _⟩ := lst_pos h.pls (by omega)
  have h1 := h.inv.len
  have h2 := h.inv.r2
  exact ⟨gp, c, rfl, h.count i hl, hl, by omega, by omega, Go.IntWalk.wrap64_in _ (by omega), by omega⟩

set_option maxHeartbeats 1000000 in
theorem at_okC (g : Nat) (vp vf : Value) (room : Nat) (ps : List Pl) (fr : List Nat) (slot : Int) (i : Nat) (w : World) (h : SlC w g vp vf room ps fr) (hs : slot = (i : Int) + 1) (hi : 0 < cnt ps i) : Calls Tryz.prog 88 #[.pointer (some ⟨g, 0, none⟩), .int .i64 slot] w fun e w' => e = .returned (.tuple #[.int .i64 (i : Int), .int .i64 0]) ∧ w' = w := by
  have c0 := h.c0
  have c2 := h.c2
  obtain ⟨gp, c, rfl, c4, hil, j0, j1, hw, hm⟩ := h.at i hi
  have hne : ((cnt ps i : Int) == 0) = false := by simp; omega
  generalize cnt ps i = q at c4 hne
  have h1 : ¬ slot < 1 := by omega
  have h2 : ¬ (ps.length : Int) < slot := by omega
  have h3 : slot - 1 = (i : Int) := by omega
  clear h hs hi
  go_enter Tryz.func88, Tryz.ntmps88
  go_wp2_with (go_at_call 116; refine (made_okC g _ c0).mono ?_; rintro e w' ⟨rfl, rfl⟩)
  go_ret2
  exact ⟨rfl, rfl⟩

set_option maxHeartbeats 400000 in
theorem count_noC (v : Value) (slot : Int) (w : World) (h : NoC w v) : Calls Tryz.prog 115 #[v, .int .i64 slot] w fun e w' => e = .returned (.int .i64 0) ∧ w' = w := by
  have HN := hidden h
  clear h
  go_enter Tryz.func115, Tryz.ntmps115
  go_wp2_with (go_at_call 88; refine (at_noC v slot _ HN.out).mono ?_; rintro e w' ⟨rfl, rfl⟩)
  go_ret
  exact ⟨rfl, rfl⟩

set_option maxHeartbeats 400000 in
theorem count_badC (g : Nat) (vp vf : Value) (room : Nat) (ps : List Pl) (fr : List Nat) (slot : Int) (w : World) (h : SlC w g vp vf room ps fr) (hv : Vac ps slot) : Calls Tryz.prog 115 #[.pointer (some ⟨g, 0, none⟩), .int .i64 slot] w fun e w' => e = .returned (.int .i64 0) ∧ w' = w := by
  have HS := hidden h
  have HV := hidden hv
  clear h hv
  go_enter Tryz.func115, Tryz.ntmps115
  go_wp2_with (go_at_call 88; refine (at_badC g vp vf room ps fr slot _ HS.out HV.out).mono ?_; rintro e w' ⟨rfl, rfl⟩)
  go_ret
  exact ⟨rfl, rfl⟩

set_option maxHeartbeats 400000 in
theorem count_okC (g : Nat) (vp vf : Value) (room : Nat) (ps : List Pl) (fr : List Nat) (slot : Int) (i : Nat) (w : World) (h : SlC w g vp vf room ps fr) (hs : slot = (i : Int) + 1) (hi : 0 < cnt ps i) : Calls Tryz.prog 115 #[.pointer (some ⟨g, 0, none⟩), .int .i64 slot] w fun e w' => e = .returned (.int .i64 (cnt ps i : Int)) ∧ w' = w := by
  have HS := hidden h
  have HI := hidden hi
  have HE := hidden hs
  have c2 := h.c2
  obtain ⟨gp, c, rfl, c4, hil, j0, j1, hw, hm⟩ := h.at i hi
  obtain ⟨q, hq⟩ : ∃ q, q = cnt ps i := ⟨_, rfl⟩
  rw [← hq] at c4 ⊢
  have HQ := hidden hq
  clear h hs hi hq
  go_enter Tryz.func115, Tryz.ntmps115
  go_wp2_with (go_at_call 88; refine (at_okC g _ vf room ps fr slot i _ HS.out HE.out HI.out).mono ?_; rintro e w' ⟨rfl, rfl⟩)
  go_ret
  exact ⟨rfl, rfl⟩

set_option maxHeartbeats 400000 in
theorem len_noC (v : Value) (w : World) (h : NoC w v) : Calls Tryz.prog 145 #[v] w fun e w' => e = .returned (.int .i64 0) ∧ w' = w := by
  have HN := hidden h
  clear h
  go_enter Tryz.func145, Tryz.ntmps145
  go_wp2_with (go_at_call 116; refine (made_noC v _ HN.out).mono ?_; rintro e w' ⟨rfl, rfl⟩)
  go_ret
  exact ⟨rfl, rfl⟩

set_option maxHeartbeats 400000 in
theorem room_noC (v : Value) (w : World) (h : NoC w v) : Calls Tryz.prog 146 #[v] w fun e w' => e = .returned (.int .i64 0) ∧ w' = w := by
  have HN := hidden h
  clear h
  go_enter Tryz.func146, Tryz.ntmps146
  go_wp2_with (go_at_call 116; refine (made_noC v _ HN.out).mono ?_; rintro e w' ⟨rfl, rfl⟩)
  go_ret
  exact ⟨rfl, rfl⟩

set_option maxHeartbeats 400000 in
theorem room_okC (g : Nat) (vp vf : Value) (room : Nat) (ps : List Pl) (fr : List Nat) (w : World) (h : SlC w g vp vf room ps fr) : Calls Tryz.prog 146 #[.pointer (some ⟨g, 0, none⟩)] w fun e w' => e = .returned (.int .i64 (room : Int)) ∧ w' = w := by
  have c0 := h.c0
  have c1 := h.c1
  clear h
  go_enter Tryz.func146, Tryz.ntmps146
  go_wp2_with (go_at_call 116; refine (made_okC g _ c0).mono ?_; rintro e w' ⟨rfl, rfl⟩)
  go_ret
  exact ⟨rfl, rfl⟩

set_option maxHeartbeats 1000000 in
theorem len_okC (g : Nat) (vp vf : Value) (room : Nat) (ps : List Pl) (fr : List Nat) (w : World) (h : SlC w g vp vf room ps fr) : Calls Tryz.prog 145 #[.pointer (some ⟨g, 0, none⟩)] w fun e w' => e = .returned (.int .i64 (occs ps : Int)) ∧ Below w.heap.size w w' := by
  have c0 := h.c0
  have c2 := h.c2
  have c3 := h.c3
  obtain ⟨a, c, rfl⟩ := lst_slice h.pls
  obtain ⟨a', c', rfl⟩ := lst_slice h.frs
  have h1 := h.inv.len
  have h2 := h.inv.r2
  have h3 := h.inv.sum
  have HW : Hid (wrap64 ((ps.length : Int) - (fr.length : Int)) = (occs ps : Int)) := by
    show _ = _
    rw [Go.IntWalk.wrap64_in _ (by omega)]
    omega
  clear h h1 h2 h3
  go_enter Tryz.func145, Tryz.ntmps145
  go_wp2_with (go_at_call 116; refine (made_okC g _ c0).mono ?_; rintro e w' ⟨rfl, rfl⟩)
  go_quiet (fail)
  go_wp2
  go_ret
  exact ⟨by rw [← HW.out]; rfl, below_drewN (Below.refl _ _) _⟩

end Go.Proofs.YtgfdgjkbcdmboabGreatDoor

/- A slab's calls that turn it, of things of type store.cell, as contracts: vacant. -/
namespace Go.Proofs.YtgfdgjkbcdmboabGreatDoor
set_option maxRecDepth 20000
open Go.RowKit

/-- The slab at g has turned to this, and nothing but its own blocks. -/
def TurnC (w : World) (g : Nat) (S : List Nat) (room : Nat) (ps : List Pl) (fr : List Nat) (w' : World) : Prop := ∃ vp vf, SlC w' g vp vf room ps fr ∧ Mod S w w' ∧ New S w (slB g vp vf)

theorem tne1C : (145 : Nat) ≠ 148 := by decide

theorem tne2C : (3 : Nat) ≠ 148 := by decide

theorem tne3C : (145 : Nat) ≠ 3 := by decide

/-- The places' list stored anew. -/
theorem mk2C {w : World} {g : Nat} {p vp vf vp' : Value} {room : Nat} {ps : List Pl} {fr : List Nat} (hb : Blk w g 148 #[p, .int .i64 (room : Int), vp, vf]) (he : p = .pointer (some ⟨g, 0, none⟩)) (hp : Lst w 145 (71 + 1) vp' ps.length (flatS ps)) (hf : Lst w 3 1 vf fr.length (nats fr)) (hw : Wid 71 ps) : SmC (w.setCell ⟨g, 2, none⟩ vp') g vp' vf room ps fr := by
  have m : Mod [g] w (w.setCell ⟨g, 2, none⟩ vp') := Mod.setCell w g 2 vp' (by simp)
  refine ⟨?_, lst_mod hp m (fun k hk e => ?_), lst_mod hf m (fun k hk e => ?_), hw⟩
  · subst he
    exact hb.set 2 vp'
  · obtain rfl : k = g := by simpa using e
    exact lst_blk_ne hp hb tne1C hk
  · obtain rfl : k = g := by simpa using e
    exact lst_blk_ne hf hb tne2C hk

/-- The free slots' list stored anew. -/
theorem mk3C {w : World} {g : Nat} {p vp vf vf' : Value} {room : Nat} {ps : List Pl} {fr : List Nat} (hb : Blk w g 148 #[p, .int .i64 (room : Int), vp, vf]) (he : p = .pointer (some ⟨g, 0, none⟩)) (hp : Lst w 145 (71 + 1) vp ps.length (flatS ps)) (hf : Lst w 3 1 vf' fr.length (nats fr)) (hw : Wid 71 ps) : SmC (w.setCell ⟨g, 3, none⟩ vf') g vp vf' room ps fr := by
  have m : Mod [g] w (w.setCell ⟨g, 3, none⟩ vf') := Mod.setCell w g 3 vf' (by simp)
  refine ⟨?_, lst_mod hp m (fun k hk e => ?_), lst_mod hf m (fun k hk e => ?_), hw⟩
  · subst he
    exact hb.set 3 vf'
  · obtain rfl : k = g := by simpa using e
    exact lst_blk_ne hp hb tne1C hk
  · obtain rfl : k = g := by simpa using e
    exact lst_blk_ne hf hb tne2C hk

/-- The places written over within their block. -/
theorem SmC.over {w w' : World} {g gp n c : Nat} {vf : Value} {room : Nat} {ps ps' : List Pl} {fr : List Nat} (h : SmC w g (.slice (some ⟨gp, 0, none⟩) n c) vf room ps fr) (m : Mod [gp] w w') (hp : Lst w' 145 (71 + 1) (.slice (some ⟨gp, 0, none⟩) n c) ps'.length (flatS ps')) (hw : Wid 71 ps') : SmC w' g (.slice (some ⟨gp, 0, none⟩) n c) vf room ps' fr := by
  refine ⟨h.blk.mod m ?_, hp, lst_mod h.frs m (fun k hk e => ?_), hw⟩
  · intro e
    obtain rfl : g = gp := by simpa using e
    exact lst_blk_ne h.pls h.blk tne1C rfl
  · obtain rfl : k = gp := by simpa using e
    exact lst_ne h.pls h.frs tne3C k rfl hk

theorem SmC.free {w : World} {g gf n c : Nat} {vp : Value} {room : Nat} {ps : List Pl} {fr : List Nat} (h : SmC w g vp (.slice (some ⟨gf, 0, none⟩) n c) room ps fr) (i : Nat) (hi : i < fr.length) : w.cell? ⟨gf, i, none⟩ = some (.int .i64 (fr.getD i 0 : Nat)) := by
  have hp := h.frs
  obtain rfl : n = fr.length := by
    obtain ⟨_, _, e⟩ := lst_slice hp
    injection e
  rw [lst_cell hp _ (by omega)]
  exact nats_get fr i hi

set_option maxHeartbeats 1000000 in
theorem vac_freeC (g : Nat) (vp vf : Value) (room : Nat) (ps : List Pl) (fr : List Nat) (s : Nat) (w : World) (h : SmC w g vp vf room ps (fr ++ [s])) (hl : fr.length ≤ 65536) : Calls Tryz.prog 182 #[.pointer (some ⟨g, 0, none⟩)] w fun e w' => ∃ vf', e = .returned (.tuple #[.int .i64 (s : Int), .bool true]) ∧ SmC w' g vp vf' room ps fr ∧ Mod [g] w w' ∧ vf'.ownBlock = vf.ownBlock := by
  have c3 := h.c3
  have f3 := h.blk.frozen 3
  have HS := hidden h
  obtain ⟨gf, c, rfl, hcap⟩ := lst_pos h.frs (by simp)
  have c4 := h.free fr.length (by simp)
  rw [show (fr ++ [s]).getD fr.length 0 = s by simp [List.getD]] at c4
  rw [List.length_append, List.length_singleton] at c3 hcap
  have j0 : (0 : Int) ≤ (fr.length : Int) := by omega
  have j1 : (fr.length : Int) < ((fr.length + 1 : Nat) : Int) := by omega
  have j2 : (fr.length : Int) ≤ (c : Int) := by omega
  clear h
  go_enter Tryz.func182, Tryz.ntmps182
  go_wp2
  go_ret2
  have h := HS.out
  have hc := lst_cut (m := fr.length) h.frs (by simp)
  rw [Nat.mul_one, nats_take, List.take_left] at hc
  exact ⟨_, rfl, mk3C h.blk rfl h.pls hc h.wid, Mod.setCell _ _ _ _ (by simp), rfl⟩

set_option maxHeartbeats 1000000 in
theorem vac_fullC (g : Nat) (vp vf : Value) (room : Nat) (ps : List Pl) (w : World) (h : SmC w g vp vf room ps []) (hl : ps.length = room) : Calls Tryz.prog 182 #[.pointer (some ⟨g, 0, none⟩)] w fun e w' => e = .returned (.tuple #[.int .i64 0, .bool false]) ∧ Below w.heap.size w w' := by
  have c1 := h.c1
  have c2 := h.c2
  have c3 := h.c3
  obtain ⟨a, c, rfl⟩ := lst_slice h.frs
  obtain ⟨a', c', rfl⟩ := lst_slice h.pls
  subst hl
  clear h
  go_enter Tryz.func182, Tryz.ntmps182
  go_wp2
  go_quiet (fail)
  go_wp2
  go_ret2
  exact ⟨rfl, below_drewN (Below.refl _ _) _⟩

theorem zplC : Tryz.prog.built 145 [] = some (Value.int .i64 0 :: zcl).toArray := by kernel_rfl

theorem zoneC : ∀ u ∈ (Value.int .i64 0 :: zcl), u.oneCell' = true := fun u hu => List.all_eq_true.1 (show (Value.int .i64 0 :: zcl).all (·.oneCell') = true from rfl) u hu

theorem xoneC (z : List Value) (hz : Th z) (c : Int) : ∀ u ∈ (Value.int .i64 c :: z), u.oneCell' = true := fun u hu => by
  rcases List.mem_cons.1 hu with rfl | hu
  · rfl
  · exact hz.2 u hu

theorem xlenC (z : List Value) (hz : Th z) : (z : List Value).length = 71 := hz.1

set_option maxHeartbeats 1000000 in
theorem vac_newC (g : Nat) (vp vf : Value) (room : Nat) (ps : List Pl) (w : World) (h : SmC w g vp vf room ps []) (hl : ps.length < room) (hr : room ≤ 65536) : Calls Tryz.prog 182 #[.pointer (some ⟨g, 0, none⟩)] w fun e w' => ∃ vp', e = .returned (.tuple #[.int .i64 ((ps.length + 1 : Nat) : Int), .bool true]) ∧ SmC w' g vp' vf room (ps ++ [(0, zcl)]) [] ∧ Mod (slB g vp vf) w w' ∧ WhereL w vp vp' := by
  have c1 := h.c1
  have c2 := h.c2
  have c3 := h.c3
  have f2 := h.blk.frozen 2
  have HS := hidden h
  obtain ⟨a, c, rfl⟩ := lst_slice h.frs
  obtain ⟨a', c', rfl⟩ := lst_slice h.pls
  have hne : ((ps.length : Int) == (room : Int)) = false := by simp; omega
  clear h
  go_enter Tryz.func182, Tryz.ntmps182
  go_wp2
  go_quiet (fail)
  obtain ⟨w1, hw1⟩ : ∃ x, x = w.drewN nq := ⟨_, rfl⟩
  have HM : Hid (Mod [] w w1) := by rw [hw1]; exact Mod.drewN _ _ _
  have HS1 : Hid (SmC w1 g (.slice a' ps.length c') (.slice a 0 c) room ps []) := HS.out.mod HM.out (fun _ _ h => by cases h)
  rw [← hw1]
  clear c1 c2 c3 f2 HS hw1
  have c2 := HS1.out.c2
  have f2 := HS1.out.blk.frozen 2
  have HL : Hid (ps.length + 1 ≤ 65536) := by show ps.length + 1 ≤ 65536; omega
  clear hl hr
  go_wp2_with (at_builtin; refine wpList_appL _ rfl _ _ _ rfl 145 (71 + 1) 144 Tryz.underlying146 info_plC (by omega) _ ps.length (flatS ps) rfl (lst_grow HS1.out.pls (grow_alloc _ _)) w1.heap.size (Value.int .i64 0 :: zcl) rfl (Blk.new _ _ _) rfl zoneC (by have := HL.out; simp only [maxLen]; omega) (by have := HL.out; omega) ?_; intro v' w2 h2 g2 wh; obtain ⟨a2, c4, rfl⟩ := lst_slice h2; have hb2 := (HS1.out.blk.grow (grow_alloc w1 (.cells (Value.int .i64 0 :: zcl).toArray 145))).of_block (g2.block g (by have := HS1.out.blk.lt; simp; omega) (fun e => lst_blk_ne HS1.out.pls HS1.out.blk tne1C e.symm)); have c5 : w2.cell? ⟨g, 2, none⟩ = some (.slice a' ps.length c') := (by rw [hb2.cell]; rfl); have f5 := hb2.frozen 2)
  go_ret2
  have hpl : Lst w2 145 (71 + 1) (.slice a2 (ps.length + 1) c4) (ps ++ [(0, zcl)]).length (flatS (ps ++ [(0, zcl)])) := by
    rw [flatS_snoc, List.length_append, List.length_singleton]
    exact h2
  have hwd : Wid 71 (ps ++ [(0, zcl)]) := HS1.out.wid.snoc 0 _ rfl (fun u hu => zoneC u (by simp only [List.mem_cons]; exact .inr (by simpa using hu)))
  have hfr : Lst w2 3 1 (.slice a 0 c) 0 (nats []) := lst_mod (lst_grow HS1.out.frs (grow_alloc _ _)) (Mod.of_grown g2 (S := slB g (.slice a' ps.length c') (.slice none 0 0)) (fun k hk => slB_mem.2 (.inr (.inl hk)))) (fun k hk hn => by
    rcases slB_mem.1 hn with rfl | h | h
    · exact lst_blk_ne HS1.out.frs HS1.out.blk tne2C hk
    · exact lst_ne HS1.out.pls HS1.out.frs tne3C k h hk
    · cases h)
  refine ⟨_, rfl, mk2C hb2 rfl hpl hfr hwd, ?_, ?_⟩
  · have m1 : Mod (slB g (.slice a' ps.length c') (.slice a 0 c)) w w1 := HM.out.mono (fun _ h => by cases h)
    have m2 : Mod (slB g (.slice a' ps.length c') (.slice a 0 c)) w1 w2 := (Mod.alloc w1 _ _).trans' (Mod.of_grown g2 (fun k hk => slB_mem.2 (.inr (.inl hk))))
    exact (m1.trans' m2).trans' (Mod.setCell _ _ _ _ (slB_mem.2 (.inl rfl)))
  · rcases wh with e | ⟨k, e, hk⟩
    · exact .inl e
    · refine .inr ⟨k, e, ?_⟩
      have := HM.out.size
      simp at hk
      omega

end Go.Proofs.YtgfdgjkbcdmboabGreatDoor

/- More calls of a slab, of things of type store.cell, as contracts: Hold, Drop. -/
namespace Go.Proofs.YtgfdgjkbcdmboabGreatDoor
set_option maxRecDepth 20000
open Go.RowKit

set_option maxHeartbeats 400000 in
theorem hold_noC (v : Value) (slot : Int) (w : World) (h : NoC w v) : Calls Tryz.prog 104 #[v, .int .i64 slot] w fun e w' => e = .returned (.int .i64 1) ∧ w' = w := by
  have HN := hidden h
  clear h
  go_enter Tryz.func104, Tryz.ntmps104
  go_wp2_with (go_at_call 88; refine (at_noC v slot _ HN.out).mono ?_; rintro e w' ⟨rfl, rfl⟩)
  go_ret
  exact ⟨rfl, rfl⟩

set_option maxHeartbeats 400000 in
theorem hold_badC (g : Nat) (vp vf : Value) (room : Nat) (ps : List Pl) (fr : List Nat) (slot : Int) (w : World) (h : SlC w g vp vf room ps fr) (hv : Vac ps slot) : Calls Tryz.prog 104 #[.pointer (some ⟨g, 0, none⟩), .int .i64 slot] w fun e w' => e = .returned (.int .i64 7) ∧ w' = w := by
  have HS := hidden h
  have HV := hidden hv
  clear h hv
  go_enter Tryz.func104, Tryz.ntmps104
  go_wp2_with (go_at_call 88; refine (at_badC g vp vf room ps fr slot _ HS.out HV.out).mono ?_; rintro e w' ⟨rfl, rfl⟩)
  go_ret
  exact ⟨rfl, rfl⟩

set_option maxHeartbeats 1000000 in
theorem hold_longC (g : Nat) (vp vf : Value) (room : Nat) (ps : List Pl) (fr : List Nat) (slot : Int) (i : Nat) (w : World) (h : SlC w g vp vf room ps fr) (hs : slot = (i : Int) + 1) (hi : 0 < cnt ps i) (hc : cnt ps i = 1073741824) : Calls Tryz.prog 104 #[.pointer (some ⟨g, 0, none⟩), .int .i64 slot] w fun e w' => e = .returned (.int .i64 4) ∧ w' = w := by
  have HS := hidden h
  have HI := hidden hi
  have HE := hidden hs
  have c2 := h.c2
  obtain ⟨gp, c, rfl, c4, hil, j0, j1, hw, hm⟩ := h.at i hi
  have HIL := hidden hil
  have hle := h.inv.most i
  rw [hc] at c4
  clear h hs hi hc hle
  go_enter Tryz.func104, Tryz.ntmps104
  go_wp2_with (first
    | (go_at_call 88; refine (at_okC g _ vf room ps fr slot i _ HS.out HE.out HI.out).mono ?_; rintro e w' ⟨rfl, rfl⟩))
  go_ret
  exact ⟨rfl, rfl⟩

set_option maxHeartbeats 1000000 in
theorem hold_okC (g : Nat) (vp vf : Value) (room : Nat) (ps : List Pl) (fr : List Nat) (slot : Int) (i : Nat) (w : World) (h : SlC w g vp vf room ps fr) (hs : slot = (i : Int) + 1) (hi : 0 < cnt ps i) (hc : cnt ps i < 1073741824) : Calls Tryz.prog 104 #[.pointer (some ⟨g, 0, none⟩), .int .i64 slot] w fun e w' => e = .returned (.int .i64 0) ∧ TurnC w g (slB g vp vf) room (ps.set i (cnt ps i + 1, thg ps i)) fr w' := by
  have HS := hidden h
  have HI := hidden hi
  have HE := hidden hs
  have c2 := h.c2
  obtain ⟨gp, c, rfl, c4, hil, j0, j1, hw, hm⟩ := h.at i hi
  have HIL := hidden hil
  have hle := h.inv.most i
  obtain ⟨q, hq⟩ : ∃ q, q = cnt ps i := ⟨_, rfl⟩
  rw [← hq] at c4 hle
  have HQ := hidden hq
  rw [← hq]
  have hne : ((q : Int) == 1073741824) = false := by simp; omega
  have f4 := lst_frozen h.pls (i * (71 + 1))
  have hw1 : wrap64 ((q : Int) + 1) = ((q + 1 : Nat) : Int) := by rw [Go.IntWalk.wrap64_in _ (by omega)]; rfl
  have HC : Hid (q + 1 ≤ 1073741824) := by show q + 1 ≤ 1073741824; omega
  clear h hs hi hc hq hle
  go_enter Tryz.func104, Tryz.ntmps104
  go_wp2_with (first
    | (go_at_call 88; refine (at_okC g _ vf room ps fr slot i _ HS.out HE.out HI.out).mono ?_; rintro e w' ⟨rfl, rfl⟩))
  go_ret
  have h := HS.out
  have hl2 := lst_set h.pls (i * (71 + 1)) (.int .i64 ((q + 1 : Nat) : Int))
  rw [flatS_setCount h.wid i (q + 1) HIL.out] at hl2
  have m2 : Mod [gp] w' (w'.setCell ⟨gp, i * (71 + 1), none⟩ (.int .i64 ((q + 1 : Nat) : Int))) := Mod.setCell _ _ _ _ (by simp)
  obtain ⟨t1, t2⟩ := h.wid.at i HIL.out
  refine ⟨rfl, _, _, ⟨h.toSmC.over m2 (ps' := ps.set i (q + 1, thg ps i)) (by rw [List.length_set]; exact hl2) (h.wid.set i _ _ t1 t2), h.inv.held HI.out (by omega) HC.out _⟩, m2.mono (fun k hk => by simp at hk; exact slB_mem.2 (.inr (.inl (by rw [hk]; rfl)))), New.refl _ _⟩

set_option maxHeartbeats 400000 in
theorem drop_noC (v : Value) (slot : Int) (w : World) (h : NoC w v) : Calls Tryz.prog 54 #[v, .int .i64 slot] w fun e w' => e = .returned (.tuple #[.bool false, .int .i64 1]) ∧ w' = w := by
  have HN := hidden h
  clear h
  go_enter Tryz.func54, Tryz.ntmps54
  go_wp2_with (go_at_call 88; refine (at_noC v slot _ HN.out).mono ?_; rintro e w' ⟨rfl, rfl⟩)
  go_ret2
  exact ⟨rfl, rfl⟩

set_option maxHeartbeats 400000 in
theorem drop_badC (g : Nat) (vp vf : Value) (room : Nat) (ps : List Pl) (fr : List Nat) (slot : Int) (w : World) (h : SlC w g vp vf room ps fr) (hv : Vac ps slot) : Calls Tryz.prog 54 #[.pointer (some ⟨g, 0, none⟩), .int .i64 slot] w fun e w' => e = .returned (.tuple #[.bool false, .int .i64 7]) ∧ w' = w := by
  have HS := hidden h
  have HV := hidden hv
  clear h hv
  go_enter Tryz.func54, Tryz.ntmps54
  go_wp2_with (go_at_call 88; refine (at_badC g vp vf room ps fr slot _ HS.out HV.out).mono ?_; rintro e w' ⟨rfl, rfl⟩)
  go_ret2
  exact ⟨rfl, rfl⟩

set_option maxHeartbeats 1000000 in
theorem drop_moreC (g : Nat) (vp vf : Value) (room : Nat) (ps : List Pl) (fr : List Nat) (slot : Int) (i : Nat) (w : World) (h : SlC w g vp vf room ps fr) (hs : slot = (i : Int) + 1) (hi : 0 < cnt ps i) (hc : 1 < cnt ps i) : Calls Tryz.prog 54 #[.pointer (some ⟨g, 0, none⟩), .int .i64 slot] w fun e w' => e = .returned (.tuple #[.bool false, .int .i64 0]) ∧ TurnC w g (slB g vp vf) room (ps.set i (cnt ps i - 1, thg ps i)) fr w' := by
  have HS := hidden h
  have HI := hidden hi
  have HE := hidden hs
  have c2 := h.c2
  obtain ⟨gp, c, rfl, c4, hil, j0, j1, hw, hm⟩ := h.at i hi
  have HIL := hidden hil
  have hle := h.inv.most i
  obtain ⟨q, hq⟩ : ∃ q, q = cnt ps i := ⟨_, rfl⟩
  rw [← hq] at c4 hle
  have HQ := hidden hq
  rw [← hq]
  obtain ⟨r, hr⟩ : ∃ r, q = r + 1 := ⟨q - 1, by omega⟩
  subst hr
  have f4 := lst_frozen h.pls (i * (71 + 1))
  have hw1 : wrap64 (r : Int) = (r : Int) := Go.IntWalk.wrap64_in _ (by omega)
  have r0 : (0 : Int) < (r : Int) := by omega
  have c5 : (w.setCell ⟨gp, i * (71 + 1), none⟩ (.int .i64 (r : Int))).cell? ⟨g, 2, none⟩ = some (.slice (some ⟨gp, 0, none⟩) ps.length c) := by
    rw [cell_set_ne _ _ _ _ _ _ (fun e => lst_blk_ne h.pls h.blk tne1C (by rw [e]; rfl))]
    exact c2
  have c6 : (w.setCell ⟨gp, i * (71 + 1), none⟩ (.int .i64 (r : Int))).cell? ⟨gp, i * (71 + 1), none⟩ = some (.int .i64 (r : Int)) := World.cell?_setCell_same' _ _ _ (by rw [c4]; rfl)
  have HC : Hid (r ≤ 1073741824 ∧ 0 < r) := by show r ≤ 1073741824 ∧ 0 < r; omega
  clear h hs hi hc hq hle
  go_enter Tryz.func54, Tryz.ntmps54
  go_wp2_with (first
    | (go_at_call 88; refine (at_okC g _ vf room ps fr slot i _ HS.out HE.out HI.out).mono ?_; rintro e w' ⟨rfl, rfl⟩))
  go_ret2
  have h := HS.out
  have hl2 := lst_set h.pls (i * (71 + 1)) (.int .i64 (r : Int))
  rw [flatS_setCount h.wid i r HIL.out] at hl2
  have m2 : Mod [gp] w' (w'.setCell ⟨gp, i * (71 + 1), none⟩ (.int .i64 (r : Int))) := Mod.setCell _ _ _ _ (by simp)
  obtain ⟨t1, t2⟩ := h.wid.at i HIL.out
  refine ⟨rfl, _, _, ⟨h.toSmC.over m2 (ps' := ps.set i (r + 1 - 1, thg ps i)) (by rw [List.length_set]; exact hl2) (h.wid.set i _ _ t1 t2), h.inv.held HI.out (by have := HC.out.2; omega) (by have := HC.out.1; omega) _⟩, m2.mono (fun k hk => by simp at hk; exact slB_mem.2 (.inr (.inl (by rw [hk]; rfl)))), New.refl _ _⟩

theorem zaggC : Value.agg Tryz.zeroCells145 = Value.agg (Value.int .i64 0 :: zcl).toArray := by kernel_rfl

set_option maxHeartbeats 1000000 in
theorem drop_lastC (g : Nat) (vp vf : Value) (room : Nat) (ps : List Pl) (fr : List Nat) (slot : Int) (i : Nat) (w : World) (h : SlC w g vp vf room ps fr) (hs : slot = (i : Int) + 1) (hi : 0 < cnt ps i) (hc : cnt ps i = 1) : Calls Tryz.prog 54 #[.pointer (some ⟨g, 0, none⟩), .int .i64 slot] w fun e w' => e = .returned (.tuple #[.bool true, .int .i64 0]) ∧ TurnC w g (slB g vp vf) room (ps.set i (0, zcl)) (fr ++ [i + 1]) w' := by
  have HS := hidden h
  have HI := hidden hi
  have HE := hidden hs
  have c2 := h.c2
  obtain ⟨gp, c, rfl, c4, hil, j0, j1, hw, hm⟩ := h.at i hi
  have HIL := hidden hil
  rw [hc] at c4
  have f4 := lst_frozen h.pls (i * (71 + 1))
  have hl1 := lst_set h.pls (i * (71 + 1)) (.int .i64 0)
  have m1 : Mod [gp] w (w.setCell ⟨gp, i * (71 + 1), none⟩ (.int .i64 0)) := Mod.setCell _ _ _ _ (by simp)
  have hfs := flatS_setCount h.wid i 0 hil
  rw [show ((0 : Nat) : Int) = 0 from rfl] at hfs
  rw [hfs] at hl1
  obtain ⟨t1, t2⟩ := h.wid.at i hil
  have HM1 := hidden (h.toSmC.over m1 (ps' := ps.set i (0, thg ps i)) (by rw [List.length_set]; exact hl1) (h.wid.set i _ _ t1 t2))
  have HMd := hidden m1
  have c5 := HM1.out.c2
  have c6 : (w.setCell ⟨gp, i * (71 + 1), none⟩ (.int .i64 0)).cell? ⟨gp, i * (71 + 1), none⟩ = some (.int .i64 0) := World.cell?_setCell_same' _ _ _ (by rw [c4]; rfl)
  have HL := hidden hl1
  have HFR : Hid (fr.length + 1 ≤ 65537) := by
    show fr.length + 1 ≤ 65537
    have := h.inv.frlen
    omega
  clear h hs hi hc hl1 m1 hfs t1 t2
  go_enter Tryz.func54, Tryz.ntmps54
  go_wp2_with (first
    | (go_at_call 88; refine (at_okC g _ vf room ps fr slot i _ HS.out HE.out HI.out).mono ?_; rintro e w' ⟨rfl, rfl⟩)
    | ((with_reducible refine at_st 43 ?_); refine wpList_stl _ rfl _ _ _ rfl 145 (71 + 1) ps.length c gp (i * (71 + 1)) (flatS (ps.set i (0, thg ps i))) (Value.int .i64 0 :: zcl) rfl zaggC HL.out size_plC (by have := Nat.mul_le_mul_right (71 + 1) (show i + 1 ≤ ps.length from HIL.out); rw [Nat.add_mul, Nat.one_mul] at this; exact this) zoneC ?_; intro w2 hl2 m2 sz2; have hs2 := flatS_setPlace HM1.out.wid i 0 zcl (by rw [List.length_set]; exact HIL.out) rfl; rw [show ((0 : Nat) : Int) = 0 from rfl, List.set_set] at hs2; rw [hs2] at hl2; have HM2 := hidden (HM1.out.over m2 (ps' := ps.set i (0, zcl)) (by rw [List.length_set]; exact hl2) (HS.out.wid.set i _ _ rfl (fun u hu => zoneC u (by simp only [List.mem_cons]; exact .inr (by simpa using hu))))); have HMd2 := hidden m2; obtain ⟨a', c', rfl⟩ := lst_slice HM2.out.frs; have c7 := HM2.out.c3; clear hl2 m2 hs2 sz2)
    | (at_builtin; refine wpList_appL _ rfl _ _ _ rfl 3 1 8 Tryz.underlying39 info_nat (by omega) _ fr.length (nats fr) rfl (lst_grow HM2.out.frs (grow_alloc _ _)) w2.heap.size [Value.int .i64 slot] rfl (Blk.new _ _ _) rfl (by intro u hu; simp at hu; subst hu; rfl) (by have := HFR.out; simp only [maxLen]; omega) (by have := HFR.out; omega) ?_; intro v' w3 h3 g3 wh; obtain ⟨a2, c8, rfl⟩ := lst_slice h3; have hb3 := (HM2.out.blk.grow (grow_alloc w2 (.cells #[Value.int .i64 slot] 3))).of_block (g3.block g (by have := HM2.out.blk.lt; simp; omega) (fun e => lst_blk_ne HM2.out.frs HM2.out.blk tne2C e.symm)); have c9 : w3.cell? ⟨g, 3, none⟩ = some (.slice a' fr.length c') := (by rw [hb3.cell]; rfl); have f9 := hb3.frozen 3))
  go_ret2
  have hse : slot = ((i + 1 : Nat) : Int) := by rw [HE.out]; rfl
  have hfr : Lst w3 3 1 (.slice a2 (fr.length + 1) c8) (fr ++ [i + 1]).length (nats (fr ++ [i + 1])) := by
    rw [nats_snoc, List.length_append, List.length_singleton, ← hse]
    exact h3
  have hmA : Mod (slB g (.slice (some ⟨gp, 0, none⟩) ps.length c) (.slice a' fr.length c')) w2 w3 := (Mod.alloc w2 _ _).trans' (Mod.of_grown g3 (fun k hk => slB_mem.2 (.inr (.inr hk))))
  have hpl : Lst w3 145 (71 + 1) (.slice (some ⟨gp, 0, none⟩) ps.length c) (ps.set i (0, zcl)).length (flatS (ps.set i (0, zcl))) := lst_mod (lst_grow HM2.out.pls (grow_alloc _ _)) (Mod.of_grown g3 (S := slB g (.slice none 0 0) (.slice a' fr.length c')) (fun k hk => slB_mem.2 (.inr (.inr hk)))) (fun k hk hn => by
    rcases slB_mem.1 hn with rfl | h | h
    · exact lst_blk_ne HM2.out.pls HM2.out.blk tne1C hk
    · cases h
    · exact lst_ne HM2.out.pls HM2.out.frs tne3C k hk h)
  have hgp : ∀ k ∈ [gp], k ∈ slB g (.slice (some ⟨gp, 0, none⟩) ps.length c) (.slice a' fr.length c') := fun k hk => by
    simp at hk
    exact slB_mem.2 (.inr (.inl (by rw [hk]; rfl)))
  have hmB := ((HMd.out.mono hgp).trans' (HMd2.out.mono hgp)).trans' hmA
  refine ⟨rfl, _, _, ⟨mk3C hb3 rfl hpl hfr HM2.out.wid, HS.out.inv.drop HI.out _⟩, hmB.trans' (Mod.setCell _ _ _ _ (slB_mem.2 (.inl rfl))), slB_new (.inl rfl) ?_⟩
  rcases wh with e | ⟨k, e, hk⟩
  · exact .inl e
  · refine .inr ⟨k, e, ?_⟩
    have h1 := HMd.out.size
    have h2 := HMd2.out.size
    simp at hk h1 h2
    omega

end Go.Proofs.YtgfdgjkbcdmboabGreatDoor
