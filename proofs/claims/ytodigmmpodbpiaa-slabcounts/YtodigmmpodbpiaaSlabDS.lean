/- Calls of a slab that take or tell things, of things of type string, as contracts: Take, Get, Set. -/
import Derived.Test.YtodigmmpodbpiaaSlabCS
namespace Go.Proofs.Ytodigmmpodbpiaa
set_option maxRecDepth 20000
open Go.RowKit

set_option maxHeartbeats 400000 in
theorem take_noS (v : Value) (z : ByteArray) (w : World) (h : NoS w v) : Calls Try.prog 22 #[v, (.string z)] w fun e w' => e = .returned (.tuple #[.int .i64 0, .int .i64 1]) ∧ w' = w := by
  have HN := hidden h
  clear h
  go_enter Try.func22, Try.ntmps22
  go_wp2_with (go_at_call 50; refine (made_noS v _ HN.out).mono ?_; rintro e w' ⟨rfl, rfl⟩)
  go_ret2
  exact ⟨rfl, rfl⟩

set_option maxHeartbeats 400000 in
theorem take_fullS (g : Nat) (vp vf : Value) (room : Nat) (ps : List Pl) (z : ByteArray) (w : World) (h : SlS w g vp vf room ps []) (hl : ps.length = room) : Calls Try.prog 22 #[.pointer (some ⟨g, 0, none⟩), (.string z)] w fun e w' => e = .returned (.tuple #[.int .i64 0, .int .i64 9]) ∧ Below w.heap.size w w' := by
  have c0 := h.c0
  have HS := hidden h
  have HL := hidden hl
  clear h hl
  go_enter Try.func22, Try.ntmps22
  go_wp2_with (first
    | (go_at_call 50; refine (made_okS g _ c0).mono ?_; rintro e w' ⟨rfl, rfl⟩)
    | (go_at_call 51; refine (vac_fullS g vp vf room ps _ HS.out.toSmS HL.out).mono ?_; rintro e w1 ⟨rfl, b1⟩))
  go_ret2
  exact ⟨rfl, b1⟩

set_option maxHeartbeats 1000000 in
theorem take_freeS (g : Nat) (vp vf : Value) (room : Nat) (ps : List Pl) (fr : List Nat) (s : Nat) (z : ByteArray) (w : World) (h : SlS w g vp vf room ps (fr ++ [s])) : Calls Try.prog 22 #[.pointer (some ⟨g, 0, none⟩), (.string z)] w fun e w' => e = .returned (.tuple #[.int .i64 (s : Int), .int .i64 0]) ∧ TurnS w g (slB g vp vf) room (ps.set (s - 1) (1, [Value.string z])) fr w' := by
  have c0 := h.c0
  have HS := hidden h
  obtain ⟨q1, q2, q3⟩ := h.inv.free s (by simp)
  obtain ⟨i, rfl⟩ : ∃ i, s = i + 1 := ⟨s - 1, by omega⟩
  have hil : i < ps.length := by omega
  have h1 := h.inv.len
  have h2 := h.inv.r2
  have h3 := h.inv.frlen
  have HF : Hid (fr.length ≤ 65536) := by show fr.length ≤ 65536; simp at h3; omega
  obtain ⟨gp, c, rfl, _⟩ := lst_pos h.pls (by omega)
  have j0 : (0 : Int) ≤ (i : Int) := by omega
  have j1 : (i : Int) < (ps.length : Int) := by omega
  have hw : wrap64 (i : Int) = i := Go.IntWalk.wrap64_in _ (by omega)
  have HI := hidden hil
  clear h q1 q2 q3 h1 h2 h3
  go_enter Try.func22, Try.ntmps22
  go_wp2_with (first
    | (go_at_call 50; refine (made_okS g _ c0).mono ?_; rintro e w' ⟨rfl, rfl⟩)
    | (go_at_call 51; refine (vac_freeS g _ vf room ps fr (i + 1) _ HS.out.toSmS HF.out).mono ?_; rintro e w1 ⟨vf', rfl, hm1, m1, ob⟩; have c2 := hm1.c2; have HM1 := hidden hm1; clear hm1)
    | ((with_reducible refine at_st 26 ?_); refine wpList_stm _ rfl _ _ _ rfl 83 (1 + 1) ps.length c gp (i * (1 + 1)) (flatS ps) (Value.int .i64 1 :: [Value.string z]) rfl rfl HM1.out.pls size_plS (by have := Nat.mul_le_mul_right (1 + 1) (show i + 1 ≤ ps.length from HI.out); rw [Nat.add_mul] at this; simpa using this) (xoneS z 1) ?_; intro w2 hl2 m2 sz2))
  go_ret2
  have hi := HI.out
  have hs := flatS_setPlace HM1.out.wid i 1 [Value.string z] hi rfl
  rw [show ((1 : Nat) : Int) = 1 from rfl] at hs
  rw [hs] at hl2
  refine ⟨rfl, _, _, ⟨HM1.out.over m2 (ps' := ps.set i (1, [Value.string z])) (by rw [List.length_set]; exact hl2) (HM1.out.wid.set i 1 _ rfl (fun u hu => xoneS z 1 u (by simp only [List.mem_cons]; exact .inr (by simpa using hu)))), HS.out.inv.takeFree _⟩, ?_, slB_new (.inl rfl) (.inl ob)⟩
  exact (m1.mono (fun k hk => by simp at hk; exact slB_mem.2 (.inl hk))).trans' (m2.mono (fun k hk => by simp at hk; exact slB_mem.2 (.inr (.inl (by rw [hk]; rfl)))))

set_option maxHeartbeats 1000000 in
theorem take_newS (g : Nat) (vp vf : Value) (room : Nat) (ps : List Pl) (z : ByteArray) (w : World) (h : SlS w g vp vf room ps []) (hl : ps.length < room) : Calls Try.prog 22 #[.pointer (some ⟨g, 0, none⟩), (.string z)] w fun e w' => e = .returned (.tuple #[.int .i64 ((ps.length + 1 : Nat) : Int), .int .i64 0]) ∧ TurnS w g (slB g vp vf) room (ps ++ [(1, [Value.string z])]) [] w' := by
  have c0 := h.c0
  have HS := hidden h
  have h2 := h.inv.r2
  have HR := hidden h2
  obtain ⟨i, hi⟩ : ∃ i, i = ps.length := ⟨_, rfl⟩
  have j0 : (0 : Int) ≤ (i : Int) := by omega
  have j1 : (i : Int) < ((i + 1 : Nat) : Int) := by omega
  have hw : wrap64 (i : Int) = i := Go.IntWalk.wrap64_in _ (by omega)
  have HI := hidden hi
  have HL := hidden hl
  have HE : Hid (∀ w, Calls Try.prog 51 #[.pointer (some ⟨g, 0, none⟩)] w (fun e w' => ∃ vp', e = .returned (.tuple #[.int .i64 ((ps.length + 1 : Nat) : Int), .bool true]) ∧ SmS w' g vp' vf room (ps ++ [(0, [Value.string ⟨#[]⟩])]) [] ∧ Mod (slB g vp vf) w w' ∧ WhereL w vp vp') → Calls Try.prog 51 #[.pointer (some ⟨g, 0, none⟩)] w (fun e w' => ∃ gp c, e = .returned (.tuple #[.int .i64 ((i + 1 : Nat) : Int), .bool true]) ∧ SmS w' g (.slice (some ⟨gp, 0, none⟩) (i + 1) c) vf room (ps ++ [(0, [Value.string ⟨#[]⟩])]) [] ∧ Mod (slB g vp vf) w w' ∧ WhereL w vp (.slice (some ⟨gp, 0, none⟩) (i + 1) c))) := by
    intro w hc
    refine hc.mono ?_
    rintro e w' ⟨vp', rfl, hm, m, wh⟩
    obtain ⟨gp, c, rfl, _⟩ := lst_pos hm.pls (by simp)
    rw [show (ps ++ [((0, [Value.string ⟨#[]⟩]) : Pl)]).length = i + 1 by simp [hi]] at hm wh
    exact ⟨gp, c, by rw [hi], hm, m, wh⟩
  clear h h2 hl hi
  go_enter Try.func22, Try.ntmps22
  go_wp2_with (first
    | (go_at_call 50; refine (made_okS g _ c0).mono ?_; rintro e w' ⟨rfl, rfl⟩)
    | (go_at_call 51; refine (HE.out _ (vac_newS g vp vf room ps _ HS.out.toSmS HL.out HR.out)).mono ?_; rintro e w1 ⟨gp, c, rfl, hm1, m1, wh⟩; have c2 := hm1.c2; have HM1 := hidden hm1; clear hm1)
    | ((with_reducible refine at_st 26 ?_); refine wpList_stm _ rfl _ _ _ rfl 83 (1 + 1) (i + 1) c gp (i * (1 + 1)) (flatS (ps ++ [(0, [Value.string ⟨#[]⟩])])) (Value.int .i64 1 :: [Value.string z]) rfl rfl (by have := HM1.out.pls; rw [List.length_append, List.length_singleton, ← HI.out] at this; exact this) size_plS (by rw [Nat.add_mul]; simp) (xoneS z 1) ?_; intro w2 hl2 m2 sz2))
  go_ret2
  have hi := HI.out
  have hs := flatS_setPlace HM1.out.wid i 1 [Value.string z] (by simp; omega) rfl
  rw [show ((1 : Nat) : Int) = 1 from rfl] at hs
  rw [hs, hi, set_last] at hl2
  rw [hi] at wh HM1
  refine ⟨by rw [hi]; rfl, _, _, ⟨HM1.out.over m2 (ps' := ps ++ [(1, [Value.string z])]) (by simpa using hl2) (HS.out.wid.snoc 1 _ rfl (fun u hu => xoneS z 1 u (by simp only [List.mem_cons]; exact .inr (by simpa using hu)))), HS.out.inv.takeNew HL.out _⟩, ?_, slB_new wh (.inl rfl)⟩
  exact m1.trans (slB_new (g := g) wh (.inl rfl)) (m2.mono (fun k hk => by simp at hk; exact slB_mem.2 (.inr (.inl (by rw [hk]; rfl)))))

set_option maxHeartbeats 400000 in
theorem get_noS (v : Value) (slot : Int) (w : World) (h : NoS w v) : Calls Try.prog 44 #[v, .int .i64 slot] w fun e w' => e = .returned (.tuple #[(.string ⟨#[]⟩), .int .i64 1]) ∧ w' = w := by
  have HN := hidden h
  clear h
  go_enter Try.func44, Try.ntmps44
  go_wp2_with (go_at_call 52; refine (at_noS v slot _ HN.out).mono ?_; rintro e w' ⟨rfl, rfl⟩)
  go_ret2
  exact ⟨rfl, rfl⟩

set_option maxHeartbeats 400000 in
theorem get_badS (g : Nat) (vp vf : Value) (room : Nat) (ps : List Pl) (fr : List Nat) (slot : Int) (w : World) (h : SlS w g vp vf room ps fr) (hv : Vac ps slot) : Calls Try.prog 44 #[.pointer (some ⟨g, 0, none⟩), .int .i64 slot] w fun e w' => e = .returned (.tuple #[(.string ⟨#[]⟩), .int .i64 7]) ∧ w' = w := by
  have HS := hidden h
  have HV := hidden hv
  clear h hv
  go_enter Try.func44, Try.ntmps44
  go_wp2_with (go_at_call 52; refine (at_badS g vp vf room ps fr slot _ HS.out HV.out).mono ?_; rintro e w' ⟨rfl, rfl⟩)
  go_ret2
  exact ⟨rfl, rfl⟩

set_option maxHeartbeats 1000000 in
theorem get_okS (g : Nat) (vp vf : Value) (room : Nat) (ps : List Pl) (fr : List Nat) (slot : Int) (i : Nat) (z : ByteArray) (w : World) (h : SlS w g vp vf room ps fr) (hs : slot = (i : Int) + 1) (hi : 0 < cnt ps i) (ht : thg ps i = [Value.string z]) : Calls Try.prog 44 #[.pointer (some ⟨g, 0, none⟩), .int .i64 slot] w fun e w' => e = .returned (.tuple #[(.string z), .int .i64 0]) ∧ w' = w := by
  have HS := hidden h
  have HI := hidden hi
  have HE := hidden hs
  have c2 := h.c2
  obtain ⟨gp, c, rfl, c4, hil, j0, j1, hw, hm⟩ := h.at i hi
  have HIL := hidden hil
  have c5 : w.cell? ⟨gp, i * (1 + 1) + 1, none⟩ = some (.string z) := by
    rw [lst_cell h.pls _ (by have := Nat.mul_le_mul_right (1 + 1) (show i + 1 ≤ ps.length from hil); rw [Nat.add_mul] at this; omega)]
    exact flatS_thing h.wid i hil 0 (.string z) (by rw [ht]; rfl)
  clear h hs hi ht
  go_enter Try.func44, Try.ntmps44
  go_wp2_with (first
    | (go_at_call 52; refine (at_okS g _ vf room ps fr slot i _ HS.out HE.out HI.out).mono ?_; rintro e w' ⟨rfl, rfl⟩))
  go_ret2
  exact ⟨rfl, rfl⟩

end Go.Proofs.Ytodigmmpodbpiaa
