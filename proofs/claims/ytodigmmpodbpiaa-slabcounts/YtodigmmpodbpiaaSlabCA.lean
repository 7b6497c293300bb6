/- More calls of a slab, of things of type rootcellarlaw06.Act, as contracts: Hold, Drop. -/
import Derived.Test.YtodigmmpodbpiaaSlabBA
namespace Go.Proofs.Ytodigmmpodbpiaa
set_option maxRecDepth 20000
open Go.RowKit

set_option maxHeartbeats 400000 in
theorem hold_noA (v : Value) (slot : Int) (w : World) (h : NoA w v) : Calls Try.prog 15 #[v, .int .i64 slot] w fun e w' => e = .returned (.int .i64 1) ∧ w' = w := by
  have HN := hidden h
  clear h
  go_enter Try.func15, Try.ntmps15
  go_wp2_with (go_at_call 48; refine (at_noA v slot _ HN.out).mono ?_; rintro e w' ⟨rfl, rfl⟩)
  go_ret
  exact ⟨rfl, rfl⟩

set_option maxHeartbeats 400000 in
theorem hold_badA (g : Nat) (vp vf : Value) (room : Nat) (ps : List Pl) (fr : List Nat) (slot : Int) (w : World) (h : SlA w g vp vf room ps fr) (hv : Vac ps slot) : Calls Try.prog 15 #[.pointer (some ⟨g, 0, none⟩), .int .i64 slot] w fun e w' => e = .returned (.int .i64 7) ∧ w' = w := by
  have HS := hidden h
  have HV := hidden hv
  clear h hv
  go_enter Try.func15, Try.ntmps15
  go_wp2_with (go_at_call 48; refine (at_badA g vp vf room ps fr slot _ HS.out HV.out).mono ?_; rintro e w' ⟨rfl, rfl⟩)
  go_ret
  exact ⟨rfl, rfl⟩

set_option maxHeartbeats 1000000 in
theorem hold_longA (g : Nat) (vp vf : Value) (room : Nat) (ps : List Pl) (fr : List Nat) (slot : Int) (i : Nat) (w : World) (h : SlA w g vp vf room ps fr) (hs : slot = (i : Int) + 1) (hi : 0 < cnt ps i) (hc : cnt ps i = 1073741824) : Calls Try.prog 15 #[.pointer (some ⟨g, 0, none⟩), .int .i64 slot] w fun e w' => e = .returned (.int .i64 4) ∧ w' = w := by
  have HS := hidden h
  have HI := hidden hi
  have HE := hidden hs
  have c2 := h.c2
  obtain ⟨gp, c, rfl, c4, hil, j0, j1, hw, hm⟩ := h.at i hi
  have HIL := hidden hil
  have hle := h.inv.most i
  rw [hc] at c4
  clear h hs hi hc hle
  go_enter Try.func15, Try.ntmps15
  go_wp2_with (first
    | (go_at_call 48; refine (at_okA g _ vf room ps fr slot i _ HS.out HE.out HI.out).mono ?_; rintro e w' ⟨rfl, rfl⟩))
  go_ret
  exact ⟨rfl, rfl⟩

set_option maxHeartbeats 1000000 in
theorem hold_okA (g : Nat) (vp vf : Value) (room : Nat) (ps : List Pl) (fr : List Nat) (slot : Int) (i : Nat) (w : World) (h : SlA w g vp vf room ps fr) (hs : slot = (i : Int) + 1) (hi : 0 < cnt ps i) (hc : cnt ps i < 1073741824) : Calls Try.prog 15 #[.pointer (some ⟨g, 0, none⟩), .int .i64 slot] w fun e w' => e = .returned (.int .i64 0) ∧ TurnA w g (slB g vp vf) room (ps.set i (cnt ps i + 1, thg ps i)) fr w' := by
  have HS := hidden h
  have HI := hidden hi
  have HE := hidden hs
  have c2 := h.c2
  obtain ⟨gp, c, rfl, c4, hil, j0, j1, hw, hm⟩ := h.at i hi
  have HIL := hidden hil
  have hle := h.inv.most i
  obtain ⟨q, hq⟩ : ∃ q, q = cnt ps i := ⟨_, rfl⟩
  rw [← hq] at c4 hle
  have HQ := hidden hq
  rw [← hq]
  have hne : ((q : Int) == 1073741824) = false := by simp; omega
  have f4 := lst_frozen h.pls (i * (3 + 1))
  have hw1 : wrap64 ((q : Int) + 1) = ((q + 1 : Nat) : Int) := by rw [Go.IntWalk.wrap64_in _ (by omega)]; rfl
  have HC : Hid (q + 1 ≤ 1073741824) := by show q + 1 ≤ 1073741824; omega
  clear h hs hi hc hq hle
  go_enter Try.func15, Try.ntmps15
  go_wp2_with (first
    | (go_at_call 48; refine (at_okA g _ vf room ps fr slot i _ HS.out HE.out HI.out).mono ?_; rintro e w' ⟨rfl, rfl⟩))
  go_ret
  have h := HS.out
  have hl2 := lst_set h.pls (i * (3 + 1)) (.int .i64 ((q + 1 : Nat) : Int))
  rw [flatS_setCount h.wid i (q + 1) HIL.out] at hl2
  have m2 : Mod [gp] w' (w'.setCell ⟨gp, i * (3 + 1), none⟩ (.int .i64 ((q + 1 : Nat) : Int))) := Mod.setCell _ _ _ _ (by simp)
  obtain ⟨t1, t2⟩ := h.wid.at i HIL.out
  refine ⟨rfl, _, _, ⟨h.toSmA.over m2 (ps' := ps.set i (q + 1, thg ps i)) (by rw [List.length_set]; exact hl2) (h.wid.set i _ _ t1 t2), h.inv.held HI.out (by omega) HC.out _⟩, m2.mono (fun k hk => by simp at hk; exact slB_mem.2 (.inr (.inl (by rw [hk]; rfl)))), New.refl _ _⟩

set_option maxHeartbeats 400000 in
theorem drop_noA (v : Value) (slot : Int) (w : World) (h : NoA w v) : Calls Try.prog 16 #[v, .int .i64 slot] w fun e w' => e = .returned (.tuple #[.bool false, .int .i64 1]) ∧ w' = w := by
  have HN := hidden h
  clear h
  go_enter Try.func16, Try.ntmps16
  go_wp2_with (go_at_call 48; refine (at_noA v slot _ HN.out).mono ?_; rintro e w' ⟨rfl, rfl⟩)
  go_ret2
  exact ⟨rfl, rfl⟩

set_option maxHeartbeats 400000 in
theorem drop_badA (g : Nat) (vp vf : Value) (room : Nat) (ps : List Pl) (fr : List Nat) (slot : Int) (w : World) (h : SlA w g vp vf room ps fr) (hv : Vac ps slot) : Calls Try.prog 16 #[.pointer (some ⟨g, 0, none⟩), .int .i64 slot] w fun e w' => e = .returned (.tuple #[.bool false, .int .i64 7]) ∧ w' = w := by
  have HS := hidden h
  have HV := hidden hv
  clear h hv
  go_enter Try.func16, Try.ntmps16
  go_wp2_with (go_at_call 48; refine (at_badA g vp vf room ps fr slot _ HS.out HV.out).mono ?_; rintro e w' ⟨rfl, rfl⟩)
  go_ret2
  exact ⟨rfl, rfl⟩

set_option maxHeartbeats 1000000 in
theorem drop_moreA (g : Nat) (vp vf : Value) (room : Nat) (ps : List Pl) (fr : List Nat) (slot : Int) (i : Nat) (w : World) (h : SlA w g vp vf room ps fr) (hs : slot = (i : Int) + 1) (hi : 0 < cnt ps i) (hc : 1 < cnt ps i) : Calls Try.prog 16 #[.pointer (some ⟨g, 0, none⟩), .int .i64 slot] w fun e w' => e = .returned (.tuple #[.bool false, .int .i64 0]) ∧ TurnA w g (slB g vp vf) room (ps.set i (cnt ps i - 1, thg ps i)) fr w' := by
  have HS := hidden h
  have HI := hidden hi
  have HE := hidden hs
  have c2 := h.c2
  obtain ⟨gp, c, rfl, c4, hil, j0, j1, hw, hm⟩ := h.at i hi
  have HIL := hidden hil
  have hle := h.inv.most i
  obtain ⟨q, hq⟩ : ∃ q, q = cnt ps i := ⟨_, rfl⟩
  rw [← hq] at c4 hle
  have HQ := hidden hq
  rw [← hq]
  obtain ⟨r, hr⟩ : ∃ r, q = r + 1 := ⟨q - 1, by omega⟩
  subst hr
  have f4 := lst_frozen h.pls (i * (3 + 1))
  have hw1 : wrap64 (r : Int) = (r : Int) := Go.IntWalk.wrap64_in _ (by omega)
  have r0 : (0 : Int) < (r : Int) := by omega
  have c5 : (w.setCell ⟨gp, i * (3 + 1), none⟩ (.int .i64 (r : Int))).cell? ⟨g, 2, none⟩ = some (.slice (some ⟨gp, 0, none⟩) ps.length c) := by
    rw [cell_set_ne _ _ _ _ _ _ (fun e => lst_blk_ne h.pls h.blk tne1A (by rw [e]; rfl))]
    exact c2
  have c6 : (w.setCell ⟨gp, i * (3 + 1), none⟩ (.int .i64 (r : Int))).cell? ⟨gp, i * (3 + 1), none⟩ = some (.int .i64 (r : Int)) := World.cell?_setCell_same' _ _ _ (by rw [c4]; rfl)
  have HC : Hid (r ≤ 1073741824 ∧ 0 < r) := by show r ≤ 1073741824 ∧ 0 < r; omega
  clear h hs hi hc hq hle
  go_enter Try.func16, Try.ntmps16
  go_wp2_with (first
    | (go_at_call 48; refine (at_okA g _ vf room ps fr slot i _ HS.out HE.out HI.out).mono ?_; rintro e w' ⟨rfl, rfl⟩))
  go_ret2
  have h := HS.out
  have hl2 := lst_set h.pls (i * (3 + 1)) (.int .i64 (r : Int))
  rw [flatS_setCount h.wid i r HIL.out] at hl2
  have m2 : Mod [gp] w' (w'.setCell ⟨gp, i * (3 + 1), none⟩ (.int .i64 (r : Int))) := Mod.setCell _ _ _ _ (by simp)
  obtain ⟨t1, t2⟩ := h.wid.at i HIL.out
  refine ⟨rfl, _, _, ⟨h.toSmA.over m2 (ps' := ps.set i (r + 1 - 1, thg ps i)) (by rw [List.length_set]; exact hl2) (h.wid.set i _ _ t1 t2), h.inv.held HI.out (by have := HC.out.2; omega) (by have := HC.out.1; omega) _⟩, m2.mono (fun k hk => by simp at hk; exact slB_mem.2 (.inr (.inl (by rw [hk]; rfl)))), New.refl _ _⟩

set_option maxHeartbeats 1000000 in
theorem drop_lastA (g : Nat) (vp vf : Value) (room : Nat) (ps : List Pl) (fr : List Nat) (slot : Int) (i : Nat) (w : World) (h : SlA w g vp vf room ps fr) (hs : slot = (i : Int) + 1) (hi : 0 < cnt ps i) (hc : cnt ps i = 1) : Calls Try.prog 16 #[.pointer (some ⟨g, 0, none⟩), .int .i64 slot] w fun e w' => e = .returned (.tuple #[.bool true, .int .i64 0]) ∧ TurnA w g (slB g vp vf) room (ps.set i (0, [Value.int .i64 0, .int .i64 0, .int .i64 0])) (fr ++ [i + 1]) w' := by
  have HS := hidden h
  have HI := hidden hi
  have HE := hidden hs
  have c2 := h.c2
  obtain ⟨gp, c, rfl, c4, hil, j0, j1, hw, hm⟩ := h.at i hi
  have HIL := hidden hil
  rw [hc] at c4
  have f4 := lst_frozen h.pls (i * (3 + 1))
  have hl1 := lst_set h.pls (i * (3 + 1)) (.int .i64 0)
  have m1 : Mod [gp] w (w.setCell ⟨gp, i * (3 + 1), none⟩ (.int .i64 0)) := Mod.setCell _ _ _ _ (by simp)
  have hfs := flatS_setCount h.wid i 0 hil
  rw [show ((0 : Nat) : Int) = 0 from rfl] at hfs
  rw [hfs] at hl1
  obtain ⟨t1, t2⟩ := h.wid.at i hil
  have HM1 := hidden (h.toSmA.over m1 (ps' := ps.set i (0, thg ps i)) (by rw [List.length_set]; exact hl1) (h.wid.set i _ _ t1 t2))
  have HMd := hidden m1
  have c5 := HM1.out.c2
  have c6 : (w.setCell ⟨gp, i * (3 + 1), none⟩ (.int .i64 0)).cell? ⟨gp, i * (3 + 1), none⟩ = some (.int .i64 0) := World.cell?_setCell_same' _ _ _ (by rw [c4]; rfl)
  have HL := hidden hl1
  have HFR : Hid (fr.length + 1 ≤ 65537) := by
    show fr.length + 1 ≤ 65537
    have := h.inv.frlen
    omega
  clear h hs hi hc hl1 m1 hfs t1 t2
  go_enter Try.func16, Try.ntmps16
  go_wp2_with (first
    | (go_at_call 48; refine (at_okA g _ vf room ps fr slot i _ HS.out HE.out HI.out).mono ?_; rintro e w' ⟨rfl, rfl⟩)
    | ((with_reducible refine at_st 43 ?_); refine wpList_stm _ rfl _ _ _ rfl 78 (3 + 1) ps.length c gp (i * (3 + 1)) (flatS (ps.set i (0, thg ps i))) (Value.int .i64 0 :: [Value.int .i64 0, .int .i64 0, .int .i64 0]) rfl rfl HL.out size_plA (by have := Nat.mul_le_mul_right (3 + 1) (show i + 1 ≤ ps.length from HIL.out); rw [Nat.add_mul] at this; simpa using this) zoneA ?_; intro w2 hl2 m2 sz2; have hs2 := flatS_setPlace HM1.out.wid i 0 [Value.int .i64 0, .int .i64 0, .int .i64 0] (by rw [List.length_set]; exact HIL.out) rfl; rw [show ((0 : Nat) : Int) = 0 from rfl, List.set_set] at hs2; rw [hs2] at hl2; have HM2 := hidden (HM1.out.over m2 (ps' := ps.set i (0, [Value.int .i64 0, .int .i64 0, .int .i64 0])) (by rw [List.length_set]; exact hl2) (HS.out.wid.set i _ _ rfl (fun u hu => zoneA u (by simp only [List.mem_cons]; exact .inr (by simpa using hu))))); have HMd2 := hidden m2; obtain ⟨a', c', rfl⟩ := lst_slice HM2.out.frs; have c7 := HM2.out.c3; clear hl2 m2 hs2 sz2)
    | (at_builtin; refine wpList_appL _ rfl _ _ _ rfl 3 1 8 Try.underlying39 info_nat (by omega) _ fr.length (nats fr) rfl (lst_grow HM2.out.frs (grow_alloc _ _)) w2.heap.size [Value.int .i64 slot] rfl (Blk.new _ _ _) rfl (by intro u hu; simp at hu; subst hu; rfl) (by have := HFR.out; simp only [maxLen]; omega) (by have := HFR.out; omega) ?_; intro v' w3 h3 g3 wh; obtain ⟨a2, c8, rfl⟩ := lst_slice h3; have hb3 := (HM2.out.blk.grow (grow_alloc w2 (.cells #[Value.int .i64 slot] 3))).of_block (g3.block g (by have := HM2.out.blk.lt; simp; omega) (fun e => lst_blk_ne HM2.out.frs HM2.out.blk tne2A e.symm)); have c9 : w3.cell? ⟨g, 3, none⟩ = some (.slice a' fr.length c') := (by rw [hb3.cell]; rfl); have f9 := hb3.frozen 3))
  go_ret2
  have hse : slot = ((i + 1 : Nat) : Int) := by rw [HE.out]; rfl
  have hfr : Lst w3 3 1 (.slice a2 (fr.length + 1) c8) (fr ++ [i + 1]).length (nats (fr ++ [i + 1])) := by
    rw [nats_snoc, List.length_append, List.length_singleton, ← hse]
    exact h3
  have hmA : Mod (slB g (.slice (some ⟨gp, 0, none⟩) ps.length c) (.slice a' fr.length c')) w2 w3 := (Mod.alloc w2 _ _).trans' (Mod.of_grown g3 (fun k hk => slB_mem.2 (.inr (.inr hk))))
  have hpl : Lst w3 78 (3 + 1) (.slice (some ⟨gp, 0, none⟩) ps.length c) (ps.set i (0, [Value.int .i64 0, .int .i64 0, .int .i64 0])).length (flatS (ps.set i (0, [Value.int .i64 0, .int .i64 0, .int .i64 0]))) := lst_mod (lst_grow HM2.out.pls (grow_alloc _ _)) (Mod.of_grown g3 (S := slB g (.slice none 0 0) (.slice a' fr.length c')) (fun k hk => slB_mem.2 (.inr (.inr hk)))) (fun k hk hn => by
    rcases slB_mem.1 hn with rfl | h | h
    · exact lst_blk_ne HM2.out.pls HM2.out.blk tne1A hk
    · cases h
    · exact lst_ne HM2.out.pls HM2.out.frs tne3A k hk h)
  have hgp : ∀ k ∈ [gp], k ∈ slB g (.slice (some ⟨gp, 0, none⟩) ps.length c) (.slice a' fr.length c') := fun k hk => by
    simp at hk
    exact slB_mem.2 (.inr (.inl (by rw [hk]; rfl)))
  have hmB := ((HMd.out.mono hgp).trans' (HMd2.out.mono hgp)).trans' hmA
  refine ⟨rfl, _, _, ⟨mk3A hb3 rfl hpl hfr HM2.out.wid, HS.out.inv.drop HI.out _⟩, hmB.trans' (Mod.setCell _ _ _ _ (slB_mem.2 (.inl rfl))), slB_new (.inl rfl) ?_⟩
  rcases wh with e | ⟨k, e, hk⟩
  · exact .inl e
  · refine .inr ⟨k, e, ?_⟩
    have h1 := HMd.out.size
    have h2 := HMd2.out.size
    simp at hk h1 h2
    omega

end Go.Proofs.Ytodigmmpodbpiaa
