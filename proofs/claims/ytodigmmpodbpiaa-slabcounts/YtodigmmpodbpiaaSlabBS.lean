/- A slab's calls that turn it, of things of type string, as contracts: vacant. -/
import Derived.Test.YtodigmmpodbpiaaSlabAS
namespace Go.Proofs.Ytodigmmpodbpiaa
set_option maxRecDepth 20000
open Go.RowKit

/-- The slab at g has turned to this, and nothing but its own blocks. -/
def TurnS (w : World) (g : Nat) (S : List Nat) (room : Nat) (ps : List Pl) (fr : List Nat) (w' : World) : Prop := ∃ vp vf, SlS w' g vp vf room ps fr ∧ Mod S w w' ∧ New S w (slB g vp vf)

theorem tne1S : (83 : Nat) ≠ 81 := by decide

theorem tne2S : (3 : Nat) ≠ 81 := by decide

theorem tne3S : (83 : Nat) ≠ 3 := by decide

/-- The places' list stored anew. -/
theorem mk2S {w : World} {g : Nat} {p vp vf vp' : Value} {room : Nat} {ps : List Pl} {fr : List Nat} (hb : Blk w g 81 #[p, .int .i64 (room : Int), vp, vf]) (he : p = .pointer (some ⟨g, 0, none⟩)) (hp : Lst w 83 (1 + 1) vp' ps.length (flatS ps)) (hf : Lst w 3 1 vf fr.length (nats fr)) (hw : Wid 1 ps) : SmS (w.setCell ⟨g, 2, none⟩ vp') g vp' vf room ps fr := by
  have m : Mod [g] w (w.setCell ⟨g, 2, none⟩ vp') := Mod.setCell w g 2 vp' (by simp)
  refine ⟨?_, lst_mod hp m (fun k hk e => ?_), lst_mod hf m (fun k hk e => ?_), hw⟩
  · subst he
    exact hb.set 2 vp'
  · obtain rfl : k = g := by simpa using e
    exact lst_blk_ne hp hb tne1S hk
  · obtain rfl : k = g := by simpa using e
    exact lst_blk_ne hf hb tne2S hk

/-- The free slots' list stored anew. -/
theorem mk3S {w : World} {g : Nat} {p vp vf vf' : Value} {room : Nat} {ps : List Pl} {fr : List Nat} (hb : Blk w g 81 #[p, .int .i64 (room : Int), vp, vf]) (he : p = .pointer (some ⟨g, 0, none⟩)) (hp : Lst w 83 (1 + 1) vp ps.length (flatS ps)) (hf : Lst w 3 1 vf' fr.length (nats fr)) (hw : Wid 1 ps) : SmS (w.setCell ⟨g, 3, none⟩ vf') g vp vf' room ps fr := by
  have m : Mod [g] w (w.setCell ⟨g, 3, none⟩ vf') := Mod.setCell w g 3 vf' (by simp)
  refine ⟨?_, lst_mod hp m (fun k hk e => ?_), lst_mod hf m (fun k hk e => ?_), hw⟩
  · subst he
    exact hb.set 3 vf'
  · obtain rfl : k = g := by simpa using e
    exact lst_blk_ne hp hb tne1S hk
  · obtain rfl : k = g := by simpa using e
    exact lst_blk_ne hf hb tne2S hk

/-- The places written over within their block. -/
theorem SmS.over {w w' : World} {g gp n c : Nat} {vf : Value} {room : Nat} {ps ps' : List Pl} {fr : List Nat} (h : SmS w g (.slice (some ⟨gp, 0, none⟩) n c) vf room ps fr) (m : Mod [gp] w w') (hp : Lst w' 83 (1 + 1) (.slice (some ⟨gp, 0, none⟩) n c) ps'.length (flatS ps')) (hw : Wid 1 ps') : SmS w' g (.slice (some ⟨gp, 0, none⟩) n c) vf room ps' fr := by
  refine ⟨h.blk.mod m ?_, hp, lst_mod h.frs m (fun k hk e => ?_), hw⟩
  · intro e
    obtain rfl : g = gp := by simpa using e
    exact lst_blk_ne h.pls h.blk tne1S rfl
  · obtain rfl : k = gp := by simpa using e
    exact lst_ne h.pls h.frs tne3S k rfl hk

theorem SmS.free {w : World} {g gf n c : Nat} {vp : Value} {room : Nat} {ps : List Pl} {fr : List Nat} (h : SmS w g vp (.slice (some ⟨gf, 0, none⟩) n c) room ps fr) (i : Nat) (hi : i < fr.length) : w.cell? ⟨gf, i, none⟩ = some (.int .i64 (fr.getD i 0 : Nat)) := by
  have hp := h.frs
  obtain rfl : n = fr.length := by
    obtain ⟨_, _, e⟩ := lst_slice hp
    injection e
  rw [lst_cell hp _ (by omega)]
  exact nats_get fr i hi

set_option maxHeartbeats 1000000 in
theorem vac_freeS (g : Nat) (vp vf : Value) (room : Nat) (ps : List Pl) (fr : List Nat) (s : Nat) (w : World) (h : SmS w g vp vf room ps (fr ++ [s])) (hl : fr.length ≤ 65536) : Calls Try.prog 51 #[.pointer (some ⟨g, 0, none⟩)] w fun e w' => ∃ vf', e = .returned (.tuple #[.int .i64 (s : Int), .bool true]) ∧ SmS w' g vp vf' room ps fr ∧ Mod [g] w w' ∧ vf'.ownBlock = vf.ownBlock := by
  have c3 := h.c3
  have f3 := h.blk.frozen 3
  have HS := hidden h
  obtain ⟨gf, c, rfl, hcap⟩ := lst_pos h.frs (by simp)
  have c4 := h.free fr.length (by simp)
  rw [show (fr ++ [s]).getD fr.length 0 = s by simp [List.getD]] at c4
  rw [List.length_append, List.length_singleton] at c3 hcap
  have j0 : (0 : Int) ≤ (fr.length : Int) := by omega
  have j1 : (fr.length : Int) < ((fr.length + 1 : Nat) : Int) := by omega
  have j2 : (fr.length : Int) ≤ (c : Int) := by omega
  clear h
  go_enter Try.func51, Try.ntmps51
  go_wp2
  go_ret2
  have h := HS.out
  have hc := lst_cut (m := fr.length) h.frs (by simp)
  rw [Nat.mul_one, nats_take, List.take_left] at hc
  exact ⟨_, rfl, mk3S h.blk rfl h.pls hc h.wid, Mod.setCell _ _ _ _ (by simp), rfl⟩

set_option maxHeartbeats 1000000 in
theorem vac_fullS (g : Nat) (vp vf : Value) (room : Nat) (ps : List Pl) (w : World) (h : SmS w g vp vf room ps []) (hl : ps.length = room) : Calls Try.prog 51 #[.pointer (some ⟨g, 0, none⟩)] w fun e w' => e = .returned (.tuple #[.int .i64 0, .bool false]) ∧ Below w.heap.size w w' := by
  have c1 := h.c1
  have c2 := h.c2
  have c3 := h.c3
  obtain ⟨a, c, rfl⟩ := lst_slice h.frs
  obtain ⟨a', c', rfl⟩ := lst_slice h.pls
  subst hl
  clear h
  go_enter Try.func51, Try.ntmps51
  go_wp2
  go_quiet (fail)
  go_wp2
  go_ret2
  exact ⟨rfl, below_drewN (Below.refl _ _) _⟩

theorem zplS : Try.prog.built 83 [] = some (Value.int .i64 0 :: [Value.string ⟨#[]⟩]).toArray := by kernel_rfl

theorem zoneS : ∀ u ∈ (Value.int .i64 0 :: [Value.string ⟨#[]⟩]), u.oneCell' = true := fun u hu => List.all_eq_true.1 (show (Value.int .i64 0 :: [Value.string ⟨#[]⟩]).all (·.oneCell') = true from rfl) u hu

theorem xoneS (z : ByteArray) (c : Int) : ∀ u ∈ (Value.int .i64 c :: [Value.string z]), u.oneCell' = true := fun u hu => List.all_eq_true.1 (show (Value.int .i64 c :: [Value.string z]).all (·.oneCell') = true from rfl) u hu

set_option maxHeartbeats 1000000 in
theorem vac_newS (g : Nat) (vp vf : Value) (room : Nat) (ps : List Pl) (w : World) (h : SmS w g vp vf room ps []) (hl : ps.length < room) (hr : room ≤ 65536) : Calls Try.prog 51 #[.pointer (some ⟨g, 0, none⟩)] w fun e w' => ∃ vp', e = .returned (.tuple #[.int .i64 ((ps.length + 1 : Nat) : Int), .bool true]) ∧ SmS w' g vp' vf room (ps ++ [(0, [Value.string ⟨#[]⟩])]) [] ∧ Mod (slB g vp vf) w w' ∧ WhereL w vp vp' := by
  have c1 := h.c1
  have c2 := h.c2
  have c3 := h.c3
  have f2 := h.blk.frozen 2
  have HS := hidden h
  obtain ⟨a, c, rfl⟩ := lst_slice h.frs
  obtain ⟨a', c', rfl⟩ := lst_slice h.pls
  have hne : ((ps.length : Int) == (room : Int)) = false := by simp; omega
  clear h
  go_enter Try.func51, Try.ntmps51
  go_wp2
  go_quiet (fail)
  obtain ⟨w1, hw1⟩ : ∃ x, x = w.drewN nq := ⟨_, rfl⟩
  have HM : Hid (Mod [] w w1) := by rw [hw1]; exact Mod.drewN _ _ _
  have HS1 : Hid (SmS w1 g (.slice a' ps.length c') (.slice a 0 c) room ps []) := HS.out.mod HM.out (fun _ _ h => by cases h)
  rw [← hw1]
  clear c1 c2 c3 f2 HS hw1
  have c2 := HS1.out.c2
  have f2 := HS1.out.blk.frozen 2
  have HL : Hid (ps.length + 1 ≤ 65536) := by show ps.length + 1 ≤ 65536; omega
  clear hl hr
  go_wp2_with (at_builtin; refine wpList_appL _ rfl _ _ _ rfl 83 (1 + 1) 24 Try.underlying79 info_plS (by omega) _ ps.length (flatS ps) rfl (lst_grow HS1.out.pls (grow_alloc _ _)) w1.heap.size (Value.int .i64 0 :: [Value.string ⟨#[]⟩]) rfl (Blk.new _ _ _) rfl zoneS (by have := HL.out; simp only [maxLen]; omega) (by have := HL.out; omega) ?_; intro v' w2 h2 g2 wh; obtain ⟨a2, c4, rfl⟩ := lst_slice h2; have hb2 := (HS1.out.blk.grow (grow_alloc w1 (.cells (Value.int .i64 0 :: [Value.string ⟨#[]⟩]).toArray 83))).of_block (g2.block g (by have := HS1.out.blk.lt; simp; omega) (fun e => lst_blk_ne HS1.out.pls HS1.out.blk tne1S e.symm)); have c5 : w2.cell? ⟨g, 2, none⟩ = some (.slice a' ps.length c') := (by rw [hb2.cell]; rfl); have f5 := hb2.frozen 2)
  go_ret2
  have hpl : Lst w2 83 (1 + 1) (.slice a2 (ps.length + 1) c4) (ps ++ [(0, [Value.string ⟨#[]⟩])]).length (flatS (ps ++ [(0, [Value.string ⟨#[]⟩])])) := by
    rw [flatS_snoc, List.length_append, List.length_singleton]
    exact h2
  have hwd : Wid 1 (ps ++ [(0, [Value.string ⟨#[]⟩])]) := HS1.out.wid.snoc 0 _ rfl (fun u hu => zoneS u (by simp only [List.mem_cons]; exact .inr (by simpa using hu)))
  have hfr : Lst w2 3 1 (.slice a 0 c) 0 (nats []) := lst_mod (lst_grow HS1.out.frs (grow_alloc _ _)) (Mod.of_grown g2 (S := slB g (.slice a' ps.length c') (.slice none 0 0)) (fun k hk => slB_mem.2 (.inr (.inl hk)))) (fun k hk hn => by
    rcases slB_mem.1 hn with rfl | h | h
    · exact lst_blk_ne HS1.out.frs HS1.out.blk tne2S hk
    · exact lst_ne HS1.out.pls HS1.out.frs tne3S k h hk
    · cases h)
  refine ⟨_, rfl, mk2S hb2 rfl hpl hfr hwd, ?_, ?_⟩
  · have m1 : Mod (slB g (.slice a' ps.length c') (.slice a 0 c)) w w1 := HM.out.mono (fun _ h => by cases h)
    have m2 : Mod (slB g (.slice a' ps.length c') (.slice a 0 c)) w1 w2 := (Mod.alloc w1 _ _).trans' (Mod.of_grown g2 (fun k hk => slB_mem.2 (.inr (.inl hk))))
    exact (m1.trans' m2).trans' (Mod.setCell _ _ _ _ (slB_mem.2 (.inl rfl)))
  · rcases wh with e | ⟨k, e, hk⟩
    · exact .inl e
    · refine .inr ⟨k, e, ?_⟩
      have := HM.out.size
      simp at hk
      omega

end Go.Proofs.Ytodigmmpodbpiaa
