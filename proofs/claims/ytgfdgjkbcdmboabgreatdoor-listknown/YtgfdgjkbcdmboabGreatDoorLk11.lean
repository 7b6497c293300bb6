/- Calls of a slab that take or tell things, of things of type store.cell (a struct), as contracts: Take, Get. -/
import Derived.Test.YtgfdgjkbcdmboabGreatDoorLk10
import Derived.Deep.RegionHeld2
import Derived.Test.YtgfdgjkbcdmboabGreatDoorLk07
namespace Go.Proofs.YtgfdgjkbcdmboabGreatDoor
set_option maxRecDepth 20000
open Go.RowKit

theorem size_thC : (Tryz.prog.info? 106).map (·.size) = some 71 := by kernel_rfl

theorem zero_thC : ∀ w, (zeroValue 106).run Tryz.prog w = .ok (.agg zcl.toArray) w := zero_of_info (n := 71) (by kernel_rfl) |>.1

theorem xszC (z : List Value) (hz : Th z) : (Tryz.prog.info? 106).map (·.size) = some (z : List Value).length := by rw [xlenC z hz]; exact size_thC

theorem xplC (z : List Value) (hz : Th z) : (Tryz.prog.info? 145).map (·.size) = some (Value.int .i64 1 :: (z : List Value)).length := by rw [List.length_cons, xlenC z hz]; exact size_plC

theorem xzsC (z : List Value) (hz : Th z) : (zcl : List Value).toArray.size = (z : List Value).toArray.size := by
  have := xlenC z hz
  rw [List.size_toArray, List.size_toArray, this]
  rfl

def plPlaces : Nat → Option (Nat × Nat) := fun i => (#[(0, 1), (1, 71)] : Array (Nat × Nat))[i]?

theorem built_plE (ps : List (Nat × Value)) : Tryz.prog.built 145 ps = Instr.fill plPlaces (Value.int .i64 0 :: zcl).toArray ps := by kernel_rfl

theorem built_pl (z : List Value) (hz : Th z) : Tryz.prog.built 145 [(0, .int .i64 1), (1, .agg z.toArray)] = some (Value.int .i64 1 :: z).toArray := by
  rw [built_plE, fill_one plPlaces 0 0 1 _ [.int .i64 1] _ _ rfl rfl rfl (by simp), fill_one plPlaces 1 1 71 _ z _ _ rfl rfl hz.1 (by simp [zcl]), Instr.fill]
  congr 1
  simp [zcl]

/-- A composite literal, in a region that draws its order. -/
theorem exec_blc (o : Oper) (a : Act) (ty : TypeId) (parts : Array (Nat × Operand)) (ho : o.op = .build ty parts) (cs : Array Value) (h : Tryz.prog.built ty (parts.map fun (i, x) => (i, a.eval x)).toList = some cs) (w : World) : (execOp a.eval o).run Tryz.prog w = .ok (.value (.agg cs)) w := by
  unfold execOp
  simp only [ho, Sem.run_bind, run_build w ty _ cs h, Result.andThen_ok, Sem.run_pure]

theorem wrap_smC (s : Nat) (h : s ≤ 65536) : IntKind.i64.wrap (s : Int) = s := by
  simp only [IntKind.wrap_i64]
  omega

set_option maxHeartbeats 1000000 in
theorem take_fullC (g : Nat) (vp vf : Value) (room : Nat) (ps : List Pl) (z : List Value) (hz : Th z) (w : World) (h : SlC w g vp vf room ps []) (hl : ps.length = room) : Calls Tryz.prog 157 #[.pointer (some ⟨g, 0, none⟩), (.agg z.toArray)] w fun e w' => e = .returned (.tuple #[.int .i64 0, .int .i64 9]) ∧ Below w.heap.size w w' := by
  have HS : Hid (∀ w', Below w.heap.size w w' → SlC w' g vp vf room ps []) := fun w' hb => h.mod (Mod.of_below hb []) (fun _ _ h => by cases h)
  have _ := hz.1
  have HL := hidden hl
  clear h hl
  go_enter Tryz.func157, Tryz.ntmps157
  go_wp2_with (first
    | ((with_reducible refine at_bxd 3 ?_); refine wpList_bx _ rfl _ _ rfl _ rfl ?_; intro w1 b hb1 hl1 B1 b1; have c0 := (HS.out _ b1).c0; clear hb1 hl1)
    | (go_at_call 116; refine (made_okC g _ c0).mono ?_; rintro e w' ⟨rfl, hx⟩; rw [hx]; clear hx w')
    | (go_at_call 182; refine (vac_fullC g vp vf room ps _ (HS.out _ b1).toSmC HL.out).mono ?_; rintro e w2 ⟨rfl, b2⟩))
  go_ret2
  exact ⟨rfl, grow_trans b1 b2⟩

set_option maxHeartbeats 2000000 in
theorem take_freeC (g : Nat) (vp vf : Value) (room : Nat) (ps : List Pl) (fr : List Nat) (s : Nat) (z : List Value) (hz : Th z) (w : World) (h : SlC w g vp vf room ps (fr ++ [s])) : Calls Tryz.prog 157 #[.pointer (some ⟨g, 0, none⟩), (.agg z.toArray)] w fun e w' => e = .returned (.tuple #[.int .i64 (s : Int), .int .i64 0]) ∧ TurnC w g (slB g vp vf) room (ps.set (s - 1) (1, z)) fr w' := by
  have HS : Hid (∀ w', Below w.heap.size w w' → SlC w' g vp vf room ps (fr ++ [s])) := fun w' hb => h.mod (Mod.of_below hb []) (fun _ _ h => by cases h)
  obtain ⟨q1, q2, q3⟩ := h.inv.free s (by simp)
  obtain ⟨i, rfl⟩ : ∃ i, s = i + 1 := ⟨s - 1, by omega⟩
  have hil : i < ps.length := by omega
  have h1 := h.inv.len
  have h2 := h.inv.r2
  have h3 := h.inv.frlen
  have HF : Hid (fr.length ≤ 65536) := by show fr.length ≤ 65536; simp at h3; omega
  have hi6 : i ≤ 65536 := by omega
  have HW2 := hidden (wrap_smC i hi6)
  have HINV := hidden h.inv
  have HLT : Hid (∀ k ∈ slB g vp vf, k < w.heap.size) := fun k hk => by
    rcases slB_mem.1 hk with rfl | hk | hk
    · exact h.blk.lt
    · exact lst_lt h.pls k hk
    · exact lst_lt h.frs k hk
  obtain ⟨gp, c, rfl, _⟩ := lst_pos h.pls (by omega)
  have j0 : (0 : Int) ≤ (i : Int) := by omega
  have j1 : (i : Int) < (ps.length : Int) := by omega
  have hw : wrap64 (i : Int) = i := Go.IntWalk.wrap64_in _ (by omega)
  have HI := hidden hil
  clear h q1 q2 q3 h1 h2 h3 hi6
  go_enter Tryz.func157, Tryz.ntmps157
  go_wp2_with (first
    | ((with_reducible refine at_bxd 3 ?_); refine wpList_bx _ rfl _ _ rfl _ rfl ?_; intro wx b hbx hlx Bx bx; have c0 := (HS.out _ bx).c0; have HBx := hidden Bx; have Hbx := hidden bx; have Hgb := hidden hbx; clear hbx hlx Bx bx)
    | (go_at_call 116; refine (made_okC g _ c0).mono ?_; rintro e w' ⟨rfl, hx⟩; rw [hx]; clear hx w')
    | (go_at_call 182; refine (vac_freeC g _ vf room ps fr (i + 1) _ (HS.out _ Hbx.out).toSmC HF.out).mono ?_; rintro e w1 ⟨vf', rfl, hm1, m1, ob⟩; have HM1 := hidden hm1; have Hm1 := hidden m1; have Hob := hidden ob; clear hm1 m1 c0 ob))
  have hgne : b ≠ g := by
    have := HLT.out g (slB_mem.2 (.inl rfl))
    have := Hgb.out
    omega
  have hpne : b ≠ gp := by
    have := HLT.out gp (slB_mem.2 (.inr (.inl rfl)))
    have := Hgb.out
    omega
  have hB1 : Blk w1 b 106 (z).toArray := HBx.out.mod Hm1.out (by simpa using hgne)
  have HMd := hidden (HM1.out.mod (w' := w1.drew) (Mod.drew [] _) (fun _ _ h => by cases h))
  have HS0 : Hid (w1.drew.cell? ⟨g, 2, none⟩ = some (.slice (some ⟨gp, 0, none⟩) ps.length c) ∧ w1.drew.rangeAt b 0 z) := ⟨HMd.out.c2, hB1.drew.range⟩
  have HSK : Hid (∀ w2, Mod [gp] w1.drew w2 → w2.cell? ⟨g, 2, none⟩ = some (.slice (some ⟨gp, 0, none⟩) ps.length c) ∧ w2.rangeAt b 0 z) := fun w2 m2 =>
    ⟨by rw [(HMd.out.blk.mod m2 (fun e => lst_blk_ne HMd.out.pls HMd.out.blk tne1C (by simp at e; rw [e]; rfl))).cell]; rfl, (hB1.drew.mod m2 (by simpa using hpne)).range⟩
  clear hB1 hgne hpne
  refine wp_region_held_drew (S := fun w' => w'.cell? ⟨g, 2, none⟩ = some (.slice (some ⟨gp, 0, none⟩) ps.length c) ∧ w'.rangeAt b 0 z) (by kernel_rfl) (HS0.out) (fun hHeld => ?_)
  refine wpAnyH_take (i := 0) (v := .pointer (some ⟨g, 0, none⟩)) rfl (by kernel_rfl) (by kernel_rfl) (by kernel_rfl) (fun _ _ _ h => h) (Or.inl ⟨by rfl, fun w hS => by go_simp⟩) hHeld ?_
  simp only [Act.put, List.getElem_toArray, List.getElem_cons_zero, List.setIfInBounds_toArray, List.set_cons_zero, List.set_cons_succ]
  refine wpAnyH_take (i := 1) (v := .pointer (some ⟨g, 0, none⟩)) rfl (by kernel_rfl) (by kernel_rfl) (by kernel_rfl) (fun _ _ _ h => h) (Or.inl ⟨by rfl, fun w hS => by go_simp⟩) hHeld ?_
  simp only [Act.put, List.getElem_toArray, List.getElem_cons_zero, List.getElem_cons_succ, List.setIfInBounds_toArray, List.set_cons_zero, List.set_cons_succ]
  refine wpAnyH_take (i := 2) (v := .pointer (some ⟨g, 2, none⟩)) rfl (by kernel_rfl) (by kernel_rfl) (by kernel_rfl) (fun _ _ _ h => h) (Or.inl ⟨by rfl, fun w hS => by go_simp⟩) hHeld ?_
  simp only [Act.put, List.getElem_toArray, List.getElem_cons_zero, List.getElem_cons_succ, List.setIfInBounds_toArray, List.set_cons_zero, List.set_cons_succ]
  refine wpAnyH_take (i := 3) (v := .slice (some ⟨gp, 0, none⟩) ps.length c) rfl (by kernel_rfl) (by kernel_rfl) (by kernel_rfl) (fun _ _ _ h => h) (Or.inl ⟨by rfl, fun w hS => by (have q1 := hS.1; go_simp)⟩) hHeld ?_
  simp only [Act.put, List.getElem_toArray, List.getElem_cons_zero, List.getElem_cons_succ, List.setIfInBounds_toArray, List.set_cons_zero, List.set_cons_succ]
  refine wpAnyH_take (i := 4) (v := .int .i64 ((i : Int) + 1)) rfl (by kernel_rfl) (by kernel_rfl) (by kernel_rfl) (fun _ _ _ h => h) (Or.inl ⟨by rfl, fun w hS => by go_simp⟩) hHeld ?_
  simp only [Act.put, List.getElem_toArray, List.getElem_cons_zero, List.getElem_cons_succ, List.setIfInBounds_toArray, List.set_cons_zero, List.set_cons_succ]
  refine wpAnyH_take (i := 5) (v := .int .i64 (i : Int)) rfl (by kernel_rfl) (by kernel_rfl) (by kernel_rfl) (fun _ _ _ h => h) (Or.inl ⟨by rfl, fun w hS => by (go_simp; exact HW2.out)⟩) hHeld ?_
  simp only [Act.put, List.getElem_toArray, List.getElem_cons_zero, List.getElem_cons_succ, List.setIfInBounds_toArray, List.set_cons_zero, List.set_cons_succ]
  refine wpAnyH_take (i := 6) (v := (.agg z.toArray)) rfl (by kernel_rfl) (by kernel_rfl) (by kernel_rfl) (fun _ _ _ h => h) (yieldsIf_load_mid rfl 106 (.tmp 3) rfl b 0 rfl z _ (fun w hS => hS.2) Tryz.underlying106 rfl (xszC z hz)) hHeld ?_
  simp only [Act.put, List.getElem_toArray, List.getElem_cons_zero, List.getElem_cons_succ, List.setIfInBounds_toArray, List.set_cons_zero, List.set_cons_succ]
  refine wpAnyH_take (i := 7) (v := .agg (Value.int .i64 1 :: z).toArray) rfl (by kernel_rfl) (by kernel_rfl) (by kernel_rfl) (fun _ _ _ h => h) (Or.inl ⟨by rfl, fun w hS => exec_blc _ _ 145 _ (by rfl) _ (by rw [List.map_toArray]; exact built_pl z hz) w⟩) hHeld ?_
  simp only [Act.put, List.getElem_toArray, List.getElem_cons_zero, List.getElem_cons_succ, List.setIfInBounds_toArray, List.set_cons_zero, List.set_cons_succ]
  refine wpAnyH_take (i := 8) (v := .pointer (some ⟨gp, i * (71 + 1), none⟩)) rfl (by kernel_rfl) (by kernel_rfl) (by kernel_rfl) (fun _ _ _ h => h) (Or.inl ⟨by rfl, fun w hS => by go_simp⟩) hHeld ?_
  simp only [Act.put, List.getElem_toArray, List.getElem_cons_zero, List.getElem_cons_succ, List.setIfInBounds_toArray, List.set_cons_zero, List.set_cons_succ]
  refine wpAnyH_ready (rs := [9]) (by kernel_rfl) (by simp) ?_
  refine AllReadyH.cons rfl (fun KQ hK => ?_) AllReadyH.nil
  refine step_stl _ rfl _ _ _ rfl 145 (71 + 1) ps.length c gp (i * (71 + 1)) (flatS ps) (Value.int .i64 1 :: z) rfl rfl (HMd.out.pls) (xplC z hz) (by have := Nat.mul_le_mul_right (71 + 1) (show i + 1 ≤ ps.length from HI.out); rw [Nat.add_mul, Nat.one_mul] at this; rw [List.length_cons, xlenC z hz]; exact this) (xoneC z hz 1) ?_
  intro w2 hl2 m2 sz2
  have hSB := HSK.out _ m2
  refine hK.out _ _ hSB (fun hHeld => ?_)
  clear hK KQ
  refine wpAnyH_done (by kernel_rfl) ?_ _
  go_wp2
  go_ret2
  have hi := HI.out
  have hs := flatS_setPlace HMd.out.wid i 1 z hi (xlenC z hz)
  rw [show ((1 : Nat) : Int) = 1 from rfl] at hs
  rw [hs] at hl2
  refine ⟨rfl, _, _, ⟨HMd.out.over m2 (ps' := ps.set i (1, z)) (by rw [List.length_set]; exact hl2) (HMd.out.wid.set i 1 _ (xlenC z hz) (fun u hu => xoneC z hz 1 u (by simp only [List.mem_cons]; exact .inr (by simpa using hu)))), HINV.out.takeFree _⟩, ?_, slB_new (.inl rfl) (.inl Hob.out)⟩
  exact ((Mod.of_below Hbx.out _).trans' (Hm1.out.mono (fun k hk => by simp at hk; exact slB_mem.2 (.inl hk)))).trans' ((Mod.drew _ _).trans' (m2.mono (fun k hk => by simp at hk; exact slB_mem.2 (.inr (.inl (by rw [hk]; rfl))))))

set_option maxHeartbeats 2000000 in
theorem take_newC (g : Nat) (vp vf : Value) (room : Nat) (ps : List Pl) (z : List Value) (hz : Th z) (w : World) (h : SlC w g vp vf room ps []) (hl : ps.length < room) : Calls Tryz.prog 157 #[.pointer (some ⟨g, 0, none⟩), (.agg z.toArray)] w fun e w' => e = .returned (.tuple #[.int .i64 ((ps.length + 1 : Nat) : Int), .int .i64 0]) ∧ TurnC w g (slB g vp vf) room (ps ++ [(1, z)]) [] w' := by
  have HS : Hid (∀ w', Below w.heap.size w w' → SlC w' g vp vf room ps []) := fun w' hb => h.mod (Mod.of_below hb []) (fun _ _ h => by cases h)
  have h2 := h.inv.r2
  have HR := hidden h2
  obtain ⟨i, hi⟩ : ∃ i, i = ps.length := ⟨_, rfl⟩
  have j0 : (0 : Int) ≤ (i : Int) := by omega
  have j1 : (i : Int) < ((i + 1 : Nat) : Int) := by omega
  have hw : wrap64 (i : Int) = i := Go.IntWalk.wrap64_in _ (by omega)
  have hi6 : i ≤ 65536 := by omega
  have HW2 := hidden (wrap_smC i hi6)
  have HI := hidden hi
  have HL := hidden hl
  have HINV := hidden h.inv
  have HLT : Hid (∀ k ∈ slB g vp vf, k < w.heap.size) := fun k hk => by
    rcases slB_mem.1 hk with rfl | hk | hk
    · exact h.blk.lt
    · exact lst_lt h.pls k hk
    · exact lst_lt h.frs k hk
  have HWd := hidden h.wid
  have HE : Hid (∀ w, Calls Tryz.prog 182 #[.pointer (some ⟨g, 0, none⟩)] w (fun e w' => ∃ vp', e = .returned (.tuple #[.int .i64 ((ps.length + 1 : Nat) : Int), .bool true]) ∧ SmC w' g vp' vf room (ps ++ [(0, zcl)]) [] ∧ Mod (slB g vp vf) w w' ∧ WhereL w vp vp') → Calls Tryz.prog 182 #[.pointer (some ⟨g, 0, none⟩)] w (fun e w' => ∃ gp c, e = .returned (.tuple #[.int .i64 ((i + 1 : Nat) : Int), .bool true]) ∧ SmC w' g (.slice (some ⟨gp, 0, none⟩) (i + 1) c) vf room (ps ++ [(0, zcl)]) [] ∧ Mod (slB g vp vf) w w' ∧ WhereL w vp (.slice (some ⟨gp, 0, none⟩) (i + 1) c))) := by
    intro w hc
    refine hc.mono ?_
    rintro e w' ⟨vp', rfl, hm, m, wh⟩
    obtain ⟨gp, c, rfl, _⟩ := lst_pos hm.pls (by simp)
    rw [show (ps ++ [((0, zcl) : Pl)]).length = i + 1 by simp [hi]] at hm wh
    exact ⟨gp, c, by rw [hi], hm, m, wh⟩
  clear h h2 hl hi hi6
  go_enter Tryz.func157, Tryz.ntmps157
  go_wp2_with (first
    | ((with_reducible refine at_bxd 3 ?_); refine wpList_bx _ rfl _ _ rfl _ rfl ?_; intro wx b hbx hlx Bx bx; have c0 := (HS.out _ bx).c0; have HBx := hidden Bx; have Hbx := hidden bx; have Hgb := hidden hbx; have Hlb := hidden hlx; clear hbx hlx Bx bx)
    | (go_at_call 116; refine (made_okC g _ c0).mono ?_; rintro e w' ⟨rfl, hx⟩; rw [hx]; clear hx w')
    | (go_at_call 182; refine (HE.out _ (vac_newC g vp vf room ps _ (HS.out _ Hbx.out).toSmC HL.out HR.out)).mono ?_; rintro e w1 ⟨gp, c, rfl, hm1, m1, wh⟩; have HM1 := hidden hm1; have Hm1 := hidden m1; have Hwh := hidden wh; clear hm1 m1 c0 wh))
  have hbS : b ∉ slB g vp vf := fun e => by
    have := HLT.out b e
    have := Hgb.out
    omega
  have hpne : b ≠ gp := by
    rcases Hwh.out with e | ⟨q, e, hq⟩
    · intro e2
      exact hbS (slB_mem.2 (.inr (.inl (by rw [← e, e2]; rfl))))
    · simp only [Value.ownBlock, Option.some.injEq] at e
      have := Hlb.out
      omega
  have hB1 : Blk w1 b 106 (z).toArray := HBx.out.mod Hm1.out hbS
  have HMd := hidden (HM1.out.mod (w' := w1.drew) (Mod.drew [] _) (fun _ _ h => by cases h))
  have HS0 : Hid (w1.drew.cell? ⟨g, 2, none⟩ = some (.slice (some ⟨gp, 0, none⟩) (i + 1) c) ∧ w1.drew.rangeAt b 0 z) := ⟨HMd.out.c2, hB1.drew.range⟩
  have HSK : Hid (∀ w2, Mod [gp] w1.drew w2 → w2.cell? ⟨g, 2, none⟩ = some (.slice (some ⟨gp, 0, none⟩) (i + 1) c) ∧ w2.rangeAt b 0 z) := fun w2 m2 =>
    ⟨by rw [(HMd.out.blk.mod m2 (fun e => lst_blk_ne HMd.out.pls HMd.out.blk tne1C (by simp at e; rw [e]; rfl))).cell]; rfl, (hB1.drew.mod m2 (by simpa using hpne)).range⟩
  clear hB1 hpne
  refine wp_region_held_drew (S := fun w' => w'.cell? ⟨g, 2, none⟩ = some (.slice (some ⟨gp, 0, none⟩) (i + 1) c) ∧ w'.rangeAt b 0 z) (by kernel_rfl) (HS0.out) (fun hHeld => ?_)
  refine wpAnyH_take (i := 0) (v := .pointer (some ⟨g, 0, none⟩)) rfl (by kernel_rfl) (by kernel_rfl) (by kernel_rfl) (fun _ _ _ h => h) (Or.inl ⟨by rfl, fun w hS => by go_simp⟩) hHeld ?_
  simp only [Act.put, List.getElem_toArray, List.getElem_cons_zero, List.setIfInBounds_toArray, List.set_cons_zero, List.set_cons_succ]
  refine wpAnyH_take (i := 1) (v := .pointer (some ⟨g, 0, none⟩)) rfl (by kernel_rfl) (by kernel_rfl) (by kernel_rfl) (fun _ _ _ h => h) (Or.inl ⟨by rfl, fun w hS => by go_simp⟩) hHeld ?_
  simp only [Act.put, List.getElem_toArray, List.getElem_cons_zero, List.getElem_cons_succ, List.setIfInBounds_toArray, List.set_cons_zero, List.set_cons_succ]
  refine wpAnyH_take (i := 2) (v := .pointer (some ⟨g, 2, none⟩)) rfl (by kernel_rfl) (by kernel_rfl) (by kernel_rfl) (fun _ _ _ h => h) (Or.inl ⟨by rfl, fun w hS => by go_simp⟩) hHeld ?_
  simp only [Act.put, List.getElem_toArray, List.getElem_cons_zero, List.getElem_cons_succ, List.setIfInBounds_toArray, List.set_cons_zero, List.set_cons_succ]
  refine wpAnyH_take (i := 3) (v := .slice (some ⟨gp, 0, none⟩) (i + 1) c) rfl (by kernel_rfl) (by kernel_rfl) (by kernel_rfl) (fun _ _ _ h => h) (Or.inl ⟨by rfl, fun w hS => by (have q1 := hS.1; go_simp)⟩) hHeld ?_
  simp only [Act.put, List.getElem_toArray, List.getElem_cons_zero, List.getElem_cons_succ, List.setIfInBounds_toArray, List.set_cons_zero, List.set_cons_succ]
  refine wpAnyH_take (i := 4) (v := .int .i64 ((i : Int) + 1)) rfl (by kernel_rfl) (by kernel_rfl) (by kernel_rfl) (fun _ _ _ h => h) (Or.inl ⟨by rfl, fun w hS => by go_simp⟩) hHeld ?_
  simp only [Act.put, List.getElem_toArray, List.getElem_cons_zero, List.getElem_cons_succ, List.setIfInBounds_toArray, List.set_cons_zero, List.set_cons_succ]
  refine wpAnyH_take (i := 5) (v := .int .i64 (i : Int)) rfl (by kernel_rfl) (by kernel_rfl) (by kernel_rfl) (fun _ _ _ h => h) (Or.inl ⟨by rfl, fun w hS => by (go_simp; exact HW2.out)⟩) hHeld ?_
  simp only [Act.put, List.getElem_toArray, List.getElem_cons_zero, List.getElem_cons_succ, List.setIfInBounds_toArray, List.set_cons_zero, List.set_cons_succ]
  refine wpAnyH_take (i := 6) (v := (.agg z.toArray)) rfl (by kernel_rfl) (by kernel_rfl) (by kernel_rfl) (fun _ _ _ h => h) (yieldsIf_load_mid rfl 106 (.tmp 3) rfl b 0 rfl z _ (fun w hS => hS.2) Tryz.underlying106 rfl (xszC z hz)) hHeld ?_
  simp only [Act.put, List.getElem_toArray, List.getElem_cons_zero, List.getElem_cons_succ, List.setIfInBounds_toArray, List.set_cons_zero, List.set_cons_succ]
  refine wpAnyH_take (i := 7) (v := .agg (Value.int .i64 1 :: z).toArray) rfl (by kernel_rfl) (by kernel_rfl) (by kernel_rfl) (fun _ _ _ h => h) (Or.inl ⟨by rfl, fun w hS => exec_blc _ _ 145 _ (by rfl) _ (by rw [List.map_toArray]; exact built_pl z hz) w⟩) hHeld ?_
  simp only [Act.put, List.getElem_toArray, List.getElem_cons_zero, List.getElem_cons_succ, List.setIfInBounds_toArray, List.set_cons_zero, List.set_cons_succ]
  refine wpAnyH_take (i := 8) (v := .pointer (some ⟨gp, i * (71 + 1), none⟩)) rfl (by kernel_rfl) (by kernel_rfl) (by kernel_rfl) (fun _ _ _ h => h) (Or.inl ⟨by rfl, fun w hS => by (go_simp; intro h8; omega)⟩) hHeld ?_
  simp only [Act.put, List.getElem_toArray, List.getElem_cons_zero, List.getElem_cons_succ, List.setIfInBounds_toArray, List.set_cons_zero, List.set_cons_succ]
  refine wpAnyH_ready (rs := [9]) (by kernel_rfl) (by simp) ?_
  refine AllReadyH.cons rfl (fun KQ hK => ?_) AllReadyH.nil
  refine step_stl _ rfl _ _ _ rfl 145 (71 + 1) (i + 1) c gp (i * (71 + 1)) (flatS (ps ++ [(0, zcl)])) (Value.int .i64 1 :: z) rfl rfl (by have := HMd.out.pls; rw [List.length_append, List.length_singleton, ← HI.out] at this; exact this) (xplC z hz) (by rw [Nat.add_mul, List.length_cons, xlenC z hz]; omega) (xoneC z hz 1) ?_
  intro w2 hl2 m2 sz2
  have hSB := HSK.out _ m2
  refine hK.out _ _ hSB (fun hHeld => ?_)
  clear hK KQ
  refine wpAnyH_done (by kernel_rfl) ?_ _
  go_wp2
  go_ret2
  have hi := HI.out
  have hs := flatS_setPlace HMd.out.wid i 1 z (by simp; omega) (xlenC z hz)
  rw [show ((1 : Nat) : Int) = 1 from rfl] at hs
  rw [hs, hi, set_last] at hl2
  rw [hi] at Hwh HMd
  have hwh := Hwh.out
  have hwS : WhereL w vp (.slice (some ⟨gp, 0, none⟩) (ps.length + 1) c) := by
    rcases hwh with e | ⟨q, e, hq⟩
    · exact .inl e
    · exact .inr ⟨q, e, by have := Hbx.out.size; omega⟩
  refine ⟨by rw [hi]; rfl, _, _, ⟨HMd.out.over m2 (ps' := ps ++ [(1, z)]) (by simpa using hl2) (HWd.out.snoc 1 _ (xlenC z hz) (fun u hu => xoneC z hz 1 u (by simp only [List.mem_cons]; exact .inr (by simpa using hu)))), HINV.out.takeNew HL.out _⟩, ?_, slB_new hwS (.inl rfl)⟩
  exact (((Mod.of_below Hbx.out _).trans' Hm1.out).trans' (Mod.drew _ _)).trans (slB_new (g := g) hwS (.inl rfl)) (m2.mono (fun k hk => by simp at hk; exact slB_mem.2 (.inr (.inl (by rw [hk]; rfl)))))

set_option maxHeartbeats 1000000 in
theorem get_okC (g : Nat) (vp vf : Value) (room : Nat) (ps : List Pl) (fr : List Nat) (slot : Int) (i : Nat) (z : List Value) (hz : Th z) (w : World) (h : SlC w g vp vf room ps fr) (hs : slot = (i : Int) + 1) (hi : 0 < cnt ps i) (ht : thg ps i = z) : Calls Tryz.prog 87 #[.pointer (some ⟨g, 0, none⟩), .int .i64 slot] w fun e w' => e = .returned (.tuple #[(.agg z.toArray), .int .i64 0]) ∧ Below w.heap.size w w' := by
  have HS : Hid (∀ w', Below w.heap.size w w' → SlC w' g vp vf room ps fr) := fun w' hb => h.mod (Mod.of_below hb []) (fun _ _ h => by cases h)
  have HI := hidden hi
  have HE := hidden hs
  have HTh := hidden ht
  obtain ⟨gp, c, rfl, _, hil, j0, j1, hw, hm⟩ := h.at i hi
  have HIL := hidden hil
  have HRg : Hid (∀ w', Below w.heap.size w w' → w'.rangeAt gp (i * (71 + 1) + 1) z) := by
    intro w' hb j u hu
    have hsl := HS.out _ hb
    have hj : j < 71 := by have := (List.getElem?_eq_some_iff.1 hu).1; rwa [xlenC z hz] at this
    rw [lst_cell hsl.pls _ (by have := Nat.mul_le_mul_right (71 + 1) (show i + 1 ≤ ps.length from hil); rw [Nat.add_mul] at this; omega)]
    exact flatS_thing hsl.wid i hil j u (by rw [HTh.out]; exact hu)
  clear h hs hi ht
  go_enter Tryz.func87, Tryz.ntmps87
  go_wp2_with (first
    | ((with_reducible refine at_ald 4 ?_); refine wpList_al _ rfl _ rfl _ zero_thC ?_; intro w1 b4 hg1 hl1 B1 b1; have c2 := (HS.out _ b1).c2; have HB1 := hidden B1; have Hg1 := hidden hg1; clear B1 hg1 hl1)
    | (go_at_call 88; refine (at_okC g _ vf room ps fr slot i _ (HS.out _ b1) HE.out HI.out).mono ?_; rintro e w' ⟨rfl, hx⟩; rw [hx]; clear hx w')
    | ((with_reducible refine at_ldd 26 25 ?_); refine wpList_load_mid rfl _ _ rfl gp (i * (71 + 1) + 1) rfl z _ (HRg.out _ b1) Tryz.underlying106 rfl (xszC z hz) ?_)
    | ((with_reducible refine at_st 4 ?_); refine wpList_sto _ rfl _ _ _ rfl b4 _ (z).toArray rfl rfl HB1.out (xszC z hz) (xzsC z hz) (all_oneCell_toArray (fun u hu => xoneC z hz 1 u (by simp only [List.mem_cons]; exact .inr (by simpa using hu)))) ?_; intro w2 B2 g2))
  exact bodyPost_ret (v := .tuple #[(.agg z.toArray), .int .i64 0]) (results_agg_tmp rfl _ _ b4 _ _ rfl rfl B2 Tryz.underlying106 (xszC z hz)) rfl ⟨rfl, below_row b1 g2 Hg1.out⟩

end Go.Proofs.YtgfdgjkbcdmboabGreatDoor

/- Calls of a slab of things of type store.cell, as contracts: Get at a slot that is not occupied, Set. -/
namespace Go.Proofs.YtgfdgjkbcdmboabGreatDoor
set_option maxRecDepth 20000
open Go.RowKit

set_option maxHeartbeats 1000000 in
theorem get_badC (g : Nat) (vp vf : Value) (room : Nat) (ps : List Pl) (fr : List Nat) (slot : Int) (w : World) (h : SlC w g vp vf room ps fr) (hv : Vac ps slot) : Calls Tryz.prog 87 #[.pointer (some ⟨g, 0, none⟩), .int .i64 slot] w fun e w' => e = .returned (.tuple #[(.agg zcl.toArray), .int .i64 7]) ∧ Below w.heap.size w w' := by
  have HS : Hid (∀ w', Below w.heap.size w w' → SlC w' g vp vf room ps fr) := fun w' hb => h.mod (Mod.of_below hb []) (fun _ _ h => by cases h)
  have HV := hidden hv
  clear h hv
  go_enter Tryz.func87, Tryz.ntmps87
  go_wp2_with (first
    | ((with_reducible refine at_ald 4 ?_); refine wpList_al _ rfl _ rfl _ zero_thC ?_; intro w1 b4 hg1 hl1 B1 b1; have HB1 := hidden B1; have Hg1 := hidden hg1; have Hl1 := hidden hl1; clear B1 hg1 hl1)
    | (go_at_call 88; refine (at_badC g _ vf room ps fr slot _ (HS.out _ b1) HV.out).mono ?_; rintro e w' ⟨rfl, hx⟩; rw [hx]; clear hx w')
    | ((with_reducible refine at_ald 8 ?_); refine wpList_al _ rfl _ rfl _ zero_thC ?_; intro w2 b8 hg2 hl2 B2 b2; have HB2 := hidden B2; have HB1' := hidden (HB1.out.grow b2); have Hb2 := hidden b2; have hne : b4 ≠ b8 := (by have := Hl1.out; omega); clear B2 hg2 hl2 b2)
    | ((with_reducible refine at_ldd 17 8 ?_); refine wpList_load_mid rfl _ _ rfl b8 0 rfl zcl _ HB2.out.range Tryz.underlying106 rfl (xszC zcl zcl_th) ?_)
    | ((with_reducible refine at_st 4 ?_); refine wpList_sto _ rfl _ _ _ rfl b4 _ zcl.toArray rfl rfl HB1'.out (xszC zcl zcl_th) rfl (all_oneCell_toArray zcl_th.2) ?_; intro w3 B3 g3))
  exact bodyPost_ret (v := .tuple #[(.agg zcl.toArray), .int .i64 7]) (results_agg_tmp rfl _ _ b4 _ _ rfl rfl B3 Tryz.underlying106 (xszC zcl zcl_th)) rfl ⟨rfl, below_row (grow_trans b1 Hb2.out) g3 Hg1.out⟩

set_option maxHeartbeats 2000000 in
theorem set_okC (g : Nat) (vp vf : Value) (room : Nat) (ps : List Pl) (fr : List Nat) (slot : Int) (i : Nat) (z : List Value) (hz : Th z) (w : World) (h : SlC w g vp vf room ps fr) (hs : slot = (i : Int) + 1) (hi : 0 < cnt ps i) : Calls Tryz.prog 117 #[.pointer (some ⟨g, 0, none⟩), .int .i64 slot, (.agg z.toArray)] w fun e w' => e = .returned (.int .i64 0) ∧ TurnC w g (slB g vp vf) room (ps.set i (cnt ps i, z)) fr w' := by
  have HS : Hid (∀ w', Below w.heap.size w w' → SlC w' g vp vf room ps fr) := fun w' hb => h.mod (Mod.of_below hb []) (fun _ _ h => by cases h)
  have HI := hidden hi
  have HE := hidden hs
  have HLE := hidden (h.inv.most i)
  have HINV := hidden h.inv
  have HLT : Hid (∀ k ∈ slB g vp vf, k < w.heap.size) := fun k hk => by
    rcases slB_mem.1 hk with rfl | hk | hk
    · exact h.blk.lt
    · exact lst_lt h.pls k hk
    · exact lst_lt h.frs k hk
  obtain ⟨gp, c, rfl, _, hil, j0, j1, hw, hm⟩ := h.at i hi
  have HIL := hidden hil
  clear h hs hi
  go_enter Tryz.func117, Tryz.ntmps117
  go_wp2_with (first
    | ((with_reducible refine at_bxd 5 ?_); refine wpList_bx _ rfl _ _ rfl _ rfl ?_; intro wx b hbx hlx Bx bx; have HBx := hidden Bx; have Hbx := hidden bx; have Hgb := hidden hbx; clear hbx hlx Bx bx)
    | (go_at_call 88; refine (at_okC g _ vf room ps fr slot i _ (HS.out _ Hbx.out) HE.out HI.out).mono ?_; rintro e w' ⟨rfl, hx⟩; rw [hx]; clear hx w'))
  have hgne : b ≠ g := by
    have := HLT.out g (slB_mem.2 (.inl rfl))
    have := Hgb.out
    omega
  have hpne : b ≠ gp := by
    have := HLT.out gp (slB_mem.2 (.inr (.inl rfl)))
    have := Hgb.out
    omega
  have hB1 : Blk wx b 106 (z).toArray := HBx.out
  have HMd := hidden ((HS.out _ Hbx.out).toSmC.mod (w' := wx.drew) (Mod.drew [] _) (fun _ _ h => by cases h))
  have HS0 : Hid (wx.drew.cell? ⟨g, 2, none⟩ = some (.slice (some ⟨gp, 0, none⟩) ps.length c) ∧ wx.drew.rangeAt b 0 z) := ⟨HMd.out.c2, hB1.drew.range⟩
  have HSK : Hid (∀ w2, Mod [gp] wx.drew w2 → w2.cell? ⟨g, 2, none⟩ = some (.slice (some ⟨gp, 0, none⟩) ps.length c) ∧ w2.rangeAt b 0 z) := fun w2 m2 =>
    ⟨by rw [(HMd.out.blk.mod m2 (fun e => lst_blk_ne HMd.out.pls HMd.out.blk tne1C (by simp at e; rw [e]; rfl))).cell]; rfl, (hB1.drew.mod m2 (by simpa using hpne)).range⟩
  clear hB1 hgne hpne
  refine wp_region_held_drew (S := fun w' => w'.cell? ⟨g, 2, none⟩ = some (.slice (some ⟨gp, 0, none⟩) ps.length c) ∧ w'.rangeAt b 0 z) (by kernel_rfl) (HS0.out) (fun hHeld => ?_)
  refine wpAnyH_take (i := 0) (v := .pointer (some ⟨g, 0, none⟩)) rfl (by kernel_rfl) (by kernel_rfl) (by kernel_rfl) (fun _ _ _ h => h) (Or.inl ⟨by rfl, fun w hS => by go_simp⟩) hHeld ?_
  simp only [Act.put, List.getElem_toArray, List.getElem_cons_zero, List.setIfInBounds_toArray, List.set_cons_zero, List.set_cons_succ]
  refine wpAnyH_take (i := 1) (v := .pointer (some ⟨g, 0, none⟩)) rfl (by kernel_rfl) (by kernel_rfl) (by kernel_rfl) (fun _ _ _ h => h) (Or.inl ⟨by rfl, fun w hS => by go_simp⟩) hHeld ?_
  simp only [Act.put, List.getElem_toArray, List.getElem_cons_zero, List.getElem_cons_succ, List.setIfInBounds_toArray, List.set_cons_zero, List.set_cons_succ]
  refine wpAnyH_take (i := 2) (v := .pointer (some ⟨g, 2, none⟩)) rfl (by kernel_rfl) (by kernel_rfl) (by kernel_rfl) (fun _ _ _ h => h) (Or.inl ⟨by rfl, fun w hS => by go_simp⟩) hHeld ?_
  simp only [Act.put, List.getElem_toArray, List.getElem_cons_zero, List.getElem_cons_succ, List.setIfInBounds_toArray, List.set_cons_zero, List.set_cons_succ]
  refine wpAnyH_take (i := 3) (v := .slice (some ⟨gp, 0, none⟩) ps.length c) rfl (by kernel_rfl) (by kernel_rfl) (by kernel_rfl) (fun _ _ _ h => h) (Or.inl ⟨by rfl, fun w hS => by (have q1 := hS.1; go_simp)⟩) hHeld ?_
  simp only [Act.put, List.getElem_toArray, List.getElem_cons_zero, List.getElem_cons_succ, List.setIfInBounds_toArray, List.set_cons_zero, List.set_cons_succ]
  refine wpAnyH_take (i := 4) (v := .int .i64 (i : Int)) rfl (by kernel_rfl) (by kernel_rfl) (by kernel_rfl) (fun _ _ _ h => h) (Or.inl ⟨by rfl, fun w hS => by go_simp⟩) hHeld ?_
  simp only [Act.put, List.getElem_toArray, List.getElem_cons_zero, List.getElem_cons_succ, List.setIfInBounds_toArray, List.set_cons_zero, List.set_cons_succ]
  refine wpAnyH_take (i := 5) (v := (.agg z.toArray)) rfl (by kernel_rfl) (by kernel_rfl) (by kernel_rfl) (fun _ _ _ h => h) (yieldsIf_load_mid rfl 106 (.tmp 5) rfl b 0 rfl z _ (fun w hS => hS.2) Tryz.underlying106 rfl (xszC z hz)) hHeld ?_
  simp only [Act.put, List.getElem_toArray, List.getElem_cons_zero, List.getElem_cons_succ, List.setIfInBounds_toArray, List.set_cons_zero, List.set_cons_succ]
  refine wpAnyH_take (i := 6) (v := .pointer (some ⟨gp, i * (71 + 1), none⟩)) rfl (by kernel_rfl) (by kernel_rfl) (by kernel_rfl) (fun _ _ _ h => h) (Or.inl ⟨by rfl, fun w hS => by go_simp⟩) hHeld ?_
  simp only [Act.put, List.getElem_toArray, List.getElem_cons_zero, List.getElem_cons_succ, List.setIfInBounds_toArray, List.set_cons_zero, List.set_cons_succ]
  refine wpAnyH_take (i := 7) (v := .pointer (some ⟨gp, i * (71 + 1) + 1, none⟩)) rfl (by kernel_rfl) (by kernel_rfl) (by kernel_rfl) (fun _ _ _ h => h) (Or.inl ⟨by rfl, fun w hS => by go_simp⟩) hHeld ?_
  simp only [Act.put, List.getElem_toArray, List.getElem_cons_zero, List.getElem_cons_succ, List.setIfInBounds_toArray, List.set_cons_zero, List.set_cons_succ]
  refine wpAnyH_ready (rs := [8]) (by kernel_rfl) (by simp) ?_
  refine AllReadyH.cons rfl (fun KQ hK => ?_) AllReadyH.nil
  refine step_stl _ rfl _ _ _ rfl 145 (71 + 1) ps.length c gp (i * (71 + 1) + 1) (flatS ps) z rfl rfl (HMd.out.pls) (xszC z hz) (by have := Nat.mul_le_mul_right (71 + 1) (show i + 1 ≤ ps.length from HIL.out); rw [Nat.add_mul, Nat.one_mul] at this; rw [xlenC z hz]; omega) (hz.2) ?_
  intro w2 hl2 m2 sz2
  have hSB := HSK.out _ m2
  refine hK.out _ _ hSB (fun hHeld => ?_)
  clear hK KQ
  refine wpAnyH_done (by kernel_rfl) ?_ _
  go_wp2
  go_ret
  have hs2 := flatS_setThing HMd.out.wid i z HIL.out (xlenC z hz)
  rw [hs2] at hl2
  refine ⟨rfl, _, _, ⟨HMd.out.over m2 (ps' := ps.set i (cnt ps i, z)) (by rw [List.length_set]; exact hl2) (HMd.out.wid.set i _ _ (xlenC z hz) hz.2), HINV.out.held HI.out HI.out HLE.out _⟩, ?_, New.refl _ _⟩
  exact (Mod.of_below Hbx.out _).trans' ((Mod.drew _ _).trans' (m2.mono (fun k hk => by simp at hk; exact slB_mem.2 (.inr (.inl (by rw [hk]; rfl))))))

end Go.Proofs.YtgfdgjkbcdmboabGreatDoor

/- Slots of a slab of things of type store.cell, as a contract. -/
namespace Go.Proofs.YtgfdgjkbcdmboabGreatDoor
set_option maxRecDepth 20000
open Go.RowKit

end Go.Proofs.YtgfdgjkbcdmboabGreatDoor
