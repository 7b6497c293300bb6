/- More of the document's slab, as contracts: Drop of the last, Take, New, Slots, Len. -/
import Derived.Test.YtodigmmpodbpiaaRefSl1
namespace Go.Proofs.Ytodigmmpodbpiaa
set_option maxRecDepth 20000
open Go.RowKit

theorem wrap_sm (s : Nat) (h : s ≤ 65536) : IntKind.i64.wrap (s : Int) = s := by
  simp only [IntKind.wrap_i64]
  omega

/-- The last free slot taken off. -/
theorem Rm.cut4 {w : World} {g gf n cf s : Nat} {vt vc : Value} {room : Nat} {ts : List Int} {cs fr : List Nat} (h : Rm w g vt vc (.slice (some ⟨gf, 0, none⟩) n cf) room ts cs (fr ++ [s])) : Rm (w.setCell ⟨g, 4, none⟩ (.slice (some ⟨gf, 0, none⟩) fr.length cf)) g vt vc (.slice (some ⟨gf, 0, none⟩) fr.length cf) room ts cs fr := by
  have m : Mod [g] w (w.setCell ⟨g, 4, none⟩ (.slice (some ⟨gf, 0, none⟩) fr.length cf)) := Mod.setCell _ _ _ _ (by simp)
  have hf := h.frs
  obtain rfl : n = (fr ++ [s]).length := by
    obtain ⟨_, _, e⟩ := lst_slice hf
    injection e
  have hc := lst_cut (m := fr.length) hf (by simp)
  rw [Nat.mul_one, nats_take, List.take_left] at hc
  refine ⟨h.blk.set 4 _, lst_mod h.ths m (fun k hk e => ?_), lst_mod h.cts m (fun k hk e => ?_), lst_mod hc m (fun k hk e => ?_), h.d1, h.d2, h.d3⟩
  · obtain rfl : k = g := by simpa using e
    exact lst_blk_ne h.ths h.blk rne hk
  · obtain rfl : k = g := by simpa using e
    exact lst_blk_ne h.cts h.blk rne hk
  · obtain rfl : k = g := by simpa using e
    exact lst_blk_ne h.frs h.blk rne hk

theorem where_ne {w : World} {o : Obj} {e : TypeId} {v v' x : Value} {n : Nat} {xs : List Value} (wh : WhereL (w.alloc o) v v') (hx : Lst w e 1 x n xs) (hd : ∀ k, v.ownBlock = some k → x.ownBlock ≠ some k) : ∀ k, v'.ownBlock = some k → x.ownBlock ≠ some k := by
  intro k hk hx'
  rcases wh with h | ⟨q, h, hq⟩
  · exact hd k (h ▸ hk) hx'
  · rw [h] at hk
    injection hk with hk
    have := lst_lt hx k hx'
    simp at hq
    omega

theorem Rm.app2 {w w' : World} {g : Nat} {vt vc vf vt' : Value} {room : Nat} {ts : List Int} {cs fr : List Nat} (ts' : List Int) (h : Rm w g vt vc vf room ts cs fr) (o : Obj) (hv : Lst w' 3 1 vt' ts'.length (ts'.map (Value.int .i64))) (hg : (w.alloc o).grownBy w' vt.ownBlock) (wh : WhereL (w.alloc o) vt vt') :
    Blk w' g 62 #[.bool true, .int .i64 (room : Int), vt, vc, vf] ∧ Rm (w'.setCell ⟨g, 2, none⟩ vt') g vt' vc vf room ts' cs fr ∧ Mod (rfB g vt vc vf) w (w'.setCell ⟨g, 2, none⟩ vt') ∧ New (rfB g vt vc vf) w (rfB g vt' vc vf) := by
  have hb : Blk w' g 62 #[.bool true, .int .i64 (room : Int), vt, vc, vf] := (h.blk.grow (grow_alloc w o)).of_block (hg.block g (by have := h.blk.lt; simp; omega) (fun e => lst_blk_ne h.ths h.blk rne e.symm))
  have m1 : Mod (rfB g vt vc vf) w w' := (Mod.alloc w o _).trans' (Mod.of_grown hg (fun k hk => rfB_mem.2 (.inr (.inl hk))))
  have mg : Mod vt.ownBlock.toList w w' := (Mod.alloc w o _).trans' (Mod.of_grown hg (fun k hk => by simp [hk]))
  have K3 := lst_mod h.cts mg (fun q hq e => (fun q hq e => h.d1 q e hq) q hq (by simpa using e))
  have K4 := lst_mod h.frs mg (fun q hq e => (fun q hq e => h.d2 q e hq) q hq (by simpa using e))
  have m2 : Mod [g] w' (w'.setCell ⟨g, 2, none⟩ vt') := Mod.setCell _ _ _ _ (by simp)
  refine ⟨hb, ⟨hb.set 2 vt', lst_mod hv m2 (fun k hk e => by obtain rfl : k = g := (by simpa using e); exact lst_blk_ne hv hb rne hk), lst_mod (K3) m2 (fun k hk e => by obtain rfl : k = g := (by simpa using e); exact lst_blk_ne (K3) hb rne hk), lst_mod (K4) m2 (fun k hk e => by obtain rfl : k = g := (by simpa using e); exact lst_blk_ne (K4) hb rne hk), where_ne wh h.cts h.d1, where_ne wh h.frs h.d2, h.d3⟩, m1.trans' (Mod.setCell _ _ _ _ (rfB_mem.2 (.inl rfl))), fun k hk => ?_⟩
  rcases rfB_mem.1 hk with rfl | hk | hk | hk
  · exact .inl (rfB_mem.2 (.inl rfl))
  · rcases wh with e | ⟨q, e, hq⟩
    · exact .inl (rfB_mem.2 (.inr (.inl (e ▸ hk))))
    · rw [e] at hk
      injection hk with hk
      simp at hq
      exact .inr (by omega)
  · exact .inl (rfB_mem.2 (.inr (.inr (.inl hk))))
  · exact .inl (rfB_mem.2 (.inr (.inr (.inr hk))))

theorem Rm.app3 {w w' : World} {g : Nat} {vt vc vf vc' : Value} {room : Nat} {ts : List Int} {cs fr : List Nat} (cs' : List Nat) (h : Rm w g vt vc vf room ts cs fr) (o : Obj) (hv : Lst w' 3 1 vc' cs'.length (nats cs')) (hg : (w.alloc o).grownBy w' vc.ownBlock) (wh : WhereL (w.alloc o) vc vc') :
    Blk w' g 62 #[.bool true, .int .i64 (room : Int), vt, vc, vf] ∧ Rm (w'.setCell ⟨g, 3, none⟩ vc') g vt vc' vf room ts cs' fr ∧ Mod (rfB g vt vc vf) w (w'.setCell ⟨g, 3, none⟩ vc') ∧ New (rfB g vt vc vf) w (rfB g vt vc' vf) := by
  have hb : Blk w' g 62 #[.bool true, .int .i64 (room : Int), vt, vc, vf] := (h.blk.grow (grow_alloc w o)).of_block (hg.block g (by have := h.blk.lt; simp; omega) (fun e => lst_blk_ne h.cts h.blk rne e.symm))
  have m1 : Mod (rfB g vt vc vf) w w' := (Mod.alloc w o _).trans' (Mod.of_grown hg (fun k hk => rfB_mem.2 (.inr (.inr (.inl hk)))))
  have mg : Mod vc.ownBlock.toList w w' := (Mod.alloc w o _).trans' (Mod.of_grown hg (fun k hk => by simp [hk]))
  have K2 := lst_mod h.ths mg (fun q hq e => (fun q hq e => h.d1 q hq e) q hq (by simpa using e))
  have K4 := lst_mod h.frs mg (fun q hq e => (fun q hq e => h.d3 q e hq) q hq (by simpa using e))
  have m2 : Mod [g] w' (w'.setCell ⟨g, 3, none⟩ vc') := Mod.setCell _ _ _ _ (by simp)
  refine ⟨hb, ⟨hb.set 3 vc', lst_mod (K2) m2 (fun k hk e => by obtain rfl : k = g := (by simpa using e); exact lst_blk_ne (K2) hb rne hk), lst_mod hv m2 (fun k hk e => by obtain rfl : k = g := (by simpa using e); exact lst_blk_ne hv hb rne hk), lst_mod (K4) m2 (fun k hk e => by obtain rfl : k = g := (by simpa using e); exact lst_blk_ne (K4) hb rne hk), fun k hk e => where_ne wh h.ths (fun q hq e => h.d1 q e hq) k e hk, h.d2, where_ne wh h.frs h.d3⟩, m1.trans' (Mod.setCell _ _ _ _ (rfB_mem.2 (.inl rfl))), fun k hk => ?_⟩
  rcases rfB_mem.1 hk with rfl | hk | hk | hk
  · exact .inl (rfB_mem.2 (.inl rfl))
  · exact .inl (rfB_mem.2 (.inr (.inl hk)))
  · rcases wh with e | ⟨q, e, hq⟩
    · exact .inl (rfB_mem.2 (.inr (.inr (.inl (e ▸ hk)))))
    · rw [e] at hk
      injection hk with hk
      simp at hq
      exact .inr (by omega)
  · exact .inl (rfB_mem.2 (.inr (.inr (.inr hk))))

theorem Rm.app4 {w w' : World} {g : Nat} {vt vc vf vf' : Value} {room : Nat} {ts : List Int} {cs fr : List Nat} (fr' : List Nat) (h : Rm w g vt vc vf room ts cs fr) (o : Obj) (hv : Lst w' 3 1 vf' fr'.length (nats fr')) (hg : (w.alloc o).grownBy w' vf.ownBlock) (wh : WhereL (w.alloc o) vf vf') :
    Blk w' g 62 #[.bool true, .int .i64 (room : Int), vt, vc, vf] ∧ Rm (w'.setCell ⟨g, 4, none⟩ vf') g vt vc vf' room ts cs fr' ∧ Mod (rfB g vt vc vf) w (w'.setCell ⟨g, 4, none⟩ vf') ∧ New (rfB g vt vc vf) w (rfB g vt vc vf') := by
  have hb : Blk w' g 62 #[.bool true, .int .i64 (room : Int), vt, vc, vf] := (h.blk.grow (grow_alloc w o)).of_block (hg.block g (by have := h.blk.lt; simp; omega) (fun e => lst_blk_ne h.frs h.blk rne e.symm))
  have m1 : Mod (rfB g vt vc vf) w w' := (Mod.alloc w o _).trans' (Mod.of_grown hg (fun k hk => rfB_mem.2 (.inr (.inr (.inr hk)))))
  have mg : Mod vf.ownBlock.toList w w' := (Mod.alloc w o _).trans' (Mod.of_grown hg (fun k hk => by simp [hk]))
  have K2 := lst_mod h.ths mg (fun q hq e => (fun q hq e => h.d2 q hq e) q hq (by simpa using e))
  have K3 := lst_mod h.cts mg (fun q hq e => (fun q hq e => h.d3 q hq e) q hq (by simpa using e))
  have m2 : Mod [g] w' (w'.setCell ⟨g, 4, none⟩ vf') := Mod.setCell _ _ _ _ (by simp)
  refine ⟨hb, ⟨hb.set 4 vf', lst_mod (K2) m2 (fun k hk e => by obtain rfl : k = g := (by simpa using e); exact lst_blk_ne (K2) hb rne hk), lst_mod (K3) m2 (fun k hk e => by obtain rfl : k = g := (by simpa using e); exact lst_blk_ne (K3) hb rne hk), lst_mod hv m2 (fun k hk e => by obtain rfl : k = g := (by simpa using e); exact lst_blk_ne hv hb rne hk), h.d1, fun k hk e => where_ne wh h.ths (fun q hq e => h.d2 q e hq) k e hk, fun k hk e => where_ne wh h.cts (fun q hq e => h.d3 q e hq) k e hk⟩, m1.trans' (Mod.setCell _ _ _ _ (rfB_mem.2 (.inl rfl))), fun k hk => ?_⟩
  rcases rfB_mem.1 hk with rfl | hk | hk | hk
  · exact .inl (rfB_mem.2 (.inl rfl))
  · exact .inl (rfB_mem.2 (.inr (.inl hk)))
  · exact .inl (rfB_mem.2 (.inr (.inr (.inl hk))))
  · rcases wh with e | ⟨q, e, hq⟩
    · exact .inl (rfB_mem.2 (.inr (.inr (.inr (e ▸ hk)))))
    · rw [e] at hk
      injection hk with hk
      simp at hq
      exact .inr (by omega)

set_option maxHeartbeats 1000000 in
theorem rdrop_last (g : Nat) (vt vc vf : Value) (room : Nat) (ts : List Int) (cs fr : List Nat) (slot : Int) (i : Nat) (w : World) (h : Rf w g vt vc vf room ts cs fr) (hs : slot = (i : Int) + 1) (hi : 0 < cn cs i) (hc : cn cs i = 1) (hfr : fr.length ≤ 65536) : Calls Try.prog 29 #[.pointer (some ⟨g, 0, none⟩), .int .i64 slot] w fun e w' => e = .returned (.tuple #[.bool true, .int .i64 0]) ∧ RTurn w g (rfB g vt vc vf) room ts (cs.set i 0) (fr ++ [i + 1]) w' := by
  have HS := hidden h
  have HE := hidden hs
  have HI := hidden hi
  have c2 := h.c2
  have c3 := h.c3
  have hil := cn_lt hi
  have HIL := hidden hil
  obtain ⟨gt, ct, gc, cc, rfl, rfl, k1, k2, k3, k4, j0, j1, hw⟩ := h.at i hil
  have h3 : slot - 1 = (i : Int) := by omega
  rw [hc] at k2
  have hR := h.setC i 0
  rw [show ((0 : Nat) : Int) = 0 from rfl] at hR
  have c5 := hR.c3
  have c7 := hR.c4
  have c6 : (w.setCell ⟨gc, i, none⟩ (.int .i64 0)).cell? ⟨gc, i, none⟩ = some (.int .i64 0) := World.cell?_setCell_same' _ _ _ (by rw [k2]; rfl)
  obtain ⟨a', c', rfl⟩ := lst_slice hR.frs
  obtain ⟨w1, hw1⟩ : ∃ x, x = w.setCell ⟨gc, i, none⟩ (.int .i64 0) := ⟨_, rfl⟩
  have HM1 : Hid (Mod [gc] w w1) := by rw [hw1]; exact Mod.setCell _ _ _ _ (by simp)
  have HZ : Hid (w1.heap.size = w.heap.size) := by rw [hw1]; show _ = _; simp
  have hR1 := hR
  rw [← hw1] at hR1
  have HR := hidden hR1
  have HW1 := hidden hw1
  have HF := hidden hfr
  clear h hs hi hc k1 k3 hR hw1 hfr hR1
  go_enter Try.func29, Try.ntmps29
  go_wp2_with (first
    | (go_at_call 56; refine (rwrong_ok g _ _ _ room ts cs fr slot i _ HS.out HE.out HI.out).mono ?_; rintro e w' ⟨rfl, hx⟩; rw [hx]; clear hx w')
    | (at_builtin; rw [← HW1.out]; refine wpList_appL _ rfl _ _ _ rfl 3 1 8 Try.underlying39 info_nat (by omega) _ fr.length (nats fr) rfl (lst_grow HR.out.frs (grow_alloc _ _)) w.heap.size [Value.int .i64 slot] rfl (by have := Blk.new w1 3 #[Value.int .i64 slot]; rw [HZ.out] at this; exact this) rfl (by intro u hu; simp at hu; subst hu; rfl) (by have := HF.out; simp only [maxLen]; omega) (by have := HF.out; omega) ?_; intro v' w3 h3' g3 wh; obtain ⟨a2, c8, rfl⟩ := lst_slice h3'; have hA := HR.out.app4 (fr ++ [i + 1]) (.cells #[Value.int .i64 slot] 3) (by rw [nats_snoc, List.length_append, List.length_singleton, show ((i + 1 : Nat) : Int) = slot by rw [HE.out]; rfl]; exact h3') g3 wh; obtain ⟨hA1, hA2, hA3, hA4⟩ := hA; have c9 : w3.cell? ⟨g, 4, none⟩ = some (.slice a' fr.length c') := (by rw [hA1.cell]; rfl); have f9 := hA1.frozen 4; have HA2 := hidden hA2; have HA3 := hidden hA3; have HA4 := hidden hA4; clear hA1 hA2 hA3 hA4 wh h3' g3))
  go_ret2
  have hmA : Mod (rfB g (.slice (some ⟨gt, 0, none⟩) cs.length ct) (.slice (some ⟨gc, 0, none⟩) cs.length cc) (.slice a' fr.length c')) w w1 := HM1.out.mono (fun k hk => by simp at hk; exact rfB_mem.2 (.inr (.inr (.inl (by rw [hk]; rfl)))))
  exact ⟨rfl, _, _, _, ⟨HA2.out, HR.out.same, HR.out.few⟩, hmA.trans' HA3.out, (New.refl _ w).trans hmA.size HA4.out⟩

set_option maxHeartbeats 1000000 in
theorem rtake_full (g : Nat) (vt vc vf : Value) (room : Nat) (ts : List Int) (cs : List Nat) (z : Int) (w : World) (h : Rf w g vt vc vf room ts cs []) (hl : cs.length = room) : Calls Try.prog 25 #[.pointer (some ⟨g, 0, none⟩), .int .i64 z] w fun e w' => e = .returned (.tuple #[.int .i64 0, .int .i64 9]) ∧ Below w.heap.size w w' := by
  have c0 := h.c0
  have c1 := h.c1
  have c3 := h.c3
  have c4 := h.c4
  obtain ⟨a, c, rfl⟩ := lst_slice h.frs
  obtain ⟨a', c', rfl⟩ := lst_slice h.cts
  subst hl
  clear h
  go_enter Try.func25, Try.ntmps25
  go_wp2_with (go_at_call 54; refine (rnone_ok g _ c0).mono ?_; rintro e w' ⟨rfl, hx⟩; rw [hx]; clear hx w')
  go_quiet (fail)
  go_wp2
  go_ret2
  exact ⟨rfl, below_drewN (Below.refl _ _) _⟩

set_option maxHeartbeats 2000000 in
theorem rtake_new (g : Nat) (vt vc vf : Value) (room : Nat) (ts : List Int) (cs : List Nat) (z : Int) (w : World) (h : Rf w g vt vc vf room ts cs []) (hl : cs.length < room) (hr : room ≤ 65536) : Calls Try.prog 25 #[.pointer (some ⟨g, 0, none⟩), .int .i64 z] w fun e w' => e = .returned (.tuple #[.int .i64 ((cs.length + 1 : Nat) : Int), .int .i64 0]) ∧ RTurn w g (rfB g vt vc vf) room (ts ++ [z]) (cs ++ [1]) [] w' := by
  have c0 := h.c0
  have c1 := h.c1
  have c3 := h.c3
  have c4 := h.c4
  have HS := hidden h
  have HSM := hidden h.same
  obtain ⟨a, c, rfl⟩ := lst_slice h.frs
  obtain ⟨a', c', rfl⟩ := lst_slice h.cts
  obtain ⟨a2, c2', rfl⟩ := lst_slice h.ths
  have hne : ¬ (room : Int) ≤ (cs.length : Int) := by omega
  have HL : Hid (cs.length + 1 ≤ 65536) := by show cs.length + 1 ≤ 65536; omega
  clear h hl hr
  go_enter Try.func25, Try.ntmps25
  go_wp2_with (go_at_call 54; refine (rnone_ok g _ c0).mono ?_; rintro e w' ⟨rfl, hx⟩; rw [hx]; clear hx w')
  go_quiet (fail)
  obtain ⟨w1, hw1⟩ : ∃ x, x = w.drewN nq := ⟨_, rfl⟩
  have HM : Hid (Mod [] w w1) := by rw [hw1]; exact Mod.drewN _ _ _
  have HS1 := hidden (HS.out.mod HM.out (fun _ _ h => by cases h))
  rw [← hw1]
  clear c0 c1 c3 c4 HS hw1
  have c2 := HS1.out.c2
  have c3 := HS1.out.c3
  go_wp2_with (first
    | ((with_reducible refine at_cd 74 ?_); refine wpList_appL _ rfl _ _ _ rfl 3 1 8 Try.underlying39 info_nat (by omega) _ ts.length (ts.map (Value.int .i64)) rfl (lst_grow HS1.out.ths (grow_alloc _ _)) w1.heap.size [Value.int .i64 z] rfl (Blk.new _ _ _) rfl (by intro u hu; simp at hu; subst hu; rfl) (by have := HL.out; have := HSM.out; simp only [maxLen]; omega) (by have := HL.out; have := HSM.out; omega) ?_; intro v' w3 h3' g3 wh; obtain ⟨a5, c5, rfl⟩ := lst_slice h3'; obtain ⟨hA1, hA2, hA3, hA4⟩ := HS1.out.toRm.app2 (ts ++ [z]) (.cells #[Value.int .i64 z] 3) (by rw [List.map_append, List.length_append]; exact h3') g3 wh; have c9 : w3.cell? ⟨g, 2, none⟩ = some (.slice a2 ts.length c2') := (by rw [hA1.cell]; rfl); have f9 := hA1.frozen 2; have q3 := hA2.c3; have q2 := hA2.c2; obtain ⟨w4, hw4⟩ : ∃ x, x = w3.setCell ⟨g, 2, none⟩ (.slice a5 (ts.length + 1) c5) := ⟨_, rfl⟩; rw [← hw4] at hA2 hA3; have HZ4 : Hid (w4.heap.size = w3.heap.size) := (by rw [hw4]; show _ = _; simp); have HW4 := hidden hw4; have HA2 := hidden hA2; have HA3 := hidden hA3; have HA4 := hidden hA4; clear hA1 hA2 hA3 hA4 wh h3' g3 hw4)
    | ((with_reducible refine at_cd 83 ?_); rw [← HW4.out]; refine wpList_appL _ rfl _ _ _ rfl 3 1 8 Try.underlying39 info_nat (by omega) _ cs.length (nats cs) rfl (lst_grow HA2.out.cts (grow_alloc _ _)) w3.heap.size [Value.int .i64 1] rfl (by have := Blk.new w4 3 #[Value.int .i64 1]; rw [HZ4.out] at this; exact this) rfl (by intro u hu; simp at hu; subst hu; rfl) (by have := HL.out; simp only [maxLen]; omega) (by have := HL.out; omega) ?_; intro v' w5 h5' g5 wh5; obtain ⟨a7, c7, rfl⟩ := lst_slice h5'; obtain ⟨hB1, hB2, hB3, hB4⟩ := HA2.out.app3 (cs ++ [1]) (.cells #[Value.int .i64 1] 3) (by rw [nats_snoc, List.length_append]; exact h5') g5 wh5; have c8 : w5.cell? ⟨g, 3, none⟩ = some (.slice a' cs.length c') := (by rw [hB1.cell]; rfl); have f8 := hB1.frozen 3; have q5 := hB2.c3; have HB2 := hidden hB2; have HB3 := hidden hB3; have HB4 := hidden hB4; clear hB1 hB2 hB3 hB4 wh5 h5' g5))
  go_ret2
  have m1 : Mod (rfB g (.slice a2 ts.length c2') (.slice a' cs.length c') (.slice a 0 c)) w w1 := HM.out.mono (fun _ h => by cases h)
  refine ⟨rfl, _, _, _, ⟨HB2.out, by simp [HSM.out], by have := HL.out; simp; omega⟩, (m1.trans' HA3.out).trans ((New.refl _ w).trans m1.size HA4.out) HB3.out, ((New.refl _ w).trans m1.size HA4.out).trans (Nat.le_trans m1.size HA3.out.size) HB4.out⟩

set_option maxHeartbeats 2000000 in
theorem rtake_free (g : Nat) (vt vc vf : Value) (room : Nat) (ts : List Int) (cs fr : List Nat) (s : Nat) (z : Int) (w : World) (h : Rf w g vt vc vf room ts cs (fr ++ [s])) (hs1 : 1 ≤ s) (hs2 : s ≤ cs.length) (hf : fr.length ≤ 65536) : Calls Try.prog 25 #[.pointer (some ⟨g, 0, none⟩), .int .i64 z] w fun e w' => e = .returned (.tuple #[.int .i64 (s : Int), .int .i64 0]) ∧ RTurn w g (rfB g vt vc vf) room (ts.set (s - 1) z) (cs.set (s - 1) 1) fr w' := by
  have c0 := h.c0
  have c4 := h.c4
  have HS := hidden h
  obtain ⟨i, rfl⟩ : ∃ i, s = i + 1 := ⟨s - 1, by omega⟩
  have hil : i < cs.length := by omega
  obtain ⟨gf, cf, rfl, hcap⟩ := lst_pos h.frs (by simp)
  obtain ⟨gt, ct, gc, cc, rfl, rfl, k1, k2, k3, k4, j0, j1, hw⟩ := h.at i hil
  have ce : w.cell? ⟨gf, fr.length, none⟩ = some (.int .i64 ((i + 1 : Nat) : Int)) := by
    rw [lst_cell h.frs _ (by simp), nats_get _ _ (by simp)]
    simp [List.getD]
  rw [List.length_append, List.length_singleton] at c4 hcap
  have l0 : (0 : Int) ≤ (fr.length : Int) := by omega
  have l1 : (fr.length : Int) < ((fr.length + 1 : Nat) : Int) := by omega
  have l2 : (fr.length : Int) ≤ (cf : Int) := by omega
  have hwf : wrap64 (fr.length : Int) = fr.length := Go.IntWalk.wrap64_in _ (by omega)
  have HW2 := hidden (wrap_sm fr.length hf)
  clear h hs1 hs2 k1 k2 k3 k4 hf
  go_enter Try.func25, Try.ntmps25
  go_wp2_with (go_at_call 54; refine (rnone_ok g _ c0).mono ?_; rintro e w' ⟨rfl, hx⟩; rw [hx]; clear hx w')
  go_quiet (fail)
  obtain ⟨w1, hw1⟩ : ∃ x, x = w.drewN nq := ⟨_, rfl⟩
  have HM : Hid (Mod [] w w1) := by rw [hw1]; exact Mod.drewN _ _ _
  have HS1 := hidden (HS.out.mod HM.out (fun _ _ h => by cases h))
  rw [← hw1]
  clear c0 c4 HS hw1 ce
  have c4 := HS1.out.c4
  rw [List.length_append, List.length_singleton] at c4
  have f4 := HS1.out.blk.frozen 4
  have c4d : w1.drew.cell? ⟨g, 4, none⟩ = some (.slice (some ⟨gf, 0, none⟩) (fr.length + 1) cf) := c4
  go_wp2_with fail
  refine wp_region_last (S := fun w' => w'.cell? ⟨g, 4, none⟩ = some (.slice (some ⟨gf, 0, none⟩) (fr.length + 1) cf)) 14 (by kernel_rfl) (c4d) (fun hHeld => ?_)
  refine wpAnyL_take (i := 0) (v := .pointer (some ⟨g, 0, none⟩)) rfl (by kernel_rfl) (by kernel_rfl) (by kernel_rfl) (by kernel_rfl) (by kernel_rfl) (fun _ _ _ h => h) (Or.inl ⟨by rfl, fun w hS => by go_simp⟩) hHeld ?_
  simp only [Act.put, List.getElem_toArray, List.getElem_cons_zero, List.setIfInBounds_toArray, List.set_cons_zero, List.set_cons_succ]
  refine wpAnyL_take (i := 1) (v := .pointer (some ⟨g, 0, none⟩)) rfl (by kernel_rfl) (by kernel_rfl) (by kernel_rfl) (by kernel_rfl) (by kernel_rfl) (fun _ _ _ h => h) (Or.inl ⟨by rfl, fun w hS => by go_simp⟩) hHeld ?_
  simp only [Act.put, List.getElem_toArray, List.getElem_cons_zero, List.getElem_cons_succ, List.setIfInBounds_toArray, List.set_cons_zero, List.set_cons_succ]
  refine wpAnyL_take (i := 2) (v := .pointer (some ⟨g, 0, none⟩)) rfl (by kernel_rfl) (by kernel_rfl) (by kernel_rfl) (by kernel_rfl) (by kernel_rfl) (fun _ _ _ h => h) (Or.inl ⟨by rfl, fun w hS => by go_simp⟩) hHeld ?_
  simp only [Act.put, List.getElem_toArray, List.getElem_cons_zero, List.getElem_cons_succ, List.setIfInBounds_toArray, List.set_cons_zero, List.set_cons_succ]
  refine wpAnyL_take (i := 3) (v := .pointer (some ⟨g, 4, none⟩)) rfl (by kernel_rfl) (by kernel_rfl) (by kernel_rfl) (by kernel_rfl) (by kernel_rfl) (fun _ _ _ h => h) (Or.inl ⟨by rfl, fun w hS => by go_simp⟩) hHeld ?_
  simp only [Act.put, List.getElem_toArray, List.getElem_cons_zero, List.getElem_cons_succ, List.setIfInBounds_toArray, List.set_cons_zero, List.set_cons_succ]
  refine wpAnyL_take (i := 4) (v := .slice (some ⟨gf, 0, none⟩) (fr.length + 1) cf) rfl (by kernel_rfl) (by kernel_rfl) (by kernel_rfl) (by kernel_rfl) (by kernel_rfl) (fun _ _ _ h => h) (Or.inl ⟨by rfl, fun w hS => by (have q1 := hS; go_simp)⟩) hHeld ?_
  simp only [Act.put, List.getElem_toArray, List.getElem_cons_zero, List.getElem_cons_succ, List.setIfInBounds_toArray, List.set_cons_zero, List.set_cons_succ]
  refine wpAnyL_take (i := 5) (v := .pointer (some ⟨g, 0, none⟩)) rfl (by kernel_rfl) (by kernel_rfl) (by kernel_rfl) (by kernel_rfl) (by kernel_rfl) (fun _ _ _ h => h) (Or.inl ⟨by rfl, fun w hS => by go_simp⟩) hHeld ?_
  simp only [Act.put, List.getElem_toArray, List.getElem_cons_zero, List.getElem_cons_succ, List.setIfInBounds_toArray, List.set_cons_zero, List.set_cons_succ]
  refine wpAnyL_take (i := 6) (v := .pointer (some ⟨g, 0, none⟩)) rfl (by kernel_rfl) (by kernel_rfl) (by kernel_rfl) (by kernel_rfl) (by kernel_rfl) (fun _ _ _ h => h) (Or.inl ⟨by rfl, fun w hS => by go_simp⟩) hHeld ?_
  simp only [Act.put, List.getElem_toArray, List.getElem_cons_zero, List.getElem_cons_succ, List.setIfInBounds_toArray, List.set_cons_zero, List.set_cons_succ]
  refine wpAnyL_take (i := 7) (v := .pointer (some ⟨g, 4, none⟩)) rfl (by kernel_rfl) (by kernel_rfl) (by kernel_rfl) (by kernel_rfl) (by kernel_rfl) (fun _ _ _ h => h) (Or.inl ⟨by rfl, fun w hS => by go_simp⟩) hHeld ?_
  simp only [Act.put, List.getElem_toArray, List.getElem_cons_zero, List.getElem_cons_succ, List.setIfInBounds_toArray, List.set_cons_zero, List.set_cons_succ]
  refine wpAnyL_take (i := 8) (v := .slice (some ⟨gf, 0, none⟩) (fr.length + 1) cf) rfl (by kernel_rfl) (by kernel_rfl) (by kernel_rfl) (by kernel_rfl) (by kernel_rfl) (fun _ _ _ h => h) (Or.inl ⟨by rfl, fun w hS => by (have q1 := hS; go_simp)⟩) hHeld ?_
  simp only [Act.put, List.getElem_toArray, List.getElem_cons_zero, List.getElem_cons_succ, List.setIfInBounds_toArray, List.set_cons_zero, List.set_cons_succ]
  refine wpAnyL_take (i := 9) (v := .int .i64 ((fr.length : Int) + 1)) rfl (by kernel_rfl) (by kernel_rfl) (by kernel_rfl) (by kernel_rfl) (by kernel_rfl) (fun _ _ _ h => h) (Or.inl ⟨by rfl, fun w hS => by go_simp⟩) hHeld ?_
  simp only [Act.put, List.getElem_toArray, List.getElem_cons_zero, List.getElem_cons_succ, List.setIfInBounds_toArray, List.set_cons_zero, List.set_cons_succ]
  refine wpAnyL_take (i := 10) (v := .int .i64 (fr.length : Int)) rfl (by kernel_rfl) (by kernel_rfl) (by kernel_rfl) (by kernel_rfl) (by kernel_rfl) (fun _ _ _ h => h) (Or.inl ⟨by rfl, fun w hS => by (go_simp; exact HW2.out)⟩) hHeld ?_
  simp only [Act.put, List.getElem_toArray, List.getElem_cons_zero, List.getElem_cons_succ, List.setIfInBounds_toArray, List.set_cons_zero, List.set_cons_succ]
  refine wpAnyL_take (i := 11) (v := .slice (some ⟨gf, 0, none⟩) fr.length cf) rfl (by kernel_rfl) (by kernel_rfl) (by kernel_rfl) (by kernel_rfl) (by kernel_rfl) (fun _ _ _ h => h) (Or.inl ⟨by rfl, fun w hS => by go_simp⟩) hHeld ?_
  simp only [Act.put, List.getElem_toArray, List.getElem_cons_zero, List.getElem_cons_succ, List.setIfInBounds_toArray, List.set_cons_zero, List.set_cons_succ]
  refine wpAnyL_take (i := 12) (v := .pointer (some ⟨g, 0, none⟩)) rfl (by kernel_rfl) (by kernel_rfl) (by kernel_rfl) (by kernel_rfl) (by kernel_rfl) (fun _ _ _ h => h) (Or.inl ⟨by rfl, fun w hS => by go_simp⟩) hHeld ?_
  simp only [Act.put, List.getElem_toArray, List.getElem_cons_zero, List.getElem_cons_succ, List.setIfInBounds_toArray, List.set_cons_zero, List.set_cons_succ]
  refine wpAnyL_take (i := 13) (v := .pointer (some ⟨g, 4, none⟩)) rfl (by kernel_rfl) (by kernel_rfl) (by kernel_rfl) (by kernel_rfl) (by kernel_rfl) (fun _ _ _ h => h) (Or.inl ⟨by rfl, fun w hS => by go_simp⟩) hHeld ?_
  simp only [Act.put, List.getElem_toArray, List.getElem_cons_zero, List.getElem_cons_succ, List.setIfInBounds_toArray, List.set_cons_zero, List.set_cons_succ]
  refine wpAnyL_last rfl (by kernel_rfl) (by kernel_rfl) (fun KQ hK => ?_)
  go_simp
  
  refine hK.out _ _ ?_
  clear hK KQ
  obtain ⟨w2, hw2⟩ : ∃ x, x = (w1.setCell ⟨g, 4, none⟩ (.slice (some ⟨gf, 0, none⟩) fr.length cf)).drew := ⟨_, rfl⟩
  have hcut : Rm w2 g (.slice (some ⟨gt, 0, none⟩) cs.length ct) (.slice (some ⟨gc, 0, none⟩) cs.length cc) (.slice (some ⟨gf, 0, none⟩) fr.length cf) room ts cs fr := by rw [hw2]; exact HS1.out.toRm.cut4.mod (Mod.drew [] _) (fun _ _ h => by cases h)
  have hM2 : Mod [g] w1 w2 := by rw [hw2]; exact (Mod.setCell _ _ _ _ (by simp)).trans' (Mod.drew _ _)
  rw [← hw2]
  have h2 : Rf w2 g (.slice (some ⟨gt, 0, none⟩) cs.length ct) (.slice (some ⟨gc, 0, none⟩) cs.length cc) (.slice (some ⟨gf, 0, none⟩) fr.length cf) room ts cs fr := ⟨hcut, HS1.out.same, HS1.out.few⟩
  have HM2 := hidden hM2
  have H2 := hidden h2
  clear c4 f4 c4d hHeld hw2 hcut hM2
  obtain ⟨gt', ct', gc', cc', e1, e2, k1, k2, k3, k4, _, _, _⟩ := h2.at i hil
  simp only [Value.slice.injEq, Option.some.injEq, Addr.mk.injEq, true_and, and_true] at e1 e2
  obtain ⟨rfl, rfl⟩ := e1
  obtain ⟨rfl, rfl⟩ := e2
  have c2 := h2.c2
  have hT := h2.setT i z
  have c3 := hT.c3
  have k5 : (w2.setCell ⟨gt, i, none⟩ (.int .i64 z)).cell? ⟨gc, i, none⟩ = some (.int .i64 (cn cs i : Int)) := by
    rw [cell_set_ne _ _ _ _ _ _ (fun e => h2.d1 gt rfl (by rw [← e]; rfl))]
    exact k2
  have k6 := hT.cts.frozenAt i
  generalize cn cs i = q at k5
  generalize ts[i]?.getD 0 = zz at k1
  have HT := hidden hT
  clear h2 hT k2 k4
  go_wp2
  go_ret2
  have hF := HT.out.setC i 1
  rw [show ((1 : Nat) : Int) = 1 from rfl] at hF
  have m1 : Mod (rfB g (.slice (some ⟨gt, 0, none⟩) cs.length ct) (.slice (some ⟨gc, 0, none⟩) cs.length cc) (.slice (some ⟨gf, 0, none⟩) (fr ++ [i + 1]).length cf)) w w2 := (HM.out.mono (fun _ h => by cases h)).trans' (HM2.out.mono (fun k hk => by simp at hk; exact rfB_mem.2 (.inl hk)))
  refine ⟨rfl, _, _, _, hF, (m1.trans' (Mod.setCell _ _ _ _ (rfB_mem.2 (.inr (.inl rfl))))).trans' (Mod.setCell _ _ _ _ (rfB_mem.2 (.inr (.inr (.inl rfl))))), fun k hk => .inl ?_⟩
  rcases rfB_mem.1 hk with h | h | h | h
  · exact rfB_mem.2 (.inl h)
  · exact rfB_mem.2 (.inr (.inl h))
  · exact rfB_mem.2 (.inr (.inr (.inl h)))
  · exact rfB_mem.2 (.inr (.inr (.inr h)))

end Go.Proofs.Ytodigmmpodbpiaa
