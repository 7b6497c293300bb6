/- The document's slab in memory, and its calls, as contracts: none, there, wrong, Get, Count, Room, Set, Hold, Drop. -/
import Derived.Test.YtodigmmpodbpiaaSlabSpec
import Derived.Test.YtodigmmpodbpiaaAtOps
import Derived.Test.YtodigmmpodbpiaaLast
import Derived.Deep.RegionHeld2
namespace Go.Proofs.Ytodigmmpodbpiaa
set_option maxRecDepth 20000
open Go.RowKit

def cn (cs : List Nat) (i : Nat) : Nat := cs[i]?.getD 0
theorem cn_lt {cs : List Nat} {i : Nat} (h : 0 < cn cs i) : i < cs.length := by
  apply Nat.lt_of_not_le
  intro hn
  rw [cn, List.getElem?_eq_none hn] at h
  simp at h
theorem cn_map (ps : List Pl) (i : Nat) : cn (ps.map (·.1)) i = cnt ps i := by
  unfold cn cnt
  rw [List.getElem?_map]
  cases ps[i]? <;> rfl
def VacC (cs : List Nat) (slot : Int) : Prop := ∀ i : Nat, slot = (i : Int) + 1 → cn cs i = 0

/-- Block g holds the document's slab: its room, its things, its counts, its free slots. -/
structure Rm (w : World) (g : Nat) (vt vc vf : Value) (room : Nat) (ts : List Int) (cs fr : List Nat) : Prop where
  blk : Blk w g 62 #[.bool true, .int .i64 (room : Int), vt, vc, vf]
  ths : Lst w 3 1 vt ts.length (ts.map (Value.int .i64))
  cts : Lst w 3 1 vc cs.length (nats cs)
  frs : Lst w 3 1 vf fr.length (nats fr)
  d1 : ∀ k, vt.ownBlock = some k → vc.ownBlock ≠ some k
  d2 : ∀ k, vt.ownBlock = some k → vf.ownBlock ≠ some k
  d3 : ∀ k, vc.ownBlock = some k → vf.ownBlock ≠ some k

/-- The same, its lists as long as each other and not too long. -/
structure Rf (w : World) (g : Nat) (vt vc vf : Value) (room : Nat) (ts : List Int) (cs fr : List Nat) : Prop extends Rm w g vt vc vf room ts cs fr where
  same : ts.length = cs.length
  few : cs.length ≤ 65536

def rfB (g : Nat) (vt vc vf : Value) : List Nat := g :: (vt.ownBlock.toList ++ (vc.ownBlock.toList ++ vf.ownBlock.toList))
theorem rfB_mem {g : Nat} {vt vc vf : Value} {k : Nat} : k ∈ rfB g vt vc vf ↔ k = g ∨ vt.ownBlock = some k ∨ vc.ownBlock = some k ∨ vf.ownBlock = some k := by simp [rfB]

theorem Rm.mod {w w' : World} {g : Nat} {vt vc vf : Value} {room : Nat} {ts : List Int} {cs fr : List Nat} {S : List Nat} (h : Rm w g vt vc vf room ts cs fr) (m : Mod S w w') (hn : ∀ k ∈ rfB g vt vc vf, k ∉ S) : Rm w' g vt vc vf room ts cs fr :=
  ⟨h.blk.mod m (hn g (rfB_mem.2 (.inl rfl))), lst_mod h.ths m (fun k hk => hn k (rfB_mem.2 (.inr (.inl hk)))), lst_mod h.cts m (fun k hk => hn k (rfB_mem.2 (.inr (.inr (.inl hk))))), lst_mod h.frs m (fun k hk => hn k (rfB_mem.2 (.inr (.inr (.inr hk))))), h.d1, h.d2, h.d3⟩
theorem Rf.mod {w w' : World} {g : Nat} {vt vc vf : Value} {room : Nat} {ts : List Int} {cs fr : List Nat} {S : List Nat} (h : Rf w g vt vc vf room ts cs fr) (m : Mod S w w') (hn : ∀ k ∈ rfB g vt vc vf, k ∉ S) : Rf w' g vt vc vf room ts cs fr := ⟨h.toRm.mod m hn, h.same, h.few⟩
theorem rne : (3 : Nat) ≠ 62 := by decide

theorem Rm.c0 {w : World} {g : Nat} {vt vc vf : Value} {room : Nat} {ts : List Int} {cs fr : List Nat} (h : Rm w g vt vc vf room ts cs fr) : w.cell? ⟨g, 0, none⟩ = some (.bool true) := by rw [h.blk.cell]; rfl
theorem Rm.c1 {w : World} {g : Nat} {vt vc vf : Value} {room : Nat} {ts : List Int} {cs fr : List Nat} (h : Rm w g vt vc vf room ts cs fr) : w.cell? ⟨g, 1, none⟩ = some (.int .i64 (room : Int)) := by rw [h.blk.cell]; rfl
theorem Rm.c2 {w : World} {g : Nat} {vt vc vf : Value} {room : Nat} {ts : List Int} {cs fr : List Nat} (h : Rm w g vt vc vf room ts cs fr) : w.cell? ⟨g, 2, none⟩ = some vt := by rw [h.blk.cell]; rfl
theorem Rm.c3 {w : World} {g : Nat} {vt vc vf : Value} {room : Nat} {ts : List Int} {cs fr : List Nat} (h : Rm w g vt vc vf room ts cs fr) : w.cell? ⟨g, 3, none⟩ = some vc := by rw [h.blk.cell]; rfl
theorem Rm.c4 {w : World} {g : Nat} {vt vc vf : Value} {room : Nat} {ts : List Int} {cs fr : List Nat} (h : Rm w g vt vc vf room ts cs fr) : w.cell? ⟨g, 4, none⟩ = some vf := by rw [h.blk.cell]; rfl

/-- A held slot's place in both lists. -/
theorem Rf.at {w : World} {g : Nat} {vt vc vf : Value} {room : Nat} {ts : List Int} {cs fr : List Nat} (h : Rf w g vt vc vf room ts cs fr) (i : Nat) (hi : i < cs.length) : ∃ gt ct gc cc, vt = .slice (some ⟨gt, 0, none⟩) cs.length ct ∧ vc = .slice (some ⟨gc, 0, none⟩) cs.length cc ∧ w.cell? ⟨gt, i, none⟩ = some (.int .i64 (ts[i]?.getD 0)) ∧ w.cell? ⟨gc, i, none⟩ = some (.int .i64 (cn cs i : Int)) ∧ w.frozen? ⟨gt, i, none⟩ = false ∧ w.frozen? ⟨gc, i, none⟩ = false ∧ (0 : Int) ≤ (i : Int) ∧ (i : Int) < (cs.length : Int) ∧ wrap64 (i : Int) = i := by
  have hs := h.same
  have hf := h.few
  obtain ⟨gt, ct, rfl, _⟩ := lst_pos h.ths (by omega)
  obtain ⟨gc, cc, rfl, _⟩ := lst_pos h.cts (by omega)
  refine ⟨gt, ct, gc, cc, by rw [hs], rfl, ?_, ?_, lst_frozen h.ths i, lst_frozen h.cts i, by omega, by omega, Go.IntWalk.wrap64_in _ (by omega)⟩
  · rw [lst_cell h.ths i (by omega)]
    simp [show i < ts.length by omega]
  · rw [lst_cell h.cts i (by omega)]
    simp [nats, cn, hi]

set_option maxHeartbeats 400000 in
theorem rnone_ok (g : Nat) (w : World) (hc : w.cell? ⟨g, 0, none⟩ = some (.bool true)) : Calls Try.prog 54 #[.pointer (some ⟨g, 0, none⟩)] w fun e w' => e = .returned (.bool false) ∧ w' = w := by
  go_enter Try.func54, Try.ntmps54
  go_wp2
  go_ret
  exact ⟨rfl, rfl⟩

set_option maxHeartbeats 1000000 in
theorem rthere_bad (g : Nat) (vt vc vf : Value) (room : Nat) (ts : List Int) (cs fr : List Nat) (slot : Int) (w : World) (h : Rf w g vt vc vf room ts cs fr) (hv : VacC cs slot) : Calls Try.prog 58 #[.pointer (some ⟨g, 0, none⟩), .int .i64 slot] w fun e w' => e = .returned (.bool false) ∧ w' = w := by
  have c3 := h.c3
  obtain ⟨a, c, rfl⟩ := lst_slice h.cts
  by_cases h1 : slot < 1
  · clear h hv
    go_enter Try.func58, Try.ntmps58
    go_wp2
    go_ret
    exact ⟨rfl, rfl⟩
  · by_cases h2 : (cs.length : Int) < slot
    · clear h hv
      go_enter Try.func58, Try.ntmps58
      go_wp2
      go_ret
      exact ⟨rfl, rfl⟩
    · obtain ⟨i, hi⟩ : ∃ i : Nat, slot - 1 = (i : Int) := ⟨(slot - 1).toNat, by omega⟩
      have hil : i < cs.length := by omega
      have hc := hv i (by omega)
      obtain ⟨gt, ct, gc, cc, rfl, e, k1, k2, k3, k4, j0, j1, hw⟩ := h.at i hil
      injection e with e1 _ e3
      subst e1
      subst e3
      rw [hc] at k2
      clear h hv hc k1 k3
      go_enter Try.func58, Try.ntmps58
      go_wp2
      go_ret
      exact ⟨rfl, rfl⟩

set_option maxHeartbeats 1000000 in
theorem rthere_ok (g : Nat) (vt vc vf : Value) (room : Nat) (ts : List Int) (cs fr : List Nat) (slot : Int) (i : Nat) (w : World) (h : Rf w g vt vc vf room ts cs fr) (hs : slot = (i : Int) + 1) (hi : 0 < cn cs i) : Calls Try.prog 58 #[.pointer (some ⟨g, 0, none⟩), .int .i64 slot] w fun e w' => e = .returned (.bool true) ∧ w' = w := by
  have c3 := h.c3
  have hil := cn_lt hi
  obtain ⟨gt, ct, gc, cc, rfl, rfl, k1, k2, k3, k4, j0, j1, hw⟩ := h.at i hil
  obtain ⟨q, hq⟩ : ∃ q, cn cs i = q + 1 := ⟨cn cs i - 1, by omega⟩
  rw [hq] at k2
  clear hq
  have h1 : ¬ slot < 1 := by omega
  have h2 : ¬ (cs.length : Int) < slot := by omega
  have h3 : slot - 1 = (i : Int) := by omega
  clear h hs hi k1 k3
  go_enter Try.func58, Try.ntmps58
  go_wp2
  go_ret
  exact ⟨rfl, rfl⟩

set_option maxHeartbeats 400000 in
theorem rwrong_bad (g : Nat) (vt vc vf : Value) (room : Nat) (ts : List Int) (cs fr : List Nat) (slot : Int) (w : World) (h : Rf w g vt vc vf room ts cs fr) (hv : VacC cs slot) : Calls Try.prog 56 #[.pointer (some ⟨g, 0, none⟩), .int .i64 slot] w fun e w' => e = .returned (.int .i64 7) ∧ w' = w := by
  have HS := hidden h
  have HV := hidden hv
  have c0 := h.c0
  clear h hv
  go_enter Try.func56, Try.ntmps56
  go_wp2_with (first
    | (go_at_call 54; refine (rnone_ok g _ c0).mono ?_; rintro e w' ⟨rfl, hx⟩; rw [hx]; clear hx w')
    | (go_at_call 58; refine (rthere_bad g vt vc vf room ts cs fr slot _ HS.out HV.out).mono ?_; rintro e w' ⟨rfl, hx⟩; rw [hx]; clear hx w'))
  go_ret
  exact ⟨rfl, rfl⟩

set_option maxHeartbeats 400000 in
theorem rwrong_ok (g : Nat) (vt vc vf : Value) (room : Nat) (ts : List Int) (cs fr : List Nat) (slot : Int) (i : Nat) (w : World) (h : Rf w g vt vc vf room ts cs fr) (hs : slot = (i : Int) + 1) (hi : 0 < cn cs i) : Calls Try.prog 56 #[.pointer (some ⟨g, 0, none⟩), .int .i64 slot] w fun e w' => e = .returned (.int .i64 0) ∧ w' = w := by
  have HS := hidden h
  have HE := hidden hs
  have HI := hidden hi
  have c0 := h.c0
  clear h hs hi
  go_enter Try.func56, Try.ntmps56
  go_wp2_with (first
    | (go_at_call 54; refine (rnone_ok g _ c0).mono ?_; rintro e w' ⟨rfl, hx⟩; rw [hx]; clear hx w')
    | (go_at_call 58; refine (rthere_ok g vt vc vf room ts cs fr slot i _ HS.out HE.out HI.out).mono ?_; rintro e w' ⟨rfl, hx⟩; rw [hx]; clear hx w'))
  go_ret
  exact ⟨rfl, rfl⟩

set_option maxHeartbeats 400000 in
theorem rget_bad (g : Nat) (vt vc vf : Value) (room : Nat) (ts : List Int) (cs fr : List Nat) (slot : Int) (w : World) (h : Rf w g vt vc vf room ts cs fr) (hv : VacC cs slot) : Calls Try.prog 31 #[.pointer (some ⟨g, 0, none⟩), .int .i64 slot] w fun e w' => e = .returned (.tuple #[.int .i64 0, .int .i64 7]) ∧ w' = w := by
  have HS := hidden h
  have HV := hidden hv
  clear h hv
  go_enter Try.func31, Try.ntmps31
  go_wp2_with (go_at_call 56; refine (rwrong_bad g vt vc vf room ts cs fr slot _ HS.out HV.out).mono ?_; rintro e w' ⟨rfl, hx⟩; rw [hx]; clear hx w')
  go_ret2
  exact ⟨rfl, rfl⟩

set_option maxHeartbeats 1000000 in
theorem rget_ok (g : Nat) (vt vc vf : Value) (room : Nat) (ts : List Int) (cs fr : List Nat) (slot : Int) (i : Nat) (w : World) (h : Rf w g vt vc vf room ts cs fr) (hs : slot = (i : Int) + 1) (hi : 0 < cn cs i) : Calls Try.prog 31 #[.pointer (some ⟨g, 0, none⟩), .int .i64 slot] w fun e w' => e = .returned (.tuple #[.int .i64 (ts[i]?.getD 0), .int .i64 0]) ∧ w' = w := by
  have HS := hidden h
  have HE := hidden hs
  have HI := hidden hi
  have c2 := h.c2
  have c3 := h.c3
  have hil := cn_lt hi
  have HIL := hidden hil
  obtain ⟨gt, ct, gc, cc, rfl, rfl, k1, k2, k3, k4, j0, j1, hw⟩ := h.at i hil
  have h3 : slot - 1 = (i : Int) := by omega
  obtain ⟨z, hz⟩ : ∃ z, z = ts[i]?.getD 0 := ⟨_, rfl⟩
  rw [← hz] at k1 ⊢
  have HZ := hidden hz
  clear h hs hi hz k2 k3 k4
  go_enter Try.func31, Try.ntmps31
  go_wp2_with (first
    | (go_at_call 56; refine (rwrong_ok g _ _ vf room ts cs fr slot i _ HS.out HE.out HI.out).mono ?_; rintro e w' ⟨rfl, hx⟩; rw [hx]; clear hx w'))
  go_ret2
  exact ⟨rfl, rfl⟩

set_option maxHeartbeats 400000 in
theorem rcount_bad (g : Nat) (vt vc vf : Value) (room : Nat) (ts : List Int) (cs fr : List Nat) (slot : Int) (w : World) (h : Rf w g vt vc vf room ts cs fr) (hv : VacC cs slot) : Calls Try.prog 33 #[.pointer (some ⟨g, 0, none⟩), .int .i64 slot] w fun e w' => e = .returned (.int .i64 0) ∧ w' = w := by
  have HS := hidden h
  have HV := hidden hv
  clear h hv
  go_enter Try.func33, Try.ntmps33
  go_wp2_with (go_at_call 56; refine (rwrong_bad g vt vc vf room ts cs fr slot _ HS.out HV.out).mono ?_; rintro e w' ⟨rfl, hx⟩; rw [hx]; clear hx w')
  go_ret
  exact ⟨rfl, rfl⟩

set_option maxHeartbeats 1000000 in
theorem rcount_ok (g : Nat) (vt vc vf : Value) (room : Nat) (ts : List Int) (cs fr : List Nat) (slot : Int) (i : Nat) (w : World) (h : Rf w g vt vc vf room ts cs fr) (hs : slot = (i : Int) + 1) (hi : 0 < cn cs i) : Calls Try.prog 33 #[.pointer (some ⟨g, 0, none⟩), .int .i64 slot] w fun e w' => e = .returned (.int .i64 (cn cs i : Int)) ∧ w' = w := by
  have HS := hidden h
  have HE := hidden hs
  have HI := hidden hi
  have c2 := h.c2
  have c3 := h.c3
  have hil := cn_lt hi
  have HIL := hidden hil
  obtain ⟨gt, ct, gc, cc, rfl, rfl, k1, k2, k3, k4, j0, j1, hw⟩ := h.at i hil
  have h3 : slot - 1 = (i : Int) := by omega
  obtain ⟨z, hz⟩ : ∃ z, z = cn cs i := ⟨_, rfl⟩
  rw [← hz] at k2 ⊢
  have HZ := hidden hz
  clear h hs hi hz k1 k3 k4
  go_enter Try.func33, Try.ntmps33
  go_wp2_with (first
    | (go_at_call 56; refine (rwrong_ok g _ _ vf room ts cs fr slot i _ HS.out HE.out HI.out).mono ?_; rintro e w' ⟨rfl, hx⟩; rw [hx]; clear hx w'))
  go_ret
  exact ⟨rfl, rfl⟩

set_option maxHeartbeats 400000 in
theorem rroom_ok (g : Nat) (vt vc vf : Value) (room : Nat) (ts : List Int) (cs fr : List Nat) (w : World) (h : Rf w g vt vc vf room ts cs fr) : Calls Try.prog 41 #[.pointer (some ⟨g, 0, none⟩)] w fun e w' => e = .returned (.int .i64 (room : Int)) ∧ w' = w := by
  have c0 := h.c0
  have c1 := h.c1
  clear h
  go_enter Try.func41, Try.ntmps41
  go_wp2_with (go_at_call 54; refine (rnone_ok g _ c0).mono ?_; rintro e w' ⟨rfl, hx⟩; rw [hx]; clear hx w')
  go_ret
  exact ⟨rfl, rfl⟩

/-- The document's slab at g has turned to this, and nothing but its own blocks. -/
def RTurn (w : World) (g : Nat) (S : List Nat) (room : Nat) (ts : List Int) (cs fr : List Nat) (w' : World) : Prop := ∃ vt vc vf, Rf w' g vt vc vf room ts cs fr ∧ Mod S w w' ∧ New S w (rfB g vt vc vf)

theorem nats_set (cs : List Nat) (i q : Nat) : (nats cs).set i (.int .i64 (q : Int)) = nats (cs.set i q) := by simp [nats, List.map_set]

/-- The counts' cell written over. -/
theorem Rm.setC {w : World} {g gc n cc : Nat} {vt vf : Value} {room : Nat} {ts : List Int} {cs fr : List Nat} (h : Rm w g vt (.slice (some ⟨gc, 0, none⟩) n cc) vf room ts cs fr) (i q : Nat) : Rm (w.setCell ⟨gc, i, none⟩ (.int .i64 (q : Int))) g vt (.slice (some ⟨gc, 0, none⟩) n cc) vf room ts (cs.set i q) fr := by
  have m : Mod [gc] w (w.setCell ⟨gc, i, none⟩ (.int .i64 (q : Int))) := Mod.setCell _ _ _ _ (by simp)
  obtain ⟨_, _, e⟩ := lst_slice h.cts
  injection e with _ e _
  subst e
  refine ⟨h.blk.mod m ?_, lst_mod h.ths m (fun k hk e => ?_), ?_, lst_mod h.frs m (fun k hk e => ?_), h.d1, h.d2, h.d3⟩
  · intro e
    obtain rfl : g = gc := by simpa using e
    exact lst_blk_ne h.cts h.blk rne rfl
  · obtain rfl : k = gc := by simpa using e
    exact h.d1 k hk rfl
  · have := lst_set h.cts i (.int .i64 (q : Int))
    rw [nats_set] at this
    rw [List.length_set]
    exact this
  · obtain rfl : k = gc := by simpa using e
    exact h.d3 k rfl hk

/-- The things' cell written over. -/
theorem Rm.setT {w : World} {g gt n ct : Nat} {vc vf : Value} {room : Nat} {ts : List Int} {cs fr : List Nat} (h : Rm w g (.slice (some ⟨gt, 0, none⟩) n ct) vc vf room ts cs fr) (i : Nat) (z : Int) : Rm (w.setCell ⟨gt, i, none⟩ (.int .i64 z)) g (.slice (some ⟨gt, 0, none⟩) n ct) vc vf room (ts.set i z) cs fr := by
  have m : Mod [gt] w (w.setCell ⟨gt, i, none⟩ (.int .i64 z)) := Mod.setCell _ _ _ _ (by simp)
  obtain ⟨_, _, e⟩ := lst_slice h.ths
  injection e with _ e _
  subst e
  refine ⟨h.blk.mod m ?_, ?_, lst_mod h.cts m (fun k hk e => ?_), lst_mod h.frs m (fun k hk e => ?_), h.d1, h.d2, h.d3⟩
  · intro e
    obtain rfl : g = gt := by simpa using e
    exact lst_blk_ne h.ths h.blk rne rfl
  · have := lst_set h.ths i (.int .i64 z)
    rw [← List.map_set] at this
    rw [List.length_set]
    exact this
  · obtain rfl : k = gt := by simpa using e
    exact h.d1 k rfl hk
  · obtain rfl : k = gt := by simpa using e
    exact h.d2 k rfl hk

theorem Rf.setC {w : World} {g gc n cc : Nat} {vt vf : Value} {room : Nat} {ts : List Int} {cs fr : List Nat} (h : Rf w g vt (.slice (some ⟨gc, 0, none⟩) n cc) vf room ts cs fr) (i q : Nat) : Rf (w.setCell ⟨gc, i, none⟩ (.int .i64 (q : Int))) g vt (.slice (some ⟨gc, 0, none⟩) n cc) vf room ts (cs.set i q) fr := ⟨h.toRm.setC i q, by rw [List.length_set]; exact h.same, by rw [List.length_set]; exact h.few⟩
theorem Rf.setT {w : World} {g gt n ct : Nat} {vc vf : Value} {room : Nat} {ts : List Int} {cs fr : List Nat} (h : Rf w g (.slice (some ⟨gt, 0, none⟩) n ct) vc vf room ts cs fr) (i : Nat) (z : Int) : Rf (w.setCell ⟨gt, i, none⟩ (.int .i64 z)) g (.slice (some ⟨gt, 0, none⟩) n ct) vc vf room (ts.set i z) cs fr := ⟨h.toRm.setT i z, by rw [List.length_set]; exact h.same, h.few⟩

set_option maxHeartbeats 400000 in
theorem rset_bad (g : Nat) (vt vc vf : Value) (room : Nat) (ts : List Int) (cs fr : List Nat) (slot : Int) (z : Int) (w : World) (h : Rf w g vt vc vf room ts cs fr) (hv : VacC cs slot) : Calls Try.prog 35 #[.pointer (some ⟨g, 0, none⟩), .int .i64 slot, .int .i64 z] w fun e w' => e = .returned (.int .i64 7) ∧ w' = w := by
  have HS := hidden h
  have HV := hidden hv
  clear h hv
  go_enter Try.func35, Try.ntmps35
  go_wp2_with (go_at_call 56; refine (rwrong_bad g vt vc vf room ts cs fr slot _ HS.out HV.out).mono ?_; rintro e w' ⟨rfl, hx⟩; rw [hx]; clear hx w')
  go_ret
  exact ⟨rfl, rfl⟩

set_option maxHeartbeats 1000000 in
theorem rset_ok (g : Nat) (vt vc vf : Value) (room : Nat) (ts : List Int) (cs fr : List Nat) (slot : Int) (i : Nat) (z : Int) (w : World) (h : Rf w g vt vc vf room ts cs fr) (hs : slot = (i : Int) + 1) (hi : 0 < cn cs i) : Calls Try.prog 35 #[.pointer (some ⟨g, 0, none⟩), .int .i64 slot, .int .i64 z] w fun e w' => e = .returned (.int .i64 0) ∧ RTurn w g (rfB g vt vc vf) room (ts.set i z) cs fr w' := by
  have HS := hidden h
  have HE := hidden hs
  have HI := hidden hi
  have c2 := h.c2
  have c3 := h.c3
  have hil := cn_lt hi
  have HIL := hidden hil
  obtain ⟨gt, ct, gc, cc, rfl, rfl, k1, k2, k3, k4, j0, j1, hw⟩ := h.at i hil
  have h3 : slot - 1 = (i : Int) := by omega
  clear h hs hi k2 k4
  go_enter Try.func35, Try.ntmps35
  go_wp2_with (first
    | (go_at_call 56; refine (rwrong_ok g _ _ vf room ts cs fr slot i _ HS.out HE.out HI.out).mono ?_; rintro e w' ⟨rfl, hx⟩; rw [hx]; clear hx w'))
  go_ret
  exact ⟨rfl, _, _, _, HS.out.setT i z, Mod.setCell _ _ _ _ (rfB_mem.2 (.inr (.inl rfl))), New.refl _ _⟩

set_option maxHeartbeats 400000 in
theorem rhold_bad (g : Nat) (vt vc vf : Value) (room : Nat) (ts : List Int) (cs fr : List Nat) (slot : Int) (w : World) (h : Rf w g vt vc vf room ts cs fr) (hv : VacC cs slot) : Calls Try.prog 27 #[.pointer (some ⟨g, 0, none⟩), .int .i64 slot] w fun e w' => e = .returned (.int .i64 7) ∧ w' = w := by
  have HS := hidden h
  have HV := hidden hv
  clear h hv
  go_enter Try.func27, Try.ntmps27
  go_wp2_with (go_at_call 56; refine (rwrong_bad g vt vc vf room ts cs fr slot _ HS.out HV.out).mono ?_; rintro e w' ⟨rfl, hx⟩; rw [hx]; clear hx w')
  go_ret
  exact ⟨rfl, rfl⟩

set_option maxHeartbeats 1000000 in
theorem rhold_long (g : Nat) (vt vc vf : Value) (room : Nat) (ts : List Int) (cs fr : List Nat) (slot : Int) (i : Nat) (w : World) (h : Rf w g vt vc vf room ts cs fr) (hs : slot = (i : Int) + 1) (hi : 0 < cn cs i) (hc : cn cs i = 1073741824) : Calls Try.prog 27 #[.pointer (some ⟨g, 0, none⟩), .int .i64 slot] w fun e w' => e = .returned (.int .i64 4) ∧ w' = w := by
  have HS := hidden h
  have HE := hidden hs
  have HI := hidden hi
  have c2 := h.c2
  have c3 := h.c3
  have hil := cn_lt hi
  have HIL := hidden hil
  obtain ⟨gt, ct, gc, cc, rfl, rfl, k1, k2, k3, k4, j0, j1, hw⟩ := h.at i hil
  have h3 : slot - 1 = (i : Int) := by omega
  rw [hc] at k2
  clear h hs hi hc k1 k3 k4
  go_enter Try.func27, Try.ntmps27
  go_wp2_with (first
    | (go_at_call 56; refine (rwrong_ok g _ _ vf room ts cs fr slot i _ HS.out HE.out HI.out).mono ?_; rintro e w' ⟨rfl, hx⟩; rw [hx]; clear hx w'))
  go_ret
  exact ⟨rfl, rfl⟩

set_option maxHeartbeats 1000000 in
theorem rhold_ok (g : Nat) (vt vc vf : Value) (room : Nat) (ts : List Int) (cs fr : List Nat) (slot : Int) (i : Nat) (w : World) (h : Rf w g vt vc vf room ts cs fr) (hs : slot = (i : Int) + 1) (hi : 0 < cn cs i) (hc : cn cs i < 1073741824) : Calls Try.prog 27 #[.pointer (some ⟨g, 0, none⟩), .int .i64 slot] w fun e w' => e = .returned (.int .i64 0) ∧ RTurn w g (rfB g vt vc vf) room ts (cs.set i (cn cs i + 1)) fr w' := by
  have HS := hidden h
  have HE := hidden hs
  have HI := hidden hi
  have c2 := h.c2
  have c3 := h.c3
  have hil := cn_lt hi
  have HIL := hidden hil
  obtain ⟨gt, ct, gc, cc, rfl, rfl, k1, k2, k3, k4, j0, j1, hw⟩ := h.at i hil
  have h3 : slot - 1 = (i : Int) := by omega
  obtain ⟨q, hq⟩ : ∃ q, q = cn cs i := ⟨_, rfl⟩
  rw [← hq] at k2
  rw [← hq]
  obtain ⟨Q, hQ⟩ : ∃ Q : Int, Q = (q : Int) := ⟨_, rfl⟩
  rw [← hQ] at k2
  have hne : Q < 1073741824 := by omega
  have hw1 : wrap64 (Q + 1) = Q + 1 := Go.IntWalk.wrap64_in _ (by omega)
  have HQ := hidden hQ
  clear h hs hi hc hq k1 k3 hQ
  go_enter Try.func27, Try.ntmps27
  go_wp2_with (first
    | (go_at_call 56; refine (rwrong_ok g _ _ vf room ts cs fr slot i _ HS.out HE.out HI.out).mono ?_; rintro e w' ⟨rfl, hx⟩; rw [hx]; clear hx w'))
  go_ret
  have hR := HS.out.setC i (q + 1)
  rw [show ((q + 1 : Nat) : Int) = Q + 1 by rw [HQ.out]; rfl] at hR
  exact ⟨rfl, _, _, _, hR, Mod.setCell _ _ _ _ (rfB_mem.2 (.inr (.inr (.inl rfl)))), New.refl _ _⟩

set_option maxHeartbeats 400000 in
theorem rdrop_bad (g : Nat) (vt vc vf : Value) (room : Nat) (ts : List Int) (cs fr : List Nat) (slot : Int) (w : World) (h : Rf w g vt vc vf room ts cs fr) (hv : VacC cs slot) : Calls Try.prog 29 #[.pointer (some ⟨g, 0, none⟩), .int .i64 slot] w fun e w' => e = .returned (.tuple #[.bool false, .int .i64 7]) ∧ w' = w := by
  have HS := hidden h
  have HV := hidden hv
  clear h hv
  go_enter Try.func29, Try.ntmps29
  go_wp2_with (go_at_call 56; refine (rwrong_bad g vt vc vf room ts cs fr slot _ HS.out HV.out).mono ?_; rintro e w' ⟨rfl, hx⟩; rw [hx]; clear hx w')
  go_ret2
  exact ⟨rfl, rfl⟩

set_option maxHeartbeats 1000000 in
theorem rdrop_more (g : Nat) (vt vc vf : Value) (room : Nat) (ts : List Int) (cs fr : List Nat) (slot : Int) (i : Nat) (w : World) (h : Rf w g vt vc vf room ts cs fr) (hs : slot = (i : Int) + 1) (hi : 0 < cn cs i) (hc : 1 < cn cs i) (hm : cn cs i ≤ 1073741824) : Calls Try.prog 29 #[.pointer (some ⟨g, 0, none⟩), .int .i64 slot] w fun e w' => e = .returned (.tuple #[.bool false, .int .i64 0]) ∧ RTurn w g (rfB g vt vc vf) room ts (cs.set i (cn cs i - 1)) fr w' := by
  have HS := hidden h
  have HE := hidden hs
  have HI := hidden hi
  have c2 := h.c2
  have c3 := h.c3
  have hil := cn_lt hi
  have HIL := hidden hil
  obtain ⟨gt, ct, gc, cc, rfl, rfl, k1, k2, k3, k4, j0, j1, hw⟩ := h.at i hil
  have h3 : slot - 1 = (i : Int) := by omega
  obtain ⟨q, hq⟩ : ∃ q, q = cn cs i := ⟨_, rfl⟩
  rw [← hq] at k2
  rw [← hq]
  obtain ⟨r, hr⟩ : ∃ r, q = r + 1 := ⟨q - 1, by omega⟩
  subst hr
  have hw1 : wrap64 (r : Int) = (r : Int) := Go.IntWalk.wrap64_in _ (by omega)
  have r0 : (0 : Int) < (r : Int) := by omega
  have hR := h.setC i r
  have c5 := hR.c3
  have c6 : (w.setCell ⟨gc, i, none⟩ (.int .i64 (r : Int))).cell? ⟨gc, i, none⟩ = some (.int .i64 (r : Int)) := World.cell?_setCell_same' _ _ _ (by rw [k2]; rfl)
  have HR := hidden hR
  clear h hs hi hc hq k1 k3 hm hR
  go_enter Try.func29, Try.ntmps29
  go_wp2_with (first
    | (go_at_call 56; refine (rwrong_ok g _ _ vf room ts cs fr slot i _ HS.out HE.out HI.out).mono ?_; rintro e w' ⟨rfl, hx⟩; rw [hx]; clear hx w'))
  go_ret2
  exact ⟨rfl, _, _, _, HR.out, Mod.setCell _ _ _ _ (rfB_mem.2 (.inr (.inr (.inl rfl)))), New.refl _ _⟩

end Go.Proofs.Ytodigmmpodbpiaa
