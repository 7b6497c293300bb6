/- audit.Check, as a contract. -/
import Derived.Test.YtkhinjkcfjncgaaGreatDoorKn26
import Derived.Test.YtkhinjkcfjncgaaGreatDoorKn25
import Derived.Test.YtkhinjkcfjncgaaGreatDoorKn09
import Derived.Test.YtkhinjkcfjncgaaGreatDoorKn22
namespace Go.Proofs.YtkhinjkcfjncgaaGreatDoor
set_option maxRecDepth 20000
open Go.RowKit

/-- A store to be looked at: what it tells, its handles. -/
structure Au (w : World) (v : Value) (cs : List (Nat × Ce)) : Prop where
  vw : Vw w v true (cot cs) (cat cs)
  wf : Wf cs []
  le : cs.length ≤ 65536
  hn : ∀ w', Below w.heap.size w w' → Calls Tryz.prog 33 #[v] w' fun e w'' => ∃ a c, e = .returned (.slice a (slotsOf (cs.map pl)).length c) ∧ w''.ownsRow w'.heap.size 3 1 (.slice a (slotsOf (cs.map pl)).length c) (slotsOf (cs.map pl)).length (nats (slotsOf (cs.map pl))) ∧ Below w'.heap.size w' w''
theorem Au.grow {w w' : World} {v : Value} {cs : List (Nat × Ce)} (h : Au w v cs) (hb : Below w.heap.size w w') : Au w' v cs := ⟨h.vw.grow hb, h.wf, h.le, fun w'' k => h.hn w'' (grow_trans hb k)⟩
theorem ints_at {w : World} {a : Option Addr} {n c : Nat} {l : List Nat} (h : Lst w 3 1 (.slice a n c) n (nats l)) (hn : n = l.length) (k : Nat) (hk : k < n) : ∃ g, a = some ⟨g, 0, none⟩ ∧ w.cell? ⟨g, k, none⟩ = some (.int .i64 (l.getD k 0 : Int)) := by
  obtain ⟨g, c', e, _⟩ := lst_pos h (by omega)
  injection e with e1 e2 e3
  subst e1
  refine ⟨g, rfl, ?_⟩
  rw [lst_cell h k (by omega), nats_get l k (by omega)]
/-- Roots that are good ones. -/
structure Rts (cs : List (Nat × Ce)) (R : List Nat) : Prop where
  ok : auE (cot cs) (cat cs) (zN R) = 0
  lv : ∀ h ∈ R, h ≠ 0 → 0 < cc cs (h - 1)

/-- What Check finds: handles whose wants are not their counts. -/
def fnA (cs : List (Nat × Ce)) (P : List Nat) (L : List Nat) : List Nat := L.filter fun (h : Nat) => decide (wnt P (h : Int) ≠ cc cs (h - 1))
def flF (cs : List (Nat × Ce)) (P : List Nat) (L : List Nat) : List Value := L.flatMap fun (h : Nat) => [.int .i64 (h : Int), .int .i64 (wnt P (h : Int) : Int), .int .i64 (cc cs (h - 1) : Int)]
theorem flF_snoc (cs : List (Nat × Ce)) (P L : List Nat) (h : Nat) : flF cs P (L ++ [h]) = flF cs P L ++ [.int .i64 (h : Int), .int .i64 (wnt P (h : Int) : Int), .int .i64 (cc cs (h - 1) : Int)] := by simp [flF]
theorem fnA_snoc (cs : List (Nat × Ce)) (P L : List Nat) (h : Nat) : fnA cs P (L ++ [h]) = if wnt P (h : Int) = cc cs (h - 1) then fnA cs P L else fnA cs P L ++ [h] := by
  unfold fnA
  rw [List.filter_append]
  by_cases e : wnt P (h : Int) = cc cs (h - 1)
  · rw [if_pos e]
    simp [e]
  · rw [if_neg e]
    simp [e]
def CkPost (cs : List (Nat × Ce)) (R : List Nat) (w : World) (e : Ending) (w' : World) : Prop := ∃ P a c, e = .returned (.tuple #[.slice a (fnA cs P (slotsOf (cs.map pl))).length c, .int .i64 0]) ∧ RdA cs R P ∧ w'.ownsRow w.heap.size 39 3 (.slice a (fnA cs P (slotsOf (cs.map pl))).length c) (fnA cs P (slotsOf (cs.map pl))).length (flF cs P (fnA cs P (slotsOf (cs.map pl)))) ∧ Below w.heap.size w w'
theorem info_fd : ∃ i z, Tryz.prog.info? 39 = some i ∧ i.zero = some z ∧ i.size = 3 ∧ i.bytes = 24 ∧ z.cells.size = 3 := ⟨_, _, rfl, rfl, rfl, rfl, rfl⟩

set_option maxHeartbeats 4000000 in
theorem chk_any {w : World} {v : Value} {cs : List (Nat × Ce)} (A : Au w v cs) {R : List Nat} (hR : Rts cs R) {rv : Value} (hz : Zs w rv (zN R)) : Calls Tryz.prog 11 #[v, rv] w (CkPost cs R w) := by
  have HL := hidden (look_any A.vw A.wf A.le rv R hz hR.ok hR.lv)
  have HA := hidden A
  obtain ⟨L, hLe⟩ : ∃ L, L = slotsOf (cs.map pl) := ⟨_, rfl⟩
  have HN : Hid (∀ w', Below w.heap.size w w' → Calls Tryz.prog 33 #[v] w' fun e w'' => ∃ a c, e = .returned (.slice a L.length c) ∧ w''.ownsRow w'.heap.size 3 1 (.slice a L.length c) L.length (nats L) ∧ Below w'.heap.size w' w'') := by
    rw [hLe]
    exact A.hn
  have HLB : Hid (∀ k, k < L.length → ∃ x, L[k]? = some x ∧ x ≠ 0 ∧ 0 < cc cs (x - 1) ∧ x ≤ 65536) := fun k hk => by
    have hm := List.getElem_mem hk
    obtain ⟨i, e, h⟩ := (slots_mem (cs.map pl) _).1 (by rw [← hLe]; exact hm)
    rw [cnt_pl] at h
    have := cc_lt h
    have := A.le
    refine ⟨L[k], List.getElem?_eq_getElem hk, by omega, ?_, by omega⟩
    rw [e]
    exact h
  have HLL : Hid (L.length ≤ 65536) := by
    show _ ≤ _
    rw [hLe, slots_length]
    have := A.le
    have h2 : occs (cs.map pl) ≤ (cs.map pl).length := by
      unfold occs
      exact List.countP_le_length
    rw [List.length_map] at h2
    omega
  have HPost : Hid (∀ P a c n w', n = (fnA cs P L).length → RdA cs R P → w'.ownsRow w.heap.size 39 3 (.slice a n c) n (flF cs P (fnA cs P L)) → Below w.heap.size w w' → CkPost cs R w (.returned (.tuple #[.slice a n c, .int .i64 0])) w') := fun P a c n w' hn q1 q2 q3 => by
    rw [hn] at q2 ⊢
    rw [hLe] at q2 ⊢
    exact ⟨P, a, c, rfl, q1, q2, q3⟩
  generalize HE : CkPost cs R w = Post at HPost ⊢
  generalize HE2 : L.length = M at HN HLL
  have HM := hidden HE2
  clear A hR hz HE hLe HE2
  go_enter Tryz.func11, Tryz.ntmps11
  go_wp2_with (first
    | (go_at_call 32; refine HL.out.mono ?_; rintro e w1 ⟨P, slv, bm, n, rfl, r1, o1, m1, l1, b1⟩; have HRD := hidden r1; have HO1 := hidden o1; have HM1 := hidden m1; have HB1 := hidden b1; have HLM := hidden l1; obtain ⟨sa, sc, esl⟩ := lst_slice (owR_lst o1); subst esl; clear r1 o1 m1 b1 l1)
    | ((with_reducible refine at_ald 6 ?_); refine wpList_al _ rfl _ rfl _ zero_sv ?_; intro w2 b6 hg1 hl1 B2 q2; have HB2 := hidden B2; have HQ2 := hidden q2; have HG2 := hidden hg1; clear hg1 hl1 B2 q2)
    | ((with_reducible refine at_st 6 ?_); refine wpList_sto _ rfl _ _ _ rfl b6 _ #[.slice sa (rch P).length sc, .map (some bm)] rfl rfl HB2.out size_sv rfl (by simp [Value.oneCell']) ?_; intro w3 B3 g3; have HB3 := hidden B3; have HQ3 := hidden (below_row HQ2.out g3 HG2.out); clear B3 g3)
    | (go_at_call 33; refine (HN.out _ (grow_trans HB1.out HQ3.out)).mono ?_; rintro e w4 ⟨la, lc, rfl, o4, b4⟩; have HO4 := hidden o4; have HQ4 := hidden b4; clear o4 b4))
  have HC1 : Hid (∀ w', Below w4.heap.size w4 w' → w'.cell? ⟨b6, 1, none⟩ = some (.map (some bm))) := fun w' hb => by rw [(((HB3.out.grow HQ4.out).grow hb)).cell]; rfl
  have HS4 := hidden ((HM1.out.grow HQ3.out).grow HQ4.out)
  have HW4 := hidden (grow_trans (grow_trans HB1.out HQ3.out) HQ4.out)
  clear HL HN HB3 HB2 HQ2 HG2 HO1 HM1
  go_loopw [25, 8] (fun iv fv wr => ∃ (k n : Nat) (a : Option Addr) (c : Nat), k ≤ M ∧ iv = .int .i64 (k : Int) ∧ fv = .slice a n c ∧ Hid (n = (fnA cs P (L.take k)).length) ∧ Hid (n ≤ k) ∧ Hid (wr.ownsRow w4.heap.size 39 3 (.slice a n c) n (flF cs P (fnA cs P (L.take k)))) ∧ Hid (Below w4.heap.size w4 wr)) (fun iv _ _ => M - (intOf iv).toNat)
  case atStart => exact ⟨0, 0, none, 0, by omega, rfl, rfl, rfl, Nat.le_refl _, (World.ownsRow_nil _ _ _ _ : World.ownsRow w4 w4.heap.size 39 3 (.slice none 0 0) 0 []), Below.refl _ _⟩
  case round =>
    obtain ⟨k, n, a, c, hk, rfl, rfl, hn, hnk, hO, hB⟩ := hrel
    by_cases hlt : k < M
    · obtain ⟨x, hx, x0, hxc, hx6⟩ := HLB.out k (by rw [HM.out]; exact hlt)
      have hgx : L.getD k 0 = x := by rw [List.getD_eq_getElem?_getD, hx]; rfl
      obtain ⟨gl, hla, hcl⟩ := ints_at (by have := owR_lst HO4.out; exact this) HM.out.symm k hlt
      subst hla
      rw [hgx] at hcl
      have hcl := below_cell hB.out hcl
      have hot : cot cs (x : Int) = cc cs (x - 1) := by unfold cot; rw [if_pos (by omega), show ((x : Int) - 1).toNat = x - 1 by omega]
      have HCT : Hid (∀ w', Below wr.heap.size wr w' → Calls Tryz.prog 34 #[v, .int .i64 (x : Int)] w' fun e w'' => e = .returned (.int .i64 (cc cs (x - 1) : Int)) ∧ w'' = w') := fun w' hb => by
        have := HA.out.vw.count w' (x : Int) (grow_trans (grow_trans HW4.out hB.out) hb)
        rwa [hot] at this
      have HLK : Hid (∀ w', Below wr.heap.size wr w' → (Instr.lookup 78 (.map (some bm)) (.int .i64 (x : Int)) false).run Tryz.prog w' = .ok (.int .i64 (wnt P (x : Int) : Int)) w') := fun w' hb => (HS4.out.grow (grow_trans hB.out hb)).look (wfi_nat x (by omega))
      have HC1 : Hid (∀ w', Below wr.heap.size wr w' → w'.cell? ⟨b6, 1, none⟩ = some (.map (some bm))) := fun w' hb => HC1.out w' (grow_trans hB.out hb)
      have HTK : Hid (fnA cs P (L.take (k + 1)) = if wnt P (x : Int) = cc cs (x - 1) then fnA cs P (L.take k) else fnA cs P (L.take k) ++ [x]) := by
        show _ = _
        rw [List.take_add_one, hx]
        exact fnA_snoc cs P _ x
      have HFS := hidden (flF_snoc cs P (fnA cs P (L.take k)) x)
      have k0 : (0 : Int) ≤ (k : Int) := by omega
      have k1 : (k : Int) < (M : Int) := by omega
      have hM6 := HLL.out
      have hwk : wrap64 ((k : Int) + 1) = ((k + 1 : Nat) : Int) := by rw [Go.IntWalk.wrap64_in _ (by omega)]; rfl
      obtain ⟨y, hy⟩ : ∃ y : Int, y = (x : Int) := ⟨_, rfl⟩
      rw [← hy] at hcl HCT HLK HFS
      obtain ⟨p, hp⟩ : ∃ p, p = wnt P (x : Int) := ⟨_, rfl⟩
      obtain ⟨q, hq⟩ : ∃ q, q = cc cs (x - 1) := ⟨_, rfl⟩
      rw [hy, ← hp, ← hy] at HLK HFS
      rw [← hp] at HTK
      rw [← hq] at HCT HFS HTK
      clear hx x0 hxc hx6 hgx hot hp hq hy
      by_cases hpq : p = q
      · have HT1 : Hid (fnA cs P (L.take (k + 1)) = fnA cs P (L.take k)) := by
          have := HTK.out
          rw [if_pos hpq] at this
          exact this
        have hpq2 : (p : Int) = (q : Int) := by omega
        clear HTK HFS
        go_wp2_with fail
        refine wp_region_held_drew (S := fun w' => Below wr.heap.size wr w') (by kernel_rfl) (below_drewN (Below.refl _ _) 1) (fun hHeld => ?_)
        refine wpAnyH_take (i := 0) (v := .pointer (some ⟨b6, 1, none⟩)) rfl (by kernel_rfl) (by kernel_rfl) (by kernel_rfl) (fun _ _ _ h => h) (Or.inl ⟨by rfl, fun w hS => by go_simp⟩) hHeld ?_
        simp only [Act.put, List.getElem_toArray, List.getElem_cons_zero, List.setIfInBounds_toArray, List.set_cons_zero, List.set_cons_succ]
        refine wpAnyH_take (i := 1) (v := .map (some bm)) rfl (by kernel_rfl) (by kernel_rfl) (by kernel_rfl) (fun _ _ _ h => h) (Or.inl ⟨by rfl, fun w hS => by (have q1 := HC1.out _ hS; go_simp)⟩) hHeld ?_
        simp only [Act.put, List.getElem_toArray, List.getElem_cons_zero, List.getElem_cons_succ, List.setIfInBounds_toArray, List.set_cons_zero, List.set_cons_succ]
        refine wpAnyH_take (i := 2) (v := .int .i64 y) rfl (by kernel_rfl) (by kernel_rfl) (by kernel_rfl) (fun _ _ _ h => h) (Or.inl ⟨by rfl, fun w hS => by go_simp⟩) hHeld ?_
        simp only [Act.put, List.getElem_toArray, List.getElem_cons_zero, List.getElem_cons_succ, List.setIfInBounds_toArray, List.set_cons_zero, List.set_cons_succ]
        refine wpAnyH_take (i := 3) (v := .int .i64 (p : Int)) rfl (by kernel_rfl) (by kernel_rfl) (by kernel_rfl) (fun _ _ _ h => h) (Or.inl ⟨by rfl, fun w hS => by (have q1 := HLK.out _ hS; go_simp)⟩) hHeld ?_
        simp only [Act.put, List.getElem_toArray, List.getElem_cons_zero, List.getElem_cons_succ, List.setIfInBounds_toArray, List.set_cons_zero, List.set_cons_succ]
        refine wpAnyH_take (i := 4) (v := v) rfl (by kernel_rfl) (by kernel_rfl) (by kernel_rfl) (fun _ _ _ h => h) (Or.inl ⟨by rfl, fun w hS => by go_simp⟩) hHeld ?_
        simp only [Act.put, List.getElem_toArray, List.getElem_cons_zero, List.getElem_cons_succ, List.setIfInBounds_toArray, List.set_cons_zero, List.set_cons_succ]
        refine wpAnyH_take (i := 5) (v := .int .i64 y) rfl (by kernel_rfl) (by kernel_rfl) (by kernel_rfl) (fun _ _ _ h => h) (Or.inl ⟨by rfl, fun w hS => by go_simp⟩) hHeld ?_
        simp only [Act.put, List.getElem_toArray, List.getElem_cons_zero, List.getElem_cons_succ, List.setIfInBounds_toArray, List.set_cons_zero, List.set_cons_succ]
        refine wpAnyH_ready (rs := [6]) (by kernel_rfl) (by simp) ?_
        refine AllReadyH.cons rfl (fun KQ hK => ?_) AllReadyH.nil
        go_simp
        refine (HCT.out _ hHeld).mono ?_
        rintro e z1 ⟨rfl, e1⟩
        rw [e1]
        refine hK.out _ _ (hHeld) (fun hHeld => ?_)
        clear hK KQ
        refine wpAnyH_take (i := 7) (v := .int .i64 (p : Int)) rfl (by kernel_rfl) (by kernel_rfl) (by kernel_rfl) (fun _ _ _ h => h) (Or.inl ⟨by rfl, fun w hS => by go_simp⟩) hHeld ?_
        simp only [Act.put, List.getElem_toArray, List.getElem_cons_zero, List.getElem_cons_succ, List.setIfInBounds_toArray, List.set_cons_zero, List.set_cons_succ]
        refine wpAnyH_take (i := 8) (v := .int .i64 (q : Int)) rfl (by kernel_rfl) (by kernel_rfl) (by kernel_rfl) (fun _ _ _ h => h) (Or.inl ⟨by rfl, fun w hS => by go_simp⟩) hHeld ?_
        simp only [Act.put, List.getElem_toArray, List.getElem_cons_zero, List.getElem_cons_succ, List.setIfInBounds_toArray, List.set_cons_zero, List.set_cons_succ]
        refine wpAnyH_done (by kernel_rfl) ?_ _
        go_wp2_with fail
        exact ⟨⟨k + 1, n, a, c, by omega, by go_num, rfl, by rw [HT1.out]; exact hn, by have := hnk.out; show _ ≤ _; omega, by rw [HT1.out]; exact hO, hB.out.drew⟩, by simp [intOf]; exact mea12 k1⟩
      · have HT1 : Hid (fnA cs P (L.take (k + 1)) = fnA cs P (L.take k) ++ [x]) := by
          have := HTK.out
          rw [if_neg hpq] at this
          exact this
        have hpq2 : ¬ (p : Int) = (q : Int) := by omega
        clear HTK
        go_wp2_with fail
        refine wp_region_held_drew (S := fun w' => Below wr.heap.size wr w') (by kernel_rfl) (below_drewN (Below.refl _ _) 1) (fun hHeld => ?_)
        refine wpAnyH_take (i := 0) (v := .pointer (some ⟨b6, 1, none⟩)) rfl (by kernel_rfl) (by kernel_rfl) (by kernel_rfl) (fun _ _ _ h => h) (Or.inl ⟨by rfl, fun w hS => by go_simp⟩) hHeld ?_
        simp only [Act.put, List.getElem_toArray, List.getElem_cons_zero, List.setIfInBounds_toArray, List.set_cons_zero, List.set_cons_succ]
        refine wpAnyH_take (i := 1) (v := .map (some bm)) rfl (by kernel_rfl) (by kernel_rfl) (by kernel_rfl) (fun _ _ _ h => h) (Or.inl ⟨by rfl, fun w hS => by (have q1 := HC1.out _ hS; go_simp)⟩) hHeld ?_
        simp only [Act.put, List.getElem_toArray, List.getElem_cons_zero, List.getElem_cons_succ, List.setIfInBounds_toArray, List.set_cons_zero, List.set_cons_succ]
        refine wpAnyH_take (i := 2) (v := .int .i64 y) rfl (by kernel_rfl) (by kernel_rfl) (by kernel_rfl) (fun _ _ _ h => h) (Or.inl ⟨by rfl, fun w hS => by go_simp⟩) hHeld ?_
        simp only [Act.put, List.getElem_toArray, List.getElem_cons_zero, List.getElem_cons_succ, List.setIfInBounds_toArray, List.set_cons_zero, List.set_cons_succ]
        refine wpAnyH_take (i := 3) (v := .int .i64 (p : Int)) rfl (by kernel_rfl) (by kernel_rfl) (by kernel_rfl) (fun _ _ _ h => h) (Or.inl ⟨by rfl, fun w hS => by (have q1 := HLK.out _ hS; go_simp)⟩) hHeld ?_
        simp only [Act.put, List.getElem_toArray, List.getElem_cons_zero, List.getElem_cons_succ, List.setIfInBounds_toArray, List.set_cons_zero, List.set_cons_succ]
        refine wpAnyH_take (i := 4) (v := v) rfl (by kernel_rfl) (by kernel_rfl) (by kernel_rfl) (fun _ _ _ h => h) (Or.inl ⟨by rfl, fun w hS => by go_simp⟩) hHeld ?_
        simp only [Act.put, List.getElem_toArray, List.getElem_cons_zero, List.getElem_cons_succ, List.setIfInBounds_toArray, List.set_cons_zero, List.set_cons_succ]
        refine wpAnyH_take (i := 5) (v := .int .i64 y) rfl (by kernel_rfl) (by kernel_rfl) (by kernel_rfl) (fun _ _ _ h => h) (Or.inl ⟨by rfl, fun w hS => by go_simp⟩) hHeld ?_
        simp only [Act.put, List.getElem_toArray, List.getElem_cons_zero, List.getElem_cons_succ, List.setIfInBounds_toArray, List.set_cons_zero, List.set_cons_succ]
        refine wpAnyH_ready (rs := [6]) (by kernel_rfl) (by simp) ?_
        refine AllReadyH.cons rfl (fun KQ hK => ?_) AllReadyH.nil
        go_simp
        refine (HCT.out _ hHeld).mono ?_
        rintro e z1 ⟨rfl, e1⟩
        rw [e1]
        refine hK.out _ _ (hHeld) (fun hHeld => ?_)
        clear hK KQ
        refine wpAnyH_take (i := 7) (v := .int .i64 (p : Int)) rfl (by kernel_rfl) (by kernel_rfl) (by kernel_rfl) (fun _ _ _ h => h) (Or.inl ⟨by rfl, fun w hS => by go_simp⟩) hHeld ?_
        simp only [Act.put, List.getElem_toArray, List.getElem_cons_zero, List.getElem_cons_succ, List.setIfInBounds_toArray, List.set_cons_zero, List.set_cons_succ]
        refine wpAnyH_take (i := 8) (v := .int .i64 (q : Int)) rfl (by kernel_rfl) (by kernel_rfl) (by kernel_rfl) (fun _ _ _ h => h) (Or.inl ⟨by rfl, fun w hS => by go_simp⟩) hHeld ?_
        simp only [Act.put, List.getElem_toArray, List.getElem_cons_zero, List.getElem_cons_succ, List.setIfInBounds_toArray, List.set_cons_zero, List.set_cons_succ]
        refine wpAnyH_done (by kernel_rfl) ?_ _
        have HOd := hidden (owR_grow (owR_grow hO.out hHeld) (grow_alloc _ (.cells #[.int .i64 y, .int .i64 (p : Int), .int .i64 (q : Int)] 39)))
        have HDS : Hid (w4.heap.size ≤ wr.drew.heap.size) := hB.out.size
        have HNK : Hid (n + 1 ≤ 65537) := by have := hnk.out; show _ ≤ _; omega
        clear e1 z1
        go_wp2_with (at_builtin; refine wpList_appB _ rfl _ _ _ rfl w4.heap.size 39 3 24 Tryz.underlying28 info_fd (by omega) _ n (flF cs P (fnA cs P (L.take k))) rfl HOd.out wr.drew.heap.size [.int .i64 y, .int .i64 (p : Int), .int .i64 (q : Int)] rfl (Blk.new _ _ _) rfl (by intro u hu; simp at hu; rcases hu with rfl | rfl | rfl <;> rfl) (by have := HNK.out; simp only [maxLen]; omega) (by have := HNK.out; omega) (Nat.le_trans HDS.out (by simp)) ?_; intro a5 c5 w5 o5 g5; have HO5 := hidden o5; have HB5 := hidden (owR_below (grow_trans (grow_trans hB.out hHeld) (grow_alloc _ (.cells #[.int .i64 y, .int .i64 (p : Int), .int .i64 (q : Int)] 39))) HOd.out (Nat.le_refl _) g5); clear o5 g5)
        refine ⟨⟨k + 1, n + 1, a5, c5, by omega, by go_num, rfl, ?_, ?_, ?_, HB5⟩, by simp [intOf]; exact mea12 k1⟩
        · show _ = _
          rw [HT1.out, List.length_append, hn.out]
          rfl
        · have := hnk.out
          show _ ≤ _
          omega
        · show World.ownsRow _ _ _ _ _ _ _
          rw [HT1.out, HFS.out]
          exact HO5.out
    · obtain rfl : k = M := by omega
      have nlt : ¬ (k : Int) < (k : Int) := by omega
      have HF : Hid (∀ w', Below wr.heap.size wr w' → Post (.returned (.tuple #[.slice a n c, .int .i64 0])) w') := fun w' hb => by
        have q1 := hO.out
        have q2 := hn.out
        rw [List.take_of_length_le (by rw [HM.out]; omega)] at q1 q2
        exact HPost.out P a c n w' q2 HRD.out (owR_grow (owR_base q1 HW4.out.size) hb) (grow_trans (grow_trans HW4.out hB.out) hb)
      go_wp2_with fail
      exact HF.out _ (Below.refl _ _)

end Go.Proofs.YtkhinjkcfjncgaaGreatDoor

/- What follows of wants and counts, with no word of the program. -/
namespace Go.Proofs.YtkhinjkcfjncgaaGreatDoor
set_option maxRecDepth 20000
open Go.RowKit

theorem slots_nd (ps : List Pl) : (slotsOf ps).Nodup := by
  unfold slotsOf slotsK
  unfold List.Nodup
  rw [List.pairwise_map]
  exact (List.nodup_range.filter _).imp (fun h e => h (by omega))
theorem slot_iff (cs : List (Nat × Ce)) (x : Nat) : x ∈ slotsOf (cs.map pl) ↔ x ≠ 0 ∧ 0 < cc cs (x - 1) := by
  rw [slots_mem]
  constructor
  · rintro ⟨i, rfl, h⟩
    rw [cnt_pl] at h
    exact ⟨by omega, h⟩
  · rintro ⟨h0, h⟩
    refine ⟨x - 1, by omega, ?_⟩
    rw [cnt_pl]
    exact h
theorem sdH_count (cs : List (Nat × Ce)) (h i : Nat) : (sdH cs h).count (i + 1) = (if (ce cs (h - 1)).l = i + 1 then 1 else 0) + (if (ce cs (h - 1)).r = i + 1 then 1 else 0) := by
  unfold sdH
  rw [List.count_cons, List.count_cons, List.count_nil]
  simp only [beq_iff_eq]
  omega
theorem slots_sum2 (cs : List (Nat × Ce)) (i : Nat) : ∀ k, k ≤ cs.length → ((slotsK (cs.map pl) k).map fun h => (sdH cs h).count (i + 1)).sum = ((cs.take k).map (con i)).sum
  | 0, _ => by simp [slotsK]
  | k + 1, hk => by
    have ih := slots_sum2 cs i k (by omega)
    have e : (cs.take (k + 1)).map (con i) = (cs.take k).map (con i) ++ [con i (cc cs k, ce cs k)] := by
      rw [List.take_succ_eq_append_getElem (by omega), List.map_append]
      have : cs[k] = (cc cs k, ce cs k) := by simp [cc, ce, show k < cs.length by omega]
      rw [this]
      rfl
    rw [e, List.sum_append]
    by_cases hc : 0 < cnt (cs.map pl) k
    · rw [slotsK_yes _ k hc, List.map_append, List.sum_append, ih]
      rw [cnt_pl] at hc
      simp only [List.map_cons, List.map_nil, List.sum_cons, List.sum_nil, Nat.add_zero, sdH_count, Nat.add_sub_cancel, con, if_pos hc]
    · rw [slotsK_no _ k hc, ih]
      rw [cnt_pl] at hc
      simp [con, hc]
theorem slots_ns (cs : List (Nat × Ce)) (i : Nat) : ((slotsOf (cs.map pl)).map fun h => (sdH cs h).count (i + 1)).sum = ns cs i := by
  have := slots_sum2 cs i cs.length (Nat.le_refl _)
  rw [List.take_length] at this
  unfold ns slotsOf
  rw [List.length_map]
  exact this

/-- Where roots hold all that callers hold everything is reached. -/
theorem reach_all {cs : List (Nat × Ce)} {R P : List Nat} (W : Wf cs []) (h : RdA cs R P) (ho : ∀ i, 0 < own cs [] i → i + 1 ∈ R) (i : Nat) (hi : 0 < cc cs i) : i + 1 ∈ rch P := by
  have up : ∀ i, 0 < cc cs i → i + 1 ∉ rch P → ∃ j, 0 < cc cs j ∧ j + 1 ∉ rch P ∧ (ce cs j).kind = 2 ∧ ((ce cs i).kind = 2 → (ce cs i).dp = (ce cs j).dp + 1) := fun i hi hn => by
    have h1 := W.own i
    have h0 : own cs [] i = 0 := by
      apply Nat.eq_zero_of_not_pos
      intro q
      exact hn ((h.mem _).2 (.top (ho i q) (by omega)))
    rw [List.count_nil, h0] at h1
    have h2 := W.ab i
    obtain ⟨j, hj, hs⟩ := ns_ex cs i (by omega)
    have hnj : j + 1 ∉ rch P := fun q => hn ((h.mem _).2 (.side ((h.mem _).1 q) (by
      rw [sdH, Nat.add_sub_cancel]
      rcases hs with e | e
      · simp [e]
      · simp [e]) (by omega)))
    rcases W.tr j hj with hl | hl
    · have := hl.l; have := hl.r; omega
    · refine ⟨j, hj, hnj, hl.kind, fun hk => ?_⟩
      rcases hs with e | e
      · rcases hl.sl with q | ⟨_, _, _, q⟩
        · omega
        · rw [e, Nat.add_sub_cancel] at q
          omega
      · rcases hl.sr with q | ⟨_, _, _, q⟩
        · omega
        · rw [e, Nat.add_sub_cancel] at q
          omega
  have no2 : ∀ d i, 0 < cc cs i → i + 1 ∉ rch P → (ce cs i).kind = 2 → (ce cs i).dp = d → False := by
    intro d
    induction d using Nat.strongRecOn with
    | _ d ih =>
      intro i hi hn hk hd
      obtain ⟨j, hj, hjn, hjk, hjd⟩ := up i hi hn
      have := hjd hk
      exact ih (ce cs j).dp (by omega) j hj hjn hjk rfl
  apply Classical.byContradiction
  intro hn
  obtain ⟨j, hj, hjn, hjk, _⟩ := up i hi hn
  exact no2 _ j hj hjn hjk rfl
/-- Of what is all reached each is wanted as often as it is a side, and stands in the list. -/
theorem want_all {cs : List (Nat × Ce)} {R P : List Nat} (W : Wf cs []) (h : RdA cs R P) (lv : ∀ h ∈ R, h ≠ 0 → 0 < cc cs (h - 1)) (all : ∀ i, 0 < cc cs i → i + 1 ∈ rch P) (i : Nat) : wnt P ((i + 1 : Nat) : Int) = R.count (i + 1) + ns cs i := by
  rw [wnt_nat P _ (by omega), h.count, ← slots_ns cs i]
  congr 1
  have pm : (rch P).Perm (slotsOf (cs.map pl)) := (List.perm_ext_iff_of_nodup (rch_nodup P) (slots_nd _)).2 (fun x => by
    rw [slot_iff]
    constructor
    · intro q
      exact ((h.mem x).1 q).live W lv
    · rintro ⟨x0, hx⟩
      have := all (x - 1) hx
      rwa [show x - 1 + 1 = x by omega] at this)
  exact (pm.map _).sum_nat
theorem rch_none {cs : List (Nat × Ce)} {P : List Nat} (h : RdA cs [] P) : P = [] := by
  have no : ∀ x, ¬ Rch cs [] x := fun x q => by
    induction q with
    | top hm _ => cases hm
    | side _ _ _ ih => exact ih
  have e : rch P = [] := by
    apply List.eq_nil_iff_forall_not_mem.2
    intro x hx
    exact no x ((h.mem x).1 hx)
  have := h.eq
  rw [e] at this
  simpa using this

/-- A tree of two leaves, held once, alone in its store: each count is 1. -/
theorem two_counts {cs : List (Nat × Ce)} {r : Nat} {T : Tre} (W : Wf cs []) (hT : IsT cs r T) (hd : (sdC cs r).kind = 2 → (sdC cs r).dp = 0) {y z : Ent} (hp : T.ents.Perm [y, z]) (hy : kb y.1 0 = 1) (hz : kb z.1 0 = 0) (hl : cs.length ≤ 3) (ho : ∀ i, own cs [] i = if r = i + 1 then 1 else 0) : 1 ≤ r ∧ 0 < cc cs (r - 1) ∧ ns cs (r - 1) = 0 ∧ (∀ i, 0 < cc cs i → cc cs i = 1) ∧ noc cs = 3 := by
  have hlen := hp.length_eq
  match T, hT, hp, hlen with
  | .emp, _, _, hlen => simp [Tre.ents] at hlen
  | .lf k b, _, _, hlen => simp [Tre.ents] at hlen
  | .nd d a b L R, hT, hp, hlen =>
    have n := nd_ok W hT
    obtain ⟨h1, h2, h3, h4, h5, h6, h7, h8⟩ := hT
    have hs : sdC cs r = ce cs (r - 1) := by rw [sdC, if_neg (by omega)]
    rw [hs] at hd
    obtain rfl : d = 0 := by have := hd h3; omega
    have okL := tree_ok W L a h7
    have okR := tree_ok W R b h8
    rw [show (Tre.nd 0 a b L R).ents = L.ents ++ R.ents from rfl] at hp hlen
    have mz : z ∈ L.ents := by
      rcases List.mem_append.1 (hp.mem_iff.2 (show z ∈ [y, z] by simp)) with q | q
      · exact q
      · have := n.bR z q; omega
    have my : y ∈ R.ents := by
      rcases List.mem_append.1 (hp.mem_iff.2 (show y ∈ [y, z] by simp)) with q | q
      · have := n.bL y q; omega
      · exact q
    have lL := List.length_pos_of_mem mz
    have lR := List.length_pos_of_mem my
    rw [List.length_append] at hlen
    simp only [List.length_cons, List.length_nil] at hlen
    have one : ∀ (U : Tre) (q : Nat), IsT cs q U → U.ents.length = 1 → 1 ≤ q ∧ 0 < cc cs (q - 1) ∧ (ce cs (q - 1)).kind = 1 := fun U q hU hU1 => by
      match U, hU, hU1 with
      | .emp, _, hU1 => simp [Tre.ents] at hU1
      | .lf _ _, hU, _ => exact ⟨hU.1, hU.2.1, hU.2.2.1⟩
      | .nd d' a' b' L' R', hU, hU1 =>
        have := (nd_ok W hU).two
        rw [show (Tre.nd d' a' b' L' R').ents = L'.ents ++ R'.ents from rfl] at hU1
        omega
    obtain ⟨a1, a2, a3⟩ := one L a h7 (by omega)
    obtain ⟨b1, b2, b3⟩ := one R b h8 (by omega)
    have hne : a ≠ b := by
      rintro rfl
      have e := IsT.one h7 h8
      subst e
      have q1 := n.bL z mz
      have q2 := n.bR z mz
      omega
    have ra : r ≠ a := by rintro rfl; omega
    have rb : r ≠ b := by rintro rfl; omega
    have l1 := cc_lt h2
    have l2 := cc_lt a2
    have l3 := cc_lt b2
    have any : ∀ j, 0 < cc cs j → j + 1 = r ∨ j + 1 = a ∨ j + 1 = b := fun j hj => by
      have := cc_lt hj
      omega
    have lf : ∀ j, 0 < cc cs j → j ≠ r - 1 → (ce cs j).l = 0 ∧ (ce cs j).r = 0 := fun j hj hjr => by
      have hk : (ce cs j).kind = 1 := by
        rcases any j hj with q | q | q
        · omega
        · rw [show j = a - 1 by omega]; exact a3
        · rw [show j = b - 1 by omega]; exact b3
      rcases W.tr j hj with q | q
      · exact ⟨q.l, q.r⟩
      · have := q.kind; omega
    have hns : ∀ i, ns cs i = (if a = i + 1 then 1 else 0) + (if b = i + 1 then 1 else 0) := fun i => by
      have q := ns_set cs i (r - 1) (0, zc) l1
      have q0 : ns (cs.set (r - 1) (0, zc)) i = 0 := by
        apply Nat.eq_zero_of_not_pos
        intro q
        obtain ⟨j, j1, j2⟩ := ns_ex _ i q
        rw [cc_set cs _ _ _ l1] at j1
        rw [ce_set cs _ _ _ l1] at j2
        by_cases e : j = r - 1
        · rw [if_pos e] at j1
          omega
        · rw [if_neg e] at j1 j2
          have := lf j j1 e
          omega
      rw [q0, show con i (0, zc) = 0 from rfl, con, if_pos h2, h5, h6] at q
      omega
    refine ⟨h1, h2, ?_, fun i hi => ?_, ?_⟩
    · rw [hns, if_neg (by omega), if_neg (by omega)]
    · have c1 := W.own i
      have c2 := W.ab i
      have c3 := hns i
      rw [List.count_nil, ho i] at c1
      rcases any i hi with q | q | q
      · rw [if_pos q.symm] at c1
        rw [if_neg (by omega), if_neg (by omega)] at c3
        omega
      · rw [if_neg (by omega)] at c1
        rw [if_pos q.symm, if_neg (by omega)] at c3
        omega
      · rw [if_neg (by omega)] at c1
        rw [if_neg (by omega), if_pos q.symm] at c3
        omega
    · have pm : (slotsOf (cs.map pl)).Perm [r, a, b] := (List.perm_ext_iff_of_nodup (slots_nd _) (by simp [ra, rb, hne])).2 (fun x => by
        rw [slot_iff]
        simp only [List.mem_cons, List.not_mem_nil, or_false]
        constructor
        · rintro ⟨x0, hx⟩
          have := any (x - 1) hx
          omega
        · rintro (rfl | rfl | rfl)
          · exact ⟨by omega, h2⟩
          · exact ⟨by omega, a2⟩
          · exact ⟨by omega, b2⟩)
      have := pm.length_eq
      rw [slots_length] at this
      exact this

end Go.Proofs.YtkhinjkcfjncgaaGreatDoor

/- A tree that is made from below out of entries, slot by slot: that it fits, and what stands there behind it. No program in this text but the store's own. -/
namespace Go.Proofs.YtkhinjkcfjncgaaGreatDoor
set_option maxRecDepth 20000
open Go.RowKit

/-- Slots more, and none of those that were there turned. -/
structure Ext (cs cs' : List (Nat × Ce)) : Prop where
  len : cs.length ≤ cs'.length
  cc : ∀ i, i < cs.length → cc cs' i = cc cs i
  ce : ∀ i, i < cs.length → ce cs' i = ce cs i
theorem Ext.refl (cs : List (Nat × Ce)) : Ext cs cs := ⟨Nat.le_refl _, fun _ _ => rfl, fun _ _ => rfl⟩
theorem Ext.trans {a b c : List (Nat × Ce)} (h : Ext a b) (k : Ext b c) : Ext a c := ⟨Nat.le_trans h.len k.len, fun i hi => (k.cc i (Nat.lt_of_lt_of_le hi h.len)).trans (h.cc i hi), fun i hi => (k.ce i (Nat.lt_of_lt_of_le hi h.len)).trans (h.ce i hi)⟩
theorem Ext.snoc (cs : List (Nat × Ce)) (p : Nat × Ce) : Ext cs (cs ++ [p]) := ⟨by simp, fun i hi => by rw [cc_snoc, if_neg (by omega)], fun i hi => by rw [ce_snoc, if_neg (by omega)]⟩
theorem Ext.up {cs cs' : List (Nat × Ce)} (h : Ext cs cs') (x : Nat) (hx : x = 0 ∨ cs.length < x) : Ext cs (upA cs' x) := by
  have a := upA_of cs' x
  refine ⟨by rw [a.len]; exact h.len, fun i hi => by rw [a.cc]; exact h.cc i hi, fun i hi => ?_⟩
  rw [← h.ce i hi]
  unfold upA
  split
  · rfl
  · rename_i h0
    by_cases hl : x - 1 < cs'.length
    · rw [setA_ce cs' x _ i hl, if_neg (by omega)]
    · rw [setA, List.set_eq_of_length_le (by omega)]

/-- What is held and looks the same has the same tree. -/
theorem IsT.keep {cs cs' : List (Nat × Ce)} (k : ∀ i, 0 < cc cs i → 0 < cc cs' i ∧ Core (ce cs i) (ce cs' i)) : ∀ {T : Tre} {h : Nat}, IsT cs h T → IsT cs' h T
  | .emp, _, e => e
  | .lf _ _, h, ⟨h1, h2, h3, h4, h5⟩ => by
    obtain ⟨k1, k2⟩ := k _ h2
    refine ⟨h1, k1, ?_⟩
    rw [k2]
    exact ⟨h3, h4, h5⟩
  | .nd _ _ _ _ _, h, ⟨h1, h2, h3, h4, h5, h6, h7, h8⟩ => by
    obtain ⟨k1, k2⟩ := k _ h2
    refine ⟨h1, k1, ?_⟩
    rw [k2]
    exact ⟨h3, h4, h5, h6, IsT.keep k h7, IsT.keep k h8⟩
theorem Ext.keep {cs cs' : List (Nat × Ce)} (h : Ext cs cs') : ∀ i, 0 < Go.Proofs.YtkhinjkcfjncgaaGreatDoor.cc cs i → 0 < Go.Proofs.YtkhinjkcfjncgaaGreatDoor.cc cs' i ∧ Core (Go.Proofs.YtkhinjkcfjncgaaGreatDoor.ce cs i) (Go.Proofs.YtkhinjkcfjncgaaGreatDoor.ce cs' i) := fun i hi => by
  have hl := cc_lt hi
  rw [h.cc i hl, h.ce i hl]
  exact ⟨hi, Core.refl _⟩
theorem Ext.sdC {cs cs' : List (Nat × Ce)} (h : Ext cs cs') (x : Nat) (hx : x ≤ cs.length) : sdC cs' x = sdC cs x := by
  unfold Go.Proofs.YtkhinjkcfjncgaaGreatDoor.sdC
  split
  · rfl
  · exact h.ce _ (by omega)

/-- The tree of these entries, from the depth d on, has been made: its handle is h. -/
structure Bd (cs : List (Nat × Ce)) (es : List Ent) (d h : Nat) (cs' : List (Nat × Ce)) : Prop where
  ext : Ext cs cs'
  wf : Wf cs' []
  tree : ∃ T, IsT cs' h T ∧ T.ents.Perm es
  dp : (sdC cs' h).kind = 2 → (sdC cs' h).dp = d
  own : h ≠ 0 → cs.length < h ∧ h ≤ cs'.length ∧ cc cs' (h - 1) = 1 ∧ (ce cs' (h - 1)).ab = 0
  num : cs'.length ≤ cs.length + es.length * (257 - d)

theorem Bd.nil {cs : List (Nat × Ce)} (w : Wf cs []) (d : Nat) : Bd cs [] d 0 cs :=
  ⟨Ext.refl _, w, ⟨.emp, rfl, List.Perm.refl _⟩, fun k => absurd k (by show ¬ zc.kind = 2; decide), fun h => absurd rfl h, by simp⟩

theorem Bd.one {cs : List (Nat × Ce)} (w : Wf cs []) (d : Nat) (hd : d ≤ 256) (e : Ent) (v : Value) (hl : e.2.length ≤ 1024) (hb : Bytes e.2) (ok : CeOk (lfC (lfD e.1 (vaD e.2)) e.1 v e.2)) : Bd cs [e] d (cs.length + 1) (cs ++ [(1, lfC (lfD e.1 (vaD e.2)) e.1 v e.2)]) := by
  have tk := (tk_of (cs := cs) (fr := []) (fun _ h => by cases h) (1, lfC (lfD e.1 (vaD e.2)) e.1 v e.2)).2
  have ec : cc (cs ++ [(1, lfC (lfD e.1 (vaD e.2)) e.1 v e.2)]) cs.length = 1 := by rw [cc_snoc, if_pos rfl]
  have ee : ce (cs ++ [(1, lfC (lfD e.1 (vaD e.2)) e.1 v e.2)]) cs.length = lfC (lfD e.1 (vaD e.2)) e.1 v e.2 := by rw [ce_snoc, if_pos rfl]
  refine ⟨Ext.snoc _ _, w.leaf tk (leaf_ok e.1 v e.2 hb hl) ok rfl, ⟨.lf e.1 e.2, ⟨by omega, ?_, ?_, ?_, ?_⟩, List.Perm.refl _⟩, fun k => ?_, fun _ => ⟨by omega, by simp, ?_, ?_⟩, ?_⟩
  · rw [Nat.add_sub_cancel, ec]; omega
  · rw [Nat.add_sub_cancel, ee]; rfl
  · rw [Nat.add_sub_cancel, ee]; rfl
  · rw [Nat.add_sub_cancel, ee]; rfl
  · rw [sdC, if_neg (by omega), Nat.add_sub_cancel, ee] at k
    exact absurd k (by show ¬ (1 : Int) = 2; omega)
  · rw [Nat.add_sub_cancel, ec]
  · rw [Nat.add_sub_cancel, ee]; rfl
  · simp; omega

theorem sideOf_perm (es : List Ent) (d : Nat) (hd : d < 256) : (sideOf es d 0 ++ sideOf es d 1).Perm es := by
  have h := List.filter_append_perm (fun e : Ent => kbi e.1 d == 0) es
  have e : es.filter (fun e : Ent => !(kbi e.1 d == 0)) = sideOf es d 1 := by
    unfold sideOf
    congr 1
    funext e
    rw [kbi_in _ _ hd]
    rcases kb_two e.1 d with q | q <;> rw [q] <;> rfl
  rw [e] at h
  exact h

theorem Bd.side {cs cs' : List (Nat × Ce)} {es : List Ent} {d h : Nat} (b : Bd cs es (d + 1) h cs') (bit : Int) (hb : ∀ e ∈ es, kb e.1 d = bit) : (sdC cs' h).sz = es.length ∧ fsP (sdC cs' h) d bit = true ∧ (h ≠ 0 → ∃ e ∈ es, ∀ j, j < d + 1 → kb e.1 j = kb (sdC cs' h).key j) ∧ ((sdC cs' h).kind = 0 → h = 0) := by
  obtain ⟨T, hT, hp⟩ := b.tree
  have ok := tree_ok b.wf T h hT
  have hsz : (sdC cs' h).sz = es.length := by rw [ok.sz, hp.length_eq]
  by_cases h0 : h = 0
  · subst h0
    exact ⟨hsz, rfl, fun q => absurd rfl q, fun _ => rfl⟩
  · have es1 : sdC cs' h = ce cs' (h - 1) := if_neg h0
    have hex : ∃ e ∈ es, ∀ j, j < d + 1 → kb e.1 j = kb (sdC cs' h).key j := by
      obtain ⟨e, he⟩ := List.exists_mem_of_ne_nil _ (ok.pos h0)
      refine ⟨e, hp.mem_iff.1 he, ok.share (d + 1) h0 (fun k => ?_) e he⟩
      have := b.dp (by rw [es1]; exact k)
      rw [es1] at this
      omega
    have hk : kb (sdC cs' h).key d = bit := by
      obtain ⟨e, he, hq⟩ := hex
      rw [← hq d (by omega)]
      exact hb e he
    obtain ⟨_, _, o3, _⟩ := b.own h0
    have hkd := b.wf.kinds (h - 1) (by omega)
    rw [← es1] at hkd
    refine ⟨hsz, ?_, fun _ => hex, fun q => by rcases hkd with e | e <;> omega⟩
    unfold fsP
    rcases hkd with e | e
    · rw [if_pos e]
      simpa using hk
    · rw [if_neg (by omega), if_pos e, b.dp e]
      simpa using hk

theorem Bd.two {cs cs1 cs2 : List (Nat × Ce)} {es : List Ent} {d a b : Nat} (hd : d < 256) (hn : 2 ≤ es.length) (hs : ∀ x ∈ es, ∀ y ∈ es, ∀ j, j < d → kb x.1 j = kb y.1 j) (ba : Bd cs (sideOf es d 0) (d + 1) a cs1) (bb : Bd cs1 (sideOf es d 1) (d + 1) b cs2) :
    mayP cs2 (a : Int) ∧ mayP cs2 (b : Int) ∧ ∃ u, (u = true ↔ Und (sdC cs2 a).key (sdC cs2 b).key (d : Int)) ∧ fitP d (sdC cs2 a) (sdC cs2 b) u = true ∧
      ∀ K, IsFill (if (sdC cs2 a).kind = 0 then (sdC cs2 b).key else (sdC cs2 a).key) d 0 K → Bd cs es d (cs2.length + 1) (upA (upA (cs2 ++ [(1, inC (inD (sdD cs2 a) (sdD cs2 b)) K ((sdC cs2 a).sz + (sdC cs2 b).sz) d a b)]) a) b) := by
  have hbit : ∀ (c : Int) e, e ∈ sideOf es d c → kb e.1 d = c := fun c e he => by
    have := (List.mem_filter.1 he).2
    rw [kbi_in _ _ hd] at this
    simpa using this
  have hal : a ≤ cs1.length := by
    by_cases h0 : a = 0
    · omega
    · exact (ba.own h0).2.1
  have hbl : b ≤ cs2.length := by
    by_cases h0 : b = 0
    · omega
    · exact (bb.own h0).2.1
  have hca : sdC cs2 a = sdC cs1 a := bb.ext.sdC a hal
  obtain ⟨a1, a2, a3, a4⟩ := ba.side 0 (hbit 0)
  obtain ⟨b1, b2, b3, b4⟩ := bb.side 1 (hbit 1)
  rw [← hca] at a1 a2 a3 a4
  have may : ∀ x : Nat, (x ≠ 0 → cc cs2 (x - 1) = 1 ∧ (ce cs2 (x - 1)).ab = 0) → mayP cs2 (x : Int) := fun x hx => by
    by_cases h0 : x = 0
    · exact .inl (by omega)
    · obtain ⟨q1, q2⟩ := hx h0
      refine .inr ?_
      rw [cat_nat, cot, if_pos (by omega), show ((x : Int) - 1).toNat = x - 1 by omega, sdC, if_neg h0]
      omega
  have ma := may a (fun h0 => by
    obtain ⟨q0, q1, q2, q3⟩ := ba.own h0
    rw [bb.ext.cc _ (by omega), bb.ext.ce _ (by omega)]
    exact ⟨q2, q3⟩)
  have mb := may b (fun h0 => by
    obtain ⟨q0, q1, q2, q3⟩ := bb.own h0
    exact ⟨q2, q3⟩)
  have hperm := sideOf_perm es d hd
  have hlen : (sideOf es d 0).length + (sideOf es d 1).length = es.length := by rw [← List.length_append]; exact hperm.length_eq
  refine ⟨ma, mb, ?_⟩
  have hfit : ∃ u, (u = true ↔ Und (sdC cs2 a).key (sdC cs2 b).key (d : Int)) ∧ fitP d (sdC cs2 a) (sdC cs2 b) u = true := by
    by_cases hu : Und (sdC cs2 a).key (sdC cs2 b).key (d : Int)
    · refine ⟨true, by simp [hu], ?_⟩
      unfold fitP
      rw [a2, b2]
      simp
      omega
    · refine ⟨false, by simp [hu], ?_⟩
      have : (sdC cs2 a).kind = 0 ∨ (sdC cs2 b).kind = 0 := by
        apply Classical.byContradiction
        intro hq
        have ha0 : a ≠ 0 := fun e => hq (.inl (by rw [e]; rfl))
        have hb0 : b ≠ 0 := fun e => hq (.inr (by rw [e]; rfl))
        obtain ⟨x, hx, hxk⟩ := a3 ha0
        obtain ⟨y, hy, hyk⟩ := b3 hb0
        refine hu ⟨by omega, by omega, fun j hj => ?_⟩
        rw [← hxk j (by omega), ← hyk j (by omega)]
        exact hs x (List.mem_filter.1 hx).1 y (List.mem_filter.1 hy).1 j (by omega)
      unfold fitP
      rw [a2, b2]
      rcases this with e | e <;> simp [e] <;> omega
  obtain ⟨u, hu, hf⟩ := hfit
  refine ⟨u, hu, hf, fun K hK => ?_⟩
  have tk := (tk_of (cs := cs2) (fr := []) (fun _ h => by cases h) (1, inC (inD (sdD cs2 a) (sdD cs2 b)) K ((sdC cs2 a).sz + (sdC cs2 b).sz) d a b)).2
  have wf := bb.wf.inner tk (inn_ok bb.wf hd ma mb hu hf hK) ⟨dig_length _, dig_bytes _, hK.1, none, 0, rfl⟩ rfl ma.own mb.own
  have hX : ∃ X, X = inC (inD (sdD cs2 a) (sdD cs2 b)) K ((sdC cs2 a).sz + (sdC cs2 b).sz) d a b := ⟨_, rfl⟩
  obtain ⟨X, hX⟩ := hX
  rw [← hX]
  have xk : X.kind = 2 := by rw [hX]; rfl
  have xd : X.dp = d := by rw [hX]; rfl
  have xl : X.l = a := by rw [hX]; rfl
  have xr : X.r = b := by rw [hX]; rfl
  have xa : X.ab = 0 := by rw [hX]; rfl
  have wf' : Wf (upA (upA (cs2 ++ [(1, X)]) a) b) [] := by rw [hX]; exact wf
  have u1 := upA_of (cs2 ++ [(1, X)]) a
  have uu := u1.trans (upA_of (upA (cs2 ++ [(1, X)]) a) b)
  have e2 := Ext.snoc cs2 (1, X)
  have ex : Ext cs (upA (upA (cs2 ++ [(1, X)]) a) b) := by
    refine Ext.up (Ext.up ((ba.ext.trans bb.ext).trans e2) a ?_) b ?_
    · by_cases h0 : a = 0
      · exact .inl h0
      · exact .inr (ba.own h0).1
    · by_cases h0 : b = 0
      · exact .inl h0
      · have := (bb.own h0).1
        have := ba.ext.len
        exact .inr (by omega)
  have kp : ∀ i, 0 < cc cs2 i → 0 < cc (upA (upA (cs2 ++ [(1, X)]) a) b) i ∧ Core (ce cs2 i) (ce (upA (upA (cs2 ++ [(1, X)]) a) b) i) := fun i hi => by
    obtain ⟨k1, k2⟩ := e2.keep i hi
    exact ⟨by rw [uu.cc]; exact k1, k2.trans (uu.core i)⟩
  have cn : cc (upA (upA (cs2 ++ [(1, X)]) a) b) cs2.length = 1 := by rw [uu.cc, cc_snoc, if_pos rfl]
  have cr : Core X (ce (upA (upA (cs2 ++ [(1, X)]) a) b) cs2.length) := by
    have := uu.core cs2.length
    rwa [ce_snoc, if_pos rfl] at this
  have ab : (ce (upA (upA (cs2 ++ [(1, X)]) a) b) cs2.length).ab = 0 := by
    rw [upA_ab _ b _ (by rw [u1.len, List.length_append]; left; simp; omega), upA_ab _ a _ (by rw [List.length_append]; left; have := bb.ext.len; simp; omega), ce_snoc, if_pos rfl, xa, if_neg (by have := bb.ext.len; omega), if_neg (by omega)]
  obtain ⟨TA, hTA, pA⟩ := ba.tree
  obtain ⟨TB, hTB, pB⟩ := bb.tree
  have sn : sdC (upA (upA (cs2 ++ [(1, X)]) a) b) (cs2.length + 1) = ce (upA (upA (cs2 ++ [(1, X)]) a) b) cs2.length := rfl
  refine ⟨ex, wf', ⟨.nd d a b TA TB, ⟨by omega, ?_, ?_, ?_, ?_, ?_, ?_, ?_⟩, ?_⟩, fun _ => ?_, fun _ => ⟨?_, ?_, ?_, ?_⟩, ?_⟩
  · rw [Nat.add_sub_cancel, cn]; omega
  · rw [Nat.add_sub_cancel, cr]; exact xk
  · rw [Nat.add_sub_cancel, cr]; exact xd
  · rw [Nat.add_sub_cancel, cr]; exact xl
  · rw [Nat.add_sub_cancel, cr]; exact xr
  · exact (hTA.keep bb.ext.keep).keep kp
  · exact hTB.keep kp
  · exact (pA.append pB).trans hperm
  · rw [sn, cr]; exact xd
  · have := ba.ext.len
    have := bb.ext.len
    omega
  · rw [uu.len]; simp
  · rw [Nat.add_sub_cancel, cn]
  · rw [Nat.add_sub_cancel, ab]
  · have n1 := ba.num
    have n2 := bb.num
    rw [uu.len, List.length_append, List.length_singleton]
    have e1 : 257 - (d + 1) = 256 - d := by omega
    rw [e1] at n1 n2
    have e3 : es.length * (257 - d) = es.length * (256 - d) + es.length := by
      rw [show 257 - d = (256 - d) + 1 by omega, Nat.mul_add, Nat.mul_one]
    rw [e3, ← hlen, Nat.add_mul]
    omega

end Go.Proofs.YtkhinjkcfjncgaaGreatDoor
