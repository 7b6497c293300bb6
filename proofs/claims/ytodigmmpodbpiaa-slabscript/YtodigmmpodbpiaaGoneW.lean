/- What goes over a slab beside the document's (the law's 'gone'), as a contract. -/
import Derived.Test.YtodigmmpodbpiaaIterI
import Derived.Test.YtodigmmpodbpiaaRefSl3
namespace Go.Proofs.Ytodigmmpodbpiaa
set_option maxRecDepth 20000
open Go.RowKit Go.Shelf

attribute [local go_sem] Oper.semAt_some

theorem prefix_next {α : Type} {pre E : List α} {x : α} (h : pre <+: E) (hl : pre.length < E.length) : pre ++ [x] <+: E ↔ x = E[pre.length] := by
  obtain ⟨t, rfl⟩ := h
  cases t with
  | nil => simp at hl
  | cons y r =>
    rw [List.prefix_append_right_inj]
    simp

set_option maxRecDepth 100000 in
set_option maxHeartbeats 4000000 in
theorem gone_any (gs gw : Nat) (vp vf vt vc vf2 : Value) (room : Nat) (ps : List Pl) (fr fr2 : List Nat) (ts : List Int) (cs : List Nat) (stop : Int) (w : World) (h : SlI w gs vp vf room ps fr) (hr : Rf w gw vt vc vf2 room ts cs fr2) (hc : cs = ps.map (·.1)) (hn : NumsI ps) (ht : ∀ i, 0 < cnt ps i → thgI ps (i + 1) = ts[i]?.getD 0) :
    Calls Try.prog 10 #[.agg #[.pointer (some ⟨gs, 0, none⟩), .pointer (some ⟨gw, 0, none⟩)], .int .i64 stop] w fun e w' => e = .returned (.bool true) ∧ Below w.heap.size w w' := by
  refine (callsIn_wide (n := 4)).1 ?_
  have HS : Hid (∀ w', Below w.heap.size w w' → SlI w' gs vp vf room ps fr) := fun w' hb => h.mod (Mod.of_below hb []) (fun _ _ h => by cases h)
  have HR : Hid (∀ w', Below w.heap.size w w' → Rf w' gw vt vc vf2 room ts cs fr2) := fun w' hb => hr.mod (Mod.of_below hb []) (fun _ _ h => by cases h)
  have HC := hidden hc
  have HN := hidden hn
  have HT := hidden ht
  have hslots : cnK cs cs.length = slotsOf ps := by rw [hc]; exact cnK_map ps
  obtain ⟨m, hm⟩ : ∃ m, m = (slotsOf ps).length := ⟨_, rfl⟩
  have HM := hidden hm
  have HSL : Hid (∀ w', Below w.heap.size w w' → Calls Try.prog 38 #[.pointer (some ⟨gw, 0, none⟩)] w' fun e w'' => ∃ a c, e = .returned (.slice a m c) ∧ w''.ownsRow w'.heap.size 3 1 (.slice a m c) m (nats (slotsOf ps)) ∧ Below w'.heap.size w' w'') := fun w' hb => by
    have := rslots_ok gw vt vc vf2 room ts cs fr2 w' (HR.out _ hb)
    rw [hslots, ← hm] at this
    exact this
  have f1 : Fence.wide.fn 38 := trivial
  have f2 : Fence.wide.fn 42 := trivial
  have f3 : Fence.wide.fn 31 := trivial
  have h6 : m ≤ 65536 := by
    have h1 := h.inv.len
    have h2 := h.inv.r2
    have h3 := slotsK_le ps ps.length
    rw [hm]
    unfold slotsOf
    omega
  have H6 := hidden h6
  clear h hr hc hn ht hslots hm h6
  refine callsIn_of_wp_marks Try.func10 rfl trivial ?_ rfl
  simp only [Try.ntmps10, List.size_toArray, List.length_cons, List.length_nil, Nat.reduceAdd, Nat.reduceSub, Array.replicate_succ, Array.replicate_zero, List.push_toArray, List.append_toArray, List.nil_append, List.cons_append]
  obtain ⟨wA, hwA⟩ : ∃ x, x = ((w.alloc (.cells #[Value.pointer (some ⟨gs, 0, none⟩), .pointer (some ⟨gw, 0, none⟩)] 31)).alloc (.cells #[Value.int .i64 stop] 3)).alloc (.cells #[Value.bool false] 4) := ⟨_, rfl⟩
  have hbA : Below w.heap.size w wA := by
    rw [hwA]
    exact grow_trans (grow_trans (grow_alloc _ _) (grow_alloc _ _)) (grow_alloc _ _)
  have HCA : Hid (∀ w', Below wA.heap.size wA w' → w'.cell? ⟨w.heap.size, 0, none⟩ = some (.pointer (some ⟨gs, 0, none⟩)) ∧ w'.cell? ⟨w.heap.size, 1, none⟩ = some (.pointer (some ⟨gw, 0, none⟩)) ∧ w'.cell? ⟨w.heap.size + 1, 0, none⟩ = some (.int .i64 stop) ∧ w'.cell? ⟨w.heap.size + 1 + 1, 0, none⟩ = some (.bool false) ∧ w'.frozen? ⟨w.heap.size + 1 + 1, 0, none⟩ = false) := by
    intro w' hb
    have k1 := ((Blk.new w 31 #[Value.pointer (some ⟨gs, 0, none⟩), .pointer (some ⟨gw, 0, none⟩)]).grow (grow_alloc _ (.cells #[Value.int .i64 stop] 3))).grow (grow_alloc _ (.cells #[Value.bool false] 4))
    have k2 := (Blk.new (w.alloc (.cells #[Value.pointer (some ⟨gs, 0, none⟩), .pointer (some ⟨gw, 0, none⟩)] 31)) 3 #[Value.int .i64 stop]).grow (grow_alloc _ (.cells #[Value.bool false] 4))
    have k3 := Blk.new ((w.alloc (.cells #[Value.pointer (some ⟨gs, 0, none⟩), .pointer (some ⟨gw, 0, none⟩)] 31)).alloc (.cells #[Value.int .i64 stop] 3)) 4 #[Value.bool false]
    rw [← hwA] at k1 k2 k3
    simp only [World.size_alloc] at k2 k3
    have k1 := k1.grow hb
    have k2 := k2.grow hb
    have k3 := k3.grow hb
    exact ⟨by rw [k1.cell]; rfl, by rw [k1.cell]; rfl, by rw [k2.cell]; rfl, by rw [k3.cell]; rfl, k3.frozen 0⟩
  have HSA : Hid (wA.heap.size = w.heap.size + 3) := by rw [hwA]; show _ = _; simp
  have HWA := hidden hwA
  have HBA := hidden hbA
  clear hwA hbA
  have hfn := eql_fn
  gi_wp2_with (first
    | (gi_at_call 38; rw [← HWA.out]; refine (callsIn_wide.2 (HSL.out _ HBA.out)).mono ?_; rintro e w1 ⟨a, c, rfl, o1, b1⟩; have q0 := (HCA.out _ (grow_trans b1 (grow_alloc w1 (.cells #[Value.slice a m c] 39)))).1)
    | (gi_at_call 42; refine (callsIn_wide.2 (all_okI gs vp vf room ps fr _ (HS.out _ (grow_trans HBA.out (grow_trans b1 (grow_alloc w1 _)))) HN.out)).mono ?_; rintro e w2 ⟨b3, b4, rfl, hA, b2⟩))
  obtain ⟨E, hE⟩ : ∃ E, E = prs (slotsOf ps) ((slotsOf ps).map (thgI ps)) := ⟨_, rfl⟩
  have HE := hidden hE
  have HEL : Hid (E.length = m) := by show E.length = m; rw [hE, prs, prsK_length, HM.out]
  clear hE
  have hb1 := grow_trans HBA.out b1
  have hb2 := grow_trans hb1 (grow_trans (grow_alloc w1 (.cells #[Value.slice a m c] 39)) b2)
  have hb3 := grow_alloc w2 (.cells #[Value.int .i64 0] 3)
  have hAw : Below wA.heap.size wA (w2.alloc (.cells #[Value.int .i64 0] 3)) := grow_trans b1 (grow_trans (grow_trans (grow_alloc w1 (.cells #[Value.slice a m c] 39)) b2) hb3)
  obtain ⟨qa, qb, qc, qd, qe⟩ := HCA.out _ hAw
  have B5 := ((Blk.new w1 39 #[Value.slice a m c]).grow b2).grow hb3
  have B7 := Blk.new w2 3 #[Value.int .i64 0]
  have HLst : ∀ ga j, a = some ⟨ga, 0, none⟩ → j < m → (w2.alloc (.cells #[Value.int .i64 0] 3)).cell? ⟨ga, j, none⟩ = some (.int .i64 ((slotsOf ps)[j]?.getD 0 : Nat)) := by
    intro ga j e hj
    subst e
    refine below_cell (grow_trans (grow_trans (grow_alloc w1 (.cells #[Value.slice (some ⟨ga, 0, none⟩) m c] 39)) b2) hb3) ?_
    rw [o1.cellAt j (by omega)]
    simp [nats, show j < (slotsOf ps).length by rw [← HM.out]; exact hj]
  have HPos : Hid (0 < m → ∃ ga, a = some ⟨ga, 0, none⟩) := by
    intro hp
    rcases o1.2 with ⟨_, h0⟩ | ⟨g', cap, cur, h1, _⟩
    · omega
    · injection h1 with h1
      exact ⟨g', h1⟩
  have hsz2 := hb2.size
  have hszA := HSA.out
  have hs1 := b1.size
  have hs2 : w1.heap.size + 1 ≤ w2.heap.size := by
    have := b2.size
    simpa using this
  refine wpIn_rangeFunc_ownG rfl (by omega) (gf := 57) (lb := #[.pointer (some ⟨b3, 0, none⟩), .pointer (some ⟨b4, 0, none⟩)]) rfl trivial (enters_of Try.func57 (by kernel_rfl) rfl)
    (iter_stops Fence.wide (4 - 1) trivial rfl (by omega) _ b3 b4 (slotsOf ps) ((slotsOf ps).map (thgI ps)) (by rw [← HM.out]; exact H6.out) w2 _ hA hb3) belowK_t (belowK_b hb3.size) (Below.refl _ _) (fun _ => rfl)
    (fun pre W => (W.cell? ⟨w.heap.size, 1, none⟩ = some (.pointer (some ⟨gw, 0, none⟩)) ∧ W.cell? ⟨w.heap.size + 1, 0, none⟩ = some (.int .i64 stop) ∧ W.cell? ⟨w.heap.size + 1 + 1, 0, none⟩ = some (.bool false) ∧ W.frozen? ⟨w.heap.size + 1 + 1, 0, none⟩ = false ∧ W.cell? ⟨w1.heap.size, 0, none⟩ = some (.slice a m c) ∧ W.cell? ⟨w2.heap.size, 0, none⟩ = some (.int .i64 (pre.length : Int)) ∧ W.frozen? ⟨w2.heap.size, 0, none⟩ = false ∧ (∀ ga j, a = some ⟨ga, 0, none⟩ → j < m → W.cell? ⟨ga, j, none⟩ = some (.int .i64 ((slotsOf ps)[j]?.getD 0 : Nat))) ∧ pre <+: E) ∧ Below w.heap.size w W)
    (fun cc pre W => (cc = .ret ∧ (W.cell? ⟨w.heap.size + 1 + 1, 0, none⟩ = some (.bool true) ∨ (W.cell? ⟨w.heap.size + 1 + 1, 0, none⟩ = some (.bool false) ∧ ¬ pre <+: E))) ∧ Below w.heap.size w W)
    (OwnFrom.and (Own.from (fun s A B row hs hg hr => by
      obtain ⟨z1, z2, z3, z4, z5, z6, z7, z8, z9⟩ := hs
      exact ⟨cell_kept z1 hg hr, cell_kept z2 hg hr, cell_kept z3 hg hr, (frozen_kept z3 hg hr).trans z4, cell_kept z5 hg hr, cell_kept z6 hg hr, (frozen_kept z6 hg hr).trans z7, fun ga j e hj => cell_kept (z8 ga j e hj) hg hr, z9⟩) _) (ownFrom_below (Nat.le_refl _) (by have := hb3.size; omega)))
    (fun cc => OwnFrom.and (Own.from (fun s A B row hs hg hr => by
      obtain ⟨z1, z2 | ⟨z2, z3⟩⟩ := hs
      · exact ⟨z1, .inl (cell_kept z2 hg hr)⟩
      · exact ⟨z1, .inr ⟨cell_kept z2 hg hr, z3⟩⟩) _) (ownFrom_below (Nat.le_refl _) (by have := hb3.size; omega)))
    ⟨⟨qb, qc, qd, qe, by rw [B5.cell]; rfl, by rw [B7.cell]; rfl, B7.frozen 0, HLst, List.nil_prefix⟩, grow_trans hb2 hb3⟩
    (fun y => { tmps := #[Value.agg #[Value.pointer (some { block := gs, off := 0 }), Value.pointer (some { block := gw, off := 0 })], Value.int IntKind.i64 stop, Value.pointer (some { block := w.heap.size, off := 0 }), Value.pointer (some { block := w.heap.size + 1, off := 0 }), Value.pointer (some { block := w.heap.size + 1 + 1, off := 0 }), Value.pointer (some { block := w1.heap.size, off := 0 }), Value.func (Fn.func 57) #[] #[Value.pointer (some { block := b3, off := 0 }), Value.pointer (some { block := b4, off := 0 })], Value.pointer (some { block := w2.heap.size, off := 0 }), Value.int .i64 y.1, Value.int .i64 y.2, undef, undef, Value.pointer (some { block := w.heap.size, off := 1 }), Value.pointer (some { block := gw, off := 0 }), Value.slice a m c, Value.pointer (some { block := w.heap.size, off := 0 }), Value.pointer (some { block := gs, off := 0 }), Value.func (Fn.func 57) #[] #[Value.pointer (some { block := b3, off := 0 }), Value.pointer (some { block := b4, off := 0 })], Value.func (Fn.func 57) #[] #[Value.pointer (some { block := b3, off := 0 }), Value.pointer (some { block := b4, off := 0 })], Value.bool false, Value.func (Fn.func 57) #[] #[Value.pointer (some { block := b3, off := 0 }), Value.pointer (some { block := b4, off := 0 })], Value.int .i64 y.1, Value.int .i64 y.2, undef, undef, undef, undef, undef, undef, undef, undef, undef, undef, undef, undef, undef, undef, undef, undef, undef, undef, undef, undef, undef, undef, undef, undef, undef, undef, undef, undef, undef, undef, undef], defers := [] }) ?assign ?body ?done ?stop
  case assign =>
    intro l y W K hK
    gi_wp2
    exact hK
  case body =>
    rintro l pre ⟨sl, z⟩ W ⟨⟨z1, z2, z3, z4, z5, z6, z7, z8, z9⟩, hB⟩ hlt
    rw [← HM.out] at hlt
    obtain ⟨ga, ea⟩ := HPos.out (by omega)
    have z8' := z8 ga pre.length ea hlt
    subst ea
    have HP := hidden z9
    have H8 := hidden z8
    obtain ⟨k, hk⟩ : ∃ k, k = pre.length := ⟨_, rfl⟩
    rw [← hk] at z6 z8' hlt
    have HK := hidden hk
    obtain ⟨sk, hsk⟩ : ∃ sk, sk = (slotsOf ps)[k]?.getD 0 := ⟨_, rfl⟩
    rw [← hsk] at z8'
    have hkl : k < (slotsOf ps).length := by rw [← HM.out]; exact hlt
    obtain ⟨i, hi, hci⟩ := (slots_mem ps sk).1 (by rw [hsk]; simp [hkl])
    have HEk : Hid (∀ x : Int × Int, pre ++ [x] <+: E ↔ x = ((sk : Int), ts[i]?.getD 0)) := by
      intro x
      rw [prefix_next HP.out (by rw [HEL.out, ← HK.out]; exact hlt)]
      have : E[pre.length]? = some ((sk : Int), ts[i]?.getD 0) := by
        rw [← HK.out, HE.out, prs, prsK, List.getElem?_map, List.getElem?_range hkl]
        simp only [Option.map_some, List.getElem?_map]
        rw [← hsk, ← HT.out i hci]
        simp [hkl, ← hi, hsk]
      have hlen : pre.length < E.length := by rw [HEL.out, ← HK.out]; exact hlt
      rw [List.getElem?_eq_getElem hlen] at this
      injection this with this
      rw [this]
    obtain ⟨tv, htv⟩ : ∃ tv, tv = ts[i]?.getD 0 := ⟨_, rfl⟩
    have HG : Hid (∀ w', Below w.heap.size w w' → Calls Try.prog 31 #[.pointer (some ⟨gw, 0, none⟩), .int .i64 (sk : Int)] w' fun e w'' => e = .returned (.tuple #[.int .i64 tv, .int .i64 0]) ∧ w'' = w') := fun w' hb => by
      have := rget_ok gw vt vc vf2 room ts cs fr2 (sk : Int) i w' (HR.out _ hb) (by rw [hi]; rfl) (by rw [HC.out, cn_map]; exact hci)
      rw [← htv] at this
      exact this
    rw [← htv] at HEk
    have l1 : (k : Int) < (m : Int) := by omega
    have l0 : (0 : Int) ≤ (k : Int) := by omega
    have hmk : decide (m ≤ k) = false := by simpa using hlt
    have hmk2 : ¬ m ≤ k := by omega
    have hwk : wrap64 ((k : Int) + 1) = (k : Int) + 1 := Go.IntWalk.wrap64_in _ (by have := H6.out; omega)
    clear hsk hk htv hi hci hkl z8 z9 hlt
    by_cases h1 : sl = (sk : Int)
    · subst h1
      by_cases h2 : z = tv
      · subst h2
        have hp2 := (HEk.out ((sk : Int), z)).2 rfl
        have HP2 := hidden hp2
        clear hp2
        have y2 : (W.setCell ⟨w2.heap.size, 0, none⟩ (.int .i64 ((k : Int) + 1))).cell? ⟨w.heap.size + 1, 0, none⟩ = some (.int .i64 stop) := by rw [cell_set_ne _ _ _ _ _ _ (by omega)]; exact z2
        have y6 : (W.setCell ⟨w2.heap.size, 0, none⟩ (.int .i64 ((k : Int) + 1))).cell? ⟨w2.heap.size, 0, none⟩ = some (.int .i64 ((k : Int) + 1)) := World.cell?_setCell_same' _ _ _ (by rw [z6]; rfl)
        have y3 : (W.setCell ⟨w2.heap.size, 0, none⟩ (.int .i64 ((k : Int) + 1))).cell? ⟨w.heap.size + 1 + 1, 0, none⟩ = some (.bool false) := by rw [cell_set_ne _ _ _ _ _ _ (by omega)]; exact z3
        have y4 : (W.setCell ⟨w2.heap.size, 0, none⟩ (.int .i64 ((k : Int) + 1))).frozen? ⟨w.heap.size + 1 + 1, 0, none⟩ = false := by rw [World.frozen?_setCell]; exact z4
        have hBn : Below w.heap.size w (W.setCell ⟨w2.heap.size, 0, none⟩ (.int .i64 ((k : Int) + 1))) := setCell_below _ _ hB (by omega)
        by_cases h3 : (k : Int) + 1 = stop
        · subst h3
          gi_wp2_with (first
            | (gi_at_call 31; refine (CallsIn.inRound l (callsIn_wide.2 (HG.out _ hB))).mono ?_; rintro e w' ⟨rfl, hx⟩; rw [hx]; clear hx w'))
          exact ⟨((KeepsOthers.setCell _ _ _).trans (KeepsOthers.setCell _ _ _)).from _, ⟨rfl, .inl (World.cell?_setCell_same' _ _ _ (by rw [y3]; rfl))⟩, setCell_below _ _ hBn (by omega)⟩
        · have h3' : ((k : Int) + 1 == stop) = false := by simpa using h3
          clear h3
          gi_wp2_with (first
            | (gi_at_call 31; refine (CallsIn.inRound l (callsIn_wide.2 (HG.out _ hB))).mono ?_; rintro e w' ⟨rfl, hx⟩; rw [hx]; clear hx w'))
          refine ⟨(KeepsOthers.setCell _ _ _).from _, (Below.refl _ _).setCell (p := ⟨w2.heap.size, 0, none⟩) (Nat.le_refl _) _, ⟨by rw [cell_set_ne _ _ _ _ _ _ (by omega)]; exact z1, y2, y3, y4, by rw [cell_set_ne _ _ _ _ _ _ (by omega)]; exact z5, ?_, by rw [World.frozen?_setCell]; exact z7, ?_, HP2.out⟩, hBn⟩
          · rw [List.length_append, ← HK.out]
            exact y6
          · intro ga' j e hj
            have hne : ga' ≠ w2.heap.size := by
              injection e with e
              injection e with e
              subst e
              have := (o1.lt ga rfl).2
              omega
            rw [cell_set_ne _ _ _ _ _ _ hne]
            exact H8.out ga' j e hj
      · have h2' : (z != tv) = true := by simpa using h2
        have HX : Hid (¬ pre ++ [((sk : Int), z)] <+: E) := by
          show ¬ _
          rw [HEk.out]
          intro e
          injection e with _ e
          exact h2 e
        clear h2
        gi_wp2_with (first
          | (gi_at_call 31; refine (CallsIn.inRound l (callsIn_wide.2 (HG.out _ hB))).mono ?_; rintro e w' ⟨rfl, hx⟩; rw [hx]; clear hx w'))
        exact ⟨(KeepsOthers.setCell _ _ _).from _, ⟨rfl, .inr ⟨World.cell?_setCell_same' _ _ _ (by rw [z3]; rfl), HX.out⟩⟩, setCell_below _ _ hB (by omega)⟩
    · have h1' : (sl != (sk : Int)) = true := by simpa using h1
      have HX : Hid (¬ pre ++ [(sl, z)] <+: E) := by
        show ¬ _
        rw [HEk.out]
        intro e
        injection e with e _
        exact h1 e
      clear h1
      gi_wp2
      exact ⟨(KeepsOthers.setCell _ _ _).from _, ⟨rfl, .inr ⟨World.cell?_setCell_same' _ _ _ (by rw [z3]; rfl), HX.out⟩⟩, setCell_below _ _ hB (by omega)⟩
  case done =>
    rintro D ys W hD hys ⟨⟨z1, z2, z3, z4, z5, z6, z7, z8, z9⟩, hB⟩ hK
    have hyl : ys.length = m := by rw [hys, prs, prsK_length, HM.out]
    rw [hyl] at z6
    clear hys hyl z8 z9
    gi_wp2
    have hK' := (KeepsOthers.setCell W ⟨w.heap.size + 1 + 1, 0, none⟩ (.bool true)).same D _ hK rfl
    refine ⟨by simp, .inl ⟨_, _, rfl, run_takeDeferred hK', ?_⟩⟩
    have hc5 := cell_kept (World.cell?_setCell_same' W ⟨w.heap.size + 1 + 1, 0, none⟩ (.bool true) (by rw [z3]; rfl)) (grownBy_putObj' _ D (.deferred none)) (fun r e => by cases e; exact ⟨_, hK', rfl⟩)
    refine ⟨.bool true, ?_, rfl, (setCell_below (w := W) (g := w.heap.size + 1 + 1) 0 (.bool true) hB (by omega)).trans (belowK_b (w := w) (Nat.le_refl _) _ D _ _ (by have := hb3.size; omega) hK' rfl rfl)⟩
    simp [results, Try.f10, go_sem, hc5]
  case stop =>
    rintro D cc pre W hD hpre ⟨⟨rfl, hx⟩, hB⟩ hK
    rw [← HE.out] at hpre
    have hx : W.cell? ⟨w.heap.size + 1 + 1, 0, none⟩ = some (.bool true) := by
      rcases hx with hx | ⟨_, hx⟩
      · exact hx
      · exact absurd hpre hx
    gi_wp2
    refine ⟨by simp, .inl ⟨_, _, rfl, run_takeDeferred hK, ?_⟩⟩
    have hc5 := cell_kept hx (grownBy_putObj' _ D (.deferred none)) (fun r e => by cases e; exact ⟨_, hK, rfl⟩)
    refine ⟨.bool true, ?_, rfl, hB.trans (belowK_b (w := w) (Nat.le_refl _) W D _ _ (by have := hb3.size; omega) hK rfl rfl)⟩
    simp [results, Try.f10, go_sem, hc5]

end Go.Proofs.Ytodigmmpodbpiaa
