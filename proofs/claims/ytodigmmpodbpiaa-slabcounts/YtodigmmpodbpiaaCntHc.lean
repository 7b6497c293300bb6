/- A slab of calls beside two maps, each in blocks of its own, apart from some blocks that a walk holds. -/
import Derived.Test.YtodigmmpodbpiaaCntMap
import Derived.Test.YtodigmmpodbpiaaSlabHA
import Derived.Laws.StructEq
namespace Go.Proofs.Ytodigmmpodbpiaa
set_option maxRecDepth 20000
open Go.RowKit

/-- A store into a map, by its run. -/
theorem wpList_mup {ops : Array Oper} {rest : List Oper} {o : Oper} {a : Act} {Q : Exit → Act → World → Prop} {w w' : World} (hg : o.guard = none) (m x v : Operand) (t : TypeId) (hop : o.op = Op.mapUpdate t m x v) (vm vx vv : Value)
    (hm : a.eval m = vm) (hx : a.eval x = vx) (hv : a.eval v = vv) (hrun : (Instr.mapUpdate t vm vx vv).run Try.prog w = .ok () w') (hK : wpList Try.prog ops Q rest (a.put o.dst undef) w') : wpList Try.prog ops Q (o :: rest) a w := by
  refine wpList_plain hg fun K' hK' => ?_
  unfold Oper.wp
  simp [execOp, hop, hm, hx, hv, hrun, Result.andThen]
  exact hK' _ _ hK
theorem wpList_dlt {ops : Array Oper} {rest : List Oper} {o : Oper} {a : Act} {Q : Exit → Act → World → Prop} {w w' : World} (hg : o.guard = none) (m x : Operand) (t k : TypeId) (hop : o.op = Op.call { callee := Callee.builtin Builtin.delete, args := #[m, x], argTypes := #[t, k] }) (vm vx : Value)
    (hm : a.eval m = vm) (hx : a.eval x = vx) (hrun : ∀ ty, (Builtin.delete_ #[t, k] ty #[vm, vx]).run Try.prog w = .ok (.tuple #[]) w') (hK : wpList Try.prog ops Q rest (a.put o.dst (.tuple #[])) w') : wpList Try.prog ops Q (o :: rest) a w := by
  refine wpList_plain hg fun K' hK' => ?_
  unfold Oper.wp
  simp [execOp, hop, resolve, invoke, builtin, hm, hx, hrun o.type, Result.andThen]
  exact hK' _ _ hK

/-- A count struck out. -/
theorem wpList_delC {ops : Array Oper} {rest : List Oper} {o : Oper} {a : Act} {Q : Exit → Act → World → Prop} {w : World} (hg : o.guard = none) (m x : Operand) (hop : o.op = Op.call { callee := Callee.builtin Builtin.delete, args := #[m, x], argTypes := #[47, 3] }) (b : Nat) (s : Int) (qs qs' : List Pl)
    (hm : a.eval m = .map (some b)) (hx : a.eval x = .int .i64 s) (h : CM w b qs) (hs : Wf s) (hq : ∀ j : Nat, cnt qs' j = if (j : Int) + 1 = s then 0 else cnt qs j) (ho : occs qs' + (if 0 < cntS qs s then 1 else 0) = occs qs)
    (hK : ∀ w', CM w' b qs' → w.grownBy w' (some b) → wpList Try.prog ops Q rest (a.put o.dst (.tuple #[])) w') : wpList Try.prog ops Q (o :: rest) a w := by
  refine wpList_plain hg fun K' hK' => ?_
  obtain ⟨w', hrun, r1, r2⟩ := h.del s hs hq ho o.type
  unfold Oper.wp
  simp [execOp, hop, resolve, invoke, builtin, hm, hx, hrun, Result.andThen]
  exact hK' _ _ (hK w' r1 r2)

/-- The slab, the things and the counts in these states; the blocks X hold what they hold, and belong to none. -/
def Hc (w0 w : World) (X : List (Nat × Obj)) (g bt bc room : Nat) (ps : List Pl) (fr : List Nat) (m : Nat) (qt qc : List Pl) : Prop :=
  ∃ vp vf, SlA w g vp vf room ps fr ∧ (∀ k ∈ slB g vp vf, w0.heap.size ≤ k) ∧ (TM w bt m qt ∧ w0.heap.size ≤ bt ∧ bt ∉ slB g vp vf) ∧ (CM w bc qc ∧ w0.heap.size ≤ bc ∧ bc ∉ slB g vp vf) ∧ bt ≠ bc ∧
    (∀ x ∈ X, w.heap[x.1]? = some x.2 ∧ x.1 ∉ slB g vp vf ∧ x.1 ≠ bt ∧ x.1 ≠ bc) ∧ Below w0.heap.size w0 w

section
variable {w0 w : World} {X : List (Nat × Obj)} {g bt bc room m : Nat} {ps qt qc : List Pl} {fr : List Nat}

theorem Hc.low (h : Hc w0 w X g bt bc room ps fr m qt qc) : Below w0.heap.size w0 w := by
  obtain ⟨_, _, _, _, _, _, _, _, h⟩ := h
  exact h
theorem Hc.inv (h : Hc w0 w X g bt bc room ps fr m qt qc) : Inv room ps fr := by
  obtain ⟨_, _, h, _⟩ := h
  exact h.inv
theorem Hc.held (h : Hc w0 w X g bt bc room ps fr m qt qc) {k : Nat} {cells : Array Value} {t : TypeId} (hx : (k, Obj.cells cells t (0, 0)) ∈ X) : Blk w k t cells := by
  obtain ⟨_, _, _, _, _, _, _, h, _⟩ := h
  exact (h _ hx).1
theorem Hc.less {Y : List (Nat × Obj)} (h : Hc w0 w X g bt bc room ps fr m qt qc) (hy : ∀ y ∈ Y, y ∈ X) : Hc w0 w Y g bt bc room ps fr m qt qc := by
  obtain ⟨vp, vf, h1, h2, h3, h4, h5, h6, h7⟩ := h
  exact ⟨vp, vf, h1, h2, h3, h4, h5, fun y hyy => h6 y (hy y hyy), h7⟩
theorem Hc.cm (h : Hc w0 w X g bt bc room ps fr m qt qc) : CM w bc qc := by
  obtain ⟨_, _, _, _, _, h, _⟩ := h
  exact h.1
theorem Hc.tm (h : Hc w0 w X g bt bc room ps fr m qt qc) : TM w bt m qt := by
  obtain ⟨_, _, _, _, h, _⟩ := h
  exact h.1
theorem Hc.sameT {m' : Nat} {qt' : List Pl} (h : Hc w0 w X g bt bc room ps fr m qt qc) (hm : m ≤ m') (hq : ∀ i, 0 < cnt qt' i → 0 < cnt qt i ∧ thg qt' i = thg qt i) : Hc w0 w X g bt bc room ps fr m' qt' qc := by
  obtain ⟨vp, vf, h1, h2, h3, h4, h5, h6, h7⟩ := h
  exact ⟨vp, vf, h1, h2, ⟨h3.1.same hm hq, h3.2⟩, h4, h5, h6, h7⟩

theorem SlA.lts {vp vf : Value} (h : SlA w g vp vf room ps fr) : ∀ k ∈ slB g vp vf, k < w.heap.size := fun k hk => by
  rcases slB_mem.1 hk with rfl | hk | hk
  · exact h.blk.lt
  · exact lst_lt h.pls k hk
  · exact lst_lt h.frs k hk

theorem Hc.grow {w' : World} (h : Hc w0 w X g bt bc room ps fr m qt qc) (hb : Below w.heap.size w w') : Hc w0 w' X g bt bc room ps fr m qt qc := by
  obtain ⟨vp, vf, h1, h2, h3, h4, h5, h6, h7⟩ := h
  refine ⟨vp, vf, h1.mod (Mod.of_below hb []) (fun _ _ h => by cases h), h2, ⟨h3.1.mod (Mod.of_below hb []) (by simp), h3.2⟩, ⟨h4.1.mod (Mod.of_below hb []) (by simp), h4.2⟩, h5, fun x hx => ?_, h7.trans (hb.mono h7.size)⟩
  obtain ⟨k1, k2⟩ := h6 x hx
  exact ⟨(hb.block x.1 (Array.getElem?_eq_some_iff.1 k1).1).trans k1, k2⟩

/-- A new block that the walk holds. -/
theorem Hc.hold {w' : World} {k : Nat} {o : Obj} (h : Hc w0 w X g bt bc room ps fr m qt qc) (hb : Below w.heap.size w w') (hk : w'.heap[k]? = some o) (hn : w.heap.size ≤ k) : Hc w0 w' ((k, o) :: X) g bt bc room ps fr m qt qc := by
  obtain ⟨vp, vf, h1, h2, h3, h4, h5, h6, h7⟩ := h
  refine ⟨vp, vf, h1.mod (Mod.of_below hb []) (fun _ _ h => by cases h), h2, ⟨h3.1.mod (Mod.of_below hb []) (by simp), h3.2⟩, ⟨h4.1.mod (Mod.of_below hb []) (by simp), h4.2⟩, h5, fun x hx => ?_, h7.trans (hb.mono h7.size)⟩
  rcases List.mem_cons.1 hx with rfl | hx
  · refine ⟨hk, fun e => ?_, fun e => ?_, fun e => ?_⟩
    · have := h1.lts _ e
      simp at this
      omega
    · have := h3.1.lt
      simp at e
      omega
    · have := h4.1.lt
      simp at e
      omega
  · obtain ⟨k1, k2⟩ := h6 x hx
    exact ⟨(hb.block x.1 (Array.getElem?_eq_some_iff.1 k1).1).trans k1, k2⟩

/-- A call that turns the slab. -/
theorem Hc.useS {ps' : List Pl} {fr' : List Nat} {f : FuncId} {args : Array Value} {E : Value} (h : Hc w0 w X g bt bc room ps fr m qt qc)
    (hc : ∀ vp vf, SlA w g vp vf room ps fr → Calls Try.prog f args w fun e w' => e = .returned E ∧ TurnA w g (slB g vp vf) room ps' fr' w') : Calls Try.prog f args w fun e w' => e = .returned E ∧ Hc w0 w' X g bt bc room ps' fr' m qt qc := by
  obtain ⟨vp, vf, h1, h2, h3, h4, h5, h6, h7⟩ := h
  refine (hc vp vf h1).mono ?_
  rintro e w' ⟨rfl, vp', vf', k1, k2, k3⟩
  have ap : ∀ k, k < w.heap.size → k ∉ slB g vp vf → k ∉ slB g vp' vf' := fun k hk hn e => by
    rcases k3 k e with e | e
    · exact hn e
    · omega
  refine ⟨rfl, vp', vf', k1, k3.base h2 h7.size, ⟨h3.1.mod k2 h3.2.2, h3.2.1, ap _ h3.1.lt h3.2.2⟩, ⟨h4.1.mod k2 h4.2.2, h4.2.1, ap _ h4.1.lt h4.2.2⟩, h5, fun x hx => ?_, h7.trans (k2.below h2 h7.size)⟩
  obtain ⟨x1, x2, x3⟩ := h6 x hx
  have hlt := (Array.getElem?_eq_some_iff.1 x1).1
  exact ⟨(k2.block x.1 hlt x2).trans x1, ap _ hlt x2, x3⟩
/-- A call that leaves it. -/
theorem Hc.look {f : FuncId} {args : Array Value} {P : Ending → World → Prop} (h : Hc w0 w X g bt bc room ps fr m qt qc)
    (hc : ∀ vp vf, SlA w g vp vf room ps fr → Calls Try.prog f args w fun e w' => P e w' ∧ Below w.heap.size w w') : Calls Try.prog f args w fun e w' => P e w' ∧ Hc w0 w' X g bt bc room ps fr m qt qc := by
  have hh := h
  obtain ⟨vp, vf, h1, _⟩ := h
  exact (hc vp vf h1).mono (fun e w' ⟨h1, h2⟩ => ⟨h1, hh.grow h2⟩)

theorem below_of (h7 : Below w0.heap.size w0 w) {w' : World} {b : Nat} (hb : w0.heap.size ≤ b) (k : w.grownBy w' (some b)) : Below w0.heap.size w0 w' := h7.trans ((Mod.of_some k (S := [b]) (by simp)).below (by simpa using hb) h7.size)

theorem Hc.turnT {w' : World} {m' : Nat} {qt' : List Pl} (h : Hc w0 w X g bt bc room ps fr m qt qc) (k : w.grownBy w' (some bt)) (ht : TM w' bt m' qt') : Hc w0 w' X g bt bc room ps fr m' qt' qc := by
  obtain ⟨vp, vf, h1, h2, h3, h4, h5, h6, h7⟩ := h
  have hm : Mod [bt] w w' := Mod.of_some k (by simp)
  refine ⟨vp, vf, h1.mod hm (fun k hk e => by simp at e; subst e; exact h3.2.2 hk), h2, ⟨ht, h3.2⟩, ⟨h4.1.mod hm (by simpa using Ne.symm h5), h4.2⟩, h5, fun x hx => ?_, below_of h7 h3.2.1 k⟩
  obtain ⟨x1, x2, x3, x4⟩ := h6 x hx
  exact ⟨(hm.block x.1 (Array.getElem?_eq_some_iff.1 x1).1 (by simpa using x3)).trans x1, x2, x3, x4⟩
theorem Hc.turnC {w' : World} {qc' : List Pl} (h : Hc w0 w X g bt bc room ps fr m qt qc) (k : w.grownBy w' (some bc)) (ht : CM w' bc qc') : Hc w0 w' X g bt bc room ps fr m qt qc' := by
  obtain ⟨vp, vf, h1, h2, h3, h4, h5, h6, h7⟩ := h
  have hm : Mod [bc] w w' := Mod.of_some k (by simp)
  refine ⟨vp, vf, h1.mod hm (fun k hk e => by simp at e; subst e; exact h4.2.2 hk), h2, ⟨h3.1.mod hm (by simpa using h5), h3.2⟩, ⟨ht, h4.2⟩, h5, fun x hx => ?_, below_of h7 h4.2.1 k⟩
  obtain ⟨x1, x2, x3, x4⟩ := h6 x hx
  exact ⟨(hm.block x.1 (Array.getElem?_eq_some_iff.1 x1).1 (by simpa using x4)).trans x1, x2, x3, x4⟩
end

/-- Things have three numbers each, and no count is above n. -/
structure Ps (n : Nat) (ps : List Pl) : Prop where
  ths : ∀ i, 0 < cnt ps i → ∃ z0 z1 z2 : Int, thg ps i = [Value.int .i64 z0, .int .i64 z1, .int .i64 z2]
  most : ∀ i, cnt ps i ≤ n
theorem Ps.nil : Ps 0 [] := ⟨fun i hi => by simp [cnt] at hi, fun i => by simp [cnt]⟩
theorem Ps.mono {n n' : Nat} {ps : List Pl} (h : Ps n ps) (hn : n ≤ n') : Ps n' ps := ⟨h.ths, fun i => Nat.le_trans (h.most i) hn⟩
theorem Ps.put {n i c : Nat} {ps : List Pl} (h : Ps n ps) (hi : i < ps.length) (hc : c ≤ n) (z0 z1 z2 : Int) : Ps n (ps.set i (c, [Value.int .i64 z0, .int .i64 z1, .int .i64 z2])) :=
  ⟨fun j hj => by
    rw [thg_set ps i j _ hi]
    rw [cnt_set ps i j _ hi] at hj
    split
    · exact ⟨_, _, _, rfl⟩
    · next e => rw [if_neg e] at hj; exact h.ths j hj, fun j => by
    rw [cnt_set ps i j _ hi]
    split
    · exact hc
    · exact h.most j⟩
theorem Ps.keep {n i c : Nat} {ps : List Pl} (h : Ps n ps) (hi : 0 < cnt ps i) (hc : c ≤ n) : Ps n (ps.set i (c, thg ps i)) := by
  obtain ⟨z0, z1, z2, e⟩ := h.ths i hi
  rw [e]
  exact h.put (cnt_lt hi) hc z0 z1 z2
theorem Ps.snoc {n c : Nat} {ps : List Pl} (h : Ps n ps) (hc : c ≤ n) (z0 z1 z2 : Int) : Ps n (ps ++ [(c, [Value.int .i64 z0, .int .i64 z1, .int .i64 z2])]) :=
  ⟨fun j hj => by
    rw [thg_snoc]
    rw [cnt_snoc] at hj
    split
    · exact ⟨_, _, _, rfl⟩
    · next e => rw [if_neg e] at hj; exact h.ths j hj, fun j => by
    rw [cnt_snoc]
    split
    · exact hc
    · exact h.most j⟩

theorem notVac {ps : List Pl} {x : Int} (h : ¬ Vac ps x) : ∃ i : Nat, x = (i : Int) + 1 ∧ 0 < cnt ps i := by
  apply Classical.byContradiction
  intro hn
  exact h (fun i hi => Nat.eq_zero_of_not_pos (fun hp => hn ⟨i, hi, hp⟩))
/-- Count, at every slot. -/
theorem count_anyA (g : Nat) (vp vf : Value) (room : Nat) (ps : List Pl) (fr : List Nat) (slot : Int) (w : World) (h : SlA w g vp vf room ps fr) : Calls Try.prog 18 #[.pointer (some ⟨g, 0, none⟩), .int .i64 slot] w fun e w' => e = .returned (.int .i64 (cntS ps slot : Int)) ∧ Below w.heap.size w w' := by
  by_cases hv : Vac ps slot
  · rw [cntS_vac hv]
    exact calls_sameA (count_badA g vp vf room ps fr slot w h hv)
  · obtain ⟨i, rfl, hi⟩ := notVac hv
    rw [cntS_at]
    exact calls_sameA (count_okA g vp vf room ps fr _ i w h rfl hi)

/-- Two calls that are the same. -/
theorem act_eq (z0 z1 z2 : Int) (w : World) : (Op.equalIn 10000 34 (.agg #[.int .i64 z0, .int .i64 z1, .int .i64 z2]) (.agg #[.int .i64 z0, .int .i64 z1, .int .i64 z2])).run Try.prog w = .ok true w := by
  have hf : ∃ f0 f1 f2 : Field, (Try.prog.fieldsOf 34).toList = [f0, f1, f2] ∧ (f0.name ≠ "_" ∧ f0.type = 3 ∧ f0.offset = 0) ∧ (f1.name ≠ "_" ∧ f1.type = 3 ∧ f1.offset = 1) ∧ (f2.name ≠ "_" ∧ f2.type = 3 ∧ f2.offset = 2) :=
    ⟨_, _, _, rfl, ⟨by decide, rfl, rfl⟩, ⟨by decide, rfl, rfl⟩, ⟨by decide, rfl, rfl⟩⟩
  obtain ⟨f0, f1, f2, hF, ⟨n0, t0, o0⟩, ⟨n1, t1, o1⟩, ⟨n2, t2, o2⟩⟩ := hf
  have hu : Try.prog.underlying 34 = some (.struct (Try.prog.fieldsOf 34)) := by kernel_rfl
  have ek : ∀ z, (Op.equalIn 9999 3 (.int .i64 z) (.int .i64 z)).run Try.prog w = .ok true w := fun z => by rw [run_equalIn_int (P := Try.prog) (w := w) 9998 3 .i64 .i64 z z Try.underlying3]; simp
  rw [run_equalIn_struct (P := Try.prog) (w := w) 9999 34 _ _ hu (by kernel_rfl), hF]
  have p : ∀ k (z : Int), (#[Value.int .i64 z0, .int .i64 z1, .int .i64 z2] : Array Value)[k]? = some (.int .i64 z) → (part 3 #[Value.int .i64 z0, .int .i64 z1, .int .i64 z2] k).run Try.prog w = .ok (.int .i64 z) w := by
    intro k z hz
    unfold part
    rw [Sem.run_bind, Try.isAgg3 w]
    simp [hz]
  have p0 := p 0 z0 rfl
  have p1 := p 1 z1 rfl
  have p2 := p 2 z2 rfl
  rw [Op.eqFields, if_pos n0, Op.eqFields, if_pos n1, Op.eqFields, if_pos n2, Op.eqFields]
  simp [t0, t1, t2, o0, o1, o2, p0, p1, p2, ek, Sem.run_bind]

/-- While a loop over the counts goes: the slab and the things stand. -/
def Hr (w0 w : World) (g bt bc r room : Nat) (ps : List Pl) (fr : List Nat) (m n : Nat) (D : DataW Unit) (left : Lit → Bool) (c : Nat) : Prop :=
  ∃ vp vf, SlA w g vp vf room ps fr ∧ TM w bt m ps ∧ w.ranges Try.prog 3 (plainElem Try.prog 3) bc r n D left c ∧ r ∉ slB g vp vf ∧ r ≠ bt ∧ w0.heap.size ≤ r ∧ Below w0.heap.size w0 w

/-- What the counts say. -/
def Dc (D : DataW Unit) (ps : List Pl) : Prop := (∀ i, 0 < cnt ps i → ∀ z, D.atKey (kl ((i : Int) + 1)) z = .lit (.int .i64 (cnt ps i : Int))) ∧ (∀ x, Vac ps x → Maps.has D (kl x) = false)

theorem Dc.at {D : DataW Unit} {ps : List Pl} (h : Dc D ps) {x c : Int} (hat : ∀ z, D.atKey (kl x) z = .lit (.int .i64 c)) : ∃ i : Nat, x = (i : Int) + 1 ∧ 0 < cnt ps i ∧ c = (cnt ps i : Int) := by
  have hv : ¬ Vac ps x := fun hv => by
    have h0 := h.2 x hv
    rw [Maps.has_true_of_atKey hat] at h0
    cases h0
  obtain ⟨i, rfl, hi⟩ := notVac hv
  refine ⟨i, rfl, hi, ?_⟩
  have := h.1 i hi (.lit (.int .i64 0))
  rw [hat] at this
  exact lit_inj this

theorem grown_of {w w' : World} (h : Below w.heap.size w w') : w.grownBy w' none := ⟨h.os, h.tape, h.output, h.size, fun k hk _ => h.block k hk⟩

section
variable {w0 w : World} {X : List (Nat × Obj)} {g bt bc r room m n c : Nat} {ps : List Pl} {fr : List Nat} {D : DataW Unit} {left : Lit → Bool}
theorem Hr.low (h : Hr w0 w g bt bc r room ps fr m n D left c) : Below w0.heap.size w0 w := by
  obtain ⟨_, _, _, _, _, _, _, _, h⟩ := h
  exact h
theorem Hr.rg (h : Hr w0 w g bt bc r room ps fr m n D left c) : w.ranges Try.prog 3 (plainElem Try.prog 3) bc r n D left c := by
  obtain ⟨_, _, _, _, h, _⟩ := h
  exact h
theorem Hr.tm (h : Hr w0 w g bt bc r room ps fr m n D left c) : TM w bt m ps := by
  obtain ⟨_, _, _, h, _⟩ := h
  exact h
theorem Hr.grow {w' : World} (h : Hr w0 w g bt bc r room ps fr m n D left c) (hb : Below w.heap.size w w') : Hr w0 w' g bt bc r room ps fr m n D left c := by
  obtain ⟨vp, vf, h1, h2, h3, h4, h5, h6, h7⟩ := h
  exact ⟨vp, vf, h1.mod (Mod.of_below hb []) (fun _ _ h => by cases h), h2.mod (Mod.of_below hb []) (by simp), h3.kept (grown_of hb) (by simp) (by simp), h4, h5, h6, h7.trans (hb.mono h7.size)⟩
theorem Hr.look {f : FuncId} {args : Array Value} {P : Ending → World → Prop} (h : Hr w0 w g bt bc r room ps fr m n D left c)
    (hc : ∀ vp vf, SlA w g vp vf room ps fr → Calls Try.prog f args w fun e w' => P e w' ∧ Below w.heap.size w w') : Calls Try.prog f args w fun e w' => P e w' ∧ Hr w0 w' g bt bc r room ps fr m n D left c := by
  have hh := h
  obtain ⟨vp, vf, h1, _⟩ := h
  exact (hc vp vf h1).mono (fun e w' ⟨h1, h2⟩ => ⟨h1, hh.grow h2⟩)
theorem Hr.next {w' : World} {left' : Lit → Bool} {c' : Nat} (h : Hr w0 w g bt bc r room ps fr m n D left c) (hr : w'.ranges Try.prog 3 (plainElem Try.prog 3) bc r n D left' c') (hg : w.grownBy w' (some r)) : Hr w0 w' g bt bc r room ps fr m n D left' c' := by
  obtain ⟨vp, vf, h1, h2, h3, h4, h5, h6, h7⟩ := h
  have hm : Mod [r] w w' := Mod.of_some hg (by simp)
  exact ⟨vp, vf, h1.mod hm (fun k hk e => by simp at e; subst e; exact h4 hk), h2.mod hm (by simpa using Ne.symm h5), hr, h4, h5, h6, below_of h7 h6 hg⟩
theorem Hr.start {w' : World} {left' : Lit → Bool} {c' : Nat} (h : Hc w0 w X g bt bc room ps fr m ps ps) (hr : w'.ranges Try.prog 3 (plainElem Try.prog 3) bc w.heap.size n D left' c') (hg : w.grownBy w' none) : Hr w0 w' g bt bc w.heap.size room ps fr m n D left' c' := by
  obtain ⟨vp, vf, h1, h2, h3, h4, h5, h6, h7⟩ := h
  have hb : Below w.heap.size w w' := ⟨hg.os, hg.tape, hg.output, hg.size, fun k hk => hg.block k hk (by simp)⟩
  exact ⟨vp, vf, h1.mod (Mod.of_below hb []) (fun _ _ h => by cases h), h3.1.mod (Mod.of_below hb []) (by simp), hr, fun e => Nat.lt_irrefl _ (h1.lts _ e), fun e => Nat.lt_irrefl bt (e ▸ h3.1.lt), h7.size, h7.trans (hb.mono h7.size)⟩
end

end Go.Proofs.Ytodigmmpodbpiaa
