/- Lists of writes that came in, lists of writes of the call's own; slices.Clone of them. -/
import Derived.Test.YtagkmfgoahbclaaBo20
import Derived.Test.YtagkmfgoahbclaaBo21
import Derived.Test.YtagkmfgoahbclaaBo07
import Derived.Test.YtagkmfgoahbclaaBo16
import Derived.Deep.Strs
namespace Go.Proofs.Ytagkmfgoahbclaa
set_option maxRecDepth 20000
open Go.RowKit

/-- A slice of writes, wherever it lies. -/
def WrAt (w : World) (v : Value) (ls : List Wt) : Prop :=
  ∃ a cap, v = .slice a ls.length cap ∧ ls.length ≤ cap ∧ (a = none → cap = 0) ∧ (0 < ls.length → ∃ g off, a = some ⟨g, off, none⟩ ∧ ∀ i, i < ls.length → w.rangeAt g (off + i * 34) (encW ls[i]!)) ∧
    (∀ x ∈ ls, WtOk x) ∧ ∀ x ∈ ls, Reads w x.v x.b

theorem WrAt.grow {w w' : World} {v : Value} {ls : List Wt} (h : WrAt w v ls) (hb : Below w.heap.size w w') : WrAt w' v ls := by
  obtain ⟨a, cap, e, h1, h2, h3, h4, h6⟩ := h
  refine ⟨a, cap, e, h1, h2, fun hp => ?_, h4, fun x hx => (h6 x hx).grow hb⟩
  obtain ⟨g, off, ea, hr⟩ := h3 hp
  exact ⟨g, off, ea, fun i hi => rngW_grow (hr i hi) hb⟩
theorem WrAt.ok {w : World} {v : Value} {ls : List Wt} (h : WrAt w v ls) : ∀ x ∈ ls, WtOk x := by
  obtain ⟨a, cap, e, h1, h2, h3, h4, h6⟩ := h
  exact h4
theorem WrAt.reads {w : World} {v : Value} {ls : List Wt} (h : WrAt w v ls) : ∀ x ∈ ls, Reads w x.v x.b := by
  obtain ⟨a, cap, e, h1, h2, h3, h4, h6⟩ := h
  exact h6
theorem WrAt.cells {w : World} {a : Addr} {n c : Nat} {ls : List Wt} (h : WrAt w (.slice (some a) n c) ls) : ∀ j u, (flatE encW ls)[j]? = some u → w.cell? (a.add j) = some u := by
  obtain ⟨a', cap, e, h1, h2, h3, h4, h6⟩ := h
  intro j u hu
  have hl : ∀ x ∈ ls, (encW x).length = 34 := fun x hx => (h4 x hx).len
  have hj : j < ls.length * 34 := by rw [← flatE_len ls hl]; exact (List.getElem?_eq_some_iff.1 hu).1
  obtain ⟨g, off, ea, hr⟩ := h3 (by omega)
  injection e with e1 _ _
  rw [ea] at e1
  injection e1 with e1
  subst e1
  have hi : j / 34 < ls.length := by omega
  have h7 := hr (j / 34) hi
  rw [getElem!_pos ls _ hi] at h7
  have hlt : j % 34 < (encW ls[j / 34]).length := by rw [hl _ (List.getElem_mem hi)]; omega
  have h8 := flatE_at ls hl (j / 34) hi (j % 34) _ (List.getElem?_eq_getElem hlt)
  rw [show j / 34 * 34 + j % 34 = j by omega, hu] at h8
  rw [Addr.add_lit, show off + j = off + j / 34 * 34 + j % 34 by omega]
  refine h7 (j % 34) u ?_
  rw [List.getElem?_eq_getElem hlt]
  exact h8.symm
/-- A list of the call's own reads as its writes. -/
theorem wrAt_own {w : World} {v : Value} {ls : List Wt} (h : Lst w 37 34 v ls.length (flatE encW ls)) (hok : ∀ x ∈ ls, WtOk x) (hr : ∀ x ∈ ls, Reads w x.v x.b) : WrAt w v ls := by
  rcases h.2 with ⟨rfl, hn⟩ | ⟨g, cap, cur, rfl, hb, hg, hc, _, _, _⟩
  · exact ⟨none, 0, by rw [hn], by omega, fun _ => rfl, fun hp => by omega, hok, hr⟩
  · refine ⟨_, cap, rfl, hc, fun e => (by cases e), fun hp => ⟨g, 0, rfl, fun i hi => ?_⟩, hok, hr⟩
    rw [Nat.zero_add, getElem!_pos ls i hi]
    exact (lstE_range h rfl (fun x hx => (hok x hx).len) i hi).1

def zW : Wt := ⟨z32, false, [], .slice none 0 0⟩
theorem zW_ok : WtOk zW := ⟨⟨rfl, fun z hz => by have := List.eq_of_mem_replicate hz; omega⟩, Bytes.nil, none, 0, rfl⟩

theorem zero_write : ∀ w, (zeroValue 37).run Try.prog w = .ok (.agg (encW zW).toArray) w := zero_of_info (n := 34) (by kernel_rfl) |>.1

/-- []api.Write{}. -/
theorem wpList_bs0w {ops : Array Oper} {rest : List Oper} {op : Oper} {a : Act} {Q : Exit → Act → World → Prop} (w : World) (hgd : op.guard = none) (ho : op.op = .buildSlice 23 0 #[])
    (hk : ∀ w' g, w.heap.size ≤ g → Lst w' 37 34 (.slice (some ⟨g, 0, none⟩) 0 0) 0 [] → Below w.heap.size w w' → wpList Try.prog ops Q rest (a.put op.dst (.slice (some ⟨g, 0, none⟩) 0 0)) w') : wpList Try.prog ops Q (op :: rest) a w := by
  refine wpList_plain hgd fun K hK => ?_
  obtain ⟨i, z, hi, hz, hs, _, hzs⟩ := info_write
  have ht : Try.prog.underlying 23 = some (.slice 37) := Try.underlying23
  have hrun : (Instr.buildSlice 23 0 #[]).run Try.prog w = .ok (.slice (some ⟨w.heap.size, 0, none⟩) 0 0) (w.alloc (.cells #[] 37)) := by
    have he : ∀ f : Nat → Value, Array.map f (Array.range 0) = #[] := fun f => Array.eq_empty_of_size_eq_zero (by simp)
    simp [Instr.buildSlice, run_underlying ht, sizeOf, typeInfo, hi, Instr.fill, newRow, he]
  unfold Oper.wp execOp
  simp only [ho, List.map_toArray, List.map_nil, Sem.run_bind, hrun, Result.andThen_ok, Sem.run_pure]
  refine hK _ _ (hk _ w.heap.size (Nat.le_refl _) ⟨rfl, .inr ⟨w.heap.size, 0, #[], rfl, Nat.zero_le _, Blk.new _ _ _, Nat.le_refl _, by simp only [maxLen]; omega, rfl, rfl⟩⟩ (grow_alloc w _))

theorem run_appWs (ty : TypeId) (w : World) (v1 v2 : Value) (n1 : Nat) (xs1 : List Value) (ls : List Wt) (h1 : Lst w 37 34 v1 n1 xs1) (h2 : WrAt w v2 ls) (hn : n1 + ls.length ≤ 65536) :
    ∃ v' w', (Builtin.append_ #[23, 23] ty #[v1, v2]).run Try.prog w = .ok v' w' ∧ Lst w' 37 34 v' (n1 + ls.length) (xs1 ++ flatE encW ls) ∧ w.grownBy w' v1.ownBlock ∧ WhereL w v1 v' := by
  obtain ⟨i, z, hi, hz, hsz, hby, hzs⟩ := info_write
  have hl : ∀ x ∈ ls, (encW x).length = 34 := fun x hx => (h2.ok x hx).len
  have h0 : ls = [] → ∃ v' w', (Builtin.append_ #[23, 23] ty #[v1, v2]).run Try.prog w = .ok v' w' ∧ Lst w' 37 34 v' (n1 + ls.length) (xs1 ++ flatE encW ls) ∧ w.grownBy w' v1.ownBlock ∧ WhereL w v1 v' := fun e => by
    subst e
    obtain ⟨a, cap, rfl, _⟩ := h2
    refine ⟨v1, w, ?_, by simpa [flatE] using h1, World.grownBy.refl _ _, .inl rfl⟩
    have ht : Try.prog.underlying 23 = some (.slice 37) := Try.underlying23
    rcases h1.2 with ⟨rfl, rfl⟩ | ⟨g, cap, cur, rfl, hb, hg, hnc, hcm, hcs, htk⟩
    · cases a with
      | none => simp [Builtin.append_, run_underlying ht, sizeOf, typeInfo, hi, Builtin.lenOf, Builtin.firstCells]
      | some a => simp [Builtin.append_, run_underlying ht, sizeOf, typeInfo, hi, Builtin.lenOf, Builtin.firstCells, loadCells, loadCellsFrom]
    · cases a with
      | none => simp [Builtin.append_, run_underlying ht, sizeOf, typeInfo, hi, Builtin.lenOf, Builtin.firstCells, hnc, storeCells]
      | some a => simp [Builtin.append_, run_underlying ht, sizeOf, typeInfo, hi, Builtin.lenOf, Builtin.firstCells, loadCells, loadCellsFrom, hnc, storeCells]
  by_cases e : ls = []
  · exact h0 e
  · have hp : 0 < ls.length := List.length_pos_iff.2 e
    obtain ⟨a, cap, rfl, q1, q2, q3, q4⟩ := id h2
    obtain ⟨g, off, rfl, _⟩ := q3 hp
    exact run_appL (P := Try.prog) w 23 ty 37 i z 34 64 Try.underlying23 hi hz hsz hby hzs (by omega) v1 n1 xs1 h1 ⟨g, off, none⟩ ls.length cap (flatE encW ls) (flatE_len ls hl) h2.cells (flatE_one ls fun x hx => (h2.ok x hx).one) hp (by simp only [maxLen]; omega) (by omega)

/-- append of writes to writes. -/
theorem wpList_appWs {ops : Array Oper} {rest : List Oper} {o : Oper} {a : Act} {Q : Exit → Act → World → Prop} (w : World) (hgd : o.guard = none) (s x : Operand)
    (hop : o.op = .call { callee := .builtin .append, args := #[s, x], argTypes := #[23, 23] })
    (v1 v2 : Value) (n1 : Nat) (xs1 : List Value) (ls : List Wt) (hs : a.eval s = v1) (hx : a.eval x = v2) (h1 : Lst w 37 34 v1 n1 xs1) (h2 : WrAt w v2 ls) (hn : n1 + ls.length ≤ 65536)
    (hk : ∀ v' w', Lst w' 37 34 v' (n1 + ls.length) (xs1 ++ flatE encW ls) → w.grownBy w' v1.ownBlock → WhereL w v1 v' → wpList Try.prog ops Q rest (a.put o.dst v') w') : wpList Try.prog ops Q (o :: rest) a w := by
  refine wpList_plain hgd fun K hK => ?_
  obtain ⟨v', w', hr, q1, q2, q3⟩ := run_appWs o.type w v1 v2 n1 xs1 ls h1 h2 hn
  unfold Oper.wp execOp
  simp only [hop, resolve, invoke, builtin, Sem.run_bind, Sem.run_pure, Result.andThen_ok, List.map_toArray, List.map_cons, List.map_nil, hs, hx, hr]
  exact hK _ _ (hk v' w' q1 q2 q3)

/-- []api.Write{x}. -/
theorem wpList_bsw {ops : Array Oper} {rest : List Oper} {op : Oper} {a : Act} {Q : Exit → Act → World → Prop} (w : World) (hgd : op.guard = none) (x : Operand) (ho : op.op = .buildSlice 23 1 #[(0, x)])
    (X : Wt) (hx : a.eval x = .agg (encW X).toArray) (hl : (encW X).length = 34)
    (hk : ∀ w' g, w.heap.size ≤ g → Blk w' g 37 (encW X).toArray → Below w.heap.size w w' → wpList Try.prog ops Q rest (a.put op.dst (.slice (some ⟨g, 0, none⟩) 1 1)) w') : wpList Try.prog ops Q (op :: rest) a w := by
  refine wpList_plain hgd fun K hK => ?_
  obtain ⟨i, z, hi, hz, hs, _, hzs⟩ := info_write
  have hrun := run_buildSlice (P := Try.prog) w 23 37 1 #[(0, .agg (encW X).toArray)] (encW X).toArray i z Try.underlying23 hi hz (by rw [hs]; omega) (by rw [hs]; omega) (by
    rw [hs]
    obtain ⟨zs, hzz, hzl⟩ : ∃ zs : List Value, (Array.range (1 * 34)).map (z.cells[· % z.cells.size]!) = zs.toArray ∧ zs.length = 34 := ⟨_, (Array.toArray_toList).symm, by simp⟩
    rw [hzz]
    have := fill_one (fun i => some (i * 34, 34)) 0 0 34 (.agg (encW X).toArray) (encW X) zs [] rfl rfl hl (by omega)
    rw [show (#[(0, Value.agg (encW X).toArray)] : Array (Nat × Value)).toList = [(0, Value.agg (encW X).toArray)] from rfl, this, Instr.fill]
    simp [hzl])
  unfold Oper.wp execOp
  simp only [ho, List.map_toArray, List.map_cons, List.map_nil, hx, Sem.run_bind, hrun, Result.andThen_ok, Sem.run_pure]
  exact hK _ _ (hk _ w.heap.size (Nat.le_refl _) (Blk.new w _ _) (grow_alloc w _))

end Go.Proofs.Ytagkmfgoahbclaa

/- What an argument is in memory that is a list of writes, with the reach's bound. -/
namespace Go.Proofs.Ytagkmfgoahbclaa
set_option maxRecDepth 20000
open Go.ChangeShapes Go.WideShapes Go.ChangeAt Go.RowKit

theorem cells_write : Try.prog.cellsOf 37 = 34 := by kernel_rfl
theorem cells_bool1 : Try.prog.cellsOf 4 = 1 := by kernel_rfl
theorem bytesOf_write : Try.prog.bytesOf 37 = 64 := by kernel_rfl

/-- The cells of a write that came in. -/
theorem trod_write {H : Type} {enc : TypeId × Value → H} {W : World} {fuel : Nat} {cs : List Value} {x : DataW H × List MemPlace} (h : DataW.trod enc Try.prog W 0 (fun _ => true) true fuel 37 cs = some x)
    (hw : ∀ m ∈ x.1.weights Try.prog 37, m ≤ reachBytes) :
    ∃ e : Wt, cs = encW e ∧ WtOk e ∧ Reads W e.v e.b ∧ e.b.length ≤ 140737488355328 - 4096 := by
  have hF : ∃ f0 f1 f2 : Field, Try.prog.underlying 37 = some (.struct #[f0, f1, f2]) ∧ (f0.type = 34 ∧ f0.offset = 0) ∧ (f1.type = 4 ∧ f1.offset = 32) ∧ (f2.type = 35 ∧ f2.offset = 33) := ⟨_, _, _, Try.underlying37, ⟨rfl, rfl⟩, ⟨rfl, rfl⟩, ⟨rfl, rfl⟩⟩
  obtain ⟨f0, f1, f2, hu, ⟨t0, o0⟩, ⟨t1, o1⟩, ⟨t2, o2⟩⟩ := hF
  obtain ⟨y0, y1, y2, n, hx, hl, e0, e1, e2⟩ := Go.Deep.trod_struct3 hu h
  rw [t0, o0, cells_path] at e0
  rw [t1, o1, cells_bool1] at e1
  rw [t2, o2, cells_slc] at e2
  rw [cells_write] at hl
  obtain ⟨K, lk, ek, bk⟩ := trod_u8s Try.underlying34 cells_path e0
  obtain ⟨g, hg, _⟩ := DataW.trod_bool Try.underlying4 e1
  obtain ⟨u, hu1⟩ : ∃ u, (cs.drop 33).take 1 = [u] := by
    match hd : cs.drop 33, (show (cs.drop 33).length = 1 by simp [hl]) with
    | [u], _ => exact ⟨u, rfl⟩
  rw [hu1] at e2
  have hsz2 : (DataW.weightsEach Try.prog [34, 4, 35] [y0.1, y1.1, y2.1]).all (· ≤ reachBytes) = true := by
    rw [List.all_eq_true]
    intro m hm
    rw [decide_eq_true_iff]
    refine hw m ?_
    rw [hx]
    simp only [DataW.weights, hu]
    rw [show (#[f0, f1, f2] : Array Field).toList.map (·.type) = [34, 4, 35] by simp [t0, t1, t2]]
    exact hm
  obtain ⟨zs, r1, l1⟩ := trod_sized (d := y2.1) (p := y2.2) e2 hsz2 2 rfl rfl
  have hb : Bytes zs := by obtain ⟨_, _, _, _, _, hb, _⟩ := r1; exact hb
  have hv : ∃ a c, u = .slice a zs.length c := by obtain ⟨a, c, e, _⟩ := r1; exact ⟨a, c, e⟩
  refine ⟨⟨K, g, zs, u⟩, ?_, ⟨⟨lk, bk⟩, hb, hv⟩, r1, l1⟩
  have s2 : (cs.drop 33).take 1 = cs.drop 33 := List.take_of_length_le (by simp [hl])
  have s1 : cs.drop 32 = (cs.drop 32).take 1 ++ cs.drop 33 := by
    conv => lhs; rw [← List.take_append_drop 1 (cs.drop 32)]
    rw [List.drop_drop]
  have s0 : cs = cs.take 32 ++ cs.drop 32 := (List.take_append_drop 32 cs).symm
  have e3 : cs.take 32 = K.map (Value.int .u8) := by simpa using ek
  rw [s0, s1, hg, ← s2, hu1, e3]
  rfl

theorem arg_writes {H : Type} {enc : TypeId × Value → H} {W : World} {base : Nat} {v : Value} {d : DataW H} {p : List MemPlace} (hv : Value.okWide Try.prog W .any base 23 v)
    (h : DataW.Trod enc Try.prog W 0 (fun _ => true) true 23 v d p) {ts : List TypeId} {ds : List (DataW H)} (hsz : (DataW.weightsEach Try.prog ts ds).all (· ≤ reachBytes) = true) (j : Nat) (ht : ts[j]? = some 23) (hd : ds[j]? = some d) :
    ∃ ls, WrAt W v ls ∧ ls.length * 64 ≤ 140737488355328 - 4096 ∧ ∀ x ∈ ls, x.b.length ≤ 140737488355328 - 4096 := by
  obtain ⟨a, len, cap, rfl⟩ := okWide_slice Try.underlying23 hv
  obtain ⟨fuel, hf⟩ := h
  rcases Go.Deep.open_slice Try.underlying23 hf with ⟨hcs, hx⟩ | ⟨x, l, c, m, n, D, Pl, hcs, _, hl, hm, hmm, hx, hcell⟩
  · simp [Value.cells] at hcs
    obtain ⟨rfl, rfl, rfl⟩ := hcs
    exact ⟨[], ⟨none, 0, rfl, by simp, fun _ => rfl, fun h => by simp at h, fun i hi => by simp at hi, fun i hi => by simp at hi⟩, by simp, fun i hi => by simp at hi⟩
  · simp [Value.cells] at hcs
    obtain ⟨rfl, rfl, rfl⟩ := hcs
    simp at hmm
    simp only [Prod.mk.injEq] at hx
    have hs := sized_slice hsz ht (by rw [hd, hx.1]) Try.underlying23
    rw [bytesOf_write] at hs
    simp only [List.length_map, List.length_range, reachBytes] at hs
    have hwt : ∀ i, i < len → ∀ q ∈ (D i).weights Try.prog 37, q ≤ reachBytes := by
      intro i hi q hq
      have h1 := List.all_eq_true.1 hsz q (DataW.weights_mem_each ht hd q (by
        rw [hx.1]
        simp only [DataW.weights, Try.underlying23, List.mem_cons, List.mem_append]
        exact .inr (.inl (weights_all hq _ (List.mem_map.2 ⟨i, List.mem_range.2 hi, rfl⟩)))))
      simpa using h1
    have each : ∀ i, i < len → ∃ q : Wt, (∀ k u, (encW q)[k]? = some u → W.cell? (x.add (i * 34 + k)) = some u) ∧ WtOk q ∧ Reads W q.v q.b ∧ q.b.length ≤ 140737488355328 - 4096 := by
      intro i hi
      obtain ⟨cs', h1, h2⟩ := hcell i (by omega)
      rw [cells_write] at h1
      obtain ⟨_, hlen, hc⟩ := World.cells?_some h1
      obtain ⟨e, rfl, hk, hr, hl2⟩ := trod_write h2 (hwt i hi)
      refine ⟨e, fun k w hw => ?_, hk, hr, hl2⟩
      have hk2 := (List.getElem?_eq_some_iff.1 hw).1
      have hk3 : k < 34 := by rw [← hlen]; exact hk2
      have h3 := hc k hk3
      rw [Go.Deep.add_add] at h3
      rw [h3]
      exact hw
    obtain ⟨q, hq⟩ := Go.Deep.choose_lt each
    have hget : ∀ i, i < len → ((List.range len).map q)[i]! = q i := fun i hi => by rw [getElem!_pos _ i (by simpa using hi)]; simp
    have hmem : ∀ z ∈ (List.range len).map q, ∃ i, i < len ∧ q i = z := fun z hz => by
      obtain ⟨i, hi, e⟩ := List.mem_map.1 hz
      exact ⟨i, List.mem_range.1 hi, e⟩
    refine ⟨(List.range len).map q, ⟨some x, cap, by simp, by simp; omega, fun e => (by cases e), fun hp => ?_, fun z hz => ?_, fun z hz => ?_⟩, by simp; omega, fun z hz => ?_⟩
    · simp only [List.length_map, List.length_range] at hp
      obtain ⟨b, off, spot⟩ := x
      have hspot : spot = none := by
        have hlen := (hq 0 hp).2.1.len
        have := World.cell?_spot ((hq 0 hp).1 0 _ (List.getElem?_eq_getElem (by omega)))
        simpa [Addr.add] using this
      subst hspot
      refine ⟨b, off, rfl, fun i hi k u hu => ?_⟩
      simp only [List.length_map, List.length_range] at hi
      rw [hget i hi] at hu
      have := (hq i hi).1 k u hu
      rw [Addr.add_lit] at this
      rw [Nat.add_assoc]
      exact this
    · obtain ⟨i, hi, rfl⟩ := hmem z hz
      exact (hq i hi).2.1
    · obtain ⟨i, hi, rfl⟩ := hmem z hz
      exact (hq i hi).2.2.1
    · obtain ⟨i, hi, rfl⟩ := hmem z hz
      exact (hq i hi).2.2.2

end Go.Proofs.Ytagkmfgoahbclaa
