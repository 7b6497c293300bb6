/- More on byte slices: the built-ins make and copy, and the conversion to a string, as laws for a walk. -/
import Derived.Test.YtjcklpdifanjlaaDoorOr02
import Derived.Laws.CopyOwn
import Derived.Test.YtjcklpdifanjlaaDoorOr01
import Derived.Deep.MidRow
import Derived.Deep.WholeRow
namespace Go.Proofs.YtjcklpdifanjlaaDoor
set_option maxRecDepth 20000
open Go.RowKit

theorem made_bytes (n : Nat) : madeCells (Value.cells (.int .u8 0)) n = B (List.replicate n 0) := by
  apply Array.ext'
  have h := toList_madeCells_one (.int .u8 0) n
  simp only [Value.cells] at *
  rw [h, B_toList]
  simp

theorem size_byte : (Tryd.prog.info? 5).map (·.size) = some 1 := by kernel_rfl

/-- make([]byte, l, c). -/
theorem wpList_mk {ops : Array Oper} {rest : List Oper} {o : Oper} {a : Act} {Q : Exit → Act → World → Prop} (w : World) (hgd : o.guard = none) (x y : Operand)
    (hop : o.op = Op.makeSlice 28 x y) (kl kc : IntKind) (L C : Int) (l c : Nat) (hx : a.eval x = .int kl L) (hy : a.eval y = .int kc C) (hL : L = (l : Int)) (hC : C = (c : Int)) (hlc : l ≤ c) (hc : c ≤ 281474976710656)
    (h : ∀ w', Row w' w.heap.size (List.replicate c 0) → Below w.heap.size w w' → w'.heap.size = w.heap.size + 1 → wpList Tryd.prog ops Q rest (a.put o.dst (.slice (some ⟨w.heap.size, 0, none⟩) l c)) w') :
    wpList Tryd.prog ops Q (o :: rest) a w := by
  refine wpList_plain hgd fun K hK => ?_
  obtain ⟨i, hi, hz, hs, hby⟩ := info_parts info_byte
  subst hL
  subst hC
  have hr := run_make (P := Tryd.prog) w 28 5 i _ u_bytes hi hz kl kc l c (by omega) (by omega) (by rw [hby]; omega) (by omega)
  rw [hs, Nat.mul_one, made_bytes] at hr
  simp only [Int.toNat_natCast] at hr
  unfold Oper.wp
  simp [execOp, hop, hx, hy, hr, Result.andThen]
  exact hK _ _ (h _ (heap_alloc_new w _) (grow_alloc w _) (by simp))

/-- copy(dst, src), dst in a row that is known whole. -/
theorem wpList_cp {ops : Array Oper} {rest : List Oper} {o : Oper} {a : Act} {Q : Exit → Act → World → Prop} (w : World) (hgd : o.guard = none) (d s : Operand)
    (hop : o.op = .call { callee := .builtin .copy, args := #[d, s], argTypes := #[28, 28] })
    (g off dl dc : Nat) (xs ys : List Int) (sv : Value) (hr : Row w g xs) (hs : Reads w sv ys) (hd : a.eval d = .slice (some ⟨g, off, none⟩) dl dc) (hx : a.eval s = sv) (hfit : off + dl ≤ xs.length)
    (h : ∀ w', Row w' g (xs.take off ++ ys.take dl ++ xs.drop (off + min ys.length dl)) → w.grownBy w' (some g) → w'.heap.size = w.heap.size → wpList Tryd.prog ops Q rest (a.put o.dst (.int .i64 (min ys.length dl : Nat))) w') :
    wpList Tryd.prog ops Q (o :: rest) a w := by
  have hs' := hs
  obtain ⟨sa, sc, rfl, h1, h2, h3, h4⟩ := hs'
  by_cases h0 : Nat.min ys.length dl = 0
  · refine wpList_copy_nothing hgd d s _ _ hop 5 u_bytes size_byte _ _ _ _ _ _ hd hx h0 ?_
    have e : xs.take off ++ ys.take dl ++ xs.drop (off + min ys.length dl) = xs := by
      have h0' : min ys.length dl = 0 := h0
      have : ys.take dl = [] := by
        apply List.eq_nil_of_length_eq_zero
        rw [List.length_take, Nat.min_comm]
        exact h0'
      rw [this, h0']; simp
    have h0' : min ys.length dl = 0 := h0
    have := h w (by rw [e]; exact hr) (World.grownBy.refl _ _) rfl
    rw [h0'] at this
    exact this
  · have hpos : 0 < ys.length := by
      have : Nat.min ys.length dl ≤ ys.length := Nat.min_le_left _ _
      omega
    obtain ⟨b, o', rfl, hc⟩ := h4 hpos
    have hmin : min ys.length dl ≤ dl := Nat.min_le_right _ _
    have hlen : ((ys.take dl).map (Value.int .u8)).length = Nat.min ys.length dl := by
      have : min dl ys.length = Nat.min ys.length dl := Nat.min_comm _ _
      simpa using this
    refine wpList_copy_own hgd d s _ _ hop 5 u_bytes size_byte g off dl dc ⟨b, o', none⟩ ys.length sc hd hx (B xs) _ hr ((ys.take dl).map (Value.int .u8)) hlen ?_ ?_ (ints_oneCell .u8 _) ?_
    · intro j v hv
      refine (hs.cells rfl).2 j v ?_
      have hj := (List.getElem?_eq_some_iff.1 hv).1
      rw [hlen] at hj
      have hj' : j < dl := Nat.lt_of_lt_of_le hj hmin
      rw [List.map_take, List.getElem?_take, if_pos hj'] at hv
      exact hv
    · rw [B_size, hlen]
      have : Nat.min ys.length dl = min ys.length dl := rfl
      omega
    · rw [hlen]
      refine h _ ?_ ⟨rfl, rfl, rfl, by simp, fun k _ hk => setRow_other w g k _ (fun e => hk (by simp [e]))⟩ (by simp)
      unfold Row
      rw [setRow_heap w g _ _ _ _ hr]
      congr 2
      have : Nat.min ys.length dl = min ys.length dl := rfl
      rw [this]
      simp [B, List.append_assoc]

/-- copy(dst, src) where dst is not too short. -/
theorem wpList_cpw {ops : Array Oper} {rest : List Oper} {o : Oper} {a : Act} {Q : Exit → Act → World → Prop} (w : World) (hgd : o.guard = none) (d s : Operand)
    (hop : o.op = .call { callee := .builtin .copy, args := #[d, s], argTypes := #[28, 28] })
    (g off dl dc n : Nat) (xs ys : List Int) (sv : Value) (hr : Row w g xs) (hs : Reads w sv ys) (hd : a.eval d = .slice (some ⟨g, off, none⟩) dl dc) (hx : a.eval s = sv) (hfit : off + dl ≤ xs.length) (hn : ys.length = n) (hle : n ≤ dl)
    (h : ∀ w', Row w' g (xs.take off ++ ys ++ xs.drop (off + n)) → w.grownBy w' (some g) → w'.heap.size = w.heap.size → wpList Tryd.prog ops Q rest (a.put o.dst (.int .i64 n)) w') :
    wpList Tryd.prog ops Q (o :: rest) a w := by
  subst hn
  refine wpList_cp w hgd d s hop g off dl dc xs ys sv hr hs hd hx hfit ?_
  rw [List.take_of_length_le hle, Nat.min_eq_left hle]
  exact h

theorem B_set (zs : List Int) (i : Nat) (z : Int) : (B zs).setIfInBounds i (.int .u8 z) = B (zs.set i z) := by
  apply Array.ext'
  simp [B, List.map_set]

theorem Row.set {w : World} {g : Nat} {zs : List Int} (h : Row w g zs) (i : Nat) (z : Int) : Row (w.setCell ⟨g, i, none⟩ (.int .u8 z)) g (zs.set i z) := by
  unfold Row
  rw [heap_setCell_same w g i _ _ _ h, B_set]

/-- string(v). -/
theorem conv_reads {w : World} {v : Value} {zs : List Int} (h : Reads w v zs) : (convert 28 9 v).run Tryd.prog w = .ok (.string (strOfNums zs)) w := by
  obtain ⟨a, c, rfl, h1, h2, h3, h4⟩ := h
  by_cases hz : zs = []
  · subst hz
    cases a with
    | none => exact run_convert_bytes_nil w _ _ u_bytes u_byte _ _ _ u_string
    | some x =>
      rw [run_convert_bytes_string w _ _ _ _ _ c u_bytes u_byte u_string, run_bytesToString w _ _ c [] (by simpa using run_loadCells_list (P := Tryd.prog) w x [] (by simp))]
      rfl
  · obtain ⟨b, off, rfl, hc⟩ := h4 (List.length_pos_iff.2 hz)
    exact run_convert_bytes_arg w _ _ u_bytes u_byte b off _ c zs rfl hc _ u_string

theorem str_beq (xs ys : List Int) (hx : Bytes xs) (hy : Bytes ys) : ((strOfNums xs).toList == (strOfNums ys).toList) = decide (xs = ys) := by
  rw [ByteArray.toList_eq, ByteArray.toList_eq, strOfNums_data, strOfNums_data]
  rw [Bool.eq_iff_iff]
  simp only [beq_iff_eq, decide_eq_true_eq]
  constructor
  · intro h
    have key : ∀ (l : List Int), Bytes l → (l.map fun n => UInt8.ofNat n.toNat).map (fun u => (u.toNat : Int)) = l := by
      intro l hl
      rw [List.map_map]
      conv => rhs; rw [← List.map_id l]
      apply List.map_congr_left
      intro z hz
      have := hl z hz
      simp only [Function.comp, id_eq, UInt8.toNat_ofNat']
      omega
    rw [← key xs hx, ← key ys hy, h]
  · rintro rfl; rfl

end Go.Proofs.YtjcklpdifanjlaaDoor

/- Arrays of words in memory: blocks whose cells are known whole. -/
namespace Go.Proofs.YtjcklpdifanjlaaDoor
set_option maxRecDepth 20000
open Go.RowKit

def U (zs : List Int) : Array Value := (zs.map (Value.int .u32)).toArray
theorem U_size (zs : List Int) : (U zs).size = zs.length := by simp [U]
theorem U_get (zs : List Int) (i : Nat) (h : i < zs.length) : (U zs)[i]? = some (.int .u32 (zs.getD i 0)) := by simp [U, List.getD, h]
theorem U_toList (zs : List Int) : (U zs).toList = zs.map (Value.int .u32) := by simp [U]
theorem U_set (zs : List Int) (i : Nat) (z : Int) : (U zs).setIfInBounds i (.int .u32 z) = U (zs.set i z) := by
  apply Array.ext'
  simp [U, List.map_set]
theorem U_one (zs : List Int) : (U zs).all (·.oneCell') = true := Array.all_eq_true_iff_forall_mem.2 (fun v hv => by
  simp only [U, List.mem_toArray, List.mem_map] at hv
  obtain ⟨z, _, rfl⟩ := hv
  rfl)
theorem B_one (zs : List Int) : (B zs).all (·.oneCell') = true := Array.all_eq_true_iff_forall_mem.2 (fun v hv => by
  simp only [B, List.mem_toArray, List.mem_map] at hv
  obtain ⟨z, _, rfl⟩ := hv
  rfl)

/-- Block g holds just these cells. -/
def Blk (w : World) (g : Nat) (t : TypeId) (cs : Array Value) : Prop := w.heap[g]? = some (.cells cs t (0, 0))
theorem Blk.lt {w : World} {g : Nat} {t : TypeId} {cs : Array Value} (h : Blk w g t cs) : g < w.heap.size := (Array.getElem?_eq_some_iff.1 h).1
theorem Blk.of_block {w w' : World} {g : Nat} {t : TypeId} {cs : Array Value} (h : Blk w g t cs) (k : w'.heap[g]? = w.heap[g]?) : Blk w' g t cs := by unfold Blk at *; rw [k]; exact h
theorem Blk.grow {w w' : World} {g : Nat} {t : TypeId} {cs : Array Value} (h : Blk w g t cs) (hb : Below w.heap.size w w') : Blk w' g t cs := h.of_block (hb.block g h.lt)
theorem Blk.cell {w : World} {g : Nat} {t : TypeId} {cs : Array Value} (h : Blk w g t cs) (i : Nat) : w.cell? ⟨g, i, none⟩ = cs[i]? := cell_of_row w g i _ _ _ h
theorem Blk.frozen {w : World} {g : Nat} {t : TypeId} {cs : Array Value} (h : Blk w g t cs) (i : Nat) : w.frozen? ⟨g, i, none⟩ = false := frozen_of_row w g i _ _ h
theorem Blk.set {w : World} {g : Nat} {t : TypeId} {cs : Array Value} (h : Blk w g t cs) (i : Nat) (v : Value) : Blk (w.setCell ⟨g, i, none⟩ v) g t (cs.setIfInBounds i v) := by
  unfold Blk
  rw [heap_setCell_same w g i _ _ _ h]
theorem Blk.other {w : World} {g g' : Nat} {t : TypeId} {cs : Array Value} (h : Blk w g t cs) (i : Nat) (v : Value) (hne : g ≠ g') : Blk (w.setCell ⟨g', i, none⟩ v) g t cs := by
  unfold Blk
  rw [heap_setCell_other w ⟨g', i, none⟩ g v (fun e => hne e)]
  exact h
theorem Blk.new (w : World) (t : TypeId) (cs : Array Value) : Blk (w.alloc (.cells cs t)) w.heap.size t cs := heap_alloc_new w _
theorem Blk.wcell {w : World} {g : Nat} {t : TypeId} {zs : List Int} (h : Blk w g t (U zs)) (i : Nat) (hi : i < zs.length) : w.cell? ⟨g, i, none⟩ = some (.int .u32 (zs.getD i 0)) := by
  rw [h.cell, U_get zs i hi]
theorem Blk.bcell {w : World} {g : Nat} {t : TypeId} {zs : List Int} (h : Blk w g t (B zs)) (i : Nat) (hi : i < zs.length) : w.cell? ⟨g, i, none⟩ = some (.int .u8 (zs.getD i 0)) := by
  rw [h.cell, B_get zs i hi]
theorem Blk.drew {w : World} {g : Nat} {t : TypeId} {cs : Array Value} (h : Blk w g t cs) : Blk w.drew g t cs := h

/-- A whole array out of its block. -/
theorem Blk.load {w : World} {g : Nat} {t : TypeId} {cs : Array Value} (h : Blk w g t cs) (n : Nat) (e : TypeId) (hu : Tryd.prog.underlying t = some (.array n e)) (hi : (Tryd.prog.info? t).map (·.size) = some cs.size) :
    (loadVar t ⟨g, 0, none⟩).run Tryd.prog w = .ok (.agg cs) w := run_loadVar_row _ _ t t cs (0, 0) _ h hu rfl hi

/-- load of a whole array. -/
theorem wpList_ld {ops : Array Oper} {rest : List Oper} {op : Oper} {a : Act} {Q : Exit → Act → World → Prop} (w : World) (hgd : op.guard = none) (x : Operand) (ty : TypeId) (ho : op.op = .load ty x)
    (g : Nat) (cs : Array Value) (hx : a.eval x = .pointer (some ⟨g, 0, none⟩)) (h : Blk w g ty cs) (n : Nat) (e : TypeId) (hu : Tryd.prog.underlying ty = some (.array n e)) (hi : (Tryd.prog.info? ty).map (·.size) = some cs.size)
    (hk : wpList Tryd.prog ops Q rest (a.put op.dst (.agg cs)) w) : wpList Tryd.prog ops Q (op :: rest) a w := by
  refine wpList_plain hgd fun K hK => ?_
  unfold Oper.wp execOp
  simp only [ho, hx, Instr.loadAt, Instr.sureAddr, Sem.run_bind, Sem.run_pure, Result.andThen_ok, h.load n e hu hi]
  exact hK _ _ hk

theorem setRow_below {w0 w : World} {g : Nat} (cs : Array Value) (hb : Below w0.heap.size w0 w) (hg : w0.heap.size ≤ g) : Below w0.heap.size w0 (w.setRow g cs) :=
  hb.grown (row := some g) ⟨rfl, rfl, rfl, by simp, fun k _ hk => setRow_other w g k _ (fun e => hk (by simp [e]))⟩ hb.size (fun k hk => by injection hk with hk; omega)
theorem setCell_below {w0 w : World} {g : Nat} (o : Nat) (v : Value) (hb : Below w0.heap.size w0 w) (hg : w0.heap.size ≤ g) : Below w0.heap.size w0 (w.setCell ⟨g, o, none⟩ v) :=
  hb.grown (grown_setCell w g o v) hb.size (fun k hk => by injection hk with hk; omega)

theorem Blk.row {w : World} {g : Nat} {t : TypeId} {cs : Array Value} (h : Blk w g t cs) (cs' : Array Value) : Blk (w.setRow g cs') g t cs' := setRow_heap w g _ _ _ _ h
theorem Blk.rowOther {w : World} {g g' : Nat} {t : TypeId} {cs : Array Value} (h : Blk w g t cs) (cs' : Array Value) (hne : g ≠ g') : Blk (w.setRow g' cs') g t cs := h.of_block (setRow_other w g' g _ hne)

/-- store of a whole array. -/
theorem wpList_st {ops : Array Oper} {rest : List Oper} {op : Oper} {a : Act} {Q : Exit → Act → World → Prop} (w : World) (hgd : op.guard = none) (x y : Operand) (ty : TypeId) (ho : op.op = .store ty x y)
    (g : Nat) (cs cs' : Array Value) (hx : a.eval x = .pointer (some ⟨g, 0, none⟩)) (hy : a.eval y = .agg cs') (h : Blk w g ty cs) (hi : (Tryd.prog.info? ty).map (·.size) = some cs'.size) (hs : cs.size = cs'.size) (h1 : cs'.all (·.oneCell') = true)
    (hk : wpList Tryd.prog ops Q rest (a.put op.dst undef) (w.setRow g cs')) : wpList Tryd.prog ops Q (op :: rest) a w := by
  refine wpList_plain hgd fun K hK => ?_
  unfold Oper.wp execOp
  simp only [ho, hx, hy, Instr.storeAt, Instr.sureAddr, Sem.run_bind, Sem.run_pure, Result.andThen_ok, run_storeVar_row w g ty ty cs cs' h hi hs h1]
  exact hK _ _ hk

/-- A new variable, all noughts. -/
theorem wpList_al {ops : Array Oper} {rest : List Oper} {op : Oper} {a : Act} {Q : Exit → Act → World → Prop} (w : World) (hgd : op.guard = none) (ty : TypeId) (ho : op.op = .alloc ty)
    (cs : Array Value) (hz : ∀ w, (zeroValue ty).run Tryd.prog w = .ok (.agg cs) w)
    (hk : ∀ w' g, w.heap.size ≤ g → g < w'.heap.size → Blk w' g ty cs → Below w.heap.size w w' → wpList Tryd.prog ops Q rest (a.put op.dst (.pointer (some ⟨g, 0, none⟩))) w') : wpList Tryd.prog ops Q (op :: rest) a w := by
  refine wpList_plain hgd fun K hK => ?_
  unfold Oper.wp execOp
  simp [ho, hz, Instr.alloc, newVar, Value.cells, newRow]
  exact hK _ _ (hk _ w.heap.size (Nat.le_refl _) (by simp) (Blk.new w ty cs) (grow_alloc w _))

/-- A new variable that holds a value. -/
theorem wpList_bx {ops : Array Oper} {rest : List Oper} {op : Oper} {a : Act} {Q : Exit → Act → World → Prop} (w : World) (hgd : op.guard = none) (x : Operand) (ty : TypeId) (ho : op.op = .box ty x)
    (cs : Array Value) (hx : a.eval x = .agg cs)
    (hk : ∀ w' g, w.heap.size ≤ g → g < w'.heap.size → Blk w' g ty cs → Below w.heap.size w w' → wpList Tryd.prog ops Q rest (a.put op.dst (.pointer (some ⟨g, 0, none⟩))) w') : wpList Tryd.prog ops Q (op :: rest) a w := by
  refine wpList_plain hgd fun K hK => ?_
  unfold Oper.wp execOp
  simp [ho, hx, Instr.box, newVar, Value.cells, newRow]
  exact hK _ _ (hk _ w.heap.size (Nat.le_refl _) (by simp) (Blk.new w ty cs) (grow_alloc w _))

theorem zero_w64 : ∀ w, (zeroValue 135).run Tryd.prog w = .ok (.agg (U (List.replicate 64 0))) w := Tryd.zeroValue135

theorem zero_w8 : ∀ w, (zeroValue 115).run Tryd.prog w = .ok (.agg (U (List.replicate 8 0))) w := Tryd.zeroValue115

theorem zero_b32 : ∀ w, (zeroValue 23).run Tryd.prog w = .ok (.agg (B (List.replicate 32 0))) w := Tryd.zeroValue23

theorem Blk.range {w : World} {g : Nat} {t : TypeId} {cs : Array Value} (h : Blk w g t cs) : w.rangeAt g 0 cs.toList := fun j v hv => by
  rw [Nat.zero_add, h.cell]
  simpa using hv

theorem Blk.eight {w : World} {g : Nat} {t : TypeId} {a b c d e f k l : Int} (h : Blk w g t (U [a, b, c, d, e, f, k, l])) :
    w.cell? ⟨g, 0, none⟩ = some (.int .u32 a) ∧ w.cell? ⟨g, 1, none⟩ = some (.int .u32 b) ∧ w.cell? ⟨g, 2, none⟩ = some (.int .u32 c) ∧ w.cell? ⟨g, 3, none⟩ = some (.int .u32 d) ∧ w.cell? ⟨g, 4, none⟩ = some (.int .u32 e) ∧ w.cell? ⟨g, 5, none⟩ = some (.int .u32 f) ∧ w.cell? ⟨g, 6, none⟩ = some (.int .u32 k) ∧ w.cell? ⟨g, 7, none⟩ = some (.int .u32 l) :=
  ⟨h.wcell 0 (by simp), h.wcell 1 (by simp), h.wcell 2 (by simp), h.wcell 3 (by simp), h.wcell 4 (by simp), h.wcell 5 (by simp), h.wcell 6 (by simp), h.wcell 7 (by simp)⟩

/-- An array's element, the array by value. -/
theorem index_w8 (v : List Int) (k : Nat) (hv : v.length = 8) (hk : k < 8) (w : World) : (Instr.index 115 (.agg (U v)) (.int .i64 (k : Int))).run Tryd.prog w = .ok (.int .u32 (v.getD k 0)) w := by
  have hg := U_get v k (by omega)
  simp [Instr.index, asIntOf, part, hg]
  omega

theorem cell_set_ne (w : World) (g o g' o' : Nat) (v : Value) (h : g ≠ g') : (w.setCell ⟨g', o', none⟩ v).cell? ⟨g, o, none⟩ = w.cell? ⟨g, o, none⟩ :=
  World.cell?_setCell_other _ _ _ _ (fun e => h (by injection e with e1; exact e1.symm))

theorem cell_set_off (w : World) (g o o' : Nat) (v : Value) (h : o ≠ o') : (w.setCell ⟨g, o', none⟩ v).cell? ⟨g, o, none⟩ = w.cell? ⟨g, o, none⟩ :=
  World.cell?_setCell_other _ _ _ _ (fun e => h (by injection e with _ e1; exact e1.symm))

theorem size_w64 : (Tryd.prog.info? 135).map (·.size) = some 64 := by kernel_rfl

theorem size_w8 : (Tryd.prog.info? 115).map (·.size) = some 8 := by kernel_rfl

theorem size_b64 : (Tryd.prog.info? 127).map (·.size) = some 64 := by kernel_rfl

theorem size_b32 : (Tryd.prog.info? 23).map (·.size) = some 32 := by kernel_rfl

end Go.Proofs.YtjcklpdifanjlaaDoor
