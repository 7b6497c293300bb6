/- More on byte slices: the built-ins make and copy, and the conversion to a string, as laws for a walk. -/
import Derived.Test.YtagkmfgoahbclaaBo01
import Derived.Laws.CopyOwn
import Derived.Test.YtagkmfgoahbclaaRows
import Derived.ProofKit
import Derived.OpenShut
import Derived.ShutString
import Derived.ChangeOld
import Derived.Below
import Derived.SizedLaws
namespace Go.Proofs.Ytagkmfgoahbclaa
set_option maxRecDepth 20000
open Go.RowKit

theorem made_bytes (n : Nat) : madeCells (Value.cells (.int .u8 0)) n = B (List.replicate n 0) := by
  apply Array.ext'
  have h := toList_madeCells_one (.int .u8 0) n
  simp only [Value.cells] at *
  rw [h, B_toList]
  simp

theorem size_byte : (Try.prog.info? 5).map (·.size) = some 1 := by kernel_rfl

/-- make([]byte, l, c). -/
theorem wpList_mk {ops : Array Oper} {rest : List Oper} {o : Oper} {a : Act} {Q : Exit → Act → World → Prop} (w : World) (hgd : o.guard = none) (x y : Operand)
    (hop : o.op = Op.makeSlice 35 x y) (kl kc : IntKind) (L C : Int) (l c : Nat) (hx : a.eval x = .int kl L) (hy : a.eval y = .int kc C) (hL : L = (l : Int)) (hC : C = (c : Int)) (hlc : l ≤ c) (hc : c ≤ 281474976710656)
    (h : ∀ w', Row w' w.heap.size (List.replicate c 0) → Below w.heap.size w w' → w'.heap.size = w.heap.size + 1 → wpList Try.prog ops Q rest (a.put o.dst (.slice (some ⟨w.heap.size, 0, none⟩) l c)) w') :
    wpList Try.prog ops Q (o :: rest) a w := by
  refine wpList_plain hgd fun K hK => ?_
  obtain ⟨i, hi, hz, hs, hby⟩ := info_parts info_byte
  subst hL
  subst hC
  have hr := run_make (P := Try.prog) w 35 5 i _ u_bytes hi hz kl kc l c (by omega) (by omega) (by rw [hby]; omega) (by omega)
  rw [hs, Nat.mul_one, made_bytes] at hr
  simp only [Int.toNat_natCast] at hr
  unfold Oper.wp
  simp [execOp, hop, hx, hy, hr, Result.andThen]
  exact hK _ _ (h _ (heap_alloc_new w _) (grow_alloc w _) (by simp))

/-- copy(dst, src), dst in a row that is known whole. -/
theorem wpList_cp {ops : Array Oper} {rest : List Oper} {o : Oper} {a : Act} {Q : Exit → Act → World → Prop} (w : World) (hgd : o.guard = none) (d s : Operand)
    (hop : o.op = .call { callee := .builtin .copy, args := #[d, s], argTypes := #[35, 35] })
    (g off dl dc : Nat) (xs ys : List Int) (sv : Value) (hr : Row w g xs) (hs : Reads w sv ys) (hd : a.eval d = .slice (some ⟨g, off, none⟩) dl dc) (hx : a.eval s = sv) (hfit : off + dl ≤ xs.length)
    (h : ∀ w', Row w' g (xs.take off ++ ys.take dl ++ xs.drop (off + min ys.length dl)) → w.grownBy w' (some g) → w'.heap.size = w.heap.size → wpList Try.prog ops Q rest (a.put o.dst (.int .i64 (min ys.length dl : Nat))) w') :
    wpList Try.prog ops Q (o :: rest) a w := by
  have hs' := hs
  obtain ⟨sa, sc, rfl, h1, h2, h3, h4⟩ := hs'
  by_cases h0 : Nat.min ys.length dl = 0
  · refine wpList_copy_nothing hgd d s _ _ hop 5 u_bytes size_byte _ _ _ _ _ _ hd hx h0 ?_
    have e : xs.take off ++ ys.take dl ++ xs.drop (off + min ys.length dl) = xs := by
      have h0' : min ys.length dl = 0 := h0
      have : ys.take dl = [] := by
        apply List.eq_nil_of_length_eq_zero
        rw [List.length_take, Nat.min_comm]
        exact h0'
      rw [this, h0']; simp
    have h0' : min ys.length dl = 0 := h0
    have := h w (by rw [e]; exact hr) (World.grownBy.refl _ _) rfl
    rw [h0'] at this
    exact this
  · have hpos : 0 < ys.length := by
      have : Nat.min ys.length dl ≤ ys.length := Nat.min_le_left _ _
      omega
    obtain ⟨b, o', rfl, hc⟩ := h4 hpos
    have hmin : min ys.length dl ≤ dl := Nat.min_le_right _ _
    have hlen : ((ys.take dl).map (Value.int .u8)).length = Nat.min ys.length dl := by
      have : min dl ys.length = Nat.min ys.length dl := Nat.min_comm _ _
      simpa using this
    refine wpList_copy_own hgd d s _ _ hop 5 u_bytes size_byte g off dl dc ⟨b, o', none⟩ ys.length sc hd hx (B xs) _ hr ((ys.take dl).map (Value.int .u8)) hlen ?_ ?_ (ints_oneCell .u8 _) ?_
    · intro j v hv
      refine (hs.cells rfl).2 j v ?_
      have hj := (List.getElem?_eq_some_iff.1 hv).1
      rw [hlen] at hj
      have hj' : j < dl := Nat.lt_of_lt_of_le hj hmin
      rw [List.map_take, List.getElem?_take, if_pos hj'] at hv
      exact hv
    · rw [B_size, hlen]
      have : Nat.min ys.length dl = min ys.length dl := rfl
      omega
    · rw [hlen]
      refine h _ ?_ ⟨rfl, rfl, rfl, by simp, fun k _ hk => setRow_other w g k _ (fun e => hk (by simp [e]))⟩ (by simp)
      unfold Row
      rw [setRow_heap w g _ _ _ _ hr]
      congr 2
      have : Nat.min ys.length dl = min ys.length dl := rfl
      rw [this]
      simp [B, List.append_assoc]

/-- copy(dst, src) where dst is not too short. -/
theorem wpList_cpw {ops : Array Oper} {rest : List Oper} {o : Oper} {a : Act} {Q : Exit → Act → World → Prop} (w : World) (hgd : o.guard = none) (d s : Operand)
    (hop : o.op = .call { callee := .builtin .copy, args := #[d, s], argTypes := #[35, 35] })
    (g off dl dc n : Nat) (xs ys : List Int) (sv : Value) (hr : Row w g xs) (hs : Reads w sv ys) (hd : a.eval d = .slice (some ⟨g, off, none⟩) dl dc) (hx : a.eval s = sv) (hfit : off + dl ≤ xs.length) (hn : ys.length = n) (hle : n ≤ dl)
    (h : ∀ w', Row w' g (xs.take off ++ ys ++ xs.drop (off + n)) → w.grownBy w' (some g) → w'.heap.size = w.heap.size → wpList Try.prog ops Q rest (a.put o.dst (.int .i64 n)) w') :
    wpList Try.prog ops Q (o :: rest) a w := by
  subst hn
  refine wpList_cp w hgd d s hop g off dl dc xs ys sv hr hs hd hx hfit ?_
  rw [List.take_of_length_le hle, Nat.min_eq_left hle]
  exact h

theorem B_set (zs : List Int) (i : Nat) (z : Int) : (B zs).setIfInBounds i (.int .u8 z) = B (zs.set i z) := by
  apply Array.ext'
  simp [B, List.map_set]

theorem Row.set {w : World} {g : Nat} {zs : List Int} (h : Row w g zs) (i : Nat) (z : Int) : Row (w.setCell ⟨g, i, none⟩ (.int .u8 z)) g (zs.set i z) := by
  unfold Row
  rw [heap_setCell_same w g i _ _ _ h, B_set]

/-- string(v). -/
theorem conv_reads {w : World} {v : Value} {zs : List Int} (h : Reads w v zs) : (convert 35 9 v).run Try.prog w = .ok (.string (strOfNums zs)) w := by
  obtain ⟨a, c, rfl, h1, h2, h3, h4⟩ := h
  by_cases hz : zs = []
  · subst hz
    cases a with
    | none => exact run_convert_bytes_nil w _ _ u_bytes u_byte _ _ _ u_string
    | some x =>
      rw [run_convert_bytes_string w _ _ _ _ _ c u_bytes u_byte u_string, run_bytesToString w _ _ c [] (by simpa using run_loadCells_list (P := Try.prog) w x [] (by simp))]
      rfl
  · obtain ⟨b, off, rfl, hc⟩ := h4 (List.length_pos_iff.2 hz)
    exact run_convert_bytes_arg w _ _ u_bytes u_byte b off _ c zs rfl hc _ u_string

theorem str_beq (xs ys : List Int) (hx : Bytes xs) (hy : Bytes ys) : ((strOfNums xs).toList == (strOfNums ys).toList) = decide (xs = ys) := by
  rw [ByteArray.toList_eq, ByteArray.toList_eq, strOfNums_data, strOfNums_data]
  rw [Bool.eq_iff_iff]
  simp only [beq_iff_eq, decide_eq_true_eq]
  constructor
  · intro h
    have key : ∀ (l : List Int), Bytes l → (l.map fun n => UInt8.ofNat n.toNat).map (fun u => (u.toNat : Int)) = l := by
      intro l hl
      rw [List.map_map]
      conv => rhs; rw [← List.map_id l]
      apply List.map_congr_left
      intro z hz
      have := hl z hz
      simp only [Function.comp, id_eq, UInt8.toNat_ofNat']
      omega
    rw [← key xs hx, ← key ys hy, h]
  · rintro rfl; rfl

end Go.Proofs.Ytagkmfgoahbclaa

/- What every statement's proof asks of the program as a whole. -/
namespace Go.Proofs.Ytagkmfgoahbclaa
set_option maxRecDepth 20000
open Go.ChangeShapes Go.WideShapes Go.ChangeAt Go.RowKit

theorem ownK : ownKnob Try.prog.godebug = none := by kernel_rfl
theorem laidOut : laidOutB Try.prog = true := by kernel_rfl

theorem okWide_st {t : TypeId} {fs : Array Field} {W : World} {base : Nat} {v : Value} (ht : Try.prog.underlying t = some (.struct fs)) (h : Value.okWide Try.prog W .any base t v) : ∃ cs, v = .agg cs := by
  unfold Value.okWide at h
  cases v <;> simp_all

end Go.Proofs.Ytagkmfgoahbclaa
