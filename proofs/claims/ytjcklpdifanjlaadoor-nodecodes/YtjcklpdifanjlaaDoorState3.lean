/- sha's State.Write, as a contract: what was written stands behind what was there. -/
import Derived.Test.YtjcklpdifanjlaaDoorState2
import Derived.Test.YtjcklpdifanjlaaDoorSha4
import Derived.Laws.CopyOwn
import Derived.Deep.RegionLaw
namespace Go.Proofs.YtjcklpdifanjlaaDoor
set_option maxRecDepth 20000
open Go.RowKit

theorem run_copy_blk {ops : Array Oper} {o : Oper} {a : Act} {K : Act → World → Prop} {Q : Exit → Act → World → Prop} {E : Prop} (w : World) (hgd : o.guard = none) (d s : Operand)
    (hop : o.op = .call { callee := .builtin .copy, args := #[d, s], argTypes := #[28, 28] })
    (g off dl dc : Nat) (cur : Array Value) (t : TypeId) (ys : List Int) (sv : Value) (hr : Blk w g t cur) (hs : Reads w sv ys) (hd : a.eval d = .slice (some ⟨g, off, none⟩) dl dc) (hx : a.eval s = sv) (m : Nat) (hm : m = min ys.length dl) (hpos : 0 < m) (hfit : off + m ≤ cur.size)
    (h : ∀ w', Blk w' g t (cur.toList.take off ++ ((ys.take m).map (Value.int .u8) ++ cur.toList.drop (off + m))).toArray → w.grownBy w' (some g) → w'.heap.size = w.heap.size → K (a.put o.dst (.int .i64 (m : Nat))) w') :
    if Region.wanted o (yielded ops a.tmps) = true then Oper.wp Tryd.prog o a w K Q else E := by
  have hw : Region.wanted o (yielded ops a.tmps) = true := by simp [Region.wanted, hgd]
  rw [if_pos hw]
  have hs' := hs
  obtain ⟨sa, sc, rfl, h1, h2, h3, h4⟩ := hs'
  obtain ⟨b, o', rfl, hc⟩ := h4 (by omega)
  have hlen : ((ys.take m).map (Value.int .u8)).length = Nat.min ys.length dl := by
    have : Nat.min ys.length dl = min ys.length dl := rfl
    rw [this, List.length_map, List.length_take]
    omega
  have hl2 : ((ys.take m).map (Value.int .u8)).length = m := by rw [List.length_map, List.length_take]; omega
  have hsrc : ∀ j v, ((ys.take m).map (Value.int .u8))[j]? = some v → w.cell? ((⟨b, o', none⟩ : Addr).add j) = some v := by
    intro j v hv
    refine (hs.cells rfl).2 j v ?_
    have hj := (List.getElem?_eq_some_iff.1 hv).1
    rw [hl2] at hj
    rw [List.map_take, List.getElem?_take, if_pos (by omega)] at hv
    exact hv
  have hone := ints_oneCell .u8 (ys.take m)
  generalize (ys.take m).map (Value.int .u8) = cs at *
  have hrun := run_copy_row (P := Tryd.prog) w 28 28 o.type 5 g off dl dc ⟨b, o', none⟩ ys.length sc cur t cs u_bytes size_byte hr hlen hsrc (by omega) hone
  rw [hl2] at hrun
  unfold Oper.wp
  simp [execOp, hop, resolve, invoke, builtin, hd, hx, hrun, Result.andThen]
  exact h _ (setRow_heap w g _ _ _ _ hr) ⟨rfl, rfl, rfl, by simp, fun k _ hk => setRow_other w g k _ (fun e => hk (by simp [e]))⟩ (by simp)

theorem Blk.cells {g : Nat} {t : TypeId} : ∀ (vs : List Value) (o : Nat) {w : World} {cs : Array Value}, Blk w g t cs → o + vs.length ≤ cs.size →
    Blk (w.setCells g o vs) g t (cs.toList.take o ++ (vs ++ cs.toList.drop (o + vs.length))).toArray
  | [], o, w, cs, h, _ => by
    have : (cs.toList.take o ++ ([] ++ cs.toList.drop (o + ([] : List Value).length))).toArray = cs := by simp
    rw [this]
    exact h
  | v :: vs, o, w, cs, h, hf => by
    have h1 := Blk.cells vs (o + 1) (h.set o v) (by simp at hf ⊢; omega)
    have e : ((cs.setIfInBounds o v).toList.take (o + 1) ++ (vs ++ (cs.setIfInBounds o v).toList.drop (o + 1 + vs.length))).toArray = (cs.toList.take o ++ ((v :: vs) ++ cs.toList.drop (o + (v :: vs).length))).toArray := by
      congr 1
      simp only [Array.toList_setIfInBounds, List.length_cons]
      have ho : o < cs.toList.length := by simp at hf ⊢; omega
      rw [List.take_set, List.drop_set, if_pos (by omega), show o + 1 + vs.length = o + (vs.length + 1) by omega, List.take_succ_eq_append_getElem ho, List.set_append_right _ _ (by rw [List.length_take]; exact Nat.min_le_left _ _), List.length_take, Nat.min_eq_left (Nat.le_of_lt ho), Nat.sub_self, List.set_cons_zero]
      simp
    rw [e] at h1
    exact h1

theorem Cs_toList (ws bk : List Int) (c : Int) (m : Bool) : (Cs ws bk c m).toList = ws.map (Value.int .u32) ++ (bk.map (Value.int .u8) ++ [Value.int .i64 c, Value.bool m]) := by simp [Cs]
theorem Cs_words (ws ws' bk : List Int) (c : Int) (m : Bool) (h : ws.length = ws'.length) : ((Cs ws bk c m).toList.take 0 ++ ((ws'.map (Value.int .u32)) ++ (Cs ws bk c m).toList.drop (0 + (ws'.map (Value.int .u32)).length))).toArray = Cs ws' bk c m := by
  rw [Cs_toList]
  have : 0 + (ws'.map (Value.int .u32)).length = (ws.map (Value.int .u32)).length := by simp [h]
  rw [this]
  simp [Cs]
theorem Cs_count (ws bk : List Int) (c d : Int) (m : Bool) (hw : ws.length = 8) (hb : bk.length = 64) : (Cs ws bk c m).setIfInBounds 72 (.int .i64 d) = Cs ws bk d m := by
  apply Array.ext'
  rw [Array.toList_setIfInBounds, Cs_toList, Cs_toList, List.set_append_right _ _ (by simp [hw]), List.set_append_right _ _ (by simp [hw, hb])]
  simp [hw, hb]
theorem Cs_block (ws bk ys : List Int) (c : Int) (m : Bool) (f n : Nat) (hw : ws.length = 8) (hb : bk.length = 64) (hf : f + n ≤ 64) : ((Cs ws bk c m).toList.take (8 + f) ++ (ys.map (Value.int .u8) ++ (Cs ws bk c m).toList.drop (8 + f + n))).toArray = Cs ws (bk.take f ++ ys ++ bk.drop (f + n)) c m := by
  rw [Cs_toList]
  have e1 : (ws.map (Value.int .u32) ++ (bk.map (Value.int .u8) ++ [Value.int .i64 c, Value.bool m])).take (8 + f) = ws.map (Value.int .u32) ++ (bk.take f).map (Value.int .u8) := by
    rw [List.take_append, List.take_of_length_le (by simp; omega)]
    simp [hw, List.take_append, hb, show f - 64 = 0 by omega, List.map_take]
  have e2 : (ws.map (Value.int .u32) ++ (bk.map (Value.int .u8) ++ [Value.int .i64 c, Value.bool m])).drop (8 + f + n) = (bk.drop (f + n)).map (Value.int .u8) ++ [Value.int .i64 c, Value.bool m] := by
    rw [List.drop_append, List.drop_of_length_le (by simp; omega)]
    simp [hw, List.drop_append, hb, show 8 + f + n - 8 = f + n by omega, show f + n - 64 = 0 by omega, List.map_drop]
  rw [e1, e2]
  simp [Cs, List.append_assoc]

/-- Block g holds the state of this text. -/
def Txt (w : World) (g : Nat) (l : List Int) : Prop := ∃ bk, St w g (eat l (l.length / 64)) bk (l.length : Int) ∧ bk.take (l.length % 64) = l.drop (64 * (l.length / 64)) ∧ Bytes l
theorem Txt.grow {w w' : World} {g : Nat} {l : List Int} (h : Txt w g l) (hb : Below w.heap.size w w') : Txt w' g l := by
  obtain ⟨bk, h1, h2⟩ := h
  exact ⟨bk, h1.grow hb, h2⟩
theorem Txt.kept {w w' : World} {g g' : Nat} {l : List Int} (h : Txt w g l) (hg : w.grownBy w' (some g')) (hne : g ≠ g') : Txt w' g l := by
  obtain ⟨bk, h1, h2⟩ := h
  exact ⟨bk, h1.kept hg hne, h2⟩
theorem Txt.lt {w : World} {g : Nat} {l : List Int} (h : Txt w g l) : g < w.heap.size := by
  obtain ⟨bk, h1, _⟩ := h
  exact h1.1.lt

theorem some_part (l bk ys : List Int) (f n : Nat) (hf : f = l.length % 64) (hn : ys.length = n) (hb : bk.length = 64) (h : bk.take f = l.drop (64 * (l.length / 64))) (hlt : f + n < 64) :
    eat (l ++ ys) ((l ++ ys).length / 64) = eat l (l.length / 64) ∧ (bk.take f ++ ys ++ bk.drop (f + n)).take ((l ++ ys).length % 64) = (l ++ ys).drop (64 * ((l ++ ys).length / 64)) := by
  have e1 : (l ++ ys).length / 64 = l.length / 64 := by rw [List.length_append]; omega
  have e2 : (l ++ ys).length % 64 = f + n := by rw [List.length_append]; omega
  rw [e1, e2]
  refine ⟨eat_append l ys _ (by omega), ?_⟩
  rw [List.drop_append_of_le_length (by omega), ← h, List.take_left' (by simp; omega)]

theorem whole_part (l bk ys : List Int) (f n : Nat) (hf : f = l.length % 64) (hn : ys.length = n) (hb : bk.length = 64) (h : bk.take f = l.drop (64 * (l.length / 64))) (hlt : f + n = 64) :
    eat (l ++ ys) ((l ++ ys).length / 64) = stp (eat l (l.length / 64)) (bk.take f ++ ys ++ bk.drop (f + n)) ∧ (bk.take f ++ ys ++ bk.drop (f + n)).take ((l ++ ys).length % 64) = (l ++ ys).drop (64 * ((l ++ ys).length / 64)) := by
  have e1 : (l ++ ys).length / 64 = l.length / 64 + 1 := by rw [List.length_append]; omega
  have e2 : (l ++ ys).length % 64 = 0 := by rw [List.length_append]; omega
  have e3 : bk.drop (f + n) = [] := List.drop_of_length_le (by omega)
  rw [e1, e2, e3, List.append_nil]
  refine ⟨?_, ?_⟩
  · simp only [eat]
    rw [eat_append l ys _ (by omega), List.drop_append_of_le_length (by omega), ← h, List.take_of_length_le (by simp; omega)]
  · rw [List.take_zero, List.drop_of_length_le (by rw [List.length_append]; omega)]

end Go.Proofs.YtjcklpdifanjlaaDoor
