/- More on byte slices: the built-ins make and copy, and the conversion to a string, as laws for a walk. -/
import Derived.Test.YtbkolhhgajkjjaaGreatDoorPo02
import Derived.Laws.CopyOwn
import Derived.Lib.Bytealg
namespace Go.Proofs.YtbkolhhgajkjjaaGreatDoor
set_option maxRecDepth 20000
open Go.RowKit
theorem Zsk (n : Nat) : madeCells (Value.cells (.int .u8 0)) n = B (List.replicate n 0) := by
 apply Array.ext'
 have h := toList_madeCells_one (.int .u8 0) n
 simp only [Value.cells] at *
 rw [h, Zap]
 simp
theorem Zid : (Tryz.prog.info? 5).map (·.size) = some 1 := by kernel_rfl
theorem Zlt {ops : Array Oper} {rest : List Oper} {o : Oper} {a : Act} {Q : Exit → Act → World → Prop} (w : World) (hgd : o.guard = none) (x y : Operand)
  (hop : o.op = Op.makeSlice 32 x y) (kl kc : IntKind) (L C : Int) (l c : Nat) (hx : a.eval x = .int kl L) (hy : a.eval y = .int kc C) (hL : L = (l : Int)) (hC : C = (c : Int)) (hlc : l ≤ c) (hc : c ≤ 281474976710656)
  (h : ∀ w', Row w' w.heap.size (List.replicate c 0) → Below w.heap.size w w' → w'.heap.size = w.heap.size + 1 → wpList Tryz.prog ops Q rest (a.put o.dst (.slice (some ⟨w.heap.size, 0, none⟩) l c)) w') :
  wpList Tryz.prog ops Q (o :: rest) a w := by
 refine wpList_plain hgd fun K hK => ?_
 obtain ⟨i, hi, hz, hs, hby⟩ := info_parts Zne
 subst hL
 subst hC
 have hr := run_make (P := Tryz.prog) w 32 5 i _ Zdj hi hz kl kc l c (by omega) (by omega) (by rw [hby]; omega) (by omega)
 rw [hs, Nat.mul_one, Zsk] at hr
 simp only [Int.toNat_natCast] at hr
 unfold Oper.wp
 simp [execOp, hop, hx, hy, hr, Result.andThen]
 exact hK _ _ (h _ (heap_alloc_new w _) (Zg w _) (by simp))
theorem Zth {ops : Array Oper} {rest : List Oper} {o : Oper} {a : Act} {Q : Exit → Act → World → Prop} (w : World) (hgd : o.guard = none) (d s : Operand)
  (hop : o.op = .call { callee := .builtin .copy, args := #[d, s], argTypes := #[32, 32] })
  (g off dl dc : Nat) (xs ys : List Int) (sv : Value) (hr : Row w g xs) (hs : Reads w sv ys) (hd : a.eval d = .slice (some ⟨g, off, none⟩) dl dc) (hx : a.eval s = sv) (hfit : off + dl ≤ xs.length)
  (h : ∀ w', Row w' g (xs.take off ++ ys.take dl ++ xs.drop (off + min ys.length dl)) → w.grownBy w' (some g) → w'.heap.size = w.heap.size → wpList Tryz.prog ops Q rest (a.put o.dst (.int .i64 (min ys.length dl : Nat))) w') :
  wpList Tryz.prog ops Q (o :: rest) a w := by
 have hs' := hs
 obtain ⟨sa, sc, rfl, h1, h2, h3, h4⟩ := hs'
 by_cases h0 : Nat.min ys.length dl = 0
 ·refine wpList_copy_nothing hgd d s _ _ hop 5 Zdj Zid _ _ _ _ _ _ hd hx h0 ?_
  have e : xs.take off ++ ys.take dl ++ xs.drop (off + min ys.length dl) = xs := by
   have h0' : min ys.length dl = 0 := h0
   have : ys.take dl = [] := by
    apply List.eq_nil_of_length_eq_zero
    rw [List.length_take, Nat.min_comm]
    exact h0'
   rw [this, h0']; simp
  have h0' : min ys.length dl = 0 := h0
  have := h w (by rw [e]; exact hr) (World.grownBy.refl _ _) rfl
  rw [h0'] at this
  exact this
 ·have hpos : 0 < ys.length := by
   have : Nat.min ys.length dl ≤ ys.length := Nat.min_le_left _ _
   omega
  obtain ⟨b, o', rfl, hc⟩ := h4 hpos
  have hmin : min ys.length dl ≤ dl := Nat.min_le_right _ _
  have hlen : ((ys.take dl).map (Value.int .u8)).length = Nat.min ys.length dl := by
   have : min dl ys.length = Nat.min ys.length dl := Nat.min_comm _ _
   simpa using this
  refine wpList_copy_own hgd d s _ _ hop 5 Zdj Zid g off dl dc ⟨b, o', none⟩ ys.length sc hd hx (B xs) _ hr ((ys.take dl).map (Value.int .u8)) hlen ?_ ?_ (ints_oneCell .u8 _) ?_
  ·intro j v hv
   refine (hs.cells rfl).2 j v ?_
   have hj := (List.getElem?_eq_some_iff.1 hv).1
   rw [hlen] at hj
   have hj' : j < dl := Nat.lt_of_lt_of_le hj hmin
   rw [List.map_take, List.getElem?_take, if_pos hj'] at hv
   exact hv
  ·rw [Zj, hlen]
   have : Nat.min ys.length dl = min ys.length dl := rfl
   omega
  ·rw [hlen]
   refine h _ ?_ ⟨rfl, rfl, rfl, by simp, fun k _ hk => setRow_other w g k _ (fun e => hk (by simp [e]))⟩ (by simp)
   unfold Row
   rw [setRow_heap w g _ _ _ _ hr]
   congr 2
   have : Nat.min ys.length dl = min ys.length dl := rfl
   rw [this]
   simp [B, List.append_assoc]
theorem Znw (zs : List Int) (i : Nat) (z : Int) : (B zs).setIfInBounds i (.int .u8 z) = B (zs.set i z) := by
 apply Array.ext'
 simp [B, List.map_set]
theorem Row.set {w : World} {g : Nat} {zs : List Int} (h : Row w g zs) (i : Nat) (z : Int) : Row (w.setCell ⟨g, i, none⟩ (.int .u8 z)) g (zs.set i z) := by
 unfold Row
 rw [heap_setCell_same w g i _ _ _ h, Znw]
theorem Zbh {w : World} {v : Value} {zs : List Int} (h : Reads w v zs) : (convert 32 9 v).run Tryz.prog w = .ok (.string (strOfNums zs)) w := by
 obtain ⟨a, c, rfl, h1, h2, h3, h4⟩ := h
 by_cases hz : zs = []
 ·subst hz
  cases a with
  | none => exact run_convert_bytes_nil w _ _ Zdj Zhx _ _ _ Zko
  | some x =>
   rw [run_convert_bytes_string w _ _ _ _ _ c Zdj Zhx Zko, run_bytesToString w _ _ c [] (by simpa using run_loadCells_list (P := Tryz.prog) w x [] (by simp))]
   rfl
 ·obtain ⟨b, off, rfl, hc⟩ := h4 (List.length_pos_iff.2 hz)
  exact run_convert_bytes_arg w _ _ Zdj Zhx b off _ c zs rfl hc _ Zko
theorem Zod (xs ys : List Int) (hx : Bytes xs) (hy : Bytes ys) : ((strOfNums xs).toList == (strOfNums ys).toList) = decide (xs = ys) := by
 rw [ByteArray.toList_eq, ByteArray.toList_eq, strOfNums_data, strOfNums_data]
 rw [Bool.eq_iff_iff]
 simp only [beq_iff_eq, decide_eq_true_eq]
 constructor
 ·intro h
  have key : ∀ (l : List Int), Bytes l → (l.map fun n => UInt8.ofNat n.toNat).map (fun u => (u.toNat : Int)) = l := by
   intro l hl
   rw [List.map_map]
   conv => rhs; rw [← List.map_id l]
   apply List.map_congr_left
   intro z hz
   have := hl z hz
   simp only [Function.comp, id_eq, UInt8.toNat_ofNat']
   omega
  rw [← key xs hx, ← key ys hy, h]
 ·rintro rfl; rfl
def cmp : List Int → List Int → Int
 | [], [] => 0
 | [], _ :: _ => -1
 | _ :: _, [] => 1
 | a :: r, b :: s => if a < b then -1 else if b < a then 1 else cmp r s
def bt (x : Int) (k : Nat) : Int := x / 2 ^ (7 - k) % 2
def kb (xs : List Int) (d : Nat) : Int := bt (xs.getD (d / 8) 0) (d % 8)
def Key (xs : List Int) : Prop := xs.length = 32 ∧ Bytes xs
theorem Zre (x : Int) (k : Nat) : bt x k = 0 ∨ bt x k = 1 := by
 unfold bt
 generalize x / 2 ^ (7 - k) = y
 omega
theorem Zfw (xs : List Int) (d : Nat) : kb xs d = 0 ∨ kb xs d = 1 := Zre _ _
theorem Zra (x y : Int) (hx : 0 ≤ x ∧ x ≤ 255) (hy : 0 ≤ y ∧ y ≤ 255) (h : ∀ k, k < 8 → bt x k = bt y k) : x = y := by
 have h0 := h 0 (by omega)
 have h1 := h 1 (by omega)
 have h2 := h 2 (by omega)
 have h3 := h 3 (by omega)
 have h4 := h 4 (by omega)
 have h5 := h 5 (by omega)
 have h6 := h 6 (by omega)
 have h7 := h 7 (by omega)
 simp only [bt, Nat.reduceSub, Int.reducePow] at h0 h1 h2 h3 h4 h5 h6 h7
 omega
theorem Key.byte {xs : List Int} (h : Key xs) (i : Nat) : 0 ≤ xs.getD i 0 ∧ xs.getD i 0 ≤ 255 := h.2.getD i
theorem Zir {xs ys : List Int} (hx : Key xs) (hy : Key ys) (h : ∀ d, d < 256 → kb xs d = kb ys d) : xs = ys := by
 apply List.ext_getElem (by rw [hx.1, hy.1])
 intro i h1 h2
 have e : xs.getD i 0 = ys.getD i 0 := by
  refine Zra _ _ (hx.byte i) (hy.byte i) fun k hk => ?_
  have hi : i < 32 := by rw [← hx.1]; exact h1
  have := h (8 * i + k) (by omega)
  unfold kb at this
  rw [show (8 * i + k) / 8 = i by omega, show (8 * i + k) % 8 = k by omega] at this
  exact this
 simpa [List.getD, h1, h2] using e
theorem Bytes.set {zs : List Int} (h : Bytes zs) (i : Nat) (z : Int) (hz : 0 ≤ z ∧ z ≤ 255) : Bytes (zs.set i z) := fun u hu => by
 rcases List.mem_or_eq_of_mem_set hu with h1 | rfl
 ·exact h u h1
 ·exact hz
theorem Key.set {xs : List Int} (h : Key xs) (i : Nat) (z : Int) (hz : 0 ≤ z ∧ z ≤ 255) : Key (xs.set i z) := ⟨by rw [List.length_set]; exact h.1, h.2.set i z hz⟩
theorem Zeo (xs : List Int) (i j : Nat) (z : Int) (hi : i < xs.length) : (xs.set i z).getD j 0 = if j = i then z else xs.getD j 0 := by
 by_cases e : j = i
 ·subst e
  simp [List.getD, hi]
 ·rw [if_neg e]
  simp [List.getD, List.getElem?_set_ne (Ne.symm e)]
theorem Ygb (xs : List Int) (i d : Nat) (z : Int) (hi : i < xs.length) : kb (xs.set i z) d = if d / 8 = i then bt z (d % 8) else kb xs d := by
 unfold kb
 rw [Zeo xs i _ z hi]
 by_cases e : d / 8 = i
 ·rw [if_pos e, if_pos e]
 ·rw [if_neg e, if_neg e]
def IsSet (xs : List Int) (d : Nat) (b : Int) (ys : List Int) : Prop := Key ys ∧ ∀ j, j < 256 → kb ys j = if j = d then b else kb xs j
def IsFlip (xs : List Int) (d : Nat) (ys : List Int) : Prop := Key ys ∧ ∀ j, j < 256 → kb ys j = if j = d then 1 - kb xs j else kb xs j
def IsFill (xs : List Int) (d : Nat) (b : Int) (ys : List Int) : Prop := Key ys ∧ ∀ j, j < 256 → kb ys j = if j < d then kb xs j else b
def IsLast (xs : List Int) : Prop := ∀ j, j < 256 → kb xs j = 1
def IsNext (xs ys : List Int) : Prop := Key ys ∧ ∃ k, k < 256 ∧ kb xs k = 0 ∧ kb ys k = 1 ∧ (∀ j, j < k → kb ys j = kb xs j) ∧ ∀ j, k < j → j < 256 → kb xs j = 1 ∧ kb ys j = 0
def IsCommon (xs ys : List Int) (c : Nat) : Prop := c ≤ 256 ∧ (∀ j, j < c → kb xs j = kb ys j) ∧ (c < 256 → kb xs c ≠ kb ys c)
def Ahead (xs ys : List Int) : Prop := ∃ c, c < 256 ∧ (∀ j, j < c → kb xs j = kb ys j) ∧ kb xs c = 0 ∧ kb ys c = 1
theorem IsFill.one {xs ys zs : List Int} {d : Nat} {b : Int} (h : IsFill xs d b ys) (k : IsFill xs d b zs) : ys = zs := Zir h.1 k.1 fun j hj => by rw [h.2 j hj, k.2 j hj]
theorem IsCommon.one {xs ys : List Int} {c d : Nat} (h : IsCommon xs ys c) (k : IsCommon xs ys d) : c = d := by
 obtain ⟨h1, h2, h3⟩ := h
 obtain ⟨k1, k2, k3⟩ := k
 rcases Nat.lt_trichotomy c d with e | e | e
 ·exact absurd (k2 c e) (h3 (by omega))
 ·exact e
 ·exact absurd (h2 d e) (k3 (by omega))
theorem IsCommon.whole {xs ys : List Int} (hx : Key xs) (hy : Key ys) (h : IsCommon xs ys 256) : xs = ys := Zir hx hy h.2.1
theorem IsCommon.self (xs : List Int) : IsCommon xs xs 256 := ⟨by omega, fun _ _ => rfl, fun h => by omega⟩
end Go.Proofs.YtbkolhhgajkjjaaGreatDoor
