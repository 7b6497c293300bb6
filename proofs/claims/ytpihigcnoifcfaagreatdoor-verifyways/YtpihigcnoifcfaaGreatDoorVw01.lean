/- Plain facts on numbers, lists of bytes and worlds, with no word of the program: bits of an int, bytes joined to numbers, what a world keeps. -/
import Derived.WalkKit
import Derived.WalkSpells
import Derived.WalkLawsBesides
import Derived.Test.YtpihigcnoifcfaaGreatDoorProg
import Derived.Laws.CopyOwn
namespace Go.Proofs.YtpihigcnoifcfaaGreatDoor
set_option maxRecDepth 20000
open Go.RowKit

/-- Worlds that only grow: nothing that was there turns. -/
theorem grow_trans {a b c : World} (h : Below a.heap.size a b) (k : Below b.heap.size b c) : Below a.heap.size a c := h.trans (k.mono h.size)
theorem grow_alloc (w : World) (o : Obj) : Below w.heap.size w (w.alloc o) := (Below.refl _ _).alloc (Nat.le_refl _) o
theorem grow_alloc2 (w : World) (o p : Obj) : Below w.heap.size w ((w.alloc o).alloc p) := grow_trans (grow_alloc w o) (grow_alloc _ p)

theorem grown_below {w w' : World} {row : Option Nat} (h : w.grownBy w' row) (hr : ∀ k, row = some k → w.heap.size ≤ k) : Below w.heap.size w w' :=
  (Below.refl _ _).grown h (Nat.le_refl _) hr

theorem below_grown {w w' : World} (h : Below w.heap.size w w') (row : Option Nat) : w.grownBy w' row := ⟨h.os, h.tape, h.output, h.size, fun k hk _ => h.block k hk⟩

theorem grown_trans {a b c : World} {row : Option Nat} (h : a.grownBy b row) (k : b.grownBy c row) : a.grownBy c row :=
  ⟨k.os.trans h.os, k.tape.trans h.tape, k.output.trans h.output, Nat.le_trans h.size k.size, fun i hi hr => (k.block i (Nat.lt_of_lt_of_le hi h.size) hr).trans (h.block i hi hr)⟩

theorem grown_setCell (w : World) (b o : Nat) (v : Value) : w.grownBy (w.setCell ⟨b, o, none⟩ v) (some b) :=
  ⟨rfl, rfl, rfl, by simp, fun k _ hr => heap_setCell_other w _ k v (fun e => hr (by simp [e]))⟩

theorem undrew {w w1 : World} (h : Below w.drew.heap.size w.drew w1) : Below w.heap.size w w1 := ⟨h.os, h.tape, h.output, h.size, h.block⟩

theorem below_row {w0 w w' : World} {g : Nat} (hb : Below w0.heap.size w0 w) (hg : w.grownBy w' (some g)) (h : w0.heap.size ≤ g) : Below w0.heap.size w0 w' :=
  hb.grown hg hb.size (fun k hk => by injection hk with hk; omega)

theorem hidden {p : Prop} (h : p) : Hid p := h

theorem i64_or_nat (a b : Nat) (ha : a < 9223372036854775808) (hb : b < 9223372036854775808) : bits .or .i64 (a : Int) (b : Int) = ((a ||| b : Nat) : Int) := by
  have hx : a ||| b < 2 ^ 63 := Nat.or_lt_two_pow (by omega) (by omega)
  show IntKind.i64.wrap ((BitVec.ofInt 64 (a : Int) ||| BitVec.ofInt 64 (b : Int)).toNat : Int) = _
  rw [BitVec.toNat_or, ofInt_u64 a (by omega), ofInt_u64 b (by omega), IntKind.wrap_i64]
  omega

theorem i64_join (i : Nat) (a b : Int) (h1 : 0 ≤ a) (h2 : a < 9223372036854775808) (h3 : 0 ≤ b) (h4 : b < 2 ^ i) (h5 : b < 9223372036854775808) (hm : a.toNat % 2 ^ i = 0) : bits .or .i64 a b = a + b := by
  obtain ⟨A, rfl⟩ := Int.eq_ofNat_of_zero_le h1
  obtain ⟨B, rfl⟩ := Int.eq_ofNat_of_zero_le h3
  rw [i64_or_nat A B (by omega) (by omega), nat_join i A B (by simpa using hm) (by exact_mod_cast h4)]
  simp

/-- n << 8 | b, where nothing is lost. -/
theorem or_byte (a z : Int) (h1 : 0 ≤ a) (h2 : a < 4294967296) (h3 : 0 ≤ z) (h4 : z ≤ 255) : bits .or .i64 (wrap64 (a * 256)) (wrap64 z) = 256 * a + z := by
  rw [Go.IntWalk.wrap64_in _ (by omega), Go.IntWalk.wrap64_in _ (by omega), i64_join 8 _ _ (by omega) (by omega) h3 (by omega) (by omega) (by omega)]
  omega

/-- The number of bytes, the highest first. -/
def numOf (zs : List Int) : Int := zs.foldl (fun n z => 256 * n + z) 0

theorem numOf_snoc (zs : List Int) (z : Int) : numOf (zs ++ [z]) = 256 * numOf zs + z := by simp [numOf]

/-- A list of bytes. -/
def Bytes (zs : List Int) : Prop := ∀ z ∈ zs, 0 ≤ z ∧ z ≤ 255

theorem numOf_bd : ∀ (n : Nat) (zs : List Int), zs.length = n → Bytes zs → 0 ≤ numOf zs ∧ numOf zs < 256 ^ n
  | 0, zs, h, _ => by
    have : zs = [] := List.eq_nil_of_length_eq_zero h
    subst this; simp [numOf]
  | n + 1, zs, h, hb => by
    rcases List.eq_nil_or_concat zs with rfl | ⟨ys, y, rfl⟩
    · simp at h
    · rw [List.concat_eq_append] at *
      have h1 := numOf_bd n ys (by simpa using h) (fun z hz => hb z (by simp [hz]))
      have h2 := hb y (by simp)
      rw [numOf_snoc]
      rw [Int.pow_succ]
      omega

theorem take_snoc (zs : List Int) (k : Nat) (h : k < zs.length) : zs.take (k + 1) = zs.take k ++ [zs.getD k 0] := by
  rw [List.take_succ_eq_append_getElem h]; simp [List.getD, h]

theorem Bytes.take {zs : List Int} (h : Bytes zs) (k : Nat) : Bytes (zs.take k) := fun z hz => h z (List.mem_of_mem_take hz)
theorem Bytes.drop {zs : List Int} (h : Bytes zs) (k : Nat) : Bytes (zs.drop k) := fun z hz => h z (List.mem_of_mem_drop hz)
theorem Bytes.append {xs ys : List Int} (h : Bytes xs) (k : Bytes ys) : Bytes (xs ++ ys) := fun z hz => (List.mem_append.1 hz).elim (h z) (k z)
theorem Bytes.getD {zs : List Int} (h : Bytes zs) (k : Nat) : 0 ≤ zs.getD k 0 ∧ zs.getD k 0 ≤ 255 := by
  by_cases hk : k < zs.length
  · have := h zs[k] (List.getElem_mem hk)
    simpa [List.getD, hk] using this
  · simp [List.getD, Nat.le_of_not_lt hk]
theorem Bytes.nil : Bytes [] := fun _ h => by cases h

theorem numOf_le4 (zs : List Int) (hb : Bytes zs) (h : zs.length ≤ 3) : 0 ≤ numOf zs ∧ numOf zs < 4294967296 := by
  have h1 := numOf_bd zs.length zs rfl hb
  obtain ⟨h1, h2⟩ := h1
  refine ⟨h1, ?_⟩
  have h3 : zs.length = 0 ∨ zs.length = 1 ∨ zs.length = 2 ∨ zs.length = 3 := by omega
  rcases h3 with e | e | e | e <;> rw [e] at h2 <;> omega

/-- One round of a number's reading. -/
theorem numOf_round (zs : List Int) (hb : Bytes zs) (k : Nat) (hk : k < zs.length) (h4 : k ≤ 3) : bits .or .i64 (wrap64 (numOf (zs.take k) * 256)) (wrap64 (zs[k]?.getD 0)) = numOf (zs.take (k + 1)) := by
  have h1 := numOf_le4 (zs.take k) (hb.take k) (by simp; omega)
  have h2 := hb.getD k
  have e : zs[k]?.getD 0 = zs.getD k 0 := by simp [List.getD]
  rw [e, or_byte _ _ h1.1 h1.2 h2.1 h2.2, take_snoc zs k hk, numOf_snoc]

end Go.Proofs.YtpihigcnoifcfaaGreatDoor

/- Byte slices in memory: what a slice reads as, a slice that a call itself made (its room too), and the built-in append and the conversion to a string over them. -/
namespace Go.Proofs.YtpihigcnoifcfaaGreatDoor
set_option maxRecDepth 20000
open Go.RowKit

theorem u_bytes : Tryz.prog.underlying 26 = some (.slice 5) := Tryz.underlying26
theorem u_byte : Tryz.prog.underlying 5 = some (.int .u8) := Tryz.underlying5
theorem u_string : Tryz.prog.underlying 9 = some .string := Tryz.underlying9
theorem info_byte : (Tryz.prog.info? 5).map (fun i => (i.zero, i.size, i.bytes)) = some (some (.int .u8 0), 1, 1) := by kernel_rfl

theorem eql_bytes_nil (w : World) (a : Option Addr) (l c : Nat) : (binOp .eql 26 (.slice a l c) (.slice none 0 0)).run Tryz.prog w = .ok (.bool a.isNone) w :=
  Lib.run_eql_slice_nil w _ _ a l c 0 0 u_bytes
theorem neq_bytes_nil (w : World) (a : Option Addr) (l c : Nat) : (binOp .neq 26 (.slice a l c) (.slice none 0 0)).run Tryz.prog w = .ok (.bool (!a.isNone)) w :=
  run_neq_slice_nil_any w _ _ a l c 0 0 u_bytes

def B (zs : List Int) : Array Value := (zs.map (Value.int .u8)).toArray
theorem B_size (zs : List Int) : (B zs).size = zs.length := by simp [B]
theorem B_get (zs : List Int) (i : Nat) (h : i < zs.length) : (B zs)[i]? = some (.int .u8 (zs.getD i 0)) := by simp [B, List.getD, h]
theorem B_toList (zs : List Int) : (B zs).toList = zs.map (Value.int .u8) := by simp [B]

/-- Block g holds just these bytes. -/
def Row (w : World) (g : Nat) (zs : List Int) : Prop := w.heap[g]? = some (.cells (B zs) 5 (0, 0))

theorem Row.lt {w : World} {g : Nat} {zs : List Int} (h : Row w g zs) : g < w.heap.size := by
  unfold Row at h
  exact (Array.getElem?_eq_some_iff.1 h).1
theorem Row.cell {w : World} {g : Nat} {zs : List Int} (h : Row w g zs) (i : Nat) (hi : i < zs.length) : w.cell? ⟨g, i, none⟩ = some (.int .u8 (zs.getD i 0)) := by
  rw [cell_of_row w g i _ _ _ h, B_get zs i hi]
theorem Row.frozen {w : World} {g : Nat} {zs : List Int} (h : Row w g zs) (i : Nat) : w.frozen? ⟨g, i, none⟩ = false := frozen_of_row w g i _ _ h
theorem Row.eq {w : World} {g : Nat} {xs ys : List Int} (h : Row w g xs) (k : Row w g ys) : xs = ys := by
  unfold Row at h k
  rw [h] at k
  injection k with k
  injection k with k
  have := congrArg Array.toList k
  rw [B_toList, B_toList] at this
  exact List.map_inj_right (fun _ _ e => by injection e) |>.1 this
theorem Row.of_block {w w' : World} {g : Nat} {zs : List Int} (h : Row w g zs) (k : w'.heap[g]? = w.heap[g]?) : Row w' g zs := by unfold Row at *; rw [k]; exact h
theorem Row.drew {w : World} {g : Nat} {zs : List Int} (h : Row w g zs) : Row w.drew g zs := h

/-- v is a slice that reads as these bytes. -/
def Reads (w : World) (v : Value) (zs : List Int) : Prop :=
  ∃ a cap, v = .slice a zs.length cap ∧ zs.length ≤ cap ∧ (a = none → cap = 0) ∧ Bytes zs ∧
    (0 < zs.length → ∃ b off, a = some ⟨b, off, none⟩ ∧ ∀ i, i < zs.length → w.cell? ⟨b, off + i, none⟩ = some (.int .u8 (zs.getD i 0)))

theorem Reads.nil (w : World) : Reads w (.slice none 0 0) [] := ⟨none, 0, rfl, Nat.le_refl _, fun _ => rfl, Bytes.nil, fun h => by simp at h⟩

theorem Reads.grow {w w' : World} {v : Value} {zs : List Int} (h : Reads w v zs) (hb : Below w.heap.size w w') : Reads w' v zs := by
  obtain ⟨a, cap, e, h1, h2, h3, h4⟩ := h
  refine ⟨a, cap, e, h1, h2, h3, fun hp => ?_⟩
  obtain ⟨b, off, ea, hc⟩ := h4 hp
  refine ⟨b, off, ea, fun i hi => ?_⟩
  have hlt := block_lt_of_cell (hc i hi)
  rw [hb.cell hlt]
  exact hc i hi

/-- A slice of the call's own, from block 'base' on: the bytes zs, behind them the room sp. -/
def Own (base : Nat) (w : World) (v : Value) (zs sp : List Int) : Prop :=
  Bytes zs ∧ Bytes sp ∧ zs.length + sp.length ≤ maxLen ∧
  ((v = .slice none 0 0 ∧ zs = [] ∧ sp = []) ∨ ∃ g rest, base ≤ g ∧ v = .slice (some ⟨g, 0, none⟩) zs.length (zs.length + sp.length) ∧ Row w g (zs ++ sp ++ rest))

theorem Own.nil (base : Nat) (w : World) : Own base w (.slice none 0 0) [] [] := ⟨Bytes.nil, Bytes.nil, by simp, .inl ⟨rfl, rfl, rfl⟩⟩

theorem Own.empty (base : Nat) (w : World) (hb : base ≤ w.heap.size) : Own base (w.alloc (.cells #[] 5)) (.slice (some ⟨w.heap.size, 0, none⟩) 0 0) [] [] :=
  ⟨Bytes.nil, Bytes.nil, by simp, .inr ⟨w.heap.size, [], hb, rfl, heap_alloc_new w _⟩⟩

/-- Of a row that is known whole. -/
theorem Own.mk {base : Nat} {w : World} {g : Nat} {zs sp : List Int} (hz : Bytes zs) (hs : Bytes sp) (hl : zs.length + sp.length ≤ maxLen) (hb : base ≤ g) (h : Row w g (zs ++ sp)) : Own base w (.slice (some ⟨g, 0, none⟩) zs.length (zs.length + sp.length)) zs sp :=
  ⟨hz, hs, hl, .inr ⟨g, [], hb, rfl, by simpa using h⟩⟩

theorem Own.slice {b : Nat} {w : World} {v : Value} {zs sp : List Int} (h : Own b w v zs sp) : ∃ a c, v = .slice a zs.length c := by
  obtain ⟨_, _, _, h4⟩ := h
  rcases h4 with ⟨rfl, rfl, rfl⟩ | ⟨g, rest, hg, rfl, h5⟩
  · exact ⟨_, _, rfl⟩
  · exact ⟨_, _, rfl⟩

theorem Own.mono {b b' : Nat} {w : World} {v : Value} {zs sp : List Int} (h : Own b w v zs sp) (hb : b' ≤ b) : Own b' w v zs sp := by
  obtain ⟨h1, h2, h3, h4⟩ := h
  refine ⟨h1, h2, h3, ?_⟩
  rcases h4 with h4 | ⟨g, rest, hg, h5⟩
  · exact .inl h4
  · exact .inr ⟨g, rest, Nat.le_trans hb hg, h5⟩

theorem Own.of_block {b : Nat} {w w' : World} {v : Value} {zs sp : List Int} (h : Own b w v zs sp) (hw : ∀ k, v.ownBlock = some k → w'.heap[k]? = w.heap[k]?) : Own b w' v zs sp := by
  obtain ⟨h1, h2, h3, h4⟩ := h
  refine ⟨h1, h2, h3, ?_⟩
  rcases h4 with h4 | ⟨g, rest, hg, rfl, h5⟩
  · exact .inl h4
  · exact .inr ⟨g, rest, hg, rfl, h5.of_block (hw g rfl)⟩

theorem Own.lt {b : Nat} {w : World} {v : Value} {zs sp : List Int} (h : Own b w v zs sp) : ∀ k, v.ownBlock = some k → b ≤ k ∧ k < w.heap.size := by
  obtain ⟨h1, h2, h3, h4⟩ := h
  intro k hk
  rcases h4 with ⟨rfl, _⟩ | ⟨g, rest, hg, rfl, h5⟩
  · simp [Value.ownBlock] at hk
  · simp only [Value.ownBlock, Option.some.injEq] at hk
    subst hk
    exact ⟨hg, h5.lt⟩

theorem Own.grow {b : Nat} {w w' : World} {v : Value} {zs sp : List Int} (h : Own b w v zs sp) (hb : Below w.heap.size w w') : Own b w' v zs sp :=
  h.of_block fun k hk => hb.block k (h.lt k hk).2

theorem Own.reads {b : Nat} {w : World} {v : Value} {zs sp : List Int} (h : Own b w v zs sp) : Reads w v zs := by
  obtain ⟨h1, h2, h3, h4⟩ := h
  rcases h4 with ⟨rfl, rfl, rfl⟩ | ⟨g, rest, hg, rfl, h5⟩
  · exact Reads.nil w
  · refine ⟨_, _, rfl, by omega, fun h => by simp at h, h1, fun _ => ⟨g, 0, rfl, fun i hi => ?_⟩⟩
    rw [Nat.zero_add, h5.cell i (by simp; omega)]
    rw [List.append_assoc]
    simp [List.getD, List.getElem?_append_left hi]

theorem Reads.cells {w : World} {v : Value} {zs : List Int} (h : Reads w v zs) {x : Addr} {n c : Nat} (hv : v = .slice (some x) n c) : n = zs.length ∧ ∀ j u, (zs.map (Value.int .u8))[j]? = some u → w.cell? (x.add j) = some u := by
  obtain ⟨a, cap, e, h1, h2, h3, h4⟩ := h
  rw [e] at hv
  injection hv with e1 e2 e3
  subst e2
  refine ⟨rfl, fun j u hu => ?_⟩
  have hj : j < zs.length := by have := (List.getElem?_eq_some_iff.1 hu).1; simpa using this
  obtain ⟨b, off, ea, hc⟩ := h4 (by omega)
  rw [ea] at e1
  injection e1 with e1
  subst e1
  rw [Addr.add_lit, hc j hj]
  simp [hj] at hu
  simp [List.getD, hj, hu]

theorem zeros_bytes (n : Nat) : Builtin.zeroCells (Value.cells (.int .u8 0)) n = B (List.replicate n 0) := by
  apply Array.ext'
  simp only [Builtin.zeroCells, B, Value.cells]
  apply List.ext_getElem
  · simp
  · intro i h1 h2
    simp [Nat.mod_one]

theorem Bytes.zeros (n : Nat) : Bytes (List.replicate n 0) := fun z hz => by rw [List.eq_of_mem_replicate hz]; omega

set_option maxRecDepth 20000 in
theorem run_app (ty : TypeId) (w : World) (base : Nat) (v x : Value) (zs sp ys : List Int) (ho : Own base w v zs sp) (hr : Reads w x ys) (hl0 : ys.length ≤ sp.length ∨ zs.length + ys.length ≤ 140737488355328) (hb : base ≤ w.heap.size) :
    ∃ v' w' sp', (Builtin.append_ #[26, 26] ty #[v, x]).run Tryz.prog w = .ok v' w' ∧ Own base w' v' (zs ++ ys) sp' ∧ w.grownBy w' v.ownBlock ∧
      (v'.ownBlock = v.ownBlock ∨ v'.ownBlock = some w.heap.size) ∧ (v' = .slice none 0 0 ↔ v = .slice none 0 0 ∧ ys = []) ∧ (ys.length ≤ sp.length → sp'.length = sp.length - ys.length) := by
  obtain ⟨i, hi, hz, hs, hby⟩ := info_parts info_byte
  have ht := u_bytes
  obtain ⟨b1, b2, b3, ho⟩ := ho
  have hby' := hr
  obtain ⟨a, cap, rfl, h1, h2, h3, h4⟩ := hby'
  have hnl : (ys.map (Value.int .u8)).length = ys.length * i.size := by simp [hs]
  have h1c := ints_oneCell .u8 ys
  rcases ho with ⟨rfl, rfl, rfl⟩ | ⟨g, hid, hg, rfl, hrow⟩
  · by_cases hy : ys = []
    · subst hy
      refine ⟨.slice none 0 0, w, [], ?_, Own.nil _ _, World.grownBy.refl _ _, .inl rfl, by simp, by simp⟩
      simp only [List.length_nil]
      cases a with
      | none => simp [Builtin.append_, run_underlying ht, sizeOf, typeInfo, hi, Builtin.lenOf, Builtin.firstCells]
      | some a => simp [Builtin.append_, run_underlying ht, sizeOf, typeInfo, hi, Builtin.lenOf, Builtin.firstCells, loadCells, loadCellsFrom]
    · have hpos : 0 < ys.length := List.length_pos_iff.2 hy
      have hl : ys.length ≤ 140737488355328 := by
        rcases hl0 with h | h
        · exact absurd (List.eq_nil_of_length_eq_zero (by simpa using h)) hy
        · simpa using h
      have hlen : ys.length ≤ maxLen := by simp only [maxLen]; omega
      obtain ⟨bb, off, rfl, hc⟩ := h4 hpos
      have hr' := run_append_nil (P := Tryz.prog) w 26 ty 5 i _ ht hi hz ⟨bb, off, none⟩ ys.length cap (ys.map (Value.int .u8)) hnl (hr.cells rfl).2 hpos (by omega) (by rw [hby]; omega)
      have hge := grownCap_ge w ys.length 0 5
      have hcm := grownCap_le_maxLen w ys.length 0 5 (by omega)
      refine ⟨_, _, List.replicate (grownCap w ys.length 0 5 - ys.length) 0, hr', ⟨by simpa using h3, Bytes.zeros _, by simp; omega, .inr ⟨w.heap.size, [], hb, ?_, ?_⟩⟩, ⟨rfl, rfl, rfl, by simp, fun k hk _ => Below.heap_alloc w.drew _ k hk⟩, .inr rfl, by simp [hy], fun h => absurd (List.eq_nil_of_length_eq_zero (by simpa using h)) hy⟩
      · simp; omega
      · unfold Row
        rw [zeros_bytes]
        rw [show (w.drew.alloc (.cells ((ys.map (Value.int .u8)).toArray ++ B (List.replicate (grownCap w ys.length 0 5 - ys.length) 0)) 5)).heap[w.heap.size]? = _ from heap_alloc_new w.drew _]
        simp [B]
  · have hxs : ∀ j u, (zs.map (Value.int .u8))[j]? = some u → w.cell? ((⟨g, 0, none⟩ : Addr).add j) = some u := by
      intro j u hu
      have hj : j < zs.length := by have := (List.getElem?_eq_some_iff.1 hu).1; simpa using this
      rw [Addr.add_lit, Nat.zero_add, hrow.cell j (by simp; omega)]
      simp [hj] at hu
      rw [List.append_assoc]
      simp [List.getD, List.getElem?_append_left hj, hj, hu]
    by_cases hroom : ys.length ≤ sp.length
    · by_cases hy : ys = []
      · subst hy
        refine ⟨_, w, sp, ?_, ⟨by simpa using b1, b2, by simpa using b3, .inr ⟨g, hid, hg, rfl, by simpa using hrow⟩⟩, World.grownBy.refl _ _, .inl rfl, by simp, by simp⟩
        cases a with
        | none => simp [Builtin.append_, run_underlying ht, sizeOf, typeInfo, hi, Builtin.lenOf, Builtin.firstCells, storeCells]
        | some a => simp [Builtin.append_, run_underlying ht, sizeOf, typeInfo, hi, Builtin.lenOf, Builtin.firstCells, loadCells, loadCellsFrom, storeCells]
      · have hpos : 0 < ys.length := List.length_pos_iff.2 hy
        obtain ⟨bb, off, rfl, hc⟩ := h4 hpos
        have hr' := run_append_room (P := Tryz.prog) w 26 ty 5 i ht hi g zs.length (zs.length + sp.length) (B (zs ++ sp ++ hid)) hrow ⟨bb, off, none⟩ ys.length cap (ys.map (Value.int .u8)) hnl (hr.cells rfl).2 h1c (by omega) (by rw [B_size]; simp [hs]; omega)
        refine ⟨_, _, sp.drop ys.length, hr', ⟨b1.append h3, b2.drop _, by simp; omega, .inr ⟨g, hid, hg, by simp; omega, ?_⟩⟩, ⟨rfl, rfl, rfl, by simp, fun k _ hk => setRow_other w g k _ (fun e => hk (by simp [Value.ownBlock, e]))⟩, .inl rfl, by simp, by simp⟩
        unfold Row
        rw [setRow_heap w g _ _ _ _ hrow]
        congr 2
        simp only [hs, Nat.mul_one, List.length_map, B]
        congr 1
        rw [List.append_assoc zs sp hid]
        simp [List.drop_append, List.append_assoc, show ys.length - sp.length = 0 by omega]
    · have hpos : 0 < ys.length := by omega
      have hl : zs.length + ys.length ≤ 140737488355328 := by omega
      have hlen : zs.length + ys.length ≤ maxLen := by simp only [maxLen]; omega
      obtain ⟨bb, off, rfl, hc⟩ := h4 hpos
      have hr' := run_append_grow (P := Tryz.prog) w 26 ty 5 i _ ht hi hz ⟨g, 0, none⟩ zs.length (zs.length + sp.length) (zs.map (Value.int .u8)) (by simp [hs]) hxs ⟨bb, off, none⟩ ys.length cap (ys.map (Value.int .u8)) hnl (hr.cells rfl).2 (by omega) (by simp only [maxLen] at hlen; omega) (by rw [hby]; exact growslice_fits (by omega) (by omega))
      have hge := grownCap_ge w (zs.length + ys.length) (zs.length + sp.length) 5
      have hcm := grownCap_le_maxLen w (zs.length + ys.length) (zs.length + sp.length) 5 hlen
      refine ⟨_, _, List.replicate (grownCap w (zs.length + ys.length) (zs.length + sp.length) 5 - (zs.length + ys.length)) 0, hr', ⟨b1.append h3, Bytes.zeros _, by simp; omega, .inr ⟨w.heap.size, [], hb, by simp; omega, ?_⟩⟩, ⟨rfl, rfl, rfl, by simp, fun k hk _ => Below.heap_alloc w.drew _ k hk⟩, .inr rfl, by simp, fun h => absurd h hroom⟩
      unfold Row
      rw [zeros_bytes]
      rw [show (w.drew.alloc (.cells ((zs.map (Value.int .u8)).toArray ++ (ys.map (Value.int .u8)).toArray ++ B (List.replicate (grownCap w (zs.length + ys.length) (zs.length + sp.length) 5 - (zs.length + ys.length)) 0)) 5)).heap[w.heap.size]? = _ from heap_alloc_new w.drew _]
      simp [B]

theorem wpList_app {ops : Array Oper} {rest : List Oper} {o : Oper} {a : Act} {Q : Exit → Act → World → Prop} (w : World) (hgd : o.guard = none) (s x : Operand)
    (hop : o.op = .call { callee := .builtin .append, args := #[s, x], argTypes := #[26, 26] })
    (base : Nat) (v xv : Value) (zs sp ys : List Int) (ho : Own base w v zs sp) (hr : Reads w xv ys) (hs : a.eval s = v) (hx : a.eval x = xv) (hl : zs.length + ys.length ≤ 140737488355328) (hb : base ≤ w.heap.size)
    (h : ∀ v' w' sp', Own base w' v' (zs ++ ys) sp' → w.grownBy w' v.ownBlock → (v'.ownBlock = v.ownBlock ∨ v'.ownBlock = some w.heap.size) → (v' = .slice none 0 0 ↔ v = .slice none 0 0 ∧ ys = []) → wpList Tryz.prog ops Q rest (a.put o.dst v') w') :
    wpList Tryz.prog ops Q (o :: rest) a w := by
  refine wpList_plain hgd fun K hK => ?_
  obtain ⟨v', w', sp', hr, h2, h3, h4, h5, _⟩ := run_app o.type w base v xv zs sp ys ho hr (.inr hl) hb
  unfold Oper.wp execOp
  simp only [hop, resolve, invoke, builtin, Sem.run_bind, Sem.run_pure, Result.andThen_ok, List.map_toArray, List.map_cons, List.map_nil, hs, hx, hr]
  exact hK _ _ (h v' w' sp' h2 h3 h4 h5)

/-- append within a region that draws its order. -/
theorem step_app {ops : Array Oper} {o : Oper} {a : Act} {K : Act → World → Prop} {Q : Exit → Act → World → Prop} {E : Prop} (w : World) (hgd : o.guard = none) (s x : Operand)
    (hop : o.op = .call { callee := .builtin .append, args := #[s, x], argTypes := #[26, 26] })
    (base : Nat) (v xv : Value) (zs sp ys : List Int) (ho : Own base w v zs sp) (hr : Reads w xv ys) (hs : a.eval s = v) (hx : a.eval x = xv) (hl : ys.length ≤ sp.length ∨ zs.length + ys.length ≤ 140737488355328) (hb : base ≤ w.heap.size)
    (h : ∀ v' w' sp', Own base w' v' (zs ++ ys) sp' → w.grownBy w' v.ownBlock → (v'.ownBlock = v.ownBlock ∨ v'.ownBlock = some w.heap.size) → (v' = .slice none 0 0 ↔ v = .slice none 0 0 ∧ ys = []) → (ys.length ≤ sp.length → sp'.length = sp.length - ys.length) → K (a.put o.dst v') w') :
    if Region.wanted o (yielded ops a.tmps) = true then Oper.wp Tryz.prog o a w K Q else E := by
  have hw : Region.wanted o (yielded ops a.tmps) = true := by simp [Region.wanted, hgd]
  rw [if_pos hw]
  obtain ⟨v', w', sp', hr, h2, h3, h4, h5, h6⟩ := run_app o.type w base v xv zs sp ys ho hr hl hb
  unfold Oper.wp execOp
  simp only [hop, resolve, invoke, builtin, Sem.run_bind, Sem.run_pure, Result.andThen_ok, List.map_toArray, List.map_cons, List.map_nil, hs, hx, hr]
  exact h v' w' sp' h2 h3 h4 h5 h6

end Go.Proofs.YtpihigcnoifcfaaGreatDoor

/- More on byte slices: the built-ins make and copy, and the conversion to a string, as laws for a walk. -/
namespace Go.Proofs.YtpihigcnoifcfaaGreatDoor
set_option maxRecDepth 20000
open Go.RowKit

theorem made_bytes (n : Nat) : madeCells (Value.cells (.int .u8 0)) n = B (List.replicate n 0) := by
  apply Array.ext'
  have h := toList_madeCells_one (.int .u8 0) n
  simp only [Value.cells] at *
  rw [h, B_toList]
  simp

theorem size_byte : (Tryz.prog.info? 5).map (·.size) = some 1 := by kernel_rfl

/-- make([]byte, l, c). -/
theorem wpList_mk {ops : Array Oper} {rest : List Oper} {o : Oper} {a : Act} {Q : Exit → Act → World → Prop} (w : World) (hgd : o.guard = none) (x y : Operand)
    (hop : o.op = Op.makeSlice 26 x y) (kl kc : IntKind) (L C : Int) (l c : Nat) (hx : a.eval x = .int kl L) (hy : a.eval y = .int kc C) (hL : L = (l : Int)) (hC : C = (c : Int)) (hlc : l ≤ c) (hc : c ≤ 281474976710656)
    (h : ∀ w', Row w' w.heap.size (List.replicate c 0) → Below w.heap.size w w' → w'.heap.size = w.heap.size + 1 → wpList Tryz.prog ops Q rest (a.put o.dst (.slice (some ⟨w.heap.size, 0, none⟩) l c)) w') :
    wpList Tryz.prog ops Q (o :: rest) a w := by
  refine wpList_plain hgd fun K hK => ?_
  obtain ⟨i, hi, hz, hs, hby⟩ := info_parts info_byte
  subst hL
  subst hC
  have hr := run_make (P := Tryz.prog) w 26 5 i _ u_bytes hi hz kl kc l c (by omega) (by omega) (by rw [hby]; omega) (by omega)
  rw [hs, Nat.mul_one, made_bytes] at hr
  simp only [Int.toNat_natCast] at hr
  unfold Oper.wp
  simp [execOp, hop, hx, hy, hr, Result.andThen]
  exact hK _ _ (h _ (heap_alloc_new w _) (grow_alloc w _) (by simp))

/-- copy(dst, src), dst in a row that is known whole. -/
theorem wpList_cp {ops : Array Oper} {rest : List Oper} {o : Oper} {a : Act} {Q : Exit → Act → World → Prop} (w : World) (hgd : o.guard = none) (d s : Operand)
    (hop : o.op = .call { callee := .builtin .copy, args := #[d, s], argTypes := #[26, 26] })
    (g off dl dc : Nat) (xs ys : List Int) (sv : Value) (hr : Row w g xs) (hs : Reads w sv ys) (hd : a.eval d = .slice (some ⟨g, off, none⟩) dl dc) (hx : a.eval s = sv) (hfit : off + dl ≤ xs.length)
    (h : ∀ w', Row w' g (xs.take off ++ ys.take dl ++ xs.drop (off + min ys.length dl)) → w.grownBy w' (some g) → w'.heap.size = w.heap.size → wpList Tryz.prog ops Q rest (a.put o.dst (.int .i64 (min ys.length dl : Nat))) w') :
    wpList Tryz.prog ops Q (o :: rest) a w := by
  have hs' := hs
  obtain ⟨sa, sc, rfl, h1, h2, h3, h4⟩ := hs'
  by_cases h0 : Nat.min ys.length dl = 0
  · refine wpList_copy_nothing hgd d s _ _ hop 5 u_bytes size_byte _ _ _ _ _ _ hd hx h0 ?_
    have e : xs.take off ++ ys.take dl ++ xs.drop (off + min ys.length dl) = xs := by
      have h0' : min ys.length dl = 0 := h0
      have : ys.take dl = [] := by
        apply List.eq_nil_of_length_eq_zero
        rw [List.length_take, Nat.min_comm]
        exact h0'
      rw [this, h0']; simp
    have h0' : min ys.length dl = 0 := h0
    have := h w (by rw [e]; exact hr) (World.grownBy.refl _ _) rfl
    rw [h0'] at this
    exact this
  · have hpos : 0 < ys.length := by
      have : Nat.min ys.length dl ≤ ys.length := Nat.min_le_left _ _
      omega
    obtain ⟨b, o', rfl, hc⟩ := h4 hpos
    have hmin : min ys.length dl ≤ dl := Nat.min_le_right _ _
    have hlen : ((ys.take dl).map (Value.int .u8)).length = Nat.min ys.length dl := by
      have : min dl ys.length = Nat.min ys.length dl := Nat.min_comm _ _
      simpa using this
    refine wpList_copy_own hgd d s _ _ hop 5 u_bytes size_byte g off dl dc ⟨b, o', none⟩ ys.length sc hd hx (B xs) _ hr ((ys.take dl).map (Value.int .u8)) hlen ?_ ?_ (ints_oneCell .u8 _) ?_
    · intro j v hv
      refine (hs.cells rfl).2 j v ?_
      have hj := (List.getElem?_eq_some_iff.1 hv).1
      rw [hlen] at hj
      have hj' : j < dl := Nat.lt_of_lt_of_le hj hmin
      rw [List.map_take, List.getElem?_take, if_pos hj'] at hv
      exact hv
    · rw [B_size, hlen]
      have : Nat.min ys.length dl = min ys.length dl := rfl
      omega
    · rw [hlen]
      refine h _ ?_ ⟨rfl, rfl, rfl, by simp, fun k _ hk => setRow_other w g k _ (fun e => hk (by simp [e]))⟩ (by simp)
      unfold Row
      rw [setRow_heap w g _ _ _ _ hr]
      congr 2
      have : Nat.min ys.length dl = min ys.length dl := rfl
      rw [this]
      simp [B, List.append_assoc]

/-- copy(dst, src) where dst is not too short. -/
theorem wpList_cpw {ops : Array Oper} {rest : List Oper} {o : Oper} {a : Act} {Q : Exit → Act → World → Prop} (w : World) (hgd : o.guard = none) (d s : Operand)
    (hop : o.op = .call { callee := .builtin .copy, args := #[d, s], argTypes := #[26, 26] })
    (g off dl dc n : Nat) (xs ys : List Int) (sv : Value) (hr : Row w g xs) (hs : Reads w sv ys) (hd : a.eval d = .slice (some ⟨g, off, none⟩) dl dc) (hx : a.eval s = sv) (hfit : off + dl ≤ xs.length) (hn : ys.length = n) (hle : n ≤ dl)
    (h : ∀ w', Row w' g (xs.take off ++ ys ++ xs.drop (off + n)) → w.grownBy w' (some g) → w'.heap.size = w.heap.size → wpList Tryz.prog ops Q rest (a.put o.dst (.int .i64 n)) w') :
    wpList Tryz.prog ops Q (o :: rest) a w := by
  subst hn
  refine wpList_cp w hgd d s hop g off dl dc xs ys sv hr hs hd hx hfit ?_
  rw [List.take_of_length_le hle, Nat.min_eq_left hle]
  exact h

theorem B_set (zs : List Int) (i : Nat) (z : Int) : (B zs).setIfInBounds i (.int .u8 z) = B (zs.set i z) := by
  apply Array.ext'
  simp [B, List.map_set]

theorem Row.set {w : World} {g : Nat} {zs : List Int} (h : Row w g zs) (i : Nat) (z : Int) : Row (w.setCell ⟨g, i, none⟩ (.int .u8 z)) g (zs.set i z) := by
  unfold Row
  rw [heap_setCell_same w g i _ _ _ h, B_set]

/-- string(v). -/
theorem conv_reads {w : World} {v : Value} {zs : List Int} (h : Reads w v zs) : (convert 26 9 v).run Tryz.prog w = .ok (.string (strOfNums zs)) w := by
  obtain ⟨a, c, rfl, h1, h2, h3, h4⟩ := h
  by_cases hz : zs = []
  · subst hz
    cases a with
    | none => exact run_convert_bytes_nil w _ _ u_bytes u_byte _ _ _ u_string
    | some x =>
      rw [run_convert_bytes_string w _ _ _ _ _ c u_bytes u_byte u_string, run_bytesToString w _ _ c [] (by simpa using run_loadCells_list (P := Tryz.prog) w x [] (by simp))]
      rfl
  · obtain ⟨b, off, rfl, hc⟩ := h4 (List.length_pos_iff.2 hz)
    exact run_convert_bytes_arg w _ _ u_bytes u_byte b off _ c zs rfl hc _ u_string

theorem str_beq (xs ys : List Int) (hx : Bytes xs) (hy : Bytes ys) : ((strOfNums xs).toList == (strOfNums ys).toList) = decide (xs = ys) := by
  rw [ByteArray.toList_eq, ByteArray.toList_eq, strOfNums_data, strOfNums_data]
  rw [Bool.eq_iff_iff]
  simp only [beq_iff_eq, decide_eq_true_eq]
  constructor
  · intro h
    have key : ∀ (l : List Int), Bytes l → (l.map fun n => UInt8.ofNat n.toNat).map (fun u => (u.toNat : Int)) = l := by
      intro l hl
      rw [List.map_map]
      conv => rhs; rw [← List.map_id l]
      apply List.map_congr_left
      intro z hz
      have := hl z hz
      simp only [Function.comp, id_eq, UInt8.toNat_ofNat']
      omega
    rw [← key xs hx, ← key ys hy, h]
  · rintro rfl; rfl

end Go.Proofs.YtpihigcnoifcfaaGreatDoor
