/- Plain facts on numbers, lists of bytes and worlds, with no word of the program: bits of an int, bytes joined to numbers, what a world keeps. -/
import Derived.WalkKit
import Derived.WalkSpells
import Derived.WalkLawsBesides
namespace Go.Proofs.Ytodigmmpodbpiaa
set_option maxRecDepth 20000
open Go.RowKit

/-- Worlds that only grow: nothing that was there turns. -/
theorem grow_trans {a b c : World} (h : Below a.heap.size a b) (k : Below b.heap.size b c) : Below a.heap.size a c := h.trans (k.mono h.size)
theorem grow_alloc (w : World) (o : Obj) : Below w.heap.size w (w.alloc o) := (Below.refl _ _).alloc (Nat.le_refl _) o
theorem grow_alloc2 (w : World) (o p : Obj) : Below w.heap.size w ((w.alloc o).alloc p) := grow_trans (grow_alloc w o) (grow_alloc _ p)

theorem grown_below {w w' : World} {row : Option Nat} (h : w.grownBy w' row) (hr : ∀ k, row = some k → w.heap.size ≤ k) : Below w.heap.size w w' :=
  (Below.refl _ _).grown h (Nat.le_refl _) hr

theorem below_grown {w w' : World} (h : Below w.heap.size w w') (row : Option Nat) : w.grownBy w' row := ⟨h.os, h.tape, h.output, h.size, fun k hk _ => h.block k hk⟩

theorem grown_trans {a b c : World} {row : Option Nat} (h : a.grownBy b row) (k : b.grownBy c row) : a.grownBy c row :=
  ⟨k.os.trans h.os, k.tape.trans h.tape, k.output.trans h.output, Nat.le_trans h.size k.size, fun i hi hr => (k.block i (Nat.lt_of_lt_of_le hi h.size) hr).trans (h.block i hi hr)⟩

theorem grown_setCell (w : World) (b o : Nat) (v : Value) : w.grownBy (w.setCell ⟨b, o, none⟩ v) (some b) :=
  ⟨rfl, rfl, rfl, by simp, fun k _ hr => heap_setCell_other w _ k v (fun e => hr (by simp [e]))⟩

theorem undrew {w w1 : World} (h : Below w.drew.heap.size w.drew w1) : Below w.heap.size w w1 := ⟨h.os, h.tape, h.output, h.size, h.block⟩

theorem below_row {w0 w w' : World} {g : Nat} (hb : Below w0.heap.size w0 w) (hg : w.grownBy w' (some g)) (h : w0.heap.size ≤ g) : Below w0.heap.size w0 w' :=
  hb.grown hg hb.size (fun k hk => by injection hk with hk; omega)

theorem hidden {p : Prop} (h : p) : Hid p := h

theorem i64_or_nat (a b : Nat) (ha : a < 9223372036854775808) (hb : b < 9223372036854775808) : bits .or .i64 (a : Int) (b : Int) = ((a ||| b : Nat) : Int) := by
  have hx : a ||| b < 2 ^ 63 := Nat.or_lt_two_pow (by omega) (by omega)
  show IntKind.i64.wrap ((BitVec.ofInt 64 (a : Int) ||| BitVec.ofInt 64 (b : Int)).toNat : Int) = _
  rw [BitVec.toNat_or, ofInt_u64 a (by omega), ofInt_u64 b (by omega), IntKind.wrap_i64]
  omega

theorem i64_join (i : Nat) (a b : Int) (h1 : 0 ≤ a) (h2 : a < 9223372036854775808) (h3 : 0 ≤ b) (h4 : b < 2 ^ i) (h5 : b < 9223372036854775808) (hm : a.toNat % 2 ^ i = 0) : bits .or .i64 a b = a + b := by
  obtain ⟨A, rfl⟩ := Int.eq_ofNat_of_zero_le h1
  obtain ⟨B, rfl⟩ := Int.eq_ofNat_of_zero_le h3
  rw [i64_or_nat A B (by omega) (by omega), nat_join i A B (by simpa using hm) (by exact_mod_cast h4)]
  simp

/-- n << 8 | b, where nothing is lost. -/
theorem or_byte (a z : Int) (h1 : 0 ≤ a) (h2 : a < 4294967296) (h3 : 0 ≤ z) (h4 : z ≤ 255) : bits .or .i64 (wrap64 (a * 256)) (wrap64 z) = 256 * a + z := by
  rw [Go.IntWalk.wrap64_in _ (by omega), Go.IntWalk.wrap64_in _ (by omega), i64_join 8 _ _ (by omega) (by omega) h3 (by omega) (by omega) (by omega)]
  omega

/-- The number of bytes, the highest first. -/
def numOf (zs : List Int) : Int := zs.foldl (fun n z => 256 * n + z) 0

theorem numOf_snoc (zs : List Int) (z : Int) : numOf (zs ++ [z]) = 256 * numOf zs + z := by simp [numOf]

/-- A list of bytes. -/
def Bytes (zs : List Int) : Prop := ∀ z ∈ zs, 0 ≤ z ∧ z ≤ 255

theorem numOf_bd : ∀ (n : Nat) (zs : List Int), zs.length = n → Bytes zs → 0 ≤ numOf zs ∧ numOf zs < 256 ^ n
  | 0, zs, h, _ => by
    have : zs = [] := List.eq_nil_of_length_eq_zero h
    subst this; simp [numOf]
  | n + 1, zs, h, hb => by
    rcases List.eq_nil_or_concat zs with rfl | ⟨ys, y, rfl⟩
    · simp at h
    · rw [List.concat_eq_append] at *
      have h1 := numOf_bd n ys (by simpa using h) (fun z hz => hb z (by simp [hz]))
      have h2 := hb y (by simp)
      rw [numOf_snoc]
      rw [Int.pow_succ]
      omega

theorem take_snoc (zs : List Int) (k : Nat) (h : k < zs.length) : zs.take (k + 1) = zs.take k ++ [zs.getD k 0] := by
  rw [List.take_succ_eq_append_getElem h]; simp [List.getD, h]

theorem Bytes.take {zs : List Int} (h : Bytes zs) (k : Nat) : Bytes (zs.take k) := fun z hz => h z (List.mem_of_mem_take hz)
theorem Bytes.drop {zs : List Int} (h : Bytes zs) (k : Nat) : Bytes (zs.drop k) := fun z hz => h z (List.mem_of_mem_drop hz)
theorem Bytes.append {xs ys : List Int} (h : Bytes xs) (k : Bytes ys) : Bytes (xs ++ ys) := fun z hz => (List.mem_append.1 hz).elim (h z) (k z)
theorem Bytes.getD {zs : List Int} (h : Bytes zs) (k : Nat) : 0 ≤ zs.getD k 0 ∧ zs.getD k 0 ≤ 255 := by
  by_cases hk : k < zs.length
  · have := h zs[k] (List.getElem_mem hk)
    simpa [List.getD, hk] using this
  · simp [List.getD, Nat.le_of_not_lt hk]
theorem Bytes.nil : Bytes [] := fun _ h => by cases h

theorem numOf_le4 (zs : List Int) (hb : Bytes zs) (h : zs.length ≤ 3) : 0 ≤ numOf zs ∧ numOf zs < 4294967296 := by
  have h1 := numOf_bd zs.length zs rfl hb
  obtain ⟨h1, h2⟩ := h1
  refine ⟨h1, ?_⟩
  have h3 : zs.length = 0 ∨ zs.length = 1 ∨ zs.length = 2 ∨ zs.length = 3 := by omega
  rcases h3 with e | e | e | e <;> rw [e] at h2 <;> omega

/-- One round of a number's reading. -/
theorem numOf_round (zs : List Int) (hb : Bytes zs) (k : Nat) (hk : k < zs.length) (h4 : k ≤ 3) : bits .or .i64 (wrap64 (numOf (zs.take k) * 256)) (wrap64 (zs[k]?.getD 0)) = numOf (zs.take (k + 1)) := by
  have h1 := numOf_le4 (zs.take k) (hb.take k) (by simp; omega)
  have h2 := hb.getD k
  have e : zs[k]?.getD 0 = zs.getD k 0 := by simp [List.getD]
  rw [e, or_byte _ _ h1.1 h1.2 h2.1 h2.2, take_snoc zs k hk, numOf_snoc]

end Go.Proofs.Ytodigmmpodbpiaa
