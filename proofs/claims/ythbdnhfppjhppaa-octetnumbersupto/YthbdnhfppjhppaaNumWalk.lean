/- OctetNumbers' walk: parts joined, numbers as bytes, held against the document's; what was lent is as it was; all lists are apart. -/
import Derived.Test.YthbdnhfppjhppaaRefNum
import Derived.Test.YthbdnhfppjhppaaApart
import Derived.Test.YthbdnhfppjhppaaKit2
namespace Go.Proofs.Ythbdnhfppjhppaa
open Go.RowKit

theorem info_slice : (Try.prog.info? 22).map (fun i => (i.zero, i.size, i.bytes)) = some (some (.slice none 0 0), 1, 24) := by kernel_rfl

/-- What a number of two bytes, and of four, is told as: the error and the bytes. -/
def p16 (n : Int) : Int × List Int := if 0 ≤ n ∧ n ≤ 65535 then (0, [n / 256, n % 256]) else (2, [])
def p32 (n : Int) : Int × List Int := if 0 ≤ n ∧ n ≤ 4294967295 then (0, [n / 16777216, n / 65536 % 256, n / 256 % 256, n % 256]) else (2, [])

theorem put16_any (n : Int) (w : World) : Calls Try.prog 19 #[.int .i64 n] w (PutPost (p16 n).1 (p16 n).2 w) := by
  unfold p16
  split
  · exact put16_ok n w (by omega) (by omega)
  · exact put16_bad n w (by omega)
theorem put32_any (n : Int) (w : World) : Calls Try.prog 20 #[.int .i64 n] w (PutPost (p32 n).1 (p32 n).2 w) := by
  unfold p32
  split
  · exact put32_ok n w (by omega) (by omega)
  · exact put32_bad n w (by omega)
theorem rput2_any (n : Int) (w : World) : Calls Try.prog 21 #[.int .i64 n, .int .i64 2] w (PutPost (p16 n).1 (p16 n).2 w) := by
  unfold p16
  split
  · rename_i h
    have := rput_ok2 n w (by omega) (by omega)
    have e : low 2 n = [n / 256, n % 256] := by simp [low]; omega
    rw [e] at this
    exact this
  · exact rput_bad n 2 w (.inl rfl) (by omega)
theorem rput4_any (n : Int) (w : World) : Calls Try.prog 21 #[.int .i64 n, .int .i64 4] w (PutPost (p32 n).1 (p32 n).2 w) := by
  unfold p32
  split
  · rename_i h
    have := rput_ok4 n w (by omega) (by omega)
    have e : low 4 n = [n / 16777216, n / 65536 % 256, n / 256 % 256, n % 256] := by simp [low]; omega
    rw [e] at this
    exact this
  · exact rput_bad n 4 w (.inr rfl) (by omega)

/-- A list that was lent, at block g. -/
def lentV (ps : List (List Int)) (j g : Nat) : Value := .slice (some ⟨g, 0, none⟩) (ps.getD j []).length ((ps.getD j []).length + 5)

/-- The lists lent so far, at the blocks gs. -/
structure Lent (ps : List (List Int)) (base : Nat) (gs : List Nat) (w : World) : Prop where
  row : ∀ j, j < gs.length → Row w (gs.getD j 0) (ps.getD j [] ++ marks (ps.getD j []).length)
  ge : ∀ j, j < gs.length → base ≤ gs.getD j 0
  ne : ∀ i j, i < gs.length → j < gs.length → i ≠ j → gs.getD i 0 ≠ gs.getD j 0

def vals (ps : List (List Int)) (gs : List Nat) : List Value := (List.range gs.length).map fun j => lentV ps j (gs.getD j 0)
theorem vals_length (ps : List (List Int)) (gs : List Nat) : (vals ps gs).length = gs.length := by simp [vals]
theorem vals_get (ps : List (List Int)) (gs : List Nat) (j : Nat) (h : j < gs.length) : (vals ps gs)[j]? = some (lentV ps j (gs.getD j 0)) := by simp [vals, h]
theorem vals_snoc (ps : List (List Int)) (gs : List Nat) (g : Nat) : vals ps (gs ++ [g]) = vals ps gs ++ [lentV ps gs.length g] := by
  unfold vals
  rw [List.length_append, List.length_singleton, List.range_succ, List.map_append]
  congr 1
  · apply List.map_congr_left
    intro j hj
    have hj' := List.mem_range.1 hj
    simp [List.getD, List.getElem?_append_left hj']
  · simp

/-- A block of slices is no block of bytes. -/
theorem Row.not_slices {w : World} {g : Nat} {zs : List Int} (h : Row w g zs) {cs : Array Value} (k : w.heap[g]? = some (.cells cs 22 (0, 0))) : False := by
  unfold Row at h
  rw [h] at k
  injection k with k
  injection k with _ k
  exact absurd k (by decide)

theorem owns_block {w : World} {base : Nat} {v : Value} {n : Nat} {xs : List Value} (h : w.ownsRow base 22 1 v n xs) {g : Nat} (hg : v.ownBlock = some g) : ∃ cs, w.heap[g]? = some (.cells cs 22 (0, 0)) := by
  obtain ⟨_, h2⟩ := h
  rcases h2 with ⟨rfl, _⟩ | ⟨g', cap, cur, rfl, _, hh, _⟩
  · simp [Value.ownBlock] at hg
  · simp only [Value.ownBlock, Option.some.injEq] at hg
    subst hg
    exact ⟨cur, hh⟩

theorem Lent.step {ps : List (List Int)} {base : Nat} {gs : List Nat} {w w' : World} (h : Lent ps base gs w) {row : Option Nat} (hg : w.grownBy w' row) (hr : ∀ k, row = some k → ∃ cs, w.heap[k]? = some (.cells cs 22 (0, 0))) : Lent ps base gs w' where
  row := fun j hj => by
    have hrow := h.row j hj
    refine hrow.of_block (hg.block _ hrow.lt (fun e => ?_))
    obtain ⟨cs, hcs⟩ := hr _ e.symm
    exact hrow.not_slices hcs
  ge := h.ge
  ne := h.ne

theorem Lent.grow {ps : List (List Int)} {base : Nat} {gs : List Nat} {w w' : World} (h : Lent ps base gs w) (hb : Below w.heap.size w w') : Lent ps base gs w' :=
  h.step (below_grown hb none) (fun k hk => by cases hk)

theorem Lent.snoc {ps : List (List Int)} {base : Nat} {gs : List Nat} {w w' : World} (h : Lent ps base gs w) (hb : Below w.heap.size w w') (hr : Row w' w.heap.size (ps.getD gs.length [] ++ marks (ps.getD gs.length []).length)) (hbase : base ≤ w.heap.size) : Lent ps base (gs ++ [w.heap.size]) w' where
  row := fun j hj => by
    by_cases e : j = gs.length
    · subst e
      simpa [List.getD] using hr
    · have hj' : j < gs.length := by simp at hj; omega
      have := (h.grow hb).row j hj'
      simpa [List.getD, List.getElem?_append_left hj'] using this
  ge := fun j hj => by
    by_cases e : j = gs.length
    · subst e
      simpa [List.getD] using hbase
    · have hj' : j < gs.length := by simp at hj; omega
      have := h.ge j hj'
      simpa [List.getD, List.getElem?_append_left hj'] using this
  ne := fun i j hi hj hij => by
    have get : ∀ j, j < gs.length → (gs ++ [w.heap.size]).getD j 0 = gs.getD j 0 := fun j hj => by simp [List.getD, List.getElem?_append_left hj]
    have last : (gs ++ [w.heap.size]).getD gs.length 0 = w.heap.size := by simp [List.getD]
    simp at hi hj
    by_cases e1 : i = gs.length
    · subst e1
      have hj' : j < gs.length := by omega
      rw [last, get j hj']
      have := (h.row j hj').lt
      omega
    · have hi' : i < gs.length := by omega
      by_cases e2 : j = gs.length
      · subst e2
        rw [last, get i hi']
        have := (h.row i hi').lt
        omega
      · have hj' : j < gs.length := by omega
        rw [get i hi', get j hj']
        exact h.ne i j hi' hj' hij

end Go.Proofs.Ythbdnhfppjhppaa
