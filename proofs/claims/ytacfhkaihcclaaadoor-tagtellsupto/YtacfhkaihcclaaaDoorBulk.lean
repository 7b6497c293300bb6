/- What the bound on an input's bulk gives: how long its lists are. And a slice of slices of bytes that came in. -/
import Derived.Test.YtacfhkaihcclaaaDoorArgs
import Derived.Test.YtacfhkaihcclaaaDoorJoin
import Derived.Deep.Slices
import Derived.JoinedCond
namespace Go.Proofs.YtacfhkaihcclaaaDoor
open Go.ChangeShapes Go.WideShapes Go.ChangeAt Go.RowKit

theorem bulk_pos {H : Type} (d : DataW H) : 0 < Rows.uptoBulk d := by
  cases d with
  | lit l => cases l <;> simp [Rows.uptoBulk]
  | nil | ptr _ | slice _ _ | agg _ | iface _ _ | map _ | held _ => simp [Rows.uptoBulk]

theorem bulk_all {H : Type} : ∀ (l : List (DataW H)), l.length ≤ Rows.uptoBulkAll l
  | [] => by simp
  | d :: l => by
    have h1 := bulk_pos d
    have h2 := bulk_all l
    simp only [Rows.uptoBulkAll, List.length_cons]
    omega

/-- The elements of a slice, and their bulk. -/
theorem bulk_slice {H : Type} (el sp : List (DataW H)) : el.length ≤ Rows.uptoBulk (.slice el sp) ∧ Rows.uptoBulkAll el ≤ Rows.uptoBulk (.slice el sp) := by
  have h := bulk_all el
  simp only [Rows.uptoBulk]
  omega

/-- A slice of bytes, read off the datum. -/
theorem trod_bytes {H : Type} {enc : TypeId × Value → H} {W : World} {fuel : Nat} {v : Value} {d : DataW H} {p : List MemPlace} (hf : DataW.trod enc Tryd.prog W 0 (fun _ => true) true fuel 25 [v] = some (d, p)) :
    ∃ zs, Reads W v zs ∧ zs.length ≤ Rows.uptoBulk d := by
  rcases open_ints u_bytes u_byte cells_byte hf with ⟨hcs, hx⟩ | ⟨x, l, c, zs, hcs, _, hl, hm, hz, hx, hcell, hwz⟩
  · simp only [List.cons.injEq, and_true] at hcs
    subst hcs
    exact ⟨[], Reads.nil _, by simp⟩
  · simp only [List.cons.injEq, and_true] at hcs
    subst hcs
    simp at hz
    simp only [Prod.mk.injEq] at hx
    have hlen : (zs.take l).length = l := by simp; omega
    refine ⟨zs.take l, ⟨some x, c, by rw [hlen], by omega, fun h => by simp at h, ?_, ?_⟩, ?_⟩
    · intro z hz'
      have := bounds_u8 (hwz z (List.mem_of_mem_take hz'))
      omega
    · intro hp
      rw [hlen] at hp
      obtain ⟨b, off, spot⟩ := x
      have hspot : spot = none := by
        have := World.cell?_spot (hcell 0 (by omega))
        simpa [Addr.add] using this
      subst hspot
      refine ⟨b, off, rfl, fun i hi => ?_⟩
      rw [hlen] at hi
      have := hcell i (by omega)
      rw [Addr.add_lit] at this
      rw [this]
      simp [List.getD, hi]
    · rw [hx.1]
      have := (bulk_slice (H := H) (lits .u8 (zs.take l)) (lits .u8 (zs.drop l))).1
      simpa [lits] using this

theorem cells_bytes : Tryd.prog.cellsOf 25 = 1 := by kernel_rfl

theorem flat_bulk {H : Type} (n : Nat) (Z : Nat → List Int) (D : Nat → DataW H) (h : ∀ i, i < n → (Z i).length ≤ Rows.uptoBulk (D i)) : (((List.range n).map Z).flatten).length ≤ Rows.uptoBulkAll ((List.range n).map D) := by
  induction n with
  | zero => simp
  | succ n ih =>
    have h1 := ih (fun i hi => h i (by omega))
    have h2 := h n (by omega)
    have app : ∀ (l r : List (DataW H)), Rows.uptoBulkAll (l ++ r) = Rows.uptoBulkAll l + Rows.uptoBulkAll r := by
      intro l r
      induction l with
      | nil => simp [Rows.uptoBulkAll]
      | cons x l ih => simp only [List.cons_append, Rows.uptoBulkAll, ih]; omega
    rw [List.range_succ, List.map_append, List.map_append, List.flatten_append, List.length_append, app]
    simp only [List.map_cons, List.map_nil, List.flatten_cons, List.flatten_nil, List.append_nil, Rows.uptoBulkAll]
    omega

/-- A slice of slices of bytes that came in. -/
theorem arg_parts {H : Type} {enc : TypeId × Value → H} {W : World} {base : Nat} {v : Value} {d : DataW H} {p : List MemPlace} (hv : Value.okWide Tryd.prog W .any base 22 v)
    (h : DataW.Trod enc Tryd.prog W 0 (fun _ => true) true 22 v d p) (hk : Rows.uptoBulk d ≤ 1048576) :
    ∃ ps, Parts W v ps ∧ ps.length ≤ 1048576 ∧ ps.flatten.length ≤ 1048576 := by
  obtain ⟨a, len, cap, rfl⟩ := okWide_slice Tryd.underlying22 hv
  obtain ⟨fuel, hf⟩ := h
  rcases Go.Deep.open_slice1 Tryd.underlying22 cells_bytes hf with ⟨hcs, hx⟩ | ⟨x, l, c, m, n, V, D, Pl, hcs, _, hl, hm, hmm, hx, hcell⟩
  · simp [Value.cells] at hcs
    obtain ⟨rfl, rfl, rfl⟩ := hcs
    exact ⟨[], ⟨none, 0, fun _ => .slice none 0 0, rfl, by simp, by simp, fun h => by simp at h, fun i hi => by simp at hi⟩, by simp, by simp⟩
  · simp [Value.cells] at hcs
    obtain ⟨rfl, rfl, rfl⟩ := hcs
    simp at hmm
    simp only [Prod.mk.injEq] at hx
    rw [hx.1] at hk
    have hb := bulk_slice ((List.range len).map D) ((List.range (m - len)).map fun j => D (len + j))
    rw [List.length_map, List.length_range] at hb
    have each : ∀ i, i < len → ∃ zs, Reads W (V i) zs ∧ zs.length ≤ Rows.uptoBulk (D i) := fun i hi => trod_bytes (hcell i (by omega)).2
    obtain ⟨Z, hZ⟩ := Go.Deep.choose_lt each
    have hpl : ((List.range len).map Z).length = len := by simp
    have hget : ∀ i, i < len → ((List.range len).map Z).getD i [] = Z i := fun i hi => by simp [List.getD, hi]
    refine ⟨(List.range len).map Z, ⟨some x, cap, V, by rw [hpl], by omega, by omega, ?_, ?_⟩, by omega, ?_⟩
    · intro hp
      rw [hpl] at hp
      obtain ⟨b, off, spot⟩ := x
      have hspot : spot = none := by
        have := World.cell?_spot (hcell 0 (by omega)).1
        simpa [Addr.add] using this
      subst hspot
      refine ⟨b, off, rfl, fun i hi => ?_⟩
      rw [hpl] at hi
      have := (hcell i (by omega)).1
      rw [Addr.add_lit] at this
      exact this
    · intro i hi
      rw [hpl] at hi
      rw [hget i hi]
      exact (hZ i hi).1
    · have := flat_bulk len Z D (fun i hi => (hZ i hi).2)
      omega

end Go.Proofs.YtacfhkaihcclaaaDoor
