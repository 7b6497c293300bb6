/- What an argument is in memory that is a pair of texts (a Clash). -/
import Derived.Test.YtacfhkaihcclaaaDoorArgs
import Derived.ChangeSame
import Derived.Deep.Slices
namespace Go.Proofs.YtacfhkaihcclaaaDoor
open Go.ChangeShapes Go.WideShapes Go.ChangeAt Go.RowKit

theorem cells_clash : Tryd.prog.cellsOf 45 = 2 := by kernel_rfl
theorem cells_list : Tryd.prog.cellsOf 25 = 1 := by kernel_rfl

/-- A slice of bytes in the midst of what came in. -/
theorem trod_sized {H : Type} {enc : TypeId × Value → H} {W : World} {fuel : Nat} {v : Value} {d : DataW H} {p : List MemPlace} (hf : DataW.trod enc Tryd.prog W 0 (fun _ => true) true fuel 25 [v] = some (d, p))
    {ts : List TypeId} {ds : List (DataW H)} (hsz : (DataW.weightsEach Tryd.prog ts ds).all (· ≤ reachBytes) = true) (j : Nat) (ht : ts[j]? = some 25) (hd : ds[j]? = some d) :
    ∃ zs, Reads W v zs ∧ zs.length ≤ 140737488355328 - 4096 := by
  rcases open_ints u_bytes u_byte cells_byte hf with ⟨hcs, hx⟩ | ⟨x, l, c, zs, hcs, _, hl, hm, hz, hx, hcell, hwz⟩
  · simp only [List.cons.injEq, and_true] at hcs
    subst hcs
    exact ⟨[], Reads.nil _, by simp⟩
  · simp only [List.cons.injEq, and_true] at hcs
    subst hcs
    simp at hz
    simp only [Prod.mk.injEq] at hx
    have hlen : (zs.take l).length = l := by simp; omega
    have hs := sized_slice hsz ht (by rw [hd, hx.1]) u_bytes
    rw [bytesOf_byte] at hs
    simp only [lits, List.length_map, List.length_take, List.length_drop, reachBytes] at hs
    refine ⟨zs.take l, ⟨some x, c, by rw [hlen], by omega, fun h => by simp at h, ?_, ?_⟩, by omega⟩
    · intro z hz'
      have := bounds_u8 (hwz z (List.mem_of_mem_take hz'))
      omega
    · intro hp
      rw [hlen] at hp
      obtain ⟨b, off, spot⟩ := x
      have hspot : spot = none := by
        have := World.cell?_spot (hcell 0 (by omega))
        simpa [Addr.add] using this
      subst hspot
      refine ⟨b, off, rfl, fun i hi => ?_⟩
      rw [hlen] at hi
      have := hcell i (by omega)
      rw [Addr.add_lit] at this
      rw [this]
      simp [List.getD, hi]

theorem okWide_st {t : TypeId} {fs : Array Field} {W : World} {base : Nat} {v : Value} (ht : Tryd.prog.underlying t = some (.struct fs)) (h : Value.okWide Tryd.prog W .any base t v) : ∃ cs, v = .agg cs := by
  unfold Value.okWide at h
  cases v <;> simp_all

/-- A pair of texts that came in. -/
theorem arg_clash {H : Type} {enc : TypeId × Value → H} {W : World} {base : Nat} {v : Value} {d : DataW H} {p : List MemPlace} (hv : Value.okWide Tryd.prog W .any base 45 v) (h : DataW.Trod enc Tryd.prog W 0 (fun _ => true) true 45 v d p)
    {ts : List TypeId} {ds : List (DataW H)} (hsz : (DataW.weightsEach Tryd.prog ts ds).all (· ≤ reachBytes) = true) (j : Nat) (ht : ts[j]? = some 45) (hd : ds[j]? = some d) :
    ∃ x y xs ys, v = .agg #[x, y] ∧ Reads W x xs ∧ Reads W y ys ∧ xs.length ≤ 140737488355328 - 4096 ∧ ys.length ≤ 140737488355328 - 4096 := by
  obtain ⟨cs, rfl⟩ := okWide_st Tryd.underlying45 hv
  obtain ⟨fuel, hf⟩ := h
  obtain ⟨y0, y1, n, hx, hl, h0, h1⟩ := trod_struct2 Tryd.underlying45 hf
  simp only [Value.cells] at hl h0 h1
  rw [cells_clash] at hl
  simp only [Prod.mk.injEq] at hx
  obtain ⟨l⟩ := cs
  match l, hl with
  | [v0, v1], _ =>
    simp [cells_list] at h0 h1
    have hsz2 : (DataW.weightsEach Tryd.prog [25, 25] [y0.1, y1.1]).all (· ≤ reachBytes) = true := by
      rw [List.all_eq_true] at hsz ⊢
      intro m hm
      refine hsz m (DataW.weights_mem_each ht hd m ?_)
      rw [hx.1]
      simp only [DataW.weights, Tryd.underlying45]
      exact hm
    obtain ⟨xs, r0, l0⟩ := trod_sized (d := y0.1) (p := y0.2) h0 hsz2 0 rfl rfl
    obtain ⟨ys, r1, l1⟩ := trod_sized (d := y1.1) (p := y1.2) h1 hsz2 1 rfl rfl
    exact ⟨v0, v1, xs, ys, rfl, r0, r1, l0, l1⟩

end Go.Proofs.YtacfhkaihcclaaaDoor
