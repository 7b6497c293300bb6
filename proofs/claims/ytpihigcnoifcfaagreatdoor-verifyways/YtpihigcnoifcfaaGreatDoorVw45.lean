/- What an argument is in memory that is a key or a digest. -/
import Derived.Test.YtpihigcnoifcfaaGreatDoorVw44
import Derived.Test.YtpihigcnoifcfaaGreatDoorVw05
import Derived.ChangeSame
import Derived.Deep.Slices
namespace Go.Proofs.YtpihigcnoifcfaaGreatDoor
set_option maxRecDepth 20000
open Go.ChangeShapes Go.WideShapes Go.ChangeAt Go.RowKit

theorem cells_path : Tryz.prog.cellsOf 24 = 32 := by kernel_rfl

theorem cells_hash : Tryz.prog.cellsOf 25 = 32 := by kernel_rfl

theorem arg_path {H : Type} {enc : TypeId × Value → H} {W : World} {base : Nat} {v : Value} {d : DataW H} {p : List MemPlace} (hv : Value.okWide Tryz.prog W .any base 24 v) (h : DataW.Trod enc Tryz.prog W 0 (fun _ => true) true 24 v d p) :
    ∃ zs, zs.length = 32 ∧ v = .agg (B zs) ∧ Bytes zs := by
  obtain ⟨zs, h1, h2, h3⟩ := arg_arr Tryz.underlying24 u_byte cells_byte cells_path hv h
  refine ⟨zs, h1, h2, fun z hz => ?_⟩
  have := bounds_u8 (h3 z hz)
  omega

theorem arg_hash {H : Type} {enc : TypeId × Value → H} {W : World} {base : Nat} {v : Value} {d : DataW H} {p : List MemPlace} (hv : Value.okWide Tryz.prog W .any base 25 v) (h : DataW.Trod enc Tryz.prog W 0 (fun _ => true) true 25 v d p) :
    ∃ zs, zs.length = 32 ∧ v = .agg (B zs) ∧ Bytes zs := by
  obtain ⟨zs, h1, h2, h3⟩ := arg_arr Tryz.underlying25 u_byte cells_byte cells_hash hv h
  refine ⟨zs, h1, h2, fun z hz => ?_⟩
  have := bounds_u8 (h3 z hz)
  omega

end Go.Proofs.YtpihigcnoifcfaaGreatDoor

/- What an argument is in memory that is a node. -/
namespace Go.Proofs.YtpihigcnoifcfaaGreatDoor
set_option maxRecDepth 20000
open Go.ChangeShapes Go.WideShapes Go.ChangeAt Go.RowKit

theorem okWide_str {t : TypeId} {fs : Array Field} {W : World} {base : Nat} {v : Value} (ht : Tryz.prog.underlying t = some (.struct fs)) (h : Value.okWide Tryz.prog W .any base t v) : ∃ cs, v = .agg cs := by
  unfold Value.okWide at h
  cases v <;> simp_all

/-- An array of bytes in the midst of what came in. -/
theorem trod_u8s {H : Type} {enc : TypeId × Value → H} {W : World} {fuel : Nat} {t : TypeId} {n : Nat} {cs : List Value} {x : DataW H × List MemPlace} (ht : Tryz.prog.underlying t = some (.array n 5)) (hct : Tryz.prog.cellsOf t = n)
    (h : DataW.trod enc Tryz.prog W 0 (fun _ => true) true fuel t cs = some x) : ∃ zs : List Int, zs.length = n ∧ cs = zs.map (Value.int .u8) ∧ Bytes zs := by
  obtain ⟨xs, m, rfl, hx, hl, hn, hel⟩ := DataW.trod_array ht h
  rw [hct] at hl
  have each : ∀ i, i < n → ∃ z, cs[i]? = some (.int .u8 z) ∧ (Lit.int .u8 z).wf = true := by
    intro i hi
    have h1 := hel i hi
    rw [cells_byte] at h1
    obtain ⟨y, hyi⟩ : ∃ y, xs[i]? = some y := ⟨xs[i]'(by omega), List.getElem?_eq_getElem (by omega)⟩
    rw [hyi] at h1
    obtain ⟨z, e1, _, w1⟩ := DataW.trod_int u_byte h1
    refine ⟨z, ?_, w1⟩
    have := congrArg (·[0]?) e1
    simpa [List.getElem?_take, List.getElem?_drop] using this
  obtain ⟨f, hf2⟩ := Go.Deep.choose_lt each
  refine ⟨(List.range n).map f, by simp, ?_, ?_⟩
  · apply List.ext_getElem?
    intro i
    by_cases hi : i < n
    · have := (hf2 i hi).1
      simp [hi]
      simpa using this
    · rw [List.getElem?_eq_none (by omega), List.getElem?_eq_none (by simp; omega)]
  · intro z hz
    obtain ⟨i, hi, rfl⟩ := List.mem_map.1 hz
    have := bounds_u8 (hf2 i (by simpa using hi)).2
    omega

theorem cells_node : Tryz.prog.cellsOf 33 = 129 := by kernel_rfl

theorem cells_kind : Tryz.prog.cellsOf 31 = 1 := by kernel_rfl

/-- The cells of a node that came in. -/
theorem trod_node {H : Type} {enc : TypeId × Value → H} {W : World} {fuel : Nat} {cs : List Value} {x : DataW H × List MemPlace} (h : DataW.trod enc Tryz.prog W 0 (fun _ => true) true fuel 33 cs = some x) :
    ∃ k a b c d, cs = (nd k a b c d).map (Value.int .u8) ∧ Nd k a b c d := by
  have hF : ∃ f0 f1 f2 f3 f4 : Field, Tryz.prog.underlying 33 = some (.struct #[f0, f1, f2, f3, f4]) ∧ (f0.type = 31 ∧ f0.offset = 0) ∧ (f1.type = 24 ∧ f1.offset = 1) ∧ (f2.type = 25 ∧ f2.offset = 33) ∧ (f3.type = 25 ∧ f3.offset = 65) ∧ (f4.type = 25 ∧ f4.offset = 97) :=
    ⟨_, _, _, _, _, Tryz.underlying33, ⟨rfl, rfl⟩, ⟨rfl, rfl⟩, ⟨rfl, rfl⟩, ⟨rfl, rfl⟩, ⟨rfl, rfl⟩⟩
  obtain ⟨f0, f1, f2, f3, f4, hu, ⟨t0, o0⟩, ⟨t1, o1⟩, ⟨t2, o2⟩, ⟨t3, o3⟩, ⟨t4, o4⟩⟩ := hF
  obtain ⟨xs, n, _, _, hl, hlen, hf⟩ := DataW.trod_struct hu h
  rw [cells_node] at hl
  match xs, hlen with
  | [y0, y1, y2, y3, y4], _ =>
    have e0 := hf 0 f0 rfl
    have e1 := hf 1 f1 rfl
    have e2 := hf 2 f2 rfl
    have e3 := hf 3 f3 rfl
    have e4 := hf 4 f4 rfl
    rw [t0, o0, cells_kind] at e0
    rw [t1, o1, cells_path] at e1
    rw [t2, o2, cells_hash] at e2
    rw [t3, o3, cells_hash] at e3
    rw [t4, o4, cells_hash] at e4
    obtain ⟨k, k1, _, kw⟩ := DataW.trod_int Tryz.underlying31 e0
    obtain ⟨a, la, ea, ba⟩ := trod_u8s Tryz.underlying24 cells_path e1
    obtain ⟨b, lb, eb, bb⟩ := trod_u8s Tryz.underlying25 cells_hash e2
    obtain ⟨c, lc, ec, bc⟩ := trod_u8s Tryz.underlying25 cells_hash e3
    obtain ⟨d, ld, ed, bd⟩ := trod_u8s Tryz.underlying25 cells_hash e4
    have hk := bounds_u8 kw
    refine ⟨k, a, b, c, d, ?_, ⟨by omega, by omega, la, lb, lc, ld, ba, bb, bc, bd⟩⟩
    have s4 : (cs.drop 97).take 32 = cs.drop 97 := List.take_of_length_le (by simp [hl])
    have s3 : cs.drop 65 = (cs.drop 65).take 32 ++ cs.drop 97 := by
      have := (List.take_append_drop 32 (cs.drop 65)).symm
      rwa [List.drop_drop] at this
    have s2 : cs.drop 33 = (cs.drop 33).take 32 ++ cs.drop 65 := by
      have := (List.take_append_drop 32 (cs.drop 33)).symm
      rwa [List.drop_drop] at this
    have s1 : cs.drop 1 = (cs.drop 1).take 32 ++ cs.drop 33 := by
      have := (List.take_append_drop 32 (cs.drop 1)).symm
      rwa [List.drop_drop] at this
    have s0 : cs = (cs.drop 0).take 1 ++ cs.drop 1 := by
      have := (List.take_append_drop 1 cs).symm
      simpa using this
    rw [s0, k1, s1, ea, s2, eb, s3, ec, ← s4, ed]
    simp [nd]

theorem arg_node {H : Type} {enc : TypeId × Value → H} {W : World} {base : Nat} {v : Value} {d : DataW H} {p : List MemPlace} (hv : Value.okWide Tryz.prog W .any base 33 v) (h : DataW.Trod enc Tryz.prog W 0 (fun _ => true) true 33 v d p) :
    ∃ k a b c e, v = .agg (B (nd k a b c e)) ∧ Nd k a b c e := by
  obtain ⟨fs, hu⟩ := u_node
  obtain ⟨cs, rfl⟩ := okWide_str hu hv
  obtain ⟨fuel, hf⟩ := h
  obtain ⟨k, a, b, c, e, h1, h2⟩ := trod_node hf
  refine ⟨k, a, b, c, e, ?_, h2⟩
  congr 1
  apply Array.ext'
  rw [B_toList]
  exact h1

end Go.Proofs.YtpihigcnoifcfaaGreatDoor

/- What an argument is in memory that is a pair of texts (a Clash). -/
namespace Go.Proofs.YtpihigcnoifcfaaGreatDoor
set_option maxRecDepth 20000
open Go.ChangeShapes Go.WideShapes Go.ChangeAt Go.RowKit

theorem cells_clash : Tryz.prog.cellsOf 51 = 2 := by kernel_rfl
theorem cells_list : Tryz.prog.cellsOf 26 = 1 := by kernel_rfl

/-- A slice of bytes in the midst of what came in. -/
theorem trod_sized {H : Type} {enc : TypeId × Value → H} {W : World} {fuel : Nat} {v : Value} {d : DataW H} {p : List MemPlace} (hf : DataW.trod enc Tryz.prog W 0 (fun _ => true) true fuel 26 [v] = some (d, p))
    {ts : List TypeId} {ds : List (DataW H)} (hsz : (DataW.weightsEach Tryz.prog ts ds).all (· ≤ reachBytes) = true) (j : Nat) (ht : ts[j]? = some 26) (hd : ds[j]? = some d) :
    ∃ zs, Reads W v zs ∧ zs.length ≤ 140737488355328 - 4096 := by
  rcases open_ints u_bytes u_byte cells_byte hf with ⟨hcs, hx⟩ | ⟨x, l, c, zs, hcs, _, hl, hm, hz, hx, hcell, hwz⟩
  · simp only [List.cons.injEq, and_true] at hcs
    subst hcs
    exact ⟨[], Reads.nil _, by simp⟩
  · simp only [List.cons.injEq, and_true] at hcs
    subst hcs
    simp at hz
    simp only [Prod.mk.injEq] at hx
    have hlen : (zs.take l).length = l := by simp; omega
    have hs := sized_slice hsz ht (by rw [hd, hx.1]) u_bytes
    rw [bytesOf_byte] at hs
    simp only [lits, List.length_map, List.length_take, List.length_drop, reachBytes] at hs
    refine ⟨zs.take l, ⟨some x, c, by rw [hlen], by omega, fun h => by simp at h, ?_, ?_⟩, by omega⟩
    · intro z hz'
      have := bounds_u8 (hwz z (List.mem_of_mem_take hz'))
      omega
    · intro hp
      rw [hlen] at hp
      obtain ⟨b, off, spot⟩ := x
      have hspot : spot = none := by
        have := World.cell?_spot (hcell 0 (by omega))
        simpa [Addr.add] using this
      subst hspot
      refine ⟨b, off, rfl, fun i hi => ?_⟩
      rw [hlen] at hi
      have := hcell i (by omega)
      rw [Addr.add_lit] at this
      rw [this]
      simp [List.getD, hi]

/-- A pair of texts that came in. -/
theorem arg_clash {H : Type} {enc : TypeId × Value → H} {W : World} {base : Nat} {v : Value} {d : DataW H} {p : List MemPlace} (hv : Value.okWide Tryz.prog W .any base 51 v) (h : DataW.Trod enc Tryz.prog W 0 (fun _ => true) true 51 v d p)
    {ts : List TypeId} {ds : List (DataW H)} (hsz : (DataW.weightsEach Tryz.prog ts ds).all (· ≤ reachBytes) = true) (j : Nat) (ht : ts[j]? = some 51) (hd : ds[j]? = some d) :
    ∃ x y xs ys, v = .agg #[x, y] ∧ Reads W x xs ∧ Reads W y ys ∧ xs.length ≤ 140737488355328 - 4096 ∧ ys.length ≤ 140737488355328 - 4096 := by
  obtain ⟨cs, rfl⟩ := okWide_st Tryz.underlying51 hv
  obtain ⟨fuel, hf⟩ := h
  obtain ⟨y0, y1, n, hx, hl, h0, h1⟩ := trod_struct2 Tryz.underlying51 hf
  simp only [Value.cells] at hl h0 h1
  rw [cells_clash] at hl
  simp only [Prod.mk.injEq] at hx
  obtain ⟨l⟩ := cs
  match l, hl with
  | [v0, v1], _ =>
    simp [cells_list] at h0 h1
    have hsz2 : (DataW.weightsEach Tryz.prog [26, 26] [y0.1, y1.1]).all (· ≤ reachBytes) = true := by
      rw [List.all_eq_true] at hsz ⊢
      intro m hm
      refine hsz m (DataW.weights_mem_each ht hd m ?_)
      rw [hx.1]
      simp only [DataW.weights, Tryz.underlying51]
      exact hm
    obtain ⟨xs, r0, l0⟩ := trod_sized (d := y0.1) (p := y0.2) h0 hsz2 0 rfl rfl
    obtain ⟨ys, r1, l1⟩ := trod_sized (d := y1.1) (p := y1.2) h1 hsz2 1 rfl rfl
    exact ⟨v0, v1, xs, ys, rfl, r0, r1, l0, l1⟩

end Go.Proofs.YtpihigcnoifcfaaGreatDoor
