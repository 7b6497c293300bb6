/- Nodes by value: 129 bytes in a row: a kind, and four arrays of 32. Their parts, their literals, and that two are held against each other whole. -/
import Derived.Test.YtagkmfgoahbclaaBo06
import Derived.Test.YtagkmfgoahbclaaBo05
import Derived.ChangeSame
namespace Go.Proofs.Ytagkmfgoahbclaa
set_option maxRecDepth 20000
open Go.RowKit

/-- xs lies in zs from o on. -/
def Seg (zs : List Int) (o : Nat) (xs : List Int) : Prop := ∀ j v, xs[j]? = some v → zs[o + j]? = some v

theorem Seg.mid (p xs q : List Int) (o : Nat) (h : p.length = o) : Seg (p ++ (xs ++ q)) o xs := fun j v hj => by
  have hlt : j < xs.length := (List.getElem?_eq_some_iff.1 hj).1
  rw [List.getElem?_append_right (by omega), show o + j - p.length = j by omega, List.getElem?_append_left hlt]
  exact hj

theorem Seg.range {w : World} {g : Nat} {t : TypeId} {zs xs : List Int} {o : Nat} (h : Seg zs o xs) (hb : Blk w g t (B zs)) : w.rangeAt g o (xs.map (Value.int .u8)) := fun j v hv => by
  rw [hb.cell]
  simp only [List.getElem?_map, Option.map_eq_some_iff] at hv
  obtain ⟨z, hz, rfl⟩ := hv
  simp [B, h j z hz]

/-- A node: its kind, its key, its value's digest, both sides'. -/
def nd (k : Int) (a b c d : List Int) : List Int := k :: (a ++ (b ++ (c ++ d)))
def z32 : List Int := List.replicate 32 0
theorem z32_length : z32.length = 32 := rfl
theorem z32_bytes : Bytes z32 := fun z hz => by rw [List.eq_of_mem_replicate hz]; omega

/-- What a node's fields are. -/
structure Nd (k : Int) (a b c d : List Int) : Prop where
  k0 : 0 ≤ k
  k1 : k < 256
  la : a.length = 32
  lb : b.length = 32
  lc : c.length = 32
  ld : d.length = 32
  ba : Bytes a
  bb : Bytes b
  bc : Bytes c
  bd : Bytes d

theorem Nd.length {k : Int} {a b c d : List Int} (h : Nd k a b c d) : (nd k a b c d).length = 129 := by simp [nd, h.la, h.lb, h.lc, h.ld]
theorem Nd.size {k : Int} {a b c d : List Int} (h : Nd k a b c d) : (B (nd k a b c d)).size = 129 := by rw [B_size, h.length]
theorem Nd.segA {k : Int} {a b c d : List Int} (_ : Nd k a b c d) : Seg (nd k a b c d) 1 a := Seg.mid [k] a _ 1 rfl
theorem Nd.segB {k : Int} {a b c d : List Int} (h : Nd k a b c d) : Seg (nd k a b c d) 33 b := by
  have := Seg.mid (k :: a) b (c ++ d) 33 (by simp [h.la])
  simpa [nd] using this
theorem Nd.segC {k : Int} {a b c d : List Int} (h : Nd k a b c d) : Seg (nd k a b c d) 65 c := by
  have := Seg.mid (k :: (a ++ b)) c d 65 (by simp [h.la, h.lb])
  simpa [nd] using this
theorem Nd.segD {k : Int} {a b c d : List Int} (h : Nd k a b c d) : Seg (nd k a b c d) 97 d := by
  have := Seg.mid (k :: (a ++ (b ++ c))) d [] 97 (by simp [h.la, h.lb, h.lc])
  simpa [nd] using this
theorem Nd.bytes {k : Int} {a b c d : List Int} (h : Nd k a b c d) : Bytes (nd k a b c d) := fun z hz => by
  have hk := h.k0; have hk1 := h.k1
  simp only [nd, List.mem_cons, List.mem_append] at hz
  rcases hz with rfl | hz | hz | hz | hz
  · omega
  · exact h.ba z hz
  · exact h.bb z hz
  · exact h.bc z hz
  · exact h.bd z hz

theorem nd_inj {k k' : Int} {a b c d a' b' c' d' : List Int} (h : Nd k a b c d) (h' : Nd k' a' b' c' d') : nd k a b c d = nd k' a' b' c' d' ↔ k = k' ∧ a = a' ∧ b = b' ∧ c = c' ∧ d = d' := by
  unfold nd
  constructor
  · intro e
    injection e with e1 e2
    obtain ⟨e3, e4⟩ := List.append_inj e2 (by rw [h.la, h'.la])
    obtain ⟨e5, e6⟩ := List.append_inj e4 (by rw [h.lb, h'.lb])
    obtain ⟨e7, e8⟩ := List.append_inj e6 (by rw [h.lc, h'.lc])
    exact ⟨e1, e3, e5, e7, e8⟩
  · rintro ⟨rfl, rfl, rfl, rfl, rfl⟩
    rfl

/-- Every list of 129 bytes is a node. -/
theorem nd_of (zs : List Int) (h : zs.length = 129) (hb : Bytes zs) : ∃ k a b c d, zs = nd k a b c d ∧ Nd k a b c d := by
  match zs, h with
  | k :: r, h =>
    have hr : r.length = 128 := by simpa using h
    have e : r = r.take 32 ++ ((r.drop 32).take 32 ++ ((r.drop 64).take 32 ++ (r.drop 96))) := by
      have e1 : r.drop 64 = (r.drop 64).take 32 ++ r.drop 96 := by
        have := (List.take_append_drop 32 (r.drop 64)).symm
        rwa [List.drop_drop] at this
      have e2 : r.drop 32 = (r.drop 32).take 32 ++ r.drop 64 := by
        have := (List.take_append_drop 32 (r.drop 32)).symm
        rwa [List.drop_drop] at this
      rw [← e1, ← e2, List.take_append_drop]
    refine ⟨k, r.take 32, (r.drop 32).take 32, (r.drop 64).take 32, r.drop 96, by rw [nd, ← e], ?_⟩
    have hm : ∀ z ∈ r, 0 ≤ z ∧ z ≤ 255 := fun z hz => hb z (by simp [hz])
    have hk := hb k (by simp)
    exact ⟨by omega, by omega, by simp [hr], by simp [hr], by simp [hr], by simp [hr],
      fun z hz => hm z (List.mem_of_mem_take hz), fun z hz => hm z (List.mem_of_mem_drop (List.mem_of_mem_take hz)), fun z hz => hm z (List.mem_of_mem_drop (List.mem_of_mem_take hz)), fun z hz => hm z (List.mem_of_mem_drop hz)⟩

theorem sz_path : (Try.prog.info? 34).map (·.size) = some 32 := by kernel_rfl

/-- load of a part of a block of bytes. -/
theorem wpList_ldm {ops : Array Oper} {rest : List Oper} {op : Oper} {a : Act} {Q : Exit → Act → World → Prop} (w : World) (hgd : op.guard = none) (x : Operand) (ty : TypeId) (ho : op.op = .load ty x)
    (g o : Nat) (t : TypeId) (zs xs : List Int) (hx : a.eval x = .pointer (some ⟨g, o, none⟩)) (h : Blk w g t (B zs)) (hs : Seg zs o xs) (n : Nat) (e : TypeId) (hu : Try.prog.underlying ty = some (.array n e)) (hi : (Try.prog.info? ty).map (·.size) = some xs.length)
    (hk : wpList Try.prog ops Q rest (a.put op.dst (.agg (B xs))) w) : wpList Try.prog ops Q (op :: rest) a w :=
  wpList_load_mid hgd ty x ho g o hx (xs.map (Value.int .u8)) _ (hs.range h) hu rfl (by rw [hi]; simp) hk

/-- The kind of a node in a block. -/
theorem Nd.kind {w : World} {g : Nat} {t : TypeId} {k : Int} {a b c d : List Int} (h : Blk w g t (B (nd k a b c d))) : w.cell? ⟨g, 0, none⟩ = some (.int .u8 k) := by
  rw [h.cell]
  simp [B, nd]

/-! ### Literals -/
theorem fold_put (off : Nat) : ∀ (xs : List Value) (s : Nat) (zs : List Value), off + s + xs.length ≤ zs.length →
    (xs.zipIdx s).foldl (fun (cs : Array Value) (p : Value × Nat) => cs.setIfInBounds (off + p.2) p.1) zs.toArray = (zs.take (off + s) ++ xs ++ zs.drop (off + s + xs.length)).toArray
  | [], s, zs, _ => by simp
  | x :: xs, s, zs, h => by
    rw [List.zipIdx_cons, List.foldl_cons]
    have e : zs.toArray.setIfInBounds (off + s) x = (zs.set (off + s) x).toArray := by simp
    rw [e, fold_put off xs (s + 1) _ (by simp at h ⊢; omega)]
    congr 1
    have h1 : off + s < zs.length := by simp at h; omega
    rw [show off + (s + 1) = off + s + 1 by omega, List.take_add_one]
    simp only [List.length_cons]
    rw [List.take_set_of_le (by omega), List.getElem?_set_self h1, List.drop_set_of_lt (by omega)]
    simp [show off + s + 1 + xs.length = off + s + (xs.length + 1) by omega]

theorem fill_one (place : Nat → Option (Nat × Nat)) (i off n : Nat) (v : Value) (xs zs : List Value) (rest : List (Nat × Value)) (hp : place i = some (off, n)) (hv : v.cells = xs.toArray) (hn : xs.length = n) (hz : off + n ≤ zs.length) :
    Instr.fill place zs.toArray ((i, v) :: rest) = Instr.fill place (zs.take off ++ xs ++ zs.drop (off + n)).toArray rest := by
  have h1 : ¬ ((v.cells.size ≠ n || off + v.cells.size > zs.toArray.size) = true) := by
    rw [hv]
    simp
    omega
  have h2 := fold_put off xs 0 zs (by omega)
  simp only [Nat.add_zero, hn] at h2
  rw [Instr.fill, hp]
  simp only
  rw [if_neg h1, hv]
  congr 1
  rw [← h2, show xs.toArray.zipIdx = xs.zipIdx.toArray by apply Array.ext <;> simp, List.foldl_toArray]

def ndPlaces : Nat → Option (Nat × Nat) := fun i => (#[(0, 1), (1, 32), (33, 32), (65, 32), (97, 32)] : Array (Nat × Nat))[i]?

theorem rep129 : B (List.replicate 129 0) = ((0 :: (z32 ++ (z32 ++ (z32 ++ z32)))).map (Value.int .u8)).toArray := rfl

theorem cells_b (xs : List Int) : (Value.agg (B xs)).cells = (xs.map (Value.int .u8)).toArray := rfl

/-! ### Equality -/
theorem part_seg {ty : TypeId} (zs xs : List Int) (o : Nat) (n : Nat) (e : TypeId) (hu : Try.prog.underlying ty = some (.array n e)) (hi : (Try.prog.info? ty).map (·.size) = some xs.length) (hs : Seg zs o xs) (w : World) :
    (part ty (B zs) o).run Try.prog w = .ok (.agg (B xs)) w := by
  cases hq : Try.prog.info? ty with
  | none => simp [hq] at hi
  | some i =>
    have hz : i.size = xs.length := by simpa [hq] using hi
    have hagg : (isAgg ty).run Try.prog w = .ok true w := by
      unfold isAgg
      rw [Sem.run_bind, run_underlying hu w]
      rfl
    have hex : (B zs).extract o (o + xs.length) = B xs := by
      apply Array.ext'
      simp only [Array.toList_extract, B_toList, List.extract_eq_take_drop]
      rw [← List.map_drop, ← List.map_take]
      congr 1
      apply List.ext_getElem?
      intro j
      rw [show o + xs.length - o = xs.length by omega, List.getElem?_take, List.getElem?_drop]
      by_cases hj : j < xs.length
      · rw [if_pos hj]
        have := hs j xs[j] (by simp)
        rw [this]
        simp
      · rw [if_neg hj, List.getElem?_eq_none (by omega)]
    simp [part, Sem.run_bind, hagg, sizeOf, typeInfo, hq, hz, hex]

theorem arr_eqd (d : Nat) {t : TypeId} (ht : Try.prog.underlying t = some (.array 32 5)) (xs ys : List Int) (hx : xs.length = 32) (hy : ys.length = 32) (w : World) : (Op.equalIn (d + 1 + 1) t (.agg (B xs)) (.agg (B ys))).run Try.prog w = .ok (decide (xs = ys)) w := by
  obtain ⟨i, hi⟩ : ∃ i, Try.prog.info? 5 = some i := ⟨_, rfl⟩
  rw [run_equalIn_array (P := Try.prog) w (d + 1) (B xs) (B ys) ht hi, cellsOf_byte,
    items_eq u_byte Try.isAgg5 d xs ys (B xs) (B ys) (fun i hi => B_get xs i hi) (fun i hi => B_get ys i hi) w _ (fun i hi => by rw [hx, hy]; simpa using hi), all_same 32 xs ys hx hy]

theorem eqF_cons {d : Nat} {xs ys : Array Value} {f : Field} {fs : List Field} {u v : Value} {r : Bool} {w : World} (hn : f.name ≠ "_") (hu : (part f.type xs f.offset).run Try.prog w = .ok u w) (hv : (part f.type ys f.offset).run Try.prog w = .ok v w) (hr : (Op.equalIn d f.type u v).run Try.prog w = .ok r w) :
    (Op.eqFields d xs ys (f :: fs)).run Try.prog w = if r = true then (Op.eqFields d xs ys fs).run Try.prog w else .ok false w := by
  rw [Op.eqFields, if_pos hn]
  simp only [Sem.run_bind, hu, hv, hr, Result.andThen_ok]
  cases r <;> simp

end Go.Proofs.Ytagkmfgoahbclaa

/- What an argument is in memory that is a node. -/
namespace Go.Proofs.Ytagkmfgoahbclaa
set_option maxRecDepth 20000
open Go.ChangeShapes Go.WideShapes Go.ChangeAt Go.RowKit

theorem okWide_str {t : TypeId} {fs : Array Field} {W : World} {base : Nat} {v : Value} (ht : Try.prog.underlying t = some (.struct fs)) (h : Value.okWide Try.prog W .any base t v) : ∃ cs, v = .agg cs := by
  unfold Value.okWide at h
  cases v <;> simp_all

/-- An array of bytes in the midst of what came in. -/
theorem trod_u8s {H : Type} {enc : TypeId × Value → H} {W : World} {fuel : Nat} {t : TypeId} {n : Nat} {cs : List Value} {x : DataW H × List MemPlace} (ht : Try.prog.underlying t = some (.array n 5)) (hct : Try.prog.cellsOf t = n)
    (h : DataW.trod enc Try.prog W 0 (fun _ => true) true fuel t cs = some x) : ∃ zs : List Int, zs.length = n ∧ cs = zs.map (Value.int .u8) ∧ Bytes zs := by
  obtain ⟨xs, m, rfl, hx, hl, hn, hel⟩ := DataW.trod_array ht h
  rw [hct] at hl
  have each : ∀ i, i < n → ∃ z, cs[i]? = some (.int .u8 z) ∧ (Lit.int .u8 z).wf = true := by
    intro i hi
    have h1 := hel i hi
    rw [cells_byte] at h1
    obtain ⟨y, hyi⟩ : ∃ y, xs[i]? = some y := ⟨xs[i]'(by omega), List.getElem?_eq_getElem (by omega)⟩
    rw [hyi] at h1
    obtain ⟨z, e1, _, w1⟩ := DataW.trod_int u_byte h1
    refine ⟨z, ?_, w1⟩
    have := congrArg (·[0]?) e1
    simpa [List.getElem?_take, List.getElem?_drop] using this
  obtain ⟨f, hf2⟩ := Go.Deep.choose_lt each
  refine ⟨(List.range n).map f, by simp, ?_, ?_⟩
  · apply List.ext_getElem?
    intro i
    by_cases hi : i < n
    · have := (hf2 i hi).1
      simp [hi]
      simpa using this
    · rw [List.getElem?_eq_none (by omega), List.getElem?_eq_none (by simp; omega)]
  · intro z hz
    obtain ⟨i, hi, rfl⟩ := List.mem_map.1 hz
    have := bounds_u8 (hf2 i (by simpa using hi)).2
    omega

end Go.Proofs.Ytagkmfgoahbclaa
