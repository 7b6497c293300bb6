/- Each key's last write, put in its place one by one; a map that is overridden. No program in this text. -/
import Derived.Test.YtagkmfgoahbclaaBo21
import Derived.Test.YtagkmfgoahbclaaBo12
namespace Go.Proofs.Ytagkmfgoahbclaa
set_option maxRecDepth 20000
open Go.RowKit

def LastAt (ls : List Wt) (i : Nat) : Prop := ∀ q, i < q → q < ls.length → ky ls q ≠ ky ls i
theorem lastW_at (ls : List Wt) (x : Wt) : LastW ls x ↔ ∃ j, ls[j]? = some x ∧ LastAt ls j := by
  constructor
  · rintro ⟨p, s, rfl, h⟩
    refine ⟨p.length, by simp, fun q q1 q2 e => ?_⟩
    obtain ⟨r, hr⟩ : ∃ r, q = p.length + 1 + r := ⟨q - p.length - 1, by omega⟩
    have hq : r < s.length := by simp at q2; omega
    have e1 : (p ++ x :: s)[q]? = some s[r] := by
      rw [List.getElem?_append_right (by omega), show q - p.length = r + 1 by omega, List.getElem?_cons_succ, List.getElem?_eq_getElem hq]
    rw [ky_get e1, ky_get (j := p.length) (x := x) (by simp)] at e
    exact h _ (List.getElem_mem hq) e
  · rintro ⟨j, hj, hl⟩
    have hjl := (List.getElem?_eq_some_iff.1 hj).1
    refine ⟨ls.take j, ls.drop (j + 1), ?_, fun y hy e => ?_⟩
    · have : ls[j] = x := (List.getElem?_eq_some_iff.1 hj).2
      rw [← this]
      simp
    · obtain ⟨i, hi, rfl⟩ := List.mem_iff_getElem.1 hy
      rw [List.length_drop] at hi
      refine hl (j + 1 + i) (by omega) (by omega) ?_
      rw [ky_get hj, ← e]
      unfold ky
      rw [getElem!_pos ls _ (by omega)]
      simp

/-- Of the first i those that are the last of their key, each in its place. -/
structure RoI (ls : List Wt) (i : Nat) (rs : List Wt) : Prop where
  ris : Ris rs
  mem : ∀ y, y ∈ rs.map nrm ↔ ∃ j x, j < i ∧ ls[j]? = some x ∧ LastAt ls j ∧ nrm x = y
theorem RoI.nil (ls : List Wt) : RoI ls 0 [] := ⟨List.Pairwise.nil, fun y => ⟨fun h => (by cases h), fun ⟨j, x, h, _⟩ => (by omega)⟩⟩
theorem RoI.skip {ls rs : List Wt} {i : Nat} (h : RoI ls i rs) (hn : ¬ LastAt ls i) : RoI ls (i + 1) rs := by
  refine ⟨h.ris, fun y => (h.mem y).trans ⟨?_, ?_⟩⟩
  · rintro ⟨j, x, h1, h2⟩
    exact ⟨j, x, by omega, h2⟩
  · rintro ⟨j, x, h1, h2, h3, h4⟩
    by_cases e : j = i
    · subst e; exact absurd h3 hn
    · exact ⟨j, x, by omega, h2, h3, h4⟩
theorem nrm_k {x y : Wt} (h : nrm x = nrm y) : x.k = y.k := by
  have := congrArg Wt.k h
  exact this
theorem RoI.put {ls rs : List Wt} {i p : Nat} {x X : Wt} (h : RoI ls i rs) (hx : ls[i]? = some x) (hl : LastAt ls i) (hX : nrm X = nrm x) (hk : Kys rs) (hkx : Key X.k) (hp : p ≤ rs.length) (lo : ∀ q, q < p → Ahead (ky rs q) X.k) (hi : p < rs.length → ¬ Ahead (ky rs p) X.k) : RoI ls (i + 1) (rs.take p ++ X :: rs.drop p) := by
  have hne : ∀ z ∈ rs, z.k ≠ X.k := fun z hz e => by
    obtain ⟨j, x', h1, h2, h3, h4⟩ := (h.mem (nrm z)).1 (List.mem_map_of_mem hz)
    refine h3 i h1 (List.getElem?_eq_some_iff.1 hx).1 ?_
    rw [ky_get hx, ky_get h2, ← nrm_k hX, ← e, nrm_k h4]
  have lo' : ∀ z ∈ rs.take p, Ahead z.k X.k := fun z hz => by
    obtain ⟨q, hq, rfl⟩ := List.mem_iff_getElem.1 hz
    rw [List.length_take] at hq
    have := lo q (by omega)
    unfold ky at this
    rw [getElem!_pos rs q (by omega)] at this
    simpa using this
  have hi' : ∀ z ∈ rs.drop p, Ahead X.k z.k := fun z hz => by
    obtain ⟨q, hq, rfl⟩ := List.mem_iff_getElem.1 hz
    rw [List.length_drop] at hq
    have h0 : Ahead X.k (ky rs p) := by
      rcases al_tot (hk.at (by omega)) hkx (hi (by omega)) with e | e
      · refine absurd e ?_
        unfold ky
        rw [getElem!_pos rs p (by omega)]
        exact hne _ (List.getElem_mem _)
      · exact e
    have e2 : (rs.drop p)[q].k = ky rs (p + q) := by unfold ky; rw [getElem!_pos rs (p + q) (by omega)]; simp
    rw [e2]
    by_cases e : q = 0
    · subst e; exact h0
    · have := List.pairwise_iff_getElem.1 h.ris p (p + q) (by omega) (by omega) (by omega)
      unfold ky at h0 ⊢
      rw [getElem!_pos rs p (by omega)] at h0
      rw [getElem!_pos rs (p + q) (by omega)]
      exact al_trans h0 this
  have hr : Ris (rs.take p ++ rs.drop p) := by rw [List.take_append_drop]; exact h.ris
  obtain ⟨r1, r2, r3⟩ := List.pairwise_append.1 hr
  refine ⟨List.pairwise_append.2 ⟨r1, List.pairwise_cons.2 ⟨hi', r2⟩, fun a ha b hb => ?_⟩, fun y => ?_⟩
  · rcases List.mem_cons.1 hb with rfl | hb
    · exact lo' a ha
    · exact r3 a ha b hb
  · have e : y ∈ (rs.take p ++ X :: rs.drop p).map nrm ↔ y = nrm X ∨ y ∈ rs.map nrm := by
      conv => rhs; rw [← List.take_append_drop p rs]
      simp only [List.map_append, List.map_cons, List.mem_append, List.mem_cons]
      constructor
      · rintro (h1 | h1 | h1)
        · exact .inr (.inl h1)
        · exact .inl h1
        · exact .inr (.inr h1)
      · rintro (h1 | h1 | h1)
        · exact .inr (.inl h1)
        · exact .inl h1
        · exact .inr (.inr h1)
    rw [e, h.mem]
    constructor
    · rintro (h1 | ⟨j, x', h1, h2⟩)
      · exact ⟨i, x, by omega, hx, hl, by rw [h1, hX]⟩
      · exact ⟨j, x', by omega, h2⟩
    · rintro ⟨j, x', h1, h2, h3, h4⟩
      by_cases ej : j = i
      · subst ej
        rw [hx] at h2
        injection h2 with h2
        exact .inl (by rw [← h4, ← h2, hX])
      · exact .inr ⟨j, x', by omega, h2, h3, h4⟩
theorem RoI.done {ls rs : List Wt} (h : RoI ls ls.length rs) : Lat (ls.map nrm) (rs.map nrm) := ⟨List.pairwise_map.2 h.ris, fun y => by
  rw [h.mem, LastW.nm]
  constructor
  · rintro ⟨j, x, h1, h2, h3, h4⟩
    exact ⟨x, (lastW_at ls x).2 ⟨j, h2, h3⟩, h4⟩
  · rintro ⟨x, h1, h2⟩
    obtain ⟨j, h3, h4⟩ := (lastW_at ls x).1 h1
    exact ⟨j, x, (List.getElem?_eq_some_iff.1 h3).1, h3, h4, h2⟩⟩

/-- An entry as a write. -/
def asW (e : List Int × List Int) (v : Value) : Wt := ⟨e.1, false, e.2, v⟩
/-- What is left of writes as entries. -/
def entW (rs : List Wt) : List (List Int × List Int) := (rs.filter fun x => !x.g).map fun x => (x.k, x.b)
theorem entW_nrm : ∀ (rs qs : List Wt), rs.map nrm = qs.map nrm → entW rs = entW qs
  | [], [], _ => rfl
  | [], _ :: _, h => by simp at h
  | _ :: _, [], h => by simp at h
  | x :: rs, y :: qs, h => by
    simp only [List.map_cons, List.cons.injEq] at h
    have ih := entW_nrm rs qs h.2
    have hg : x.g = y.g := by have := congrArg Wt.g h.1; exact this
    have hk := nrm_k h.1
    have hb : x.g = false → x.b = y.b := fun q => by
      have := congrArg Wt.b h.1
      unfold nrm at this
      simp only [← hg, q] at this
      simpa using this
    unfold entW at ih ⊢
    cases hx : x.g with
    | true => rw [List.filter_cons_of_neg (by simp [hx]), List.filter_cons_of_neg (by simp [← hg, hx])]; exact ih
    | false => rw [List.filter_cons_of_pos (by simp [hx]), List.filter_cons_of_pos (by simp [← hg, hx]), List.map_cons, List.map_cons, ih, hk, hb hx]

end Go.Proofs.Ytagkmfgoahbclaa

/- The document's Bit, Set, Common, Compare (rootcellarref04), as contracts. -/
namespace Go.Proofs.Ytagkmfgoahbclaa
set_option maxRecDepth 20000
open Go.RowKit

theorem half_step (x : Int) (k : Nat) : x / 2 ^ k / 2 = x / 2 ^ (k + 1) := by
  rw [Int.pow_succ, Int.ediv_ediv_of_nonneg (Int.pow_nonneg (by omega))]

end Go.Proofs.Ytagkmfgoahbclaa
