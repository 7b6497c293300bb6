/- Slabs by definition: for each slot that was ever occupied how often it is held and the cells of its thing, and the free slots among them; how these lie in a list, cell by cell. -/
import Derived.Test.YtodigmmpodbpiaaSlMem
import Derived.LaidEqlPtr
namespace Go.Proofs.Ytodigmmpodbpiaa
set_option maxRecDepth 20000
open Go.RowKit

/-- What a slot holds: how often it is held, its thing's cells. -/
abbrev Pl := Nat × List Value

def cnt (ps : List Pl) (i : Nat) : Nat := (ps[i]?.getD (0, [])).1
def thg (ps : List Pl) (i : Nat) : List Value := (ps[i]?.getD (0, [])).2
def occs (ps : List Pl) : Nat := ps.countP fun p => decide (0 < p.1)

theorem cnt_out (ps : List Pl) (i : Nat) (h : ps.length ≤ i) : cnt ps i = 0 := by simp [cnt, List.getElem?_eq_none h]
theorem cnt_lt {ps : List Pl} {i : Nat} (h : 0 < cnt ps i) : i < ps.length := by
  apply Nat.lt_of_not_le
  intro hn
  rw [cnt_out ps i hn] at h
  omega
theorem cnt_set (ps : List Pl) (i j : Nat) (p : Pl) (hi : i < ps.length) : cnt (ps.set i p) j = if j = i then p.1 else cnt ps j := by
  unfold cnt
  rw [List.getElem?_set]
  by_cases h : i = j
  · subst h
    simp [hi]
  · rw [if_neg h, if_neg (fun e => h e.symm)]
theorem thg_set (ps : List Pl) (i j : Nat) (p : Pl) (hi : i < ps.length) : thg (ps.set i p) j = if j = i then p.2 else thg ps j := by
  unfold thg
  rw [List.getElem?_set]
  by_cases h : i = j
  · subst h
    simp [hi]
  · rw [if_neg h, if_neg (fun e => h e.symm)]
theorem cnt_snoc (ps : List Pl) (j : Nat) (p : Pl) : cnt (ps ++ [p]) j = if j = ps.length then p.1 else cnt ps j := by
  unfold cnt
  by_cases h : j = ps.length
  · subst h
    simp
  · rw [if_neg h]
    by_cases h2 : j < ps.length
    · rw [List.getElem?_append_left h2]
    · rw [List.getElem?_eq_none (by simp; omega), List.getElem?_eq_none (by omega)]
theorem thg_snoc (ps : List Pl) (j : Nat) (p : Pl) : thg (ps ++ [p]) j = if j = ps.length then p.2 else thg ps j := by
  unfold thg
  by_cases h : j = ps.length
  · subst h
    simp
  · rw [if_neg h]
    by_cases h2 : j < ps.length
    · rw [List.getElem?_append_left h2]
    · rw [List.getElem?_eq_none (by simp; omega), List.getElem?_eq_none (by omega)]
theorem occs_set (ps : List Pl) (i : Nat) (p : Pl) (hi : i < ps.length) : occs (ps.set i p) + (if 0 < cnt ps i then 1 else 0) = occs ps + (if 0 < p.1 then 1 else 0) := by
  induction ps generalizing i with
  | nil => simp at hi
  | cons q r ih =>
    cases i with
    | zero =>
      have e : cnt (q :: r) 0 = q.1 := rfl
      rw [e]
      simp only [occs, List.set_cons_zero, List.countP_cons, decide_eq_true_eq]
      omega
    | succ i =>
      have e : cnt (q :: r) (i + 1) = cnt r i := by simp [cnt]
      have := ih i (by simpa using hi)
      rw [e]
      simp only [occs, List.set_cons_succ, List.countP_cons, decide_eq_true_eq] at this ⊢
      omega
theorem occs_snoc (ps : List Pl) (p : Pl) : occs (ps ++ [p]) = occs ps + (if 0 < p.1 then 1 else 0) := by
  simp [occs, List.countP_append, List.countP_cons]

/-- A slab's state is one that calls lead to. -/
structure Inv (room : Nat) (ps : List Pl) (fr : List Nat) : Prop where
  r1 : 1 ≤ room
  r2 : room ≤ 65536
  len : ps.length ≤ room
  nod : fr.Nodup
  free : ∀ s ∈ fr, 1 ≤ s ∧ s ≤ ps.length ∧ cnt ps (s - 1) = 0
  sum : occs ps + fr.length = ps.length
  most : ∀ i, cnt ps i ≤ 1073741824

theorem Inv.new {room : Nat} (h1 : 1 ≤ room) (h2 : room ≤ 65536) : Inv room [] [] := ⟨h1, h2, by simp, by simp, by simp, by simp [occs], fun i => by simp [cnt]⟩

theorem Inv.takeFree {room s : Nat} {ps : List Pl} {fr : List Nat} (h : Inv room ps (fr ++ [s])) (x : List Value) : Inv room (ps.set (s - 1) (1, x)) fr := by
  obtain ⟨h1, h2, h3⟩ := h.free s (by simp)
  have hi : s - 1 < ps.length := by omega
  have ho := occs_set ps (s - 1) (1, x) hi
  rw [h3] at ho
  have hs := h.sum
  have hn := h.nod
  rw [List.nodup_append] at hn
  refine ⟨h.r1, h.r2, by simpa using h.len, hn.1, fun q hq => ?_, ?_, fun i => ?_⟩
  · obtain ⟨q1, q2, q3⟩ := h.free q (by simp [hq])
    have hne : q ≠ s := hn.2.2 q hq s (by simp)
    refine ⟨q1, by simpa using q2, ?_⟩
    rw [cnt_set ps _ _ _ hi, if_neg (by omega)]
    exact q3
  · simp at hs ho ⊢
    omega
  · rw [cnt_set ps _ _ _ hi]
    split
    · simp
    · exact h.most i

theorem Inv.takeNew {room : Nat} {ps : List Pl} (h : Inv room ps []) (hl : ps.length < room) (x : List Value) : Inv room (ps ++ [(1, x)]) [] := by
  have hs := h.sum
  have ho := occs_snoc ps (1, x)
  refine ⟨h.r1, h.r2, by simp; omega, by simp, by simp, ?_, fun i => ?_⟩
  · simp at hs ho ⊢
    omega
  · rw [cnt_snoc]
    split
    · simp
    · exact h.most i

/-- A held slot written over, still held. -/
theorem Inv.held {room i c : Nat} {ps : List Pl} {fr : List Nat} (h : Inv room ps fr) (hi : 0 < cnt ps i) (hc : 0 < c) (hm : c ≤ 1073741824) (x : List Value) : Inv room (ps.set i (c, x)) fr := by
  have hl := cnt_lt hi
  have ho := occs_set ps i (c, x) hl
  rw [if_pos hi, if_pos hc] at ho
  have hs := h.sum
  refine ⟨h.r1, h.r2, by simpa using h.len, h.nod, fun q hq => ?_, ?_, fun j => ?_⟩
  · obtain ⟨q1, q2, q3⟩ := h.free q hq
    refine ⟨q1, by simpa using q2, ?_⟩
    rw [cnt_set ps _ _ _ hl, if_neg (by intro e; rw [e] at q3; omega)]
    exact q3
  · simp at ho ⊢
    omega
  · rw [cnt_set ps _ _ _ hl]
    split
    · exact hm
    · exact h.most j

theorem Inv.drop {room i : Nat} {ps : List Pl} {fr : List Nat} (h : Inv room ps fr) (hi : 0 < cnt ps i) (z : List Value) : Inv room (ps.set i (0, z)) (fr ++ [i + 1]) := by
  have hl := cnt_lt hi
  have ho := occs_set ps i (0, z) hl
  rw [if_pos hi] at ho
  have hs := h.sum
  have hnot : i + 1 ∉ fr := fun hm => by
    have := (h.free (i + 1) hm).2.2
    simp at this
    omega
  refine ⟨h.r1, h.r2, by simpa using h.len, ?_, fun q hq => ?_, ?_, fun j => ?_⟩
  · rw [List.nodup_append]
    refine ⟨h.nod, by simp, fun a ha b hb e => ?_⟩
    simp at hb
    subst hb
    subst e
    exact hnot ha
  · rcases List.mem_append.1 hq with hq | hq
    · obtain ⟨q1, q2, q3⟩ := h.free q hq
      refine ⟨q1, by simpa using q2, ?_⟩
      rw [cnt_set ps _ _ _ hl]
      split
      · rfl
      · exact q3
    · obtain rfl : q = i + 1 := by simpa using hq
      refine ⟨by omega, by simp; omega, ?_⟩
      rw [cnt_set ps _ _ _ hl]
      simp
  · simp at ho ⊢
    omega
  · rw [cnt_set ps _ _ _ hl]
    split
    · simp
    · exact h.most j

theorem Inv.frlen {room : Nat} {ps : List Pl} {fr : List Nat} (h : Inv room ps fr) : fr.length ≤ ps.length := by
  have := h.sum
  omega

/-! ### Cell by cell -/
def flatS (ps : List Pl) : List Value := ps.flatMap fun p => Value.int .i64 (p.1 : Int) :: p.2
/-- Every thing has k cells. -/
def Wid (k : Nat) (ps : List Pl) : Prop := ∀ p ∈ ps, p.2.length = k ∧ ∀ u ∈ p.2, u.oneCell' = true

theorem Wid.nil (k : Nat) : Wid k [] := fun _ h => by cases h
theorem Wid.set {k : Nat} {ps : List Pl} (h : Wid k ps) (i c : Nat) (x : List Value) (hl : x.length = k) (h1 : ∀ u ∈ x, u.oneCell' = true) : Wid k (ps.set i (c, x)) := fun p hp => by
  rcases List.mem_or_eq_of_mem_set hp with hp | rfl
  · exact h p hp
  · exact ⟨hl, h1⟩
theorem Wid.snoc {k : Nat} {ps : List Pl} (h : Wid k ps) (c : Nat) (x : List Value) (hl : x.length = k) (h1 : ∀ u ∈ x, u.oneCell' = true) : Wid k (ps ++ [(c, x)]) := fun p hp => by
  rcases List.mem_append.1 hp with hp | hp
  · exact h p hp
  · obtain rfl : p = (c, x) := by simpa using hp
    exact ⟨hl, h1⟩
theorem Wid.at {k : Nat} {ps : List Pl} (h : Wid k ps) (i : Nat) (hi : i < ps.length) : (thg ps i).length = k ∧ ∀ u ∈ thg ps i, u.oneCell' = true := by
  have : thg ps i = ps[i].2 := by simp [thg, hi]
  rw [this]
  exact h _ (List.getElem_mem hi)

theorem flatS_snoc (ps : List Pl) (p : Pl) : flatS (ps ++ [p]) = flatS ps ++ (Value.int .i64 (p.1 : Int) :: p.2) := by simp [flatS]
theorem flatS_append (ps qs : List Pl) : flatS (ps ++ qs) = flatS ps ++ flatS qs := by simp [flatS]
theorem flatS_length {k : Nat} : ∀ {ps : List Pl}, Wid k ps → (flatS ps).length = ps.length * (k + 1)
  | [], _ => by simp [flatS]
  | p :: r, h => by
    have ih := flatS_length (k := k) (ps := r) (fun q hq => h q (by simp [hq]))
    have h1 := (h p (by simp)).1
    simp only [flatS, List.flatMap_cons, List.length_append, List.length_cons] at ih ⊢
    rw [Nat.add_mul]
    omega
theorem split_at (ps : List Pl) (i : Nat) (hi : i < ps.length) : ps = ps.take i ++ ((cnt ps i, thg ps i) :: ps.drop (i + 1)) := by
  have e : (cnt ps i, thg ps i) = ps[i] := by simp [cnt, thg, hi]
  rw [e, ← List.drop_eq_getElem_cons hi, List.take_append_drop]
theorem flatS_split (ps : List Pl) (i : Nat) (hi : i < ps.length) : flatS ps = flatS (ps.take i) ++ ((Value.int .i64 (cnt ps i : Int) :: thg ps i) ++ flatS (ps.drop (i + 1))) := by
  conv => lhs; rw [split_at ps i hi, flatS_append]
  simp [flatS]
theorem flatS_put (ps : List Pl) (i : Nat) (p : Pl) (hi : i < ps.length) : flatS (ps.set i p) = flatS (ps.take i) ++ ((Value.int .i64 (p.1 : Int) :: p.2) ++ flatS (ps.drop (i + 1))) := by
  rw [List.set_eq_take_append_cons_drop, if_pos hi, flatS_append]
  simp [flatS]
theorem Wid.take {k : Nat} {ps : List Pl} (h : Wid k ps) (i : Nat) : Wid k (ps.take i) := fun p hp => h p (List.mem_of_mem_take hp)
theorem flatS_head {k : Nat} {ps : List Pl} (h : Wid k ps) (i : Nat) (hi : i < ps.length) : (flatS (ps.take i)).length = i * (k + 1) := by
  rw [flatS_length (h.take i), List.length_take, Nat.min_eq_left (by omega)]

theorem flatS_count {k : Nat} {ps : List Pl} (h : Wid k ps) (i : Nat) (hi : i < ps.length) : (flatS ps)[i * (k + 1)]? = some (.int .i64 (cnt ps i : Int)) := by
  rw [flatS_split ps i hi, List.getElem?_append_right (by rw [flatS_head h i hi]; omega), flatS_head h i hi, Nat.sub_self]
  rfl
theorem flatS_thing {k : Nat} {ps : List Pl} (h : Wid k ps) (i : Nat) (hi : i < ps.length) (j : Nat) (u : Value) (hu : (thg ps i)[j]? = some u) : (flatS ps)[i * (k + 1) + 1 + j]? = some u := by
  have hj := (List.getElem?_eq_some_iff.1 hu).1
  rw [flatS_split ps i hi, List.getElem?_append_right (by rw [flatS_head h i hi]; omega), flatS_head h i hi, show i * (k + 1) + 1 + j - i * (k + 1) = j + 1 by omega, List.getElem?_append_left (by simp; omega)]
  simpa using hu
theorem flatS_setPlace {k : Nat} {ps : List Pl} (h : Wid k ps) (i c : Nat) (x : List Value) (hi : i < ps.length) (hx : x.length = k) : setL (flatS ps) (i * (k + 1)) (Value.int .i64 (c : Int) :: x) = flatS (ps.set i (c, x)) := by
  rw [flatS_put ps i _ hi]
  conv => lhs; rw [flatS_split ps i hi, ← flatS_head h i hi]
  exact setL_mid _ _ _ _ (by simp [hx, (h.at i hi).1])
theorem flatS_setCount {k : Nat} {ps : List Pl} (h : Wid k ps) (i c : Nat) (hi : i < ps.length) : (flatS ps).set (i * (k + 1)) (Value.int .i64 (c : Int)) = flatS (ps.set i (c, thg ps i)) := by
  rw [flatS_put ps i _ hi]
  conv => lhs; rw [flatS_split ps i hi, ← flatS_head h i hi]
  simp
theorem flatS_setThing {k : Nat} {ps : List Pl} (h : Wid k ps) (i : Nat) (x : List Value) (hi : i < ps.length) (hx : x.length = k) : setL (flatS ps) (i * (k + 1) + 1) x = flatS (ps.set i (cnt ps i, x)) := by
  rw [flatS_put ps i _ hi]
  conv => lhs; rw [flatS_split ps i hi, ← flatS_head h i hi]
  have := setL_mid x (flatS (ps.take i) ++ [Value.int .i64 (cnt ps i : Int)]) (thg ps i) (flatS (ps.drop (i + 1))) (by rw [hx, (h.at i hi).1])
  simpa using this

/-- Numbers as cells. -/
def nats (fr : List Nat) : List Value := fr.map fun (s : Nat) => Value.int .i64 (s : Int)
theorem nats_length (fr : List Nat) : (nats fr).length = fr.length := by simp [nats]
theorem nats_snoc (fr : List Nat) (s : Nat) : nats (fr ++ [s]) = nats fr ++ [Value.int .i64 (s : Int)] := by simp [nats]
theorem nats_take (fr : List Nat) (n : Nat) : (nats fr).take n = nats (fr.take n) := by simp [nats, List.map_take]
theorem nats_get (fr : List Nat) (i : Nat) (hi : i < fr.length) : (nats fr)[i]? = some (.int .i64 (fr.getD i 0 : Nat)) := by simp [nats, List.getD, hi]

/-- Slot 'slot' is not occupied. -/
def Vac (ps : List Pl) (slot : Int) : Prop := ∀ i : Nat, slot = (i : Int) + 1 → cnt ps i = 0

/-- The occupied slots among the first k, rising. -/
def slotsK (ps : List Pl) (k : Nat) : List Nat := ((List.range k).filter fun i => decide (0 < cnt ps i)).map (· + 1)
def slotsOf (ps : List Pl) : List Nat := slotsK ps ps.length

theorem slotsK_yes (ps : List Pl) (k : Nat) (h : 0 < cnt ps k) : slotsK ps (k + 1) = slotsK ps k ++ [k + 1] := by simp [slotsK, List.range_succ, List.filter_append, h]
theorem slotsK_no (ps : List Pl) (k : Nat) (h : ¬ 0 < cnt ps k) : slotsK ps (k + 1) = slotsK ps k := by simp [slotsK, List.range_succ, List.filter_append, h]
theorem slotsK_le (ps : List Pl) (k : Nat) : (slotsK ps k).length ≤ k := by
  have := List.length_filter_le (fun i => decide (0 < cnt ps i)) (List.range k)
  simpa [slotsK] using this
theorem slots_mem (ps : List Pl) (s : Nat) : s ∈ slotsOf ps ↔ ∃ i, s = i + 1 ∧ 0 < cnt ps i := by
  simp only [slotsOf, slotsK, List.mem_map, List.mem_filter, List.mem_range, decide_eq_true_eq]
  constructor
  · rintro ⟨i, ⟨_, h⟩, rfl⟩
    exact ⟨i, rfl, h⟩
  · rintro ⟨i, rfl, h⟩
    exact ⟨i, ⟨cnt_lt h, h⟩, rfl⟩
theorem occs_take (ps : List Pl) : ∀ k, k ≤ ps.length → (slotsK ps k).length = occs (ps.take k)
  | 0, _ => by simp [slotsK, occs]
  | k + 1, h => by
    have ih := occs_take ps k (by omega)
    have e : ps.take (k + 1) = ps.take k ++ [(cnt ps k, thg ps k)] := by
      have : (cnt ps k, thg ps k) = ps[k] := by simp [cnt, thg, show k < ps.length by omega]
      rw [this, List.take_succ_eq_append_getElem (by omega)]
    rw [e, occs_snoc]
    by_cases hc : 0 < cnt ps k
    · rw [slotsK_yes ps k hc, if_pos hc, List.length_append, ih]
      rfl
    · rw [slotsK_no ps k hc, if_neg hc, ih, Nat.add_zero]
theorem slots_length (ps : List Pl) : (slotsOf ps).length = occs ps := by
  rw [slotsOf, occs_take ps ps.length (Nat.le_refl _), List.take_length]

/-- The blocks of a slab whose lists are vp and vf. -/
def slB (g : Nat) (vp vf : Value) : List Nat := g :: (vp.ownBlock.toList ++ vf.ownBlock.toList)

theorem slB_mem {g : Nat} {vp vf : Value} {k : Nat} : k ∈ slB g vp vf ↔ k = g ∨ vp.ownBlock = some k ∨ vf.ownBlock = some k := by simp [slB]
theorem slB_new {g : Nat} {vp vf vp' vf' : Value} {w : World} (hp : vp'.ownBlock = vp.ownBlock ∨ ∃ k, vp'.ownBlock = some k ∧ w.heap.size ≤ k) (hf : vf'.ownBlock = vf.ownBlock ∨ ∃ k, vf'.ownBlock = some k ∧ w.heap.size ≤ k) : New (slB g vp vf) w (slB g vp' vf') := fun k hk => by
  rcases slB_mem.1 hk with rfl | h | h
  · exact .inl (slB_mem.2 (.inl rfl))
  · rcases hp with e | ⟨q, e, hq⟩
    · exact .inl (slB_mem.2 (.inr (.inl (e ▸ h))))
    · rw [e] at h
      injection h with h
      exact .inr (h ▸ hq)
  · rcases hf with e | ⟨q, e, hq⟩
    · exact .inl (slB_mem.2 (.inr (.inr (e ▸ h))))
    · rw [e] at h
      injection h with h
      exact .inr (h ▸ hq)

theorem set_last (ps : List Pl) (p q : Pl) : (ps ++ [p]).set ps.length q = ps ++ [q] := by simp

theorem eql_none {P : Program} (w : World) {tp te : TypeId} (a : Addr) (hp : P.underlying tp = some (.pointer te)) : (binOp .eql tp (.pointer none) (.pointer (some a))).run P w = .ok (.bool false) w := by
  have h : ∀ d : Nat, (Op.equalIn (d + 1) tp (.pointer none) (.pointer (some a))).run P w = .ok false w := fun d => by
    simp [Op.equalIn, run_underlying hp]
  simp only [binOp]
  simp [Op.equal, Op.maxDepth, h 9999]

theorem zero_nat : ∃ i z, Try.prog.info? 3 = some i ∧ i.zero = some z ∧ i.size = 1 ∧ i.bytes = 8 ∧ z = .int .i64 0 := ⟨_, _, rfl, rfl, rfl, rfl, rfl⟩

theorem info_nat : ∃ i z, Try.prog.info? 3 = some i ∧ i.zero = some z ∧ i.size = 1 ∧ i.bytes = 8 ∧ z.cells.size = 1 := ⟨_, _, rfl, rfl, rfl, rfl, rfl⟩

end Go.Proofs.Ytodigmmpodbpiaa
