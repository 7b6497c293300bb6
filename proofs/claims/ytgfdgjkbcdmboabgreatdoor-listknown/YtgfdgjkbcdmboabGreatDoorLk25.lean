/- Entries in lists of the call's own, appended one by one; parts of an entry in memory. -/
import Derived.Test.YtgfdgjkbcdmboabGreatDoorLk24
import Derived.Great.BuildSlice
import Derived.Laws.AppendOwn
import Derived.Test.YtgfdgjkbcdmboabGreatDoorLk07
import Derived.Deep.RegionHeld
import Derived.Deep.RegionHeld2
import Derived.Test.YtgfdgjkbcdmboabGreatDoorLk17
namespace Go.Proofs.YtgfdgjkbcdmboabGreatDoor
set_option maxRecDepth 20000
open Go.RowKit

theorem rng_key {w : World} {g o : Nat} {k : List Int} {v : Value} (h : w.rangeAt g o (encP k v)) : w.rangeAt g o (B k).toList := by
  intro j u hu
  rw [B_toList] at hu
  have hj : j < (k.map (Value.int .u8)).length := (List.getElem?_eq_some_iff.1 hu).1
  refine h j u ?_
  unfold encP
  rw [List.getElem?_append_left hj]
  exact hu
theorem rng_val {w : World} {g o : Nat} {k : List Int} {v : Value} (h : w.rangeAt g o (encP k v)) (hk : k.length = 32) : w.cell? ⟨g, o + 32, none⟩ = some v := by
  refine h 32 v ?_
  unfold encP
  rw [List.getElem?_append_right (by simp [hk])]
  simp [hk]

/-- Entries with their values' slices, one behind the other. -/
def flatP (its : List (Ent × Value)) : List Value := its.flatMap fun p => encP p.1.1 p.2
theorem flatP_snoc (its : List (Ent × Value)) (p : Ent × Value) : flatP (its ++ [p]) = flatP its ++ encP p.1.1 p.2 := by simp [flatP]
theorem flatP_at : ∀ (its : List (Ent × Value)), (∀ p ∈ its, p.1.1.length = 32) → ∀ (i : Nat) (hi : i < its.length) (j : Nat) (v : Value), (encP its[i].1.1 its[i].2)[j]? = some v → (flatP its)[i * 33 + j]? = some v
  | [], _, i, hi, _, _, _ => by simp at hi
  | p :: r, hl, 0, _, j, v, h => by
    have h : (encP p.1.1 p.2)[j]? = some v := h
    have hj := (List.getElem?_eq_some_iff.1 h).1
    simp only [flatP, List.flatMap_cons, Nat.zero_mul, Nat.zero_add]
    rw [List.getElem?_append_left hj]
    exact h
  | p :: r, hl, i + 1, hi, j, v, h => by
    have ih := flatP_at r (fun q hq => hl q (by simp [hq])) i (by simpa using hi) j v (by simpa using h)
    have e1 : (encP p.1.1 p.2).length = 33 := encP_length _ _ (hl p (by simp))
    simp only [flatP, List.flatMap_cons]
    rw [List.getElem?_append_right (by omega), show (i + 1) * 33 + j - (encP p.1.1 p.2).length = i * 33 + j by omega]
    exact ih

theorem info_pair : ∃ i z, Tryz.prog.info? 66 = some i ∧ i.zero = some z ∧ i.size = 33 ∧ i.bytes = 56 ∧ z.cells.size = 33 := ⟨_, _, rfl, rfl, rfl, rfl, rfl⟩

/-- []api.Pair{x}. -/
theorem wpList_bsp {ops : Array Oper} {rest : List Oper} {op : Oper} {a : Act} {Q : Exit → Act → World → Prop} (w : World) (hgd : op.guard = none) (x : Operand) (ho : op.op = .buildSlice 33 1 #[(0, x)])
    (k : List Int) (v : Value) (hx : a.eval x = .agg (encP k v).toArray) (hl : k.length = 32)
    (hk : wpList Tryz.prog ops Q rest (a.put op.dst (.slice (some ⟨w.heap.size, 0, none⟩) 1 1)) (w.alloc (.cells (encP k v).toArray 66))) : wpList Tryz.prog ops Q (op :: rest) a w := by
  refine wpList_plain hgd fun K hK => ?_
  obtain ⟨i, z, hi, hz, hs, _, hzs⟩ := info_pair
  have hrun := run_buildSlice (P := Tryz.prog) w 33 66 1 #[(0, .agg (encP k v).toArray)] (encP k v).toArray i z Tryz.underlying33 hi hz (by rw [hs]; omega) (by rw [hs]; omega) (by
    rw [hs]
    obtain ⟨zs, hzz, hzl⟩ : ∃ zs : List Value, (Array.range (1 * 33)).map (z.cells[· % z.cells.size]!) = zs.toArray ∧ zs.length = 33 := ⟨_, (Array.toArray_toList).symm, by simp⟩
    rw [hzz]
    have := fill_one (fun i => some (i * 33, 33)) 0 0 33 (.agg (encP k v).toArray) (encP k v) zs [] rfl rfl (encP_length k v hl) (by omega)
    rw [show (#[(0, Value.agg (encP k v).toArray)] : Array (Nat × Value)).toList = [(0, Value.agg (encP k v).toArray)] from rfl, this, Instr.fill]
    simp [hzl])
  unfold Oper.wp execOp
  simp only [ho, List.map_toArray, List.map_cons, List.map_nil, hx, Sem.run_bind, hrun, Result.andThen_ok, Sem.run_pure]
  exact hK _ _ hk

/-- append of one entry. -/
theorem wpList_appP {ops : Array Oper} {rest : List Oper} {o : Oper} {a : Act} {Q : Exit → Act → World → Prop} (w : World) (hgd : o.guard = none) (s x : Operand)
    (hop : o.op = .call { callee := .builtin .append, args := #[s, x], argTypes := #[33, 33] })
    (base : Nat) (v : Value) (n : Nat) (xs : List Value) (hown : w.ownsRow base 66 33 v n xs) (hs : a.eval s = v) (g : Nat) (k : List Int) (u : Value) (hx : a.eval x = .slice (some ⟨g, 0, none⟩) 1 1)
    (hb : Blk w g 66 (encP k u).toArray) (hl : k.length = 32) (h1 : u.oneCell' = true) (hn : n ≤ 4096) (hbase : base ≤ w.heap.size)
    (h : ∀ v' w', w'.ownsRow base 66 33 v' (n + 1) (xs ++ encP k u) → w.grownBy w' v.ownBlock → wpList Tryz.prog ops Q rest (a.put o.dst v') w') :
    wpList Tryz.prog ops Q (o :: rest) a w := by
  obtain ⟨i, z, hi, hz, hsz, hby, hzs⟩ := info_pair
  refine wpList_append_own w hgd s x _ hop base _ i z 33 56 Tryz.underlying33 hi hz hsz hby hzs (by omega) v n xs hs hown ⟨g, 0, none⟩ 1 1 (encP k u) hx (by rw [encP_length k u hl]) ?_ ?_ (by simp only [maxLen]; omega) (by omega) hbase (fun v' w' h1 h2 _ => h v' w' h1 h2)
  · intro j q hq
    rw [Addr.add_lit, Nat.zero_add, hb.cell]
    simpa using hq
  · intro q hq
    unfold encP at hq
    rcases List.mem_append.1 hq with hq | hq
    · obtain ⟨z, _, rfl⟩ := List.mem_map.1 hq
      rfl
    · obtain rfl : q = u := by simpa using hq
      exact h1

theorem ownsP_below {w w' : World} {base : Nat} {v : Value} {n : Nat} {xs : List Value} (h : w.ownsRow base 66 33 v n xs) (hb : Below w.heap.size w w') : w'.ownsRow base 66 33 v n xs := by
  refine ⟨h.1, ?_⟩
  rcases h.2 with hn | ⟨g, cap, cur, rfl, hb2, hgg, rest⟩
  · exact .inl hn
  · exact .inr ⟨g, cap, cur, rfl, hb2, (hb.block g (Array.getElem?_eq_some_iff.1 hgg).1).trans hgg, rest⟩

/-- What was appended reads as entries. -/
theorem prAt_own {w : World} {base : Nat} {v : Value} {its : List (Ent × Value)} (h : w.ownsRow base 66 33 v its.length (flatP its)) (hk : ∀ p ∈ its, Key p.1.1) (hr : ∀ p ∈ its, Reads w p.2 p.1.2) :
    PrAt w v (fun i => (its.getD i (e00, undef)).2) (its.map (·.1)) := by
  have hget : ∀ i (hi : i < its.length), (its.map (·.1)).getD i e00 = its[i].1 ∧ its.getD i (e00, undef) = its[i] := fun i hi => ⟨by simp [List.getD, hi], by simp [List.getD, hi]⟩
  have hlast : ∀ i, i < (its.map (·.1)).length → Key ((its.map (·.1)).getD i e00).1 ∧ Reads w (its.getD i (e00, undef)).2 ((its.map (·.1)).getD i e00).2 := by
    intro i hi
    rw [List.length_map] at hi
    obtain ⟨e1, e2⟩ := hget i hi
    rw [e1, e2]
    exact ⟨hk _ (List.getElem_mem hi), hr _ (List.getElem_mem hi)⟩
  rcases h.2 with ⟨rfl, hn⟩ | ⟨g, cap, cur, rfl, _, hg, hcap, _, hsz, htake⟩
  · exact ⟨none, 0, by rw [List.length_map, hn], by rw [List.length_map]; omega, fun hp => by rw [List.length_map] at hp; omega, hlast⟩
  · refine ⟨_, cap, by rw [List.length_map], by rw [List.length_map]; exact hcap, fun _ => ⟨g, 0, rfl, fun i hi j u hu => ?_⟩, hlast⟩
    rw [List.length_map] at hi
    obtain ⟨e1, e2⟩ := hget i hi
    rw [e1] at hu
    simp only [e2] at hu
    have h1 := flatP_at its (fun p hp => (hk p hp).1) i hi j u hu
    rw [← htake] at h1
    have h2 : (cur.toList)[i * 33 + j]? = some u := by
      rw [List.getElem?_take] at h1
      split at h1
      · exact h1
      · cases h1
    rw [cell_of_row w g _ cur _ _ hg, Nat.zero_add]
    simpa using h2

theorem reads_one {w : World} {v : Value} {zs : List Int} (h : Reads w v zs) : v.oneCell' = true := by
  obtain ⟨a, c, rfl, _⟩ := h
  rfl

end Go.Proofs.YtgfdgjkbcdmboabGreatDoor

/- node.bare, Check, is, as contracts. -/
namespace Go.Proofs.YtgfdgjkbcdmboabGreatDoor
set_option maxRecDepth 20000
open Go.RowKit

/-- A node that may be. -/
def okN (k : Int) (a b c d : List Int) : Bool := decide ((k = 0 ∧ a = z32 ∧ b = z32 ∧ c = z32 ∧ d = z32) ∨ (k = 1 ∧ c = z32 ∧ d = z32) ∨ (k = 2 ∧ a = z32 ∧ b = z32))

theorem z_nd : Nd 0 z32 z32 z32 z32 := ⟨by omega, by omega, rfl, rfl, rfl, rfl, z32_bytes, z32_bytes, z32_bytes, z32_bytes⟩

def BarePost (k : Int) (a b c d : List Int) (w : World) (e : Ending) (w' : World) : Prop :=
  ∃ k' a' b' c' d', e = .returned (.agg (B (nd k' a' b' c' d'))) ∧ Nd k' a' b' c' d' ∧ okN k a b c d = decide (nd k a b c d = nd k' a' b' c' d') ∧ Below w.heap.size w w'

def okE (k : Int) (a b c d : List Int) : Int := if okN k a b c d = true then 0 else 2

end Go.Proofs.YtgfdgjkbcdmboabGreatDoor

/- Texts that were just made: where they lie; lists of such texts. -/
namespace Go.Proofs.YtgfdgjkbcdmboabGreatDoor
set_option maxRecDepth 20000
open Go.RowKit

/-- What a call leaves that tells a new text of n bytes. -/
def TxtPost (zs : List Int) (n : Nat) (w : World) (e : Ending) (w' : World) : Prop :=
  ∃ g c sp, e = .returned (.slice (some ⟨g, 0, none⟩) n c) ∧ w.heap.size ≤ g ∧ g < w'.heap.size ∧ Own w.heap.size w' (.slice (some ⟨g, 0, none⟩) n c) zs sp ∧ Below w.heap.size w w'

theorem txt_of_join {zs : List Int} {n : Nat} {w : World} {e : Ending} {w' : World} (hn : zs.length = n) (hp : 0 < n) (h : JoinPost zs w e w') : TxtPost zs n w e w' := by
  obtain ⟨v, sp, rfl, hO, hb⟩ := h
  subst hn
  have hl := hO.lt
  obtain ⟨h1, h2, h3, h4⟩ := hO
  rcases h4 with ⟨_, rfl, _⟩ | ⟨g, rest, hg, rfl, h5⟩
  · simp at hp
  · exact ⟨g, _, sp, rfl, hg, (hl g rfl).2, ⟨h1, h2, h3, .inr ⟨g, rest, hg, rfl, h5⟩⟩, hb⟩

theorem Parts.grow {w w' : World} {v : Value} {ps : List (List Int)} (h : Parts w v ps) (hb : Below w.heap.size w w') : Parts w' v ps := by
  obtain ⟨a, cap, V, rfl, h1, h2, h3, h4⟩ := h
  refine ⟨a, cap, V, rfl, h1, h2, fun hp => ?_, fun i hi => (h4 i hi).grow hb⟩
  obtain ⟨b, off, e, hc⟩ := h3 hp
  exact ⟨b, off, e, fun i hi => (hb.cell (p := ⟨b, off + i, none⟩) (block_lt_of_cell (hc i hi))).trans (hc i hi)⟩

/-- A new list of values that read as these bytes. -/
theorem parts_new (w : World) (vs : List Value) (ps : List (List Int)) (n : Nat) (hn : ps.length = n) (hv : vs.length = n) (hp : n ≤ 140737488355328) (h : ∀ i, i < n → Reads w (vs.getD i undef) (ps.getD i [])) :
    Parts (w.alloc (.cells vs.toArray 64)) (.slice (some ⟨w.heap.size, 0, none⟩) n n) ps := by
  subst hn
  refine ⟨_, ps.length, fun i => vs.getD i undef, rfl, Nat.le_refl _, hp, fun _ => ⟨w.heap.size, 0, rfl, fun i hi => ?_⟩, fun i hi => (h i hi).grow (grow_alloc w _)⟩
  have hr : (w.alloc (.cells vs.toArray 64)).heap[w.heap.size]? = some (.cells vs.toArray 64 (0, 0)) := heap_alloc_new w _
  rw [cell_of_row _ _ _ _ _ _ hr]
  simp [List.getD, hv, hi]

end Go.Proofs.YtgfdgjkbcdmboabGreatDoor
