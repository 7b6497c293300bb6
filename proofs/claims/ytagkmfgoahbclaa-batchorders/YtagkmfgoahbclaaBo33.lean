/- Texts that were just made: where they lie; lists of such texts. -/
import Derived.Test.YtagkmfgoahbclaaBo32
import Derived.Test.YtagkmfgoahbclaaBo29
namespace Go.Proofs.Ytagkmfgoahbclaa
set_option maxRecDepth 20000
open Go.RowKit

/-- What a call leaves that tells a new text of n bytes. -/
def TxtPost (zs : List Int) (n : Nat) (w : World) (e : Ending) (w' : World) : Prop :=
  ∃ g c sp, e = .returned (.slice (some ⟨g, 0, none⟩) n c) ∧ w.heap.size ≤ g ∧ g < w'.heap.size ∧ Own w.heap.size w' (.slice (some ⟨g, 0, none⟩) n c) zs sp ∧ Below w.heap.size w w'

theorem txt_of_join {zs : List Int} {n : Nat} {w : World} {e : Ending} {w' : World} (hn : zs.length = n) (hp : 0 < n) (h : JoinPost zs w e w') : TxtPost zs n w e w' := by
  obtain ⟨v, sp, rfl, hO, hb⟩ := h
  subst hn
  have hl := hO.lt
  obtain ⟨h1, h2, h3, h4⟩ := hO
  rcases h4 with ⟨_, rfl, _⟩ | ⟨g, rest, hg, rfl, h5⟩
  · simp at hp
  · exact ⟨g, _, sp, rfl, hg, (hl g rfl).2, ⟨h1, h2, h3, .inr ⟨g, rest, hg, rfl, h5⟩⟩, hb⟩

theorem Parts.grow {w w' : World} {v : Value} {ps : List (List Int)} (h : Parts w v ps) (hb : Below w.heap.size w w') : Parts w' v ps := by
  obtain ⟨a, cap, V, rfl, h1, h2, h3, h4⟩ := h
  refine ⟨a, cap, V, rfl, h1, h2, fun hp => ?_, fun i hi => (h4 i hi).grow hb⟩
  obtain ⟨b, off, e, hc⟩ := h3 hp
  exact ⟨b, off, e, fun i hi => (hb.cell (p := ⟨b, off + i, none⟩) (block_lt_of_cell (hc i hi))).trans (hc i hi)⟩

/-- A new list of values that read as these bytes. -/
theorem parts_new (w : World) (vs : List Value) (ps : List (List Int)) (n : Nat) (hn : ps.length = n) (hv : vs.length = n) (hp : n ≤ 140737488355328) (h : ∀ i, i < n → Reads w (vs.getD i undef) (ps.getD i [])) :
    Parts (w.alloc (.cells vs.toArray 35)) (.slice (some ⟨w.heap.size, 0, none⟩) n n) ps := by
  subst hn
  refine ⟨_, ps.length, fun i => vs.getD i undef, rfl, Nat.le_refl _, hp, fun _ => ⟨w.heap.size, 0, rfl, fun i hi => ?_⟩, fun i hi => (h i hi).grow (grow_alloc w _)⟩
  have hr : (w.alloc (.cells vs.toArray 35)).heap[w.heap.size]? = some (.cells vs.toArray 35 (0, 0)) := heap_alloc_new w _
  rw [cell_of_row _ _ _ _ _ _ hr]
  simp [List.getD, hv, hi]

end Go.Proofs.Ytagkmfgoahbclaa

/- Lists of bytes that were lent, one by one, into a slice of the law's own. -/
namespace Go.Proofs.Ytagkmfgoahbclaa
set_option maxRecDepth 20000
open Go.RowKit

theorem info_slice : (Try.prog.info? 35).map (fun i => (i.zero, i.size, i.bytes)) = some (some (.slice none 0 0), 1, 24) := by kernel_rfl
theorem u_listsL : Try.prog.underlying 30 = some (.slice 35) := Try.underlying30

/-- A list that was lent, at block g. -/
def lentV (ps : List (List Int)) (j g : Nat) : Value := .slice (some ⟨g, 0, none⟩) (ps.getD j []).length ((ps.getD j []).length + 5)

/-- The lists lent so far, at the blocks gs. -/
structure Lent (ps : List (List Int)) (base : Nat) (gs : List Nat) (w : World) : Prop where
  row : ∀ j, j < gs.length → Row w (gs.getD j 0) (ps.getD j [] ++ marks (ps.getD j []).length)
  ge : ∀ j, j < gs.length → base ≤ gs.getD j 0
  ne : ∀ i j, i < gs.length → j < gs.length → i ≠ j → gs.getD i 0 ≠ gs.getD j 0

def vals (ps : List (List Int)) (gs : List Nat) : List Value := (List.range gs.length).map fun j => lentV ps j (gs.getD j 0)
theorem vals_length (ps : List (List Int)) (gs : List Nat) : (vals ps gs).length = gs.length := by simp [vals]
theorem vals_get (ps : List (List Int)) (gs : List Nat) (j : Nat) (h : j < gs.length) : (vals ps gs)[j]? = some (lentV ps j (gs.getD j 0)) := by simp [vals, h]
theorem vals_snoc (ps : List (List Int)) (gs : List Nat) (g : Nat) : vals ps (gs ++ [g]) = vals ps gs ++ [lentV ps gs.length g] := by
  unfold vals
  rw [List.length_append, List.length_singleton, List.range_succ, List.map_append]
  congr 1
  · apply List.map_congr_left
    intro j hj
    have hj' := List.mem_range.1 hj
    simp [List.getD, List.getElem?_append_left hj']
  · simp

/-- A block of slices is no block of bytes. -/
theorem Row.not_slices {w : World} {g : Nat} {zs : List Int} (h : Row w g zs) {cs : Array Value} (k : w.heap[g]? = some (.cells cs 35 (0, 0))) : False := by
  unfold Row at h
  rw [h] at k
  injection k with k
  injection k with _ k
  exact absurd k (by decide)

theorem owns_block {w : World} {base : Nat} {v : Value} {n : Nat} {xs : List Value} (h : w.ownsRow base 35 1 v n xs) {g : Nat} (hg : v.ownBlock = some g) : ∃ cs, w.heap[g]? = some (.cells cs 35 (0, 0)) := by
  obtain ⟨_, h2⟩ := h
  rcases h2 with ⟨rfl, _⟩ | ⟨g', cap, cur, rfl, _, hh, _⟩
  · simp [Value.ownBlock] at hg
  · simp only [Value.ownBlock, Option.some.injEq] at hg
    subst hg
    exact ⟨cur, hh⟩

theorem Lent.step {ps : List (List Int)} {base : Nat} {gs : List Nat} {w w' : World} (h : Lent ps base gs w) {row : Option Nat} (hg : w.grownBy w' row) (hr : ∀ k, row = some k → ∃ cs, w.heap[k]? = some (.cells cs 35 (0, 0))) : Lent ps base gs w' where
  row := fun j hj => by
    have hrow := h.row j hj
    refine hrow.of_block (hg.block _ hrow.lt (fun e => ?_))
    obtain ⟨cs, hcs⟩ := hr _ e.symm
    exact hrow.not_slices hcs
  ge := h.ge
  ne := h.ne

theorem Lent.grow {ps : List (List Int)} {base : Nat} {gs : List Nat} {w w' : World} (h : Lent ps base gs w) (hb : Below w.heap.size w w') : Lent ps base gs w' :=
  h.step (below_grown hb none) (fun k hk => by cases hk)

theorem Lent.snoc {ps : List (List Int)} {base : Nat} {gs : List Nat} {w w' : World} (h : Lent ps base gs w) (hb : Below w.heap.size w w') (hr : Row w' w.heap.size (ps.getD gs.length [] ++ marks (ps.getD gs.length []).length)) (hbase : base ≤ w.heap.size) : Lent ps base (gs ++ [w.heap.size]) w' where
  row := fun j hj => by
    by_cases e : j = gs.length
    · subst e
      simpa [List.getD] using hr
    · have hj' : j < gs.length := by simp at hj; omega
      have := (h.grow hb).row j hj'
      simpa [List.getD, List.getElem?_append_left hj'] using this
  ge := fun j hj => by
    by_cases e : j = gs.length
    · subst e
      simpa [List.getD] using hbase
    · have hj' : j < gs.length := by simp at hj; omega
      have := h.ge j hj'
      simpa [List.getD, List.getElem?_append_left hj'] using this
  ne := fun i j hi hj hij => by
    have get : ∀ j, j < gs.length → (gs ++ [w.heap.size]).getD j 0 = gs.getD j 0 := fun j hj => by simp [List.getD, List.getElem?_append_left hj]
    have last : (gs ++ [w.heap.size]).getD gs.length 0 = w.heap.size := by simp [List.getD]
    simp at hi hj
    by_cases e1 : i = gs.length
    · subst e1
      have hj' : j < gs.length := by omega
      rw [last, get j hj']
      have := (h.row j hj').lt
      omega
    · have hi' : i < gs.length := by omega
      by_cases e2 : j = gs.length
      · subst e2
        rw [last, get i hi']
        have := (h.row i hi').lt
        omega
      · have hj' : j < gs.length := by omega
        rw [get i hi', get j hj']
        exact h.ne i j hi' hj' hij

theorem ownsRow_below {w w' : World} {base : Nat} {v : Value} {n : Nat} {xs : List Value} (h : w.ownsRow base 35 1 v n xs) (hb : Below w.heap.size w w') : w'.ownsRow base 35 1 v n xs := by
  refine h.kept (below_grown hb none) ?_
  cases hv : v.ownBlock with
  | none => exact .inl rfl
  | some k => exact .inr (by simp)

theorem ownsRow_slice {w : World} {base : Nat} {v : Value} {n : Nat} {xs : List Value} (h : w.ownsRow base 35 1 v n xs) : ∃ a c, v = .slice a n c ∧ (a = none → n = 0) := by
  obtain ⟨_, h2⟩ := h
  rcases h2 with ⟨rfl, rfl⟩ | ⟨g, cap, cur, rfl, _⟩
  · exact ⟨_, _, rfl, fun _ => rfl⟩
  · exact ⟨_, _, rfl, fun h => by simp at h⟩

/-- append on a slice of slices of the call's own. -/
theorem wpList_appS {ops : Array Oper} {rest : List Oper} {o : Oper} {a : Act} {Q : Exit → Act → World → Prop} (w : World) (hgd : o.guard = none) (s x : Operand)
    (hop : o.op = .call { callee := .builtin .append, args := #[s, x], argTypes := #[30, 30] })
    (base : Nat) (v : Value) (n : Nat) (xs : List Value) (hown : w.ownsRow base 35 1 v n xs) (hs : a.eval s = v) (ad : Addr) (m c : Nat) (news : List Value) (hl : news.length = m) (hx : a.eval x = .slice (some ad) m c)
    (hnews : ∀ j u, news[j]? = some u → w.cell? (ad.add j) = some u) (h1 : ∀ u ∈ news, u.oneCell' = true) (hb : n + m ≤ 1000000000) (hbase : base ≤ w.heap.size)
    (h : ∀ v' w', w'.ownsRow base 35 1 v' (n + m) (xs ++ news) → w.grownBy w' v.ownBlock → wpList Try.prog ops Q rest (a.put o.dst v') w') :
    wpList Try.prog ops Q (o :: rest) a w := by
  obtain ⟨i, hi, hz, hsz, hby⟩ := info_parts info_slice
  exact wpList_append_own w hgd s x _ hop base _ i _ 1 24 u_listsL hi hz hsz hby rfl (by omega) v n xs hs hown ad m c news hx (by omega) hnews h1 (by simp only [maxLen]; omega) (by omega) hbase (fun v' w' h1 h2 _ => h v' w' h1 h2)

theorem one_new (w : World) (x : Value) (t : TypeId) : ∀ j u, [x][j]? = some u → (w.alloc (.cells #[x] t)).cell? ((⟨w.heap.size, 0, none⟩ : Addr).add j) = some u := by
  intro j u hu
  have hr : (w.alloc (.cells #[x] t)).heap[w.heap.size]? = some (.cells #[x] t (0, 0)) := heap_alloc_new w _
  rw [Addr.add_lit, Nat.zero_add, cell_of_row _ _ _ _ _ _ hr]
  match j, hu with
  | 0, hu => simpa using hu

theorem Row.pre {w : World} {g : Nat} {zs ms : List Int} (h : Row w g (zs ++ ms)) (hz : Bytes zs) (c : Nat) (hc : zs.length ≤ c) : Reads w (.slice (some ⟨g, 0, none⟩) zs.length c) zs := by
  refine ⟨_, _, rfl, hc, fun h => by simp at h, hz, fun _ => ⟨g, 0, rfl, fun i hi => ?_⟩⟩
  rw [Nat.zero_add, h.cell i (by simp; omega)]
  simp only [List.getD]
  rw [List.getElem?_append_left hi]

/-- What was lent reads as the parts. -/
theorem lent_parts {ps : List (List Int)} {base : Nat} {gs : List Nat} {w : World} {ta : Option Addr} {tc : Nat} (hb : ∀ j, Bytes (ps.getD j [])) (hn : ps.length ≤ 1048576) (hg : gs.length = ps.length) (hL : Lent ps base gs w) (hO : w.ownsRow base 35 1 (.slice ta ps.length tc) ps.length (vals ps gs)) : Parts w (.slice ta ps.length tc) ps := by
  have hO' := hO
  obtain ⟨_, h2⟩ := hO'
  have hcap : ps.length ≤ tc := by
    rcases h2 with ⟨e, e2⟩ | ⟨g, cap, cur, e, _, _, h3, _⟩
    · injection e with e1 e3 e4
      omega
    · injection e with e1 e3 e4
      omega
  refine ⟨ta, tc, fun i => lentV ps i (gs.getD i 0), rfl, hcap, by omega, fun hp => ?_, fun i hi => ?_⟩
  · rcases h2 with ⟨e, e2⟩ | ⟨g, cap, cur, e, _⟩
    · omega
    · injection e with e1 e3 e4
      subst e1
      refine ⟨g, 0, rfl, fun i hi => ?_⟩
      have := hO.cells (g := g) rfl i _ (vals_get ps gs i (by omega))
      rw [Addr.add_lit] at this
      exact this
  · exact (hL.row i (by omega)).pre (hb i) _ (by omega)

end Go.Proofs.Ytagkmfgoahbclaa
