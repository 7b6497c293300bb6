/- Lists of the program's own, whatever their elements' cells: what turns where (Mod), cells and whole elements written over, cut at the end, appended to. -/
import Derived.Test.YtpihigcnoifcfaaDoorVr03
import Derived.Laws.AppendOwn
import Derived.Laws.OwnMore
import Derived.Great.BuildSlice
import Derived.Test.YtpihigcnoifcfaaDoorVr26
import Derived.Test.YtpihigcnoifcfaaDoorVr30
namespace Go.Proofs.YtpihigcnoifcfaaDoor
set_option maxRecDepth 20000
open Go.RowKit

/-- Only these blocks turn, and new ones come. -/
structure Mod (S : List Nat) (w w' : World) : Prop where
  os : w'.os = w.os
  tape : w'.tape = w.tape
  output : w'.output = w.output
  size : w.heap.size ≤ w'.heap.size
  block : ∀ k, k < w.heap.size → k ∉ S → w'.heap[k]? = w.heap[k]?

/-- Blocks of before, or new ones. -/
def New (S : List Nat) (w : World) (S' : List Nat) : Prop := ∀ k ∈ S', k ∈ S ∨ w.heap.size ≤ k

theorem New.refl (S : List Nat) (w : World) : New S w S := fun _ h => .inl h
theorem New.trans {S S1 S2 : List Nat} {w w1 : World} (h : New S w S1) (hs : w.heap.size ≤ w1.heap.size) (k : New S1 w1 S2) : New S w S2 := fun x hx => by
  rcases k x hx with hx | hx
  · exact h x hx
  · exact .inr (Nat.le_trans hs hx)
theorem New.base {S S' : List Nat} {w : World} {b : Nat} (h : New S w S') (hb : ∀ k ∈ S, b ≤ k) (hw : b ≤ w.heap.size) : ∀ k ∈ S', b ≤ k := fun k hk => by
  rcases h k hk with h | h
  · exact hb k h
  · omega
/-- What is apart from the old ones, and is no new one, is apart from all. -/
theorem New.apart {S S' T : List Nat} {w : World} (h : New S w S') (hd : ∀ k ∈ T, k ∉ S) (hl : ∀ k ∈ T, k < w.heap.size) : ∀ k ∈ T, k ∉ S' := fun k hk hs => by
  rcases h k hs with h | h
  · exact hd k hk h
  · have := hl k hk
    omega

theorem Mod.refl (S : List Nat) (w : World) : Mod S w w := ⟨rfl, rfl, rfl, Nat.le_refl _, fun _ _ _ => rfl⟩
theorem Mod.drew (S : List Nat) (w : World) : Mod S w w.drew := ⟨rfl, rfl, rfl, Nat.le_refl _, fun _ _ _ => rfl⟩
theorem Mod.drewN (S : List Nat) (w : World) (n : Nat) : Mod S w (w.drewN n) := ⟨rfl, rfl, rfl, Nat.le_refl _, fun _ _ _ => rfl⟩
theorem Mod.mono {S S' : List Nat} {w w' : World} (h : Mod S w w') (hs : ∀ k ∈ S, k ∈ S') : Mod S' w w' := ⟨h.os, h.tape, h.output, h.size, fun k hk hn => h.block k hk (fun hx => hn (hs k hx))⟩
theorem Mod.trans {S S1 : List Nat} {w w1 w2 : World} (h : Mod S w w1) (hn : New S w S1) (k : Mod S1 w1 w2) : Mod S w w2 :=
  ⟨k.os.trans h.os, k.tape.trans h.tape, k.output.trans h.output, Nat.le_trans h.size k.size, fun i hi hs => (k.block i (Nat.lt_of_lt_of_le hi h.size) (fun hx => by
    rcases hn i hx with h1 | h1
    · exact hs h1
    · omega)).trans (h.block i hi hs)⟩
theorem Mod.trans' {S : List Nat} {w w1 w2 : World} (h : Mod S w w1) (k : Mod S w1 w2) : Mod S w w2 := h.trans (New.refl S w) k
theorem Mod.of_below {w w' : World} (h : Below w.heap.size w w') (S : List Nat) : Mod S w w' := ⟨h.os, h.tape, h.output, h.size, fun k hk _ => h.block k hk⟩
theorem Mod.below {S : List Nat} {w w' : World} {b : Nat} (h : Mod S w w') (hb : ∀ k ∈ S, b ≤ k) (hw : b ≤ w.heap.size) : Below b w w' :=
  ⟨h.os, h.tape, h.output, h.size, fun k hk => h.block k (Nat.lt_of_lt_of_le hk hw) (fun hs => by have := hb k hs; omega)⟩
theorem Mod.below0 {w w' : World} (h : Mod [] w w') : Below w.heap.size w w' := h.below (fun _ h => by cases h) (Nat.le_refl _)
theorem Mod.of_grown {w w' : World} {v : Value} {S : List Nat} (h : w.grownBy w' v.ownBlock) (hs : ∀ k, v.ownBlock = some k → k ∈ S) : Mod S w w' :=
  ⟨h.os, h.tape, h.output, h.size, fun k hk hn => h.block k hk (fun e => hn (hs k e.symm))⟩
theorem Mod.of_some {w w' : World} {g : Nat} {S : List Nat} (h : w.grownBy w' (some g)) (hs : g ∈ S) : Mod S w w' :=
  ⟨h.os, h.tape, h.output, h.size, fun k hk hn => h.block k hk (fun e => hn (by injection e with e; rw [e]; exact hs))⟩
theorem Mod.setCell (w : World) (g o : Nat) (v : Value) {S : List Nat} (hs : g ∈ S) : Mod S w (w.setCell ⟨g, o, none⟩ v) := Mod.of_some (grown_setCell w g o v) hs
theorem Mod.alloc (w : World) (o : Obj) (S : List Nat) : Mod S w (w.alloc o) := Mod.of_below (grow_alloc w o) S

theorem Blk.mod {w w' : World} {g : Nat} {t : TypeId} {cs : Array Value} {S : List Nat} (h : Blk w g t cs) (m : Mod S w w') (hn : g ∉ S) : Blk w' g t cs := h.of_block (m.block g h.lt hn)
theorem Blk.ne {w : World} {g g' : Nat} {t t' : TypeId} {cs cs' : Array Value} (h : Blk w g t cs) (h' : Blk w g' t' cs') (ht : t ≠ t') : g ≠ g' := by
  rintro rfl
  unfold Blk at h h'
  rw [h] at h'
  injection h' with h'
  injection h' with _ h2
  exact ht h2

/-- A list of the program's own: n elements of k cells each. -/
abbrev Lst (w : World) (e : TypeId) (k : Nat) (v : Value) (n : Nat) (xs : List Value) : Prop := w.ownsRow 0 e k v n xs

theorem lst_blk {w : World} {e : TypeId} {k : Nat} {v : Value} {n : Nat} {xs : List Value} (h : Lst w e k v n xs) (g : Nat) (hg : v.ownBlock = some g) : ∃ cap cur, v = .slice (some ⟨g, 0, none⟩) n cap ∧ Blk w g e cur ∧ n ≤ cap ∧ cap ≤ maxLen ∧ cur.size = cap * k ∧ cur.toList.take (n * k) = xs := by
  rcases h.2 with ⟨rfl, _⟩ | ⟨g', cap, cur, rfl, _, hgg, h1, h2, h3, h4⟩
  · simp [Value.ownBlock] at hg
  · simp only [Value.ownBlock, Option.some.injEq] at hg
    subst hg
    exact ⟨cap, cur, rfl, hgg, h1, h2, h3, h4⟩
theorem lst_slice {w : World} {e : TypeId} {k : Nat} {v : Value} {n : Nat} {xs : List Value} (h : Lst w e k v n xs) : ∃ a c, v = .slice a n c := by
  rcases h.2 with ⟨rfl, rfl⟩ | ⟨g', cap, cur, rfl, _⟩
  · exact ⟨_, _, rfl⟩
  · exact ⟨_, _, rfl⟩
theorem lst_pos {w : World} {e : TypeId} {k : Nat} {v : Value} {n : Nat} {xs : List Value} (h : Lst w e k v n xs) (hn : 0 < n) : ∃ g c, v = .slice (some ⟨g, 0, none⟩) n c ∧ n ≤ c := by
  rcases h.2 with ⟨rfl, rfl⟩ | ⟨g', cap, cur, rfl, _, _, h1, _⟩
  · omega
  · exact ⟨_, _, rfl, h1⟩
theorem lst_lt {w : World} {e : TypeId} {k : Nat} {v : Value} {n : Nat} {xs : List Value} (h : Lst w e k v n xs) : ∀ g, v.ownBlock = some g → g < w.heap.size := fun g hg => (h.lt g hg).2
theorem lst_mod {w w' : World} {e : TypeId} {k : Nat} {v : Value} {n : Nat} {xs : List Value} {S : List Nat} (h : Lst w e k v n xs) (m : Mod S w w') (hn : ∀ g, v.ownBlock = some g → g ∉ S) : Lst w' e k v n xs := by
  refine ⟨h.1, ?_⟩
  rcases h.2 with hh | ⟨g, cap, cur, rfl, hb, hgg, rest⟩
  · exact .inl hh
  · exact .inr ⟨g, cap, cur, rfl, hb, (m.block g (Array.getElem?_eq_some_iff.1 hgg).1 (hn g rfl)).trans hgg, rest⟩
theorem lst_grow {w w' : World} {e : TypeId} {k : Nat} {v : Value} {n : Nat} {xs : List Value} (h : Lst w e k v n xs) (hb : Below w.heap.size w w') : Lst w' e k v n xs := lst_mod h (Mod.of_below hb []) (fun _ _ h => by cases h)
theorem lst_ne {w : World} {e e' : TypeId} {k k' : Nat} {v v' : Value} {n n' : Nat} {xs xs' : List Value} (h : Lst w e k v n xs) (h' : Lst w e' k' v' n' xs') (ht : e ≠ e') : ∀ g, v.ownBlock = some g → v'.ownBlock ≠ some g := fun g hg hg' => by
  obtain ⟨_, _, _, b1, _⟩ := lst_blk h g hg
  obtain ⟨_, _, _, b2, _⟩ := lst_blk h' g hg'
  exact b1.ne b2 ht rfl
theorem lst_blk_ne {w : World} {e t : TypeId} {k : Nat} {v : Value} {n : Nat} {xs : List Value} {g : Nat} {cs : Array Value} (h : Lst w e k v n xs) (h' : Blk w g t cs) (ht : e ≠ t) : v.ownBlock ≠ some g := fun hg => by
  obtain ⟨_, _, _, b1, _⟩ := lst_blk h g hg
  exact b1.ne h' ht rfl
theorem lst_cell {w : World} {e : TypeId} {k : Nat} {n c g : Nat} {xs : List Value} (h : Lst w e k (.slice (some ⟨g, 0, none⟩) n c) n xs) (j : Nat) (hj : j < n * k) : w.cell? ⟨g, j, none⟩ = xs[j]? := h.cellAt j hj
theorem lst_frozen {w : World} {e : TypeId} {k : Nat} {n c g : Nat} {xs : List Value} (h : Lst w e k (.slice (some ⟨g, 0, none⟩) n c) n xs) (j : Nat) : w.frozen? ⟨g, j, none⟩ = false := h.frozenAt j

/-- One cell written over. -/
theorem lst_set {w : World} {e : TypeId} {k : Nat} {n c g : Nat} {xs : List Value} (h : Lst w e k (.slice (some ⟨g, 0, none⟩) n c) n xs) (j : Nat) (u : Value) : Lst (w.setCell ⟨g, j, none⟩ u) e k (.slice (some ⟨g, 0, none⟩) n c) n (xs.set j u) := (h.stored j u).1

/-- Several cells written over, one behind the other. -/
def setL (xs : List Value) : Nat → List Value → List Value
  | _, [] => xs
  | j, u :: us => setL (xs.set j u) (j + 1) us

theorem lst_sets {e : TypeId} {k : Nat} {n c g : Nat} : ∀ (us : List Value) (j : Nat) (w : World) (xs : List Value), Lst w e k (.slice (some ⟨g, 0, none⟩) n c) n xs → Lst (w.setCells g j us) e k (.slice (some ⟨g, 0, none⟩) n c) n (setL xs j us)
  | [], _, _, _, h => h
  | u :: us, j, _, _, h => lst_sets us (j + 1) _ _ (lst_set h j u)

theorem setL_mid : ∀ (us p q r : List Value), q.length = us.length → setL (p ++ (q ++ r)) p.length us = p ++ (us ++ r)
  | [], p, q, r, h => by
    have : q = [] := List.eq_nil_of_length_eq_zero (by simpa using h)
    subst this
    rfl
  | u :: us, p, [], r, h => by simp at h
  | u :: us, p, x :: q, r, h => by
    have ih := setL_mid us (p ++ [u]) q r (by simpa using h)
    simp only [setL]
    have e : (p ++ (x :: q ++ r)).set p.length u = (p ++ [u]) ++ (q ++ r) := by simp
    rw [e]
    rw [show p.length + 1 = (p ++ [u]).length by simp]
    rw [ih]
    simp

theorem mod_setCells (g : Nat) {S : List Nat} (hs : g ∈ S) : ∀ (us : List Value) (j : Nat) (w : World), Mod S w (w.setCells g j us)
  | [], _, w => Mod.refl S w
  | u :: us, j, w => (Mod.setCell w g j u hs).trans' (mod_setCells g hs us (j + 1) _)

theorem sz_setCells (g : Nat) : ∀ (us : List Value) (j : Nat) (w : World), (w.setCells g j us).heap.size = w.heap.size
  | [], _, _ => rfl
  | u :: us, j, w => by rw [World.setCells, sz_setCells g us]; simp

/-- Cut at the end. -/
theorem lst_cut {w : World} {e : TypeId} {k : Nat} {n c g m : Nat} {xs : List Value} (h : Lst w e k (.slice (some ⟨g, 0, none⟩) n c) n xs) (hm : m ≤ n) : Lst w e k (.slice (some ⟨g, 0, none⟩) m c) m (xs.take (m * k)) := by
  obtain ⟨cap, cur, hv, hb, h1, h2, h3, h4⟩ := lst_blk h g rfl
  injection hv with _ _ hc
  subst hc
  have hmk : m * k ≤ n * k := Nat.mul_le_mul_right k hm
  refine ⟨?_, .inr ⟨g, c, cur, rfl, Nat.zero_le _, hb, by omega, h2, h3, ?_⟩⟩
  · rw [List.length_take, h.1]
    omega
  · rw [← h4, List.take_take]
    congr 1
    omega

/-- Where what was appended to lies. -/
def WhereL (w : World) (v v' : Value) : Prop := v'.ownBlock = v.ownBlock ∨ ∃ k, v'.ownBlock = some k ∧ w.heap.size ≤ k

theorem run_appL {P : Program} (w : World) (t ty e : TypeId) (i : TypeInfo) (z : Value) (size bytes : Nat) (ht : P.underlying t = some (.slice e)) (hi : P.info? e = some i) (hz : i.zero = some z)
    (hsize : i.size = size) (hby : i.bytes = bytes) (hzs : z.cells.size = size) (hsz : 0 < size)
    (v : Value) (n : Nat) (xs : List Value) (hown : Lst w e size v n xs)
    (a : Addr) (m c : Nat) (news : List Value) (hl : news.length = m * size) (hnews : ∀ j u, news[j]? = some u → w.cell? (a.add j) = some u) (h1 : ∀ u ∈ news, u.oneCell' = true)
    (hm : 0 < m) (h63 : n + m ≤ maxLen) (hbytes : (n + m) * bytes ≤ 140737488355328) :
    ∃ v' w', (Builtin.append_ #[t, t] ty #[v, .slice (some a) m c]).run P w = .ok v' w' ∧ Lst w' e size v' (n + m) (xs ++ news) ∧ w.grownBy w' v.ownBlock ∧ WhereL w v v' := by
  obtain ⟨v', w', hr, h2, h3, _⟩ := run_append_own (P := P) w 0 t ty e i z size bytes ht hi hz hsize hby hzs hsz v n xs hown a m c news hl hnews h1 h63 hbytes (Nat.zero_le _)
  refine ⟨v', w', hr, h2, h3, ?_⟩
  rcases hown.2 with ⟨rfl, rfl⟩ | ⟨g0, cap, cur, rfl, hbg, hg, hnc, hcm, hcs, htake⟩
  · right
    obtain ⟨v2, w2, hr2, h4, _⟩ := run_append_own (P := P) w w.heap.size t ty e i z size bytes ht hi hz hsize hby hzs hsz (.slice none 0 0) 0 [] (World.ownsRow_nil _ _ _ _) a m c news hl hnews h1 h63 hbytes (Nat.le_refl _)
    rw [hr] at hr2
    injection hr2 with e1 e2
    subst e1
    obtain ⟨g, c', hv, _⟩ := lst_pos h2 (by omega)
    subst hv
    exact ⟨g, rfl, (h4.lt g rfl).1⟩
  · by_cases hroom : n + m ≤ cap
    · left
      have hr' := run_append_room (P := P) w t ty e i ht hi g0 n cap cur hg a m c news (by rw [hsize]; exact hl) hnews h1 hroom (by rw [hsize, hcs, hl, ← Nat.add_mul]; exact Nat.mul_le_mul_right size hroom)
      rw [hr] at hr'
      injection hr' with e1 e2
      subst e1
      rfl
    · right
      have hxs : ∀ j u, xs[j]? = some u → w.cell? ((⟨g0, 0, none⟩ : Addr).add j) = some u := fun j u hu => hown.cells (g := g0) rfl j u hu
      have hr' := run_append_grow (P := P) w t ty e i _ ht hi hz ⟨g0, 0, none⟩ n cap xs (by rw [hsize]; exact hown.1) hxs a m c news (by rw [hsize]; exact hl) hnews (by omega) (by simp only [maxLen] at h63; omega) (by rw [hby]; exact growslice_fits (by omega) (by omega))
      rw [hr] at hr'
      injection hr' with e1 e2
      subst e1
      exact ⟨w.heap.size, rfl, Nat.le_refl _⟩

theorem wpList_appL {P : Program} {ops : Array Oper} {rest : List Oper} {o : Oper} {a : Act} {Q : Exit → Act → World → Prop} (w : World) (hgd : o.guard = none) (s x : Operand) (t : TypeId)
    (ho : o.op = .call { callee := .builtin .append, args := #[s, x], argTypes := #[t, t] })
    (e : TypeId) (size bytes : Nat) (ht : P.underlying t = some (.slice e)) (hin : ∃ i z, P.info? e = some i ∧ i.zero = some z ∧ i.size = size ∧ i.bytes = bytes ∧ z.cells.size = size) (hsz : 0 < size)
    (v : Value) (n : Nat) (xs : List Value) (hs : a.eval s = v) (hown : Lst w e size v n xs)
    (g : Nat) (news : List Value) (hx : a.eval x = .slice (some ⟨g, 0, none⟩) 1 1) (hb : Blk w g e news.toArray) (hl : news.length = size) (h1 : ∀ u ∈ news, u.oneCell' = true)
    (h63 : n + 1 ≤ maxLen) (hbytes : (n + 1) * bytes ≤ 140737488355328)
    (hk : ∀ v' w', Lst w' e size v' (n + 1) (xs ++ news) → w.grownBy w' v.ownBlock → WhereL w v v' → wpList P ops Q rest (a.put o.dst v') w') : wpList P ops Q (o :: rest) a w := by
  refine wpList_plain hgd fun K hK => ?_
  obtain ⟨i, z, hi, hz, hsize, hby, hzs⟩ := hin
  obtain ⟨v', w', hr, h2, h3, h4⟩ := run_appL (P := P) w t o.type e i z size bytes ht hi hz hsize hby hzs hsz v n xs hown ⟨g, 0, none⟩ 1 1 news (by omega) (by
    intro j q hq
    rw [Addr.add_lit, Nat.zero_add, hb.cell]
    simpa using hq) h1 (by omega) h63 hbytes
  unfold Oper.wp execOp
  simp only [ho, resolve, invoke, builtin, Sem.run_bind, Sem.run_pure, Result.andThen_ok, List.map_toArray, List.map_cons, List.map_nil, hs, hx, hr]
  exact hK _ _ (hk v' w' h2 h3 h4)

/-- The same of a list whose block is known to be new since then. -/
theorem wpList_appB {P : Program} {ops : Array Oper} {rest : List Oper} {o : Oper} {a : Act} {Q : Exit → Act → World → Prop} (w : World) (hgd : o.guard = none) (s x : Operand) (t : TypeId)
    (ho : o.op = .call { callee := .builtin .append, args := #[s, x], argTypes := #[t, t] })
    (base : Nat) (e : TypeId) (size bytes : Nat) (ht : P.underlying t = some (.slice e)) (hin : ∃ i z, P.info? e = some i ∧ i.zero = some z ∧ i.size = size ∧ i.bytes = bytes ∧ z.cells.size = size) (hsz : 0 < size)
    (v : Value) (n : Nat) (xs : List Value) (hs : a.eval s = v) (hown : w.ownsRow base e size v n xs)
    (g : Nat) (news : List Value) (hx : a.eval x = .slice (some ⟨g, 0, none⟩) 1 1) (hb : Blk w g e news.toArray) (hl : news.length = size) (h1 : ∀ u ∈ news, u.oneCell' = true)
    (h63 : n + 1 ≤ maxLen) (hbytes : (n + 1) * bytes ≤ 140737488355328) (hbase : base ≤ w.heap.size)
    (hk : ∀ b c w', w'.ownsRow base e size (.slice b (n + 1) c) (n + 1) (xs ++ news) → w.grownBy w' v.ownBlock → wpList P ops Q rest (a.put o.dst (.slice b (n + 1) c)) w') : wpList P ops Q (o :: rest) a w := by
  obtain ⟨i, z, hi, hz, hsize, hby, hzs⟩ := hin
  refine wpList_append_own w hgd s x t ho base e i z size bytes ht hi hz hsize hby hzs hsz v n xs hs hown ⟨g, 0, none⟩ 1 1 news hx (by omega) (by
    intro j q hq
    rw [Addr.add_lit, Nat.zero_add, hb.cell]
    simpa using hq) h1 h63 hbytes hbase ?_
  intro v' w' h2 h3 _
  rcases h2.2 with ⟨_, h⟩ | ⟨g', cap', cur, rfl, _⟩
  · omega
  · exact hk _ _ _ h2 h3

/-- make of a slice whose elements have one cell. -/
theorem wpList_mkL {P : Program} {ops : Array Oper} {rest : List Oper} {o : Oper} {a : Act} {Q : Exit → Act → World → Prop} (w : World) (hgd : o.guard = none) (x y : Operand) (t e : TypeId) (ht : P.underlying t = some (.slice e)) (z : Value) (bytes : Nat) (hin : ∃ i, P.info? e = some i ∧ i.zero = some z ∧ i.size = 1 ∧ i.bytes = bytes) (hz : z.cells = #[z])
    (hop : o.op = Op.makeSlice t x y) (kl kc : IntKind) (L C : Int) (l c : Nat) (hx : a.eval x = .int kl L) (hy : a.eval y = .int kc C) (hL : L = (l : Int)) (hC : C = (c : Int)) (hlc : l ≤ c) (hc : c ≤ 1048576) (hby : bytes ≤ 4096)
    (h : ∀ w', w'.ownsRow w.heap.size e 1 (.slice (some ⟨w.heap.size, 0, none⟩) l c) l (List.replicate l z) → Below w.heap.size w w' → w'.heap.size = w.heap.size + 1 → wpList P ops Q rest (a.put o.dst (.slice (some ⟨w.heap.size, 0, none⟩) l c)) w') :
    wpList P ops Q (o :: rest) a w := by
  refine wpList_plain hgd fun K hK => ?_
  obtain ⟨i, hi, hiz, hs, hb⟩ := hin
  subst hL
  subst hC
  have hbb : bytes * c ≤ 4096 * 1048576 := Nat.mul_le_mul hby hc
  have hr := run_make (P := P) w t e i _ ht hi hiz kl kc l c (by omega) (by omega) (by rw [hb]; omega) (by omega)
  rw [hs, Nat.mul_one, hz] at hr
  simp only [Int.toNat_natCast] at hr
  unfold Oper.wp
  simp [execOp, hop, hx, hy, hr, Result.andThen]
  have htl : (madeCells #[z] c).toList = List.replicate c z := toList_madeCells_one z c
  have hsz : (madeCells #[z] c).size = c := by rw [← Array.length_toList, htl, List.length_replicate]
  refine hK _ _ (h _ ⟨by simp, .inr ⟨w.heap.size, c, _, rfl, Nat.le_refl _, heap_alloc_new w _, hlc, by simp only [maxLen]; omega, by rw [hsz, Nat.mul_one], ?_⟩⟩ (grow_alloc w _) (by simp))
  rw [htl, Nat.mul_one, List.take_replicate, Nat.min_eq_left hlc]

/-- A struct or an array stored at a place within a list. -/
theorem wpList_stl {P : Program} {ops : Array Oper} {rest : List Oper} {op : Oper} {a : Act} {Q : Exit → Act → World → Prop} (w : World) (hgd : op.guard = none) (x y : Operand) (ty : TypeId) (ho : op.op = .store ty x y)
    (e : TypeId) (k n c g o : Nat) (xs us : List Value) (hx : a.eval x = .pointer (some ⟨g, o, none⟩)) (hy : a.eval y = .agg us.toArray) (h : Lst w e k (.slice (some ⟨g, 0, none⟩) n c) n xs) (hi : (P.info? ty).map (·.size) = some us.length) (hf : o + us.length ≤ n * k) (h1 : ∀ u ∈ us, u.oneCell' = true)
    (hk : ∀ w', Lst w' e k (.slice (some ⟨g, 0, none⟩) n c) n (setL xs o us) → Mod [g] w w' → w'.heap.size = w.heap.size → wpList P ops Q rest (a.put op.dst undef) w') : wpList P ops Q (op :: rest) a w := by
  have hth : w.there g o us.length := fun j hj => by
    refine ⟨?_, ?_⟩
    · rw [h.cellAt (o + j) (by omega), List.getElem?_eq_getElem (by rw [h.1]; omega)]
      rfl
    · exact h.frozenAt (o + j)
  refine wpList_store_mid hgd ty x y ho g o us.toArray hx hy (by simpa using hth) (by simpa using hi) (all_oneCell_toArray h1) ?_
  exact hk _ (lst_sets us o w xs h) (mod_setCells g (by simp) us o w) (sz_setCells g us o w)

/-- The same in a region that draws its order. -/
theorem step_stl {P : Program} {ops : Array Oper} {o' : Oper} {a : Act} {K : Act → World → Prop} {Q : Exit → Act → World → Prop} {E : Prop} (w : World) (hgd : o'.guard = none) (x y : Operand) (ty : TypeId) (ho : o'.op = .store ty x y)
    (e : TypeId) (k n c g o : Nat) (xs us : List Value) (hx : a.eval x = .pointer (some ⟨g, o, none⟩)) (hy : a.eval y = .agg us.toArray) (h : Lst w e k (.slice (some ⟨g, 0, none⟩) n c) n xs) (hi : (P.info? ty).map (·.size) = some us.length) (hf : o + us.length ≤ n * k) (h1 : ∀ u ∈ us, u.oneCell' = true)
    (hk : ∀ w', Lst w' e k (.slice (some ⟨g, 0, none⟩) n c) n (setL xs o us) → Mod [g] w w' → w'.heap.size = w.heap.size → K (a.put o'.dst undef) w') : if Region.wanted o' (yielded ops a.tmps) = true then Oper.wp P o' a w K Q else E := by
  have hw : Region.wanted o' (yielded ops a.tmps) = true := by simp [Region.wanted, hgd]
  rw [if_pos hw]
  have hth : w.there g o us.length := fun j hj => by
    refine ⟨?_, ?_⟩
    · rw [h.cellAt (o + j) (by omega), List.getElem?_eq_getElem (by rw [h.1]; omega)]
      rfl
    · exact h.frozenAt (o + j)
  refine wp_store_mid ty x y ho g o us.toArray hx hy (by simpa using hth) (by simpa using hi) (all_oneCell_toArray h1) ?_
  exact hk _ (lst_sets us o w xs h) (mod_setCells g (by simp) us o w) (sz_setCells g us o w)

end Go.Proofs.YtpihigcnoifcfaaDoor

/- The document's read of layer 17, as a contract. -/
namespace Go.Proofs.YtpihigcnoifcfaaDoor
set_option maxRecDepth 20000
open Go.RowKit

/-- What read tells. -/
def RrPost (zs : List Int) (w : World) (e : Ending) (w' : World) : Prop :=
  ∃ a m c N r, e = .returned (.tuple #[.agg (encR (.slice a m c) N).toArray, .bool r]) ∧ N.length = 129 ∧ Below w.heap.size w w' ∧ r = decide (fitD zs ∧ (pR zs).2.2 = false ∧ dcE (pR zs).2.1 = 0) ∧
    (r = true → m = pN zs ∧ N = dcN (pR zs).2.1 ∧ w'.ownsRow w.heap.size 23 32 (.slice a m c) m (flatH (pR zs).1))

theorem pN_two {zs : List Int} (hb : Bytes zs) (h : 2 ≤ zs.length) : 256 * zs.getD 0 0 + zs.getD 1 0 = (pN zs : Int) := by
  have h1 := (head_two hb h).2.1
  match zs, h with
  | x :: y :: r, _ =>
    rw [show (x :: y :: r).take 2 = [x, y] from rfl, num_two] at h1
    exact h1
theorem pB_getD {zs : List Int} (hf : fitD zs) (i : Nat) (h : i < by7 (pN zs)) : zs.getD (2 + i) 0 = (pB zs).getD i 0 := by
  have := hf.1
  simp only [pB, List.getD, List.getElem?_take, List.getElem?_drop, if_pos h]

set_option maxRecDepth 100000 in
set_option maxHeartbeats 8000000 in
theorem rread_few (v : Value) (zs : List Int) (w : World) (h : Reads w v zs) (hl : zs.length ≤ 140737488355328 - 4096) (hf : ¬ fitD zs) : Calls Tryd.prog 32 #[v] w (RrPost zs w) := by
  have hb : Bytes zs := by obtain ⟨_, _, _, _, _, hb, _⟩ := h; exact hb
  have HPost : Hid (∀ w', Below w.heap.size w w' → RrPost zs w (.returned (.tuple #[.agg (encR (.slice none 0 0) (List.replicate 129 0)).toArray, .bool false])) w') := fun w' q => ⟨none, 0, 0, _, false, rfl, by simp, q, by simp [hf], fun e => by simp at e⟩
  generalize HE : RrPost zs w = Post at HPost ⊢
  have HR := hidden h
  obtain ⟨va, vc, rfl, hcap, _, _, hrow⟩ := h
  obtain ⟨fp, hup⟩ := u_proof
  have HUP := hidden hup
  have HSz : Hid ((Tryd.prog.info? 46).map (·.size) = some (encR (.slice none 0 0) (List.replicate 129 0)).toArray.size) := encR_sz _ _ (by simp)
  obtain ⟨Z, hZ⟩ : ∃ Z : List Int, Z = List.replicate 129 0 := ⟨_, rfl⟩
  rw [← hZ] at HPost HSz
  have HZ0 : Hid (∀ w, (zeroValue 46).run Tryd.prog w = .ok (.agg (encR (.slice none 0 0) Z).toArray) w) := by rw [hZ]; exact zero_proof
  by_cases h2 : 2 ≤ zs.length
  · have hn := pN_two hb h2
    have hn2 := (head_two hb h2).2.2
    have hc2 : pN zs > 256 ∨ zs.length < 2 + by7 (pN zs) := by
      by_cases q : pN zs ≤ 256
      · right
        have : ¬ 2 + by7 (pN zs) ≤ zs.length := fun e => hf ⟨e, q⟩
        omega
      · left; omega
    obtain ⟨gz, oz, rfl, hcell⟩ := hrow (by omega)
    have hx := hb.getD 0
    have hy := hb.getD 1
    have HC : Hid (∀ w', Below w.heap.size w w' → w'.cell? ⟨gz, oz, none⟩ = some (.int .u8 (zs.getD 0 0)) ∧ w'.cell? ⟨gz, oz + 1, none⟩ = some (.int .u8 (zs.getD 1 0))) := fun w' q => by
      have c0 := hcell 0 (by omega)
      have c1 := hcell 1 (by omega)
      rw [Nat.add_zero] at c0
      exact ⟨by rw [q.cell (block_lt_of_cell c0)]; exact c0, by rw [q.cell (block_lt_of_cell c1)]; exact c1⟩
    obtain ⟨x, hxx⟩ : ∃ x, x = zs.getD 0 0 := ⟨_, rfl⟩
    obtain ⟨y, hyy⟩ : ∃ y, y = zs.getD 1 0 := ⟨_, rfl⟩
    rw [← hxx] at HC hx hn
    rw [← hyy] at HC hy hn
    have hmm : (((pN zs : Int) + 7) / 8) = (by7 (pN zs) : Int) := by unfold by7; omega
    obtain ⟨m, hm⟩ : ∃ m, m = by7 (pN zs) := ⟨_, rfl⟩
    have hm8 : m ≤ 8192 := by rw [hm]; unfold by7; omega
    rw [← hm] at hc2 hmm
    obtain ⟨n, hnn⟩ : ∃ n, n = pN zs := ⟨_, rfl⟩
    rw [← hnn] at hc2 hmm hn hn2
    obtain ⟨l, hll⟩ : ∃ l, l = zs.length := ⟨_, rfl⟩
    rw [← hll] at hc2 hcap h2 hl ⊢
    have x0 := hx.1
    have x1 := hx.2
    have y0 := hy.1
    have y1 := hy.2
    have z2 : ¬ (l : Int) < 2 := by omega
    have zn : (0 : Int) ≤ (n : Int) := by omega
    have zn2 : (n : Int) ≤ 65535 := by omega
    have zl1 : ¬ l = 0 := by omega
    have zl2 : ¬ (l : Int) ≤ 1 := by omega
    have wx : IntKind.i64.wrap x = x := by rw [IntKind.wrap_i64]; omega
    have wy : IntKind.i64.wrap y = y := by rw [IntKind.wrap_i64]; omega
    have w256 : IntKind.i64.wrap (256 * x) = 256 * x := by rw [IntKind.wrap_i64]; omega
    have wn : IntKind.i64.wrap (n : Int) = n := by rw [IntKind.wrap_i64]; omega
    clear HE hf hb hrow hcell hxx hyy hm hnn hll hup hZ HR hx hy
    by_cases h256 : n > 256
    · have z3 : (256 : Int) < (n : Int) := by omega
      clear h256 hc2
      go_enter Tryd.func32, Tryd.ntmps32
      go_wp2_with (first
        | ((with_reducible refine at_ald 2 ?_); refine wpList_al _ rfl _ rfl _ HZ0.out ?_; intro w1 g2 hg2 hl2 B2 b1; have HG2 := hidden hg2; have HB2 := hidden B2; have Hb1 := hidden b1; clear hg2 hl2 B2 b1)
        | ((with_reducible refine at_ald 4 ?_); refine wpList_al _ rfl _ rfl _ HZ0.out ?_; intro w2 g4 hg4 hl4 B4 b2; have HB4 := hidden B4; have HG4 : Hid (w.heap.size ≤ g4) := Nat.le_trans Hb1.out.size hg4; have HG24 := hidden (show g2 ≠ g4 by have := HB2.out.lt; omega); have Hb2 := hidden (grow_trans Hb1.out b2); have HBz := hidden (HB2.out.grow b2); clear hg4 hl4 B4 b2))
      refine wp_region_held_drew (S := fun w' => Below w.heap.size w w') (by kernel_rfl) (grow_trans Hb2.out (Below.refl _ _).drew) (fun hHeld => ?_)
      refine wpAnyH_take (i := 0) (v := .slice (some ⟨gz, oz, none⟩) l vc) rfl (by kernel_rfl) (by kernel_rfl) (by kernel_rfl) (fun _ _ _ h => h) (Or.inl ⟨by rfl, fun w hS => by go_simp⟩) hHeld ?_
      simp only [Act.put, List.getElem_toArray, List.getElem_cons_zero, List.setIfInBounds_toArray, List.set_cons_zero, List.set_cons_succ]
      refine wpAnyH_take (i := 1) (v := .pointer (some ⟨gz, oz, none⟩)) rfl (by kernel_rfl) (by kernel_rfl) (by kernel_rfl) (fun _ _ _ h => h) (Or.inl ⟨by rfl, fun w hS => by go_simp⟩) hHeld ?_
      simp only [Act.put, List.getElem_toArray, List.getElem_cons_zero, List.getElem_cons_succ, List.setIfInBounds_toArray, List.set_cons_zero, List.set_cons_succ]
      refine wpAnyH_take (i := 2) (v := .int .u8 x) rfl (by kernel_rfl) (by kernel_rfl) (by kernel_rfl) (fun _ _ _ h => h) (Or.inl ⟨by rfl, fun w hS => by (have q1 := (HC.out _ hS).1; go_simp)⟩) hHeld ?_
      simp only [Act.put, List.getElem_toArray, List.getElem_cons_zero, List.getElem_cons_succ, List.setIfInBounds_toArray, List.set_cons_zero, List.set_cons_succ]
      refine wpAnyH_take (i := 3) (v := .int .i64 x) rfl (by kernel_rfl) (by kernel_rfl) (by kernel_rfl) (fun _ _ _ h => h) (Or.inl ⟨by rfl, fun w hS => by go_simp⟩) hHeld ?_
      simp only [Act.put, List.getElem_toArray, List.getElem_cons_zero, List.getElem_cons_succ, List.setIfInBounds_toArray, List.set_cons_zero, List.set_cons_succ]
      refine wpAnyH_take (i := 4) (v := .int .i64 (256 * x)) rfl (by kernel_rfl) (by kernel_rfl) (by kernel_rfl) (fun _ _ _ h => h) (Or.inl ⟨by rfl, fun w hS => by go_simp⟩) hHeld ?_
      simp only [Act.put, List.getElem_toArray, List.getElem_cons_zero, List.getElem_cons_succ, List.setIfInBounds_toArray, List.set_cons_zero, List.set_cons_succ]
      refine wpAnyH_take (i := 5) (v := .slice (some ⟨gz, oz, none⟩) l vc) rfl (by kernel_rfl) (by kernel_rfl) (by kernel_rfl) (fun _ _ _ h => h) (Or.inl ⟨by rfl, fun w hS => by go_simp⟩) hHeld ?_
      simp only [Act.put, List.getElem_toArray, List.getElem_cons_zero, List.getElem_cons_succ, List.setIfInBounds_toArray, List.set_cons_zero, List.set_cons_succ]
      refine wpAnyH_take (i := 6) (v := .pointer (some ⟨gz, oz + 1, none⟩)) rfl (by kernel_rfl) (by kernel_rfl) (by kernel_rfl) (fun _ _ _ h => h) (Or.inl ⟨by rfl, fun w hS => by go_simp⟩) hHeld ?_
      simp only [Act.put, List.getElem_toArray, List.getElem_cons_zero, List.getElem_cons_succ, List.setIfInBounds_toArray, List.set_cons_zero, List.set_cons_succ]
      refine wpAnyH_take (i := 7) (v := .int .u8 y) rfl (by kernel_rfl) (by kernel_rfl) (by kernel_rfl) (fun _ _ _ h => h) (Or.inl ⟨by rfl, fun w hS => by (have q1 := (HC.out _ hS).2; go_simp)⟩) hHeld ?_
      simp only [Act.put, List.getElem_toArray, List.getElem_cons_zero, List.getElem_cons_succ, List.setIfInBounds_toArray, List.set_cons_zero, List.set_cons_succ]
      refine wpAnyH_take (i := 8) (v := .int .i64 y) rfl (by kernel_rfl) (by kernel_rfl) (by kernel_rfl) (fun _ _ _ h => h) (Or.inl ⟨by rfl, fun w hS => by go_simp⟩) hHeld ?_
      simp only [Act.put, List.getElem_toArray, List.getElem_cons_zero, List.getElem_cons_succ, List.setIfInBounds_toArray, List.set_cons_zero, List.set_cons_succ]
      refine wpAnyH_take (i := 9) (v := .int .i64 (n : Int)) rfl (by kernel_rfl) (by kernel_rfl) (by kernel_rfl) (fun _ _ _ h => h) (Or.inl ⟨by rfl, fun w hS => by go_simp⟩) hHeld ?_
      simp only [Act.put, List.getElem_toArray, List.getElem_cons_zero, List.getElem_cons_succ, List.setIfInBounds_toArray, List.set_cons_zero, List.set_cons_succ]
      refine wpAnyH_take (i := 10) (v := .int .i64 (n : Int)) rfl (by kernel_rfl) (by kernel_rfl) (by kernel_rfl) (fun _ _ _ h => h) (Or.inl ⟨by rfl, fun w hS => by go_simp⟩) hHeld ?_
      simp only [Act.put, List.getElem_toArray, List.getElem_cons_zero, List.getElem_cons_succ, List.setIfInBounds_toArray, List.set_cons_zero, List.set_cons_succ]
      refine wpAnyH_done (by kernel_rfl) ?_ _
      have HH : Hid (Below w.heap.size w w2.drew) := grow_trans Hb2.out (Below.refl _ _).drew
      have HH4 : Hid (Blk w2.drew g4 46 (encR (.slice none 0 0) Z).toArray) := HB4.out
      have HH2 : Hid (Blk w2.drew g2 46 (encR (.slice none 0 0) Z).toArray) := HBz.out
      generalize w2.drew = w3 at HH HH4 HH2 ⊢
      go_wp2_with (first
        | ((with_reducible refine at_ldd 40 4 ?_); refine wpList_lds _ rfl _ _ rfl g4 _ _ rfl HH4.out HUP.out HSz.out ?_)
        | ((with_reducible refine at_st 2 ?_); refine wpList_sto _ rfl _ _ _ rfl g2 _ _ rfl rfl HH2.out HSz.out rfl (encR_one _ _ _ _) ?_; intro w5 B5 r5))
      exact bodyPost_ret (v := .tuple #[.agg (encR (.slice none 0 0) Z).toArray, .bool false]) (results_agg_tmp rfl _ _ g2 _ _ rfl rfl B5 HUP.out HSz.out) rfl (HPost.out _ (below_row HH.out r5 HG2.out))
    · have z3 : ¬ (256 : Int) < (n : Int) := by omega
      have hlm : l < 2 + m := by omega
      have z4 : (l : Int) < 2 + (m : Int) := by omega
      clear h256 hc2
      go_enter Tryd.func32, Tryd.ntmps32
      go_wp2_with (first
        | ((with_reducible refine at_ald 2 ?_); refine wpList_al _ rfl _ rfl _ HZ0.out ?_; intro w1 g2 hg2 hl2 B2 b1; have HG2 := hidden hg2; have HB2 := hidden B2; have Hb1 := hidden b1; clear hg2 hl2 B2 b1)
        | ((with_reducible refine at_ald 4 ?_); refine wpList_al _ rfl _ rfl _ HZ0.out ?_; intro w2 g4 hg4 hl4 B4 b2; have HB4 := hidden B4; have HG4 : Hid (w.heap.size ≤ g4) := Nat.le_trans Hb1.out.size hg4; have HG24 := hidden (show g2 ≠ g4 by have := HB2.out.lt; omega); have Hb2 := hidden (grow_trans Hb1.out b2); have HBz := hidden (HB2.out.grow b2); clear hg4 hl4 B4 b2))
      refine wp_region_held_drew (S := fun w' => Below w.heap.size w w') (by kernel_rfl) (grow_trans Hb2.out (Below.refl _ _).drew) (fun hHeld => ?_)
      refine wpAnyH_take (i := 0) (v := .slice (some ⟨gz, oz, none⟩) l vc) rfl (by kernel_rfl) (by kernel_rfl) (by kernel_rfl) (fun _ _ _ h => h) (Or.inl ⟨by rfl, fun w hS => by go_simp⟩) hHeld ?_
      simp only [Act.put, List.getElem_toArray, List.getElem_cons_zero, List.setIfInBounds_toArray, List.set_cons_zero, List.set_cons_succ]
      refine wpAnyH_take (i := 1) (v := .pointer (some ⟨gz, oz, none⟩)) rfl (by kernel_rfl) (by kernel_rfl) (by kernel_rfl) (fun _ _ _ h => h) (Or.inl ⟨by rfl, fun w hS => by go_simp⟩) hHeld ?_
      simp only [Act.put, List.getElem_toArray, List.getElem_cons_zero, List.getElem_cons_succ, List.setIfInBounds_toArray, List.set_cons_zero, List.set_cons_succ]
      refine wpAnyH_take (i := 2) (v := .int .u8 x) rfl (by kernel_rfl) (by kernel_rfl) (by kernel_rfl) (fun _ _ _ h => h) (Or.inl ⟨by rfl, fun w hS => by (have q1 := (HC.out _ hS).1; go_simp)⟩) hHeld ?_
      simp only [Act.put, List.getElem_toArray, List.getElem_cons_zero, List.getElem_cons_succ, List.setIfInBounds_toArray, List.set_cons_zero, List.set_cons_succ]
      refine wpAnyH_take (i := 3) (v := .int .i64 x) rfl (by kernel_rfl) (by kernel_rfl) (by kernel_rfl) (fun _ _ _ h => h) (Or.inl ⟨by rfl, fun w hS => by go_simp⟩) hHeld ?_
      simp only [Act.put, List.getElem_toArray, List.getElem_cons_zero, List.getElem_cons_succ, List.setIfInBounds_toArray, List.set_cons_zero, List.set_cons_succ]
      refine wpAnyH_take (i := 4) (v := .int .i64 (256 * x)) rfl (by kernel_rfl) (by kernel_rfl) (by kernel_rfl) (fun _ _ _ h => h) (Or.inl ⟨by rfl, fun w hS => by go_simp⟩) hHeld ?_
      simp only [Act.put, List.getElem_toArray, List.getElem_cons_zero, List.getElem_cons_succ, List.setIfInBounds_toArray, List.set_cons_zero, List.set_cons_succ]
      refine wpAnyH_take (i := 5) (v := .slice (some ⟨gz, oz, none⟩) l vc) rfl (by kernel_rfl) (by kernel_rfl) (by kernel_rfl) (fun _ _ _ h => h) (Or.inl ⟨by rfl, fun w hS => by go_simp⟩) hHeld ?_
      simp only [Act.put, List.getElem_toArray, List.getElem_cons_zero, List.getElem_cons_succ, List.setIfInBounds_toArray, List.set_cons_zero, List.set_cons_succ]
      refine wpAnyH_take (i := 6) (v := .pointer (some ⟨gz, oz + 1, none⟩)) rfl (by kernel_rfl) (by kernel_rfl) (by kernel_rfl) (fun _ _ _ h => h) (Or.inl ⟨by rfl, fun w hS => by go_simp⟩) hHeld ?_
      simp only [Act.put, List.getElem_toArray, List.getElem_cons_zero, List.getElem_cons_succ, List.setIfInBounds_toArray, List.set_cons_zero, List.set_cons_succ]
      refine wpAnyH_take (i := 7) (v := .int .u8 y) rfl (by kernel_rfl) (by kernel_rfl) (by kernel_rfl) (fun _ _ _ h => h) (Or.inl ⟨by rfl, fun w hS => by (have q1 := (HC.out _ hS).2; go_simp)⟩) hHeld ?_
      simp only [Act.put, List.getElem_toArray, List.getElem_cons_zero, List.getElem_cons_succ, List.setIfInBounds_toArray, List.set_cons_zero, List.set_cons_succ]
      refine wpAnyH_take (i := 8) (v := .int .i64 y) rfl (by kernel_rfl) (by kernel_rfl) (by kernel_rfl) (fun _ _ _ h => h) (Or.inl ⟨by rfl, fun w hS => by go_simp⟩) hHeld ?_
      simp only [Act.put, List.getElem_toArray, List.getElem_cons_zero, List.getElem_cons_succ, List.setIfInBounds_toArray, List.set_cons_zero, List.set_cons_succ]
      refine wpAnyH_take (i := 9) (v := .int .i64 (n : Int)) rfl (by kernel_rfl) (by kernel_rfl) (by kernel_rfl) (fun _ _ _ h => h) (Or.inl ⟨by rfl, fun w hS => by go_simp⟩) hHeld ?_
      simp only [Act.put, List.getElem_toArray, List.getElem_cons_zero, List.getElem_cons_succ, List.setIfInBounds_toArray, List.set_cons_zero, List.set_cons_succ]
      refine wpAnyH_take (i := 10) (v := .int .i64 (n : Int)) rfl (by kernel_rfl) (by kernel_rfl) (by kernel_rfl) (fun _ _ _ h => h) (Or.inl ⟨by rfl, fun w hS => by go_simp⟩) hHeld ?_
      simp only [Act.put, List.getElem_toArray, List.getElem_cons_zero, List.getElem_cons_succ, List.setIfInBounds_toArray, List.set_cons_zero, List.set_cons_succ]
      refine wpAnyH_done (by kernel_rfl) ?_ _
      have HH : Hid (Below w.heap.size w w2.drew) := grow_trans Hb2.out (Below.refl _ _).drew
      have HH4 : Hid (Blk w2.drew g4 46 (encR (.slice none 0 0) Z).toArray) := HB4.out
      have HH2 : Hid (Blk w2.drew g2 46 (encR (.slice none 0 0) Z).toArray) := HBz.out
      generalize w2.drew = w3 at HH HH4 HH2 ⊢
      go_wp2_with (first
        | ((with_reducible refine at_ldd 40 4 ?_); refine wpList_lds _ rfl _ _ rfl g4 _ _ rfl HH4.out HUP.out HSz.out ?_)
        | ((with_reducible refine at_st 2 ?_); refine wpList_sto _ rfl _ _ _ rfl g2 _ _ rfl rfl HH2.out HSz.out rfl (encR_one _ _ _ _) ?_; intro w5 B5 r5))
      exact bodyPost_ret (v := .tuple #[.agg (encR (.slice none 0 0) Z).toArray, .bool false]) (results_agg_tmp rfl _ _ g2 _ _ rfl rfl B5 HUP.out HSz.out) rfl (HPost.out _ (below_row HH.out r5 HG2.out))
  · obtain ⟨l, hll⟩ : ∃ l, l = zs.length := ⟨_, rfl⟩
    rw [← hll] at h2 ⊢
    have z2 : (l : Int) < 2 := by omega
    clear HE hf hb hrow hcap hll hup hZ HR h2 hl
    go_enter Tryd.func32, Tryd.ntmps32
    go_wp2_with (first
      | ((with_reducible refine at_ald 2 ?_); refine wpList_al _ rfl _ rfl _ HZ0.out ?_; intro w1 g2 hg2 hl2 B2 b1; have HG2 := hidden hg2; have HB2 := hidden B2; have Hb1 := hidden b1; clear hg2 hl2 B2 b1)
      | ((with_reducible refine at_ald 4 ?_); refine wpList_al _ rfl _ rfl _ HZ0.out ?_; intro w2 g4 hg4 hl4 B4 b2; have HB4 := hidden B4; have Hb2 := hidden (grow_trans Hb1.out b2); have HH2 := hidden (HB2.out.grow b2); clear hg4 hl4 B4 b2)
      | ((with_reducible refine at_ldd 17 4 ?_); refine wpList_lds _ rfl _ _ rfl g4 _ _ rfl HB4.out HUP.out HSz.out ?_)
      | ((with_reducible refine at_st 2 ?_); refine wpList_sto _ rfl _ _ _ rfl g2 _ _ rfl rfl HH2.out HSz.out rfl (encR_one _ _ _ _) ?_; intro w5 B5 r5))
    exact bodyPost_ret (v := .tuple #[.agg (encR (.slice none 0 0) Z).toArray, .bool false]) (results_agg_tmp rfl _ _ g2 _ _ rfl rfl B5 HUP.out HSz.out) rfl (HPost.out _ (below_row Hb2.out r5 HG2.out))

theorem wpList_bsh {ops : Array Oper} {rest : List Oper} {op : Oper} {a : Act} {Q : Exit → Act → World → Prop} (w : World) (hgd : op.guard = none) (x : Operand) (ho : op.op = .buildSlice 32 1 #[(0, x)])
    (h : List Int) (hx : a.eval x = .agg (B h)) (hl : h.length = 32)
    (hk : wpList Tryd.prog ops Q rest (a.put op.dst (.slice (some ⟨w.heap.size, 0, none⟩) 1 1)) (w.alloc (.cells (B h) 23))) : wpList Tryd.prog ops Q (op :: rest) a w := by
  refine wpList_plain hgd fun K hK => ?_
  obtain ⟨i, z, hi, hz, hs, _, hzs⟩ := info_hash
  have hrun := run_buildSlice (P := Tryd.prog) w 32 23 1 #[(0, .agg (B h))] (B h) i z Tryd.underlying32 hi hz (by rw [hs]; omega) (by rw [hs]; omega) (by
    rw [hs]
    obtain ⟨zs, hzz, hzl⟩ : ∃ zs : List Value, (Array.range (1 * 32)).map (z.cells[· % z.cells.size]!) = zs.toArray ∧ zs.length = 32 := ⟨_, (Array.toArray_toList).symm, by simp⟩
    rw [hzz]
    have := fill_one (fun i => some (i * 32, 32)) 0 0 32 (.agg (B h)) (h.map (Value.int .u8)) zs [] rfl rfl (by simp [hl]) (by omega)
    rw [show (#[(0, Value.agg (B h))] : Array (Nat × Value)).toList = [(0, Value.agg (B h))] from rfl, this, Instr.fill]
    simp [hzl, B])
  unfold Oper.wp execOp
  simp only [ho, List.map_toArray, List.map_cons, List.map_nil, hx, Sem.run_bind, hrun, Result.andThen_ok, Sem.run_pure]
  exact hK _ _ hk

theorem bt_step (x : Int) (j : Nat) : x / 2 ^ j / 2 = x / 2 ^ (j + 1) := by
  rw [Int.pow_succ, Int.ediv_ediv_of_nonneg (Int.le_of_lt (Int.pow_pos (by omega)))]
theorem shr_in (x : Int) (hx : 0 ≤ x ∧ x ≤ 255) (k : Nat) : 0 ≤ x / 2 ^ k ∧ x / 2 ^ k ≤ 255 :=
  ⟨Int.ediv_nonneg hx.1 (Int.pow_nonneg (by omega)), Int.le_trans (Int.ediv_le_self _ hx.1) hx.2⟩

theorem at_bs {P : Program} {ops : Array Oper} {Q : Exit → Act → World → Prop} {rest : List Oper} {a : Act} {w : World} {dst : Option Tmp} {ty t : TypeId} {n : Nat} {p : String} {f : Array Edge} {g : Option (Nat × Bool)} {x : Array (Nat × Operand)}
    (h : wpList P ops Q (Oper.mk dst (.buildSlice ty n x) t p f g :: rest) a w) : wpList P ops Q (Oper.mk dst (.buildSlice ty n x) t p f g :: rest) a w := h

theorem take_set {XX D : List Int} (hx : XX.length = 32) (hd : D.length = 32) {q : Nat} (hq : q < 32) : (XX.take q ++ D.drop q).set q (XX.getD q 0) = XX.take (q + 1) ++ D.drop (q + 1) := by
  have e1 : XX.take (q + 1) = XX.take q ++ [XX.getD q 0] := by rw [List.take_add_one, List.getElem?_eq_getElem (by omega)]; simp [List.getD, show q < XX.length by omega]
  have e2 : D.drop q = D[q] :: D.drop (q + 1) := List.drop_eq_getElem_cons (by omega)
  rw [e1, e2, List.set_append_right _ _ (by rw [List.length_take]; omega), List.length_take, Nat.min_eq_left (by omega), Nat.sub_self, List.set_cons_zero, List.append_assoc]
  rfl

/-- What read has gone through: where it stands in the bytes. -/
structure RrS (zs bs r0 : List Int) (k at_ : Nat) : Prop where
  good : (rdK bs r0 k).2.2 = false
  pos : zs.drop at_ = (rdK bs r0 k).2.1
  le : at_ ≤ zs.length

theorem RrS.none {zs bs r0 : List Int} {k p : Nat} (h : RrS zs bs r0 k p) (hk : kb bs k = 0) : RrS zs bs r0 (k + 1) p ∧ (rdK bs r0 (k + 1)).1 = (rdK bs r0 k).1 ++ [emD] := by
  have e : rdK bs r0 (k + 1) = ((rdK bs r0 k).1 ++ [emD], (rdK bs r0 k).2) := by rw [rdK, if_pos hk]
  exact ⟨⟨by rw [e]; exact h.good, by rw [e]; exact h.pos, h.le⟩, by rw [e]⟩
theorem RrS.some {zs bs r0 : List Int} {k p : Nat} (h : RrS zs bs r0 k p) (hk : kb bs k ≠ 0) (hp : p + 32 ≤ zs.length) : RrS zs bs r0 (k + 1) (p + 32) ∧ (rdK bs r0 (k + 1)).1 = (rdK bs r0 k).1 ++ [(zs.drop p).take 32] := by
  have hl : 32 ≤ (rdK bs r0 k).2.1.length := by rw [← h.pos, List.length_drop]; omega
  have e : rdK bs r0 (k + 1) = ((rdK bs r0 k).1 ++ [(rdK bs r0 k).2.1.take 32], (rdK bs r0 k).2.1.drop 32, false) := by rw [rdK, if_neg hk, h.good, if_neg (by simp), if_pos hl]
  refine ⟨⟨by rw [e], ?_, hp⟩, by rw [e, h.pos]⟩
  rw [e, ← h.pos, List.drop_drop]
theorem RrS.few {zs bs r0 : List Int} {k n p : Nat} (h : RrS zs bs r0 k p) (hk : kb bs k ≠ 0) (hp : zs.length < p + 32) (hn : k < n) : (rdK bs r0 n).2.2 = true := by
  have hl : ¬ 32 ≤ (rdK bs r0 k).2.1.length := by rw [← h.pos, List.length_drop]; have := h.le; omega
  have e : rdK bs r0 (k + 1) = ((rdK bs r0 k).1 ++ [z32], (rdK bs r0 k).2.1, true) := by rw [rdK, if_neg hk, h.good, if_neg (by simp), if_neg hl]
  cases q : (rdK bs r0 n).2.2 with
  | true => rfl
  | false =>
    have := rdK_bad bs r0 n q (k + 1) (by omega)
    rw [e] at this
    exact absurd this (by simp)

set_option maxRecDepth 100000 in
set_option maxHeartbeats 16000000 in
theorem rread_ok (v : Value) (zs : List Int) (w : World) (h : Reads w v zs) (hl : zs.length ≤ 140737488355328 - 4096) (hf : fitD zs) : Calls Tryd.prog 32 #[v] w (RrPost zs w) := by
  have hb : Bytes zs := by obtain ⟨_, _, _, _, _, hb, _⟩ := h; exact hb
  have h2 : 2 ≤ zs.length := by have := hf.1; omega
  have HNo : Hid ((pR zs).2.2 = true → ∀ a m c w', Below w.heap.size w w' → RrPost zs w (.returned (.tuple #[.agg (encR (.slice a m c) (List.replicate 129 0)).toArray, .bool false])) w') := fun hx a m c w' q => ⟨a, m, c, _, false, rfl, by simp, q, by simp [hx], fun e => by simp at e⟩
  have HOk : Hid ((pR zs).2.2 = false → ∀ a c w', Below w.heap.size w w' → w'.ownsRow w.heap.size 23 32 (.slice a (pN zs) c) (pN zs) (flatH (pR zs).1) → RrPost zs w (.returned (.tuple #[.agg (encR (.slice a (pN zs) c) (dcN (pR zs).2.1)).toArray, .bool (decide (dcE (pR zs).2.1 = 0))])) w') := fun hx a c w' q ho => by
    have hlen : (dcN (pR zs).2.1).length = 129 := by
      obtain ⟨k, a, b, c, d, hN, hNd⟩ := dc_nd _ (pR_bytes hb)
      rw [hN]
      exact hNd.length
    exact ⟨a, pN zs, c, _, _, rfl, hlen, q, by simp [hf, hx], fun _ => ⟨rfl, rfl, ho⟩⟩
  have hpr : pR zs = rdK (pB zs) (zs.drop (2 + by7 (pN zs))) (pN zs) := rfl
  have HS0 : RrS zs (pB zs) (zs.drop (2 + by7 (pN zs))) 0 (2 + by7 (pN zs)) := ⟨rfl, rfl, hf.1⟩
  have hn := pN_two hb h2
  have hn256 := hf.2
  have hfit := hf.1
  have HBl : Hid (∀ i, i < by7 (pN zs) → zs.getD (2 + i) 0 = (pB zs).getD i 0) := fun i h => pB_getD hf i h
  have HBB : Hid (Bytes (pB zs)) := (hb.drop _).take _
  have HDN : Hid (∀ k, (rdK (pB zs) (zs.drop (2 + by7 (pN zs))) k).1.length = k) := fun k => rdK_length _ _ k
  have HDc : Hid (∀ w' u, Reads w' u (pR zs).2.1 → Calls Tryd.prog 59 #[u] w' (DecPost (pR zs).2.1 w')) := fun w' u h => refDecode_any u _ w' h
  have HNL : Hid ((dcN (pR zs).2.1).length = 129) := by
    obtain ⟨k, a, b, c, d, hN, hNd⟩ := dc_nd _ (pR_bytes hb)
    show _ = _
    rw [hN]
    exact hNd.length
  have hmm : (((pN zs : Int) + 7) / 8) = (by7 (pN zs) : Int) := by unfold by7; omega
  have hm8 : pN zs ≤ 8 * by7 (pN zs) ∧ by7 (pN zs) ≤ 32 := by unfold by7; omega
  generalize HE : RrPost zs w = Post at HNo HOk ⊢
  rw [hpr] at HNo HOk HDc HNL
  generalize zs.drop (2 + by7 (pN zs)) = r0 at *
  generalize pB zs = bs at *
  generalize by7 (pN zs) = m at *
  generalize pN zs = n at *
  have HRd := hidden h
  obtain ⟨va, vc, rfl, hcap, _, _, hrow⟩ := h
  obtain ⟨gz, oz, rfl, hcell⟩ := hrow (by omega)
  have HC : Hid (∀ i w', i < zs.length → Below w.heap.size w w' → w'.cell? ⟨gz, oz + i, none⟩ = some (.int .u8 (zs.getD i 0))) := fun i w' hi q => by
    have c0 := hcell i hi
    rw [q.cell (block_lt_of_cell c0)]
    exact c0
  have HZB : Hid (Bytes zs) := hb
  obtain ⟨fp, hup⟩ := u_proof
  have HUP := hidden hup
  have HSz : Hid (∀ a m c, (Tryd.prog.info? 46).map (·.size) = some (encR (.slice a m c) (List.replicate 129 0)).toArray.size ∧ (encR (.slice none 0 0) (List.replicate 129 0)).toArray.size = (encR (.slice a m c) (List.replicate 129 0)).toArray.size) := fun a m c => ⟨encR_sz _ _ (by simp), by simp [encR]⟩
  obtain ⟨Z, hZ⟩ : ∃ Z : List Int, Z = List.replicate 129 0 := ⟨_, rfl⟩
  rw [← hZ] at HNo HSz
  have HZL : Hid (Z.length = 129) := by show _ = _; rw [hZ]; rfl
  have HZ0 : Hid (∀ w, (zeroValue 46).run Tryd.prog w = .ok (.agg (encR (.slice none 0 0) Z).toArray) w) := by rw [hZ]; exact zero_proof
  have hx := hb.getD 0
  have hy := hb.getD 1
  obtain ⟨x, hxx⟩ : ∃ x, x = zs.getD 0 0 := ⟨_, rfl⟩
  obtain ⟨y, hyy⟩ : ∃ y, y = zs.getD 1 0 := ⟨_, rfl⟩
  have HC2 : Hid (∀ w', Below w.heap.size w w' → w'.cell? ⟨gz, oz, none⟩ = some (.int .u8 x) ∧ w'.cell? ⟨gz, oz + 1, none⟩ = some (.int .u8 y)) := fun w' q => by
    have c0 := HC.out 0 w' (by omega) q
    have c1 := HC.out 1 w' (by omega) q
    rw [Nat.add_zero] at c0
    rw [hxx, hyy]
    exact ⟨c0, c1⟩
  rw [← hxx, ← hyy] at hn
  rw [← hxx] at hx
  rw [← hyy] at hy
  obtain ⟨l, hll⟩ : ∃ l, l = zs.length := ⟨_, rfl⟩
  have HLL := hidden hll
  rw [← hll] at hcap h2 hl hfit ⊢
  have x0 := hx.1
  have x1 := hx.2
  have y0 := hy.1
  have y1 := hy.2
  have z2 : ¬ (l : Int) < 2 := by omega
  have zn : (0 : Int) ≤ (n : Int) := by omega
  have zn2 : (n : Int) ≤ 256 := by omega
  have zn3 : ¬ (256 : Int) < (n : Int) := by omega
  have zl1 : ¬ l = 0 := by omega
  have zl2 : ¬ (l : Int) ≤ 1 := by omega
  have zlm : ¬ (l : Int) < 2 + (m : Int) := by omega
  have wx : IntKind.i64.wrap x = x := by rw [IntKind.wrap_i64]; omega
  have wy : IntKind.i64.wrap y = y := by rw [IntKind.wrap_i64]; omega
  have w256 : IntKind.i64.wrap (256 * x) = 256 * x := by rw [IntKind.wrap_i64]; omega
  have wn : IntKind.i64.wrap (n : Int) = n := by rw [IntKind.wrap_i64]; omega
  have HNum : Hid (n ≤ 256 ∧ n ≤ 8 * m ∧ m ≤ 32 ∧ 2 + m ≤ l ∧ l ≤ 140737488355328 - 4096 ∧ l ≤ vc) := ⟨hn256, hm8.1, hm8.2, hfit, hl, hcap⟩
  obtain ⟨D, hD⟩ : ∃ D, D = emD := ⟨_, rfl⟩
  have HD := hidden hD
  have HEM : Hid (∀ w', Calls Tryd.prog 58 #[] w' fun e w'' => e = .returned (.agg (B D)) ∧ Below w'.heap.size w' w'') := fun w' => by rw [hD]; exact refEmpty_any w'
  have HSZ : Hid ((Tryd.prog.info? 23).map (·.size) = some (B D).size) := by show _ = _; rw [B_size, hD, emD_length]; exact sz_hash
  have HS2 : Hid ((B (List.replicate 32 0)).size = (B D).size) := by show _ = _; rw [B_size, B_size, hD, emD_length]; rfl
  have HDL : Hid (D.length = 32) := by show _ = _; rw [hD, emD_length]
  have HS0h := hidden HS0
  clear HE hf hb hrow hcell hxx hyy hpr hll hup hZ hx hy HS0 hm8 hD hfit hn256 hl hcap
  go_enter Tryd.func32, Tryd.ntmps32
  go_wp2_with (first
    | ((with_reducible refine at_ald 2 ?_); refine wpList_al _ rfl _ rfl _ HZ0.out ?_; intro w1 g2 hg2 hl2 B2 b1; have HG2 := hidden hg2; have HB2 := hidden B2; have Hb1 := hidden b1; clear hg2 hl2 B2 b1)
    | ((with_reducible refine at_ald 4 ?_); refine wpList_al _ rfl _ rfl _ HZ0.out ?_; intro w2 g4 hg4 hl4 B4 b2; have HB4 := hidden B4; have HG4 : Hid (w.heap.size ≤ g4) := Nat.le_trans Hb1.out.size hg4; have HG24 := hidden (show g2 ≠ g4 by have := HB2.out.lt; omega); have Hb2 := hidden (grow_trans Hb1.out b2); have HBz := hidden (HB2.out.grow b2); clear hg4 hl4 B4 b2))
  refine wp_region_held_drew (S := fun w' => Below w.heap.size w w') (by kernel_rfl) (grow_trans Hb2.out (Below.refl _ _).drew) (fun hHeld => ?_)
  refine wpAnyH_take (i := 0) (v := .slice (some ⟨gz, oz, none⟩) l vc) rfl (by kernel_rfl) (by kernel_rfl) (by kernel_rfl) (fun _ _ _ h => h) (Or.inl ⟨by rfl, fun w hS => by go_simp⟩) hHeld ?_
  simp only [Act.put, List.getElem_toArray, List.getElem_cons_zero, List.setIfInBounds_toArray, List.set_cons_zero, List.set_cons_succ]
  refine wpAnyH_take (i := 1) (v := .pointer (some ⟨gz, oz, none⟩)) rfl (by kernel_rfl) (by kernel_rfl) (by kernel_rfl) (fun _ _ _ h => h) (Or.inl ⟨by rfl, fun w hS => by go_simp⟩) hHeld ?_
  simp only [Act.put, List.getElem_toArray, List.getElem_cons_zero, List.getElem_cons_succ, List.setIfInBounds_toArray, List.set_cons_zero, List.set_cons_succ]
  refine wpAnyH_take (i := 2) (v := .int .u8 x) rfl (by kernel_rfl) (by kernel_rfl) (by kernel_rfl) (fun _ _ _ h => h) (Or.inl ⟨by rfl, fun w hS => by (have q1 := (HC2.out _ hS).1; go_simp)⟩) hHeld ?_
  simp only [Act.put, List.getElem_toArray, List.getElem_cons_zero, List.getElem_cons_succ, List.setIfInBounds_toArray, List.set_cons_zero, List.set_cons_succ]
  refine wpAnyH_take (i := 3) (v := .int .i64 x) rfl (by kernel_rfl) (by kernel_rfl) (by kernel_rfl) (fun _ _ _ h => h) (Or.inl ⟨by rfl, fun w hS => by go_simp⟩) hHeld ?_
  simp only [Act.put, List.getElem_toArray, List.getElem_cons_zero, List.getElem_cons_succ, List.setIfInBounds_toArray, List.set_cons_zero, List.set_cons_succ]
  refine wpAnyH_take (i := 4) (v := .int .i64 (256 * x)) rfl (by kernel_rfl) (by kernel_rfl) (by kernel_rfl) (fun _ _ _ h => h) (Or.inl ⟨by rfl, fun w hS => by go_simp⟩) hHeld ?_
  simp only [Act.put, List.getElem_toArray, List.getElem_cons_zero, List.getElem_cons_succ, List.setIfInBounds_toArray, List.set_cons_zero, List.set_cons_succ]
  refine wpAnyH_take (i := 5) (v := .slice (some ⟨gz, oz, none⟩) l vc) rfl (by kernel_rfl) (by kernel_rfl) (by kernel_rfl) (fun _ _ _ h => h) (Or.inl ⟨by rfl, fun w hS => by go_simp⟩) hHeld ?_
  simp only [Act.put, List.getElem_toArray, List.getElem_cons_zero, List.getElem_cons_succ, List.setIfInBounds_toArray, List.set_cons_zero, List.set_cons_succ]
  refine wpAnyH_take (i := 6) (v := .pointer (some ⟨gz, oz + 1, none⟩)) rfl (by kernel_rfl) (by kernel_rfl) (by kernel_rfl) (fun _ _ _ h => h) (Or.inl ⟨by rfl, fun w hS => by go_simp⟩) hHeld ?_
  simp only [Act.put, List.getElem_toArray, List.getElem_cons_zero, List.getElem_cons_succ, List.setIfInBounds_toArray, List.set_cons_zero, List.set_cons_succ]
  refine wpAnyH_take (i := 7) (v := .int .u8 y) rfl (by kernel_rfl) (by kernel_rfl) (by kernel_rfl) (fun _ _ _ h => h) (Or.inl ⟨by rfl, fun w hS => by (have q1 := (HC2.out _ hS).2; go_simp)⟩) hHeld ?_
  simp only [Act.put, List.getElem_toArray, List.getElem_cons_zero, List.getElem_cons_succ, List.setIfInBounds_toArray, List.set_cons_zero, List.set_cons_succ]
  refine wpAnyH_take (i := 8) (v := .int .i64 y) rfl (by kernel_rfl) (by kernel_rfl) (by kernel_rfl) (fun _ _ _ h => h) (Or.inl ⟨by rfl, fun w hS => by go_simp⟩) hHeld ?_
  simp only [Act.put, List.getElem_toArray, List.getElem_cons_zero, List.getElem_cons_succ, List.setIfInBounds_toArray, List.set_cons_zero, List.set_cons_succ]
  refine wpAnyH_take (i := 9) (v := .int .i64 (n : Int)) rfl (by kernel_rfl) (by kernel_rfl) (by kernel_rfl) (fun _ _ _ h => h) (Or.inl ⟨by rfl, fun w hS => by go_simp⟩) hHeld ?_
  simp only [Act.put, List.getElem_toArray, List.getElem_cons_zero, List.getElem_cons_succ, List.setIfInBounds_toArray, List.set_cons_zero, List.set_cons_succ]
  refine wpAnyH_take (i := 10) (v := .int .i64 (n : Int)) rfl (by kernel_rfl) (by kernel_rfl) (by kernel_rfl) (fun _ _ _ h => h) (Or.inl ⟨by rfl, fun w hS => by go_simp⟩) hHeld ?_
  simp only [Act.put, List.getElem_toArray, List.getElem_cons_zero, List.getElem_cons_succ, List.setIfInBounds_toArray, List.set_cons_zero, List.set_cons_succ]
  refine wpAnyH_done (by kernel_rfl) ?_ _
  have HH : Hid (Below w.heap.size w w2.drew) := grow_trans Hb2.out (Below.refl _ _).drew
  have HH4 : Hid (Blk w2.drew g4 46 (encR (.slice none 0 0) Z).toArray) := HB4.out
  have HH2 : Hid (Blk w2.drew g2 46 (encR (.slice none 0 0) Z).toArray) := HBz.out
  generalize w2.drew = w3 at HH HH4 HH2 ⊢
  go_wp2
  have HW3 := hidden HH.out
  go_loopw [7, 6] (fun iv av wr => ∃ (k p : Nat) (a : Option Addr) (c : Nat), k ≤ n ∧ iv = .int .i64 (k : Int) ∧ av = .int .i64 (p : Int) ∧ Hid (RrS zs bs r0 k p) ∧ Hid (wr.ownsRow w.heap.size 23 32 (.slice a k c) k (flatH (rdK bs r0 k).1)) ∧ Hid (Blk wr g4 46 (encR (.slice a k c) Z).toArray) ∧ Hid (Blk wr g2 46 (encR (.slice none 0 0) Z).toArray) ∧ Hid (Below w.heap.size w wr)) (fun iv _ _ => n - (intOf iv).toNat)
  case atStart => exact ⟨0, 2 + m, none, 0, by omega, rfl, by push_cast; rfl, HS0h.out, (World.ownsRow_nil _ _ _ _ : World.ownsRow w3 w.heap.size 23 32 (.slice none 0 0) 0 []), HH4.out, HH2.out, HH.out⟩
  case round =>
    obtain ⟨k, p, a, c, hk, rfl, rfl, hS, hO, hB4, hB2, hBw⟩ := hrel
    have hnum := HNum.out
    have hll := HLL.out
    have hple := hS.out.le
    rw [← hll] at hple
    by_cases hlt : k < n
    · have z1 : (k : Int) < (n : Int) := by omega
      have hk8 : k / 8 < m := by omega
      have hcl := HC.out (2 + k / 8) wr (by omega) hBw.out
      rw [HBl.out _ hk8] at hcl
      have hX := HBB.out.getD (k / 8)
      have hkb : kb bs k = bs.getD (k / 8) 0 / 2 ^ (7 - k % 8) % 2 := rfl
      obtain ⟨X, hXX⟩ : ∃ X, X = bs.getD (k / 8) 0 := ⟨_, rfl⟩
      rw [← hXX] at hcl hX hkb
      have z8 : IntKind.i64.wrap ((k : Int) / 8) = (k : Int) / 8 := by rw [IntKind.wrap_i64]; omega
      have z9 : IntKind.i64.wrap (2 + (k : Int) / 8) = 2 + (k : Int) / 8 := by rw [IntKind.wrap_i64]; omega
      have z10 : (0 : Int) ≤ 2 + (k : Int) / 8 := by omega
      have z11 : 2 + (k : Int) / 8 < (l : Int) := by omega
      have z12 : (2 + (k : Int) / 8).toNat = 2 + k / 8 := by omega
      have wX : IntKind.i64.wrap X = X := by rw [IntKind.wrap_i64]; omega
      have w7 : IntKind.i64.wrap (7 - (k : Int) % 8) = 7 - (k : Int) % 8 := by rw [IntKind.wrap_i64]; omega
      have HKB := hidden hkb
      have HX := hidden hX
      have HNUM := hidden hnum
      have HPLE := hidden hple
      obtain ⟨wo, hwo⟩ : ∃ wo, wo = wr := ⟨_, rfl⟩
      subst hwo
      clear hXX hX hkb hnum hll hple
      go_wp2
      go_loopw [9, 8] (fun jv bv wr => ∃ j : Nat, j ≤ 7 - k % 8 ∧ jv = .int .i64 (j : Int) ∧ bv = .int .i64 (X / 2 ^ j) ∧ wr = wo) (fun jv _ _ => 8 - (intOf jv).toNat)
      case atStart => exact ⟨0, by omega, rfl, by simp, rfl⟩
      case round =>
        obtain ⟨j, hj, rfl, rfl, rfl⟩ := hrel
        have hY := shr_in X HX.out j
        by_cases hjl : j < 7 - k % 8
        · have hYs := hidden (bt_step X j)
          obtain ⟨Y, hYY⟩ : ∃ Y, Y = X / 2 ^ j := ⟨_, rfl⟩
          rw [← hYY] at hY hYs ⊢
          have y1 : (j : Int) < 7 - (k : Int) % 8 := by omega
          have y2 := hY.1
          have y3 : wrap64 (Y / 2) = Y / 2 := Go.IntWalk.wrap64_in _ (by omega)
          have y5 : Y.tdiv 2 = Y / 2 := Int.tdiv_eq_ediv_of_nonneg y2
          have HY35 : Hid (Value.int .i64 (wrap64 (Y.tdiv 2)) = Value.int .i64 (X / 2 ^ (j + 1))) := by show _ = _; rw [y5, y3, hYs.out]
          clear hYY hY y3 y5
          go_wp2
          exact ⟨⟨j + 1, by omega, by go_num, HY35.out, trivial⟩, by simp [intOf]; omega⟩
        · have hj7 : j = 7 - k % 8 := by omega
          have y1 : ¬ (j : Int) < 7 - (k : Int) % 8 := by omega
          have hkb := HKB.out
          rw [← hj7] at hkb
          obtain ⟨Y, hYY⟩ : ∃ Y, Y = X / 2 ^ j := ⟨_, rfl⟩
          rw [← hYY] at hY hkb ⊢
          have y2 := hY.1
          have y6 : Y.tmod 2 = Y % 2 := Int.tmod_eq_emod_of_nonneg y2
          clear hYY hj7
          by_cases hk0 : kb bs k = 0
          · have y4 : Y % 2 = 0 := by rw [← hkb]; exact hk0
            obtain ⟨hS2, hS1⟩ := hS.out.none hk0
            have HRS := hidden hS2
            have HFl : Hid (flatH (rdK bs r0 k).1 ++ D.map (Value.int .u8) = flatH (rdK bs r0 (k + 1)).1) := by show _ = _; rw [hS1, flatH_snoc, ← HD.out, B_toList]
            clear hkb hk0 hY hS2 hS1 hj
            go_wp2_with (first
              | (go_at_call 58; refine (HEM.out _).mono ?_; rintro e w5 ⟨rfl, b5⟩; have Hb5 := hidden b5; clear b5)
              | ((with_reducible refine at_ald 10 ?_); refine wpList_al _ rfl _ rfl _ zero_hash ?_; intro w6 g10 hg10 hl10 B10 b6; have HG10 := hidden hg10; have HB10 := hidden B10; have Hb6 := hidden b6; clear hg10 hl10 B10 b6)
              | ((with_reducible refine at_st 10 ?_); refine wpList_sto _ rfl _ _ _ rfl g10 _ _ rfl rfl HB10.out HSZ.out HS2.out (B_one _) ?_; intro w7 B7 r7; have hb7 := grow_trans Hb5.out (below_row Hb6.out r7 HG10.out); have HBt := hidden B7; have HBt7 := hidden B7; have HO7 := hidden (ownsH_below hO.out hb7); have HB47 := hidden (hB4.out.grow hb7); have HB27 := hidden (hB2.out.grow hb7); have HBw7 := hidden (grow_trans hBw.out hb7); have cx := proof_side HB47.out; clear B7 r7 hb7)
              | ((with_reducible refine at_ldd 88 10 ?_); refine wpList_ld _ rfl _ _ rfl g10 _ rfl HBt.out _ _ Tryd.underlying23 HSZ.out ?_)
              | ((with_reducible refine at_bs ?_); refine wpList_bsh _ rfl _ rfl D rfl HDL.out ?_; have HO8 := hidden (ownsH_below HO7.out (grow_alloc w7 (.cells (B D) 23))); have HB48 := hidden (HB47.out.grow (grow_alloc w7 (.cells (B D) 23))); have HB28 := hidden (HB27.out.grow (grow_alloc w7 (.cells (B D) 23))); have HBw8 := hidden (grow_trans HBw7.out (grow_alloc w7 (.cells (B D) 23))); have HLS : Hid (w.heap.size ≤ (w7.alloc (.cells (B D) 23)).heap.size) := HBw8.out.size)
              | (at_builtin; refine wpList_appB _ rfl _ _ _ rfl w.heap.size 23 32 32 Tryd.underlying32 info_hash (by omega) _ k (flatH (rdK bs r0 k).1) rfl HO8.out w7.heap.size (D.map (Value.int .u8)) rfl (Blk.new _ _ _) (by rw [List.length_map]; exact HDL.out) (by intro u hu; obtain ⟨z, _, rfl⟩ := List.mem_map.1 hu; rfl) (by have := HNUM.out; simp only [maxLen]; omega) (by have := HNUM.out; omega) HLS.out ?_; intro a9 c9 w9 o9 r9; have HO9 := hidden o9; have HB49 := hidden (HB48.out.keptO r9 (own_ne HO8.out HB48.out)); have HB29 := hidden (HB28.out.keptO r9 (own_ne HO8.out HB28.out)); have HBw9 := hidden (below_ownH HBw8.out HO8.out (Nat.le_refl _) r9); have cy := proof_side HB49.out; have cz := HB49.out.frozen 0; clear o9 r9 cx))
            have gw := grown_setCell w9 g4 0 (.slice a9 (k + 1) c9)
            refine ⟨⟨k + 1, p, a9, c9, by omega, by go_num, rfl, HRS.out, ?_, ?_, ?_, ?_⟩, by simp [intOf]; omega⟩
            · show World.ownsRow _ _ _ _ _ _ _
              rw [HFl.out] at HO9
              exact HO9.out.kept gw (.inr (own_ne HO9.out HB49.out).symm)
            · show Blk _ _ _ _
              have := HB49.out.set 0 (.slice a9 (k + 1) c9)
              rw [show (encR (.slice a k c) Z).toArray.setIfInBounds 0 (.slice a9 (k + 1) c9) = (encR (.slice a9 (k + 1) c9) Z).toArray by simp [encR]] at this
              exact this
            · exact HB29.out.keptO gw (by intro e; injection e with e; exact HG24.out e)
            · exact below_row HBw9.out gw HG4.out
          · have hk1 : kb bs k = 1 := by
              rcases kb_two bs k with q | q
              · exact absurd q hk0
              · exact q
            have y4 : Y % 2 = 1 := by rw [← hkb]; exact hk1
            have hp1 := HPLE.out
            have hp2 := HNUM.out
            have wp : IntKind.i64.wrap ((p : Int) + 32) = (p : Int) + 32 := by rw [IntKind.wrap_i64]; omega
            by_cases hpl : p + 32 ≤ l
            · have z20 : ¬ (l : Int) < (p : Int) + 32 := by omega
              obtain ⟨hS2, hS1⟩ := hS.out.some hk0 (by rw [← HLL.out]; exact hpl)
              obtain ⟨XX, hXX⟩ : ∃ XX, XX = (zs.drop p).take 32 := ⟨_, rfl⟩
              rw [← hXX] at hS1
              have hXl : XX.length = 32 := by rw [hXX, List.length_take, List.length_drop, ← HLL.out]; omega
              have HXG : Hid (∀ q, q < 32 → zs.getD (p + q) 0 = XX.getD q 0) := fun q hq => by
                rw [hXX]
                simp only [List.getD, List.getElem?_take, List.getElem?_drop, if_pos hq]
              have HRS := hidden hS2
              have HXL := hidden hXl
              have HXZ : Hid ((Tryd.prog.info? 23).map (·.size) = some (B XX).size) := by show _ = _; rw [B_size, hXl]; exact sz_hash
              have HFl : Hid (flatH (rdK bs r0 k).1 ++ XX.map (Value.int .u8) = flatH (rdK bs r0 (k + 1)).1) := by show _ = _; rw [hS1, flatH_snoc, B_toList]
              have HPL : Hid (p + 32 ≤ l) := hpl
              clear hkb hk0 hk1 hY hS2 hS1 hj hXX hXl hp1 hp2 hpl
              go_wp2_with (first
              | (go_at_call 58; refine (HEM.out _).mono ?_; rintro e w5 ⟨rfl, b5⟩; have Hb5 := hidden b5; clear b5)
              | ((with_reducible refine at_ald 10 ?_); refine wpList_al _ rfl _ rfl _ zero_hash ?_; intro w6 g10 hg10 hl10 B10 b6; have HG10 := hidden hg10; have HB10 := hidden B10; have Hb6 := hidden b6; clear hg10 hl10 B10 b6)
              | ((with_reducible refine at_st 10 ?_); refine wpList_sto _ rfl _ _ _ rfl g10 _ _ rfl rfl HB10.out HSZ.out HS2.out (B_one _) ?_; intro w7 B7 r7; have hb7 := grow_trans Hb5.out (below_row Hb6.out r7 HG10.out); have HNE := hidden (show (Value.slice a k c).ownBlock ≠ some g10 ∧ w.heap.size ≤ g10 from ⟨fun e => by have h1 := (hO.out.lt g10 e).2; have h2 := Hb5.out.size; have h3 := HG10.out; omega, by have h1 := hBw.out.size; have h2 := Hb5.out.size; have h3 := HG10.out; omega⟩); have HBt := hidden B7; have HBt7 := hidden B7; have HO7 := hidden (ownsH_below hO.out hb7); have HB47 := hidden (hB4.out.grow hb7); have HB27 := hidden (hB2.out.grow hb7); have HBw7 := hidden (grow_trans hBw.out hb7); have cx := proof_side HB47.out; clear B7 r7 hb7))
              go_loopw [11] (fun qv wr => ∃ q : Nat, q ≤ 32 ∧ qv = .int .i64 (q : Int) ∧ Hid (Blk wr g10 23 (B (XX.take q ++ D.drop q))) ∧ Hid (w7.grownBy wr (some g10))) (fun qv _ => 32 - (intOf qv).toNat)
              case atStart => exact ⟨0, by omega, rfl, by show Blk _ _ _ _; rw [List.take_zero, List.drop_zero]; exact HBt.out, World.grownBy.refl _ _⟩
              case round =>
                obtain ⟨q, hq, rfl, hBq, hGq⟩ := hrel
                have hlq : (XX.take q ++ D.drop q).length = 32 := by rw [List.length_append, List.length_take, List.length_drop, HXL.out, HDL.out]; omega
                by_cases hq32 : q < 32
                · have q1 : (q : Int) < 32 := by omega
                  have hp1 := HPL.out
                  have hp2 := HNUM.out
                  have hcl := HC.out (p + q) wr (by rw [← HLL.out]; omega) (below_row HBw7.out hGq.out HNE.out.2)
                  rw [HXG.out q hq32] at hcl
                  have hst := hidden (take_set HXL.out HDL.out hq32)
                  obtain ⟨V, hV⟩ : ∃ V, V = XX.getD q 0 := ⟨_, rfl⟩
                  rw [← hV] at hcl hst
                  have q2 : IntKind.i64.wrap ((p : Int) + (q : Int)) = (p : Int) + (q : Int) := by rw [IntKind.wrap_i64]; omega
                  have q3 : (0 : Int) ≤ (p : Int) + (q : Int) := by omega
                  have q4 : (p : Int) + (q : Int) < (l : Int) := by omega
                  have q5 : ((p : Int) + (q : Int)).toNat = p + q := by omega
                  have hc10 := hBq.out.bcell q (by rw [hlq]; exact hq32)
                  have hf10 := hBq.out.frozen q
                  have HBs := hidden (hBq.out.set q (.int .u8 V))
                  rw [B_set, hst.out] at HBs
                  have HGs := hidden (grown_trans hGq.out (grown_setCell wr g10 q (.int .u8 V)))
                  clear hV hp1 hp2 hst hlq
                  go_wp2
                  exact ⟨⟨q + 1, by omega, by go_num, HBs.out, HGs.out⟩, by simp [intOf]; omega⟩
                · have hq3 : q = 32 := by omega
                  have q1 : ¬ (q : Int) < 32 := by omega
                  have HBt : Hid (Blk wr g10 23 (B XX)) := by
                    show Blk _ _ _ _
                    have := hBq.out
                    rw [hq3, List.take_of_length_le (by rw [HXL.out]; exact Nat.le_refl _), List.drop_eq_nil_of_le (by rw [HDL.out]; exact Nat.le_refl _), List.append_nil] at this
                    exact this
                  have HO7 := hidden (HO7.out.kept hGq.out (.inr HNE.out.1))
                  have HB47 := hidden (HB47.out.keptO hGq.out (fun e => by injection e with e; exact HB47.out.ne HBt7.out (by decide) e))
                  have HB27 := hidden (HB27.out.keptO hGq.out (fun e => by injection e with e; exact HB27.out.ne HBt7.out (by decide) e))
                  have HBw7 := hidden (below_row HBw7.out hGq.out HNE.out.2)
                  clear hlq hBq hGq
                  obtain ⟨w7, hw7⟩ : ∃ w7, w7 = wr := ⟨_, rfl⟩
                  subst hw7
                  have cx := proof_side HB47.out
                  go_wp2_with (first
                    | ((with_reducible refine at_ldd 88 10 ?_); refine wpList_ld _ rfl _ _ rfl g10 _ rfl HBt.out _ _ Tryd.underlying23 HXZ.out ?_)
                    | ((with_reducible refine at_bs ?_); refine wpList_bsh _ rfl _ rfl XX rfl HXL.out ?_; have HO8 := hidden (ownsH_below HO7.out (grow_alloc w7 (.cells (B XX) 23))); have HB48 := hidden (HB47.out.grow (grow_alloc w7 (.cells (B XX) 23))); have HB28 := hidden (HB27.out.grow (grow_alloc w7 (.cells (B XX) 23))); have HBw8 := hidden (grow_trans HBw7.out (grow_alloc w7 (.cells (B XX) 23))); have HLS : Hid (w.heap.size ≤ (w7.alloc (.cells (B XX) 23)).heap.size) := HBw8.out.size)
                    | (at_builtin; refine wpList_appB _ rfl _ _ _ rfl w.heap.size 23 32 32 Tryd.underlying32 info_hash (by omega) _ k (flatH (rdK bs r0 k).1) rfl HO8.out w7.heap.size (XX.map (Value.int .u8)) rfl (Blk.new _ _ _) (by rw [List.length_map]; exact HXL.out) (by intro u hu; obtain ⟨z, _, rfl⟩ := List.mem_map.1 hu; rfl) (by have := HNUM.out; simp only [maxLen]; omega) (by have := HNUM.out; omega) HLS.out ?_; intro a9 c9 w9 o9 r9; have HO9 := hidden o9; have HB49 := hidden (HB48.out.keptO r9 (own_ne HO8.out HB48.out)); have HB29 := hidden (HB28.out.keptO r9 (own_ne HO8.out HB28.out)); have HBw9 := hidden (below_ownH HBw8.out HO8.out (Nat.le_refl _) r9); have cy := proof_side HB49.out; have cz := HB49.out.frozen 0; clear o9 r9 cx))
                  have gw := grown_setCell w9 g4 0 (.slice a9 (k + 1) c9)
                  refine ⟨⟨k + 1, p + 32, a9, c9, by omega, by go_num, by push_cast; go_num, HRS.out, ?_, ?_, ?_, ?_⟩, by simp [intOf]; omega⟩
                  · show World.ownsRow _ _ _ _ _ _ _
                    rw [HFl.out] at HO9
                    exact HO9.out.kept gw (.inr (own_ne HO9.out HB49.out).symm)
                  · show Blk _ _ _ _
                    have := HB49.out.set 0 (.slice a9 (k + 1) c9)
                    rw [show (encR (.slice a k c) Z).toArray.setIfInBounds 0 (.slice a9 (k + 1) c9) = (encR (.slice a9 (k + 1) c9) Z).toArray by simp [encR]] at this
                    exact this
                  · exact HB29.out.keptO gw (by intro e; injection e with e; exact HG24.out e)
                  · exact below_row HBw9.out gw HG4.out
            · have z20 : (l : Int) < (p : Int) + 32 := by omega
              have hbad := hS.out.few hk0 (by rw [← HLL.out]; omega) hlt
              have HNo2 := hidden (HNo.out hbad)
              clear hkb hk0 hk1 hY hj hp1 hp2 hpl hbad
              go_wp2_with (first
              | (go_at_call 58; refine (HEM.out _).mono ?_; rintro e w5 ⟨rfl, b5⟩; have Hb5 := hidden b5; clear b5)
              | ((with_reducible refine at_ald 10 ?_); refine wpList_al _ rfl _ rfl _ zero_hash ?_; intro w6 g10 hg10 hl10 B10 b6; have HG10 := hidden hg10; have HB10 := hidden B10; have Hb6 := hidden b6; clear hg10 hl10 B10 b6)
              | ((with_reducible refine at_st 10 ?_); refine wpList_sto _ rfl _ _ _ rfl g10 _ _ rfl rfl HB10.out HSZ.out HS2.out (B_one _) ?_; intro w7 B7 r7; have hb7 := grow_trans Hb5.out (below_row Hb6.out r7 HG10.out); have HNE := hidden (show (Value.slice a k c).ownBlock ≠ some g10 ∧ w.heap.size ≤ g10 from ⟨fun e => by have h1 := (hO.out.lt g10 e).2; have h2 := Hb5.out.size; have h3 := HG10.out; omega, by have h1 := hBw.out.size; have h2 := Hb5.out.size; have h3 := HG10.out; omega⟩); have HBt := hidden B7; have HBt7 := hidden B7; have HO7 := hidden (ownsH_below hO.out hb7); have HB47 := hidden (hB4.out.grow hb7); have HB27 := hidden (hB2.out.grow hb7); have HBw7 := hidden (grow_trans hBw.out hb7); have cx := proof_side HB47.out; clear B7 r7 hb7)
              | ((with_reducible refine at_ldd 71 4 ?_); refine wpList_lds _ rfl _ _ rfl g4 _ _ rfl HB47.out HUP.out (HSz.out a k c).1 ?_)
              | ((with_reducible refine at_st 2 ?_); refine wpList_sto _ rfl _ _ _ rfl g2 _ (encR (.slice a k c) Z).toArray rfl rfl HB27.out (HSz.out a k c).1 (HSz.out a k c).2 (encR_one _ _ _ _) ?_; intro w12 B12 r12))
              exact bodyPost_ret (v := .tuple #[.agg (encR (.slice a k c) Z).toArray, .bool false]) (results_agg_tmp rfl _ _ g2 _ _ rfl rfl B12 HUP.out (HSz.out a k c).1) rfl (HNo2.out a k c _ (below_row HBw7.out r12 HG2.out))
    · obtain rfl : k = n := by omega
      have z1 : ¬ (k : Int) < (k : Int) := by omega
      have hcut := (HRd.out.grow hBw.out).cutoff p (by rw [← hll]; exact hple)
      rw [← hll, hS.out.pos] at hcut
      have HOk2 := hidden (HOk.out hS.out.good)
      have hE : dcE (rdK bs r0 k).2.1 = 0 ∨ dcE (rdK bs r0 k).2.1 = 10 := dcE_cases _
      have HDc2 : Hid (∀ w' u, Reads w' u (rdK bs r0 k).2.1 → Calls Tryd.prog 59 #[u] w' fun e w'' => e = .returned (.tuple #[.agg (B (dcN (rdK bs r0 k).2.1)), .int .i64 (dcE (rdK bs r0 k).2.1)]) ∧ Below w'.heap.size w' w'') := fun w' u h => HDc.out w' u h
      have HSzN : Hid (∀ a m c, (Tryd.prog.info? 46).map (·.size) = some (encR (.slice a m c) (dcN (rdK bs r0 k).2.1)).toArray.size ∧ (encR (.slice none 0 0) Z).toArray.size = (encR (.slice a m c) (dcN (rdK bs r0 k).2.1)).toArray.size) := fun a m c => ⟨encR_sz _ _ HNL.out, by simp [encR, HZL.out, HNL.out]⟩
      have HNs : Hid ((Tryd.prog.info? 44).map (·.size) = some (B (dcN (rdK bs r0 k).2.1)).size) := by show _ = _; rw [B_size, HNL.out]; exact size_node
      have HNs2 : Hid ((B (List.replicate 129 0)).size = (B (dcN (rdK bs r0 k).2.1)).size) := by show _ = _; rw [B_size, B_size, HNL.out]; rfl
      have HPutN : Hid (∀ w' a c, Blk w' g4 46 (encR (.slice a k c) Z).toArray → Blk (w'.setCells g4 1 (B (dcN (rdK bs r0 k).2.1)).toList) g4 46 (encR (.slice a k c) (dcN (rdK bs r0 k).2.1)).toArray ∧ w'.there g4 1 (B (dcN (rdK bs r0 k).2.1)).size) := fun w' a c hb => by
        have hz : Z.length = 129 := HZL.out
        have hsz : (encR (.slice a k c) Z).toArray.size = 130 := by simp [encR, hz]
        have hln : (B (dcN (rdK bs r0 k).2.1)).toList.length = 129 := by rw [B_toList, List.length_map, HNL.out]
        refine ⟨?_, hb.there 1 _ (by rw [B_size, HNL.out, hsz]; omega)⟩
        have := Blk.cells (B (dcN (rdK bs r0 k).2.1)).toList 1 hb (by rw [hln, hsz]; omega)
        rw [hln] at this
        have e : ((encR (.slice a k c) Z).toArray.toList.take 1 ++ ((B (dcN (rdK bs r0 k).2.1)).toList ++ (encR (.slice a k c) Z).toArray.toList.drop (1 + 129))).toArray = (encR (.slice a k c) (dcN (rdK bs r0 k).2.1)).toArray := by
          rw [List.drop_eq_nil_of_le (by simp [encR, hz]), List.append_nil, B_toList]
          rfl
        rw [e] at this
        exact this
      obtain ⟨fs, hu⟩ := u_node
      have HU := hidden hu
      generalize dcE (rdK bs r0 k).2.1 = E at *
      generalize dcN (rdK bs r0 k).2.1 = M at *
      clear hll HDc HNo HOk hu
      have hp2 := HNum.out
      rcases hE with rfl | rfl
      all_goals (
        by_cases hvp : vc = p
        · have hm : moved (some ⟨gz, oz, none⟩) vc p = some ⟨gz, oz, none⟩ := by rw [moved, if_pos hvp]
          rw [hm] at hcut
          have HCut := hidden hcut
          have z5 : vc - p = 0 := by omega
          rw [z5] at HCut
          clear hm hcut
          go_wp2_with (first
            | (go_at_call 59; refine (HDc2.out _ _ HCut.out).mono ?_; rintro e w5 ⟨rfl, b5⟩; have Hb5 := hidden b5; clear b5)
            | ((with_reducible refine at_ald 12 ?_); refine wpList_al _ rfl _ rfl _ zero_node ?_; intro w6 g12 hg12 hl12 B12 b6; have HG12 := hidden hg12; have HB12 := hidden B12; have Hb6 := hidden b6; clear hg12 hl12 B12 b6)
            | ((with_reducible refine at_st 12 ?_); refine wpList_sto _ rfl _ _ _ rfl g12 _ _ rfl rfl HB12.out HNs.out HNs2.out (B_one _) ?_; intro w7 B7 r7; have hb7 := grow_trans Hb5.out (below_row Hb6.out r7 HG12.out); have HBt := hidden B7; have HO7 := hidden (ownsH_below hO.out hb7); have HB47 := hidden (hB4.out.grow hb7); have HB27 := hidden (hB2.out.grow hb7); have HBw7 := hidden (grow_trans hBw.out hb7); clear B7 r7 hb7)
            | ((with_reducible refine at_ldd 99 12 ?_); refine wpList_lds _ rfl _ _ rfl g12 _ _ rfl HBt.out HU.out HNs.out ?_)
            | ((with_reducible refine at_st 100 ?_); refine wpList_store_mid rfl _ _ _ rfl g4 1 (B M) rfl rfl (HPutN.out _ _ _ HB47.out).2 HNs.out (B_one _) ?_; have HB48 := hidden (HPutN.out _ _ _ HB47.out).1; have gs := grown_setCells g4 (B M).toList 1 w7; have HO8 := hidden (HO7.out.kept gs (.inr (own_ne HO7.out HB47.out).symm)); have HB28 := hidden (HB27.out.keptO gs (by intro e; injection e with e; exact HG24.out e)); have HBw8 := hidden (below_row HBw7.out gs HG4.out); generalize w7.setCells g4 1 (B M).toList = w8 at *; clear gs)
            | ((with_reducible refine at_ldd 101 4 ?_); refine wpList_lds _ rfl _ _ rfl g4 _ _ rfl HB48.out HUP.out (HSzN.out a k c).1 ?_)
            | ((with_reducible refine at_st 2 ?_); refine wpList_sto _ rfl _ _ _ rfl g2 _ (encR (.slice a k c) M).toArray rfl rfl HB28.out (HSzN.out a k c).1 (HSzN.out a k c).2 (encR_one _ _ _ _) ?_; intro w12 B9 r12))
          have hown := HO8.out.kept r12 (.inr (own_ne HO8.out HB28.out).symm)
          exact bodyPost_ret (v := .tuple #[.agg (encR (.slice a k c) M).toArray, .bool _]) (results_agg_tmp rfl _ _ g2 _ _ rfl rfl B9 HUP.out (HSzN.out a k c).1) rfl (HOk2.out a c _ (below_row HBw8.out r12 HG2.out) hown)
        · have hm : moved (some ⟨gz, oz, none⟩) vc p = some ⟨gz, oz + p, none⟩ := by rw [moved, if_neg hvp]; simp [Addr.add]
          rw [hm] at hcut
          have HCut := hidden hcut
          have z5 : ¬ vc - p = 0 := by omega
          have z6 : ¬ p = vc := fun e => hvp e.symm
          have z7 : 0 < vc - p := by omega
          clear hm hcut
          go_wp2_with (first
            | (go_at_call 59; refine (HDc2.out _ _ HCut.out).mono ?_; rintro e w5 ⟨rfl, b5⟩; have Hb5 := hidden b5; clear b5)
            | ((with_reducible refine at_ald 12 ?_); refine wpList_al _ rfl _ rfl _ zero_node ?_; intro w6 g12 hg12 hl12 B12 b6; have HG12 := hidden hg12; have HB12 := hidden B12; have Hb6 := hidden b6; clear hg12 hl12 B12 b6)
            | ((with_reducible refine at_st 12 ?_); refine wpList_sto _ rfl _ _ _ rfl g12 _ _ rfl rfl HB12.out HNs.out HNs2.out (B_one _) ?_; intro w7 B7 r7; have hb7 := grow_trans Hb5.out (below_row Hb6.out r7 HG12.out); have HBt := hidden B7; have HO7 := hidden (ownsH_below hO.out hb7); have HB47 := hidden (hB4.out.grow hb7); have HB27 := hidden (hB2.out.grow hb7); have HBw7 := hidden (grow_trans hBw.out hb7); clear B7 r7 hb7)
            | ((with_reducible refine at_ldd 99 12 ?_); refine wpList_lds _ rfl _ _ rfl g12 _ _ rfl HBt.out HU.out HNs.out ?_)
            | ((with_reducible refine at_st 100 ?_); refine wpList_store_mid rfl _ _ _ rfl g4 1 (B M) rfl rfl (HPutN.out _ _ _ HB47.out).2 HNs.out (B_one _) ?_; have HB48 := hidden (HPutN.out _ _ _ HB47.out).1; have gs := grown_setCells g4 (B M).toList 1 w7; have HO8 := hidden (HO7.out.kept gs (.inr (own_ne HO7.out HB47.out).symm)); have HB28 := hidden (HB27.out.keptO gs (by intro e; injection e with e; exact HG24.out e)); have HBw8 := hidden (below_row HBw7.out gs HG4.out); generalize w7.setCells g4 1 (B M).toList = w8 at *; clear gs)
            | ((with_reducible refine at_ldd 101 4 ?_); refine wpList_lds _ rfl _ _ rfl g4 _ _ rfl HB48.out HUP.out (HSzN.out a k c).1 ?_)
            | ((with_reducible refine at_st 2 ?_); refine wpList_sto _ rfl _ _ _ rfl g2 _ (encR (.slice a k c) M).toArray rfl rfl HB28.out (HSzN.out a k c).1 (HSzN.out a k c).2 (encR_one _ _ _ _) ?_; intro w12 B9 r12))
          have hown := HO8.out.kept r12 (.inr (own_ne HO8.out HB28.out).symm)
          exact bodyPost_ret (v := .tuple #[.agg (encR (.slice a k c) M).toArray, .bool _]) (results_agg_tmp rfl _ _ g2 _ _ rfl rfl B9 HUP.out (HSzN.out a k c).1) rfl (HOk2.out a c _ (below_row HBw8.out r12 HG2.out) hown))

end Go.Proofs.YtpihigcnoifcfaaDoor

/- The document's Decode of layer 17, as a contract. -/
namespace Go.Proofs.YtpihigcnoifcfaaDoor
set_option maxRecDepth 20000
open Go.RowKit

theorem rread_any (v : Value) (zs : List Int) (w : World) (h : Reads w v zs) (hl : zs.length ≤ 140737488355328 - 4096) : Calls Tryd.prog 32 #[v] w (RrPost zs w) := by
  by_cases hf : fitD zs
  · exact rread_ok v zs w h hl hf
  · exact rread_few v zs w h hl hf

set_option maxRecDepth 100000 in
set_option maxHeartbeats 8000000 in
theorem rpdecode_any (v : Value) (zs : List Int) (w : World) (h : Reads w v zs) (hl : zs.length ≤ 140737488355328 - 4096) : Calls Tryd.prog 16 #[v] w (DecPP zs w) := by
  have hb : Bytes zs := by obtain ⟨_, _, _, _, _, hb, _⟩ := h; exact hb
  have HRd := hidden h
  have HR : Hid (∀ w', Below w.heap.size w w' → Calls Tryd.prog 32 #[v] w' (RrPost zs w')) := fun w' q => rread_any v zs w' (h.grow q) hl
  have HNo : Hid (¬ okD zs → ∀ w', Below w.heap.size w w' → DecPP zs w (.returned (.tuple #[.agg (encR (.slice none 0 0) (nd 0 z32 z32 z32 z32)).toArray, .int .i64 10])) w') := fun hn w' q => decPP_no hn w w' q
  have HOk : Hid (okD zs → ∀ a c w', w'.ownsRow w.heap.size 23 32 (.slice a (pN zs) c) (pN zs) (flatH (pR zs).1) → Below w.heap.size w w' → DecPP zs w (.returned (.tuple #[.agg (encR (.slice a (pN zs) c) (dcN (pR zs).2.1)).toArray, .int .i64 0])) w') := fun hok a c w' h1 h2 => decPP_ok hok h1 h2
  have HDg : Hid (Dg (pR zs).1) := pR_dg hb
  have HSL : Hid ((pR zs).1.length = pN zs) := pR_len zs
  have HBz := hidden hb
  obtain ⟨va, vc, rfl, _⟩ := h
  obtain ⟨l, hll⟩ : ∃ l, l = zs.length := ⟨_, rfl⟩
  rw [← hll] at HR ⊢
  have HRd2 : Hid (∀ w', Below w.heap.size w w' → Reads w' (.slice va l vc) zs) := fun w' q => by rw [hll]; exact HRd.out.grow q
  obtain ⟨fp, hup⟩ := u_proof
  have HUP := hidden hup
  obtain ⟨Z, hZ⟩ : ∃ Z, Z = nd 0 z32 z32 z32 z32 := ⟨_, rfl⟩
  have HB0 : Hid (Tryd.prog.built 46 [] = some (encR (.slice none 0 0) Z).toArray) := by rw [hZ]; exact built_proof0
  have HSz0 : Hid ((Tryd.prog.info? 46).map (·.size) = some (encR (.slice none 0 0) Z).toArray.size ∧ (encR (.slice none 0 0) (List.replicate 129 0)).toArray.size = (encR (.slice none 0 0) Z).toArray.size) := ⟨encR_sz _ Z (by rw [hZ]; rfl), by rw [hZ]; rfl⟩
  rw [← hZ] at HNo
  have HSz : Hid (∀ a m c (N : List Int), N.length = 129 → (Tryd.prog.info? 46).map (·.size) = some (encR (.slice a m c) N).toArray.size ∧ (encR (.slice none 0 0) (List.replicate 129 0)).toArray.size = (encR (.slice a m c) N).toArray.size) := fun a m c N hN => ⟨encR_sz _ _ hN, by simp [encR, hN]⟩
  generalize HE : DecPP zs w = Post at HNo HOk ⊢
  clear HE hll hup hZ hl hb HRd
  by_cases hr : fitD zs ∧ (pR zs).2.2 = false ∧ dcE (pR zs).2.1 = 0
  · obtain ⟨k, a, b, c, d, hN, hNd, ho, ht⟩ := enc_dec (pR_bytes HBz.out) hr.2.2
    have HR2 : Hid (∀ w', Below w.heap.size w w' → Calls Tryd.prog 32 #[.slice va l vc] w' fun e w'' => ∃ a' c', e = .returned (.tuple #[.agg (encR (.slice a' (pN zs) c') (nd k a b c d)).toArray, .bool true]) ∧ w''.ownsRow w'.heap.size 23 32 (.slice a' (pN zs) c') (pN zs) (flatH (pR zs).1) ∧ Below w'.heap.size w' w'') := fun w' q => (HR.out w' q).mono fun e w'' ⟨a', m', c', N', r, h1, h2, h3, h4, h5⟩ => by
      rw [decide_eq_true hr] at h4
      obtain ⟨e1, e2, e3⟩ := h5 h4
      rw [h4, e1, e2, hN] at h1
      rw [e1] at e3
      exact ⟨a', c', h1, e3, h3⟩
    have HEn : Hid (∀ w' a' c', w'.ownsRow w.heap.size 23 32 (.slice a' (pN zs) c') (pN zs) (flatH (pR zs).1) → Calls Tryd.prog 33 #[.agg (encR (.slice a' (pN zs) c') (nd k a b c d)).toArray] w' (EncPP (pR zs).1 k a b c d w')) := fun w' a' c' ho => rpencode_any _ _ k a b c d w' (hsAt_own (base := w.heap.size) (by rw [HSL.out]; exact ho) HDg.out) hNd
    have hHd : (nd k a b c d).getD 0 0 = k := rfl
    by_cases hc : chE (pR zs).1 k a b c d = 0
    · have hex : exP (pR zs).1 k a b c d = pkE (pR zs).1 k a b c d := if_pos hc
      have hback := enc_back HBz.out hr.1 hr.2.1 ht
      have hok : pkE (pR zs).1 k a b c d = zs ↔ okD zs := by
        rw [hback]
        exact ⟨fun h => ⟨hr.1, hr.2.1, h, hr.2.2, by rw [hN, hHd]; exact (chE_ok hc).2.1⟩, fun h => h.2.2.1⟩
      have HEn2 : Hid (∀ w' a' c', w'.ownsRow w.heap.size 23 32 (.slice a' (pN zs) c') (pN zs) (flatH (pR zs).1) → Calls Tryd.prog 33 #[.agg (encR (.slice a' (pN zs) c') (nd k a b c d)).toArray] w' fun e w'' => ∃ a1 l1 c1, e = .returned (.tuple #[.slice a1 l1 c1, .int .i64 0]) ∧ Reads w'' (.slice a1 l1 c1) (pkE (pR zs).1 k a b c d) ∧ Below w'.heap.size w' w'') := fun w' a' c' ho => (HEn.out w' a' c' ho).mono fun e w'' ⟨v, sp, h1, h2, h3⟩ => by
        obtain ⟨a1, c1, rfl⟩ := h2.slice
        rw [hc] at h1
        refine ⟨a1, _, c1, h1, ?_, h3⟩
        have := h2.reads
        rw [hex] at this ⊢
        exact this
      have HBP : Hid (Bytes (pkE (pR zs).1 k a b c d)) := pkE_bytes HDg.out hNd hc
      rw [hN] at HOk
      have HNL := hidden hNd.length
      generalize nd k a b c d = M at *
      generalize hPK : pkE (pR zs).1 k a b c d = PK at *
      generalize hFS : flatH (pR zs).1 = FS at *
      generalize hn : pN zs = n at *
      have HEq : Hid (((strOfNums PK).toList == (strOfNums zs).toList) = decide (PK = zs)) := str_beq PK zs HBP.out HBz.out
      clear hN hNd ho ht hr hHd hc hex hback hPK hFS hn HR HEn HDg HSL HBz HBP
      by_cases hq : PK = zs
      · have HOk2 := hidden (HOk.out (hok.1 hq))
        have hEq : ((strOfNums PK).toList == (strOfNums zs).toList) = true := by rw [HEq.out]; exact decide_eq_true hq
        clear hok HNo HOk HEq
        go_enter Tryd.func16, Tryd.ntmps16
        go_wp2_with (first
          | ((with_reducible refine at_ald 2 ?_); refine wpList_al _ rfl _ rfl _ zero_proof ?_; intro w1 g2 hg2 hl2 B2 b1; have HG2 := hidden hg2; have HB1 := hidden b1; have HBk := hidden B2; clear hg2 hl2 B2 b1)
          | (go_at_call 32; refine (HR2.out _ HB1.out).mono ?_; rintro e w2 ⟨a', c', rfl, o2, b2⟩; have HO2 := hidden (own_base o2 HB1.out.size); have HB2 := hidden (grow_trans HB1.out b2); have HBk2 := hidden (HBk.out.grow b2); clear o2 b2)
          | ((with_reducible refine at_ald 4 ?_); refine wpList_al _ rfl _ rfl _ zero_proof ?_; intro w3 g4 hg4 hl4 B4 b4; have HG4 := hidden hg4; have HB4 := hidden B4; have Hb4 := hidden b4; clear hg4 hl4 B4 b4)
          | ((with_reducible refine at_st 4 ?_); refine wpList_sto _ rfl _ _ _ rfl g4 _ _ rfl rfl HB4.out (HSz.out a' n c' M HNL.out).1 (HSz.out a' n c' M HNL.out).2 (encR_one _ _ _ _) ?_; intro w5 B5 r5; have hb5 := below_row Hb4.out r5 HG4.out; have HB5 := hidden B5; have HO5 := hidden (ownsH_below HO2.out hb5); have HBw5 := hidden (grow_trans HB2.out hb5); have HBk5 := hidden (HBk2.out.grow hb5); clear B5 r5 hb5)
          | ((with_reducible refine at_ldd 17 4 ?_); refine wpList_lds _ rfl _ _ rfl g4 _ _ rfl HB5.out HUP.out (HSz.out a' n c' M HNL.out).1 ?_)
          | (go_at_call 33; refine (HEn2.out _ _ _ HO5.out).mono ?_; rintro e w6 ⟨a1, l1, c1, rfl, r6, b6⟩; have HB6 := hidden (HB5.out.grow b6); have HO6 := hidden (ownsH_below HO5.out b6); have HBw6 := hidden (grow_trans HBw5.out b6); have HBk6 := hidden (HBk5.out.grow b6); have cc1 := conv_reads r6; have cc2 := conv_reads (HRd2.out _ HBw6.out); clear b6 r6)
          | ((with_reducible refine at_ldd 31 4 ?_); refine wpList_lds _ rfl _ _ rfl g4 _ _ rfl HB6.out HUP.out (HSz.out a' n c' M HNL.out).1 ?_)
          | ((with_reducible refine at_st 2 ?_); refine wpList_sto _ rfl _ _ _ rfl g2 _ (encR (.slice a' n c') M).toArray rfl rfl HBk6.out (HSz.out a' n c' M HNL.out).1 (HSz.out a' n c' M HNL.out).2 (encR_one _ _ _ _) ?_; intro w12 B12 r12))
        have hown := HO6.out.kept r12 (.inr (own_ne HO6.out HBk6.out).symm)
        exact bodyPost_ret (v := .tuple #[.agg (encR (.slice a' n c') M).toArray, .int .i64 0]) (results_agg_tmp rfl _ _ g2 _ _ rfl rfl B12 HUP.out (HSz.out a' n c' M HNL.out).1) rfl (HOk2.out a' c' _ hown (below_row HBw6.out r12 HG2.out))
      · have HNo2 := hidden (HNo.out (fun h => hq (hok.2 h)))
        have hEq : ((strOfNums PK).toList == (strOfNums zs).toList) = false := by rw [HEq.out]; exact decide_eq_false hq
        clear hok HNo HOk HEq
        go_enter Tryd.func16, Tryd.ntmps16
        go_wp2_with (first
          | ((with_reducible refine at_ald 2 ?_); refine wpList_al _ rfl _ rfl _ zero_proof ?_; intro w1 g2 hg2 hl2 B2 b1; have HG2 := hidden hg2; have HB1 := hidden b1; have HBk := hidden B2; clear hg2 hl2 B2 b1)
          | (go_at_call 32; refine (HR2.out _ HB1.out).mono ?_; rintro e w2 ⟨a', c', rfl, o2, b2⟩; have HO2 := hidden (own_base o2 HB1.out.size); have HB2 := hidden (grow_trans HB1.out b2); have HBk2 := hidden (HBk.out.grow b2); clear o2 b2)
          | ((with_reducible refine at_ald 4 ?_); refine wpList_al _ rfl _ rfl _ zero_proof ?_; intro w3 g4 hg4 hl4 B4 b4; have HG4 := hidden hg4; have HB4 := hidden B4; have Hb4 := hidden b4; clear hg4 hl4 B4 b4)
          | ((with_reducible refine at_st 4 ?_); refine wpList_sto _ rfl _ _ _ rfl g4 _ _ rfl rfl HB4.out (HSz.out a' n c' M HNL.out).1 (HSz.out a' n c' M HNL.out).2 (encR_one _ _ _ _) ?_; intro w5 B5 r5; have hb5 := below_row Hb4.out r5 HG4.out; have HB5 := hidden B5; have HO5 := hidden (ownsH_below HO2.out hb5); have HBw5 := hidden (grow_trans HB2.out hb5); have HBk5 := hidden (HBk2.out.grow hb5); clear B5 r5 hb5)
          | ((with_reducible refine at_ldd 17 4 ?_); refine wpList_lds _ rfl _ _ rfl g4 _ _ rfl HB5.out HUP.out (HSz.out a' n c' M HNL.out).1 ?_)
          | (go_at_call 33; refine (HEn2.out _ _ _ HO5.out).mono ?_; rintro e w6 ⟨a1, l1, c1, rfl, r6, b6⟩; have HB6 := hidden (HB5.out.grow b6); have HO6 := hidden (ownsH_below HO5.out b6); have HBw6 := hidden (grow_trans HBw5.out b6); have HBk6 := hidden (HBk5.out.grow b6); have cc1 := conv_reads r6; have cc2 := conv_reads (HRd2.out _ HBw6.out); clear b6 r6)
          | ((with_reducible refine at_bdd 30 ?_); refine wpList_bld _ rfl _ _ rfl _ (by rw [List.map_toArray]; exact HB0.out) ?_)
          | ((with_reducible refine at_st 2 ?_); refine wpList_sto _ rfl _ _ _ rfl g2 _ (encR (.slice none 0 0) Z).toArray rfl rfl HBk6.out HSz0.out.1 HSz0.out.2 (encR_one _ _ _ _) ?_; intro w12 B12 r12))
        exact bodyPost_ret (v := .tuple #[.agg (encR (.slice none 0 0) Z).toArray, .int .i64 10]) (results_agg_tmp rfl _ _ g2 _ _ rfl rfl B12 HUP.out HSz0.out.1) rfl (HNo2.out _ (below_row HBw6.out r12 HG2.out))
    · have HNo2 := hidden (HNo.out (fun h => hc (okD_enc HBz.out h hNd hN).1))
      obtain ⟨C, hC⟩ : ∃ C, C = chE (pR zs).1 k a b c d := ⟨_, rfl⟩
      have h24 : C = 2 ∨ C = 4 := by have := chE_in (pR zs).1 k a b c d; rw [← hC] at this hc; omega
      have HEn2 : Hid (∀ w' a' c', w'.ownsRow w.heap.size 23 32 (.slice a' (pN zs) c') (pN zs) (flatH (pR zs).1) → Calls Tryd.prog 33 #[.agg (encR (.slice a' (pN zs) c') (nd k a b c d)).toArray] w' fun e w'' => ∃ a1 l1 c1, e = .returned (.tuple #[.slice a1 l1 c1, .int .i64 C]) ∧ Below w'.heap.size w' w'') := fun w' a' c' ho => (HEn.out w' a' c' ho).mono fun e w'' ⟨v, sp, h1, h2, h3⟩ => by
        obtain ⟨a1, c1, rfl⟩ := h2.slice
        rw [← hC] at h1
        exact ⟨a1, _, c1, h1, h3⟩
      have HNL := hidden hNd.length
      generalize nd k a b c d = M at *
      generalize flatH (pR zs).1 = FS at *
      generalize pN zs = n at *
      clear hN hNd ho ht hr hHd hc HR HEn HDg HSL HBz HNo HOk hC
      rcases h24 with rfl | rfl
      all_goals (
        go_enter Tryd.func16, Tryd.ntmps16
        go_wp2_with (first
          | ((with_reducible refine at_ald 2 ?_); refine wpList_al _ rfl _ rfl _ zero_proof ?_; intro w1 g2 hg2 hl2 B2 b1; have HG2 := hidden hg2; have HB1 := hidden b1; have HBk := hidden B2; clear hg2 hl2 B2 b1)
          | (go_at_call 32; refine (HR2.out _ HB1.out).mono ?_; rintro e w2 ⟨a', c', rfl, o2, b2⟩; have HO2 := hidden (own_base o2 HB1.out.size); have HB2 := hidden (grow_trans HB1.out b2); have HBk2 := hidden (HBk.out.grow b2); clear o2 b2)
          | ((with_reducible refine at_ald 4 ?_); refine wpList_al _ rfl _ rfl _ zero_proof ?_; intro w3 g4 hg4 hl4 B4 b4; have HG4 := hidden hg4; have HB4 := hidden B4; have Hb4 := hidden b4; clear hg4 hl4 B4 b4)
          | ((with_reducible refine at_st 4 ?_); refine wpList_sto _ rfl _ _ _ rfl g4 _ _ rfl rfl HB4.out (HSz.out a' n c' M HNL.out).1 (HSz.out a' n c' M HNL.out).2 (encR_one _ _ _ _) ?_; intro w5 B5 r5; have hb5 := below_row Hb4.out r5 HG4.out; have HB5 := hidden B5; have HO5 := hidden (ownsH_below HO2.out hb5); have HBw5 := hidden (grow_trans HB2.out hb5); have HBk5 := hidden (HBk2.out.grow hb5); clear B5 r5 hb5)
          | ((with_reducible refine at_ldd 17 4 ?_); refine wpList_lds _ rfl _ _ rfl g4 _ _ rfl HB5.out HUP.out (HSz.out a' n c' M HNL.out).1 ?_)
          | (go_at_call 33; refine (HEn2.out _ _ _ HO5.out).mono ?_; rintro e w6 ⟨a1, l1, c1, rfl, b6⟩; have HBw6 := hidden (grow_trans HBw5.out b6); have HBk6 := hidden (HBk5.out.grow b6); clear b6)
          | ((with_reducible refine at_bdd 30 ?_); refine wpList_bld _ rfl _ _ rfl _ (by rw [List.map_toArray]; exact HB0.out) ?_)
          | ((with_reducible refine at_st 2 ?_); refine wpList_sto _ rfl _ _ _ rfl g2 _ (encR (.slice none 0 0) Z).toArray rfl rfl HBk6.out HSz0.out.1 HSz0.out.2 (encR_one _ _ _ _) ?_; intro w12 B12 r12))
        exact bodyPost_ret (v := .tuple #[.agg (encR (.slice none 0 0) Z).toArray, .int .i64 10]) (results_agg_tmp rfl _ _ g2 _ _ rfl rfl B12 HUP.out HSz0.out.1) rfl (HNo2.out _ (below_row HBw6.out r12 HG2.out)))
  · have HNo2 := hidden (HNo.out (fun h => hr ⟨h.1, h.2.1, h.2.2.2.1⟩))
    have HR2 : Hid (∀ w', Below w.heap.size w w' → Calls Tryd.prog 32 #[.slice va l vc] w' fun e w'' => ∃ a' m' c' M, e = .returned (.tuple #[.agg (encR (.slice a' m' c') M).toArray, .bool false]) ∧ M.length = 129 ∧ Below w'.heap.size w' w'') := fun w' q => (HR.out w' q).mono fun e w'' ⟨a', m', c', N', r, h1, h2, h3, h4, h5⟩ => by
      rw [decide_eq_false hr] at h4
      rw [h4] at h1
      exact ⟨a', m', c', N', h1, h2, h3⟩
    clear hr HR HNo HOk HBz HDg HSL
    go_enter Tryd.func16, Tryd.ntmps16
    go_wp2_with (first
      | ((with_reducible refine at_ald 2 ?_); refine wpList_al _ rfl _ rfl _ zero_proof ?_; intro w1 g2 hg2 hl2 B2 b1; have HG2 := hidden hg2; have HB1 := hidden b1; have HBk := hidden B2; clear hg2 hl2 B2 b1)
      | (go_at_call 32; refine (HR2.out _ HB1.out).mono ?_; rintro e w2 ⟨a', m', c', M, rfl, hM, b2⟩; have HM := hidden hM; have HB2 := hidden (grow_trans HB1.out b2); have HBk2 := hidden (HBk.out.grow b2); clear b2 hM)
      | ((with_reducible refine at_ald 4 ?_); refine wpList_al _ rfl _ rfl _ zero_proof ?_; intro w3 g4 hg4 hl4 B4 b4; have HG4 := hidden hg4; have HB4 := hidden B4; have Hb4 := hidden b4; clear hg4 hl4 B4 b4)
      | ((with_reducible refine at_st 4 ?_); refine wpList_sto _ rfl _ _ _ rfl g4 _ _ rfl rfl HB4.out (HSz.out a' m' c' M HM.out).1 (HSz.out a' m' c' M HM.out).2 (encR_one _ _ _ _) ?_; intro w5 B5 r5; have hb5 := below_row Hb4.out r5 HG4.out; have HBw5 := hidden (grow_trans HB2.out hb5); have HBk5 := hidden (HBk2.out.grow hb5); clear B5 r5 hb5)
      | ((with_reducible refine at_bdd 15 ?_); refine wpList_bld _ rfl _ _ rfl _ (by rw [List.map_toArray]; exact HB0.out) ?_)
      | ((with_reducible refine at_st 2 ?_); refine wpList_sto _ rfl _ _ _ rfl g2 _ (encR (.slice none 0 0) Z).toArray rfl rfl HBk5.out HSz0.out.1 HSz0.out.2 (encR_one _ _ _ _) ?_; intro w12 B12 r12))
    exact bodyPost_ret (v := .tuple #[.agg (encR (.slice none 0 0) Z).toArray, .int .i64 10]) (results_agg_tmp rfl _ _ g2 _ _ rfl rfl B12 HUP.out HSz0.out.1) rfl (HNo2.out _ (below_row HBw5.out r12 HG2.out))

end Go.Proofs.YtpihigcnoifcfaaDoor
