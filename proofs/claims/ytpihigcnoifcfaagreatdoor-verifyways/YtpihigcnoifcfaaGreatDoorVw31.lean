/- Lists of the program's own, whatever their elements' cells: what turns where (Mod), cells and whole elements written over, cut at the end, appended to. -/
import Derived.Test.YtpihigcnoifcfaaGreatDoorVw03
import Derived.Laws.AppendOwn
import Derived.Laws.OwnMore
import Derived.Great.BuildSlice
import Derived.Test.YtpihigcnoifcfaaGreatDoorVw26
import Derived.Test.YtpihigcnoifcfaaGreatDoorVw30
namespace Go.Proofs.YtpihigcnoifcfaaGreatDoor
set_option maxRecDepth 20000
open Go.RowKit

/-- Only these blocks turn, and new ones come. -/
structure Mod (S : List Nat) (w w' : World) : Prop where
  os : w'.os = w.os
  tape : w'.tape = w.tape
  output : w'.output = w.output
  size : w.heap.size ≤ w'.heap.size
  block : ∀ k, k < w.heap.size → k ∉ S → w'.heap[k]? = w.heap[k]?

/-- Blocks of before, or new ones. -/
def New (S : List Nat) (w : World) (S' : List Nat) : Prop := ∀ k ∈ S', k ∈ S ∨ w.heap.size ≤ k

theorem New.refl (S : List Nat) (w : World) : New S w S := fun _ h => .inl h
theorem New.trans {S S1 S2 : List Nat} {w w1 : World} (h : New S w S1) (hs : w.heap.size ≤ w1.heap.size) (k : New S1 w1 S2) : New S w S2 := fun x hx => by
  rcases k x hx with hx | hx
  · exact h x hx
  · exact .inr (Nat.le_trans hs hx)
theorem New.base {S S' : List Nat} {w : World} {b : Nat} (h : New S w S') (hb : ∀ k ∈ S, b ≤ k) (hw : b ≤ w.heap.size) : ∀ k ∈ S', b ≤ k := fun k hk => by
  rcases h k hk with h | h
  · exact hb k h
  · omega
/-- What is apart from the old ones, and is no new one, is apart from all. -/
theorem New.apart {S S' T : List Nat} {w : World} (h : New S w S') (hd : ∀ k ∈ T, k ∉ S) (hl : ∀ k ∈ T, k < w.heap.size) : ∀ k ∈ T, k ∉ S' := fun k hk hs => by
  rcases h k hs with h | h
  · exact hd k hk h
  · have := hl k hk
    omega

theorem Mod.refl (S : List Nat) (w : World) : Mod S w w := ⟨rfl, rfl, rfl, Nat.le_refl _, fun _ _ _ => rfl⟩
theorem Mod.drew (S : List Nat) (w : World) : Mod S w w.drew := ⟨rfl, rfl, rfl, Nat.le_refl _, fun _ _ _ => rfl⟩
theorem Mod.drewN (S : List Nat) (w : World) (n : Nat) : Mod S w (w.drewN n) := ⟨rfl, rfl, rfl, Nat.le_refl _, fun _ _ _ => rfl⟩
theorem Mod.mono {S S' : List Nat} {w w' : World} (h : Mod S w w') (hs : ∀ k ∈ S, k ∈ S') : Mod S' w w' := ⟨h.os, h.tape, h.output, h.size, fun k hk hn => h.block k hk (fun hx => hn (hs k hx))⟩
theorem Mod.trans {S S1 : List Nat} {w w1 w2 : World} (h : Mod S w w1) (hn : New S w S1) (k : Mod S1 w1 w2) : Mod S w w2 :=
  ⟨k.os.trans h.os, k.tape.trans h.tape, k.output.trans h.output, Nat.le_trans h.size k.size, fun i hi hs => (k.block i (Nat.lt_of_lt_of_le hi h.size) (fun hx => by
    rcases hn i hx with h1 | h1
    · exact hs h1
    · omega)).trans (h.block i hi hs)⟩
theorem Mod.trans' {S : List Nat} {w w1 w2 : World} (h : Mod S w w1) (k : Mod S w1 w2) : Mod S w w2 := h.trans (New.refl S w) k
theorem Mod.of_below {w w' : World} (h : Below w.heap.size w w') (S : List Nat) : Mod S w w' := ⟨h.os, h.tape, h.output, h.size, fun k hk _ => h.block k hk⟩
theorem Mod.below {S : List Nat} {w w' : World} {b : Nat} (h : Mod S w w') (hb : ∀ k ∈ S, b ≤ k) (hw : b ≤ w.heap.size) : Below b w w' :=
  ⟨h.os, h.tape, h.output, h.size, fun k hk => h.block k (Nat.lt_of_lt_of_le hk hw) (fun hs => by have := hb k hs; omega)⟩
theorem Mod.below0 {w w' : World} (h : Mod [] w w') : Below w.heap.size w w' := h.below (fun _ h => by cases h) (Nat.le_refl _)
theorem Mod.of_grown {w w' : World} {v : Value} {S : List Nat} (h : w.grownBy w' v.ownBlock) (hs : ∀ k, v.ownBlock = some k → k ∈ S) : Mod S w w' :=
  ⟨h.os, h.tape, h.output, h.size, fun k hk hn => h.block k hk (fun e => hn (hs k e.symm))⟩
theorem Mod.of_some {w w' : World} {g : Nat} {S : List Nat} (h : w.grownBy w' (some g)) (hs : g ∈ S) : Mod S w w' :=
  ⟨h.os, h.tape, h.output, h.size, fun k hk hn => h.block k hk (fun e => hn (by injection e with e; rw [e]; exact hs))⟩
theorem Mod.setCell (w : World) (g o : Nat) (v : Value) {S : List Nat} (hs : g ∈ S) : Mod S w (w.setCell ⟨g, o, none⟩ v) := Mod.of_some (grown_setCell w g o v) hs
theorem Mod.alloc (w : World) (o : Obj) (S : List Nat) : Mod S w (w.alloc o) := Mod.of_below (grow_alloc w o) S

theorem Blk.mod {w w' : World} {g : Nat} {t : TypeId} {cs : Array Value} {S : List Nat} (h : Blk w g t cs) (m : Mod S w w') (hn : g ∉ S) : Blk w' g t cs := h.of_block (m.block g h.lt hn)
theorem Blk.ne {w : World} {g g' : Nat} {t t' : TypeId} {cs cs' : Array Value} (h : Blk w g t cs) (h' : Blk w g' t' cs') (ht : t ≠ t') : g ≠ g' := by
  rintro rfl
  unfold Blk at h h'
  rw [h] at h'
  injection h' with h'
  injection h' with _ h2
  exact ht h2

/-- A list of the program's own: n elements of k cells each. -/
abbrev Lst (w : World) (e : TypeId) (k : Nat) (v : Value) (n : Nat) (xs : List Value) : Prop := w.ownsRow 0 e k v n xs

theorem lst_blk {w : World} {e : TypeId} {k : Nat} {v : Value} {n : Nat} {xs : List Value} (h : Lst w e k v n xs) (g : Nat) (hg : v.ownBlock = some g) : ∃ cap cur, v = .slice (some ⟨g, 0, none⟩) n cap ∧ Blk w g e cur ∧ n ≤ cap ∧ cap ≤ maxLen ∧ cur.size = cap * k ∧ cur.toList.take (n * k) = xs := by
  rcases h.2 with ⟨rfl, _⟩ | ⟨g', cap, cur, rfl, _, hgg, h1, h2, h3, h4⟩
  · simp [Value.ownBlock] at hg
  · simp only [Value.ownBlock, Option.some.injEq] at hg
    subst hg
    exact ⟨cap, cur, rfl, hgg, h1, h2, h3, h4⟩
theorem lst_slice {w : World} {e : TypeId} {k : Nat} {v : Value} {n : Nat} {xs : List Value} (h : Lst w e k v n xs) : ∃ a c, v = .slice a n c := by
  rcases h.2 with ⟨rfl, rfl⟩ | ⟨g', cap, cur, rfl, _⟩
  · exact ⟨_, _, rfl⟩
  · exact ⟨_, _, rfl⟩
theorem lst_pos {w : World} {e : TypeId} {k : Nat} {v : Value} {n : Nat} {xs : List Value} (h : Lst w e k v n xs) (hn : 0 < n) : ∃ g c, v = .slice (some ⟨g, 0, none⟩) n c ∧ n ≤ c := by
  rcases h.2 with ⟨rfl, rfl⟩ | ⟨g', cap, cur, rfl, _, _, h1, _⟩
  · omega
  · exact ⟨_, _, rfl, h1⟩
theorem lst_lt {w : World} {e : TypeId} {k : Nat} {v : Value} {n : Nat} {xs : List Value} (h : Lst w e k v n xs) : ∀ g, v.ownBlock = some g → g < w.heap.size := fun g hg => (h.lt g hg).2
theorem lst_mod {w w' : World} {e : TypeId} {k : Nat} {v : Value} {n : Nat} {xs : List Value} {S : List Nat} (h : Lst w e k v n xs) (m : Mod S w w') (hn : ∀ g, v.ownBlock = some g → g ∉ S) : Lst w' e k v n xs := by
  refine ⟨h.1, ?_⟩
  rcases h.2 with hh | ⟨g, cap, cur, rfl, hb, hgg, rest⟩
  · exact .inl hh
  · exact .inr ⟨g, cap, cur, rfl, hb, (m.block g (Array.getElem?_eq_some_iff.1 hgg).1 (hn g rfl)).trans hgg, rest⟩
theorem lst_grow {w w' : World} {e : TypeId} {k : Nat} {v : Value} {n : Nat} {xs : List Value} (h : Lst w e k v n xs) (hb : Below w.heap.size w w') : Lst w' e k v n xs := lst_mod h (Mod.of_below hb []) (fun _ _ h => by cases h)
theorem lst_ne {w : World} {e e' : TypeId} {k k' : Nat} {v v' : Value} {n n' : Nat} {xs xs' : List Value} (h : Lst w e k v n xs) (h' : Lst w e' k' v' n' xs') (ht : e ≠ e') : ∀ g, v.ownBlock = some g → v'.ownBlock ≠ some g := fun g hg hg' => by
  obtain ⟨_, _, _, b1, _⟩ := lst_blk h g hg
  obtain ⟨_, _, _, b2, _⟩ := lst_blk h' g hg'
  exact b1.ne b2 ht rfl
theorem lst_blk_ne {w : World} {e t : TypeId} {k : Nat} {v : Value} {n : Nat} {xs : List Value} {g : Nat} {cs : Array Value} (h : Lst w e k v n xs) (h' : Blk w g t cs) (ht : e ≠ t) : v.ownBlock ≠ some g := fun hg => by
  obtain ⟨_, _, _, b1, _⟩ := lst_blk h g hg
  exact b1.ne h' ht rfl
theorem lst_cell {w : World} {e : TypeId} {k : Nat} {n c g : Nat} {xs : List Value} (h : Lst w e k (.slice (some ⟨g, 0, none⟩) n c) n xs) (j : Nat) (hj : j < n * k) : w.cell? ⟨g, j, none⟩ = xs[j]? := h.cellAt j hj
theorem lst_frozen {w : World} {e : TypeId} {k : Nat} {n c g : Nat} {xs : List Value} (h : Lst w e k (.slice (some ⟨g, 0, none⟩) n c) n xs) (j : Nat) : w.frozen? ⟨g, j, none⟩ = false := h.frozenAt j

/-- One cell written over. -/
theorem lst_set {w : World} {e : TypeId} {k : Nat} {n c g : Nat} {xs : List Value} (h : Lst w e k (.slice (some ⟨g, 0, none⟩) n c) n xs) (j : Nat) (u : Value) : Lst (w.setCell ⟨g, j, none⟩ u) e k (.slice (some ⟨g, 0, none⟩) n c) n (xs.set j u) := (h.stored j u).1

/-- Several cells written over, one behind the other. -/
def setL (xs : List Value) : Nat → List Value → List Value
  | _, [] => xs
  | j, u :: us => setL (xs.set j u) (j + 1) us

theorem lst_sets {e : TypeId} {k : Nat} {n c g : Nat} : ∀ (us : List Value) (j : Nat) (w : World) (xs : List Value), Lst w e k (.slice (some ⟨g, 0, none⟩) n c) n xs → Lst (w.setCells g j us) e k (.slice (some ⟨g, 0, none⟩) n c) n (setL xs j us)
  | [], _, _, _, h => h
  | u :: us, j, _, _, h => lst_sets us (j + 1) _ _ (lst_set h j u)

theorem setL_mid : ∀ (us p q r : List Value), q.length = us.length → setL (p ++ (q ++ r)) p.length us = p ++ (us ++ r)
  | [], p, q, r, h => by
    have : q = [] := List.eq_nil_of_length_eq_zero (by simpa using h)
    subst this
    rfl
  | u :: us, p, [], r, h => by simp at h
  | u :: us, p, x :: q, r, h => by
    have ih := setL_mid us (p ++ [u]) q r (by simpa using h)
    simp only [setL]
    have e : (p ++ (x :: q ++ r)).set p.length u = (p ++ [u]) ++ (q ++ r) := by simp
    rw [e]
    rw [show p.length + 1 = (p ++ [u]).length by simp]
    rw [ih]
    simp

theorem mod_setCells (g : Nat) {S : List Nat} (hs : g ∈ S) : ∀ (us : List Value) (j : Nat) (w : World), Mod S w (w.setCells g j us)
  | [], _, w => Mod.refl S w
  | u :: us, j, w => (Mod.setCell w g j u hs).trans' (mod_setCells g hs us (j + 1) _)

theorem sz_setCells (g : Nat) : ∀ (us : List Value) (j : Nat) (w : World), (w.setCells g j us).heap.size = w.heap.size
  | [], _, _ => rfl
  | u :: us, j, w => by rw [World.setCells, sz_setCells g us]; simp

/-- Cut at the end. -/
theorem lst_cut {w : World} {e : TypeId} {k : Nat} {n c g m : Nat} {xs : List Value} (h : Lst w e k (.slice (some ⟨g, 0, none⟩) n c) n xs) (hm : m ≤ n) : Lst w e k (.slice (some ⟨g, 0, none⟩) m c) m (xs.take (m * k)) := by
  obtain ⟨cap, cur, hv, hb, h1, h2, h3, h4⟩ := lst_blk h g rfl
  injection hv with _ _ hc
  subst hc
  have hmk : m * k ≤ n * k := Nat.mul_le_mul_right k hm
  refine ⟨?_, .inr ⟨g, c, cur, rfl, Nat.zero_le _, hb, by omega, h2, h3, ?_⟩⟩
  · rw [List.length_take, h.1]
    omega
  · rw [← h4, List.take_take]
    congr 1
    omega

/-- Where what was appended to lies. -/
def WhereL (w : World) (v v' : Value) : Prop := v'.ownBlock = v.ownBlock ∨ ∃ k, v'.ownBlock = some k ∧ w.heap.size ≤ k

theorem run_appL {P : Program} (w : World) (t ty e : TypeId) (i : TypeInfo) (z : Value) (size bytes : Nat) (ht : P.underlying t = some (.slice e)) (hi : P.info? e = some i) (hz : i.zero = some z)
    (hsize : i.size = size) (hby : i.bytes = bytes) (hzs : z.cells.size = size) (hsz : 0 < size)
    (v : Value) (n : Nat) (xs : List Value) (hown : Lst w e size v n xs)
    (a : Addr) (m c : Nat) (news : List Value) (hl : news.length = m * size) (hnews : ∀ j u, news[j]? = some u → w.cell? (a.add j) = some u) (h1 : ∀ u ∈ news, u.oneCell' = true)
    (hm : 0 < m) (h63 : n + m ≤ maxLen) (hbytes : (n + m) * bytes ≤ 140737488355328) :
    ∃ v' w', (Builtin.append_ #[t, t] ty #[v, .slice (some a) m c]).run P w = .ok v' w' ∧ Lst w' e size v' (n + m) (xs ++ news) ∧ w.grownBy w' v.ownBlock ∧ WhereL w v v' := by
  obtain ⟨v', w', hr, h2, h3, _⟩ := run_append_own (P := P) w 0 t ty e i z size bytes ht hi hz hsize hby hzs hsz v n xs hown a m c news hl hnews h1 h63 hbytes (Nat.zero_le _)
  refine ⟨v', w', hr, h2, h3, ?_⟩
  rcases hown.2 with ⟨rfl, rfl⟩ | ⟨g0, cap, cur, rfl, hbg, hg, hnc, hcm, hcs, htake⟩
  · right
    obtain ⟨v2, w2, hr2, h4, _⟩ := run_append_own (P := P) w w.heap.size t ty e i z size bytes ht hi hz hsize hby hzs hsz (.slice none 0 0) 0 [] (World.ownsRow_nil _ _ _ _) a m c news hl hnews h1 h63 hbytes (Nat.le_refl _)
    rw [hr] at hr2
    injection hr2 with e1 e2
    subst e1
    obtain ⟨g, c', hv, _⟩ := lst_pos h2 (by omega)
    subst hv
    exact ⟨g, rfl, (h4.lt g rfl).1⟩
  · by_cases hroom : n + m ≤ cap
    · left
      have hr' := run_append_room (P := P) w t ty e i ht hi g0 n cap cur hg a m c news (by rw [hsize]; exact hl) hnews h1 hroom (by rw [hsize, hcs, hl, ← Nat.add_mul]; exact Nat.mul_le_mul_right size hroom)
      rw [hr] at hr'
      injection hr' with e1 e2
      subst e1
      rfl
    · right
      have hxs : ∀ j u, xs[j]? = some u → w.cell? ((⟨g0, 0, none⟩ : Addr).add j) = some u := fun j u hu => hown.cells (g := g0) rfl j u hu
      have hr' := run_append_grow (P := P) w t ty e i _ ht hi hz ⟨g0, 0, none⟩ n cap xs (by rw [hsize]; exact hown.1) hxs a m c news (by rw [hsize]; exact hl) hnews (by omega) (by simp only [maxLen] at h63; omega) (by rw [hby]; exact growslice_fits (by omega) (by omega))
      rw [hr] at hr'
      injection hr' with e1 e2
      subst e1
      exact ⟨w.heap.size, rfl, Nat.le_refl _⟩

theorem wpList_appL {P : Program} {ops : Array Oper} {rest : List Oper} {o : Oper} {a : Act} {Q : Exit → Act → World → Prop} (w : World) (hgd : o.guard = none) (s x : Operand) (t : TypeId)
    (ho : o.op = .call { callee := .builtin .append, args := #[s, x], argTypes := #[t, t] })
    (e : TypeId) (size bytes : Nat) (ht : P.underlying t = some (.slice e)) (hin : ∃ i z, P.info? e = some i ∧ i.zero = some z ∧ i.size = size ∧ i.bytes = bytes ∧ z.cells.size = size) (hsz : 0 < size)
    (v : Value) (n : Nat) (xs : List Value) (hs : a.eval s = v) (hown : Lst w e size v n xs)
    (g : Nat) (news : List Value) (hx : a.eval x = .slice (some ⟨g, 0, none⟩) 1 1) (hb : Blk w g e news.toArray) (hl : news.length = size) (h1 : ∀ u ∈ news, u.oneCell' = true)
    (h63 : n + 1 ≤ maxLen) (hbytes : (n + 1) * bytes ≤ 140737488355328)
    (hk : ∀ v' w', Lst w' e size v' (n + 1) (xs ++ news) → w.grownBy w' v.ownBlock → WhereL w v v' → wpList P ops Q rest (a.put o.dst v') w') : wpList P ops Q (o :: rest) a w := by
  refine wpList_plain hgd fun K hK => ?_
  obtain ⟨i, z, hi, hz, hsize, hby, hzs⟩ := hin
  obtain ⟨v', w', hr, h2, h3, h4⟩ := run_appL (P := P) w t o.type e i z size bytes ht hi hz hsize hby hzs hsz v n xs hown ⟨g, 0, none⟩ 1 1 news (by omega) (by
    intro j q hq
    rw [Addr.add_lit, Nat.zero_add, hb.cell]
    simpa using hq) h1 (by omega) h63 hbytes
  unfold Oper.wp execOp
  simp only [ho, resolve, invoke, builtin, Sem.run_bind, Sem.run_pure, Result.andThen_ok, List.map_toArray, List.map_cons, List.map_nil, hs, hx, hr]
  exact hK _ _ (hk v' w' h2 h3 h4)

/-- The same of a list whose block is known to be new since then. -/
theorem wpList_appB {P : Program} {ops : Array Oper} {rest : List Oper} {o : Oper} {a : Act} {Q : Exit → Act → World → Prop} (w : World) (hgd : o.guard = none) (s x : Operand) (t : TypeId)
    (ho : o.op = .call { callee := .builtin .append, args := #[s, x], argTypes := #[t, t] })
    (base : Nat) (e : TypeId) (size bytes : Nat) (ht : P.underlying t = some (.slice e)) (hin : ∃ i z, P.info? e = some i ∧ i.zero = some z ∧ i.size = size ∧ i.bytes = bytes ∧ z.cells.size = size) (hsz : 0 < size)
    (v : Value) (n : Nat) (xs : List Value) (hs : a.eval s = v) (hown : w.ownsRow base e size v n xs)
    (g : Nat) (news : List Value) (hx : a.eval x = .slice (some ⟨g, 0, none⟩) 1 1) (hb : Blk w g e news.toArray) (hl : news.length = size) (h1 : ∀ u ∈ news, u.oneCell' = true)
    (h63 : n + 1 ≤ maxLen) (hbytes : (n + 1) * bytes ≤ 140737488355328) (hbase : base ≤ w.heap.size)
    (hk : ∀ b c w', w'.ownsRow base e size (.slice b (n + 1) c) (n + 1) (xs ++ news) → w.grownBy w' v.ownBlock → wpList P ops Q rest (a.put o.dst (.slice b (n + 1) c)) w') : wpList P ops Q (o :: rest) a w := by
  obtain ⟨i, z, hi, hz, hsize, hby, hzs⟩ := hin
  refine wpList_append_own w hgd s x t ho base e i z size bytes ht hi hz hsize hby hzs hsz v n xs hs hown ⟨g, 0, none⟩ 1 1 news hx (by omega) (by
    intro j q hq
    rw [Addr.add_lit, Nat.zero_add, hb.cell]
    simpa using hq) h1 h63 hbytes hbase ?_
  intro v' w' h2 h3 _
  rcases h2.2 with ⟨_, h⟩ | ⟨g', cap', cur, rfl, _⟩
  · omega
  · exact hk _ _ _ h2 h3

/-- make of a slice whose elements have one cell. -/
theorem wpList_mkL {P : Program} {ops : Array Oper} {rest : List Oper} {o : Oper} {a : Act} {Q : Exit → Act → World → Prop} (w : World) (hgd : o.guard = none) (x y : Operand) (t e : TypeId) (ht : P.underlying t = some (.slice e)) (z : Value) (bytes : Nat) (hin : ∃ i, P.info? e = some i ∧ i.zero = some z ∧ i.size = 1 ∧ i.bytes = bytes) (hz : z.cells = #[z])
    (hop : o.op = Op.makeSlice t x y) (kl kc : IntKind) (L C : Int) (l c : Nat) (hx : a.eval x = .int kl L) (hy : a.eval y = .int kc C) (hL : L = (l : Int)) (hC : C = (c : Int)) (hlc : l ≤ c) (hc : c ≤ 1048576) (hby : bytes ≤ 4096)
    (h : ∀ w', w'.ownsRow w.heap.size e 1 (.slice (some ⟨w.heap.size, 0, none⟩) l c) l (List.replicate l z) → Below w.heap.size w w' → w'.heap.size = w.heap.size + 1 → wpList P ops Q rest (a.put o.dst (.slice (some ⟨w.heap.size, 0, none⟩) l c)) w') :
    wpList P ops Q (o :: rest) a w := by
  refine wpList_plain hgd fun K hK => ?_
  obtain ⟨i, hi, hiz, hs, hb⟩ := hin
  subst hL
  subst hC
  have hbb : bytes * c ≤ 4096 * 1048576 := Nat.mul_le_mul hby hc
  have hr := run_make (P := P) w t e i _ ht hi hiz kl kc l c (by omega) (by omega) (by rw [hb]; omega) (by omega)
  rw [hs, Nat.mul_one, hz] at hr
  simp only [Int.toNat_natCast] at hr
  unfold Oper.wp
  simp [execOp, hop, hx, hy, hr, Result.andThen]
  have htl : (madeCells #[z] c).toList = List.replicate c z := toList_madeCells_one z c
  have hsz : (madeCells #[z] c).size = c := by rw [← Array.length_toList, htl, List.length_replicate]
  refine hK _ _ (h _ ⟨by simp, .inr ⟨w.heap.size, c, _, rfl, Nat.le_refl _, heap_alloc_new w _, hlc, by simp only [maxLen]; omega, by rw [hsz, Nat.mul_one], ?_⟩⟩ (grow_alloc w _) (by simp))
  rw [htl, Nat.mul_one, List.take_replicate, Nat.min_eq_left hlc]

/-- A struct or an array stored at a place within a list. -/
theorem wpList_stl {P : Program} {ops : Array Oper} {rest : List Oper} {op : Oper} {a : Act} {Q : Exit → Act → World → Prop} (w : World) (hgd : op.guard = none) (x y : Operand) (ty : TypeId) (ho : op.op = .store ty x y)
    (e : TypeId) (k n c g o : Nat) (xs us : List Value) (hx : a.eval x = .pointer (some ⟨g, o, none⟩)) (hy : a.eval y = .agg us.toArray) (h : Lst w e k (.slice (some ⟨g, 0, none⟩) n c) n xs) (hi : (P.info? ty).map (·.size) = some us.length) (hf : o + us.length ≤ n * k) (h1 : ∀ u ∈ us, u.oneCell' = true)
    (hk : ∀ w', Lst w' e k (.slice (some ⟨g, 0, none⟩) n c) n (setL xs o us) → Mod [g] w w' → w'.heap.size = w.heap.size → wpList P ops Q rest (a.put op.dst undef) w') : wpList P ops Q (op :: rest) a w := by
  have hth : w.there g o us.length := fun j hj => by
    refine ⟨?_, ?_⟩
    · rw [h.cellAt (o + j) (by omega), List.getElem?_eq_getElem (by rw [h.1]; omega)]
      rfl
    · exact h.frozenAt (o + j)
  refine wpList_store_mid hgd ty x y ho g o us.toArray hx hy (by simpa using hth) (by simpa using hi) (all_oneCell_toArray h1) ?_
  exact hk _ (lst_sets us o w xs h) (mod_setCells g (by simp) us o w) (sz_setCells g us o w)

/-- The same in a region that draws its order. -/
theorem step_stl {P : Program} {ops : Array Oper} {o' : Oper} {a : Act} {K : Act → World → Prop} {Q : Exit → Act → World → Prop} {E : Prop} (w : World) (hgd : o'.guard = none) (x y : Operand) (ty : TypeId) (ho : o'.op = .store ty x y)
    (e : TypeId) (k n c g o : Nat) (xs us : List Value) (hx : a.eval x = .pointer (some ⟨g, o, none⟩)) (hy : a.eval y = .agg us.toArray) (h : Lst w e k (.slice (some ⟨g, 0, none⟩) n c) n xs) (hi : (P.info? ty).map (·.size) = some us.length) (hf : o + us.length ≤ n * k) (h1 : ∀ u ∈ us, u.oneCell' = true)
    (hk : ∀ w', Lst w' e k (.slice (some ⟨g, 0, none⟩) n c) n (setL xs o us) → Mod [g] w w' → w'.heap.size = w.heap.size → K (a.put o'.dst undef) w') : if Region.wanted o' (yielded ops a.tmps) = true then Oper.wp P o' a w K Q else E := by
  have hw : Region.wanted o' (yielded ops a.tmps) = true := by simp [Region.wanted, hgd]
  rw [if_pos hw]
  have hth : w.there g o us.length := fun j hj => by
    refine ⟨?_, ?_⟩
    · rw [h.cellAt (o + j) (by omega), List.getElem?_eq_getElem (by rw [h.1]; omega)]
      rfl
    · exact h.frozenAt (o + j)
  refine wp_store_mid ty x y ho g o us.toArray hx hy (by simpa using hth) (by simpa using hi) (all_oneCell_toArray h1) ?_
  exact hk _ (lst_sets us o w xs h) (mod_setCells g (by simp) us o w) (sz_setCells g us o w)

end Go.Proofs.YtpihigcnoifcfaaGreatDoor

/- The document's read of layer 17, as a contract. -/
namespace Go.Proofs.YtpihigcnoifcfaaGreatDoor
set_option maxRecDepth 20000
open Go.RowKit

/-- What read tells. -/
def RrPost (zs : List Int) (w : World) (e : Ending) (w' : World) : Prop :=
  ∃ a m c N r, e = .returned (.tuple #[.agg (encR (.slice a m c) N).toArray, .bool r]) ∧ N.length = 129 ∧ Below w.heap.size w w' ∧ r = decide (fitD zs ∧ (pR zs).2.2 = false ∧ dcE (pR zs).2.1 = 0) ∧
    (r = true → m = pN zs ∧ N = dcN (pR zs).2.1 ∧ w'.ownsRow w.heap.size 25 32 (.slice a m c) m (flatH (pR zs).1))

theorem pN_two {zs : List Int} (hb : Bytes zs) (h : 2 ≤ zs.length) : 256 * zs.getD 0 0 + zs.getD 1 0 = (pN zs : Int) := by
  have h1 := (head_two hb h).2.1
  match zs, h with
  | x :: y :: r, _ =>
    rw [show (x :: y :: r).take 2 = [x, y] from rfl, num_two] at h1
    exact h1
theorem pB_getD {zs : List Int} (hf : fitD zs) (i : Nat) (h : i < by7 (pN zs)) : zs.getD (2 + i) 0 = (pB zs).getD i 0 := by
  have := hf.1
  simp only [pB, List.getD, List.getElem?_take, List.getElem?_drop, if_pos h]

theorem wpList_bsh {ops : Array Oper} {rest : List Oper} {op : Oper} {a : Act} {Q : Exit → Act → World → Prop} (w : World) (hgd : op.guard = none) (x : Operand) (ho : op.op = .buildSlice 30 1 #[(0, x)])
    (h : List Int) (hx : a.eval x = .agg (B h)) (hl : h.length = 32)
    (hk : wpList Tryz.prog ops Q rest (a.put op.dst (.slice (some ⟨w.heap.size, 0, none⟩) 1 1)) (w.alloc (.cells (B h) 25))) : wpList Tryz.prog ops Q (op :: rest) a w := by
  refine wpList_plain hgd fun K hK => ?_
  obtain ⟨i, z, hi, hz, hs, _, hzs⟩ := info_hash
  have hrun := run_buildSlice (P := Tryz.prog) w 30 25 1 #[(0, .agg (B h))] (B h) i z Tryz.underlying30 hi hz (by rw [hs]; omega) (by rw [hs]; omega) (by
    rw [hs]
    obtain ⟨zs, hzz, hzl⟩ : ∃ zs : List Value, (Array.range (1 * 32)).map (z.cells[· % z.cells.size]!) = zs.toArray ∧ zs.length = 32 := ⟨_, (Array.toArray_toList).symm, by simp⟩
    rw [hzz]
    have := fill_one (fun i => some (i * 32, 32)) 0 0 32 (.agg (B h)) (h.map (Value.int .u8)) zs [] rfl rfl (by simp [hl]) (by omega)
    rw [show (#[(0, Value.agg (B h))] : Array (Nat × Value)).toList = [(0, Value.agg (B h))] from rfl, this, Instr.fill]
    simp [hzl, B])
  unfold Oper.wp execOp
  simp only [ho, List.map_toArray, List.map_cons, List.map_nil, hx, Sem.run_bind, hrun, Result.andThen_ok, Sem.run_pure]
  exact hK _ _ hk

theorem bt_step (x : Int) (j : Nat) : x / 2 ^ j / 2 = x / 2 ^ (j + 1) := by
  rw [Int.pow_succ, Int.ediv_ediv_of_nonneg (Int.le_of_lt (Int.pow_pos (by omega)))]
theorem shr_in (x : Int) (hx : 0 ≤ x ∧ x ≤ 255) (k : Nat) : 0 ≤ x / 2 ^ k ∧ x / 2 ^ k ≤ 255 :=
  ⟨Int.ediv_nonneg hx.1 (Int.pow_nonneg (by omega)), Int.le_trans (Int.ediv_le_self _ hx.1) hx.2⟩

theorem at_bs {P : Program} {ops : Array Oper} {Q : Exit → Act → World → Prop} {rest : List Oper} {a : Act} {w : World} {dst : Option Tmp} {ty t : TypeId} {n : Nat} {p : String} {f : Array Edge} {g : Option (Nat × Bool)} {x : Array (Nat × Operand)}
    (h : wpList P ops Q (Oper.mk dst (.buildSlice ty n x) t p f g :: rest) a w) : wpList P ops Q (Oper.mk dst (.buildSlice ty n x) t p f g :: rest) a w := h

theorem take_set {XX D : List Int} (hx : XX.length = 32) (hd : D.length = 32) {q : Nat} (hq : q < 32) : (XX.take q ++ D.drop q).set q (XX.getD q 0) = XX.take (q + 1) ++ D.drop (q + 1) := by
  have e1 : XX.take (q + 1) = XX.take q ++ [XX.getD q 0] := by rw [List.take_add_one, List.getElem?_eq_getElem (by omega)]; simp [List.getD, show q < XX.length by omega]
  have e2 : D.drop q = D[q] :: D.drop (q + 1) := List.drop_eq_getElem_cons (by omega)
  rw [e1, e2, List.set_append_right _ _ (by rw [List.length_take]; omega), List.length_take, Nat.min_eq_left (by omega), Nat.sub_self, List.set_cons_zero, List.append_assoc]
  rfl

/-- What read has gone through: where it stands in the bytes. -/
structure RrS (zs bs r0 : List Int) (k at_ : Nat) : Prop where
  good : (rdK bs r0 k).2.2 = false
  pos : zs.drop at_ = (rdK bs r0 k).2.1
  le : at_ ≤ zs.length

theorem RrS.none {zs bs r0 : List Int} {k p : Nat} (h : RrS zs bs r0 k p) (hk : kb bs k = 0) : RrS zs bs r0 (k + 1) p ∧ (rdK bs r0 (k + 1)).1 = (rdK bs r0 k).1 ++ [emD] := by
  have e : rdK bs r0 (k + 1) = ((rdK bs r0 k).1 ++ [emD], (rdK bs r0 k).2) := by rw [rdK, if_pos hk]
  exact ⟨⟨by rw [e]; exact h.good, by rw [e]; exact h.pos, h.le⟩, by rw [e]⟩
theorem RrS.some {zs bs r0 : List Int} {k p : Nat} (h : RrS zs bs r0 k p) (hk : kb bs k ≠ 0) (hp : p + 32 ≤ zs.length) : RrS zs bs r0 (k + 1) (p + 32) ∧ (rdK bs r0 (k + 1)).1 = (rdK bs r0 k).1 ++ [(zs.drop p).take 32] := by
  have hl : 32 ≤ (rdK bs r0 k).2.1.length := by rw [← h.pos, List.length_drop]; omega
  have e : rdK bs r0 (k + 1) = ((rdK bs r0 k).1 ++ [(rdK bs r0 k).2.1.take 32], (rdK bs r0 k).2.1.drop 32, false) := by rw [rdK, if_neg hk, h.good, if_neg (by simp), if_pos hl]
  refine ⟨⟨by rw [e], ?_, hp⟩, by rw [e, h.pos]⟩
  rw [e, ← h.pos, List.drop_drop]
theorem RrS.few {zs bs r0 : List Int} {k n p : Nat} (h : RrS zs bs r0 k p) (hk : kb bs k ≠ 0) (hp : zs.length < p + 32) (hn : k < n) : (rdK bs r0 n).2.2 = true := by
  have hl : ¬ 32 ≤ (rdK bs r0 k).2.1.length := by rw [← h.pos, List.length_drop]; have := h.le; omega
  have e : rdK bs r0 (k + 1) = ((rdK bs r0 k).1 ++ [z32], (rdK bs r0 k).2.1, true) := by rw [rdK, if_neg hk, h.good, if_neg (by simp), if_neg hl]
  cases q : (rdK bs r0 n).2.2 with
  | true => rfl
  | false =>
    have := rdK_bad bs r0 n q (k + 1) (by omega)
    rw [e] at this
    exact absurd this (by simp)

end Go.Proofs.YtpihigcnoifcfaaGreatDoor

/- The document's Decode of layer 17, as a contract. -/
namespace Go.Proofs.YtpihigcnoifcfaaGreatDoor
set_option maxRecDepth 20000
open Go.RowKit

end Go.Proofs.YtpihigcnoifcfaaGreatDoor
