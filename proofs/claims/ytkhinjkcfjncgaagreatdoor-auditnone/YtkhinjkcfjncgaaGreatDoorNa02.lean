/- Lists of the program's own, whatever their elements' cells: what turns where (Mod), cells and whole elements written over, cut at the end, appended to. -/
import Derived.Test.YtkhinjkcfjncgaaGreatDoorNa01
import Derived.Laws.AppendOwn
import Derived.Laws.OwnMore
import Derived.Great.BuildSlice
import Derived.LaidEqlPtr
namespace Go.Proofs.YtkhinjkcfjncgaaGreatDoor
set_option maxRecDepth 20000
open Go.RowKit

/-- Only these blocks turn, and new ones come. -/
structure Mod (S : List Nat) (w w' : World) : Prop where
  os : w'.os = w.os
  tape : w'.tape = w.tape
  output : w'.output = w.output
  size : w.heap.size ≤ w'.heap.size
  block : ∀ k, k < w.heap.size → k ∉ S → w'.heap[k]? = w.heap[k]?

/-- Blocks of before, or new ones. -/
def New (S : List Nat) (w : World) (S' : List Nat) : Prop := ∀ k ∈ S', k ∈ S ∨ w.heap.size ≤ k

theorem New.refl (S : List Nat) (w : World) : New S w S := fun _ h => .inl h
theorem New.trans {S S1 S2 : List Nat} {w w1 : World} (h : New S w S1) (hs : w.heap.size ≤ w1.heap.size) (k : New S1 w1 S2) : New S w S2 := fun x hx => by
  rcases k x hx with hx | hx
  · exact h x hx
  · exact .inr (Nat.le_trans hs hx)
theorem New.base {S S' : List Nat} {w : World} {b : Nat} (h : New S w S') (hb : ∀ k ∈ S, b ≤ k) (hw : b ≤ w.heap.size) : ∀ k ∈ S', b ≤ k := fun k hk => by
  rcases h k hk with h | h
  · exact hb k h
  · omega
/-- What is apart from the old ones, and is no new one, is apart from all. -/
theorem New.apart {S S' T : List Nat} {w : World} (h : New S w S') (hd : ∀ k ∈ T, k ∉ S) (hl : ∀ k ∈ T, k < w.heap.size) : ∀ k ∈ T, k ∉ S' := fun k hk hs => by
  rcases h k hs with h | h
  · exact hd k hk h
  · have := hl k hk
    omega

theorem Mod.refl (S : List Nat) (w : World) : Mod S w w := ⟨rfl, rfl, rfl, Nat.le_refl _, fun _ _ _ => rfl⟩
theorem Mod.drew (S : List Nat) (w : World) : Mod S w w.drew := ⟨rfl, rfl, rfl, Nat.le_refl _, fun _ _ _ => rfl⟩
theorem Mod.drewN (S : List Nat) (w : World) (n : Nat) : Mod S w (w.drewN n) := ⟨rfl, rfl, rfl, Nat.le_refl _, fun _ _ _ => rfl⟩
theorem Mod.mono {S S' : List Nat} {w w' : World} (h : Mod S w w') (hs : ∀ k ∈ S, k ∈ S') : Mod S' w w' := ⟨h.os, h.tape, h.output, h.size, fun k hk hn => h.block k hk (fun hx => hn (hs k hx))⟩
theorem Mod.trans {S S1 : List Nat} {w w1 w2 : World} (h : Mod S w w1) (hn : New S w S1) (k : Mod S1 w1 w2) : Mod S w w2 :=
  ⟨k.os.trans h.os, k.tape.trans h.tape, k.output.trans h.output, Nat.le_trans h.size k.size, fun i hi hs => (k.block i (Nat.lt_of_lt_of_le hi h.size) (fun hx => by
    rcases hn i hx with h1 | h1
    · exact hs h1
    · omega)).trans (h.block i hi hs)⟩
theorem Mod.trans' {S : List Nat} {w w1 w2 : World} (h : Mod S w w1) (k : Mod S w1 w2) : Mod S w w2 := h.trans (New.refl S w) k
theorem Mod.of_below {w w' : World} (h : Below w.heap.size w w') (S : List Nat) : Mod S w w' := ⟨h.os, h.tape, h.output, h.size, fun k hk _ => h.block k hk⟩
theorem Mod.below {S : List Nat} {w w' : World} {b : Nat} (h : Mod S w w') (hb : ∀ k ∈ S, b ≤ k) (hw : b ≤ w.heap.size) : Below b w w' :=
  ⟨h.os, h.tape, h.output, h.size, fun k hk => h.block k (Nat.lt_of_lt_of_le hk hw) (fun hs => by have := hb k hs; omega)⟩
theorem Mod.below0 {w w' : World} (h : Mod [] w w') : Below w.heap.size w w' := h.below (fun _ h => by cases h) (Nat.le_refl _)
theorem Mod.of_grown {w w' : World} {v : Value} {S : List Nat} (h : w.grownBy w' v.ownBlock) (hs : ∀ k, v.ownBlock = some k → k ∈ S) : Mod S w w' :=
  ⟨h.os, h.tape, h.output, h.size, fun k hk hn => h.block k hk (fun e => hn (hs k e.symm))⟩
theorem Mod.of_some {w w' : World} {g : Nat} {S : List Nat} (h : w.grownBy w' (some g)) (hs : g ∈ S) : Mod S w w' :=
  ⟨h.os, h.tape, h.output, h.size, fun k hk hn => h.block k hk (fun e => hn (by injection e with e; rw [e]; exact hs))⟩
theorem Mod.setCell (w : World) (g o : Nat) (v : Value) {S : List Nat} (hs : g ∈ S) : Mod S w (w.setCell ⟨g, o, none⟩ v) := Mod.of_some (grown_setCell w g o v) hs
theorem Mod.alloc (w : World) (o : Obj) (S : List Nat) : Mod S w (w.alloc o) := Mod.of_below (grow_alloc w o) S

theorem Blk.mod {w w' : World} {g : Nat} {t : TypeId} {cs : Array Value} {S : List Nat} (h : Blk w g t cs) (m : Mod S w w') (hn : g ∉ S) : Blk w' g t cs := h.of_block (m.block g h.lt hn)
theorem Blk.ne {w : World} {g g' : Nat} {t t' : TypeId} {cs cs' : Array Value} (h : Blk w g t cs) (h' : Blk w g' t' cs') (ht : t ≠ t') : g ≠ g' := by
  rintro rfl
  unfold Blk at h h'
  rw [h] at h'
  injection h' with h'
  injection h' with _ h2
  exact ht h2

/-- A list of the program's own: n elements of k cells each. -/
abbrev Lst (w : World) (e : TypeId) (k : Nat) (v : Value) (n : Nat) (xs : List Value) : Prop := w.ownsRow 0 e k v n xs

theorem lst_blk {w : World} {e : TypeId} {k : Nat} {v : Value} {n : Nat} {xs : List Value} (h : Lst w e k v n xs) (g : Nat) (hg : v.ownBlock = some g) : ∃ cap cur, v = .slice (some ⟨g, 0, none⟩) n cap ∧ Blk w g e cur ∧ n ≤ cap ∧ cap ≤ maxLen ∧ cur.size = cap * k ∧ cur.toList.take (n * k) = xs := by
  rcases h.2 with ⟨rfl, _⟩ | ⟨g', cap, cur, rfl, _, hgg, h1, h2, h3, h4⟩
  · simp [Value.ownBlock] at hg
  · simp only [Value.ownBlock, Option.some.injEq] at hg
    subst hg
    exact ⟨cap, cur, rfl, hgg, h1, h2, h3, h4⟩
theorem lst_slice {w : World} {e : TypeId} {k : Nat} {v : Value} {n : Nat} {xs : List Value} (h : Lst w e k v n xs) : ∃ a c, v = .slice a n c := by
  rcases h.2 with ⟨rfl, rfl⟩ | ⟨g', cap, cur, rfl, _⟩
  · exact ⟨_, _, rfl⟩
  · exact ⟨_, _, rfl⟩
theorem lst_pos {w : World} {e : TypeId} {k : Nat} {v : Value} {n : Nat} {xs : List Value} (h : Lst w e k v n xs) (hn : 0 < n) : ∃ g c, v = .slice (some ⟨g, 0, none⟩) n c ∧ n ≤ c := by
  rcases h.2 with ⟨rfl, rfl⟩ | ⟨g', cap, cur, rfl, _, _, h1, _⟩
  · omega
  · exact ⟨_, _, rfl, h1⟩
theorem lst_lt {w : World} {e : TypeId} {k : Nat} {v : Value} {n : Nat} {xs : List Value} (h : Lst w e k v n xs) : ∀ g, v.ownBlock = some g → g < w.heap.size := fun g hg => (h.lt g hg).2
theorem lst_mod {w w' : World} {e : TypeId} {k : Nat} {v : Value} {n : Nat} {xs : List Value} {S : List Nat} (h : Lst w e k v n xs) (m : Mod S w w') (hn : ∀ g, v.ownBlock = some g → g ∉ S) : Lst w' e k v n xs := by
  refine ⟨h.1, ?_⟩
  rcases h.2 with hh | ⟨g, cap, cur, rfl, hb, hgg, rest⟩
  · exact .inl hh
  · exact .inr ⟨g, cap, cur, rfl, hb, (m.block g (Array.getElem?_eq_some_iff.1 hgg).1 (hn g rfl)).trans hgg, rest⟩
theorem lst_grow {w w' : World} {e : TypeId} {k : Nat} {v : Value} {n : Nat} {xs : List Value} (h : Lst w e k v n xs) (hb : Below w.heap.size w w') : Lst w' e k v n xs := lst_mod h (Mod.of_below hb []) (fun _ _ h => by cases h)
theorem lst_ne {w : World} {e e' : TypeId} {k k' : Nat} {v v' : Value} {n n' : Nat} {xs xs' : List Value} (h : Lst w e k v n xs) (h' : Lst w e' k' v' n' xs') (ht : e ≠ e') : ∀ g, v.ownBlock = some g → v'.ownBlock ≠ some g := fun g hg hg' => by
  obtain ⟨_, _, _, b1, _⟩ := lst_blk h g hg
  obtain ⟨_, _, _, b2, _⟩ := lst_blk h' g hg'
  exact b1.ne b2 ht rfl
theorem lst_blk_ne {w : World} {e t : TypeId} {k : Nat} {v : Value} {n : Nat} {xs : List Value} {g : Nat} {cs : Array Value} (h : Lst w e k v n xs) (h' : Blk w g t cs) (ht : e ≠ t) : v.ownBlock ≠ some g := fun hg => by
  obtain ⟨_, _, _, b1, _⟩ := lst_blk h g hg
  exact b1.ne h' ht rfl
theorem lst_cell {w : World} {e : TypeId} {k : Nat} {n c g : Nat} {xs : List Value} (h : Lst w e k (.slice (some ⟨g, 0, none⟩) n c) n xs) (j : Nat) (hj : j < n * k) : w.cell? ⟨g, j, none⟩ = xs[j]? := h.cellAt j hj
theorem lst_frozen {w : World} {e : TypeId} {k : Nat} {n c g : Nat} {xs : List Value} (h : Lst w e k (.slice (some ⟨g, 0, none⟩) n c) n xs) (j : Nat) : w.frozen? ⟨g, j, none⟩ = false := h.frozenAt j

/-- One cell written over. -/
theorem lst_set {w : World} {e : TypeId} {k : Nat} {n c g : Nat} {xs : List Value} (h : Lst w e k (.slice (some ⟨g, 0, none⟩) n c) n xs) (j : Nat) (u : Value) : Lst (w.setCell ⟨g, j, none⟩ u) e k (.slice (some ⟨g, 0, none⟩) n c) n (xs.set j u) := (h.stored j u).1

/-- Several cells written over, one behind the other. -/
def setL (xs : List Value) : Nat → List Value → List Value
  | _, [] => xs
  | j, u :: us => setL (xs.set j u) (j + 1) us

theorem lst_sets {e : TypeId} {k : Nat} {n c g : Nat} : ∀ (us : List Value) (j : Nat) (w : World) (xs : List Value), Lst w e k (.slice (some ⟨g, 0, none⟩) n c) n xs → Lst (w.setCells g j us) e k (.slice (some ⟨g, 0, none⟩) n c) n (setL xs j us)
  | [], _, _, _, h => h
  | u :: us, j, _, _, h => lst_sets us (j + 1) _ _ (lst_set h j u)

theorem setL_mid : ∀ (us p q r : List Value), q.length = us.length → setL (p ++ (q ++ r)) p.length us = p ++ (us ++ r)
  | [], p, q, r, h => by
    have : q = [] := List.eq_nil_of_length_eq_zero (by simpa using h)
    subst this
    rfl
  | u :: us, p, [], r, h => by simp at h
  | u :: us, p, x :: q, r, h => by
    have ih := setL_mid us (p ++ [u]) q r (by simpa using h)
    simp only [setL]
    have e : (p ++ (x :: q ++ r)).set p.length u = (p ++ [u]) ++ (q ++ r) := by simp
    rw [e]
    rw [show p.length + 1 = (p ++ [u]).length by simp]
    rw [ih]
    simp

theorem mod_setCells (g : Nat) {S : List Nat} (hs : g ∈ S) : ∀ (us : List Value) (j : Nat) (w : World), Mod S w (w.setCells g j us)
  | [], _, w => Mod.refl S w
  | u :: us, j, w => (Mod.setCell w g j u hs).trans' (mod_setCells g hs us (j + 1) _)

theorem sz_setCells (g : Nat) : ∀ (us : List Value) (j : Nat) (w : World), (w.setCells g j us).heap.size = w.heap.size
  | [], _, _ => rfl
  | u :: us, j, w => by rw [World.setCells, sz_setCells g us]; simp

/-- Cut at the end. -/
theorem lst_cut {w : World} {e : TypeId} {k : Nat} {n c g m : Nat} {xs : List Value} (h : Lst w e k (.slice (some ⟨g, 0, none⟩) n c) n xs) (hm : m ≤ n) : Lst w e k (.slice (some ⟨g, 0, none⟩) m c) m (xs.take (m * k)) := by
  obtain ⟨cap, cur, hv, hb, h1, h2, h3, h4⟩ := lst_blk h g rfl
  injection hv with _ _ hc
  subst hc
  have hmk : m * k ≤ n * k := Nat.mul_le_mul_right k hm
  refine ⟨?_, .inr ⟨g, c, cur, rfl, Nat.zero_le _, hb, by omega, h2, h3, ?_⟩⟩
  · rw [List.length_take, h.1]
    omega
  · rw [← h4, List.take_take]
    congr 1
    omega

/-- Where what was appended to lies. -/
def WhereL (w : World) (v v' : Value) : Prop := v'.ownBlock = v.ownBlock ∨ ∃ k, v'.ownBlock = some k ∧ w.heap.size ≤ k

theorem run_appL {P : Program} (w : World) (t ty e : TypeId) (i : TypeInfo) (z : Value) (size bytes : Nat) (ht : P.underlying t = some (.slice e)) (hi : P.info? e = some i) (hz : i.zero = some z)
    (hsize : i.size = size) (hby : i.bytes = bytes) (hzs : z.cells.size = size) (hsz : 0 < size)
    (v : Value) (n : Nat) (xs : List Value) (hown : Lst w e size v n xs)
    (a : Addr) (m c : Nat) (news : List Value) (hl : news.length = m * size) (hnews : ∀ j u, news[j]? = some u → w.cell? (a.add j) = some u) (h1 : ∀ u ∈ news, u.oneCell' = true)
    (hm : 0 < m) (h63 : n + m ≤ maxLen) (hbytes : (n + m) * bytes ≤ 140737488355328) :
    ∃ v' w', (Builtin.append_ #[t, t] ty #[v, .slice (some a) m c]).run P w = .ok v' w' ∧ Lst w' e size v' (n + m) (xs ++ news) ∧ w.grownBy w' v.ownBlock ∧ WhereL w v v' := by
  obtain ⟨v', w', hr, h2, h3, _⟩ := run_append_own (P := P) w 0 t ty e i z size bytes ht hi hz hsize hby hzs hsz v n xs hown a m c news hl hnews h1 h63 hbytes (Nat.zero_le _)
  refine ⟨v', w', hr, h2, h3, ?_⟩
  rcases hown.2 with ⟨rfl, rfl⟩ | ⟨g0, cap, cur, rfl, hbg, hg, hnc, hcm, hcs, htake⟩
  · right
    obtain ⟨v2, w2, hr2, h4, _⟩ := run_append_own (P := P) w w.heap.size t ty e i z size bytes ht hi hz hsize hby hzs hsz (.slice none 0 0) 0 [] (World.ownsRow_nil _ _ _ _) a m c news hl hnews h1 h63 hbytes (Nat.le_refl _)
    rw [hr] at hr2
    injection hr2 with e1 e2
    subst e1
    obtain ⟨g, c', hv, _⟩ := lst_pos h2 (by omega)
    subst hv
    exact ⟨g, rfl, (h4.lt g rfl).1⟩
  · by_cases hroom : n + m ≤ cap
    · left
      have hr' := run_append_room (P := P) w t ty e i ht hi g0 n cap cur hg a m c news (by rw [hsize]; exact hl) hnews h1 hroom (by rw [hsize, hcs, hl, ← Nat.add_mul]; exact Nat.mul_le_mul_right size hroom)
      rw [hr] at hr'
      injection hr' with e1 e2
      subst e1
      rfl
    · right
      have hxs : ∀ j u, xs[j]? = some u → w.cell? ((⟨g0, 0, none⟩ : Addr).add j) = some u := fun j u hu => hown.cells (g := g0) rfl j u hu
      have hr' := run_append_grow (P := P) w t ty e i _ ht hi hz ⟨g0, 0, none⟩ n cap xs (by rw [hsize]; exact hown.1) hxs a m c news (by rw [hsize]; exact hl) hnews (by omega) (by simp only [maxLen] at h63; omega) (by rw [hby]; exact growslice_fits (by omega) (by omega))
      rw [hr] at hr'
      injection hr' with e1 e2
      subst e1
      exact ⟨w.heap.size, rfl, Nat.le_refl _⟩

theorem wpList_appL {P : Program} {ops : Array Oper} {rest : List Oper} {o : Oper} {a : Act} {Q : Exit → Act → World → Prop} (w : World) (hgd : o.guard = none) (s x : Operand) (t : TypeId)
    (ho : o.op = .call { callee := .builtin .append, args := #[s, x], argTypes := #[t, t] })
    (e : TypeId) (size bytes : Nat) (ht : P.underlying t = some (.slice e)) (hin : ∃ i z, P.info? e = some i ∧ i.zero = some z ∧ i.size = size ∧ i.bytes = bytes ∧ z.cells.size = size) (hsz : 0 < size)
    (v : Value) (n : Nat) (xs : List Value) (hs : a.eval s = v) (hown : Lst w e size v n xs)
    (g : Nat) (news : List Value) (hx : a.eval x = .slice (some ⟨g, 0, none⟩) 1 1) (hb : Blk w g e news.toArray) (hl : news.length = size) (h1 : ∀ u ∈ news, u.oneCell' = true)
    (h63 : n + 1 ≤ maxLen) (hbytes : (n + 1) * bytes ≤ 140737488355328)
    (hk : ∀ v' w', Lst w' e size v' (n + 1) (xs ++ news) → w.grownBy w' v.ownBlock → WhereL w v v' → wpList P ops Q rest (a.put o.dst v') w') : wpList P ops Q (o :: rest) a w := by
  refine wpList_plain hgd fun K hK => ?_
  obtain ⟨i, z, hi, hz, hsize, hby, hzs⟩ := hin
  obtain ⟨v', w', hr, h2, h3, h4⟩ := run_appL (P := P) w t o.type e i z size bytes ht hi hz hsize hby hzs hsz v n xs hown ⟨g, 0, none⟩ 1 1 news (by omega) (by
    intro j q hq
    rw [Addr.add_lit, Nat.zero_add, hb.cell]
    simpa using hq) h1 (by omega) h63 hbytes
  unfold Oper.wp execOp
  simp only [ho, resolve, invoke, builtin, Sem.run_bind, Sem.run_pure, Result.andThen_ok, List.map_toArray, List.map_cons, List.map_nil, hs, hx, hr]
  exact hK _ _ (hk v' w' h2 h3 h4)

/-- The same of a list whose block is known to be new since then. -/
theorem wpList_appB {P : Program} {ops : Array Oper} {rest : List Oper} {o : Oper} {a : Act} {Q : Exit → Act → World → Prop} (w : World) (hgd : o.guard = none) (s x : Operand) (t : TypeId)
    (ho : o.op = .call { callee := .builtin .append, args := #[s, x], argTypes := #[t, t] })
    (base : Nat) (e : TypeId) (size bytes : Nat) (ht : P.underlying t = some (.slice e)) (hin : ∃ i z, P.info? e = some i ∧ i.zero = some z ∧ i.size = size ∧ i.bytes = bytes ∧ z.cells.size = size) (hsz : 0 < size)
    (v : Value) (n : Nat) (xs : List Value) (hs : a.eval s = v) (hown : w.ownsRow base e size v n xs)
    (g : Nat) (news : List Value) (hx : a.eval x = .slice (some ⟨g, 0, none⟩) 1 1) (hb : Blk w g e news.toArray) (hl : news.length = size) (h1 : ∀ u ∈ news, u.oneCell' = true)
    (h63 : n + 1 ≤ maxLen) (hbytes : (n + 1) * bytes ≤ 140737488355328) (hbase : base ≤ w.heap.size)
    (hk : ∀ b c w', w'.ownsRow base e size (.slice b (n + 1) c) (n + 1) (xs ++ news) → w.grownBy w' v.ownBlock → wpList P ops Q rest (a.put o.dst (.slice b (n + 1) c)) w') : wpList P ops Q (o :: rest) a w := by
  obtain ⟨i, z, hi, hz, hsize, hby, hzs⟩ := hin
  refine wpList_append_own w hgd s x t ho base e i z size bytes ht hi hz hsize hby hzs hsz v n xs hs hown ⟨g, 0, none⟩ 1 1 news hx (by omega) (by
    intro j q hq
    rw [Addr.add_lit, Nat.zero_add, hb.cell]
    simpa using hq) h1 h63 hbytes hbase ?_
  intro v' w' h2 h3 _
  rcases h2.2 with ⟨_, h⟩ | ⟨g', cap', cur, rfl, _⟩
  · omega
  · exact hk _ _ _ h2 h3

/-- make of a slice whose elements have one cell. -/
theorem wpList_mkL {P : Program} {ops : Array Oper} {rest : List Oper} {o : Oper} {a : Act} {Q : Exit → Act → World → Prop} (w : World) (hgd : o.guard = none) (x y : Operand) (t e : TypeId) (ht : P.underlying t = some (.slice e)) (z : Value) (bytes : Nat) (hin : ∃ i, P.info? e = some i ∧ i.zero = some z ∧ i.size = 1 ∧ i.bytes = bytes) (hz : z.cells = #[z])
    (hop : o.op = Op.makeSlice t x y) (kl kc : IntKind) (L C : Int) (l c : Nat) (hx : a.eval x = .int kl L) (hy : a.eval y = .int kc C) (hL : L = (l : Int)) (hC : C = (c : Int)) (hlc : l ≤ c) (hc : c ≤ 1048576) (hby : bytes ≤ 4096)
    (h : ∀ w', w'.ownsRow w.heap.size e 1 (.slice (some ⟨w.heap.size, 0, none⟩) l c) l (List.replicate l z) → Below w.heap.size w w' → w'.heap.size = w.heap.size + 1 → wpList P ops Q rest (a.put o.dst (.slice (some ⟨w.heap.size, 0, none⟩) l c)) w') :
    wpList P ops Q (o :: rest) a w := by
  refine wpList_plain hgd fun K hK => ?_
  obtain ⟨i, hi, hiz, hs, hb⟩ := hin
  subst hL
  subst hC
  have hbb : bytes * c ≤ 4096 * 1048576 := Nat.mul_le_mul hby hc
  have hr := run_make (P := P) w t e i _ ht hi hiz kl kc l c (by omega) (by omega) (by rw [hb]; omega) (by omega)
  rw [hs, Nat.mul_one, hz] at hr
  simp only [Int.toNat_natCast] at hr
  unfold Oper.wp
  simp [execOp, hop, hx, hy, hr, Result.andThen]
  have htl : (madeCells #[z] c).toList = List.replicate c z := toList_madeCells_one z c
  have hsz : (madeCells #[z] c).size = c := by rw [← Array.length_toList, htl, List.length_replicate]
  refine hK _ _ (h _ ⟨by simp, .inr ⟨w.heap.size, c, _, rfl, Nat.le_refl _, heap_alloc_new w _, hlc, by simp only [maxLen]; omega, by rw [hsz, Nat.mul_one], ?_⟩⟩ (grow_alloc w _) (by simp))
  rw [htl, Nat.mul_one, List.take_replicate, Nat.min_eq_left hlc]

/-- A struct or an array stored at a place within a list. -/
theorem wpList_stl {P : Program} {ops : Array Oper} {rest : List Oper} {op : Oper} {a : Act} {Q : Exit → Act → World → Prop} (w : World) (hgd : op.guard = none) (x y : Operand) (ty : TypeId) (ho : op.op = .store ty x y)
    (e : TypeId) (k n c g o : Nat) (xs us : List Value) (hx : a.eval x = .pointer (some ⟨g, o, none⟩)) (hy : a.eval y = .agg us.toArray) (h : Lst w e k (.slice (some ⟨g, 0, none⟩) n c) n xs) (hi : (P.info? ty).map (·.size) = some us.length) (hf : o + us.length ≤ n * k) (h1 : ∀ u ∈ us, u.oneCell' = true)
    (hk : ∀ w', Lst w' e k (.slice (some ⟨g, 0, none⟩) n c) n (setL xs o us) → Mod [g] w w' → w'.heap.size = w.heap.size → wpList P ops Q rest (a.put op.dst undef) w') : wpList P ops Q (op :: rest) a w := by
  have hth : w.there g o us.length := fun j hj => by
    refine ⟨?_, ?_⟩
    · rw [h.cellAt (o + j) (by omega), List.getElem?_eq_getElem (by rw [h.1]; omega)]
      rfl
    · exact h.frozenAt (o + j)
  refine wpList_store_mid hgd ty x y ho g o us.toArray hx hy (by simpa using hth) (by simpa using hi) (all_oneCell_toArray h1) ?_
  exact hk _ (lst_sets us o w xs h) (mod_setCells g (by simp) us o w) (sz_setCells g us o w)

/-- The same in a region that draws its order. -/
theorem step_stl {P : Program} {ops : Array Oper} {o' : Oper} {a : Act} {K : Act → World → Prop} {Q : Exit → Act → World → Prop} {E : Prop} (w : World) (hgd : o'.guard = none) (x y : Operand) (ty : TypeId) (ho : o'.op = .store ty x y)
    (e : TypeId) (k n c g o : Nat) (xs us : List Value) (hx : a.eval x = .pointer (some ⟨g, o, none⟩)) (hy : a.eval y = .agg us.toArray) (h : Lst w e k (.slice (some ⟨g, 0, none⟩) n c) n xs) (hi : (P.info? ty).map (·.size) = some us.length) (hf : o + us.length ≤ n * k) (h1 : ∀ u ∈ us, u.oneCell' = true)
    (hk : ∀ w', Lst w' e k (.slice (some ⟨g, 0, none⟩) n c) n (setL xs o us) → Mod [g] w w' → w'.heap.size = w.heap.size → K (a.put o'.dst undef) w') : if Region.wanted o' (yielded ops a.tmps) = true then Oper.wp P o' a w K Q else E := by
  have hw : Region.wanted o' (yielded ops a.tmps) = true := by simp [Region.wanted, hgd]
  rw [if_pos hw]
  have hth : w.there g o us.length := fun j hj => by
    refine ⟨?_, ?_⟩
    · rw [h.cellAt (o + j) (by omega), List.getElem?_eq_getElem (by rw [h.1]; omega)]
      rfl
    · exact h.frozenAt (o + j)
  refine wp_store_mid ty x y ho g o us.toArray hx hy (by simpa using hth) (by simpa using hi) (all_oneCell_toArray h1) ?_
  exact hk _ (lst_sets us o w xs h) (mod_setCells g (by simp) us o w) (sz_setCells g us o w)

end Go.Proofs.YtkhinjkcfjncgaaGreatDoor

/- Slabs by definition: for each slot that was ever occupied how often it is held and the cells of its thing, and the free slots among them; how these lie in a list, cell by cell. -/
namespace Go.Proofs.YtkhinjkcfjncgaaGreatDoor
set_option maxRecDepth 20000
open Go.RowKit

/-- What a slot holds: how often it is held, its thing's cells. -/
abbrev Pl := Nat × List Value

def cnt (ps : List Pl) (i : Nat) : Nat := (ps[i]?.getD (0, [])).1
def thg (ps : List Pl) (i : Nat) : List Value := (ps[i]?.getD (0, [])).2
def occs (ps : List Pl) : Nat := ps.countP fun p => decide (0 < p.1)

theorem cnt_out (ps : List Pl) (i : Nat) (h : ps.length ≤ i) : cnt ps i = 0 := by simp [cnt, List.getElem?_eq_none h]
theorem cnt_lt {ps : List Pl} {i : Nat} (h : 0 < cnt ps i) : i < ps.length := by
  apply Nat.lt_of_not_le
  intro hn
  rw [cnt_out ps i hn] at h
  omega
theorem cnt_set (ps : List Pl) (i j : Nat) (p : Pl) (hi : i < ps.length) : cnt (ps.set i p) j = if j = i then p.1 else cnt ps j := by
  unfold cnt
  rw [List.getElem?_set]
  by_cases h : i = j
  · subst h
    simp [hi]
  · rw [if_neg h, if_neg (fun e => h e.symm)]
theorem thg_set (ps : List Pl) (i j : Nat) (p : Pl) (hi : i < ps.length) : thg (ps.set i p) j = if j = i then p.2 else thg ps j := by
  unfold thg
  rw [List.getElem?_set]
  by_cases h : i = j
  · subst h
    simp [hi]
  · rw [if_neg h, if_neg (fun e => h e.symm)]
theorem cnt_snoc (ps : List Pl) (j : Nat) (p : Pl) : cnt (ps ++ [p]) j = if j = ps.length then p.1 else cnt ps j := by
  unfold cnt
  by_cases h : j = ps.length
  · subst h
    simp
  · rw [if_neg h]
    by_cases h2 : j < ps.length
    · rw [List.getElem?_append_left h2]
    · rw [List.getElem?_eq_none (by simp; omega), List.getElem?_eq_none (by omega)]
theorem thg_snoc (ps : List Pl) (j : Nat) (p : Pl) : thg (ps ++ [p]) j = if j = ps.length then p.2 else thg ps j := by
  unfold thg
  by_cases h : j = ps.length
  · subst h
    simp
  · rw [if_neg h]
    by_cases h2 : j < ps.length
    · rw [List.getElem?_append_left h2]
    · rw [List.getElem?_eq_none (by simp; omega), List.getElem?_eq_none (by omega)]
theorem occs_set (ps : List Pl) (i : Nat) (p : Pl) (hi : i < ps.length) : occs (ps.set i p) + (if 0 < cnt ps i then 1 else 0) = occs ps + (if 0 < p.1 then 1 else 0) := by
  induction ps generalizing i with
  | nil => simp at hi
  | cons q r ih =>
    cases i with
    | zero =>
      have e : cnt (q :: r) 0 = q.1 := rfl
      rw [e]
      simp only [occs, List.set_cons_zero, List.countP_cons, decide_eq_true_eq]
      omega
    | succ i =>
      have e : cnt (q :: r) (i + 1) = cnt r i := by simp [cnt]
      have := ih i (by simpa using hi)
      rw [e]
      simp only [occs, List.set_cons_succ, List.countP_cons, decide_eq_true_eq] at this ⊢
      omega
theorem occs_snoc (ps : List Pl) (p : Pl) : occs (ps ++ [p]) = occs ps + (if 0 < p.1 then 1 else 0) := by
  simp [occs, List.countP_append, List.countP_cons]

/-- A slab's state is one that calls lead to. -/
structure Inv (room : Nat) (ps : List Pl) (fr : List Nat) : Prop where
  r1 : 1 ≤ room
  r2 : room ≤ 65536
  len : ps.length ≤ room
  nod : fr.Nodup
  free : ∀ s ∈ fr, 1 ≤ s ∧ s ≤ ps.length ∧ cnt ps (s - 1) = 0
  sum : occs ps + fr.length = ps.length
  most : ∀ i, cnt ps i ≤ 1073741824

theorem Inv.new {room : Nat} (h1 : 1 ≤ room) (h2 : room ≤ 65536) : Inv room [] [] := ⟨h1, h2, by simp, by simp, by simp, by simp [occs], fun i => by simp [cnt]⟩

theorem Inv.takeFree {room s : Nat} {ps : List Pl} {fr : List Nat} (h : Inv room ps (fr ++ [s])) (x : List Value) : Inv room (ps.set (s - 1) (1, x)) fr := by
  obtain ⟨h1, h2, h3⟩ := h.free s (by simp)
  have hi : s - 1 < ps.length := by omega
  have ho := occs_set ps (s - 1) (1, x) hi
  rw [h3] at ho
  have hs := h.sum
  have hn := h.nod
  rw [List.nodup_append] at hn
  refine ⟨h.r1, h.r2, by simpa using h.len, hn.1, fun q hq => ?_, ?_, fun i => ?_⟩
  · obtain ⟨q1, q2, q3⟩ := h.free q (by simp [hq])
    have hne : q ≠ s := hn.2.2 q hq s (by simp)
    refine ⟨q1, by simpa using q2, ?_⟩
    rw [cnt_set ps _ _ _ hi, if_neg (by omega)]
    exact q3
  · simp at hs ho ⊢
    omega
  · rw [cnt_set ps _ _ _ hi]
    split
    · simp
    · exact h.most i

theorem Inv.takeNew {room : Nat} {ps : List Pl} (h : Inv room ps []) (hl : ps.length < room) (x : List Value) : Inv room (ps ++ [(1, x)]) [] := by
  have hs := h.sum
  have ho := occs_snoc ps (1, x)
  refine ⟨h.r1, h.r2, by simp; omega, by simp, by simp, ?_, fun i => ?_⟩
  · simp at hs ho ⊢
    omega
  · rw [cnt_snoc]
    split
    · simp
    · exact h.most i

/-- A held slot written over, still held. -/
theorem Inv.held {room i c : Nat} {ps : List Pl} {fr : List Nat} (h : Inv room ps fr) (hi : 0 < cnt ps i) (hc : 0 < c) (hm : c ≤ 1073741824) (x : List Value) : Inv room (ps.set i (c, x)) fr := by
  have hl := cnt_lt hi
  have ho := occs_set ps i (c, x) hl
  rw [if_pos hi, if_pos hc] at ho
  have hs := h.sum
  refine ⟨h.r1, h.r2, by simpa using h.len, h.nod, fun q hq => ?_, ?_, fun j => ?_⟩
  · obtain ⟨q1, q2, q3⟩ := h.free q hq
    refine ⟨q1, by simpa using q2, ?_⟩
    rw [cnt_set ps _ _ _ hl, if_neg (by intro e; rw [e] at q3; omega)]
    exact q3
  · simp at ho ⊢
    omega
  · rw [cnt_set ps _ _ _ hl]
    split
    · exact hm
    · exact h.most j

theorem Inv.drop {room i : Nat} {ps : List Pl} {fr : List Nat} (h : Inv room ps fr) (hi : 0 < cnt ps i) (z : List Value) : Inv room (ps.set i (0, z)) (fr ++ [i + 1]) := by
  have hl := cnt_lt hi
  have ho := occs_set ps i (0, z) hl
  rw [if_pos hi] at ho
  have hs := h.sum
  have hnot : i + 1 ∉ fr := fun hm => by
    have := (h.free (i + 1) hm).2.2
    simp at this
    omega
  refine ⟨h.r1, h.r2, by simpa using h.len, ?_, fun q hq => ?_, ?_, fun j => ?_⟩
  · rw [List.nodup_append]
    refine ⟨h.nod, by simp, fun a ha b hb e => ?_⟩
    simp at hb
    subst hb
    subst e
    exact hnot ha
  · rcases List.mem_append.1 hq with hq | hq
    · obtain ⟨q1, q2, q3⟩ := h.free q hq
      refine ⟨q1, by simpa using q2, ?_⟩
      rw [cnt_set ps _ _ _ hl]
      split
      · rfl
      · exact q3
    · obtain rfl : q = i + 1 := by simpa using hq
      refine ⟨by omega, by simp; omega, ?_⟩
      rw [cnt_set ps _ _ _ hl]
      simp
  · simp at ho ⊢
    omega
  · rw [cnt_set ps _ _ _ hl]
    split
    · simp
    · exact h.most j

theorem Inv.frlen {room : Nat} {ps : List Pl} {fr : List Nat} (h : Inv room ps fr) : fr.length ≤ ps.length := by
  have := h.sum
  omega

/-! ### Cell by cell -/
def flatS (ps : List Pl) : List Value := ps.flatMap fun p => Value.int .i64 (p.1 : Int) :: p.2
/-- Every thing has k cells. -/
def Wid (k : Nat) (ps : List Pl) : Prop := ∀ p ∈ ps, p.2.length = k ∧ ∀ u ∈ p.2, u.oneCell' = true

theorem Wid.nil (k : Nat) : Wid k [] := fun _ h => by cases h
theorem Wid.set {k : Nat} {ps : List Pl} (h : Wid k ps) (i c : Nat) (x : List Value) (hl : x.length = k) (h1 : ∀ u ∈ x, u.oneCell' = true) : Wid k (ps.set i (c, x)) := fun p hp => by
  rcases List.mem_or_eq_of_mem_set hp with hp | rfl
  · exact h p hp
  · exact ⟨hl, h1⟩
theorem Wid.snoc {k : Nat} {ps : List Pl} (h : Wid k ps) (c : Nat) (x : List Value) (hl : x.length = k) (h1 : ∀ u ∈ x, u.oneCell' = true) : Wid k (ps ++ [(c, x)]) := fun p hp => by
  rcases List.mem_append.1 hp with hp | hp
  · exact h p hp
  · obtain rfl : p = (c, x) := by simpa using hp
    exact ⟨hl, h1⟩
theorem Wid.at {k : Nat} {ps : List Pl} (h : Wid k ps) (i : Nat) (hi : i < ps.length) : (thg ps i).length = k ∧ ∀ u ∈ thg ps i, u.oneCell' = true := by
  have : thg ps i = ps[i].2 := by simp [thg, hi]
  rw [this]
  exact h _ (List.getElem_mem hi)

theorem flatS_snoc (ps : List Pl) (p : Pl) : flatS (ps ++ [p]) = flatS ps ++ (Value.int .i64 (p.1 : Int) :: p.2) := by simp [flatS]
theorem flatS_append (ps qs : List Pl) : flatS (ps ++ qs) = flatS ps ++ flatS qs := by simp [flatS]
theorem flatS_length {k : Nat} : ∀ {ps : List Pl}, Wid k ps → (flatS ps).length = ps.length * (k + 1)
  | [], _ => by simp [flatS]
  | p :: r, h => by
    have ih := flatS_length (k := k) (ps := r) (fun q hq => h q (by simp [hq]))
    have h1 := (h p (by simp)).1
    simp only [flatS, List.flatMap_cons, List.length_append, List.length_cons] at ih ⊢
    rw [Nat.add_mul]
    omega
theorem split_at (ps : List Pl) (i : Nat) (hi : i < ps.length) : ps = ps.take i ++ ((cnt ps i, thg ps i) :: ps.drop (i + 1)) := by
  have e : (cnt ps i, thg ps i) = ps[i] := by simp [cnt, thg, hi]
  rw [e, ← List.drop_eq_getElem_cons hi, List.take_append_drop]
theorem flatS_split (ps : List Pl) (i : Nat) (hi : i < ps.length) : flatS ps = flatS (ps.take i) ++ ((Value.int .i64 (cnt ps i : Int) :: thg ps i) ++ flatS (ps.drop (i + 1))) := by
  conv => lhs; rw [split_at ps i hi, flatS_append]
  simp [flatS]
theorem flatS_put (ps : List Pl) (i : Nat) (p : Pl) (hi : i < ps.length) : flatS (ps.set i p) = flatS (ps.take i) ++ ((Value.int .i64 (p.1 : Int) :: p.2) ++ flatS (ps.drop (i + 1))) := by
  rw [List.set_eq_take_append_cons_drop, if_pos hi, flatS_append]
  simp [flatS]
theorem Wid.take {k : Nat} {ps : List Pl} (h : Wid k ps) (i : Nat) : Wid k (ps.take i) := fun p hp => h p (List.mem_of_mem_take hp)
theorem flatS_head {k : Nat} {ps : List Pl} (h : Wid k ps) (i : Nat) (hi : i < ps.length) : (flatS (ps.take i)).length = i * (k + 1) := by
  rw [flatS_length (h.take i), List.length_take, Nat.min_eq_left (by omega)]

theorem flatS_count {k : Nat} {ps : List Pl} (h : Wid k ps) (i : Nat) (hi : i < ps.length) : (flatS ps)[i * (k + 1)]? = some (.int .i64 (cnt ps i : Int)) := by
  rw [flatS_split ps i hi, List.getElem?_append_right (by rw [flatS_head h i hi]; omega), flatS_head h i hi, Nat.sub_self]
  rfl
theorem flatS_thing {k : Nat} {ps : List Pl} (h : Wid k ps) (i : Nat) (hi : i < ps.length) (j : Nat) (u : Value) (hu : (thg ps i)[j]? = some u) : (flatS ps)[i * (k + 1) + 1 + j]? = some u := by
  have hj := (List.getElem?_eq_some_iff.1 hu).1
  rw [flatS_split ps i hi, List.getElem?_append_right (by rw [flatS_head h i hi]; omega), flatS_head h i hi, show i * (k + 1) + 1 + j - i * (k + 1) = j + 1 by omega, List.getElem?_append_left (by simp; omega)]
  simpa using hu
theorem flatS_setPlace {k : Nat} {ps : List Pl} (h : Wid k ps) (i c : Nat) (x : List Value) (hi : i < ps.length) (hx : x.length = k) : setL (flatS ps) (i * (k + 1)) (Value.int .i64 (c : Int) :: x) = flatS (ps.set i (c, x)) := by
  rw [flatS_put ps i _ hi]
  conv => lhs; rw [flatS_split ps i hi, ← flatS_head h i hi]
  exact setL_mid _ _ _ _ (by simp [hx, (h.at i hi).1])
theorem flatS_setCount {k : Nat} {ps : List Pl} (h : Wid k ps) (i c : Nat) (hi : i < ps.length) : (flatS ps).set (i * (k + 1)) (Value.int .i64 (c : Int)) = flatS (ps.set i (c, thg ps i)) := by
  rw [flatS_put ps i _ hi]
  conv => lhs; rw [flatS_split ps i hi, ← flatS_head h i hi]
  simp
theorem flatS_setThing {k : Nat} {ps : List Pl} (h : Wid k ps) (i : Nat) (x : List Value) (hi : i < ps.length) (hx : x.length = k) : setL (flatS ps) (i * (k + 1) + 1) x = flatS (ps.set i (cnt ps i, x)) := by
  rw [flatS_put ps i _ hi]
  conv => lhs; rw [flatS_split ps i hi, ← flatS_head h i hi]
  have := setL_mid x (flatS (ps.take i) ++ [Value.int .i64 (cnt ps i : Int)]) (thg ps i) (flatS (ps.drop (i + 1))) (by rw [hx, (h.at i hi).1])
  simpa using this

/-- Numbers as cells. -/
def nats (fr : List Nat) : List Value := fr.map fun (s : Nat) => Value.int .i64 (s : Int)
theorem nats_length (fr : List Nat) : (nats fr).length = fr.length := by simp [nats]
theorem nats_snoc (fr : List Nat) (s : Nat) : nats (fr ++ [s]) = nats fr ++ [Value.int .i64 (s : Int)] := by simp [nats]
theorem nats_take (fr : List Nat) (n : Nat) : (nats fr).take n = nats (fr.take n) := by simp [nats, List.map_take]
theorem nats_get (fr : List Nat) (i : Nat) (hi : i < fr.length) : (nats fr)[i]? = some (.int .i64 (fr.getD i 0 : Nat)) := by simp [nats, List.getD, hi]

/-- Slot 'slot' is not occupied. -/
def Vac (ps : List Pl) (slot : Int) : Prop := ∀ i : Nat, slot = (i : Int) + 1 → cnt ps i = 0

/-- The occupied slots among the first k, rising. -/
def slotsK (ps : List Pl) (k : Nat) : List Nat := ((List.range k).filter fun i => decide (0 < cnt ps i)).map (· + 1)
def slotsOf (ps : List Pl) : List Nat := slotsK ps ps.length

theorem slotsK_yes (ps : List Pl) (k : Nat) (h : 0 < cnt ps k) : slotsK ps (k + 1) = slotsK ps k ++ [k + 1] := by simp [slotsK, List.range_succ, List.filter_append, h]
theorem slotsK_no (ps : List Pl) (k : Nat) (h : ¬ 0 < cnt ps k) : slotsK ps (k + 1) = slotsK ps k := by simp [slotsK, List.range_succ, List.filter_append, h]
theorem slotsK_le (ps : List Pl) (k : Nat) : (slotsK ps k).length ≤ k := by
  have := List.length_filter_le (fun i => decide (0 < cnt ps i)) (List.range k)
  simpa [slotsK] using this
theorem slots_mem (ps : List Pl) (s : Nat) : s ∈ slotsOf ps ↔ ∃ i, s = i + 1 ∧ 0 < cnt ps i := by
  simp only [slotsOf, slotsK, List.mem_map, List.mem_filter, List.mem_range, decide_eq_true_eq]
  constructor
  · rintro ⟨i, ⟨_, h⟩, rfl⟩
    exact ⟨i, rfl, h⟩
  · rintro ⟨i, rfl, h⟩
    exact ⟨i, ⟨cnt_lt h, h⟩, rfl⟩
theorem occs_take (ps : List Pl) : ∀ k, k ≤ ps.length → (slotsK ps k).length = occs (ps.take k)
  | 0, _ => by simp [slotsK, occs]
  | k + 1, h => by
    have ih := occs_take ps k (by omega)
    have e : ps.take (k + 1) = ps.take k ++ [(cnt ps k, thg ps k)] := by
      have : (cnt ps k, thg ps k) = ps[k] := by simp [cnt, thg, show k < ps.length by omega]
      rw [this, List.take_succ_eq_append_getElem (by omega)]
    rw [e, occs_snoc]
    by_cases hc : 0 < cnt ps k
    · rw [slotsK_yes ps k hc, if_pos hc, List.length_append, ih]
      rfl
    · rw [slotsK_no ps k hc, if_neg hc, ih, Nat.add_zero]
theorem slots_length (ps : List Pl) : (slotsOf ps).length = occs ps := by
  rw [slotsOf, occs_take ps ps.length (Nat.le_refl _), List.take_length]

/-- The blocks of a slab whose lists are vp and vf. -/
def slB (g : Nat) (vp vf : Value) : List Nat := g :: (vp.ownBlock.toList ++ vf.ownBlock.toList)

theorem slB_mem {g : Nat} {vp vf : Value} {k : Nat} : k ∈ slB g vp vf ↔ k = g ∨ vp.ownBlock = some k ∨ vf.ownBlock = some k := by simp [slB]
theorem slB_new {g : Nat} {vp vf vp' vf' : Value} {w : World} (hp : vp'.ownBlock = vp.ownBlock ∨ ∃ k, vp'.ownBlock = some k ∧ w.heap.size ≤ k) (hf : vf'.ownBlock = vf.ownBlock ∨ ∃ k, vf'.ownBlock = some k ∧ w.heap.size ≤ k) : New (slB g vp vf) w (slB g vp' vf') := fun k hk => by
  rcases slB_mem.1 hk with rfl | h | h
  · exact .inl (slB_mem.2 (.inl rfl))
  · rcases hp with e | ⟨q, e, hq⟩
    · exact .inl (slB_mem.2 (.inr (.inl (e ▸ h))))
    · rw [e] at h
      injection h with h
      exact .inr (h ▸ hq)
  · rcases hf with e | ⟨q, e, hq⟩
    · exact .inl (slB_mem.2 (.inr (.inr (e ▸ h))))
    · rw [e] at h
      injection h with h
      exact .inr (h ▸ hq)

theorem set_last (ps : List Pl) (p q : Pl) : (ps ++ [p]).set ps.length q = ps ++ [q] := by simp

theorem eql_none {P : Program} (w : World) {tp te : TypeId} (a : Addr) (hp : P.underlying tp = some (.pointer te)) : (binOp .eql tp (.pointer none) (.pointer (some a))).run P w = .ok (.bool false) w := by
  have h : ∀ d : Nat, (Op.equalIn (d + 1) tp (.pointer none) (.pointer (some a))).run P w = .ok false w := fun d => by
    simp [Op.equalIn, run_underlying hp]
  simp only [binOp]
  simp [Op.equal, Op.maxDepth, h 9999]

theorem zero_nat : ∃ i z, Tryz.prog.info? 3 = some i ∧ i.zero = some z ∧ i.size = 1 ∧ i.bytes = 8 ∧ z = .int .i64 0 := ⟨_, _, rfl, rfl, rfl, rfl, rfl⟩

theorem info_nat : ∃ i z, Tryz.prog.info? 3 = some i ∧ i.zero = some z ∧ i.size = 1 ∧ i.bytes = 8 ∧ z.cells.size = 1 := ⟨_, _, rfl, rfl, rfl, rfl, rfl⟩

end Go.Proofs.YtkhinjkcfjncgaaGreatDoor
