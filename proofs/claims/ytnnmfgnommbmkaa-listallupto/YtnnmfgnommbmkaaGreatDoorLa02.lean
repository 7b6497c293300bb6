/- Lists of the program's own, whatever their elements' cells: what turns where (Mod), cells and whole elements written over, cut at the end, appended to. -/
import Derived.Test.YtnnmfgnommbmkaaGreatDoorLa01
import Derived.Laws.AppendOwn
import Derived.Laws.OwnMore
import Derived.Great.BuildSlice
import Derived.LaidEqlPtr
import Derived.Test.YtnnmfgnommbmkaaGreatDoorProg
namespace Go.Proofs.YtnnmfgnommbmkaaGreatDoor
set_option maxRecDepth 20000
open Go.RowKit

structure Mod (S : List Nat) (w w' : World) : Prop where
  os : w'.os = w.os
  tape : w'.tape = w.tape
  output : w'.output = w.output
  size : w.heap.size ≤ w'.heap.size
  block : ∀ k, k < w.heap.size → k ∉ S → w'.heap[k]? = w.heap[k]?

def New (S : List Nat) (w : World) (S' : List Nat) : Prop := ∀ k ∈ S', k ∈ S ∨ w.heap.size ≤ k

theorem New.refl (S : List Nat) (w : World) : New S w S := fun _ h => .inl h
theorem New.trans {S S1 S2 : List Nat} {w w1 : World} (h : New S w S1) (hs : w.heap.size ≤ w1.heap.size) (k : New S1 w1 S2) : New S w S2 := fun x hx => by
  rcases k x hx with hx | hx
  · exact h x hx
  · exact .inr (Nat.le_trans hs hx)
theorem New.apart {S S' T : List Nat} {w : World} (h : New S w S') (hd : ∀ k ∈ T, k ∉ S) (hl : ∀ k ∈ T, k < w.heap.size) : ∀ k ∈ T, k ∉ S' := fun k hk hs => by
  rcases h k hs with h | h
  · exact hd k hk h
  · have := hl k hk
    omega

theorem Mod.refl (S : List Nat) (w : World) : Mod S w w := ⟨rfl, rfl, rfl, Nat.le_refl _, fun _ _ _ => rfl⟩
theorem Mod.drew (S : List Nat) (w : World) : Mod S w w.drew := ⟨rfl, rfl, rfl, Nat.le_refl _, fun _ _ _ => rfl⟩
theorem Mod.drewN (S : List Nat) (w : World) (n : Nat) : Mod S w (w.drewN n) := ⟨rfl, rfl, rfl, Nat.le_refl _, fun _ _ _ => rfl⟩
theorem Mod.mono {S S' : List Nat} {w w' : World} (h : Mod S w w') (hs : ∀ k ∈ S, k ∈ S') : Mod S' w w' := ⟨h.os, h.tape, h.output, h.size, fun k hk hn => h.block k hk (fun hx => hn (hs k hx))⟩
theorem Mod.trans {S S1 : List Nat} {w w1 w2 : World} (h : Mod S w w1) (hn : New S w S1) (k : Mod S1 w1 w2) : Mod S w w2 :=
  ⟨k.os.trans h.os, k.tape.trans h.tape, k.output.trans h.output, Nat.le_trans h.size k.size, fun i hi hs => (k.block i (Nat.lt_of_lt_of_le hi h.size) (fun hx => by
    rcases hn i hx with h1 | h1
    · exact hs h1
    · omega)).trans (h.block i hi hs)⟩
theorem Mod.trans' {S : List Nat} {w w1 w2 : World} (h : Mod S w w1) (k : Mod S w1 w2) : Mod S w w2 := h.trans (New.refl S w) k
theorem Mod.of_below {w w' : World} (h : Below w.heap.size w w') (S : List Nat) : Mod S w w' := ⟨h.os, h.tape, h.output, h.size, fun k hk _ => h.block k hk⟩
theorem Mod.below {S : List Nat} {w w' : World} {b : Nat} (h : Mod S w w') (hb : ∀ k ∈ S, b ≤ k) (hw : b ≤ w.heap.size) : Below b w w' :=
  ⟨h.os, h.tape, h.output, h.size, fun k hk => h.block k (Nat.lt_of_lt_of_le hk hw) (fun hs => by have := hb k hs; omega)⟩
theorem Mod.below0 {w w' : World} (h : Mod [] w w') : Below w.heap.size w w' := h.below (fun _ h => by cases h) (Nat.le_refl _)
theorem Mod.of_grown {w w' : World} {v : Value} {S : List Nat} (h : w.grownBy w' v.ownBlock) (hs : ∀ k, v.ownBlock = some k → k ∈ S) : Mod S w w' :=
  ⟨h.os, h.tape, h.output, h.size, fun k hk hn => h.block k hk (fun e => hn (hs k e.symm))⟩
theorem Mod.of_some {w w' : World} {g : Nat} {S : List Nat} (h : w.grownBy w' (some g)) (hs : g ∈ S) : Mod S w w' :=
  ⟨h.os, h.tape, h.output, h.size, fun k hk hn => h.block k hk (fun e => hn (by injection e with e; rw [e]; exact hs))⟩
theorem Mod.setCell (w : World) (g o : Nat) (v : Value) {S : List Nat} (hs : g ∈ S) : Mod S w (w.setCell ⟨g, o, none⟩ v) := Mod.of_some (grown_setCell w g o v) hs
theorem Mod.alloc (w : World) (o : Obj) (S : List Nat) : Mod S w (w.alloc o) := Mod.of_below (grow_alloc w o) S

theorem Blk.mod {w w' : World} {g : Nat} {t : TypeId} {cs : Array Value} {S : List Nat} (h : Blk w g t cs) (m : Mod S w w') (hn : g ∉ S) : Blk w' g t cs := h.of_block (m.block g h.lt hn)
theorem Blk.ne {w : World} {g g' : Nat} {t t' : TypeId} {cs cs' : Array Value} (h : Blk w g t cs) (h' : Blk w g' t' cs') (ht : t ≠ t') : g ≠ g' := by
  rintro rfl
  unfold Blk at h h'
  rw [h] at h'
  injection h' with h'
  injection h' with _ h2
  exact ht h2

abbrev Lst (w : World) (e : TypeId) (k : Nat) (v : Value) (n : Nat) (xs : List Value) : Prop := w.ownsRow 0 e k v n xs

theorem lst_blk {w : World} {e : TypeId} {k : Nat} {v : Value} {n : Nat} {xs : List Value} (h : Lst w e k v n xs) (g : Nat) (hg : v.ownBlock = some g) : ∃ cap cur, v = .slice (some ⟨g, 0, none⟩) n cap ∧ Blk w g e cur ∧ n ≤ cap ∧ cap ≤ maxLen ∧ cur.size = cap * k ∧ cur.toList.take (n * k) = xs := by
  rcases h.2 with ⟨rfl, _⟩ | ⟨g', cap, cur, rfl, _, hgg, h1, h2, h3, h4⟩
  · simp [Value.ownBlock] at hg
  · simp only [Value.ownBlock, Option.some.injEq] at hg
    subst hg
    exact ⟨cap, cur, rfl, hgg, h1, h2, h3, h4⟩
theorem lst_slice {w : World} {e : TypeId} {k : Nat} {v : Value} {n : Nat} {xs : List Value} (h : Lst w e k v n xs) : ∃ a c, v = .slice a n c := by
  rcases h.2 with ⟨rfl, rfl⟩ | ⟨g', cap, cur, rfl, _⟩
  · exact ⟨_, _, rfl⟩
  · exact ⟨_, _, rfl⟩
theorem lst_pos {w : World} {e : TypeId} {k : Nat} {v : Value} {n : Nat} {xs : List Value} (h : Lst w e k v n xs) (hn : 0 < n) : ∃ g c, v = .slice (some ⟨g, 0, none⟩) n c ∧ n ≤ c := by
  rcases h.2 with ⟨rfl, rfl⟩ | ⟨g', cap, cur, rfl, _, _, h1, _⟩
  · omega
  · exact ⟨_, _, rfl, h1⟩
theorem lst_lt {w : World} {e : TypeId} {k : Nat} {v : Value} {n : Nat} {xs : List Value} (h : Lst w e k v n xs) : ∀ g, v.ownBlock = some g → g < w.heap.size := fun g hg => (h.lt g hg).2
theorem lst_mod {w w' : World} {e : TypeId} {k : Nat} {v : Value} {n : Nat} {xs : List Value} {S : List Nat} (h : Lst w e k v n xs) (m : Mod S w w') (hn : ∀ g, v.ownBlock = some g → g ∉ S) : Lst w' e k v n xs := by
  refine ⟨h.1, ?_⟩
  rcases h.2 with hh | ⟨g, cap, cur, rfl, hb, hgg, rest⟩
  · exact .inl hh
  · exact .inr ⟨g, cap, cur, rfl, hb, (m.block g (Array.getElem?_eq_some_iff.1 hgg).1 (hn g rfl)).trans hgg, rest⟩
theorem lst_grow {w w' : World} {e : TypeId} {k : Nat} {v : Value} {n : Nat} {xs : List Value} (h : Lst w e k v n xs) (hb : Below w.heap.size w w') : Lst w' e k v n xs := lst_mod h (Mod.of_below hb []) (fun _ _ h => by cases h)
theorem lst_ne {w : World} {e e' : TypeId} {k k' : Nat} {v v' : Value} {n n' : Nat} {xs xs' : List Value} (h : Lst w e k v n xs) (h' : Lst w e' k' v' n' xs') (ht : e ≠ e') : ∀ g, v.ownBlock = some g → v'.ownBlock ≠ some g := fun g hg hg' => by
  obtain ⟨_, _, _, b1, _⟩ := lst_blk h g hg
  obtain ⟨_, _, _, b2, _⟩ := lst_blk h' g hg'
  exact b1.ne b2 ht rfl
theorem lst_blk_ne {w : World} {e t : TypeId} {k : Nat} {v : Value} {n : Nat} {xs : List Value} {g : Nat} {cs : Array Value} (h : Lst w e k v n xs) (h' : Blk w g t cs) (ht : e ≠ t) : v.ownBlock ≠ some g := fun hg => by
  obtain ⟨_, _, _, b1, _⟩ := lst_blk h g hg
  exact b1.ne h' ht rfl
theorem lst_cell {w : World} {e : TypeId} {k : Nat} {n c g : Nat} {xs : List Value} (h : Lst w e k (.slice (some ⟨g, 0, none⟩) n c) n xs) (j : Nat) (hj : j < n * k) : w.cell? ⟨g, j, none⟩ = xs[j]? := h.cellAt j hj
theorem lst_frozen {w : World} {e : TypeId} {k : Nat} {n c g : Nat} {xs : List Value} (h : Lst w e k (.slice (some ⟨g, 0, none⟩) n c) n xs) (j : Nat) : w.frozen? ⟨g, j, none⟩ = false := h.frozenAt j

theorem lst_set {w : World} {e : TypeId} {k : Nat} {n c g : Nat} {xs : List Value} (h : Lst w e k (.slice (some ⟨g, 0, none⟩) n c) n xs) (j : Nat) (u : Value) : Lst (w.setCell ⟨g, j, none⟩ u) e k (.slice (some ⟨g, 0, none⟩) n c) n (xs.set j u) := (h.stored j u).1

def setL (xs : List Value) : Nat → List Value → List Value
  | _, [] => xs
  | j, u :: us => setL (xs.set j u) (j + 1) us

theorem lst_sets {e : TypeId} {k : Nat} {n c g : Nat} : ∀ (us : List Value) (j : Nat) (w : World) (xs : List Value), Lst w e k (.slice (some ⟨g, 0, none⟩) n c) n xs → Lst (w.setCells g j us) e k (.slice (some ⟨g, 0, none⟩) n c) n (setL xs j us)
  | [], _, _, _, h => h
  | u :: us, j, _, _, h => lst_sets us (j + 1) _ _ (lst_set h j u)

theorem setL_mid : ∀ (us p q r : List Value), q.length = us.length → setL (p ++ (q ++ r)) p.length us = p ++ (us ++ r)
  | [], p, q, r, h => by
    have : q = [] := List.eq_nil_of_length_eq_zero (by simpa using h)
    subst this
    rfl
  | u :: us, p, [], r, h => by simp at h
  | u :: us, p, x :: q, r, h => by
    have ih := setL_mid us (p ++ [u]) q r (by simpa using h)
    simp only [setL]
    have e : (p ++ (x :: q ++ r)).set p.length u = (p ++ [u]) ++ (q ++ r) := by simp
    rw [e]
    rw [show p.length + 1 = (p ++ [u]).length by simp]
    rw [ih]
    simp

theorem mod_setCells (g : Nat) {S : List Nat} (hs : g ∈ S) : ∀ (us : List Value) (j : Nat) (w : World), Mod S w (w.setCells g j us)
  | [], _, w => Mod.refl S w
  | u :: us, j, w => (Mod.setCell w g j u hs).trans' (mod_setCells g hs us (j + 1) _)

theorem sz_setCells (g : Nat) : ∀ (us : List Value) (j : Nat) (w : World), (w.setCells g j us).heap.size = w.heap.size
  | [], _, _ => rfl
  | u :: us, j, w => by rw [World.setCells, sz_setCells g us]; simp

theorem lst_cut {w : World} {e : TypeId} {k : Nat} {n c g m : Nat} {xs : List Value} (h : Lst w e k (.slice (some ⟨g, 0, none⟩) n c) n xs) (hm : m ≤ n) : Lst w e k (.slice (some ⟨g, 0, none⟩) m c) m (xs.take (m * k)) := by
  obtain ⟨cap, cur, hv, hb, h1, h2, h3, h4⟩ := lst_blk h g rfl
  injection hv with _ _ hc
  subst hc
  have hmk : m * k ≤ n * k := Nat.mul_le_mul_right k hm
  refine ⟨?_, .inr ⟨g, c, cur, rfl, Nat.zero_le _, hb, by omega, h2, h3, ?_⟩⟩
  · rw [List.length_take, h.1]
    omega
  · rw [← h4, List.take_take]
    congr 1
    omega

def WhereL (w : World) (v v' : Value) : Prop := v'.ownBlock = v.ownBlock ∨ ∃ k, v'.ownBlock = some k ∧ w.heap.size ≤ k

theorem run_appL {P : Program} (w : World) (t ty e : TypeId) (i : TypeInfo) (z : Value) (size bytes : Nat) (ht : P.underlying t = some (.slice e)) (hi : P.info? e = some i) (hz : i.zero = some z)
    (hsize : i.size = size) (hby : i.bytes = bytes) (hzs : z.cells.size = size) (hsz : 0 < size)
    (v : Value) (n : Nat) (xs : List Value) (hown : Lst w e size v n xs)
    (a : Addr) (m c : Nat) (news : List Value) (hl : news.length = m * size) (hnews : ∀ j u, news[j]? = some u → w.cell? (a.add j) = some u) (h1 : ∀ u ∈ news, u.oneCell' = true)
    (hm : 0 < m) (h63 : n + m ≤ maxLen) (hbytes : (n + m) * bytes ≤ 140737488355328) :
    ∃ v' w', (Builtin.append_ #[t, t] ty #[v, .slice (some a) m c]).run P w = .ok v' w' ∧ Lst w' e size v' (n + m) (xs ++ news) ∧ w.grownBy w' v.ownBlock ∧ WhereL w v v' := by
  obtain ⟨v', w', hr, h2, h3, _⟩ := run_append_own (P := P) w 0 t ty e i z size bytes ht hi hz hsize hby hzs hsz v n xs hown a m c news hl hnews h1 h63 hbytes (Nat.zero_le _)
  refine ⟨v', w', hr, h2, h3, ?_⟩
  rcases hown.2 with ⟨rfl, rfl⟩ | ⟨g0, cap, cur, rfl, hbg, hg, hnc, hcm, hcs, htake⟩
  · right
    obtain ⟨v2, w2, hr2, h4, _⟩ := run_append_own (P := P) w w.heap.size t ty e i z size bytes ht hi hz hsize hby hzs hsz (.slice none 0 0) 0 [] (World.ownsRow_nil _ _ _ _) a m c news hl hnews h1 h63 hbytes (Nat.le_refl _)
    rw [hr] at hr2
    injection hr2 with e1 e2
    subst e1
    obtain ⟨g, c', hv, _⟩ := lst_pos h2 (by omega)
    subst hv
    exact ⟨g, rfl, (h4.lt g rfl).1⟩
  · by_cases hroom : n + m ≤ cap
    · left
      have hr' := run_append_room (P := P) w t ty e i ht hi g0 n cap cur hg a m c news (by rw [hsize]; exact hl) hnews h1 hroom (by rw [hsize, hcs, hl, ← Nat.add_mul]; exact Nat.mul_le_mul_right size hroom)
      rw [hr] at hr'
      injection hr' with e1 e2
      subst e1
      rfl
    · right
      have hxs : ∀ j u, xs[j]? = some u → w.cell? ((⟨g0, 0, none⟩ : Addr).add j) = some u := fun j u hu => hown.cells (g := g0) rfl j u hu
      have hr' := run_append_grow (P := P) w t ty e i _ ht hi hz ⟨g0, 0, none⟩ n cap xs (by rw [hsize]; exact hown.1) hxs a m c news (by rw [hsize]; exact hl) hnews (by omega) (by simp only [maxLen] at h63; omega) (by rw [hby]; exact growslice_fits (by omega) (by omega))
      rw [hr] at hr'
      injection hr' with e1 e2
      subst e1
      exact ⟨w.heap.size, rfl, Nat.le_refl _⟩

theorem wpList_appL {P : Program} {ops : Array Oper} {rest : List Oper} {o : Oper} {a : Act} {Q : Exit → Act → World → Prop} (w : World) (hgd : o.guard = none) (s x : Operand) (t : TypeId)
    (ho : o.op = .call { callee := .builtin .append, args := #[s, x], argTypes := #[t, t] })
    (e : TypeId) (size bytes : Nat) (ht : P.underlying t = some (.slice e)) (hin : ∃ i z, P.info? e = some i ∧ i.zero = some z ∧ i.size = size ∧ i.bytes = bytes ∧ z.cells.size = size) (hsz : 0 < size)
    (v : Value) (n : Nat) (xs : List Value) (hs : a.eval s = v) (hown : Lst w e size v n xs)
    (g : Nat) (news : List Value) (hx : a.eval x = .slice (some ⟨g, 0, none⟩) 1 1) (hb : Blk w g e news.toArray) (hl : news.length = size) (h1 : ∀ u ∈ news, u.oneCell' = true)
    (h63 : n + 1 ≤ maxLen) (hbytes : (n + 1) * bytes ≤ 140737488355328)
    (hk : ∀ v' w', Lst w' e size v' (n + 1) (xs ++ news) → w.grownBy w' v.ownBlock → WhereL w v v' → wpList P ops Q rest (a.put o.dst v') w') : wpList P ops Q (o :: rest) a w := by
  refine wpList_plain hgd fun K hK => ?_
  obtain ⟨i, z, hi, hz, hsize, hby, hzs⟩ := hin
  obtain ⟨v', w', hr, h2, h3, h4⟩ := run_appL (P := P) w t o.type e i z size bytes ht hi hz hsize hby hzs hsz v n xs hown ⟨g, 0, none⟩ 1 1 news (by omega) (by
    intro j q hq
    rw [Addr.add_lit, Nat.zero_add, hb.cell]
    simpa using hq) h1 (by omega) h63 hbytes
  unfold Oper.wp execOp
  simp only [ho, resolve, invoke, builtin, Sem.run_bind, Sem.run_pure, Result.andThen_ok, List.map_toArray, List.map_cons, List.map_nil, hs, hx, hr]
  exact hK _ _ (hk v' w' h2 h3 h4)

theorem wpList_appB {P : Program} {ops : Array Oper} {rest : List Oper} {o : Oper} {a : Act} {Q : Exit → Act → World → Prop} (w : World) (hgd : o.guard = none) (s x : Operand) (t : TypeId)
    (ho : o.op = .call { callee := .builtin .append, args := #[s, x], argTypes := #[t, t] })
    (base : Nat) (e : TypeId) (size bytes : Nat) (ht : P.underlying t = some (.slice e)) (hin : ∃ i z, P.info? e = some i ∧ i.zero = some z ∧ i.size = size ∧ i.bytes = bytes ∧ z.cells.size = size) (hsz : 0 < size)
    (v : Value) (n : Nat) (xs : List Value) (hs : a.eval s = v) (hown : w.ownsRow base e size v n xs)
    (g : Nat) (news : List Value) (hx : a.eval x = .slice (some ⟨g, 0, none⟩) 1 1) (hb : Blk w g e news.toArray) (hl : news.length = size) (h1 : ∀ u ∈ news, u.oneCell' = true)
    (h63 : n + 1 ≤ maxLen) (hbytes : (n + 1) * bytes ≤ 140737488355328) (hbase : base ≤ w.heap.size)
    (hk : ∀ b c w', w'.ownsRow base e size (.slice b (n + 1) c) (n + 1) (xs ++ news) → w.grownBy w' v.ownBlock → wpList P ops Q rest (a.put o.dst (.slice b (n + 1) c)) w') : wpList P ops Q (o :: rest) a w := by
  obtain ⟨i, z, hi, hz, hsize, hby, hzs⟩ := hin
  refine wpList_append_own w hgd s x t ho base e i z size bytes ht hi hz hsize hby hzs hsz v n xs hs hown ⟨g, 0, none⟩ 1 1 news hx (by omega) (by
    intro j q hq
    rw [Addr.add_lit, Nat.zero_add, hb.cell]
    simpa using hq) h1 h63 hbytes hbase ?_
  intro v' w' h2 h3 _
  rcases h2.2 with ⟨_, h⟩ | ⟨g', cap', cur, rfl, _⟩
  · omega
  · exact hk _ _ _ h2 h3

theorem wpList_stl {P : Program} {ops : Array Oper} {rest : List Oper} {op : Oper} {a : Act} {Q : Exit → Act → World → Prop} (w : World) (hgd : op.guard = none) (x y : Operand) (ty : TypeId) (ho : op.op = .store ty x y)
    (e : TypeId) (k n c g o : Nat) (xs us : List Value) (hx : a.eval x = .pointer (some ⟨g, o, none⟩)) (hy : a.eval y = .agg us.toArray) (h : Lst w e k (.slice (some ⟨g, 0, none⟩) n c) n xs) (hi : (P.info? ty).map (·.size) = some us.length) (hf : o + us.length ≤ n * k) (h1 : ∀ u ∈ us, u.oneCell' = true)
    (hk : ∀ w', Lst w' e k (.slice (some ⟨g, 0, none⟩) n c) n (setL xs o us) → Mod [g] w w' → w'.heap.size = w.heap.size → wpList P ops Q rest (a.put op.dst undef) w') : wpList P ops Q (op :: rest) a w := by
  have hth : w.there g o us.length := fun j hj => by
    refine ⟨?_, ?_⟩
    · rw [h.cellAt (o + j) (by omega), List.getElem?_eq_getElem (by rw [h.1]; omega)]
      rfl
    · exact h.frozenAt (o + j)
  refine wpList_store_mid hgd ty x y ho g o us.toArray hx hy (by simpa using hth) (by simpa using hi) (all_oneCell_toArray h1) ?_
  exact hk _ (lst_sets us o w xs h) (mod_setCells g (by simp) us o w) (sz_setCells g us o w)

theorem step_stl {P : Program} {ops : Array Oper} {o' : Oper} {a : Act} {K : Act → World → Prop} {Q : Exit → Act → World → Prop} {E : Prop} (w : World) (hgd : o'.guard = none) (x y : Operand) (ty : TypeId) (ho : o'.op = .store ty x y)
    (e : TypeId) (k n c g o : Nat) (xs us : List Value) (hx : a.eval x = .pointer (some ⟨g, o, none⟩)) (hy : a.eval y = .agg us.toArray) (h : Lst w e k (.slice (some ⟨g, 0, none⟩) n c) n xs) (hi : (P.info? ty).map (·.size) = some us.length) (hf : o + us.length ≤ n * k) (h1 : ∀ u ∈ us, u.oneCell' = true)
    (hk : ∀ w', Lst w' e k (.slice (some ⟨g, 0, none⟩) n c) n (setL xs o us) → Mod [g] w w' → w'.heap.size = w.heap.size → K (a.put o'.dst undef) w') : if Region.wanted o' (yielded ops a.tmps) = true then Oper.wp P o' a w K Q else E := by
  have hw : Region.wanted o' (yielded ops a.tmps) = true := by simp [Region.wanted, hgd]
  rw [if_pos hw]
  have hth : w.there g o us.length := fun j hj => by
    refine ⟨?_, ?_⟩
    · rw [h.cellAt (o + j) (by omega), List.getElem?_eq_getElem (by rw [h.1]; omega)]
      rfl
    · exact h.frozenAt (o + j)
  refine wp_store_mid ty x y ho g o us.toArray hx hy (by simpa using hth) (by simpa using hi) (all_oneCell_toArray h1) ?_
  exact hk _ (lst_sets us o w xs h) (mod_setCells g (by simp) us o w) (sz_setCells g us o w)

end Go.Proofs.YtnnmfgnommbmkaaGreatDoor

namespace Go.Proofs.YtnnmfgnommbmkaaGreatDoor
set_option maxRecDepth 20000
open Go.RowKit

abbrev Pl := Nat × List Value

def cnt (ps : List Pl) (i : Nat) : Nat := (ps[i]?.getD (0, [])).1
def thg (ps : List Pl) (i : Nat) : List Value := (ps[i]?.getD (0, [])).2
def occs (ps : List Pl) : Nat := ps.countP fun p => decide (0 < p.1)

theorem cnt_out (ps : List Pl) (i : Nat) (h : ps.length ≤ i) : cnt ps i = 0 := by simp [cnt, List.getElem?_eq_none h]
theorem cnt_lt {ps : List Pl} {i : Nat} (h : 0 < cnt ps i) : i < ps.length := by
  apply Nat.lt_of_not_le
  intro hn
  rw [cnt_out ps i hn] at h
  omega
theorem cnt_set (ps : List Pl) (i j : Nat) (p : Pl) (hi : i < ps.length) : cnt (ps.set i p) j = if j = i then p.1 else cnt ps j := by
  unfold cnt
  rw [List.getElem?_set]
  by_cases h : i = j
  · subst h
    simp [hi]
  · rw [if_neg h, if_neg (fun e => h e.symm)]
theorem cnt_snoc (ps : List Pl) (j : Nat) (p : Pl) : cnt (ps ++ [p]) j = if j = ps.length then p.1 else cnt ps j := by
  unfold cnt
  by_cases h : j = ps.length
  · subst h
    simp
  · rw [if_neg h]
    by_cases h2 : j < ps.length
    · rw [List.getElem?_append_left h2]
    · rw [List.getElem?_eq_none (by simp; omega), List.getElem?_eq_none (by omega)]
theorem occs_set (ps : List Pl) (i : Nat) (p : Pl) (hi : i < ps.length) : occs (ps.set i p) + (if 0 < cnt ps i then 1 else 0) = occs ps + (if 0 < p.1 then 1 else 0) := by
  induction ps generalizing i with
  | nil => simp at hi
  | cons q r ih =>
    cases i with
    | zero =>
      have e : cnt (q :: r) 0 = q.1 := rfl
      rw [e]
      simp only [occs, List.set_cons_zero, List.countP_cons, decide_eq_true_eq]
      omega
    | succ i =>
      have e : cnt (q :: r) (i + 1) = cnt r i := by simp [cnt]
      have := ih i (by simpa using hi)
      rw [e]
      simp only [occs, List.set_cons_succ, List.countP_cons, decide_eq_true_eq] at this ⊢
      omega
theorem occs_snoc (ps : List Pl) (p : Pl) : occs (ps ++ [p]) = occs ps + (if 0 < p.1 then 1 else 0) := by
  simp [occs, List.countP_append, List.countP_cons]

structure Inv (room : Nat) (ps : List Pl) (fr : List Nat) : Prop where
  r1 : 1 ≤ room
  r2 : room ≤ 65536
  len : ps.length ≤ room
  nod : fr.Nodup
  free : ∀ s ∈ fr, 1 ≤ s ∧ s ≤ ps.length ∧ cnt ps (s - 1) = 0
  sum : occs ps + fr.length = ps.length
  most : ∀ i, cnt ps i ≤ 1073741824

theorem Inv.new {room : Nat} (h1 : 1 ≤ room) (h2 : room ≤ 65536) : Inv room [] [] := ⟨h1, h2, by simp, by simp, by simp, by simp [occs], fun i => by simp [cnt]⟩

theorem Inv.takeFree {room s : Nat} {ps : List Pl} {fr : List Nat} (h : Inv room ps (fr ++ [s])) (x : List Value) : Inv room (ps.set (s - 1) (1, x)) fr := by
  obtain ⟨h1, h2, h3⟩ := h.free s (by simp)
  have hi : s - 1 < ps.length := by omega
  have ho := occs_set ps (s - 1) (1, x) hi
  rw [h3] at ho
  have hs := h.sum
  have hn := h.nod
  rw [List.nodup_append] at hn
  refine ⟨h.r1, h.r2, by simpa using h.len, hn.1, fun q hq => ?_, ?_, fun i => ?_⟩
  · obtain ⟨q1, q2, q3⟩ := h.free q (by simp [hq])
    have hne : q ≠ s := hn.2.2 q hq s (by simp)
    refine ⟨q1, by simpa using q2, ?_⟩
    rw [cnt_set ps _ _ _ hi, if_neg (by omega)]
    exact q3
  · simp at hs ho ⊢
    omega
  · rw [cnt_set ps _ _ _ hi]
    split
    · simp
    · exact h.most i

theorem Inv.takeNew {room : Nat} {ps : List Pl} (h : Inv room ps []) (hl : ps.length < room) (x : List Value) : Inv room (ps ++ [(1, x)]) [] := by
  have hs := h.sum
  have ho := occs_snoc ps (1, x)
  refine ⟨h.r1, h.r2, by simp; omega, by simp, by simp, ?_, fun i => ?_⟩
  · simp at hs ho ⊢
    omega
  · rw [cnt_snoc]
    split
    · simp
    · exact h.most i

theorem Inv.held {room i c : Nat} {ps : List Pl} {fr : List Nat} (h : Inv room ps fr) (hi : 0 < cnt ps i) (hc : 0 < c) (hm : c ≤ 1073741824) (x : List Value) : Inv room (ps.set i (c, x)) fr := by
  have hl := cnt_lt hi
  have ho := occs_set ps i (c, x) hl
  rw [if_pos hi, if_pos hc] at ho
  have hs := h.sum
  refine ⟨h.r1, h.r2, by simpa using h.len, h.nod, fun q hq => ?_, ?_, fun j => ?_⟩
  · obtain ⟨q1, q2, q3⟩ := h.free q hq
    refine ⟨q1, by simpa using q2, ?_⟩
    rw [cnt_set ps _ _ _ hl, if_neg (by intro e; rw [e] at q3; omega)]
    exact q3
  · simp at ho ⊢
    omega
  · rw [cnt_set ps _ _ _ hl]
    split
    · exact hm
    · exact h.most j

theorem Inv.drop {room i : Nat} {ps : List Pl} {fr : List Nat} (h : Inv room ps fr) (hi : 0 < cnt ps i) (z : List Value) : Inv room (ps.set i (0, z)) (fr ++ [i + 1]) := by
  have hl := cnt_lt hi
  have ho := occs_set ps i (0, z) hl
  rw [if_pos hi] at ho
  have hs := h.sum
  have hnot : i + 1 ∉ fr := fun hm => by
    have := (h.free (i + 1) hm).2.2
    simp at this
    omega
  refine ⟨h.r1, h.r2, by simpa using h.len, ?_, fun q hq => ?_, ?_, fun j => ?_⟩
  · rw [List.nodup_append]
    refine ⟨h.nod, by simp, fun a ha b hb e => ?_⟩
    simp at hb
    subst hb
    subst e
    exact hnot ha
  · rcases List.mem_append.1 hq with hq | hq
    · obtain ⟨q1, q2, q3⟩ := h.free q hq
      refine ⟨q1, by simpa using q2, ?_⟩
      rw [cnt_set ps _ _ _ hl]
      split
      · rfl
      · exact q3
    · obtain rfl : q = i + 1 := by simpa using hq
      refine ⟨by omega, by simp; omega, ?_⟩
      rw [cnt_set ps _ _ _ hl]
      simp
  · simp at ho ⊢
    omega
  · rw [cnt_set ps _ _ _ hl]
    split
    · simp
    · exact h.most j

theorem Inv.frlen {room : Nat} {ps : List Pl} {fr : List Nat} (h : Inv room ps fr) : fr.length ≤ ps.length := by
  have := h.sum
  omega

def flatS (ps : List Pl) : List Value := ps.flatMap fun p => Value.int .i64 (p.1 : Int) :: p.2
def Wid (k : Nat) (ps : List Pl) : Prop := ∀ p ∈ ps, p.2.length = k ∧ ∀ u ∈ p.2, u.oneCell' = true

theorem Wid.nil (k : Nat) : Wid k [] := fun _ h => by cases h
theorem Wid.set {k : Nat} {ps : List Pl} (h : Wid k ps) (i c : Nat) (x : List Value) (hl : x.length = k) (h1 : ∀ u ∈ x, u.oneCell' = true) : Wid k (ps.set i (c, x)) := fun p hp => by
  rcases List.mem_or_eq_of_mem_set hp with hp | rfl
  · exact h p hp
  · exact ⟨hl, h1⟩
theorem Wid.snoc {k : Nat} {ps : List Pl} (h : Wid k ps) (c : Nat) (x : List Value) (hl : x.length = k) (h1 : ∀ u ∈ x, u.oneCell' = true) : Wid k (ps ++ [(c, x)]) := fun p hp => by
  rcases List.mem_append.1 hp with hp | hp
  · exact h p hp
  · obtain rfl : p = (c, x) := by simpa using hp
    exact ⟨hl, h1⟩
theorem Wid.at {k : Nat} {ps : List Pl} (h : Wid k ps) (i : Nat) (hi : i < ps.length) : (thg ps i).length = k ∧ ∀ u ∈ thg ps i, u.oneCell' = true := by
  have : thg ps i = ps[i].2 := by simp [thg, hi]
  rw [this]
  exact h _ (List.getElem_mem hi)

theorem flatS_snoc (ps : List Pl) (p : Pl) : flatS (ps ++ [p]) = flatS ps ++ (Value.int .i64 (p.1 : Int) :: p.2) := by simp [flatS]
theorem flatS_append (ps qs : List Pl) : flatS (ps ++ qs) = flatS ps ++ flatS qs := by simp [flatS]
theorem flatS_length {k : Nat} : ∀ {ps : List Pl}, Wid k ps → (flatS ps).length = ps.length * (k + 1)
  | [], _ => by simp [flatS]
  | p :: r, h => by
    have ih := flatS_length (k := k) (ps := r) (fun q hq => h q (by simp [hq]))
    have h1 := (h p (by simp)).1
    simp only [flatS, List.flatMap_cons, List.length_append, List.length_cons] at ih ⊢
    rw [Nat.add_mul]
    omega
theorem split_at (ps : List Pl) (i : Nat) (hi : i < ps.length) : ps = ps.take i ++ ((cnt ps i, thg ps i) :: ps.drop (i + 1)) := by
  have e : (cnt ps i, thg ps i) = ps[i] := by simp [cnt, thg, hi]
  rw [e, ← List.drop_eq_getElem_cons hi, List.take_append_drop]
theorem flatS_split (ps : List Pl) (i : Nat) (hi : i < ps.length) : flatS ps = flatS (ps.take i) ++ ((Value.int .i64 (cnt ps i : Int) :: thg ps i) ++ flatS (ps.drop (i + 1))) := by
  conv => lhs; rw [split_at ps i hi, flatS_append]
  simp [flatS]
theorem flatS_put (ps : List Pl) (i : Nat) (p : Pl) (hi : i < ps.length) : flatS (ps.set i p) = flatS (ps.take i) ++ ((Value.int .i64 (p.1 : Int) :: p.2) ++ flatS (ps.drop (i + 1))) := by
  rw [List.set_eq_take_append_cons_drop, if_pos hi, flatS_append]
  simp [flatS]
theorem Wid.take {k : Nat} {ps : List Pl} (h : Wid k ps) (i : Nat) : Wid k (ps.take i) := fun p hp => h p (List.mem_of_mem_take hp)
theorem flatS_head {k : Nat} {ps : List Pl} (h : Wid k ps) (i : Nat) (hi : i < ps.length) : (flatS (ps.take i)).length = i * (k + 1) := by
  rw [flatS_length (h.take i), List.length_take, Nat.min_eq_left (by omega)]

theorem flatS_count {k : Nat} {ps : List Pl} (h : Wid k ps) (i : Nat) (hi : i < ps.length) : (flatS ps)[i * (k + 1)]? = some (.int .i64 (cnt ps i : Int)) := by
  rw [flatS_split ps i hi, List.getElem?_append_right (by rw [flatS_head h i hi]; omega), flatS_head h i hi, Nat.sub_self]
  rfl
theorem flatS_thing {k : Nat} {ps : List Pl} (h : Wid k ps) (i : Nat) (hi : i < ps.length) (j : Nat) (u : Value) (hu : (thg ps i)[j]? = some u) : (flatS ps)[i * (k + 1) + 1 + j]? = some u := by
  have hj := (List.getElem?_eq_some_iff.1 hu).1
  rw [flatS_split ps i hi, List.getElem?_append_right (by rw [flatS_head h i hi]; omega), flatS_head h i hi, show i * (k + 1) + 1 + j - i * (k + 1) = j + 1 by omega, List.getElem?_append_left (by simp; omega)]
  simpa using hu
theorem flatS_setPlace {k : Nat} {ps : List Pl} (h : Wid k ps) (i c : Nat) (x : List Value) (hi : i < ps.length) (hx : x.length = k) : setL (flatS ps) (i * (k + 1)) (Value.int .i64 (c : Int) :: x) = flatS (ps.set i (c, x)) := by
  rw [flatS_put ps i _ hi]
  conv => lhs; rw [flatS_split ps i hi, ← flatS_head h i hi]
  exact setL_mid _ _ _ _ (by simp [hx, (h.at i hi).1])
theorem flatS_setCount {k : Nat} {ps : List Pl} (h : Wid k ps) (i c : Nat) (hi : i < ps.length) : (flatS ps).set (i * (k + 1)) (Value.int .i64 (c : Int)) = flatS (ps.set i (c, thg ps i)) := by
  rw [flatS_put ps i _ hi]
  conv => lhs; rw [flatS_split ps i hi, ← flatS_head h i hi]
  simp
theorem flatS_setThing {k : Nat} {ps : List Pl} (h : Wid k ps) (i : Nat) (x : List Value) (hi : i < ps.length) (hx : x.length = k) : setL (flatS ps) (i * (k + 1) + 1) x = flatS (ps.set i (cnt ps i, x)) := by
  rw [flatS_put ps i _ hi]
  conv => lhs; rw [flatS_split ps i hi, ← flatS_head h i hi]
  have := setL_mid x (flatS (ps.take i) ++ [Value.int .i64 (cnt ps i : Int)]) (thg ps i) (flatS (ps.drop (i + 1))) (by rw [hx, (h.at i hi).1])
  simpa using this

def nats (fr : List Nat) : List Value := fr.map fun (s : Nat) => Value.int .i64 (s : Int)
theorem nats_length (fr : List Nat) : (nats fr).length = fr.length := by simp [nats]
theorem nats_snoc (fr : List Nat) (s : Nat) : nats (fr ++ [s]) = nats fr ++ [Value.int .i64 (s : Int)] := by simp [nats]
theorem nats_take (fr : List Nat) (n : Nat) : (nats fr).take n = nats (fr.take n) := by simp [nats, List.map_take]
theorem nats_get (fr : List Nat) (i : Nat) (hi : i < fr.length) : (nats fr)[i]? = some (.int .i64 (fr.getD i 0 : Nat)) := by simp [nats, List.getD, hi]

def Vac (ps : List Pl) (slot : Int) : Prop := ∀ i : Nat, slot = (i : Int) + 1 → cnt ps i = 0

def slotsK (ps : List Pl) (k : Nat) : List Nat := ((List.range k).filter fun i => decide (0 < cnt ps i)).map (· + 1)
def slotsOf (ps : List Pl) : List Nat := slotsK ps ps.length

def slB (g : Nat) (vp vf : Value) : List Nat := g :: (vp.ownBlock.toList ++ vf.ownBlock.toList)

theorem slB_mem {g : Nat} {vp vf : Value} {k : Nat} : k ∈ slB g vp vf ↔ k = g ∨ vp.ownBlock = some k ∨ vf.ownBlock = some k := by simp [slB]
theorem slB_new {g : Nat} {vp vf vp' vf' : Value} {w : World} (hp : vp'.ownBlock = vp.ownBlock ∨ ∃ k, vp'.ownBlock = some k ∧ w.heap.size ≤ k) (hf : vf'.ownBlock = vf.ownBlock ∨ ∃ k, vf'.ownBlock = some k ∧ w.heap.size ≤ k) : New (slB g vp vf) w (slB g vp' vf') := fun k hk => by
  rcases slB_mem.1 hk with rfl | h | h
  · exact .inl (slB_mem.2 (.inl rfl))
  · rcases hp with e | ⟨q, e, hq⟩
    · exact .inl (slB_mem.2 (.inr (.inl (e ▸ h))))
    · rw [e] at h
      injection h with h
      exact .inr (h ▸ hq)
  · rcases hf with e | ⟨q, e, hq⟩
    · exact .inl (slB_mem.2 (.inr (.inr (e ▸ h))))
    · rw [e] at h
      injection h with h
      exact .inr (h ▸ hq)

theorem set_last (ps : List Pl) (p q : Pl) : (ps ++ [p]).set ps.length q = ps ++ [q] := by simp

theorem eql_none {P : Program} (w : World) {tp te : TypeId} (a : Addr) (hp : P.underlying tp = some (.pointer te)) : (binOp .eql tp (.pointer none) (.pointer (some a))).run P w = .ok (.bool false) w := by
  have h : ∀ d : Nat, (Op.equalIn (d + 1) tp (.pointer none) (.pointer (some a))).run P w = .ok false w := fun d => by
    simp [Op.equalIn, run_underlying hp]
  simp only [binOp]
  simp [Op.equal, Op.maxDepth, h 9999]

theorem info_nat : ∃ i z, Tryz.prog.info? 3 = some i ∧ i.zero = some z ∧ i.size = 1 ∧ i.bytes = 8 ∧ z.cells.size = 1 := ⟨_, _, rfl, rfl, rfl, rfl, rfl⟩

end Go.Proofs.YtnnmfgnommbmkaaGreatDoor

namespace Go.Proofs.YtnnmfgnommbmkaaGreatDoor
set_option maxRecDepth 20000
open Go.RowKit

theorem u_bytes : Tryz.prog.underlying 36 = some (.slice 5) := Tryz.underlying36
theorem u_byte : Tryz.prog.underlying 5 = some (.int .u8) := Tryz.underlying5
theorem u_string : Tryz.prog.underlying 9 = some .string := Tryz.underlying9
theorem info_byte : (Tryz.prog.info? 5).map (fun i => (i.zero, i.size, i.bytes)) = some (some (.int .u8 0), 1, 1) := by kernel_rfl

def B (zs : List Int) : Array Value := (zs.map (Value.int .u8)).toArray
theorem B_size (zs : List Int) : (B zs).size = zs.length := by simp [B]
theorem B_get (zs : List Int) (i : Nat) (h : i < zs.length) : (B zs)[i]? = some (.int .u8 (zs.getD i 0)) := by simp [B, List.getD, h]
theorem B_toList (zs : List Int) : (B zs).toList = zs.map (Value.int .u8) := by simp [B]

def Row (w : World) (g : Nat) (zs : List Int) : Prop := w.heap[g]? = some (.cells (B zs) 5 (0, 0))

theorem Row.lt {w : World} {g : Nat} {zs : List Int} (h : Row w g zs) : g < w.heap.size := by
  unfold Row at h
  exact (Array.getElem?_eq_some_iff.1 h).1
theorem Row.cell {w : World} {g : Nat} {zs : List Int} (h : Row w g zs) (i : Nat) (hi : i < zs.length) : w.cell? ⟨g, i, none⟩ = some (.int .u8 (zs.getD i 0)) := by
  rw [cell_of_row w g i _ _ _ h, B_get zs i hi]
theorem Row.frozen {w : World} {g : Nat} {zs : List Int} (h : Row w g zs) (i : Nat) : w.frozen? ⟨g, i, none⟩ = false := frozen_of_row w g i _ _ h
theorem Row.of_block {w w' : World} {g : Nat} {zs : List Int} (h : Row w g zs) (k : w'.heap[g]? = w.heap[g]?) : Row w' g zs := by unfold Row at *; rw [k]; exact h
def Reads (w : World) (v : Value) (zs : List Int) : Prop :=
  ∃ a cap, v = .slice a zs.length cap ∧ zs.length ≤ cap ∧ (a = none → cap = 0) ∧ Bytes zs ∧
    (0 < zs.length → ∃ b off, a = some ⟨b, off, none⟩ ∧ ∀ i, i < zs.length → w.cell? ⟨b, off + i, none⟩ = some (.int .u8 (zs.getD i 0)))

theorem Reads.nil (w : World) : Reads w (.slice none 0 0) [] := ⟨none, 0, rfl, Nat.le_refl _, fun _ => rfl, Bytes.nil, fun h => by simp at h⟩

theorem Reads.grow {w w' : World} {v : Value} {zs : List Int} (h : Reads w v zs) (hb : Below w.heap.size w w') : Reads w' v zs := by
  obtain ⟨a, cap, e, h1, h2, h3, h4⟩ := h
  refine ⟨a, cap, e, h1, h2, h3, fun hp => ?_⟩
  obtain ⟨b, off, ea, hc⟩ := h4 hp
  refine ⟨b, off, ea, fun i hi => ?_⟩
  have hlt := block_lt_of_cell (hc i hi)
  rw [hb.cell hlt]
  exact hc i hi

def Own (base : Nat) (w : World) (v : Value) (zs sp : List Int) : Prop :=
  Bytes zs ∧ Bytes sp ∧ zs.length + sp.length ≤ maxLen ∧
  ((v = .slice none 0 0 ∧ zs = [] ∧ sp = []) ∨ ∃ g rest, base ≤ g ∧ v = .slice (some ⟨g, 0, none⟩) zs.length (zs.length + sp.length) ∧ Row w g (zs ++ sp ++ rest))

theorem Own.nil (base : Nat) (w : World) : Own base w (.slice none 0 0) [] [] := ⟨Bytes.nil, Bytes.nil, by simp, .inl ⟨rfl, rfl, rfl⟩⟩

theorem Own.empty (base : Nat) (w : World) (hb : base ≤ w.heap.size) : Own base (w.alloc (.cells #[] 5)) (.slice (some ⟨w.heap.size, 0, none⟩) 0 0) [] [] :=
  ⟨Bytes.nil, Bytes.nil, by simp, .inr ⟨w.heap.size, [], hb, rfl, heap_alloc_new w _⟩⟩

theorem Own.mk {base : Nat} {w : World} {g : Nat} {zs sp : List Int} (hz : Bytes zs) (hs : Bytes sp) (hl : zs.length + sp.length ≤ maxLen) (hb : base ≤ g) (h : Row w g (zs ++ sp)) : Own base w (.slice (some ⟨g, 0, none⟩) zs.length (zs.length + sp.length)) zs sp :=
  ⟨hz, hs, hl, .inr ⟨g, [], hb, rfl, by simpa using h⟩⟩

theorem Own.slice {b : Nat} {w : World} {v : Value} {zs sp : List Int} (h : Own b w v zs sp) : ∃ a c, v = .slice a zs.length c := by
  obtain ⟨_, _, _, h4⟩ := h
  rcases h4 with ⟨rfl, rfl, rfl⟩ | ⟨g, rest, hg, rfl, h5⟩
  · exact ⟨_, _, rfl⟩
  · exact ⟨_, _, rfl⟩

theorem Own.mono {b b' : Nat} {w : World} {v : Value} {zs sp : List Int} (h : Own b w v zs sp) (hb : b' ≤ b) : Own b' w v zs sp := by
  obtain ⟨h1, h2, h3, h4⟩ := h
  refine ⟨h1, h2, h3, ?_⟩
  rcases h4 with h4 | ⟨g, rest, hg, h5⟩
  · exact .inl h4
  · exact .inr ⟨g, rest, Nat.le_trans hb hg, h5⟩

theorem Own.of_block {b : Nat} {w w' : World} {v : Value} {zs sp : List Int} (h : Own b w v zs sp) (hw : ∀ k, v.ownBlock = some k → w'.heap[k]? = w.heap[k]?) : Own b w' v zs sp := by
  obtain ⟨h1, h2, h3, h4⟩ := h
  refine ⟨h1, h2, h3, ?_⟩
  rcases h4 with h4 | ⟨g, rest, hg, rfl, h5⟩
  · exact .inl h4
  · exact .inr ⟨g, rest, hg, rfl, h5.of_block (hw g rfl)⟩

theorem Own.lt {b : Nat} {w : World} {v : Value} {zs sp : List Int} (h : Own b w v zs sp) : ∀ k, v.ownBlock = some k → b ≤ k ∧ k < w.heap.size := by
  obtain ⟨h1, h2, h3, h4⟩ := h
  intro k hk
  rcases h4 with ⟨rfl, _⟩ | ⟨g, rest, hg, rfl, h5⟩
  · simp [Value.ownBlock] at hk
  · simp only [Value.ownBlock, Option.some.injEq] at hk
    subst hk
    exact ⟨hg, h5.lt⟩

theorem Own.grow {b : Nat} {w w' : World} {v : Value} {zs sp : List Int} (h : Own b w v zs sp) (hb : Below w.heap.size w w') : Own b w' v zs sp :=
  h.of_block fun k hk => hb.block k (h.lt k hk).2

theorem Own.reads {b : Nat} {w : World} {v : Value} {zs sp : List Int} (h : Own b w v zs sp) : Reads w v zs := by
  obtain ⟨h1, h2, h3, h4⟩ := h
  rcases h4 with ⟨rfl, rfl, rfl⟩ | ⟨g, rest, hg, rfl, h5⟩
  · exact Reads.nil w
  · refine ⟨_, _, rfl, by omega, fun h => by simp at h, h1, fun _ => ⟨g, 0, rfl, fun i hi => ?_⟩⟩
    rw [Nat.zero_add, h5.cell i (by simp; omega)]
    rw [List.append_assoc]
    simp [List.getD, List.getElem?_append_left hi]

theorem Reads.cells {w : World} {v : Value} {zs : List Int} (h : Reads w v zs) {x : Addr} {n c : Nat} (hv : v = .slice (some x) n c) : n = zs.length ∧ ∀ j u, (zs.map (Value.int .u8))[j]? = some u → w.cell? (x.add j) = some u := by
  obtain ⟨a, cap, e, h1, h2, h3, h4⟩ := h
  rw [e] at hv
  injection hv with e1 e2 e3
  subst e2
  refine ⟨rfl, fun j u hu => ?_⟩
  have hj : j < zs.length := by have := (List.getElem?_eq_some_iff.1 hu).1; simpa using this
  obtain ⟨b, off, ea, hc⟩ := h4 (by omega)
  rw [ea] at e1
  injection e1 with e1
  subst e1
  rw [Addr.add_lit, hc j hj]
  simp [hj] at hu
  simp [List.getD, hj, hu]

theorem zeros_bytes (n : Nat) : Builtin.zeroCells (Value.cells (.int .u8 0)) n = B (List.replicate n 0) := by
  apply Array.ext'
  simp only [Builtin.zeroCells, B, Value.cells]
  apply List.ext_getElem
  · simp
  · intro i h1 h2
    simp [Nat.mod_one]

theorem Bytes.zeros (n : Nat) : Bytes (List.replicate n 0) := fun z hz => by rw [List.eq_of_mem_replicate hz]; omega

set_option maxRecDepth 20000 in
theorem run_app (ty : TypeId) (w : World) (base : Nat) (v x : Value) (zs sp ys : List Int) (ho : Own base w v zs sp) (hr : Reads w x ys) (hl0 : ys.length ≤ sp.length ∨ zs.length + ys.length ≤ 140737488355328) (hb : base ≤ w.heap.size) :
    ∃ v' w' sp', (Builtin.append_ #[36, 36] ty #[v, x]).run Tryz.prog w = .ok v' w' ∧ Own base w' v' (zs ++ ys) sp' ∧ w.grownBy w' v.ownBlock ∧
      (v'.ownBlock = v.ownBlock ∨ v'.ownBlock = some w.heap.size) ∧ (v' = .slice none 0 0 ↔ v = .slice none 0 0 ∧ ys = []) ∧ (ys.length ≤ sp.length → sp'.length = sp.length - ys.length) := by
  obtain ⟨i, hi, hz, hs, hby⟩ := info_parts info_byte
  have ht := u_bytes
  obtain ⟨b1, b2, b3, ho⟩ := ho
  have hby' := hr
  obtain ⟨a, cap, rfl, h1, h2, h3, h4⟩ := hby'
  have hnl : (ys.map (Value.int .u8)).length = ys.length * i.size := by simp [hs]
  have h1c := ints_oneCell .u8 ys
  rcases ho with ⟨rfl, rfl, rfl⟩ | ⟨g, hid, hg, rfl, hrow⟩
  · by_cases hy : ys = []
    · subst hy
      refine ⟨.slice none 0 0, w, [], ?_, Own.nil _ _, World.grownBy.refl _ _, .inl rfl, by simp, by simp⟩
      simp only [List.length_nil]
      cases a with
      | none => simp [Builtin.append_, run_underlying ht, sizeOf, typeInfo, hi, Builtin.lenOf, Builtin.firstCells]
      | some a => simp [Builtin.append_, run_underlying ht, sizeOf, typeInfo, hi, Builtin.lenOf, Builtin.firstCells, loadCells, loadCellsFrom]
    · have hpos : 0 < ys.length := List.length_pos_iff.2 hy
      have hl : ys.length ≤ 140737488355328 := by
        rcases hl0 with h | h
        · exact absurd (List.eq_nil_of_length_eq_zero (by simpa using h)) hy
        · simpa using h
      have hlen : ys.length ≤ maxLen := by simp only [maxLen]; omega
      obtain ⟨bb, off, rfl, hc⟩ := h4 hpos
      have hr' := run_append_nil (P := Tryz.prog) w 36 ty 5 i _ ht hi hz ⟨bb, off, none⟩ ys.length cap (ys.map (Value.int .u8)) hnl (hr.cells rfl).2 hpos (by omega) (by rw [hby]; omega)
      have hge := grownCap_ge w ys.length 0 5
      have hcm := grownCap_le_maxLen w ys.length 0 5 (by omega)
      refine ⟨_, _, List.replicate (grownCap w ys.length 0 5 - ys.length) 0, hr', ⟨by simpa using h3, Bytes.zeros _, by simp; omega, .inr ⟨w.heap.size, [], hb, ?_, ?_⟩⟩, ⟨rfl, rfl, rfl, by simp, fun k hk _ => Below.heap_alloc w.drew _ k hk⟩, .inr rfl, by simp [hy], fun h => absurd (List.eq_nil_of_length_eq_zero (by simpa using h)) hy⟩
      · simp; omega
      · unfold Row
        rw [zeros_bytes]
        rw [show (w.drew.alloc (.cells ((ys.map (Value.int .u8)).toArray ++ B (List.replicate (grownCap w ys.length 0 5 - ys.length) 0)) 5)).heap[w.heap.size]? = _ from heap_alloc_new w.drew _]
        simp [B]
  · have hxs : ∀ j u, (zs.map (Value.int .u8))[j]? = some u → w.cell? ((⟨g, 0, none⟩ : Addr).add j) = some u := by
      intro j u hu
      have hj : j < zs.length := by have := (List.getElem?_eq_some_iff.1 hu).1; simpa using this
      rw [Addr.add_lit, Nat.zero_add, hrow.cell j (by simp; omega)]
      simp [hj] at hu
      rw [List.append_assoc]
      simp [List.getD, List.getElem?_append_left hj, hj, hu]
    by_cases hroom : ys.length ≤ sp.length
    · by_cases hy : ys = []
      · subst hy
        refine ⟨_, w, sp, ?_, ⟨by simpa using b1, b2, by simpa using b3, .inr ⟨g, hid, hg, rfl, by simpa using hrow⟩⟩, World.grownBy.refl _ _, .inl rfl, by simp, by simp⟩
        cases a with
        | none => simp [Builtin.append_, run_underlying ht, sizeOf, typeInfo, hi, Builtin.lenOf, Builtin.firstCells, storeCells]
        | some a => simp [Builtin.append_, run_underlying ht, sizeOf, typeInfo, hi, Builtin.lenOf, Builtin.firstCells, loadCells, loadCellsFrom, storeCells]
      · have hpos : 0 < ys.length := List.length_pos_iff.2 hy
        obtain ⟨bb, off, rfl, hc⟩ := h4 hpos
        have hr' := run_append_room (P := Tryz.prog) w 36 ty 5 i ht hi g zs.length (zs.length + sp.length) (B (zs ++ sp ++ hid)) hrow ⟨bb, off, none⟩ ys.length cap (ys.map (Value.int .u8)) hnl (hr.cells rfl).2 h1c (by omega) (by rw [B_size]; simp [hs]; omega)
        refine ⟨_, _, sp.drop ys.length, hr', ⟨b1.append h3, b2.drop _, by simp; omega, .inr ⟨g, hid, hg, by simp; omega, ?_⟩⟩, ⟨rfl, rfl, rfl, by simp, fun k _ hk => setRow_other w g k _ (fun e => hk (by simp [Value.ownBlock, e]))⟩, .inl rfl, by simp, by simp⟩
        unfold Row
        rw [setRow_heap w g _ _ _ _ hrow]
        congr 2
        simp only [hs, Nat.mul_one, List.length_map, B]
        congr 1
        rw [List.append_assoc zs sp hid]
        simp [List.drop_append, List.append_assoc, show ys.length - sp.length = 0 by omega]
    · have hpos : 0 < ys.length := by omega
      have hl : zs.length + ys.length ≤ 140737488355328 := by omega
      have hlen : zs.length + ys.length ≤ maxLen := by simp only [maxLen]; omega
      obtain ⟨bb, off, rfl, hc⟩ := h4 hpos
      have hr' := run_append_grow (P := Tryz.prog) w 36 ty 5 i _ ht hi hz ⟨g, 0, none⟩ zs.length (zs.length + sp.length) (zs.map (Value.int .u8)) (by simp [hs]) hxs ⟨bb, off, none⟩ ys.length cap (ys.map (Value.int .u8)) hnl (hr.cells rfl).2 (by omega) (by simp only [maxLen] at hlen; omega) (by rw [hby]; exact growslice_fits (by omega) (by omega))
      have hge := grownCap_ge w (zs.length + ys.length) (zs.length + sp.length) 5
      have hcm := grownCap_le_maxLen w (zs.length + ys.length) (zs.length + sp.length) 5 hlen
      refine ⟨_, _, List.replicate (grownCap w (zs.length + ys.length) (zs.length + sp.length) 5 - (zs.length + ys.length)) 0, hr', ⟨b1.append h3, Bytes.zeros _, by simp; omega, .inr ⟨w.heap.size, [], hb, by simp; omega, ?_⟩⟩, ⟨rfl, rfl, rfl, by simp, fun k hk _ => Below.heap_alloc w.drew _ k hk⟩, .inr rfl, by simp, fun h => absurd h hroom⟩
      unfold Row
      rw [zeros_bytes]
      rw [show (w.drew.alloc (.cells ((zs.map (Value.int .u8)).toArray ++ (ys.map (Value.int .u8)).toArray ++ B (List.replicate (grownCap w (zs.length + ys.length) (zs.length + sp.length) 5 - (zs.length + ys.length)) 0)) 5)).heap[w.heap.size]? = _ from heap_alloc_new w.drew _]
      simp [B]

theorem wpList_app {ops : Array Oper} {rest : List Oper} {o : Oper} {a : Act} {Q : Exit → Act → World → Prop} (w : World) (hgd : o.guard = none) (s x : Operand)
    (hop : o.op = .call { callee := .builtin .append, args := #[s, x], argTypes := #[36, 36] })
    (base : Nat) (v xv : Value) (zs sp ys : List Int) (ho : Own base w v zs sp) (hr : Reads w xv ys) (hs : a.eval s = v) (hx : a.eval x = xv) (hl : zs.length + ys.length ≤ 140737488355328) (hb : base ≤ w.heap.size)
    (h : ∀ v' w' sp', Own base w' v' (zs ++ ys) sp' → w.grownBy w' v.ownBlock → (v'.ownBlock = v.ownBlock ∨ v'.ownBlock = some w.heap.size) → (v' = .slice none 0 0 ↔ v = .slice none 0 0 ∧ ys = []) → wpList Tryz.prog ops Q rest (a.put o.dst v') w') :
    wpList Tryz.prog ops Q (o :: rest) a w := by
  refine wpList_plain hgd fun K hK => ?_
  obtain ⟨v', w', sp', hr, h2, h3, h4, h5, _⟩ := run_app o.type w base v xv zs sp ys ho hr (.inr hl) hb
  unfold Oper.wp execOp
  simp only [hop, resolve, invoke, builtin, Sem.run_bind, Sem.run_pure, Result.andThen_ok, List.map_toArray, List.map_cons, List.map_nil, hs, hx, hr]
  exact hK _ _ (h v' w' sp' h2 h3 h4 h5)

end Go.Proofs.YtnnmfgnommbmkaaGreatDoor
