/- Cells of a block that is known whole are there. -/
import Derived.Test.YtlinalcjdpikeaaGreatDoorPm01
import Derived.Test.YtlinalcjdpikeaaGreatDoorPm30
import Derived.Test.YtlinalcjdpikeaaGreatDoorPm15
namespace Go.Proofs.YtlinalcjdpikeaaGreatDoor
set_option maxRecDepth 20000
open Go.RowKit

theorem Blk.there {w : World} {g : Nat} {t : TypeId} {cs : Array Value} (h : Blk w g t cs) (o n : Nat) (hn : o + n ≤ cs.size) : w.there g o n := fun j hj => ⟨by rw [h.cell, Array.getElem?_eq_getElem (by omega)]; rfl, h.frozen _⟩

end Go.Proofs.YtlinalcjdpikeaaGreatDoor

/- Entries turned about in memory. -/
namespace Go.Proofs.YtlinalcjdpikeaaGreatDoor
set_option maxRecDepth 20000
open Go.RowKit

/-- Two entries turned about. -/
theorem swap_perm {α : Type} (l : List α) (x y : Nat) (hx : x < l.length) (hy : y < l.length) : ((l.set x l[y]).set y l[x]).Perm l := by
  have h := Array.swap_perm (xs := l.toArray) (i := x) (j := y) (by simpa using hx) (by simpa using hy)
  have h2 := Array.perm_iff_toList_perm.1 h
  simpa [Array.swap] using h2

theorem flatP_length (its : List (Ent × Value)) (h : ∀ p ∈ its, p.1.1.length = 32) : (flatP its).length = its.length * 33 := by
  induction its with
  | nil => rfl
  | cons p r ih =>
    have h1 := ih (fun q hq => h q (by simp [hq]))
    have h2 := encP_length p.1.1 p.2 (h p (by simp))
    simp only [flatP, List.flatMap_cons, List.length_append, List.length_cons] at h1 ⊢
    omega
theorem flatP_set : ∀ (its : List (Ent × Value)), (∀ p ∈ its, p.1.1.length = 32) → ∀ (i : Nat), i < its.length → ∀ (p : Ent × Value), (flatP its).take (i * 33) ++ (encP p.1.1 p.2 ++ (flatP its).drop (i * 33 + 33)) = flatP (its.set i p)
  | [], _, i, hi, _ => by simp at hi
  | q :: r, hl, 0, _, p => by
    have h1 := encP_length q.1.1 q.2 (hl q (by simp))
    simp only [flatP, List.flatMap_cons, List.set_cons_zero, Nat.zero_mul, List.take_zero, List.nil_append, Nat.zero_add]
    rw [List.drop_append_of_le_length (by omega), List.drop_eq_nil_of_le (by omega), List.nil_append]
  | q :: r, hl, i + 1, hi, p => by
    have h1 := encP_length q.1.1 q.2 (hl q (by simp))
    have ih := flatP_set r (fun x hx => hl x (by simp [hx])) i (by simpa using hi) p
    simp only [flatP, List.flatMap_cons, List.set_cons_succ] at ih ⊢
    rw [← ih, show (i + 1) * 33 = (encP q.1.1 q.2).length + i * 33 by omega, List.take_length_add_append, show (encP q.1.1 q.2).length + i * 33 + 33 = (encP q.1.1 q.2).length + (i * 33 + 33) by omega, List.drop_length_add_append, List.append_assoc]

theorem own_set {w : World} {base g n c i : Nat} {its : List (Ent × Value)} (h : w.ownsRow base 59 33 (.slice (some ⟨g, 0, none⟩) n c) n (flatP its)) (hn : its.length = n) (hl : ∀ q ∈ its, q.1.1.length = 32) (hi : i < n) (p : Ent × Value) (hp : p.1.1.length = 32) :
    (w.setCells g (i * 33) (encP p.1.1 p.2)).ownsRow base 59 33 (.slice (some ⟨g, 0, none⟩) n c) n (flatP (its.set i p)) := by
  have hl2 : ∀ q ∈ its.set i p, q.1.1.length = 32 := fun q hq => by
    rcases List.mem_or_eq_of_mem_set hq with hq | rfl
    · exact hl q hq
    · exact hp
  have e33 := encP_length p.1.1 p.2 hp
  rcases h.2 with ⟨e, e2⟩ | ⟨g', cap, cur, e, hb, hg, hc, hm, hs, ht⟩
  · omega
  · injection e with e1 e2 e3
    injection e1 with e1
    injection e1 with e1
    subst e1
    subst e3
    have hfit : i * 33 + (encP p.1.1 p.2).length ≤ cur.size := by rw [e33, hs]; omega
    have hB := Blk.cells (encP p.1.1 p.2) (i * 33) (show Blk w g 59 cur from hg) hfit
    refine ⟨by rw [flatP_length _ hl2, List.length_set, hn], .inr ⟨g, c, _, rfl, hb, hB, hc, hm, ?_, ?_⟩⟩
    · simp only [List.size_toArray, List.length_append, List.length_take, List.length_drop, Array.length_toList]
      omega
    · rw [← flatP_set its hl i (by omega) p, ← ht, e33]
      have hcl : cur.toList.length = c * 33 := by rw [Array.length_toList]; exact hs
      rw [List.take_take, List.drop_take, Nat.min_eq_left (by omega)]
      dsimp only
      rw [List.take_append, List.take_append, List.length_take, Nat.min_eq_left (by omega), List.take_take, Nat.min_eq_right (by omega), e33, List.take_of_length_le (l := encP p.1.1 p.2) (by omega)]
      congr 3

theorem own_range {w : World} {base g n c i : Nat} {its : List (Ent × Value)} (h : w.ownsRow base 59 33 (.slice (some ⟨g, 0, none⟩) n c) n (flatP its)) (hn : its.length = n) (hl : ∀ q ∈ its, q.1.1.length = 32) (hi : i < n) : w.rangeAt g (i * 33) (encP (its.getD i (e00, undef)).1.1 (its.getD i (e00, undef)).2) ∧ w.there g (i * 33) 33 := by
  rcases h.2 with ⟨e, e2⟩ | ⟨g', cap, cur, e, hb, hg, hc, hm, hs, ht⟩
  · omega
  · injection e with e1 e2 e3
    injection e1 with e1
    injection e1 with e1
    subst e1
    subst e3
    constructor
    · intro j u hu
      have e2 : its.getD i (e00, undef) = its[i] := by simp [List.getD, show i < its.length by omega]
      rw [e2] at hu
      have h1 := flatP_at its hl i (by omega) j u hu
      rw [← ht] at h1
      have h2 : (cur.toList)[i * 33 + j]? = some u := by
        rw [List.getElem?_take] at h1
        split at h1
        · exact h1
        · cases h1
      rw [cell_of_row w g _ cur _ _ hg]
      simpa using h2
    · exact Blk.there (show Blk w g 59 cur from hg) (i * 33) 33 (by rw [hs]; omega)

end Go.Proofs.YtlinalcjdpikeaaGreatDoor

/- The laws' pairs: the entries that writes lead to, the last value of each key; as a contract. -/
namespace Go.Proofs.YtlinalcjdpikeaaGreatDoor
set_option maxRecDepth 20000
open Go.RowKit

theorem at_bsd {P : Program} {ops : Array Oper} {Q : Exit → Act → World → Prop} {rest : List Oper} {a : Act} {w : World} {ty t : TypeId} {p : String} {f : Array Edge} {g : Option (Nat × Bool)} {n : Nat} {x : Array (Nat × Operand)} (k : Nat)
    (h : wpList P ops Q (Oper.mk (some k) (.buildSlice ty n x) t p f g :: rest) a w) : wpList P ops Q (Oper.mk (some k) (.buildSlice ty n x) t p f g :: rest) a w := h

abbrev It := Ent × Value
def i00 : It := (e00, undef)
/-- The last of the first k items that has this key. -/
def atI (its : List It) (K : List Int) : Nat → Option Nat
  | 0 => none
  | k + 1 => if (its.getD k i00).1.1 = K then some k else atI its K k
def atZ (o : Option Nat) : Int := match o with | none => -1 | some j => (j : Int)
/-- An item takes the place of the one with its key, or comes behind. -/
def upI (its : List It) (p : It) : List It := match atI its p.1.1 its.length with | none => its ++ [p] | some j => its.set j p
def prI (l : List It) : List It := l.foldl upI []
def inI (es : List Ent) (V : Nat → Value) : List It := (List.range es.length).map fun i => (es.getD i e00, V i)

theorem prI_snoc (l : List It) (p : It) : prI (l ++ [p]) = upI (prI l) p := by simp [prI]
theorem inI_len (es : List Ent) (V : Nat → Value) : (inI es V).length = es.length := by simp [inI]
theorem inI_take (es : List Ent) (V : Nat → Value) (k : Nat) (hk : k < es.length) : (inI es V).take (k + 1) = (inI es V).take k ++ [(es.getD k e00, V k)] := by
  rw [List.take_add_one, List.getElem?_eq_getElem (by rw [inI_len]; exact hk)]
  simp [inI]

theorem atI_some {its : List It} {K : List Int} : ∀ {k j : Nat}, atI its K k = some j → j < k ∧ (its.getD j i00).1.1 = K
  | 0, j, h => by cases h
  | k + 1, j, h => by
    unfold atI at h
    split at h
    · rename_i hq
      injection h with h
      subst h
      exact ⟨by omega, hq⟩
    · have := atI_some h
      exact ⟨by omega, this.2⟩
theorem atI_none {its : List It} {K : List Int} : ∀ {k : Nat}, atI its K k = none → ∀ j, j < k → (its.getD j i00).1.1 ≠ K
  | 0, _, j, hj => by omega
  | k + 1, h, j, hj => by
    unfold atI at h
    split at h
    · cases h
    · rename_i hq
      by_cases e : j = k
      · rw [e]
        exact hq
      · exact atI_none h j (by omega)

theorem upI_len (its : List It) (p : It) : (upI its p).length ≤ its.length + 1 := by
  unfold upI
  split
  · simp
  · simp
theorem upI_mem {its : List It} {p q : It} (h : q ∈ upI its p) : q ∈ its ∨ q = p := by
  unfold upI at h
  split at h
  · simpa using h
  · exact List.mem_or_eq_of_mem_set h
theorem prI_mem : ∀ (n : Nat) (l : List It), l.length = n → ∀ q ∈ prI l, q ∈ l
  | 0, l, hn, q, hq => by
    obtain rfl := List.eq_nil_of_length_eq_zero hn
    cases hq
  | n + 1, l, hn, q, hq => by
    rcases List.eq_nil_or_concat l with e | ⟨r, p, e⟩
    · rw [e] at hn
      simp at hn
    · rw [List.concat_eq_append] at e
      subst e
      rw [prI_snoc] at hq
      rcases upI_mem hq with h | h
      · exact List.mem_append_left _ (prI_mem n r (by simpa using hn) q h)
      · exact List.mem_append_right _ (by simp [h])
theorem prI_len : ∀ (n : Nat) (l : List It), l.length = n → (prI l).length ≤ n
  | 0, l, hn => by
    obtain rfl := List.eq_nil_of_length_eq_zero hn
    simp [prI]
  | n + 1, l, hn => by
    rcases List.eq_nil_or_concat l with e | ⟨r, p, e⟩
    · rw [e] at hn
      simp at hn
    · rw [List.concat_eq_append] at e
      subst e
      rw [prI_snoc]
      have h1 := upI_len (prI r) p
      have h2 := prI_len n r (by simpa using hn)
      omega

/-- One of a list of unlike keys gets another value. -/
theorem set_up : ∀ (l : List Ent) (j : Nat) (hj : j < l.length) (e : Ent), (l.Pairwise fun a b => a.1 ≠ b.1) → l[j].1 = e.1 → (l.set j e).Perm (upE l e.1 e.2) ∧ ((l.set j e).Pairwise fun a b => a.1 ≠ b.1)
  | [], j, hj, _, _, _ => by simp at hj
  | x :: r, 0, _, e, hp, hk => by
    obtain ⟨h1, h2⟩ := List.pairwise_cons.1 hp
    have hk : x.1 = e.1 := hk
    have hr : r.filter (fun a : Ent => !(a.1 == e.1)) = r := List.filter_eq_self.2 (fun y hy => by
      have := h1 y hy
      rw [hk] at this
      simp only [Bool.not_eq_true', beq_eq_false_iff_ne, ne_eq]
      exact fun q => this q.symm)
    constructor
    · unfold upE
      rw [List.set_cons_zero, List.filter_cons, if_neg (by simp [hk]), hr]
    · rw [List.set_cons_zero]
      exact List.pairwise_cons.2 ⟨fun y hy => by rw [← hk]; exact h1 y hy, h2⟩
  | x :: r, j + 1, hj, e, hp, hk => by
    obtain ⟨h1, h2⟩ := List.pairwise_cons.1 hp
    have hj' : j < r.length := by simpa using hj
    have hk' : r[j].1 = e.1 := by simpa using hk
    obtain ⟨i1, i2⟩ := set_up r j hj' e h2 hk'
    have hx : x.1 ≠ e.1 := by rw [← hk']; exact h1 _ (List.getElem_mem hj')
    rw [List.set_cons_succ]
    constructor
    · unfold upE at i1 ⊢
      rw [List.filter_cons, if_pos (by simpa using hx)]
      exact (List.Perm.cons x i1).trans (List.Perm.swap _ _ _)
    · refine List.pairwise_cons.2 ⟨fun y hy => ?_, i2⟩
      rcases List.mem_or_eq_of_mem_set hy with q | q
      · exact h1 y q
      · rw [q]
        exact hx

theorem upI_up (its : List It) (p : It) (hp : (its.map (·.1)).Pairwise fun a b => a.1 ≠ b.1) : ((upI its p).map (·.1)).Perm (upE (its.map (·.1)) p.1.1 p.1.2) ∧ (((upI its p).map (·.1)).Pairwise fun a b => a.1 ≠ b.1) := by
  have hg : ∀ j (hj : j < its.length), its.getD j i00 = its[j] := fun j hj => by simp [List.getD, hj]
  unfold upI
  cases h : atI its p.1.1 its.length with
  | none =>
    have hn : ∀ e ∈ its.map (·.1), e.1 ≠ p.1.1 := fun e he => by
      obtain ⟨q, hq, rfl⟩ := List.mem_map.1 he
      obtain ⟨j, hj, rfl⟩ := List.mem_iff_getElem.1 hq
      have := atI_none h j hj
      rwa [hg j hj] at this
    have hf : (its.map (·.1)).filter (fun a : Ent => !(a.1 == p.1.1)) = its.map (·.1) := List.filter_eq_self.2 (fun y hy => by
      have := hn y hy
      simpa using this)
    simp only [List.map_append, List.map_cons, List.map_nil]
    constructor
    · unfold upE
      rw [hf]
      exact List.perm_append_comm
    · rw [List.pairwise_append]
      exact ⟨hp, List.pairwise_singleton _ _, fun a ha b hb => by rw [List.mem_singleton.1 hb]; exact hn a ha⟩
  | some j =>
    obtain ⟨h1, h2⟩ := atI_some h
    rw [hg j h1] at h2
    simp only [List.map_set]
    exact set_up (its.map (·.1)) j (by simpa using h1) p.1 hp (by simpa using h2)

theorem prI_apart : ∀ (n : Nat) (l : List It), l.length = n → ((prI l).map (·.1)).Pairwise fun a b => a.1 ≠ b.1
  | 0, l, hn => by
    obtain rfl := List.eq_nil_of_length_eq_zero hn
    exact List.Pairwise.nil
  | n + 1, l, hn => by
    rcases List.eq_nil_or_concat l with e | ⟨r, p, e⟩
    · rw [e] at hn
      simp at hn
    · rw [List.concat_eq_append] at e
      subst e
      rw [prI_snoc]
      exact (upI_up _ p (prI_apart n r (by simpa using hn))).2

/-- What pairs answers. -/
def PsPost (es : List Ent) (V : Nat → Value) (w : World) (e : Ending) (w' : World) : Prop :=
  ∃ a c, e = .returned (.slice a (prI (inI es V)).length c) ∧ w'.ownsRow w.heap.size 59 33 (.slice a (prI (inI es V)).length c) (prI (inI es V)).length (flatP (prI (inI es V))) ∧ Below w.heap.size w w'

theorem sz_pair9 (k : List Int) (v : Value) (h : k.length = 32) : (Tryz.prog.info? 59).map (·.size) = some (encP k v).toArray.size := by
  rw [List.size_toArray, encP_length k v h]
  kernel_rfl
theorem encP_one9 (k : List Int) (v : Value) (hv : v.oneCell' = true) : (encP k v).toArray.all (·.oneCell') = true := by
  refine all_oneCell_toArray (fun u hu => ?_)
  unfold encP at hu
  rcases List.mem_append.1 hu with h | h
  · obtain ⟨z, _, rfl⟩ := List.mem_map.1 h
    rfl
  · rw [List.mem_singleton.1 h]
    exact hv
theorem wpList_st9 {ops : Array Oper} {rest : List Oper} {op : Oper} {a : Act} {Q : Exit → Act → World → Prop} (w : World) (hgd : op.guard = none) (ty : TypeId) (x y : Operand) (ho : op.op = .store ty x y)
    (b off : Nat) (cells : Array Value) (hx : a.eval x = .pointer (some ⟨b, off, none⟩)) (hy : a.eval y = .agg cells) (ht : w.there b off cells.size) (hi : (Tryz.prog.info? ty).map (·.size) = some cells.size) (h1 : cells.all (·.oneCell') = true)
    (h : wpList Tryz.prog ops Q rest (a.put op.dst undef) (w.setCells b off cells.toList)) : wpList Tryz.prog ops Q (op :: rest) a w :=
  wpList_plain hgd fun _ hK => wp_store_mid ty x y ho b off cells hx hy ht hi h1 (hK _ _ h)

set_option maxHeartbeats 8000000 in
theorem pairs_any {w : World} {v : Value} {V : Nat → Value} {es : List Ent} (hv : PrAt w v V es) (h16 : es.length ≤ 16) : Calls Tryz.prog 24 #[v] w (PsPost es V w) := by
  have hks : ∀ q ∈ inI es V, q.1.1.length = 32 ∧ q.2.oneCell' = true := fun q hq => by
    obtain ⟨_, _, _, _, _, h3⟩ := hv
    obtain ⟨i, hi, rfl⟩ := List.mem_map.1 hq
    obtain ⟨h4, h5⟩ := h3 i (List.mem_range.1 hi)
    exact ⟨h4.1, reads_one h5⟩
  have HKS : Hid (∀ k, ∀ q ∈ prI ((inI es V).take k), q.1.1.length = 32) := fun k q hq => (hks q (List.mem_of_mem_take (prI_mem _ _ rfl q hq))).1
  obtain ⟨a, cap, rfl, hcap, hc, hr⟩ := hv
  have HAT : Hid (∀ k, k < es.length → ∃ lb off, a = some ⟨lb, off, none⟩ ∧ (es.getD k e00).1.length = 32 ∧ (V k).oneCell' = true ∧ (∀ w', Below w.heap.size w w' → w'.rangeAt lb (off + k * 33) (encP (es.getD k e00).1 (V k)))) := fun k hk => by
    obtain ⟨lb, off, e1, h1⟩ := hc (by omega)
    exact ⟨lb, off, e1, (hr k hk).1.1, reads_one (hr k hk).2, fun w' hb => rng_grow (h1 k hk) hb⟩
  have HST : Hid (∀ k, k < es.length → prI ((inI es V).take (k + 1)) = upI (prI ((inI es V).take k)) (es.getD k e00, V k)) := fun k hk => by rw [inI_take es V k hk, prI_snoc]
  have HPost : Hid (∀ (a : Option Addr) (m c : Nat) w', m = (prI (inI es V)).length → w'.ownsRow w.heap.size 59 33 (.slice a m c) m (flatP (prI (inI es V))) → Below w.heap.size w w' → PsPost es V w (.returned (.slice a m c)) w') := fun a m c w' e h1 h2 => by
    subst e
    exact ⟨a, c, rfl, h1, h2⟩
  have HTA : Hid ((inI es V).take es.length = inI es V) := List.take_of_length_le (by rw [inI_len]; exact Nat.le_refl _)
  have HML : Hid (∀ k, (prI ((inI es V).take k)).length ≤ k) := fun k => Nat.le_trans (prI_len _ _ rfl) (by rw [List.length_take]; omega)
  obtain ⟨n, hn⟩ : ∃ n, n = es.length := ⟨_, rfl⟩
  rw [← hn] at HAT HST HTA h16 ⊢
  generalize PsPost es V w = P at HPost ⊢
  generalize inI es V = l at HKS HST HPost HTA HML
  clear hcap hc hr hks hn
  go_enter Tryz.func24, Tryz.ntmps24
  go_wp2_with fail
  go_loopw [3, 4] (fun sv iv wr => ∃ (k m : Nat) (its : List It) (sa : Option Addr) (sc : Nat), k ≤ n ∧ m ≤ 16 ∧ sv = .slice sa m sc ∧ iv = .int .i64 (k : Int) ∧ Hid (its = prI (l.take k) ∧ m = its.length) ∧ Hid (wr.ownsRow w.heap.size 59 33 (.slice sa m sc) m (flatP its)) ∧ Hid (Below w.heap.size w wr)) (fun _ iv _ => n - (intOf iv).toNat)
  case atStart => exact ⟨0, 0, [], none, 0, by omega, by omega, rfl, rfl, ⟨by rw [List.take_zero]; rfl, rfl⟩, World.ownsRow_nil _ _ _ _, Below.refl _ _⟩
  case round =>
    obtain ⟨k, m, its, sa, sc, hk, hm16, rfl, rfl, HIT, HO, HB⟩ := hrel
    obtain ⟨wo, rfl⟩ : ∃ x, x = wr := ⟨_, rfl⟩
    by_cases hlt : k < n
    · obtain ⟨lb, off, rfl, hkl, hone, hrg⟩ := HAT.out k hlt
      have hst := HST.out k hlt
      rw [← HIT.out.1] at hst
      have HST1 := hidden hst
      have HRG := hidden hrg
      have HONE := hidden hone
      have HKI : Hid (∀ q ∈ its, q.1.1.length = 32) := by rw [HIT.out.1]; exact HKS.out k
      have HKN := hidden (HKS.out (k + 1))
      have HMK : Hid (m ≤ k) := by have := HML.out k; rw [← HIT.out.1, ← HIT.out.2] at this; exact this
      obtain ⟨E, hE⟩ : ∃ E, E = es.getD k e00 := ⟨_, rfl⟩
      rw [← hE] at HST1 HRG hkl
      obtain ⟨K, bs⟩ := E
      have HRGK : Hid (∀ w', Below w.heap.size w w' → w'.rangeAt lb (off + k * 33) (encP K (V k))) := HRG.out
      have HKL : Hid (K.length = 32) := hkl
      have HPLK := hidden (pth_ln K hkl)
      generalize V k = U at HST1 HRGK HONE
      have HMI := hidden HIT.out.2
      have k0 : (0 : Int) ≤ (k : Int) := by omega
      have k1 : (k : Int) < (n : Int) := by omega
      have hk16 : k < 16 := by omega
      have hwk : wrap64 ((k : Int) + 1) = ((k + 1 : Nat) : Int) := by rw [Go.IntWalk.wrap64_in _ (by omega)]; rfl
      clear HRG hrg hone hst hE hkl hk HPost
      replace HRG := HRGK
      clear HRGK
      go_wp2_with fail
      go_loopw [5, 6] (fun av jv wi => ∃ (j : Nat) (az : Int), j ≤ m ∧ av = .int .i64 az ∧ jv = .int .i64 (j : Int) ∧ Hid (az = atZ (atI its K j)) ∧ Hid (Below wo.heap.size wo wi)) (fun _ jv _ => m - (intOf jv).toNat)
      case atStart => exact ⟨0, -1, by omega, rfl, rfl, rfl, Below.refl _ _⟩
      case round =>
        obtain ⟨j, az, hj, rfl, rfl, HAZ, HBI0⟩ := hrel
        have HBI := hidden (grow_trans HB.out HBI0.out)
        by_cases hjm : j < m
        · obtain ⟨gb, sc', es1, _⟩ := lst_pos (owR_lst HO.out) (by omega)
          injection es1 with e1 e2 e3
          subst e1
          subst e3
          clear e2
          obtain ⟨hrj, _⟩ := own_range (owR_grow HO.out HBI0.out) HMI.out.symm HKI.out hjm
          have hmem : its.getD j (e00, undef) ∈ its := by
            rw [List.getD_eq_getElem?_getD, List.getElem?_eq_getElem (by rw [← HMI.out]; exact hjm)]
            exact List.getElem_mem _
          have hkj := HKI.out _ hmem
          have HNX : Hid (atI its K (j + 1) = if (its.getD j (e00, undef)).1.1 = K then some j else atI its K j) := rfl
          generalize its.getD j (e00, undef) = Q at hrj hkj HNX
          obtain ⟨⟨Kj, bj⟩, Uj⟩ := Q
          have HJ : Hid (wr.rangeAt gb (j * 33) (encP Kj Uj)) := hrj
          have HPLJ := hidden (pth_ln Kj hkj)
          have hEq := path_eq Kj K hkj HKL.out
          have HNX2 : Hid (atI its K (j + 1) = if Kj = K then some j else atI its K j) := HNX.out
          have j0 : (0 : Int) ≤ (j : Int) := by omega
          have j1 : (j : Int) < (m : Int) := by omega
          have hj16 : j < 16 := by omega
          have hwj : wrap64 ((j : Int) + 1) = ((j + 1 : Nat) : Int) := by rw [Go.IntWalk.wrap64_in _ (by omega)]; rfl
          clear hrj hkj HNX hmem hj
          by_cases hq : Kj = K
          · simp only [hq, decide_true] at hEq
            have HAN : Hid (((j : Nat) : Int) = atZ (atI its K (j + 1))) := by show _ = _; rw [HNX2.out, if_pos hq]; rfl
            rw [hq] at HJ HPLJ
            clear HNX2 hq HAZ
            go_wp2_with fail
            refine wp_region_held_drew (S := fun w' => w'.rangeAt gb (j * 33) (encP K Uj) ∧ w'.rangeAt lb (off + k * 33) (encP K U)) (by kernel_rfl) (⟨rng_grow HJ.out (below_drewN (Below.refl _ _) 1), HRG.out _ (below_drewN HBI.out 1)⟩) (fun hHeld => ?_)
            refine wpAnyH_take (i := 0) (v := .slice (some ⟨gb, 0, none⟩) m sc) rfl (by kernel_rfl) (by kernel_rfl) (by kernel_rfl) (fun _ _ _ h => h) (Or.inl ⟨by rfl, fun w hS => by go_simp⟩) hHeld ?_
            simp only [Act.put, List.getElem_toArray, List.getElem_cons_zero, List.setIfInBounds_toArray, List.set_cons_zero, List.set_cons_succ]
            refine wpAnyH_take (i := 1) (v := .int .i64 (j : Int)) rfl (by kernel_rfl) (by kernel_rfl) (by kernel_rfl) (fun _ _ _ h => h) (Or.inl ⟨by rfl, fun w hS => by go_simp⟩) hHeld ?_
            simp only [Act.put, List.getElem_toArray, List.getElem_cons_zero, List.getElem_cons_succ, List.setIfInBounds_toArray, List.set_cons_zero, List.set_cons_succ]
            refine wpAnyH_take (i := 2) (v := .pointer (some ⟨gb, j * 33, none⟩)) rfl (by kernel_rfl) (by kernel_rfl) (by kernel_rfl) (fun _ _ _ h => h) (Or.inl ⟨by rfl, fun w hS => by go_simp⟩) hHeld ?_
            simp only [Act.put, List.getElem_toArray, List.getElem_cons_zero, List.getElem_cons_succ, List.setIfInBounds_toArray, List.set_cons_zero, List.set_cons_succ]
            refine wpAnyH_take (i := 3) (v := .pointer (some ⟨gb, j * 33, none⟩)) rfl (by kernel_rfl) (by kernel_rfl) (by kernel_rfl) (fun _ _ _ h => h) (Or.inl ⟨by rfl, fun w hS => by go_simp⟩) hHeld ?_
            simp only [Act.put, List.getElem_toArray, List.getElem_cons_zero, List.getElem_cons_succ, List.setIfInBounds_toArray, List.set_cons_zero, List.set_cons_succ]
            refine wpAnyH_take (i := 4) (v := .agg (B K)) rfl (by kernel_rfl) (by kernel_rfl) (by kernel_rfl) (fun _ _ _ h => h) (yieldsIf_load_mid rfl 31 (.tmp 22) rfl gb (j * 33) rfl (B K).toList _ (fun w hS => rng_key hS.1) Tryz.underlying31 rfl HPLJ.out) hHeld ?_
            simp only [Act.put, List.getElem_toArray, List.getElem_cons_zero, List.getElem_cons_succ, List.setIfInBounds_toArray, List.set_cons_zero, List.set_cons_succ]
            refine wpAnyH_take (i := 5) (v := .slice (some ⟨lb, off, none⟩) n cap) rfl (by kernel_rfl) (by kernel_rfl) (by kernel_rfl) (fun _ _ _ h => h) (Or.inl ⟨by rfl, fun w hS => by go_simp⟩) hHeld ?_
            simp only [Act.put, List.getElem_toArray, List.getElem_cons_zero, List.getElem_cons_succ, List.setIfInBounds_toArray, List.set_cons_zero, List.set_cons_succ]
            refine wpAnyH_take (i := 6) (v := .int .i64 (k : Int)) rfl (by kernel_rfl) (by kernel_rfl) (by kernel_rfl) (fun _ _ _ h => h) (Or.inl ⟨by rfl, fun w hS => by go_simp⟩) hHeld ?_
            simp only [Act.put, List.getElem_toArray, List.getElem_cons_zero, List.getElem_cons_succ, List.setIfInBounds_toArray, List.set_cons_zero, List.set_cons_succ]
            refine wpAnyH_take (i := 7) (v := .pointer (some ⟨lb, off + k * 33, none⟩)) rfl (by kernel_rfl) (by kernel_rfl) (by kernel_rfl) (fun _ _ _ h => h) (Or.inl ⟨by rfl, fun w hS => by go_simp⟩) hHeld ?_
            simp only [Act.put, List.getElem_toArray, List.getElem_cons_zero, List.getElem_cons_succ, List.setIfInBounds_toArray, List.set_cons_zero, List.set_cons_succ]
            refine wpAnyH_take (i := 8) (v := .pointer (some ⟨lb, off + k * 33, none⟩)) rfl (by kernel_rfl) (by kernel_rfl) (by kernel_rfl) (fun _ _ _ h => h) (Or.inl ⟨by rfl, fun w hS => by go_simp⟩) hHeld ?_
            simp only [Act.put, List.getElem_toArray, List.getElem_cons_zero, List.getElem_cons_succ, List.setIfInBounds_toArray, List.set_cons_zero, List.set_cons_succ]
            refine wpAnyH_take (i := 9) (v := .agg (B K)) rfl (by kernel_rfl) (by kernel_rfl) (by kernel_rfl) (fun _ _ _ h => h) (yieldsIf_load_mid rfl 31 (.tmp 27) rfl lb (off + k * 33) rfl (B K).toList _ (fun w hS => rng_key hS.2) Tryz.underlying31 rfl HPLK.out) hHeld ?_
            simp only [Act.put, List.getElem_toArray, List.getElem_cons_zero, List.getElem_cons_succ, List.setIfInBounds_toArray, List.set_cons_zero, List.set_cons_succ]
            refine wpAnyH_take (i := 10) (v := .bool true) rfl (by kernel_rfl) (by kernel_rfl) (by kernel_rfl) (fun _ _ _ h => h) (Or.inl ⟨by rfl, fun w hS => by go_simp⟩) hHeld ?_
            simp only [Act.put, List.getElem_toArray, List.getElem_cons_zero, List.getElem_cons_succ, List.setIfInBounds_toArray, List.set_cons_zero, List.set_cons_succ]
            refine wpAnyH_done (by kernel_rfl) ?_ _
            have HBE := hidden (grow_trans HBI0.out (below_drewN (Below.refl wr.heap.size wr) 1))
            clear hHeld
            go_wp2_with fail
            exact ⟨⟨j + 1, (j : Int), by omega, rfl, by go_num, HAN.out, HBE.out⟩, by simp [intOf]; exact mea_step j1⟩
          · simp only [hq, decide_false] at hEq
            have HAN : Hid (az = atZ (atI its K (j + 1))) := by show _ = _; rw [HNX2.out, if_neg hq]; exact HAZ.out
            clear HNX2 hq HAZ
            go_wp2_with fail
            refine wp_region_held_drew (S := fun w' => w'.rangeAt gb (j * 33) (encP Kj Uj) ∧ w'.rangeAt lb (off + k * 33) (encP K U)) (by kernel_rfl) (⟨rng_grow HJ.out (below_drewN (Below.refl _ _) 1), HRG.out _ (below_drewN HBI.out 1)⟩) (fun hHeld => ?_)
            refine wpAnyH_take (i := 0) (v := .slice (some ⟨gb, 0, none⟩) m sc) rfl (by kernel_rfl) (by kernel_rfl) (by kernel_rfl) (fun _ _ _ h => h) (Or.inl ⟨by rfl, fun w hS => by go_simp⟩) hHeld ?_
            simp only [Act.put, List.getElem_toArray, List.getElem_cons_zero, List.setIfInBounds_toArray, List.set_cons_zero, List.set_cons_succ]
            refine wpAnyH_take (i := 1) (v := .int .i64 (j : Int)) rfl (by kernel_rfl) (by kernel_rfl) (by kernel_rfl) (fun _ _ _ h => h) (Or.inl ⟨by rfl, fun w hS => by go_simp⟩) hHeld ?_
            simp only [Act.put, List.getElem_toArray, List.getElem_cons_zero, List.getElem_cons_succ, List.setIfInBounds_toArray, List.set_cons_zero, List.set_cons_succ]
            refine wpAnyH_take (i := 2) (v := .pointer (some ⟨gb, j * 33, none⟩)) rfl (by kernel_rfl) (by kernel_rfl) (by kernel_rfl) (fun _ _ _ h => h) (Or.inl ⟨by rfl, fun w hS => by go_simp⟩) hHeld ?_
            simp only [Act.put, List.getElem_toArray, List.getElem_cons_zero, List.getElem_cons_succ, List.setIfInBounds_toArray, List.set_cons_zero, List.set_cons_succ]
            refine wpAnyH_take (i := 3) (v := .pointer (some ⟨gb, j * 33, none⟩)) rfl (by kernel_rfl) (by kernel_rfl) (by kernel_rfl) (fun _ _ _ h => h) (Or.inl ⟨by rfl, fun w hS => by go_simp⟩) hHeld ?_
            simp only [Act.put, List.getElem_toArray, List.getElem_cons_zero, List.getElem_cons_succ, List.setIfInBounds_toArray, List.set_cons_zero, List.set_cons_succ]
            refine wpAnyH_take (i := 4) (v := .agg (B Kj)) rfl (by kernel_rfl) (by kernel_rfl) (by kernel_rfl) (fun _ _ _ h => h) (yieldsIf_load_mid rfl 31 (.tmp 22) rfl gb (j * 33) rfl (B Kj).toList _ (fun w hS => rng_key hS.1) Tryz.underlying31 rfl HPLJ.out) hHeld ?_
            simp only [Act.put, List.getElem_toArray, List.getElem_cons_zero, List.getElem_cons_succ, List.setIfInBounds_toArray, List.set_cons_zero, List.set_cons_succ]
            refine wpAnyH_take (i := 5) (v := .slice (some ⟨lb, off, none⟩) n cap) rfl (by kernel_rfl) (by kernel_rfl) (by kernel_rfl) (fun _ _ _ h => h) (Or.inl ⟨by rfl, fun w hS => by go_simp⟩) hHeld ?_
            simp only [Act.put, List.getElem_toArray, List.getElem_cons_zero, List.getElem_cons_succ, List.setIfInBounds_toArray, List.set_cons_zero, List.set_cons_succ]
            refine wpAnyH_take (i := 6) (v := .int .i64 (k : Int)) rfl (by kernel_rfl) (by kernel_rfl) (by kernel_rfl) (fun _ _ _ h => h) (Or.inl ⟨by rfl, fun w hS => by go_simp⟩) hHeld ?_
            simp only [Act.put, List.getElem_toArray, List.getElem_cons_zero, List.getElem_cons_succ, List.setIfInBounds_toArray, List.set_cons_zero, List.set_cons_succ]
            refine wpAnyH_take (i := 7) (v := .pointer (some ⟨lb, off + k * 33, none⟩)) rfl (by kernel_rfl) (by kernel_rfl) (by kernel_rfl) (fun _ _ _ h => h) (Or.inl ⟨by rfl, fun w hS => by go_simp⟩) hHeld ?_
            simp only [Act.put, List.getElem_toArray, List.getElem_cons_zero, List.getElem_cons_succ, List.setIfInBounds_toArray, List.set_cons_zero, List.set_cons_succ]
            refine wpAnyH_take (i := 8) (v := .pointer (some ⟨lb, off + k * 33, none⟩)) rfl (by kernel_rfl) (by kernel_rfl) (by kernel_rfl) (fun _ _ _ h => h) (Or.inl ⟨by rfl, fun w hS => by go_simp⟩) hHeld ?_
            simp only [Act.put, List.getElem_toArray, List.getElem_cons_zero, List.getElem_cons_succ, List.setIfInBounds_toArray, List.set_cons_zero, List.set_cons_succ]
            refine wpAnyH_take (i := 9) (v := .agg (B K)) rfl (by kernel_rfl) (by kernel_rfl) (by kernel_rfl) (fun _ _ _ h => h) (yieldsIf_load_mid rfl 31 (.tmp 27) rfl lb (off + k * 33) rfl (B K).toList _ (fun w hS => rng_key hS.2) Tryz.underlying31 rfl HPLK.out) hHeld ?_
            simp only [Act.put, List.getElem_toArray, List.getElem_cons_zero, List.getElem_cons_succ, List.setIfInBounds_toArray, List.set_cons_zero, List.set_cons_succ]
            refine wpAnyH_take (i := 10) (v := .bool false) rfl (by kernel_rfl) (by kernel_rfl) (by kernel_rfl) (fun _ _ _ h => h) (Or.inl ⟨by rfl, fun w hS => by go_simp⟩) hHeld ?_
            simp only [Act.put, List.getElem_toArray, List.getElem_cons_zero, List.getElem_cons_succ, List.setIfInBounds_toArray, List.set_cons_zero, List.set_cons_succ]
            refine wpAnyH_done (by kernel_rfl) ?_ _
            have HBE := hidden (grow_trans HBI0.out (below_drewN (Below.refl wr.heap.size wr) 1))
            clear hHeld
            go_wp2_with fail
            exact ⟨⟨j + 1, az, by omega, rfl, by go_num, HAN.out, HBE.out⟩, by simp [intOf]; exact mea_step j1⟩
        · obtain rfl : j = m := by omega
          have nlt : ¬ (j : Int) < (j : Int) := by omega
          have HOI := hidden (owR_grow HO.out HBI0.out)
          have HUP : Hid (upI its (((K, bs), U) : It) = match atI its K j with | none => its ++ [((K, bs), U)] | some q => its.set q ((K, bs), U)) := by
            show _ = _
            unfold upI
            rw [← HMI.out]
          cases hat : atI its K j with
          | none =>
            have haz : az = -1 := by rw [HAZ.out, hat]; rfl
            subst haz
            rw [hat] at HUP
            have HNEW : Hid (flatP (upI its (((K, bs), U) : It)) = flatP its ++ encP K U ∧ (upI its (((K, bs), U) : It)).length = j + 1) := by
              rw [HUP.out]
              exact ⟨flatP_snoc _ _, by rw [List.length_append, ← HMI.out]; rfl⟩
            rw [← HST1.out] at HNEW
            have HOA := hidden (ownsP_below HOI.out (grow_alloc wr (.cells (encP K U).toArray 59)))
            clear HAZ hat HUP
            go_wp2_with (first
              | ((with_reducible refine at_ldd 37 36 ?_); refine wpList_ldp _ rfl _ rfl lb (off + k * 33) K U rfl (HRG.out _ HBI.out) HKL.out ?_)
              | ((with_reducible refine at_bsd 38 ?_); refine wpList_bsp _ rfl _ rfl K U rfl HKL.out ?_)
              | (at_builtin; refine wpList_appP _ rfl _ _ rfl w.heap.size _ j (flatP its) HOA.out rfl wr.heap.size K U rfl (Blk.new _ _ _) HKL.out HONE.out (by omega) (Nat.le_trans HBI.out.size (by simp)) ?_; intro v5 w5 o5 g5; have HO5 := hidden o5; have HB5 := hidden (owR_below (grow_trans HBI.out (grow_alloc wr (.cells (encP K U).toArray 59))) HOA.out (Nat.le_refl _) g5); clear o5 g5; obtain ⟨a5, c5, hv5⟩ := lst_slice (owR_lst HO5.out); subst hv5))
            have ho5 := HO5.out
            rw [← HNEW.out.1] at ho5
            exact ⟨⟨k + 1, j + 1, prI (l.take (k + 1)), a5, c5, by omega, by have := HMK.out; omega, rfl, by go_num, ⟨rfl, HNEW.out.2.symm⟩, ho5, HB5.out⟩, by simp [intOf]; exact mea_step k1⟩
          | some q =>
            obtain ⟨hq1, hq2⟩ := atI_some hat
            have haz : az = (q : Int) := by rw [HAZ.out, hat]; rfl
            subst haz
            rw [hat] at HUP
            obtain ⟨gb, sc', es1, _⟩ := lst_pos (owR_lst HO.out) (by omega)
            injection es1 with e1 e2 e3
            subst e1
            subst e3
            clear e2
            obtain ⟨_, hth⟩ := own_range HOI.out HMI.out.symm HKI.out hq1
            have HTH : Hid (wr.there gb (q * 33) (encP K U).toArray.size) := by rw [List.size_toArray, encP_length K U HKL.out]; exact hth
            have HSZ := hidden (sz_pair9 K U HKL.out)
            have HSET := hidden (own_set HOI.out HMI.out.symm HKI.out hq1 (((K, bs), U) : It) HKL.out)
            have HNEW : Hid (upI its (((K, bs), U) : It) = its.set q ((K, bs), U) ∧ (upI its (((K, bs), U) : It)).length = j) := by
              rw [HUP.out]
              exact ⟨rfl, by rw [List.length_set, ← HMI.out]⟩
            rw [← HST1.out] at HNEW
            have HGB : Hid (w.heap.size ≤ gb) := (HOI.out.lt gb rfl).1
            have HBS : Hid (Below w.heap.size w (wr.setCells gb (q * 33) (encP K U))) := HBI.out.trans ((mod_setCells gb (S := [gb]) (by simp) (encP K U) (q * 33) wr).below (fun x hx => by rw [List.mem_singleton.1 hx]; exact HGB.out) HBI.out.size)
            have q0 : (0 : Int) ≤ (q : Int) := by omega
            have q1 : (q : Int) < (j : Int) := by omega
            have q2 : ¬ (q : Int) < 0 := by omega
            clear HAZ hat HUP hq2 hth
            go_wp2_with (first
              | ((with_reducible refine at_ldd 45 44 ?_); refine wpList_ldp _ rfl _ rfl lb (off + k * 33) K U rfl (HRG.out _ HBI.out) HKL.out ?_)
              | ((with_reducible refine at_st 46 ?_); refine wpList_st9 _ rfl _ _ _ rfl gb (q * 33) (encP K U).toArray rfl rfl HTH.out HSZ.out (encP_one9 K U HONE.out) ?_; have HS9 := hidden (And.intro HSET.out HBS.out); clear HSET HBS; rw [show (encP K U).toArray.toList = encP K U from rfl]; generalize wr.setCells gb (q * 33) (encP K U) = w9 at *))
            have ho9 := HS9.out.1
            rw [← HNEW.out.1] at ho9
            exact ⟨⟨k + 1, j, prI (l.take (k + 1)), some ⟨gb, 0, none⟩, sc, by omega, by omega, rfl, by go_num, ⟨rfl, HNEW.out.2.symm⟩, ho9, HS9.out.2⟩, by simp [intOf]; exact mea_step k1⟩
    · obtain rfl : k = n := by omega
      have nlt : ¬ (k : Int) < (k : Int) := by omega
      have e1 := HIT.out.1
      rw [HTA.out] at e1
      have HF : Hid (P (.returned (.slice sa m sc)) wo) := HPost.out sa m sc wo (by rw [← e1]; exact HIT.out.2) (by rw [← e1]; exact HO.out) HB.out
      go_wp2_with fail
      exact HF.out

end Go.Proofs.YtlinalcjdpikeaaGreatDoor
