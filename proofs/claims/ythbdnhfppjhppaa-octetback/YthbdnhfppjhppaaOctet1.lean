/- octet's Reader as an object: bytes.Clone, New, Byte, U16, U32, Take, Left, Bad and Done over a reader that New made, over one that it did not make, and over nil. -/
import Derived.Test.YthbdnhfppjhppaaMem
import Derived.Test.YthbdnhfppjhppaaReader
namespace Go.Proofs.Ythbdnhfppjhppaa
open Go.RowKit

attribute [local go_sem] eql_bytes_nil

theorem clone_nil (w : World) : Calls Try.prog 40 #[.slice none 0 0] w fun e w' => e = .returned (.slice none 0 0) ∧ w' = w := by
  go_enter Try.func40, Try.ntmps40
  go_wp2
  go_ret
  exact ⟨rfl, rfl⟩

set_option maxHeartbeats 400000 in
theorem clone_some (x : Addr) (n c : Nat) (zs : List Int) (w : World) (h : Reads w (.slice (some x) n c) zs) (hl : zs.length ≤ 140737488355328) :
    Calls Try.prog 40 #[.slice (some x) n c] w fun e w' => ∃ v sp, e = .returned v ∧ Own w.heap.size w' v zs sp ∧ Below w.heap.size w w' ∧ v ≠ .slice none 0 0 := by
  have HR : Hid (Reads w (.slice (some x) n c) zs) := h
  clear h
  go_enter Try.func40, Try.ntmps40
  go_wp2_with (at_builtin; refine wpList_app _ rfl _ _ rfl w.heap.size _ _ [] [] zs (Own.empty _ _ (Nat.le_refl _)) (HR.out.grow ((Below.refl _ _).alloc (Nat.le_refl _) _)) rfl rfl (by simpa using hl) (by simp) ?_; intro v' w' sp' h1 h2 h3 h4)
  go_ret
  refine ⟨v', sp', rfl, by simpa using h1, ?_, ?_⟩
  · exact ((Below.refl _ _).alloc (Nat.le_refl _) _).grown h2 (by simp) (by intro k hk; simp [Value.ownBlock] at hk; omega)
  · intro e
    have := (h4.1 e).1
    simp at this

theorem clone_any (v : Value) (zs : List Int) (w : World) (h : Reads w v zs) (hl : zs.length ≤ 140737488355328) :
    Calls Try.prog 40 #[v] w fun e w' => ∃ a c sp, e = .returned (.slice a zs.length c) ∧ Own w.heap.size w' (.slice a zs.length c) zs sp ∧ Below w.heap.size w w' := by
  have h' := h
  obtain ⟨a, cap, rfl, h1, h2, h3, h4⟩ := h'
  cases a with
  | none =>
    have h0 : zs = [] := by
      by_cases hz : zs = []
      · exact hz
      · obtain ⟨b, off, e, _⟩ := h4 (List.length_pos_iff.2 hz)
        cases e
    subst h0
    obtain rfl := h2 rfl
    refine (clone_nil w).mono ?_
    rintro e w' ⟨rfl, rfl⟩
    exact ⟨_, _, [], rfl, Own.nil _ _, Below.refl _ _⟩
  | some x =>
    refine (clone_some x _ cap zs w h hl).mono ?_
    rintro e w' ⟨u, sp, rfl, h5, h6, _⟩
    obtain ⟨a, c, rfl⟩ := h5.slice
    exact ⟨a, c, sp, rfl, h5, h6⟩

/-- A reader that New made, at block b: what is left reads as zs. -/
def Rd (w : World) (b : Nat) (o : Option Nat) (zs : List Int) (bad : Bool) : Prop :=
  ∃ v, w.heap[b]? = some (.cells #[v, .bool true, .bool bad] 63 (0, 0)) ∧ Reads w v zs ∧ zs.length ≤ 140737488355328 ∧ v.ownBlock = o ∧ o ≠ some b

theorem Rd.lt {w : World} {b : Nat} {o : Option Nat} {zs : List Int} {bad : Bool} (h : Rd w b o zs bad) : b < w.heap.size := by
  obtain ⟨v, h, _⟩ := h
  exact (Array.getElem?_eq_some_iff.1 h).1

theorem Rd.grow {w w' : World} {b : Nat} {o : Option Nat} {zs : List Int} {bad : Bool} (h : Rd w b o zs bad) (hb : Below w.heap.size w w') : Rd w' b o zs bad := by
  have hlt := h.lt
  obtain ⟨v, h, h1, h2, h3⟩ := h
  exact ⟨v, by rw [hb.block b hlt]; exact h, h1.grow hb, h2, h3⟩

theorem Reads.kept {w w' : World} {v : Value} {zs : List Int} {row : Option Nat} (h : Reads w v zs) (hg : w.grownBy w' row) (hr : row = none ∨ v.ownBlock ≠ row) : Reads w' v zs := by
  obtain ⟨a, cap, rfl, h1, h2, h3, h4⟩ := h
  refine ⟨a, cap, rfl, h1, h2, h3, fun hp => ?_⟩
  obtain ⟨b, off, rfl, hc⟩ := h4 hp
  refine ⟨b, off, rfl, fun i hi => ?_⟩
  refine hg.cell (hc i hi) ?_
  rcases hr with rfl | hr
  · simp
  · exact hr

/-- What another call does elsewhere leaves a reader as it was. -/
theorem Rd.kept {w w' : World} {b : Nat} {o : Option Nat} {zs : List Int} {bad : Bool} {row : Option Nat} (h : Rd w b o zs bad) (hg : w.grownBy w' row) (hb : some b ≠ row) (ho : row = none ∨ o ≠ row) : Rd w' b o zs bad := by
  have hlt := h.lt
  obtain ⟨v, h, h1, h2, rfl, h4⟩ := h
  exact ⟨v, by rw [hg.block b hlt hb]; exact h, h1.kept hg ho, h2, rfl, h4⟩

set_option maxHeartbeats 400000 in
theorem new_any (v : Value) (zs : List Int) (w : World) (h : Reads w v zs) (hl : zs.length ≤ 140737488355328) :
    Calls Try.prog 23 #[v] w fun e w' => ∃ b o, e = .returned (.pointer (some ⟨b, 0, none⟩)) ∧ w.heap.size ≤ b ∧ (∀ k, o = some k → w.heap.size ≤ k ∧ k < w'.heap.size) ∧ Rd w' b o zs false ∧ Below w.heap.size w w' := by
  have HR : Hid (Reads w v zs) := h
  clear h
  go_enter Try.func23, Try.ntmps23
  go_wp2_with (go_at_call 40; refine (clone_any _ zs _ HR.out hl).mono ?_; rintro e w1 ⟨a, c, sp, rfl, h5, h6⟩)
  go_ret
  refine ⟨w1.heap.size, _, rfl, h6.size, fun k hk => ⟨(h5.lt k hk).1, by have := (h5.lt k hk).2; simp; omega⟩, ⟨_, heap_alloc_new _ _, h5.reads.grow ((Below.refl _ _).alloc (Nat.le_refl _) _), hl, rfl, ?_⟩, h6.alloc h6.size _⟩
  intro hk
  have := (h5.lt _ hk).2
  omega

/-- Of a reader the three cells. -/
theorem Rd.cells {w : World} {b : Nat} {o : Option Nat} {zs : List Int} {bad : Bool} (h : Rd w b o zs bad) : ∃ a c, w.heap[b]? = some (.cells #[.slice a zs.length c, .bool true, .bool bad] 63 (0, 0)) ∧ Reads w (.slice a zs.length c) zs ∧
    w.cell? ⟨b, 0, none⟩ = some (.slice a zs.length c) ∧ w.cell? ⟨b, 0 + 1, none⟩ = some (.bool true) ∧ w.cell? ⟨b, 0 + 2, none⟩ = some (.bool bad) ∧ (∀ o, w.frozen? ⟨b, o, none⟩ = false) ∧ zs.length ≤ c ∧ zs.length ≤ 140737488355328 ∧ (∀ x, a = some x → x.block ≠ b) ∧ (Value.slice a zs.length c).ownBlock = o := by
  obtain ⟨v, h1, h2, h3, h4, h9⟩ := h
  have h2' := h2
  obtain ⟨a, c, rfl, h5, h6, h7, h8⟩ := h2'
  refine ⟨a, c, h1, h2, ?_, ?_, ?_, fun o => frozen_of_row w b o _ _ h1, h5, h3, ?_, h4⟩
  · rw [cell_of_row w b 0 _ _ _ h1]; rfl
  · rw [cell_of_row w b _ _ _ _ h1]; rfl
  · rw [cell_of_row w b _ _ _ _ h1]; rfl
  · intro x hx e
    subst hx
    exact h9 (by rw [← h4, ← e]; rfl)

/-- Of a slice cut from the front: what is left. -/
theorem Reads.cutoff {w : World} {a : Option Addr} {c : Nat} {zs : List Int} (h : Reads w (.slice a zs.length c) zs) (n : Nat) (hn : n ≤ zs.length) : Reads w (.slice (moved a c n) (zs.length - n) (c - n)) (zs.drop n) := by
  obtain ⟨a', c', e, h1, h2, h3, h4⟩ := h
  injection e with e1 e2 e3
  subst e1; subst e3
  refine ⟨moved a c n, c - n, by simp, by simp; omega, ?_, h3.drop n, ?_⟩
  · intro hm
    unfold moved at hm
    split at hm
    · omega
    · cases a with
      | none => have := h2 rfl; omega
      | some x => simp at hm
  · intro hp
    simp at hp
    obtain ⟨b, off, rfl, hc⟩ := h4 (by omega)
    refine ⟨b, off + n, by simp [moved, show c ≠ n by omega, Addr.add_lit], fun i hi => ?_⟩
    simp at hi
    rw [Nat.add_assoc, hc (n + i) (by omega)]
    simp [List.getD]

/-- And what was cut. -/
theorem Reads.cutfront {w : World} {a : Option Addr} {c : Nat} {zs : List Int} (h : Reads w (.slice a zs.length c) zs) (n : Nat) (hn : n ≤ zs.length) : Reads w (.slice a n c) (zs.take n) := by
  obtain ⟨a', c', e, h1, h2, h3, h4⟩ := h
  injection e with e1 e2 e3
  subst e1; subst e3
  have hl : (zs.take n).length = n := by simp; omega
  refine ⟨a, c, by rw [hl], by omega, h2, h3.take n, ?_⟩
  intro hp
  obtain ⟨b, off, rfl, hc⟩ := h4 (by omega)
  refine ⟨b, off, rfl, fun i hi => ?_⟩
  rw [hc i (by omega)]
  rw [hl] at hi
  simp [List.getD, hi]

theorem Reads.set {w : World} {v : Value} {zs : List Int} (h : Reads w v zs) (b o : Nat) (u : Value) (hb : ∀ k, v.ownBlock = some k → k ≠ b) : Reads (w.setCell ⟨b, o, none⟩ u) v zs := by
  obtain ⟨a, cap, rfl, h1, h2, h3, h4⟩ := h
  refine ⟨a, cap, rfl, h1, h2, h3, fun hp => ?_⟩
  obtain ⟨g, off, rfl, hc⟩ := h4 hp
  refine ⟨g, off, rfl, fun i hi => ?_⟩
  rw [World.cell?_setCell_other _ _ _ _ (by intro e; exact hb g rfl (by injection e with e1; exact e1.symm))]
  exact hc i hi

theorem moved_own (a : Option Addr) (c n l l' c1 c2 : Nat) : (Value.slice (moved a c n) l' c2).ownBlock = (Value.slice a l c1).ownBlock := by
  cases a with
  | none => simp [moved, Value.ownBlock]
  | some x =>
    obtain ⟨xb, xo, xs⟩ := x
    have e : ((⟨xb, xo, xs⟩ : Addr).add n).block = xb := by unfold Addr.add; split <;> rfl
    unfold moved
    split
    · rfl
    · simp [Value.ownBlock, e]

/-- The reader behind a cut. -/
theorem Rd.cutoff {w : World} {b : Nat} {zs : List Int} {a : Option Addr} {c n : Nat} (h1 : w.heap[b]? = some (.cells #[.slice a zs.length c, .bool true, .bool false] 63 (0, 0))) (h2 : Reads w (.slice a zs.length c) zs)
    (h3 : zs.length ≤ 140737488355328) (h4 : ∀ x, a = some x → x.block ≠ b) (hn : n ≤ zs.length) : Rd (w.setCell ⟨b, 0, none⟩ (.slice (moved a c n) (zs.length - n) (c - n))) b (Value.slice a zs.length c).ownBlock (zs.drop n) false := by
  have hm := moved_own a c n zs.length (zs.length - n) c (c - n)
  have ho : (Value.slice a zs.length c).ownBlock ≠ some b := by
    intro e
    cases a with
    | none => simp [Value.ownBlock] at e
    | some x => simp [Value.ownBlock] at e; exact h4 x rfl e
  have hb : ∀ k, (Value.slice (moved a c n) (zs.length - n) (c - n)).ownBlock = some k → k ≠ b := by
    intro k hk e
    rw [hm] at hk
    exact ho (by rw [hk, e])
  refine ⟨_, ?_, (h2.cutoff n hn).set b 0 _ hb, by simp; omega, hm, ho⟩
  rw [heap_setCell_same w b 0 _ _ _ h1]
  rfl

theorem Rd.turned {w : World} {b : Nat} {zs : List Int} {a : Option Addr} {c : Nat} (h1 : w.heap[b]? = some (.cells #[.slice a zs.length c, .bool true, .bool false] 63 (0, 0))) (h2 : Reads w (.slice a zs.length c) zs)
    (h3 : zs.length ≤ 140737488355328) (h4 : ∀ x, a = some x → x.block ≠ b) : Rd (w.setCell ⟨b, 0 + 2, none⟩ (.bool true)) b (Value.slice a zs.length c).ownBlock zs true := by
  have hb : ∀ k, (Value.slice a zs.length c).ownBlock = some k → k ≠ b := by
    intro k hk
    cases a with
    | none => simp [Value.ownBlock] at hk
    | some x => simp [Value.ownBlock] at hk; subst hk; exact h4 x rfl
  refine ⟨_, ?_, h2.set b _ _ hb, h3, rfl, fun e => hb b e rfl⟩
  rw [heap_setCell_same w b _ _ _ _ h1]
  rfl

/-! ### cut -/
theorem rd_cut_ok (b : Nat) (zs : List Int) (n : Nat) (w : World) (o : Option Nat) (h : Rd w b o zs false) (hn : n ≤ zs.length) :
    Calls Try.prog 44 #[.pointer (some ⟨b, 0, none⟩), .int .i64 n] w fun e w' => ∃ a c, e = .returned (.slice a n c) ∧ Reads w' (.slice a n c) (zs.take n) ∧ Rd w' b o (zs.drop n) false ∧ w.grownBy w' (some b) ∧ w'.heap.size = w.heap.size := by
  obtain ⟨a, c, h1, h2, c0, c1, c2, hf, hlc, hl, hx, rfl⟩ := h.cells
  refine (cut_ok b 0 a zs.length c n w c0 c1 c2 (hf 0) hn hlc).mono ?_
  rintro e w' ⟨rfl, rfl⟩
  refine ⟨a, c, rfl, (h2.cutfront n hn).set b 0 _ ?_, Rd.cutoff h1 h2 hl hx hn, grown_setCell _ _ _ _, by simp⟩
  intro k hk
  cases a with
  | none => simp [Value.ownBlock] at hk
  | some x => simp [Value.ownBlock] at hk; subst hk; exact hx x rfl

theorem rd_cut_bad (b : Nat) (zs : List Int) (n : Int) (w : World) (o : Option Nat) (h : Rd w b o zs false) (hn : n < 0 ∨ (zs.length : Int) < n) :
    Calls Try.prog 44 #[.pointer (some ⟨b, 0, none⟩), .int .i64 n] w fun e w' => e = .returned (.slice none 0 0) ∧ w' = w.setCell ⟨b, 0 + 2, none⟩ (.bool true) := by
  obtain ⟨a, c, h1, h2, c0, c1, c2, hf, hlc, hl, hx, rfl⟩ := h.cells
  exact cut_bad b 0 a zs.length c n w c0 c1 c2 (hf _) hn

theorem Rd.bad {w : World} {b : Nat} {o : Option Nat} {zs : List Int} (h : Rd w b o zs false) : Rd (w.setCell ⟨b, 0 + 2, none⟩ (.bool true)) b o zs true := by
  obtain ⟨a, c, h1, h2, c0, c1, c2, hf, hlc, hl, hx, rfl⟩ := h.cells
  exact Rd.turned h1 h2 hl hx

theorem rd_cut_not (b : Nat) (zs : List Int) (n : Int) (w : World) (o : Option Nat) (h : Rd w b o zs true) :
    Calls Try.prog 44 #[.pointer (some ⟨b, 0, none⟩), .int .i64 n] w fun e w' => e = .returned (.slice none 0 0) ∧ w' = w := by
  obtain ⟨a, c, h1, h2, c0, c1, c2, hf, hlc, hl, hx, rfl⟩ := h.cells
  exact cut_not b 0 true true n w c1 c2 rfl

/-! ### number -/
theorem rd_number_ok (b : Nat) (zs : List Int) (n : Nat) (w : World) (o : Option Nat) (h : Rd w b o zs false) (hn : n ≤ zs.length) (h0 : 0 < n) (h4 : n ≤ 4) :
    Calls Try.prog 45 #[.pointer (some ⟨b, 0, none⟩), .int .i64 n] w fun e w' => e = .returned (.int .i64 (numOf (zs.take n))) ∧ Rd w' b o (zs.drop n) false ∧ w.grownBy w' (some b) ∧ w'.heap.size = w.heap.size := by
  obtain ⟨a, c, h1, h2, c0, c1, c2, hf, hlc, hl, hx, rfl⟩ := h.cells
  have hr := (h2.cutfront n hn).set b 0 (.slice (moved a c n) (zs.length - n) (c - n)) (by
    intro k hk
    cases a with
    | none => simp [Value.ownBlock] at hk
    | some x => simp [Value.ownBlock] at hk; subst hk; exact hx x rfl)
  have hlen : (zs.take n).length = n := by simp; omega
  obtain ⟨a', c', e, _, _, hby, hcells⟩ := hr
  injection e with e1 e2 e3
  subst e1; subst e3
  obtain ⟨g, off, rfl, hc⟩ := hcells (by omega)
  refine (number_row _ g off c n (zs.take n) w _ hlen hby (fun i hi => hc i (by omega)) h4 (cut_ok b 0 _ zs.length c n w c0 c1 c2 (hf 0) hn hlc)).mono ?_
  rintro e w' ⟨rfl, rfl⟩
  exact ⟨rfl, Rd.cutoff h1 h2 hl hx hn, grown_setCell _ _ _ _, by simp⟩

theorem rd_number_bad (b : Nat) (zs : List Int) (n : Nat) (w : World) (o : Option Nat) (h : Rd w b o zs false) (hn : zs.length < n) :
    Calls Try.prog 45 #[.pointer (some ⟨b, 0, none⟩), .int .i64 n] w fun e w' => e = .returned (.int .i64 0) ∧ w' = w.setCell ⟨b, 0 + 2, none⟩ (.bool true) :=
  number_none _ n w _ (rd_cut_bad b zs n w o h (by omega))

theorem rd_number_not (b : Nat) (zs : List Int) (n : Nat) (w : World) (o : Option Nat) (h : Rd w b o zs true) :
    Calls Try.prog 45 #[.pointer (some ⟨b, 0, none⟩), .int .i64 n] w fun e w' => e = .returned (.int .i64 0) ∧ w' = w :=
  number_none _ n w _ (rd_cut_not b zs n w o h)

end Go.Proofs.Ythbdnhfppjhppaa
