/- One call of a reader beside the document's (rootcellarlaw01.asked): both stand alike before it and behind it, and it answers true. -/
import Derived.Test.YthbdnhfppjhppaaOctet2
import Derived.Test.YthbdnhfppjhppaaRefRd
import Derived.Test.YthbdnhfppjhppaaKit1
import Derived.Deep.RegionHeld
namespace Go.Proofs.Ythbdnhfppjhppaa
open Go.RowKit

/-- The reader at b1 and the document's at b2 stand alike. -/
def St (b1 : Nat) (o1 : Option Nat) (b2 : Nat) (o2 : Option Nat) (w : World) : Prop :=
  ∃ z1 zs bad, Rd w b1 o1 z1 bad ∧ Rm w b2 o2 zs bad ∧ (bad = false → z1 = zs) ∧ (bad = true → zs = []) ∧ b1 ≠ b2 ∧ o1 ≠ some b2 ∧ o2 ≠ some b1 ∧ ∀ k, (o1 = some k ∨ o2 = some k) → k < w.heap.size

theorem below_of_grown {w w' : World} {b B : Nat} (h : w.grownBy w' (some b)) (hB : B ≤ b) (hs : B ≤ w.heap.size) : Below B w w' :=
  (Below.refl _ _).grown h hs (fun k hk => by injection hk with hk; omega)

theorem St.grow {b1 b2 : Nat} {o1 o2 : Option Nat} {w w' : World} (h : St b1 o1 b2 o2 w) (hb : Below w.heap.size w w') : St b1 o1 b2 o2 w' := by
  obtain ⟨z1, zs, bad, h1, h2, h3, h4, h5, h6, h7, h8⟩ := h
  exact ⟨z1, zs, bad, h1.grow hb, h2.grow hb, h3, h4, h5, h6, h7, fun k hk => Nat.lt_of_lt_of_le (h8 k hk) hb.size⟩

/-- What follows a first call: the document's reader is asked for the number of n bytes, and says x. -/
def Next (n : Nat) (B : Nat) (b1 : Nat) (o1 : Option Nat) (b2 : Nat) (o2 : Option Nat) (x : Int) (w1 : World) : Prop :=
  Calls Try.prog 41 #[.pointer (some ⟨b2, 0, none⟩), .int .i64 n] w1 fun e w2 => e = .returned (.int .i64 x) ∧ St b1 o1 b2 o2 w2 ∧ Below B w1 w2

theorem number_st (n B b1 : Nat) (o1 : Option Nat) (b2 : Nat) (o2 : Option Nat) (w : World) (h : St b1 o1 b2 o2 w) (h0 : 0 < n) (h4 : n ≤ 4) (hB1 : B ≤ b1) (hB2 : B ≤ b2) (hs : B ≤ w.heap.size) :
    ∃ x, 0 ≤ x ∧ x < 256 ^ n ∧ Calls Try.prog 45 #[.pointer (some ⟨b1, 0, none⟩), .int .i64 n] w fun e w1 => e = .returned (.int .i64 x) ∧ Next n B b1 o1 b2 o2 x w1 ∧ Below B w w1 := by
  obtain ⟨z1, zs, bad, r1, r2, e1, e2, d1, d2, d3, d4⟩ := h
  cases bad with
  | true =>
    obtain rfl := e2 rfl
    refine ⟨0, by omega, Int.pow_pos (by omega), (rd_number_not b1 z1 n w o1 r1).mono ?_⟩
    rintro e w1 ⟨rfl, rfl⟩
    refine ⟨rfl, ?_, Below.refl _ _⟩
    refine (rnumber_bad _ n w1 (fun w2 => Rm w2 b2 o2 [] true ∧ w1.grownBy w2 (some b2)) (rm_take_bad b2 [] true n w1 o2 r2 (.inl rfl))).mono ?_
    rintro e w2 ⟨rfl, m2, g2⟩
    exact ⟨rfl, ⟨z1, [], true, r1.kept g2 (by simpa using d1) (.inr d2), m2, by simp, by simp, d1, d2, d3, fun k hk => Nat.lt_of_lt_of_le (d4 k hk) g2.size⟩, below_of_grown g2 hB2 hs⟩
  | false =>
    obtain rfl := e1 rfl
    by_cases hn : n ≤ z1.length
    · have hby : Bytes z1 := by
        obtain ⟨v, _, ⟨_, _, _, _, _, hb, _⟩, _⟩ := r1
        exact hb
      have hnum := numOf_bd n (z1.take n) (by simp; omega) (hby.take n)
      refine ⟨numOf (z1.take n), hnum.1, hnum.2, (rd_number_ok b1 z1 n w o1 r1 hn h0 h4).mono ?_⟩
      rintro e w1 ⟨rfl, r1', g1, s1⟩
      refine ⟨rfl, ?_, below_of_grown g1 hB1 hs⟩
      have m1 := r2.kept g1 (by simpa using fun e => d1 e.symm) (.inr d3)
      refine (rnumber_of _ n (z1.take n) w1 (fun w2 => Rm w2 b2 o2 (z1.drop n) false ∧ w1.grownBy w2 (some b2)) (by simp; omega) h4 ?_ h0).mono ?_
      · refine (rm_take_ok b2 z1 n w1 o2 m1 hn).mono ?_
        rintro e w2 ⟨a, c, rfl, hr, _, hm, hg⟩
        exact ⟨a, c, rfl, hr, hm, hg⟩
      · rintro e w2 ⟨rfl, m2, g2⟩
        exact ⟨rfl, ⟨z1.drop n, z1.drop n, false, r1'.kept g2 (by simpa using d1) (.inr d2), m2, by simp, by simp, d1, d2, d3, fun k hk => Nat.lt_of_lt_of_le (d4 k hk) (Nat.le_trans g1.size g2.size)⟩, below_of_grown g2 hB2 (by omega)⟩
    · refine ⟨0, by omega, Int.pow_pos (by omega), (rd_number_bad b1 z1 n w o1 r1 (by omega)).mono ?_⟩
      rintro e w1 ⟨rfl, rfl⟩
      have g1 := grown_setCell w b1 (0 + 2) (.bool true)
      have r1' := r1.bad
      have m1 := r2.kept g1 (by simpa using fun e => d1 e.symm) (.inr d3)
      refine ⟨rfl, ?_, below_of_grown g1 hB1 hs⟩
      refine (rnumber_bad _ n _ (fun w2 => Rm w2 b2 o2 [] true ∧ (w.setCell ⟨b1, 0 + 2, none⟩ (.bool true)).grownBy w2 (some b2)) (rm_take_bad b2 z1 false n _ o2 m1 (.inr (.inr (by omega))))).mono ?_
      rintro e w2 ⟨rfl, m2, g2⟩
      exact ⟨rfl, ⟨z1, [], true, r1'.kept g2 (by simpa using d1) (.inr d2), m2, by simp, by simp, d1, d2, d3, fun k hk => Nat.lt_of_lt_of_le (d4 k hk) (Nat.le_trans g1.size g2.size)⟩, below_of_grown g2 hB2 (by simpa using hs)⟩

/-- Behind a step that turns no old block but the one named. -/
theorem St.step {b1 b2 : Nat} {o1 o2 : Option Nat} {w w' : World} (h : St b1 o1 b2 o2 w) {row : Option Nat} (hg : w.grownBy w' row) (hr : ∀ k, row = some k → b1 ≠ k ∧ b2 ≠ k ∧ o1 ≠ some k ∧ o2 ≠ some k) : St b1 o1 b2 o2 w' := by
  obtain ⟨z1, zs, bad, h1, h2, h3, h4, h5, h6, h7, h8⟩ := h
  have hh : (∀ b, (∀ k, row = some k → b ≠ k) → some b ≠ row) := by
    intro b hb e
    exact hb b e.symm rfl
  have ho : (∀ o : Option Nat, (∀ k, row = some k → o ≠ some k) → row = none ∨ o ≠ row) := by
    intro o ho
    cases row with
    | none => exact .inl rfl
    | some k => exact .inr (ho k rfl)
  exact ⟨z1, zs, bad, h1.kept hg (hh _ fun k hk => (hr k hk).1) (ho _ fun k hk => (hr k hk).2.2.1), h2.kept hg (hh _ fun k hk => (hr k hk).2.1) (ho _ fun k hk => (hr k hk).2.2.2), h3, h4, h5, h6, h7, fun k hk => Nat.lt_of_lt_of_le (h8 k hk) hg.size⟩

/-- What follows Take: the document's Take; both tell the same bytes. -/
def NextTake (n : Int) (b1 : Nat) (o1 : Option Nat) (b2 : Nat) (o2 : Option Nat) (zs : List Int) (w1 : World) : Prop :=
  Calls Try.prog 42 #[.pointer (some ⟨b2, 0, none⟩), .int .i64 n] w1 fun e w2 => ∃ v ok, e = .returned (.tuple #[v, .bool ok]) ∧ Reads w2 v zs ∧ St b1 o1 b2 o2 w2 ∧ w1.grownBy w2 (some b2)

theorem take_st (n : Int) (b1 : Nat) (o1 : Option Nat) (b2 : Nat) (o2 : Option Nat) (w : World) (h : St b1 o1 b2 o2 w) :
    Calls Try.prog 31 #[.pointer (some ⟨b1, 0, none⟩), .int .i64 n] w fun e w1 => ∃ a c zs sp, e = .returned (.slice a zs.length c) ∧ Own w.heap.size w1 (.slice a zs.length c) zs sp ∧ w.grownBy w1 (some b1) ∧ NextTake n b1 o1 b2 o2 zs w1 := by
  obtain ⟨z1, zs, bad, r1, r2, e1, e2, d1, d2, d3, d4⟩ := h
  cases bad with
  | true =>
    obtain rfl := e2 rfl
    refine (take_none _ n w (· = w) (rd_cut_not b1 z1 n w o1 r1)).mono ?_
    rintro e w1 ⟨rfl, rfl⟩
    refine ⟨none, 0, [], [], rfl, Own.nil _ _, World.grownBy.refl _ _, ?_⟩
    refine (rm_take_bad b2 [] true n w1 o2 r2 (.inl rfl)).mono ?_
    rintro e w2 ⟨rfl, m2, g2⟩
    exact ⟨_, _, rfl, Reads.nil _, ⟨z1, [], true, r1.kept g2 (by simpa using d1) (.inr d2), m2, by simp, by simp, d1, d2, d3, fun k hk => Nat.lt_of_lt_of_le (d4 k hk) g2.size⟩, g2⟩
  | false =>
    obtain rfl := e1 rfl
    by_cases hn : 0 ≤ n ∧ n ≤ z1.length
    · obtain ⟨hn0, hn1⟩ := hn
      obtain ⟨N, rfl⟩ := Int.eq_ofNat_of_zero_le hn0
      have hN : N ≤ z1.length := by omega
      have hlz : z1.length ≤ 140737488355328 := by
        obtain ⟨_, _, _, h, _⟩ := r1
        exact h
      refine (take_of _ N (z1.take N) w (fun w1 => Rd w1 b1 o1 (z1.drop N) false ∧ w.grownBy w1 (some b1) ∧ w1.heap.size = w.heap.size) (by simp; omega) ?_).mono ?_
      · refine (rd_cut_ok b1 z1 N w o1 r1 hN).mono ?_
        rintro e w1 ⟨a, c, rfl, hr, h1, h2, h3⟩
        exact ⟨_, rfl, hr, h1, h2, h3⟩
      · rintro e w' ⟨w1, a, c, sp, rfl, ⟨r1', g1, s1⟩, hown, hbel⟩
        refine ⟨a, c, z1.take N, sp, rfl, by rw [← s1]; exact hown, grown_trans g1 (below_grown hbel _), ?_⟩
        have r1'' := r1'.grow hbel
        have m1 := (r2.kept g1 (by simpa using fun e => d1 e.symm) (.inr d3)).grow hbel
        refine (rm_take_ok b2 z1 N w' o2 m1 hN).mono ?_
        rintro e w2 ⟨a, c, rfl, hr, hk, m2, g2⟩
        exact ⟨_, _, rfl, hr, ⟨z1.drop N, z1.drop N, false, r1''.kept g2 (by simpa using d1) (.inr d2), m2, by simp, by simp, d1, d2, d3, fun k hk => Nat.lt_of_lt_of_le (d4 k hk) (Nat.le_trans g1.size (Nat.le_trans hbel.size g2.size))⟩, g2⟩
    · have hn' : n < 0 ∨ (z1.length : Int) < n := by omega
      refine (take_none _ n w (· = w.setCell ⟨b1, 0 + 2, none⟩ (.bool true)) (rd_cut_bad b1 z1 n w o1 r1 hn')).mono ?_
      rintro e w1 ⟨rfl, rfl⟩
      have g1 := grown_setCell w b1 (0 + 2) (.bool true)
      have r1' := r1.bad
      have m1 := r2.kept g1 (by simpa using fun e => d1 e.symm) (.inr d3)
      refine ⟨none, 0, [], [], rfl, Own.nil _ _, g1, ?_⟩
      refine (rm_take_bad b2 z1 false n _ o2 m1 (.inr hn')).mono ?_
      rintro e w2 ⟨rfl, m2, g2⟩
      exact ⟨_, _, rfl, Reads.nil _, ⟨z1, [], true, r1'.kept g2 (by simpa using d1) (.inr d2), m2, by simp, by simp, d1, d2, d3, fun k hk => Nat.lt_of_lt_of_le (d4 k hk) (Nat.le_trans g1.size g2.size)⟩, g2⟩

end Go.Proofs.Ythbdnhfppjhppaa
