/- path's functions by what their answers are, the answer given ahead; what follows of a key's bits. -/
import Derived.Test.YtjcklpdifanjlaaDoorCd24
namespace Go.Proofs.YtjcklpdifanjlaaDoor
set_option maxRecDepth 20000
open Go.RowKit

theorem common_ex (xs ys : List Int) : ∃ c, IsCommon xs ys c := by
  have key : ∀ n, n ≤ 256 → (∃ c, c < n ∧ (∀ j, j < c → kb xs j = kb ys j) ∧ kb xs c ≠ kb ys c) ∨ ∀ j, j < n → kb xs j = kb ys j := by
    intro n
    induction n with
    | zero => exact fun _ => Or.inr fun j hj => by omega
    | succ n ih =>
      intro hn
      rcases ih (by omega) with ⟨c, h1, h2⟩ | h
      · exact Or.inl ⟨c, by omega, h2⟩
      · by_cases e : kb xs n = kb ys n
        · refine Or.inr fun j hj => ?_
          rcases Nat.lt_or_ge j n with q | q
          · exact h j q
          · have : j = n := by omega
            subst this
            exact e
        · exact Or.inl ⟨n, by omega, h, e⟩
  rcases key 256 (by omega) with ⟨c, h1, h2, h3⟩ | h
  · exact ⟨c, by omega, h2, fun _ => h3⟩
  · exact ⟨256, by omega, h, fun h => by omega⟩

theorem common_at (xs ys : List Int) (c : Nat) (w : World) (hx : Key xs) (hy : Key ys) (hc : IsCommon xs ys c) : Calls Tryd.prog 96 #[.agg (B xs), .agg (B ys)] w fun e w' => e = .returned (.int .i64 c) ∧ Below w.heap.size w w' := by
  refine (common_any xs ys w hx hy).mono ?_
  rintro e w' ⟨c', h, rfl, b⟩
  rw [h.one hc]
  exact ⟨rfl, b⟩

theorem under_at (xs ys : List Int) (d : Int) (b : Bool) (w : World) (hx : Key xs) (hy : Key ys) (hb : b = true ↔ Und xs ys d) : Calls Tryd.prog 80 #[.agg (B xs), .agg (B ys), .int .i64 d] w fun e w' => e = .returned (.bool b) ∧ Below w.heap.size w w' := by
  refine (under_any xs ys d w hx hy).mono ?_
  rintro e w' ⟨b', h, rfl, q⟩
  have : b' = b := Bool.eq_iff_iff.2 (h.trans hb.symm)
  rw [this]
  exact ⟨rfl, q⟩

/-- What Bit tells. -/
def kbi (xs : List Int) (d : Int) : Int := if 0 ≤ d ∧ d < 256 then kb xs d.toNat else -1

theorem bit_any (xs : List Int) (d : Int) (w : World) (hx : Key xs) : Calls Tryd.prog 37 #[.agg (B xs), .int .i64 d] w fun e w' => e = .returned (.int .i64 (kbi xs d)) ∧ Below w.heap.size w w' := by
  unfold kbi
  by_cases h : 0 ≤ d ∧ d < 256
  · rw [if_pos h]
    have e : d = ((d.toNat : Nat) : Int) := by omega
    have := bit_in xs d.toNat w hx (by omega)
    rw [← e] at this
    exact this
  · rw [if_neg h]
    exact bit_out _ _ rfl d w h

theorem cmp_neg {xs ys : List Int} (hx : Key xs) (hy : Key ys) : cmp xs ys = -cmp ys xs := by
  rcases cmp_key hx hy with ⟨a, e⟩ | ⟨a, e⟩ | ⟨a, e⟩ <;> rcases cmp_key hy hx with ⟨b, f⟩ | ⟨b, f⟩ | ⟨b, f⟩
  · omega
  · rw [e] at f; exact f.ne.elim
  · rw [e] at f; exact f.ne.elim
  · rw [f] at e; exact e.ne.elim
  · exact (e.not f).elim
  · omega
  · rw [f] at e; exact e.ne.elim
  · omega
  · exact (e.not f).elim

theorem cmp_self {xs : List Int} (hx : Key xs) : cmp xs xs = 0 := by
  rcases cmp_key hx hx with ⟨a, _⟩ | ⟨_, e⟩ | ⟨_, e⟩
  · exact a
  · exact e.ne.elim
  · exact e.ne.elim

theorem cmp_bit {xs ys : List Int} (hx : Key xs) (hy : Key ys) {c : Nat} (hc : IsCommon xs ys c) (h : c < 256) : cmp xs ys = 2 * kb xs c - 1 := by
  rcases hc.ahead h with ⟨a, b, d⟩ | ⟨a, b, d⟩ <;> rcases cmp_key hx hy with ⟨e, f⟩ | ⟨e, f⟩ | ⟨e, f⟩
  · rw [f] at a; exact a.ne.elim
  · omega
  · exact (a.not f).elim
  · rw [f] at a; exact a.ne.elim
  · exact (a.not f).elim
  · omega

theorem cmp_le {xs ys : List Int} (hx : Key xs) (hy : Key ys) : cmp xs ys ≤ 0 ↔ ¬ Ahead ys xs := by
  rcases cmp_key hx hy with ⟨a, e⟩ | ⟨a, e⟩ | ⟨a, e⟩
  · subst e
    exact ⟨fun _ h => h.ne, fun _ => by omega⟩
  · exact ⟨fun _ h => e.not h, fun _ => by omega⟩
  · exact ⟨fun h => by omega, fun h => absurd e h⟩
theorem cmp_lt {xs ys : List Int} (hx : Key xs) (hy : Key ys) : cmp xs ys < 0 ↔ Ahead xs ys := by
  rcases cmp_key hx hy with ⟨a, e⟩ | ⟨a, e⟩ | ⟨a, e⟩
  · subst e
    exact ⟨fun h => by omega, fun h => h.ne.elim⟩
  · exact ⟨fun _ => e, fun _ => by omega⟩
  · exact ⟨fun h => by omega, fun h => (e.not h).elim⟩

/-- The keys under a top at d are those from the first up to the last. -/
theorem und_within {xs ts fs zs : List Int} {d : Nat} (hd : d ≤ 256) (ha : IsFill ts d 0 fs) (hz : IsFill ts d 1 zs) : Und xs ts d ↔ ¬ Ahead xs fs ∧ ¬ Ahead zs xs := by
  constructor
  · rintro ⟨_, _, h⟩
    refine ⟨?_, ?_⟩
    · rintro ⟨c, hc, _, h1, h2⟩
      rw [ha.2 c hc] at h2
      by_cases q : c < d
      · rw [if_pos q, ← h c (by omega)] at h2; omega
      · rw [if_neg q] at h2; omega
    · rintro ⟨c, hc, _, h1, h2⟩
      rw [hz.2 c hc] at h1
      by_cases q : c < d
      · rw [if_pos q, ← h c (by omega)] at h1; omega
      · rw [if_neg q] at h1; omega
  · rintro ⟨h1, h2⟩
    refine ⟨by omega, by omega, ?_⟩
    obtain ⟨c, hc⟩ := common_ex xs ts
    by_cases q : d ≤ c
    · exact fun j hj => hc.2.1 j (by omega)
    · exfalso
      have hs : ∀ (b : Int) (ys : List Int), IsFill ts d b ys → ∀ j, j < d → kb ys j = kb ts j := fun b ys h j hj => by rw [h.2 j (by omega), if_pos hj]
      rcases hc.ahead (by omega) with ⟨_, a, b⟩ | ⟨_, a, b⟩
      · exact h1 ⟨c, by omega, fun j hj => by rw [hs 0 fs ha j (by omega)]; exact hc.2.1 j hj, a, by rw [hs 0 fs ha c (by omega)]; exact b⟩
      · exact h2 ⟨c, by omega, fun j hj => by rw [hs 1 zs hz j (by omega)]; exact (hc.2.1 j hj).symm, by rw [hs 1 zs hz c (by omega)]; exact b, a⟩

theorem und_fill {ts fs : List Int} {d : Nat} {b : Int} (hd : d ≤ 256) (ha : IsFill ts d b fs) : Und fs ts d := ⟨by omega, by omega, fun j hj => by rw [ha.2 j (by omega), if_pos (by omega)]⟩

theorem IsFill.whole {ts fs : List Int} {b : Int} (ht : Key ts) (ha : IsFill ts 256 b fs) : fs = ts := key_ext ha.1 ht fun j hj => by rw [ha.2 j hj, if_pos hj]

/-- The next key is behind, and none stands between. -/
theorem IsNext.behind {xs ys : List Int} (h : IsNext xs ys) : Ahead xs ys := by
  obtain ⟨_, k, hk, a, b, c, _⟩ := h
  exact ⟨k, hk, fun j hj => (c j hj).symm, a, b⟩
theorem IsNext.least {xs ys ts : List Int} (h : IsNext xs ys) (ht : Ahead xs ts) : ¬ Ahead ts ys := by
  obtain ⟨_, k, hk, x0, y1, same, rest⟩ := h
  obtain ⟨c, hc, c1, c2, c3⟩ := ht
  rintro ⟨e, he, e1, e2, e3⟩
  have hck : c ≤ k := by
    rcases Nat.lt_or_ge k c with q | q
    · have := rest c q hc; omega
    · exact q
  rcases Nat.lt_trichotomy e c with q | q | q
  · have h1 := c1 e q
    have h2 := same e (by omega)
    omega
  · subst q; omega
  · have h1 := e1 c q
    rcases Nat.lt_or_ge c k with p | p
    · have h2 := same c p; omega
    · have : c = k := by omega
      subst this
      have := rest e q he
      omega
theorem IsLast.none {xs ts : List Int} (h : IsLast xs) : ¬ Ahead xs ts := by
  rintro ⟨c, hc, _, c2, _⟩
  have := h c hc
  omega

theorem IsFlip.twice {xs ys zs : List Int} {d : Nat} (hx : Key xs) (h : IsFlip xs d ys) (k : IsFlip ys d zs) : zs = xs := key_ext k.1 hx fun j hj => by
  rw [k.2 j hj, h.2 j hj]
  by_cases e : j = d
  · rw [if_pos e, if_pos e]; omega
  · rw [if_neg e, if_neg e]
theorem IsFlip.common {xs ys : List Int} {d : Nat} (hd : d < 256) (h : IsFlip xs d ys) : IsCommon ys xs d := by
  refine ⟨by omega, fun j hj => by rw [h.2 j (by omega), if_neg (by omega)], fun _ e => ?_⟩
  rw [h.2 d hd, if_pos rfl] at e
  have := kb_two xs d
  omega
theorem IsFlip.unlike {xs ys : List Int} {d : Nat} (hd : d < 256) (h : IsFlip xs d ys) : ys ≠ xs := by
  rintro rfl
  exact (h.common hd).2.2 hd rfl

end Go.Proofs.YtjcklpdifanjlaaDoor

/- The document's Bit, Set, Common, Compare (rootcellarref04), as contracts. -/
namespace Go.Proofs.YtjcklpdifanjlaaDoor
set_option maxRecDepth 20000
open Go.RowKit

theorem half_step (x : Int) (k : Nat) : x / 2 ^ k / 2 = x / 2 ^ (k + 1) := by
  rw [Int.pow_succ, Int.ediv_ediv_of_nonneg (Int.pow_nonneg (by omega))]

set_option maxHeartbeats 2000000 in
theorem rbit_in (xs : List Int) (d : Nat) (w : World) (hx : Key xs) (hd : d < 256) : Calls Tryd.prog 57 #[.agg (B xs), .int .i64 d] w fun e w' => e = .returned (.int .i64 (kb xs d)) ∧ Below w.heap.size w w' := by
  have HX := hidden hx
  have h2 : ((d / 8 : Nat) : Int) < 32 := by omega
  have hb := hx.byte (d / 8)
  have t0 : decide ((d : Int) < 0) = false := decide_eq_false (by omega)
  have t1 : decide ((256 : Int) ≤ (d : Int)) = false := decide_eq_false (by omega)
  obtain ⟨x, hxx⟩ : ∃ x, x = xs.getD (d / 8) 0 := ⟨_, rfl⟩
  have HK : Hid (kb xs d = x / 2 ^ (7 - d % 8) % 2) := by rw [hxx]; rfl
  rw [← hxx] at hb
  have hwx : wrap64 x = x := Go.IntWalk.wrap64_in _ (by omega)
  have HXX := hidden hxx
  clear hx hxx
  go_enter Tryd.func57, Tryd.ntmps57
  go_wp2_with (refine wpList_bx _ rfl _ _ rfl _ rfl ?_; intro w1 g1 hg1 hl1 B1 b1; have c1 := B1.bcell (d / 8) (by rw [HX.out.1]; omega); rw [← HXX.out] at c1)
  clear c1 B1
  have hm : d % 8 < 8 := Nat.mod_lt _ (by omega)
  go_loopw [5, 6] (fun s i wr => ∃ (k : Nat) (v : Int), k ≤ 7 - d % 8 ∧ s = .int .i64 v ∧ i = .int .i64 k ∧ Hid (v = x / 2 ^ k) ∧ 0 ≤ v ∧ v ≤ 255 ∧ wr = w1) (fun _ i _ => 8 - (intOf i).toNat)
  case atStart => exact ⟨0, x, by omega, rfl, rfl, by show _ = _; simp, hb.1, hb.2, rfl⟩
  case round =>
    obtain ⟨k, v, hk, rfl, rfl, hv, hv0, hv1, hwr⟩ := hrel
    subst hwr
    by_cases hlt : k < 7 - d % 8
    · have hlt' : (k : Int) < 7 - (d : Int) % 8 := by omega
      go_wp2
      exact ⟨⟨k + 1, v / 2, by omega, by go_num, by go_num, by show _ = _; rw [hv.out, half_step], by omega, by omega, trivial⟩, by simp [intOf]; omega⟩
    · have hlt' : decide ((k : Int) < 7 - (d : Int) % 8) = false := decide_eq_false (by omega)
      obtain rfl : k = 7 - d % 8 := by omega
      go_wp2
      go_ret
      exact ⟨by rw [HK.out, ← hv.out]; rfl, b1⟩

set_option maxHeartbeats 1000000 in
theorem rbit_out (xs : List Int) (d : Int) (w : World) (hd : ¬ (0 ≤ d ∧ d < 256)) : Calls Tryd.prog 57 #[.agg (B xs), .int .i64 d] w fun e w' => e = .returned (.int .i64 (-1)) ∧ Below w.heap.size w w' := by
  by_cases h0 : d < 0
  · have t0 : decide (d < 0) = true := decide_eq_true h0
    clear hd h0
    go_enter Tryd.func57, Tryd.ntmps57
    go_wp2_with (refine wpList_bx _ rfl _ _ rfl _ rfl ?_; intro w1 g1 hg1 hl1 B1 b1)
    go_ret
    exact ⟨rfl, b1⟩
  · have t0 : decide (d < 0) = false := decide_eq_false h0
    have t1 : decide (256 ≤ d) = true := decide_eq_true (by omega)
    clear hd h0
    go_enter Tryd.func57, Tryd.ntmps57
    go_wp2_with (refine wpList_bx _ rfl _ _ rfl _ rfl ?_; intro w1 g1 hg1 hl1 B1 b1)
    go_ret
    exact ⟨rfl, b1⟩

theorem rbit_any (xs : List Int) (d : Int) (w : World) (hx : Key xs) : Calls Tryd.prog 57 #[.agg (B xs), .int .i64 d] w fun e w' => e = .returned (.int .i64 (kbi xs d)) ∧ Below w.heap.size w w' := by
  unfold kbi
  by_cases h : 0 ≤ d ∧ d < 256
  · rw [if_pos h]
    have e : d = ((d.toNat : Nat) : Int) := by omega
    have := rbit_in xs d.toNat w hx (by omega)
    rw [← e] at this
    exact this
  · rw [if_neg h]
    exact rbit_out xs d w h

end Go.Proofs.YtjcklpdifanjlaaDoor
