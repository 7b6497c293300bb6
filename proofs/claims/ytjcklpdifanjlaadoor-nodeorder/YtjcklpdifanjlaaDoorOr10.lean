/- path's functions by what their answers are, the answer given ahead; what follows of a key's bits. -/
import Derived.Test.YtjcklpdifanjlaaDoorOr09
import Derived.Test.YtjcklpdifanjlaaDoorOr01
namespace Go.Proofs.YtjcklpdifanjlaaDoor
set_option maxRecDepth 20000
open Go.RowKit

theorem common_ex (xs ys : List Int) : ∃ c, IsCommon xs ys c := by
  have key : ∀ n, n ≤ 256 → (∃ c, c < n ∧ (∀ j, j < c → kb xs j = kb ys j) ∧ kb xs c ≠ kb ys c) ∨ ∀ j, j < n → kb xs j = kb ys j := by
    intro n
    induction n with
    | zero => exact fun _ => Or.inr fun j hj => by omega
    | succ n ih =>
      intro hn
      rcases ih (by omega) with ⟨c, h1, h2⟩ | h
      · exact Or.inl ⟨c, by omega, h2⟩
      · by_cases e : kb xs n = kb ys n
        · refine Or.inr fun j hj => ?_
          rcases Nat.lt_or_ge j n with q | q
          · exact h j q
          · have : j = n := by omega
            subst this
            exact e
        · exact Or.inl ⟨n, by omega, h, e⟩
  rcases key 256 (by omega) with ⟨c, h1, h2, h3⟩ | h
  · exact ⟨c, by omega, h2, fun _ => h3⟩
  · exact ⟨256, by omega, h, fun h => by omega⟩

theorem common_at (xs ys : List Int) (c : Nat) (w : World) (hx : Key xs) (hy : Key ys) (hc : IsCommon xs ys c) : Calls Tryd.prog 96 #[.agg (B xs), .agg (B ys)] w fun e w' => e = .returned (.int .i64 c) ∧ Below w.heap.size w w' := by
  refine (common_any xs ys w hx hy).mono ?_
  rintro e w' ⟨c', h, rfl, b⟩
  rw [h.one hc]
  exact ⟨rfl, b⟩

theorem under_at (xs ys : List Int) (d : Int) (b : Bool) (w : World) (hx : Key xs) (hy : Key ys) (hb : b = true ↔ Und xs ys d) : Calls Tryd.prog 80 #[.agg (B xs), .agg (B ys), .int .i64 d] w fun e w' => e = .returned (.bool b) ∧ Below w.heap.size w w' := by
  refine (under_any xs ys d w hx hy).mono ?_
  rintro e w' ⟨b', h, rfl, q⟩
  have : b' = b := Bool.eq_iff_iff.2 (h.trans hb.symm)
  rw [this]
  exact ⟨rfl, q⟩

/-- What Bit tells. -/
def kbi (xs : List Int) (d : Int) : Int := if 0 ≤ d ∧ d < 256 then kb xs d.toNat else -1

theorem bit_any (xs : List Int) (d : Int) (w : World) (hx : Key xs) : Calls Tryd.prog 37 #[.agg (B xs), .int .i64 d] w fun e w' => e = .returned (.int .i64 (kbi xs d)) ∧ Below w.heap.size w w' := by
  unfold kbi
  by_cases h : 0 ≤ d ∧ d < 256
  · rw [if_pos h]
    have e : d = ((d.toNat : Nat) : Int) := by omega
    have := bit_in xs d.toNat w hx (by omega)
    rw [← e] at this
    exact this
  · rw [if_neg h]
    exact bit_out _ _ rfl d w h

theorem cmp_neg {xs ys : List Int} (hx : Key xs) (hy : Key ys) : cmp xs ys = -cmp ys xs := by
  rcases cmp_key hx hy with ⟨a, e⟩ | ⟨a, e⟩ | ⟨a, e⟩ <;> rcases cmp_key hy hx with ⟨b, f⟩ | ⟨b, f⟩ | ⟨b, f⟩
  · omega
  · rw [e] at f; exact f.ne.elim
  · rw [e] at f; exact f.ne.elim
  · rw [f] at e; exact e.ne.elim
  · exact (e.not f).elim
  · omega
  · rw [f] at e; exact e.ne.elim
  · omega
  · exact (e.not f).elim

theorem cmp_self {xs : List Int} (hx : Key xs) : cmp xs xs = 0 := by
  rcases cmp_key hx hx with ⟨a, _⟩ | ⟨_, e⟩ | ⟨_, e⟩
  · exact a
  · exact e.ne.elim
  · exact e.ne.elim

theorem cmp_bit {xs ys : List Int} (hx : Key xs) (hy : Key ys) {c : Nat} (hc : IsCommon xs ys c) (h : c < 256) : cmp xs ys = 2 * kb xs c - 1 := by
  rcases hc.ahead h with ⟨a, b, d⟩ | ⟨a, b, d⟩ <;> rcases cmp_key hx hy with ⟨e, f⟩ | ⟨e, f⟩ | ⟨e, f⟩
  · rw [f] at a; exact a.ne.elim
  · omega
  · exact (a.not f).elim
  · rw [f] at a; exact a.ne.elim
  · exact (a.not f).elim
  · omega

theorem cmp_le {xs ys : List Int} (hx : Key xs) (hy : Key ys) : cmp xs ys ≤ 0 ↔ ¬ Ahead ys xs := by
  rcases cmp_key hx hy with ⟨a, e⟩ | ⟨a, e⟩ | ⟨a, e⟩
  · subst e
    exact ⟨fun _ h => h.ne, fun _ => by omega⟩
  · exact ⟨fun _ h => e.not h, fun _ => by omega⟩
  · exact ⟨fun h => by omega, fun h => absurd e h⟩
theorem cmp_lt {xs ys : List Int} (hx : Key xs) (hy : Key ys) : cmp xs ys < 0 ↔ Ahead xs ys := by
  rcases cmp_key hx hy with ⟨a, e⟩ | ⟨a, e⟩ | ⟨a, e⟩
  · subst e
    exact ⟨fun h => by omega, fun h => h.ne.elim⟩
  · exact ⟨fun _ => e, fun _ => by omega⟩
  · exact ⟨fun h => by omega, fun h => (e.not h).elim⟩

/-- The keys under a top at d are those from the first up to the last. -/
theorem und_within {xs ts fs zs : List Int} {d : Nat} (hd : d ≤ 256) (ha : IsFill ts d 0 fs) (hz : IsFill ts d 1 zs) : Und xs ts d ↔ ¬ Ahead xs fs ∧ ¬ Ahead zs xs := by
  constructor
  · rintro ⟨_, _, h⟩
    refine ⟨?_, ?_⟩
    · rintro ⟨c, hc, _, h1, h2⟩
      rw [ha.2 c hc] at h2
      by_cases q : c < d
      · rw [if_pos q, ← h c (by omega)] at h2; omega
      · rw [if_neg q] at h2; omega
    · rintro ⟨c, hc, _, h1, h2⟩
      rw [hz.2 c hc] at h1
      by_cases q : c < d
      · rw [if_pos q, ← h c (by omega)] at h1; omega
      · rw [if_neg q] at h1; omega
  · rintro ⟨h1, h2⟩
    refine ⟨by omega, by omega, ?_⟩
    obtain ⟨c, hc⟩ := common_ex xs ts
    by_cases q : d ≤ c
    · exact fun j hj => hc.2.1 j (by omega)
    · exfalso
      have hs : ∀ (b : Int) (ys : List Int), IsFill ts d b ys → ∀ j, j < d → kb ys j = kb ts j := fun b ys h j hj => by rw [h.2 j (by omega), if_pos hj]
      rcases hc.ahead (by omega) with ⟨_, a, b⟩ | ⟨_, a, b⟩
      · exact h1 ⟨c, by omega, fun j hj => by rw [hs 0 fs ha j (by omega)]; exact hc.2.1 j hj, a, by rw [hs 0 fs ha c (by omega)]; exact b⟩
      · exact h2 ⟨c, by omega, fun j hj => by rw [hs 1 zs hz j (by omega)]; exact (hc.2.1 j hj).symm, by rw [hs 1 zs hz c (by omega)]; exact b, a⟩

theorem und_fill {ts fs : List Int} {d : Nat} {b : Int} (hd : d ≤ 256) (ha : IsFill ts d b fs) : Und fs ts d := ⟨by omega, by omega, fun j hj => by rw [ha.2 j (by omega), if_pos (by omega)]⟩

theorem IsFill.whole {ts fs : List Int} {b : Int} (ht : Key ts) (ha : IsFill ts 256 b fs) : fs = ts := key_ext ha.1 ht fun j hj => by rw [ha.2 j hj, if_pos hj]

/-- The next key is behind, and none stands between. -/
theorem IsNext.behind {xs ys : List Int} (h : IsNext xs ys) : Ahead xs ys := by
  obtain ⟨_, k, hk, a, b, c, _⟩ := h
  exact ⟨k, hk, fun j hj => (c j hj).symm, a, b⟩
theorem IsNext.least {xs ys ts : List Int} (h : IsNext xs ys) (ht : Ahead xs ts) : ¬ Ahead ts ys := by
  obtain ⟨_, k, hk, x0, y1, same, rest⟩ := h
  obtain ⟨c, hc, c1, c2, c3⟩ := ht
  rintro ⟨e, he, e1, e2, e3⟩
  have hck : c ≤ k := by
    rcases Nat.lt_or_ge k c with q | q
    · have := rest c q hc; omega
    · exact q
  rcases Nat.lt_trichotomy e c with q | q | q
  · have h1 := c1 e q
    have h2 := same e (by omega)
    omega
  · subst q; omega
  · have h1 := e1 c q
    rcases Nat.lt_or_ge c k with p | p
    · have h2 := same c p; omega
    · have : c = k := by omega
      subst this
      have := rest e q he
      omega
theorem IsLast.none {xs ts : List Int} (h : IsLast xs) : ¬ Ahead xs ts := by
  rintro ⟨c, hc, _, c2, _⟩
  have := h c hc
  omega

theorem IsFlip.twice {xs ys zs : List Int} {d : Nat} (hx : Key xs) (h : IsFlip xs d ys) (k : IsFlip ys d zs) : zs = xs := key_ext k.1 hx fun j hj => by
  rw [k.2 j hj, h.2 j hj]
  by_cases e : j = d
  · rw [if_pos e, if_pos e]; omega
  · rw [if_neg e, if_neg e]
theorem IsFlip.common {xs ys : List Int} {d : Nat} (hd : d < 256) (h : IsFlip xs d ys) : IsCommon ys xs d := by
  refine ⟨by omega, fun j hj => by rw [h.2 j (by omega), if_neg (by omega)], fun _ e => ?_⟩
  rw [h.2 d hd, if_pos rfl] at e
  have := kb_two xs d
  omega
theorem IsFlip.unlike {xs ys : List Int} {d : Nat} (hd : d < 256) (h : IsFlip xs d ys) : ys ≠ xs := by
  rintro rfl
  exact (h.common hd).2.2 hd rfl

end Go.Proofs.YtjcklpdifanjlaaDoor

/- The root of entries and a key's way among them, by definition, with no word of the program; that the root hangs on no order, that it is both sides' roots, and that a way leads up to it. -/
namespace Go.Proofs.YtjcklpdifanjlaaDoor
set_option maxRecDepth 20000
open Go.RowKit

/-- An entry: a key's bytes, a value's bytes. -/
abbrev Ent := List Int × List Int

/-- The digests of a tree's nodes. -/
def emD : List Int := dig [0]
def lfD (K V : List Int) : List Int := dig (1 :: (K ++ V))
def inD (a b : List Int) : List Int := dig (2 :: (a ++ b))
def vaD (V : List Int) : List Int := dig (3 :: V)
def enD (e : Ent) : List Int := lfD e.1 (vaD e.2)

/-- The entries whose bit d is this one, in their order. -/
def sideOf (l : List Ent) (d : Nat) (b : Int) : List Ent := l.filter fun e => kbi e.1 d == b

/-- The root at the depth d; n: how many depths are left. -/
def rt : Nat → Nat → List Ent → List Int
  | _, _, [] => emD
  | _, _, [e] => enD e
  | 0, _, _ :: _ :: _ => inD emD emD
  | n + 1, d, a :: b :: l => inD (rt n (d + 1) (sideOf (a :: b :: l) d 0)) (rt n (d + 1) (sideOf (a :: b :: l) d 1))

theorem rt_nil (n d : Nat) : rt n d [] = emD := by cases n <;> rfl
theorem rt_one (n d : Nat) (e : Ent) : rt n d [e] = enD e := by cases n <;> rfl
theorem rt_more (n d : Nat) (l : List Ent) (h : 2 ≤ l.length) : rt (n + 1) d l = inD (rt n (d + 1) (sideOf l d 0)) (rt n (d + 1) (sideOf l d 1)) := by
  match l, h with
  | a :: b :: l, _ => rfl

/-- It hangs on no order. -/
theorem rt_perm : ∀ (n d : Nat) (l m : List Ent), l.Perm m → rt n d l = rt n d m := by
  intro n
  induction n with
  | zero =>
    intro d l m h
    match l, m, h with
    | [], m, h => rw [List.nil_perm.1 h]
    | [e], m, h => rw [List.singleton_perm.1 h]
    | a :: b :: l, [], h => exact absurd h.length_eq (by simp)
    | a :: b :: l, [e], h => exact absurd h.length_eq (by simp)
    | a :: b :: l, c :: d :: m, h => rfl
  | succ n ih =>
    intro d l m h
    match l, m, h with
    | [], m, h => rw [List.nil_perm.1 h]
    | [e], m, h => rw [List.singleton_perm.1 h]
    | a :: b :: l, m, h =>
      have h2 : 2 ≤ m.length := by rw [← h.length_eq]; simp
      have hs : ∀ c, (sideOf (a :: b :: l) d c).Perm (sideOf m d c) := fun c => h.filter _
      rw [rt_more n d _ (by simp), rt_more n d m h2, ih (d + 1) _ _ (hs 0), ih (d + 1) _ _ (hs 1)]

/-- No two entries have the same key. -/
def Apart1 (l : List Ent) : Prop := l.Pairwise fun a b => a.1 ≠ b.1
theorem Apart1.side {l : List Ent} (h : Apart1 l) (d : Nat) (b : Int) : Apart1 (sideOf l d b) := h.sublist List.filter_sublist

/-- All keys have key's first d bits. -/
def Share (l : List Ent) (key : List Int) (d : Nat) : Prop := ∀ e ∈ l, ∀ j, j < d → kb e.1 j = kb key j

theorem kbi_in (xs : List Int) (d : Nat) (h : d < 256) : kbi xs d = kb xs d := by
  unfold kbi
  rw [if_pos (by omega)]
  rfl

theorem Share.side {l : List Ent} {key : List Int} {d : Nat} (hd : d < 256) (h : Share l key d) : Share (sideOf l d (kb key d)) key (d + 1) := by
  intro e he j hj
  unfold sideOf at he
  rw [List.mem_filter] at he
  rcases Nat.lt_or_ge j d with q | q
  · exact h e he.1 j q
  · have : j = d := by omega
    subst this
    have := he.2
    rw [beq_iff_eq, kbi_in _ _ hd] at this
    exact this

/-- With all bits shared at most one entry is left. -/
theorem Share.few {l : List Ent} {key : List Int} (hk : ∀ e ∈ l, Key e.1) (ha : Apart1 l) (h : Share l key 256) : l.length ≤ 1 := by
  match l, hk, ha, h with
  | [], _, _, _ => simp
  | [e], _, _, _ => simp
  | a :: b :: l, hk, ha, h =>
    exfalso
    have h1 := List.rel_of_pairwise_cons ha (List.mem_cons_self (a := b) (l := l))
    exact h1 (key_ext (hk a (by simp)) (hk b (by simp)) fun j hj => by rw [h a (by simp) j hj, h b (by simp) j hj])

/-- The sides of a key's way, from the depth d on. -/
def sds : Nat → Nat → List Ent → List Int → List (List Int)
  | 0, _, _, _ => []
  | n + 1, d, l, key => if l.length ≤ 1 then [] else rt n (d + 1) (sideOf l d (1 - kb key d)) :: sds n (d + 1) (sideOf l d (kb key d)) key
/-- What is left at its end. -/
def rst : Nat → Nat → List Ent → List Int → List Ent
  | 0, _, l, _ => l
  | n + 1, d, l, key => if l.length ≤ 1 then l else rst n (d + 1) (sideOf l d (kb key d)) key

/-- Up from a digest: the sides from the last to the first. -/
def upD (key : List Int) : Nat → List (List Int) → List Int → List Int
  | _, [], h => h
  | d, s :: r, h => if kb key d = 0 then inD (upD key (d + 1) r h) s else inD s (upD key (d + 1) r h)

theorem sds_length : ∀ (n d : Nat) (l : List Ent) (key : List Int), (sds n d l key).length ≤ n := by
  intro n
  induction n with
  | zero => intro d l key; simp [sds]
  | succ n ih =>
    intro d l key
    unfold sds
    by_cases h : l.length ≤ 1
    · rw [if_pos h]; simp
    · rw [if_neg h]
      have := ih (d + 1) (sideOf l d (kb key d)) key
      simp only [List.length_cons]
      omega

/-- A key's way leads up to the root, and at most one entry is at its end. -/
theorem up_way : ∀ (n d : Nat) (l : List Ent) (key : List Int), d + n = 256 → (∀ e ∈ l, Key e.1) → Apart1 l → Share l key d → (rst n d l key).length ≤ 1 ∧ upD key d (sds n d l key) (rt 0 0 (rst n d l key)) = rt n d l := by
  have few : ∀ (n d : Nat) (l : List Ent), l.length ≤ 1 → rt 0 0 l = rt n d l := by
    intro n d l h
    match l, h with
    | [], _ => rw [rt_nil, rt_nil]
    | [e], _ => rw [rt_one, rt_one]
  intro n
  induction n with
  | zero =>
    intro d l key hd hk ha hs
    have hd' : d = 256 := by omega
    subst hd'
    have h := hs.few hk ha
    exact ⟨h, few 0 256 l h⟩
  | succ n ih =>
    intro d l key hd hk ha hs
    unfold rst sds
    by_cases h : l.length ≤ 1
    · rw [if_pos h, if_pos h]
      exact ⟨h, few _ _ l h⟩
    · rw [if_neg h, if_neg h]
      obtain ⟨i1, i2⟩ := ih (d + 1) (sideOf l d (kb key d)) key (by omega) (fun e he => hk e (List.mem_filter.1 he).1) (ha.side _ _) (hs.side (by omega))
      refine ⟨i1, ?_⟩
      rw [rt_more n d l (by omega)]
      unfold upD
      rw [i2]
      rcases kb_two key d with q | q
      · rw [if_pos q, q]
        rfl
      · rw [if_neg (by omega), q]
        rfl

/-- What is left at the end of a key's way are the entries with that key, if there are any. -/
theorem rst_mem : ∀ (n d : Nat) (l : List Ent) (key : List Int) (e : Ent), d + n = 256 → e ∈ l → e.1 = key → e ∈ rst n d l key := by
  intro n
  induction n with
  | zero => intro d l key e _ he _; exact he
  | succ n ih =>
    intro d l key e hd he hk
    unfold rst
    by_cases h : l.length ≤ 1
    · rw [if_pos h]; exact he
    · rw [if_neg h]
      refine ih (d + 1) _ key e (by omega) ?_ hk
      unfold sideOf
      rw [List.mem_filter, beq_iff_eq, kbi_in _ _ (by omega), hk]
      exact ⟨he, rfl⟩
theorem rst_sub : ∀ (n d : Nat) (l : List Ent) (key : List Int) (e : Ent), e ∈ rst n d l key → e ∈ l := by
  intro n
  induction n with
  | zero => intro d l key e he; exact he
  | succ n ih =>
    intro d l key e he
    unfold rst at he
    by_cases h : l.length ≤ 1
    · rw [if_pos h] at he; exact he
    · rw [if_neg h] at he
      exact (List.mem_filter.1 (ih _ _ _ _ he)).1

end Go.Proofs.YtjcklpdifanjlaaDoor
