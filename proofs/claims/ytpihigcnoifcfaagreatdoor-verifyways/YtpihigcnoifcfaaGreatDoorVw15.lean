/- path's functions by what their answers are, the answer given ahead; what follows of a key's bits. -/
import Derived.Test.YtpihigcnoifcfaaGreatDoorVw14
import Derived.Test.YtpihigcnoifcfaaGreatDoorVw03
import Derived.Test.YtpihigcnoifcfaaGreatDoorVw13
namespace Go.Proofs.YtpihigcnoifcfaaGreatDoor
set_option maxRecDepth 20000
open Go.RowKit

theorem common_ex (xs ys : List Int) : ∃ c, IsCommon xs ys c := by
  have key : ∀ n, n ≤ 256 → (∃ c, c < n ∧ (∀ j, j < c → kb xs j = kb ys j) ∧ kb xs c ≠ kb ys c) ∨ ∀ j, j < n → kb xs j = kb ys j := by
    intro n
    induction n with
    | zero => exact fun _ => Or.inr fun j hj => by omega
    | succ n ih =>
      intro hn
      rcases ih (by omega) with ⟨c, h1, h2⟩ | h
      · exact Or.inl ⟨c, by omega, h2⟩
      · by_cases e : kb xs n = kb ys n
        · refine Or.inr fun j hj => ?_
          rcases Nat.lt_or_ge j n with q | q
          · exact h j q
          · have : j = n := by omega
            subst this
            exact e
        · exact Or.inl ⟨n, by omega, h, e⟩
  rcases key 256 (by omega) with ⟨c, h1, h2, h3⟩ | h
  · exact ⟨c, by omega, h2, fun _ => h3⟩
  · exact ⟨256, by omega, h, fun h => by omega⟩

theorem common_at (xs ys : List Int) (c : Nat) (w : World) (hx : Key xs) (hy : Key ys) (hc : IsCommon xs ys c) : Calls Tryz.prog 70 #[.agg (B xs), .agg (B ys)] w fun e w' => e = .returned (.int .i64 c) ∧ Below w.heap.size w w' := by
  refine (common_any xs ys w hx hy).mono ?_
  rintro e w' ⟨c', h, rfl, b⟩
  rw [h.one hc]
  exact ⟨rfl, b⟩

theorem under_at (xs ys : List Int) (d : Int) (b : Bool) (w : World) (hx : Key xs) (hy : Key ys) (hb : b = true ↔ Und xs ys d) : Calls Tryz.prog 46 #[.agg (B xs), .agg (B ys), .int .i64 d] w fun e w' => e = .returned (.bool b) ∧ Below w.heap.size w w' := by
  refine (under_any xs ys d w hx hy).mono ?_
  rintro e w' ⟨b', h, rfl, q⟩
  have : b' = b := Bool.eq_iff_iff.2 (h.trans hb.symm)
  rw [this]
  exact ⟨rfl, q⟩

/-- What Bit tells. -/
def kbi (xs : List Int) (d : Int) : Int := if 0 ≤ d ∧ d < 256 then kb xs d.toNat else -1

theorem bit_any (xs : List Int) (d : Int) (w : World) (hx : Key xs) : Calls Tryz.prog 16 #[.agg (B xs), .int .i64 d] w fun e w' => e = .returned (.int .i64 (kbi xs d)) ∧ Below w.heap.size w w' := by
  unfold kbi
  by_cases h : 0 ≤ d ∧ d < 256
  · rw [if_pos h]
    have e : d = ((d.toNat : Nat) : Int) := by omega
    have := bit_in xs d.toNat w hx (by omega)
    rw [← e] at this
    exact this
  · rw [if_neg h]
    exact bit_out _ _ rfl d w h

theorem cmp_neg {xs ys : List Int} (hx : Key xs) (hy : Key ys) : cmp xs ys = -cmp ys xs := by
  rcases cmp_key hx hy with ⟨a, e⟩ | ⟨a, e⟩ | ⟨a, e⟩ <;> rcases cmp_key hy hx with ⟨b, f⟩ | ⟨b, f⟩ | ⟨b, f⟩
  · omega
  · rw [e] at f; exact f.ne.elim
  · rw [e] at f; exact f.ne.elim
  · rw [f] at e; exact e.ne.elim
  · exact (e.not f).elim
  · omega
  · rw [f] at e; exact e.ne.elim
  · omega
  · exact (e.not f).elim

theorem cmp_self {xs : List Int} (hx : Key xs) : cmp xs xs = 0 := by
  rcases cmp_key hx hx with ⟨a, _⟩ | ⟨_, e⟩ | ⟨_, e⟩
  · exact a
  · exact e.ne.elim
  · exact e.ne.elim

theorem cmp_bit {xs ys : List Int} (hx : Key xs) (hy : Key ys) {c : Nat} (hc : IsCommon xs ys c) (h : c < 256) : cmp xs ys = 2 * kb xs c - 1 := by
  rcases hc.ahead h with ⟨a, b, d⟩ | ⟨a, b, d⟩ <;> rcases cmp_key hx hy with ⟨e, f⟩ | ⟨e, f⟩ | ⟨e, f⟩
  · rw [f] at a; exact a.ne.elim
  · omega
  · exact (a.not f).elim
  · rw [f] at a; exact a.ne.elim
  · exact (a.not f).elim
  · omega

theorem cmp_le {xs ys : List Int} (hx : Key xs) (hy : Key ys) : cmp xs ys ≤ 0 ↔ ¬ Ahead ys xs := by
  rcases cmp_key hx hy with ⟨a, e⟩ | ⟨a, e⟩ | ⟨a, e⟩
  · subst e
    exact ⟨fun _ h => h.ne, fun _ => by omega⟩
  · exact ⟨fun _ h => e.not h, fun _ => by omega⟩
  · exact ⟨fun h => by omega, fun h => absurd e h⟩
theorem cmp_lt {xs ys : List Int} (hx : Key xs) (hy : Key ys) : cmp xs ys < 0 ↔ Ahead xs ys := by
  rcases cmp_key hx hy with ⟨a, e⟩ | ⟨a, e⟩ | ⟨a, e⟩
  · subst e
    exact ⟨fun h => by omega, fun h => h.ne.elim⟩
  · exact ⟨fun _ => e, fun _ => by omega⟩
  · exact ⟨fun h => by omega, fun h => (e.not h).elim⟩

/-- The keys under a top at d are those from the first up to the last. -/
theorem und_within {xs ts fs zs : List Int} {d : Nat} (hd : d ≤ 256) (ha : IsFill ts d 0 fs) (hz : IsFill ts d 1 zs) : Und xs ts d ↔ ¬ Ahead xs fs ∧ ¬ Ahead zs xs := by
  constructor
  · rintro ⟨_, _, h⟩
    refine ⟨?_, ?_⟩
    · rintro ⟨c, hc, _, h1, h2⟩
      rw [ha.2 c hc] at h2
      by_cases q : c < d
      · rw [if_pos q, ← h c (by omega)] at h2; omega
      · rw [if_neg q] at h2; omega
    · rintro ⟨c, hc, _, h1, h2⟩
      rw [hz.2 c hc] at h1
      by_cases q : c < d
      · rw [if_pos q, ← h c (by omega)] at h1; omega
      · rw [if_neg q] at h1; omega
  · rintro ⟨h1, h2⟩
    refine ⟨by omega, by omega, ?_⟩
    obtain ⟨c, hc⟩ := common_ex xs ts
    by_cases q : d ≤ c
    · exact fun j hj => hc.2.1 j (by omega)
    · exfalso
      have hs : ∀ (b : Int) (ys : List Int), IsFill ts d b ys → ∀ j, j < d → kb ys j = kb ts j := fun b ys h j hj => by rw [h.2 j (by omega), if_pos hj]
      rcases hc.ahead (by omega) with ⟨_, a, b⟩ | ⟨_, a, b⟩
      · exact h1 ⟨c, by omega, fun j hj => by rw [hs 0 fs ha j (by omega)]; exact hc.2.1 j hj, a, by rw [hs 0 fs ha c (by omega)]; exact b⟩
      · exact h2 ⟨c, by omega, fun j hj => by rw [hs 1 zs hz j (by omega)]; exact (hc.2.1 j hj).symm, by rw [hs 1 zs hz c (by omega)]; exact b, a⟩

theorem und_fill {ts fs : List Int} {d : Nat} {b : Int} (hd : d ≤ 256) (ha : IsFill ts d b fs) : Und fs ts d := ⟨by omega, by omega, fun j hj => by rw [ha.2 j (by omega), if_pos (by omega)]⟩

theorem IsFill.whole {ts fs : List Int} {b : Int} (ht : Key ts) (ha : IsFill ts 256 b fs) : fs = ts := key_ext ha.1 ht fun j hj => by rw [ha.2 j hj, if_pos hj]

/-- The next key is behind, and none stands between. -/
theorem IsNext.behind {xs ys : List Int} (h : IsNext xs ys) : Ahead xs ys := by
  obtain ⟨_, k, hk, a, b, c, _⟩ := h
  exact ⟨k, hk, fun j hj => (c j hj).symm, a, b⟩
theorem IsNext.least {xs ys ts : List Int} (h : IsNext xs ys) (ht : Ahead xs ts) : ¬ Ahead ts ys := by
  obtain ⟨_, k, hk, x0, y1, same, rest⟩ := h
  obtain ⟨c, hc, c1, c2, c3⟩ := ht
  rintro ⟨e, he, e1, e2, e3⟩
  have hck : c ≤ k := by
    rcases Nat.lt_or_ge k c with q | q
    · have := rest c q hc; omega
    · exact q
  rcases Nat.lt_trichotomy e c with q | q | q
  · have h1 := c1 e q
    have h2 := same e (by omega)
    omega
  · subst q; omega
  · have h1 := e1 c q
    rcases Nat.lt_or_ge c k with p | p
    · have h2 := same c p; omega
    · have : c = k := by omega
      subst this
      have := rest e q he
      omega
theorem IsLast.none {xs ts : List Int} (h : IsLast xs) : ¬ Ahead xs ts := by
  rintro ⟨c, hc, _, c2, _⟩
  have := h c hc
  omega

theorem IsFlip.twice {xs ys zs : List Int} {d : Nat} (hx : Key xs) (h : IsFlip xs d ys) (k : IsFlip ys d zs) : zs = xs := key_ext k.1 hx fun j hj => by
  rw [k.2 j hj, h.2 j hj]
  by_cases e : j = d
  · rw [if_pos e, if_pos e]; omega
  · rw [if_neg e, if_neg e]
theorem IsFlip.common {xs ys : List Int} {d : Nat} (hd : d < 256) (h : IsFlip xs d ys) : IsCommon ys xs d := by
  refine ⟨by omega, fun j hj => by rw [h.2 j (by omega), if_neg (by omega)], fun _ e => ?_⟩
  rw [h.2 d hd, if_pos rfl] at e
  have := kb_two xs d
  omega
theorem IsFlip.unlike {xs ys : List Int} {d : Nat} (hd : d < 256) (h : IsFlip xs d ys) : ys ≠ xs := by
  rintro rfl
  exact (h.common hd).2.2 hd rfl

end Go.Proofs.YtpihigcnoifcfaaGreatDoor

/- The root of entries and a key's way among them, by definition, with no word of the program; that the root hangs on no order, that it is both sides' roots, and that a way leads up to it. -/
namespace Go.Proofs.YtpihigcnoifcfaaGreatDoor
set_option maxRecDepth 20000
open Go.RowKit

/-- An entry: a key's bytes, a value's bytes. -/
abbrev Ent := List Int × List Int

/-- The digests of a tree's nodes. -/
def emD : List Int := dig [0]
def lfD (K V : List Int) : List Int := dig (1 :: (K ++ V))
def inD (a b : List Int) : List Int := dig (2 :: (a ++ b))
def vaD (V : List Int) : List Int := dig (3 :: V)
def enD (e : Ent) : List Int := lfD e.1 (vaD e.2)

/-- The entries whose bit d is this one, in their order. -/
def sideOf (l : List Ent) (d : Nat) (b : Int) : List Ent := l.filter fun e => kbi e.1 d == b

/-- The root at the depth d; n: how many depths are left. -/
def rt : Nat → Nat → List Ent → List Int
  | _, _, [] => emD
  | _, _, [e] => enD e
  | 0, _, _ :: _ :: _ => inD emD emD
  | n + 1, d, a :: b :: l => inD (rt n (d + 1) (sideOf (a :: b :: l) d 0)) (rt n (d + 1) (sideOf (a :: b :: l) d 1))

theorem rt_nil (n d : Nat) : rt n d [] = emD := by cases n <;> rfl
theorem rt_one (n d : Nat) (e : Ent) : rt n d [e] = enD e := by cases n <;> rfl
theorem rt_more (n d : Nat) (l : List Ent) (h : 2 ≤ l.length) : rt (n + 1) d l = inD (rt n (d + 1) (sideOf l d 0)) (rt n (d + 1) (sideOf l d 1)) := by
  match l, h with
  | a :: b :: l, _ => rfl

/-- It hangs on no order. -/
theorem rt_perm : ∀ (n d : Nat) (l m : List Ent), l.Perm m → rt n d l = rt n d m := by
  intro n
  induction n with
  | zero =>
    intro d l m h
    match l, m, h with
    | [], m, h => rw [List.nil_perm.1 h]
    | [e], m, h => rw [List.singleton_perm.1 h]
    | a :: b :: l, [], h => exact absurd h.length_eq (by simp)
    | a :: b :: l, [e], h => exact absurd h.length_eq (by simp)
    | a :: b :: l, c :: d :: m, h => rfl
  | succ n ih =>
    intro d l m h
    match l, m, h with
    | [], m, h => rw [List.nil_perm.1 h]
    | [e], m, h => rw [List.singleton_perm.1 h]
    | a :: b :: l, m, h =>
      have h2 : 2 ≤ m.length := by rw [← h.length_eq]; simp
      have hs : ∀ c, (sideOf (a :: b :: l) d c).Perm (sideOf m d c) := fun c => h.filter _
      rw [rt_more n d _ (by simp), rt_more n d m h2, ih (d + 1) _ _ (hs 0), ih (d + 1) _ _ (hs 1)]

/-- No two entries have the same key. -/
def Apart1 (l : List Ent) : Prop := l.Pairwise fun a b => a.1 ≠ b.1
theorem Apart1.side {l : List Ent} (h : Apart1 l) (d : Nat) (b : Int) : Apart1 (sideOf l d b) := h.sublist List.filter_sublist

/-- All keys have key's first d bits. -/
def Share (l : List Ent) (key : List Int) (d : Nat) : Prop := ∀ e ∈ l, ∀ j, j < d → kb e.1 j = kb key j

theorem kbi_in (xs : List Int) (d : Nat) (h : d < 256) : kbi xs d = kb xs d := by
  unfold kbi
  rw [if_pos (by omega)]
  rfl

theorem Share.side {l : List Ent} {key : List Int} {d : Nat} (hd : d < 256) (h : Share l key d) : Share (sideOf l d (kb key d)) key (d + 1) := by
  intro e he j hj
  unfold sideOf at he
  rw [List.mem_filter] at he
  rcases Nat.lt_or_ge j d with q | q
  · exact h e he.1 j q
  · have : j = d := by omega
    subst this
    have := he.2
    rw [beq_iff_eq, kbi_in _ _ hd] at this
    exact this

/-- With all bits shared at most one entry is left. -/
theorem Share.few {l : List Ent} {key : List Int} (hk : ∀ e ∈ l, Key e.1) (ha : Apart1 l) (h : Share l key 256) : l.length ≤ 1 := by
  match l, hk, ha, h with
  | [], _, _, _ => simp
  | [e], _, _, _ => simp
  | a :: b :: l, hk, ha, h =>
    exfalso
    have h1 := List.rel_of_pairwise_cons ha (List.mem_cons_self (a := b) (l := l))
    exact h1 (key_ext (hk a (by simp)) (hk b (by simp)) fun j hj => by rw [h a (by simp) j hj, h b (by simp) j hj])

/-- The sides of a key's way, from the depth d on. -/
def sds : Nat → Nat → List Ent → List Int → List (List Int)
  | 0, _, _, _ => []
  | n + 1, d, l, key => if l.length ≤ 1 then [] else rt n (d + 1) (sideOf l d (1 - kb key d)) :: sds n (d + 1) (sideOf l d (kb key d)) key
/-- What is left at its end. -/
def rst : Nat → Nat → List Ent → List Int → List Ent
  | 0, _, l, _ => l
  | n + 1, d, l, key => if l.length ≤ 1 then l else rst n (d + 1) (sideOf l d (kb key d)) key

/-- Up from a digest: the sides from the last to the first. -/
def upD (key : List Int) : Nat → List (List Int) → List Int → List Int
  | _, [], h => h
  | d, s :: r, h => if kb key d = 0 then inD (upD key (d + 1) r h) s else inD s (upD key (d + 1) r h)

theorem sds_length : ∀ (n d : Nat) (l : List Ent) (key : List Int), (sds n d l key).length ≤ n := by
  intro n
  induction n with
  | zero => intro d l key; simp [sds]
  | succ n ih =>
    intro d l key
    unfold sds
    by_cases h : l.length ≤ 1
    · rw [if_pos h]; simp
    · rw [if_neg h]
      have := ih (d + 1) (sideOf l d (kb key d)) key
      simp only [List.length_cons]
      omega

/-- A key's way leads up to the root, and at most one entry is at its end. -/
theorem up_way : ∀ (n d : Nat) (l : List Ent) (key : List Int), d + n = 256 → (∀ e ∈ l, Key e.1) → Apart1 l → Share l key d → (rst n d l key).length ≤ 1 ∧ upD key d (sds n d l key) (rt 0 0 (rst n d l key)) = rt n d l := by
  have few : ∀ (n d : Nat) (l : List Ent), l.length ≤ 1 → rt 0 0 l = rt n d l := by
    intro n d l h
    match l, h with
    | [], _ => rw [rt_nil, rt_nil]
    | [e], _ => rw [rt_one, rt_one]
  intro n
  induction n with
  | zero =>
    intro d l key hd hk ha hs
    have hd' : d = 256 := by omega
    subst hd'
    have h := hs.few hk ha
    exact ⟨h, few 0 256 l h⟩
  | succ n ih =>
    intro d l key hd hk ha hs
    unfold rst sds
    by_cases h : l.length ≤ 1
    · rw [if_pos h, if_pos h]
      exact ⟨h, few _ _ l h⟩
    · rw [if_neg h, if_neg h]
      obtain ⟨i1, i2⟩ := ih (d + 1) (sideOf l d (kb key d)) key (by omega) (fun e he => hk e (List.mem_filter.1 he).1) (ha.side _ _) (hs.side (by omega))
      refine ⟨i1, ?_⟩
      rw [rt_more n d l (by omega)]
      unfold upD
      rw [i2]
      rcases kb_two key d with q | q
      · rw [if_pos q, q]
        rfl
      · rw [if_neg (by omega), q]
        rfl

/-- What is left at the end of a key's way are the entries with that key, if there are any. -/
theorem rst_mem : ∀ (n d : Nat) (l : List Ent) (key : List Int) (e : Ent), d + n = 256 → e ∈ l → e.1 = key → e ∈ rst n d l key := by
  intro n
  induction n with
  | zero => intro d l key e _ he _; exact he
  | succ n ih =>
    intro d l key e hd he hk
    unfold rst
    by_cases h : l.length ≤ 1
    · rw [if_pos h]; exact he
    · rw [if_neg h]
      refine ih (d + 1) _ key e (by omega) ?_ hk
      unfold sideOf
      rw [List.mem_filter, beq_iff_eq, kbi_in _ _ (by omega), hk]
      exact ⟨he, rfl⟩
theorem rst_sub : ∀ (n d : Nat) (l : List Ent) (key : List Int) (e : Ent), e ∈ rst n d l key → e ∈ l := by
  intro n
  induction n with
  | zero => intro d l key e he; exact he
  | succ n ih =>
    intro d l key e he
    unfold rst at he
    by_cases h : l.length ≤ 1
    · rw [if_pos h] at he; exact he
    · rw [if_neg h] at he
      exact (List.mem_filter.1 (ih _ _ _ _ he)).1

end Go.Proofs.YtpihigcnoifcfaaGreatDoor

/- A proof's bytes by definition, with no word of the program: how they are told, how they are read, that what is read is told again, that what is told is read again. -/
namespace Go.Proofs.YtpihigcnoifcfaaGreatDoor
set_option maxRecDepth 20000
open Go.RowKit

theorem emD_length : emD.length = 32 := by rw [emD, em_dig]; rfl
theorem emD_bytes : Bytes emD := by
  intro z hz
  rw [emD, em_dig] at hz
  simp only [List.mem_cons, List.not_mem_nil, or_false] at hz
  omega
theorem emD_ne : emD ≠ z32 := em_ne

/-- How many bytes hold so many bits. -/
def by7 (n : Nat) : Nat := (n + 7) / 8
/-- Whether the side j is written. -/
def mk (hs : List (List Int)) (j : Nat) : Bool := decide (hs.getD j emD ≠ emD)
def bitsL (hs : List (List Int)) : List Int := bitsOf (mk hs) (by7 hs.length)
def wrL (hs : List (List Int)) : List Int := (hs.filter fun h => decide (h ≠ emD)).flatten
/-- The bytes ahead of the end's. -/
def hdL (hs : List (List Int)) : List Int := [(hs.length : Int) / 256, (hs.length : Int) % 256] ++ (bitsL hs ++ wrL hs)
/-- A proof's bytes. -/
def pkE (hs : List (List Int)) (k : Int) (a b c d : List Int) : List Int := hdL hs ++ txN k a b c d
/-- Check's error. -/
def chE (hs : List (List Int)) (k : Int) (a b c d : List Int) : Int := if 256 < hs.length then 4 else if k = 2 then 2 else okE k a b c d

/-- Lists of digests. -/
def Dg (hs : List (List Int)) : Prop := ∀ h ∈ hs, h.length = 32 ∧ Bytes h

theorem bitsL_length (hs : List (List Int)) : (bitsL hs).length = by7 hs.length := bitsOf_length _ _
theorem bitsL_bytes (hs : List (List Int)) : Bytes (bitsL hs) := bitsOf_bytes _ _
theorem bitsL_kb (hs : List (List Int)) (j : Nat) (h : j < hs.length) : kb (bitsL hs) j = bI (mk hs j) := bitsOf_kb _ _ _ (by unfold by7; omega)
theorem wrL_nil : wrL [] = [] := rfl
theorem wrL_append (xs ys : List (List Int)) : wrL (xs ++ ys) = wrL xs ++ wrL ys := by simp [wrL]
theorem wrL_one (h : List Int) : wrL [h] = if h = emD then [] else h := by
  by_cases e : h = emD
  · simp [wrL, e]
  · simp [wrL, e]
theorem wrL_bytes {hs : List (List Int)} (h : Dg hs) : Bytes (wrL hs) := fun z hz => by
  simp only [wrL, List.mem_flatten, List.mem_filter] at hz
  obtain ⟨l, ⟨hl, _⟩, hz⟩ := hz
  exact (h l hl).2 z hz
theorem wrL_length_le : ∀ {hs : List (List Int)}, Dg hs → (wrL hs).length ≤ hs.length * 32
  | [], _ => by simp [wrL]
  | h :: r, hd => by
    have i := wrL_length_le (hs := r) fun x hx => hd x (List.mem_cons_of_mem _ hx)
    have e : wrL (h :: r) = wrL [h] ++ wrL r := wrL_append [h] r
    have h1 : (wrL [h]).length ≤ 32 := by
      rw [wrL_one]
      split
      · simp
      · rw [(hd h (by simp)).1]; omega
    rw [e, List.length_append, List.length_cons]
    omega
theorem hdL_bytes {hs : List (List Int)} (h : Dg hs) (hn : hs.length ≤ 65535) : Bytes (hdL hs) := by
  refine Bytes.append (fun z hz => ?_) ((bitsL_bytes hs).append (wrL_bytes h))
  simp only [List.mem_cons, List.not_mem_nil, or_false] at hz
  omega
theorem hdL_length_le {hs : List (List Int)} (h : Dg hs) (hn : hs.length ≤ 256) : (hdL hs).length ≤ 8226 := by
  have := wrL_length_le h
  simp only [hdL, List.length_append, bitsL_length, by7, List.length_cons, List.length_nil]
  omega
theorem txN_bytes {k : Int} {a b c d : List Int} (h : Nd k a b c d) : Bytes (txN k a b c d) := by
  have h1 := h.ba; have h2 := h.bb; have h3 := h.bc; have h4 := h.bd
  unfold txN
  split
  · split
    · intro z hz
      simp only [List.mem_cons, List.mem_append] at hz
      rcases hz with rfl | hz | hz
      · omega
      · exact h1 z hz
      · exact h2 z hz
    · split
      · intro z hz
        simp only [List.mem_cons, List.mem_append] at hz
        rcases hz with rfl | hz | hz
        · omega
        · exact h3 z hz
        · exact h4 z hz
      · intro z hz
        simp only [List.mem_cons, List.not_mem_nil, or_false] at hz
        omega
  · exact Bytes.nil
theorem txN_pos {k : Int} {a b c d : List Int} (h : Nd k a b c d) (ho : okN k a b c d = true) : (txN k a b c d).length = 1 ∨ (txN k a b c d).length = 65 := by
  rw [txN, if_pos ho]
  split
  · right; simp [h.la, h.lb]
  · split
    · right; simp [h.lc, h.ld]
    · left; rfl

/-- The sides read so far, what is left, whether the bytes were too few. -/
def rdK (bs r0 : List Int) : Nat → List (List Int) × List Int × Bool
  | 0 => ([], r0, false)
  | i + 1 => if kb bs i = 0 then ((rdK bs r0 i).1 ++ [emD], (rdK bs r0 i).2) else if (rdK bs r0 i).2.2 = true then ((rdK bs r0 i).1 ++ [z32], (rdK bs r0 i).2)
    else if 32 ≤ (rdK bs r0 i).2.1.length then ((rdK bs r0 i).1 ++ [(rdK bs r0 i).2.1.take 32], (rdK bs r0 i).2.1.drop 32, false) else ((rdK bs r0 i).1 ++ [z32], (rdK bs r0 i).2.1, true)

theorem rdK_step (bs r0 : List Int) (i : Nat) : ∃ x, (rdK bs r0 (i + 1)).1 = (rdK bs r0 i).1 ++ [x] ∧ ((kb bs i = 0 ∧ x = emD ∧ (rdK bs r0 (i + 1)).2 = (rdK bs r0 i).2) ∨ (kb bs i ≠ 0 ∧ (rdK bs r0 i).2.2 = true ∧ x = z32 ∧ (rdK bs r0 (i + 1)).2 = (rdK bs r0 i).2)
    ∨ (kb bs i ≠ 0 ∧ (rdK bs r0 i).2.2 = false ∧ 32 ≤ (rdK bs r0 i).2.1.length ∧ x = (rdK bs r0 i).2.1.take 32 ∧ (rdK bs r0 (i + 1)).2 = ((rdK bs r0 i).2.1.drop 32, false))
    ∨ (kb bs i ≠ 0 ∧ (rdK bs r0 i).2.2 = false ∧ (rdK bs r0 i).2.1.length < 32 ∧ x = z32 ∧ (rdK bs r0 (i + 1)).2 = ((rdK bs r0 i).2.1, true))) := by
  by_cases h1 : kb bs i = 0
  · exact ⟨emD, by rw [rdK, if_pos h1], .inl ⟨h1, rfl, by rw [rdK, if_pos h1]⟩⟩
  · by_cases h2 : (rdK bs r0 i).2.2 = true
    · exact ⟨z32, by rw [rdK, if_neg h1, if_pos h2], .inr (.inl ⟨h1, h2, rfl, by rw [rdK, if_neg h1, if_pos h2]⟩)⟩
    · have h2' : (rdK bs r0 i).2.2 = false := by simpa using h2
      by_cases h3 : 32 ≤ (rdK bs r0 i).2.1.length
      · exact ⟨_, by rw [rdK, if_neg h1, if_neg h2, if_pos h3], .inr (.inr (.inl ⟨h1, h2', h3, rfl, by rw [rdK, if_neg h1, if_neg h2, if_pos h3]⟩))⟩
      · exact ⟨z32, by rw [rdK, if_neg h1, if_neg h2, if_neg h3], .inr (.inr (.inr ⟨h1, h2', by omega, rfl, by rw [rdK, if_neg h1, if_neg h2, if_neg h3]⟩))⟩

theorem rdK_length (bs r0 : List Int) : ∀ i, (rdK bs r0 i).1.length = i
  | 0 => rfl
  | i + 1 => by
    obtain ⟨x, h, _⟩ := rdK_step bs r0 i
    rw [h, List.length_append, rdK_length bs r0 i]
    rfl
theorem rdK_ok (bs r0 : List Int) (h0 : Bytes r0) : ∀ i, Dg (rdK bs r0 i).1 ∧ Bytes (rdK bs r0 i).2.1 ∧ (rdK bs r0 i).2.1.length ≤ r0.length
  | 0 => ⟨fun x hx => by simp [rdK] at hx, h0, Nat.le_refl _⟩
  | i + 1 => by
    obtain ⟨h1, h2, h3⟩ := rdK_ok bs r0 h0 i
    obtain ⟨x, hx, hc⟩ := rdK_step bs r0 i
    have hz : z32.length = 32 ∧ Bytes z32 := ⟨z32_length, z32_bytes⟩
    have snoc : (x.length = 32 ∧ Bytes x) → Dg (rdK bs r0 (i + 1)).1 := fun q y hy => by
      rw [hx, List.mem_append, List.mem_singleton] at hy
      rcases hy with hy | rfl
      · exact h1 y hy
      · exact q
    rcases hc with ⟨_, rfl, e⟩ | ⟨_, _, rfl, e⟩ | ⟨_, _, hl, rfl, e⟩ | ⟨_, _, _, rfl, e⟩
    · exact ⟨snoc ⟨emD_length, emD_bytes⟩, by rw [e]; exact h2, by rw [e]; exact h3⟩
    · exact ⟨snoc hz, by rw [e]; exact h2, by rw [e]; exact h3⟩
    · exact ⟨snoc ⟨by simp; omega, h2.take _⟩, by rw [e]; exact h2.drop _, by rw [e, List.length_drop]; omega⟩
    · exact ⟨snoc hz, by rw [e]; exact h2, by rw [e]; exact h3⟩
/-- Once the bytes were too few they stay so. -/
theorem rdK_good (bs r0 : List Int) (i : Nat) (h : (rdK bs r0 (i + 1)).2.2 = false) : (rdK bs r0 i).2.2 = false := by
  obtain ⟨x, _, hc⟩ := rdK_step bs r0 i
  rcases hc with ⟨_, _, e⟩ | ⟨_, _, _, e⟩ | ⟨_, q, _⟩ | ⟨_, q, _⟩
  · rw [e] at h; exact h
  · rw [e] at h; exact h
  · exact q
  · exact q
theorem rdK_bad (bs r0 : List Int) (n : Nat) (h : (rdK bs r0 n).2.2 = false) : ∀ i, i ≤ n → (rdK bs r0 i).2.2 = false := by
  induction n with
  | zero => intro i hi; rw [show i = 0 by omega]; exact h
  | succ n ih =>
    intro i hi
    by_cases e : i = n + 1
    · rw [e]; exact h
    · exact ih (rdK_good bs r0 n h) i (by omega)
theorem mk_snoc (S : List (List Int)) (x : List Int) (j : Nat) : mk (S ++ [x]) j = if j = S.length then decide (x ≠ emD) else mk S j := by
  unfold mk
  by_cases e : j = S.length
  · subst e
    simp [List.getD]
  · rw [if_neg e]
    by_cases l : j < S.length
    · rw [show (S ++ [x]).getD j emD = S.getD j emD by simp [List.getD, List.getElem?_append_left l]]
    · rw [show (S ++ [x]).getD j emD = emD by simp [List.getD]; rw [List.getElem?_eq_none (by simp; omega)]; rfl, show S.getD j emD = emD by simp [List.getD]; rw [List.getElem?_eq_none (by omega)]; rfl]
/-- What was read stands ahead of what is left, where the bits are those of what was read. -/
theorem rdK_flat (bs r0 : List Int) : ∀ i, (rdK bs r0 i).2.2 = false → (∀ j, j < i → kb bs j = bI (mk (rdK bs r0 i).1 j)) → r0 = wrL (rdK bs r0 i).1 ++ (rdK bs r0 i).2.1
  | 0, _, _ => rfl
  | i + 1, hb, hk => by
    obtain ⟨x, hx, hc⟩ := rdK_step bs r0 i
    have hl := rdK_length bs r0 i
    have hk' : ∀ j, j < i → kb bs j = bI (mk (rdK bs r0 i).1 j) := fun j hj => by
      have := hk j (by omega)
      rw [hx, mk_snoc, if_neg (by omega)] at this
      exact this
    have ki := hk i (by omega)
    rw [hx, mk_snoc, if_pos hl.symm] at ki
    have ih := rdK_flat bs r0 i (rdK_good bs r0 i hb) hk'
    rcases hc with ⟨q, rfl, e⟩ | ⟨_, q, _⟩ | ⟨q, _, hl2, rfl, e⟩ | ⟨_, _, _, _, e⟩
    · rw [hx, e, wrL_append, wrL_one, if_pos rfl, List.append_nil]
      exact ih
    · rw [rdK_good bs r0 i hb] at q
      exact absurd q (by simp)
    · have hne : (rdK bs r0 i).2.1.take 32 ≠ emD := fun q2 => q (by rw [ki, q2]; simp [bI])
      rw [hx, e, wrL_append, wrL_one, if_neg hne, List.append_assoc, List.take_append_drop]
      exact ih
    · rw [e] at hb
      exact absurd hb (by simp)

/-- How many sides bytes speak of. -/
def pN (zs : List Int) : Nat := (numOf (zs.take 2)).toNat
def pB (zs : List Int) : List Int := (zs.drop 2).take (by7 (pN zs))
def pR (zs : List Int) : List (List Int) × List Int × Bool := rdK (pB zs) (zs.drop (2 + by7 (pN zs))) (pN zs)
/-- The bytes are enough for the bits. -/
def fitD (zs : List Int) : Prop := 2 + by7 (pN zs) ≤ zs.length ∧ pN zs ≤ 256
/-- The bytes are a proof's. -/
def okD (zs : List Int) : Prop := fitD zs ∧ (pR zs).2.2 = false ∧ bitsL (pR zs).1 = pB zs ∧ dcE (pR zs).2.1 = 0 ∧ (dcN (pR zs).2.1).getD 0 0 ≠ 2
instance (zs : List Int) : Decidable (fitD zs) := by unfold fitD; infer_instance
instance (zs : List Int) : Decidable (okD zs) := by unfold okD; infer_instance

theorem pR_len (zs : List Int) : (pR zs).1.length = pN zs := rdK_length _ _ _
theorem pR_dg {zs : List Int} (hb : Bytes zs) : Dg (pR zs).1 := (rdK_ok _ _ (hb.drop _) _).1
theorem pR_bytes {zs : List Int} (hb : Bytes zs) : Bytes (pR zs).2.1 := (rdK_ok _ _ (hb.drop _) _).2.1
theorem pB_length {zs : List Int} (h : fitD zs) : (pB zs).length = by7 (pN zs) := by
  have := h.1
  simp only [pB, List.length_take, List.length_drop]
  omega
theorem num_two {x y : Int} : numOf [x, y] = 256 * x + y := by simp [numOf]
theorem head_two {zs : List Int} (hb : Bytes zs) (h : 2 ≤ zs.length) : zs.take 2 = [(pN zs : Int) / 256, (pN zs : Int) % 256] ∧ (numOf (zs.take 2)) = (pN zs : Int) ∧ pN zs ≤ 65535 := by
  match zs, h with
  | x :: y :: r, _ =>
    have hx := hb x (by simp)
    have hy := hb y (by simp)
    have e : pN (x :: y :: r) = (256 * x + y).toNat := by rw [pN, show (x :: y :: r).take 2 = [x, y] from rfl, num_two]
    rw [e, show (x :: y :: r).take 2 = [x, y] from rfl, num_two]
    have h1 : ((256 * x + y).toNat : Int) = 256 * x + y := by omega
    rw [h1]
    refine ⟨?_, rfl, by omega⟩
    rw [show (256 * x + y) / 256 = x by omega, show (256 * x + y) % 256 = y by omega]

/-- What is read is told again, if the bits are those of what is read, and only then. -/
theorem enc_back {zs : List Int} (hb : Bytes zs) (hf : fitD zs) (hx : (pR zs).2.2 = false) {k : Int} {a b c d : List Int} (ht : txN k a b c d = (pR zs).2.1) : pkE (pR zs).1 k a b c d = zs ↔ bitsL (pR zs).1 = pB zs := by
  have h2 : 2 ≤ zs.length := by have := hf.1; omega
  obtain ⟨e1, _, _⟩ := head_two hb h2
  have hl := pR_len zs
  constructor
  · intro h
    have hd : zs.drop 2 = bitsL (pR zs).1 ++ (wrL (pR zs).1 ++ txN k a b c d) := by
      have : (pkE (pR zs).1 k a b c d).drop 2 = bitsL (pR zs).1 ++ (wrL (pR zs).1 ++ txN k a b c d) := by simp [pkE, hdL]
      rw [h] at this
      exact this
    have hm : (bitsL (pR zs).1).length = by7 (pN zs) := by rw [bitsL_length, hl]
    rw [pB, hd, ← hm, List.take_left]
  · intro h
    have hk : ∀ j, j < pN zs → kb (pB zs) j = bI (mk (pR zs).1 j) := fun j hj => by rw [← h, bitsL_kb _ _ (by rw [hl]; exact hj)]
    have hfl := rdK_flat (pB zs) (zs.drop (2 + by7 (pN zs))) (pN zs) hx hk
    have e : zs = zs.take 2 ++ (pB zs ++ zs.drop (2 + by7 (pN zs))) := by
      have : zs.drop (2 + by7 (pN zs)) = (zs.drop 2).drop (by7 (pN zs)) := by rw [List.drop_drop]
      rw [this, pB, List.take_append_drop, List.take_append_drop]
    rw [pkE, hdL, ht, h, hl, ← e1, List.append_assoc, List.append_assoc]
    conv => rhs; rw [e, hfl]
    rfl

theorem okD_node {zs : List Int} (hb : Bytes zs) (h : okD zs) : ∃ k a b c d, dcN (pR zs).2.1 = nd k a b c d ∧ Nd k a b c d ∧ okN k a b c d = true ∧ k ≠ 2 ∧ txN k a b c d = (pR zs).2.1 := by
  obtain ⟨k, a, b, c, d, h1, h2, h3, h4⟩ := enc_dec (pR_bytes hb) h.2.2.2.1
  refine ⟨k, a, b, c, d, h1, h2, h3, fun e => ?_, h4⟩
  have := h.2.2.2.2
  rw [h1] at this
  exact this (by rw [e]; rfl)
theorem okD_enc {zs : List Int} (hb : Bytes zs) (h : okD zs) {k : Int} {a b c d : List Int} (hN : Nd k a b c d) (hn : dcN (pR zs).2.1 = nd k a b c d) : chE (pR zs).1 k a b c d = 0 ∧ pkE (pR zs).1 k a b c d = zs := by
  obtain ⟨k', a', b', c', d', h1, h2, h3, h4, h5⟩ := okD_node hb h
  rw [hn] at h1
  obtain ⟨rfl, rfl, rfl, rfl, rfl⟩ := (nd_inj hN h2).1 h1
  refine ⟨?_, (enc_back hb h.1 h.2.1 h5).2 h.2.2.1⟩
  have := h.1.2
  rw [chE, pR_len, if_neg (by omega), if_neg h4, okE, h3]
  rfl

/-- What is told is read again, whatever stands behind it. -/
theorem rdK_told {hs : List (List Int)} (hd : Dg hs) (t : List Int) : ∀ i, i ≤ hs.length → rdK (bitsL hs) (wrL hs ++ t) i = (hs.take i, wrL (hs.drop i) ++ t, false)
  | 0, _ => by simp [rdK]
  | i + 1, hi => by
    have ih := rdK_told hd t i (by omega)
    have hlt : i < hs.length := by omega
    have e1 : hs.take (i + 1) = hs.take i ++ [hs[i]] := by rw [List.take_add_one, List.getElem?_eq_getElem hlt]; rfl
    have e2 : hs.drop i = hs[i] :: hs.drop (i + 1) := List.drop_eq_getElem_cons hlt
    have e3 : wrL (hs.drop i) = wrL [hs[i]] ++ wrL (hs.drop (i + 1)) := by rw [e2]; exact wrL_append [hs[i]] _
    have hm : mk hs i = decide (hs[i] ≠ emD) := by simp [mk, List.getD, hlt]
    have hkb := bitsL_kb hs i hlt
    rw [hm] at hkb
    have h32 := (hd hs[i] (List.getElem_mem hlt)).1
    by_cases q : hs[i] = emD
    · have h0 : kb (bitsL hs) i = 0 := by rw [hkb]; simp [q, bI]
      rw [rdK, if_pos h0, ih, e1, e3, wrL_one, if_pos q, q]
      rfl
    · have h0 : ¬ kb (bitsL hs) i = 0 := by rw [hkb]; simp [q, bI]
      rw [rdK, if_neg h0, ih, if_neg (by simp), e3, wrL_one, if_neg q, e1]
      have hlen : 32 ≤ (hs[i] ++ wrL (hs.drop (i + 1)) ++ t).length := by simp only [List.length_append]; omega
      rw [if_pos hlen, List.append_assoc, ← h32, List.take_left, List.drop_left]

theorem told_parts {hs : List (List Int)} (hd : Dg hs) (hn : hs.length ≤ 256) (t : List Int) : pN (hdL hs ++ t) = hs.length ∧ fitD (hdL hs ++ t) ∧ pB (hdL hs ++ t) = bitsL hs ∧ pR (hdL hs ++ t) = (hs, t, false) := by
  have e : hdL hs ++ t = (hs.length : Int) / 256 :: (hs.length : Int) % 256 :: (bitsL hs ++ (wrL hs ++ t)) := by simp [hdL]
  have h1 : pN (hdL hs ++ t) = hs.length := by
    rw [e, pN, show ∀ x y : Int, ∀ r, (x :: y :: r).take 2 = [x, y] from fun _ _ _ => rfl, num_two]
    omega
  have hl := bitsL_length hs
  have h2 : fitD (hdL hs ++ t) := by
    refine ⟨?_, by rw [h1]; exact hn⟩
    rw [h1, e]
    simp only [List.length_cons, List.length_append, hl]
    omega
  have h3 : pB (hdL hs ++ t) = bitsL hs := by
    rw [pB, h1, e, show ∀ x y : Int, ∀ r, (x :: y :: r).drop 2 = r from fun _ _ _ => rfl, ← hl, List.take_left]
  refine ⟨h1, h2, h3, ?_⟩
  have h4 : (hdL hs ++ t).drop (2 + by7 hs.length) = wrL hs ++ t := by
    rw [e, ← List.drop_drop, show ∀ x y : Int, ∀ r, (x :: y :: r).drop 2 = r from fun _ _ _ => rfl, ← hl, List.drop_left]
  rw [pR, h3, h1, h4, rdK_told hd t _ (Nat.le_refl _), List.take_length, List.drop_length]
  rfl

theorem chE_ok {hs : List (List Int)} {k : Int} {a b c d : List Int} (h : chE hs k a b c d = 0) : hs.length ≤ 256 ∧ k ≠ 2 ∧ okN k a b c d = true := by
  unfold chE at h
  split at h
  · omega
  · split at h
    · omega
    · refine ⟨by omega, by assumption, ?_⟩
      unfold okE at h
      split at h
      · assumption
      · omega
theorem pkE_bytes {hs : List (List Int)} {k : Int} {a b c d : List Int} (hd : Dg hs) (hN : Nd k a b c d) (h : chE hs k a b c d = 0) : Bytes (pkE hs k a b c d) := (hdL_bytes hd (by have := (chE_ok h).1; omega)).append (txN_bytes hN)
/-- What is told of a proof is read as that proof. -/
theorem dec_told {hs : List (List Int)} {k : Int} {a b c d : List Int} (hd : Dg hs) (hN : Nd k a b c d) (h : chE hs k a b c d = 0) : okD (pkE hs k a b c d) ∧ (pR (pkE hs k a b c d)).1 = hs ∧ dcN (pR (pkE hs k a b c d)).2.1 = nd k a b c d := by
  obtain ⟨hn, hk, ho⟩ := chE_ok h
  obtain ⟨h1, h2, h3, h4⟩ := told_parts hd hn (txN k a b c d)
  obtain ⟨h5, h6⟩ := dec_enc hN ho
  refine ⟨⟨h2, ?_, ?_, ?_, ?_⟩, ?_, ?_⟩ <;> rw [pkE, h4]
  · exact h3.symm
  · exact h6
  · rw [h5]; exact hk
  · exact h5
theorem dcE_len {t : List Int} (h1 : t.length ≠ 65) (h2 : t.length ≠ 1) : dcE t = 10 := by
  rw [dcE, if_neg (fun q => h1 q.1), if_neg (fun q => h1 q.1), if_neg (fun q => h2 q.1)]
/-- A byte more is no proof's, the last one less neither. -/
theorem dec_more {hs : List (List Int)} {k : Int} {a b c d : List Int} (hd : Dg hs) (hN : Nd k a b c d) (h : chE hs k a b c d = 0) (x : Int) : ¬ okD (pkE hs k a b c d ++ [x]) := by
  obtain ⟨hn, hk, ho⟩ := chE_ok h
  obtain ⟨h1, h2, h3, h4⟩ := told_parts hd hn (txN k a b c d ++ [x])
  intro q
  have := q.2.2.2.1
  have hp := txN_pos hN ho
  have h10 : dcE (txN k a b c d ++ [x]) = 10 := dcE_len (by rw [List.length_append, List.length_singleton]; omega) (by rw [List.length_append, List.length_singleton]; omega)
  rw [pkE, List.append_assoc, h4, h10] at this
  omega
theorem dec_less {hs : List (List Int)} {k : Int} {a b c d : List Int} (hd : Dg hs) (hN : Nd k a b c d) (h : chE hs k a b c d = 0) : ¬ okD ((pkE hs k a b c d).take ((pkE hs k a b c d).length - 1)) := by
  obtain ⟨hn, hk, ho⟩ := chE_ok h
  have hp := txN_pos hN ho
  have e : (pkE hs k a b c d).take ((pkE hs k a b c d).length - 1) = hdL hs ++ (txN k a b c d).take ((txN k a b c d).length - 1) := by
    rw [pkE, List.length_append, List.take_append, List.take_of_length_le (by omega), show (hdL hs).length + (txN k a b c d).length - 1 - (hdL hs).length = (txN k a b c d).length - 1 by omega]
  obtain ⟨h1, h2, h3, h4⟩ := told_parts hd hn ((txN k a b c d).take ((txN k a b c d).length - 1))
  intro q
  have := q.2.2.2.1
  have h10 : dcE ((txN k a b c d).take ((txN k a b c d).length - 1)) = 10 := dcE_len (by rw [List.length_take]; omega) (by rw [List.length_take]; omega)
  rw [e, h4, h10] at this
  omega
theorem pkE_size {hs : List (List Int)} {k : Int} {a b c d : List Int} (hd : Dg hs) (hN : Nd k a b c d) (h : chE hs k a b c d = 0) : 3 ≤ (pkE hs k a b c d).length ∧ (pkE hs k a b c d).length ≤ 8291 := by
  obtain ⟨hn, hk, ho⟩ := chE_ok h
  have hp := txN_pos hN ho
  have hl := hdL_length_le hd hn
  rw [pkE, List.length_append]
  have : 2 ≤ (hdL hs).length := by simp [hdL]
  omega

end Go.Proofs.YtpihigcnoifcfaaGreatDoor
