/- The root of entries and a key's way among them, by definition, with no word of the program; that the root hangs on no order, that it is both sides' roots, and that a way leads up to it. -/
import Derived.Test.YtkhinjkcfjncgaaGreatDoorNa09
import Derived.Test.YtkhinjkcfjncgaaGreatDoorNa05
import Derived.WalkKit
namespace Go.Proofs.YtkhinjkcfjncgaaGreatDoor
set_option maxRecDepth 20000
open Go.RowKit

/-- An entry: a key's bytes, a value's bytes. -/
abbrev Ent := List Int × List Int

/-- The digests of a tree's nodes. -/
def emD : List Int := dig [0]
def lfD (K V : List Int) : List Int := dig (1 :: (K ++ V))
def inD (a b : List Int) : List Int := dig (2 :: (a ++ b))
def vaD (V : List Int) : List Int := dig (3 :: V)
def enD (e : Ent) : List Int := lfD e.1 (vaD e.2)

/-- The entries whose bit d is this one, in their order. -/
def sideOf (l : List Ent) (d : Nat) (b : Int) : List Ent := l.filter fun e => kbi e.1 d == b

/-- The root at the depth d; n: how many depths are left. -/
def rt : Nat → Nat → List Ent → List Int
  | _, _, [] => emD
  | _, _, [e] => enD e
  | 0, _, _ :: _ :: _ => inD emD emD
  | n + 1, d, a :: b :: l => inD (rt n (d + 1) (sideOf (a :: b :: l) d 0)) (rt n (d + 1) (sideOf (a :: b :: l) d 1))

theorem rt_nil (n d : Nat) : rt n d [] = emD := by cases n <;> rfl
theorem rt_one (n d : Nat) (e : Ent) : rt n d [e] = enD e := by cases n <;> rfl
theorem rt_more (n d : Nat) (l : List Ent) (h : 2 ≤ l.length) : rt (n + 1) d l = inD (rt n (d + 1) (sideOf l d 0)) (rt n (d + 1) (sideOf l d 1)) := by
  match l, h with
  | a :: b :: l, _ => rfl

/-- It hangs on no order. -/
theorem rt_perm : ∀ (n d : Nat) (l m : List Ent), l.Perm m → rt n d l = rt n d m := by
  intro n
  induction n with
  | zero =>
    intro d l m h
    match l, m, h with
    | [], m, h => rw [List.nil_perm.1 h]
    | [e], m, h => rw [List.singleton_perm.1 h]
    | a :: b :: l, [], h => exact absurd h.length_eq (by simp)
    | a :: b :: l, [e], h => exact absurd h.length_eq (by simp)
    | a :: b :: l, c :: d :: m, h => rfl
  | succ n ih =>
    intro d l m h
    match l, m, h with
    | [], m, h => rw [List.nil_perm.1 h]
    | [e], m, h => rw [List.singleton_perm.1 h]
    | a :: b :: l, m, h =>
      have h2 : 2 ≤ m.length := by rw [← h.length_eq]; simp
      have hs : ∀ c, (sideOf (a :: b :: l) d c).Perm (sideOf m d c) := fun c => h.filter _
      rw [rt_more n d _ (by simp), rt_more n d m h2, ih (d + 1) _ _ (hs 0), ih (d + 1) _ _ (hs 1)]

/-- No two entries have the same key. -/
def Apart1 (l : List Ent) : Prop := l.Pairwise fun a b => a.1 ≠ b.1
theorem Apart1.side {l : List Ent} (h : Apart1 l) (d : Nat) (b : Int) : Apart1 (sideOf l d b) := h.sublist List.filter_sublist

/-- All keys have key's first d bits. -/
def Share (l : List Ent) (key : List Int) (d : Nat) : Prop := ∀ e ∈ l, ∀ j, j < d → kb e.1 j = kb key j

theorem kbi_in (xs : List Int) (d : Nat) (h : d < 256) : kbi xs d = kb xs d := by
  unfold kbi
  rw [if_pos (by omega)]
  rfl

theorem Share.side {l : List Ent} {key : List Int} {d : Nat} (hd : d < 256) (h : Share l key d) : Share (sideOf l d (kb key d)) key (d + 1) := by
  intro e he j hj
  unfold sideOf at he
  rw [List.mem_filter] at he
  rcases Nat.lt_or_ge j d with q | q
  · exact h e he.1 j q
  · have : j = d := by omega
    subst this
    have := he.2
    rw [beq_iff_eq, kbi_in _ _ hd] at this
    exact this

/-- With all bits shared at most one entry is left. -/
theorem Share.few {l : List Ent} {key : List Int} (hk : ∀ e ∈ l, Key e.1) (ha : Apart1 l) (h : Share l key 256) : l.length ≤ 1 := by
  match l, hk, ha, h with
  | [], _, _, _ => simp
  | [e], _, _, _ => simp
  | a :: b :: l, hk, ha, h =>
    exfalso
    have h1 := List.rel_of_pairwise_cons ha (List.mem_cons_self (a := b) (l := l))
    exact h1 (key_ext (hk a (by simp)) (hk b (by simp)) fun j hj => by rw [h a (by simp) j hj, h b (by simp) j hj])

/-- The sides of a key's way, from the depth d on. -/
def sds : Nat → Nat → List Ent → List Int → List (List Int)
  | 0, _, _, _ => []
  | n + 1, d, l, key => if l.length ≤ 1 then [] else rt n (d + 1) (sideOf l d (1 - kb key d)) :: sds n (d + 1) (sideOf l d (kb key d)) key
/-- What is left at its end. -/
def rst : Nat → Nat → List Ent → List Int → List Ent
  | 0, _, l, _ => l
  | n + 1, d, l, key => if l.length ≤ 1 then l else rst n (d + 1) (sideOf l d (kb key d)) key

/-- Up from a digest: the sides from the last to the first. -/
def upD (key : List Int) : Nat → List (List Int) → List Int → List Int
  | _, [], h => h
  | d, s :: r, h => if kb key d = 0 then inD (upD key (d + 1) r h) s else inD s (upD key (d + 1) r h)

theorem sds_length : ∀ (n d : Nat) (l : List Ent) (key : List Int), (sds n d l key).length ≤ n := by
  intro n
  induction n with
  | zero => intro d l key; simp [sds]
  | succ n ih =>
    intro d l key
    unfold sds
    by_cases h : l.length ≤ 1
    · rw [if_pos h]; simp
    · rw [if_neg h]
      have := ih (d + 1) (sideOf l d (kb key d)) key
      simp only [List.length_cons]
      omega

/-- A key's way leads up to the root, and at most one entry is at its end. -/
theorem up_way : ∀ (n d : Nat) (l : List Ent) (key : List Int), d + n = 256 → (∀ e ∈ l, Key e.1) → Apart1 l → Share l key d → (rst n d l key).length ≤ 1 ∧ upD key d (sds n d l key) (rt 0 0 (rst n d l key)) = rt n d l := by
  have few : ∀ (n d : Nat) (l : List Ent), l.length ≤ 1 → rt 0 0 l = rt n d l := by
    intro n d l h
    match l, h with
    | [], _ => rw [rt_nil, rt_nil]
    | [e], _ => rw [rt_one, rt_one]
  intro n
  induction n with
  | zero =>
    intro d l key hd hk ha hs
    have hd' : d = 256 := by omega
    subst hd'
    have h := hs.few hk ha
    exact ⟨h, few 0 256 l h⟩
  | succ n ih =>
    intro d l key hd hk ha hs
    unfold rst sds
    by_cases h : l.length ≤ 1
    · rw [if_pos h, if_pos h]
      exact ⟨h, few _ _ l h⟩
    · rw [if_neg h, if_neg h]
      obtain ⟨i1, i2⟩ := ih (d + 1) (sideOf l d (kb key d)) key (by omega) (fun e he => hk e (List.mem_filter.1 he).1) (ha.side _ _) (hs.side (by omega))
      refine ⟨i1, ?_⟩
      rw [rt_more n d l (by omega)]
      unfold upD
      rw [i2]
      rcases kb_two key d with q | q
      · rw [if_pos q, q]
        rfl
      · rw [if_neg (by omega), q]
        rfl

/-- What is left at the end of a key's way are the entries with that key, if there are any. -/
theorem rst_mem : ∀ (n d : Nat) (l : List Ent) (key : List Int) (e : Ent), d + n = 256 → e ∈ l → e.1 = key → e ∈ rst n d l key := by
  intro n
  induction n with
  | zero => intro d l key e _ he _; exact he
  | succ n ih =>
    intro d l key e hd he hk
    unfold rst
    by_cases h : l.length ≤ 1
    · rw [if_pos h]; exact he
    · rw [if_neg h]
      refine ih (d + 1) _ key e (by omega) ?_ hk
      unfold sideOf
      rw [List.mem_filter, beq_iff_eq, kbi_in _ _ (by omega), hk]
      exact ⟨he, rfl⟩
theorem rst_sub : ∀ (n d : Nat) (l : List Ent) (key : List Int) (e : Ent), e ∈ rst n d l key → e ∈ l := by
  intro n
  induction n with
  | zero => intro d l key e he; exact he
  | succ n ih =>
    intro d l key e he
    unfold rst at he
    by_cases h : l.length ≤ 1
    · rw [if_pos h] at he; exact he
    · rw [if_neg h] at he
      exact (List.mem_filter.1 (ih _ _ _ _ he)).1

end Go.Proofs.YtkhinjkcfjncgaaGreatDoor

/- Looks at the operation that comes next, and nothing else: so that a law is tried there alone (under 'with_reducible'). -/
namespace Go.Proofs.YtkhinjkcfjncgaaGreatDoor
set_option maxRecDepth 20000
open Go.RowKit

theorem at_ld {P : Program} {ops : Array Oper} {Q : Exit → Act → World → Prop} {rest : List Oper} {a : Act} {w : World} {dst : Option Tmp} {ty t : TypeId} {p : String} {f : Array Edge} {g : Option (Nat × Bool)} (s : Nat)
    (h : wpList P ops Q (Oper.mk dst (.load ty (.tmp s)) t p f g :: rest) a w) : wpList P ops Q (Oper.mk dst (.load ty (.tmp s)) t p f g :: rest) a w := h

theorem at_ldd {P : Program} {ops : Array Oper} {Q : Exit → Act → World → Prop} {rest : List Oper} {a : Act} {w : World} {ty t : TypeId} {p : String} {f : Array Edge} {g : Option (Nat × Bool)} (k s : Nat)
    (h : wpList P ops Q (Oper.mk (some k) (.load ty (.tmp s)) t p f g :: rest) a w) : wpList P ops Q (Oper.mk (some k) (.load ty (.tmp s)) t p f g :: rest) a w := h

theorem at_st {P : Program} {ops : Array Oper} {Q : Exit → Act → World → Prop} {rest : List Oper} {a : Act} {w : World} {dst : Option Tmp} {ty t : TypeId} {p : String} {f : Array Edge} {g : Option (Nat × Bool)} {y : Operand} (s : Nat)
    (h : wpList P ops Q (Oper.mk dst (.store ty (.tmp s) y) t p f g :: rest) a w) : wpList P ops Q (Oper.mk dst (.store ty (.tmp s) y) t p f g :: rest) a w := h

theorem at_al {P : Program} {ops : Array Oper} {Q : Exit → Act → World → Prop} {rest : List Oper} {a : Act} {w : World} {dst : Option Tmp} {ty t : TypeId} {p : String} {f : Array Edge} {g : Option (Nat × Bool)} 
    (h : wpList P ops Q (Oper.mk dst (.alloc ty) t p f g :: rest) a w) : wpList P ops Q (Oper.mk dst (.alloc ty) t p f g :: rest) a w := h

theorem at_bx {P : Program} {ops : Array Oper} {Q : Exit → Act → World → Prop} {rest : List Oper} {a : Act} {w : World} {dst : Option Tmp} {ty t : TypeId} {p : String} {f : Array Edge} {g : Option (Nat × Bool)} {x : Operand}
    (h : wpList P ops Q (Oper.mk dst (.box ty x) t p f g :: rest) a w) : wpList P ops Q (Oper.mk dst (.box ty x) t p f g :: rest) a w := h

theorem at_bd {P : Program} {ops : Array Oper} {Q : Exit → Act → World → Prop} {rest : List Oper} {a : Act} {w : World} {dst : Option Tmp} {ty t : TypeId} {p : String} {f : Array Edge} {g : Option (Nat × Bool)} {x : Array (Nat × Operand)}
    (h : wpList P ops Q (Oper.mk dst (.build ty x) t p f g :: rest) a w) : wpList P ops Q (Oper.mk dst (.build ty x) t p f g :: rest) a w := h

theorem at_ald {P : Program} {ops : Array Oper} {Q : Exit → Act → World → Prop} {rest : List Oper} {a : Act} {w : World} {ty t : TypeId} {p : String} {f : Array Edge} {g : Option (Nat × Bool)} (k : Nat)
    (h : wpList P ops Q (Oper.mk (some k) (.alloc ty) t p f g :: rest) a w) : wpList P ops Q (Oper.mk (some k) (.alloc ty) t p f g :: rest) a w := h

theorem at_bxd {P : Program} {ops : Array Oper} {Q : Exit → Act → World → Prop} {rest : List Oper} {a : Act} {w : World} {ty t : TypeId} {p : String} {f : Array Edge} {g : Option (Nat × Bool)} {x : Operand} (k : Nat)
    (h : wpList P ops Q (Oper.mk (some k) (.box ty x) t p f g :: rest) a w) : wpList P ops Q (Oper.mk (some k) (.box ty x) t p f g :: rest) a w := h

theorem at_cd {P : Program} {ops : Array Oper} {Q : Exit → Act → World → Prop} {rest : List Oper} {a : Act} {w : World} {t : TypeId} {p : String} {f : Array Edge} {g : Option (Nat × Bool)} {c : Call} (k : Nat)
    (h : wpList P ops Q (Oper.mk (some k) (.call c) t p f g :: rest) a w) : wpList P ops Q (Oper.mk (some k) (.call c) t p f g :: rest) a w := h

theorem at_bdd {P : Program} {ops : Array Oper} {Q : Exit → Act → World → Prop} {rest : List Oper} {a : Act} {w : World} {ty t : TypeId} {p : String} {f : Array Edge} {g : Option (Nat × Bool)} {x : Array (Nat × Operand)} (k : Nat)
    (h : wpList P ops Q (Oper.mk (some k) (.build ty x) t p f g :: rest) a w) : wpList P ops Q (Oper.mk (some k) (.build ty x) t p f g :: rest) a w := h

end Go.Proofs.YtkhinjkcfjncgaaGreatDoor
