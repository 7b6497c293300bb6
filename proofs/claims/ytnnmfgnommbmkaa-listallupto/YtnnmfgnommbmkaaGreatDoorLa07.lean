/- path's functions by what their answers are, the answer given ahead; what follows of a key's bits. -/
import Derived.Test.YtnnmfgnommbmkaaGreatDoorLa01
import Derived.Test.YtnnmfgnommbmkaaGreatDoorLa06
import Derived.Test.YtnnmfgnommbmkaaGreatDoorLa04
import Derived.WalkKit
namespace Go.Proofs.YtnnmfgnommbmkaaGreatDoor
set_option maxRecDepth 20000
open Go.RowKit

theorem common_ex (xs ys : List Int) : ∃ c, IsCommon xs ys c := by
  have key : ∀ n, n ≤ 256 → (∃ c, c < n ∧ (∀ j, j < c → kb xs j = kb ys j) ∧ kb xs c ≠ kb ys c) ∨ ∀ j, j < n → kb xs j = kb ys j := by
    intro n
    induction n with
    | zero => exact fun _ => Or.inr fun j hj => by omega
    | succ n ih =>
      intro hn
      rcases ih (by omega) with ⟨c, h1, h2⟩ | h
      · exact Or.inl ⟨c, by omega, h2⟩
      · by_cases e : kb xs n = kb ys n
        · refine Or.inr fun j hj => ?_
          rcases Nat.lt_or_ge j n with q | q
          · exact h j q
          · have : j = n := by omega
            subst this
            exact e
        · exact Or.inl ⟨n, by omega, h, e⟩
  rcases key 256 (by omega) with ⟨c, h1, h2, h3⟩ | h
  · exact ⟨c, by omega, h2, fun _ => h3⟩
  · exact ⟨256, by omega, h, fun h => by omega⟩

theorem common_at (xs ys : List Int) (c : Nat) (w : World) (hx : Key xs) (hy : Key ys) (hc : IsCommon xs ys c) : Calls Tryz.prog 86 #[.agg (B xs), .agg (B ys)] w fun e w' => e = .returned (.int .i64 c) ∧ Below w.heap.size w w' := by
  refine (common_any xs ys w hx hy).mono ?_
  rintro e w' ⟨c', h, rfl, b⟩
  rw [h.one hc]
  exact ⟨rfl, b⟩

theorem under_at (xs ys : List Int) (d : Int) (b : Bool) (w : World) (hx : Key xs) (hy : Key ys) (hb : b = true ↔ Und xs ys d) : Calls Tryz.prog 56 #[.agg (B xs), .agg (B ys), .int .i64 d] w fun e w' => e = .returned (.bool b) ∧ Below w.heap.size w w' := by
  refine (under_any xs ys d w hx hy).mono ?_
  rintro e w' ⟨b', h, rfl, q⟩
  have : b' = b := Bool.eq_iff_iff.2 (h.trans hb.symm)
  rw [this]
  exact ⟨rfl, q⟩

def kbi (xs : List Int) (d : Int) : Int := if 0 ≤ d ∧ d < 256 then kb xs d.toNat else -1

theorem bit_any (xs : List Int) (d : Int) (w : World) (hx : Key xs) : Calls Tryz.prog 26 #[.agg (B xs), .int .i64 d] w fun e w' => e = .returned (.int .i64 (kbi xs d)) ∧ Below w.heap.size w w' := by
  unfold kbi
  by_cases h : 0 ≤ d ∧ d < 256
  · rw [if_pos h]
    have e : d = ((d.toNat : Nat) : Int) := by omega
    have := bit_in xs d.toNat w hx (by omega)
    rw [← e] at this
    exact this
  · rw [if_neg h]
    exact bit_out _ _ rfl d w h

theorem cmp_self {xs : List Int} (hx : Key xs) : cmp xs xs = 0 := by
  rcases cmp_key hx hx with ⟨a, _⟩ | ⟨_, e⟩ | ⟨_, e⟩
  · exact a
  · exact e.ne.elim
  · exact e.ne.elim

theorem cmp_le {xs ys : List Int} (hx : Key xs) (hy : Key ys) : cmp xs ys ≤ 0 ↔ ¬ Ahead ys xs := by
  rcases cmp_key hx hy with ⟨a, e⟩ | ⟨a, e⟩ | ⟨a, e⟩
  · subst e
    exact ⟨fun _ h => h.ne, fun _ => by omega⟩
  · exact ⟨fun _ h => e.not h, fun _ => by omega⟩
  · exact ⟨fun h => by omega, fun h => absurd e h⟩
theorem cmp_lt {xs ys : List Int} (hx : Key xs) (hy : Key ys) : cmp xs ys < 0 ↔ Ahead xs ys := by
  rcases cmp_key hx hy with ⟨a, e⟩ | ⟨a, e⟩ | ⟨a, e⟩
  · subst e
    exact ⟨fun h => by omega, fun h => h.ne.elim⟩
  · exact ⟨fun _ => e, fun _ => by omega⟩
  · exact ⟨fun h => by omega, fun h => (e.not h).elim⟩

theorem IsNext.behind {xs ys : List Int} (h : IsNext xs ys) : Ahead xs ys := by
  obtain ⟨_, k, hk, a, b, c, _⟩ := h
  exact ⟨k, hk, fun j hj => (c j hj).symm, a, b⟩
theorem IsNext.least {xs ys ts : List Int} (h : IsNext xs ys) (ht : Ahead xs ts) : ¬ Ahead ts ys := by
  obtain ⟨_, k, hk, x0, y1, same, rest⟩ := h
  obtain ⟨c, hc, c1, c2, c3⟩ := ht
  rintro ⟨e, he, e1, e2, e3⟩
  have hck : c ≤ k := by
    rcases Nat.lt_or_ge k c with q | q
    · have := rest c q hc; omega
    · exact q
  rcases Nat.lt_trichotomy e c with q | q | q
  · have h1 := c1 e q
    have h2 := same e (by omega)
    omega
  · subst q; omega
  · have h1 := e1 c q
    rcases Nat.lt_or_ge c k with p | p
    · have h2 := same c p; omega
    · have : c = k := by omega
      subst this
      have := rest e q he
      omega
theorem IsLast.none {xs ts : List Int} (h : IsLast xs) : ¬ Ahead xs ts := by
  rintro ⟨c, hc, _, c2, _⟩
  have := h c hc
  omega

end Go.Proofs.YtnnmfgnommbmkaaGreatDoor

namespace Go.Proofs.YtnnmfgnommbmkaaGreatDoor
set_option maxRecDepth 20000
open Go.RowKit

abbrev Ent := List Int × List Int

def emD : List Int := dig [0]
def lfD (K V : List Int) : List Int := dig (1 :: (K ++ V))
def inD (a b : List Int) : List Int := dig (2 :: (a ++ b))
def vaD (V : List Int) : List Int := dig (3 :: V)
def enD (e : Ent) : List Int := lfD e.1 (vaD e.2)

def sideOf (l : List Ent) (d : Nat) (b : Int) : List Ent := l.filter fun e => kbi e.1 d == b

def rt : Nat → Nat → List Ent → List Int
  | _, _, [] => emD
  | _, _, [e] => enD e
  | 0, _, _ :: _ :: _ => inD emD emD
  | n + 1, d, a :: b :: l => inD (rt n (d + 1) (sideOf (a :: b :: l) d 0)) (rt n (d + 1) (sideOf (a :: b :: l) d 1))

theorem rt_nil (n d : Nat) : rt n d [] = emD := by cases n <;> rfl
theorem rt_one (n d : Nat) (e : Ent) : rt n d [e] = enD e := by cases n <;> rfl
theorem rt_more (n d : Nat) (l : List Ent) (h : 2 ≤ l.length) : rt (n + 1) d l = inD (rt n (d + 1) (sideOf l d 0)) (rt n (d + 1) (sideOf l d 1)) := by
  match l, h with
  | a :: b :: l, _ => rfl

def Apart1 (l : List Ent) : Prop := l.Pairwise fun a b => a.1 ≠ b.1
def Share (l : List Ent) (key : List Int) (d : Nat) : Prop := ∀ e ∈ l, ∀ j, j < d → kb e.1 j = kb key j

theorem kbi_in (xs : List Int) (d : Nat) (h : d < 256) : kbi xs d = kb xs d := by
  unfold kbi
  rw [if_pos (by omega)]
  rfl

def sds : Nat → Nat → List Ent → List Int → List (List Int)
  | 0, _, _, _ => []
  | n + 1, d, l, key => if l.length ≤ 1 then [] else rt n (d + 1) (sideOf l d (1 - kb key d)) :: sds n (d + 1) (sideOf l d (kb key d)) key
def rst : Nat → Nat → List Ent → List Int → List Ent
  | 0, _, l, _ => l
  | n + 1, d, l, key => if l.length ≤ 1 then l else rst n (d + 1) (sideOf l d (kb key d)) key

def upD (key : List Int) : Nat → List (List Int) → List Int → List Int
  | _, [], h => h
  | d, s :: r, h => if kb key d = 0 then inD (upD key (d + 1) r h) s else inD s (upD key (d + 1) r h)

end Go.Proofs.YtnnmfgnommbmkaaGreatDoor

namespace Go.Proofs.YtnnmfgnommbmkaaGreatDoor
set_option maxRecDepth 20000
open Go.RowKit

theorem at_ldd {P : Program} {ops : Array Oper} {Q : Exit → Act → World → Prop} {rest : List Oper} {a : Act} {w : World} {ty t : TypeId} {p : String} {f : Array Edge} {g : Option (Nat × Bool)} (k s : Nat)
    (h : wpList P ops Q (Oper.mk (some k) (.load ty (.tmp s)) t p f g :: rest) a w) : wpList P ops Q (Oper.mk (some k) (.load ty (.tmp s)) t p f g :: rest) a w := h

theorem at_st {P : Program} {ops : Array Oper} {Q : Exit → Act → World → Prop} {rest : List Oper} {a : Act} {w : World} {dst : Option Tmp} {ty t : TypeId} {p : String} {f : Array Edge} {g : Option (Nat × Bool)} {y : Operand} (s : Nat)
    (h : wpList P ops Q (Oper.mk dst (.store ty (.tmp s) y) t p f g :: rest) a w) : wpList P ops Q (Oper.mk dst (.store ty (.tmp s) y) t p f g :: rest) a w := h

theorem at_bd {P : Program} {ops : Array Oper} {Q : Exit → Act → World → Prop} {rest : List Oper} {a : Act} {w : World} {dst : Option Tmp} {ty t : TypeId} {p : String} {f : Array Edge} {g : Option (Nat × Bool)} {x : Array (Nat × Operand)}
    (h : wpList P ops Q (Oper.mk dst (.build ty x) t p f g :: rest) a w) : wpList P ops Q (Oper.mk dst (.build ty x) t p f g :: rest) a w := h

theorem at_ald {P : Program} {ops : Array Oper} {Q : Exit → Act → World → Prop} {rest : List Oper} {a : Act} {w : World} {ty t : TypeId} {p : String} {f : Array Edge} {g : Option (Nat × Bool)} (k : Nat)
    (h : wpList P ops Q (Oper.mk (some k) (.alloc ty) t p f g :: rest) a w) : wpList P ops Q (Oper.mk (some k) (.alloc ty) t p f g :: rest) a w := h

theorem at_bxd {P : Program} {ops : Array Oper} {Q : Exit → Act → World → Prop} {rest : List Oper} {a : Act} {w : World} {ty t : TypeId} {p : String} {f : Array Edge} {g : Option (Nat × Bool)} {x : Operand} (k : Nat)
    (h : wpList P ops Q (Oper.mk (some k) (.box ty x) t p f g :: rest) a w) : wpList P ops Q (Oper.mk (some k) (.box ty x) t p f g :: rest) a w := h

theorem at_bdd {P : Program} {ops : Array Oper} {Q : Exit → Act → World → Prop} {rest : List Oper} {a : Act} {w : World} {ty t : TypeId} {p : String} {f : Array Edge} {g : Option (Nat × Bool)} {x : Array (Nat × Operand)} (k : Nat)
    (h : wpList P ops Q (Oper.mk (some k) (.build ty x) t p f g :: rest) a w) : wpList P ops Q (Oper.mk (some k) (.build ty x) t p f g :: rest) a w := h

end Go.Proofs.YtnnmfgnommbmkaaGreatDoor
