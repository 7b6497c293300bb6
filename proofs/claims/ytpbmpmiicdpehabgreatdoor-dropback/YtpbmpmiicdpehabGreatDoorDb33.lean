/- The laws' large, as a contract; one write of an entry of a list, as the laws of put make it. -/
import Derived.Test.YtpbmpmiicdpehabGreatDoorDb31
import Derived.Test.YtpbmpmiicdpehabGreatDoorDb32
import Derived.Test.YtpbmpmiicdpehabGreatDoorDb01
import Derived.Test.YtpbmpmiicdpehabGreatDoorDb15
namespace Go.Proofs.YtpbmpmiicdpehabGreatDoor
set_option maxRecDepth 20000
open Go.RowKit

def lgP (es : List Ent) : Bool := decide (16 < es.length) || es.any fun e => decide (1024 < e.2.length)
theorem lgP_false {es : List Ent} (h : lgP es = false) : es.length ≤ 16 ∧ ∀ e ∈ es, e.2.length ≤ 1024 := by
  unfold lgP at h
  simp only [Bool.or_eq_false_iff, decide_eq_false_iff_not, List.any_eq_false, decide_eq_true_eq] at h
  exact ⟨by omega, fun e he => by have := h.2 e he; omega⟩

end Go.Proofs.YtpbmpmiicdpehabGreatDoor

/- Cells of a block that is known whole are there. -/
namespace Go.Proofs.YtpbmpmiicdpehabGreatDoor
set_option maxRecDepth 20000
open Go.RowKit

theorem Blk.there {w : World} {g : Nat} {t : TypeId} {cs : Array Value} (h : Blk w g t cs) (o n : Nat) (hn : o + n ≤ cs.size) : w.there g o n := fun j hj => ⟨by rw [h.cell, Array.getElem?_eq_getElem (by omega)]; rfl, h.frozen _⟩

end Go.Proofs.YtpbmpmiicdpehabGreatDoor

/- Entries turned about in memory. -/
namespace Go.Proofs.YtpbmpmiicdpehabGreatDoor
set_option maxRecDepth 20000
open Go.RowKit

/-- Two entries turned about. -/
theorem swap_perm {α : Type} (l : List α) (x y : Nat) (hx : x < l.length) (hy : y < l.length) : ((l.set x l[y]).set y l[x]).Perm l := by
  have h := Array.swap_perm (xs := l.toArray) (i := x) (j := y) (by simpa using hx) (by simpa using hy)
  have h2 := Array.perm_iff_toList_perm.1 h
  simpa [Array.swap] using h2

theorem flatP_length (its : List (Ent × Value)) (h : ∀ p ∈ its, p.1.1.length = 32) : (flatP its).length = its.length * 33 := by
  induction its with
  | nil => rfl
  | cons p r ih =>
    have h1 := ih (fun q hq => h q (by simp [hq]))
    have h2 := encP_length p.1.1 p.2 (h p (by simp))
    simp only [flatP, List.flatMap_cons, List.length_append, List.length_cons] at h1 ⊢
    omega
theorem flatP_set : ∀ (its : List (Ent × Value)), (∀ p ∈ its, p.1.1.length = 32) → ∀ (i : Nat), i < its.length → ∀ (p : Ent × Value), (flatP its).take (i * 33) ++ (encP p.1.1 p.2 ++ (flatP its).drop (i * 33 + 33)) = flatP (its.set i p)
  | [], _, i, hi, _ => by simp at hi
  | q :: r, hl, 0, _, p => by
    have h1 := encP_length q.1.1 q.2 (hl q (by simp))
    simp only [flatP, List.flatMap_cons, List.set_cons_zero, Nat.zero_mul, List.take_zero, List.nil_append, Nat.zero_add]
    rw [List.drop_append_of_le_length (by omega), List.drop_eq_nil_of_le (by omega), List.nil_append]
  | q :: r, hl, i + 1, hi, p => by
    have h1 := encP_length q.1.1 q.2 (hl q (by simp))
    have ih := flatP_set r (fun x hx => hl x (by simp [hx])) i (by simpa using hi) p
    simp only [flatP, List.flatMap_cons, List.set_cons_succ] at ih ⊢
    rw [← ih, show (i + 1) * 33 = (encP q.1.1 q.2).length + i * 33 by omega, List.take_length_add_append, show (encP q.1.1 q.2).length + i * 33 + 33 = (encP q.1.1 q.2).length + (i * 33 + 33) by omega, List.drop_length_add_append, List.append_assoc]

theorem own_set {w : World} {base g n c i : Nat} {its : List (Ent × Value)} (h : w.ownsRow base 52 33 (.slice (some ⟨g, 0, none⟩) n c) n (flatP its)) (hn : its.length = n) (hl : ∀ q ∈ its, q.1.1.length = 32) (hi : i < n) (p : Ent × Value) (hp : p.1.1.length = 32) :
    (w.setCells g (i * 33) (encP p.1.1 p.2)).ownsRow base 52 33 (.slice (some ⟨g, 0, none⟩) n c) n (flatP (its.set i p)) := by
  have hl2 : ∀ q ∈ its.set i p, q.1.1.length = 32 := fun q hq => by
    rcases List.mem_or_eq_of_mem_set hq with hq | rfl
    · exact hl q hq
    · exact hp
  have e33 := encP_length p.1.1 p.2 hp
  rcases h.2 with ⟨e, e2⟩ | ⟨g', cap, cur, e, hb, hg, hc, hm, hs, ht⟩
  · omega
  · injection e with e1 e2 e3
    injection e1 with e1
    injection e1 with e1
    subst e1
    subst e3
    have hfit : i * 33 + (encP p.1.1 p.2).length ≤ cur.size := by rw [e33, hs]; omega
    have hB := Blk.cells (encP p.1.1 p.2) (i * 33) (show Blk w g 52 cur from hg) hfit
    refine ⟨by rw [flatP_length _ hl2, List.length_set, hn], .inr ⟨g, c, _, rfl, hb, hB, hc, hm, ?_, ?_⟩⟩
    · simp only [List.size_toArray, List.length_append, List.length_take, List.length_drop, Array.length_toList]
      omega
    · rw [← flatP_set its hl i (by omega) p, ← ht, e33]
      have hcl : cur.toList.length = c * 33 := by rw [Array.length_toList]; exact hs
      rw [List.take_take, List.drop_take, Nat.min_eq_left (by omega)]
      dsimp only
      rw [List.take_append, List.take_append, List.length_take, Nat.min_eq_left (by omega), List.take_take, Nat.min_eq_right (by omega), e33, List.take_of_length_le (l := encP p.1.1 p.2) (by omega)]
      congr 3

theorem own_range {w : World} {base g n c i : Nat} {its : List (Ent × Value)} (h : w.ownsRow base 52 33 (.slice (some ⟨g, 0, none⟩) n c) n (flatP its)) (hn : its.length = n) (hl : ∀ q ∈ its, q.1.1.length = 32) (hi : i < n) : w.rangeAt g (i * 33) (encP (its.getD i (e00, undef)).1.1 (its.getD i (e00, undef)).2) ∧ w.there g (i * 33) 33 := by
  rcases h.2 with ⟨e, e2⟩ | ⟨g', cap, cur, e, hb, hg, hc, hm, hs, ht⟩
  · omega
  · injection e with e1 e2 e3
    injection e1 with e1
    injection e1 with e1
    subst e1
    subst e3
    constructor
    · intro j u hu
      have e2 : its.getD i (e00, undef) = its[i] := by simp [List.getD, show i < its.length by omega]
      rw [e2] at hu
      have h1 := flatP_at its hl i (by omega) j u hu
      rw [← ht] at h1
      have h2 : (cur.toList)[i * 33 + j]? = some u := by
        rw [List.getElem?_take] at h1
        split at h1
        · exact h1
        · cases h1
      rw [cell_of_row w g _ cur _ _ hg]
      simpa using h2
    · exact Blk.there (show Blk w g 52 cur from hg) (i * 33) 33 (by rw [hs]; omega)

end Go.Proofs.YtpbmpmiicdpehabGreatDoor
