/- path.Next, as a contract. -/
import Derived.Test.YtjcklpdifanjlaaDoorPath4
namespace Go.Proofs.YtjcklpdifanjlaaDoor
set_option maxRecDepth 20000
open Go.RowKit

/-- What a call leaves that tells the next key, or that there is none. -/
def NextPost (xs : List Int) (w : World) (e : Ending) (w' : World) : Prop := ∃ ys b, ((b = true ∧ IsNext xs ys) ∨ (b = false ∧ IsLast xs ∧ ys = List.replicate 32 0)) ∧ e = .returned (.tuple #[.agg (B ys), .bool b]) ∧ Below w.heap.size w w'

/-- While one is carried: all bytes from k on were 255 and are 0. -/
def Carried (xs : List Int) (k : Nat) (ys : List Int) : Prop := Key ys ∧ (∀ j, k ≤ j → j < 32 → xs.getD j 0 = 255) ∧ ∀ j, j < 32 → ys.getD j 0 = if j < k then xs.getD j 0 else 0

theorem Carried.start {xs : List Int} (hx : Key xs) : Carried xs 32 xs := ⟨hx, fun j h1 h2 => by omega, fun j hj => by rw [if_pos hj]⟩

theorem Carried.step {xs ys : List Int} {k : Nat} (h : Carried xs (k + 1) ys) (hk : k < 32) (hx : xs.getD k 0 = 255) : Carried xs k (ys.set k 0) := by
  refine ⟨h.1.set k 0 (by omega), fun j h1 h2 => ?_, fun j hj => ?_⟩
  · rcases Nat.lt_or_ge k j with e | e
    · exact h.2.1 j e h2
    · have : j = k := by omega
      subst this
      exact hx
  · rw [key_getD_set _ _ _ _ (by rw [h.1.1]; exact hk), h.2.2 j hj]
    by_cases e : j = k
    · rw [if_pos e, if_neg (by omega)]
    · rw [if_neg e]
      by_cases q : j < k
      · rw [if_pos q, if_pos (by omega)]
      · rw [if_neg q, if_neg (by omega)]

theorem Carried.last {xs ys : List Int} (h : Carried xs 0 ys) : IsLast xs := fun j hj => by
  unfold kb
  rw [h.2.1 (j / 8) (by omega) (by omega)]
  exact bt_full _ (by omega)

theorem Carried.next {xs ys : List Int} {k : Nat} (hx : Key xs) (h : Carried xs (k + 1) ys) (hk : k < 32) (hn : xs.getD k 0 ≠ 255) : IsNext xs (ys.set k (xs.getD k 0 + 1)) := by
  have hb := hx.byte k
  obtain ⟨m, hm, a1, a2, a3, a4⟩ := bt_next (xs.getD k 0) (by omega)
  have hl : k < ys.length := by rw [h.1.1]; exact hk
  have hget : ∀ j, j < 256 → kb (ys.set k (xs.getD k 0 + 1)) j = if j / 8 = k then bt (xs.getD k 0 + 1) (j % 8) else if j / 8 < k then kb xs j else 0 := by
    intro j hj
    rw [kb_set _ _ _ _ hl]
    by_cases e : j / 8 = k
    · rw [if_pos e, if_pos e]
    · rw [if_neg e, if_neg e]
      unfold kb
      rw [h.2.2 (j / 8) (by omega)]
      by_cases q : j / 8 < k
      · rw [if_pos (by omega), if_pos q]
      · rw [if_neg (by omega), if_neg q, bt_zero]
  refine ⟨h.1.set k _ (by omega), 8 * k + m, by omega, ?_, ?_, fun j hj => ?_, fun j hj hj2 => ?_⟩
  · unfold kb
    rw [show (8 * k + m) / 8 = k by omega, show (8 * k + m) % 8 = m by omega]
    exact a1
  · rw [hget _ (by omega), if_pos (by omega), show (8 * k + m) % 8 = m by omega]
    exact a2
  · rw [hget _ (by omega)]
    by_cases e : j / 8 = k
    · rw [if_pos e, a3 _ (by omega)]
      unfold kb
      rw [e]
    · rw [if_neg e, if_pos (by omega)]
  · rw [hget _ hj2]
    by_cases e : j / 8 = k
    · rw [if_pos e]
      have := a4 (j % 8) (by omega) (by omega)
      unfold kb
      rw [e]
      exact this
    · rw [if_neg e, if_neg (by omega)]
      refine ⟨?_, rfl⟩
      unfold kb
      rw [h.2.1 (j / 8) (by omega) (by omega)]
      exact bt_full _ (by omega)

end Go.Proofs.YtjcklpdifanjlaaDoor
