/- The document's Set (rootcellarref04), as a contract. -/
import Derived.Test.YtjcklpdifanjlaaDoorRef4a
import Derived.Deep.RegionHeld2
namespace Go.Proofs.YtjcklpdifanjlaaDoor
set_option maxRecDepth 20000
open Go.RowKit

theorem u_b32 : Tryd.prog.underlying 23 = some (.array 32 5) := Tryd.underlying23
theorem b32_size {xs : List Int} (h : Key xs) : (Tryd.prog.info? 23).map (·.size) = some (B xs).size := by rw [B_size, h.1]; exact size_b32

theorem set_key (xs : List Int) (d : Nat) (b z : Int) (hx : Key xs) (hd : d < 256) (hb : b = 0 ∨ b = 1) (hz : z = xs.getD (d / 8) 0 + (b - kb xs d) * 2 ^ (7 - d % 8)) : 0 ≤ z ∧ z ≤ 255 ∧ IsSet xs d b (xs.set (d / 8) z) := by
  obtain ⟨⟨h1, h2⟩, h3⟩ := bt_put (xs.getD (d / 8) 0) b (hx.byte _) hb (d % 8) (by omega)
  have e : xs.getD (d / 8) 0 + (b - bt (xs.getD (d / 8) 0) (d % 8)) * 2 ^ (7 - d % 8) = z := hz.symm
  rw [e] at h1 h2 h3
  refine ⟨h1, h2, hx.set _ _ ⟨h1, h2⟩, fun j hj => ?_⟩
  rw [kb_set _ _ _ _ (by rw [hx.1]; omega)]
  by_cases q : j / 8 = d / 8
  · rw [if_pos q, h3 _ (by omega)]
    by_cases p : j % 8 = d % 8
    · rw [if_pos p, if_pos (by omega)]
    · rw [if_neg p, if_neg (by omega)]
      unfold kb
      rw [q]
  · rw [if_neg q, if_neg (by omega)]

end Go.Proofs.YtjcklpdifanjlaaDoor
