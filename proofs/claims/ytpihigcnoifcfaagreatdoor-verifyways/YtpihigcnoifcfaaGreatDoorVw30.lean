/- The document's Of and Compare (rootcellarref04), as contracts. -/
import Derived.Test.YtpihigcnoifcfaaGreatDoorVw29
import Derived.Test.YtpihigcnoifcfaaGreatDoorVw26
import Derived.Test.YtpihigcnoifcfaaGreatDoorVw19
namespace Go.Proofs.YtpihigcnoifcfaaGreatDoor
set_option maxRecDepth 20000
open Go.RowKit

/-- The first k bytes are laid. -/
def Cop (xs : List Int) (k : Nat) (ys : List Int) : Prop := ys.length = 32 ∧ ∀ j, j < 32 → ys.getD j 0 = if j < k then xs.getD j 0 else 0
theorem Cop.start (xs : List Int) : Cop xs 0 (List.replicate 32 0) := ⟨by simp, fun j hj => by rw [if_neg (by omega)]; rw [List.getD_eq_getElem?_getD, List.getElem?_replicate, if_pos hj]; rfl⟩
theorem Cop.step {xs ys : List Int} {k : Nat} (h : Cop xs k ys) (hk : k < 32) : Cop xs (k + 1) (ys.set k (xs.getD k 0)) := by
  refine ⟨by rw [List.length_set]; exact h.1, fun j hj => ?_⟩
  rw [key_getD_set _ _ _ _ (by rw [h.1]; exact hk), h.2 j hj]
  by_cases e : j = k
  · subst e
    rw [if_pos rfl, if_pos (by omega)]
  · rw [if_neg e]
    by_cases q : j < k
    · rw [if_pos q, if_pos (by omega)]
    · rw [if_neg q, if_neg (by omega)]
theorem Cop.all {xs ys : List Int} (h : Cop xs 32 ys) (hl : xs.length = 32) : ys = xs := by
  apply List.ext_getElem (by rw [h.1, hl])
  intro j h1 h2
  have := h.2 j (by have := h.1; omega)
  rw [if_pos (by have := h.1; omega)] at this
  simpa [List.getD, h1, h2] using this

end Go.Proofs.YtpihigcnoifcfaaGreatDoor

/- The document's Decode of nodes, as a contract. -/
namespace Go.Proofs.YtpihigcnoifcfaaGreatDoor
set_option maxRecDepth 20000
open Go.RowKit

theorem reads_seg {w : World} {b off c : Nat} {zs : List Int} (hc : ∀ i, i < zs.length → w.cell? ⟨b, off + i, none⟩ = some (.int .u8 (zs.getD i 0))) (o n : Nat) (xs : List Int) (hs : Seg zs o xs) (hn : xs.length = n) (hb : Bytes xs) (hcap : n ≤ c) : Reads w (.slice (some ⟨b, off + o, none⟩) n c) xs := by
  subst hn
  refine ⟨_, _, rfl, hcap, fun h => (by cases h), hb, fun _ => ⟨b, off + o, rfl, fun i hi => ?_⟩⟩
  have h1 := hs i xs[i] (by simp)
  obtain ⟨h2, h3⟩ := List.getElem?_eq_some_iff.1 h1
  rw [Nat.add_assoc, hc (o + i) h2]
  simp [List.getD, h2, h3, hi]

end Go.Proofs.YtpihigcnoifcfaaGreatDoor

/- The document's Check and Encode of layer 17, as contracts. -/
namespace Go.Proofs.YtpihigcnoifcfaaGreatDoor
set_option maxRecDepth 20000
open Go.RowKit

theorem own_blk {b : Nat} {w : World} {v : Value} {zs sp : List Int} {g : Nat} {t : TypeId} {cs : Array Value} (h : Own b w v zs sp) (hb : Blk w g t cs) (ht : t ≠ 5) : v.ownBlock ≠ some g := by
  obtain ⟨_, _, _, h4⟩ := h
  rcases h4 with ⟨rfl, _⟩ | ⟨g', hid, _, rfl, hr⟩
  · simp [Value.ownBlock]
  · intro e
    obtain rfl : g' = g := by simpa [Value.ownBlock] using e
    unfold Row at hr
    unfold Blk at hb
    rw [hr] at hb
    injection hb with hb
    injection hb with _ h2
    exact ht h2.symm

theorem bitsOf_snoc (G : Nat → Bool) (q : Nat) : bitsOf G (q + 1) = bitsOf G q ++ [v8 G q 8] := by simp [bitsOf, List.range_succ]

end Go.Proofs.YtpihigcnoifcfaaGreatDoor
