/- node.bare, Check, is, as contracts. -/
import Derived.Test.YtbkolhhgajkjjaaGreatDoorPo17
namespace Go.Proofs.YtbkolhhgajkjjaaGreatDoor
set_option maxRecDepth 20000
open Go.RowKit
def okN (k : Int) (a b c d : List Int) : Bool := decide ((k = 0 ∧ a = z32 ∧ b = z32 ∧ c = z32 ∧ d = z32) ∨ (k = 1 ∧ c = z32 ∧ d = z32) ∨ (k = 2 ∧ a = z32 ∧ b = z32))
def BarePost (k : Int) (a b c d : List Int) (w : World) (e : Ending) (w' : World) : Prop :=
 ∃ k' a' b' c' d', e = .returned (.agg (B (nd k' a' b' c' d'))) ∧ Nd k' a' b' c' d' ∧ okN k a b c d = decide (nd k a b c d = nd k' a' b' c' d') ∧ Below w.heap.size w w'
def okE (k : Int) (a b c d : List Int) : Int := if okN k a b c d = true then 0 else 2
def TxtPost (zs : List Int) (n : Nat) (w : World) (e : Ending) (w' : World) : Prop :=
 ∃ g c sp, e = .returned (.slice (some ⟨g, 0, none⟩) n c) ∧ w.heap.size ≤ g ∧ g < w'.heap.size ∧ Own w.heap.size w' (.slice (some ⟨g, 0, none⟩) n c) zs sp ∧ Below w.heap.size w w'
structure NdF (N : List Int) (k : Int) (a b c d : List Int) : Prop where
 kd : ∀ w g t, Blk w g t (B N) → w.cell? ⟨g, 0, none⟩ = some (.int .u8 k)
 sa : Seg N 1 a
 sb : Seg N 33 b
 sc : Seg N 65 c
 sd : Seg N 97 d
 la : (Tryz.prog.info? 31).map (·.size) = some a.length
 lb : (Tryz.prog.info? 62).map (·.size) = some b.length
 lc : (Tryz.prog.info? 62).map (·.size) = some c.length
 ld : (Tryz.prog.info? 62).map (·.size) = some d.length
 ln : (Tryz.prog.info? 136).map (·.size) = some (B N).size
 ll : (Tryz.prog.info? 136).map (·.size) = some (B N).toList.length
def txN (k : Int) (a b c d : List Int) : List Int := if okN k a b c d = true then (if k = 1 then 1 :: (a ++ b) else if k = 2 then 2 :: (c ++ d) else [0]) else []
def dgN (k : Int) (a b c d : List Int) : List Int := if okN k a b c d = true then dig (txN k a b c d) else z32
def EncPost (k : Int) (a b c d : List Int) (w : World) (e : Ending) (w' : World) : Prop :=
 ∃ v sp, e = .returned (.tuple #[v, .int .i64 (okE k a b c d)]) ∧ Own w.heap.size w' v (txN k a b c d) sp ∧ Below w.heap.size w w'
def DigNPost (k : Int) (a b c d : List Int) (w : World) (e : Ending) (w' : World) : Prop :=
 e = .returned (.tuple #[.agg (B (dgN k a b c d)), .int .i64 (okE k a b c d)]) ∧ Below w.heap.size w w'
theorem Own.later {b b' : Nat} {w : World} {v : Value} {zs sp : List Int} (h : Own b w v zs sp) (hb : b' ≤ b) : Own b' w v zs sp := by
 obtain ⟨h1, h2, h3, h4⟩ := h
 refine ⟨h1, h2, h3, ?_⟩
 rcases h4 with h4 | ⟨g, hid, hg, h5⟩
 ·exact .inl h4
 ·exact .inr ⟨g, hid, Nat.le_trans hb hg, h5⟩
end Go.Proofs.YtbkolhhgajkjjaaGreatDoor
