/- A slab of things of type string that a walk keeps: in whatever blocks of the walk's own it lies. -/
import Derived.Test.YtodigmmpodbpiaaSlabCS
namespace Go.Proofs.Ytodigmmpodbpiaa
set_option maxRecDepth 20000
open Go.RowKit

/-- The slab at g is in this state, all its blocks are new since w0, and nothing of w0 has turned. -/
def HsS (w0 w : World) (g room : Nat) (ps : List Pl) (fr : List Nat) : Prop := ∃ vp vf, SlS w g vp vf room ps fr ∧ (∀ k ∈ slB g vp vf, w0.heap.size ≤ k) ∧ Below w0.heap.size w0 w

theorem HsS.low {w0 w : World} {g room : Nat} {ps : List Pl} {fr : List Nat} (h : HsS w0 w g room ps fr) : Below w0.heap.size w0 w := by
  obtain ⟨_, _, _, _, h⟩ := h
  exact h

theorem HsS.inv {w0 w : World} {g room : Nat} {ps : List Pl} {fr : List Nat} (h : HsS w0 w g room ps fr) : Inv room ps fr := by
  obtain ⟨_, _, h, _, _⟩ := h
  exact h.inv

theorem HsS.grow {w0 w w' : World} {g room : Nat} {ps : List Pl} {fr : List Nat} (h : HsS w0 w g room ps fr) (hb : Below w.heap.size w w') : HsS w0 w' g room ps fr := by
  obtain ⟨vp, vf, h1, h2, h3⟩ := h
  exact ⟨vp, vf, h1.mod (Mod.of_below hb []) (fun _ _ h => by cases h), h2, h3.trans (hb.mono h3.size)⟩

/-- A call that turns it. -/
theorem HsS.use {w0 w : World} {g room : Nat} {ps ps' : List Pl} {fr fr' : List Nat} {f : FuncId} {args : Array Value} {E : Value} (h : HsS w0 w g room ps fr)
    (hc : ∀ vp vf, SlS w g vp vf room ps fr → Calls Try.prog f args w fun e w' => e = .returned E ∧ TurnS w g (slB g vp vf) room ps' fr' w') : Calls Try.prog f args w fun e w' => e = .returned E ∧ HsS w0 w' g room ps' fr' := by
  obtain ⟨vp, vf, h1, h2, h3⟩ := h
  refine (hc vp vf h1).mono ?_
  rintro e w' ⟨rfl, vp', vf', k1, k2, k3⟩
  exact ⟨rfl, vp', vf', k1, k3.base h2 h3.size, h3.trans (k2.below h2 h3.size)⟩

/-- A call that leaves it. -/
theorem HsS.look {w0 w : World} {g room : Nat} {ps : List Pl} {fr : List Nat} {f : FuncId} {args : Array Value} {E : Value} (h : HsS w0 w g room ps fr)
    (hc : ∀ vp vf, SlS w g vp vf room ps fr → Calls Try.prog f args w fun e w' => e = .returned E ∧ Below w.heap.size w w') : Calls Try.prog f args w fun e w' => e = .returned E ∧ HsS w0 w' g room ps fr := by
  obtain ⟨vp, vf, h1, h2, h3⟩ := h
  refine (hc vp vf h1).mono ?_
  rintro e w' ⟨rfl, hb⟩
  exact ⟨rfl, HsS.grow ⟨vp, vf, h1, h2, h3⟩ hb⟩

theorem calls_sameS {w : World} {f : FuncId} {args : Array Value} {E : Value} (hc : Calls Try.prog f args w fun e w' => e = .returned E ∧ w' = w) : Calls Try.prog f args w fun e w' => e = .returned E ∧ Below w.heap.size w w' := hc.mono (fun _ _ ⟨h1, h2⟩ => ⟨h1, h2 ▸ Below.refl _ _⟩)

end Go.Proofs.Ytodigmmpodbpiaa
