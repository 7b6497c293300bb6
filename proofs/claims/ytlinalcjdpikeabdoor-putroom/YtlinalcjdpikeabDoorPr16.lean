/- Slots of a slab of things of type store.cell, as a contract. -/
import Derived.Test.YtlinalcjdpikeabDoorPr14
namespace Go.Proofs.YtlinalcjdpikeabDoor
set_option maxRecDepth 20000
open Go.RowKit

end Go.Proofs.YtlinalcjdpikeabDoor

/- A slab of things of type store.cell that a walk keeps: in whatever blocks of the walk's own it lies. -/
namespace Go.Proofs.YtlinalcjdpikeabDoor
set_option maxRecDepth 20000
open Go.RowKit

/-- The slab at g is in this state, all its blocks are new since w0, and nothing of w0 has turned. -/
def HsC (w0 w : World) (g room : Nat) (ps : List Pl) (fr : List Nat) : Prop := ∃ vp vf, SlC w g vp vf room ps fr ∧ (∀ k ∈ slB g vp vf, w0.heap.size ≤ k) ∧ Below w0.heap.size w0 w

theorem HsC.low {w0 w : World} {g room : Nat} {ps : List Pl} {fr : List Nat} (h : HsC w0 w g room ps fr) : Below w0.heap.size w0 w := by
  obtain ⟨_, _, _, _, h⟩ := h
  exact h

theorem HsC.inv {w0 w : World} {g room : Nat} {ps : List Pl} {fr : List Nat} (h : HsC w0 w g room ps fr) : Inv room ps fr := by
  obtain ⟨_, _, h, _, _⟩ := h
  exact h.inv

theorem HsC.grow {w0 w w' : World} {g room : Nat} {ps : List Pl} {fr : List Nat} (h : HsC w0 w g room ps fr) (hb : Below w.heap.size w w') : HsC w0 w' g room ps fr := by
  obtain ⟨vp, vf, h1, h2, h3⟩ := h
  exact ⟨vp, vf, h1.mod (Mod.of_below hb []) (fun _ _ h => by cases h), h2, h3.trans (hb.mono h3.size)⟩

/-- A call that turns it. -/
theorem HsC.use {w0 w : World} {g room : Nat} {ps ps' : List Pl} {fr fr' : List Nat} {f : FuncId} {args : Array Value} {E : Value} (h : HsC w0 w g room ps fr)
    (hc : ∀ vp vf, SlC w g vp vf room ps fr → Calls Tryd.prog f args w fun e w' => e = .returned E ∧ TurnC w g (slB g vp vf) room ps' fr' w') : Calls Tryd.prog f args w fun e w' => e = .returned E ∧ HsC w0 w' g room ps' fr' := by
  obtain ⟨vp, vf, h1, h2, h3⟩ := h
  refine (hc vp vf h1).mono ?_
  rintro e w' ⟨rfl, vp', vf', k1, k2, k3⟩
  exact ⟨rfl, vp', vf', k1, k3.base h2 h3.size, h3.trans (k2.below h2 h3.size)⟩

/-- A call that leaves it. -/
theorem HsC.look {w0 w : World} {g room : Nat} {ps : List Pl} {fr : List Nat} {f : FuncId} {args : Array Value} {E : Value} (h : HsC w0 w g room ps fr)
    (hc : ∀ vp vf, SlC w g vp vf room ps fr → Calls Tryd.prog f args w fun e w' => e = .returned E ∧ Below w.heap.size w w') : Calls Tryd.prog f args w fun e w' => e = .returned E ∧ HsC w0 w' g room ps fr := by
  obtain ⟨vp, vf, h1, h2, h3⟩ := h
  refine (hc vp vf h1).mono ?_
  rintro e w' ⟨rfl, hb⟩
  exact ⟨rfl, HsC.grow ⟨vp, vf, h1, h2, h3⟩ hb⟩

theorem calls_sameC {w : World} {f : FuncId} {args : Array Value} {E : Value} (hc : Calls Tryd.prog f args w fun e w' => e = .returned E ∧ w' = w) : Calls Tryd.prog f args w fun e w' => e = .returned E ∧ Below w.heap.size w w' := hc.mono (fun _ _ ⟨h1, h2⟩ => ⟨h1, h2 ▸ Below.refl _ _⟩)

end Go.Proofs.YtlinalcjdpikeabDoor
