/- What an argument is in memory that is a call of a store's, or a list of them. -/
import Derived.Test.YtbkolhhgajkjjaaGreatDoorPo47
import Derived.Test.YtbkolhhgajkjjaaGreatDoorPo49
import Derived.Maps.OwnSet
import Derived.Maps.RangeWalk
import Derived.Maps.OwnOps
import Derived.Maps.Views
namespace Go.Proofs.YtbkolhhgajkjjaaGreatDoor
set_option maxRecDepth 20000
open Go.ChangeShapes Go.WideShapes Go.ChangeAt Go.RowKit
structure Ac where
 k : Int
 K : List Int
 v : Value
 bs : List Int
 d : Int
 x : Int
 y : Int
def acL (q : Ac) : List Value := azL q.k q.K q.v q.d q.x q.y
instance : Inhabited Ac := ⟨⟨0, z32, .slice none 0 0, [], 0, 0, 0⟩⟩
def AcAt (W : World) (v : Value) (qs : List Ac) : Prop :=
 ∃ a c, v = .slice a qs.length c ∧ (0 < qs.length → ∃ b off, a = some ⟨b, off, none⟩ ∧ ∀ i, i < qs.length → W.rangeAt b (off + i * 37) (acL (qs.getD i default))) ∧ ∀ i, i < qs.length → Key (qs.getD i default).K ∧ Reads W (qs.getD i default).v (qs.getD i default).bs ∧ (qs.getD i default).bs.length ≤ 140737488355328 - 4096
open Go.RowKit
def fsum (cs : List (Nat × Ce)) (L : List Nat) (k : Nat) (x : Int) : Nat := ((L.take k).map fun h => (if ((ce cs (h - 1)).l : Int) = x then 1 else 0) + (if ((ce cs (h - 1)).r : Int) = x then 1 else 0)).sum
abbrev kl7 (x : Int) : Lit := .int .i64 x
abbrev Wfi (x : Int) : Prop := (Lit.int .i64 x).wf = true
def SM (w : World) (b n : Nat) (f : Int → Nat) : Prop := ∃ D : DataW Unit, w.ownsMap Tryz.prog 3 (plainElem Tryz.prog 3) b n D ∧ ∀ x, D.atKey (kl7 x) (.lit (.int .i64 0)) = .lit (.int .i64 (f x : Int))
def Hx (w0 w : World) (X : List (Nat × Obj)) (g gs room : Nat) (cs : List (Nat × Ce)) (fr : List Nat) : Prop := (∃ vp vf, Stm w g gs vp vf room cs fr ∧ (∀ k ∈ stB g gs vp vf cs, w0.heap.size ≤ k) ∧ Below w0.heap.size w0 w ∧ ∀ x ∈ X, w.heap[x.1]? = some x.2 ∧ x.1 ∉ stB g gs vp vf cs) ∧ Wf cs []
end Go.Proofs.YtbkolhhgajkjjaaGreatDoor
