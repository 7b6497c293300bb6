/- walk.Find and walk.Depth, as contracts. -/
import Derived.Test.YtbkolhhgajkjjaaGreatDoorSs01
import Derived.Test.YtbkolhhgajkjjaaGreatDoorSs47
import Derived.Test.YtbkolhhgajkjjaaGreatDoorSs41
namespace Go.Proofs.YtbkolhhgajkjjaaGreatDoor
set_option maxRecDepth 20000
open Go.RowKit

structure HsAt1 (cs : List (Nat × Ce)) (K : List Int) (hs : List Nat) (fin : Nat) (oth : List Nat) (d k x : Nat) : Prop where
  at_ : hs[k]? = some x
  pos : 1 ≤ x
  occ : 0 < cc cs (x - 1)
  kind : (ce cs (x - 1)).kind = 2
  dp : (ce cs (x - 1)).dp = d + k
  lt : d + k < 256
  oth_ : oth[k]? = some (if kb K (d + k) = 1 then (ce cs (x - 1)).l else (ce cs (x - 1)).r)
  next : (hs ++ [fin])[k + 1]? = some (if kb K (d + k) = 1 then (ce cs (x - 1)).r else (ce cs (x - 1)).l)

def fnd (l : List Ent) (K : List Int) : List Int × Bool := match l with
  | [e] => if e.1 = K then (e.2, true) else ([], false)
  | _ => ([], false)
def FdPost (r : List Int × Bool) (w : World) (e : Ending) (w' : World) : Prop :=
  ∃ v' sp, e = .returned (.tuple #[v', .bool r.2, .int .i64 0]) ∧ Own w.heap.size w' v' r.1 sp ∧ Below w.heap.size w w'

end Go.Proofs.YtbkolhhgajkjjaaGreatDoor

namespace Go.Proofs.YtbkolhhgajkjjaaGreatDoor
set_option maxRecDepth 20000
open Go.RowKit

def fitsN (n room : Nat) (j : Int) : Bool := decide (0 ≤ j ∧ j ≤ 64 ∧ (n : Int) + 258 * j ≤ room)

def vAh (mk : Bool) (q : Nat) (c : Ce) (h : Int) : Int := if vRt mk q c h = 0 then (if h ≠ 0 ∧ q - c.ab = 0 then 7 else 0) else vRt mk q c h

def vRf (mk : Bool) (q : Nat) (c : Ce) (h : Int) (n : Nat) : Int := if mk then (if 1024 < n then 4 else vAh mk q c h) else 1

end Go.Proofs.YtbkolhhgajkjjaaGreatDoor

namespace Go.Proofs.YtbkolhhgajkjjaaGreatDoor
set_option maxRecDepth 20000
open Go.RowKit

def BesPost (ss : List Nat) (w : World) (e : Ending) (w' : World) : Prop :=
  ∃ a c, e = .returned (.slice a ss.length c) ∧ w'.ownsRow w.heap.size 3 1 (.slice a ss.length c) ss.length (nats ss) ∧ Below w.heap.size w w'

def Ints9 (w : World) (a : Option Addr) (l : List Nat) : Prop := ∀ k, k < l.length → ∃ g, a = some ⟨g, 0, none⟩ ∧ w.cell? ⟨g, k, none⟩ = some (.int .i64 (l.getD k 0 : Int))
end Go.Proofs.YtbkolhhgajkjjaaGreatDoor
