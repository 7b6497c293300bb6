/- put.raise, as a contract. -/
import Derived.Test.YtbkolhhgajkjjaaGreatDoorSs01
import Derived.Test.YtbkolhhgajkjjaaGreatDoorSs48
import Derived.Test.YtbkolhhgajkjjaaGreatDoorSs17
import Derived.Test.YtbkolhhgajkjjaaGreatDoorSs18
import Derived.Test.YtbkolhhgajkjjaaGreatDoorSs16
import Derived.Deep.RegionHeld2
namespace Go.Proofs.YtbkolhhgajkjjaaGreatDoor
set_option maxRecDepth 20000
open Go.RowKit

section
variable {w w1 w2 : World} {S : List Nat} {g gs room : Nat} {cs : List (Nat × Ce)} {fr : List Nat}
end

def RaPost (w : World) (S : List Nat) (g gs room : Nat) (cs0 cs1 : List (Nat × Ce)) (fr : List Nat) (E : List Ent) (K bs : List Int) (ss : List Nat) (e : Ending) (w' : World) : Prop :=
  ∃ (top : Nat) (v' : Value) (cs2 : List (Nat × Ce)) (fr2 : List Nat), e = .returned (.int .i64 (top : Int)) ∧ CeOk (lfC (lfD K (vaD bs)) K v' bs) ∧ Rz K ss (tkC cs1 fr (1, lfC (lfD K (vaD bs)) K v' bs)) fr.dropLast (tkH cs1 fr) cs2 fr2 top ∧ RzI cs0 E K bs ss 0 cs2 top ∧ Hs w S w' g gs room cs2 fr2

end Go.Proofs.YtbkolhhgajkjjaaGreatDoor

namespace Go.Proofs.YtbkolhhgajkjjaaGreatDoor
set_option maxRecDepth 20000
open Go.RowKit

end Go.Proofs.YtbkolhhgajkjjaaGreatDoor

namespace Go.Proofs.YtbkolhhgajkjjaaGreatDoor
set_option maxRecDepth 20000
open Go.RowKit

def BesIs (K : List Int) (T : Tre) (h : Nat) (ss : List Nat) : Prop :=
  (T.efin K = [] ∧ ss = T.oth K) ∨ (∃ b, T.efin K = [(K, b)] ∧ ss = T.oth K) ∨ (∃ k b c, T.efin K = [(k, b)] ∧ k ≠ K ∧ IsCommon K k c ∧ (T.oth K).length ≤ c ∧ c < 256 ∧ ss = besX (T.oth K) c (T.fin K h))

def PlPost (ss : List Nat) (w : World) (e : Ending) (w' : World) : Prop :=
  ∃ a c, e = .returned (.tuple #[.slice a ss.length c, .bool false, .int .i64 0]) ∧ w'.ownsRow w.heap.size 3 1 (.slice a ss.length c) ss.length (nats ss) ∧ Below w.heap.size w w'

end Go.Proofs.YtbkolhhgajkjjaaGreatDoor
