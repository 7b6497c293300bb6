/- That an array is like itself; what calls of a State that is none tell. -/
import Derived.Test.YtnnmfgnommbmkaaGreatDoorLa01
import Derived.Test.YtnnmfgnommbmkaaGreatDoorLa16
import Derived.Test.YtnnmfgnommbmkaaGreatDoorLa05
import Derived.ChangeKeysEq
import Derived.Laws.StructEq
import Derived.Test.YtnnmfgnommbmkaaGreatDoorLa04
import Derived.KernelRfl
import Derived.Lib.Bytealg
namespace Go.Proofs.YtnnmfgnommbmkaaGreatDoor
set_option maxRecDepth 20000
open Go.RowKit

def NoState (r : Value) (w : World) : Prop := Calls Tryz.prog 121 #[r] w fun e w' => e = .returned (.bool false) ∧ w' = w

end Go.Proofs.YtnnmfgnommbmkaaGreatDoor

namespace Go.Proofs.YtnnmfgnommbmkaaGreatDoor
set_option maxRecDepth 20000
open Go.RowKit

end Go.Proofs.YtnnmfgnommbmkaaGreatDoor

namespace Go.Proofs.YtnnmfgnommbmkaaGreatDoor
set_option maxRecDepth 20000
open Go.RowKit

def dg (c : Int) : Int := if 48 ≤ c ∧ c ≤ 57 then c - 48 else if 97 ≤ c ∧ c ≤ 102 then c - 87 else -1
def hd (v : Int) : Int := if v < 10 then 48 + v else 87 + v

def hexL (zs : List Int) : List Int := zs.flatMap fun z => [hd (z / 16), hd (z % 16)]
def Good (l : List Int) (m : Nat) : Prop := ∀ j, j < m → 0 ≤ dg (l.getD (2 * j) 0) ∧ 0 ≤ dg (l.getD (2 * j + 1) 0)
def pr (l : List Int) (j : Nat) : Int := 16 * dg (l.getD (2 * j) 0) + dg (l.getD (2 * j + 1) 0)
def prs (l : List Int) (m : Nat) : List Int := (List.range m).map (pr l)
def goodB (l : List Int) (m : Nat) : Bool := (List.range m).all fun j => decide (0 ≤ dg (l.getD (2 * j) 0)) && decide (0 ≤ dg (l.getD (2 * j + 1) 0))
def uh (l : List Int) : Int × List Int :=
  if 65536 < l.length then (4, []) else if l = [45] then (0, []) else if l.length = 0 ∨ l.length % 2 = 1 then (110, []) else
  if goodB l (l.length / 2) = true then (0, prs l (l.length / 2)) else (110, [])

def hx (zs : List Int) : List Int := if zs = [] then [45] else hexL zs

def nums (s : ByteArray) : List Int := s.data.toList.map fun u => (u.toNat : Int)
end Go.Proofs.YtnnmfgnommbmkaaGreatDoor
