/- Texts that were just made: where they lie; lists of such texts. -/
import Derived.Test.YtnnmfgnommbmkaaGreatDoorLa01
import Derived.Test.YtnnmfgnommbmkaaGreatDoorLa17
import Derived.Test.YtnnmfgnommbmkaaGreatDoorLa25
import Derived.Test.YtnnmfgnommbmkaaGreatDoorLa18
namespace Go.Proofs.YtnnmfgnommbmkaaGreatDoor
set_option maxRecDepth 20000
open Go.RowKit

def TxtPost (zs : List Int) (n : Nat) (w : World) (e : Ending) (w' : World) : Prop :=
  ∃ g c sp, e = .returned (.slice (some ⟨g, 0, none⟩) n c) ∧ w.heap.size ≤ g ∧ g < w'.heap.size ∧ Own w.heap.size w' (.slice (some ⟨g, 0, none⟩) n c) zs sp ∧ Below w.heap.size w w'

end Go.Proofs.YtnnmfgnommbmkaaGreatDoor

namespace Go.Proofs.YtnnmfgnommbmkaaGreatDoor
set_option maxRecDepth 20000
open Go.RowKit

structure NdF (N : List Int) (k : Int) (a b c d : List Int) : Prop where
  kd : ∀ w g t, Blk w g t (B N) → w.cell? ⟨g, 0, none⟩ = some (.int .u8 k)
  sa : Seg N 1 a
  sb : Seg N 33 b
  sc : Seg N 65 c
  sd : Seg N 97 d
  la : (Tryz.prog.info? 32).map (·.size) = some a.length
  lb : (Tryz.prog.info? 25).map (·.size) = some b.length
  lc : (Tryz.prog.info? 25).map (·.size) = some c.length
  ld : (Tryz.prog.info? 25).map (·.size) = some d.length
  ln : (Tryz.prog.info? 102).map (·.size) = some (B N).size
  ll : (Tryz.prog.info? 102).map (·.size) = some (B N).toList.length

def txN (k : Int) (a b c d : List Int) : List Int := if okN k a b c d = true then (if k = 1 then 1 :: (a ++ b) else if k = 2 then 2 :: (c ++ d) else [0]) else []
def dgN (k : Int) (a b c d : List Int) : List Int := if okN k a b c d = true then dig (txN k a b c d) else z32

def EncPost (k : Int) (a b c d : List Int) (w : World) (e : Ending) (w' : World) : Prop :=
  ∃ v sp, e = .returned (.tuple #[v, .int .i64 (okE k a b c d)]) ∧ Own w.heap.size w' v (txN k a b c d) sp ∧ Below w.heap.size w w'
def DigNPost (k : Int) (a b c d : List Int) (w : World) (e : Ending) (w' : World) : Prop :=
  e = .returned (.tuple #[.agg (B (dgN k a b c d)), .int .i64 (okE k a b c d)]) ∧ Below w.heap.size w w'

theorem built_hash : Tryz.prog.built 25 [] = some (B z32) := by kernel_rfl

end Go.Proofs.YtnnmfgnommbmkaaGreatDoor

namespace Go.Proofs.YtnnmfgnommbmkaaGreatDoor
set_option maxRecDepth 20000
open Go.RowKit

theorem Blk.there {w : World} {g : Nat} {t : TypeId} {cs : Array Value} (h : Blk w g t cs) (o n : Nat) (hn : o + n ≤ cs.size) : w.there g o n := fun j hj => ⟨by rw [h.cell, Array.getElem?_eq_getElem (by omega)]; rfl, h.frozen _⟩

end Go.Proofs.YtnnmfgnommbmkaaGreatDoor
