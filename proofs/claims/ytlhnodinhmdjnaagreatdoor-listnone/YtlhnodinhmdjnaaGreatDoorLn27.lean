/- Cells written over in new memory; a struct stored in the midst of a block; a literal in a region that draws its order. -/
import Derived.Test.YtlhnodinhmdjnaaGreatDoorLn01
import Derived.Test.YtlhnodinhmdjnaaGreatDoorLn26
import Derived.Test.YtlhnodinhmdjnaaGreatDoorLn08
import Derived.Laws.Cover3
import Derived.Test.YtlhnodinhmdjnaaGreatDoorLn16
import Derived.Test.YtlhnodinhmdjnaaGreatDoorLn22
namespace Go.Proofs.YtlhnodinhmdjnaaGreatDoor
set_option maxRecDepth 20000
open Go.RowKit

end Go.Proofs.YtlhnodinhmdjnaaGreatDoor

namespace Go.Proofs.YtlhnodinhmdjnaaGreatDoor
set_option maxRecDepth 20000
open Go.RowKit

def dcA (zs : List Int) : List Int := (zs.drop 1).take 32
def dcB (zs : List Int) : List Int := zs.drop 33
def dcN (zs : List Int) : List Int := if zs.length = 65 ∧ zs.getD 0 0 = 1 then nd 1 (dcA zs) (dcB zs) z32 z32 else if zs.length = 65 ∧ zs.getD 0 0 = 2 then nd 2 z32 z32 (dcA zs) (dcB zs) else nd 0 z32 z32 z32 z32
def dcE (zs : List Int) : Int := if zs.length = 65 ∧ zs.getD 0 0 = 1 then 0 else if zs.length = 65 ∧ zs.getD 0 0 = 2 then 0 else if zs.length = 1 ∧ zs.getD 0 0 = 0 then 0 else 10

def DecPost (zs : List Int) (w : World) (e : Ending) (w' : World) : Prop := e = .returned (.tuple #[.agg (B (dcN zs)), .int .i64 (dcE zs)]) ∧ Below w.heap.size w w'

def isB (zs : List Int) (k n : Int) : Bool := decide ((zs.length : Int) = n ∧ zs.getD 0 0 = k)

end Go.Proofs.YtlhnodinhmdjnaaGreatDoor

namespace Go.Proofs.YtlhnodinhmdjnaaGreatDoor
set_option maxRecDepth 20000
open Go.RowKit

end Go.Proofs.YtlhnodinhmdjnaaGreatDoor
