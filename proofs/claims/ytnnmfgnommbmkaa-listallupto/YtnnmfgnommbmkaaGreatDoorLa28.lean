/- The document's List of entries, as a contract. -/
import Derived.Test.YtnnmfgnommbmkaaGreatDoorLa01
import Derived.Test.YtnnmfgnommbmkaaGreatDoorLa25
import Derived.Test.YtnnmfgnommbmkaaGreatDoorLa27
import Derived.Test.YtnnmfgnommbmkaaGreatDoorLa07
namespace Go.Proofs.YtnnmfgnommbmkaaGreatDoor
set_option maxRecDepth 20000
open Go.RowKit

end Go.Proofs.YtnnmfgnommbmkaaGreatDoor

namespace Go.Proofs.YtnnmfgnommbmkaaGreatDoor
set_option maxRecDepth 20000
open Go.RowKit

end Go.Proofs.YtnnmfgnommbmkaaGreatDoor

namespace Go.Proofs.YtnnmfgnommbmkaaGreatDoor
set_option maxRecDepth 20000
open Go.RowKit

def SidePost (es : List Ent) (d : Nat) (b : Int) (w : World) (e : Ending) (w' : World) : Prop := ∃ v V, e = .returned v ∧ PrAt w' v V (sideOf es d b) ∧ Below w.heap.size w w'

end Go.Proofs.YtnnmfgnommbmkaaGreatDoor
