/- The document's List of entries, as a contract. -/
import Derived.Test.YtlhnodinhmdjnaaGreatDoorLr01
import Derived.Test.YtlhnodinhmdjnaaGreatDoorLr25
import Derived.Test.YtlhnodinhmdjnaaGreatDoorLr27
import Derived.Test.YtlhnodinhmdjnaaGreatDoorLr07
namespace Go.Proofs.YtlhnodinhmdjnaaGreatDoor
set_option maxRecDepth 20000
open Go.RowKit

end Go.Proofs.YtlhnodinhmdjnaaGreatDoor

namespace Go.Proofs.YtlhnodinhmdjnaaGreatDoor
set_option maxRecDepth 20000
open Go.RowKit

end Go.Proofs.YtlhnodinhmdjnaaGreatDoor

namespace Go.Proofs.YtlhnodinhmdjnaaGreatDoor
set_option maxRecDepth 20000
open Go.RowKit

def SidePost (es : List Ent) (d : Nat) (b : Int) (w : World) (e : Ending) (w' : World) : Prop := ∃ v V, e = .returned v ∧ PrAt w' v V (sideOf es d b) ∧ Below w.heap.size w w'

end Go.Proofs.YtlhnodinhmdjnaaGreatDoor
