/- What an argument is in memory that is a pair of texts (a Clash). -/
import Derived.Test.YtlhnodinhmdjnaaGreatDoorLn01
import Derived.Test.YtlhnodinhmdjnaaGreatDoorLn40
import Derived.ChangeSame
import Derived.Deep.Slices
import Derived.Test.YtlhnodinhmdjnaaGreatDoorLn04
namespace Go.Proofs.YtlhnodinhmdjnaaGreatDoor
set_option maxRecDepth 20000
open Go.ChangeShapes Go.WideShapes Go.ChangeAt Go.RowKit

end Go.Proofs.YtlhnodinhmdjnaaGreatDoor

namespace Go.Proofs.YtlhnodinhmdjnaaGreatDoor
set_option maxRecDepth 20000
open Go.ChangeShapes Go.WideShapes Go.ChangeAt Go.RowKit

end Go.Proofs.YtlhnodinhmdjnaaGreatDoor

namespace Go.Proofs.YtlhnodinhmdjnaaGreatDoor
set_option maxRecDepth 20000
open Go.ChangeShapes Go.WideShapes Go.ChangeAt Go.RowKit

theorem cells_path : Tryz.prog.cellsOf 23 = 32 := by kernel_rfl

end Go.Proofs.YtlhnodinhmdjnaaGreatDoor
