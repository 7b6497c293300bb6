/- What stands in every later world, beside nodes: see KpBase. -/
import Derived.Test.YtpbmpmiicdpehabGreatDoorDb35
import Derived.Test.YtpbmpmiicdpehabGreatDoorDb15
import Derived.Test.YtpbmpmiicdpehabGreatDoorDb21
import Derived.Test.YtpbmpmiicdpehabGreatDoorDb32
import Derived.Test.YtpbmpmiicdpehabGreatDoorDb06
namespace Go.Proofs.YtpbmpmiicdpehabGreatDoor
set_option maxRecDepth 20000
open Go.RowKit

theorem kp_nodes : True := trivial

end Go.Proofs.YtpbmpmiicdpehabGreatDoor

/- The document's List of entries, as a contract. -/
namespace Go.Proofs.YtpbmpmiicdpehabGreatDoor
set_option maxRecDepth 20000
open Go.RowKit

end Go.Proofs.YtpbmpmiicdpehabGreatDoor

/- The document's Bit, Set, Common, Compare (rootcellarref04), as contracts. -/
namespace Go.Proofs.YtpbmpmiicdpehabGreatDoor
set_option maxRecDepth 20000
open Go.RowKit

theorem half_step (x : Int) (k : Nat) : x / 2 ^ k / 2 = x / 2 ^ (k + 1) := by
  rw [Int.pow_succ, Int.ediv_ediv_of_nonneg (Int.pow_nonneg (by omega))]

end Go.Proofs.YtpbmpmiicdpehabGreatDoor
