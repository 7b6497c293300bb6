/- KeptBytes, as a contract: what was lent and not turned is told so. -/
import Derived.Test.YtacfhkaihcclaaaKit1
import Derived.Deep.RegionHeld
namespace Go.Proofs.Ytacfhkaihcclaaa
open Go.RowKit

theorem Row.reads {w : World} {g : Nat} {all : List Int} (h : Row w g all) (hb : Bytes all) (c : Nat) (hc : all.length ≤ c) : Reads w (.slice (some ⟨g, 0, none⟩) all.length c) all :=
  ⟨_, _, rfl, hc, fun h => by simp at h, hb, fun _ => ⟨g, 0, rfl, fun i hi => by rw [Nat.zero_add]; exact h.cell i hi⟩⟩

end Go.Proofs.Ytacfhkaihcclaaa
