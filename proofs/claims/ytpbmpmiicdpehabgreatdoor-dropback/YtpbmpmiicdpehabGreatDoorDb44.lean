/- The document's Common, Under, Flip, Filled, Next (rootcellarref04), as contracts. -/
import Derived.Test.YtpbmpmiicdpehabGreatDoorDb43
import Derived.Test.YtpbmpmiicdpehabGreatDoorDb41
namespace Go.Proofs.YtpbmpmiicdpehabGreatDoor
set_option maxRecDepth 20000
open Go.RowKit

end Go.Proofs.YtpbmpmiicdpehabGreatDoor

/- The document's Root and RootAt, as contracts. -/
namespace Go.Proofs.YtpbmpmiicdpehabGreatDoor
set_option maxRecDepth 20000
open Go.RowKit

end Go.Proofs.YtpbmpmiicdpehabGreatDoor

/- NodeRoots' walk: the law returns true at all entries and depths, and nothing that was in memory turns. -/
namespace Go.Proofs.YtpbmpmiicdpehabGreatDoor
set_option maxRecDepth 20000
open Go.RowKit

theorem rootIs_ex (es : List Ent) (d : Int) : ∃ h E, RootIs es d h E := by
  by_cases hd : d < 0 ∨ 256 < d
  · exact ⟨_, _, .out hd⟩
  · by_cases hE : errB es = 0
    · by_cases hs : SameE es d.toNat
      · exact ⟨_, _, .good (by omega) (by omega) hE hs⟩
      · exact ⟨_, _, .part (by omega) (by omega) hE hs⟩
    · exact ⟨_, _, .bad _ (by omega) (by omega) rfl hE⟩

theorem rootPost_at {es : List Ent} {d : Int} {h : List Int} {E : Int} (hi : RootIs es d h E) {f : Nat} {args : Array Value} {w : World} (hc : Calls Tryz.prog f args w (RootPost es d w)) :
    Calls Tryz.prog f args w fun e w' => e = .returned (.tuple #[.agg (B h), .int .i64 E]) ∧ Below w.heap.size w w' :=
  hc.mono fun e w' ⟨h', E', h1, h2, h3⟩ => by
    obtain ⟨e1, e2⟩ := h2.one hi
    rw [e1, e2] at h1
    exact ⟨h1, h3⟩

end Go.Proofs.YtpbmpmiicdpehabGreatDoor
