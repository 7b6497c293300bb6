/-
  DERIVED. GIVEN WITH THE SEED: THE CARDS: each row of YtkhinjkcfjncgaaGreatDoorRows.lean that lists a variable, with what it lists TIED to the program's text (the seventh form; the later family's looks); each row that meets fmt, with fmt's text TOLD by the authors' own Lean function (tested against real Go, not proved from fmt's source: count such statements apart). THE CARD IS WHAT COUNTS. Prove the row's statement (the work); the ties are given (YtkhinjkcfjncgaaGreatDoorTie.lean); close each card by the builder's one call (the guide's Derived/Test/ToyasCard.lean, 'card_holds'). Laid BY PROGRAM, IN A SANDBOX (cutbox-door.mjs). By AI agents, Wed Nov 11 2026. No macro, syntax, notation, axiom, sorry.
-/
import Derived.Test.YtkhinjkcfjncgaaGreatDoorRows
import GoSem.ClaimSeven
namespace Go.Proofs.YtkhinjkcfjncgaaGreatDoor
namespace Rows

/-- THE TIED CARD OF 'rootcellarlaw12.AuditCalls'. -/
def auditCallsCard : Claim7 := { stood := { row := auditCallsRow, standIns := [], harness := (true, "ceb37ab3171c84324c6736bb61a248f28e7aa318757adbc781f5145cbf422439"), looks := false }, kinds := [], alts := [], laidByText := true, laidKinds := [.data, .data], laidTests := true, laidLooks := .later }
def AuditCallsCardSaid : Prop := Claim7.holds Tryz.pinned (.plain (OpenSpec.ofChange auditCallsSpec)) auditCallsCard

/-- THE TIED CARD OF 'rootcellarlaw12.AuditHands'. -/
def auditHandsCard : Claim7 := { stood := { row := auditHandsRow, standIns := [], harness := (true, "ceb37ab3171c84324c6736bb61a248f28e7aa318757adbc781f5145cbf422439"), looks := false }, kinds := [], alts := [], laidByText := true, laidKinds := [.data, .data], laidTests := true, laidLooks := .later }
def AuditHandsCardSaid : Prop := Claim7.holds Tryz.pinned (.plain (OpenSpec.ofChange auditHandsSpec)) auditHandsCard

/-- THE TIED CARD OF 'rootcellarlaw12.AuditNone'. -/
def auditNoneCard : Claim7 := { stood := { row := auditNoneRow, standIns := [], harness := (true, "ceb37ab3171c84324c6736bb61a248f28e7aa318757adbc781f5145cbf422439"), looks := false }, kinds := [], alts := [], laidByText := true, laidKinds := [.data, .data], laidTests := true, laidLooks := .later }
def AuditNoneCardSaid : Prop := Claim7.holds Tryz.pinned (.plain (OpenSpec.ofChange auditNoneSpec)) auditNoneCard

/-- THE TIED CARD OF 'rootcellarlaw12.AuditClean'. -/
def auditCleanCard : Claim7 := { stood := { row := auditCleanRow, standIns := [], harness := (true, "ceb37ab3171c84324c6736bb61a248f28e7aa318757adbc781f5145cbf422439"), looks := false }, kinds := [], alts := [], laidByText := true, laidKinds := [.data, .data], laidTests := true, laidLooks := .later }
def AuditCleanCardSaid : Prop := Claim7.holds Tryz.pinned (.plain (OpenSpec.ofChange auditCleanSpec)) auditCleanCard

/-- THE TIED CARD OF 'rootcellarlaw12.AuditParts'. -/
def auditPartsCard : Claim7 := { stood := { row := auditPartsRow, standIns := [], harness := (true, "ceb37ab3171c84324c6736bb61a248f28e7aa318757adbc781f5145cbf422439"), looks := false }, kinds := [], alts := [], laidByText := true, laidKinds := [.data, .data], laidTests := true, laidLooks := .later }
def AuditPartsCardSaid : Prop := Claim7.holds Tryz.pinned (.plain (OpenSpec.ofChange auditPartsSpec)) auditPartsCard

/-- THE TIED CARD OF 'rootcellarlaw12.AuditKnown'. -/
def auditKnownCard : Claim7 := { stood := { row := auditKnownRow, standIns := [], harness := (true, "ceb37ab3171c84324c6736bb61a248f28e7aa318757adbc781f5145cbf422439"), looks := false }, kinds := [], alts := [], laidByText := true, laidKinds := [.data, .data], laidTests := true, laidLooks := .later }
def AuditKnownCardSaid : Prop := Claim7.holds Tryz.pinned (.plain (OpenSpec.ofChange auditKnownSpec)) auditKnownCard

/-- THE SECOND FORM's CARD OF 'rootcellarlaw12.AuditCalls'. -/
def auditCallsUptoCard : Claim7 := { stood := { row := auditCallsUptoRow, standIns := [], harness := (true, "ceb37ab3171c84324c6736bb61a248f28e7aa318757adbc781f5145cbf422439"), looks := false }, kinds := [], alts := [], laidByText := true, laidKinds := [.data, .data], laidTests := true, laidLooks := .later }
def AuditCallsUptoCardSaid : Prop := Claim7.holds Tryz.pinned (.plain (OpenSpec.upto auditCallsSpec)) auditCallsUptoCard

/-- THE SECOND FORM's CARD OF 'rootcellarlaw12.AuditHands'. -/
def auditHandsUptoCard : Claim7 := { stood := { row := auditHandsUptoRow, standIns := [], harness := (true, "ceb37ab3171c84324c6736bb61a248f28e7aa318757adbc781f5145cbf422439"), looks := false }, kinds := [], alts := [], laidByText := true, laidKinds := [.data, .data], laidTests := true, laidLooks := .later }
def AuditHandsUptoCardSaid : Prop := Claim7.holds Tryz.pinned (.plain (OpenSpec.upto auditHandsSpec)) auditHandsUptoCard

/-- THE SECOND FORM's CARD OF 'rootcellarlaw12.AuditNone'. -/
def auditNoneUptoCard : Claim7 := { stood := { row := auditNoneUptoRow, standIns := [], harness := (true, "ceb37ab3171c84324c6736bb61a248f28e7aa318757adbc781f5145cbf422439"), looks := false }, kinds := [], alts := [], laidByText := true, laidKinds := [.data, .data], laidTests := true, laidLooks := .later }
def AuditNoneUptoCardSaid : Prop := Claim7.holds Tryz.pinned (.plain (OpenSpec.upto auditNoneSpec)) auditNoneUptoCard

/-- THE SECOND FORM's CARD OF 'rootcellarlaw12.AuditClean'. -/
def auditCleanUptoCard : Claim7 := { stood := { row := auditCleanUptoRow, standIns := [], harness := (true, "ceb37ab3171c84324c6736bb61a248f28e7aa318757adbc781f5145cbf422439"), looks := false }, kinds := [], alts := [], laidByText := true, laidKinds := [.data, .data], laidTests := true, laidLooks := .later }
def AuditCleanUptoCardSaid : Prop := Claim7.holds Tryz.pinned (.plain (OpenSpec.upto auditCleanSpec)) auditCleanUptoCard

/-- THE SECOND FORM's CARD OF 'rootcellarlaw12.AuditParts'. -/
def auditPartsUptoCard : Claim7 := { stood := { row := auditPartsUptoRow, standIns := [], harness := (true, "ceb37ab3171c84324c6736bb61a248f28e7aa318757adbc781f5145cbf422439"), looks := false }, kinds := [], alts := [], laidByText := true, laidKinds := [.data, .data], laidTests := true, laidLooks := .later }
def AuditPartsUptoCardSaid : Prop := Claim7.holds Tryz.pinned (.plain (OpenSpec.upto auditPartsSpec)) auditPartsUptoCard

/-- THE SECOND FORM's CARD OF 'rootcellarlaw12.AuditKnown'. -/
def auditKnownUptoCard : Claim7 := { stood := { row := auditKnownUptoRow, standIns := [], harness := (true, "ceb37ab3171c84324c6736bb61a248f28e7aa318757adbc781f5145cbf422439"), looks := false }, kinds := [], alts := [], laidByText := true, laidKinds := [.data, .data], laidTests := true, laidLooks := .later }
def AuditKnownUptoCardSaid : Prop := Claim7.holds Tryz.pinned (.plain (OpenSpec.upto auditKnownSpec)) auditKnownUptoCard
end Rows
end Go.Proofs.YtkhinjkcfjncgaaGreatDoor
