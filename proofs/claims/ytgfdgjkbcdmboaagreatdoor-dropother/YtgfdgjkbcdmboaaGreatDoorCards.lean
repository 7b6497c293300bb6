/-
  DERIVED. GIVEN WITH THE SEED: THE CARDS: each row of YtgfdgjkbcdmboaaGreatDoorRows.lean that lists a variable, with what it lists TIED to the program's text (the seventh form; the later family's looks); each row that meets fmt, with fmt's text TOLD by the authors' own Lean function (tested against real Go, not proved from fmt's source: count such statements apart). THE CARD IS WHAT COUNTS. Prove the row's statement (the work); the ties are given (YtgfdgjkbcdmboaaGreatDoorTie.lean); close each card by the builder's one call (the guide's Derived/Test/ToyasCard.lean, 'card_holds'). Laid BY PROGRAM, IN A SANDBOX (cutbox-door.mjs). By AI agents, Wed Nov 11 2026. No macro, syntax, notation, axiom, sorry.
-/
import Derived.Test.YtgfdgjkbcdmboaaGreatDoorRows
import GoSem.ClaimSeven
namespace Go.Proofs.YtgfdgjkbcdmboaaGreatDoor
namespace Rows

/-- THE TIED CARD OF 'rootcellarlaw10.DropScript'. -/
def dropScriptCard : Claim7 := { stood := { row := dropScriptRow, standIns := [], harness := (true, "0e07cff2df0e61577a62cc492698cae5a6de8dbe67d5777ef7613f46cc7aaee7"), looks := false }, kinds := [], alts := [], laidByText := true, laidKinds := [.data, .data], laidTests := true, laidLooks := .later }
def DropScriptCardSaid : Prop := Claim7.holds Tryz.pinned (.plain (OpenSpec.ofChange dropScriptSpec)) dropScriptCard

/-- THE TIED CARD OF 'rootcellarlaw10.DropOther'. -/
def dropOtherCard : Claim7 := { stood := { row := dropOtherRow, standIns := [], harness := (true, "0e07cff2df0e61577a62cc492698cae5a6de8dbe67d5777ef7613f46cc7aaee7"), looks := false }, kinds := [], alts := [], laidByText := true, laidKinds := [.data, .data], laidTests := true, laidLooks := .later }
def DropOtherCardSaid : Prop := Claim7.holds Tryz.pinned (.plain (OpenSpec.ofChange dropOtherSpec)) dropOtherCard

/-- THE TIED CARD OF 'rootcellarlaw12.AuditCalls'. -/
def auditCallsCard : Claim7 := { stood := { row := auditCallsRow, standIns := [], harness := (true, "0e07cff2df0e61577a62cc492698cae5a6de8dbe67d5777ef7613f46cc7aaee7"), looks := false }, kinds := [], alts := [], laidByText := true, laidKinds := [.data, .data], laidTests := true, laidLooks := .later }
def AuditCallsCardSaid : Prop := Claim7.holds Tryz.pinned (.plain (OpenSpec.ofChange auditCallsSpec)) auditCallsCard

/-- THE TIED CARD OF 'rootcellarlaw12.AuditHands'. -/
def auditHandsCard : Claim7 := { stood := { row := auditHandsRow, standIns := [], harness := (true, "0e07cff2df0e61577a62cc492698cae5a6de8dbe67d5777ef7613f46cc7aaee7"), looks := false }, kinds := [], alts := [], laidByText := true, laidKinds := [.data, .data], laidTests := true, laidLooks := .later }
def AuditHandsCardSaid : Prop := Claim7.holds Tryz.pinned (.plain (OpenSpec.ofChange auditHandsSpec)) auditHandsCard

/-- THE TIED CARD OF 'rootcellarlaw12.AuditClean'. -/
def auditCleanCard : Claim7 := { stood := { row := auditCleanRow, standIns := [], harness := (true, "0e07cff2df0e61577a62cc492698cae5a6de8dbe67d5777ef7613f46cc7aaee7"), looks := false }, kinds := [], alts := [], laidByText := true, laidKinds := [.data, .data], laidTests := true, laidLooks := .later }
def AuditCleanCardSaid : Prop := Claim7.holds Tryz.pinned (.plain (OpenSpec.ofChange auditCleanSpec)) auditCleanCard

/-- THE TIED CARD OF 'rootcellarlaw12.AuditParts'. -/
def auditPartsCard : Claim7 := { stood := { row := auditPartsRow, standIns := [], harness := (true, "0e07cff2df0e61577a62cc492698cae5a6de8dbe67d5777ef7613f46cc7aaee7"), looks := false }, kinds := [], alts := [], laidByText := true, laidKinds := [.data, .data], laidTests := true, laidLooks := .later }
def AuditPartsCardSaid : Prop := Claim7.holds Tryz.pinned (.plain (OpenSpec.ofChange auditPartsSpec)) auditPartsCard

/-- THE SECOND FORM's CARD OF 'rootcellarlaw10.DropScript'. -/
def dropScriptUptoCard : Claim7 := { stood := { row := dropScriptUptoRow, standIns := [], harness := (true, "0e07cff2df0e61577a62cc492698cae5a6de8dbe67d5777ef7613f46cc7aaee7"), looks := false }, kinds := [], alts := [], laidByText := true, laidKinds := [.data, .data], laidTests := true, laidLooks := .later }
def DropScriptUptoCardSaid : Prop := Claim7.holds Tryz.pinned (.plain (OpenSpec.upto dropScriptSpec)) dropScriptUptoCard

/-- THE SECOND FORM's CARD OF 'rootcellarlaw10.DropOther'. -/
def dropOtherUptoCard : Claim7 := { stood := { row := dropOtherUptoRow, standIns := [], harness := (true, "0e07cff2df0e61577a62cc492698cae5a6de8dbe67d5777ef7613f46cc7aaee7"), looks := false }, kinds := [], alts := [], laidByText := true, laidKinds := [.data, .data], laidTests := true, laidLooks := .later }
def DropOtherUptoCardSaid : Prop := Claim7.holds Tryz.pinned (.plain (OpenSpec.upto dropOtherSpec)) dropOtherUptoCard

/-- THE SECOND FORM's CARD OF 'rootcellarlaw12.AuditCalls'. -/
def auditCallsUptoCard : Claim7 := { stood := { row := auditCallsUptoRow, standIns := [], harness := (true, "0e07cff2df0e61577a62cc492698cae5a6de8dbe67d5777ef7613f46cc7aaee7"), looks := false }, kinds := [], alts := [], laidByText := true, laidKinds := [.data, .data], laidTests := true, laidLooks := .later }
def AuditCallsUptoCardSaid : Prop := Claim7.holds Tryz.pinned (.plain (OpenSpec.upto auditCallsSpec)) auditCallsUptoCard

/-- THE SECOND FORM's CARD OF 'rootcellarlaw12.AuditHands'. -/
def auditHandsUptoCard : Claim7 := { stood := { row := auditHandsUptoRow, standIns := [], harness := (true, "0e07cff2df0e61577a62cc492698cae5a6de8dbe67d5777ef7613f46cc7aaee7"), looks := false }, kinds := [], alts := [], laidByText := true, laidKinds := [.data, .data], laidTests := true, laidLooks := .later }
def AuditHandsUptoCardSaid : Prop := Claim7.holds Tryz.pinned (.plain (OpenSpec.upto auditHandsSpec)) auditHandsUptoCard

/-- THE SECOND FORM's CARD OF 'rootcellarlaw12.AuditClean'. -/
def auditCleanUptoCard : Claim7 := { stood := { row := auditCleanUptoRow, standIns := [], harness := (true, "0e07cff2df0e61577a62cc492698cae5a6de8dbe67d5777ef7613f46cc7aaee7"), looks := false }, kinds := [], alts := [], laidByText := true, laidKinds := [.data, .data], laidTests := true, laidLooks := .later }
def AuditCleanUptoCardSaid : Prop := Claim7.holds Tryz.pinned (.plain (OpenSpec.upto auditCleanSpec)) auditCleanUptoCard

/-- THE SECOND FORM's CARD OF 'rootcellarlaw12.AuditParts'. -/
def auditPartsUptoCard : Claim7 := { stood := { row := auditPartsUptoRow, standIns := [], harness := (true, "0e07cff2df0e61577a62cc492698cae5a6de8dbe67d5777ef7613f46cc7aaee7"), looks := false }, kinds := [], alts := [], laidByText := true, laidKinds := [.data, .data], laidTests := true, laidLooks := .later }
def AuditPartsUptoCardSaid : Prop := Claim7.holds Tryz.pinned (.plain (OpenSpec.upto auditPartsSpec)) auditPartsUptoCard
end Rows
end Go.Proofs.YtgfdgjkbcdmboaaGreatDoor
