/-
  DERIVED. GIVEN WITH THE SEED: THE CARDS: each row of YtlclabbnpjobgaaGreatDoorRows.lean that lists a variable, with what it lists TIED to the program's text (the seventh form; the later family's looks); each row that meets fmt, with fmt's text TOLD by the authors' own Lean function (tested against real Go, not proved from fmt's source: count such statements apart). THE CARD IS WHAT COUNTS. Prove the row's statement (the work); the ties are given (YtlclabbnpjobgaaGreatDoorTie.lean); close each card by the builder's one call (the guide's Derived/Test/ToyasCard.lean, 'card_holds'). Laid BY PROGRAM, IN A SANDBOX (cutbox-door.mjs). By AI agents, Wed Nov 11 2026. No macro, syntax, notation, axiom, sorry.
-/
import Derived.Test.YtlclabbnpjobgaaGreatDoorRows
import GoSem.ClaimSeven
namespace Go.Proofs.YtlclabbnpjobgaaGreatDoor
namespace Rows

/-- THE TIED CARD OF 'rootcellarlaw12.AuditParts'. -/
def auditPartsCard : Claim7 := { stood := { row := auditPartsRow, standIns := [], harness := (true, "e8137908165a77e4eb2ec0e4b691e5267e4643a3ba07fc4b164986987970c718"), looks := false }, kinds := [], alts := [], laidByText := true, laidKinds := [.data, .data], laidTests := true, laidLooks := .later }
def AuditPartsCardSaid : Prop := Claim7.holds Tryz.pinned (.plain (OpenSpec.ofChange auditPartsSpec)) auditPartsCard

/-- THE TIED CARD OF 'rootcellarlaw13.ListAll'. -/
def listAllCard : Claim7 := { stood := { row := listAllRow, standIns := [], harness := (true, "e8137908165a77e4eb2ec0e4b691e5267e4643a3ba07fc4b164986987970c718"), looks := false }, kinds := [], alts := [], laidByText := true, laidKinds := [.data, .data], laidTests := true, laidLooks := .later }
def ListAllCardSaid : Prop := Claim7.holds Tryz.pinned (.plain (OpenSpec.ofChange listAllSpec)) listAllCard

/-- THE SECOND FORM's CARD OF 'rootcellarlaw12.AuditParts'. -/
def auditPartsUptoCard : Claim7 := { stood := { row := auditPartsUptoRow, standIns := [], harness := (true, "e8137908165a77e4eb2ec0e4b691e5267e4643a3ba07fc4b164986987970c718"), looks := false }, kinds := [], alts := [], laidByText := true, laidKinds := [.data, .data], laidTests := true, laidLooks := .later }
def AuditPartsUptoCardSaid : Prop := Claim7.holds Tryz.pinned (.plain (OpenSpec.upto auditPartsSpec)) auditPartsUptoCard

/-- THE SECOND FORM's CARD OF 'rootcellarlaw13.ListAll'. -/
def listAllUptoCard : Claim7 := { stood := { row := listAllUptoRow, standIns := [], harness := (true, "e8137908165a77e4eb2ec0e4b691e5267e4643a3ba07fc4b164986987970c718"), looks := false }, kinds := [], alts := [], laidByText := true, laidKinds := [.data, .data], laidTests := true, laidLooks := .later }
def ListAllUptoCardSaid : Prop := Claim7.holds Tryz.pinned (.plain (OpenSpec.upto listAllSpec)) listAllUptoCard
end Rows
end Go.Proofs.YtlclabbnpjobgaaGreatDoor
