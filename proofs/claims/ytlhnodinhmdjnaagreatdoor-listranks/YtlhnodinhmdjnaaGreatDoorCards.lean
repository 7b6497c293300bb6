/-
  DERIVED. GIVEN WITH THE SEED: THE CARDS: each row of YtlhnodinhmdjnaaGreatDoorRows.lean that lists a variable, with what it lists TIED to the program's text (the seventh form; the later family's looks); each row that meets fmt, with fmt's text TOLD by the authors' own Lean function (tested against real Go, not proved from fmt's source: count such statements apart). THE CARD IS WHAT COUNTS. Prove the row's statement (the work); the ties are given (YtlhnodinhmdjnaaGreatDoorTie.lean); close each card by the builder's one call (the guide's Derived/Test/ToyasCard.lean, 'card_holds'). Laid BY PROGRAM, IN A SANDBOX (cutbox-door.mjs). By AI agents, Wed Nov 11 2026. No macro, syntax, notation, axiom, sorry.
-/
import Derived.Test.YtlhnodinhmdjnaaGreatDoorRows
import GoSem.ClaimSeven
namespace Go.Proofs.YtlhnodinhmdjnaaGreatDoor
namespace Rows

/-- THE TIED CARD OF 'rootcellarlaw13.ListNone'. -/
def listNoneCard : Claim7 := { stood := { row := listNoneRow, standIns := [], harness := (true, "22890a0a3941e492b9d69be1439acd2f1275ca3afc8ca8af3c9f80c8e74a16a5"), looks := false }, kinds := [], alts := [], laidByText := true, laidKinds := [.data, .data], laidTests := true, laidLooks := .later }
def ListNoneCardSaid : Prop := Claim7.holds Tryz.pinned (.plain (OpenSpec.ofChange listNoneSpec)) listNoneCard

/-- THE TIED CARD OF 'rootcellarlaw13.ListRanks'. -/
def listRanksCard : Claim7 := { stood := { row := listRanksRow, standIns := [], harness := (true, "22890a0a3941e492b9d69be1439acd2f1275ca3afc8ca8af3c9f80c8e74a16a5"), looks := false }, kinds := [], alts := [], laidByText := true, laidKinds := [.data, .data], laidTests := true, laidLooks := .later }
def ListRanksCardSaid : Prop := Claim7.holds Tryz.pinned (.plain (OpenSpec.ofChange listRanksSpec)) listRanksCard

/-- THE TIED CARD OF 'rootcellarlaw14.VersionsNone'. -/
def versionsNoneCard : Claim7 := { stood := { row := versionsNoneRow, standIns := [], harness := (true, "22890a0a3941e492b9d69be1439acd2f1275ca3afc8ca8af3c9f80c8e74a16a5"), looks := false }, kinds := [], alts := [], laidByText := true, laidKinds := [.data, .data], laidTests := true, laidLooks := .later }
def VersionsNoneCardSaid : Prop := Claim7.holds Tryz.pinned (.plain (OpenSpec.ofChange versionsNoneSpec)) versionsNoneCard

/-- THE TIED CARD OF 'rootcellarlaw14.VersionsStay'. -/
def versionsStayCard : Claim7 := { stood := { row := versionsStayRow, standIns := [], harness := (true, "22890a0a3941e492b9d69be1439acd2f1275ca3afc8ca8af3c9f80c8e74a16a5"), looks := false }, kinds := [], alts := [], laidByText := true, laidKinds := [.data, .data], laidTests := true, laidLooks := .later }
def VersionsStayCardSaid : Prop := Claim7.holds Tryz.pinned (.plain (OpenSpec.ofChange versionsStaySpec)) versionsStayCard

/-- THE TIED CARD OF 'rootcellarlaw14.VersionsNames'. -/
def versionsNamesCard : Claim7 := { stood := { row := versionsNamesRow, standIns := [], harness := (true, "22890a0a3941e492b9d69be1439acd2f1275ca3afc8ca8af3c9f80c8e74a16a5"), looks := false }, kinds := [], alts := [], laidByText := true, laidKinds := [.data, .data], laidTests := true, laidLooks := .later }
def VersionsNamesCardSaid : Prop := Claim7.holds Tryz.pinned (.plain (OpenSpec.ofChange versionsNamesSpec)) versionsNamesCard

/-- THE TIED CARD OF 'rootcellarlaw14.VersionsKnown'. -/
def versionsKnownCard : Claim7 := { stood := { row := versionsKnownRow, standIns := [], harness := (true, "22890a0a3941e492b9d69be1439acd2f1275ca3afc8ca8af3c9f80c8e74a16a5"), looks := false }, kinds := [], alts := [], laidByText := true, laidKinds := [.data, .data], laidTests := true, laidLooks := .later }
def VersionsKnownCardSaid : Prop := Claim7.holds Tryz.pinned (.plain (OpenSpec.ofChange versionsKnownSpec)) versionsKnownCard

/-- THE SECOND FORM's CARD OF 'rootcellarlaw13.ListNone'. -/
def listNoneUptoCard : Claim7 := { stood := { row := listNoneUptoRow, standIns := [], harness := (true, "22890a0a3941e492b9d69be1439acd2f1275ca3afc8ca8af3c9f80c8e74a16a5"), looks := false }, kinds := [], alts := [], laidByText := true, laidKinds := [.data, .data], laidTests := true, laidLooks := .later }
def ListNoneUptoCardSaid : Prop := Claim7.holds Tryz.pinned (.plain (OpenSpec.upto listNoneSpec)) listNoneUptoCard

/-- THE SECOND FORM's CARD OF 'rootcellarlaw13.ListRanks'. -/
def listRanksUptoCard : Claim7 := { stood := { row := listRanksUptoRow, standIns := [], harness := (true, "22890a0a3941e492b9d69be1439acd2f1275ca3afc8ca8af3c9f80c8e74a16a5"), looks := false }, kinds := [], alts := [], laidByText := true, laidKinds := [.data, .data], laidTests := true, laidLooks := .later }
def ListRanksUptoCardSaid : Prop := Claim7.holds Tryz.pinned (.plain (OpenSpec.upto listRanksSpec)) listRanksUptoCard

/-- THE SECOND FORM's CARD OF 'rootcellarlaw14.VersionsNone'. -/
def versionsNoneUptoCard : Claim7 := { stood := { row := versionsNoneUptoRow, standIns := [], harness := (true, "22890a0a3941e492b9d69be1439acd2f1275ca3afc8ca8af3c9f80c8e74a16a5"), looks := false }, kinds := [], alts := [], laidByText := true, laidKinds := [.data, .data], laidTests := true, laidLooks := .later }
def VersionsNoneUptoCardSaid : Prop := Claim7.holds Tryz.pinned (.plain (OpenSpec.upto versionsNoneSpec)) versionsNoneUptoCard

/-- THE SECOND FORM's CARD OF 'rootcellarlaw14.VersionsStay'. -/
def versionsStayUptoCard : Claim7 := { stood := { row := versionsStayUptoRow, standIns := [], harness := (true, "22890a0a3941e492b9d69be1439acd2f1275ca3afc8ca8af3c9f80c8e74a16a5"), looks := false }, kinds := [], alts := [], laidByText := true, laidKinds := [.data, .data], laidTests := true, laidLooks := .later }
def VersionsStayUptoCardSaid : Prop := Claim7.holds Tryz.pinned (.plain (OpenSpec.upto versionsStaySpec)) versionsStayUptoCard

/-- THE SECOND FORM's CARD OF 'rootcellarlaw14.VersionsNames'. -/
def versionsNamesUptoCard : Claim7 := { stood := { row := versionsNamesUptoRow, standIns := [], harness := (true, "22890a0a3941e492b9d69be1439acd2f1275ca3afc8ca8af3c9f80c8e74a16a5"), looks := false }, kinds := [], alts := [], laidByText := true, laidKinds := [.data, .data], laidTests := true, laidLooks := .later }
def VersionsNamesUptoCardSaid : Prop := Claim7.holds Tryz.pinned (.plain (OpenSpec.upto versionsNamesSpec)) versionsNamesUptoCard

/-- THE SECOND FORM's CARD OF 'rootcellarlaw14.VersionsKnown'. -/
def versionsKnownUptoCard : Claim7 := { stood := { row := versionsKnownUptoRow, standIns := [], harness := (true, "22890a0a3941e492b9d69be1439acd2f1275ca3afc8ca8af3c9f80c8e74a16a5"), looks := false }, kinds := [], alts := [], laidByText := true, laidKinds := [.data, .data], laidTests := true, laidLooks := .later }
def VersionsKnownUptoCardSaid : Prop := Claim7.holds Tryz.pinned (.plain (OpenSpec.upto versionsKnownSpec)) versionsKnownUptoCard
end Rows
end Go.Proofs.YtlhnodinhmdjnaaGreatDoor
