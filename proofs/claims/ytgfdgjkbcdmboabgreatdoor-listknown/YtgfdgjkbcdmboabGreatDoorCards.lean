/-
  DERIVED. GIVEN WITH THE SEED: THE CARDS: each row of YtgfdgjkbcdmboabGreatDoorRows.lean that lists a variable, with what it lists TIED to the program's text (the seventh form; the later family's looks); each row that meets fmt, with fmt's text TOLD by the authors' own Lean function (tested against real Go, not proved from fmt's source: count such statements apart). THE CARD IS WHAT COUNTS. Prove the row's statement (the work); the ties are given (YtgfdgjkbcdmboabGreatDoorTie.lean); close each card by the builder's one call (the guide's Derived/Test/ToyasCard.lean, 'card_holds'). Laid BY PROGRAM, IN A SANDBOX (cutbox-door.mjs). By AI agents, Wed Nov 11 2026. No macro, syntax, notation, axiom, sorry.
-/
import Derived.Test.YtgfdgjkbcdmboabGreatDoorRows
import GoSem.ClaimSeven
namespace Go.Proofs.YtgfdgjkbcdmboabGreatDoor
namespace Rows

/-- THE TIED CARD OF 'rootcellarlaw13.ListCalls'. -/
def listCallsCard : Claim7 := { stood := { row := listCallsRow, standIns := [], harness := (true, "5a1dc9b67b0b629241b086394afa09e128f98035762a70dc13333a6cf760a5c4"), looks := false }, kinds := [], alts := [], laidByText := true, laidKinds := [.data, .data], laidTests := true, laidLooks := .later }
def ListCallsCardSaid : Prop := Claim7.holds Tryz.pinned (.plain (OpenSpec.ofChange listCallsSpec)) listCallsCard

/-- THE TIED CARD OF 'rootcellarlaw13.ListNone'. -/
def listNoneCard : Claim7 := { stood := { row := listNoneRow, standIns := [], harness := (true, "5a1dc9b67b0b629241b086394afa09e128f98035762a70dc13333a6cf760a5c4"), looks := false }, kinds := [], alts := [], laidByText := true, laidKinds := [.data, .data], laidTests := true, laidLooks := .later }
def ListNoneCardSaid : Prop := Claim7.holds Tryz.pinned (.plain (OpenSpec.ofChange listNoneSpec)) listNoneCard

/-- THE TIED CARD OF 'rootcellarlaw13.ListAll'. -/
def listAllCard : Claim7 := { stood := { row := listAllRow, standIns := [], harness := (true, "5a1dc9b67b0b629241b086394afa09e128f98035762a70dc13333a6cf760a5c4"), looks := false }, kinds := [], alts := [], laidByText := true, laidKinds := [.data, .data], laidTests := true, laidLooks := .later }
def ListAllCardSaid : Prop := Claim7.holds Tryz.pinned (.plain (OpenSpec.ofChange listAllSpec)) listAllCard

/-- THE TIED CARD OF 'rootcellarlaw13.ListRanks'. -/
def listRanksCard : Claim7 := { stood := { row := listRanksRow, standIns := [], harness := (true, "5a1dc9b67b0b629241b086394afa09e128f98035762a70dc13333a6cf760a5c4"), looks := false }, kinds := [], alts := [], laidByText := true, laidKinds := [.data, .data], laidTests := true, laidLooks := .later }
def ListRanksCardSaid : Prop := Claim7.holds Tryz.pinned (.plain (OpenSpec.ofChange listRanksSpec)) listRanksCard

/-- THE TIED CARD OF 'rootcellarlaw13.ListKnown'. -/
def listKnownCard : Claim7 := { stood := { row := listKnownRow, standIns := [], harness := (true, "5a1dc9b67b0b629241b086394afa09e128f98035762a70dc13333a6cf760a5c4"), looks := false }, kinds := [], alts := [], laidByText := true, laidKinds := [.data, .data], laidTests := true, laidLooks := .later }
def ListKnownCardSaid : Prop := Claim7.holds Tryz.pinned (.plain (OpenSpec.ofChange listKnownSpec)) listKnownCard

/-- THE SECOND FORM's CARD OF 'rootcellarlaw13.ListCalls'. -/
def listCallsUptoCard : Claim7 := { stood := { row := listCallsUptoRow, standIns := [], harness := (true, "5a1dc9b67b0b629241b086394afa09e128f98035762a70dc13333a6cf760a5c4"), looks := false }, kinds := [], alts := [], laidByText := true, laidKinds := [.data, .data], laidTests := true, laidLooks := .later }
def ListCallsUptoCardSaid : Prop := Claim7.holds Tryz.pinned (.plain (OpenSpec.upto listCallsSpec)) listCallsUptoCard

/-- THE SECOND FORM's CARD OF 'rootcellarlaw13.ListNone'. -/
def listNoneUptoCard : Claim7 := { stood := { row := listNoneUptoRow, standIns := [], harness := (true, "5a1dc9b67b0b629241b086394afa09e128f98035762a70dc13333a6cf760a5c4"), looks := false }, kinds := [], alts := [], laidByText := true, laidKinds := [.data, .data], laidTests := true, laidLooks := .later }
def ListNoneUptoCardSaid : Prop := Claim7.holds Tryz.pinned (.plain (OpenSpec.upto listNoneSpec)) listNoneUptoCard

/-- THE SECOND FORM's CARD OF 'rootcellarlaw13.ListAll'. -/
def listAllUptoCard : Claim7 := { stood := { row := listAllUptoRow, standIns := [], harness := (true, "5a1dc9b67b0b629241b086394afa09e128f98035762a70dc13333a6cf760a5c4"), looks := false }, kinds := [], alts := [], laidByText := true, laidKinds := [.data, .data], laidTests := true, laidLooks := .later }
def ListAllUptoCardSaid : Prop := Claim7.holds Tryz.pinned (.plain (OpenSpec.upto listAllSpec)) listAllUptoCard

/-- THE SECOND FORM's CARD OF 'rootcellarlaw13.ListRanks'. -/
def listRanksUptoCard : Claim7 := { stood := { row := listRanksUptoRow, standIns := [], harness := (true, "5a1dc9b67b0b629241b086394afa09e128f98035762a70dc13333a6cf760a5c4"), looks := false }, kinds := [], alts := [], laidByText := true, laidKinds := [.data, .data], laidTests := true, laidLooks := .later }
def ListRanksUptoCardSaid : Prop := Claim7.holds Tryz.pinned (.plain (OpenSpec.upto listRanksSpec)) listRanksUptoCard

/-- THE SECOND FORM's CARD OF 'rootcellarlaw13.ListKnown'. -/
def listKnownUptoCard : Claim7 := { stood := { row := listKnownUptoRow, standIns := [], harness := (true, "5a1dc9b67b0b629241b086394afa09e128f98035762a70dc13333a6cf760a5c4"), looks := false }, kinds := [], alts := [], laidByText := true, laidKinds := [.data, .data], laidTests := true, laidLooks := .later }
def ListKnownUptoCardSaid : Prop := Claim7.holds Tryz.pinned (.plain (OpenSpec.upto listKnownSpec)) listKnownUptoCard
end Rows
end Go.Proofs.YtgfdgjkbcdmboabGreatDoor
