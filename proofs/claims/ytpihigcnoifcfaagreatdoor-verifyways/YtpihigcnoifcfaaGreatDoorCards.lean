/-
  DERIVED. GIVEN WITH THE SEED: THE CARDS: each row of YtpihigcnoifcfaaGreatDoorRows.lean that lists a variable, with what it lists TIED to the program's text (the seventh form; the later family's looks); each row that meets fmt, with fmt's text TOLD by the authors' own Lean function (tested against real Go, not proved from fmt's source: count such statements apart). THE CARD IS WHAT COUNTS. Prove the row's statement (the work); the ties are given (YtpihigcnoifcfaaGreatDoorTie.lean); close each card by the builder's one call (the guide's Derived/Test/ToyasCard.lean, 'card_holds'). Laid BY PROGRAM, IN A SANDBOX (cutbox-door.mjs). By AI agents, Wed Nov 11 2026. No macro, syntax, notation, axiom, sorry.
-/
import Derived.Test.YtpihigcnoifcfaaGreatDoorRows
import GoSem.ClaimSeven
namespace Go.Proofs.YtpihigcnoifcfaaGreatDoor
namespace Rows

/-- THE TIED CARD OF 'rootcellarlaw18.VerifyWays'. -/
def verifyWaysCard : Claim7 := { stood := { row := verifyWaysRow, standIns := [], harness := (true, "bcf6bc9bbe48774144501d02a4dce0d6419f447419a964546930b3d15dfe6f61"), looks := false }, kinds := [], alts := [], laidByText := true, laidKinds := [.data, .data], laidTests := true, laidLooks := .later }
def VerifyWaysCardSaid : Prop := Claim7.holds Tryz.pinned (.plain (OpenSpec.ofChange verifyWaysSpec)) verifyWaysCard

/-- THE SECOND FORM's CARD OF 'rootcellarlaw18.VerifyWays'. -/
def verifyWaysUptoCard : Claim7 := { stood := { row := verifyWaysUptoRow, standIns := [], harness := (true, "bcf6bc9bbe48774144501d02a4dce0d6419f447419a964546930b3d15dfe6f61"), looks := false }, kinds := [], alts := [], laidByText := true, laidKinds := [.data, .data], laidTests := true, laidLooks := .later }
def VerifyWaysUptoCardSaid : Prop := Claim7.holds Tryz.pinned (.plain (OpenSpec.upto verifyWaysSpec)) verifyWaysUptoCard
end Rows
end Go.Proofs.YtpihigcnoifcfaaGreatDoor
