/-
  DERIVED. GIVEN WITH THE SEED: THE CARDS: each row of YtpihigcnoifcfaaDoorRows.lean that lists a variable, with what it lists TIED to the program's text (the seventh form; the later family's looks); each row that meets fmt, with fmt's text TOLD by the authors' own Lean function (tested against real Go, not proved from fmt's source: count such statements apart). THE CARD IS WHAT COUNTS. Prove the row's statement (the work); the ties are given (YtpihigcnoifcfaaDoorTie.lean); close each card by the builder's one call (the guide's Derived/Test/ToyasCard.lean, 'card_holds'). Laid BY PROGRAM, IN A SANDBOX (cutbox-door.mjs). By AI agents, Wed Nov 11 2026. No macro, syntax, notation, axiom, sorry.
-/
import Derived.Test.YtpihigcnoifcfaaDoorRows
import GoSem.ClaimSeven
namespace Go.Proofs.YtpihigcnoifcfaaDoor
namespace Rows

/-- THE TIED CARD OF 'rootcellarlaw18.VerifyReads'. -/
def verifyReadsCard : Claim7 := { stood := { row := verifyReadsRow, standIns := [], harness := (true, "1e1200b3476862114336d13bd9cd8892bb6a64f126fe03be9107148805b6a0f1"), looks := false }, kinds := [], alts := [], laidByText := true, laidKinds := [.data, .data], laidTests := true, laidLooks := .later }
def VerifyReadsCardSaid : Prop := Claim7.holds Tryd.pinned (.plain (OpenSpec.ofChange verifyReadsSpec)) verifyReadsCard

/-- THE SECOND FORM's CARD OF 'rootcellarlaw18.VerifyReads'. -/
def verifyReadsUptoCard : Claim7 := { stood := { row := verifyReadsUptoRow, standIns := [], harness := (true, "1e1200b3476862114336d13bd9cd8892bb6a64f126fe03be9107148805b6a0f1"), looks := false }, kinds := [], alts := [], laidByText := true, laidKinds := [.data, .data], laidTests := true, laidLooks := .later }
def VerifyReadsUptoCardSaid : Prop := Claim7.holds Tryd.pinned (.plain (OpenSpec.upto verifyReadsSpec)) verifyReadsUptoCard
end Rows
end Go.Proofs.YtpihigcnoifcfaaDoor
