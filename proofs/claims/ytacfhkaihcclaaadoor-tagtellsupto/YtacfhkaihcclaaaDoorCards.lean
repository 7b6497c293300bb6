/-
  DERIVED. GIVEN WITH THE SEED: THE CARDS: each row of YtacfhkaihcclaaaDoorRows.lean that lists a variable, with what it lists TIED to the program's text (the seventh form; the later family's looks); each row that meets fmt, with fmt's text TOLD by the authors' own Lean function (tested against real Go, not proved from fmt's source: count such statements apart). THE CARD IS WHAT COUNTS. Prove the row's statement (the work); the ties are given (YtacfhkaihcclaaaDoorTie.lean); close each card by the builder's one call (the guide's Derived/Test/ToyasCard.lean, 'card_holds'). Laid BY PROGRAM, IN A SANDBOX (cutbox-door.mjs). By AI agents, Wed Nov 11 2026. No macro, syntax, notation, axiom, sorry.
-/
import Derived.Test.YtacfhkaihcclaaaDoorRows
import GoSem.ClaimSeven
namespace Go.Proofs.YtacfhkaihcclaaaDoor
namespace Rows

/-- THE TIED CARD OF 'rootcellarlaw03.TagTells'. -/
def tagTellsCard : Claim7 := { stood := { row := tagTellsRow, standIns := [], harness := (true, "83490edea18be759d934ea55716a7edeb5859adbb763a82be27d227c9aaaa8c8"), looks := false }, kinds := [], alts := [], laidByText := true, laidKinds := [.data, .data], laidTests := true, laidLooks := .later }
def TagTellsCardSaid : Prop := Claim7.holds Tryd.pinned (.plain (OpenSpec.ofChange tagTellsSpec)) tagTellsCard

/-- THE TIED CARD OF 'rootcellarlaw03.TagClash'. -/
def tagClashCard : Claim7 := { stood := { row := tagClashRow, standIns := [], harness := (true, "83490edea18be759d934ea55716a7edeb5859adbb763a82be27d227c9aaaa8c8"), looks := false }, kinds := [], alts := [], laidByText := true, laidKinds := [.data, .data], laidTests := true, laidLooks := .later }
def TagClashCardSaid : Prop := Claim7.holds Tryd.pinned (.plain (OpenSpec.ofChange tagClashSpec)) tagClashCard

/-- THE TIED CARD OF 'rootcellarlaw03.TagApart'. -/
def tagApartCard : Claim7 := { stood := { row := tagApartRow, standIns := [], harness := (true, "83490edea18be759d934ea55716a7edeb5859adbb763a82be27d227c9aaaa8c8"), looks := false }, kinds := [], alts := [], laidByText := true, laidKinds := [.data, .data], laidTests := true, laidLooks := .later }
def TagApartCardSaid : Prop := Claim7.holds Tryd.pinned (.plain (OpenSpec.ofChange tagApartSpec)) tagApartCard

/-- THE SECOND FORM's CARD OF 'rootcellarlaw03.TagTells'. -/
def tagTellsUptoCard : Claim7 := { stood := { row := tagTellsUptoRow, standIns := [], harness := (true, "83490edea18be759d934ea55716a7edeb5859adbb763a82be27d227c9aaaa8c8"), looks := false }, kinds := [], alts := [], laidByText := true, laidKinds := [.data, .data], laidTests := true, laidLooks := .later }
def TagTellsUptoCardSaid : Prop := Claim7.holds Tryd.pinned (.plain (OpenSpec.upto tagTellsSpec)) tagTellsUptoCard

/-- THE SECOND FORM's CARD OF 'rootcellarlaw03.TagClash'. -/
def tagClashUptoCard : Claim7 := { stood := { row := tagClashUptoRow, standIns := [], harness := (true, "83490edea18be759d934ea55716a7edeb5859adbb763a82be27d227c9aaaa8c8"), looks := false }, kinds := [], alts := [], laidByText := true, laidKinds := [.data, .data], laidTests := true, laidLooks := .later }
def TagClashUptoCardSaid : Prop := Claim7.holds Tryd.pinned (.plain (OpenSpec.upto tagClashSpec)) tagClashUptoCard

/-- THE SECOND FORM's CARD OF 'rootcellarlaw03.TagApart'. -/
def tagApartUptoCard : Claim7 := { stood := { row := tagApartUptoRow, standIns := [], harness := (true, "83490edea18be759d934ea55716a7edeb5859adbb763a82be27d227c9aaaa8c8"), looks := false }, kinds := [], alts := [], laidByText := true, laidKinds := [.data, .data], laidTests := true, laidLooks := .later }
def TagApartUptoCardSaid : Prop := Claim7.holds Tryd.pinned (.plain (OpenSpec.upto tagApartSpec)) tagApartUptoCard
end Rows
end Go.Proofs.YtacfhkaihcclaaaDoor
