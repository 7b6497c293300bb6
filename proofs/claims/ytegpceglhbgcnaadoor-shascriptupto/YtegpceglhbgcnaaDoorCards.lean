/-
  DERIVED. GIVEN WITH THE SEED: THE CARDS: each row of YtegpceglhbgcnaaDoorRows.lean that lists a variable, with what it lists TIED to the program's text (the seventh form; the later family's looks); each row that meets fmt, with fmt's text TOLD by the authors' own Lean function (tested against real Go, not proved from fmt's source: count such statements apart). THE CARD IS WHAT COUNTS. Prove the row's statement (the work); the ties are given (YtegpceglhbgcnaaDoorTie.lean); close each card by the builder's one call (the guide's Derived/Test/ToyasCard.lean, 'card_holds'). Laid BY PROGRAM, IN A SANDBOX (cutbox-door.mjs). By AI agents, Wed Nov 11 2026. No macro, syntax, notation, axiom, sorry.
-/
import Derived.Test.YtegpceglhbgcnaaDoorRows
import GoSem.ClaimSeven
namespace Go.Proofs.YtegpceglhbgcnaaDoor
namespace Rows

/-- THE TIED CARD OF 'rootcellarlaw02.ShaSums'. -/
def shaSumsCard : Claim7 := { stood := { row := shaSumsRow, standIns := [], harness := (true, "b6d45d530ef8d35cb84f83b7cd16b484f973f1f34cd489b53d6d1e9b5b8c00fd"), looks := false }, kinds := [], alts := [], laidByText := true, laidKinds := [.data, .data], laidTests := true, laidLooks := .later }
def ShaSumsCardSaid : Prop := Claim7.holds Tryd.pinned (.plain (OpenSpec.ofChange shaSumsSpec)) shaSumsCard

/-- THE TIED CARD OF 'rootcellarlaw02.ShaScript'. -/
def shaScriptCard : Claim7 := { stood := { row := shaScriptRow, standIns := [], harness := (true, "b6d45d530ef8d35cb84f83b7cd16b484f973f1f34cd489b53d6d1e9b5b8c00fd"), looks := false }, kinds := [], alts := [], laidByText := true, laidKinds := [.data, .data], laidTests := true, laidLooks := .later }
def ShaScriptCardSaid : Prop := Claim7.holds Tryd.pinned (.plain (OpenSpec.ofChange shaScriptSpec)) shaScriptCard

/-- THE TIED CARD OF 'rootcellarlaw02.ShaPieces'. -/
def shaPiecesCard : Claim7 := { stood := { row := shaPiecesRow, standIns := [], harness := (true, "b6d45d530ef8d35cb84f83b7cd16b484f973f1f34cd489b53d6d1e9b5b8c00fd"), looks := false }, kinds := [], alts := [], laidByText := true, laidKinds := [.data, .data], laidTests := true, laidLooks := .later }
def ShaPiecesCardSaid : Prop := Claim7.holds Tryd.pinned (.plain (OpenSpec.ofChange shaPiecesSpec)) shaPiecesCard

/-- THE TIED CARD OF 'rootcellarlaw02.ShaNil'. -/
def shaNilCard : Claim7 := { stood := { row := shaNilRow, standIns := [], harness := (true, "b6d45d530ef8d35cb84f83b7cd16b484f973f1f34cd489b53d6d1e9b5b8c00fd"), looks := false }, kinds := [], alts := [], laidByText := true, laidKinds := [.data, .data], laidTests := true, laidLooks := .later }
def ShaNilCardSaid : Prop := Claim7.holds Tryd.pinned (.plain (OpenSpec.ofChange shaNilSpec)) shaNilCard

/-- THE SECOND FORM's CARD OF 'rootcellarlaw02.ShaSums'. -/
def shaSumsUptoCard : Claim7 := { stood := { row := shaSumsUptoRow, standIns := [], harness := (true, "b6d45d530ef8d35cb84f83b7cd16b484f973f1f34cd489b53d6d1e9b5b8c00fd"), looks := false }, kinds := [], alts := [], laidByText := true, laidKinds := [.data, .data], laidTests := true, laidLooks := .later }
def ShaSumsUptoCardSaid : Prop := Claim7.holds Tryd.pinned (.plain (OpenSpec.upto shaSumsSpec)) shaSumsUptoCard

/-- THE SECOND FORM's CARD OF 'rootcellarlaw02.ShaScript'. -/
def shaScriptUptoCard : Claim7 := { stood := { row := shaScriptUptoRow, standIns := [], harness := (true, "b6d45d530ef8d35cb84f83b7cd16b484f973f1f34cd489b53d6d1e9b5b8c00fd"), looks := false }, kinds := [], alts := [], laidByText := true, laidKinds := [.data, .data], laidTests := true, laidLooks := .later }
def ShaScriptUptoCardSaid : Prop := Claim7.holds Tryd.pinned (.plain (OpenSpec.upto shaScriptSpec)) shaScriptUptoCard

/-- THE SECOND FORM's CARD OF 'rootcellarlaw02.ShaPieces'. -/
def shaPiecesUptoCard : Claim7 := { stood := { row := shaPiecesUptoRow, standIns := [], harness := (true, "b6d45d530ef8d35cb84f83b7cd16b484f973f1f34cd489b53d6d1e9b5b8c00fd"), looks := false }, kinds := [], alts := [], laidByText := true, laidKinds := [.data, .data], laidTests := true, laidLooks := .later }
def ShaPiecesUptoCardSaid : Prop := Claim7.holds Tryd.pinned (.plain (OpenSpec.upto shaPiecesSpec)) shaPiecesUptoCard

/-- THE SECOND FORM's CARD OF 'rootcellarlaw02.ShaNil'. -/
def shaNilUptoCard : Claim7 := { stood := { row := shaNilUptoRow, standIns := [], harness := (true, "b6d45d530ef8d35cb84f83b7cd16b484f973f1f34cd489b53d6d1e9b5b8c00fd"), looks := false }, kinds := [], alts := [], laidByText := true, laidKinds := [.data, .data], laidTests := true, laidLooks := .later }
def ShaNilUptoCardSaid : Prop := Claim7.holds Tryd.pinned (.plain (OpenSpec.upto shaNilSpec)) shaNilUptoCard
end Rows
end Go.Proofs.YtegpceglhbgcnaaDoor
