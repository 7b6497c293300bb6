/-
  NARROWER THAN 'FOR EVERY INPUT', by the rows' own cells (each row's printed sentence says how): DictScript: laid · DictSound: laid · DictBack: laid · ProofTells: laid · ProofHolds: laid.
  DERIVED. THE GIVEN ROWS OF THIS SEAT. 5 by the template 'for every input the law returns true; each argument reads behind the call as it read before'; 0 by the template 'total and deterministic' (their statements: YtdjpigfibafokaaGreatDoorTotals.lean).
  GIVEN WITH THE SEED: the statements are not yours to turn. If you find one false, say at which input.
  Laid BY PROGRAM, IN A SANDBOX (cutbox-rows.mjs): the forced cells as the released guide's own fill.sh prints them over the translation b31f91cbb94f7e52… (all of the seat's roots in one cut). By AI agents, Wed Nov 11 2026. No macro, syntax, notation, axiom, sorry.
-/
import Derived.Test.YtdjpigfibafokaaGreatDoorChecked
import GoSem.Claim
import GoSem.ClaimJoined
import GoSem.ClaimMapViews
import Derived.JoinedTies
import Derived.KernelRfl
namespace Go.Proofs.YtdjpigfibafokaaGreatDoor
/- THE CELL 'sum', in the pinned program and in every row, IS THE sha256 OF THE DUMP (.gsa) THAT YtdjpigfibafokaaGreatDoorProg.lean LOADS. Nothing in Lean hashes anything: it is a label: what it is worth is what the hold of that sum in a sandbox is worth. -/
noncomputable def Tryz.pinned : Pinned := { name := "ytdjpigfibafokaagreatdoor", sum := "b31f91cbb94f7e524c0b52692c2cfcd54d772bd8bf4385c9a6d781895200ce9b", checked := Tryz.checked }
namespace Rows
def none {H : Type} : Left H := { results := [], args := [] }

/- WHAT THE LISTED PACKAGE-LEVEL VARIABLES READ AS WHEN THE CALL BEGINS. Each datum BY PROGRAM (the guide's laid-datum.mjs) off the statement by which the dump's own 'gosem.cut.vars' lays the variable. In a bare row this is a premise. The card (YtdjpigfibafokaaGreatDoorCards.lean) ties it to the program's text. -/
def laid_rootcellar_sha_first {H : Type} : DataW H := .agg [.lit (.int .u32 1779033703), .lit (.int .u32 3144134277), .lit (.int .u32 1013904242), .lit (.int .u32 2773480762), .lit (.int .u32 1359893119), .lit (.int .u32 2600822924), .lit (.int .u32 528734635), .lit (.int .u32 1541459225)]
def laid_rootcellar_sha_rounds {H : Type} : DataW H := .agg [.lit (.int .u32 1116352408), .lit (.int .u32 1899447441), .lit (.int .u32 3049323471), .lit (.int .u32 3921009573), .lit (.int .u32 961987163), .lit (.int .u32 1508970993), .lit (.int .u32 2453635748), .lit (.int .u32 2870763221), .lit (.int .u32 3624381080), .lit (.int .u32 310598401), .lit (.int .u32 607225278), .lit (.int .u32 1426881987), .lit (.int .u32 1925078388), .lit (.int .u32 2162078206), .lit (.int .u32 2614888103), .lit (.int .u32 3248222580), .lit (.int .u32 3835390401), .lit (.int .u32 4022224774), .lit (.int .u32 264347078), .lit (.int .u32 604807628), .lit (.int .u32 770255983), .lit (.int .u32 1249150122), .lit (.int .u32 1555081692), .lit (.int .u32 1996064986), .lit (.int .u32 2554220882), .lit (.int .u32 2821834349), .lit (.int .u32 2952996808), .lit (.int .u32 3210313671), .lit (.int .u32 3336571891), .lit (.int .u32 3584528711), .lit (.int .u32 113926993), .lit (.int .u32 338241895), .lit (.int .u32 666307205), .lit (.int .u32 773529912), .lit (.int .u32 1294757372), .lit (.int .u32 1396182291), .lit (.int .u32 1695183700), .lit (.int .u32 1986661051), .lit (.int .u32 2177026350), .lit (.int .u32 2456956037), .lit (.int .u32 2730485921), .lit (.int .u32 2820302411), .lit (.int .u32 3259730800), .lit (.int .u32 3345764771), .lit (.int .u32 3516065817), .lit (.int .u32 3600352804), .lit (.int .u32 4094571909), .lit (.int .u32 275423344), .lit (.int .u32 430227734), .lit (.int .u32 506948616), .lit (.int .u32 659060556), .lit (.int .u32 883997877), .lit (.int .u32 958139571), .lit (.int .u32 1322822218), .lit (.int .u32 1537002063), .lit (.int .u32 1747873779), .lit (.int .u32 1955562222), .lit (.int .u32 2024104815), .lit (.int .u32 2227730452), .lit (.int .u32 2361852424), .lit (.int .u32 2428436474), .lit (.int .u32 2756734187), .lit (.int .u32 3204031479), .lit (.int .u32 3329325298)]

/-- 'rootcellarlaw15.DictScript': WHATEVER THE INPUT: true; the input reads as it did. -/
def dictScriptSpec : ChangeSpec := { name := "dictScript", fn := fun _ => fun
  | [d1, d2] => { results := [.lit (.bool true)], args := [d1, d2] }
  | _ => none }
def dictScriptRow : OpenClaim := { program := "ytdjpigfibafokaagreatdoor", sum := "b31f91cbb94f7e524c0b52692c2cfcd54d772bd8bf4385c9a6d781895200ce9b", func := "rootcellar/rootcellarlaw15.DictScript", spec := "dictScript", inPlace := ["internal/bytealg.Compare"], unfollowed := true, recurses := true, named := ["rootcellar/sha.first", "rootcellar/sha.rounds"], plainKeys := false, apart := false, laid := [("rootcellar/sha.first", laid_rootcellar_sha_first), ("rootcellar/sha.rounds", laid_rootcellar_sha_rounds)] }
def DictScriptSaid : Prop := dictScriptRow.holds Tryz.pinned (OpenSpec.ofChange dictScriptSpec)

/-- ITS FALSE NEIGHBOUR: 'it returns false'. Refute it at one input. -/
def dictScriptWrong : ChangeSpec := { name := "dictScript", fn := fun _ => fun
  | [d1, d2] => { results := [.lit (.bool false)], args := [d1, d2] }
  | _ => none }
def DictScriptWrongFalsely : Prop := dictScriptRow.holds Tryz.pinned (OpenSpec.ofChange dictScriptWrong)

/-- 'rootcellarlaw15.DictSound': WHATEVER THE INPUT: true; the input reads as it did. -/
def dictSoundSpec : ChangeSpec := { name := "dictSound", fn := fun _ => fun
  | [d1, d2] => { results := [.lit (.bool true)], args := [d1, d2] }
  | _ => none }
def dictSoundRow : OpenClaim := { program := "ytdjpigfibafokaagreatdoor", sum := "b31f91cbb94f7e524c0b52692c2cfcd54d772bd8bf4385c9a6d781895200ce9b", func := "rootcellar/rootcellarlaw15.DictSound", spec := "dictSound", inPlace := ["internal/bytealg.Compare"], unfollowed := true, recurses := true, named := ["rootcellar/sha.first", "rootcellar/sha.rounds"], plainKeys := false, apart := false, laid := [("rootcellar/sha.first", laid_rootcellar_sha_first), ("rootcellar/sha.rounds", laid_rootcellar_sha_rounds)] }
def DictSoundSaid : Prop := dictSoundRow.holds Tryz.pinned (OpenSpec.ofChange dictSoundSpec)

/-- ITS FALSE NEIGHBOUR: 'it returns false'. Refute it at one input. -/
def dictSoundWrong : ChangeSpec := { name := "dictSound", fn := fun _ => fun
  | [d1, d2] => { results := [.lit (.bool false)], args := [d1, d2] }
  | _ => none }
def DictSoundWrongFalsely : Prop := dictSoundRow.holds Tryz.pinned (OpenSpec.ofChange dictSoundWrong)

/-- 'rootcellarlaw15.DictBack': WHATEVER THE INPUT: true; the input reads as it did. -/
def dictBackSpec : ChangeSpec := { name := "dictBack", fn := fun _ => fun
  | [d1, d2, d3, d4] => { results := [.lit (.bool true)], args := [d1, d2, d3, d4] }
  | _ => none }
def dictBackRow : OpenClaim := { program := "ytdjpigfibafokaagreatdoor", sum := "b31f91cbb94f7e524c0b52692c2cfcd54d772bd8bf4385c9a6d781895200ce9b", func := "rootcellar/rootcellarlaw15.DictBack", spec := "dictBack", inPlace := ["internal/bytealg.Compare"], unfollowed := true, recurses := true, named := ["rootcellar/sha.first", "rootcellar/sha.rounds"], plainKeys := false, apart := false, laid := [("rootcellar/sha.first", laid_rootcellar_sha_first), ("rootcellar/sha.rounds", laid_rootcellar_sha_rounds)] }
def DictBackSaid : Prop := dictBackRow.holds Tryz.pinned (OpenSpec.ofChange dictBackSpec)

/-- ITS FALSE NEIGHBOUR: 'it returns false'. Refute it at one input. -/
def dictBackWrong : ChangeSpec := { name := "dictBack", fn := fun _ => fun
  | [d1, d2, d3, d4] => { results := [.lit (.bool false)], args := [d1, d2, d3, d4] }
  | _ => none }
def DictBackWrongFalsely : Prop := dictBackRow.holds Tryz.pinned (OpenSpec.ofChange dictBackWrong)

/-- 'rootcellarlaw16.ProofTells': WHATEVER THE INPUT: true; the input reads as it did. -/
def proofTellsSpec : ChangeSpec := { name := "proofTells", fn := fun _ => fun
  | [d1, d2, d3, d4, d5, d6] => { results := [.lit (.bool true)], args := [d1, d2, d3, d4, d5, d6] }
  | _ => none }
def proofTellsRow : OpenClaim := { program := "ytdjpigfibafokaagreatdoor", sum := "b31f91cbb94f7e524c0b52692c2cfcd54d772bd8bf4385c9a6d781895200ce9b", func := "rootcellar/rootcellarlaw16.ProofTells", spec := "proofTells", inPlace := ["internal/bytealg.Compare"], unfollowed := true, recurses := true, named := ["rootcellar/sha.first", "rootcellar/sha.rounds"], plainKeys := false, apart := false, laid := [("rootcellar/sha.first", laid_rootcellar_sha_first), ("rootcellar/sha.rounds", laid_rootcellar_sha_rounds)] }
def ProofTellsSaid : Prop := proofTellsRow.holds Tryz.pinned (OpenSpec.ofChange proofTellsSpec)

/-- ITS FALSE NEIGHBOUR: 'it returns false'. Refute it at one input. -/
def proofTellsWrong : ChangeSpec := { name := "proofTells", fn := fun _ => fun
  | [d1, d2, d3, d4, d5, d6] => { results := [.lit (.bool false)], args := [d1, d2, d3, d4, d5, d6] }
  | _ => none }
def ProofTellsWrongFalsely : Prop := proofTellsRow.holds Tryz.pinned (OpenSpec.ofChange proofTellsWrong)

/-- 'rootcellarlaw16.ProofHolds': WHATEVER THE INPUT: true; the input reads as it did. -/
def proofHoldsSpec : ChangeSpec := { name := "proofHolds", fn := fun _ => fun
  | [d1, d2] => { results := [.lit (.bool true)], args := [d1, d2] }
  | _ => none }
def proofHoldsRow : OpenClaim := { program := "ytdjpigfibafokaagreatdoor", sum := "b31f91cbb94f7e524c0b52692c2cfcd54d772bd8bf4385c9a6d781895200ce9b", func := "rootcellar/rootcellarlaw16.ProofHolds", spec := "proofHolds", inPlace := ["internal/bytealg.Compare"], unfollowed := true, recurses := true, named := ["rootcellar/sha.first", "rootcellar/sha.rounds"], plainKeys := false, apart := false, laid := [("rootcellar/sha.first", laid_rootcellar_sha_first), ("rootcellar/sha.rounds", laid_rootcellar_sha_rounds)] }
def ProofHoldsSaid : Prop := proofHoldsRow.holds Tryz.pinned (OpenSpec.ofChange proofHoldsSpec)

/-- ITS FALSE NEIGHBOUR: 'it returns false'. Refute it at one input. -/
def proofHoldsWrong : ChangeSpec := { name := "proofHolds", fn := fun _ => fun
  | [d1, d2] => { results := [.lit (.bool false)], args := [d1, d2] }
  | _ => none }
def ProofHoldsWrongFalsely : Prop := proofHoldsRow.holds Tryz.pinned (OpenSpec.ofChange proofHoldsWrong)

/- THE SECOND FORM. 'bulk': how many values and letters a reading holds, each counted each time it is reached (what is shared counts as often as it is met; a slice's spare places count too). A statement '..UptoSaid' is the law's where the arguments, and the package variables that the reading takes, are together of bulk at most 1048576: NARROWER than '..Said'. Prove '..Said' where nothing that the law and all that it calls make is longer than what came in: it says more and counts as full. Else prove '..UptoSaid'. A law counts once. -/
mutual
def uptoBulk {H : Type} : DataW H → Nat
  | .lit (.string bytes) => bytes.length + 1
  | .lit _ => 1
  | .nil => 1
  | .ptr d => uptoBulk d + 1
  | .slice elems spare => uptoBulkAll elems + uptoBulkAll spare + 1
  | .agg parts => uptoBulkAll parts + 1
  | .iface _ d => uptoBulk d + 1
  | .map entries => uptoBulkEntries entries + 1
  | .held _ => 1
def uptoBulkAll {H : Type} : List (DataW H) → Nat
  | [] => 0
  | d :: r => uptoBulk d + uptoBulkAll r
def uptoBulkEntries {H : Type} : List (Lit × DataW H) → Nat
  | [] => 0
  | x :: r => uptoBulkEntry x + uptoBulkEntries r
def uptoBulkEntry {H : Type} : Lit × DataW H → Nat
  | (.string bytes, d) => bytes.length + uptoBulk d + 1
  | (_, d) => uptoBulk d + 1
 end
def uptoSmall : (H : Type) → List (DataW H) → Bool := fun _ ds => decide (uptoBulkAll ds ≤ 1048576)
def OpenSpec.upto (s : _root_.Go.ChangeSpec) : _root_.Go.OpenSpec := { _root_.Go.OpenSpec.ofChange s with cond := some uptoSmall }

/-- 'rootcellarlaw15.DictScript', WHERE WHAT IT READS IS OF BULK AT MOST 1048576: true; the input reads as it did. -/
def dictScriptUptoRow : OpenClaim := { program := "ytdjpigfibafokaagreatdoor", sum := "b31f91cbb94f7e524c0b52692c2cfcd54d772bd8bf4385c9a6d781895200ce9b", func := "rootcellar/rootcellarlaw15.DictScript", spec := "dictScript", inPlace := ["internal/bytealg.Compare"], unfollowed := true, recurses := true, named := ["rootcellar/sha.first", "rootcellar/sha.rounds"], plainKeys := false, apart := false, laid := [("rootcellar/sha.first", laid_rootcellar_sha_first), ("rootcellar/sha.rounds", laid_rootcellar_sha_rounds)], narrowed := true }
def DictScriptUptoSaid : Prop := dictScriptUptoRow.holds Tryz.pinned (OpenSpec.upto dictScriptSpec)

/-- 'rootcellarlaw15.DictSound', WHERE WHAT IT READS IS OF BULK AT MOST 1048576: true; the input reads as it did. -/
def dictSoundUptoRow : OpenClaim := { program := "ytdjpigfibafokaagreatdoor", sum := "b31f91cbb94f7e524c0b52692c2cfcd54d772bd8bf4385c9a6d781895200ce9b", func := "rootcellar/rootcellarlaw15.DictSound", spec := "dictSound", inPlace := ["internal/bytealg.Compare"], unfollowed := true, recurses := true, named := ["rootcellar/sha.first", "rootcellar/sha.rounds"], plainKeys := false, apart := false, laid := [("rootcellar/sha.first", laid_rootcellar_sha_first), ("rootcellar/sha.rounds", laid_rootcellar_sha_rounds)], narrowed := true }
def DictSoundUptoSaid : Prop := dictSoundUptoRow.holds Tryz.pinned (OpenSpec.upto dictSoundSpec)

/-- 'rootcellarlaw15.DictBack', WHERE WHAT IT READS IS OF BULK AT MOST 1048576: true; the input reads as it did. -/
def dictBackUptoRow : OpenClaim := { program := "ytdjpigfibafokaagreatdoor", sum := "b31f91cbb94f7e524c0b52692c2cfcd54d772bd8bf4385c9a6d781895200ce9b", func := "rootcellar/rootcellarlaw15.DictBack", spec := "dictBack", inPlace := ["internal/bytealg.Compare"], unfollowed := true, recurses := true, named := ["rootcellar/sha.first", "rootcellar/sha.rounds"], plainKeys := false, apart := false, laid := [("rootcellar/sha.first", laid_rootcellar_sha_first), ("rootcellar/sha.rounds", laid_rootcellar_sha_rounds)], narrowed := true }
def DictBackUptoSaid : Prop := dictBackUptoRow.holds Tryz.pinned (OpenSpec.upto dictBackSpec)

/-- 'rootcellarlaw16.ProofTells', WHERE WHAT IT READS IS OF BULK AT MOST 1048576: true; the input reads as it did. -/
def proofTellsUptoRow : OpenClaim := { program := "ytdjpigfibafokaagreatdoor", sum := "b31f91cbb94f7e524c0b52692c2cfcd54d772bd8bf4385c9a6d781895200ce9b", func := "rootcellar/rootcellarlaw16.ProofTells", spec := "proofTells", inPlace := ["internal/bytealg.Compare"], unfollowed := true, recurses := true, named := ["rootcellar/sha.first", "rootcellar/sha.rounds"], plainKeys := false, apart := false, laid := [("rootcellar/sha.first", laid_rootcellar_sha_first), ("rootcellar/sha.rounds", laid_rootcellar_sha_rounds)], narrowed := true }
def ProofTellsUptoSaid : Prop := proofTellsUptoRow.holds Tryz.pinned (OpenSpec.upto proofTellsSpec)

/-- 'rootcellarlaw16.ProofHolds', WHERE WHAT IT READS IS OF BULK AT MOST 1048576: true; the input reads as it did. -/
def proofHoldsUptoRow : OpenClaim := { program := "ytdjpigfibafokaagreatdoor", sum := "b31f91cbb94f7e524c0b52692c2cfcd54d772bd8bf4385c9a6d781895200ce9b", func := "rootcellar/rootcellarlaw16.ProofHolds", spec := "proofHolds", inPlace := ["internal/bytealg.Compare"], unfollowed := true, recurses := true, named := ["rootcellar/sha.first", "rootcellar/sha.rounds"], plainKeys := false, apart := false, laid := [("rootcellar/sha.first", laid_rootcellar_sha_first), ("rootcellar/sha.rounds", laid_rootcellar_sha_rounds)], narrowed := true }
def ProofHoldsUptoSaid : Prop := proofHoldsUptoRow.holds Tryz.pinned (OpenSpec.upto proofHoldsSpec)

end Rows
end Go.Proofs.YtdjpigfibafokaaGreatDoor
