/- rootcellarkit.CopyProof, as a contract. -/
import Derived.Test.YtpihigcnoifcfaaGreatDoorVw22
import Derived.Test.YtpihigcnoifcfaaGreatDoorVw15
import Derived.Test.YtpihigcnoifcfaaGreatDoorVw20
namespace Go.Proofs.YtpihigcnoifcfaaGreatDoor
set_option maxRecDepth 20000
open Go.RowKit

theorem exec_bld (o : Oper) (a : Act) (ty : TypeId) (parts : Array (Nat × Operand)) (ho : o.op = .build ty parts) (cs : Array Value) (h : Tryz.prog.built ty (parts.map fun (i, x) => (i, a.eval x)).toList = some cs) (w : World) : (execOp a.eval o).run Tryz.prog w = .ok (.value (.agg cs)) w := by
  unfold execOp
  simp only [ho, Sem.run_bind, run_build w ty _ cs h, Result.andThen_ok, Sem.run_pure]

end Go.Proofs.YtpihigcnoifcfaaGreatDoor

/- The document's Bit, Set, Common, Compare (rootcellarref04), as contracts. -/
namespace Go.Proofs.YtpihigcnoifcfaaGreatDoor
set_option maxRecDepth 20000
open Go.RowKit

theorem half_step (x : Int) (k : Nat) : x / 2 ^ k / 2 = x / 2 ^ (k + 1) := by
  rw [Int.pow_succ, Int.ediv_ediv_of_nonneg (Int.pow_nonneg (by omega))]

end Go.Proofs.YtpihigcnoifcfaaGreatDoor

/- The document's side of entries, as a contract; entries appended one by one. -/
namespace Go.Proofs.YtpihigcnoifcfaaGreatDoor
set_option maxRecDepth 20000
open Go.RowKit

theorem side_step (es : List Ent) (k d : Nat) (b : Int) (hk : k < es.length) : sideOf (es.take (k + 1)) d b = sideOf (es.take k) d b ++ (if (kbi (es.getD k e00).1 d == b) = true then [es.getD k e00] else []) := by
  unfold sideOf
  rw [List.take_add_one, List.filter_append]
  congr 1
  simp [List.getD, hk, List.filter_cons]

def SidePost (es : List Ent) (d : Nat) (b : Int) (w : World) (e : Ending) (w' : World) : Prop := ∃ v V, e = .returned v ∧ PrAt w' v V (sideOf es d b) ∧ Below w.heap.size w w'

theorem below_own {w0 w w' : World} {base n : Nat} {v : Value} {xs : List Value} (hb : Below w0.heap.size w0 w) (ho : w.ownsRow base 45 33 v n xs) (hbase : w0.heap.size ≤ base) (hg : w.grownBy w' v.ownBlock) : Below w0.heap.size w0 w' :=
  hb.trans ⟨hg.os, hg.tape, hg.output, hg.size, fun k hk => hg.block k (Nat.lt_of_lt_of_le hk hb.size) (fun e => by have := (ho.lt k e.symm).1; omega)⟩

end Go.Proofs.YtpihigcnoifcfaaGreatDoor
