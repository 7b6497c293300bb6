/- rootcellarkit.CopyProof, as a contract. -/
import Derived.Test.YtpihigcnoifcfaaDoorVr22
import Derived.Test.YtpihigcnoifcfaaDoorVr15
import Derived.Test.YtpihigcnoifcfaaDoorVr20
namespace Go.Proofs.YtpihigcnoifcfaaDoor
set_option maxRecDepth 20000
open Go.RowKit

theorem exec_bld (o : Oper) (a : Act) (ty : TypeId) (parts : Array (Nat × Operand)) (ho : o.op = .build ty parts) (cs : Array Value) (h : Tryd.prog.built ty (parts.map fun (i, x) => (i, a.eval x)).toList = some cs) (w : World) : (execOp a.eval o).run Tryd.prog w = .ok (.value (.agg cs)) w := by
  unfold execOp
  simp only [ho, Sem.run_bind, run_build w ty _ cs h, Result.andThen_ok, Sem.run_pure]

end Go.Proofs.YtpihigcnoifcfaaDoor

/- The document's Bit, Set, Common, Compare (rootcellarref04), as contracts. -/
namespace Go.Proofs.YtpihigcnoifcfaaDoor
set_option maxRecDepth 20000
open Go.RowKit

theorem half_step (x : Int) (k : Nat) : x / 2 ^ k / 2 = x / 2 ^ (k + 1) := by
  rw [Int.pow_succ, Int.ediv_ediv_of_nonneg (Int.pow_nonneg (by omega))]

set_option maxHeartbeats 2000000 in
theorem rbit_in (xs : List Int) (d : Nat) (w : World) (hx : Key xs) (hd : d < 256) : Calls Tryd.prog 36 #[.agg (B xs), .int .i64 d] w fun e w' => e = .returned (.int .i64 (kb xs d)) ∧ Below w.heap.size w w' := by
  have HX := hidden hx
  have h2 : ((d / 8 : Nat) : Int) < 32 := by omega
  have hb := hx.byte (d / 8)
  have t0 : decide ((d : Int) < 0) = false := decide_eq_false (by omega)
  have t1 : decide ((256 : Int) ≤ (d : Int)) = false := decide_eq_false (by omega)
  obtain ⟨x, hxx⟩ : ∃ x, x = xs.getD (d / 8) 0 := ⟨_, rfl⟩
  have HK : Hid (kb xs d = x / 2 ^ (7 - d % 8) % 2) := by rw [hxx]; rfl
  rw [← hxx] at hb
  have hwx : wrap64 x = x := Go.IntWalk.wrap64_in _ (by omega)
  have HXX := hidden hxx
  clear hx hxx
  go_enter Tryd.func36, Tryd.ntmps36
  go_wp2_with (refine wpList_bx _ rfl _ _ rfl _ rfl ?_; intro w1 g1 hg1 hl1 B1 b1; have c1 := B1.bcell (d / 8) (by rw [HX.out.1]; omega); rw [← HXX.out] at c1)
  clear c1 B1
  have hm : d % 8 < 8 := Nat.mod_lt _ (by omega)
  go_loopw [5, 6] (fun s i wr => ∃ (k : Nat) (v : Int), k ≤ 7 - d % 8 ∧ s = .int .i64 v ∧ i = .int .i64 k ∧ Hid (v = x / 2 ^ k) ∧ 0 ≤ v ∧ v ≤ 255 ∧ wr = w1) (fun _ i _ => 8 - (intOf i).toNat)
  case atStart => exact ⟨0, x, by omega, rfl, rfl, by show _ = _; simp, hb.1, hb.2, rfl⟩
  case round =>
    obtain ⟨k, v, hk, rfl, rfl, hv, hv0, hv1, hwr⟩ := hrel
    subst hwr
    by_cases hlt : k < 7 - d % 8
    · have hlt' : (k : Int) < 7 - (d : Int) % 8 := by omega
      go_wp2
      exact ⟨⟨k + 1, v / 2, by omega, by go_num, by go_num, by show _ = _; rw [hv.out, half_step], by omega, by omega, trivial⟩, by simp [intOf]; omega⟩
    · have hlt' : decide ((k : Int) < 7 - (d : Int) % 8) = false := decide_eq_false (by omega)
      obtain rfl : k = 7 - d % 8 := by omega
      go_wp2
      go_ret
      exact ⟨by rw [HK.out, ← hv.out]; rfl, b1⟩

set_option maxHeartbeats 1000000 in
theorem rbit_out (xs : List Int) (d : Int) (w : World) (hd : ¬ (0 ≤ d ∧ d < 256)) : Calls Tryd.prog 36 #[.agg (B xs), .int .i64 d] w fun e w' => e = .returned (.int .i64 (-1)) ∧ Below w.heap.size w w' := by
  by_cases h0 : d < 0
  · have t0 : decide (d < 0) = true := decide_eq_true h0
    clear hd h0
    go_enter Tryd.func36, Tryd.ntmps36
    go_wp2_with (refine wpList_bx _ rfl _ _ rfl _ rfl ?_; intro w1 g1 hg1 hl1 B1 b1)
    go_ret
    exact ⟨rfl, b1⟩
  · have t0 : decide (d < 0) = false := decide_eq_false h0
    have t1 : decide (256 ≤ d) = true := decide_eq_true (by omega)
    clear hd h0
    go_enter Tryd.func36, Tryd.ntmps36
    go_wp2_with (refine wpList_bx _ rfl _ _ rfl _ rfl ?_; intro w1 g1 hg1 hl1 B1 b1)
    go_ret
    exact ⟨rfl, b1⟩

theorem rbit_any (xs : List Int) (d : Int) (w : World) (hx : Key xs) : Calls Tryd.prog 36 #[.agg (B xs), .int .i64 d] w fun e w' => e = .returned (.int .i64 (kbi xs d)) ∧ Below w.heap.size w w' := by
  unfold kbi
  by_cases h : 0 ≤ d ∧ d < 256
  · rw [if_pos h]
    have e : d = ((d.toNat : Nat) : Int) := by omega
    have := rbit_in xs d.toNat w hx (by omega)
    rw [← e] at this
    exact this
  · rw [if_neg h]
    exact rbit_out xs d w h

end Go.Proofs.YtpihigcnoifcfaaDoor

/- The document's side of entries, as a contract; entries appended one by one. -/
namespace Go.Proofs.YtpihigcnoifcfaaDoor
set_option maxRecDepth 20000
open Go.RowKit

theorem side_step (es : List Ent) (k d : Nat) (b : Int) (hk : k < es.length) : sideOf (es.take (k + 1)) d b = sideOf (es.take k) d b ++ (if (kbi (es.getD k e00).1 d == b) = true then [es.getD k e00] else []) := by
  unfold sideOf
  rw [List.take_add_one, List.filter_append]
  congr 1
  simp [List.getD, hk, List.filter_cons]

def SidePost (es : List Ent) (d : Nat) (b : Int) (w : World) (e : Ending) (w' : World) : Prop := ∃ v V, e = .returned v ∧ PrAt w' v V (sideOf es d b) ∧ Below w.heap.size w w'

end Go.Proofs.YtpihigcnoifcfaaDoor
