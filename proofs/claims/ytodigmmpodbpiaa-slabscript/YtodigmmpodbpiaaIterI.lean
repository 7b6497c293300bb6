/- The function that All of a slab of numbers hands back, as a contract for a range over it: the slots, rising, each with its thing. -/
import Derived.Test.YtodigmmpodbpiaaAllI
import Derived.RangeFuncNested
import Derived.RangeFuncBound
import Derived.RangeFuncCalls
import Derived.RangeFuncLeaves
import Derived.Shelf.Abstract
import Derived.Shelf.RegionOpen
import Derived.OwnWalkIn
import Derived.TacticsInMore
import Derived.LoopNIn
import Derived.LoopIn
namespace Go.Proofs.Ytodigmmpodbpiaa
set_option maxRecDepth 20000
open Go.RowKit Go.Shelf

attribute [local go_sem] Oper.semAt_some

theorem eql_fn (w : World) (fn : Fn) (x y : Array Value) : (binOp .eql 68 (.func fn x y) .nilFunc).run Try.prog w = .ok (.bool false) w := by
  have h : ∀ d : Nat, (Op.equalIn (d + 1) 68 (.func fn x y) .nilFunc).run Try.prog w = .ok false w := fun d => by
    simp [Op.equalIn, run_underlying Try.underlying68]
  simp only [binOp]
  simp [Op.equal, Op.maxDepth, h 9999]

/-- The first k of what comes. -/
def prsK (ss : List Nat) (zs : List Int) (k : Nat) : List (Int × Int) := (List.range k).map fun j => (((ss[j]?.getD 0 : Nat) : Int), zs[j]?.getD 0)
def prs (ss : List Nat) (zs : List Int) : List (Int × Int) := prsK ss zs ss.length
theorem prsK_succ (ss : List Nat) (zs : List Int) (k : Nat) : prsK ss zs (k + 1) = prsK ss zs k ++ [(((ss[k]?.getD 0 : Nat) : Int), zs[k]?.getD 0)] := by simp [prsK, List.range_succ]
theorem prsK_length (ss : List Nat) (zs : List Int) (k : Nat) : (prsK ss zs k).length = k := by simp [prsK]
theorem prsK_prefix (ss : List Nat) (zs : List Int) : ∀ k j, prsK ss zs k <+: prsK ss zs (k + j)
  | k, 0 => List.prefix_rfl
  | k, j + 1 => by
    refine (prsK_prefix ss zs k j).trans ?_
    rw [← Nat.add_assoc, prsK_succ]
    exact List.prefix_append _ _
theorem prsK_pre (ss : List Nat) (zs : List Int) (k : Nat) (h : k ≤ ss.length) : prsK ss zs k <+: prs ss zs := by
  have := prsK_prefix ss zs k (ss.length - k)
  rw [show k + (ss.length - k) = ss.length by omega] at this
  exact this

set_option maxRecDepth 100000 in
set_option maxHeartbeats 2000000 in
theorem all1_in (F : Fence) (n : Nat) (h57 : F.fn 57) (hro : F.round = none) (hn : 1 ≤ n) (l b3 b4 n₀ m c3 c4 : Nat) (a3 a4 : Option Addr) (ss : List Nat) (zs : List Int) (hm : m ≤ 65536) (h4 : b4 < n₀) (J Jx : List (Int × Int) → World → Prop)
    (hY : ∀ pre x W, J pre W → pre.length < m → YieldAt F (n - 1) Try.prog l #[.int .i64 x.1, .int .i64 x.2] W fun e W' =>
      (e = .returned (.bool true) ∧ J (pre ++ [x]) W' ∧ Below n₀ W W') ∨ (e = .returned (.bool false) ∧ Jx (pre ++ [x]) W'))
    (W : World) (hB3 : W.cell? ⟨b3, 0, none⟩ = some (.slice a3 m c3)) (hB4 : W.cell? ⟨b4, 0, none⟩ = some (.slice a4 m c4))
    (hc : 0 < m → ∃ gs gt, a3 = some ⟨gs, 0, none⟩ ∧ a4 = some ⟨gt, 0, none⟩ ∧ gs < n₀ ∧ gt < n₀ ∧ ∀ j, j < m → W.cell? ⟨gs, j, none⟩ = some (.int .i64 (ss[j]?.getD 0 : Nat)) ∧ W.cell? ⟨gt, j, none⟩ = some (.int .i64 (zs[j]?.getD 0))) (h0 : J [] W) :
    CallsIn F n Try.prog 57 #[.func (.yield l) #[] #[], .pointer (some ⟨b3, 0, none⟩), .pointer (some ⟨b4, 0, none⟩)] W fun e W' => (∃ v, e = .returned v) ∧
      ((∃ ys, ys = prsK ss zs m ∧ J ys W') ∨ (∃ pre, (∃ k, k ≤ m ∧ pre = prsK ss zs k) ∧ Jx pre W')) := by
  refine callsIn_of_wp Try.func57 rfl h57 ?_ hro
  simp only [Try.ntmps57, List.size_toArray, List.length_cons, List.length_nil, Nat.reduceAdd, Nat.reduceSub, Array.replicate_succ, Array.replicate_zero, List.push_toArray, List.append_toArray, List.nil_append, List.cons_append]
  have HCC := hidden hc
  clear hc
  gi_wp2
  gi_loopw [8] (fun i wr => ∃ k : Nat, k ≤ m ∧ i = .int .i64 k ∧ J (prsK ss zs k) wr ∧ Below n₀ W wr)
    (fun i _ => m - (intOf i).toNat)
  case atStart => exact ⟨0, Nat.zero_le _, rfl, h0, Below.refl _ _⟩
  case round =>
    obtain ⟨k, hk, rfl, hJs, hnx⟩ := hrel
    by_cases hlt : k < m
    · obtain ⟨gs, gt, rfl, rfl, hgs, hgt, hcs⟩ := HCC.out (by omega)
      obtain ⟨hc1, hc2⟩ := hcs k hlt
      obtain ⟨fn, tmps, assign, body, hy, hR⟩ := hY _ ((((ss[k]?.getD 0 : Nat) : Int)), zs[k]?.getD 0) wr hJs (by rw [prsK_length]; exact hlt)
      dsimp only at hy
      have hx1 : wr.cell? ⟨gs, k, none⟩ = some (.int .i64 (ss[k]?.getD 0 : Nat)) := (hnx.cell (p := ⟨gs, k, none⟩) hgs).trans hc1
      have hx2 : wr.cell? ⟨gt, k, none⟩ = some (.int .i64 (zs[k]?.getD 0)) := (hnx.cell (p := ⟨gt, k, none⟩) hgt).trans hc2
      have hx4 : wr.cell? ⟨b4, 0, none⟩ = some (.slice (some ⟨gt, 0, none⟩) m c4) := (hnx.cell (p := ⟨b4, 0, none⟩) h4).trans hB4
      clear hc1 hc2 hcs
      gi_wp2
      refine hR.mono ?_
      rintro e W3 (⟨rfl, hJ3, hk3⟩ | ⟨rfl, hJx3⟩)
      · gi_wp2
        go_roundw
        case rel => exact ⟨k + 1, by omega, by simp, by rw [prsK_succ]; exact hJ3, hnx.trans hk3⟩
        case measure => simp [intOf]; omega
      · gi_wp2
        refine bodyPost_ret (results_none rfl _ _ _) rfl ?_
        exact ⟨⟨_, rfl⟩, .inr ⟨_, ⟨k + 1, by omega, (prsK_succ _ _ _).symm⟩, hJx3⟩⟩
    · obtain rfl : k = m := by omega
      gi_wp2
      go_end0
      exact ⟨⟨_, rfl⟩, .inl ⟨_, rfl, hJs⟩⟩

theorem iter_stops (F : Fence) (n : Nat) (h57 : F.fn 57) (hro : F.round = none) (hn : 1 ≤ n) (base b3 b4 : Nat) (ss : List Nat) (zs : List Int) (hm : ss.length ≤ 65536) (w1 W0 : World) (h : AllAt base w1 b3 b4 ss zs) (hb : Below w1.heap.size w1 W0) :
    SeqStopsK F n Try.prog 57 #[.pointer (some ⟨b3, 0, none⟩), .pointer (some ⟨b4, 0, none⟩)] (fun x : Int × Int => #[Value.int .i64 x.1, Value.int .i64 x.2]) (Below w1.heap.size) (fun ys => ys = prs ss zs)
      (fun pre => pre <+: prs ss zs) ss.length W0 := fun l J Jx W hW _ _ hY h0 => by
  have hbw : Below w1.heap.size w1 W := hb.trans (hW.mono hb.size)
  obtain ⟨vs, vt, B3, B4, _, _, o3, o4, hl⟩ := h
  obtain ⟨a3, c3, rfl⟩ : ∃ a c, vs = .slice a ss.length c := by
    rcases o3.2 with ⟨h1, h2⟩ | ⟨g', cap, cur, h1, _⟩
    · exact ⟨none, 0, by rw [h1, h2]⟩
    · exact ⟨_, _, h1⟩
  obtain ⟨a4, c4, rfl⟩ : ∃ a c, vt = .slice a ss.length c := by
    rcases o4.2 with ⟨h1, h2⟩ | ⟨g', cap, cur, h1, _⟩
    · exact ⟨none, 0, by rw [h1, ← hl, h2]⟩
    · exact ⟨_, _, by rw [h1, hl]⟩
  have hB3 : W.cell? ⟨b3, 0, none⟩ = some (.slice a3 ss.length c3) := below_cell hbw (by rw [B3.cell]; rfl)
  have hB4 : W.cell? ⟨b4, 0, none⟩ = some (.slice a4 ss.length c4) := below_cell hbw (by rw [B4.cell]; rfl)
  refine (all1_in F n h57 hro hn l b3 b4 w1.heap.size ss.length c3 c4 a3 a4 ss zs hm B4.lt J Jx hY W hB3 hB4 (fun hp => ?_) h0).mono ?_
  · rcases o3.2 with ⟨h1, h2⟩ | ⟨gs, cap, cur, h1, h2, h3⟩
    · omega
    · rcases o4.2 with ⟨k1, k2⟩ | ⟨gt, cap', cur', k1, k2, k3⟩
      · omega
      · injection h1 with e1 _ e2
        injection k1 with f1 _ f2
        subst e1
        subst e2
        subst f1
        subst f2
        refine ⟨gs, gt, rfl, rfl, (Array.getElem?_eq_some_iff.1 h3.1).1, (Array.getElem?_eq_some_iff.1 k3.1).1, fun j hj => ⟨?_, ?_⟩⟩
        · refine below_cell hbw ?_
          rw [o3.cellAt j (by omega)]
          simp [nats, hj]
        · refine below_cell hbw ?_
          have o4' : w1.ownsRow base 3 1 (.slice (some ⟨gt, 0, none⟩) ss.length c4) ss.length (zs.map (Value.int .i64)) := by rw [hl] at o4; exact o4
          rw [o4'.cellAt j (by omega)]
          simp [show j < zs.length by omega]
  · rintro e W' ⟨he, ⟨ys, rfl, hj⟩ | ⟨pre, ⟨k, hk, rfl⟩, hj⟩⟩
    · exact ⟨he, .inl ⟨_, rfl, hj⟩⟩
    · exact ⟨he, .inr ⟨_, prsK_pre ss zs k hk, hj⟩⟩

end Go.Proofs.Ytodigmmpodbpiaa
