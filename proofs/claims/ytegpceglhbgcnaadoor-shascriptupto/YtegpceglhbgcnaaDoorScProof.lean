/- ShaScript holds where the script's bulk is at most 1048576 (the second form), and its card: three states under any script tell what the document tells, call by call, and what was written may be written over. Its conditions: that bulk, and that sha's two tables begin as the program's text lays them, which the card ties. -/
import Derived.Test.YtegpceglhbgcnaaDoorShaLaid
import Derived.Test.YtegpceglhbgcnaaDoorScWalk
import Derived.Test.YtegpceglhbgcnaaDoorBulk
import Derived.Test.YtegpceglhbgcnaaDoorCards
import Derived.Test.YtegpceglhbgcnaaDoorTie
import Derived.Deep.DeepHandedRow
import Derived.SevenTiedAt
namespace Go.Proofs.YtegpceglhbgcnaaDoor
open Go.ChangeShapes Go.WideShapes Go.ChangeAt Go.RowKit

theorem cells_act : Tryd.prog.cellsOf 41 = 4 := by kernel_rfl
theorem cells_bs : Tryd.prog.cellsOf 22 = 1 := by kernel_rfl

theorem tot_bulk {H : Type} (Z : Nat → List Int) (D : Nat → DataW H) : ∀ n, (∀ i, i < n → (Z i).length ≤ Rows.uptoBulk (D i)) → tot Z n ≤ Rows.uptoBulkAll ((List.range n).map D)
  | 0, _ => by simp [tot]
  | n + 1, h => by
    have h1 := flat_bulk (n + 1) Z D h
    have h2 : ∀ k, tot Z k = (((List.range k).map Z).flatten).length := by
      intro k
      induction k with
      | zero => rfl
      | succ k ih => rw [tot, ih, List.range_succ, List.map_append, List.flatten_append, List.length_append]; simp
    rw [h2]
    exact h1

/-- A script that came in. -/
theorem arg_acts {H : Type} {enc : TypeId × Value → H} {W : World} {base : Nat} {v : Value} {d : DataW H} {p : List MemPlace} (hv : Value.okWide Tryd.prog W .any base 35 v)
    (h : DataW.Trod enc Tryd.prog W 0 (fun _ => true) true 35 v d p) (hk : Rows.uptoBulk d ≤ 1048576) :
    ∃ (az : Option Addr) (N c : Nat) (K O J : Nat → Int) (X : Nat → Value) (Z : Nat → List Int), v = .slice az N c ∧ N ≤ 140737488355328 ∧
      (0 < N → ∃ sb so, az = some ⟨sb, so, none⟩ ∧ ∀ i, i < N → W.cell? ⟨sb, so + i * 4, none⟩ = some (.int .u8 (K i)) ∧ W.cell? ⟨sb, so + i * 4 + 1, none⟩ = some (.int .u8 (O i)) ∧ W.cell? ⟨sb, so + i * 4 + 2, none⟩ = some (.int .u8 (J i)) ∧ W.cell? ⟨sb, so + i * 4 + 3, none⟩ = some (X i) ∧ 0 ≤ O i ∧ O i ≤ 255 ∧ 0 ≤ J i ∧ J i ≤ 255 ∧ Reads W (X i) (Z i)) ∧ tot Z N ≤ 1048576 := by
  obtain ⟨a, len, cap, rfl⟩ := okWide_slice Tryd.underlying35 hv
  obtain ⟨fuel, hf⟩ := h
  rcases Go.Deep.open_slice Tryd.underlying35 hf with ⟨hcs, hx⟩ | ⟨x, l, c, m, n, D, Pl, hcs, _, hl, hm, hmm, hx, hcell⟩
  · simp [Value.cells] at hcs
    obtain ⟨rfl, rfl, rfl⟩ := hcs
    exact ⟨none, 0, 0, fun _ => 0, fun _ => 0, fun _ => 0, fun _ => .slice none 0 0, fun _ => [], rfl, by omega, fun h => by omega, by simp [tot]⟩
  · simp [Value.cells] at hcs
    obtain ⟨rfl, rfl, rfl⟩ := hcs
    simp at hmm
    simp only [Prod.mk.injEq] at hx
    rw [hx.1] at hk
    have hb := bulk_slice ((List.range len).map D) ((List.range (m - len)).map fun j => D (len + j))
    rw [List.length_map, List.length_range] at hb
    have each : ∀ i, i < len → ∃ q : Int × Int × Int × Value × List Int, W.cell? (x.add (i * 4)) = some (.int .u8 q.1) ∧ W.cell? (x.add (i * 4 + 1)) = some (.int .u8 q.2.1) ∧ W.cell? (x.add (i * 4 + 2)) = some (.int .u8 q.2.2.1) ∧ W.cell? (x.add (i * 4 + 3)) = some q.2.2.2.1 ∧ 0 ≤ q.2.1 ∧ q.2.1 ≤ 255 ∧ 0 ≤ q.2.2.1 ∧ q.2.2.1 ≤ 255 ∧ Reads W q.2.2.2.1 q.2.2.2.2 ∧ q.2.2.2.2.length ≤ Rows.uptoBulk (D i) := by
      intro i hi
      obtain ⟨cs', h1, h2⟩ := hcell i (by omega)
      rw [cells_act] at h1
      obtain ⟨_, hlen, hc⟩ := World.cells?_some h1
      obtain ⟨xs, k, hk, hxy, _, hxl, hf⟩ := DataW.trod_struct Tryd.underlying41 h2
      match xs, hxl, cs', hlen with
      | [y0, y1, y2, y3], _, [v0, v1, v2, v3], _ =>
        have g0 := hf 0 _ rfl
        have g1 := hf 1 _ rfl
        have g2 := hf 2 _ rfl
        have g3 := hf 3 _ rfl
        simp [cells_byte, cells_bs] at g0 g1 g2 g3
        obtain ⟨k0, e0, _, w0⟩ := DataW.trod_int u_byte g0
        obtain ⟨k1, e1, _, w1⟩ := DataW.trod_int u_byte g1
        obtain ⟨k2, e2, _, w2⟩ := DataW.trod_int u_byte g2
        simp at e0 e1 e2
        subst e0 e1 e2
        obtain ⟨zs, hr, hz⟩ := trod_bytes (show DataW.trod enc Tryd.prog W 0 (fun _ => true) true k 22 [v3] = some (y3.1, y3.2) from g3)
        have b1 := bounds_u8 w1
        have b2 := bounds_u8 w2
        have b1a : 0 ≤ k1 := by omega
        have b1b : k1 ≤ 255 := by omega
        have b2a : 0 ≤ k2 := by omega
        have b2b : k2 ≤ 255 := by omega
        have c0 := hc 0 (by omega)
        have c1 := hc 1 (by omega)
        have c2 := hc 2 (by omega)
        have c3 := hc 3 (by omega)
        rw [Go.Deep.add_add] at c0 c1 c2 c3
        refine ⟨(k0, k1, k2, v3, zs), by simpa using c0, by simpa using c1, by simpa using c2, by simpa using c3, b1a, b1b, b2a, b2b, hr, ?_⟩
        simp only [Prod.mk.injEq] at hxy
        rw [hxy.1]
        simp only [List.map_cons, List.map_nil, Rows.uptoBulk, Rows.uptoBulkAll]
        show zs.length ≤ _
        omega
    obtain ⟨q, hq⟩ := Go.Deep.choose_lt each
    refine ⟨some x, len, cap, fun i => (q i).1, fun i => (q i).2.1, fun i => (q i).2.2.1, fun i => (q i).2.2.2.1, fun i => (q i).2.2.2.2, rfl, by omega, fun hp => ?_, ?_⟩
    · obtain ⟨b, off, spot⟩ := x
      have hspot : spot = none := by
        have := World.cell?_spot (hq 0 hp).1
        simpa [Addr.add] using this
      subst hspot
      refine ⟨b, off, rfl, fun i hi => ?_⟩
      obtain ⟨a0, a1, a2, a3, a4, a5, a6, a7, a8, _⟩ := hq i hi
      rw [Addr.add_lit] at a0 a1 a2 a3
      exact ⟨a0, by rw [Nat.add_assoc]; exact a1, by rw [Nat.add_assoc]; exact a2, by rw [Nat.add_assoc]; exact a3, a4, a5, a6, a7, a8⟩
    · have := tot_bulk (fun i => (q i).2.2.2.2) D len (fun i hi => (hq i hi).2.2.2.2.2.2.2.2.2)
      omega

namespace shaScript
theorem contract (H : Type) (enc : TypeId × Value → H) (W : World) (base : Nat) (args : Array Value) (ds gs : List (DataW H)) (before : List MemPlace)
    (hval : ∀ (j : Nat) t v, Tryd.f4.params[j]? = some t → args[j]? = some v → Value.okWide Tryd.prog W .any base t v)
    (hW : DataW.Whole enc Tryd.prog Tryd.f4.params.toList Rows.shaScriptSpec.vars false W args.toList ds gs before) (hk : Rows.uptoSmall H (ds ++ gs) = true) (hL : laidMetH Tryd.prog laid2 W) :
    Calls Tryd.prog 4 args W fun e W' => ∃ v, e = .returned v ∧ Rows.shaScriptSpec.post enc Tryd.prog Tryd.f4 false true false false W args v W' := by
  have hW' := hW
  obtain ⟨p, q, hA0, hV, rfl, hfz, hnd⟩ := hW
  have hA : DataW.TrodAll enc Tryd.prog W 0 (fun _ => true) true Tryd.f4.params.toList args.toList ds p := hA0
  rw [Tryd.params4] at hA hval
  obtain ⟨v0, vs0, d0, ds0, p0, q0, hargs, rfl, rfl, h0, r0⟩ := trodAll_cons hA
  obtain ⟨rfl, rfl, rfl⟩ := trodAll_nil r0
  obtain rfl : args = #[v0] := by cases args; simp_all
  obtain ⟨rfl, rfl⟩ := trodVars_none hV
  have hb : Rows.uptoBulkAll ([d0] ++ []) ≤ 1048576 := of_decide_eq_true hk
  simp only [List.append_nil, Rows.uptoBulkAll] at hb
  have lt0 : ∀ x ∈ p0, x.block < W.heap.size := by obtain ⟨m, hm⟩ := h0; exact DataW.trod_lt m _ _ _ hm
  obtain ⟨az, N, c, K, O, J, X, Z, rfl, hN, hA2, ht⟩ := arg_acts (hval 0 35 v0 rfl rfl) h0 (by omega)
  clear hA0
  refine (script_walk az N c K O J X Z W hN hA2 ht (of_laid hL)).mono fun e W' ⟨he, bel⟩ => ?_
  subst he
  have t0 := Below.trod laidOut (by kernel_rfl) (of_decide_eq_true (by kernel_rfl)) h0 bel lt0
  exact ⟨_, rfl, _, _, _, [], _, [], hW', trodAll_mk1 (shut_bool Tryd.underlying4 _), (trodAll_cons_mk t0 trodAll_mk0), rfl, bel.frame _, fun h => by cases h⟩

theorem laid_met (os : Os) : laidMet Tryd.prog laid2 ((World.doorLaid Tryd.prog 400 os).forCall (fun _ _ => 0) ⟨#[], #[.slice none 0 0], []⟩).memory :=
  laidMet_of_run' 8 (by kernel_rfl) (by kernel_rfl)
theorem reads (os : Os) {H : Type} (enc : TypeId × Value → H) : ∃ places, DataW.whole enc Tryd.prog ((World.doorLaid Tryd.prog 400 os).forCall (fun _ _ => 0) ⟨#[], #[.slice none 0 0], []⟩).memory Tryd.f4.params.toList Rows.shaScriptSpec.vars false #[Value.slice none 0 0].toList 8 = some ([.nil], [], places) :=
  ⟨[], by kernel_rfl⟩

set_option maxRecDepth 100000 in
theorem lifted (os : Os) (started : os.Started) (H : Type) (enc : TypeId × Value → H) (F : Stop.Interp) :
    ReturnsInHanded {} Tryd.checked os 4 .any ((Rows.OpenSpec.upto Rows.shaScriptSpec).preRow enc Tryd.prog Tryd.f4 Rows.shaScriptUptoRow.domain false Rows.shaScriptUptoRow.laid) (((Rows.OpenSpec.upto Rows.shaScriptSpec).at F).post enc Tryd.prog Tryd.f4 false true false false) := by
  obtain ⟨places, hx⟩ := reads os enc
  refine returnsInHanded_of_row (C := Tryd.checked) (s := Rows.OpenSpec.upto Rows.shaScriptSpec) ownK started (by kernel_rfl) Tryd.func4
    (witness_row_at (enc := enc) (C := Tryd.checked) false (World.doorLaid Tryd.prog 400 os) #[.slice none 0 0] rfl (by kernel_rfl) (by kernel_rfl) (by kernel_rfl)
      (OpenSpec.preRow_of_cond 8 hx (by kernel_rfl) (fun k hk => by cases hk; kernel_rfl) (by kernel_rfl) (laid_met os))) ?_
  intro W base args ds gs before hval hW _ hcond _ hL _ _
  exact contract H enc W base args ds gs before hval hW (hcond _ rfl) hL

theorem over : Rows.ShaScriptUptoSaid :=
  OpenClaim.holds_of_cond 4 Tryd.f4 rfl rfl rfl rfl rfl rfl rfl ⟨rfl, rfl, rfl, rfl, rfl⟩ rfl rfl rfl rfl rfl (by kernel_rfl) Tryd.func4 (by kernel_rfl)
    (of_decide_eq_true (by kernel_rfl)) (by unfold Func.isWrapper; first | (rw [if_pos (by decide +kernel)]; kernel_rfl) | (rw [if_neg (by decide +kernel)]; exact ⟨rfl, rfl⟩))
    (fun os started H enc _ F => by rw [OpenClaim.pre_eq_preRow]; exact lifted os started H enc F)

theorem plain (f : FuncId) (fn : Func) (hf : Tryd.pinned.checked.prog.funcNamed Rows.shaScriptRow.func = some f) (hfn : Tryd.pinned.checked.prog.funcs[f]? = some fn) :
    false = Tryd.pinned.checked.prog.looks [] ∧ ∀ (j : Nat) t, fn.params[j]? = some t → Tryd.pinned.checked.prog.wantsStandIn t = false := by
  obtain rfl : f = 4 := Option.some.inj ((show Tryd.prog.funcNamed Rows.shaScriptRow.func = some 4 by kernel_rfl).symm.trans hf) |>.symm
  obtain rfl : fn = Tryd.f4 := (Option.some.inj (Tryd.func4.symm.trans hfn)).symm
  refine ⟨by kernel_rfl, fun j t ht => ?_⟩
  rw [Tryd.params4] at ht
  obtain rfl : t = 35 := by simpa using Array.mem_of_getElem? ht
  exact (show Tryd.prog.wantsStandIn 35 = false by kernel_rfl)
end shaScript

theorem shaScript_holds : Rows.ShaScriptUptoCardSaid :=
  Claim7.holds_tied_plain_at .later [] _ _ _ _ shaScript.over (fun _ h => by cases h) (by kernel_rfl) (fun _ h => by cases h) shaScriptUpto_row_tie rfl ⟨rfl, rfl⟩ (by kernel_rfl) rfl shaScript.plain (by kernel_rfl)
end Go.Proofs.YtegpceglhbgcnaaDoor
#print axioms Go.Proofs.YtegpceglhbgcnaaDoor.shaScript_holds
