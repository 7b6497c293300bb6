/- rootcellarkit.KeptPairs and the law's few, as contracts. -/
import Derived.Test.YtagkmfgoahbclaaBo30
import Derived.Test.YtagkmfgoahbclaaBo21
import Derived.Deep.RegionHeld2
import Derived.Deep.QuietTactic
import Derived.BigQuiet
namespace Go.Proofs.Ytagkmfgoahbclaa
set_option maxRecDepth 20000
open Go.RowKit

/-- cap of a slice of entries. -/
theorem wpList_capP {ops : Array Oper} {rest : List Oper} {o : Oper} {a : Act} {Q : Exit → Act → World → Prop} (w : World) (hgd : o.guard = none) (x : Operand)
    (hop : o.op = .call { callee := .builtin .cap, args := #[x], argTypes := #[22] }) (b : Option Addr) (n c : Nat) (hx : a.eval x = .slice b n c)
    (h : wpList Try.prog ops Q rest (a.put o.dst (.int .i64 c)) w) : wpList Try.prog ops Q (o :: rest) a w := by
  refine wpList_plain hgd fun K hK => ?_
  have hr := run_cap_slice (P := Try.prog) w 22 o.type b n c (by kernel_rfl)
  unfold Oper.wp execOp
  simp only [hop, resolve, invoke, builtin, Sem.run_bind, Sem.run_pure, Result.andThen_ok, List.map_toArray, List.map_cons, List.map_nil, hx, hr]
  exact hK _ _ h

set_option maxRecDepth 100000 in
set_option maxHeartbeats 8000000 in
theorem keptPairs_true (g : Nat) (G : Nat → Nat) (v : Value) (V : Nat → Value) (es : List Ent) (w : World) (hlp : LentP w g es.length G es) (hv : PrAt w v V es) (hn : es.length * 56 ≤ 140737488355328 - 4096) (hl : ∀ i, i < es.length → (es.getD i e00).2.length ≤ 140737488355328 - 4096) :
    Calls Try.prog 13 #[.slice (some ⟨g, 0, none⟩) es.length (es.length + 2), v] w fun e w' => e = .returned (.bool true) ∧ Below w.heap.size w w' := by
  obtain ⟨a, cap, rfl, hcap, hc, hr⟩ := hv
  have HC := hidden hc
  have HR := hidden hr
  have HLE := hidden hl
  have KLP := hidden hlp
  obtain ⟨n, hnn⟩ : ∃ n, n = es.length := ⟨_, rfl⟩
  have HN := hidden hnn
  rw [← hnn] at hn KLP ⊢
  have HBp : Hid (Try.prog.built 34 [] = some (B z32)) := built_path
  have hEqz : ∀ w, (Op.equalIn 10000 34 (.agg (B z32)) (.agg (B z32))).run Try.prog w = .ok true w := fun w => by have := path_eq z32 z32 rfl rfl w; simpa using this
  obtain ⟨m, hm⟩ : ∃ m, m = n + 2 := ⟨_, rfl⟩
  rw [← hm]
  have HM := hidden hm
  have i1 : (m : Int) ≤ (m : Int) := Int.le_refl _
  have i2 : (0 : Int) ≤ (m : Int) := by omega
  have i3 : m ≤ m := Nat.le_refl _
  have hmb : m ≤ 140737488355328 := by omega
  clear hc hr hcap hnn hl hlp hm
  go_enter Try.func13, Try.ntmps13
  go_wp2_with fail
  go_loopw [5] (fun i wr => ∃ (k : Nat), k ≤ n ∧ i = .int .i64 k ∧ Below w.heap.size w wr) (fun i _ => n - (intOf i).toNat)
  case atStart => exact ⟨0, by omega, rfl, Below.refl _ _⟩
  case round =>
    obtain ⟨k, hk, rfl, hbw⟩ := hrel
    by_cases hlt : k < n
    · have hlt' : k < es.length := by rw [← HN.out]; exact hlt
      obtain ⟨ga, off, rfl, hcc⟩ := HC.out (by omega)
      have z1 : (k : Int) < (n : Int) := by omega
      have z0 : (0 : Int) ≤ (k : Int) := by omega
      obtain ⟨hkey, hrd⟩ := HR.out k hlt'
      have HKP : Hid (∀ w', Below w.heap.size w w' → Calls Try.prog 22 #[lvP es G k, V k] w' fun e w'' => e = .returned (.bool true) ∧ Below w'.heap.size w' w'') := fun w' hb => kept_true (G k) (V k) _ w' ((KLP.out.grow hb).row k hlt) (hrd.grow hb) (by have := HLE.out k hlt'; omega)
      have HS : Hid (∀ w', Below w.heap.size w w' → (w'.rangeAt g (k * 33) (B (es.getD k e00).1).toList ∧ w'.cell? ⟨g, k * 33 + 32, none⟩ = some (lvP es G k)) ∧ (w'.rangeAt ga (off + k * 33) (B (es.getD k e00).1).toList ∧ w'.cell? ⟨ga, off + k * 33 + 32, none⟩ = some (V k))) := fun w' hw' =>
        ⟨⟨rng_key ((KLP.out.grow hw').pair k hlt), rng_val ((KLP.out.grow hw').pair k hlt) hkey.1⟩, ⟨rng_key (rng_grow (hcc k hlt') hw'), rng_val (rng_grow (hcc k hlt') hw') hkey.1⟩⟩
      have HKY := hidden hkey
      obtain ⟨va, vc, hV, _, _, _, _⟩ := hrd
      obtain ⟨K, hK⟩ : ∃ K, K = (es.getD k e00).1 := ⟨_, rfl⟩
      obtain ⟨L, hL⟩ : ∃ L, L = (es.getD k e00).2.length := ⟨_, rfl⟩
      obtain ⟨q, hq⟩ : ∃ q, q = G k := ⟨_, rfl⟩
      have hlv : lvP es G k = .slice (some ⟨q, 0, none⟩) L (L + 5) := by rw [lvP, ← hL, ← hq]
      rw [hV, hlv] at HKP HS
      rw [← hL] at HKP HS
      rw [← hK] at HS HKY
      have HLK : Hid ((Try.prog.info? 34).map (·.size) = some (B K).toList.length) := by show _ = _; rw [B_toList, List.length_map, HKY.out.1]; exact sz_path
      have hEq : ∀ w, (Op.equalIn 10000 34 (.agg (B K)) (.agg (B K))).run Try.prog w = .ok true w := fun w => by have := path_eq K K HKY.out.1 HKY.out.1 w; simpa using this
      clear hcc hkey hK hL hV hlt' hq hlv
      go_wp2_with fail
      have d0 : Below w.heap.size w wr.drew := grow_trans hbw (Below.refl _ _).drew
      refine wp_region_held_drew (S := fun w' => (w'.rangeAt g (k * 33) (B K).toList ∧ w'.cell? ⟨g, k * 33 + 32, none⟩ = some (.slice (some ⟨q, 0, none⟩) L (L + 5))) ∧ (w'.rangeAt ga (off + k * 33) (B K).toList ∧ w'.cell? ⟨ga, off + k * 33 + 32, none⟩ = some (.slice va L vc))) (by kernel_rfl) (HS.out _ d0) (fun hHeld => ?_)
      refine wpAnyH_take (i := 0) (v := .slice (some ⟨g, 0, none⟩) n m) rfl (by kernel_rfl) (by kernel_rfl) (by kernel_rfl) (fun _ _ _ h => h) (Or.inl ⟨by rfl, fun w hS => by go_simp⟩) hHeld ?_
      simp only [Act.put, List.getElem_toArray, List.getElem_cons_zero, List.setIfInBounds_toArray, List.set_cons_zero, List.set_cons_succ]
      refine wpAnyH_take (i := 1) (v := .int .i64 k) rfl (by kernel_rfl) (by kernel_rfl) (by kernel_rfl) (fun _ _ _ h => h) (Or.inl ⟨by rfl, fun w hS => by go_simp⟩) hHeld ?_
      simp only [Act.put, List.getElem_toArray, List.getElem_cons_zero, List.getElem_cons_succ, List.setIfInBounds_toArray, List.set_cons_zero, List.set_cons_succ]
      refine wpAnyH_take (i := 2) (v := .pointer (some ⟨g, k * 33, none⟩)) rfl (by kernel_rfl) (by kernel_rfl) (by kernel_rfl) (fun _ _ _ h => h) (Or.inl ⟨by rfl, fun w hS => by go_simp⟩) hHeld ?_
      simp only [Act.put, List.getElem_toArray, List.getElem_cons_zero, List.getElem_cons_succ, List.setIfInBounds_toArray, List.set_cons_zero, List.set_cons_succ]
      refine wpAnyH_take (i := 3) (v := .pointer (some ⟨g, k * 33, none⟩)) rfl (by kernel_rfl) (by kernel_rfl) (by kernel_rfl) (fun _ _ _ h => h) (Or.inl ⟨by rfl, fun w hS => by go_simp⟩) hHeld ?_
      simp only [Act.put, List.getElem_toArray, List.getElem_cons_zero, List.getElem_cons_succ, List.setIfInBounds_toArray, List.set_cons_zero, List.set_cons_succ]
      refine wpAnyH_take (i := 4) (v := .agg (B K)) rfl (by kernel_rfl) (by kernel_rfl) (by kernel_rfl) (fun _ _ _ h => h) (yieldsIf_load_mid rfl 34 (.tmp 22) rfl g (k * 33) rfl (B K).toList _ (fun w hS => hS.1.1) Try.underlying34 rfl HLK.out) hHeld ?_
      simp only [Act.put, List.getElem_toArray, List.getElem_cons_zero, List.getElem_cons_succ, List.setIfInBounds_toArray, List.set_cons_zero, List.set_cons_succ]
      refine wpAnyH_take (i := 5) (v := .slice (some ⟨ga, off, none⟩) n cap) rfl (by kernel_rfl) (by kernel_rfl) (by kernel_rfl) (fun _ _ _ h => h) (Or.inl ⟨by rfl, fun w hS => by go_simp⟩) hHeld ?_
      simp only [Act.put, List.getElem_toArray, List.getElem_cons_zero, List.getElem_cons_succ, List.setIfInBounds_toArray, List.set_cons_zero, List.set_cons_succ]
      refine wpAnyH_take (i := 6) (v := .int .i64 k) rfl (by kernel_rfl) (by kernel_rfl) (by kernel_rfl) (fun _ _ _ h => h) (Or.inl ⟨by rfl, fun w hS => by go_simp⟩) hHeld ?_
      simp only [Act.put, List.getElem_toArray, List.getElem_cons_zero, List.getElem_cons_succ, List.setIfInBounds_toArray, List.set_cons_zero, List.set_cons_succ]
      refine wpAnyH_take (i := 7) (v := .pointer (some ⟨ga, off + k * 33, none⟩)) rfl (by kernel_rfl) (by kernel_rfl) (by kernel_rfl) (fun _ _ _ h => h) (Or.inl ⟨by rfl, fun w hS => by go_simp⟩) hHeld ?_
      simp only [Act.put, List.getElem_toArray, List.getElem_cons_zero, List.getElem_cons_succ, List.setIfInBounds_toArray, List.set_cons_zero, List.set_cons_succ]
      refine wpAnyH_take (i := 8) (v := .pointer (some ⟨ga, off + k * 33, none⟩)) rfl (by kernel_rfl) (by kernel_rfl) (by kernel_rfl) (fun _ _ _ h => h) (Or.inl ⟨by rfl, fun w hS => by go_simp⟩) hHeld ?_
      simp only [Act.put, List.getElem_toArray, List.getElem_cons_zero, List.getElem_cons_succ, List.setIfInBounds_toArray, List.set_cons_zero, List.set_cons_succ]
      refine wpAnyH_take (i := 9) (v := .agg (B K)) rfl (by kernel_rfl) (by kernel_rfl) (by kernel_rfl) (fun _ _ _ h => h) (yieldsIf_load_mid rfl 34 (.tmp 27) rfl ga (off + k * 33) rfl (B K).toList _ (fun w hS => hS.2.1) Try.underlying34 rfl HLK.out) hHeld ?_
      simp only [Act.put, List.getElem_toArray, List.getElem_cons_zero, List.getElem_cons_succ, List.setIfInBounds_toArray, List.set_cons_zero, List.set_cons_succ]
      refine wpAnyH_take (i := 10) (v := .bool false) rfl (by kernel_rfl) (by kernel_rfl) (by kernel_rfl) (fun _ _ _ h => h) (Or.inl ⟨by rfl, fun w hS => by go_simp⟩) hHeld ?_
      simp only [Act.put, List.getElem_toArray, List.getElem_cons_zero, List.getElem_cons_succ, List.setIfInBounds_toArray, List.set_cons_zero, List.set_cons_succ]
      refine wpAnyH_take (i := 11) (v := .bool false) rfl (by kernel_rfl) (by kernel_rfl) (by kernel_rfl) (fun _ _ _ h => h) (Or.inl ⟨by rfl, fun w hS => by go_simp⟩) hHeld ?_
      simp only [Act.put, List.getElem_toArray, List.getElem_cons_zero, List.getElem_cons_succ, List.setIfInBounds_toArray, List.set_cons_zero, List.set_cons_succ]
      refine wpAnyH_take (i := 12) (v := .slice (some ⟨g, 0, none⟩) n m) rfl (by kernel_rfl) (by kernel_rfl) (by kernel_rfl) (fun _ _ _ h => h) (Or.inl ⟨by rfl, fun w hS => by go_simp⟩) hHeld ?_
      simp only [Act.put, List.getElem_toArray, List.getElem_cons_zero, List.getElem_cons_succ, List.setIfInBounds_toArray, List.set_cons_zero, List.set_cons_succ]
      refine wpAnyH_take (i := 13) (v := .int .i64 k) rfl (by kernel_rfl) (by kernel_rfl) (by kernel_rfl) (fun _ _ _ h => h) (Or.inl ⟨by rfl, fun w hS => by go_simp⟩) hHeld ?_
      simp only [Act.put, List.getElem_toArray, List.getElem_cons_zero, List.getElem_cons_succ, List.setIfInBounds_toArray, List.set_cons_zero, List.set_cons_succ]
      refine wpAnyH_take (i := 14) (v := .pointer (some ⟨g, k * 33, none⟩)) rfl (by kernel_rfl) (by kernel_rfl) (by kernel_rfl) (fun _ _ _ h => h) (Or.inl ⟨by rfl, fun w hS => by go_simp⟩) hHeld ?_
      simp only [Act.put, List.getElem_toArray, List.getElem_cons_zero, List.getElem_cons_succ, List.setIfInBounds_toArray, List.set_cons_zero, List.set_cons_succ]
      refine wpAnyH_take (i := 15) (v := .pointer (some ⟨g, k * 33 + 32, none⟩)) rfl (by kernel_rfl) (by kernel_rfl) (by kernel_rfl) (fun _ _ _ h => h) (Or.inl ⟨by rfl, fun w hS => by go_simp⟩) hHeld ?_
      simp only [Act.put, List.getElem_toArray, List.getElem_cons_zero, List.getElem_cons_succ, List.setIfInBounds_toArray, List.set_cons_zero, List.set_cons_succ]
      refine wpAnyH_take (i := 16) (v := .slice (some ⟨q, 0, none⟩) L (L + 5)) rfl (by kernel_rfl) (by kernel_rfl) (by kernel_rfl) (fun _ _ _ h => h) (Or.inl ⟨by rfl, fun w hS => by (have s1 := hS.1.2; go_simp)⟩) hHeld ?_
      simp only [Act.put, List.getElem_toArray, List.getElem_cons_zero, List.getElem_cons_succ, List.setIfInBounds_toArray, List.set_cons_zero, List.set_cons_succ]
      refine wpAnyH_take (i := 17) (v := .slice (some ⟨ga, off, none⟩) n cap) rfl (by kernel_rfl) (by kernel_rfl) (by kernel_rfl) (fun _ _ _ h => h) (Or.inl ⟨by rfl, fun w hS => by go_simp⟩) hHeld ?_
      simp only [Act.put, List.getElem_toArray, List.getElem_cons_zero, List.getElem_cons_succ, List.setIfInBounds_toArray, List.set_cons_zero, List.set_cons_succ]
      refine wpAnyH_take (i := 18) (v := .int .i64 k) rfl (by kernel_rfl) (by kernel_rfl) (by kernel_rfl) (fun _ _ _ h => h) (Or.inl ⟨by rfl, fun w hS => by go_simp⟩) hHeld ?_
      simp only [Act.put, List.getElem_toArray, List.getElem_cons_zero, List.getElem_cons_succ, List.setIfInBounds_toArray, List.set_cons_zero, List.set_cons_succ]
      refine wpAnyH_take (i := 19) (v := .pointer (some ⟨ga, off + k * 33, none⟩)) rfl (by kernel_rfl) (by kernel_rfl) (by kernel_rfl) (fun _ _ _ h => h) (Or.inl ⟨by rfl, fun w hS => by go_simp⟩) hHeld ?_
      simp only [Act.put, List.getElem_toArray, List.getElem_cons_zero, List.getElem_cons_succ, List.setIfInBounds_toArray, List.set_cons_zero, List.set_cons_succ]
      refine wpAnyH_take (i := 20) (v := .pointer (some ⟨ga, off + k * 33 + 32, none⟩)) rfl (by kernel_rfl) (by kernel_rfl) (by kernel_rfl) (fun _ _ _ h => h) (Or.inl ⟨by rfl, fun w hS => by go_simp⟩) hHeld ?_
      simp only [Act.put, List.getElem_toArray, List.getElem_cons_zero, List.getElem_cons_succ, List.setIfInBounds_toArray, List.set_cons_zero, List.set_cons_succ]
      refine wpAnyH_take (i := 21) (v := .slice va L vc) rfl (by kernel_rfl) (by kernel_rfl) (by kernel_rfl) (fun _ _ _ h => h) (Or.inl ⟨by rfl, fun w hS => by (have s1 := hS.2.2; go_simp)⟩) hHeld ?_
      simp only [Act.put, List.getElem_toArray, List.getElem_cons_zero, List.getElem_cons_succ, List.setIfInBounds_toArray, List.set_cons_zero, List.set_cons_succ]
      refine wpAnyH_ready (rs := [22]) (by kernel_rfl) (by simp) ?_
      refine AllReadyH.cons rfl (fun KQ hK => ?_) AllReadyH.nil
      go_simp
      refine (HKP.out _ d0).mono ?_
      rintro e x1 ⟨rfl, a1⟩
      have d1 := grow_trans d0 a1
      refine hK.out _ _ (HS.out _ d1) (fun hHeld => ?_)
      clear hK KQ
      refine wpAnyH_take (i := 23) (v := .bool false) rfl (by kernel_rfl) (by kernel_rfl) (by kernel_rfl) (fun _ _ _ h => h) (Or.inl ⟨by rfl, fun w hS => by go_simp⟩) hHeld ?_
      simp only [Act.put, List.getElem_toArray, List.getElem_cons_zero, List.getElem_cons_succ, List.setIfInBounds_toArray, List.set_cons_zero, List.set_cons_succ]
      refine wpAnyH_take (i := 24) (v := .bool false) rfl (by kernel_rfl) (by kernel_rfl) (by kernel_rfl) (fun _ _ _ h => h) (Or.inl ⟨by rfl, fun w hS => by go_simp⟩) hHeld ?_
      simp only [Act.put, List.getElem_toArray, List.getElem_cons_zero, List.getElem_cons_succ, List.setIfInBounds_toArray, List.set_cons_zero, List.set_cons_succ]
      refine wpAnyH_done (by kernel_rfl) ?_ _
      go_wp2_with fail
      exact ⟨⟨k + 1, by omega, by go_num, d1⟩, by simp [intOf]; omega⟩
    · have hkn : k = n := by omega
      subst hkn
      have z1 : ¬ (k : Int) < (k : Int) := by omega
      go_wp2_with (first
        | (at_builtin; refine wpList_capP _ rfl _ rfl _ _ _ rfl ?_))
      go_loopw [7] (fun i ws => ∃ (j : Nat), k ≤ j ∧ j ≤ m ∧ i = .int .i64 j ∧ Below w.heap.size w ws) (fun i _ => m - (intOf i).toNat)
      case atStart => exact ⟨k, by omega, by have := HM.out; omega, rfl, hbw⟩
      case round =>
        obtain ⟨j, hj0, hj, rfl, hbs⟩ := hrel
        by_cases hjk : j < m
        · have y1 : (j : Int) < (m : Int) := by omega
          have y0 : (0 : Int) ≤ (j : Int) := by omega
          have HSP : Hid (wr.rangeAt g (j * 33) (encP z32 (.slice none 0 0))) := by
            have h1 := (KLP.out.grow hbs).spare (j - k) (by have := HM.out; omega)
            rwa [← HN.out, show k + (j - k) = j by omega] at h1
          have ckv := rng_val HSP.out rfl
          go_wp2_with (first
            | ((with_reducible refine at_ldd 60 59 ?_); refine wpList_ldk _ rfl _ rfl g (j * 33) z32 rfl (rng_key HSP.out) rfl ?_)
            | ((with_reducible refine at_bdd 61 ?_); refine wpList_bld _ rfl _ _ rfl _ (by rw [List.map_toArray]; exact HBp.out) ?_))
          exact ⟨⟨j + 1, by omega, by omega, by go_num, hbs⟩, by simp [intOf]; omega⟩
        · have y1 : ¬ (j : Int) < (m : Int) := by omega
          go_wp2
          go_ret
          exact ⟨rfl, hbs⟩

end Go.Proofs.Ytagkmfgoahbclaa

/- ApartBytes, as a contract: lists of bytes of the call's own, no two of one block, are told to be apart, and behind the call memory is as it was. -/
namespace Go.Proofs.Ytagkmfgoahbclaa
set_option maxRecDepth 20000
open Go.RowKit

theorem u_lists : Try.prog.underlying 30 = some (.slice 35) := Try.underlying30
theorem u_strings : Try.prog.underlying 45 = some (.slice 9) := Try.underlying45
theorem info_string : (Try.prog.info? 9).map (fun i => (i.zero, i.size, i.bytes)) = some (some (.string ByteArray.empty), 1, 16) := by kernel_rfl

/-- Block g holds just these texts. -/
def SRow (w : World) (g : Nat) (ss : List ByteArray) : Prop := w.heap[g]? = some (.cells (ss.map Value.string).toArray 9 (0, 0))

theorem SRow.cell {w : World} {g : Nat} {ss : List ByteArray} (h : SRow w g ss) (i : Nat) (hi : i < ss.length) : w.cell? ⟨g, i, none⟩ = some (.string (ss.getD i ByteArray.empty)) := by
  rw [cell_of_row w g i _ _ _ h]
  simp [List.getD, hi]
theorem SRow.frozen {w : World} {g : Nat} {ss : List ByteArray} (h : SRow w g ss) (i : Nat) : w.frozen? ⟨g, i, none⟩ = false := frozen_of_row w g i _ _ h
theorem SRow.set {w : World} {g : Nat} {ss : List ByteArray} (h : SRow w g ss) (i : Nat) (s : ByteArray) : SRow (w.setCell ⟨g, i, none⟩ (.string s)) g (ss.set i s) := by
  unfold SRow
  rw [heap_setCell_same w g i _ _ _ h]
  congr 2
  apply Array.ext'
  simp [List.map_set]
theorem SRow.of_block {w w' : World} {g : Nat} {ss : List ByteArray} (h : SRow w g ss) (k : w'.heap[g]? = w.heap[g]?) : SRow w' g ss := by unfold SRow at *; rw [k]; exact h

/-- make([]string, n). -/
theorem wpList_mks {ops : Array Oper} {rest : List Oper} {o : Oper} {a : Act} {Q : Exit → Act → World → Prop} (w : World) (hgd : o.guard = none) (x y : Operand)
    (hop : o.op = Op.makeSlice 45 x y) (kl kc : IntKind) (L C : Int) (n : Nat) (hx : a.eval x = .int kl L) (hy : a.eval y = .int kc C) (hL : L = (n : Int)) (hC : C = (n : Int)) (hn : n ≤ 17592186044416)
    (h : ∀ w', SRow w' w.heap.size (List.replicate n ByteArray.empty) → Below w.heap.size w w' → w'.heap.size = w.heap.size + 1 → wpList Try.prog ops Q rest (a.put o.dst (.slice (some ⟨w.heap.size, 0, none⟩) n n)) w') :
    wpList Try.prog ops Q (o :: rest) a w := by
  refine wpList_plain hgd fun K hK => ?_
  obtain ⟨i, hi, hz, hs, hby⟩ := info_parts info_string
  subst hL
  subst hC
  have hr := run_make (P := Try.prog) w 45 9 i _ u_strings hi hz kl kc n n (by omega) (by omega) (by rw [hby]; omega) (by omega)
  rw [hs, Nat.mul_one] at hr
  simp only [Int.toNat_natCast] at hr
  have hm : madeCells (Value.cells (.string ByteArray.empty)) n = ((List.replicate n ByteArray.empty).map Value.string).toArray := by
    apply Array.ext'
    have h := toList_madeCells_one (.string ByteArray.empty) n
    simp only [Value.cells] at *
    rw [h]
    simp
  rw [hm] at hr
  unfold Oper.wp
  simp [execOp, hop, hx, hy, hr, Result.andThen]
  exact hK _ _ (h _ (by unfold SRow; rw [show ((List.replicate n ByteArray.empty).map Value.string).toArray = Array.replicate n (Value.string ByteArray.empty) by simp]; exact heap_alloc_new w _) (grow_alloc w _) (by simp))

/-- Of a slice of the call's own, its room with it. -/
theorem Own.full {b : Nat} {w : World} {a : Option Addr} {l c : Nat} {zs sp : List Int} (h : Own b w (.slice a l c) zs sp) : Reads w (.slice a c c) (zs ++ sp) ∧ c = zs.length + sp.length ∧ l = zs.length ∧ c ≤ maxLen := by
  obtain ⟨h1, h2, h3, h4⟩ := h
  rcases h4 with ⟨e, rfl, rfl⟩ | ⟨g, rest, hg, e, h5⟩
  · injection e with e1 e2 e3
    subst e1; subst e2; subst e3
    exact ⟨Reads.nil _, rfl, rfl, by simp [maxLen]⟩
  · injection e with e1 e2 e3
    subst e1; subst e2; subst e3
    refine ⟨⟨_, _, by rw [List.length_append], by simp, fun h => by simp at h, h1.append h2, fun _ => ⟨g, 0, rfl, fun i hi => ?_⟩⟩, rfl, rfl, h3⟩
    rw [Nat.zero_add, h5.cell i (by simp at hi ⊢; omega)]
    simp only [List.getD]
    rw [List.getElem?_append_left hi]

/-- OverBytes, and OverBytes once more: as it was. -/
theorem over_pair (base : Nat) (v : Value) (zs sp : List Int) (w : World) (h : Own base w v zs sp) :
    Calls Try.prog 23 #[v] w fun e w1 => e = .returned (.tuple #[]) ∧ w.grownBy w1 v.ownBlock ∧ w1.heap.size = w.heap.size ∧
      ∀ w2, (∀ k, v.ownBlock = some k → w2.heap[k]? = w1.heap[k]?) → Calls Try.prog 23 #[v] w2 fun e w3 => e = .returned (.tuple #[]) ∧ w2.grownBy w3 v.ownBlock ∧ w3.heap.size = w2.heap.size ∧ ∀ k, v.ownBlock = some k → w3.heap[k]? = w.heap[k]? := by
  obtain ⟨h1, h2, h3, h4⟩ := h
  rcases h4 with ⟨rfl, rfl, rfl⟩ | ⟨g, rest, hg, rfl, hr⟩
  · refine (over_nil w).mono ?_
    rintro e w' ⟨rfl, rfl⟩
    refine ⟨rfl, World.grownBy.refl _ _, rfl, fun w2 _ => ?_⟩
    refine (over_nil w2).mono ?_
    rintro e w3 ⟨rfl, rfl⟩
    exact ⟨rfl, World.grownBy.refl _ _, rfl, fun k hk => by simp [Value.ownBlock] at hk⟩
  · have := over_row g zs.length (zs ++ sp) rest w hr (by simpa using h3)
    rw [List.length_append] at this
    refine this.mono ?_
    rintro e w1 ⟨rfl, hr1, hg1, hs1⟩
    refine ⟨rfl, hg1, hs1, fun w2 hw2 => ?_⟩
    have hr2 : Row w2 g ((zs ++ sp).map x5 ++ rest) := hr1.of_block (hw2 g rfl)
    have this2 := over_row g zs.length ((zs ++ sp).map x5) rest w2 hr2 (by simpa using h3)
    rw [List.length_map, List.length_append] at this2
    refine this2.mono ?_
    rintro e w3 ⟨rfl, hr3, hg3, hs3⟩
    refine ⟨rfl, hg3, hs3, fun k hk => ?_⟩
    simp only [Value.ownBlock, Option.some.injEq] at hk
    subst hk
    rw [map_x5 (h1.append h2)] at hr3
    unfold Row at hr hr3
    rw [hr, hr3]

/-- The lists that are held against each other. -/
structure Lists (base gl off n : Nat) (V : Nat → Value) (Z S : Nat → List Int) (w : World) : Prop where
  cell : ∀ i, i < n → w.cell? ⟨gl, off + i, none⟩ = some (V i)
  own : ∀ i, i < n → Own base w (V i) (Z i) (S i)
  apart : ∀ i k, i < n → k < n → i ≠ k → ∀ g, (V i).ownBlock = some g → (V k).ownBlock ≠ some g
  far : ∀ i, i < n → (V i).ownBlock ≠ some gl

theorem Lists.of_block {base gl off n : Nat} {V : Nat → Value} {Z S : Nat → List Int} {w w' : World} (h : Lists base gl off n V Z S w) (hw : ∀ k, k < w.heap.size → w'.heap[k]? = w.heap[k]?) : Lists base gl off n V Z S w' where
  cell := fun i hi => by
    have := h.cell i hi
    have hlt := block_lt_of_cell this
    rw [World.cell?_of_block (w := w) (hw _ hlt)]
    exact this
  own := fun i hi => (h.own i hi).of_block fun k hk => hw k ((h.own i hi).lt k hk).2
  apart := h.apart
  far := h.far

/-- The text of list k, its room with it. -/
def txt (Z S : Nat → List Int) (k : Nat) : ByteArray := strOfNums (Z k ++ S k)

theorem txts_set (Z S : Nat → List Int) (n k : Nat) (h : k < n) : ((List.range k).map (txt Z S) ++ List.replicate (n - k) ByteArray.empty).set k (txt Z S k) = (List.range (k + 1)).map (txt Z S) ++ List.replicate (n - (k + 1)) ByteArray.empty := by
  have e : List.replicate (n - k) ByteArray.empty = ByteArray.empty :: List.replicate (n - (k + 1)) ByteArray.empty := by
    rw [show n - k = (n - (k + 1)) + 1 by omega]; rfl
  rw [e, List.set_append_right _ _ (by simp), List.range_succ]
  simp

set_option maxRecDepth 100000 in
set_option maxHeartbeats 4000000 in
theorem apart_walk (base gl off n cap : Nat) (V : Nat → Value) (Z S : Nat → List Int) (w : World) (hn : n ≤ 17592186044416) (h : Lists base gl off n V Z S w) (hcap : n ≤ cap) :
    Calls Try.prog 16 #[.slice (some ⟨gl, off, none⟩) n cap] w fun e w' => e = .returned (.bool true) ∧ Below w.heap.size w w' := by
  have H := hidden h
  clear h
  go_enter Try.func16, Try.ntmps16
  go_wp2_with fail
  go_loopw [3] (fun i wr => ∃ k : Nat, k ≤ n ∧ i = .int .i64 k ∧ Below w.heap.size w wr) (fun i _ => n - (intOf i).toNat)
  case atStart => exact ⟨0, by omega, rfl, Below.refl _ _⟩
  case round =>
    obtain ⟨i, hi, rfl, hb⟩ := hrel
    obtain ⟨wo, rfl⟩ : ∃ x, x = wr := ⟨_, rfl⟩
    by_cases hlt : i < n
    · have HW := hidden (H.out.of_block (w' := wo) (fun k hk => hb.block k hk))
      go_wp2_with (at_make; refine wpList_mks _ rfl _ _ rfl _ _ _ _ n rfl rfl rfl rfl hn ?_; intro w1 hr1 hb1 hs1)
      have HR1 : Hid (SRow w1 wo.heap.size ((List.range 0).map (txt Z S) ++ List.replicate (n - 0) ByteArray.empty)) := by
        show SRow _ _ _
        simpa using hr1
      clear hr1
      go_loopw [5] (fun j wk => ∃ k : Nat, k ≤ n ∧ j = .int .i64 k ∧ Hid (SRow wk wo.heap.size ((List.range k).map (txt Z S) ++ List.replicate (n - k) ByteArray.empty)) ∧ Below wo.heap.size wo wk ∧ wk.heap.size = wo.heap.size + 1) (fun j _ => n - (intOf j).toNat)
      case atStart => exact ⟨0, by omega, rfl, HR1, hb1, hs1⟩
      case round =>
        obtain ⟨k, hk, rfl, hS, hbk, hsk⟩ := hrel
        obtain ⟨wk, rfl⟩ : ∃ x, x = wr := ⟨_, rfl⟩
        by_cases hkn : k < n
        · obtain ⟨a, c, hv⟩ := (HW.out.own k hkn).slice
          have hcell := HW.out.cell k hkn
          have hown := HW.out.own k hkn
          rw [hv] at hcell hown
          have hful := hown.full
          generalize (Z k).length = l at *
          have HC : Hid (∀ w', Below wo.heap.size wo w' → w'.cell? ⟨gl, off + k, none⟩ = some (.slice a l c) ∧ (convert 35 9 (.slice a c c)).run Try.prog w' = .ok (.string (txt Z S k)) w') :=
            fun w' hw' => ⟨(hw'.cell (p := ⟨gl, off + k, none⟩) (block_lt_of_cell hcell)).trans hcell, conv_reads (hful.1.grow hw')⟩
          have hcm : c ≤ 9223372036854775807 := by have := hful.2.2.2; simp only [maxLen] at this; omega
          have hsc := hS.out.cell k (by simp; omega)
          have hsf := hS.out.frozen k
          have kk : (k : Int) < (n : Int) := by omega
          have k0 : (0 : Int) ≤ (k : Int) := by omega
          have HTS : Hid (SRow (wk.setCell ⟨wo.heap.size, k, none⟩ (.string (txt Z S k))) wo.heap.size ((List.range (k + 1)).map (txt Z S) ++ List.replicate (n - (k + 1)) ByteArray.empty)) := by
            have := hS.out.set k (txt Z S k)
            rw [txts_set Z S n k hkn] at this
            exact this
          generalize txt Z S k = tx at *
          generalize ((List.range k).map (txt Z S) ++ List.replicate (n - k) ByteArray.empty).getD k ByteArray.empty = old at *
          have hbd := hbk.drew
          have hbs : Below wo.heap.size wo ((wk.setCell ⟨wo.heap.size, k, none⟩ (.string tx)).drew) := (hbk.setCell (Nat.le_refl _) _).drew
          clear hown hful hcell
          go_wp2_with fail
          go_region_held2 (fun w' => w'.cell? ⟨gl, off + k, none⟩ = some (.slice a l c) ∧ (convert 35 9 (.slice a c c)).run Try.prog w' = .ok (.string tx) w')
            (first | exact HC.out _ hbd | exact HC.out _ hbs)
            (fail)
          go_wp2
          exact ⟨⟨k + 1, by omega, by go_num, HTS, hbs, by simpa using hsk⟩, by simp [intOf]; omega⟩
        · have hke : k = n := by omega
          subst hke
          have HLk := hidden (HW.out.of_block (w' := wk) (fun j hj => hbk.block j hj))
          obtain ⟨a, c, hv⟩ := (HW.out.own i hlt).slice
          have hci := HLk.out.cell i hlt
          rw [hv] at hci
          have hgl : gl < wo.heap.size := block_lt_of_cell (HW.out.cell i hlt)
          have HOV := hidden (over_pair base (V i) (Z i) (S i) wk (HLk.out.own i hlt))
          have hfar := HW.out.far i hlt
          have HFAR := hidden hfar
          have HV := hidden hv
          have ki : (i : Int) < (k : Int) := by omega
          have i0 : (0 : Int) ≤ (i : Int) := by omega
          rw [hv] at HOV
          generalize (Z i).length = l at *
          clear hv hfar
          go_wp2_with (go_at_call 23; refine HOV.out.mono ?_; rintro e w2 ⟨rfl, hg2, hs2, hpair⟩)
          have HPR := hidden hpair
          have HG2 := hidden hg2
          clear hpair hg2
          -- what holds behind the first writing over
          have hci2 : w2.cell? ⟨gl, off + i, none⟩ = some (.slice a l c) := by
            refine HG2.out.cell hci ?_
            intro e
            exact HFAR.out (by rw [HV.out]; exact e.symm)
          have HT : Hid (∀ j, j < k → j ≠ i → ∃ aj lj cj, w2.cell? ⟨gl, off + j, none⟩ = some (.slice aj lj cj) ∧ cj ≤ 9223372036854775807 ∧ (∀ d, (convert 35 9 (.slice aj cj cj)).run Try.prog (w2.drewN d) = .ok (.string (txt Z S j)) (w2.drewN d)) ∧ w2.cell? ⟨wo.heap.size, j, none⟩ = some (.string (txt Z S j))) := by
            intro j hj hji
            obtain ⟨aj, cj, hvj⟩ := (HW.out.own j hj).slice
            have hcj := HLk.out.cell j hj
            have hoj := HLk.out.own j hj
            have hne : (V j).ownBlock ≠ (Value.slice a l c).ownBlock ∨ (V j).ownBlock = none := by
              cases hb : (V j).ownBlock with
              | none => exact .inr rfl
              | some g =>
                refine .inl (fun e => ?_)
                exact HW.out.apart j i hj hlt hji g hb (by rw [HV.out]; exact e.symm)
            have hoj2 : Own base w2 (V j) (Z j) (S j) := by
              refine hoj.of_block (fun g hg => HG2.out.block g (hoj.lt g hg).2 ?_)
              rcases hne with h | h
              · rw [← hg]; exact h
              · rw [h] at hg; cases hg
            rw [hvj] at hcj hoj2
            have hful := hoj2.full
            refine ⟨aj, _, cj, HG2.out.cell hcj ?_, by have := hful.2.2.2; simp only [maxLen] at this; omega, fun d => ?_, ?_⟩
            · intro e
              exact HFAR.out (by rw [HV.out]; exact e.symm)
            · exact conv_reads (hful.1.grow (below_drewN (Below.refl _ _) d))
            · have hsc := hS.out.cell j (by simp; omega)
              have e1 : ((List.range k).map (txt Z S) ++ List.replicate (k - k) ByteArray.empty).getD j ByteArray.empty = txt Z S j := by
                simp [List.getD, hj]
              rw [e1] at hsc
              refine HG2.out.cell hsc ?_
              intro e
              have := (HLk.out.own i hlt).lt wo.heap.size (by rw [HV.out]; exact e.symm)
              have h3 := (HW.out.own i hlt).lt wo.heap.size (by rw [HV.out]; exact e.symm)
              omega
          go_wp2_with fail
          go_loopw [6] (fun j wl => ∃ (m d : Nat), m ≤ k ∧ j = .int .i64 m ∧ wl = w2.drewN d) (fun j _ => k - (intOf j).toNat)
          case atStart => exact ⟨0, 0, by omega, rfl, rfl⟩
          case round =>
            obtain ⟨m, d, hm, rfl, rfl⟩ := hrel
            by_cases hmk : m < k
            · by_cases hmi : m = i
              · subst hmi
                go_wp2_with fail
                go_quiet (fail)
                go_wp2
                exact ⟨⟨m + 1, _, by omega, by go_num, rfl⟩, by simp [intOf]; omega⟩
              · obtain ⟨aj, lj, cj, q1, q2, q3, q4⟩ := HT.out m hmk hmi
                have hne : ((m : Int) != (i : Int)) = true := by rw [bne_iff_ne]; omega
                have m1 : (m : Int) < (k : Int) := by omega
                have m0 : (0 : Int) ≤ (m : Int) := by omega
                generalize txt Z S m = tx at *
                go_wp2_with fail
                go_quiet (fail)
                go_wp2
                exact ⟨⟨m + 1, _, by omega, by go_num, rfl⟩, by simp [intOf]; omega⟩
            · go_wp2_with fail
              refine (HPR.out (w2.drewN d) (fun _ _ => rfl)).mono ?_
              rintro e w3 ⟨rfl, hg3, hs3, hback⟩
              have hbel : Below w.heap.size w w3 := by
                have hg2 := HG2.out
                refine hb.trans ⟨?_, ?_, ?_, ?_, fun b hb' => ?_⟩
                · exact hg3.os.trans (hg2.os.trans hbk.os)
                · exact hg3.tape.trans (hg2.tape.trans hbk.tape)
                · exact hg3.output.trans (hg2.output.trans hbk.output)
                · have h1 := hg3.size
                  have h2 := hg2.size
                  have h3 := hbk.size
                  have h4 : (w2.drewN d).heap.size = w2.heap.size := rfl
                  omega
                · have hbo : b < wo.heap.size := Nat.lt_of_lt_of_le hb' hb.size
                  by_cases he : (Value.slice a l c).ownBlock = some b
                  · rw [hback b he]
                    exact hbk.block b hbo
                  · have h1 := hg3.block b (by show b < w2.heap.size; omega) (fun e => he e.symm)
                    have h2 := hg2.block b (by omega) (fun e => he e.symm)
                    have h3 : (w2.drewN d).heap[b]? = w2.heap[b]? := rfl
                    rw [h1, h3, h2]
                    exact hbk.block b hbo
              clear HPR HG2 hback hg3
              go_wp2
              exact ⟨⟨i + 1, by omega, by go_num, hbel⟩, by simp [intOf]; omega⟩
    · go_wp2
      go_ret
      exact ⟨rfl, hb⟩

end Go.Proofs.Ytagkmfgoahbclaa
