/- rootcellarkit.KeptPairs and the law's few, as contracts. -/
import Derived.Test.YtjcklpdifanjlaaDoorOr38
import Derived.Test.YtjcklpdifanjlaaDoorOr30
import Derived.Test.YtjcklpdifanjlaaDoorOr36
namespace Go.Proofs.YtjcklpdifanjlaaDoor
set_option maxRecDepth 20000
open Go.RowKit

set_option maxHeartbeats 1000000 in
theorem few_any (a : Option Addr) (n cap : Nat) (w : World) : Calls Tryd.prog 20 #[.slice a n cap] w fun e w' => e = .returned (.bool (decide (n ≤ 40 ∨ 4096 < n))) ∧ w' = w := by
  by_cases h1 : n ≤ 40
  · have t1 : (n : Int) ≤ 40 := by omega
    have hd : decide (n ≤ 40 ∨ 4096 < n) = true := decide_eq_true (.inl h1)
    rw [hd]
    clear h1 hd
    go_enter Tryd.func20, Tryd.ntmps20
    go_wp2
    go_ret
    exact ⟨rfl, rfl⟩
  · have t1 : ¬ (n : Int) ≤ 40 := by omega
    by_cases h2 : 4096 < n
    · have t2 : (4096 : Int) < (n : Int) := by omega
      have hd : decide (n ≤ 40 ∨ 4096 < n) = true := decide_eq_true (.inr h2)
      rw [hd]
      clear h1 h2 hd
      go_enter Tryd.func20, Tryd.ntmps20
      go_wp2
      go_ret
      exact ⟨rfl, rfl⟩
    · have t2 : ¬ (4096 : Int) < (n : Int) := by omega
      have hd : decide (n ≤ 40 ∨ 4096 < n) = false := decide_eq_false (by omega)
      rw [hd]
      clear h1 h2 hd
      go_enter Tryd.func20, Tryd.ntmps20
      go_wp2
      go_ret
      exact ⟨rfl, rfl⟩

/-- cap of a slice of entries. -/
theorem wpList_capP {ops : Array Oper} {rest : List Oper} {o : Oper} {a : Act} {Q : Exit → Act → World → Prop} (w : World) (hgd : o.guard = none) (x : Operand)
    (hop : o.op = .call { callee := .builtin .cap, args := #[x], argTypes := #[49] }) (b : Option Addr) (n c : Nat) (hx : a.eval x = .slice b n c)
    (h : wpList Tryd.prog ops Q rest (a.put o.dst (.int .i64 c)) w) : wpList Tryd.prog ops Q (o :: rest) a w := by
  refine wpList_plain hgd fun K hK => ?_
  have hr := run_cap_slice (P := Tryd.prog) w 49 o.type b n c (by kernel_rfl)
  unfold Oper.wp execOp
  simp only [hop, resolve, invoke, builtin, Sem.run_bind, Sem.run_pure, Result.andThen_ok, List.map_toArray, List.map_cons, List.map_nil, hx, hr]
  exact hK _ _ h

set_option maxRecDepth 100000 in
set_option maxHeartbeats 8000000 in
theorem keptPairs_true (g : Nat) (G : Nat → Nat) (v : Value) (V : Nat → Value) (es : List Ent) (w : World) (hlp : LentP w g es.length G es) (hv : PrAt w v V es) (hn : es.length * 56 ≤ 140737488355328 - 4096) (hl : ∀ i, i < es.length → (es.getD i e00).2.length ≤ 140737488355328 - 4096) :
    Calls Tryd.prog 26 #[.slice (some ⟨g, 0, none⟩) es.length (es.length + 2), v] w fun e w' => e = .returned (.bool true) ∧ Below w.heap.size w w' := by
  obtain ⟨a, cap, rfl, hcap, hc, hr⟩ := hv
  have HC := hidden hc
  have HR := hidden hr
  have HLE := hidden hl
  have KLP := hidden hlp
  obtain ⟨n, hnn⟩ : ∃ n, n = es.length := ⟨_, rfl⟩
  have HN := hidden hnn
  rw [← hnn] at hn KLP ⊢
  have HBp : Hid (Tryd.prog.built 24 [] = some (B z32)) := built_path
  have hEqz : ∀ w, (Op.equalIn 10000 24 (.agg (B z32)) (.agg (B z32))).run Tryd.prog w = .ok true w := fun w => by have := path_eq z32 z32 rfl rfl w; simpa using this
  obtain ⟨m, hm⟩ : ∃ m, m = n + 2 := ⟨_, rfl⟩
  rw [← hm]
  have HM := hidden hm
  have i1 : (m : Int) ≤ (m : Int) := Int.le_refl _
  have i2 : (0 : Int) ≤ (m : Int) := by omega
  have i3 : m ≤ m := Nat.le_refl _
  have hmb : m ≤ 140737488355328 := by omega
  clear hc hr hcap hnn hl hlp hm
  go_enter Tryd.func26, Tryd.ntmps26
  go_wp2_with fail
  go_loopw [5] (fun i wr => ∃ (k : Nat), k ≤ n ∧ i = .int .i64 k ∧ Below w.heap.size w wr) (fun i _ => n - (intOf i).toNat)
  case atStart => exact ⟨0, by omega, rfl, Below.refl _ _⟩
  case round =>
    obtain ⟨k, hk, rfl, hbw⟩ := hrel
    by_cases hlt : k < n
    · have hlt' : k < es.length := by rw [← HN.out]; exact hlt
      obtain ⟨ga, off, rfl, hcc⟩ := HC.out (by omega)
      have z1 : (k : Int) < (n : Int) := by omega
      have z0 : (0 : Int) ≤ (k : Int) := by omega
      obtain ⟨hkey, hrd⟩ := HR.out k hlt'
      have HKP : Hid (∀ w', Below w.heap.size w w' → Calls Tryd.prog 18 #[lvP es G k, V k] w' fun e w'' => e = .returned (.bool true) ∧ Below w'.heap.size w' w'') := fun w' hb => kept_true (G k) (V k) _ w' ((KLP.out.grow hb).row k hlt) (hrd.grow hb) (by have := HLE.out k hlt'; omega)
      have HS : Hid (∀ w', Below w.heap.size w w' → (w'.rangeAt g (k * 33) (B (es.getD k e00).1).toList ∧ w'.cell? ⟨g, k * 33 + 32, none⟩ = some (lvP es G k)) ∧ (w'.rangeAt ga (off + k * 33) (B (es.getD k e00).1).toList ∧ w'.cell? ⟨ga, off + k * 33 + 32, none⟩ = some (V k))) := fun w' hw' =>
        ⟨⟨rng_key ((KLP.out.grow hw').pair k hlt), rng_val ((KLP.out.grow hw').pair k hlt) hkey.1⟩, ⟨rng_key (rng_grow (hcc k hlt') hw'), rng_val (rng_grow (hcc k hlt') hw') hkey.1⟩⟩
      have HKY := hidden hkey
      obtain ⟨va, vc, hV, _, _, _, _⟩ := hrd
      obtain ⟨K, hK⟩ : ∃ K, K = (es.getD k e00).1 := ⟨_, rfl⟩
      obtain ⟨L, hL⟩ : ∃ L, L = (es.getD k e00).2.length := ⟨_, rfl⟩
      obtain ⟨q, hq⟩ : ∃ q, q = G k := ⟨_, rfl⟩
      have hlv : lvP es G k = .slice (some ⟨q, 0, none⟩) L (L + 5) := by rw [lvP, ← hL, ← hq]
      rw [hV, hlv] at HKP HS
      rw [← hL] at HKP HS
      rw [← hK] at HS HKY
      have HLK : Hid ((Tryd.prog.info? 24).map (·.size) = some (B K).toList.length) := by show _ = _; rw [B_toList, List.length_map, HKY.out.1]; exact sz_path
      have hEq : ∀ w, (Op.equalIn 10000 24 (.agg (B K)) (.agg (B K))).run Tryd.prog w = .ok true w := fun w => by have := path_eq K K HKY.out.1 HKY.out.1 w; simpa using this
      clear hcc hkey hK hL hV hlt' hq hlv
      go_wp2_with fail
      have d0 : Below w.heap.size w wr.drew := grow_trans hbw (Below.refl _ _).drew
      refine wp_region_held_drew (S := fun w' => (w'.rangeAt g (k * 33) (B K).toList ∧ w'.cell? ⟨g, k * 33 + 32, none⟩ = some (.slice (some ⟨q, 0, none⟩) L (L + 5))) ∧ (w'.rangeAt ga (off + k * 33) (B K).toList ∧ w'.cell? ⟨ga, off + k * 33 + 32, none⟩ = some (.slice va L vc))) (by kernel_rfl) (HS.out _ d0) (fun hHeld => ?_)
      refine wpAnyH_take (i := 0) (v := .slice (some ⟨g, 0, none⟩) n m) rfl (by kernel_rfl) (by kernel_rfl) (by kernel_rfl) (fun _ _ _ h => h) (Or.inl ⟨by rfl, fun w hS => by go_simp⟩) hHeld ?_
      simp only [Act.put, List.getElem_toArray, List.getElem_cons_zero, List.setIfInBounds_toArray, List.set_cons_zero, List.set_cons_succ]
      refine wpAnyH_take (i := 1) (v := .int .i64 k) rfl (by kernel_rfl) (by kernel_rfl) (by kernel_rfl) (fun _ _ _ h => h) (Or.inl ⟨by rfl, fun w hS => by go_simp⟩) hHeld ?_
      simp only [Act.put, List.getElem_toArray, List.getElem_cons_zero, List.getElem_cons_succ, List.setIfInBounds_toArray, List.set_cons_zero, List.set_cons_succ]
      refine wpAnyH_take (i := 2) (v := .pointer (some ⟨g, k * 33, none⟩)) rfl (by kernel_rfl) (by kernel_rfl) (by kernel_rfl) (fun _ _ _ h => h) (Or.inl ⟨by rfl, fun w hS => by go_simp⟩) hHeld ?_
      simp only [Act.put, List.getElem_toArray, List.getElem_cons_zero, List.getElem_cons_succ, List.setIfInBounds_toArray, List.set_cons_zero, List.set_cons_succ]
      refine wpAnyH_take (i := 3) (v := .pointer (some ⟨g, k * 33, none⟩)) rfl (by kernel_rfl) (by kernel_rfl) (by kernel_rfl) (fun _ _ _ h => h) (Or.inl ⟨by rfl, fun w hS => by go_simp⟩) hHeld ?_
      simp only [Act.put, List.getElem_toArray, List.getElem_cons_zero, List.getElem_cons_succ, List.setIfInBounds_toArray, List.set_cons_zero, List.set_cons_succ]
      refine wpAnyH_take (i := 4) (v := .agg (B K)) rfl (by kernel_rfl) (by kernel_rfl) (by kernel_rfl) (fun _ _ _ h => h) (yieldsIf_load_mid rfl 24 (.tmp 22) rfl g (k * 33) rfl (B K).toList _ (fun w hS => hS.1.1) Tryd.underlying24 rfl HLK.out) hHeld ?_
      simp only [Act.put, List.getElem_toArray, List.getElem_cons_zero, List.getElem_cons_succ, List.setIfInBounds_toArray, List.set_cons_zero, List.set_cons_succ]
      refine wpAnyH_take (i := 5) (v := .slice (some ⟨ga, off, none⟩) n cap) rfl (by kernel_rfl) (by kernel_rfl) (by kernel_rfl) (fun _ _ _ h => h) (Or.inl ⟨by rfl, fun w hS => by go_simp⟩) hHeld ?_
      simp only [Act.put, List.getElem_toArray, List.getElem_cons_zero, List.getElem_cons_succ, List.setIfInBounds_toArray, List.set_cons_zero, List.set_cons_succ]
      refine wpAnyH_take (i := 6) (v := .int .i64 k) rfl (by kernel_rfl) (by kernel_rfl) (by kernel_rfl) (fun _ _ _ h => h) (Or.inl ⟨by rfl, fun w hS => by go_simp⟩) hHeld ?_
      simp only [Act.put, List.getElem_toArray, List.getElem_cons_zero, List.getElem_cons_succ, List.setIfInBounds_toArray, List.set_cons_zero, List.set_cons_succ]
      refine wpAnyH_take (i := 7) (v := .pointer (some ⟨ga, off + k * 33, none⟩)) rfl (by kernel_rfl) (by kernel_rfl) (by kernel_rfl) (fun _ _ _ h => h) (Or.inl ⟨by rfl, fun w hS => by go_simp⟩) hHeld ?_
      simp only [Act.put, List.getElem_toArray, List.getElem_cons_zero, List.getElem_cons_succ, List.setIfInBounds_toArray, List.set_cons_zero, List.set_cons_succ]
      refine wpAnyH_take (i := 8) (v := .pointer (some ⟨ga, off + k * 33, none⟩)) rfl (by kernel_rfl) (by kernel_rfl) (by kernel_rfl) (fun _ _ _ h => h) (Or.inl ⟨by rfl, fun w hS => by go_simp⟩) hHeld ?_
      simp only [Act.put, List.getElem_toArray, List.getElem_cons_zero, List.getElem_cons_succ, List.setIfInBounds_toArray, List.set_cons_zero, List.set_cons_succ]
      refine wpAnyH_take (i := 9) (v := .agg (B K)) rfl (by kernel_rfl) (by kernel_rfl) (by kernel_rfl) (fun _ _ _ h => h) (yieldsIf_load_mid rfl 24 (.tmp 27) rfl ga (off + k * 33) rfl (B K).toList _ (fun w hS => hS.2.1) Tryd.underlying24 rfl HLK.out) hHeld ?_
      simp only [Act.put, List.getElem_toArray, List.getElem_cons_zero, List.getElem_cons_succ, List.setIfInBounds_toArray, List.set_cons_zero, List.set_cons_succ]
      refine wpAnyH_take (i := 10) (v := .bool false) rfl (by kernel_rfl) (by kernel_rfl) (by kernel_rfl) (fun _ _ _ h => h) (Or.inl ⟨by rfl, fun w hS => by go_simp⟩) hHeld ?_
      simp only [Act.put, List.getElem_toArray, List.getElem_cons_zero, List.getElem_cons_succ, List.setIfInBounds_toArray, List.set_cons_zero, List.set_cons_succ]
      refine wpAnyH_take (i := 11) (v := .bool false) rfl (by kernel_rfl) (by kernel_rfl) (by kernel_rfl) (fun _ _ _ h => h) (Or.inl ⟨by rfl, fun w hS => by go_simp⟩) hHeld ?_
      simp only [Act.put, List.getElem_toArray, List.getElem_cons_zero, List.getElem_cons_succ, List.setIfInBounds_toArray, List.set_cons_zero, List.set_cons_succ]
      refine wpAnyH_take (i := 12) (v := .slice (some ⟨g, 0, none⟩) n m) rfl (by kernel_rfl) (by kernel_rfl) (by kernel_rfl) (fun _ _ _ h => h) (Or.inl ⟨by rfl, fun w hS => by go_simp⟩) hHeld ?_
      simp only [Act.put, List.getElem_toArray, List.getElem_cons_zero, List.getElem_cons_succ, List.setIfInBounds_toArray, List.set_cons_zero, List.set_cons_succ]
      refine wpAnyH_take (i := 13) (v := .int .i64 k) rfl (by kernel_rfl) (by kernel_rfl) (by kernel_rfl) (fun _ _ _ h => h) (Or.inl ⟨by rfl, fun w hS => by go_simp⟩) hHeld ?_
      simp only [Act.put, List.getElem_toArray, List.getElem_cons_zero, List.getElem_cons_succ, List.setIfInBounds_toArray, List.set_cons_zero, List.set_cons_succ]
      refine wpAnyH_take (i := 14) (v := .pointer (some ⟨g, k * 33, none⟩)) rfl (by kernel_rfl) (by kernel_rfl) (by kernel_rfl) (fun _ _ _ h => h) (Or.inl ⟨by rfl, fun w hS => by go_simp⟩) hHeld ?_
      simp only [Act.put, List.getElem_toArray, List.getElem_cons_zero, List.getElem_cons_succ, List.setIfInBounds_toArray, List.set_cons_zero, List.set_cons_succ]
      refine wpAnyH_take (i := 15) (v := .pointer (some ⟨g, k * 33 + 32, none⟩)) rfl (by kernel_rfl) (by kernel_rfl) (by kernel_rfl) (fun _ _ _ h => h) (Or.inl ⟨by rfl, fun w hS => by go_simp⟩) hHeld ?_
      simp only [Act.put, List.getElem_toArray, List.getElem_cons_zero, List.getElem_cons_succ, List.setIfInBounds_toArray, List.set_cons_zero, List.set_cons_succ]
      refine wpAnyH_take (i := 16) (v := .slice (some ⟨q, 0, none⟩) L (L + 5)) rfl (by kernel_rfl) (by kernel_rfl) (by kernel_rfl) (fun _ _ _ h => h) (Or.inl ⟨by rfl, fun w hS => by (have s1 := hS.1.2; go_simp)⟩) hHeld ?_
      simp only [Act.put, List.getElem_toArray, List.getElem_cons_zero, List.getElem_cons_succ, List.setIfInBounds_toArray, List.set_cons_zero, List.set_cons_succ]
      refine wpAnyH_take (i := 17) (v := .slice (some ⟨ga, off, none⟩) n cap) rfl (by kernel_rfl) (by kernel_rfl) (by kernel_rfl) (fun _ _ _ h => h) (Or.inl ⟨by rfl, fun w hS => by go_simp⟩) hHeld ?_
      simp only [Act.put, List.getElem_toArray, List.getElem_cons_zero, List.getElem_cons_succ, List.setIfInBounds_toArray, List.set_cons_zero, List.set_cons_succ]
      refine wpAnyH_take (i := 18) (v := .int .i64 k) rfl (by kernel_rfl) (by kernel_rfl) (by kernel_rfl) (fun _ _ _ h => h) (Or.inl ⟨by rfl, fun w hS => by go_simp⟩) hHeld ?_
      simp only [Act.put, List.getElem_toArray, List.getElem_cons_zero, List.getElem_cons_succ, List.setIfInBounds_toArray, List.set_cons_zero, List.set_cons_succ]
      refine wpAnyH_take (i := 19) (v := .pointer (some ⟨ga, off + k * 33, none⟩)) rfl (by kernel_rfl) (by kernel_rfl) (by kernel_rfl) (fun _ _ _ h => h) (Or.inl ⟨by rfl, fun w hS => by go_simp⟩) hHeld ?_
      simp only [Act.put, List.getElem_toArray, List.getElem_cons_zero, List.getElem_cons_succ, List.setIfInBounds_toArray, List.set_cons_zero, List.set_cons_succ]
      refine wpAnyH_take (i := 20) (v := .pointer (some ⟨ga, off + k * 33 + 32, none⟩)) rfl (by kernel_rfl) (by kernel_rfl) (by kernel_rfl) (fun _ _ _ h => h) (Or.inl ⟨by rfl, fun w hS => by go_simp⟩) hHeld ?_
      simp only [Act.put, List.getElem_toArray, List.getElem_cons_zero, List.getElem_cons_succ, List.setIfInBounds_toArray, List.set_cons_zero, List.set_cons_succ]
      refine wpAnyH_take (i := 21) (v := .slice va L vc) rfl (by kernel_rfl) (by kernel_rfl) (by kernel_rfl) (fun _ _ _ h => h) (Or.inl ⟨by rfl, fun w hS => by (have s1 := hS.2.2; go_simp)⟩) hHeld ?_
      simp only [Act.put, List.getElem_toArray, List.getElem_cons_zero, List.getElem_cons_succ, List.setIfInBounds_toArray, List.set_cons_zero, List.set_cons_succ]
      refine wpAnyH_ready (rs := [22]) (by kernel_rfl) (by simp) ?_
      refine AllReadyH.cons rfl (fun KQ hK => ?_) AllReadyH.nil
      go_simp
      refine (HKP.out _ d0).mono ?_
      rintro e x1 ⟨rfl, a1⟩
      have d1 := grow_trans d0 a1
      refine hK.out _ _ (HS.out _ d1) (fun hHeld => ?_)
      clear hK KQ
      refine wpAnyH_take (i := 23) (v := .bool false) rfl (by kernel_rfl) (by kernel_rfl) (by kernel_rfl) (fun _ _ _ h => h) (Or.inl ⟨by rfl, fun w hS => by go_simp⟩) hHeld ?_
      simp only [Act.put, List.getElem_toArray, List.getElem_cons_zero, List.getElem_cons_succ, List.setIfInBounds_toArray, List.set_cons_zero, List.set_cons_succ]
      refine wpAnyH_take (i := 24) (v := .bool false) rfl (by kernel_rfl) (by kernel_rfl) (by kernel_rfl) (fun _ _ _ h => h) (Or.inl ⟨by rfl, fun w hS => by go_simp⟩) hHeld ?_
      simp only [Act.put, List.getElem_toArray, List.getElem_cons_zero, List.getElem_cons_succ, List.setIfInBounds_toArray, List.set_cons_zero, List.set_cons_succ]
      refine wpAnyH_done (by kernel_rfl) ?_ _
      go_wp2_with fail
      exact ⟨⟨k + 1, by omega, by go_num, d1⟩, by simp [intOf]; omega⟩
    · have hkn : k = n := by omega
      subst hkn
      have z1 : ¬ (k : Int) < (k : Int) := by omega
      go_wp2_with (first
        | (at_builtin; refine wpList_capP _ rfl _ rfl _ _ _ rfl ?_))
      go_loopw [7] (fun i ws => ∃ (j : Nat), k ≤ j ∧ j ≤ m ∧ i = .int .i64 j ∧ Below w.heap.size w ws) (fun i _ => m - (intOf i).toNat)
      case atStart => exact ⟨k, by omega, by have := HM.out; omega, rfl, hbw⟩
      case round =>
        obtain ⟨j, hj0, hj, rfl, hbs⟩ := hrel
        by_cases hjk : j < m
        · have y1 : (j : Int) < (m : Int) := by omega
          have y0 : (0 : Int) ≤ (j : Int) := by omega
          have HSP : Hid (wr.rangeAt g (j * 33) (encP z32 (.slice none 0 0))) := by
            have h1 := (KLP.out.grow hbs).spare (j - k) (by have := HM.out; omega)
            rwa [← HN.out, show k + (j - k) = j by omega] at h1
          have ckv := rng_val HSP.out rfl
          go_wp2_with (first
            | ((with_reducible refine at_ldd 60 59 ?_); refine wpList_ldk _ rfl _ rfl g (j * 33) z32 rfl (rng_key HSP.out) rfl ?_)
            | ((with_reducible refine at_bdd 61 ?_); refine wpList_bld _ rfl _ _ rfl _ (by rw [List.map_toArray]; exact HBp.out) ?_))
          exact ⟨⟨j + 1, by omega, by omega, by go_num, hbs⟩, by simp [intOf]; omega⟩
        · have y1 : ¬ (j : Int) < (m : Int) := by omega
          go_wp2
          go_ret
          exact ⟨rfl, hbs⟩

end Go.Proofs.YtjcklpdifanjlaaDoor

/- NodeWays' walk: the law returns true at all entries, keys and ways, and nothing that was in memory turns. -/
namespace Go.Proofs.YtjcklpdifanjlaaDoor
set_option maxRecDepth 20000
open Go.RowKit

theorem own_apart {u v : Value} {b0 s m : Nat} {w : World} {ys : List Value} (hu : ∀ k, u.ownBlock = some k → b0 ≤ k ∧ k < s) (hv : w.ownsRow s 25 32 v m ys) : v.ownBlock = none ∨ v.ownBlock ≠ u.ownBlock := by
  cases h : v.ownBlock with
  | none => exact .inl rfl
  | some k =>
    refine .inr fun e => ?_
    have h1 := (hu k e.symm).2
    have h2 := (hv.lt k h).1
    omega
theorem own_kp {w : World} {base n : Nat} {v : Value} {xs : List Value} (h : w.ownsRow base 25 32 v n xs) : Kp w (fun w' => w'.ownsRow base 25 32 v n xs) := fun _ q => ownsH_below h q

theorem wyH_dgs (es : List Ent) (key : List Int) : Dgs (wyH es key) := by
  unfold wyH
  split
  · exact sds_dgs _ _ _ _
  · exact fun x hx => by simp at hx
theorem nd_zero : Nd 0 z32 z32 z32 z32 := ⟨by omega, by omega, rfl, rfl, rfl, rfl, z32_bytes, z32_bytes, z32_bytes, z32_bytes⟩
theorem endN_nd (l : List Ent) (h : ∀ e ∈ l, Key e.1) : ∃ k a b c d, endN l = nd k a b c d ∧ Nd k a b c d ∧ okN k a b c d = true ∧ k ≠ 2 := by
  match l, h with
  | [], _ => exact ⟨0, z32, z32, z32, z32, rfl, nd_zero, by simp [okN], by omega⟩
  | [e], h =>
    have hk := h e (by simp)
    exact ⟨1, e.1, vaD e.2, z32, z32, rfl, ⟨by omega, by omega, hk.1, dig_length _, rfl, rfl, hk.2, dig_bytes _, z32_bytes, z32_bytes⟩, by simp [okN], by omega⟩
  | _ :: _ :: _, _ => exact ⟨0, z32, z32, z32, z32, rfl, nd_zero, by simp [okN], by omega⟩
theorem wyN_nd (es : List Ent) (key : List Int) (h : ∀ e ∈ es, Key e.1) : ∃ k a b c d, wyN es key = nd k a b c d ∧ Nd k a b c d := by
  unfold wyN
  split
  · obtain ⟨k, a, b, c, d, h1, h2, _⟩ := endN_nd (rst 256 0 es key) (fun e he => h e (rst_sub 256 0 es key e he))
    exact ⟨k, a, b, c, d, h1, h2⟩
  · exact ⟨0, z32, z32, z32, z32, rfl, nd_zero⟩
theorem upH_len (key : List Int) (hs : List (List Int)) (k : Int) (a b c d : List Int) : (upH key hs k a b c d).length = 32 := by
  unfold upH
  split
  · rfl
  · split
    · exact (upD_ok key hs 0 _ (dgN_ok k a b c d).1 (dgN_ok k a b c d).2).1
    · rfl

def one32 : List Int := 1 :: List.replicate 31 0
theorem built_one : Tryd.prog.built 25 [(0, .int .u8 1)] = some (B one32) := by kernel_rfl

set_option maxRecDepth 100000 in
set_option maxHeartbeats 16000000 in
theorem nodeWays_walk (v : Value) (V : Nat → Value) (es : List Ent) (key : List Int) (s : Value) (hs : List (List Int)) (k : Int) (a b c d : List Int) (w : World) (hv : PrAt w v V es) (hn : es.length * 56 ≤ 140737488355328 - 4096) (hl : ∀ i, i < es.length → (es.getD i e00).2.length ≤ 140737488355328 - 4096)
    (hkey : Key key) (hh : HsAt w s hs) (hp : Plc s) (hN : Nd k a b c d) (hL : Laid w) :
    Calls Tryd.prog 5 #[v, .agg (B key), .agg (encR s (nd k a b c d)).toArray] w fun e w' => e = .returned (.bool true) ∧ Below w.heap.size w w' := by
  have KV := hidden hv.kp
  have KW := hidden (below_kp w)
  have KL := hidden hL.kp
  have KS := hidden hh.kp
  have hkeys := hv.keys
  have hkb : ∀ i, i < es.length → Key (es.getD i e00).1 ∧ Bytes (es.getD i e00).2 := by
    obtain ⟨_, _, _, _, _, hr⟩ := hv
    intro i hi
    obtain ⟨h1, ⟨_, _, _, _, _, hb, _⟩⟩ := hr i hi
    exact ⟨h1, hb⟩
  have HKZ : Hid ((Tryd.prog.info? 24).map (·.size) = some (B key).size) := by show _ = _; rw [B_size, hkey.1]; exact sz_path
  have HLent : Hid (∀ w', PrAt w' v V es → Calls Tryd.prog 21 #[v] w' (LentPost es w')) := fun w' h => lentPairs_any v V es w' h hn hl
  have HKept : Hid (∀ w' g G, LentP w' g es.length G es → PrAt w' v V es → Calls Tryd.prog 26 #[.slice (some ⟨g, 0, none⟩) es.length (es.length + 2), v] w' fun e w'' => e = .returned (.bool true) ∧ Below w'.heap.size w' w'') := fun w' g G h1 h2 => keptPairs_true g G v V es w' h1 h2 hn hl
  have HPr : ∀ w' g G, LentP w' g es.length G es → PrAt w' (.slice (some ⟨g, 0, none⟩) es.length (es.length + 2)) (lvP es G) es := fun w' g G h => h.prAt (fun i hi => (hkb i hi).1) (fun i hi => (hkb i hi).2)
  have HWy : Hid (∀ w' g G, LentP w' g es.length G es → Laid w' → Calls Tryd.prog 27 #[.slice (some ⟨g, 0, none⟩) es.length (es.length + 2), .agg (B key)] w' (WayPost es key w')) := fun w' g G h hl' => way_any _ _ es key w' (HPr w' g G h) (by omega) hkey hl'
  have HRw : Hid (∀ w', PrAt w' v V es → Calls Tryd.prog 28 #[v, .agg (B key)] w' (WayPost es key w')) := fun w' h => rway_any v V es key w' h (by omega) hkey
  obtain ⟨k', a', b', c', d', hwn, hND⟩ := wyN_nd es key hkeys
  have HSP : Hid (∀ w' (sx sy : Option Addr × Nat) n, (wyH es key).length = n → HsAt w' (.slice sx.1 n sx.2) (wyH es key) → HsAt w' (.slice sy.1 n sy.2) (wyH es key) → Calls Tryd.prog 29 #[.agg (encR (.slice sx.1 n sx.2) (wyN es key)).toArray, .agg (encR (.slice sy.1 n sy.2) (wyN es key)).toArray] w' fun e w'' => e = .returned (.bool true) ∧ Below w'.heap.size w' w'') := fun w' sx sy n hn' h1 h2 => by
    have hle : (wyH es key).length ≤ 256 := by unfold wyH; split; exact sds_length _ _ _ _; simp
    have := sameProof_any _ _ _ _ k' k' a' b' c' d' a' b' c' d' w' h1 h2 (by omega) hND hND
    rw [← hwn] at this
    simpa using this
  have HDg := hidden (wyH_dgs es key)
  have hle0 : (wyH es key).length ≤ 256 := by unfold wyH; split; exact sds_length _ _ _ _; simp
  have HNw : Hid ((wyN es key).length = 129) := by show _ = _; rw [hwn]; exact hND.length
  have HUp : Hid (∀ w', HsAt w' s hs → Laid w' → Calls Tryd.prog 31 #[.agg (B key), .agg (encR s (nd k a b c d)).toArray] w' (UpPost key hs k a b c d w')) := fun w' h hl' => up_any key s hs k a b c d w' hkey h hN hl'
  have HRu : Hid (∀ w' s', HsAt w' s' hs → Calls Tryd.prog 32 #[.agg (B key), .agg (encR s' (nd k a b c d)).toArray] w' (UpPost key hs k a b c d w')) := fun w' s' h => rup_any key s' hs k a b c d w' hkey h hN
  have HDh := hidden hh.dgs
  obtain ⟨fp, hup⟩ := u_proof
  have HUP := hidden hup
  have HUS := hidden (hash_sz (upH key hs k a b c d) (upH_len key hs k a b c d))
  have hq : ∀ w, (Op.equalIn 10000 25 (.agg (B (upH key hs k a b c d))) (.agg (B (upH key hs k a b c d)))).run Tryd.prog w = .ok true w := fun w => by have := hash_eq _ _ (upH_len key hs k a b c d) (upH_len key hs k a b c d) w; simpa using this
  obtain ⟨va, vc, rfl, _, _, _⟩ := hv
  obtain ⟨sa, sc, rfl, _⟩ := hh
  have HFew : Hid (∀ w', Calls Tryd.prog 20 #[.slice va es.length vc] w' fun e w'' => e = .returned (.bool (decide (es.length ≤ 40 ∨ 4096 < es.length))) ∧ w'' = w') := fun w' => few_any va es.length vc w'
  obtain ⟨fw, hfw⟩ : ∃ fw, fw = decide (es.length ≤ 40 ∨ 4096 < es.length) := ⟨_, rfl⟩
  rw [← hfw] at HFew
  have HLP : Hid (∀ w0 e w1, LentPost es w0 e w1 → ∃ g G, e = .returned (.slice (some ⟨g, 0, none⟩) es.length (es.length + 2)) ∧ LentP w1 g es.length G es ∧ Below w0.heap.size w0 w1) := fun w0 e w1 ⟨g, G, q1, _, q2, q3⟩ => ⟨g, G, q1, q2, q3⟩
  obtain ⟨Hw, hHw⟩ : ∃ Hw, Hw = wyH es key := ⟨_, rfl⟩
  obtain ⟨Nw, hNw⟩ : ∃ Nw, Nw = wyN es key := ⟨_, rfl⟩
  obtain ⟨nw, hnw⟩ : ∃ nw, nw = Hw.length := ⟨_, rfl⟩
  obtain ⟨Ew, hEw⟩ : ∃ Ew, Ew = errB es := ⟨_, rfl⟩
  have HWP : Hid (∀ w0 e w1, WayPost es key w0 e w1 → ∃ sa sc, e = .returned (.tuple #[.agg (encR (.slice sa nw sc) Nw).toArray, .int .i64 Ew]) ∧ w1.ownsRow w0.heap.size 25 32 (.slice sa nw sc) nw (flatH Hw) ∧ Below w0.heap.size w0 w1) := fun w0 e w1 q => by rw [hnw, hHw, hNw, hEw]; exact q
  rw [← hHw] at HSP HDg
  rw [← hNw] at HSP HNw
  have HSz : Hid (∀ sx sy, (Tryd.prog.info? 60).map (·.size) = some (encR (.slice sx nw sy) Nw).toArray.size ∧ (encR (.slice none 0 0) (List.replicate 129 0)).toArray.size = (encR (.slice sx nw sy) Nw).toArray.size) := fun sx sy => ⟨encR_sz _ Nw HNw.out, by simp [encR, HNw.out]⟩
  have HOH : Hid (∀ w' b0 (sx : Option Addr × Nat), w'.ownsRow b0 25 32 (.slice sx.1 nw sx.2) nw (flatH Hw) → HsAt w' (.slice sx.1 nw sx.2) Hw) := fun w' b0 sx h => hsAt_own (base := b0) (by rw [← hnw]; exact h) HDg.out
  have HNN := hidden hnw.symm
  have HNB : Hid (nw ≤ 140737488355328) := by show _ ≤ _; rw [hnw, hHw]; omega
  obtain ⟨U, hU⟩ : ∃ U, U = upH key hs k a b c d := ⟨_, rfl⟩
  obtain ⟨Eu, hEu⟩ : ∃ Eu, Eu = upE hs k a b c d := ⟨_, rfl⟩
  have HUPo : Hid (∀ w0 e w1, UpPost key hs k a b c d w0 e w1 → e = .returned (.tuple #[.agg (B U), .int .i64 Eu]) ∧ Below w0.heap.size w0 w1) := fun w0 e w1 q => by rw [hU, hEu]; exact q
  rw [← hU] at HUS hq
  have HNp := hidden hN.length
  obtain ⟨n, hnn⟩ : ∃ n, n = es.length := ⟨_, rfl⟩
  obtain ⟨m, hm⟩ : ∃ m, m = es.length + 2 := ⟨_, rfl⟩
  obtain ⟨l, hll⟩ : ∃ l, l = hs.length := ⟨_, rfl⟩
  have HLL := hidden hll
  have HSQ : Hid (∀ w' (sy : Option Addr × Nat), HsAt w' (.slice sa l sc) hs → HsAt w' (.slice sy.1 l sy.2) hs → l ≤ 300 → Calls Tryd.prog 29 #[.agg (encR (.slice sa l sc) (nd k a b c d)).toArray, .agg (encR (.slice sy.1 l sy.2) (nd k a b c d)).toArray] w' fun e w'' => e = .returned (.bool true) ∧ Below w'.heap.size w' w'') := fun w' sy h1 h2 h3 => by
    have := sameProof_any _ _ _ _ k k a b c d a b c d w' h1 h2 (by omega) hN hN
    simpa using this
  have HCP : Hid (∀ w', HsAt w' (.slice sa l sc) hs → l ≤ 300 → Calls Tryd.prog 30 #[.agg (encR (.slice sa l sc) (nd k a b c d)).toArray] w' fun e w'' => ∃ s1 s2, e = .returned (.agg (encR (.slice s1 l s2) (nd k a b c d)).toArray) ∧ w''.ownsRow w'.heap.size 25 32 (.slice s1 l s2) l (flatH hs) ∧ Below w'.heap.size w' w'') := fun w' h1 h2 => by
    rw [hll] at h1 h2 ⊢
    exact copyProof_any _ hs _ w' hp h1 (by omega) hN.length
  have HOQ : Hid (∀ w' b0 (sx : Option Addr × Nat), w'.ownsRow b0 25 32 (.slice sx.1 l sx.2) l (flatH hs) → HsAt w' (.slice sx.1 l sx.2) hs) := fun w' b0 sx h => hsAt_own (base := b0) (by rw [← hll]; exact h) HDh.out
  rw [← hm, ← hnn] at HKept HWy HLP
  rw [← hnn] at HLent HRw HFew KV ⊢
  rw [← hll] at HUp KS ⊢
  obtain ⟨Np, hNp⟩ : ∃ Np, Np = nd k a b c d := ⟨_, rfl⟩
  rw [← hNp] at HUp HRu HSQ HCP HNp ⊢
  have HSz5 : Hid (∀ sx sy, (Tryd.prog.info? 60).map (·.size) = some (encR (.slice sx l sy) Np).toArray.size ∧ (encR (.slice none 0 0) (List.replicate 129 0)).toArray.size = (encR (.slice sx l sy) Np).toArray.size) := fun sx sy => ⟨encR_sz _ Np HNp.out, by simp [encR, HNp.out]⟩
  clear hle0 hn hl hL hkb hfw hnn hm HPr hkeys hwn hND hN hp hup hU hEu hHw hNw hnw hEw hll hNp hkey
  cases fw with
  | false =>
    go_enter Tryd.func5, Tryd.ntmps5
    go_wp2_with (first
      | ((with_reducible refine at_bxd 4 ?_); refine wpList_bx _ rfl _ _ rfl _ rfl ?_; intro w1 g4 hg4 hl4 B4 b1)
      | ((with_reducible refine at_bxd 5 ?_); refine wpList_bx _ rfl _ _ rfl _ rfl ?_; intro w2 g5 hg5 hl5 B5 b2; have s5 := proof_side B5)
      | (go_at_call 20; refine (HFew.out _).mono ?_; rintro e w3 ⟨rfl, rfl⟩))
    go_ret
    exact ⟨rfl, (KW.out.step (grow_trans b1 b2)).now⟩
  | true =>
    by_cases h300 : 300 < l
    · have z3 : (300 : Int) < (l : Int) := by omega
      go_enter Tryd.func5, Tryd.ntmps5
      go_wp2_with (first
        | ((with_reducible refine at_bxd 4 ?_); refine wpList_bx _ rfl _ _ rfl _ rfl ?_; intro w1 g4 hg4 hl4 B4 b1)
        | ((with_reducible refine at_bxd 5 ?_); refine wpList_bx _ rfl _ _ rfl _ rfl ?_; intro w2 g5 hg5 hl5 B5 b2; have s5 := proof_side B5)
        | (go_at_call 20; refine (HFew.out _).mono ?_; rintro e w3 ⟨rfl, rfl⟩))
      go_ret
      exact ⟨rfl, (KW.out.step (grow_trans b1 b2)).now⟩
    · have z3 : ¬ (300 : Int) < (l : Int) := by omega
      have H300 : Hid (l ≤ 300) := by show _ ≤ _; omega
      clear h300
      go_enter Tryd.func5, Tryd.ntmps5
      go_wp2_with (first
        | ((with_reducible refine at_bxd 4 ?_); refine wpList_bx _ rfl _ _ rfl _ rfl ?_; intro x1 g4 hg1 hl1 bq1 q1; replace KV := hidden (KV.out.step q1); replace KW := hidden (KW.out.step q1); replace KL := hidden (KL.out.step q1); replace KS := hidden (KS.out.step q1); have K4 := hidden bq1.kp; clear hg1 hl1 bq1 q1)
        | ((with_reducible refine at_bxd 5 ?_); refine wpList_bx _ rfl _ _ rfl _ rfl ?_; intro x2 g5 hg2 hl2 bq2 q2; replace KV := hidden (KV.out.step q2); replace KW := hidden (KW.out.step q2); replace KL := hidden (KL.out.step q2); replace KS := hidden (KS.out.step q2); replace K4 := hidden (K4.out.step q2); have K5 := hidden bq2.kp; clear hg2 hl2 bq2 q2; have s5 := proof_side K5.out.now)
        | ((with_reducible refine at_ldd 33 4 ?_); refine wpList_ld _ rfl _ _ rfl g4 _ rfl K4.out.now _ _ Tryd.underlying24 HKZ.out ?_)
        | ((with_reducible refine at_ald 8 ?_); refine wpList_al _ rfl _ rfl _ zero_proof ?_; intro x5 g8 hg8 hl5 bq5 q5; clear hl5)
        | ((with_reducible refine at_st 8 ?_); refine wpList_sto _ rfl _ _ _ rfl g8 _ ((encR (.slice sa1 nw sc1) Nw).toArray) rfl rfl bq5 (HSz.out sa1 sc1).1 (HSz.out sa1 sc1).2 (encR_one _ _ _ _) ?_; intro x6 by6 r6; have q6 := below_row q5 r6 hg8; replace KV := hidden (KV.out.step q6); replace KW := hidden (KW.out.step q6); replace KL := hidden (KL.out.step q6); replace KS := hidden (KS.out.step q6); replace K4 := hidden (K4.out.step q6); replace K5 := hidden (K5.out.step q6); replace KP := hidden (KP.out.step q6); replace KO1 := hidden (KO1.out.step q6); have K8 := hidden by6.kp; clear q6 q5 r6 by6 bq5 hg8)
        | ((with_reducible refine at_ldd 39 4 ?_); refine wpList_ld _ rfl _ _ rfl g4 _ rfl K4.out.now _ _ Tryd.underlying24 HKZ.out ?_)
        | ((with_reducible refine at_ald 10 ?_); refine wpList_al _ rfl _ rfl _ zero_proof ?_; intro x8 g10 hg10 hl8 bq8 q8; clear hl8)
        | ((with_reducible refine at_st 10 ?_); refine wpList_sto _ rfl _ _ _ rfl g10 _ ((encR (.slice sa2 nw sc2) Nw).toArray) rfl rfl bq8 (HSz.out sa2 sc2).1 (HSz.out sa2 sc2).2 (encR_one _ _ _ _) ?_; intro x9 by9 r9; have q9 := below_row q8 r9 hg10; replace KV := hidden (KV.out.step q9); replace KW := hidden (KW.out.step q9); replace KL := hidden (KL.out.step q9); replace KS := hidden (KS.out.step q9); replace K4 := hidden (K4.out.step q9); replace K5 := hidden (K5.out.step q9); replace KP := hidden (KP.out.step q9); replace KO1 := hidden (KO1.out.step q9); replace K8 := hidden (K8.out.step q9); replace KO2 := hidden (KO2.out.step q9); have K10 := hidden by9.kp; clear q9 q8 r9 by9 bq8 hg10)
        | ((with_reducible refine at_ldd 45 4 ?_); refine wpList_ld _ rfl _ _ rfl g4 _ rfl K4.out.now _ _ Tryd.underlying24 HKZ.out ?_)
        | ((with_reducible refine at_ald 12 ?_); refine wpList_al _ rfl _ rfl _ zero_proof ?_; intro x11 g12 hg12 hl11 bq11 q11; clear hl11)
        | ((with_reducible refine at_st 12 ?_); refine wpList_sto _ rfl _ _ _ rfl g12 _ ((encR (.slice sa3 nw sc3) Nw).toArray) rfl rfl bq11 (HSz.out sa3 sc3).1 (HSz.out sa3 sc3).2 (encR_one _ _ _ _) ?_; intro x12 by12 r12; have q12 := below_row q11 r12 hg12; replace KV := hidden (KV.out.step q12); replace KW := hidden (KW.out.step q12); replace KL := hidden (KL.out.step q12); replace KS := hidden (KS.out.step q12); replace K4 := hidden (K4.out.step q12); replace K5 := hidden (K5.out.step q12); replace KP := hidden (KP.out.step q12); replace KO1 := hidden (KO1.out.step q12); replace K8 := hidden (K8.out.step q12); replace KO2 := hidden (KO2.out.step q12); replace K10 := hidden (K10.out.step q12); replace KO3 := hidden (KO3.out.step q12); have K12 := hidden by12.kp; clear q12 q11 r12 by12 bq11 hg12)
        | ((with_reducible refine at_ldd 49 8 ?_); refine wpList_lds _ rfl _ _ rfl g8 _ _ rfl K8.out.now HUP.out (HSz.out _ _).1 ?_)
        | ((with_reducible refine at_ldd 50 12 ?_); refine wpList_lds _ rfl _ _ rfl g12 _ _ rfl K12.out.now HUP.out (HSz.out _ _).1 ?_)
        | ((with_reducible refine at_ldd 54 10 ?_); refine wpList_ldsg _ rfl _ _ rfl g10 _ _ rfl K10.out.now HUP.out (HSz.out _ _).1 ?_)
        | ((with_reducible refine at_ldd 55 12 ?_); refine wpList_ldsg _ rfl _ _ rfl g12 _ _ rfl K12.out.now HUP.out (HSz.out _ _).1 ?_)
        | ((with_reducible refine at_ldd 75 5 ?_); refine wpList_lds _ rfl _ _ rfl g5 _ _ rfl K5.out.now HUP.out (HSz5.out _ _).1 ?_)
        | ((with_reducible refine at_ald 14 ?_); refine wpList_al _ rfl _ rfl _ zero_proof ?_; intro x17 g14 hg14 hl17 bq17 q17; clear hl17)
        | ((with_reducible refine at_st 14 ?_); refine wpList_sto _ rfl _ _ _ rfl g14 _ ((encR (.slice sa4 l sc4) Np).toArray) rfl rfl bq17 (HSz5.out sa4 sc4).1 (HSz5.out sa4 sc4).2 (encR_one _ _ _ _) ?_; intro x18 by18 r18; have q18 := below_row q17 r18 hg14; replace KV := hidden (KV.out.step q18); replace KW := hidden (KW.out.step q18); replace KL := hidden (KL.out.step q18); replace KS := hidden (KS.out.step q18); replace K4 := hidden (K4.out.step q18); replace K5 := hidden (K5.out.step q18); replace KP := hidden (KP.out.step q18); replace KO1 := hidden (KO1.out.step q18); replace K8 := hidden (K8.out.step q18); replace KO2 := hidden (KO2.out.step q18); replace K10 := hidden (K10.out.step q18); replace KO3 := hidden (KO3.out.step q18); replace K12 := hidden (K12.out.step q18); replace KO4 := hidden (KO4.out.step q18); have K14 := hidden by18.kp; clear q18 q17 r18 by18 bq17 hg14)
        | ((with_reducible refine at_ldd 78 4 ?_); refine wpList_ld _ rfl _ _ rfl g4 _ rfl K4.out.now _ _ Tryd.underlying24 HKZ.out ?_)
        | ((with_reducible refine at_ldd 79 5 ?_); refine wpList_lds _ rfl _ _ rfl g5 _ _ rfl K5.out.now HUP.out (HSz5.out _ _).1 ?_)
        | ((with_reducible refine at_ald 15 ?_); refine wpList_al _ rfl _ rfl _ zero_hash ?_; intro x20 g15 hg15 hl20 bq20 q20; clear hl20)
        | ((with_reducible refine at_st 15 ?_); refine wpList_sto _ rfl _ _ _ rfl g15 _ (B U) rfl rfl bq20 HUS.out.1 HUS.out.2 (B_one _) ?_; intro x21 by21 r21; have q21 := below_row q20 r21 hg15; replace KV := hidden (KV.out.step q21); replace KW := hidden (KW.out.step q21); replace KL := hidden (KL.out.step q21); replace KS := hidden (KS.out.step q21); replace K4 := hidden (K4.out.step q21); replace K5 := hidden (K5.out.step q21); replace KP := hidden (KP.out.step q21); replace KO1 := hidden (KO1.out.step q21); replace K8 := hidden (K8.out.step q21); replace KO2 := hidden (KO2.out.step q21); replace K10 := hidden (K10.out.step q21); replace KO3 := hidden (KO3.out.step q21); replace K12 := hidden (K12.out.step q21); replace KO4 := hidden (KO4.out.step q21); replace K14 := hidden (K14.out.step q21); have K15 := hidden by21.kp; clear q21 q20 r21 by21 bq20 hg15)
        | ((with_reducible refine at_ldd 84 4 ?_); refine wpList_ld _ rfl _ _ rfl g4 _ rfl K4.out.now _ _ Tryd.underlying24 HKZ.out ?_)
        | ((with_reducible refine at_ldd 85 14 ?_); refine wpList_lds _ rfl _ _ rfl g14 _ _ rfl K14.out.now HUP.out (HSz5.out _ _).1 ?_)
        | ((with_reducible refine at_ald 17 ?_); refine wpList_al _ rfl _ rfl _ zero_hash ?_; intro x23 g17 hg17 hl23 bq23 q23; clear hl23)
        | ((with_reducible refine at_st 17 ?_); refine wpList_sto _ rfl _ _ _ rfl g17 _ (B U) rfl rfl bq23 HUS.out.1 HUS.out.2 (B_one _) ?_; intro x24 by24 r24; have q24 := below_row q23 r24 hg17; replace KV := hidden (KV.out.step q24); replace KW := hidden (KW.out.step q24); replace KL := hidden (KL.out.step q24); replace KS := hidden (KS.out.step q24); replace K4 := hidden (K4.out.step q24); replace K5 := hidden (K5.out.step q24); replace KP := hidden (KP.out.step q24); replace KO1 := hidden (KO1.out.step q24); replace K8 := hidden (K8.out.step q24); replace KO2 := hidden (KO2.out.step q24); replace K10 := hidden (K10.out.step q24); replace KO3 := hidden (KO3.out.step q24); replace K12 := hidden (K12.out.step q24); replace KO4 := hidden (KO4.out.step q24); replace K14 := hidden (K14.out.step q24); replace K15 := hidden (K15.out.step q24); have K17 := hidden by24.kp; clear q24 q23 r24 by24 bq23 hg17)
        | ((with_reducible refine at_ldd 89 15 ?_); refine wpList_ld _ rfl _ _ rfl g15 _ rfl K15.out.now _ _ Tryd.underlying25 HUS.out.1 ?_)
        | ((with_reducible refine at_ldd 90 17 ?_); refine wpList_ld _ rfl _ _ rfl g17 _ rfl K17.out.now _ _ Tryd.underlying25 HUS.out.1 ?_)
        | ((with_reducible refine at_ldd 98 5 ?_); refine wpList_ldsg _ rfl _ _ rfl g5 _ _ rfl K5.out.now HUP.out (HSz5.out _ _).1 ?_)
        | ((with_reducible refine at_ldd 99 14 ?_); refine wpList_ldsg _ rfl _ _ rfl g14 _ _ rfl K14.out.now HUP.out (HSz5.out _ _).1 ?_)
        | (go_at_call 29; have mk := mk_frootcellarkitSameProof_2; clear mk; refine (HSQ.out _ (_, _) KS.out.now (HOQ.out _ _ (_, _) KO4.out.now) H300.out).mono ?_; rintro e x25 ⟨rfl, q25⟩; replace KV := hidden (KV.out.step q25); replace KW := hidden (KW.out.step q25); replace KL := hidden (KL.out.step q25); replace KS := hidden (KS.out.step q25); replace K4 := hidden (K4.out.step q25); replace K5 := hidden (K5.out.step q25); replace KP := hidden (KP.out.step q25); replace KO1 := hidden (KO1.out.step q25); replace K8 := hidden (K8.out.step q25); replace KO2 := hidden (KO2.out.step q25); replace K10 := hidden (K10.out.step q25); replace KO3 := hidden (KO3.out.step q25); replace K12 := hidden (K12.out.step q25); replace KO4 := hidden (KO4.out.step q25); replace K14 := hidden (K14.out.step q25); replace K15 := hidden (K15.out.step q25); replace K17 := hidden (K17.out.step q25); have mk_frootcellarkitSameProof_3 : Hid True := trivial; clear q25)
        | (go_at_call 32; refine (HRu.out _ _ (HOQ.out _ _ (_, _) KO4.out.now)).mono ?_; intro e x22 hpost; obtain ⟨rfl, q22⟩ := HUPo.out _ _ _ hpost; clear hpost; replace KV := hidden (KV.out.step q22); replace KW := hidden (KW.out.step q22); replace KL := hidden (KL.out.step q22); replace KS := hidden (KS.out.step q22); replace K4 := hidden (K4.out.step q22); replace K5 := hidden (K5.out.step q22); replace KP := hidden (KP.out.step q22); replace KO1 := hidden (KO1.out.step q22); replace K8 := hidden (K8.out.step q22); replace KO2 := hidden (KO2.out.step q22); replace K10 := hidden (K10.out.step q22); replace KO3 := hidden (KO3.out.step q22); replace K12 := hidden (K12.out.step q22); replace KO4 := hidden (KO4.out.step q22); replace K14 := hidden (K14.out.step q22); replace K15 := hidden (K15.out.step q22); clear q22)
        | (go_at_call 31; refine (HUp.out _ KS.out.now KL.out.now).mono ?_; intro e x19 hpost; obtain ⟨rfl, q19⟩ := HUPo.out _ _ _ hpost; clear hpost; replace KV := hidden (KV.out.step q19); replace KW := hidden (KW.out.step q19); replace KL := hidden (KL.out.step q19); replace KS := hidden (KS.out.step q19); replace K4 := hidden (K4.out.step q19); replace K5 := hidden (K5.out.step q19); replace KP := hidden (KP.out.step q19); replace KO1 := hidden (KO1.out.step q19); replace K8 := hidden (K8.out.step q19); replace KO2 := hidden (KO2.out.step q19); replace K10 := hidden (K10.out.step q19); replace KO3 := hidden (KO3.out.step q19); replace K12 := hidden (K12.out.step q19); replace KO4 := hidden (KO4.out.step q19); replace K14 := hidden (K14.out.step q19); clear q19)
        | (go_at_call 30; refine (HCP.out _ KS.out.now H300.out).mono ?_; rintro e x16 ⟨sa4, sc4, rfl, o4, q16⟩; replace KV := hidden (KV.out.step q16); replace KW := hidden (KW.out.step q16); replace KL := hidden (KL.out.step q16); replace KS := hidden (KS.out.step q16); replace K4 := hidden (K4.out.step q16); replace K5 := hidden (K5.out.step q16); replace KP := hidden (KP.out.step q16); replace KO1 := hidden (KO1.out.step q16); replace K8 := hidden (K8.out.step q16); replace KO2 := hidden (KO2.out.step q16); replace K10 := hidden (K10.out.step q16); replace KO3 := hidden (KO3.out.step q16); replace K12 := hidden (K12.out.step q16); have KO4 := hidden (own_kp o4); clear o4; have mk_frootcellarkitCopyProof_1 : Hid True := trivial; clear q16)
        | (go_at_call 26; refine (HKept.out _ _ _ KP.out.now KV.out.now).mono ?_; rintro e x15 ⟨rfl, q15⟩; replace KV := hidden (KV.out.step q15); replace KW := hidden (KW.out.step q15); replace KL := hidden (KL.out.step q15); replace KS := hidden (KS.out.step q15); replace K4 := hidden (K4.out.step q15); replace K5 := hidden (K5.out.step q15); replace KP := hidden (KP.out.step q15); replace KO1 := hidden (KO1.out.step q15); replace K8 := hidden (K8.out.step q15); replace KO2 := hidden (KO2.out.step q15); replace K10 := hidden (K10.out.step q15); replace KO3 := hidden (KO3.out.step q15); replace K12 := hidden (K12.out.step q15); have mk_frootcellarkitKeptPairs_1 : Hid True := trivial; clear q15)
        | (go_at_call 29; have mk := mk_frootcellarkitSameProof_1; clear mk; refine (HSP.out _ (_, _) (_, _) _ HNN.out (HOH.out _ _ (_, _) KO2.out.now) (HOH.out _ _ (_, _) KO3.out.now)).mono ?_; rintro e x14 ⟨rfl, q14⟩; replace KV := hidden (KV.out.step q14); replace KW := hidden (KW.out.step q14); replace KL := hidden (KL.out.step q14); replace KS := hidden (KS.out.step q14); replace K4 := hidden (K4.out.step q14); replace K5 := hidden (K5.out.step q14); replace KP := hidden (KP.out.step q14); replace KO1 := hidden (KO1.out.step q14); replace K8 := hidden (K8.out.step q14); replace KO2 := hidden (KO2.out.step q14); replace K10 := hidden (K10.out.step q14); replace KO3 := hidden (KO3.out.step q14); replace K12 := hidden (K12.out.step q14); have mk_frootcellarkitSameProof_2 : Hid True := trivial; clear q14)
        | (go_at_call 29; refine (HSP.out _ (_, _) (_, _) _ HNN.out (HOH.out _ _ (_, _) KO1.out.now) (HOH.out _ _ (_, _) KO3.out.now)).mono ?_; rintro e x13 ⟨rfl, q13⟩; replace KV := hidden (KV.out.step q13); replace KW := hidden (KW.out.step q13); replace KL := hidden (KL.out.step q13); replace KS := hidden (KS.out.step q13); replace K4 := hidden (K4.out.step q13); replace K5 := hidden (K5.out.step q13); replace KP := hidden (KP.out.step q13); replace KO1 := hidden (KO1.out.step q13); replace K8 := hidden (K8.out.step q13); replace KO2 := hidden (KO2.out.step q13); replace K10 := hidden (K10.out.step q13); replace KO3 := hidden (KO3.out.step q13); replace K12 := hidden (K12.out.step q13); have mk_frootcellarkitSameProof_1 : Hid True := trivial; clear q13)
        | (go_at_call 28; have ka := KO1.out.now.lt; refine (HRw.out _ KV.out.now).mono ?_; intro e x10 hpost; obtain ⟨sa3, sc3, rfl, o3, q10⟩ := HWP.out _ _ _ hpost; clear hpost; replace KV := hidden (KV.out.step q10); replace KW := hidden (KW.out.step q10); replace KL := hidden (KL.out.step q10); replace KS := hidden (KS.out.step q10); replace K4 := hidden (K4.out.step q10); replace K5 := hidden (K5.out.step q10); replace KP := hidden (KP.out.step q10); replace KO1 := hidden (KO1.out.step q10); replace K8 := hidden (K8.out.step q10); replace KO2 := hidden (KO2.out.step q10); replace K10 := hidden (K10.out.step q10); have KO3 := hidden (own_kp o3); have AP3 := hidden (own_apart ka o3); clear ka; clear o3; have mk_frootcellarref05Way_1 : Hid True := trivial; clear q10)
        | (go_at_call 27; have mk := mk_fnodeWay_1; clear mk; have ka := KO1.out.now.lt; refine (HWy.out _ _ _ KP.out.now KL.out.now).mono ?_; intro e x7 hpost; obtain ⟨sa2, sc2, rfl, o2, q7⟩ := HWP.out _ _ _ hpost; clear hpost; replace KV := hidden (KV.out.step q7); replace KW := hidden (KW.out.step q7); replace KL := hidden (KL.out.step q7); replace KS := hidden (KS.out.step q7); replace K4 := hidden (K4.out.step q7); replace K5 := hidden (K5.out.step q7); replace KP := hidden (KP.out.step q7); replace KO1 := hidden (KO1.out.step q7); replace K8 := hidden (K8.out.step q7); have KO2 := hidden (own_kp o2); have AP2 := hidden (own_apart ka o2); clear ka; clear o2; have mk_fnodeWay_2 : Hid True := trivial; clear q7)
        | (go_at_call 27; have wsz := KW.out.now.size; refine (HWy.out _ _ _ KP.out.now KL.out.now).mono ?_; intro e x4 hpost; obtain ⟨sa1, sc1, rfl, o1, q4⟩ := HWP.out _ _ _ hpost; clear hpost; replace KV := hidden (KV.out.step q4); replace KW := hidden (KW.out.step q4); replace KL := hidden (KL.out.step q4); replace KS := hidden (KS.out.step q4); replace K4 := hidden (K4.out.step q4); replace K5 := hidden (K5.out.step q4); replace KP := hidden (KP.out.step q4); have HB1 : Hid (w.heap.size ≤ _) := wsz; clear wsz; have KO1 := hidden (own_kp o1); clear o1; have mk_fnodeWay_1 : Hid True := trivial; clear q4)
        | (go_at_call 21; refine (HLent.out _ KV.out.now).mono ?_; intro e x2 hpost; obtain ⟨g, G, rfl, hlp, q2⟩ := HLP.out _ _ _ hpost; clear hpost s5; replace KV := hidden (KV.out.step q2); replace KW := hidden (KW.out.step q2); replace KL := hidden (KL.out.step q2); replace KS := hidden (KS.out.step q2); replace K4 := hidden (K4.out.step q2); replace K5 := hidden (K5.out.step q2); have KP := hidden hlp.kp; clear hlp q2)
        | (go_at_call 20; refine (HFew.out _).mono ?_; rintro e x3 ⟨rfl, rfl⟩; have mk_frootcellarlaw05few_1 : Hid True := trivial))
      have HO1 := hidden KO1.out.now
      have HO2 := hidden KO2.out.now
      have HO3 := hidden KO3.out.now
      have HK8 := hidden K8.out.now
      have HK10 := hidden K10.out.now
      have HK12 := hidden K12.out.now
      have HKW := hidden KW.out.now
      clear KV KW KL KS K4 K5 KP KO1 KO2 KO3 K8 K10 K12 KO4 K14 K15 K17 HLent HKept HWy HRw HUp HRu HFew HLP HWP HUPo HSQ HCP HOQ HUS HSz5 hq
      go_loopw [19] (fun i wr => ∃ j : Nat, j ≤ nw ∧ i = .int .i64 j ∧ Hid (x25.grownBy wr (Value.slice sa1 nw sc1).ownBlock) ∧ Hid (∀ ga, (Value.slice sa1 nw sc1).ownBlock = some ga → ∃ cur, Blk wr ga 25 cur ∧ nw * 32 ≤ cur.size)) (fun i _ => nw - (intOf i).toNat)
      case atStart =>
        refine ⟨0, by omega, rfl, below_grown (Below.refl _ _) _, fun ga hga => ?_⟩
        rcases HO1.out.2 with ⟨e, e2⟩ | ⟨g', cap', cur, e, _, hg', hc1, _, hc2, _⟩
        · rw [e] at hga
          simp [Value.ownBlock] at hga
        · rw [e] at hga
          obtain rfl : g' = ga := by simpa [Value.ownBlock] using hga
          exact ⟨cur, hg', by omega⟩
      case round =>
        obtain ⟨j, hj, rfl, hgr, hcu⟩ := hrel
        have hk8 := HK8.out.keptO hgr.out (own_ne HO1.out HK8.out)
        have s8 := proof_side hk8
        by_cases hlt : j < nw
        · have z1 : (j : Int) < (nw : Int) := by omega
          have z0 : (0 : Int) ≤ (j : Int) := by omega
          have hbn : nw ≤ 140737488355328 := HNB.out
          obtain ⟨ga, hga⟩ : ∃ ga, sa1 = some ⟨ga, 0, none⟩ := by
            rcases HO1.out.2 with ⟨e, e2⟩ | ⟨g', cap', cur, e, _⟩
            · omega
            · injection e with e1
              exact ⟨g', e1⟩
          subst hga
          obtain ⟨cur, hcur, hsz⟩ := hcu.out ga rfl
          have HTH : Hid (wr.there ga (j * 32) (B one32).size) := hcur.there (j * 32) _ (by show j * 32 + 32 ≤ _; omega)
          have HC := hidden (Blk.cells (B one32).toList (j * 32) hcur (by show j * 32 + 32 ≤ _; omega))
          have HCS : Hid (nw * 32 ≤ (cur.toList.take (j * 32) ++ ((B one32).toList ++ cur.toList.drop (j * 32 + (B one32).toList.length))).toArray.size) := by
            show _ ≤ _
            have h32 : (B one32).toList.length = 32 := rfl
            simp only [List.size_toArray, List.length_append, List.length_take, List.length_drop, h32, Array.length_toList]
            omega
          have gr := grown_setCells ga (B one32).toList (j * 32) wr
          have HGR : Hid (x25.grownBy (wr.setCells ga (j * 32) (B one32).toList) (Value.slice (some ⟨ga, 0, none⟩) nw sc1).ownBlock) := grown_trans hgr.out gr
          have HBL : Hid (Tryd.prog.built 25 [(0, .int .u8 1)] = some (B one32)) := built_one
          obtain ⟨Q1, hQ1⟩ : ∃ Q1, Q1 = one32 := ⟨_, rfl⟩
          have HIS : Hid ((Tryd.prog.info? 25).map (·.size) = some (B Q1).size) := by rw [hQ1]; exact (hash_sz one32 rfl).1
          rw [← hQ1] at HTH HC HCS HGR HBL
          clear gr hcur hsz hcu hgr hk8 hQ1
          go_wp2_with (first
            | ((with_reducible refine at_bd ?_); refine wpList_bld _ rfl _ _ rfl _ (by rw [List.map_toArray]; exact HBL.out) ?_)
            | ((with_reducible refine at_st 114 ?_); refine wpList_stm _ rfl _ _ _ rfl ga (j * 32) (B Q1) rfl rfl HTH.out HIS.out (B_one _) ?_; generalize wr.setCells ga (j * 32) (B Q1).toList = x9 at *))
          exact ⟨⟨j + 1, by omega, by go_num, HGR, fun ga' e => by
            obtain rfl : ga = ga' := by simpa [Value.ownBlock] using e
            exact ⟨_, HC.out, HCS.out⟩⟩, by simp [intOf]; omega⟩
        · have z1 : ¬ (j : Int) < (nw : Int) := by omega
          have HR10 := hidden (HK10.out.keptO hgr.out (own_ne HO1.out HK10.out))
          have HR12 := hidden (HK12.out.keptO hgr.out (own_ne HO1.out HK12.out))
          have HS2 := hidden (HO2.out.kept hgr.out AP2.out)
          have HS3 := hidden (HO3.out.kept hgr.out AP3.out)
          have HBE := hidden (below_ownH HKW.out (own_base HO1.out HB1.out) (Nat.le_refl _) hgr.out)
          clear hk8 hgr hcu
          go_wp2_with (first
            | ((with_reducible refine at_ldd 115 10 ?_); refine wpList_lds _ rfl _ _ rfl g10 _ _ rfl HR10.out HUP.out (HSz.out _ _).1 ?_)
            | ((with_reducible refine at_ldd 116 12 ?_); refine wpList_lds _ rfl _ _ rfl g12 _ _ rfl HR12.out HUP.out (HSz.out _ _).1 ?_)
            | (go_at_call 29; refine (HSP.out _ (_, _) (_, _) _ HNN.out (HOH.out _ _ (_, _) HS2.out) (HOH.out _ _ (_, _) HS3.out)).mono ?_; rintro e x9 ⟨rfl, q9⟩))
          go_ret
          exact ⟨rfl, grow_trans HBE.out q9⟩

end Go.Proofs.YtjcklpdifanjlaaDoor
