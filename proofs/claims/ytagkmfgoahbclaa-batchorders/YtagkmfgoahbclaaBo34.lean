/- rootcellarkit.SamePairs and ValuesOf, as contracts. -/
import Derived.Test.YtagkmfgoahbclaaBo31
import Derived.Test.YtagkmfgoahbclaaBo33
import Derived.Test.YtagkmfgoahbclaaBo28
namespace Go.Proofs.Ytagkmfgoahbclaa
set_option maxRecDepth 20000
open Go.RowKit

set_option maxRecDepth 100000 in
set_option maxHeartbeats 8000000 in
theorem samePairs_true (v u : Value) (V U : Nat → Value) (es : List Ent) (w : World) (hv : PrAt w v V es) (hu : PrAt w u U es) (hn : es.length ≤ 65536) : Calls Try.prog 12 #[v, u] w fun e w' => e = .returned (.bool true) ∧ Below w.heap.size w w' := by
  obtain ⟨aA, ca, rfl, _, hA, hkA⟩ := hv
  obtain ⟨aB, cb, rfl, _, hB, hkB⟩ := hu
  have HA := hidden hA
  have HB := hidden hB
  have HKA := hidden hkA
  have HKB := hidden hkB
  obtain ⟨n, hn0⟩ : ∃ n, n = es.length := ⟨_, rfl⟩
  have HN : Hid (n = es.length ∧ n ≤ 65536) := ⟨hn0, by rw [hn0]; exact hn⟩
  rw [← hn0]
  rw [← hn0] at HA HB
  clear hA hB hkA hkB hn hn0
  go_enter Try.func12, Try.ntmps12
  go_wp2_with fail
  go_loopw [5] (fun iv wr => ∃ i : Nat, iv = .int .i64 (i : Int) ∧ i ≤ n ∧ Hid (Below w.heap.size w wr)) (fun iv _ => n - (intOf iv).toNat)
  case atStart => exact ⟨0, rfl, by omega, Below.refl _ _⟩
  case round =>
    obtain ⟨i, rfl, hin, hb⟩ := hrel
    by_cases hlt : i < n
    · as_aux_lemma =>
        have z1 : (i : Int) < (n : Int) := by omega
        have z0 : (0 : Int) ≤ (i : Int) := by omega
        have hil : i < es.length := by have := HN.out; omega
        obtain ⟨ga, oa, rfl, hra⟩ := HA.out (by omega)
        obtain ⟨gb, ob, rfl, hrb⟩ := HB.out (by omega)
        obtain ⟨hkey, hrx⟩ := HKA.out i hil
        obtain ⟨_, hry⟩ := HKB.out i hil
        obtain ⟨xa, xc, hxv⟩ : ∃ xa xc, V i = .slice xa (es.getD i e00).2.length xc := by obtain ⟨a, c, e, _⟩ := hrx; exact ⟨a, c, e⟩
        obtain ⟨ya, yc, hyv⟩ : ∃ ya yc, U i = .slice ya (es.getD i e00).2.length yc := by obtain ⟨a, c, e, _⟩ := hry; exact ⟨a, c, e⟩
        obtain ⟨K, hK⟩ : ∃ K, K = (es.getD i e00).1 := ⟨_, rfl⟩
        obtain ⟨xl, hxl⟩ : ∃ xl, xl = (es.getD i e00).2.length := ⟨_, rfl⟩
        obtain ⟨yl, hyl⟩ : ∃ yl, yl = (es.getD i e00).2.length := ⟨_, rfl⟩
        rw [← hxl] at hxv
        rw [← hyl] at hyv
        have HS : Hid (∀ w', Below w.heap.size w w' → w'.rangeAt ga (oa + i * 33) (encP K (.slice xa xl xc)) ∧ w'.rangeAt gb (ob + i * 33) (encP K (.slice ya yl yc))) := fun w' hb => by rw [hK, ← hxv, ← hyv]; exact ⟨rng_grow (hra i hlt) hb, rng_grow (hrb i hlt) hb⟩
        have HKL : Hid (K.length = 32) := by rw [hK]; exact hkey.1
        have HLK : Hid ((Try.prog.info? 34).map (·.size) = some (B K).toList.length) := by show _ = _; rw [B_toList, List.length_map, HKL.out]; exact sz_path0
        have HC : Hid (∀ w', Below w.heap.size w w' → Calls Try.prog 21 #[.slice xa xl xc, .slice ya yl yc] w' fun e w'' => e = .returned (.bool true) ∧ Below w'.heap.size w' w'') := fun w' hb => by
          rw [← hxv, ← hyv]
          exact (same_any _ _ _ _ w' (hrx.grow hb) (hry.grow hb)).mono fun e w'' ⟨h1, h2⟩ => ⟨by rw [h1]; simp, by rw [h2]; exact Below.refl _ _⟩
        have EQ : ∀ w, (Op.equalIn 10000 34 (.agg (B K)) (.agg (B K))).run Try.prog w = .ok true w := fun w => by have := path_eq K K HKL.out HKL.out w; simpa using this
        obtain ⟨j, hj⟩ : ∃ j, j = i + 1 := ⟨_, rfl⟩
        have HJ := hidden hj
        have hwi := w64_succ (k := i) (by have := HN.out; omega) hj
        have d0 : Below w.heap.size w wr.drew := grow_trans hb.out (Below.refl _ _).drew
        clear hra hrb hkey hrx hry hxv hyv hK hxl hyl hj HA HB HKA HKB hil
        go_wp2_with fail
        refine wp_region_held_drew (S := fun w' => w'.rangeAt ga (oa + i * 33) (encP K (.slice xa xl xc)) ∧ w'.rangeAt gb (ob + i * 33) (encP K (.slice ya yl yc))) (by kernel_rfl) (HS.out _ d0) (fun hHeld => ?_)
        refine wpAnyH_take (i := 0) (v := .slice (some ⟨ga, oa, none⟩) n ca) rfl (by kernel_rfl) (by kernel_rfl) (by kernel_rfl) (fun _ _ _ h => h) (Or.inl ⟨by rfl, fun w hS => by go_simp⟩) hHeld ?_
        simp only [Act.put, List.getElem_toArray, List.getElem_cons_zero, List.setIfInBounds_toArray, List.set_cons_zero, List.set_cons_succ]
        refine wpAnyH_take (i := 1) (v := .int .i64 (i : Int)) rfl (by kernel_rfl) (by kernel_rfl) (by kernel_rfl) (fun _ _ _ h => h) (Or.inl ⟨by rfl, fun w hS => by go_simp⟩) hHeld ?_
        simp only [Act.put, List.getElem_toArray, List.getElem_cons_zero, List.getElem_cons_succ, List.setIfInBounds_toArray, List.set_cons_zero, List.set_cons_succ]
        refine wpAnyH_take (i := 2) (v := .pointer (some ⟨ga, oa + i * 33, none⟩)) rfl (by kernel_rfl) (by kernel_rfl) (by kernel_rfl) (fun _ _ _ h => h) (Or.inl ⟨by rfl, fun w hS => by go_simp⟩) hHeld ?_
        simp only [Act.put, List.getElem_toArray, List.getElem_cons_zero, List.getElem_cons_succ, List.setIfInBounds_toArray, List.set_cons_zero, List.set_cons_succ]
        refine wpAnyH_take (i := 3) (v := .pointer (some ⟨ga, oa + i * 33, none⟩)) rfl (by kernel_rfl) (by kernel_rfl) (by kernel_rfl) (fun _ _ _ h => h) (Or.inl ⟨by rfl, fun w hS => by go_simp⟩) hHeld ?_
        simp only [Act.put, List.getElem_toArray, List.getElem_cons_zero, List.getElem_cons_succ, List.setIfInBounds_toArray, List.set_cons_zero, List.set_cons_succ]
        refine wpAnyH_take (i := 4) (v := .agg (B K)) rfl (by kernel_rfl) (by kernel_rfl) (by kernel_rfl) (fun _ _ _ h => h) (yieldsIf_load_mid rfl 34 (.tmp 20) rfl ga (oa + i * 33) rfl (B K).toList _ (fun w hS => rng_key hS.1) Try.underlying34 rfl HLK.out) hHeld ?_
        simp only [Act.put, List.getElem_toArray, List.getElem_cons_zero, List.getElem_cons_succ, List.setIfInBounds_toArray, List.set_cons_zero, List.set_cons_succ]
        refine wpAnyH_take (i := 5) (v := .slice (some ⟨gb, ob, none⟩) n cb) rfl (by kernel_rfl) (by kernel_rfl) (by kernel_rfl) (fun _ _ _ h => h) (Or.inl ⟨by rfl, fun w hS => by go_simp⟩) hHeld ?_
        simp only [Act.put, List.getElem_toArray, List.getElem_cons_zero, List.getElem_cons_succ, List.setIfInBounds_toArray, List.set_cons_zero, List.set_cons_succ]
        refine wpAnyH_take (i := 6) (v := .int .i64 (i : Int)) rfl (by kernel_rfl) (by kernel_rfl) (by kernel_rfl) (fun _ _ _ h => h) (Or.inl ⟨by rfl, fun w hS => by go_simp⟩) hHeld ?_
        simp only [Act.put, List.getElem_toArray, List.getElem_cons_zero, List.getElem_cons_succ, List.setIfInBounds_toArray, List.set_cons_zero, List.set_cons_succ]
        refine wpAnyH_take (i := 7) (v := .pointer (some ⟨gb, ob + i * 33, none⟩)) rfl (by kernel_rfl) (by kernel_rfl) (by kernel_rfl) (fun _ _ _ h => h) (Or.inl ⟨by rfl, fun w hS => by go_simp⟩) hHeld ?_
        simp only [Act.put, List.getElem_toArray, List.getElem_cons_zero, List.getElem_cons_succ, List.setIfInBounds_toArray, List.set_cons_zero, List.set_cons_succ]
        refine wpAnyH_take (i := 8) (v := .pointer (some ⟨gb, ob + i * 33, none⟩)) rfl (by kernel_rfl) (by kernel_rfl) (by kernel_rfl) (fun _ _ _ h => h) (Or.inl ⟨by rfl, fun w hS => by go_simp⟩) hHeld ?_
        simp only [Act.put, List.getElem_toArray, List.getElem_cons_zero, List.getElem_cons_succ, List.setIfInBounds_toArray, List.set_cons_zero, List.set_cons_succ]
        refine wpAnyH_take (i := 9) (v := .agg (B K)) rfl (by kernel_rfl) (by kernel_rfl) (by kernel_rfl) (fun _ _ _ h => h) (yieldsIf_load_mid rfl 34 (.tmp 25) rfl gb (ob + i * 33) rfl (B K).toList _ (fun w hS => rng_key hS.2) Try.underlying34 rfl HLK.out) hHeld ?_
        simp only [Act.put, List.getElem_toArray, List.getElem_cons_zero, List.getElem_cons_succ, List.setIfInBounds_toArray, List.set_cons_zero, List.set_cons_succ]
        refine wpAnyH_take (i := 10) (v := .bool false) rfl (by kernel_rfl) (by kernel_rfl) (by kernel_rfl) (fun _ _ _ h => h) (Or.inl ⟨by rfl, fun w hS => by go_simp⟩) hHeld ?_
        simp only [Act.put, List.getElem_toArray, List.getElem_cons_zero, List.getElem_cons_succ, List.setIfInBounds_toArray, List.set_cons_zero, List.set_cons_succ]
        refine wpAnyH_take (i := 11) (v := .bool false) rfl (by kernel_rfl) (by kernel_rfl) (by kernel_rfl) (fun _ _ _ h => h) (Or.inl ⟨by rfl, fun w hS => by go_simp⟩) hHeld ?_
        simp only [Act.put, List.getElem_toArray, List.getElem_cons_zero, List.getElem_cons_succ, List.setIfInBounds_toArray, List.set_cons_zero, List.set_cons_succ]
        refine wpAnyH_take (i := 12) (v := .slice (some ⟨ga, oa, none⟩) n ca) rfl (by kernel_rfl) (by kernel_rfl) (by kernel_rfl) (fun _ _ _ h => h) (Or.inl ⟨by rfl, fun w hS => by go_simp⟩) hHeld ?_
        simp only [Act.put, List.getElem_toArray, List.getElem_cons_zero, List.getElem_cons_succ, List.setIfInBounds_toArray, List.set_cons_zero, List.set_cons_succ]
        refine wpAnyH_take (i := 13) (v := .int .i64 (i : Int)) rfl (by kernel_rfl) (by kernel_rfl) (by kernel_rfl) (fun _ _ _ h => h) (Or.inl ⟨by rfl, fun w hS => by go_simp⟩) hHeld ?_
        simp only [Act.put, List.getElem_toArray, List.getElem_cons_zero, List.getElem_cons_succ, List.setIfInBounds_toArray, List.set_cons_zero, List.set_cons_succ]
        refine wpAnyH_take (i := 14) (v := .pointer (some ⟨ga, oa + i * 33, none⟩)) rfl (by kernel_rfl) (by kernel_rfl) (by kernel_rfl) (fun _ _ _ h => h) (Or.inl ⟨by rfl, fun w hS => by go_simp⟩) hHeld ?_
        simp only [Act.put, List.getElem_toArray, List.getElem_cons_zero, List.getElem_cons_succ, List.setIfInBounds_toArray, List.set_cons_zero, List.set_cons_succ]
        refine wpAnyH_take (i := 15) (v := .pointer (some ⟨ga, oa + i * 33 + 32, none⟩)) rfl (by kernel_rfl) (by kernel_rfl) (by kernel_rfl) (fun _ _ _ h => h) (Or.inl ⟨by rfl, fun w hS => by go_simp⟩) hHeld ?_
        simp only [Act.put, List.getElem_toArray, List.getElem_cons_zero, List.getElem_cons_succ, List.setIfInBounds_toArray, List.set_cons_zero, List.set_cons_succ]
        refine wpAnyH_take (i := 16) (v := .slice xa xl xc) rfl (by kernel_rfl) (by kernel_rfl) (by kernel_rfl) (fun _ _ _ h => h) (Or.inl ⟨by rfl, fun w hS => by (have q1 := rng_val hS.1 HKL.out; go_simp)⟩) hHeld ?_
        simp only [Act.put, List.getElem_toArray, List.getElem_cons_zero, List.getElem_cons_succ, List.setIfInBounds_toArray, List.set_cons_zero, List.set_cons_succ]
        refine wpAnyH_take (i := 17) (v := .slice (some ⟨gb, ob, none⟩) n cb) rfl (by kernel_rfl) (by kernel_rfl) (by kernel_rfl) (fun _ _ _ h => h) (Or.inl ⟨by rfl, fun w hS => by go_simp⟩) hHeld ?_
        simp only [Act.put, List.getElem_toArray, List.getElem_cons_zero, List.getElem_cons_succ, List.setIfInBounds_toArray, List.set_cons_zero, List.set_cons_succ]
        refine wpAnyH_take (i := 18) (v := .int .i64 (i : Int)) rfl (by kernel_rfl) (by kernel_rfl) (by kernel_rfl) (fun _ _ _ h => h) (Or.inl ⟨by rfl, fun w hS => by go_simp⟩) hHeld ?_
        simp only [Act.put, List.getElem_toArray, List.getElem_cons_zero, List.getElem_cons_succ, List.setIfInBounds_toArray, List.set_cons_zero, List.set_cons_succ]
        refine wpAnyH_take (i := 19) (v := .pointer (some ⟨gb, ob + i * 33, none⟩)) rfl (by kernel_rfl) (by kernel_rfl) (by kernel_rfl) (fun _ _ _ h => h) (Or.inl ⟨by rfl, fun w hS => by go_simp⟩) hHeld ?_
        simp only [Act.put, List.getElem_toArray, List.getElem_cons_zero, List.getElem_cons_succ, List.setIfInBounds_toArray, List.set_cons_zero, List.set_cons_succ]
        refine wpAnyH_take (i := 20) (v := .pointer (some ⟨gb, ob + i * 33 + 32, none⟩)) rfl (by kernel_rfl) (by kernel_rfl) (by kernel_rfl) (fun _ _ _ h => h) (Or.inl ⟨by rfl, fun w hS => by go_simp⟩) hHeld ?_
        simp only [Act.put, List.getElem_toArray, List.getElem_cons_zero, List.getElem_cons_succ, List.setIfInBounds_toArray, List.set_cons_zero, List.set_cons_succ]
        refine wpAnyH_take (i := 21) (v := .slice ya yl yc) rfl (by kernel_rfl) (by kernel_rfl) (by kernel_rfl) (fun _ _ _ h => h) (Or.inl ⟨by rfl, fun w hS => by (have q1 := rng_val hS.2 HKL.out; go_simp)⟩) hHeld ?_
        simp only [Act.put, List.getElem_toArray, List.getElem_cons_zero, List.getElem_cons_succ, List.setIfInBounds_toArray, List.set_cons_zero, List.set_cons_succ]
        refine wpAnyH_ready (rs := [22]) (by kernel_rfl) (by simp) ?_
        refine AllReadyH.cons rfl (fun KQ hK => ?_) AllReadyH.nil
        go_simp
        refine (HC.out _ d0).mono ?_
        rintro e wx ⟨rfl, bx1⟩
        have d1 := grow_trans d0 bx1
        refine hK.out _ _ (HS.out _ d1) (fun hHeld => ?_)
        clear hK KQ
        refine wpAnyH_take (i := 23) (v := .bool false) rfl (by kernel_rfl) (by kernel_rfl) (by kernel_rfl) (fun _ _ _ h => h) (Or.inl ⟨by rfl, fun w hS => by go_simp⟩) hHeld ?_
        simp only [Act.put, List.getElem_toArray, List.getElem_cons_zero, List.getElem_cons_succ, List.setIfInBounds_toArray, List.set_cons_zero, List.set_cons_succ]
        refine wpAnyH_take (i := 24) (v := .bool false) rfl (by kernel_rfl) (by kernel_rfl) (by kernel_rfl) (fun _ _ _ h => h) (Or.inl ⟨by rfl, fun w hS => by go_simp⟩) hHeld ?_
        simp only [Act.put, List.getElem_toArray, List.getElem_cons_zero, List.getElem_cons_succ, List.setIfInBounds_toArray, List.set_cons_zero, List.set_cons_succ]
        refine wpAnyH_done (by kernel_rfl) ?_ _
        have HD := hidden d1
        clear d0 d1 bx1 EQ
        go_wp2_with fail
        rw [hwi]
        clear hwi
        exact ⟨⟨j, rfl, by have := HJ.out; omega, HD⟩, by have := HJ.out; simp [intOf]; omega⟩
    · have z1 : ¬ (i : Int) < (n : Int) := by omega
      go_wp2
      go_ret
      exact ⟨rfl, hb.out⟩

/-- [][]byte{x}. -/
theorem wpList_bs1 {ops : Array Oper} {rest : List Oper} {op : Oper} {a : Act} {Q : Exit → Act → World → Prop} (w : World) (hgd : op.guard = none) (x : Operand) (ho : op.op = .buildSlice 30 1 #[(0, x)])
    (va : Option Addr) (vl vc : Nat) (hx : a.eval x = .slice va vl vc)
    (hk : ∀ w' g, w.heap.size ≤ g → Blk w' g 35 #[.slice va vl vc] → Below w.heap.size w w' → wpList Try.prog ops Q rest (a.put op.dst (.slice (some ⟨g, 0, none⟩) 1 1)) w') : wpList Try.prog ops Q (op :: rest) a w := by
  refine wpList_plain hgd fun K hK => ?_
  obtain ⟨i, hi, hz, hs, _⟩ := info_parts info_slice
  have hrun := run_buildSlice (P := Try.prog) w 30 35 1 #[(0, .slice va vl vc)] #[.slice va vl vc] i _ u_listsL hi hz (by rw [hs]; omega) (by rw [hs]; omega) (by
    rw [hs]
    obtain ⟨zs, hzz, hzl⟩ : ∃ zs : List Value, (Array.range (1 * 1)).map ((Value.slice none 0 0).cells[· % (Value.slice none 0 0).cells.size]!) = zs.toArray ∧ zs.length = 1 := ⟨_, (Array.toArray_toList).symm, by simp⟩
    rw [hzz]
    have := fill_one (fun i => some (i * 1, 1)) 0 0 1 (.slice va vl vc) [.slice va vl vc] zs [] rfl rfl rfl (by omega)
    rw [show (#[(0, Value.slice va vl vc)] : Array (Nat × Value)).toList = [(0, Value.slice va vl vc)] from rfl, this, Instr.fill]
    match zs, hzl with
    | [z], _ => simp)
  unfold Oper.wp execOp
  simp only [ho, List.map_toArray, List.map_cons, List.map_nil, hx, Sem.run_bind, hrun, Result.andThen_ok, Sem.run_pure]
  exact hK _ _ (hk _ w.heap.size (Nat.le_refl _) (Blk.new w _ _) (grow_alloc w _))
theorem sl_one (a : Option Addr) (l c : Nat) : ∀ u ∈ [Value.slice a l c], u.oneCell' = true := fun u hu => by
  obtain rfl : u = .slice a l c := by simpa using hu
  rfl
theorem blk_cells {w : World} {g : Nat} {t : TypeId} {us : List Value} (h : Blk w g t us.toArray) : ∀ j u, us[j]? = some u → w.cell? ((⟨g, 0, none⟩ : Addr).add j) = some u := fun j u hu => by
  rw [Addr.add_lit, Nat.zero_add, h.cell]
  simpa using hu

/-- Values gathered in new memory since wb. -/
structure AccS (wb w : World) (v : Value) (n : Nat) (xs : List Value) : Prop where
  own : w.ownsRow wb.heap.size 35 1 v n xs
  bel : Below wb.heap.size wb w
theorem AccS.nil (w : World) : AccS w w (.slice none 0 0) 0 [] := ⟨World.ownsRow_nil _ _ _ _, Below.refl _ _⟩
theorem AccS.grow {wb w w' : World} {v : Value} {n : Nat} {xs : List Value} (h : AccS wb w v n xs) (hb : Below w.heap.size w w') : AccS wb w' v n xs := by
  refine ⟨⟨h.own.1, ?_⟩, grow_trans h.bel hb⟩
  rcases h.own.2 with hn | ⟨g, cap, cur, rfl, hb2, hgg, rest⟩
  · exact .inl hn
  · exact .inr ⟨g, cap, cur, rfl, hb2, (hb.block g (Array.getElem?_eq_some_iff.1 hgg).1).trans hgg, rest⟩
theorem AccS.app {wb w w' : World} {v v' : Value} {n n' : Nat} {xs xs' : List Value} (h : AccS wb w v n xs) (k1 : w'.ownsRow wb.heap.size 35 1 v' n' xs') (k2 : w.grownBy w' v.ownBlock) : AccS wb w' v' n' xs' := ⟨k1, h.bel.grown k2 h.bel.size fun g hg => (h.own.lt g hg).1⟩
theorem ownsS_slice {w : World} {base : Nat} {v : Value} {n : Nat} {xs : List Value} (h : w.ownsRow base 35 1 v n xs) : ∃ a c, v = .slice a n c := by
  rcases h.2 with ⟨rfl, rfl⟩ | ⟨g', cap, cur, rfl, _⟩
  · exact ⟨_, _, rfl⟩
  · exact ⟨_, _, rfl⟩

/-- The values of the first i lists. -/
def vlsN (Es : Nat → List Ent) (Vs : Nat → Nat → Value) : Nat → List Value
  | 0 => []
  | i + 1 => vlsN Es Vs i ++ (List.range (Es i).length).map (Vs i)
def vlsK (Es : Nat → List Ent) (Vs : Nat → Nat → Value) (i k : Nat) : List Value := vlsN Es Vs i ++ (List.range k).map (Vs i)
theorem vlsK_zero (Es : Nat → List Ent) (Vs : Nat → Nat → Value) (i : Nat) : vlsK Es Vs i 0 = vlsN Es Vs i := by simp [vlsK]
theorem vlsK_succ (Es : Nat → List Ent) (Vs : Nat → Nat → Value) (i k : Nat) : vlsK Es Vs i (k + 1) = vlsK Es Vs i k ++ [Vs i k] := by simp [vlsK, List.range_succ]
theorem vlsK_full (Es : Nat → List Ent) (Vs : Nat → Nat → Value) (i : Nat) : vlsK Es Vs i (Es i).length = vlsN Es Vs (i + 1) := rfl

set_option maxRecDepth 100000 in
set_option maxHeartbeats 8000000 in
theorem valuesOf_any (gl : Nat) (Pv : Nat → Value) (Es : Nat → List Ent) (Vs : Nat → Nat → Value) (w : World) (hc : ∀ i, i < 2 → w.cell? ⟨gl, i, none⟩ = some (Pv i)) (hp : ∀ i, i < 2 → PrAt w (Pv i) (Vs i) (Es i)) (hn : (vlsN Es Vs 2).length ≤ 65536) :
    Calls Try.prog 15 #[.slice (some ⟨gl, 0, none⟩) 2 2] w fun e w' => ∃ v, e = .returned v ∧ AccS w w' v (vlsN Es Vs 2).length (vlsN Es Vs 2) := by
  have HC := hidden hc
  have HP := hidden hp
  have HN := hidden hn
  clear hc hp hn
  go_enter Try.func15, Try.ntmps15
  go_wp2_with fail
  go_loopw [3, 4, 5] (fun ov iv _ wr => ∃ (i : Nat), iv = .int .i64 (i : Int) ∧ i ≤ 2 ∧ (∃ a c, ov = .slice a (vlsN Es Vs i).length c) ∧ Hid (AccS w wr ov (vlsN Es Vs i).length (vlsN Es Vs i))) (fun _ iv _ _ => 2 - (intOf iv).toNat)
  case atStart => exact ⟨0, rfl, by omega, ⟨_, _, rfl⟩, AccS.nil w⟩
  case round =>
    obtain ⟨i, rfl, hi2, ⟨oa, oc, rfl⟩, hacc⟩ := hrel
    by_cases hlt : i < 2
    · as_aux_lemma =>
        have z1 : (i : Int) < 2 := by omega
        have z0 : (0 : Int) ≤ (i : Int) := by omega
        obtain ⟨pa, pc, hpv, _, hpr, hpk⟩ := HP.out i hlt
        obtain ⟨pn, hpn⟩ : ∃ pn, pn = (Es i).length := ⟨_, rfl⟩
        have HPN : Hid (pn = (Es i).length ∧ pn ≤ 65536) := ⟨hpn, by
          have h1 : (vlsN Es Vs (i + 1)).length ≤ (vlsN Es Vs 2).length := by
            rcases (show i = 0 ∨ i = 1 by omega) with e | e <;> subst e <;> simp [vlsN]
          have h2 : (Es i).length ≤ (vlsN Es Vs (i + 1)).length := by simp [vlsN]
          have := HN.out
          omega⟩
        rw [← hpn] at hpv
        have HCL : Hid (∀ w', Below w.heap.size w w' → w'.cell? ⟨gl, i, none⟩ = some (.slice pa pn pc)) := fun w' hb => by
          have := HC.out i hlt
          rw [hpv] at this
          exact below_cell hb this
        have HPR := hidden hpr
        have HPK := hidden hpk
        obtain ⟨j, hj⟩ : ∃ j, j = i + 1 := ⟨_, rfl⟩
        have HJ := hidden hj
        have hwi := w64_succ (k := i) (by omega) hj
        have HA0 : Hid (AccS w wr (.slice oa (vlsK Es Vs i 0).length oc) (vlsK Es Vs i 0).length (vlsK Es Vs i 0)) := by rw [vlsK_zero]; exact hacc.out
        have HLI : Hid (∀ k, k ≤ pn → (vlsK Es Vs i k).length ≤ 65536) := fun k hk => by
          have h1 : (vlsK Es Vs i k).length ≤ (vlsN Es Vs (i + 1)).length := by
            rw [← vlsK_full]
            simp [vlsK]
            have := HPN.out.1
            omega
          have h2 : (vlsN Es Vs (i + 1)).length ≤ (vlsN Es Vs 2).length := by
            rcases (show i = 0 ∨ i = 1 by omega) with e | e <;> subst e <;> simp [vlsN]
          have := HN.out
          omega
        have HE0 : Hid ((vlsN Es Vs i).length = (vlsK Es Vs i 0).length) := by show _ = _; rw [vlsK_zero]
        have HFU : Hid (vlsK Es Vs i pn = vlsN Es Vs j) := by show _ = _; rw [hpn, hj]; rfl
        rw [HE0.out]
        clear hpv hpr hpk hpn hj hacc
        go_wp2_with fail
        go_loopw [3, 5] (fun ov kv wr => ∃ (k : Nat), kv = .int .i64 (k : Int) ∧ k ≤ pn ∧ (∃ a c, ov = .slice a (vlsK Es Vs i k).length c) ∧ Hid (AccS w wr ov (vlsK Es Vs i k).length (vlsK Es Vs i k))) (fun _ kv _ => pn - (intOf kv).toNat)
        case atStart => exact ⟨0, rfl, by clear hwi; omega, ⟨_, _, rfl⟩, HA0⟩
        case round =>
          clear HA0
          obtain ⟨k, rfl, hkp, ⟨oa, oc, rfl⟩, hacc⟩ := hrel
          have c1 := HCL.out wr hacc.out.bel
          by_cases hlt2 : k < pn
          · as_aux_lemma =>
              have y1 : (k : Int) < (pn : Int) := by clear hwi; omega
              have y0 : (0 : Int) ≤ (k : Int) := by clear hwi; omega
              have hke : k < (Es i).length := by have := HPN.out; clear hwi; omega
              obtain ⟨g, off, rfl, hrg⟩ := HPR.out (by clear hwi; omega)
              obtain ⟨hkey, hrd⟩ := HPK.out k hke
              obtain ⟨va, vc, hV⟩ : ∃ va vc, Vs i k = .slice va ((Es i).getD k e00).2.length vc := by obtain ⟨a, c, e, _⟩ := hrd; exact ⟨a, c, e⟩
              obtain ⟨vl, hvl⟩ : ∃ vl, vl = ((Es i).getD k e00).2.length := ⟨_, rfl⟩
              rw [← hvl] at hV
              have c2 : wr.cell? ⟨g, off + k * 33 + 32, none⟩ = some (.slice va vl vc) := by rw [← hV]; exact rng_val (rng_grow (hrg k hke) hacc.out.bel) hkey.1
              obtain ⟨k1, hk1⟩ : ∃ k1, k1 = k + 1 := ⟨_, rfl⟩
              have HK1 := hidden hk1
              have y2 := w64_succ (k := k) (by have := HPN.out; clear hwi; omega) hk1
              have HNX : Hid (vlsK Es Vs i k ++ [.slice va vl vc] = vlsK Es Vs i k1) := by show _ = _; rw [hk1, vlsK_succ, hV]
              have HL1 : Hid ((vlsK Es Vs i k).length + 1 = (vlsK Es Vs i k1).length) := by show _ = _; rw [← HNX.out]; simp
              have HLB := hidden (HLI.out k hkp)
              obtain ⟨ol, hol⟩ : ∃ ol, ol = (vlsK Es Vs i k).length := ⟨_, rfl⟩
              rw [← hol] at hacc HL1 HLB ⊢
              clear hke hrg hkey hrd hV hvl hk1 hol HPR HPK HLI HCL
              go_wp2_with (first
                | (refine wpList_bs1 _ rfl _ rfl va vl vc rfl ?_; intro w6 g6 hg6 B6 b6; have HA3 := hidden (hacc.out.grow b6))
                | (at_builtin; refine wpList_appS _ rfl _ _ rfl w.heap.size _ ol _ HA3.out.own rfl ⟨g6, 0, none⟩ 1 1 [.slice va vl vc] rfl rfl (blk_cells B6) (sl_one va vl vc) (by have := HLB.out; clear hwi y2; omega) HA3.out.bel.size ?_; intro u2 w7 k1' k2; rw [HNX.out, HL1.out] at k1'; have HA4 := hidden (HA3.out.app k1' k2); clear HA3 k2; obtain ⟨ua2, uc2, rfl⟩ := ownsS_slice k1'; clear k1' B6))
              rw [y2]
              clear y2 hwi
              exact ⟨⟨k1, rfl, by have := HK1.out; omega, ⟨_, _, rfl⟩, HA4⟩, by have := HK1.out; simp [intOf]; omega⟩
          · have y1 : ¬ (k : Int) < (pn : Int) := by clear hwi; omega
            have HAF : Hid (AccS w wr (.slice oa (vlsN Es Vs j).length oc) (vlsN Es Vs j).length (vlsN Es Vs j)) := by
              have h1 := hacc.out
              rw [show k = pn by clear hwi; omega, HFU.out] at h1
              exact h1
            have HEL : Hid ((vlsK Es Vs i k).length = (vlsN Es Vs j).length) := by show _ = _; rw [show k = pn by clear hwi; omega, HFU.out]
            rw [HEL.out]
            clear hacc
            go_wp2_with fail
            have hij : (i : Int) + 1 = (j : Int) := by have := HJ.out; clear hwi; omega
            rw [hij]
            clear hwi hij
            exact ⟨⟨j, rfl, by have := HJ.out; omega, ⟨_, _, rfl⟩, HAF⟩, by have := HJ.out; simp [intOf]; omega⟩
    · have z1 : ¬ (i : Int) < 2 := by omega
      have HR : Hid (AccS w wr (.slice oa (vlsN Es Vs i).length oc) (vlsN Es Vs 2).length (vlsN Es Vs 2)) := by
        have h1 := hacc.out
        rw [show i = 2 by omega] at h1 ⊢
        exact h1
      clear hacc
      go_wp2
      go_ret
      exact ⟨_, rfl, HR.out⟩

end Go.Proofs.Ytagkmfgoahbclaa

/- batch.Override, as a contract. -/
namespace Go.Proofs.Ytagkmfgoahbclaa
set_option maxRecDepth 20000
open Go.RowKit

/-- Entries as writes. -/
def wes (es : List Ent) : List Wt := es.map fun e => asW e (.slice none 0 0)
def wesV (V : Nat → Value) (es : List Ent) (k : Nat) : List Wt := (List.range k).map fun i => asW (es.getD i e00) (V i)
theorem wesV_len (V : Nat → Value) (es : List Ent) (k : Nat) : (wesV V es k).length = k := by simp [wesV]
theorem wesV_succ (V : Nat → Value) (es : List Ent) (k : Nat) : wesV V es (k + 1) = wesV V es k ++ [asW (es.getD k e00) (V k)] := by simp [wesV, List.range_succ]
theorem wesV_nrm (V : Nat → Value) (es : List Ent) : (wesV V es es.length).map nrm = (wes es).map nrm := by
  apply List.ext_getElem (by simp [wesV, wes])
  intro i h1 h2
  simp [wesV] at h1
  simp [wesV, wes, asW, nrm, List.getD, h1]
theorem asW_ok {w : World} {e : Ent} {v : Value} (hk : Key e.1) (hr : Reads w v e.2) : WtOk (asW e v) := by
  obtain ⟨a, c, e1, _, _, hb, _⟩ := hr
  exact ⟨hk, hb, a, c, e1⟩
/-- The entries that are left of writes, with their values. -/
def itsOf (rs : List Wt) : List (Ent × Value) := (rs.filter fun x => !x.g).map fun x => ((x.k, x.b), x.v)
theorem itsOf_ent (rs : List Wt) : (itsOf rs).map (·.1) = entW rs := by
  unfold itsOf entW
  rw [List.map_map]
  rfl
theorem itsOf_snoc (rs : List Wt) (x : Wt) : itsOf (rs ++ [x]) = itsOf rs ++ (if x.g then [] else [((x.k, x.b), x.v)]) := by
  unfold itsOf
  rw [List.filter_append, List.map_append]
  cases h : x.g <;> simp [h]
theorem itsOf_take (rs : List Wt) (i : Nat) (h : i < rs.length) : itsOf (rs.take (i + 1)) = itsOf (rs.take i) ++ (if rs[i]!.g then [] else [((rs[i]!.k, rs[i]!.b), rs[i]!.v)]) := by
  rw [List.take_succ_eq_append_getElem h, itsOf_snoc, getElem!_pos rs i h]
theorem itsOf_few (rs : List Wt) : (itsOf rs).length ≤ rs.length := by unfold itsOf; rw [List.length_map]; exact List.length_filter_le _ _
theorem itsOf_mem {rs : List Wt} {p : Ent × Value} (h : p ∈ itsOf rs) : ∃ x ∈ rs, p = ((x.k, x.b), x.v) := by
  unfold itsOf at h
  obtain ⟨x, hx, rfl⟩ := List.mem_map.1 h
  exact ⟨x, (List.mem_filter.1 hx).1, rfl⟩

def paPl : Nat → Option (Nat × Nat) := fun i => (#[(0, 32), (32, 1)] : Array (Nat × Nat))[i]?

theorem built_pEq (ps : List (Nat × Value)) : Try.prog.built 41 ps = Instr.fill paPl (encP z32 (.slice none 0 0)).toArray ps := by kernel_rfl

theorem built_pr (K : List Int) (a : Option Addr) (n c : Nat) (hk : K.length = 32) : Try.prog.built 41 [(0, .agg (B K)), (1, .slice a n c)] = some (encP K (.slice a n c)).toArray := by
  rw [built_pEq, fill_one paPl 0 0 32 _ (K.map (Value.int .u8)) _ _ rfl (cells_b K) (by simp [hk]) (by simp [encP, z32]), fill_one paPl 1 32 1 _ [.slice a n c] _ _ rfl rfl rfl (by simp [encP, z32, hk]), Instr.fill]
  congr 2
  simp [encP, z32, hk]

/-- What Override answers. -/
def OvPost (es : List Ent) (ls : List Wt) (w : World) (e : Ending) (w' : World) : Prop := ∃ v rs, e = .returned v ∧ Lat ((wes es ++ ls).map nrm) (rs.map nrm) ∧ w'.ownsRow w.heap.size 41 33 v (itsOf rs).length (flatP (itsOf rs)) ∧ (∀ x ∈ rs, WtOk x ∧ ∃ sp, Own w.heap.size w' x.v x.b sp) ∧ (∀ p q, p < rs.length → q < rs.length → p ≠ q → ∀ h, rs[p]!.v.ownBlock = some h → rs[q]!.v.ownBlock ≠ some h) ∧ rs.length ≤ es.length + ls.length ∧ Below w.heap.size w w'

/-- Entries gathered in new memory since wb. -/
structure AccP (wb w : World) (v : Value) (n : Nat) (xs : List Value) : Prop where
  own : w.ownsRow wb.heap.size 41 33 v n xs
  bel : Below wb.heap.size wb w
theorem AccP.nil (w : World) : AccP w w (.slice none 0 0) 0 [] := ⟨World.ownsRow_nil _ _ _ _, Below.refl _ _⟩
theorem AccP.grow {wb w w' : World} {v : Value} {n : Nat} {xs : List Value} (h : AccP wb w v n xs) (hb : Below w.heap.size w w') : AccP wb w' v n xs := ⟨ownsP_below h.own hb, grow_trans h.bel hb⟩
theorem AccP.app {wb w w' : World} {v v' : Value} {n n' : Nat} {xs xs' : List Value} (h : AccP wb w v n xs) (k1 : w'.ownsRow wb.heap.size 41 33 v' n' xs') (k2 : w.grownBy w' v.ownBlock) : AccP wb w' v' n' xs' := ⟨k1, h.bel.grown k2 h.bel.size fun g hg => (h.own.lt g hg).1⟩
theorem ownsP_slice {w : World} {base : Nat} {v : Value} {n : Nat} {xs : List Value} (h : w.ownsRow base 41 33 v n xs) : ∃ a c, v = .slice a n c := by
  rcases h.2 with ⟨rfl, rfl⟩ | ⟨g', cap, cur, rfl, _⟩
  · exact ⟨_, _, rfl⟩
  · exact ⟨_, _, rfl⟩

theorem wpList_bspG {ops : Array Oper} {rest : List Oper} {op : Oper} {a : Act} {Q : Exit → Act → World → Prop} (w : World) (hgd : op.guard = none) (x : Operand) (ho : op.op = .buildSlice 22 1 #[(0, x)])
    (k : List Int) (v : Value) (hx : a.eval x = .agg (encP k v).toArray) (hl : k.length = 32)
    (hk : ∀ w' g, w.heap.size ≤ g → Blk w' g 41 (encP k v).toArray → Below w.heap.size w w' → wpList Try.prog ops Q rest (a.put op.dst (.slice (some ⟨g, 0, none⟩) 1 1)) w') : wpList Try.prog ops Q (op :: rest) a w :=
  wpList_bsp w hgd x ho k v hx hl (hk _ w.heap.size (Nat.le_refl _) (Blk.new w _ _) (grow_alloc w _))

set_option maxRecDepth 100000 in
set_option maxHeartbeats 8000000 in
theorem override_any (pv lv : Value) (V : Nat → Value) (es : List Ent) (ls : List Wt) (w : World) (hp : PrAt w pv V es) (hl : WrAt w lv ls) (hn : es.length + ls.length ≤ 4096) (hlp : ∀ i, i < es.length → (es.getD i e00).2.length ≤ 140737488355328) (hll : ∀ x ∈ ls, x.b.length ≤ 140737488355328) : Calls Try.prog 8 #[pv, lv] w (OvPost es ls w) := by
  obtain ⟨fs, hu⟩ := u_write
  have HUW := hidden hu
  obtain ⟨fsp, hup⟩ := u_pair
  have HUP := hidden hup
  obtain ⟨pa, pc, rfl, p1, p2, p3⟩ := id hp
  have HPR := hidden p2
  have HPK := hidden p3
  have HLV := hidden hl
  have HLL := hidden (And.intro hlp hll)
  obtain ⟨n, hn0⟩ : ∃ n, n = es.length := ⟨_, rfl⟩
  have HN : Hid (n = es.length ∧ n + ls.length ≤ 4096) := ⟨hn0, by rw [hn0]; exact hn⟩
  obtain ⟨la, lc, hlv⟩ : ∃ la lc, lv = .slice la ls.length lc := by obtain ⟨a, c, e, _⟩ := hl; exact ⟨a, c, e⟩
  obtain ⟨lm, hlm⟩ : ∃ lm, lm = ls.length := ⟨_, rfl⟩
  rw [← hlm] at hlv
  subst hlv
  rw [← hn0]
  clear hp hl hn hlp hll hu hup p1 p2 p3 hn0 hlm
  go_enter Try.func8, Try.ntmps8
  go_wp2_with fail
  go_loopw [5, 7, 13] (fun av _ iv wr => ∃ (k : Nat), iv = .int .i64 (k : Int) ∧ k ≤ n ∧ (∃ a m c, av = .slice a m c) ∧ Hid (AccW w wr av k (flatE encW (wesV V es k)))) (fun _ _ iv _ => n - (intOf iv).toNat)
  case atStart => exact ⟨0, rfl, by omega, ⟨_, _, _, rfl⟩, AccW.nil w⟩
  case round =>
    obtain ⟨k, rfl, hkn, ⟨aa, am, ac, rfl⟩, hacc⟩ := hrel
    by_cases hlt : k < n
    · as_aux_lemma =>
        have z1 : (k : Int) < (n : Int) := by omega
        have z0 : (0 : Int) ≤ (k : Int) := by omega
        have hkl : k < es.length := by have := HN.out; omega
        obtain ⟨g, off, rfl, hrg⟩ := HPR.out (by omega)
        obtain ⟨hkey, hrd⟩ := HPK.out k hkl
        have HRG : Hid (∀ w', Below w.heap.size w w' → w'.rangeAt g (off + k * 33) (encP (es.getD k e00).1 (V k))) := fun w' hb => rng_grow (hrg k hkl) hb
        have HWO : Hid (WtOk (asW (es.getD k e00) (V k))) := asW_ok hkey hrd
        obtain ⟨va, vc, hV⟩ : ∃ va vc, V k = .slice va (es.getD k e00).2.length vc := by obtain ⟨a, c, e, _⟩ := hrd; exact ⟨a, c, e⟩
        obtain ⟨K, hK⟩ : ∃ K, K = (es.getD k e00).1 := ⟨_, rfl⟩
        obtain ⟨b, hb⟩ : ∃ b, b = (es.getD k e00).2 := ⟨_, rfl⟩
        obtain ⟨vl, hvl⟩ : ∃ vl, vl = (es.getD k e00).2.length := ⟨_, rfl⟩
        have HKL : Hid (K.length = 32) := by rw [hK]; exact hkey.1
        rw [← hvl] at hV
        rw [hV, ← hK] at HRG
        have HAW : Hid (asW (es.getD k e00) (V k) = ⟨K, false, b, .slice va vl vc⟩) := by show _ = _; unfold asW; rw [hV, hK, hb]
        rw [HAW.out] at HWO
        have HBL := hidden (built_wkv K b va vl vc HKL.out)
        have HSA : Hid ((Try.prog.info? 41).map (·.size) = some (encP K (.slice va vl vc)).toArray.size) := by show _ = _; rw [List.size_toArray, encP_length _ _ HKL.out]; exact size_pair
        have HSZ : Hid ((encP z32 (.slice none 0 0)).toArray.size = (encP K (.slice va vl vc)).toArray.size) := by show _ = _; rw [List.size_toArray, List.size_toArray, encP_length _ _ HKL.out, encP_length _ _ rfl]
        have HON := hidden (encP_one K va vl vc)
        obtain ⟨j, hj⟩ : ∃ j, j = k + 1 := ⟨_, rfl⟩
        have HJ := hidden hj
        have hk2 : k ≤ 200000 := by have := HN.out; omega
        have hwi := w64_succ hk2 hj
        have HAM : Hid (am = k) := by
          obtain ⟨_, _, e⟩ := lst_slice hacc.out.own
          injection e
        have HK6 : Hid (k + 1 ≤ 65536) := by show k + 1 ≤ 65536; have := HN.out; clear hwi; omega
        have HNX : Hid (flatE encW (wesV V es k) ++ encW ⟨K, false, b, .slice va vl vc⟩ = flatE encW (wesV V es j)) := by show _ = _; rw [hj, wesV_succ, HAW.out, flatE_snoc]
        have HIN := hidden info_write
        have HJN : Hid (j ≤ n) := by show j ≤ n; clear hwi; omega
        have hamk := HAM.out
        subst hamk
        clear hkl hrg hkey hrd hV hK hb hvl hj hk2 HPR HAM
        go_wp2_with (first
          | ((with_reducible refine at_ldd 16 15 ?_); refine wpList_ldp _ rfl _ rfl g (off + am * 33) K _ rfl (HRG.out _ hacc.out.bel) HKL.out ?_)
          | ((with_reducible refine at_ald 7 ?_); refine wpList_al _ rfl _ rfl _ zero_pair ?_; intro w3 gq hg3 hl3 bq3 q3)
          | ((with_reducible refine at_st 7 ?_); refine wpList_sto _ rfl _ _ _ rfl gq _ (encP K (.slice va vl vc)).toArray rfl rfl bq3 HSA.out HSZ.out HON.out ?_; intro w4 bq4 r4; have HA2 := hidden (hacc.out.grow (below_row q3 r4 hg3)); have c4 := pair_val bq4 HKL.out; clear bq3 q3 r4 hl3 hg3)
          | ((with_reducible refine at_ldd 19 18 ?_); refine wpList_ldk _ rfl _ rfl gq 0 K rfl (pair_key bq4) HKL.out ?_)
          | (refine wpList_bld _ rfl _ _ rfl (encW ⟨K, false, b, .slice va vl vc⟩).toArray (by rw [List.map_toArray]; exact HBL.out) ?_)
          | (refine wpList_bsw _ rfl _ rfl ⟨K, false, b, .slice va vl vc⟩ rfl HWO.out.len ?_; intro w6 g6 hg6 B6 b6; have HA3 := hidden (HA2.out.grow b6); clear HA2)
          | (refine wpList_appL _ rfl _ _ _ rfl 37 34 64 Try.underlying23 HIN.out (by omega) _ am _ rfl HA3.out.own g6 (encW ⟨K, false, b, .slice va vl vc⟩) rfl B6 HWO.out.len HWO.out.one (by have := HK6.out; simp only [maxLen]; clear hwi; omega) (by have := HK6.out; clear hwi; omega) ?_; intro u2 w7 k1 k2 k3; rw [HNX.out] at k1; have HA4 := hidden (HA3.out.app k1 k2 k3); clear HA3 k2 k3; obtain ⟨ua2, uc2, rfl⟩ := lst_slice k1; clear k1 B6))
        rw [hwi]
        clear hwi
        exact ⟨⟨j, rfl, HJN.out, ⟨_, _, _, rfl⟩, by rw [HJ.out]; rw [HJ.out] at HA4; exact HA4⟩, by have := HJ.out; simp [intOf]; omega⟩
    · have z1 : ¬ (k : Int) < (n : Int) := by omega
      obtain rfl : k = n := by omega
      have HAM : Hid (am = k) := by
        obtain ⟨_, _, e⟩ := lst_slice hacc.out.own
        injection e
      have hamk := HAM.out
      subst hamk
      clear HAM hlt z1 hkn
      obtain ⟨al, hal⟩ : ∃ al, al = wesV V es am ++ ls := ⟨_, rfl⟩
      have HAL : Hid (flatE encW (wesV V es am) ++ flatE encW ls = flatE encW al ∧ al.length = am + ls.length ∧ al.map nrm = (wes es ++ ls).map nrm) := by
        refine ⟨by rw [hal, flatE_app], by rw [hal, List.length_append, wesV_len], ?_⟩
        rw [hal, List.map_append, List.map_append, HN.out.1, wesV_nrm]
      have HALO : Hid (∀ w', Below w.heap.size w w' → ∀ x ∈ al, WtOk x ∧ Reads w' x.v x.b ∧ x.b.length ≤ 140737488355328) := fun w' hb x hx => by
        rw [hal] at hx
        rcases List.mem_append.1 hx with hx | hx
        · unfold wesV at hx
          obtain ⟨i, hi, rfl⟩ := List.mem_map.1 hx
          have hi2 : i < es.length := by have := List.mem_range.1 hi; have := HN.out; omega
          obtain ⟨h1, h2⟩ := HPK.out i hi2
          exact ⟨asW_ok h1 h2, h2.grow hb, HLL.out.1 i hi2⟩
        · exact ⟨HLV.out.ok x hx, (HLV.out.reads x hx).grow hb, HLL.out.2 x hx⟩
      have HLM : Hid (lm = ls.length) := by
        obtain ⟨_, _, e, _⟩ := HLV.out
        injection e
      have HSM : Hid (am + ls.length ≤ 65536) := Nat.le_trans HN.out.2 (by decide)
      have HSM4 : Hid (am + ls.length ≤ 4096) := HN.out.2
      have HORD : Hid (∀ v' w', Below w.heap.size w w' → Lst w' 37 34 v' (am + ls.length) (flatE encW al) → Calls Try.prog 6 #[v'] w' (OrdPost al w')) := fun v' w' hb h1 => order_any v' al w' (wrAt_own (by rw [HAL.out.2.1]; exact h1) (fun x hx => (HALO.out w' hb x hx).1) (fun x hx => (HALO.out w' hb x hx).2.1)) (by rw [HAL.out.2.1]; exact HSM.out) (fun x hx => (HALO.out w' hb x hx).2.2)
      have HZ : Hid ((0 : Int) = 0) := rfl
      clear hal HPR HPK
      go_wp2_with (first
        | (at_builtin; refine wpList_appWs _ rfl _ _ rfl _ _ am _ ls rfl rfl hacc.out.own (HLV.out.grow hacc.out.bel) HSM.out ?_; intro u1 w5 k1 k2 k3; rw [HAL.out.1] at k1; have HA5 := hidden (hacc.out.app k1 k2 k3); clear k2 k3; obtain ⟨ua1, uc1, rfl⟩ := lst_slice k1; clear k1)
        | (go_at_call 6; refine (HORD.out _ _ HA5.out.bel HA5.out.own).mono ?_; rintro e w6 ⟨v2, rs, rfl, hord⟩; have HOR := hidden hord; clear hord; obtain ⟨ra, rc, rfl⟩ := lst_slice HOR.out.own))
      obtain ⟨m, hm0⟩ : ∃ m, m = rs.length := ⟨_, rfl⟩
      have HM := hidden hm0
      rw [← hm0]
      have HROW : Hid (∀ w', Below w6.heap.size w6 w' → Lst w' 37 34 (.slice ra m rc) m (flatE encW rs)) := fun w' hb => by have := lst_grow HOR.out.own hb; rw [← hm0] at this; exact this
      have HM6 : Hid (m ≤ 4096) := by show m ≤ 4096; have h1 := HOR.out.few; have := HAL.out.2.1; have := HSM4.out; omega
      have HB06 : Hid (Below w.heap.size w w6) := grow_trans HA5.out.bel HOR.out.bel
      have HPost : Hid (∀ w' nv, AccP w6 w' nv (itsOf rs).length (flatP (itsOf rs)) → OvPost es ls w (.returned nv) w') := fun w' nv h1 => by
        refine ⟨nv, rs, rfl, by rw [← HAL.out.2.2]; exact HOR.out.lat, ?_, fun x hx => ⟨(HOR.out.ok x hx).1, ?_⟩, HOR.out.ap, by have := HOR.out.few; have := HAL.out.2.1; have := HN.out.1; omega, grow_trans HB06.out h1.bel⟩
        · refine ⟨h1.own.1, ?_⟩
          rcases h1.own.2 with hh | ⟨g', cap, cur, e, hb', rest⟩
          · exact .inl hh
          · exact .inr ⟨g', cap, cur, e, Nat.le_trans HB06.out.size hb', rest⟩
        · obtain ⟨sp, ho⟩ := (HOR.out.ok x hx).2.2
          exact ⟨sp, (ho.grow h1.bel).mono HA5.out.bel.size⟩
      have HOKS : Hid (∀ x ∈ rs, WtOk x) := fun x hx => (HOR.out.ok x hx).1
      clear hm0 HOR HA5 HAL HALO HORD hacc HSM HLV HLL HB06
      go_loopw [8, 10, 31] (fun nv _ iv wr => ∃ (i : Nat), iv = .int .i64 (i : Int) ∧ i ≤ m ∧ (∃ a c, nv = .slice a (itsOf (rs.take i)).length c) ∧ Hid (AccP w6 wr nv (itsOf (rs.take i)).length (flatP (itsOf (rs.take i))))) (fun _ _ iv _ => m - (intOf iv).toNat)
      case atStart => exact ⟨0, rfl, by omega, ⟨_, _, rfl⟩, AccP.nil w6⟩
      case round =>
        obtain ⟨i, rfl, him, ⟨na, nc, rfl⟩, hacc⟩ := hrel
        obtain ⟨nl, hnl⟩ : ∃ nl, nl = (itsOf (rs.take i)).length := ⟨_, rfl⟩
        rw [← hnl] at hacc ⊢
        have HNL := hidden hnl
        clear hnl
        by_cases hlt : i < m
        · as_aux_lemma =>
            have z1 : (i : Int) < (m : Int) := by omega
            have z0 : (0 : Int) ≤ (i : Int) := by omega
            have hir : i < rs.length := by have := HM.out; omega
            obtain ⟨g, rc', hra, _⟩ := lst_pos (HROW.out w6 (Below.refl _ _)) (by omega)
            injection hra with hra hnn hrc
            subst hra
            clear hnn hrc
            obtain ⟨X, hX⟩ : ∃ X, X = rs[i]! := ⟨_, rfl⟩
            have hXo : WtOk X := by rw [hX, getElem!_pos rs i hir]; exact HOKS.out _ (List.getElem_mem hir)
            have HRX : Hid (∀ w', Below w6.heap.size w6 w' → w'.rangeAt g (i * 34) (encW X)) := fun w' hb => by
              rw [hX, getElem!_pos rs i hir]
              exact (lstE_range (HROW.out w' hb) HM.out.symm (fun x hx => (HOKS.out x hx).len) i hir).1
            have HSX : Hid ((Try.prog.info? 37).map (·.size) = some (encW X).length) := by show _ = _; rw [hXo.len]; exact size_write
            have HSA : Hid ((Try.prog.info? 37).map (·.size) = some (encW X).toArray.size) := by show _ = _; rw [List.size_toArray, hXo.len]; exact size_write
            have HSZ : Hid ((encW zW).toArray.size = (encW X).toArray.size) := by show _ = _; rw [List.size_toArray, List.size_toArray, hXo.len, zW_ok.len]
            have HON := hidden hXo.all
            have HKL := hidden hXo.hk.1
            obtain ⟨xa, xc, hxv⟩ := hXo.hv
            obtain ⟨xl, hxl⟩ : ∃ xl, xl = X.b.length := ⟨_, rfl⟩
            rw [← hxl] at hxv
            obtain ⟨xg, hxg⟩ : ∃ xg, xg = X.g := ⟨_, rfl⟩
            have HGN : Hid (∀ w' q, Blk w' q 37 (encW X).toArray → w'.cell? ⟨q, 32, none⟩ = some (.bool xg) ∧ w'.cell? ⟨q, 33, none⟩ = some (.slice xa xl xc) ∧ w'.rangeAt q 0 (B X.k).toList) := fun w' q hb => by
              have h1 := encW_gone hb.rngW hXo.hk.1
              have h2 := encW_val hb.rngW hXo.hk.1
              rw [Nat.zero_add] at h1 h2
              rw [hxg, ← hxv]
              exact ⟨h1, h2, encW_key hb.rngW⟩
            have HBL := hidden (built_pr X.k xa xl xc hXo.hk.1)
            obtain ⟨j, hj⟩ : ∃ j, j = i + 1 := ⟨_, rfl⟩
            have HJ := hidden hj
            have HTK : Hid (itsOf (rs.take j) = itsOf (rs.take i) ++ (if xg then [] else [((X.k, X.b), .slice xa xl xc)])) := by show _ = _; rw [hj, itsOf_take rs i hir, ← hX, hxg, hxv]
            have hi2 : i ≤ 200000 := by have := HM6.out; omega
            have HN4 : Hid (nl ≤ 4096) := by show nl ≤ 4096; rw [HNL.out]; have := itsOf_few (rs.take i); rw [List.length_take] at this; have := HM6.out; omega
            have hwi := w64_succ hi2 hj
            have HJN : Hid (j ≤ m) := by show j ≤ m; clear hwi; omega
            clear hX hXo hxv hxl hxg hj hi2 hir
            cases xg with
            | true =>
              have HE : Hid (itsOf (rs.take j) = itsOf (rs.take i)) := by show _ = _; rw [HTK.out]; simp
              go_wp2_with (first
                | ((with_reducible refine at_ldd 34 33 ?_); refine wpList_load_mid rfl 37 _ rfl g (i * 34) rfl (encW X) _ (HRX.out _ hacc.out.bel) HUW.out rfl HSX.out ?_)
                | ((with_reducible refine at_ald 10 ?_); refine wpList_al _ rfl _ rfl _ zero_write ?_; intro w7 gq hg3 hl3 bq3 q3)
                | ((with_reducible refine at_st 10 ?_); refine wpList_sto _ rfl _ _ _ rfl gq _ (encW X).toArray rfl rfl bq3 HSA.out HSZ.out HON.out ?_; intro w8 bq4 r4; have HA2 := hidden (hacc.out.grow (below_row q3 r4 hg3)); obtain ⟨c4, c5, c6⟩ := HGN.out _ _ bq4; clear bq3 q3 r4 hl3 hg3))
              rw [hwi]
              clear hwi
              exact ⟨⟨j, rfl, HJN.out, ⟨_, _, by rw [HE.out, HNL.out]⟩, by rw [HE.out, ← HNL.out]; exact HA2⟩, by have := HJ.out; simp [intOf]; omega⟩
            | false =>
              have HE : Hid (itsOf (rs.take j) = itsOf (rs.take i) ++ [((X.k, X.b), .slice xa xl xc)]) := by show _ = _; rw [HTK.out]; simp
              have HE1 : Hid ((itsOf (rs.take j)).length = nl + 1) := by show _ = _; rw [HE.out, List.length_append, HNL.out]; rfl
              have HE2 : Hid (flatP (itsOf (rs.take i)) ++ encP X.k (.slice xa xl xc) = flatP (itsOf (rs.take j))) := by show _ = _; rw [HE.out, flatP_snoc]
              go_wp2_with (first
                | ((with_reducible refine at_ldd 34 33 ?_); refine wpList_load_mid rfl 37 _ rfl g (i * 34) rfl (encW X) _ (HRX.out _ hacc.out.bel) HUW.out rfl HSX.out ?_)
                | ((with_reducible refine at_ald 10 ?_); refine wpList_al _ rfl _ rfl _ zero_write ?_; intro w7 gq hg3 hl3 bq3 q3)
                | ((with_reducible refine at_st 10 ?_); refine wpList_sto _ rfl _ _ _ rfl gq _ (encW X).toArray rfl rfl bq3 HSA.out HSZ.out HON.out ?_; intro w8 bq4 r4; have HA2 := hidden (hacc.out.grow (below_row q3 r4 hg3)); obtain ⟨c4, c5, c6⟩ := HGN.out _ _ bq4; have HC6 := hidden c6; clear bq3 q3 r4 hl3 hg3 c6)
                | ((with_reducible refine at_ldd 40 39 ?_); refine wpList_ldk _ rfl _ rfl gq 0 X.k rfl HC6.out HKL.out ?_)
                | (refine wpList_bld _ rfl _ _ rfl (encP X.k (.slice xa xl xc)).toArray (by rw [List.map_toArray]; exact HBL.out) ?_)
                | (refine wpList_bspG _ rfl _ rfl X.k (.slice xa xl xc) rfl HKL.out ?_; intro w9 g6 hg6 B6 b6; have HA3 := hidden (HA2.out.grow b6); clear HA2)
                | (refine wpList_appP _ rfl _ _ rfl w6.heap.size _ nl _ HA3.out.own rfl g6 X.k (.slice xa xl xc) rfl B6 HKL.out rfl HN4.out (Nat.le_trans HA3.out.bel.size (Nat.le_refl _)) ?_; intro u2 w10 k1 k2; rw [HE2.out] at k1; have HA4 := hidden (HA3.out.app k1 k2); clear HA3 k2; obtain ⟨ua2, uc2, rfl⟩ := ownsP_slice k1; clear k1 B6))
              rw [hwi]
              clear hwi
              exact ⟨⟨j, rfl, HJN.out, ⟨_, _, by rw [HE1.out]⟩, by rw [HE1.out]; exact HA4⟩, by have := HJ.out; simp [intOf]; omega⟩
        · have z1 : ¬ (i : Int) < (m : Int) := by omega
          have HP := hidden (HPost.out wr (.slice na nl nc) (by have h1 := hacc.out; rw [HNL.out, List.take_of_length_le (show rs.length ≤ i by have := HM.out; omega)] at h1; rw [HNL.out, List.take_of_length_le (show rs.length ≤ i by have := HM.out; omega)]; exact h1))
          clear hacc
          go_wp2
          go_ret
          exact HP.out

end Go.Proofs.Ytagkmfgoahbclaa
