/- A set of keys, a map of the call's own: looked up, and one key more. -/
import Derived.Test.YtpihigcnoifcfaaGreatDoorVw13
import Derived.Test.YtpihigcnoifcfaaGreatDoorVw04
import Derived.Carry
import Derived.Test.YtpihigcnoifcfaaGreatDoorVw20
import Derived.Test.YtpihigcnoifcfaaGreatDoorVw16
import Derived.Test.YtpihigcnoifcfaaGreatDoorVw05
import Derived.Test.YtpihigcnoifcfaaGreatDoorVw15
import Derived.Sort.Grow
namespace Go.Proofs.YtpihigcnoifcfaaGreatDoor
set_option maxRecDepth 20000
open Go.RowKit

theorem part_byte (xs : List Int) (i : Nat) (hi : i < xs.length) (w : World) : (part 5 (B xs) i).run Tryz.prog w = .ok (.int .u8 (xs.getD i 0)) w := by
  have hagg : (isAgg 5).run Tryz.prog w = .ok false w := Tryz.isAgg5 w
  have h1 := B_get xs i hi
  unfold part
  rw [Sem.run_bind, hagg]
  simp only [Result.andThen_ok, Bool.false_eq_true, if_false, h1, Sem.run_pure]

theorem check_path (xs : List Int) (em : Bool) (hx : xs.length = 32) (w : World) : (Instr.checkKey em 10000 24 (.agg (B xs))).run Tryz.prog w = .ok () w := by
  obtain ⟨i, hi⟩ : ∃ i, Tryz.prog.info? 5 = some i := ⟨_, rfl⟩
  have hsz : i.size = 1 := by
    have := cellsOf_byte
    simpa [Program.cellsOf, hi] using this
  have hs : ∀ w, (Go.sizeOf 5).run Tryz.prog w = .ok 1 w := fun w => by simp [Go.sizeOf, typeInfo, hi, hsz]
  have hb : ∀ z w, (Instr.checkKey em 9999 5 (.int .u8 z)).run Tryz.prog w = .ok () w := fun z w => by
    rw [show (9999 : Nat) = 9998 + 1 from rfl, Instr.checkKey]
    simp [Sem.run_bind, run_underlying u_byte]
  rw [show (10000 : Nat) = 9999 + 1 from rfl, Instr.checkKey]
  simp only [Sem.run_bind, run_underlying u_path, Result.andThen_ok]
  simp only [Std.Legacy.Range.forIn_eq_forIn_range', Std.Legacy.Range.size, Nat.sub_zero, Nat.add_one_sub_one, Nat.div_one]
  have each : ∀ j ∈ List.range' 0 32, j < 32 := fun j hj => by simp at hj; omega
  generalize List.range' 0 32 = js at each
  induction js with
  | nil => simp
  | cons j js ih =>
    have hj := each j (by simp)
    simp only [List.forIn_cons, Sem.run_bind, hs, Result.andThen_ok, Nat.mul_one, part_byte xs j (by omega), hb, Sem.run_pure]
    exact ih (fun y hy => each y (by simp [hy]))

/-- Block b is a map whose keys are these, each with the value of no field. -/
def KeysAt (w : World) (b : Nat) (ks : List (List Int)) : Prop :=
  ∃ es clock, w.heap[b]? = some (.map es clock) ∧ es.toList.map (fun e => (e.key, e.val)) = ks.map (fun k => (Value.agg (B k), Value.agg #[]))

theorem KeysAt.lt {w : World} {b : Nat} {ks : List (List Int)} (h : KeysAt w b ks) : b < w.heap.size := by
  obtain ⟨es, c, h1, _⟩ := h
  exact (Array.getElem?_eq_some_iff.1 h1).1
theorem KeysAt.grow {w w' : World} {b : Nat} {ks : List (List Int)} (h : KeysAt w b ks) (hb : Below w.heap.size w w') : KeysAt w' b ks := by
  have hl := h.lt
  obtain ⟨es, c, h1, h2⟩ := h
  exact ⟨es, c, (hb.block b hl).trans h1, h2⟩
theorem KeysAt.new (w : World) : KeysAt (w.alloc (.map #[] 0)) w.heap.size [] := ⟨#[], 0, heap_alloc_new w _, rfl⟩

theorem equal_key (xs ys : List Int) (hx : xs.length = 32) (hy : ys.length = 32) (w : World) : (Op.equal 24 (.agg (B xs)) (.agg (B ys))).run Tryz.prog w = .ok (decide (xs = ys)) w := path_eq xs ys hx hy w

theorem find_asking (xs : List Int) (hx : xs.length = 32) (w : World) : ∀ (es : List MapEntry) (ks : List (List Int)) (i : Nat), (∀ k ∈ ks, k.length = 32) → es.map (fun e => (e.key, e.val)) = ks.map (fun k => (Value.agg (B k), Value.agg #[])) →
    ∃ r, (Instr.findAsking 24 (.agg (B xs)) es i).run Tryz.prog w = .ok r w ∧ (xs ∈ ks → ∃ j, r = some (j, .agg #[])) ∧ (xs ∉ ks → r = none)
  | [], ks, i, _, h => by
    have : ks = [] := by simpa using h.symm
    subst this
    exact ⟨none, by simp [Instr.findAsking], fun h => by simp at h, fun _ => rfl⟩
  | e :: es, [], i, _, h => by simp at h
  | e :: es, k :: ks, i, hl, h => by
    simp only [List.map_cons, List.cons.injEq, Prod.mk.injEq] at h
    obtain ⟨⟨h1, h2⟩, h3⟩ := h
    have he := equal_key xs k hx (hl k (by simp)) w
    by_cases hk : xs = k
    · refine ⟨some (i, e.val), ?_, fun _ => ⟨i, by rw [h2]⟩, fun hn => absurd (by simp [hk]) hn⟩
      rw [Instr.findAsking, Sem.run_bind, h1, he]
      simp [hk]
    · obtain ⟨r, r1, r2, r3⟩ := find_asking xs hx w es ks (i + 1) (fun q hq => hl q (by simp [hq])) h3
      refine ⟨r, ?_, fun hm => r2 ((List.mem_cons.1 hm).resolve_left hk), fun hn => r3 (fun hm => hn (by simp [hm]))⟩
      rw [Instr.findAsking, Sem.run_bind, h1, he]
      simp only [Result.andThen_ok, decide_eq_false hk, Bool.false_eq_true, if_false]
      exact r1

theorem find_key (xs : List Int) (hx : xs.length = 32) (w : World) (es : List MapEntry) (ks : List (List Int)) (hl : ∀ k ∈ ks, k.length = 32) (h : es.map (fun e => (e.key, e.val)) = ks.map (fun k => (Value.agg (B k), Value.agg #[]))) :
    ∃ r, (Instr.findKey 24 (.agg (B xs)) es).run Tryz.prog w = .ok r w ∧ (xs ∈ ks → ∃ j, r = some (j, .agg #[])) ∧ (xs ∉ ks → r = none) := by
  match es, ks, h with
  | [], ks, h =>
    have : ks = [] := by simpa using h.symm
    subst this
    refine ⟨none, ?_, fun h => by simp at h, fun _ => rfl⟩
    unfold Instr.findKey
    rw [Sem.run_bind, run_underlying u_path]
    simp [Instr.findNow]
  | e :: es, ks, h =>
    obtain ⟨r, r1, r2, r3⟩ := find_asking xs hx w (e :: es) ks 0 hl h
    refine ⟨r, ?_, r2, r3⟩
    unfold Instr.findKey
    rw [Sem.run_bind, run_underlying u_path]
    simp only [Result.andThen_ok, Instr.findNow, Instr.sameNow]
    exact r1

theorem u_keymap : Tryz.prog.underlying 106 = some (.map 24 107) := Tryz.underlying106

theorem zero_unit : ∀ w, (zeroValue 107).run Tryz.prog w = .ok (.agg #[]) w := Tryz.zeroValue107

/-- Is a key among them? -/
theorem wpList_look {ops : Array Oper} {rest : List Oper} {op : Oper} {a : Act} {Q : Exit → Act → World → Prop} (w : World) (hgd : op.guard = none) (m x : Operand) (ho : op.op = .lookup 106 m x true)
    (b : Nat) (ks : List (List Int)) (xs : List Int) (hm : a.eval m = .map (some b)) (hx : a.eval x = .agg (B xs)) (hl : xs.length = 32) (hk : ∀ k ∈ ks, k.length = 32) (h : KeysAt w b ks)
    (hK : wpList Tryz.prog ops Q rest (a.put op.dst (.tuple #[.agg #[], .bool (decide (xs ∈ ks))])) w) : wpList Tryz.prog ops Q (op :: rest) a w := by
  refine wpList_plain hgd fun K hK' => ?_
  obtain ⟨es, c, h1, h2⟩ := h
  obtain ⟨r, r1, r2, r3⟩ := find_key xs hl w es.toList ks hk h2
  have hrun : (Instr.lookup 106 (.map (some b)) (.agg (B xs)) true).run Tryz.prog w = .ok (.tuple #[.agg #[], .bool (decide (xs ∈ ks))]) w := by
    have go : (getObj b).run Tryz.prog w = .ok (.map es c) w := by simp [getObj, Sem.run, h1]
    unfold Instr.lookup
    by_cases hmem : xs ∈ ks
    · obtain ⟨j, rfl⟩ := r2 hmem
      simp [run_underlying u_keymap, go, check_path xs _ hl, r1, hmem, Result.andThen]
    · rw [r3 hmem] at r1
      simp [run_underlying u_keymap, go, check_path xs _ hl, r1, hmem, Result.andThen]
  unfold Oper.wp execOp
  simp only [ho, hm, hx, Sem.run_bind, hrun, Result.andThen_ok, Sem.run_pure]
  exact hK' _ _ hK

/-- One key more, that was not among them. -/
theorem wpList_keyPut {ops : Array Oper} {rest : List Oper} {op : Oper} {a : Act} {Q : Exit → Act → World → Prop} (w : World) (hgd : op.guard = none) (m x v : Operand) (ho : op.op = .mapUpdate 106 m x v)
    (b : Nat) (ks : List (List Int)) (xs : List Int) (hm : a.eval m = .map (some b)) (hx : a.eval x = .agg (B xs)) (hv : a.eval v = .agg #[]) (hl : xs.length = 32) (hk : ∀ k ∈ ks, k.length = 32) (hn : xs ∉ ks) (h : KeysAt w b ks)
    (hK : ∀ w', KeysAt w' b (ks ++ [xs]) → w.grownBy w' (some b) → wpList Tryz.prog ops Q rest (a.put op.dst undef) w') : wpList Tryz.prog ops Q (op :: rest) a w := by
  refine wpList_plain hgd fun K hK' => ?_
  have hb := h.lt
  obtain ⟨es, c, h1, h2⟩ := h
  obtain ⟨r, r1, _, r3⟩ := find_key xs hl w es.toList ks hk h2
  rw [r3 hn] at r1
  have hrun : (Instr.mapUpdate 106 (.map (some b)) (.agg (B xs)) (.agg #[])).run Tryz.prog w = .ok () { w with heap := w.heap.setIfInBounds b (.map (es.push { key := .agg (B xs), val := .agg #[], born := c }) (c + 1)) } := by
    unfold Instr.mapUpdate
    have go : (getObj b).run Tryz.prog w = .ok (.map es c) w := by simp [getObj, Sem.run, h1]
    have so : ∀ o, (setObj b o).run Tryz.prog w = .ok () { w with heap := w.heap.setIfInBounds b o } := fun o => by simp [setObj, Sem.run, h1]
    simp [run_underlying u_keymap, go, so, check_path xs _ hl, r1, Result.andThen]
  unfold Oper.wp execOp
  simp only [ho, hm, hx, hv, Sem.run_bind, hrun, Result.andThen_ok, Sem.run_pure]
  refine hK' _ _ (hK _ ⟨es.push { key := .agg (B xs), val := .agg #[], born := c }, c + 1, by simp [hb], by simp [h2]⟩ ⟨rfl, rfl, rfl, by simp, fun k _ hne => ?_⟩)
  have : b ≠ k := fun e => hne (by rw [e])
  simp [this]

end Go.Proofs.YtpihigcnoifcfaaGreatDoor

/- node.mayBe, as a contract. -/
namespace Go.Proofs.YtpihigcnoifcfaaGreatDoor
set_option maxRecDepth 20000
open Go.RowKit

theorem size_unit : (Tryz.prog.info? 107).map (·.size) = some (#[] : Array Value).size := by kernel_rfl

theorem built_unit : Tryz.prog.built 107 [] = some #[] := by kernel_rfl

theorem wpList_mkmap {ops : Array Oper} {rest : List Oper} {op : Oper} {a : Act} {Q : Exit → Act → World → Prop} (w : World) (hgd : op.guard = none) (x : Operand) (ho : op.op = .makeMap 106 (some x))
    (n : Int) (hx : a.eval x = .int .i64 n)
    (hk : ∀ w' g, w.heap.size ≤ g → KeysAt w' g [] → Below w.heap.size w w' → wpList Tryz.prog ops Q rest (a.put op.dst (.map (some g))) w') : wpList Tryz.prog ops Q (op :: rest) a w := by
  refine wpList_plain hgd fun K hK => ?_
  unfold Oper.wp execOp
  simp only [ho]
  simp [Instr.makeMap, hx, run_underlying u_keymap, asInt]
  exact hK _ _ (hk _ w.heap.size (Nat.le_refl _) (KeysAt.new w) (grow_alloc w _))

theorem KeysAt.kept {w w' : World} {b g : Nat} {ks : List (List Int)} (h : KeysAt w b ks) (hg : w.grownBy w' (some g)) (hne : b ≠ g) : KeysAt w' b ks := by
  have hl := h.lt
  obtain ⟨es, c, h1, h2⟩ := h
  exact ⟨es, c, (hg.block b hl (fun e => hne (by injection e))).trans h1, h2⟩

set_option maxRecDepth 100000 in
set_option maxHeartbeats 8000000 in
theorem mayBe_any (v : Value) (V : Nat → Value) (es : List Ent) (w : World) (hv : PrAt w v V es) (hn : es.length ≤ 140737488355328) :
    Calls Tryz.prog 31 #[v] w fun e w' => e = .returned (.int .i64 (errB es)) ∧ Below w.heap.size w w' := by
  obtain ⟨a, cap, rfl, hcap, hc, hr⟩ := hv
  by_cases hbig : 4096 < es.length
  · have hE : errB es = 4 := by rw [errB, if_pos hbig]
    rw [hE]
    have hb : (4096 : Int) < (es.length : Int) := by omega
    clear hc hr hcap hbig hE
    go_enter Tryz.func31, Tryz.ntmps31
    go_wp2
    go_ret
    exact ⟨rfl, Below.refl _ _⟩
  · have HE : Hid (errB es = lsE [] es) := by show _ = _; rw [errB, if_neg hbig]
    have HC := hidden hc
    have HR := hidden hr
    have hb : ¬ (4096 : Int) < (es.length : Int) := by omega
    obtain ⟨n, hnn⟩ : ∃ n, n = es.length := ⟨_, rfl⟩
    have HN := hidden hnn
    obtain ⟨E, hE⟩ : ∃ E, E = errB es := ⟨_, rfl⟩
    rw [← hE] at HE ⊢
    rw [← hnn] at hb hn ⊢
    clear hc hr hcap hbig hnn hE
    go_enter Tryz.func31, Tryz.ntmps31
    go_wp2_with (first
      | (refine wpList_mkmap _ rfl _ rfl _ rfl ?_; intro w1 gm hgm hk0 b1))
    have HGM := hidden hgm
    have HK0 := hidden hk0
    clear hgm hk0
    go_loopw [16] (fun i wr => ∃ k : Nat, k ≤ n ∧ i = .int .i64 k ∧ Hid (KeysAt wr gm ((es.take k).map (·.1))) ∧ Hid (E = lsE ((es.take k).map (·.1)) (es.drop k)) ∧ Below w.heap.size w wr) (fun i _ => n - (intOf i).toNat)
    case atStart => exact ⟨0, by omega, rfl, HK0, HE, b1⟩
    case round =>
      obtain ⟨k, hk, rfl, hks, hls, hbw⟩ := hrel
      by_cases hlt : k < n
      · have hlt' : k < es.length := by rw [← HN.out]; exact hlt
        obtain ⟨g, off, rfl, hcc⟩ := HC.out (by omega)
        have z1 : (k : Int) < (n : Int) := by omega
        have z0 : (0 : Int) ≤ (k : Int) := by omega
        obtain ⟨hkey, hrd⟩ := HR.out k hlt'
        have HRG : Hid (wr.rangeAt g (off + k * 33) (encP (es.getD k e00).1 (V k))) := rng_grow (hcc k hlt') hbw
        have hst := lsE_step ((es.take k).map (·.1)) es k hlt'
        rw [← hls.out] at hst
        have HKT := hidden (keys_take es k hlt')
        have HKL : Hid (∀ q ∈ (es.take k).map (·.1), q.length = 32) := by
          intro q hq
          obtain ⟨x, hx, rfl⟩ := List.mem_map.1 hq
          obtain ⟨j, hj, rfl⟩ := List.mem_iff_getElem.1 (List.mem_of_mem_take hx)
          have := (HR.out j hj).1.1
          simpa [List.getD, hj] using this
        obtain ⟨va, vc, hV, _, _, _, _⟩ := hrd
        obtain ⟨K, hK⟩ : ∃ K, K = (es.getD k e00).1 := ⟨_, rfl⟩
        obtain ⟨L, hL⟩ : ∃ L, L = (es.getD k e00).2.length := ⟨_, rfl⟩
        rw [← hK, ← hL] at hst
        rw [← hK] at HKT HRG hkey
        rw [← hL] at hV
        rw [hV] at HRG
        have HKY := hidden hkey
        obtain ⟨ks, hksd⟩ : ∃ ks, ks = (es.take k).map (·.1) := ⟨_, rfl⟩
        rw [← hksd] at hst hks HKL HKT
        have hsz : (Tryz.prog.info? 45).map (·.size) = some (encP K (.slice va L vc)).toArray.size := by rw [List.size_toArray, encP_length K _ HKY.out.1]; exact size_pair
        have hsz2 : (encP z32 (.slice none 0 0)).toArray.size = (encP K (.slice va L vc)).toArray.size := by rw [List.size_toArray, List.size_toArray, encP_length K _ HKY.out.1]; rfl
        have HSZ := hidden hsz
        have HSZ2 := hidden hsz2
        clear hcc hls hK hL hV hkey hksd hsz hsz2 hlt'
        by_cases hlong : 1024 < L
        · rw [if_pos hlong] at hst
          have hl2 : (1024 : Int) < (L : Int) := by omega
          have HSTT := hidden hst
          clear hst hlong
          go_wp2_with (first
            | ((with_reducible refine at_ldd 19 18 ?_); refine wpList_ldp _ rfl _ rfl g (off + k * 33) K _ rfl HRG.out HKY.out.1 ?_)
            | ((with_reducible refine at_ald 5 ?_); refine wpList_al _ rfl _ rfl _ zero_pair ?_; intro w2 g5 hg5 hl5 B5 q5)
            | ((with_reducible refine at_st 5 ?_); refine wpList_sto _ rfl _ _ _ rfl g5 _ _ rfl rfl B5 HSZ.out HSZ2.out (encP_one _ _ _ _) ?_; intro w3 B6 r6; have q6 := below_row q5 r6 hg5; have ckv := pair_val B6 HKY.out.1))
          go_ret
          exact ⟨by rw [HSTT.out]; rfl, grow_trans hbw q6⟩
        · rw [if_neg hlong] at hst
          have hl2 : ¬ (1024 : Int) < (L : Int) := by omega
          by_cases hmem : K ∈ ks
          · rw [if_pos hmem] at hst
            have hdd : decide (K ∈ ks) = true := decide_eq_true hmem
            have HSTT := hidden hst
            clear hst hlong hmem
            go_wp2_with (first
              | ((with_reducible refine at_ldd 19 18 ?_); refine wpList_ldp _ rfl _ rfl g (off + k * 33) K _ rfl HRG.out HKY.out.1 ?_)
              | ((with_reducible refine at_ald 5 ?_); refine wpList_al _ rfl _ rfl _ zero_pair ?_; intro w2 g5 hg5 hl5 B5 q5)
              | ((with_reducible refine at_st 5 ?_); refine wpList_sto _ rfl _ _ _ rfl g5 _ _ rfl rfl B5 HSZ.out HSZ2.out (encP_one _ _ _ _) ?_; intro w3 B6 r6; have q6 := below_row q5 r6 hg5; have ckv := pair_val B6 HKY.out.1)
              | ((with_reducible refine at_ldd 27 26 ?_); refine wpList_ldk _ rfl _ rfl g5 0 K rfl (pair_key B6) HKY.out.1 ?_)
              | (refine wpList_look _ rfl _ _ rfl gm ks K rfl rfl HKY.out.1 HKL.out (hks.out.grow q6) ?_)
              | ((with_reducible refine at_ald 6 ?_); refine wpList_al _ rfl _ rfl _ zero_unit ?_; intro w4 g6 hg6 hl6 B7 q7))
            go_ret
            exact ⟨by rw [HSTT.out]; rfl, grow_trans (grow_trans hbw q6) q7⟩
          · rw [if_neg hmem] at hst
            have hdd : decide (K ∈ ks) = false := decide_eq_false hmem
            have HSTT := hidden hst
            have HMEM := hidden hmem
            clear hst hlong hmem
            go_wp2_with (first
              | ((with_reducible refine at_ldd 19 18 ?_); refine wpList_ldp _ rfl _ rfl g (off + k * 33) K _ rfl HRG.out HKY.out.1 ?_)
              | ((with_reducible refine at_ald 5 ?_); refine wpList_al _ rfl _ rfl _ zero_pair ?_; intro w2 g5 hg5 hl5 B5 q5)
              | ((with_reducible refine at_st 5 ?_); refine wpList_sto _ rfl _ _ _ rfl g5 _ _ rfl rfl B5 HSZ.out HSZ2.out (encP_one _ _ _ _) ?_; intro w3 B6 r6; have q6 := below_row q5 r6 hg5; have ckv := pair_val B6 HKY.out.1)
              | ((with_reducible refine at_ldd 27 26 ?_); refine wpList_ldk _ rfl _ rfl g5 0 K rfl (pair_key B6) HKY.out.1 ?_)
              | (refine wpList_look _ rfl _ _ rfl gm ks K rfl rfl HKY.out.1 HKL.out (hks.out.grow q6) ?_)
              | ((with_reducible refine at_ald 6 ?_); refine wpList_al _ rfl _ rfl _ zero_unit ?_; intro w4 g6 hg6 hl6 B7 q7)
              | ((with_reducible refine at_ldd 34 33 ?_); refine wpList_ldk _ rfl _ rfl g5 0 K rfl (pair_key (B6.grow q7)) HKY.out.1 ?_)
              | ((with_reducible refine at_bdd 35 ?_); refine wpList_bld _ rfl _ _ rfl _ (by rw [List.map_toArray]; exact built_unit) ?_)
              | (refine wpList_keyPut _ rfl _ _ _ rfl gm ks K rfl rfl rfl HKY.out.1 HKL.out HMEM.out ((hks.out.grow q6).grow q7) ?_; intro w6 K6 r9))
            have hbel : Below w.heap.size w w6 := below_row (grow_trans (grow_trans hbw q6) q7) r9 HGM.out
            exact ⟨⟨k + 1, by omega, by go_num, by rw [HKT.out]; exact K6, by rw [HKT.out]; exact HSTT.out, hbel⟩, by simp [intOf]; omega⟩
      · have hkn : k = es.length := by rw [← HN.out]; omega
        have HZ : Hid (E = 0) := by
          show _ = _
          rw [hls.out, hkn, List.drop_of_length_le (Nat.le_refl _)]
          rfl
        have z1 : ¬ (k : Int) < (n : Int) := by omega
        clear hls hks
        go_wp2
        go_ret
        exact ⟨by rw [HZ.out]; rfl, hbw⟩

end Go.Proofs.YtpihigcnoifcfaaGreatDoor

/- Worlds that have but grown: draws, and new blocks; path.Compare and path.Bit told so; the function that the leaves are sorted by. -/
namespace Go.Proofs.YtpihigcnoifcfaaGreatDoor
set_option maxRecDepth 20000
open Go.RowKit

def Grew (w w' : World) : Prop := ∃ (q : Nat) (os : Array Obj), w' = Go.Sort.grow (w.drewN q) os
theorem Grew.refl (w : World) : Grew w w := ⟨0, #[], by rw [Go.Sort.grow_empty]; rfl⟩
theorem Grew.trans {a b c : World} (h : Grew a b) (k : Grew b c) : Grew a c := by
  obtain ⟨q, os, rfl⟩ := h
  obtain ⟨p, us, rfl⟩ := k
  refine ⟨q + p, os ++ us, ?_⟩
  rw [← Go.Sort.grow_grow]
  simp [Go.Sort.grow, World.drewN, Nat.add_assoc]
theorem Grew.alloc (w : World) (o : Obj) : Grew w (w.alloc o) := ⟨0, #[o], by rw [Go.Sort.alloc_eq_grow]; rfl⟩
theorem Grew.drewN (w : World) (n : Nat) : Grew w (w.drewN n) := ⟨n, #[], by rw [Go.Sort.grow_empty]⟩
theorem Grew.drew (w : World) : Grew w w.drew := Grew.drewN w 1
theorem Grew.below {w w' : World} (h : Grew w w') : Below w.heap.size w w' := by
  obtain ⟨q, os, rfl⟩ := h
  exact ⟨rfl, rfl, rfl, by simp [Go.Sort.grow, World.drewN], fun k hk => Go.Sort.heap_grow_old (w.drewN q) os hk⟩

/-- A new variable that holds a value; the world has grown. -/
theorem wpList_bxG {ops : Array Oper} {rest : List Oper} {op : Oper} {a : Act} {Q : Exit → Act → World → Prop} (w : World) (hgd : op.guard = none) (x : Operand) (ty : TypeId) (ho : op.op = .box ty x)
    (cs : Array Value) (hx : a.eval x = .agg cs)
    (hk : ∀ w' g, w.heap.size ≤ g → Blk w' g ty cs → Grew w w' → wpList Tryz.prog ops Q rest (a.put op.dst (.pointer (some ⟨g, 0, none⟩))) w') : wpList Tryz.prog ops Q (op :: rest) a w := by
  refine wpList_plain hgd fun K hK => ?_
  unfold Oper.wp execOp
  simp [ho, hx, Instr.box, newVar, Value.cells, newRow]
  exact hK _ _ (hk _ w.heap.size (Nat.le_refl _) (Blk.new w ty cs) (Grew.alloc w _))

set_option maxHeartbeats 1000000 in
theorem pcompare_grew (xs ys : List Int) (w : World) (hx : Key xs) (hy : Key ys) : Calls Tryz.prog 34 #[.agg (B xs), .agg (B ys)] w fun e w' => e = .returned (.int .i64 (cmp xs ys)) ∧ Grew w w' := by
  go_enter Tryz.func34, Tryz.ntmps34
  go_wp2_with (first | ((with_reducible refine at_bxd 2 ?_); refine wpList_bxG _ rfl _ _ rfl _ rfl ?_; intro w1 g1 hg1 B1 b1) | ((with_reducible refine at_bxd 3 ?_); refine wpList_bxG _ rfl _ _ rfl _ rfl ?_; intro w2 g2 hg2 B2 b2))
  have c2 := b1.trans b2
  have HC : Hid (∀ w', Below w2.heap.size w2 w' → Calls Tryz.prog 62 #[.slice (some ⟨g1, 0, none⟩) 32 32, .slice (some ⟨g2, 0, none⟩) 32 32] w' fun e w'' => e = .returned (.int .i64 (cmp xs ys)) ∧ w'' = w') :=
    fun w' hw' => compare_any _ _ xs ys w' (((B1.grow b2.below).grow hw').key_reads hx) ((B2.grow hw').key_reads hy)
  clear hx hy
  go_quiet ((go_at_call 62; exact Calls.quiet_of_same (HC.out _ (below_drewN (Below.refl _ _) _))))
  go_wp2
  go_ret
  exact ⟨rfl, c2.trans (Grew.drewN _ _)⟩

set_option maxHeartbeats 1000000 in
theorem bit_grew (xs : List Int) (d : Nat) (w : World) (hx : Key xs) (hd : d < 256) : Calls Tryz.prog 16 #[.agg (B xs), .int .i64 d] w fun e w' => e = .returned (.int .i64 (kb xs d)) ∧ Grew w w' := by
  have HI : Hid (∀ w, Calls Tryz.prog 37 #[.int .i64 (d : Int)] w fun e w' => e = .returned (.bool true) ∧ w' = w) := by
    intro w
    have := isBit_any d w
    rw [decide_eq_true (by omega)] at this
    exact this
  have HW := hidden (bit_word xs hx d)
  have h2 : ((d / 8 : Nat) : Int) < 32 := by omega
  go_enter Tryz.func16, Tryz.ntmps16
  go_wp2_with (first | (go_at_call 37; refine (HI.out _).mono ?_; rintro e w2 ⟨rfl, rfl⟩) | ((with_reducible refine at_bxd 2 ?_); refine wpList_bxG _ rfl _ _ rfl _ rfl ?_; intro w1 g1 hg1 B1 b1; have c1 := B1.bcell (d / 8) (by rw [hx.1]; omega)))
  go_ret
  exact ⟨by rw [HW.out]; rfl, b1⟩

/-- The function that leaves are sorted by. -/
theorem closure_cmp (k k' : Int) (a b c d a' b' c' d' : List Int) (w : World) (h : Nd k a b c d) (h' : Nd k' a' b' c' d') : Calls Tryz.prog 33 #[.agg (B (nd k a b c d)), .agg (B (nd k' a' b' c' d'))] w fun e w' => e = .returned (.int .i64 (cmp a a')) ∧ Grew w w' := by
  have HC : Hid (∀ w', Calls Tryz.prog 34 #[.agg (B a), .agg (B a')] w' fun e w'' => e = .returned (.int .i64 (cmp a a')) ∧ Grew w' w'') := fun w' => pcompare_grew a a' w' ⟨h.la, h.ba⟩ ⟨h'.la, h'.ba⟩
  have S1 : Hid (Seg (nd k a b c d) 1 a) := h.segA
  have S2 : Hid (Seg (nd k' a' b' c' d') 1 a') := h'.segA
  have L1 : Hid ((Tryz.prog.info? 24).map (·.size) = some a.length) := by show _ = _; rw [h.la]; exact sz_path
  have L2 : Hid ((Tryz.prog.info? 24).map (·.size) = some a'.length) := by show _ = _; rw [h'.la]; exact sz_path
  obtain ⟨N, hN⟩ : ∃ N, N = nd k a b c d := ⟨_, rfl⟩
  obtain ⟨M, hM⟩ : ∃ M, M = nd k' a' b' c' d' := ⟨_, rfl⟩
  obtain ⟨r, hr⟩ : ∃ r, r = cmp a a' := ⟨_, rfl⟩
  rw [← hN] at S1 ⊢
  rw [← hM] at S2 ⊢
  rw [← hr] at HC ⊢
  clear h h' hN hM hr
  go_enter Tryz.func33, Tryz.ntmps33
  go_wp2_with (first
    | ((with_reducible refine at_bxd 2 ?_); refine wpList_bxG _ rfl _ _ rfl _ rfl ?_; intro w1 g1 hg1 B1 b1)
    | ((with_reducible refine at_bxd 3 ?_); refine wpList_bxG _ rfl _ _ rfl _ rfl ?_; intro w2 g2 hg2 B2 b2; have B1' := B1.grow b2.below)
    | ((with_reducible refine at_ldd 6 5 ?_); refine wpList_ldm _ rfl _ _ rfl g1 1 _ _ a rfl B1' S1.out _ _ Tryz.underlying24 L1.out ?_)
    | ((with_reducible refine at_ldd 8 7 ?_); refine wpList_ldm _ rfl _ _ rfl g2 1 _ _ a' rfl B2 S2.out _ _ Tryz.underlying24 L2.out ?_)
    | (go_at_call 34; refine (HC.out _).mono ?_; rintro e w3 ⟨rfl, b3⟩))
  go_ret
  exact ⟨rfl, (b1.trans b2).trans b3⟩

end Go.Proofs.YtpihigcnoifcfaaGreatDoor
