/- Arrays by value: laws for their whole loads, stores and literals beside ShaMem's, and arrays held against each other. -/
import Derived.Test.YtjcklpdifanjlaaDoorOr03
import Derived.Laws.ResultCell
import Derived.ChangeKeysEq
import Derived.Laws.StructEq
import Derived.BigQuiet
import Derived.Deep.QuietTactic
import Derived.Test.YtjcklpdifanjlaaDoorOr06
import Derived.Laws.Cover3
namespace Go.Proofs.YtjcklpdifanjlaaDoor
set_option maxRecDepth 20000
open Go.RowKit

/-- store of a whole array, the world behind it told by what it holds. -/
theorem wpList_sto {ops : Array Oper} {rest : List Oper} {op : Oper} {a : Act} {Q : Exit → Act → World → Prop} (w : World) (hgd : op.guard = none) (x y : Operand) (ty : TypeId) (ho : op.op = .store ty x y)
    (g : Nat) (cs cs' : Array Value) (hx : a.eval x = .pointer (some ⟨g, 0, none⟩)) (hy : a.eval y = .agg cs') (h : Blk w g ty cs) (hi : (Tryd.prog.info? ty).map (·.size) = some cs'.size) (hs : cs.size = cs'.size) (h1 : cs'.all (·.oneCell') = true)
    (hk : ∀ w', Blk w' g ty cs' → w.grownBy w' (some g) → wpList Tryd.prog ops Q rest (a.put op.dst undef) w') : wpList Tryd.prog ops Q (op :: rest) a w :=
  wpList_st w hgd x y ty ho g cs cs' hx hy h hi hs h1 (hk _ (h.row cs') ⟨rfl, rfl, rfl, by simp, fun k _ hk => setRow_other w g k _ (fun e => hk (by simp [e]))⟩)

theorem Blk.kept {w w' : World} {g g' : Nat} {t : TypeId} {cs : Array Value} (h : Blk w g t cs) (hg : w.grownBy w' (some g')) (hne : g ≠ g') : Blk w' g t cs := h.of_block (hg.block g h.lt (fun e => hne (by injection e)))

/-- A composite literal. -/
theorem wpList_bld {ops : Array Oper} {rest : List Oper} {op : Oper} {a : Act} {Q : Exit → Act → World → Prop} (w : World) (hgd : op.guard = none) (ty : TypeId) (parts : Array (Nat × Operand)) (ho : op.op = .build ty parts)
    (cs : Array Value) (h : Tryd.prog.built ty (parts.map fun (i, x) => (i, a.eval x)).toList = some cs)
    (hk : wpList Tryd.prog ops Q rest (a.put op.dst (.agg cs)) w) : wpList Tryd.prog ops Q (op :: rest) a w := by
  refine wpList_build hgd ty parts ho (by rw [h]; rfl) ?_
  rw [h]
  exact hk

/-- store of a whole array, in a region that draws its order. -/
theorem step_sto {ops : Array Oper} {o : Oper} {a : Act} {K : Act → World → Prop} {Q : Exit → Act → World → Prop} {E : Prop} (w : World) (hgd : o.guard = none) (x y : Operand) (ty : TypeId) (ho : o.op = .store ty x y)
    (g : Nat) (cs cs' : Array Value) (hx : a.eval x = .pointer (some ⟨g, 0, none⟩)) (hy : a.eval y = .agg cs') (h : Blk w g ty cs) (hi : (Tryd.prog.info? ty).map (·.size) = some cs'.size) (hs : cs.size = cs'.size) (h1 : cs'.all (·.oneCell') = true)
    (hk : ∀ w', Blk w' g ty cs' → w.grownBy w' (some g) → K (a.put o.dst undef) w') : if Region.wanted o (yielded ops a.tmps) = true then Oper.wp Tryd.prog o a w K Q else E := by
  have hw : Region.wanted o (yielded ops a.tmps) = true := by simp [Region.wanted, hgd]
  rw [if_pos hw]
  unfold Oper.wp execOp
  simp only [ho, hx, hy, Instr.storeAt, Instr.sureAddr, Sem.run_bind, Sem.run_pure, Result.andThen_ok, run_storeVar_row w g ty ty cs cs' h hi hs h1]
  exact hk _ (h.row cs') ⟨rfl, rfl, rfl, by simp, fun k _ hk => setRow_other w g k _ (fun e => hk (by simp [e]))⟩

theorem results_row_tmp {fn : Func} {p u : Tmp} {ty : TypeId} (h : fn.results = #[.cell p ty, .tmp u]) (tmps : Array Value) (w : World) (g : Nat) (cs : Array Value) (n : Nat) (el : TypeId) (x : Value) (hp : tmps.getD p undef = .pointer (some ⟨g, 0, none⟩)) (hx : tmps.getD u undef = x) (hg : Blk w g ty cs)
    (hu : Tryd.prog.underlying ty = some (.array n el)) (hi : (Tryd.prog.info? ty).map (·.size) = some cs.size) :
    (results fn tmps).run Tryd.prog w = .ok (.tuple #[.agg cs, x]) w := by
  rw [results_cell_tmp h, hp, hx]
  simp [asAddr, run_loadVar_row w g ty ty cs (0, 0) _ hg hu rfl hi]

/-- load of a whole array, where its guard says yes. -/
theorem wpList_ldg {ops : Array Oper} {rest : List Oper} {op : Oper} {a : Act} {Q : Exit → Act → World → Prop} (w : World) (hgd : Region.wanted op (yielded ops a.tmps) = true) (x : Operand) (ty : TypeId) (ho : op.op = .load ty x)
    (g : Nat) (cs : Array Value) (hx : a.eval x = .pointer (some ⟨g, 0, none⟩)) (h : Blk w g ty cs) (n : Nat) (e : TypeId) (hu : Tryd.prog.underlying ty = some (.array n e)) (hi : (Tryd.prog.info? ty).map (·.size) = some cs.size)
    (hk : wpList Tryd.prog ops Q rest (a.put op.dst (.agg cs)) w) : wpList Tryd.prog ops Q (op :: rest) a w := by
  refine BigFrame.wpList_want hgd fun K hK => ?_
  unfold Oper.wp execOp
  simp only [ho, hx, Instr.loadAt, Instr.sureAddr, Sem.run_bind, Sem.run_pure, Result.andThen_ok, h.load n e hu hi]
  exact hK _ _ hk

theorem cellsOf_byte : Tryd.prog.cellsOf 5 = 1 := by kernel_rfl

theorem items_eq {e : TypeId} {k : IntKind} (he : Tryd.prog.underlying e = some (.int k)) (hagg : ∀ w, (isAgg e).run Tryd.prog w = .ok false w) (d : Nat) (zs us : List Int) (xs ys : Array Value) (hx : ∀ i, i < zs.length → xs[i]? = some (.int k (zs.getD i 0))) (hy : ∀ i, i < us.length → ys[i]? = some (.int k (us.getD i 0))) (w : World) :
    ∀ is : List Nat, (∀ i ∈ is, i < zs.length ∧ i < us.length) → (Op.eqItems (d + 1) e 1 xs ys is).run Tryd.prog w = .ok (is.all fun i => zs.getD i 0 == us.getD i 0) w
  | [], _ => by simp [Op.eqItems]
  | i :: is, h => by
    have h1 := hx i (h i (by simp)).1
    have h2 := hy i (h i (by simp)).2
    have hp : (part e xs (i * 1)).run Tryd.prog w = .ok (.int k (zs.getD i 0)) w := by
      rw [Nat.mul_one]
      unfold part
      rw [Sem.run_bind, hagg w]
      simp only [Result.andThen_ok, Bool.false_eq_true, if_false, h1, Sem.run_pure]
    have hq : (part e ys (i * 1)).run Tryd.prog w = .ok (.int k (us.getD i 0)) w := by
      rw [Nat.mul_one]
      unfold part
      rw [Sem.run_bind, hagg w]
      simp only [Result.andThen_ok, Bool.false_eq_true, if_false, h2, Sem.run_pure]
    have he2 := run_equalIn_int (P := Tryd.prog) (w := w) d e k k (zs.getD i 0) (us.getD i 0) he
    have ih := items_eq he hagg d zs us xs ys hx hy w is (fun j hj => h j (by simp [hj]))
    simp only [Op.eqItems, Sem.run_bind, hp, hq, Result.andThen_ok, he2, List.all_cons]
    by_cases hb : zs.getD i 0 == us.getD i 0
    · rw [hb]
      simp only [Bool.not_true, Bool.false_eq_true, if_false, Bool.true_and]
      exact ih
    · rw [Bool.eq_false_iff.2 hb]
      simp

theorem all_same (n : Nat) (xs ys : List Int) (hx : xs.length = n) (hy : ys.length = n) : ((List.range n).all fun i => xs.getD i 0 == ys.getD i 0) = decide (xs = ys) := by
  rw [Bool.eq_iff_iff, List.all_eq_true, decide_eq_true_iff]
  constructor
  · intro h
    apply List.ext_getElem (by omega)
    intro i h1 h2
    have := h i (by simpa [hx] using h1)
    simpa [List.getD, h1, h2] using this
  · rintro rfl i _
    simp

theorem arr_eq {t : TypeId} (ht : Tryd.prog.underlying t = some (.array 32 5)) (xs ys : List Int) (hx : xs.length = 32) (hy : ys.length = 32) (w : World) : (Op.equalIn 10000 t (.agg (B xs)) (.agg (B ys))).run Tryd.prog w = .ok (decide (xs = ys)) w := by
  obtain ⟨i, hi⟩ : ∃ i, Tryd.prog.info? 5 = some i := ⟨_, rfl⟩
  rw [show (10000 : Nat) = 9998 + 1 + 1 from rfl, run_equalIn_array (P := Tryd.prog) w (9998 + 1) (B xs) (B ys) ht hi, cellsOf_byte,
    items_eq u_byte Tryd.isAgg5 9998 xs ys (B xs) (B ys) (fun i hi => B_get xs i hi) (fun i hi => B_get ys i hi) w _ (fun i hi => by rw [hx, hy]; simpa using hi), all_same 32 xs ys hx hy]

theorem hash_eq (xs ys : List Int) (hx : xs.length = 32) (hy : ys.length = 32) (w : World) : (Op.equalIn 10000 25 (.agg (B xs)) (.agg (B ys))).run Tryd.prog w = .ok (decide (xs = ys)) w := arr_eq Tryd.underlying25 xs ys hx hy w

theorem path_eq (xs ys : List Int) (hx : xs.length = 32) (hy : ys.length = 32) (w : World) : (Op.equalIn 10000 24 (.agg (B xs)) (.agg (B ys))).run Tryd.prog w = .ok (decide (xs = ys)) w := arr_eq Tryd.underlying24 xs ys hx hy w

theorem b32_eq (xs ys : List Int) (hx : xs.length = 32) (hy : ys.length = 32) (w : World) : (Op.equalIn 10000 23 (.agg (B xs)) (.agg (B ys))).run Tryd.prog w = .ok (decide (xs = ys)) w := arr_eq Tryd.underlying23 xs ys hx hy w

end Go.Proofs.YtjcklpdifanjlaaDoor

/- path.isBit, isDepth, Of, Bytes, Bit, Compare, as contracts. -/
namespace Go.Proofs.YtjcklpdifanjlaaDoor
set_option maxRecDepth 20000
open Go.RowKit

theorem zero_path : ∀ w, (zeroValue 24).run Tryd.prog w = .ok (.agg (B (List.replicate 32 0))) w := Tryd.zeroValue24
theorem size_path : (Tryd.prog.info? 24).map (·.size) = some 32 := by kernel_rfl
theorem u_path : Tryd.prog.underlying 24 = some (.array 32 5) := Tryd.underlying24

set_option maxHeartbeats 400000 in
theorem isBit_any (d : Int) (w : World) : Calls Tryd.prog 69 #[.int .i64 d] w fun e w' => e = .returned (.bool (decide (0 ≤ d ∧ d < 256))) ∧ w' = w := by
  by_cases h0 : 0 ≤ d
  · by_cases h1 : d < 256
    · have e : decide (0 ≤ d ∧ d < 256) = true := decide_eq_true ⟨h0, h1⟩
      rw [e]
      go_enter Tryd.func69, Tryd.ntmps69
      go_wp2
      go_ret
      exact ⟨rfl, rfl⟩
    · have e : decide (0 ≤ d ∧ d < 256) = false := decide_eq_false (fun h => h1 h.2)
      rw [e]
      go_enter Tryd.func69, Tryd.ntmps69
      go_wp2
      go_ret
      exact ⟨rfl, rfl⟩
  · have e : decide (0 ≤ d ∧ d < 256) = false := decide_eq_false (fun h => h0 h.1)
    rw [e]
    go_enter Tryd.func69, Tryd.ntmps69
    go_wp2
    go_ret
    exact ⟨rfl, rfl⟩

set_option maxHeartbeats 400000 in
theorem isDepth_any (d : Int) (w : World) : Calls Tryd.prog 95 #[.int .i64 d] w fun e w' => e = .returned (.bool (decide (0 ≤ d ∧ d ≤ 256))) ∧ w' = w := by
  by_cases h0 : 0 ≤ d
  · by_cases h1 : d ≤ 256
    · have e : decide (0 ≤ d ∧ d ≤ 256) = true := decide_eq_true ⟨h0, h1⟩
      rw [e]
      go_enter Tryd.func95, Tryd.ntmps95
      go_wp2
      go_ret
      exact ⟨rfl, rfl⟩
    · have e : decide (0 ≤ d ∧ d ≤ 256) = false := decide_eq_false (fun h => h1 h.2)
      rw [e]
      go_enter Tryd.func95, Tryd.ntmps95
      go_wp2
      go_ret
      exact ⟨rfl, rfl⟩
  · have e : decide (0 ≤ d ∧ d ≤ 256) = false := decide_eq_false (fun h => h0 h.1)
    rw [e]
    go_enter Tryd.func95, Tryd.ntmps95
    go_wp2
    go_ret
    exact ⟨rfl, rfl⟩

theorem and_one (y : Int) (hy : 0 ≤ y ∧ y ≤ 255) : bits .and .u8 y 1 = y % 2 := by
  obtain ⟨n, hn, rfl⟩ := nat_of y hy
  have := u8_and_nat n 1 hn (by omega)
  rw [Nat.and_one_is_mod] at this
  rw [show (1 : Int) = ((1 : Nat) : Int) from rfl, this]
  omega

theorem shr_byte (y : Int) (hy : 0 ≤ y ∧ y ≤ 255) (k : Nat) : 0 ≤ y / 2 ^ k ∧ y / 2 ^ k ≤ 255 :=
  ⟨Int.ediv_nonneg hy.1 (Int.pow_nonneg (by omega)), Int.le_trans (Int.ediv_le_self _ hy.1) hy.2⟩

theorem bit_word (xs : List Int) (hx : Key xs) (d : Nat) : wrap64 (bits .and .u8 (xs[d / 8]?.getD 0 / 2 ^ (7 - d % 8)) 1) = kb xs d := by
  have h := shr_byte _ (hx.byte (d / 8)) (7 - d % 8)
  have e : xs[d / 8]?.getD 0 = xs.getD (d / 8) 0 := by simp [List.getD]
  rw [e, and_one _ h, Go.IntWalk.wrap64_in _ (by omega)]
  rfl

set_option maxHeartbeats 1000000 in
theorem bit_in (xs : List Int) (d : Nat) (w : World) (hx : Key xs) (hd : d < 256) : Calls Tryd.prog 37 #[.agg (B xs), .int .i64 d] w fun e w' => e = .returned (.int .i64 (kb xs d)) ∧ Below w.heap.size w w' := by
  have HI : Hid (∀ w, Calls Tryd.prog 69 #[.int .i64 (d : Int)] w fun e w' => e = .returned (.bool true) ∧ w' = w) := by
    intro w
    have := isBit_any d w
    rw [decide_eq_true (by omega)] at this
    exact this
  have HW := hidden (bit_word xs hx d)
  have h2 : ((d / 8 : Nat) : Int) < 32 := by omega
  go_enter Tryd.func37, Tryd.ntmps37
  go_wp2_with (first | (go_at_call 69; refine (HI.out _).mono ?_; rintro e w2 ⟨rfl, rfl⟩) | (refine wpList_bx _ rfl _ _ rfl _ rfl ?_; intro w1 g1 hg1 hl1 B1 b1; have c1 := B1.bcell (d / 8) (by rw [hx.1]; omega)))
  go_ret
  exact ⟨by rw [HW.out]; rfl, b1⟩

set_option maxHeartbeats 1000000 in
theorem bit_out (v : Value) (cs : Array Value) (hv : v = .agg cs) (d : Int) (w : World) (hd : ¬ (0 ≤ d ∧ d < 256)) : Calls Tryd.prog 37 #[v, .int .i64 d] w fun e w' => e = .returned (.int .i64 (-1)) ∧ Below w.heap.size w w' := by
  subst hv
  have HI : Hid (∀ w, Calls Tryd.prog 69 #[.int .i64 d] w fun e w' => e = .returned (.bool false) ∧ w' = w) := by
    intro w
    have := isBit_any d w
    rw [decide_eq_false hd] at this
    exact this
  clear hd
  go_enter Tryd.func37, Tryd.ntmps37
  go_wp2_with (first | (go_at_call 69; refine (HI.out _).mono ?_; rintro e w2 ⟨rfl, rfl⟩) | (refine wpList_bx _ rfl _ _ rfl _ rfl ?_; intro w1 g1 hg1 hl1 B1 b1))
  go_ret
  exact ⟨rfl, b1⟩

theorem Blk.key_reads {w : World} {g : Nat} {xs : List Int} (h : Blk w g 24 (B xs)) (hx : Key xs) : Reads w (.slice (some ⟨g, 0, none⟩) 32 32) xs := by
  have e : (.slice (some ⟨g, 0, none⟩) 32 32 : Value) = .slice (some ⟨g, 0, none⟩) xs.length 32 := by rw [hx.1]
  rw [e]
  refine ⟨_, _, rfl, by rw [hx.1]; omega, fun h => by simp at h, hx.2, fun _ => ⟨g, 0, rfl, fun i hi => ?_⟩⟩
  rw [Nat.zero_add]
  exact h.bcell i hi

set_option maxHeartbeats 1000000 in
theorem pcompare_any (xs ys : List Int) (w : World) (hx : Key xs) (hy : Key ys) : Calls Tryd.prog 79 #[.agg (B xs), .agg (B ys)] w fun e w' => e = .returned (.int .i64 (cmp xs ys)) ∧ Below w.heap.size w w' := by
  go_enter Tryd.func79, Tryd.ntmps79
  go_wp2_with (first | (have hz := hl1; clear hz; refine wpList_bx _ rfl _ _ rfl _ rfl ?_; intro w2 g2 hg2 hl2 B2 b2) | (refine wpList_bx _ rfl _ _ rfl _ rfl ?_; intro w1 g1 hg1 hl1 B1 b1))
  have c2 := grow_trans b1 b2
  have HC : Hid (∀ w', Below w2.heap.size w2 w' → Calls Tryd.prog 94 #[.slice (some ⟨g1, 0, none⟩) 32 32, .slice (some ⟨g2, 0, none⟩) 32 32] w' fun e w'' => e = .returned (.int .i64 (cmp xs ys)) ∧ w'' = w') :=
    fun w' hw' => compare_any _ _ xs ys w' (((B1.grow b2).grow hw').key_reads hx) ((B2.grow hw').key_reads hy)
  clear hx hy
  go_quiet ((go_at_call 94; exact Calls.quiet_of_same (HC.out _ (below_drewN (Below.refl _ _) _))))
  go_wp2
  go_ret
  exact ⟨rfl, below_drewN c2 _⟩

/-- What a call leaves that tells a key, and an error's number. -/
def KeyPost (p : List Int → Prop) (n : Int) (w : World) (e : Ending) (w' : World) : Prop := ∃ ys, p ys ∧ e = .returned (.tuple #[.agg (B ys), .int .i64 n]) ∧ Below w.heap.size w w'

theorem key_zero : Key (List.replicate 32 0) := ⟨by simp, fun z hz => by have := List.eq_of_mem_replicate hz; omega⟩

end Go.Proofs.YtjcklpdifanjlaaDoor
