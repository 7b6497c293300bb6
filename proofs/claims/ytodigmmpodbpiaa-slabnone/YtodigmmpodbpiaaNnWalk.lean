/- SlabNone's walk: what is no slab answers as none, and nothing that was in memory turns. -/
import Derived.Test.YtodigmmpodbpiaaIterI
import Derived.Test.YtodigmmpodbpiaaAwake
namespace Go.Proofs.Ytodigmmpodbpiaa
set_option maxRecDepth 20000
open Go.RowKit Go.Shelf

attribute [local go_sem] Oper.semAt_some

theorem eql_fn (w : World) (fn : Fn) (x y : Array Value) : (binOp .eql 68 (.func fn x y) .nilFunc).run Try.prog w = .ok (.bool false) w := by
  have h : ∀ d : Nat, (Op.equalIn (d + 1) 68 (.func fn x y) .nilFunc).run Try.prog w = .ok false w := fun d => by
    simp [Op.equalIn, run_underlying Try.underlying68]
  simp only [binOp]
  simp [Op.equal, Op.maxDepth, h 9999]

set_option maxRecDepth 100000 in
set_option maxHeartbeats 4000000 in
theorem none_any (v : Value) (k s x : Int) (w : World) (h : NoI w v) : Calls Try.prog 11 #[v, .agg #[.int .i64 k, .int .i64 s, .int .i64 x]] w fun e w' => e = .returned (.bool true) ∧ Below w.heap.size w w' := by
  refine (callsIn_wide (n := 4)).1 ?_
  have HN : Hid (∀ w', Below w.heap.size w w' → NoI w' v) := fun w' hb => by
    rcases h with h | ⟨g, h1, h2⟩
    · exact .inl h
    · exact .inr ⟨g, h1, below_cell hb h2⟩
  have f1 : Fence.wide.fn 24 := trivial
  have f2 : Fence.wide.fn 28 := trivial
  have f3 : Fence.wide.fn 30 := trivial
  have f4 : Fence.wide.fn 42 := trivial
  have f5 : Fence.wide.fn 26 := trivial
  have f6 : Fence.wide.fn 34 := trivial
  have f7 : Fence.wide.fn 32 := trivial
  have f8 : Fence.wide.fn 39 := trivial
  have f9 : Fence.wide.fn 21 := trivial
  have f0 : Fence.wide.fn 36 := trivial
  clear h
  refine callsIn_of_wp_marks Try.func11 rfl trivial ?_ rfl
  simp only [Try.ntmps11, List.size_toArray, List.length_cons, List.length_nil, Nat.reduceAdd, Nat.reduceSub, Array.replicate_succ, Array.replicate_zero, List.push_toArray, List.append_toArray, List.nil_append, List.cons_append]
  have hb0 := grow_alloc w (.cells #[Value.int .i64 k, .int .i64 s, .int .i64 x] 34)
  have HB0 := hidden hb0
  clear hb0
  have hfn := eql_fn
  gi_wp2_with (first
    | (gi_at_call 24; refine (callsIn_wide.2 (take_noI v x _ (HN.out _ HB0.out))).mono ?_; rintro e w' ⟨rfl, hx⟩; rw [hx]; clear hx w')
    | (gi_at_call 28; refine (callsIn_wide.2 (drop_noI v s _ (HN.out _ HB0.out))).mono ?_; rintro e w' ⟨rfl, hx⟩; rw [hx]; clear hx w')
    | (gi_at_call 30; refine (callsIn_wide.2 (get_noI v s _ (HN.out _ HB0.out))).mono ?_; rintro e w' ⟨rfl, hx⟩; rw [hx]; clear hx w')
    | (gi_at_call 42; refine (callsIn_wide.2 (all_noI v _ (HN.out _ HB0.out))).mono ?_; rintro e w1 ⟨b3, b4, rfl, hA, b1⟩))
  have hb1 := grow_trans HB0.out b1
  have hA2 := ((Blk.new w 34 #[Value.int .i64 k, .int .i64 s, .int .i64 x]).grow b1).grow (grow_alloc w1 (.cells #[Value.int .i64 0] 3))
  have hbA := grow_alloc w1 (.cells #[Value.int .i64 0] 3)
  refine wpIn_rangeFunc_ownG rfl (by omega) (gf := 57) (lb := #[.pointer (some ⟨b3, 0, none⟩), .pointer (some ⟨b4, 0, none⟩)]) rfl trivial (enters_of Try.func57 (by kernel_rfl) rfl)
    (iter_stops Fence.wide (4 - 1) trivial rfl (by omega) _ b3 b4 [] [] (by simp) w1 _ hA hbA) belowK_t (belowK_b hbA.size) (Below.refl _ _) (fun _ => rfl)
    (fun pre W => (W.cell? ⟨w1.heap.size, 0, none⟩ = some (.int .i64 0) ∧ W.cell? ⟨w.heap.size, 1, none⟩ = some (.int .i64 s) ∧ W.cell? ⟨w.heap.size, 2, none⟩ = some (.int .i64 x)) ∧ Below w.heap.size w W)
    (fun _ _ _ => False)
    (OwnFrom.and (Own.from (fun s A B row hs hg hr => ⟨cell_kept hs.1 hg hr, cell_kept hs.2.1 hg hr, cell_kept hs.2.2 hg hr⟩) _) (ownFrom_below (Nat.le_refl _) (by have := hb1.size; have := hbA.size; omega)))
    (fun _ _ _ _ _ hs _ _ => hs)
    ⟨⟨by rw [(Blk.new w1 3 #[Value.int .i64 0]).cell]; rfl, by rw [hA2.cell]; rfl, by rw [hA2.cell]; rfl⟩, grow_trans hb1 hbA⟩
    (fun y => { tmps := #[v, Value.agg #[Value.int IntKind.i64 k, Value.int IntKind.i64 s, Value.int IntKind.i64 x], undef, Value.pointer (some { block := w.heap.size, off := 0 }), Value.bool false, Value.int IntKind.i64 0, Value.int IntKind.i64 1, Value.bool false, Value.int IntKind.i64 1, Value.int IntKind.i64 0, Value.int IntKind.i64 1, Value.pointer (some { block := w1.heap.size, off := 0 }), Value.func (Fn.func 57) #[] #[Value.pointer (some { block := b3, off := 0 }), Value.pointer (some { block := b4, off := 0 })], Value.tuple #[Value.int IntKind.i64 0, Value.int IntKind.i64 1], v, Value.pointer (some { block := w.heap.size, off := 2 }), Value.int IntKind.i64 x, Value.tuple #[Value.int IntKind.i64 0, Value.int IntKind.i64 1], Value.int IntKind.i64 0, Value.int IntKind.i64 1, Value.tuple #[Value.bool false, Value.int IntKind.i64 1], v, Value.pointer (some { block := w.heap.size, off := 1 }), Value.int IntKind.i64 s, Value.tuple #[Value.bool false, Value.int IntKind.i64 1], Value.bool false, Value.int IntKind.i64 1, Value.tuple #[Value.int IntKind.i64 0, Value.int IntKind.i64 1], v, Value.pointer (some { block := w.heap.size, off := 1 }), Value.int IntKind.i64 s, Value.tuple #[Value.int IntKind.i64 0, Value.int IntKind.i64 1], Value.int IntKind.i64 0, Value.int IntKind.i64 1, v, Value.func (Fn.func 57) #[] #[Value.pointer (some { block := b3, off := 0 }), Value.pointer (some { block := b4, off := 0 })], Value.func (Fn.func 57) #[] #[Value.pointer (some { block := b3, off := 0 }), Value.pointer (some { block := b4, off := 0 })], Value.bool false, Value.func (Fn.func 57) #[] #[Value.pointer (some { block := b3, off := 0 }), Value.pointer (some { block := b4, off := 0 })], Value.int .i64 y.1, Value.int .i64 y.2, undef, undef, undef, undef, undef, undef, undef, undef, undef, undef, undef, undef, undef, undef, undef, undef, undef, undef, undef, undef, undef, undef, undef, undef, undef, undef, undef, undef, undef, undef, undef, undef, undef, undef, undef, undef, undef, undef, undef, undef, undef, undef, undef, undef, undef, undef, undef, undef, undef, undef, undef, undef, undef, undef, undef, undef, undef, undef, undef, undef, undef, undef, undef, undef, undef, undef, undef], defers := [] }) ?assign ?body ?done ?stop
  case assign =>
    intro l y W K hK
    gi_wp2
    exact hK
  case body =>
    rintro l pre y W _ hlt
    exact absurd hlt (by simp)
  case done =>
    rintro D ys W hD rfl ⟨⟨hc, hc1, hc2⟩, hB⟩ hK
    gi_wp2_with (first
      | (gi_at_call 26; refine (callsIn_wide.2 (hold_noI v s _ (HN.out _ hB))).mono ?_; rintro e w' ⟨rfl, hx⟩; rw [hx]; clear hx w')
      | (gi_at_call 34; refine (callsIn_wide.2 (set_noI v s x _ (HN.out _ hB))).mono ?_; rintro e w' ⟨rfl, hx⟩; rw [hx]; clear hx w')
      | (gi_at_call 32; refine (callsIn_wide.2 (count_noI v s _ (HN.out _ hB))).mono ?_; rintro e w' ⟨rfl, hx⟩; rw [hx]; clear hx w')
      | (gi_at_call 39; refine (callsIn_wide.2 (len_noI v _ (HN.out _ hB))).mono ?_; rintro e w' ⟨rfl, hx⟩; rw [hx]; clear hx w')
      | (gi_at_call 21; refine (callsIn_wide.2 (room_noI v _ (HN.out _ hB))).mono ?_; rintro e w' ⟨rfl, hx⟩; rw [hx]; clear hx w')
      | (gi_at_call 36; refine (callsIn_wide.2 (slots_noI v _ (HN.out _ hB))).mono ?_; rintro e w' ⟨rfl, hx⟩; rw [hx]; clear hx w'))
    refine ⟨by simp, .inl ⟨_, _, rfl, run_takeDeferred hK, ?_⟩⟩
    exact ⟨_, results_tmp rfl _ _ _, rfl, hB.trans (belowK_b (w := w) (Nat.le_refl _) W D _ _ (by have := hb1.size; have := hbA.size; omega) hK rfl rfl)⟩
  case stop =>
    rintro D c pre W _ _ h _
    exact h.elim

set_option maxHeartbeats 4000000 in
theorem slabNone_walk (k s x : Int) (w : World) : Calls Try.prog 4 #[.agg #[.int .i64 k, .int .i64 s, .int .i64 x]] w fun e w' => e = .returned (.bool true) ∧ Below w.heap.size w w' := by
  have hA := Blk.new w 34 #[Value.int .i64 k, .int .i64 s, .int .i64 x]
  have HA : Hid (∀ w', Below (w.alloc (.cells #[Value.int .i64 k, .int .i64 s, .int .i64 x] 34)).heap.size (w.alloc (.cells #[Value.int .i64 k, .int .i64 s, .int .i64 x] 34)) w' → w'.cell? ⟨w.heap.size, 0, none⟩ = some (.int .i64 k) ∧ w'.cell? ⟨w.heap.size, 1, none⟩ = some (.int .i64 s) ∧ w'.cell? ⟨w.heap.size, 2, none⟩ = some (.int .i64 x)) := fun w' hb => by
    have := hA.grow hb
    exact ⟨by rw [this.cell]; rfl, by rw [this.cell]; rfl, by rw [this.cell]; rfl⟩
  have HB0 := hidden (grow_alloc w (.cells #[Value.int .i64 k, .int .i64 s, .int .i64 x] 34))
  clear hA
  go_enter Try.func4, Try.ntmps4
  go_wp2_with (first
    | (go_at_call 11; have mk := mk1; clear mk; refine (none_any (.pointer (some ⟨w1.heap.size, 0, none⟩)) k s x _ (.inr ⟨_, rfl, by rw [(Blk.new w1 41 _).cell]; rfl⟩)).mono ?_; rintro e w2 ⟨rfl, b2⟩; have HB2 := hidden (grow_trans (grow_trans HB1.out (grow_alloc w1 _)) b2))
    | (go_at_call 11; refine (none_any (.pointer none) k s x _ (.inl rfl)).mono ?_; rintro e w1 ⟨rfl, b1⟩; have HB1 := hidden (grow_trans HB0.out b1); obtain ⟨q0, q1, q2⟩ := HA.out _ b1; obtain ⟨r0, r1, r2⟩ := HA.out _ (grow_trans b1 (grow_alloc w1 (.cells #[Value.pointer none, .int .i64 0, .slice none 0 0, .slice none 0 0] 41))); have mk1 : Hid True := trivial)
    | (go_at_call 12; refine (awake_any _).mono ?_; rintro e w3 ⟨rfl, b3⟩; have HB3 := hidden (grow_trans HB2.out b3)))
  go_ret
  exact ⟨rfl, HB3.out⟩

end Go.Proofs.Ytodigmmpodbpiaa
