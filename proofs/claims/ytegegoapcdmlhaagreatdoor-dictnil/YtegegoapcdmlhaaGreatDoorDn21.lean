/- Versions that are none: made, Store, Names (moved out of VeA). -/
import Derived.Test.YtegegoapcdmlhaaGreatDoorDn20
import Derived.Test.YtegegoapcdmlhaaGreatDoorDn04
namespace Go.Proofs.YtegegoapcdmlhaaGreatDoor
set_option maxRecDepth 20000
open Go.RowKit

set_option maxHeartbeats 400000 in
theorem vmade_no (v : Value) (w : World) (h : NoS w v) : Calls Tryz.prog 193 #[v] w fun e w' => e = .returned (.bool false) ∧ w' = w := by
  have hq := fun a => eql_none (P := Tryz.prog) w a Tryz.underlying97
  rcases h with rfl | ⟨g, rfl, hc⟩
  all_goals
    go_enter Tryz.func193, Tryz.ntmps193
    go_wp2
    go_ret
    exact ⟨rfl, rfl⟩

set_option maxHeartbeats 400000 in
theorem vstore_no (v : Value) (w : World) (h : NoS w v) : Calls Tryz.prog 119 #[v] w fun e w' => e = .returned (.pointer none) ∧ w' = w := by
  have HM := hidden (vmade_no v w h)
  clear h
  go_enter Tryz.func119, Tryz.ntmps119
  go_wp2_with (go_at_call 193; refine HM.out.mono ?_; rintro e w' ⟨rfl, hx⟩; rw [hx]; clear hx w')
  go_ret
  exact ⟨rfl, rfl⟩

set_option maxHeartbeats 400000 in
theorem vnames_no (v : Value) (w : World) (h : NoS w v) : Calls Tryz.prog 120 #[v] w fun e w' => e = .returned (.slice none 0 0) ∧ w' = w := by
  have HM := hidden (vmade_no v w h)
  clear h
  go_enter Tryz.func120, Tryz.ntmps120
  go_wp2_with (go_at_call 193; refine HM.out.mono ?_; rintro e w' ⟨rfl, hx⟩; rw [hx]; clear hx w')
  go_ret
  exact ⟨rfl, rfl⟩

end Go.Proofs.YtegegoapcdmlhaaGreatDoor

/- A dictionary that is none, or that nobody made: what each call answers. -/
namespace Go.Proofs.YtegegoapcdmlhaaGreatDoor
set_option maxRecDepth 20000
open Go.RowKit

theorem zero_rq : ∀ w, (zeroValue 194).run Tryz.prog w = .ok (.agg #[.pointer none, .string ⟨#[]⟩, .slice none 0 0, .slice none 0 0]) w := fun w => by kernel_rfl
theorem size_rq : (Tryz.prog.info? 194).map (·.size) = some 4 := by kernel_rfl

set_option maxHeartbeats 400000 in
theorem made_no (v : Value) (w : World) (h : NoS w v) : Calls Tryz.prog 192 #[v] w fun e w' => e = .returned (.bool false) ∧ w' = w := by
  have hq := fun a => eql_none (P := Tryz.prog) w a Tryz.underlying62
  rcases h with rfl | ⟨g, rfl, c0⟩
  all_goals
    go_enter Tryz.func192, Tryz.ntmps192
    go_wp2
    go_ret
    exact ⟨rfl, rfl⟩

set_option maxHeartbeats 400000 in
theorem notMade_no (v : Value) (w : World) (r : Nat) (hr : w.cell? ⟨r, 0, none⟩ = some v) (h : NoS w v) : Calls Tryz.prog 125 #[.pointer (some ⟨r, 0, none⟩)] w fun e w' => e = .returned (.int .i64 1) ∧ w' = w := by
  have HM := hidden (made_no v w h)
  clear h
  go_enter Tryz.func125, Tryz.ntmps125
  go_wp2_with (go_at_call 192; refine HM.out.mono ?_; rintro e w' ⟨rfl, hx⟩; rw [hx]; clear hx w')
  go_ret
  exact ⟨rfl, rfl⟩

set_option maxHeartbeats 1000000 in
theorem first_no {v : Value} {w : World} (g n c r : Nat) (hc : w.cell? ⟨g, 0, none⟩ = some (.func (.func 125) #[.pointer (some ⟨r, 0, none⟩)] #[])) (hr : w.cell? ⟨r, 0, none⟩ = some v) (h : NoS w v) : Calls Tryz.prog 124 #[.slice (some ⟨g, 0, none⟩) (n + 1) c] w fun e w' => e = .returned (.int .i64 1) ∧ w' = w := by
  have HM := hidden (notMade_no v w r hr h)
  have k1 : (0 : Int) < ((n : Int) + 1) := by omega
  clear h hr
  go_enter Tryz.func124, Tryz.ntmps124
  go_wp2_with fail
  go_loopw [8] (fun iv wr => iv = .int .i64 0 ∧ wr = w) (fun _ _ => 0)
  case atStart => exact ⟨rfl, rfl⟩
  case round =>
    obtain ⟨rfl, rfl⟩ := hrel
    go_wp2_with (go_at_call 125; refine HM.out.mono ?_; rintro e w' ⟨rfl, hx⟩; rw [hx]; clear hx w')
    go_ret
    exact ⟨rfl, rfl⟩

set_option maxHeartbeats 1000000 in
theorem refused_no (v : Value) (w : World) (h : NoS w v) (a : Option Addr) (n c : Nat) : Calls Tryz.prog 129 #[v, .slice a n c] w fun e w' => e = .returned (.int .i64 1) ∧ Below w.heap.size w w' := by
  have HV : Hid (∀ w', Below w.heap.size w w' → NoS w' v) := fun w' hb => h.grow hb
  obtain ⟨p, rfl⟩ : ∃ p, v = .pointer p := by rcases h with e | ⟨_, e, _⟩ <;> exact ⟨_, e⟩
  have HBU : Hid (Tryz.prog.built 194 [(0, .pointer p), (3, .slice a n c)] = some #[.pointer p, .string ⟨#[]⟩, .slice none 0 0, .slice a n c]) := by rfl
  clear h
  go_enter Tryz.func129, Tryz.ntmps129
  go_wp2_with (first
    | ((with_reducible refine at_bdd 8 ?_); refine wpList_bld _ rfl _ _ rfl _ (by rw [List.map_toArray]; exact HBU.out) ?_)
    | ((with_reducible refine at_ald 5 ?_); refine wpList_al _ rfl _ rfl _ zero_rq ?_; intro w1 r hg1 hl1 B1 q1; have HG1 := hidden hg1; have HQ1 := hidden q1; clear hg1 hl1 q1)
    | ((with_reducible refine at_st 5 ?_); refine wpList_sto _ rfl _ _ _ rfl r _ #[.pointer p, .string ⟨#[]⟩, .slice none 0 0, .slice a n c] rfl rfl B1 size_rq rfl (by simp [Value.oneCell']) ?_; intro w2 B2 r2; have HB2 := hidden B2; have HQ2 := hidden (below_row HQ1.out r2 HG1.out); clear B1 B2 r2)
    | (go_at_call 124; refine (first_no _ _ _ r (by rw [Blk.cell (Blk.new _ _ _)]; rfl) (by rw [(HB2.out.grow (grow_alloc _ _)).cell]; rfl) (HV.out _ (grow_trans HQ2.out (grow_alloc _ _)))).mono ?_; rintro e w3 ⟨rfl, hx⟩; have HQ3 := hidden (hx ▸ grow_trans HQ2.out (grow_alloc _ _)); clear hx))
  go_ret
  exact ⟨rfl, HQ3.out⟩

set_option maxHeartbeats 1000000 in
theorem handle_no (v : Value) (s : ByteArray) (w : World) (h : NoS w v) : Calls Tryz.prog 55 #[v, .string s] w fun e w' => e = .returned (.tuple #[.int .i64 0, .int .i64 1]) ∧ Below w.heap.size w w' := by
  have HV : Hid (∀ w', Below w.heap.size w w' → NoS w' v) := fun w' hb => h.grow hb
  obtain ⟨p, rfl⟩ : ∃ p, v = .pointer p := by rcases h with e | ⟨_, e, _⟩ <;> exact ⟨_, e⟩
  have HBU : Hid (Tryz.prog.built 194 [(0, .pointer p), (1, .string s)] = some #[.pointer p, .string s, .slice none 0 0, .slice none 0 0]) := by rfl
  clear h
  go_enter Tryz.func55, Tryz.ntmps55
  go_wp2_with (first
    | ((with_reducible refine at_bdd 10 ?_); refine wpList_bld _ rfl _ _ rfl _ (by rw [List.map_toArray]; exact HBU.out) ?_)
    | ((with_reducible refine at_ald 6 ?_); refine wpList_al _ rfl _ rfl _ zero_rq ?_; intro w1 r hg1 hl1 B1 q1; have HG1 := hidden hg1; have HQ1 := hidden q1; clear hg1 hl1 q1)
    | ((with_reducible refine at_st 6 ?_); refine wpList_sto _ rfl _ _ _ rfl r _ #[.pointer p, .string s, .slice none 0 0, .slice none 0 0] rfl rfl B1 size_rq rfl (by simp [Value.oneCell']) ?_; intro w2 B2 r2; have HB2 := hidden B2; have HQ2 := hidden (below_row HQ1.out r2 HG1.out); clear B1 B2 r2)
    | (go_at_call 124; refine (first_no _ _ _ r (by rw [Blk.cell (Blk.new _ _ _)]; rfl) (by rw [(HB2.out.grow (grow_alloc _ _)).cell]; rfl) (HV.out _ (grow_trans HQ2.out (grow_alloc _ _)))).mono ?_; rintro e w3 ⟨rfl, hx⟩; have HQ3 := hidden (hx ▸ grow_trans HQ2.out (grow_alloc _ _)); clear hx))
  go_ret2
  exact ⟨rfl, HQ3.out⟩

set_option maxHeartbeats 1000000 in
theorem snapshot_no (v : Value) (s : ByteArray) (w : World) (h : NoS w v) : Calls Tryz.prog 53 #[v, .string s] w fun e w' => e = .returned (.int .i64 1) ∧ Below w.heap.size w w' := by
  have HV : Hid (∀ w', Below w.heap.size w w' → NoS w' v) := fun w' hb => h.grow hb
  obtain ⟨p, rfl⟩ : ∃ p, v = .pointer p := by rcases h with e | ⟨_, e, _⟩ <;> exact ⟨_, e⟩
  have HBU : Hid (Tryz.prog.built 194 [(0, .pointer p), (1, .string s)] = some #[.pointer p, .string s, .slice none 0 0, .slice none 0 0]) := by rfl
  clear h
  go_enter Tryz.func53, Tryz.ntmps53
  go_wp2_with (first
    | ((with_reducible refine at_bdd 9 ?_); refine wpList_bld _ rfl _ _ rfl _ (by rw [List.map_toArray]; exact HBU.out) ?_)
    | ((with_reducible refine at_ald 5 ?_); refine wpList_al _ rfl _ rfl _ zero_rq ?_; intro w1 r hg1 hl1 B1 q1; have HG1 := hidden hg1; have HQ1 := hidden q1; clear hg1 hl1 q1)
    | ((with_reducible refine at_st 5 ?_); refine wpList_sto _ rfl _ _ _ rfl r _ #[.pointer p, .string s, .slice none 0 0, .slice none 0 0] rfl rfl B1 size_rq rfl (by simp [Value.oneCell']) ?_; intro w2 B2 r2; have HB2 := hidden B2; have HQ2 := hidden (below_row HQ1.out r2 HG1.out); clear B1 B2 r2)
    | (go_at_call 124; refine (first_no _ _ _ r (by rw [Blk.cell (Blk.new _ _ _)]; rfl) (by rw [(HB2.out.grow (grow_alloc _ _)).cell]; rfl) (HV.out _ (grow_trans HQ2.out (grow_alloc _ _)))).mono ?_; rintro e w3 ⟨rfl, hx⟩; have HQ3 := hidden (hx ▸ grow_trans HQ2.out (grow_alloc _ _)); clear hx))
  go_ret
  exact ⟨rfl, HQ3.out⟩

set_option maxHeartbeats 1000000 in
theorem rollback_no (v : Value) (s : ByteArray) (w : World) (h : NoS w v) : Calls Tryz.prog 54 #[v, .string s] w fun e w' => e = .returned (.int .i64 1) ∧ Below w.heap.size w w' := by
  have HV : Hid (∀ w', Below w.heap.size w w' → NoS w' v) := fun w' hb => h.grow hb
  obtain ⟨p, rfl⟩ : ∃ p, v = .pointer p := by rcases h with e | ⟨_, e, _⟩ <;> exact ⟨_, e⟩
  have HBU : Hid (Tryz.prog.built 194 [(0, .pointer p), (1, .string s)] = some #[.pointer p, .string s, .slice none 0 0, .slice none 0 0]) := by rfl
  clear h
  go_enter Tryz.func54, Tryz.ntmps54
  go_wp2_with (first
    | ((with_reducible refine at_bdd 12 ?_); refine wpList_bld _ rfl _ _ rfl _ (by rw [List.map_toArray]; exact HBU.out) ?_)
    | ((with_reducible refine at_ald 5 ?_); refine wpList_al _ rfl _ rfl _ zero_rq ?_; intro w1 r hg1 hl1 B1 q1; have HG1 := hidden hg1; have HQ1 := hidden q1; clear hg1 hl1 q1)
    | ((with_reducible refine at_st 5 ?_); refine wpList_sto _ rfl _ _ _ rfl r _ #[.pointer p, .string s, .slice none 0 0, .slice none 0 0] rfl rfl B1 size_rq rfl (by simp [Value.oneCell']) ?_; intro w2 B2 r2; have HB2 := hidden B2; have HQ2 := hidden (below_row HQ1.out r2 HG1.out); clear B1 B2 r2)
    | (go_at_call 124; refine (first_no _ _ _ r (by rw [Blk.cell (Blk.new _ _ _)]; rfl) (by rw [(HB2.out.grow (grow_alloc _ _)).cell]; rfl) (HV.out _ (grow_trans HQ2.out (grow_alloc _ _)))).mono ?_; rintro e w3 ⟨rfl, hx⟩; have HQ3 := hidden (hx ▸ grow_trans HQ2.out (grow_alloc _ _)); clear hx))
  go_ret
  exact ⟨rfl, HQ3.out⟩

set_option maxHeartbeats 1000000 in
theorem prune_no (v : Value) (s : ByteArray) (w : World) (h : NoS w v) : Calls Tryz.prog 48 #[v, .string s] w fun e w' => e = .returned (.int .i64 1) ∧ Below w.heap.size w w' := by
  have HV : Hid (∀ w', Below w.heap.size w w' → NoS w' v) := fun w' hb => h.grow hb
  obtain ⟨p, rfl⟩ : ∃ p, v = .pointer p := by rcases h with e | ⟨_, e, _⟩ <;> exact ⟨_, e⟩
  have HBU : Hid (Tryz.prog.built 194 [(0, .pointer p), (1, .string s)] = some #[.pointer p, .string s, .slice none 0 0, .slice none 0 0]) := by rfl
  clear h
  go_enter Tryz.func48, Tryz.ntmps48
  go_wp2_with (first
    | ((with_reducible refine at_bdd 11 ?_); refine wpList_bld _ rfl _ _ rfl _ (by rw [List.map_toArray]; exact HBU.out) ?_)
    | ((with_reducible refine at_ald 5 ?_); refine wpList_al _ rfl _ rfl _ zero_rq ?_; intro w1 r hg1 hl1 B1 q1; have HG1 := hidden hg1; have HQ1 := hidden q1; clear hg1 hl1 q1)
    | ((with_reducible refine at_st 5 ?_); refine wpList_sto _ rfl _ _ _ rfl r _ #[.pointer p, .string s, .slice none 0 0, .slice none 0 0] rfl rfl B1 size_rq rfl (by simp [Value.oneCell']) ?_; intro w2 B2 r2; have HB2 := hidden B2; have HQ2 := hidden (below_row HQ1.out r2 HG1.out); clear B1 B2 r2)
    | (go_at_call 124; refine (first_no _ _ _ r (by rw [Blk.cell (Blk.new _ _ _)]; rfl) (by rw [(HB2.out.grow (grow_alloc _ _)).cell]; rfl) (HV.out _ (grow_trans HQ2.out (grow_alloc _ _)))).mono ?_; rintro e w3 ⟨rfl, hx⟩; have HQ3 := hidden (hx ▸ grow_trans HQ2.out (grow_alloc _ _)); clear hx))
  go_ret
  exact ⟨rfl, HQ3.out⟩

end Go.Proofs.YtegegoapcdmlhaaGreatDoor

/- A dictionary that is none: the calls that write, and those that tell of a key. -/
namespace Go.Proofs.YtegegoapcdmlhaaGreatDoor
set_option maxRecDepth 20000
open Go.RowKit

theorem results_tmp_row_tmp {fn : Func} {u1 p u2 : Tmp} {ty : TypeId} (h : fn.results = #[.tmp u1, .cell p ty, .tmp u2]) (tmps : Array Value) (w : World) (g : Nat) (cs : Array Value) (n : Nat) (el : TypeId) (x y : Value) (hx : tmps.getD u1 undef = x) (hp : tmps.getD p undef = .pointer (some ⟨g, 0, none⟩)) (hy : tmps.getD u2 undef = y) (hg : Blk w g ty cs)
    (hu : Tryz.prog.underlying ty = some (.array n el)) (hi : (Tryz.prog.info? ty).map (·.size) = some cs.size) : (results fn tmps).run Tryz.prog w = .ok (.tuple #[x, .agg cs, y]) w := by
  have hp' : tmps[p]?.getD undef = .pointer (some ⟨g, 0, none⟩) := by simpa using hp
  have hx' : tmps[u1]?.getD undef = x := by simpa using hx
  have hy' : tmps[u2]?.getD undef = y := by simpa using hy
  simp [results, h, hp', hx', hy', asAddr, run_loadVar_row w g ty ty cs (0, 0) _ hg hu rfl hi]

theorem info_raw : ∃ i z, Tryz.prog.info? 200 = some i ∧ i.zero = some z ∧ i.size = 3 ∧ i.bytes = 56 ∧ z.cells.size = 3 := ⟨_, _, rfl, rfl, rfl, rfl, rfl⟩

/-- []api.Raw{x}. -/
theorem wpList_bsr {ops : Array Oper} {rest : List Oper} {op : Oper} {a : Act} {Q : Exit → Act → World → Prop} (w : World) (hgd : op.guard = none) (x : Operand) (ho : op.op = .buildSlice 68 1 #[(0, x)])
    (X : List Value) (hx : a.eval x = .agg X.toArray) (hl : X.length = 3)
    (hk : ∀ w' g, Below w.heap.size w w' → wpList Tryz.prog ops Q rest (a.put op.dst (.slice (some ⟨g, 0, none⟩) 1 1)) w') : wpList Tryz.prog ops Q (op :: rest) a w := by
  refine wpList_plain hgd fun K hK => ?_
  obtain ⟨i, z, hi, hz, hs, _, hzs⟩ := info_raw
  have hrun := run_buildSlice (P := Tryz.prog) w 68 200 1 #[(0, .agg X.toArray)] X.toArray i z Tryz.underlying68 hi hz (by rw [hs]; omega) (by rw [hs]; omega) (by
    rw [hs]
    obtain ⟨zs, hzz, hzl⟩ : ∃ zs : List Value, (Array.range (1 * 3)).map (z.cells[· % z.cells.size]!) = zs.toArray ∧ zs.length = 3 := ⟨_, (Array.toArray_toList).symm, by simp⟩
    rw [hzz]
    have := fill_one (fun i => some (i * 3, 3)) 0 0 3 (.agg X.toArray) X zs [] rfl rfl hl (by omega)
    rw [show (#[(0, Value.agg X.toArray)] : Array (Nat × Value)).toList = [(0, Value.agg X.toArray)] from rfl, this, Instr.fill]
    simp [hzl])
  unfold Oper.wp execOp
  simp only [ho, List.map_toArray, List.map_cons, List.map_nil, hx, Sem.run_bind, hrun, Result.andThen_ok, Sem.run_pure]
  exact hK _ _ (hk _ w.heap.size (grow_alloc w _))

set_option maxHeartbeats 1000000 in
theorem dput_no (v : Value) (w : World) (h : NoS w v) (a1 a2 : Option Addr) (n1 c1 n2 c2 : Nat) : Calls Tryz.prog 51 #[v, .slice a1 n1 c1, .slice a2 n2 c2] w fun e w' => e = .returned (.int .i64 1) ∧ Below w.heap.size w w' := by
  have HR : Hid (∀ w' a n c, Below w.heap.size w w' → Calls Tryz.prog 129 #[v, .slice a n c] w' fun e w'' => e = .returned (.int .i64 1) ∧ Below w'.heap.size w' w'') := fun w' a n c hb => refused_no v w' (h.grow hb) a n c
  have HBU : Hid (Tryz.prog.built 200 [(0, .slice a1 n1 c1), (2, .slice a2 n2 c2)] = some [.slice a1 n1 c1, .bool false, .slice a2 n2 c2].toArray) := by rfl
  clear h
  go_enter Tryz.func51, Tryz.ntmps51
  go_wp2_with (first
    | ((with_reducible refine at_bdd 13 ?_); refine wpList_bld _ rfl _ _ rfl _ (by rw [List.map_toArray]; exact HBU.out) ?_; refine wpList_bsr _ rfl _ rfl [.slice a1 n1 c1, .bool false, .slice a2 n2 c2] rfl rfl ?_; intro w1 g1 b1; have HQ1 := hidden b1; clear b1)
    | (go_at_call 129; refine (HR.out _ _ _ _ HQ1.out).mono ?_; rintro e w2 ⟨rfl, b2⟩; have HQ2 := hidden (grow_trans HQ1.out b2); clear b2))
  go_ret
  exact ⟨rfl, HQ2.out⟩

set_option maxHeartbeats 1000000 in
theorem ddelete_no (v : Value) (w : World) (h : NoS w v) (a1 : Option Addr) (n1 c1 : Nat) : Calls Tryz.prog 52 #[v, .slice a1 n1 c1] w fun e w' => e = .returned (.tuple #[.bool false, .int .i64 1]) ∧ Below w.heap.size w w' := by
  have HR : Hid (∀ w' a n c, Below w.heap.size w w' → Calls Tryz.prog 129 #[v, .slice a n c] w' fun e w'' => e = .returned (.int .i64 1) ∧ Below w'.heap.size w' w'') := fun w' a n c hb => refused_no v w' (h.grow hb) a n c
  have HBU : Hid (Tryz.prog.built 200 [(0, .slice a1 n1 c1), (1, .bool true)] = some [.slice a1 n1 c1, .bool true, .slice none 0 0].toArray) := by rfl
  clear h
  go_enter Tryz.func52, Tryz.ntmps52
  go_wp2_with (first
    | ((with_reducible refine at_bdd 14 ?_); refine wpList_bld _ rfl _ _ rfl _ (by rw [List.map_toArray]; exact HBU.out) ?_; refine wpList_bsr _ rfl _ rfl [.slice a1 n1 c1, .bool true, .slice none 0 0] rfl rfl ?_; intro w1 g1 b1; have HQ1 := hidden b1; clear b1)
    | (go_at_call 129; refine (HR.out _ _ _ _ HQ1.out).mono ?_; rintro e w2 ⟨rfl, b2⟩; have HQ2 := hidden (grow_trans HQ1.out b2); clear b2))
  go_ret2
  exact ⟨rfl, HQ2.out⟩

set_option maxHeartbeats 1000000 in
theorem dbatch_no (v : Value) (w : World) (h : NoS w v) (a1 : Option Addr) (n1 c1 : Nat) : Calls Tryz.prog 56 #[v, .slice a1 n1 c1] w fun e w' => e = .returned (.int .i64 1) ∧ Below w.heap.size w w' := by
  have HR := hidden (refused_no v w h a1 n1 c1)
  clear h
  go_enter Tryz.func56, Tryz.ntmps56
  go_wp2_with (go_at_call 129; refine HR.out.mono ?_; rintro e w2 ⟨rfl, b2⟩; have HQ2 := hidden b2; clear b2)
  go_ret
  exact ⟨rfl, HQ2.out⟩

set_option maxHeartbeats 1000000 in
theorem place_no (v : Value) (s : ByteArray) (w : World) (h : NoS w v) (a : Option Addr) (n c : Nat) : Calls Tryz.prog 121 #[v, .string s, .slice a n c] w fun e w' => e = .returned (.tuple #[.int .i64 0, .agg (B z32), .int .i64 1]) ∧ Below w.heap.size w w' := by
  have HV : Hid (∀ w', Below w.heap.size w w' → NoS w' v) := fun w' hb => h.grow hb
  obtain ⟨p, rfl⟩ : ∃ p, v = .pointer p := by rcases h with e | ⟨_, e, _⟩ <;> exact ⟨_, e⟩
  have HBU : Hid (Tryz.prog.built 194 [(0, .pointer p), (1, .string s), (2, .slice a n c)] = some #[.pointer p, .string s, .slice a n c, .slice none 0 0]) := by rfl
  have HP0 : Hid (Tryz.prog.built 34 [] = some (B z32)) := by show _ = _; kernel_rfl
  have HPS : Hid ((Tryz.prog.info? 34).map (·.size) = some (B z32).size) := by show _ = _; rw [B_size]; exact size_path
  have HPZ : Hid (∀ w, (zeroValue 34).run Tryz.prog w = .ok (.agg (B z32)) w) := fun w => by kernel_rfl
  clear h
  go_enter Tryz.func121, Tryz.ntmps121
  go_wp2_with (first
    | ((with_reducible refine at_ald 7 ?_); refine wpList_al _ rfl _ rfl _ HPZ.out ?_; intro w0 g7 hg0 hl0 B0 q0; have HG0 := hidden hg0; have HQ0 := hidden q0; have HB0 := hidden B0; have HL0 := hidden hl0; clear hg0 hl0 q0 B0)
    | ((with_reducible refine at_bdd 13 ?_); refine wpList_bld _ rfl _ _ rfl _ (by rw [List.map_toArray]; exact HBU.out) ?_)
    | ((with_reducible refine at_ald 9 ?_); refine wpList_al _ rfl _ rfl _ zero_rq ?_; intro w1 r hg1 hl1 B1 q1; have HG1 := hidden hg1; have HQ1 := hidden (grow_trans HQ0.out q1); have HB01 := hidden (HB0.out.grow q1); clear hl1 q1)
    | ((with_reducible refine at_st 9 ?_); refine wpList_sto _ rfl _ _ _ rfl r _ #[.pointer p, .string s, .slice a n c, .slice none 0 0] rfl rfl B1 size_rq rfl (by simp [Value.oneCell']) ?_; intro w2 B2 r2; have HB2 := hidden B2; have HQ2 := hidden (below_row HQ1.out r2 (Nat.le_trans HQ0.out.size HG1.out)); have HB02 := hidden (HB01.out.kept r2 (fun e => by have := HL0.out; have := HG1.out; omega)); clear B1 B2 r2)
    | (go_at_call 124; refine (first_no _ _ _ r (by rw [Blk.cell (Blk.new _ _ _)]; rfl) (by rw [(HB2.out.grow (grow_alloc _ _)).cell]; rfl) (HV.out _ (grow_trans HQ2.out (grow_alloc _ _)))).mono ?_; rintro e w3 ⟨rfl, hx⟩; have HQ3 := hidden (hx ▸ grow_trans HQ2.out (grow_alloc _ _)); have HB03 := hidden (hx ▸ HB02.out.grow (grow_alloc _ _)); clear hx)
    | (refine wpList_bld _ rfl _ _ rfl (B z32) (by rw [List.map_toArray]; exact HP0.out) ?_)
    | ((with_reducible refine at_st 7 ?_); refine wpList_sto _ rfl _ _ _ rfl g7 _ (B z32) rfl rfl HB03.out HPS.out rfl (B_one _) ?_; intro w4 B4 r4; have HB4 := hidden B4; have HQ4 := hidden (below_row HQ3.out r4 HG0.out); clear B4 r4))
  exact bodyPost_ret (v := .tuple #[.int .i64 0, .agg (B z32), .int .i64 1]) (results_tmp_row_tmp rfl _ _ g7 _ _ _ _ _ rfl rfl rfl HB4.out Tryz.underlying34 HPS.out) rfl ⟨rfl, HQ4.out⟩

set_option maxHeartbeats 1000000 in
theorem dget_no (v : Value) (s : ByteArray) (w : World) (h : NoS w v) (a : Option Addr) (n c : Nat) : Calls Tryz.prog 50 #[v, .string s, .slice a n c] w fun e w' => e = .returned (.tuple #[.slice none 0 0, .bool false, .int .i64 1]) ∧ Below w.heap.size w w' := by
  have HPL := hidden (place_no v s w h a n c)
  have HPS : Hid ((Tryz.prog.info? 34).map (·.size) = some (B z32).size) := by show _ = _; rw [B_size]; exact size_path
  have HPZ : Hid (∀ w, (zeroValue 34).run Tryz.prog w = .ok (.agg (B z32)) w) := fun w => by kernel_rfl
  clear h
  go_enter Tryz.func50, Tryz.ntmps50
  go_wp2_with (first
    | (go_at_call 121; refine HPL.out.mono ?_; rintro e w1 ⟨rfl, q1⟩; have HQ1 := hidden q1; clear q1)
    | ((with_reducible refine at_ald 10 ?_); refine wpList_al _ rfl _ rfl _ HPZ.out ?_; intro w2 g2 hg2 hl2 B2 q2; have HG2 := hidden (Nat.le_trans HQ1.out.size hg2); have HQ2 := hidden (grow_trans HQ1.out q2); clear hg2 hl2 q2)
    | ((with_reducible refine at_st 10 ?_); refine wpList_sto _ rfl _ _ _ rfl g2 _ (B z32) rfl rfl B2 HPS.out rfl (B_one _) ?_; intro w3 B3 r3; have HQ3 := hidden (below_row HQ2.out r3 HG2.out); clear B2 B3 r3))
  go_ret3
  exact ⟨rfl, HQ3.out⟩

set_option maxHeartbeats 1000000 in
theorem dsome_no (v : Value) (s : ByteArray) (w : World) (h : NoS w v) (a : Option Addr) (n c : Nat) (q : Int) : Calls Tryz.prog 46 #[v, .string s, .slice a n c, .int .i64 q] w fun e w' => e = .returned (.tuple #[.slice none 0 0, .int .i64 1]) ∧ Below w.heap.size w w' := by
  have HPL := hidden (place_no v s w h a n c)
  have HPS : Hid ((Tryz.prog.info? 34).map (·.size) = some (B z32).size) := by show _ = _; rw [B_size]; exact size_path
  have HPZ : Hid (∀ w, (zeroValue 34).run Tryz.prog w = .ok (.agg (B z32)) w) := fun w => by kernel_rfl
  clear h
  go_enter Tryz.func46, Tryz.ntmps46
  go_wp2_with (first
    | (go_at_call 121; refine HPL.out.mono ?_; rintro e w1 ⟨rfl, q1⟩; have HQ1 := hidden q1; clear q1)
    | ((with_reducible refine at_ald 11 ?_); refine wpList_al _ rfl _ rfl _ HPZ.out ?_; intro w2 g2 hg2 hl2 B2 q2; have HG2 := hidden (Nat.le_trans HQ1.out.size hg2); have HQ2 := hidden (grow_trans HQ1.out q2); clear hg2 hl2 q2)
    | ((with_reducible refine at_st 11 ?_); refine wpList_sto _ rfl _ _ _ rfl g2 _ (B z32) rfl rfl B2 HPS.out rfl (B_one _) ?_; intro w3 B3 r3; have HQ3 := hidden (below_row HQ2.out r3 HG2.out); clear B2 B3 r3))
  go_ret2
  exact ⟨rfl, HQ3.out⟩

set_option maxHeartbeats 1000000 in
theorem droot_no (v : Value) (s : ByteArray) (w : World) (h : NoS w v) : Calls Tryz.prog 37 #[v, .string s] w fun e w' => e = .returned (.tuple #[.agg (B z32), .int .i64 1]) ∧ Below w.heap.size w w' := by
  have HH : Hid (∀ w', Below w.heap.size w w' → Calls Tryz.prog 55 #[v, .string s] w' fun e w'' => e = .returned (.tuple #[.int .i64 0, .int .i64 1]) ∧ Below w'.heap.size w' w'') := fun w' hb => handle_no v s w' (h.grow hb)
  have HP0 : Hid (Tryz.prog.built 39 [] = some (B z32)) := by show _ = _; kernel_rfl
  have HPS : Hid ((Tryz.prog.info? 39).map (·.size) = some (B z32).size) := by show _ = _; rw [B_size]; exact size_hash
  have HPZ : Hid (∀ w, (zeroValue 39).run Tryz.prog w = .ok (.agg (B z32)) w) := fun w => by kernel_rfl
  clear h
  go_enter Tryz.func37, Tryz.ntmps37
  go_wp2_with (first
    | ((with_reducible refine at_ald 4 ?_); refine wpList_al _ rfl _ rfl _ HPZ.out ?_; intro w0 g4 hg0 hl0 B0 q0; have HG0 := hidden hg0; have HQ0 := hidden q0; have HB0 := hidden B0; clear hg0 hl0 q0 B0)
    | (go_at_call 55; refine (HH.out _ HQ0.out).mono ?_; rintro e w1 ⟨rfl, q1⟩; have HQ1 := hidden (grow_trans HQ0.out q1); have HB1 := hidden (HB0.out.grow q1); clear q1)
    | (refine wpList_bld _ rfl _ _ rfl (B z32) (by rw [List.map_toArray]; exact HP0.out) ?_)
    | ((with_reducible refine at_st 4 ?_); refine wpList_sto _ rfl _ _ _ rfl g4 _ (B z32) rfl rfl HB1.out HPS.out rfl (B_one _) ?_; intro w2 B2 r2; have HB2 := hidden B2; have HQ2 := hidden (below_row HQ1.out r2 HG0.out); clear B2 r2))
  exact bodyPost_ret (v := .tuple #[.agg (B z32), .int .i64 1]) (results_row_tmp rfl _ _ g4 _ _ _ _ rfl rfl HB2.out Tryz.underlying39 HPS.out) rfl ⟨rfl, HQ2.out⟩

set_option maxHeartbeats 1000000 in
theorem dlen_no (v : Value) (s : ByteArray) (w : World) (h : NoS w v) : Calls Tryz.prog 47 #[v, .string s] w fun e w' => e = .returned (.tuple #[.int .i64 0, .int .i64 1]) ∧ Below w.heap.size w w' := by
  have HH := hidden (handle_no v s w h)
  clear h
  go_enter Tryz.func47, Tryz.ntmps47
  go_wp2_with (go_at_call 55; refine HH.out.mono ?_; rintro e w1 ⟨rfl, q1⟩; have HQ1 := hidden q1; clear q1)
  go_ret2
  exact ⟨rfl, HQ1.out⟩

theorem zero_tr : ∀ w, (zeroValue 99).run Tryz.prog w = .ok (.agg #[.pointer none, .int .i64 0]) w := fun w => by kernel_rfl
theorem size_tr : (Tryz.prog.info? 99).map (·.size) = some 2 := by kernel_rfl

set_option maxHeartbeats 1000000 in
theorem all_no (v : Value) (w : World) (h : NoS w v) : Calls Tryz.prog 118 #[v] w fun e w' => e = .returned (.agg #[.pointer none, .int .i64 0]) ∧ Below w.heap.size w w' := by
  have HM : Hid (∀ w', Below w.heap.size w w' → Calls Tryz.prog 192 #[v] w' fun e w'' => e = .returned (.bool false) ∧ w'' = w') := fun w' hb => made_no v w' (h.grow hb)
  have HP0 : Hid (Tryz.prog.built 99 [] = some #[.pointer none, .int .i64 0]) := by show _ = _; kernel_rfl
  obtain ⟨fs, hfs⟩ : ∃ fs, Tryz.prog.underlying 99 = some (.struct fs) := ⟨_, Tryz.underlying99⟩
  have HFS := hidden hfs
  clear h hfs
  go_enter Tryz.func118, Tryz.ntmps118
  go_wp2_with (first
    | ((with_reducible refine at_ald 2 ?_); refine wpList_al _ rfl _ rfl _ zero_tr ?_; intro w0 g2 hg0 hl0 B0 q0; have HG0 := hidden hg0; have HQ0 := hidden q0; have HB0 := hidden B0; clear hg0 hl0 q0 B0)
    | (go_at_call 192; refine (HM.out _ HQ0.out).mono ?_; rintro e w' ⟨rfl, hx⟩; rw [hx]; clear hx w')
    | (refine wpList_bld _ rfl _ _ rfl #[.pointer none, .int .i64 0] (by rw [List.map_toArray]; exact HP0.out) ?_)
    | ((with_reducible refine at_st 2 ?_); refine wpList_sto _ rfl _ _ _ rfl g2 _ #[.pointer none, .int .i64 0] rfl rfl HB0.out size_tr rfl (by simp [Value.oneCell']) ?_; intro w2 B2 r2; have HB2 := hidden B2; have HQ2 := hidden (below_row HQ0.out r2 HG0.out); clear B2 r2))
  exact bodyPost_ret (v := .agg #[.pointer none, .int .i64 0]) (results_cell_row rfl _ _ g2 _ _ _ _ rfl HB2.out HFS.out rfl size_tr) rfl ⟨rfl, HQ2.out⟩

theorem fld_tr (w : World) : (Instr.field 99 (.agg #[.pointer none, .int .i64 0]) 0).run Tryz.prog w = .ok (.pointer none) w := by kernel_rfl

set_option maxHeartbeats 1000000 in
theorem dstore_no (v : Value) (w : World) (h : NoS w v) : Calls Tryz.prog 43 #[v] w fun e w' => e = .returned (.pointer none) ∧ Below w.heap.size w w' := by
  have HA := hidden (all_no v w h)
  have hf := fld_tr
  clear h
  go_enter Tryz.func43, Tryz.ntmps43
  go_wp2_with (first
    | (go_at_call 118; refine HA.out.mono ?_; rintro e w1 ⟨rfl, q1⟩; have HQ1 := hidden q1; clear q1)
    | (go_at_call 119; refine (vstore_no _ _ (.inl rfl)).mono ?_; rintro e w' ⟨rfl, hx⟩; rw [hx]; clear hx w'))
  go_ret
  exact ⟨rfl, HQ1.out⟩

set_option maxHeartbeats 1000000 in
theorem dnames_no (v : Value) (w : World) (h : NoS w v) : Calls Tryz.prog 45 #[v] w fun e w' => e = .returned (.slice none 0 0) ∧ Below w.heap.size w w' := by
  have HA := hidden (all_no v w h)
  have hf := fld_tr
  clear h
  go_enter Tryz.func45, Tryz.ntmps45
  go_wp2_with (first
    | (go_at_call 118; refine HA.out.mono ?_; rintro e w1 ⟨rfl, q1⟩; have HQ1 := hidden q1; clear q1)
    | (go_at_call 120; refine (vnames_no _ _ (.inl rfl)).mono ?_; rintro e w' ⟨rfl, hx⟩; rw [hx]; clear hx w'))
  go_ret
  exact ⟨rfl, HQ1.out⟩

set_option maxHeartbeats 1000000 in
theorem docc_no (v : Value) (w : World) (h : NoS w v) : Calls Tryz.prog 39 #[v] w fun e w' => e = .returned (.int .i64 0) ∧ Below w.heap.size w w' := by
  have HA := hidden (dstore_no v w h)
  clear h
  go_enter Tryz.func39, Tryz.ntmps39
  go_wp2_with (first
    | (go_at_call 43; refine HA.out.mono ?_; rintro e w1 ⟨rfl, q1⟩; have HQ1 := hidden q1; clear q1)
    | (go_at_call 14; refine (occS_no _ _ (.inl rfl)).mono ?_; rintro e w' ⟨rfl, hx⟩; rw [hx]; clear hx w'))
  go_ret
  exact ⟨rfl, HQ1.out⟩

set_option maxHeartbeats 1000000 in
theorem droom_no (v : Value) (w : World) (h : NoS w v) : Calls Tryz.prog 57 #[v] w fun e w' => e = .returned (.int .i64 0) ∧ Below w.heap.size w w' := by
  have HA := hidden (dstore_no v w h)
  clear h
  go_enter Tryz.func57, Tryz.ntmps57
  go_wp2_with (first
    | (go_at_call 43; refine HA.out.mono ?_; rintro e w1 ⟨rfl, q1⟩; have HQ1 := hidden q1; clear q1)
    | (go_at_call 139; refine (roomS_no _ _ (.inl rfl)).mono ?_; rintro e w' ⟨rfl, hx⟩; rw [hx]; clear hx w'))
  go_ret
  exact ⟨rfl, HQ1.out⟩

end Go.Proofs.YtegegoapcdmlhaaGreatDoor
