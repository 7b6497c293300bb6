/- What a store tells, as contracts: made, at, and the calls that tell a node's parts. -/
import Derived.Test.YtkhinjkcfjncgaaGreatDoorKn17
import Derived.Test.YtkhinjkcfjncgaaGreatDoorKn15
import Derived.Test.YtkhinjkcfjncgaaGreatDoorKn04
import Derived.ChangeKeysEq
import Derived.Laws.StructEq
import Derived.KernelRfl
namespace Go.Proofs.YtkhinjkcfjncgaaGreatDoor
set_option maxRecDepth 20000
open Go.RowKit

theorem Stm.c0 {w : World} {g gs : Nat} {vp vf : Value} {room : Nat} {cs : List (Nat × Ce)} {fr : List Nat} (h : Stm w g gs vp vf room cs fr) : w.cell? ⟨g, 0, none⟩ = some (.pointer (some ⟨g, 0, none⟩)) := by rw [h.blk.cell]; rfl
theorem Stm.c1 {w : World} {g gs : Nat} {vp vf : Value} {room : Nat} {cs : List (Nat × Ce)} {fr : List Nat} (h : Stm w g gs vp vf room cs fr) : w.cell? ⟨g, 1, none⟩ = some (.pointer (some ⟨gs, 0, none⟩)) := by rw [h.blk.cell]; rfl

/-- v is no store: it points nowhere, or to one that New did not answer. -/
def NoS (w : World) (v : Value) : Prop := v = .pointer none ∨ ∃ g, v = .pointer (some ⟨g, 0, none⟩) ∧ w.cell? ⟨g, 0, none⟩ = some (.pointer none)
theorem NoS.grow {w w' : World} {v : Value} (h : NoS w v) (hb : Below w.heap.size w w') : NoS w' v := by
  rcases h with h | ⟨g, e, hc⟩
  · exact .inl h
  · exact .inr ⟨g, e, below_cell hb hc⟩

set_option maxHeartbeats 400000 in
theorem madeS_no (v : Value) (w : World) (h : NoS w v) : Calls Tryz.prog 56 #[v] w fun e w' => e = .returned (.bool false) ∧ w' = w := by
  have hq := fun a => eql_none (P := Tryz.prog) w a Tryz.underlying32
  rcases h with rfl | ⟨g, rfl, hc⟩
  all_goals
    go_enter Tryz.func56, Tryz.ntmps56
    go_wp2
    go_ret
    exact ⟨rfl, rfl⟩

set_option maxHeartbeats 400000 in
theorem madeS_ok (g : Nat) (w : World) (hc : w.cell? ⟨g, 0, none⟩ = some (.pointer (some ⟨g, 0, none⟩))) : Calls Tryz.prog 56 #[.pointer (some ⟨g, 0, none⟩)] w fun e w' => e = .returned (.bool true) ∧ w' = w := by
  obtain ⟨j, hj⟩ : ∃ j, Tryz.prog.info? 58 = some j := ⟨_, rfl⟩
  have hq := fun a => run_eql_ptr_same (P := Tryz.prog) w a Tryz.underlying32 hj
  clear hj
  go_enter Tryz.func56, Tryz.ntmps56
  go_wp2
  go_ret
  exact ⟨rfl, rfl⟩

/-- The slab's Get, at every handle. -/
theorem get_any {w : World} {g gs : Nat} {vp vf : Value} {room : Nat} {cs : List (Nat × Ce)} {fr : List Nat} (s : Stm w g gs vp vf room cs fr) (hw : Wz cs) (h : Int) : Calls Tryz.prog 155 #[.pointer (some ⟨gs, 0, none⟩), .int .i64 h] w fun e w' => e = .returned (.tuple #[.agg (cz (cat cs h)).toArray, .int .i64 (if cot cs h = 0 then 7 else 0)]) ∧ Below w.heap.size w w' := by
  by_cases hc : cot cs h = 0
  · rw [if_pos hc, hw.cat0 hc]
    exact get_badC gs vp vf room _ fr h w s.sl ((cot_out cs h).2 hc)
  · obtain ⟨i, h1, h2, h3, h4⟩ := cot_in (cs := cs) (h := h) (by omega)
    rw [if_neg hc, h4]
    exact get_okC gs vp vf room _ fr h i (cz (ce cs i)) (cz_th (hw.ok i)) w s.sl h1 (by rw [cnt_pl]; exact h2) (thg_pl cs i (cc_lt h2))

/-- The slab's Count, at every handle. -/
theorem count_any {w : World} {g gs : Nat} {vp vf : Value} {room : Nat} {cs : List (Nat × Ce)} {fr : List Nat} (s : Stm w g gs vp vf room cs fr) (h : Int) : Calls Tryz.prog 73 #[.pointer (some ⟨gs, 0, none⟩), .int .i64 h] w fun e w' => e = .returned (.int .i64 (cot cs h : Int)) ∧ w' = w := by
  by_cases hc : cot cs h = 0
  · rw [hc]
    exact count_badC gs vp vf room _ fr h w s.sl ((cot_out cs h).2 hc)
  · obtain ⟨i, h1, h2, h3, h4⟩ := cot_in (cs := cs) (h := h) (by omega)
    rw [h3, ← cnt_pl]
    exact count_okC gs vp vf room _ fr h i w s.sl h1 (by rw [cnt_pl]; exact h2)

set_option maxHeartbeats 1000000 in
theorem atS_ok {w : World} {g gs : Nat} {vp vf : Value} {room : Nat} {cs : List (Nat × Ce)} {fr pend : List Nat} (s : Stm w g gs vp vf room cs fr) (hw : Wf cs pend) (h : Int) : Calls Tryz.prog 108 #[.pointer (some ⟨g, 0, none⟩), .int .i64 h] w fun e w' => e = .returned (.agg (cz (cat cs h)).toArray) ∧ Below w.heap.size w w' := by
  have HS : Hid (∀ w', Below w.heap.size w w' → Stm w' g gs vp vf room cs fr) := fun w' hb => s.grow hb
  have HW := hidden hw
  have HG : Hid (∀ w', Below w.heap.size w w' → Calls Tryz.prog 155 #[.pointer (some ⟨gs, 0, none⟩), .int .i64 h] w' fun e w'' => e = .returned (.tuple #[.agg (cz (cat cs h)).toArray, .int .i64 (if cot cs h = 0 then 7 else 0)]) ∧ Below w'.heap.size w' w'') := fun w' hb => get_any (s.grow hb) hw.z h
  have hz := cz_th (hw.catOk h)
  generalize cz (cat cs h) = z at HG hz ⊢
  generalize (if cot cs h = 0 then (7 : Int) else 0) = q at HG
  have HZ := hidden hz
  clear s hw hz
  go_enter Tryz.func108, Tryz.ntmps108
  go_wp2_with (first
    | ((with_reducible refine at_ald 4 ?_); refine wpList_al _ rfl _ rfl _ zero_thC ?_; intro w1 b4 hg4 hl4 B4 b1; have c0 := (HS.out _ b1).c0; have c1 := (HS.out _ b1).c1; have HB4 := hidden B4; have Hg4 := hidden hg4; have Hl4 := hidden hl4; clear B4 hg4 hl4)
    | (go_at_call 56; refine (madeS_ok g _ c0).mono ?_; rintro e w' ⟨rfl, hx⟩; rw [hx]; clear hx w')
    | (go_at_call 155; refine (HG.out _ b1).mono ?_; rintro e w2 ⟨rfl, b2⟩; have B4' := hidden (HB4.out.grow b2); have Hb2 := hidden b2; clear b2)
    | ((with_reducible refine at_ald 5 ?_); refine wpList_al _ rfl _ rfl _ zero_thC ?_; intro w3 b5 hg5 hl5 B5 b3; have B4'' := hidden (B4'.out.grow b3); have Hb3 := hidden b3; have HB5 := hidden B5; have hne : b4 ≠ b5 := (by have := Hl4.out; have := Hb2.out.size; omega); have Hg5 := hidden hg5; clear b3 B5 hg5 hl5)
    | ((with_reducible refine at_st 5 ?_); refine wpList_sto _ rfl _ _ _ rfl b5 _ z.toArray rfl rfl HB5.out (xszC z HZ.out) (xzsC z HZ.out) (all_oneCell_toArray HZ.out.2) ?_; intro w4 B5' g5; have HB5' := hidden B5'; have B4n := hidden (B4''.out.kept g5 hne); have Hg := hidden g5; clear B5' g5)
    | ((with_reducible refine at_ldd 20 5 ?_); refine wpList_load_mid rfl _ _ rfl b5 0 rfl z _ HB5'.out.range Tryz.underlying114 rfl (xszC z HZ.out) ?_)
    | ((with_reducible refine at_st 4 ?_); refine wpList_sto _ rfl _ _ _ rfl b4 _ z.toArray rfl rfl B4n.out (xszC z HZ.out) (xzsC z HZ.out) (all_oneCell_toArray HZ.out.2) ?_; intro w5 B6 g6))
  have hbel := below_row (below_row (grow_trans (grow_trans b1 Hb2.out) Hb3.out) Hg.out (by have := Hg5.out; have := Hb2.out.size; have := b1.size; omega)) g6 Hg4.out
  exact bodyPost_ret (v := .agg z.toArray) (results_cell_row rfl _ _ b4 _ _ _ _ rfl B6 Tryz.underlying114 rfl (xszC z HZ.out)) rfl ⟨rfl, hbel⟩

set_option maxHeartbeats 1000000 in
theorem atS_no (v : Value) (h : Int) (w : World) (hn : NoS w v) : Calls Tryz.prog 108 #[v, .int .i64 h] w fun e w' => e = .returned (.agg zcl.toArray) ∧ Below w.heap.size w w' := by
  have HN : Hid (∀ w', Below w.heap.size w w' → NoS w' v) := fun w' hb => hn.grow hb
  clear hn
  go_enter Tryz.func108, Tryz.ntmps108
  go_wp2_with (first
    | ((with_reducible refine at_ald 4 ?_); refine wpList_al _ rfl _ rfl _ zero_thC ?_; intro w1 b4 hg4 hl4 B4 b1; have HB4 := hidden B4; have Hg4 := hidden hg4; clear B4 hg4 hl4)
    | (go_at_call 56; refine (madeS_no v _ (HN.out _ b1)).mono ?_; rintro e w' ⟨rfl, hx⟩; rw [hx]; clear hx w')
    | ((with_reducible refine at_bdd 10 ?_); refine wpList_bld _ rfl _ _ rfl _ (by exact built_zc) ?_)
    | ((with_reducible refine at_st 4 ?_); refine wpList_sto _ rfl _ _ _ rfl b4 _ zcl.toArray rfl rfl HB4.out (xszC zcl zcl_th) rfl (all_oneCell_toArray zcl_th.2) ?_; intro w5 B6 g6))
  exact bodyPost_ret (v := .agg zcl.toArray) (results_cell_row rfl _ _ b4 _ _ _ _ rfl B6 Tryz.underlying114 rfl (xszC zcl zcl_th)) rfl ⟨rfl, below_row b1 g6 Hg4.out⟩

end Go.Proofs.YtkhinjkcfjncgaaGreatDoor

/- That an array is like itself; what calls of a State that is none tell. -/
namespace Go.Proofs.YtkhinjkcfjncgaaGreatDoor
set_option maxRecDepth 20000
open Go.RowKit

theorem cellsOf_word : Tryz.prog.cellsOf 179 = 1 := by kernel_rfl

theorem items_same {e : TypeId} {k : IntKind} (he : Tryz.prog.underlying e = some (.int k)) (hagg : ∀ w, (isAgg e).run Tryz.prog w = .ok false w) (d : Nat) (zs : List Int) (xs : Array Value) (hx : ∀ i, i < zs.length → xs[i]? = some (.int k (zs.getD i 0))) (w : World) :
    ∀ is : List Nat, (∀ i ∈ is, i < zs.length) → (Op.eqItems (d + 1) e 1 xs xs is).run Tryz.prog w = .ok true w
  | [], _ => by simp [Op.eqItems]
  | i :: is, h => by
    have h1 := hx i (h i (by simp))
    have hp : (part e xs (i * 1)).run Tryz.prog w = .ok (.int k (zs.getD i 0)) w := by
      rw [Nat.mul_one]
      unfold part
      rw [Sem.run_bind, hagg w]
      simp only [Result.andThen_ok, Bool.false_eq_true, if_false, h1, Sem.run_pure]
    have he2 := run_equalIn_int (P := Tryz.prog) (w := w) d e k k (zs.getD i 0) (zs.getD i 0) he
    have ih := items_same he hagg d zs xs hx w is (fun j hj => h j (by simp [hj]))
    simp only [Op.eqItems, Sem.run_bind, hp, Result.andThen_ok, he2, beq_self_eq_true, Bool.not_true, Bool.false_eq_true, if_false, ih]

theorem hash_same (zs : List Int) (hl : zs.length = 32) (w : World) : (Op.equalIn 10000 103 (.agg (B zs)) (.agg (B zs))).run Tryz.prog w = .ok true w := by
  obtain ⟨i, hi⟩ : ∃ i, Tryz.prog.info? 5 = some i := ⟨_, rfl⟩
  rw [show (10000 : Nat) = 9998 + 1 + 1 from rfl, run_equalIn_array (P := Tryz.prog) w (9998 + 1) (B zs) (B zs) Tryz.underlying103 hi, cellsOf_byte]
  exact items_same u_byte Tryz.isAgg5 9998 zs (B zs) (fun i hi => B_get zs i hi) w _ (fun i hi => by rw [hl]; simpa using hi)

theorem words_same (zs : List Int) (hl : zs.length = 8) (w : World) : (Op.equalIn 10000 257 (.agg (U zs)) (.agg (U zs))).run Tryz.prog w = .ok true w := by
  obtain ⟨i, hi⟩ : ∃ i, Tryz.prog.info? 179 = some i := ⟨_, rfl⟩
  rw [show (10000 : Nat) = 9998 + 1 + 1 from rfl, run_equalIn_array (P := Tryz.prog) w (9998 + 1) (U zs) (U zs) Tryz.underlying257 hi, cellsOf_word]
  exact items_same Tryz.underlying179 Tryz.isAgg179 9998 zs (U zs) (fun i hi => U_get zs i hi) w _ (fun i hi => by rw [hl]; simpa using hi)

/-- What good tells of a State that is none. -/
def NoState (r : Value) (w : World) : Prop := Calls Tryz.prog 209 #[r] w fun e w' => e = .returned (.bool false) ∧ w' = w

set_option maxHeartbeats 400000 in
theorem write_none (r v : Value) (w : World) (h : NoState r w) : Calls Tryz.prog 193 #[r, v] w fun e w' => e = .returned (.int .i64 0) ∧ w' = w := by
  have H := hidden h
  clear h
  go_enter Tryz.func193, Tryz.ntmps193
  go_wp2_with (go_at_call 209; refine H.out.mono ?_; rintro e w' ⟨rfl, rfl⟩)
  go_ret
  exact ⟨rfl, rfl⟩

set_option maxHeartbeats 400000 in
theorem sum_none (r : Value) (w : World) (h : ∀ w', Below w.heap.size w w' → NoState r w') : Calls Tryz.prog 194 #[r] w fun e w' => e = .returned (.agg (B (List.replicate 32 0))) ∧ Below w.heap.size w w' := by
  have H := hidden h
  clear h
  go_enter Tryz.func194, Tryz.ntmps194
  go_wp2_with (first | (refine wpList_al _ rfl _ rfl _ zero_hash ?_; intro w1 g1 hg1 hl1 B1 b1) | (go_at_call 209; refine (H.out _ b1).mono ?_; rintro e w' ⟨rfl, hw'⟩; rw [hw']; clear hw') | (refine wpList_bld _ rfl _ _ rfl (B (List.replicate 32 0)) (by kernel_rfl) ?_) | (refine wpList_sto _ rfl _ _ _ rfl g1 _ _ rfl rfl B1 (by rw [B_size]; exact size_hash) rfl (B_one _) ?_; intro w2 B2 g2))
  exact bodyPost_ret (v := .agg (B (List.replicate 32 0))) (results_cell_row rfl _ _ g1 _ _ _ _ rfl B2 Tryz.underlying103 rfl (by rw [B_size]; exact size_hash)) rfl ⟨rfl, below_row b1 g2 hg1⟩

end Go.Proofs.YtkhinjkcfjncgaaGreatDoor

/- The digest of the text abc, reckoned by the kernel. -/
namespace Go.Proofs.YtkhinjkcfjncgaaGreatDoor
set_option maxRecDepth 20000
open Go.RowKit

theorem dig_abc : dig [97, 98, 99] = [186, 120, 22, 191, 143, 1, 207, 234, 65, 65, 64, 222, 93, 174, 34, 35, 176, 3, 97, 163, 150, 23, 122, 156, 180, 16, 255, 97, 242, 0, 21, 173] := by kernel_rfl

end Go.Proofs.YtkhinjkcfjncgaaGreatDoor
