/- What a store tells of a handle, as contracts: of a store that New answered, and of what is no store, alike (Vw). -/
import Derived.Test.YtkhinjkcfjncgaaGreatDoorNa28
import Derived.Test.YtkhinjkcfjncgaaGreatDoorNa31
import Derived.Test.YtkhinjkcfjncgaaGreatDoorNa13
namespace Go.Proofs.YtkhinjkcfjncgaaGreatDoor
set_option maxRecDepth 20000
open Go.RowKit

/-- v answers as a store does that has these counts and nodes; mk: New answered it. -/
structure Vw (w : World) (v : Value) (mk : Bool) (ct : Int → Nat) (ca : Int → Ce) : Prop where
  made : ∀ w', Below w.heap.size w w' → Calls Tryz.prog 56 #[v] w' fun e w'' => e = .returned (.bool mk) ∧ w'' = w'
  atv : ∀ w' h, Below w.heap.size w w' → Calls Tryz.prog 108 #[v, .int .i64 h] w' fun e w'' => e = .returned (.agg (cz (ca h)).toArray) ∧ Below w'.heap.size w' w''
  count : ∀ w' h, Below w.heap.size w w' → Calls Tryz.prog 34 #[v, .int .i64 h] w' fun e w'' => e = .returned (.int .i64 (ct h : Int)) ∧ w'' = w'
  ok : ∀ h, CeOk (ca h)
  val : ∀ h, Reads w (ca h).val (ca h).bs
  len : ∀ h, (ca h).bs.length ≤ 1024
  le : ∀ h, (ca h).ab ≤ ct h ∧ ct h ≤ 1073741824

theorem Vw.grow {w w' : World} {v : Value} {mk : Bool} {ct : Int → Nat} {ca : Int → Ce} (V : Vw w v mk ct ca) (hb : Below w.heap.size w w') : Vw w' v mk ct ca :=
  ⟨fun w'' h => V.made w'' (grow_trans hb h), fun w'' x h => V.atv w'' x (grow_trans hb h), fun w'' x h => V.count w'' x (grow_trans hb h), V.ok, fun h => (V.val h).grow hb, V.len, V.le⟩

set_option maxHeartbeats 400000 in
theorem countS_ok {w : World} {g gs : Nat} {vp vf : Value} {room : Nat} {cs : List (Nat × Ce)} {fr : List Nat} (s : Stm w g gs vp vf room cs fr) (h : Int) : Calls Tryz.prog 34 #[.pointer (some ⟨g, 0, none⟩), .int .i64 h] w fun e w' => e = .returned (.int .i64 (cot cs h : Int)) ∧ w' = w := by
  have c0 := s.c0
  have c1 := s.c1
  have HC := hidden (count_any s h)
  generalize cot cs h = q at HC ⊢
  clear s
  go_enter Tryz.func34, Tryz.ntmps34
  go_wp2_with (first
    | (go_at_call 56; refine (madeS_ok g _ c0).mono ?_; rintro e w' ⟨rfl, hx⟩; rw [hx]; clear hx w')
    | (go_at_call 73; refine HC.out.mono ?_; rintro e w' ⟨rfl, hx⟩; rw [hx]; clear hx w'))
  go_ret
  exact ⟨rfl, rfl⟩

set_option maxHeartbeats 400000 in
theorem countS_no (v : Value) (h : Int) (w : World) (hn : NoS w v) : Calls Tryz.prog 34 #[v, .int .i64 h] w fun e w' => e = .returned (.int .i64 0) ∧ w' = w := by
  have HN := hidden hn
  clear hn
  go_enter Tryz.func34, Tryz.ntmps34
  go_wp2_with (go_at_call 56; refine (madeS_no v _ HN.out).mono ?_; rintro e w' ⟨rfl, hx⟩; rw [hx]; clear hx w')
  go_ret
  exact ⟨rfl, rfl⟩

theorem vw_no {w : World} {v : Value} (hn : NoS w v) : Vw w v false (fun _ => 0) (fun _ => zc) :=
  ⟨fun w' hb => madeS_no v w' (hn.grow hb), fun w' h hb => atS_no v h w' (hn.grow hb), fun w' h hb => countS_no v h w' (hn.grow hb), fun _ => zc_ok, fun _ => Reads.nil _, fun _ => by decide, fun _ => by decide⟩

theorem Wf.bsLen {cs : List (Nat × Ce)} {pend : List Nat} (w : Wf cs pend) (h : Int) : (cat cs h).bs.length ≤ 1024 := by
  by_cases hc : cot cs h = 0
  · rw [w.cat0 hc]
    decide
  · obtain ⟨i, h1, h2, h3, h4⟩ := cot_in (cs := cs) (h := h) (by omega)
    rw [h4]
    rcases w.tr i h2 with hl | hn
    · exact hl.len
    · rw [hn.bs]
      decide

theorem vw_ok {w : World} {g gs : Nat} {vp vf : Value} {room : Nat} {cs : List (Nat × Ce)} {fr pend : List Nat} (s : Stm w g gs vp vf room cs fr) (hw : Wf cs pend) : Vw w (.pointer (some ⟨g, 0, none⟩)) true (cot cs) (cat cs) := by
  refine ⟨fun w' hb => madeS_ok g w' (s.grow hb).c0, fun w' h hb => atS_ok (s.grow hb) hw h, fun w' h hb => countS_ok (s.grow hb) h, hw.catOk, fun h => ?_, hw.bsLen, fun h => ?_⟩
  · unfold cat
    split
    · obtain ⟨sp, ho⟩ := s.vals (h - 1).toNat
      exact ho.reads
    · exact Reads.nil _
  · unfold cat cot
    split
    · have h1 := hw.le (h - 1).toNat
      have h2 := s.sl.inv.most (h - 1).toNat
      rw [cnt_pl] at h2
      omega
    · exact ⟨by decide, by decide⟩

set_option maxHeartbeats 400000 in
theorem kind_any {w : World} {v : Value} {mk : Bool} {ct : Int → Nat} {ca : Int → Ce} (V : Vw w v mk ct ca) (h : Int) : Calls Tryz.prog 81 #[v, .int .i64 h] w fun e w' => e = .returned (.int .u8 (ca h).kind) ∧ Below w.heap.size w w' := by
  have HA := hidden (V.atv w h (Below.refl _ _))
  have hf := fld_kind (ca h) (V.ok h)
  obtain ⟨c, hc⟩ : ∃ c, c = ca h := ⟨_, rfl⟩
  rw [← hc] at HA hf
  rw [← hc]
  clear hc V
  go_enter Tryz.func81, Tryz.ntmps81
  go_wp2_with (go_at_call 108; refine HA.out.mono ?_; rintro e w1 ⟨rfl, b1⟩)
  go_ret
  exact ⟨rfl, b1⟩

set_option maxHeartbeats 400000 in
theorem size_any {w : World} {v : Value} {mk : Bool} {ct : Int → Nat} {ca : Int → Ce} (V : Vw w v mk ct ca) (h : Int) : Calls Tryz.prog 85 #[v, .int .i64 h] w fun e w' => e = .returned (.int .i64 ((ca h).sz : Int)) ∧ Below w.heap.size w w' := by
  have HA := hidden (V.atv w h (Below.refl _ _))
  have hf := fld_sz (ca h) (V.ok h)
  obtain ⟨c, hc⟩ : ∃ c, c = ca h := ⟨_, rfl⟩
  rw [← hc] at HA hf
  rw [← hc]
  clear hc V
  go_enter Tryz.func85, Tryz.ntmps85
  go_wp2_with (go_at_call 108; refine HA.out.mono ?_; rintro e w1 ⟨rfl, b1⟩)
  go_ret
  exact ⟨rfl, b1⟩

set_option maxHeartbeats 400000 in
theorem held_any {w : World} {v : Value} {mk : Bool} {ct : Int → Nat} {ca : Int → Ce} (V : Vw w v mk ct ca) (h : Int) : Calls Tryz.prog 87 #[v, .int .i64 h] w fun e w' => e = .returned (.int .i64 ((ct h - (ca h).ab : Nat) : Int)) ∧ Below w.heap.size w w' := by
  have HA := hidden (V.atv w h (Below.refl _ _))
  have HC := hidden (V.count w h (Below.refl _ _))
  have hf := fld_ab (ca h) (V.ok h)
  obtain ⟨h1, h2⟩ := V.le h
  obtain ⟨q, hq⟩ : ∃ q, q = ct h := ⟨_, rfl⟩
  rw [← hq] at HC h1 h2
  rw [← hq]
  obtain ⟨c, hc⟩ : ∃ c, c = ca h := ⟨_, rfl⟩
  rw [← hc] at HA hf h1
  rw [← hc]
  have HW : Hid (wrap64 ((q : Int) - (c.ab : Int)) = ((q - c.ab : Nat) : Int)) := by
    show _ = _
    rw [Go.IntWalk.wrap64_in _ (by omega)]
    omega
  clear hc hq V h1 h2
  go_enter Tryz.func87, Tryz.ntmps87
  go_wp2_with (first
    | (go_at_call 34; refine HC.out.mono ?_; rintro e w' ⟨rfl, hx⟩; rw [hx]; clear hx w')
    | (go_at_call 108; refine HA.out.mono ?_; rintro e w1 ⟨rfl, b1⟩))
  go_ret
  exact ⟨by rw [← HW.out]; rfl, b1⟩

set_option maxHeartbeats 400000 in
theorem has_any {w : World} {v : Value} {mk : Bool} {ct : Int → Nat} {ca : Int → Ce} (V : Vw w v mk ct ca) (h : Int) : Calls Tryz.prog 28 #[v, .int .i64 h] w fun e w' => e = .returned (.bool (decide (0 < ct h))) ∧ Below w.heap.size w w' := by
  have HC := hidden (V.count w h (Below.refl _ _))
  obtain ⟨q, hq⟩ : ∃ q, q = ct h := ⟨_, rfl⟩
  rw [← hq] at HC
  rw [← hq]
  clear hq V
  have e0 : decide ((0 : Int) < (q : Int)) = decide (0 < q) := by simp
  go_enter Tryz.func28, Tryz.ntmps28
  go_wp2_with (go_at_call 34; refine HC.out.mono ?_; rintro e w' ⟨rfl, hx⟩; rw [hx]; clear hx w')
  go_ret
  exact ⟨rfl, Below.refl _ _⟩

set_option maxHeartbeats 1000000 in
theorem key_any {w : World} {v : Value} {mk : Bool} {ct : Int → Nat} {ca : Int → Ce} (V : Vw w v mk ct ca) (h : Int) : Calls Tryz.prog 90 #[v, .int .i64 h] w fun e w' => e = .returned (.agg (B (ca h).key)) ∧ Below w.heap.size w w' := by
  have HA : Hid (∀ w', Below w.heap.size w w' → Calls Tryz.prog 108 #[v, .int .i64 h] w' fun e w'' => e = .returned (.agg (cz (ca h)).toArray) ∧ Below w'.heap.size w' w'') := fun w' hb => V.atv w' h hb
  have hf := fld_key (ca h) (V.ok h)
  obtain ⟨c, hc⟩ : ∃ c, c = ca h := ⟨_, rfl⟩
  have HSZ : Hid ((B (ca h).key).size = 32) := by rw [B_size]; exact (V.ok h).hk.1
  rw [← hc] at HA hf HSZ
  rw [← hc]
  clear hc V
  go_enter Tryz.func90, Tryz.ntmps90
  go_wp2_with (first
    | ((with_reducible refine at_ald 4 ?_); refine wpList_al _ rfl _ rfl _ zero_path ?_; intro w1 b4 hg4 hl4 B4 b1; have HB4 := hidden B4; have Hg4 := hidden hg4; clear B4 hg4 hl4)
    | (go_at_call 108; refine (HA.out _ b1).mono ?_; rintro e w2 ⟨rfl, b2⟩; have B4' := hidden (HB4.out.grow b2); have Hb2 := hidden b2; clear b2)
    | ((with_reducible refine at_st 4 ?_); refine wpList_sto _ rfl _ _ _ rfl b4 _ (B c.key) rfl rfl B4'.out (by rw [HSZ.out]; exact size_path) (by rw [HSZ.out, B_size]; simp) (B_one _) ?_; intro w3 B5 g3))
  exact bodyPost_ret (v := .agg (B c.key)) (results_cell_row rfl _ _ b4 _ _ _ _ rfl B5 Tryz.underlying72 rfl (by rw [HSZ.out]; exact size_path)) rfl ⟨rfl, below_row (grow_trans b1 Hb2.out) g3 Hg4.out⟩

theorem run_nil_bytes (a : Option Addr) (n c : Nat) (w : World) : (binOp .eql 73 (.slice a n c) (.slice none 0 0)).run Tryz.prog w = .ok (.bool a.isNone) w := by
  obtain ⟨e, he⟩ : ∃ e, Tryz.prog.underlying 73 = some (.slice e) := ⟨_, Tryz.underlying73⟩
  have h : ∀ d : Nat, (Op.equalIn (d + 1) 73 (.slice a n c) (.slice none 0 0)).run Tryz.prog w = .ok a.isNone w := fun d => by
    cases a <;> simp [Op.equalIn, run_underlying he]
  simp only [binOp]
  simp [Op.equal, Op.maxDepth, h 9999]

set_option maxHeartbeats 400000 in
/-- bytes.Clone: a list of the call's own. -/
theorem clone_any (v : Value) (zs : List Int) (w : World) (hr : Reads w v zs) (hl : zs.length ≤ 140737488355328) : Calls Tryz.prog 137 #[v] w fun e w' => ∃ v' sp, e = .returned v' ∧ Own w.heap.size w' v' zs sp ∧ Below w.heap.size w w' := by
  have HR := hidden hr
  have HL := hidden hl
  obtain ⟨a, cap, rfl, hc, hz, _, _⟩ := hr
  cases a with
  | none =>
    have h0 := hz rfl
    subst h0
    have hn : zs = [] := List.eq_nil_of_length_eq_zero (by omega)
    subst hn
    have hq := run_nil_bytes none 0 0 w
    clear hc hz hl HR HL
    go_enter Tryz.func137, Tryz.ntmps137
    go_wp2
    go_ret
    exact ⟨_, [], rfl, Own.nil _ _, Below.refl _ _⟩
  | some x =>
    have HO := hidden (Own.empty w.heap.size w (Nat.le_refl _))
    have HR2 := hidden (HR.out.grow (grow_alloc w (.cells #[] 5)))
    have hq := run_nil_bytes (some x) zs.length cap w
    clear hz hl hc HR
    go_enter Tryz.func137, Tryz.ntmps137
    go_wp2_with (at_builtin; refine wpList_app _ rfl _ _ rfl w.heap.size _ _ [] [] zs HO.out HR2.out rfl rfl (by simpa using HL.out) (by simp) ?_; intro v' w' sp' o' g' _ _)
    go_ret
    exact ⟨_, sp', rfl, o', below_row (grow_alloc w _) (by simpa [Value.ownBlock] using g') (Nat.le_refl _)⟩

set_option maxHeartbeats 400000 in
theorem valueS_any {w : World} {v : Value} {mk : Bool} {ct : Int → Nat} {ca : Int → Ce} (V : Vw w v mk ct ca) (h : Int) : Calls Tryz.prog 92 #[v, .int .i64 h] w fun e w' => ∃ v' sp, e = .returned v' ∧ Own w.heap.size w' v' (ca h).bs sp ∧ Below w.heap.size w w' := by
  have HA := hidden (V.atv w h (Below.refl _ _))
  have hf := fld_val (ca h) (V.ok h)
  have HR := hidden (V.val h)
  have HL := hidden (V.len h)
  obtain ⟨c, hc⟩ : ∃ c, c = ca h := ⟨_, rfl⟩
  rw [← hc] at HA hf HR HL
  rw [← hc]
  clear hc V
  go_enter Tryz.func92, Tryz.ntmps92
  go_wp2_with (first
    | (go_at_call 108; refine HA.out.mono ?_; rintro e w1 ⟨rfl, b1⟩)
    | (go_at_call 137; refine (clone_any _ c.bs _ (HR.out.grow b1) (by have := HL.out; omega)).mono ?_; rintro e w2 ⟨v', sp, rfl, o2, b2⟩))
  go_ret
  exact ⟨_, sp, rfl, o2.mono b1.size, grow_trans b1 b2⟩

set_option maxHeartbeats 1000000 in
theorem sides_any {w : World} {v : Value} {mk : Bool} {ct : Int → Nat} {ca : Int → Ce} (V : Vw w v mk ct ca) (h : Int) : Calls Tryz.prog 71 #[v, .int .i64 h] w fun e w' => e = .returned (.tuple #[.int .i64 ((ca h).l : Int), .int .i64 ((ca h).r : Int)]) ∧ Below w.heap.size w w' := by
  have HA := hidden (V.atv w h (Below.refl _ _))
  have HO := hidden (V.ok h)
  obtain ⟨c, hc⟩ : ∃ c, c = ca h := ⟨_, rfl⟩
  rw [← hc] at HA HO
  rw [← hc]
  clear hc V
  go_enter Tryz.func71, Tryz.ntmps71
  go_wp2_with (first
    | (go_at_call 108; refine HA.out.mono ?_; rintro e w1 ⟨rfl, b1⟩)
    | ((with_reducible refine at_ald 6 ?_); refine wpList_al _ rfl _ rfl _ zero_thC ?_; intro w2 b6 hg6 hl6 B6 b2; have HB6 := hidden B6; have Hg6 := hidden hg6; have Hb2 := hidden b2; clear B6 hg6 hl6 b2)
    | ((with_reducible refine at_st 6 ?_); refine wpList_sto _ rfl _ _ _ rfl b6 _ (cz c).toArray rfl rfl HB6.out (xszC (cz c) (cz_th HO.out)) (xzsC (cz c) (cz_th HO.out)) (all_oneCell_toArray (cz_one HO.out)) ?_; intro w3 B7 g3; have c7 := B7.cell 69; have c8 := B7.cell 70; simp only [List.getElem?_toArray] at c7 c8; rw [(cz_at c HO.out).2.2.2.2.2.1] at c7; rw [(cz_at c HO.out).2.2.2.2.2.2] at c8; have Hg3 := hidden g3; clear B7 g3))
  go_quiet (fail)
  go_wp2
  go_ret2
  exact ⟨rfl, below_drewN (below_row (grow_trans b1 Hb2.out) Hg3.out (by have := Hg6.out; have := b1.size; omega)) _⟩

/-- What Depth answers. -/
def vDp (mk : Bool) (c : Ce) : Int := if mk then (if c.kind = 2 then (c.dp : Int) else -1) else 0

set_option maxHeartbeats 1000000 in
theorem depth_any {w : World} {v : Value} {mk : Bool} {ct : Int → Nat} {ca : Int → Ce} (V : Vw w v mk ct ca) (h : Int) : Calls Tryz.prog 83 #[v, .int .i64 h] w fun e w' => e = .returned (.int .i64 (vDp mk (ca h))) ∧ Below w.heap.size w w' := by
  have HM := hidden (V.made w (Below.refl _ _))
  cases mk with
  | false =>
    clear V
    go_enter Tryz.func83, Tryz.ntmps83
    go_wp2_with (go_at_call 56; refine HM.out.mono ?_; rintro e w' ⟨rfl, hx⟩; rw [hx]; clear hx w')
    go_ret
    exact ⟨rfl, Below.refl _ _⟩
  | true =>
    have HA := hidden (V.atv w h (Below.refl _ _))
    have HO := hidden (V.ok h)
    obtain ⟨c, hc⟩ : ∃ c, c = ca h := ⟨_, rfl⟩
    rw [← hc] at HA HO
    rw [← hc]
    clear hc V
    by_cases hk : c.kind = 2
    · have HV : Hid (vDp true c = (c.dp : Int)) := by simp [vDp, hk, Hid]
      rw [HV.out]
      have HK := hidden hk
      clear hk HV
      go_enter Tryz.func83, Tryz.ntmps83
      go_wp2_with (first
        | (go_at_call 56; refine HM.out.mono ?_; rintro e w' ⟨rfl, hx⟩; rw [hx]; clear hx w')
        | (go_at_call 108; refine HA.out.mono ?_; rintro e w1 ⟨rfl, b1⟩)
        | ((with_reducible refine at_ald 5 ?_); refine wpList_al _ rfl _ rfl _ zero_thC ?_; intro w2 b6 hg6 hl6 B6 b2; have HB6 := hidden B6; have Hg6 := hidden hg6; have Hb2 := hidden b2; clear B6 hg6 hl6 b2)
        | ((with_reducible refine at_st 5 ?_); refine wpList_sto _ rfl _ _ _ rfl b6 _ (cz c).toArray rfl rfl HB6.out (xszC (cz c) (cz_th HO.out)) (xzsC (cz c) (cz_th HO.out)) (all_oneCell_toArray (cz_one HO.out)) ?_; intro w3 B7 g3; have c7 := B7.cell 32; have c8 := B7.cell 68; simp only [List.getElem?_toArray] at c7 c8; rw [(cz_at c HO.out).1, HK.out] at c7; rw [(cz_at c HO.out).2.2.2.2.1] at c8; have Hg3 := hidden g3; clear B7 g3))
      go_ret
      exact ⟨rfl, below_row (grow_trans b1 Hb2.out) Hg3.out (by have := Hg6.out; have := b1.size; omega)⟩
    · have HV : Hid (vDp true c = -1) := by simp [vDp, hk, Hid]
      rw [HV.out]
      have hk2 : (c.kind == 2) = false := by simp [hk]
      have HK := hidden hk
      clear hk HV
      obtain ⟨k, hkk⟩ : ∃ k, k = c.kind := ⟨_, rfl⟩
      have HKK := hidden hkk
      rw [← hkk] at hk2
      clear hkk
      go_enter Tryz.func83, Tryz.ntmps83
      go_wp2_with (first
        | (go_at_call 56; refine HM.out.mono ?_; rintro e w' ⟨rfl, hx⟩; rw [hx]; clear hx w')
        | (go_at_call 108; refine HA.out.mono ?_; rintro e w1 ⟨rfl, b1⟩)
        | ((with_reducible refine at_ald 5 ?_); refine wpList_al _ rfl _ rfl _ zero_thC ?_; intro w2 b6 hg6 hl6 B6 b2; have HB6 := hidden B6; have Hg6 := hidden hg6; have Hb2 := hidden b2; clear B6 hg6 hl6 b2)
        | ((with_reducible refine at_st 5 ?_); refine wpList_sto _ rfl _ _ _ rfl b6 _ (cz c).toArray rfl rfl HB6.out (xszC (cz c) (cz_th HO.out)) (xzsC (cz c) (cz_th HO.out)) (all_oneCell_toArray (cz_one HO.out)) ?_; intro w3 B7 g3; have c7 := B7.cell 32; simp only [List.getElem?_toArray] at c7; rw [(cz_at c HO.out).1, ← HKK.out] at c7; have Hg3 := hidden g3; clear B7 g3))
      go_ret
      exact ⟨rfl, below_row (grow_trans b1 Hb2.out) Hg3.out (by have := Hg6.out; have := b1.size; omega)⟩

/-- What Root answers. -/
def vRt (mk : Bool) (q : Nat) (c : Ce) (h : Int) : Int := if mk then (if h = 0 then 0 else if q = 0 then 7 else if 0 < vDp mk c then 2 else 0) else 1

set_option maxHeartbeats 1000000 in
theorem root_any {w : World} {v : Value} {mk : Bool} {ct : Int → Nat} {ca : Int → Ce} (V : Vw w v mk ct ca) (h : Int) : Calls Tryz.prog 89 #[v, .int .i64 h] w fun e w' => e = .returned (.int .i64 (vRt mk (ct h) (ca h) h)) ∧ Below w.heap.size w w' := by
  have HM := hidden (V.made w (Below.refl _ _))
  cases mk with
  | false =>
    clear V
    go_enter Tryz.func89, Tryz.ntmps89
    go_wp2_with (go_at_call 56; refine HM.out.mono ?_; rintro e w' ⟨rfl, hx⟩; rw [hx]; clear hx w')
    go_ret
    exact ⟨rfl, Below.refl _ _⟩
  | true =>
    by_cases h0 : h = 0
    · subst h0
      have HV : Hid (vRt true (ct 0) (ca 0) 0 = 0) := rfl
      rw [HV.out]
      clear V HV
      go_enter Tryz.func89, Tryz.ntmps89
      go_wp2_with (go_at_call 56; refine HM.out.mono ?_; rintro e w' ⟨rfl, hx⟩; rw [hx]; clear hx w')
      go_ret
      exact ⟨rfl, Below.refl _ _⟩
    · have HH := hidden (has_any V h)
      have HD : Hid (∀ w', Below w.heap.size w w' → Calls Tryz.prog 83 #[v, .int .i64 h] w' fun e w'' => e = .returned (.int .i64 (vDp true (ca h))) ∧ Below w'.heap.size w' w'') := fun w' hb => depth_any (V.grow hb) h
      have hb0 : (h == 0) = false := by simp [h0]
      by_cases hq : 0 < ct h
      · have e1 : decide (0 < ct h) = true := by simp [hq]
        rw [e1] at HH
        by_cases hd : 0 < vDp true (ca h)
        · have HV : Hid (vRt true (ct h) (ca h) h = 2) := by simp [vRt, h0, hd, Hid]; omega
          rw [HV.out]
          obtain ⟨q, hqq⟩ : ∃ q, q = vDp true (ca h) := ⟨_, rfl⟩
          rw [← hqq] at HD hd
          clear V HV h0 hq e1 hqq
          go_enter Tryz.func89, Tryz.ntmps89
          go_wp2_with (first
            | (go_at_call 56; refine HM.out.mono ?_; rintro e w' ⟨rfl, hx⟩; rw [hx]; clear hx w')
            | (go_at_call 28; refine HH.out.mono ?_; rintro e w1 ⟨rfl, b1⟩)
            | (go_at_call 83; refine (HD.out _ b1).mono ?_; rintro e w2 ⟨rfl, b2⟩))
          go_ret
          exact ⟨rfl, grow_trans b1 b2⟩
        · have HV : Hid (vRt true (ct h) (ca h) h = 0) := by simp [vRt, h0, hd, Hid]; omega
          rw [HV.out]
          obtain ⟨q, hqq⟩ : ∃ q, q = vDp true (ca h) := ⟨_, rfl⟩
          rw [← hqq] at HD hd
          clear V HV h0 hq e1 hqq
          go_enter Tryz.func89, Tryz.ntmps89
          go_wp2_with (first
            | (go_at_call 56; refine HM.out.mono ?_; rintro e w' ⟨rfl, hx⟩; rw [hx]; clear hx w')
            | (go_at_call 28; refine HH.out.mono ?_; rintro e w1 ⟨rfl, b1⟩)
            | (go_at_call 83; refine (HD.out _ b1).mono ?_; rintro e w2 ⟨rfl, b2⟩))
          go_ret
          exact ⟨rfl, grow_trans b1 b2⟩
      · have e1 : decide (0 < ct h) = false := by simp [hq]
        rw [e1] at HH
        have HV : Hid (vRt true (ct h) (ca h) h = 7) := by simp [vRt, h0, Hid]; omega
        rw [HV.out]
        clear V HV h0 hq e1 HD
        go_enter Tryz.func89, Tryz.ntmps89
        go_wp2_with (first
          | (go_at_call 56; refine HM.out.mono ?_; rintro e w' ⟨rfl, hx⟩; rw [hx]; clear hx w')
          | (go_at_call 28; refine HH.out.mono ?_; rintro e w1 ⟨rfl, b1⟩))
        go_ret
        exact ⟨rfl, b1⟩

/-- What Digest answers. -/
def vDg (mk : Bool) (ca : Int → Ce) (h : Int) : List Int := if mk = true ∧ h = 0 then emD else (ca h).dig
theorem vDg_len {w : World} {v : Value} {mk : Bool} {ct : Int → Nat} {ca : Int → Ce} (V : Vw w v mk ct ca) (h : Int) : (vDg mk ca h).length = 32 ∧ Bytes (vDg mk ca h) := by
  unfold vDg
  split
  · exact ⟨dig_length _, dig_bytes _⟩
  · exact ⟨(V.ok h).ld, (V.ok h).bd⟩

set_option maxHeartbeats 1000000 in
theorem sdig_any {w : World} {v : Value} {mk : Bool} {ct : Int → Nat} {ca : Int → Ce} (V : Vw w v mk ct ca) (h : Int) (hL : Laid w) : Calls Tryz.prog 52 #[v, .int .i64 h] w fun e w' => e = .returned (.agg (B (vDg mk ca h))) ∧ Below w.heap.size w w' := by
  have HM : Hid (∀ w', Below w.heap.size w w' → Calls Tryz.prog 56 #[v] w' fun e w'' => e = .returned (.bool mk) ∧ w'' = w') := V.made
  by_cases hc : mk = true ∧ h = 0
  · obtain ⟨rfl, rfl⟩ := hc
    have HE : Hid (∀ w', Below w.heap.size w w' → Calls Tryz.prog 107 #[] w' (DigPost [0] w')) := fun w' hb => empty_any w' (hL.grow hb)
    have HD : Hid (vDg true ca 0 = dig [0]) := rfl
    have HSZ : Hid ((B (dig [0])).size = 32) := by rw [B_size]; exact dig_length _
    rw [HD.out]
    generalize hDD : dig [0] = D at HSZ ⊢
    have HE' : Hid (∀ w', Below w.heap.size w w' → Calls Tryz.prog 107 #[] w' fun e w'' => e = .returned (.agg (B D)) ∧ Below w'.heap.size w' w'') := by rw [← hDD]; exact HE
    clear HD V hL hDD HE
    go_enter Tryz.func52, Tryz.ntmps52
    go_wp2_with (first
      | ((with_reducible refine at_ald 4 ?_); refine wpList_al _ rfl _ rfl _ zero_hash ?_; intro w1 b4 hg4 hl4 B4 b1; have HB4 := hidden B4; have Hg4 := hidden hg4; clear B4 hg4 hl4)
      | (go_at_call 56; refine (HM.out _ b1).mono ?_; rintro e w' ⟨rfl, hx⟩; rw [hx]; clear hx w')
      | (go_at_call 107; refine (HE'.out _ b1).mono ?_; rintro e w2 ⟨rfl, b2⟩; have B4' := hidden (HB4.out.grow b2); have Hb2 := hidden b2; clear b2)
      | ((with_reducible refine at_st 4 ?_); refine wpList_sto _ rfl _ _ _ rfl b4 _ (B D) rfl rfl B4'.out (by rw [HSZ.out]; exact size_hash) (by rw [HSZ.out, B_size]; simp) (B_one _) ?_; intro w3 B5 g3))
    exact bodyPost_ret (v := .agg (B D)) (results_cell_row rfl _ _ b4 _ _ _ _ rfl B5 Tryz.underlying103 rfl (by rw [HSZ.out]; exact size_hash)) rfl ⟨rfl, below_row (grow_trans b1 Hb2.out) g3 Hg4.out⟩
  · have HA : Hid (∀ w', Below w.heap.size w w' → Calls Tryz.prog 108 #[v, .int .i64 h] w' fun e w'' => e = .returned (.agg (cz (ca h)).toArray) ∧ Below w'.heap.size w' w'') := fun w' hb => V.atv w' h hb
    have hf := fld_dig (ca h) (V.ok h)
    have HD : Hid (vDg mk ca h = (ca h).dig) := by simp [vDg, hc, Hid]
    have HSZ : Hid ((B (ca h).dig).size = 32) := by rw [B_size]; exact (V.ok h).ld
    rw [HD.out]
    obtain ⟨c, hcc⟩ : ∃ c, c = ca h := ⟨_, rfl⟩
    rw [← hcc] at HA hf HSZ
    rw [← hcc]
    have hcase : (mk = false) ∨ (mk = true ∧ (h == 0) = false) := by
      cases mk with
      | false => exact .inl rfl
      | true => exact .inr ⟨rfl, by simpa using hc⟩
    clear HD V hL hcc hc
    rcases hcase with rfl | ⟨rfl, hb0⟩
    all_goals
      go_enter Tryz.func52, Tryz.ntmps52
      go_wp2_with (first
        | ((with_reducible refine at_ald 4 ?_); refine wpList_al _ rfl _ rfl _ zero_hash ?_; intro w1 b4 hg4 hl4 B4 b1; have HB4 := hidden B4; have Hg4 := hidden hg4; clear B4 hg4 hl4)
        | (go_at_call 56; refine (HM.out _ b1).mono ?_; rintro e w' ⟨rfl, hx⟩; rw [hx]; clear hx w')
        | (go_at_call 108; refine (HA.out _ b1).mono ?_; rintro e w2 ⟨rfl, b2⟩; have B4' := hidden (HB4.out.grow b2); have Hb2 := hidden b2; clear b2)
        | ((with_reducible refine at_st 4 ?_); refine wpList_sto _ rfl _ _ _ rfl b4 _ (B c.dig) rfl rfl B4'.out (by rw [HSZ.out]; exact size_hash) (by rw [HSZ.out, B_size]; simp) (B_one _) ?_; intro w3 B5 g3))
      exact bodyPost_ret (v := .agg (B c.dig)) (results_cell_row rfl _ _ b4 _ _ _ _ rfl B5 Tryz.underlying103 rfl (by rw [HSZ.out]; exact size_hash)) rfl ⟨rfl, below_row (grow_trans b1 Hb2.out) g3 Hg4.out⟩

end Go.Proofs.YtkhinjkcfjncgaaGreatDoor

/- The way of a key down a store's tree: its handles, its end, its other sides; that these are the way among the tree's entries, in whatever order. No program in this text. -/
namespace Go.Proofs.YtkhinjkcfjncgaaGreatDoor
set_option maxRecDepth 20000
open Go.RowKit

/-- The inner nodes of a key's way. -/
def Tre.hs (K : List Int) : Nat → Tre → List Nat
  | _, .emp => []
  | _, .lf _ _ => []
  | h, .nd d hl hr l r => h :: (if kb K d = 1 then r.hs K hr else l.hs K hl)
/-- With what it ends. -/
def Tre.fin (K : List Int) : Nat → Tre → Nat
  | h, .emp => h
  | h, .lf _ _ => h
  | _, .nd d hl hr l r => if kb K d = 1 then r.fin K hr else l.fin K hl
/-- The other sides. -/
def Tre.oth (K : List Int) : Tre → List Nat
  | .emp => []
  | .lf _ _ => []
  | .nd d hl hr l r => if kb K d = 1 then hl :: r.oth K else hr :: l.oth K
/-- The entry with which it ends. -/
def Tre.efin (K : List Int) : Tre → List Ent
  | .emp => []
  | .lf k b => [(k, b)]
  | .nd d _ _ l r => if kb K d = 1 then r.efin K else l.efin K

theorem Tre.hs_oth (K : List Int) : ∀ (T : Tre) (h : Nat), (T.hs K h).length = (T.oth K).length
  | .emp, _ => rfl
  | .lf _ _, _ => rfl
  | .nd d hl hr l r, h => by
    have h1 := Tre.hs_oth K l hl
    have h2 := Tre.hs_oth K r hr
    simp only [Tre.hs, Tre.oth]
    split <;> simp [h1, h2]

structure NdOk (cs : List (Nat × Ce)) (d hl hr : Nat) (L R : Tre) : Prop where
  dp : d < 256
  bL : ∀ e ∈ L.ents, kb e.1 d = 0
  bR : ∀ e ∈ R.ents, kb e.1 d = 1
  two : 2 ≤ (L.ents ++ R.ents).length
  kl : (sdC cs hl).kind = 2 → (sdC cs hl).dp = d + 1
  kr : (sdC cs hr).kind = 2 → (sdC cs hr).dp = d + 1

theorem nd_ok {cs : List (Nat × Ce)} {pend : List Nat} (w : Wf cs pend) {d hl hr h : Nat} {L R : Tre} (hT : IsT cs h (.nd d hl hr L R)) : NdOk cs d hl hr L R := by
  obtain ⟨h1, h2, h3, h4, h5, h6, h7, h8⟩ := hT
  obtain ⟨i, rfl⟩ : ∃ i, h = i + 1 := ⟨h - 1, by omega⟩
  rw [Nat.add_sub_cancel] at h2 h3 h4 h5 h6
  have okL := tree_ok w L hl h7
  have okR := tree_ok w R hr h8
  rcases w.tr i h2 with hn | hn
  · have := hn.kind; omega
  have hdp := hn.dp
  have sl := hn.sl
  have sr := hn.sr
  have hsz := hn.sz
  have htwo := hn.two
  rw [h4] at hdp sl sr
  rw [h5] at sl hsz
  rw [h6] at sr hsz
  have side : ∀ (q : Nat) (b : Int) (U : Tre), TreeOk cs q U → SideOk cs d b q → (∀ e ∈ U.ents, kb e.1 d = b) ∧ ((sdC cs q).kind = 2 → (sdC cs q).dp = d + 1) := fun q b U ok s => by
    rcases s with rfl | ⟨q1, q2, q3, q4⟩
    · refine ⟨fun e he => ?_, fun k => absurd k (by show ¬ zc.kind = 2; decide)⟩
      have := ok.sz
      rw [show (sdC cs 0).sz = 0 from rfl] at this
      rw [List.eq_nil_of_length_eq_zero this.symm] at he
      cases he
    · have es : sdC cs q = ce cs (q - 1) := if_neg (by omega)
      refine ⟨fun e he => ?_, fun k => ?_⟩
      · rw [ok.share (d + 1) (by omega) (fun k => by rcases q4 with q4 | ⟨_, q4⟩ <;> omega) e he d (by omega), es]
        exact q3
      · rw [es] at k ⊢
        rcases q4 with q4 | ⟨_, q4⟩
        · omega
        · exact q4
  obtain ⟨a1, a2⟩ := side hl 0 L okL sl
  obtain ⟨b1, b2⟩ := side hr 1 R okR sr
  exact ⟨hdp, a1, b1, by rw [List.length_append, ← okL.sz, ← okR.sz, ← hsz]; exact htwo, a2, b2⟩

theorem NdOk.side0 {cs : List (Nat × Ce)} {d hl hr : Nat} {L R : Tre} (n : NdOk cs d hl hr L R) : sideOf (L.ents ++ R.ents) d 0 = L.ents := by
  rw [sideOf_app, sideOf_all L.ents d 0 (fun e he => by rw [kbi_in _ _ n.dp]; exact n.bL e he), sideOf_none R.ents d 0 1 (fun e he => by rw [kbi_in _ _ n.dp]; exact n.bR e he) (by omega), List.append_nil]
theorem NdOk.side1 {cs : List (Nat × Ce)} {d hl hr : Nat} {L R : Tre} (n : NdOk cs d hl hr L R) : sideOf (L.ents ++ R.ents) d 1 = R.ents := by
  rw [sideOf_app, sideOf_none L.ents d 1 0 (fun e he => by rw [kbi_in _ _ n.dp]; exact n.bL e he) (by omega), sideOf_all R.ents d 1 (fun e he => by rw [kbi_in _ _ n.dp]; exact n.bR e he), List.nil_append]

theorem sds_few (n d : Nat) (l : List Ent) (K : List Int) (h : l.length ≤ 1) : sds n d l K = [] ∧ rst n d l K = l := by
  cases n with
  | zero => exact ⟨rfl, rfl⟩
  | succ n => exact ⟨by rw [sds, if_pos h], by rw [rst, if_pos h]⟩

/-- A key's way in the tree is its way among the tree's entries. -/
theorem way_tree {cs : List (Nat × Ce)} {pend : List Nat} (w : Wf cs pend) (K : List Int) : ∀ (T : Tre) (h d : Nat), IsT cs h T → ((sdC cs h).kind = 2 → (sdC cs h).dp = d) → d ≤ 256 → (T.oth K).map (sdD cs) = sds (256 - d) d T.ents K ∧ T.efin K = rst (256 - d) d T.ents K ∧ (T.oth K).length ≤ 256 - d
  | .emp, h, d, _, _, _ => by
    obtain ⟨e1, e2⟩ := sds_few (256 - d) d Tre.emp.ents K (by simp [Tre.ents])
    rw [e1, e2]
    exact ⟨rfl, rfl, Nat.zero_le _⟩
  | .lf k b, h, d, _, _, _ => by
    obtain ⟨e1, e2⟩ := sds_few (256 - d) d (Tre.lf k b).ents K (by simp [Tre.ents])
    rw [e1, e2]
    exact ⟨rfl, rfl, Nat.zero_le _⟩
  | .nd d hl hr L R, h, d', hT, hd, _ => by
    have n := nd_ok w hT
    obtain ⟨h1, h2, h3, h4, h5, h6, h7, h8⟩ := hT
    have es : sdC cs h = ce cs (h - 1) := if_neg (by omega)
    obtain rfl : d = d' := by
      rw [es] at hd
      rw [← h4]
      exact hd h3
    have okL := tree_ok w L hl h7
    have okR := tree_ok w R hr h8
    have hdp := n.dp
    obtain ⟨l1, l2, l3⟩ := way_tree w K L hl (d + 1) h7 n.kl (by omega)
    obtain ⟨r1, r2, r3⟩ := way_tree w K R hr (d + 1) h8 n.kr (by omega)
    have dl := okL.dig (d + 1) n.kl
    have dr := okR.dig (d + 1) n.kr
    obtain ⟨m, hm⟩ : ∃ m, 256 - d = m + 1 := ⟨255 - d, by omega⟩
    have hm2 : 256 - (d + 1) = m := by omega
    rw [hm2] at l1 l2 l3 r1 r2 r3 dl dr
    have htwo := n.two
    rw [hm]
    show (Tre.oth K (.nd d hl hr L R)).map (sdD cs) = sds (m + 1) d (L.ents ++ R.ents) K ∧ Tre.efin K (.nd d hl hr L R) = rst (m + 1) d (L.ents ++ R.ents) K ∧ (Tre.oth K (.nd d hl hr L R)).length ≤ m + 1
    rw [sds, rst, if_neg (by omega), if_neg (by omega)]
    rcases kb_two K d with q | q
    · rw [q, show (1 : Int) - 0 = 1 from rfl, n.side0, n.side1]
      simp only [Tre.oth, Tre.efin, q]
      refine ⟨?_, l2, ?_⟩
      · simp only [show ¬ ((0 : Int) = 1) by omega, if_false, List.map_cons]
        rw [l1, dr]
      · simp only [show ¬ ((0 : Int) = 1) by omega, if_false, List.length_cons]
        omega
    · rw [q, show (1 : Int) - 1 = 0 from rfl, n.side0, n.side1]
      simp only [Tre.oth, Tre.efin, q]
      refine ⟨?_, r2, ?_⟩
      · simp only [if_true, List.map_cons]
        rw [r1, dl]
      · simp only [if_true, List.length_cons]
        omega

/-- Ways hang on no order. -/
theorem way_perm (K : List Int) : ∀ (n d : Nat) (l m : List Ent), l.Perm m → sds n d l K = sds n d m K ∧ (rst n d l K).Perm (rst n d m K)
  | 0, _, _, _, h => ⟨rfl, h⟩
  | n + 1, d, l, m, h => by
    have hl := h.length_eq
    have hs : ∀ c, (sideOf l d c).Perm (sideOf m d c) := fun c => h.filter _
    obtain ⟨i1, i2⟩ := way_perm K n (d + 1) _ _ (hs (kb K d))
    rw [sds, sds, rst, rst]
    by_cases q : l.length ≤ 1
    · rw [if_pos q, if_pos q, if_pos (by omega), if_pos (by omega)]
      exact ⟨rfl, h⟩
    · rw [if_neg q, if_neg q, if_neg (by omega), if_neg (by omega), i1, rt_perm n (d + 1) _ _ (hs _)]
      exact ⟨rfl, i2⟩

/-- What the way ends with. -/
theorem fin_is {cs : List (Nat × Ce)} (K : List Int) : ∀ (T : Tre) (h : Nat), IsT cs h T → (T.fin K h = 0 ∧ T.efin K = []) ∨ ∃ k b, T.efin K = [(k, b)] ∧ 1 ≤ T.fin K h ∧ 0 < cc cs (T.fin K h - 1) ∧ (ce cs (T.fin K h - 1)).kind = 1 ∧ (ce cs (T.fin K h - 1)).key = k ∧ (ce cs (T.fin K h - 1)).bs = b
  | .emp, h, e => .inl ⟨e, rfl⟩
  | .lf k b, h, ⟨h1, h2, h3, h4, h5⟩ => .inr ⟨k, b, rfl, h1, h2, h3, h4, h5⟩
  | .nd d hl hr L R, h, ⟨_, _, _, _, _, _, h7, h8⟩ => by
    have a := fin_is K L hl h7
    have b := fin_is K R hr h8
    simp only [Tre.fin, Tre.efin]
    by_cases q : kb K d = 1
    · simp only [q, if_true]
      exact b
    · simp only [q, if_false]
      exact a

/-- An entry with that key is the one with which the way ends. -/
theorem efin_key {cs : List (Nat × Ce)} {pend : List Nat} (w : Wf cs pend) (K : List Int) : ∀ (T : Tre) (h : Nat), IsT cs h T → ∀ e ∈ T.ents, e.1 = K → T.efin K = [e]
  | .emp, _, _, e, he, _ => by cases he
  | .lf k b, _, _, e, he, _ => by
    obtain rfl : e = (k, b) := by simpa [Tre.ents] using he
    rfl
  | .nd d hl hr L R, h, hT, e, he, hK => by
    have n := nd_ok w hT
    obtain ⟨_, _, _, _, _, _, h7, h8⟩ := hT
    simp only [Tre.efin]
    rcases List.mem_append.1 he with he | he
    · have := n.bL e he
      rw [hK] at this
      rw [if_neg (by omega)]
      exact efin_key w K L hl h7 e he hK
    · have := n.bR e he
      rw [hK] at this
      rw [if_pos this]
      exact efin_key w K R hr h8 e he hK
theorem efin_mem (K : List Int) : ∀ (T : Tre), ∀ e ∈ T.efin K, e ∈ T.ents
  | .emp, e, he => by cases he
  | .lf k b, e, he => he
  | .nd d hl hr L R, e, he => by
    simp only [Tre.efin] at he
    split at he
    · exact List.mem_append_right _ (efin_mem K R e he)
    · exact List.mem_append_left _ (efin_mem K L e he)

end Go.Proofs.YtkhinjkcfjncgaaGreatDoor
