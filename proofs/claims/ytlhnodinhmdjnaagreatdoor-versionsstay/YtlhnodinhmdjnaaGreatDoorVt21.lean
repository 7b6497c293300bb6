/- What a store tells of a handle, as contracts: of a store that New answered, and of what is no store, alike (Vw). -/
import Derived.Test.YtlhnodinhmdjnaaGreatDoorVt18
import Derived.Test.YtlhnodinhmdjnaaGreatDoorVt20
import Derived.Test.YtlhnodinhmdjnaaGreatDoorVt06
import Derived.Deep.RegionHeld
import Derived.Test.YtlhnodinhmdjnaaGreatDoorVt01
namespace Go.Proofs.YtlhnodinhmdjnaaGreatDoor
set_option maxRecDepth 20000
open Go.RowKit

/-- v answers as a store does that has these counts and nodes; mk: New answered it. -/
structure Vw (w : World) (v : Value) (mk : Bool) (ct : Int → Nat) (ca : Int → Ce) : Prop where
  made : ∀ w', Below w.heap.size w w' → Calls Tryz.prog 69 #[v] w' fun e w'' => e = .returned (.bool mk) ∧ w'' = w'
  atv : ∀ w' h, Below w.heap.size w w' → Calls Tryz.prog 71 #[v, .int .i64 h] w' fun e w'' => e = .returned (.agg (cz (ca h)).toArray) ∧ Below w'.heap.size w' w''
  count : ∀ w' h, Below w.heap.size w w' → Calls Tryz.prog 88 #[v, .int .i64 h] w' fun e w'' => e = .returned (.int .i64 (ct h : Int)) ∧ w'' = w'
  ok : ∀ h, CeOk (ca h)
  val : ∀ h, Reads w (ca h).val (ca h).bs
  len : ∀ h, (ca h).bs.length ≤ 1024
  le : ∀ h, (ca h).ab ≤ ct h ∧ ct h ≤ 1073741824

theorem Vw.grow {w w' : World} {v : Value} {mk : Bool} {ct : Int → Nat} {ca : Int → Ce} (V : Vw w v mk ct ca) (hb : Below w.heap.size w w') : Vw w' v mk ct ca :=
  ⟨fun w'' h => V.made w'' (grow_trans hb h), fun w'' x h => V.atv w'' x (grow_trans hb h), fun w'' x h => V.count w'' x (grow_trans hb h), V.ok, fun h => (V.val h).grow hb, V.len, V.le⟩

set_option maxHeartbeats 400000 in
theorem countS_ok {w : World} {g gs : Nat} {vp vf : Value} {room : Nat} {cs : List (Nat × Ce)} {fr : List Nat} (s : Stm w g gs vp vf room cs fr) (h : Int) : Calls Tryz.prog 88 #[.pointer (some ⟨g, 0, none⟩), .int .i64 h] w fun e w' => e = .returned (.int .i64 (cot cs h : Int)) ∧ w' = w := by
  have c0 := s.c0
  have c1 := s.c1
  have HC := hidden (count_any s h)
  generalize cot cs h = q at HC ⊢
  clear s
  go_enter Tryz.func88, Tryz.ntmps88
  go_wp2_with (first
    | (go_at_call 69; refine (madeS_ok g _ c0).mono ?_; rintro e w' ⟨rfl, hx⟩; rw [hx]; clear hx w')
    | (go_at_call 119; refine HC.out.mono ?_; rintro e w' ⟨rfl, hx⟩; rw [hx]; clear hx w'))
  go_ret
  exact ⟨rfl, rfl⟩

set_option maxHeartbeats 400000 in
theorem countS_no (v : Value) (h : Int) (w : World) (hn : NoS w v) : Calls Tryz.prog 88 #[v, .int .i64 h] w fun e w' => e = .returned (.int .i64 0) ∧ w' = w := by
  have HN := hidden hn
  clear hn
  go_enter Tryz.func88, Tryz.ntmps88
  go_wp2_with (go_at_call 69; refine (madeS_no v _ HN.out).mono ?_; rintro e w' ⟨rfl, hx⟩; rw [hx]; clear hx w')
  go_ret
  exact ⟨rfl, rfl⟩

theorem vw_no {w : World} {v : Value} (hn : NoS w v) : Vw w v false (fun _ => 0) (fun _ => zc) :=
  ⟨fun w' hb => madeS_no v w' (hn.grow hb), fun w' h hb => atS_no v h w' (hn.grow hb), fun w' h hb => countS_no v h w' (hn.grow hb), fun _ => zc_ok, fun _ => Reads.nil _, fun _ => by decide, fun _ => by decide⟩

theorem Wf.bsLen {cs : List (Nat × Ce)} {pend : List Nat} (w : Wf cs pend) (h : Int) : (cat cs h).bs.length ≤ 1024 := by
  by_cases hc : cot cs h = 0
  · rw [w.cat0 hc]
    decide
  · obtain ⟨i, h1, h2, h3, h4⟩ := cot_in (cs := cs) (h := h) (by omega)
    rw [h4]
    rcases w.tr i h2 with hl | hn
    · exact hl.len
    · rw [hn.bs]
      decide

theorem vw_ok {w : World} {g gs : Nat} {vp vf : Value} {room : Nat} {cs : List (Nat × Ce)} {fr pend : List Nat} (s : Stm w g gs vp vf room cs fr) (hw : Wf cs pend) : Vw w (.pointer (some ⟨g, 0, none⟩)) true (cot cs) (cat cs) := by
  refine ⟨fun w' hb => madeS_ok g w' (s.grow hb).c0, fun w' h hb => atS_ok (s.grow hb) hw h, fun w' h hb => countS_ok (s.grow hb) h, hw.catOk, fun h => ?_, hw.bsLen, fun h => ?_⟩
  · unfold cat
    split
    · obtain ⟨sp, ho⟩ := s.vals (h - 1).toNat
      exact ho.reads
    · exact Reads.nil _
  · unfold cat cot
    split
    · have h1 := hw.le (h - 1).toNat
      have h2 := s.sl.inv.most (h - 1).toNat
      rw [cnt_pl] at h2
      omega
    · exact ⟨by decide, by decide⟩

set_option maxHeartbeats 400000 in
theorem kind_any {w : World} {v : Value} {mk : Bool} {ct : Int → Nat} {ca : Int → Ce} (V : Vw w v mk ct ca) (h : Int) : Calls Tryz.prog 42 #[v, .int .i64 h] w fun e w' => e = .returned (.int .u8 (ca h).kind) ∧ Below w.heap.size w w' := by
  have HA := hidden (V.atv w h (Below.refl _ _))
  have hf := fld_kind (ca h) (V.ok h)
  obtain ⟨c, hc⟩ : ∃ c, c = ca h := ⟨_, rfl⟩
  rw [← hc] at HA hf
  rw [← hc]
  clear hc V
  go_enter Tryz.func42, Tryz.ntmps42
  go_wp2_with (go_at_call 71; refine HA.out.mono ?_; rintro e w1 ⟨rfl, b1⟩)
  go_ret
  exact ⟨rfl, b1⟩

set_option maxHeartbeats 400000 in
theorem size_any {w : World} {v : Value} {mk : Bool} {ct : Int → Nat} {ca : Int → Ce} (V : Vw w v mk ct ca) (h : Int) : Calls Tryz.prog 41 #[v, .int .i64 h] w fun e w' => e = .returned (.int .i64 ((ca h).sz : Int)) ∧ Below w.heap.size w w' := by
  have HA := hidden (V.atv w h (Below.refl _ _))
  have hf := fld_sz (ca h) (V.ok h)
  obtain ⟨c, hc⟩ : ∃ c, c = ca h := ⟨_, rfl⟩
  rw [← hc] at HA hf
  rw [← hc]
  clear hc V
  go_enter Tryz.func41, Tryz.ntmps41
  go_wp2_with (go_at_call 71; refine HA.out.mono ?_; rintro e w1 ⟨rfl, b1⟩)
  go_ret
  exact ⟨rfl, b1⟩

set_option maxHeartbeats 400000 in
theorem held_any {w : World} {v : Value} {mk : Bool} {ct : Int → Nat} {ca : Int → Ce} (V : Vw w v mk ct ca) (h : Int) : Calls Tryz.prog 57 #[v, .int .i64 h] w fun e w' => e = .returned (.int .i64 ((ct h - (ca h).ab : Nat) : Int)) ∧ Below w.heap.size w w' := by
  have HA := hidden (V.atv w h (Below.refl _ _))
  have HC := hidden (V.count w h (Below.refl _ _))
  have hf := fld_ab (ca h) (V.ok h)
  obtain ⟨h1, h2⟩ := V.le h
  obtain ⟨q, hq⟩ : ∃ q, q = ct h := ⟨_, rfl⟩
  rw [← hq] at HC h1 h2
  rw [← hq]
  obtain ⟨c, hc⟩ : ∃ c, c = ca h := ⟨_, rfl⟩
  rw [← hc] at HA hf h1
  rw [← hc]
  have HW : Hid (wrap64 ((q : Int) - (c.ab : Int)) = ((q - c.ab : Nat) : Int)) := by
    show _ = _
    rw [Go.IntWalk.wrap64_in _ (by omega)]
    omega
  clear hc hq V h1 h2
  go_enter Tryz.func57, Tryz.ntmps57
  go_wp2_with (first
    | (go_at_call 88; refine HC.out.mono ?_; rintro e w' ⟨rfl, hx⟩; rw [hx]; clear hx w')
    | (go_at_call 71; refine HA.out.mono ?_; rintro e w1 ⟨rfl, b1⟩))
  go_ret
  exact ⟨by rw [← HW.out]; rfl, b1⟩

set_option maxHeartbeats 400000 in
theorem has_any {w : World} {v : Value} {mk : Bool} {ct : Int → Nat} {ca : Int → Ce} (V : Vw w v mk ct ca) (h : Int) : Calls Tryz.prog 78 #[v, .int .i64 h] w fun e w' => e = .returned (.bool (decide (0 < ct h))) ∧ Below w.heap.size w w' := by
  have HC := hidden (V.count w h (Below.refl _ _))
  obtain ⟨q, hq⟩ : ∃ q, q = ct h := ⟨_, rfl⟩
  rw [← hq] at HC
  rw [← hq]
  clear hq V
  have e0 : decide ((0 : Int) < (q : Int)) = decide (0 < q) := by simp
  go_enter Tryz.func78, Tryz.ntmps78
  go_wp2_with (go_at_call 88; refine HC.out.mono ?_; rintro e w' ⟨rfl, hx⟩; rw [hx]; clear hx w')
  go_ret
  exact ⟨rfl, Below.refl _ _⟩

set_option maxHeartbeats 1000000 in
theorem key_any {w : World} {v : Value} {mk : Bool} {ct : Int → Nat} {ca : Int → Ce} (V : Vw w v mk ct ca) (h : Int) : Calls Tryz.prog 46 #[v, .int .i64 h] w fun e w' => e = .returned (.agg (B (ca h).key)) ∧ Below w.heap.size w w' := by
  have HA : Hid (∀ w', Below w.heap.size w w' → Calls Tryz.prog 71 #[v, .int .i64 h] w' fun e w'' => e = .returned (.agg (cz (ca h)).toArray) ∧ Below w'.heap.size w' w'') := fun w' hb => V.atv w' h hb
  have hf := fld_key (ca h) (V.ok h)
  obtain ⟨c, hc⟩ : ∃ c, c = ca h := ⟨_, rfl⟩
  have HSZ : Hid ((B (ca h).key).size = 32) := by rw [B_size]; exact (V.ok h).hk.1
  rw [← hc] at HA hf HSZ
  rw [← hc]
  clear hc V
  go_enter Tryz.func46, Tryz.ntmps46
  go_wp2_with (first
    | ((with_reducible refine at_ald 4 ?_); refine wpList_al _ rfl _ rfl _ zero_path ?_; intro w1 b4 hg4 hl4 B4 b1; have HB4 := hidden B4; have Hg4 := hidden hg4; clear B4 hg4 hl4)
    | (go_at_call 71; refine (HA.out _ b1).mono ?_; rintro e w2 ⟨rfl, b2⟩; have B4' := hidden (HB4.out.grow b2); have Hb2 := hidden b2; clear b2)
    | ((with_reducible refine at_st 4 ?_); refine wpList_sto _ rfl _ _ _ rfl b4 _ (B c.key) rfl rfl B4'.out (by rw [HSZ.out]; exact size_path) (by rw [HSZ.out, B_size]; simp) (B_one _) ?_; intro w3 B5 g3))
  exact bodyPost_ret (v := .agg (B c.key)) (results_cell_row rfl _ _ b4 _ _ _ _ rfl B5 Tryz.underlying23 rfl (by rw [HSZ.out]; exact size_path)) rfl ⟨rfl, below_row (grow_trans b1 Hb2.out) g3 Hg4.out⟩

theorem run_nil_bytes (a : Option Addr) (n c : Nat) (w : World) : (binOp .eql 35 (.slice a n c) (.slice none 0 0)).run Tryz.prog w = .ok (.bool a.isNone) w := by
  obtain ⟨e, he⟩ : ∃ e, Tryz.prog.underlying 35 = some (.slice e) := ⟨_, Tryz.underlying35⟩
  have h : ∀ d : Nat, (Op.equalIn (d + 1) 35 (.slice a n c) (.slice none 0 0)).run Tryz.prog w = .ok a.isNone w := fun d => by
    cases a <;> simp [Op.equalIn, run_underlying he]
  simp only [binOp]
  simp [Op.equal, Op.maxDepth, h 9999]

set_option maxHeartbeats 400000 in
/-- bytes.Clone: a list of the call's own. -/
theorem clone_any (v : Value) (zs : List Int) (w : World) (hr : Reads w v zs) (hl : zs.length ≤ 140737488355328) : Calls Tryz.prog 83 #[v] w fun e w' => ∃ v' sp, e = .returned v' ∧ Own w.heap.size w' v' zs sp ∧ Below w.heap.size w w' := by
  have HR := hidden hr
  have HL := hidden hl
  obtain ⟨a, cap, rfl, hc, hz, _, _⟩ := hr
  cases a with
  | none =>
    have h0 := hz rfl
    subst h0
    have hn : zs = [] := List.eq_nil_of_length_eq_zero (by omega)
    subst hn
    have hq := run_nil_bytes none 0 0 w
    clear hc hz hl HR HL
    go_enter Tryz.func83, Tryz.ntmps83
    go_wp2
    go_ret
    exact ⟨_, [], rfl, Own.nil _ _, Below.refl _ _⟩
  | some x =>
    have HO := hidden (Own.empty w.heap.size w (Nat.le_refl _))
    have HR2 := hidden (HR.out.grow (grow_alloc w (.cells #[] 5)))
    have hq := run_nil_bytes (some x) zs.length cap w
    clear hz hl hc HR
    go_enter Tryz.func83, Tryz.ntmps83
    go_wp2_with (at_builtin; refine wpList_app _ rfl _ _ rfl w.heap.size _ _ [] [] zs HO.out HR2.out rfl rfl (by simpa using HL.out) (by simp) ?_; intro v' w' sp' o' g' _ _)
    go_ret
    exact ⟨_, sp', rfl, o', below_row (grow_alloc w _) (by simpa [Value.ownBlock] using g') (Nat.le_refl _)⟩

set_option maxHeartbeats 400000 in
theorem valueS_any {w : World} {v : Value} {mk : Bool} {ct : Int → Nat} {ca : Int → Ce} (V : Vw w v mk ct ca) (h : Int) : Calls Tryz.prog 81 #[v, .int .i64 h] w fun e w' => ∃ v' sp, e = .returned v' ∧ Own w.heap.size w' v' (ca h).bs sp ∧ Below w.heap.size w w' := by
  have HA := hidden (V.atv w h (Below.refl _ _))
  have hf := fld_val (ca h) (V.ok h)
  have HR := hidden (V.val h)
  have HL := hidden (V.len h)
  obtain ⟨c, hc⟩ : ∃ c, c = ca h := ⟨_, rfl⟩
  rw [← hc] at HA hf HR HL
  rw [← hc]
  clear hc V
  go_enter Tryz.func81, Tryz.ntmps81
  go_wp2_with (first
    | (go_at_call 71; refine HA.out.mono ?_; rintro e w1 ⟨rfl, b1⟩)
    | (go_at_call 83; refine (clone_any _ c.bs _ (HR.out.grow b1) (by have := HL.out; omega)).mono ?_; rintro e w2 ⟨v', sp, rfl, o2, b2⟩))
  go_ret
  exact ⟨_, sp, rfl, o2.mono b1.size, grow_trans b1 b2⟩

set_option maxHeartbeats 1000000 in
theorem sides_any {w : World} {v : Value} {mk : Bool} {ct : Int → Nat} {ca : Int → Ce} (V : Vw w v mk ct ca) (h : Int) : Calls Tryz.prog 43 #[v, .int .i64 h] w fun e w' => e = .returned (.tuple #[.int .i64 ((ca h).l : Int), .int .i64 ((ca h).r : Int)]) ∧ Below w.heap.size w w' := by
  have HA := hidden (V.atv w h (Below.refl _ _))
  have HO := hidden (V.ok h)
  obtain ⟨c, hc⟩ : ∃ c, c = ca h := ⟨_, rfl⟩
  rw [← hc] at HA HO
  rw [← hc]
  clear hc V
  go_enter Tryz.func43, Tryz.ntmps43
  go_wp2_with (first
    | (go_at_call 71; refine HA.out.mono ?_; rintro e w1 ⟨rfl, b1⟩)
    | ((with_reducible refine at_ald 6 ?_); refine wpList_al _ rfl _ rfl _ zero_thC ?_; intro w2 b6 hg6 hl6 B6 b2; have HB6 := hidden B6; have Hg6 := hidden hg6; have Hb2 := hidden b2; clear B6 hg6 hl6 b2)
    | ((with_reducible refine at_st 6 ?_); refine wpList_sto _ rfl _ _ _ rfl b6 _ (cz c).toArray rfl rfl HB6.out (xszC (cz c) (cz_th HO.out)) (xzsC (cz c) (cz_th HO.out)) (all_oneCell_toArray (cz_one HO.out)) ?_; intro w3 B7 g3; have c7 := B7.cell 69; have c8 := B7.cell 70; simp only [List.getElem?_toArray] at c7 c8; rw [(cz_at c HO.out).2.2.2.2.2.1] at c7; rw [(cz_at c HO.out).2.2.2.2.2.2] at c8; have Hg3 := hidden g3; clear B7 g3))
  go_quiet (fail)
  go_wp2
  go_ret2
  exact ⟨rfl, below_drewN (below_row (grow_trans b1 Hb2.out) Hg3.out (by have := Hg6.out; have := b1.size; omega)) _⟩

/-- What Depth answers. -/
def vDp (mk : Bool) (c : Ce) : Int := if mk then (if c.kind = 2 then (c.dp : Int) else -1) else 0

set_option maxHeartbeats 1000000 in
theorem depth_any {w : World} {v : Value} {mk : Bool} {ct : Int → Nat} {ca : Int → Ce} (V : Vw w v mk ct ca) (h : Int) : Calls Tryz.prog 45 #[v, .int .i64 h] w fun e w' => e = .returned (.int .i64 (vDp mk (ca h))) ∧ Below w.heap.size w w' := by
  have HM := hidden (V.made w (Below.refl _ _))
  cases mk with
  | false =>
    clear V
    go_enter Tryz.func45, Tryz.ntmps45
    go_wp2_with (go_at_call 69; refine HM.out.mono ?_; rintro e w' ⟨rfl, hx⟩; rw [hx]; clear hx w')
    go_ret
    exact ⟨rfl, Below.refl _ _⟩
  | true =>
    have HA := hidden (V.atv w h (Below.refl _ _))
    have HO := hidden (V.ok h)
    obtain ⟨c, hc⟩ : ∃ c, c = ca h := ⟨_, rfl⟩
    rw [← hc] at HA HO
    rw [← hc]
    clear hc V
    by_cases hk : c.kind = 2
    · have HV : Hid (vDp true c = (c.dp : Int)) := by simp [vDp, hk, Hid]
      rw [HV.out]
      have HK := hidden hk
      clear hk HV
      go_enter Tryz.func45, Tryz.ntmps45
      go_wp2_with (first
        | (go_at_call 69; refine HM.out.mono ?_; rintro e w' ⟨rfl, hx⟩; rw [hx]; clear hx w')
        | (go_at_call 71; refine HA.out.mono ?_; rintro e w1 ⟨rfl, b1⟩)
        | ((with_reducible refine at_ald 5 ?_); refine wpList_al _ rfl _ rfl _ zero_thC ?_; intro w2 b6 hg6 hl6 B6 b2; have HB6 := hidden B6; have Hg6 := hidden hg6; have Hb2 := hidden b2; clear B6 hg6 hl6 b2)
        | ((with_reducible refine at_st 5 ?_); refine wpList_sto _ rfl _ _ _ rfl b6 _ (cz c).toArray rfl rfl HB6.out (xszC (cz c) (cz_th HO.out)) (xzsC (cz c) (cz_th HO.out)) (all_oneCell_toArray (cz_one HO.out)) ?_; intro w3 B7 g3; have c7 := B7.cell 32; have c8 := B7.cell 68; simp only [List.getElem?_toArray] at c7 c8; rw [(cz_at c HO.out).1, HK.out] at c7; rw [(cz_at c HO.out).2.2.2.2.1] at c8; have Hg3 := hidden g3; clear B7 g3))
      go_ret
      exact ⟨rfl, below_row (grow_trans b1 Hb2.out) Hg3.out (by have := Hg6.out; have := b1.size; omega)⟩
    · have HV : Hid (vDp true c = -1) := by simp [vDp, hk, Hid]
      rw [HV.out]
      have hk2 : (c.kind == 2) = false := by simp [hk]
      have HK := hidden hk
      clear hk HV
      obtain ⟨k, hkk⟩ : ∃ k, k = c.kind := ⟨_, rfl⟩
      have HKK := hidden hkk
      rw [← hkk] at hk2
      clear hkk
      go_enter Tryz.func45, Tryz.ntmps45
      go_wp2_with (first
        | (go_at_call 69; refine HM.out.mono ?_; rintro e w' ⟨rfl, hx⟩; rw [hx]; clear hx w')
        | (go_at_call 71; refine HA.out.mono ?_; rintro e w1 ⟨rfl, b1⟩)
        | ((with_reducible refine at_ald 5 ?_); refine wpList_al _ rfl _ rfl _ zero_thC ?_; intro w2 b6 hg6 hl6 B6 b2; have HB6 := hidden B6; have Hg6 := hidden hg6; have Hb2 := hidden b2; clear B6 hg6 hl6 b2)
        | ((with_reducible refine at_st 5 ?_); refine wpList_sto _ rfl _ _ _ rfl b6 _ (cz c).toArray rfl rfl HB6.out (xszC (cz c) (cz_th HO.out)) (xzsC (cz c) (cz_th HO.out)) (all_oneCell_toArray (cz_one HO.out)) ?_; intro w3 B7 g3; have c7 := B7.cell 32; simp only [List.getElem?_toArray] at c7; rw [(cz_at c HO.out).1, ← HKK.out] at c7; have Hg3 := hidden g3; clear B7 g3))
      go_ret
      exact ⟨rfl, below_row (grow_trans b1 Hb2.out) Hg3.out (by have := Hg6.out; have := b1.size; omega)⟩

/-- What Root answers. -/
def vRt (mk : Bool) (q : Nat) (c : Ce) (h : Int) : Int := if mk then (if h = 0 then 0 else if q = 0 then 7 else if 0 < vDp mk c then 2 else 0) else 1

set_option maxHeartbeats 1000000 in
theorem root_any {w : World} {v : Value} {mk : Bool} {ct : Int → Nat} {ca : Int → Ce} (V : Vw w v mk ct ca) (h : Int) : Calls Tryz.prog 40 #[v, .int .i64 h] w fun e w' => e = .returned (.int .i64 (vRt mk (ct h) (ca h) h)) ∧ Below w.heap.size w w' := by
  have HM := hidden (V.made w (Below.refl _ _))
  cases mk with
  | false =>
    clear V
    go_enter Tryz.func40, Tryz.ntmps40
    go_wp2_with (go_at_call 69; refine HM.out.mono ?_; rintro e w' ⟨rfl, hx⟩; rw [hx]; clear hx w')
    go_ret
    exact ⟨rfl, Below.refl _ _⟩
  | true =>
    by_cases h0 : h = 0
    · subst h0
      have HV : Hid (vRt true (ct 0) (ca 0) 0 = 0) := rfl
      rw [HV.out]
      clear V HV
      go_enter Tryz.func40, Tryz.ntmps40
      go_wp2_with (go_at_call 69; refine HM.out.mono ?_; rintro e w' ⟨rfl, hx⟩; rw [hx]; clear hx w')
      go_ret
      exact ⟨rfl, Below.refl _ _⟩
    · have HH := hidden (has_any V h)
      have HD : Hid (∀ w', Below w.heap.size w w' → Calls Tryz.prog 45 #[v, .int .i64 h] w' fun e w'' => e = .returned (.int .i64 (vDp true (ca h))) ∧ Below w'.heap.size w' w'') := fun w' hb => depth_any (V.grow hb) h
      have hb0 : (h == 0) = false := by simp [h0]
      by_cases hq : 0 < ct h
      · have e1 : decide (0 < ct h) = true := by simp [hq]
        rw [e1] at HH
        by_cases hd : 0 < vDp true (ca h)
        · have HV : Hid (vRt true (ct h) (ca h) h = 2) := by simp [vRt, h0, hd, Hid]; omega
          rw [HV.out]
          obtain ⟨q, hqq⟩ : ∃ q, q = vDp true (ca h) := ⟨_, rfl⟩
          rw [← hqq] at HD hd
          clear V HV h0 hq e1 hqq
          go_enter Tryz.func40, Tryz.ntmps40
          go_wp2_with (first
            | (go_at_call 69; refine HM.out.mono ?_; rintro e w' ⟨rfl, hx⟩; rw [hx]; clear hx w')
            | (go_at_call 78; refine HH.out.mono ?_; rintro e w1 ⟨rfl, b1⟩)
            | (go_at_call 45; refine (HD.out _ b1).mono ?_; rintro e w2 ⟨rfl, b2⟩))
          go_ret
          exact ⟨rfl, grow_trans b1 b2⟩
        · have HV : Hid (vRt true (ct h) (ca h) h = 0) := by simp [vRt, h0, hd, Hid]; omega
          rw [HV.out]
          obtain ⟨q, hqq⟩ : ∃ q, q = vDp true (ca h) := ⟨_, rfl⟩
          rw [← hqq] at HD hd
          clear V HV h0 hq e1 hqq
          go_enter Tryz.func40, Tryz.ntmps40
          go_wp2_with (first
            | (go_at_call 69; refine HM.out.mono ?_; rintro e w' ⟨rfl, hx⟩; rw [hx]; clear hx w')
            | (go_at_call 78; refine HH.out.mono ?_; rintro e w1 ⟨rfl, b1⟩)
            | (go_at_call 45; refine (HD.out _ b1).mono ?_; rintro e w2 ⟨rfl, b2⟩))
          go_ret
          exact ⟨rfl, grow_trans b1 b2⟩
      · have e1 : decide (0 < ct h) = false := by simp [hq]
        rw [e1] at HH
        have HV : Hid (vRt true (ct h) (ca h) h = 7) := by simp [vRt, h0, Hid]; omega
        rw [HV.out]
        clear V HV h0 hq e1 HD
        go_enter Tryz.func40, Tryz.ntmps40
        go_wp2_with (first
          | (go_at_call 69; refine HM.out.mono ?_; rintro e w' ⟨rfl, hx⟩; rw [hx]; clear hx w')
          | (go_at_call 78; refine HH.out.mono ?_; rintro e w1 ⟨rfl, b1⟩))
        go_ret
        exact ⟨rfl, b1⟩

/-- What Digest answers. -/
def vDg (mk : Bool) (ca : Int → Ce) (h : Int) : List Int := if mk = true ∧ h = 0 then emD else (ca h).dig
theorem vDg_len {w : World} {v : Value} {mk : Bool} {ct : Int → Nat} {ca : Int → Ce} (V : Vw w v mk ct ca) (h : Int) : (vDg mk ca h).length = 32 ∧ Bytes (vDg mk ca h) := by
  unfold vDg
  split
  · exact ⟨dig_length _, dig_bytes _⟩
  · exact ⟨(V.ok h).ld, (V.ok h).bd⟩

set_option maxHeartbeats 1000000 in
theorem sdig_any {w : World} {v : Value} {mk : Bool} {ct : Int → Nat} {ca : Int → Ce} (V : Vw w v mk ct ca) (h : Int) (hL : Laid w) : Calls Tryz.prog 29 #[v, .int .i64 h] w fun e w' => e = .returned (.agg (B (vDg mk ca h))) ∧ Below w.heap.size w w' := by
  have HM : Hid (∀ w', Below w.heap.size w w' → Calls Tryz.prog 69 #[v] w' fun e w'' => e = .returned (.bool mk) ∧ w'' = w') := V.made
  by_cases hc : mk = true ∧ h = 0
  · obtain ⟨rfl, rfl⟩ := hc
    have HE : Hid (∀ w', Below w.heap.size w w' → Calls Tryz.prog 70 #[] w' (DigPost [0] w')) := fun w' hb => empty_any w' (hL.grow hb)
    have HD : Hid (vDg true ca 0 = dig [0]) := rfl
    have HSZ : Hid ((B (dig [0])).size = 32) := by rw [B_size]; exact dig_length _
    rw [HD.out]
    generalize hDD : dig [0] = D at HSZ ⊢
    have HE' : Hid (∀ w', Below w.heap.size w w' → Calls Tryz.prog 70 #[] w' fun e w'' => e = .returned (.agg (B D)) ∧ Below w'.heap.size w' w'') := by rw [← hDD]; exact HE
    clear HD V hL hDD HE
    go_enter Tryz.func29, Tryz.ntmps29
    go_wp2_with (first
      | ((with_reducible refine at_ald 4 ?_); refine wpList_al _ rfl _ rfl _ zero_hash ?_; intro w1 b4 hg4 hl4 B4 b1; have HB4 := hidden B4; have Hg4 := hidden hg4; clear B4 hg4 hl4)
      | (go_at_call 69; refine (HM.out _ b1).mono ?_; rintro e w' ⟨rfl, hx⟩; rw [hx]; clear hx w')
      | (go_at_call 70; refine (HE'.out _ b1).mono ?_; rintro e w2 ⟨rfl, b2⟩; have B4' := hidden (HB4.out.grow b2); have Hb2 := hidden b2; clear b2)
      | ((with_reducible refine at_st 4 ?_); refine wpList_sto _ rfl _ _ _ rfl b4 _ (B D) rfl rfl B4'.out (by rw [HSZ.out]; exact size_hash) (by rw [HSZ.out, B_size]; simp) (B_one _) ?_; intro w3 B5 g3))
    exact bodyPost_ret (v := .agg (B D)) (results_cell_row rfl _ _ b4 _ _ _ _ rfl B5 Tryz.underlying51 rfl (by rw [HSZ.out]; exact size_hash)) rfl ⟨rfl, below_row (grow_trans b1 Hb2.out) g3 Hg4.out⟩
  · have HA : Hid (∀ w', Below w.heap.size w w' → Calls Tryz.prog 71 #[v, .int .i64 h] w' fun e w'' => e = .returned (.agg (cz (ca h)).toArray) ∧ Below w'.heap.size w' w'') := fun w' hb => V.atv w' h hb
    have hf := fld_dig (ca h) (V.ok h)
    have HD : Hid (vDg mk ca h = (ca h).dig) := by simp [vDg, hc, Hid]
    have HSZ : Hid ((B (ca h).dig).size = 32) := by rw [B_size]; exact (V.ok h).ld
    rw [HD.out]
    obtain ⟨c, hcc⟩ : ∃ c, c = ca h := ⟨_, rfl⟩
    rw [← hcc] at HA hf HSZ
    rw [← hcc]
    have hcase : (mk = false) ∨ (mk = true ∧ (h == 0) = false) := by
      cases mk with
      | false => exact .inl rfl
      | true => exact .inr ⟨rfl, by simpa using hc⟩
    clear HD V hL hcc hc
    rcases hcase with rfl | ⟨rfl, hb0⟩
    all_goals
      go_enter Tryz.func29, Tryz.ntmps29
      go_wp2_with (first
        | ((with_reducible refine at_ald 4 ?_); refine wpList_al _ rfl _ rfl _ zero_hash ?_; intro w1 b4 hg4 hl4 B4 b1; have HB4 := hidden B4; have Hg4 := hidden hg4; clear B4 hg4 hl4)
        | (go_at_call 69; refine (HM.out _ b1).mono ?_; rintro e w' ⟨rfl, hx⟩; rw [hx]; clear hx w')
        | (go_at_call 71; refine (HA.out _ b1).mono ?_; rintro e w2 ⟨rfl, b2⟩; have B4' := hidden (HB4.out.grow b2); have Hb2 := hidden b2; clear b2)
        | ((with_reducible refine at_st 4 ?_); refine wpList_sto _ rfl _ _ _ rfl b4 _ (B c.dig) rfl rfl B4'.out (by rw [HSZ.out]; exact size_hash) (by rw [HSZ.out, B_size]; simp) (B_one _) ?_; intro w3 B5 g3))
      exact bodyPost_ret (v := .agg (B c.dig)) (results_cell_row rfl _ _ b4 _ _ _ _ rfl B5 Tryz.underlying51 rfl (by rw [HSZ.out]; exact size_hash)) rfl ⟨rfl, below_row (grow_trans b1 Hb2.out) g3 Hg4.out⟩

end Go.Proofs.YtlhnodinhmdjnaaGreatDoor

/- Calls of a store, as contracts: New, Hold, Occupied, Room, Handles; whether sides fit; how many sides a node is. -/
namespace Go.Proofs.YtlhnodinhmdjnaaGreatDoor
set_option maxRecDepth 20000
open Go.RowKit

set_option maxHeartbeats 400000 in
theorem newS_bad (room : Int) (w : World) (h : ¬ (1 ≤ room ∧ room ≤ 65536)) : Calls Tryz.prog 25 #[.int .i64 room] w fun e w' => e = .returned (.tuple #[.pointer none, .int .i64 2]) ∧ w' = w := by
  have HN := hidden (new_badC room w h)
  clear h
  go_enter Tryz.func25, Tryz.ntmps25
  go_wp2_with (go_at_call 58; refine HN.out.mono ?_; rintro e w' ⟨rfl, hx⟩; rw [hx]; clear hx w')
  go_ret2
  exact ⟨rfl, rfl⟩

set_option maxHeartbeats 400000 in
theorem newS_ok (room : Nat) (w : World) (h1 : 1 ≤ room) (h2 : room ≤ 65536) : Calls Tryz.prog 25 #[.int .i64 (room : Int)] w fun e w' => ∃ g gs, e = .returned (.tuple #[.pointer (some ⟨g, 0, none⟩), .int .i64 0]) ∧ w.heap.size ≤ g ∧ w.heap.size ≤ gs ∧ Stm w' g gs (.slice none 0 0) (.slice none 0 0) room [] [] ∧ Below w.heap.size w w' := by
  have HN := hidden (new_okC room w h1 h2)
  clear h1 h2
  go_enter Tryz.func25, Tryz.ntmps25
  go_wp2_with (go_at_call 58; refine HN.out.mono ?_; rintro e w1 ⟨gs, rfl, hg, S1, b1⟩; have HS1 := hidden S1; have Hb1 := hidden b1; have Hg := hidden hg; clear S1 b1 hg)
  go_ret2
  exact ⟨w1.heap.size, gs, rfl, Hb1.out.size, Hg.out, ⟨Blk.new _ _ _, HS1.out.mod (Mod.alloc _ _ []) (fun _ _ h => by cases h), fun i => by simp only [ce, List.getElem?_nil, Option.getD_none]; exact ⟨[], Own.nil _ _⟩⟩, Hb1.out.trans ((grow_alloc w1 _).mono Hb1.out.size)⟩

set_option maxHeartbeats 400000 in
theorem holdS_no (v : Value) (h : Int) (w : World) (hn : NoS w v) : Calls Tryz.prog 96 #[v, .int .i64 h] w fun e w' => e = .returned (.int .i64 1) ∧ w' = w := by
  have HN := hidden hn
  clear hn
  go_enter Tryz.func96, Tryz.ntmps96
  go_wp2_with (go_at_call 69; refine (madeS_no v _ HN.out).mono ?_; rintro e w' ⟨rfl, hx⟩; rw [hx]; clear hx w')
  go_ret
  exact ⟨rfl, rfl⟩

theorem calls_eq {f : FuncId} {args : Array Value} {w : World} {x y : Ending} {P : World → Prop} (hc : Calls Tryz.prog f args w fun e w' => e = x ∧ P w') (h : x = y) : Calls Tryz.prog f args w fun e w' => e = y ∧ P w' := h ▸ hc

set_option maxHeartbeats 400000 in
/-- Hold hands on what the slab's answers. -/
theorem holdS_via {w : World} {g gs : Nat} {vp vf : Value} {room : Nat} {cs : List (Nat × Ce)} {fr : List Nat} (s : Stm w g gs vp vf room cs fr) (h q : Int) (P : World → Prop) (hc : Calls Tryz.prog 123 #[.pointer (some ⟨gs, 0, none⟩), .int .i64 h] w fun e w' => e = .returned (.int .i64 q) ∧ P w') : Calls Tryz.prog 96 #[.pointer (some ⟨g, 0, none⟩), .int .i64 h] w fun e w' => e = .returned (.int .i64 q) ∧ P w' := by
  have c0 := s.c0
  have c1 := s.c1
  have HC := hidden hc
  clear s hc
  go_enter Tryz.func96, Tryz.ntmps96
  go_wp2_with (first
    | (go_at_call 69; refine (madeS_ok g _ c0).mono ?_; rintro e w' ⟨rfl, hx⟩; rw [hx]; clear hx w')
    | (go_at_call 123; refine HC.out.mono ?_; rintro e w2 ⟨rfl, hp⟩; have HP := hidden hp; clear hp))
  go_ret
  exact ⟨rfl, HP.out⟩

/-- Slot i is held once more. -/
def moreC (cs : List (Nat × Ce)) (i : Nat) : List (Nat × Ce) := cs.set i (cc cs i + 1, ce cs i)
theorem moreC_ce (cs : List (Nat × Ce)) (i j : Nat) : ce (moreC cs i) j = ce cs j := by
  unfold moreC
  by_cases hi : i < cs.length
  · rw [ce_set cs i j _ hi]
    split
    · next e => rw [e]
    · rfl
  · rw [List.set_eq_of_length_le (by omega)]

theorem holdS_bad {w : World} {g gs : Nat} {vp vf : Value} {room : Nat} {cs : List (Nat × Ce)} {fr : List Nat} (s : Stm w g gs vp vf room cs fr) (h : Int) (hc : cot cs h = 0) : Calls Tryz.prog 96 #[.pointer (some ⟨g, 0, none⟩), .int .i64 h] w fun e w' => e = .returned (.int .i64 7) ∧ w' = w :=
  holdS_via s h 7 _ (hold_badC gs vp vf room _ fr h w s.sl ((cot_out cs h).2 hc))
theorem holdS_long {w : World} {g gs : Nat} {vp vf : Value} {room : Nat} {cs : List (Nat × Ce)} {fr : List Nat} (s : Stm w g gs vp vf room cs fr) (i : Nat) (hc : cc cs i = 1073741824) : Calls Tryz.prog 96 #[.pointer (some ⟨g, 0, none⟩), .int .i64 ((i : Int) + 1)] w fun e w' => e = .returned (.int .i64 4) ∧ w' = w :=
  holdS_via s _ 4 _ (hold_longC gs vp vf room _ fr _ i w s.sl rfl (by rw [cnt_pl]; omega) (by rw [cnt_pl]; exact hc))
theorem holdS_ok {w : World} {g gs : Nat} {vp vf : Value} {room : Nat} {cs : List (Nat × Ce)} {fr : List Nat} (s : Stm w g gs vp vf room cs fr) (i : Nat) (h0 : 0 < cc cs i) (h1 : cc cs i < 1073741824) : Calls Tryz.prog 96 #[.pointer (some ⟨g, 0, none⟩), .int .i64 ((i : Int) + 1)] w fun e w' => e = .returned (.int .i64 0) ∧ STurn w g gs (stB g gs vp vf cs) room (moreC cs i) fr w' := by
  refine holdS_via s _ 0 _ ((hold_okC gs vp vf room _ fr _ i w s.sl rfl (by rw [cnt_pl]; exact h0) (by rw [cnt_pl]; exact h1)).mono ?_)
  rintro e w' ⟨rfl, t⟩
  rw [cnt_pl, thg_pl cs i (cc_lt h0), map_set] at t
  exact ⟨rfl, s.turn' (Below.refl _ _) t (fun j => .inr ⟨j, by show (ce (moreC cs i) j).val = _; rw [moreC_ce], by show (ce (moreC cs i) j).bs = _; rw [moreC_ce]⟩)⟩

set_option maxHeartbeats 400000 in
theorem occS_ok {w : World} {g gs : Nat} {vp vf : Value} {room : Nat} {cs : List (Nat × Ce)} {fr : List Nat} (s : Stm w g gs vp vf room cs fr) : Calls Tryz.prog 34 #[.pointer (some ⟨g, 0, none⟩)] w fun e w' => e = .returned (.int .i64 (noc cs : Int)) ∧ Below w.heap.size w w' := by
  have c0 := s.c0
  have c1 := s.c1
  have HC := hidden (len_okC gs vp vf room _ fr w s.sl)
  clear s
  go_enter Tryz.func34, Tryz.ntmps34
  go_wp2_with (first
    | (go_at_call 69; refine (madeS_ok g _ c0).mono ?_; rintro e w' ⟨rfl, hx⟩; rw [hx]; clear hx w')
    | (go_at_call 77; refine HC.out.mono ?_; rintro e w1 ⟨rfl, b1⟩))
  go_ret
  exact ⟨rfl, b1⟩

set_option maxHeartbeats 400000 in
theorem occS_no (v : Value) (w : World) (hn : NoS w v) : Calls Tryz.prog 34 #[v] w fun e w' => e = .returned (.int .i64 0) ∧ w' = w := by
  have HN := hidden hn
  clear hn
  go_enter Tryz.func34, Tryz.ntmps34
  go_wp2_with (go_at_call 69; refine (madeS_no v _ HN.out).mono ?_; rintro e w' ⟨rfl, hx⟩; rw [hx]; clear hx w')
  go_ret
  exact ⟨rfl, rfl⟩

set_option maxHeartbeats 400000 in
theorem roomS_ok {w : World} {g gs : Nat} {vp vf : Value} {room : Nat} {cs : List (Nat × Ce)} {fr : List Nat} (s : Stm w g gs vp vf room cs fr) : Calls Tryz.prog 90 #[.pointer (some ⟨g, 0, none⟩)] w fun e w' => e = .returned (.int .i64 (room : Int)) ∧ Below w.heap.size w w' := by
  have c0 := s.c0
  have c1 := s.c1
  have HC := hidden (room_okC gs vp vf room _ fr w s.sl)
  clear s
  go_enter Tryz.func90, Tryz.ntmps90
  go_wp2_with (first
    | (go_at_call 69; refine (madeS_ok g _ c0).mono ?_; rintro e w' ⟨rfl, hx⟩; rw [hx]; clear hx w')
    | (go_at_call 120; refine HC.out.mono ?_; rintro e w' ⟨rfl, hx⟩; rw [hx]; clear hx w'))
  go_ret
  exact ⟨rfl, Below.refl _ _⟩

set_option maxHeartbeats 400000 in
theorem roomS_no (v : Value) (w : World) (hn : NoS w v) : Calls Tryz.prog 90 #[v] w fun e w' => e = .returned (.int .i64 0) ∧ w' = w := by
  have HN := hidden hn
  clear hn
  go_enter Tryz.func90, Tryz.ntmps90
  go_wp2_with (go_at_call 69; refine (madeS_no v _ HN.out).mono ?_; rintro e w' ⟨rfl, hx⟩; rw [hx]; clear hx w')
  go_ret
  exact ⟨rfl, rfl⟩

set_option maxHeartbeats 400000 in
theorem may_any {w : World} {v : Value} {mk : Bool} {ct : Int → Nat} {ca : Int → Ce} (V : Vw w v mk ct ca) (h : Int) : Calls Tryz.prog 126 #[v, .int .i64 h] w fun e w' => e = .returned (.bool (decide (h = 0 ∨ (ca h).ab < ct h))) ∧ Below w.heap.size w w' := by
  have HH := hidden (held_any V h)
  by_cases h0 : h = 0
  · subst h0
    have e0 : decide ((0 : Int) = 0 ∨ (ca 0).ab < ct 0) = true := by simp
    rw [e0]
    clear V e0
    go_enter Tryz.func126, Tryz.ntmps126
    go_wp2
    go_ret
    exact ⟨rfl, Below.refl _ _⟩
  · have hb0 : (h == 0) = false := by simp [h0]
    have e0 : decide (h = 0 ∨ (ca h).ab < ct h) = decide (0 < ct h - (ca h).ab) := by
      have : (h = 0 ∨ (ca h).ab < ct h) ↔ (0 < ct h - (ca h).ab) := by omega
      simp [this]
    rw [e0]
    obtain ⟨q, hq⟩ : ∃ q, q = ct h - (ca h).ab := ⟨_, rfl⟩
    rw [← hq] at HH
    rw [← hq]
    have e1 : decide ((0 : Int) < (q : Int)) = decide (0 < q) := by simp
    clear V e0 h0 hq
    go_enter Tryz.func126, Tryz.ntmps126
    go_wp2_with (go_at_call 57; refine HH.out.mono ?_; rintro e w1 ⟨rfl, b1⟩)
    go_ret
    exact ⟨rfl, b1⟩

/-- A guarded load of a row within a block. -/
theorem wpList_ldw {ops : Array Oper} {rest : List Oper} {op : Oper} {a : Act} {Q : Exit → Act → World → Prop} (w : World) (hgd : Region.wanted op (yielded ops a.tmps) = true) (ty : TypeId) (x : Operand) (ho : op.op = .load ty x)
    (b o : Nat) (hx : a.eval x = .pointer (some ⟨b, o, none⟩)) (cs : List Value) (d : TypeDesc) (hc : w.rangeAt b o cs) (hu : Tryz.prog.underlying ty = some d) (hd : d.isRow = true) (hi : (Tryz.prog.info? ty).map (·.size) = some cs.length)
    (h : wpList Tryz.prog ops Q rest (a.put op.dst (.agg cs.toArray)) w) : wpList Tryz.prog ops Q (op :: rest) a w :=
  BigFrame.wpList_want hgd fun _ hK => wp_load_mid ty x ho b o hx cs d hc hu hd hi (hK _ _ h)

/-- Whether a node may stand below one of depth d, on the side of a bit. -/
def fsP (c : Ce) (d : Nat) (b : Int) : Bool := if c.kind = 1 then decide (kb c.key d = b) else if c.kind = 2 then decide (c.dp = d + 1) && decide (kb c.key d = b) else true

theorem key_sz {c : Ce} (h : CeOk c) : (Tryz.prog.info? 23).map (·.size) = some (c.key.map (Value.int .u8)).length := by rw [List.length_map, h.hk.1]; exact size_path

set_option maxHeartbeats 1000000 in
theorem fits_any (c : Ce) (d : Nat) (b : Int) (w : World) (hc : CeOk c) (hd : d < 256) : Calls Tryz.prog 143 #[.agg (cz c).toArray, .int .i64 (d : Int), .int .i64 b] w fun e w' => e = .returned (.bool (fsP c d b)) ∧ Below w.heap.size w w' := by
  have HO := hidden hc
  have HB : Hid (∀ w', Calls Tryz.prog 44 #[.agg (B c.key), .int .i64 (d : Int)] w' fun e w'' => e = .returned (.int .i64 (kb c.key d)) ∧ Below w'.heap.size w' w'') := fun w' => bit_in c.key d w' hc.hk hd
  obtain ⟨x, hx⟩ : ∃ x, x = kb c.key d := ⟨_, rfl⟩
  rw [← hx] at HB
  have hw1 : wrap64 ((d : Int) + 1) = (d : Int) + 1 := Go.IntWalk.wrap64_in _ (by omega)
  by_cases h1 : c.kind = 1
  · have HV : Hid (fsP c d b = (x == b)) := by
      show _ = _
      rw [fsP, if_pos h1, ← hx]
      by_cases e : x = b <;> simp [e]
    rw [HV.out]
    have HK := hidden h1
    clear HV h1 hc hx hd hw1
    go_enter Tryz.func143, Tryz.ntmps143
    go_wp2_with (first
      | ((with_reducible refine at_bxd 3 ?_); refine wpList_bx _ rfl _ _ rfl _ rfl ?_; intro w1 b3 hg3 hl3 B3 b1; have HB3 := hidden B3; have c7 := B3.cell 32; simp only [List.getElem?_toArray] at c7; rw [(cz_at c HO.out).1, HK.out] at c7; clear hg3 hl3 B3)
      | ((with_reducible refine at_ldd 12 11 ?_); refine wpList_load_mid rfl _ _ rfl b3 35 rfl (c.key.map (Value.int .u8)) _ ((segK c HO.out).range HB3.out) Tryz.underlying23 rfl (key_sz HO.out) ?_)
      | (go_at_call 44; refine (HB.out _).mono ?_; rintro e w2 ⟨rfl, b2⟩))
    go_ret
    exact ⟨rfl, grow_trans b1 b2⟩
  · have n1 : (c.kind == 1) = false := by simp [h1]
    by_cases h2 : c.kind = 2
    · by_cases h3 : c.dp = d + 1
      · have HV : Hid (fsP c d b = (x == b)) := by
          show _ = _
          rw [fsP, if_neg h1, if_pos h2, ← hx]
          by_cases e : x = b <;> simp [e, h3]
        rw [HV.out]
        have HK := hidden h2
        have HD : Hid ((c.dp : Int) = (d : Int) + 1) := by show (c.dp : Int) = _; omega
        clear HV h1 n1 h2 h3 hc hx hd
        go_enter Tryz.func143, Tryz.ntmps143
        go_wp2_with (first
          | ((with_reducible refine at_bxd 3 ?_); refine wpList_bx _ rfl _ _ rfl _ rfl ?_; intro w1 b3 hg3 hl3 B3 b1; have HB3 := hidden B3; have c7 := B3.cell 32; have c8 := B3.cell 68; simp only [List.getElem?_toArray] at c7 c8; rw [(cz_at c HO.out).1, HK.out] at c7; rw [(cz_at c HO.out).2.2.2.2.1, HD.out] at c8; clear hg3 hl3 B3)
          | ((with_reducible refine at_ldd 26 25 ?_); refine wpList_ldw _ rfl _ _ rfl b3 35 rfl (c.key.map (Value.int .u8)) _ ((segK c HO.out).range HB3.out) Tryz.underlying23 rfl (key_sz HO.out) ?_)
          | (go_at_call 44; refine (HB.out _).mono ?_; rintro e w2 ⟨rfl, b2⟩))
        go_ret
        exact ⟨rfl, grow_trans b1 b2⟩
      · have HV : Hid (fsP c d b = false) := by
          show _ = _
          rw [fsP, if_neg h1, if_pos h2]
          simp [h3]
        rw [HV.out]
        have HK := hidden h2
        have hd1 : ((c.dp : Int) == (d : Int) + 1) = false := by simp; omega
        clear HV h1 n1 h2 h3 hc hx hd HB
        go_enter Tryz.func143, Tryz.ntmps143
        go_wp2_with (first
          | ((with_reducible refine at_bxd 3 ?_); refine wpList_bx _ rfl _ _ rfl _ rfl ?_; intro w1 b3 hg3 hl3 B3 b1; have c7 := B3.cell 32; have c8 := B3.cell 68; simp only [List.getElem?_toArray] at c7 c8; rw [(cz_at c HO.out).1, HK.out] at c7; rw [(cz_at c HO.out).2.2.2.2.1] at c8; clear hg3 hl3 B3))
        go_ret
        exact ⟨rfl, b1⟩
    · have n2 : (c.kind == 2) = false := by simp [h2]
      have HV : Hid (fsP c d b = true) := by
        show _ = _
        rw [fsP, if_neg h1, if_neg h2]
      rw [HV.out]
      obtain ⟨k, hk⟩ : ∃ k, k = c.kind := ⟨_, rfl⟩
      have HK := hidden hk
      rw [← hk] at n1 n2
      clear HV h1 h2 hc hx hd HB hk
      go_enter Tryz.func143, Tryz.ntmps143
      go_wp2_with (first
        | ((with_reducible refine at_bxd 3 ?_); refine wpList_bx _ rfl _ _ rfl _ rfl ?_; intro w1 b3 hg3 hl3 B3 b1; have c7 := B3.cell 32; simp only [List.getElem?_toArray] at c7; rw [(cz_at c HO.out).1, ← HK.out] at c7; clear hg3 hl3 B3))
      go_ret
      exact ⟨rfl, b1⟩

end Go.Proofs.YtlhnodinhmdjnaaGreatDoor

/- A region that draws its order, whose last operation (number L, for which all others are waited) may write what the loads ahead of it read: what is held (S) is asked for behind every operation but that one. -/
namespace Go.Proofs.YtlhnodinhmdjnaaGreatDoor
set_option maxRecDepth 20000
open Go Go.RowKit

section
variable {P : Program} {ops : Array Oper} {Q : Exit → Act → World → Prop} {md : Region.Mode} {S : World → Prop} {L : Nat}

/-- Whatever has come up, what it waits for has come up too. -/
def shutB (md : Region.Mode) (ops : Array Oper) (listed : Array Bool) : Bool :=
  (List.range ops.size).all fun c => !listed.getD c false || match ops[c]? with
    | none => true
    | some o => o.after.all fun e => !Region.binds md e || listed.getD e.on false
def ShutL (md : Region.Mode) (ops : Array Oper) (listed : Array Bool) : Prop := ∀ c o, ops[c]? = some o → listed.getD c false = true → ∀ e ∈ o.after, Region.binds md e = true → listed.getD e.on false = true
theorem shutL_of {listed : Array Bool} (h : shutB md ops listed = true) : ShutL md ops listed := by
  intro c o ho hl e he hb
  unfold shutB at h
  rw [List.all_eq_true] at h
  have h1 := h c (List.mem_range.2 (Array.getElem?_eq_some_iff.1 ho).1)
  simp only [hl, ho, Bool.not_true, Bool.false_or, Array.all_eq_true_iff_forall_mem] at h1
  have h2 := h1 e he
  simpa [hb] using h2
theorem ShutL.step {listed : Array Bool} {j : Nat} (h : ShutL md ops listed) (hj : j ∈ Region.ready md ops listed) : ShutL md ops (listed.setIfInBounds j true) := by
  intro c o ho hl e he hb
  by_cases hcj : j = c
  · subst hcj
    obtain ⟨_, o', ho', hall⟩ := mem_ready.1 hj
    rw [ho] at ho'
    obtain rfl := Option.some.inj ho'
    exact getD_set_true (hall e he hb)
  · rw [getD_set_ne false hcj] at hl
    exact getD_set_true (h c o ho hl e he hb)

/-- c waits for i, itself or by others. -/
def leads (md : Region.Mode) (ops : Array Oper) (i : Nat) : Nat → Nat → Bool
  | 0, _ => false
  | n + 1, c => match ops[c]? with
    | none => false
    | some o => o.after.any fun e => Region.binds md e && (e.on == i || leads md ops i n e.on)
theorem leads_on {listed : Array Bool} {i : Nat} (hs : ShutL md ops listed) (hi : listed.getD i false = false) : ∀ (n c : Nat), leads md ops i n c = true → ∀ o, ops[c]? = some o → (∀ e ∈ o.after, Region.binds md e = true → listed.getD e.on false = true) → False
  | 0, _, h, _, _, _ => by simp [leads] at h
  | n + 1, c, h, o, ho, hall => by
    unfold leads at h
    rw [ho] at h
    obtain ⟨e, he, hb⟩ := Array.any_eq_true'.1 h
    simp only [Bool.and_eq_true, Bool.or_eq_true, beq_iff_eq] at hb
    have h1 := hall e he hb.1
    rcases hb.2 with q | q
    · rw [q, hi] at h1
      cases h1
    · cases ho2 : ops[e.on]? with
      | none =>
        cases n with
        | zero => simp [leads] at q
        | succ n => unfold leads at q; rw [ho2] at q; cases q
      | some o2 => exact leads_on hs hi n e.on q o2 ho2 (hs e.on o2 ho2 h1)

/-- Whatever order is picked from here on, and S holds behind every operation but the last. -/
def wpAnyL (P : Program) (md : Region.Mode) (ops : Array Oper) (Q : Exit → Act → World → Prop) (S : World → Prop) (L : Nat) : Nat → Array Bool → Act → World → Prop
  | 0, listed, a, w => Region.ready md ops listed = [] ∧ Q .normal a w
  | fuel + 1, listed, a, w =>
    (Region.ready md ops listed = [] → Q .normal a w) ∧
    ∀ i ∈ Region.ready md ops listed, wpOp P ops Q i (fun a' w' => (i = L ∨ S w') ∧ wpAnyL P md ops Q S L fuel (listed.setIfInBounds i true) a' w') a w

theorem wpAny_of_last : ∀ (fuel : Nat) (listed : Array Bool) (a : Act) (w : World), wpAnyL P md ops Q S L fuel listed a w → wpAny P md ops Q fuel listed a w
  | 0, _, _, _, h => h
  | fuel + 1, _, _, _, h => ⟨h.1, fun i hi => wpOp_mono (fun a' w' h' => wpAny_of_last fuel _ a' w' h'.2) (h.2 i hi)⟩

theorem wpAnyL_first {i n : Nat} {oi : Oper} {v : Value} (hi : ops[i]? = some oi) (hsel : ∀ (j : Nat) (o : Oper) cs b, ops[j]? = some o → o.op ≠ .select cs b)
    (hQ : ∀ c a w, Q (.panic c) (a.put oi.dst v) w → Q (.panic c) a w) (hld : leads md ops i n L = true) :
    ∀ (fuel : Nat) (listed : Array Bool) (a : Act) (w : World), ShutL md ops listed →
      (∀ j oj, ops[j]? = some oj → j ≠ i → listed.getD j true = false → (∀ e ∈ oj.after, Region.binds md e = true → e.on ≠ i) → oi.apart ops oj = true) →
      i ∈ Region.ready md ops listed → YieldsIf P ops S oi v a → S w →
      wpAnyL P md ops Q S L fuel (listed.setIfInBounds i true) (a.put oi.dst v) w → wpAnyL P md ops Q S L (fuel + 1) listed a w := by
  intro fuel
  induction fuel with
  | zero =>
    intro listed a w _ _ hr hy hS H
    refine ⟨fun h => (by rw [h] at hr; cases hr), fun j hj => ?_⟩
    by_cases hji : j = i
    · subst hji; exact hy.wpOp hi hS ⟨.inr hS, H⟩
    · have := ready_mono hj hji
      rw [H.1] at this
      cases this
  | succ fuel ih =>
    intro listed a w hsh hfree hr hy hS H
    refine ⟨fun h => (by rw [h] at hr; cases hr), fun j hj => ?_⟩
    by_cases hji : j = i
    · subst hji; exact hy.wpOp hi hS ⟨.inr hS, H⟩
    · have h1 := H.2 j (ready_mono hj hji)
      obtain ⟨hjun, oj, hoj, hall⟩ := mem_ready.1 hj
      have hi0 : listed.getD i false = false := by
        have h0 := (mem_ready.1 hr).1
        rcases Nat.lt_or_ge i listed.size with h' | h'
        · simpa [h'] using h0
        · simp [Array.getElem?_eq_none h']
      have hjL : j ≠ L := fun e => by
        subst e
        exact leads_on hsh hi0 n j hld oj hoj hall
      have hnot : ∀ e ∈ oj.after, Region.binds md e = true → e.on ≠ i := fun e he hb heq => by
        have h1 := hall e he hb
        rw [heq, hi0] at h1
        cases h1
      have h2 := wpOp_putIf hoj (hfree j oj hoj hji hjun hnot) (fun cs b => hsel i oi cs b hi) (fun cs b => hsel j oj cs b hoj) hQ hy h1
      have hfree' : ∀ k ok, ops[k]? = some ok → k ≠ i → (listed.setIfInBounds j true).getD k true = false →
          (∀ e ∈ ok.after, Region.binds md e = true → e.on ≠ i) → oi.apart ops ok = true := fun k ok hk hki hun hno => by
        refine hfree k ok hk hki ?_ hno
        by_cases hjk : j = k
        · subst hjk; exact hjun
        · rw [getD_set_ne true hjk] at hun; exact hun
      refine wpOp_mono (fun a' w' h3 => ⟨h3.2.1, ih (listed.setIfInBounds j true) a' w' (hsh.step hj) hfree' (ready_mono hr (Ne.symm hji)) h3.1 (h3.2.1.resolve_left hjL) ?_⟩) h2
      rw [Array.setIfInBounds_comm _ _ hji]
      exact h3.2.2

theorem wpAnyL_take {i : Nat} {oi : Oper} {v : Value} {fuel : Nat} {listed : Array Bool} {a : Act} {w : World} (hi : ops[i]? = some oi)
    (hs : Region.noSelect ops = true) (hf : Region.free md ops listed i = true) (hr : (Region.ready md ops listed).contains i = true) (hld : leads md ops i 40 L = true) (hsh : shutB md ops listed = true)
    (hQ : ∀ c a w, Q (.panic c) (a.put oi.dst v) w → Q (.panic c) a w) (hy : YieldsIf P ops S oi v a) (hS : S w)
    (h : wpAnyL P md ops Q S L fuel (listed.setIfInBounds i true) (a.put oi.dst v) w) : wpAnyL P md ops Q S L (fuel + 1) listed a w :=
  wpAnyL_first hi (Region.noSelect_spec hs) hQ hld fuel listed a w (shutL_of hsh) (Region.free_spec hi hf) (by simpa using hr) hy hS h

/-- A pure operation is taken (short words). -/
theorem tlp (i : Nat) (v : Value) {oi : Oper} {fuel : Nat} {listed : Array Bool} {a : Act} {w : World} (hS : S w) (h : wpAnyL P md ops Q S L fuel (listed.setIfInBounds i true) (a.put oi.dst v) w)
    (hi : ops[i]? = some oi := by rfl) (hs : Region.noSelect ops = true := by kernel_rfl) (hf : Region.free md ops listed i = true := by kernel_rfl) (hr : (Region.ready md ops listed).contains i = true := by kernel_rfl) (hld : leads md ops i 40 L = true := by kernel_rfl) (hsh : shutB md ops listed = true := by kernel_rfl)
    (hQ : ∀ c a w, Q (.panic c) (a.put oi.dst v) w → Q (.panic c) a w := by exact fun _ _ _ h => h) (hy : YieldsIf P ops S oi v a := by exact Or.inl ⟨by rfl, fun w hS => by go_simp⟩) : wpAnyL P md ops Q S L (fuel + 1) listed a w := wpAnyL_take hi hs hf hr hld hsh hQ hy hS h
/-- Any other is taken (short words). -/
theorem tlg (i : Nat) (v : Value) {oi : Oper} {fuel : Nat} {listed : Array Bool} {a : Act} {w : World} (hi : ops[i]? = some oi) (hy : YieldsIf P ops S oi v a) (hS : S w) (h : wpAnyL P md ops Q S L fuel (listed.setIfInBounds i true) (a.put oi.dst v) w)
    (hs : Region.noSelect ops = true := by kernel_rfl) (hf : Region.free md ops listed i = true := by kernel_rfl) (hr : (Region.ready md ops listed).contains i = true := by kernel_rfl) (hld : leads md ops i 40 L = true := by kernel_rfl) (hsh : shutB md ops listed = true := by kernel_rfl)
    (hQ : ∀ c a w, Q (.panic c) (a.put oi.dst v) w → Q (.panic c) a w := by exact fun _ _ _ h => h) : wpAnyL P md ops Q S L (fuel + 1) listed a w := wpAnyL_take hi hs hf hr hld hsh hQ hy hS h

def AllReadyL (P : Program) (md : Region.Mode) (ops : Array Oper) (Q : Exit → Act → World → Prop) (S : World → Prop) (L : Nat) (fuel : Nat) (listed : Array Bool) (a : Act) (w : World) (rs : List Nat) : Prop :=
  ∀ i ∈ rs, wpOp P ops Q i (fun a' w' => (i = L ∨ S w') ∧ wpAnyL P md ops Q S L fuel (listed.setIfInBounds i true) a' w') a w
theorem AllReadyL.nil {fuel : Nat} {listed : Array Bool} {a : Act} {w : World} : AllReadyL P md ops Q S L fuel listed a w [] := fun _ h => by cases h
theorem AllReadyL.cons {fuel : Nat} {listed : Array Bool} {a : Act} {w : World} {i : Nat} {o : Oper} {rs : List Nat} (ho : ops[i]? = some o)
    (h : ∀ K' : Act → World → Prop, Shut (∀ a w, (i = L ∨ S w) → (S w → wpAnyL P md ops Q S L fuel (listed.setIfInBounds i true) a w) → (i = L → wpAnyL P md ops Q S L fuel (listed.setIfInBounds i true) a w) → K' a w) → if Region.wanted o (yielded ops a.tmps) = true then Oper.wp P o a w K' Q else K' (a.put o.dst undef) w)
    (hs : AllReadyL P md ops Q S L fuel listed a w rs) : AllReadyL P md ops Q S L fuel listed a w (i :: rs) := fun j hj => by
  rcases List.mem_cons.1 hj with rfl | hj
  · exact wpOp_step ho (fun K' hK => h K' (fun a w hS hW hL => hK a w ⟨hS, hS.elim hL hW⟩))
  · exact hs j hj

theorem wpAnyL_ready {rs : List Nat} {fuel : Nat} {listed : Array Bool} {a : Act} {w : World} (hr : Region.ready md ops listed = rs) (hne : rs ≠ [])
    (h : AllReadyL P md ops Q S L fuel listed a w rs) : wpAnyL P md ops Q S L (fuel + 1) listed a w := ⟨fun h0 => absurd (hr ▸ h0) hne, hr ▸ h⟩

/-- One that is not the last: S is shown behind it. -/
theorem wpAnyL_one {fuel : Nat} {listed : Array Bool} {a : Act} {w : World} {i : Nat} {o : Oper} (ho : ops[i]? = some o) (hr : Region.ready md ops listed = [i])
    (h : ∀ K' : Act → World → Prop, Shut (∀ a w, S w → (S w → wpAnyL P md ops Q S L fuel (listed.setIfInBounds i true) a w) → K' a w) → if Region.wanted o (yielded ops a.tmps) = true then Oper.wp P o a w K' Q else K' (a.put o.dst undef) w) :
    wpAnyL P md ops Q S L (fuel + 1) listed a w :=
  wpAnyL_ready hr (by simp) (AllReadyL.cons ho (fun K' hK => h K' (fun a w hS hW => hK.out a w (.inr hS) hW (fun _ => hW hS))) AllReadyL.nil)

/-- The last one. -/
theorem wpAnyL_last {fuel : Nat} {listed : Array Bool} {a : Act} {w : World} {o : Oper} (ho : ops[L]? = some o) (hr : Region.ready md ops listed = [L]) (he : Region.ready md ops (listed.setIfInBounds L true) = [])
    (h : ∀ K' : Act → World → Prop, Shut (∀ a w, Q .normal a w → K' a w) → if Region.wanted o (yielded ops a.tmps) = true then Oper.wp P o a w K' Q else K' (a.put o.dst undef) w) :
    wpAnyL P md ops Q S L (fuel + 1) listed a w :=
  wpAnyL_ready hr (by simp) (AllReadyL.cons ho (fun K' hK => h K' (fun a w hQ => by
    have hd : wpAnyL P md ops Q S L fuel (listed.setIfInBounds L true) a w := by
      cases fuel with
      | zero => exact ⟨he, hQ⟩
      | succ n => exact ⟨fun _ => hQ, by rw [he]; simp⟩
    exact hK.out a w (.inl rfl) (fun _ => hd) (fun _ => hd))) AllReadyL.nil)

theorem wp_region_last {id : Nat} {a : Act} {w : World} (L : Nat) (hm : P.follows .mixedOrders = true) (hS : S w.drew)
    (h : S w.drew → wpAnyL P .any ops Q S L ops.size (Array.replicate ops.size false) a w.drew) : (Code.region id ops true).wp P Q a w :=
  wp_region_any hm (wpAny_of_last _ _ _ _ (h hS))

end
end Go.Proofs.YtlhnodinhmdjnaaGreatDoor
