/- TagClash's walk: the law returns true at every two texts, and nothing that was in memory turns. -/
import Derived.Test.YtacfhkaihcclaaaDoorTagEq
import Derived.Test.YtacfhkaihcclaaaDoorTagRef
import Derived.Deep.CutRange
namespace Go.Proofs.YtacfhkaihcclaaaDoor
open Go.RowKit

/-- load of a whole array, where its guard says yes. -/
theorem wpList_ldg {ops : Array Oper} {rest : List Oper} {op : Oper} {a : Act} {Q : Exit → Act → World → Prop} (w : World) (hgd : Region.wanted op (yielded ops a.tmps) = true) (x : Operand) (ty : TypeId) (ho : op.op = .load ty x)
    (g : Nat) (cs : Array Value) (hx : a.eval x = .pointer (some ⟨g, 0, none⟩)) (h : Blk w g ty cs) (n : Nat) (e : TypeId) (hu : Tryd.prog.underlying ty = some (.array n e)) (hi : (Tryd.prog.info? ty).map (·.size) = some cs.size)
    (hk : wpList Tryd.prog ops Q rest (a.put op.dst (.agg cs)) w) : wpList Tryd.prog ops Q (op :: rest) a w := by
  refine BigFrame.wpList_want hgd fun K hK => ?_
  unfold Oper.wp execOp
  simp only [ho, hx, Instr.loadAt, Instr.sureAddr, Sem.run_bind, Sem.run_pure, Result.andThen_ok, h.load n e hu hi]
  exact hK _ _ hk

/-- A pair of texts that were lent, laid as a Clash. -/
def Lent2 (xs ys : List Int) (w0 : World) (v : Value) (w : World) : Prop := ∃ gc p q, v = .pointer (some ⟨gc, 0, none⟩) ∧ Blk w gc 45 #[.slice (some ⟨p, 0, none⟩) xs.length (xs.length + 5), .slice (some ⟨q, 0, none⟩) ys.length (ys.length + 5)] ∧
  Row w p (xs ++ marks xs.length) ∧ Row w q (ys ++ marks ys.length) ∧ Below w0.heap.size w0 w

theorem size_clash : (Tryd.prog.info? 45).map (·.size) = some 2 := by kernel_rfl

theorem Row.lent_reads {w : World} {g : Nat} {zs : List Int} (h : Row w g (zs ++ marks zs.length)) (hb : Bytes zs) : Reads w (.slice (some ⟨g, 0, none⟩) zs.length (zs.length + 5)) zs :=
  ⟨_, _, rfl, by omega, fun h => by simp at h, hb, fun _ => ⟨g, 0, rfl, fun i hi => by
    rw [Nat.zero_add, h.cell i (by simp; omega)]
    simp [List.getD, List.getElem?_append_left hi]⟩⟩

theorem Row.grow {w w' : World} {g : Nat} {zs : List Int} (h : Row w g zs) (hb : Below w.heap.size w w') : Row w' g zs := h.of_block (hb.block g h.lt)
theorem Row.kept {w w' : World} {g g' : Nat} {zs : List Int} (h : Row w g zs) (hg : w.grownBy w' (some g')) (hne : g ≠ g') : Row w' g zs := h.of_block (hg.block g h.lt (fun e => hne (by injection e)))

/-- A row of bytes is no Clash. -/
theorem rows_blk {w : World} {g h : Nat} {zs : List Int} {cs : Array Value} (a : Row w g zs) (b : Blk w h 45 cs) : g ≠ h := by
  rintro rfl
  unfold Row at a
  unfold Blk at b
  rw [a] at b
  injection b with b
  injection b with _ b
  exact absurd b (by decide)

set_option maxHeartbeats 4000000 in
set_option maxRecDepth 10000 in
theorem tagClash_walk (x y : Value) (xs ys : List Int) (w : World) (hx : Reads w x xs) (hy : Reads w y ys) (h1 : xs.length ≤ 140737488355328 - 4096) (h2 : ys.length ≤ 140737488355328 - 4096) (hL : Laid w) :
    Calls Tryd.prog 4 #[.agg #[x, y]] w fun e w' => e = .returned (.bool true) ∧ Below w.heap.size w w' := by
  have HX := hidden hx
  have HY := hidden hy
  have HL := hidden hL
  have BX : Hid (Bytes xs) := by
    obtain ⟨_, _, _, _, _, hb, _⟩ := hx
    exact hb
  have BY : Hid (Bytes ys) := by
    obtain ⟨_, _, _, _, _, hb, _⟩ := hy
    exact hb
  obtain ⟨xa, xc, rfl, _, _, _, _⟩ := hx
  obtain ⟨ya, yc, rfl, _, _, _, _⟩ := hy
  clear hL
  go_enter Tryd.func4, Tryd.ntmps4
  go_wp2_with (refine wpList_bx _ rfl _ _ rfl _ rfl ?_; intro w1 g1 hg1 hl1 B1 b1; have c10 : w1.cell? ⟨g1, 0, none⟩ = some (.slice xa xs.length xc) := (by rw [B1.cell]; rfl))
  have HDX : Hid ((B (dig xs)).size = 32) := by rw [B_size]; exact dig_length _
  have HDY : Hid ((B (dig ys)).size = 32) := by rw [B_size]; exact dig_length _
  obtain ⟨DX, hDX⟩ : ∃ D, D = dig xs := ⟨_, rfl⟩
  obtain ⟨DY, hDY⟩ : ∃ D, D = dig ys := ⟨_, rfl⟩
  have SX : Hid (∀ w', Below w.heap.size w w' → Calls Tryd.prog 20 #[.slice xa xs.length xc] w' fun e w'' => e = .returned (.agg (B DX)) ∧ Below w'.heap.size w' w'') := by
    intro w' hw'
    rw [hDX]
    exact refSum_any _ xs w' (HX.out.grow hw') h1
  have SY : Hid (∀ w', Below w.heap.size w w' → Calls Tryd.prog 20 #[.slice ya ys.length yc] w' fun e w'' => e = .returned (.agg (B DY)) ∧ Below w'.heap.size w' w'') := by
    intro w' hw'
    rw [hDY]
    exact refSum_any _ ys w' (HY.out.grow hw') h2
  have EQ : ∀ w, (Op.equalIn 10000 23 (.agg (B DX)) (.agg (B DY))).run Tryd.prog w = .ok (decide (DX = DY)) w := by
    rw [hDX, hDY]
    exact b32_eq (dig xs) (dig ys) (dig_length _) (dig_length _)
  rw [← hDX] at HDX
  rw [← hDY] at HDY
  have HHX := hidden hDX
  have HHY := hidden hDY
  clear hDX hDY
  refine (SX.out w1 b1).mono ?_
  rintro e w2 ⟨rfl, b2⟩
  have c12 := (B1.grow b2)
  have c21 : w2.cell? ⟨g1, 1, none⟩ = some (.slice ya ys.length yc) := by rw [c12.cell]; rfl
  go_wp2_with (first
    | (refine wpList_al _ rfl _ rfl _ zero_b32 ?_; intro w3 g3 hg3 hl3 B3 b3)
    | (refine wpList_sto _ rfl _ _ _ rfl g3 _ _ rfl rfl B3 (by rw [HDX.out]; exact size_b32) (by rw [HDX.out, B_size]; simp) (B_one _) ?_; intro w4 B4 g4; have B14 := (c12.grow b3).kept g4 (by have := B1.lt; have := b2.size; omega); have c41 : w4.cell? ⟨g1, 1, none⟩ = some (.slice ya ys.length yc) := (by rw [B14.cell]; rfl)))
  have k2 := grow_trans b1 b2
  have k3 := grow_trans k2 b3
  have k4 := below_row k3 g4 (Nat.le_trans k2.size hg3)
  refine (SY.out w4 k4).mono ?_
  rintro e w5 ⟨rfl, b5⟩
  have B15 := B14.grow b5
  have B35 := B4.grow b5
  have k5 := grow_trans k4 b5
  clear B1 B3 B4 B14 c12 c10 c21 c41
  go_upto_region 3 with (first
    | (refine wpList_al _ rfl _ rfl _ zero_b32 ?_; intro w6 g6 hg6 hl6 B6 b6)
    | (refine wpList_sto _ rfl _ _ _ rfl g6 _ _ rfl rfl B6 (by rw [HDY.out]; exact size_b32) (by rw [HDY.out, B_size]; simp) (B_one _) ?_; intro w7 B7 g7))
  have B17 := (B15.grow b6).kept g7 (by have := B15.lt; omega)
  have B37 := (B35.grow b6).kept g7 (by have := B35.lt; omega)
  have k6 := grow_trans k5 b6
  have k7 := below_row k6 g7 (Nat.le_trans k5.size hg6)
  have c70 : w7.cell? ⟨g1, 0, none⟩ = some (.slice xa xs.length xc) := by rw [B17.cell]; rfl
  have c71 : w7.cell? ⟨g1, 1, none⟩ = some (.slice ya ys.length yc) := by rw [B17.cell]; rfl
  have SAME := hidden (same_any _ _ xs ys w7 (HX.out.grow k7) (HY.out.grow k7))
  have HB17 := hidden B17
  have HB37 := hidden B37
  have HB7 := hidden B7
  obtain ⟨ww, hww⟩ : ∃ b, b = (!decide (xs = ys) && decide (DX = DY)) := ⟨_, rfl⟩
  have HWW := hidden hww
  clear B15 B35 B6 B17 B37 B7 hww
  simp only [Act.put, List.setIfInBounds_toArray, List.set_cons_zero, List.set_cons_succ]
  go_cut [5] from 13 (fun s wx => s = .bool ww ∧ wx = w7)
  case first =>
    by_cases heq : xs = ys
    · have hd : decide (xs = ys) = true := decide_eq_true heq
      rw [hd] at SAME
      have HW : Hid (ww = false) := by rw [HWW.out, hd]; rfl
      clear heq hd
      go_wp2_with (go_at_call 21; refine SAME.out.mono ?_; rintro e wy ⟨rfl, hwy⟩; rw [hwy]; clear hwy)
      go_meet
      case rel => exact ⟨by rw [HW.out], rfl⟩
    · have hd : decide (xs = ys) = false := decide_eq_false heq
      rw [hd] at SAME
      have HW : Hid (ww = decide (DX = DY)) := by rw [HWW.out, hd]; rfl
      clear heq hd
      generalize decide (DX = DY) = dd at *
      go_wp2_with (first
        | (go_at_call 21; refine SAME.out.mono ?_; rintro e wy ⟨rfl, hwy⟩; rw [hwy]; clear hwy)
        | (refine wpList_ldg _ rfl _ _ rfl g3 _ rfl HB37.out _ _ Tryd.underlying23 (by rw [HDX.out]; exact size_b32) ?_)
        | (refine wpList_ldg _ rfl _ _ rfl g6 _ rfl HB7.out _ _ Tryd.underlying23 (by rw [HDY.out]; exact size_b32) ?_))
      go_meet
      case rel => exact ⟨by rw [HW.out], rfl⟩
  case rest =>
    obtain ⟨rfl, hwc⟩ := hcut
    rw [hwc]
    clear hwc SAME SX SY EQ
    have HS : Hid (∀ w', Below w7.heap.size w7 w' → w'.cell? ⟨g1, 0, none⟩ = some (.slice xa xs.length xc) ∧ w'.cell? ⟨g1, 1, none⟩ = some (.slice ya ys.length yc)) := by
      intro w' hw'
      have h1 := HB17.out.grow hw'
      exact ⟨by rw [h1.cell]; rfl, by rw [h1.cell]; rfl⟩
    have hd7 : Below w7.heap.size w7 w7.drew := (Below.refl _ _).drew
    have LX : Hid (∀ w', Below w7.heap.size w7 w' → Calls Tryd.prog 6 #[.slice xa xs.length xc] w' fun e w'' => ∃ p, e = .returned (.slice (some ⟨p, 0, none⟩) xs.length (xs.length + 5)) ∧ w'.heap.size ≤ p ∧ Row w'' p (xs ++ marks xs.length) ∧ Below w'.heap.size w' w'') := by
      intro w' hw'
      refine (lent_any _ xs w' (HX.out.grow (grow_trans k7 hw')) (by omega)).mono ?_
      rintro e w'' ⟨rfl, q1, q2, q3⟩
      exact ⟨_, rfl, Nat.le_refl _, q1, q2⟩
    have LY : Hid (∀ w', Below w7.heap.size w7 w' → Calls Tryd.prog 6 #[.slice ya ys.length yc] w' fun e w'' => ∃ p, e = .returned (.slice (some ⟨p, 0, none⟩) ys.length (ys.length + 5)) ∧ w'.heap.size ≤ p ∧ Row w'' p (ys ++ marks ys.length) ∧ Below w'.heap.size w' w'') := by
      intro w' hw'
      refine (lent_any _ ys w' (HY.out.grow (grow_trans k7 hw')) (by omega)).mono ?_
      rintro e w'' ⟨rfl, q1, q2, q3⟩
      exact ⟨_, rfl, Nat.le_refl _, q1, q2⟩
    go_upto_region 4 with fail
    go_cut [6] from 24 (fun s wx => Lent2 xs ys w7 s wx)
    case first =>
      refine wp_region_held_drew (S := fun w' => w'.cell? ⟨g1, 0, none⟩ = some (.slice xa xs.length xc) ∧ w'.cell? ⟨g1, 1, none⟩ = some (.slice ya ys.length yc)) (by kernel_rfl) (HS.out _ hd7) (fun hHeld => ?_)
      refine wpAnyH_take (i := 0) (v := .pointer (some ⟨g1, 0, none⟩)) rfl (by kernel_rfl) (by kernel_rfl) (by kernel_rfl) (fun _ _ _ h => h) (Or.inl ⟨by rfl, fun w hS => by go_simp⟩) hHeld ?_
      simp only [Act.put, List.getElem_toArray, List.getElem_cons_zero, List.setIfInBounds_toArray, List.set_cons_zero, List.set_cons_succ]
      refine wpAnyH_take (i := 1) (v := .slice xa xs.length xc) rfl (by kernel_rfl) (by kernel_rfl) (by kernel_rfl) (fun _ _ _ h => h) (Or.inl ⟨by rfl, fun w hS => by (have q1 := hS.1; have q2 := hS.2; go_simp)⟩) hHeld ?_
      simp only [Act.put, List.getElem_toArray, List.getElem_cons_zero, List.getElem_cons_succ, List.setIfInBounds_toArray, List.set_cons_zero, List.set_cons_succ]
      refine wpAnyH_take (i := 3) (v := .pointer (some ⟨g1, 1, none⟩)) rfl (by kernel_rfl) (by kernel_rfl) (by kernel_rfl) (fun _ _ _ h => h) (Or.inl ⟨by rfl, fun w hS => by go_simp⟩) hHeld ?_
      simp only [Act.put, List.getElem_toArray, List.getElem_cons_zero, List.getElem_cons_succ, List.setIfInBounds_toArray, List.set_cons_zero, List.set_cons_succ]
      refine wpAnyH_take (i := 4) (v := .slice ya ys.length yc) rfl (by kernel_rfl) (by kernel_rfl) (by kernel_rfl) (fun _ _ _ h => h) (Or.inl ⟨by rfl, fun w hS => by (have q1 := hS.1; have q2 := hS.2; go_simp)⟩) hHeld ?_
      simp only [Act.put, List.getElem_toArray, List.getElem_cons_zero, List.getElem_cons_succ, List.setIfInBounds_toArray, List.set_cons_zero, List.set_cons_succ]
      refine wpAnyH_ready (rs := [2, 7]) (by kernel_rfl) (by simp) ?_
      refine AllReadyH.cons rfl (fun K hK => ?_) (AllReadyH.cons rfl (fun K hK => ?_) AllReadyH.nil)
      · go_simp
        refine (LX.out _ hd7).mono ?_
        rintro e y1 ⟨p1, rfl, l1, R1, a1⟩
        have d1 := grow_trans hd7 a1
        refine hK.out _ _ (HS.out _ d1) (fun hHeld => ?_)
        clear hK K
        refine wpAnyH_ready (rs := [5, 7]) (by kernel_rfl) (by simp) ?_
        refine AllReadyH.cons rfl (fun K hK => ?_) (AllReadyH.cons rfl (fun K hK => ?_) AllReadyH.nil)
        · go_simp
          refine (LY.out _ d1).mono ?_
          rintro e y2 ⟨p2, rfl, l2, R2, a2⟩
          have d2 := grow_trans d1 a2
          have R1_1 := R1.grow a2
          refine hK.out _ _ (HS.out _ d2) (fun hHeld => ?_)
          clear hK K
          refine wpAnyH_take (i := 6) (v := .agg #[.slice (some ⟨p1, 0, none⟩) xs.length (xs.length + 5), .slice (some ⟨p2, 0, none⟩) ys.length (ys.length + 5)]) rfl (by kernel_rfl) (by kernel_rfl) (by kernel_rfl) (fun _ _ _ h => h) (Or.inl ⟨by rfl, fun w hS => by go_simp⟩) hHeld ?_
          simp only [Act.put, List.getElem_toArray, List.getElem_cons_zero, List.getElem_cons_succ, List.setIfInBounds_toArray, List.set_cons_zero, List.set_cons_succ]
          refine wpAnyH_ready (rs := [7]) (by kernel_rfl) (by simp) ?_
          refine AllReadyH.cons rfl (fun K hK => ?_) AllReadyH.nil
          go_simp
          have a0 := grow_alloc (y2) (.cells #[.slice none 0 0, .slice none 0 0] 45)
          have B0 := Blk.new (y2) 45 #[.slice none 0 0, .slice none 0 0]
          have d0 := grow_trans d2 a0
          have R1_2 := R1_1.grow a0
          have R2_2 := R2.grow a0
          refine hK.out _ _ (HS.out _ d0) (fun hHeld => ?_)
          clear hK K
          have hB := B0
          have hR1 := R1_2
          have hR2 := R2_2
          have hd := d0
          refine wpAnyH_ready (rs := [8]) (by kernel_rfl) (by simp) ?_
          refine AllReadyH.cons rfl (fun K hK => ?_) AllReadyH.nil
          refine step_sto _ rfl _ _ _ rfl _ _ #[.slice (some ⟨p1, 0, none⟩) xs.length (xs.length + 5), .slice (some ⟨p2, 0, none⟩) ys.length (ys.length + 5)] rfl rfl hB size_clash rfl (by simp [Value.oneCell']) ?_
          intro wf Bf gf
          have n1 := rows_blk hR1 hB
          have n2 := rows_blk hR2 hB
          have hg7 : w7.heap.size ≤ _ := d2.size
          have df := below_row hd gf hg7
          have hLL : Lent2 xs ys w7 _ wf := ⟨_, p1, p2, rfl, Bf, hR1.kept gf n1, hR2.kept gf n2, df⟩
          refine hK.out _ _ (HS.out _ df) (fun hHeld => ?_)
          clear hK K
          refine wpAnyH_done (by kernel_rfl) ?_ _
          clear hHeld hB hR1 hR2 Bf gf n1 n2
          simp only [Act.put, List.getElem_toArray, List.getElem_cons_zero, List.getElem_cons_succ]
          go_wp2_with fail
          go_meet
          case rel => exact hLL
        · go_simp
          have a0 := grow_alloc (y1) (.cells #[.slice none 0 0, .slice none 0 0] 45)
          have B0 := Blk.new (y1) 45 #[.slice none 0 0, .slice none 0 0]
          have d0 := grow_trans d1 a0
          have R1_1 := R1.grow a0
          refine hK.out _ _ (HS.out _ d0) (fun hHeld => ?_)
          clear hK K
          refine wpAnyH_ready (rs := [5]) (by kernel_rfl) (by simp) ?_
          refine AllReadyH.cons rfl (fun K hK => ?_) AllReadyH.nil
          go_simp
          refine (LY.out _ d0).mono ?_
          rintro e y2 ⟨p2, rfl, l2, R2, a2⟩
          have d2 := grow_trans d0 a2
          have R1_2 := R1_1.grow a2
          have B0_2 := B0.grow a2
          refine hK.out _ _ (HS.out _ d2) (fun hHeld => ?_)
          clear hK K
          refine wpAnyH_take (i := 6) (v := .agg #[.slice (some ⟨p1, 0, none⟩) xs.length (xs.length + 5), .slice (some ⟨p2, 0, none⟩) ys.length (ys.length + 5)]) rfl (by kernel_rfl) (by kernel_rfl) (by kernel_rfl) (fun _ _ _ h => h) (Or.inl ⟨by rfl, fun w hS => by go_simp⟩) hHeld ?_
          simp only [Act.put, List.getElem_toArray, List.getElem_cons_zero, List.getElem_cons_succ, List.setIfInBounds_toArray, List.set_cons_zero, List.set_cons_succ]
          have hB := B0_2
          have hR1 := R1_2
          have hR2 := R2
          have hd := d2
          refine wpAnyH_ready (rs := [8]) (by kernel_rfl) (by simp) ?_
          refine AllReadyH.cons rfl (fun K hK => ?_) AllReadyH.nil
          refine step_sto _ rfl _ _ _ rfl _ _ #[.slice (some ⟨p1, 0, none⟩) xs.length (xs.length + 5), .slice (some ⟨p2, 0, none⟩) ys.length (ys.length + 5)] rfl rfl hB size_clash rfl (by simp [Value.oneCell']) ?_
          intro wf Bf gf
          have n1 := rows_blk hR1 hB
          have n2 := rows_blk hR2 hB
          have hg7 : w7.heap.size ≤ _ := d1.size
          have df := below_row hd gf hg7
          have hLL : Lent2 xs ys w7 _ wf := ⟨_, p1, p2, rfl, Bf, hR1.kept gf n1, hR2.kept gf n2, df⟩
          refine hK.out _ _ (HS.out _ df) (fun hHeld => ?_)
          clear hK K
          refine wpAnyH_done (by kernel_rfl) ?_ _
          clear hHeld hB hR1 hR2 Bf gf n1 n2
          simp only [Act.put, List.getElem_toArray, List.getElem_cons_zero, List.getElem_cons_succ]
          go_wp2_with fail
          go_meet
          case rel => exact hLL
      · go_simp
        have a0 := grow_alloc (w7.drew) (.cells #[.slice none 0 0, .slice none 0 0] 45)
        have B0 := Blk.new (w7.drew) 45 #[.slice none 0 0, .slice none 0 0]
        have d0 := grow_trans hd7 a0
        refine hK.out _ _ (HS.out _ d0) (fun hHeld => ?_)
        clear hK K
        refine wpAnyH_ready (rs := [2]) (by kernel_rfl) (by simp) ?_
        refine AllReadyH.cons rfl (fun K hK => ?_) AllReadyH.nil
        go_simp
        refine (LX.out _ d0).mono ?_
        rintro e y1 ⟨p1, rfl, l1, R1, a1⟩
        have d1 := grow_trans d0 a1
        have B0_1 := B0.grow a1
        refine hK.out _ _ (HS.out _ d1) (fun hHeld => ?_)
        clear hK K
        refine wpAnyH_ready (rs := [5]) (by kernel_rfl) (by simp) ?_
        refine AllReadyH.cons rfl (fun K hK => ?_) AllReadyH.nil
        go_simp
        refine (LY.out _ d1).mono ?_
        rintro e y2 ⟨p2, rfl, l2, R2, a2⟩
        have d2 := grow_trans d1 a2
        have B0_2 := B0_1.grow a2
        have R1_2 := R1.grow a2
        refine hK.out _ _ (HS.out _ d2) (fun hHeld => ?_)
        clear hK K
        refine wpAnyH_take (i := 6) (v := .agg #[.slice (some ⟨p1, 0, none⟩) xs.length (xs.length + 5), .slice (some ⟨p2, 0, none⟩) ys.length (ys.length + 5)]) rfl (by kernel_rfl) (by kernel_rfl) (by kernel_rfl) (fun _ _ _ h => h) (Or.inl ⟨by rfl, fun w hS => by go_simp⟩) hHeld ?_
        simp only [Act.put, List.getElem_toArray, List.getElem_cons_zero, List.getElem_cons_succ, List.setIfInBounds_toArray, List.set_cons_zero, List.set_cons_succ]
        have hB := B0_2
        have hR1 := R1_2
        have hR2 := R2
        have hd := d2
        refine wpAnyH_ready (rs := [8]) (by kernel_rfl) (by simp) ?_
        refine AllReadyH.cons rfl (fun K hK => ?_) AllReadyH.nil
        refine step_sto _ rfl _ _ _ rfl _ _ #[.slice (some ⟨p1, 0, none⟩) xs.length (xs.length + 5), .slice (some ⟨p2, 0, none⟩) ys.length (ys.length + 5)] rfl rfl hB size_clash rfl (by simp [Value.oneCell']) ?_
        intro wf Bf gf
        have n1 := rows_blk hR1 hB
        have n2 := rows_blk hR2 hB
        have hg7 : w7.heap.size ≤ _ := Nat.le_refl _
        have df := below_row hd gf hg7
        have hLL : Lent2 xs ys w7 _ wf := ⟨_, p1, p2, rfl, Bf, hR1.kept gf n1, hR2.kept gf n2, df⟩
        refine hK.out _ _ (HS.out _ df) (fun hHeld => ?_)
        clear hK K
        refine wpAnyH_done (by kernel_rfl) ?_ _
        clear hHeld hB hR1 hR2 Bf gf n1 n2
        simp only [Act.put, List.getElem_toArray, List.getElem_cons_zero, List.getElem_cons_succ]
        go_wp2_with fail
        go_meet
        case rel => exact hLL
    case rest =>
      obtain ⟨gc, p, q, rfl, Bc, Rp, Rq, k9⟩ := hcut
      obtain ⟨wz, rfl⟩ : ∃ x, x = wc := ⟨_, rfl⟩
      have kz := grow_trans k7 k9
      have CL : Hid (Calls Tryd.prog 22 #[.agg #[.slice (some ⟨p, 0, none⟩) xs.length (xs.length + 5), .slice (some ⟨q, 0, none⟩) ys.length (ys.length + 5)]] wz fun e w' => e = .returned (.bool ww) ∧ Below wz.heap.size wz w') := by
        rw [HWW.out, HHX.out, HHY.out]
        exact clash_any _ _ xs ys wz (Rp.lent_reads BX.out) (Rq.lent_reads BY.out) (HL.out.grow kz) (by omega) (by omega)
      have HG : Hid (∀ w', Below wz.heap.size wz w' → w'.cell? ⟨gc, 0, none⟩ = some (.slice (some ⟨p, 0, none⟩) xs.length (xs.length + 5)) ∧ w'.cell? ⟨gc, 1, none⟩ = some (.slice (some ⟨q, 0, none⟩) ys.length (ys.length + 5)) ∧ w'.cell? ⟨g1, 0, none⟩ = some (.slice xa xs.length xc) ∧ w'.cell? ⟨g1, 1, none⟩ = some (.slice ya ys.length yc)) := by
        intro w' hw'
        have q1 := Bc.grow hw'
        have q2 := (HB17.out.grow k9).grow hw'
        exact ⟨by rw [q1.cell]; rfl, by rw [q1.cell]; rfl, by rw [q2.cell]; rfl, by rw [q2.cell]; rfl⟩
      have KX : Hid (∀ w', Below wz.heap.size wz w' → Calls Tryd.prog 19 #[.slice (some ⟨p, 0, none⟩) xs.length (xs.length + 5), .slice xa xs.length xc] w' fun e w'' => e = .returned (.bool true) ∧ Below w'.heap.size w' w'') := fun w' hw' =>
        kept_true p _ xs w' (Rp.grow hw') (HX.out.grow (grow_trans kz hw')) (by omega)
      have KY : Hid (∀ w', Below wz.heap.size wz w' → Calls Tryd.prog 19 #[.slice (some ⟨q, 0, none⟩) ys.length (ys.length + 5), .slice ya ys.length yc] w' fun e w'' => e = .returned (.bool true) ∧ Below w'.heap.size w' w'') := fun w' hw' =>
        kept_true q _ ys w' (Rq.grow hw') (HY.out.grow (grow_trans kz hw')) (by omega)
      obtain ⟨D0, hD0⟩ : ∃ D, D = dig [0] := ⟨_, rfl⟩
      have E1 : Hid (∀ w', Below wz.heap.size wz w' → Calls Tryd.prog 9 #[] w' fun e w'' => e = .returned (.agg (B D0)) ∧ Below w'.heap.size w' w'') := by
        intro w' hw'
        rw [hD0]
        exact empty_any w' (HL.out.grow (grow_trans kz hw'))
      have E2 : Hid (∀ w', Calls Tryd.prog 10 #[] w' fun e w'' => e = .returned (.agg (B D0)) ∧ Below w'.heap.size w' w'') := by
        intro w'
        rw [hD0]
        exact refEmpty_any w'
      have EQ0 : ∀ w, (Op.equalIn 10000 26 (.agg (B D0)) (.agg (B D0))).run Tryd.prog w = .ok true w := by
        rw [hD0]
        exact hash_same (dig [0]) (dig_length _)
      have HBc := hidden Bc
      have hbb : (ww == ww) = true := by simp
      clear hD0 Bc Rp Rq LX LY HS HB17 HB37 HB7 HWW HHX HHY
      go_wp2_with (first
        | (refine wpList_load_row rfl _ _ rfl gc rfl _ #[.slice (some ⟨p, 0, none⟩) xs.length (xs.length + 5), .slice (some ⟨q, 0, none⟩) ys.length (ys.length + 5)] _ _ HBc.out Tryd.underlying45 rfl size_clash ?_)
        | (go_at_call 22; refine CL.out.mono ?_; rintro e w10 ⟨rfl, b10⟩; obtain ⟨u1, u2, u3, u4⟩ := HG.out w10 b10)
        | (go_at_call 19; have hx := b11; clear hx; refine (KY.out w11 k11).mono ?_; rintro e w12 ⟨rfl, b12⟩; have k12 := grow_trans k11 b12)
        | (go_at_call 19; refine (KX.out w10 b10).mono ?_; rintro e w11 ⟨rfl, b11⟩; have k11 := grow_trans b10 b11; obtain ⟨v1, v2, v3, v4⟩ := HG.out w11 k11)
        | (go_at_call 9; refine (E1.out w12 k12).mono ?_; rintro e w13 ⟨rfl, b13⟩)
        | (go_at_call 10; refine (E2.out w13).mono ?_; rintro e w14 ⟨rfl, b14⟩))
      go_ret
      exact ⟨rfl, grow_trans (grow_trans (grow_trans kz k12) b13) b14⟩

end Go.Proofs.YtacfhkaihcclaaaDoor
