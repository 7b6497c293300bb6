/- ShaScript's walk: three states under any script tell what the document tells, call by call. -/
import Derived.Test.YtegpceglhbgcnaaDoorScript1
import Derived.LaidEqlPtr
namespace Go.Proofs.YtegpceglhbgcnaaDoor
open Go.RowKit

/-- How many bytes the first k calls bring. -/
def tot (Z : Nat → List Int) : Nat → Nat
  | 0 => 0
  | k + 1 => tot Z k + (Z k).length
theorem tot_le (Z : Nat → List Int) : ∀ (k d : Nat), tot Z k ≤ tot Z (k + d)
  | _, 0 => Nat.le_refl _
  | k, d + 1 => Nat.le_trans (tot_le Z k d) (by rw [← Nat.add_assoc]; simp [tot])

theorem zero_act : ∀ w, (zeroValue 41).run Tryd.prog w = .ok (.agg #[.int .u8 0, .int .u8 0, .int .u8 0, .slice none 0 0]) w := Tryd.zeroValue41
theorem zero_m : ∀ w, (zeroValue 39).run Tryd.prog w = .ok (.agg #[.slice none 0 0, .slice none 0 0, .slice none 0 0]) w := Tryd.zeroValue39
theorem zero_s : ∀ w, (zeroValue 38).run Tryd.prog w = .ok (.agg #[.pointer none, .pointer none, .pointer none]) w := Tryd.zeroValue38
theorem size_act : (Tryd.prog.info? 41).map (·.size) = some 4 := by kernel_rfl
theorem size_s3 : (Tryd.prog.info? 38).map (·.size) = some 3 := by kernel_rfl

theorem states_other {w : World} {g g' : Nat} {cs cs' : Array Value} {t t' : TypeId} (h : Blk w g t cs) (h' : Blk w g' t' cs') (hne : g ≠ g') :
    (binOp .eql 36 (.pointer (some ⟨g, 0, none⟩)) (.pointer (some ⟨g', 0, none⟩))).run Tryd.prog w = .ok (.bool false) w := by
  obtain ⟨j, hj, hz⟩ : ∃ j, Tryd.prog.info? 53 = some j ∧ j.size ≠ 0 := ⟨_, rfl, by decide⟩
  exact run_eql_ptr_other w Tryd.underlying36 hj hz (fun e => hne (by injection e)) h h'

set_option maxHeartbeats 8000000 in
set_option maxRecDepth 10000 in
theorem script_walk (az : Option Addr) (N c : Nat) (K O J : Nat → Int) (X : Nat → Value) (Z : Nat → List Int) (w : World)
    (hN : N ≤ 140737488355328)
    (hA : 0 < N → ∃ sb so, az = some ⟨sb, so, none⟩ ∧ ∀ i, i < N → w.cell? ⟨sb, so + i * 4, none⟩ = some (.int .u8 (K i)) ∧ w.cell? ⟨sb, so + i * 4 + 1, none⟩ = some (.int .u8 (O i)) ∧ w.cell? ⟨sb, so + i * 4 + 2, none⟩ = some (.int .u8 (J i)) ∧ w.cell? ⟨sb, so + i * 4 + 3, none⟩ = some (X i) ∧ 0 ≤ O i ∧ O i ≤ 255 ∧ 0 ≤ J i ∧ J i ≤ 255 ∧ Reads w (X i) (Z i))
    (ht : tot Z N ≤ 1048576) (hL : Laid w) :
    Calls Tryd.prog 4 #[.slice az N c] w fun e w' => e = .returned (.bool true) ∧ Below w.heap.size w w' := by
  have HL := hidden hL
  have HA := hidden hA
  clear hL hA
  go_enter Tryd.func4, Tryd.ntmps4
  go_wp2_with fail
  refine (new_any w HL.out).mono ?_
  rintro e w1 ⟨p0, rfl, hp0, hp0l, S0, b1⟩
  go_wp2_with fail
  refine (new_any w1 (HL.out.grow b1)).mono ?_
  rintro e w2 ⟨p1, rfl, hp1, hp1l, S1, b2⟩
  have c2 := b1.trans (b2.mono b1.size)
  go_wp2_with fail
  refine (new_any w2 (HL.out.grow c2)).mono ?_
  rintro e w3 ⟨p2, rfl, hp2, hp2l, S2, b3⟩
  have c3 := c2.trans (b3.mono c2.size)
  go_wp2_with (first
    | (refine wpList_al _ rfl _ rfl _ zero_s ?_; intro w4 gs hgs hgsl B4 b4)
    | (refine wpList_sto _ rfl _ _ _ rfl gs _ #[.pointer (some ⟨p0, 0, none⟩), .pointer (some ⟨p1, 0, none⟩), .pointer (some ⟨p2, 0, none⟩)] rfl rfl B4 (by exact size_s3) rfl (by simp [Value.oneCell']) ?_; intro w5 B5 gg5; have q0 := B5.cell 0; have q1 := B5.cell 1; have q2 := B5.cell 2)
    | (refine wpList_al _ rfl _ rfl _ zero_m ?_; intro w6 gm hgm hgml B6 b6; have y0 := below_cell b6 (B5.cell 0); have y1 := below_cell b6 (B5.cell 1); have y2 := below_cell b6 (B5.cell 2)))
  have n01 : p0 ≠ p1 := by omega
  have n02 : p0 ≠ p2 := by have := b2.size; omega
  have n12 : p1 ≠ p2 := by omega
  have e3 := b3.size
  have e4 := b4.size
  have e5 := gg5.size
  have e2 := b2.size
  have c4 := c3.trans (b4.mono c3.size)
  have c5 := below_row c4 gg5 (by have := c3.size; omega)
  have c6 := c5.trans (b6.mono c5.size)
  have T0 : Txt w6 p0 [] := Txt.grow (Txt.kept (Txt.grow (⟨_, ((S0.grow b2).grow b3), rfl, Bytes.nil⟩ : Txt w3 p0 []) b4) gg5 (by omega)) b6
  have T1 : Txt w6 p1 [] := Txt.grow (Txt.kept (Txt.grow (⟨_, (S1.grow b3), rfl, Bytes.nil⟩ : Txt w3 p1 []) b4) gg5 (by omega)) b6
  have T2 : Txt w6 p2 [] := Txt.grow (Txt.kept (Txt.grow (⟨_, S2, rfl, Bytes.nil⟩ : Txt w3 p2 []) b4) gg5 (by omega)) b6
  have SC : Hid (Sc w w6 gs gm (fun i => if i = 0 then p0 else if i = 1 then p1 else p2) (fun _ => []) (fun _ => .slice none 0 0) (fun _ => [])) := by
    refine ⟨B5.grow b6, B6, fun i hi => ?_, fun i j hi hj e => ?_, fun i hi => ?_, by have := c3.size; omega, by have := c5.size; omega, fun i hi => ⟨[], Own.nil _ _⟩, c6⟩
    · match i, hi with
      | 0, _ => exact T0
      | 1, _ => exact T1
      | 2, _ => exact T2
    · match i, j, hi, hj, e with
      | 0, 0, _, _, _ => rfl
      | 0, 1, _, _, e => exact absurd e n01
      | 0, 2, _, _, e => exact absurd e n02
      | 1, 0, _, _, e => exact absurd e.symm n01
      | 1, 1, _, _, _ => rfl
      | 1, 2, _, _, e => exact absurd e n12
      | 2, 0, _, _, e => exact absurd e.symm n02
      | 2, 1, _, _, e => exact absurd e.symm n12
      | 2, 2, _, _, _ => rfl
    · match i, hi with
      | 0, _ => exact hp0
      | 1, _ => exact Nat.le_trans b1.size hp1
      | 2, _ => exact Nat.le_trans c2.size hp2
  clear T0 T1 T2 c4 c5 c6 e2 e3 e4 e5 B4 B5 B6 b4 b6 gg5 S0 S1 S2 b1 b2 b3 c2 c3 q0 q1 q2 y0 y1 y2 hp0 hp1 hp2 hp0l hp1l hp2l hgs hgsl hgm hgml
  go_loopw [5] (fun i wr => ∃ (k : Nat) (P : Nat → Nat) (T : Nat → List Int) (M : Nat → Value), k ≤ N ∧ i = .int .i64 k ∧ Hid (Sc w wr gs gm P T M T) ∧ Hid (∀ i, i < 3 → (T i).length ≤ tot Z k)) (fun i _ => N - (intOf i).toNat)
  case atStart => exact ⟨0, _, _, _, by omega, rfl, SC, fun i hi => by simp⟩
  case round =>
    clear SC
    obtain ⟨k, P, T, M, hk, rfl, hS, hB⟩ := hrel
    have k0 : (0 : Int) ≤ (k : Int) := by omega
    by_cases hlt : k < N
    · have i1 : (k : Int) < (N : Int) := by omega
      obtain ⟨sb, so, haz, hcz⟩ := HA.out (by omega)
      subst haz
      obtain ⟨z0, z1, z2, z3, hO0, hO1, hJ0, hJ1, hRX⟩ := hcz k hlt
      have z0 := below_cell hS.out.low z0
      have z1 := below_cell hS.out.low z1
      have z2 := below_cell hS.out.low z2
      have z3 := below_cell hS.out.low z3
      have HRX := hidden hRX
      have HZ : Hid (tot Z (k + 1) = tot Z k + (Z k).length) := rfl
      have HTk : Hid (tot Z (k + 1) ≤ 1048576) := by
        have := tot_le Z (k + 1) (N - (k + 1))
        rw [show k + 1 + (N - (k + 1)) = N by omega] at this
        show _ ≤ _
        omega
      clear hcz hRX
      generalize K k = kk at *
      generalize X k = xv at *
      generalize Z k = zs at *
      obtain ⟨o, ho⟩ : ∃ o : Nat, O k % 3 = (o : Int) := ⟨(O k % 3).toNat, by omega⟩
      obtain ⟨t, htt⟩ : ∃ t : Nat, J k % 3 = (t : Int) := ⟨(J k % 3).toNat, by omega⟩
      have o3 : o < 3 := by omega
      have t3 : t < 3 := by omega
      generalize O k = on at *
      generalize J k = jn at *
      have HOC : Hid ((#[.int .u8 kk, .int .u8 on, .int .u8 jn, xv] : Array Value).all (·.oneCell') = true) := by
        obtain ⟨xa, xc, xe, _⟩ := HRX.out
        show _ = _
        rw [xe]
        simp [Value.oneCell']
      go_wp2_with (first
        | (refine wpList_al _ rfl _ rfl _ zero_act ?_; intro w7 ga hga hgal B7 b7)
        | (refine wpList_sto _ rfl _ _ _ rfl ga _ #[.int .u8 kk, .int .u8 on, .int .u8 jn, xv] rfl rfl B7 (by exact size_act) rfl HOC.out ?_; intro w8 B8 gg8))
      have b8 : Below wr.heap.size wr w8 := below_row b7 gg8 hga
      have S8 := hidden (hS.out.grow b8)
      have a0 := B8.cell 0
      have a1 := B8.cell 1
      have a2 := B8.cell 2
      have a3 := B8.cell 3
      simp only [List.getElem?_toArray, List.getElem?_cons_zero, List.getElem?_cons_succ] at a0 a1 a2 a3
      have hgw : w.heap.size ≤ ga := Nat.le_trans hS.out.low.size hga
      have HB8 := hidden B8
      have HR8 := hidden (HRX.out.grow S8.out.low)
      clear B7 b7 gg8 hgal B8 z0 z1 z2 z3 hS b8 hga
      go_quiet (fail)
      rw [show on.tmod 3 = (o : Int) by rw [Int.tmod_eq_emod_of_nonneg hO0]; exact ho, show jn.tmod 3 = (t : Int) by rw [Int.tmod_eq_emod_of_nonneg hJ0]; exact htt]
      have bq : Below w8.heap.size w8 (w8.drewN nq) := below_drewN (Below.refl _ _) nq
      have S9 := hidden (S8.out.grow bq)
      have HB9 := hidden (HB8.out.grow bq)
      have HR9 := hidden (HR8.out.grow bq)
      clear a0 a1 a2 a3 S8 HB8 HR8 bq ho htt hO0 hO1 hJ0 hJ1 HOC
      generalize w8.drewN nq = w9 at *
      have a0 := HB9.out.cell 0
      have a3 := HB9.out.cell 3
      simp only [List.getElem?_toArray, List.getElem?_cons_zero, List.getElem?_cons_succ] at a0 a3
      have o0 : (0 : Int) ≤ (o : Int) := by omega
      have o1 : (o : Int) < 3 := by omega
      have t0 : (0 : Int) ≤ (t : Int) := by omega
      have t1 : (t : Int) < 3 := by omega
      have HGA := hidden hgw
      have HTO := hidden (hB.out o o3)
      clear hgw
      have cs9 := S9.out.cs o o3
      have HSo : Hid (∀ w', Below w9.heap.size w9 w' → Sc w w' gs gm P T M T) := fun w' hb => S9.out.grow hb
      obtain ⟨msp, hMO⟩ := S9.out.own o o3
      obtain ⟨ma, mc, hM⟩ := hMO.slice
      have cm9 := S9.out.cm o o3
      rw [hM] at cm9 hMO
      have HMO := hidden hMO
      have HM := hidden hM
      have hTb : (T o).length ≤ 1048576 := by have := HTO.out; have := HZ.out; have := HTk.out; omega
      have HSM : Hid (∀ w', Below w9.heap.size w9 w' → w'.cell? ⟨gs, o, none⟩ = some (.pointer (some ⟨P o, 0, none⟩)) ∧ w'.cell? ⟨gm, o, none⟩ = some (.slice ma (T o).length mc)) := fun w' hb => ⟨below_cell hb cs9, below_cell hb cm9⟩
      have HLW : Hid (∀ w', Below w9.heap.size w9 w' → Laid w') := fun w' hb => HL.out.grow (S9.out.grow hb).low
      have END : Hid (∀ wx, Below w9.heap.size w9 wx → (∃ (k' : Nat) (P : Nat → Nat) (T : Nat → List Int) (M : Nat → Value), k' ≤ N ∧ Value.int .i64 ((k : Int) + 1) = .int .i64 k' ∧ Hid (Sc w wx gs gm P T M T) ∧ Hid (∀ i, i < 3 → (T i).length ≤ tot Z k'))) := by
        intro wx hb
        refine ⟨k + 1, P, T, M, by omega, by go_num, S9.out.grow hb, fun i hi => ?_⟩
        have := hB.out i hi
        have := HZ.out
        omega
      have hd0 : Below w9.heap.size w9 w9.drew := (Below.refl _ _).drew
      clear hM hMO
      by_cases hk0 : kk = 0
      · subst hk0
        obtain ⟨xa, xc, hxe, _, _, hzb, _⟩ := HR9.out
        have HZB := hidden hzb
        clear hzb
        subst hxe
        have hzl : zs.length ≤ 1048576 := by have := HZ.out; have := HTk.out; omega
        have hga9 : ga < w9.heap.size := HB9.out.lt
        have nga : ga ≠ P o := by
          obtain ⟨cp, hP⟩ := (S9.out.txt o o3).blk
          exact HB9.out.types hP (by decide)
        go_wp2_with fail
        refine (lent_any _ zs w9 HR9.out (by omega)).mono ?_
        rintro e w10 ⟨rfl, row10, b10, s10⟩
        have S10 := hidden (S9.out.grow b10)
        have hRp : Hid (Reads w10 (.slice (some ⟨w9.heap.size, 0, none⟩) zs.length (zs.length + 5)) zs) := by
          refine ⟨_, _, rfl, by omega, fun h => by simp at h, HZB.out, fun _ => ⟨w9.heap.size, 0, rfl, fun i hi => ?_⟩⟩
          rw [Nat.zero_add, row10.cell i (by simp; omega)]
          simp [List.getD, List.getElem?_append_left hi]
        have hPo : P o < w9.heap.size := (S9.out.txt o o3).lt
        have hnp : w9.heap.size ≠ P o := by omega
        have cs10 := below_cell b10 cs9
        have ca10 := below_cell b10 a3
        have ngs : gs ≠ P o := by
          obtain ⟨cp, hP⟩ := (S9.out.txt o o3).blk
          exact S9.out.s.types hP (by decide)
        have HS : Hid (∀ w', Below w10.heap.size w10 w' → w'.cell? ⟨gs, o, none⟩ = some (.pointer (some ⟨P o, 0, none⟩)) ∧ w'.cell? ⟨ga, 3, none⟩ = some (.slice xa zs.length xc)) := fun w' hb => ⟨below_cell hb cs10, below_cell hb ca10⟩
        have HW : Hid (∀ w', Below w10.heap.size w10 w' → Calls Tryd.prog 14 #[.pointer (some ⟨P o, 0, none⟩), .slice (some ⟨w9.heap.size, 0, none⟩) zs.length (zs.length + 5)] w' fun e w'' => e = .returned (.int .i64 (zs.length : Int)) ∧ Txt w'' (P o) (T o ++ zs) ∧ Laid w'' ∧ w'.grownBy w'' (some (P o))) := by
          intro w' hb
          have hS' := S10.out.grow hb
          refine write_any (P o) _ (T o) zs w' (hS'.txt o o3) (hRp.out.grow hb) (fun _ e => hnp (by injection e)) (HL.out.grow hS'.low) ?_ (by omega)
          have := HL.out.1
          have := S9.out.ge o o3
          omega
        have HKW : Hid (∀ (w' w'' : World), w'.grownBy w'' (some (P o)) → ∀ (g i : Nat) (v : Value), g ≠ P o → w'.cell? ⟨g, i, none⟩ = some v → w''.cell? ⟨g, i, none⟩ = some v) := by
          intro w' w'' hg g i v hne hc
          have := hg.block g (block_lt_of_cell hc) (fun e => hne (by injection e))
          rw [← hc]
          unfold World.cell?
          simp only [this]
        have hd10 : Below w10.heap.size w10 w10.drew := (Below.refl _ _).drew
        have HXA : Hid (0 < zs.length → (Value.slice xa zs.length xc).ownBlock ≠ some (P o)) := HRX.out.apart (S9.out.ge o o3)
        have hlenz : ((zs.length : Int) != (zs.length : Int)) = false := by simp
        go_wp2_with fail
        go_region_held2 (fun w' => w'.cell? ⟨gs, o, none⟩ = some (.pointer (some ⟨P o, 0, none⟩)) ∧ w'.cell? ⟨ga, 3, none⟩ = some (.slice xa zs.length xc))
          (first | (refine HS2.out _ ?_; assumption) | (refine HS.out _ ?_; assumption))
          (first
            | (go_at_call 14; refine (HW.out _ hd10).mono ?_; rintro e w11 ⟨rfl, T11, L11, g11⟩; have bw11 : Below w11.heap.size w11 w11 := Below.refl _ _; have HS2 : Hid (∀ w', Below w11.heap.size w11 w' → w'.cell? ⟨gs, o, none⟩ = some (.pointer (some ⟨P o, 0, none⟩)) ∧ w'.cell? ⟨ga, 3, none⟩ = some (.slice xa zs.length xc)) := fun w' hb => ⟨below_cell hb (HKW.out _ _ g11 gs o _ ngs cs10), below_cell hb (HKW.out _ _ g11 ga 3 _ nga ca10)⟩)
            | (go_at_call 10; refine (kept_true w9.heap.size (.slice xa zs.length xc) zs w11 (row10.of_block (g11.block _ row10.lt (fun e => hnp (by injection e)))) (Reads.kept (HR9.out.grow b10) ⟨g11.os, g11.tape, g11.output, g11.size, g11.block⟩ HXA.out) (by omega)).mono ?_; rintro e w12 ⟨rfl, b12⟩))
        have row11 := row10.of_block (g11.block _ row10.lt (fun e => hnp (by injection e)))
        have row12 := row11.of_block (b12.block _ row11.lt)
        have OP : Own w9.heap.size w12 (.slice (some ⟨w9.heap.size, 0, none⟩) zs.length (zs.length + 5)) zs (marks zs.length) := by
          have h1 := Own.mk (base := w9.heap.size) HZB.out (marks_bytes zs.length) (by rw [marks_length]; simp only [maxLen]; omega) (Nat.le_refl _) row12
          rw [marks_length] at h1
          exact h1
        go_wp2_with fail
        refine (over_own _ _ zs (marks zs.length) w12 OP).mono ?_
        rintro e w13 ⟨rfl, O13, g13, s13⟩
        have hblk : ∀ k, k < w9.heap.size → k ≠ P o → w13.heap[k]? = w9.heap[k]? := by
          intro k hk hne
          have e1 := b10.block k hk
          have l1 := b10.size
          have e2 := g11.block k (show k < w10.heap.size by omega) (fun e => hne (by injection e))
          have l2 : w10.heap.size ≤ w11.heap.size := g11.size
          have e3 := b12.block k (by omega)
          have l3 := b12.size
          have e4 := g13.block k (by omega) (fun e => by
            have e' : some k = some w9.heap.size := e
            injection e' with e'
            omega)
          exact e4.trans (e3.trans (e2.trans e1))
        have c10 := S10.out.low
        have c11 : Below w.heap.size w w11 := below_row c10 ⟨g11.os, g11.tape, g11.output, g11.size, g11.block⟩ (S9.out.ge o o3)
        have c12 := c11.trans (b12.mono c11.size)
        have c13 : Below w.heap.size w w13 := below_row c12 (g := w9.heap.size) g13 S9.out.low.size
        have S13 := hidden (S9.out.step o o3 (T o ++ zs) hblk (Txt.kept (g' := w9.heap.size) (T11.grow b12) g13 (by omega)) c13)
        have ca13 : w13.cell? ⟨ga, 3, none⟩ = some (.slice xa zs.length xc) := by
          rw [(HB9.out.of_block (hblk ga hga9 nga)).cell]
          rfl
        have cm13 := S13.out.cm o o3
        rw [HM.out] at cm13
        have cm13a := below_cell (grow_alloc w13 (.cells #[] 5)) cm13
        have ca13a := below_cell (grow_alloc w13 (.cells #[] 5)) ca13
        have HXr := hidden (HRX.out.grow c13)
        have HMr : Hid (Reads w13 (.slice ma (T o).length mc) (T o)) := by
          obtain ⟨sp, h1⟩ := S13.out.own o o3
          rw [HM.out] at h1
          exact h1.reads
        have HTO2 := hB.out
        clear s13 s10 hblk row11 row12 OP O13 g13 c10 c11 c12 c13 b12 T11 L11 g11 HS HS2 HW HKW S10 row10 b10 hRp cs10 ca10 a0 a3 cs9 cm9 S9 HB9 HSM HLW HSo END HMO
        go_wp2_with fail
        go_region_law (first
          | (have hx := h14; clear hx; refine step_app _ rfl _ _ rfl w13.heap.size _ _ (T o) sp14 zs h14 (HXr.out.grow b14) rfl rfl (.inr (by omega)) (by have := b14.size; omega) ?_; intro v15 w15 sp15 h15 g15 k15 l15 m15; have b15 : Below w13.heap.size w13 w15 := b14.grown g15 b14.size (fun k hk => (h14.lt k hk).1); have S15 := hidden (S13.out.grow b15); have cm15 := S15.out.cm o o3; have fm15 := S15.out.m.frozen o; obtain ⟨va15, vc15, hv15⟩ := h15.slice; rw [List.length_append] at hv15; subst hv15)
          | (refine step_app _ rfl _ _ rfl w13.heap.size _ _ [] [] (T o) ((Own.empty w13.heap.size w13 (Nat.le_refl _)).grow (Below.refl _ _).drew) (HMr.out.grow (grow_alloc _ _).drew) rfl rfl (.inr (by simp; omega)) (by simp) ?_; intro v14 w14 sp14 h14 g14 k14 l14 m14; rw [List.nil_append] at h14; have b14 : Below w13.heap.size w13 w14 := (grow_alloc w13 (.cells #[] 5)).drew.grown g14 (by simp) (fun k hk => ((Own.empty w13.heap.size w13 (Nat.le_refl _)).lt k hk).1); have ca14 := below_cell b14 ca13))
        all_goals
          go_wp2_with fail
          have hw13 : w.heap.size ≤ w13.heap.size := S13.out.low.size
          have S16 := S15.out.setM o o3 _ (T o ++ zs) sp15 (h15.mono hw13)
          refine ⟨⟨k + 1, P, upd T o (T o ++ zs), _, by omega, by go_num, S16, fun i hi => ?_⟩, by simp [intOf]; omega⟩
          have h1 := HZ.out
          have h2 := HTO2 o o3
          have h3 := HTO2 i hi
          unfold upd
          by_cases e : i = o
          · rw [if_pos e, List.length_append]
            omega
          · rw [if_neg e]
            omega
      · by_cases hk1 : kk = 1
        · subst hk1
          have HQ := hash_same (dig (T o)) (dig_length _)
          go_wp2_with fail
          go_region_held2 (fun w' => w'.cell? ⟨gs, o, none⟩ = some (.pointer (some ⟨P o, 0, none⟩)) ∧ w'.cell? ⟨gm, o, none⟩ = some (.slice ma (T o).length mc))
            (first | exact HSM.out _ (by assumption))
            (first
              | (go_at_call 16; refine (sum_at (P o) (T o) _ ((HSo.out _ (by assumption)).txt o o3) (HLW.out _ (by assumption)) (by omega)).mono ?_; rintro e wa ⟨rfl, ba⟩; have bwa := grow_trans hd0 ba)
              | (go_at_call 9; refine (refSum_any (.slice ma (T o).length mc) (T o) _ (HMO.out.reads.grow (by assumption)) (by omega)).mono ?_; rintro e wb ⟨rfl, bb⟩; have bwb := grow_trans (by assumption) bb))
          go_wp2
          exact ⟨END.out _ (by assumption), by simp [intOf]; omega⟩
        · by_cases hk2 : kk = 2
          · subst hk2
            have HLN : Hid (∀ w', Below w9.heap.size w9 w' → Calls Tryd.prog 17 #[.pointer (some ⟨P o, 0, none⟩)] w' fun e w'' => e = .returned (.int .i64 ((T o).length : Int)) ∧ w'' = w') := by
              intro w' hb
              obtain ⟨bk, h1, _, _⟩ := (HSo.out _ hb).txt o o3
              exact len_at (P o) _ w' h1.made h1.count
            go_wp2_with fail
            go_region_held2 (fun w' => w'.cell? ⟨gs, o, none⟩ = some (.pointer (some ⟨P o, 0, none⟩)) ∧ w'.cell? ⟨gm, o, none⟩ = some (.slice ma (T o).length mc))
              (first | exact HSM.out _ (by assumption))
              (first | (go_at_call 17; refine (HLN.out _ (by assumption)).mono ?_; rintro e wa ⟨rfl, hwa⟩; rw [hwa]; clear hwa))
            go_wp2
            exact ⟨END.out _ (by assumption), by simp [intOf]; omega⟩
          · have e0 : (kk == 0) = false := beq_eq_false_iff_ne.2 hk0
            have e1 : (kk == 1) = false := beq_eq_false_iff_ne.2 hk1
            have e2 : (kk == 2) = false := beq_eq_false_iff_ne.2 hk2
            have HTO9 := S9.out.txt o o3
            obtain ⟨bk, hSt, hk3, hby⟩ := HTO9
            have HK3 := hidden hk3
            have HBY := hidden hby
            have HST := hidden hSt
            have hPl : P o < w9.heap.size := hSt.1.lt
            have ct9 := S9.out.cs t t3
            have ft9 := S9.out.s.frozen t
            have cmt9 := S9.out.cm t t3
            have fmt9 := S9.out.m.frozen t
            clear hk3 hby hSt
            have HNP : Hid (∀ gc, w9.heap.size ≤ gc → ∀ i, i < 3 → P i ≠ gc) := by
              intro gc hgc i hi
              have := (S9.out.txt i hi).lt
              omega
            have HWL : Hid (w.heap.size ≤ w9.heap.size) := S9.out.low.size
            go_wp2_with (first
              | (go_at_call 18; refine (clone_at (P o) _ bk _ w9 HST.out).mono ?_; rintro e w10 ⟨gc, rfl, hgc, hgcl, S10, b10⟩; have cs10 := below_cell b10 cs9; have ct10 := below_cell b10 ct9; have ft10 := ((S9.out.grow b10).s.frozen t); have heq := states_other S10.1 ((HST.out.grow b10).1) (Ne.symm (HNP.out gc hgc o o3)); have S11 := hidden ((S9.out.grow b10).setS t t3 gc (T o) ⟨bk, S10, HK3.out, HBY.out⟩ (Nat.le_trans HWL.out hgc) (HNP.out gc hgc)); have cm11 := below_cell (grow_alloc _ (.cells #[] 5)) (S11.out.cm o o3); rw [HM.out] at cm11; clear S10 b10 hgcl)
              | (at_builtin; obtain ⟨sp11, hO11⟩ := S11.out.own o o3; rw [HM.out] at hO11; have hsz : (w10.setCell ⟨gs, t, none⟩ (.pointer (some ⟨gc, 0, none⟩))).heap.size = w10.heap.size := (by simp); have oe := Own.empty w10.heap.size (w10.setCell ⟨gs, t, none⟩ (.pointer (some ⟨gc, 0, none⟩))) (Nat.le_of_eq hsz.symm); rw [hsz] at oe; refine wpList_app _ rfl _ _ rfl w10.heap.size _ _ [] [] (T o) oe (hO11.reads.grow (grow_alloc _ _)) rfl rfl (by simp; omega) (by simp) ?_; intro v12 w12 sp12 h12 g12 k12 l12; rw [List.nil_append] at h12; obtain ⟨va12, vc12, hv12⟩ := h12.slice; subst hv12; have b12 : Below (w10.setCell ⟨gs, t, none⟩ (.pointer (some ⟨gc, 0, none⟩))).heap.size (w10.setCell ⟨gs, t, none⟩ (.pointer (some ⟨gc, 0, none⟩))) w12 := (grow_alloc (w10.setCell ⟨gs, t, none⟩ (.pointer (some ⟨gc, 0, none⟩))) (.cells #[] 5)).grown g12 (by simp) (fun k hk => (by have := (oe.lt k hk).1; rw [hsz]; exact this)); have S12 := hidden (S11.out.grow b12); have cmt12 := S12.out.cm t t3; have fmt12 := S12.out.m.frozen t))
            have hw10 : w.heap.size ≤ w10.heap.size := by
              have := S11.out.low.size
              rw [hsz] at this
              exact this
            have S13 := S12.out.setM t t3 _ (T o) sp12 (h12.mono hw10)
            refine ⟨⟨k + 1, _, _, _, by omega, by go_num, S13, fun i hi => ?_⟩, by simp [intOf]; omega⟩
            have h1 := HZ.out
            have h2 := hB.out o o3
            have h3 := hB.out i hi
            unfold upd
            by_cases e : i = t
            · rw [if_pos e]
              omega
            · rw [if_neg e]
              omega
    · have i1 : ¬ (k : Int) < (N : Int) := by omega
      have hTk : tot Z k ≤ 1048576 := by
        have := tot_le Z k (N - k)
        rw [show k + (N - k) = N by omega] at this
        omega
      go_wp2_with fail
      go_loopw [11] (fun i wr => ∃ j : Nat, j ≤ 3 ∧ i = .int .i64 j ∧ Hid (Sc w wr gs gm P T M T)) (fun i _ => 3 - (intOf i).toNat)
      case atStart => exact ⟨0, by omega, rfl, hS⟩
      case round =>
        clear hS
        obtain ⟨o, ho, rfl, hS⟩ := hrel
        obtain ⟨w9, rfl⟩ : ∃ x, x = wr := ⟨_, rfl⟩
        have o0 : (0 : Int) ≤ (o : Int) := by omega
        by_cases hlt3 : o < 3
        · have o1 : (o : Int) < 3 := by omega
          have cs9 := hS.out.cs o hlt3
          have HSo : Hid (∀ w', Below w9.heap.size w9 w' → Sc w w' gs gm P T M T) := fun w' hb => hS.out.grow hb
          obtain ⟨msp, hMO⟩ := hS.out.own o hlt3
          obtain ⟨ma, mc, hM⟩ := hMO.slice
          have cm9 := hS.out.cm o hlt3
          rw [hM] at cm9 hMO
          have HMO := hidden hMO
          have hTb : (T o).length ≤ 1048576 := by have := hB.out o hlt3; omega
          have HSM : Hid (∀ w', Below w9.heap.size w9 w' → w'.cell? ⟨gs, o, none⟩ = some (.pointer (some ⟨P o, 0, none⟩)) ∧ w'.cell? ⟨gm, o, none⟩ = some (.slice ma (T o).length mc)) := fun w' hb => ⟨below_cell hb cs9, below_cell hb cm9⟩
          have HLW : Hid (∀ w', Below w9.heap.size w9 w' → Laid w') := fun w' hb => HL.out.grow (hS.out.grow hb).low
          have HLN : Hid (∀ w', Below w9.heap.size w9 w' → Calls Tryd.prog 17 #[.pointer (some ⟨P o, 0, none⟩)] w' fun e w'' => e = .returned (.int .i64 ((T o).length : Int)) ∧ w'' = w') := by
            intro w' hb
            obtain ⟨bk, h1, _, _⟩ := (HSo.out _ hb).txt o hlt3
            exact len_at (P o) _ w' h1.made h1.count
          have hd0 : Below w9.heap.size w9 w9.drew := (Below.refl _ _).drew
          have HQ := hash_same (dig (T o)) (dig_length _)
          clear hM hMO
          go_wp2_with fail
          go_region_held2 (fun w' => w'.cell? ⟨gs, o, none⟩ = some (.pointer (some ⟨P o, 0, none⟩)) ∧ w'.cell? ⟨gm, o, none⟩ = some (.slice ma (T o).length mc))
            (first | exact HSM.out _ (by assumption))
            (first
              | (go_at_call 16; refine (sum_at (P o) (T o) _ ((HSo.out _ (by assumption)).txt o hlt3) (HLW.out _ (by assumption)) (by omega)).mono ?_; rintro e wa ⟨rfl, ba⟩; have bwa := grow_trans hd0 ba)
              | (go_at_call 9; refine (refSum_any (.slice ma (T o).length mc) (T o) _ (HMO.out.reads.grow (by assumption)) (by omega)).mono ?_; rintro e wb ⟨rfl, bb⟩; have bwb := grow_trans (by assumption) bb)
              | (go_at_call 17; refine (HLN.out _ (by assumption)).mono ?_; rintro e wc ⟨rfl, hwc⟩; rw [hwc]; clear hwc))
          go_wp2
          exact ⟨⟨o + 1, by omega, by go_num, HSo.out _ (by assumption)⟩, by simp [intOf]; omega⟩
        · have o1 : ¬ (o : Int) < 3 := by omega
          go_wp2
          go_ret
          exact ⟨rfl, hS.out.low⟩

end Go.Proofs.YtegpceglhbgcnaaDoor
