/- PathUnder's walk: the law returns true at every two keys and every number, and nothing that was in memory turns. -/
import Derived.Test.YtgkkmkgkgojmiaaPath6
import Derived.Test.YtgkkmkgkgojmiaaPuts
import Derived.Test.YtgkkmkgkgojmiaaAtOps
import Derived.Deep.CutRange
namespace Go.Proofs.Ytgkkmkgkgojmiaa
open Go.RowKit

/-- load of a whole array, where its guard says yes; the place is asked first. -/
theorem wpList_ldq {ops : Array Oper} {rest : List Oper} {op : Oper} {a : Act} {Q : Exit → Act → World → Prop} (w : World) (x : Operand) (ty : TypeId) (ho : op.op = .load ty x)
    (g : Nat) (cs : Array Value) (hx : a.eval x = .pointer (some ⟨g, 0, none⟩)) (h : Blk w g ty cs) (n : Nat) (e : TypeId) (hu : Try.prog.underlying ty = some (.array n e)) (hi : (Try.prog.info? ty).map (·.size) = some cs.size) (hgd : Region.wanted op (yielded ops a.tmps) = true)
    (hk : wpList Try.prog ops Q rest (a.put op.dst (.agg cs)) w) : wpList Try.prog ops Q (op :: rest) a w := wpList_ldg w hgd x ty ho g cs hx h n e hu hi hk

set_option maxHeartbeats 8000000 in
set_option maxRecDepth 20000 in
theorem pathUnder_walk (ps ts : List Int) (d : Int) (w : World) (hp : Key ps) (ht : Key ts) :
    Calls Try.prog 5 #[.agg (B ps), .agg (B ts), .int .i64 d] w fun e w' => e = .returned (.bool true) ∧ Below w.heap.size w w' := by
  have HP := hidden hp
  have HT := hidden ht
  have hsP := key_size hp
  have hsT := key_size ht
  obtain ⟨n, hn⟩ : ∃ n : Nat, (n : Int) = d % 257 := ⟨(d % 257).toNat, by omega⟩
  have hn1 : n ≤ 256 := by omega
  have cP : Hid (∀ w', Calls Try.prog 29 #[.int .i64 d, .int .i64 257] w' fun e w'' => e = .returned (.int .i64 n) ∧ w'' = w') := by
    intro w'
    rw [hn]
    exact pick_any d 257 w' (by omega) (by omega)
  clear hp ht hn
  go_enter Try.func5, Try.ntmps5
  go_upto_region 6 with (first
    | (have hx := hl1; clear hx; (with_reducible refine at_bx ?_); refine wpList_bx _ rfl _ _ rfl _ rfl ?_; intro w2 gt hg2 hl2 B2 b2; have HPT : Hid (∀ w', Below w2.heap.size w2 w' → Blk w' gp 24 (B ps) ∧ Blk w' gt 24 (B ts)) := (fun w' hw' => ⟨(B1.grow b2).grow hw', B2.grow hw'⟩); have bb : Below w2.heap.size w2 w2 := Below.refl _ _; have c2 := grow_trans b1 b2; clear B1 B2 b1 b2 hg1 hg2 hl2)
    | ((with_reducible refine at_bx ?_); refine wpList_bx _ rfl _ _ rfl _ rfl ?_; intro w1 gp hg1 hl1 B1 b1)
    | (go_at_call 29; refine (cP.out _).mono ?_; rintro e w3 ⟨rfl, hw3⟩; rw [hw3]; clear hw3 w3)
    | ((with_reducible refine at_ld 4 ?_); refine wpList_ld _ rfl (.tmp 4) _ rfl gt _ rfl (HPT.out _ bb).2 _ _ u_path hsT ?_)
    | (go_at_call 24; refine (first_in ts n _ HT.out hn1).mono ?_; rintro e w3 ⟨fs, hfs, rfl, b3⟩; have HF := hidden hfs; have hsF := key_size hfs.1; have HZF : Hid ((B fs).size = 32) := (by rw [B_size]; exact hfs.1.1); clear hfs; replace bb := grow_trans bb b3; clear b3)
    | (go_at_call 26; refine (last_in ts n _ HT.out hn1).mono ?_; rintro e w6 ⟨zs, hzs, rfl, b6⟩; have HZ := hidden hzs; have hsZ := key_size hzs.1; have HZZ : Hid ((B zs).size = 32) := (by rw [B_size]; exact hzs.1.1); clear hzs; replace B5 := B5.grow b6; replace bb := grow_trans bb b6; clear b6)
    | (have hx := HZZ; clear hx; (with_reducible refine at_al ?_); refine wpList_al _ rfl _ rfl _ zero_path ?_; intro w7 gz hg7 hl7 B7 b7; have hgz := Nat.le_trans bb.size hg7; have hne : ga ≠ gz := (by have := B5.lt; omega); replace B5 := B5.grow b7; replace bb := grow_trans bb b7; clear b7 hg7)
    | ((with_reducible refine at_al ?_); refine wpList_al _ rfl _ rfl _ zero_path ?_; intro w4 ga hg4 hl4 B4 b4; have hga := Nat.le_trans bb.size hg4; replace bb := grow_trans bb b4; clear b4 hg4)
    | ((with_reducible refine at_st 7 ?_); refine wpList_sto _ rfl (.tmp 7) _ _ rfl ga _ (B fs) rfl rfl B4 hsF (by rw [HZF.out, B_size]; simp) (B_one _) ?_; intro w5 B5 g5; replace bb := below_row bb g5 hga; clear g5 B4)
    | ((with_reducible refine at_st 9 ?_); refine wpList_sto _ rfl (.tmp 9) _ _ rfl gz _ (B zs) rfl rfl B7 hsZ (by rw [HZZ.out, B_size]; simp) (B_one _) ?_; intro w8 B8 g8; replace bb := below_row bb g8 hgz; replace B5 := B5.kept g8 hne; clear g8 B7))
  have HB : Hid (∀ w', Below w8.heap.size w8 w' → Blk w' gp 24 (B ps) ∧ Blk w' gt 24 (B ts) ∧ Blk w' ga 24 (B fs) ∧ Blk w' gz 24 (B zs)) := fun w' hw' => ⟨(HPT.out w' (grow_trans bb hw')).1, (HPT.out w' (grow_trans bb hw')).2, B5.grow hw', B8.grow hw'⟩
  have c8 := grow_trans c2 bb
  clear HPT c2 B5 B8 hga hgz hne hl4 hl7 hl1 bb
  obtain ⟨r1, hr1⟩ : ∃ r, r = cmp fs ps := ⟨_, rfl⟩
  obtain ⟨r2, hr2⟩ : ∃ r, r = cmp ps zs := ⟨_, rfl⟩
  obtain ⟨b, hb⟩ : ∃ b : Bool, b = true ↔ Und ps ts n := ⟨@decide (Und ps ts n) (Classical.propDecidable _), @decide_eq_true_iff _ (Classical.propDecidable _)⟩
  have HU : Hid (b = (decide (r1 ≤ 0) && decide (r2 ≤ 0))) := by
    show _ = _
    have h1 := und_within (xs := ps) hn1 HF.out HZ.out
    have h2 := cmp_le HF.out.1 HP.out
    have h3 := cmp_le HP.out HZ.out.1
    rw [← hr1] at h2
    rw [← hr2] at h3
    rw [Bool.eq_iff_iff, Bool.and_eq_true, decide_eq_true_iff, decide_eq_true_iff, hb, h1, h2, h3]
  have cR1 : Hid (∀ w', Calls Try.prog 18 #[.agg (B fs), .agg (B ps)] w' fun e w'' => e = .returned (.int .i64 r1) ∧ Below w'.heap.size w' w'') := by
    intro w'
    rw [hr1]
    exact pcompare_any fs ps w' HF.out.1 HP.out
  have cR2 : Hid (∀ w', Calls Try.prog 18 #[.agg (B ps), .agg (B zs)] w' fun e w'' => e = .returned (.int .i64 r2) ∧ Below w'.heap.size w' w'') := by
    intro w'
    rw [hr2]
    exact pcompare_any ps zs w' HP.out HZ.out.1
  have cU : Hid (∀ w', Calls Try.prog 20 #[.agg (B ps), .agg (B ts), .int .i64 n] w' fun e w'' => e = .returned (.bool b) ∧ Below w'.heap.size w' w'') := fun w' => under_at ps ts n b w' HP.out HT.out hb
  have cA : Hid (∀ w', Calls Try.prog 20 #[.agg (B fs), .agg (B ts), .int .i64 n] w' fun e w'' => e = .returned (.bool true) ∧ Below w'.heap.size w' w'') := fun w' => under_at fs ts n true w' HF.out.1 HT.out ⟨fun _ => und_fill hn1 HF.out, fun _ => rfl⟩
  have cZ : Hid (∀ w', Calls Try.prog 20 #[.agg (B zs), .agg (B ts), .int .i64 n] w' fun e w'' => e = .returned (.bool true) ∧ Below w'.heap.size w' w'') := fun w' => under_at zs ts n true w' HZ.out.1 HT.out ⟨fun _ => und_fill hn1 HZ.out, fun _ => rfl⟩
  clear hr1 hr2 hb
  have bb : Below w8.heap.size w8 w8 := Below.refl _ _
  go_cut [11] from 38 (fun s wx => s = .bool b ∧ Below w8.heap.size w8 wx)
  case first =>
    by_cases q1 : r1 ≤ 0
    · have t1 : decide (r1 ≤ 0) = true := decide_eq_true q1
      rw [t1, Bool.true_and] at HU
      clear q1
      go_wp2_with (first
        | ((with_reducible refine at_ld 7 ?_); refine wpList_ld _ rfl (.tmp 7) _ rfl ga _ rfl (HB.out _ bb).2.2.1 _ _ u_path hsF ?_)
        | ((with_reducible refine at_ld 3 ?_); refine wpList_ld _ rfl (.tmp 3) _ rfl gp _ rfl (HB.out _ bb).1 _ _ u_path hsP ?_)
        | ((with_reducible refine at_ld 3 ?_); refine wpList_ldq _ (.tmp 3) _ rfl gp _ rfl (HB.out _ bb).1 _ _ u_path hsP rfl ?_)
        | ((with_reducible refine at_ld 9 ?_); refine wpList_ldq _ (.tmp 9) _ rfl gz _ rfl (HB.out _ bb).2.2.2 _ _ u_path hsZ rfl ?_)
        | (go_at_call 18; have hx := m1; clear hx; refine (cR2.out _).mono ?_; rintro e x2 ⟨rfl, a2⟩; replace bb := grow_trans bb a2; clear a2)
        | (go_at_call 18; refine (cR1.out _).mono ?_; rintro e x1 ⟨rfl, a1⟩; replace bb := grow_trans bb a1; clear a1; have m1 : Hid True := trivial))
      go_meet
      case rel => exact ⟨by rw [HU.out], bb⟩
    · have t1 : decide (r1 ≤ 0) = false := decide_eq_false q1
      rw [t1, Bool.false_and] at HU
      clear q1
      go_wp2_with (first
        | ((with_reducible refine at_ld 7 ?_); refine wpList_ld _ rfl (.tmp 7) _ rfl ga _ rfl (HB.out _ bb).2.2.1 _ _ u_path hsF ?_)
        | ((with_reducible refine at_ld 3 ?_); refine wpList_ld _ rfl (.tmp 3) _ rfl gp _ rfl (HB.out _ bb).1 _ _ u_path hsP ?_)
        | (go_at_call 18; refine (cR1.out _).mono ?_; rintro e x1 ⟨rfl, a1⟩; replace bb := grow_trans bb a1; clear a1))
      go_meet
      case rel => exact ⟨by rw [HU.out], bb⟩
  case rest =>
    obtain ⟨rfl, kb1⟩ := hcut
    replace bb := kb1
    clear kb1 HU cR1 cR2
    have hbb : (b != b) = false := by simp
    go_upto_region 10 with (first
      | ((with_reducible refine at_ld 3 ?_); refine wpList_ld _ rfl (.tmp 3) _ rfl gp _ rfl (HB.out _ bb).1 _ _ u_path hsP ?_)
      | ((with_reducible refine at_ld 4 ?_); refine wpList_ld _ rfl (.tmp 4) _ rfl gt _ rfl (HB.out _ bb).2.1 _ _ u_path hsT ?_)
      | ((with_reducible refine at_ld 7 ?_); refine wpList_ldq _ (.tmp 7) _ rfl ga _ rfl (HB.out _ bb).2.2.1 _ _ u_path hsF rfl ?_)
      | ((with_reducible refine at_ld 4 ?_); refine wpList_ldq _ (.tmp 4) _ rfl gt _ rfl (HB.out _ bb).2.1 _ _ u_path hsT rfl ?_)
      | ((with_reducible refine at_ld 9 ?_); refine wpList_ldq _ (.tmp 9) _ rfl gz _ rfl (HB.out _ bb).2.2.2 _ _ u_path hsZ rfl ?_)
      | (go_at_call 20; have hx := m2; clear hx; refine (cZ.out _).mono ?_; rintro e x3 ⟨rfl, a3⟩; replace bb := grow_trans bb a3; clear a3)
      | (go_at_call 20; have hx := m1; clear hx; refine (cA.out _).mono ?_; rintro e x2 ⟨rfl, a2⟩; replace bb := grow_trans bb a2; clear a2; have m2 : Hid True := trivial)
      | (go_at_call 20; refine (cU.out _).mono ?_; rintro e x1 ⟨rfl, a1⟩; replace bb := grow_trans bb a1; clear a1; have m1 : Hid True := trivial)
      | (go_at_call 27; refine (next_any ps _ HP.out).mono ?_; rintro e x4 ⟨ys, ok, hcase, rfl, a4⟩; have HCS := hidden hcase; have hky : Key ys := (by rcases hcase with h | h; exact h.2.1; rw [h.2.2]; exact key_zero); have hsY := key_size hky; have HZY : Hid ((B ys).size = 32) := (by rw [B_size]; exact hky.1); have HKY := hidden hky; clear hcase hky; replace bb := grow_trans bb a4; clear a4)
      | ((with_reducible refine at_al ?_); refine wpList_al _ rfl _ rfl _ zero_path ?_; intro x5 gy hg5 hl5 B5 a5; have hgy := Nat.le_trans bb.size hg5; replace bb := grow_trans bb a5; clear a5 hg5)
      | ((with_reducible refine at_st 12 ?_); refine wpList_sto _ rfl (.tmp 12) _ _ rfl gy _ (B ys) rfl rfl B5 hsY (by rw [HZY.out, B_size]; simp) (B_one _) ?_; intro x6 B6 g6; replace bb := below_row bb g6 hgy; clear g6 B5))


    clear cU cA cZ hl5 hgy
    have HY : Hid (∀ w', Below x6.heap.size x6 w' → Blk w' gp 24 (B ps) ∧ Blk w' gt 24 (B ts) ∧ Blk w' ga 24 (B fs) ∧ Blk w' gz 24 (B zs) ∧ Blk w' gy 24 (B ys)) := fun w' hw' => ⟨(HB.out w' (grow_trans bb hw')).1, (HB.out w' (grow_trans bb hw')).2.1, (HB.out w' (grow_trans bb hw')).2.2.1, (HB.out w' (grow_trans bb hw')).2.2.2, B6.grow hw'⟩
    have c9 := grow_trans c8 bb
    clear HB c8 B6 bb
    have bb : Below x6.heap.size x6 x6 := Below.refl _ _
    obtain ⟨r3, hr3⟩ : ∃ r, r = cmp ps ts := ⟨_, rfl⟩
    obtain ⟨r4, hr4⟩ : ∃ r, r = cmp ps ys := ⟨_, rfl⟩
    obtain ⟨r5, hr5⟩ : ∃ r, r = cmp ys ts := ⟨_, rfl⟩
    have cR3 : Hid (∀ w', Calls Try.prog 18 #[.agg (B ps), .agg (B ts)] w' fun e w'' => e = .returned (.int .i64 r3) ∧ Below w'.heap.size w' w'') := by
      intro w'
      rw [hr3]
      exact pcompare_any ps ts w' HP.out HT.out
    have cR4 : Hid (∀ w', Calls Try.prog 18 #[.agg (B ps), .agg (B ys)] w' fun e w'' => e = .returned (.int .i64 r4) ∧ Below w'.heap.size w' w'') := by
      intro w'
      rw [hr4]
      exact pcompare_any ps ys w' HP.out HKY.out
    have cR5 : Hid (∀ w', Calls Try.prog 18 #[.agg (B ys), .agg (B ts)] w' fun e w'' => e = .returned (.int .i64 r5) ∧ Below w'.heap.size w' w'') := by
      intro w'
      rw [hr5]
      exact pcompare_any ys ts w' HKY.out HT.out
    have H3 : Hid (r3 < 0 ↔ Ahead ps ts) := by rw [hr3]; exact cmp_lt HP.out HT.out
    have H4 : Hid (r4 < 0 ↔ Ahead ps ys) := by rw [hr4]; exact cmp_lt HP.out HKY.out
    have H5 : Hid (r5 ≤ 0 ↔ ¬ Ahead ts ys) := by rw [hr5]; exact cmp_le HKY.out HT.out
    clear hr3 hr4 hr5
    go_cut [101] from 73 (fun s wx => s = .bool false ∧ Below x6.heap.size x6 wx)
    case first =>
      rcases HCS.out with ⟨rfl, hN⟩ | ⟨rfl, hL, hys⟩
      · have t4 : decide (0 ≤ r4) = false := decide_eq_false (by have := H4.out.2 hN.behind; omega)
        by_cases q3 : r3 < 0
        · have t3 : decide (r3 < 0) = true := decide_eq_true q3
          have t5 : decide (0 < r5) = false := decide_eq_false (by have := H5.out.2 (hN.least (H3.out.1 q3)); omega)
          clear q3 hN
          go_wp2_with (first
            | ((with_reducible refine at_ld 3 ?_); refine wpList_ldq _ (.tmp 3) _ rfl gp _ rfl (HY.out _ bb).1 _ _ u_path hsP rfl ?_)
            | ((with_reducible refine at_ld 4 ?_); refine wpList_ldq _ (.tmp 4) _ rfl gt _ rfl (HY.out _ bb).2.1 _ _ u_path hsT rfl ?_)
            | ((with_reducible refine at_ld 12 ?_); refine wpList_ldq _ (.tmp 12) _ rfl gy _ rfl (HY.out _ bb).2.2.2.2 _ _ u_path hsY rfl ?_)
            | (go_at_call 18; have hx := m4; clear hx; refine (cR5.out _).mono ?_; rintro e x9 ⟨rfl, a9⟩; replace bb := grow_trans bb a9; clear a9)
            | (go_at_call 18; have hx := m3; clear hx; refine (cR3.out _).mono ?_; rintro e x8 ⟨rfl, a8⟩; replace bb := grow_trans bb a8; clear a8; have m4 : Hid True := trivial)
            | (go_at_call 18; refine (cR4.out _).mono ?_; rintro e x7 ⟨rfl, a7⟩; replace bb := grow_trans bb a7; clear a7; have m3 : Hid True := trivial))
          go_meet
          case rel => exact ⟨rfl, bb⟩
        · have t3 : decide (r3 < 0) = false := decide_eq_false q3
          clear q3 hN
          go_wp2_with (first
            | ((with_reducible refine at_ld 3 ?_); refine wpList_ldq _ (.tmp 3) _ rfl gp _ rfl (HY.out _ bb).1 _ _ u_path hsP rfl ?_)
            | ((with_reducible refine at_ld 4 ?_); refine wpList_ldq _ (.tmp 4) _ rfl gt _ rfl (HY.out _ bb).2.1 _ _ u_path hsT rfl ?_)
            | ((with_reducible refine at_ld 12 ?_); refine wpList_ldq _ (.tmp 12) _ rfl gy _ rfl (HY.out _ bb).2.2.2.2 _ _ u_path hsY rfl ?_)
            | (go_at_call 18; have hx := m3; clear hx; refine (cR3.out _).mono ?_; rintro e x8 ⟨rfl, a8⟩; replace bb := grow_trans bb a8; clear a8)
            | (go_at_call 18; refine (cR4.out _).mono ?_; rintro e x7 ⟨rfl, a7⟩; replace bb := grow_trans bb a7; clear a7; have m3 : Hid True := trivial))
          go_meet
          case rel => exact ⟨rfl, bb⟩
      · have t3 : decide (r3 < 0) = false := decide_eq_false fun q => hL.none (H3.out.1 q)
        clear hL hys
        go_wp2_with (first
          | ((with_reducible refine at_ldd 96 3 ?_); refine wpList_ldq _ (.tmp 3) _ rfl gp _ rfl (HY.out _ bb).1 _ _ u_path hsP rfl ?_)
          | ((with_reducible refine at_ldd 97 4 ?_); refine wpList_ldq _ (.tmp 4) _ rfl gt _ rfl (HY.out _ bb).2.1 _ _ u_path hsT rfl ?_)
          | (go_at_call 18; refine (cR3.out _).mono ?_; rintro e x8 ⟨rfl, a8⟩; replace bb := grow_trans bb a8; clear a8))
        go_meet
        case rel => exact ⟨rfl, bb⟩
    case rest =>
      obtain ⟨rfl, kb1⟩ := hcut
      replace bb := kb1
      clear kb1 H3 H4 H5 cR3 cR4 cR5 HCS
      by_cases hnn : n = 256
      · have hnq : ((n : Int) == 256) = true := by rw [hnn]; rfl
        have hA : fs = ts := by
          have := HF.out
          rw [hnn] at this
          exact this.whole HT.out
        have hZ : zs = ts := by
          have := HZ.out
          rw [hnn] at this
          exact this.whole HT.out
        have E1 : ∀ w, (Op.equalIn 10000 24 (.agg (B fs)) (.agg (B ts))).run Try.prog w = .ok true w := fun w => by rw [path_eq fs ts HF.out.1.1 HT.out.1 w, decide_eq_true hA]
        have E2 : ∀ w, (Op.equalIn 10000 24 (.agg (B zs)) (.agg (B ts))).run Try.prog w = .ok true w := fun w => by rw [path_eq zs ts HZ.out.1.1 HT.out.1 w, decide_eq_true hZ]
        clear hnn hA hZ
        go_wp2_with (first
          | ((with_reducible refine at_ld 7 ?_); refine wpList_ldq _ (.tmp 7) _ rfl ga _ rfl (HY.out _ bb).2.2.1 _ _ u_path hsF rfl ?_)
          | ((with_reducible refine at_ld 4 ?_); refine wpList_ldq _ (.tmp 4) _ rfl gt _ rfl (HY.out _ bb).2.1 _ _ u_path hsT rfl ?_)
          | ((with_reducible refine at_ld 9 ?_); refine wpList_ldq _ (.tmp 9) _ rfl gz _ rfl (HY.out _ bb).2.2.2.1 _ _ u_path hsZ rfl ?_))
        go_ret
        exact ⟨rfl, grow_trans c9 bb⟩
      · have hnq : ((n : Int) == 256) = false := by rw [beq_eq_false_iff_ne]; omega
        have hn2 : n < 256 := by omega
        clear hnn
        go_wp2_with (first
          | ((with_reducible refine at_ld 3 ?_); refine wpList_ld _ rfl (.tmp 3) _ rfl gp _ rfl (HY.out _ bb).1 _ _ u_path hsP ?_)
          | ((with_reducible refine at_ld 14 ?_); refine wpList_ld _ rfl (.tmp 14) _ rfl gx _ rfl BX _ _ u_path hsX ?_)
          | ((with_reducible refine at_ld 14 ?_); refine wpList_ldq _ (.tmp 14) _ rfl gx _ rfl BX _ _ u_path hsX rfl ?_)
          | ((with_reducible refine at_ld 16 ?_); refine wpList_ldq _ (.tmp 16) _ rfl gv _ rfl BV _ _ u_path hsV rfl ?_)
          | ((with_reducible refine at_ld 3 ?_); refine wpList_ldq _ (.tmp 3) _ rfl gp _ rfl (HY.out _ bb).1 _ _ u_path hsP rfl ?_)
          | (go_at_call 22; have hx := HZX; clear hx; refine (flip_in xs n _ HXS.out.1 hn2).mono ?_; rintro e y2 ⟨vs, hvs, rfl, a2⟩; have HVS := hidden hvs; have hsV := key_size hvs.1; have HZV : Hid ((B vs).size = 32) := (by rw [B_size]; exact hvs.1.1); replace BX := BX.grow a2; replace bb := grow_trans bb a2; clear a2; have E1 : ∀ w, (Op.equalIn 10000 24 (.agg (B xs)) (.agg (B ps))).run Try.prog w = .ok false w := (fun w => by rw [path_eq xs ps HXS.out.1.1 HP.out.1 w, decide_eq_false (HXS.out.unlike hn2)]); have E2 : ∀ w, (Op.equalIn 10000 24 (.agg (B vs)) (.agg (B ps))).run Try.prog w = .ok true w := (fun w => by rw [path_eq vs ps hvs.1.1 HP.out.1 w, decide_eq_true (HXS.out.twice HP.out hvs)]); clear hvs)
          | (go_at_call 22; refine (flip_in ps n _ HP.out hn2).mono ?_; rintro e y1 ⟨xs, hxs, rfl, a1⟩; have HXS := hidden hxs; have hsX := key_size hxs.1; have HZX : Hid ((B xs).size = 32) := (by rw [B_size]; exact hxs.1.1); clear hxs; replace bb := grow_trans bb a1; clear a1)
          | (have hx := HZV; clear hx; (with_reducible refine at_al ?_); refine wpList_al _ rfl _ rfl _ zero_path ?_; intro y4 gv hg4 hl4 B4 a4; have hgv := Nat.le_trans bb.size hg4; have hne : gx ≠ gv := (by have := BX.lt; omega); replace BX := BX.grow a4; replace bb := grow_trans bb a4; clear a4 hg4)
          | ((with_reducible refine at_al ?_); refine wpList_al _ rfl _ rfl _ zero_path ?_; intro y3 gx hg3 hl3 B3 a3; have hgx := Nat.le_trans bb.size hg3; replace bb := grow_trans bb a3; clear a3 hg3)
          | ((with_reducible refine at_st 14 ?_); refine wpList_sto _ rfl (.tmp 14) _ _ rfl gx _ (B xs) rfl rfl B3 hsX (by rw [HZX.out, B_size]; simp) (B_one _) ?_; intro y5 BX g5; replace bb := below_row bb g5 hgx; clear g5 B3)
          | ((with_reducible refine at_st 16 ?_); refine wpList_sto _ rfl (.tmp 16) _ _ rfl gv _ (B vs) rfl rfl B4 hsV (by rw [HZV.out, B_size]; simp) (B_one _) ?_; intro y6 BV g6; replace bb := below_row bb g6 hgv; replace BX := BX.kept g6 hne; clear g6 B4)
          | (go_at_call 16; refine (common_at xs ps n _ HXS.out.1 HP.out (HXS.out.common hn2)).mono ?_; rintro e y7 ⟨rfl, a7⟩; replace bb := grow_trans bb a7; clear a7))
        go_ret
        exact ⟨rfl, grow_trans c9 bb⟩

end Go.Proofs.Ytgkkmkgkgojmiaa
