/- ShaPieces' walk: the law returns true, in whatever pieces, and nothing that was in memory turns. -/
import Derived.Test.YtegpceglhbgcnaaDoorSnWalk
import Derived.Test.YtegpceglhbgcnaaDoorJoin
import Derived.Test.YtegpceglhbgcnaaDoorPuts
namespace Go.Proofs.YtegpceglhbgcnaaDoor
open Go.RowKit

theorem Reads.take {w : World} {a : Option Addr} {L c : Nat} {zs : List Int} (h : Reads w (.slice a L c) zs) (r : Nat) (hr : r ≤ L) : Reads w (.slice a r c) (zs.take r) := by
  obtain ⟨a', c', e, h1, h2, h3, h4⟩ := h
  injection e with e1 e2 e3
  subst e1; subst e3
  have hl : (zs.take r).length = r := by rw [List.length_take]; omega
  refine ⟨a, c, by rw [hl], by omega, h2, h3.take r, fun hp => ?_⟩
  rw [hl] at hp
  obtain ⟨b, off, rfl, hc⟩ := h4 (by omega)
  refine ⟨b, off, rfl, fun i hi => ?_⟩
  rw [hl] at hi
  rw [hc i (by omega)]
  simp [List.getD, hi]

theorem Reads.len {w : World} {a : Option Addr} {L c : Nat} {zs : List Int} (h : Reads w (.slice a L c) zs) : L = zs.length ∧ L ≤ c := by
  obtain ⟨a', c', e, h1, _⟩ := h
  injection e with e1 e2 e3
  subst e3
  omega

theorem bytes_of_reads {w : World} {v : Value} {zs : List Int} (h : Reads w v zs) : Bytes zs := by
  obtain ⟨_, _, _, _, _, h3, _⟩ := h
  exact h3

set_option maxHeartbeats 4000000 in
set_option maxRecDepth 10000 in
theorem shaPieces_walk (a0 : Option Addr) (n c0 : Nat) (bs : List Int) (az : Option Addr) (m cs : Nat) (ss : List Int) (am : Option Addr) (nm cm : Nat) (ms : List Int) (w : World) (hr : Reads w (.slice a0 n c0) bs) (hrm : Reads w (.slice am nm cm) ms)
    (hn : n ≤ 140737488355328 - 4096) (hnm : nm ≤ 140737488355328 - 4096) (hm : m ≤ 140737488355328) (hsc : 0 < m → ∃ sb so, az = some ⟨sb, so, none⟩ ∧ ∀ i, i < m → w.cell? ⟨sb, so + i, none⟩ = some (.int .i64 (ss.getD i 0))) (hL : Laid w) :
    Calls Tryd.prog 5 #[.slice a0 n c0, .slice az m cs, .slice am nm cm] w fun e w' => e = .returned (.bool true) ∧ Below w.heap.size w w' := by
  have HR := hidden hr
  have HRM := hidden hrm
  have HL := hidden hL
  have HSC := hidden hsc
  have HNL := hidden hr.len
  have HML := hidden hrm.len
  clear hr hrm hL hsc
  go_enter Tryd.func5, Tryd.ntmps5
  go_wp2_with fail
  refine (new_any w HL.out).mono ?_
  rintro e w1 ⟨g, rfl, hg, hgl, S1, b1⟩
  have T1 : Hid (Txt w1 g []) := ⟨_, S1, rfl, Bytes.nil⟩
  have g2 : 2 ≤ g := by have := HL.out.1; omega
  have HB1 := hidden b1
  clear S1 b1 hgl
  go_wp2_with fail
  go_loopw [8, 9] (fun v i wr => ∃ (k p L : Nat) (a' : Option Addr) (c' : Nat), k ≤ m ∧ Hid (p + L = n) ∧ L ≤ c' ∧ v = .slice a' L c' ∧ i = .int .i64 k ∧ Hid (Reads w (.slice a' L c') (bs.drop p)) ∧ Hid (Txt wr g (bs.take p)) ∧ Hid (Below w.heap.size w wr)) (fun _ i _ => m - (intOf i).toNat)
  case atStart => exact ⟨0, 0, n, a0, c0, by omega, by show _ = _; omega, HNL.out.2, rfl, rfl, by simpa using HR, by simpa using T1, HB1⟩
  case round =>
    clear T1 HB1
    obtain ⟨k, p, L, a', c', hk, hpL, hLc, rfl, rfl, hRd, hT, hbl⟩ := hrel
    have k0 : (0 : Int) ≤ (k : Int) := by omega
    by_cases hrd : k < m ∧ 0 < L
    · obtain ⟨hkm, hL0⟩ := hrd
      have i1 : (k : Int) < (m : Int) := by omega
      have i2 : (0 : Int) < (L : Int) := by omega
      have hLn : L ≤ 140737488355328 := by have := hpL.out; omega
      obtain ⟨sb, so, haz, hcz⟩ := HSC.out (by omega)
      subst haz
      have hc := below_cell hbl.out (hcz k hkm)
      generalize ss.getD k 0 = z at *
      obtain ⟨r, hz⟩ : ∃ r : Nat, z % ((L : Int) + 1) = (r : Int) := ⟨(z % ((L : Int) + 1)).toNat, by have := Int.emod_nonneg z (show ((L : Int) + 1) ≠ 0 by omega); omega⟩
      have hrL : (r : Int) ≤ (L : Int) := by
        have := Int.emod_lt_of_pos z (show 0 < (L : Int) + 1 by omega)
        omega
      have HP : Hid (∀ w', Calls Tryd.prog 19 #[.int .i64 z, .int .i64 ((L : Int) + 1)] w' fun e w'' => e = .returned (.int .i64 (r : Int)) ∧ w'' = w') := by
        intro w'
        have := pick_any z ((L : Int) + 1) w' (by omega) (by have := hpL.out; omega)
        rw [hz] at this
        exact this
      have r0 : (0 : Int) ≤ (r : Int) := by omega
      have r1 : (r : Int) ≤ (c' : Int) := by omega
      have HRt : Hid (Reads w (.slice a' r c') ((bs.drop p).take r)) := hRd.out.take r (by omega)
      have HRl : Hid (((bs.drop p).take r).length = r) := by
        have h1 := hRd.out.len
        rw [List.length_take]
        show _ = _
        omega
      have hif : (if c' = r then a' else Option.map (fun x => x.add r) a') = movedTo a' c' r := rfl
      have HRd : Hid (Reads w (.slice (movedTo a' c' r) (L - r) (c' - r)) ((bs.drop p).drop r)) := hRd.out.drop r (by omega)
      generalize movedTo a' c' r = a2 at *
      have HPL := hidden hpL.out
      clear hcz
      have HIF := hif
      clear hz
      go_wp2_with (first
        | (go_at_call 19; refine (HP.out _).mono ?_; rintro e w' ⟨rfl, hw'⟩; rw [hw']; clear hw')
        | (go_at_call 14; refine (write_any g (.slice a' r c') (bs.take p) ((bs.drop p).take r) wr hT.out (HRt.out.grow hbl.out) (HRt.out.apart hg) (HL.out.grow hbl.out) g2 (by rw [HRl.out, List.length_take]; have := HPL.out; omega)).mono ?_; rw [HRl.out]; rintro e w2 ⟨rfl, T2, L2, gg2⟩))
      rw [← List.take_add] at T2
      have hb2 := below_row hbl.out gg2 hg
      refine ⟨⟨k + 1, p + r, L - r, a2, c' - r, by omega, by show _ = _; have := HPL.out; omega, by omega, rfl, by go_num, ?_, T2, hb2⟩, by simp [intOf]; omega⟩
      have := HRd.out
      rw [List.drop_drop] at this
      exact this
    · have hout : (¬ k < m) ∨ (k < m ∧ L = 0) := by omega
      have hLn : L ≤ 140737488355328 := by have := hpL.out; omega
      rcases hout with hko | ⟨hki, hL0⟩
      · have j1 : ¬ (k : Int) < (m : Int) := by omega
        go_wp2_with fail
        refine (write_any g (.slice a' L c') (bs.take p) (bs.drop p) wr hT.out (hRd.out.grow hbl.out) (hRd.out.apart hg) (HL.out.grow hbl.out) g2 (by rw [List.length_take, List.length_drop]; have := HNL.out; omega)).mono ?_
        rintro e w2 ⟨rfl, T2, L2, gg2⟩
        rw [List.take_append_drop] at T2
        have b2 := below_row hbl.out gg2 hg
        have TT := T2
        obtain ⟨bk2, S2, hk2, hby2⟩ := TT
        go_wp2_with fail
        refine (clone_at g _ bk2 _ w2 S2).mono ?_
        rintro e w3 ⟨gc, rfl, hgc, hgcl, S3, b3⟩
        have T3c : Txt w3 gc bs := ⟨bk2, S3, hk2, hby2⟩
        have T3 : Txt w3 g bs := T2.grow b3
        have c3 := b2.trans (b3.mono b2.size)
        have ngc : g ≠ gc := by have := T2.lt; omega
        have hgc2 : 2 ≤ gc := by have := T2.lt; omega
        have hgcw : w.heap.size ≤ gc := Nat.le_trans b2.size hgc
        clear S2 S3 hk2 hby2 T2 L2 gg2 hgcl
        go_wp2_with fail
        refine (sum_at g bs w3 T3 (HL.out.grow c3) (by have := HNL.out; omega)).mono ?_
        rintro e w4 ⟨rfl, b4⟩
        have c4 := c3.trans (b4.mono c3.size)
        go_wp2_with fail
        refine (shaSum_any _ bs w4 (HR.out.grow c4) (HL.out.grow c4) (by have := HNL.out; omega)).mono ?_
        rintro e w5 ⟨rfl, b5⟩
        have c5 := c4.trans (b5.mono c4.size)
        have b35 := grow_trans b4 b5
        have T5 := T3.grow b35
        have T5c := T3c.grow b35
        have HQ := hash_same (dig bs) (dig_length bs)
        have hLen : Hid (∀ w', Txt w' g bs → Calls Tryd.prog 17 #[.pointer (some ⟨g, 0, none⟩)] w' fun e w'' => e = .returned (.int .i64 (n : Int)) ∧ w'' = w') := by
          intro w' ht
          obtain ⟨bk, hS, _, _⟩ := ht
          have hc := hS.count
          rw [← HNL.out.1] at hc
          exact len_at g (n : Int) w' hS.made hc
        go_wp2_with (go_at_call 17; refine (hLen.out _ T5).mono ?_; rintro e w' ⟨rfl, hw'⟩; rw [hw']; clear hw')
        refine (write_any gc (.slice am nm cm) bs ms w5 T5c (HRM.out.grow c5) (HRM.out.apart hgcw) (HL.out.grow c5) hgc2 (by have := HNL.out; have := HML.out; omega)).mono ?_
        rintro e w6 ⟨rfl, T6c, L6, gg6⟩
        have T6 := T5.kept gg6 ngc
        have c6 := below_row c5 gg6 hgcw
        clear T5 T5c T3 T3c
        go_wp2_with fail
        refine (sum_at g bs w6 T6 (HL.out.grow c6) (by have := HNL.out; omega)).mono ?_
        rintro e w7 ⟨rfl, b7⟩
        have c7 := c6.trans (b7.mono c6.size)
        go_wp2_with fail
        refine (shaSum_any _ bs w7 (HR.out.grow c7) (HL.out.grow c7) (by have := HNL.out; omega)).mono ?_
        rintro e w8 ⟨rfl, b8⟩
        have c8 := c7.trans (b8.mono c7.size)
        have T8c := T6c.grow (grow_trans b7 b8)
        go_wp2_with fail
        refine (sum_at gc (bs ++ ms) w8 T8c (HL.out.grow c8) (by rw [List.length_append]; have := HNL.out; have := HML.out; omega)).mono ?_
        rintro e w9 ⟨rfl, b9⟩
        have c9 := c8.trans (b9.mono c8.size)
        have T9c := T8c.grow b9
        have b10 := grow_alloc w9 (.cells #[.slice a0 n c0, .slice am nm cm] 22)
        have c10 := c9.trans (b10.mono c9.size)
        have hnew : (w9.alloc (.cells #[.slice a0 n c0, .slice am nm cm] 22)).heap[w9.heap.size]? = some (.cells #[.slice a0 n c0, .slice am nm cm] 22 (0, 0)) := heap_alloc_new w9 _
        have d0 : (w9.alloc (.cells #[.slice a0 n c0, .slice am nm cm] 22)).cell? ⟨w9.heap.size, 0, none⟩ = some (.slice a0 n c0) := by rw [cell_of_row _ _ _ _ _ _ hnew]; rfl
        have d1 : (w9.alloc (.cells #[.slice a0 n c0, .slice am nm cm] 22)).cell? ⟨w9.heap.size, 1, none⟩ = some (.slice am nm cm) := by rw [cell_of_row _ _ _ _ _ _ hnew]; rfl
        have HJ := hidden (join_two w9.heap.size (.slice a0 n c0) (.slice am nm cm) bs ms _ d0 d1 (HR.out.grow c10) (HRM.out.grow c10) (by have := HNL.out; have := HML.out; omega))
        clear hnew d0 d1
        go_wp2_with fail
        refine HJ.out.mono ?_
        rintro e w11 ⟨u, sp, rfl, oj, bj⟩
        have c11 := c10.trans (bj.mono c10.size)
        have RJ := oj.reads
        go_wp2_with fail
        refine (shaSum_any u (bs ++ ms) w11 RJ (HL.out.grow c11) (by rw [List.length_append]; have := HNL.out; have := HML.out; omega)).mono ?_
        rintro e w12 ⟨rfl, b12⟩
        have c12 := c11.trans (b12.mono c11.size)
        have HQ2 := hash_same (dig (bs ++ ms)) (dig_length _)
        have T12 := T9c.grow (grow_trans b10 (grow_trans bj b12))
        have hLen2 : Hid (Calls Tryd.prog 17 #[.pointer (some ⟨gc, 0, none⟩)] w12 fun e w'' => e = .returned (.int .i64 ((n : Int) + (nm : Int))) ∧ w'' = w12) := by
          obtain ⟨bk, hS, _, _⟩ := T12
          have hc := hS.count
          have e1 : (((bs ++ ms).length : Nat) : Int) = (n : Int) + (nm : Int) := by
            rw [List.length_append]
            have := HNL.out
            have := HML.out
            omega
          rw [e1] at hc
          exact len_at gc _ w12 hS.made hc
        clear T12 T9c T8c T6 T6c RJ oj HJ
        go_wp2_with (go_at_call 17; refine hLen2.out.mono ?_; rintro e w' ⟨rfl, hw'⟩; rw [hw']; clear hw')
        go_ret
        exact ⟨rfl, c12⟩
      · have j1 : (k : Int) < (m : Int) := by omega
        have j2 : ¬ (0 : Int) < (L : Int) := by omega
        clear hL0
        go_wp2_with fail
        refine (write_any g (.slice a' L c') (bs.take p) (bs.drop p) wr hT.out (hRd.out.grow hbl.out) (hRd.out.apart hg) (HL.out.grow hbl.out) g2 (by rw [List.length_take, List.length_drop]; have := HNL.out; omega)).mono ?_
        rintro e w2 ⟨rfl, T2, L2, gg2⟩
        rw [List.take_append_drop] at T2
        have b2 := below_row hbl.out gg2 hg
        have TT := T2
        obtain ⟨bk2, S2, hk2, hby2⟩ := TT
        go_wp2_with fail
        refine (clone_at g _ bk2 _ w2 S2).mono ?_
        rintro e w3 ⟨gc, rfl, hgc, hgcl, S3, b3⟩
        have T3c : Txt w3 gc bs := ⟨bk2, S3, hk2, hby2⟩
        have T3 : Txt w3 g bs := T2.grow b3
        have c3 := b2.trans (b3.mono b2.size)
        have ngc : g ≠ gc := by have := T2.lt; omega
        have hgc2 : 2 ≤ gc := by have := T2.lt; omega
        have hgcw : w.heap.size ≤ gc := Nat.le_trans b2.size hgc
        clear S2 S3 hk2 hby2 T2 L2 gg2 hgcl
        go_wp2_with fail
        refine (sum_at g bs w3 T3 (HL.out.grow c3) (by have := HNL.out; omega)).mono ?_
        rintro e w4 ⟨rfl, b4⟩
        have c4 := c3.trans (b4.mono c3.size)
        go_wp2_with fail
        refine (shaSum_any _ bs w4 (HR.out.grow c4) (HL.out.grow c4) (by have := HNL.out; omega)).mono ?_
        rintro e w5 ⟨rfl, b5⟩
        have c5 := c4.trans (b5.mono c4.size)
        have b35 := grow_trans b4 b5
        have T5 := T3.grow b35
        have T5c := T3c.grow b35
        have HQ := hash_same (dig bs) (dig_length bs)
        have hLen : Hid (∀ w', Txt w' g bs → Calls Tryd.prog 17 #[.pointer (some ⟨g, 0, none⟩)] w' fun e w'' => e = .returned (.int .i64 (n : Int)) ∧ w'' = w') := by
          intro w' ht
          obtain ⟨bk, hS, _, _⟩ := ht
          have hc := hS.count
          rw [← HNL.out.1] at hc
          exact len_at g (n : Int) w' hS.made hc
        go_wp2_with (go_at_call 17; refine (hLen.out _ T5).mono ?_; rintro e w' ⟨rfl, hw'⟩; rw [hw']; clear hw')
        refine (write_any gc (.slice am nm cm) bs ms w5 T5c (HRM.out.grow c5) (HRM.out.apart hgcw) (HL.out.grow c5) hgc2 (by have := HNL.out; have := HML.out; omega)).mono ?_
        rintro e w6 ⟨rfl, T6c, L6, gg6⟩
        have T6 := T5.kept gg6 ngc
        have c6 := below_row c5 gg6 hgcw
        clear T5 T5c T3 T3c
        go_wp2_with fail
        refine (sum_at g bs w6 T6 (HL.out.grow c6) (by have := HNL.out; omega)).mono ?_
        rintro e w7 ⟨rfl, b7⟩
        have c7 := c6.trans (b7.mono c6.size)
        go_wp2_with fail
        refine (shaSum_any _ bs w7 (HR.out.grow c7) (HL.out.grow c7) (by have := HNL.out; omega)).mono ?_
        rintro e w8 ⟨rfl, b8⟩
        have c8 := c7.trans (b8.mono c7.size)
        have T8c := T6c.grow (grow_trans b7 b8)
        go_wp2_with fail
        refine (sum_at gc (bs ++ ms) w8 T8c (HL.out.grow c8) (by rw [List.length_append]; have := HNL.out; have := HML.out; omega)).mono ?_
        rintro e w9 ⟨rfl, b9⟩
        have c9 := c8.trans (b9.mono c8.size)
        have T9c := T8c.grow b9
        have b10 := grow_alloc w9 (.cells #[.slice a0 n c0, .slice am nm cm] 22)
        have c10 := c9.trans (b10.mono c9.size)
        have hnew : (w9.alloc (.cells #[.slice a0 n c0, .slice am nm cm] 22)).heap[w9.heap.size]? = some (.cells #[.slice a0 n c0, .slice am nm cm] 22 (0, 0)) := heap_alloc_new w9 _
        have d0 : (w9.alloc (.cells #[.slice a0 n c0, .slice am nm cm] 22)).cell? ⟨w9.heap.size, 0, none⟩ = some (.slice a0 n c0) := by rw [cell_of_row _ _ _ _ _ _ hnew]; rfl
        have d1 : (w9.alloc (.cells #[.slice a0 n c0, .slice am nm cm] 22)).cell? ⟨w9.heap.size, 1, none⟩ = some (.slice am nm cm) := by rw [cell_of_row _ _ _ _ _ _ hnew]; rfl
        have HJ := hidden (join_two w9.heap.size (.slice a0 n c0) (.slice am nm cm) bs ms _ d0 d1 (HR.out.grow c10) (HRM.out.grow c10) (by have := HNL.out; have := HML.out; omega))
        clear hnew d0 d1
        go_wp2_with fail
        refine HJ.out.mono ?_
        rintro e w11 ⟨u, sp, rfl, oj, bj⟩
        have c11 := c10.trans (bj.mono c10.size)
        have RJ := oj.reads
        go_wp2_with fail
        refine (shaSum_any u (bs ++ ms) w11 RJ (HL.out.grow c11) (by rw [List.length_append]; have := HNL.out; have := HML.out; omega)).mono ?_
        rintro e w12 ⟨rfl, b12⟩
        have c12 := c11.trans (b12.mono c11.size)
        have HQ2 := hash_same (dig (bs ++ ms)) (dig_length _)
        have T12 := T9c.grow (grow_trans b10 (grow_trans bj b12))
        have hLen2 : Hid (Calls Tryd.prog 17 #[.pointer (some ⟨gc, 0, none⟩)] w12 fun e w'' => e = .returned (.int .i64 ((n : Int) + (nm : Int))) ∧ w'' = w12) := by
          obtain ⟨bk, hS, _, _⟩ := T12
          have hc := hS.count
          have e1 : (((bs ++ ms).length : Nat) : Int) = (n : Int) + (nm : Int) := by
            rw [List.length_append]
            have := HNL.out
            have := HML.out
            omega
          rw [e1] at hc
          exact len_at gc _ w12 hS.made hc
        clear T12 T9c T8c T6 T6c RJ oj HJ
        go_wp2_with (go_at_call 17; refine hLen2.out.mono ?_; rintro e w' ⟨rfl, hw'⟩; rw [hw']; clear hw')
        go_ret
        exact ⟨rfl, c12⟩

end Go.Proofs.YtegpceglhbgcnaaDoor
