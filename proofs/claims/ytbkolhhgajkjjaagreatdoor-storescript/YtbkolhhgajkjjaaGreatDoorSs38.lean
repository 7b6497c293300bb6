/- The document's store: fits, sides of the kinds 1 and 0. -/
import Derived.Test.YtbkolhhgajkjjaaGreatDoorSs01
import Derived.Test.YtbkolhhgajkjjaaGreatDoorSs36
namespace Go.Proofs.YtbkolhhgajkjjaaGreatDoor
set_option maxRecDepth 20000
open Go.RowKit

set_option maxHeartbeats 16000000 in
theorem rfits_10 {w : World} {g d : Nat} {l r : Int} {X Y Z : List Value} {dl dr : Int} {A C es : List Ent} {n1 n2 : Nat} {b : Bool} {dpl dpr : Nat} (F : FitH w g d l r X Y Z 1 0 dl dr A C es n1 n2 b dpl dpr) (_hd : d < 256) (ql : (l == 0) = false) (qr : (r == 0) = true) (ll : n1 = 1) (lr : n2 = 0) : Calls Tryz.prog 79 #[.pointer (some ⟨g, 0, none⟩), .int .i64 (d : Int), .int .i64 l, .int .i64 r] w fun e w' => e = .returned (.bool b) ∧ Below w.heap.size w w' := by
  have HEl := hidden F.HEl
  have HEr := hidden F.HEr
  have HAl := hidden F.HAl
  have HAr := hidden F.HAr
  have HLX := hidden F.HLX
  have HLY := hidden F.HLY
  have HZ := hidden F.HZ
  have HZX := hidden F.HZX
  have HZY := hidden F.HZY
  have H1X := hidden F.H1X
  have H1Y := hidden F.H1Y
  have HX0 := hidden F.HX0
  have HX1 := hidden F.HX1
  have HY0 := hidden F.HY0
  have HY1 := hidden F.HY1
  have HES := hidden F.HES
  have hdl := F.hdl
  have hdr := F.hdr
  have hle := F.hle
  have fl := F.fl
  have fr' := F.fr
  have hfit := F.hfit
  clear F
  have HF : Hid (b = false) := by
    show b = false
    rw [← Bool.not_eq_true]
    intro hbt
    have := hfit.1 hbt
    omega
  clear hfit HEl HEr
  have hbf := HF.out
  subst hbf
  go_enter Tryz.func79, Tryz.ntmps79
  go_wp2_with (first
          | (go_at_call 84; first | (refine (HAr.out _ Hb1.out).mono ?_; rintro e w2 ⟨rfl, b2⟩; have Hb2 := hidden (grow_trans Hb1.out b2); clear b2) | (refine (HAl.out _ (Below.refl _ _)).mono ?_; rintro e w1 ⟨rfl, b1⟩; have Hb1 := hidden b1; clear b1))
          | ((with_reducible refine at_ald 9 ?_); refine wpList_al _ rfl _ rfl _ HZ.out ?_; intro w3 b9 hg9 hl9 B9 b3; have HB9 := hidden B9; have Hb3 := hidden (grow_trans Hb2.out b3); have Hg9 : Hid (w.heap.size ≤ b9) := Nat.le_trans Hb2.out.size hg9; clear B9 hg9 hl9 b3)
          | ((with_reducible refine at_ald 10 ?_); refine wpList_al _ rfl _ rfl _ HZ.out ?_; intro w4 b10 hg10 hl10 B10 b4; have HB9a := hidden (HB9.out.grow b4); have HB10 := hidden B10; have Hb4 := hidden (grow_trans Hb3.out b4); have hne : b9 ≠ b10 := (by have := HB9.out.lt; omega); have Hg10 : Hid (w.heap.size ≤ b10) := Nat.le_trans Hb3.out.size hg10; clear B10 hg10 hl10 b4)
          | ((with_reducible refine at_st 9 ?_); refine wpList_sto _ rfl _ _ _ rfl b9 _ X.toArray rfl rfl HB9a.out HLX.out HZX.out (all_oneCell_toArray H1X.out) ?_; intro w5 B9b r5; have HB9b := hidden B9b; have HB10b := hidden (HB10.out.kept r5 (Ne.symm hne)); have Hb5 := hidden (below_row Hb4.out r5 Hg9.out); clear B9b r5)
          | ((with_reducible refine at_st 10 ?_); refine wpList_sto _ rfl _ _ _ rfl b10 _ Y.toArray rfl rfl HB10b.out HLY.out HZY.out (all_oneCell_toArray H1Y.out) ?_; intro w6 B10c r6; have HB9c := HB9b.out.kept r6 hne; have Hb6 := hidden (below_row Hb5.out r6 Hg10.out); have c90 := HB9c.cell 0; have c91 := HB9c.cell 1; have c100 := B10c.cell 0; have c101 := B10c.cell 1; rw [List.getElem?_toArray, HX0.out] at c90; rw [List.getElem?_toArray, HX1.out] at c91; rw [List.getElem?_toArray, HY0.out] at c100; rw [List.getElem?_toArray, HY1.out] at c101; clear B10c r6 HB9c)
          | (go_at_call 135; first | (refine (HEr.out _ Hb7.out).mono ?_; rintro e w8 ⟨a2, c2, its2, rfl, m2, hl2, p2, o2, q2⟩; have O1b := hidden (owR_grow O1.out q2); have O2 := hidden o2; have P2 := hidden p2; have M2 := hidden m2; have Hb8 := hidden (grow_trans Hb7.out q2); have HL2 := hidden hl2; clear o2 p2 m2 q2 hl2) | (refine (HEl.out _ Hb6.out).mono ?_; rintro e w7 ⟨a1, c1, its1, rfl, m1, hl1, p1, o1, q1⟩; have O1 := hidden o1; have P1 := hidden p1; have M1 := hidden m1; have Hb7 := hidden (grow_trans Hb6.out q1); have HL1 := hidden hl1; clear o1 p1 m1 q1 hl1))
          | (refine wpList_bs0 _ rfl rfl ?_; intro w10 b0 hg0 o0 q0; have O0 : Hid (w10.ownsRow w.heap.size 114 33 (.slice (some ⟨b0, 0, none⟩) 0 0) 0 []) := owR_base o0 Hb8.out.size; have O1c := hidden (owR_grow O1b.out q0); have O2b := hidden (owR_grow O2.out q0); have Hb10 := hidden (grow_trans Hb8.out q0); have Hg0 : Hid (w8.heap.size ≤ b0) := hg0; clear o0 q0 hg0)
          | (at_builtin; refine wpList_appPs _ rfl _ _ rfl w.heap.size w7.heap.size v8 (.slice a2 n2 c2) (0 + n1) n2 _ _ rfl rfl O3.out O2c.out (flatP_one7 P2.out) (by omega) Hb11.out.size ?_; intro v9 w12 o9 g9; obtain ⟨a9, c9, rfl⟩ := lst_slice (owR_lst o9); have O9 := hidden o9; have Hb12 := hidden (owR_below Hb11.out O3.out (Nat.le_refl _) g9); clear o9 g9)
          | (at_builtin; refine wpList_appPs _ rfl _ _ rfl w.heap.size w6.heap.size (.slice (some ⟨b0, 0, none⟩) 0 0) (.slice a1 n1 c1) 0 n1 _ _ rfl rfl O0.out O1c.out (flatP_one7 P1.out) (by omega) Hb10.out.size ?_; intro v8 w11 o8 g8; have O3 := hidden o8; have O2c : Hid (w11.ownsRow w7.heap.size 114 33 (.slice a2 n2 c2) n2 (flatP its2)) := owR_grown O2b.out g8 (fun k e1 e2 => Nat.lt_irrefl _ (Nat.lt_of_lt_of_le (O2.out.lt k e1).2 (by have : b0 = k := (by simpa [Value.ownBlock] using e2); rw [← this]; exact Hg0.out))); have Hb11 := hidden (owR_below Hb10.out O0.out (Nat.le_refl _) g8); clear o8 g8))
  go_ret
  exact ⟨rfl, Hb6.out⟩

end Go.Proofs.YtbkolhhgajkjjaaGreatDoor

namespace Go.Proofs.YtbkolhhgajkjjaaGreatDoor
set_option maxRecDepth 20000
open Go.RowKit

set_option maxHeartbeats 16000000 in
theorem rfits_11 {w : World} {g d : Nat} {l r : Int} {X Y Z : List Value} {dl dr : Int} {A C es : List Ent} {n1 n2 : Nat} {b : Bool} {dpl dpr : Nat} (F : FitH w g d l r X Y Z 1 1 dl dr A C es n1 n2 b dpl dpr) (hd : d < 256) (ql : (l == 0) = false) (qr : (r == 0) = false) (ll : n1 = 1) (lr : n2 = 1) : Calls Tryz.prog 79 #[.pointer (some ⟨g, 0, none⟩), .int .i64 (d : Int), .int .i64 l, .int .i64 r] w fun e w' => e = .returned (.bool b) ∧ Below w.heap.size w w' := by
  have HEl := hidden F.HEl
  have HEr := hidden F.HEr
  have HAl := hidden F.HAl
  have HAr := hidden F.HAr
  have HLX := hidden F.HLX
  have HLY := hidden F.HLY
  have HZ := hidden F.HZ
  have HZX := hidden F.HZX
  have HZY := hidden F.HZY
  have H1X := hidden F.H1X
  have H1Y := hidden F.H1Y
  have HX0 := hidden F.HX0
  have HX1 := hidden F.HX1
  have HY0 := hidden F.HY0
  have HY1 := hidden F.HY1
  have HES := hidden F.HES
  have hdl := F.hdl
  have hdr := F.hdr
  have hle := F.hle
  have fl := F.fl
  have fr' := F.fr
  have hfit := F.hfit
  clear F
  have HGD : Hid ((∀ i, i < es.length → Good7 d n1 es i) → b = true) := fun hg => hfit.2 ⟨by omega, fun e => by omega, fun e => by omega, hg⟩
  have HBD : Hid (∀ i, i < es.length → ¬ Good7 d n1 es i → b = false) := fun i hi hn => by
    rw [← Bool.not_eq_true]
    intro hbt
    exact hn ((hfit.1 hbt).2.2.2 i hi)
  have hp2 : 2 ≤ n1 + n2 := by omega
  clear hfit ll lr
  go_enter Tryz.func79, Tryz.ntmps79
  go_wp2_with (first
          | (go_at_call 84; first | (refine (HAr.out _ Hb1.out).mono ?_; rintro e w2 ⟨rfl, b2⟩; have Hb2 := hidden (grow_trans Hb1.out b2); clear b2) | (refine (HAl.out _ (Below.refl _ _)).mono ?_; rintro e w1 ⟨rfl, b1⟩; have Hb1 := hidden b1; clear b1))
          | ((with_reducible refine at_ald 9 ?_); refine wpList_al _ rfl _ rfl _ HZ.out ?_; intro w3 b9 hg9 hl9 B9 b3; have HB9 := hidden B9; have Hb3 := hidden (grow_trans Hb2.out b3); have Hg9 : Hid (w.heap.size ≤ b9) := Nat.le_trans Hb2.out.size hg9; clear B9 hg9 hl9 b3)
          | ((with_reducible refine at_ald 10 ?_); refine wpList_al _ rfl _ rfl _ HZ.out ?_; intro w4 b10 hg10 hl10 B10 b4; have HB9a := hidden (HB9.out.grow b4); have HB10 := hidden B10; have Hb4 := hidden (grow_trans Hb3.out b4); have hne : b9 ≠ b10 := (by have := HB9.out.lt; omega); have Hg10 : Hid (w.heap.size ≤ b10) := Nat.le_trans Hb3.out.size hg10; clear B10 hg10 hl10 b4)
          | ((with_reducible refine at_st 9 ?_); refine wpList_sto _ rfl _ _ _ rfl b9 _ X.toArray rfl rfl HB9a.out HLX.out HZX.out (all_oneCell_toArray H1X.out) ?_; intro w5 B9b r5; have HB9b := hidden B9b; have HB10b := hidden (HB10.out.kept r5 (Ne.symm hne)); have Hb5 := hidden (below_row Hb4.out r5 Hg9.out); clear B9b r5)
          | ((with_reducible refine at_st 10 ?_); refine wpList_sto _ rfl _ _ _ rfl b10 _ Y.toArray rfl rfl HB10b.out HLY.out HZY.out (all_oneCell_toArray H1Y.out) ?_; intro w6 B10c r6; have HB9c := HB9b.out.kept r6 hne; have Hb6 := hidden (below_row Hb5.out r6 Hg10.out); have c90 := HB9c.cell 0; have c91 := HB9c.cell 1; have c100 := B10c.cell 0; have c101 := B10c.cell 1; rw [List.getElem?_toArray, HX0.out] at c90; rw [List.getElem?_toArray, HX1.out] at c91; rw [List.getElem?_toArray, HY0.out] at c100; rw [List.getElem?_toArray, HY1.out] at c101; clear B10c r6 HB9c)
          | (go_at_call 135; first | (refine (HEr.out _ Hb7.out).mono ?_; rintro e w8 ⟨a2, c2, its2, rfl, m2, hl2, p2, o2, q2⟩; have O1b := hidden (owR_grow O1.out q2); have O2 := hidden o2; have P2 := hidden p2; have M2 := hidden m2; have Hb8 := hidden (grow_trans Hb7.out q2); have HL2 := hidden hl2; clear o2 p2 m2 q2 hl2) | (refine (HEl.out _ Hb6.out).mono ?_; rintro e w7 ⟨a1, c1, its1, rfl, m1, hl1, p1, o1, q1⟩; have O1 := hidden o1; have P1 := hidden p1; have M1 := hidden m1; have Hb7 := hidden (grow_trans Hb6.out q1); have HL1 := hidden hl1; clear o1 p1 m1 q1 hl1))
          | (refine wpList_bs0 _ rfl rfl ?_; intro w10 b0 hg0 o0 q0; have O0 : Hid (w10.ownsRow w.heap.size 114 33 (.slice (some ⟨b0, 0, none⟩) 0 0) 0 []) := owR_base o0 Hb8.out.size; have O1c := hidden (owR_grow O1b.out q0); have O2b := hidden (owR_grow O2.out q0); have Hb10 := hidden (grow_trans Hb8.out q0); have Hg0 : Hid (w8.heap.size ≤ b0) := hg0; clear o0 q0 hg0)
          | (at_builtin; refine wpList_appPs _ rfl _ _ rfl w.heap.size w7.heap.size v8 (.slice a2 n2 c2) (0 + n1) n2 _ _ rfl rfl O3.out O2c.out (flatP_one7 P2.out) (by omega) Hb11.out.size ?_; intro v9 w12 o9 g9; obtain ⟨a9, c9, rfl⟩ := lst_slice (owR_lst o9); have O9 := hidden o9; have Hb12 := hidden (owR_below Hb11.out O3.out (Nat.le_refl _) g9); clear o9 g9)
          | (at_builtin; refine wpList_appPs _ rfl _ _ rfl w.heap.size w6.heap.size (.slice (some ⟨b0, 0, none⟩) 0 0) (.slice a1 n1 c1) 0 n1 _ _ rfl rfl O0.out O1c.out (flatP_one7 P1.out) (by omega) Hb10.out.size ?_; intro v8 w11 o8 g8; have O3 := hidden o8; have O2c : Hid (w11.ownsRow w7.heap.size 114 33 (.slice a2 n2 c2) n2 (flatP its2)) := owR_grown O2b.out g8 (fun k e1 e2 => Nat.lt_irrefl _ (Nat.lt_of_lt_of_le (O2.out.lt k e1).2 (by have : b0 = k := (by simpa [Value.ownBlock] using e2); rw [← this]; exact Hg0.out))); have Hb11 := hidden (owR_below Hb10.out O0.out (Nat.le_refl _) g8); clear o8 g8))
  obtain ⟨its, hits⟩ : ∃ its, its = its1 ++ its2 := ⟨_, rfl⟩
  have O10 : w12.ownsRow w.heap.size 114 33 (.slice a9 (0 + n1 + n2) c9) (0 + n1 + n2) ([] ++ flatP its1 ++ flatP its2) := O9.out
  have hnn : 0 + n1 + n2 = its.length := by rw [hits, List.length_append, HL1.out, HL2.out, Nat.zero_add]
  rw [List.nil_append, show flatP its1 ++ flatP its2 = flatP its by rw [hits]; simp [flatP], hnn] at O10
  have hmi : its.map (·.1) = es := by rw [hits, List.map_append, M1.out, M2.out, HES.out]
  have hPi : ∀ p ∈ its, Key p.1.1 ∧ Reads w p.2 p.1.2 := fun p hp => by
    rw [hits] at hp
    rcases List.mem_append.1 hp with hp | hp
    · exact P1.out p hp
    · exact P2.out p hp
  have hpr := prAt_own O10 (fun p hp => (hPi p hp).1) (fun p hp => (hPi p hp).2.grow Hb12.out)
  rw [hmi] at hpr
  have hil : its.length = es.length := by rw [← hmi, List.length_map]
  obtain ⟨a', c', he', _, hrr, hkk⟩ := hpr
  obtain ⟨ge, off, ea, hr9⟩ := hrr (by omega)
  injection he' with e1 e2 e3
  subst e3
  rw [ea] at e1
  subst e1
  clear e2
  have HRA : Hid (∀ (i : Nat) w', i < es.length → Below w12.heap.size w12 w' → w'.rangeAt ge (off + i * 33) (B (es.getD i e00).1).toList ∧ Key (es.getD i e00).1) := fun i w' hi hb => ⟨rng_grow (rng_key (hr9 i hi)) hb, (hkk i hi).1⟩
  obtain ⟨n, hn⟩ : ∃ n, n = n1 + n2 := ⟨_, rfl⟩
  have hn2 : 0 + n1 + n2 = n := by omega
  have HnE : Hid (n = es.length) := by show _ = _; omega
  have hn3 : n1 + n2 = n := by omega
  first | simp only [hn2] | simp only [hn3]
  have hpos : 0 < n := by omega
  have hn120 : n ≤ 10000 := by omega
  clear O10 hPi hrr hkk hr9 O9 O3 O2c O2b O2 O1 O1b O1c O0 P1 P2 M1 M2 hits hmi hil hn2 hn3 hn hnn hle HL1 HL2 c90 c91 c100 c101
  go_loopw [14] (fun i wr => ∃ (k : Nat), k ≤ n ∧ i = .int .i64 k ∧ (∀ i, i < k → Good7 d n1 es i) ∧ Below w12.heap.size w12 wr) (fun i _ => n - (intOf i).toNat)
  case atStart => exact ⟨0, by omega, rfl, fun i hi => by omega, Below.refl _ _⟩
  case round =>
    obtain ⟨k, hk, rfl, hgs, hbw⟩ := hrel
    by_cases hlt : k < n
    · have z1 : (k : Int) < (n : Int) := by omega
      have z0 : (0 : Int) ≤ (k : Int) := by omega
      have z2 : (0 : Int) < (n : Int) := by omega
      obtain ⟨_, hK1⟩ := HRA.out k w12 (by have := HnE.out; omega) (Below.refl _ _)
      obtain ⟨_, hK0⟩ := HRA.out 0 w12 (by have := HnE.out; omega) (Below.refl _ _)
      have HRk : Hid (∀ w', Below wr.heap.size wr w' → w'.rangeAt ge (off + k * 33) (B (es.getD k e00).1).toList) := fun w' hb => (HRA.out k w' (by have := HnE.out; omega) (grow_trans hbw hb)).1
      have HR0 : Hid (∀ w', Below wr.heap.size wr w' → w'.rangeAt ge off (B (es.getD 0 e00).1).toList) := fun w' hb => by
        have := (HRA.out 0 w' (by have := HnE.out; omega) (grow_trans hbw hb)).1
        rwa [Nat.zero_mul, Nat.add_zero] at this
      have HPLk : Hid ((Tryz.prog.info? 31).map (·.size) = some (B (es.getD k e00).1).toList.length) := by show _ = _; rw [B_toList, List.length_map, hK1.1]; exact sz_path
      have HPL0 : Hid ((Tryz.prog.info? 31).map (·.size) = some (B (es.getD 0 e00).1).toList.length) := by show _ = _; rw [B_toList, List.length_map, hK0.1]; exact sz_path
      obtain ⟨K1, hK1e⟩ : ∃ K, K = (es.getD k e00).1 := ⟨_, rfl⟩
      obtain ⟨K0, hK0e⟩ : ∃ K, K = (es.getD 0 e00).1 := ⟨_, rfl⟩
      rw [← hK1e] at HRk HPLk hK1
      rw [← hK0e] at HR0 HPL0 hK0
      have HKe := hidden hK1e.symm
      have HK0e := hidden hK0e.symm
      obtain ⟨c, hc⟩ := common_ex K1 K0
      have HIC := hidden hc
      have HBit : Hid (∀ w', Calls Tryz.prog 122 #[.agg (B K1), .int .i64 (d : Int)] w' fun e w'' => e = .returned (.int .i64 (kb K1 d)) ∧ Below w'.heap.size w' w'') := fun w' => by
        have := rbit_any K1 d w' hK1
        rwa [kbi_in _ _ hd] at this
      have HCom : Hid (∀ w', Calls Tryz.prog 116 #[.agg (B K1), .agg (B K0)] w' fun e w'' => e = .returned (.int .i64 (c : Int)) ∧ Below w'.heap.size w' w'') := fun w' => rcommon_at K1 K0 c w' hK1 hK0 hc
      clear hK1e hK0e hc
      by_cases hb1 : k < n1
      · have y1 : (k : Int) < (n1 : Int) := by omega
        have hbit : (if k < n1 then (0 : Int) else 1) = 0 := if_pos hb1
        by_cases hkb : kb K1 d = 0
        · rw [hkb] at HBit
          by_cases hcd : c < d
          · have hcd2 : (c : Int) < (d : Int) := by omega
            have HBAD : Hid (b = false) := HBD.out k (by have := HnE.out; omega) (fun hg => by have h2 := hg.2; rw [HKe.out, HK0e.out] at h2; have := (und_common HIC.out (d : Int) (by omega) (by omega)).2 h2; omega)
            go_wp2_with fail
            refine wp_region_held_drew (S := fun w' => Below wr.heap.size wr w') (by kernel_rfl) (below_drewN (Below.refl _ _) 1) (fun hHeld => ?_)
            refine tkp 0 (.slice (some ⟨ge, off, none⟩) n c9) hHeld ?_
            simp only [Act.put, zq1, zq2, zq4, zq5, zq6]
            refine tkp 1 (.int .i64 (k : Int)) hHeld ?_
            simp only [Act.put, zq1, zq2, zq3, zq4, zq5, zq6]
            refine tkp 2 (.pointer (some ⟨ge, off + k * 33, none⟩)) hHeld ?_
            simp only [Act.put, zq1, zq2, zq3, zq4, zq5, zq6]
            refine tkp 3 (.pointer (some ⟨ge, off + k * 33, none⟩)) hHeld ?_
            simp only [Act.put, zq1, zq2, zq3, zq4, zq5, zq6]
            refine tkg 4 (.agg (B K1)) rfl (yieldsIf_load_mid rfl 31 (.tmp 92) rfl ge (off + k * 33) rfl (B K1).toList _ (fun w hS => HRk.out _ hS) Tryz.underlying31 rfl HPLk.out) hHeld ?_
            simp only [Act.put, zq1, zq2, zq3, zq4, zq5, zq6]
            refine tkp 5 (.int .i64 (d : Int)) hHeld ?_
            simp only [Act.put, zq1, zq2, zq3, zq4, zq5, zq6]
            refine tkp 7 (.int .i64 0) hHeld ?_
            simp only [Act.put, zq1, zq2, zq3, zq4, zq5, zq6]
            refine wpAnyH_ready (rs := [6]) (by kernel_rfl) (by simp) ?_
            refine AllReadyH.cons rfl (fun KQ hK => ?_) AllReadyH.nil
            go_simp
            refine (HBit.out _).mono ?_
            rintro e z1 ⟨rfl, a1⟩
            refine hK.out _ _ (grow_trans hHeld a1) (fun hHeld => ?_)
            clear hK KQ
            refine tkp 8 (.bool false) hHeld ?_
            simp only [Act.put, zq1, zq2, zq3, zq4, zq5, zq6]
            refine tkp 9 (.bool false) hHeld ?_
            simp only [Act.put, zq1, zq2, zq3, zq4, zq5, zq6]
            refine tkp 10 (.slice (some ⟨ge, off, none⟩) n c9) hHeld ?_
            simp only [Act.put, zq1, zq2, zq3, zq4, zq5, zq6]
            refine tkp 11 (.int .i64 (k : Int)) hHeld ?_
            simp only [Act.put, zq1, zq2, zq3, zq4, zq5, zq6]
            refine tkp 12 (.pointer (some ⟨ge, off + k * 33, none⟩)) hHeld ?_
            simp only [Act.put, zq1, zq2, zq3, zq4, zq5, zq6]
            refine tkp 13 (.pointer (some ⟨ge, off + k * 33, none⟩)) hHeld ?_
            simp only [Act.put, zq1, zq2, zq3, zq4, zq5, zq6]
            refine tkg 14 (.agg (B K1)) rfl (yieldsIf_load_mid rfl 31 (.tmp 102) rfl ge (off + k * 33) rfl (B K1).toList _ (fun w hS => HRk.out _ hS) Tryz.underlying31 rfl HPLk.out) hHeld ?_
            simp only [Act.put, zq1, zq2, zq3, zq4, zq5, zq6]
            refine tkp 15 (.slice (some ⟨ge, off, none⟩) n c9) hHeld ?_
            simp only [Act.put, zq1, zq2, zq3, zq4, zq5, zq6]
            refine tkp 16 (.pointer (some ⟨ge, off, none⟩)) hHeld ?_
            simp only [Act.put, zq1, zq2, zq3, zq4, zq5, zq6]
            refine tkp 17 (.pointer (some ⟨ge, off, none⟩)) hHeld ?_
            simp only [Act.put, zq1, zq2, zq3, zq4, zq5, zq6]
            refine tkg 18 (.agg (B K0)) rfl (yieldsIf_load_mid rfl 31 (.tmp 106) rfl ge (off) rfl (B K0).toList _ (fun w hS => HR0.out _ hS) Tryz.underlying31 rfl HPL0.out) hHeld ?_
            simp only [Act.put, zq1, zq2, zq3, zq4, zq5, zq6]
            refine tkp 20 (.int .i64 (d : Int)) hHeld ?_
            simp only [Act.put, zq1, zq2, zq3, zq4, zq5, zq6]
            refine wpAnyH_ready (rs := [19]) (by kernel_rfl) (by simp) ?_
            refine AllReadyH.cons rfl (fun KQ hK => ?_) AllReadyH.nil
            go_simp
            refine (HCom.out _).mono ?_
            rintro e z2 ⟨rfl, a2⟩
            refine hK.out _ _ (grow_trans hHeld a2) (fun hHeld => ?_)
            clear hK KQ
            refine tkp 21 (.bool true) hHeld ?_
            simp only [Act.put, zq1, zq2, zq3, zq4, zq5, zq6]
            refine tkp 22 (.bool true) hHeld ?_
            simp only [Act.put, zq1, zq2, zq3, zq4, zq5, zq6]
            refine wpAnyH_done (by kernel_rfl) ?_ _
            have HQz := hidden (grow_trans Hb12.out (grow_trans hbw hHeld))
            go_wp2_with fail
            go_ret
            exact ⟨by rw [HBAD.out]; rfl, HQz.out⟩
          · have hcd2 : ¬ (c : Int) < (d : Int) := by omega
            have HGS : Hid (∀ i, i < k + 1 → Good7 d n1 es i) := fun i hi => by
              by_cases hik : i < k
              · exact hgs i hik
              · obtain rfl : i = k := by omega
                exact ⟨by rw [HKe.out, hbit]; exact hkb, by rw [HKe.out, HK0e.out]; exact (und_common HIC.out (d : Int) (by omega) (by omega)).1 (by omega)⟩
            go_wp2_with fail
            refine wp_region_held_drew (S := fun w' => Below wr.heap.size wr w') (by kernel_rfl) (below_drewN (Below.refl _ _) 1) (fun hHeld => ?_)
            refine tkp 0 (.slice (some ⟨ge, off, none⟩) n c9) hHeld ?_
            simp only [Act.put, zq1, zq2, zq4, zq5, zq6]
            refine tkp 1 (.int .i64 (k : Int)) hHeld ?_
            simp only [Act.put, zq1, zq2, zq3, zq4, zq5, zq6]
            refine tkp 2 (.pointer (some ⟨ge, off + k * 33, none⟩)) hHeld ?_
            simp only [Act.put, zq1, zq2, zq3, zq4, zq5, zq6]
            refine tkp 3 (.pointer (some ⟨ge, off + k * 33, none⟩)) hHeld ?_
            simp only [Act.put, zq1, zq2, zq3, zq4, zq5, zq6]
            refine tkg 4 (.agg (B K1)) rfl (yieldsIf_load_mid rfl 31 (.tmp 92) rfl ge (off + k * 33) rfl (B K1).toList _ (fun w hS => HRk.out _ hS) Tryz.underlying31 rfl HPLk.out) hHeld ?_
            simp only [Act.put, zq1, zq2, zq3, zq4, zq5, zq6]
            refine tkp 5 (.int .i64 (d : Int)) hHeld ?_
            simp only [Act.put, zq1, zq2, zq3, zq4, zq5, zq6]
            refine tkp 7 (.int .i64 0) hHeld ?_
            simp only [Act.put, zq1, zq2, zq3, zq4, zq5, zq6]
            refine wpAnyH_ready (rs := [6]) (by kernel_rfl) (by simp) ?_
            refine AllReadyH.cons rfl (fun KQ hK => ?_) AllReadyH.nil
            go_simp
            refine (HBit.out _).mono ?_
            rintro e z1 ⟨rfl, a1⟩
            refine hK.out _ _ (grow_trans hHeld a1) (fun hHeld => ?_)
            clear hK KQ
            refine tkp 8 (.bool false) hHeld ?_
            simp only [Act.put, zq1, zq2, zq3, zq4, zq5, zq6]
            refine tkp 9 (.bool false) hHeld ?_
            simp only [Act.put, zq1, zq2, zq3, zq4, zq5, zq6]
            refine tkp 10 (.slice (some ⟨ge, off, none⟩) n c9) hHeld ?_
            simp only [Act.put, zq1, zq2, zq3, zq4, zq5, zq6]
            refine tkp 11 (.int .i64 (k : Int)) hHeld ?_
            simp only [Act.put, zq1, zq2, zq3, zq4, zq5, zq6]
            refine tkp 12 (.pointer (some ⟨ge, off + k * 33, none⟩)) hHeld ?_
            simp only [Act.put, zq1, zq2, zq3, zq4, zq5, zq6]
            refine tkp 13 (.pointer (some ⟨ge, off + k * 33, none⟩)) hHeld ?_
            simp only [Act.put, zq1, zq2, zq3, zq4, zq5, zq6]
            refine tkg 14 (.agg (B K1)) rfl (yieldsIf_load_mid rfl 31 (.tmp 102) rfl ge (off + k * 33) rfl (B K1).toList _ (fun w hS => HRk.out _ hS) Tryz.underlying31 rfl HPLk.out) hHeld ?_
            simp only [Act.put, zq1, zq2, zq3, zq4, zq5, zq6]
            refine tkp 15 (.slice (some ⟨ge, off, none⟩) n c9) hHeld ?_
            simp only [Act.put, zq1, zq2, zq3, zq4, zq5, zq6]
            refine tkp 16 (.pointer (some ⟨ge, off, none⟩)) hHeld ?_
            simp only [Act.put, zq1, zq2, zq3, zq4, zq5, zq6]
            refine tkp 17 (.pointer (some ⟨ge, off, none⟩)) hHeld ?_
            simp only [Act.put, zq1, zq2, zq3, zq4, zq5, zq6]
            refine tkg 18 (.agg (B K0)) rfl (yieldsIf_load_mid rfl 31 (.tmp 106) rfl ge (off) rfl (B K0).toList _ (fun w hS => HR0.out _ hS) Tryz.underlying31 rfl HPL0.out) hHeld ?_
            simp only [Act.put, zq1, zq2, zq3, zq4, zq5, zq6]
            refine tkp 20 (.int .i64 (d : Int)) hHeld ?_
            simp only [Act.put, zq1, zq2, zq3, zq4, zq5, zq6]
            refine wpAnyH_ready (rs := [19]) (by kernel_rfl) (by simp) ?_
            refine AllReadyH.cons rfl (fun KQ hK => ?_) AllReadyH.nil
            go_simp
            refine (HCom.out _).mono ?_
            rintro e z2 ⟨rfl, a2⟩
            refine hK.out _ _ (grow_trans hHeld a2) (fun hHeld => ?_)
            clear hK KQ
            refine tkp 21 (.bool false) hHeld ?_
            simp only [Act.put, zq1, zq2, zq3, zq4, zq5, zq6]
            refine tkp 22 (.bool false) hHeld ?_
            simp only [Act.put, zq1, zq2, zq3, zq4, zq5, zq6]
            refine wpAnyH_done (by kernel_rfl) ?_ _
            have HQz := hidden (grow_trans hbw hHeld)
            go_wp2_with fail
            exact ⟨⟨k + 1, by omega, by go_num, HGS.out, HQz.out⟩, by simp [intOf]; omega⟩
        · have HBAD : Hid (b = false) := HBD.out k (by have := HnE.out; omega) (fun hg => hkb (by have := hg.1; rw [HKe.out, hbit] at this; exact this))
          go_wp2_with fail
          refine wp_region_held_drew (S := fun w' => Below wr.heap.size wr w') (by kernel_rfl) (below_drewN (Below.refl _ _) 1) (fun hHeld => ?_)
          refine tkp 0 (.slice (some ⟨ge, off, none⟩) n c9) hHeld ?_
          simp only [Act.put, zq1, zq2, zq4, zq5, zq6]
          refine tkp 1 (.int .i64 (k : Int)) hHeld ?_
          simp only [Act.put, zq1, zq2, zq3, zq4, zq5, zq6]
          refine tkp 2 (.pointer (some ⟨ge, off + k * 33, none⟩)) hHeld ?_
          simp only [Act.put, zq1, zq2, zq3, zq4, zq5, zq6]
          refine tkp 3 (.pointer (some ⟨ge, off + k * 33, none⟩)) hHeld ?_
          simp only [Act.put, zq1, zq2, zq3, zq4, zq5, zq6]
          refine tkg 4 (.agg (B K1)) rfl (yieldsIf_load_mid rfl 31 (.tmp 92) rfl ge (off + k * 33) rfl (B K1).toList _ (fun w hS => HRk.out _ hS) Tryz.underlying31 rfl HPLk.out) hHeld ?_
          simp only [Act.put, zq1, zq2, zq3, zq4, zq5, zq6]
          refine tkp 5 (.int .i64 (d : Int)) hHeld ?_
          simp only [Act.put, zq1, zq2, zq3, zq4, zq5, zq6]
          refine tkp 7 (.int .i64 0) hHeld ?_
          simp only [Act.put, zq1, zq2, zq3, zq4, zq5, zq6]
          refine wpAnyH_ready (rs := [6]) (by kernel_rfl) (by simp) ?_
          refine AllReadyH.cons rfl (fun KQ hK => ?_) AllReadyH.nil
          go_simp
          refine (HBit.out _).mono ?_
          rintro e z1 ⟨rfl, a1⟩
          refine hK.out _ _ (grow_trans hHeld a1) (fun hHeld => ?_)
          clear hK KQ
          refine tkp 8 (.bool true) hHeld ?_
          simp only [Act.put, zq1, zq2, zq3, zq4, zq5, zq6]
          refine tkp 9 (.bool true) hHeld ?_
          simp only [Act.put, zq1, zq2, zq3, zq4, zq5, zq6]
          refine tks 10 hHeld ?_
          simp only [Act.put, zq1, zq2, zq3, zq4, zq5, zq6]
          refine tks 11 hHeld ?_
          simp only [Act.put, zq1, zq2, zq3, zq4, zq5, zq6]
          refine tks 12 hHeld ?_
          simp only [Act.put, zq1, zq2, zq3, zq4, zq5, zq6]
          refine tks 13 hHeld ?_
          simp only [Act.put, zq1, zq2, zq3, zq4, zq5, zq6]
          refine tks 14 hHeld ?_
          simp only [Act.put, zq1, zq2, zq3, zq4, zq5, zq6]
          refine tks 15 hHeld ?_
          simp only [Act.put, zq1, zq2, zq3, zq4, zq5, zq6]
          refine tks 16 hHeld ?_
          simp only [Act.put, zq1, zq2, zq3, zq4, zq5, zq6]
          refine tks 17 hHeld ?_
          simp only [Act.put, zq1, zq2, zq3, zq4, zq5, zq6]
          refine tks 18 hHeld ?_
          simp only [Act.put, zq1, zq2, zq3, zq4, zq5, zq6]
          refine tks 19 hHeld ?_
          simp only [Act.put, zq1, zq2, zq3, zq4, zq5, zq6]
          refine tks 20 hHeld ?_
          simp only [Act.put, zq1, zq2, zq3, zq4, zq5, zq6]
          refine tks 21 hHeld ?_
          simp only [Act.put, zq1, zq2, zq3, zq4, zq5, zq6]
          refine tkp 22 (.bool true) hHeld ?_
          simp only [Act.put, zq1, zq2, zq3, zq4, zq5, zq6]
          refine wpAnyH_done (by kernel_rfl) ?_ _
          have HQz := hidden (grow_trans Hb12.out (grow_trans hbw hHeld))
          go_wp2_with fail
          go_ret
          exact ⟨by rw [HBAD.out]; rfl, HQz.out⟩
      · have y1 : (n1 : Int) ≤ (k : Int) := by omega
        have hbit : (if k < n1 then (0 : Int) else 1) = 1 := if_neg hb1
        by_cases hkb : kb K1 d = 1
        · rw [hkb] at HBit
          by_cases hcd : c < d
          · have hcd2 : (c : Int) < (d : Int) := by omega
            have HBAD : Hid (b = false) := HBD.out k (by have := HnE.out; omega) (fun hg => by have h2 := hg.2; rw [HKe.out, HK0e.out] at h2; have := (und_common HIC.out (d : Int) (by omega) (by omega)).2 h2; omega)
            go_wp2_with fail
            refine wp_region_held_drew (S := fun w' => Below wr.heap.size wr w') (by kernel_rfl) (below_drewN (Below.refl _ _) 1) (fun hHeld => ?_)
            refine tkp 0 (.slice (some ⟨ge, off, none⟩) n c9) hHeld ?_
            simp only [Act.put, zq1, zq2, zq4, zq5, zq6]
            refine tkp 1 (.int .i64 (k : Int)) hHeld ?_
            simp only [Act.put, zq1, zq2, zq3, zq4, zq5, zq6]
            refine tkp 2 (.pointer (some ⟨ge, off + k * 33, none⟩)) hHeld ?_
            simp only [Act.put, zq1, zq2, zq3, zq4, zq5, zq6]
            refine tkp 3 (.pointer (some ⟨ge, off + k * 33, none⟩)) hHeld ?_
            simp only [Act.put, zq1, zq2, zq3, zq4, zq5, zq6]
            refine tkg 4 (.agg (B K1)) rfl (yieldsIf_load_mid rfl 31 (.tmp 92) rfl ge (off + k * 33) rfl (B K1).toList _ (fun w hS => HRk.out _ hS) Tryz.underlying31 rfl HPLk.out) hHeld ?_
            simp only [Act.put, zq1, zq2, zq3, zq4, zq5, zq6]
            refine tkp 5 (.int .i64 (d : Int)) hHeld ?_
            simp only [Act.put, zq1, zq2, zq3, zq4, zq5, zq6]
            refine tkp 7 (.int .i64 1) hHeld ?_
            simp only [Act.put, zq1, zq2, zq3, zq4, zq5, zq6]
            refine wpAnyH_ready (rs := [6]) (by kernel_rfl) (by simp) ?_
            refine AllReadyH.cons rfl (fun KQ hK => ?_) AllReadyH.nil
            go_simp
            refine (HBit.out _).mono ?_
            rintro e z1 ⟨rfl, a1⟩
            refine hK.out _ _ (grow_trans hHeld a1) (fun hHeld => ?_)
            clear hK KQ
            refine tkp 8 (.bool false) hHeld ?_
            simp only [Act.put, zq1, zq2, zq3, zq4, zq5, zq6]
            refine tkp 9 (.bool false) hHeld ?_
            simp only [Act.put, zq1, zq2, zq3, zq4, zq5, zq6]
            refine tkp 10 (.slice (some ⟨ge, off, none⟩) n c9) hHeld ?_
            simp only [Act.put, zq1, zq2, zq3, zq4, zq5, zq6]
            refine tkp 11 (.int .i64 (k : Int)) hHeld ?_
            simp only [Act.put, zq1, zq2, zq3, zq4, zq5, zq6]
            refine tkp 12 (.pointer (some ⟨ge, off + k * 33, none⟩)) hHeld ?_
            simp only [Act.put, zq1, zq2, zq3, zq4, zq5, zq6]
            refine tkp 13 (.pointer (some ⟨ge, off + k * 33, none⟩)) hHeld ?_
            simp only [Act.put, zq1, zq2, zq3, zq4, zq5, zq6]
            refine tkg 14 (.agg (B K1)) rfl (yieldsIf_load_mid rfl 31 (.tmp 102) rfl ge (off + k * 33) rfl (B K1).toList _ (fun w hS => HRk.out _ hS) Tryz.underlying31 rfl HPLk.out) hHeld ?_
            simp only [Act.put, zq1, zq2, zq3, zq4, zq5, zq6]
            refine tkp 15 (.slice (some ⟨ge, off, none⟩) n c9) hHeld ?_
            simp only [Act.put, zq1, zq2, zq3, zq4, zq5, zq6]
            refine tkp 16 (.pointer (some ⟨ge, off, none⟩)) hHeld ?_
            simp only [Act.put, zq1, zq2, zq3, zq4, zq5, zq6]
            refine tkp 17 (.pointer (some ⟨ge, off, none⟩)) hHeld ?_
            simp only [Act.put, zq1, zq2, zq3, zq4, zq5, zq6]
            refine tkg 18 (.agg (B K0)) rfl (yieldsIf_load_mid rfl 31 (.tmp 106) rfl ge (off) rfl (B K0).toList _ (fun w hS => HR0.out _ hS) Tryz.underlying31 rfl HPL0.out) hHeld ?_
            simp only [Act.put, zq1, zq2, zq3, zq4, zq5, zq6]
            refine tkp 20 (.int .i64 (d : Int)) hHeld ?_
            simp only [Act.put, zq1, zq2, zq3, zq4, zq5, zq6]
            refine wpAnyH_ready (rs := [19]) (by kernel_rfl) (by simp) ?_
            refine AllReadyH.cons rfl (fun KQ hK => ?_) AllReadyH.nil
            go_simp
            refine (HCom.out _).mono ?_
            rintro e z2 ⟨rfl, a2⟩
            refine hK.out _ _ (grow_trans hHeld a2) (fun hHeld => ?_)
            clear hK KQ
            refine tkp 21 (.bool true) hHeld ?_
            simp only [Act.put, zq1, zq2, zq3, zq4, zq5, zq6]
            refine tkp 22 (.bool true) hHeld ?_
            simp only [Act.put, zq1, zq2, zq3, zq4, zq5, zq6]
            refine wpAnyH_done (by kernel_rfl) ?_ _
            have HQz := hidden (grow_trans Hb12.out (grow_trans hbw hHeld))
            go_wp2_with fail
            go_ret
            exact ⟨by rw [HBAD.out]; rfl, HQz.out⟩
          · have hcd2 : ¬ (c : Int) < (d : Int) := by omega
            have HGS : Hid (∀ i, i < k + 1 → Good7 d n1 es i) := fun i hi => by
              by_cases hik : i < k
              · exact hgs i hik
              · obtain rfl : i = k := by omega
                exact ⟨by rw [HKe.out, hbit]; exact hkb, by rw [HKe.out, HK0e.out]; exact (und_common HIC.out (d : Int) (by omega) (by omega)).1 (by omega)⟩
            go_wp2_with fail
            refine wp_region_held_drew (S := fun w' => Below wr.heap.size wr w') (by kernel_rfl) (below_drewN (Below.refl _ _) 1) (fun hHeld => ?_)
            refine tkp 0 (.slice (some ⟨ge, off, none⟩) n c9) hHeld ?_
            simp only [Act.put, zq1, zq2, zq4, zq5, zq6]
            refine tkp 1 (.int .i64 (k : Int)) hHeld ?_
            simp only [Act.put, zq1, zq2, zq3, zq4, zq5, zq6]
            refine tkp 2 (.pointer (some ⟨ge, off + k * 33, none⟩)) hHeld ?_
            simp only [Act.put, zq1, zq2, zq3, zq4, zq5, zq6]
            refine tkp 3 (.pointer (some ⟨ge, off + k * 33, none⟩)) hHeld ?_
            simp only [Act.put, zq1, zq2, zq3, zq4, zq5, zq6]
            refine tkg 4 (.agg (B K1)) rfl (yieldsIf_load_mid rfl 31 (.tmp 92) rfl ge (off + k * 33) rfl (B K1).toList _ (fun w hS => HRk.out _ hS) Tryz.underlying31 rfl HPLk.out) hHeld ?_
            simp only [Act.put, zq1, zq2, zq3, zq4, zq5, zq6]
            refine tkp 5 (.int .i64 (d : Int)) hHeld ?_
            simp only [Act.put, zq1, zq2, zq3, zq4, zq5, zq6]
            refine tkp 7 (.int .i64 1) hHeld ?_
            simp only [Act.put, zq1, zq2, zq3, zq4, zq5, zq6]
            refine wpAnyH_ready (rs := [6]) (by kernel_rfl) (by simp) ?_
            refine AllReadyH.cons rfl (fun KQ hK => ?_) AllReadyH.nil
            go_simp
            refine (HBit.out _).mono ?_
            rintro e z1 ⟨rfl, a1⟩
            refine hK.out _ _ (grow_trans hHeld a1) (fun hHeld => ?_)
            clear hK KQ
            refine tkp 8 (.bool false) hHeld ?_
            simp only [Act.put, zq1, zq2, zq3, zq4, zq5, zq6]
            refine tkp 9 (.bool false) hHeld ?_
            simp only [Act.put, zq1, zq2, zq3, zq4, zq5, zq6]
            refine tkp 10 (.slice (some ⟨ge, off, none⟩) n c9) hHeld ?_
            simp only [Act.put, zq1, zq2, zq3, zq4, zq5, zq6]
            refine tkp 11 (.int .i64 (k : Int)) hHeld ?_
            simp only [Act.put, zq1, zq2, zq3, zq4, zq5, zq6]
            refine tkp 12 (.pointer (some ⟨ge, off + k * 33, none⟩)) hHeld ?_
            simp only [Act.put, zq1, zq2, zq3, zq4, zq5, zq6]
            refine tkp 13 (.pointer (some ⟨ge, off + k * 33, none⟩)) hHeld ?_
            simp only [Act.put, zq1, zq2, zq3, zq4, zq5, zq6]
            refine tkg 14 (.agg (B K1)) rfl (yieldsIf_load_mid rfl 31 (.tmp 102) rfl ge (off + k * 33) rfl (B K1).toList _ (fun w hS => HRk.out _ hS) Tryz.underlying31 rfl HPLk.out) hHeld ?_
            simp only [Act.put, zq1, zq2, zq3, zq4, zq5, zq6]
            refine tkp 15 (.slice (some ⟨ge, off, none⟩) n c9) hHeld ?_
            simp only [Act.put, zq1, zq2, zq3, zq4, zq5, zq6]
            refine tkp 16 (.pointer (some ⟨ge, off, none⟩)) hHeld ?_
            simp only [Act.put, zq1, zq2, zq3, zq4, zq5, zq6]
            refine tkp 17 (.pointer (some ⟨ge, off, none⟩)) hHeld ?_
            simp only [Act.put, zq1, zq2, zq3, zq4, zq5, zq6]
            refine tkg 18 (.agg (B K0)) rfl (yieldsIf_load_mid rfl 31 (.tmp 106) rfl ge (off) rfl (B K0).toList _ (fun w hS => HR0.out _ hS) Tryz.underlying31 rfl HPL0.out) hHeld ?_
            simp only [Act.put, zq1, zq2, zq3, zq4, zq5, zq6]
            refine tkp 20 (.int .i64 (d : Int)) hHeld ?_
            simp only [Act.put, zq1, zq2, zq3, zq4, zq5, zq6]
            refine wpAnyH_ready (rs := [19]) (by kernel_rfl) (by simp) ?_
            refine AllReadyH.cons rfl (fun KQ hK => ?_) AllReadyH.nil
            go_simp
            refine (HCom.out _).mono ?_
            rintro e z2 ⟨rfl, a2⟩
            refine hK.out _ _ (grow_trans hHeld a2) (fun hHeld => ?_)
            clear hK KQ
            refine tkp 21 (.bool false) hHeld ?_
            simp only [Act.put, zq1, zq2, zq3, zq4, zq5, zq6]
            refine tkp 22 (.bool false) hHeld ?_
            simp only [Act.put, zq1, zq2, zq3, zq4, zq5, zq6]
            refine wpAnyH_done (by kernel_rfl) ?_ _
            have HQz := hidden (grow_trans hbw hHeld)
            go_wp2_with fail
            exact ⟨⟨k + 1, by omega, by go_num, HGS.out, HQz.out⟩, by simp [intOf]; omega⟩
        · have HBAD : Hid (b = false) := HBD.out k (by have := HnE.out; omega) (fun hg => hkb (by have := hg.1; rw [HKe.out, hbit] at this; exact this))
          go_wp2_with fail
          refine wp_region_held_drew (S := fun w' => Below wr.heap.size wr w') (by kernel_rfl) (below_drewN (Below.refl _ _) 1) (fun hHeld => ?_)
          refine tkp 0 (.slice (some ⟨ge, off, none⟩) n c9) hHeld ?_
          simp only [Act.put, zq1, zq2, zq4, zq5, zq6]
          refine tkp 1 (.int .i64 (k : Int)) hHeld ?_
          simp only [Act.put, zq1, zq2, zq3, zq4, zq5, zq6]
          refine tkp 2 (.pointer (some ⟨ge, off + k * 33, none⟩)) hHeld ?_
          simp only [Act.put, zq1, zq2, zq3, zq4, zq5, zq6]
          refine tkp 3 (.pointer (some ⟨ge, off + k * 33, none⟩)) hHeld ?_
          simp only [Act.put, zq1, zq2, zq3, zq4, zq5, zq6]
          refine tkg 4 (.agg (B K1)) rfl (yieldsIf_load_mid rfl 31 (.tmp 92) rfl ge (off + k * 33) rfl (B K1).toList _ (fun w hS => HRk.out _ hS) Tryz.underlying31 rfl HPLk.out) hHeld ?_
          simp only [Act.put, zq1, zq2, zq3, zq4, zq5, zq6]
          refine tkp 5 (.int .i64 (d : Int)) hHeld ?_
          simp only [Act.put, zq1, zq2, zq3, zq4, zq5, zq6]
          refine tkp 7 (.int .i64 1) hHeld ?_
          simp only [Act.put, zq1, zq2, zq3, zq4, zq5, zq6]
          refine wpAnyH_ready (rs := [6]) (by kernel_rfl) (by simp) ?_
          refine AllReadyH.cons rfl (fun KQ hK => ?_) AllReadyH.nil
          go_simp
          refine (HBit.out _).mono ?_
          rintro e z1 ⟨rfl, a1⟩
          refine hK.out _ _ (grow_trans hHeld a1) (fun hHeld => ?_)
          clear hK KQ
          refine tkp 8 (.bool true) hHeld ?_
          simp only [Act.put, zq1, zq2, zq3, zq4, zq5, zq6]
          refine tkp 9 (.bool true) hHeld ?_
          simp only [Act.put, zq1, zq2, zq3, zq4, zq5, zq6]
          refine tks 10 hHeld ?_
          simp only [Act.put, zq1, zq2, zq3, zq4, zq5, zq6]
          refine tks 11 hHeld ?_
          simp only [Act.put, zq1, zq2, zq3, zq4, zq5, zq6]
          refine tks 12 hHeld ?_
          simp only [Act.put, zq1, zq2, zq3, zq4, zq5, zq6]
          refine tks 13 hHeld ?_
          simp only [Act.put, zq1, zq2, zq3, zq4, zq5, zq6]
          refine tks 14 hHeld ?_
          simp only [Act.put, zq1, zq2, zq3, zq4, zq5, zq6]
          refine tks 15 hHeld ?_
          simp only [Act.put, zq1, zq2, zq3, zq4, zq5, zq6]
          refine tks 16 hHeld ?_
          simp only [Act.put, zq1, zq2, zq3, zq4, zq5, zq6]
          refine tks 17 hHeld ?_
          simp only [Act.put, zq1, zq2, zq3, zq4, zq5, zq6]
          refine tks 18 hHeld ?_
          simp only [Act.put, zq1, zq2, zq3, zq4, zq5, zq6]
          refine tks 19 hHeld ?_
          simp only [Act.put, zq1, zq2, zq3, zq4, zq5, zq6]
          refine tks 20 hHeld ?_
          simp only [Act.put, zq1, zq2, zq3, zq4, zq5, zq6]
          refine tks 21 hHeld ?_
          simp only [Act.put, zq1, zq2, zq3, zq4, zq5, zq6]
          refine tkp 22 (.bool true) hHeld ?_
          simp only [Act.put, zq1, zq2, zq3, zq4, zq5, zq6]
          refine wpAnyH_done (by kernel_rfl) ?_ _
          have HQz := hidden (grow_trans Hb12.out (grow_trans hbw hHeld))
          go_wp2_with fail
          go_ret
          exact ⟨by rw [HBAD.out]; rfl, HQz.out⟩

    · obtain rfl : k = n := by omega
      have z1 : ¬ (k : Int) < (k : Int) := by omega
      have HTR : Hid (b = true) := HGD.out (fun i hi => hgs i (by have := HnE.out; omega))
      go_wp2_with fail
      go_ret
      exact ⟨by rw [HTR.out]; rfl, grow_trans Hb12.out hbw⟩

end Go.Proofs.YtbkolhhgajkjjaaGreatDoor

namespace Go.Proofs.YtbkolhhgajkjjaaGreatDoor
set_option maxRecDepth 20000
open Go.RowKit

set_option maxHeartbeats 16000000 in
theorem rfits_12 {w : World} {g d : Nat} {l r : Int} {X Y Z : List Value} {dl dr : Int} {A C es : List Ent} {n1 n2 : Nat} {b : Bool} {dpl dpr : Nat} (F : FitH w g d l r X Y Z 1 2 dl dr A C es n1 n2 b dpl dpr) (hd : d < 256) (ql : (l == 0) = false) (qr : (r == 0) = false) (ll : n1 = 1) (lr : 2 ≤ n2) : Calls Tryz.prog 79 #[.pointer (some ⟨g, 0, none⟩), .int .i64 (d : Int), .int .i64 l, .int .i64 r] w fun e w' => e = .returned (.bool b) ∧ Below w.heap.size w w' := by
  have HEl := hidden F.HEl
  have HEr := hidden F.HEr
  have HAl := hidden F.HAl
  have HAr := hidden F.HAr
  have HLX := hidden F.HLX
  have HLY := hidden F.HLY
  have HZ := hidden F.HZ
  have HZX := hidden F.HZX
  have HZY := hidden F.HZY
  have H1X := hidden F.H1X
  have H1Y := hidden F.H1Y
  have HX0 := hidden F.HX0
  have HX1 := hidden F.HX1
  have HY0 := hidden F.HY0
  have HY1 := hidden F.HY1
  have HES := hidden F.HES
  have hdl := F.hdl
  have hdr := F.hdr
  have hle := F.hle
  have fl := F.fl
  have fr' := F.fr
  have hfit := F.hfit
  clear F
  by_cases xr : dr = (d : Int) + 1
  · subst xr
    have HGD : Hid ((∀ i, i < es.length → Good7 d n1 es i) → b = true) := fun hg => hfit.2 ⟨by omega, fun e => by omega, fun e => by omega, hg⟩
    have HBD : Hid (∀ i, i < es.length → ¬ Good7 d n1 es i → b = false) := fun i hi hn => by
      rw [← Bool.not_eq_true]
      intro hbt
      exact hn ((hfit.1 hbt).2.2.2 i hi)
    have hp2 : 2 ≤ n1 + n2 := by omega
    clear hfit ll lr
    go_enter Tryz.func79, Tryz.ntmps79
    go_wp2_with (first
            | (go_at_call 84; first | (refine (HAr.out _ Hb1.out).mono ?_; rintro e w2 ⟨rfl, b2⟩; have Hb2 := hidden (grow_trans Hb1.out b2); clear b2) | (refine (HAl.out _ (Below.refl _ _)).mono ?_; rintro e w1 ⟨rfl, b1⟩; have Hb1 := hidden b1; clear b1))
            | ((with_reducible refine at_ald 9 ?_); refine wpList_al _ rfl _ rfl _ HZ.out ?_; intro w3 b9 hg9 hl9 B9 b3; have HB9 := hidden B9; have Hb3 := hidden (grow_trans Hb2.out b3); have Hg9 : Hid (w.heap.size ≤ b9) := Nat.le_trans Hb2.out.size hg9; clear B9 hg9 hl9 b3)
            | ((with_reducible refine at_ald 10 ?_); refine wpList_al _ rfl _ rfl _ HZ.out ?_; intro w4 b10 hg10 hl10 B10 b4; have HB9a := hidden (HB9.out.grow b4); have HB10 := hidden B10; have Hb4 := hidden (grow_trans Hb3.out b4); have hne : b9 ≠ b10 := (by have := HB9.out.lt; omega); have Hg10 : Hid (w.heap.size ≤ b10) := Nat.le_trans Hb3.out.size hg10; clear B10 hg10 hl10 b4)
            | ((with_reducible refine at_st 9 ?_); refine wpList_sto _ rfl _ _ _ rfl b9 _ X.toArray rfl rfl HB9a.out HLX.out HZX.out (all_oneCell_toArray H1X.out) ?_; intro w5 B9b r5; have HB9b := hidden B9b; have HB10b := hidden (HB10.out.kept r5 (Ne.symm hne)); have Hb5 := hidden (below_row Hb4.out r5 Hg9.out); clear B9b r5)
            | ((with_reducible refine at_st 10 ?_); refine wpList_sto _ rfl _ _ _ rfl b10 _ Y.toArray rfl rfl HB10b.out HLY.out HZY.out (all_oneCell_toArray H1Y.out) ?_; intro w6 B10c r6; have HB9c := HB9b.out.kept r6 hne; have Hb6 := hidden (below_row Hb5.out r6 Hg10.out); have c90 := HB9c.cell 0; have c91 := HB9c.cell 1; have c100 := B10c.cell 0; have c101 := B10c.cell 1; rw [List.getElem?_toArray, HX0.out] at c90; rw [List.getElem?_toArray, HX1.out] at c91; rw [List.getElem?_toArray, HY0.out] at c100; rw [List.getElem?_toArray, HY1.out] at c101; clear B10c r6 HB9c)
            | (go_at_call 135; first | (refine (HEr.out _ Hb7.out).mono ?_; rintro e w8 ⟨a2, c2, its2, rfl, m2, hl2, p2, o2, q2⟩; have O1b := hidden (owR_grow O1.out q2); have O2 := hidden o2; have P2 := hidden p2; have M2 := hidden m2; have Hb8 := hidden (grow_trans Hb7.out q2); have HL2 := hidden hl2; clear o2 p2 m2 q2 hl2) | (refine (HEl.out _ Hb6.out).mono ?_; rintro e w7 ⟨a1, c1, its1, rfl, m1, hl1, p1, o1, q1⟩; have O1 := hidden o1; have P1 := hidden p1; have M1 := hidden m1; have Hb7 := hidden (grow_trans Hb6.out q1); have HL1 := hidden hl1; clear o1 p1 m1 q1 hl1))
            | (refine wpList_bs0 _ rfl rfl ?_; intro w10 b0 hg0 o0 q0; have O0 : Hid (w10.ownsRow w.heap.size 114 33 (.slice (some ⟨b0, 0, none⟩) 0 0) 0 []) := owR_base o0 Hb8.out.size; have O1c := hidden (owR_grow O1b.out q0); have O2b := hidden (owR_grow O2.out q0); have Hb10 := hidden (grow_trans Hb8.out q0); have Hg0 : Hid (w8.heap.size ≤ b0) := hg0; clear o0 q0 hg0)
            | (at_builtin; refine wpList_appPs _ rfl _ _ rfl w.heap.size w7.heap.size v8 (.slice a2 n2 c2) (0 + n1) n2 _ _ rfl rfl O3.out O2c.out (flatP_one7 P2.out) (by omega) Hb11.out.size ?_; intro v9 w12 o9 g9; obtain ⟨a9, c9, rfl⟩ := lst_slice (owR_lst o9); have O9 := hidden o9; have Hb12 := hidden (owR_below Hb11.out O3.out (Nat.le_refl _) g9); clear o9 g9)
            | (at_builtin; refine wpList_appPs _ rfl _ _ rfl w.heap.size w6.heap.size (.slice (some ⟨b0, 0, none⟩) 0 0) (.slice a1 n1 c1) 0 n1 _ _ rfl rfl O0.out O1c.out (flatP_one7 P1.out) (by omega) Hb10.out.size ?_; intro v8 w11 o8 g8; have O3 := hidden o8; have O2c : Hid (w11.ownsRow w7.heap.size 114 33 (.slice a2 n2 c2) n2 (flatP its2)) := owR_grown O2b.out g8 (fun k e1 e2 => Nat.lt_irrefl _ (Nat.lt_of_lt_of_le (O2.out.lt k e1).2 (by have : b0 = k := (by simpa [Value.ownBlock] using e2); rw [← this]; exact Hg0.out))); have Hb11 := hidden (owR_below Hb10.out O0.out (Nat.le_refl _) g8); clear o8 g8))
    obtain ⟨its, hits⟩ : ∃ its, its = its1 ++ its2 := ⟨_, rfl⟩
    have O10 : w12.ownsRow w.heap.size 114 33 (.slice a9 (0 + n1 + n2) c9) (0 + n1 + n2) ([] ++ flatP its1 ++ flatP its2) := O9.out
    have hnn : 0 + n1 + n2 = its.length := by rw [hits, List.length_append, HL1.out, HL2.out, Nat.zero_add]
    rw [List.nil_append, show flatP its1 ++ flatP its2 = flatP its by rw [hits]; simp [flatP], hnn] at O10
    have hmi : its.map (·.1) = es := by rw [hits, List.map_append, M1.out, M2.out, HES.out]
    have hPi : ∀ p ∈ its, Key p.1.1 ∧ Reads w p.2 p.1.2 := fun p hp => by
      rw [hits] at hp
      rcases List.mem_append.1 hp with hp | hp
      · exact P1.out p hp
      · exact P2.out p hp
    have hpr := prAt_own O10 (fun p hp => (hPi p hp).1) (fun p hp => (hPi p hp).2.grow Hb12.out)
    rw [hmi] at hpr
    have hil : its.length = es.length := by rw [← hmi, List.length_map]
    obtain ⟨a', c', he', _, hrr, hkk⟩ := hpr
    obtain ⟨ge, off, ea, hr9⟩ := hrr (by omega)
    injection he' with e1 e2 e3
    subst e3
    rw [ea] at e1
    subst e1
    clear e2
    have HRA : Hid (∀ (i : Nat) w', i < es.length → Below w12.heap.size w12 w' → w'.rangeAt ge (off + i * 33) (B (es.getD i e00).1).toList ∧ Key (es.getD i e00).1) := fun i w' hi hb => ⟨rng_grow (rng_key (hr9 i hi)) hb, (hkk i hi).1⟩
    obtain ⟨n, hn⟩ : ∃ n, n = n1 + n2 := ⟨_, rfl⟩
    have hn2 : 0 + n1 + n2 = n := by omega
    have HnE : Hid (n = es.length) := by show _ = _; omega
    have hn3 : n1 + n2 = n := by omega
    first | simp only [hn2] | simp only [hn3]
    have hpos : 0 < n := by omega
    have hn120 : n ≤ 10000 := by omega
    clear O10 hPi hrr hkk hr9 O9 O3 O2c O2b O2 O1 O1b O1c O0 P1 P2 M1 M2 hits hmi hil hn2 hn3 hn hnn hle HL1 HL2 c90 c91 c100 c101
    go_loopw [14] (fun i wr => ∃ (k : Nat), k ≤ n ∧ i = .int .i64 k ∧ (∀ i, i < k → Good7 d n1 es i) ∧ Below w12.heap.size w12 wr) (fun i _ => n - (intOf i).toNat)
    case atStart => exact ⟨0, by omega, rfl, fun i hi => by omega, Below.refl _ _⟩
    case round =>
      obtain ⟨k, hk, rfl, hgs, hbw⟩ := hrel
      by_cases hlt : k < n
      · have z1 : (k : Int) < (n : Int) := by omega
        have z0 : (0 : Int) ≤ (k : Int) := by omega
        have z2 : (0 : Int) < (n : Int) := by omega
        obtain ⟨_, hK1⟩ := HRA.out k w12 (by have := HnE.out; omega) (Below.refl _ _)
        obtain ⟨_, hK0⟩ := HRA.out 0 w12 (by have := HnE.out; omega) (Below.refl _ _)
        have HRk : Hid (∀ w', Below wr.heap.size wr w' → w'.rangeAt ge (off + k * 33) (B (es.getD k e00).1).toList) := fun w' hb => (HRA.out k w' (by have := HnE.out; omega) (grow_trans hbw hb)).1
        have HR0 : Hid (∀ w', Below wr.heap.size wr w' → w'.rangeAt ge off (B (es.getD 0 e00).1).toList) := fun w' hb => by
          have := (HRA.out 0 w' (by have := HnE.out; omega) (grow_trans hbw hb)).1
          rwa [Nat.zero_mul, Nat.add_zero] at this
        have HPLk : Hid ((Tryz.prog.info? 31).map (·.size) = some (B (es.getD k e00).1).toList.length) := by show _ = _; rw [B_toList, List.length_map, hK1.1]; exact sz_path
        have HPL0 : Hid ((Tryz.prog.info? 31).map (·.size) = some (B (es.getD 0 e00).1).toList.length) := by show _ = _; rw [B_toList, List.length_map, hK0.1]; exact sz_path
        obtain ⟨K1, hK1e⟩ : ∃ K, K = (es.getD k e00).1 := ⟨_, rfl⟩
        obtain ⟨K0, hK0e⟩ : ∃ K, K = (es.getD 0 e00).1 := ⟨_, rfl⟩
        rw [← hK1e] at HRk HPLk hK1
        rw [← hK0e] at HR0 HPL0 hK0
        have HKe := hidden hK1e.symm
        have HK0e := hidden hK0e.symm
        obtain ⟨c, hc⟩ := common_ex K1 K0
        have HIC := hidden hc
        have HBit : Hid (∀ w', Calls Tryz.prog 122 #[.agg (B K1), .int .i64 (d : Int)] w' fun e w'' => e = .returned (.int .i64 (kb K1 d)) ∧ Below w'.heap.size w' w'') := fun w' => by
          have := rbit_any K1 d w' hK1
          rwa [kbi_in _ _ hd] at this
        have HCom : Hid (∀ w', Calls Tryz.prog 116 #[.agg (B K1), .agg (B K0)] w' fun e w'' => e = .returned (.int .i64 (c : Int)) ∧ Below w'.heap.size w' w'') := fun w' => rcommon_at K1 K0 c w' hK1 hK0 hc
        clear hK1e hK0e hc
        by_cases hb1 : k < n1
        · have y1 : (k : Int) < (n1 : Int) := by omega
          have hbit : (if k < n1 then (0 : Int) else 1) = 0 := if_pos hb1
          by_cases hkb : kb K1 d = 0
          · rw [hkb] at HBit
            by_cases hcd : c < d
            · have hcd2 : (c : Int) < (d : Int) := by omega
              have HBAD : Hid (b = false) := HBD.out k (by have := HnE.out; omega) (fun hg => by have h2 := hg.2; rw [HKe.out, HK0e.out] at h2; have := (und_common HIC.out (d : Int) (by omega) (by omega)).2 h2; omega)
              go_wp2_with fail
              refine wp_region_held_drew (S := fun w' => Below wr.heap.size wr w') (by kernel_rfl) (below_drewN (Below.refl _ _) 1) (fun hHeld => ?_)
              refine tkp 0 (.slice (some ⟨ge, off, none⟩) n c9) hHeld ?_
              simp only [Act.put, zq1, zq2, zq4, zq5, zq6]
              refine tkp 1 (.int .i64 (k : Int)) hHeld ?_
              simp only [Act.put, zq1, zq2, zq3, zq4, zq5, zq6]
              refine tkp 2 (.pointer (some ⟨ge, off + k * 33, none⟩)) hHeld ?_
              simp only [Act.put, zq1, zq2, zq3, zq4, zq5, zq6]
              refine tkp 3 (.pointer (some ⟨ge, off + k * 33, none⟩)) hHeld ?_
              simp only [Act.put, zq1, zq2, zq3, zq4, zq5, zq6]
              refine tkg 4 (.agg (B K1)) rfl (yieldsIf_load_mid rfl 31 (.tmp 92) rfl ge (off + k * 33) rfl (B K1).toList _ (fun w hS => HRk.out _ hS) Tryz.underlying31 rfl HPLk.out) hHeld ?_
              simp only [Act.put, zq1, zq2, zq3, zq4, zq5, zq6]
              refine tkp 5 (.int .i64 (d : Int)) hHeld ?_
              simp only [Act.put, zq1, zq2, zq3, zq4, zq5, zq6]
              refine tkp 7 (.int .i64 0) hHeld ?_
              simp only [Act.put, zq1, zq2, zq3, zq4, zq5, zq6]
              refine wpAnyH_ready (rs := [6]) (by kernel_rfl) (by simp) ?_
              refine AllReadyH.cons rfl (fun KQ hK => ?_) AllReadyH.nil
              go_simp
              refine (HBit.out _).mono ?_
              rintro e z1 ⟨rfl, a1⟩
              refine hK.out _ _ (grow_trans hHeld a1) (fun hHeld => ?_)
              clear hK KQ
              refine tkp 8 (.bool false) hHeld ?_
              simp only [Act.put, zq1, zq2, zq3, zq4, zq5, zq6]
              refine tkp 9 (.bool false) hHeld ?_
              simp only [Act.put, zq1, zq2, zq3, zq4, zq5, zq6]
              refine tkp 10 (.slice (some ⟨ge, off, none⟩) n c9) hHeld ?_
              simp only [Act.put, zq1, zq2, zq3, zq4, zq5, zq6]
              refine tkp 11 (.int .i64 (k : Int)) hHeld ?_
              simp only [Act.put, zq1, zq2, zq3, zq4, zq5, zq6]
              refine tkp 12 (.pointer (some ⟨ge, off + k * 33, none⟩)) hHeld ?_
              simp only [Act.put, zq1, zq2, zq3, zq4, zq5, zq6]
              refine tkp 13 (.pointer (some ⟨ge, off + k * 33, none⟩)) hHeld ?_
              simp only [Act.put, zq1, zq2, zq3, zq4, zq5, zq6]
              refine tkg 14 (.agg (B K1)) rfl (yieldsIf_load_mid rfl 31 (.tmp 102) rfl ge (off + k * 33) rfl (B K1).toList _ (fun w hS => HRk.out _ hS) Tryz.underlying31 rfl HPLk.out) hHeld ?_
              simp only [Act.put, zq1, zq2, zq3, zq4, zq5, zq6]
              refine tkp 15 (.slice (some ⟨ge, off, none⟩) n c9) hHeld ?_
              simp only [Act.put, zq1, zq2, zq3, zq4, zq5, zq6]
              refine tkp 16 (.pointer (some ⟨ge, off, none⟩)) hHeld ?_
              simp only [Act.put, zq1, zq2, zq3, zq4, zq5, zq6]
              refine tkp 17 (.pointer (some ⟨ge, off, none⟩)) hHeld ?_
              simp only [Act.put, zq1, zq2, zq3, zq4, zq5, zq6]
              refine tkg 18 (.agg (B K0)) rfl (yieldsIf_load_mid rfl 31 (.tmp 106) rfl ge (off) rfl (B K0).toList _ (fun w hS => HR0.out _ hS) Tryz.underlying31 rfl HPL0.out) hHeld ?_
              simp only [Act.put, zq1, zq2, zq3, zq4, zq5, zq6]
              refine tkp 20 (.int .i64 (d : Int)) hHeld ?_
              simp only [Act.put, zq1, zq2, zq3, zq4, zq5, zq6]
              refine wpAnyH_ready (rs := [19]) (by kernel_rfl) (by simp) ?_
              refine AllReadyH.cons rfl (fun KQ hK => ?_) AllReadyH.nil
              go_simp
              refine (HCom.out _).mono ?_
              rintro e z2 ⟨rfl, a2⟩
              refine hK.out _ _ (grow_trans hHeld a2) (fun hHeld => ?_)
              clear hK KQ
              refine tkp 21 (.bool true) hHeld ?_
              simp only [Act.put, zq1, zq2, zq3, zq4, zq5, zq6]
              refine tkp 22 (.bool true) hHeld ?_
              simp only [Act.put, zq1, zq2, zq3, zq4, zq5, zq6]
              refine wpAnyH_done (by kernel_rfl) ?_ _
              have HQz := hidden (grow_trans Hb12.out (grow_trans hbw hHeld))
              go_wp2_with fail
              go_ret
              exact ⟨by rw [HBAD.out]; rfl, HQz.out⟩
            · have hcd2 : ¬ (c : Int) < (d : Int) := by omega
              have HGS : Hid (∀ i, i < k + 1 → Good7 d n1 es i) := fun i hi => by
                by_cases hik : i < k
                · exact hgs i hik
                · obtain rfl : i = k := by omega
                  exact ⟨by rw [HKe.out, hbit]; exact hkb, by rw [HKe.out, HK0e.out]; exact (und_common HIC.out (d : Int) (by omega) (by omega)).1 (by omega)⟩
              go_wp2_with fail
              refine wp_region_held_drew (S := fun w' => Below wr.heap.size wr w') (by kernel_rfl) (below_drewN (Below.refl _ _) 1) (fun hHeld => ?_)
              refine tkp 0 (.slice (some ⟨ge, off, none⟩) n c9) hHeld ?_
              simp only [Act.put, zq1, zq2, zq4, zq5, zq6]
              refine tkp 1 (.int .i64 (k : Int)) hHeld ?_
              simp only [Act.put, zq1, zq2, zq3, zq4, zq5, zq6]
              refine tkp 2 (.pointer (some ⟨ge, off + k * 33, none⟩)) hHeld ?_
              simp only [Act.put, zq1, zq2, zq3, zq4, zq5, zq6]
              refine tkp 3 (.pointer (some ⟨ge, off + k * 33, none⟩)) hHeld ?_
              simp only [Act.put, zq1, zq2, zq3, zq4, zq5, zq6]
              refine tkg 4 (.agg (B K1)) rfl (yieldsIf_load_mid rfl 31 (.tmp 92) rfl ge (off + k * 33) rfl (B K1).toList _ (fun w hS => HRk.out _ hS) Tryz.underlying31 rfl HPLk.out) hHeld ?_
              simp only [Act.put, zq1, zq2, zq3, zq4, zq5, zq6]
              refine tkp 5 (.int .i64 (d : Int)) hHeld ?_
              simp only [Act.put, zq1, zq2, zq3, zq4, zq5, zq6]
              refine tkp 7 (.int .i64 0) hHeld ?_
              simp only [Act.put, zq1, zq2, zq3, zq4, zq5, zq6]
              refine wpAnyH_ready (rs := [6]) (by kernel_rfl) (by simp) ?_
              refine AllReadyH.cons rfl (fun KQ hK => ?_) AllReadyH.nil
              go_simp
              refine (HBit.out _).mono ?_
              rintro e z1 ⟨rfl, a1⟩
              refine hK.out _ _ (grow_trans hHeld a1) (fun hHeld => ?_)
              clear hK KQ
              refine tkp 8 (.bool false) hHeld ?_
              simp only [Act.put, zq1, zq2, zq3, zq4, zq5, zq6]
              refine tkp 9 (.bool false) hHeld ?_
              simp only [Act.put, zq1, zq2, zq3, zq4, zq5, zq6]
              refine tkp 10 (.slice (some ⟨ge, off, none⟩) n c9) hHeld ?_
              simp only [Act.put, zq1, zq2, zq3, zq4, zq5, zq6]
              refine tkp 11 (.int .i64 (k : Int)) hHeld ?_
              simp only [Act.put, zq1, zq2, zq3, zq4, zq5, zq6]
              refine tkp 12 (.pointer (some ⟨ge, off + k * 33, none⟩)) hHeld ?_
              simp only [Act.put, zq1, zq2, zq3, zq4, zq5, zq6]
              refine tkp 13 (.pointer (some ⟨ge, off + k * 33, none⟩)) hHeld ?_
              simp only [Act.put, zq1, zq2, zq3, zq4, zq5, zq6]
              refine tkg 14 (.agg (B K1)) rfl (yieldsIf_load_mid rfl 31 (.tmp 102) rfl ge (off + k * 33) rfl (B K1).toList _ (fun w hS => HRk.out _ hS) Tryz.underlying31 rfl HPLk.out) hHeld ?_
              simp only [Act.put, zq1, zq2, zq3, zq4, zq5, zq6]
              refine tkp 15 (.slice (some ⟨ge, off, none⟩) n c9) hHeld ?_
              simp only [Act.put, zq1, zq2, zq3, zq4, zq5, zq6]
              refine tkp 16 (.pointer (some ⟨ge, off, none⟩)) hHeld ?_
              simp only [Act.put, zq1, zq2, zq3, zq4, zq5, zq6]
              refine tkp 17 (.pointer (some ⟨ge, off, none⟩)) hHeld ?_
              simp only [Act.put, zq1, zq2, zq3, zq4, zq5, zq6]
              refine tkg 18 (.agg (B K0)) rfl (yieldsIf_load_mid rfl 31 (.tmp 106) rfl ge (off) rfl (B K0).toList _ (fun w hS => HR0.out _ hS) Tryz.underlying31 rfl HPL0.out) hHeld ?_
              simp only [Act.put, zq1, zq2, zq3, zq4, zq5, zq6]
              refine tkp 20 (.int .i64 (d : Int)) hHeld ?_
              simp only [Act.put, zq1, zq2, zq3, zq4, zq5, zq6]
              refine wpAnyH_ready (rs := [19]) (by kernel_rfl) (by simp) ?_
              refine AllReadyH.cons rfl (fun KQ hK => ?_) AllReadyH.nil
              go_simp
              refine (HCom.out _).mono ?_
              rintro e z2 ⟨rfl, a2⟩
              refine hK.out _ _ (grow_trans hHeld a2) (fun hHeld => ?_)
              clear hK KQ
              refine tkp 21 (.bool false) hHeld ?_
              simp only [Act.put, zq1, zq2, zq3, zq4, zq5, zq6]
              refine tkp 22 (.bool false) hHeld ?_
              simp only [Act.put, zq1, zq2, zq3, zq4, zq5, zq6]
              refine wpAnyH_done (by kernel_rfl) ?_ _
              have HQz := hidden (grow_trans hbw hHeld)
              go_wp2_with fail
              exact ⟨⟨k + 1, by omega, by go_num, HGS.out, HQz.out⟩, by simp [intOf]; omega⟩
          · have HBAD : Hid (b = false) := HBD.out k (by have := HnE.out; omega) (fun hg => hkb (by have := hg.1; rw [HKe.out, hbit] at this; exact this))
            go_wp2_with fail
            refine wp_region_held_drew (S := fun w' => Below wr.heap.size wr w') (by kernel_rfl) (below_drewN (Below.refl _ _) 1) (fun hHeld => ?_)
            refine tkp 0 (.slice (some ⟨ge, off, none⟩) n c9) hHeld ?_
            simp only [Act.put, zq1, zq2, zq4, zq5, zq6]
            refine tkp 1 (.int .i64 (k : Int)) hHeld ?_
            simp only [Act.put, zq1, zq2, zq3, zq4, zq5, zq6]
            refine tkp 2 (.pointer (some ⟨ge, off + k * 33, none⟩)) hHeld ?_
            simp only [Act.put, zq1, zq2, zq3, zq4, zq5, zq6]
            refine tkp 3 (.pointer (some ⟨ge, off + k * 33, none⟩)) hHeld ?_
            simp only [Act.put, zq1, zq2, zq3, zq4, zq5, zq6]
            refine tkg 4 (.agg (B K1)) rfl (yieldsIf_load_mid rfl 31 (.tmp 92) rfl ge (off + k * 33) rfl (B K1).toList _ (fun w hS => HRk.out _ hS) Tryz.underlying31 rfl HPLk.out) hHeld ?_
            simp only [Act.put, zq1, zq2, zq3, zq4, zq5, zq6]
            refine tkp 5 (.int .i64 (d : Int)) hHeld ?_
            simp only [Act.put, zq1, zq2, zq3, zq4, zq5, zq6]
            refine tkp 7 (.int .i64 0) hHeld ?_
            simp only [Act.put, zq1, zq2, zq3, zq4, zq5, zq6]
            refine wpAnyH_ready (rs := [6]) (by kernel_rfl) (by simp) ?_
            refine AllReadyH.cons rfl (fun KQ hK => ?_) AllReadyH.nil
            go_simp
            refine (HBit.out _).mono ?_
            rintro e z1 ⟨rfl, a1⟩
            refine hK.out _ _ (grow_trans hHeld a1) (fun hHeld => ?_)
            clear hK KQ
            refine tkp 8 (.bool true) hHeld ?_
            simp only [Act.put, zq1, zq2, zq3, zq4, zq5, zq6]
            refine tkp 9 (.bool true) hHeld ?_
            simp only [Act.put, zq1, zq2, zq3, zq4, zq5, zq6]
            refine tks 10 hHeld ?_
            simp only [Act.put, zq1, zq2, zq3, zq4, zq5, zq6]
            refine tks 11 hHeld ?_
            simp only [Act.put, zq1, zq2, zq3, zq4, zq5, zq6]
            refine tks 12 hHeld ?_
            simp only [Act.put, zq1, zq2, zq3, zq4, zq5, zq6]
            refine tks 13 hHeld ?_
            simp only [Act.put, zq1, zq2, zq3, zq4, zq5, zq6]
            refine tks 14 hHeld ?_
            simp only [Act.put, zq1, zq2, zq3, zq4, zq5, zq6]
            refine tks 15 hHeld ?_
            simp only [Act.put, zq1, zq2, zq3, zq4, zq5, zq6]
            refine tks 16 hHeld ?_
            simp only [Act.put, zq1, zq2, zq3, zq4, zq5, zq6]
            refine tks 17 hHeld ?_
            simp only [Act.put, zq1, zq2, zq3, zq4, zq5, zq6]
            refine tks 18 hHeld ?_
            simp only [Act.put, zq1, zq2, zq3, zq4, zq5, zq6]
            refine tks 19 hHeld ?_
            simp only [Act.put, zq1, zq2, zq3, zq4, zq5, zq6]
            refine tks 20 hHeld ?_
            simp only [Act.put, zq1, zq2, zq3, zq4, zq5, zq6]
            refine tks 21 hHeld ?_
            simp only [Act.put, zq1, zq2, zq3, zq4, zq5, zq6]
            refine tkp 22 (.bool true) hHeld ?_
            simp only [Act.put, zq1, zq2, zq3, zq4, zq5, zq6]
            refine wpAnyH_done (by kernel_rfl) ?_ _
            have HQz := hidden (grow_trans Hb12.out (grow_trans hbw hHeld))
            go_wp2_with fail
            go_ret
            exact ⟨by rw [HBAD.out]; rfl, HQz.out⟩
        · have y1 : (n1 : Int) ≤ (k : Int) := by omega
          have hbit : (if k < n1 then (0 : Int) else 1) = 1 := if_neg hb1
          by_cases hkb : kb K1 d = 1
          · rw [hkb] at HBit
            by_cases hcd : c < d
            · have hcd2 : (c : Int) < (d : Int) := by omega
              have HBAD : Hid (b = false) := HBD.out k (by have := HnE.out; omega) (fun hg => by have h2 := hg.2; rw [HKe.out, HK0e.out] at h2; have := (und_common HIC.out (d : Int) (by omega) (by omega)).2 h2; omega)
              go_wp2_with fail
              refine wp_region_held_drew (S := fun w' => Below wr.heap.size wr w') (by kernel_rfl) (below_drewN (Below.refl _ _) 1) (fun hHeld => ?_)
              refine tkp 0 (.slice (some ⟨ge, off, none⟩) n c9) hHeld ?_
              simp only [Act.put, zq1, zq2, zq4, zq5, zq6]
              refine tkp 1 (.int .i64 (k : Int)) hHeld ?_
              simp only [Act.put, zq1, zq2, zq3, zq4, zq5, zq6]
              refine tkp 2 (.pointer (some ⟨ge, off + k * 33, none⟩)) hHeld ?_
              simp only [Act.put, zq1, zq2, zq3, zq4, zq5, zq6]
              refine tkp 3 (.pointer (some ⟨ge, off + k * 33, none⟩)) hHeld ?_
              simp only [Act.put, zq1, zq2, zq3, zq4, zq5, zq6]
              refine tkg 4 (.agg (B K1)) rfl (yieldsIf_load_mid rfl 31 (.tmp 92) rfl ge (off + k * 33) rfl (B K1).toList _ (fun w hS => HRk.out _ hS) Tryz.underlying31 rfl HPLk.out) hHeld ?_
              simp only [Act.put, zq1, zq2, zq3, zq4, zq5, zq6]
              refine tkp 5 (.int .i64 (d : Int)) hHeld ?_
              simp only [Act.put, zq1, zq2, zq3, zq4, zq5, zq6]
              refine tkp 7 (.int .i64 1) hHeld ?_
              simp only [Act.put, zq1, zq2, zq3, zq4, zq5, zq6]
              refine wpAnyH_ready (rs := [6]) (by kernel_rfl) (by simp) ?_
              refine AllReadyH.cons rfl (fun KQ hK => ?_) AllReadyH.nil
              go_simp
              refine (HBit.out _).mono ?_
              rintro e z1 ⟨rfl, a1⟩
              refine hK.out _ _ (grow_trans hHeld a1) (fun hHeld => ?_)
              clear hK KQ
              refine tkp 8 (.bool false) hHeld ?_
              simp only [Act.put, zq1, zq2, zq3, zq4, zq5, zq6]
              refine tkp 9 (.bool false) hHeld ?_
              simp only [Act.put, zq1, zq2, zq3, zq4, zq5, zq6]
              refine tkp 10 (.slice (some ⟨ge, off, none⟩) n c9) hHeld ?_
              simp only [Act.put, zq1, zq2, zq3, zq4, zq5, zq6]
              refine tkp 11 (.int .i64 (k : Int)) hHeld ?_
              simp only [Act.put, zq1, zq2, zq3, zq4, zq5, zq6]
              refine tkp 12 (.pointer (some ⟨ge, off + k * 33, none⟩)) hHeld ?_
              simp only [Act.put, zq1, zq2, zq3, zq4, zq5, zq6]
              refine tkp 13 (.pointer (some ⟨ge, off + k * 33, none⟩)) hHeld ?_
              simp only [Act.put, zq1, zq2, zq3, zq4, zq5, zq6]
              refine tkg 14 (.agg (B K1)) rfl (yieldsIf_load_mid rfl 31 (.tmp 102) rfl ge (off + k * 33) rfl (B K1).toList _ (fun w hS => HRk.out _ hS) Tryz.underlying31 rfl HPLk.out) hHeld ?_
              simp only [Act.put, zq1, zq2, zq3, zq4, zq5, zq6]
              refine tkp 15 (.slice (some ⟨ge, off, none⟩) n c9) hHeld ?_
              simp only [Act.put, zq1, zq2, zq3, zq4, zq5, zq6]
              refine tkp 16 (.pointer (some ⟨ge, off, none⟩)) hHeld ?_
              simp only [Act.put, zq1, zq2, zq3, zq4, zq5, zq6]
              refine tkp 17 (.pointer (some ⟨ge, off, none⟩)) hHeld ?_
              simp only [Act.put, zq1, zq2, zq3, zq4, zq5, zq6]
              refine tkg 18 (.agg (B K0)) rfl (yieldsIf_load_mid rfl 31 (.tmp 106) rfl ge (off) rfl (B K0).toList _ (fun w hS => HR0.out _ hS) Tryz.underlying31 rfl HPL0.out) hHeld ?_
              simp only [Act.put, zq1, zq2, zq3, zq4, zq5, zq6]
              refine tkp 20 (.int .i64 (d : Int)) hHeld ?_
              simp only [Act.put, zq1, zq2, zq3, zq4, zq5, zq6]
              refine wpAnyH_ready (rs := [19]) (by kernel_rfl) (by simp) ?_
              refine AllReadyH.cons rfl (fun KQ hK => ?_) AllReadyH.nil
              go_simp
              refine (HCom.out _).mono ?_
              rintro e z2 ⟨rfl, a2⟩
              refine hK.out _ _ (grow_trans hHeld a2) (fun hHeld => ?_)
              clear hK KQ
              refine tkp 21 (.bool true) hHeld ?_
              simp only [Act.put, zq1, zq2, zq3, zq4, zq5, zq6]
              refine tkp 22 (.bool true) hHeld ?_
              simp only [Act.put, zq1, zq2, zq3, zq4, zq5, zq6]
              refine wpAnyH_done (by kernel_rfl) ?_ _
              have HQz := hidden (grow_trans Hb12.out (grow_trans hbw hHeld))
              go_wp2_with fail
              go_ret
              exact ⟨by rw [HBAD.out]; rfl, HQz.out⟩
            · have hcd2 : ¬ (c : Int) < (d : Int) := by omega
              have HGS : Hid (∀ i, i < k + 1 → Good7 d n1 es i) := fun i hi => by
                by_cases hik : i < k
                · exact hgs i hik
                · obtain rfl : i = k := by omega
                  exact ⟨by rw [HKe.out, hbit]; exact hkb, by rw [HKe.out, HK0e.out]; exact (und_common HIC.out (d : Int) (by omega) (by omega)).1 (by omega)⟩
              go_wp2_with fail
              refine wp_region_held_drew (S := fun w' => Below wr.heap.size wr w') (by kernel_rfl) (below_drewN (Below.refl _ _) 1) (fun hHeld => ?_)
              refine tkp 0 (.slice (some ⟨ge, off, none⟩) n c9) hHeld ?_
              simp only [Act.put, zq1, zq2, zq4, zq5, zq6]
              refine tkp 1 (.int .i64 (k : Int)) hHeld ?_
              simp only [Act.put, zq1, zq2, zq3, zq4, zq5, zq6]
              refine tkp 2 (.pointer (some ⟨ge, off + k * 33, none⟩)) hHeld ?_
              simp only [Act.put, zq1, zq2, zq3, zq4, zq5, zq6]
              refine tkp 3 (.pointer (some ⟨ge, off + k * 33, none⟩)) hHeld ?_
              simp only [Act.put, zq1, zq2, zq3, zq4, zq5, zq6]
              refine tkg 4 (.agg (B K1)) rfl (yieldsIf_load_mid rfl 31 (.tmp 92) rfl ge (off + k * 33) rfl (B K1).toList _ (fun w hS => HRk.out _ hS) Tryz.underlying31 rfl HPLk.out) hHeld ?_
              simp only [Act.put, zq1, zq2, zq3, zq4, zq5, zq6]
              refine tkp 5 (.int .i64 (d : Int)) hHeld ?_
              simp only [Act.put, zq1, zq2, zq3, zq4, zq5, zq6]
              refine tkp 7 (.int .i64 1) hHeld ?_
              simp only [Act.put, zq1, zq2, zq3, zq4, zq5, zq6]
              refine wpAnyH_ready (rs := [6]) (by kernel_rfl) (by simp) ?_
              refine AllReadyH.cons rfl (fun KQ hK => ?_) AllReadyH.nil
              go_simp
              refine (HBit.out _).mono ?_
              rintro e z1 ⟨rfl, a1⟩
              refine hK.out _ _ (grow_trans hHeld a1) (fun hHeld => ?_)
              clear hK KQ
              refine tkp 8 (.bool false) hHeld ?_
              simp only [Act.put, zq1, zq2, zq3, zq4, zq5, zq6]
              refine tkp 9 (.bool false) hHeld ?_
              simp only [Act.put, zq1, zq2, zq3, zq4, zq5, zq6]
              refine tkp 10 (.slice (some ⟨ge, off, none⟩) n c9) hHeld ?_
              simp only [Act.put, zq1, zq2, zq3, zq4, zq5, zq6]
              refine tkp 11 (.int .i64 (k : Int)) hHeld ?_
              simp only [Act.put, zq1, zq2, zq3, zq4, zq5, zq6]
              refine tkp 12 (.pointer (some ⟨ge, off + k * 33, none⟩)) hHeld ?_
              simp only [Act.put, zq1, zq2, zq3, zq4, zq5, zq6]
              refine tkp 13 (.pointer (some ⟨ge, off + k * 33, none⟩)) hHeld ?_
              simp only [Act.put, zq1, zq2, zq3, zq4, zq5, zq6]
              refine tkg 14 (.agg (B K1)) rfl (yieldsIf_load_mid rfl 31 (.tmp 102) rfl ge (off + k * 33) rfl (B K1).toList _ (fun w hS => HRk.out _ hS) Tryz.underlying31 rfl HPLk.out) hHeld ?_
              simp only [Act.put, zq1, zq2, zq3, zq4, zq5, zq6]
              refine tkp 15 (.slice (some ⟨ge, off, none⟩) n c9) hHeld ?_
              simp only [Act.put, zq1, zq2, zq3, zq4, zq5, zq6]
              refine tkp 16 (.pointer (some ⟨ge, off, none⟩)) hHeld ?_
              simp only [Act.put, zq1, zq2, zq3, zq4, zq5, zq6]
              refine tkp 17 (.pointer (some ⟨ge, off, none⟩)) hHeld ?_
              simp only [Act.put, zq1, zq2, zq3, zq4, zq5, zq6]
              refine tkg 18 (.agg (B K0)) rfl (yieldsIf_load_mid rfl 31 (.tmp 106) rfl ge (off) rfl (B K0).toList _ (fun w hS => HR0.out _ hS) Tryz.underlying31 rfl HPL0.out) hHeld ?_
              simp only [Act.put, zq1, zq2, zq3, zq4, zq5, zq6]
              refine tkp 20 (.int .i64 (d : Int)) hHeld ?_
              simp only [Act.put, zq1, zq2, zq3, zq4, zq5, zq6]
              refine wpAnyH_ready (rs := [19]) (by kernel_rfl) (by simp) ?_
              refine AllReadyH.cons rfl (fun KQ hK => ?_) AllReadyH.nil
              go_simp
              refine (HCom.out _).mono ?_
              rintro e z2 ⟨rfl, a2⟩
              refine hK.out _ _ (grow_trans hHeld a2) (fun hHeld => ?_)
              clear hK KQ
              refine tkp 21 (.bool false) hHeld ?_
              simp only [Act.put, zq1, zq2, zq3, zq4, zq5, zq6]
              refine tkp 22 (.bool false) hHeld ?_
              simp only [Act.put, zq1, zq2, zq3, zq4, zq5, zq6]
              refine wpAnyH_done (by kernel_rfl) ?_ _
              have HQz := hidden (grow_trans hbw hHeld)
              go_wp2_with fail
              exact ⟨⟨k + 1, by omega, by go_num, HGS.out, HQz.out⟩, by simp [intOf]; omega⟩
          · have HBAD : Hid (b = false) := HBD.out k (by have := HnE.out; omega) (fun hg => hkb (by have := hg.1; rw [HKe.out, hbit] at this; exact this))
            go_wp2_with fail
            refine wp_region_held_drew (S := fun w' => Below wr.heap.size wr w') (by kernel_rfl) (below_drewN (Below.refl _ _) 1) (fun hHeld => ?_)
            refine tkp 0 (.slice (some ⟨ge, off, none⟩) n c9) hHeld ?_
            simp only [Act.put, zq1, zq2, zq4, zq5, zq6]
            refine tkp 1 (.int .i64 (k : Int)) hHeld ?_
            simp only [Act.put, zq1, zq2, zq3, zq4, zq5, zq6]
            refine tkp 2 (.pointer (some ⟨ge, off + k * 33, none⟩)) hHeld ?_
            simp only [Act.put, zq1, zq2, zq3, zq4, zq5, zq6]
            refine tkp 3 (.pointer (some ⟨ge, off + k * 33, none⟩)) hHeld ?_
            simp only [Act.put, zq1, zq2, zq3, zq4, zq5, zq6]
            refine tkg 4 (.agg (B K1)) rfl (yieldsIf_load_mid rfl 31 (.tmp 92) rfl ge (off + k * 33) rfl (B K1).toList _ (fun w hS => HRk.out _ hS) Tryz.underlying31 rfl HPLk.out) hHeld ?_
            simp only [Act.put, zq1, zq2, zq3, zq4, zq5, zq6]
            refine tkp 5 (.int .i64 (d : Int)) hHeld ?_
            simp only [Act.put, zq1, zq2, zq3, zq4, zq5, zq6]
            refine tkp 7 (.int .i64 1) hHeld ?_
            simp only [Act.put, zq1, zq2, zq3, zq4, zq5, zq6]
            refine wpAnyH_ready (rs := [6]) (by kernel_rfl) (by simp) ?_
            refine AllReadyH.cons rfl (fun KQ hK => ?_) AllReadyH.nil
            go_simp
            refine (HBit.out _).mono ?_
            rintro e z1 ⟨rfl, a1⟩
            refine hK.out _ _ (grow_trans hHeld a1) (fun hHeld => ?_)
            clear hK KQ
            refine tkp 8 (.bool true) hHeld ?_
            simp only [Act.put, zq1, zq2, zq3, zq4, zq5, zq6]
            refine tkp 9 (.bool true) hHeld ?_
            simp only [Act.put, zq1, zq2, zq3, zq4, zq5, zq6]
            refine tks 10 hHeld ?_
            simp only [Act.put, zq1, zq2, zq3, zq4, zq5, zq6]
            refine tks 11 hHeld ?_
            simp only [Act.put, zq1, zq2, zq3, zq4, zq5, zq6]
            refine tks 12 hHeld ?_
            simp only [Act.put, zq1, zq2, zq3, zq4, zq5, zq6]
            refine tks 13 hHeld ?_
            simp only [Act.put, zq1, zq2, zq3, zq4, zq5, zq6]
            refine tks 14 hHeld ?_
            simp only [Act.put, zq1, zq2, zq3, zq4, zq5, zq6]
            refine tks 15 hHeld ?_
            simp only [Act.put, zq1, zq2, zq3, zq4, zq5, zq6]
            refine tks 16 hHeld ?_
            simp only [Act.put, zq1, zq2, zq3, zq4, zq5, zq6]
            refine tks 17 hHeld ?_
            simp only [Act.put, zq1, zq2, zq3, zq4, zq5, zq6]
            refine tks 18 hHeld ?_
            simp only [Act.put, zq1, zq2, zq3, zq4, zq5, zq6]
            refine tks 19 hHeld ?_
            simp only [Act.put, zq1, zq2, zq3, zq4, zq5, zq6]
            refine tks 20 hHeld ?_
            simp only [Act.put, zq1, zq2, zq3, zq4, zq5, zq6]
            refine tks 21 hHeld ?_
            simp only [Act.put, zq1, zq2, zq3, zq4, zq5, zq6]
            refine tkp 22 (.bool true) hHeld ?_
            simp only [Act.put, zq1, zq2, zq3, zq4, zq5, zq6]
            refine wpAnyH_done (by kernel_rfl) ?_ _
            have HQz := hidden (grow_trans Hb12.out (grow_trans hbw hHeld))
            go_wp2_with fail
            go_ret
            exact ⟨by rw [HBAD.out]; rfl, HQz.out⟩

      · obtain rfl : k = n := by omega
        have z1 : ¬ (k : Int) < (k : Int) := by omega
        have HTR : Hid (b = true) := HGD.out (fun i hi => hgs i (by have := HnE.out; omega))
        go_wp2_with fail
        go_ret
        exact ⟨by rw [HTR.out]; rfl, grow_trans Hb12.out hbw⟩
  · have xr2 : (dr == (d : Int) + 1) = false := by simp [xr]
    have HF : Hid (b = false) := by
      show b = false
      rw [← Bool.not_eq_true]
      intro hbt
      obtain ⟨_, f1, f2, _⟩ := hfit.1 hbt
      have := f2 rfl
      omega
    clear hfit HEl HEr
    have hbf := HF.out
    subst hbf
    go_enter Tryz.func79, Tryz.ntmps79
    go_wp2_with (first
            | (go_at_call 84; first | (refine (HAr.out _ Hb1.out).mono ?_; rintro e w2 ⟨rfl, b2⟩; have Hb2 := hidden (grow_trans Hb1.out b2); clear b2) | (refine (HAl.out _ (Below.refl _ _)).mono ?_; rintro e w1 ⟨rfl, b1⟩; have Hb1 := hidden b1; clear b1))
            | ((with_reducible refine at_ald 9 ?_); refine wpList_al _ rfl _ rfl _ HZ.out ?_; intro w3 b9 hg9 hl9 B9 b3; have HB9 := hidden B9; have Hb3 := hidden (grow_trans Hb2.out b3); have Hg9 : Hid (w.heap.size ≤ b9) := Nat.le_trans Hb2.out.size hg9; clear B9 hg9 hl9 b3)
            | ((with_reducible refine at_ald 10 ?_); refine wpList_al _ rfl _ rfl _ HZ.out ?_; intro w4 b10 hg10 hl10 B10 b4; have HB9a := hidden (HB9.out.grow b4); have HB10 := hidden B10; have Hb4 := hidden (grow_trans Hb3.out b4); have hne : b9 ≠ b10 := (by have := HB9.out.lt; omega); have Hg10 : Hid (w.heap.size ≤ b10) := Nat.le_trans Hb3.out.size hg10; clear B10 hg10 hl10 b4)
            | ((with_reducible refine at_st 9 ?_); refine wpList_sto _ rfl _ _ _ rfl b9 _ X.toArray rfl rfl HB9a.out HLX.out HZX.out (all_oneCell_toArray H1X.out) ?_; intro w5 B9b r5; have HB9b := hidden B9b; have HB10b := hidden (HB10.out.kept r5 (Ne.symm hne)); have Hb5 := hidden (below_row Hb4.out r5 Hg9.out); clear B9b r5)
            | ((with_reducible refine at_st 10 ?_); refine wpList_sto _ rfl _ _ _ rfl b10 _ Y.toArray rfl rfl HB10b.out HLY.out HZY.out (all_oneCell_toArray H1Y.out) ?_; intro w6 B10c r6; have HB9c := HB9b.out.kept r6 hne; have Hb6 := hidden (below_row Hb5.out r6 Hg10.out); have c90 := HB9c.cell 0; have c91 := HB9c.cell 1; have c100 := B10c.cell 0; have c101 := B10c.cell 1; rw [List.getElem?_toArray, HX0.out] at c90; rw [List.getElem?_toArray, HX1.out] at c91; rw [List.getElem?_toArray, HY0.out] at c100; rw [List.getElem?_toArray, HY1.out] at c101; clear B10c r6 HB9c)
            | (go_at_call 135; first | (refine (HEr.out _ Hb7.out).mono ?_; rintro e w8 ⟨a2, c2, its2, rfl, m2, hl2, p2, o2, q2⟩; have O1b := hidden (owR_grow O1.out q2); have O2 := hidden o2; have P2 := hidden p2; have M2 := hidden m2; have Hb8 := hidden (grow_trans Hb7.out q2); have HL2 := hidden hl2; clear o2 p2 m2 q2 hl2) | (refine (HEl.out _ Hb6.out).mono ?_; rintro e w7 ⟨a1, c1, its1, rfl, m1, hl1, p1, o1, q1⟩; have O1 := hidden o1; have P1 := hidden p1; have M1 := hidden m1; have Hb7 := hidden (grow_trans Hb6.out q1); have HL1 := hidden hl1; clear o1 p1 m1 q1 hl1))
            | (refine wpList_bs0 _ rfl rfl ?_; intro w10 b0 hg0 o0 q0; have O0 : Hid (w10.ownsRow w.heap.size 114 33 (.slice (some ⟨b0, 0, none⟩) 0 0) 0 []) := owR_base o0 Hb8.out.size; have O1c := hidden (owR_grow O1b.out q0); have O2b := hidden (owR_grow O2.out q0); have Hb10 := hidden (grow_trans Hb8.out q0); have Hg0 : Hid (w8.heap.size ≤ b0) := hg0; clear o0 q0 hg0)
            | (at_builtin; refine wpList_appPs _ rfl _ _ rfl w.heap.size w7.heap.size v8 (.slice a2 n2 c2) (0 + n1) n2 _ _ rfl rfl O3.out O2c.out (flatP_one7 P2.out) (by omega) Hb11.out.size ?_; intro v9 w12 o9 g9; obtain ⟨a9, c9, rfl⟩ := lst_slice (owR_lst o9); have O9 := hidden o9; have Hb12 := hidden (owR_below Hb11.out O3.out (Nat.le_refl _) g9); clear o9 g9)
            | (at_builtin; refine wpList_appPs _ rfl _ _ rfl w.heap.size w6.heap.size (.slice (some ⟨b0, 0, none⟩) 0 0) (.slice a1 n1 c1) 0 n1 _ _ rfl rfl O0.out O1c.out (flatP_one7 P1.out) (by omega) Hb10.out.size ?_; intro v8 w11 o8 g8; have O3 := hidden o8; have O2c : Hid (w11.ownsRow w7.heap.size 114 33 (.slice a2 n2 c2) n2 (flatP its2)) := owR_grown O2b.out g8 (fun k e1 e2 => Nat.lt_irrefl _ (Nat.lt_of_lt_of_le (O2.out.lt k e1).2 (by have : b0 = k := (by simpa [Value.ownBlock] using e2); rw [← this]; exact Hg0.out))); have Hb11 := hidden (owR_below Hb10.out O0.out (Nat.le_refl _) g8); clear o8 g8))
    go_ret
    exact ⟨rfl, Hb6.out⟩

end Go.Proofs.YtbkolhhgajkjjaaGreatDoor
