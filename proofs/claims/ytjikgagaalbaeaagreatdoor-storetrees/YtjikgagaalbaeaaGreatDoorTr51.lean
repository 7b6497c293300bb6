/- node.RootAt and node.Root at any entries, as contracts. -/
import Derived.Test.YtjikgagaalbaeaaGreatDoorTr50
import Derived.Test.YtjikgagaalbaeaaGreatDoorTr41
import Derived.Test.YtjikgagaalbaeaaGreatDoorTr46
namespace Go.Proofs.YtjikgagaalbaeaaGreatDoor
set_option maxRecDepth 20000
open Go.RowKit

def RootPost (es : List Ent) (d : Int) (w : World) (e : Ending) (w' : World) : Prop := ∃ h E, e = .returned (.tuple #[.agg (B h), .int .i64 E]) ∧ RootIs es d h E ∧ Below w.heap.size w w'

theorem errB_long {es : List Ent} (h : 4096 < es.length) : errB es = 4 := by rw [errB, if_pos h]

theorem RootAt_any (v : Value) (V : Nat → Value) (es : List Ent) (d : Int) (w : World) (hv : PrAt w v V es) (hn : es.length ≤ 140737488355328) (hL : Laid w) : Calls Tryz.prog 13 #[v, .int .i64 d] w (RootPost es d w) := by
  by_cases hd : d < 0 ∨ 256 < d
  · exact (RootAt_out v V es d w hv hd).mono fun e w' ⟨h1, h2⟩ => ⟨_, _, h1, .out hd, h2⟩
  · obtain ⟨m, rfl⟩ : ∃ m : Nat, d = (m : Int) := ⟨d.toNat, by omega⟩
    by_cases hE : errB es = 0
    · have hl : es.length ≤ 4096 := by
        by_cases h : 4096 < es.length
        · rw [errB_long h] at hE
          omega
        · omega
      by_cases hs : SameE es m
      · exact (RootAt_in v V es m true w hv hl hL (by omega) hE ⟨fun _ => hs, fun _ => rfl⟩).mono fun e w' ⟨h1, h2⟩ => ⟨_, _, h1, .good (by omega) (by omega) hE (by simpa using hs), h2⟩
      · exact (RootAt_in v V es m false w hv hl hL (by omega) hE ⟨fun h => (by cases h), fun h => absurd h hs⟩).mono fun e w' ⟨h1, h2⟩ => ⟨_, _, h1, .part (by omega) (by omega) hE (by simpa using hs), h2⟩
    · exact (RootAt_bad v V es m w hv hn (by omega) hE).mono fun e w' ⟨h1, h2⟩ => ⟨_, _, h1, .bad _ (by omega) (by omega) rfl hE, h2⟩

end Go.Proofs.YtjikgagaalbaeaaGreatDoor

/- StoreTrees' walk: behind any calls the digest of each handle is the root of the entries below it. -/
namespace Go.Proofs.YtjikgagaalbaeaaGreatDoor
set_option maxRecDepth 20000
open Go.RowKit

theorem rootPost_at7 {es : List Ent} {d : Int} {h : List Int} {E : Int} (hi : RootIs es d h E) {f : Nat} {args : Array Value} {w : World} (hc : Calls Tryz.prog f args w (RootPost es d w)) :
    Calls Tryz.prog f args w fun e w' => e = .returned (.tuple #[.agg (B h), .int .i64 E]) ∧ Below w.heap.size w w' :=
  hc.mono fun e w' ⟨h', E', h1, h2, h3⟩ => by
    obtain ⟨e1, e2⟩ := h2.one hi
    rw [e1, e2] at h1
    exact ⟨h1, h3⟩

/-- What a handle's tree tells. -/
structure TrIs (cs : List (Nat × Ce)) (i : Nat) (es : List Ent) (D : List Int) (dd : Nat) : Prop where
  dig : (ce cs i).dig = D
  len : D.length = 32
  root : RootIs es (dd : Int) D 0
  sz : (ce cs i).sz = es.length
  few : es.length ≤ 60
  kind : (ce cs i).kind = 1 ∧ vDp true (ce cs i) = -1 ∧ dd = 0 ∨ (ce cs i).kind = 2 ∧ vDp true (ce cs i) = (dd : Int) ∧ dd < 256 ∧ 2 ≤ es.length

theorem tree_root {cs : List (Nat × Ce)} (w : Wf cs []) (hl : cs.length ≤ 60) {i : Nat} (hi : 0 < cc cs i) : ∃ T D dd, IsT cs (i + 1) T ∧ TrIs cs i T.ents D dd := by
  obtain ⟨T, hT⟩ := tree_ex w i hi
  have ok := tree_ok w T (i + 1) hT
  have hs : sdC cs (i + 1) = ce cs i := rfl
  have hd : sdD cs (i + 1) = (ce cs i).dig := rfl
  have hfew := Nat.le_trans ok.few hl
  have herr : errB T.ents = 0 := by
    rw [errB, if_neg (by omega)]
    exact lsE_of [] T.ents (fun e he => (ok.ent e he).2.1) ok.apart (fun e _ => by simp)
  have hsame : ∀ d : Nat, ((ce cs i).kind = 2 → d ≤ (ce cs i).dp) → SameE T.ents d := fun d hd a ha b hb j hj => by
    rw [ok.share d (by omega) hd a ha j hj, ok.share d (by omega) hd b hb j hj]
  have hlen := (w.ok i).ld
  have hz := ok.sz
  rw [hs] at hz
  rcases w.tr i hi with hn | hn
  · refine ⟨T, _, 0, hT, rfl, hlen, ?_, hz, hfew, .inl ⟨hn.kind, ?_, rfl⟩⟩
    · have h1 := ok.dig 0 (fun e => by rw [hs, hn.kind] at e; omega)
      rw [hd] at h1
      rw [h1]
      exact RootIs.good (by omega) (by omega) herr (hsame 0 (fun _ => Nat.zero_le _))
    · unfold vDp
      rw [if_pos rfl, if_neg (by rw [hn.kind]; omega)]
  · refine ⟨T, _, (ce cs i).dp, hT, rfl, hlen, ?_, hz, hfew, .inr ⟨hn.kind, ?_, hn.dp, ?_⟩⟩
    · have h1 := ok.dig (ce cs i).dp (fun _ => rfl)
      rw [hd] at h1
      rw [h1]
      have := hn.dp
      exact RootIs.good (by omega) (by omega) herr (hsame _ (fun _ => Nat.le_refl _))
    · unfold vDp
      rw [if_pos rfl, if_pos hn.kind]
    · rw [← hz]
      exact hn.two

set_option maxHeartbeats 16000000 in
theorem storeTrees_walk (room : Int) (v : Value) (qs : List Ac) (w : World) (hv : AcAt w v qs) (hL : Laid w) : Calls Tryz.prog 4 #[.int .i64 room, v] w fun e w' => e = .returned (.bool true) ∧ Below w.heap.size w w' := by
  have HLa := hidden hL
  have HA := hidden (awake_any w hL)
  obtain ⟨a, c, rfl, hcell, hall⟩ := hv
  have HCE := hidden hcell
  have HAL := hidden hall
  obtain ⟨N, hN⟩ : ∃ N, N = qs.length := ⟨_, rfl⟩
  rw [← hN]
  have HN := hidden hN
  clear hL hcell hall hN
  by_cases h200 : 200 < N
  · have i1 : (200 : Int) < (N : Int) := by omega
    go_enter Tryz.func4, Tryz.ntmps4
    go_wp2_with (go_at_call 9; refine HA.out.mono ?_; rintro e w1 ⟨rfl, b1⟩)
    go_ret
    exact ⟨rfl, b1⟩
  · have i1 : ¬ (200 : Int) < (N : Int) := by omega
    by_cases hr1 : room < 1
    · go_enter Tryz.func4, Tryz.ntmps4
      go_wp2_with (go_at_call 9; refine HA.out.mono ?_; rintro e w1 ⟨rfl, b1⟩)
      go_ret
      exact ⟨rfl, b1⟩
    · by_cases hr2 : 60 < room
      · go_enter Tryz.func4, Tryz.ntmps4
        go_wp2_with (go_at_call 9; refine HA.out.mono ?_; rintro e w1 ⟨rfl, b1⟩)
        go_ret
        exact ⟨rfl, b1⟩
      · obtain ⟨rm, rfl⟩ : ∃ n : Nat, room = (n : Int) := ⟨room.toNat, by omega⟩
        have HRM : Hid (1 ≤ rm ∧ rm ≤ 60) := by show 1 ≤ rm ∧ rm ≤ 60; omega
        have HNW : Hid (∀ w', Below w.heap.size w w' → Calls Tryz.prog 5 #[.int .i64 (rm : Int)] w' fun e w'' => ∃ g gs, e = .returned (.tuple #[.pointer (some ⟨g, 0, none⟩), .int .i64 0]) ∧ Hw w w'' g gs rm [] []) := fun w' hb => hw_new rm w w' hb (by omega) (by omega)
        have h200' : N ≤ 200 := by omega
        clear h200
        go_enter Tryz.func4, Tryz.ntmps4
        go_wp2_with (first
          | (go_at_call 9; refine HA.out.mono ?_; rintro e w1 ⟨rfl, b1⟩; have Hb1 := hidden b1; clear b1)
          | (go_at_call 5; refine (HNW.out _ Hb1.out).mono ?_; rintro e w2 ⟨g, gs, rfl, h2⟩; have HH2 := hidden h2; clear h2))
        clear HNW HA Hb1
        go_loopw [8] (fun iv wr => ∃ (k : Nat) (cs : List (Nat × Ce)) (fr : List Nat), k ≤ N ∧ iv = .int .i64 (k : Int) ∧ Hid (Hw w wr g gs rm cs fr)) (fun iv _ => N - (intOf iv).toNat)
        case atStart => exact ⟨0, [], [], by omega, rfl, HH2⟩
        case round =>
          clear HH2
          obtain ⟨k, cs, fr, hk, rfl, hH⟩ := hrel
          by_cases hlt : k < N
          · obtain ⟨b, off, rfl, hrg⟩ := HCE.out (by rw [← HN.out]; omega)
            have HRG : Hid (wr.rangeAt b (off + k * 37) (acL (qs.getD k default))) := fun j u hu => by
              have := hrg k (by rw [← HN.out]; exact hlt) j u hu
              exact below_cell hH.out.low this
            obtain ⟨q1, q2, q3⟩ := HAL.out k (by rw [← HN.out]; exact hlt)
            have HDO := hidden (do_any hH.out (qs.getD k default) q1 (q2.grow hH.out.low) (by omega) HLa.out)
            have HSZ : Hid ((Tryz.prog.info? 34).map (·.size) = some (acL (qs.getD k default)).length) := by
              show _ = _
              rw [acL, azL_length _ _ _ _ _ _ q1.1]
              exact size_act
            generalize acL (qs.getD k default) = A at HRG HDO HSZ
            have k0 : (0 : Int) ≤ (k : Int) := by omega
            have k1 : (k : Int) < (N : Int) := by omega
            have hwk : wrap64 ((k : Int) + 1) = ((k + 1 : Nat) : Int) := by rw [Go.IntWalk.wrap64_in _ (by omega)]; rfl
            clear hrg q1 q2 q3
            go_wp2_with (first
              | ((with_reducible refine at_ldd 45 44 ?_); refine wpList_load_mid rfl _ _ rfl b (off + k * 37) rfl A _ HRG.out Tryz.underlying34 rfl HSZ.out ?_)
              | (go_at_call 10; refine HDO.out.mono ?_; rintro e w3 ⟨rfl, cs3, fr3, h3⟩; have HH3 := hidden h3; clear h3))
            exact ⟨⟨k + 1, cs3, fr3, by omega, by go_num, HH3⟩, by simp [intOf]; omega⟩
          · obtain rfl : k = N := by omega
            have hmL : (slotsOf (cs.map pl)).length ≤ 60 := by
              rw [slots_length]
              have h1 := hH.out.inv.sum
              have h2 := hH.out.inv.len
              have := HRM.out
              omega
            have HHN := hidden (hw_hnd hH.out)
            obtain ⟨L, hLe⟩ : ∃ L, L = slotsOf (cs.map pl) := ⟨_, rfl⟩
            rw [← hLe] at HHN hmL
            have HLE := hidden hLe
            obtain ⟨m, hm⟩ : ∃ m, m = L.length := ⟨_, rfl⟩
            rw [← hm] at HHN hmL
            have HM := hidden hm
            have nlt : ¬ (k : Int) < (k : Int) := by omega
            clear hlt hk hLe hm
            go_wp2_with (first
              | (go_at_call 11; refine HHN.out.mono ?_; rintro e w5 ⟨la, lc, rfl, o5, b5⟩; have HO5 := hidden o5; have HH5 := hidden (hH.out.grow b5); have HB5 := hidden b5; clear o5 b5))
            have HLB : Hid (∀ q, q < m → ∃ i, L[q]? = some (i + 1) ∧ 0 < cc cs i) := fun q hq => by
              have hq' : q < (slotsOf (cs.map pl)).length := by rw [← HLE.out, ← HM.out]; exact hq
              obtain ⟨i, e, h⟩ := slot_at q hq'
              refine ⟨i, ?_, h⟩
              rw [HLE.out, List.getElem?_eq_getElem hq', e]
            have HWF : Hid (Wf cs []) := hH.out.2
            have HCL : Hid (cs.length ≤ 60) := by
              have h2 := hH.out.inv.len
              rw [List.length_map] at h2
              have := HRM.out
              show cs.length ≤ 60
              omega
            have HL5 : Hid (Laid w5) := HLa.out.grow HH5.out.low
            clear HB5 hH HHN HRM HCE HAL
            go_loopw [10] (fun iv wr => ∃ kk : Nat, kk ≤ m ∧ iv = .int .i64 (kk : Int) ∧ Hid (Below w5.heap.size w5 wr)) (fun iv _ => m - (intOf iv).toNat)
            case atStart => exact ⟨0, by omega, rfl, Below.refl _ _⟩
            case round =>
              obtain ⟨kk, hkk, rfl, HBW⟩ := hrel
              by_cases hlt : kk < m
              · obtain ⟨i, hLi, hci⟩ := HLB.out kk hlt
                have hkL : kk < L.length := by rw [← HM.out]; exact hlt
                have hl5 := lst_of7 HO5.out
                obtain ⟨lb, lc', e, _⟩ := lst_pos hl5 (by omega)
                injection e with e1 e2 e3
                subst e1
                subst e3
                clear e2
                have hcl : wr.cell? ⟨lb, kk, none⟩ = some (.int .i64 ((i + 1 : Nat) : Int)) := by
                  have h0 := lst_grow hl5 HBW.out
                  rw [HM.out] at h0
                  rw [lst_cell h0 kk (by omega)]
                  rw [List.getElem?_eq_getElem hkL] at hLi
                  injection hLi with hLi
                  rw [nats_get L kk hkL]
                  simp [List.getD, hkL, hLi]
                obtain ⟨T, D, dd, hT, hR⟩ := tree_root HWF.out HCL.out hci
                have HBE : Hid (∀ w', Below w5.heap.size w5 w' → Calls Tryz.prog 12 #[.pointer (some ⟨g, 0, none⟩), .int .i64 ((i + 1 : Nat) : Int)] w' (BelowPost T.ents w')) := fun w' hb => below_any (HH5.out.grow hb).vw HWF.out HCL.out (i + 1) T hT
                obtain ⟨n, hn⟩ : ∃ n, n = T.ents.length := ⟨_, rfl⟩
                have HNE : Hid (T.ents.length = n) := hn.symm
                have HRA : Hid (∀ w' v V, Below w5.heap.size w5 w' → PrAt w' v V T.ents → Calls Tryz.prog 13 #[v, .int .i64 (dd : Int)] w' fun e w'' => e = .returned (.tuple #[.agg (B D), .int .i64 0]) ∧ Below w'.heap.size w' w'') := fun w' v V hb hv => rootPost_at7 hR.root (RootAt_any v V T.ents _ w' hv (by have := hR.few; omega) (HL5.out.grow hb))
                obtain ⟨y, hy⟩ : ∃ y : Int, y = ((i + 1 : Nat) : Int) := ⟨_, rfl⟩
                have HCA : Hid (cat cs y = ce cs i) := by
                  rw [hy, cat_nat]
                  rfl
                rw [← hy] at hcl HBE
                have HDG : Hid (∀ w', Below w5.heap.size w5 w' → Calls Tryz.prog 15 #[.pointer (some ⟨g, 0, none⟩), .int .i64 y] w' fun e w'' => e = .returned (.agg (B D)) ∧ Below w'.heap.size w' w'') := fun w' hb => by
                  have := digest_any (HH5.out.grow hb).vw y (HL5.out.grow hb)
                  rw [show vDg true (cat cs) y = D by unfold vDg; rw [if_neg (fun q => by have := q.2; omega), HCA.out, hR.dig]] at this
                  exact this
                have HSZ : Hid (∀ w', Below w5.heap.size w5 w' → Calls Tryz.prog 16 #[.pointer (some ⟨g, 0, none⟩), .int .i64 y] w' fun e w'' => e = .returned (.int .i64 (n : Int)) ∧ Below w'.heap.size w' w'') := fun w' hb => by
                  have := size_any (HH5.out.grow hb).vw y
                  rw [HCA.out, hR.sz, HNE.out] at this
                  exact this
                have HDZ : Hid ((B D).size = 32) := by show _ = _; rw [B_size]; exact hR.len
                have HDS : Hid ((Tryz.prog.info? 44).map (·.size) = some (B D).toList.length) := by
                  show _ = _
                  rw [Array.length_toList, HDZ.out]
                  exact size_hash
                have hE := hash_eq D D hR.len hR.len
                simp only [decide_true] at hE
                have hkd := hR.kind
                rw [← hn] at hkd
                have k0 : (0 : Int) ≤ (kk : Int) := by omega
                have k1 : (kk : Int) < (m : Int) := by omega
                have hwk : wrap64 ((kk : Int) + 1) = ((kk + 1 : Nat) : Int) := by rw [Go.IntWalk.wrap64_in _ (by omega)]; rfl
                clear hLi hci hkL hl5 hn hy hR hT
                rcases hkd with ⟨kd1, kd2, kd3⟩ | ⟨kd1, kd2, kd3, kd4⟩
                · skip
                  have HDP : Hid (∀ w', Below w5.heap.size w5 w' → Calls Tryz.prog 14 #[.pointer (some ⟨g, 0, none⟩), .int .i64 y] w' fun e w'' => e = .returned (.int .i64 (-1)) ∧ Below w'.heap.size w' w'') := fun w' hb => by
                    have := depth_any (HH5.out.grow hb).vw y
                    rw [HCA.out, kd2] at this
                    exact this
                  have HKD : Hid (∀ w', Below w5.heap.size w5 w' → Calls Tryz.prog 17 #[.pointer (some ⟨g, 0, none⟩), .int .i64 y] w' fun e w'' => e = .returned (.int .u8 1) ∧ Below w'.heap.size w' w'') := fun w' hb => by
                    have := kind_any (HH5.out.grow hb).vw y
                    rw [HCA.out, kd1] at this
                    exact this
                  subst kd3
                  clear kd1 kd2
                  go_wp2_with (first
                    | (go_at_call 12; refine (HBE.out _ HBW.out).mono ?_; rintro e w6 ⟨ea, ec, V6, rfl, p6, b6⟩; rw [HNE.out] at p6 ⊢; have HP6 := hidden p6; have HB6 := hidden (grow_trans HBW.out b6); clear p6 b6)
                    | (go_at_call 14; refine (HDP.out _ HB6.out).mono ?_; rintro e w7 ⟨rfl, b7⟩; have HP7 := hidden (HP6.out.grow b7); have HB7 := hidden (grow_trans HB6.out b7); clear b7)
                    | (go_at_call 13; refine (HRA.out _ _ V6 HB7.out HP7.out).mono ?_; rintro e w7b ⟨rfl, b7⟩; have HB7b := hidden (grow_trans HB7.out b7); clear b7)
                    | ((with_reducible refine at_ald 13 ?_); refine wpList_al _ rfl _ rfl _ zero_hash ?_; intro w7c b13 hg8 hl8 B8 b3; have HB8c := hidden B8; have Hg8 := hidden hg8; have Hb3 := hidden b3; clear hg8 hl8 B8 b3)
                    | ((with_reducible refine at_st 13 ?_); refine wpList_sto _ rfl _ _ _ rfl b13 _ (B D) rfl rfl HB8c.out (by rw [HDZ.out]; exact size_hash) (by rw [HDZ.out, B_size]; simp) (B_one _) ?_; intro w8 B9 r9; have HB9 := hidden B9; have HB8 := hidden (below_row (grow_trans HB7b.out Hb3.out) r9 (by have := Hg8.out; have := HB7b.out.size; omega)); clear B9 r9 HB8c))
                  refine wp_region_held_drew (S := fun w' => Below w8.heap.size w8 w') (by kernel_rfl) (below_drewN (Below.refl _ _) 1) (fun hHeld => ?_)
                  refine wpAnyH_take (i := 0) (v := .int .i64 0) rfl (by kernel_rfl) (by kernel_rfl) (by kernel_rfl) (fun _ _ _ h => h) (Or.inl ⟨by rfl, fun w hS => by go_simp⟩) hHeld ?_
                  simp only [Act.put, List.getElem_toArray, List.getElem_cons_zero, List.setIfInBounds_toArray, List.set_cons_zero, List.set_cons_succ]
                  refine wpAnyH_take (i := 1) (v := .bool false) rfl (by kernel_rfl) (by kernel_rfl) (by kernel_rfl) (fun _ _ _ h => h) (Or.inl ⟨by rfl, fun w hS => by go_simp⟩) hHeld ?_
                  simp only [Act.put, List.getElem_toArray, List.getElem_cons_zero, List.getElem_cons_succ, List.setIfInBounds_toArray, List.set_cons_zero, List.set_cons_succ]
                  refine wpAnyH_take (i := 2) (v := .bool false) rfl (by kernel_rfl) (by kernel_rfl) (by kernel_rfl) (fun _ _ _ h => h) (Or.inl ⟨by rfl, fun w hS => by go_simp⟩) hHeld ?_
                  simp only [Act.put, List.getElem_toArray, List.getElem_cons_zero, List.getElem_cons_succ, List.setIfInBounds_toArray, List.set_cons_zero, List.set_cons_succ]
                  refine wpAnyH_take (i := 3) (v := .agg (B D)) rfl (by kernel_rfl) (by kernel_rfl) (by kernel_rfl) (fun _ _ _ h => h) (yieldsIf_load_mid rfl 44 (.tmp 13) rfl b13 0 rfl (B D).toList _ (fun w hS => rng_grow HB9.out.range hS) Tryz.underlying44 rfl HDS.out) hHeld ?_
                  simp only [Act.put, List.getElem_toArray, List.getElem_cons_zero, List.getElem_cons_succ, List.setIfInBounds_toArray, List.set_cons_zero, List.set_cons_succ]
                  refine wpAnyH_take (i := 4) (v := .pointer (some ⟨g, 0, none⟩)) rfl (by kernel_rfl) (by kernel_rfl) (by kernel_rfl) (fun _ _ _ h => h) (Or.inl ⟨by rfl, fun w hS => by go_simp⟩) hHeld ?_
                  simp only [Act.put, List.getElem_toArray, List.getElem_cons_zero, List.getElem_cons_succ, List.setIfInBounds_toArray, List.set_cons_zero, List.set_cons_succ]
                  refine wpAnyH_take (i := 5) (v := .int .i64 y) rfl (by kernel_rfl) (by kernel_rfl) (by kernel_rfl) (fun _ _ _ h => h) (Or.inl ⟨by rfl, fun w hS => by go_simp⟩) hHeld ?_
                  simp only [Act.put, List.getElem_toArray, List.getElem_cons_zero, List.getElem_cons_succ, List.setIfInBounds_toArray, List.set_cons_zero, List.set_cons_succ]
                  refine wpAnyH_ready (rs := [6]) (by kernel_rfl) (by simp) ?_
                  refine AllReadyH.cons rfl (fun KQ hK => ?_) AllReadyH.nil
                  go_simp
                  refine (HDG.out _ (grow_trans HB8.out hHeld)).mono ?_
                  rintro e y1 ⟨rfl, a1⟩
                  refine hK.out _ _ (grow_trans hHeld a1) (fun hHeld => ?_)
                  clear hK KQ
                  refine wpAnyH_take (i := 7) (v := .bool false) rfl (by kernel_rfl) (by kernel_rfl) (by kernel_rfl) (fun _ _ _ h => h) (Or.inl ⟨by rfl, fun w hS => by go_simp⟩) hHeld ?_
                  simp only [Act.put, List.getElem_toArray, List.getElem_cons_zero, List.getElem_cons_succ, List.setIfInBounds_toArray, List.set_cons_zero, List.set_cons_succ]
                  refine wpAnyH_take (i := 8) (v := .bool false) rfl (by kernel_rfl) (by kernel_rfl) (by kernel_rfl) (fun _ _ _ h => h) (Or.inl ⟨by rfl, fun w hS => by go_simp⟩) hHeld ?_
                  simp only [Act.put, List.getElem_toArray, List.getElem_cons_zero, List.getElem_cons_succ, List.setIfInBounds_toArray, List.set_cons_zero, List.set_cons_succ]
                  refine wpAnyH_take (i := 9) (v := .bool false) rfl (by kernel_rfl) (by kernel_rfl) (by kernel_rfl) (fun _ _ _ h => h) (Or.inl ⟨by rfl, fun w hS => by go_simp⟩) hHeld ?_
                  simp only [Act.put, List.getElem_toArray, List.getElem_cons_zero, List.getElem_cons_succ, List.setIfInBounds_toArray, List.set_cons_zero, List.set_cons_succ]
                  refine wpAnyH_take (i := 10) (v := .slice ea n ec) rfl (by kernel_rfl) (by kernel_rfl) (by kernel_rfl) (fun _ _ _ h => h) (Or.inl ⟨by rfl, fun w hS => by go_simp⟩) hHeld ?_
                  simp only [Act.put, List.getElem_toArray, List.getElem_cons_zero, List.getElem_cons_succ, List.setIfInBounds_toArray, List.set_cons_zero, List.set_cons_succ]
                  refine wpAnyH_take (i := 11) (v := .int .i64 (n : Int)) rfl (by kernel_rfl) (by kernel_rfl) (by kernel_rfl) (fun _ _ _ h => h) (Or.inl ⟨by rfl, fun w hS => by go_simp⟩) hHeld ?_
                  simp only [Act.put, List.getElem_toArray, List.getElem_cons_zero, List.getElem_cons_succ, List.setIfInBounds_toArray, List.set_cons_zero, List.set_cons_succ]
                  refine wpAnyH_take (i := 12) (v := .pointer (some ⟨g, 0, none⟩)) rfl (by kernel_rfl) (by kernel_rfl) (by kernel_rfl) (fun _ _ _ h => h) (Or.inl ⟨by rfl, fun w hS => by go_simp⟩) hHeld ?_
                  simp only [Act.put, List.getElem_toArray, List.getElem_cons_zero, List.getElem_cons_succ, List.setIfInBounds_toArray, List.set_cons_zero, List.set_cons_succ]
                  refine wpAnyH_take (i := 13) (v := .int .i64 y) rfl (by kernel_rfl) (by kernel_rfl) (by kernel_rfl) (fun _ _ _ h => h) (Or.inl ⟨by rfl, fun w hS => by go_simp⟩) hHeld ?_
                  simp only [Act.put, List.getElem_toArray, List.getElem_cons_zero, List.getElem_cons_succ, List.setIfInBounds_toArray, List.set_cons_zero, List.set_cons_succ]
                  refine wpAnyH_ready (rs := [14]) (by kernel_rfl) (by simp) ?_
                  refine AllReadyH.cons rfl (fun KQ hK => ?_) AllReadyH.nil
                  go_simp
                  refine (HSZ.out _ (grow_trans HB8.out hHeld)).mono ?_
                  rintro e y2 ⟨rfl, a2⟩
                  refine hK.out _ _ (grow_trans hHeld a2) (fun hHeld => ?_)
                  clear hK KQ
                  refine wpAnyH_take (i := 15) (v := .bool false) rfl (by kernel_rfl) (by kernel_rfl) (by kernel_rfl) (fun _ _ _ h => h) (Or.inl ⟨by rfl, fun w hS => by go_simp⟩) hHeld ?_
                  simp only [Act.put, List.getElem_toArray, List.getElem_cons_zero, List.getElem_cons_succ, List.setIfInBounds_toArray, List.set_cons_zero, List.set_cons_succ]
                  refine wpAnyH_take (i := 16) (v := .bool false) rfl (by kernel_rfl) (by kernel_rfl) (by kernel_rfl) (fun _ _ _ h => h) (Or.inl ⟨by rfl, fun w hS => by go_simp⟩) hHeld ?_
                  simp only [Act.put, List.getElem_toArray, List.getElem_cons_zero, List.getElem_cons_succ, List.setIfInBounds_toArray, List.set_cons_zero, List.set_cons_succ]
                  refine wpAnyH_take (i := 17) (v := .bool false) rfl (by kernel_rfl) (by kernel_rfl) (by kernel_rfl) (fun _ _ _ h => h) (Or.inl ⟨by rfl, fun w hS => by go_simp⟩) hHeld ?_
                  simp only [Act.put, List.getElem_toArray, List.getElem_cons_zero, List.getElem_cons_succ, List.setIfInBounds_toArray, List.set_cons_zero, List.set_cons_succ]
                  refine wpAnyH_take (i := 18) (v := .pointer (some ⟨g, 0, none⟩)) rfl (by kernel_rfl) (by kernel_rfl) (by kernel_rfl) (fun _ _ _ h => h) (Or.inl ⟨by rfl, fun w hS => by go_simp⟩) hHeld ?_
                  simp only [Act.put, List.getElem_toArray, List.getElem_cons_zero, List.getElem_cons_succ, List.setIfInBounds_toArray, List.set_cons_zero, List.set_cons_succ]
                  refine wpAnyH_take (i := 19) (v := .int .i64 y) rfl (by kernel_rfl) (by kernel_rfl) (by kernel_rfl) (fun _ _ _ h => h) (Or.inl ⟨by rfl, fun w hS => by go_simp⟩) hHeld ?_
                  simp only [Act.put, List.getElem_toArray, List.getElem_cons_zero, List.getElem_cons_succ, List.setIfInBounds_toArray, List.set_cons_zero, List.set_cons_succ]
                  refine wpAnyH_ready (rs := [20]) (by kernel_rfl) (by simp) ?_
                  refine AllReadyH.cons rfl (fun KQ hK => ?_) AllReadyH.nil
                  go_simp
                  refine (HKD.out _ (grow_trans HB8.out hHeld)).mono ?_
                  rintro e y3 ⟨rfl, a3⟩
                  refine hK.out _ _ (grow_trans hHeld a3) (fun hHeld => ?_)
                  clear hK KQ
                  refine wpAnyH_take (i := 21) (v := .bool false) rfl (by kernel_rfl) (by kernel_rfl) (by kernel_rfl) (fun _ _ _ h => h) (Or.inl ⟨by rfl, fun w hS => by go_simp⟩) hHeld ?_
                  simp only [Act.put, List.getElem_toArray, List.getElem_cons_zero, List.getElem_cons_succ, List.setIfInBounds_toArray, List.set_cons_zero, List.set_cons_succ]
                  refine wpAnyH_take (i := 22) (v := .bool false) rfl (by kernel_rfl) (by kernel_rfl) (by kernel_rfl) (fun _ _ _ h => h) (Or.inl ⟨by rfl, fun w hS => by go_simp⟩) hHeld ?_
                  simp only [Act.put, List.getElem_toArray, List.getElem_cons_zero, List.getElem_cons_succ, List.setIfInBounds_toArray, List.set_cons_zero, List.set_cons_succ]
                  refine wpAnyH_take (i := 23) (v := undef) rfl (by kernel_rfl) (by kernel_rfl) (by kernel_rfl) (fun _ _ _ h => h) (Or.inr ⟨by rfl, rfl⟩) hHeld ?_
                  simp only [Act.put, List.getElem_toArray, List.getElem_cons_zero, List.getElem_cons_succ, List.setIfInBounds_toArray, List.set_cons_zero, List.set_cons_succ]
                  refine wpAnyH_take (i := 24) (v := undef) rfl (by kernel_rfl) (by kernel_rfl) (by kernel_rfl) (fun _ _ _ h => h) (Or.inr ⟨by rfl, rfl⟩) hHeld ?_
                  simp only [Act.put, List.getElem_toArray, List.getElem_cons_zero, List.getElem_cons_succ, List.setIfInBounds_toArray, List.set_cons_zero, List.set_cons_succ]
                  refine wpAnyH_take (i := 25) (v := undef) rfl (by kernel_rfl) (by kernel_rfl) (by kernel_rfl) (fun _ _ _ h => h) (Or.inr ⟨by rfl, rfl⟩) hHeld ?_
                  simp only [Act.put, List.getElem_toArray, List.getElem_cons_zero, List.getElem_cons_succ, List.setIfInBounds_toArray, List.set_cons_zero, List.set_cons_succ]
                  refine wpAnyH_take (i := 26) (v := .bool false) rfl (by kernel_rfl) (by kernel_rfl) (by kernel_rfl) (fun _ _ _ h => h) (Or.inl ⟨by rfl, fun w hS => by go_simp⟩) hHeld ?_
                  simp only [Act.put, List.getElem_toArray, List.getElem_cons_zero, List.getElem_cons_succ, List.setIfInBounds_toArray, List.set_cons_zero, List.set_cons_succ]
                  refine wpAnyH_take (i := 27) (v := .bool false) rfl (by kernel_rfl) (by kernel_rfl) (by kernel_rfl) (fun _ _ _ h => h) (Or.inl ⟨by rfl, fun w hS => by go_simp⟩) hHeld ?_
                  simp only [Act.put, List.getElem_toArray, List.getElem_cons_zero, List.getElem_cons_succ, List.setIfInBounds_toArray, List.set_cons_zero, List.set_cons_succ]
                  refine wpAnyH_done (by kernel_rfl) ?_ _
                  go_wp2
                  exact ⟨⟨kk + 1, by omega, by go_num, hidden (grow_trans HB8.out hHeld)⟩, by simp [intOf]; omega⟩
                · skip
                  have HDP : Hid (∀ w', Below w5.heap.size w5 w' → Calls Tryz.prog 14 #[.pointer (some ⟨g, 0, none⟩), .int .i64 y] w' fun e w'' => e = .returned (.int .i64 (dd : Int)) ∧ Below w'.heap.size w' w'') := fun w' hb => by
                    have := depth_any (HH5.out.grow hb).vw y
                    rw [HCA.out, kd2] at this
                    exact this
                  have HKD : Hid (∀ w', Below w5.heap.size w5 w' → Calls Tryz.prog 17 #[.pointer (some ⟨g, 0, none⟩), .int .i64 y] w' fun e w'' => e = .returned (.int .u8 2) ∧ Below w'.heap.size w' w'') := fun w' hb => by
                    have := kind_any (HH5.out.grow hb).vw y
                    rw [HCA.out, kd1] at this
                    exact this
                  have hmx : max (dd : Int) 0 = (dd : Int) := by omega
                  have hn2 : ¬ (n : Int) < 2 := by omega
                  have hd0 : (0 : Int) ≤ (dd : Int) := by omega
                  clear kd1 kd2
                  go_wp2_with (first
                    | (go_at_call 12; refine (HBE.out _ HBW.out).mono ?_; rintro e w6 ⟨ea, ec, V6, rfl, p6, b6⟩; rw [HNE.out] at p6 ⊢; have HP6 := hidden p6; have HB6 := hidden (grow_trans HBW.out b6); clear p6 b6)
                    | (go_at_call 14; refine (HDP.out _ HB6.out).mono ?_; rintro e w7 ⟨rfl, b7⟩; have HP7 := hidden (HP6.out.grow b7); have HB7 := hidden (grow_trans HB6.out b7); clear b7)
                    | (go_at_call 13; refine (HRA.out _ _ V6 HB7.out HP7.out).mono ?_; rintro e w7b ⟨rfl, b7⟩; have HB7b := hidden (grow_trans HB7.out b7); clear b7)
                    | ((with_reducible refine at_ald 13 ?_); refine wpList_al _ rfl _ rfl _ zero_hash ?_; intro w7c b13 hg8 hl8 B8 b3; have HB8c := hidden B8; have Hg8 := hidden hg8; have Hb3 := hidden b3; clear hg8 hl8 B8 b3)
                    | ((with_reducible refine at_st 13 ?_); refine wpList_sto _ rfl _ _ _ rfl b13 _ (B D) rfl rfl HB8c.out (by rw [HDZ.out]; exact size_hash) (by rw [HDZ.out, B_size]; simp) (B_one _) ?_; intro w8 B9 r9; have HB9 := hidden B9; have HB8 := hidden (below_row (grow_trans HB7b.out Hb3.out) r9 (by have := Hg8.out; have := HB7b.out.size; omega)); clear B9 r9 HB8c))
                  refine wp_region_held_drew (S := fun w' => Below w8.heap.size w8 w') (by kernel_rfl) (below_drewN (Below.refl _ _) 1) (fun hHeld => ?_)
                  refine wpAnyH_take (i := 0) (v := .int .i64 0) rfl (by kernel_rfl) (by kernel_rfl) (by kernel_rfl) (fun _ _ _ h => h) (Or.inl ⟨by rfl, fun w hS => by go_simp⟩) hHeld ?_
                  simp only [Act.put, List.getElem_toArray, List.getElem_cons_zero, List.setIfInBounds_toArray, List.set_cons_zero, List.set_cons_succ]
                  refine wpAnyH_take (i := 1) (v := .bool false) rfl (by kernel_rfl) (by kernel_rfl) (by kernel_rfl) (fun _ _ _ h => h) (Or.inl ⟨by rfl, fun w hS => by go_simp⟩) hHeld ?_
                  simp only [Act.put, List.getElem_toArray, List.getElem_cons_zero, List.getElem_cons_succ, List.setIfInBounds_toArray, List.set_cons_zero, List.set_cons_succ]
                  refine wpAnyH_take (i := 2) (v := .bool false) rfl (by kernel_rfl) (by kernel_rfl) (by kernel_rfl) (fun _ _ _ h => h) (Or.inl ⟨by rfl, fun w hS => by go_simp⟩) hHeld ?_
                  simp only [Act.put, List.getElem_toArray, List.getElem_cons_zero, List.getElem_cons_succ, List.setIfInBounds_toArray, List.set_cons_zero, List.set_cons_succ]
                  refine wpAnyH_take (i := 3) (v := .agg (B D)) rfl (by kernel_rfl) (by kernel_rfl) (by kernel_rfl) (fun _ _ _ h => h) (yieldsIf_load_mid rfl 44 (.tmp 13) rfl b13 0 rfl (B D).toList _ (fun w hS => rng_grow HB9.out.range hS) Tryz.underlying44 rfl HDS.out) hHeld ?_
                  simp only [Act.put, List.getElem_toArray, List.getElem_cons_zero, List.getElem_cons_succ, List.setIfInBounds_toArray, List.set_cons_zero, List.set_cons_succ]
                  refine wpAnyH_take (i := 4) (v := .pointer (some ⟨g, 0, none⟩)) rfl (by kernel_rfl) (by kernel_rfl) (by kernel_rfl) (fun _ _ _ h => h) (Or.inl ⟨by rfl, fun w hS => by go_simp⟩) hHeld ?_
                  simp only [Act.put, List.getElem_toArray, List.getElem_cons_zero, List.getElem_cons_succ, List.setIfInBounds_toArray, List.set_cons_zero, List.set_cons_succ]
                  refine wpAnyH_take (i := 5) (v := .int .i64 y) rfl (by kernel_rfl) (by kernel_rfl) (by kernel_rfl) (fun _ _ _ h => h) (Or.inl ⟨by rfl, fun w hS => by go_simp⟩) hHeld ?_
                  simp only [Act.put, List.getElem_toArray, List.getElem_cons_zero, List.getElem_cons_succ, List.setIfInBounds_toArray, List.set_cons_zero, List.set_cons_succ]
                  refine wpAnyH_ready (rs := [6]) (by kernel_rfl) (by simp) ?_
                  refine AllReadyH.cons rfl (fun KQ hK => ?_) AllReadyH.nil
                  go_simp
                  refine (HDG.out _ (grow_trans HB8.out hHeld)).mono ?_
                  rintro e y1 ⟨rfl, a1⟩
                  refine hK.out _ _ (grow_trans hHeld a1) (fun hHeld => ?_)
                  clear hK KQ
                  refine wpAnyH_take (i := 7) (v := .bool false) rfl (by kernel_rfl) (by kernel_rfl) (by kernel_rfl) (fun _ _ _ h => h) (Or.inl ⟨by rfl, fun w hS => by go_simp⟩) hHeld ?_
                  simp only [Act.put, List.getElem_toArray, List.getElem_cons_zero, List.getElem_cons_succ, List.setIfInBounds_toArray, List.set_cons_zero, List.set_cons_succ]
                  refine wpAnyH_take (i := 8) (v := .bool false) rfl (by kernel_rfl) (by kernel_rfl) (by kernel_rfl) (fun _ _ _ h => h) (Or.inl ⟨by rfl, fun w hS => by go_simp⟩) hHeld ?_
                  simp only [Act.put, List.getElem_toArray, List.getElem_cons_zero, List.getElem_cons_succ, List.setIfInBounds_toArray, List.set_cons_zero, List.set_cons_succ]
                  refine wpAnyH_take (i := 9) (v := .bool false) rfl (by kernel_rfl) (by kernel_rfl) (by kernel_rfl) (fun _ _ _ h => h) (Or.inl ⟨by rfl, fun w hS => by go_simp⟩) hHeld ?_
                  simp only [Act.put, List.getElem_toArray, List.getElem_cons_zero, List.getElem_cons_succ, List.setIfInBounds_toArray, List.set_cons_zero, List.set_cons_succ]
                  refine wpAnyH_take (i := 10) (v := .slice ea n ec) rfl (by kernel_rfl) (by kernel_rfl) (by kernel_rfl) (fun _ _ _ h => h) (Or.inl ⟨by rfl, fun w hS => by go_simp⟩) hHeld ?_
                  simp only [Act.put, List.getElem_toArray, List.getElem_cons_zero, List.getElem_cons_succ, List.setIfInBounds_toArray, List.set_cons_zero, List.set_cons_succ]
                  refine wpAnyH_take (i := 11) (v := .int .i64 (n : Int)) rfl (by kernel_rfl) (by kernel_rfl) (by kernel_rfl) (fun _ _ _ h => h) (Or.inl ⟨by rfl, fun w hS => by go_simp⟩) hHeld ?_
                  simp only [Act.put, List.getElem_toArray, List.getElem_cons_zero, List.getElem_cons_succ, List.setIfInBounds_toArray, List.set_cons_zero, List.set_cons_succ]
                  refine wpAnyH_take (i := 12) (v := .pointer (some ⟨g, 0, none⟩)) rfl (by kernel_rfl) (by kernel_rfl) (by kernel_rfl) (fun _ _ _ h => h) (Or.inl ⟨by rfl, fun w hS => by go_simp⟩) hHeld ?_
                  simp only [Act.put, List.getElem_toArray, List.getElem_cons_zero, List.getElem_cons_succ, List.setIfInBounds_toArray, List.set_cons_zero, List.set_cons_succ]
                  refine wpAnyH_take (i := 13) (v := .int .i64 y) rfl (by kernel_rfl) (by kernel_rfl) (by kernel_rfl) (fun _ _ _ h => h) (Or.inl ⟨by rfl, fun w hS => by go_simp⟩) hHeld ?_
                  simp only [Act.put, List.getElem_toArray, List.getElem_cons_zero, List.getElem_cons_succ, List.setIfInBounds_toArray, List.set_cons_zero, List.set_cons_succ]
                  refine wpAnyH_ready (rs := [14]) (by kernel_rfl) (by simp) ?_
                  refine AllReadyH.cons rfl (fun KQ hK => ?_) AllReadyH.nil
                  go_simp
                  refine (HSZ.out _ (grow_trans HB8.out hHeld)).mono ?_
                  rintro e y2 ⟨rfl, a2⟩
                  refine hK.out _ _ (grow_trans hHeld a2) (fun hHeld => ?_)
                  clear hK KQ
                  refine wpAnyH_take (i := 15) (v := .bool false) rfl (by kernel_rfl) (by kernel_rfl) (by kernel_rfl) (fun _ _ _ h => h) (Or.inl ⟨by rfl, fun w hS => by go_simp⟩) hHeld ?_
                  simp only [Act.put, List.getElem_toArray, List.getElem_cons_zero, List.getElem_cons_succ, List.setIfInBounds_toArray, List.set_cons_zero, List.set_cons_succ]
                  refine wpAnyH_take (i := 16) (v := .bool false) rfl (by kernel_rfl) (by kernel_rfl) (by kernel_rfl) (fun _ _ _ h => h) (Or.inl ⟨by rfl, fun w hS => by go_simp⟩) hHeld ?_
                  simp only [Act.put, List.getElem_toArray, List.getElem_cons_zero, List.getElem_cons_succ, List.setIfInBounds_toArray, List.set_cons_zero, List.set_cons_succ]
                  refine wpAnyH_take (i := 17) (v := .bool false) rfl (by kernel_rfl) (by kernel_rfl) (by kernel_rfl) (fun _ _ _ h => h) (Or.inl ⟨by rfl, fun w hS => by go_simp⟩) hHeld ?_
                  simp only [Act.put, List.getElem_toArray, List.getElem_cons_zero, List.getElem_cons_succ, List.setIfInBounds_toArray, List.set_cons_zero, List.set_cons_succ]
                  refine wpAnyH_take (i := 18) (v := .pointer (some ⟨g, 0, none⟩)) rfl (by kernel_rfl) (by kernel_rfl) (by kernel_rfl) (fun _ _ _ h => h) (Or.inl ⟨by rfl, fun w hS => by go_simp⟩) hHeld ?_
                  simp only [Act.put, List.getElem_toArray, List.getElem_cons_zero, List.getElem_cons_succ, List.setIfInBounds_toArray, List.set_cons_zero, List.set_cons_succ]
                  refine wpAnyH_take (i := 19) (v := .int .i64 y) rfl (by kernel_rfl) (by kernel_rfl) (by kernel_rfl) (fun _ _ _ h => h) (Or.inl ⟨by rfl, fun w hS => by go_simp⟩) hHeld ?_
                  simp only [Act.put, List.getElem_toArray, List.getElem_cons_zero, List.getElem_cons_succ, List.setIfInBounds_toArray, List.set_cons_zero, List.set_cons_succ]
                  refine wpAnyH_ready (rs := [20]) (by kernel_rfl) (by simp) ?_
                  refine AllReadyH.cons rfl (fun KQ hK => ?_) AllReadyH.nil
                  go_simp
                  refine (HKD.out _ (grow_trans HB8.out hHeld)).mono ?_
                  rintro e y3 ⟨rfl, a3⟩
                  refine hK.out _ _ (grow_trans hHeld a3) (fun hHeld => ?_)
                  clear hK KQ
                  refine wpAnyH_take (i := 21) (v := .bool true) rfl (by kernel_rfl) (by kernel_rfl) (by kernel_rfl) (fun _ _ _ h => h) (Or.inl ⟨by rfl, fun w hS => by go_simp⟩) hHeld ?_
                  simp only [Act.put, List.getElem_toArray, List.getElem_cons_zero, List.getElem_cons_succ, List.setIfInBounds_toArray, List.set_cons_zero, List.set_cons_succ]
                  refine wpAnyH_take (i := 22) (v := .bool true) rfl (by kernel_rfl) (by kernel_rfl) (by kernel_rfl) (fun _ _ _ h => h) (Or.inl ⟨by rfl, fun w hS => by go_simp⟩) hHeld ?_
                  simp only [Act.put, List.getElem_toArray, List.getElem_cons_zero, List.getElem_cons_succ, List.setIfInBounds_toArray, List.set_cons_zero, List.set_cons_succ]
                  refine wpAnyH_take (i := 23) (v := .slice ea n ec) rfl (by kernel_rfl) (by kernel_rfl) (by kernel_rfl) (fun _ _ _ h => h) (Or.inl ⟨by rfl, fun w hS => by go_simp⟩) hHeld ?_
                  simp only [Act.put, List.getElem_toArray, List.getElem_cons_zero, List.getElem_cons_succ, List.setIfInBounds_toArray, List.set_cons_zero, List.set_cons_succ]
                  refine wpAnyH_take (i := 24) (v := .int .i64 (n : Int)) rfl (by kernel_rfl) (by kernel_rfl) (by kernel_rfl) (fun _ _ _ h => h) (Or.inl ⟨by rfl, fun w hS => by go_simp⟩) hHeld ?_
                  simp only [Act.put, List.getElem_toArray, List.getElem_cons_zero, List.getElem_cons_succ, List.setIfInBounds_toArray, List.set_cons_zero, List.set_cons_succ]
                  refine wpAnyH_take (i := 25) (v := .bool false) rfl (by kernel_rfl) (by kernel_rfl) (by kernel_rfl) (fun _ _ _ h => h) (Or.inl ⟨by rfl, fun w hS => by go_simp⟩) hHeld ?_
                  simp only [Act.put, List.getElem_toArray, List.getElem_cons_zero, List.getElem_cons_succ, List.setIfInBounds_toArray, List.set_cons_zero, List.set_cons_succ]
                  refine wpAnyH_take (i := 26) (v := .bool false) rfl (by kernel_rfl) (by kernel_rfl) (by kernel_rfl) (fun _ _ _ h => h) (Or.inl ⟨by rfl, fun w hS => by go_simp⟩) hHeld ?_
                  simp only [Act.put, List.getElem_toArray, List.getElem_cons_zero, List.getElem_cons_succ, List.setIfInBounds_toArray, List.set_cons_zero, List.set_cons_succ]
                  refine wpAnyH_take (i := 27) (v := .bool false) rfl (by kernel_rfl) (by kernel_rfl) (by kernel_rfl) (fun _ _ _ h => h) (Or.inl ⟨by rfl, fun w hS => by go_simp⟩) hHeld ?_
                  simp only [Act.put, List.getElem_toArray, List.getElem_cons_zero, List.getElem_cons_succ, List.setIfInBounds_toArray, List.set_cons_zero, List.set_cons_succ]
                  refine wpAnyH_done (by kernel_rfl) ?_ _
                  go_wp2
                  exact ⟨⟨kk + 1, by omega, by go_num, hidden (grow_trans HB8.out hHeld)⟩, by simp [intOf]; omega⟩
              · obtain rfl : m = kk := by omega
                have HDG : Hid (∀ w', Below w5.heap.size w5 w' → Calls Tryz.prog 15 #[.pointer (some ⟨g, 0, none⟩), .int .i64 0] w' fun e w'' => e = .returned (.agg (B emD)) ∧ Below w'.heap.size w' w'') := fun w' hb => by
                  have := digest_any (HH5.out.grow hb).vw 0 (HL5.out.grow hb)
                  rw [show vDg true (cat cs) 0 = emD from if_pos ⟨rfl, rfl⟩] at this
                  exact this
                have HEM : Hid (∀ w', Below w5.heap.size w5 w' → Calls Tryz.prog 18 #[] w' fun e w'' => e = .returned (.agg (B emD)) ∧ Below w'.heap.size w' w'') := fun w' hb => empty_any w' (HL5.out.grow hb)
                have hE := hash_eq emD emD (dig_length _) (dig_length _)
                simp only [decide_true] at hE
                generalize emD = D at *
                have nlt : ¬ (m : Int) < (m : Int) := by omega
                clear hlt
                go_wp2_with (first
                  | (go_at_call 15; refine (HDG.out _ HBW.out).mono ?_; rintro e w6 ⟨rfl, b6⟩; have HB6 := hidden (grow_trans HBW.out b6); clear b6)
                  | (go_at_call 18; refine (HEM.out _ HB6.out).mono ?_; rintro e w7 ⟨rfl, b7⟩; have HB7 := hidden (grow_trans HB6.out b7); clear b7))
                go_ret
                exact ⟨rfl, grow_trans HH5.out.low HB7.out⟩

end Go.Proofs.YtjikgagaalbaeaaGreatDoor
