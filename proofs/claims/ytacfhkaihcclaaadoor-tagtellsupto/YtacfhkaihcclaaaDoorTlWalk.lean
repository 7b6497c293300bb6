/- TagTells' walk: the law returns true at every tag, parts, key, value and digests of the bulk that the second form speaks of, and nothing that was in memory turns. -/
import Derived.Test.YtacfhkaihcclaaaDoorLentList
import Derived.Test.YtacfhkaihcclaaaDoorTagEq
import Derived.Test.YtacfhkaihcclaaaDoorTagRef
import Derived.Deep.CutRange
namespace Go.Proofs.YtacfhkaihcclaaaDoor
open Go.RowKit

set_option maxHeartbeats 8000000 in
set_option maxRecDepth 20000 in
theorem tagTells_walk (t : Int) (v u : Value) (ps : List (List Int)) (zs K A C : List Int) (w : World) (h : Parts w v ps) (hn : ps.length ≤ 1048576) (hl : ps.flatten.length ≤ 1048576) (hu : Reads w u zs) (hz : zs.length ≤ 1048576) (t0 : 0 ≤ t) (t1 : t ≤ 255) (hk : K.length = 32) (ha : A.length = 32) (hc : C.length = 32) (bk : Bytes K) (ba : Bytes A) (bc : Bytes C) (hL : Laid w) :
    Calls Tryd.prog 3 #[.int .u8 t, v, .agg (B K), u, .agg (B A), .agg (B C)] w fun e w' => e = .returned (.bool true) ∧ Below w.heap.size w w' := by
  have HP0 := hidden h
  have HU0 := hidden hu
  have HL0 := hidden hL
  have HK := hidden hk
  have HA := hidden ha
  have HC := hidden hc
  have BK := hidden bk
  have BA := hidden ba
  have BC := hidden bc
  have HZB : Hid (Bytes zs) := by
    obtain ⟨_, _, _, _, _, hb, _⟩ := hu
    exact hb
  obtain ⟨a, cap, V, rfl, hcap, _, hcell, hr⟩ := h
  obtain ⟨ua, uc, rfl, _, _, _, _⟩ := hu
  have HCL := hidden hcell
  have HRD := hidden hr
  have hiK : (Tryd.prog.info? 24).map (·.size) = some (B K).toList.length := by rw [B_toList, List.length_map, hk]; kernel_rfl
  have hiA : (Tryd.prog.info? 26).map (·.size) = some (B A).toList.length := by rw [B_toList, List.length_map, ha]; kernel_rfl
  have hiC : (Tryd.prog.info? 26).map (·.size) = some (B C).toList.length := by rw [B_toList, List.length_map, hc]; kernel_rfl
  have hu1 : Tryd.prog.underlying 24 = some (.array 32 5) := Tryd.underlying24
  have hu2 : Tryd.prog.underlying 26 = some (.array 32 5) := Tryd.underlying26
  have HKZ : Hid ((B K).size = 32) := by rw [B_size]; exact hk
  clear hcell hr hk ha hc bk ba bc hL
  go_enter Tryd.func3, Tryd.ntmps3
  go_wp2_with (first | (have hx := hl2; clear hx; refine wpList_bx _ rfl _ _ rfl _ rfl ?_; intro w3 g3 hg3 hl3 B3 b3) | (have hx := hl1; clear hx; refine wpList_bx _ rfl _ _ rfl _ rfl ?_; intro w2 g2 hg2 hl2 B2 b2) | (refine wpList_bx _ rfl _ _ rfl _ rfl ?_; intro w1 g1 hg1 hl1 B1 b1))
  have c3 := grow_trans (grow_trans b1 b2) b3
  have HS3 : Hid (∀ w', Below w3.heap.size w3 w' → w'.rangeAt g1 0 (B K).toList ∧ w'.rangeAt g2 0 (B A).toList ∧ w'.rangeAt g3 0 (B C).toList) := by
    intro w' hw'
    exact ⟨(((B1.grow b2).grow b3).grow hw').range, ((B2.grow b3).grow hw').range, (B3.grow hw').range⟩
  have HB1 : Hid (∀ w', Below w3.heap.size w3 w' → Blk w' g1 24 (B K)) := fun w' hw' => ((B1.grow b2).grow b3).grow hw'
  have HO : Hid (w3.ownsRow w3.heap.size 25 1 (.slice none 0 0) 0 (vals ps [])) := World.ownsRow_nil _ _ _ _
  have HLE : Hid (Lent ps w3.heap.size [] w3) := ⟨fun j hj => by simp at hj, fun j hj => by simp at hj, fun i j hi => by simp at hi⟩
  clear B1 B2 B3 b1 b2 b3 hg1 hg2 hg3 hl1 hl2 hl3
  go_loopw [13, 14] (fun s i wr => ∃ (k : Nat) (gs : List Nat) (ta : Option Addr) (tc : Nat), k ≤ ps.length ∧ i = .int .i64 k ∧ s = .slice ta k tc ∧ Hid (gs.length = k) ∧ Hid (wr.ownsRow w3.heap.size 25 1 s k (vals ps gs)) ∧ Hid (Lent ps w3.heap.size gs wr) ∧ Below w3.heap.size w3 wr) (fun _ i _ => ps.length - (intOf i).toNat)
  case atStart => exact ⟨0, [], none, 0, by omega, rfl, rfl, rfl, HO, HLE, Below.refl _ _⟩
  case round =>
    clear HO HLE
    obtain ⟨k, gs, ta, tc, hk, rfl, rfl, hgk, hO, hLt, hb⟩ := hrel
    by_cases hlt : k < ps.length
    · obtain ⟨b, off, rfl, hcc⟩ := HCL.out (by omega)
      have hb0 := grow_trans c3 hb
      have hx := hcc k hlt
      have hx1 := (hb0.cell (p := ⟨b, off + k, none⟩) (block_lt_of_cell hx)).trans hx
      have HRK := hidden ((HRD.out k hlt).grow hb0)
      have hle : (ps.getD k []).length ≤ 140737488355328 := by
        have h1 := lens_succ ps k hlt
        have h2 := lens_le ps (k + 1)
        omega
      clear hx hcc
      generalize hzk : ps.getD k [] = zk at *
      have HZK := hidden hzk
      clear hzk
      go_wp2_with fail
      refine (lent_any _ zk _ HRK.out hle).mono ?_
      rintro e w1 ⟨rfl, hr1, hb1, hs1⟩
      have HS1 := hidden hs1
      have HR1 := hidden hr1
      clear hs1 hr1
      go_wp2_with (at_builtin; refine wpList_appS _ rfl _ _ rfl w3.heap.size (.slice ta k tc) k (vals ps gs) (ownsRow_below hO.out (grow_trans hb1 (grow_alloc _ _))) rfl _ 1 1 [_] rfl rfl (one_new _ _ _) (by simp [Value.oneCell']) (by omega) (by have h1 := hb.size; have h2 := hb1.size; simp; omega) ?_; intro v' w' h1 h2)
      have hLt1 : Lent ps w3.heap.size (gs ++ [wr.heap.size]) w1 := by
        have hg := hgk.out
        refine hLt.out.snoc hb1 ?_ hb.size
        rw [hg, HZK.out]
        exact HR1.out
      have hO' : w'.ownsRow w3.heap.size 25 1 v' (k + 1) (vals ps (gs ++ [wr.heap.size])) := by
        rw [vals_snoc]
        have hg := hgk.out
        unfold lentV
        rw [hg, HZK.out]
        exact h1
      have hLt' : Lent ps w3.heap.size (gs ++ [wr.heap.size]) w' := by
        refine (hLt1.grow (grow_alloc w1 _)).step h2 ?_
        intro j hj
        exact owns_block (ownsRow_below hO.out (grow_trans hb1 (grow_alloc _ _))) hj
      have hb' : Below w3.heap.size w3 w' := by
        refine ((grow_trans (grow_trans hb hb1) (grow_alloc w1 _))).grown h2 (by have h1 := hb.size; have h2 := hb1.size; simp; omega) ?_
        intro j hj
        obtain ⟨_, h3⟩ := hO.out
        rcases h3 with ⟨e, _⟩ | ⟨g, _, _, e, hge, _⟩
        · rw [e] at hj; simp [Value.ownBlock] at hj
        · rw [e] at hj; simp only [Value.ownBlock, Option.some.injEq] at hj; omega
      obtain ⟨ta', tc', hv', _⟩ := ownsRow_slice hO'
      exact ⟨⟨k + 1, gs ++ [wr.heap.size], ta', tc', by omega, by go_num, hv', by show _ = _; have := hgk.out; simp [this], hO', hLt', hb'⟩, by simp [intOf]; omega⟩
    · have hke : k = ps.length := by omega
      subst hke
      have hbys : ∀ j, Bytes (ps.getD j []) := by
        intro j
        by_cases hj : j < ps.length
        · obtain ⟨_, _, _, _, _, hb, _⟩ := HRD.out j hj
          exact hb
        · simp only [List.getD, List.getElem?_eq_none (Nat.le_of_not_lt hj), Option.getD_none]
          exact Bytes.nil
      have hPL := lent_parts hbys hn hgk.out hLt.out hO.out
      obtain ⟨w4, rfl⟩ : ∃ x, x = wr := ⟨_, rfl⟩
      have c4 := grow_trans c3 hb
      go_wp2_with fail
      refine (lent_any _ zs w4 (HU0.out.grow c4) (by omega)).mono ?_
      rintro e w5 ⟨rfl, row5, b5, s5⟩
      have c5 := grow_trans c4 b5
      have hb5 := grow_trans hb b5
      obtain ⟨gp, hgp⟩ : ∃ gp, gp = w4.heap.size := ⟨_, rfl⟩
      rw [← hgp] at row5 ⊢
      have RP : Hid (∀ w', Below w5.heap.size w5 w' → Reads w' (.slice (some ⟨gp, 0, none⟩) zs.length (zs.length + 5)) zs) := by
        intro w' hw'
        have h1 := Own.mk (base := 0) HZB.out (marks_bytes zs.length) (by rw [marks_length]; simp only [maxLen]; omega) (Nat.zero_le _) row5
        rw [marks_length] at h1
        exact (h1.grow hw').reads
      have RW : Hid (∀ w', Below w5.heap.size w5 w' → Row w' gp (zs ++ marks zs.length)) := fun w' hw' => row5.of_block (hw'.block _ row5.lt)
      have RU : Hid (∀ w', Below w5.heap.size w5 w' → Reads w' (.slice ua zs.length uc) zs) := fun w' hw' => HU0.out.grow (grow_trans c5 hw')
      have LW : Hid (∀ w', Below w5.heap.size w5 w' → Laid w') := fun w' hw' => HL0.out.grow (grow_trans c5 hw')
      have HS : Hid (∀ w', Below w5.heap.size w5 w' → w'.rangeAt g1 0 (B K).toList ∧ w'.rangeAt g2 0 (B A).toList ∧ w'.rangeAt g3 0 (B C).toList) := fun w' hw' => HS3.out w' (grow_trans hb5 hw')
      have HB : Hid (∀ w', Below w5.heap.size w5 w' → Blk w' g1 24 (B K)) := fun w' hw' => HB1.out w' (grow_trans hb5 hw')
      have PL : Hid (∀ w', Below w5.heap.size w5 w' → Parts w' (.slice ta ps.length tc) ps) := fun w' hw' => hPL.grow (grow_trans b5 hw')
      have PV : Hid (∀ w', Below w5.heap.size w5 w' → Parts w' (.slice a ps.length cap) ps) := fun w' hw' => HP0.out.grow (grow_trans c5 hw')
      have HLn := hidden (hLt.out.grow b5)
      have HOw := hidden (ownsRow_below hO.out b5)
      have HBY := hidden hbys
      obtain ⟨DO, hDO⟩ : ∃ D, D = dig (t :: ps.flatten) := ⟨_, rfl⟩
      obtain ⟨D0, hD0⟩ : ∃ D, D = dig [0] := ⟨_, rfl⟩
      obtain ⟨DV, hDV⟩ : ∃ D, D = dig (3 :: zs) := ⟨_, rfl⟩
      obtain ⟨DL, hDL⟩ : ∃ D, D = dig (1 :: (K ++ A)) := ⟨_, rfl⟩
      obtain ⟨DI, hDI⟩ : ∃ D, D = dig (2 :: (A ++ C)) := ⟨_, rfl⟩
      have EQO : ∀ w, (Op.equalIn 10000 26 (.agg (B DO)) (.agg (B DO))).run Tryd.prog w = .ok true w := by rw [hDO]; exact hash_same _ (dig_length _)
      have EQ0 : ∀ w, (Op.equalIn 10000 26 (.agg (B D0)) (.agg (B D0))).run Tryd.prog w = .ok true w := by rw [hD0]; exact hash_same _ (dig_length _)
      have EQV : ∀ w, (Op.equalIn 10000 26 (.agg (B DV)) (.agg (B DV))).run Tryd.prog w = .ok true w := by rw [hDV]; exact hash_same _ (dig_length _)
      have EQL : ∀ w, (Op.equalIn 10000 26 (.agg (B DL)) (.agg (B DL))).run Tryd.prog w = .ok true w := by rw [hDL]; exact hash_same _ (dig_length _)
      have EQI : ∀ w, (Op.equalIn 10000 26 (.agg (B DI)) (.agg (B DI))).run Tryd.prog w = .ok true w := by rw [hDI]; exact hash_same _ (dig_length _)
      have cO : Hid (∀ w', Below w5.heap.size w5 w' → Calls Tryd.prog 7 #[.int .u8 t, .slice ta ps.length tc] w' fun e w'' => e = .returned (.agg (B DO)) ∧ Below w'.heap.size w' w'') := by
        intro w' hw'
        rw [hDO]
        exact of_any t _ ps w' t0 t1 (PL.out w' hw') (LW.out w' hw') (by omega)
      have rO : Hid (∀ w', Below w5.heap.size w5 w' → Calls Tryd.prog 8 #[.int .u8 t, .slice a ps.length cap] w' fun e w'' => e = .returned (.agg (B DO)) ∧ Below w'.heap.size w' w'') := by
        intro w' hw'
        rw [hDO]
        exact refOf_any t _ ps w' t0 t1 (PV.out w' hw') (by omega)
      have cE : Hid (∀ w', Below w5.heap.size w5 w' → Calls Tryd.prog 9 #[] w' fun e w'' => e = .returned (.agg (B D0)) ∧ Below w'.heap.size w' w'') := by
        intro w' hw'
        rw [hD0]
        exact empty_any w' (LW.out w' hw')
      have rE : Hid (∀ w', Below w5.heap.size w5 w' → Calls Tryd.prog 10 #[] w' fun e w'' => e = .returned (.agg (B D0)) ∧ Below w'.heap.size w' w'') := by
        intro w' hw'
        rw [hD0]
        exact refEmpty_any w'
      have cV : Hid (∀ w', Below w5.heap.size w5 w' → Calls Tryd.prog 11 #[.slice (some ⟨gp, 0, none⟩) zs.length (zs.length + 5)] w' fun e w'' => e = .returned (.agg (B DV)) ∧ Below w'.heap.size w' w'') := by
        intro w' hw'
        rw [hDV]
        exact value_any _ zs w' (RP.out w' hw') (LW.out w' hw') (by omega)
      have rV : Hid (∀ w', Below w5.heap.size w5 w' → Calls Tryd.prog 12 #[.slice ua zs.length uc] w' fun e w'' => e = .returned (.agg (B DV)) ∧ Below w'.heap.size w' w'') := by
        intro w' hw'
        rw [hDV]
        exact refValue_any _ zs w' (RU.out w' hw') (by omega)
      have cL : Hid (∀ w', Below w5.heap.size w5 w' → Calls Tryd.prog 13 #[.agg (B K), .agg (B A)] w' fun e w'' => e = .returned (.agg (B DL)) ∧ Below w'.heap.size w' w'') := by
        intro w' hw'
        rw [hDL]
        exact leaf_any K A w' HK.out HA.out BK.out BA.out (LW.out w' hw')
      have rL : Hid (∀ w', Below w5.heap.size w5 w' → Calls Tryd.prog 14 #[.agg (B K), .agg (B A)] w' fun e w'' => e = .returned (.agg (B DL)) ∧ Below w'.heap.size w' w'') := by
        intro w' hw'
        rw [hDL]
        exact refLeaf_any K A w' HK.out HA.out BK.out BA.out
      have cI : Hid (∀ w', Below w5.heap.size w5 w' → Calls Tryd.prog 15 #[.agg (B A), .agg (B C)] w' fun e w'' => e = .returned (.agg (B DI)) ∧ Below w'.heap.size w' w'') := by
        intro w' hw'
        rw [hDI]
        exact inner_any A C w' HA.out HC.out BA.out BC.out (LW.out w' hw')
      have rI : Hid (∀ w', Below w5.heap.size w5 w' → Calls Tryd.prog 16 #[.agg (B A), .agg (B C)] w' fun e w'' => e = .returned (.agg (B DI)) ∧ Below w'.heap.size w' w'') := by
        intro w' hw'
        rw [hDI]
        exact refInner_any A C w' HA.out HC.out BA.out BC.out
      obtain ⟨DE, ee, hDE, cEn, cRE⟩ : ∃ (DE : List Int) (ee : Int), DE.length = 32 ∧ Hid (∀ w', Below w5.heap.size w5 w' → Calls Tryd.prog 17 #[.agg (B K), .slice (some ⟨gp, 0, none⟩) zs.length (zs.length + 5)] w' fun e w'' => e = .returned (.tuple #[.agg (B DE), .int .i64 ee]) ∧ Below w'.heap.size w' w'') ∧ Hid (∀ w', Below w5.heap.size w5 w' → Calls Tryd.prog 18 #[.agg (B K), .slice ua zs.length uc] w' fun e w'' => e = .returned (.tuple #[.agg (B DE), .int .i64 ee]) ∧ Below w'.heap.size w' w'') := by
        by_cases hlong : 1024 < zs.length
        · exact ⟨List.replicate 32 0, 4, by simp, fun w' hw' => entry_long K _ zs w' (RP.out w' hw') hlong (by omega), fun w' hw' => refEntry_long K _ zs w' (RU.out w' hw') hlong (by omega)⟩
        · exact ⟨dig (1 :: (K ++ dig (3 :: zs))), 0, dig_length _, fun w' hw' => entry_short K _ zs w' HK.out BK.out (RP.out w' hw') (LW.out w' hw') (by omega), fun w' hw' => refEntry_short K _ zs w' HK.out BK.out (RU.out w' hw') (by omega)⟩
      have EQE : ∀ w, (Op.equalIn 10000 26 (.agg (B DE)) (.agg (B DE))).run Tryd.prog w = .ok true w := hash_same DE hDE
      have HEZ : Hid ((B DE).size = 32) := by rw [B_size]; exact hDE
      have hee : (ee != ee) = false := by simp
      have hd5 : Below w5.heap.size w5 w5.drew := (Below.refl _ _).drew
      clear hDO hD0 hDV hDL hDI hDE hPL hO hLt hbys hgp row5 s5 b5 hb c4
      go_upto_region 7 with fail
      go_cut [73] from 37 (fun s wx => s = .bool false ∧ Below w5.heap.size w5 wx)
      case first =>
        refine wp_region_held_drew (S := fun w' => w'.rangeAt g1 0 (B K).toList ∧ w'.rangeAt g2 0 (B A).toList ∧ w'.rangeAt g3 0 (B C).toList) (by kernel_rfl) (HS.out _ hd5) (fun hHeld => ?_)
        refine wpAnyH_take (i := 0) (v := .int .u8 t) rfl (by kernel_rfl) (by kernel_rfl) (by kernel_rfl) (fun _ _ _ h => h) (Or.inl ⟨by rfl, fun w hS => by go_simp⟩) hHeld ?_
        simp only [Act.put, List.getElem_toArray, List.getElem_cons_zero, List.setIfInBounds_toArray, List.set_cons_zero, List.set_cons_succ]
        refine wpAnyH_take (i := 1) (v := .slice ta ps.length tc) rfl (by kernel_rfl) (by kernel_rfl) (by kernel_rfl) (fun _ _ _ h => h) (Or.inl ⟨by rfl, fun w hS => by go_simp⟩) hHeld ?_
        simp only [Act.put, List.getElem_toArray, List.getElem_cons_zero, List.getElem_cons_succ, List.setIfInBounds_toArray, List.set_cons_zero, List.set_cons_succ]
        refine wpAnyH_take (i := 3) (v := .int .u8 t) rfl (by kernel_rfl) (by kernel_rfl) (by kernel_rfl) (fun _ _ _ h => h) (Or.inl ⟨by rfl, fun w hS => by go_simp⟩) hHeld ?_
        simp only [Act.put, List.getElem_toArray, List.getElem_cons_zero, List.getElem_cons_succ, List.setIfInBounds_toArray, List.set_cons_zero, List.set_cons_succ]
        refine wpAnyH_take (i := 4) (v := .slice a ps.length cap) rfl (by kernel_rfl) (by kernel_rfl) (by kernel_rfl) (fun _ _ _ h => h) (Or.inl ⟨by rfl, fun w hS => by go_simp⟩) hHeld ?_
        simp only [Act.put, List.getElem_toArray, List.getElem_cons_zero, List.getElem_cons_succ, List.setIfInBounds_toArray, List.set_cons_zero, List.set_cons_succ]
        refine wpAnyH_ready (rs := [2]) (by kernel_rfl) (by simp) ?_
        refine AllReadyH.cons rfl (fun KQ hK => ?_) AllReadyH.nil
        go_simp
        refine (cO.out _ hd5).mono ?_
        rintro e x1 ⟨rfl, a1⟩
        have d1 := grow_trans hd5 a1
        refine hK.out _ _ (HS.out _ d1) (fun hHeld => ?_)
        clear hK KQ
        refine wpAnyH_ready (rs := [5]) (by kernel_rfl) (by simp) ?_
        refine AllReadyH.cons rfl (fun KQ hK => ?_) AllReadyH.nil
        go_simp
        refine (rO.out _ d1).mono ?_
        rintro e x2 ⟨rfl, a2⟩
        have d2 := grow_trans d1 a2
        refine hK.out _ _ (HS.out _ d2) (fun hHeld => ?_)
        clear hK KQ
        refine wpAnyH_take (i := 6) (v := .bool false) rfl (by kernel_rfl) (by kernel_rfl) (by kernel_rfl) (fun _ _ _ h => h) (Or.inl ⟨by rfl, fun w hS => by go_simp⟩) hHeld ?_
        simp only [Act.put, List.getElem_toArray, List.getElem_cons_zero, List.getElem_cons_succ, List.setIfInBounds_toArray, List.set_cons_zero, List.set_cons_succ]
        refine wpAnyH_take (i := 7) (v := .bool false) rfl (by kernel_rfl) (by kernel_rfl) (by kernel_rfl) (fun _ _ _ h => h) (Or.inl ⟨by rfl, fun w hS => by go_simp⟩) hHeld ?_
        simp only [Act.put, List.getElem_toArray, List.getElem_cons_zero, List.getElem_cons_succ, List.setIfInBounds_toArray, List.set_cons_zero, List.set_cons_succ]
        refine wpAnyH_ready (rs := [8]) (by kernel_rfl) (by simp) ?_
        refine AllReadyH.cons rfl (fun KQ hK => ?_) AllReadyH.nil
        go_simp
        refine (cE.out _ d2).mono ?_
        rintro e x3 ⟨rfl, a3⟩
        have d3 := grow_trans d2 a3
        refine hK.out _ _ (HS.out _ d3) (fun hHeld => ?_)
        clear hK KQ
        refine wpAnyH_ready (rs := [9]) (by kernel_rfl) (by simp) ?_
        refine AllReadyH.cons rfl (fun KQ hK => ?_) AllReadyH.nil
        go_simp
        refine (rE.out _ d3).mono ?_
        rintro e x4 ⟨rfl, a4⟩
        have d4 := grow_trans d3 a4
        refine hK.out _ _ (HS.out _ d4) (fun hHeld => ?_)
        clear hK KQ
        refine wpAnyH_take (i := 10) (v := .bool false) rfl (by kernel_rfl) (by kernel_rfl) (by kernel_rfl) (fun _ _ _ h => h) (Or.inl ⟨by rfl, fun w hS => by go_simp⟩) hHeld ?_
        simp only [Act.put, List.getElem_toArray, List.getElem_cons_zero, List.getElem_cons_succ, List.setIfInBounds_toArray, List.set_cons_zero, List.set_cons_succ]
        refine wpAnyH_take (i := 11) (v := .bool false) rfl (by kernel_rfl) (by kernel_rfl) (by kernel_rfl) (fun _ _ _ h => h) (Or.inl ⟨by rfl, fun w hS => by go_simp⟩) hHeld ?_
        simp only [Act.put, List.getElem_toArray, List.getElem_cons_zero, List.getElem_cons_succ, List.setIfInBounds_toArray, List.set_cons_zero, List.set_cons_succ]
        refine wpAnyH_take (i := 12) (v := .bool false) rfl (by kernel_rfl) (by kernel_rfl) (by kernel_rfl) (fun _ _ _ h => h) (Or.inl ⟨by rfl, fun w hS => by go_simp⟩) hHeld ?_
        simp only [Act.put, List.getElem_toArray, List.getElem_cons_zero, List.getElem_cons_succ, List.setIfInBounds_toArray, List.set_cons_zero, List.set_cons_succ]
        refine wpAnyH_take (i := 13) (v := .slice (some ⟨gp, 0, none⟩) zs.length (zs.length + 5)) rfl (by kernel_rfl) (by kernel_rfl) (by kernel_rfl) (fun _ _ _ h => h) (Or.inl ⟨by rfl, fun w hS => by go_simp⟩) hHeld ?_
        simp only [Act.put, List.getElem_toArray, List.getElem_cons_zero, List.getElem_cons_succ, List.setIfInBounds_toArray, List.set_cons_zero, List.set_cons_succ]
        refine wpAnyH_take (i := 15) (v := .slice ua zs.length uc) rfl (by kernel_rfl) (by kernel_rfl) (by kernel_rfl) (fun _ _ _ h => h) (Or.inl ⟨by rfl, fun w hS => by go_simp⟩) hHeld ?_
        simp only [Act.put, List.getElem_toArray, List.getElem_cons_zero, List.getElem_cons_succ, List.setIfInBounds_toArray, List.set_cons_zero, List.set_cons_succ]
        refine wpAnyH_ready (rs := [14]) (by kernel_rfl) (by simp) ?_
        refine AllReadyH.cons rfl (fun KQ hK => ?_) AllReadyH.nil
        go_simp
        refine (cV.out _ d4).mono ?_
        rintro e x5 ⟨rfl, a5⟩
        have d5 := grow_trans d4 a5
        refine hK.out _ _ (HS.out _ d5) (fun hHeld => ?_)
        clear hK KQ
        refine wpAnyH_ready (rs := [16]) (by kernel_rfl) (by simp) ?_
        refine AllReadyH.cons rfl (fun KQ hK => ?_) AllReadyH.nil
        go_simp
        refine (rV.out _ d5).mono ?_
        rintro e x6 ⟨rfl, a6⟩
        have d6 := grow_trans d5 a6
        refine hK.out _ _ (HS.out _ d6) (fun hHeld => ?_)
        clear hK KQ
        refine wpAnyH_take (i := 17) (v := .bool false) rfl (by kernel_rfl) (by kernel_rfl) (by kernel_rfl) (fun _ _ _ h => h) (Or.inl ⟨by rfl, fun w hS => by go_simp⟩) hHeld ?_
        simp only [Act.put, List.getElem_toArray, List.getElem_cons_zero, List.getElem_cons_succ, List.setIfInBounds_toArray, List.set_cons_zero, List.set_cons_succ]
        refine wpAnyH_take (i := 18) (v := .bool false) rfl (by kernel_rfl) (by kernel_rfl) (by kernel_rfl) (fun _ _ _ h => h) (Or.inl ⟨by rfl, fun w hS => by go_simp⟩) hHeld ?_
        simp only [Act.put, List.getElem_toArray, List.getElem_cons_zero, List.getElem_cons_succ, List.setIfInBounds_toArray, List.set_cons_zero, List.set_cons_succ]
        refine wpAnyH_take (i := 19) (v := .bool false) rfl (by kernel_rfl) (by kernel_rfl) (by kernel_rfl) (fun _ _ _ h => h) (Or.inl ⟨by rfl, fun w hS => by go_simp⟩) hHeld ?_
        simp only [Act.put, List.getElem_toArray, List.getElem_cons_zero, List.getElem_cons_succ, List.setIfInBounds_toArray, List.set_cons_zero, List.set_cons_succ]
        refine wpAnyH_take (i := 20) (v := .agg (B K)) rfl (by kernel_rfl) (by kernel_rfl) (by kernel_rfl) (fun _ _ _ h => h) (yieldsIf_load_mid rfl 24 (.tmp 8) rfl g1 0 rfl (B K).toList _ (fun w hS => hS.1) hu1 rfl hiK) hHeld ?_
        simp only [Act.put, List.getElem_toArray, List.getElem_cons_zero, List.getElem_cons_succ, List.setIfInBounds_toArray, List.set_cons_zero, List.set_cons_succ]
        refine wpAnyH_take (i := 21) (v := .agg (B A)) rfl (by kernel_rfl) (by kernel_rfl) (by kernel_rfl) (fun _ _ _ h => h) (yieldsIf_load_mid rfl 26 (.tmp 10) rfl g2 0 rfl (B A).toList _ (fun w hS => hS.2.1) hu2 rfl hiA) hHeld ?_
        simp only [Act.put, List.getElem_toArray, List.getElem_cons_zero, List.getElem_cons_succ, List.setIfInBounds_toArray, List.set_cons_zero, List.set_cons_succ]
        refine wpAnyH_take (i := 23) (v := .agg (B K)) rfl (by kernel_rfl) (by kernel_rfl) (by kernel_rfl) (fun _ _ _ h => h) (yieldsIf_load_mid rfl 24 (.tmp 8) rfl g1 0 rfl (B K).toList _ (fun w hS => hS.1) hu1 rfl hiK) hHeld ?_
        simp only [Act.put, List.getElem_toArray, List.getElem_cons_zero, List.getElem_cons_succ, List.setIfInBounds_toArray, List.set_cons_zero, List.set_cons_succ]
        refine wpAnyH_take (i := 24) (v := .agg (B A)) rfl (by kernel_rfl) (by kernel_rfl) (by kernel_rfl) (fun _ _ _ h => h) (yieldsIf_load_mid rfl 26 (.tmp 10) rfl g2 0 rfl (B A).toList _ (fun w hS => hS.2.1) hu2 rfl hiA) hHeld ?_
        simp only [Act.put, List.getElem_toArray, List.getElem_cons_zero, List.getElem_cons_succ, List.setIfInBounds_toArray, List.set_cons_zero, List.set_cons_succ]
        refine wpAnyH_ready (rs := [22]) (by kernel_rfl) (by simp) ?_
        refine AllReadyH.cons rfl (fun KQ hK => ?_) AllReadyH.nil
        go_simp
        refine (cL.out _ d6).mono ?_
        rintro e x7 ⟨rfl, a7⟩
        have d7 := grow_trans d6 a7
        refine hK.out _ _ (HS.out _ d7) (fun hHeld => ?_)
        clear hK KQ
        refine wpAnyH_ready (rs := [25]) (by kernel_rfl) (by simp) ?_
        refine AllReadyH.cons rfl (fun KQ hK => ?_) AllReadyH.nil
        go_simp
        refine (rL.out _ d7).mono ?_
        rintro e x8 ⟨rfl, a8⟩
        have d8 := grow_trans d7 a8
        refine hK.out _ _ (HS.out _ d8) (fun hHeld => ?_)
        clear hK KQ
        refine wpAnyH_take (i := 26) (v := .bool false) rfl (by kernel_rfl) (by kernel_rfl) (by kernel_rfl) (fun _ _ _ h => h) (Or.inl ⟨by rfl, fun w hS => by go_simp⟩) hHeld ?_
        simp only [Act.put, List.getElem_toArray, List.getElem_cons_zero, List.getElem_cons_succ, List.setIfInBounds_toArray, List.set_cons_zero, List.set_cons_succ]
        refine wpAnyH_take (i := 27) (v := .bool false) rfl (by kernel_rfl) (by kernel_rfl) (by kernel_rfl) (fun _ _ _ h => h) (Or.inl ⟨by rfl, fun w hS => by go_simp⟩) hHeld ?_
        simp only [Act.put, List.getElem_toArray, List.getElem_cons_zero, List.getElem_cons_succ, List.setIfInBounds_toArray, List.set_cons_zero, List.set_cons_succ]
        refine wpAnyH_take (i := 28) (v := .bool false) rfl (by kernel_rfl) (by kernel_rfl) (by kernel_rfl) (fun _ _ _ h => h) (Or.inl ⟨by rfl, fun w hS => by go_simp⟩) hHeld ?_
        simp only [Act.put, List.getElem_toArray, List.getElem_cons_zero, List.getElem_cons_succ, List.setIfInBounds_toArray, List.set_cons_zero, List.set_cons_succ]
        refine wpAnyH_take (i := 29) (v := .agg (B A)) rfl (by kernel_rfl) (by kernel_rfl) (by kernel_rfl) (fun _ _ _ h => h) (yieldsIf_load_mid rfl 26 (.tmp 10) rfl g2 0 rfl (B A).toList _ (fun w hS => hS.2.1) hu2 rfl hiA) hHeld ?_
        simp only [Act.put, List.getElem_toArray, List.getElem_cons_zero, List.getElem_cons_succ, List.setIfInBounds_toArray, List.set_cons_zero, List.set_cons_succ]
        refine wpAnyH_take (i := 30) (v := .agg (B C)) rfl (by kernel_rfl) (by kernel_rfl) (by kernel_rfl) (fun _ _ _ h => h) (yieldsIf_load_mid rfl 26 (.tmp 11) rfl g3 0 rfl (B C).toList _ (fun w hS => hS.2.2) hu2 rfl hiC) hHeld ?_
        simp only [Act.put, List.getElem_toArray, List.getElem_cons_zero, List.getElem_cons_succ, List.setIfInBounds_toArray, List.set_cons_zero, List.set_cons_succ]
        refine wpAnyH_take (i := 32) (v := .agg (B A)) rfl (by kernel_rfl) (by kernel_rfl) (by kernel_rfl) (fun _ _ _ h => h) (yieldsIf_load_mid rfl 26 (.tmp 10) rfl g2 0 rfl (B A).toList _ (fun w hS => hS.2.1) hu2 rfl hiA) hHeld ?_
        simp only [Act.put, List.getElem_toArray, List.getElem_cons_zero, List.getElem_cons_succ, List.setIfInBounds_toArray, List.set_cons_zero, List.set_cons_succ]
        refine wpAnyH_take (i := 33) (v := .agg (B C)) rfl (by kernel_rfl) (by kernel_rfl) (by kernel_rfl) (fun _ _ _ h => h) (yieldsIf_load_mid rfl 26 (.tmp 11) rfl g3 0 rfl (B C).toList _ (fun w hS => hS.2.2) hu2 rfl hiC) hHeld ?_
        simp only [Act.put, List.getElem_toArray, List.getElem_cons_zero, List.getElem_cons_succ, List.setIfInBounds_toArray, List.set_cons_zero, List.set_cons_succ]
        refine wpAnyH_ready (rs := [31]) (by kernel_rfl) (by simp) ?_
        refine AllReadyH.cons rfl (fun KQ hK => ?_) AllReadyH.nil
        go_simp
        refine (cI.out _ d8).mono ?_
        rintro e x9 ⟨rfl, a9⟩
        have d9 := grow_trans d8 a9
        refine hK.out _ _ (HS.out _ d9) (fun hHeld => ?_)
        clear hK KQ
        refine wpAnyH_ready (rs := [34]) (by kernel_rfl) (by simp) ?_
        refine AllReadyH.cons rfl (fun KQ hK => ?_) AllReadyH.nil
        go_simp
        refine (rI.out _ d9).mono ?_
        rintro e x10 ⟨rfl, a10⟩
        have d10 := grow_trans d9 a10
        refine hK.out _ _ (HS.out _ d10) (fun hHeld => ?_)
        clear hK KQ
        refine wpAnyH_take (i := 35) (v := .bool false) rfl (by kernel_rfl) (by kernel_rfl) (by kernel_rfl) (fun _ _ _ h => h) (Or.inl ⟨by rfl, fun w hS => by go_simp⟩) hHeld ?_
        simp only [Act.put, List.getElem_toArray, List.getElem_cons_zero, List.getElem_cons_succ, List.setIfInBounds_toArray, List.set_cons_zero, List.set_cons_succ]
        refine wpAnyH_take (i := 36) (v := .bool false) rfl (by kernel_rfl) (by kernel_rfl) (by kernel_rfl) (fun _ _ _ h => h) (Or.inl ⟨by rfl, fun w hS => by go_simp⟩) hHeld ?_
        simp only [Act.put, List.getElem_toArray, List.getElem_cons_zero, List.getElem_cons_succ, List.setIfInBounds_toArray, List.set_cons_zero, List.set_cons_succ]
        refine wpAnyH_done (by kernel_rfl) ?_ _
        go_wp2_with fail
        go_meet
        case rel => exact ⟨rfl, d10⟩
      case rest =>
        obtain ⟨rfl, k6⟩ := hcut
        obtain ⟨w6, rfl⟩ : ∃ x, x = wc := ⟨_, rfl⟩
        clear cO rO cE rE cV rV cL rL cI rI EQO EQ0 EQV EQL EQI HS3 HB1
        have HB6 := hidden (HB.out w6 k6)
        have KU : Hid (∀ w', Below w5.heap.size w5 w' → Calls Tryd.prog 19 #[.slice (some ⟨gp, 0, none⟩) zs.length (zs.length + 5), .slice ua zs.length uc] w' fun e w'' => e = .returned (.bool true) ∧ Below w'.heap.size w' w'') := fun w' hw' => kept_true gp _ zs w' (RW.out w' hw') (RU.out w' hw') (by omega)
        go_wp2_with (first
          | (refine wpList_ld _ rfl _ _ rfl g1 _ rfl HB6.out _ _ Tryd.underlying24 (by rw [HKZ.out]; kernel_rfl) ?_)
          | (go_at_call 17; refine (cEn.out w6 k6).mono ?_; rintro e w7 ⟨rfl, b7⟩; have k7 := grow_trans k6 b7)
          | (have hx := b10; clear hx; refine wpList_al _ rfl _ rfl _ zero_b32 ?_; intro w11 g11 hg11 hl11 B11 b11)
          | (refine wpList_al _ rfl _ rfl _ zero_hash ?_; intro w8 g8 hg8 hl8 B8 b8)
          | (refine wpList_sto _ rfl _ _ _ rfl g8 _ _ rfl rfl B8 (by rw [HEZ.out]; exact size_hash) (by rw [HEZ.out, B_size]; simp) (B_one _) ?_; intro w9 B9 gr9; have k9 := below_row (grow_trans k7 b8) gr9 (Nat.le_trans k7.size hg8); have HB9 := hidden (HB.out w9 k9))
          | (refine wpList_ld _ rfl _ _ rfl g1 _ rfl HB9.out _ _ Tryd.underlying24 (by rw [HKZ.out]; kernel_rfl) ?_)
          | (go_at_call 18; refine (cRE.out w9 k9).mono ?_; rintro e w10 ⟨rfl, b10⟩; have k10 := grow_trans k9 b10; have B10 := B9.grow b10)
          | (refine wpList_sto _ rfl _ _ _ rfl g11 _ _ rfl rfl B11 (by rw [HEZ.out]; exact size_b32) (by rw [HEZ.out, B_size]; simp) (B_one _) ?_; intro w12 B12 gr12; have k12 := below_row (grow_trans k10 b11) gr12 (Nat.le_trans k10.size hg11); have B8e := (B10.grow b11).kept gr12 (by have := B10.lt; omega))
          | (refine wpList_ld _ rfl _ _ rfl g8 _ rfl B8e _ _ Tryd.underlying26 (by rw [HEZ.out]; exact size_hash) ?_)
          | (refine wpList_ld _ rfl _ _ rfl g11 _ rfl B12 _ _ Tryd.underlying23 (by rw [HEZ.out]; exact size_b32) ?_)
          | (go_at_call 19; refine (KU.out w12 k12).mono ?_; rintro e w13 ⟨rfl, b13⟩; have k13 := grow_trans k12 b13))
        have c13 := grow_trans c5 k13
        have HL13 := hidden (HLn.out.grow k13)
        have HW13 := hidden (ownsRow_below HOw.out k13)
        have HLS : Hid (∀ j, (ps.getD j []).length ≤ 1048576) := by
          intro j
          by_cases hj : j < ps.length
          · have h1 := lens_succ ps j hj
            have h2 := lens_le ps (j + 1)
            omega
          · simp only [List.getD, List.getElem?_eq_none (Nat.le_of_not_lt hj), Option.getD_none, List.length_nil]
            omega
        clear cEn cRE EQE HEZ hee KU HB HB6 HB9 B8e B10 B12 HLn HOw RP RW RU LW HS PL PV B9 B8 B11 b13 k12 k10 b10 b11 b8 b7 k7 k9 gr9 gr12 hg8 hl8 hg11 hl11 k6 k13 hd5
        go_loopw [20] (fun i wl => ∃ (j : Nat), j ≤ ps.length ∧ i = .int .i64 j ∧ Below w13.heap.size w13 wl) (fun i _ => ps.length - (intOf i).toNat)
        case atStart => exact ⟨0, by omega, rfl, Below.refl _ _⟩
        case round =>
          obtain ⟨j, hj, rfl, hbl⟩ := hrel
          by_cases hlt2 : j < ps.length
          · obtain ⟨b, off, rfl, hcc⟩ := HCL.out (by omega)
            obtain ⟨gt, hgt⟩ : ∃ gt, ta = some ⟨gt, 0, none⟩ := by
              obtain ⟨_, h2⟩ := HW13.out
              rcases h2 with ⟨e, e2⟩ | ⟨g, _, _, e, _⟩
              · omega
              · injection e with e1
                exact ⟨g, e1⟩
            subst hgt
            have hc1 : w13.cell? ⟨gt, 0 + j, none⟩ = some (lentV ps j (gs.getD j 0)) := by
              have := HW13.out.cells (g := gt) rfl j _ (vals_get ps gs j (by have := hgk.out; omega))
              rw [Addr.add_lit] at this
              exact this
            rw [Nat.zero_add] at hc1
            have hc2 := hcc j hlt2
            have HS7 : Hid (∀ w', Below w13.heap.size w13 w' → w'.cell? ⟨gt, j, none⟩ = some (lentV ps j (gs.getD j 0)) ∧ w'.cell? ⟨b, off + j, none⟩ = some (V j)) := by
              intro w' hw'
              have hbx := grow_trans c13 hw'
              exact ⟨(hw'.cell (p := ⟨gt, j, none⟩) (block_lt_of_cell hc1)).trans hc1, (hbx.cell (p := ⟨b, off + j, none⟩) (block_lt_of_cell hc2)).trans hc2⟩
            have hb1 := grow_trans c13 hbl
            have HKP : Hid (Calls Tryd.prog 19 #[lentV ps j (gs.getD j 0), V j] wr.drew fun e w' => e = .returned (.bool true) ∧ Below w13.heap.size w13 w') := by
              have hrow := ((HL13.out.grow hbl).row j (by have := hgk.out; omega))
              have hrd := (HRD.out j hlt2).grow hb1
              refine (kept_true (gs.getD j 0) (V j) (ps.getD j []) wr.drew hrow.drew (by exact hrd) (by have := HLS.out j; omega)).mono ?_
              rintro e w' ⟨rfl, h2⟩
              exact ⟨rfl, grow_trans hbl (undrew h2)⟩
            have j1 : (j : Int) < (ps.length : Int) := by omega
            have j0 : (0 : Int) ≤ (j : Int) := by omega
            have hbd := hbl.drew
            generalize lentV ps j (gs.getD j 0) = lv at *
            generalize V j = vj at *
            clear hcc hc1 hc2
            go_wp2_with fail
            go_region_held2 (fun w' => w'.cell? ⟨gt, j, none⟩ = some lv ∧ w'.cell? ⟨b, off + j, none⟩ = some vj)
              (first | exact HS7.out _ (by assumption))
              (first | (go_at_call 19; refine HKP.out.mono ?_; rintro e w14 ⟨rfl, hb14⟩))
            go_wp2
            exact ⟨⟨j + 1, by omega, by go_num, by assumption⟩, by simp [intOf]; omega⟩
          · go_wp2
            go_ret
            exact ⟨rfl, grow_trans c13 hbl⟩

end Go.Proofs.YtacfhkaihcclaaaDoor
