/- rootcellarkit.CopyProof, as a contract. -/
import Derived.Test.YtjcklpdifanjlaaDoorOr32
import Derived.Test.YtjcklpdifanjlaaDoorOr35
namespace Go.Proofs.YtjcklpdifanjlaaDoor
set_option maxRecDepth 20000
open Go.RowKit

theorem exec_bld (o : Oper) (a : Act) (ty : TypeId) (parts : Array (Nat × Operand)) (ho : o.op = .build ty parts) (cs : Array Value) (h : Tryd.prog.built ty (parts.map fun (i, x) => (i, a.eval x)).toList = some cs) (w : World) : (execOp a.eval o).run Tryd.prog w = .ok (.value (.agg cs)) w := by
  unfold execOp
  simp only [ho, Sem.run_bind, run_build w ty _ cs h, Result.andThen_ok, Sem.run_pure]

set_option maxHeartbeats 4000000 in
theorem copyProof_any (y : Value) (hs : List (List Int)) (N : List Int) (w : World) (hp : Plc y) (hh : HsAt w y hs) (hn : hs.length ≤ 4096) (hN : N.length = 129) :
    Calls Tryd.prog 30 #[.agg (encR y N).toArray] w fun e w' => ∃ sa sc, e = .returned (.agg (encR (.slice sa hs.length sc) N).toArray) ∧ w'.ownsRow w.heap.size 25 32 (.slice sa hs.length sc) hs.length (flatH hs) ∧ Below w.heap.size w w' := by
  have HCp : Hid (∀ w', Below w.heap.size w w' → Calls Tryd.prog 61 #[y] w' fun e w'' => ∃ sa sc, e = .returned (.slice sa hs.length sc) ∧ w''.ownsRow w'.heap.size 25 32 (.slice sa hs.length sc) hs.length (flatH hs) ∧ Below w'.heap.size w' w'') := fun w' q => copyHashes_any y hs w' hp (hh.grow q) hn
  obtain ⟨ya, yc, rfl, _⟩ := hh
  obtain ⟨fs, hu⟩ := u_node
  have HU := hidden hu
  have HNL : Hid ((Tryd.prog.info? 27).map (·.size) = some (B N).toList.length) := by show _ = _; rw [B_toList, List.length_map, hN]; exact size_node
  obtain ⟨n, hnn⟩ : ∃ n, n = hs.length := ⟨_, rfl⟩
  rw [← hnn] at HCp ⊢
  have HBu : Hid (∀ sa sc, Tryd.prog.built 60 [(0, .slice sa n sc), (1, .agg (B N))] = some (encR (.slice sa n sc) N).toArray) := fun sa sc => built_proof sa n sc N hN
  have HSz : Hid (∀ sa sc, (Tryd.prog.info? 60).map (·.size) = some (encR (.slice sa n sc) N).toArray.size ∧ (encR (.slice none 0 0) (List.replicate 129 0)).toArray.size = (encR (.slice sa n sc) N).toArray.size) := fun sa sc => ⟨encR_sz _ N hN, by simp [encR, hN]⟩
  obtain ⟨fp, hup⟩ := u_proof
  have HUP := hidden hup
  clear hnn hn hp hu hN hup
  go_enter Tryd.func30, Tryd.ntmps30
  go_wp2_with (first
    | ((with_reducible refine at_bxd 1 ?_); refine wpList_bx _ rfl _ _ rfl _ rfl ?_; intro w1 g1 hg1 hl1 B1 b1)
    | ((with_reducible refine at_ald 2 ?_); refine wpList_al _ rfl _ rfl _ zero_proof ?_; intro w2 g2 hg2 hl2 D2 b2; have c2 := grow_trans b1 b2; have D1 := B1.grow b2))
  have d0 : Below w2.heap.size w2 w2.drew := (Below.refl _ _).drew
  have HS : Hid (∀ w', Below w2.heap.size w2 w' → w'.cell? ⟨g1, 0, none⟩ = some (.slice ya n yc) ∧ w'.rangeAt g1 1 (B N).toList) := fun w' q => ⟨proof_side (D1.grow q), by rw [B_toList]; exact proof_end (D1.grow q)⟩
  refine wp_region_last (S := fun w' => w'.cell? ⟨g1, 0, none⟩ = some (.slice ya n yc) ∧ w'.rangeAt g1 1 (B N).toList) 6 (by kernel_rfl) (HS.out _ d0) (fun hHeld => ?_)
  refine wpAnyL_take (i := 0) (v := .pointer (some ⟨g1, 0, none⟩)) rfl (by kernel_rfl) (by kernel_rfl) (by kernel_rfl) (by kernel_rfl) (by kernel_rfl) (fun _ _ _ h => h) (Or.inl ⟨by rfl, fun w hS => by go_simp⟩) hHeld ?_
  simp only [Act.put, List.getElem_toArray, List.getElem_cons_zero, List.setIfInBounds_toArray, List.set_cons_zero, List.set_cons_succ]
  refine wpAnyL_take (i := 1) (v := .slice ya n yc) rfl (by kernel_rfl) (by kernel_rfl) (by kernel_rfl) (by kernel_rfl) (by kernel_rfl) (fun _ _ _ h => h) (Or.inl ⟨by rfl, fun w hS => by (have s1 := hS.1; go_simp)⟩) hHeld ?_
  simp only [Act.put, List.getElem_toArray, List.getElem_cons_zero, List.getElem_cons_succ, List.setIfInBounds_toArray, List.set_cons_zero, List.set_cons_succ]
  refine wpAnyL_take (i := 3) (v := .pointer (some ⟨g1, 1, none⟩)) rfl (by kernel_rfl) (by kernel_rfl) (by kernel_rfl) (by kernel_rfl) (by kernel_rfl) (fun _ _ _ h => h) (Or.inl ⟨by rfl, fun w hS => by go_simp⟩) hHeld ?_
  simp only [Act.put, List.getElem_toArray, List.getElem_cons_zero, List.getElem_cons_succ, List.setIfInBounds_toArray, List.set_cons_zero, List.set_cons_succ]
  refine wpAnyL_take (i := 4) (v := .agg (B N)) rfl (by kernel_rfl) (by kernel_rfl) (by kernel_rfl) (by kernel_rfl) (by kernel_rfl) (fun _ _ _ h => h) (yieldsIf_load_mid rfl 27 (.tmp 6) rfl g1 (1) rfl (B N).toList _ (fun w hS => hS.2) HU.out rfl HNL.out) hHeld ?_
  simp only [Act.put, List.getElem_toArray, List.getElem_cons_zero, List.getElem_cons_succ, List.setIfInBounds_toArray, List.set_cons_zero, List.set_cons_succ]
  refine wpAnyL_one (i := 2) rfl (by kernel_rfl) (fun KQ hK => ?_)
  go_simp
  refine (HCp.out _ (grow_trans c2 (grow_trans (Below.refl _ _).drew (Below.refl _ _)))).mono ?_
  rintro e x1 ⟨sa, sc, rfl, ho, a1⟩
  have d1 := grow_trans d0 a1
  refine hK.out _ _ (HS.out _ d1) (fun hHeld => ?_)
  clear hK KQ
  refine wpAnyL_take (i := 5) (v := .agg (encR (.slice sa n sc) N).toArray) rfl (by kernel_rfl) (by kernel_rfl) (by kernel_rfl) (by kernel_rfl) (by kernel_rfl) (fun _ _ _ h => h) (Or.inl ⟨by rfl, fun w hS => exec_bld _ _ 60 _ (by rfl) _ (by rw [List.map_toArray]; exact HBu.out sa sc) w⟩) hHeld ?_
  simp only [Act.put, List.getElem_toArray, List.getElem_cons_zero, List.getElem_cons_succ, List.setIfInBounds_toArray, List.set_cons_zero, List.set_cons_succ]
  refine wpAnyL_last rfl (by kernel_rfl) (by kernel_rfl) (fun KQ hK => ?_)
  refine step_sto _ rfl _ _ _ rfl g2 _ (encR (.slice sa n sc) N).toArray rfl rfl (D2.grow d1) (HSz.out sa sc).1 (HSz.out sa sc).2 (encR_one _ _ _ _) ?_
  intro x3 B3 r3
  refine hK.out _ _ ?_
  clear hK KQ
  have c3 : Below w.heap.size w x3 := below_row (grow_trans c2 d1) r3 (Nat.le_trans b1.size hg2)
  have hne : (Value.slice sa n sc).ownBlock ≠ some g2 := fun e => by
    have h1 := (ho.lt g2 e).1
    have h2 : w2.heap.size ≤ g2 := h1
    omega
  have ho3 := ho.kept r3 (.inr hne)
  have hle : w.heap.size ≤ w2.drew.heap.size := c2.size
  go_wp2_with fail
  refine bodyPost_ret (v := .agg (encR (.slice sa n sc) N).toArray) (results_cell_row rfl _ _ g2 _ _ _ _ rfl B3 HUP.out rfl (HSz.out sa sc).1) rfl ⟨sa, sc, rfl, ?_, c3⟩
  refine ⟨ho3.1, ho3.2.imp id ?_⟩
  rintro ⟨g, cap, cur, e1, e2, e3⟩
  exact ⟨g, cap, cur, e1, Nat.le_trans hle e2, e3⟩

end Go.Proofs.YtjcklpdifanjlaaDoor

/- The document's Way, as a contract. -/
namespace Go.Proofs.YtjcklpdifanjlaaDoor
set_option maxRecDepth 20000
open Go.RowKit

set_option maxHeartbeats 4000000 in
theorem rway_bad (v : Value) (V : Nat → Value) (es : List Ent) (key : List Int) (w : World) (hv : PrAt w v V es) (hn : es.length ≤ 140737488355328) (hE : errB es ≠ 0) :
    Calls Tryd.prog 28 #[v, .agg (B key)] w (WayPost es key w) := by
  have HLv : Hid (∀ w', Below w.heap.size w w' → Calls Tryd.prog 50 #[v] w' fun e w'' => e = .returned (.int .i64 (errB es)) ∧ Below w'.heap.size w' w'') := fun w' hb => refList_any v V es w' (hv.grow hb) hn
  have HPost : Hid (∀ w', Below w.heap.size w w' → WayPost es key w (.returned (.tuple #[.agg (encR (.slice none 0 0) (nd 0 z32 z32 z32 z32)).toArray, .int .i64 (errB es)])) w') := fun w' hb => by
    refine ⟨none, 0, ?_, ?_, hb⟩
    · rw [wyH, wyN, if_neg hE, if_neg hE]
      rfl
    · rw [wyH, if_neg hE]
      exact World.ownsRow_nil _ _ _ _
  obtain ⟨a, cap, rfl, _, _, _⟩ := hv
  obtain ⟨E, hEE⟩ : ∃ E, E = errB es := ⟨_, rfl⟩
  rw [← hEE] at HLv hE HPost
  have h1 : (E != 0) = true := by simp [hE]
  have h2 : (E == 0) = false := by simp [hE]
  obtain ⟨N, hN⟩ : ∃ N, N = nd 0 z32 z32 z32 z32 := ⟨_, rfl⟩
  have HB : Hid (Tryd.prog.built 60 [] = some (encR (.slice none 0 0) N).toArray) := by rw [hN]; exact built_proof0
  have HSz : Hid ((Tryd.prog.info? 60).map (·.size) = some (encR (.slice none 0 0) N).toArray.size ∧ (encR (.slice none 0 0) (List.replicate 129 0)).toArray.size = (encR (.slice none 0 0) N).toArray.size) := ⟨encR_sz _ N (by rw [hN]; rfl), by rw [hN]; rfl⟩
  rw [← hN] at HPost
  obtain ⟨fp, hup⟩ := u_proof
  have HUP := hidden hup
  clear hEE hE hN hup
  go_enter Tryd.func28, Tryd.ntmps28
  go_wp2_with (first
    | ((with_reducible refine at_bxd 3 ?_); refine wpList_bx _ rfl _ _ rfl _ rfl ?_; intro w1 g3 hg3 hl3 B3 b1)
    | ((with_reducible refine at_ald 4 ?_); refine wpList_al _ rfl _ rfl _ zero_proof ?_; intro w2 g4 hg4 hl4 B4 b2; have c2 := grow_trans b1 b2)
    | (go_at_call 50; refine (HLv.out _ c2).mono ?_; rintro e w3 ⟨rfl, b3⟩; have D4 := B4.grow b3; have c3 := grow_trans c2 b3)
    | ((with_reducible refine at_bd ?_); refine wpList_bld _ rfl _ _ rfl _ (by rw [List.map_toArray]; exact HB.out) ?_)
    | ((with_reducible refine at_st 4 ?_); refine wpList_sto _ rfl _ _ _ rfl g4 _ (encR (.slice none 0 0) N).toArray rfl rfl D4 HSz.out.1 HSz.out.2 (encR_one _ _ _ _) ?_; intro w4 B5 r4))
  exact bodyPost_ret (v := .tuple #[.agg (encR (.slice none 0 0) N).toArray, .int .i64 E]) (results_agg_tmp rfl _ _ g4 _ _ rfl rfl B5 HUP.out HSz.out.1) rfl (HPost.out _ (below_row c3 r4 (Nat.le_trans b1.size hg4)))

set_option maxRecDepth 100000 in
set_option maxHeartbeats 8000000 in
theorem rway_good (v : Value) (V : Nat → Value) (es : List Ent) (key : List Int) (w : World) (hv : PrAt w v V es) (hn : es.length ≤ 4096) (hE : errB es = 0) (hkey : Key key) :
    Calls Tryd.prog 28 #[v, .agg (B key)] w (WayPost es key w) := by
  have hkeys := hv.keys
  have HKEY := hidden hkey
  have HKZ : Hid ((Tryd.prog.info? 24).map (·.size) = some (B key).size) := by show _ = _; rw [B_size, hkey.1]; exact sz_path
  have HLv : Hid (∀ w', Below w.heap.size w w' → Calls Tryd.prog 50 #[v] w' fun e w'' => e = .returned (.int .i64 0) ∧ Below w'.heap.size w' w'') := fun w' hb => by
    have := refList_any v V es w' (hv.grow hb) (by omega)
    rwa [hE] at this
  have HPost : Hid (∀ w' sa sc n N hs, hs = sds 256 0 es key → N = endN (rst 256 0 es key) → hs.length = n → w'.ownsRow w.heap.size 25 32 (.slice sa n sc) n (flatH hs) → Below w.heap.size w w' → WayPost es key w (.returned (.tuple #[.agg (encR (.slice sa n sc) N).toArray, .int .i64 0])) w') := by
    intro w' sa sc n N hs e1 e2 e3 ho hb
    have f1 : wyH es key = hs := by rw [wyH, if_pos hE, e1]
    have f2 : wyN es key = N := by rw [wyN, if_pos hE, e2]
    refine ⟨sa, sc, ?_, ?_, hb⟩
    · rw [f1, f2, hE, e3]
    · rw [f1, e3]
      exact ho
  have HST := hidden (WaySt.start (es := es) key hkeys)
  have hlsE : lsE [] es = 0 := by rw [errB, if_neg (by omega)] at hE; exact hE
  have HOK : Hid ((∀ e ∈ es, e.2.length ≤ 1024) ∧ Apart1 es) := ⟨(lsE_ok [] es hlsE).1, (lsE_ok [] es hlsE).2.1⟩
  obtain ⟨its0, hit0, hpo0⟩ := PrO.of hv
  have HIT0 := hidden hit0
  have HPO0 := hidden hpo0
  obtain ⟨a, cap, rfl, _, _, _⟩ := hv
  obtain ⟨fp, hup⟩ := u_proof
  have HUP := hidden hup
  obtain ⟨Z, hZ⟩ : ∃ Z : List Int, Z = List.replicate 129 0 := ⟨_, rfl⟩
  have HZ := hidden hZ
  have HZP : Hid (∀ w, (zeroValue 60).run Tryd.prog w = .ok (.agg (encR (.slice none 0 0) Z).toArray) w) := by rw [hZ]; exact zero_proof
  have HSz : Hid (∀ s N, N.length = 129 → (Tryd.prog.info? 60).map (·.size) = some (encR s N).toArray.size ∧ (encR (.slice none 0 0) Z).toArray.size = (encR s N).toArray.size) := fun s N hN => ⟨encR_sz _ N hN, by simp [encR, hN, hZ]⟩
  have HZL : Hid (Z.length = 129) := by rw [hZ]; rfl
  obtain ⟨m0, hm0⟩ : ∃ m0, m0 = es.length := ⟨_, rfl⟩
  have HM0 := hidden hm0
  rw [← hm0] at hn HPO0 HLv ⊢
  clear hE hup hkey hkeys hZ hlsE hit0 hpo0 hm0
  go_enter Tryd.func28, Tryd.ntmps28
  go_wp2_with (first
    | ((with_reducible refine at_bxd 3 ?_); refine wpList_bx _ rfl _ _ rfl _ rfl ?_; intro w1 g3 hg3 hl3 B3 b1)
    | ((with_reducible refine at_ald 4 ?_); refine wpList_al _ rfl _ rfl _ HZP.out ?_; intro w2 g4 hg4 hl4 B4 b2; have c2 := grow_trans b1 b2; have D3 := B3.grow b2)
    | (go_at_call 50; refine (HLv.out _ c2).mono ?_; rintro e w3 ⟨rfl, b3⟩; have D4 := B4.grow b3; have E3 := D3.grow b3; have c3 := grow_trans c2 b3)
    | ((with_reducible refine at_ald 7 ?_); refine wpList_al _ rfl _ rfl _ HZP.out ?_; intro w4 g7 hg7 hl7 B7 b4))
  have HB7 := hidden B7
  have HB4 := hidden b4
  have HE3 := hidden E3
  have HD4 := hidden D4
  have HG7 := hidden hg7
  have HC3 := hidden c3
  have HG4 : Hid (w.heap.size ≤ g4) := Nat.le_trans b1.size hg4
  have HPS : Hid (PrO w w4 (fun g => g ≠ g7 ∧ some g ≠ none) (.slice a m0 cap) its0) := (HPO0.out.imp (R' := fun g => g < w.heap.size) (fun g h _ => h)).grow (grow_trans c3 b4) |>.imp (fun g _ h => ⟨fun e => by have := c3.size; omega, by simp⟩)
  clear B7 b4 E3 D4 c3 b3 D3 c2 b2 b1 B3 B4 hg3 hl3 hg4 hl4 hl7 hg7 w1 w2 HPO0
  go_loopw [0, 8] (fun l i wr => ∃ (d m : Nat) (la : Option Addr) (lc : Nat) (its : List (Ent × Value)) (hs : List (List Int)) (sa : Option Addr) (sc : Nat), d ≤ 256 ∧ m ≤ 4096 ∧ l = .slice la m lc ∧ i = .int .i64 d ∧ Hid (its.length = m) ∧ Hid (PrO w wr (fun g => g ≠ g7 ∧ some g ≠ (Value.slice sa d sc).ownBlock) (.slice la m lc) its) ∧ Hid (SamE (its.map (·.1)) d ∧ Apart1 (its.map (·.1))) ∧ Hid (WaySt es key d (its.map (·.1)) hs) ∧ Hid (wr.ownsRow w3.heap.size 25 32 (.slice sa d sc) d (flatH hs)) ∧ Hid (Blk wr g7 60 (encR (.slice sa d sc) Z).toArray) ∧ Hid (Below w3.heap.size w3 wr)) (fun _ i _ => 256 - (intOf i).toNat)
  case atStart => exact ⟨0, m0, a, cap, its0, [], none, 0, by omega, hn, rfl, rfl, by show _ = _; rw [HM0.out, ← HIT0.out, List.length_map], HPS, ⟨fun _ _ _ _ j hj => by omega, by rw [HIT0.out]; exact HOK.out.2⟩, by rw [HIT0.out]; exact HST, World.ownsRow_nil _ _ _ _, HB7, HB4⟩
  case round =>
    obtain ⟨d, m, la, lc, its, hs, sa, sc, hd, hm, rfl, rfl, hml, hpo, hsa, hst, hown, hblk, hbw⟩ := hrel
    by_cases hgt : 1 < m
    · have hel : (its.map (·.1)).length = m := by rw [List.length_map]; exact hml.out
      have hd256 : d < 256 := by
        by_cases q : d = 256
        · subst q
          have := hsa.out.1.few hst.out.keys hsa.out.2
          omega
        · omega
      have z1 : (1 : Int) < (m : Int) := by omega
      have hbw0 : ∀ w', Below w3.heap.size w3 w' → Below w.heap.size w w' := fun w' q => grow_trans HC3.out q
      have HSd : Hid (∀ c w', PrO w w' (fun g => g ≠ g7 ∧ some g ≠ (Value.slice sa d sc).ownBlock) (.slice la m lc) its → Below w3.heap.size w3 w' → Calls Tryd.prog 58 #[.slice la m lc, .int .i64 d, .int .i64 c] w' (SideOwn w (its.map (·.1)) d c w')) := fun c w' hp hb => refSide_own w _ _ (its.map (·.1)) d c w' (hp.at (hbw0 w' hb)).1 (hp.at (hbw0 w' hb)).2 (by omega)
      have HAt : Hid (∀ c w' v V, PrAt w' v V (sideOf (its.map (·.1)) d c) → Calls Tryd.prog 51 #[v, .int .i64 ((d : Int) + 1)] w' fun e w'' => e = .returned (.agg (B (rt (255 - d) (d + 1) (sideOf (its.map (·.1)) d c)))) ∧ Below w'.heap.size w' w'') := by
        intro c w' v V hp
        have h := refAt_any (255 - d) (d + 1) (sideOf (its.map (·.1)) d c) v V w' (by omega) (Nat.le_trans (List.length_filter_le _ _) (by omega)) (hsa.out.2.side d c) (hsa.out.1.side hd256 c) (fun e he => HOK.out.1 e (hst.out.sub e (List.mem_filter.1 he).1)) hp
        simpa using h
      have HNX : Hid (∀ c, SamE (sideOf (its.map (·.1)) d c) (d + 1) ∧ Apart1 (sideOf (its.map (·.1)) d c) ∧ (sideOf (its.map (·.1)) d c).length ≤ 4096) := fun c => ⟨hsa.out.1.side hd256 c, hsa.out.2.side d c, Nat.le_trans (List.length_filter_le _ _) (by omega)⟩
      have hstep := hst.out.step (by omega) hd256
      have HBit : Hid (∀ w', Calls Tryd.prog 57 #[.agg (B key), .int .i64 d] w' fun e w'' => e = .returned (.int .i64 (kb key d)) ∧ Below w'.heap.size w' w'') := fun w' => by
        have := rbit_any key d w' HKEY.out
        rwa [kbi_in _ _ hd256] at this
      have hb2 := kb_two key d
      have HK3 := hidden (HE3.out.grow hbw.out)
      have hw : IntKind.i64.wrap ((d : Int) + 1) = (d : Int) + 1 := by rw [IntKind.wrap_i64]; omega
      obtain ⟨β, hβ⟩ : ∃ β, β = kb key d := ⟨_, rfl⟩
      rw [← hβ] at HBit hstep hb2
      have hw1 : IntKind.i64.wrap (1 - β) = 1 - β := by rw [IntKind.wrap_i64]; omega
      obtain ⟨D, hD⟩ : ∃ D, D = rt (255 - d) (d + 1) (sideOf (its.map (·.1)) d (1 - β)) := ⟨_, rfl⟩
      have HDK : Hid (D.length = 32 ∧ Bytes D) := by rw [hD]; exact rt_len _ _ _
      have HAD := hidden (HAt.out (1 - β))
      have HNM := hidden (HNX.out β)
      rw [← hD] at HAD hstep
      have HSTEP := hidden hstep
      have HOO := hidden hown.out
      have HBB := hidden hblk.out
      have HBO := hidden hbw.out
      have HPO := hidden hpo.out
      have HBW0 := hidden hbw0
      obtain ⟨β', hβ'⟩ : ∃ β', β' = 1 - β := ⟨_, rfl⟩
      have HSdm := hidden (HSd.out β)
      have HSdo := hidden (HSd.out (1 - β))
      rw [← hβ'] at HSdo HAD hw1
      have hsub : (1 : Int) - β = β' := hβ'.symm
      clear hml hpo hsa hst hown hblk hbw hβ hstep hD HAt HNX hel hb2 hbw0 HSd hβ'
      go_wp2_with (first
        | ((with_reducible refine at_ldd 19 3 ?_); refine wpList_ld _ rfl _ _ rfl g3 _ rfl HK3.out _ _ Tryd.underlying24 HKZ.out ?_)
        | (go_at_call 57; refine (HBit.out _).mono ?_; rintro e x2 ⟨rfl, q2⟩))
      have d0 : Below wr.heap.size wr x2.drew := grow_trans q2 (Below.refl _ _).drew
      have HS : Hid (∀ w', Below wr.heap.size wr w' → Blk w' g7 60 (encR (.slice sa d sc) Z).toArray) := fun w' q => HBB.out.grow q
      refine wp_region_last (S := fun w' => Blk w' g7 60 (encR (.slice sa d sc) Z).toArray) 13 (by kernel_rfl) (HS.out _ d0) (fun hHeld => ?_)
      refine wpAnyL_take (i := 0) (v := .pointer (some ⟨g7, 0, none⟩)) rfl (by kernel_rfl) (by kernel_rfl) (by kernel_rfl) (by kernel_rfl) (by kernel_rfl) (fun _ _ _ h => h) (Or.inl ⟨by rfl, fun w hS => by go_simp⟩) hHeld ?_
      simp only [Act.put, List.getElem_toArray, List.getElem_cons_zero, List.setIfInBounds_toArray, List.set_cons_zero, List.set_cons_succ]
      refine wpAnyL_take (i := 1) (v := .slice sa d sc) rfl (by kernel_rfl) (by kernel_rfl) (by kernel_rfl) (by kernel_rfl) (by kernel_rfl) (fun _ _ _ h => h) (Or.inl ⟨by rfl, fun w hS => by (have s1 := proof_side hS; go_simp)⟩) hHeld ?_
      simp only [Act.put, List.getElem_toArray, List.getElem_cons_zero, List.getElem_cons_succ, List.setIfInBounds_toArray, List.set_cons_zero, List.set_cons_succ]
      refine wpAnyL_take (i := 2) (v := .slice la m lc) rfl (by kernel_rfl) (by kernel_rfl) (by kernel_rfl) (by kernel_rfl) (by kernel_rfl) (fun _ _ _ h => h) (Or.inl ⟨by rfl, fun w hS => by go_simp⟩) hHeld ?_
      simp only [Act.put, List.getElem_toArray, List.getElem_cons_zero, List.getElem_cons_succ, List.setIfInBounds_toArray, List.set_cons_zero, List.set_cons_succ]
      refine wpAnyL_take (i := 3) (v := .int .i64 d) rfl (by kernel_rfl) (by kernel_rfl) (by kernel_rfl) (by kernel_rfl) (by kernel_rfl) (fun _ _ _ h => h) (Or.inl ⟨by rfl, fun w hS => by go_simp⟩) hHeld ?_
      simp only [Act.put, List.getElem_toArray, List.getElem_cons_zero, List.getElem_cons_succ, List.setIfInBounds_toArray, List.set_cons_zero, List.set_cons_succ]
      refine wpAnyL_take (i := 4) (v := .int .i64 β) rfl (by kernel_rfl) (by kernel_rfl) (by kernel_rfl) (by kernel_rfl) (by kernel_rfl) (fun _ _ _ h => h) (Or.inl ⟨by rfl, fun w hS => by go_simp⟩) hHeld ?_
      simp only [Act.put, List.getElem_toArray, List.getElem_cons_zero, List.getElem_cons_succ, List.setIfInBounds_toArray, List.set_cons_zero, List.set_cons_succ]
      refine wpAnyL_take (i := 5) (v := .int .i64 β') rfl (by kernel_rfl) (by kernel_rfl) (by kernel_rfl) (by kernel_rfl) (by kernel_rfl) (fun _ _ _ h => h) (Or.inl ⟨by rfl, fun w hS => by go_simp⟩) hHeld ?_
      simp only [Act.put, List.getElem_toArray, List.getElem_cons_zero, List.getElem_cons_succ, List.setIfInBounds_toArray, List.set_cons_zero, List.set_cons_succ]
      refine wpAnyL_take (i := 7) (v := .int .i64 d) rfl (by kernel_rfl) (by kernel_rfl) (by kernel_rfl) (by kernel_rfl) (by kernel_rfl) (fun _ _ _ h => h) (Or.inl ⟨by rfl, fun w hS => by go_simp⟩) hHeld ?_
      simp only [Act.put, List.getElem_toArray, List.getElem_cons_zero, List.getElem_cons_succ, List.setIfInBounds_toArray, List.set_cons_zero, List.set_cons_succ]
      refine wpAnyL_take (i := 8) (v := .int .i64 ((d : Int) + 1)) rfl (by kernel_rfl) (by kernel_rfl) (by kernel_rfl) (by kernel_rfl) (by kernel_rfl) (fun _ _ _ h => h) (Or.inl ⟨by rfl, fun w hS => by go_simp⟩) hHeld ?_
      simp only [Act.put, List.getElem_toArray, List.getElem_cons_zero, List.getElem_cons_succ, List.setIfInBounds_toArray, List.set_cons_zero, List.set_cons_succ]
      refine wpAnyL_one (i := 6) rfl (by kernel_rfl) (fun KQ hK => ?_)
      go_simp
      refine (HSdo.out _ (HPO.out.grow d0) (grow_trans HBO.out d0)).mono ?_
      rintro e x3 ⟨v3, its3, rfl, i1, i2, i3, a3⟩
      have d3 := grow_trans d0 a3
      have P3 := (PrO.own i3 i2).at (HBW0.out _ (grow_trans HBO.out d3))
      rw [i1] at P3
      have HP3 := hidden P3.1
      clear P3 i1 i2 i3
      refine hK.out _ _ (HS.out _ d3) (fun hHeld => ?_)
      clear hK KQ
      refine wpAnyL_one (i := 9) rfl (by kernel_rfl) (fun KQ hK => ?_)
      go_simp
      refine (HAD.out _ _ _ HP3.out).mono ?_
      rintro e x4 ⟨rfl, a4⟩
      have d4 := grow_trans d3 a4
      have o4 := ownsH_below HOO.out d4
      refine hK.out _ _ (HS.out _ d4) (fun hHeld => ?_)
      clear hK KQ
      refine wpAnyL_one (i := 10) rfl (by kernel_rfl) (fun KQ hK => ?_)
      have oA := o4.alloc (.cells (B D) 25)
      have dA := grow_trans d4 (grow_alloc x4 (.cells (B D) 25))
      refine step_bsh _ rfl _ rfl D rfl HDK.out.1 ?_
      refine hK.out _ _ (HS.out _ dA) (fun hHeld => ?_)
      clear hK KQ
      refine wpAnyL_one (i := 11) rfl (by kernel_rfl) (fun KQ hK => ?_)
      refine step_appH _ rfl _ _ rfl w3.heap.size _ d (flatH hs) oA rfl x4.heap.size D rfl (Blk.new _ _ _) HDK.out.1 (by omega) (Nat.le_trans (Nat.le_trans HBO.out.size d4.size) (by simp)) ?_
      intro v5 x5 ho5 hg5
      have nb := own_ne oA (HS.out _ dA)
      refine hK.out _ _ ((HS.out _ dA).keptO hg5 nb) (fun hHeld => ?_)
      clear hK KQ
      refine wpAnyL_take (i := 12) (v := .pointer (some ⟨g7, 0, none⟩)) rfl (by kernel_rfl) (by kernel_rfl) (by kernel_rfl) (by kernel_rfl) (by kernel_rfl) (fun _ _ _ h => h) (Or.inl ⟨by rfl, fun w hS => by go_simp⟩) hHeld ?_
      simp only [Act.put, List.getElem_toArray, List.getElem_cons_zero, List.getElem_cons_succ, List.setIfInBounds_toArray, List.set_cons_zero, List.set_cons_succ]
      have hB5 := hHeld
      have hcell := proof_side hB5
      have hfr := hB5.frozen 0
      obtain ⟨sa5, sc5, rfl⟩ := own_slice ho5
      refine wpAnyL_last rfl (by kernel_rfl) (by kernel_rfl) (fun KQ hK => ?_)
      go_simp
      
      refine hK.out _ _ ?_
      clear hK KQ
      have hB6 := blk_side hB5 (.slice sa5 (d + 1) sc5)
      have gr6 := grown_setCell x5 g7 0 (.slice sa5 (d + 1) sc5)
      have ho6 := ho5.kept gr6 (.inr (fun e => own_ne ho5 hB5 e.symm))
      have hb5 : Below w3.heap.size w3 x5 := below_ownH (grow_trans HBO.out dA) oA (Nat.le_refl _) hg5
      have hb6 := below_row hb5 gr6 HG7.out
      have hp6 := ((HPO.out.grow dA).kept hg5 (fun g h => h.2)).kept gr6 (fun g h e => h.1 (by injection e))
      rw [← flatH_snoc] at ho6
      have HF6 := hidden (And.intro ho6 (And.intro hB6 hb6))
      have HP6 := hidden hp6
      generalize x5.setCell ⟨g7, 0, none⟩ (.slice sa5 (d + 1) sc5) = x6 at *
      clear hB5 hcell hfr ho5 hg5 nb hB6 gr6 ho6 hb5 hb6 o4 oA dA hHeld HS hp6
      go_wp2_with (go_at_call 58; refine (HSdm.out _ HP6.out HF6.out.2.2).mono ?_; rintro e x7 ⟨v7, its7, rfl, i1, i2, i3, a7⟩)
      have HP7 : Hid (PrO w x7 (fun g => g ≠ g7 ∧ some g ≠ (Value.slice sa5 (d + 1) sc5).ownBlock) v7 its7) := (PrO.own i3 i2).imp (fun g _ h => ⟨fun e => by have := HF6.out.2.1.lt; omega, fun e => by have := (HF6.out.1.lt g e.symm).2; omega⟩)
      have HI1 := hidden i1
      obtain ⟨a7', c7', e7, _, _⟩ := HP7.out.2
      subst e7
      have hl7 : its7.length ≤ 4096 := by
        have h1 := congrArg List.length i1
        rw [List.length_map] at h1
        rw [h1]
        exact HNM.out.2.2
      obtain ⟨m7, hm7⟩ : ∃ m7, m7 = its7.length := ⟨_, rfl⟩
      have HM7 := hidden hm7
      rw [← hm7] at HP7 hl7 ⊢
      clear i1 i2 i3 hm7
      exact ⟨⟨d + 1, m7, a7', c7', its7, hs ++ [D], sa5, sc5, by omega, hl7, rfl, by go_num, HM7.out.symm, HP7, by rw [HI1.out]; exact ⟨HNM.out.1, HNM.out.2.1⟩, by rw [HI1.out]; exact HSTEP, ownsH_below HF6.out.1 a7, HF6.out.2.1.grow a7, grow_trans HF6.out.2.2 a7⟩, by simp [intOf]; omega⟩
    · have hle : (its.map (·.1)).length ≤ 1 := by rw [List.length_map, hml.out]; omega
      obtain ⟨f1, f2⟩ := hst.out.done hle
      have z1 : ¬ (1 : Int) < (m : Int) := by omega
      have hb4 := HD4.out.grow hbw.out
      have HC := hidden (grow_trans HC3.out hbw.out)
      have HO := hidden (own_base hown.out HC3.out.size)
      have n47 : g4 ≠ g7 := Nat.ne_of_lt (Nat.lt_of_lt_of_le HD4.out.lt HG7.out)
      have HHS := hidden hst.out.len
      have F1 := hidden f1
      have F2 := hidden f2
      have HB4' := hidden hb4
      have HBK := hidden hblk.out
      have HOW := hidden hown.out
      have HBW := hidden hbw.out
      clear f1 f2 hb4
      by_cases hm1 : m = 1
      · subst hm1
        obtain ⟨p, hp⟩ : ∃ p, its = [p] := List.length_eq_one_iff.1 hml.out
        obtain ⟨⟨K, U⟩, u⟩ := p
        have hk1 := hpo.out.1 ((K, U), u) (by rw [hp]; simp)
        have hlen : U.length ≤ 1024 := HOK.out.1 (K, U) (hst.out.sub (K, U) (by rw [hp]; simp))
        obtain ⟨g, off, hla, hrr⟩ : ∃ g off, la = some ⟨g, off, none⟩ ∧ wr.rangeAt g off (encP K u) := by
          obtain ⟨_, la', lc', e1, _, hr⟩ := hpo.out
          injection e1 with e2 e3 e4
          subst e2
          obtain ⟨g, off, e5, _, _, hr⟩ := hr (by rw [hp]; simp)
          have := hr 0 (by rw [hp]; simp)
          rw [hp] at this
          exact ⟨g, off, e5, by simpa using this⟩
        subst hla
        obtain ⟨A, hA⟩ : ∃ A, A = vaD U := ⟨_, rfl⟩
        have hAl : A.length = 32 := by rw [hA]; exact dig_length _
        obtain ⟨N, hN⟩ : ∃ N, N = nd 1 K A z32 z32 := ⟨_, rfl⟩
        have HNE : Hid (N = endN (rst 256 0 es key)) := by
          show _ = _
          rw [F2.out, hp, hN, hA]
          rfl
        have hKl : K.length = 32 := hk1.1.1
        have HNL : Hid (N.length = 129) := by show _ = _; rw [hN]; simp [nd, hKl, hAl, z32_length]
        have HVa : Hid (∀ w', Below wr.heap.size wr w' → Calls Tryd.prog 59 #[u] w' fun e w'' => e = .returned (.agg (B A)) ∧ Below w'.heap.size w' w'') := fun w' q => by
          rw [hA]
          exact refValue_any u U w' ((hk1.2.grow HC.out).grow q) (by omega)
        have HBL : Hid (Tryd.prog.built 27 [(0, .int .u8 1), (1, .agg (B K)), (2, .agg (B A))] = some (B N)) := by rw [hN]; exact built_leaf K A hk1.1.1 hAl
        have HLK := hidden (path_ln K hk1.1.1)
        obtain ⟨ua, uc, hu1, _⟩ := hk1.2
        obtain ⟨L, hL⟩ : ∃ L, L = U.length := ⟨_, rfl⟩
        rw [← hL] at hu1
        subst hu1
        have HS : Hid (∀ w', Below wr.heap.size wr w' → (w'.rangeAt g off (B K).toList ∧ w'.cell? ⟨g, off + 32, none⟩ = some (.slice ua L uc)) ∧ Blk w' g7 60 (encR (.slice sa d sc) Z).toArray) := fun w' q => ⟨⟨rng_key (rng_grow hrr q), rng_val (rng_grow hrr q) hk1.1.1⟩, HBK.out.grow q⟩
        have HIM : Hid ((Tryd.prog.info? 27).map (·.size) = some (B N).size) := by show _ = _; rw [B_size, HNL.out]; exact size_node
        have HTZ : Hid (1 + (B N).size ≤ (encR (.slice sa d sc) Z).toArray.size) := by show _ ≤ _; rw [B_size, HNL.out]; simp [encR, HZL.out]
        have HBT : Hid ((B N).toList = N.map (Value.int .u8)) := B_toList N
        clear hN hA hAl hKl hL hp hk1 hlen hrr hpo hsa hst hml hown hblk hbw hle hgt
        go_wp2_with fail
        have d0 : Below wr.heap.size wr wr.drew := (Below.refl _ _).drew
        refine wp_region_last (S := fun w' => (w'.rangeAt g off (B K).toList ∧ w'.cell? ⟨g, off + 32, none⟩ = some (.slice ua L uc)) ∧ Blk w' g7 60 (encR (.slice sa d sc) Z).toArray) 11 (by kernel_rfl) (HS.out _ d0) (fun hHeld => ?_)
        refine wpAnyL_take (i := 0) (v := .slice (some ⟨g, off, none⟩) 1 lc) rfl (by kernel_rfl) (by kernel_rfl) (by kernel_rfl) (by kernel_rfl) (by kernel_rfl) (fun _ _ _ h => h) (Or.inl ⟨by rfl, fun w hS => by go_simp⟩) hHeld ?_
        simp only [Act.put, List.getElem_toArray, List.getElem_cons_zero, List.setIfInBounds_toArray, List.set_cons_zero, List.set_cons_succ]
        refine wpAnyL_take (i := 1) (v := .pointer (some ⟨g, off, none⟩)) rfl (by kernel_rfl) (by kernel_rfl) (by kernel_rfl) (by kernel_rfl) (by kernel_rfl) (fun _ _ _ h => h) (Or.inl ⟨by rfl, fun w hS => by go_simp⟩) hHeld ?_
        simp only [Act.put, List.getElem_toArray, List.getElem_cons_zero, List.getElem_cons_succ, List.setIfInBounds_toArray, List.set_cons_zero, List.set_cons_succ]
        refine wpAnyL_take (i := 2) (v := .pointer (some ⟨g, off, none⟩)) rfl (by kernel_rfl) (by kernel_rfl) (by kernel_rfl) (by kernel_rfl) (by kernel_rfl) (fun _ _ _ h => h) (Or.inl ⟨by rfl, fun w hS => by go_simp⟩) hHeld ?_
        simp only [Act.put, List.getElem_toArray, List.getElem_cons_zero, List.getElem_cons_succ, List.setIfInBounds_toArray, List.set_cons_zero, List.set_cons_succ]
        refine wpAnyL_take (i := 3) (v := .agg (B K)) rfl (by kernel_rfl) (by kernel_rfl) (by kernel_rfl) (by kernel_rfl) (by kernel_rfl) (fun _ _ _ h => h) (yieldsIf_load_mid rfl 24 (.tmp 46) rfl g (off) rfl (B K).toList _ (fun w hS => hS.1.1) Tryd.underlying24 rfl HLK.out) hHeld ?_
        simp only [Act.put, List.getElem_toArray, List.getElem_cons_zero, List.getElem_cons_succ, List.setIfInBounds_toArray, List.set_cons_zero, List.set_cons_succ]
        refine wpAnyL_take (i := 4) (v := .slice (some ⟨g, off, none⟩) 1 lc) rfl (by kernel_rfl) (by kernel_rfl) (by kernel_rfl) (by kernel_rfl) (by kernel_rfl) (fun _ _ _ h => h) (Or.inl ⟨by rfl, fun w hS => by go_simp⟩) hHeld ?_
        simp only [Act.put, List.getElem_toArray, List.getElem_cons_zero, List.getElem_cons_succ, List.setIfInBounds_toArray, List.set_cons_zero, List.set_cons_succ]
        refine wpAnyL_take (i := 5) (v := .pointer (some ⟨g, off, none⟩)) rfl (by kernel_rfl) (by kernel_rfl) (by kernel_rfl) (by kernel_rfl) (by kernel_rfl) (fun _ _ _ h => h) (Or.inl ⟨by rfl, fun w hS => by go_simp⟩) hHeld ?_
        simp only [Act.put, List.getElem_toArray, List.getElem_cons_zero, List.getElem_cons_succ, List.setIfInBounds_toArray, List.set_cons_zero, List.set_cons_succ]
        refine wpAnyL_take (i := 6) (v := .pointer (some ⟨g, off + 32, none⟩)) rfl (by kernel_rfl) (by kernel_rfl) (by kernel_rfl) (by kernel_rfl) (by kernel_rfl) (fun _ _ _ h => h) (Or.inl ⟨by rfl, fun w hS => by go_simp⟩) hHeld ?_
        simp only [Act.put, List.getElem_toArray, List.getElem_cons_zero, List.getElem_cons_succ, List.setIfInBounds_toArray, List.set_cons_zero, List.set_cons_succ]
        refine wpAnyL_take (i := 7) (v := .slice ua L uc) rfl (by kernel_rfl) (by kernel_rfl) (by kernel_rfl) (by kernel_rfl) (by kernel_rfl) (fun _ _ _ h => h) (Or.inl ⟨by rfl, fun w hS => by (have s1 := hS.1.2; go_simp)⟩) hHeld ?_
        simp only [Act.put, List.getElem_toArray, List.getElem_cons_zero, List.getElem_cons_succ, List.setIfInBounds_toArray, List.set_cons_zero, List.set_cons_succ]
        refine wpAnyL_one (i := 8) rfl (by kernel_rfl) (fun KQ hK => ?_)
        go_simp
        refine (HVa.out _ d0).mono ?_
        rintro e x1 ⟨rfl, a1⟩
        have d1 := grow_trans d0 a1
        refine hK.out _ _ (HS.out _ d1) (fun hHeld => ?_)
        clear hK KQ
        refine wpAnyL_take (i := 9) (v := .agg (B N)) rfl (by kernel_rfl) (by kernel_rfl) (by kernel_rfl) (by kernel_rfl) (by kernel_rfl) (fun _ _ _ h => h) (Or.inl ⟨by rfl, fun w hS => exec_bld _ _ 27 _ (by rfl) _ (by rw [List.map_toArray]; exact HBL.out) w⟩) hHeld ?_
        simp only [Act.put, List.getElem_toArray, List.getElem_cons_zero, List.getElem_cons_succ, List.setIfInBounds_toArray, List.set_cons_zero, List.set_cons_succ]
        refine wpAnyL_take (i := 10) (v := .pointer (some ⟨g7, 1, none⟩)) rfl (by kernel_rfl) (by kernel_rfl) (by kernel_rfl) (by kernel_rfl) (by kernel_rfl) (fun _ _ _ h => h) (Or.inl ⟨by rfl, fun w hS => by go_simp⟩) hHeld ?_
        simp only [Act.put, List.getElem_toArray, List.getElem_cons_zero, List.getElem_cons_succ, List.setIfInBounds_toArray, List.set_cons_zero, List.set_cons_succ]
        refine wpAnyL_last rfl (by kernel_rfl) (by kernel_rfl) (fun KQ hK => ?_)
        refine step_stm _ rfl _ _ _ rfl g7 1 (B N) rfl rfl (hHeld.2.there 1 _ HTZ.out) HIM.out (B_one _) ?_
        refine hK.out _ _ ?_
        clear hK KQ
        rw [HBT.out]
        have h8 := blk_end (HBK.out.grow d1) N HZL.out HNL.out
        have gr8 := grown_setCells g7 (N.map (Value.int .u8)) 1 x1
        have HK8 := hidden (And.intro h8 (And.intro ((HB4'.out.grow d1).kept gr8 n47) (And.intro ((ownsH_below HO.out d1).kept gr8 (.inr (fun e => own_ne (ownsH_below HOW.out d1) (HBK.out.grow d1) e.symm))) (below_row (grow_trans HC.out d1) gr8 (Nat.le_trans HC3.out.size HG7.out)))))
        clear h8 gr8 HS hHeld
        generalize x1.setCells g7 1 (N.map (Value.int .u8)) = x7 at *
        go_wp2_with (first
          | ((with_reducible refine at_ldd 55 7 ?_); refine wpList_lds _ rfl _ _ rfl g7 _ _ rfl HK8.out.1 HUP.out (HSz.out _ N HNL.out).1 ?_)
          | ((with_reducible refine at_st 4 ?_); refine wpList_sto _ rfl _ _ _ rfl g4 _ (encR (.slice sa d sc) N).toArray rfl rfl HK8.out.2.1 (HSz.out _ N HNL.out).1 (HSz.out _ N HNL.out).2 (encR_one _ _ _ _) ?_; intro x8 B9 r9))
        have ho9 := HK8.out.2.2.1.kept r9 (.inr (fun e => own_ne HK8.out.2.2.1 HK8.out.2.1 e.symm))
        exact bodyPost_ret (v := .tuple #[.agg (encR (.slice sa d sc) N).toArray, .int .i64 0]) (results_agg_tmp rfl _ _ g4 _ _ rfl rfl B9 HUP.out (HSz.out _ N HNL.out).1) rfl (HPost.out _ _ _ _ _ hs F1.out HNE.out HHS.out ho9 (below_row HK8.out.2.2.2 r9 HG4.out))
      · have hm0' : m = 0 := by omega
        subst hm0'
        have he : its = [] := List.eq_nil_of_length_eq_zero hml.out
        have HNE : Hid (Z = endN (rst 256 0 es key)) := by
          show _ = _
          rw [F2.out, he, HZ.out]
          rfl
        clear he hpo hsa hst hml hown hblk hbw hle hgt hm1
        go_wp2_with (first
          | ((with_reducible refine at_ldd 55 7 ?_); refine wpList_lds _ rfl _ _ rfl g7 _ _ rfl HBK.out HUP.out (HSz.out _ Z HZL.out).1 ?_)
          | ((with_reducible refine at_st 4 ?_); refine wpList_sto _ rfl _ _ _ rfl g4 _ (encR (.slice sa d sc) Z).toArray rfl rfl HB4'.out (HSz.out _ Z HZL.out).1 (HSz.out _ Z HZL.out).2 (encR_one _ _ _ _) ?_; intro x8 B9 r9))
        have ho9 := HO.out.kept r9 (.inr (fun e => own_ne HO.out HB4'.out e.symm))
        exact bodyPost_ret (v := .tuple #[.agg (encR (.slice sa d sc) Z).toArray, .int .i64 0]) (results_agg_tmp rfl _ _ g4 _ _ rfl rfl B9 HUP.out (HSz.out _ Z HZL.out).1) rfl (HPost.out _ _ _ _ _ hs F1.out HNE.out HHS.out ho9 (below_row HC.out r9 HG4.out))

theorem rway_any (v : Value) (V : Nat → Value) (es : List Ent) (key : List Int) (w : World) (hv : PrAt w v V es) (hn : es.length ≤ 140737488355328) (hkey : Key key) :
    Calls Tryd.prog 28 #[v, .agg (B key)] w (WayPost es key w) := by
  by_cases hE : errB es = 0
  · have hl : es.length ≤ 4096 := by
      by_cases h : 4096 < es.length
      · rw [errB, if_pos h] at hE
        omega
      · omega
    exact rway_good v V es key w hv hl hE hkey
  · exact rway_bad v V es key w hv hn hE

end Go.Proofs.YtjcklpdifanjlaaDoor
