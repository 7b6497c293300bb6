/- node.leavesOf, as a contract. -/
import Derived.Test.YtpihigcnoifcfaaGreatDoorVw39
namespace Go.Proofs.YtpihigcnoifcfaaGreatDoor
set_option maxRecDepth 20000
open Go.RowKit

/-- What leavesOf tells of entries that may be. -/
def LvPost (es : List Ent) (w : World) (e : Ending) (w' : World) : Prop :=
  ∃ v ls, e = .returned (.tuple #[v, .int .i64 0]) ∧ LvAt w' v ls ∧ ls.Perm (es.map mkLf) ∧ Rise ls ∧ Below w.heap.size w w'

set_option maxHeartbeats 1000000 in
theorem leavesOf_bad (v : Value) (V : Nat → Value) (es : List Ent) (w : World) (hv : PrAt w v V es) (hn : es.length ≤ 140737488355328) (hE : errB es ≠ 0) :
    Calls Tryz.prog 14 #[v] w fun e w' => e = .returned (.tuple #[.slice none 0 0, .int .i64 (errB es)]) ∧ Below w.heap.size w w' := by
  have HM := hidden (mayBe_any v V es w hv hn)
  obtain ⟨a, cap, rfl, _, _, _⟩ := hv
  obtain ⟨E, hEE⟩ : ∃ E, E = errB es := ⟨_, rfl⟩
  rw [← hEE] at HM hE ⊢
  have h1 : (E != 0) = true := by simp [hE]
  have h2 : (E == 0) = false := by simp [hE]
  clear hEE hE
  go_enter Tryz.func14, Tryz.ntmps14
  go_wp2_with (go_at_call 31; refine HM.out.mono ?_; rintro e w1 ⟨rfl, b1⟩)
  go_ret2
  exact ⟨rfl, b1⟩

set_option maxRecDepth 100000 in
set_option maxHeartbeats 8000000 in
theorem leavesOf_ok (v : Value) (V : Nat → Value) (es : List Ent) (w : World) (hv : PrAt w v V es) (hn : es.length ≤ 4096) (hL : Laid w) (hE : errB es = 0) :
    Calls Tryz.prog 14 #[v] w (LvPost es w) := by
  have HM := hidden (mayBe_any v V es w hv (by omega))
  rw [hE] at HM
  have hls : lsE [] es = 0 := by rw [errB, if_neg (by omega)] at hE; exact hE
  obtain ⟨hlen, hap, _⟩ := lsE_ok [] es hls
  have hkeys := hv.keys
  have HPost : Hid (∀ w' v' ls, LvAt w' v' ls → ls.Perm (es.map mkLf) → Rise ls → Below w.heap.size w w' → LvPost es w (.returned (.tuple #[v', .int .i64 0])) w') := fun w' v' ls h1 h2 h3 h4 => ⟨v', ls, rfl, h1, h2, h3, h4⟩
  have HNE : Hid ((es.map mkLf).Pairwise fun a b => a.key ≠ b.key) := by
    show List.Pairwise _ _
    rw [List.pairwise_map]
    refine List.Pairwise.imp_of_mem ?_ hap
    intro a b ha hb hab
    rw [mkLf_key (hkeys a ha), mkLf_key (hkeys b hb)]
    exact hab
  have HLN : Hid (∀ k, k < es.length → (es.getD k e00).2.length ≤ 1024) := by
    intro k hk
    have := hlen es[k] (List.getElem_mem hk)
    simpa [List.getD, hk] using this
  have HL := hidden hL
  obtain ⟨a, cap, rfl, hcap, hc, hr⟩ := hv
  have HC := hidden hc
  have HR := hidden hr
  obtain ⟨n, hnn⟩ : ∃ n, n = es.length := ⟨_, rfl⟩
  have HN := hidden hnn
  rw [← hnn] at HM hn ⊢
  clear hc hr hcap hnn hE hls hlen hap hkeys hL
  go_enter Tryz.func14, Tryz.ntmps14
  go_wp2_with (first
    | (go_at_call 31; refine HM.out.mono ?_; rintro e w1 ⟨rfl, b1⟩)
    | (refine wpList_mkn _ rfl _ _ rfl n rfl rfl hn ?_; intro w2 g cs hg2 Bg hcs b2))
  have HG : Hid (w.heap.size ≤ g) := Nat.le_trans b1.size hg2
  have HR0 : Hid (Rows w2 g n []) := ⟨fun i hi => by simp at hi, fun i hi => Bg.there _ _ (by rw [hcs]; omega)⟩
  have HGL : Hid (g < w2.heap.size) := Bg.lt
  have c2 := grow_trans b1 b2
  clear Bg hcs hg2 b1 b2 cs HM
  go_loopw [18] (fun i wr => ∃ k : Nat, k ≤ n ∧ i = .int .i64 k ∧ Hid (Rows wr g n ((es.take k).map mkLf)) ∧ Hid (g < wr.heap.size) ∧ Below w.heap.size w wr) (fun i _ => n - (intOf i).toNat)
  case atStart => exact ⟨0, by omega, rfl, HR0, HGL, c2⟩
  case round =>
    obtain ⟨k, hk, rfl, hrows, hgl, hbw⟩ := hrel
    by_cases hlt : k < n
    · have hlt' : k < es.length := by rw [← HN.out]; exact hlt
      obtain ⟨ga, off, rfl, hcc⟩ := HC.out (by omega)
      have z1 : (k : Int) < (n : Int) := by omega
      have z0 : (0 : Int) ≤ (k : Int) := by omega
      obtain ⟨hkey, hrd⟩ := HR.out k hlt'
      have HRG : Hid (wr.rangeAt ga (off + k * 33) (encP (es.getD k e00).1 (V k))) := rng_grow (hcc k hlt') hbw
      have hlv := HLN.out k hlt'
      have HV : Hid (∀ w', Below w.heap.size w w' → Laid w' → Calls Tryz.prog 26 #[V k] w' fun e w'' => e = .returned (.agg (B (vaD (es.getD k e00).2))) ∧ Below w'.heap.size w' w'') := fun w' hb hl => value_any (V k) _ w' (hrd.grow hb) hl (by omega)
      have HX : Hid (encLf (mkLf (es.getD k e00)) = (B (nd 1 (es.getD k e00).1 (vaD (es.getD k e00).2) z32 z32)).toList) := by
        show _ = _
        rw [B_toList, encLf, Lf.ints, mkLf_key hkey, mkLf_val hkey]
      have HBL : Hid (Tryz.prog.built 33 [(0, .int .u8 1), (1, .agg (B (es.getD k e00).1)), (2, .agg (B (vaD (es.getD k e00).2)))] = some (B (nd 1 (es.getD k e00).1 (vaD (es.getD k e00).2) z32 z32))) := built_leaf _ _ hkey.1 (dig_length _)
      have HT : Hid ((es.take (k + 1)).map mkLf = (es.take k).map mkLf ++ [mkLf (es.getD k e00)]) := by
        show _ = _
        rw [List.take_add_one, List.map_append]
        simp [List.getD, hlt']
      have HTL : Hid (((es.take k).map mkLf).length = k) := by show _ = _; simp; omega
      have HNS : Hid ((B (nd 1 (es.getD k e00).1 (vaD (es.getD k e00).2) z32 z32)).size = 129) := by
        have : Nd 1 (es.getD k e00).1 (vaD (es.getD k e00).2) z32 z32 := ⟨by omega, by omega, hkey.1, dig_length _, rfl, rfl, hkey.2, dig_bytes _, z32_bytes, z32_bytes⟩
        exact this.size
      obtain ⟨va, vc, hV, _, _, _, _⟩ := hrd
      obtain ⟨K, hK⟩ : ∃ K, K = (es.getD k e00).1 := ⟨_, rfl⟩
      obtain ⟨Z, hZ⟩ : ∃ Z, Z = (es.getD k e00).2 := ⟨_, rfl⟩
      obtain ⟨x, hx⟩ : ∃ x, x = mkLf (es.getD k e00) := ⟨_, rfl⟩
      obtain ⟨ls, hlsd⟩ : ∃ ls, ls = (es.take k).map mkLf := ⟨_, rfl⟩
      rw [← hx] at HX HT
      rw [← hlsd] at HT HTL hrows
      rw [← hK] at HRG hkey HX HBL HNS
      rw [← hZ] at HV HX hV HBL HNS
      obtain ⟨A, hA⟩ : ∃ A, A = vaD Z := ⟨_, rfl⟩
      rw [← hA] at HV HX HBL HNS
      obtain ⟨N, hNd⟩ : ∃ N, N = nd 1 K A z32 z32 := ⟨_, rfl⟩
      rw [← hNd] at HX HBL HNS
      rw [hV] at HRG HV
      obtain ⟨L, hLL⟩ : ∃ L, L = Z.length := ⟨_, rfl⟩
      rw [← hLL] at HRG HV
      have HKY := hidden hkey
      have hsz : (Tryz.prog.info? 45).map (·.size) = some (encP K (.slice va L vc)).toArray.size := by rw [List.size_toArray, encP_length K _ HKY.out.1]; exact size_pair
      have hsz2 : (encP z32 (.slice none 0 0)).toArray.size = (encP K (.slice va L vc)).toArray.size := by rw [List.size_toArray, List.size_toArray, encP_length K _ HKY.out.1]; rfl
      have HSZ := hidden hsz
      have HSZ2 := hidden hsz2
      have HLK : Hid ((Tryz.prog.info? 24).map (·.size) = some (B K).toList.length) := by show _ = _; rw [B_toList, List.length_map, HKY.out.1]; exact sz_path
      clear hcc hK hZ hV hkey hx hlsd hsz hsz2 hlt' hA hNd hLL hlv
      go_wp2_with (first
        | ((with_reducible refine at_ldd 22 21 ?_); refine wpList_ldp _ rfl _ rfl ga (off + k * 33) K _ rfl HRG.out HKY.out.1 ?_)
        | ((with_reducible refine at_ald 7 ?_); refine wpList_al _ rfl _ rfl _ zero_pair ?_; intro w2 g7 hg7 hl7 B7 q7)
        | ((with_reducible refine at_st 7 ?_); refine wpList_sto _ rfl _ _ _ rfl g7 _ _ rfl rfl B7 HSZ.out HSZ2.out (encP_one _ _ _ _) ?_; intro w3 B8 r8; have q8 := below_row q7 r8 hg7))
      have HS : Hid (∀ w', Below w3.heap.size w3 w' → w'.rangeAt g7 0 (B K).toList ∧ w'.cell? ⟨g7, 32, none⟩ = some (.slice va L vc)) := fun w' hw' => ⟨pair_key (B8.grow hw'), pair_val (B8.grow hw') HKY.out.1⟩
      have d0 : Below w3.heap.size w3 w3.drew := (Below.refl _ _).drew
      have hb3 := grow_trans hbw q8
      have HROW : Hid (Rows w3 g n ls) := hrows.out.grow q8
      have HG3 : Hid (g ≠ g7) := by
        have h1 := hgl.out
        intro e
        subst e
        omega
      clear hrows B7 q7 r8 hg7 hl7 B8 HRG
      refine wp_region_held_drew (S := fun w' => w'.rangeAt g7 0 (B K).toList ∧ w'.cell? ⟨g7, 32, none⟩ = some (.slice va L vc)) (by kernel_rfl) (HS.out _ d0) (fun hHeld => ?_)
      refine wpAnyH_take (i := 0) (v := .slice (some ⟨g, 0, none⟩) n n) rfl (by kernel_rfl) (by kernel_rfl) (by kernel_rfl) (fun _ _ _ h => h) (Or.inl ⟨by rfl, fun w hS => by go_simp⟩) hHeld ?_
      simp only [Act.put, List.getElem_toArray, List.getElem_cons_zero, List.setIfInBounds_toArray, List.set_cons_zero, List.set_cons_succ]
      refine wpAnyH_take (i := 1) (v := .int .i64 k) rfl (by kernel_rfl) (by kernel_rfl) (by kernel_rfl) (fun _ _ _ h => h) (Or.inl ⟨by rfl, fun w hS => by go_simp⟩) hHeld ?_
      simp only [Act.put, List.getElem_toArray, List.getElem_cons_zero, List.getElem_cons_succ, List.setIfInBounds_toArray, List.set_cons_zero, List.set_cons_succ]
      refine wpAnyH_take (i := 2) (v := .pointer (some ⟨g7, 0, none⟩)) rfl (by kernel_rfl) (by kernel_rfl) (by kernel_rfl) (fun _ _ _ h => h) (Or.inl ⟨by rfl, fun w hS => by go_simp⟩) hHeld ?_
      simp only [Act.put, List.getElem_toArray, List.getElem_cons_zero, List.getElem_cons_succ, List.setIfInBounds_toArray, List.set_cons_zero, List.set_cons_succ]
      refine wpAnyH_take (i := 3) (v := .agg (B K)) rfl (by kernel_rfl) (by kernel_rfl) (by kernel_rfl) (fun _ _ _ h => h) (yieldsIf_load_mid rfl 24 (.tmp 25) rfl g7 0 rfl (B K).toList _ (fun w hS => hS.1) Tryz.underlying24 rfl HLK.out) hHeld ?_
      simp only [Act.put, List.getElem_toArray, List.getElem_cons_zero, List.getElem_cons_succ, List.setIfInBounds_toArray, List.set_cons_zero, List.set_cons_succ]
      refine wpAnyH_take (i := 4) (v := .pointer (some ⟨g7, 32, none⟩)) rfl (by kernel_rfl) (by kernel_rfl) (by kernel_rfl) (fun _ _ _ h => h) (Or.inl ⟨by rfl, fun w hS => by go_simp⟩) hHeld ?_
      simp only [Act.put, List.getElem_toArray, List.getElem_cons_zero, List.getElem_cons_succ, List.setIfInBounds_toArray, List.set_cons_zero, List.set_cons_succ]
      refine wpAnyH_take (i := 5) (v := .slice va L vc) rfl (by kernel_rfl) (by kernel_rfl) (by kernel_rfl) (fun _ _ _ h => h) (Or.inl ⟨by rfl, fun w hS => by (have s1 := hS.2; go_simp)⟩) hHeld ?_
      simp only [Act.put, List.getElem_toArray, List.getElem_cons_zero, List.getElem_cons_succ, List.setIfInBounds_toArray, List.set_cons_zero, List.set_cons_succ]
      refine wpAnyH_ready (rs := [6]) (by kernel_rfl) (by simp) ?_
      refine AllReadyH.cons rfl (fun KQ hK => ?_) AllReadyH.nil
      go_simp
      refine (HV.out _ (grow_trans hb3 d0) (HL.out.grow (grow_trans hb3 d0))).mono ?_
      rintro e x1 ⟨rfl, a1⟩
      have d1 := grow_trans d0 a1
      refine hK.out _ _ (HS.out _ d1) (fun hHeld => ?_)
      clear hK KQ
      refine wpAnyH_take (i := 7) (v := .agg (B N)) rfl (by kernel_rfl) (by kernel_rfl) (by kernel_rfl) (fun _ _ _ h => h) (Or.inl ⟨by rfl, fun w hS => exec_bd _ _ 33 _ (by rfl) (B N) (by rw [List.map_toArray]; exact HBL.out) w⟩) hHeld ?_
      simp only [Act.put, List.getElem_toArray, List.getElem_cons_zero, List.getElem_cons_succ, List.setIfInBounds_toArray, List.set_cons_zero, List.set_cons_succ]
      refine wpAnyH_take (i := 8) (v := .pointer (some ⟨g, k * 129, none⟩)) rfl (by kernel_rfl) (by kernel_rfl) (by kernel_rfl) (fun _ _ _ h => h) (Or.inl ⟨by rfl, fun w hS => by go_simp⟩) hHeld ?_
      simp only [Act.put, List.getElem_toArray, List.getElem_cons_zero, List.getElem_cons_succ, List.setIfInBounds_toArray, List.set_cons_zero, List.set_cons_succ]
      refine wpAnyH_ready (rs := [9]) (by kernel_rfl) (by simp) ?_
      refine AllReadyH.cons rfl (fun KQ hK => ?_) AllReadyH.nil
      have HRW := HROW.out.grow d1
      refine step_stL _ rfl _ _ _ rfl g (k * 129) (B N) rfl rfl (by rw [HNS.out]; exact HRW.2 k hlt) (by rw [HNS.out]; exact size_node) (B_one _) ?_
      have c4 : Below w.heap.size w (x1.setCells g (k * 129) (B N).toList) := setCells_below HG.out _ _ _ (grow_trans hb3 d1)
      have hput := HRW.put x (by rw [HTL.out]; exact hlt)
      rw [HTL.out, HX.out, ← HT.out] at hput
      have HPT := hidden hput
      have hS9 : (x1.setCells g (k * 129) (B N).toList).rangeAt g7 0 (B K).toList ∧ (x1.setCells g (k * 129) (B N).toList).cell? ⟨g7, 32, none⟩ = some (.slice va L vc) := by
        have h1 := HS.out _ d1
        have h2 : x1.rangeAt g7 32 [.slice va L vc] := fun j v hv => by
          obtain ⟨h3, h4⟩ := List.getElem?_eq_some_iff.1 hv
          have : j = 0 := by simpa using h3
          subst this
          have : Value.slice va L vc = v := by simpa using h4
          rw [← this]
          exact h1.2
        refine ⟨World.rangeAt_setCells_apart h1.1 _ _ _ (.inl (Ne.symm HG3.out)), ?_⟩
        have h5 := World.rangeAt_setCells_apart h2 g (k * 129) (B N).toList (.inl (Ne.symm HG3.out))
        exact h5 0 _ rfl
      refine hK.out _ _ hS9 (fun hHeld => ?_)
      clear hK KQ hput hS9 HRW
      refine wpAnyH_done (by kernel_rfl) ?_ _
      generalize x1.setCells g (k * 129) (B N).toList = x2 at c4 HPT ⊢
      have hg2 : Hid (g < x2.heap.size) := by
        obtain ⟨h1, _⟩ := HPT.out.2 k hlt 0 (by omega)
        obtain ⟨u, hu⟩ := Option.isSome_iff_exists.1 h1
        exact block_lt_of_cell hu
      go_wp2_with fail
      exact ⟨⟨k + 1, by omega, by go_num, HPT, hg2, c4⟩, by simp [intOf]; omega⟩
    · have hkn : k = es.length := by rw [← HN.out]; omega
      have z1 : ¬ (k : Int) < (n : Int) := by omega
      have HTK : Hid ((es.take k).map mkLf = es.map mkLf) := by show _ = _; rw [hkn, List.take_length]
      rw [HTK.out] at hrows
      have HSO : Hid (Calls Tryz.prog 32 #[.slice (some ⟨g, 0, none⟩) n n, .func (.func 33) #[] #[]] wr fun e w' => e = .returned (.tuple #[]) ∧ (∃ l', LvAt w' (.slice (some ⟨g, 0, none⟩) n n) l' ∧ l'.Perm (es.map mkLf) ∧ Rise l') ∧ Below w.heap.size w w') := by
        have hl : (es.map mkLf).length = n := by rw [List.length_map, HN.out]
        have := sort_any g (es.map mkLf) w wr (by rw [hl]; exact hrows.out) hgl.out hbw HG.out (by rw [hl]; exact hn) HNE.out
        rwa [hl] at this
      clear hrows hkn
      go_wp2_with (go_at_call 32; refine HSO.out.mono ?_; rintro e w5 ⟨rfl, ⟨l', p1, p2, p3⟩, b5⟩)
      go_ret2
      exact HPost.out _ _ _ p1 p2 p3 b5

end Go.Proofs.YtpihigcnoifcfaaGreatDoor

/- node.rootAt, as a contract. -/
namespace Go.Proofs.YtpihigcnoifcfaaGreatDoor
set_option maxRecDepth 20000
open Go.RowKit

theorem hash_facts (D : List Int) (h : D.length = 32) : (Tryz.prog.info? 25).map (·.size) = some (B D).size ∧ (B (List.replicate 32 0)).size = (B D).size := ⟨by rw [B_size, h]; exact sz_hash, by rw [B_size, B_size, h]; rfl⟩

set_option maxHeartbeats 2000000 in
theorem rootAt_none (d : Nat) (a : Option Addr) (cap : Nat) (w : World) (hL : Laid w) : Calls Tryz.prog 17 #[.slice a 0 cap, .int .i64 d] w fun e w' => e = .returned (.agg (B emD)) ∧ Below w.heap.size w w' := by
  have HL := hidden hL
  obtain ⟨D, hD⟩ : ∃ D, D = emD := ⟨_, rfl⟩
  have HF := hidden (hash_facts D (by rw [hD]; exact dig_length _))
  have HE : Hid (∀ w', Laid w' → Calls Tryz.prog 38 #[] w' fun e w'' => e = .returned (.agg (B D)) ∧ Below w'.heap.size w' w'') := fun w' hl => by rw [hD]; exact empty_any w' hl
  rw [← hD]
  clear hL hD
  go_enter Tryz.func17, Tryz.ntmps17
  go_wp2_with (first
    | ((with_reducible refine at_ald 4 ?_); refine wpList_al _ rfl _ rfl _ zero_hash ?_; intro w1 g1 hg1 hl1 B1 b1)
    | (go_at_call 38; refine (HE.out _ (HL.out.grow b1)).mono ?_; rintro e w2 ⟨rfl, b2⟩; have B2 := B1.grow b2)
    | ((with_reducible refine at_st 4 ?_); refine wpList_sto _ rfl _ _ _ rfl g1 _ (B D) rfl rfl B2 HF.out.1 HF.out.2 (B_one _) ?_; intro w3 B3 r3))
  exact bodyPost_ret (v := .agg (B D)) (results_cell_row rfl _ _ g1 _ _ _ _ rfl B3 Tryz.underlying25 rfl HF.out.1) rfl ⟨rfl, below_row (grow_trans b1 b2) r3 hg1⟩

set_option maxHeartbeats 2000000 in
theorem rootAt_leaf (d g off cap : Nat) (x : Lf) (w : World) (hr : w.rangeAt g off (encLf x)) (hL : Laid w) : Calls Tryz.prog 17 #[.slice (some ⟨g, off, none⟩) 1 cap, .int .i64 d] w fun e w' => e = .returned (.agg (B (lfD x.key x.val))) ∧ Below w.heap.size w w' := by
  have HL := hidden hL
  obtain ⟨D, hD⟩ : ∃ D, D = lfD x.key x.val := ⟨_, rfl⟩
  have HF := hidden (hash_facts D (by rw [hD]; exact dig_length _))
  have HE : Hid (∀ w', Laid w' → Calls Tryz.prog 39 #[.agg (B x.key), .agg (B x.val)] w' fun e w'' => e = .returned (.agg (B D)) ∧ Below w'.heap.size w' w'') := fun w' hl => by rw [hD]; exact leaf_any x.key x.val w' x.hk.1 x.hl x.hk.2 x.hb hl
  have HR : Hid (∀ w', Below w.heap.size w w' → w'.rangeAt g (off + 1) (B x.key).toList ∧ w'.rangeAt g (off + 33) (B x.val).toList) := fun w' hw' => ⟨range_grow (lf_key hr) hw', range_grow (lf_val hr) hw'⟩
  have HLK : Hid ((Tryz.prog.info? 24).map (·.size) = some (B x.key).toList.length) := by show _ = _; rw [B_toList, List.length_map, x.hk.1]; exact sz_path
  have HLV : Hid ((Tryz.prog.info? 25).map (·.size) = some (B x.val).toList.length) := by show _ = _; rw [B_toList, List.length_map, x.hl]; exact sz_hash
  obtain ⟨K, hK⟩ : ∃ K, K = x.key := ⟨_, rfl⟩
  obtain ⟨V, hV⟩ : ∃ V, V = x.val := ⟨_, rfl⟩
  rw [← hK] at HE HR HLK
  rw [← hV] at HE HR HLV
  rw [← hD]
  clear hL hD hK hV hr
  go_enter Tryz.func17, Tryz.ntmps17
  go_wp2_with (first
    | ((with_reducible refine at_ald 4 ?_); refine wpList_al _ rfl _ rfl _ zero_hash ?_; intro w1 g1 hg1 hl1 B1 b1))
  have d0 : Below w.heap.size w w1.drew := grow_trans b1 (Below.refl _ _).drew
  refine wp_region_held_drew (S := fun w' => w'.rangeAt g (off + 1) (B K).toList ∧ w'.rangeAt g (off + 33) (B V).toList) (by kernel_rfl) (HR.out _ d0) (fun hHeld => ?_)
  refine wpAnyH_take (i := 0) (v := .slice (some ⟨g, off, none⟩) 1 cap) rfl (by kernel_rfl) (by kernel_rfl) (by kernel_rfl) (fun _ _ _ h => h) (Or.inl ⟨by rfl, fun w hS => by go_simp⟩) hHeld ?_
  simp only [Act.put, List.getElem_toArray, List.getElem_cons_zero, List.setIfInBounds_toArray, List.set_cons_zero, List.set_cons_succ]
  refine wpAnyH_take (i := 1) (v := .pointer (some ⟨g, off, none⟩)) rfl (by kernel_rfl) (by kernel_rfl) (by kernel_rfl) (fun _ _ _ h => h) (Or.inl ⟨by rfl, fun w hS => by go_simp⟩) hHeld ?_
  simp only [Act.put, List.getElem_toArray, List.getElem_cons_zero, List.getElem_cons_succ, List.setIfInBounds_toArray, List.set_cons_zero, List.set_cons_succ]
  refine wpAnyH_take (i := 2) (v := .pointer (some ⟨g, off + 1, none⟩)) rfl (by kernel_rfl) (by kernel_rfl) (by kernel_rfl) (fun _ _ _ h => h) (Or.inl ⟨by rfl, fun w hS => by go_simp⟩) hHeld ?_
  simp only [Act.put, List.getElem_toArray, List.getElem_cons_zero, List.getElem_cons_succ, List.setIfInBounds_toArray, List.set_cons_zero, List.set_cons_succ]
  refine wpAnyH_take (i := 3) (v := .agg (B K)) rfl (by kernel_rfl) (by kernel_rfl) (by kernel_rfl) (fun _ _ _ h => h) (yieldsIf_load_mid rfl 24 (.tmp 16) rfl g (off + 1) rfl (B K).toList _ (fun w hS => hS.1) Tryz.underlying24 rfl HLK.out) hHeld ?_
  simp only [Act.put, List.getElem_toArray, List.getElem_cons_zero, List.getElem_cons_succ, List.setIfInBounds_toArray, List.set_cons_zero, List.set_cons_succ]
  refine wpAnyH_take (i := 4) (v := .slice (some ⟨g, off, none⟩) 1 cap) rfl (by kernel_rfl) (by kernel_rfl) (by kernel_rfl) (fun _ _ _ h => h) (Or.inl ⟨by rfl, fun w hS => by go_simp⟩) hHeld ?_
  simp only [Act.put, List.getElem_toArray, List.getElem_cons_zero, List.getElem_cons_succ, List.setIfInBounds_toArray, List.set_cons_zero, List.set_cons_succ]
  refine wpAnyH_take (i := 5) (v := .pointer (some ⟨g, off, none⟩)) rfl (by kernel_rfl) (by kernel_rfl) (by kernel_rfl) (fun _ _ _ h => h) (Or.inl ⟨by rfl, fun w hS => by go_simp⟩) hHeld ?_
  simp only [Act.put, List.getElem_toArray, List.getElem_cons_zero, List.getElem_cons_succ, List.setIfInBounds_toArray, List.set_cons_zero, List.set_cons_succ]
  refine wpAnyH_take (i := 6) (v := .pointer (some ⟨g, off + 33, none⟩)) rfl (by kernel_rfl) (by kernel_rfl) (by kernel_rfl) (fun _ _ _ h => h) (Or.inl ⟨by rfl, fun w hS => by go_simp⟩) hHeld ?_
  simp only [Act.put, List.getElem_toArray, List.getElem_cons_zero, List.getElem_cons_succ, List.setIfInBounds_toArray, List.set_cons_zero, List.set_cons_succ]
  refine wpAnyH_take (i := 7) (v := .agg (B V)) rfl (by kernel_rfl) (by kernel_rfl) (by kernel_rfl) (fun _ _ _ h => h) (yieldsIf_load_mid rfl 25 (.tmp 20) rfl g (off + 33) rfl (B V).toList _ (fun w hS => hS.2) Tryz.underlying25 rfl HLV.out) hHeld ?_
  simp only [Act.put, List.getElem_toArray, List.getElem_cons_zero, List.getElem_cons_succ, List.setIfInBounds_toArray, List.set_cons_zero, List.set_cons_succ]
  refine wpAnyH_ready (rs := [8]) (by kernel_rfl) (by simp) ?_
  refine AllReadyH.cons rfl (fun KQ hK => ?_) AllReadyH.nil
  go_simp
  refine (HE.out _ (HL.out.grow d0)).mono ?_
  rintro e x1 ⟨rfl, a1⟩
  have d1 := grow_trans d0 a1
  refine hK.out _ _ (HR.out _ d1) (fun hHeld => ?_)
  clear hK KQ
  refine wpAnyH_ready (rs := [9]) (by kernel_rfl) (by simp) ?_
  refine AllReadyH.cons rfl (fun KQ hK => ?_) AllReadyH.nil
  refine step_sto _ rfl _ _ _ rfl g1 _ (B D) rfl rfl (B1.drew.grow a1) HF.out.1 HF.out.2 (B_one _) ?_
  intro w4 B4 g4
  have c4 := below_row d1 g4 hg1
  refine hK.out _ _ (HR.out _ c4) (fun hHeld => ?_)
  clear hK KQ
  refine wpAnyH_done (by kernel_rfl) ?_ _
  go_wp2_with fail
  exact bodyPost_ret (v := .agg (B D)) (results_cell_row rfl _ _ g1 _ _ _ _ rfl B4 Tryz.underlying25 rfl HF.out.1) rfl ⟨rfl, c4⟩

theorem rtL_length (n d : Nat) (ls : List Lf) : (rtL n d ls).length = 32 := by
  match n, ls with
  | _, [] => rw [rtL_nil]; exact dig_length _
  | _, [x] => rw [rtL_one]; exact dig_length _
  | 0, _ :: _ :: _ => exact dig_length _
  | n + 1, a :: b :: l => rw [rtL_more n d _ (by simp)]; exact dig_length _
theorem rtL_bytes (n d : Nat) (ls : List Lf) : Bytes (rtL n d ls) := by
  match n, ls with
  | _, [] => rw [rtL_nil]; exact dig_bytes _
  | _, [x] => rw [rtL_one]; exact dig_bytes _
  | 0, _ :: _ :: _ => exact dig_bytes _
  | n + 1, a :: b :: l => rw [rtL_more n d _ (by simp)]; exact dig_bytes _

set_option maxHeartbeats 4000000 in
theorem rootAt_more (d : Nat) (a : Option Addr) (m cap : Nat) (R0 R1 : List Int) (P0 P1 : World → Value → Prop) (w : World) (hd : d < 256) (hm : 2 ≤ m) (l0 : R0.length = 32) (l1 : R1.length = 32) (y0 : Bytes R0) (y1 : Bytes R1) (hL : Laid w)
    (hg : ∀ w w' v, Below w.heap.size w w' → P1 w v → P1 w' v)
    (hp : ∀ w', Below w.heap.size w w' → Calls Tryz.prog 15 #[.slice a m cap, .int .i64 d] w' fun e w'' => ∃ v0 v1, e = .returned (.tuple #[v0, v1]) ∧ P0 w'' v0 ∧ P1 w'' v1 ∧ Below w'.heap.size w' w'')
    (h0 : ∀ w' v, P0 w' v → Laid w' → Calls Tryz.prog 17 #[v, .int .i64 ((d : Int) + 1)] w' fun e w'' => e = .returned (.agg (B R0)) ∧ Below w'.heap.size w' w'')
    (h1 : ∀ w' v, P1 w' v → Laid w' → Calls Tryz.prog 17 #[v, .int .i64 ((d : Int) + 1)] w' fun e w'' => e = .returned (.agg (B R1)) ∧ Below w'.heap.size w' w'') :
    Calls Tryz.prog 17 #[.slice a m cap, .int .i64 d] w fun e w' => e = .returned (.agg (B (inD R0 R1))) ∧ Below w.heap.size w w' := by
  have HL := hidden hL
  have HP := hidden hp
  have H0 := hidden h0
  have H1 := hidden h1
  have HG := hidden hg
  obtain ⟨D, hD⟩ : ∃ D, D = inD R0 R1 := ⟨_, rfl⟩
  have HF := hidden (hash_facts D (by rw [hD]; exact dig_length _))
  have HI : Hid (∀ w', Laid w' → Calls Tryz.prog 40 #[.agg (B R0), .agg (B R1)] w' fun e w'' => e = .returned (.agg (B D)) ∧ Below w'.heap.size w' w'') := fun w' hl => by rw [hD]; exact inner_any R0 R1 w' l0 l1 y0 y1 hl
  have hw : IntKind.i64.wrap ((d : Int) + 1) = (d : Int) + 1 := by rw [IntKind.wrap_i64]; omega
  have e0 : ((m : Int) == 0) = false := by simp; omega
  have e1 : ((m : Int) == 1) = false := by simp; omega
  rw [← hD]
  clear hL hD hp h0 h1 hg l0 l1 y0 y1 hm hd
  go_enter Tryz.func17, Tryz.ntmps17
  go_wp2_with (first
    | ((with_reducible refine at_ald 4 ?_); refine wpList_al _ rfl _ rfl _ zero_hash ?_; intro w1 g1 hg1 hl1 B1 b1; have KB := hidden B1.kp)
    | (go_at_call 15; refine (HP.out _ b1).mono ?_; rintro e w2 ⟨v0, v1, rfl, p0, p1, q2⟩; have HP0 := hidden p0; have HP1 := hidden p1; clear p0 p1; have c := grow_trans b1 q2; replace KB := hidden (KB.out.step q2))
    | (go_at_call 17; have mk := mk1; refine (H1.out _ _ HP1.out (HL.out.grow c)).mono ?_; rintro e w4 ⟨rfl, q4⟩; clear mk mk1; have cc := grow_trans c q4; clear c; have c := cc; clear cc; replace KB := hidden (KB.out.step q4))
    | (go_at_call 17; refine (H0.out _ _ HP0.out (HL.out.grow c)).mono ?_; rintro e w3 ⟨rfl, q3⟩; have mk1 : Hid True := trivial; have cc := grow_trans c q3; clear c; have c := cc; clear cc; replace KB := hidden (KB.out.step q3); replace HP1 := hidden (HG.out _ _ _ q3 HP1.out))
    | (go_at_call 40; refine (HI.out _ (HL.out.grow c)).mono ?_; rintro e w5 ⟨rfl, q5⟩; have cc := grow_trans c q5; clear c; have c := cc; clear cc; replace KB := hidden (KB.out.step q5))
    | ((with_reducible refine at_st 4 ?_); refine wpList_sto _ rfl _ _ _ rfl g1 _ (B D) rfl rfl KB.out.now HF.out.1 HF.out.2 (B_one _) ?_; intro w6 B6 r6))
  exact bodyPost_ret (v := .agg (B D)) (results_cell_row rfl _ _ g1 _ _ _ _ rfl B6 Tryz.underlying25 rfl HF.out.1) rfl ⟨rfl, below_row c r6 hg1⟩

theorem rootAt_any : ∀ (n d : Nat) (ls : List Lf) (v : Value) (w : World), d + n = 256 → ls.length ≤ 4096 → Rise ls → Same ls d → LvAt w v ls → Laid w →
    Calls Tryz.prog 17 #[v, .int .i64 d] w fun e w' => e = .returned (.agg (B (rtL n d ls))) ∧ Below w.heap.size w w' := by
  intro n
  induction n with
  | zero =>
    intro d ls v w hd hn hr hs hv hL
    obtain rfl : d = 256 := by omega
    have hf := hr.few hs
    obtain ⟨a, cap, rfl, hc, h⟩ := hv
    match ls, hf, h with
    | [], _, _ => rw [rtL_nil]; exact rootAt_none 256 a cap w hL
    | [x], _, h =>
      obtain ⟨g, off, rfl, hrr⟩ := h (by simp)
      have h0 := hrr 0 (by simp)
      rw [rtL_one]
      exact rootAt_leaf 256 g off cap x w (by simpa using h0) hL
  | succ n ih =>
    intro d ls v w hd hn hr hs hv hL
    obtain ⟨a, cap, rfl, hc, h⟩ := hv
    match ls, hn, hr, hs, hc, h with
    | [], _, _, _, _, _ => rw [rtL_nil]; exact rootAt_none d a cap w hL
    | [x], _, _, _, _, h =>
      obtain ⟨g, off, rfl, hrr⟩ := h (by simp)
      have h0 := hrr 0 (by simp)
      rw [rtL_one]
      exact rootAt_leaf d g off cap x w (by simpa using h0) hL
    | x :: y :: ls, hn, hr, hs, hc, h =>
      obtain ⟨g, off, rfl, hrr⟩ := h (by simp)
      rw [rtL_more n d _ (by simp)]
      have hle : ∀ b, (sdL (x :: y :: ls) d b).length ≤ 4096 := fun b => Nat.le_trans (List.length_filter_le _ _) hn
      have hi : ∀ b w' v, LvAt w' v (sdL (x :: y :: ls) d b) → Laid w' → Calls Tryz.prog 17 #[v, .int .i64 ((d : Int) + 1)] w' fun e w'' => e = .returned (.agg (B (rtL n (d + 1) (sdL (x :: y :: ls) d b)))) ∧ Below w'.heap.size w' w'' := by
        intro b w' v hv hl
        have := ih (d + 1) _ v w' (by omega) (hle b) (hr.side d b) (hs.side b) hv hl
        simpa using this
      exact rootAt_more d _ _ cap _ _ (fun w v => LvAt w v (sdL (x :: y :: ls) d 0)) (fun w v => LvAt w v (sdL (x :: y :: ls) d 1)) w (by omega) (by simp) (rtL_length _ _ _) (rtL_length _ _ _) (rtL_bytes _ _ _) (rtL_bytes _ _ _) hL
        (fun w w' v hb hv => hv.grow hb)
        (fun w' hb => part_any g off cap d (x :: y :: ls) w' (by omega) hn hc hr hs (fun i hi => range_grow (hrr i hi) hb))
        (hi 0) (hi 1)

end Go.Proofs.YtpihigcnoifcfaaGreatDoor

/- node.parted, node.RootAt, node.Root, as contracts. -/
namespace Go.Proofs.YtpihigcnoifcfaaGreatDoor
set_option maxRecDepth 20000
open Go.RowKit

/-- Between two keys with the same first d bits all keys have these. -/
theorem between {a b c : List Int} {d : Nat} (h1 : Ahead a b) (h2 : Ahead b c) (hs : ∀ j, j < d → kb a j = kb c j) : ∀ j, j < d → kb a j = kb b j := by
  obtain ⟨i, hi, e1, e2, e3⟩ := h1
  by_cases hid : i < d
  · have h3 : Ahead c b := ⟨i, hi, fun j hj => by rw [← hs j (by omega)]; exact e1 j hj, by rw [← hs i hid]; exact e2, e3⟩
    exact absurd (h2.trans h3) (Ahead.irrefl _)
  · intro j hj
    exact e1 j (by omega)

theorem same_ends {ls : List Lf} (hr : Rise ls) (hl : 2 ≤ ls.length) (d : Nat) : Same ls d ↔ ∀ j, j < d → kb ls[0]!.key j = kb ls[ls.length - 1]!.key j := by
  rw [getElem!_pos ls 0 (by omega), getElem!_pos ls (ls.length - 1) (by omega)]
  constructor
  · intro h j hj
    exact h _ (List.getElem_mem _) _ (List.getElem_mem _) j hj
  · intro h
    have hall : ∀ x ∈ ls, ∀ j, j < d → kb ls[0].key j = kb x.key j := by
      intro x hx j hj
      obtain ⟨i, hi, rfl⟩ := List.mem_iff_getElem.1 hx
      by_cases h0 : i = 0
      · subst h0
        rfl
      · by_cases h1 : i = ls.length - 1
        · subst h1
          exact h j hj
        · exact between (List.pairwise_iff_getElem.1 hr 0 i (by omega) hi (by omega)) (List.pairwise_iff_getElem.1 hr i (ls.length - 1) hi (by omega) (by omega)) h j hj
    intro x hx y hy j hj
    rw [← hall x hx j hj, hall y hy j hj]

theorem same_few {ls : List Lf} (h : ls.length ≤ 1) (d : Nat) : Same ls d := by
  match ls, h with
  | [], _ => intro a ha; simp at ha
  | [x], _ =>
    intro a ha b hb j _
    have h1 : a = x := by simpa using ha
    have h2 : b = x := by simpa using hb
    rw [h1, h2]

set_option maxHeartbeats 2000000 in
theorem parted_few (a : Option Addr) (m cap : Nat) (d : Int) (w : World) (hm : m ≤ 1) : Calls Tryz.prog 30 #[.slice a m cap, .int .i64 d] w fun e w' => e = .returned (.bool false) ∧ Below w.heap.size w w' := by
  have h1 : ¬ (1 : Int) < (m : Int) := by omega
  have h2 : decide ((1 : Int) < (m : Int)) = false := decide_eq_false h1
  go_enter Tryz.func30, Tryz.ntmps30
  go_wp2_with fail
  have d0 : Below w.heap.size w w.drew := (Below.refl _ _).drew
  refine wp_region_held_drew (S := fun _ => True) (by kernel_rfl) (trivial) (fun hHeld => ?_)
  refine wpAnyH_take (i := 0) (v := .slice a m cap) rfl (by kernel_rfl) (by kernel_rfl) (by kernel_rfl) (fun _ _ _ h => h) (Or.inl ⟨by rfl, fun w hS => by go_simp⟩) hHeld ?_
  simp only [Act.put, List.getElem_toArray, List.getElem_cons_zero, List.setIfInBounds_toArray, List.set_cons_zero, List.set_cons_succ]
  refine wpAnyH_take (i := 1) (v := .int .i64 m) rfl (by kernel_rfl) (by kernel_rfl) (by kernel_rfl) (fun _ _ _ h => h) (Or.inl ⟨by rfl, fun w hS => by go_simp⟩) hHeld ?_
  simp only [Act.put, List.getElem_toArray, List.getElem_cons_zero, List.getElem_cons_succ, List.setIfInBounds_toArray, List.set_cons_zero, List.set_cons_succ]
  refine wpAnyH_take (i := 2) (v := .bool false) rfl (by kernel_rfl) (by kernel_rfl) (by kernel_rfl) (fun _ _ _ h => h) (Or.inl ⟨by rfl, fun w hS => by go_simp⟩) hHeld ?_
  simp only [Act.put, List.getElem_toArray, List.getElem_cons_zero, List.getElem_cons_succ, List.setIfInBounds_toArray, List.set_cons_zero, List.set_cons_succ]
  refine wpAnyH_take (i := 3) (v := .bool false) rfl (by kernel_rfl) (by kernel_rfl) (by kernel_rfl) (fun _ _ _ h => h) (Or.inl ⟨by rfl, fun w hS => by go_simp⟩) hHeld ?_
  simp only [Act.put, List.getElem_toArray, List.getElem_cons_zero, List.getElem_cons_succ, List.setIfInBounds_toArray, List.set_cons_zero, List.set_cons_succ]
  refine wpAnyH_take (i := 4) (v := undef) rfl (by kernel_rfl) (by kernel_rfl) (by kernel_rfl) (fun _ _ _ h => h) (Or.inr ⟨by rfl, rfl⟩) hHeld ?_
  simp only [Act.put, List.getElem_toArray, List.getElem_cons_zero, List.getElem_cons_succ, List.setIfInBounds_toArray, List.set_cons_zero, List.set_cons_succ]
  refine wpAnyH_take (i := 5) (v := undef) rfl (by kernel_rfl) (by kernel_rfl) (by kernel_rfl) (fun _ _ _ h => h) (Or.inr ⟨by rfl, rfl⟩) hHeld ?_
  simp only [Act.put, List.getElem_toArray, List.getElem_cons_zero, List.getElem_cons_succ, List.setIfInBounds_toArray, List.set_cons_zero, List.set_cons_succ]
  refine wpAnyH_take (i := 6) (v := undef) rfl (by kernel_rfl) (by kernel_rfl) (by kernel_rfl) (fun _ _ _ h => h) (Or.inr ⟨by rfl, rfl⟩) hHeld ?_
  simp only [Act.put, List.getElem_toArray, List.getElem_cons_zero, List.getElem_cons_succ, List.setIfInBounds_toArray, List.set_cons_zero, List.set_cons_succ]
  refine wpAnyH_take (i := 7) (v := undef) rfl (by kernel_rfl) (by kernel_rfl) (by kernel_rfl) (fun _ _ _ h => h) (Or.inr ⟨by rfl, rfl⟩) hHeld ?_
  simp only [Act.put, List.getElem_toArray, List.getElem_cons_zero, List.getElem_cons_succ, List.setIfInBounds_toArray, List.set_cons_zero, List.set_cons_succ]
  refine wpAnyH_take (i := 8) (v := undef) rfl (by kernel_rfl) (by kernel_rfl) (by kernel_rfl) (fun _ _ _ h => h) (Or.inr ⟨by rfl, rfl⟩) hHeld ?_
  simp only [Act.put, List.getElem_toArray, List.getElem_cons_zero, List.getElem_cons_succ, List.setIfInBounds_toArray, List.set_cons_zero, List.set_cons_succ]
  refine wpAnyH_take (i := 9) (v := undef) rfl (by kernel_rfl) (by kernel_rfl) (by kernel_rfl) (fun _ _ _ h => h) (Or.inr ⟨by rfl, rfl⟩) hHeld ?_
  simp only [Act.put, List.getElem_toArray, List.getElem_cons_zero, List.getElem_cons_succ, List.setIfInBounds_toArray, List.set_cons_zero, List.set_cons_succ]
  refine wpAnyH_take (i := 10) (v := undef) rfl (by kernel_rfl) (by kernel_rfl) (by kernel_rfl) (fun _ _ _ h => h) (Or.inr ⟨by rfl, rfl⟩) hHeld ?_
  simp only [Act.put, List.getElem_toArray, List.getElem_cons_zero, List.getElem_cons_succ, List.setIfInBounds_toArray, List.set_cons_zero, List.set_cons_succ]
  refine wpAnyH_take (i := 11) (v := undef) rfl (by kernel_rfl) (by kernel_rfl) (by kernel_rfl) (fun _ _ _ h => h) (Or.inr ⟨by rfl, rfl⟩) hHeld ?_
  simp only [Act.put, List.getElem_toArray, List.getElem_cons_zero, List.getElem_cons_succ, List.setIfInBounds_toArray, List.set_cons_zero, List.set_cons_succ]
  refine wpAnyH_take (i := 12) (v := undef) rfl (by kernel_rfl) (by kernel_rfl) (by kernel_rfl) (fun _ _ _ h => h) (Or.inr ⟨by rfl, rfl⟩) hHeld ?_
  simp only [Act.put, List.getElem_toArray, List.getElem_cons_zero, List.getElem_cons_succ, List.setIfInBounds_toArray, List.set_cons_zero, List.set_cons_succ]
  refine wpAnyH_take (i := 13) (v := undef) rfl (by kernel_rfl) (by kernel_rfl) (by kernel_rfl) (fun _ _ _ h => h) (Or.inr ⟨by rfl, rfl⟩) hHeld ?_
  simp only [Act.put, List.getElem_toArray, List.getElem_cons_zero, List.getElem_cons_succ, List.setIfInBounds_toArray, List.set_cons_zero, List.set_cons_succ]
  refine wpAnyH_take (i := 14) (v := undef) rfl (by kernel_rfl) (by kernel_rfl) (by kernel_rfl) (fun _ _ _ h => h) (Or.inr ⟨by rfl, rfl⟩) hHeld ?_
  simp only [Act.put, List.getElem_toArray, List.getElem_cons_zero, List.getElem_cons_succ, List.setIfInBounds_toArray, List.set_cons_zero, List.set_cons_succ]
  refine wpAnyH_take (i := 15) (v := undef) rfl (by kernel_rfl) (by kernel_rfl) (by kernel_rfl) (fun _ _ _ h => h) (Or.inr ⟨by rfl, rfl⟩) hHeld ?_
  simp only [Act.put, List.getElem_toArray, List.getElem_cons_zero, List.getElem_cons_succ, List.setIfInBounds_toArray, List.set_cons_zero, List.set_cons_succ]
  refine wpAnyH_take (i := 16) (v := undef) rfl (by kernel_rfl) (by kernel_rfl) (by kernel_rfl) (fun _ _ _ h => h) (Or.inr ⟨by rfl, rfl⟩) hHeld ?_
  simp only [Act.put, List.getElem_toArray, List.getElem_cons_zero, List.getElem_cons_succ, List.setIfInBounds_toArray, List.set_cons_zero, List.set_cons_succ]
  refine wpAnyH_take (i := 17) (v := undef) rfl (by kernel_rfl) (by kernel_rfl) (by kernel_rfl) (fun _ _ _ h => h) (Or.inr ⟨by rfl, rfl⟩) hHeld ?_
  simp only [Act.put, List.getElem_toArray, List.getElem_cons_zero, List.getElem_cons_succ, List.setIfInBounds_toArray, List.set_cons_zero, List.set_cons_succ]
  refine wpAnyH_take (i := 18) (v := .bool false) rfl (by kernel_rfl) (by kernel_rfl) (by kernel_rfl) (fun _ _ _ h => h) (Or.inl ⟨by rfl, fun w hS => by go_simp⟩) hHeld ?_
  simp only [Act.put, List.getElem_toArray, List.getElem_cons_zero, List.getElem_cons_succ, List.setIfInBounds_toArray, List.set_cons_zero, List.set_cons_succ]
  refine wpAnyH_take (i := 19) (v := .bool false) rfl (by kernel_rfl) (by kernel_rfl) (by kernel_rfl) (fun _ _ _ h => h) (Or.inl ⟨by rfl, fun w hS => by go_simp⟩) hHeld ?_
  simp only [Act.put, List.getElem_toArray, List.getElem_cons_zero, List.getElem_cons_succ, List.setIfInBounds_toArray, List.set_cons_zero, List.set_cons_succ]
  refine wpAnyH_done (by kernel_rfl) ?_ _
  go_wp2_with fail
  go_ret
  exact ⟨rfl, d0⟩

set_option maxHeartbeats 4000000 in
theorem parted_more (g off m cap : Nat) (x y : Lf) (d : Int) (b : Bool) (w : World) (hm : 2 ≤ m) (hm2 : m ≤ 4096) (h0 : w.rangeAt g off (encLf x)) (h1 : w.rangeAt g (off + (m - 1) * 129) (encLf y)) (hb : b = true ↔ Und x.key y.key d) :
    Calls Tryz.prog 30 #[.slice (some ⟨g, off, none⟩) m cap, .int .i64 d] w fun e w' => e = .returned (.bool (!b)) ∧ Below w.heap.size w w' := by
  have HU : Hid (∀ w', Calls Tryz.prog 46 #[.agg (B x.key), .agg (B y.key), .int .i64 d] w' fun e w'' => e = .returned (.bool b) ∧ Below w'.heap.size w' w'') := fun w' => under_at x.key y.key d b w' x.hk y.hk hb
  have HS : Hid (∀ w', Below w.heap.size w w' → w'.rangeAt g (off + 1) (B x.key).toList ∧ w'.rangeAt g (off + (m - 1) * 129 + 1) (B y.key).toList) := fun w' hw' => ⟨range_grow (lf_key h0) hw', range_grow (lf_key h1) hw'⟩
  have HLX : Hid ((Tryz.prog.info? 24).map (·.size) = some (B x.key).toList.length) := by show _ = _; rw [B_toList, List.length_map, x.hk.1]; exact sz_path
  have HLY : Hid ((Tryz.prog.info? 24).map (·.size) = some (B y.key).toList.length) := by show _ = _; rw [B_toList, List.length_map, y.hk.1]; exact sz_path
  obtain ⟨K, hK⟩ : ∃ K, K = x.key := ⟨_, rfl⟩
  obtain ⟨J, hJ⟩ : ∃ J, J = y.key := ⟨_, rfl⟩
  rw [← hK] at HU HS HLX
  rw [← hJ] at HU HS HLY
  obtain ⟨q, rfl⟩ : ∃ q, m = q + 1 := ⟨m - 1, by omega⟩
  rw [show q + 1 - 1 = q by omega] at HS
  have g1 : (1 : Int) < ((q + 1 : Nat) : Int) := by omega
  have g2 : decide ((1 : Int) < ((q + 1 : Nat) : Int)) = true := decide_eq_true g1
  have i0 : (0 : Int) < ((q + 1 : Nat) : Int) := by omega
  have i1 : IntKind.i64.wrap (((q + 1 : Nat) : Int) - 1) = (q : Int) := by rw [IntKind.wrap_i64]; omega
  have i2 : (q : Int) < ((q + 1 : Nat) : Int) := by omega
  have i3 : (0 : Int) ≤ (q : Int) := by omega
  have d0 : Below w.heap.size w w.drew := (Below.refl _ _).drew
  obtain ⟨m, hmm⟩ : ∃ m, m = q + 1 := ⟨_, rfl⟩
  have hm0 : ¬ m = 0 := by omega
  rw [← hmm] at g1 g2 i0 i1 i2 ⊢
  clear h0 h1 hb hK hJ hm hm2 hmm
  go_enter Tryz.func30, Tryz.ntmps30
  go_wp2_with fail
  refine wp_region_held_drew (S := fun w' => w'.rangeAt g (off + 1) (B K).toList ∧ w'.rangeAt g (off + q * 129 + 1) (B J).toList) (by kernel_rfl) (HS.out _ d0) (fun hHeld => ?_)
  refine wpAnyH_take (i := 0) (v := .slice (some ⟨g, off, none⟩) m cap) rfl (by kernel_rfl) (by kernel_rfl) (by kernel_rfl) (fun _ _ _ h => h) (Or.inl ⟨by rfl, fun w hS => by go_simp⟩) hHeld ?_
  simp only [Act.put, List.getElem_toArray, List.getElem_cons_zero, List.setIfInBounds_toArray, List.set_cons_zero, List.set_cons_succ]
  refine wpAnyH_take (i := 1) (v := .int .i64 m) rfl (by kernel_rfl) (by kernel_rfl) (by kernel_rfl) (fun _ _ _ h => h) (Or.inl ⟨by rfl, fun w hS => by go_simp⟩) hHeld ?_
  simp only [Act.put, List.getElem_toArray, List.getElem_cons_zero, List.getElem_cons_succ, List.setIfInBounds_toArray, List.set_cons_zero, List.set_cons_succ]
  refine wpAnyH_take (i := 2) (v := .bool true) rfl (by kernel_rfl) (by kernel_rfl) (by kernel_rfl) (fun _ _ _ h => h) (Or.inl ⟨by rfl, fun w hS => by go_simp⟩) hHeld ?_
  simp only [Act.put, List.getElem_toArray, List.getElem_cons_zero, List.getElem_cons_succ, List.setIfInBounds_toArray, List.set_cons_zero, List.set_cons_succ]
  refine wpAnyH_take (i := 3) (v := .bool true) rfl (by kernel_rfl) (by kernel_rfl) (by kernel_rfl) (fun _ _ _ h => h) (Or.inl ⟨by rfl, fun w hS => by go_simp⟩) hHeld ?_
  simp only [Act.put, List.getElem_toArray, List.getElem_cons_zero, List.getElem_cons_succ, List.setIfInBounds_toArray, List.set_cons_zero, List.set_cons_succ]
  refine wpAnyH_take (i := 4) (v := .slice (some ⟨g, off, none⟩) m cap) rfl (by kernel_rfl) (by kernel_rfl) (by kernel_rfl) (fun _ _ _ h => h) (Or.inl ⟨by rfl, fun w hS => by go_simp⟩) hHeld ?_
  simp only [Act.put, List.getElem_toArray, List.getElem_cons_zero, List.getElem_cons_succ, List.setIfInBounds_toArray, List.set_cons_zero, List.set_cons_succ]
  refine wpAnyH_take (i := 5) (v := .pointer (some ⟨g, off, none⟩)) rfl (by kernel_rfl) (by kernel_rfl) (by kernel_rfl) (fun _ _ _ h => h) (Or.inl ⟨by rfl, fun w hS => by go_simp⟩) hHeld ?_
  simp only [Act.put, List.getElem_toArray, List.getElem_cons_zero, List.getElem_cons_succ, List.setIfInBounds_toArray, List.set_cons_zero, List.set_cons_succ]
  refine wpAnyH_take (i := 6) (v := .pointer (some ⟨g, off + 1, none⟩)) rfl (by kernel_rfl) (by kernel_rfl) (by kernel_rfl) (fun _ _ _ h => h) (Or.inl ⟨by rfl, fun w hS => by go_simp⟩) hHeld ?_
  simp only [Act.put, List.getElem_toArray, List.getElem_cons_zero, List.getElem_cons_succ, List.setIfInBounds_toArray, List.set_cons_zero, List.set_cons_succ]
  refine wpAnyH_take (i := 7) (v := .agg (B K)) rfl (by kernel_rfl) (by kernel_rfl) (by kernel_rfl) (fun _ _ _ h => h) (yieldsIf_load_mid rfl 24 (.tmp 11) rfl g (off + 1) rfl (B K).toList _ (fun w hS => hS.1) Tryz.underlying24 rfl HLX.out) hHeld ?_
  simp only [Act.put, List.getElem_toArray, List.getElem_cons_zero, List.getElem_cons_succ, List.setIfInBounds_toArray, List.set_cons_zero, List.set_cons_succ]
  refine wpAnyH_take (i := 8) (v := .slice (some ⟨g, off, none⟩) m cap) rfl (by kernel_rfl) (by kernel_rfl) (by kernel_rfl) (fun _ _ _ h => h) (Or.inl ⟨by rfl, fun w hS => by go_simp⟩) hHeld ?_
  simp only [Act.put, List.getElem_toArray, List.getElem_cons_zero, List.getElem_cons_succ, List.setIfInBounds_toArray, List.set_cons_zero, List.set_cons_succ]
  refine wpAnyH_take (i := 9) (v := .slice (some ⟨g, off, none⟩) m cap) rfl (by kernel_rfl) (by kernel_rfl) (by kernel_rfl) (fun _ _ _ h => h) (Or.inl ⟨by rfl, fun w hS => by go_simp⟩) hHeld ?_
  simp only [Act.put, List.getElem_toArray, List.getElem_cons_zero, List.getElem_cons_succ, List.setIfInBounds_toArray, List.set_cons_zero, List.set_cons_succ]
  refine wpAnyH_take (i := 10) (v := .int .i64 m) rfl (by kernel_rfl) (by kernel_rfl) (by kernel_rfl) (fun _ _ _ h => h) (Or.inl ⟨by rfl, fun w hS => by go_simp⟩) hHeld ?_
  simp only [Act.put, List.getElem_toArray, List.getElem_cons_zero, List.getElem_cons_succ, List.setIfInBounds_toArray, List.set_cons_zero, List.set_cons_succ]
  refine wpAnyH_take (i := 11) (v := .int .i64 q) rfl (by kernel_rfl) (by kernel_rfl) (by kernel_rfl) (fun _ _ _ h => h) (Or.inl ⟨by rfl, fun w hS => by go_simp⟩) hHeld ?_
  simp only [Act.put, List.getElem_toArray, List.getElem_cons_zero, List.getElem_cons_succ, List.setIfInBounds_toArray, List.set_cons_zero, List.set_cons_succ]
  refine wpAnyH_take (i := 12) (v := .pointer (some ⟨g, off + q * 129, none⟩)) rfl (by kernel_rfl) (by kernel_rfl) (by kernel_rfl) (fun _ _ _ h => h) (Or.inl ⟨by rfl, fun w hS => by go_simp⟩) hHeld ?_
  simp only [Act.put, List.getElem_toArray, List.getElem_cons_zero, List.getElem_cons_succ, List.setIfInBounds_toArray, List.set_cons_zero, List.set_cons_succ]
  refine wpAnyH_take (i := 13) (v := .pointer (some ⟨g, off + q * 129 + 1, none⟩)) rfl (by kernel_rfl) (by kernel_rfl) (by kernel_rfl) (fun _ _ _ h => h) (Or.inl ⟨by rfl, fun w hS => by go_simp⟩) hHeld ?_
  simp only [Act.put, List.getElem_toArray, List.getElem_cons_zero, List.getElem_cons_succ, List.setIfInBounds_toArray, List.set_cons_zero, List.set_cons_succ]
  refine wpAnyH_take (i := 14) (v := .agg (B J)) rfl (by kernel_rfl) (by kernel_rfl) (by kernel_rfl) (fun _ _ _ h => h) (yieldsIf_load_mid rfl 24 (.tmp 18) rfl g (off + q * 129 + 1) rfl (B J).toList _ (fun w hS => hS.2) Tryz.underlying24 rfl HLY.out) hHeld ?_
  simp only [Act.put, List.getElem_toArray, List.getElem_cons_zero, List.getElem_cons_succ, List.setIfInBounds_toArray, List.set_cons_zero, List.set_cons_succ]
  refine wpAnyH_take (i := 15) (v := .int .i64 d) rfl (by kernel_rfl) (by kernel_rfl) (by kernel_rfl) (fun _ _ _ h => h) (Or.inl ⟨by rfl, fun w hS => by go_simp⟩) hHeld ?_
  simp only [Act.put, List.getElem_toArray, List.getElem_cons_zero, List.getElem_cons_succ, List.setIfInBounds_toArray, List.set_cons_zero, List.set_cons_succ]
  refine wpAnyH_ready (rs := [16]) (by kernel_rfl) (by simp) ?_
  refine AllReadyH.cons rfl (fun KQ hK => ?_) AllReadyH.nil
  go_simp
  refine (HU.out _).mono ?_
  rintro e x1 ⟨rfl, a1⟩
  have d1 := grow_trans d0 a1
  refine hK.out _ _ (HS.out _ d1) (fun hHeld => ?_)
  clear hK KQ
  refine wpAnyH_take (i := 17) (v := .bool (!b)) rfl (by kernel_rfl) (by kernel_rfl) (by kernel_rfl) (fun _ _ _ h => h) (Or.inl ⟨by rfl, fun w hS => by go_simp⟩) hHeld ?_
  simp only [Act.put, List.getElem_toArray, List.getElem_cons_zero, List.getElem_cons_succ, List.setIfInBounds_toArray, List.set_cons_zero, List.set_cons_succ]
  refine wpAnyH_take (i := 18) (v := .bool (!b)) rfl (by kernel_rfl) (by kernel_rfl) (by kernel_rfl) (fun _ _ _ h => h) (Or.inl ⟨by rfl, fun w hS => by go_simp⟩) hHeld ?_
  simp only [Act.put, List.getElem_toArray, List.getElem_cons_zero, List.getElem_cons_succ, List.setIfInBounds_toArray, List.set_cons_zero, List.set_cons_succ]
  refine wpAnyH_take (i := 19) (v := .bool (!b)) rfl (by kernel_rfl) (by kernel_rfl) (by kernel_rfl) (fun _ _ _ h => h) (Or.inl ⟨by rfl, fun w hS => by go_simp⟩) hHeld ?_
  simp only [Act.put, List.getElem_toArray, List.getElem_cons_zero, List.getElem_cons_succ, List.setIfInBounds_toArray, List.set_cons_zero, List.set_cons_succ]
  refine wpAnyH_done (by kernel_rfl) ?_ _
  go_wp2_with fail
  go_ret
  exact ⟨rfl, d1⟩

theorem parted_any (v : Value) (ls : List Lf) (d : Nat) (b : Bool) (w : World) (hv : LvAt w v ls) (hr : Rise ls) (hn : ls.length ≤ 4096) (hd : d ≤ 256) (hb : b = true ↔ Same ls d) :
    Calls Tryz.prog 30 #[v, .int .i64 d] w fun e w' => e = .returned (.bool (!b)) ∧ Below w.heap.size w w' := by
  obtain ⟨a, cap, rfl, hc, h⟩ := hv
  by_cases hl : ls.length ≤ 1
  · have : b = true := hb.2 (same_few hl d)
    subst this
    exact parted_few a ls.length cap d w hl
  · obtain ⟨g, off, rfl, hrr⟩ := h (by omega)
    have h0 := hrr 0 (by omega)
    rw [Nat.zero_mul, Nat.add_zero] at h0
    refine parted_more g off ls.length cap ls[0]! ls[ls.length - 1]! d b w (by omega) hn h0 (hrr (ls.length - 1) (by omega)) ?_
    rw [hb, same_ends hr (by omega) d]
    exact ⟨fun h => ⟨by omega, by omega, fun j hj => h j (by omega)⟩, fun h j hj => h.2.2 j (by omega)⟩

/-- All keys have the same first d bits. -/
def SameE (es : List Ent) (d : Nat) : Prop := ∀ a ∈ es, ∀ b ∈ es, ∀ j, j < d → kb a.1 j = kb b.1 j
theorem same_map {es : List Ent} {ls : List Lf} {d : Nat} (hk : ∀ e ∈ es, Key e.1) (hp : ls.Perm (es.map mkLf)) : Same ls d ↔ SameE es d := by
  constructor
  · intro h a ha b hb j hj
    have h1 := h (mkLf a) (hp.mem_iff.2 (List.mem_map_of_mem ha)) (mkLf b) (hp.mem_iff.2 (List.mem_map_of_mem hb)) j hj
    rwa [mkLf_key (hk a ha), mkLf_key (hk b hb)] at h1
  · intro h x hx y hy j hj
    obtain ⟨a, ha, rfl⟩ := List.mem_map.1 (hp.mem_iff.1 hx)
    obtain ⟨b, hb, rfl⟩ := List.mem_map.1 (hp.mem_iff.1 hy)
    rw [mkLf_key (hk a ha), mkLf_key (hk b hb)]
    exact h a ha b hb j hj

/-- What RootAt tells. -/
inductive RootIs (es : List Ent) (d : Int) : List Int → Int → Prop
  | out : (d < 0 ∨ 256 < d) → RootIs es d z32 2
  | bad (E : Int) : 0 ≤ d → d ≤ 256 → errB es = E → E ≠ 0 → RootIs es d z32 E
  | part : 0 ≤ d → d ≤ 256 → errB es = 0 → ¬ SameE es d.toNat → RootIs es d z32 2
  | good : 0 ≤ d → d ≤ 256 → errB es = 0 → SameE es d.toNat → RootIs es d (rt (256 - d.toNat) d.toNat es) 0

theorem RootIs.one {es : List Ent} {d : Int} {h h' : List Int} {e e' : Int} (p : RootIs es d h e) (q : RootIs es d h' e') : h = h' ∧ e = e' := by
  cases p <;> cases q <;> first | exact ⟨rfl, rfl⟩ | (exfalso; omega) | (exfalso; contradiction) | (refine ⟨rfl, ?_⟩; omega) | skip

theorem RootIs.len {es : List Ent} {d : Int} {h : List Int} {e : Int} (p : RootIs es d h e) : h.length = 32 := by
  cases p with
  | out _ => rfl
  | bad _ _ _ _ _ => rfl
  | part _ _ _ _ => rfl
  | good _ _ _ _ =>
    match hn : 256 - d.toNat, es with
    | _, [] => rw [rt_nil]; exact dig_length _
    | _, [x] => rw [rt_one]; exact dig_length _
    | 0, _ :: _ :: _ => exact dig_length _
    | n + 1, a :: b :: l => rw [rt_more n _ _ (by simp)]; exact dig_length _

set_option maxHeartbeats 2000000 in
theorem RootAt_out (v : Value) (V : Nat → Value) (es : List Ent) (d : Int) (w : World) (hv : PrAt w v V es) (hd : d < 0 ∨ 256 < d) :
    Calls Tryz.prog 13 #[v, .int .i64 d] w fun e w' => e = .returned (.tuple #[.agg (B z32), .int .i64 2]) ∧ Below w.heap.size w w' := by
  obtain ⟨a, cap, rfl, _, _, _⟩ := hv
  have HB : Hid (Tryz.prog.built 25 [] = some (B z32)) := built_hash
  by_cases h0 : d < 0
  · have t0 : decide (d < 0) = true := decide_eq_true h0
    clear hd
    go_enter Tryz.func13, Tryz.ntmps13
    go_wp2_with (first
      | ((with_reducible refine at_ald 4 ?_); refine wpList_al _ rfl _ rfl _ zero_hash ?_; intro w1 g1 hg1 hl1 B1 b1)
      | ((with_reducible refine at_bd ?_); refine wpList_bld _ rfl _ _ rfl _ (by rw [List.map_toArray]; exact HB.out) ?_)
      | ((with_reducible refine at_st 4 ?_); refine wpList_sto _ rfl _ _ _ rfl g1 _ (B z32) rfl rfl B1 (by kernel_rfl) rfl (B_one _) ?_; intro w3 B3 r3))
    exact bodyPost_ret (v := .tuple #[.agg (B z32), .int .i64 2]) (results_row_tmp rfl _ _ g1 _ _ _ _ rfl rfl B3 Tryz.underlying25 (by kernel_rfl)) rfl ⟨rfl, below_row b1 r3 hg1⟩
  · have h1 : 256 < d := by omega
    have t0 : decide (d < 0) = false := decide_eq_false h0
    have t1 : decide (256 < d) = true := decide_eq_true h1
    clear hd
    go_enter Tryz.func13, Tryz.ntmps13
    go_wp2_with (first
      | ((with_reducible refine at_ald 4 ?_); refine wpList_al _ rfl _ rfl _ zero_hash ?_; intro w1 g1 hg1 hl1 B1 b1)
      | ((with_reducible refine at_bd ?_); refine wpList_bld _ rfl _ _ rfl _ (by rw [List.map_toArray]; exact HB.out) ?_)
      | ((with_reducible refine at_st 4 ?_); refine wpList_sto _ rfl _ _ _ rfl g1 _ (B z32) rfl rfl B1 (by kernel_rfl) rfl (B_one _) ?_; intro w3 B3 r3))
    exact bodyPost_ret (v := .tuple #[.agg (B z32), .int .i64 2]) (results_row_tmp rfl _ _ g1 _ _ _ _ rfl rfl B3 Tryz.underlying25 (by kernel_rfl)) rfl ⟨rfl, below_row b1 r3 hg1⟩

set_option maxHeartbeats 2000000 in
theorem RootAt_bad (v : Value) (V : Nat → Value) (es : List Ent) (d : Nat) (w : World) (hv : PrAt w v V es) (hn : es.length ≤ 140737488355328) (hd : d ≤ 256) (hE : errB es ≠ 0) :
    Calls Tryz.prog 13 #[v, .int .i64 d] w fun e w' => e = .returned (.tuple #[.agg (B z32), .int .i64 (errB es)]) ∧ Below w.heap.size w w' := by
  have HLv : Hid (∀ w', Below w.heap.size w w' → Calls Tryz.prog 14 #[v] w' fun e w'' => e = .returned (.tuple #[.slice none 0 0, .int .i64 (errB es)]) ∧ Below w'.heap.size w' w'') := fun w' hb => leavesOf_bad v V es w' (hv.grow hb) hn hE
  obtain ⟨a, cap, rfl, _, _, _⟩ := hv
  have HB : Hid (Tryz.prog.built 25 [] = some (B z32)) := built_hash
  obtain ⟨E, hEE⟩ : ∃ E, E = errB es := ⟨_, rfl⟩
  rw [← hEE] at HLv hE ⊢
  have h1 : (E != 0) = true := by simp [hE]
  have h2 : (E == 0) = false := by simp [hE]
  have t0 : decide ((d : Int) < 0) = false := decide_eq_false (by omega)
  have t1 : decide ((256 : Int) < (d : Int)) = false := decide_eq_false (by omega)
  have u0 : ¬ (d : Int) < 0 := by omega
  have u1 : ¬ (256 : Int) < (d : Int) := by omega
  clear hEE hE hd
  go_enter Tryz.func13, Tryz.ntmps13
  go_wp2_with (first
    | ((with_reducible refine at_ald 4 ?_); refine wpList_al _ rfl _ rfl _ zero_hash ?_; intro w1 g1 hg1 hl1 B1 b1)
    | (go_at_call 14; refine (HLv.out _ b1).mono ?_; rintro e w2 ⟨rfl, b2⟩; have B2 := B1.grow b2)
    | ((with_reducible refine at_bd ?_); refine wpList_bld _ rfl _ _ rfl _ (by rw [List.map_toArray]; exact HB.out) ?_)
    | ((with_reducible refine at_st 4 ?_); refine wpList_sto _ rfl _ _ _ rfl g1 _ (B z32) rfl rfl B2 (by kernel_rfl) rfl (B_one _) ?_; intro w3 B3 r3))
  exact bodyPost_ret (v := .tuple #[.agg (B z32), .int .i64 E]) (results_row_tmp rfl _ _ g1 _ _ _ _ rfl rfl B3 Tryz.underlying25 (by kernel_rfl)) rfl ⟨rfl, below_row (grow_trans b1 b2) r3 hg1⟩

set_option maxHeartbeats 4000000 in
theorem RootAt_in (v : Value) (V : Nat → Value) (es : List Ent) (d : Nat) (b : Bool) (w : World) (hv : PrAt w v V es) (hn : es.length ≤ 4096) (hL : Laid w) (hd : d ≤ 256) (hE : errB es = 0) (hb : b = true ↔ SameE es d) :
    Calls Tryz.prog 13 #[v, .int .i64 d] w fun e w' => e = .returned (.tuple #[.agg (B (if b = true then rt (256 - d) d es else z32)), .int .i64 (if b = true then 0 else 2)]) ∧ Below w.heap.size w w' := by
  have hkeys := hv.keys
  have HL := hidden hL
  have HLv : Hid (∀ w', Below w.heap.size w w' → Calls Tryz.prog 14 #[v] w' (LvPost es w')) := fun w' hbb => leavesOf_ok v V es w' (hv.grow hbb) hn (hL.grow hbb) hE
  have HPa : Hid (∀ w' x ls, LvAt w' x ls → ls.Perm (es.map mkLf) → Rise ls → Calls Tryz.prog 30 #[x, .int .i64 d] w' fun e w'' => e = .returned (.bool (!b)) ∧ Below w'.heap.size w' w'') := fun w' x ls h1 h2 h3 => parted_any x ls d b w' h1 h3 (by rw [h2.length_eq, List.length_map]; exact hn) hd (by rw [hb, same_map hkeys h2])
  have HRt : Hid (b = true → ∀ w' x ls, LvAt w' x ls → ls.Perm (es.map mkLf) → Rise ls → Laid w' → Calls Tryz.prog 17 #[x, .int .i64 d] w' fun e w'' => e = .returned (.agg (B (rt (256 - d) d es))) ∧ Below w'.heap.size w' w'') := by
    intro hbt w' x ls h1 h2 h3 hl
    have h4 := rootAt_any (256 - d) d ls x w' (by omega) (by rw [h2.length_eq, List.length_map]; exact hn) h3 ((same_map hkeys h2).2 (hb.1 hbt)) h1 hl
    rwa [rtL_perm _ _ _ _ h2, rt_map _ _ _ (by omega) hkeys] at h4
  obtain ⟨a, cap, rfl, _, _, _⟩ := hv
  have HB : Hid (Tryz.prog.built 25 [] = some (B z32)) := built_hash
  have t0 : decide ((d : Int) < 0) = false := decide_eq_false (by omega)
  have t1 : decide ((256 : Int) < (d : Int)) = false := decide_eq_false (by omega)
  have u0 : ¬ (d : Int) < 0 := by omega
  have u1 : ¬ (256 : Int) < (d : Int) := by omega
  obtain ⟨D, hD⟩ : ∃ D, D = rt (256 - d) d es := ⟨_, rfl⟩
  have HF : Hid (b = true → (Tryz.prog.info? 25).map (·.size) = some (B D).size ∧ (B (List.replicate 32 0)).size = (B D).size) := fun hbt => hash_facts D (by
    rw [hD]
    exact (RootIs.good (es := es) (d := (d : Int)) (by omega) (by omega) hE (by simpa using hb.1 hbt)).len)
  rw [← hD] at HRt ⊢
  clear hb hE hd hD hkeys hL
  cases b with
  | false =>
    go_enter Tryz.func13, Tryz.ntmps13
    go_wp2_with (first
      | ((with_reducible refine at_ald 4 ?_); refine wpList_al _ rfl _ rfl _ zero_hash ?_; intro w1 g1 hg1 hl1 B1 b1)
      | (go_at_call 14; refine (HLv.out _ b1).mono ?_; rintro e w2 ⟨x, ls, rfl, p1, p2, p3, b2⟩; have B2 := B1.grow b2; have P1 := hidden p1; have P2 := hidden p2; have P3 := hidden p3; clear p1 p2 p3)
      | (go_at_call 30; refine (HPa.out _ _ _ P1.out P2.out P3.out).mono ?_; rintro e w3 ⟨rfl, b3⟩; have B3 := B2.grow b3)
      | ((with_reducible refine at_bd ?_); refine wpList_bld _ rfl _ _ rfl _ (by rw [List.map_toArray]; exact HB.out) ?_)
      | ((with_reducible refine at_st 4 ?_); refine wpList_sto _ rfl _ _ _ rfl g1 _ (B z32) rfl rfl B3 (by kernel_rfl) rfl (B_one _) ?_; intro w4 B4 r4))
    exact bodyPost_ret (v := .tuple #[.agg (B z32), .int .i64 2]) (results_row_tmp rfl _ _ g1 _ _ _ _ rfl rfl B4 Tryz.underlying25 (by kernel_rfl)) rfl ⟨rfl, below_row (grow_trans (grow_trans b1 b2) b3) r4 hg1⟩
  | true =>
    have HF1 := hidden (HF.out rfl)
    have HR1 := hidden (HRt.out rfl)
    clear HF HRt
    go_enter Tryz.func13, Tryz.ntmps13
    go_wp2_with (first
      | ((with_reducible refine at_ald 4 ?_); refine wpList_al _ rfl _ rfl _ zero_hash ?_; intro w1 g1 hg1 hl1 B1 b1)
      | (go_at_call 14; refine (HLv.out _ b1).mono ?_; rintro e w2 ⟨x, ls, rfl, p1, p2, p3, b2⟩; have B2 := B1.grow b2; have P1 := hidden p1; have P2 := hidden p2; have P3 := hidden p3; clear p1 p2 p3)
      | (go_at_call 30; refine (HPa.out _ _ _ P1.out P2.out P3.out).mono ?_; rintro e w3 ⟨rfl, b3⟩; have B3 := B2.grow b3; have c3 := grow_trans (grow_trans b1 b2) b3)
      | (go_at_call 17; refine (HR1.out _ _ _ (P1.out.grow b3) P2.out P3.out (HL.out.grow c3)).mono ?_; rintro e w5 ⟨rfl, b5⟩; have B5 := B3.grow b5)
      | ((with_reducible refine at_st 4 ?_); refine wpList_sto _ rfl _ _ _ rfl g1 _ (B D) rfl rfl B5 HF1.out.1 HF1.out.2 (B_one _) ?_; intro w4 B4 r4))
    exact bodyPost_ret (v := .tuple #[.agg (B D), .int .i64 0]) (results_row_tmp rfl _ _ g1 _ _ _ _ rfl rfl B4 Tryz.underlying25 HF1.out.1) rfl ⟨rfl, below_row (grow_trans c3 b5) r4 hg1⟩

end Go.Proofs.YtpihigcnoifcfaaGreatDoor
