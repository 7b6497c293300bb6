/- The document's List of entries, as a contract. -/
import Derived.Test.YtdpaanidangnlaaDoorWn40
namespace Go.Proofs.YtdpaanidangnlaaDoor
set_option maxRecDepth 20000
open Go.RowKit

theorem rng_key {w : World} {g o : Nat} {k : List Int} {v : Value} (h : w.rangeAt g o (encP k v)) : w.rangeAt g o (B k).toList := by
  intro j u hu
  rw [B_toList] at hu
  have hj : j < (k.map (Value.int .u8)).length := (List.getElem?_eq_some_iff.1 hu).1
  refine h j u ?_
  unfold encP
  rw [List.getElem?_append_left hj]
  exact hu
theorem rng_val {w : World} {g o : Nat} {k : List Int} {v : Value} (h : w.rangeAt g o (encP k v)) (hk : k.length = 32) : w.cell? ⟨g, o + 32, none⟩ = some v := by
  refine h 32 v ?_
  unfold encP
  rw [List.getElem?_append_right (by simp [hk])]
  simp [hk]

set_option maxRecDepth 100000 in
set_option maxHeartbeats 8000000 in
theorem refList_any (v : Value) (V : Nat → Value) (es : List Ent) (w : World) (hv : PrAt w v V es) (hn : es.length ≤ 140737488355328) :
    Calls Tryd.prog 31 #[v] w fun e w' => e = .returned (.int .i64 (errB es)) ∧ Below w.heap.size w w' := by
  obtain ⟨a, cap, rfl, hcap, hc, hr⟩ := hv
  by_cases hbig : 4096 < es.length
  · have hE : errB es = 4 := by rw [errB, if_pos hbig]
    rw [hE]
    have hb : (4096 : Int) < (es.length : Int) := by omega
    clear hc hr hcap hbig hE
    go_enter Tryd.func31, Tryd.ntmps31
    go_wp2
    go_ret
    exact ⟨rfl, Below.refl _ _⟩
  · have HE : Hid (errB es = lsE [] es) := by show _ = _; rw [errB, if_neg hbig]
    have HC := hidden hc
    have HR := hidden hr
    have hb : ¬ (4096 : Int) < (es.length : Int) := by omega
    obtain ⟨n, hnn⟩ : ∃ n, n = es.length := ⟨_, rfl⟩
    have HN := hidden hnn
    obtain ⟨E, hE⟩ : ∃ E, E = errB es := ⟨_, rfl⟩
    rw [← hE] at HE ⊢
    rw [← hnn] at hb hn ⊢
    have hn2 : n ≤ 4096 := by omega
    clear hc hr hcap hbig hnn hE
    go_enter Tryd.func31, Tryd.ntmps31
    go_wp2_with fail
    go_loopw [3] (fun i wr => ∃ k : Nat, k ≤ n ∧ i = .int .i64 k ∧ Hid (E = lsE ((es.take k).map (·.1)) (es.drop k)) ∧ Below w.heap.size w wr) (fun i _ => n - (intOf i).toNat)
    case atStart => exact ⟨0, by omega, rfl, HE, Below.refl _ _⟩
    case round =>
      obtain ⟨k, hk, rfl, hls, hbw⟩ := hrel
      by_cases hlt : k < n
      · have hlt' : k < es.length := by rw [← HN.out]; exact hlt
        obtain ⟨g, off, rfl, hcc⟩ := HC.out (by omega)
        have z1 : (k : Int) < (n : Int) := by omega
        have z0 : (0 : Int) ≤ (k : Int) := by omega
        obtain ⟨hkey, hrd⟩ := HR.out k hlt'
        have HCC : Hid (∀ i, i < n → ∀ w', Below w.heap.size w w' → w'.rangeAt g (off + i * 33) (encP (es.getD i e00).1 (V i))) := fun i hi w' hw' => rng_grow (hcc i (by rw [← HN.out]; exact hi)) hw'
        have hst := lsE_step ((es.take k).map (·.1)) es k hlt'
        rw [← hls.out] at hst
        have HKT := hidden (keys_take es k hlt')
        have HKM : Hid (∀ x, x ∈ (es.take k).map (·.1) ↔ ∃ q, q < k ∧ (es.getD q e00).1 = x) := by
          intro x
          constructor
          · intro hx
            obtain ⟨y, hy, rfl⟩ := List.mem_map.1 hx
            obtain ⟨j, hj, rfl⟩ := List.mem_iff_getElem.1 hy
            simp at hj
            exact ⟨j, by omega, by simp [List.getD, show j < es.length by omega]⟩
          · rintro ⟨q, hq, rfl⟩
            refine List.mem_map.2 ⟨es.getD q e00, ?_, rfl⟩
            have hq' : q < es.length := by omega
            have : es.getD q e00 = (es.take k)[q]'(by simp; omega) := by simp [List.getD, hq']
            rw [this]
            exact List.getElem_mem _
        obtain ⟨va, vc, hV, _, _, _, _⟩ := hrd
        have ckv : wr.cell? ⟨g, off + k * 33 + 32, none⟩ = some (V k) := rng_val (HCC.out k hlt wr hbw) hkey.1
        obtain ⟨K, hK⟩ : ∃ K, K = (es.getD k e00).1 := ⟨_, rfl⟩
        obtain ⟨L, hL⟩ : ∃ L, L = (es.getD k e00).2.length := ⟨_, rfl⟩
        rw [← hK, ← hL] at hst
        rw [← hK] at HKT hkey
        rw [← hL] at hV
        rw [hV] at ckv
        have HKK := hidden hK
        have HKY := hidden hkey
        obtain ⟨ks, hksd⟩ : ∃ ks, ks = (es.take k).map (·.1) := ⟨_, rfl⟩
        rw [← hksd] at hst HKT HKM
        clear hcc hls hK hL hV hkey hksd hlt'
        by_cases hlong : 1024 < L
        · rw [if_pos hlong] at hst
          have hl2 : (1024 : Int) < (L : Int) := by omega
          have HSTT := hidden hst
          clear hst hlong
          go_wp2_with fail
          go_ret
          exact ⟨by rw [HSTT.out]; rfl, hbw⟩
        · rw [if_neg hlong] at hst
          have hl2 : ¬ (1024 : Int) < (L : Int) := by omega
          have HST := hidden hst
          clear hst hlong
          go_wp2_with fail
          go_loopw [4] (fun j ws => ∃ q : Nat, q ≤ k ∧ j = .int .i64 q ∧ Hid (∀ p, p < q → (es.getD p e00).1 ≠ K) ∧ Below w.heap.size w ws) (fun j _ => k - (intOf j).toNat)
          case atStart => exact ⟨0, by omega, rfl, fun p hp => by omega, hbw⟩
          case round =>
            obtain ⟨q, hq, rfl, hno, hbs⟩ := hrel
            by_cases hqk : q < k
            · have y1 : (q : Int) < (k : Int) := by omega
              have y0 : (0 : Int) ≤ (q : Int) := by omega
              have y2 : (q : Int) < (n : Int) := by omega
              obtain ⟨J, hJ⟩ : ∃ J, J = (es.getD q e00).1 := ⟨_, rfl⟩
              have HJL : Hid (J.length = 32) := by
                show _ = _
                rw [hJ]
                exact (HR.out q (by rw [← HN.out]; omega)).1.1
              have hEq : ∀ w, (Op.equalIn 10000 24 (.agg (B J)) (.agg (B K))).run Tryd.prog w = .ok (decide (J = K)) w := fun w => path_eq J K HJL.out HKY.out.1 w
              have HS : Hid (∀ w', Below w.heap.size w w' → w'.rangeAt g (off + q * 33) (B J).toList ∧ w'.rangeAt g (off + k * 33) (B K).toList) := fun w' hw' => by
                have h1 := rng_key (HCC.out q (by omega) w' hw')
                have h2 := rng_key (HCC.out k hlt w' hw')
                rw [← hJ] at h1
                rw [← HKK.out] at h2
                exact ⟨h1, h2⟩
              have HLJ : Hid ((Tryd.prog.info? 24).map (·.size) = some (B J).toList.length) := by show _ = _; rw [B_toList, List.length_map, HJL.out]; exact sz_path
              have HLK : Hid ((Tryd.prog.info? 24).map (·.size) = some (B K).toList.length) := by show _ = _; rw [B_toList, List.length_map, HKY.out.1]; exact sz_path
              have HJJ := hidden hJ
              clear hJ
              by_cases hJK : J = K
              · have HR6 : Hid (E = 6) := by
                  show _ = _
                  rw [HST.out, if_pos ((HKM.out K).2 ⟨q, hqk, by rw [← HJJ.out, hJK]⟩)]
                rw [decide_eq_true hJK] at hEq
                have HJK := hidden hJK
                clear hJK
                go_wp2_with fail
                have d0 : Below w.heap.size w wr.drew := grow_trans hbs (Below.refl _ _).drew
                refine wp_region_held_drew (S := fun w' => w'.rangeAt g (off + q * 33) (B J).toList ∧ w'.rangeAt g (off + k * 33) (B K).toList) (by kernel_rfl) (HS.out _ d0) (fun hHeld => ?_)
                refine wpAnyH_take (i := 0) (v := .slice (some ⟨g, off, none⟩) n cap) rfl (by kernel_rfl) (by kernel_rfl) (by kernel_rfl) (fun _ _ _ h => h) (Or.inl ⟨by rfl, fun w hS => by go_simp⟩) hHeld ?_
                simp only [Act.put, List.getElem_toArray, List.getElem_cons_zero, List.setIfInBounds_toArray, List.set_cons_zero, List.set_cons_succ]
                refine wpAnyH_take (i := 1) (v := .int .i64 q) rfl (by kernel_rfl) (by kernel_rfl) (by kernel_rfl) (fun _ _ _ h => h) (Or.inl ⟨by rfl, fun w hS => by go_simp⟩) hHeld ?_
                simp only [Act.put, List.getElem_toArray, List.getElem_cons_zero, List.getElem_cons_succ, List.setIfInBounds_toArray, List.set_cons_zero, List.set_cons_succ]
                refine wpAnyH_take (i := 2) (v := .pointer (some ⟨g, off + q * 33, none⟩)) rfl (by kernel_rfl) (by kernel_rfl) (by kernel_rfl) (fun _ _ _ h => h) (Or.inl ⟨by rfl, fun w hS => by go_simp⟩) hHeld ?_
                simp only [Act.put, List.getElem_toArray, List.getElem_cons_zero, List.getElem_cons_succ, List.setIfInBounds_toArray, List.set_cons_zero, List.set_cons_succ]
                refine wpAnyH_take (i := 3) (v := .pointer (some ⟨g, off + q * 33, none⟩)) rfl (by kernel_rfl) (by kernel_rfl) (by kernel_rfl) (fun _ _ _ h => h) (Or.inl ⟨by rfl, fun w hS => by go_simp⟩) hHeld ?_
                simp only [Act.put, List.getElem_toArray, List.getElem_cons_zero, List.getElem_cons_succ, List.setIfInBounds_toArray, List.set_cons_zero, List.set_cons_succ]
                refine wpAnyH_take (i := 4) (v := .agg (B J)) rfl (by kernel_rfl) (by kernel_rfl) (by kernel_rfl) (fun _ _ _ h => h) (yieldsIf_load_mid rfl 24 (.tmp 29) rfl g (off + q * 33) rfl (B J).toList _ (fun w hS => hS.1) Tryd.underlying24 rfl HLJ.out) hHeld ?_
                simp only [Act.put, List.getElem_toArray, List.getElem_cons_zero, List.getElem_cons_succ, List.setIfInBounds_toArray, List.set_cons_zero, List.set_cons_succ]
                refine wpAnyH_take (i := 5) (v := .slice (some ⟨g, off, none⟩) n cap) rfl (by kernel_rfl) (by kernel_rfl) (by kernel_rfl) (fun _ _ _ h => h) (Or.inl ⟨by rfl, fun w hS => by go_simp⟩) hHeld ?_
                simp only [Act.put, List.getElem_toArray, List.getElem_cons_zero, List.getElem_cons_succ, List.setIfInBounds_toArray, List.set_cons_zero, List.set_cons_succ]
                refine wpAnyH_take (i := 6) (v := .int .i64 k) rfl (by kernel_rfl) (by kernel_rfl) (by kernel_rfl) (fun _ _ _ h => h) (Or.inl ⟨by rfl, fun w hS => by go_simp⟩) hHeld ?_
                simp only [Act.put, List.getElem_toArray, List.getElem_cons_zero, List.getElem_cons_succ, List.setIfInBounds_toArray, List.set_cons_zero, List.set_cons_succ]
                refine wpAnyH_take (i := 7) (v := .pointer (some ⟨g, off + k * 33, none⟩)) rfl (by kernel_rfl) (by kernel_rfl) (by kernel_rfl) (fun _ _ _ h => h) (Or.inl ⟨by rfl, fun w hS => by go_simp⟩) hHeld ?_
                simp only [Act.put, List.getElem_toArray, List.getElem_cons_zero, List.getElem_cons_succ, List.setIfInBounds_toArray, List.set_cons_zero, List.set_cons_succ]
                refine wpAnyH_take (i := 8) (v := .pointer (some ⟨g, off + k * 33, none⟩)) rfl (by kernel_rfl) (by kernel_rfl) (by kernel_rfl) (fun _ _ _ h => h) (Or.inl ⟨by rfl, fun w hS => by go_simp⟩) hHeld ?_
                simp only [Act.put, List.getElem_toArray, List.getElem_cons_zero, List.getElem_cons_succ, List.setIfInBounds_toArray, List.set_cons_zero, List.set_cons_succ]
                refine wpAnyH_take (i := 9) (v := .agg (B K)) rfl (by kernel_rfl) (by kernel_rfl) (by kernel_rfl) (fun _ _ _ h => h) (yieldsIf_load_mid rfl 24 (.tmp 34) rfl g (off + k * 33) rfl (B K).toList _ (fun w hS => hS.2) Tryd.underlying24 rfl HLK.out) hHeld ?_
                simp only [Act.put, List.getElem_toArray, List.getElem_cons_zero, List.getElem_cons_succ, List.setIfInBounds_toArray, List.set_cons_zero, List.set_cons_succ]
                refine wpAnyH_take (i := 10) (v := .bool true) rfl (by kernel_rfl) (by kernel_rfl) (by kernel_rfl) (fun _ _ _ h => h) (Or.inl ⟨by rfl, fun w hS => by go_simp⟩) hHeld ?_
                simp only [Act.put, List.getElem_toArray, List.getElem_cons_zero, List.getElem_cons_succ, List.setIfInBounds_toArray, List.set_cons_zero, List.set_cons_succ]
                refine wpAnyH_done (by kernel_rfl) ?_ _
                go_wp2_with fail
                go_ret
                exact ⟨by rw [HR6.out]; rfl, d0⟩
              · have HNO : Hid (∀ p, p < q + 1 → (es.getD p e00).1 ≠ K) := by
                  intro p hp
                  by_cases e : p = q
                  · rw [e, ← HJJ.out]
                    exact hJK
                  · exact hno.out p (by omega)
                rw [decide_eq_false hJK] at hEq
                clear hJK
                go_wp2_with fail
                have d0 : Below w.heap.size w wr.drew := grow_trans hbs (Below.refl _ _).drew
                refine wp_region_held_drew (S := fun w' => w'.rangeAt g (off + q * 33) (B J).toList ∧ w'.rangeAt g (off + k * 33) (B K).toList) (by kernel_rfl) (HS.out _ d0) (fun hHeld => ?_)
                refine wpAnyH_take (i := 0) (v := .slice (some ⟨g, off, none⟩) n cap) rfl (by kernel_rfl) (by kernel_rfl) (by kernel_rfl) (fun _ _ _ h => h) (Or.inl ⟨by rfl, fun w hS => by go_simp⟩) hHeld ?_
                simp only [Act.put, List.getElem_toArray, List.getElem_cons_zero, List.setIfInBounds_toArray, List.set_cons_zero, List.set_cons_succ]
                refine wpAnyH_take (i := 1) (v := .int .i64 q) rfl (by kernel_rfl) (by kernel_rfl) (by kernel_rfl) (fun _ _ _ h => h) (Or.inl ⟨by rfl, fun w hS => by go_simp⟩) hHeld ?_
                simp only [Act.put, List.getElem_toArray, List.getElem_cons_zero, List.getElem_cons_succ, List.setIfInBounds_toArray, List.set_cons_zero, List.set_cons_succ]
                refine wpAnyH_take (i := 2) (v := .pointer (some ⟨g, off + q * 33, none⟩)) rfl (by kernel_rfl) (by kernel_rfl) (by kernel_rfl) (fun _ _ _ h => h) (Or.inl ⟨by rfl, fun w hS => by go_simp⟩) hHeld ?_
                simp only [Act.put, List.getElem_toArray, List.getElem_cons_zero, List.getElem_cons_succ, List.setIfInBounds_toArray, List.set_cons_zero, List.set_cons_succ]
                refine wpAnyH_take (i := 3) (v := .pointer (some ⟨g, off + q * 33, none⟩)) rfl (by kernel_rfl) (by kernel_rfl) (by kernel_rfl) (fun _ _ _ h => h) (Or.inl ⟨by rfl, fun w hS => by go_simp⟩) hHeld ?_
                simp only [Act.put, List.getElem_toArray, List.getElem_cons_zero, List.getElem_cons_succ, List.setIfInBounds_toArray, List.set_cons_zero, List.set_cons_succ]
                refine wpAnyH_take (i := 4) (v := .agg (B J)) rfl (by kernel_rfl) (by kernel_rfl) (by kernel_rfl) (fun _ _ _ h => h) (yieldsIf_load_mid rfl 24 (.tmp 29) rfl g (off + q * 33) rfl (B J).toList _ (fun w hS => hS.1) Tryd.underlying24 rfl HLJ.out) hHeld ?_
                simp only [Act.put, List.getElem_toArray, List.getElem_cons_zero, List.getElem_cons_succ, List.setIfInBounds_toArray, List.set_cons_zero, List.set_cons_succ]
                refine wpAnyH_take (i := 5) (v := .slice (some ⟨g, off, none⟩) n cap) rfl (by kernel_rfl) (by kernel_rfl) (by kernel_rfl) (fun _ _ _ h => h) (Or.inl ⟨by rfl, fun w hS => by go_simp⟩) hHeld ?_
                simp only [Act.put, List.getElem_toArray, List.getElem_cons_zero, List.getElem_cons_succ, List.setIfInBounds_toArray, List.set_cons_zero, List.set_cons_succ]
                refine wpAnyH_take (i := 6) (v := .int .i64 k) rfl (by kernel_rfl) (by kernel_rfl) (by kernel_rfl) (fun _ _ _ h => h) (Or.inl ⟨by rfl, fun w hS => by go_simp⟩) hHeld ?_
                simp only [Act.put, List.getElem_toArray, List.getElem_cons_zero, List.getElem_cons_succ, List.setIfInBounds_toArray, List.set_cons_zero, List.set_cons_succ]
                refine wpAnyH_take (i := 7) (v := .pointer (some ⟨g, off + k * 33, none⟩)) rfl (by kernel_rfl) (by kernel_rfl) (by kernel_rfl) (fun _ _ _ h => h) (Or.inl ⟨by rfl, fun w hS => by go_simp⟩) hHeld ?_
                simp only [Act.put, List.getElem_toArray, List.getElem_cons_zero, List.getElem_cons_succ, List.setIfInBounds_toArray, List.set_cons_zero, List.set_cons_succ]
                refine wpAnyH_take (i := 8) (v := .pointer (some ⟨g, off + k * 33, none⟩)) rfl (by kernel_rfl) (by kernel_rfl) (by kernel_rfl) (fun _ _ _ h => h) (Or.inl ⟨by rfl, fun w hS => by go_simp⟩) hHeld ?_
                simp only [Act.put, List.getElem_toArray, List.getElem_cons_zero, List.getElem_cons_succ, List.setIfInBounds_toArray, List.set_cons_zero, List.set_cons_succ]
                refine wpAnyH_take (i := 9) (v := .agg (B K)) rfl (by kernel_rfl) (by kernel_rfl) (by kernel_rfl) (fun _ _ _ h => h) (yieldsIf_load_mid rfl 24 (.tmp 34) rfl g (off + k * 33) rfl (B K).toList _ (fun w hS => hS.2) Tryd.underlying24 rfl HLK.out) hHeld ?_
                simp only [Act.put, List.getElem_toArray, List.getElem_cons_zero, List.getElem_cons_succ, List.setIfInBounds_toArray, List.set_cons_zero, List.set_cons_succ]
                refine wpAnyH_take (i := 10) (v := .bool false) rfl (by kernel_rfl) (by kernel_rfl) (by kernel_rfl) (fun _ _ _ h => h) (Or.inl ⟨by rfl, fun w hS => by go_simp⟩) hHeld ?_
                simp only [Act.put, List.getElem_toArray, List.getElem_cons_zero, List.getElem_cons_succ, List.setIfInBounds_toArray, List.set_cons_zero, List.set_cons_succ]
                refine wpAnyH_done (by kernel_rfl) ?_ _
                go_wp2_with fail
                exact ⟨⟨q + 1, by omega, by go_num, HNO, d0⟩, by simp [intOf]; omega⟩
            · have hqe : q = k := by omega
              subst hqe
              have HSTT : Hid (E = lsE (ks ++ [K]) (es.drop (q + 1))) := by
                show _ = _
                rw [HST.out, if_neg]
                intro hm
                obtain ⟨p, hp, e⟩ := (HKM.out K).1 hm
                exact hno.out p hp e
              rw [← HKT.out] at HSTT
              have y1 : ¬ (q : Int) < (q : Int) := by omega
              go_wp2_with fail
              exact ⟨⟨q + 1, by omega, by go_num, HSTT, hbs⟩, by simp [intOf]; omega⟩
      · have hkn : k = es.length := by rw [← HN.out]; omega
        have HZ : Hid (E = 0) := by
          show _ = _
          rw [hls.out, hkn, List.drop_of_length_le (Nat.le_refl _)]
          rfl
        have z1 : ¬ (k : Int) < (n : Int) := by omega
        clear hls
        go_wp2
        go_ret
        exact ⟨by rw [HZ.out]; rfl, hbw⟩

end Go.Proofs.YtdpaanidangnlaaDoor

/- Lists of digests and proofs in memory; rootcellarkit.SameHashes and SameProof, as contracts. -/
namespace Go.Proofs.YtdpaanidangnlaaDoor
set_option maxRecDepth 20000
open Go.RowKit

/-- A slice of digests. -/
def HsAt (w : World) (v : Value) (hs : List (List Int)) : Prop :=
  ∃ a cap, v = .slice a hs.length cap ∧ hs.length ≤ cap ∧ (0 < hs.length → ∃ g off, a = some ⟨g, off, none⟩ ∧ ∀ i, i < hs.length → w.rangeAt g (off + i * 32) (B (hs.getD i [])).toList) ∧
    ∀ i, i < hs.length → (hs.getD i []).length = 32 ∧ Bytes (hs.getD i [])
theorem HsAt.grow {w w' : World} {v : Value} {hs : List (List Int)} (h : HsAt w v hs) (hb : Below w.heap.size w w') : HsAt w' v hs := by
  obtain ⟨a, cap, e, h1, h2, h3⟩ := h
  refine ⟨a, cap, e, h1, fun hp => ?_, h3⟩
  obtain ⟨g, off, ea, hr⟩ := h2 hp
  exact ⟨g, off, ea, fun i hi => rng_grow (hr i hi) hb⟩
theorem HsAt.kp {w : World} {v : Value} {hs : List (List Int)} (h : HsAt w v hs) : Kp w (fun w' => HsAt w' v hs) := fun _ q => h.grow q
theorem HsAt.nil (w : World) : HsAt w (.slice none 0 0) [] := ⟨none, 0, rfl, by simp, fun h => by simp at h, fun i hi => by simp at hi⟩

/-- A proof's cells: its sides, its end. -/
def encR (s : Value) (z : List Int) : List Value := s :: z.map (Value.int .u8)
theorem encR_length (s : Value) (z : List Int) (h : z.length = 129) : (encR s z).length = 130 := by simp [encR, h]
theorem size_proof : (Tryd.prog.info? 43).map (·.size) = some 130 := by kernel_rfl

theorem u_proof : ∃ fs, Tryd.prog.underlying 43 = some (.struct fs) := ⟨_, Tryd.underlying43⟩

theorem proof_side {w : World} {g : Nat} {t : TypeId} {s : Value} {z : List Int} (h : Blk w g t (encR s z).toArray) : w.cell? ⟨g, 0, none⟩ = some s := by
  rw [h.cell]
  simp [encR]
theorem proof_end {w : World} {g : Nat} {t : TypeId} {s : Value} {z : List Int} (h : Blk w g t (encR s z).toArray) : w.rangeAt g 1 (z.map (Value.int .u8)) := by
  intro j v hv
  rw [h.cell]
  simp only [encR, List.getElem?_toArray]
  rw [Nat.add_comm, List.getElem?_cons_succ]
  exact hv

/-- load of a proof's end. -/
theorem wpList_lde {ops : Array Oper} {rest : List Oper} {op : Oper} {a : Act} {Q : Exit → Act → World → Prop} (w : World) (hgd : op.guard = none) (x : Operand) (ho : op.op = .load 41 x)
    (g : Nat) (t : TypeId) (s : Value) (z : List Int) (hx : a.eval x = .pointer (some ⟨g, 1, none⟩)) (h : Blk w g t (encR s z).toArray) (hl : z.length = 129)
    (hk : wpList Tryd.prog ops Q rest (a.put op.dst (.agg (B z))) w) : wpList Tryd.prog ops Q (op :: rest) a w := by
  obtain ⟨fs, hu⟩ := u_node
  exact wpList_load_mid hgd 41 x ho g 1 hx (z.map (Value.int .u8)) _ (proof_end h) hu rfl (by rw [List.length_map, hl]; exact size_node) hk

set_option maxRecDepth 100000 in
set_option maxHeartbeats 4000000 in
theorem sameHashes_any (x y : Value) (xs ys : List (List Int)) (w : World) (hx : HsAt w x xs) (hy : HsAt w y ys) (hn : xs.length ≤ 140737488355328) :
    Calls Tryd.prog 36 #[x, y] w fun e w' => e = .returned (.bool (decide (xs = ys))) ∧ Below w.heap.size w w' := by
  obtain ⟨xa, xc, rfl, _, hxc, hxl⟩ := hx
  obtain ⟨ya, yc, rfl, _, hyc, hyl⟩ := hy
  by_cases hlen : xs.length = ys.length
  · have HX := hidden hxc
    have HY := hidden hyc
    have HXL := hidden hxl
    have HYL := hidden hyl
    have HLE := hidden hlen
    obtain ⟨n, hnn⟩ : ∃ n, n = xs.length := ⟨_, rfl⟩
    have HN := hidden hnn
    rw [← hlen, ← hnn]
    rw [← hnn] at hn
    obtain ⟨r, hr⟩ : ∃ r, r = decide (xs = ys) := ⟨_, rfl⟩
    have HR := hidden hr
    rw [← hr]
    have hne : ((n : Int) != (n : Int)) = false := by simp
    clear hxc hyc hxl hyl hlen hnn hr
    go_enter Tryd.func36, Tryd.ntmps36
    go_wp2_with fail
    go_loopw [5] (fun i wr => ∃ k : Nat, k ≤ n ∧ i = .int .i64 k ∧ Hid (∀ q, q < k → xs.getD q [] = ys.getD q []) ∧ Below w.heap.size w wr) (fun i _ => n - (intOf i).toNat)
    case atStart => exact ⟨0, by omega, rfl, fun q hq => by omega, Below.refl _ _⟩
    case round =>
      obtain ⟨k, hk, rfl, hsm, hbw⟩ := hrel
      by_cases hlt : k < n
      · have hlx : k < xs.length := by rw [← HN.out]; exact hlt
        have hly : k < ys.length := by rw [← HLE.out]; exact hlx
        obtain ⟨gx, ox, rfl, hcx⟩ := HX.out (by omega)
        obtain ⟨gy, oy, rfl, hcy⟩ := HY.out (by omega)
        have z1 : (k : Int) < (n : Int) := by omega
        have z0 : (0 : Int) ≤ (k : Int) := by omega
        obtain ⟨J, hJ⟩ : ∃ J, J = xs.getD k [] := ⟨_, rfl⟩
        obtain ⟨K, hK⟩ : ∃ K, K = ys.getD k [] := ⟨_, rfl⟩
        have HJL : Hid (J.length = 32) := by show _ = _; rw [hJ]; exact (HXL.out k hlx).1
        have HKL : Hid (K.length = 32) := by show _ = _; rw [hK]; exact (HYL.out k hly).1
        have hEq : ∀ w, (Op.equalIn 10000 39 (.agg (B J)) (.agg (B K))).run Tryd.prog w = .ok (decide (J = K)) w := fun w => hash_eq J K HJL.out HKL.out w
        have HS : Hid (∀ w', Below w.heap.size w w' → w'.rangeAt gx (ox + k * 32) (B J).toList ∧ w'.rangeAt gy (oy + k * 32) (B K).toList) := fun w' hw' => by
          rw [hJ, hK]
          exact ⟨rng_grow (hcx k hlx) hw', rng_grow (hcy k hly) hw'⟩
        have HLJ : Hid ((Tryd.prog.info? 39).map (·.size) = some (B J).toList.length) := by show _ = _; rw [B_toList, List.length_map, HJL.out]; exact sz_hash
        have HLK : Hid ((Tryd.prog.info? 39).map (·.size) = some (B K).toList.length) := by show _ = _; rw [B_toList, List.length_map, HKL.out]; exact sz_hash
        have HJ := hidden hJ
        have HK := hidden hK
        clear hcx hcy hlx hly hJ hK
        by_cases hJK : J = K
        · have HSM : Hid (∀ q, q < k + 1 → xs.getD q [] = ys.getD q []) := by
            intro q hq
            by_cases e : q = k
            · rw [e, ← HJ.out, ← HK.out, hJK]
            · exact hsm.out q (by omega)
          rw [decide_eq_true hJK] at hEq
          have HJK := hidden hJK
          clear hJK
          go_wp2_with fail
          have d0 : Below w.heap.size w wr.drew := grow_trans hbw (Below.refl _ _).drew
          refine wp_region_held_drew (S := fun w' => w'.rangeAt gx (ox + k * 32) (B J).toList ∧ w'.rangeAt gy (oy + k * 32) (B K).toList) (by kernel_rfl) (HS.out _ d0) (fun hHeld => ?_)
          refine wpAnyH_take (i := 0) (v := .slice (some ⟨gx, ox, none⟩) n xc) rfl (by kernel_rfl) (by kernel_rfl) (by kernel_rfl) (fun _ _ _ h => h) (Or.inl ⟨by rfl, fun w hS => by go_simp⟩) hHeld ?_
          simp only [Act.put, List.getElem_toArray, List.getElem_cons_zero, List.setIfInBounds_toArray, List.set_cons_zero, List.set_cons_succ]
          refine wpAnyH_take (i := 1) (v := .int .i64 k) rfl (by kernel_rfl) (by kernel_rfl) (by kernel_rfl) (fun _ _ _ h => h) (Or.inl ⟨by rfl, fun w hS => by go_simp⟩) hHeld ?_
          simp only [Act.put, List.getElem_toArray, List.getElem_cons_zero, List.getElem_cons_succ, List.setIfInBounds_toArray, List.set_cons_zero, List.set_cons_succ]
          refine wpAnyH_take (i := 2) (v := .pointer (some ⟨gx, ox + k * 32, none⟩)) rfl (by kernel_rfl) (by kernel_rfl) (by kernel_rfl) (fun _ _ _ h => h) (Or.inl ⟨by rfl, fun w hS => by go_simp⟩) hHeld ?_
          simp only [Act.put, List.getElem_toArray, List.getElem_cons_zero, List.getElem_cons_succ, List.setIfInBounds_toArray, List.set_cons_zero, List.set_cons_succ]
          refine wpAnyH_take (i := 3) (v := .agg (B J)) rfl (by kernel_rfl) (by kernel_rfl) (by kernel_rfl) (fun _ _ _ h => h) (yieldsIf_load_mid rfl 39 (.tmp 19) rfl gx (ox + k * 32) rfl (B J).toList _ (fun w hS => hS.1) Tryd.underlying39 rfl HLJ.out) hHeld ?_
          simp only [Act.put, List.getElem_toArray, List.getElem_cons_zero, List.getElem_cons_succ, List.setIfInBounds_toArray, List.set_cons_zero, List.set_cons_succ]
          refine wpAnyH_take (i := 4) (v := .slice (some ⟨gy, oy, none⟩) n yc) rfl (by kernel_rfl) (by kernel_rfl) (by kernel_rfl) (fun _ _ _ h => h) (Or.inl ⟨by rfl, fun w hS => by go_simp⟩) hHeld ?_
          simp only [Act.put, List.getElem_toArray, List.getElem_cons_zero, List.getElem_cons_succ, List.setIfInBounds_toArray, List.set_cons_zero, List.set_cons_succ]
          refine wpAnyH_take (i := 5) (v := .int .i64 k) rfl (by kernel_rfl) (by kernel_rfl) (by kernel_rfl) (fun _ _ _ h => h) (Or.inl ⟨by rfl, fun w hS => by go_simp⟩) hHeld ?_
          simp only [Act.put, List.getElem_toArray, List.getElem_cons_zero, List.getElem_cons_succ, List.setIfInBounds_toArray, List.set_cons_zero, List.set_cons_succ]
          refine wpAnyH_take (i := 6) (v := .pointer (some ⟨gy, oy + k * 32, none⟩)) rfl (by kernel_rfl) (by kernel_rfl) (by kernel_rfl) (fun _ _ _ h => h) (Or.inl ⟨by rfl, fun w hS => by go_simp⟩) hHeld ?_
          simp only [Act.put, List.getElem_toArray, List.getElem_cons_zero, List.getElem_cons_succ, List.setIfInBounds_toArray, List.set_cons_zero, List.set_cons_succ]
          refine wpAnyH_take (i := 7) (v := .agg (B K)) rfl (by kernel_rfl) (by kernel_rfl) (by kernel_rfl) (fun _ _ _ h => h) (yieldsIf_load_mid rfl 39 (.tmp 23) rfl gy (oy + k * 32) rfl (B K).toList _ (fun w hS => hS.2) Tryd.underlying39 rfl HLK.out) hHeld ?_
          simp only [Act.put, List.getElem_toArray, List.getElem_cons_zero, List.getElem_cons_succ, List.setIfInBounds_toArray, List.set_cons_zero, List.set_cons_succ]
          refine wpAnyH_take (i := 8) (v := .bool false) rfl (by kernel_rfl) (by kernel_rfl) (by kernel_rfl) (fun _ _ _ h => h) (Or.inl ⟨by rfl, fun w hS => by go_simp⟩) hHeld ?_
          simp only [Act.put, List.getElem_toArray, List.getElem_cons_zero, List.getElem_cons_succ, List.setIfInBounds_toArray, List.set_cons_zero, List.set_cons_succ]
          refine wpAnyH_done (by kernel_rfl) ?_ _
          go_wp2_with fail
          exact ⟨⟨k + 1, by omega, by go_num, HSM, d0⟩, by simp [intOf]; omega⟩
        · have HF : Hid (r = false) := by
            show _ = _
            rw [HR.out, decide_eq_false]
            intro e
            apply hJK
            rw [HJ.out, HK.out, e]
          rw [decide_eq_false hJK] at hEq
          clear hJK
          go_wp2_with fail
          have d0 : Below w.heap.size w wr.drew := grow_trans hbw (Below.refl _ _).drew
          refine wp_region_held_drew (S := fun w' => w'.rangeAt gx (ox + k * 32) (B J).toList ∧ w'.rangeAt gy (oy + k * 32) (B K).toList) (by kernel_rfl) (HS.out _ d0) (fun hHeld => ?_)
          refine wpAnyH_take (i := 0) (v := .slice (some ⟨gx, ox, none⟩) n xc) rfl (by kernel_rfl) (by kernel_rfl) (by kernel_rfl) (fun _ _ _ h => h) (Or.inl ⟨by rfl, fun w hS => by go_simp⟩) hHeld ?_
          simp only [Act.put, List.getElem_toArray, List.getElem_cons_zero, List.setIfInBounds_toArray, List.set_cons_zero, List.set_cons_succ]
          refine wpAnyH_take (i := 1) (v := .int .i64 k) rfl (by kernel_rfl) (by kernel_rfl) (by kernel_rfl) (fun _ _ _ h => h) (Or.inl ⟨by rfl, fun w hS => by go_simp⟩) hHeld ?_
          simp only [Act.put, List.getElem_toArray, List.getElem_cons_zero, List.getElem_cons_succ, List.setIfInBounds_toArray, List.set_cons_zero, List.set_cons_succ]
          refine wpAnyH_take (i := 2) (v := .pointer (some ⟨gx, ox + k * 32, none⟩)) rfl (by kernel_rfl) (by kernel_rfl) (by kernel_rfl) (fun _ _ _ h => h) (Or.inl ⟨by rfl, fun w hS => by go_simp⟩) hHeld ?_
          simp only [Act.put, List.getElem_toArray, List.getElem_cons_zero, List.getElem_cons_succ, List.setIfInBounds_toArray, List.set_cons_zero, List.set_cons_succ]
          refine wpAnyH_take (i := 3) (v := .agg (B J)) rfl (by kernel_rfl) (by kernel_rfl) (by kernel_rfl) (fun _ _ _ h => h) (yieldsIf_load_mid rfl 39 (.tmp 19) rfl gx (ox + k * 32) rfl (B J).toList _ (fun w hS => hS.1) Tryd.underlying39 rfl HLJ.out) hHeld ?_
          simp only [Act.put, List.getElem_toArray, List.getElem_cons_zero, List.getElem_cons_succ, List.setIfInBounds_toArray, List.set_cons_zero, List.set_cons_succ]
          refine wpAnyH_take (i := 4) (v := .slice (some ⟨gy, oy, none⟩) n yc) rfl (by kernel_rfl) (by kernel_rfl) (by kernel_rfl) (fun _ _ _ h => h) (Or.inl ⟨by rfl, fun w hS => by go_simp⟩) hHeld ?_
          simp only [Act.put, List.getElem_toArray, List.getElem_cons_zero, List.getElem_cons_succ, List.setIfInBounds_toArray, List.set_cons_zero, List.set_cons_succ]
          refine wpAnyH_take (i := 5) (v := .int .i64 k) rfl (by kernel_rfl) (by kernel_rfl) (by kernel_rfl) (fun _ _ _ h => h) (Or.inl ⟨by rfl, fun w hS => by go_simp⟩) hHeld ?_
          simp only [Act.put, List.getElem_toArray, List.getElem_cons_zero, List.getElem_cons_succ, List.setIfInBounds_toArray, List.set_cons_zero, List.set_cons_succ]
          refine wpAnyH_take (i := 6) (v := .pointer (some ⟨gy, oy + k * 32, none⟩)) rfl (by kernel_rfl) (by kernel_rfl) (by kernel_rfl) (fun _ _ _ h => h) (Or.inl ⟨by rfl, fun w hS => by go_simp⟩) hHeld ?_
          simp only [Act.put, List.getElem_toArray, List.getElem_cons_zero, List.getElem_cons_succ, List.setIfInBounds_toArray, List.set_cons_zero, List.set_cons_succ]
          refine wpAnyH_take (i := 7) (v := .agg (B K)) rfl (by kernel_rfl) (by kernel_rfl) (by kernel_rfl) (fun _ _ _ h => h) (yieldsIf_load_mid rfl 39 (.tmp 23) rfl gy (oy + k * 32) rfl (B K).toList _ (fun w hS => hS.2) Tryd.underlying39 rfl HLK.out) hHeld ?_
          simp only [Act.put, List.getElem_toArray, List.getElem_cons_zero, List.getElem_cons_succ, List.setIfInBounds_toArray, List.set_cons_zero, List.set_cons_succ]
          refine wpAnyH_take (i := 8) (v := .bool true) rfl (by kernel_rfl) (by kernel_rfl) (by kernel_rfl) (fun _ _ _ h => h) (Or.inl ⟨by rfl, fun w hS => by go_simp⟩) hHeld ?_
          simp only [Act.put, List.getElem_toArray, List.getElem_cons_zero, List.getElem_cons_succ, List.setIfInBounds_toArray, List.set_cons_zero, List.set_cons_succ]
          refine wpAnyH_done (by kernel_rfl) ?_ _
          go_wp2_with fail
          go_ret
          exact ⟨by rw [HF.out]; rfl, d0⟩
      · have HT : Hid (r = true) := by
          show _ = _
          rw [HR.out, decide_eq_true]
          apply List.ext_getElem HLE.out
          intro i h1 h2
          have h3 := hsm.out i (by have := HN.out; omega)
          simpa [List.getD, h1, h2] using h3
        have z1 : ¬ (k : Int) < (n : Int) := by omega
        clear hsm
        go_wp2
        go_ret
        exact ⟨by rw [HT.out]; rfl, hbw⟩
  · have hd : decide (xs = ys) = false := decide_eq_false (fun e => hlen (by rw [e]))
    rw [hd]
    have h1 : ((xs.length : Int) != (ys.length : Int)) = true := by simp; omega
    have h2 : ((xs.length : Int) == (ys.length : Int)) = false := by simp; omega
    clear hxc hyc hxl hyl hlen hd
    go_enter Tryd.func36, Tryd.ntmps36
    go_wp2
    go_ret
    exact ⟨rfl, Below.refl _ _⟩

set_option maxHeartbeats 4000000 in
theorem sameProof_any (x y : Value) (xs ys : List (List Int)) (k k' : Int) (a b c d a' b' c' d' : List Int) (w : World) (hx : HsAt w x xs) (hy : HsAt w y ys) (hn : xs.length ≤ 140737488355328) (h : Nd k a b c d) (h' : Nd k' a' b' c' d') :
    Calls Tryd.prog 16 #[.agg (encR x (nd k a b c d)).toArray, .agg (encR y (nd k' a' b' c' d')).toArray] w fun e w' => e = .returned (.bool (decide (nd k a b c d = nd k' a' b' c' d') && decide (xs = ys))) ∧ Below w.heap.size w w' := by
  have HSm : Hid (∀ w', Below w.heap.size w w' → Calls Tryd.prog 36 #[x, y] w' fun e w'' => e = .returned (.bool (decide (xs = ys))) ∧ Below w'.heap.size w' w'') := fun w' hb => sameHashes_any x y xs ys w' (hx.grow hb) (hy.grow hb) hn
  have hEq := fun w => node_eq h h' w
  have HL1 := hidden h.length
  have HL2 := hidden h'.length
  obtain ⟨N, hN⟩ : ∃ N, N = nd k a b c d := ⟨_, rfl⟩
  obtain ⟨M, hM⟩ : ∃ M, M = nd k' a' b' c' d' := ⟨_, rfl⟩
  rw [← hN] at HL1 hEq ⊢
  rw [← hM] at HL2 hEq ⊢
  obtain ⟨p, hp⟩ : ∃ p, p = decide (N = M) := ⟨_, rfl⟩
  obtain ⟨q, hq⟩ : ∃ q, q = decide (xs = ys) := ⟨_, rfl⟩
  rw [← hp] at hEq ⊢
  rw [← hq] at HSm ⊢
  obtain ⟨xa, xc, rfl, _⟩ := hx
  obtain ⟨ya, yc, rfl, _⟩ := hy
  clear h h' hN hM hp hq hn
  cases p with
  | true =>
    go_enter Tryd.func16, Tryd.ntmps16
    go_wp2_with (first
      | ((with_reducible refine at_bxd 2 ?_); refine wpList_bx _ rfl _ _ rfl _ rfl ?_; intro w1 g1 hg1 hl1 B1 b1; have cx := proof_side B1)
      | ((with_reducible refine at_bxd 3 ?_); refine wpList_bx _ rfl _ _ rfl _ rfl ?_; intro w2 g2 hg2 hl2 B2 b2; have B1' := B1.grow b2; have c2 := grow_trans b1 b2; have cx2 := proof_side B1'; have cy := proof_side B2)
      | ((with_reducible refine at_ldd 6 5 ?_); refine wpList_lde _ rfl _ rfl g1 _ _ N rfl B1' HL1.out ?_)
      | ((with_reducible refine at_ldd 8 7 ?_); refine wpList_lde _ rfl _ rfl g2 _ _ M rfl B2 HL2.out ?_)
      | (go_at_call 36; refine (HSm.out _ c2).mono ?_; rintro e w3 ⟨rfl, b3⟩))
    go_ret
    exact ⟨by simp, grow_trans c2 b3⟩
  | false =>
    go_enter Tryd.func16, Tryd.ntmps16
    go_wp2_with (first
      | ((with_reducible refine at_bxd 2 ?_); refine wpList_bx _ rfl _ _ rfl _ rfl ?_; intro w1 g1 hg1 hl1 B1 b1; have cx := proof_side B1)
      | ((with_reducible refine at_bxd 3 ?_); refine wpList_bx _ rfl _ _ rfl _ rfl ?_; intro w2 g2 hg2 hl2 B2 b2; have B1' := B1.grow b2; have c2 := grow_trans b1 b2; have cx2 := proof_side B1'; have cy := proof_side B2)
      | ((with_reducible refine at_ldd 6 5 ?_); refine wpList_lde _ rfl _ rfl g1 _ _ N rfl B1' HL1.out ?_)
      | ((with_reducible refine at_ldd 8 7 ?_); refine wpList_lde _ rfl _ rfl g2 _ _ M rfl B2 HL2.out ?_))
    go_ret
    exact ⟨by simp, c2⟩

end Go.Proofs.YtdpaanidangnlaaDoor
