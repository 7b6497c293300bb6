/- The law's has: an entry that is in a list, as a contract. -/
import Derived.Test.YtnnmfgnommbmkaaGreatDoorLa01
import Derived.Test.YtnnmfgnommbmkaaGreatDoorLa33
import Derived.Test.YtnnmfgnommbmkaaGreatDoorLa38
import Derived.Test.YtnnmfgnommbmkaaGreatDoorLa15
namespace Go.Proofs.YtnnmfgnommbmkaaGreatDoor
set_option maxRecDepth 20000
open Go.RowKit

set_option maxRecDepth 100000 in
set_option maxHeartbeats 4000000 in
theorem has13_any {w : World} {a : Option Addr} {c : Nat} {V : Nat → Value} {es : List Ent} (hP : PrAt w (.slice a es.length c) V es) (h16 : es.length ≤ 4096) (hap : es.Pairwise fun x y => x.1 ≠ y.1) {K bs : List Int} (hK : Key K) (hm : (K, bs) ∈ es) {u : Value} (hr : Reads w u bs) :
    Calls Tryz.prog 9 #[.slice a es.length c, .agg (B K), u] w fun e w' => e = .returned (.bool true) ∧ Below w.heap.size w w' := by
  obtain ⟨n, hn⟩ : ∃ n, n = es.length := ⟨_, rfl⟩
  have HGet : Hid (∀ k, k < n → ∃ lg lo ua uc K' bs', a = some ⟨lg, lo, none⟩ ∧ es[k]? = some (K', bs') ∧ w.rangeAt lg (lo + k * 33) (encP K' (.slice ua bs'.length uc)) ∧ Key K' ∧ Reads w (.slice ua bs'.length uc) bs' ∧ (K' = K → bs' = bs)) := fun k hk => by
    rw [hn] at hk
    obtain ⟨a', c', e, _, h2, h3⟩ := hP
    injection e with e1 _ _
    subst e1
    obtain ⟨g, off, ea, hr⟩ := h2 (by omega)
    have h4 := hr k hk
    obtain ⟨hk1, hk2⟩ := h3 k hk
    rw [List.getD_eq_getElem?_getD, List.getElem?_eq_getElem hk, Option.getD_some] at h4 hk1 hk2
    obtain ⟨ua, uc, eV⟩ : ∃ ua uc, V k = .slice ua es[k].2.length uc := by
      obtain ⟨x, y, e, _⟩ := hk2
      exact ⟨x, y, e⟩
    rw [eV] at h4 hk2
    refine ⟨g, off, ua, uc, es[k].1, es[k].2, ea, by rw [List.getElem?_eq_getElem hk], h4, hk1, hk2, fun e => ?_⟩
    obtain ⟨j, hj, hje⟩ := List.getElem_of_mem hm
    have hjk : j = k := by
      by_cases q : j = k
      · exact q
      · rcases Nat.lt_or_gt_of_ne q with q | q
        · exact absurd (by rw [hje]; exact e.symm) (List.pairwise_iff_getElem.1 hap j k hj hk q)
        · exact absurd (by rw [hje]; exact e) (List.pairwise_iff_getElem.1 hap k j hk hj q)
    subst hjk
    rw [hje]
  have HNo : Hid ((∀ e ∈ es.take n, e.1 ≠ K) → False) := fun h => h (K, bs) (by rw [hn, List.take_length]; exact hm) rfl
  have H16 : Hid (n ≤ 4096) := by rw [hn]; exact h16
  have HKL := hidden (pth_ln K hK.1)
  have HKK := hidden hK
  have HRD : Hid (∀ w', Below w.heap.size w w' → Reads w' u bs) := fun w' hb => hr.grow hb
  obtain ⟨u1, u2, rfl⟩ : ∃ u1 u2, u = .slice u1 bs.length u2 := by
    obtain ⟨x, y, e, _⟩ := hr
    exact ⟨x, y, e⟩
  rw [← hn]
  clear hP h16 hap hK hm hr hn
  go_enter Tryz.func9, Tryz.ntmps9
  go_wp2_with ((with_reducible refine at_bxd 4 ?_); refine wpList_bx _ rfl _ _ rfl _ rfl ?_; intro w1 b4 hg hl B4 q4; have HBK := hidden B4; have HQ := hidden q4; clear hg hl B4 q4)
  go_loopw [7] (fun iv wr => ∃ k : Nat, k ≤ n ∧ iv = .int .i64 (k : Int) ∧ Hid (∀ e ∈ es.take k, e.1 ≠ K) ∧ Hid (Below w1.heap.size w1 wr)) (fun iv _ => n - (intOf iv).toNat)
  case atStart => exact ⟨0, Nat.zero_le _, rfl, (fun e he => by simp at he), Below.refl _ _⟩
  case round =>
    obtain ⟨k, hk, rfl, hN, hB⟩ := hrel
    have h16 := H16.out
    have hwk : wrap64 ((k : Int) + 1) = ((k + 1 : Nat) : Int) := by rw [Go.IntWalk.wrap64_in _ (by omega)]; rfl
    have hlt : k < n := by
      by_cases q : k < n
      · exact q
      · exact absurd (by rw [show n = k by omega]; exact hN.out) HNo.out
    obtain ⟨lg, lo, ua, uc, K', bs', rfl, hek, hrg, hK', hrd, hsm⟩ := HGet.out k hlt
    have hlow : Below w.heap.size w wr := grow_trans HQ.out hB.out
    have HLW := hidden hlow
    have HR1 : Hid (∀ w', Below wr.heap.size wr w' → w'.rangeAt lg (lo + k * 33) (B K').toList) := fun w' hb j v hv => rng_grow (rng_grow hrg hlow) hb j v (by
      rw [B_toList] at hv
      have hj : j < K'.length := by
        have := (List.getElem?_eq_some_iff.1 hv).1
        simpa using this
      rw [encP, List.getElem?_append_left (by simpa using hj)]
      exact hv)
    have HR2 : Hid (∀ w', Below wr.heap.size wr w' → w'.cell? ⟨lg, lo + k * 33 + 32, none⟩ = some (.slice ua bs'.length uc)) := fun w' hb => rng_grow (rng_grow hrg hlow) hb 32 _ (by
      rw [encP, List.getElem?_append_right (by simp [hK'.1])]
      simp [hK'.1])
    have HKL' := hidden (pth_ln K' hK'.1)
    have HB4 : Hid (∀ w', Below wr.heap.size wr w' → Blk w' b4 32 (B K)) := fun w' hb => (HBK.out.grow hB.out).grow hb
    have i1 : (k : Int) < (n : Int) := by omega
    have i0 : (0 : Int) ≤ (k : Int) := by omega
    have hpe := path_eq K' K hK'.1 HKK.out.1
    by_cases he : K' = K
    case pos =>
      have hbb := hsm he
      subst hbb
      have HEQ : Hid (∀ w, (Op.equalIn 10000 32 (.agg (B K')) (.agg (B K))).run Tryz.prog w = .ok true w) := fun w => by have := hpe w; rw [decide_eq_true he] at this; exact this
      have HSM : Hid (∀ w', Below wr.heap.size wr w' → Calls Tryz.prog 12 #[.slice ua bs'.length uc, .slice u1 bs'.length u2] w' fun e w'' => e = .returned (.bool true) ∧ w'' = w') := fun w' hb => by
        have := same_any (.slice ua bs'.length uc) (.slice u1 bs'.length u2) bs' bs' w' ((hrd.grow HLW.out).grow hb) (HRD.out _ (grow_trans HLW.out hb))
        simpa using this
      have HD0 : Hid (Below wr.heap.size wr wr.drew) := below_drewN (Below.refl _ _) 1
      generalize bs'.length = mb at *
      clear hek hrg hK' hrd hsm hpe he hlow hN
      go_wp2_with fail
      refine wp_region_held_drew (S := fun w' => Below wr.heap.size wr w') (by kernel_rfl) (below_drewN (Below.refl _ _) 1) (fun hHeld => ?_)
      refine tkp 0 (.slice (some ⟨lg, lo, none⟩) n c) hHeld ?_
      simp only [Act.put, zq1, zq2, zq4, zq5, zq6]
      refine tkp 1 (.int .i64 (k : Int)) hHeld ?_
      simp only [Act.put, zq1, zq2, zq3, zq4, zq5, zq6]
      refine tkp 2 (.pointer (some ⟨lg, lo + k * 33, none⟩)) hHeld ?_
      simp only [Act.put, zq1, zq2, zq3, zq4, zq5, zq6]
      refine tkp 3 (.pointer (some ⟨lg, lo + k * 33, none⟩)) hHeld ?_
      simp only [Act.put, zq1, zq2, zq3, zq4, zq5, zq6]
      refine tkg 4 (.agg (B K')) rfl (yieldsIf_load_mid rfl 32 (.tmp 17) rfl lg (lo + k * 33) rfl (B K').toList _ (fun w hS => HR1.out _ hS) Tryz.underlying32 rfl HKL'.out) hHeld ?_
      simp only [Act.put, zq1, zq2, zq3, zq4, zq5, zq6]
      refine tkg 5 (.agg (B K)) rfl (yieldsIf_load_mid rfl 32 (.tmp 4) rfl b4 0 rfl (B K).toList _ (fun w hS => (HB4.out _ hS).range) Tryz.underlying32 rfl HKL.out) hHeld ?_
      simp only [Act.put, zq1, zq2, zq3, zq4, zq5, zq6]
      refine tkg 6 (.bool true) rfl (Or.inl ⟨by rfl, fun w hS => by (have q1 := HEQ.out w; go_simp)⟩) hHeld ?_
      simp only [Act.put, zq1, zq2, zq3, zq4, zq5, zq6]
      refine wpAnyH_done (by kernel_rfl) ?_ _
      have c32 := HR2.out _ HD0.out
      go_wp2_with (go_at_call 12; refine (HSM.out _ HD0.out).mono ?_; rintro e w' ⟨rfl, hx⟩; rw [hx]; clear hx w')
      go_ret
      exact ⟨rfl, grow_trans HLW.out HD0.out⟩
    case neg =>
      have HEQ : Hid (∀ w, (Op.equalIn 10000 32 (.agg (B K')) (.agg (B K))).run Tryz.prog w = .ok false w) := fun w => by have := hpe w; rw [decide_eq_false he] at this; exact this
      have HN2 : Hid (∀ e ∈ es.take (k + 1), e.1 ≠ K) := fun e he' => by
        rw [List.take_add_one, hek] at he'
        rcases List.mem_append.1 he' with q | q
        · exact hN.out e q
        · have : e = (K', bs') := by simpa using q
          rw [this]
          exact he
      clear hek hrg hK' hrd hsm hpe he hlow hN
      go_wp2_with fail
      refine wp_region_held_drew (S := fun w' => Below wr.heap.size wr w') (by kernel_rfl) (below_drewN (Below.refl _ _) 1) (fun hHeld => ?_)
      refine tkp 0 (.slice (some ⟨lg, lo, none⟩) n c) hHeld ?_
      simp only [Act.put, zq1, zq2, zq4, zq5, zq6]
      refine tkp 1 (.int .i64 (k : Int)) hHeld ?_
      simp only [Act.put, zq1, zq2, zq3, zq4, zq5, zq6]
      refine tkp 2 (.pointer (some ⟨lg, lo + k * 33, none⟩)) hHeld ?_
      simp only [Act.put, zq1, zq2, zq3, zq4, zq5, zq6]
      refine tkp 3 (.pointer (some ⟨lg, lo + k * 33, none⟩)) hHeld ?_
      simp only [Act.put, zq1, zq2, zq3, zq4, zq5, zq6]
      refine tkg 4 (.agg (B K')) rfl (yieldsIf_load_mid rfl 32 (.tmp 17) rfl lg (lo + k * 33) rfl (B K').toList _ (fun w hS => HR1.out _ hS) Tryz.underlying32 rfl HKL'.out) hHeld ?_
      simp only [Act.put, zq1, zq2, zq3, zq4, zq5, zq6]
      refine tkg 5 (.agg (B K)) rfl (yieldsIf_load_mid rfl 32 (.tmp 4) rfl b4 0 rfl (B K).toList _ (fun w hS => (HB4.out _ hS).range) Tryz.underlying32 rfl HKL.out) hHeld ?_
      simp only [Act.put, zq1, zq2, zq3, zq4, zq5, zq6]
      refine tkg 6 (.bool false) rfl (Or.inl ⟨by rfl, fun w hS => by (have q1 := HEQ.out w; go_simp)⟩) hHeld ?_
      simp only [Act.put, zq1, zq2, zq3, zq4, zq5, zq6]
      refine wpAnyH_done (by kernel_rfl) ?_ _
      go_wp2
      exact ⟨⟨k + 1, by omega, by go_num, HN2, below_drewN hB.out 1⟩, by simp [intOf]; omega⟩

end Go.Proofs.YtnnmfgnommbmkaaGreatDoor

namespace Go.Proofs.YtnnmfgnommbmkaaGreatDoor
set_option maxRecDepth 20000
open Go.RowKit

theorem built_p0 : Tryz.prog.built 42 [] = some (encP z32 (.slice none 0 0)).toArray := by kernel_rfl
theorem encP_sz {K : List Int} {u : Value} (hK : K.length = 32) : (Tryz.prog.info? 42).map (·.size) = some (encP K u).toArray.size ∧ (encP z32 (.slice none 0 0)).toArray.size = (encP K u).toArray.size := by
  rw [List.size_toArray, List.size_toArray, encP_length K u hK, encP_length z32 _ z32_length]
  exact ⟨size_pair, rfl⟩

def NthNo (w : World) (e0 : Int) (e : Ending) (w' : World) : Prop := e = .returned (.tuple #[.agg (encP z32 (.slice none 0 0)).toArray, .int .i64 e0]) ∧ Below w.heap.size w w'

set_option maxHeartbeats 1000000 in
theorem nth_bad {w : World} {v : Value} {mk : Bool} {ct : Int → Nat} {ca : Int → Ce} (V : Vw w v mk ct ca) (h n : Int) (e0 : Int) (he : vRt mk (ct h) (ca h) h = e0) (h0 : e0 ≠ 0) : Calls Tryz.prog 11 #[v, .int .i64 h, .int .i64 n] w (NthNo w e0) := by
  have HRT : Hid (∀ w', Below w.heap.size w w' → Calls Tryz.prog 23 #[v, .int .i64 h] w' fun e w'' => e = .returned (.int .i64 e0) ∧ Below w'.heap.size w' w'') := fun w' hb => by
    have := root_any (V.grow hb) h
    rwa [he] at this
  have hb0 : (e0 == 0) = false := by simp [h0]
  have HB := hidden built_p0
  have HSz := hidden (encP_sz (K := z32) (u := .slice none 0 0) z32_length)
  obtain ⟨fp, hup⟩ := u_pair
  have HUP := hidden hup
  clear V he hup
  go_enter Tryz.func11, Tryz.ntmps11
  go_wp2_with (first
    | ((with_reducible refine at_ald 6 ?_); refine wpList_al _ rfl _ rfl _ zero_pair ?_; intro w2 g6 hg6 hl6 B6 b2; have HB6 := hidden B6; have HQ6 := hidden b2; have HG6 := hidden hg6; clear B6 hg6 hl6 b2)
    | (go_at_call 23; refine (HRT.out _ HQ6.out).mono ?_; rintro e w3 ⟨rfl, b3⟩; have HB63 := hidden (HB6.out.grow b3); have HQ3 := hidden (grow_trans HQ6.out b3); clear b3)
    | ((with_reducible refine at_bd ?_); refine wpList_bld _ rfl _ _ rfl _ (by rw [List.map_toArray]; exact HB.out) ?_)
    | ((with_reducible refine at_st 6 ?_); refine wpList_sto _ rfl _ _ _ rfl g6 _ (encP z32 (.slice none 0 0)).toArray rfl rfl HB63.out HSz.out.1 rfl (encP_one _ _ _ _) ?_; intro w4 B9 r9))
  exact bodyPost_ret (v := .tuple #[.agg (encP z32 (.slice none 0 0)).toArray, .int .i64 e0]) (results_agg_tmp rfl _ _ g6 _ _ rfl rfl B9 HUP.out HSz.out.1) rfl ⟨rfl, below_row HQ3.out r9 HG6.out⟩

set_option maxHeartbeats 1000000 in
theorem nth_any {w : World} {pt : Option Addr} {cs : List (Nat × Ce)} {h : Nat} {T : Tre} (r : LiR w pt cs h T) (n : Nat) (K bs : List Int) (hn : T.ents[n]? = some (K, bs)) : Calls Tryz.prog 11 #[.pointer pt, .int .i64 (h : Int), .int .i64 (n : Int)] w fun e w' => ∃ a c, e = .returned (.tuple #[.agg (encP K (.slice a bs.length c)).toArray, .int .i64 0]) ∧ Reads w' (.slice a bs.length c) bs ∧ Below w.heap.size w w' := by
  have HRT : Hid (∀ w', Below w.heap.size w w' → Calls Tryz.prog 23 #[.pointer pt, .int .i64 (h : Int)] w' fun e w'' => e = .returned (.int .i64 0) ∧ Below w'.heap.size w' w'') := fun w' hb => (r.grow hb).root
  have hnl : n < T.ents.length := (List.getElem?_eq_some_iff.1 hn).1
  have hK : Key K := by
    obtain ⟨_, W⟩ := r.wf
    exact ((tree_ok W T h r.tre).ent (K, bs) (List.mem_of_getElem? hn)).1
  have HEN : Hid (∀ w', Below w.heap.size w w' → Calls Tryz.prog 30 #[.pointer pt, .int .i64 (h : Int), .int .i64 (n : Int), .int .i64 1] w' fun e w'' => ∃ lg lo lc ua uc, e = .returned (.slice (some ⟨lg, lo, none⟩) 1 lc) ∧ w''.rangeAt lg lo (encP K (.slice ua bs.length uc)) ∧ (∃ sp, Own w'.heap.size w'' (.slice ua bs.length uc) bs sp) ∧ Below w'.heap.size w' w'') := fun w' hb => ((r.grow hb).entries n 1 (by have := r.few; omega)).mono (fun e w'' hp => by
    have e1 : (T.ents.drop n).take 1 = [(K, bs)] := by
      rw [List.drop_eq_getElem_cons hnl]
      simp only [List.take_succ_cons, List.take_zero]
      rw [List.getElem?_eq_getElem hnl] at hn
      injection hn with hn
      rw [hn]
    rw [e1] at hp
    obtain ⟨lv, its, rfl, q1, q2, q3, _, b⟩ := hp
    obtain ⟨p, rfl⟩ : ∃ p, its = [p] := by
      cases its with
      | nil => simp at q1
      | cons p its =>
        cases its with
        | nil => exact ⟨p, rfl⟩
        | cons q r => simp at q1
    obtain ⟨p1, u⟩ := p
    obtain rfl : p1 = (K, bs) := by simpa using q1
    obtain ⟨_, sp, ho⟩ := q3 ((K, bs), u) (by simp)
    dsimp only at ho
    have hp := prAt_own q2 (fun p hp => (q3 p hp).1) (fun p hp => by obtain ⟨_, sp, ho⟩ := q3 p hp; exact ho.reads)
    obtain ⟨a', c', e2, _, h2, _⟩ := hp
    subst e2
    obtain ⟨g, off, rfl, hr⟩ := h2 (by simp)
    have h4 := hr 0 (by simp)
    simp only [List.map_cons, List.map_nil, List.getD_cons_zero, Nat.zero_mul, Nat.add_zero] at h4
    obtain ⟨ua, uc, rfl⟩ := ho.slice
    exact ⟨g, off, c', ua, uc, rfl, h4, ⟨sp, ho⟩, b⟩)
  have hn0 : ¬ (n : Int) < 0 := by omega
  have HSz : Hid (∀ u, (Tryz.prog.info? 42).map (·.size) = some (encP K u).toArray.size ∧ (encP z32 (.slice none 0 0)).toArray.size = (encP K u).toArray.size) := fun u => encP_sz hK.1
  have HS3 : Hid (∀ u, (Tryz.prog.info? 42).map (·.size) = some (encP K u).length) := fun u => by
    show _ = _
    rw [encP_length K u hK.1]
    exact size_pair
  obtain ⟨fp, hup⟩ := u_pair
  have HUP := hidden hup
  clear r hup hn hnl hK
  go_enter Tryz.func11, Tryz.ntmps11
  go_wp2_with (first
    | ((with_reducible refine at_ald 6 ?_); refine wpList_al _ rfl _ rfl _ zero_pair ?_; intro w2 g6 hg6 hl6 B6 b2; have HB6 := hidden B6; have HQ6 := hidden b2; have HG6 := hidden hg6; clear B6 hg6 hl6 b2)
    | (go_at_call 23; refine (HRT.out _ HQ6.out).mono ?_; rintro e w3 ⟨rfl, b3⟩; have HB63 := hidden (HB6.out.grow b3); have HQ3 := hidden (grow_trans HQ6.out b3); clear b3)
    | (go_at_call 30; refine (HEN.out _ HQ3.out).mono ?_; rintro e w5 ⟨lg, lo, lc, ua, uc, rfl, hrg, hrd, b5⟩; have HRG := hidden hrg; have HRD := hidden hrd; have HB65 := hidden (HB63.out.grow b5); have HQ5 := hidden (grow_trans HQ3.out b5); clear b5 hrg hrd)
    | ((with_reducible refine at_ldd 30 29 ?_); refine wpList_load_mid rfl 42 (.tmp 29) rfl lg lo rfl (encP K (.slice ua bs.length uc)) _ HRG.out HUP.out rfl (HS3.out _) ?_)
    | ((with_reducible refine at_st 6 ?_); refine wpList_sto _ rfl _ _ _ rfl g6 _ (encP K (.slice ua bs.length uc)).toArray rfl rfl HB65.out (HSz.out _).1 (HSz.out _).2 (encP_one _ _ _ _) ?_; intro w4 B9 r9))
  refine bodyPost_ret (v := .tuple #[.agg (encP K (.slice ua bs.length uc)).toArray, .int .i64 0]) (results_agg_tmp rfl _ _ g6 _ _ rfl rfl B9 HUP.out (HSz.out _).1) rfl ⟨ua, uc, rfl, ?_, below_row HQ5.out r9 HG6.out⟩
  obtain ⟨sp, ho⟩ := HRD.out
  have h6 := HB63.out.lt
  refine (ho.of_block (fun x hx => r9.block x (ho.lt x hx).2 (fun e => ?_))).reads
  have := (ho.lt x hx).1
  injection e with e
  omega

def SoPost (w : World) (es : List Ent) (e : Ending) (w' : World) : Prop := ∃ (lv : Value), e = .returned (.tuple #[lv, .int .i64 0]) ∧ EnPost w es (.returned lv) w'

set_option maxHeartbeats 1000000 in
theorem some_any {w : World} {pt : Option Addr} {cs : List (Nat × Ce)} {h : Nat} {T : Tre} (r : LiR w pt cs h T) (K : List Int) (hK : Key K) (most : Nat) (hm : most ≤ 256) : Calls Tryz.prog 31 #[.pointer pt, .int .i64 (h : Int), .agg (B K), .int .i64 (most : Int)] w fun e w' => ∃ w0, w.heap.size ≤ w0.heap.size ∧ Below w.heap.size w w' ∧ SoPost w0 ((T.ents.drop (T.rk K)).take most) e w' := by
  have HRK : Hid (∀ w', Below w.heap.size w w' → Calls Tryz.prog 10 #[.pointer pt, .int .i64 (h : Int), .agg (B K)] w' fun e w'' => e = .returned (.tuple #[.int .i64 (T.rk K : Int), .int .i64 0]) ∧ Below w'.heap.size w' w'') := fun w' hb => (r.grow hb).rank K hK
  have HEN : Hid (∀ w', Below w.heap.size w w' → Calls Tryz.prog 30 #[.pointer pt, .int .i64 (h : Int), .int .i64 (T.rk K : Int), .int .i64 (most : Int)] w' (EnPost w' ((T.ents.drop (T.rk K)).take most))) := fun w' hb => by
    have h1 := r.rkd K hK
    have h2 := ahd_le K T.ents
    have h3 := r.few
    exact (r.grow hb).entries (T.rk K) most (by omega)
  have HPS := hidden (keyB_size hK)
  have d1 : ¬ (most : Int) < 0 := by omega
  have d2 : ¬ 256 < (most : Int) := by omega
  clear r hK hm
  generalize (T.ents.drop (T.rk K)).take most = es at *
  generalize (T.rk K : Int) = rk at *
  generalize (most : Int) = mo at *
  go_enter Tryz.func31, Tryz.ntmps31
  go_wp2_with (first
    | ((with_reducible refine at_bxd 6 ?_); refine wpList_bx _ rfl _ _ rfl _ rfl ?_; intro w1 b5 hg5 hl5 B5 q5; have HB5 := hidden B5; have HQ5 := hidden q5; clear hg5 hl5 B5 q5)
    | ((with_reducible refine at_ldd 15 6 ?_); refine wpList_ld _ rfl _ _ rfl b5 _ rfl HB5.out _ _ Tryz.underlying32 HPS.out ?_)
    | (go_at_call 10; refine (HRK.out _ HQ5.out).mono ?_; rintro e w2 ⟨rfl, b2⟩; have HQ2 := hidden (grow_trans HQ5.out b2); clear b2)
    | (go_at_call 30; refine (HEN.out _ HQ2.out).mono ?_; rintro e w4 hp; obtain ⟨lv, its, rfl, hp'⟩ := id hp; have HQ4 := hidden (grow_trans HQ2.out hp'.2.2.2.2); have HP := hidden hp; clear hp' hp))
  go_ret2
  exact ⟨w2, HQ2.out.size, HQ4.out, _, rfl, HP.out⟩

def upt (K : List Int) (l : List Ent) : Nat := (l.filter fun e => decide (cmp e.1 K ≤ 0)).length

theorem upt_next {K K2 : List Int} (hK : Key K) (hN : IsNext K K2) (l : List Ent) (hk : ∀ e ∈ l, Key e.1) : ahd K2 l = upt K l := by
  unfold ahd upt
  congr 1
  refine List.filter_congr (fun e he => ?_)
  have h1 := hk e he
  rw [decide_eq_decide, cmp_lt h1 hN.1, cmp_le h1 hK]
  constructor
  · intro ha hb
    exact hN.least hb ha
  · intro hn
    rcases cmp_key h1 hK with ⟨_, e1⟩ | ⟨_, e1⟩ | ⟨_, e1⟩
    · rw [e1]
      exact hN.behind
    · exact e1.trans hN.behind
    · exact absurd e1 hn
theorem upt_last {K : List Int} (hK : Key K) (hL : IsLast K) (l : List Ent) (hk : ∀ e ∈ l, Key e.1) : l.length = upt K l := by
  unfold upt
  rw [List.filter_eq_self.2 (fun e he => by
    rw [decide_eq_true_iff, cmp_le (hk e he) hK]
    exact hL.none)]

def btw (K K2 : List Int) (l : List Ent) : Nat := upt K2 l - ahd K l

end Go.Proofs.YtnnmfgnommbmkaaGreatDoor

namespace Go.Proofs.YtnnmfgnommbmkaaGreatDoor
set_option maxRecDepth 20000
open Go.RowKit

theorem upt_app (K : List Int) (a b : List Ent) : upt K (a ++ b) = upt K a + upt K b := by
  unfold upt
  rw [List.filter_append, List.length_append]
theorem cut_at {l : List Ent} {j : Nat} {e : Ent} (h : l[j]? = some e) : l = l.take j ++ e :: l.drop (j + 1) := by
  obtain ⟨hj, he⟩ := List.getElem?_eq_some_iff.1 h
  rw [← he, ← List.drop_eq_getElem_cons hj, List.take_append_drop]
theorem rise_at {l : List Ent} (hr : l.Pairwise fun a b => Ahead a.1 b.1) {j : Nat} {e : Ent} (h : l[j]? = some e) : (∀ x ∈ l.take j, Ahead x.1 e.1) ∧ ∀ x ∈ l.drop (j + 1), Ahead e.1 x.1 := by
  rw [cut_at h] at hr
  obtain ⟨_, h2, h3⟩ := List.pairwise_append.1 hr
  exact ⟨fun x hx => h3 x hx e List.mem_cons_self, fun x hx => (List.pairwise_cons.1 h2).1 x hx⟩
theorem ahd_at {l : List Ent} (hk : ∀ e ∈ l, Key e.1) (hr : l.Pairwise fun a b => Ahead a.1 b.1) {j : Nat} {e : Ent} (h : l[j]? = some e) : ahd e.1 l = j := by
  obtain ⟨h1, h2⟩ := rise_at hr h
  have hj := (List.getElem?_eq_some_iff.1 h).1
  have he := hk e (List.mem_of_getElem? h)
  have e1 : ahd e.1 l = ahd e.1 (l.take j) + ahd e.1 (e :: l.drop (j + 1)) := by
    conv => lhs; rw [cut_at h]
    exact ahd_app _ _ _
  rw [e1, ahd_all e.1 (l.take j) (fun x hx => (cmp_lt (hk x (List.mem_of_mem_take hx)) he).2 (h1 x hx)), ahd_none e.1 (e :: l.drop (j + 1)) (fun x hx => ?_), List.length_take]
  · omega
  · rcases List.mem_cons.1 hx with rfl | hx
    · rw [cmp_self he]
      omega
    · rw [cmp_lt (hk x (List.mem_of_mem_drop hx)) he]
      exact (h2 x hx).not
theorem upt_at {l : List Ent} (hk : ∀ e ∈ l, Key e.1) (hr : l.Pairwise fun a b => Ahead a.1 b.1) {j : Nat} {e : Ent} (h : l[j]? = some e) : upt e.1 l = j + 1 := by
  obtain ⟨h1, h2⟩ := rise_at hr h
  have hj := (List.getElem?_eq_some_iff.1 h).1
  have he := hk e (List.mem_of_getElem? h)
  have e1 : upt e.1 l = upt e.1 (l.take j) + upt e.1 ([e] ++ l.drop (j + 1)) := by
    conv => lhs; rw [cut_at h]
    exact upt_app _ _ _
  have e2 : upt e.1 (l.take j) = j := by
    unfold upt
    rw [List.filter_eq_self.2 (fun x hx => decide_eq_true ((cmp_le (hk x (List.mem_of_mem_take hx)) he).2 (h1 x hx).not)), List.length_take]
    omega
  have e3 : upt e.1 [e] = 1 := by
    unfold upt
    rw [List.filter_eq_self.2 (fun x hx => by rw [List.mem_singleton.1 hx, cmp_self he]; decide)]
    rfl
  have e4 : upt e.1 (l.drop (j + 1)) = 0 := by
    unfold upt
    rw [List.filter_eq_nil_iff.2 (fun x hx => by
      rw [decide_eq_true_eq, cmp_le (hk x (List.mem_of_mem_drop hx)) he]
      exact fun q => q (h2 x hx))]
    rfl
  rw [e1, upt_app, e2, e3, e4]

end Go.Proofs.YtnnmfgnommbmkaaGreatDoor
