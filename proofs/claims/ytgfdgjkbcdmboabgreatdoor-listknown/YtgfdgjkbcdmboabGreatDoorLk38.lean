/- The function that list.over hands back, as a contract for a range over it: the entries one by one, each with a value of its own. -/
import Derived.Test.YtgfdgjkbcdmboabGreatDoorLk32
import Derived.Test.YtgfdgjkbcdmboabGreatDoorLk37
import Derived.Test.YtgfdgjkbcdmboabGreatDoorLk14
namespace Go.Proofs.YtgfdgjkbcdmboabGreatDoor
set_option maxRecDepth 20000
open Go.RowKit Go.Shelf

attribute [local go_sem] Oper.semAt_some

/-- What is known of an entry when it comes: it is the next one, and its value is new. -/
def NextE (b : Nat) (es : List Ent) (pre : List (Ent × Value)) (x : Ent × Value) (A : World) : Prop := es[pre.length]? = some x.1 ∧ ∃ sp, Own b A x.2 x.1.2 sp

theorem reads_sl {w : World} {v : Value} {bs : List Int} (h : Reads w v bs) : ∃ a c, v = .slice a bs.length c := by
  obtain ⟨a, c, e, _⟩ := h
  exact ⟨a, c, e⟩

set_option maxRecDepth 100000 in
set_option maxHeartbeats 4000000 in
theorem ov1_in {wb : World} {b : Nat} {es : List Ent} (hO : OvAt wb b es) (h6 : es.length ≤ 4096) (hbs : ∀ e ∈ es, e.2.length ≤ 65536) (n : Nat) (hn : 1 ≤ n) (l : Nat) (J Jx : List (Ent × Value) → World → Prop) (W : World) (hb : Below wb.heap.size wb W)
    (hJ : ∀ s A B, J s A → Below A.heap.size A B → J s B)
    (hY : ∀ pre x A, J pre A → NextE wb.heap.size es pre x A → pre.length < es.length → YieldAt Fence.wide (n - 1) Tryz.prog l #[.agg (B x.1.1), x.2] A fun e B =>
      (e = .returned (.bool true) ∧ J (pre ++ [x]) B ∧ Below wb.heap.size A B) ∨ (e = .returned (.bool false) ∧ Jx (pre ++ [x]) B))
    (h0 : J [] W) :
    CallsIn Fence.wide n Tryz.prog 82 #[.func (.yield l) #[] #[], .pointer (some ⟨b, 0, none⟩)] W fun e B => (∃ v, e = .returned v) ∧ ((∃ xs, xs.map (·.1) = es ∧ J xs B) ∨ (∃ pre, pre.map (·.1) <+: es ∧ Jx pre B)) := by
  obtain ⟨a, c, V, hB, hP⟩ := hO
  obtain ⟨m, hm⟩ : ∃ m, m = es.length := ⟨_, rfl⟩
  rw [← hm] at hB
  have HGet : Hid (∀ k, k < m → ∃ g off ua uc K bs, a = some ⟨g, off, none⟩ ∧ es[k]? = some (K, bs) ∧ wb.rangeAt g (off + k * 33) (encP K (.slice ua bs.length uc)) ∧ Key K ∧ Reads wb (.slice ua bs.length uc) bs) := fun k hk => by
    rw [hm] at hk
    obtain ⟨a', c', e, _, h2, h3⟩ := hP
    injection e with e1 _ _
    subst e1
    obtain ⟨g, off, ea, hr⟩ := h2 (by omega)
    have h4 := hr k hk
    obtain ⟨hk1, hk2⟩ := h3 k hk
    rw [List.getD_eq_getElem?_getD, List.getElem?_eq_getElem hk, Option.getD_some] at h4 hk1 hk2
    obtain ⟨ua, uc, eV⟩ := reads_sl hk2
    rw [eV] at h4 hk2
    exact ⟨g, off, ua, uc, es[k].1, es[k].2, ea, by rw [List.getElem?_eq_getElem hk], h4, hk1, hk2⟩
  have c1 : W.cell? ⟨b, 0, none⟩ = some (.slice a m c) := by rw [(hB.grow hb).cell]; rfl
  have HJ := hidden hJ
  have HY := hidden hY
  have HM := hidden hm
  have HBS := hidden hbs
  have H6 : Hid (m ≤ 4096) := by rw [hm]; exact h6
  have HB := hidden hb
  have H0 := hidden h0
  obtain ⟨fs, hfs⟩ := u_pair
  have HUP := hidden hfs
  have f1 : Fence.wide.fn 83 := trivial
  clear hP hB hJ hY hm hbs h6 hb h0 hfs
  refine callsIn_of_wp Tryz.func82 rfl trivial ?_ rfl
  simp only [Tryz.ntmps82, List.size_toArray, List.length_cons, List.length_nil, Nat.reduceAdd, Nat.reduceSub, Array.replicate_succ, Array.replicate_zero, List.push_toArray, List.append_toArray, List.nil_append, List.cons_append]
  gi_wp2
  gi_loopw [7] (fun i wr => ∃ (k : Nat) (pre : List (Ent × Value)), k ≤ m ∧ i = .int .i64 k ∧ pre.length = k ∧ Hid (pre.map (·.1) = es.take k) ∧ Hid (J pre wr) ∧ Hid (Below wb.heap.size wb wr)) (fun i _ => m - (intOf i).toNat)
  case atStart => exact ⟨0, [], Nat.zero_le _, rfl, rfl, rfl, H0, HB⟩
  case round =>
    clear c1 H0 HB
    obtain ⟨k, pre, hk, rfl, hpl, hpm, hJs, hBw⟩ := hrel
    have hm6 := H6.out
    have hwk : wrap64 ((k : Int) + 1) = ((k + 1 : Nat) : Int) := by rw [Go.IntWalk.wrap64_in _ (by omega)]; rfl
    by_cases hlt : k < m
    · obtain ⟨g, off, ua, uc, K, bs, rfl, hek, hrg, hK, hrd⟩ := HGet.out k hlt
      have HEKk := hidden hek
      have HEK : Hid (es[pre.length]? = some (K, bs)) := by rw [hpl]; exact hek
      have HLN : Hid (pre.length < es.length) := by have := HM.out; show _ < _; omega
      have HPX : Hid (es.take k ++ [(((K, bs), undef) : Ent × Value)].map (·.1) <+: es) := by
        show _ <+: _
        have : es.take k ++ [(K, bs)] = es.take (k + 1) := by rw [List.take_add_one, hek]; rfl
        rw [List.map_cons, List.map_nil, this]
        exact List.take_prefix _ _
      have HRG := hidden (rng_grow hrg hBw.out)
      have HKL := hidden (pth_ln K hK.1)
      have HK32 := hidden hK.1
      have HSZ : Hid ((Tryz.prog.info? 66).map (·.size) = some (encP K (.slice ua bs.length uc)).length) := by
        show _ = _
        rw [encP_length K _ hK.1]
        exact size_pair
      have HS2 : Hid ((encP z32 (.slice none 0 0)).toArray.size = (encP K (.slice ua bs.length uc)).toArray.size) := by
        show _ = _
        rw [List.size_toArray, List.size_toArray, encP_length K _ hK.1, encP_length z32 _ z32_length]
      have HCL : Hid (∀ w', Below wr.heap.size wr w' → Calls Tryz.prog 83 #[.slice ua bs.length uc] w' fun e w'' => ∃ v' sp, e = .returned v' ∧ Own w'.heap.size w'' v' bs sp ∧ Below w'.heap.size w' w'') := fun w' hb => clone_any _ bs w' ((hrd.grow hBw.out).grow hb) (by
        have := HBS.out (K, bs) (List.mem_of_getElem? HEKk.out)
        simp only at this
        omega)
      have i1 : (k : Int) < (m : Int) := by omega
      have i0 : (0 : Int) ≤ (k : Int) := by omega
      clear hrg hK hrd hek
      gi_wp2_with (first
        | (refine inList (.inl rfl) (fun c e => by cases e) (wpList_load_mid rfl 66 (.tmp 9) rfl g (off + k * 33) rfl (encP K (.slice ua bs.length uc)) _ HRG.out HUP.out rfl HSZ.out ⟨rfl, ?_⟩))
        | (refine inList (.inl rfl) (fun c e => by cases e) (wpList_al _ rfl _ rfl _ zero_pair (fun w2 g4 hg4 hl4 B4 b2 => ⟨rfl, ?_⟩)); have HG4 := hidden hg4; have HB4 := hidden B4; have HQ2 := hidden b2; clear hg4 hl4 B4 b2)
        | (refine inList (.inl rfl) (fun c e => by cases e) (wpList_sto _ rfl _ _ _ rfl g4 _ (encP K (.slice ua bs.length uc)).toArray rfl rfl HB4.out (by rw [List.size_toArray]; exact HSZ.out) HS2.out (encP_one _ _ _ _) (fun w4 B9 r9 => ⟨rfl, ?_⟩)); have HB9 := hidden B9; have HQ4 := hidden (below_row HQ2.out r9 HG4.out); clear B9 r9))
      have HR4 : Hid (∀ w', Below w4.drew.heap.size w4.drew w' → w'.rangeAt g4 0 (B K).toList) := fun w' hb j u hu => by
        rw [Nat.zero_add, ((HB9.out.grow (below_drewN (Below.refl _ _) 1)).grow hb).cell]
        rw [B_toList] at hu
        have hj : j < K.length := by
          have := (List.getElem?_eq_some_iff.1 hu).1
          simpa using this
        rw [List.getElem?_toArray, encP, List.getElem?_append_left (by simpa using hj)]
        exact hu
      have HC33 : Hid (∀ w', Below w4.drew.heap.size w4.drew w' → w'.cell? ⟨g4, 32, none⟩ = some (.slice ua bs.length uc)) := fun w' hb => by
        rw [((HB9.out.grow (below_drewN (Below.refl _ _) 1)).grow hb).cell, List.getElem?_toArray, encP, List.getElem?_append_right (by simp [HK32.out])]
        simp [HK32.out]
      have d4 : Below wr.heap.size wr w4.drew := grow_trans HQ4.out (below_drewN (Below.refl _ _) 1)
      have HWZ : Hid (wb.heap.size ≤ w4.drew.heap.size) := (grow_trans hBw.out d4).size
      have HBz : Hid (∀ z, Below wr.heap.size wr z → Below wb.heap.size wb z) := fun z hz => grow_trans hBw.out hz
      refine wpIn_region_any (by kernel_rfl) ?_
      refine wpAnyIn_take (i := 0) (v := .func (.yield l) #[] #[]) rfl rfl (by kernel_rfl) (by kernel_rfl) (by kernel_rfl) (fun _ _ _ h => h) ⟨Or.inl ⟨by rfl, fun w => by go_simp⟩, fun _ => rfl⟩ ?_
      simp only [Act.put, List.getElem_toArray, List.getElem_cons_zero, List.setIfInBounds_toArray, List.set_cons_zero, List.set_cons_succ]
      refine wpAnyIn_take (i := 1) (v := .pointer (some ⟨g4, 0, none⟩)) rfl rfl (by kernel_rfl) (by kernel_rfl) (by kernel_rfl) (fun _ _ _ h => h) ⟨Or.inl ⟨by rfl, fun w => by go_simp⟩, fun _ => rfl⟩ ?_
      simp only [Act.put, List.getElem_toArray, List.getElem_cons_zero, List.getElem_cons_succ, List.setIfInBounds_toArray, List.set_cons_zero, List.set_cons_succ]
      refine wpAnyIn_take (i := 3) (v := .pointer (some ⟨g4, 32, none⟩)) rfl rfl (by kernel_rfl) (by kernel_rfl) (by kernel_rfl) (fun _ _ _ h => h) ⟨Or.inl ⟨by rfl, fun w => by go_simp⟩, fun _ => rfl⟩ ?_
      simp only [Act.put, List.getElem_toArray, List.getElem_cons_zero, List.getElem_cons_succ, List.setIfInBounds_toArray, List.set_cons_zero, List.set_cons_succ]
      refine wpAnyIn_ready (rs := [2, 4]) (by kernel_rfl) (by simp) ?_
      refine readyIn (.inl rfl) rfl (fun c e => by cases e) (fun KQ hK => ?_) (readyIn (.inl rfl) rfl (fun c e => by cases e) (fun KQ hK => ?_) AllReadyIn.nil)
      · refine step_ldm _ rfl 24 (.tmp 12) rfl g4 0 rfl (B K).toList (HR4.out _ (Below.refl _ _)) _ Tryz.underlying24 rfl HKL.out ?_
        refine hK _ _ ?_
        clear hK KQ
        rw [show (B K).toList.toArray = B K from Array.toArray_toList]
        try simp only [Act.put, List.getElem_toArray, List.getElem_cons_zero, List.getElem_cons_succ, List.setIfInBounds_toArray, List.set_cons_zero, List.set_cons_succ]
        refine wpAnyIn_ready (rs := [4]) (by kernel_rfl) (by simp) ?_
        refine readyIn (.inl rfl) rfl (fun c e => by cases e) (fun KQ hK => ?_) AllReadyIn.nil
        have c33 := HC33.out _ (Below.refl _ _)
        go_simp
        refine hK _ _ ?_
        clear hK KQ c33
        try simp only [Act.put, List.getElem_toArray, List.getElem_cons_zero, List.getElem_cons_succ, List.setIfInBounds_toArray, List.set_cons_zero, List.set_cons_succ]
        refine wpAnyIn_ready (rs := [5]) (by kernel_rfl) (by simp) ?_
        refine readyIn (.inl rfl) rfl (fun c e => by cases e) (fun KQ hK => ?_) AllReadyIn.nil
        go_simp
        refine (HCL.out _ d4).mono ?_
        rintro e z ⟨u, sp, rfl, ow, az⟩
        have d5 := grow_trans d4 az
        refine hK _ _ ?_
        clear hK KQ
        try simp only [Act.put, List.getElem_toArray, List.getElem_cons_zero, List.getElem_cons_succ, List.setIfInBounds_toArray, List.set_cons_zero, List.set_cons_succ]
        obtain ⟨fn, tmps, assign, body, hy, hR⟩ := HY.out pre ((K, bs), u) z (HJ.out _ _ _ hJs.out d5) ⟨HEK.out, sp, ow.mono HWZ.out⟩ HLN.out
        dsimp only at hy
        refine wpAnyIn_ready (rs := [6]) (by kernel_rfl) (by simp) ?_
        refine AllReadyIn.cons rfl (fun KQ hK => ?_) AllReadyIn.nil
        go_simp
        refine hR.mono ?_
        rintro e W3 (⟨rfl, hJ3, hb3⟩ | ⟨rfl, hJx3⟩)
        · refine hK _ _ ?_
          clear hK KQ
          have HX3 := hidden (show J (pre ++ [((K, bs), u)]) W3 ∧ Below wb.heap.size wb W3 from ⟨hJ3, (HBz.out _ d5).trans hb3⟩)
          clear hJ3 hb3 hR hy
          refine wpAnyIn_take (i := 7) (v := .bool false) rfl rfl (by kernel_rfl) (by kernel_rfl) (by kernel_rfl) (fun _ _ _ h => h) ⟨Or.inl ⟨by rfl, fun w => by go_simp⟩, fun _ => rfl⟩ ?_
          simp only [Act.put, List.getElem_toArray, List.getElem_cons_zero, List.getElem_cons_succ, List.setIfInBounds_toArray, List.set_cons_zero, List.set_cons_succ]
          refine wpAnyIn_done (by kernel_rfl) ?_ _
          gi_wp2
          go_roundw
          case rel => exact ⟨k + 1, pre ++ [((K, bs), u)], by omega, by first | rfl | go_num, by rw [List.length_append, List.length_singleton, hpl], by show _ = _; rw [List.map_append, hpm.out, List.take_add_one, HEKk.out]; rfl, HX3.out.1, HX3.out.2⟩
          case measure => simp [intOf]; omega
        · refine hK _ _ ?_
          clear hK KQ hR hy
          refine wpAnyIn_take (i := 7) (v := .bool true) rfl rfl (by kernel_rfl) (by kernel_rfl) (by kernel_rfl) (fun _ _ _ h => h) ⟨Or.inl ⟨by rfl, fun w => by go_simp⟩, fun _ => rfl⟩ ?_
          simp only [Act.put, List.getElem_toArray, List.getElem_cons_zero, List.getElem_cons_succ, List.setIfInBounds_toArray, List.set_cons_zero, List.set_cons_succ]
          refine wpAnyIn_done (by kernel_rfl) ?_ _
          gi_wp2
          refine bodyPost_ret (results_none rfl _ _ _) rfl ?_
          refine ⟨⟨_, rfl⟩, .inr ⟨_, ?_, hJx3⟩⟩
          rw [List.map_append, hpm.out]
          exact HPX.out
      · have c33 := HC33.out _ (Below.refl _ _)
        go_simp
        refine hK _ _ ?_
        clear hK KQ c33
        try simp only [Act.put, List.getElem_toArray, List.getElem_cons_zero, List.getElem_cons_succ, List.setIfInBounds_toArray, List.set_cons_zero, List.set_cons_succ]
        refine wpAnyIn_ready (rs := [2, 5]) (by kernel_rfl) (by simp) ?_
        refine readyIn (.inl rfl) rfl (fun c e => by cases e) (fun KQ hK => ?_) (readyIn (.inl rfl) rfl (fun c e => by cases e) (fun KQ hK => ?_) AllReadyIn.nil)
        · refine step_ldm _ rfl 24 (.tmp 12) rfl g4 0 rfl (B K).toList (HR4.out _ (Below.refl _ _)) _ Tryz.underlying24 rfl HKL.out ?_
          refine hK _ _ ?_
          clear hK KQ
          rw [show (B K).toList.toArray = B K from Array.toArray_toList]
          try simp only [Act.put, List.getElem_toArray, List.getElem_cons_zero, List.getElem_cons_succ, List.setIfInBounds_toArray, List.set_cons_zero, List.set_cons_succ]
          refine wpAnyIn_ready (rs := [5]) (by kernel_rfl) (by simp) ?_
          refine readyIn (.inl rfl) rfl (fun c e => by cases e) (fun KQ hK => ?_) AllReadyIn.nil
          go_simp
          refine (HCL.out _ d4).mono ?_
          rintro e z ⟨u, sp, rfl, ow, az⟩
          have d5 := grow_trans d4 az
          refine hK _ _ ?_
          clear hK KQ
          try simp only [Act.put, List.getElem_toArray, List.getElem_cons_zero, List.getElem_cons_succ, List.setIfInBounds_toArray, List.set_cons_zero, List.set_cons_succ]
          obtain ⟨fn, tmps, assign, body, hy, hR⟩ := HY.out pre ((K, bs), u) z (HJ.out _ _ _ hJs.out d5) ⟨HEK.out, sp, ow.mono HWZ.out⟩ HLN.out
          dsimp only at hy
          refine wpAnyIn_ready (rs := [6]) (by kernel_rfl) (by simp) ?_
          refine AllReadyIn.cons rfl (fun KQ hK => ?_) AllReadyIn.nil
          go_simp
          refine hR.mono ?_
          rintro e W3 (⟨rfl, hJ3, hb3⟩ | ⟨rfl, hJx3⟩)
          · refine hK _ _ ?_
            clear hK KQ
            have HX3 := hidden (show J (pre ++ [((K, bs), u)]) W3 ∧ Below wb.heap.size wb W3 from ⟨hJ3, (HBz.out _ d5).trans hb3⟩)
            clear hJ3 hb3 hR hy
            refine wpAnyIn_take (i := 7) (v := .bool false) rfl rfl (by kernel_rfl) (by kernel_rfl) (by kernel_rfl) (fun _ _ _ h => h) ⟨Or.inl ⟨by rfl, fun w => by go_simp⟩, fun _ => rfl⟩ ?_
            simp only [Act.put, List.getElem_toArray, List.getElem_cons_zero, List.getElem_cons_succ, List.setIfInBounds_toArray, List.set_cons_zero, List.set_cons_succ]
            refine wpAnyIn_done (by kernel_rfl) ?_ _
            gi_wp2
            go_roundw
            case rel => exact ⟨k + 1, pre ++ [((K, bs), u)], by omega, by first | rfl | go_num, by rw [List.length_append, List.length_singleton, hpl], by show _ = _; rw [List.map_append, hpm.out, List.take_add_one, HEKk.out]; rfl, HX3.out.1, HX3.out.2⟩
            case measure => simp [intOf]; omega
          · refine hK _ _ ?_
            clear hK KQ hR hy
            refine wpAnyIn_take (i := 7) (v := .bool true) rfl rfl (by kernel_rfl) (by kernel_rfl) (by kernel_rfl) (fun _ _ _ h => h) ⟨Or.inl ⟨by rfl, fun w => by go_simp⟩, fun _ => rfl⟩ ?_
            simp only [Act.put, List.getElem_toArray, List.getElem_cons_zero, List.getElem_cons_succ, List.setIfInBounds_toArray, List.set_cons_zero, List.set_cons_succ]
            refine wpAnyIn_done (by kernel_rfl) ?_ _
            gi_wp2
            refine bodyPost_ret (results_none rfl _ _ _) rfl ?_
            refine ⟨⟨_, rfl⟩, .inr ⟨_, ?_, hJx3⟩⟩
            rw [List.map_append, hpm.out]
            exact HPX.out
        · go_simp
          refine (HCL.out _ d4).mono ?_
          rintro e z ⟨u, sp, rfl, ow, az⟩
          have d5 := grow_trans d4 az
          refine hK _ _ ?_
          clear hK KQ
          try simp only [Act.put, List.getElem_toArray, List.getElem_cons_zero, List.getElem_cons_succ, List.setIfInBounds_toArray, List.set_cons_zero, List.set_cons_succ]
          refine wpAnyIn_ready (rs := [2]) (by kernel_rfl) (by simp) ?_
          refine readyIn (.inl rfl) rfl (fun c e => by cases e) (fun KQ hK => ?_) AllReadyIn.nil
          refine step_ldm _ rfl 24 (.tmp 12) rfl g4 0 rfl (B K).toList (HR4.out _ (az)) _ Tryz.underlying24 rfl HKL.out ?_
          refine hK _ _ ?_
          clear hK KQ
          rw [show (B K).toList.toArray = B K from Array.toArray_toList]
          try simp only [Act.put, List.getElem_toArray, List.getElem_cons_zero, List.getElem_cons_succ, List.setIfInBounds_toArray, List.set_cons_zero, List.set_cons_succ]
          obtain ⟨fn, tmps, assign, body, hy, hR⟩ := HY.out pre ((K, bs), u) z (HJ.out _ _ _ hJs.out d5) ⟨HEK.out, sp, ow.mono HWZ.out⟩ HLN.out
          dsimp only at hy
          refine wpAnyIn_ready (rs := [6]) (by kernel_rfl) (by simp) ?_
          refine AllReadyIn.cons rfl (fun KQ hK => ?_) AllReadyIn.nil
          go_simp
          refine hR.mono ?_
          rintro e W3 (⟨rfl, hJ3, hb3⟩ | ⟨rfl, hJx3⟩)
          · refine hK _ _ ?_
            clear hK KQ
            have HX3 := hidden (show J (pre ++ [((K, bs), u)]) W3 ∧ Below wb.heap.size wb W3 from ⟨hJ3, (HBz.out _ d5).trans hb3⟩)
            clear hJ3 hb3 hR hy
            refine wpAnyIn_take (i := 7) (v := .bool false) rfl rfl (by kernel_rfl) (by kernel_rfl) (by kernel_rfl) (fun _ _ _ h => h) ⟨Or.inl ⟨by rfl, fun w => by go_simp⟩, fun _ => rfl⟩ ?_
            simp only [Act.put, List.getElem_toArray, List.getElem_cons_zero, List.getElem_cons_succ, List.setIfInBounds_toArray, List.set_cons_zero, List.set_cons_succ]
            refine wpAnyIn_done (by kernel_rfl) ?_ _
            gi_wp2
            go_roundw
            case rel => exact ⟨k + 1, pre ++ [((K, bs), u)], by omega, by first | rfl | go_num, by rw [List.length_append, List.length_singleton, hpl], by show _ = _; rw [List.map_append, hpm.out, List.take_add_one, HEKk.out]; rfl, HX3.out.1, HX3.out.2⟩
            case measure => simp [intOf]; omega
          · refine hK _ _ ?_
            clear hK KQ hR hy
            refine wpAnyIn_take (i := 7) (v := .bool true) rfl rfl (by kernel_rfl) (by kernel_rfl) (by kernel_rfl) (fun _ _ _ h => h) ⟨Or.inl ⟨by rfl, fun w => by go_simp⟩, fun _ => rfl⟩ ?_
            simp only [Act.put, List.getElem_toArray, List.getElem_cons_zero, List.getElem_cons_succ, List.setIfInBounds_toArray, List.set_cons_zero, List.set_cons_succ]
            refine wpAnyIn_done (by kernel_rfl) ?_ _
            gi_wp2
            refine bodyPost_ret (results_none rfl _ _ _) rfl ?_
            refine ⟨⟨_, rfl⟩, .inr ⟨_, ?_, hJx3⟩⟩
            rw [List.map_append, hpm.out]
            exact HPX.out
    · obtain rfl : k = m := by omega
      have HP : Hid (pre.map (·.1) = es) := by
        have := hpm.out
        rw [List.take_of_length_le (by rw [← HM.out]; omega)] at this
        exact this
      gi_wp2
      go_end0
      exact ⟨⟨_, rfl⟩, .inl ⟨_, HP.out, hJs.out⟩⟩

end Go.Proofs.YtgfdgjkbcdmboabGreatDoor

/- What goes over entries beside those that are wanted (the law's 'gone'), as a contract: where they are the same it says so. -/
namespace Go.Proofs.YtgfdgjkbcdmboabGreatDoor
set_option maxRecDepth 20000
open Go.RowKit Go.Shelf

attribute [local go_sem] Oper.semAt_some

theorem region_heldIn {F : Fence} (hF : Wide F) {n : Nat} {P : Program} {id : Nat} {ops : Array Oper} {Q : Exit → Act → World → Prop} {S : World → Prop} {a : Act} {w : World} (hm : P.follows .mixedOrders = true) (hd : (ops.all fun o => match o.op with | .defer _ => false | _ => true) = true) (hS : S w.drew)
    (h : S w.drew → wpAnyH P .any ops (fun e a' w' => e = .normal ∧ Q .normal a' w') S ops.size (Array.replicate ops.size false) a w.drew) : (Code.region id ops true).wpIn F n P Q a w :=
  drawIn hF hm hd (wpAny_of_held _ _ _ _ (h hS))

theorem eql13_fn (w : World) (fn : Fn) (x y : Array Value) : (binOp .eql 44 (.func fn x y) .nilFunc).run Tryz.prog w = .ok (.bool false) w := by
  have h : ∀ d : Nat, (Op.equalIn (d + 1) 44 (.func fn x y) .nilFunc).run Tryz.prog w = .ok false w := fun d => by
    simp [Op.equalIn, run_underlying Tryz.underlying44]
  simp only [binOp]
  simp [Op.equal, Op.maxDepth, h 9999]

theorem blk_own {A B' : World} {row : Option Nat} {k : Nat} {t : TypeId} {c : Array Value} (h : Blk A k t c) (hg : A.grownBy B' row) (hr : ∀ r, row = some r → ∃ o : Obj, A.heap[r]? = some o ∧ o.isCells = false) : B'.heap[k]? = A.heap[k]? := hg.block k h.lt (fun e => by
  obtain ⟨o, ho, hc⟩ := hr k e.symm
  unfold Blk at h
  rw [ho] at h
  injection h with h
  rw [h] at hc
  cases hc)

/-- The loop's four variables. -/
structure GoI (w : World) (want : Value) (stop : Int) (k : Nat) (W : World) : Prop where
  low : Below w.heap.size w W
  bw : Blk W w.heap.size 33 #[want]
  bs : Blk W (w.heap.size + 1) 3 #[.int .i64 stop]
  br : Blk W (w.heap.size + 1 + 1) 4 #[.bool false]
  bn : Blk W (w.heap.size + 1 + 1 + 1) 3 #[.int .i64 (k : Int)]
theorem GoI.grow {w : World} {want : Value} {stop : Int} {k : Nat} {A A' : World} (h : GoI w want stop k A) (hb : Below A.heap.size A A') : GoI w want stop k A' := ⟨grow_trans h.low hb, h.bw.grow hb, h.bs.grow hb, h.br.grow hb, h.bn.grow hb⟩
theorem GoI.own {w : World} {want : Value} {stop : Int} {k B0 : Nat} (hB : w.heap.size ≤ B0) {A A' : World} {row : Option Nat} (h : GoI w want stop k A) (hg : A.grownBy A' row) (hr : ∀ r, row = some r → B0 ≤ r ∧ ∃ o : Obj, A.heap[r]? = some o ∧ o.isCells = false) : GoI w want stop k A' :=
  ⟨ownFrom_below (β := Unit) (Nat.le_refl _) hB () A A' row h.low hg hr, h.bw.of_block (blk_own h.bw hg (fun r e => (hr r e).2)), h.bs.of_block (blk_own h.bs hg (fun r e => (hr r e).2)), h.br.of_block (blk_own h.br hg (fun r e => (hr r e).2)), h.bn.of_block (blk_own h.bn hg (fun r e => (hr r e).2))⟩

/-- The frame of a round. -/
def goFr (w : World) (fv want : Value) (stop : Int) (bk : Nat) (K : List Int) (u : Value) : Act := { tmps := #[fv, want, Value.int IntKind.i64 stop, undef, Value.pointer (some { block := w.heap.size, off := 0 }), Value.pointer (some { block := w.heap.size + 1, off := 0 }), Value.pointer (some { block := w.heap.size + 1 + 1, off := 0 }), Value.pointer (some { block := w.heap.size + 1 + 1 + 1, off := 0 }), Value.pointer (some { block := bk, off := 0 }), u, fv, Value.bool false, fv, Value.agg (B K), u, undef, undef, undef, undef, undef, undef, undef, undef, undef, undef, undef, undef, undef, undef, undef, undef, undef, undef, undef, undef, undef, undef, undef, undef, undef, undef, undef, undef, undef, undef, undef, undef, undef, undef], defers := [] }

set_option maxRecDepth 100000 in
set_option maxHeartbeats 8000000 in
theorem gone13_any {w : World} {b : Nat} {es : List Ent} (hO : OvAt w b es) (h6 : es.length ≤ 4096) (hbs : ∀ e ∈ es, e.2.length ≤ 65536) (a : Option Addr) (c : Nat) (V : Nat → Value) (hw : PrAt w (.slice a es.length c) V es) (stop : Int) :
    Calls Tryz.prog 22 #[.func (.func 82) #[] #[.pointer (some ⟨b, 0, none⟩)], .slice a es.length c, .int .i64 stop] w fun e w' => e = .returned (.bool true) ∧ Below w.heap.size w w' := by
  refine (callsIn_wide (n := 4)).1 ?_
  have HSQ : Hid (∀ (n : Nat), 1 ≤ n → ∀ w2, Below w.heap.size w w2 → SeqY Fence.wide n Tryz.prog 82 #[.pointer (some ⟨b, 0, none⟩)] (fun x : Ent × Value => #[Value.agg (B x.1.1), x.2]) (NextE w.heap.size es) w.heap.size (fun xs => xs.map (·.1) = es) (fun pre => pre.map (·.1) <+: es) es.length w2) := fun n hn w2 hb l J Jx W hW hJ hY h0 => ov1_in hO h6 hbs n hn l J Jx W (grow_trans hb hW) hJ hY h0
  obtain ⟨m, hm⟩ : ∃ m, m = es.length := ⟨_, rfl⟩
  have HM := hidden hm
  rw [← hm] at hw
  rw [← hm]
  have HW : Hid (∀ k, k < m → ∃ g off va vc K bs, a = some ⟨g, off, none⟩ ∧ es[k]? = some (K, bs) ∧ w.rangeAt g (off + k * 33) (encP K (.slice va bs.length vc)) ∧ Key K ∧ Reads w (.slice va bs.length vc) bs) := fun k hk => by
    rw [hm] at hk
    obtain ⟨a', c', e, _, h2, h3⟩ := hw
    injection e with e1 _ _
    subst e1
    obtain ⟨g, off, ea, hr⟩ := h2 (by omega)
    have h4 := hr k hk
    obtain ⟨hk1, hk2⟩ := h3 k hk
    rw [List.getD_eq_getElem?_getD, List.getElem?_eq_getElem hk, Option.getD_some] at h4 hk1 hk2
    obtain ⟨ua, uc, eV⟩ := reads_sl hk2
    rw [eV] at h4 hk2
    exact ⟨g, off, ua, uc, es[k].1, es[k].2, ea, by rw [List.getElem?_eq_getElem hk], h4, hk1, hk2⟩
  have H6 : Hid (m ≤ 4096) := by rw [hm]; exact h6
  clear hO h6 hbs hw hm
  refine callsIn_of_wp_marks Tryz.func22 rfl trivial ?_ rfl
  simp only [Tryz.ntmps22, List.size_toArray, List.length_cons, List.length_nil, Nat.reduceAdd, Nat.reduceSub, Array.replicate_succ, Array.replicate_zero, List.push_toArray, List.append_toArray, List.nil_append, List.cons_append]
  have hfn := eql13_fn
  gi_wp2
  obtain ⟨wA, hwA⟩ : ∃ x, x = (((w.alloc (.cells #[Value.slice a m c] 33)).alloc (.cells #[Value.int .i64 stop] 3)).alloc (.cells #[Value.bool false] 4)).alloc (.cells #[Value.int .i64 0] 3) := ⟨_, rfl⟩
  have hA0 : GoI w (.slice a m c) stop 0 wA ∧ wA.heap.size = w.heap.size + 4 := by
    have k1 := (((Blk.new w 33 #[Value.slice a m c]).grow (grow_alloc _ (.cells #[Value.int .i64 stop] 3))).grow (grow_alloc _ (.cells #[Value.bool false] 4))).grow (grow_alloc _ (.cells #[Value.int .i64 0] 3))
    have k2 := ((Blk.new (w.alloc (.cells #[Value.slice a m c] 33)) 3 #[Value.int .i64 stop]).grow (grow_alloc _ (.cells #[Value.bool false] 4))).grow (grow_alloc _ (.cells #[Value.int .i64 0] 3))
    have k3 := (Blk.new ((w.alloc (.cells #[Value.slice a m c] 33)).alloc (.cells #[Value.int .i64 stop] 3)) 4 #[Value.bool false]).grow (grow_alloc _ (.cells #[Value.int .i64 0] 3))
    have k4 := Blk.new (((w.alloc (.cells #[Value.slice a m c] 33)).alloc (.cells #[Value.int .i64 stop] 3)).alloc (.cells #[Value.bool false] 4)) 3 #[Value.int .i64 0]
    simp only [World.size_alloc] at k2 k3 k4
    rw [← hwA] at k1 k2 k3 k4
    refine ⟨⟨?_, k1, k2, k3, k4⟩, by rw [hwA]; simp⟩
    rw [hwA]
    exact grow_trans (grow_trans (grow_trans (grow_alloc _ _) (grow_alloc _ _)) (grow_alloc _ _)) (grow_alloc _ _)
  have hsA := hA0.2
  have hlA := hA0.1.low
  rw [← hwA]
  refine wpIn_rangeY rfl (by omega) (gf := 82) (lb := #[.pointer (some ⟨b, 0, none⟩)]) rfl trivial (enters_of Tryz.func82 (by kernel_rfl) rfl) (HSQ.out (4 - 1) (by omega) wA hlA) (by omega) (Below.refl _ _) (fun _ => rfl)
    (fun pre W => GoI w (.slice a m c) stop pre.length W ∧ pre.length ≤ m)
    (fun cc _ W => cc = .ret ∧ Blk W (w.heap.size + 1 + 1) 4 #[.bool true] ∧ Below w.heap.size w W)
    (fun pre x a' W => ∃ bk, a' = goFr w (.func (.func 82) #[] #[.pointer (some ⟨b, 0, none⟩)]) (.slice a m c) stop bk x.1.1 x.2 ∧ GoI w (.slice a m c) stop pre.length W ∧ Blk W bk 24 (B x.1.1) ∧ NextE w.heap.size es pre x W ∧ pre.length < m)
    (fun s A A' h hb => ⟨h.1.grow hb, h.2⟩) (fun s A A' row h hg hr => ⟨h.1.own (by omega) hg hr, h.2⟩)
    (fun cc s A A' row h hg hr => ⟨h.1, h.2.1.of_block (blk_own h.2.1 hg (fun r e => (hr r e).2)), ownFrom_below (β := Unit) (Nat.le_refl _) (show w.heap.size ≤ wA.heap.size by omega) () A A' row h.2.2 hg hr⟩)
    (fun pre x a' s A A' row h hg hr => by
      obtain ⟨bk, q1, q2, q3, ⟨q4, sp, q5⟩, q6⟩ := h
      refine ⟨bk, q1, q2.own (by omega) hg hr, q3.of_block (blk_own q3 hg (fun r e => (hr r e).2)), ⟨q4, sp, q5.of_block (fun k hk => ?_)⟩, q6⟩
      obtain ⟨cs, hb⟩ := q5.blk k hk
      exact blk_own hb hg (fun r e => (hr r e).2))
    ⟨hA0.1, Nat.zero_le _⟩ ?assign ?body ?done ?stop
  case assign =>
    clear hsA hA0 hlA
    rintro l pre x A ⟨hG, _⟩ hx hlt
    have HKL : Hid (Key x.1.1) := by
      obtain ⟨g, off, va, vc, K, bs, _, e, _, hK, _⟩ := HW.out pre.length (by rw [HM.out]; exact hlt)
      rw [hx.1] at e
      injection e with e
      rw [e]
      exact hK
    have HPS := hidden (keyB_size HKL.out)
    have HS2 : Hid ((B (List.replicate 32 0)).size = (B x.1.1).size) := by
      show _ = _
      rw [B_size, B_size, HKL.out.1]
      rfl
    have HG := hidden hG
    have HX := hidden hx
    have HLT : Hid (pre.length < m) := by rw [HM.out]; exact hlt
    clear hG hx hlt
    simp only [List.zipWith_toArray, Array.zip, List.foldl_toArray', List.size_toArray]
    gi_wp2_with (first
      | (refine inList (.inr ⟨l, rfl⟩) (fun c e => by cases e) (wpList_al _ rfl _ rfl _ zero_path (fun w2 g8 hg8 hl8 B8 b2 => ⟨rfl, ?_⟩)); have HG8 := hidden hg8; have HB8 := hidden B8; have HQ2 := hidden b2; clear hg8 hl8 B8 b2)
      | (refine inList (.inr ⟨l, rfl⟩) (fun c e => by cases e) (wpList_sto _ rfl _ _ _ rfl g8 _ (B x.1.1) rfl rfl HB8.out HPS.out HS2.out (B_one _) (fun w4 B9 r9 => ⟨rfl, ?_⟩)); have HB9 := hidden B9; have HQ4 := hidden (below_row HQ2.out r9 HG8.out); clear B9 r9))
    refine ⟨⟨HQ4.out.size, fun k o _ hk _ => (HQ4.out.block k (Array.getElem?_eq_some_iff.1 hk).1).trans hk⟩, HQ4.out.mono HG.out.low.size, g8, rfl, HG.out.grow HQ4.out, HB9.out, ⟨HX.out.1, ?_⟩, HLT.out⟩
    obtain ⟨sp, ho⟩ := HX.out.2
    exact ⟨sp, ho.grow HQ4.out⟩
  case body =>
    clear hsA hA0 hlA
    rintro l pre ⟨⟨K, bs⟩, u⟩ a' A ⟨bk, rfl, hG, hKB, ⟨hex, sp, ho⟩, hlt⟩
    dsimp only at hKB hex ho
    obtain ⟨g, off, va, vc, K', bs', rfl, hek, hrg, hK, hrd⟩ := HW.out pre.length hlt
    rw [hex] at hek
    injection hek with hek
    injection hek with e1 e2
    subst e1
    subst e2
    obtain ⟨ua, uc, rfl⟩ := ho.slice
    obtain ⟨k, hk⟩ : ∃ k, k = pre.length := ⟨_, rfl⟩
    rw [← hk] at hG hrg hlt
    have HKE := hidden hk
    have HG := hidden hG
    have HKL := hidden (pth_ln K hK.1)
    have HKB := hidden hKB
    have HC : Hid (∀ w', Below A.heap.size A w' → w'.cell? ⟨w.heap.size, 0, none⟩ = some (.slice (some ⟨g, off, none⟩) m c) ∧ w'.cell? ⟨w.heap.size + 1, 0, none⟩ = some (.int .i64 stop) ∧ w'.cell? ⟨w.heap.size + 1 + 1, 0, none⟩ = some (.bool false) ∧ w'.cell? ⟨w.heap.size + 1 + 1 + 1, 0, none⟩ = some (.int .i64 (k : Int)) ∧ True) := fun w' hb => by
      have h := HG.out.grow hb
      exact ⟨by rw [h.bw.cell]; rfl, by rw [h.bs.cell]; rfl, by rw [h.br.cell]; rfl, by rw [h.bn.cell]; rfl, trivial⟩
    have hrA := rng_grow hrg hG.low
    have HR1 : Hid (∀ w', Below A.heap.size A w' → w'.rangeAt g (off + k * 33) (B K).toList) := fun w' hb j v hv => rng_grow hrA hb j v (by
      rw [B_toList] at hv
      have hj : j < K.length := by
        have := (List.getElem?_eq_some_iff.1 hv).1
        simpa using this
      rw [encP, List.getElem?_append_left (by simpa using hj)]
      exact hv)
    have HR2 : Hid (∀ w', Below A.heap.size A w' → w'.cell? ⟨g, off + k * 33 + 32, none⟩ = some (.slice va bs.length vc)) := fun w' hb => rng_grow hrA hb 32 _ (by
      rw [encP, List.getElem?_append_right (by simp [hK.1])]
      simp [hK.1])
    have HSM : Hid (∀ w', Below A.heap.size A w' → Calls Tryz.prog 32 #[.slice ua bs.length uc, .slice va bs.length vc] w' fun e w'' => e = .returned (.bool true) ∧ w'' = w') := fun w' hb => by
      have := same_any (.slice ua bs.length uc) (.slice va bs.length vc) bs bs w' (ho.reads.grow hb) ((hrd.grow hG.low).grow hb)
      simpa using this
    have HOV : Hid (∀ w', Below A.heap.size A w' → Calls Tryz.prog 50 #[.slice ua bs.length uc] w' fun e w'' => e = .returned (.tuple #[]) ∧ w'.grownBy w'' (Value.slice ua bs.length uc).ownBlock) := fun w' hb => (over_own w.heap.size _ bs sp w' (ho.grow hb)).mono (fun e w'' h => ⟨h.1, h.2.2.1⟩)
    have HUB : Hid (∀ x t cs, Blk A x t cs → (5 : Nat) ≠ t → x ∉ (Value.slice ua bs.length uc).ownBlock.toList) := fun x t cs hb ht hx => by
      obtain ⟨cs', hb'⟩ := ho.blk x (by simpa using hx)
      exact hb'.ne hb ht rfl
    have HUY : Hid (∀ x ∈ (Value.slice ua bs.length uc).ownBlock.toList, ∃ t cs, Blk A x t cs) := fun x hx => by
      obtain ⟨cs', hb'⟩ := ho.blk x (by simpa using hx)
      exact ⟨_, _, hb'⟩
    have HUG : Hid (∀ x ∈ (Value.slice ua bs.length uc).ownBlock.toList, w.heap.size ≤ x) := fun x hx => (ho.lt x (by simpa using hx)).1
    have hE := path_eq K K hK.1 hK.1
    simp only [decide_true] at hE
    have i1 : (k : Int) < (m : Int) := by omega
    have i0 : (0 : Int) ≤ (k : Int) := by omega
    have hmk : decide (m ≤ k) = false := by simpa using hlt
    have hmk2 : ¬ m ≤ k := by omega
    have hwk : wrap64 ((k : Int) + 1) = (k : Int) + 1 := Go.IntWalk.wrap64_in _ (by have := H6.out; omega)
    have HLM := hidden hlt
    clear hex hG hKB ho hrg hrd hrA hK hlt hk
    unfold goFr
    gi_wp2
    refine region_heldIn (.inr ⟨l, rfl⟩) (S := fun w' => Below A.heap.size A w') (by kernel_rfl) (by kernel_rfl) (below_drewN (Below.refl _ _) 1) (fun hHeld => ?_)
    refine wpAnyH_take (i := 0) (v := .int .i64 (k : Int)) rfl (by kernel_rfl) (by kernel_rfl) (by kernel_rfl) (fun _ _ _ h => absurd h.1 (by simp)) (Or.inl ⟨by rfl, fun w hS => by (have q1 := (HC.out _ hS).2.2.2.1; go_simp)⟩) hHeld ?_
    simp only [Act.put, List.getElem_toArray, List.getElem_cons_zero, List.setIfInBounds_toArray, List.set_cons_zero, List.set_cons_succ]
    refine wpAnyH_take (i := 1) (v := .slice (some ⟨g, off, none⟩) m c) rfl (by kernel_rfl) (by kernel_rfl) (by kernel_rfl) (fun _ _ _ h => absurd h.1 (by simp)) (Or.inl ⟨by rfl, fun w hS => by (have q1 := (HC.out _ hS).1; go_simp)⟩) hHeld ?_
    simp only [Act.put, List.getElem_toArray, List.getElem_cons_zero, List.getElem_cons_succ, List.setIfInBounds_toArray, List.set_cons_zero, List.set_cons_succ]
    refine wpAnyH_take (i := 2) (v := .int .i64 (m : Int)) rfl (by kernel_rfl) (by kernel_rfl) (by kernel_rfl) (fun _ _ _ h => absurd h.1 (by simp)) (Or.inl ⟨by rfl, fun w hS => by go_simp⟩) hHeld ?_
    simp only [Act.put, List.getElem_toArray, List.getElem_cons_zero, List.getElem_cons_succ, List.setIfInBounds_toArray, List.set_cons_zero, List.set_cons_succ]
    refine wpAnyH_take (i := 3) (v := .bool false) rfl (by kernel_rfl) (by kernel_rfl) (by kernel_rfl) (fun _ _ _ h => absurd h.1 (by simp)) (Or.inl ⟨by rfl, fun w hS => by go_simp⟩) hHeld ?_
    simp only [Act.put, List.getElem_toArray, List.getElem_cons_zero, List.getElem_cons_succ, List.setIfInBounds_toArray, List.set_cons_zero, List.set_cons_succ]
    refine wpAnyH_take (i := 4) (v := .bool false) rfl (by kernel_rfl) (by kernel_rfl) (by kernel_rfl) (fun _ _ _ h => absurd h.1 (by simp)) (Or.inl ⟨by rfl, fun w hS => by go_simp⟩) hHeld ?_
    simp only [Act.put, List.getElem_toArray, List.getElem_cons_zero, List.getElem_cons_succ, List.setIfInBounds_toArray, List.set_cons_zero, List.set_cons_succ]
    refine wpAnyH_take (i := 5) (v := .agg (B K)) rfl (by kernel_rfl) (by kernel_rfl) (by kernel_rfl) (fun _ _ _ h => absurd h.1 (by simp)) (yieldsIf_load_mid rfl 24 (.tmp 8) rfl bk 0 rfl (B K).toList _ (fun w hS => (HKB.out.grow hS).range) Tryz.underlying24 rfl HKL.out) hHeld ?_
    simp only [Act.put, List.getElem_toArray, List.getElem_cons_zero, List.getElem_cons_succ, List.setIfInBounds_toArray, List.set_cons_zero, List.set_cons_succ]
    refine wpAnyH_take (i := 6) (v := .slice (some ⟨g, off, none⟩) m c) rfl (by kernel_rfl) (by kernel_rfl) (by kernel_rfl) (fun _ _ _ h => absurd h.1 (by simp)) (Or.inl ⟨by rfl, fun w hS => by (have q1 := (HC.out _ hS).1; go_simp)⟩) hHeld ?_
    simp only [Act.put, List.getElem_toArray, List.getElem_cons_zero, List.getElem_cons_succ, List.setIfInBounds_toArray, List.set_cons_zero, List.set_cons_succ]
    refine wpAnyH_take (i := 7) (v := .int .i64 (k : Int)) rfl (by kernel_rfl) (by kernel_rfl) (by kernel_rfl) (fun _ _ _ h => absurd h.1 (by simp)) (Or.inl ⟨by rfl, fun w hS => by (have q1 := (HC.out _ hS).2.2.2.1; go_simp)⟩) hHeld ?_
    simp only [Act.put, List.getElem_toArray, List.getElem_cons_zero, List.getElem_cons_succ, List.setIfInBounds_toArray, List.set_cons_zero, List.set_cons_succ]
    refine wpAnyH_take (i := 8) (v := .pointer (some ⟨g, off + k * 33, none⟩)) rfl (by kernel_rfl) (by kernel_rfl) (by kernel_rfl) (fun _ _ _ h => absurd h.1 (by simp)) (Or.inl ⟨by rfl, fun w hS => by go_simp⟩) hHeld ?_
    simp only [Act.put, List.getElem_toArray, List.getElem_cons_zero, List.getElem_cons_succ, List.setIfInBounds_toArray, List.set_cons_zero, List.set_cons_succ]
    refine wpAnyH_take (i := 9) (v := .pointer (some ⟨g, off + k * 33, none⟩)) rfl (by kernel_rfl) (by kernel_rfl) (by kernel_rfl) (fun _ _ _ h => absurd h.1 (by simp)) (Or.inl ⟨by rfl, fun w hS => by go_simp⟩) hHeld ?_
    simp only [Act.put, List.getElem_toArray, List.getElem_cons_zero, List.getElem_cons_succ, List.setIfInBounds_toArray, List.set_cons_zero, List.set_cons_succ]
    refine wpAnyH_take (i := 10) (v := .agg (B K)) rfl (by kernel_rfl) (by kernel_rfl) (by kernel_rfl) (fun _ _ _ h => absurd h.1 (by simp)) (yieldsIf_load_mid rfl 24 (.tmp 24) rfl g (off + k * 33) rfl (B K).toList _ (fun w hS => HR1.out _ hS) Tryz.underlying24 rfl HKL.out) hHeld ?_
    simp only [Act.put, List.getElem_toArray, List.getElem_cons_zero, List.getElem_cons_succ, List.setIfInBounds_toArray, List.set_cons_zero, List.set_cons_succ]
    refine wpAnyH_take (i := 11) (v := .bool false) rfl (by kernel_rfl) (by kernel_rfl) (by kernel_rfl) (fun _ _ _ h => absurd h.1 (by simp)) (Or.inl ⟨by rfl, fun w hS => by go_simp⟩) hHeld ?_
    simp only [Act.put, List.getElem_toArray, List.getElem_cons_zero, List.getElem_cons_succ, List.setIfInBounds_toArray, List.set_cons_zero, List.set_cons_succ]
    refine wpAnyH_take (i := 12) (v := .bool false) rfl (by kernel_rfl) (by kernel_rfl) (by kernel_rfl) (fun _ _ _ h => absurd h.1 (by simp)) (Or.inl ⟨by rfl, fun w hS => by go_simp⟩) hHeld ?_
    simp only [Act.put, List.getElem_toArray, List.getElem_cons_zero, List.getElem_cons_succ, List.setIfInBounds_toArray, List.set_cons_zero, List.set_cons_succ]
    refine wpAnyH_take (i := 13) (v := .bool false) rfl (by kernel_rfl) (by kernel_rfl) (by kernel_rfl) (fun _ _ _ h => absurd h.1 (by simp)) (Or.inl ⟨by rfl, fun w hS => by go_simp⟩) hHeld ?_
    simp only [Act.put, List.getElem_toArray, List.getElem_cons_zero, List.getElem_cons_succ, List.setIfInBounds_toArray, List.set_cons_zero, List.set_cons_succ]
    refine wpAnyH_take (i := 14) (v := .slice ua bs.length uc) rfl (by kernel_rfl) (by kernel_rfl) (by kernel_rfl) (fun _ _ _ h => absurd h.1 (by simp)) (Or.inl ⟨by rfl, fun w hS => by go_simp⟩) hHeld ?_
    simp only [Act.put, List.getElem_toArray, List.getElem_cons_zero, List.getElem_cons_succ, List.setIfInBounds_toArray, List.set_cons_zero, List.set_cons_succ]
    refine wpAnyH_take (i := 15) (v := .slice (some ⟨g, off, none⟩) m c) rfl (by kernel_rfl) (by kernel_rfl) (by kernel_rfl) (fun _ _ _ h => absurd h.1 (by simp)) (Or.inl ⟨by rfl, fun w hS => by (have q1 := (HC.out _ hS).1; go_simp)⟩) hHeld ?_
    simp only [Act.put, List.getElem_toArray, List.getElem_cons_zero, List.getElem_cons_succ, List.setIfInBounds_toArray, List.set_cons_zero, List.set_cons_succ]
    refine wpAnyH_take (i := 16) (v := .int .i64 (k : Int)) rfl (by kernel_rfl) (by kernel_rfl) (by kernel_rfl) (fun _ _ _ h => absurd h.1 (by simp)) (Or.inl ⟨by rfl, fun w hS => by (have q1 := (HC.out _ hS).2.2.2.1; go_simp)⟩) hHeld ?_
    simp only [Act.put, List.getElem_toArray, List.getElem_cons_zero, List.getElem_cons_succ, List.setIfInBounds_toArray, List.set_cons_zero, List.set_cons_succ]
    refine wpAnyH_take (i := 17) (v := .pointer (some ⟨g, off + k * 33, none⟩)) rfl (by kernel_rfl) (by kernel_rfl) (by kernel_rfl) (fun _ _ _ h => absurd h.1 (by simp)) (Or.inl ⟨by rfl, fun w hS => by go_simp⟩) hHeld ?_
    simp only [Act.put, List.getElem_toArray, List.getElem_cons_zero, List.getElem_cons_succ, List.setIfInBounds_toArray, List.set_cons_zero, List.set_cons_succ]
    refine wpAnyH_take (i := 18) (v := .pointer (some ⟨g, off + k * 33 + 32, none⟩)) rfl (by kernel_rfl) (by kernel_rfl) (by kernel_rfl) (fun _ _ _ h => absurd h.1 (by simp)) (Or.inl ⟨by rfl, fun w hS => by go_simp⟩) hHeld ?_
    simp only [Act.put, List.getElem_toArray, List.getElem_cons_zero, List.getElem_cons_succ, List.setIfInBounds_toArray, List.set_cons_zero, List.set_cons_succ]
    refine wpAnyH_take (i := 19) (v := .slice va bs.length vc) rfl (by kernel_rfl) (by kernel_rfl) (by kernel_rfl) (fun _ _ _ h => absurd h.1 (by simp)) (Or.inl ⟨by rfl, fun w hS => by (have q1 := HR2.out _ hS; go_simp)⟩) hHeld ?_
    simp only [Act.put, List.getElem_toArray, List.getElem_cons_zero, List.getElem_cons_succ, List.setIfInBounds_toArray, List.set_cons_zero, List.set_cons_succ]
    refine wpAnyH_ready (rs := [20]) (by kernel_rfl) (by simp) ?_
    refine AllReadyH.cons rfl (fun KQ hK => ?_) AllReadyH.nil
    go_simp
    refine (HSM.out _ hHeld).mono ?_
    rintro e z ⟨rfl, rfl⟩
    refine hK.out _ _ (hHeld) (fun hHeld => ?_)
    clear hK KQ
    refine wpAnyH_take (i := 21) (v := .bool false) rfl (by kernel_rfl) (by kernel_rfl) (by kernel_rfl) (fun _ _ _ h => absurd h.1 (by simp)) (Or.inl ⟨by rfl, fun w hS => by go_simp⟩) hHeld ?_
    simp only [Act.put, List.getElem_toArray, List.getElem_cons_zero, List.getElem_cons_succ, List.setIfInBounds_toArray, List.set_cons_zero, List.set_cons_succ]
    refine wpAnyH_take (i := 22) (v := .bool false) rfl (by kernel_rfl) (by kernel_rfl) (by kernel_rfl) (fun _ _ _ h => absurd h.1 (by simp)) (Or.inl ⟨by rfl, fun w hS => by go_simp⟩) hHeld ?_
    simp only [Act.put, List.getElem_toArray, List.getElem_cons_zero, List.getElem_cons_succ, List.setIfInBounds_toArray, List.set_cons_zero, List.set_cons_succ]
    refine wpAnyH_done (by kernel_rfl) ?_ _
    refine ⟨rfl, ?_⟩
    have HH := hidden hHeld
    clear hHeld hmk hmk2 i1 i0 hE
    have f50 : Fence.wide.fn 50 := trivial
    have HFin : Hid (∀ w5, A.drew.grownBy w5 (Value.slice ua bs.length uc).ownBlock → Mod (Value.slice ua bs.length uc).ownBlock.toList A w5 ∧ GoI w (.slice (some ⟨g, off, none⟩) m c) stop k w5) := fun w5 hg5 => by
      have m5 : Mod (Value.slice ua bs.length uc).ownBlock.toList A w5 := (Mod.drew _ A).trans' (Mod.of_grown hg5 (fun x hx => by simp [hx]))
      refine ⟨m5, HG.out.low.trans (m5.below HUG.out HG.out.low.size), HG.out.bw.mod m5 (HUB.out _ _ _ HG.out.bw (by decide)), HG.out.bs.mod m5 (HUB.out _ _ _ HG.out.bs (by decide)), HG.out.br.mod m5 (HUB.out _ _ _ HG.out.br (by decide)), HG.out.bn.mod m5 (HUB.out _ _ _ HG.out.bn (by decide))⟩
    have HKP : Hid (∀ w6 S, Mod S A w6 → (∀ x ∈ S, ∃ t cs, Blk A x t cs) → KeepsFrom wA.heap.size A w6) := fun w6 S mS hS => ⟨mS.size, fun x o _ hx ho => by
      rw [mS.block x (Array.getElem?_eq_some_iff.1 hx).1 (fun e => by
        obtain ⟨t, cs, hb⟩ := hS x e
        unfold Blk at hb
        rw [hx] at hb
        injection hb with hb
        rw [hb] at ho
        cases ho)]
      exact hx⟩
    have HUX : Hid (∀ x ∈ (Value.slice ua bs.length uc).ownBlock.toList, ∃ t cs, Blk A x t cs) := fun x hx => HUY.out x hx
    have HG6 : Hid (∀ w5, Mod (Value.slice ua bs.length uc).ownBlock.toList A w5 → GoI w (.slice (some ⟨g, off, none⟩) m c) stop k w5 → Mod ((Value.slice ua bs.length uc).ownBlock.toList ++ [w.heap.size + 1 + 1 + 1]) A (w5.setCell ⟨w.heap.size + 1 + 1 + 1, 0, none⟩ (.int .i64 ((k : Int) + 1))) ∧ GoI w (.slice (some ⟨g, off, none⟩) m c) stop (k + 1) (w5.setCell ⟨w.heap.size + 1 + 1 + 1, 0, none⟩ (.int .i64 ((k : Int) + 1)))) := fun w5 m5 h5 => by
      have m6 : Mod [w.heap.size + 1 + 1 + 1] w5 (w5.setCell ⟨w.heap.size + 1 + 1 + 1, 0, none⟩ (.int .i64 ((k : Int) + 1))) := Mod.setCell _ _ _ _ (by simp)
      refine ⟨(m5.mono (fun x hx => List.mem_append_left _ hx)).trans' (m6.mono (fun x hx => List.mem_append_right _ hx)), h5.low.trans (m6.below (fun x hx => by rw [List.mem_singleton.1 hx]; omega) h5.low.size), h5.bw.mod m6 (by simp; omega), h5.bs.mod m6 (by simp), h5.br.mod m6 (by simp), h5.bn.set 0 _⟩
    have HBX : Hid (∀ x ∈ (Value.slice ua bs.length uc).ownBlock.toList ++ [w.heap.size + 1 + 1 + 1], (∃ t cs, Blk A x t cs) ∧ w.heap.size ≤ x) := fun x hx => by
      rcases List.mem_append.1 hx with hx | hx
      · exact ⟨HUX.out x hx, HUG.out x hx⟩
      · rw [List.mem_singleton.1 hx]
        exact ⟨⟨_, _, HG.out.bn⟩, by omega⟩
    by_cases hst : (k : Int) + 1 = stop
    · subst hst
      gi_wp2_with (first
        | (gi_at_call 50; refine (CallsIn.inRound l (callsIn_wide.2 (HOV.out _ HH.out))).mono ?_; rintro e w5 ⟨rfl, hg5⟩; obtain ⟨m5, hG5⟩ := HFin.out _ hg5; have HM5 := hidden m5; have HG5 := hidden hG5; have c1 : w5.cell? ⟨w.heap.size + 1 + 1 + 1, 0, none⟩ = some (.int .i64 (k : Int)) := (by rw [hG5.bn.cell]; rfl); have c2 : (w5.setCell ⟨w.heap.size + 1 + 1 + 1, 0, none⟩ (.int .i64 ((k : Int) + 1))).cell? ⟨w.heap.size + 1, 0, none⟩ = some (.int .i64 ((k : Int) + 1)) := (by rw [cell_set_ne _ _ _ _ _ _ (by omega), hG5.bs.cell]; rfl); have c3 : (w5.setCell ⟨w.heap.size + 1 + 1 + 1, 0, none⟩ (.int .i64 ((k : Int) + 1))).cell? ⟨w.heap.size + 1 + 1 + 1, 0, none⟩ = some (.int .i64 ((k : Int) + 1)) := World.cell?_setCell_same' _ _ _ (by rw [c1]; rfl); have c4 : (w5.setCell ⟨w.heap.size + 1 + 1 + 1, 0, none⟩ (.int .i64 ((k : Int) + 1))).cell? ⟨w.heap.size + 1 + 1, 0, none⟩ = some (.bool false) := (by rw [cell_set_ne _ _ _ _ _ _ (by omega), hG5.br.cell]; rfl); have z1 : w5.frozen? ⟨w.heap.size + 1 + 1 + 1, 0, none⟩ = false := hG5.bn.frozen 0; have z2 : (w5.setCell ⟨w.heap.size + 1 + 1 + 1, 0, none⟩ (.int .i64 ((k : Int) + 1))).frozen? ⟨w.heap.size + 1 + 1, 0, none⟩ = false := (by rw [World.frozen?_setCell]; exact hG5.br.frozen 0); clear m5 hG5 hg5))
      obtain ⟨m6, h6⟩ := HG6.out w5 HM5.out HG5.out
      generalize w5.setCell ⟨w.heap.size + 1 + 1 + 1, 0, none⟩ (.int .i64 ((k : Int) + 1)) = w6 at m6 h6 ⊢
      have m7 : Mod [w.heap.size + 1 + 1] w6 (w6.setCell ⟨w.heap.size + 1 + 1, 0, none⟩ (.bool true)) := Mod.setCell _ _ _ _ (by simp)
      refine ⟨HKP.out _ ((Value.slice ua bs.length uc).ownBlock.toList ++ [w.heap.size + 1 + 1 + 1] ++ [w.heap.size + 1 + 1]) ((m6.mono (fun x hx => List.mem_append_left _ hx)).trans' (m7.mono (fun x hx => List.mem_append_right _ hx))) (fun x hx => ?_), rfl, h6.br.set 0 _, h6.low.trans (m7.below (fun x hx => by rw [List.mem_singleton.1 hx]; omega) h6.low.size)⟩
      rcases List.mem_append.1 hx with hx | hx
      · exact (HBX.out x hx).1
      · rw [List.mem_singleton.1 hx]
        exact ⟨_, _, HG.out.br⟩
    · have hst' : ((k : Int) + 1 == stop) = false := by simpa using hst
      clear hst
      gi_wp2_with (first
        | (gi_at_call 50; refine (CallsIn.inRound l (callsIn_wide.2 (HOV.out _ HH.out))).mono ?_; rintro e w5 ⟨rfl, hg5⟩; obtain ⟨m5, hG5⟩ := HFin.out _ hg5; have HM5 := hidden m5; have HG5 := hidden hG5; have c1 : w5.cell? ⟨w.heap.size + 1 + 1 + 1, 0, none⟩ = some (.int .i64 (k : Int)) := (by rw [hG5.bn.cell]; rfl); have c2 : (w5.setCell ⟨w.heap.size + 1 + 1 + 1, 0, none⟩ (.int .i64 ((k : Int) + 1))).cell? ⟨w.heap.size + 1, 0, none⟩ = some (.int .i64 stop) := (by rw [cell_set_ne _ _ _ _ _ _ (by omega), hG5.bs.cell]; rfl); have c3 : (w5.setCell ⟨w.heap.size + 1 + 1 + 1, 0, none⟩ (.int .i64 ((k : Int) + 1))).cell? ⟨w.heap.size + 1 + 1 + 1, 0, none⟩ = some (.int .i64 ((k : Int) + 1)) := World.cell?_setCell_same' _ _ _ (by rw [c1]; rfl); have c4 : (w5.setCell ⟨w.heap.size + 1 + 1 + 1, 0, none⟩ (.int .i64 ((k : Int) + 1))).cell? ⟨w.heap.size + 1 + 1, 0, none⟩ = some (.bool false) := (by rw [cell_set_ne _ _ _ _ _ _ (by omega), hG5.br.cell]; rfl); have z1 : w5.frozen? ⟨w.heap.size + 1 + 1 + 1, 0, none⟩ = false := hG5.bn.frozen 0; have z2 : (w5.setCell ⟨w.heap.size + 1 + 1 + 1, 0, none⟩ (.int .i64 ((k : Int) + 1))).frozen? ⟨w.heap.size + 1 + 1, 0, none⟩ = false := (by rw [World.frozen?_setCell]; exact hG5.br.frozen 0); clear m5 hG5 hg5))
      obtain ⟨m6, h6⟩ := HG6.out w5 HM5.out HG5.out
      generalize w5.setCell ⟨w.heap.size + 1 + 1 + 1, 0, none⟩ (.int .i64 ((k : Int) + 1)) = w6 at m6 h6 ⊢
      refine ⟨HKP.out _ _ m6 (fun x hx => (HBX.out x hx).1), m6.below (fun x hx => (HBX.out x hx).2) HG.out.low.size, ?_, ?_⟩
      · rw [List.length_append, List.length_singleton, ← HKE.out]
        exact h6
      · rw [List.length_append, List.length_singleton, ← HKE.out]
        exact HLM.out
  case done =>
    clear hsA hA0
    rintro D xs W hD hxs ⟨hG, _⟩ hK
    have hl : xs.length = m := by rw [HM.out, ← hxs, List.length_map]
    rw [hl] at hG
    have c1 : W.cell? ⟨w.heap.size + 1 + 1 + 1, 0, none⟩ = some (.int .i64 (m : Int)) := by rw [hG.bn.cell]; rfl
    have c2 : W.cell? ⟨w.heap.size, 0, none⟩ = some (.slice a m c) := by rw [hG.bw.cell]; rfl
    have c3 : W.cell? ⟨w.heap.size + 1 + 1, 0, none⟩ = some (.bool false) := by rw [hG.br.cell]; rfl
    have z3 : W.frozen? ⟨w.heap.size + 1 + 1, 0, none⟩ = false := hG.br.frozen 0
    have hB := hG.low
    have hszA := hlA.size
    clear hl hxs hG
    gi_wp2
    have hK' := (KeepsOthers.setCell W ⟨w.heap.size + 1 + 1, 0, none⟩ (.bool true)).same D _ hK rfl
    refine ⟨by simp, .inl ⟨_, _, rfl, run_takeDeferred hK', ?_⟩⟩
    have hc5 := cell_kept (World.cell?_setCell_same' W ⟨w.heap.size + 1 + 1, 0, none⟩ (.bool true) (by rw [c3]; rfl)) (grownBy_putObj' _ D (.deferred none)) (fun r e => by cases e; exact ⟨_, hK', rfl⟩)
    refine ⟨.bool true, ?_, rfl, (setCell_below (w := W) (g := w.heap.size + 1 + 1) 0 (.bool true) hB (by omega)).trans (belowK_b (w := w) (Nat.le_refl _) _ D _ _ (by omega) hK' rfl rfl)⟩
    simp [results, Tryz.f22, go_sem, hc5]
  case stop =>
    clear hsA hA0
    rintro D cc pre W hD _ ⟨rfl, hbr, hB⟩ hK
    have hx : W.cell? ⟨w.heap.size + 1 + 1, 0, none⟩ = some (.bool true) := by rw [hbr.cell]; rfl
    have hszA := hlA.size
    clear hbr
    gi_wp2
    refine ⟨by simp, .inl ⟨_, _, rfl, run_takeDeferred hK, ?_⟩⟩
    have hc5 := cell_kept hx (grownBy_putObj' _ D (.deferred none)) (fun r e => by cases e; exact ⟨_, hK, rfl⟩)
    refine ⟨.bool true, ?_, rfl, hB.trans (belowK_b (w := w) (Nat.le_refl _) W D _ _ (by omega) hK rfl rfl)⟩
    simp [results, Tryz.f22, go_sem, hc5]

end Go.Proofs.YtgfdgjkbcdmboabGreatDoor

/- list.Nth, Some, Between, as contracts. -/
namespace Go.Proofs.YtgfdgjkbcdmboabGreatDoor
set_option maxRecDepth 20000
open Go.RowKit

theorem built_p0 : Tryz.prog.built 66 [] = some (encP z32 (.slice none 0 0)).toArray := by kernel_rfl
theorem encP_sz {K : List Int} {u : Value} (hK : K.length = 32) : (Tryz.prog.info? 66).map (·.size) = some (encP K u).toArray.size ∧ (encP z32 (.slice none 0 0)).toArray.size = (encP K u).toArray.size := by
  rw [List.size_toArray, List.size_toArray, encP_length K u hK, encP_length z32 _ z32_length]
  exact ⟨size_pair, rfl⟩

/-- What Nth answers with an error. -/
def NthNo (w : World) (e0 : Int) (e : Ending) (w' : World) : Prop := e = .returned (.tuple #[.agg (encP z32 (.slice none 0 0)).toArray, .int .i64 e0]) ∧ Below w.heap.size w w'

set_option maxHeartbeats 1000000 in
theorem nth_bad {w : World} {v : Value} {mk : Bool} {ct : Int → Nat} {ca : Int → Ce} (V : Vw w v mk ct ca) (h n : Int) (e0 : Int) (he : vRt mk (ct h) (ca h) h = e0) (h0 : e0 ≠ 0) : Calls Tryz.prog 25 #[v, .int .i64 h, .int .i64 n] w (NthNo w e0) := by
  have HRT : Hid (∀ w', Below w.heap.size w w' → Calls Tryz.prog 56 #[v, .int .i64 h] w' fun e w'' => e = .returned (.int .i64 e0) ∧ Below w'.heap.size w' w'') := fun w' hb => by
    have := root_any (V.grow hb) h
    rwa [he] at this
  have hb0 : (e0 == 0) = false := by simp [h0]
  have HB := hidden built_p0
  have HSz := hidden (encP_sz (K := z32) (u := .slice none 0 0) z32_length)
  obtain ⟨fp, hup⟩ := u_pair
  have HUP := hidden hup
  clear V he hup
  go_enter Tryz.func25, Tryz.ntmps25
  go_wp2_with (first
    | ((with_reducible refine at_ald 6 ?_); refine wpList_al _ rfl _ rfl _ zero_pair ?_; intro w2 g6 hg6 hl6 B6 b2; have HB6 := hidden B6; have HQ6 := hidden b2; have HG6 := hidden hg6; clear B6 hg6 hl6 b2)
    | (go_at_call 56; refine (HRT.out _ HQ6.out).mono ?_; rintro e w3 ⟨rfl, b3⟩; have HB63 := hidden (HB6.out.grow b3); have HQ3 := hidden (grow_trans HQ6.out b3); clear b3)
    | ((with_reducible refine at_bd ?_); refine wpList_bld _ rfl _ _ rfl _ (by rw [List.map_toArray]; exact HB.out) ?_)
    | ((with_reducible refine at_st 6 ?_); refine wpList_sto _ rfl _ _ _ rfl g6 _ (encP z32 (.slice none 0 0)).toArray rfl rfl HB63.out HSz.out.1 rfl (encP_one _ _ _ _) ?_; intro w4 B9 r9))
  exact bodyPost_ret (v := .tuple #[.agg (encP z32 (.slice none 0 0)).toArray, .int .i64 e0]) (results_agg_tmp rfl _ _ g6 _ _ rfl rfl B9 HUP.out HSz.out.1) rfl ⟨rfl, below_row HQ3.out r9 HG6.out⟩

set_option maxHeartbeats 1000000 in
theorem nth_arg {w : World} {pt : Option Addr} {cs : List (Nat × Ce)} {h : Nat} {T : Tre} (r : LiR w pt cs h T) (n : Int) (hn : n < 0) : Calls Tryz.prog 25 #[.pointer pt, .int .i64 (h : Int), .int .i64 n] w (NthNo w 2) := by
  have HRT : Hid (∀ w', Below w.heap.size w w' → Calls Tryz.prog 56 #[.pointer pt, .int .i64 (h : Int)] w' fun e w'' => e = .returned (.int .i64 0) ∧ Below w'.heap.size w' w'') := fun w' hb => (r.grow hb).root
  have HB := hidden built_p0
  have HSz := hidden (encP_sz (K := z32) (u := .slice none 0 0) z32_length)
  obtain ⟨fp, hup⟩ := u_pair
  have HUP := hidden hup
  clear r hup
  go_enter Tryz.func25, Tryz.ntmps25
  go_wp2_with (first
    | ((with_reducible refine at_ald 6 ?_); refine wpList_al _ rfl _ rfl _ zero_pair ?_; intro w2 g6 hg6 hl6 B6 b2; have HB6 := hidden B6; have HQ6 := hidden b2; have HG6 := hidden hg6; clear B6 hg6 hl6 b2)
    | (go_at_call 56; refine (HRT.out _ HQ6.out).mono ?_; rintro e w3 ⟨rfl, b3⟩; have HB63 := hidden (HB6.out.grow b3); have HQ3 := hidden (grow_trans HQ6.out b3); clear b3)
    | ((with_reducible refine at_bd ?_); refine wpList_bld _ rfl _ _ rfl _ (by rw [List.map_toArray]; exact HB.out) ?_)
    | ((with_reducible refine at_st 6 ?_); refine wpList_sto _ rfl _ _ _ rfl g6 _ (encP z32 (.slice none 0 0)).toArray rfl rfl HB63.out HSz.out.1 rfl (encP_one _ _ _ _) ?_; intro w4 B9 r9))
  exact bodyPost_ret (v := .tuple #[.agg (encP z32 (.slice none 0 0)).toArray, .int .i64 2]) (results_agg_tmp rfl _ _ g6 _ _ rfl rfl B9 HUP.out HSz.out.1) rfl ⟨rfl, below_row HQ3.out r9 HG6.out⟩

set_option maxHeartbeats 1000000 in
theorem nth_none {w : World} {pt : Option Addr} {cs : List (Nat × Ce)} {h : Nat} {T : Tre} (r : LiR w pt cs h T) (n : Nat) (hn : T.ents.length ≤ n) (hn2 : n < 9223372036854775808) : Calls Tryz.prog 25 #[.pointer pt, .int .i64 (h : Int), .int .i64 (n : Int)] w (NthNo w 7) := by
  have HRT : Hid (∀ w', Below w.heap.size w w' → Calls Tryz.prog 56 #[.pointer pt, .int .i64 (h : Int)] w' fun e w'' => e = .returned (.int .i64 0) ∧ Below w'.heap.size w' w'') := fun w' hb => (r.grow hb).root
  have HEN : Hid (∀ w', Below w.heap.size w w' → Calls Tryz.prog 48 #[.pointer pt, .int .i64 (h : Int), .int .i64 (n : Int), .int .i64 1] w' fun e w'' => ∃ a c, e = .returned (.slice a 0 c) ∧ Below w'.heap.size w' w'') := fun w' hb => ((r.grow hb).entries n 1 hn2).mono (fun e w'' hp => by
    rw [List.drop_eq_nil_of_le hn] at hp
    obtain ⟨lv, its, rfl, hp'⟩ := id hp
    obtain ⟨a, c, V, rfl, _, b⟩ := enPost_ov hp
    exact ⟨a, c, rfl, b⟩)
  have hn0 : ¬ (n : Int) < 0 := by omega
  have HB := hidden built_p0
  have HSz := hidden (encP_sz (K := z32) (u := .slice none 0 0) z32_length)
  obtain ⟨fp, hup⟩ := u_pair
  have HUP := hidden hup
  clear r hup hn hn2
  go_enter Tryz.func25, Tryz.ntmps25
  go_wp2_with (first
    | ((with_reducible refine at_ald 6 ?_); refine wpList_al _ rfl _ rfl _ zero_pair ?_; intro w2 g6 hg6 hl6 B6 b2; have HB6 := hidden B6; have HQ6 := hidden b2; have HG6 := hidden hg6; clear B6 hg6 hl6 b2)
    | (go_at_call 56; refine (HRT.out _ HQ6.out).mono ?_; rintro e w3 ⟨rfl, b3⟩; have HB63 := hidden (HB6.out.grow b3); have HQ3 := hidden (grow_trans HQ6.out b3); clear b3)
    | (go_at_call 48; refine (HEN.out _ HQ3.out).mono ?_; rintro e w5 ⟨la, lc, rfl, b5⟩; have HB65 := hidden (HB63.out.grow b5); have HQ5 := hidden (grow_trans HQ3.out b5); clear b5)
    | ((with_reducible refine at_bd ?_); refine wpList_bld _ rfl _ _ rfl _ (by rw [List.map_toArray]; exact HB.out) ?_)
    | ((with_reducible refine at_st 6 ?_); refine wpList_sto _ rfl _ _ _ rfl g6 _ (encP z32 (.slice none 0 0)).toArray rfl rfl HB65.out HSz.out.1 rfl (encP_one _ _ _ _) ?_; intro w4 B9 r9))
  exact bodyPost_ret (v := .tuple #[.agg (encP z32 (.slice none 0 0)).toArray, .int .i64 7]) (results_agg_tmp rfl _ _ g6 _ _ rfl rfl B9 HUP.out HSz.out.1) rfl ⟨rfl, below_row HQ5.out r9 HG6.out⟩

set_option maxHeartbeats 1000000 in
theorem nth_any {w : World} {pt : Option Addr} {cs : List (Nat × Ce)} {h : Nat} {T : Tre} (r : LiR w pt cs h T) (n : Nat) (K bs : List Int) (hn : T.ents[n]? = some (K, bs)) : Calls Tryz.prog 25 #[.pointer pt, .int .i64 (h : Int), .int .i64 (n : Int)] w fun e w' => ∃ a c, e = .returned (.tuple #[.agg (encP K (.slice a bs.length c)).toArray, .int .i64 0]) ∧ Reads w' (.slice a bs.length c) bs ∧ Below w.heap.size w w' := by
  have HRT : Hid (∀ w', Below w.heap.size w w' → Calls Tryz.prog 56 #[.pointer pt, .int .i64 (h : Int)] w' fun e w'' => e = .returned (.int .i64 0) ∧ Below w'.heap.size w' w'') := fun w' hb => (r.grow hb).root
  have hnl : n < T.ents.length := (List.getElem?_eq_some_iff.1 hn).1
  have hK : Key K := by
    obtain ⟨_, W⟩ := r.wf
    exact ((tree_ok W T h r.tre).ent (K, bs) (List.mem_of_getElem? hn)).1
  have HEN : Hid (∀ w', Below w.heap.size w w' → Calls Tryz.prog 48 #[.pointer pt, .int .i64 (h : Int), .int .i64 (n : Int), .int .i64 1] w' fun e w'' => ∃ lg lo lc ua uc, e = .returned (.slice (some ⟨lg, lo, none⟩) 1 lc) ∧ w''.rangeAt lg lo (encP K (.slice ua bs.length uc)) ∧ (∃ sp, Own w'.heap.size w'' (.slice ua bs.length uc) bs sp) ∧ Below w'.heap.size w' w'') := fun w' hb => ((r.grow hb).entries n 1 (by have := r.few; omega)).mono (fun e w'' hp => by
    have e1 : (T.ents.drop n).take 1 = [(K, bs)] := by
      rw [List.drop_eq_getElem_cons hnl]
      simp only [List.take_succ_cons, List.take_zero]
      rw [List.getElem?_eq_getElem hnl] at hn
      injection hn with hn
      rw [hn]
    rw [e1] at hp
    obtain ⟨lv, its, rfl, q1, q2, q3, _, b⟩ := hp
    obtain ⟨p, rfl⟩ : ∃ p, its = [p] := by
      cases its with
      | nil => simp at q1
      | cons p its =>
        cases its with
        | nil => exact ⟨p, rfl⟩
        | cons q r => simp at q1
    obtain ⟨p1, u⟩ := p
    obtain rfl : p1 = (K, bs) := by simpa using q1
    obtain ⟨_, sp, ho⟩ := q3 ((K, bs), u) (by simp)
    dsimp only at ho
    have hp := prAt_own q2 (fun p hp => (q3 p hp).1) (fun p hp => by obtain ⟨_, sp, ho⟩ := q3 p hp; exact ho.reads)
    obtain ⟨a', c', e2, _, h2, _⟩ := hp
    subst e2
    obtain ⟨g, off, rfl, hr⟩ := h2 (by simp)
    have h4 := hr 0 (by simp)
    simp only [List.map_cons, List.map_nil, List.getD_cons_zero, Nat.zero_mul, Nat.add_zero] at h4
    obtain ⟨ua, uc, rfl⟩ := ho.slice
    exact ⟨g, off, c', ua, uc, rfl, h4, ⟨sp, ho⟩, b⟩)
  have hn0 : ¬ (n : Int) < 0 := by omega
  have HSz : Hid (∀ u, (Tryz.prog.info? 66).map (·.size) = some (encP K u).toArray.size ∧ (encP z32 (.slice none 0 0)).toArray.size = (encP K u).toArray.size) := fun u => encP_sz hK.1
  have HS3 : Hid (∀ u, (Tryz.prog.info? 66).map (·.size) = some (encP K u).length) := fun u => by
    show _ = _
    rw [encP_length K u hK.1]
    exact size_pair
  obtain ⟨fp, hup⟩ := u_pair
  have HUP := hidden hup
  clear r hup hn hnl hK
  go_enter Tryz.func25, Tryz.ntmps25
  go_wp2_with (first
    | ((with_reducible refine at_ald 6 ?_); refine wpList_al _ rfl _ rfl _ zero_pair ?_; intro w2 g6 hg6 hl6 B6 b2; have HB6 := hidden B6; have HQ6 := hidden b2; have HG6 := hidden hg6; clear B6 hg6 hl6 b2)
    | (go_at_call 56; refine (HRT.out _ HQ6.out).mono ?_; rintro e w3 ⟨rfl, b3⟩; have HB63 := hidden (HB6.out.grow b3); have HQ3 := hidden (grow_trans HQ6.out b3); clear b3)
    | (go_at_call 48; refine (HEN.out _ HQ3.out).mono ?_; rintro e w5 ⟨lg, lo, lc, ua, uc, rfl, hrg, hrd, b5⟩; have HRG := hidden hrg; have HRD := hidden hrd; have HB65 := hidden (HB63.out.grow b5); have HQ5 := hidden (grow_trans HQ3.out b5); clear b5 hrg hrd)
    | ((with_reducible refine at_ldd 30 29 ?_); refine wpList_load_mid rfl 66 (.tmp 29) rfl lg lo rfl (encP K (.slice ua bs.length uc)) _ HRG.out HUP.out rfl (HS3.out _) ?_)
    | ((with_reducible refine at_st 6 ?_); refine wpList_sto _ rfl _ _ _ rfl g6 _ (encP K (.slice ua bs.length uc)).toArray rfl rfl HB65.out (HSz.out _).1 (HSz.out _).2 (encP_one _ _ _ _) ?_; intro w4 B9 r9))
  refine bodyPost_ret (v := .tuple #[.agg (encP K (.slice ua bs.length uc)).toArray, .int .i64 0]) (results_agg_tmp rfl _ _ g6 _ _ rfl rfl B9 HUP.out (HSz.out _).1) rfl ⟨ua, uc, rfl, ?_, below_row HQ5.out r9 HG6.out⟩
  obtain ⟨sp, ho⟩ := HRD.out
  have h6 := HB63.out.lt
  refine (ho.of_block (fun x hx => r9.block x (ho.lt x hx).2 (fun e => ?_))).reads
  have := (ho.lt x hx).1
  injection e with e
  omega

/-- What Some answers. -/
def SoPost (w : World) (es : List Ent) (e : Ending) (w' : World) : Prop := ∃ (lv : Value), e = .returned (.tuple #[lv, .int .i64 0]) ∧ EnPost w es (.returned lv) w'

set_option maxHeartbeats 1000000 in
theorem some_bad {w : World} {v : Value} {mk : Bool} {ct : Int → Nat} {ca : Int → Ce} (V : Vw w v mk ct ca) (h : Int) (K : List Int) (hK : Key K) (most : Int) (e0 : Int) (he : vRt mk (ct h) (ca h) h = e0) (h0 : e0 ≠ 0) : Calls Tryz.prog 16 #[v, .int .i64 h, .agg (B K), .int .i64 most] w fun e w' => e = .returned (.tuple #[.slice none 0 0, .int .i64 e0]) ∧ Below w.heap.size w w' := by
  have HRK : Hid (∀ w', Below w.heap.size w w' → Calls Tryz.prog 24 #[v, .int .i64 h, .agg (B K)] w' fun e w'' => e = .returned (.tuple #[.int .i64 0, .int .i64 e0]) ∧ Below w'.heap.size w' w'') := fun w' hb => rank_bad (V.grow hb) h K e0 he h0
  have HPS := hidden (keyB_size hK)
  have hb0 : (e0 == 0) = false := by simp [h0]
  clear V hK he
  go_enter Tryz.func16, Tryz.ntmps16
  go_wp2_with (first
    | ((with_reducible refine at_bxd 6 ?_); refine wpList_bx _ rfl _ _ rfl _ rfl ?_; intro w1 b5 hg5 hl5 B5 q5; have HB5 := hidden B5; have HQ5 := hidden q5; clear hg5 hl5 B5 q5)
    | ((with_reducible refine at_ldd 15 6 ?_); refine wpList_ld _ rfl _ _ rfl b5 _ rfl HB5.out _ _ Tryz.underlying24 HPS.out ?_)
    | (go_at_call 24; refine (HRK.out _ HQ5.out).mono ?_; rintro e w2 ⟨rfl, b2⟩; have HQ2 := hidden (grow_trans HQ5.out b2); clear b2))
  go_ret2
  exact ⟨rfl, HQ2.out⟩

set_option maxHeartbeats 1000000 in
theorem some_arg {w : World} {pt : Option Addr} {cs : List (Nat × Ce)} {h : Nat} {T : Tre} (r : LiR w pt cs h T) (K : List Int) (hK : Key K) (most : Int) (hm : most < 0 ∨ 256 < most) : Calls Tryz.prog 16 #[.pointer pt, .int .i64 (h : Int), .agg (B K), .int .i64 most] w fun e w' => e = .returned (.tuple #[.slice none 0 0, .int .i64 2]) ∧ Below w.heap.size w w' := by
  have HRK : Hid (∀ w', Below w.heap.size w w' → Calls Tryz.prog 24 #[.pointer pt, .int .i64 (h : Int), .agg (B K)] w' fun e w'' => e = .returned (.tuple #[.int .i64 (T.rk K : Int), .int .i64 0]) ∧ Below w'.heap.size w' w'') := fun w' hb => (r.grow hb).rank K hK
  have HPS := hidden (keyB_size hK)
  clear r hK
  rcases hm with hm | hm
  · have d1 : decide (most < 0) = true := by simpa using hm
    go_enter Tryz.func16, Tryz.ntmps16
    go_wp2_with (first
      | ((with_reducible refine at_bxd 6 ?_); refine wpList_bx _ rfl _ _ rfl _ rfl ?_; intro w1 b5 hg5 hl5 B5 q5; have HB5 := hidden B5; have HQ5 := hidden q5; clear hg5 hl5 B5 q5)
      | ((with_reducible refine at_ldd 15 6 ?_); refine wpList_ld _ rfl _ _ rfl b5 _ rfl HB5.out _ _ Tryz.underlying24 HPS.out ?_)
      | (go_at_call 24; refine (HRK.out _ HQ5.out).mono ?_; rintro e w2 ⟨rfl, b2⟩; have HQ2 := hidden (grow_trans HQ5.out b2); clear b2))
    go_ret2
    exact ⟨rfl, HQ2.out⟩
  · have d1 : ¬ most < 0 := by omega
    have d2 : decide (256 < most) = true := by simpa using hm
    go_enter Tryz.func16, Tryz.ntmps16
    go_wp2_with (first
      | ((with_reducible refine at_bxd 6 ?_); refine wpList_bx _ rfl _ _ rfl _ rfl ?_; intro w1 b5 hg5 hl5 B5 q5; have HB5 := hidden B5; have HQ5 := hidden q5; clear hg5 hl5 B5 q5)
      | ((with_reducible refine at_ldd 15 6 ?_); refine wpList_ld _ rfl _ _ rfl b5 _ rfl HB5.out _ _ Tryz.underlying24 HPS.out ?_)
      | (go_at_call 24; refine (HRK.out _ HQ5.out).mono ?_; rintro e w2 ⟨rfl, b2⟩; have HQ2 := hidden (grow_trans HQ5.out b2); clear b2))
    go_ret2
    exact ⟨rfl, HQ2.out⟩

set_option maxHeartbeats 1000000 in
theorem some_any {w : World} {pt : Option Addr} {cs : List (Nat × Ce)} {h : Nat} {T : Tre} (r : LiR w pt cs h T) (K : List Int) (hK : Key K) (most : Nat) (hm : most ≤ 256) : Calls Tryz.prog 16 #[.pointer pt, .int .i64 (h : Int), .agg (B K), .int .i64 (most : Int)] w fun e w' => ∃ w0, w.heap.size ≤ w0.heap.size ∧ Below w.heap.size w w' ∧ SoPost w0 ((T.ents.drop (T.rk K)).take most) e w' := by
  have HRK : Hid (∀ w', Below w.heap.size w w' → Calls Tryz.prog 24 #[.pointer pt, .int .i64 (h : Int), .agg (B K)] w' fun e w'' => e = .returned (.tuple #[.int .i64 (T.rk K : Int), .int .i64 0]) ∧ Below w'.heap.size w' w'') := fun w' hb => (r.grow hb).rank K hK
  have HEN : Hid (∀ w', Below w.heap.size w w' → Calls Tryz.prog 48 #[.pointer pt, .int .i64 (h : Int), .int .i64 (T.rk K : Int), .int .i64 (most : Int)] w' (EnPost w' ((T.ents.drop (T.rk K)).take most))) := fun w' hb => by
    have h1 := r.rkd K hK
    have h2 := ahd_le K T.ents
    have h3 := r.few
    exact (r.grow hb).entries (T.rk K) most (by omega)
  have HPS := hidden (keyB_size hK)
  have d1 : ¬ (most : Int) < 0 := by omega
  have d2 : ¬ 256 < (most : Int) := by omega
  clear r hK hm
  generalize (T.ents.drop (T.rk K)).take most = es at *
  generalize (T.rk K : Int) = rk at *
  generalize (most : Int) = mo at *
  go_enter Tryz.func16, Tryz.ntmps16
  go_wp2_with (first
    | ((with_reducible refine at_bxd 6 ?_); refine wpList_bx _ rfl _ _ rfl _ rfl ?_; intro w1 b5 hg5 hl5 B5 q5; have HB5 := hidden B5; have HQ5 := hidden q5; clear hg5 hl5 B5 q5)
    | ((with_reducible refine at_ldd 15 6 ?_); refine wpList_ld _ rfl _ _ rfl b5 _ rfl HB5.out _ _ Tryz.underlying24 HPS.out ?_)
    | (go_at_call 24; refine (HRK.out _ HQ5.out).mono ?_; rintro e w2 ⟨rfl, b2⟩; have HQ2 := hidden (grow_trans HQ5.out b2); clear b2)
    | (go_at_call 48; refine (HEN.out _ HQ2.out).mono ?_; rintro e w4 hp; obtain ⟨lv, its, rfl, hp'⟩ := id hp; have HQ4 := hidden (grow_trans HQ2.out hp'.2.2.2.2); have HP := hidden hp; clear hp' hp))
  go_ret2
  exact ⟨w2, HQ2.out.size, HQ4.out, _, rfl, HP.out⟩

/-- How many of a list are not behind a key. -/
def upt (K : List Int) (l : List Ent) : Nat := (l.filter fun e => decide (cmp e.1 K ≤ 0)).length

theorem upt_next {K K2 : List Int} (hK : Key K) (hN : IsNext K K2) (l : List Ent) (hk : ∀ e ∈ l, Key e.1) : ahd K2 l = upt K l := by
  unfold ahd upt
  congr 1
  refine List.filter_congr (fun e he => ?_)
  have h1 := hk e he
  rw [decide_eq_decide, cmp_lt h1 hN.1, cmp_le h1 hK]
  constructor
  · intro ha hb
    exact hN.least hb ha
  · intro hn
    rcases cmp_key h1 hK with ⟨_, e1⟩ | ⟨_, e1⟩ | ⟨_, e1⟩
    · rw [e1]
      exact hN.behind
    · exact e1.trans hN.behind
    · exact absurd e1 hn
theorem upt_last {K : List Int} (hK : Key K) (hL : IsLast K) (l : List Ent) (hk : ∀ e ∈ l, Key e.1) : l.length = upt K l := by
  unfold upt
  rw [List.filter_eq_self.2 (fun e he => by
    rw [decide_eq_true_iff, cmp_le (hk e he) hK]
    exact hL.none)]

set_option maxHeartbeats 1000000 in
theorem upTo_any {w : World} {pt : Option Addr} {cs : List (Nat × Ce)} {h : Nat} {T : Tre} (r : LiR w pt cs h T) (K : List Int) (hK : Key K) : Calls Tryz.prog 62 #[.pointer pt, .int .i64 (h : Int), .agg (B K)] w fun e w' => e = .returned (.int .i64 (upt K T.ents : Int)) ∧ Below w.heap.size w w' := by
  have hks : ∀ e ∈ T.ents, Key e.1 := fun e he => by
    obtain ⟨_, W⟩ := r.wf
    exact ((tree_ok W T h r.tre).ent e he).1
  have HNX : Hid (∀ w', Calls Tryz.prog 35 #[.agg (B K)] w' (NextPost K w')) := fun w' => next_any K w' hK
  have HRK : Hid (∀ K2, IsNext K K2 → ∀ w', Below w.heap.size w w' → Calls Tryz.prog 24 #[.pointer pt, .int .i64 (h : Int), .agg (B K2)] w' fun e w'' => e = .returned (.tuple #[.int .i64 (upt K T.ents : Int), .int .i64 0]) ∧ Below w'.heap.size w' w'') := fun K2 hN w' hb => by
    have := (r.grow hb).rank K2 hN.1
    rwa [r.rkd K2 hN.1, upt_next hK hN _ hks] at this
  have HSZ : Hid (IsLast K → ∀ w', Below w.heap.size w w' → Calls Tryz.prog 49 #[.pointer pt, .int .i64 (h : Int)] w' fun e w'' => e = .returned (.int .i64 (upt K T.ents : Int)) ∧ Below w'.heap.size w' w'') := fun hL w' hb => by
    have := (r.grow hb).size
    rwa [upt_last hK hL _ hks] at this
  have HPS := hidden (keyB_size hK)
  clear r hK hks
  generalize (upt K T.ents : Int) = up at *
  by_cases hL : IsLast K
  · go_enter Tryz.func62, Tryz.ntmps62
    go_wp2_with (first
      | ((with_reducible refine at_bxd 5 ?_); refine wpList_bx _ rfl _ _ rfl _ rfl ?_; intro w1 b5 hg5 hl5 B5 q5; have HB5 := hidden B5; have HQ5 := hidden q5; clear hg5 hl5 B5 q5)
      | ((with_reducible refine at_ldd 12 5 ?_); refine wpList_ld _ rfl _ _ rfl b5 _ rfl HB5.out _ _ Tryz.underlying24 HPS.out ?_)
      | (go_at_call 35; refine (HNX.out _).mono ?_; rintro e w2 ⟨ys, bb, hor, rfl, b2⟩; obtain ⟨rfl, hlast, rfl⟩ : bb = false ∧ IsLast K ∧ ys = List.replicate 32 0 := (hor.resolve_left (fun h => h.2.not_last hL)); have HYK : Hid (Key (List.replicate 32 (0 : Int))) := key_zero; have HYS : Hid ((Tryz.prog.info? 24).map (·.size) = some (B (List.replicate 32 0)).size ∧ (B (List.replicate 32 0)).size = (B (List.replicate 32 0)).size) := ⟨keyB_size HYK.out, rfl⟩; have HQ2 := hidden (grow_trans HQ5.out b2); clear b2 hor hlast)
      | ((with_reducible refine at_ald 7 ?_); refine wpList_al _ rfl _ rfl _ zero_path ?_; intro w3 g7 hg7 hl7 B7 b3; have HB7 := hidden B7; have HG7 : Hid (w.heap.size ≤ g7) := Nat.le_trans HQ2.out.size hg7; have HQ3 := hidden (grow_trans HQ2.out b3); clear B7 hg7 hl7 b3)
      | ((with_reducible refine at_st 7 ?_); refine wpList_sto _ rfl _ _ _ rfl g7 _ (B (List.replicate 32 0)) rfl rfl HB7.out HYS.out.1 rfl (B_one _) ?_; intro w4 B9 r9; have HB9 := hidden B9; have HQ4 := hidden (below_row HQ3.out r9 HG7.out); clear B9 r9)
      | (go_at_call 49; refine (HSZ.out hL _ HQ4.out).mono ?_; rintro e w6 ⟨rfl, b6⟩; have HQ6 := hidden (grow_trans HQ4.out b6); clear b6))
    go_ret
    exact ⟨rfl, HQ6.out⟩
  · go_enter Tryz.func62, Tryz.ntmps62
    go_wp2_with (first
      | ((with_reducible refine at_bxd 5 ?_); refine wpList_bx _ rfl _ _ rfl _ rfl ?_; intro w1 b5 hg5 hl5 B5 q5; have HB5 := hidden B5; have HQ5 := hidden q5; clear hg5 hl5 B5 q5)
      | ((with_reducible refine at_ldd 12 5 ?_); refine wpList_ld _ rfl _ _ rfl b5 _ rfl HB5.out _ _ Tryz.underlying24 HPS.out ?_)
      | (go_at_call 35; refine (HNX.out _).mono ?_; rintro e w2 ⟨ys, bb, hor, rfl, b2⟩; obtain ⟨rfl, hN⟩ : bb = true ∧ IsNext K ys := (hor.resolve_right (fun h => hL h.2.1)); have HN := hidden hN; have HYK : Hid (Key ys) := hN.1; have HYS : Hid ((Tryz.prog.info? 24).map (·.size) = some (B ys).size ∧ (B (List.replicate 32 0)).size = (B ys).size) := ⟨keyB_size HYK.out, by rw [B_size, B_size, HYK.out.1]; rfl⟩; clear hor hN; have HQ2 := hidden (grow_trans HQ5.out b2); clear b2)
      | ((with_reducible refine at_ald 7 ?_); refine wpList_al _ rfl _ rfl _ zero_path ?_; intro w3 g7 hg7 hl7 B7 b3; have HB7 := hidden B7; have HG7 : Hid (w.heap.size ≤ g7) := Nat.le_trans HQ2.out.size hg7; have HQ3 := hidden (grow_trans HQ2.out b3); clear B7 hg7 hl7 b3)
      | ((with_reducible refine at_st 7 ?_); refine wpList_sto _ rfl _ _ _ rfl g7 _ (B ys) rfl rfl HB7.out HYS.out.1 HYS.out.2 (B_one _) ?_; intro w4 B9 r9; have HB9 := hidden B9; have HQ4 := hidden (below_row HQ3.out r9 HG7.out); clear B9 r9)
      | ((with_reducible refine at_ldd 24 7 ?_); refine wpList_ld _ rfl _ _ rfl g7 _ rfl HB9.out _ _ Tryz.underlying24 HYS.out.1 ?_)
      | (go_at_call 24; refine (HRK.out _ HN.out _ HQ4.out).mono ?_; rintro e w6 ⟨rfl, b6⟩; have HQ6 := hidden (grow_trans HQ4.out b6); clear b6))
    go_ret
    exact ⟨rfl, HQ6.out⟩

/-- How many stand from a key to another one. -/
def btw (K K2 : List Int) (l : List Ent) : Nat := upt K2 l - ahd K l

set_option maxHeartbeats 1000000 in
theorem between_bad {w : World} {v : Value} {mk : Bool} {ct : Int → Nat} {ca : Int → Ce} (V : Vw w v mk ct ca) (h : Int) (K K2 : List Int) (hK : Key K) (e0 : Int) (he : vRt mk (ct h) (ca h) h = e0) (h0 : e0 ≠ 0) : Calls Tryz.prog 26 #[v, .int .i64 h, .agg (B K), .agg (B K2)] w fun e w' => e = .returned (.tuple #[.int .i64 0, .int .i64 e0]) ∧ Below w.heap.size w w' := by
  have HRK : Hid (∀ w', Below w.heap.size w w' → Calls Tryz.prog 24 #[v, .int .i64 h, .agg (B K)] w' fun e w'' => e = .returned (.tuple #[.int .i64 0, .int .i64 e0]) ∧ Below w'.heap.size w' w'') := fun w' hb => rank_bad (V.grow hb) h K e0 he h0
  have HPS := hidden (keyB_size hK)
  have hb0 : (e0 == 0) = false := by simp [h0]
  clear V hK he
  go_enter Tryz.func26, Tryz.ntmps26
  go_wp2_with (first
    | ((with_reducible refine at_bxd 6 ?_); refine wpList_bx _ rfl _ _ rfl _ rfl ?_; intro w1 b6 hg6 hl6 B6 q6; have HB6 := hidden B6; have HQ6 := hidden q6; clear hg6 hl6 B6 q6)
    | ((with_reducible refine at_bxd 7 ?_); refine wpList_bx _ rfl _ _ rfl _ rfl ?_; intro w2 b7 hg7 hl7 B7 q7; have HB67 := hidden (HB6.out.grow q7); have HQ7 := hidden (grow_trans HQ6.out q7); clear hg7 hl7 B7 q7)
    | ((with_reducible refine at_ldd 15 6 ?_); refine wpList_ld _ rfl _ _ rfl b6 _ rfl HB67.out _ _ Tryz.underlying24 HPS.out ?_)
    | (go_at_call 24; refine (HRK.out _ HQ7.out).mono ?_; rintro e w3 ⟨rfl, b3⟩; have HQ3 := hidden (grow_trans HQ7.out b3); clear b3))
  go_ret2
  exact ⟨rfl, HQ3.out⟩

set_option maxHeartbeats 1000000 in
theorem between_any {w : World} {pt : Option Addr} {cs : List (Nat × Ce)} {h : Nat} {T : Tre} (r : LiR w pt cs h T) (K K2 : List Int) (hK : Key K) (hK2 : Key K2) : Calls Tryz.prog 26 #[.pointer pt, .int .i64 (h : Int), .agg (B K), .agg (B K2)] w fun e w' => e = .returned (.tuple #[.int .i64 (btw K K2 T.ents : Int), .int .i64 0]) ∧ Below w.heap.size w w' := by
  have HRK : Hid (∀ w', Below w.heap.size w w' → Calls Tryz.prog 24 #[.pointer pt, .int .i64 (h : Int), .agg (B K)] w' fun e w'' => e = .returned (.tuple #[.int .i64 (ahd K T.ents : Int), .int .i64 0]) ∧ Below w'.heap.size w' w'') := fun w' hb => by
    have := (r.grow hb).rank K hK
    rwa [r.rkd K hK] at this
  have HUT : Hid (∀ w', Below w.heap.size w w' → Calls Tryz.prog 62 #[.pointer pt, .int .i64 (h : Int), .agg (B K2)] w' fun e w'' => e = .returned (.int .i64 (upt K2 T.ents : Int)) ∧ Below w'.heap.size w' w'') := fun w' hb => upTo_any (r.grow hb) K2 hK2
  have HPS := hidden (keyB_size hK)
  have HPS2 := hidden (keyB_size hK2)
  have h1 := ahd_le K T.ents
  have h2 : upt K2 T.ents ≤ T.ents.length := List.length_filter_le _ _
  have h3 := r.few
  have hwx : wrap64 ((upt K2 T.ents : Int) - (ahd K T.ents : Int)) = (upt K2 T.ents : Int) - (ahd K T.ents : Int) := Go.IntWalk.wrap64_in _ (by omega)
  have HBT : Hid ((btw K K2 T.ents : Int) = max ((upt K2 T.ents : Int) - (ahd K T.ents : Int)) 0) := by
    show _ = _
    unfold btw
    omega
  rw [HBT.out]
  clear r hK hK2 h1 h2 h3 HBT
  generalize (upt K2 T.ents : Int) = up at *
  generalize (ahd K T.ents : Int) = ah at *
  by_cases hx : up - ah < 0
  · have HX : Hid (max (up - ah) 0 = 0) := by show _ = _; omega
    have hx2 : ¬ 0 ≤ up - ah := by omega
    have hx3 : ¬ 0 < up - ah := by omega
    have hx4 : up - ah ≤ 0 := by omega
    go_enter Tryz.func26, Tryz.ntmps26
    go_wp2_with (first
      | ((with_reducible refine at_bxd 6 ?_); refine wpList_bx _ rfl _ _ rfl _ rfl ?_; intro w1 b6 hg6 hl6 B6 q6; have HB6 := hidden B6; have HQ6 := hidden q6; clear hg6 hl6 B6 q6)
      | ((with_reducible refine at_bxd 7 ?_); refine wpList_bx _ rfl _ _ rfl _ rfl ?_; intro w2 b7 hg7 hl7 B7 q7; have HB67 := hidden (HB6.out.grow q7); have HB7 := hidden B7; have HQ7 := hidden (grow_trans HQ6.out q7); clear hg7 hl7 B7 q7)
      | ((with_reducible refine at_ldd 15 6 ?_); refine wpList_ld _ rfl _ _ rfl b6 _ rfl HB67.out _ _ Tryz.underlying24 HPS.out ?_)
      | (go_at_call 24; refine (HRK.out _ HQ7.out).mono ?_; rintro e w3 ⟨rfl, b3⟩; have HB73 := hidden (HB7.out.grow b3); have HQ3 := hidden (grow_trans HQ7.out b3); clear b3)
      | ((with_reducible refine at_ldd 24 7 ?_); refine wpList_ld _ rfl _ _ rfl b7 _ rfl HB73.out _ _ Tryz.underlying24 HPS2.out ?_)
      | (go_at_call 62; refine (HUT.out _ HQ3.out).mono ?_; rintro e w4 ⟨rfl, b4⟩; have HQ4 := hidden (grow_trans HQ3.out b4); clear b4))
    go_ret2
    refine ⟨?_, HQ4.out⟩
    rw [HX.out]
    rfl
  · have HX : Hid (max (up - ah) 0 = up - ah) := by show _ = _; omega
    have hx2 : 0 ≤ up - ah := by omega
    go_enter Tryz.func26, Tryz.ntmps26
    go_wp2_with (first
      | ((with_reducible refine at_bxd 6 ?_); refine wpList_bx _ rfl _ _ rfl _ rfl ?_; intro w1 b6 hg6 hl6 B6 q6; have HB6 := hidden B6; have HQ6 := hidden q6; clear hg6 hl6 B6 q6)
      | ((with_reducible refine at_bxd 7 ?_); refine wpList_bx _ rfl _ _ rfl _ rfl ?_; intro w2 b7 hg7 hl7 B7 q7; have HB67 := hidden (HB6.out.grow q7); have HB7 := hidden B7; have HQ7 := hidden (grow_trans HQ6.out q7); clear hg7 hl7 B7 q7)
      | ((with_reducible refine at_ldd 15 6 ?_); refine wpList_ld _ rfl _ _ rfl b6 _ rfl HB67.out _ _ Tryz.underlying24 HPS.out ?_)
      | (go_at_call 24; refine (HRK.out _ HQ7.out).mono ?_; rintro e w3 ⟨rfl, b3⟩; have HB73 := hidden (HB7.out.grow b3); have HQ3 := hidden (grow_trans HQ7.out b3); clear b3)
      | ((with_reducible refine at_ldd 24 7 ?_); refine wpList_ld _ rfl _ _ rfl b7 _ rfl HB73.out _ _ Tryz.underlying24 HPS2.out ?_)
      | (go_at_call 62; refine (HUT.out _ HQ3.out).mono ?_; rintro e w4 ⟨rfl, b4⟩; have HQ4 := hidden (grow_trans HQ3.out b4); clear b4))
    go_ret2
    refine ⟨?_, HQ4.out⟩
    rw [HX.out]
    rfl

end Go.Proofs.YtgfdgjkbcdmboabGreatDoor
