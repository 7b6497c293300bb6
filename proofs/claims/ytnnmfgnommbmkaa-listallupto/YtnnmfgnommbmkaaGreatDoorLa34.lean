/- The function that list.over hands back, as a contract for a range over it: the entries one by one, each with a value of its own. -/
import Derived.Test.YtnnmfgnommbmkaaGreatDoorLa01
import Derived.Test.YtnnmfgnommbmkaaGreatDoorLa33
namespace Go.Proofs.YtnnmfgnommbmkaaGreatDoor
set_option maxRecDepth 20000
open Go.RowKit Go.Shelf

attribute [local go_sem] Oper.semAt_some

def NextE (b : Nat) (es : List Ent) (pre : List (Ent × Value)) (x : Ent × Value) (A : World) : Prop := es[pre.length]? = some x.1 ∧ ∃ sp, Own b A x.2 x.1.2 sp

theorem reads_sl {w : World} {v : Value} {bs : List Int} (h : Reads w v bs) : ∃ a c, v = .slice a bs.length c := by
  obtain ⟨a, c, e, _⟩ := h
  exact ⟨a, c, e⟩

set_option maxRecDepth 100000 in
set_option maxHeartbeats 4000000 in
theorem ov1_in {wb : World} {b : Nat} {es : List Ent} (hO : OvAt wb b es) (h6 : es.length ≤ 4096) (hbs : ∀ e ∈ es, e.2.length ≤ 65536) (n : Nat) (hn : 1 ≤ n) (l : Nat) (J Jx : List (Ent × Value) → World → Prop) (W : World) (hb : Below wb.heap.size wb W)
    (hJ : ∀ s A B, J s A → Below A.heap.size A B → J s B)
    (hY : ∀ pre x A, J pre A → NextE wb.heap.size es pre x A → pre.length < es.length → YieldAt Fence.wide (n - 1) Tryz.prog l #[.agg (B x.1.1), x.2] A fun e B =>
      (e = .returned (.bool true) ∧ J (pre ++ [x]) B ∧ Below wb.heap.size A B) ∨ (e = .returned (.bool false) ∧ Jx (pre ++ [x]) B))
    (h0 : J [] W) :
    CallsIn Fence.wide n Tryz.prog 76 #[.func (.yield l) #[] #[], .pointer (some ⟨b, 0, none⟩)] W fun e B => (∃ v, e = .returned v) ∧ ((∃ xs, xs.map (·.1) = es ∧ J xs B) ∨ (∃ pre, pre.map (·.1) <+: es ∧ Jx pre B)) := by
  obtain ⟨a, c, V, hB, hP⟩ := hO
  obtain ⟨m, hm⟩ : ∃ m, m = es.length := ⟨_, rfl⟩
  rw [← hm] at hB
  have HGet : Hid (∀ k, k < m → ∃ g off ua uc K bs, a = some ⟨g, off, none⟩ ∧ es[k]? = some (K, bs) ∧ wb.rangeAt g (off + k * 33) (encP K (.slice ua bs.length uc)) ∧ Key K ∧ Reads wb (.slice ua bs.length uc) bs) := fun k hk => by
    rw [hm] at hk
    obtain ⟨a', c', e, _, h2, h3⟩ := hP
    injection e with e1 _ _
    subst e1
    obtain ⟨g, off, ea, hr⟩ := h2 (by omega)
    have h4 := hr k hk
    obtain ⟨hk1, hk2⟩ := h3 k hk
    rw [List.getD_eq_getElem?_getD, List.getElem?_eq_getElem hk, Option.getD_some] at h4 hk1 hk2
    obtain ⟨ua, uc, eV⟩ := reads_sl hk2
    rw [eV] at h4 hk2
    exact ⟨g, off, ua, uc, es[k].1, es[k].2, ea, by rw [List.getElem?_eq_getElem hk], h4, hk1, hk2⟩
  have c1 : W.cell? ⟨b, 0, none⟩ = some (.slice a m c) := by rw [(hB.grow hb).cell]; rfl
  have HJ := hidden hJ
  have HY := hidden hY
  have HM := hidden hm
  have HBS := hidden hbs
  have H6 : Hid (m ≤ 4096) := by rw [hm]; exact h6
  have HB := hidden hb
  have H0 := hidden h0
  obtain ⟨fs, hfs⟩ := u_pair
  have HUP := hidden hfs
  have f1 : Fence.wide.fn 77 := trivial
  clear hP hB hJ hY hm hbs h6 hb h0 hfs
  refine callsIn_of_wp Tryz.func76 rfl trivial ?_ rfl
  simp only [Tryz.ntmps76, List.size_toArray, List.length_cons, List.length_nil, Nat.reduceAdd, Nat.reduceSub, Array.replicate_succ, Array.replicate_zero, List.push_toArray, List.append_toArray, List.nil_append, List.cons_append]
  gi_wp2
  gi_loopw [7] (fun i wr => ∃ (k : Nat) (pre : List (Ent × Value)), k ≤ m ∧ i = .int .i64 k ∧ pre.length = k ∧ Hid (pre.map (·.1) = es.take k) ∧ Hid (J pre wr) ∧ Hid (Below wb.heap.size wb wr)) (fun i _ => m - (intOf i).toNat)
  case atStart => exact ⟨0, [], Nat.zero_le _, rfl, rfl, rfl, H0, HB⟩
  case round =>
    clear c1 H0 HB
    obtain ⟨k, pre, hk, rfl, hpl, hpm, hJs, hBw⟩ := hrel
    have hm6 := H6.out
    have hwk : wrap64 ((k : Int) + 1) = ((k + 1 : Nat) : Int) := by rw [Go.IntWalk.wrap64_in _ (by omega)]; rfl
    by_cases hlt : k < m
    · obtain ⟨g, off, ua, uc, K, bs, rfl, hek, hrg, hK, hrd⟩ := HGet.out k hlt
      have HEKk := hidden hek
      have HEK : Hid (es[pre.length]? = some (K, bs)) := by rw [hpl]; exact hek
      have HLN : Hid (pre.length < es.length) := by have := HM.out; show _ < _; omega
      have HPX : Hid (es.take k ++ [(((K, bs), undef) : Ent × Value)].map (·.1) <+: es) := by
        show _ <+: _
        have : es.take k ++ [(K, bs)] = es.take (k + 1) := by rw [List.take_add_one, hek]; rfl
        rw [List.map_cons, List.map_nil, this]
        exact List.take_prefix _ _
      have HRG := hidden (rng_grow hrg hBw.out)
      have HKL := hidden (pth_ln K hK.1)
      have HK32 := hidden hK.1
      have HSZ : Hid ((Tryz.prog.info? 42).map (·.size) = some (encP K (.slice ua bs.length uc)).length) := by
        show _ = _
        rw [encP_length K _ hK.1]
        exact size_pair
      have HS2 : Hid ((encP z32 (.slice none 0 0)).toArray.size = (encP K (.slice ua bs.length uc)).toArray.size) := by
        show _ = _
        rw [List.size_toArray, List.size_toArray, encP_length K _ hK.1, encP_length z32 _ z32_length]
      have HCL : Hid (∀ w', Below wr.heap.size wr w' → Calls Tryz.prog 77 #[.slice ua bs.length uc] w' fun e w'' => ∃ v' sp, e = .returned v' ∧ Own w'.heap.size w'' v' bs sp ∧ Below w'.heap.size w' w'') := fun w' hb => clone_any _ bs w' ((hrd.grow hBw.out).grow hb) (by
        have := HBS.out (K, bs) (List.mem_of_getElem? HEKk.out)
        simp only at this
        omega)
      have i1 : (k : Int) < (m : Int) := by omega
      have i0 : (0 : Int) ≤ (k : Int) := by omega
      clear hrg hK hrd hek
      gi_wp2_with (first
        | (refine inList (.inl rfl) (fun c e => by cases e) (wpList_load_mid rfl 42 (.tmp 9) rfl g (off + k * 33) rfl (encP K (.slice ua bs.length uc)) _ HRG.out HUP.out rfl HSZ.out ⟨rfl, ?_⟩))
        | (refine inList (.inl rfl) (fun c e => by cases e) (wpList_al _ rfl _ rfl _ zero_pair (fun w2 g4 hg4 hl4 B4 b2 => ⟨rfl, ?_⟩)); have HG4 := hidden hg4; have HB4 := hidden B4; have HQ2 := hidden b2; clear hg4 hl4 B4 b2)
        | (refine inList (.inl rfl) (fun c e => by cases e) (wpList_sto _ rfl _ _ _ rfl g4 _ (encP K (.slice ua bs.length uc)).toArray rfl rfl HB4.out (by rw [List.size_toArray]; exact HSZ.out) HS2.out (encP_one _ _ _ _) (fun w4 B9 r9 => ⟨rfl, ?_⟩)); have HB9 := hidden B9; have HQ4 := hidden (below_row HQ2.out r9 HG4.out); clear B9 r9))
      have HR4 : Hid (∀ w', Below w4.drew.heap.size w4.drew w' → w'.rangeAt g4 0 (B K).toList) := fun w' hb j u hu => by
        rw [Nat.zero_add, ((HB9.out.grow (below_drewN (Below.refl _ _) 1)).grow hb).cell]
        rw [B_toList] at hu
        have hj : j < K.length := by
          have := (List.getElem?_eq_some_iff.1 hu).1
          simpa using this
        rw [List.getElem?_toArray, encP, List.getElem?_append_left (by simpa using hj)]
        exact hu
      have HC33 : Hid (∀ w', Below w4.drew.heap.size w4.drew w' → w'.cell? ⟨g4, 32, none⟩ = some (.slice ua bs.length uc)) := fun w' hb => by
        rw [((HB9.out.grow (below_drewN (Below.refl _ _) 1)).grow hb).cell, List.getElem?_toArray, encP, List.getElem?_append_right (by simp [HK32.out])]
        simp [HK32.out]
      have d4 : Below wr.heap.size wr w4.drew := grow_trans HQ4.out (below_drewN (Below.refl _ _) 1)
      have HWZ : Hid (wb.heap.size ≤ w4.drew.heap.size) := (grow_trans hBw.out d4).size
      have HBz : Hid (∀ z, Below wr.heap.size wr z → Below wb.heap.size wb z) := fun z hz => grow_trans hBw.out hz
      refine wpIn_region_any (by kernel_rfl) ?_
      refine wpAnyIn_take (i := 0) (v := .func (.yield l) #[] #[]) rfl rfl (by kernel_rfl) (by kernel_rfl) (by kernel_rfl) (fun _ _ _ h => h) ⟨Or.inl ⟨by rfl, fun w => by go_simp⟩, fun _ => rfl⟩ ?_
      simp only [Act.put, zq1, zq2, zq4, zq5, zq6]
      refine wpAnyIn_take (i := 1) (v := .pointer (some ⟨g4, 0, none⟩)) rfl rfl (by kernel_rfl) (by kernel_rfl) (by kernel_rfl) (fun _ _ _ h => h) ⟨Or.inl ⟨by rfl, fun w => by go_simp⟩, fun _ => rfl⟩ ?_
      simp only [Act.put, zq1, zq2, zq3, zq4, zq5, zq6]
      refine wpAnyIn_take (i := 3) (v := .pointer (some ⟨g4, 32, none⟩)) rfl rfl (by kernel_rfl) (by kernel_rfl) (by kernel_rfl) (fun _ _ _ h => h) ⟨Or.inl ⟨by rfl, fun w => by go_simp⟩, fun _ => rfl⟩ ?_
      simp only [Act.put, zq1, zq2, zq3, zq4, zq5, zq6]
      refine wpAnyIn_ready (rs := [2, 4]) (by kernel_rfl) (by simp) ?_
      refine readyIn (.inl rfl) rfl (fun c e => by cases e) (fun KQ hK => ?_) (readyIn (.inl rfl) rfl (fun c e => by cases e) (fun KQ hK => ?_) AllReadyIn.nil)
      · refine step_ldm _ rfl 32 (.tmp 12) rfl g4 0 rfl (B K).toList (HR4.out _ (Below.refl _ _)) _ Tryz.underlying32 rfl HKL.out ?_
        refine hK _ _ ?_
        clear hK KQ
        rw [show (B K).toList.toArray = B K from Array.toArray_toList]
        try simp only [Act.put, zq1, zq2, zq3, zq4, zq5, zq6]
        refine wpAnyIn_ready (rs := [4]) (by kernel_rfl) (by simp) ?_
        refine readyIn (.inl rfl) rfl (fun c e => by cases e) (fun KQ hK => ?_) AllReadyIn.nil
        have c33 := HC33.out _ (Below.refl _ _)
        go_simp
        refine hK _ _ ?_
        clear hK KQ c33
        try simp only [Act.put, zq1, zq2, zq3, zq4, zq5, zq6]
        refine wpAnyIn_ready (rs := [5]) (by kernel_rfl) (by simp) ?_
        refine readyIn (.inl rfl) rfl (fun c e => by cases e) (fun KQ hK => ?_) AllReadyIn.nil
        go_simp
        refine (HCL.out _ d4).mono ?_
        rintro e z ⟨u, sp, rfl, ow, az⟩
        have d5 := grow_trans d4 az
        refine hK _ _ ?_
        clear hK KQ
        try simp only [Act.put, zq1, zq2, zq3, zq4, zq5, zq6]
        obtain ⟨fn, tmps, assign, body, hy, hR⟩ := HY.out pre ((K, bs), u) z (HJ.out _ _ _ hJs.out d5) ⟨HEK.out, sp, ow.mono HWZ.out⟩ HLN.out
        dsimp only at hy
        refine wpAnyIn_ready (rs := [6]) (by kernel_rfl) (by simp) ?_
        refine AllReadyIn.cons rfl (fun KQ hK => ?_) AllReadyIn.nil
        go_simp
        refine hR.mono ?_
        rintro e W3 (⟨rfl, hJ3, hb3⟩ | ⟨rfl, hJx3⟩)
        · refine hK _ _ ?_
          clear hK KQ
          have HX3 := hidden (show J (pre ++ [((K, bs), u)]) W3 ∧ Below wb.heap.size wb W3 from ⟨hJ3, (HBz.out _ d5).trans hb3⟩)
          clear hJ3 hb3 hR hy
          refine wpAnyIn_take (i := 7) (v := .bool false) rfl rfl (by kernel_rfl) (by kernel_rfl) (by kernel_rfl) (fun _ _ _ h => h) ⟨Or.inl ⟨by rfl, fun w => by go_simp⟩, fun _ => rfl⟩ ?_
          simp only [Act.put, zq1, zq2, zq3, zq4, zq5, zq6]
          refine wpAnyIn_done (by kernel_rfl) ?_ _
          gi_wp2
          go_roundw
          case rel => exact ⟨k + 1, pre ++ [((K, bs), u)], by omega, by first | rfl | go_num, by rw [List.length_append, List.length_singleton, hpl], by show _ = _; rw [List.map_append, hpm.out, List.take_add_one, HEKk.out]; rfl, HX3.out.1, HX3.out.2⟩
          case measure => simp [intOf]; omega
        · refine hK _ _ ?_
          clear hK KQ hR hy
          refine wpAnyIn_take (i := 7) (v := .bool true) rfl rfl (by kernel_rfl) (by kernel_rfl) (by kernel_rfl) (fun _ _ _ h => h) ⟨Or.inl ⟨by rfl, fun w => by go_simp⟩, fun _ => rfl⟩ ?_
          simp only [Act.put, zq1, zq2, zq3, zq4, zq5, zq6]
          refine wpAnyIn_done (by kernel_rfl) ?_ _
          gi_wp2
          refine bodyPost_ret (results_none rfl _ _ _) rfl ?_
          refine ⟨⟨_, rfl⟩, .inr ⟨_, ?_, hJx3⟩⟩
          rw [List.map_append, hpm.out]
          exact HPX.out
      · have c33 := HC33.out _ (Below.refl _ _)
        go_simp
        refine hK _ _ ?_
        clear hK KQ c33
        try simp only [Act.put, zq1, zq2, zq3, zq4, zq5, zq6]
        refine wpAnyIn_ready (rs := [2, 5]) (by kernel_rfl) (by simp) ?_
        refine readyIn (.inl rfl) rfl (fun c e => by cases e) (fun KQ hK => ?_) (readyIn (.inl rfl) rfl (fun c e => by cases e) (fun KQ hK => ?_) AllReadyIn.nil)
        · refine step_ldm _ rfl 32 (.tmp 12) rfl g4 0 rfl (B K).toList (HR4.out _ (Below.refl _ _)) _ Tryz.underlying32 rfl HKL.out ?_
          refine hK _ _ ?_
          clear hK KQ
          rw [show (B K).toList.toArray = B K from Array.toArray_toList]
          try simp only [Act.put, zq1, zq2, zq3, zq4, zq5, zq6]
          refine wpAnyIn_ready (rs := [5]) (by kernel_rfl) (by simp) ?_
          refine readyIn (.inl rfl) rfl (fun c e => by cases e) (fun KQ hK => ?_) AllReadyIn.nil
          go_simp
          refine (HCL.out _ d4).mono ?_
          rintro e z ⟨u, sp, rfl, ow, az⟩
          have d5 := grow_trans d4 az
          refine hK _ _ ?_
          clear hK KQ
          try simp only [Act.put, zq1, zq2, zq3, zq4, zq5, zq6]
          obtain ⟨fn, tmps, assign, body, hy, hR⟩ := HY.out pre ((K, bs), u) z (HJ.out _ _ _ hJs.out d5) ⟨HEK.out, sp, ow.mono HWZ.out⟩ HLN.out
          dsimp only at hy
          refine wpAnyIn_ready (rs := [6]) (by kernel_rfl) (by simp) ?_
          refine AllReadyIn.cons rfl (fun KQ hK => ?_) AllReadyIn.nil
          go_simp
          refine hR.mono ?_
          rintro e W3 (⟨rfl, hJ3, hb3⟩ | ⟨rfl, hJx3⟩)
          · refine hK _ _ ?_
            clear hK KQ
            have HX3 := hidden (show J (pre ++ [((K, bs), u)]) W3 ∧ Below wb.heap.size wb W3 from ⟨hJ3, (HBz.out _ d5).trans hb3⟩)
            clear hJ3 hb3 hR hy
            refine wpAnyIn_take (i := 7) (v := .bool false) rfl rfl (by kernel_rfl) (by kernel_rfl) (by kernel_rfl) (fun _ _ _ h => h) ⟨Or.inl ⟨by rfl, fun w => by go_simp⟩, fun _ => rfl⟩ ?_
            simp only [Act.put, zq1, zq2, zq3, zq4, zq5, zq6]
            refine wpAnyIn_done (by kernel_rfl) ?_ _
            gi_wp2
            go_roundw
            case rel => exact ⟨k + 1, pre ++ [((K, bs), u)], by omega, by first | rfl | go_num, by rw [List.length_append, List.length_singleton, hpl], by show _ = _; rw [List.map_append, hpm.out, List.take_add_one, HEKk.out]; rfl, HX3.out.1, HX3.out.2⟩
            case measure => simp [intOf]; omega
          · refine hK _ _ ?_
            clear hK KQ hR hy
            refine wpAnyIn_take (i := 7) (v := .bool true) rfl rfl (by kernel_rfl) (by kernel_rfl) (by kernel_rfl) (fun _ _ _ h => h) ⟨Or.inl ⟨by rfl, fun w => by go_simp⟩, fun _ => rfl⟩ ?_
            simp only [Act.put, zq1, zq2, zq3, zq4, zq5, zq6]
            refine wpAnyIn_done (by kernel_rfl) ?_ _
            gi_wp2
            refine bodyPost_ret (results_none rfl _ _ _) rfl ?_
            refine ⟨⟨_, rfl⟩, .inr ⟨_, ?_, hJx3⟩⟩
            rw [List.map_append, hpm.out]
            exact HPX.out
        · go_simp
          refine (HCL.out _ d4).mono ?_
          rintro e z ⟨u, sp, rfl, ow, az⟩
          have d5 := grow_trans d4 az
          refine hK _ _ ?_
          clear hK KQ
          try simp only [Act.put, zq1, zq2, zq3, zq4, zq5, zq6]
          refine wpAnyIn_ready (rs := [2]) (by kernel_rfl) (by simp) ?_
          refine readyIn (.inl rfl) rfl (fun c e => by cases e) (fun KQ hK => ?_) AllReadyIn.nil
          refine step_ldm _ rfl 32 (.tmp 12) rfl g4 0 rfl (B K).toList (HR4.out _ (az)) _ Tryz.underlying32 rfl HKL.out ?_
          refine hK _ _ ?_
          clear hK KQ
          rw [show (B K).toList.toArray = B K from Array.toArray_toList]
          try simp only [Act.put, zq1, zq2, zq3, zq4, zq5, zq6]
          obtain ⟨fn, tmps, assign, body, hy, hR⟩ := HY.out pre ((K, bs), u) z (HJ.out _ _ _ hJs.out d5) ⟨HEK.out, sp, ow.mono HWZ.out⟩ HLN.out
          dsimp only at hy
          refine wpAnyIn_ready (rs := [6]) (by kernel_rfl) (by simp) ?_
          refine AllReadyIn.cons rfl (fun KQ hK => ?_) AllReadyIn.nil
          go_simp
          refine hR.mono ?_
          rintro e W3 (⟨rfl, hJ3, hb3⟩ | ⟨rfl, hJx3⟩)
          · refine hK _ _ ?_
            clear hK KQ
            have HX3 := hidden (show J (pre ++ [((K, bs), u)]) W3 ∧ Below wb.heap.size wb W3 from ⟨hJ3, (HBz.out _ d5).trans hb3⟩)
            clear hJ3 hb3 hR hy
            refine wpAnyIn_take (i := 7) (v := .bool false) rfl rfl (by kernel_rfl) (by kernel_rfl) (by kernel_rfl) (fun _ _ _ h => h) ⟨Or.inl ⟨by rfl, fun w => by go_simp⟩, fun _ => rfl⟩ ?_
            simp only [Act.put, zq1, zq2, zq3, zq4, zq5, zq6]
            refine wpAnyIn_done (by kernel_rfl) ?_ _
            gi_wp2
            go_roundw
            case rel => exact ⟨k + 1, pre ++ [((K, bs), u)], by omega, by first | rfl | go_num, by rw [List.length_append, List.length_singleton, hpl], by show _ = _; rw [List.map_append, hpm.out, List.take_add_one, HEKk.out]; rfl, HX3.out.1, HX3.out.2⟩
            case measure => simp [intOf]; omega
          · refine hK _ _ ?_
            clear hK KQ hR hy
            refine wpAnyIn_take (i := 7) (v := .bool true) rfl rfl (by kernel_rfl) (by kernel_rfl) (by kernel_rfl) (fun _ _ _ h => h) ⟨Or.inl ⟨by rfl, fun w => by go_simp⟩, fun _ => rfl⟩ ?_
            simp only [Act.put, zq1, zq2, zq3, zq4, zq5, zq6]
            refine wpAnyIn_done (by kernel_rfl) ?_ _
            gi_wp2
            refine bodyPost_ret (results_none rfl _ _ _) rfl ?_
            refine ⟨⟨_, rfl⟩, .inr ⟨_, ?_, hJx3⟩⟩
            rw [List.map_append, hpm.out]
            exact HPX.out
    · obtain rfl : k = m := by omega
      have HP : Hid (pre.map (·.1) = es) := by
        have := hpm.out
        rw [List.take_of_length_le (by rw [← HM.out]; omega)] at this
        exact this
      gi_wp2
      go_end0
      exact ⟨⟨_, rfl⟩, .inl ⟨_, HP.out, hJs.out⟩⟩

end Go.Proofs.YtnnmfgnommbmkaaGreatDoor

namespace Go.Proofs.YtnnmfgnommbmkaaGreatDoor
set_option maxRecDepth 20000
open Go.RowKit


def SeqS {α : Type} (F : Fence) (n : Nat) (P : Program) (g : Nat) (lb : Array Value) (encs : α → Array Value) (X : List α → α → World → Prop) (Rl : World → World → Prop) (S Sp : List α → Prop) (N : Nat) (w : World) : Prop :=
  ∀ (l : Nat) (J Jx : List α → World → Prop) (W : World), Below w.heap.size w W →
    (∀ s A B, J s A → Below A.heap.size A B → J s B) →
    (∀ pre x A, J pre A → X pre x A → pre.length < N → YieldAt F (n - 1) P l (encs x) A fun e B =>
      (e = .returned (.bool true) ∧ J (pre ++ [x]) B ∧ Rl A B) ∨ (e = .returned (.bool false) ∧ Jx (pre ++ [x]) B)) →
    J [] W →
    CallsIn F n P g (#[.func (.yield l) #[] #[]] ++ lb) W fun e B => (∃ v, e = .returned v) ∧ ((∃ xs, S xs ∧ J xs B) ∨ (∃ pre, Sp pre ∧ Jx pre B))

def outS {α : Type} (b : Nat) (Rl : World → World → Prop) (I : List α → World → Prop) (Ix : Code → List α → World → Prop) (xs : List α) (A : World) : Exit → Act → World → Prop
  | .normal, _, B => KeepsFrom b A B ∧ Rl A B ∧ I xs B
  | .ret, _, B => KeepsFrom b A B ∧ Ix .ret xs B
  | .exit i, _, B => KeepsFrom b A B ∧ Ix (.exit i) xs B
  | .goto t, _, B => KeepsFrom b A B ∧ Ix (.goto t) xs B
  | .panic _, _, _ => False
  | .outgrown, _, _ => False

set_option maxHeartbeats 2000000 in
theorem wpIn_rangeS {F : Fence} {n : Nat} {P : Program} {α : Type} {g : Operand} {ps : Array Tmp} {assign body : Code} {Q : Exit → Act → World → Prop} {a : Act} {w : World}
    (hro : F.round = none) (h1 : 1 ≤ n) {gf : Nat} {lb : Array Value} (hg : a.eval g = .func (.func gf) #[] lb) (hFg : F.fn gf) (eg : ∀ args w, (callFunc gf args).run P w = .ok (.enter gf args) w)
    {encs : α → Array Value} {X : List α → α → World → Prop} {Rl : World → World → Prop} {S Sp : List α → Prop} {N : Nat} {w0 : World} (hseq : SeqS F (n - 1) P gf lb encs X Rl S Sp N w0) (hRt : ∀ A B C, Rl A B → Rl B C → Rl A C) (hRb : ∀ A B, Below w.heap.size A B → Rl A B) (hb0 : Below w0.heap.size w0 w) (hps : ∀ x, (encs x).size = ps.size)
    (I : List α → World → Prop) (Ix : Code → List α → World → Prop) (Bx : List α → α → Act → World → Prop) (hIg : ∀ s A B, I s A → Below A.heap.size A B → I s B) (hI : OwnFrom w.heap.size I) (hIx : ∀ c, OwnFrom w.heap.size (Ix c)) (hBx : ∀ pre x a', OwnFrom w.heap.size (fun (_ : Unit) W => Bx pre x a' W)) (h0 : I [] w)
    (hassign : ∀ (l : Nat) (pre : List α) (x : α) (A : World), I pre A → X pre x A → pre.length < N →
      assign.wpIn (F.inRound l) (n - 1 - 1) P (Exit.then (fun a' A' => KeepsFrom w.heap.size A A' ∧ Rl A A' ∧ Bx pre x a' A') (fun _ _ _ => False)) { tmps := (ps.zip (encs x)).foldl (fun t (p, v) => t.setIfInBounds p v) a.tmps, defers := [] } A)
    (hbody : ∀ (l : Nat) (pre : List α) (x : α) (a' : Act) (A : World), Bx pre x a' A → body.wpIn (F.inRound l) (n - 1 - 1) P (outS w.heap.size Rl I Ix (pre ++ [x]) A) a' A)
    (hdone : ∀ (D : Nat) (xs : List α) (W : World), w.heap.size ≤ D → S xs → I xs W → W.heap[D]? = some (.deferred (some [])) → Q .normal { a with defers := { target := .collected D, args := #[] } :: a.defers } W)
    (hstop : ∀ (D : Nat) (c : Code) (pre : List α) (W : World), w.heap.size ≤ D → Sp pre → Ix c pre W → W.heap[D]? = some (.deferred (some [])) → c.wpIn F n P Q { a with defers := { target := .collected D, args := #[] } :: a.defers } W) :
    (Code.rangeFunc g ps assign body).wpIn F n P Q a w := by
  refine wpIn_rangeFunc fun fn hfn => ?_
  rw [hro]
  obtain ⟨R, hR⟩ : ∃ R : LoopState → Option Code → Loop, R = fun st pe => { state := st, pending := pe, fn, tmps := a.tmps, params := ps, assign, body, defers := w.heap.size } := ⟨_, rfl⟩
  obtain ⟨V, hV⟩ : ∃ V, V = (w.alloc (.deferred (some []))).alloc (.loop (R .ready none)) := ⟨_, rfl⟩
  have bV : Below w.heap.size w V := by rw [hV]; exact grow_trans (grow_alloc _ _) (grow_alloc _ _)
  have LV : V.heap[w.heap.size + 1]? = some (.loop (R .ready none)) := by
    have := World.alloc_heap_new (w.alloc (.deferred (some []))) (.loop (R .ready none))
    rw [World.size_alloc] at this
    rw [hV]
    exact this
  have DV : V.heap[w.heap.size]? = some (.deferred (some [])) := by
    rw [hV]
    exact (Below.heap_alloc _ _ _ (by simp)).trans (World.alloc_heap_new w _)
  have IV : I [] V := by
    rw [hV]
    exact hI.alloc _ (hI.alloc _ h0)
  refine ⟨w.heap.size + 1, [{ target := .collected w.heap.size, args := #[] }], V, { target := .fn (.func gf) lb, args := #[.func (.yield (w.heap.size + 1)) #[] #[]] }, V, gf, #[.func (.yield (w.heap.size + 1)) #[] #[]] ++ lb, V, ?_, ?_, ?_, ?_, fun _ => h1, ?_⟩
  · rw [hV, hR]
    exact run_enterLoop_outer _ _ _ _ _
  · simp only [resolve, hg]
    simp [go_sem]
  · intro f' hf'
    simp [Target.leads] at hf'
    subst hf'
    exact hFg
  · simp [invoke, go_sem, eg]
  refine (hseq (w.heap.size + 1) (fun s A => I s A ∧ A.heap[w.heap.size + 1]? = some (.loop (R .ready none)) ∧ A.heap[w.heap.size]? = some (.deferred (some []))) (fun s A => ∃ c, Ix c s A ∧ A.heap[w.heap.size + 1]? = some (.loop (R .done (some c))) ∧ A.heap[w.heap.size]? = some (.deferred (some []))) V (hb0.trans (bV.mono hb0.size)) ?_ ?_ ⟨IV, LV, DV⟩).mono ?_
  · rintro s A B ⟨q1, q2, q3⟩ hb
    exact ⟨hIg s A B q1 hb, (hb.block _ (Array.getElem?_eq_some_iff.1 q2).1).trans q2, (hb.block _ (Array.getElem?_eq_some_iff.1 q3).1).trans q3⟩
  · rintro pre x A ⟨q1, q2, q3⟩ hx hlen
    have hy := run_yield (P := P) (args := encs x) q2 (by rw [hR]; exact hps x)
    rw [hR] at hy
    refine ⟨fn, _, assign, body, hy, roundIn_of_wpIn hfn (wpIn_mono (hassign _ pre x A q1 hx hlen) ?_)⟩
    intro e a' A1 hp
    cases e with
    | normal =>
      obtain ⟨k1, k2, k3⟩ := hp
      have L1 := k1.same _ _ (by omega) q2 rfl
      have D1 := k1.same _ _ (Nat.le_refl _) q3 rfl
      refine ⟨_, run_beginRound L1 (by rw [hR]), ?_⟩
      have hlt : w.heap.size + 1 < A1.heap.size := (Array.getElem?_eq_some_iff.1 L1).1
      obtain ⟨A', hA'⟩ : ∃ A', A' = A1.putObj (w.heap.size + 1) (.loop { R .ready none with state := .busy }) := ⟨_, rfl⟩
      have L2 : A'.heap[w.heap.size + 1]? = some (.loop { R .ready none with state := .busy }) := by rw [hA']; exact World.putObj_heap_same hlt
      have D2 : A'.heap[w.heap.size]? = some (.deferred (some [])) := by rw [hA']; exact (World.putObj_heap_other (by omega)).trans D1
      have X2 : Bx pre x a' A' := by rw [hA']; exact (hBx pre x a').putObj (s := ()) _ k3 (by omega) L1 rfl
      have B2 : Rl A A' := by rw [hA']; exact hRt _ _ _ k2 (hRb _ _ (belowK_b (w := w) (Nat.le_refl _) A1 _ _ _ (by omega) L1 rfl rfl))
      rw [← hA']
      refine wpIn_mono (hbody _ pre x a' A' X2) ?_
      have fin : ∀ (j : Option Code) (C : World), KeepsFrom w.heap.size A' C →
          (Instr.endRound (w.heap.size + 1) j).run P C = .ok (.bool j.isNone) (C.putObj (w.heap.size + 1) (.loop (R (if j.isNone then .ready else .done) j))) ∧ C.heap[w.heap.size + 1]? = some (.loop { R .ready none with state := .busy }) ∧
          (C.putObj (w.heap.size + 1) (.loop (R (if j.isNone then .ready else .done) j))).heap[w.heap.size + 1]? = some (.loop (R (if j.isNone then .ready else .done) j)) ∧
          (C.putObj (w.heap.size + 1) (.loop (R (if j.isNone then .ready else .done) j))).heap[w.heap.size]? = some (.deferred (some [])) := fun j C hk => by
        have L3 := hk.same _ _ (by omega) L2 rfl
        have e := run_endRound (P := P) j L3
        rw [hR] at e ⊢
        exact ⟨e, by rw [hR] at L3; exact L3, World.putObj_heap_same (Array.getElem?_eq_some_iff.1 L3).1, (World.putObj_heap_other (by omega)).trans (hk.same _ _ (Nat.le_refl _) D2 rfl)⟩
      intro e a3 C hp
      cases e with
      | normal =>
        obtain ⟨k1, k3, k4⟩ := hp
        obtain ⟨r, l3, l4, d4⟩ := fin none C k1
        exact ⟨_, _, r, .inl ⟨rfl, ⟨hI.putObj _ k4 (by omega) l3 rfl, l4, d4⟩, hRt _ _ _ (hRt _ _ _ B2 k3) (hRb _ _ (belowK_b (w := w) (Nat.le_refl _) C _ _ _ (by omega) l3 rfl rfl))⟩⟩
      | ret =>
        obtain ⟨k1, k2⟩ := hp
        obtain ⟨r, l3, l4, d4⟩ := fin (some .ret) C k1
        exact ⟨_, _, r, .inr ⟨rfl, .ret, (hIx _).putObj _ k2 (by omega) l3 rfl, l4, d4⟩⟩
      | exit i =>
        obtain ⟨k1, k2⟩ := hp
        obtain ⟨r, l3, l4, d4⟩ := fin (some (.exit i)) C k1
        exact ⟨_, _, r, .inr ⟨rfl, .exit i, (hIx _).putObj _ k2 (by omega) l3 rfl, l4, d4⟩⟩
      | goto t =>
        obtain ⟨k1, k2⟩ := hp
        obtain ⟨r, l3, l4, d4⟩ := fin (some (.goto t)) C k1
        exact ⟨_, _, r, .inr ⟨rfl, .goto t, (hIx _).putObj _ k2 (by omega) l3 rfl, l4, d4⟩⟩
      | panic _ => exact hp.elim
      | outgrown => exact hp.elim
    | _ => exact hp.elim
  · rintro e C ⟨⟨v, rfl⟩, ⟨xs, hS, q1, q2, q3⟩ | ⟨pre, hSp, c, q1, q2, q3⟩⟩
    · exact ⟨none, _, by have := run_endLoop (P := P) q2 (by rw [hR]; simp); rw [hR] at this; exact this, hdone _ xs _ (Nat.le_refl _) hS (hI.putObj _ q1 (by omega) q2 rfl) ((World.putObj_heap_other (by omega)).trans q3)⟩
    · exact ⟨some c, _, by have := run_endLoop (P := P) q2 (by rw [hR]; simp); rw [hR] at this; exact this, hstop _ c pre _ (Nat.le_refl _) hSp ((hIx c).putObj _ q1 (by omega) q2 rfl) ((World.putObj_heap_other (by omega)).trans q3)⟩

end Go.Proofs.YtnnmfgnommbmkaaGreatDoor

namespace Go.Proofs.YtnnmfgnommbmkaaGreatDoor
set_option maxRecDepth 20000
open Go.RowKit Go.Shelf

attribute [local go_sem] Oper.semAt_some

set_option maxRecDepth 100000 in
set_option maxHeartbeats 4000000 in
theorem ov1_inS {wb : World} {b : Nat} {es : List Ent} {Rl : World → World → Prop} (hRt : ∀ A B C, Rl A B → Rl B C → Rl A C) (hRb : ∀ A B, Below A.heap.size A B → Rl A B) (hRs : ∀ A B, Rl A B → A.heap.size ≤ B.heap.size) (a : Option Addr) (c : Nat) (V : Nat → Value) (hO : ∀ A, Rl wb A → Blk A b 22 #[.slice a es.length c] ∧ PrAt A (.slice a es.length c) V es) (h6 : es.length ≤ 4096) (hbs : ∀ e ∈ es, e.2.length ≤ 65536) (n : Nat) (hn : 1 ≤ n) (l : Nat) (J Jx : List (Ent × Value) → World → Prop) (W : World) (hb : Rl wb W)
    (hJ : ∀ s A B, J s A → Below A.heap.size A B → J s B)
    (hY : ∀ pre x A, J pre A → NextE wb.heap.size es pre x A → pre.length < es.length → YieldAt Fence.wide (n - 1) Tryz.prog l #[.agg (B x.1.1), x.2] A fun e B =>
      (e = .returned (.bool true) ∧ J (pre ++ [x]) B ∧ Rl A B) ∨ (e = .returned (.bool false) ∧ Jx (pre ++ [x]) B))
    (h0 : J [] W) :
    CallsIn Fence.wide n Tryz.prog 76 #[.func (.yield l) #[] #[], .pointer (some ⟨b, 0, none⟩)] W fun e B => (∃ v, e = .returned v) ∧ ((∃ xs, xs.map (·.1) = es ∧ J xs B) ∨ (∃ pre, pre.map (·.1) <+: es ∧ Jx pre B)) := by
  obtain ⟨m, hm⟩ : ∃ m, m = es.length := ⟨_, rfl⟩
  have HGet : Hid (∀ A, Rl wb A → ∀ k, k < m → ∃ g off ua uc K bs, a = some ⟨g, off, none⟩ ∧ es[k]? = some (K, bs) ∧ A.rangeAt g (off + k * 33) (encP K (.slice ua bs.length uc)) ∧ Key K ∧ Reads A (.slice ua bs.length uc) bs) := fun A hA k hk => by
    rw [hm] at hk
    obtain ⟨a', c', e, _, h2, h3⟩ := (hO A hA).2
    injection e with e1 _ _
    subst e1
    obtain ⟨g, off, ea, hr⟩ := h2 (by omega)
    have h4 := hr k hk
    obtain ⟨hk1, hk2⟩ := h3 k hk
    rw [List.getD_eq_getElem?_getD, List.getElem?_eq_getElem hk, Option.getD_some] at h4 hk1 hk2
    obtain ⟨ua, uc, eV⟩ := reads_sl hk2
    rw [eV] at h4 hk2
    exact ⟨g, off, ua, uc, es[k].1, es[k].2, ea, by rw [List.getElem?_eq_getElem hk], h4, hk1, hk2⟩
  have c1 : W.cell? ⟨b, 0, none⟩ = some (.slice a m c) := by rw [hm, (hO W hb).1.cell]; rfl
  have HJ := hidden hJ
  have HY := hidden hY
  have HM := hidden hm
  have HBS := hidden hbs
  have H6 : Hid (m ≤ 4096) := by rw [hm]; exact h6
  have HB := hidden hb
  have H0 := hidden h0
  obtain ⟨fs, hfs⟩ := u_pair
  have HUP := hidden hfs
  have f1 : Fence.wide.fn 77 := trivial
  clear hO hJ hY hm hbs h6 hb h0 hfs
  refine callsIn_of_wp Tryz.func76 rfl trivial ?_ rfl
  simp only [Tryz.ntmps76, List.size_toArray, List.length_cons, List.length_nil, Nat.reduceAdd, Nat.reduceSub, Array.replicate_succ, Array.replicate_zero, List.push_toArray, List.append_toArray, List.nil_append, List.cons_append]
  gi_wp2
  gi_loopw [7] (fun i wr => ∃ (k : Nat) (pre : List (Ent × Value)), k ≤ m ∧ i = .int .i64 k ∧ pre.length = k ∧ Hid (pre.map (·.1) = es.take k) ∧ Hid (J pre wr) ∧ Hid (Rl wb wr)) (fun i _ => m - (intOf i).toNat)
  case atStart => exact ⟨0, [], Nat.zero_le _, rfl, rfl, rfl, H0, HB⟩
  case round =>
    clear c1 H0 HB
    obtain ⟨k, pre, hk, rfl, hpl, hpm, hJs, hBw⟩ := hrel
    have hm6 := H6.out
    have hwk : wrap64 ((k : Int) + 1) = ((k + 1 : Nat) : Int) := by rw [Go.IntWalk.wrap64_in _ (by omega)]; rfl
    by_cases hlt : k < m
    · obtain ⟨g, off, ua, uc, K, bs, rfl, hek, hrg, hK, hrd⟩ := HGet.out wr hBw.out k hlt
      have HEKk := hidden hek
      have HEK : Hid (es[pre.length]? = some (K, bs)) := by rw [hpl]; exact hek
      have HLN : Hid (pre.length < es.length) := by have := HM.out; show _ < _; omega
      have HPX : Hid (es.take k ++ [(((K, bs), undef) : Ent × Value)].map (·.1) <+: es) := by
        show _ <+: _
        have : es.take k ++ [(K, bs)] = es.take (k + 1) := by rw [List.take_add_one, hek]; rfl
        rw [List.map_cons, List.map_nil, this]
        exact List.take_prefix _ _
      have HRG := hidden hrg
      have HKL := hidden (pth_ln K hK.1)
      have HK32 := hidden hK.1
      have HSZ : Hid ((Tryz.prog.info? 42).map (·.size) = some (encP K (.slice ua bs.length uc)).length) := by
        show _ = _
        rw [encP_length K _ hK.1]
        exact size_pair
      have HS2 : Hid ((encP z32 (.slice none 0 0)).toArray.size = (encP K (.slice ua bs.length uc)).toArray.size) := by
        show _ = _
        rw [List.size_toArray, List.size_toArray, encP_length K _ hK.1, encP_length z32 _ z32_length]
      have HCL : Hid (∀ w', Below wr.heap.size wr w' → Calls Tryz.prog 77 #[.slice ua bs.length uc] w' fun e w'' => ∃ v' sp, e = .returned v' ∧ Own w'.heap.size w'' v' bs sp ∧ Below w'.heap.size w' w'') := fun w' hb => clone_any _ bs w' (hrd.grow hb) (by
        have := HBS.out (K, bs) (List.mem_of_getElem? HEKk.out)
        simp only at this
        omega)
      have i1 : (k : Int) < (m : Int) := by omega
      have i0 : (0 : Int) ≤ (k : Int) := by omega
      clear hrg hK hrd hek
      gi_wp2_with (first
        | (refine inList (.inl rfl) (fun c e => by cases e) (wpList_load_mid rfl 42 (.tmp 9) rfl g (off + k * 33) rfl (encP K (.slice ua bs.length uc)) _ HRG.out HUP.out rfl HSZ.out ⟨rfl, ?_⟩))
        | (refine inList (.inl rfl) (fun c e => by cases e) (wpList_al _ rfl _ rfl _ zero_pair (fun w2 g4 hg4 hl4 B4 b2 => ⟨rfl, ?_⟩)); have HG4 := hidden hg4; have HB4 := hidden B4; have HQ2 := hidden b2; clear hg4 hl4 B4 b2)
        | (refine inList (.inl rfl) (fun c e => by cases e) (wpList_sto _ rfl _ _ _ rfl g4 _ (encP K (.slice ua bs.length uc)).toArray rfl rfl HB4.out (by rw [List.size_toArray]; exact HSZ.out) HS2.out (encP_one _ _ _ _) (fun w4 B9 r9 => ⟨rfl, ?_⟩)); have HB9 := hidden B9; have HQ4 := hidden (below_row HQ2.out r9 HG4.out); clear B9 r9))
      have HR4 : Hid (∀ w', Below w4.drew.heap.size w4.drew w' → w'.rangeAt g4 0 (B K).toList) := fun w' hb j u hu => by
        rw [Nat.zero_add, ((HB9.out.grow (below_drewN (Below.refl _ _) 1)).grow hb).cell]
        rw [B_toList] at hu
        have hj : j < K.length := by
          have := (List.getElem?_eq_some_iff.1 hu).1
          simpa using this
        rw [List.getElem?_toArray, encP, List.getElem?_append_left (by simpa using hj)]
        exact hu
      have HC33 : Hid (∀ w', Below w4.drew.heap.size w4.drew w' → w'.cell? ⟨g4, 32, none⟩ = some (.slice ua bs.length uc)) := fun w' hb => by
        rw [((HB9.out.grow (below_drewN (Below.refl _ _) 1)).grow hb).cell, List.getElem?_toArray, encP, List.getElem?_append_right (by simp [HK32.out])]
        simp [HK32.out]
      have d4 : Below wr.heap.size wr w4.drew := grow_trans HQ4.out (below_drewN (Below.refl _ _) 1)
      have HWZ : Hid (wb.heap.size ≤ w4.drew.heap.size) := hRs _ _ (hRt _ _ _ hBw.out (hRb _ _ d4))
      have HBz : Hid (∀ z, Below wr.heap.size wr z → Rl wb z) := fun z hz => hRt _ _ _ hBw.out (hRb _ _ hz)
      refine wpIn_region_any (by kernel_rfl) ?_
      refine wpAnyIn_take (i := 0) (v := .func (.yield l) #[] #[]) rfl rfl (by kernel_rfl) (by kernel_rfl) (by kernel_rfl) (fun _ _ _ h => h) ⟨Or.inl ⟨by rfl, fun w => by go_simp⟩, fun _ => rfl⟩ ?_
      simp only [Act.put, zq1, zq2, zq4, zq5, zq6]
      refine wpAnyIn_take (i := 1) (v := .pointer (some ⟨g4, 0, none⟩)) rfl rfl (by kernel_rfl) (by kernel_rfl) (by kernel_rfl) (fun _ _ _ h => h) ⟨Or.inl ⟨by rfl, fun w => by go_simp⟩, fun _ => rfl⟩ ?_
      simp only [Act.put, zq1, zq2, zq3, zq4, zq5, zq6]
      refine wpAnyIn_take (i := 3) (v := .pointer (some ⟨g4, 32, none⟩)) rfl rfl (by kernel_rfl) (by kernel_rfl) (by kernel_rfl) (fun _ _ _ h => h) ⟨Or.inl ⟨by rfl, fun w => by go_simp⟩, fun _ => rfl⟩ ?_
      simp only [Act.put, zq1, zq2, zq3, zq4, zq5, zq6]
      refine wpAnyIn_ready (rs := [2, 4]) (by kernel_rfl) (by simp) ?_
      refine readyIn (.inl rfl) rfl (fun c e => by cases e) (fun KQ hK => ?_) (readyIn (.inl rfl) rfl (fun c e => by cases e) (fun KQ hK => ?_) AllReadyIn.nil)
      · refine step_ldm _ rfl 32 (.tmp 12) rfl g4 0 rfl (B K).toList (HR4.out _ (Below.refl _ _)) _ Tryz.underlying32 rfl HKL.out ?_
        refine hK _ _ ?_
        clear hK KQ
        rw [show (B K).toList.toArray = B K from Array.toArray_toList]
        try simp only [Act.put, zq1, zq2, zq3, zq4, zq5, zq6]
        refine wpAnyIn_ready (rs := [4]) (by kernel_rfl) (by simp) ?_
        refine readyIn (.inl rfl) rfl (fun c e => by cases e) (fun KQ hK => ?_) AllReadyIn.nil
        have c33 := HC33.out _ (Below.refl _ _)
        go_simp
        refine hK _ _ ?_
        clear hK KQ c33
        try simp only [Act.put, zq1, zq2, zq3, zq4, zq5, zq6]
        refine wpAnyIn_ready (rs := [5]) (by kernel_rfl) (by simp) ?_
        refine readyIn (.inl rfl) rfl (fun c e => by cases e) (fun KQ hK => ?_) AllReadyIn.nil
        go_simp
        refine (HCL.out _ d4).mono ?_
        rintro e z ⟨u, sp, rfl, ow, az⟩
        have d5 := grow_trans d4 az
        refine hK _ _ ?_
        clear hK KQ
        try simp only [Act.put, zq1, zq2, zq3, zq4, zq5, zq6]
        obtain ⟨fn, tmps, assign, body, hy, hR⟩ := HY.out pre ((K, bs), u) z (HJ.out _ _ _ hJs.out d5) ⟨HEK.out, sp, ow.mono HWZ.out⟩ HLN.out
        dsimp only at hy
        refine wpAnyIn_ready (rs := [6]) (by kernel_rfl) (by simp) ?_
        refine AllReadyIn.cons rfl (fun KQ hK => ?_) AllReadyIn.nil
        go_simp
        refine hR.mono ?_
        rintro e W3 (⟨rfl, hJ3, hb3⟩ | ⟨rfl, hJx3⟩)
        · refine hK _ _ ?_
          clear hK KQ
          have HX3 := hidden (show J (pre ++ [((K, bs), u)]) W3 ∧ Rl wb W3 from ⟨hJ3, hRt _ _ _ (HBz.out _ d5) hb3⟩)
          clear hJ3 hb3 hR hy
          refine wpAnyIn_take (i := 7) (v := .bool false) rfl rfl (by kernel_rfl) (by kernel_rfl) (by kernel_rfl) (fun _ _ _ h => h) ⟨Or.inl ⟨by rfl, fun w => by go_simp⟩, fun _ => rfl⟩ ?_
          simp only [Act.put, zq1, zq2, zq3, zq4, zq5, zq6]
          refine wpAnyIn_done (by kernel_rfl) ?_ _
          gi_wp2
          go_roundw
          case rel => exact ⟨k + 1, pre ++ [((K, bs), u)], by omega, by first | rfl | go_num, by rw [List.length_append, List.length_singleton, hpl], by show _ = _; rw [List.map_append, hpm.out, List.take_add_one, HEKk.out]; rfl, HX3.out.1, HX3.out.2⟩
          case measure => simp [intOf]; omega
        · refine hK _ _ ?_
          clear hK KQ hR hy
          refine wpAnyIn_take (i := 7) (v := .bool true) rfl rfl (by kernel_rfl) (by kernel_rfl) (by kernel_rfl) (fun _ _ _ h => h) ⟨Or.inl ⟨by rfl, fun w => by go_simp⟩, fun _ => rfl⟩ ?_
          simp only [Act.put, zq1, zq2, zq3, zq4, zq5, zq6]
          refine wpAnyIn_done (by kernel_rfl) ?_ _
          gi_wp2
          refine bodyPost_ret (results_none rfl _ _ _) rfl ?_
          refine ⟨⟨_, rfl⟩, .inr ⟨_, ?_, hJx3⟩⟩
          rw [List.map_append, hpm.out]
          exact HPX.out
      · have c33 := HC33.out _ (Below.refl _ _)
        go_simp
        refine hK _ _ ?_
        clear hK KQ c33
        try simp only [Act.put, zq1, zq2, zq3, zq4, zq5, zq6]
        refine wpAnyIn_ready (rs := [2, 5]) (by kernel_rfl) (by simp) ?_
        refine readyIn (.inl rfl) rfl (fun c e => by cases e) (fun KQ hK => ?_) (readyIn (.inl rfl) rfl (fun c e => by cases e) (fun KQ hK => ?_) AllReadyIn.nil)
        · refine step_ldm _ rfl 32 (.tmp 12) rfl g4 0 rfl (B K).toList (HR4.out _ (Below.refl _ _)) _ Tryz.underlying32 rfl HKL.out ?_
          refine hK _ _ ?_
          clear hK KQ
          rw [show (B K).toList.toArray = B K from Array.toArray_toList]
          try simp only [Act.put, zq1, zq2, zq3, zq4, zq5, zq6]
          refine wpAnyIn_ready (rs := [5]) (by kernel_rfl) (by simp) ?_
          refine readyIn (.inl rfl) rfl (fun c e => by cases e) (fun KQ hK => ?_) AllReadyIn.nil
          go_simp
          refine (HCL.out _ d4).mono ?_
          rintro e z ⟨u, sp, rfl, ow, az⟩
          have d5 := grow_trans d4 az
          refine hK _ _ ?_
          clear hK KQ
          try simp only [Act.put, zq1, zq2, zq3, zq4, zq5, zq6]
          obtain ⟨fn, tmps, assign, body, hy, hR⟩ := HY.out pre ((K, bs), u) z (HJ.out _ _ _ hJs.out d5) ⟨HEK.out, sp, ow.mono HWZ.out⟩ HLN.out
          dsimp only at hy
          refine wpAnyIn_ready (rs := [6]) (by kernel_rfl) (by simp) ?_
          refine AllReadyIn.cons rfl (fun KQ hK => ?_) AllReadyIn.nil
          go_simp
          refine hR.mono ?_
          rintro e W3 (⟨rfl, hJ3, hb3⟩ | ⟨rfl, hJx3⟩)
          · refine hK _ _ ?_
            clear hK KQ
            have HX3 := hidden (show J (pre ++ [((K, bs), u)]) W3 ∧ Rl wb W3 from ⟨hJ3, hRt _ _ _ (HBz.out _ d5) hb3⟩)
            clear hJ3 hb3 hR hy
            refine wpAnyIn_take (i := 7) (v := .bool false) rfl rfl (by kernel_rfl) (by kernel_rfl) (by kernel_rfl) (fun _ _ _ h => h) ⟨Or.inl ⟨by rfl, fun w => by go_simp⟩, fun _ => rfl⟩ ?_
            simp only [Act.put, zq1, zq2, zq3, zq4, zq5, zq6]
            refine wpAnyIn_done (by kernel_rfl) ?_ _
            gi_wp2
            go_roundw
            case rel => exact ⟨k + 1, pre ++ [((K, bs), u)], by omega, by first | rfl | go_num, by rw [List.length_append, List.length_singleton, hpl], by show _ = _; rw [List.map_append, hpm.out, List.take_add_one, HEKk.out]; rfl, HX3.out.1, HX3.out.2⟩
            case measure => simp [intOf]; omega
          · refine hK _ _ ?_
            clear hK KQ hR hy
            refine wpAnyIn_take (i := 7) (v := .bool true) rfl rfl (by kernel_rfl) (by kernel_rfl) (by kernel_rfl) (fun _ _ _ h => h) ⟨Or.inl ⟨by rfl, fun w => by go_simp⟩, fun _ => rfl⟩ ?_
            simp only [Act.put, zq1, zq2, zq3, zq4, zq5, zq6]
            refine wpAnyIn_done (by kernel_rfl) ?_ _
            gi_wp2
            refine bodyPost_ret (results_none rfl _ _ _) rfl ?_
            refine ⟨⟨_, rfl⟩, .inr ⟨_, ?_, hJx3⟩⟩
            rw [List.map_append, hpm.out]
            exact HPX.out
        · go_simp
          refine (HCL.out _ d4).mono ?_
          rintro e z ⟨u, sp, rfl, ow, az⟩
          have d5 := grow_trans d4 az
          refine hK _ _ ?_
          clear hK KQ
          try simp only [Act.put, zq1, zq2, zq3, zq4, zq5, zq6]
          refine wpAnyIn_ready (rs := [2]) (by kernel_rfl) (by simp) ?_
          refine readyIn (.inl rfl) rfl (fun c e => by cases e) (fun KQ hK => ?_) AllReadyIn.nil
          refine step_ldm _ rfl 32 (.tmp 12) rfl g4 0 rfl (B K).toList (HR4.out _ (az)) _ Tryz.underlying32 rfl HKL.out ?_
          refine hK _ _ ?_
          clear hK KQ
          rw [show (B K).toList.toArray = B K from Array.toArray_toList]
          try simp only [Act.put, zq1, zq2, zq3, zq4, zq5, zq6]
          obtain ⟨fn, tmps, assign, body, hy, hR⟩ := HY.out pre ((K, bs), u) z (HJ.out _ _ _ hJs.out d5) ⟨HEK.out, sp, ow.mono HWZ.out⟩ HLN.out
          dsimp only at hy
          refine wpAnyIn_ready (rs := [6]) (by kernel_rfl) (by simp) ?_
          refine AllReadyIn.cons rfl (fun KQ hK => ?_) AllReadyIn.nil
          go_simp
          refine hR.mono ?_
          rintro e W3 (⟨rfl, hJ3, hb3⟩ | ⟨rfl, hJx3⟩)
          · refine hK _ _ ?_
            clear hK KQ
            have HX3 := hidden (show J (pre ++ [((K, bs), u)]) W3 ∧ Rl wb W3 from ⟨hJ3, hRt _ _ _ (HBz.out _ d5) hb3⟩)
            clear hJ3 hb3 hR hy
            refine wpAnyIn_take (i := 7) (v := .bool false) rfl rfl (by kernel_rfl) (by kernel_rfl) (by kernel_rfl) (fun _ _ _ h => h) ⟨Or.inl ⟨by rfl, fun w => by go_simp⟩, fun _ => rfl⟩ ?_
            simp only [Act.put, zq1, zq2, zq3, zq4, zq5, zq6]
            refine wpAnyIn_done (by kernel_rfl) ?_ _
            gi_wp2
            go_roundw
            case rel => exact ⟨k + 1, pre ++ [((K, bs), u)], by omega, by first | rfl | go_num, by rw [List.length_append, List.length_singleton, hpl], by show _ = _; rw [List.map_append, hpm.out, List.take_add_one, HEKk.out]; rfl, HX3.out.1, HX3.out.2⟩
            case measure => simp [intOf]; omega
          · refine hK _ _ ?_
            clear hK KQ hR hy
            refine wpAnyIn_take (i := 7) (v := .bool true) rfl rfl (by kernel_rfl) (by kernel_rfl) (by kernel_rfl) (fun _ _ _ h => h) ⟨Or.inl ⟨by rfl, fun w => by go_simp⟩, fun _ => rfl⟩ ?_
            simp only [Act.put, zq1, zq2, zq3, zq4, zq5, zq6]
            refine wpAnyIn_done (by kernel_rfl) ?_ _
            gi_wp2
            refine bodyPost_ret (results_none rfl _ _ _) rfl ?_
            refine ⟨⟨_, rfl⟩, .inr ⟨_, ?_, hJx3⟩⟩
            rw [List.map_append, hpm.out]
            exact HPX.out
    · obtain rfl : k = m := by omega
      have HP : Hid (pre.map (·.1) = es) := by
        have := hpm.out
        rw [List.take_of_length_le (by rw [← HM.out]; omega)] at this
        exact this
      gi_wp2
      go_end0
      exact ⟨⟨_, rfl⟩, .inl ⟨_, HP.out, hJs.out⟩⟩

end Go.Proofs.YtnnmfgnommbmkaaGreatDoor
