/- SlabScript's walk: the law returns true at every room and every calls, and nothing that was in memory turns. -/
import Derived.Test.YtodigmmpodbpiaaAct2
import Derived.Test.YtodigmmpodbpiaaAct5
namespace Go.Proofs.Ytodigmmpodbpiaa
set_option maxRecDepth 20000
open Go.RowKit

theorem vac_or (ps : List Pl) (s : Int) : Vac ps s ∨ ∃ i : Nat, s = (i : Int) + 1 ∧ 0 < cnt ps i := by
  by_cases h : ∃ i : Nat, s = (i : Int) + 1 ∧ 0 < cnt ps i
  · exact .inr h
  · refine .inl (fun i hi => ?_)
    apply Nat.eq_zero_of_not_pos
    intro hp
    exact h ⟨i, hi, hp⟩

theorem act_any (gs gw room : Nat) (ps : List Pl) (fr : List Nat) (ts : List Int) (cs fr2 : List Nat) (k s x : Int) (X : List (Nat × Obj)) (w0 w : World) (h : Hp w0 w X gs gw room ps fr ts cs fr2) (hr : Rel ps fr ts cs fr2) : Calls Try.prog 9 #[.agg #[Value.pointer (some ⟨gs, 0, none⟩), .pointer (some ⟨gw, 0, none⟩)], .agg #[.int .i64 k, .int .i64 s, .int .i64 x]] w (ActPost w0 X gs gw room) := by
  by_cases ho : k < 0 ∨ 6 < k
  · exact act_other gs gw room ps fr ts cs fr2 k s x X w0 w h hr ho
  · have hc : k = 0 ∨ k = 1 ∨ k = 2 ∨ k = 3 ∨ k = 4 ∨ k = 5 ∨ k = 6 := by omega
    rcases hc with rfl | rfl | rfl | rfl | rfl | rfl | rfl
    · rcases last_of fr with hf | ⟨fr0, s', hf⟩
      · by_cases hl : ps.length = room
        · exact act0_full gs gw room ps fr ts cs fr2 s x X w0 w h hr hf hl
        · exact act0_new gs gw room ps fr ts cs fr2 s x X w0 w h hr hf (by have := h.inv.len; omega)
      · have h1 := (h.inv.free s' (by rw [hf]; simp)).1
        obtain ⟨i, rfl⟩ : ∃ i, s' = i + 1 := ⟨s' - 1, by omega⟩
        exact act0_free gs gw room ps fr ts cs fr2 s x X w0 w h hr fr0 i hf
    · rcases vac_or ps s with hv | ⟨i, hs, hi⟩
      · exact act1_bad gs gw room ps fr ts cs fr2 s x X w0 w h hr hv
      · have := h.inv.most i
        by_cases hm : cnt ps i = 1073741824
        · exact act1_long gs gw room ps fr ts cs fr2 s x X w0 w h hr i hs hi hm
        · exact act1_ok gs gw room ps fr ts cs fr2 s x X w0 w h hr i hs hi (Nat.lt_of_le_of_ne this hm)
    · rcases vac_or ps s with hv | ⟨i, hs, hi⟩
      · exact act2_bad gs gw room ps fr ts cs fr2 s x X w0 w h hr hv
      · by_cases hm : cnt ps i = 1
        · exact act2_last gs gw room ps fr ts cs fr2 s x X w0 w h hr i hs hi hm
        · exact act2_more gs gw room ps fr ts cs fr2 s x X w0 w h hr i hs hi (by omega)
    · rcases vac_or ps s with hv | ⟨i, hs, hi⟩
      · exact act3_bad gs gw room ps fr ts cs fr2 s x X w0 w h hr hv
      · exact act3_ok gs gw room ps fr ts cs fr2 s x X w0 w h hr i hs hi
    · rcases vac_or ps s with hv | ⟨i, hs, hi⟩
      · exact act4_bad gs gw room ps fr ts cs fr2 s x X w0 w h hr hv
      · exact act4_ok gs gw room ps fr ts cs fr2 s x X w0 w h hr i hs hi
    · exact act5 gs gw room ps fr ts cs fr2 s x X w0 w h hr
    · exact act6 gs gw room ps fr ts cs fr2 s x X w0 w h hr

theorem size_pair6 : (Try.prog.info? 31).map (·.size) = some 2 := by kernel_rfl

theorem size_act6 : (Try.prog.info? 34).map (·.size) = some 3 := by kernel_rfl

set_option maxHeartbeats 4000000 in
theorem slabScript_walk (az : Option Addr) (N c : Nat) (K S X : Nat → Int) (R : Int) (w : World)
    (hA : 0 < N → ∃ sb so, az = some ⟨sb, so, none⟩ ∧ ∀ i, i < N → w.cell? ⟨sb, so + i * 3, none⟩ = some (.int .i64 (K i)) ∧ w.cell? ⟨sb, so + i * 3 + 1, none⟩ = some (.int .i64 (S i)) ∧ w.cell? ⟨sb, so + i * 3 + 2, none⟩ = some (.int .i64 (X i))) :
    Calls Try.prog 3 #[.int .i64 R, .slice az N c] w fun e w' => e = .returned (.bool true) ∧ Below w.heap.size w w' := by
  by_cases hN : 400 < N
  · have hN' : (400 : Int) < (N : Int) := by omega
    clear hA hN
    go_enter Try.func3, Try.ntmps3
    go_wp2
    go_ret
    exact ⟨rfl, Below.refl _ _⟩
  · have hN' : ¬ (400 : Int) < (N : Int) := by omega
    by_cases hroom : 1 ≤ R ∧ R ≤ 65536
    · obtain ⟨room, hr⟩ : ∃ room : Nat, R = (room : Int) := ⟨R.toNat, by omega⟩
      subst hr
      have h1 : 1 ≤ room := by omega
      have h2 : room ≤ 65536 := by omega
      have HN1 : Hid (∀ w', Calls Try.prog 7 #[.int .i64 (room : Int)] w' fun e w'' => ∃ g, e = .returned (.tuple #[.pointer (some ⟨g, 0, none⟩), .int .i64 0]) ∧ w'.heap.size ≤ g ∧ SlI w'' g (.slice none 0 0) (.slice none 0 0) room [] [] ∧ Below w'.heap.size w' w'') := fun w' => new_okI room w' h1 h2
      have HN2 : Hid (∀ w', Calls Try.prog 8 #[.int .i64 (room : Int)] w' fun e w'' => ∃ g, e = .returned (.tuple #[.pointer (some ⟨g, 0, none⟩), .int .i64 0]) ∧ w'.heap.size ≤ g ∧ Rf w'' g (.slice none 0 0) (.slice none 0 0) (.slice none 0 0) room [] [] [] ∧ Below w'.heap.size w' w'') := fun w' => rnew_ok room w' h1 h2
      have HA := hidden hA
      clear hA hroom h1 h2 hN
      go_enter Try.func3, Try.ntmps3
      go_wp2_with (first
        | (go_at_call 7; refine (HN1.out _).mono ?_; rintro e w1 ⟨gs, rfl, hgs, hS1, b1⟩)
        | (go_at_call 8; refine (HN2.out _).mono ?_; rintro e w2 ⟨gw, rfl, hgw, hR2, b2⟩))
      have hH0 : Hp w w2 [] gs gw room [] [] [] [] [] := by
        refine ⟨_, _, _, _, _, hS1.mod (Mod.of_below b2 []) (fun _ _ h => by cases h), hR2, fun k hk hk2 => ?_, fun k hk => ?_, fun k hk => ?_, fun x hx => (by cases hx), grow_trans b1 b2⟩
        · obtain rfl : k = gs := by simpa [slB, Value.ownBlock] using hk
          obtain rfl : k = gw := by simpa [rfB, Value.ownBlock] using hk2
          have := hS1.blk.lt
          omega
        · obtain rfl : k = gs := by simpa [slB, Value.ownBlock] using hk
          exact hgs
        · obtain rfl : k = gw := by simpa [rfB, Value.ownBlock] using hk
          have := b1.size
          omega
      have hH1 := hH0.hold (Obj.cells #[Value.pointer (some ⟨gs, 0, none⟩), .pointer (some ⟨gw, 0, none⟩)] 31 (0, 0))
      have hR0 : Rel [] [] [] [] [] := ⟨rfl, rfl, fun i hi => by simp at hi, fun i hi => by simp [cnt] at hi, rfl⟩
      have HH1 : Hid (∃ ps fr ts cs fr2, Hp w (w2.alloc (Obj.cells #[Value.pointer (some ⟨gs, 0, none⟩), .pointer (some ⟨gw, 0, none⟩)] 31 (0, 0))) [(w2.heap.size, (Obj.cells #[Value.pointer (some ⟨gs, 0, none⟩), .pointer (some ⟨gw, 0, none⟩)] 31 (0, 0)))] gs gw room ps fr ts cs fr2 ∧ Rel ps fr ts cs fr2) := ⟨_, _, _, _, _, hH1, hR0⟩
      clear hH0 hH1 hS1 hR2 hgs hgw b1 b2 hR0 HN1 HN2
      obtain ⟨w3, hw3⟩ : ∃ y, y = w2.alloc (Obj.cells #[Value.pointer (some ⟨gs, 0, none⟩), .pointer (some ⟨gw, 0, none⟩)] 31 (0, 0)) := ⟨_, rfl⟩
      rw [← hw3] at HH1 ⊢
      clear hw3
      generalize w2.heap.size = gp at *
      have HSS : Hid (∀ w' ps fr ts cs fr2, Hp w w' [(gp, (Obj.cells #[Value.pointer (some ⟨gs, 0, none⟩), .pointer (some ⟨gw, 0, none⟩)] 31 (0, 0)))] gs gw room ps fr ts cs fr2 → ∀ sb so k, az = some ⟨sb, so, none⟩ → k < N → w'.rangeAt gp 0 [Value.pointer (some ⟨gs, 0, none⟩), .pointer (some ⟨gw, 0, none⟩)] ∧ w'.rangeAt sb (so + k * 3) [Value.int .i64 (K k), .int .i64 (S k), .int .i64 (X k)]) := by
        intro w' ps fr ts cs fr2 hp sb so k e hk
        have k1 := hp.held (g := gp) (cells := #[Value.pointer (some ⟨gs, 0, none⟩), .pointer (some ⟨gw, 0, none⟩)]) (t := 31) (by simp)
        obtain ⟨sb', so', e', hall⟩ := HA.out (by omega)
        rw [e] at e'
        simp only [Option.some.injEq, Addr.mk.injEq, and_true] at e'
        obtain ⟨rfl, rfl⟩ := e'
        obtain ⟨a1, a2, a3⟩ := hall k hk
        have a1 := below_cell hp.low a1
        have a2 := below_cell hp.low a2
        have a3 := below_cell hp.low a3
        refine ⟨k1.range, fun j v hv => ?_⟩
        match j, hv with
        | 0, hv => simp at hv; subst hv; exact a1
        | 1, hv => simp at hv; subst hv; exact a2
        | 2, hv => simp at hv; subst hv; exact a3
        | (j + 3), hv => simp at hv
      go_loopw [10] (fun i wr => ∃ k : Nat, k ≤ N ∧ i = .int .i64 k ∧ Hid (∃ ps fr ts cs fr2, Hp w wr [(gp, (Obj.cells #[Value.pointer (some ⟨gs, 0, none⟩), .pointer (some ⟨gw, 0, none⟩)] 31 (0, 0)))] gs gw room ps fr ts cs fr2 ∧ Rel ps fr ts cs fr2)) (fun i _ => N - (intOf i).toNat)
      case atStart => exact ⟨0, by omega, rfl, HH1⟩
      case round =>
        clear HH1
        obtain ⟨k, hk, rfl, hH⟩ := hrel
        obtain ⟨ps, fr, ts, cs, fr2, hHp, hRel⟩ := hH.out
        have hwk : wrap64 ((k : Int) + 1) = ((k + 1 : Nat) : Int) := by rw [Go.IntWalk.wrap64_in _ (by omega)]; rfl
        by_cases hlt : k < N
        · have i1 : (k : Int) < (N : Int) := by omega
          have i0 : (0 : Int) ≤ (k : Int) := by omega
          obtain ⟨sb, so, rfl, _⟩ := HA.out (by omega)
          have hhd := hHp.grow (w' := wr.drew) (Below.refl _ _).drew
          have HHd := hidden hhd
          have HS0 := hidden (HSS.out _ _ _ _ _ _ hhd sb so k rfl hlt)
          have HR := hidden hRel
          have HK := hidden hlt
          clear hhd hHp hRel hH
          go_wp2_with fail
          refine wp_region_held_drew (S := fun w' => w'.rangeAt gp 0 [Value.pointer (some ⟨gs, 0, none⟩), .pointer (some ⟨gw, 0, none⟩)] ∧ w'.rangeAt sb (so + k * 3) [Value.int .i64 (K k), .int .i64 (S k), .int .i64 (X k)]) (by kernel_rfl) (HS0.out) (fun hHeld => ?_)
          refine wpAnyH_take (i := 0) (v := .agg #[Value.pointer (some ⟨gs, 0, none⟩), .pointer (some ⟨gw, 0, none⟩)]) rfl (by kernel_rfl) (by kernel_rfl) (by kernel_rfl) (fun _ _ _ h => h) (yieldsIf_load_mid rfl 31 (.tmp 9) rfl gp 0 rfl [Value.pointer (some ⟨gs, 0, none⟩), .pointer (some ⟨gw, 0, none⟩)] _ (fun w hS => hS.1) Try.underlying31 rfl size_pair6) hHeld ?_
          simp only [Act.put, List.getElem_toArray, List.getElem_cons_zero, List.setIfInBounds_toArray, List.set_cons_zero, List.set_cons_succ]
          refine wpAnyH_take (i := 1) (v := .slice (some ⟨sb, so, none⟩) N c) rfl (by kernel_rfl) (by kernel_rfl) (by kernel_rfl) (fun _ _ _ h => h) (Or.inl ⟨by rfl, fun w hS => by go_simp⟩) hHeld ?_
          simp only [Act.put, List.getElem_toArray, List.getElem_cons_zero, List.getElem_cons_succ, List.setIfInBounds_toArray, List.set_cons_zero, List.set_cons_succ]
          refine wpAnyH_take (i := 2) (v := .int .i64 (k : Int)) rfl (by kernel_rfl) (by kernel_rfl) (by kernel_rfl) (fun _ _ _ h => h) (Or.inl ⟨by rfl, fun w hS => by go_simp⟩) hHeld ?_
          simp only [Act.put, List.getElem_toArray, List.getElem_cons_zero, List.getElem_cons_succ, List.setIfInBounds_toArray, List.set_cons_zero, List.set_cons_succ]
          refine wpAnyH_take (i := 3) (v := .pointer (some ⟨sb, so + k * 3, none⟩)) rfl (by kernel_rfl) (by kernel_rfl) (by kernel_rfl) (fun _ _ _ h => h) (Or.inl ⟨by rfl, fun w hS => by go_simp⟩) hHeld ?_
          simp only [Act.put, List.getElem_toArray, List.getElem_cons_zero, List.getElem_cons_succ, List.setIfInBounds_toArray, List.set_cons_zero, List.set_cons_succ]
          refine wpAnyH_take (i := 4) (v := .agg #[.int .i64 (K k), .int .i64 (S k), .int .i64 (X k)]) rfl (by kernel_rfl) (by kernel_rfl) (by kernel_rfl) (fun _ _ _ h => h) (yieldsIf_load_mid rfl 34 (.tmp 48) rfl sb (so + k * 3) rfl [Value.int .i64 (K k), .int .i64 (S k), .int .i64 (X k)] _ (fun w hS => hS.2) Try.underlying34 rfl size_act6) hHeld ?_
          simp only [Act.put, List.getElem_toArray, List.getElem_cons_zero, List.getElem_cons_succ, List.setIfInBounds_toArray, List.set_cons_zero, List.set_cons_succ]
          refine wpAnyH_ready (rs := [5]) (by kernel_rfl) (by simp) ?_
          refine AllReadyH.cons rfl (fun KQ hK => ?_) AllReadyH.nil
          go_simp
          refine (act_any gs gw room ps fr ts cs fr2 (K k) (S k) (X k) _ w _ HHd.out HR.out).mono ?_
          rintro e wB ⟨rfl, ps', fr', ts', cs', fr2', hB, hR'⟩
          have hSB := HSS.out _ _ _ _ _ _ hB sb so k rfl HK.out
          refine hK.out _ _ (hSB) (fun hHeld => ?_)
          clear hK KQ
          refine wpAnyH_take (i := 6) (v := .bool false) rfl (by kernel_rfl) (by kernel_rfl) (by kernel_rfl) (fun _ _ _ h => h) (Or.inl ⟨by rfl, fun w hS => by go_simp⟩) hHeld ?_
          simp only [Act.put, List.getElem_toArray, List.getElem_cons_zero, List.getElem_cons_succ, List.setIfInBounds_toArray, List.set_cons_zero, List.set_cons_succ]
          refine wpAnyH_done (by kernel_rfl) ?_ _
          go_wp2
          exact ⟨⟨k + 1, by omega, by go_num, ⟨_, _, _, _, _, hB, hR'⟩⟩, by simp [intOf]; omega⟩
        · obtain rfl : k = N := by omega
          have HHp := hidden hHp
          have HR := hidden hRel
          have k1 := hHp.held (g := gp) (cells := #[Value.pointer (some ⟨gs, 0, none⟩), .pointer (some ⟨gw, 0, none⟩)]) (t := 31) (by simp)
          have p0 : wr.cell? ⟨gp, 0, none⟩ = some (.pointer (some ⟨gs, 0, none⟩)) := by rw [k1.cell]; rfl
          have p1 : wr.cell? ⟨gp, 1, none⟩ = some (.pointer (some ⟨gw, 0, none⟩)) := by rw [k1.cell]; rfl
          clear hHp hRel hH k1
          go_wp2_with (first
            | (go_at_call 10; refine (HHp.out.look (P := fun e _ => e = .returned (.bool true)) (fun vp vf vt vc vf2' h1 h2 => gone_any gs gw vp vf vt vc vf2' room ps fr fr2 ts cs 0 _ h1 h2 HR.out.cs HR.out.nums HR.out.ths)).mono ?_; rintro e wB ⟨rfl, hB⟩; have k2 := hB.held (g := gp) (cells := #[Value.pointer (some ⟨gs, 0, none⟩), .pointer (some ⟨gw, 0, none⟩)]) (t := 31) (by simp); have r0 : wB.cell? ⟨gp, 0, none⟩ = some (.pointer (some ⟨gs, 0, none⟩)) := (by rw [k2.cell]; rfl); have r1 : wB.cell? ⟨gp, 1, none⟩ = some (.pointer (some ⟨gw, 0, none⟩)) := (by rw [k2.cell]; rfl); have HB := hidden hB; clear hB k2)
            | (go_at_call 9; refine (act_any gs gw room ps fr ts cs fr2 5 0 0 _ w _ HB.out HR.out).mono ?_; rintro e wC ⟨rfl, ps', fr', ts', cs', fr2', hC, hR'⟩; have HCC := hidden hC; clear hC hR'))
          go_ret
          exact ⟨rfl, HCC.out.low⟩
    · have HB := hidden hroom
      clear hroom hA hN
      go_enter Try.func3, Try.ntmps3
      go_wp2_with (first
        | (go_at_call 7; refine (new_badI R _ HB.out).mono ?_; rintro e w1 ⟨rfl, hx⟩; rw [hx]; clear hx w1)
        | (go_at_call 8; refine (rnew_bad R _ HB.out).mono ?_; rintro e w1 ⟨rfl, hx⟩; rw [hx]; clear hx w1))
      go_ret
      exact ⟨rfl, Below.refl _ _⟩

end Go.Proofs.Ytodigmmpodbpiaa
