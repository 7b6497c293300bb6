/- SlabCounts' walk: whatever is taken, held and dropped, the slab answers as two maps that count say, and nothing that was in memory turns. -/
import Derived.Test.YtodigmmpodbpiaaCntHc
import Derived.Test.YtodigmmpodbpiaaAwake
import Derived.Deep.RegionHeld2
namespace Go.Proofs.Ytodigmmpodbpiaa
set_option maxRecDepth 20000
open Go.RowKit

theorem one3 (a b c : Int) : (#[Value.int .i64 a, .int .i64 b, .int .i64 c] : Array Value).all (·.oneCell') = true := all_oneCell_toArray (cs := [Value.int .i64 a, .int .i64 b, .int .i64 c]) (fun u hu => List.all_eq_true.1 (show [Value.int .i64 a, .int .i64 b, .int .i64 c].all (·.oneCell') = true from rfl) u hu)

/-- What a round's last question reads. -/
def ST (ga bc : Nat) (s o q : Int) (w : World) : Prop := w.cell? ⟨ga, 1, none⟩ = some (.int .i64 s) ∧ (∀ ty, (Builtin.len_ #[47] ty #[.map (some bc)]).run Try.prog w = .ok (.int .i64 o) w) ∧ (Instr.lookup 47 (.map (some bc)) (.int .i64 s) false).run Try.prog w = .ok (.int .i64 q) w
theorem ST.of {w0 w : World} {ga g bt bc room m : Nat} {kk s x : Int} {ps qt qc : List Pl} {fr : List Nat} (h : Hc w0 w [(ga, (Obj.cells #[Value.int .i64 kk, .int .i64 s, .int .i64 x] 34 (0, 0)))] g bt bc room ps fr m qt qc) (hs : Wf s) : ST ga bc s (occs qc : Int) (cntS qc s : Int) w :=
  ⟨by rw [(h.held (k := ga) (cells := #[Value.int .i64 kk, .int .i64 s, .int .i64 x]) (t := 34) (by simp)).cell]; rfl, fun ty => h.cm.len ty, h.cm.look hs⟩

set_option maxHeartbeats 4000000 in
theorem slabCounts_walk (az : Option Addr) (N c : Nat) (K S X : Nat → Int) (R : Int) (w : World)
    (hA : 0 < N → ∃ sb so, az = some ⟨sb, so, none⟩ ∧ ∀ i, i < N → w.cell? ⟨sb, so + i * 3, none⟩ = some (.int .i64 (K i)) ∧ w.cell? ⟨sb, so + i * 3 + 1, none⟩ = some (.int .i64 (S i)) ∧ w.cell? ⟨sb, so + i * 3 + 2, none⟩ = some (.int .i64 (X i)) ∧ Wf (S i)) :
    Calls Try.prog 5 #[.int .i64 R, .slice az N c] w fun e w' => e = .returned (.bool true) ∧ Below w.heap.size w w' := by
  have HAW : Hid (∀ w, Calls Try.prog 12 #[] w fun e w' => e = .returned (.bool true) ∧ Below w.heap.size w w') := fun w => awake_any w
  have hmm := @run_makeMap Try.prog
  by_cases hroom : 1 ≤ R ∧ R ≤ 65536
  · obtain ⟨room, hr⟩ : ∃ room : Nat, R = (room : Int) := ⟨R.toNat, by omega⟩
    subst hr
    have h1 : 1 ≤ room := by omega
    have h2 : room ≤ 65536 := by omega
    have HN1 : Hid (∀ w', Calls Try.prog 13 #[.int .i64 (room : Int)] w' fun e w'' => ∃ g, e = .returned (.tuple #[.pointer (some ⟨g, 0, none⟩), .int .i64 0]) ∧ w'.heap.size ≤ g ∧ SlA w'' g (.slice none 0 0) (.slice none 0 0) room [] [] ∧ Below w'.heap.size w' w'') := fun w' => new_okA room w' h1 h2
    clear hroom h1 h2
    by_cases hN : 400 < N
    · have hN' : (400 : Int) < (N : Int) := by omega
      clear hA hN hmm
      go_enter Try.func5, Try.ntmps5
      go_wp2_with (first
        | (go_at_call 12; refine (HAW.out _).mono ?_; rintro e y1 ⟨rfl, b1⟩; have HB1 := hidden b1; clear b1)
        | (go_at_call 13; refine (HN1.out _).mono ?_; rintro e y2 ⟨g, rfl, hg, hS1, b2⟩; have HB2 := hidden b2; clear hg hS1 b2))
      go_ret
      exact ⟨rfl, grow_trans HB1.out HB2.out⟩
    · have hN' : ¬ (400 : Int) < (N : Int) := by omega
      have HA := hidden hA
      have hN4 : N ≤ 400 := by omega
      clear hA hN
      go_enter Try.func5, Try.ntmps5
      go_wp2_with (first
        | (go_at_call 12; refine (HAW.out _).mono ?_; rintro e y1 ⟨rfl, b1⟩; have HB1 := hidden b1; clear b1)
        | (go_at_call 13; refine (HN1.out _).mono ?_; rintro e y2 ⟨g, rfl, hg, hS1, b2⟩; have HB2 := hidden b2; have HG := hidden hg; have HSl := hidden hS1; clear hg hS1 b2))
      have hH0 : Hc w ((y2.alloc (.map #[] 0)).alloc (.map #[] 0)) [] g y2.heap.size (y2.heap.size + 1) room [] [] 0 [] [] := by
        have bb := grow_trans HB1.out HB2.out
        have g1 : Below y2.heap.size y2 (y2.alloc (.map #[] 0)) := grow_alloc y2 _
        have g2 : Below (y2.alloc (.map #[] 0)).heap.size (y2.alloc (.map #[] 0)) ((y2.alloc (.map #[] 0)).alloc (.map #[] 0)) := grow_alloc _ _
        have hlt := HSl.out.blk.lt
        have hg := HG.out
        have hs1 := HB1.out.size
        have hC := CM.new (y2.alloc (.map #[] 0))
        rw [World.size_alloc] at hC
        refine ⟨_, _, HSl.out.mod (Mod.of_below (grow_trans g1 g2) []) (fun _ _ h => by cases h), fun k hk => ?_, ⟨(TM.new y2).mod (Mod.of_below g2 []) (by simp), bb.size, fun hk => ?_⟩, ⟨hC, Nat.le_trans bb.size (Nat.le_succ _), fun hk => ?_⟩, by omega, fun x hx => (by cases hx), grow_trans bb (grow_trans g1 g2)⟩
        · obtain rfl : k = g := by simpa [slB, Value.ownBlock] using hk
          omega
        · have : y2.heap.size = g := by simpa [slB, Value.ownBlock] using hk
          omega
        · have : y2.heap.size + 1 = g := by simpa [slB, Value.ownBlock] using hk
          omega
      have HH1 : Hid (∃ ps fr, Hc w ((y2.alloc (.map #[] 0)).alloc (.map #[] 0)) [] g y2.heap.size (y2.heap.size + 1) room ps fr 0 ps ps ∧ Ps 0 ps) := ⟨_, _, hH0, Ps.nil⟩
      clear hH0 HB1 HB2 HG HSl HN1 HAW hmm
      obtain ⟨w3, hw3⟩ : ∃ y, y = (y2.alloc (.map #[] 0)).alloc (.map #[] 0) := ⟨_, rfl⟩
      rw [← hw3] at HH1 ⊢
      clear hw3
      generalize y2.heap.size = bt at *
      generalize bt + 1 = bc at *
      go_loopw [10] (fun i wr => ∃ k : Nat, k ≤ N ∧ i = .int .i64 k ∧ Hid (∃ ps fr, Hc w wr [] g bt bc room ps fr k ps ps ∧ Ps k ps)) (fun i _ => N - (intOf i).toNat)
      case atStart => exact ⟨0, by omega, rfl, HH1⟩
      case round =>
        clear HH1
        obtain ⟨k, hk, rfl, hH⟩ := hrel
        obtain ⟨ps, fr, hHp, hPs⟩ := hH.out
        have hwk : wrap64 ((k : Int) + 1) = ((k + 1 : Nat) : Int) := by rw [Go.IntWalk.wrap64_in _ (by omega)]; rfl
        by_cases hlt : k < N
        · have i1 : (k : Int) < (N : Int) := by omega
          have i0 : (0 : Int) ≤ (k : Int) := by omega
          obtain ⟨sb, so, rfl, hall⟩ := HA.out (by omega)
          obtain ⟨a1, a2, a3, a4⟩ := hall k hlt
          have HR0 : Hid (wr.rangeAt sb (so + k * 3) [Value.int .i64 (K k), .int .i64 (S k), .int .i64 (X k)]) := by
            have a1 := below_cell hHp.low a1
            have a2 := below_cell hHp.low a2
            have a3 := below_cell hHp.low a3
            intro j v hv
            match j, hv with
            | 0, hv => simp at hv; subst hv; exact a1
            | 1, hv => simp at hv; subst hv; exact a2
            | 2, hv => simp at hv; subst hv; exact a3
            | (j + 3), hv => simp at hv
          have HWf := hidden a4
          have HHp := hidden hHp
          have HPs := hidden hPs
          have HI := hidden hHp.inv
          have hk4 : k < 400 := by omega
          clear hall a1 a2 a3 a4 hHp hPs hH HA
          generalize K k = kk at *
          generalize S k = s at *
          generalize X k = x at *
          by_cases k0 : kk = 0
          · subst k0
            rcases List.eq_nil_or_concat fr with hfr | ⟨fr0, f, hfr⟩
            · subst hfr
              by_cases hl : ps.length = room
              · skip
                as_aux_lemma =>
                  have HL := hidden hl
                  have HOC : Hid (occs ps = room) := by
                    have h3 := HI.out.sum
                    simp at h3
                    show occs ps = room
                    omega
                  clear hl
                  go_wp2_with (first
                    | ((with_reducible refine at_ldd 45 44 ?_); refine wpList_load_mid rfl _ _ rfl sb (so + k * 3) rfl [Value.int .i64 0, .int .i64 s, .int .i64 x] _ HR0.out Try.underlying34 rfl size_thA ?_)
                    | ((with_reducible refine at_ald 11 ?_); refine wpList_al _ rfl _ rfl _ zero_thA ?_; intro x1 ga hga hla B1 q1; have HB1 := hidden B1; have Hq1 := hidden q1; have Hga := hidden hga; clear B1 q1 hga hla)
                    | ((with_reducible refine at_st 11 ?_); refine wpList_sto _ rfl _ _ _ rfl ga _ #[Value.int .i64 0, .int .i64 s, .int .i64 x] rfl rfl HB1.out size_thA rfl (one3 _ _ _) ?_; intro x2 B2 q2; have HH := hidden (HHp.out.hold (below_of Hq1.out Hga.out q2) B2 Hga.out); have c0 : x2.cell? ⟨ga, 0, none⟩ = some (.int .i64 0) := (by rw [B2.cell]; rfl); have c1 : x2.cell? ⟨ga, 1, none⟩ = some (.int .i64 s) := (by rw [B2.cell]; rfl); clear B2 q2 HB1 Hq1 Hga)
                    | ((with_reducible refine at_ldd 52 11 ?_); refine wpList_lds _ rfl _ _ rfl ga _ #[Value.int .i64 0, .int .i64 s, .int .i64 x] rfl (HH.out.held (k := ga) (cells := #[Value.int .i64 0, .int .i64 s, .int .i64 x]) (t := 34) (by simp)) Try.underlying34 size_thA ?_)
                    | (go_at_call 14; refine (HH.out.look (P := fun e _ => e = .returned (.tuple #[.int .i64 0, .int .i64 9])) (fun vp vf h1 => take_fullA g vp vf room ps 0 s x _ h1 HL.out)).mono ?_; rintro e x3 ⟨rfl, h3⟩; replace HH := hidden h3; clear h3; have ll : ∀ ty, (Builtin.len_ #[47] ty #[.map (some bc)]).run Try.prog x3 = .ok (.int .i64 (room : Int)) x3 := (fun ty => by have h3 := HH.out.cm.len ty; rw [HOC.out] at h3; exact h3)))
                  have hhd := HH.out.grow (w' := x3.drew) (Below.refl _ _).drew
                  have HHd := hidden hhd
                  have HS0 := hidden (ST.of hhd HWf.out)
                  clear hhd
                  refine wp_region_held_drew (S := ST ga bc s (occs ps : Int) (cntS ps s : Int)) (by kernel_rfl) (HS0.out) (fun hHeld => ?_)
                  refine wpAnyH_take (i := 0) (v := .pointer (some ⟨g, 0, none⟩)) rfl (by kernel_rfl) (by kernel_rfl) (by kernel_rfl) (fun _ _ _ h => h) (Or.inl ⟨by rfl, fun w hS => by go_simp⟩) hHeld ?_
                  simp only [Act.put, List.getElem_toArray, List.getElem_cons_zero, List.setIfInBounds_toArray, List.set_cons_zero, List.set_cons_succ]
                  refine wpAnyH_take (i := 2) (v := .map (some bc)) rfl (by kernel_rfl) (by kernel_rfl) (by kernel_rfl) (fun _ _ _ h => h) (Or.inl ⟨by rfl, fun w hS => by go_simp⟩) hHeld ?_
                  simp only [Act.put, List.getElem_toArray, List.getElem_cons_zero, List.getElem_cons_succ, List.setIfInBounds_toArray, List.set_cons_zero, List.set_cons_succ]
                  refine wpAnyH_ready (rs := [1]) (by kernel_rfl) (by simp) ?_
                  refine AllReadyH.cons rfl (fun KQ hK => ?_) AllReadyH.nil
                  go_simp
                  refine (HHd.out.look (P := fun e _ => e = .returned (.int .i64 (occs ps : Int))) (fun vp vf h1 => len_okA g vp vf room _ _ _ h1)).mono ?_
                  rintro e wB ⟨rfl, hB⟩
                  have hSB := ST.of hB HWf.out
                  have HB := hidden hB
                  clear hB
                  refine hK.out _ _ (hSB) (fun hHeld => ?_)
                  clear hK KQ
                  refine wpAnyH_take (i := 3) (v := .int .i64 (occs ps : Int)) rfl (by kernel_rfl) (by kernel_rfl) (by kernel_rfl) (fun _ _ _ h => h) (Or.inl ⟨by rfl, fun w hS => by (have q1 := hS.2.1; go_simp)⟩) hHeld ?_
                  simp only [Act.put, List.getElem_toArray, List.getElem_cons_zero, List.getElem_cons_succ, List.setIfInBounds_toArray, List.set_cons_zero, List.set_cons_succ]
                  refine wpAnyH_take (i := 4) (v := .bool false) rfl (by kernel_rfl) (by kernel_rfl) (by kernel_rfl) (fun _ _ _ h => h) (Or.inl ⟨by rfl, fun w hS => by go_simp⟩) hHeld ?_
                  simp only [Act.put, List.getElem_toArray, List.getElem_cons_zero, List.getElem_cons_succ, List.setIfInBounds_toArray, List.set_cons_zero, List.set_cons_succ]
                  refine wpAnyH_take (i := 5) (v := .bool false) rfl (by kernel_rfl) (by kernel_rfl) (by kernel_rfl) (fun _ _ _ h => h) (Or.inl ⟨by rfl, fun w hS => by go_simp⟩) hHeld ?_
                  simp only [Act.put, List.getElem_toArray, List.getElem_cons_zero, List.getElem_cons_succ, List.setIfInBounds_toArray, List.set_cons_zero, List.set_cons_succ]
                  refine wpAnyH_take (i := 6) (v := .pointer (some ⟨g, 0, none⟩)) rfl (by kernel_rfl) (by kernel_rfl) (by kernel_rfl) (fun _ _ _ h => h) (Or.inl ⟨by rfl, fun w hS => by go_simp⟩) hHeld ?_
                  simp only [Act.put, List.getElem_toArray, List.getElem_cons_zero, List.getElem_cons_succ, List.setIfInBounds_toArray, List.set_cons_zero, List.set_cons_succ]
                  refine wpAnyH_take (i := 7) (v := .pointer (some ⟨ga, 1, none⟩)) rfl (by kernel_rfl) (by kernel_rfl) (by kernel_rfl) (fun _ _ _ h => h) (Or.inl ⟨by rfl, fun w hS => by go_simp⟩) hHeld ?_
                  simp only [Act.put, List.getElem_toArray, List.getElem_cons_zero, List.getElem_cons_succ, List.setIfInBounds_toArray, List.set_cons_zero, List.set_cons_succ]
                  refine wpAnyH_take (i := 8) (v := .int .i64 s) rfl (by kernel_rfl) (by kernel_rfl) (by kernel_rfl) (fun _ _ _ h => h) (Or.inl ⟨by rfl, fun w hS => by (have q1 := hS.1; go_simp)⟩) hHeld ?_
                  simp only [Act.put, List.getElem_toArray, List.getElem_cons_zero, List.getElem_cons_succ, List.setIfInBounds_toArray, List.set_cons_zero, List.set_cons_succ]
                  refine wpAnyH_take (i := 10) (v := .map (some bc)) rfl (by kernel_rfl) (by kernel_rfl) (by kernel_rfl) (fun _ _ _ h => h) (Or.inl ⟨by rfl, fun w hS => by go_simp⟩) hHeld ?_
                  simp only [Act.put, List.getElem_toArray, List.getElem_cons_zero, List.getElem_cons_succ, List.setIfInBounds_toArray, List.set_cons_zero, List.set_cons_succ]
                  refine wpAnyH_take (i := 11) (v := .pointer (some ⟨ga, 1, none⟩)) rfl (by kernel_rfl) (by kernel_rfl) (by kernel_rfl) (fun _ _ _ h => h) (Or.inl ⟨by rfl, fun w hS => by go_simp⟩) hHeld ?_
                  simp only [Act.put, List.getElem_toArray, List.getElem_cons_zero, List.getElem_cons_succ, List.setIfInBounds_toArray, List.set_cons_zero, List.set_cons_succ]
                  refine wpAnyH_take (i := 12) (v := .int .i64 s) rfl (by kernel_rfl) (by kernel_rfl) (by kernel_rfl) (fun _ _ _ h => h) (Or.inl ⟨by rfl, fun w hS => by (have q1 := hS.1; go_simp)⟩) hHeld ?_
                  simp only [Act.put, List.getElem_toArray, List.getElem_cons_zero, List.getElem_cons_succ, List.setIfInBounds_toArray, List.set_cons_zero, List.set_cons_succ]
                  refine wpAnyH_take (i := 13) (v := .int .i64 (cntS ps s : Int)) rfl (by kernel_rfl) (by kernel_rfl) (by kernel_rfl) (fun _ _ _ h => h) (Or.inl ⟨by rfl, fun w hS => by (have q1 := hS.2.2; go_simp)⟩) hHeld ?_
                  simp only [Act.put, List.getElem_toArray, List.getElem_cons_zero, List.getElem_cons_succ, List.setIfInBounds_toArray, List.set_cons_zero, List.set_cons_succ]
                  refine wpAnyH_ready (rs := [9]) (by kernel_rfl) (by simp) ?_
                  refine AllReadyH.cons rfl (fun KQ hK => ?_) AllReadyH.nil
                  go_simp
                  refine (HB.out.look (P := fun e _ => e = .returned (.int .i64 (cntS ps s : Int))) (fun vp vf h1 => count_anyA g vp vf room _ _ s _ h1)).mono ?_
                  rintro e wC ⟨rfl, hC⟩
                  have hSC := ST.of hC HWf.out
                  have HC := hidden hC
                  clear hC
                  refine hK.out _ _ (hSC) (fun hHeld => ?_)
                  clear hK KQ
                  refine wpAnyH_take (i := 14) (v := .bool false) rfl (by kernel_rfl) (by kernel_rfl) (by kernel_rfl) (fun _ _ _ h => h) (Or.inl ⟨by rfl, fun w hS => by go_simp⟩) hHeld ?_
                  simp only [Act.put, List.getElem_toArray, List.getElem_cons_zero, List.getElem_cons_succ, List.setIfInBounds_toArray, List.set_cons_zero, List.set_cons_succ]
                  refine wpAnyH_take (i := 15) (v := .bool false) rfl (by kernel_rfl) (by kernel_rfl) (by kernel_rfl) (fun _ _ _ h => h) (Or.inl ⟨by rfl, fun w hS => by go_simp⟩) hHeld ?_
                  simp only [Act.put, List.getElem_toArray, List.getElem_cons_zero, List.getElem_cons_succ, List.setIfInBounds_toArray, List.set_cons_zero, List.set_cons_succ]
                  refine wpAnyH_done (by kernel_rfl) ?_ _
                  go_wp2
                  exact ⟨⟨k + 1, by omega, by go_num, ⟨_, _, (HC.out.less (by simp)).sameT (Nat.le_succ _) (fun i hi => ⟨hi, rfl⟩), HPs.out.mono (Nat.le_succ _)⟩⟩, by simp [intOf]; omega⟩
              · have hl : ps.length < room := by have := HI.out.len; omega
                as_aux_lemma =>
                  obtain ⟨sl, hsl⟩ : ∃ sl : Int, sl = ((ps.length : Nat) : Int) + 1 := ⟨_, rfl⟩
                  have hcn : ∀ j, cnt (ps ++ [(1, [Value.int .i64 0, .int .i64 s, .int .i64 x])]) j = if j = ps.length then 1 else cnt ps j := fun j => by rw [cnt_snoc]
                  have htn : ∀ j, thg (ps ++ [(1, [Value.int .i64 0, .int .i64 s, .int .i64 x])]) j = if j = ps.length then [Value.int .i64 0, .int .i64 s, .int .i64 x] else thg ps j := fun j => by rw [thg_snoc]
                  have hc0 : cnt ps ps.length = 0 := cnt_out ps _ (Nat.le_refl _)
                  have hon : occs (ps ++ [(1, [Value.int .i64 0, .int .i64 s, .int .i64 x])]) = occs ps + 1 := by rw [occs_snoc]; rfl
                  have hr2 := HI.out.r2
                  have hsum := HI.out.sum
                  have HLt := hidden hl
                  have HPn : Hid (Ps (k + 1) (ps ++ [(1, [Value.int .i64 0, .int .i64 s, .int .i64 x])])) := (HPs.out.mono (Nat.le_succ k)).snoc (by omega) 0 s x
                  have HSl := hidden hsl
                  have g1 : ¬ sl < 1 := by omega
                  have g2 : ¬ (room : Int) < sl := by omega
                  have HPT : Hid (∀ w', TM w' bt k ps → ∃ wT, (Instr.mapUpdate 46 (.map (some bt)) (.int .i64 sl) (.agg #[.int .i64 0, .int .i64 s, .int .i64 x])).run Try.prog w' = .ok () wT ∧ TM wT bt (k + 1) (ps ++ [(1, [Value.int .i64 0, .int .i64 s, .int .i64 x])]) ∧ w'.grownBy wT (some bt)) := fun w' hc => by
                    obtain ⟨wT, k1, k2, k3⟩ := hc.put (qs' := (ps ++ [(1, [Value.int .i64 0, .int .i64 s, .int .i64 x])])) (by omega) ps.length [Value.int .i64 0, .int .i64 s, .int .i64 x] (by omega) (fun j hj => by
                      rw [hcn j] at hj
                      rw [htn j]
                      split at hj
                      · next e => left; exact ⟨e, by rw [if_pos e]⟩
                      · next e => right; exact ⟨e, hj, by rw [if_neg e]⟩)
                    rw [← hsl] at k1
                    exact ⟨wT, k1, k2, k3⟩
                  have HPC : Hid (∀ w', CM w' bc ps → ∃ wM, (Instr.mapUpdate 47 (.map (some bc)) (.int .i64 sl) (.int .i64 1)).run Try.prog w' = .ok () wM ∧ CM wM bc (ps ++ [(1, [Value.int .i64 0, .int .i64 s, .int .i64 x])]) ∧ w'.grownBy wM (some bc)) := fun w' hc => by
                    obtain ⟨wM, k1, k2, k3⟩ := hc.put (qs' := (ps ++ [(1, [Value.int .i64 0, .int .i64 s, .int .i64 x])])) ps.length 1 (by omega) (by omega) (by omega) hcn (by rw [hc0, if_neg (by omega)]; exact hon) (by omega)
                    rw [← hsl] at k1
                    exact ⟨wM, k1, k2, k3⟩
                  have E0 : Hid (cntS ps sl = 0) := by show cntS ps sl = 0; rw [hsl, cntS_at, hc0]
                  have HWl : Hid (Wf sl) := by
                    have h3 := wf_nat (ps.length + 1) (by omega)
                    rw [hsl]
                    exact h3
                  clear hcn htn hc0 hon hr2 hsum hl hsl
                  go_wp2_with (first
                    | ((with_reducible refine at_ldd 45 44 ?_); refine wpList_load_mid rfl _ _ rfl sb (so + k * 3) rfl [Value.int .i64 0, .int .i64 s, .int .i64 x] _ HR0.out Try.underlying34 rfl size_thA ?_)
                    | ((with_reducible refine at_ald 11 ?_); refine wpList_al _ rfl _ rfl _ zero_thA ?_; intro x1 ga hga hla B1 q1; have HB1 := hidden B1; have Hq1 := hidden q1; have Hga := hidden hga; clear B1 q1 hga hla)
                    | ((with_reducible refine at_st 11 ?_); refine wpList_sto _ rfl _ _ _ rfl ga _ #[Value.int .i64 0, .int .i64 s, .int .i64 x] rfl rfl HB1.out size_thA rfl (one3 _ _ _) ?_; intro x2 B2 q2; have HH := hidden (HHp.out.hold (below_of Hq1.out Hga.out q2) B2 Hga.out); have c0 : x2.cell? ⟨ga, 0, none⟩ = some (.int .i64 0) := (by rw [B2.cell]; rfl); have c1 : x2.cell? ⟨ga, 1, none⟩ = some (.int .i64 s) := (by rw [B2.cell]; rfl); clear B2 q2 HB1 Hq1 Hga)
                    | ((with_reducible refine at_ldd 52 11 ?_); refine wpList_lds _ rfl _ _ rfl ga _ #[Value.int .i64 0, .int .i64 s, .int .i64 x] rfl (HH.out.held (k := ga) (cells := #[Value.int .i64 0, .int .i64 s, .int .i64 x]) (t := 34) (by simp)) Try.underlying34 size_thA ?_)
                    | (go_at_call 14; refine (HH.out.useS (E := .tuple #[.int .i64 sl, .int .i64 0]) (fun vp vf h1 => (take_newA g vp vf room ps 0 s x _ h1 HLt.out).mono (fun e w' ⟨h1, h2⟩ => ⟨h1.trans (by rw [HSl.out]; rfl), h2⟩))).mono ?_; rintro e x3 ⟨rfl, h3⟩; have H3 := hidden h3; clear h3; have ll1 : (Instr.lookup 47 (.map (some bc)) (.int .i64 sl) false).run Try.prog x3 = .ok (.int .i64 0) x3 := (by have h3 := H3.out.cm.look HWl.out; rw [E0.out] at h3; exact h3); obtain ⟨wT, hUT, hTM, hgT⟩ := HPT.out _ H3.out.tm; have HUT := hidden hUT; have H4 := hidden (H3.out.turnT hgT hTM); clear hUT hTM hgT; obtain ⟨wM, hUC, hCM, hgM⟩ := HPC.out _ H4.out.cm; have HUC := hidden hUC; have H5 := hidden (H4.out.turnC hgM hCM); clear hUC hCM hgM)
                    | ((with_reducible refine at_ldd 93 11 ?_); refine wpList_lds _ rfl _ _ rfl ga _ #[Value.int .i64 0, .int .i64 s, .int .i64 x] rfl (H3.out.held (k := ga) (cells := #[Value.int .i64 0, .int .i64 s, .int .i64 x]) (t := 34) (by simp)) Try.underlying34 size_thA ?_)
                    | (at_mapUpdate; refine wpList_mup rfl _ _ _ 46 rfl (.map (some bt)) (.int .i64 sl) (.agg #[.int .i64 0, .int .i64 s, .int .i64 x]) rfl rfl rfl HUT.out ?_)
                    | (at_mapUpdate; refine wpList_mup rfl _ _ _ 47 rfl (.map (some bc)) _ (.int .i64 1) rfl rfl (by first | rfl | (go_simp; done) | (simp only [wq]; rfl)) HUC.out ?_))
                  replace HH := H5
                  clear H5 H4 H3
                  have hhd := HH.out.grow (w' := wM.drew) (Below.refl _ _).drew
                  have HHd := hidden hhd
                  have HS0 := hidden (ST.of hhd HWf.out)
                  clear hhd
                  refine wp_region_held_drew (S := ST ga bc s (occs (ps ++ [(1, [Value.int .i64 0, .int .i64 s, .int .i64 x])]) : Int) (cntS (ps ++ [(1, [Value.int .i64 0, .int .i64 s, .int .i64 x])]) s : Int)) (by kernel_rfl) (HS0.out) (fun hHeld => ?_)
                  refine wpAnyH_take (i := 0) (v := .pointer (some ⟨g, 0, none⟩)) rfl (by kernel_rfl) (by kernel_rfl) (by kernel_rfl) (fun _ _ _ h => h) (Or.inl ⟨by rfl, fun w hS => by go_simp⟩) hHeld ?_
                  simp only [Act.put, List.getElem_toArray, List.getElem_cons_zero, List.setIfInBounds_toArray, List.set_cons_zero, List.set_cons_succ]
                  refine wpAnyH_take (i := 2) (v := .map (some bc)) rfl (by kernel_rfl) (by kernel_rfl) (by kernel_rfl) (fun _ _ _ h => h) (Or.inl ⟨by rfl, fun w hS => by go_simp⟩) hHeld ?_
                  simp only [Act.put, List.getElem_toArray, List.getElem_cons_zero, List.getElem_cons_succ, List.setIfInBounds_toArray, List.set_cons_zero, List.set_cons_succ]
                  refine wpAnyH_ready (rs := [1]) (by kernel_rfl) (by simp) ?_
                  refine AllReadyH.cons rfl (fun KQ hK => ?_) AllReadyH.nil
                  go_simp
                  refine (HHd.out.look (P := fun e _ => e = .returned (.int .i64 (occs (ps ++ [(1, [Value.int .i64 0, .int .i64 s, .int .i64 x])]) : Int))) (fun vp vf h1 => len_okA g vp vf room _ _ _ h1)).mono ?_
                  rintro e wB ⟨rfl, hB⟩
                  have hSB := ST.of hB HWf.out
                  have HB := hidden hB
                  clear hB
                  refine hK.out _ _ (hSB) (fun hHeld => ?_)
                  clear hK KQ
                  refine wpAnyH_take (i := 3) (v := .int .i64 (occs (ps ++ [(1, [Value.int .i64 0, .int .i64 s, .int .i64 x])]) : Int)) rfl (by kernel_rfl) (by kernel_rfl) (by kernel_rfl) (fun _ _ _ h => h) (Or.inl ⟨by rfl, fun w hS => by (have q1 := hS.2.1; go_simp)⟩) hHeld ?_
                  simp only [Act.put, List.getElem_toArray, List.getElem_cons_zero, List.getElem_cons_succ, List.setIfInBounds_toArray, List.set_cons_zero, List.set_cons_succ]
                  refine wpAnyH_take (i := 4) (v := .bool false) rfl (by kernel_rfl) (by kernel_rfl) (by kernel_rfl) (fun _ _ _ h => h) (Or.inl ⟨by rfl, fun w hS => by go_simp⟩) hHeld ?_
                  simp only [Act.put, List.getElem_toArray, List.getElem_cons_zero, List.getElem_cons_succ, List.setIfInBounds_toArray, List.set_cons_zero, List.set_cons_succ]
                  refine wpAnyH_take (i := 5) (v := .bool false) rfl (by kernel_rfl) (by kernel_rfl) (by kernel_rfl) (fun _ _ _ h => h) (Or.inl ⟨by rfl, fun w hS => by go_simp⟩) hHeld ?_
                  simp only [Act.put, List.getElem_toArray, List.getElem_cons_zero, List.getElem_cons_succ, List.setIfInBounds_toArray, List.set_cons_zero, List.set_cons_succ]
                  refine wpAnyH_take (i := 6) (v := .pointer (some ⟨g, 0, none⟩)) rfl (by kernel_rfl) (by kernel_rfl) (by kernel_rfl) (fun _ _ _ h => h) (Or.inl ⟨by rfl, fun w hS => by go_simp⟩) hHeld ?_
                  simp only [Act.put, List.getElem_toArray, List.getElem_cons_zero, List.getElem_cons_succ, List.setIfInBounds_toArray, List.set_cons_zero, List.set_cons_succ]
                  refine wpAnyH_take (i := 7) (v := .pointer (some ⟨ga, 1, none⟩)) rfl (by kernel_rfl) (by kernel_rfl) (by kernel_rfl) (fun _ _ _ h => h) (Or.inl ⟨by rfl, fun w hS => by go_simp⟩) hHeld ?_
                  simp only [Act.put, List.getElem_toArray, List.getElem_cons_zero, List.getElem_cons_succ, List.setIfInBounds_toArray, List.set_cons_zero, List.set_cons_succ]
                  refine wpAnyH_take (i := 8) (v := .int .i64 s) rfl (by kernel_rfl) (by kernel_rfl) (by kernel_rfl) (fun _ _ _ h => h) (Or.inl ⟨by rfl, fun w hS => by (have q1 := hS.1; go_simp)⟩) hHeld ?_
                  simp only [Act.put, List.getElem_toArray, List.getElem_cons_zero, List.getElem_cons_succ, List.setIfInBounds_toArray, List.set_cons_zero, List.set_cons_succ]
                  refine wpAnyH_take (i := 10) (v := .map (some bc)) rfl (by kernel_rfl) (by kernel_rfl) (by kernel_rfl) (fun _ _ _ h => h) (Or.inl ⟨by rfl, fun w hS => by go_simp⟩) hHeld ?_
                  simp only [Act.put, List.getElem_toArray, List.getElem_cons_zero, List.getElem_cons_succ, List.setIfInBounds_toArray, List.set_cons_zero, List.set_cons_succ]
                  refine wpAnyH_take (i := 11) (v := .pointer (some ⟨ga, 1, none⟩)) rfl (by kernel_rfl) (by kernel_rfl) (by kernel_rfl) (fun _ _ _ h => h) (Or.inl ⟨by rfl, fun w hS => by go_simp⟩) hHeld ?_
                  simp only [Act.put, List.getElem_toArray, List.getElem_cons_zero, List.getElem_cons_succ, List.setIfInBounds_toArray, List.set_cons_zero, List.set_cons_succ]
                  refine wpAnyH_take (i := 12) (v := .int .i64 s) rfl (by kernel_rfl) (by kernel_rfl) (by kernel_rfl) (fun _ _ _ h => h) (Or.inl ⟨by rfl, fun w hS => by (have q1 := hS.1; go_simp)⟩) hHeld ?_
                  simp only [Act.put, List.getElem_toArray, List.getElem_cons_zero, List.getElem_cons_succ, List.setIfInBounds_toArray, List.set_cons_zero, List.set_cons_succ]
                  refine wpAnyH_take (i := 13) (v := .int .i64 (cntS (ps ++ [(1, [Value.int .i64 0, .int .i64 s, .int .i64 x])]) s : Int)) rfl (by kernel_rfl) (by kernel_rfl) (by kernel_rfl) (fun _ _ _ h => h) (Or.inl ⟨by rfl, fun w hS => by (have q1 := hS.2.2; go_simp)⟩) hHeld ?_
                  simp only [Act.put, List.getElem_toArray, List.getElem_cons_zero, List.getElem_cons_succ, List.setIfInBounds_toArray, List.set_cons_zero, List.set_cons_succ]
                  refine wpAnyH_ready (rs := [9]) (by kernel_rfl) (by simp) ?_
                  refine AllReadyH.cons rfl (fun KQ hK => ?_) AllReadyH.nil
                  go_simp
                  refine (HB.out.look (P := fun e _ => e = .returned (.int .i64 (cntS (ps ++ [(1, [Value.int .i64 0, .int .i64 s, .int .i64 x])]) s : Int))) (fun vp vf h1 => count_anyA g vp vf room _ _ s _ h1)).mono ?_
                  rintro e wC ⟨rfl, hC⟩
                  have hSC := ST.of hC HWf.out
                  have HC := hidden hC
                  clear hC
                  refine hK.out _ _ (hSC) (fun hHeld => ?_)
                  clear hK KQ
                  refine wpAnyH_take (i := 14) (v := .bool false) rfl (by kernel_rfl) (by kernel_rfl) (by kernel_rfl) (fun _ _ _ h => h) (Or.inl ⟨by rfl, fun w hS => by go_simp⟩) hHeld ?_
                  simp only [Act.put, List.getElem_toArray, List.getElem_cons_zero, List.getElem_cons_succ, List.setIfInBounds_toArray, List.set_cons_zero, List.set_cons_succ]
                  refine wpAnyH_take (i := 15) (v := .bool false) rfl (by kernel_rfl) (by kernel_rfl) (by kernel_rfl) (fun _ _ _ h => h) (Or.inl ⟨by rfl, fun w hS => by go_simp⟩) hHeld ?_
                  simp only [Act.put, List.getElem_toArray, List.getElem_cons_zero, List.getElem_cons_succ, List.setIfInBounds_toArray, List.set_cons_zero, List.set_cons_succ]
                  refine wpAnyH_done (by kernel_rfl) ?_ _
                  go_wp2
                  exact ⟨⟨k + 1, by omega, by go_num, ⟨_, _, HC.out.less (by simp), HPn.out⟩⟩, by simp [intOf]; omega⟩
            · rw [List.concat_eq_append] at hfr
              subst hfr
              as_aux_lemma =>
                obtain ⟨f1, f2, f3⟩ := HI.out.free f (by simp)
                obtain ⟨i, rfl⟩ : ∃ i, f = i + 1 := ⟨f - 1, by omega⟩
                rw [Nat.add_sub_cancel] at f3
                have hil : i < ps.length := by omega
                obtain ⟨sl, hsl⟩ : ∃ sl : Int, sl = ((i : Nat) : Int) + 1 := ⟨_, rfl⟩
                have hcn : ∀ j, cnt (ps.set i (1, [Value.int .i64 0, .int .i64 s, .int .i64 x])) j = if j = i then 1 else cnt ps j := fun j => by rw [cnt_set ps i j _ hil]
                have htn : ∀ j, thg (ps.set i (1, [Value.int .i64 0, .int .i64 s, .int .i64 x])) j = if j = i then [Value.int .i64 0, .int .i64 s, .int .i64 x] else thg ps j := fun j => by rw [thg_set ps i j _ hil]
                have hc0 : cnt ps i = 0 := f3
                have hon : occs (ps.set i (1, [Value.int .i64 0, .int .i64 s, .int .i64 x])) = occs ps + 1 := by
                  have h3 := occs_set ps i (1, [Value.int .i64 0, .int .i64 s, .int .i64 x]) hil
                  rw [f3] at h3
                  simpa using h3
                have hr2 := HI.out.r2
                have hlen := HI.out.len
                have hsum := HI.out.sum
                simp only [List.length_append, List.length_cons, List.length_nil] at hsum
                have HPn : Hid (Ps (k + 1) (ps.set i (1, [Value.int .i64 0, .int .i64 s, .int .i64 x]))) := (HPs.out.mono (Nat.le_succ k)).put hil (by omega) 0 s x
                have HSl := hidden hsl
                have g1 : ¬ sl < 1 := by omega
                have g2 : ¬ (room : Int) < sl := by omega
                have HPT : Hid (∀ w', TM w' bt k ps → ∃ wT, (Instr.mapUpdate 46 (.map (some bt)) (.int .i64 sl) (.agg #[.int .i64 0, .int .i64 s, .int .i64 x])).run Try.prog w' = .ok () wT ∧ TM wT bt (k + 1) (ps.set i (1, [Value.int .i64 0, .int .i64 s, .int .i64 x])) ∧ w'.grownBy wT (some bt)) := fun w' hc => by
                  obtain ⟨wT, k1, k2, k3⟩ := hc.put (qs' := (ps.set i (1, [Value.int .i64 0, .int .i64 s, .int .i64 x]))) (by omega) i [Value.int .i64 0, .int .i64 s, .int .i64 x] (by omega) (fun j hj => by
                    rw [hcn j] at hj
                    rw [htn j]
                    split at hj
                    · next e => left; exact ⟨e, by rw [if_pos e]⟩
                    · next e => right; exact ⟨e, hj, by rw [if_neg e]⟩)
                  rw [← hsl] at k1
                  exact ⟨wT, k1, k2, k3⟩
                have HPC : Hid (∀ w', CM w' bc ps → ∃ wM, (Instr.mapUpdate 47 (.map (some bc)) (.int .i64 sl) (.int .i64 1)).run Try.prog w' = .ok () wM ∧ CM wM bc (ps.set i (1, [Value.int .i64 0, .int .i64 s, .int .i64 x])) ∧ w'.grownBy wM (some bc)) := fun w' hc => by
                  obtain ⟨wM, k1, k2, k3⟩ := hc.put (qs' := (ps.set i (1, [Value.int .i64 0, .int .i64 s, .int .i64 x]))) i 1 (by omega) (by omega) (by omega) hcn (by rw [hc0, if_neg (by omega)]; exact hon) (by omega)
                  rw [← hsl] at k1
                  exact ⟨wM, k1, k2, k3⟩
                have E0 : Hid (cntS ps sl = 0) := by show cntS ps sl = 0; rw [hsl, cntS_at, hc0]
                have HWl : Hid (Wf sl) := by
                  have h3 := wf_nat (i + 1) (by omega)
                  rw [hsl]
                  exact h3
                clear hcn htn hc0 hon hr2 hlen hsum hsl f1 f2 f3 hil
                go_wp2_with (first
                  | ((with_reducible refine at_ldd 45 44 ?_); refine wpList_load_mid rfl _ _ rfl sb (so + k * 3) rfl [Value.int .i64 0, .int .i64 s, .int .i64 x] _ HR0.out Try.underlying34 rfl size_thA ?_)
                  | ((with_reducible refine at_ald 11 ?_); refine wpList_al _ rfl _ rfl _ zero_thA ?_; intro x1 ga hga hla B1 q1; have HB1 := hidden B1; have Hq1 := hidden q1; have Hga := hidden hga; clear B1 q1 hga hla)
                  | ((with_reducible refine at_st 11 ?_); refine wpList_sto _ rfl _ _ _ rfl ga _ #[Value.int .i64 0, .int .i64 s, .int .i64 x] rfl rfl HB1.out size_thA rfl (one3 _ _ _) ?_; intro x2 B2 q2; have HH := hidden (HHp.out.hold (below_of Hq1.out Hga.out q2) B2 Hga.out); have c0 : x2.cell? ⟨ga, 0, none⟩ = some (.int .i64 0) := (by rw [B2.cell]; rfl); have c1 : x2.cell? ⟨ga, 1, none⟩ = some (.int .i64 s) := (by rw [B2.cell]; rfl); clear B2 q2 HB1 Hq1 Hga)
                  | ((with_reducible refine at_ldd 52 11 ?_); refine wpList_lds _ rfl _ _ rfl ga _ #[Value.int .i64 0, .int .i64 s, .int .i64 x] rfl (HH.out.held (k := ga) (cells := #[Value.int .i64 0, .int .i64 s, .int .i64 x]) (t := 34) (by simp)) Try.underlying34 size_thA ?_)
                  | (go_at_call 14; refine (HH.out.useS (E := .tuple #[.int .i64 sl, .int .i64 0]) (fun vp vf h1 => (take_freeA g vp vf room ps fr0 (i + 1) 0 s x _ h1).mono (fun e w' ⟨h1, h2⟩ => ⟨h1.trans (by rw [HSl.out]; rfl), h2⟩))).mono ?_; rintro e x3 ⟨rfl, h3⟩; have H3 := hidden h3; clear h3; have ll1 : (Instr.lookup 47 (.map (some bc)) (.int .i64 sl) false).run Try.prog x3 = .ok (.int .i64 0) x3 := (by have h3 := H3.out.cm.look HWl.out; rw [E0.out] at h3; exact h3); obtain ⟨wT, hUT, hTM, hgT⟩ := HPT.out _ H3.out.tm; have HUT := hidden hUT; have H4 := hidden (H3.out.turnT hgT hTM); clear hUT hTM hgT; obtain ⟨wM, hUC, hCM, hgM⟩ := HPC.out _ H4.out.cm; have HUC := hidden hUC; have H5 := hidden (H4.out.turnC hgM hCM); clear hUC hCM hgM)
                  | ((with_reducible refine at_ldd 93 11 ?_); refine wpList_lds _ rfl _ _ rfl ga _ #[Value.int .i64 0, .int .i64 s, .int .i64 x] rfl (H3.out.held (k := ga) (cells := #[Value.int .i64 0, .int .i64 s, .int .i64 x]) (t := 34) (by simp)) Try.underlying34 size_thA ?_)
                  | (at_mapUpdate; refine wpList_mup rfl _ _ _ 46 rfl (.map (some bt)) (.int .i64 sl) (.agg #[.int .i64 0, .int .i64 s, .int .i64 x]) rfl rfl rfl HUT.out ?_)
                  | (at_mapUpdate; refine wpList_mup rfl _ _ _ 47 rfl (.map (some bc)) _ (.int .i64 1) rfl rfl (by first | rfl | (go_simp; done) | (simp only [wq]; rfl)) HUC.out ?_))
                replace HH := H5
                clear H5 H4 H3
                have hhd := HH.out.grow (w' := wM.drew) (Below.refl _ _).drew
                have HHd := hidden hhd
                have HS0 := hidden (ST.of hhd HWf.out)
                clear hhd
                refine wp_region_held_drew (S := ST ga bc s (occs (ps.set i (1, [Value.int .i64 0, .int .i64 s, .int .i64 x])) : Int) (cntS (ps.set i (1, [Value.int .i64 0, .int .i64 s, .int .i64 x])) s : Int)) (by kernel_rfl) (HS0.out) (fun hHeld => ?_)
                refine wpAnyH_take (i := 0) (v := .pointer (some ⟨g, 0, none⟩)) rfl (by kernel_rfl) (by kernel_rfl) (by kernel_rfl) (fun _ _ _ h => h) (Or.inl ⟨by rfl, fun w hS => by go_simp⟩) hHeld ?_
                simp only [Act.put, List.getElem_toArray, List.getElem_cons_zero, List.setIfInBounds_toArray, List.set_cons_zero, List.set_cons_succ]
                refine wpAnyH_take (i := 2) (v := .map (some bc)) rfl (by kernel_rfl) (by kernel_rfl) (by kernel_rfl) (fun _ _ _ h => h) (Or.inl ⟨by rfl, fun w hS => by go_simp⟩) hHeld ?_
                simp only [Act.put, List.getElem_toArray, List.getElem_cons_zero, List.getElem_cons_succ, List.setIfInBounds_toArray, List.set_cons_zero, List.set_cons_succ]
                refine wpAnyH_ready (rs := [1]) (by kernel_rfl) (by simp) ?_
                refine AllReadyH.cons rfl (fun KQ hK => ?_) AllReadyH.nil
                go_simp
                refine (HHd.out.look (P := fun e _ => e = .returned (.int .i64 (occs (ps.set i (1, [Value.int .i64 0, .int .i64 s, .int .i64 x])) : Int))) (fun vp vf h1 => len_okA g vp vf room _ _ _ h1)).mono ?_
                rintro e wB ⟨rfl, hB⟩
                have hSB := ST.of hB HWf.out
                have HB := hidden hB
                clear hB
                refine hK.out _ _ (hSB) (fun hHeld => ?_)
                clear hK KQ
                refine wpAnyH_take (i := 3) (v := .int .i64 (occs (ps.set i (1, [Value.int .i64 0, .int .i64 s, .int .i64 x])) : Int)) rfl (by kernel_rfl) (by kernel_rfl) (by kernel_rfl) (fun _ _ _ h => h) (Or.inl ⟨by rfl, fun w hS => by (have q1 := hS.2.1; go_simp)⟩) hHeld ?_
                simp only [Act.put, List.getElem_toArray, List.getElem_cons_zero, List.getElem_cons_succ, List.setIfInBounds_toArray, List.set_cons_zero, List.set_cons_succ]
                refine wpAnyH_take (i := 4) (v := .bool false) rfl (by kernel_rfl) (by kernel_rfl) (by kernel_rfl) (fun _ _ _ h => h) (Or.inl ⟨by rfl, fun w hS => by go_simp⟩) hHeld ?_
                simp only [Act.put, List.getElem_toArray, List.getElem_cons_zero, List.getElem_cons_succ, List.setIfInBounds_toArray, List.set_cons_zero, List.set_cons_succ]
                refine wpAnyH_take (i := 5) (v := .bool false) rfl (by kernel_rfl) (by kernel_rfl) (by kernel_rfl) (fun _ _ _ h => h) (Or.inl ⟨by rfl, fun w hS => by go_simp⟩) hHeld ?_
                simp only [Act.put, List.getElem_toArray, List.getElem_cons_zero, List.getElem_cons_succ, List.setIfInBounds_toArray, List.set_cons_zero, List.set_cons_succ]
                refine wpAnyH_take (i := 6) (v := .pointer (some ⟨g, 0, none⟩)) rfl (by kernel_rfl) (by kernel_rfl) (by kernel_rfl) (fun _ _ _ h => h) (Or.inl ⟨by rfl, fun w hS => by go_simp⟩) hHeld ?_
                simp only [Act.put, List.getElem_toArray, List.getElem_cons_zero, List.getElem_cons_succ, List.setIfInBounds_toArray, List.set_cons_zero, List.set_cons_succ]
                refine wpAnyH_take (i := 7) (v := .pointer (some ⟨ga, 1, none⟩)) rfl (by kernel_rfl) (by kernel_rfl) (by kernel_rfl) (fun _ _ _ h => h) (Or.inl ⟨by rfl, fun w hS => by go_simp⟩) hHeld ?_
                simp only [Act.put, List.getElem_toArray, List.getElem_cons_zero, List.getElem_cons_succ, List.setIfInBounds_toArray, List.set_cons_zero, List.set_cons_succ]
                refine wpAnyH_take (i := 8) (v := .int .i64 s) rfl (by kernel_rfl) (by kernel_rfl) (by kernel_rfl) (fun _ _ _ h => h) (Or.inl ⟨by rfl, fun w hS => by (have q1 := hS.1; go_simp)⟩) hHeld ?_
                simp only [Act.put, List.getElem_toArray, List.getElem_cons_zero, List.getElem_cons_succ, List.setIfInBounds_toArray, List.set_cons_zero, List.set_cons_succ]
                refine wpAnyH_take (i := 10) (v := .map (some bc)) rfl (by kernel_rfl) (by kernel_rfl) (by kernel_rfl) (fun _ _ _ h => h) (Or.inl ⟨by rfl, fun w hS => by go_simp⟩) hHeld ?_
                simp only [Act.put, List.getElem_toArray, List.getElem_cons_zero, List.getElem_cons_succ, List.setIfInBounds_toArray, List.set_cons_zero, List.set_cons_succ]
                refine wpAnyH_take (i := 11) (v := .pointer (some ⟨ga, 1, none⟩)) rfl (by kernel_rfl) (by kernel_rfl) (by kernel_rfl) (fun _ _ _ h => h) (Or.inl ⟨by rfl, fun w hS => by go_simp⟩) hHeld ?_
                simp only [Act.put, List.getElem_toArray, List.getElem_cons_zero, List.getElem_cons_succ, List.setIfInBounds_toArray, List.set_cons_zero, List.set_cons_succ]
                refine wpAnyH_take (i := 12) (v := .int .i64 s) rfl (by kernel_rfl) (by kernel_rfl) (by kernel_rfl) (fun _ _ _ h => h) (Or.inl ⟨by rfl, fun w hS => by (have q1 := hS.1; go_simp)⟩) hHeld ?_
                simp only [Act.put, List.getElem_toArray, List.getElem_cons_zero, List.getElem_cons_succ, List.setIfInBounds_toArray, List.set_cons_zero, List.set_cons_succ]
                refine wpAnyH_take (i := 13) (v := .int .i64 (cntS (ps.set i (1, [Value.int .i64 0, .int .i64 s, .int .i64 x])) s : Int)) rfl (by kernel_rfl) (by kernel_rfl) (by kernel_rfl) (fun _ _ _ h => h) (Or.inl ⟨by rfl, fun w hS => by (have q1 := hS.2.2; go_simp)⟩) hHeld ?_
                simp only [Act.put, List.getElem_toArray, List.getElem_cons_zero, List.getElem_cons_succ, List.setIfInBounds_toArray, List.set_cons_zero, List.set_cons_succ]
                refine wpAnyH_ready (rs := [9]) (by kernel_rfl) (by simp) ?_
                refine AllReadyH.cons rfl (fun KQ hK => ?_) AllReadyH.nil
                go_simp
                refine (HB.out.look (P := fun e _ => e = .returned (.int .i64 (cntS (ps.set i (1, [Value.int .i64 0, .int .i64 s, .int .i64 x])) s : Int))) (fun vp vf h1 => count_anyA g vp vf room _ _ s _ h1)).mono ?_
                rintro e wC ⟨rfl, hC⟩
                have hSC := ST.of hC HWf.out
                have HC := hidden hC
                clear hC
                refine hK.out _ _ (hSC) (fun hHeld => ?_)
                clear hK KQ
                refine wpAnyH_take (i := 14) (v := .bool false) rfl (by kernel_rfl) (by kernel_rfl) (by kernel_rfl) (fun _ _ _ h => h) (Or.inl ⟨by rfl, fun w hS => by go_simp⟩) hHeld ?_
                simp only [Act.put, List.getElem_toArray, List.getElem_cons_zero, List.getElem_cons_succ, List.setIfInBounds_toArray, List.set_cons_zero, List.set_cons_succ]
                refine wpAnyH_take (i := 15) (v := .bool false) rfl (by kernel_rfl) (by kernel_rfl) (by kernel_rfl) (fun _ _ _ h => h) (Or.inl ⟨by rfl, fun w hS => by go_simp⟩) hHeld ?_
                simp only [Act.put, List.getElem_toArray, List.getElem_cons_zero, List.getElem_cons_succ, List.setIfInBounds_toArray, List.set_cons_zero, List.set_cons_succ]
                refine wpAnyH_done (by kernel_rfl) ?_ _
                go_wp2
                exact ⟨⟨k + 1, by omega, by go_num, ⟨_, _, HC.out.less (by simp), HPn.out⟩⟩, by simp [intOf]; omega⟩
          · by_cases k1 : kk = 1
            · subst k1
              clear k0
              by_cases hv : Vac ps s
              · skip
                as_aux_lemma =>
                  have E0 := hidden (cntS_vac hv)
                  have HV := hidden hv
                  clear hv
                  go_wp2_with (first
                    | ((with_reducible refine at_ldd 45 44 ?_); refine wpList_load_mid rfl _ _ rfl sb (so + k * 3) rfl [Value.int .i64 1, .int .i64 s, .int .i64 x] _ HR0.out Try.underlying34 rfl size_thA ?_)
                    | ((with_reducible refine at_ald 11 ?_); refine wpList_al _ rfl _ rfl _ zero_thA ?_; intro x1 ga hga hla B1 q1; have HB1 := hidden B1; have Hq1 := hidden q1; have Hga := hidden hga; clear B1 q1 hga hla)
                    | ((with_reducible refine at_st 11 ?_); refine wpList_sto _ rfl _ _ _ rfl ga _ #[Value.int .i64 1, .int .i64 s, .int .i64 x] rfl rfl HB1.out size_thA rfl (one3 _ _ _) ?_; intro x2 B2 q2; have HH := hidden (HHp.out.hold (below_of Hq1.out Hga.out q2) B2 Hga.out); have c0 : x2.cell? ⟨ga, 0, none⟩ = some (.int .i64 1) := (by rw [B2.cell]; rfl); have c1 : x2.cell? ⟨ga, 1, none⟩ = some (.int .i64 s) := (by rw [B2.cell]; rfl); clear B2 q2 HB1 Hq1 Hga))
                  have hhd := HH.out.grow (w' := x2.drew) (Below.refl _ _).drew
                  have HHd := hidden hhd
                  have HS0 : Hid (ST ga bc s (occs ps : Int) 0 x2.drew) := by
                    have h3 := ST.of hhd HWf.out
                    rw [E0.out] at h3
                    exact h3
                  clear hhd
                  refine wp_region_held_drew (S := ST ga bc s (occs ps : Int) 0) (by kernel_rfl) (HS0.out) (fun hHeld => ?_)
                  refine wpAnyH_take (i := 0) (v := .pointer (some ⟨g, 0, none⟩)) rfl (by kernel_rfl) (by kernel_rfl) (by kernel_rfl) (fun _ _ _ h => h) (Or.inl ⟨by rfl, fun w hS => by go_simp⟩) hHeld ?_
                  simp only [Act.put, List.getElem_toArray, List.getElem_cons_zero, List.setIfInBounds_toArray, List.set_cons_zero, List.set_cons_succ]
                  refine wpAnyH_take (i := 1) (v := .pointer (some ⟨ga, 1, none⟩)) rfl (by kernel_rfl) (by kernel_rfl) (by kernel_rfl) (fun _ _ _ h => h) (Or.inl ⟨by rfl, fun w hS => by go_simp⟩) hHeld ?_
                  simp only [Act.put, List.getElem_toArray, List.getElem_cons_zero, List.getElem_cons_succ, List.setIfInBounds_toArray, List.set_cons_zero, List.set_cons_succ]
                  refine wpAnyH_take (i := 2) (v := .int .i64 s) rfl (by kernel_rfl) (by kernel_rfl) (by kernel_rfl) (fun _ _ _ h => h) (Or.inl ⟨by rfl, fun w hS => by (have q1 := hS.1; go_simp)⟩) hHeld ?_
                  simp only [Act.put, List.getElem_toArray, List.getElem_cons_zero, List.getElem_cons_succ, List.setIfInBounds_toArray, List.set_cons_zero, List.set_cons_succ]
                  refine wpAnyH_take (i := 5) (v := .map (some bc)) rfl (by kernel_rfl) (by kernel_rfl) (by kernel_rfl) (fun _ _ _ h => h) (Or.inl ⟨by rfl, fun w hS => by go_simp⟩) hHeld ?_
                  simp only [Act.put, List.getElem_toArray, List.getElem_cons_zero, List.getElem_cons_succ, List.setIfInBounds_toArray, List.set_cons_zero, List.set_cons_succ]
                  refine wpAnyH_take (i := 6) (v := .pointer (some ⟨ga, 1, none⟩)) rfl (by kernel_rfl) (by kernel_rfl) (by kernel_rfl) (fun _ _ _ h => h) (Or.inl ⟨by rfl, fun w hS => by go_simp⟩) hHeld ?_
                  simp only [Act.put, List.getElem_toArray, List.getElem_cons_zero, List.getElem_cons_succ, List.setIfInBounds_toArray, List.set_cons_zero, List.set_cons_succ]
                  refine wpAnyH_take (i := 7) (v := .int .i64 s) rfl (by kernel_rfl) (by kernel_rfl) (by kernel_rfl) (fun _ _ _ h => h) (Or.inl ⟨by rfl, fun w hS => by (have q1 := hS.1; go_simp)⟩) hHeld ?_
                  simp only [Act.put, List.getElem_toArray, List.getElem_cons_zero, List.getElem_cons_succ, List.setIfInBounds_toArray, List.set_cons_zero, List.set_cons_succ]
                  refine wpAnyH_take (i := 8) (v := .int .i64 0) rfl (by kernel_rfl) (by kernel_rfl) (by kernel_rfl) (fun _ _ _ h => h) (Or.inl ⟨by rfl, fun w hS => by (have q1 := hS.2.2; go_simp)⟩) hHeld ?_
                  simp only [Act.put, List.getElem_toArray, List.getElem_cons_zero, List.getElem_cons_succ, List.setIfInBounds_toArray, List.set_cons_zero, List.set_cons_succ]
                  refine wpAnyH_take (i := 9) (v := .bool false) rfl (by kernel_rfl) (by kernel_rfl) (by kernel_rfl) (fun _ _ _ h => h) (Or.inl ⟨by rfl, fun w hS => by go_simp⟩) hHeld ?_
                  simp only [Act.put, List.getElem_toArray, List.getElem_cons_zero, List.getElem_cons_succ, List.setIfInBounds_toArray, List.set_cons_zero, List.set_cons_succ]
                  refine wpAnyH_ready (rs := [3]) (by kernel_rfl) (by simp) ?_
                  refine AllReadyH.cons rfl (fun KQ hK => ?_) AllReadyH.nil
                  go_simp
                  refine (HHd.out.look (P := fun e _ => e = .returned (.int .i64 7)) (fun vp vf h1 => calls_sameA (hold_badA g vp vf room _ _ s _ h1 HV.out))).mono ?_
                  rintro e wB ⟨rfl, hB⟩
                  have HB := hidden hB
                  have hSB : ST ga bc s (occs ps : Int) 0 wB := by
                    have h3 := ST.of hB HWf.out
                    rw [E0.out] at h3
                    exact h3
                  clear hB
                  refine hK.out _ _ (hSB) (fun hHeld => ?_)
                  clear hK KQ
                  refine wpAnyH_take (i := 4) (v := .bool false) rfl (by kernel_rfl) (by kernel_rfl) (by kernel_rfl) (fun _ _ _ h => h) (Or.inl ⟨by rfl, fun w hS => by go_simp⟩) hHeld ?_
                  simp only [Act.put, List.getElem_toArray, List.getElem_cons_zero, List.getElem_cons_succ, List.setIfInBounds_toArray, List.set_cons_zero, List.set_cons_succ]
                  refine wpAnyH_take (i := 10) (v := .bool false) rfl (by kernel_rfl) (by kernel_rfl) (by kernel_rfl) (fun _ _ _ h => h) (Or.inl ⟨by rfl, fun w hS => by go_simp⟩) hHeld ?_
                  simp only [Act.put, List.getElem_toArray, List.getElem_cons_zero, List.getElem_cons_succ, List.setIfInBounds_toArray, List.set_cons_zero, List.set_cons_succ]
                  refine wpAnyH_done (by kernel_rfl) ?_ _
                  have hst := ST.of HB.out HWf.out
                  have cc1 : wB.cell? ⟨ga, 1, none⟩ = some (.int .i64 s) := hst.1
                  have ll1 : (Instr.lookup 47 (.map (some bc)) (.int .i64 s) false).run Try.prog wB = .ok (.int .i64 0) wB := by have h3 := hst.2.2; rw [E0.out] at h3; exact h3
                  clear hst
                  replace HH := HB
                  clear HB HHd HS0
                  go_wp2_with fail
                  have hhd := HH.out.grow (w' := wB.drew) (Below.refl _ _).drew
                  have HHd := hidden hhd
                  have HS0 := hidden (ST.of hhd HWf.out)
                  clear hhd
                  refine wp_region_held_drew (S := ST ga bc s (occs ps : Int) (cntS ps s : Int)) (by kernel_rfl) (HS0.out) (fun hHeld => ?_)
                  refine wpAnyH_take (i := 0) (v := .pointer (some ⟨g, 0, none⟩)) rfl (by kernel_rfl) (by kernel_rfl) (by kernel_rfl) (fun _ _ _ h => h) (Or.inl ⟨by rfl, fun w hS => by go_simp⟩) hHeld ?_
                  simp only [Act.put, List.getElem_toArray, List.getElem_cons_zero, List.setIfInBounds_toArray, List.set_cons_zero, List.set_cons_succ]
                  refine wpAnyH_take (i := 2) (v := .map (some bc)) rfl (by kernel_rfl) (by kernel_rfl) (by kernel_rfl) (fun _ _ _ h => h) (Or.inl ⟨by rfl, fun w hS => by go_simp⟩) hHeld ?_
                  simp only [Act.put, List.getElem_toArray, List.getElem_cons_zero, List.getElem_cons_succ, List.setIfInBounds_toArray, List.set_cons_zero, List.set_cons_succ]
                  refine wpAnyH_ready (rs := [1]) (by kernel_rfl) (by simp) ?_
                  refine AllReadyH.cons rfl (fun KQ hK => ?_) AllReadyH.nil
                  go_simp
                  refine (HHd.out.look (P := fun e _ => e = .returned (.int .i64 (occs ps : Int))) (fun vp vf h1 => len_okA g vp vf room _ _ _ h1)).mono ?_
                  rintro e wB ⟨rfl, hB⟩
                  have hSB := ST.of hB HWf.out
                  have HB := hidden hB
                  clear hB
                  refine hK.out _ _ (hSB) (fun hHeld => ?_)
                  clear hK KQ
                  refine wpAnyH_take (i := 3) (v := .int .i64 (occs ps : Int)) rfl (by kernel_rfl) (by kernel_rfl) (by kernel_rfl) (fun _ _ _ h => h) (Or.inl ⟨by rfl, fun w hS => by (have q1 := hS.2.1; go_simp)⟩) hHeld ?_
                  simp only [Act.put, List.getElem_toArray, List.getElem_cons_zero, List.getElem_cons_succ, List.setIfInBounds_toArray, List.set_cons_zero, List.set_cons_succ]
                  refine wpAnyH_take (i := 4) (v := .bool false) rfl (by kernel_rfl) (by kernel_rfl) (by kernel_rfl) (fun _ _ _ h => h) (Or.inl ⟨by rfl, fun w hS => by go_simp⟩) hHeld ?_
                  simp only [Act.put, List.getElem_toArray, List.getElem_cons_zero, List.getElem_cons_succ, List.setIfInBounds_toArray, List.set_cons_zero, List.set_cons_succ]
                  refine wpAnyH_take (i := 5) (v := .bool false) rfl (by kernel_rfl) (by kernel_rfl) (by kernel_rfl) (fun _ _ _ h => h) (Or.inl ⟨by rfl, fun w hS => by go_simp⟩) hHeld ?_
                  simp only [Act.put, List.getElem_toArray, List.getElem_cons_zero, List.getElem_cons_succ, List.setIfInBounds_toArray, List.set_cons_zero, List.set_cons_succ]
                  refine wpAnyH_take (i := 6) (v := .pointer (some ⟨g, 0, none⟩)) rfl (by kernel_rfl) (by kernel_rfl) (by kernel_rfl) (fun _ _ _ h => h) (Or.inl ⟨by rfl, fun w hS => by go_simp⟩) hHeld ?_
                  simp only [Act.put, List.getElem_toArray, List.getElem_cons_zero, List.getElem_cons_succ, List.setIfInBounds_toArray, List.set_cons_zero, List.set_cons_succ]
                  refine wpAnyH_take (i := 7) (v := .pointer (some ⟨ga, 1, none⟩)) rfl (by kernel_rfl) (by kernel_rfl) (by kernel_rfl) (fun _ _ _ h => h) (Or.inl ⟨by rfl, fun w hS => by go_simp⟩) hHeld ?_
                  simp only [Act.put, List.getElem_toArray, List.getElem_cons_zero, List.getElem_cons_succ, List.setIfInBounds_toArray, List.set_cons_zero, List.set_cons_succ]
                  refine wpAnyH_take (i := 8) (v := .int .i64 s) rfl (by kernel_rfl) (by kernel_rfl) (by kernel_rfl) (fun _ _ _ h => h) (Or.inl ⟨by rfl, fun w hS => by (have q1 := hS.1; go_simp)⟩) hHeld ?_
                  simp only [Act.put, List.getElem_toArray, List.getElem_cons_zero, List.getElem_cons_succ, List.setIfInBounds_toArray, List.set_cons_zero, List.set_cons_succ]
                  refine wpAnyH_take (i := 10) (v := .map (some bc)) rfl (by kernel_rfl) (by kernel_rfl) (by kernel_rfl) (fun _ _ _ h => h) (Or.inl ⟨by rfl, fun w hS => by go_simp⟩) hHeld ?_
                  simp only [Act.put, List.getElem_toArray, List.getElem_cons_zero, List.getElem_cons_succ, List.setIfInBounds_toArray, List.set_cons_zero, List.set_cons_succ]
                  refine wpAnyH_take (i := 11) (v := .pointer (some ⟨ga, 1, none⟩)) rfl (by kernel_rfl) (by kernel_rfl) (by kernel_rfl) (fun _ _ _ h => h) (Or.inl ⟨by rfl, fun w hS => by go_simp⟩) hHeld ?_
                  simp only [Act.put, List.getElem_toArray, List.getElem_cons_zero, List.getElem_cons_succ, List.setIfInBounds_toArray, List.set_cons_zero, List.set_cons_succ]
                  refine wpAnyH_take (i := 12) (v := .int .i64 s) rfl (by kernel_rfl) (by kernel_rfl) (by kernel_rfl) (fun _ _ _ h => h) (Or.inl ⟨by rfl, fun w hS => by (have q1 := hS.1; go_simp)⟩) hHeld ?_
                  simp only [Act.put, List.getElem_toArray, List.getElem_cons_zero, List.getElem_cons_succ, List.setIfInBounds_toArray, List.set_cons_zero, List.set_cons_succ]
                  refine wpAnyH_take (i := 13) (v := .int .i64 (cntS ps s : Int)) rfl (by kernel_rfl) (by kernel_rfl) (by kernel_rfl) (fun _ _ _ h => h) (Or.inl ⟨by rfl, fun w hS => by (have q1 := hS.2.2; go_simp)⟩) hHeld ?_
                  simp only [Act.put, List.getElem_toArray, List.getElem_cons_zero, List.getElem_cons_succ, List.setIfInBounds_toArray, List.set_cons_zero, List.set_cons_succ]
                  refine wpAnyH_ready (rs := [9]) (by kernel_rfl) (by simp) ?_
                  refine AllReadyH.cons rfl (fun KQ hK => ?_) AllReadyH.nil
                  go_simp
                  refine (HB.out.look (P := fun e _ => e = .returned (.int .i64 (cntS ps s : Int))) (fun vp vf h1 => count_anyA g vp vf room _ _ s _ h1)).mono ?_
                  rintro e wC ⟨rfl, hC⟩
                  have hSC := ST.of hC HWf.out
                  have HC := hidden hC
                  clear hC
                  refine hK.out _ _ (hSC) (fun hHeld => ?_)
                  clear hK KQ
                  refine wpAnyH_take (i := 14) (v := .bool false) rfl (by kernel_rfl) (by kernel_rfl) (by kernel_rfl) (fun _ _ _ h => h) (Or.inl ⟨by rfl, fun w hS => by go_simp⟩) hHeld ?_
                  simp only [Act.put, List.getElem_toArray, List.getElem_cons_zero, List.getElem_cons_succ, List.setIfInBounds_toArray, List.set_cons_zero, List.set_cons_succ]
                  refine wpAnyH_take (i := 15) (v := .bool false) rfl (by kernel_rfl) (by kernel_rfl) (by kernel_rfl) (fun _ _ _ h => h) (Or.inl ⟨by rfl, fun w hS => by go_simp⟩) hHeld ?_
                  simp only [Act.put, List.getElem_toArray, List.getElem_cons_zero, List.getElem_cons_succ, List.setIfInBounds_toArray, List.set_cons_zero, List.set_cons_succ]
                  refine wpAnyH_done (by kernel_rfl) ?_ _
                  go_wp2
                  exact ⟨⟨k + 1, by omega, by go_num, ⟨_, _, (HC.out.less (by simp)).sameT (Nat.le_succ _) (fun i hi => ⟨hi, rfl⟩), HPs.out.mono (Nat.le_succ _)⟩⟩, by simp [intOf]; omega⟩
              · skip
                as_aux_lemma =>
                  obtain ⟨i, hs, hi⟩ := notVac hv
                  clear hv
                  have hqb := HPs.out.most i
                  have hlen := HI.out.len
                  have hr2 := HI.out.r2
                  have hil := cnt_lt hi
                  obtain ⟨q, hq⟩ : ∃ q : Nat, q = cnt ps i := ⟨_, rfl⟩
                  have HMo : Hid (cnt ps i < 1073741824) := by show cnt ps i < 1073741824; omega
                  have p0 : (0 : Int) < (q : Int) := by omega
                  have p00 : 0 < q := by omega
                  have wq : wrap64 ((q : Int) + 1) = ((q + 1 : Nat) : Int) := by rw [Go.IntWalk.wrap64_in _ (by omega)]; rfl
                  have HQ := hidden hq
                  have HE := hidden hs
                  have HCI := hidden hi
                  have EQ : Hid (cntS ps s = q) := by show cntS ps s = q; rw [hs, cntS_at, hq]
                  have HB0 : Hid (i + 1 ≤ 65536 ∧ q + 1 ≤ 401) := by constructor <;> omega
                  have HPn : Hid (Ps (k + 1) (ps.set i (q + 1, thg ps i))) := (HPs.out.mono (Nat.le_succ k)).keep hi (by omega)
                  clear hqb hlen hr2 hil hq hs hi
                  go_wp2_with (first
                    | ((with_reducible refine at_ldd 45 44 ?_); refine wpList_load_mid rfl _ _ rfl sb (so + k * 3) rfl [Value.int .i64 1, .int .i64 s, .int .i64 x] _ HR0.out Try.underlying34 rfl size_thA ?_)
                    | ((with_reducible refine at_ald 11 ?_); refine wpList_al _ rfl _ rfl _ zero_thA ?_; intro x1 ga hga hla B1 q1; have HB1 := hidden B1; have Hq1 := hidden q1; have Hga := hidden hga; clear B1 q1 hga hla)
                    | ((with_reducible refine at_st 11 ?_); refine wpList_sto _ rfl _ _ _ rfl ga _ #[Value.int .i64 1, .int .i64 s, .int .i64 x] rfl rfl HB1.out size_thA rfl (one3 _ _ _) ?_; intro x2 B2 q2; have HH := hidden (HHp.out.hold (below_of Hq1.out Hga.out q2) B2 Hga.out); have c0 : x2.cell? ⟨ga, 0, none⟩ = some (.int .i64 1) := (by rw [B2.cell]; rfl); have c1 : x2.cell? ⟨ga, 1, none⟩ = some (.int .i64 s) := (by rw [B2.cell]; rfl); clear B2 q2 HB1 Hq1 Hga))
                  have hhd := HH.out.grow (w' := x2.drew) (Below.refl _ _).drew
                  have HHd := hidden hhd
                  have HS0 : Hid (ST ga bc s (occs ps : Int) (q : Int) x2.drew) := by
                    have h3 := ST.of hhd HWf.out
                    rw [EQ.out] at h3
                    exact h3
                  clear hhd
                  refine wp_region_held_drew (S := ST ga bc s (occs ps : Int) (q : Int)) (by kernel_rfl) (HS0.out) (fun hHeld => ?_)
                  refine wpAnyH_take (i := 0) (v := .pointer (some ⟨g, 0, none⟩)) rfl (by kernel_rfl) (by kernel_rfl) (by kernel_rfl) (fun _ _ _ h => h) (Or.inl ⟨by rfl, fun w hS => by go_simp⟩) hHeld ?_
                  simp only [Act.put, List.getElem_toArray, List.getElem_cons_zero, List.setIfInBounds_toArray, List.set_cons_zero, List.set_cons_succ]
                  refine wpAnyH_take (i := 1) (v := .pointer (some ⟨ga, 1, none⟩)) rfl (by kernel_rfl) (by kernel_rfl) (by kernel_rfl) (fun _ _ _ h => h) (Or.inl ⟨by rfl, fun w hS => by go_simp⟩) hHeld ?_
                  simp only [Act.put, List.getElem_toArray, List.getElem_cons_zero, List.getElem_cons_succ, List.setIfInBounds_toArray, List.set_cons_zero, List.set_cons_succ]
                  refine wpAnyH_take (i := 2) (v := .int .i64 s) rfl (by kernel_rfl) (by kernel_rfl) (by kernel_rfl) (fun _ _ _ h => h) (Or.inl ⟨by rfl, fun w hS => by (have q1 := hS.1; go_simp)⟩) hHeld ?_
                  simp only [Act.put, List.getElem_toArray, List.getElem_cons_zero, List.getElem_cons_succ, List.setIfInBounds_toArray, List.set_cons_zero, List.set_cons_succ]
                  refine wpAnyH_take (i := 5) (v := .map (some bc)) rfl (by kernel_rfl) (by kernel_rfl) (by kernel_rfl) (fun _ _ _ h => h) (Or.inl ⟨by rfl, fun w hS => by go_simp⟩) hHeld ?_
                  simp only [Act.put, List.getElem_toArray, List.getElem_cons_zero, List.getElem_cons_succ, List.setIfInBounds_toArray, List.set_cons_zero, List.set_cons_succ]
                  refine wpAnyH_take (i := 6) (v := .pointer (some ⟨ga, 1, none⟩)) rfl (by kernel_rfl) (by kernel_rfl) (by kernel_rfl) (fun _ _ _ h => h) (Or.inl ⟨by rfl, fun w hS => by go_simp⟩) hHeld ?_
                  simp only [Act.put, List.getElem_toArray, List.getElem_cons_zero, List.getElem_cons_succ, List.setIfInBounds_toArray, List.set_cons_zero, List.set_cons_succ]
                  refine wpAnyH_take (i := 7) (v := .int .i64 s) rfl (by kernel_rfl) (by kernel_rfl) (by kernel_rfl) (fun _ _ _ h => h) (Or.inl ⟨by rfl, fun w hS => by (have q1 := hS.1; go_simp)⟩) hHeld ?_
                  simp only [Act.put, List.getElem_toArray, List.getElem_cons_zero, List.getElem_cons_succ, List.setIfInBounds_toArray, List.set_cons_zero, List.set_cons_succ]
                  refine wpAnyH_take (i := 8) (v := .int .i64 (q : Int)) rfl (by kernel_rfl) (by kernel_rfl) (by kernel_rfl) (fun _ _ _ h => h) (Or.inl ⟨by rfl, fun w hS => by (have q1 := hS.2.2; go_simp)⟩) hHeld ?_
                  simp only [Act.put, List.getElem_toArray, List.getElem_cons_zero, List.getElem_cons_succ, List.setIfInBounds_toArray, List.set_cons_zero, List.set_cons_succ]
                  refine wpAnyH_take (i := 9) (v := .bool true) rfl (by kernel_rfl) (by kernel_rfl) (by kernel_rfl) (fun _ _ _ h => h) (Or.inl ⟨by rfl, fun w hS => by go_simp⟩) hHeld ?_
                  simp only [Act.put, List.getElem_toArray, List.getElem_cons_zero, List.getElem_cons_succ, List.setIfInBounds_toArray, List.set_cons_zero, List.set_cons_succ]
                  refine wpAnyH_ready (rs := [3]) (by kernel_rfl) (by simp) ?_
                  refine AllReadyH.cons rfl (fun KQ hK => ?_) AllReadyH.nil
                  go_simp
                  refine (HHd.out.useS (fun vp vf h1 => hold_okA g vp vf room _ _ s i _ h1 HE.out HCI.out HMo.out)).mono ?_
                  rintro e wB ⟨rfl, hB⟩
                  rw [← HQ.out] at hB
                  have HB := hidden hB
                  have hSB : ST ga bc s (occs ps : Int) (q : Int) wB := by
                    have h3 := ST.of hB HWf.out
                    rw [EQ.out] at h3
                    exact h3
                  clear hB
                  refine hK.out _ _ (hSB) (fun hHeld => ?_)
                  clear hK KQ
                  refine wpAnyH_take (i := 4) (v := .bool true) rfl (by kernel_rfl) (by kernel_rfl) (by kernel_rfl) (fun _ _ _ h => h) (Or.inl ⟨by rfl, fun w hS => by go_simp⟩) hHeld ?_
                  simp only [Act.put, List.getElem_toArray, List.getElem_cons_zero, List.getElem_cons_succ, List.setIfInBounds_toArray, List.set_cons_zero, List.set_cons_succ]
                  refine wpAnyH_take (i := 10) (v := .bool false) rfl (by kernel_rfl) (by kernel_rfl) (by kernel_rfl) (fun _ _ _ h => h) (Or.inl ⟨by rfl, fun w hS => by go_simp⟩) hHeld ?_
                  simp only [Act.put, List.getElem_toArray, List.getElem_cons_zero, List.getElem_cons_succ, List.setIfInBounds_toArray, List.set_cons_zero, List.set_cons_succ]
                  refine wpAnyH_done (by kernel_rfl) ?_ _
                  have hst := ST.of HB.out HWf.out
                  have cc1 : wB.cell? ⟨ga, 1, none⟩ = some (.int .i64 s) := hst.1
                  have ll1 : (Instr.lookup 47 (.map (some bc)) (.int .i64 s) false).run Try.prog wB = .ok (.int .i64 (q : Int)) wB := by have h3 := hst.2.2; rw [EQ.out] at h3; exact h3
                  clear hst
                  obtain ⟨wM, hU, hCM, hgM⟩ := HB.out.cm.put (qs' := ps.set i (q + 1, thg ps i)) i (q + 1) (by omega) (by have := HB0.out.2; omega) (by have := HB0.out.1; omega) (fun j => by rw [cnt_set ps i j _ (cnt_lt HCI.out)]) (by
                    have h3 := occs_set ps i (q + 1, thg ps i) (cnt_lt HCI.out)
                    have h4 := HCI.out
                    rw [if_pos h4] at h3 ⊢
                    simp at h3
                    exact h3) (by
                    have h3 := occs_set ps i (q + 1, thg ps i) (cnt_lt HCI.out)
                    rw [if_pos HCI.out] at h3
                    simp at h3
                    have h4 := HI.out.sum
                    have h5 := HI.out.len
                    have h6 := HI.out.r2
                    omega)
                  have HUC : Hid ((Instr.mapUpdate 47 (.map (some bc)) (.int .i64 s) (.int .i64 ((q : Int) + 1))).run Try.prog wB = .ok () wM) := by
                    rw [← HE.out] at hU
                    exact hU
                  replace HH := hidden ((HB.out.turnC hgM hCM).sameT (m' := k + 1) (qt' := ps.set i (q + 1, thg ps i)) (Nat.le_succ _) (fun j hj => by
                    rw [cnt_set ps i j _ (cnt_lt HCI.out)] at hj
                    rw [thg_set ps i j _ (cnt_lt HCI.out)]
                    split
                    · next e => subst e; exact ⟨HCI.out, rfl⟩
                    · next e => rw [if_neg e] at hj; exact ⟨hj, rfl⟩))
                  clear hU hCM hgM HB HHd HS0
                  go_wp2_with (first
                    | (at_mapUpdate; refine wpList_mup rfl _ _ _ 47 rfl (.map (some bc)) _ (.int .i64 ((q : Int) + 1)) rfl rfl (by first | rfl | (go_simp; done) | (simp only [wq]; rfl)) HUC.out ?_))
                  have hhd := HH.out.grow (w' := wM.drew) (Below.refl _ _).drew
                  have HHd := hidden hhd
                  have HS0 := hidden (ST.of hhd HWf.out)
                  clear hhd
                  refine wp_region_held_drew (S := ST ga bc s (occs (ps.set i (q + 1, thg ps i)) : Int) (cntS (ps.set i (q + 1, thg ps i)) s : Int)) (by kernel_rfl) (HS0.out) (fun hHeld => ?_)
                  refine wpAnyH_take (i := 0) (v := .pointer (some ⟨g, 0, none⟩)) rfl (by kernel_rfl) (by kernel_rfl) (by kernel_rfl) (fun _ _ _ h => h) (Or.inl ⟨by rfl, fun w hS => by go_simp⟩) hHeld ?_
                  simp only [Act.put, List.getElem_toArray, List.getElem_cons_zero, List.setIfInBounds_toArray, List.set_cons_zero, List.set_cons_succ]
                  refine wpAnyH_take (i := 2) (v := .map (some bc)) rfl (by kernel_rfl) (by kernel_rfl) (by kernel_rfl) (fun _ _ _ h => h) (Or.inl ⟨by rfl, fun w hS => by go_simp⟩) hHeld ?_
                  simp only [Act.put, List.getElem_toArray, List.getElem_cons_zero, List.getElem_cons_succ, List.setIfInBounds_toArray, List.set_cons_zero, List.set_cons_succ]
                  refine wpAnyH_ready (rs := [1]) (by kernel_rfl) (by simp) ?_
                  refine AllReadyH.cons rfl (fun KQ hK => ?_) AllReadyH.nil
                  go_simp
                  refine (HHd.out.look (P := fun e _ => e = .returned (.int .i64 (occs (ps.set i (q + 1, thg ps i)) : Int))) (fun vp vf h1 => len_okA g vp vf room _ _ _ h1)).mono ?_
                  rintro e wB ⟨rfl, hB⟩
                  have hSB := ST.of hB HWf.out
                  have HB := hidden hB
                  clear hB
                  refine hK.out _ _ (hSB) (fun hHeld => ?_)
                  clear hK KQ
                  refine wpAnyH_take (i := 3) (v := .int .i64 (occs (ps.set i (q + 1, thg ps i)) : Int)) rfl (by kernel_rfl) (by kernel_rfl) (by kernel_rfl) (fun _ _ _ h => h) (Or.inl ⟨by rfl, fun w hS => by (have q1 := hS.2.1; go_simp)⟩) hHeld ?_
                  simp only [Act.put, List.getElem_toArray, List.getElem_cons_zero, List.getElem_cons_succ, List.setIfInBounds_toArray, List.set_cons_zero, List.set_cons_succ]
                  refine wpAnyH_take (i := 4) (v := .bool false) rfl (by kernel_rfl) (by kernel_rfl) (by kernel_rfl) (fun _ _ _ h => h) (Or.inl ⟨by rfl, fun w hS => by go_simp⟩) hHeld ?_
                  simp only [Act.put, List.getElem_toArray, List.getElem_cons_zero, List.getElem_cons_succ, List.setIfInBounds_toArray, List.set_cons_zero, List.set_cons_succ]
                  refine wpAnyH_take (i := 5) (v := .bool false) rfl (by kernel_rfl) (by kernel_rfl) (by kernel_rfl) (fun _ _ _ h => h) (Or.inl ⟨by rfl, fun w hS => by go_simp⟩) hHeld ?_
                  simp only [Act.put, List.getElem_toArray, List.getElem_cons_zero, List.getElem_cons_succ, List.setIfInBounds_toArray, List.set_cons_zero, List.set_cons_succ]
                  refine wpAnyH_take (i := 6) (v := .pointer (some ⟨g, 0, none⟩)) rfl (by kernel_rfl) (by kernel_rfl) (by kernel_rfl) (fun _ _ _ h => h) (Or.inl ⟨by rfl, fun w hS => by go_simp⟩) hHeld ?_
                  simp only [Act.put, List.getElem_toArray, List.getElem_cons_zero, List.getElem_cons_succ, List.setIfInBounds_toArray, List.set_cons_zero, List.set_cons_succ]
                  refine wpAnyH_take (i := 7) (v := .pointer (some ⟨ga, 1, none⟩)) rfl (by kernel_rfl) (by kernel_rfl) (by kernel_rfl) (fun _ _ _ h => h) (Or.inl ⟨by rfl, fun w hS => by go_simp⟩) hHeld ?_
                  simp only [Act.put, List.getElem_toArray, List.getElem_cons_zero, List.getElem_cons_succ, List.setIfInBounds_toArray, List.set_cons_zero, List.set_cons_succ]
                  refine wpAnyH_take (i := 8) (v := .int .i64 s) rfl (by kernel_rfl) (by kernel_rfl) (by kernel_rfl) (fun _ _ _ h => h) (Or.inl ⟨by rfl, fun w hS => by (have q1 := hS.1; go_simp)⟩) hHeld ?_
                  simp only [Act.put, List.getElem_toArray, List.getElem_cons_zero, List.getElem_cons_succ, List.setIfInBounds_toArray, List.set_cons_zero, List.set_cons_succ]
                  refine wpAnyH_take (i := 10) (v := .map (some bc)) rfl (by kernel_rfl) (by kernel_rfl) (by kernel_rfl) (fun _ _ _ h => h) (Or.inl ⟨by rfl, fun w hS => by go_simp⟩) hHeld ?_
                  simp only [Act.put, List.getElem_toArray, List.getElem_cons_zero, List.getElem_cons_succ, List.setIfInBounds_toArray, List.set_cons_zero, List.set_cons_succ]
                  refine wpAnyH_take (i := 11) (v := .pointer (some ⟨ga, 1, none⟩)) rfl (by kernel_rfl) (by kernel_rfl) (by kernel_rfl) (fun _ _ _ h => h) (Or.inl ⟨by rfl, fun w hS => by go_simp⟩) hHeld ?_
                  simp only [Act.put, List.getElem_toArray, List.getElem_cons_zero, List.getElem_cons_succ, List.setIfInBounds_toArray, List.set_cons_zero, List.set_cons_succ]
                  refine wpAnyH_take (i := 12) (v := .int .i64 s) rfl (by kernel_rfl) (by kernel_rfl) (by kernel_rfl) (fun _ _ _ h => h) (Or.inl ⟨by rfl, fun w hS => by (have q1 := hS.1; go_simp)⟩) hHeld ?_
                  simp only [Act.put, List.getElem_toArray, List.getElem_cons_zero, List.getElem_cons_succ, List.setIfInBounds_toArray, List.set_cons_zero, List.set_cons_succ]
                  refine wpAnyH_take (i := 13) (v := .int .i64 (cntS (ps.set i (q + 1, thg ps i)) s : Int)) rfl (by kernel_rfl) (by kernel_rfl) (by kernel_rfl) (fun _ _ _ h => h) (Or.inl ⟨by rfl, fun w hS => by (have q1 := hS.2.2; go_simp)⟩) hHeld ?_
                  simp only [Act.put, List.getElem_toArray, List.getElem_cons_zero, List.getElem_cons_succ, List.setIfInBounds_toArray, List.set_cons_zero, List.set_cons_succ]
                  refine wpAnyH_ready (rs := [9]) (by kernel_rfl) (by simp) ?_
                  refine AllReadyH.cons rfl (fun KQ hK => ?_) AllReadyH.nil
                  go_simp
                  refine (HB.out.look (P := fun e _ => e = .returned (.int .i64 (cntS (ps.set i (q + 1, thg ps i)) s : Int))) (fun vp vf h1 => count_anyA g vp vf room _ _ s _ h1)).mono ?_
                  rintro e wC ⟨rfl, hC⟩
                  have hSC := ST.of hC HWf.out
                  have HC := hidden hC
                  clear hC
                  refine hK.out _ _ (hSC) (fun hHeld => ?_)
                  clear hK KQ
                  refine wpAnyH_take (i := 14) (v := .bool false) rfl (by kernel_rfl) (by kernel_rfl) (by kernel_rfl) (fun _ _ _ h => h) (Or.inl ⟨by rfl, fun w hS => by go_simp⟩) hHeld ?_
                  simp only [Act.put, List.getElem_toArray, List.getElem_cons_zero, List.getElem_cons_succ, List.setIfInBounds_toArray, List.set_cons_zero, List.set_cons_succ]
                  refine wpAnyH_take (i := 15) (v := .bool false) rfl (by kernel_rfl) (by kernel_rfl) (by kernel_rfl) (fun _ _ _ h => h) (Or.inl ⟨by rfl, fun w hS => by go_simp⟩) hHeld ?_
                  simp only [Act.put, List.getElem_toArray, List.getElem_cons_zero, List.getElem_cons_succ, List.setIfInBounds_toArray, List.set_cons_zero, List.set_cons_succ]
                  refine wpAnyH_done (by kernel_rfl) ?_ _
                  go_wp2
                  exact ⟨⟨k + 1, by omega, by go_num, ⟨_, _, HC.out.less (by simp), HPn.out⟩⟩, by simp [intOf]; omega⟩
            · by_cases k2 : kk = 2
              · subst k2
                clear k0 k1
                by_cases hv : Vac ps s
                · skip
                  as_aux_lemma =>
                    have E0 := hidden (cntS_vac hv)
                    have HV := hidden hv
                    have HQ1 : Hid (∀ j : Nat, cnt ps j = if (j : Int) + 1 = s then 0 else cnt ps j) := fun j => by
                      split
                      · next e => exact hv j e.symm
                      · rfl
                    have HQ2 : Hid (occs ps + (if 0 < cntS ps s then 1 else 0) = occs ps) := by show occs ps + _ = _; rw [cntS_vac hv]; rfl
                    clear hv
                    go_wp2_with (first
                      | ((with_reducible refine at_ldd 45 44 ?_); refine wpList_load_mid rfl _ _ rfl sb (so + k * 3) rfl [Value.int .i64 2, .int .i64 s, .int .i64 x] _ HR0.out Try.underlying34 rfl size_thA ?_)
                      | ((with_reducible refine at_ald 11 ?_); refine wpList_al _ rfl _ rfl _ zero_thA ?_; intro x1 ga hga hla B1 q1; have HB1 := hidden B1; have Hq1 := hidden q1; have Hga := hidden hga; clear B1 q1 hga hla)
                      | ((with_reducible refine at_st 11 ?_); refine wpList_sto _ rfl _ _ _ rfl ga _ #[Value.int .i64 2, .int .i64 s, .int .i64 x] rfl rfl HB1.out size_thA rfl (one3 _ _ _) ?_; intro x2 B2 q2; have HH := hidden (HHp.out.hold (below_of Hq1.out Hga.out q2) B2 Hga.out); have c0 : x2.cell? ⟨ga, 0, none⟩ = some (.int .i64 2) := (by rw [B2.cell]; rfl); have c1 : x2.cell? ⟨ga, 1, none⟩ = some (.int .i64 s) := (by rw [B2.cell]; rfl); clear B2 q2 HB1 Hq1 Hga)
                      | (go_at_call 16; refine (HH.out.look (P := fun e _ => e = .returned (.tuple #[.bool false, .int .i64 7])) (fun vp vf h1 => calls_sameA (drop_badA g vp vf room _ _ s _ h1 HV.out))).mono ?_; rintro e x3 ⟨rfl, h3⟩; have H3 := hidden h3; clear h3; have hst := ST.of H3.out HWf.out; have cc1 : x3.cell? ⟨ga, 1, none⟩ = some (.int .i64 s) := hst.1; have ll1 : (Instr.lookup 47 (.map (some bc)) (.int .i64 s) false).run Try.prog x3 = .ok (.int .i64 0) x3 := (by have h3 := hst.2.2; rw [E0.out] at h3; exact h3); clear hst)
                      | (at_delete; refine wpList_delC rfl _ _ rfl bc s ps ps rfl rfl H3.out.cm HWf.out HQ1.out HQ2.out ?_; intro wM hCM hgM; replace HH := hidden ((H3.out.turnC hgM hCM).sameT (m' := k + 1) (qt' := ps) (Nat.le_succ _) (fun i hi => ⟨hi, rfl⟩)); clear hCM hgM; try go_frame))
                    have hhd := HH.out.grow (w' := wM.drew) (Below.refl _ _).drew
                    have HHd := hidden hhd
                    have HS0 := hidden (ST.of hhd HWf.out)
                    clear hhd
                    refine wp_region_held_drew (S := ST ga bc s (occs ps : Int) (cntS ps s : Int)) (by kernel_rfl) (HS0.out) (fun hHeld => ?_)
                    refine wpAnyH_take (i := 0) (v := .pointer (some ⟨g, 0, none⟩)) rfl (by kernel_rfl) (by kernel_rfl) (by kernel_rfl) (fun _ _ _ h => h) (Or.inl ⟨by rfl, fun w hS => by go_simp⟩) hHeld ?_
                    simp only [Act.put, List.getElem_toArray, List.getElem_cons_zero, List.setIfInBounds_toArray, List.set_cons_zero, List.set_cons_succ]
                    refine wpAnyH_take (i := 2) (v := .map (some bc)) rfl (by kernel_rfl) (by kernel_rfl) (by kernel_rfl) (fun _ _ _ h => h) (Or.inl ⟨by rfl, fun w hS => by go_simp⟩) hHeld ?_
                    simp only [Act.put, List.getElem_toArray, List.getElem_cons_zero, List.getElem_cons_succ, List.setIfInBounds_toArray, List.set_cons_zero, List.set_cons_succ]
                    refine wpAnyH_ready (rs := [1]) (by kernel_rfl) (by simp) ?_
                    refine AllReadyH.cons rfl (fun KQ hK => ?_) AllReadyH.nil
                    go_simp
                    refine (HHd.out.look (P := fun e _ => e = .returned (.int .i64 (occs ps : Int))) (fun vp vf h1 => len_okA g vp vf room _ _ _ h1)).mono ?_
                    rintro e wB ⟨rfl, hB⟩
                    have hSB := ST.of hB HWf.out
                    have HB := hidden hB
                    clear hB
                    refine hK.out _ _ (hSB) (fun hHeld => ?_)
                    clear hK KQ
                    refine wpAnyH_take (i := 3) (v := .int .i64 (occs ps : Int)) rfl (by kernel_rfl) (by kernel_rfl) (by kernel_rfl) (fun _ _ _ h => h) (Or.inl ⟨by rfl, fun w hS => by (have q1 := hS.2.1; go_simp)⟩) hHeld ?_
                    simp only [Act.put, List.getElem_toArray, List.getElem_cons_zero, List.getElem_cons_succ, List.setIfInBounds_toArray, List.set_cons_zero, List.set_cons_succ]
                    refine wpAnyH_take (i := 4) (v := .bool false) rfl (by kernel_rfl) (by kernel_rfl) (by kernel_rfl) (fun _ _ _ h => h) (Or.inl ⟨by rfl, fun w hS => by go_simp⟩) hHeld ?_
                    simp only [Act.put, List.getElem_toArray, List.getElem_cons_zero, List.getElem_cons_succ, List.setIfInBounds_toArray, List.set_cons_zero, List.set_cons_succ]
                    refine wpAnyH_take (i := 5) (v := .bool false) rfl (by kernel_rfl) (by kernel_rfl) (by kernel_rfl) (fun _ _ _ h => h) (Or.inl ⟨by rfl, fun w hS => by go_simp⟩) hHeld ?_
                    simp only [Act.put, List.getElem_toArray, List.getElem_cons_zero, List.getElem_cons_succ, List.setIfInBounds_toArray, List.set_cons_zero, List.set_cons_succ]
                    refine wpAnyH_take (i := 6) (v := .pointer (some ⟨g, 0, none⟩)) rfl (by kernel_rfl) (by kernel_rfl) (by kernel_rfl) (fun _ _ _ h => h) (Or.inl ⟨by rfl, fun w hS => by go_simp⟩) hHeld ?_
                    simp only [Act.put, List.getElem_toArray, List.getElem_cons_zero, List.getElem_cons_succ, List.setIfInBounds_toArray, List.set_cons_zero, List.set_cons_succ]
                    refine wpAnyH_take (i := 7) (v := .pointer (some ⟨ga, 1, none⟩)) rfl (by kernel_rfl) (by kernel_rfl) (by kernel_rfl) (fun _ _ _ h => h) (Or.inl ⟨by rfl, fun w hS => by go_simp⟩) hHeld ?_
                    simp only [Act.put, List.getElem_toArray, List.getElem_cons_zero, List.getElem_cons_succ, List.setIfInBounds_toArray, List.set_cons_zero, List.set_cons_succ]
                    refine wpAnyH_take (i := 8) (v := .int .i64 s) rfl (by kernel_rfl) (by kernel_rfl) (by kernel_rfl) (fun _ _ _ h => h) (Or.inl ⟨by rfl, fun w hS => by (have q1 := hS.1; go_simp)⟩) hHeld ?_
                    simp only [Act.put, List.getElem_toArray, List.getElem_cons_zero, List.getElem_cons_succ, List.setIfInBounds_toArray, List.set_cons_zero, List.set_cons_succ]
                    refine wpAnyH_take (i := 10) (v := .map (some bc)) rfl (by kernel_rfl) (by kernel_rfl) (by kernel_rfl) (fun _ _ _ h => h) (Or.inl ⟨by rfl, fun w hS => by go_simp⟩) hHeld ?_
                    simp only [Act.put, List.getElem_toArray, List.getElem_cons_zero, List.getElem_cons_succ, List.setIfInBounds_toArray, List.set_cons_zero, List.set_cons_succ]
                    refine wpAnyH_take (i := 11) (v := .pointer (some ⟨ga, 1, none⟩)) rfl (by kernel_rfl) (by kernel_rfl) (by kernel_rfl) (fun _ _ _ h => h) (Or.inl ⟨by rfl, fun w hS => by go_simp⟩) hHeld ?_
                    simp only [Act.put, List.getElem_toArray, List.getElem_cons_zero, List.getElem_cons_succ, List.setIfInBounds_toArray, List.set_cons_zero, List.set_cons_succ]
                    refine wpAnyH_take (i := 12) (v := .int .i64 s) rfl (by kernel_rfl) (by kernel_rfl) (by kernel_rfl) (fun _ _ _ h => h) (Or.inl ⟨by rfl, fun w hS => by (have q1 := hS.1; go_simp)⟩) hHeld ?_
                    simp only [Act.put, List.getElem_toArray, List.getElem_cons_zero, List.getElem_cons_succ, List.setIfInBounds_toArray, List.set_cons_zero, List.set_cons_succ]
                    refine wpAnyH_take (i := 13) (v := .int .i64 (cntS ps s : Int)) rfl (by kernel_rfl) (by kernel_rfl) (by kernel_rfl) (fun _ _ _ h => h) (Or.inl ⟨by rfl, fun w hS => by (have q1 := hS.2.2; go_simp)⟩) hHeld ?_
                    simp only [Act.put, List.getElem_toArray, List.getElem_cons_zero, List.getElem_cons_succ, List.setIfInBounds_toArray, List.set_cons_zero, List.set_cons_succ]
                    refine wpAnyH_ready (rs := [9]) (by kernel_rfl) (by simp) ?_
                    refine AllReadyH.cons rfl (fun KQ hK => ?_) AllReadyH.nil
                    go_simp
                    refine (HB.out.look (P := fun e _ => e = .returned (.int .i64 (cntS ps s : Int))) (fun vp vf h1 => count_anyA g vp vf room _ _ s _ h1)).mono ?_
                    rintro e wC ⟨rfl, hC⟩
                    have hSC := ST.of hC HWf.out
                    have HC := hidden hC
                    clear hC
                    refine hK.out _ _ (hSC) (fun hHeld => ?_)
                    clear hK KQ
                    refine wpAnyH_take (i := 14) (v := .bool false) rfl (by kernel_rfl) (by kernel_rfl) (by kernel_rfl) (fun _ _ _ h => h) (Or.inl ⟨by rfl, fun w hS => by go_simp⟩) hHeld ?_
                    simp only [Act.put, List.getElem_toArray, List.getElem_cons_zero, List.getElem_cons_succ, List.setIfInBounds_toArray, List.set_cons_zero, List.set_cons_succ]
                    refine wpAnyH_take (i := 15) (v := .bool false) rfl (by kernel_rfl) (by kernel_rfl) (by kernel_rfl) (fun _ _ _ h => h) (Or.inl ⟨by rfl, fun w hS => by go_simp⟩) hHeld ?_
                    simp only [Act.put, List.getElem_toArray, List.getElem_cons_zero, List.getElem_cons_succ, List.setIfInBounds_toArray, List.set_cons_zero, List.set_cons_succ]
                    refine wpAnyH_done (by kernel_rfl) ?_ _
                    go_wp2
                    exact ⟨⟨k + 1, by omega, by go_num, ⟨_, _, HC.out.less (by simp), HPs.out.mono (Nat.le_succ _)⟩⟩, by simp [intOf]; omega⟩
                · obtain ⟨i, hs, hi⟩ := notVac hv
                  clear hv
                  have hqb := HPs.out.most i
                  have hlen := HI.out.len
                  have hr2 := HI.out.r2
                  have hil := cnt_lt hi
                  have HE := hidden hs
                  have HCI := hidden hi
                  by_cases hone : cnt ps i = 1
                  · skip
                    as_aux_lemma =>
                      have EQ : Hid (cntS ps s = 1) := by show cntS ps s = 1; rw [hs, cntS_at, hone]
                      have HMo := hidden hone
                      have HPn : Hid (Ps (k + 1) (ps.set i (0, [Value.int .i64 0, .int .i64 0, .int .i64 0]))) := (HPs.out.mono (Nat.le_succ k)).put hil (Nat.zero_le _) 0 0 0
                      have HQ1 : Hid (∀ j : Nat, cnt (ps.set i (0, [Value.int .i64 0, .int .i64 0, .int .i64 0])) j = if (j : Int) + 1 = s then 0 else cnt ps j) := fun j => by
                        rw [cnt_set ps i j _ hil]
                        by_cases e : j = i
                        · rw [if_pos e, if_pos (by omega)]
                        · rw [if_neg e, if_neg (by omega)]
                      have HQ2 : Hid (occs (ps.set i (0, [Value.int .i64 0, .int .i64 0, .int .i64 0])) + (if 0 < cntS ps s then 1 else 0) = occs ps) := by
                        have h3 := occs_set ps i (0, [Value.int .i64 0, .int .i64 0, .int .i64 0]) hil
                        rw [if_pos hi] at h3
                        show occs (ps.set i (0, [Value.int .i64 0, .int .i64 0, .int .i64 0])) + (if 0 < cntS ps s then 1 else 0) = occs ps
                        rw [EQ.out]
                        simp at h3 ⊢
                        exact h3
                      have HQ3 : Hid (∀ j, 0 < cnt (ps.set i (0, [Value.int .i64 0, .int .i64 0, .int .i64 0])) j → 0 < cnt ps j ∧ thg (ps.set i (0, [Value.int .i64 0, .int .i64 0, .int .i64 0])) j = thg ps j) := fun j hj => by
                        rw [cnt_set ps i j _ hil] at hj
                        rw [thg_set ps i j _ hil]
                        split
                        · next e => rw [if_pos e] at hj; simp at hj
                        · next e => rw [if_neg e] at hj; exact ⟨hj, rfl⟩
                      clear hqb hlen hr2 hil hs hi hone
                      go_wp2_with (first
                        | ((with_reducible refine at_ldd 45 44 ?_); refine wpList_load_mid rfl _ _ rfl sb (so + k * 3) rfl [Value.int .i64 2, .int .i64 s, .int .i64 x] _ HR0.out Try.underlying34 rfl size_thA ?_)
                        | ((with_reducible refine at_ald 11 ?_); refine wpList_al _ rfl _ rfl _ zero_thA ?_; intro x1 ga hga hla B1 q1; have HB1 := hidden B1; have Hq1 := hidden q1; have Hga := hidden hga; clear B1 q1 hga hla)
                        | ((with_reducible refine at_st 11 ?_); refine wpList_sto _ rfl _ _ _ rfl ga _ #[Value.int .i64 2, .int .i64 s, .int .i64 x] rfl rfl HB1.out size_thA rfl (one3 _ _ _) ?_; intro x2 B2 q2; have HH := hidden (HHp.out.hold (below_of Hq1.out Hga.out q2) B2 Hga.out); have c0 : x2.cell? ⟨ga, 0, none⟩ = some (.int .i64 2) := (by rw [B2.cell]; rfl); have c1 : x2.cell? ⟨ga, 1, none⟩ = some (.int .i64 s) := (by rw [B2.cell]; rfl); clear B2 q2 HB1 Hq1 Hga)
                        | (go_at_call 16; refine (HH.out.useS (fun vp vf h1 => drop_lastA g vp vf room _ _ s i _ h1 HE.out HCI.out HMo.out)).mono ?_; rintro e x3 ⟨rfl, h3⟩; have H3 := hidden h3; clear h3; have hst := ST.of H3.out HWf.out; have cc1 : x3.cell? ⟨ga, 1, none⟩ = some (.int .i64 s) := hst.1; have ll1 : (Instr.lookup 47 (.map (some bc)) (.int .i64 s) false).run Try.prog x3 = .ok (.int .i64 1) x3 := (by have h3 := hst.2.2; rw [EQ.out] at h3; exact h3); clear hst)
                        | (at_delete; refine wpList_delC rfl _ _ rfl bc s ps (ps.set i (0, [Value.int .i64 0, .int .i64 0, .int .i64 0])) rfl rfl H3.out.cm HWf.out HQ1.out HQ2.out ?_; intro wM hCM hgM; replace HH := hidden ((H3.out.turnC hgM hCM).sameT (m' := k + 1) (qt' := (ps.set i (0, [Value.int .i64 0, .int .i64 0, .int .i64 0]))) (Nat.le_succ _) (HQ3.out)); clear hCM hgM; try go_frame))
                      have hhd := HH.out.grow (w' := wM.drew) (Below.refl _ _).drew
                      have HHd := hidden hhd
                      have HS0 := hidden (ST.of hhd HWf.out)
                      clear hhd
                      refine wp_region_held_drew (S := ST ga bc s (occs (ps.set i (0, [Value.int .i64 0, .int .i64 0, .int .i64 0])) : Int) (cntS (ps.set i (0, [Value.int .i64 0, .int .i64 0, .int .i64 0])) s : Int)) (by kernel_rfl) (HS0.out) (fun hHeld => ?_)
                      refine wpAnyH_take (i := 0) (v := .pointer (some ⟨g, 0, none⟩)) rfl (by kernel_rfl) (by kernel_rfl) (by kernel_rfl) (fun _ _ _ h => h) (Or.inl ⟨by rfl, fun w hS => by go_simp⟩) hHeld ?_
                      simp only [Act.put, List.getElem_toArray, List.getElem_cons_zero, List.setIfInBounds_toArray, List.set_cons_zero, List.set_cons_succ]
                      refine wpAnyH_take (i := 2) (v := .map (some bc)) rfl (by kernel_rfl) (by kernel_rfl) (by kernel_rfl) (fun _ _ _ h => h) (Or.inl ⟨by rfl, fun w hS => by go_simp⟩) hHeld ?_
                      simp only [Act.put, List.getElem_toArray, List.getElem_cons_zero, List.getElem_cons_succ, List.setIfInBounds_toArray, List.set_cons_zero, List.set_cons_succ]
                      refine wpAnyH_ready (rs := [1]) (by kernel_rfl) (by simp) ?_
                      refine AllReadyH.cons rfl (fun KQ hK => ?_) AllReadyH.nil
                      go_simp
                      refine (HHd.out.look (P := fun e _ => e = .returned (.int .i64 (occs (ps.set i (0, [Value.int .i64 0, .int .i64 0, .int .i64 0])) : Int))) (fun vp vf h1 => len_okA g vp vf room _ _ _ h1)).mono ?_
                      rintro e wB ⟨rfl, hB⟩
                      have hSB := ST.of hB HWf.out
                      have HB := hidden hB
                      clear hB
                      refine hK.out _ _ (hSB) (fun hHeld => ?_)
                      clear hK KQ
                      refine wpAnyH_take (i := 3) (v := .int .i64 (occs (ps.set i (0, [Value.int .i64 0, .int .i64 0, .int .i64 0])) : Int)) rfl (by kernel_rfl) (by kernel_rfl) (by kernel_rfl) (fun _ _ _ h => h) (Or.inl ⟨by rfl, fun w hS => by (have q1 := hS.2.1; go_simp)⟩) hHeld ?_
                      simp only [Act.put, List.getElem_toArray, List.getElem_cons_zero, List.getElem_cons_succ, List.setIfInBounds_toArray, List.set_cons_zero, List.set_cons_succ]
                      refine wpAnyH_take (i := 4) (v := .bool false) rfl (by kernel_rfl) (by kernel_rfl) (by kernel_rfl) (fun _ _ _ h => h) (Or.inl ⟨by rfl, fun w hS => by go_simp⟩) hHeld ?_
                      simp only [Act.put, List.getElem_toArray, List.getElem_cons_zero, List.getElem_cons_succ, List.setIfInBounds_toArray, List.set_cons_zero, List.set_cons_succ]
                      refine wpAnyH_take (i := 5) (v := .bool false) rfl (by kernel_rfl) (by kernel_rfl) (by kernel_rfl) (fun _ _ _ h => h) (Or.inl ⟨by rfl, fun w hS => by go_simp⟩) hHeld ?_
                      simp only [Act.put, List.getElem_toArray, List.getElem_cons_zero, List.getElem_cons_succ, List.setIfInBounds_toArray, List.set_cons_zero, List.set_cons_succ]
                      refine wpAnyH_take (i := 6) (v := .pointer (some ⟨g, 0, none⟩)) rfl (by kernel_rfl) (by kernel_rfl) (by kernel_rfl) (fun _ _ _ h => h) (Or.inl ⟨by rfl, fun w hS => by go_simp⟩) hHeld ?_
                      simp only [Act.put, List.getElem_toArray, List.getElem_cons_zero, List.getElem_cons_succ, List.setIfInBounds_toArray, List.set_cons_zero, List.set_cons_succ]
                      refine wpAnyH_take (i := 7) (v := .pointer (some ⟨ga, 1, none⟩)) rfl (by kernel_rfl) (by kernel_rfl) (by kernel_rfl) (fun _ _ _ h => h) (Or.inl ⟨by rfl, fun w hS => by go_simp⟩) hHeld ?_
                      simp only [Act.put, List.getElem_toArray, List.getElem_cons_zero, List.getElem_cons_succ, List.setIfInBounds_toArray, List.set_cons_zero, List.set_cons_succ]
                      refine wpAnyH_take (i := 8) (v := .int .i64 s) rfl (by kernel_rfl) (by kernel_rfl) (by kernel_rfl) (fun _ _ _ h => h) (Or.inl ⟨by rfl, fun w hS => by (have q1 := hS.1; go_simp)⟩) hHeld ?_
                      simp only [Act.put, List.getElem_toArray, List.getElem_cons_zero, List.getElem_cons_succ, List.setIfInBounds_toArray, List.set_cons_zero, List.set_cons_succ]
                      refine wpAnyH_take (i := 10) (v := .map (some bc)) rfl (by kernel_rfl) (by kernel_rfl) (by kernel_rfl) (fun _ _ _ h => h) (Or.inl ⟨by rfl, fun w hS => by go_simp⟩) hHeld ?_
                      simp only [Act.put, List.getElem_toArray, List.getElem_cons_zero, List.getElem_cons_succ, List.setIfInBounds_toArray, List.set_cons_zero, List.set_cons_succ]
                      refine wpAnyH_take (i := 11) (v := .pointer (some ⟨ga, 1, none⟩)) rfl (by kernel_rfl) (by kernel_rfl) (by kernel_rfl) (fun _ _ _ h => h) (Or.inl ⟨by rfl, fun w hS => by go_simp⟩) hHeld ?_
                      simp only [Act.put, List.getElem_toArray, List.getElem_cons_zero, List.getElem_cons_succ, List.setIfInBounds_toArray, List.set_cons_zero, List.set_cons_succ]
                      refine wpAnyH_take (i := 12) (v := .int .i64 s) rfl (by kernel_rfl) (by kernel_rfl) (by kernel_rfl) (fun _ _ _ h => h) (Or.inl ⟨by rfl, fun w hS => by (have q1 := hS.1; go_simp)⟩) hHeld ?_
                      simp only [Act.put, List.getElem_toArray, List.getElem_cons_zero, List.getElem_cons_succ, List.setIfInBounds_toArray, List.set_cons_zero, List.set_cons_succ]
                      refine wpAnyH_take (i := 13) (v := .int .i64 (cntS (ps.set i (0, [Value.int .i64 0, .int .i64 0, .int .i64 0])) s : Int)) rfl (by kernel_rfl) (by kernel_rfl) (by kernel_rfl) (fun _ _ _ h => h) (Or.inl ⟨by rfl, fun w hS => by (have q1 := hS.2.2; go_simp)⟩) hHeld ?_
                      simp only [Act.put, List.getElem_toArray, List.getElem_cons_zero, List.getElem_cons_succ, List.setIfInBounds_toArray, List.set_cons_zero, List.set_cons_succ]
                      refine wpAnyH_ready (rs := [9]) (by kernel_rfl) (by simp) ?_
                      refine AllReadyH.cons rfl (fun KQ hK => ?_) AllReadyH.nil
                      go_simp
                      refine (HB.out.look (P := fun e _ => e = .returned (.int .i64 (cntS (ps.set i (0, [Value.int .i64 0, .int .i64 0, .int .i64 0])) s : Int))) (fun vp vf h1 => count_anyA g vp vf room _ _ s _ h1)).mono ?_
                      rintro e wC ⟨rfl, hC⟩
                      have hSC := ST.of hC HWf.out
                      have HC := hidden hC
                      clear hC
                      refine hK.out _ _ (hSC) (fun hHeld => ?_)
                      clear hK KQ
                      refine wpAnyH_take (i := 14) (v := .bool false) rfl (by kernel_rfl) (by kernel_rfl) (by kernel_rfl) (fun _ _ _ h => h) (Or.inl ⟨by rfl, fun w hS => by go_simp⟩) hHeld ?_
                      simp only [Act.put, List.getElem_toArray, List.getElem_cons_zero, List.getElem_cons_succ, List.setIfInBounds_toArray, List.set_cons_zero, List.set_cons_succ]
                      refine wpAnyH_take (i := 15) (v := .bool false) rfl (by kernel_rfl) (by kernel_rfl) (by kernel_rfl) (fun _ _ _ h => h) (Or.inl ⟨by rfl, fun w hS => by go_simp⟩) hHeld ?_
                      simp only [Act.put, List.getElem_toArray, List.getElem_cons_zero, List.getElem_cons_succ, List.setIfInBounds_toArray, List.set_cons_zero, List.set_cons_succ]
                      refine wpAnyH_done (by kernel_rfl) ?_ _
                      go_wp2
                      exact ⟨⟨k + 1, by omega, by go_num, ⟨_, _, HC.out.less (by simp), HPn.out⟩⟩, by simp [intOf]; omega⟩
                  · skip
                    as_aux_lemma =>
                      obtain ⟨q, hq⟩ : ∃ q : Nat, q = cnt ps i := ⟨_, rfl⟩
                      obtain ⟨u, hu⟩ : ∃ u : Nat, u + 1 = q := ⟨q - 1, by omega⟩
                      have HU : Hid (u = cnt ps i - 1) := by show u = cnt ps i - 1; omega
                      have p0 : (0 : Int) < (q : Int) := by omega
                      have p00 : 0 < q := by omega
                      have p1 : (1 : Int) < (q : Int) := by omega
                      have p11 : 1 < q := by omega
                      have p2 : ¬ (q : Int) = 1 := by omega
                      have p22 : ¬ q = 1 := by omega
                      have wq : wrap64 ((q : Int) - 1) = (u : Int) := by rw [Go.IntWalk.wrap64_in _ (by omega)]; omega
                      have EQ : Hid (cntS ps s = q) := by show cntS ps s = q; rw [hs, cntS_at, hq]
                      have HMo : Hid (1 < cnt ps i) := by show 1 < cnt ps i; omega
                      have HPn : Hid (Ps (k + 1) (ps.set i (u, thg ps i))) := (HPs.out.mono (Nat.le_succ k)).keep hi (by omega)
                      have HP : Hid (∀ w', CM w' bc ps → ∃ wM, (Instr.mapUpdate 47 (.map (some bc)) (.int .i64 s) (.int .i64 (u : Int))).run Try.prog w' = .ok () wM ∧ CM wM bc (ps.set i (u, thg ps i)) ∧ w'.grownBy wM (some bc)) := fun w' hc => by
                        have h3 := occs_set ps i (u, thg ps i) hil
                        rw [if_pos hi, if_pos (show 0 < (u, thg ps i).1 by show 0 < u; omega)] at h3
                        have h4 := HI.out.sum
                        obtain ⟨wM, k1, k2, k3⟩ := hc.put (qs' := ps.set i (u, thg ps i)) i u (by omega) (by omega) (by omega) (fun j => by rw [cnt_set ps i j _ hil]) (by rw [if_pos hi]; omega) (by omega)
                        rw [← hs] at k1
                        exact ⟨wM, k1, k2, k3⟩
                      have HQ3 : Hid (∀ j, 0 < cnt (ps.set i (u, thg ps i)) j → 0 < cnt ps j ∧ thg (ps.set i (u, thg ps i)) j = thg ps j) := fun j hj => by
                        rw [cnt_set ps i j _ hil] at hj
                        rw [thg_set ps i j _ hil]
                        split
                        · next e => subst e; exact ⟨hi, rfl⟩
                        · next e => rw [if_neg e] at hj; exact ⟨hj, rfl⟩
                      clear hqb hlen hr2 hil hq hs hi hu hone
                      go_wp2_with (first
                        | ((with_reducible refine at_ldd 45 44 ?_); refine wpList_load_mid rfl _ _ rfl sb (so + k * 3) rfl [Value.int .i64 2, .int .i64 s, .int .i64 x] _ HR0.out Try.underlying34 rfl size_thA ?_)
                        | ((with_reducible refine at_ald 11 ?_); refine wpList_al _ rfl _ rfl _ zero_thA ?_; intro x1 ga hga hla B1 q1; have HB1 := hidden B1; have Hq1 := hidden q1; have Hga := hidden hga; clear B1 q1 hga hla)
                        | ((with_reducible refine at_st 11 ?_); refine wpList_sto _ rfl _ _ _ rfl ga _ #[Value.int .i64 2, .int .i64 s, .int .i64 x] rfl rfl HB1.out size_thA rfl (one3 _ _ _) ?_; intro x2 B2 q2; have HH := hidden (HHp.out.hold (below_of Hq1.out Hga.out q2) B2 Hga.out); have c0 : x2.cell? ⟨ga, 0, none⟩ = some (.int .i64 2) := (by rw [B2.cell]; rfl); have c1 : x2.cell? ⟨ga, 1, none⟩ = some (.int .i64 s) := (by rw [B2.cell]; rfl); clear B2 q2 HB1 Hq1 Hga)
                        | (go_at_call 16; refine (HH.out.useS (fun vp vf h1 => drop_moreA g vp vf room _ _ s i _ h1 HE.out HCI.out HMo.out)).mono ?_; rintro e x3 ⟨rfl, h3⟩; rw [← HU.out] at h3; have H3 := hidden h3; clear h3; have hst := ST.of H3.out HWf.out; have cc1 : x3.cell? ⟨ga, 1, none⟩ = some (.int .i64 s) := hst.1; have ll1 : (Instr.lookup 47 (.map (some bc)) (.int .i64 s) false).run Try.prog x3 = .ok (.int .i64 (q : Int)) x3 := (by have h3 := hst.2.2; rw [EQ.out] at h3; exact h3); clear hst; obtain ⟨wM, hU, hCM, hgM⟩ := HP.out _ H3.out.cm; have HUC := hidden hU; replace HH := hidden ((H3.out.turnC hgM hCM).sameT (m' := k + 1) (qt' := ps.set i (u, thg ps i)) (Nat.le_succ _) HQ3.out); clear hU hCM hgM)
                        | (at_mapUpdate; refine wpList_mup rfl _ _ _ 47 rfl (.map (some bc)) _ (.int .i64 (u : Int)) rfl rfl (by first | rfl | (go_simp; done) | (simp only [wq]; rfl)) HUC.out ?_))
                      have hhd := HH.out.grow (w' := wM.drew) (Below.refl _ _).drew
                      have HHd := hidden hhd
                      have HS0 := hidden (ST.of hhd HWf.out)
                      clear hhd
                      refine wp_region_held_drew (S := ST ga bc s (occs (ps.set i (u, thg ps i)) : Int) (cntS (ps.set i (u, thg ps i)) s : Int)) (by kernel_rfl) (HS0.out) (fun hHeld => ?_)
                      refine wpAnyH_take (i := 0) (v := .pointer (some ⟨g, 0, none⟩)) rfl (by kernel_rfl) (by kernel_rfl) (by kernel_rfl) (fun _ _ _ h => h) (Or.inl ⟨by rfl, fun w hS => by go_simp⟩) hHeld ?_
                      simp only [Act.put, List.getElem_toArray, List.getElem_cons_zero, List.setIfInBounds_toArray, List.set_cons_zero, List.set_cons_succ]
                      refine wpAnyH_take (i := 2) (v := .map (some bc)) rfl (by kernel_rfl) (by kernel_rfl) (by kernel_rfl) (fun _ _ _ h => h) (Or.inl ⟨by rfl, fun w hS => by go_simp⟩) hHeld ?_
                      simp only [Act.put, List.getElem_toArray, List.getElem_cons_zero, List.getElem_cons_succ, List.setIfInBounds_toArray, List.set_cons_zero, List.set_cons_succ]
                      refine wpAnyH_ready (rs := [1]) (by kernel_rfl) (by simp) ?_
                      refine AllReadyH.cons rfl (fun KQ hK => ?_) AllReadyH.nil
                      go_simp
                      refine (HHd.out.look (P := fun e _ => e = .returned (.int .i64 (occs (ps.set i (u, thg ps i)) : Int))) (fun vp vf h1 => len_okA g vp vf room _ _ _ h1)).mono ?_
                      rintro e wB ⟨rfl, hB⟩
                      have hSB := ST.of hB HWf.out
                      have HB := hidden hB
                      clear hB
                      refine hK.out _ _ (hSB) (fun hHeld => ?_)
                      clear hK KQ
                      refine wpAnyH_take (i := 3) (v := .int .i64 (occs (ps.set i (u, thg ps i)) : Int)) rfl (by kernel_rfl) (by kernel_rfl) (by kernel_rfl) (fun _ _ _ h => h) (Or.inl ⟨by rfl, fun w hS => by (have q1 := hS.2.1; go_simp)⟩) hHeld ?_
                      simp only [Act.put, List.getElem_toArray, List.getElem_cons_zero, List.getElem_cons_succ, List.setIfInBounds_toArray, List.set_cons_zero, List.set_cons_succ]
                      refine wpAnyH_take (i := 4) (v := .bool false) rfl (by kernel_rfl) (by kernel_rfl) (by kernel_rfl) (fun _ _ _ h => h) (Or.inl ⟨by rfl, fun w hS => by go_simp⟩) hHeld ?_
                      simp only [Act.put, List.getElem_toArray, List.getElem_cons_zero, List.getElem_cons_succ, List.setIfInBounds_toArray, List.set_cons_zero, List.set_cons_succ]
                      refine wpAnyH_take (i := 5) (v := .bool false) rfl (by kernel_rfl) (by kernel_rfl) (by kernel_rfl) (fun _ _ _ h => h) (Or.inl ⟨by rfl, fun w hS => by go_simp⟩) hHeld ?_
                      simp only [Act.put, List.getElem_toArray, List.getElem_cons_zero, List.getElem_cons_succ, List.setIfInBounds_toArray, List.set_cons_zero, List.set_cons_succ]
                      refine wpAnyH_take (i := 6) (v := .pointer (some ⟨g, 0, none⟩)) rfl (by kernel_rfl) (by kernel_rfl) (by kernel_rfl) (fun _ _ _ h => h) (Or.inl ⟨by rfl, fun w hS => by go_simp⟩) hHeld ?_
                      simp only [Act.put, List.getElem_toArray, List.getElem_cons_zero, List.getElem_cons_succ, List.setIfInBounds_toArray, List.set_cons_zero, List.set_cons_succ]
                      refine wpAnyH_take (i := 7) (v := .pointer (some ⟨ga, 1, none⟩)) rfl (by kernel_rfl) (by kernel_rfl) (by kernel_rfl) (fun _ _ _ h => h) (Or.inl ⟨by rfl, fun w hS => by go_simp⟩) hHeld ?_
                      simp only [Act.put, List.getElem_toArray, List.getElem_cons_zero, List.getElem_cons_succ, List.setIfInBounds_toArray, List.set_cons_zero, List.set_cons_succ]
                      refine wpAnyH_take (i := 8) (v := .int .i64 s) rfl (by kernel_rfl) (by kernel_rfl) (by kernel_rfl) (fun _ _ _ h => h) (Or.inl ⟨by rfl, fun w hS => by (have q1 := hS.1; go_simp)⟩) hHeld ?_
                      simp only [Act.put, List.getElem_toArray, List.getElem_cons_zero, List.getElem_cons_succ, List.setIfInBounds_toArray, List.set_cons_zero, List.set_cons_succ]
                      refine wpAnyH_take (i := 10) (v := .map (some bc)) rfl (by kernel_rfl) (by kernel_rfl) (by kernel_rfl) (fun _ _ _ h => h) (Or.inl ⟨by rfl, fun w hS => by go_simp⟩) hHeld ?_
                      simp only [Act.put, List.getElem_toArray, List.getElem_cons_zero, List.getElem_cons_succ, List.setIfInBounds_toArray, List.set_cons_zero, List.set_cons_succ]
                      refine wpAnyH_take (i := 11) (v := .pointer (some ⟨ga, 1, none⟩)) rfl (by kernel_rfl) (by kernel_rfl) (by kernel_rfl) (fun _ _ _ h => h) (Or.inl ⟨by rfl, fun w hS => by go_simp⟩) hHeld ?_
                      simp only [Act.put, List.getElem_toArray, List.getElem_cons_zero, List.getElem_cons_succ, List.setIfInBounds_toArray, List.set_cons_zero, List.set_cons_succ]
                      refine wpAnyH_take (i := 12) (v := .int .i64 s) rfl (by kernel_rfl) (by kernel_rfl) (by kernel_rfl) (fun _ _ _ h => h) (Or.inl ⟨by rfl, fun w hS => by (have q1 := hS.1; go_simp)⟩) hHeld ?_
                      simp only [Act.put, List.getElem_toArray, List.getElem_cons_zero, List.getElem_cons_succ, List.setIfInBounds_toArray, List.set_cons_zero, List.set_cons_succ]
                      refine wpAnyH_take (i := 13) (v := .int .i64 (cntS (ps.set i (u, thg ps i)) s : Int)) rfl (by kernel_rfl) (by kernel_rfl) (by kernel_rfl) (fun _ _ _ h => h) (Or.inl ⟨by rfl, fun w hS => by (have q1 := hS.2.2; go_simp)⟩) hHeld ?_
                      simp only [Act.put, List.getElem_toArray, List.getElem_cons_zero, List.getElem_cons_succ, List.setIfInBounds_toArray, List.set_cons_zero, List.set_cons_succ]
                      refine wpAnyH_ready (rs := [9]) (by kernel_rfl) (by simp) ?_
                      refine AllReadyH.cons rfl (fun KQ hK => ?_) AllReadyH.nil
                      go_simp
                      refine (HB.out.look (P := fun e _ => e = .returned (.int .i64 (cntS (ps.set i (u, thg ps i)) s : Int))) (fun vp vf h1 => count_anyA g vp vf room _ _ s _ h1)).mono ?_
                      rintro e wC ⟨rfl, hC⟩
                      have hSC := ST.of hC HWf.out
                      have HC := hidden hC
                      clear hC
                      refine hK.out _ _ (hSC) (fun hHeld => ?_)
                      clear hK KQ
                      refine wpAnyH_take (i := 14) (v := .bool false) rfl (by kernel_rfl) (by kernel_rfl) (by kernel_rfl) (fun _ _ _ h => h) (Or.inl ⟨by rfl, fun w hS => by go_simp⟩) hHeld ?_
                      simp only [Act.put, List.getElem_toArray, List.getElem_cons_zero, List.getElem_cons_succ, List.setIfInBounds_toArray, List.set_cons_zero, List.set_cons_succ]
                      refine wpAnyH_take (i := 15) (v := .bool false) rfl (by kernel_rfl) (by kernel_rfl) (by kernel_rfl) (fun _ _ _ h => h) (Or.inl ⟨by rfl, fun w hS => by go_simp⟩) hHeld ?_
                      simp only [Act.put, List.getElem_toArray, List.getElem_cons_zero, List.getElem_cons_succ, List.setIfInBounds_toArray, List.set_cons_zero, List.set_cons_succ]
                      refine wpAnyH_done (by kernel_rfl) ?_ _
                      go_wp2
                      exact ⟨⟨k + 1, by omega, by go_num, ⟨_, _, HC.out.less (by simp), HPn.out⟩⟩, by simp [intOf]; omega⟩
              · skip
                as_aux_lemma =>
                  go_wp2_with (first
                    | ((with_reducible refine at_ldd 45 44 ?_); refine wpList_load_mid rfl _ _ rfl sb (so + k * 3) rfl [Value.int .i64 kk, .int .i64 s, .int .i64 x] _ HR0.out Try.underlying34 rfl size_thA ?_)
                    | ((with_reducible refine at_ald 11 ?_); refine wpList_al _ rfl _ rfl _ zero_thA ?_; intro x1 ga hga hla B1 q1; have HB1 := hidden B1; have Hq1 := hidden q1; have Hga := hidden hga; clear B1 q1 hga hla)
                    | ((with_reducible refine at_st 11 ?_); refine wpList_sto _ rfl _ _ _ rfl ga _ #[Value.int .i64 kk, .int .i64 s, .int .i64 x] rfl rfl HB1.out size_thA rfl (one3 _ _ _) ?_; intro x2 B2 q2; have HH := hidden (HHp.out.hold (below_of Hq1.out Hga.out q2) B2 Hga.out); have c0 : x2.cell? ⟨ga, 0, none⟩ = some (.int .i64 kk) := (by rw [B2.cell]; rfl); have c1 : x2.cell? ⟨ga, 1, none⟩ = some (.int .i64 s) := (by rw [B2.cell]; rfl); clear B2 q2 HB1 Hq1 Hga))
                  have hhd := HH.out.grow (w' := x2.drew) (Below.refl _ _).drew
                  have HHd := hidden hhd
                  have HS0 := hidden (ST.of hhd HWf.out)
                  clear hhd
                  refine wp_region_held_drew (S := ST ga bc s (occs ps : Int) (cntS ps s : Int)) (by kernel_rfl) (HS0.out) (fun hHeld => ?_)
                  refine wpAnyH_take (i := 0) (v := .pointer (some ⟨g, 0, none⟩)) rfl (by kernel_rfl) (by kernel_rfl) (by kernel_rfl) (fun _ _ _ h => h) (Or.inl ⟨by rfl, fun w hS => by go_simp⟩) hHeld ?_
                  simp only [Act.put, List.getElem_toArray, List.getElem_cons_zero, List.setIfInBounds_toArray, List.set_cons_zero, List.set_cons_succ]
                  refine wpAnyH_take (i := 2) (v := .map (some bc)) rfl (by kernel_rfl) (by kernel_rfl) (by kernel_rfl) (fun _ _ _ h => h) (Or.inl ⟨by rfl, fun w hS => by go_simp⟩) hHeld ?_
                  simp only [Act.put, List.getElem_toArray, List.getElem_cons_zero, List.getElem_cons_succ, List.setIfInBounds_toArray, List.set_cons_zero, List.set_cons_succ]
                  refine wpAnyH_ready (rs := [1]) (by kernel_rfl) (by simp) ?_
                  refine AllReadyH.cons rfl (fun KQ hK => ?_) AllReadyH.nil
                  go_simp
                  refine (HHd.out.look (P := fun e _ => e = .returned (.int .i64 (occs ps : Int))) (fun vp vf h1 => len_okA g vp vf room _ _ _ h1)).mono ?_
                  rintro e wB ⟨rfl, hB⟩
                  have hSB := ST.of hB HWf.out
                  have HB := hidden hB
                  clear hB
                  refine hK.out _ _ (hSB) (fun hHeld => ?_)
                  clear hK KQ
                  refine wpAnyH_take (i := 3) (v := .int .i64 (occs ps : Int)) rfl (by kernel_rfl) (by kernel_rfl) (by kernel_rfl) (fun _ _ _ h => h) (Or.inl ⟨by rfl, fun w hS => by (have q1 := hS.2.1; go_simp)⟩) hHeld ?_
                  simp only [Act.put, List.getElem_toArray, List.getElem_cons_zero, List.getElem_cons_succ, List.setIfInBounds_toArray, List.set_cons_zero, List.set_cons_succ]
                  refine wpAnyH_take (i := 4) (v := .bool false) rfl (by kernel_rfl) (by kernel_rfl) (by kernel_rfl) (fun _ _ _ h => h) (Or.inl ⟨by rfl, fun w hS => by go_simp⟩) hHeld ?_
                  simp only [Act.put, List.getElem_toArray, List.getElem_cons_zero, List.getElem_cons_succ, List.setIfInBounds_toArray, List.set_cons_zero, List.set_cons_succ]
                  refine wpAnyH_take (i := 5) (v := .bool false) rfl (by kernel_rfl) (by kernel_rfl) (by kernel_rfl) (fun _ _ _ h => h) (Or.inl ⟨by rfl, fun w hS => by go_simp⟩) hHeld ?_
                  simp only [Act.put, List.getElem_toArray, List.getElem_cons_zero, List.getElem_cons_succ, List.setIfInBounds_toArray, List.set_cons_zero, List.set_cons_succ]
                  refine wpAnyH_take (i := 6) (v := .pointer (some ⟨g, 0, none⟩)) rfl (by kernel_rfl) (by kernel_rfl) (by kernel_rfl) (fun _ _ _ h => h) (Or.inl ⟨by rfl, fun w hS => by go_simp⟩) hHeld ?_
                  simp only [Act.put, List.getElem_toArray, List.getElem_cons_zero, List.getElem_cons_succ, List.setIfInBounds_toArray, List.set_cons_zero, List.set_cons_succ]
                  refine wpAnyH_take (i := 7) (v := .pointer (some ⟨ga, 1, none⟩)) rfl (by kernel_rfl) (by kernel_rfl) (by kernel_rfl) (fun _ _ _ h => h) (Or.inl ⟨by rfl, fun w hS => by go_simp⟩) hHeld ?_
                  simp only [Act.put, List.getElem_toArray, List.getElem_cons_zero, List.getElem_cons_succ, List.setIfInBounds_toArray, List.set_cons_zero, List.set_cons_succ]
                  refine wpAnyH_take (i := 8) (v := .int .i64 s) rfl (by kernel_rfl) (by kernel_rfl) (by kernel_rfl) (fun _ _ _ h => h) (Or.inl ⟨by rfl, fun w hS => by (have q1 := hS.1; go_simp)⟩) hHeld ?_
                  simp only [Act.put, List.getElem_toArray, List.getElem_cons_zero, List.getElem_cons_succ, List.setIfInBounds_toArray, List.set_cons_zero, List.set_cons_succ]
                  refine wpAnyH_take (i := 10) (v := .map (some bc)) rfl (by kernel_rfl) (by kernel_rfl) (by kernel_rfl) (fun _ _ _ h => h) (Or.inl ⟨by rfl, fun w hS => by go_simp⟩) hHeld ?_
                  simp only [Act.put, List.getElem_toArray, List.getElem_cons_zero, List.getElem_cons_succ, List.setIfInBounds_toArray, List.set_cons_zero, List.set_cons_succ]
                  refine wpAnyH_take (i := 11) (v := .pointer (some ⟨ga, 1, none⟩)) rfl (by kernel_rfl) (by kernel_rfl) (by kernel_rfl) (fun _ _ _ h => h) (Or.inl ⟨by rfl, fun w hS => by go_simp⟩) hHeld ?_
                  simp only [Act.put, List.getElem_toArray, List.getElem_cons_zero, List.getElem_cons_succ, List.setIfInBounds_toArray, List.set_cons_zero, List.set_cons_succ]
                  refine wpAnyH_take (i := 12) (v := .int .i64 s) rfl (by kernel_rfl) (by kernel_rfl) (by kernel_rfl) (fun _ _ _ h => h) (Or.inl ⟨by rfl, fun w hS => by (have q1 := hS.1; go_simp)⟩) hHeld ?_
                  simp only [Act.put, List.getElem_toArray, List.getElem_cons_zero, List.getElem_cons_succ, List.setIfInBounds_toArray, List.set_cons_zero, List.set_cons_succ]
                  refine wpAnyH_take (i := 13) (v := .int .i64 (cntS ps s : Int)) rfl (by kernel_rfl) (by kernel_rfl) (by kernel_rfl) (fun _ _ _ h => h) (Or.inl ⟨by rfl, fun w hS => by (have q1 := hS.2.2; go_simp)⟩) hHeld ?_
                  simp only [Act.put, List.getElem_toArray, List.getElem_cons_zero, List.getElem_cons_succ, List.setIfInBounds_toArray, List.set_cons_zero, List.set_cons_succ]
                  refine wpAnyH_ready (rs := [9]) (by kernel_rfl) (by simp) ?_
                  refine AllReadyH.cons rfl (fun KQ hK => ?_) AllReadyH.nil
                  go_simp
                  refine (HB.out.look (P := fun e _ => e = .returned (.int .i64 (cntS ps s : Int))) (fun vp vf h1 => count_anyA g vp vf room _ _ s _ h1)).mono ?_
                  rintro e wC ⟨rfl, hC⟩
                  have hSC := ST.of hC HWf.out
                  have HC := hidden hC
                  clear hC
                  refine hK.out _ _ (hSC) (fun hHeld => ?_)
                  clear hK KQ
                  refine wpAnyH_take (i := 14) (v := .bool false) rfl (by kernel_rfl) (by kernel_rfl) (by kernel_rfl) (fun _ _ _ h => h) (Or.inl ⟨by rfl, fun w hS => by go_simp⟩) hHeld ?_
                  simp only [Act.put, List.getElem_toArray, List.getElem_cons_zero, List.getElem_cons_succ, List.setIfInBounds_toArray, List.set_cons_zero, List.set_cons_succ]
                  refine wpAnyH_take (i := 15) (v := .bool false) rfl (by kernel_rfl) (by kernel_rfl) (by kernel_rfl) (fun _ _ _ h => h) (Or.inl ⟨by rfl, fun w hS => by go_simp⟩) hHeld ?_
                  simp only [Act.put, List.getElem_toArray, List.getElem_cons_zero, List.getElem_cons_succ, List.setIfInBounds_toArray, List.set_cons_zero, List.set_cons_succ]
                  refine wpAnyH_done (by kernel_rfl) ?_ _
                  go_wp2
                  exact ⟨⟨k + 1, by omega, by go_num, ⟨_, _, (HC.out.less (by simp)).sameT (Nat.le_succ _) (fun i hi => ⟨hi, rfl⟩), HPs.out.mono (Nat.le_succ _)⟩⟩, by simp [intOf]; omega⟩
        · obtain rfl : k = N := by omega
          as_aux_lemma =>
            have HPs := hidden hPs
            have HHp := hidden hHp
            have HI := hidden hHp.inv
            obtain ⟨n, D, hn, hown, hD1, hD2, _⟩ := hHp.cm
            have HO := hidden hown
            have HD : Hid (Dc D ps) := ⟨hD1, hD2⟩
            have HAE := hidden act_eq
            clear hn hown hD1 hD2 hHp hPs hH HA
            obtain ⟨r, hr⟩ : ∃ r, r = wr.heap.size := ⟨_, rfl⟩
            have HE := hidden hr
            clear hr
            go_wp2_with (first
              | (at_range; refine wpList_range_own _ rfl _ _ rfl 3 3 iK Try.underlying47 _ bc n D rfl HO.out ?_; intro w4 hrg hg4 hs4; rw [← HE.out]))
            go_frame
            have HR0 : Hid (Hr w w4 g bt bc r room ps fr k n D (Maps.has D) (Maps.size D)) := by
              have h3 := Hr.start HHp.out hrg hg4
              rw [← HE.out] at h3
              exact h3
            clear hrg hg4 hs4 HHp HO HE
            go_loopw [16] (fun _ wq => ∃ (left : Lit → Bool) (cn : Nat), Hid (Hr w wq g bt bc r room ps fr k n D left cn)) (fun _ wq => wq.rangeLeft bc r)
            case atStart => exact ⟨_, _, HR0⟩
            case round =>
              clear HR0
              obtain ⟨left, cn, hR⟩ := hrel
              go_wp2_with (first
                | (at_next; refine wpList_next_ranges_ii _ rfl _ rfl 3 3 .i64 .i64 iK Try.underlying3 Try.underlying3 bc r n D left cn rfl hR.out.rg ?_ ?_))
              · intro _ hl0
                go_wp2
                go_ret
                exact ⟨rfl, hR.out.low⟩
              · intro sx c1 w1 cn1 hwx hwc hlx hat hrg1 hlt hg1 hs1 hen
                obtain ⟨i, hsx, hi, hc1⟩ := HD.out.at hat
                obtain ⟨z0, z1, z2, hz⟩ := HPs.out.ths i hi
                have HSX := hidden hsx
                have HCI := hidden hi
                have HC1 := hidden hc1
                have HZ := hidden hz
                have h1 := hR.out.next hrg1 hg1
                have HX := hidden h1
                have HLT := hidden hlt
                have HL0 := hidden hR.out.rg.left_eq
                have hz1 := act_eq z0 z1 z2
                have HIL : Hid (i + 1 ≤ 2147483648) := by
                  have h3 := cnt_lt hi
                  have h4 := HI.out.len
                  have h5 := HI.out.r2
                  show i + 1 ≤ 2147483648
                  omega
                clear hsx hi hc1 hz h1 hwx hwc hlx hat hrg1 hg1 hs1 hlt
                go_wp2_with (first
                  | (go_at_call 19; refine (HX.out.look (P := fun e _ => e = .returned (.tuple #[.agg #[.int .i64 z0, .int .i64 z1, .int .i64 z2], .int .i64 0])) (fun vp vf h1 => get_okA g vp vf room _ _ sx i z0 z1 z2 _ h1 HSX.out HCI.out HZ.out)).mono ?_; rintro e x5 ⟨rfl, h5⟩; have HX5 := hidden h5; clear h5)
                  | ((with_reducible refine at_ald 18 ?_); refine wpList_al _ rfl _ rfl _ zero_thA ?_; intro x6 gx hgx hlx B6 q6; have HB6 := hidden B6; have Hq6 := hidden q6; have Hgx := hidden hgx; clear B6 q6 hgx hlx)
                  | ((with_reducible refine at_st 18 ?_); refine wpList_sto _ rfl _ _ _ rfl gx _ #[Value.int .i64 z0, .int .i64 z1, .int .i64 z2] rfl rfl HB6.out size_thA rfl (one3 _ _ _) ?_; intro x7 B7 q7; have HX7 := hidden (HX5.out.grow (below_of Hq6.out Hgx.out q7)); have HB7 := hidden B7; have lk : (Instr.lookup 46 (.map (some bt)) (.int .i64 sx) false).run Try.prog x7 = .ok (.agg #[.int .i64 z0, .int .i64 z1, .int .i64 z2]) x7 := (by have h3 := HX7.out.tm.look i HCI.out HIL.out; rw [← HSX.out, HZ.out] at h3; exact h3); clear B7 q7)
                  | ((with_reducible refine at_ldd 188 18 ?_); refine wpList_ldsg _ rfl _ _ rfl gx _ #[Value.int .i64 z0, .int .i64 z1, .int .i64 z2] rfl HB7.out Try.underlying34 size_thA ?_)
                  | (go_at_call 18; refine (HX7.out.look (P := fun e _ => e = .returned (.int .i64 c1)) (fun vp vf h1 => calls_sameA ((count_okA g vp vf room _ _ sx i _ h1 HSX.out HCI.out).mono (fun e w' ⟨h1, h2⟩ => ⟨h1.trans (by rw [HC1.out]), h2⟩)))).mono ?_; rintro e x8 ⟨rfl, h8⟩; have HX8 := hidden h8; clear h8))
                go_roundw
                case rel => exact ⟨_, _, HX8⟩
                case measure => rw [HX8.out.rg.left_eq, HL0.out]; exact HLT.out
  · have HB := hidden hroom
    clear hroom hA hmm
    go_enter Try.func5, Try.ntmps5
    go_wp2_with (first
      | (go_at_call 12; refine (HAW.out _).mono ?_; rintro e y1 ⟨rfl, b1⟩; have HB1 := hidden b1; clear b1)
      | (go_at_call 13; refine (new_badA R _ HB.out).mono ?_; rintro e w1 ⟨rfl, hx⟩; rw [hx]; clear hx w1))
    go_ret
    exact ⟨rfl, HB1.out⟩

end Go.Proofs.Ytodigmmpodbpiaa
