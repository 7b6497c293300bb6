/- The law's pieces: Some, asked again from behind its last key on, tells all, as a contract. -/
import Derived.Test.YtnnmfgnommbmkaaGreatDoorLa01
import Derived.Test.YtnnmfgnommbmkaaGreatDoorLa39
import Derived.Test.YtnnmfgnommbmkaaGreatDoorLa22
import Derived.Test.YtnnmfgnommbmkaaGreatDoorLa33
import Derived.Test.YtnnmfgnommbmkaaGreatDoorLa38
namespace Go.Proofs.YtnnmfgnommbmkaaGreatDoor
set_option maxRecDepth 20000
open Go.RowKit

theorem LiR.keys13 {w : World} {pt : Option Addr} {cs : List (Nat × Ce)} {h : Nat} {T : Tre} (r : LiR w pt cs h T) : (∀ e ∈ T.ents, Key e.1) ∧ T.ents.Pairwise fun a b => Ahead a.1 b.1 := by
  obtain ⟨_, W⟩ := r.wf
  exact ⟨fun e he => ((tree_ok W T h r.tre).ent e he).1, ents_rise W T h r.tre⟩

theorem some_less {w : World} {pt : Option Addr} {cs : List (Nat × Ce)} {h : Nat} {T : Tre} (r : LiR w pt cs h T) {F : List Int} (hF : Key F) (most : Nat) (hm : most ≤ 256) {m0 : Nat} (h0 : ahd F T.ents + m0 = T.ents.length) (hl : m0 < most) : Calls Tryz.prog 31 #[.pointer pt, .int .i64 (h : Int), .agg (B F), .int .i64 (most : Int)] w fun e w' => ∃ a c, e = .returned (.tuple #[.slice a m0 c, .int .i64 0]) ∧ Below w.heap.size w w' := by
  refine (some_any r F hF most hm).mono ?_
  rintro e w' ⟨w0, _, hb, lv, rfl, lv', its, e2, e3, e4, _⟩
  injection e2 with e2
  subst e2
  have hl2 : its.length = m0 := by
    have := congrArg List.length e3
    rw [List.length_map, List.length_take, List.length_drop, r.rkd F hF] at this
    omega
  obtain ⟨a, c, rfl⟩ := lst_slice (owR_lst e4)
  exact ⟨a, c, by rw [hl2], hb⟩
theorem some_more {w : World} {pt : Option Addr} {cs : List (Nat × Ce)} {h : Nat} {T : Tre} (r : LiR w pt cs h T) {F : List Int} (hF : Key F) (m1 : Nat) (hm : m1 + 1 ≤ 256) {K1 : List Int} {v1 : List Int} (h0 : T.ents[ahd F T.ents + m1]? = some (K1, v1)) : Calls Tryz.prog 31 #[.pointer pt, .int .i64 (h : Int), .agg (B F), .int .i64 ((m1 + 1 : Nat) : Int)] w fun e w' => ∃ g off c, e = .returned (.tuple #[.slice (some ⟨g, off, none⟩) (m1 + 1) c, .int .i64 0]) ∧ w'.rangeAt g (off + m1 * 33) (B K1).toList ∧ Below w.heap.size w w' := by
  refine (some_any r F hF (m1 + 1) hm).mono ?_
  rintro e w' ⟨w0, _, hb, lv, rfl, lv', its, e2, e3, e4, e5, _⟩
  injection e2 with e2
  subst e2
  have hj := (List.getElem?_eq_some_iff.1 h0).1
  have hl2 : its.length = m1 + 1 := by
    have := congrArg List.length e3
    rw [List.length_map, List.length_take, List.length_drop, r.rkd F hF] at this
    omega
  obtain ⟨a, c, e6, _, h2, h3⟩ := prAt_own e4 (fun p hp => (e5 p hp).1) (fun p hp => by obtain ⟨sp, ho⟩ := (e5 p hp).2; exact ho.reads)
  rw [List.length_map, hl2] at e6 h2
  obtain ⟨g, off, rfl, hr⟩ := h2 (by omega)
  have h4 := hr m1 (by omega)
  have hd : (its.map (·.1)).getD m1 e00 = (K1, v1) := by
    rw [e3, List.getD_eq_getElem?_getD, List.getElem?_take_of_lt (by omega), List.getElem?_drop, r.rkd F hF, h0]
    rfl
  rw [hd] at h4
  refine ⟨g, off, c, by rw [e6], fun j v hv => h4 j v ?_, hb⟩
  rw [B_toList] at hv
  have hj : j < K1.length := by
    have := (List.getElem?_eq_some_iff.1 hv).1
    simpa using this
  rw [encP, List.getElem?_append_left (by simpa using hj)]
  exact hv

set_option maxRecDepth 100000 in
set_option maxHeartbeats 4000000 in
theorem pieces13_any {w : World} {g : Nat} {cs : List (Nat × Ce)} {h : Nat} {T : Tre} (r : LiR w (some ⟨g, 0, none⟩) cs h T) {a : Option Addr} {c n : Nat} (hn : T.ents.length = n) (h16 : n ≤ 4096) (m1 : Nat) (h5 : m1 + 1 ≤ 256) : Calls Tryz.prog 13 #[.pointer (some ⟨g, 0, none⟩), .int .i64 (h : Int), .slice a n c, .int .i64 ((m1 + 1 : Nat) : Int)] w fun e w' => e = .returned (.bool true) ∧ Below w.heap.size w w' := by
  have HB0 := hidden built_k0
  have HR : Hid (∀ w', Below w.heap.size w w' → LiR w' (some ⟨g, 0, none⟩) cs h T) := fun w' hb => r.grow hb
  obtain ⟨hks, hri⟩ := r.keys13
  have HKS := hidden hks
  have HRI := hidden hri
  have HN := hidden hn
  have HZK := hidden (keyB_size key_zero)
  have HPZ := hidden (pth_ln z32 z32_length)
  have HZ0 : Hid (ahd z32 T.ents = 0) := ahd_z32 _ hks
  obtain ⟨mo, hmo⟩ : ∃ mo : Int, mo = ((m1 + 1 : Nat) : Int) := ⟨_, rfl⟩
  rw [← hmo]
  have HMO := hidden hmo
  clear r hks hri hn hmo
  go_enter Tryz.func13, Tryz.ntmps13
  go_wp2_with (first
    | ((with_reducible refine at_bdd 16 ?_); refine wpList_bld _ rfl _ _ rfl _ (by rw [List.map_toArray]; exact HB0.out) ?_)
    | ((with_reducible refine at_ald 9 ?_); refine wpList_al _ rfl _ rfl _ zero_path ?_; intro w1 b9 hg hl B9 q1; have HB9 := hidden B9; have HG9 := hidden hg; have HQ1 := hidden q1; clear hg hl B9 q1)
    | ((with_reducible refine at_st 9 ?_); refine wpList_sto _ rfl _ _ _ rfl b9 _ (B z32) rfl rfl HB9.out HZK.out rfl (B_one _) ?_; intro w2 B2 r2; have HBF := hidden B2; have HQ2 := hidden (below_row HQ1.out r2 HG9.out); clear B2 r2 HB9 HQ1))
  go_loopw [10, 11] (fun qv iv wr => ∃ (i q : Nat) (F : List Int), i ≤ q ∧ q ≤ n ∧ iv = .int .i64 (i : Int) ∧ qv = .int .i64 (q : Int) ∧ Hid (Key F ∧ ahd F T.ents = q) ∧ Hid (Blk wr b9 32 (B F)) ∧ Hid (Below w.heap.size w wr)) (fun _ iv _ => n + 1 - (intOf iv).toNat)
  case atStart => exact ⟨0, 0, z32, Nat.le_refl _, Nat.zero_le _, rfl, rfl, ⟨key_zero, HZ0.out⟩, HBF, HQ2⟩
  case round =>
    clear HBF HQ2
    obtain ⟨i, q, F, hiq, hqn, rfl, rfl, hF, hB, hw⟩ := hrel
    have HKL := hidden (pth_ln F hF.out.1.1)
    have i1 : (i : Int) ≤ (n : Int) := by omega
    by_cases hl : n - q < m1 + 1
    case pos =>
      obtain ⟨m0, hm0⟩ : ∃ m0, m0 = n - q := ⟨_, rfl⟩
      have HSM : Hid (∀ w', Below wr.heap.size wr w' → Calls Tryz.prog 31 #[.pointer (some ⟨g, 0, none⟩), .int .i64 (h : Int), .agg (B F), .int .i64 mo] w' fun e w'' => ∃ a c, e = .returned (.tuple #[.slice a m0 c, .int .i64 0]) ∧ Below w'.heap.size w' w'') := fun w' hb => by
        rw [HMO.out]
        exact some_less (HR.out _ (grow_trans hw.out hb)) hF.out.1 (m1 + 1) h5 (by rw [hF.out.2, HN.out]; omega) (by omega)
      have j1 : ¬ mo < (m0 : Int) := by rw [HMO.out]; omega
      have j2 : (m0 : Int) < mo := by rw [HMO.out]; omega
      have hb1 : (q : Int) + (m0 : Int) = (n : Int) := by omega
      have hwq : wrap64 ((q : Int) + (m0 : Int)) = (n : Int) := (Go.IntWalk.wrap64_in _ (by omega)).trans hb1
      clear hm0 hl hb1
      go_wp2_with (first
        | ((with_reducible refine at_ldd 26 9 ?_); refine wpList_load_mid rfl _ _ rfl b9 0 rfl (B F).toList _ hB.out.range Tryz.underlying32 rfl HKL.out ?_)
        | (go_at_call 31; refine (HSM.out _ (Below.refl _ _)).mono ?_; rintro e w3 ⟨sa, sc, rfl, q3⟩))
      go_ret
      exact ⟨rfl, grow_trans hw.out q3⟩
    case neg =>
      obtain ⟨q2, hq2⟩ : ∃ q2, q2 = q + (m1 + 1) := ⟨_, rfl⟩
      obtain ⟨e1, he1⟩ : ∃ e1, T.ents[q + m1]? = some e1 := ⟨_, List.getElem?_eq_getElem (by rw [HN.out]; omega)⟩
      obtain ⟨K1, v1⟩ := e1
      have hK1 : Key K1 := HKS.out _ (List.mem_of_getElem? he1)
      have hup := upt_at HKS.out HRI.out he1
      have HSM : Hid (∀ w', Below wr.heap.size wr w' → Calls Tryz.prog 31 #[.pointer (some ⟨g, 0, none⟩), .int .i64 (h : Int), .agg (B F), .int .i64 mo] w' fun e w'' => ∃ g off c, e = .returned (.tuple #[.slice (some ⟨g, off, none⟩) (m1 + 1) c, .int .i64 0]) ∧ w''.rangeAt g (off + m1 * 33) (B K1).toList ∧ Below w'.heap.size w' w'') := fun w' hb => by
        rw [HMO.out]
        exact some_more (HR.out _ (grow_trans hw.out hb)) hF.out.1 m1 h5 (by rw [hF.out.2]; exact he1)
      have HKL1 := hidden (pth_ln K1 hK1.1)
      have HNX : Hid (∀ w', Calls Tryz.prog 32 #[.agg (B K1)] w' (NextPost K1 w')) := fun w' => next_any K1 w' hK1
      have j1 : ¬ mo < ((m1 + 1 : Nat) : Int) := by rw [HMO.out]; omega
      have j2 : ¬ ((m1 + 1 : Nat) : Int) < mo := by rw [HMO.out]; omega
      have i4 : (m1 : Int) < ((m1 + 1 : Nat) : Int) := by omega
      have i5 : (0 : Int) ≤ (m1 : Int) := by omega
      have HUP : Hid (upt K1 T.ents = q2) := by show _ = _; rw [hq2]; exact hup
      have hq2n : q2 ≤ n := by omega
      have hb1 : (q : Int) + ((m1 + 1 : Nat) : Int) = (q2 : Int) := by omega
      have hb2 : ((m1 + 1 : Nat) : Int) - 1 = (m1 : Int) := by omega
      have hiq2 : i + 1 ≤ q2 := by omega
      have hwi : wrap64 ((i : Int) + 1) = ((i + 1 : Nat) : Int) := by rw [Go.IntWalk.wrap64_in _ (by omega)]; rfl
      have hwq : wrap64 ((q : Int) + ((m1 + 1 : Nat) : Int)) = (q2 : Int) := (Go.IntWalk.wrap64_in _ (by omega)).trans hb1
      have hwm : wrap64 (((m1 + 1 : Nat) : Int) - 1) = (m1 : Int) := (Go.IntWalk.wrap64_in _ (by omega)).trans hb2
      obtain ⟨m2, hm2⟩ : ∃ m2, m2 = m1 + 1 := ⟨_, rfl⟩
      rw [← hm2] at HSM j1 j2 i4 hwq hwm
      have HHK := hidden hK1
      clear hl hq2 he1 hup hb1 hb2 hm2 hK1
      by_cases hlast : IsLast K1
      case pos =>
        have HNL := hidden hlast
        have hqn2 : q2 = n := by rw [← HUP.out, ← upt_last HHK.out hlast T.ents HKS.out, HN.out]
        subst hqn2
        clear hlast
        go_wp2_with (first
          | ((with_reducible refine at_ldd 26 9 ?_); refine wpList_load_mid rfl _ _ rfl b9 0 rfl (B F).toList _ hB.out.range Tryz.underlying32 rfl HKL.out ?_)
          | (go_at_call 31; refine (HSM.out _ (Below.refl _ _)).mono ?_; rintro e w3 ⟨sg, so, sc, rfl, hr3, q3⟩; have HR3 := hidden hr3; have HQ := hidden (grow_trans hw.out q3); clear hr3 q3)
          | ((with_reducible refine at_ldd 58 57 ?_); refine wpList_load_mid rfl _ _ rfl sg (so + m1 * 33) rfl (B K1).toList _ HR3.out Tryz.underlying32 rfl HKL1.out ?_)
          | (go_at_call 32; refine (HNX.out _).mono ?_; rintro e x9 ⟨ys, bb, hor, rfl, bx⟩; obtain ⟨rfl, hy⟩ : bb = false ∧ ys = List.replicate 32 0 := (hor.elim (fun h => absurd HNL.out h.2.not_last) (fun h => ⟨h.1, h.2.2⟩)); have HYS : Hid ((Tryz.prog.info? 32).map (·.size) = some (B ys).size ∧ (B (List.replicate 32 0)).size = (B ys).size) := ⟨(by rw [hy]; exact keyB_size key_zero), (by rw [hy])⟩; replace HQ := hidden (grow_trans HQ.out bx); clear hor hy bx)
          | ((with_reducible refine at_ald 14 ?_); refine wpList_al _ rfl _ rfl _ zero_path ?_; intro w5 b14 hg hl B14 q5; have HB14 := hidden B14; have HG14 := hidden (Nat.le_trans HQ.out.size hg); replace HQ := hidden (grow_trans HQ.out q5); clear hg hl B14 q5)
          | ((with_reducible refine at_st 14 ?_); refine wpList_sto _ rfl _ _ _ rfl b14 _ (B ys) rfl rfl HB14.out HYS.out.1 HYS.out.2 (B_one _) ?_; intro w6 B6 r6; replace HQ := hidden (below_row HQ.out r6 HG14.out); clear B6 r6 HB14))
        go_ret
        exact ⟨rfl, HQ.out⟩
      case neg =>
        have HNL := hidden hlast
        clear hlast
        go_wp2_with (first
          | ((with_reducible refine at_ldd 26 9 ?_); refine wpList_load_mid rfl _ _ rfl b9 0 rfl (B F).toList _ hB.out.range Tryz.underlying32 rfl HKL.out ?_)
          | (go_at_call 31; refine (HSM.out _ (Below.refl _ _)).mono ?_; rintro e w3 ⟨sg, so, sc, rfl, hr3, q3⟩; have HR3 := hidden hr3; have HQ := hidden (grow_trans hw.out q3); have HBB := hidden (hB.out.grow q3); clear hr3 q3)
          | ((with_reducible refine at_ldd 58 57 ?_); refine wpList_load_mid rfl _ _ rfl sg (so + m1 * 33) rfl (B K1).toList _ HR3.out Tryz.underlying32 rfl HKL1.out ?_)
          | (go_at_call 32; refine (HNX.out _).mono ?_; rintro e x9 ⟨ys, bb, hor, rfl, bx⟩; obtain ⟨rfl, hN⟩ : bb = true ∧ IsNext K1 ys := (hor.resolve_right (fun h => HNL.out h.2.1)); have HNY := hidden hN; have HYK : Hid (Key ys) := hN.1; have HYS : Hid ((Tryz.prog.info? 32).map (·.size) = some (B ys).size ∧ (B (List.replicate 32 0)).size = (B ys).size) := ⟨keyB_size HYK.out, (by rw [B_size, B_size, HYK.out.1]; rfl)⟩; have HYL := hidden (pth_ln ys HYK.out.1); replace HQ := hidden (grow_trans HQ.out bx); replace HBB := hidden (HBB.out.grow bx); clear hor hN bx)
          | ((with_reducible refine at_ald 14 ?_); refine wpList_al _ rfl _ rfl _ zero_path ?_; intro w5 b14 hg hl B14 q5; have HB14 := hidden B14; have HG14 := hidden (Nat.le_trans HQ.out.size hg); replace HQ := hidden (grow_trans HQ.out q5); have hne : b9 ≠ b14 := (by have := HBB.out.lt; omega); replace HBB := hidden (HBB.out.grow q5); clear hg hl B14 q5)
          | ((with_reducible refine at_st 14 ?_); refine wpList_sto _ rfl _ _ _ rfl b14 _ (B ys) rfl rfl HB14.out HYS.out.1 HYS.out.2 (B_one _) ?_; intro w6 B6 r6; have HB6 := hidden B6; replace HQ := hidden (below_row HQ.out r6 HG14.out); replace HBB := hidden (HBB.out.kept r6 hne); clear B6 r6 HB14)
          | ((with_reducible refine at_ldd 68 14 ?_); refine wpList_load_mid rfl _ _ rfl b14 0 rfl (B ys).toList _ HB6.out.range Tryz.underlying32 rfl HYL.out ?_; rw [show (B ys).toList.toArray = B ys from Array.toArray_toList])
          | ((with_reducible refine at_st 9 ?_); refine wpList_sto _ rfl _ _ _ rfl b9 _ (B ys) rfl rfl HBB.out HYS.out.1 (by rw [B_size, B_size, hF.out.1.1, HYK.out.1]) (B_one _) ?_; intro w7 B7 r7; have HB7 := hidden B7; replace HQ := hidden (below_row HQ.out r7 HG9.out); clear B7 r7))
        exact ⟨⟨i + 1, q2, ys, hiq2, hq2n, by go_num, rfl, ⟨HYK.out, by rw [upt_next HHK.out HNY.out T.ents HKS.out, HUP.out]⟩, HB7, HQ⟩, by simp [intOf]; omega⟩

end Go.Proofs.YtnnmfgnommbmkaaGreatDoor

namespace Go.Proofs.YtnnmfgnommbmkaaGreatDoor
set_option maxRecDepth 20000
open Go Go.RowKit

section
variable {P : Program} {ops : Array Oper} {Q : Exit → Act → World → Prop} {md : Region.Mode} {S : World → Prop} {Ws : List Nat}

def wrote (Ws : List Nat) (listed : Array Bool) : Bool := Ws.any fun L => listed.getD L false
theorem wrote_set {listed : Array Bool} {i : Nat} (h : Ws.contains i = false) : wrote Ws (listed.setIfInBounds i true) = wrote Ws listed := by
  unfold wrote
  apply Bool.eq_iff_iff.2
  simp only [List.any_eq_true]
  have hne : ∀ L ∈ Ws, i ≠ L := fun L hL e => by
    subst e
    simp at h
    exact h hL
  constructor
  · rintro ⟨L, h1, h2⟩
    exact ⟨L, h1, by rwa [getD_set_ne false (hne L h1)] at h2⟩
  · rintro ⟨L, h1, h2⟩
    exact ⟨L, h1, by rwa [getD_set_ne false (hne L h1)]⟩
theorem wrote_not {listed : Array Bool} {i n : Nat} (hs : ShutL md ops listed) (hi : listed.getD i false = false) (hld : (Ws.all fun L => leads md ops i n L) = true) : wrote Ws listed = false := by
  unfold wrote
  rw [Bool.eq_false_iff]
  intro h
  obtain ⟨L, h1, h2⟩ := List.any_eq_true.1 h
  have h3 := List.all_eq_true.1 hld L h1
  cases ho : ops[L]? with
  | none =>
    cases n with
    | zero => simp [leads] at h3
    | succ n => unfold leads at h3; rw [ho] at h3; cases h3
  | some o => exact leads_on hs hi n L h3 o ho (hs L o ho h2)

def wpAnyW (P : Program) (md : Region.Mode) (ops : Array Oper) (Q : Exit → Act → World → Prop) (S : World → Prop) (Ws : List Nat) : Nat → Array Bool → Act → World → Prop
  | 0, listed, a, w => Region.ready md ops listed = [] ∧ Q .normal a w
  | fuel + 1, listed, a, w =>
    (Region.ready md ops listed = [] → Q .normal a w) ∧
    ∀ i ∈ Region.ready md ops listed, wpOp P ops Q i (fun a' w' => (wrote Ws (listed.setIfInBounds i true) = true ∨ S w') ∧ wpAnyW P md ops Q S Ws fuel (listed.setIfInBounds i true) a' w') a w

theorem wpAny_of_wrote : ∀ (fuel : Nat) (listed : Array Bool) (a : Act) (w : World), wpAnyW P md ops Q S Ws fuel listed a w → wpAny P md ops Q fuel listed a w
  | 0, _, _, _, h => h
  | fuel + 1, _, _, _, h => ⟨h.1, fun i hi => wpOp_mono (fun a' w' h' => wpAny_of_wrote fuel _ a' w' h'.2) (h.2 i hi)⟩

theorem unlisted {listed : Array Bool} {i : Nat} (hr : i ∈ Region.ready md ops listed) : listed.getD i false = false := by
  have h0 := (mem_ready.1 hr).1
  rcases Nat.lt_or_ge i listed.size with h' | h'
  · simpa [h'] using h0
  · simp [Array.getElem?_eq_none h']

theorem wpAnyW_first {i n : Nat} {oi : Oper} {v : Value} (hi : ops[i]? = some oi) (hsel : ∀ (j : Nat) (o : Oper) cs b, ops[j]? = some o → o.op ≠ .select cs b)
    (hQ : ∀ c a w, Q (.panic c) (a.put oi.dst v) w → Q (.panic c) a w) (hld : (Ws.all fun L => leads md ops i n L) = true) (hiw : Ws.contains i = false) :
    ∀ (fuel : Nat) (listed : Array Bool) (a : Act) (w : World), ShutL md ops listed →
      (∀ j oj, ops[j]? = some oj → j ≠ i → listed.getD j true = false → (∀ e ∈ oj.after, Region.binds md e = true → e.on ≠ i) → oi.apart ops oj = true) →
      i ∈ Region.ready md ops listed → YieldsIf P ops S oi v a → S w →
      wpAnyW P md ops Q S Ws fuel (listed.setIfInBounds i true) (a.put oi.dst v) w → wpAnyW P md ops Q S Ws (fuel + 1) listed a w := by
  intro fuel
  induction fuel with
  | zero =>
    intro listed a w _ _ hr hy hS H
    refine ⟨fun h => (by rw [h] at hr; cases hr), fun j hj => ?_⟩
    by_cases hji : j = i
    · subst hji; exact hy.wpOp hi hS ⟨.inr hS, H⟩
    · have := ready_mono hj hji
      rw [H.1] at this
      cases this
  | succ fuel ih =>
    intro listed a w hsh hfree hr hy hS H
    refine ⟨fun h => (by rw [h] at hr; cases hr), fun j hj => ?_⟩
    by_cases hji : j = i
    · subst hji; exact hy.wpOp hi hS ⟨.inr hS, H⟩
    · have h1 := H.2 j (ready_mono hj hji)
      obtain ⟨hjun, oj, hoj, hall⟩ := mem_ready.1 hj
      have hi0 := unlisted hr
      have hnw : wrote Ws ((listed.setIfInBounds i true).setIfInBounds j true) = false := by
        rw [Array.setIfInBounds_comm _ _ (Ne.symm hji), wrote_set hiw]
        refine wrote_not (hsh.step hj) ?_ hld
        rw [getD_set_ne false hji]
        exact hi0
      have hnot : ∀ e ∈ oj.after, Region.binds md e = true → e.on ≠ i := fun e he hb heq => by
        have h1 := hall e he hb
        rw [heq, hi0] at h1
        cases h1
      have h2 := wpOp_putIf hoj (hfree j oj hoj hji hjun hnot) (fun cs b => hsel i oi cs b hi) (fun cs b => hsel j oj cs b hoj) hQ hy h1
      have hfree' : ∀ k ok, ops[k]? = some ok → k ≠ i → (listed.setIfInBounds j true).getD k true = false →
          (∀ e ∈ ok.after, Region.binds md e = true → e.on ≠ i) → oi.apart ops ok = true := fun k ok hk hki hun hno => by
        refine hfree k ok hk hki ?_ hno
        by_cases hjk : j = k
        · subst hjk; exact hjun
        · rw [getD_set_ne true hjk] at hun; exact hun
      refine wpOp_mono (fun a' w' h3 => ?_) h2
      have hS' : S w' := h3.2.1.resolve_left (by rw [hnw]; simp)
      refine ⟨.inr hS', ih (listed.setIfInBounds j true) a' w' (hsh.step hj) hfree' (ready_mono hr (Ne.symm hji)) h3.1 hS' ?_⟩
      rw [Array.setIfInBounds_comm _ _ hji]
      exact h3.2.2

theorem wpAnyW_pure {i : Nat} {oi : Oper} {v : Value} (hi : ops[i]? = some oi) (hsel : ∀ (j : Nat) (o : Oper) cs b, ops[j]? = some o → o.op ≠ .select cs b)
    (hQ : ∀ c a w, Q (.panic c) (a.put oi.dst v) w → Q (.panic c) a w) (hiw : Ws.contains i = false) :
    ∀ (fuel : Nat) (listed : Array Bool) (a : Act) (w : World),
      (∀ j oj, ops[j]? = some oj → j ≠ i → listed.getD j true = false → (∀ e ∈ oj.after, Region.binds md e = true → e.on ≠ i) → oi.apart ops oj = true) →
      i ∈ Region.ready md ops listed → YieldsIf P ops (fun _ => True) oi v a → (wrote Ws listed = true ∨ S w) →
      wpAnyW P md ops Q S Ws fuel (listed.setIfInBounds i true) (a.put oi.dst v) w → wpAnyW P md ops Q S Ws (fuel + 1) listed a w := by
  intro fuel
  induction fuel with
  | zero =>
    intro listed a w _ hr hy hS H
    refine ⟨fun h => (by rw [h] at hr; cases hr), fun j hj => ?_⟩
    by_cases hji : j = i
    · subst hji; exact hy.wpOp hi trivial ⟨by rw [wrote_set hiw]; exact hS, H⟩
    · have := ready_mono hj hji
      rw [H.1] at this
      cases this
  | succ fuel ih =>
    intro listed a w hfree hr hy hS H
    refine ⟨fun h => (by rw [h] at hr; cases hr), fun j hj => ?_⟩
    by_cases hji : j = i
    · subst hji; exact hy.wpOp hi trivial ⟨by rw [wrote_set hiw]; exact hS, H⟩
    · have h1 := H.2 j (ready_mono hj hji)
      obtain ⟨hjun, oj, hoj, hall⟩ := mem_ready.1 hj
      have hi0 := unlisted hr
      have hnot : ∀ e ∈ oj.after, Region.binds md e = true → e.on ≠ i := fun e he hb heq => by
        have h1 := hall e he hb
        rw [heq, hi0] at h1
        cases h1
      have h2 := wpOp_putIf hoj (hfree j oj hoj hji hjun hnot) (fun cs b => hsel i oi cs b hi) (fun cs b => hsel j oj cs b hoj) hQ hy h1
      have hfree' : ∀ k ok, ops[k]? = some ok → k ≠ i → (listed.setIfInBounds j true).getD k true = false →
          (∀ e ∈ ok.after, Region.binds md e = true → e.on ≠ i) → oi.apart ops ok = true := fun k ok hk hki hun hno => by
        refine hfree k ok hk hki ?_ hno
        by_cases hjk : j = k
        · subst hjk; exact hjun
        · rw [getD_set_ne true hjk] at hun; exact hun
      refine wpOp_mono (fun a' w' h3 => ?_) h2
      have hS' : wrote Ws (listed.setIfInBounds j true) = true ∨ S w' := by
        have := h3.2.1
        rwa [Array.setIfInBounds_comm _ _ (Ne.symm hji), wrote_set hiw] at this
      refine ⟨hS', ih (listed.setIfInBounds j true) a' w' hfree' (ready_mono hr (Ne.symm hji)) h3.1 hS' ?_⟩
      rw [Array.setIfInBounds_comm _ _ hji]
      exact h3.2.2

theorem wpAnyW_take {i : Nat} {oi : Oper} {v : Value} {fuel : Nat} {listed : Array Bool} {a : Act} {w : World} (hi : ops[i]? = some oi)
    (hs : Region.noSelect ops = true) (hf : Region.free md ops listed i = true) (hr : (Region.ready md ops listed).contains i = true) (hld : (Ws.all fun L => leads md ops i 40 L) = true) (hiw : Ws.contains i = false) (hsh : shutB md ops listed = true)
    (hQ : ∀ c a w, Q (.panic c) (a.put oi.dst v) w → Q (.panic c) a w) (hy : YieldsIf P ops S oi v a) (hS : S w)
    (h : wpAnyW P md ops Q S Ws fuel (listed.setIfInBounds i true) (a.put oi.dst v) w) : wpAnyW P md ops Q S Ws (fuel + 1) listed a w :=
  wpAnyW_first hi (Region.noSelect_spec hs) hQ hld hiw fuel listed a w (shutL_of hsh) (Region.free_spec hi hf) (by simpa using hr) hy hS h
theorem wpAnyW_take0 {i : Nat} {oi : Oper} {v : Value} {fuel : Nat} {listed : Array Bool} {a : Act} {w : World} (hi : ops[i]? = some oi)
    (hs : Region.noSelect ops = true) (hf : Region.free md ops listed i = true) (hr : (Region.ready md ops listed).contains i = true) (hiw : Ws.contains i = false)
    (hQ : ∀ c a w, Q (.panic c) (a.put oi.dst v) w → Q (.panic c) a w) (hy : YieldsIf P ops (fun _ => True) oi v a) (hS : wrote Ws listed = true ∨ S w)
    (h : wpAnyW P md ops Q S Ws fuel (listed.setIfInBounds i true) (a.put oi.dst v) w) : wpAnyW P md ops Q S Ws (fuel + 1) listed a w :=
  wpAnyW_pure hi (Region.noSelect_spec hs) hQ hiw fuel listed a w (Region.free_spec hi hf) (by simpa using hr) hy hS h

theorem wpAnyW_one {fuel : Nat} {listed : Array Bool} {a : Act} {w : World} {i : Nat} {o : Oper} (ho : ops[i]? = some o) (hr : Region.ready md ops listed = [i]) (hw : wrote Ws (listed.setIfInBounds i true) = true)
    (h : ∀ K' : Act → World → Prop, Shut (∀ a w, wpAnyW P md ops Q S Ws fuel (listed.setIfInBounds i true) a w → K' a w) → if Region.wanted o (yielded ops a.tmps) = true then Oper.wp P o a w K' Q else K' (a.put o.dst undef) w) :
    wpAnyW P md ops Q S Ws (fuel + 1) listed a w := by
  refine ⟨fun h0 => ?_, fun j hj => ?_⟩
  · rw [hr] at h0
    cases h0
  · rw [hr] at hj
    obtain rfl : j = i := by simpa using hj
    exact wpOp_step ho (fun K' hK => h K' (fun a w hW => hK a w ⟨.inl hw, hW⟩))

theorem wpAnyW_done {fuel : Nat} {listed : Array Bool} {a : Act} {w : World} (he : Region.ready md ops listed = []) (h : Q .normal a w) : wpAnyW P md ops Q S Ws fuel listed a w := by
  cases fuel with
  | zero => exact ⟨he, h⟩
  | succ n => exact ⟨fun _ => h, by rw [he]; simp⟩

theorem wp_region_wrote {id : Nat} {a : Act} {w : World} (Ws : List Nat) (hm : P.follows .mixedOrders = true) (hS : S w.drew)
    (h : S w.drew → wpAnyW P .any ops Q S Ws ops.size (Array.replicate ops.size false) a w.drew) : (Code.region id ops true).wp P Q a w :=
  wp_region_any hm (wpAny_of_wrote _ _ _ _ (h hS))

end
end Go.Proofs.YtnnmfgnommbmkaaGreatDoor

namespace Go.Proofs.YtnnmfgnommbmkaaGreatDoor
set_option maxRecDepth 20000
open Go.RowKit

structure FlI (cs : List (Nat × Ce)) (k root : Nat) (T : Tre) (l : List Ent) : Prop where
  rt : Rt cs root T
  ents : T.ents.Perm l
  own : ∀ i, own cs [] i ≤ k
  noc : noc cs ≤ 257 * k

theorem fl_step {cs cs' : List (Nat × Ce)} {fr fr' : List Nat} {k root top : Nat} {T T' : Tre} {l : List Ent} {K bs : List Int} {ss : List Nat} (f : FlI cs k root T l) (p : PaIs cs fr T root K bs ss top cs' fr' T') (hs : ss.length ≤ 256) (hn : ∀ e ∈ l, e.1 ≠ K) : FlI cs' (k + 1) top T' (l ++ [(K, bs)]) := by
  have hc : costN T K bs ss ≤ 257 := by
    unfold costN
    split <;> omega
  refine ⟨p.rt, ?_, fun i => ?_, by have := p.noc; have := f.noc; omega⟩
  · refine p.ents.trans ?_
    have h1 : T.ents.filter (fun e => !(e.1 == K)) = T.ents := List.filter_eq_self.2 (fun e he => by
      have := hn e (f.ents.mem_iff.1 he)
      simpa using this)
    unfold upE
    rw [h1]
    exact ((f.ents.cons _).trans (List.perm_append_singleton _ _).symm)
  · have h1 := p.own i
    have h2 := f.own i
    split at h1 <;> split at h1 <;> omega

set_option maxRecDepth 100000 in
set_option maxHeartbeats 4000000 in
theorem filled_any {w : World} {a : Option Addr} {c : Nat} {V : Nat → Value} {es : List Ent} (hP : PrAt w (.slice a es.length c) V es) (h16 : es.length ≤ 16) (hap : es.Pairwise fun x y => x.1 ≠ y.1) (hbs : ∀ e ∈ es, e.2.length ≤ 1024) (hL : Laid w) :
    Calls Tryz.prog 6 #[.slice a es.length c] w fun e w' => ∃ g gs cs fr root T, e = .returned (.tuple #[.pointer (some ⟨g, 0, none⟩), .int .i64 ((root : Nat) : Int), .bool true]) ∧ Hs w [] w' g gs 5160 cs fr ∧ FlI cs es.length root T es := by
  have HNW : Hid (Calls Tryz.prog 19 #[.int .i64 5160] w fun e w' => ∃ g gs, e = .returned (.tuple #[.pointer (some ⟨g, 0, none⟩), .int .i64 0]) ∧ Hs w [] w' g gs 5160 [] []) := hs_new 5160 w (by omega) (by omega)
  obtain ⟨n, hn⟩ : ∃ n, n = es.length := ⟨_, rfl⟩
  have HGet : Hid (∀ k, k < n → ∃ lg lo ua uc K bs, a = some ⟨lg, lo, none⟩ ∧ es[k]? = some (K, bs) ∧ w.rangeAt lg (lo + k * 33) (encP K (.slice ua bs.length uc)) ∧ Key K ∧ Reads w (.slice ua bs.length uc) bs ∧ bs.length ≤ 1024 ∧ ∀ e ∈ es.take k, e.1 ≠ K) := fun k hk => by
    rw [hn] at hk
    obtain ⟨a', c', e, _, h2, h3⟩ := hP
    injection e with e1 _ _
    subst e1
    obtain ⟨g, off, ea, hr⟩ := h2 (by omega)
    have h4 := hr k hk
    obtain ⟨hk1, hk2⟩ := h3 k hk
    rw [List.getD_eq_getElem?_getD, List.getElem?_eq_getElem hk, Option.getD_some] at h4 hk1 hk2
    obtain ⟨ua, uc, eV⟩ : ∃ ua uc, V k = .slice ua es[k].2.length uc := by
      obtain ⟨x, y, e, _⟩ := hk2
      exact ⟨x, y, e⟩
    rw [eV] at h4 hk2
    refine ⟨g, off, ua, uc, es[k].1, es[k].2, ea, by rw [List.getElem?_eq_getElem hk], h4, hk1, hk2, hbs _ (List.getElem_mem hk), fun e he => ?_⟩
    obtain ⟨j, hj, rfl⟩ := List.getElem_of_mem he
    rw [List.length_take] at hj
    rw [List.getElem_take]
    exact List.pairwise_iff_getElem.1 hap j k (by omega) hk (by omega)
  have HLD : Hid (∀ w', Below w.heap.size w w' → Laid w') := fun w' hb => hL.grow hb
  have H16 : Hid (n ≤ 16) := by rw [hn]; exact h16
  have HNE := hidden hn
  rw [← hn]
  clear hP h16 hap hbs hL hn
  go_enter Tryz.func6, Tryz.ntmps6
  go_wp2_with (go_at_call 19; refine HNW.out.mono ?_; rintro e w1 ⟨g, gs, rfl, hH⟩; have HH := hidden hH; clear hH)
  go_loopw [6, 7, 8] (fun ev rv iv wr => ∃ (k root : Nat) (cs : List (Nat × Ce)) (fr : List Nat) (T : Tre), k ≤ n ∧ ev = .int .i64 0 ∧ rv = .int .i64 (root : Int) ∧ iv = .int .i64 (k : Int) ∧ Hid (Hs w [] wr g gs 5160 cs fr) ∧ Hid (FlI cs k root T (es.take k))) (fun _ _ iv _ => n - (intOf iv).toNat)
  case atStart => exact ⟨0, 0, [], [], .emp, Nat.zero_le _, rfl, rfl, rfl, HH, ⟨Rt.zero [], List.Perm.refl _, fun i => by simp [Go.Proofs.YtnnmfgnommbmkaaGreatDoor.own, cc], by show 0 ≤ _; omega⟩⟩
  case round =>
    clear HH HNW
    obtain ⟨k, root, cs, fr, T, hk, rfl, rfl, rfl, hH, hF⟩ := hrel
    have hk16 := H16.out
    have hwk : wrap64 ((k : Int) + 1) = ((k + 1 : Nat) : Int) := by rw [Go.IntWalk.wrap64_in _ (by omega)]; rfl
    by_cases hlt : k < n
    · obtain ⟨lg, lo, ua, uc, K, bs, rfl, hek, hrg, hK, hrd, hb4, hnk⟩ := HGet.out k hlt
      have hlow := hH.out.low
      have HR1 : Hid (∀ w', Below wr.heap.size wr w' → w'.rangeAt lg (lo + k * 33) (B K).toList) := fun w' hb j v hv => rng_grow (rng_grow hrg hlow) hb j v (by
        rw [B_toList] at hv
        have hj : j < K.length := by
          have := (List.getElem?_eq_some_iff.1 hv).1
          simpa using this
        rw [encP, List.getElem?_append_left (by simpa using hj)]
        exact hv)
      have HR2 : Hid (∀ w', Below wr.heap.size wr w' → w'.cell? ⟨lg, lo + k * 33 + 32, none⟩ = some (.slice ua bs.length uc)) := fun w' hb => rng_grow (rng_grow hrg hlow) hb 32 _ (by
        rw [encP, List.getElem?_append_right (by simp [hK.1])]
        simp [hK.1])
      have HKL := hidden (pth_ln K hK.1)
      have HPT : Hid (∀ w', Below wr.heap.size wr w' → Calls Tryz.prog 20 #[.pointer (some ⟨g, 0, none⟩), .int .i64 (root : Int), .agg (B K), .slice ua bs.length uc] w' fun e w'' => ∃ (top : Nat) (cs' : List (Nat × Ce)) (fr' : List Nat) (T' : Tre), e = .returned (.tuple #[.int .i64 (top : Int), .int .i64 0]) ∧ FlI cs' (k + 1) top T' (es.take (k + 1)) ∧ Hs w [] w'' g gs 5160 cs' fr') := fun w' hb => by
        obtain ⟨ss, b1, b2⟩ := bes_ex hH.out.2 K hK hF.out.rt.tree hF.out.rt.dp
        refine (put_any (hH.out.grow hb) hF.out.rt hK (kq_nil (fun w'' hb'' => hrd.grow hb'')) (kq_nil HLD.out) hb4 (fun i => by have := hF.out.own i; omega) (by have := hF.out.noc; omega) b1).mono ?_
        rintro e w'' ⟨top, cs', fr', T', rfl, p, hH'⟩
        refine ⟨top, cs', fr', T', rfl, ?_, hH'⟩
        have := fl_step hF.out p b2.len hnk
        rw [List.take_add_one, hek]
        exact this
      have i1 : (k : Int) < (n : Int) := by omega
      have i0 : (0 : Int) ≤ (k : Int) := by omega
      obtain ⟨y, hy⟩ : ∃ y : Int, y = (root : Int) := ⟨_, rfl⟩
      rw [← hy] at HPT
      rw [← hy]
      clear hek hrg hK hrd hb4 hnk hlow hH hF hy
      go_wp2_with fail
      refine wp_region_wrote (S := fun w' => Below wr.heap.size wr w') [12] (by kernel_rfl) (below_drewN (Below.refl _ _) 1) (fun hHeld => ?_)
      refine wpAnyW_take0 (i := 0) (v := .pointer (some ⟨g, 0, none⟩)) rfl (by kernel_rfl) (by kernel_rfl) (by kernel_rfl) (by kernel_rfl) (fun _ _ _ h => h) (Or.inl ⟨by rfl, fun w hS => by go_simp⟩) (.inr hHeld) ?_
      simp only [Act.put, zq1, zq2, zq4, zq5, zq6]
      refine wpAnyW_take0 (i := 1) (v := .int .i64 y) rfl (by kernel_rfl) (by kernel_rfl) (by kernel_rfl) (by kernel_rfl) (fun _ _ _ h => h) (Or.inl ⟨by rfl, fun w hS => by go_simp⟩) (.inr hHeld) ?_
      simp only [Act.put, zq1, zq2, zq3, zq4, zq5, zq6]
      refine wpAnyW_take0 (i := 2) (v := .slice (some ⟨lg, lo, none⟩) n c) rfl (by kernel_rfl) (by kernel_rfl) (by kernel_rfl) (by kernel_rfl) (fun _ _ _ h => h) (Or.inl ⟨by rfl, fun w hS => by go_simp⟩) (.inr hHeld) ?_
      simp only [Act.put, zq1, zq2, zq3, zq4, zq5, zq6]
      refine wpAnyW_take0 (i := 3) (v := .int .i64 (k : Int)) rfl (by kernel_rfl) (by kernel_rfl) (by kernel_rfl) (by kernel_rfl) (fun _ _ _ h => h) (Or.inl ⟨by rfl, fun w hS => by go_simp⟩) (.inr hHeld) ?_
      simp only [Act.put, zq1, zq2, zq3, zq4, zq5, zq6]
      refine wpAnyW_take0 (i := 4) (v := .pointer (some ⟨lg, lo + k * 33, none⟩)) rfl (by kernel_rfl) (by kernel_rfl) (by kernel_rfl) (by kernel_rfl) (fun _ _ _ h => h) (Or.inl ⟨by rfl, fun w hS => by go_simp⟩) (.inr hHeld) ?_
      simp only [Act.put, zq1, zq2, zq3, zq4, zq5, zq6]
      refine wpAnyW_take0 (i := 5) (v := .pointer (some ⟨lg, lo + k * 33, none⟩)) rfl (by kernel_rfl) (by kernel_rfl) (by kernel_rfl) (by kernel_rfl) (fun _ _ _ h => h) (Or.inl ⟨by rfl, fun w hS => by go_simp⟩) (.inr hHeld) ?_
      simp only [Act.put, zq1, zq2, zq3, zq4, zq5, zq6]
      refine wpAnyW_take (i := 6) (v := .agg (B K)) rfl (by kernel_rfl) (by kernel_rfl) (by kernel_rfl) (by kernel_rfl) (by kernel_rfl) (by kernel_rfl) (fun _ _ _ h => h) (yieldsIf_load_mid rfl 32 (.tmp 29) rfl lg (lo + k * 33) rfl (B K).toList _ (fun w hS => HR1.out _ hS) Tryz.underlying32 rfl HKL.out) hHeld ?_
      simp only [Act.put, zq1, zq2, zq3, zq4, zq5, zq6]
      refine wpAnyW_take0 (i := 7) (v := .slice (some ⟨lg, lo, none⟩) n c) rfl (by kernel_rfl) (by kernel_rfl) (by kernel_rfl) (by kernel_rfl) (fun _ _ _ h => h) (Or.inl ⟨by rfl, fun w hS => by go_simp⟩) (.inr hHeld) ?_
      simp only [Act.put, zq1, zq2, zq3, zq4, zq5, zq6]
      refine wpAnyW_take0 (i := 8) (v := .int .i64 (k : Int)) rfl (by kernel_rfl) (by kernel_rfl) (by kernel_rfl) (by kernel_rfl) (fun _ _ _ h => h) (Or.inl ⟨by rfl, fun w hS => by go_simp⟩) (.inr hHeld) ?_
      simp only [Act.put, zq1, zq2, zq3, zq4, zq5, zq6]
      refine wpAnyW_take0 (i := 9) (v := .pointer (some ⟨lg, lo + k * 33, none⟩)) rfl (by kernel_rfl) (by kernel_rfl) (by kernel_rfl) (by kernel_rfl) (fun _ _ _ h => h) (Or.inl ⟨by rfl, fun w hS => by go_simp⟩) (.inr hHeld) ?_
      simp only [Act.put, zq1, zq2, zq3, zq4, zq5, zq6]
      refine wpAnyW_take0 (i := 10) (v := .pointer (some ⟨lg, lo + k * 33 + 32, none⟩)) rfl (by kernel_rfl) (by kernel_rfl) (by kernel_rfl) (by kernel_rfl) (fun _ _ _ h => h) (Or.inl ⟨by rfl, fun w hS => by go_simp⟩) (.inr hHeld) ?_
      simp only [Act.put, zq1, zq2, zq3, zq4, zq5, zq6]
      refine wpAnyW_take (i := 11) (v := .slice ua bs.length uc) rfl (by kernel_rfl) (by kernel_rfl) (by kernel_rfl) (by kernel_rfl) (by kernel_rfl) (by kernel_rfl) (fun _ _ _ h => h) (Or.inl ⟨by rfl, fun w hS => by (have q1 := HR2.out _ hS; go_simp)⟩) hHeld ?_
      simp only [Act.put, zq1, zq2, zq3, zq4, zq5, zq6]
      refine wpAnyW_one (i := 12) rfl (by kernel_rfl) (by kernel_rfl) (fun KQ hK => ?_)
      go_simp
      refine (HPT.out _ hHeld).mono ?_
      rintro e z ⟨top, cs', fr', T', rfl, hz⟩
      have HZ := hidden hz
      clear hz
      refine hK.out _ _ ?_
      clear hK KQ
      refine wpAnyW_take0 (i := 13) (v := .tuple #[.int .i64 (top : Int), .int .i64 0]) rfl (by kernel_rfl) (by kernel_rfl) (by kernel_rfl) (by kernel_rfl) (fun _ _ _ h => h) (Or.inl ⟨by rfl, fun w hS => by go_simp⟩) (.inl (by kernel_rfl)) ?_
      simp only [Act.put, zq1, zq2, zq3, zq4, zq5, zq6]
      refine wpAnyW_take0 (i := 14) (v := .int .i64 (top : Int)) rfl (by kernel_rfl) (by kernel_rfl) (by kernel_rfl) (by kernel_rfl) (fun _ _ _ h => h) (Or.inl ⟨by rfl, fun w hS => by go_simp⟩) (.inl (by kernel_rfl)) ?_
      simp only [Act.put, zq1, zq2, zq3, zq4, zq5, zq6]
      refine wpAnyW_take0 (i := 15) (v := .int .i64 0) rfl (by kernel_rfl) (by kernel_rfl) (by kernel_rfl) (by kernel_rfl) (fun _ _ _ h => h) (Or.inl ⟨by rfl, fun w hS => by go_simp⟩) (.inl (by kernel_rfl)) ?_
      simp only [Act.put, zq1, zq2, zq3, zq4, zq5, zq6]
      refine wpAnyW_take0 (i := 16) (v := .int .i64 (top : Int)) rfl (by kernel_rfl) (by kernel_rfl) (by kernel_rfl) (by kernel_rfl) (fun _ _ _ h => h) (Or.inl ⟨by rfl, fun w hS => by go_simp⟩) (.inl (by kernel_rfl)) ?_
      simp only [Act.put, zq1, zq2, zq3, zq4, zq5, zq6]
      refine wpAnyW_take0 (i := 17) (v := .int .i64 0) rfl (by kernel_rfl) (by kernel_rfl) (by kernel_rfl) (by kernel_rfl) (fun _ _ _ h => h) (Or.inl ⟨by rfl, fun w hS => by go_simp⟩) (.inl (by kernel_rfl)) ?_
      simp only [Act.put, zq1, zq2, zq3, zq4, zq5, zq6]
      refine wpAnyW_done (by kernel_rfl) ?_
      go_wp2
      exact ⟨⟨k + 1, top, cs', fr', T', by omega, rfl, rfl, by first | rfl | go_num, HZ.out.2, HZ.out.1⟩, by simp [intOf]; omega⟩
    · obtain rfl : k = n := by omega
      have HF : Hid (FlI cs k root T es) := by
        have := hF.out
        rw [List.take_of_length_le (by rw [← HNE.out]; omega)] at this
        exact this
      go_wp2
      go_ret3
      exact ⟨g, gs, cs, fr, root, T, rfl, hH.out, HF.out⟩

theorem FlI.lir {w w' : World} {g gs k root : Nat} {cs : List (Nat × Ce)} {fr : List Nat} {T : Tre} {l : List Ent} (f : FlI cs k root T l) (hH : Hs w [] w' g gs 5160 cs fr) (hl : l.length ≤ 1000) : LiR w' (some ⟨g, 0, none⟩) cs root T := by
  have h1 : T.ents.length = l.length := f.ents.length_eq
  have h2 := num_le hH.2 T root f.rt.tree
  refine ⟨hH.vw, ⟨[], hH.2⟩, f.rt.tree, f.rt.root, ?_, by omega⟩
  have h3 : T.ents.length * (257 - dq cs root) ≤ 1000 * 257 := Nat.mul_le_mul (by omega) (by omega)
  omega

end Go.Proofs.YtnnmfgnommbmkaaGreatDoor
