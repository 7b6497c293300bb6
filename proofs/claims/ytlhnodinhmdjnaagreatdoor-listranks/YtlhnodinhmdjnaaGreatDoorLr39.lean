/- list.Nth, Some, Between, as contracts. -/
import Derived.Test.YtlhnodinhmdjnaaGreatDoorLr01
import Derived.Test.YtlhnodinhmdjnaaGreatDoorLr33
import Derived.Test.YtlhnodinhmdjnaaGreatDoorLr37
import Derived.Test.YtlhnodinhmdjnaaGreatDoorLr38
import Derived.Test.YtlhnodinhmdjnaaGreatDoorLr36
namespace Go.Proofs.YtlhnodinhmdjnaaGreatDoor
set_option maxRecDepth 20000
open Go.RowKit

theorem encP_sz {K : List Int} {u : Value} (hK : K.length = 32) : (Tryz.prog.info? 37).map (·.size) = some (encP K u).toArray.size ∧ (encP z32 (.slice none 0 0)).toArray.size = (encP K u).toArray.size := by
  rw [List.size_toArray, List.size_toArray, encP_length K u hK, encP_length z32 _ z32_length]
  exact ⟨size_pair, rfl⟩

def NthNo (w : World) (e0 : Int) (e : Ending) (w' : World) : Prop := e = .returned (.tuple #[.agg (encP z32 (.slice none 0 0)).toArray, .int .i64 e0]) ∧ Below w.heap.size w w'

set_option maxHeartbeats 1000000 in
theorem nth_any {w : World} {pt : Option Addr} {cs : List (Nat × Ce)} {h : Nat} {T : Tre} (r : LiR w pt cs h T) (n : Nat) (K bs : List Int) (hn : T.ents[n]? = some (K, bs)) : Calls Tryz.prog 11 #[.pointer pt, .int .i64 (h : Int), .int .i64 (n : Int)] w fun e w' => ∃ a c, e = .returned (.tuple #[.agg (encP K (.slice a bs.length c)).toArray, .int .i64 0]) ∧ Reads w' (.slice a bs.length c) bs ∧ Below w.heap.size w w' := by
  have HRT : Hid (∀ w', Below w.heap.size w w' → Calls Tryz.prog 40 #[.pointer pt, .int .i64 (h : Int)] w' fun e w'' => e = .returned (.int .i64 0) ∧ Below w'.heap.size w' w'') := fun w' hb => (r.grow hb).root
  have hnl : n < T.ents.length := (List.getElem?_eq_some_iff.1 hn).1
  have hK : Key K := by
    obtain ⟨_, W⟩ := r.wf
    exact ((tree_ok W T h r.tre).ent (K, bs) (List.mem_of_getElem? hn)).1
  have HEN : Hid (∀ w', Below w.heap.size w w' → Calls Tryz.prog 47 #[.pointer pt, .int .i64 (h : Int), .int .i64 (n : Int), .int .i64 1] w' fun e w'' => ∃ lg lo lc ua uc, e = .returned (.slice (some ⟨lg, lo, none⟩) 1 lc) ∧ w''.rangeAt lg lo (encP K (.slice ua bs.length uc)) ∧ (∃ sp, Own w'.heap.size w'' (.slice ua bs.length uc) bs sp) ∧ Below w'.heap.size w' w'') := fun w' hb => ((r.grow hb).entries n 1 (by have := r.few; omega)).mono (fun e w'' hp => by
    have e1 : (T.ents.drop n).take 1 = [(K, bs)] := by
      rw [List.drop_eq_getElem_cons hnl]
      simp only [List.take_succ_cons, List.take_zero]
      rw [List.getElem?_eq_getElem hnl] at hn
      injection hn with hn
      rw [hn]
    rw [e1] at hp
    obtain ⟨lv, its, rfl, q1, q2, q3, _, b⟩ := hp
    obtain ⟨p, rfl⟩ : ∃ p, its = [p] := by
      cases its with
      | nil => simp at q1
      | cons p its =>
        cases its with
        | nil => exact ⟨p, rfl⟩
        | cons q r => simp at q1
    obtain ⟨p1, u⟩ := p
    obtain rfl : p1 = (K, bs) := by simpa using q1
    obtain ⟨_, sp, ho⟩ := q3 ((K, bs), u) (by simp)
    dsimp only at ho
    have hp := prAt_own q2 (fun p hp => (q3 p hp).1) (fun p hp => by obtain ⟨_, sp, ho⟩ := q3 p hp; exact ho.reads)
    obtain ⟨a', c', e2, _, h2, _⟩ := hp
    subst e2
    obtain ⟨g, off, rfl, hr⟩ := h2 (by simp)
    have h4 := hr 0 (by simp)
    simp only [List.map_cons, List.map_nil, List.getD_cons_zero, Nat.zero_mul, Nat.add_zero] at h4
    obtain ⟨ua, uc, rfl⟩ := ho.slice
    exact ⟨g, off, c', ua, uc, rfl, h4, ⟨sp, ho⟩, b⟩)
  have hn0 : ¬ (n : Int) < 0 := by omega
  have HSz : Hid (∀ u, (Tryz.prog.info? 37).map (·.size) = some (encP K u).toArray.size ∧ (encP z32 (.slice none 0 0)).toArray.size = (encP K u).toArray.size) := fun u => encP_sz hK.1
  have HS3 : Hid (∀ u, (Tryz.prog.info? 37).map (·.size) = some (encP K u).length) := fun u => by
    show _ = _
    rw [encP_length K u hK.1]
    exact size_pair
  obtain ⟨fp, hup⟩ := u_pair
  have HUP := hidden hup
  clear r hup hn hnl hK
  go_enter Tryz.func11, Tryz.ntmps11
  go_wp2_with (first
    | ((with_reducible refine at_ald 6 ?_); refine wpList_al _ rfl _ rfl _ zero_pair ?_; intro w2 g6 hg6 hl6 B6 b2; have HB6 := hidden B6; have HQ6 := hidden b2; have HG6 := hidden hg6; clear B6 hg6 hl6 b2)
    | (go_at_call 40; refine (HRT.out _ HQ6.out).mono ?_; rintro e w3 ⟨rfl, b3⟩; have HB63 := hidden (HB6.out.grow b3); have HQ3 := hidden (grow_trans HQ6.out b3); clear b3)
    | (go_at_call 47; refine (HEN.out _ HQ3.out).mono ?_; rintro e w5 ⟨lg, lo, lc, ua, uc, rfl, hrg, hrd, b5⟩; have HRG := hidden hrg; have HRD := hidden hrd; have HB65 := hidden (HB63.out.grow b5); have HQ5 := hidden (grow_trans HQ3.out b5); clear b5 hrg hrd)
    | ((with_reducible refine at_ldd 30 29 ?_); refine wpList_load_mid rfl 37 (.tmp 29) rfl lg lo rfl (encP K (.slice ua bs.length uc)) _ HRG.out HUP.out rfl (HS3.out _) ?_)
    | ((with_reducible refine at_st 6 ?_); refine wpList_sto _ rfl _ _ _ rfl g6 _ (encP K (.slice ua bs.length uc)).toArray rfl rfl HB65.out (HSz.out _).1 (HSz.out _).2 (encP_one _ _ _ _) ?_; intro w4 B9 r9))
  refine bodyPost_ret (v := .tuple #[.agg (encP K (.slice ua bs.length uc)).toArray, .int .i64 0]) (results_agg_tmp rfl _ _ g6 _ _ rfl rfl B9 HUP.out (HSz.out _).1) rfl ⟨ua, uc, rfl, ?_, below_row HQ5.out r9 HG6.out⟩
  obtain ⟨sp, ho⟩ := HRD.out
  have h6 := HB63.out.lt
  refine (ho.of_block (fun x hx => r9.block x (ho.lt x hx).2 (fun e => ?_))).reads
  have := (ho.lt x hx).1
  injection e with e
  omega

def SoPost (w : World) (es : List Ent) (e : Ending) (w' : World) : Prop := ∃ (lv : Value), e = .returned (.tuple #[lv, .int .i64 0]) ∧ EnPost w es (.returned lv) w'

def upt (K : List Int) (l : List Ent) : Nat := (l.filter fun e => decide (cmp e.1 K ≤ 0)).length

theorem upt_next {K K2 : List Int} (hK : Key K) (hN : IsNext K K2) (l : List Ent) (hk : ∀ e ∈ l, Key e.1) : ahd K2 l = upt K l := by
  unfold ahd upt
  congr 1
  refine List.filter_congr (fun e he => ?_)
  have h1 := hk e he
  rw [decide_eq_decide, cmp_lt h1 hN.1, cmp_le h1 hK]
  constructor
  · intro ha hb
    exact hN.least hb ha
  · intro hn
    rcases cmp_key h1 hK with ⟨_, e1⟩ | ⟨_, e1⟩ | ⟨_, e1⟩
    · rw [e1]
      exact hN.behind
    · exact e1.trans hN.behind
    · exact absurd e1 hn
theorem upt_last {K : List Int} (hK : Key K) (hL : IsLast K) (l : List Ent) (hk : ∀ e ∈ l, Key e.1) : l.length = upt K l := by
  unfold upt
  rw [List.filter_eq_self.2 (fun e he => by
    rw [decide_eq_true_iff, cmp_le (hk e he) hK]
    exact hL.none)]

set_option maxHeartbeats 1000000 in
theorem upTo_any {w : World} {pt : Option Addr} {cs : List (Nat × Ce)} {h : Nat} {T : Tre} (r : LiR w pt cs h T) (K : List Int) (hK : Key K) : Calls Tryz.prog 48 #[.pointer pt, .int .i64 (h : Int), .agg (B K)] w fun e w' => e = .returned (.int .i64 (upt K T.ents : Int)) ∧ Below w.heap.size w w' := by
  have hks : ∀ e ∈ T.ents, Key e.1 := fun e he => by
    obtain ⟨_, W⟩ := r.wf
    exact ((tree_ok W T h r.tre).ent e he).1
  have HNX : Hid (∀ w', Calls Tryz.prog 21 #[.agg (B K)] w' (NextPost K w')) := fun w' => next_any K w' hK
  have HRK : Hid (∀ K2, IsNext K K2 → ∀ w', Below w.heap.size w w' → Calls Tryz.prog 10 #[.pointer pt, .int .i64 (h : Int), .agg (B K2)] w' fun e w'' => e = .returned (.tuple #[.int .i64 (upt K T.ents : Int), .int .i64 0]) ∧ Below w'.heap.size w' w'') := fun K2 hN w' hb => by
    have := (r.grow hb).rank K2 hN.1
    rwa [r.rkd K2 hN.1, upt_next hK hN _ hks] at this
  have HSZ : Hid (IsLast K → ∀ w', Below w.heap.size w w' → Calls Tryz.prog 41 #[.pointer pt, .int .i64 (h : Int)] w' fun e w'' => e = .returned (.int .i64 (upt K T.ents : Int)) ∧ Below w'.heap.size w' w'') := fun hL w' hb => by
    have := (r.grow hb).size
    rwa [upt_last hK hL _ hks] at this
  have HPS := hidden (keyB_size hK)
  clear r hK hks
  generalize (upt K T.ents : Int) = up at *
  by_cases hL : IsLast K
  · go_enter Tryz.func48, Tryz.ntmps48
    go_wp2_with (first
      | ((with_reducible refine at_bxd 5 ?_); refine wpList_bx _ rfl _ _ rfl _ rfl ?_; intro w1 b5 hg5 hl5 B5 q5; have HB5 := hidden B5; have HQ5 := hidden q5; clear hg5 hl5 B5 q5)
      | ((with_reducible refine at_ldd 12 5 ?_); refine wpList_ld _ rfl _ _ rfl b5 _ rfl HB5.out _ _ Tryz.underlying23 HPS.out ?_)
      | (go_at_call 21; refine (HNX.out _).mono ?_; rintro e w2 ⟨ys, bb, hor, rfl, b2⟩; obtain ⟨rfl, hlast, rfl⟩ : bb = false ∧ IsLast K ∧ ys = List.replicate 32 0 := (hor.resolve_left (fun h => h.2.not_last hL)); have HYK : Hid (Key (List.replicate 32 (0 : Int))) := key_zero; have HYS : Hid ((Tryz.prog.info? 23).map (·.size) = some (B (List.replicate 32 0)).size ∧ (B (List.replicate 32 0)).size = (B (List.replicate 32 0)).size) := ⟨keyB_size HYK.out, rfl⟩; have HQ2 := hidden (grow_trans HQ5.out b2); clear b2 hor hlast)
      | ((with_reducible refine at_ald 7 ?_); refine wpList_al _ rfl _ rfl _ zero_path ?_; intro w3 g7 hg7 hl7 B7 b3; have HB7 := hidden B7; have HG7 : Hid (w.heap.size ≤ g7) := Nat.le_trans HQ2.out.size hg7; have HQ3 := hidden (grow_trans HQ2.out b3); clear B7 hg7 hl7 b3)
      | ((with_reducible refine at_st 7 ?_); refine wpList_sto _ rfl _ _ _ rfl g7 _ (B (List.replicate 32 0)) rfl rfl HB7.out HYS.out.1 rfl (B_one _) ?_; intro w4 B9 r9; have HB9 := hidden B9; have HQ4 := hidden (below_row HQ3.out r9 HG7.out); clear B9 r9)
      | (go_at_call 41; refine (HSZ.out hL _ HQ4.out).mono ?_; rintro e w6 ⟨rfl, b6⟩; have HQ6 := hidden (grow_trans HQ4.out b6); clear b6))
    go_ret
    exact ⟨rfl, HQ6.out⟩
  · go_enter Tryz.func48, Tryz.ntmps48
    go_wp2_with (first
      | ((with_reducible refine at_bxd 5 ?_); refine wpList_bx _ rfl _ _ rfl _ rfl ?_; intro w1 b5 hg5 hl5 B5 q5; have HB5 := hidden B5; have HQ5 := hidden q5; clear hg5 hl5 B5 q5)
      | ((with_reducible refine at_ldd 12 5 ?_); refine wpList_ld _ rfl _ _ rfl b5 _ rfl HB5.out _ _ Tryz.underlying23 HPS.out ?_)
      | (go_at_call 21; refine (HNX.out _).mono ?_; rintro e w2 ⟨ys, bb, hor, rfl, b2⟩; obtain ⟨rfl, hN⟩ : bb = true ∧ IsNext K ys := (hor.resolve_right (fun h => hL h.2.1)); have HN := hidden hN; have HYK : Hid (Key ys) := hN.1; have HYS : Hid ((Tryz.prog.info? 23).map (·.size) = some (B ys).size ∧ (B (List.replicate 32 0)).size = (B ys).size) := ⟨keyB_size HYK.out, by rw [B_size, B_size, HYK.out.1]; rfl⟩; clear hor hN; have HQ2 := hidden (grow_trans HQ5.out b2); clear b2)
      | ((with_reducible refine at_ald 7 ?_); refine wpList_al _ rfl _ rfl _ zero_path ?_; intro w3 g7 hg7 hl7 B7 b3; have HB7 := hidden B7; have HG7 : Hid (w.heap.size ≤ g7) := Nat.le_trans HQ2.out.size hg7; have HQ3 := hidden (grow_trans HQ2.out b3); clear B7 hg7 hl7 b3)
      | ((with_reducible refine at_st 7 ?_); refine wpList_sto _ rfl _ _ _ rfl g7 _ (B ys) rfl rfl HB7.out HYS.out.1 HYS.out.2 (B_one _) ?_; intro w4 B9 r9; have HB9 := hidden B9; have HQ4 := hidden (below_row HQ3.out r9 HG7.out); clear B9 r9)
      | ((with_reducible refine at_ldd 24 7 ?_); refine wpList_ld _ rfl _ _ rfl g7 _ rfl HB9.out _ _ Tryz.underlying23 HYS.out.1 ?_)
      | (go_at_call 10; refine (HRK.out _ HN.out _ HQ4.out).mono ?_; rintro e w6 ⟨rfl, b6⟩; have HQ6 := hidden (grow_trans HQ4.out b6); clear b6))
    go_ret
    exact ⟨rfl, HQ6.out⟩

def btw (K K2 : List Int) (l : List Ent) : Nat := upt K2 l - ahd K l

set_option maxHeartbeats 1000000 in
theorem between_any {w : World} {pt : Option Addr} {cs : List (Nat × Ce)} {h : Nat} {T : Tre} (r : LiR w pt cs h T) (K K2 : List Int) (hK : Key K) (hK2 : Key K2) : Calls Tryz.prog 12 #[.pointer pt, .int .i64 (h : Int), .agg (B K), .agg (B K2)] w fun e w' => e = .returned (.tuple #[.int .i64 (btw K K2 T.ents : Int), .int .i64 0]) ∧ Below w.heap.size w w' := by
  have HRK : Hid (∀ w', Below w.heap.size w w' → Calls Tryz.prog 10 #[.pointer pt, .int .i64 (h : Int), .agg (B K)] w' fun e w'' => e = .returned (.tuple #[.int .i64 (ahd K T.ents : Int), .int .i64 0]) ∧ Below w'.heap.size w' w'') := fun w' hb => by
    have := (r.grow hb).rank K hK
    rwa [r.rkd K hK] at this
  have HUT : Hid (∀ w', Below w.heap.size w w' → Calls Tryz.prog 48 #[.pointer pt, .int .i64 (h : Int), .agg (B K2)] w' fun e w'' => e = .returned (.int .i64 (upt K2 T.ents : Int)) ∧ Below w'.heap.size w' w'') := fun w' hb => upTo_any (r.grow hb) K2 hK2
  have HPS := hidden (keyB_size hK)
  have HPS2 := hidden (keyB_size hK2)
  have h1 := ahd_le K T.ents
  have h2 : upt K2 T.ents ≤ T.ents.length := List.length_filter_le _ _
  have h3 := r.few
  have hwx : wrap64 ((upt K2 T.ents : Int) - (ahd K T.ents : Int)) = (upt K2 T.ents : Int) - (ahd K T.ents : Int) := Go.IntWalk.wrap64_in _ (by omega)
  have HBT : Hid ((btw K K2 T.ents : Int) = max ((upt K2 T.ents : Int) - (ahd K T.ents : Int)) 0) := by
    show _ = _
    unfold btw
    omega
  rw [HBT.out]
  clear r hK hK2 h1 h2 h3 HBT
  generalize (upt K2 T.ents : Int) = up at *
  generalize (ahd K T.ents : Int) = ah at *
  by_cases hx : up - ah < 0
  · have HX : Hid (max (up - ah) 0 = 0) := by show _ = _; omega
    have hx2 : ¬ 0 ≤ up - ah := by omega
    have hx3 : ¬ 0 < up - ah := by omega
    have hx4 : up - ah ≤ 0 := by omega
    go_enter Tryz.func12, Tryz.ntmps12
    go_wp2_with (first
      | ((with_reducible refine at_bxd 6 ?_); refine wpList_bx _ rfl _ _ rfl _ rfl ?_; intro w1 b6 hg6 hl6 B6 q6; have HB6 := hidden B6; have HQ6 := hidden q6; clear hg6 hl6 B6 q6)
      | ((with_reducible refine at_bxd 7 ?_); refine wpList_bx _ rfl _ _ rfl _ rfl ?_; intro w2 b7 hg7 hl7 B7 q7; have HB67 := hidden (HB6.out.grow q7); have HB7 := hidden B7; have HQ7 := hidden (grow_trans HQ6.out q7); clear hg7 hl7 B7 q7)
      | ((with_reducible refine at_ldd 15 6 ?_); refine wpList_ld _ rfl _ _ rfl b6 _ rfl HB67.out _ _ Tryz.underlying23 HPS.out ?_)
      | (go_at_call 10; refine (HRK.out _ HQ7.out).mono ?_; rintro e w3 ⟨rfl, b3⟩; have HB73 := hidden (HB7.out.grow b3); have HQ3 := hidden (grow_trans HQ7.out b3); clear b3)
      | ((with_reducible refine at_ldd 24 7 ?_); refine wpList_ld _ rfl _ _ rfl b7 _ rfl HB73.out _ _ Tryz.underlying23 HPS2.out ?_)
      | (go_at_call 48; refine (HUT.out _ HQ3.out).mono ?_; rintro e w4 ⟨rfl, b4⟩; have HQ4 := hidden (grow_trans HQ3.out b4); clear b4))
    go_ret2
    refine ⟨?_, HQ4.out⟩
    rw [HX.out]
    rfl
  · have HX : Hid (max (up - ah) 0 = up - ah) := by show _ = _; omega
    have hx2 : 0 ≤ up - ah := by omega
    go_enter Tryz.func12, Tryz.ntmps12
    go_wp2_with (first
      | ((with_reducible refine at_bxd 6 ?_); refine wpList_bx _ rfl _ _ rfl _ rfl ?_; intro w1 b6 hg6 hl6 B6 q6; have HB6 := hidden B6; have HQ6 := hidden q6; clear hg6 hl6 B6 q6)
      | ((with_reducible refine at_bxd 7 ?_); refine wpList_bx _ rfl _ _ rfl _ rfl ?_; intro w2 b7 hg7 hl7 B7 q7; have HB67 := hidden (HB6.out.grow q7); have HB7 := hidden B7; have HQ7 := hidden (grow_trans HQ6.out q7); clear hg7 hl7 B7 q7)
      | ((with_reducible refine at_ldd 15 6 ?_); refine wpList_ld _ rfl _ _ rfl b6 _ rfl HB67.out _ _ Tryz.underlying23 HPS.out ?_)
      | (go_at_call 10; refine (HRK.out _ HQ7.out).mono ?_; rintro e w3 ⟨rfl, b3⟩; have HB73 := hidden (HB7.out.grow b3); have HQ3 := hidden (grow_trans HQ7.out b3); clear b3)
      | ((with_reducible refine at_ldd 24 7 ?_); refine wpList_ld _ rfl _ _ rfl b7 _ rfl HB73.out _ _ Tryz.underlying23 HPS2.out ?_)
      | (go_at_call 48; refine (HUT.out _ HQ3.out).mono ?_; rintro e w4 ⟨rfl, b4⟩; have HQ4 := hidden (grow_trans HQ3.out b4); clear b4))
    go_ret2
    refine ⟨?_, HQ4.out⟩
    rw [HX.out]
    rfl

end Go.Proofs.YtlhnodinhmdjnaaGreatDoor

namespace Go.Proofs.YtlhnodinhmdjnaaGreatDoor
set_option maxRecDepth 20000
open Go.RowKit

theorem fill13_at (i : Nat) (p q r cs : List Value) (rest : List (Nat × Value)) (hp : p.length = i * 33) (hq : q.length = 33) (hc : cs.length = 33) : Instr.fill (fun i => some (i * 33, 33)) (p ++ (q ++ r)).toArray ((i, .agg cs.toArray) :: rest) = Instr.fill (fun i => some (i * 33, 33)) (p ++ (cs ++ r)).toArray rest := by
  rw [fill_one (fun i => some (i * 33, 33)) i (i * 33) 33 (.agg cs.toArray) cs (p ++ (q ++ r)) rest rfl rfl hc (by simp only [List.length_append]; omega)]
  have e1 : (p ++ (q ++ r)).take (i * 33) = p := by rw [← hp, List.take_left]
  have e2 : (p ++ (q ++ r)).drop (i * 33 + 33) = r := by rw [← hp, ← hq, ← List.append_assoc, ← List.length_append, List.drop_left]
  rw [e1, e2]
  simp only [List.append_assoc]
theorem cut13 (n : Nat) (zs : List Value) (h : zs.length = (n + 1) * 33) : ∃ q r, zs = q ++ r ∧ q.length = 33 ∧ r.length = n * 33 := ⟨zs.take 33, zs.drop 33, (List.take_append_drop 33 zs).symm, by rw [List.length_take]; omega, by rw [List.length_drop]; omega⟩

theorem wpList_three {ops : Array Oper} {rest : List Oper} {op : Oper} {a : Act} {Q : Exit → Act → World → Prop} (w : World) (hgd : op.guard = none) (x0 x1 x2 : Operand) (ho : op.op = .buildSlice 41 3 #[(0, x0), (1, x1), (2, x2)])
    (k0 k1 k2 : List Int) (u0 u1 u2 : Value) (hx0 : a.eval x0 = .agg (encP k0 u0).toArray) (hx1 : a.eval x1 = .agg (encP k1 u1).toArray) (hx2 : a.eval x2 = .agg (encP k2 u2).toArray) (hl0 : k0.length = 32) (hl1 : k1.length = 32) (hl2 : k2.length = 32)
    (hk : wpList Tryz.prog ops Q rest (a.put op.dst (.slice (some ⟨w.heap.size, 0, none⟩) 3 3)) (w.alloc (.cells (encP k0 u0 ++ (encP k1 u1 ++ encP k2 u2)).toArray 37))) : wpList Tryz.prog ops Q (op :: rest) a w := by
  refine wpList_plain hgd fun K hK => ?_
  obtain ⟨i, z, hi, hz, hs, _, hzs⟩ := info_pair
  have hrun := run_buildSlice (P := Tryz.prog) w 41 37 3 #[(0, .agg (encP k0 u0).toArray), (1, .agg (encP k1 u1).toArray), (2, .agg (encP k2 u2).toArray)] (encP k0 u0 ++ (encP k1 u1 ++ encP k2 u2)).toArray i z Tryz.underlying41 hi hz (by rw [hs]; omega) (by rw [hs]; omega) (by
    rw [hs]
    obtain ⟨zs, hzz, hzl⟩ : ∃ zs : List Value, (Array.range (3 * 33)).map (z.cells[· % z.cells.size]!) = zs.toArray ∧ zs.length = 3 * 33 := ⟨_, (Array.toArray_toList).symm, by simp⟩
    rw [hzz, show (#[(0, Value.agg (encP k0 u0).toArray), (1, Value.agg (encP k1 u1).toArray), (2, Value.agg (encP k2 u2).toArray)] : Array (Nat × Value)).toList = [(0, Value.agg (encP k0 u0).toArray), (1, Value.agg (encP k1 u1).toArray), (2, Value.agg (encP k2 u2).toArray)] from rfl]
    have e0 : (encP k0 u0).length = 33 := encP_length _ _ hl0
    have e1 : (encP k1 u1).length = 33 := encP_length _ _ hl1
    have e2 : (encP k2 u2).length = 33 := encP_length _ _ hl2
    obtain ⟨q0, r0, rfl, l0, m0⟩ := cut13 2 zs hzl
    obtain ⟨q1, r1, rfl, l1, m1⟩ := cut13 1 r0 m0
    obtain ⟨q2, r2, rfl, l2, m2⟩ := cut13 0 r1 m1
    obtain rfl : r2 = [] := List.eq_nil_of_length_eq_zero (by simpa using m2)
    have f0 := fill13_at 0 [] q0 (q1 ++ (q2 ++ [])) (encP k0 u0) [(1, .agg (encP k1 u1).toArray), (2, .agg (encP k2 u2).toArray)] rfl l0 e0
    rw [List.nil_append, List.nil_append] at f0
    rw [f0]
    have f1 := fill13_at 1 (encP k0 u0) q1 (q2 ++ []) (encP k1 u1) [(2, .agg (encP k2 u2).toArray)] (by simp [e0]) l1 e1
    rw [f1]
    have f2 := fill13_at 2 (encP k0 u0 ++ encP k1 u1) q2 ([]) (encP k2 u2) [] (by simp [e0, e1]) l2 e2
    simp only [List.append_assoc] at f2
    rw [f2]
    rw [Instr.fill]
    simp)
  unfold Oper.wp execOp
  simp only [ho, List.map_toArray, List.map_cons, List.map_nil, hx0, hx1, hx2, Sem.run_bind, hrun, Result.andThen_ok, Sem.run_pure]
  exact hK _ _ hk

def E3 : List Ent := [(z32, [97]), (kyB 64, [98]), (kyB 128, [99])]
structure Th3 (w : World) (g : Nat) (u0 u1 u2 : Value) : Prop where
  blk : Blk w g 37 (encP z32 u0 ++ (encP (kyB 64) u1 ++ encP (kyB 128) u2)).toArray
  r0 : Reads w u0 [97]
  r1 : Reads w u1 [98]
  r2 : Reads w u2 [99]
theorem ky64 : Key (kyB 64) := kyB_key 64 (by omega) (by omega)
theorem ky128 : Key (kyB 128) := kyB_key 128 (by omega) (by omega)

theorem rng_mid {w : World} {g : Nat} {t : TypeId} {p q r : List Value} {o : Nat} (h : Blk w g t (p ++ (q ++ r)).toArray) (ho : p.length = o) : w.rangeAt g o q := fun j v hv => by
  have hj := (List.getElem?_eq_some_iff.1 hv).1
  rw [h.cell, List.getElem?_toArray, List.getElem?_append_right (by omega), ho, Nat.add_sub_cancel_left, List.getElem?_append_left hj]
  exact hv

theorem Th3.rng {w : World} {g : Nat} {u0 u1 u2 : Value} (h : Th3 w g u0 u1 u2) : w.rangeAt g 0 (encP z32 u0) ∧ w.rangeAt g 33 (encP (kyB 64) u1) ∧ w.rangeAt g 66 (encP (kyB 128) u2) := by
  have e0 : (encP z32 u0).length = 33 := encP_length _ _ z32_length
  have e1 : (encP (kyB 64) u1).length = 33 := encP_length _ _ ky64.1
  refine ⟨rng_mid (p := []) h.blk rfl, rng_mid h.blk e0, rng_mid (t := 37) (p := encP z32 u0 ++ encP (kyB 64) u1) (r := []) ?_ (by rw [List.length_append, e0, e1])⟩
  rw [List.append_nil, List.append_assoc]
  exact h.blk
theorem Th3.all {w : World} {g : Nat} {u0 u1 u2 : Value} (h : Th3 w g u0 u1 u2) : PrAt w (.slice (some ⟨g, 0, none⟩) E3.length 3) (fun i => [u0, u1, u2].getD i undef) E3 := by
  obtain ⟨h0, h1, h2⟩ := h.rng
  refine ⟨_, _, rfl, by decide, fun _ => ⟨g, 0, rfl, fun i hi => ?_⟩, fun i hi => ?_⟩
  · have : i = 0 ∨ i = 1 ∨ i = 2 := by
      have : i < 3 := hi
      omega
    rcases this with rfl | rfl | rfl
    · exact h0
    · exact h1
    · exact h2
  · have : i = 0 ∨ i = 1 ∨ i = 2 := by
      have : i < 3 := hi
      omega
    rcases this with rfl | rfl | rfl
    · exact ⟨key_zero, h.r0⟩
    · exact ⟨ky64, h.r1⟩
    · exact ⟨ky128, h.r2⟩
def fz (w : World) (z : Int) : World := (w.alloc (.cells #[.int .u8 z] 5)).freeze ⟨w.heap.size, 1, none⟩ 1
theorem fz_heap (w : World) (z : Int) : (fz w z).heap = w.heap.push (.cells #[.int .u8 z] 5 (1, 2)) := by
  unfold fz World.freeze
  rw [if_neg (by decide)]
  apply Array.ext
  · simp
  · intro i h1 h2
    simp only [World.alloc, Array.getElem_modify, Array.getElem_push]
    by_cases h : w.heap.size = i
    · subst h
      simp
    · have hi : i < w.heap.size := by
        simp at h1
        omega
      simp [h, hi]
theorem fz_low (w : World) (z : Int) : Below w.heap.size w (fz w z) := by
  have h := fz_heap w z
  refine ⟨?_, ?_, ?_, ?_, fun k hk => ?_⟩
  · unfold fz World.freeze
    rw [if_neg (by decide)]
    rfl
  · unfold fz World.freeze
    rw [if_neg (by decide)]
    rfl
  · unfold fz World.freeze
    rw [if_neg (by decide)]
    rfl
  · rw [h]
    simp
  · rw [h, Array.getElem?_push_lt hk, Array.getElem?_eq_getElem hk]
theorem fz_reads (w : World) (z : Int) (hz : 0 ≤ z ∧ z ≤ 255) : Reads (fz w z) (.slice (some ⟨w.heap.size, 0, none⟩) 1 1) [z] := by
  refine ⟨some ⟨w.heap.size, 0, none⟩, 1, rfl, Nat.le_refl _, (fun e => by cases e), (fun x hx => ?_), fun _ => ⟨w.heap.size, 0, rfl, fun i hi => ?_⟩⟩
  · obtain rfl : x = z := by simpa using hx
    exact hz
  · obtain rfl : i = 0 := by
      have : i < 1 := hi
      omega
    unfold World.cell?
    rw [fz_heap]
    simp
theorem conv_mark (w : World) (z : Int) : (convert 35 35 (.slice (some ⟨w.heap.size, 0, none⟩) 1 1)).run Tryz.prog (w.alloc (.cells #[.int .u8 z] 5)) = .ok (.slice (some ⟨w.heap.size, 0, none⟩) 1 1) (fz w z) := by
  have hsh : (w.alloc (.cells #[Value.int .u8 z] 5)).shape? w.heap.size = some (5, 1) := by
    have : (w.alloc (.cells #[Value.int .u8 z] 5)).heap[w.heap.size]? = some (.cells #[Value.int .u8 z] 5) := Blk.new w _ _
    unfold World.shape?
    rw [this]
    rfl
  simp [convert, run_underlying Tryz.underlying35, run_underlying Tryz.underlying5, markStringish, hsh]
  rfl

set_option maxHeartbeats 2000000 in
theorem three_any (w : World) : Calls Tryz.prog 52 #[] w fun e w' => ∃ g u0 u1 u2, e = .returned (.slice (some ⟨g, 0, none⟩) 3 3) ∧ Th3 w' g u0 u1 u2 ∧ Below w.heap.size w w' := by
  have HB0 := hidden built_k0
  have HB64 := hidden (built_ky 64)
  have HB128 := hidden (built_ky 128)
  have HP0 : Hid (∀ a c, Tryz.prog.built 37 [(0, .agg (B z32)), (1, .slice a 1 c)] = some (encP z32 (.slice a 1 c)).toArray) := fun a c => built_p7 z32 a 1 c z32_length
  have HP1 : Hid (∀ a c, Tryz.prog.built 37 [(0, .agg (B (kyB 64))), (1, .slice a 1 c)] = some (encP (kyB 64) (.slice a 1 c)).toArray) := fun a c => built_p7 (kyB 64) a 1 c ky64.1
  have HP2 : Hid (∀ a c, Tryz.prog.built 37 [(0, .agg (B (kyB 128))), (1, .slice a 1 c)] = some (encP (kyB 128) (.slice a 1 c)).toArray) := fun a c => built_p7 (kyB 128) a 1 c ky128.1
  have hcv := conv_mark
  go_enter Tryz.func52, Tryz.ntmps52
  go_wp2_with (first
    | ((with_reducible refine at_bdd 1 ?_); refine wpList_bld _ rfl _ _ rfl _ (by rw [List.map_toArray]; exact HB0.out) ?_)
    | ((with_reducible refine at_bdd 5 ?_); refine wpList_bld _ rfl _ _ rfl _ (by rw [List.map_toArray]; exact HB64.out) ?_)
    | ((with_reducible refine at_bdd 9 ?_); refine wpList_bld _ rfl _ _ rfl _ (by rw [List.map_toArray]; exact HB128.out) ?_)
    | ((with_reducible refine at_bdd 4 ?_); refine wpList_bld _ rfl _ _ rfl _ (by rw [List.map_toArray]; exact HP0.out _ _) ?_)
    | ((with_reducible refine at_bdd 8 ?_); refine wpList_bld _ rfl _ _ rfl _ (by rw [List.map_toArray]; exact HP1.out _ _) ?_)
    | ((with_reducible refine at_bdd 12 ?_); refine wpList_bld _ rfl _ _ rfl _ (by rw [List.map_toArray]; exact HP2.out _ _) ?_)
    | (refine wpList_three _ rfl _ _ _ rfl z32 (kyB 64) (kyB 128) _ _ _ rfl rfl rfl z32_length ky64.1 ky128.1 ?_))
  go_ret
  have a1 := fz_low w 97
  have r0 := fz_reads w 97 (by omega)
  generalize fz w 97 = w1 at *
  have a2 := fz_low w1 98
  have r1 := fz_reads w1 98 (by omega)
  generalize fz w1 98 = w2 at *
  have a3 := fz_low w2 99
  have r2 := fz_reads w2 99 (by omega)
  generalize fz w2 99 = w3 at *
  have a4 := grow_alloc w3 (.cells (encP z32 (.slice (some ⟨w.heap.size, 0, none⟩) 1 1) ++ (encP (kyB 64) (.slice (some ⟨w1.heap.size, 0, none⟩) 1 1) ++ encP (kyB 128) (.slice (some ⟨w2.heap.size, 0, none⟩) 1 1))).toArray 37)
  exact ⟨_, _, _, _, rfl, ⟨Blk.new _ _ _, ((r0.grow a2).grow a3).grow a4, (r1.grow a3).grow a4, r2.grow a4⟩, grow_trans (grow_trans (grow_trans a1 a2) a3) a4⟩

end Go.Proofs.YtlhnodinhmdjnaaGreatDoor

namespace Go.Proofs.YtlhnodinhmdjnaaGreatDoor
set_option maxRecDepth 20000
open Go.RowKit

theorem perm_rise {α : Type} {R : α → α → Prop} (hR : ∀ a b, R a b → R b a → False) : ∀ (l m : List α), l.Perm m → l.Pairwise R → m.Pairwise R → l = m
  | [], m, h, _, _ => by
    have := h.length_eq
    cases m with
    | nil => rfl
    | cons _ _ => simp at this
  | a :: l, [], h, _, _ => by
    have := h.length_eq
    simp at this
  | a :: l, b :: m, h, h1, h2 => by
    rw [List.pairwise_cons] at h1 h2
    have hab : a = b := by
      have ha : a ∈ b :: m := h.mem_iff.1 (by simp)
      have hb : b ∈ a :: l := h.mem_iff.2 (by simp)
      rcases List.mem_cons.1 ha with e | ha
      · exact e
      · rcases List.mem_cons.1 hb with e | hb
        · exact e.symm
        · exact (hR a b (h1.1 b hb) (h2.1 a ha)).elim
    subst hab
    rw [perm_rise hR l m (List.perm_cons _ |>.1 h) h1.2 h2.2]

theorem e3_rise : E3.Pairwise fun a b => Ahead a.1 b.1 := by
  have h1 : Ahead z32 (kyB 64) := ahead_of_byte key_zero ky64 0 (by omega) (fun j hj => by omega) (by decide)
  have h2 : Ahead (kyB 64) (kyB 128) := ahead_of_byte ky64 ky128 0 (by omega) (fun j hj => by omega) (by decide)
  have h3 : Ahead z32 (kyB 128) := ahead_of_byte key_zero ky128 0 (by omega) (fun j hj => by omega) (by decide)
  unfold E3
  refine List.Pairwise.cons (fun b hb => ?_) (List.Pairwise.cons (fun b hb => ?_) (List.pairwise_singleton _ _))
  · simp only [List.mem_cons, List.not_mem_nil, or_false] at hb
    rcases hb with rfl | rfl
    · exact h1
    · exact h3
  · simp only [List.mem_cons, List.not_mem_nil, or_false] at hb
    subst hb
    exact h2
theorem e3_of {cs : List (Nat × Ce)} {k root : Nat} {T : Tre} (W : Wf cs []) (f : FlI cs k root T E3) : T.ents = E3 := perm_rise (R := fun a b : Ent => Ahead a.1 b.1) (fun _ _ h h' => h.not h') _ _ f.ents (ents_rise W T root f.rt.tree) e3_rise
theorem e3_apart : E3.Pairwise fun x y => x.1 ≠ y.1 := e3_rise.imp (fun h e => by rw [e] at h; exact h.ne)
theorem e3_small : ∀ e ∈ E3, e.2.length ≤ 1024 := by
  intro e he
  simp only [E3, List.mem_cons, List.not_mem_nil, or_false] at he
  rcases he with rfl | rfl | rfl <;> decide
theorem e3_rank : ahd (kyB 128) E3 = 2 ∧ ahd z32 E3 = 0 := ⟨by kernel_rfl, by kernel_rfl⟩

structure Fw (w : World) (g : Nat) (cs : List (Nat × Ce)) (root : Nat) (T : Tre) : Prop where
  li : LiR w (some ⟨g, 0, none⟩) cs root T
  ents : T.ents = E3
theorem Fw.grow {w w' : World} {g root : Nat} {cs : List (Nat × Ce)} {T : Tre} (h : Fw w g cs root T) (hb : Below w.heap.size w w') : Fw w' g cs root T := ⟨h.li.grow hb, h.ents⟩

theorem filled3 {w : World} {g0 : Nat} {u0 u1 u2 : Value} (h : Th3 w g0 u0 u1 u2) (hL : Laid w) : Calls Tryz.prog 19 #[.slice (some ⟨g0, 0, none⟩) 3 3] w fun e w' => ∃ g cs root T, e = .returned (.tuple #[.pointer (some ⟨g, 0, none⟩), .int .i64 ((root : Nat) : Int), .bool true]) ∧ Fw w' g cs root T ∧ Below w.heap.size w w' := by
  refine (filled_any h.all (by decide) e3_apart e3_small hL).mono ?_
  rintro e w' ⟨g, gs, cs, fr, root, T, rfl, hH, hF⟩
  exact ⟨g, cs, root, T, rfl, ⟨hF.lir hH (by decide), e3_of hH.2 hF⟩, hH.low⟩

theorem wpList_ldw13 {ops : Array Oper} {rest : List Oper} {op : Oper} {a : Act} {Q : Exit → Act → World → Prop} (w : World) (hgd : Region.wanted op (yielded ops a.tmps) = true) (ty : TypeId) (x : Operand) (ho : op.op = .load ty x) (b off : Nat) (hx : a.eval x = .pointer (some ⟨b, off, none⟩)) (cs : List Value) (hc : w.rangeAt b off cs) (d : TypeDesc) (hu : Tryz.prog.underlying ty = some d) (hd : d.isRow = true) (hi : (Tryz.prog.info? ty).map (·.size) = some cs.length)
    (h : wpList Tryz.prog ops Q rest (a.put op.dst (.agg cs.toArray)) w) : wpList Tryz.prog ops Q (op :: rest) a w :=
  BigFrame.wpList_want hgd fun _ hK => wp_load_mid ty x ho b off hx cs d hc hu hd hi (hK _ _ h)
theorem wpList_bld13 {ops : Array Oper} {rest : List Oper} {op : Oper} {a : Act} {Q : Exit → Act → World → Prop} (w : World) (hgd : Region.wanted op (yielded ops a.tmps) = true) (ty : TypeId) (parts : Array (Nat × Operand)) (ho : op.op = .build ty parts)
    (cs : Array Value) (h : Tryz.prog.built ty (parts.map fun (i, x) => (i, a.eval x)).toList = some cs)
    (hk : wpList Tryz.prog ops Q rest (a.put op.dst (.agg cs)) w) : wpList Tryz.prog ops Q (op :: rest) a w := by
  refine BigFrame.wpList_want hgd fun K hK => ?_
  unfold Oper.wp
  rw [exec_blc op a ty parts ho cs h w]
  exact hK _ _ hk

theorem blk_key {w : World} {g : Nat} {K : List Int} {u : Value} (h : Blk w g 37 (encP K u).toArray) : w.rangeAt g 0 (B K).toList := fun j v hv => by
  rw [B_toList] at hv
  have hj : j < K.length := by
    have := (List.getElem?_eq_some_iff.1 hv).1
    simpa using this
  rw [Nat.zero_add, h.cell, List.getElem?_toArray, encP, List.getElem?_append_left (by simpa using hj)]
  exact hv
theorem blk_val {w : World} {g : Nat} {K : List Int} {u : Value} (h : Blk w g 37 (encP K u).toArray) (hK : K.length = 32) : w.cell? ⟨g, 32, none⟩ = some u := by
  rw [h.cell, List.getElem?_toArray, encP, List.getElem?_append_right (by simp [hK])]
  simp [hK]

set_option maxRecDepth 100000 in
set_option maxHeartbeats 4000000 in
theorem awake13_any (w : World) (hL : Laid w) : Calls Tryz.prog 17 #[] w fun e w' => e = .returned (.bool true) ∧ Below w.heap.size w w' := by
  have HTH : Hid (∀ w', Calls Tryz.prog 52 #[] w' fun e w'' => ∃ g u0 u1 u2, e = .returned (.slice (some ⟨g, 0, none⟩) 3 3) ∧ Th3 w'' g u0 u1 u2 ∧ Below w'.heap.size w' w'') := three_any
  have HLD : Hid (∀ w', Below w.heap.size w w' → Laid w') := fun w' hb => hL.grow hb
  have HB64 := hidden (built_ky 64)
  have HB128 := hidden (built_ky 128)
  have hE := path_eq (kyB 64) (kyB 64) ky64.1 ky64.1
  simp only [decide_true] at hE
  have HKL := hidden (pth_ln (kyB 64) ky64.1)
  have HSz : Hid (∀ u, (Tryz.prog.info? 37).map (·.size) = some (encP (kyB 64) u).toArray.size ∧ (encP z32 (.slice none 0 0)).toArray.size = (encP (kyB 64) u).toArray.size) := fun u => encP_sz ky64.1
  clear hL
  go_enter Tryz.func17, Tryz.ntmps17
  go_wp2_with (first
    | (go_at_call 52; refine (HTH.out _).mono ?_; rintro e w1 ⟨g0, u0, u1, u2, rfl, h3, b1⟩; have H3 := hidden h3; have HQ1 := hidden b1; clear h3 b1)
    | (go_at_call 19; refine (filled3 H3.out (HLD.out _ HQ1.out)).mono ?_; rintro e w2 ⟨g, cs, root, T, rfl, hF, b2⟩; have HF := hidden hF; have HQ2 := hidden (grow_trans HQ1.out b2); clear hF b2; have HCO : Hid (∀ w', Below w2.heap.size w2 w' → Calls Tryz.prog 9 #[.pointer (some ⟨g, 0, none⟩), .int .i64 (root : Int)] w' fun e w'' => e = .returned (.tuple #[.int .i64 3, .int .i64 0]) ∧ Below w'.heap.size w' w'') := (fun w' hb => by have := (HF.out.grow hb).li.count; rw [HF.out.ents] at this; exact this); have HRK : Hid (∀ w', Below w2.heap.size w2 w' → Calls Tryz.prog 10 #[.pointer (some ⟨g, 0, none⟩), .int .i64 (root : Int), .agg (B (kyB 128))] w' fun e w'' => e = .returned (.tuple #[.int .i64 2, .int .i64 0]) ∧ Below w'.heap.size w' w'') := (fun w' hb => by have := (HF.out.grow hb).li.rank (kyB 128) ky128; rw [HF.out.li.rkd _ ky128, HF.out.ents, e3_rank.1] at this; exact this); have HNT : Hid (∀ w', Below w2.heap.size w2 w' → Calls Tryz.prog 11 #[.pointer (some ⟨g, 0, none⟩), .int .i64 (root : Int), .int .i64 1] w' fun e w'' => ∃ a c, e = .returned (.tuple #[.agg (encP (kyB 64) (.slice a 1 c)).toArray, .int .i64 0]) ∧ Reads w'' (.slice a 1 c) [98] ∧ Below w'.heap.size w' w'') := (fun w' hb => nth_any (HF.out.grow hb).li 1 (kyB 64) [98] (by rw [HF.out.ents]; rfl)); have HAL : Hid (∀ w', Below w2.heap.size w2 w' → Calls Tryz.prog 15 #[.pointer (some ⟨g, 0, none⟩), .int .i64 (root : Int)] w' (OvPost w' E3)) := (fun w' hb => by have := all_any (HF.out.grow hb).li; rw [HF.out.ents] at this; exact this))
    | (go_at_call 9; refine (HCO.out _ (Below.refl _ _)).mono ?_; rintro e w3 ⟨rfl, b3⟩; have HQ3 := hidden b3; clear b3)
    | ((with_reducible refine at_bdd 25 ?_); refine wpList_bld _ rfl _ _ rfl _ (by rw [List.map_toArray]; exact HB128.out) ?_)
    | (go_at_call 10; refine (HRK.out _ HQ3.out).mono ?_; rintro e w4 ⟨rfl, b4⟩; have HQ4 := hidden (grow_trans HQ3.out b4); clear b4)
    | (go_at_call 11; refine (HNT.out _ HQ4.out).mono ?_; rintro e w5 ⟨a5, c5, rfl, hr5, b5⟩; have HR5 := hidden hr5; have HQ5 := hidden (grow_trans HQ4.out b5); clear b5 hr5)
    | ((with_reducible refine at_ald 8 ?_); refine wpList_al _ rfl _ rfl _ zero_pair ?_; intro w6 g8 hg8 hl8 B8 b6; have HB8 := hidden B8; have HG8 : Hid (w5.heap.size ≤ g8) := hg8; have HQ56 := hidden b6; clear B8 hg8 hl8 b6)
    | ((with_reducible refine at_st 8 ?_); refine wpList_sto _ rfl _ _ _ rfl g8 _ (encP (kyB 64) (.slice a5 1 c5)).toArray rfl rfl HB8.out (HSz.out _).1 (HSz.out _).2 (encP_one _ _ _ _) ?_; intro w7 B9 r9; have HB9 := hidden B9; have HQ57 := hidden (below_row HQ56.out r9 HG8.out); have HQ7 := hidden (grow_trans HQ5.out HQ57.out); have c32 : w7.cell? ⟨g8, 32, none⟩ = some (.slice a5 1 c5) := blk_val HB9.out ky64.1; have hcv : (convert 35 9 (.slice a5 1 c5)).run Tryz.prog w7 = .ok (.string { data := #[98] }) w7 := conv_reads (HR5.out.grow HQ57.out); clear B9 r9)
    | (refine wpList_ldw13 _ rfl 23 (.tmp 53) rfl g8 0 rfl (B (kyB 64)).toList (blk_key HB9.out) _ Tryz.underlying23 rfl HKL.out ?_; rw [show (B (kyB 64)).toList.toArray = B (kyB 64) from Array.toArray_toList])
    | ((with_reducible refine at_bdd 55 ?_); refine wpList_bld13 _ rfl _ _ rfl _ (by rw [List.map_toArray]; exact HB64.out) ?_)
    | (go_at_call 15; refine (HAL.out _ HQ7.out).mono ?_; rintro e w8 ⟨b8, rfl, _, hO, q8⟩; have HO8 := hidden hO; have HQ8 := hidden (grow_trans HQ7.out q8); clear hO q8)
    | (go_at_call 14; refine (gone13_any (HO8.out.grow HQ1.out) (by decide) (fun e he => Nat.le_trans (e3_small e he) (by omega)) _ _ _ H3.out.all 0).mono ?_; rintro e w9 ⟨rfl, b9⟩; have HQ9 := hidden b9; clear b9))
  go_ret
  exact ⟨rfl, grow_trans (grow_trans (grow_trans HQ2.out HQ8.out) HQ1.out) HQ9.out⟩

end Go.Proofs.YtlhnodinhmdjnaaGreatDoor
