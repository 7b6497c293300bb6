/- walk.Find and walk.Depth, as contracts. -/
import Derived.Test.YtgfdgjkbcdmboabGreatDoorLk31
import Derived.Test.YtgfdgjkbcdmboabGreatDoorLk09
import Derived.Test.YtgfdgjkbcdmboabGreatDoorLk30
namespace Go.Proofs.YtgfdgjkbcdmboabGreatDoor
set_option maxRecDepth 20000
open Go.RowKit

/-- The nodes of a way, one by one: its sides, and where it goes on. -/
structure HsAt1 (cs : List (Nat × Ce)) (K : List Int) (hs : List Nat) (fin : Nat) (oth : List Nat) (d k x : Nat) : Prop where
  at_ : hs[k]? = some x
  pos : 1 ≤ x
  occ : 0 < cc cs (x - 1)
  kind : (ce cs (x - 1)).kind = 2
  dp : (ce cs (x - 1)).dp = d + k
  lt : d + k < 256
  oth_ : oth[k]? = some (if kb K (d + k) = 1 then (ce cs (x - 1)).l else (ce cs (x - 1)).r)
  next : (hs ++ [fin])[k + 1]? = some (if kb K (d + k) = 1 then (ce cs (x - 1)).r else (ce cs (x - 1)).l)

theorem hs_head (K : List Int) : ∀ (T : Tre) (h : Nat), (T.hs K h ++ [T.fin K h])[0]? = some h
  | .emp, _ => rfl
  | .lf _ _, _ => rfl
  | .nd _ _ _ _ _, _ => rfl

theorem hs_at {cs : List (Nat × Ce)} {pend : List Nat} (w : Wf cs pend) (K : List Int) : ∀ (T : Tre) (h d : Nat), IsT cs h T → ((sdC cs h).kind = 2 → (sdC cs h).dp = d) → ∀ k, k < (T.hs K h).length → ∃ x, HsAt1 cs K (T.hs K h) (T.fin K h) (T.oth K) d k x
  | .emp, h, d, _, _, k, hk => by simp [Tre.hs] at hk
  | .lf _ _, h, d, _, _, k, hk => by simp [Tre.hs] at hk
  | .nd d hl hr L R, h, d', hT, hd, k, hk => by
    have n := nd_ok w hT
    obtain ⟨h1, h2, h3, h4, h5, h6, h7, h8⟩ := hT
    have es : sdC cs h = ce cs (h - 1) := if_neg (by omega)
    obtain rfl : d = d' := by
      rw [es] at hd
      rw [← h4]
      exact hd h3
    have hdp := n.dp
    cases k with
    | zero =>
      refine ⟨h, rfl, h1, h2, h3, h4, by omega, ?_, ?_⟩
      · rw [Nat.add_zero, h5, h6]
        simp only [Tre.oth]
        split <;> rfl
      · simp only [Nat.add_zero, h5, h6, Tre.hs, Tre.fin]
        by_cases q : kb K d = 1
        · rw [if_pos q, if_pos q, if_pos q, List.cons_append, List.getElem?_cons_succ]
          exact hs_head K R hr
        · rw [if_neg q, if_neg q, if_neg q, List.cons_append, List.getElem?_cons_succ]
          exact hs_head K L hl
    | succ k =>
      by_cases q : kb K d = 1
      · have e1 : Tre.hs K h (.nd d hl hr L R) = h :: R.hs K hr := by simp [Tre.hs, q]
        have e2 : Tre.fin K h (.nd d hl hr L R) = R.fin K hr := by simp [Tre.fin, q]
        have e3 : Tre.oth K (.nd d hl hr L R) = hl :: R.oth K := by simp [Tre.oth, q]
        rw [e1, List.length_cons] at hk
        obtain ⟨x, b1, b2, b3, b4, b5, b6, b7, b8⟩ := hs_at w K R hr (d + 1) h8 n.kr k (by omega)
        have e4 : d + 1 + k = d + (k + 1) := by omega
        rw [e4] at b5 b6 b7 b8
        rw [e1, e2, e3]
        exact ⟨x, by rw [List.getElem?_cons_succ]; exact b1, b2, b3, b4, b5, b6, by rw [List.getElem?_cons_succ]; exact b7, by rw [List.cons_append, List.getElem?_cons_succ]; exact b8⟩
      · have e1 : Tre.hs K h (.nd d hl hr L R) = h :: L.hs K hl := by simp [Tre.hs, q]
        have e2 : Tre.fin K h (.nd d hl hr L R) = L.fin K hl := by simp [Tre.fin, q]
        have e3 : Tre.oth K (.nd d hl hr L R) = hr :: L.oth K := by simp [Tre.oth, q]
        rw [e1, List.length_cons] at hk
        obtain ⟨x, b1, b2, b3, b4, b5, b6, b7, b8⟩ := hs_at w K L hl (d + 1) h7 n.kl k (by omega)
        have e4 : d + 1 + k = d + (k + 1) := by omega
        rw [e4] at b5 b6 b7 b8
        rw [e1, e2, e3]
        exact ⟨x, by rw [List.getElem?_cons_succ]; exact b1, b2, b3, b4, b5, b6, by rw [List.getElem?_cons_succ]; exact b7, by rw [List.cons_append, List.getElem?_cons_succ]; exact b8⟩

/-- A root is one at depth 0. -/
theorem root_dp {cs : List (Nat × Ce)} {h : Nat} {T : Tre} (hT : IsT cs h T) (he : vRt true (cot cs h) (cat cs h) h = 0) : (sdC cs h).kind = 2 → (sdC cs h).dp = 0 := fun k => by
  rw [← cat_nat] at k ⊢
  have h0 : ¬ (h : Int) = 0 := fun e => by
    have : h = 0 := by omega
    subst this
    exact absurd k (by show ¬ zc.kind = 2; decide)
  have hc : ¬ cot cs (h : Int) = 0 := by
    match T, hT with
    | .emp, e => exact absurd (show ((h : Nat) : Int) = 0 by rw [show h = 0 from e]; rfl) h0
    | .lf _ _, ⟨h1, h2, _⟩ => rw [cot, if_pos (by omega), show ((h : Int) - 1).toNat = h - 1 by omega]; omega
    | .nd _ _ _ _ _, ⟨h1, h2, _⟩ => rw [cot, if_pos (by omega), show ((h : Int) - 1).toNat = h - 1 by omega]; omega
  unfold vRt at he
  rw [if_pos rfl, if_neg h0, if_neg hc] at he
  by_cases q : 0 < vDp true (cat cs (h : Int))
  · rw [if_pos q] at he
    omega
  · unfold vDp at q
    rw [if_pos rfl, if_pos k] at q
    omega

/-- What Find tells of the entry with which the way ends. -/
def fnd (l : List Ent) (K : List Int) : List Int × Bool := match l with
  | [e] => if e.1 = K then (e.2, true) else ([], false)
  | _ => ([], false)
def FdPost (r : List Int × Bool) (w : World) (e : Ending) (w' : World) : Prop :=
  ∃ v' sp, e = .returned (.tuple #[v', .bool r.2, .int .i64 0]) ∧ Own w.heap.size w' v' r.1 sp ∧ Below w.heap.size w w'

set_option maxHeartbeats 1000000 in
theorem find_bad {w : World} {v : Value} {mk : Bool} {ct : Int → Nat} {ca : Int → Ce} (V : Vw w v mk ct ca) (h : Int) (K : List Int) (hK : Key K) (e0 : Int) (he : vRt mk (ct h) (ca h) h = e0) (h0 : e0 ≠ 0) : Calls Tryz.prog 127 #[v, .int .i64 h, .agg (B K)] w fun e w' => e = .returned (.tuple #[.slice none 0 0, .bool false, .int .i64 e0]) ∧ Below w.heap.size w w' := by
  have HHD : Hid (∀ w', Below w.heap.size w w' → Calls Tryz.prog 129 #[v, .int .i64 h, .agg (B K)] w' fun e w'' => e = .returned (.tuple #[.slice none 0 0, .int .i64 0, .int .i64 e0]) ∧ Below w'.heap.size w' w'') := fun w' hb => handles_bad (V.grow hb) h K e0 he h0
  have HPS : Hid ((Tryz.prog.info? 24).map (·.size) = some (B K).size) := by show _ = _; rw [B_size, hK.1]; exact size_path
  have hb0 : (e0 == 0) = false := by simp [h0]
  clear V he hK
  go_enter Tryz.func127, Tryz.ntmps127
  go_wp2_with (first
    | ((with_reducible refine at_bxd 5 ?_); refine wpList_bx _ rfl _ _ rfl _ rfl ?_; intro w1 b5 hg5 hl5 B5 q5; have HB5 := hidden B5; have HQ5 := hidden q5; clear hg5 hl5 B5 q5)
    | ((with_reducible refine at_ldd 14 5 ?_); refine wpList_ld _ rfl _ _ rfl b5 _ rfl HB5.out _ _ Tryz.underlying24 HPS.out ?_)
    | (go_at_call 129; refine (HHD.out _ HQ5.out).mono ?_; rintro e w2 ⟨rfl, b2⟩; have HQ2 := hidden (grow_trans HQ5.out b2); clear b2))
  refine wp_region_held_drew (S := fun w' => Below w2.heap.size w2 w') (by kernel_rfl) ((below_drewN (Below.refl _ _) 1)) (fun hHeld => ?_)
  refine wpAnyH_take (i := 0) (v := .int .i64 e0) rfl (by kernel_rfl) (by kernel_rfl) (by kernel_rfl) (fun _ _ _ h => h) (Or.inl ⟨by rfl, fun w hS => by go_simp⟩) hHeld ?_
  simp only [Act.put, List.getElem_toArray, List.getElem_cons_zero, List.setIfInBounds_toArray, List.set_cons_zero, List.set_cons_succ]
  refine wpAnyH_take (i := 1) (v := .bool true) rfl (by kernel_rfl) (by kernel_rfl) (by kernel_rfl) (fun _ _ _ h => h) (Or.inl ⟨by rfl, fun w hS => by go_simp⟩) hHeld ?_
  simp only [Act.put, List.getElem_toArray, List.getElem_cons_zero, List.getElem_cons_succ, List.setIfInBounds_toArray, List.set_cons_zero, List.set_cons_succ]
  refine wpAnyH_take (i := 2) (v := .bool true) rfl (by kernel_rfl) (by kernel_rfl) (by kernel_rfl) (fun _ _ _ h => h) (Or.inl ⟨by rfl, fun w hS => by go_simp⟩) hHeld ?_
  simp only [Act.put, List.getElem_toArray, List.getElem_cons_zero, List.getElem_cons_succ, List.setIfInBounds_toArray, List.set_cons_zero, List.set_cons_succ]
  refine wpAnyH_take (i := 3) (v := undef) rfl (by kernel_rfl) (by kernel_rfl) (by kernel_rfl) (fun _ _ _ h => h) (Or.inr ⟨by rfl, rfl⟩) hHeld ?_
  simp only [Act.put, List.getElem_toArray, List.getElem_cons_zero, List.getElem_cons_succ, List.setIfInBounds_toArray, List.set_cons_zero, List.set_cons_succ]
  refine wpAnyH_take (i := 4) (v := undef) rfl (by kernel_rfl) (by kernel_rfl) (by kernel_rfl) (fun _ _ _ h => h) (Or.inr ⟨by rfl, rfl⟩) hHeld ?_
  simp only [Act.put, List.getElem_toArray, List.getElem_cons_zero, List.getElem_cons_succ, List.setIfInBounds_toArray, List.set_cons_zero, List.set_cons_succ]
  refine wpAnyH_take (i := 5) (v := undef) rfl (by kernel_rfl) (by kernel_rfl) (by kernel_rfl) (fun _ _ _ h => h) (Or.inr ⟨by rfl, rfl⟩) hHeld ?_
  simp only [Act.put, List.getElem_toArray, List.getElem_cons_zero, List.getElem_cons_succ, List.setIfInBounds_toArray, List.set_cons_zero, List.set_cons_succ]
  refine wpAnyH_take (i := 6) (v := undef) rfl (by kernel_rfl) (by kernel_rfl) (by kernel_rfl) (fun _ _ _ h => h) (Or.inr ⟨by rfl, rfl⟩) hHeld ?_
  simp only [Act.put, List.getElem_toArray, List.getElem_cons_zero, List.getElem_cons_succ, List.setIfInBounds_toArray, List.set_cons_zero, List.set_cons_succ]
  refine wpAnyH_take (i := 7) (v := .bool true) rfl (by kernel_rfl) (by kernel_rfl) (by kernel_rfl) (fun _ _ _ h => h) (Or.inl ⟨by rfl, fun w hS => by go_simp⟩) hHeld ?_
  simp only [Act.put, List.getElem_toArray, List.getElem_cons_zero, List.getElem_cons_succ, List.setIfInBounds_toArray, List.set_cons_zero, List.set_cons_succ]
  refine wpAnyH_take (i := 8) (v := .bool true) rfl (by kernel_rfl) (by kernel_rfl) (by kernel_rfl) (fun _ _ _ h => h) (Or.inl ⟨by rfl, fun w hS => by go_simp⟩) hHeld ?_
  simp only [Act.put, List.getElem_toArray, List.getElem_cons_zero, List.getElem_cons_succ, List.setIfInBounds_toArray, List.set_cons_zero, List.set_cons_succ]
  refine wpAnyH_take (i := 9) (v := undef) rfl (by kernel_rfl) (by kernel_rfl) (by kernel_rfl) (fun _ _ _ h => h) (Or.inr ⟨by rfl, rfl⟩) hHeld ?_
  simp only [Act.put, List.getElem_toArray, List.getElem_cons_zero, List.getElem_cons_succ, List.setIfInBounds_toArray, List.set_cons_zero, List.set_cons_succ]
  refine wpAnyH_take (i := 10) (v := undef) rfl (by kernel_rfl) (by kernel_rfl) (by kernel_rfl) (fun _ _ _ h => h) (Or.inr ⟨by rfl, rfl⟩) hHeld ?_
  simp only [Act.put, List.getElem_toArray, List.getElem_cons_zero, List.getElem_cons_succ, List.setIfInBounds_toArray, List.set_cons_zero, List.set_cons_succ]
  refine wpAnyH_take (i := 11) (v := undef) rfl (by kernel_rfl) (by kernel_rfl) (by kernel_rfl) (fun _ _ _ h => h) (Or.inr ⟨by rfl, rfl⟩) hHeld ?_
  simp only [Act.put, List.getElem_toArray, List.getElem_cons_zero, List.getElem_cons_succ, List.setIfInBounds_toArray, List.set_cons_zero, List.set_cons_succ]
  refine wpAnyH_take (i := 12) (v := undef) rfl (by kernel_rfl) (by kernel_rfl) (by kernel_rfl) (fun _ _ _ h => h) (Or.inr ⟨by rfl, rfl⟩) hHeld ?_
  simp only [Act.put, List.getElem_toArray, List.getElem_cons_zero, List.getElem_cons_succ, List.setIfInBounds_toArray, List.set_cons_zero, List.set_cons_succ]
  refine wpAnyH_take (i := 13) (v := undef) rfl (by kernel_rfl) (by kernel_rfl) (by kernel_rfl) (fun _ _ _ h => h) (Or.inr ⟨by rfl, rfl⟩) hHeld ?_
  simp only [Act.put, List.getElem_toArray, List.getElem_cons_zero, List.getElem_cons_succ, List.setIfInBounds_toArray, List.set_cons_zero, List.set_cons_succ]
  refine wpAnyH_take (i := 14) (v := .bool true) rfl (by kernel_rfl) (by kernel_rfl) (by kernel_rfl) (fun _ _ _ h => h) (Or.inl ⟨by rfl, fun w hS => by go_simp⟩) hHeld ?_
  simp only [Act.put, List.getElem_toArray, List.getElem_cons_zero, List.getElem_cons_succ, List.setIfInBounds_toArray, List.set_cons_zero, List.set_cons_succ]
  refine wpAnyH_done (by kernel_rfl) ?_ _
  go_wp2
  go_ret3
  exact ⟨rfl, grow_trans HQ2.out hHeld⟩

set_option maxHeartbeats 2000000 in
theorem find_any {w : World} {v : Value} {cs : List (Nat × Ce)} {pend : List Nat} (V : Vw w v true (cot cs) (cat cs)) (W : Wf cs pend) (h : Nat) (T : Tre) (hT : IsT cs h T) (K : List Int) (hK : Key K) (he : vRt true (cot cs h) (cat cs h) h = 0) : Calls Tryz.prog 127 #[v, .int .i64 (h : Int), .agg (B K)] w (FdPost (fnd (T.efin K) K) w) := by
  have HHD : Hid (∀ w', Below w.heap.size w w' → Calls Tryz.prog 129 #[v, .int .i64 (h : Int), .agg (B K)] w' (HdPost (T.hs K h) (T.fin K h) w')) := fun w' hb => handles_any (V.grow hb) W h T hT K hK he
  have HPL := hidden (pth_ln K hK.1)
  have HPS : Hid ((Tryz.prog.info? 24).map (·.size) = some (B K).size) := by show _ = _; rw [B_size, hK.1]; exact size_path
  have hfin := fin_is K T h hT
  have HV := hidden V
  obtain ⟨hs, hhs⟩ : ∃ l, l = T.hs K h := ⟨_, rfl⟩
  rw [← hhs] at HHD
  obtain ⟨x, hx⟩ : ∃ x, x = T.fin K h := ⟨_, rfl⟩
  rw [← hx] at HHD hfin
  obtain ⟨hh, hhe⟩ : ∃ y : Int, y = (h : Int) := ⟨_, rfl⟩
  rw [← hhe] at HHD
  rw [← hhe]
  have HKL := hidden hK.1
  clear V W hT he hhs hx hK
  generalize HFE : (x : Int) = y at HHD
  have HFY := hidden HFE
  clear HFE
  rcases hfin with ⟨hx0, hf⟩ | ⟨k, b, hf, h1, h2, h3, h4, h5⟩
  · rw [hf]
    have HKD : Hid (∀ w', Below w.heap.size w w' → Calls Tryz.prog 57 #[v, .int .i64 y] w' fun e w'' => e = .returned (.int .u8 0) ∧ Below w'.heap.size w' w'') := fun w' hb => by
      have := kind_any (HV.out.grow hb) y
      rwa [show (cat cs y).kind = 0 by rw [← HFY.out, hx0]; rfl] at this
    have HPost : Hid (∀ w', Below w.heap.size w w' → FdPost (fnd [] K) w (.returned (.tuple #[.slice none 0 0, .bool false, .int .i64 0])) w') := fun w' hb => ⟨_, [], rfl, Own.nil _ _, hb⟩
    generalize FdPost (fnd [] K) w = P at HPost ⊢
    clear hf HV hhe hx0 HFY
    go_enter Tryz.func127, Tryz.ntmps127
    go_wp2_with (first
      | ((with_reducible refine at_bxd 5 ?_); refine wpList_bx _ rfl _ _ rfl _ rfl ?_; intro w1 b5 hg5 hl5 B5 q5; have HB5 := hidden B5; have HQ5 := hidden q5; clear hg5 hl5 B5 q5)
      | ((with_reducible refine at_ldd 14 5 ?_); refine wpList_ld _ rfl _ _ rfl b5 _ rfl HB5.out _ _ Tryz.underlying24 HPS.out ?_)
      | (go_at_call 129; refine (HHD.out _ HQ5.out).mono ?_; rintro e w2 ⟨a2, c2, rfl, o2, b2⟩; have HB52 := hidden (HB5.out.grow b2); have HQ2 := hidden (grow_trans HQ5.out b2); clear b2 o2))
    refine wp_region_held_drew (S := fun w' => Below w2.heap.size w2 w') (by kernel_rfl) ((below_drewN (Below.refl _ _) 1)) (fun hHeld => ?_)
    refine wpAnyH_take (i := 0) (v := .int .i64 0) rfl (by kernel_rfl) (by kernel_rfl) (by kernel_rfl) (fun _ _ _ h => h) (Or.inl ⟨by rfl, fun w hS => by go_simp⟩) hHeld ?_
    simp only [Act.put, List.getElem_toArray, List.getElem_cons_zero, List.setIfInBounds_toArray, List.set_cons_zero, List.set_cons_succ]
    refine wpAnyH_take (i := 1) (v := .bool false) rfl (by kernel_rfl) (by kernel_rfl) (by kernel_rfl) (fun _ _ _ h => h) (Or.inl ⟨by rfl, fun w hS => by go_simp⟩) hHeld ?_
    simp only [Act.put, List.getElem_toArray, List.getElem_cons_zero, List.getElem_cons_succ, List.setIfInBounds_toArray, List.set_cons_zero, List.set_cons_succ]
    refine wpAnyH_take (i := 2) (v := .bool false) rfl (by kernel_rfl) (by kernel_rfl) (by kernel_rfl) (fun _ _ _ h => h) (Or.inl ⟨by rfl, fun w hS => by go_simp⟩) hHeld ?_
    simp only [Act.put, List.getElem_toArray, List.getElem_cons_zero, List.getElem_cons_succ, List.setIfInBounds_toArray, List.set_cons_zero, List.set_cons_succ]
    refine wpAnyH_take (i := 3) (v := v) rfl (by kernel_rfl) (by kernel_rfl) (by kernel_rfl) (fun _ _ _ h => h) (Or.inl ⟨by rfl, fun w hS => by go_simp⟩) hHeld ?_
    simp only [Act.put, List.getElem_toArray, List.getElem_cons_zero, List.getElem_cons_succ, List.setIfInBounds_toArray, List.set_cons_zero, List.set_cons_succ]
    refine wpAnyH_take (i := 4) (v := .int .i64 y) rfl (by kernel_rfl) (by kernel_rfl) (by kernel_rfl) (fun _ _ _ h => h) (Or.inl ⟨by rfl, fun w hS => by go_simp⟩) hHeld ?_
    simp only [Act.put, List.getElem_toArray, List.getElem_cons_zero, List.getElem_cons_succ, List.setIfInBounds_toArray, List.set_cons_zero, List.set_cons_succ]
    refine wpAnyH_ready (rs := [5]) (by kernel_rfl) (by simp) ?_
    refine AllReadyH.cons rfl (fun KQ hK => ?_) AllReadyH.nil
    go_simp
    refine (HKD.out _ (grow_trans HQ2.out hHeld)).mono ?_
    rintro e z1 ⟨rfl, a1⟩
    refine hK.out _ _ (grow_trans hHeld a1) (fun hHeld => ?_)
    clear hK KQ
    refine wpAnyH_take (i := 6) (v := .bool true) rfl (by kernel_rfl) (by kernel_rfl) (by kernel_rfl) (fun _ _ _ h => h) (Or.inl ⟨by rfl, fun w hS => by go_simp⟩) hHeld ?_
    simp only [Act.put, List.getElem_toArray, List.getElem_cons_zero, List.getElem_cons_succ, List.setIfInBounds_toArray, List.set_cons_zero, List.set_cons_succ]
    refine wpAnyH_take (i := 7) (v := .bool true) rfl (by kernel_rfl) (by kernel_rfl) (by kernel_rfl) (fun _ _ _ h => h) (Or.inl ⟨by rfl, fun w hS => by go_simp⟩) hHeld ?_
    simp only [Act.put, List.getElem_toArray, List.getElem_cons_zero, List.getElem_cons_succ, List.setIfInBounds_toArray, List.set_cons_zero, List.set_cons_succ]
    refine wpAnyH_take (i := 8) (v := .bool true) rfl (by kernel_rfl) (by kernel_rfl) (by kernel_rfl) (fun _ _ _ h => h) (Or.inl ⟨by rfl, fun w hS => by go_simp⟩) hHeld ?_
    simp only [Act.put, List.getElem_toArray, List.getElem_cons_zero, List.getElem_cons_succ, List.setIfInBounds_toArray, List.set_cons_zero, List.set_cons_succ]
    refine wpAnyH_take (i := 9) (v := undef) rfl (by kernel_rfl) (by kernel_rfl) (by kernel_rfl) (fun _ _ _ h => h) (Or.inr ⟨by rfl, rfl⟩) hHeld ?_
    simp only [Act.put, List.getElem_toArray, List.getElem_cons_zero, List.getElem_cons_succ, List.setIfInBounds_toArray, List.set_cons_zero, List.set_cons_succ]
    refine wpAnyH_take (i := 10) (v := undef) rfl (by kernel_rfl) (by kernel_rfl) (by kernel_rfl) (fun _ _ _ h => h) (Or.inr ⟨by rfl, rfl⟩) hHeld ?_
    simp only [Act.put, List.getElem_toArray, List.getElem_cons_zero, List.getElem_cons_succ, List.setIfInBounds_toArray, List.set_cons_zero, List.set_cons_succ]
    refine wpAnyH_take (i := 11) (v := undef) rfl (by kernel_rfl) (by kernel_rfl) (by kernel_rfl) (fun _ _ _ h => h) (Or.inr ⟨by rfl, rfl⟩) hHeld ?_
    simp only [Act.put, List.getElem_toArray, List.getElem_cons_zero, List.getElem_cons_succ, List.setIfInBounds_toArray, List.set_cons_zero, List.set_cons_succ]
    refine wpAnyH_take (i := 12) (v := undef) rfl (by kernel_rfl) (by kernel_rfl) (by kernel_rfl) (fun _ _ _ h => h) (Or.inr ⟨by rfl, rfl⟩) hHeld ?_
    simp only [Act.put, List.getElem_toArray, List.getElem_cons_zero, List.getElem_cons_succ, List.setIfInBounds_toArray, List.set_cons_zero, List.set_cons_succ]
    refine wpAnyH_take (i := 13) (v := undef) rfl (by kernel_rfl) (by kernel_rfl) (by kernel_rfl) (fun _ _ _ h => h) (Or.inr ⟨by rfl, rfl⟩) hHeld ?_
    simp only [Act.put, List.getElem_toArray, List.getElem_cons_zero, List.getElem_cons_succ, List.setIfInBounds_toArray, List.set_cons_zero, List.set_cons_succ]
    refine wpAnyH_take (i := 14) (v := .bool true) rfl (by kernel_rfl) (by kernel_rfl) (by kernel_rfl) (fun _ _ _ h => h) (Or.inl ⟨by rfl, fun w hS => by go_simp⟩) hHeld ?_
    simp only [Act.put, List.getElem_toArray, List.getElem_cons_zero, List.getElem_cons_succ, List.setIfInBounds_toArray, List.set_cons_zero, List.set_cons_succ]
    refine wpAnyH_done (by kernel_rfl) ?_ _
    go_wp2
    go_ret3
    exact HPost.out _ (grow_trans HQ2.out hHeld)
  · rw [hf]
    have hca : cat cs y = ce cs (x - 1) := by rw [← HFY.out]; exact cat_is h1
    have HKD : Hid (∀ w', Below w.heap.size w w' → Calls Tryz.prog 57 #[v, .int .i64 y] w' fun e w'' => e = .returned (.int .u8 1) ∧ Below w'.heap.size w' w'') := fun w' hb => by
      have := kind_any (HV.out.grow hb) y
      rwa [show (cat cs y).kind = 1 by rw [hca]; exact h3] at this
    have HKY : Hid (∀ w', Below w.heap.size w w' → Calls Tryz.prog 61 #[v, .int .i64 y] w' fun e w'' => e = .returned (.agg (B k)) ∧ Below w'.heap.size w' w'') := fun w' hb => by
      have := key_any (HV.out.grow hb) y
      rwa [show (cat cs y).key = k by rw [hca]; exact h4] at this
    have HVA : Hid (∀ w', Below w.heap.size w w' → Calls Tryz.prog 85 #[v, .int .i64 y] w' fun e w'' => ∃ v' sp, e = .returned v' ∧ Own w'.heap.size w'' v' b sp ∧ Below w'.heap.size w' w'') := fun w' hb => by
      have := valueS_any (HV.out.grow hb) y
      rwa [show (cat cs y).bs = b by rw [hca]; exact h5] at this
    have hkl : k.length = 32 := by have := (HV.out.ok y).hk.1; rwa [hca, h4] at this
    have hE := path_eq k K hkl HKL.out
    by_cases hq : k = K
    · have HPost : Hid (∀ w' v' sp, Own w.heap.size w' v' b sp → Below w.heap.size w w' → FdPost (fnd [(k, b)] K) w (.returned (.tuple #[v', .bool true, .int .i64 0])) w') := fun w' v' sp ho hb => ⟨v', sp, by simp [fnd, hq], by simpa [fnd, hq] using ho, hb⟩
      generalize FdPost (fnd [(k, b)] K) w = P at HPost ⊢
      simp only [hq, decide_true] at hE
      rw [hq] at HKY
      clear hf HV hhe HFY hca h1 h2 h3 h4 h5 hkl hq
      go_enter Tryz.func127, Tryz.ntmps127
      go_wp2_with (first
        | ((with_reducible refine at_bxd 5 ?_); refine wpList_bx _ rfl _ _ rfl _ rfl ?_; intro w1 b5 hg5 hl5 B5 q5; have HB5 := hidden B5; have HQ5 := hidden q5; clear hg5 hl5 B5 q5)
        | ((with_reducible refine at_ldd 14 5 ?_); refine wpList_ld _ rfl _ _ rfl b5 _ rfl HB5.out _ _ Tryz.underlying24 HPS.out ?_)
        | (go_at_call 129; refine (HHD.out _ HQ5.out).mono ?_; rintro e w2 ⟨a2, c2, rfl, o2, b2⟩; have HB52 := hidden (HB5.out.grow b2); have HQ2 := hidden (grow_trans HQ5.out b2); clear b2 o2))
      refine wp_region_held_drew (S := fun w' => Below w2.heap.size w2 w') (by kernel_rfl) ((below_drewN (Below.refl _ _) 1)) (fun hHeld => ?_)
      refine wpAnyH_take (i := 0) (v := .int .i64 0) rfl (by kernel_rfl) (by kernel_rfl) (by kernel_rfl) (fun _ _ _ h => h) (Or.inl ⟨by rfl, fun w hS => by go_simp⟩) hHeld ?_
      simp only [Act.put, List.getElem_toArray, List.getElem_cons_zero, List.setIfInBounds_toArray, List.set_cons_zero, List.set_cons_succ]
      refine wpAnyH_take (i := 1) (v := .bool false) rfl (by kernel_rfl) (by kernel_rfl) (by kernel_rfl) (fun _ _ _ h => h) (Or.inl ⟨by rfl, fun w hS => by go_simp⟩) hHeld ?_
      simp only [Act.put, List.getElem_toArray, List.getElem_cons_zero, List.getElem_cons_succ, List.setIfInBounds_toArray, List.set_cons_zero, List.set_cons_succ]
      refine wpAnyH_take (i := 2) (v := .bool false) rfl (by kernel_rfl) (by kernel_rfl) (by kernel_rfl) (fun _ _ _ h => h) (Or.inl ⟨by rfl, fun w hS => by go_simp⟩) hHeld ?_
      simp only [Act.put, List.getElem_toArray, List.getElem_cons_zero, List.getElem_cons_succ, List.setIfInBounds_toArray, List.set_cons_zero, List.set_cons_succ]
      refine wpAnyH_take (i := 3) (v := v) rfl (by kernel_rfl) (by kernel_rfl) (by kernel_rfl) (fun _ _ _ h => h) (Or.inl ⟨by rfl, fun w hS => by go_simp⟩) hHeld ?_
      simp only [Act.put, List.getElem_toArray, List.getElem_cons_zero, List.getElem_cons_succ, List.setIfInBounds_toArray, List.set_cons_zero, List.set_cons_succ]
      refine wpAnyH_take (i := 4) (v := .int .i64 y) rfl (by kernel_rfl) (by kernel_rfl) (by kernel_rfl) (fun _ _ _ h => h) (Or.inl ⟨by rfl, fun w hS => by go_simp⟩) hHeld ?_
      simp only [Act.put, List.getElem_toArray, List.getElem_cons_zero, List.getElem_cons_succ, List.setIfInBounds_toArray, List.set_cons_zero, List.set_cons_succ]
      refine wpAnyH_ready (rs := [5]) (by kernel_rfl) (by simp) ?_
      refine AllReadyH.cons rfl (fun KQ hK => ?_) AllReadyH.nil
      go_simp
      refine (HKD.out _ (grow_trans HQ2.out hHeld)).mono ?_
      rintro e z1 ⟨rfl, a1⟩
      refine hK.out _ _ (grow_trans hHeld a1) (fun hHeld => ?_)
      clear hK KQ
      refine wpAnyH_take (i := 6) (v := .bool false) rfl (by kernel_rfl) (by kernel_rfl) (by kernel_rfl) (fun _ _ _ h => h) (Or.inl ⟨by rfl, fun w hS => by go_simp⟩) hHeld ?_
      simp only [Act.put, List.getElem_toArray, List.getElem_cons_zero, List.getElem_cons_succ, List.setIfInBounds_toArray, List.set_cons_zero, List.set_cons_succ]
      refine wpAnyH_take (i := 7) (v := .bool false) rfl (by kernel_rfl) (by kernel_rfl) (by kernel_rfl) (fun _ _ _ h => h) (Or.inl ⟨by rfl, fun w hS => by go_simp⟩) hHeld ?_
      simp only [Act.put, List.getElem_toArray, List.getElem_cons_zero, List.getElem_cons_succ, List.setIfInBounds_toArray, List.set_cons_zero, List.set_cons_succ]
      refine wpAnyH_take (i := 8) (v := .bool false) rfl (by kernel_rfl) (by kernel_rfl) (by kernel_rfl) (fun _ _ _ h => h) (Or.inl ⟨by rfl, fun w hS => by go_simp⟩) hHeld ?_
      simp only [Act.put, List.getElem_toArray, List.getElem_cons_zero, List.getElem_cons_succ, List.setIfInBounds_toArray, List.set_cons_zero, List.set_cons_succ]
      refine wpAnyH_take (i := 9) (v := v) rfl (by kernel_rfl) (by kernel_rfl) (by kernel_rfl) (fun _ _ _ h => h) (Or.inl ⟨by rfl, fun w hS => by go_simp⟩) hHeld ?_
      simp only [Act.put, List.getElem_toArray, List.getElem_cons_zero, List.getElem_cons_succ, List.setIfInBounds_toArray, List.set_cons_zero, List.set_cons_succ]
      refine wpAnyH_take (i := 10) (v := .int .i64 y) rfl (by kernel_rfl) (by kernel_rfl) (by kernel_rfl) (fun _ _ _ h => h) (Or.inl ⟨by rfl, fun w hS => by go_simp⟩) hHeld ?_
      simp only [Act.put, List.getElem_toArray, List.getElem_cons_zero, List.getElem_cons_succ, List.setIfInBounds_toArray, List.set_cons_zero, List.set_cons_succ]
      refine wpAnyH_take (i := 12) (v := .agg (B K)) rfl (by kernel_rfl) (by kernel_rfl) (by kernel_rfl) (fun _ _ _ h => h) (yieldsIf_load_mid rfl 24 (.tmp 5) rfl b5 0 rfl (B K).toList _ (fun w hS => (HB52.out.grow hS).range) Tryz.underlying24 rfl HPL.out) hHeld ?_
      simp only [Act.put, List.getElem_toArray, List.getElem_cons_zero, List.getElem_cons_succ, List.setIfInBounds_toArray, List.set_cons_zero, List.set_cons_succ]
      refine wpAnyH_ready (rs := [11]) (by kernel_rfl) (by simp) ?_
      refine AllReadyH.cons rfl (fun KQ hK => ?_) AllReadyH.nil
      go_simp
      refine (HKY.out _ (grow_trans HQ2.out hHeld)).mono ?_
      rintro e z2 ⟨rfl, a2⟩
      refine hK.out _ _ (grow_trans hHeld a2) (fun hHeld => ?_)
      clear hK KQ
      refine wpAnyH_take (i := 13) (v := .bool false) rfl (by kernel_rfl) (by kernel_rfl) (by kernel_rfl) (fun _ _ _ h => h) (Or.inl ⟨by rfl, fun w hS => by go_simp⟩) hHeld ?_
      simp only [Act.put, List.getElem_toArray, List.getElem_cons_zero, List.getElem_cons_succ, List.setIfInBounds_toArray, List.set_cons_zero, List.set_cons_succ]
      refine wpAnyH_take (i := 14) (v := .bool false) rfl (by kernel_rfl) (by kernel_rfl) (by kernel_rfl) (fun _ _ _ h => h) (Or.inl ⟨by rfl, fun w hS => by go_simp⟩) hHeld ?_
      simp only [Act.put, List.getElem_toArray, List.getElem_cons_zero, List.getElem_cons_succ, List.setIfInBounds_toArray, List.set_cons_zero, List.set_cons_succ]
      refine wpAnyH_done (by kernel_rfl) ?_ _
      have HH := hidden hHeld
      clear hHeld
      go_wp2_with (go_at_call 85; refine (HVA.out _ (grow_trans HQ2.out HH.out)).mono ?_; rintro e w7 ⟨v7, sp7, rfl, o7, b7⟩)
      go_ret3
      exact HPost.out _ _ sp7 (o7.mono (grow_trans HQ2.out HH.out).size) (grow_trans (grow_trans HQ2.out HH.out) b7)
    · have HPost : Hid (∀ w', Below w.heap.size w w' → FdPost (fnd [(k, b)] K) w (.returned (.tuple #[.slice none 0 0, .bool false, .int .i64 0])) w') := fun w' hb => ⟨.slice none 0 0, [], by simp [fnd, hq], by simp only [fnd, hq, if_false]; exact Own.nil _ _, hb⟩
      generalize FdPost (fnd [(k, b)] K) w = P at HPost ⊢
      simp only [hq, decide_false] at hE
      clear hf HV hhe HFY hca h1 h2 h3 h4 h5 hkl hq HVA
      go_enter Tryz.func127, Tryz.ntmps127
      go_wp2_with (first
        | ((with_reducible refine at_bxd 5 ?_); refine wpList_bx _ rfl _ _ rfl _ rfl ?_; intro w1 b5 hg5 hl5 B5 q5; have HB5 := hidden B5; have HQ5 := hidden q5; clear hg5 hl5 B5 q5)
        | ((with_reducible refine at_ldd 14 5 ?_); refine wpList_ld _ rfl _ _ rfl b5 _ rfl HB5.out _ _ Tryz.underlying24 HPS.out ?_)
        | (go_at_call 129; refine (HHD.out _ HQ5.out).mono ?_; rintro e w2 ⟨a2, c2, rfl, o2, b2⟩; have HB52 := hidden (HB5.out.grow b2); have HQ2 := hidden (grow_trans HQ5.out b2); clear b2 o2))
      refine wp_region_held_drew (S := fun w' => Below w2.heap.size w2 w') (by kernel_rfl) ((below_drewN (Below.refl _ _) 1)) (fun hHeld => ?_)
      refine wpAnyH_take (i := 0) (v := .int .i64 0) rfl (by kernel_rfl) (by kernel_rfl) (by kernel_rfl) (fun _ _ _ h => h) (Or.inl ⟨by rfl, fun w hS => by go_simp⟩) hHeld ?_
      simp only [Act.put, List.getElem_toArray, List.getElem_cons_zero, List.setIfInBounds_toArray, List.set_cons_zero, List.set_cons_succ]
      refine wpAnyH_take (i := 1) (v := .bool false) rfl (by kernel_rfl) (by kernel_rfl) (by kernel_rfl) (fun _ _ _ h => h) (Or.inl ⟨by rfl, fun w hS => by go_simp⟩) hHeld ?_
      simp only [Act.put, List.getElem_toArray, List.getElem_cons_zero, List.getElem_cons_succ, List.setIfInBounds_toArray, List.set_cons_zero, List.set_cons_succ]
      refine wpAnyH_take (i := 2) (v := .bool false) rfl (by kernel_rfl) (by kernel_rfl) (by kernel_rfl) (fun _ _ _ h => h) (Or.inl ⟨by rfl, fun w hS => by go_simp⟩) hHeld ?_
      simp only [Act.put, List.getElem_toArray, List.getElem_cons_zero, List.getElem_cons_succ, List.setIfInBounds_toArray, List.set_cons_zero, List.set_cons_succ]
      refine wpAnyH_take (i := 3) (v := v) rfl (by kernel_rfl) (by kernel_rfl) (by kernel_rfl) (fun _ _ _ h => h) (Or.inl ⟨by rfl, fun w hS => by go_simp⟩) hHeld ?_
      simp only [Act.put, List.getElem_toArray, List.getElem_cons_zero, List.getElem_cons_succ, List.setIfInBounds_toArray, List.set_cons_zero, List.set_cons_succ]
      refine wpAnyH_take (i := 4) (v := .int .i64 y) rfl (by kernel_rfl) (by kernel_rfl) (by kernel_rfl) (fun _ _ _ h => h) (Or.inl ⟨by rfl, fun w hS => by go_simp⟩) hHeld ?_
      simp only [Act.put, List.getElem_toArray, List.getElem_cons_zero, List.getElem_cons_succ, List.setIfInBounds_toArray, List.set_cons_zero, List.set_cons_succ]
      refine wpAnyH_ready (rs := [5]) (by kernel_rfl) (by simp) ?_
      refine AllReadyH.cons rfl (fun KQ hK => ?_) AllReadyH.nil
      go_simp
      refine (HKD.out _ (grow_trans HQ2.out hHeld)).mono ?_
      rintro e z1 ⟨rfl, a1⟩
      refine hK.out _ _ (grow_trans hHeld a1) (fun hHeld => ?_)
      clear hK KQ
      refine wpAnyH_take (i := 6) (v := .bool false) rfl (by kernel_rfl) (by kernel_rfl) (by kernel_rfl) (fun _ _ _ h => h) (Or.inl ⟨by rfl, fun w hS => by go_simp⟩) hHeld ?_
      simp only [Act.put, List.getElem_toArray, List.getElem_cons_zero, List.getElem_cons_succ, List.setIfInBounds_toArray, List.set_cons_zero, List.set_cons_succ]
      refine wpAnyH_take (i := 7) (v := .bool false) rfl (by kernel_rfl) (by kernel_rfl) (by kernel_rfl) (fun _ _ _ h => h) (Or.inl ⟨by rfl, fun w hS => by go_simp⟩) hHeld ?_
      simp only [Act.put, List.getElem_toArray, List.getElem_cons_zero, List.getElem_cons_succ, List.setIfInBounds_toArray, List.set_cons_zero, List.set_cons_succ]
      refine wpAnyH_take (i := 8) (v := .bool false) rfl (by kernel_rfl) (by kernel_rfl) (by kernel_rfl) (fun _ _ _ h => h) (Or.inl ⟨by rfl, fun w hS => by go_simp⟩) hHeld ?_
      simp only [Act.put, List.getElem_toArray, List.getElem_cons_zero, List.getElem_cons_succ, List.setIfInBounds_toArray, List.set_cons_zero, List.set_cons_succ]
      refine wpAnyH_take (i := 9) (v := v) rfl (by kernel_rfl) (by kernel_rfl) (by kernel_rfl) (fun _ _ _ h => h) (Or.inl ⟨by rfl, fun w hS => by go_simp⟩) hHeld ?_
      simp only [Act.put, List.getElem_toArray, List.getElem_cons_zero, List.getElem_cons_succ, List.setIfInBounds_toArray, List.set_cons_zero, List.set_cons_succ]
      refine wpAnyH_take (i := 10) (v := .int .i64 y) rfl (by kernel_rfl) (by kernel_rfl) (by kernel_rfl) (fun _ _ _ h => h) (Or.inl ⟨by rfl, fun w hS => by go_simp⟩) hHeld ?_
      simp only [Act.put, List.getElem_toArray, List.getElem_cons_zero, List.getElem_cons_succ, List.setIfInBounds_toArray, List.set_cons_zero, List.set_cons_succ]
      refine wpAnyH_take (i := 12) (v := .agg (B K)) rfl (by kernel_rfl) (by kernel_rfl) (by kernel_rfl) (fun _ _ _ h => h) (yieldsIf_load_mid rfl 24 (.tmp 5) rfl b5 0 rfl (B K).toList _ (fun w hS => (HB52.out.grow hS).range) Tryz.underlying24 rfl HPL.out) hHeld ?_
      simp only [Act.put, List.getElem_toArray, List.getElem_cons_zero, List.getElem_cons_succ, List.setIfInBounds_toArray, List.set_cons_zero, List.set_cons_succ]
      refine wpAnyH_ready (rs := [11]) (by kernel_rfl) (by simp) ?_
      refine AllReadyH.cons rfl (fun KQ hK => ?_) AllReadyH.nil
      go_simp
      refine (HKY.out _ (grow_trans HQ2.out hHeld)).mono ?_
      rintro e z2 ⟨rfl, a2⟩
      refine hK.out _ _ (grow_trans hHeld a2) (fun hHeld => ?_)
      clear hK KQ
      refine wpAnyH_take (i := 13) (v := .bool true) rfl (by kernel_rfl) (by kernel_rfl) (by kernel_rfl) (fun _ _ _ h => h) (Or.inl ⟨by rfl, fun w hS => by go_simp⟩) hHeld ?_
      simp only [Act.put, List.getElem_toArray, List.getElem_cons_zero, List.getElem_cons_succ, List.setIfInBounds_toArray, List.set_cons_zero, List.set_cons_succ]
      refine wpAnyH_take (i := 14) (v := .bool true) rfl (by kernel_rfl) (by kernel_rfl) (by kernel_rfl) (fun _ _ _ h => h) (Or.inl ⟨by rfl, fun w hS => by go_simp⟩) hHeld ?_
      simp only [Act.put, List.getElem_toArray, List.getElem_cons_zero, List.getElem_cons_succ, List.setIfInBounds_toArray, List.set_cons_zero, List.set_cons_succ]
      refine wpAnyH_done (by kernel_rfl) ?_ _
      go_wp2
      go_ret3
      exact HPost.out _ (grow_trans HQ2.out hHeld)

theorem mea_step {m k : Nat} (h : (k : Int) < (m : Int)) : m - (k + 1) < m - k := by omega

end Go.Proofs.YtgfdgjkbcdmboabGreatDoor

/- list.Rank and list.Count, as contracts. -/
namespace Go.Proofs.YtgfdgjkbcdmboabGreatDoor
set_option maxRecDepth 20000
open Go.RowKit

set_option maxHeartbeats 1000000 in
theorem count13_bad {w : World} {v : Value} {mk : Bool} {ct : Int → Nat} {ca : Int → Ce} (V : Vw w v mk ct ca) (h : Int) (e0 : Int) (he : vRt mk (ct h) (ca h) h = e0) (h0 : e0 ≠ 0) : Calls Tryz.prog 23 #[v, .int .i64 h] w fun e w' => e = .returned (.tuple #[.int .i64 0, .int .i64 e0]) ∧ Below w.heap.size w w' := by
  have HRT := hidden (root_any V h)
  rw [he] at HRT
  have hb0 : (e0 == 0) = false := by simp [h0]
  clear V he
  go_enter Tryz.func23, Tryz.ntmps23
  go_wp2_with (go_at_call 56; refine HRT.out.mono ?_; rintro e w2 ⟨rfl, b2⟩)
  go_ret2
  exact ⟨rfl, b2⟩

set_option maxHeartbeats 1000000 in
theorem count13_any {w : World} {v : Value} {mk : Bool} {ct : Int → Nat} {ca : Int → Ce} (V : Vw w v mk ct ca) (h : Int) (he : vRt mk (ct h) (ca h) h = 0) : Calls Tryz.prog 23 #[v, .int .i64 h] w fun e w' => e = .returned (.tuple #[.int .i64 ((ca h).sz : Int), .int .i64 0]) ∧ Below w.heap.size w w' := by
  have HRT := hidden (root_any V h)
  rw [he] at HRT
  have HSZ : Hid (∀ w', Below w.heap.size w w' → Calls Tryz.prog 49 #[v, .int .i64 h] w' fun e w'' => e = .returned (.int .i64 ((ca h).sz : Int)) ∧ Below w'.heap.size w' w'') := fun w' hb => size_any (V.grow hb) h
  clear V he
  go_enter Tryz.func23, Tryz.ntmps23
  go_wp2_with (first
    | (go_at_call 56; refine HRT.out.mono ?_; rintro e w2 ⟨rfl, b2⟩; have HQ2 := hidden b2; clear b2)
    | (go_at_call 49; refine (HSZ.out _ HQ2.out).mono ?_; rintro e w3 ⟨rfl, b3⟩; have HQ3 := hidden (grow_trans HQ2.out b3); clear b3))
  go_ret2
  exact ⟨rfl, HQ3.out⟩

set_option maxHeartbeats 1000000 in
theorem rank_bad {w : World} {v : Value} {mk : Bool} {ct : Int → Nat} {ca : Int → Ce} (V : Vw w v mk ct ca) (h : Int) (K : List Int) (e0 : Int) (he : vRt mk (ct h) (ca h) h = e0) (h0 : e0 ≠ 0) : Calls Tryz.prog 24 #[v, .int .i64 h, .agg (B K)] w fun e w' => e = .returned (.tuple #[.int .i64 0, .int .i64 e0]) ∧ Below w.heap.size w w' := by
  have HRT : Hid (∀ w', Below w.heap.size w w' → Calls Tryz.prog 56 #[v, .int .i64 h] w' fun e w'' => e = .returned (.int .i64 e0) ∧ Below w'.heap.size w' w'') := fun w' hb => by
    have := root_any (V.grow hb) h
    rwa [he] at this
  have hb0 : (e0 == 0) = false := by simp [h0]
  clear V he
  go_enter Tryz.func24, Tryz.ntmps24
  go_wp2_with (first
    | ((with_reducible refine at_bxd 5 ?_); refine wpList_bx _ rfl _ _ rfl _ rfl ?_; intro w1 b5 hg5 hl5 B5 q5; have HQ5 := hidden q5; clear hg5 hl5 B5 q5)
    | (go_at_call 56; refine (HRT.out _ HQ5.out).mono ?_; rintro e w2 ⟨rfl, b2⟩; have HQ2 := hidden (grow_trans HQ5.out b2); clear b2))
  go_ret2
  exact ⟨rfl, HQ2.out⟩

theorem num_fun (cs : List (Nat × Ce)) : ∃ mea : Value → Nat, ∀ (q : Nat) (U : Tre), IsT cs q U → mea (.int .i64 (q : Int)) = U.num := by
  have h : ∀ v : Value, ∃ m : Nat, ∀ (q : Nat) (U : Tre), v = .int .i64 (q : Int) → IsT cs q U → m = U.num := fun v => by
    by_cases e : ∃ (q : Nat) (U : Tre), v = .int .i64 (q : Int) ∧ IsT cs q U
    · obtain ⟨q, U, h1, h2⟩ := e
      refine ⟨U.num, fun q' U' k1 k2 => ?_⟩
      rw [h1] at k1
      injection k1 with _ k1
      obtain rfl : q = q' := by omega
      rw [h2.one k2]
    · exact ⟨0, fun q U k1 k2 => absurd ⟨q, U, k1, k2⟩ e⟩
  exact ⟨fun v => Classical.choose (h v), fun q U hU => Classical.choose_spec (h (.int .i64 (q : Int))) q U rfl hU⟩

set_option maxHeartbeats 4000000 in
theorem rank_any {w : World} {v : Value} {cs : List (Nat × Ce)} {pend : List Nat} (V : Vw w v true (cot cs) (cat cs)) (W : Wf cs pend) (h : Nat) (T : Tre) (hT : IsT cs h T) (K : List Int) (hK : Key K) (he : vRt true (cot cs h) (cat cs h) h = 0) (h6 : T.ents.length ≤ 1000000) : Calls Tryz.prog 24 #[v, .int .i64 (h : Int), .agg (B K)] w fun e w' => e = .returned (.tuple #[.int .i64 (T.rk K : Int), .int .i64 0]) ∧ Below w.heap.size w w' := by
  have HRT : Hid (∀ w', Below w.heap.size w w' → Calls Tryz.prog 56 #[v, .int .i64 (h : Int)] w' fun e w'' => e = .returned (.int .i64 0) ∧ Below w'.heap.size w' w'') := fun w' hb => by
    have := root_any (V.grow hb) (h : Int)
    rwa [he] at this
  have HPL := hidden (pth_ln K hK.1)
  have HV := hidden V
  have HW := hidden W
  have HK := hidden hK
  have HT := hidden hT
  obtain ⟨mea, hmea⟩ := num_fun cs
  have HME := hidden hmea
  obtain ⟨hh, hhe⟩ : ∃ y : Int, y = (h : Int) := ⟨_, rfl⟩
  rw [← hhe] at HRT
  rw [← hhe]
  have HHE := hidden hhe
  have H6 := hidden h6
  clear V W hT he hK hmea hhe h6
  go_enter Tryz.func24, Tryz.ntmps24
  go_wp2_with (first
    | ((with_reducible refine at_bxd 5 ?_); refine wpList_bx _ rfl _ _ rfl _ rfl ?_; intro w0 b5 hg5 hl5 B5 q5; have HB5 := hidden B5; have HQ5 := hidden q5; clear hg5 hl5 B5 q5)
    | (go_at_call 56; refine (HRT.out _ HQ5.out).mono ?_; rintro e w1 ⟨rfl, b1⟩; have HB51 := hidden (HB5.out.grow b1); have HQ1 := hidden (grow_trans HQ5.out b1); clear b1))
  go_loopw [9, 10] (fun av hv wr => ∃ (a q : Nat) (U : Tre), av = .int .i64 (a : Int) ∧ hv = .int .i64 (q : Int) ∧ Hid (IsT cs q U) ∧ Hid (a + U.rk K = T.rk K ∧ a + U.ents.length ≤ T.ents.length) ∧ Hid (Below w1.heap.size w1 wr)) (fun _ hv _ => mea hv)
  case atStart => exact ⟨0, h, T, rfl, by rw [HHE.out], HT, ⟨by omega, by omega⟩, Below.refl _ _⟩
  case round =>
    clear HRT HQ5 HB5 HT HHE
    obtain ⟨a, q, U, rfl, rfl, hU, hR, hB⟩ := hrel
    have HM0 := hidden (HME.out q U hU.out)
    have HKD0 : Hid (∀ w', Below w.heap.size w w' → Calls Tryz.prog 57 #[v, .int .i64 (q : Int)] w' fun e w'' => e = .returned (.int .u8 (sdC cs q).kind) ∧ Below w'.heap.size w' w'') := fun w' hb => by
      have := kind_any (HV.out.grow hb) (q : Int)
      rwa [cat_nat] at this
    obtain ⟨y, hy⟩ : ∃ y : Int, y = (q : Int) := ⟨_, rfl⟩
    rw [← hy] at HKD0 HM0
    rw [← hy]
    have HY := hidden hy
    have hale : a ≤ 1000000 := by have := hR.out.2; have := H6.out; omega
    have HQr := hidden (grow_trans HQ1.out hB.out)
    have HB5r := hidden (HB51.out.grow hB.out)
    clear hy
    cases U with
    | emp =>
      have hq : q = 0 := hU.out
      subst hq
      have HKD : Hid (∀ w', Below w.heap.size w w' → Calls Tryz.prog 57 #[v, .int .i64 y] w' fun e w'' => e = .returned (.int .u8 0) ∧ Below w'.heap.size w' w'') := HKD0.out
      have HRA : Hid (T.rk K = a) := by
        have := hR.out.1
        show _ = _
        rw [← this]
        simp [Tre.rk]
      clear HKD0 hU HM0 HME hR
      go_wp2_with (go_at_call 57; refine (HKD.out _ HQr.out).mono ?_; rintro e w2 ⟨rfl, b2⟩; have HB52 := hidden (HB5r.out.grow b2); have HQ2 := hidden (grow_trans HQr.out b2); clear b2)
      refine wp_region_held_drew (S := fun w' => Below w2.heap.size w2 w') (by kernel_rfl) ((below_drewN (Below.refl _ _) 1)) (fun hHeld => ?_)
      refine wpAnyH_take (i := 0) (v := v) rfl (by kernel_rfl) (by kernel_rfl) (by kernel_rfl) (fun _ _ _ h => h) (Or.inl ⟨by rfl, fun w hS => by go_simp⟩) hHeld ?_
      simp only [Act.put, List.getElem_toArray, List.getElem_cons_zero, List.setIfInBounds_toArray, List.set_cons_zero, List.set_cons_succ]
      refine wpAnyH_take (i := 1) (v := .int .i64 y) rfl (by kernel_rfl) (by kernel_rfl) (by kernel_rfl) (fun _ _ _ h => h) (Or.inl ⟨by rfl, fun w hS => by go_simp⟩) hHeld ?_
      simp only [Act.put, List.getElem_toArray, List.getElem_cons_zero, List.getElem_cons_succ, List.setIfInBounds_toArray, List.set_cons_zero, List.set_cons_succ]
      refine wpAnyH_ready (rs := [2]) (by kernel_rfl) (by simp) ?_
      refine AllReadyH.cons rfl (fun KQ hK => ?_) AllReadyH.nil
      go_simp
      refine (HKD.out _ (grow_trans HQ2.out hHeld)).mono ?_
      rintro e z1 ⟨rfl, a1⟩
      refine hK.out _ _ (grow_trans hHeld a1) (fun hHeld => ?_)
      clear hK KQ
      refine wpAnyH_take (i := 3) (v := .bool false) rfl (by kernel_rfl) (by kernel_rfl) (by kernel_rfl) (fun _ _ _ h => h) (Or.inl ⟨by rfl, fun w hS => by go_simp⟩) hHeld ?_
      simp only [Act.put, List.getElem_toArray, List.getElem_cons_zero, List.getElem_cons_succ, List.setIfInBounds_toArray, List.set_cons_zero, List.set_cons_succ]
      refine wpAnyH_take (i := 4) (v := .bool false) rfl (by kernel_rfl) (by kernel_rfl) (by kernel_rfl) (fun _ _ _ h => h) (Or.inl ⟨by rfl, fun w hS => by go_simp⟩) hHeld ?_
      simp only [Act.put, List.getElem_toArray, List.getElem_cons_zero, List.getElem_cons_succ, List.setIfInBounds_toArray, List.set_cons_zero, List.set_cons_succ]
      refine wpAnyH_take (i := 5) (v := undef) rfl (by kernel_rfl) (by kernel_rfl) (by kernel_rfl) (fun _ _ _ h => h) (Or.inr ⟨by rfl, rfl⟩) hHeld ?_
      simp only [Act.put, List.getElem_toArray, List.getElem_cons_zero, List.getElem_cons_succ, List.setIfInBounds_toArray, List.set_cons_zero, List.set_cons_succ]
      refine wpAnyH_take (i := 6) (v := undef) rfl (by kernel_rfl) (by kernel_rfl) (by kernel_rfl) (fun _ _ _ h => h) (Or.inr ⟨by rfl, rfl⟩) hHeld ?_
      simp only [Act.put, List.getElem_toArray, List.getElem_cons_zero, List.getElem_cons_succ, List.setIfInBounds_toArray, List.set_cons_zero, List.set_cons_succ]
      refine wpAnyH_take (i := 7) (v := undef) rfl (by kernel_rfl) (by kernel_rfl) (by kernel_rfl) (fun _ _ _ h => h) (Or.inr ⟨by rfl, rfl⟩) hHeld ?_
      simp only [Act.put, List.getElem_toArray, List.getElem_cons_zero, List.getElem_cons_succ, List.setIfInBounds_toArray, List.set_cons_zero, List.set_cons_succ]
      refine wpAnyH_take (i := 8) (v := undef) rfl (by kernel_rfl) (by kernel_rfl) (by kernel_rfl) (fun _ _ _ h => h) (Or.inr ⟨by rfl, rfl⟩) hHeld ?_
      simp only [Act.put, List.getElem_toArray, List.getElem_cons_zero, List.getElem_cons_succ, List.setIfInBounds_toArray, List.set_cons_zero, List.set_cons_succ]
      refine wpAnyH_take (i := 9) (v := undef) rfl (by kernel_rfl) (by kernel_rfl) (by kernel_rfl) (fun _ _ _ h => h) (Or.inr ⟨by rfl, rfl⟩) hHeld ?_
      simp only [Act.put, List.getElem_toArray, List.getElem_cons_zero, List.getElem_cons_succ, List.setIfInBounds_toArray, List.set_cons_zero, List.set_cons_succ]
      refine wpAnyH_take (i := 10) (v := undef) rfl (by kernel_rfl) (by kernel_rfl) (by kernel_rfl) (fun _ _ _ h => h) (Or.inr ⟨by rfl, rfl⟩) hHeld ?_
      simp only [Act.put, List.getElem_toArray, List.getElem_cons_zero, List.getElem_cons_succ, List.setIfInBounds_toArray, List.set_cons_zero, List.set_cons_succ]
      refine wpAnyH_take (i := 11) (v := .bool false) rfl (by kernel_rfl) (by kernel_rfl) (by kernel_rfl) (fun _ _ _ h => h) (Or.inl ⟨by rfl, fun w hS => by go_simp⟩) hHeld ?_
      simp only [Act.put, List.getElem_toArray, List.getElem_cons_zero, List.getElem_cons_succ, List.setIfInBounds_toArray, List.set_cons_zero, List.set_cons_succ]
      refine wpAnyH_done (by kernel_rfl) ?_ _
      go_wp2
      go_ret2
      refine ⟨?_, grow_trans HQ2.out hHeld⟩
      rw [HRA.out]
      rfl
    | lf k b =>
      obtain ⟨h1, h2, h3, h4, h5⟩ := hU.out
      have hsd : sdC cs q = ce cs (q - 1) := if_neg (by omega)
      have HKD : Hid (∀ w', Below w.heap.size w w' → Calls Tryz.prog 57 #[v, .int .i64 y] w' fun e w'' => e = .returned (.int .u8 1) ∧ Below w'.heap.size w' w'') := by
        have := HKD0.out
        rw [hsd, h3] at this
        exact this
      have hkk : Key k := by
        have := (HW.out.ok (q - 1)).hk
        rwa [h4] at this
      have HKY : Hid (∀ w', Below w.heap.size w w' → Calls Tryz.prog 61 #[v, .int .i64 y] w' fun e w'' => e = .returned (.agg (B k)) ∧ Below w'.heap.size w' w'') := fun w' hb => by
        have := key_any (HV.out.grow hb) (q : Int)
        rw [cat_nat, hsd, h4, ← HY.out] at this
        exact this
      have HCM : Hid (∀ w', Calls Tryz.prog 30 #[.agg (B k), .agg (B K)] w' fun e w'' => e = .returned (.int .i64 (cmp k K)) ∧ Below w'.heap.size w' w'') := fun w' => pcompare_any k K w' hkk HK.out
      have HRA : Hid (T.rk K = a + if cmp k K < 0 then 1 else 0) := by
        have := hR.out.1
        show _ = _
        rw [← this]
        rfl
      clear HKD0 hU HM0 HME hR h1 h2 h3 h4 h5 hsd hkk
      generalize cmp k K = c at HCM HRA
      by_cases hc : c < 0
      · have HRB : Hid (T.rk K = a + 1) := by
          have := HRA.out
          rw [if_pos hc] at this
          exact this
        have hwa : wrap64 ((a : Int) + 1) = ((a + 1 : Nat) : Int) := by rw [Go.IntWalk.wrap64_in _ (by omega)]; rfl
        have hcd : decide (c < 0) = true := by simp [hc]
        clear HRA
        go_wp2_with (go_at_call 57; refine (HKD.out _ HQr.out).mono ?_; rintro e w2 ⟨rfl, b2⟩; have HB52 := hidden (HB5r.out.grow b2); have HQ2 := hidden (grow_trans HQr.out b2); clear b2)
        refine wp_region_held_drew (S := fun w' => Below w2.heap.size w2 w') (by kernel_rfl) ((below_drewN (Below.refl _ _) 1)) (fun hHeld => ?_)
        refine wpAnyH_take (i := 0) (v := v) rfl (by kernel_rfl) (by kernel_rfl) (by kernel_rfl) (fun _ _ _ h => h) (Or.inl ⟨by rfl, fun w hS => by go_simp⟩) hHeld ?_
        simp only [Act.put, List.getElem_toArray, List.getElem_cons_zero, List.setIfInBounds_toArray, List.set_cons_zero, List.set_cons_succ]
        refine wpAnyH_take (i := 1) (v := .int .i64 y) rfl (by kernel_rfl) (by kernel_rfl) (by kernel_rfl) (fun _ _ _ h => h) (Or.inl ⟨by rfl, fun w hS => by go_simp⟩) hHeld ?_
        simp only [Act.put, List.getElem_toArray, List.getElem_cons_zero, List.getElem_cons_succ, List.setIfInBounds_toArray, List.set_cons_zero, List.set_cons_succ]
        refine wpAnyH_ready (rs := [2]) (by kernel_rfl) (by simp) ?_
        refine AllReadyH.cons rfl (fun KQ hK => ?_) AllReadyH.nil
        go_simp
        refine (HKD.out _ (grow_trans HQ2.out hHeld)).mono ?_
        rintro e z1 ⟨rfl, a1⟩
        refine hK.out _ _ (grow_trans hHeld a1) (fun hHeld => ?_)
        clear hK KQ
        refine wpAnyH_take (i := 3) (v := .bool true) rfl (by kernel_rfl) (by kernel_rfl) (by kernel_rfl) (fun _ _ _ h => h) (Or.inl ⟨by rfl, fun w hS => by go_simp⟩) hHeld ?_
        simp only [Act.put, List.getElem_toArray, List.getElem_cons_zero, List.getElem_cons_succ, List.setIfInBounds_toArray, List.set_cons_zero, List.set_cons_succ]
        refine wpAnyH_take (i := 4) (v := .bool true) rfl (by kernel_rfl) (by kernel_rfl) (by kernel_rfl) (fun _ _ _ h => h) (Or.inl ⟨by rfl, fun w hS => by go_simp⟩) hHeld ?_
        simp only [Act.put, List.getElem_toArray, List.getElem_cons_zero, List.getElem_cons_succ, List.setIfInBounds_toArray, List.set_cons_zero, List.set_cons_succ]
        refine wpAnyH_take (i := 5) (v := v) rfl (by kernel_rfl) (by kernel_rfl) (by kernel_rfl) (fun _ _ _ h => h) (Or.inl ⟨by rfl, fun w hS => by go_simp⟩) hHeld ?_
        simp only [Act.put, List.getElem_toArray, List.getElem_cons_zero, List.getElem_cons_succ, List.setIfInBounds_toArray, List.set_cons_zero, List.set_cons_succ]
        refine wpAnyH_take (i := 6) (v := .int .i64 y) rfl (by kernel_rfl) (by kernel_rfl) (by kernel_rfl) (fun _ _ _ h => h) (Or.inl ⟨by rfl, fun w hS => by go_simp⟩) hHeld ?_
        simp only [Act.put, List.getElem_toArray, List.getElem_cons_zero, List.getElem_cons_succ, List.setIfInBounds_toArray, List.set_cons_zero, List.set_cons_succ]
        refine wpAnyH_take (i := 8) (v := .agg (B K)) rfl (by kernel_rfl) (by kernel_rfl) (by kernel_rfl) (fun _ _ _ h => h) (yieldsIf_load_mid rfl 24 (.tmp 5) rfl b5 0 rfl (B K).toList _ (fun w hS => (HB52.out.grow hS).range) Tryz.underlying24 rfl HPL.out) hHeld ?_
        simp only [Act.put, List.getElem_toArray, List.getElem_cons_zero, List.getElem_cons_succ, List.setIfInBounds_toArray, List.set_cons_zero, List.set_cons_succ]
        refine wpAnyH_ready (rs := [7]) (by kernel_rfl) (by simp) ?_
        refine AllReadyH.cons rfl (fun KQ hK => ?_) AllReadyH.nil
        go_simp
        refine (HKY.out _ (grow_trans HQ2.out hHeld)).mono ?_
        rintro e z2 ⟨rfl, a2⟩
        refine hK.out _ _ (grow_trans hHeld a2) (fun hHeld => ?_)
        clear hK KQ
        refine wpAnyH_ready (rs := [9]) (by kernel_rfl) (by simp) ?_
        refine AllReadyH.cons rfl (fun KQ hK => ?_) AllReadyH.nil
        go_simp
        refine (HCM.out _).mono ?_
        rintro e z3 ⟨rfl, a3⟩
        refine hK.out _ _ (grow_trans hHeld a3) (fun hHeld => ?_)
        clear hK KQ
        refine wpAnyH_take (i := 10) (v := .bool true) rfl (by kernel_rfl) (by kernel_rfl) (by kernel_rfl) (fun _ _ _ h => h) (Or.inl ⟨by rfl, fun w hS => by go_simp⟩) hHeld ?_
        simp only [Act.put, List.getElem_toArray, List.getElem_cons_zero, List.getElem_cons_succ, List.setIfInBounds_toArray, List.set_cons_zero, List.set_cons_succ]
        refine wpAnyH_take (i := 11) (v := .bool true) rfl (by kernel_rfl) (by kernel_rfl) (by kernel_rfl) (fun _ _ _ h => h) (Or.inl ⟨by rfl, fun w hS => by go_simp⟩) hHeld ?_
        simp only [Act.put, List.getElem_toArray, List.getElem_cons_zero, List.getElem_cons_succ, List.setIfInBounds_toArray, List.set_cons_zero, List.set_cons_succ]
        refine wpAnyH_done (by kernel_rfl) ?_ _
        go_wp2
        go_ret2
        refine ⟨?_, grow_trans HQ2.out hHeld⟩
        rw [HRB.out]
        first
          | rfl
          | (rw [← hwa]; rfl)
      · have HRB : Hid (T.rk K = a) := by
          have := HRA.out
          rw [if_neg hc, Nat.add_zero] at this
          exact this
        have hcd : decide (c < 0) = false := by simp [hc]
        clear HRA
        go_wp2_with (go_at_call 57; refine (HKD.out _ HQr.out).mono ?_; rintro e w2 ⟨rfl, b2⟩; have HB52 := hidden (HB5r.out.grow b2); have HQ2 := hidden (grow_trans HQr.out b2); clear b2)
        refine wp_region_held_drew (S := fun w' => Below w2.heap.size w2 w') (by kernel_rfl) ((below_drewN (Below.refl _ _) 1)) (fun hHeld => ?_)
        refine wpAnyH_take (i := 0) (v := v) rfl (by kernel_rfl) (by kernel_rfl) (by kernel_rfl) (fun _ _ _ h => h) (Or.inl ⟨by rfl, fun w hS => by go_simp⟩) hHeld ?_
        simp only [Act.put, List.getElem_toArray, List.getElem_cons_zero, List.setIfInBounds_toArray, List.set_cons_zero, List.set_cons_succ]
        refine wpAnyH_take (i := 1) (v := .int .i64 y) rfl (by kernel_rfl) (by kernel_rfl) (by kernel_rfl) (fun _ _ _ h => h) (Or.inl ⟨by rfl, fun w hS => by go_simp⟩) hHeld ?_
        simp only [Act.put, List.getElem_toArray, List.getElem_cons_zero, List.getElem_cons_succ, List.setIfInBounds_toArray, List.set_cons_zero, List.set_cons_succ]
        refine wpAnyH_ready (rs := [2]) (by kernel_rfl) (by simp) ?_
        refine AllReadyH.cons rfl (fun KQ hK => ?_) AllReadyH.nil
        go_simp
        refine (HKD.out _ (grow_trans HQ2.out hHeld)).mono ?_
        rintro e z1 ⟨rfl, a1⟩
        refine hK.out _ _ (grow_trans hHeld a1) (fun hHeld => ?_)
        clear hK KQ
        refine wpAnyH_take (i := 3) (v := .bool true) rfl (by kernel_rfl) (by kernel_rfl) (by kernel_rfl) (fun _ _ _ h => h) (Or.inl ⟨by rfl, fun w hS => by go_simp⟩) hHeld ?_
        simp only [Act.put, List.getElem_toArray, List.getElem_cons_zero, List.getElem_cons_succ, List.setIfInBounds_toArray, List.set_cons_zero, List.set_cons_succ]
        refine wpAnyH_take (i := 4) (v := .bool true) rfl (by kernel_rfl) (by kernel_rfl) (by kernel_rfl) (fun _ _ _ h => h) (Or.inl ⟨by rfl, fun w hS => by go_simp⟩) hHeld ?_
        simp only [Act.put, List.getElem_toArray, List.getElem_cons_zero, List.getElem_cons_succ, List.setIfInBounds_toArray, List.set_cons_zero, List.set_cons_succ]
        refine wpAnyH_take (i := 5) (v := v) rfl (by kernel_rfl) (by kernel_rfl) (by kernel_rfl) (fun _ _ _ h => h) (Or.inl ⟨by rfl, fun w hS => by go_simp⟩) hHeld ?_
        simp only [Act.put, List.getElem_toArray, List.getElem_cons_zero, List.getElem_cons_succ, List.setIfInBounds_toArray, List.set_cons_zero, List.set_cons_succ]
        refine wpAnyH_take (i := 6) (v := .int .i64 y) rfl (by kernel_rfl) (by kernel_rfl) (by kernel_rfl) (fun _ _ _ h => h) (Or.inl ⟨by rfl, fun w hS => by go_simp⟩) hHeld ?_
        simp only [Act.put, List.getElem_toArray, List.getElem_cons_zero, List.getElem_cons_succ, List.setIfInBounds_toArray, List.set_cons_zero, List.set_cons_succ]
        refine wpAnyH_take (i := 8) (v := .agg (B K)) rfl (by kernel_rfl) (by kernel_rfl) (by kernel_rfl) (fun _ _ _ h => h) (yieldsIf_load_mid rfl 24 (.tmp 5) rfl b5 0 rfl (B K).toList _ (fun w hS => (HB52.out.grow hS).range) Tryz.underlying24 rfl HPL.out) hHeld ?_
        simp only [Act.put, List.getElem_toArray, List.getElem_cons_zero, List.getElem_cons_succ, List.setIfInBounds_toArray, List.set_cons_zero, List.set_cons_succ]
        refine wpAnyH_ready (rs := [7]) (by kernel_rfl) (by simp) ?_
        refine AllReadyH.cons rfl (fun KQ hK => ?_) AllReadyH.nil
        go_simp
        refine (HKY.out _ (grow_trans HQ2.out hHeld)).mono ?_
        rintro e z2 ⟨rfl, a2⟩
        refine hK.out _ _ (grow_trans hHeld a2) (fun hHeld => ?_)
        clear hK KQ
        refine wpAnyH_ready (rs := [9]) (by kernel_rfl) (by simp) ?_
        refine AllReadyH.cons rfl (fun KQ hK => ?_) AllReadyH.nil
        go_simp
        refine (HCM.out _).mono ?_
        rintro e z3 ⟨rfl, a3⟩
        refine hK.out _ _ (grow_trans hHeld a3) (fun hHeld => ?_)
        clear hK KQ
        refine wpAnyH_take (i := 10) (v := .bool false) rfl (by kernel_rfl) (by kernel_rfl) (by kernel_rfl) (fun _ _ _ h => h) (Or.inl ⟨by rfl, fun w hS => by go_simp⟩) hHeld ?_
        simp only [Act.put, List.getElem_toArray, List.getElem_cons_zero, List.getElem_cons_succ, List.setIfInBounds_toArray, List.set_cons_zero, List.set_cons_succ]
        refine wpAnyH_take (i := 11) (v := .bool false) rfl (by kernel_rfl) (by kernel_rfl) (by kernel_rfl) (fun _ _ _ h => h) (Or.inl ⟨by rfl, fun w hS => by go_simp⟩) hHeld ?_
        simp only [Act.put, List.getElem_toArray, List.getElem_cons_zero, List.getElem_cons_succ, List.setIfInBounds_toArray, List.set_cons_zero, List.set_cons_succ]
        refine wpAnyH_done (by kernel_rfl) ?_ _
        go_wp2
        go_ret2
        refine ⟨?_, grow_trans HQ2.out hHeld⟩
        rw [HRB.out]
        rfl
    | nd d hl hr L R =>
      have n := nd_ok HW.out hU.out
      obtain ⟨h1, h2, h3, h4, h5, h6, h7, h8⟩ := hU.out
      have hsd : sdC cs q = ce cs (q - 1) := if_neg (by omega)
      have HKD : Hid (∀ w', Below w.heap.size w w' → Calls Tryz.prog 57 #[v, .int .i64 y] w' fun e w'' => e = .returned (.int .u8 2) ∧ Below w'.heap.size w' w'') := by
        have := HKD0.out
        rw [hsd, h3] at this
        exact this
      have HSD : Hid (∀ w', Below w.heap.size w w' → Calls Tryz.prog 58 #[v, .int .i64 y] w' fun e w'' => e = .returned (.tuple #[.int .i64 (hl : Int), .int .i64 (hr : Int)]) ∧ Below w'.heap.size w' w'') := fun w' hb => by
        have := sides_any (HV.out.grow hb) (q : Int)
        rw [cat_nat, hsd, h5, h6, ← HY.out] at this
        exact this
      have HDP : Hid (∀ w', Below w.heap.size w w' → Calls Tryz.prog 60 #[v, .int .i64 y] w' fun e w'' => e = .returned (.int .i64 (d : Int)) ∧ Below w'.heap.size w' w'') := fun w' hb => by
        have := depth_any (HV.out.grow hb) (q : Int)
        rw [cat_nat, hsd, show vDp true (ce cs (q - 1)) = (d : Int) by simp [vDp, h3, h4], ← HY.out] at this
        exact this
      have HBT : Hid (∀ w', Calls Tryz.prog 59 #[.agg (B K), .int .i64 (d : Int)] w' fun e w'' => e = .returned (.int .i64 (kb K d)) ∧ Below w'.heap.size w' w'') := fun w' => by
        have := bit_any K (d : Int) w' HK.out
        rwa [kbi_in K _ n.dp] at this
      have HSZ : Hid (∀ w', Below w.heap.size w w' → Calls Tryz.prog 49 #[v, .int .i64 (hl : Int)] w' fun e w'' => e = .returned (.int .i64 (L.ents.length : Int)) ∧ Below w'.heap.size w' w'') := fun w' hb => by
        have := size_any (HV.out.grow hb) (hl : Int)
        rwa [cat_nat, (tree_ok HW.out L hl h7).sz] at this
      have HRA : Hid (a + (if kb K d = 1 then L.ents.length + R.rk K else L.rk K) = T.rk K ∧ a + (L.ents.length + R.ents.length) ≤ T.ents.length) := by
        have h1 := hR.out.1
        have h2 := hR.out.2
        rw [Tre.ents, List.length_append] at h2
        exact ⟨h1, h2⟩
      have HML : Hid (mea (.int .i64 (hl : Int)) = L.num) := HME.out hl L h7
      have HMR : Hid (mea (.int .i64 (hr : Int)) = R.num) := HME.out hr R h8
      have HM1 : Hid (mea (.int .i64 y) = 1 + (L.num + R.num)) := HM0.out
      have HL := hidden h7
      have HR := hidden h8
      clear HKD0 hU HM0 HME hR h1 h2 h3 h4 h5 h6 h7 h8 hsd n
      have hkb := kb_two K d
      generalize kb K d = c at HBT HRA hkb
      generalize hdd : (d : Int) = dd at HDP HBT
      clear hdd
      rcases hkb with rfl | rfl
      · go_wp2_with (first
          | (go_at_call 57; refine (HKD.out _ HQr.out).mono ?_; rintro e w2 ⟨rfl, b2⟩; have HB52 := hidden (HB5r.out.grow b2); have HQ2 := hidden (grow_trans HQr.out b2); have HBB2 := hidden (grow_trans hB.out b2); clear b2)
          | (go_at_call 58; refine (HSD.out _ HQ2.out).mono ?_; rintro e w3 ⟨rfl, b3⟩; have HB53 := hidden (HB52.out.grow b3); have HQ3 := hidden (grow_trans HQ2.out b3); have HBB3 := hidden (grow_trans HBB2.out b3); clear b3))
        refine wp_region_held_drew (S := fun w' => Below w3.heap.size w3 w') (by kernel_rfl) ((below_drewN (Below.refl _ _) 1)) (fun hHeld => ?_)
        refine wpAnyH_take (i := 0) (v := .agg (B K)) rfl (by kernel_rfl) (by kernel_rfl) (by kernel_rfl) (fun _ _ _ h => h) (yieldsIf_load_mid rfl 24 (.tmp 5) rfl b5 0 rfl (B K).toList _ (fun w hS => (HB53.out.grow hS).range) Tryz.underlying24 rfl HPL.out) hHeld ?_
        simp only [Act.put, List.getElem_toArray, List.getElem_cons_zero, List.setIfInBounds_toArray, List.set_cons_zero, List.set_cons_succ]
        refine wpAnyH_take (i := 1) (v := v) rfl (by kernel_rfl) (by kernel_rfl) (by kernel_rfl) (fun _ _ _ h => h) (Or.inl ⟨by rfl, fun w hS => by go_simp⟩) hHeld ?_
        simp only [Act.put, List.getElem_toArray, List.getElem_cons_zero, List.getElem_cons_succ, List.setIfInBounds_toArray, List.set_cons_zero, List.set_cons_succ]
        refine wpAnyH_take (i := 2) (v := .int .i64 y) rfl (by kernel_rfl) (by kernel_rfl) (by kernel_rfl) (fun _ _ _ h => h) (Or.inl ⟨by rfl, fun w hS => by go_simp⟩) hHeld ?_
        simp only [Act.put, List.getElem_toArray, List.getElem_cons_zero, List.getElem_cons_succ, List.setIfInBounds_toArray, List.set_cons_zero, List.set_cons_succ]
        refine wpAnyH_ready (rs := [3]) (by kernel_rfl) (by simp) ?_
        refine AllReadyH.cons rfl (fun KQ hK => ?_) AllReadyH.nil
        go_simp
        refine (HDP.out _ (grow_trans HQ3.out hHeld)).mono ?_
        rintro e z1 ⟨rfl, a1⟩
        refine hK.out _ _ (grow_trans hHeld a1) (fun hHeld => ?_)
        clear hK KQ
        refine wpAnyH_ready (rs := [4]) (by kernel_rfl) (by simp) ?_
        refine AllReadyH.cons rfl (fun KQ hK => ?_) AllReadyH.nil
        go_simp
        refine (HBT.out _).mono ?_
        rintro e z2 ⟨rfl, a2⟩
        refine hK.out _ _ (grow_trans hHeld a2) (fun hHeld => ?_)
        clear hK KQ
        refine wpAnyH_take (i := 5) (v := .bool true) rfl (by kernel_rfl) (by kernel_rfl) (by kernel_rfl) (fun _ _ _ h => h) (Or.inl ⟨by rfl, fun w hS => by go_simp⟩) hHeld ?_
        simp only [Act.put, List.getElem_toArray, List.getElem_cons_zero, List.getElem_cons_succ, List.setIfInBounds_toArray, List.set_cons_zero, List.set_cons_succ]
        refine wpAnyH_done (by kernel_rfl) ?_ _
        have HH := hidden hHeld
        clear hHeld
        go_wp2
        refine ⟨⟨a, hl, L, rfl, rfl, HL, ⟨?_, ?_⟩, grow_trans HBB3.out HH.out⟩, ?_⟩
        · have := HRA.out.1
          rw [if_neg (by omega)] at this
          exact this
        · have := HRA.out.2
          omega
        · rw [HML.out, HM1.out]
          omega
      · have hwa : wrap64 ((a : Int) + (L.ents.length : Int)) = ((a + L.ents.length : Nat) : Int) := by
          have := HRA.out.2
          have := H6.out
          rw [Go.IntWalk.wrap64_in _ (by omega)]
          rfl
        go_wp2_with (first
          | (go_at_call 57; refine (HKD.out _ HQr.out).mono ?_; rintro e w2 ⟨rfl, b2⟩; have HB52 := hidden (HB5r.out.grow b2); have HQ2 := hidden (grow_trans HQr.out b2); have HBB2 := hidden (grow_trans hB.out b2); clear b2)
          | (go_at_call 58; refine (HSD.out _ HQ2.out).mono ?_; rintro e w3 ⟨rfl, b3⟩; have HB53 := hidden (HB52.out.grow b3); have HQ3 := hidden (grow_trans HQ2.out b3); have HBB3 := hidden (grow_trans HBB2.out b3); clear b3))
        refine wp_region_held_drew (S := fun w' => Below w3.heap.size w3 w') (by kernel_rfl) ((below_drewN (Below.refl _ _) 1)) (fun hHeld => ?_)
        refine wpAnyH_take (i := 0) (v := .agg (B K)) rfl (by kernel_rfl) (by kernel_rfl) (by kernel_rfl) (fun _ _ _ h => h) (yieldsIf_load_mid rfl 24 (.tmp 5) rfl b5 0 rfl (B K).toList _ (fun w hS => (HB53.out.grow hS).range) Tryz.underlying24 rfl HPL.out) hHeld ?_
        simp only [Act.put, List.getElem_toArray, List.getElem_cons_zero, List.setIfInBounds_toArray, List.set_cons_zero, List.set_cons_succ]
        refine wpAnyH_take (i := 1) (v := v) rfl (by kernel_rfl) (by kernel_rfl) (by kernel_rfl) (fun _ _ _ h => h) (Or.inl ⟨by rfl, fun w hS => by go_simp⟩) hHeld ?_
        simp only [Act.put, List.getElem_toArray, List.getElem_cons_zero, List.getElem_cons_succ, List.setIfInBounds_toArray, List.set_cons_zero, List.set_cons_succ]
        refine wpAnyH_take (i := 2) (v := .int .i64 y) rfl (by kernel_rfl) (by kernel_rfl) (by kernel_rfl) (fun _ _ _ h => h) (Or.inl ⟨by rfl, fun w hS => by go_simp⟩) hHeld ?_
        simp only [Act.put, List.getElem_toArray, List.getElem_cons_zero, List.getElem_cons_succ, List.setIfInBounds_toArray, List.set_cons_zero, List.set_cons_succ]
        refine wpAnyH_ready (rs := [3]) (by kernel_rfl) (by simp) ?_
        refine AllReadyH.cons rfl (fun KQ hK => ?_) AllReadyH.nil
        go_simp
        refine (HDP.out _ (grow_trans HQ3.out hHeld)).mono ?_
        rintro e z1 ⟨rfl, a1⟩
        refine hK.out _ _ (grow_trans hHeld a1) (fun hHeld => ?_)
        clear hK KQ
        refine wpAnyH_ready (rs := [4]) (by kernel_rfl) (by simp) ?_
        refine AllReadyH.cons rfl (fun KQ hK => ?_) AllReadyH.nil
        go_simp
        refine (HBT.out _).mono ?_
        rintro e z2 ⟨rfl, a2⟩
        refine hK.out _ _ (grow_trans hHeld a2) (fun hHeld => ?_)
        clear hK KQ
        refine wpAnyH_take (i := 5) (v := .bool false) rfl (by kernel_rfl) (by kernel_rfl) (by kernel_rfl) (fun _ _ _ h => h) (Or.inl ⟨by rfl, fun w hS => by go_simp⟩) hHeld ?_
        simp only [Act.put, List.getElem_toArray, List.getElem_cons_zero, List.getElem_cons_succ, List.setIfInBounds_toArray, List.set_cons_zero, List.set_cons_succ]
        refine wpAnyH_done (by kernel_rfl) ?_ _
        have HH := hidden hHeld
        clear hHeld
        go_wp2_with (go_at_call 49; refine (HSZ.out _ (grow_trans HQ3.out HH.out)).mono ?_; rintro e w4 ⟨rfl, b4⟩; have HBB4 := hidden (grow_trans (grow_trans HBB3.out HH.out) b4); clear b4)
        refine ⟨⟨a + L.ents.length, hr, R, by first | rfl | go_num, rfl, HR, ⟨?_, ?_⟩, HBB4.out⟩, ?_⟩
        · have h9 := HRA.out.1
          simp only [if_true] at h9
          omega
        · have := HRA.out.2
          omega
        · rw [HMR.out, HM1.out]
          omega

end Go.Proofs.YtgfdgjkbcdmboabGreatDoor

/- list.over, From, All, Nth, Some, Between, as contracts. -/
namespace Go.Proofs.YtgfdgjkbcdmboabGreatDoor
set_option maxRecDepth 20000
open Go.RowKit

/-- A root of a store that is looked at. -/
structure LiR (w : World) (pt : Option Addr) (cs : List (Nat × Ce)) (h : Nat) (T : Tre) : Prop where
  vw : Vw w (.pointer pt) true (cot cs) (cat cs)
  wf : ∃ pend, Wf cs pend
  tre : IsT cs h T
  rt : vRt true (cot cs h) (cat cs h) h = 0
  num : T.num ≤ 400000
  few : T.ents.length ≤ 4096
theorem LiR.grow {w w' : World} {pt : Option Addr} {cs : List (Nat × Ce)} {h : Nat} {T : Tre} (r : LiR w pt cs h T) (hb : Below w.heap.size w w') : LiR w' pt cs h T := ⟨r.vw.grow hb, r.wf, r.tre, r.rt, r.num, r.few⟩

section
variable {w : World} {pt : Option Addr} {cs : List (Nat × Ce)} {h : Nat} {T : Tre}
theorem LiR.rank (r : LiR w pt cs h T) (K : List Int) (hK : Key K) : Calls Tryz.prog 24 #[.pointer pt, .int .i64 (h : Int), .agg (B K)] w fun e w' => e = .returned (.tuple #[.int .i64 (T.rk K : Int), .int .i64 0]) ∧ Below w.heap.size w w' := by
  obtain ⟨_, W⟩ := r.wf
  exact rank_any r.vw W h T r.tre K hK r.rt (by have := r.few; omega)
theorem LiR.size (r : LiR w pt cs h T) : Calls Tryz.prog 49 #[.pointer pt, .int .i64 (h : Int)] w fun e w' => e = .returned (.int .i64 (T.ents.length : Int)) ∧ Below w.heap.size w w' := by
  obtain ⟨_, W⟩ := r.wf
  have := size_any r.vw (h : Int)
  rwa [cat_nat, (tree_ok W T h r.tre).sz] at this
theorem LiR.root (r : LiR w pt cs h T) : Calls Tryz.prog 56 #[.pointer pt, .int .i64 (h : Int)] w fun e w' => e = .returned (.int .i64 0) ∧ Below w.heap.size w w' := by
  have := root_any r.vw (h : Int)
  rwa [r.rt] at this
theorem LiR.entries (r : LiR w pt cs h T) (ahead most : Nat) (hah : ahead < 9223372036854775808) : Calls Tryz.prog 48 #[.pointer pt, .int .i64 (h : Int), .int .i64 (ahead : Int), .int .i64 (most : Int)] w (EnPost w ((T.ents.drop ahead).take most)) := by
  obtain ⟨_, W⟩ := r.wf
  exact entries13_any r.vw W h ahead most T r.tre r.num r.few hah
theorem LiR.rkd (r : LiR w pt cs h T) (K : List Int) (hK : Key K) : T.rk K = ahd K T.ents := by
  obtain ⟨_, W⟩ := r.wf
  exact rk_root W K hK r.tre (root_dp r.tre r.rt)
theorem LiR.count (r : LiR w pt cs h T) : Calls Tryz.prog 23 #[.pointer pt, .int .i64 (h : Int)] w fun e w' => e = .returned (.tuple #[.int .i64 (T.ents.length : Int), .int .i64 0]) ∧ Below w.heap.size w w' := by
  obtain ⟨_, W⟩ := r.wf
  have := count13_any r.vw (h : Int) r.rt
  rwa [cat_nat, (tree_ok W T h r.tre).sz] at this
end

/-- What the function of over has caught. -/
def OvAt (w : World) (b : Nat) (es : List Ent) : Prop := ∃ a c V, Blk w b 33 #[.slice a es.length c] ∧ PrAt w (.slice a es.length c) V es
theorem OvAt.grow {w w' : World} {b : Nat} {es : List Ent} (h : OvAt w b es) (hb : Below w.heap.size w w') : OvAt w' b es := by
  obtain ⟨a, c, V, h1, h2⟩ := h
  exact ⟨a, c, V, h1.grow hb, h2.grow hb⟩
/-- What From and All answer. -/
def OvPost (w : World) (es : List Ent) (e : Ending) (w' : World) : Prop := ∃ b, e = .returned (.func (.func 82) #[] #[.pointer (some ⟨b, 0, none⟩)]) ∧ w.heap.size ≤ b ∧ OvAt w' b es ∧ Below w.heap.size w w'

set_option maxHeartbeats 1000000 in
theorem over13_any (a : Option Addr) (n c : Nat) (w : World) : Calls Tryz.prog 47 #[.slice a n c] w fun e w' => e = .returned (.func (.func 82) #[] #[.pointer (some ⟨w.heap.size, 0, none⟩)]) ∧ Blk w' w.heap.size 33 #[.slice a n c] ∧ Below w.heap.size w w' := by
  go_enter Tryz.func47, Tryz.ntmps47
  go_wp2
  go_ret
  exact ⟨rfl, Blk.new _ _ _, grow_alloc _ _⟩

theorem enPost_ov {w w' : World} {es : List Ent} {lv : Value} (h : EnPost w es (.returned lv) w') : ∃ a c V, lv = .slice a es.length c ∧ PrAt w' (.slice a es.length c) V es ∧ Below w.heap.size w w' := by
  obtain ⟨lv', its, e, h1, h2, h3, _, h5⟩ := h
  injection e with e
  subst e
  obtain ⟨a, c, hv⟩ := lst_slice (lst_of7 h2)
  have hl : its.length = es.length := by rw [← h1, List.length_map]
  rw [hl] at hv
  have hp := prAt_own h2 (fun p hp => (h3 p hp).1) (fun p hp => by obtain ⟨_, sp, ho⟩ := h3 p hp; exact ho.reads)
  rw [h1, hv] at hp
  exact ⟨a, c, _, hv, hp, h5⟩

theorem keyB_size {K : List Int} (hK : Key K) : (Tryz.prog.info? 24).map (·.size) = some (B K).size := by rw [B_size, hK.1]; exact size_path

set_option maxHeartbeats 1000000 in
theorem from_any {w : World} {pt : Option Addr} {cs : List (Nat × Ce)} {h : Nat} {T : Tre} (r : LiR w pt cs h T) (K : List Int) (hK : Key K) : Calls Tryz.prog 15 #[.pointer pt, .int .i64 (h : Int), .agg (B K)] w (OvPost w (T.ents.drop (T.rk K))) := by
  have HRK : Hid (∀ w', Below w.heap.size w w' → Calls Tryz.prog 24 #[.pointer pt, .int .i64 (h : Int), .agg (B K)] w' fun e w'' => e = .returned (.tuple #[.int .i64 (T.rk K : Int), .int .i64 0]) ∧ Below w'.heap.size w' w'') := fun w' hb => (r.grow hb).rank K hK
  have HSZ : Hid (∀ w', Below w.heap.size w w' → Calls Tryz.prog 49 #[.pointer pt, .int .i64 (h : Int)] w' fun e w'' => e = .returned (.int .i64 (T.ents.length : Int)) ∧ Below w'.heap.size w' w'') := fun w' hb => (r.grow hb).size
  have HEN : Hid (∀ w', Below w.heap.size w w' → Calls Tryz.prog 48 #[.pointer pt, .int .i64 (h : Int), .int .i64 (T.rk K : Int), .int .i64 (T.ents.length : Int)] w' (EnPost w' (T.ents.drop (T.rk K)))) := fun w' hb => by
    have h1 := r.rkd K hK
    have h2 := ahd_le K T.ents
    have h3 := r.few
    have := (r.grow hb).entries (T.rk K) T.ents.length (by omega)
    rwa [List.take_of_length_le (by rw [List.length_drop]; omega)] at this
  have HPS := hidden (keyB_size hK)
  clear r hK
  generalize T.ents.drop (T.rk K) = es at *
  generalize (T.rk K : Int) = rk at *
  generalize (T.ents.length : Int) = sz at *
  go_enter Tryz.func15, Tryz.ntmps15
  go_wp2_with (first
    | ((with_reducible refine at_bxd 5 ?_); refine wpList_bx _ rfl _ _ rfl _ rfl ?_; intro w1 b5 hg5 hl5 B5 q5; have HB5 := hidden B5; have HQ5 := hidden q5; clear hg5 hl5 B5 q5)
    | ((with_reducible refine at_ldd 12 5 ?_); refine wpList_ld _ rfl _ _ rfl b5 _ rfl HB5.out _ _ Tryz.underlying24 HPS.out ?_)
    | (go_at_call 24; refine (HRK.out _ HQ5.out).mono ?_; rintro e w2 ⟨rfl, b2⟩; have HQ2 := hidden (grow_trans HQ5.out b2); clear b2)
    | (go_at_call 49; refine (HSZ.out _ HQ2.out).mono ?_; rintro e w3 ⟨rfl, b3⟩; have HQ3 := hidden (grow_trans HQ2.out b3); clear b3)
    | (go_at_call 48; refine (HEN.out _ HQ3.out).mono ?_; rintro e w4 hp; obtain ⟨lv, its, rfl, hp'⟩ := id hp; clear hp'; obtain ⟨la, lc, V, rfl, hpr, b4⟩ := enPost_ov hp; have HPR := hidden hpr; have HQ4 := hidden (grow_trans HQ3.out b4); clear hp hpr b4)
    | (go_at_call 47; refine (over13_any _ _ _ _).mono ?_; rintro e w5 ⟨rfl, B6, b6⟩; have HF := hidden (show OvAt w5 w4.heap.size es ∧ Below w.heap.size w w5 ∧ w.heap.size ≤ w4.heap.size from ⟨⟨_, _, V, B6, HPR.out.grow b6⟩, grow_trans HQ4.out b6, HQ4.out.size⟩); clear B6 b6))
  go_ret
  exact ⟨_, rfl, HF.out.2.2, HF.out.1, HF.out.2.1⟩

set_option maxHeartbeats 1000000 in
theorem from_bad {w : World} {v : Value} {mk : Bool} {ct : Int → Nat} {ca : Int → Ce} (V : Vw w v mk ct ca) (h : Int) (K : List Int) (hK : Key K) (e0 : Int) (he : vRt mk (ct h) (ca h) h = e0) (h0 : e0 ≠ 0) : Calls Tryz.prog 15 #[v, .int .i64 h, .agg (B K)] w (OvPost w []) := by
  have HRK : Hid (∀ w', Below w.heap.size w w' → Calls Tryz.prog 24 #[v, .int .i64 h, .agg (B K)] w' fun e w'' => e = .returned (.tuple #[.int .i64 0, .int .i64 e0]) ∧ Below w'.heap.size w' w'') := fun w' hb => rank_bad (V.grow hb) h K e0 he h0
  have HPS := hidden (keyB_size hK)
  have hb0 : (e0 == 0) = false := by simp [h0]
  clear V hK he
  go_enter Tryz.func15, Tryz.ntmps15
  go_wp2_with (first
    | ((with_reducible refine at_bxd 5 ?_); refine wpList_bx _ rfl _ _ rfl _ rfl ?_; intro w1 b5 hg5 hl5 B5 q5; have HB5 := hidden B5; have HQ5 := hidden q5; clear hg5 hl5 B5 q5)
    | ((with_reducible refine at_ldd 12 5 ?_); refine wpList_ld _ rfl _ _ rfl b5 _ rfl HB5.out _ _ Tryz.underlying24 HPS.out ?_)
    | (go_at_call 24; refine (HRK.out _ HQ5.out).mono ?_; rintro e w2 ⟨rfl, b2⟩; have HQ2 := hidden (grow_trans HQ5.out b2); clear b2)
    | (go_at_call 47; refine (over13_any _ _ _ _).mono ?_; rintro e w5 ⟨rfl, B6, b6⟩; have HF := hidden (show OvAt w5 w2.heap.size [] ∧ Below w.heap.size w w5 ∧ w.heap.size ≤ w2.heap.size from ⟨⟨none, 0, fun _ => undef, B6, none, 0, rfl, Nat.le_refl _, fun hp => absurd hp (by simp), fun i hi => absurd hi (by simp)⟩, grow_trans HQ2.out b6, HQ2.out.size⟩); clear B6 b6))
  go_ret
  exact ⟨_, rfl, HF.out.2.2, HF.out.1, HF.out.2.1⟩

theorem built_k0 : Tryz.prog.built 24 [] = some (B z32) := by kernel_rfl
theorem key_z32 : Key z32 := key_zero

/-- All is From the first key. -/
theorem all_of {w : World} {v : Value} {h : Int} {es : List Ent} (H : ∀ w', Below w.heap.size w w' → Calls Tryz.prog 15 #[v, .int .i64 h, .agg (B z32)] w' (OvPost w' es)) : Calls Tryz.prog 14 #[v, .int .i64 h] w (OvPost w es) := by
  have HH := hidden H
  have HB := hidden built_k0
  clear H
  go_enter Tryz.func14, Tryz.ntmps14
  go_wp2_with (first
    | ((with_reducible refine at_bd ?_); refine wpList_bld _ rfl _ _ rfl _ (by rw [List.map_toArray]; exact HB.out) ?_)
    | (go_at_call 15; refine (HH.out _ (Below.refl _ _)).mono ?_; rintro e w2 ⟨b, rfl, h1, h2, h3⟩))
  go_ret
  exact ⟨_, rfl, h1, h2, h3⟩

theorem ahd_z32 (l : List Ent) (h : ∀ e ∈ l, Key e.1) : ahd z32 l = 0 := ahd_none z32 l (fun e he hc => by
  obtain ⟨c, hc1, _, _, hc4⟩ := (cmp_lt (h e he) key_z32).1 hc
  have : kb z32 c = 0 := by
    unfold kb z32
    have : (List.replicate 32 (0 : Int)).getD (c / 8) 0 = 0 := by
      rw [List.getD_eq_getElem?_getD, List.getElem?_replicate]
      split <;> rfl
    rw [this]
    simp [bt]
  omega)
theorem all_any {w : World} {pt : Option Addr} {cs : List (Nat × Ce)} {h : Nat} {T : Tre} (r : LiR w pt cs h T) : Calls Tryz.prog 14 #[.pointer pt, .int .i64 (h : Int)] w (OvPost w T.ents) := all_of fun _ hb => by
  have := from_any (r.grow hb) z32 key_z32
  obtain ⟨_, W⟩ := r.wf
  rwa [r.rkd z32 key_z32, ahd_z32 _ (fun e he => ((tree_ok W T h r.tre).ent e he).1), List.drop_zero] at this
theorem all_bad {w : World} {v : Value} {mk : Bool} {ct : Int → Nat} {ca : Int → Ce} (V : Vw w v mk ct ca) (h : Int) (e0 : Int) (he : vRt mk (ct h) (ca h) h = e0) (h0 : e0 ≠ 0) : Calls Tryz.prog 14 #[v, .int .i64 h] w (OvPost w []) := all_of fun _ hb => from_bad (V.grow hb) h z32 key_z32 e0 he h0

end Go.Proofs.YtgfdgjkbcdmboabGreatDoor
