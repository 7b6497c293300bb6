/- walk.Find, walk.Depth and walk.Way, as contracts. -/
import Derived.Test.YtdpaanidangnlaaGreatDoorWw28
import Derived.Test.YtdpaanidangnlaaGreatDoorWw30
import Derived.Test.YtdpaanidangnlaaGreatDoorWw27
import Derived.Test.YtdpaanidangnlaaGreatDoorWw20
namespace Go.Proofs.YtdpaanidangnlaaGreatDoor
set_option maxRecDepth 20000
open Go.RowKit

/-- The nodes of a way, one by one: its sides, and where it goes on. -/
structure HsAt1 (cs : List (Nat × Ce)) (K : List Int) (hs : List Nat) (fin : Nat) (oth : List Nat) (d k x : Nat) : Prop where
  at_ : hs[k]? = some x
  pos : 1 ≤ x
  occ : 0 < cc cs (x - 1)
  kind : (ce cs (x - 1)).kind = 2
  dp : (ce cs (x - 1)).dp = d + k
  lt : d + k < 256
  oth_ : oth[k]? = some (if kb K (d + k) = 1 then (ce cs (x - 1)).l else (ce cs (x - 1)).r)
  next : (hs ++ [fin])[k + 1]? = some (if kb K (d + k) = 1 then (ce cs (x - 1)).r else (ce cs (x - 1)).l)

theorem hs_head (K : List Int) : ∀ (T : Tre) (h : Nat), (T.hs K h ++ [T.fin K h])[0]? = some h
  | .emp, _ => rfl
  | .lf _ _, _ => rfl
  | .nd _ _ _ _ _, _ => rfl

theorem hs_at {cs : List (Nat × Ce)} {pend : List Nat} (w : Wf cs pend) (K : List Int) : ∀ (T : Tre) (h d : Nat), IsT cs h T → ((sdC cs h).kind = 2 → (sdC cs h).dp = d) → ∀ k, k < (T.hs K h).length → ∃ x, HsAt1 cs K (T.hs K h) (T.fin K h) (T.oth K) d k x
  | .emp, h, d, _, _, k, hk => by simp [Tre.hs] at hk
  | .lf _ _, h, d, _, _, k, hk => by simp [Tre.hs] at hk
  | .nd d hl hr L R, h, d', hT, hd, k, hk => by
    have n := nd_ok w hT
    obtain ⟨h1, h2, h3, h4, h5, h6, h7, h8⟩ := hT
    have es : sdC cs h = ce cs (h - 1) := if_neg (by omega)
    obtain rfl : d = d' := by
      rw [es] at hd
      rw [← h4]
      exact hd h3
    have hdp := n.dp
    cases k with
    | zero =>
      refine ⟨h, rfl, h1, h2, h3, h4, by omega, ?_, ?_⟩
      · rw [Nat.add_zero, h5, h6]
        simp only [Tre.oth]
        split <;> rfl
      · simp only [Nat.add_zero, h5, h6, Tre.hs, Tre.fin]
        by_cases q : kb K d = 1
        · rw [if_pos q, if_pos q, if_pos q, List.cons_append, List.getElem?_cons_succ]
          exact hs_head K R hr
        · rw [if_neg q, if_neg q, if_neg q, List.cons_append, List.getElem?_cons_succ]
          exact hs_head K L hl
    | succ k =>
      by_cases q : kb K d = 1
      · have e1 : Tre.hs K h (.nd d hl hr L R) = h :: R.hs K hr := by simp [Tre.hs, q]
        have e2 : Tre.fin K h (.nd d hl hr L R) = R.fin K hr := by simp [Tre.fin, q]
        have e3 : Tre.oth K (.nd d hl hr L R) = hl :: R.oth K := by simp [Tre.oth, q]
        rw [e1, List.length_cons] at hk
        obtain ⟨x, b1, b2, b3, b4, b5, b6, b7, b8⟩ := hs_at w K R hr (d + 1) h8 n.kr k (by omega)
        have e4 : d + 1 + k = d + (k + 1) := by omega
        rw [e4] at b5 b6 b7 b8
        rw [e1, e2, e3]
        exact ⟨x, by rw [List.getElem?_cons_succ]; exact b1, b2, b3, b4, b5, b6, by rw [List.getElem?_cons_succ]; exact b7, by rw [List.cons_append, List.getElem?_cons_succ]; exact b8⟩
      · have e1 : Tre.hs K h (.nd d hl hr L R) = h :: L.hs K hl := by simp [Tre.hs, q]
        have e2 : Tre.fin K h (.nd d hl hr L R) = L.fin K hl := by simp [Tre.fin, q]
        have e3 : Tre.oth K (.nd d hl hr L R) = hr :: L.oth K := by simp [Tre.oth, q]
        rw [e1, List.length_cons] at hk
        obtain ⟨x, b1, b2, b3, b4, b5, b6, b7, b8⟩ := hs_at w K L hl (d + 1) h7 n.kl k (by omega)
        have e4 : d + 1 + k = d + (k + 1) := by omega
        rw [e4] at b5 b6 b7 b8
        rw [e1, e2, e3]
        exact ⟨x, by rw [List.getElem?_cons_succ]; exact b1, b2, b3, b4, b5, b6, by rw [List.getElem?_cons_succ]; exact b7, by rw [List.cons_append, List.getElem?_cons_succ]; exact b8⟩

/-- A root is one at depth 0. -/
theorem root_dp {cs : List (Nat × Ce)} {h : Nat} {T : Tre} (hT : IsT cs h T) (he : vRt true (cot cs h) (cat cs h) h = 0) : (sdC cs h).kind = 2 → (sdC cs h).dp = 0 := fun k => by
  rw [← cat_nat] at k ⊢
  have h0 : ¬ (h : Int) = 0 := fun e => by
    have : h = 0 := by omega
    subst this
    exact absurd k (by show ¬ zc.kind = 2; decide)
  have hc : ¬ cot cs (h : Int) = 0 := by
    match T, hT with
    | .emp, e => exact absurd (show ((h : Nat) : Int) = 0 by rw [show h = 0 from e]; rfl) h0
    | .lf _ _, ⟨h1, h2, _⟩ => rw [cot, if_pos (by omega), show ((h : Int) - 1).toNat = h - 1 by omega]; omega
    | .nd _ _ _ _ _, ⟨h1, h2, _⟩ => rw [cot, if_pos (by omega), show ((h : Int) - 1).toNat = h - 1 by omega]; omega
  unfold vRt at he
  rw [if_pos rfl, if_neg h0, if_neg hc] at he
  by_cases q : 0 < vDp true (cat cs (h : Int))
  · rw [if_pos q] at he
    omega
  · unfold vDp at q
    rw [if_pos rfl, if_pos k] at q
    omega

/-- What Find tells of the entry with which the way ends. -/
def fnd (l : List Ent) (K : List Int) : List Int × Bool := match l with
  | [e] => if e.1 = K then (e.2, true) else ([], false)
  | _ => ([], false)
def FdPost (r : List Int × Bool) (w : World) (e : Ending) (w' : World) : Prop :=
  ∃ v' sp, e = .returned (.tuple #[v', .bool r.2, .int .i64 0]) ∧ Own w.heap.size w' v' r.1 sp ∧ Below w.heap.size w w'

set_option maxHeartbeats 1000000 in
theorem find_bad {w : World} {v : Value} {mk : Bool} {ct : Int → Nat} {ca : Int → Ce} (V : Vw w v mk ct ca) (h : Int) (K : List Int) (hK : Key K) (e0 : Int) (he : vRt mk (ct h) (ca h) h = e0) (h0 : e0 ≠ 0) : Calls Tryz.prog 18 #[v, .int .i64 h, .agg (B K)] w fun e w' => e = .returned (.tuple #[.slice none 0 0, .bool false, .int .i64 e0]) ∧ Below w.heap.size w w' := by
  have HHD : Hid (∀ w', Below w.heap.size w w' → Calls Tryz.prog 45 #[v, .int .i64 h, .agg (B K)] w' fun e w'' => e = .returned (.tuple #[.slice none 0 0, .int .i64 0, .int .i64 e0]) ∧ Below w'.heap.size w' w'') := fun w' hb => handles_bad (V.grow hb) h K e0 he h0
  have HPS : Hid ((Tryz.prog.info? 31).map (·.size) = some (B K).size) := by show _ = _; rw [B_size, hK.1]; exact size_path
  have hb0 : (e0 == 0) = false := by simp [h0]
  clear V he hK
  go_enter Tryz.func18, Tryz.ntmps18
  go_wp2_with (first
    | ((with_reducible refine at_bxd 5 ?_); refine wpList_bx _ rfl _ _ rfl _ rfl ?_; intro w1 b5 hg5 hl5 B5 q5; have HB5 := hidden B5; have HQ5 := hidden q5; clear hg5 hl5 B5 q5)
    | ((with_reducible refine at_ldd 14 5 ?_); refine wpList_ld _ rfl _ _ rfl b5 _ rfl HB5.out _ _ Tryz.underlying31 HPS.out ?_)
    | (go_at_call 45; refine (HHD.out _ HQ5.out).mono ?_; rintro e w2 ⟨rfl, b2⟩; have HQ2 := hidden (grow_trans HQ5.out b2); clear b2))
  refine wp_region_held_drew (S := fun w' => Below w2.heap.size w2 w') (by kernel_rfl) ((below_drewN (Below.refl _ _) 1)) (fun hHeld => ?_)
  refine wpAnyH_take (i := 0) (v := .int .i64 e0) rfl (by kernel_rfl) (by kernel_rfl) (by kernel_rfl) (fun _ _ _ h => h) (Or.inl ⟨by rfl, fun w hS => by go_simp⟩) hHeld ?_
  simp only [Act.put, List.getElem_toArray, List.getElem_cons_zero, List.setIfInBounds_toArray, List.set_cons_zero, List.set_cons_succ]
  refine wpAnyH_take (i := 1) (v := .bool true) rfl (by kernel_rfl) (by kernel_rfl) (by kernel_rfl) (fun _ _ _ h => h) (Or.inl ⟨by rfl, fun w hS => by go_simp⟩) hHeld ?_
  simp only [Act.put, List.getElem_toArray, List.getElem_cons_zero, List.getElem_cons_succ, List.setIfInBounds_toArray, List.set_cons_zero, List.set_cons_succ]
  refine wpAnyH_take (i := 2) (v := .bool true) rfl (by kernel_rfl) (by kernel_rfl) (by kernel_rfl) (fun _ _ _ h => h) (Or.inl ⟨by rfl, fun w hS => by go_simp⟩) hHeld ?_
  simp only [Act.put, List.getElem_toArray, List.getElem_cons_zero, List.getElem_cons_succ, List.setIfInBounds_toArray, List.set_cons_zero, List.set_cons_succ]
  refine wpAnyH_take (i := 3) (v := undef) rfl (by kernel_rfl) (by kernel_rfl) (by kernel_rfl) (fun _ _ _ h => h) (Or.inr ⟨by rfl, rfl⟩) hHeld ?_
  simp only [Act.put, List.getElem_toArray, List.getElem_cons_zero, List.getElem_cons_succ, List.setIfInBounds_toArray, List.set_cons_zero, List.set_cons_succ]
  refine wpAnyH_take (i := 4) (v := undef) rfl (by kernel_rfl) (by kernel_rfl) (by kernel_rfl) (fun _ _ _ h => h) (Or.inr ⟨by rfl, rfl⟩) hHeld ?_
  simp only [Act.put, List.getElem_toArray, List.getElem_cons_zero, List.getElem_cons_succ, List.setIfInBounds_toArray, List.set_cons_zero, List.set_cons_succ]
  refine wpAnyH_take (i := 5) (v := undef) rfl (by kernel_rfl) (by kernel_rfl) (by kernel_rfl) (fun _ _ _ h => h) (Or.inr ⟨by rfl, rfl⟩) hHeld ?_
  simp only [Act.put, List.getElem_toArray, List.getElem_cons_zero, List.getElem_cons_succ, List.setIfInBounds_toArray, List.set_cons_zero, List.set_cons_succ]
  refine wpAnyH_take (i := 6) (v := undef) rfl (by kernel_rfl) (by kernel_rfl) (by kernel_rfl) (fun _ _ _ h => h) (Or.inr ⟨by rfl, rfl⟩) hHeld ?_
  simp only [Act.put, List.getElem_toArray, List.getElem_cons_zero, List.getElem_cons_succ, List.setIfInBounds_toArray, List.set_cons_zero, List.set_cons_succ]
  refine wpAnyH_take (i := 7) (v := .bool true) rfl (by kernel_rfl) (by kernel_rfl) (by kernel_rfl) (fun _ _ _ h => h) (Or.inl ⟨by rfl, fun w hS => by go_simp⟩) hHeld ?_
  simp only [Act.put, List.getElem_toArray, List.getElem_cons_zero, List.getElem_cons_succ, List.setIfInBounds_toArray, List.set_cons_zero, List.set_cons_succ]
  refine wpAnyH_take (i := 8) (v := .bool true) rfl (by kernel_rfl) (by kernel_rfl) (by kernel_rfl) (fun _ _ _ h => h) (Or.inl ⟨by rfl, fun w hS => by go_simp⟩) hHeld ?_
  simp only [Act.put, List.getElem_toArray, List.getElem_cons_zero, List.getElem_cons_succ, List.setIfInBounds_toArray, List.set_cons_zero, List.set_cons_succ]
  refine wpAnyH_take (i := 9) (v := undef) rfl (by kernel_rfl) (by kernel_rfl) (by kernel_rfl) (fun _ _ _ h => h) (Or.inr ⟨by rfl, rfl⟩) hHeld ?_
  simp only [Act.put, List.getElem_toArray, List.getElem_cons_zero, List.getElem_cons_succ, List.setIfInBounds_toArray, List.set_cons_zero, List.set_cons_succ]
  refine wpAnyH_take (i := 10) (v := undef) rfl (by kernel_rfl) (by kernel_rfl) (by kernel_rfl) (fun _ _ _ h => h) (Or.inr ⟨by rfl, rfl⟩) hHeld ?_
  simp only [Act.put, List.getElem_toArray, List.getElem_cons_zero, List.getElem_cons_succ, List.setIfInBounds_toArray, List.set_cons_zero, List.set_cons_succ]
  refine wpAnyH_take (i := 11) (v := undef) rfl (by kernel_rfl) (by kernel_rfl) (by kernel_rfl) (fun _ _ _ h => h) (Or.inr ⟨by rfl, rfl⟩) hHeld ?_
  simp only [Act.put, List.getElem_toArray, List.getElem_cons_zero, List.getElem_cons_succ, List.setIfInBounds_toArray, List.set_cons_zero, List.set_cons_succ]
  refine wpAnyH_take (i := 12) (v := undef) rfl (by kernel_rfl) (by kernel_rfl) (by kernel_rfl) (fun _ _ _ h => h) (Or.inr ⟨by rfl, rfl⟩) hHeld ?_
  simp only [Act.put, List.getElem_toArray, List.getElem_cons_zero, List.getElem_cons_succ, List.setIfInBounds_toArray, List.set_cons_zero, List.set_cons_succ]
  refine wpAnyH_take (i := 13) (v := undef) rfl (by kernel_rfl) (by kernel_rfl) (by kernel_rfl) (fun _ _ _ h => h) (Or.inr ⟨by rfl, rfl⟩) hHeld ?_
  simp only [Act.put, List.getElem_toArray, List.getElem_cons_zero, List.getElem_cons_succ, List.setIfInBounds_toArray, List.set_cons_zero, List.set_cons_succ]
  refine wpAnyH_take (i := 14) (v := .bool true) rfl (by kernel_rfl) (by kernel_rfl) (by kernel_rfl) (fun _ _ _ h => h) (Or.inl ⟨by rfl, fun w hS => by go_simp⟩) hHeld ?_
  simp only [Act.put, List.getElem_toArray, List.getElem_cons_zero, List.getElem_cons_succ, List.setIfInBounds_toArray, List.set_cons_zero, List.set_cons_succ]
  refine wpAnyH_done (by kernel_rfl) ?_ _
  go_wp2
  go_ret3
  exact ⟨rfl, grow_trans HQ2.out hHeld⟩

set_option maxHeartbeats 2000000 in
theorem find_any {w : World} {v : Value} {cs : List (Nat × Ce)} {pend : List Nat} (V : Vw w v true (cot cs) (cat cs)) (W : Wf cs pend) (h : Nat) (T : Tre) (hT : IsT cs h T) (K : List Int) (hK : Key K) (he : vRt true (cot cs h) (cat cs h) h = 0) : Calls Tryz.prog 18 #[v, .int .i64 (h : Int), .agg (B K)] w (FdPost (fnd (T.efin K) K) w) := by
  have HHD : Hid (∀ w', Below w.heap.size w w' → Calls Tryz.prog 45 #[v, .int .i64 (h : Int), .agg (B K)] w' (HdPost (T.hs K h) (T.fin K h) w')) := fun w' hb => handles_any (V.grow hb) W h T hT K hK he
  have HPL := hidden (pth_ln K hK.1)
  have HPS : Hid ((Tryz.prog.info? 31).map (·.size) = some (B K).size) := by show _ = _; rw [B_size, hK.1]; exact size_path
  have hfin := fin_is K T h hT
  have HV := hidden V
  obtain ⟨hs, hhs⟩ : ∃ l, l = T.hs K h := ⟨_, rfl⟩
  rw [← hhs] at HHD
  obtain ⟨x, hx⟩ : ∃ x, x = T.fin K h := ⟨_, rfl⟩
  rw [← hx] at HHD hfin
  obtain ⟨hh, hhe⟩ : ∃ y : Int, y = (h : Int) := ⟨_, rfl⟩
  rw [← hhe] at HHD
  rw [← hhe]
  have HKL := hidden hK.1
  clear V W hT he hhs hx hK
  generalize HFE : (x : Int) = y at HHD
  have HFY := hidden HFE
  clear HFE
  rcases hfin with ⟨hx0, hf⟩ | ⟨k, b, hf, h1, h2, h3, h4, h5⟩
  · rw [hf]
    have HKD : Hid (∀ w', Below w.heap.size w w' → Calls Tryz.prog 55 #[v, .int .i64 y] w' fun e w'' => e = .returned (.int .u8 0) ∧ Below w'.heap.size w' w'') := fun w' hb => by
      have := kind_any (HV.out.grow hb) y
      rwa [show (cat cs y).kind = 0 by rw [← HFY.out, hx0]; rfl] at this
    have HPost : Hid (∀ w', Below w.heap.size w w' → FdPost (fnd [] K) w (.returned (.tuple #[.slice none 0 0, .bool false, .int .i64 0])) w') := fun w' hb => ⟨_, [], rfl, Own.nil _ _, hb⟩
    generalize FdPost (fnd [] K) w = P at HPost ⊢
    clear hf HV hhe hx0 HFY
    go_enter Tryz.func18, Tryz.ntmps18
    go_wp2_with (first
      | ((with_reducible refine at_bxd 5 ?_); refine wpList_bx _ rfl _ _ rfl _ rfl ?_; intro w1 b5 hg5 hl5 B5 q5; have HB5 := hidden B5; have HQ5 := hidden q5; clear hg5 hl5 B5 q5)
      | ((with_reducible refine at_ldd 14 5 ?_); refine wpList_ld _ rfl _ _ rfl b5 _ rfl HB5.out _ _ Tryz.underlying31 HPS.out ?_)
      | (go_at_call 45; refine (HHD.out _ HQ5.out).mono ?_; rintro e w2 ⟨a2, c2, rfl, o2, b2⟩; have HB52 := hidden (HB5.out.grow b2); have HQ2 := hidden (grow_trans HQ5.out b2); clear b2 o2))
    refine wp_region_held_drew (S := fun w' => Below w2.heap.size w2 w') (by kernel_rfl) ((below_drewN (Below.refl _ _) 1)) (fun hHeld => ?_)
    refine wpAnyH_take (i := 0) (v := .int .i64 0) rfl (by kernel_rfl) (by kernel_rfl) (by kernel_rfl) (fun _ _ _ h => h) (Or.inl ⟨by rfl, fun w hS => by go_simp⟩) hHeld ?_
    simp only [Act.put, List.getElem_toArray, List.getElem_cons_zero, List.setIfInBounds_toArray, List.set_cons_zero, List.set_cons_succ]
    refine wpAnyH_take (i := 1) (v := .bool false) rfl (by kernel_rfl) (by kernel_rfl) (by kernel_rfl) (fun _ _ _ h => h) (Or.inl ⟨by rfl, fun w hS => by go_simp⟩) hHeld ?_
    simp only [Act.put, List.getElem_toArray, List.getElem_cons_zero, List.getElem_cons_succ, List.setIfInBounds_toArray, List.set_cons_zero, List.set_cons_succ]
    refine wpAnyH_take (i := 2) (v := .bool false) rfl (by kernel_rfl) (by kernel_rfl) (by kernel_rfl) (fun _ _ _ h => h) (Or.inl ⟨by rfl, fun w hS => by go_simp⟩) hHeld ?_
    simp only [Act.put, List.getElem_toArray, List.getElem_cons_zero, List.getElem_cons_succ, List.setIfInBounds_toArray, List.set_cons_zero, List.set_cons_succ]
    refine wpAnyH_take (i := 3) (v := v) rfl (by kernel_rfl) (by kernel_rfl) (by kernel_rfl) (fun _ _ _ h => h) (Or.inl ⟨by rfl, fun w hS => by go_simp⟩) hHeld ?_
    simp only [Act.put, List.getElem_toArray, List.getElem_cons_zero, List.getElem_cons_succ, List.setIfInBounds_toArray, List.set_cons_zero, List.set_cons_succ]
    refine wpAnyH_take (i := 4) (v := .int .i64 y) rfl (by kernel_rfl) (by kernel_rfl) (by kernel_rfl) (fun _ _ _ h => h) (Or.inl ⟨by rfl, fun w hS => by go_simp⟩) hHeld ?_
    simp only [Act.put, List.getElem_toArray, List.getElem_cons_zero, List.getElem_cons_succ, List.setIfInBounds_toArray, List.set_cons_zero, List.set_cons_succ]
    refine wpAnyH_ready (rs := [5]) (by kernel_rfl) (by simp) ?_
    refine AllReadyH.cons rfl (fun KQ hK => ?_) AllReadyH.nil
    go_simp
    refine (HKD.out _ (grow_trans HQ2.out hHeld)).mono ?_
    rintro e z1 ⟨rfl, a1⟩
    refine hK.out _ _ (grow_trans hHeld a1) (fun hHeld => ?_)
    clear hK KQ
    refine wpAnyH_take (i := 6) (v := .bool true) rfl (by kernel_rfl) (by kernel_rfl) (by kernel_rfl) (fun _ _ _ h => h) (Or.inl ⟨by rfl, fun w hS => by go_simp⟩) hHeld ?_
    simp only [Act.put, List.getElem_toArray, List.getElem_cons_zero, List.getElem_cons_succ, List.setIfInBounds_toArray, List.set_cons_zero, List.set_cons_succ]
    refine wpAnyH_take (i := 7) (v := .bool true) rfl (by kernel_rfl) (by kernel_rfl) (by kernel_rfl) (fun _ _ _ h => h) (Or.inl ⟨by rfl, fun w hS => by go_simp⟩) hHeld ?_
    simp only [Act.put, List.getElem_toArray, List.getElem_cons_zero, List.getElem_cons_succ, List.setIfInBounds_toArray, List.set_cons_zero, List.set_cons_succ]
    refine wpAnyH_take (i := 8) (v := .bool true) rfl (by kernel_rfl) (by kernel_rfl) (by kernel_rfl) (fun _ _ _ h => h) (Or.inl ⟨by rfl, fun w hS => by go_simp⟩) hHeld ?_
    simp only [Act.put, List.getElem_toArray, List.getElem_cons_zero, List.getElem_cons_succ, List.setIfInBounds_toArray, List.set_cons_zero, List.set_cons_succ]
    refine wpAnyH_take (i := 9) (v := undef) rfl (by kernel_rfl) (by kernel_rfl) (by kernel_rfl) (fun _ _ _ h => h) (Or.inr ⟨by rfl, rfl⟩) hHeld ?_
    simp only [Act.put, List.getElem_toArray, List.getElem_cons_zero, List.getElem_cons_succ, List.setIfInBounds_toArray, List.set_cons_zero, List.set_cons_succ]
    refine wpAnyH_take (i := 10) (v := undef) rfl (by kernel_rfl) (by kernel_rfl) (by kernel_rfl) (fun _ _ _ h => h) (Or.inr ⟨by rfl, rfl⟩) hHeld ?_
    simp only [Act.put, List.getElem_toArray, List.getElem_cons_zero, List.getElem_cons_succ, List.setIfInBounds_toArray, List.set_cons_zero, List.set_cons_succ]
    refine wpAnyH_take (i := 11) (v := undef) rfl (by kernel_rfl) (by kernel_rfl) (by kernel_rfl) (fun _ _ _ h => h) (Or.inr ⟨by rfl, rfl⟩) hHeld ?_
    simp only [Act.put, List.getElem_toArray, List.getElem_cons_zero, List.getElem_cons_succ, List.setIfInBounds_toArray, List.set_cons_zero, List.set_cons_succ]
    refine wpAnyH_take (i := 12) (v := undef) rfl (by kernel_rfl) (by kernel_rfl) (by kernel_rfl) (fun _ _ _ h => h) (Or.inr ⟨by rfl, rfl⟩) hHeld ?_
    simp only [Act.put, List.getElem_toArray, List.getElem_cons_zero, List.getElem_cons_succ, List.setIfInBounds_toArray, List.set_cons_zero, List.set_cons_succ]
    refine wpAnyH_take (i := 13) (v := undef) rfl (by kernel_rfl) (by kernel_rfl) (by kernel_rfl) (fun _ _ _ h => h) (Or.inr ⟨by rfl, rfl⟩) hHeld ?_
    simp only [Act.put, List.getElem_toArray, List.getElem_cons_zero, List.getElem_cons_succ, List.setIfInBounds_toArray, List.set_cons_zero, List.set_cons_succ]
    refine wpAnyH_take (i := 14) (v := .bool true) rfl (by kernel_rfl) (by kernel_rfl) (by kernel_rfl) (fun _ _ _ h => h) (Or.inl ⟨by rfl, fun w hS => by go_simp⟩) hHeld ?_
    simp only [Act.put, List.getElem_toArray, List.getElem_cons_zero, List.getElem_cons_succ, List.setIfInBounds_toArray, List.set_cons_zero, List.set_cons_succ]
    refine wpAnyH_done (by kernel_rfl) ?_ _
    go_wp2
    go_ret3
    exact HPost.out _ (grow_trans HQ2.out hHeld)
  · rw [hf]
    have hca : cat cs y = ce cs (x - 1) := by rw [← HFY.out]; exact cat_is h1
    have HKD : Hid (∀ w', Below w.heap.size w w' → Calls Tryz.prog 55 #[v, .int .i64 y] w' fun e w'' => e = .returned (.int .u8 1) ∧ Below w'.heap.size w' w'') := fun w' hb => by
      have := kind_any (HV.out.grow hb) y
      rwa [show (cat cs y).kind = 1 by rw [hca]; exact h3] at this
    have HKY : Hid (∀ w', Below w.heap.size w w' → Calls Tryz.prog 56 #[v, .int .i64 y] w' fun e w'' => e = .returned (.agg (B k)) ∧ Below w'.heap.size w' w'') := fun w' hb => by
      have := key_any (HV.out.grow hb) y
      rwa [show (cat cs y).key = k by rw [hca]; exact h4] at this
    have HVA : Hid (∀ w', Below w.heap.size w w' → Calls Tryz.prog 57 #[v, .int .i64 y] w' fun e w'' => ∃ v' sp, e = .returned v' ∧ Own w'.heap.size w'' v' b sp ∧ Below w'.heap.size w' w'') := fun w' hb => by
      have := valueS_any (HV.out.grow hb) y
      rwa [show (cat cs y).bs = b by rw [hca]; exact h5] at this
    have hkl : k.length = 32 := by have := (HV.out.ok y).hk.1; rwa [hca, h4] at this
    have hE := path_eq k K hkl HKL.out
    by_cases hq : k = K
    · have HPost : Hid (∀ w' v' sp, Own w.heap.size w' v' b sp → Below w.heap.size w w' → FdPost (fnd [(k, b)] K) w (.returned (.tuple #[v', .bool true, .int .i64 0])) w') := fun w' v' sp ho hb => ⟨v', sp, by simp [fnd, hq], by simpa [fnd, hq] using ho, hb⟩
      generalize FdPost (fnd [(k, b)] K) w = P at HPost ⊢
      simp only [hq, decide_true] at hE
      rw [hq] at HKY
      clear hf HV hhe HFY hca h1 h2 h3 h4 h5 hkl hq
      go_enter Tryz.func18, Tryz.ntmps18
      go_wp2_with (first
        | ((with_reducible refine at_bxd 5 ?_); refine wpList_bx _ rfl _ _ rfl _ rfl ?_; intro w1 b5 hg5 hl5 B5 q5; have HB5 := hidden B5; have HQ5 := hidden q5; clear hg5 hl5 B5 q5)
        | ((with_reducible refine at_ldd 14 5 ?_); refine wpList_ld _ rfl _ _ rfl b5 _ rfl HB5.out _ _ Tryz.underlying31 HPS.out ?_)
        | (go_at_call 45; refine (HHD.out _ HQ5.out).mono ?_; rintro e w2 ⟨a2, c2, rfl, o2, b2⟩; have HB52 := hidden (HB5.out.grow b2); have HQ2 := hidden (grow_trans HQ5.out b2); clear b2 o2))
      refine wp_region_held_drew (S := fun w' => Below w2.heap.size w2 w') (by kernel_rfl) ((below_drewN (Below.refl _ _) 1)) (fun hHeld => ?_)
      refine wpAnyH_take (i := 0) (v := .int .i64 0) rfl (by kernel_rfl) (by kernel_rfl) (by kernel_rfl) (fun _ _ _ h => h) (Or.inl ⟨by rfl, fun w hS => by go_simp⟩) hHeld ?_
      simp only [Act.put, List.getElem_toArray, List.getElem_cons_zero, List.setIfInBounds_toArray, List.set_cons_zero, List.set_cons_succ]
      refine wpAnyH_take (i := 1) (v := .bool false) rfl (by kernel_rfl) (by kernel_rfl) (by kernel_rfl) (fun _ _ _ h => h) (Or.inl ⟨by rfl, fun w hS => by go_simp⟩) hHeld ?_
      simp only [Act.put, List.getElem_toArray, List.getElem_cons_zero, List.getElem_cons_succ, List.setIfInBounds_toArray, List.set_cons_zero, List.set_cons_succ]
      refine wpAnyH_take (i := 2) (v := .bool false) rfl (by kernel_rfl) (by kernel_rfl) (by kernel_rfl) (fun _ _ _ h => h) (Or.inl ⟨by rfl, fun w hS => by go_simp⟩) hHeld ?_
      simp only [Act.put, List.getElem_toArray, List.getElem_cons_zero, List.getElem_cons_succ, List.setIfInBounds_toArray, List.set_cons_zero, List.set_cons_succ]
      refine wpAnyH_take (i := 3) (v := v) rfl (by kernel_rfl) (by kernel_rfl) (by kernel_rfl) (fun _ _ _ h => h) (Or.inl ⟨by rfl, fun w hS => by go_simp⟩) hHeld ?_
      simp only [Act.put, List.getElem_toArray, List.getElem_cons_zero, List.getElem_cons_succ, List.setIfInBounds_toArray, List.set_cons_zero, List.set_cons_succ]
      refine wpAnyH_take (i := 4) (v := .int .i64 y) rfl (by kernel_rfl) (by kernel_rfl) (by kernel_rfl) (fun _ _ _ h => h) (Or.inl ⟨by rfl, fun w hS => by go_simp⟩) hHeld ?_
      simp only [Act.put, List.getElem_toArray, List.getElem_cons_zero, List.getElem_cons_succ, List.setIfInBounds_toArray, List.set_cons_zero, List.set_cons_succ]
      refine wpAnyH_ready (rs := [5]) (by kernel_rfl) (by simp) ?_
      refine AllReadyH.cons rfl (fun KQ hK => ?_) AllReadyH.nil
      go_simp
      refine (HKD.out _ (grow_trans HQ2.out hHeld)).mono ?_
      rintro e z1 ⟨rfl, a1⟩
      refine hK.out _ _ (grow_trans hHeld a1) (fun hHeld => ?_)
      clear hK KQ
      refine wpAnyH_take (i := 6) (v := .bool false) rfl (by kernel_rfl) (by kernel_rfl) (by kernel_rfl) (fun _ _ _ h => h) (Or.inl ⟨by rfl, fun w hS => by go_simp⟩) hHeld ?_
      simp only [Act.put, List.getElem_toArray, List.getElem_cons_zero, List.getElem_cons_succ, List.setIfInBounds_toArray, List.set_cons_zero, List.set_cons_succ]
      refine wpAnyH_take (i := 7) (v := .bool false) rfl (by kernel_rfl) (by kernel_rfl) (by kernel_rfl) (fun _ _ _ h => h) (Or.inl ⟨by rfl, fun w hS => by go_simp⟩) hHeld ?_
      simp only [Act.put, List.getElem_toArray, List.getElem_cons_zero, List.getElem_cons_succ, List.setIfInBounds_toArray, List.set_cons_zero, List.set_cons_succ]
      refine wpAnyH_take (i := 8) (v := .bool false) rfl (by kernel_rfl) (by kernel_rfl) (by kernel_rfl) (fun _ _ _ h => h) (Or.inl ⟨by rfl, fun w hS => by go_simp⟩) hHeld ?_
      simp only [Act.put, List.getElem_toArray, List.getElem_cons_zero, List.getElem_cons_succ, List.setIfInBounds_toArray, List.set_cons_zero, List.set_cons_succ]
      refine wpAnyH_take (i := 9) (v := v) rfl (by kernel_rfl) (by kernel_rfl) (by kernel_rfl) (fun _ _ _ h => h) (Or.inl ⟨by rfl, fun w hS => by go_simp⟩) hHeld ?_
      simp only [Act.put, List.getElem_toArray, List.getElem_cons_zero, List.getElem_cons_succ, List.setIfInBounds_toArray, List.set_cons_zero, List.set_cons_succ]
      refine wpAnyH_take (i := 10) (v := .int .i64 y) rfl (by kernel_rfl) (by kernel_rfl) (by kernel_rfl) (fun _ _ _ h => h) (Or.inl ⟨by rfl, fun w hS => by go_simp⟩) hHeld ?_
      simp only [Act.put, List.getElem_toArray, List.getElem_cons_zero, List.getElem_cons_succ, List.setIfInBounds_toArray, List.set_cons_zero, List.set_cons_succ]
      refine wpAnyH_take (i := 12) (v := .agg (B K)) rfl (by kernel_rfl) (by kernel_rfl) (by kernel_rfl) (fun _ _ _ h => h) (yieldsIf_load_mid rfl 31 (.tmp 5) rfl b5 0 rfl (B K).toList _ (fun w hS => (HB52.out.grow hS).range) Tryz.underlying31 rfl HPL.out) hHeld ?_
      simp only [Act.put, List.getElem_toArray, List.getElem_cons_zero, List.getElem_cons_succ, List.setIfInBounds_toArray, List.set_cons_zero, List.set_cons_succ]
      refine wpAnyH_ready (rs := [11]) (by kernel_rfl) (by simp) ?_
      refine AllReadyH.cons rfl (fun KQ hK => ?_) AllReadyH.nil
      go_simp
      refine (HKY.out _ (grow_trans HQ2.out hHeld)).mono ?_
      rintro e z2 ⟨rfl, a2⟩
      refine hK.out _ _ (grow_trans hHeld a2) (fun hHeld => ?_)
      clear hK KQ
      refine wpAnyH_take (i := 13) (v := .bool false) rfl (by kernel_rfl) (by kernel_rfl) (by kernel_rfl) (fun _ _ _ h => h) (Or.inl ⟨by rfl, fun w hS => by go_simp⟩) hHeld ?_
      simp only [Act.put, List.getElem_toArray, List.getElem_cons_zero, List.getElem_cons_succ, List.setIfInBounds_toArray, List.set_cons_zero, List.set_cons_succ]
      refine wpAnyH_take (i := 14) (v := .bool false) rfl (by kernel_rfl) (by kernel_rfl) (by kernel_rfl) (fun _ _ _ h => h) (Or.inl ⟨by rfl, fun w hS => by go_simp⟩) hHeld ?_
      simp only [Act.put, List.getElem_toArray, List.getElem_cons_zero, List.getElem_cons_succ, List.setIfInBounds_toArray, List.set_cons_zero, List.set_cons_succ]
      refine wpAnyH_done (by kernel_rfl) ?_ _
      have HH := hidden hHeld
      clear hHeld
      go_wp2_with (go_at_call 57; refine (HVA.out _ (grow_trans HQ2.out HH.out)).mono ?_; rintro e w7 ⟨v7, sp7, rfl, o7, b7⟩)
      go_ret3
      exact HPost.out _ _ sp7 (o7.mono (grow_trans HQ2.out HH.out).size) (grow_trans (grow_trans HQ2.out HH.out) b7)
    · have HPost : Hid (∀ w', Below w.heap.size w w' → FdPost (fnd [(k, b)] K) w (.returned (.tuple #[.slice none 0 0, .bool false, .int .i64 0])) w') := fun w' hb => ⟨.slice none 0 0, [], by simp [fnd, hq], by simp only [fnd, hq, if_false]; exact Own.nil _ _, hb⟩
      generalize FdPost (fnd [(k, b)] K) w = P at HPost ⊢
      simp only [hq, decide_false] at hE
      clear hf HV hhe HFY hca h1 h2 h3 h4 h5 hkl hq HVA
      go_enter Tryz.func18, Tryz.ntmps18
      go_wp2_with (first
        | ((with_reducible refine at_bxd 5 ?_); refine wpList_bx _ rfl _ _ rfl _ rfl ?_; intro w1 b5 hg5 hl5 B5 q5; have HB5 := hidden B5; have HQ5 := hidden q5; clear hg5 hl5 B5 q5)
        | ((with_reducible refine at_ldd 14 5 ?_); refine wpList_ld _ rfl _ _ rfl b5 _ rfl HB5.out _ _ Tryz.underlying31 HPS.out ?_)
        | (go_at_call 45; refine (HHD.out _ HQ5.out).mono ?_; rintro e w2 ⟨a2, c2, rfl, o2, b2⟩; have HB52 := hidden (HB5.out.grow b2); have HQ2 := hidden (grow_trans HQ5.out b2); clear b2 o2))
      refine wp_region_held_drew (S := fun w' => Below w2.heap.size w2 w') (by kernel_rfl) ((below_drewN (Below.refl _ _) 1)) (fun hHeld => ?_)
      refine wpAnyH_take (i := 0) (v := .int .i64 0) rfl (by kernel_rfl) (by kernel_rfl) (by kernel_rfl) (fun _ _ _ h => h) (Or.inl ⟨by rfl, fun w hS => by go_simp⟩) hHeld ?_
      simp only [Act.put, List.getElem_toArray, List.getElem_cons_zero, List.setIfInBounds_toArray, List.set_cons_zero, List.set_cons_succ]
      refine wpAnyH_take (i := 1) (v := .bool false) rfl (by kernel_rfl) (by kernel_rfl) (by kernel_rfl) (fun _ _ _ h => h) (Or.inl ⟨by rfl, fun w hS => by go_simp⟩) hHeld ?_
      simp only [Act.put, List.getElem_toArray, List.getElem_cons_zero, List.getElem_cons_succ, List.setIfInBounds_toArray, List.set_cons_zero, List.set_cons_succ]
      refine wpAnyH_take (i := 2) (v := .bool false) rfl (by kernel_rfl) (by kernel_rfl) (by kernel_rfl) (fun _ _ _ h => h) (Or.inl ⟨by rfl, fun w hS => by go_simp⟩) hHeld ?_
      simp only [Act.put, List.getElem_toArray, List.getElem_cons_zero, List.getElem_cons_succ, List.setIfInBounds_toArray, List.set_cons_zero, List.set_cons_succ]
      refine wpAnyH_take (i := 3) (v := v) rfl (by kernel_rfl) (by kernel_rfl) (by kernel_rfl) (fun _ _ _ h => h) (Or.inl ⟨by rfl, fun w hS => by go_simp⟩) hHeld ?_
      simp only [Act.put, List.getElem_toArray, List.getElem_cons_zero, List.getElem_cons_succ, List.setIfInBounds_toArray, List.set_cons_zero, List.set_cons_succ]
      refine wpAnyH_take (i := 4) (v := .int .i64 y) rfl (by kernel_rfl) (by kernel_rfl) (by kernel_rfl) (fun _ _ _ h => h) (Or.inl ⟨by rfl, fun w hS => by go_simp⟩) hHeld ?_
      simp only [Act.put, List.getElem_toArray, List.getElem_cons_zero, List.getElem_cons_succ, List.setIfInBounds_toArray, List.set_cons_zero, List.set_cons_succ]
      refine wpAnyH_ready (rs := [5]) (by kernel_rfl) (by simp) ?_
      refine AllReadyH.cons rfl (fun KQ hK => ?_) AllReadyH.nil
      go_simp
      refine (HKD.out _ (grow_trans HQ2.out hHeld)).mono ?_
      rintro e z1 ⟨rfl, a1⟩
      refine hK.out _ _ (grow_trans hHeld a1) (fun hHeld => ?_)
      clear hK KQ
      refine wpAnyH_take (i := 6) (v := .bool false) rfl (by kernel_rfl) (by kernel_rfl) (by kernel_rfl) (fun _ _ _ h => h) (Or.inl ⟨by rfl, fun w hS => by go_simp⟩) hHeld ?_
      simp only [Act.put, List.getElem_toArray, List.getElem_cons_zero, List.getElem_cons_succ, List.setIfInBounds_toArray, List.set_cons_zero, List.set_cons_succ]
      refine wpAnyH_take (i := 7) (v := .bool false) rfl (by kernel_rfl) (by kernel_rfl) (by kernel_rfl) (fun _ _ _ h => h) (Or.inl ⟨by rfl, fun w hS => by go_simp⟩) hHeld ?_
      simp only [Act.put, List.getElem_toArray, List.getElem_cons_zero, List.getElem_cons_succ, List.setIfInBounds_toArray, List.set_cons_zero, List.set_cons_succ]
      refine wpAnyH_take (i := 8) (v := .bool false) rfl (by kernel_rfl) (by kernel_rfl) (by kernel_rfl) (fun _ _ _ h => h) (Or.inl ⟨by rfl, fun w hS => by go_simp⟩) hHeld ?_
      simp only [Act.put, List.getElem_toArray, List.getElem_cons_zero, List.getElem_cons_succ, List.setIfInBounds_toArray, List.set_cons_zero, List.set_cons_succ]
      refine wpAnyH_take (i := 9) (v := v) rfl (by kernel_rfl) (by kernel_rfl) (by kernel_rfl) (fun _ _ _ h => h) (Or.inl ⟨by rfl, fun w hS => by go_simp⟩) hHeld ?_
      simp only [Act.put, List.getElem_toArray, List.getElem_cons_zero, List.getElem_cons_succ, List.setIfInBounds_toArray, List.set_cons_zero, List.set_cons_succ]
      refine wpAnyH_take (i := 10) (v := .int .i64 y) rfl (by kernel_rfl) (by kernel_rfl) (by kernel_rfl) (fun _ _ _ h => h) (Or.inl ⟨by rfl, fun w hS => by go_simp⟩) hHeld ?_
      simp only [Act.put, List.getElem_toArray, List.getElem_cons_zero, List.getElem_cons_succ, List.setIfInBounds_toArray, List.set_cons_zero, List.set_cons_succ]
      refine wpAnyH_take (i := 12) (v := .agg (B K)) rfl (by kernel_rfl) (by kernel_rfl) (by kernel_rfl) (fun _ _ _ h => h) (yieldsIf_load_mid rfl 31 (.tmp 5) rfl b5 0 rfl (B K).toList _ (fun w hS => (HB52.out.grow hS).range) Tryz.underlying31 rfl HPL.out) hHeld ?_
      simp only [Act.put, List.getElem_toArray, List.getElem_cons_zero, List.getElem_cons_succ, List.setIfInBounds_toArray, List.set_cons_zero, List.set_cons_succ]
      refine wpAnyH_ready (rs := [11]) (by kernel_rfl) (by simp) ?_
      refine AllReadyH.cons rfl (fun KQ hK => ?_) AllReadyH.nil
      go_simp
      refine (HKY.out _ (grow_trans HQ2.out hHeld)).mono ?_
      rintro e z2 ⟨rfl, a2⟩
      refine hK.out _ _ (grow_trans hHeld a2) (fun hHeld => ?_)
      clear hK KQ
      refine wpAnyH_take (i := 13) (v := .bool true) rfl (by kernel_rfl) (by kernel_rfl) (by kernel_rfl) (fun _ _ _ h => h) (Or.inl ⟨by rfl, fun w hS => by go_simp⟩) hHeld ?_
      simp only [Act.put, List.getElem_toArray, List.getElem_cons_zero, List.getElem_cons_succ, List.setIfInBounds_toArray, List.set_cons_zero, List.set_cons_succ]
      refine wpAnyH_take (i := 14) (v := .bool true) rfl (by kernel_rfl) (by kernel_rfl) (by kernel_rfl) (fun _ _ _ h => h) (Or.inl ⟨by rfl, fun w hS => by go_simp⟩) hHeld ?_
      simp only [Act.put, List.getElem_toArray, List.getElem_cons_zero, List.getElem_cons_succ, List.setIfInBounds_toArray, List.set_cons_zero, List.set_cons_succ]
      refine wpAnyH_done (by kernel_rfl) ?_ _
      go_wp2
      go_ret3
      exact HPost.out _ (grow_trans HQ2.out hHeld)

/-- What Way answers. -/
def WkPost (ds : List (List Int)) (N : List Int) (w : World) (e : Ending) (w' : World) : Prop :=
  ∃ sa sc, e = .returned (.tuple #[.agg (encR (.slice sa ds.length sc) N).toArray, .int .i64 0]) ∧ w'.ownsRow w.heap.size 43 32 (.slice sa ds.length sc) ds.length (flatH ds) ∧ Below w.heap.size w w'

set_option maxHeartbeats 1000000 in
theorem wway_bad {w : World} {v : Value} {mk : Bool} {ct : Int → Nat} {ca : Int → Ce} (V : Vw w v mk ct ca) (h : Int) (K : List Int) (hK : Key K) (e0 : Int) (he : vRt mk (ct h) (ca h) h = e0) (h0 : e0 ≠ 0) : Calls Tryz.prog 13 #[v, .int .i64 h, .agg (B K)] w fun e w' => e = .returned (.tuple #[.agg (encR (.slice none 0 0) (nd 0 z32 z32 z32 z32)).toArray, .int .i64 e0]) ∧ Below w.heap.size w w' := by
  have HHD : Hid (∀ w', Below w.heap.size w w' → Calls Tryz.prog 45 #[v, .int .i64 h, .agg (B K)] w' fun e w'' => e = .returned (.tuple #[.slice none 0 0, .int .i64 0, .int .i64 e0]) ∧ Below w'.heap.size w' w'') := fun w' hb => handles_bad (V.grow hb) h K e0 he h0
  have HPS : Hid ((Tryz.prog.info? 31).map (·.size) = some (B K).size) := by show _ = _; rw [B_size, hK.1]; exact size_path
  have hb0 : (e0 == 0) = false := by simp [h0]
  obtain ⟨N, hN⟩ : ∃ N, N = nd 0 z32 z32 z32 z32 := ⟨_, rfl⟩
  have HB : Hid (Tryz.prog.built 50 [] = some (encR (.slice none 0 0) N).toArray) := by rw [hN]; exact built_proof0
  have HSz : Hid ((Tryz.prog.info? 50).map (·.size) = some (encR (.slice none 0 0) N).toArray.size ∧ (encR (.slice none 0 0) (List.replicate 129 0)).toArray.size = (encR (.slice none 0 0) N).toArray.size) := ⟨encR_sz _ N (by rw [hN]; rfl), by rw [hN]; rfl⟩
  rw [← hN]
  obtain ⟨fp, hup⟩ := u_proof
  have HUP := hidden hup
  clear V he hK hN hup
  go_enter Tryz.func13, Tryz.ntmps13
  go_wp2_with (first
    | ((with_reducible refine at_bxd 5 ?_); refine wpList_bx _ rfl _ _ rfl _ rfl ?_; intro w1 b5 hg5 hl5 B5 q5; have HB5 := hidden B5; have HQ5 := hidden q5; clear hg5 hl5 B5 q5)
    | ((with_reducible refine at_ald 6 ?_); refine wpList_al _ rfl _ rfl _ zero_proof ?_; intro w2 g6 hg6 hl6 B6 b2; have HB6 := hidden B6; have HB52 := hidden (HB5.out.grow b2); have HQ6 := hidden (grow_trans HQ5.out b2); have HG6 : Hid (w.heap.size ≤ g6) := Nat.le_trans HQ5.out.size hg6; clear B6 hg6 hl6 b2)
    | ((with_reducible refine at_ldd 17 5 ?_); refine wpList_ld _ rfl _ _ rfl b5 _ rfl HB52.out _ _ Tryz.underlying31 HPS.out ?_)
    | (go_at_call 45; refine (HHD.out _ HQ6.out).mono ?_; rintro e w3 ⟨rfl, b3⟩; have HB63 := hidden (HB6.out.grow b3); have HQ3 := hidden (grow_trans HQ6.out b3); clear b3)
    | ((with_reducible refine at_bd ?_); refine wpList_bld _ rfl _ _ rfl _ (by rw [List.map_toArray]; exact HB.out) ?_)
    | ((with_reducible refine at_st 6 ?_); refine wpList_sto _ rfl _ _ _ rfl g6 _ (encR (.slice none 0 0) N).toArray rfl rfl HB63.out HSz.out.1 HSz.out.2 (encR_one _ _ _ _) ?_; intro w4 B9 r9))
  exact bodyPost_ret (v := .tuple #[.agg (encR (.slice none 0 0) N).toArray, .int .i64 e0]) (results_agg_tmp rfl _ _ g6 _ _ rfl rfl B9 HUP.out HSz.out.1) rfl ⟨rfl, below_row HQ3.out r9 HG6.out⟩

theorem dgs_take {cs : List (Nat × Ce)} {pend : List Nat} (W : Wf cs pend) (l : List Nat) : Dgs (l.map (sdD cs)) := fun x hx => by
  obtain ⟨h, _, rfl⟩ := List.mem_map.1 hx
  unfold sdD
  split
  · exact ⟨dig_length _, dig_bytes _⟩
  · exact ⟨(W.ok _).ld, (W.ok _).bd⟩

theorem mod_own {S : List Nat} {w3 w w' : World} {e : TypeId} {k : Nat} {v : Value} {n : Nat} {xs : List Value} (m : Mod S w3 w) (h : w.ownsRow w3.heap.size e k v n xs) (hg : w.grownBy w' v.ownBlock) : Mod S w3 w' :=
  m.trans (S1 := v.ownBlock.toList) (fun k hk => .inr (h.lt k (by simpa using hk)).1) (Mod.of_grown hg (fun k hk => by simp [hk]))

theorem mea_step {m k : Nat} (h : (k : Int) < (m : Int)) : m - (k + 1) < m - k := by omega

theorem tneW1 : (3 : Nat) ≠ 50 := by decide

theorem tneW2 : (31 : Nat) ≠ 50 := by decide

theorem vNd_fin {cs : List (Nat × Ce)} {K : List Int} {T : Tre} {h : Nat} (hT : IsT cs h T) : vNd true (cat cs) (T.fin K h : Int) = endN (T.efin K) := by
  rcases fin_is K T h hT with ⟨e1, e2⟩ | ⟨k, b, e2, h1, h2, h3, h4, h5⟩
  · rw [e1, e2]
    rfl
  · rw [e2, vNd, cat_is h1, if_pos h3, h4, h5]
    rfl

set_option maxHeartbeats 4000000 in
theorem wway_any {w : World} {v : Value} {cs : List (Nat × Ce)} {pend : List Nat} (V : Vw w v true (cot cs) (cat cs)) (W : Wf cs pend) (h : Nat) (T : Tre) (hT : IsT cs h T) (K : List Int) (hK : Key K) (he : vRt true (cot cs h) (cat cs h) h = 0) (hL : Laid w) : Calls Tryz.prog 13 #[v, .int .i64 (h : Int), .agg (B K)] w (WkPost ((T.oth K).map (sdD cs)) (endN (T.efin K)) w) := by
  have HHD : Hid (∀ w', Below w.heap.size w w' → Calls Tryz.prog 45 #[v, .int .i64 (h : Int), .agg (B K)] w' (HdPost (T.hs K h) (T.fin K h) w')) := fun w' hb => handles_any (V.grow hb) W h T hT K hK he
  have HPS : Hid ((Tryz.prog.info? 31).map (·.size) = some (B K).size) := by show _ = _; rw [B_size, hK.1]; exact size_path
  have hrd := root_dp hT he
  have HAT : Hid (∀ k, k < (T.hs K h).length → ∃ x, HsAt1 cs K (T.hs K h) (T.fin K h) (T.oth K) 0 k x) := hs_at W K T h 0 hT hrd
  have HND : Hid (∀ w', Below w.heap.size w w' → Calls Tryz.prog 47 #[v, .int .i64 (T.fin K h : Int)] w' fun e w'' => e = .returned (.agg (B (endN (T.efin K)))) ∧ Below w'.heap.size w' w'') := fun w' hb => by
    have := node_any (V.grow hb) (T.fin K h : Int) (hL.grow hb)
    rwa [vNd_fin hT] at this
  have hnl : (endN (T.efin K)).length = 129 := by rw [← vNd_fin hT]; exact (vNd_ok V _).1
  have HDGS := hidden (dgs_take W (T.oth K))
  have hlen := Tre.hs_oth K T h
  have H256 : Hid ((T.hs K h).length ≤ 256) := by
    have := (way_tree W K T h 0 hT hrd (by omega)).2.2
    show _ ≤ _
    omega
  have HDG : Hid (∀ w' (q : Nat), Below w.heap.size w w' → Calls Tryz.prog 12 #[v, .int .i64 (q : Int)] w' fun e w'' => e = .returned (.agg (B (sdD cs q))) ∧ Below w'.heap.size w' w'') := fun w' q hb => by
    have := sdig_any (V.grow hb) (q : Int) (hL.grow hb)
    rwa [vDg_nat] at this
  have HFK : Hid (∀ w' (x d : Nat), Below w.heap.size w w' → 1 ≤ x → (ce cs (x - 1)).kind = 2 → (ce cs (x - 1)).dp = d → d < 256 → Calls Tryz.prog 46 #[v, .int .i64 (x : Int), .agg (B K)] w' fun e w'' => e = .returned (.tuple #[.int .i64 ((if kb K d = 1 then (ce cs (x - 1)).r else (ce cs (x - 1)).l : Nat) : Int), .int .i64 ((if kb K d = 1 then (ce cs (x - 1)).l else (ce cs (x - 1)).r : Nat) : Int)]) ∧ Below w'.heap.size w' w'') := fun w' x d hb h1 h3 h4 h5 => by
    have hca := cat_is (cs := cs) h1
    have := fork_any (V.grow hb) (x : Int) K hK (by rw [hca]; exact h3) (by rw [hca, h4]; exact h5)
    rw [hca, h4] at this
    exact this
  have HPost : Hid (∀ sa sc w', w'.ownsRow w.heap.size 43 32 (.slice sa (T.hs K h).length sc) (T.hs K h).length (flatH ((T.oth K).map (sdD cs))) → Below w.heap.size w w' → WkPost ((T.oth K).map (sdD cs)) (endN (T.efin K)) w (.returned (.tuple #[.agg (encR (.slice sa (T.hs K h).length sc) (endN (T.efin K))).toArray, .int .i64 0])) w') := fun sa sc w' ho hb => by
    refine ⟨sa, sc, ?_, ?_, hb⟩
    · rw [List.length_map, ← hlen]
    · rw [List.length_map, ← hlen]
      exact ho
  generalize WkPost ((T.oth K).map (sdD cs)) (endN (T.efin K)) w = P at HPost ⊢
  generalize endN (T.efin K) = N at HND hnl HPost
  obtain ⟨os, hos⟩ : ∃ os, os = T.oth K := ⟨_, rfl⟩
  rw [← hos] at HAT hlen HPost HDGS
  have hat : ∀ k, k < (T.hs K h).length → ∃ x o, (T.hs K h)[k]? = some x ∧ os[k]? = some o ∧ ∀ w', Below w.heap.size w w' → ∃ q : Int, Calls Tryz.prog 46 #[v, .int .i64 (x : Int), .agg (B K)] w' fun e w'' => e = .returned (.tuple #[.int .i64 q, .int .i64 (o : Int)]) ∧ Below w'.heap.size w' w'' := fun k hk => by
    obtain ⟨x, b1, b2, b3, b4, b5, b6, b7, b8⟩ := HAT.out k hk
    exact ⟨x, _, b1, b7, fun w' hb => ⟨_, HFK.out w' x (0 + k) hb b2 b4 b5 b6⟩⟩
  have HAX := hidden hat
  generalize (T.fin K h : Int) = y at HHD HND
  generalize (h : Int) = hh at HHD ⊢
  generalize T.hs K h = hs at HHD HAX hlen H256 HPost
  obtain ⟨m, hm⟩ : ∃ m, m = hs.length := ⟨_, rfl⟩
  have HM := hidden hm
  have HLEN := hidden hlen
  obtain ⟨fp, hup⟩ := u_proof
  have HUP := hidden hup
  obtain ⟨fn, hun⟩ := u_node
  have HUN := hidden hun
  obtain ⟨Z, hZ⟩ : ∃ Z : List Int, Z = List.replicate 129 0 := ⟨_, rfl⟩
  have HZP : Hid (∀ w, (zeroValue 50).run Tryz.prog w = .ok (.agg (encR (.slice none 0 0) Z).toArray) w) := by rw [hZ]; exact zero_proof
  have HSz : Hid (∀ s N, N.length = 129 → (Tryz.prog.info? 50).map (·.size) = some (encR s N).toArray.size ∧ (encR (.slice none 0 0) Z).toArray.size = (encR s N).toArray.size) := fun s N hN => ⟨encR_sz _ N hN, by simp [encR, hN, hZ]⟩
  have HZL : Hid (Z.length = 129) := by rw [hZ]; rfl
  have HNL := hidden hnl
  have HIM : Hid ((Tryz.prog.info? 48).map (·.size) = some (B N).size) := by show _ = _; rw [B_size, hnl]; exact size_node
  have HBT : Hid ((B N).toList = N.map (Value.int .u8)) := B_toList N
  have HPO : Hid (∀ sa sc w', w'.ownsRow w.heap.size 43 32 (.slice sa m sc) m (flatH (os.map (sdD cs))) → Below w.heap.size w w' → P (.returned (.tuple #[.agg (encR (.slice sa m sc) N).toArray, .int .i64 0])) w') := by rw [hm]; exact HPost.out
  have HHE : Hid (∀ w', Below w.heap.size w w' → Calls Tryz.prog 45 #[v, .int .i64 hh, .agg (B K)] w' fun e w'' => ∃ a c, e = .returned (.tuple #[.slice a m c, .int .i64 y, .int .i64 0]) ∧ w''.ownsRow w'.heap.size 3 1 (.slice a m c) m (nats hs) ∧ Below w'.heap.size w' w'') := by rw [hm]; exact HHD.out
  have HM256 : Hid (m ≤ 256) := by rw [hm]; exact H256.out
  clear V W hT he hK hL hrd hnl hlen hos HAT HFK hat HHD HPost hm hup hun hZ H256
  have H256 := HM256
  clear HM256
  go_enter Tryz.func13, Tryz.ntmps13
  go_wp2_with (first
    | ((with_reducible refine at_bxd 5 ?_); refine wpList_bx _ rfl _ _ rfl _ rfl ?_; intro w1 b5 hg5 hl5 B5 q5; have HB5 := hidden B5; have HQ5 := hidden q5; clear hg5 hl5 B5 q5)
    | ((with_reducible refine at_ald 6 ?_); refine wpList_al _ rfl _ rfl _ HZP.out ?_; intro w2 g6 hg6 hl6 B6 b2; have HB6 := hidden B6; have HB52 := hidden (HB5.out.grow b2); have HQ6 := hidden (grow_trans HQ5.out b2); have HG6 := hidden hg6; have HG6w : Hid (w.heap.size ≤ g6) := Nat.le_trans HQ5.out.size hg6; clear B6 hg6 hl6 b2)
    | ((with_reducible refine at_ldd 17 5 ?_); refine wpList_ld _ rfl _ _ rfl b5 _ rfl HB52.out _ _ Tryz.underlying31 HPS.out ?_)
    | (go_at_call 45; refine (HHE.out _ HQ6.out).mono ?_; rintro e w3 ⟨ha, hc, rfl, o3, b3⟩; have HB63 := hidden (HB6.out.grow b3); have HB53 := hidden (HB52.out.grow b3); have HQ3 := hidden (grow_trans HQ6.out b3); have HO3 := hidden o3; clear b3 o3))
  clear HB5 HQ5 HB6 HB52 HQ6 HHE HG6
  have HNB : Hid (b5 ≠ g6) := HB53.out.ne HB63.out tneW2
  have HNL3 : Hid (∀ g, (Value.slice ha m hc).ownBlock = some g → g ∉ [g6]) := fun g hg e => by
    obtain rfl : g = g6 := by simpa using e
    exact lst_blk_ne (owR_lst HO3.out) HB63.out tneW1 hg
  have HM0 : Hid (Blk w3 g6 50 (encR (.slice none 0 0) Z).toArray) := HB63
  clear HB63
  go_loopw [28] (fun iv wr => ∃ (k : Nat) (sa : Option Addr) (sc : Nat), k ≤ m ∧ iv = .int .i64 (k : Int) ∧ Hid (Blk wr g6 50 (encR (.slice sa k sc) Z).toArray) ∧ Hid (wr.ownsRow w3.heap.size 43 32 (.slice sa k sc) k (flatH ((os.map (sdD cs)).take k))) ∧ Hid (Mod [g6] w3 wr)) (fun iv _ => m - (intOf iv).toNat)
  case atStart => exact ⟨0, none, 0, by omega, rfl, HM0, World.ownsRow_nil _ _ _ _, Mod.refl _ _⟩
  case round =>
    clear HM0
    obtain ⟨k, sa, sc, hk, rfl, HBB, HOO, HMO⟩ := hrel
    have HBO : Hid (Below w.heap.size w wr) := HQ3.out.trans (HMO.out.below (fun q hq => by rw [show q = g6 by simpa using hq]; exact HG6w.out) HQ3.out.size)
    by_cases hlt : k < m
    · obtain ⟨x, o, hx, ho, hfk⟩ := HAX.out k (by rw [← HM.out]; exact hlt)
      have hl3 := lst_mod (owR_lst HO3.out) HMO.out HNL3.out
      obtain ⟨lb, lc', e, _⟩ := lst_pos hl3 (by omega)
      injection e with e1 e2 e3
      subst e1
      subst e3
      clear e2
      have hcl : wr.cell? ⟨lb, k, none⟩ = some (.int .i64 (x : Int)) := by
        have h0 := hl3
        rw [lst_cell h0 k (by omega)]
        have hkl : k < hs.length := by rw [← HM.out]; exact hlt
        rw [List.getElem?_eq_getElem hkl] at hx
        injection hx with hx
        rw [nats_get hs k hkl]
        simp [List.getD, hkl, hx]
      have hfk' := hfk wr HBO.out
      obtain ⟨q, hfk'⟩ := hfk'
      have HF := hidden hfk'
      obtain ⟨D, hD⟩ : ∃ D, D = sdD cs o := ⟨_, rfl⟩
      have HDG1 : Hid (∀ w', Below w.heap.size w w' → Calls Tryz.prog 12 #[v, .int .i64 (o : Int)] w' fun e w'' => e = .returned (.agg (B D)) ∧ Below w'.heap.size w' w'') := fun w' hb => by rw [hD]; exact HDG.out w' o hb
      have HTK : Hid ((os.map (sdD cs)).take (k + 1) = (os.map (sdD cs)).take k ++ [D]) := by
        have hol : k < os.length := by
          rw [← HLEN.out, ← HM.out]
          exact hlt
        show _ = _
        rw [List.take_succ_eq_append_getElem (by rw [List.length_map]; exact hol)]
        rw [List.getElem?_eq_getElem hol] at ho
        injection ho with ho
        simp [ho, hD]
      have HDK : Hid (D.length = 32 ∧ Bytes D) := by
        refine HDGS.out D ?_
        rw [hD]
        exact List.mem_map.2 ⟨o, List.mem_of_getElem? ho, rfl⟩
      generalize (x : Int) = xy at hcl HF
      generalize (o : Int) = oy at HF HDG1
      have HK5 := hidden (HB53.out.mod HMO.out (by simpa using HNB.out))
      have HDGX := HDG1
      generalize (os.map (sdD cs)).take k = ds at HOO HTK
      have k0 : (0 : Int) ≤ (k : Int) := by omega
      have k1 : (k : Int) < (m : Int) := by omega
      have hk256 : k < 256 := by have := H256.out; omega
      have hwk : wrap64 ((k : Int) + 1) = ((k + 1 : Nat) : Int) := by rw [Go.IntWalk.wrap64_in _ (by have := H256.out; omega)]; rfl
      clear hfk hfk' hx ho hl3 hD hk HDG HDG1
      have HDG := HDGX
      clear HDGX
      go_wp2_with (first
        | ((with_reducible refine at_ldd 35 5 ?_); refine wpList_ld _ rfl _ _ rfl b5 _ rfl HK5.out _ _ Tryz.underlying31 HPS.out ?_)
        | (go_at_call 46; refine HF.out.mono ?_; rintro e x1 ⟨rfl, q1⟩))
      have d0 : Below wr.heap.size wr x1.drew := grow_trans q1 (Below.refl _ _).drew
      have HS : Hid (∀ w', Below wr.heap.size wr w' → Blk w' g6 50 (encR (.slice sa k sc) Z).toArray) := fun w' q => HBB.out.grow q
      refine wp_region_last (S := fun w' => Blk w' g6 50 (encR (.slice sa k sc) Z).toArray) 8 (by kernel_rfl) (HS.out _ d0) (fun hHeld => ?_)
      refine wpAnyL_take (i := 0) (v := .pointer (some ⟨g6, 0, none⟩)) rfl (by kernel_rfl) (by kernel_rfl) (by kernel_rfl) (by kernel_rfl) (by kernel_rfl) (fun _ _ _ h => h) (Or.inl ⟨by rfl, fun w hS => by go_simp⟩) hHeld ?_
      simp only [Act.put, List.getElem_toArray, List.getElem_cons_zero, List.setIfInBounds_toArray, List.set_cons_zero, List.set_cons_succ]
      refine wpAnyL_take (i := 1) (v := .slice sa k sc) rfl (by kernel_rfl) (by kernel_rfl) (by kernel_rfl) (by kernel_rfl) (by kernel_rfl) (fun _ _ _ h => h) (Or.inl ⟨by rfl, fun w hS => by (have s1 := proof_side hS; go_simp)⟩) hHeld ?_
      simp only [Act.put, List.getElem_toArray, List.getElem_cons_zero, List.getElem_cons_succ, List.setIfInBounds_toArray, List.set_cons_zero, List.set_cons_succ]
      refine wpAnyL_take (i := 2) (v := v) rfl (by kernel_rfl) (by kernel_rfl) (by kernel_rfl) (by kernel_rfl) (by kernel_rfl) (fun _ _ _ h => h) (Or.inl ⟨by rfl, fun w hS => by go_simp⟩) hHeld ?_
      simp only [Act.put, List.getElem_toArray, List.getElem_cons_zero, List.getElem_cons_succ, List.setIfInBounds_toArray, List.set_cons_zero, List.set_cons_succ]
      refine wpAnyL_take (i := 3) (v := .int .i64 oy) rfl (by kernel_rfl) (by kernel_rfl) (by kernel_rfl) (by kernel_rfl) (by kernel_rfl) (fun _ _ _ h => h) (Or.inl ⟨by rfl, fun w hS => by go_simp⟩) hHeld ?_
      simp only [Act.put, List.getElem_toArray, List.getElem_cons_zero, List.getElem_cons_succ, List.setIfInBounds_toArray, List.set_cons_zero, List.set_cons_succ]
      refine wpAnyL_one (i := 4) rfl (by kernel_rfl) (fun KQ hK => ?_)
      go_simp
      refine (HDG.out _ (grow_trans HBO.out (grow_trans q1 (Below.refl _ _).drew))).mono ?_
      rintro e x3 ⟨rfl, a3⟩
      have d3 := grow_trans d0 a3
      have o3 := ownsH_below HOO.out d3
      refine hK.out _ _ (HS.out _ d3) (fun hHeld => ?_)
      clear hK KQ
      refine wpAnyL_one (i := 5) rfl (by kernel_rfl) (fun KQ hK => ?_)
      have oA := o3.alloc (.cells (B D) 43)
      have dA := grow_trans d3 (grow_alloc x3 (.cells (B D) 43))
      refine step_bsh _ rfl _ rfl D rfl HDK.out.1 ?_
      refine hK.out _ _ (HS.out _ dA) (fun hHeld => ?_)
      clear hK KQ
      refine wpAnyL_one (i := 6) rfl (by kernel_rfl) (fun KQ hK => ?_)
      refine step_appH _ rfl _ _ rfl w3.heap.size _ k (flatH ds) oA rfl x3.heap.size D rfl (Blk.new _ _ _) HDK.out.1 (by have := H256.out; omega) (Nat.le_trans (Nat.le_trans HMO.out.size d3.size) (by simp)) ?_
      intro v5 x5 ho5 hg5
      have nb := own_ne oA (HS.out _ dA)
      refine hK.out _ _ ((HS.out _ dA).keptO hg5 nb) (fun hHeld => ?_)
      clear hK KQ
      refine wpAnyL_take (i := 7) (v := .pointer (some ⟨g6, 0, none⟩)) rfl (by kernel_rfl) (by kernel_rfl) (by kernel_rfl) (by kernel_rfl) (by kernel_rfl) (fun _ _ _ h => h) (Or.inl ⟨by rfl, fun w hS => by go_simp⟩) hHeld ?_
      simp only [Act.put, List.getElem_toArray, List.getElem_cons_zero, List.getElem_cons_succ, List.setIfInBounds_toArray, List.set_cons_zero, List.set_cons_succ]
      have hB5 := hHeld
      have hcell := proof_side hB5
      have hfr := hB5.frozen 0
      obtain ⟨sa5, sc5, rfl⟩ := own_slice ho5
      refine wpAnyL_last rfl (by kernel_rfl) (by kernel_rfl) (fun KQ hK => ?_)
      go_simp
      
      refine hK.out _ _ ?_
      clear hK KQ
      have hB6 := blk_side hB5 (.slice sa5 (k + 1) sc5)
      have gr6 := grown_setCell x5 g6 0 (.slice sa5 (k + 1) sc5)
      have ho6 := ho5.kept gr6 (.inr (fun e => own_ne ho5 hB5 e.symm))
      have hm5 : Mod [g6] w3 x5 := mod_own (HMO.out.trans' (Mod.of_below dA _)) oA hg5
      have hm6 : Mod [g6] w3 (x5.setCell ⟨g6, 0, none⟩ (.slice sa5 (k + 1) sc5)) := hm5.trans' (Mod.setCell x5 g6 0 _ (by simp))
      rw [← flatH_snoc, ← HTK.out] at ho6
      have HF6 := hidden (And.intro ho6 (And.intro hB6 hm6))
      generalize x5.setCell ⟨g6, 0, none⟩ (.slice sa5 (k + 1) sc5) = x6 at *
      clear hB5 hcell hfr ho5 hg5 nb hB6 gr6 ho6 hm5 hm6 o3 oA dA hHeld HS
      go_wp2_with fail
      exact ⟨⟨k + 1, sa5, sc5, by omega, by go_num, HF6.out.2.1, HF6.out.1, HF6.out.2.2⟩, by simp [intOf]; exact mea_step k1⟩
    · obtain rfl : k = m := by omega
      have hta : (os.map (sdD cs)).take k = os.map (sdD cs) := List.take_of_length_le (by rw [List.length_map, ← HLEN.out, ← HM.out]; exact Nat.le_refl _)
      rw [hta] at HOO
      have nlt : ¬ (k : Int) < (k : Int) := by omega
      clear hta hlt hk
      go_wp2_with (first
        | (go_at_call 47; refine (HND.out _ HBO.out).mono ?_; rintro e x1 ⟨rfl, q1⟩; have HQ1 := hidden q1; have HB1 := hidden (HBB.out.grow q1); have HO1 := hidden (owR_grow HOO.out q1); clear q1; have HTH : Hid (x1.there g6 1 (B N).size) := HB1.out.there 1 _ (by rw [B_size, HNL.out]; simp [encR, HZL.out]); have h8 := blk_end HB1.out N HZL.out HNL.out; have gr8 := grown_setCells g6 (N.map (Value.int .u8)) 1 x1; have HK8 := hidden (And.intro h8 (And.intro (HO1.out.kept gr8 (.inr (fun e => own_ne HO1.out HB1.out e.symm))) (below_row (grow_trans HBO.out HQ1.out) gr8 HG6w.out))); clear h8 gr8)
        | ((with_reducible refine at_st 51 ?_); refine wpList_stm _ rfl _ _ _ rfl g6 1 (B N) rfl rfl HTH.out HIM.out (B_one _) ?_; rw [HBT.out]; generalize x1.setCells g6 1 (N.map (Value.int .u8)) = x7 at *)
        | ((with_reducible refine at_ldd 52 6 ?_); refine wpList_lds _ rfl _ _ rfl g6 _ _ rfl HK8.out.1 HUP.out (HSz.out _ N HNL.out).1 ?_)
        | ((with_reducible refine at_st 6 ?_); refine wpList_sto _ rfl _ _ _ rfl g6 _ (encR (.slice sa k sc) N).toArray rfl rfl HK8.out.1 (HSz.out _ N HNL.out).1 rfl (encR_one _ _ _ _) ?_; intro x8 B9 r9))
      have ho9 := HK8.out.2.1.kept r9 (.inr (fun e => own_ne HK8.out.2.1 HK8.out.1 e.symm))
      exact bodyPost_ret (v := .tuple #[.agg (encR (.slice sa k sc) N).toArray, .int .i64 0]) (results_agg_tmp rfl _ _ g6 _ _ rfl rfl B9 HUP.out (HSz.out _ N HNL.out).1) rfl (HPO.out _ _ _ (owR_base ho9 HQ3.out.size) (below_row HK8.out.2.2 r9 HG6w.out))

end Go.Proofs.YtdpaanidangnlaaGreatDoor

/- rootcellarkit.CopyProof, as a contract. -/
namespace Go.Proofs.YtdpaanidangnlaaGreatDoor
set_option maxRecDepth 20000
open Go.RowKit

theorem exec_bld (o : Oper) (a : Act) (ty : TypeId) (parts : Array (Nat × Operand)) (ho : o.op = .build ty parts) (cs : Array Value) (h : Tryz.prog.built ty (parts.map fun (i, x) => (i, a.eval x)).toList = some cs) (w : World) : (execOp a.eval o).run Tryz.prog w = .ok (.value (.agg cs)) w := by
  unfold execOp
  simp only [ho, Sem.run_bind, run_build w ty _ cs h, Result.andThen_ok, Sem.run_pure]

end Go.Proofs.YtdpaanidangnlaaGreatDoor

/- The document's root at a depth, as a contract. -/
namespace Go.Proofs.YtdpaanidangnlaaGreatDoor
set_option maxRecDepth 20000
open Go.RowKit

theorem b32_facts (D : List Int) (h : D.length = 32) : (Tryz.prog.info? 30).map (·.size) = some (B D).size ∧ (B (List.replicate 32 0)).size = (B D).size := ⟨by rw [B_size, h]; exact size_b32, by rw [B_size, B_size, h]; rfl⟩

set_option maxHeartbeats 2000000 in
theorem refAt_none (d : Int) (a : Option Addr) (cap : Nat) (w : World) : Calls Tryz.prog 125 #[.slice a 0 cap, .int .i64 d] w fun e w' => e = .returned (.agg (B emD)) ∧ Below w.heap.size w w' := by
  obtain ⟨D, hD⟩ : ∃ D, D = emD := ⟨_, rfl⟩
  have HF := hidden (b32_facts D (by rw [hD]; exact dig_length _))
  have HE : Hid (∀ w', Calls Tryz.prog 124 #[] w' fun e w'' => e = .returned (.agg (B D)) ∧ Below w'.heap.size w' w'') := fun w' => by rw [hD]; exact refEmpty_any w'
  rw [← hD]
  clear hD
  go_enter Tryz.func125, Tryz.ntmps125
  go_wp2_with (first
    | ((with_reducible refine at_ald 4 ?_); refine wpList_al _ rfl _ rfl _ zero_b32 ?_; intro w1 g1 hg1 hl1 B1 b1)
    | (go_at_call 124; refine (HE.out _).mono ?_; rintro e w2 ⟨rfl, b2⟩; have B2 := B1.grow b2)
    | ((with_reducible refine at_st 4 ?_); refine wpList_sto _ rfl _ _ _ rfl g1 _ (B D) rfl rfl B2 HF.out.1 HF.out.2 (B_one _) ?_; intro w3 B3 r3))
  exact bodyPost_ret (v := .agg (B D)) (results_cell_row rfl _ _ g1 _ _ _ _ rfl B3 Tryz.underlying30 rfl HF.out.1) rfl ⟨rfl, below_row (grow_trans b1 b2) r3 hg1⟩

set_option maxHeartbeats 2000000 in
theorem refAt_leaf (d : Int) (g off cap : Nat) (E : Ent) (u : Value) (w : World) (hk : Key E.1) (hu : Reads w u E.2) (hl : E.2.length ≤ 1024) (hr : w.rangeAt g off (encP E.1 u)) : Calls Tryz.prog 125 #[.slice (some ⟨g, off, none⟩) 1 cap, .int .i64 d] w fun e w' => e = .returned (.agg (B (enD E))) ∧ Below w.heap.size w w' := by
  obtain ⟨D, hD⟩ : ∃ D, D = enD E := ⟨_, rfl⟩
  have HF := hidden (b32_facts D (by rw [hD]; exact dig_length _))
  obtain ⟨A, hA⟩ : ∃ A, A = vaD E.2 := ⟨_, rfl⟩
  have HVa : Hid (∀ w', Below w.heap.size w w' → Calls Tryz.prog 126 #[u] w' fun e w'' => e = .returned (.agg (B A)) ∧ Below w'.heap.size w' w'') := fun w' hb => by rw [hA]; exact refValue_any u _ w' (hu.grow hb) (by omega)
  have HE : Hid (∀ w', Calls Tryz.prog 139 #[.agg (B E.1), .agg (B A)] w' fun e w'' => e = .returned (.agg (B D)) ∧ Below w'.heap.size w' w'') := fun w' => by rw [hD, hA]; exact refLeaf_any E.1 (vaD E.2) w' hk.1 (dig_length _) hk.2 (dig_bytes _)
  have HR : Hid (∀ w', Below w.heap.size w w' → w'.rangeAt g off (B E.1).toList ∧ w'.cell? ⟨g, off + 32, none⟩ = some u) := fun w' hw' => ⟨rng_key (rng_grow hr hw'), rng_val (rng_grow hr hw') hk.1⟩
  have HLK : Hid ((Tryz.prog.info? 31).map (·.size) = some (B E.1).toList.length) := by show _ = _; rw [B_toList, List.length_map, hk.1]; exact sz_path
  obtain ⟨K, hK⟩ : ∃ K, K = E.1 := ⟨_, rfl⟩
  rw [← hK] at HE HR HLK
  rw [← hD]
  obtain ⟨ua, uc, rfl, _, _, _, _⟩ := hu
  obtain ⟨L, hL⟩ : ∃ L, L = E.2.length := ⟨_, rfl⟩
  rw [← hL] at HVa HR
  clear hD hK hA hr hk hl hL
  go_enter Tryz.func125, Tryz.ntmps125
  go_wp2_with (first
    | ((with_reducible refine at_ald 4 ?_); refine wpList_al _ rfl _ rfl _ zero_b32 ?_; intro w1 g1 hg1 hl1 B1 b1))
  have d0 : Below w.heap.size w w1.drew := grow_trans b1 (Below.refl _ _).drew
  refine wp_region_held_drew (S := fun w' => w'.rangeAt g off (B K).toList ∧ w'.cell? ⟨g, off + 32, none⟩ = some (.slice ua L uc)) (by kernel_rfl) (HR.out _ d0) (fun hHeld => ?_)
  refine wpAnyH_take (i := 0) (v := .slice (some ⟨g, off, none⟩) 1 cap) rfl (by kernel_rfl) (by kernel_rfl) (by kernel_rfl) (fun _ _ _ h => h) (Or.inl ⟨by rfl, fun w hS => by go_simp⟩) hHeld ?_
  simp only [Act.put, List.getElem_toArray, List.getElem_cons_zero, List.setIfInBounds_toArray, List.set_cons_zero, List.set_cons_succ]
  refine wpAnyH_take (i := 1) (v := .pointer (some ⟨g, off, none⟩)) rfl (by kernel_rfl) (by kernel_rfl) (by kernel_rfl) (fun _ _ _ h => h) (Or.inl ⟨by rfl, fun w hS => by go_simp⟩) hHeld ?_
  simp only [Act.put, List.getElem_toArray, List.getElem_cons_zero, List.getElem_cons_succ, List.setIfInBounds_toArray, List.set_cons_zero, List.set_cons_succ]
  refine wpAnyH_take (i := 2) (v := .pointer (some ⟨g, off, none⟩)) rfl (by kernel_rfl) (by kernel_rfl) (by kernel_rfl) (fun _ _ _ h => h) (Or.inl ⟨by rfl, fun w hS => by go_simp⟩) hHeld ?_
  simp only [Act.put, List.getElem_toArray, List.getElem_cons_zero, List.getElem_cons_succ, List.setIfInBounds_toArray, List.set_cons_zero, List.set_cons_succ]
  refine wpAnyH_take (i := 3) (v := .agg (B K)) rfl (by kernel_rfl) (by kernel_rfl) (by kernel_rfl) (fun _ _ _ h => h) (yieldsIf_load_mid rfl 31 (.tmp 14) rfl g off rfl (B K).toList _ (fun w hS => hS.1) Tryz.underlying31 rfl HLK.out) hHeld ?_
  simp only [Act.put, List.getElem_toArray, List.getElem_cons_zero, List.getElem_cons_succ, List.setIfInBounds_toArray, List.set_cons_zero, List.set_cons_succ]
  refine wpAnyH_take (i := 4) (v := .slice (some ⟨g, off, none⟩) 1 cap) rfl (by kernel_rfl) (by kernel_rfl) (by kernel_rfl) (fun _ _ _ h => h) (Or.inl ⟨by rfl, fun w hS => by go_simp⟩) hHeld ?_
  simp only [Act.put, List.getElem_toArray, List.getElem_cons_zero, List.getElem_cons_succ, List.setIfInBounds_toArray, List.set_cons_zero, List.set_cons_succ]
  refine wpAnyH_take (i := 5) (v := .pointer (some ⟨g, off, none⟩)) rfl (by kernel_rfl) (by kernel_rfl) (by kernel_rfl) (fun _ _ _ h => h) (Or.inl ⟨by rfl, fun w hS => by go_simp⟩) hHeld ?_
  simp only [Act.put, List.getElem_toArray, List.getElem_cons_zero, List.getElem_cons_succ, List.setIfInBounds_toArray, List.set_cons_zero, List.set_cons_succ]
  refine wpAnyH_take (i := 6) (v := .pointer (some ⟨g, off + 32, none⟩)) rfl (by kernel_rfl) (by kernel_rfl) (by kernel_rfl) (fun _ _ _ h => h) (Or.inl ⟨by rfl, fun w hS => by go_simp⟩) hHeld ?_
  simp only [Act.put, List.getElem_toArray, List.getElem_cons_zero, List.getElem_cons_succ, List.setIfInBounds_toArray, List.set_cons_zero, List.set_cons_succ]
  refine wpAnyH_take (i := 7) (v := .slice ua L uc) rfl (by kernel_rfl) (by kernel_rfl) (by kernel_rfl) (fun _ _ _ h => h) (Or.inl ⟨by rfl, fun w hS => by (have s1 := hS.2; go_simp)⟩) hHeld ?_
  simp only [Act.put, List.getElem_toArray, List.getElem_cons_zero, List.getElem_cons_succ, List.setIfInBounds_toArray, List.set_cons_zero, List.set_cons_succ]
  refine wpAnyH_ready (rs := [8]) (by kernel_rfl) (by simp) ?_
  refine AllReadyH.cons rfl (fun KQ hK => ?_) AllReadyH.nil
  go_simp
  refine (HVa.out _ d0).mono ?_
  rintro e x1 ⟨rfl, a1⟩
  have d1 := grow_trans d0 a1
  refine hK.out _ _ (HR.out _ d1) (fun hHeld => ?_)
  clear hK KQ
  refine wpAnyH_ready (rs := [9]) (by kernel_rfl) (by simp) ?_
  refine AllReadyH.cons rfl (fun KQ hK => ?_) AllReadyH.nil
  go_simp
  refine (HE.out _).mono ?_
  rintro e x2 ⟨rfl, a2⟩
  have d2 := grow_trans d1 a2
  refine hK.out _ _ (HR.out _ d2) (fun hHeld => ?_)
  clear hK KQ
  refine wpAnyH_ready (rs := [10]) (by kernel_rfl) (by simp) ?_
  refine AllReadyH.cons rfl (fun KQ hK => ?_) AllReadyH.nil
  refine step_sto _ rfl _ _ _ rfl g1 _ (B D) rfl rfl ((B1.drew.grow a1).grow a2) HF.out.1 HF.out.2 (B_one _) ?_
  intro w4 B4 g4
  have c4 := below_row d2 g4 hg1
  refine hK.out _ _ (HR.out _ c4) (fun hHeld => ?_)
  clear hK KQ
  refine wpAnyH_done (by kernel_rfl) ?_ _
  go_wp2_with fail
  exact bodyPost_ret (v := .agg (B D)) (results_cell_row rfl _ _ g1 _ _ _ _ rfl B4 Tryz.underlying30 rfl HF.out.1) rfl ⟨rfl, c4⟩

theorem rt_length (n d : Nat) (es : List Ent) : (rt n d es).length = 32 := by
  match n, es with
  | _, [] => rw [rt_nil]; exact dig_length _
  | _, [x] => rw [rt_one]; exact dig_length _
  | 0, _ :: _ :: _ => exact dig_length _
  | n + 1, a :: b :: l => rw [rt_more n d _ (by simp)]; exact dig_length _
theorem rt_bytes (n d : Nat) (es : List Ent) : Bytes (rt n d es) := by
  match n, es with
  | _, [] => rw [rt_nil]; exact dig_bytes _
  | _, [x] => rw [rt_one]; exact dig_bytes _
  | 0, _ :: _ :: _ => exact dig_bytes _
  | n + 1, a :: b :: l => rw [rt_more n d _ (by simp)]; exact dig_bytes _

set_option maxHeartbeats 4000000 in
theorem refAt_more (d : Nat) (a : Option Addr) (m cap : Nat) (es : List Ent) (R0 R1 : List Int) (w : World) (hd : d < 256) (hm : 2 ≤ m) (l0 : R0.length = 32) (l1 : R1.length = 32) (y0 : Bytes R0) (y1 : Bytes R1)
    (hp : ∀ w' b, Below w.heap.size w w' → Calls Tryz.prog 141 #[.slice a m cap, .int .i64 d, .int .i64 b] w' (SidePost es d b w'))
    (h0 : ∀ w' v V, PrAt w' v V (sideOf es d 0) → Calls Tryz.prog 125 #[v, .int .i64 ((d : Int) + 1)] w' fun e w'' => e = .returned (.agg (B R0)) ∧ Below w'.heap.size w' w'')
    (h1 : ∀ w' v V, PrAt w' v V (sideOf es d 1) → Calls Tryz.prog 125 #[v, .int .i64 ((d : Int) + 1)] w' fun e w'' => e = .returned (.agg (B R1)) ∧ Below w'.heap.size w' w'') :
    Calls Tryz.prog 125 #[.slice a m cap, .int .i64 d] w fun e w' => e = .returned (.agg (B (inD R0 R1))) ∧ Below w.heap.size w w' := by
  have HP := hidden hp
  have H0 := hidden h0
  have H1 := hidden h1
  obtain ⟨D, hD⟩ : ∃ D, D = inD R0 R1 := ⟨_, rfl⟩
  have HF := hidden (b32_facts D (by rw [hD]; exact dig_length _))
  have HI : Hid (∀ w', Calls Tryz.prog 140 #[.agg (B R0), .agg (B R1)] w' fun e w'' => e = .returned (.agg (B D)) ∧ Below w'.heap.size w' w'') := fun w' => by rw [hD]; exact refInner_any R0 R1 w' l0 l1 y0 y1
  have hw : IntKind.i64.wrap ((d : Int) + 1) = (d : Int) + 1 := by rw [IntKind.wrap_i64]; omega
  have e0 : ((m : Int) == 0) = false := by simp; omega
  have e1 : ((m : Int) == 1) = false := by simp; omega
  rw [← hD]
  clear hD hp h0 h1 l0 l1 y0 y1 hm hd
  go_enter Tryz.func125, Tryz.ntmps125
  go_wp2_with (first
    | ((with_reducible refine at_ald 4 ?_); refine wpList_al _ rfl _ rfl _ zero_b32 ?_; intro w1 g1 hg1 hl1 B1 b1; have KB := hidden B1.kp; have c := b1)
    | (go_at_call 141; have mk := mk1; refine (HP.out _ _ c).mono ?_; rintro e w4 ⟨v1, V1, rfl, p1, q4⟩; clear mk mk1; have HP1 := hidden p1; clear p1; have cc := grow_trans c q4; clear c; have c := cc; clear cc; replace KB := hidden (KB.out.step q4); have mk2 : Hid True := trivial)
    | (go_at_call 141; refine (HP.out _ _ c).mono ?_; rintro e w2 ⟨v0, V0, rfl, p0, q2⟩; have HP0 := hidden p0; clear p0; have cc := grow_trans c q2; clear c; have c := cc; clear cc; replace KB := hidden (KB.out.step q2))
    | (go_at_call 125; have mk := mk2; refine (H1.out _ _ _ HP1.out).mono ?_; rintro e w5 ⟨rfl, q5⟩; clear mk mk2; have cc := grow_trans c q5; clear c; have c := cc; clear cc; replace KB := hidden (KB.out.step q5))
    | (go_at_call 125; refine (H0.out _ _ _ HP0.out).mono ?_; rintro e w3 ⟨rfl, q3⟩; have mk1 : Hid True := trivial; have cc := grow_trans c q3; clear c; have c := cc; clear cc; replace KB := hidden (KB.out.step q3))
    | (go_at_call 140; refine (HI.out _).mono ?_; rintro e w6 ⟨rfl, q6⟩; have cc := grow_trans c q6; clear c; have c := cc; clear cc; replace KB := hidden (KB.out.step q6))
    | ((with_reducible refine at_st 4 ?_); refine wpList_sto _ rfl _ _ _ rfl g1 _ (B D) rfl rfl KB.out.now HF.out.1 HF.out.2 (B_one _) ?_; intro w7 B7 r7))
  exact bodyPost_ret (v := .agg (B D)) (results_cell_row rfl _ _ g1 _ _ _ _ rfl B7 Tryz.underlying30 rfl HF.out.1) rfl ⟨rfl, below_row c r7 hg1⟩

/-- All keys have the same first d bits. -/
def SamE (es : List Ent) (d : Nat) : Prop := ∀ a ∈ es, ∀ b ∈ es, ∀ j, j < d → kb a.1 j = kb b.1 j
theorem SamE.side {es : List Ent} {d : Nat} (hd : d < 256) (b : Int) (h : SamE es d) : SamE (sideOf es d b) (d + 1) := by
  intro x hx y hy j hj
  unfold sideOf at hx hy
  rw [List.mem_filter, beq_iff_eq, kbi_in _ _ hd] at hx hy
  by_cases e : j = d
  · rw [e, hx.2, hy.2]
  · exact h x hx.1 y hy.1 j (by omega)
theorem SamE.few {es : List Ent} (hk : ∀ e ∈ es, Key e.1) (ha : Apart1 es) (h : SamE es 256) : es.length ≤ 1 := by
  match es, hk, ha, h with
  | [], _, _, _ => simp
  | e :: r, hk, ha, h => exact Share.few (key := e.1) hk ha (fun x hx j hj => h x hx e (by simp) j hj)

theorem refAt_any : ∀ (n d : Nat) (es : List Ent) (v : Value) (V : Nat → Value) (w : World), d + n = 256 → es.length ≤ 4096 → Apart1 es → SamE es d → (∀ e ∈ es, e.2.length ≤ 1024) → PrAt w v V es →
    Calls Tryz.prog 125 #[v, .int .i64 d] w fun e w' => e = .returned (.agg (B (rt n d es))) ∧ Below w.heap.size w w' := by
  have one : ∀ (n d : Nat) (E : Ent) (a : Option Addr) (cap : Nat) (V : Nat → Value) (w : World), E.2.length ≤ 1024 → PrAt w (.slice a 1 cap) V [E] → Calls Tryz.prog 125 #[.slice a 1 cap, .int .i64 d] w fun e w' => e = .returned (.agg (B (rt n d [E]))) ∧ Below w.heap.size w w' := by
    intro n d E a cap V w hl hv
    obtain ⟨a', cap', e, _, hc, hr⟩ := hv
    injection e with e1 e2 e3
    subst e1
    subst e3
    obtain ⟨g, off, rfl, hcc⟩ := hc (by simp)
    have h0 := hcc 0 (by simp)
    rw [Nat.zero_mul, Nat.add_zero] at h0
    obtain ⟨k0, r0⟩ := hr 0 (by simp)
    rw [rt_one]
    exact refAt_leaf d g off cap E (V 0) w k0 r0 hl h0
  intro n
  induction n with
  | zero =>
    intro d es v V w hd hn ha hs hlen hv
    obtain rfl : d = 256 := by omega
    have hf := SamE.few hv.keys ha hs
    have hv' := hv
    obtain ⟨a, cap, rfl, _⟩ := hv'
    match es, hf, hv, hlen with
    | [], _, _, _ => rw [rt_nil]; exact refAt_none (256 : Nat) a cap w
    | [E], _, hv, hlen => exact one 0 256 E a cap V w (hlen E (by simp)) hv
  | succ n ih =>
    intro d es v V w hd hn ha hs hlen hv
    have hv' := hv
    obtain ⟨a, cap, rfl, _⟩ := hv'
    match es, hn, ha, hs, hlen, hv with
    | [], _, _, _, _, _ => rw [rt_nil]; exact refAt_none d a cap w
    | [E], _, _, _, hlen, hv => exact one (n + 1) d E a cap V w (hlen E (by simp)) hv
    | x :: y :: es, hn, ha, hs, hlen, hv =>
      rw [rt_more n d _ (by simp)]
      have hi : ∀ b w' v V, PrAt w' v V (sideOf (x :: y :: es) d b) → Calls Tryz.prog 125 #[v, .int .i64 ((d : Int) + 1)] w' fun e w'' => e = .returned (.agg (B (rt n (d + 1) (sideOf (x :: y :: es) d b)))) ∧ Below w'.heap.size w' w'' := by
        intro b w' v V hv
        have := ih (d + 1) (sideOf (x :: y :: es) d b) v V w' (by omega) (Nat.le_trans (List.length_filter_le _ _) hn) (ha.side d b) (hs.side (by omega) b) (fun e he => hlen e (List.mem_filter.1 he).1) hv
        rwa [show ((d + 1 : Nat) : Int) = (d : Int) + 1 by omega] at this
      exact refAt_more d a _ cap (x :: y :: es) _ _ w (by omega) (by simp) (rt_length _ _ _) (rt_length _ _ _) (rt_bytes _ _ _) (rt_bytes _ _ _) (fun w' b hb => refSide_any _ V (x :: y :: es) d b w' (hv.grow hb) hn) (hi 0) (hi 1)

end Go.Proofs.YtdpaanidangnlaaGreatDoor
