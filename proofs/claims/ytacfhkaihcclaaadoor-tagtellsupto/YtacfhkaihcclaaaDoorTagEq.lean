/- Arrays of bytes held against each other; bytes.Equal; tag.Clash, as a contract. -/
import Derived.Test.YtacfhkaihcclaaaDoorTagOf
import Derived.Test.YtacfhkaihcclaaaDoorShaEq
import Derived.Test.YtacfhkaihcclaaaDoorKit2
import Derived.Deep.RegionHeld2
namespace Go.Proofs.YtacfhkaihcclaaaDoor
open Go.RowKit

theorem items_eq {e : TypeId} {k : IntKind} (he : Tryd.prog.underlying e = some (.int k)) (hagg : ∀ w, (isAgg e).run Tryd.prog w = .ok false w) (d : Nat) (zs us : List Int) (xs ys : Array Value) (hx : ∀ i, i < zs.length → xs[i]? = some (.int k (zs.getD i 0))) (hy : ∀ i, i < us.length → ys[i]? = some (.int k (us.getD i 0))) (w : World) :
    ∀ is : List Nat, (∀ i ∈ is, i < zs.length ∧ i < us.length) → (Op.eqItems (d + 1) e 1 xs ys is).run Tryd.prog w = .ok (is.all fun i => zs.getD i 0 == us.getD i 0) w
  | [], _ => by simp [Op.eqItems]
  | i :: is, h => by
    have h1 := hx i (h i (by simp)).1
    have h2 := hy i (h i (by simp)).2
    have hp : (part e xs (i * 1)).run Tryd.prog w = .ok (.int k (zs.getD i 0)) w := by
      rw [Nat.mul_one]
      unfold part
      rw [Sem.run_bind, hagg w]
      simp only [Result.andThen_ok, Bool.false_eq_true, if_false, h1, Sem.run_pure]
    have hq : (part e ys (i * 1)).run Tryd.prog w = .ok (.int k (us.getD i 0)) w := by
      rw [Nat.mul_one]
      unfold part
      rw [Sem.run_bind, hagg w]
      simp only [Result.andThen_ok, Bool.false_eq_true, if_false, h2, Sem.run_pure]
    have he2 := run_equalIn_int (P := Tryd.prog) (w := w) d e k k (zs.getD i 0) (us.getD i 0) he
    have ih := items_eq he hagg d zs us xs ys hx hy w is (fun j hj => h j (by simp [hj]))
    simp only [Op.eqItems, Sem.run_bind, hp, hq, Result.andThen_ok, he2, List.all_cons]
    by_cases hb : zs.getD i 0 == us.getD i 0
    · rw [hb]
      simp only [Bool.not_true, Bool.false_eq_true, if_false, Bool.true_and]
      exact ih
    · rw [Bool.eq_false_iff.2 hb]
      simp

theorem all_same (n : Nat) (xs ys : List Int) (hx : xs.length = n) (hy : ys.length = n) : ((List.range n).all fun i => xs.getD i 0 == ys.getD i 0) = decide (xs = ys) := by
  rw [Bool.eq_iff_iff, List.all_eq_true, decide_eq_true_iff]
  constructor
  · intro h
    apply List.ext_getElem (by omega)
    intro i h1 h2
    have := h i (by simpa [hx] using h1)
    simpa [List.getD, h1, h2] using this
  · rintro rfl i _
    simp

theorem arr_eq {t : TypeId} (ht : Tryd.prog.underlying t = some (.array 32 5)) (xs ys : List Int) (hx : xs.length = 32) (hy : ys.length = 32) (w : World) : (Op.equalIn 10000 t (.agg (B xs)) (.agg (B ys))).run Tryd.prog w = .ok (decide (xs = ys)) w := by
  obtain ⟨i, hi⟩ : ∃ i, Tryd.prog.info? 5 = some i := ⟨_, rfl⟩
  rw [show (10000 : Nat) = 9998 + 1 + 1 from rfl, run_equalIn_array (P := Tryd.prog) w (9998 + 1) (B xs) (B ys) ht hi, cellsOf_byte,
    items_eq u_byte Tryd.isAgg5 9998 xs ys (B xs) (B ys) (fun i hi => B_get xs i hi) (fun i hi => B_get ys i hi) w _ (fun i hi => by rw [hx, hy]; simpa using hi), all_same 32 xs ys hx hy]

theorem hash_eq (xs ys : List Int) (hx : xs.length = 32) (hy : ys.length = 32) (w : World) : (Op.equalIn 10000 26 (.agg (B xs)) (.agg (B ys))).run Tryd.prog w = .ok (decide (xs = ys)) w := arr_eq Tryd.underlying26 xs ys hx hy w
theorem path_eq (xs ys : List Int) (hx : xs.length = 32) (hy : ys.length = 32) (w : World) : (Op.equalIn 10000 24 (.agg (B xs)) (.agg (B ys))).run Tryd.prog w = .ok (decide (xs = ys)) w := arr_eq Tryd.underlying24 xs ys hx hy w
theorem b32_eq (xs ys : List Int) (hx : xs.length = 32) (hy : ys.length = 32) (w : World) : (Op.equalIn 10000 23 (.agg (B xs)) (.agg (B ys))).run Tryd.prog w = .ok (decide (xs = ys)) w := arr_eq Tryd.underlying23 xs ys hx hy w

set_option maxHeartbeats 400000 in
theorem equal_any (x y : Value) (xs ys : List Int) (w : World) (hx : Reads w x xs) (hy : Reads w y ys) :
    Calls Tryd.prog 35 #[x, y] w fun e w' => e = .returned (.bool (decide (xs = ys))) ∧ w' = w := by
  have c1 := conv_reads hx
  have c2 := conv_reads hy
  have HB : Hid (((strOfNums xs).toList == (strOfNums ys).toList) = decide (xs = ys)) := by
    obtain ⟨_, _, _, _, _, h1, _⟩ := hx
    obtain ⟨_, _, _, _, _, h2, _⟩ := hy
    exact str_beq xs ys h1 h2
  clear hx hy
  go_enter Tryd.func35, Tryd.ntmps35
  go_wp2
  go_ret
  exact ⟨by rw [← HB.out]; rfl, rfl⟩

set_option maxHeartbeats 2000000 in
set_option maxRecDepth 10000 in
theorem clash_any (x y : Value) (xs ys : List Int) (w : World) (hx : Reads w x xs) (hy : Reads w y ys) (hL : Laid w) (h1 : xs.length ≤ 576460752303423488) (h2 : ys.length ≤ 576460752303423488) :
    Calls Tryd.prog 22 #[.agg #[x, y]] w fun e w' => e = .returned (.bool (!decide (xs = ys) && decide (dig xs = dig ys))) ∧ Below w.heap.size w w' := by
  have HX := hidden hx
  have HY := hidden hy
  have HL := hidden hL
  have HD := fun w => hash_eq (dig xs) (dig ys) (dig_length _) (dig_length _) w
  obtain ⟨xa, xc, rfl, _, _, _, _⟩ := hx
  obtain ⟨ya, yc, rfl, _, _, _, _⟩ := hy
  clear hL
  by_cases heq : xs = ys
  · have hd : decide (xs = ys) = true := decide_eq_true heq
    go_enter Tryd.func22, Tryd.ntmps22
    go_wp2_with (refine wpList_bx _ rfl _ _ rfl _ rfl ?_; intro w1 g1 hg1 hl1 B1 b1)
    have HS : Hid (∀ w', Below w1.heap.size w1 w' → w'.cell? ⟨g1, 0, none⟩ = some (.slice xa xs.length xc) ∧ w'.cell? ⟨g1, 1, none⟩ = some (.slice ya ys.length yc)) := by
      intro w' hw'
      have h1 := B1.grow hw'
      exact ⟨by rw [h1.cell]; rfl, by rw [h1.cell]; rfl⟩
    have hd1 : Below w1.heap.size w1 w1.drew := (Below.refl _ _).drew
    have HE : Hid (∀ w', Below w1.heap.size w1 w' → Calls Tryd.prog 35 #[.slice xa xs.length xc, .slice ya ys.length yc] w' fun e w'' => e = .returned (.bool true) ∧ w'' = w') := by
      intro w' hw'
      have := equal_any _ _ xs ys w' (HX.out.grow (grow_trans b1 hw')) (HY.out.grow (grow_trans b1 hw'))
      rw [hd] at this
      exact this
    have HDD := hidden hd
    have HDG : Hid (dig xs = dig ys) := by rw [heq]; rfl
    clear hd heq B1
    refine wp_region_held_drew (S := fun w' => w'.cell? ⟨g1, 0, none⟩ = some (.slice xa xs.length xc) ∧ w'.cell? ⟨g1, 1, none⟩ = some (.slice ya ys.length yc)) (by kernel_rfl) (HS.out _ hd1) (fun hHeld => ?_)
    refine wpAnyH_take (i := 0) (v := .pointer (some ⟨g1, 0, none⟩)) rfl (by kernel_rfl) (by kernel_rfl) (by kernel_rfl) (fun _ _ _ h => h) (Or.inl ⟨by rfl, fun w hS => by go_simp⟩) hHeld ?_
    simp only [Act.put, List.getElem_toArray, List.getElem_cons_zero, List.setIfInBounds_toArray, List.set_cons_zero, List.set_cons_succ]
    refine wpAnyH_take (i := 1) (v := .slice xa xs.length xc) rfl (by kernel_rfl) (by kernel_rfl) (by kernel_rfl) (fun _ _ _ h => h) (Or.inl ⟨by rfl, fun w hS => by (have q1 := hS.1; have q2 := hS.2; go_simp)⟩) hHeld ?_
    simp only [Act.put, List.getElem_toArray, List.getElem_cons_zero, List.getElem_cons_succ, List.setIfInBounds_toArray, List.set_cons_zero, List.set_cons_succ]
    refine wpAnyH_take (i := 2) (v := .pointer (some ⟨g1, 1, none⟩)) rfl (by kernel_rfl) (by kernel_rfl) (by kernel_rfl) (fun _ _ _ h => h) (Or.inl ⟨by rfl, fun w hS => by go_simp⟩) hHeld ?_
    simp only [Act.put, List.getElem_toArray, List.getElem_cons_zero, List.getElem_cons_succ, List.setIfInBounds_toArray, List.set_cons_zero, List.set_cons_succ]
    refine wpAnyH_take (i := 3) (v := .slice ya ys.length yc) rfl (by kernel_rfl) (by kernel_rfl) (by kernel_rfl) (fun _ _ _ h => h) (Or.inl ⟨by rfl, fun w hS => by (have q1 := hS.1; have q2 := hS.2; go_simp)⟩) hHeld ?_
    simp only [Act.put, List.getElem_toArray, List.getElem_cons_zero, List.getElem_cons_succ, List.setIfInBounds_toArray, List.set_cons_zero, List.set_cons_succ]
    refine wpAnyH_ready (rs := [4]) (by kernel_rfl) (by simp) ?_
    refine AllReadyH.cons rfl (fun K hK => ?_) AllReadyH.nil
    go_simp
    refine (HE.out _ hd1).mono ?_
    rintro e wy ⟨rfl, hwy⟩
    rw [hwy]
    clear hwy
    refine hK.out _ _ (HS.out _ hd1) (fun hHeld => ?_)
    clear hK K
    refine wpAnyH_take (i := 5) (v := .bool false) rfl (by kernel_rfl) (by kernel_rfl) (by kernel_rfl) (fun _ _ _ h => h) (Or.inl ⟨by rfl, fun w hS => by go_simp⟩) hHeld ?_
    simp only [Act.put, List.getElem_toArray, List.getElem_cons_zero, List.getElem_cons_succ, List.setIfInBounds_toArray, List.set_cons_zero, List.set_cons_succ]
    refine wpAnyH_take (i := 6) (v := .bool false) rfl (by kernel_rfl) (by kernel_rfl) (by kernel_rfl) (fun _ _ _ h => h) (Or.inl ⟨by rfl, fun w hS => by go_simp⟩) hHeld ?_
    simp only [Act.put, List.getElem_toArray, List.getElem_cons_zero, List.getElem_cons_succ, List.setIfInBounds_toArray, List.set_cons_zero, List.set_cons_succ]
    refine wpAnyH_take (i := 7) (v := undef) rfl (by kernel_rfl) (by kernel_rfl) (by kernel_rfl) (fun _ _ _ h => h) (Or.inr ⟨by rfl, rfl⟩) hHeld ?_
    simp only [Act.put, List.getElem_toArray, List.getElem_cons_zero, List.getElem_cons_succ, List.setIfInBounds_toArray, List.set_cons_zero, List.set_cons_succ]
    refine wpAnyH_take (i := 8) (v := undef) rfl (by kernel_rfl) (by kernel_rfl) (by kernel_rfl) (fun _ _ _ h => h) (Or.inr ⟨by rfl, rfl⟩) hHeld ?_
    simp only [Act.put, List.getElem_toArray, List.getElem_cons_zero, List.getElem_cons_succ, List.setIfInBounds_toArray, List.set_cons_zero, List.set_cons_succ]
    refine wpAnyH_take (i := 10) (v := undef) rfl (by kernel_rfl) (by kernel_rfl) (by kernel_rfl) (fun _ _ _ h => h) (Or.inr ⟨by rfl, rfl⟩) hHeld ?_
    simp only [Act.put, List.getElem_toArray, List.getElem_cons_zero, List.getElem_cons_succ, List.setIfInBounds_toArray, List.set_cons_zero, List.set_cons_succ]
    refine wpAnyH_take (i := 11) (v := undef) rfl (by kernel_rfl) (by kernel_rfl) (by kernel_rfl) (fun _ _ _ h => h) (Or.inr ⟨by rfl, rfl⟩) hHeld ?_
    simp only [Act.put, List.getElem_toArray, List.getElem_cons_zero, List.getElem_cons_succ, List.setIfInBounds_toArray, List.set_cons_zero, List.set_cons_succ]
    refine wpAnyH_ready (rs := [9]) (by kernel_rfl) (by simp) ?_
    refine AllReadyH.cons rfl (fun K hK => ?_) AllReadyH.nil
    go_simp
    refine hK.out _ _ (HS.out _ hd1) (fun hHeld => ?_)
    clear hK K
    refine wpAnyH_ready (rs := [12]) (by kernel_rfl) (by simp) ?_
    refine AllReadyH.cons rfl (fun K hK => ?_) AllReadyH.nil
    go_simp
    refine hK.out _ _ (HS.out _ hd1) (fun hHeld => ?_)
    clear hK K
    refine wpAnyH_take (i := 13) (v := undef) rfl (by kernel_rfl) (by kernel_rfl) (by kernel_rfl) (fun _ _ _ h => h) (Or.inr ⟨by rfl, rfl⟩) hHeld ?_
    simp only [Act.put, List.getElem_toArray, List.getElem_cons_zero, List.getElem_cons_succ, List.setIfInBounds_toArray, List.set_cons_zero, List.set_cons_succ]
    refine wpAnyH_take (i := 14) (v := .bool false) rfl (by kernel_rfl) (by kernel_rfl) (by kernel_rfl) (fun _ _ _ h => h) (Or.inl ⟨by rfl, fun w hS => by go_simp⟩) hHeld ?_
    simp only [Act.put, List.getElem_toArray, List.getElem_cons_zero, List.getElem_cons_succ, List.setIfInBounds_toArray, List.set_cons_zero, List.set_cons_succ]
    refine wpAnyH_take (i := 15) (v := .bool false) rfl (by kernel_rfl) (by kernel_rfl) (by kernel_rfl) (fun _ _ _ h => h) (Or.inl ⟨by rfl, fun w hS => by go_simp⟩) hHeld ?_
    simp only [Act.put, List.getElem_toArray, List.getElem_cons_zero, List.getElem_cons_succ, List.setIfInBounds_toArray, List.set_cons_zero, List.set_cons_succ]
    refine wpAnyH_done (by kernel_rfl) ?_ _
    go_wp2
    go_ret
    exact ⟨by rw [HDD.out]; rfl, grow_trans b1 hd1⟩
  · have hd : decide (xs = ys) = false := decide_eq_false heq
    go_enter Tryd.func22, Tryd.ntmps22
    go_wp2_with (refine wpList_bx _ rfl _ _ rfl _ rfl ?_; intro w1 g1 hg1 hl1 B1 b1)
    have HS : Hid (∀ w', Below w1.heap.size w1 w' → w'.cell? ⟨g1, 0, none⟩ = some (.slice xa xs.length xc) ∧ w'.cell? ⟨g1, 1, none⟩ = some (.slice ya ys.length yc)) := by
      intro w' hw'
      have h1 := B1.grow hw'
      exact ⟨by rw [h1.cell]; rfl, by rw [h1.cell]; rfl⟩
    have hd1 : Below w1.heap.size w1 w1.drew := (Below.refl _ _).drew
    have HE : Hid (∀ w', Below w1.heap.size w1 w' → Calls Tryd.prog 35 #[.slice xa xs.length xc, .slice ya ys.length yc] w' fun e w'' => e = .returned (.bool false) ∧ w'' = w') := by
      intro w' hw'
      have := equal_any _ _ xs ys w' (HX.out.grow (grow_trans b1 hw')) (HY.out.grow (grow_trans b1 hw'))
      rw [hd] at this
      exact this
    have HDD := hidden hd
    clear hd heq B1
    refine wp_region_held_drew (S := fun w' => w'.cell? ⟨g1, 0, none⟩ = some (.slice xa xs.length xc) ∧ w'.cell? ⟨g1, 1, none⟩ = some (.slice ya ys.length yc)) (by kernel_rfl) (HS.out _ hd1) (fun hHeld => ?_)
    refine wpAnyH_take (i := 0) (v := .pointer (some ⟨g1, 0, none⟩)) rfl (by kernel_rfl) (by kernel_rfl) (by kernel_rfl) (fun _ _ _ h => h) (Or.inl ⟨by rfl, fun w hS => by go_simp⟩) hHeld ?_
    simp only [Act.put, List.getElem_toArray, List.getElem_cons_zero, List.setIfInBounds_toArray, List.set_cons_zero, List.set_cons_succ]
    refine wpAnyH_take (i := 1) (v := .slice xa xs.length xc) rfl (by kernel_rfl) (by kernel_rfl) (by kernel_rfl) (fun _ _ _ h => h) (Or.inl ⟨by rfl, fun w hS => by (have q1 := hS.1; have q2 := hS.2; go_simp)⟩) hHeld ?_
    simp only [Act.put, List.getElem_toArray, List.getElem_cons_zero, List.getElem_cons_succ, List.setIfInBounds_toArray, List.set_cons_zero, List.set_cons_succ]
    refine wpAnyH_take (i := 2) (v := .pointer (some ⟨g1, 1, none⟩)) rfl (by kernel_rfl) (by kernel_rfl) (by kernel_rfl) (fun _ _ _ h => h) (Or.inl ⟨by rfl, fun w hS => by go_simp⟩) hHeld ?_
    simp only [Act.put, List.getElem_toArray, List.getElem_cons_zero, List.getElem_cons_succ, List.setIfInBounds_toArray, List.set_cons_zero, List.set_cons_succ]
    refine wpAnyH_take (i := 3) (v := .slice ya ys.length yc) rfl (by kernel_rfl) (by kernel_rfl) (by kernel_rfl) (fun _ _ _ h => h) (Or.inl ⟨by rfl, fun w hS => by (have q1 := hS.1; have q2 := hS.2; go_simp)⟩) hHeld ?_
    simp only [Act.put, List.getElem_toArray, List.getElem_cons_zero, List.getElem_cons_succ, List.setIfInBounds_toArray, List.set_cons_zero, List.set_cons_succ]
    refine wpAnyH_ready (rs := [4]) (by kernel_rfl) (by simp) ?_
    refine AllReadyH.cons rfl (fun K hK => ?_) AllReadyH.nil
    go_simp
    refine (HE.out _ hd1).mono ?_
    rintro e wy ⟨rfl, hwy⟩
    rw [hwy]
    clear hwy
    refine hK.out _ _ (HS.out _ hd1) (fun hHeld => ?_)
    clear hK K
    refine wpAnyH_take (i := 5) (v := .bool true) rfl (by kernel_rfl) (by kernel_rfl) (by kernel_rfl) (fun _ _ _ h => h) (Or.inl ⟨by rfl, fun w hS => by go_simp⟩) hHeld ?_
    simp only [Act.put, List.getElem_toArray, List.getElem_cons_zero, List.getElem_cons_succ, List.setIfInBounds_toArray, List.set_cons_zero, List.set_cons_succ]
    refine wpAnyH_take (i := 6) (v := .bool true) rfl (by kernel_rfl) (by kernel_rfl) (by kernel_rfl) (fun _ _ _ h => h) (Or.inl ⟨by rfl, fun w hS => by go_simp⟩) hHeld ?_
    simp only [Act.put, List.getElem_toArray, List.getElem_cons_zero, List.getElem_cons_succ, List.setIfInBounds_toArray, List.set_cons_zero, List.set_cons_succ]
    refine wpAnyH_take (i := 7) (v := .pointer (some ⟨g1, 0, none⟩)) rfl (by kernel_rfl) (by kernel_rfl) (by kernel_rfl) (fun _ _ _ h => h) (Or.inl ⟨by rfl, fun w hS => by go_simp⟩) hHeld ?_
    simp only [Act.put, List.getElem_toArray, List.getElem_cons_zero, List.getElem_cons_succ, List.setIfInBounds_toArray, List.set_cons_zero, List.set_cons_succ]
    refine wpAnyH_take (i := 8) (v := .slice xa xs.length xc) rfl (by kernel_rfl) (by kernel_rfl) (by kernel_rfl) (fun _ _ _ h => h) (Or.inl ⟨by rfl, fun w hS => by (have q1 := hS.1; have q2 := hS.2; go_simp)⟩) hHeld ?_
    simp only [Act.put, List.getElem_toArray, List.getElem_cons_zero, List.getElem_cons_succ, List.setIfInBounds_toArray, List.set_cons_zero, List.set_cons_succ]
    refine wpAnyH_take (i := 10) (v := .pointer (some ⟨g1, 1, none⟩)) rfl (by kernel_rfl) (by kernel_rfl) (by kernel_rfl) (fun _ _ _ h => h) (Or.inl ⟨by rfl, fun w hS => by go_simp⟩) hHeld ?_
    simp only [Act.put, List.getElem_toArray, List.getElem_cons_zero, List.getElem_cons_succ, List.setIfInBounds_toArray, List.set_cons_zero, List.set_cons_succ]
    refine wpAnyH_take (i := 11) (v := .slice ya ys.length yc) rfl (by kernel_rfl) (by kernel_rfl) (by kernel_rfl) (fun _ _ _ h => h) (Or.inl ⟨by rfl, fun w hS => by (have q1 := hS.1; have q2 := hS.2; go_simp)⟩) hHeld ?_
    simp only [Act.put, List.getElem_toArray, List.getElem_cons_zero, List.getElem_cons_succ, List.setIfInBounds_toArray, List.set_cons_zero, List.set_cons_succ]
    refine wpAnyH_ready (rs := [9]) (by kernel_rfl) (by simp) ?_
    refine AllReadyH.cons rfl (fun K hK => ?_) AllReadyH.nil
    go_simp
    refine (shaSum_any _ xs _ (HX.out.grow (grow_trans b1 hd1)) (HL.out.grow (grow_trans b1 hd1)) h1).mono ?_
    rintro e w2 ⟨rfl, b2⟩
    have hd2 := grow_trans hd1 b2
    refine hK.out _ _ (HS.out _ hd2) (fun hHeld => ?_)
    clear hK K
    refine wpAnyH_ready (rs := [12]) (by kernel_rfl) (by simp) ?_
    refine AllReadyH.cons rfl (fun K hK => ?_) AllReadyH.nil
    go_simp
    refine (shaSum_any _ ys _ (HY.out.grow (grow_trans b1 hd2)) (HL.out.grow (grow_trans b1 hd2)) h2).mono ?_
    rintro e w3 ⟨rfl, b3⟩
    have hd3 := grow_trans hd2 b3
    refine hK.out _ _ (HS.out _ hd3) (fun hHeld => ?_)
    clear hK K
    refine wpAnyH_take (i := 13) (v := .bool (decide (dig xs = dig ys))) rfl (by kernel_rfl) (by kernel_rfl) (by kernel_rfl) (fun _ _ _ h => h) (Or.inl ⟨by rfl, fun w hS => by go_simp⟩) hHeld ?_
    simp only [Act.put, List.getElem_toArray, List.getElem_cons_zero, List.getElem_cons_succ, List.setIfInBounds_toArray, List.set_cons_zero, List.set_cons_succ]
    refine wpAnyH_take (i := 14) (v := .bool (decide (dig xs = dig ys))) rfl (by kernel_rfl) (by kernel_rfl) (by kernel_rfl) (fun _ _ _ h => h) (Or.inl ⟨by rfl, fun w hS => by go_simp⟩) hHeld ?_
    simp only [Act.put, List.getElem_toArray, List.getElem_cons_zero, List.getElem_cons_succ, List.setIfInBounds_toArray, List.set_cons_zero, List.set_cons_succ]
    refine wpAnyH_take (i := 15) (v := .bool (decide (dig xs = dig ys))) rfl (by kernel_rfl) (by kernel_rfl) (by kernel_rfl) (fun _ _ _ h => h) (Or.inl ⟨by rfl, fun w hS => by go_simp⟩) hHeld ?_
    simp only [Act.put, List.getElem_toArray, List.getElem_cons_zero, List.getElem_cons_succ, List.setIfInBounds_toArray, List.set_cons_zero, List.set_cons_succ]
    refine wpAnyH_done (by kernel_rfl) ?_ _
    go_wp2
    go_ret
    exact ⟨by rw [HDD.out]; rfl, grow_trans b1 hd3⟩

end Go.Proofs.YtacfhkaihcclaaaDoor
