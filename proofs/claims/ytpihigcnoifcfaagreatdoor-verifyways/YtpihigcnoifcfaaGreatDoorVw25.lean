/- Arrays of bytes held against each other; bytes.Equal; tag.Clash, as a contract. -/
import Derived.Test.YtpihigcnoifcfaaGreatDoorVw11
import Derived.Test.YtpihigcnoifcfaaGreatDoorVw17
import Derived.Test.YtpihigcnoifcfaaGreatDoorVw06
import Derived.Deep.RegionHeld2
import Derived.Test.YtpihigcnoifcfaaGreatDoorVw24
import Derived.Test.YtpihigcnoifcfaaGreatDoorVw01
namespace Go.Proofs.YtpihigcnoifcfaaGreatDoor
set_option maxRecDepth 20000
open Go.RowKit

set_option maxHeartbeats 400000 in
theorem equal_any (x y : Value) (xs ys : List Int) (w : World) (hx : Reads w x xs) (hy : Reads w y ys) :
    Calls Tryz.prog 27 #[x, y] w fun e w' => e = .returned (.bool (decide (xs = ys))) ∧ w' = w := by
  have c1 := conv_reads hx
  have c2 := conv_reads hy
  have HB : Hid (((strOfNums xs).toList == (strOfNums ys).toList) = decide (xs = ys)) := by
    obtain ⟨_, _, _, _, _, h1, _⟩ := hx
    obtain ⟨_, _, _, _, _, h2, _⟩ := hy
    exact str_beq xs ys h1 h2
  clear hx hy
  go_enter Tryz.func27, Tryz.ntmps27
  go_wp2
  go_ret
  exact ⟨by rw [← HB.out]; rfl, rfl⟩

set_option maxHeartbeats 2000000 in
set_option maxRecDepth 10000 in
theorem clash_any (x y : Value) (xs ys : List Int) (w : World) (hx : Reads w x xs) (hy : Reads w y ys) (hL : Laid w) (h1 : xs.length ≤ 576460752303423488) (h2 : ys.length ≤ 576460752303423488) :
    Calls Tryz.prog 10 #[.agg #[x, y]] w fun e w' => e = .returned (.bool (!decide (xs = ys) && decide (dig xs = dig ys))) ∧ Below w.heap.size w w' := by
  have HX := hidden hx
  have HY := hidden hy
  have HL := hidden hL
  have HD := fun w => hash_eq (dig xs) (dig ys) (dig_length _) (dig_length _) w
  obtain ⟨xa, xc, rfl, _, _, _, _⟩ := hx
  obtain ⟨ya, yc, rfl, _, _, _, _⟩ := hy
  clear hL
  by_cases heq : xs = ys
  · have hd : decide (xs = ys) = true := decide_eq_true heq
    go_enter Tryz.func10, Tryz.ntmps10
    go_wp2_with (refine wpList_bx _ rfl _ _ rfl _ rfl ?_; intro w1 g1 hg1 hl1 B1 b1)
    have HS : Hid (∀ w', Below w1.heap.size w1 w' → w'.cell? ⟨g1, 0, none⟩ = some (.slice xa xs.length xc) ∧ w'.cell? ⟨g1, 1, none⟩ = some (.slice ya ys.length yc)) := by
      intro w' hw'
      have h1 := B1.grow hw'
      exact ⟨by rw [h1.cell]; rfl, by rw [h1.cell]; rfl⟩
    have hd1 : Below w1.heap.size w1 w1.drew := (Below.refl _ _).drew
    have HE : Hid (∀ w', Below w1.heap.size w1 w' → Calls Tryz.prog 27 #[.slice xa xs.length xc, .slice ya ys.length yc] w' fun e w'' => e = .returned (.bool true) ∧ w'' = w') := by
      intro w' hw'
      have := equal_any _ _ xs ys w' (HX.out.grow (grow_trans b1 hw')) (HY.out.grow (grow_trans b1 hw'))
      rw [hd] at this
      exact this
    have HDD := hidden hd
    have HDG : Hid (dig xs = dig ys) := by rw [heq]; rfl
    clear hd heq B1
    refine wp_region_held_drew (S := fun w' => w'.cell? ⟨g1, 0, none⟩ = some (.slice xa xs.length xc) ∧ w'.cell? ⟨g1, 1, none⟩ = some (.slice ya ys.length yc)) (by kernel_rfl) (HS.out _ hd1) (fun hHeld => ?_)
    refine wpAnyH_take (i := 0) (v := .pointer (some ⟨g1, 0, none⟩)) rfl (by kernel_rfl) (by kernel_rfl) (by kernel_rfl) (fun _ _ _ h => h) (Or.inl ⟨by rfl, fun w hS => by go_simp⟩) hHeld ?_
    simp only [Act.put, List.getElem_toArray, List.getElem_cons_zero, List.setIfInBounds_toArray, List.set_cons_zero, List.set_cons_succ]
    refine wpAnyH_take (i := 1) (v := .slice xa xs.length xc) rfl (by kernel_rfl) (by kernel_rfl) (by kernel_rfl) (fun _ _ _ h => h) (Or.inl ⟨by rfl, fun w hS => by (have q1 := hS.1; have q2 := hS.2; go_simp)⟩) hHeld ?_
    simp only [Act.put, List.getElem_toArray, List.getElem_cons_zero, List.getElem_cons_succ, List.setIfInBounds_toArray, List.set_cons_zero, List.set_cons_succ]
    refine wpAnyH_take (i := 2) (v := .pointer (some ⟨g1, 1, none⟩)) rfl (by kernel_rfl) (by kernel_rfl) (by kernel_rfl) (fun _ _ _ h => h) (Or.inl ⟨by rfl, fun w hS => by go_simp⟩) hHeld ?_
    simp only [Act.put, List.getElem_toArray, List.getElem_cons_zero, List.getElem_cons_succ, List.setIfInBounds_toArray, List.set_cons_zero, List.set_cons_succ]
    refine wpAnyH_take (i := 3) (v := .slice ya ys.length yc) rfl (by kernel_rfl) (by kernel_rfl) (by kernel_rfl) (fun _ _ _ h => h) (Or.inl ⟨by rfl, fun w hS => by (have q1 := hS.1; have q2 := hS.2; go_simp)⟩) hHeld ?_
    simp only [Act.put, List.getElem_toArray, List.getElem_cons_zero, List.getElem_cons_succ, List.setIfInBounds_toArray, List.set_cons_zero, List.set_cons_succ]
    refine wpAnyH_ready (rs := [4]) (by kernel_rfl) (by simp) ?_
    refine AllReadyH.cons rfl (fun K hK => ?_) AllReadyH.nil
    go_simp
    refine (HE.out _ hd1).mono ?_
    rintro e wy ⟨rfl, hwy⟩
    rw [hwy]
    clear hwy
    refine hK.out _ _ (HS.out _ hd1) (fun hHeld => ?_)
    clear hK K
    refine wpAnyH_take (i := 5) (v := .bool false) rfl (by kernel_rfl) (by kernel_rfl) (by kernel_rfl) (fun _ _ _ h => h) (Or.inl ⟨by rfl, fun w hS => by go_simp⟩) hHeld ?_
    simp only [Act.put, List.getElem_toArray, List.getElem_cons_zero, List.getElem_cons_succ, List.setIfInBounds_toArray, List.set_cons_zero, List.set_cons_succ]
    refine wpAnyH_take (i := 6) (v := .bool false) rfl (by kernel_rfl) (by kernel_rfl) (by kernel_rfl) (fun _ _ _ h => h) (Or.inl ⟨by rfl, fun w hS => by go_simp⟩) hHeld ?_
    simp only [Act.put, List.getElem_toArray, List.getElem_cons_zero, List.getElem_cons_succ, List.setIfInBounds_toArray, List.set_cons_zero, List.set_cons_succ]
    refine wpAnyH_take (i := 7) (v := undef) rfl (by kernel_rfl) (by kernel_rfl) (by kernel_rfl) (fun _ _ _ h => h) (Or.inr ⟨by rfl, rfl⟩) hHeld ?_
    simp only [Act.put, List.getElem_toArray, List.getElem_cons_zero, List.getElem_cons_succ, List.setIfInBounds_toArray, List.set_cons_zero, List.set_cons_succ]
    refine wpAnyH_take (i := 8) (v := undef) rfl (by kernel_rfl) (by kernel_rfl) (by kernel_rfl) (fun _ _ _ h => h) (Or.inr ⟨by rfl, rfl⟩) hHeld ?_
    simp only [Act.put, List.getElem_toArray, List.getElem_cons_zero, List.getElem_cons_succ, List.setIfInBounds_toArray, List.set_cons_zero, List.set_cons_succ]
    refine wpAnyH_take (i := 10) (v := undef) rfl (by kernel_rfl) (by kernel_rfl) (by kernel_rfl) (fun _ _ _ h => h) (Or.inr ⟨by rfl, rfl⟩) hHeld ?_
    simp only [Act.put, List.getElem_toArray, List.getElem_cons_zero, List.getElem_cons_succ, List.setIfInBounds_toArray, List.set_cons_zero, List.set_cons_succ]
    refine wpAnyH_take (i := 11) (v := undef) rfl (by kernel_rfl) (by kernel_rfl) (by kernel_rfl) (fun _ _ _ h => h) (Or.inr ⟨by rfl, rfl⟩) hHeld ?_
    simp only [Act.put, List.getElem_toArray, List.getElem_cons_zero, List.getElem_cons_succ, List.setIfInBounds_toArray, List.set_cons_zero, List.set_cons_succ]
    refine wpAnyH_ready (rs := [9]) (by kernel_rfl) (by simp) ?_
    refine AllReadyH.cons rfl (fun K hK => ?_) AllReadyH.nil
    go_simp
    refine hK.out _ _ (HS.out _ hd1) (fun hHeld => ?_)
    clear hK K
    refine wpAnyH_ready (rs := [12]) (by kernel_rfl) (by simp) ?_
    refine AllReadyH.cons rfl (fun K hK => ?_) AllReadyH.nil
    go_simp
    refine hK.out _ _ (HS.out _ hd1) (fun hHeld => ?_)
    clear hK K
    refine wpAnyH_take (i := 13) (v := undef) rfl (by kernel_rfl) (by kernel_rfl) (by kernel_rfl) (fun _ _ _ h => h) (Or.inr ⟨by rfl, rfl⟩) hHeld ?_
    simp only [Act.put, List.getElem_toArray, List.getElem_cons_zero, List.getElem_cons_succ, List.setIfInBounds_toArray, List.set_cons_zero, List.set_cons_succ]
    refine wpAnyH_take (i := 14) (v := .bool false) rfl (by kernel_rfl) (by kernel_rfl) (by kernel_rfl) (fun _ _ _ h => h) (Or.inl ⟨by rfl, fun w hS => by go_simp⟩) hHeld ?_
    simp only [Act.put, List.getElem_toArray, List.getElem_cons_zero, List.getElem_cons_succ, List.setIfInBounds_toArray, List.set_cons_zero, List.set_cons_succ]
    refine wpAnyH_take (i := 15) (v := .bool false) rfl (by kernel_rfl) (by kernel_rfl) (by kernel_rfl) (fun _ _ _ h => h) (Or.inl ⟨by rfl, fun w hS => by go_simp⟩) hHeld ?_
    simp only [Act.put, List.getElem_toArray, List.getElem_cons_zero, List.getElem_cons_succ, List.setIfInBounds_toArray, List.set_cons_zero, List.set_cons_succ]
    refine wpAnyH_done (by kernel_rfl) ?_ _
    go_wp2
    go_ret
    exact ⟨by rw [HDD.out]; rfl, grow_trans b1 hd1⟩
  · have hd : decide (xs = ys) = false := decide_eq_false heq
    go_enter Tryz.func10, Tryz.ntmps10
    go_wp2_with (refine wpList_bx _ rfl _ _ rfl _ rfl ?_; intro w1 g1 hg1 hl1 B1 b1)
    have HS : Hid (∀ w', Below w1.heap.size w1 w' → w'.cell? ⟨g1, 0, none⟩ = some (.slice xa xs.length xc) ∧ w'.cell? ⟨g1, 1, none⟩ = some (.slice ya ys.length yc)) := by
      intro w' hw'
      have h1 := B1.grow hw'
      exact ⟨by rw [h1.cell]; rfl, by rw [h1.cell]; rfl⟩
    have hd1 : Below w1.heap.size w1 w1.drew := (Below.refl _ _).drew
    have HE : Hid (∀ w', Below w1.heap.size w1 w' → Calls Tryz.prog 27 #[.slice xa xs.length xc, .slice ya ys.length yc] w' fun e w'' => e = .returned (.bool false) ∧ w'' = w') := by
      intro w' hw'
      have := equal_any _ _ xs ys w' (HX.out.grow (grow_trans b1 hw')) (HY.out.grow (grow_trans b1 hw'))
      rw [hd] at this
      exact this
    have HDD := hidden hd
    clear hd heq B1
    refine wp_region_held_drew (S := fun w' => w'.cell? ⟨g1, 0, none⟩ = some (.slice xa xs.length xc) ∧ w'.cell? ⟨g1, 1, none⟩ = some (.slice ya ys.length yc)) (by kernel_rfl) (HS.out _ hd1) (fun hHeld => ?_)
    refine wpAnyH_take (i := 0) (v := .pointer (some ⟨g1, 0, none⟩)) rfl (by kernel_rfl) (by kernel_rfl) (by kernel_rfl) (fun _ _ _ h => h) (Or.inl ⟨by rfl, fun w hS => by go_simp⟩) hHeld ?_
    simp only [Act.put, List.getElem_toArray, List.getElem_cons_zero, List.setIfInBounds_toArray, List.set_cons_zero, List.set_cons_succ]
    refine wpAnyH_take (i := 1) (v := .slice xa xs.length xc) rfl (by kernel_rfl) (by kernel_rfl) (by kernel_rfl) (fun _ _ _ h => h) (Or.inl ⟨by rfl, fun w hS => by (have q1 := hS.1; have q2 := hS.2; go_simp)⟩) hHeld ?_
    simp only [Act.put, List.getElem_toArray, List.getElem_cons_zero, List.getElem_cons_succ, List.setIfInBounds_toArray, List.set_cons_zero, List.set_cons_succ]
    refine wpAnyH_take (i := 2) (v := .pointer (some ⟨g1, 1, none⟩)) rfl (by kernel_rfl) (by kernel_rfl) (by kernel_rfl) (fun _ _ _ h => h) (Or.inl ⟨by rfl, fun w hS => by go_simp⟩) hHeld ?_
    simp only [Act.put, List.getElem_toArray, List.getElem_cons_zero, List.getElem_cons_succ, List.setIfInBounds_toArray, List.set_cons_zero, List.set_cons_succ]
    refine wpAnyH_take (i := 3) (v := .slice ya ys.length yc) rfl (by kernel_rfl) (by kernel_rfl) (by kernel_rfl) (fun _ _ _ h => h) (Or.inl ⟨by rfl, fun w hS => by (have q1 := hS.1; have q2 := hS.2; go_simp)⟩) hHeld ?_
    simp only [Act.put, List.getElem_toArray, List.getElem_cons_zero, List.getElem_cons_succ, List.setIfInBounds_toArray, List.set_cons_zero, List.set_cons_succ]
    refine wpAnyH_ready (rs := [4]) (by kernel_rfl) (by simp) ?_
    refine AllReadyH.cons rfl (fun K hK => ?_) AllReadyH.nil
    go_simp
    refine (HE.out _ hd1).mono ?_
    rintro e wy ⟨rfl, hwy⟩
    rw [hwy]
    clear hwy
    refine hK.out _ _ (HS.out _ hd1) (fun hHeld => ?_)
    clear hK K
    refine wpAnyH_take (i := 5) (v := .bool true) rfl (by kernel_rfl) (by kernel_rfl) (by kernel_rfl) (fun _ _ _ h => h) (Or.inl ⟨by rfl, fun w hS => by go_simp⟩) hHeld ?_
    simp only [Act.put, List.getElem_toArray, List.getElem_cons_zero, List.getElem_cons_succ, List.setIfInBounds_toArray, List.set_cons_zero, List.set_cons_succ]
    refine wpAnyH_take (i := 6) (v := .bool true) rfl (by kernel_rfl) (by kernel_rfl) (by kernel_rfl) (fun _ _ _ h => h) (Or.inl ⟨by rfl, fun w hS => by go_simp⟩) hHeld ?_
    simp only [Act.put, List.getElem_toArray, List.getElem_cons_zero, List.getElem_cons_succ, List.setIfInBounds_toArray, List.set_cons_zero, List.set_cons_succ]
    refine wpAnyH_take (i := 7) (v := .pointer (some ⟨g1, 0, none⟩)) rfl (by kernel_rfl) (by kernel_rfl) (by kernel_rfl) (fun _ _ _ h => h) (Or.inl ⟨by rfl, fun w hS => by go_simp⟩) hHeld ?_
    simp only [Act.put, List.getElem_toArray, List.getElem_cons_zero, List.getElem_cons_succ, List.setIfInBounds_toArray, List.set_cons_zero, List.set_cons_succ]
    refine wpAnyH_take (i := 8) (v := .slice xa xs.length xc) rfl (by kernel_rfl) (by kernel_rfl) (by kernel_rfl) (fun _ _ _ h => h) (Or.inl ⟨by rfl, fun w hS => by (have q1 := hS.1; have q2 := hS.2; go_simp)⟩) hHeld ?_
    simp only [Act.put, List.getElem_toArray, List.getElem_cons_zero, List.getElem_cons_succ, List.setIfInBounds_toArray, List.set_cons_zero, List.set_cons_succ]
    refine wpAnyH_take (i := 10) (v := .pointer (some ⟨g1, 1, none⟩)) rfl (by kernel_rfl) (by kernel_rfl) (by kernel_rfl) (fun _ _ _ h => h) (Or.inl ⟨by rfl, fun w hS => by go_simp⟩) hHeld ?_
    simp only [Act.put, List.getElem_toArray, List.getElem_cons_zero, List.getElem_cons_succ, List.setIfInBounds_toArray, List.set_cons_zero, List.set_cons_succ]
    refine wpAnyH_take (i := 11) (v := .slice ya ys.length yc) rfl (by kernel_rfl) (by kernel_rfl) (by kernel_rfl) (fun _ _ _ h => h) (Or.inl ⟨by rfl, fun w hS => by (have q1 := hS.1; have q2 := hS.2; go_simp)⟩) hHeld ?_
    simp only [Act.put, List.getElem_toArray, List.getElem_cons_zero, List.getElem_cons_succ, List.setIfInBounds_toArray, List.set_cons_zero, List.set_cons_succ]
    refine wpAnyH_ready (rs := [9]) (by kernel_rfl) (by simp) ?_
    refine AllReadyH.cons rfl (fun K hK => ?_) AllReadyH.nil
    go_simp
    refine (shaSum_any _ xs _ (HX.out.grow (grow_trans b1 hd1)) (HL.out.grow (grow_trans b1 hd1)) h1).mono ?_
    rintro e w2 ⟨rfl, b2⟩
    have hd2 := grow_trans hd1 b2
    refine hK.out _ _ (HS.out _ hd2) (fun hHeld => ?_)
    clear hK K
    refine wpAnyH_ready (rs := [12]) (by kernel_rfl) (by simp) ?_
    refine AllReadyH.cons rfl (fun K hK => ?_) AllReadyH.nil
    go_simp
    refine (shaSum_any _ ys _ (HY.out.grow (grow_trans b1 hd2)) (HL.out.grow (grow_trans b1 hd2)) h2).mono ?_
    rintro e w3 ⟨rfl, b3⟩
    have hd3 := grow_trans hd2 b3
    refine hK.out _ _ (HS.out _ hd3) (fun hHeld => ?_)
    clear hK K
    refine wpAnyH_take (i := 13) (v := .bool (decide (dig xs = dig ys))) rfl (by kernel_rfl) (by kernel_rfl) (by kernel_rfl) (fun _ _ _ h => h) (Or.inl ⟨by rfl, fun w hS => by go_simp⟩) hHeld ?_
    simp only [Act.put, List.getElem_toArray, List.getElem_cons_zero, List.getElem_cons_succ, List.setIfInBounds_toArray, List.set_cons_zero, List.set_cons_succ]
    refine wpAnyH_take (i := 14) (v := .bool (decide (dig xs = dig ys))) rfl (by kernel_rfl) (by kernel_rfl) (by kernel_rfl) (fun _ _ _ h => h) (Or.inl ⟨by rfl, fun w hS => by go_simp⟩) hHeld ?_
    simp only [Act.put, List.getElem_toArray, List.getElem_cons_zero, List.getElem_cons_succ, List.setIfInBounds_toArray, List.set_cons_zero, List.set_cons_succ]
    refine wpAnyH_take (i := 15) (v := .bool (decide (dig xs = dig ys))) rfl (by kernel_rfl) (by kernel_rfl) (by kernel_rfl) (fun _ _ _ h => h) (Or.inl ⟨by rfl, fun w hS => by go_simp⟩) hHeld ?_
    simp only [Act.put, List.getElem_toArray, List.getElem_cons_zero, List.getElem_cons_succ, List.setIfInBounds_toArray, List.set_cons_zero, List.set_cons_succ]
    refine wpAnyH_done (by kernel_rfl) ?_ _
    go_wp2
    go_ret
    exact ⟨by rw [HDD.out]; rfl, grow_trans b1 hd3⟩

end Go.Proofs.YtpihigcnoifcfaaGreatDoor

/- pack.readSides as a contract: bytes too few, or of too many sides; the sides of all others, and whether the bits are those of these sides. -/
namespace Go.Proofs.YtpihigcnoifcfaaGreatDoor
set_option maxRecDepth 20000
open Go.RowKit

theorem Rd.grown {w w' : World} {b : Nat} {o : Option Nat} {zs : List Int} {bad : Bool} (h : Rd w b o zs bad) (hg : w.grownBy w' (some b)) : Below b w w' := ⟨hg.os, hg.tape, hg.output, hg.size, fun k hk => hg.block k (Nat.lt_trans hk h.lt) (fun e => by injection e with e; omega)⟩
theorem Blk.apart {w w' : World} {g b : Nat} {t : TypeId} {cs : Array Value} (h : Blk w g t cs) (hg : w.grownBy w' (some b)) (hn : g ≠ b) : Blk w' g t cs := h.of_block (hg.block g h.lt (fun e => hn (by injection e)))
theorem Own.apart {b0 : Nat} {w w' : World} {v : Value} {zs sp : List Int} (h : Own b0 w v zs sp) {b : Nat} (hg : w.grownBy w' (some b)) (hn : v.ownBlock ≠ some b) : Own b0 w' v zs sp := h.of_block fun k hk => hg.block k (h.lt k hk).2 (fun e => hn (by rw [hk]; exact e))

theorem grown_new {w w' w'' : World} {b g : Nat} (h : w.grownBy w' (some b)) (hg : w'.grownBy w'' (some g)) (hge : w.heap.size ≤ g) : w.grownBy w'' (some b) :=
  ⟨hg.os.trans h.os, hg.tape.trans h.tape, hg.output.trans h.output, Nat.le_trans h.size hg.size, fun k hk hn => (hg.block k (Nat.lt_of_lt_of_le hk h.size) (fun e => by injection e with e; omega)).trans (h.block k hk hn)⟩
theorem Rd.apart {w w' : World} {b : Nat} {o : Option Nat} {zs : List Int} {bad : Bool} (h : Rd w b o zs bad) {g : Nat} (hg : w.grownBy w' (some g)) (hb : b ≠ g) (ho : o ≠ some g) : Rd w' b o zs bad := h.kept hg (fun e => hb (by injection e)) (.inr ho)

/-- The numbers of a reader's bytes. -/
theorem num_head {zs : List Int} (hb : Bytes zs) (h : fitD zs) : (if 2 ≤ zs.length then numOf (zs.take 2) else 0) = (pN zs : Int) := by
  have h2 : 2 ≤ zs.length := by have := h.1; omega
  rw [if_pos h2, (head_two hb h2).2.1]
theorem tk_head {zs : List Int} (h : fitD zs) : tk false zs 2 = (zs.take 2, zs.drop 2, false) := tk_ok (by have := h.1; omega)
theorem tk_bits {zs : List Int} (h : fitD zs) : tk false (zs.drop 2) (by7 (pN zs)) = (pB zs, zs.drop (2 + by7 (pN zs)), false) := by
  have := h.1
  rw [tk_ok (by rw [List.length_drop]; omega), List.drop_drop]
  rfl

theorem wpAnyH_via {P : Program} {md : Region.Mode} {ops : Array Oper} {Q : Exit → Act → World → Prop} {S : World → Prop} {fuel : Nat} {listed : Array Bool} {a : Act} {w : World} (A : Nat → Nat → Act) (F : Nat → Nat → World → Prop)
    (hp : ∀ c d v a w, Q (.panic c) (a.put d v) w → Q (.panic c) a w)
    (hb : ∀ Q' : Exit → Act → World → Prop, (∀ c d v a w, Q' (.panic c) (a.put d v) w → Q' (.panic c) a w) → (∀ g h w', F g h w' → Q' .normal (A g h) w') → wpAnyH P md ops Q' S fuel listed a w) (hc : ∀ g h w', F g h w' → Q .normal (A g h) w') : wpAnyH P md ops Q S fuel listed a w := hb Q hp hc

/-- What readSides leaves. -/
def RsPost (zs : List Int) (b : Nat) (o : Option Nat) (w : World) (e : Ending) (w' : World) : Prop :=
  ∃ a c, e = .returned (.tuple #[.slice a (pN zs) c, .bool (decide (pB zs = bitsL (pR zs).1))]) ∧ Rd w' b o (pR zs).2.1 (pR zs).2.2 ∧ w'.ownsRow w.heap.size 25 32 (.slice a (pN zs) c) (pN zs) (flatH (pR zs).1) ∧ w.grownBy w' (some b)

set_option maxRecDepth 100000 in
set_option maxHeartbeats 8000000 in
theorem readSides_ok (b : Nat) (zs : List Int) (o : Option Nat) (W w : World) (h : Rd w b o zs false) (hby : Bytes zs) (hf : fitD zs) (hL : Laid W) (hW : Below W.heap.size W w) (hWb : W.heap.size ≤ b) (ho : ∀ k, o = some k → k < w.heap.size) :
    Calls Tryz.prog 42 #[.pointer (some ⟨b, 0, none⟩)] w (RsPost zs b o w) := by
  have hn256 := hf.2
  have hlt0 := h.lt
  have hno : o ≠ some b := by obtain ⟨_, _, _, _, _, h5⟩ := h; exact h5
  have HLa : Hid (∀ w', w.grownBy w' (some b) → Laid w') := fun w' hg => hL.grow (below_row hW hg hWb)
  have HU : Hid (Calls Tryz.prog 64 #[.pointer (some ⟨b, 0, none⟩)] w fun e w' => e = .returned (.int .i64 (pN zs : Int)) ∧ Rd w' b o (zs.drop 2) false ∧ w.grownBy w' (some b)) := by
    have := rd_u16 b zs o w h
    rwa [num_head hby hf, tk_head hf] at this
  have HT1 : Hid (∀ w', Rd w' b o (zs.drop 2) false → Calls Tryz.prog 44 #[.pointer (some ⟨b, 0, none⟩), .int .i64 (by7 (pN zs) : Int)] w' fun e w'' => ∃ a c sp, e = .returned (.slice a (by7 (pN zs)) c) ∧ Own w'.heap.size w'' (.slice a (by7 (pN zs)) c) (pB zs) sp ∧ Rd w'' b o (zs.drop (2 + by7 (pN zs))) false ∧ w'.grownBy w'' (some b)) := fun w' hr => by
    have := rd_take b (by7 (pN zs)) (zs.drop 2) false o w' hr
    rw [tk_bits hf] at this
    simp only [pB_length hf] at this
    exact this
  have HDg : Hid (∀ k, Dg (rdK (pB zs) (zs.drop (2 + by7 (pN zs))) k).1) := fun k => (rdK_ok _ _ (hby.drop _) k).1
  have HSL : Hid (∀ k, (rdK (pB zs) (zs.drop (2 + by7 (pN zs))) k).1.length = k) := fun k => rdK_length _ _ k
  have HSt : Hid (∀ k, ∃ x, (rdK (pB zs) (zs.drop (2 + by7 (pN zs))) (k + 1)).1 = (rdK (pB zs) (zs.drop (2 + by7 (pN zs))) k).1 ++ [x] ∧ ((kb (pB zs) k = 0 ∧ x = emD ∧ (rdK (pB zs) (zs.drop (2 + by7 (pN zs))) (k + 1)).2 = (rdK (pB zs) (zs.drop (2 + by7 (pN zs))) k).2)
      ∨ (kb (pB zs) k ≠ 0 ∧ (tk (rdK (pB zs) (zs.drop (2 + by7 (pN zs))) k).2.2 (rdK (pB zs) (zs.drop (2 + by7 (pN zs))) k).2.1 32).2 = (rdK (pB zs) (zs.drop (2 + by7 (pN zs))) (k + 1)).2 ∧
        ((tk (rdK (pB zs) (zs.drop (2 + by7 (pN zs))) k).2.2 (rdK (pB zs) (zs.drop (2 + by7 (pN zs))) k).2.1 32).1 = x ∧ x.length = 32 ∨ (tk (rdK (pB zs) (zs.drop (2 + by7 (pN zs))) k).2.2 (rdK (pB zs) (zs.drop (2 + by7 (pN zs))) k).2.1 32).1 = [] ∧ x = z32)))) := fun k => by
    obtain ⟨x, h1, h2⟩ := rdK_step (pB zs) (zs.drop (2 + by7 (pN zs))) k
    refine ⟨x, h1, ?_⟩
    rcases h2 with h2 | ⟨q1, q2, q3, q4⟩ | ⟨q1, q2, q3, q4, q5⟩ | ⟨q1, q2, q3, q4, q5⟩
    · exact .inl h2
    · refine .inr ⟨q1, ?_, .inr ?_⟩
      · rw [q2, tk_bad, q4, ← q2]
      · rw [q2, tk_bad]
        exact ⟨rfl, q3⟩
    · refine .inr ⟨q1, ?_, .inl ?_⟩
      · rw [q2, tk_ok q3, q5]
      · rw [q2, tk_ok q3]
        exact ⟨q4.symm, by rw [q4, List.length_take]; omega⟩
    · refine .inr ⟨q1, ?_, .inr ?_⟩
      · rw [tk_few q3, q5]
      · rw [tk_few q3]
        exact ⟨rfl, q4⟩
  have HBB : Hid (Bytes (pB zs) ∧ (pB zs).length = by7 (pN zs)) := ⟨(hby.drop _).take _, pB_length hf⟩
  have HPost : Hid (∀ a c w', Rd w' b o (pR zs).2.1 (pR zs).2.2 → w'.ownsRow w.heap.size 25 32 (.slice a (pN zs) c) (pN zs) (flatH (pR zs).1) → w.grownBy w' (some b) → RsPost zs b o w (.returned (.tuple #[.slice a (pN zs) c, .bool (decide (pB zs = bitsL (pR zs).1))])) w') := fun a c w' h1 h2 h3 => ⟨a, c, rfl, h1, h2, h3⟩
  have hpr : pR zs = rdK (pB zs) (zs.drop (2 + by7 (pN zs))) (pN zs) := rfl
  rw [hpr] at HPost
  generalize HE : RsPost zs b o w = Post at HPost ⊢
  have HR := hidden h
  clear HE hpr h hby hf
  generalize zs.drop (2 + by7 (pN zs)) = r0 at *
  generalize pB zs = bs at *
  generalize pN zs = n at *
  obtain ⟨m, hm⟩ : ∃ m, m = by7 n := ⟨_, rfl⟩
  rw [← hm] at HT1 HBB
  have HM : Hid (n ≤ 8 * m ∧ m ≤ 32) := by show _ ∧ _; rw [hm]; unfold by7; omega
  have HBF : Hid (∀ w, Calls Tryz.prog 52 #[.int .i64 n] w fun e w' => e = .returned (.int .i64 m) ∧ w' = w) := fun w => by rw [hm]; exact bytesFor_any n w (by omega)
  have HBd : Hid (∀ w' zs', Rd w' b o zs' false → Calls Tryz.prog 65 #[.pointer (some ⟨b, 0, none⟩)] w' fun e w'' => e = .returned (.bool false) ∧ w'' = w') := fun w' zs' h => rd_bad b zs' false w' o h
  obtain ⟨D, hD⟩ : ∃ D, D = emD := ⟨_, rfl⟩
  have HEM : Hid (∀ w', w.grownBy w' (some b) → Calls Tryz.prog 53 #[] w' fun e w'' => e = .returned (.agg (B D)) ∧ Below w'.heap.size w' w'') := fun w' h => by rw [hD]; exact pempty_any w' (HLa.out w' h)
  have HSZ : Hid ((Tryz.prog.info? 25).map (·.size) = some (B D).size) := by show _ = _; rw [B_size, hD, emD_length]; exact sz_hash
  have HS2 : Hid ((B (List.replicate 32 0)).size = (B D).size) := by show _ = _; rw [B_size, B_size, hD, emD_length]; rfl
  have HDs : Hid ((B D).size = 32) := by show _ = _; rw [B_size, hD, emD_length]
  have HMK : Hid (∀ k w, k < n → Calls Tryz.prog 54 #[.int .i64 (k : Int)] w fun e w' => e = .returned (.int .u8 (2 ^ (7 - k % 8))) ∧ w' = w) := fun k w hk => mark_any k w (by omega)
  have HMKS : Hid (∀ w' a c, w.grownBy w' (some b) → w'.ownsRow w.heap.size 25 32 (.slice a n c) n (flatH (rdK bs r0 n).1) → Calls Tryz.prog 24 #[.slice a n c] w' fun e w'' => ∃ a1 l1 c1 a2 l2 c2, e = .returned (.tuple #[.slice a1 l1 c1, .slice a2 l2 c2]) ∧ Reads w'' (.slice a1 l1 c1) (bitsL (rdK bs r0 n).1) ∧ Below w'.heap.size w' w'') := fun w' a c hg ho => by
    have ho' := ho
    have hl := HSL.out n
    have hat : HsAt w' (.slice a n c) (rdK bs r0 n).1 := hsAt_own (base := w.heap.size) (by rw [hl]; exact ho') (HDg.out n)
    refine (marks_any _ _ w' hat (by rw [hl]; omega) (HLa.out w' hg)).mono ?_
    rintro e w'' ⟨g, v, sp, h1, h2, h3, h4⟩
    obtain ⟨a2, c2, rfl⟩ := h3.slice
    exact ⟨_, _, _, a2, _, c2, h1, h2.reads, h4⟩
  have HN6 : Hid (n ≤ 256) := hn256
  rw [← hD] at HSt
  clear hm hL hD hn256
  go_enter Tryz.func42, Tryz.ntmps42
  have hn6 : n ≤ 256 := HN6.out
  have zn : ¬ (256 : Int) < (n : Int) := by omega
  go_wp2_with (first
    | (go_at_call 64; refine HU.out.mono ?_; rintro e w1 ⟨rfl, r1, g1⟩; have HR1 := hidden r1; have HG1 := hidden g1; clear r1 g1)
    | (go_at_call 52; refine (HBF.out _).mono ?_; rintro e w1 ⟨rfl, rfl⟩)
    | (go_at_call 44; refine (HT1.out _ HR1.out).mono ?_; rintro e w2 ⟨a5, c5, sp5, rfl, o2, r2, g2⟩; have HO2 := hidden o2; have HR2 := hidden r2; have HG2 := hidden (grown_trans HG1.out g2); have HGz := hidden g2; clear o2 r2 g2)
    | (go_at_call 65; refine (HBd.out _ _ HR2.out).mono ?_; rintro e w2 ⟨rfl, rfl⟩))
  have HW12 : Hid (w.heap.size ≤ w1.heap.size ∧ w.heap.size ≤ w2.heap.size) := ⟨HG1.out.size, HG2.out.size⟩
  have HOb : Hid ((Value.slice a5 m c5).ownBlock ≠ some b) := fun e => by
    have h1 := (HO2.out.lt b e).1
    have h2 := HW12.out.1
    omega
  have HO2' : Hid (Own w.heap.size w2 (.slice a5 m c5) bs sp5) := HO2.out.mono HW12.out.1
  clear HO2 HGz HT1 HU HBF HBd HR1 HG1
  refine wp_region_held_drew (S := fun w' => Below w2.heap.size w2 w') (by kernel_rfl) ((Below.refl _ _).drew) (fun hHeld => ?_)
  refine wpAnyH_take (i := 0) (v := .int .i64 (n : Int)) rfl (by kernel_rfl) (by kernel_rfl) (by kernel_rfl) (fun _ _ _ h => h) (Or.inl ⟨by rfl, fun w hS => by go_simp⟩) hHeld ?_
  simp only [Act.put, List.getElem_toArray, List.getElem_cons_zero, List.setIfInBounds_toArray, List.set_cons_zero, List.set_cons_succ]
  generalize w2.drew = z0 at hHeld ⊢
  refine wpAnyH_via (fun gS g7 => ⟨#[.pointer (some ⟨b, 0, none⟩), undef, .slice none 0 0, .bool false, .int .i64 (n : Int), .slice a5 m c5, .slice (some ⟨gS, 0, none⟩) n n, .pointer (some ⟨g7, 0, none⟩), undef, undef, undef, .pointer (some ⟨b, 0, none⟩), .int .i64 (n : Int), .pointer (some ⟨b, 0, none⟩), .int .i64 (n : Int), .int .i64 (m : Int), .slice a5 m c5, .pointer (some ⟨b, 0, none⟩), .bool false, .bool false, .int .i64 (n : Int), .bool (decide ((256 : Int) < (n : Int))), .bool (decide ((256 : Int) < (n : Int))), .int .i64 (n : Int), .slice (some ⟨gS, 0, none⟩) n n, .agg (B D), undef, undef, undef, undef, undef, undef, undef, undef, undef, undef, undef, undef, undef, undef, undef, undef, undef, undef, undef, undef, undef, undef, undef, undef, undef, undef, undef, undef, undef, undef, undef, undef, undef, undef, undef], []⟩) (fun gS g7 w' => w2.heap.size ≤ gS ∧ w2.heap.size ≤ g7 ∧ gS ≠ g7 ∧ Blk w' gS 25 (B (List.replicate (n * 32) 0)) ∧ Blk w' g7 25 (B D) ∧ Below w2.heap.size w2 w') (fun _ d _ _ _ h => by cases d <;> exact h) (fun KK hPK hKK => ?_) ?_
  · refine wpAnyH_ready (rs := [1, 2, 3]) (by kernel_rfl) (by simp) ?_
    refine AllReadyH.cons rfl (fun KQ hK => ?_) (AllReadyH.cons rfl (fun KQ hK => ?_) (AllReadyH.cons rfl (fun KQ hK => ?_) AllReadyH.nil))
    · refine step_mkh _ rfl _ _ rfl n rfl rfl (by omega) ?_
      intro z1 bS a1
      have hH := grow_trans hHeld a1
      have lS := hHeld.size
      clear a1
      obtain ⟨gS, hgS⟩ : ∃ gS, gS = z0.heap.size := ⟨_, rfl⟩
      rw [← hgS] at bS lS ⊢
      clear hgS
      refine hK.out _ _ hH (fun hHeld => ?_)
      clear hK KQ hH
      refine wpAnyH_ready (rs := [2, 3]) (by kernel_rfl) (by simp) ?_
      refine AllReadyH.cons rfl (fun KQ hK => ?_) (AllReadyH.cons rfl (fun KQ hK => ?_) AllReadyH.nil)
      · go_simp
        refine (HEM.out _ (grown_trans HG2.out (below_grown hHeld _))).mono ?_
        rintro e z2 ⟨rfl, a1⟩
        replace bS := bS.grow a1
        have hH := grow_trans hHeld a1
        refine hK.out _ _ hH (fun hHeld => ?_)
        clear hK KQ hH
        refine wpAnyH_ready (rs := [3]) (by kernel_rfl) (by simp) ?_
        refine AllReadyH.cons rfl (fun KQ hK => ?_) AllReadyH.nil
        · refine step_alv _ rfl _ rfl _ zero_hash ?_
          intro z3 b7 a1
          have hH := grow_trans hHeld a1
          have l7 := hHeld.size
          have neS7 : gS ≠ z2.heap.size := by have := bS.lt; omega
          replace bS := bS.grow a1
          clear a1
          obtain ⟨g7, hg7⟩ : ∃ g7, g7 = z2.heap.size := ⟨_, rfl⟩
          rw [← hg7] at b7 l7 neS7 ⊢
          clear hg7
          refine hK.out _ _ hH (fun hHeld => ?_)
          clear hK KQ hH
          refine wpAnyH_take (i := 4) (v := .slice (some ⟨gS, 0, none⟩) n n) rfl (by kernel_rfl) (by kernel_rfl) (by kernel_rfl) (fun _ _ _ h => hPK _ _ _ _ _ h) (Or.inl ⟨by rfl, fun w hS => by go_simp⟩) hHeld ?_
          simp only [Act.put, List.getElem_toArray, List.getElem_cons_zero, List.getElem_cons_succ, List.setIfInBounds_toArray, List.set_cons_zero, List.set_cons_succ]
          refine wpAnyH_ready (rs := [5]) (by kernel_rfl) (by simp) ?_
          refine AllReadyH.cons rfl (fun KQ hK => ?_) AllReadyH.nil
          refine step_sto _ rfl _ _ _ rfl g7 _ (B D) rfl rfl b7 HSZ.out HS2.out (B_one _) ?_
          intro z4 bE rE
          have bS' := bS.keptO rE (by intro e; injection e with e; exact neS7 e)
          have hH := below_row hHeld rE l7
          refine hK.out _ _ hH (fun hHeld => ?_)
          clear hK KQ
          refine wpAnyH_done (by kernel_rfl) ?_ _
          exact hKK gS g7 z4 ⟨lS, l7, neS7, bS', bE, hH⟩
      · refine step_alv _ rfl _ rfl _ zero_hash ?_
        intro z2 b7 a1
        have hH := grow_trans hHeld a1
        have l7 := hHeld.size
        have neS7 : gS ≠ z1.heap.size := by have := bS.lt; omega
        replace bS := bS.grow a1
        clear a1
        obtain ⟨g7, hg7⟩ : ∃ g7, g7 = z1.heap.size := ⟨_, rfl⟩
        rw [← hg7] at b7 l7 neS7 ⊢
        clear hg7
        refine hK.out _ _ hH (fun hHeld => ?_)
        clear hK KQ hH
        refine wpAnyH_ready (rs := [2]) (by kernel_rfl) (by simp) ?_
        refine AllReadyH.cons rfl (fun KQ hK => ?_) AllReadyH.nil
        · go_simp
          refine (HEM.out _ (grown_trans HG2.out (below_grown hHeld _))).mono ?_
          rintro e z3 ⟨rfl, a1⟩
          replace b7 := b7.grow a1
          replace bS := bS.grow a1
          have hH := grow_trans hHeld a1
          refine hK.out _ _ hH (fun hHeld => ?_)
          clear hK KQ hH
          refine wpAnyH_take (i := 4) (v := .slice (some ⟨gS, 0, none⟩) n n) rfl (by kernel_rfl) (by kernel_rfl) (by kernel_rfl) (fun _ _ _ h => hPK _ _ _ _ _ h) (Or.inl ⟨by rfl, fun w hS => by go_simp⟩) hHeld ?_
          simp only [Act.put, List.getElem_toArray, List.getElem_cons_zero, List.getElem_cons_succ, List.setIfInBounds_toArray, List.set_cons_zero, List.set_cons_succ]
          refine wpAnyH_ready (rs := [5]) (by kernel_rfl) (by simp) ?_
          refine AllReadyH.cons rfl (fun KQ hK => ?_) AllReadyH.nil
          refine step_sto _ rfl _ _ _ rfl g7 _ (B D) rfl rfl b7 HSZ.out HS2.out (B_one _) ?_
          intro z4 bE rE
          have bS' := bS.keptO rE (by intro e; injection e with e; exact neS7 e)
          have hH := below_row hHeld rE l7
          refine hK.out _ _ hH (fun hHeld => ?_)
          clear hK KQ
          refine wpAnyH_done (by kernel_rfl) ?_ _
          exact hKK gS g7 z4 ⟨lS, l7, neS7, bS', bE, hH⟩
    · go_simp
      refine (HEM.out _ (grown_trans HG2.out (below_grown hHeld _))).mono ?_
      rintro e z1 ⟨rfl, a1⟩
      have hH := grow_trans hHeld a1
      refine hK.out _ _ hH (fun hHeld => ?_)
      clear hK KQ hH
      refine wpAnyH_ready (rs := [1, 3]) (by kernel_rfl) (by simp) ?_
      refine AllReadyH.cons rfl (fun KQ hK => ?_) (AllReadyH.cons rfl (fun KQ hK => ?_) AllReadyH.nil)
      · refine step_mkh _ rfl _ _ rfl n rfl rfl (by omega) ?_
        intro z2 bS a1
        have hH := grow_trans hHeld a1
        have lS := hHeld.size
        clear a1
        obtain ⟨gS, hgS⟩ : ∃ gS, gS = z1.heap.size := ⟨_, rfl⟩
        rw [← hgS] at bS lS ⊢
        clear hgS
        refine hK.out _ _ hH (fun hHeld => ?_)
        clear hK KQ hH
        refine wpAnyH_ready (rs := [3]) (by kernel_rfl) (by simp) ?_
        refine AllReadyH.cons rfl (fun KQ hK => ?_) AllReadyH.nil
        · refine step_alv _ rfl _ rfl _ zero_hash ?_
          intro z3 b7 a1
          have hH := grow_trans hHeld a1
          have l7 := hHeld.size
          have neS7 : gS ≠ z2.heap.size := by have := bS.lt; omega
          replace bS := bS.grow a1
          clear a1
          obtain ⟨g7, hg7⟩ : ∃ g7, g7 = z2.heap.size := ⟨_, rfl⟩
          rw [← hg7] at b7 l7 neS7 ⊢
          clear hg7
          refine hK.out _ _ hH (fun hHeld => ?_)
          clear hK KQ hH
          refine wpAnyH_take (i := 4) (v := .slice (some ⟨gS, 0, none⟩) n n) rfl (by kernel_rfl) (by kernel_rfl) (by kernel_rfl) (fun _ _ _ h => hPK _ _ _ _ _ h) (Or.inl ⟨by rfl, fun w hS => by go_simp⟩) hHeld ?_
          simp only [Act.put, List.getElem_toArray, List.getElem_cons_zero, List.getElem_cons_succ, List.setIfInBounds_toArray, List.set_cons_zero, List.set_cons_succ]
          refine wpAnyH_ready (rs := [5]) (by kernel_rfl) (by simp) ?_
          refine AllReadyH.cons rfl (fun KQ hK => ?_) AllReadyH.nil
          refine step_sto _ rfl _ _ _ rfl g7 _ (B D) rfl rfl b7 HSZ.out HS2.out (B_one _) ?_
          intro z4 bE rE
          have bS' := bS.keptO rE (by intro e; injection e with e; exact neS7 e)
          have hH := below_row hHeld rE l7
          refine hK.out _ _ hH (fun hHeld => ?_)
          clear hK KQ
          refine wpAnyH_done (by kernel_rfl) ?_ _
          exact hKK gS g7 z4 ⟨lS, l7, neS7, bS', bE, hH⟩
      · refine step_alv _ rfl _ rfl _ zero_hash ?_
        intro z2 b7 a1
        have hH := grow_trans hHeld a1
        have l7 := hHeld.size
        clear a1
        obtain ⟨g7, hg7⟩ : ∃ g7, g7 = z1.heap.size := ⟨_, rfl⟩
        rw [← hg7] at b7 l7 ⊢
        clear hg7
        refine hK.out _ _ hH (fun hHeld => ?_)
        clear hK KQ hH
        refine wpAnyH_ready (rs := [1]) (by kernel_rfl) (by simp) ?_
        refine AllReadyH.cons rfl (fun KQ hK => ?_) AllReadyH.nil
        · refine step_mkh _ rfl _ _ rfl n rfl rfl (by omega) ?_
          intro z3 bS a1
          have hH := grow_trans hHeld a1
          have lS := hHeld.size
          have neS7 : z2.heap.size ≠ g7 := by have := b7.lt; omega
          replace b7 := b7.grow a1
          clear a1
          obtain ⟨gS, hgS⟩ : ∃ gS, gS = z2.heap.size := ⟨_, rfl⟩
          rw [← hgS] at bS lS neS7 ⊢
          clear hgS
          refine hK.out _ _ hH (fun hHeld => ?_)
          clear hK KQ hH
          refine wpAnyH_take (i := 4) (v := .slice (some ⟨gS, 0, none⟩) n n) rfl (by kernel_rfl) (by kernel_rfl) (by kernel_rfl) (fun _ _ _ h => hPK _ _ _ _ _ h) (Or.inl ⟨by rfl, fun w hS => by go_simp⟩) hHeld ?_
          simp only [Act.put, List.getElem_toArray, List.getElem_cons_zero, List.getElem_cons_succ, List.setIfInBounds_toArray, List.set_cons_zero, List.set_cons_succ]
          refine wpAnyH_ready (rs := [5]) (by kernel_rfl) (by simp) ?_
          refine AllReadyH.cons rfl (fun KQ hK => ?_) AllReadyH.nil
          refine step_sto _ rfl _ _ _ rfl g7 _ (B D) rfl rfl b7 HSZ.out HS2.out (B_one _) ?_
          intro z4 bE rE
          have bS' := bS.keptO rE (by intro e; injection e with e; exact neS7 e)
          have hH := below_row hHeld rE l7
          refine hK.out _ _ hH (fun hHeld => ?_)
          clear hK KQ
          refine wpAnyH_done (by kernel_rfl) ?_ _
          exact hKK gS g7 z4 ⟨lS, l7, neS7, bS', bE, hH⟩
    · refine step_alv _ rfl _ rfl _ zero_hash ?_
      intro z1 b7 a1
      have hH := grow_trans hHeld a1
      have l7 := hHeld.size
      clear a1
      obtain ⟨g7, hg7⟩ : ∃ g7, g7 = z0.heap.size := ⟨_, rfl⟩
      rw [← hg7] at b7 l7 ⊢
      clear hg7
      refine hK.out _ _ hH (fun hHeld => ?_)
      clear hK KQ hH
      refine wpAnyH_ready (rs := [1, 2]) (by kernel_rfl) (by simp) ?_
      refine AllReadyH.cons rfl (fun KQ hK => ?_) (AllReadyH.cons rfl (fun KQ hK => ?_) AllReadyH.nil)
      · refine step_mkh _ rfl _ _ rfl n rfl rfl (by omega) ?_
        intro z2 bS a1
        have hH := grow_trans hHeld a1
        have lS := hHeld.size
        have neS7 : z1.heap.size ≠ g7 := by have := b7.lt; omega
        replace b7 := b7.grow a1
        clear a1
        obtain ⟨gS, hgS⟩ : ∃ gS, gS = z1.heap.size := ⟨_, rfl⟩
        rw [← hgS] at bS lS neS7 ⊢
        clear hgS
        refine hK.out _ _ hH (fun hHeld => ?_)
        clear hK KQ hH
        refine wpAnyH_ready (rs := [2]) (by kernel_rfl) (by simp) ?_
        refine AllReadyH.cons rfl (fun KQ hK => ?_) AllReadyH.nil
        · go_simp
          refine (HEM.out _ (grown_trans HG2.out (below_grown hHeld _))).mono ?_
          rintro e z3 ⟨rfl, a1⟩
          replace b7 := b7.grow a1
          replace bS := bS.grow a1
          have hH := grow_trans hHeld a1
          refine hK.out _ _ hH (fun hHeld => ?_)
          clear hK KQ hH
          refine wpAnyH_take (i := 4) (v := .slice (some ⟨gS, 0, none⟩) n n) rfl (by kernel_rfl) (by kernel_rfl) (by kernel_rfl) (fun _ _ _ h => hPK _ _ _ _ _ h) (Or.inl ⟨by rfl, fun w hS => by go_simp⟩) hHeld ?_
          simp only [Act.put, List.getElem_toArray, List.getElem_cons_zero, List.getElem_cons_succ, List.setIfInBounds_toArray, List.set_cons_zero, List.set_cons_succ]
          refine wpAnyH_ready (rs := [5]) (by kernel_rfl) (by simp) ?_
          refine AllReadyH.cons rfl (fun KQ hK => ?_) AllReadyH.nil
          refine step_sto _ rfl _ _ _ rfl g7 _ (B D) rfl rfl b7 HSZ.out HS2.out (B_one _) ?_
          intro z4 bE rE
          have bS' := bS.keptO rE (by intro e; injection e with e; exact neS7 e)
          have hH := below_row hHeld rE l7
          refine hK.out _ _ hH (fun hHeld => ?_)
          clear hK KQ
          refine wpAnyH_done (by kernel_rfl) ?_ _
          exact hKK gS g7 z4 ⟨lS, l7, neS7, bS', bE, hH⟩
      · go_simp
        refine (HEM.out _ (grown_trans HG2.out (below_grown hHeld _))).mono ?_
        rintro e z2 ⟨rfl, a1⟩
        replace b7 := b7.grow a1
        have hH := grow_trans hHeld a1
        refine hK.out _ _ hH (fun hHeld => ?_)
        clear hK KQ hH
        refine wpAnyH_ready (rs := [1]) (by kernel_rfl) (by simp) ?_
        refine AllReadyH.cons rfl (fun KQ hK => ?_) AllReadyH.nil
        · refine step_mkh _ rfl _ _ rfl n rfl rfl (by omega) ?_
          intro z3 bS a1
          have hH := grow_trans hHeld a1
          have lS := hHeld.size
          have neS7 : z2.heap.size ≠ g7 := by have := b7.lt; omega
          replace b7 := b7.grow a1
          clear a1
          obtain ⟨gS, hgS⟩ : ∃ gS, gS = z2.heap.size := ⟨_, rfl⟩
          rw [← hgS] at bS lS neS7 ⊢
          clear hgS
          refine hK.out _ _ hH (fun hHeld => ?_)
          clear hK KQ hH
          refine wpAnyH_take (i := 4) (v := .slice (some ⟨gS, 0, none⟩) n n) rfl (by kernel_rfl) (by kernel_rfl) (by kernel_rfl) (fun _ _ _ h => hPK _ _ _ _ _ h) (Or.inl ⟨by rfl, fun w hS => by go_simp⟩) hHeld ?_
          simp only [Act.put, List.getElem_toArray, List.getElem_cons_zero, List.getElem_cons_succ, List.setIfInBounds_toArray, List.set_cons_zero, List.set_cons_succ]
          refine wpAnyH_ready (rs := [5]) (by kernel_rfl) (by simp) ?_
          refine AllReadyH.cons rfl (fun KQ hK => ?_) AllReadyH.nil
          refine step_sto _ rfl _ _ _ rfl g7 _ (B D) rfl rfl b7 HSZ.out HS2.out (B_one _) ?_
          intro z4 bE rE
          have bS' := bS.keptO rE (by intro e; injection e with e; exact neS7 e)
          have hH := below_row hHeld rE l7
          refine hK.out _ _ hH (fun hHeld => ?_)
          clear hK KQ
          refine wpAnyH_done (by kernel_rfl) ?_ _
          exact hKK gS g7 z4 ⟨lS, l7, neS7, bS', bE, hH⟩
  intro gS g7 w3 ⟨lS, l7, neS7, bS, b7, hb3⟩
  have HSep : Hid (gS ≠ b ∧ g7 ≠ b ∧ gS ≠ g7 ∧ w.heap.size ≤ gS ∧ o ≠ some gS ∧ (Value.slice a5 m c5).ownBlock ≠ some gS ∧ b ≠ gS) := by
    have h1 := HR2.out.lt
    have h2 := HW12.out.2
    refine ⟨by omega, by omega, neS7, by omega, fun e => ?_, fun e => ?_, by omega⟩
    · have := ho gS e
      omega
    · have := (HO2'.out.lt gS e).2
      omega
  have HS3 : Hid (Blk w3 gS 25 (B (psL (rdK bs r0 0).1 n))) := by
    show Blk _ _ _ _
    rw [show (rdK bs r0 0).1 = [] from rfl, psL_nil]
    exact bS
  have H73 := hidden b7
  have HR3 := hidden (HR2.out.grow hb3)
  have HO3 := hidden (HO2'.out.grow hb3)
  have HG3 := hidden (grown_trans HG2.out (below_grown hb3 (some b)))
  clear lS l7 neS7 bS b7 hb3 HR2 HO2' HG2 HW12 HEM ho
  go_wp2
  go_loopw [28] (fun iv wr => ∃ k : Nat, k ≤ n ∧ iv = .int .i64 (k : Int) ∧ Hid (Blk wr gS 25 (B (psL (rdK bs r0 k).1 n))) ∧ Hid (Blk wr g7 25 (B D)) ∧ Hid (Rd wr b o (rdK bs r0 k).2.1 (rdK bs r0 k).2.2) ∧ Hid (Own w.heap.size wr (.slice a5 m c5) bs sp5) ∧ Hid (w.grownBy wr (some b))) (fun iv _ => n - (intOf iv).toNat)
  case atStart => exact ⟨0, by omega, rfl, HS3.out, H73.out, HR3.out, HO3.out, HG3.out⟩
  case round =>
    obtain ⟨k, hk, rfl, hBS, hB7, hRd, hOw, hGr⟩ := hrel
    have hn6 : n ≤ 256 := HN6.out
    by_cases hlt : k < n
    · have z1 : (k : Int) < (n : Int) := by omega
      have z0 : (0 : Int) ≤ (k : Int) := by omega
      have hk8 : k / 8 < m := by have := HM.out.1; omega
      have z2 : (0 : Int) ≤ (k : Int) / 8 := by omega
      have z3 : (k : Int) / 8 < (m : Int) := by omega
      have z4 : IntKind.i64.wrap ((k : Int) / 8) = (k : Int) / 8 := by rw [IntKind.wrap_i64]; omega
      have z5 : ((k : Int) / 8).toNat = k / 8 := by omega
      obtain ⟨g5, o5, hcell⟩ : ∃ g5 o5, a5 = some ⟨g5, o5, none⟩ ∧ wr.cell? ⟨g5, o5 + k / 8, none⟩ = some (.int .u8 (bs.getD (k / 8) 0)) := by
        obtain ⟨a, c, e, _, _, _, h4⟩ := hOw.out.reads
        injection e with e1 e2 e3
        subst e1
        obtain ⟨g5, o5, e5, hc⟩ := h4 (by have := HBB.out.2; omega)
        exact ⟨g5, o5, e5, hc _ (by rw [HBB.out.2]; exact hk8)⟩
      obtain ⟨rfl, hcell⟩ := hcell
      have hx0 := HBB.out.1.getD (k / 8)
      have HMK2 : Hid (∀ w, Calls Tryz.prog 54 #[.int .i64 (k : Int)] w fun e w' => e = .returned (.int .u8 (2 ^ (7 - k % 8))) ∧ w' = w) := fun w => HMK.out k w hlt
      have hAnd : bits .and .u8 (bs.getD (k / 8) 0) (2 ^ (7 - k % 8)) = 0 ↔ kb bs k = 0 := and_mark _ hx0 _ (by omega)
      have HC : Hid (∀ w', Below wr.heap.size wr w' → w'.cell? ⟨g5, o5 + k / 8, none⟩ = some (.int .u8 (bs.getD (k / 8) 0))) := fun w' h => by rw [h.cell (block_lt_of_cell hcell)]; exact hcell
      obtain ⟨X, hX1, hX2⟩ := HSt.out k
      have hDgk := HDg.out k
      have hSLk := HSL.out k
      have HPut : Hid (((B (psL (rdK bs r0 k).1 n)).toList.take (k * 32) ++ (X.map (Value.int .u8) ++ (B (psL (rdK bs r0 k).1 n)).toList.drop (k * 32 + 32))).toArray = B (psL (rdK bs r0 (k + 1)).1 n)) := by show _ = _; rw [hX1]; exact psL_put hDgk hSLk hlt X
      have HPz : Hid (X = z32 → psL (rdK bs r0 (k + 1)).1 n = psL (rdK bs r0 k).1 n) := fun e => by rw [hX1, e]; exact psL_zero (by rw [hSLk]; exact hlt)
      have HSize : Hid ((B (psL (rdK bs r0 k).1 n)).size = n * 32) := by show _ = _; rw [B_size, psL_length hDgk (by omega)]
      have HTk : Hid (∀ w', Rd w' b o (rdK bs r0 k).2.1 (rdK bs r0 k).2.2 → Calls Tryz.prog 44 #[.pointer (some ⟨b, 0, none⟩), .int .i64 32] w' fun e w'' => ∃ a c sp, e = .returned (.slice a (tk (rdK bs r0 k).2.2 (rdK bs r0 k).2.1 32).1.length c) ∧ Own w'.heap.size w'' (.slice a (tk (rdK bs r0 k).2.2 (rdK bs r0 k).2.1 32).1.length c) (tk (rdK bs r0 k).2.2 (rdK bs r0 k).2.1 32).1 sp ∧ Rd w'' b o (tk (rdK bs r0 k).2.2 (rdK bs r0 k).2.1 32).2.1 (tk (rdK bs r0 k).2.2 (rdK bs r0 k).2.1 32).2.2 ∧ w'.grownBy w'' (some b)) := fun w' h => rd_take b 32 _ _ o w' h
      obtain ⟨x, hx⟩ : ∃ x, x = bs.getD (k / 8) 0 := ⟨_, rfl⟩
      obtain ⟨y, hy⟩ : ∃ y : Int, y = 2 ^ (7 - k % 8) := ⟨_, rfl⟩
      rw [← hx] at HC hAnd
      rw [← hy] at HMK2 hAnd
      generalize hSk : (rdK bs r0 k).1 = Sk at *
      generalize hTk : (rdK bs r0 k).2 = Tk at *
      obtain ⟨rest, bad⟩ := Tk
      simp only [] at hRd HTk hX2
      clear hx hy hx0 hcell hDgk hSLk hX1 hSk hTk
      rcases hX2 with ⟨hk0, hXD, hst⟩ | ⟨hk1, htk, hx⟩
      · have hv : bits .and .u8 x y = 0 := hAnd.2 hk0
        have hXD2 := hXD.symm
        subst hXD2
        clear hAnd hk0 HTk HPz
        have HCel : Hid (∀ w', Below wr.heap.size wr w' → Blk (w'.setCells gS (k * 32) (B D).toList) gS 25 (B (psL (rdK bs r0 (k + 1)).1 n))) := fun w' h => by
          have hl : (B D).toList.length = 32 := by have := HSZ.out; rw [Array.length_toList]; exact HDs.out
          have := Blk.cells (B D).toList (k * 32) (hBS.out.grow h) (by rw [hl, HSize.out]; omega)
          rw [hl, B_toList, HPut.out] at this
          rw [B_toList]
          exact this
        have HThr : Hid (∀ w', Below wr.heap.size wr w' → w'.there gS (k * 32) (B D).size) := fun w' h => (hBS.out.grow h).there (k * 32) _ (by rw [HSize.out, HDs.out]; omega)
        go_wp2
        refine wp_region_held_drew (S := fun w' => Below wr.heap.size wr w') (by kernel_rfl) ((Below.refl _ _).drew) (fun hHeld => ?_)
        generalize wr.drew = w9 at hHeld ⊢
        refine wpAnyH_take (i := 0) (v := .slice (some ⟨g5, o5, none⟩) m c5) rfl (by kernel_rfl) (by kernel_rfl) (by kernel_rfl) (fun _ _ _ h => h) (Or.inl ⟨by rfl, fun w hS => by go_simp⟩) hHeld ?_
        simp only [Act.put, List.getElem_toArray, List.getElem_cons_zero, List.setIfInBounds_toArray, List.set_cons_zero, List.set_cons_succ]
        refine wpAnyH_take (i := 1) (v := .int .i64 (k : Int)) rfl (by kernel_rfl) (by kernel_rfl) (by kernel_rfl) (fun _ _ _ h => h) (Or.inl ⟨by rfl, fun w hS => by go_simp⟩) hHeld ?_
        simp only [Act.put, List.getElem_toArray, List.getElem_cons_zero, List.getElem_cons_succ, List.setIfInBounds_toArray, List.set_cons_zero, List.set_cons_succ]
        refine wpAnyH_take (i := 2) (v := .int .i64 ((k : Int) / 8)) rfl (by kernel_rfl) (by kernel_rfl) (by kernel_rfl) (fun _ _ _ h => h) (Or.inl ⟨by rfl, fun w hS => by go_simp⟩) hHeld ?_
        simp only [Act.put, List.getElem_toArray, List.getElem_cons_zero, List.getElem_cons_succ, List.setIfInBounds_toArray, List.set_cons_zero, List.set_cons_succ]
        refine wpAnyH_take (i := 3) (v := .pointer (some ⟨g5, o5 + k / 8, none⟩)) rfl (by kernel_rfl) (by kernel_rfl) (by kernel_rfl) (fun _ _ _ h => h) (Or.inl ⟨by rfl, fun w hS => by go_simp⟩) hHeld ?_
        simp only [Act.put, List.getElem_toArray, List.getElem_cons_zero, List.getElem_cons_succ, List.setIfInBounds_toArray, List.set_cons_zero, List.set_cons_succ]
        refine wpAnyH_take (i := 4) (v := .int .u8 x) rfl (by kernel_rfl) (by kernel_rfl) (by kernel_rfl) (fun _ _ _ h => h) (Or.inl ⟨by rfl, fun w hS => by (have q1 := HC.out _ hS; go_simp)⟩) hHeld ?_
        simp only [Act.put, List.getElem_toArray, List.getElem_cons_zero, List.getElem_cons_succ, List.setIfInBounds_toArray, List.set_cons_zero, List.set_cons_succ]
        refine wpAnyH_take (i := 5) (v := .int .i64 (k : Int)) rfl (by kernel_rfl) (by kernel_rfl) (by kernel_rfl) (fun _ _ _ h => h) (Or.inl ⟨by rfl, fun w hS => by go_simp⟩) hHeld ?_
        simp only [Act.put, List.getElem_toArray, List.getElem_cons_zero, List.getElem_cons_succ, List.setIfInBounds_toArray, List.set_cons_zero, List.set_cons_succ]
        refine wpAnyH_ready (rs := [6]) (by kernel_rfl) (by simp) ?_
        refine AllReadyH.cons rfl (fun KQ hK => ?_) AllReadyH.nil
        go_simp
        refine (HMK2.out _).mono ?_
        rintro e w9 ⟨rfl, rfl⟩
        refine hK.out _ _ (hHeld) (fun hHeld => ?_)
        clear hK KQ
        refine wpAnyH_take (i := 7) (v := .int .u8 (bits .and .u8 x y)) rfl (by kernel_rfl) (by kernel_rfl) (by kernel_rfl) (fun _ _ _ h => h) (Or.inl ⟨by rfl, fun w hS => by go_simp⟩) hHeld ?_
        simp only [Act.put, List.getElem_toArray, List.getElem_cons_zero, List.getElem_cons_succ, List.setIfInBounds_toArray, List.set_cons_zero, List.set_cons_succ]
        refine wpAnyH_take (i := 8) (v := .bool true) rfl (by kernel_rfl) (by kernel_rfl) (by kernel_rfl) (fun _ _ _ h => h) (Or.inl ⟨by rfl, fun w hS => by go_simp⟩) hHeld ?_
        simp only [Act.put, List.getElem_toArray, List.getElem_cons_zero, List.getElem_cons_succ, List.setIfInBounds_toArray, List.set_cons_zero, List.set_cons_succ]
        refine wpAnyH_done (by kernel_rfl) ?_ _
        have HH9 := hidden hHeld
        clear hHeld
        go_wp2_with (first
          | ((with_reducible refine at_ldd 42 7 ?_); refine wpList_ld _ rfl _ _ rfl g7 _ rfl (hB7.out.grow HH9.out) _ _ Tryz.underlying25 HSZ.out ?_)
          | ((with_reducible refine at_st 43 ?_); refine wpList_store_mid rfl _ _ _ rfl gS (k * 32) (B D) rfl rfl (HThr.out _ HH9.out) HSZ.out (B_one _) ?_; have HCe := hidden (HCel.out _ HH9.out); have HGc := hidden (grown_setCells gS (B D).toList (k * 32) w9); generalize w9.setCells gS (k * 32) (B D).toList = w10 at *))
        refine ⟨⟨k + 1, by omega, by go_num, HCe.out, ?_, ?_, ?_, ?_⟩, by simp [intOf]; omega⟩
        · exact (hB7.out.grow HH9.out).apart HGc.out (Ne.symm HSep.out.2.2.1)
        · show Rd _ _ _ _ _
          rw [hst]
          exact (hRd.out.grow HH9.out).apart HGc.out HSep.out.2.2.2.2.2.2 HSep.out.2.2.2.2.1
        · exact (hOw.out.grow HH9.out).apart HGc.out HSep.out.2.2.2.2.2.1
        · exact grown_new (grown_trans hGr.out (below_grown HH9.out _)) HGc.out HSep.out.2.2.2.1
      · have hv : ¬ bits .and .u8 x y = 0 := fun e => hk1 (hAnd.1 e)
        have hv2 : (bits .and .u8 x y == 0) = false := by simp [hv]
        clear hAnd hk1
        rcases hx with ⟨hx1, hx2⟩ | ⟨hx1, hx2⟩
        · rw [hx1, htk, hx2] at HTk
          clear hx1 htk HPz
          go_wp2
          refine wp_region_held_drew (S := fun w' => Below wr.heap.size wr w') (by kernel_rfl) ((Below.refl _ _).drew) (fun hHeld => ?_)
          generalize wr.drew = w9 at hHeld ⊢
          refine wpAnyH_take (i := 0) (v := .slice (some ⟨g5, o5, none⟩) m c5) rfl (by kernel_rfl) (by kernel_rfl) (by kernel_rfl) (fun _ _ _ h => h) (Or.inl ⟨by rfl, fun w hS => by go_simp⟩) hHeld ?_
          simp only [Act.put, List.getElem_toArray, List.getElem_cons_zero, List.setIfInBounds_toArray, List.set_cons_zero, List.set_cons_succ]
          refine wpAnyH_take (i := 1) (v := .int .i64 (k : Int)) rfl (by kernel_rfl) (by kernel_rfl) (by kernel_rfl) (fun _ _ _ h => h) (Or.inl ⟨by rfl, fun w hS => by go_simp⟩) hHeld ?_
          simp only [Act.put, List.getElem_toArray, List.getElem_cons_zero, List.getElem_cons_succ, List.setIfInBounds_toArray, List.set_cons_zero, List.set_cons_succ]
          refine wpAnyH_take (i := 2) (v := .int .i64 ((k : Int) / 8)) rfl (by kernel_rfl) (by kernel_rfl) (by kernel_rfl) (fun _ _ _ h => h) (Or.inl ⟨by rfl, fun w hS => by go_simp⟩) hHeld ?_
          simp only [Act.put, List.getElem_toArray, List.getElem_cons_zero, List.getElem_cons_succ, List.setIfInBounds_toArray, List.set_cons_zero, List.set_cons_succ]
          refine wpAnyH_take (i := 3) (v := .pointer (some ⟨g5, o5 + k / 8, none⟩)) rfl (by kernel_rfl) (by kernel_rfl) (by kernel_rfl) (fun _ _ _ h => h) (Or.inl ⟨by rfl, fun w hS => by go_simp⟩) hHeld ?_
          simp only [Act.put, List.getElem_toArray, List.getElem_cons_zero, List.getElem_cons_succ, List.setIfInBounds_toArray, List.set_cons_zero, List.set_cons_succ]
          refine wpAnyH_take (i := 4) (v := .int .u8 x) rfl (by kernel_rfl) (by kernel_rfl) (by kernel_rfl) (fun _ _ _ h => h) (Or.inl ⟨by rfl, fun w hS => by (have q1 := HC.out _ hS; go_simp)⟩) hHeld ?_
          simp only [Act.put, List.getElem_toArray, List.getElem_cons_zero, List.getElem_cons_succ, List.setIfInBounds_toArray, List.set_cons_zero, List.set_cons_succ]
          refine wpAnyH_take (i := 5) (v := .int .i64 (k : Int)) rfl (by kernel_rfl) (by kernel_rfl) (by kernel_rfl) (fun _ _ _ h => h) (Or.inl ⟨by rfl, fun w hS => by go_simp⟩) hHeld ?_
          simp only [Act.put, List.getElem_toArray, List.getElem_cons_zero, List.getElem_cons_succ, List.setIfInBounds_toArray, List.set_cons_zero, List.set_cons_succ]
          refine wpAnyH_ready (rs := [6]) (by kernel_rfl) (by simp) ?_
          refine AllReadyH.cons rfl (fun KQ hK => ?_) AllReadyH.nil
          go_simp
          refine (HMK2.out _).mono ?_
          rintro e w9 ⟨rfl, rfl⟩
          refine hK.out _ _ (hHeld) (fun hHeld => ?_)
          clear hK KQ
          refine wpAnyH_take (i := 7) (v := .int .u8 (bits .and .u8 x y)) rfl (by kernel_rfl) (by kernel_rfl) (by kernel_rfl) (fun _ _ _ h => h) (Or.inl ⟨by rfl, fun w hS => by go_simp⟩) hHeld ?_
          simp only [Act.put, List.getElem_toArray, List.getElem_cons_zero, List.getElem_cons_succ, List.setIfInBounds_toArray, List.set_cons_zero, List.set_cons_succ]
          refine wpAnyH_take (i := 8) (v := .bool false) rfl (by kernel_rfl) (by kernel_rfl) (by kernel_rfl) (fun _ _ _ h => h) (Or.inl ⟨by rfl, fun w hS => by go_simp⟩) hHeld ?_
          simp only [Act.put, List.getElem_toArray, List.getElem_cons_zero, List.getElem_cons_succ, List.setIfInBounds_toArray, List.set_cons_zero, List.set_cons_succ]
          refine wpAnyH_done (by kernel_rfl) ?_ _
          have HH9 := hidden hHeld
          clear hHeld
          go_wp2
          refine wp_region_held_drew (S := fun _ => True) (by kernel_rfl) (trivial) (fun hHeld => ?_)
          have HH11 := hidden (grow_trans HH9.out (show Below w9.heap.size w9 w9.drew from (Below.refl _ _).drew))
          generalize w9.drew = w11 at HH11 hHeld ⊢
          refine wpAnyH_take (i := 0) (v := .slice (some ⟨gS, 0, none⟩) n n) rfl (by kernel_rfl) (by kernel_rfl) (by kernel_rfl) (fun _ _ _ h => h) (Or.inl ⟨by rfl, fun w hS => by go_simp⟩) hHeld ?_
          simp only [Act.put, List.getElem_toArray, List.getElem_cons_zero, List.setIfInBounds_toArray, List.set_cons_zero, List.set_cons_succ]
          refine wpAnyH_take (i := 1) (v := .int .i64 (k : Int)) rfl (by kernel_rfl) (by kernel_rfl) (by kernel_rfl) (fun _ _ _ h => h) (Or.inl ⟨by rfl, fun w hS => by go_simp⟩) hHeld ?_
          simp only [Act.put, List.getElem_toArray, List.getElem_cons_zero, List.getElem_cons_succ, List.setIfInBounds_toArray, List.set_cons_zero, List.set_cons_succ]
          refine wpAnyH_take (i := 2) (v := .pointer (some ⟨gS, k * 32, none⟩)) rfl (by kernel_rfl) (by kernel_rfl) (by kernel_rfl) (fun _ _ _ h => h) (Or.inl ⟨by rfl, fun w hS => by go_simp⟩) hHeld ?_
          simp only [Act.put, List.getElem_toArray, List.getElem_cons_zero, List.getElem_cons_succ, List.setIfInBounds_toArray, List.set_cons_zero, List.set_cons_succ]
          refine wpAnyH_take (i := 3) (v := .slice (some ⟨gS, k * 32, none⟩) 32 32) rfl (by kernel_rfl) (by kernel_rfl) (by kernel_rfl) (fun _ _ _ h => h) (Or.inl ⟨by rfl, fun w hS => by go_simp⟩) hHeld ?_
          simp only [Act.put, List.getElem_toArray, List.getElem_cons_zero, List.getElem_cons_succ, List.setIfInBounds_toArray, List.set_cons_zero, List.set_cons_succ]
          refine wpAnyH_take (i := 4) (v := .pointer (some ⟨b, 0, none⟩)) rfl (by kernel_rfl) (by kernel_rfl) (by kernel_rfl) (fun _ _ _ h => h) (Or.inl ⟨by rfl, fun w hS => by go_simp⟩) hHeld ?_
          simp only [Act.put, List.getElem_toArray, List.getElem_cons_zero, List.getElem_cons_succ, List.setIfInBounds_toArray, List.set_cons_zero, List.set_cons_succ]
          refine wpAnyH_ready (rs := [5]) (by kernel_rfl) (by simp) ?_
          refine AllReadyH.cons rfl (fun KQ hK => ?_) AllReadyH.nil
          go_simp
          refine (HTk.out _ (hRd.out.grow HH11.out)).mono ?_
          rintro e w12 ⟨a6, c6, sp6, rfl, o6, r6, g6⟩
          refine hK.out _ _ (trivial) (fun hHeld => ?_)
          clear hK KQ
          have HbSa := hidden ((hBS.out.grow HH11.out).apart g6 HSep.out.1)
          refine wpAnyH_ready (rs := [6]) (by kernel_rfl) (by simp) ?_
          refine AllReadyH.cons rfl (fun KQ hK => ?_) AllReadyH.nil
          refine run_copy_blk _ rfl _ _ rfl gS (k * 32) 32 32 _ _ X _ HbSa.out o6.reads rfl rfl 32 (by rw [hx2]; rfl) (by omega) (by rw [HSize.out]; omega) ?_
          intro w13 b13 g13 s13
          refine hK.out _ _ trivial (fun hHeld => ?_)
          clear hK KQ
          have HbS2 : Hid (Blk w13 gS 25 (B (psL (rdK bs r0 (k + 1)).1 n))) := by
            show Blk _ _ _ _
            rw [show X.take 32 = X from List.take_of_length_le (by omega), HPut.out] at b13
            exact b13
          have Hb72 := hidden (((hB7.out.grow HH11.out).apart g6 HSep.out.2.1).apart g13 (Ne.symm HSep.out.2.2.1))
          have HRd2 := hidden (r6.apart g13 HSep.out.2.2.2.2.2.2 HSep.out.2.2.2.2.1)
          have HOw2 := hidden (((hOw.out.grow HH11.out).apart g6 HOb.out).apart g13 HSep.out.2.2.2.2.2.1)
          have HGr2 := hidden (grown_new (grown_trans (grown_trans hGr.out (below_grown HH11.out _)) g6) g13 HSep.out.2.2.2.1)
          clear b13 g13 s13 o6 r6 g6 HbSa
          refine wpAnyH_done (by kernel_rfl) ?_ _
          go_wp2
          refine ⟨⟨k + 1, by omega, by go_num, HbS2.out, Hb72.out, HRd2.out, HOw2.out, HGr2.out⟩, by simp [intOf]; omega⟩
        · rw [hx1, htk] at HTk
          have HPz2 := hidden (HPz.out hx2)
          clear hx1 htk HPz HPut
          go_wp2
          refine wp_region_held_drew (S := fun w' => Below wr.heap.size wr w') (by kernel_rfl) ((Below.refl _ _).drew) (fun hHeld => ?_)
          generalize wr.drew = w9 at hHeld ⊢
          refine wpAnyH_take (i := 0) (v := .slice (some ⟨g5, o5, none⟩) m c5) rfl (by kernel_rfl) (by kernel_rfl) (by kernel_rfl) (fun _ _ _ h => h) (Or.inl ⟨by rfl, fun w hS => by go_simp⟩) hHeld ?_
          simp only [Act.put, List.getElem_toArray, List.getElem_cons_zero, List.setIfInBounds_toArray, List.set_cons_zero, List.set_cons_succ]
          refine wpAnyH_take (i := 1) (v := .int .i64 (k : Int)) rfl (by kernel_rfl) (by kernel_rfl) (by kernel_rfl) (fun _ _ _ h => h) (Or.inl ⟨by rfl, fun w hS => by go_simp⟩) hHeld ?_
          simp only [Act.put, List.getElem_toArray, List.getElem_cons_zero, List.getElem_cons_succ, List.setIfInBounds_toArray, List.set_cons_zero, List.set_cons_succ]
          refine wpAnyH_take (i := 2) (v := .int .i64 ((k : Int) / 8)) rfl (by kernel_rfl) (by kernel_rfl) (by kernel_rfl) (fun _ _ _ h => h) (Or.inl ⟨by rfl, fun w hS => by go_simp⟩) hHeld ?_
          simp only [Act.put, List.getElem_toArray, List.getElem_cons_zero, List.getElem_cons_succ, List.setIfInBounds_toArray, List.set_cons_zero, List.set_cons_succ]
          refine wpAnyH_take (i := 3) (v := .pointer (some ⟨g5, o5 + k / 8, none⟩)) rfl (by kernel_rfl) (by kernel_rfl) (by kernel_rfl) (fun _ _ _ h => h) (Or.inl ⟨by rfl, fun w hS => by go_simp⟩) hHeld ?_
          simp only [Act.put, List.getElem_toArray, List.getElem_cons_zero, List.getElem_cons_succ, List.setIfInBounds_toArray, List.set_cons_zero, List.set_cons_succ]
          refine wpAnyH_take (i := 4) (v := .int .u8 x) rfl (by kernel_rfl) (by kernel_rfl) (by kernel_rfl) (fun _ _ _ h => h) (Or.inl ⟨by rfl, fun w hS => by (have q1 := HC.out _ hS; go_simp)⟩) hHeld ?_
          simp only [Act.put, List.getElem_toArray, List.getElem_cons_zero, List.getElem_cons_succ, List.setIfInBounds_toArray, List.set_cons_zero, List.set_cons_succ]
          refine wpAnyH_take (i := 5) (v := .int .i64 (k : Int)) rfl (by kernel_rfl) (by kernel_rfl) (by kernel_rfl) (fun _ _ _ h => h) (Or.inl ⟨by rfl, fun w hS => by go_simp⟩) hHeld ?_
          simp only [Act.put, List.getElem_toArray, List.getElem_cons_zero, List.getElem_cons_succ, List.setIfInBounds_toArray, List.set_cons_zero, List.set_cons_succ]
          refine wpAnyH_ready (rs := [6]) (by kernel_rfl) (by simp) ?_
          refine AllReadyH.cons rfl (fun KQ hK => ?_) AllReadyH.nil
          go_simp
          refine (HMK2.out _).mono ?_
          rintro e w9 ⟨rfl, rfl⟩
          refine hK.out _ _ (hHeld) (fun hHeld => ?_)
          clear hK KQ
          refine wpAnyH_take (i := 7) (v := .int .u8 (bits .and .u8 x y)) rfl (by kernel_rfl) (by kernel_rfl) (by kernel_rfl) (fun _ _ _ h => h) (Or.inl ⟨by rfl, fun w hS => by go_simp⟩) hHeld ?_
          simp only [Act.put, List.getElem_toArray, List.getElem_cons_zero, List.getElem_cons_succ, List.setIfInBounds_toArray, List.set_cons_zero, List.set_cons_succ]
          refine wpAnyH_take (i := 8) (v := .bool false) rfl (by kernel_rfl) (by kernel_rfl) (by kernel_rfl) (fun _ _ _ h => h) (Or.inl ⟨by rfl, fun w hS => by go_simp⟩) hHeld ?_
          simp only [Act.put, List.getElem_toArray, List.getElem_cons_zero, List.getElem_cons_succ, List.setIfInBounds_toArray, List.set_cons_zero, List.set_cons_succ]
          refine wpAnyH_done (by kernel_rfl) ?_ _
          have HH9 := hidden hHeld
          clear hHeld
          go_wp2
          refine wp_region_held_drew (S := fun _ => True) (by kernel_rfl) (trivial) (fun hHeld => ?_)
          have HH11 := hidden (grow_trans HH9.out (show Below w9.heap.size w9 w9.drew from (Below.refl _ _).drew))
          generalize w9.drew = w11 at HH11 hHeld ⊢
          refine wpAnyH_take (i := 0) (v := .slice (some ⟨gS, 0, none⟩) n n) rfl (by kernel_rfl) (by kernel_rfl) (by kernel_rfl) (fun _ _ _ h => h) (Or.inl ⟨by rfl, fun w hS => by go_simp⟩) hHeld ?_
          simp only [Act.put, List.getElem_toArray, List.getElem_cons_zero, List.setIfInBounds_toArray, List.set_cons_zero, List.set_cons_succ]
          refine wpAnyH_take (i := 1) (v := .int .i64 (k : Int)) rfl (by kernel_rfl) (by kernel_rfl) (by kernel_rfl) (fun _ _ _ h => h) (Or.inl ⟨by rfl, fun w hS => by go_simp⟩) hHeld ?_
          simp only [Act.put, List.getElem_toArray, List.getElem_cons_zero, List.getElem_cons_succ, List.setIfInBounds_toArray, List.set_cons_zero, List.set_cons_succ]
          refine wpAnyH_take (i := 2) (v := .pointer (some ⟨gS, k * 32, none⟩)) rfl (by kernel_rfl) (by kernel_rfl) (by kernel_rfl) (fun _ _ _ h => h) (Or.inl ⟨by rfl, fun w hS => by go_simp⟩) hHeld ?_
          simp only [Act.put, List.getElem_toArray, List.getElem_cons_zero, List.getElem_cons_succ, List.setIfInBounds_toArray, List.set_cons_zero, List.set_cons_succ]
          refine wpAnyH_take (i := 3) (v := .slice (some ⟨gS, k * 32, none⟩) 32 32) rfl (by kernel_rfl) (by kernel_rfl) (by kernel_rfl) (fun _ _ _ h => h) (Or.inl ⟨by rfl, fun w hS => by go_simp⟩) hHeld ?_
          simp only [Act.put, List.getElem_toArray, List.getElem_cons_zero, List.getElem_cons_succ, List.setIfInBounds_toArray, List.set_cons_zero, List.set_cons_succ]
          refine wpAnyH_take (i := 4) (v := .pointer (some ⟨b, 0, none⟩)) rfl (by kernel_rfl) (by kernel_rfl) (by kernel_rfl) (fun _ _ _ h => h) (Or.inl ⟨by rfl, fun w hS => by go_simp⟩) hHeld ?_
          simp only [Act.put, List.getElem_toArray, List.getElem_cons_zero, List.getElem_cons_succ, List.setIfInBounds_toArray, List.set_cons_zero, List.set_cons_succ]
          refine wpAnyH_ready (rs := [5]) (by kernel_rfl) (by simp) ?_
          refine AllReadyH.cons rfl (fun KQ hK => ?_) AllReadyH.nil
          go_simp
          refine (HTk.out _ (hRd.out.grow HH11.out)).mono ?_
          rintro e w12 ⟨a6, c6, sp6, rfl, o6, r6, g6⟩
          refine hK.out _ _ (trivial) (fun hHeld => ?_)
          clear hK KQ
          refine wpAnyH_ready (rs := [6]) (by kernel_rfl) (by simp) ?_
          refine AllReadyH.cons rfl (fun KQ hK => ?_) AllReadyH.nil
          refine step_cp0 _ rfl _ _ rfl _ _ _ _ _ rfl rfl ?_
          refine hK.out _ _ trivial (fun hHeld => ?_)
          clear hK KQ
          have HbS2 : Hid (Blk w12 gS 25 (B (psL (rdK bs r0 (k + 1)).1 n))) := by
            show Blk _ _ _ _
            rw [HPz2.out]
            exact (hBS.out.grow HH11.out).apart g6 HSep.out.1
          have Hb72 := hidden ((hB7.out.grow HH11.out).apart g6 HSep.out.2.1)
          have HRd2 := hidden r6
          have HOw2 := hidden ((hOw.out.grow HH11.out).apart g6 HOb.out)
          have HGr2 := hidden (grown_trans (grown_trans hGr.out (below_grown HH11.out _)) g6)
          clear o6 r6 g6
          refine wpAnyH_done (by kernel_rfl) ?_ _
          go_wp2
          refine ⟨⟨k + 1, by omega, by go_num, HbS2.out, Hb72.out, HRd2.out, HOw2.out, HGr2.out⟩, by simp [intOf]; omega⟩
    · obtain rfl : k = n := by omega
      have z1 : ¬ (k : Int) < (k : Int) := by omega
      have HOs := hidden (psL_own (base := w.heap.size) hBS.out (HSL.out k) (HDg.out k) HSep.out.2.2.2.1 (by omega))
      have HMs := hidden (HMKS.out wr _ _ hGr.out HOs.out)
      have HEq : Hid (∀ w' y, Reads w' (.slice a5 m c5) bs → Reads w' y (bitsL (rdK bs r0 k).1) → Calls Tryz.prog 27 #[.slice a5 m c5, y] w' fun e w'' => e = .returned (.bool (decide (bs = bitsL (rdK bs r0 k).1))) ∧ Below w'.heap.size w' w'') := fun w' y h1 h2 => (equal_any _ _ _ _ w' h1 h2).mono fun e w'' ⟨q1, q2⟩ => ⟨q1, by have := q2; subst this; exact Below.refl _ _⟩
      generalize hEE : decide (bs = bitsL (rdK bs r0 k).1) = eb at HEq HPost
      clear HMKS HMK hBS hB7 HDg HSL HSt
      go_wp2_with (first
        | (go_at_call 24; refine HMs.out.mono ?_; rintro e w4 ⟨a1, l1, c1, a2, l2, c2, rfl, r4, b4⟩; have HR4 := hidden r4; have HB4 := hidden b4; clear r4 b4)
        | (go_at_call 27; refine (HEq.out _ _ (hOw.out.reads.grow HB4.out) HR4.out).mono ?_; rintro e w6 ⟨rfl, b6⟩; have HB6 := hidden b6; clear b6))
      have hb := grow_trans HB4.out HB6.out
      exact HPost.out _ _ w6 (hRd.out.grow hb) (ownsH_below HOs.out hb) (grown_trans hGr.out (below_grown hb _))
  


end Go.Proofs.YtpihigcnoifcfaaGreatDoor

/- octet.Put16, octet.Put32 and the statements' Pick, as contracts. -/
namespace Go.Proofs.YtpihigcnoifcfaaGreatDoor
set_option maxRecDepth 20000
open Go.RowKit

/-- What Put16 and Put32 leave: the error and the bytes. -/
def PutPost (n : Int) (zs : List Int) (w : World) (e : Ending) (w' : World) : Prop := ∃ v sp, e = .returned (.tuple #[v, .int .i64 n]) ∧ Own w.heap.size w' v zs sp ∧ Below w.heap.size w w'

theorem lit_own (w : World) (zs : List Int) (h : Bytes zs) (hl : zs.length ≤ 100) : Own w.heap.size (w.alloc (.cells (B zs) 5)) (.slice (some ⟨w.heap.size, 0, none⟩) zs.length zs.length) zs [] :=
  ⟨h, Bytes.nil, by simp [maxLen]; omega, .inr ⟨w.heap.size, [], Nat.le_refl _, rfl, by simp; exact heap_alloc_new w _⟩⟩

set_option maxHeartbeats 400000 in
theorem put16_bad (n : Int) (w : World) (h : n < 0 ∨ 65535 < n) : Calls Tryz.prog 22 #[.int .i64 n] w (PutPost 2 [] w) := by
  by_cases h0 : n < 0
  all_goals
    go_enter Tryz.func22, Tryz.ntmps22
    go_wp2
    go_ret2
    exact ⟨_, [], rfl, Own.nil _ _, Below.refl _ _⟩

set_option maxHeartbeats 400000 in
theorem put16_ok (n : Int) (w : World) (h0 : 0 ≤ n) (h1 : n ≤ 65535) : Calls Tryz.prog 22 #[.int .i64 n] w (PutPost 0 [n / 256, n % 256] w) := by
  have h2 : ¬ n < 0 := by omega
  go_enter Tryz.func22, Tryz.ntmps22
  go_wp2
  go_ret2
  exact ⟨_, [], rfl, lit_own w [n / 256, n % 256] (by intro z hz; simp at hz; omega) (by simp), grow_alloc _ _⟩

theorem tmod_mod (x n : Int) : x.tmod n % n = x % n := by
  have h := Int.mul_tdiv_add_tmod x n
  conv => rhs; rw [← h]
  rw [Int.add_comm, Int.add_mul_emod_self_left]

theorem tmod_neg (x n : Int) (hn : 0 < n) (h : x.tmod n < 0) : x.tmod n + n = x % n := by
  rw [← tmod_mod x n]
  have h1 := Int.lt_tmod_of_pos x hn
  rw [← Int.add_emod_right, Int.emod_eq_of_lt (by omega) (by omega)]

theorem tmod_pos (x n : Int) (hn : 0 < n) (h : ¬ x.tmod n < 0) : x.tmod n = x % n := by
  rw [← tmod_mod x n]
  have h1 := Int.tmod_lt_of_pos x hn
  rw [Int.emod_eq_of_lt (by omega) h1]

end Go.Proofs.YtpihigcnoifcfaaGreatDoor
