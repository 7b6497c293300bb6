/- The document's Common, Under, Flip, Filled, Next (rootcellarref04), as contracts. -/
import Derived.Test.YtbkolhhgajkjjaaGreatDoorPo34
namespace Go.Proofs.YtbkolhhgajkjjaaGreatDoor
set_option maxRecDepth 20000
set_option maxHeartbeats 4000000
open Go.RowKit
theorem Zgr (xs ys : List Int) (c : Nat) (w : World) (hx : Key xs) (hy : Key ys) (hc : IsCommon xs ys c) : Calls Tryz.prog 116 #[.agg (B xs), .agg (B ys)] w fun e w' => e = .returned (.int .i64 c) ∧ Below w.heap.size w w' := by
 have HX := Za hx
 have HY := Za hy
 have HC := Za hc
 have hc0 : c ≤ 256 := hc.1
 have hiX : (Tryz.prog.info? 30).map (·.size) = some (B xs).toList.length := by rw [Zap, List.length_map, hx.1]; exact Zz
 have hiY : (Tryz.prog.info? 30).map (·.size) = some (B ys).toList.length := by rw [Zap, List.length_map, hy.1]; exact Zz
 clear hx hy hc
 go_enter Tryz.func116, Tryz.ntmps116
 go_wp2_with (first | (have hz := hl1; clear hz; refine Zc _ rfl _ _ rfl _ rfl ?_; intro w2 g2 hg2 hl2 B2 b2; have B1' := B1.grow b2) | (refine Zc _ rfl _ _ rfl _ rfl ?_; intro w1 g1 hg1 hl1 B1 b1))
 have c2 := Zb b1 b2
 have HS0 : Hid (∀ w', Below w2.heap.size w2 w' → w'.rangeAt g1 0 (B xs).toList ∧ w'.rangeAt g2 0 (B ys).toList) := fun w' hw' => ⟨(B1'.grow hw').range, (B2.grow hw').range⟩
 clear B1 B1' B2 b1 b2 hg1 hg2 hl1 hl2
 go_loopw [5] (fun s wr => ∃ k : Nat, k ≤ c ∧ s = .int .i64 k ∧ Hid (Below w2.heap.size w2 wr)) (fun s _ => 257 - (intOf s).toNat)
 case atStart => exact ⟨0, by omega, rfl, Below.refl _ _⟩
 case round =>
  obtain ⟨k, hk, rfl, hb⟩ := hrel
  obtain ⟨wz, rfl⟩ : ∃ x, x = wr := ⟨_, rfl⟩
  have HS : Hid (∀ w', Below wz.heap.size wz w' → w'.rangeAt g1 0 (B xs).toList ∧ w'.rangeAt g2 0 (B ys).toList) := fun w' hw' => HS0.out w' (Zb hb.out hw')
  have d0 : Below wz.heap.size wz wz.drew := (Below.refl _ _).drew
  by_cases hk2 : k < 256
  ·have hk' : decide ((k : Int) < 256) = true := decide_eq_true (by omega)
   obtain ⟨x, hx⟩ : ∃ x, x = kb xs k := ⟨_, rfl⟩
   obtain ⟨y, hy⟩ : ∃ y, y = kb ys k := ⟨_, rfl⟩
   have cX : Hid (∀ w', Calls Tryz.prog 122 #[.agg (B xs), .int .i64 k] w' fun e w'' => e = .returned (.int .i64 x) ∧ Below w'.heap.size w' w'') := by
    intro w'
    rw [hx]
    exact Zfi xs k w' HX.out hk2
   have cY : Hid (∀ w', Calls Tryz.prog 122 #[.agg (B ys), .int .i64 k] w' fun e w'' => e = .returned (.int .i64 y) ∧ Below w'.heap.size w' w'') := by
    intro w'
    rw [hy]
    exact Zfi ys k w' HY.out hk2
   by_cases hkc : k < c
   ·have hxy : (x == y) = true := by rw [beq_iff_eq, hx, hy]; exact HC.out.2.1 k hkc
    clear hx hy
    go_wp2_with fail
    refine wp_region_held_drew (S := fun w' => w'.rangeAt g1 0 (B xs).toList ∧ w'.rangeAt g2 0 (B ys).toList) (by kernel_rfl) (HS.out _ d0) (fun hHeld => ?_)
    refine tkp 0 (.int .i64 k) hHeld ?_
    simp only [zq]
    refine tkp 1 (.bool true) hHeld ?_
    simp only [zq]
    refine tkp 2 (.bool true) hHeld ?_
    simp only [zq]
    refine tkg 3 (.agg (B xs)) rfl (yieldsIf_load_mid rfl 30 (.tmp 2) rfl g1 0 rfl (B xs).toList _ (fun w hS => hS.1) Zjm rfl hiX) hHeld ?_
    simp only [zq]
    refine tkp 4 (.int .i64 k) hHeld ?_
    simp only [zq]
    refine tkg 6 (.agg (B ys)) rfl (yieldsIf_load_mid rfl 30 (.tmp 3) rfl g2 0 rfl (B ys).toList _ (fun w hS => hS.2) Zjm rfl hiY) hHeld ?_
    simp only [zq]
    refine tkp 7 (.int .i64 k) hHeld ?_
    simp only [zq]
    refine wpAnyH_ready (rs := [5]) (by kernel_rfl) (by simp) ?_
    refine AllReadyH.cons rfl (fun KQ hK => ?_) AllReadyH.nil
    go_simp
    refine (cX.out _).mono ?_
    rintro e x1 ⟨rfl, a1⟩
    have d1 := Zb d0 a1
    refine hK.out _ _ (HS.out _ d1) (fun hHeld => ?_)
    clear hK KQ
    refine wpAnyH_ready (rs := [8]) (by kernel_rfl) (by simp) ?_
    refine AllReadyH.cons rfl (fun KQ hK => ?_) AllReadyH.nil
    go_simp
    refine (cY.out _).mono ?_
    rintro e x2 ⟨rfl, a2⟩
    have d2 := Zb d1 a2
    refine hK.out _ _ (HS.out _ d2) (fun hHeld => ?_)
    clear hK KQ
    refine tkp 9 (.bool true) hHeld ?_
    simp only [zq]
    refine tkp 10 (.bool true) hHeld ?_
    simp only [zq]
    refine wpAnyH_done (by kernel_rfl) ?_ _
    go_wp2
    exact ⟨⟨k + 1, by omega, by go_num, Zb hb.out d2⟩, by simp [intOf]; omega⟩
   ·obtain rfl : k = c := by omega
    have hxy : (x == y) = false := by rw [beq_eq_false_iff_ne, hx, hy]; exact HC.out.2.2 hk2
    clear hx hy
    go_wp2_with fail
    refine wp_region_held_drew (S := fun w' => w'.rangeAt g1 0 (B xs).toList ∧ w'.rangeAt g2 0 (B ys).toList) (by kernel_rfl) (HS.out _ d0) (fun hHeld => ?_)
    refine tkp 0 (.int .i64 k) hHeld ?_
    simp only [zq]
    refine tkp 1 (.bool true) hHeld ?_
    simp only [zq]
    refine tkp 2 (.bool true) hHeld ?_
    simp only [zq]
    refine tkg 3 (.agg (B xs)) rfl (yieldsIf_load_mid rfl 30 (.tmp 2) rfl g1 0 rfl (B xs).toList _ (fun w hS => hS.1) Zjm rfl hiX) hHeld ?_
    simp only [zq]
    refine tkp 4 (.int .i64 k) hHeld ?_
    simp only [zq]
    refine tkg 6 (.agg (B ys)) rfl (yieldsIf_load_mid rfl 30 (.tmp 3) rfl g2 0 rfl (B ys).toList _ (fun w hS => hS.2) Zjm rfl hiY) hHeld ?_
    simp only [zq]
    refine tkp 7 (.int .i64 k) hHeld ?_
    simp only [zq]
    refine wpAnyH_ready (rs := [5]) (by kernel_rfl) (by simp) ?_
    refine AllReadyH.cons rfl (fun KQ hK => ?_) AllReadyH.nil
    go_simp
    refine (cX.out _).mono ?_
    rintro e x1 ⟨rfl, a1⟩
    have d1 := Zb d0 a1
    refine hK.out _ _ (HS.out _ d1) (fun hHeld => ?_)
    clear hK KQ
    refine wpAnyH_ready (rs := [8]) (by kernel_rfl) (by simp) ?_
    refine AllReadyH.cons rfl (fun KQ hK => ?_) AllReadyH.nil
    go_simp
    refine (cY.out _).mono ?_
    rintro e x2 ⟨rfl, a2⟩
    have d2 := Zb d1 a2
    refine hK.out _ _ (HS.out _ d2) (fun hHeld => ?_)
    clear hK KQ
    refine tkp 9 (.bool false) hHeld ?_
    simp only [zq]
    refine tkp 10 (.bool false) hHeld ?_
    simp only [zq]
    refine wpAnyH_done (by kernel_rfl) ?_ _
    go_wp2
    go_ret
    exact ⟨rfl, Zb c2 (Zb hb.out d2)⟩
  ·have hk' : decide ((k : Int) < 256) = false := decide_eq_false (by omega)
   obtain rfl : k = c := by omega
   go_wp2_with fail
   refine wp_region_held_drew (S := fun w' => w'.rangeAt g1 0 (B xs).toList ∧ w'.rangeAt g2 0 (B ys).toList) (by kernel_rfl) (HS.out _ d0) (fun hHeld => ?_)
   refine tkp 0 (.int .i64 k) hHeld ?_
   simp only [zq]
   refine tkp 1 (.bool false) hHeld ?_
   simp only [zq]
   refine tkp 2 (.bool false) hHeld ?_
   simp only [zq]
   refine tks 3 hHeld ?_
   simp only [zq]
   refine tks 4 hHeld ?_
   simp only [zq]
   refine tks 6 hHeld ?_
   simp only [zq]
   refine tks 7 hHeld ?_
   simp only [zq]
   refine wpAnyH_ready (rs := [5]) (by kernel_rfl) (by simp) ?_
   refine AllReadyH.cons rfl (fun KQ hK => ?_) AllReadyH.nil
   go_simp
   refine hK.out _ _ (HS.out _ d0) (fun hHeld => ?_)
   clear hK KQ
   refine wpAnyH_ready (rs := [8]) (by kernel_rfl) (by simp) ?_
   refine AllReadyH.cons rfl (fun KQ hK => ?_) AllReadyH.nil
   go_simp
   refine hK.out _ _ (HS.out _ d0) (fun hHeld => ?_)
   clear hK KQ
   refine tks 9 hHeld ?_
   simp only [zq]
   refine tkp 10 (.bool false) hHeld ?_
   simp only [zq]
   refine wpAnyH_done (by kernel_rfl) ?_ _
   go_wp2
   go_ret
   exact ⟨rfl, Zb c2 (Zb hb.out d0)⟩
def Part (xs : List Int) (d : Nat) (b : Int) (k : Nat) (ys : List Int) : Prop := Key ys ∧ ∀ j, j < 256 → kb ys j = if d ≤ j ∧ j < k then b else kb xs j
theorem Part.start {xs : List Int} (hx : Key xs) (d : Nat) (b : Int) : Part xs d b d xs := ⟨hx, fun j _ => by rw [if_neg (by omega)]⟩
theorem Part.step {xs ys zs : List Int} {d k : Nat} {b : Int} (h : Part xs d b k ys) (hs : IsSet ys k b zs) (hk : d ≤ k) : Part xs d b (k + 1) zs := by
 refine ⟨hs.1, fun j hj => ?_⟩
 rw [hs.2 j hj, h.2 j hj]
 by_cases e : j = k
 ·rw [if_pos e, if_pos (by omega)]
 ·rw [if_neg e]
  by_cases q : d ≤ j ∧ j < k
  ·rw [if_pos q, if_pos (by omega)]
  ·rw [if_neg q, if_neg (by omega)]
theorem Part.fill {xs ys : List Int} {d : Nat} {b : Int} (h : Part xs d b 256 ys) : IsFill xs d b ys := by
 refine ⟨h.1, fun j hj => ?_⟩
 rw [h.2 j hj]
 by_cases q : j < d
 ·rw [if_pos q, if_neg (by omega)]
 ·rw [if_neg q, if_pos (by omega)]
theorem Zsf (xs : List Int) (d : Nat) (b : Int) (w : World) (hx : Key xs) (hd : d ≤ 256) (hb : b = 0 ∨ b = 1) : Calls Tryz.prog 137 #[.agg (B xs), .int .i64 d, .int .i64 b] w (KeyPost (IsFill xs d b) 0 w) := by
 have t0 : decide ((d : Int) < 0) = false := decide_eq_false (by omega)
 have t1 : decide ((256 : Int) < (d : Int)) = false := decide_eq_false (by omega)
 have HX := Za hx
 have HBB := Za hb
 clear hx hb
 go_enter Tryz.func137, Tryz.ntmps137
 go_wp2_with (first | (refine Zc _ rfl _ _ rfl _ rfl ?_; intro w1 g1 hg1 hl1 B1 b1) | (refine Ze _ rfl _ rfl _ Zbp ?_; intro w2 g2 hg2 hl2 B2 b2; have B1' := B1.grow b2))
 have c2 := Zb b1 b2
 have hg3 : w.heap.size ≤ g2 := Nat.le_trans b1.size hg2
 have hne : g2 ≠ g1 := by omega
 have HB1 := Za B1'
 have HB2 := Za B2
 have HS := Za (Part.start HX.out d b)
 clear B1 B1' B2 b1 b2 hl1 hl2 hg2
 go_loopw [8] (fun s wr => ∃ (k : Nat) (ys : List Int), d ≤ k ∧ k ≤ 256 ∧ s = .int .i64 k ∧ Hid (Part xs d b k ys) ∧ Hid (Blk wr g1 30 (B ys)) ∧ Hid (Blk wr g2 30 (B (List.replicate 32 0))) ∧ Hid (Below w.heap.size w wr)) (fun s _ => 256 - (intOf s).toNat)
 case atStart => exact ⟨d, xs, by omega, hd, rfl, HS, HB1, HB2, c2⟩
 case round =>
  clear HB1 HB2 c2 HS
  obtain ⟨k, ys, hk1, hk2, rfl, hF, hB, hC, hb⟩ := hrel
  have hs := Zhs hF.out.1
  by_cases hk : k < 256
  ·have hk' : (k : Int) < 256 := by omega
   go_wp2_with (first | (refine Zh _ rfl _ _ rfl g1 _ rfl hB.out _ _ Zjm hs ?_) | (go_at_call 153; refine (Ycy ys k b _ hF.out.1 hk HBB.out).mono ?_; rintro e w4 ⟨zs, hzs, rfl, b4⟩; have hs2 := Zhs hzs.1; have HZ : Hid ((B zs).size = (B ys).size) := (by rw [Zj, Zj, hzs.1.1, hF.out.1.1]; rfl); have HY := Za (hF.out.step hzs hk1); clear hzs; have B4 := hB.out.grow b4) | (refine Zf _ rfl _ _ _ rfl g1 _ (B zs) rfl rfl B4 hs2 (by rw [HZ.out]) (Zaw _) ?_; intro w5 B6 g5))
   exact ⟨⟨k + 1, zs, by omega, by omega, by go_num, HY, B6, (hC.out.grow b4).kept g5 hne, Zd (Zb hb.out b4) g5 hg1⟩, by simp [intOf]; omega⟩
  ·obtain rfl : k = 256 := by omega
   have HZ : Hid ((B ys).size = 32) := by rw [Zj]; exact hF.out.1.1
   go_wp2_with (first | (refine Zh _ rfl _ _ rfl g1 _ rfl hB.out _ _ Zjm hs ?_) | (refine Zf _ rfl _ _ _ rfl g2 _ (B ys) rfl rfl hC.out hs (by rw [HZ.out, Zj]; simp) (Zaw _) ?_; intro w5 B6 g5))
   exact bodyPost_ret (v := .tuple #[.agg (B ys), .int .i64 0]) (Zbn rfl _ _ g2 _ _ _ _ rfl rfl B6 Zjm hs) rfl ⟨_, hF.out.fill, rfl, Zd hb.out g5 hg3⟩
end Go.Proofs.YtbkolhhgajkjjaaGreatDoor
