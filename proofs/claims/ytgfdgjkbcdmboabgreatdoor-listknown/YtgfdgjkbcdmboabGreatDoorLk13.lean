/- sha.mixed and sha.Step, as contracts: the 64 rounds, the block step. -/
import Derived.Test.YtgfdgjkbcdmboabGreatDoorLk12
import Derived.Deep.RegionHeld2
import Derived.RegionTactic
namespace Go.Proofs.YtgfdgjkbcdmboabGreatDoor
set_option maxRecDepth 20000
open Go.RowKit

/-- The tables of the program stand as its text lays them. -/
def Laid (w : World) : Prop := w.heap.size ≥ 3 ∧ (∀ i, i < 64 → w.cell? ⟨2, i, none⟩ = some (.int .u32 (ks.getD i 0))) ∧ (∀ i, i < 8 → w.cell? ⟨1, i, none⟩ = some (.int .u32 (hs.getD i 0)))
theorem Laid.grow {w w' : World} (h : Laid w) (hb : Below w.heap.size w w') : Laid w' := by
  obtain ⟨h0, h1, h2⟩ := h
  refine ⟨Nat.le_trans h0 hb.size, fun i hi => ?_, fun i hi => ?_⟩
  · rw [hb.cell (p := ⟨2, i, none⟩) (by show 2 < _; omega)]; exact h1 i hi
  · rw [hb.cell (p := ⟨1, i, none⟩) (by show 1 < _; omega)]; exact h2 i hi

theorem rnd_flat (k w a b c d e f g h : Int) : rnd k w [a, b, c, d, e, f, g, h] =
    [((h + big1 e + chs e f g + k + w) % 4294967296 + (big0 a + maj a b c) % 4294967296) % 4294967296, a, b, c, (d + (h + big1 e + chs e f g + k + w) % 4294967296) % 4294967296, e, f, g] := by
  have : ad (ad (ad (ad h (big1 e)) (chs e f g)) k) w = (h + big1 e + chs e f g + k + w) % 4294967296 := by
    simp only [ad]
    omega
  simp only [rnd, this]
  rfl

set_option maxHeartbeats 1000000 in
theorem mixed_any (v ws : List Int) (w : World) (hL : Laid w) (hv : v.length = 8) (hw : ws.length = 64) :
    Calls Tryz.prog 202 #[.agg (U v), .agg (U ws)] w fun e w' => e = .returned (.agg (U (rds ws v 64))) ∧ Below w.heap.size w w' := by
  have HW := hidden hw
  have HL := hidden hL
  obtain ⟨a, b, c, d, e, f, g, h, hvv⟩ := eight v hv
  have HV : Hid (rds ws v 0 = [a, b, c, d, e, f, g, h]) := hvv
  have HG : Hid (v.getD 0 0 = a ∧ v.getD 1 0 = b ∧ v.getD 2 0 = c ∧ v.getD 3 0 = d ∧ v.getD 4 0 = e ∧ v.getD 5 0 = f ∧ v.getD 6 0 = g ∧ v.getD 7 0 = h) := by subst hvv; exact ⟨rfl, rfl, rfl, rfl, rfl, rfl, rfl, rfl⟩
  have HV8 := hidden hv
  clear hw hL hv hvv
  go_enter Tryz.func202, Tryz.ntmps202
  go_wp2_with (first | (have hh1 := hl1; clear hh1; refine wpList_bx _ rfl _ _ rfl _ rfl ?_; intro w2 g2 hg2 hl2 B2 b2) | (refine wpList_bx _ rfl _ _ rfl _ rfl ?_; intro w1 g1 hg1 hl1 B1 b1) | (refine wpList_al _ rfl _ rfl _ zero_w8 ?_; intro w3 g3 hg3 hl3 B3 b3))
  have s1 := b1.size
  have s2 := b2.size
  have s3 := b3.size
  have HB1 := hidden ((B1.grow b2).grow b3)
  have HB2 := hidden (B2.grow b3)
  have HB3 := hidden B3
  have hbl := (b1.trans (b2.mono s1)).trans (b3.mono (Nat.le_trans s1 s2))
  clear B1 B2 B3 b1 b2 b3
  have n3 : w.heap.size ≤ g3 := by omega
  clear hg1 hg2 hg3 hl1 hl2 hl3 s1 s2 s3
  have x0 := HB1.out.wcell 0 (by have := HV8.out; omega)
  have x1 := HB1.out.wcell 1 (by have := HV8.out; omega)
  have x2 := HB1.out.wcell 2 (by have := HV8.out; omega)
  have x3 := HB1.out.wcell 3 (by have := HV8.out; omega)
  have x4 := HB1.out.wcell 4 (by have := HV8.out; omega)
  have x5 := HB1.out.wcell 5 (by have := HV8.out; omega)
  have x6 := HB1.out.wcell 6 (by have := HV8.out; omega)
  have x7 := HB1.out.wcell 7 (by have := HV8.out; omega)
  obtain ⟨y0, y1, y2, y3, y4, y5, y6, y7⟩ := HG.out
  rw [y0] at x0
  rw [y1] at x1
  rw [y2] at x2
  rw [y3] at x3
  rw [y4] at x4
  rw [y5] at x5
  rw [y6] at x6
  rw [y7] at x7
  clear y0 y1 y2 y3 y4 y5 y6 y7 HG
  go_quiet (fail)
  clear x0 x1 x2 x3 x4 x5 x6 x7
  go_wp2_with fail
  have HLd : Hid (Laid (w3.drewN nq)) := (HL.out.grow hbl).grow (below_drewN (Below.refl _ _) nq)
  have hbl' : Below w.heap.size w (w3.drewN nq) := below_drewN hbl nq
  have HB2' : Hid (Blk (w3.drewN nq) g2 251 (U ws)) := HB2.out.grow (below_drewN (Below.refl _ _) nq)
  have HB3' : Hid (Blk (w3.drewN nq) g3 237 (U (List.replicate 8 0))) := HB3.out.grow (below_drewN (Below.refl _ _) nq)
  clear HB1 HB2 HB3 hbl HL
  go_loopw [5, 6, 7, 8, 9, 10, 11, 12, 32] (fun a' b' c' d' e' f' g' h' i wr => ∃ (k : Nat) (a b c d e f g h : Int), k ≤ 64 ∧ i = .int .i64 k ∧ a' = .int .u32 a ∧ b' = .int .u32 b ∧ c' = .int .u32 c ∧ d' = .int .u32 d ∧ e' = .int .u32 e ∧ f' = .int .u32 f ∧ g' = .int .u32 g ∧ h' = .int .u32 h ∧ Hid (rds ws v k = [a, b, c, d, e, f, g, h]) ∧ Hid (Laid wr) ∧ Hid (Blk wr g2 251 (U ws)) ∧ Hid (Blk wr g3 237 (U (List.replicate 8 0))) ∧ Below w.heap.size w wr) (fun _ _ _ _ _ _ _ _ i _ => 64 - (intOf i).toNat)
  case atStart => exact ⟨0, a, b, c, d, e, f, g, h, by omega, rfl, rfl, rfl, rfl, rfl, rfl, rfl, rfl, rfl, HV, HLd, HB2', HB3', hbl'⟩
  case round =>
    clear HV HLd HB2' HB3' hbl'
    obtain ⟨k, a, b, c, d, e, f, g, h, hk, rfl, rfl, rfl, rfl, rfl, rfl, rfl, rfl, rfl, hR, hLd, hB2, hB3, hbl⟩ := hrel
    by_cases hlt : k < 64
    · have c1 := hB2.out.wcell k (by have := HW.out; omega)
      have c2 := hLd.out.2.1 k hlt
      have k0 : (0 : Int) ≤ (k : Int) := by omega
      have k1 : (k : Int) < 64 := by omega
      have HE : Hid (rds ws v (k + 1) = [((h + big1 e + chs e f g + ks.getD k 0 + ws.getD k 0) % 4294967296 + (big0 a + maj a b c) % 4294967296) % 4294967296, a, b, c, (d + (h + big1 e + chs e f g + ks.getD k 0 + ws.getD k 0) % 4294967296) % 4294967296, e, f, g]) := by
        show rds ws v (k + 1) = _
        rw [rds, hR.out, rnd_flat]
      generalize ks.getD k 0 = kt at *
      generalize ws.getD k 0 = wt at *
      go_wp2_with fail
      go_quiet ((first | (go_at_call 205; exact Calls.quiet_of_same (mixLower_any _ _)) | (go_at_call 206; exact Calls.quiet_of_same (choose_any _ _ _ _))))
      go_wp2_with (first | (go_at_call 207; refine (mixUpper_any _ _).mono ?_; rintro e' w' ⟨rfl, rfl⟩) | (go_at_call 208; refine (majority_any _ _ _ _).mono ?_; rintro e' w' ⟨rfl, rfl⟩))
      have hd := below_drewN (Below.refl wr.heap.size wr) nq
      exact ⟨⟨k + 1, _, _, _, _, _, _, _, _, by omega, by go_num, rfl, rfl, rfl, rfl, rfl, rfl, rfl, rfl, HE, hLd.out.grow hd, hB2.out.grow hd, hB3.out.grow hd, below_drewN hbl nq⟩, by simp [intOf]; omega⟩
    · obtain rfl : k = 64 := by omega
      have HS : Hid ((U [a, b, c, d, e, f, g, h]).size = 8) := by rw [U_size]; exact rfl
      go_wp2_with (first | (refine wpList_st _ rfl _ _ _ rfl g3 _ (U [a, b, c, d, e, f, g, h]) rfl rfl hB3.out (by rw [HS.out]; exact size_w8) (by rw [HS.out, U_size]; simp) (U_one _) ?_))
      exact bodyPost_ret (v := .agg (U [a, b, c, d, e, f, g, h])) (results_cell_row rfl _ _ g3 _ _ _ _ rfl (hB3.out.row (U [a, b, c, d, e, f, g, h])) Tryz.underlying237 rfl (by rw [HS.out]; exact size_w8)) rfl ⟨by rw [hR.out], setRow_below _ hbl n3⟩

end Go.Proofs.YtgfdgjkbcdmboabGreatDoor

/- sha.Step, as a contract: the block step. -/
namespace Go.Proofs.YtgfdgjkbcdmboabGreatDoor
set_option maxRecDepth 20000
open Go.RowKit

theorem zip_set (h v : List Int) (k : Nat) (hh : k < h.length) (hv : k < v.length) : ((List.zipWith ad h v).take k ++ h.drop k).set k (ad (((List.zipWith ad h v).take k ++ h.drop k).getD k 0) (v.getD k 0)) = (List.zipWith ad h v).take (k + 1) ++ h.drop (k + 1) := by
  have hl : ((List.zipWith ad h v).take k).length = k := by simp; omega
  have e : h.drop k = h[k] :: h.drop (k + 1) := List.drop_eq_getElem_cons hh
  have e1 : ((List.zipWith ad h v).take k ++ h.drop k).getD k 0 = h[k] := by
    rw [List.getD, List.getElem?_append_right (by omega), hl, Nat.sub_self, e]
    rfl
  rw [e1, e, List.set_append_right _ _ (by omega), hl, Nat.sub_self, List.set_cons_zero, List.take_succ_eq_append_getElem (by simp; omega)]
  simp [List.getD, hv]

set_option maxHeartbeats 1000000 in
theorem step_any (h bs : List Int) (w : World) (hL : Laid w) (hh : h.length = 8) (hb : bs.length = 64) (hby : Bytes bs) :
    Calls Tryz.prog 192 #[.agg (U h), .agg (B bs)] w fun e w' => e = .returned (.agg (U (stp h bs))) ∧ Below w.heap.size w w' := by
  obtain ⟨a, b, c, d, e, f, g, k, hvv⟩ := eight h hh
  have HV : Hid (h = [a, b, c, d, e, f, g, k]) := hvv
  clear hvv
  have HL := hidden hL
  have HH := hidden hh
  have HB := hidden hb
  have HBY := hidden hby
  clear hL hh hb hby
  go_enter Tryz.func192, Tryz.ntmps192
  go_wp2_with (first | (have hh1 := hl1; clear hh1; refine wpList_bx _ rfl _ _ rfl _ rfl ?_; intro w2 g2 hg2 hl2 B2 b2) | (refine wpList_bx _ rfl _ _ rfl _ rfl ?_; intro w1 g1 hg1 hl1 B1 b1) | (refine wpList_al _ rfl _ rfl _ zero_w8 ?_; intro w3 g3 hg3 hl3 B3 b3))
  have s1 := b1.size
  have s2 := b2.size
  have s3 := b3.size
  have HB1 := hidden ((B1.grow b2).grow b3)
  have HB2 := hidden (B2.grow b3)
  have HB3 := hidden B3
  have hbl := (b1.trans (b2.mono s1)).trans (b3.mono (Nat.le_trans s1 s2))
  clear B1 B2 B3 b1 b2 b3
  have n1 : w.heap.size ≤ g1 := by omega
  have n3 : w.heap.size ≤ g3 := by omega
  have n13 : g1 ≠ g3 := by omega
  clear hg1 hg2 hg3 hl1 hl2 hl3 s1 s2 s3
  have HL3 := hidden (HL.out.grow hbl)
  have HLG : Hid (∀ w', Below w3.heap.size w3 w' → Laid w') := fun w' hw => HL3.out.grow hw
  have HS : Hid (∀ w', Below w3.heap.size w3 w' → w'.rangeAt g2 0 (B bs).toList ∧ w'.cell? ⟨g1, 0, none⟩ = some (.int .u32 a) ∧ w'.cell? ⟨g1, 1, none⟩ = some (.int .u32 b) ∧ w'.cell? ⟨g1, 2, none⟩ = some (.int .u32 c) ∧ w'.cell? ⟨g1, 3, none⟩ = some (.int .u32 d) ∧ w'.cell? ⟨g1, 4, none⟩ = some (.int .u32 e) ∧ w'.cell? ⟨g1, 5, none⟩ = some (.int .u32 f) ∧ w'.cell? ⟨g1, 6, none⟩ = some (.int .u32 g) ∧ w'.cell? ⟨g1, 7, none⟩ = some (.int .u32 k)) := by
    intro w' hw'
    have h1 := HB1.out.grow hw'
    rw [HV.out] at h1
    exact ⟨(HB2.out.grow hw').range, h1.eight⟩
  have hu64 : Tryz.prog.underlying 238 = some (.array 64 5) := Tryz.underlying238
  have hi64 : (Tryz.prog.info? 238).map (·.size) = some (B bs).toList.length := by rw [B_toList, List.length_map, HB.out]; exact size_b64
  have hd0 : Below w3.heap.size w3 w3.drew := (Below.refl _ _).drew
  go_region_held2 (fun w' => w'.rangeAt g2 0 (B bs).toList ∧ w'.cell? ⟨g1, 0, none⟩ = some (.int .u32 a) ∧ w'.cell? ⟨g1, 1, none⟩ = some (.int .u32 b) ∧ w'.cell? ⟨g1, 2, none⟩ = some (.int .u32 c) ∧ w'.cell? ⟨g1, 3, none⟩ = some (.int .u32 d) ∧ w'.cell? ⟨g1, 4, none⟩ = some (.int .u32 e) ∧ w'.cell? ⟨g1, 5, none⟩ = some (.int .u32 f) ∧ w'.cell? ⟨g1, 6, none⟩ = some (.int .u32 g) ∧ w'.cell? ⟨g1, 7, none⟩ = some (.int .u32 k))
    (first | exact HS.out _ (by assumption))
    (first | (go_at_call 203; refine (schedule_any bs _ HBY.out HB.out).mono ?_; rintro e w4 ⟨rfl, hb4⟩; have hbd := grow_trans hd0 hb4) | (go_at_call 202; refine (mixed_any [a, b, c, d, e, f, g, k] (sch bs 64) _ (HLG.out _ hbd) rfl (sch_length _ _)).mono ?_; rintro e w5 ⟨rfl, hb5⟩; have hbe := grow_trans hbd hb5))
  have hb5' : Below w.heap.size w w5 := hbl.trans (hbe.mono hbl.size)
  have HB1' : Hid (Blk w5 g1 237 (U h)) := HB1.out.grow hbe
  have HB3' : Hid (Blk w5 g3 237 (U (List.replicate 8 0))) := HB3.out.grow hbe
  have HX : Hid (rds (sch bs 64) [a, b, c, d, e, f, g, k] 64 = rds (sch bs 64) h 64) := by rw [HV.out]; exact rfl
  rw [HX.out]
  have HY : Hid (stp h bs = List.zipWith ad h (rds (sch bs 64) h 64)) := rfl
  have HZ : Hid ((rds (sch bs 64) h 64).length = 8) := rds_length _ _ HH.out _
  generalize rds (sch bs 64) h 64 = v at *
  clear HB1 HB2 HB3 hbl HS HLG HL3 HL hi64 hu64 hd0 hb4 hbd hb5 hbe HX HV
  go_wp2_with fail
  go_loopw [11] (fun i wr => ∃ k : Nat, k ≤ 8 ∧ i = .int .i64 k ∧ Hid (Blk wr g1 237 (U ((List.zipWith ad h v).take k ++ h.drop k))) ∧ Hid (Blk wr g3 237 (U (List.replicate 8 0))) ∧ Below w.heap.size w wr) (fun i _ => 8 - (intOf i).toNat)
  case atStart => exact ⟨0, by omega, rfl, by simpa using HB1', HB3', hb5'⟩
  case round =>
    clear HB1' HB3' hb5'
    obtain ⟨k, hk, rfl, hB1, hB3, hbl⟩ := hrel
    by_cases hlt : k < 8
    · have k0 : (0 : Int) ≤ (k : Int) := by omega
      have k1 : (k : Int) < 8 := by omega
      have c1 := hB1.out.wcell k (by have := HH.out; have := HZ.out; simp; omega)
      have f1 := hB1.out.frozen k
      have hix := index_w8 v k HZ.out hlt
      have HE : Hid (((List.zipWith ad h v).take k ++ h.drop k).set k (ad (((List.zipWith ad h v).take k ++ h.drop k).getD k 0) (v.getD k 0)) = (List.zipWith ad h v).take (k + 1) ++ h.drop (k + 1)) := zip_set h v k (by have := HH.out; omega) (by have := HZ.out; omega)
      generalize ((List.zipWith ad h v).take k ++ h.drop k).getD k 0 = x at *
      generalize v.getD k 0 = y at *
      go_wp2_with fail
      have hn := hB1.out.set k (.int .u32 (ad x y))
      rw [U_set, HE.out] at hn
      exact ⟨⟨k + 1, by omega, by go_num, hn, hB3.out.other _ _ (Ne.symm n13), setCell_below _ _ hbl n1⟩, by simp [intOf]; omega⟩
    · have HF : Hid (Blk wr g1 237 (U (stp h bs))) := by
        have : Blk wr g1 237 (U ((List.zipWith ad h v).take k ++ h.drop k)) := hB1.out
        rw [List.take_of_length_le (by have := HH.out; have := HZ.out; simp; omega), List.drop_of_length_le (by have := HH.out; omega), List.append_nil, ← HY.out] at this
        exact this
      have HS : Hid ((U (stp h bs)).size = 8) := by rw [U_size]; exact stp_length _ _ HH.out
      go_wp2_with (first | (refine wpList_ld _ rfl _ _ rfl g1 _ rfl HF.out 8 _ Tryz.underlying237 (by rw [HS.out]; exact size_w8) ?_) | (refine wpList_st _ rfl _ _ _ rfl g3 _ _ rfl rfl hB3.out (by rw [HS.out]; exact size_w8) (by rw [HS.out, U_size]; simp) (U_one _) ?_))
      exact bodyPost_ret (v := .agg (U (stp h bs))) (results_cell_row rfl _ _ g3 _ _ _ _ rfl (hB3.out.row _) Tryz.underlying237 rfl (by rw [HS.out]; exact size_w8)) rfl ⟨rfl, setRow_below _ hbl n3⟩

end Go.Proofs.YtgfdgjkbcdmboabGreatDoor

/- The document's schedule of a block (rootcellarref02.words), as a contract. -/
namespace Go.Proofs.YtgfdgjkbcdmboabGreatDoor
set_option maxRecDepth 20000
open Go.RowKit

/-- The first i bytes of word t of a block, as a number. -/
def acc (b : List Int) (t : Nat) : Nat → Int
  | 0 => 0
  | i + 1 => acc b t i * 256 + b.getD (4 * t + i) 0
theorem acc_bd (b : List Int) (t : Nat) (h : Bytes b) : ∀ i, 0 ≤ acc b t i ∧ acc b t i < 256 ^ i
  | 0 => ⟨by simp [acc], by simp [acc]⟩
  | i + 1 => by
    have h1 := acc_bd b t h i
    have h2 := getD_bytes h (4 * t + i)
    simp only [acc]
    rw [Int.pow_succ]
    omega
theorem acc_four (b ws : List Int) (t : Nat) (ht : t < 16) : acc b t 4 = nextWord b ws t := by
  simp only [acc, nextWord, if_pos ht, Nat.add_zero]
  omega

theorem getD_set (l : List Int) (t : Nat) (x : Int) (h : t < l.length) : (l.set t x).getD t 0 = x := by
  rw [List.getD, List.getElem?_set_self h]
  rfl

theorem set_there (b : List Int) (t : Nat) (ht : t < 64) : (sch b t ++ List.replicate (64 - t) 0).set t (acc b t 0) = sch b t ++ List.replicate (64 - t) 0 := by
  rw [show 64 - t = (64 - (t + 1)) + 1 by omega, List.replicate_succ, List.set_append_right _ _ (by rw [sch_length]; omega), sch_length, Nat.sub_self, List.set_cons_zero]
  rfl

end Go.Proofs.YtgfdgjkbcdmboabGreatDoor
