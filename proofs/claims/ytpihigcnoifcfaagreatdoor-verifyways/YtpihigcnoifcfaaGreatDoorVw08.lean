/- sha.schedule, as a contract: the 64 words of a block. -/
import Derived.Test.YtpihigcnoifcfaaGreatDoorVw07
import Derived.Test.YtpihigcnoifcfaaGreatDoorVw04
import Derived.Deep.RegionHeld2
namespace Go.Proofs.YtpihigcnoifcfaaGreatDoor
set_option maxRecDepth 20000
open Go.RowKit

theorem sch_set (b : List Int) (k : Nat) (hk : k < 64) : sch b (k + 1) ++ List.replicate (64 - (k + 1)) 0 = (sch b k ++ List.replicate (64 - k) 0).set k (nextWord b (sch b k) k) := by
  rw [show 64 - k = (64 - (k + 1)) + 1 by omega, List.replicate_succ, List.set_append_right _ _ (by rw [sch_length]; omega), sch_length, Nat.sub_self, List.set_cons_zero]
  simp [sch]

theorem getD_bytes {zs : List Int} (h : Bytes zs) (i : Nat) : 0 ≤ zs.getD i 0 ∧ zs.getD i 0 ≤ 255 := by
  by_cases hi : i < zs.length
  · exact h _ (by simp [List.getD, hi])
  · simp [List.getD, hi]

/-- The array of words while it is filled. -/
def Filled (w : World) (g : Nat) (b : List Int) (k : Nat) : Prop := Blk w g 140 (U (sch b k ++ List.replicate (64 - k) 0))
theorem Filled.cell {w : World} {g : Nat} {b : List Int} {k : Nat} (h : Filled w g b k) (i : Nat) (hi : i < k) : w.cell? ⟨g, i, none⟩ = some (.int .u32 ((sch b k).getD i 0)) := by
  rw [Blk.wcell h i (by have := sch_length b k; simp; omega)]
  simp [List.getD, List.getElem?_append_left (show i < (sch b k).length by rw [sch_length]; omega)]
theorem Filled.there {w : World} {g : Nat} {b : List Int} {k : Nat} (h : Filled w g b k) (hk : k < 64) : ∃ z, w.cell? ⟨g, k, none⟩ = some (.int .u32 z) := ⟨_, Blk.wcell h k (by have := sch_length b k; simp; omega)⟩
theorem Filled.next {w : World} {g : Nat} {b : List Int} {k : Nat} (h : Filled w g b k) (hk : k < 64) (z : Int) (hz : nextWord b (sch b k) k = z) : Filled (w.setCell ⟨g, k, none⟩ (.int .u32 z)) g b (k + 1) := by
  have := Blk.set h k (.int .u32 z)
  rw [U_set, ← hz, ← sch_set b k hk, hz] at this
  exact this

set_option maxHeartbeats 1000000 in
theorem schedule_any (bs : List Int) (w : World) (hb : Bytes bs) (hl : bs.length = 64) :
    Calls Tryz.prog 94 #[.agg (B bs)] w fun e w' => e = .returned (.agg (U (sch bs 64))) ∧ Below w.heap.size w w' := by
  have HB := hidden hb
  have HL := hidden hl
  clear hb hl
  go_enter Tryz.func94, Tryz.ntmps94
  go_wp2_with (first | (refine wpList_bx _ rfl _ _ rfl _ rfl ?_; intro w1 g1 hg1 hl1 B1 b1) | (have hh2 := hl2; clear hh2; refine wpList_al _ rfl _ rfl _ zero_w64 ?_; intro w3 g3 hg3 hl3 B3 b3) | (refine wpList_al _ rfl _ rfl _ zero_w64 ?_; intro w2 g2 hg2 hl2 B2 b2))
  have s1 := b1.size
  have s2 := b2.size
  have s3 := b3.size
  have HB1 := hidden ((B1.grow b2).grow b3)
  have HB2 := hidden (B2.grow b3)
  have HF : Hid (Filled w3 g3 bs 0) := B3
  have hbl := (b1.trans (b2.mono s1)).trans (b3.mono (Nat.le_trans s1 s2))
  clear B1 B2 B3 b1 b2 b3
  have n1 : g1 ≠ g3 := by omega
  have n2 : g2 ≠ g3 := by omega
  have n3 : w.heap.size ≤ g3 := by omega
  have n4 : w.heap.size ≤ g2 := by omega
  clear hg1 hg2 hg3 hl1 hl2 hl3 s1 s2 s3
  go_loopw [6] (fun i wr => ∃ k : Nat, k ≤ 16 ∧ i = .int .i64 k ∧ Hid (Blk wr g1 121 (B bs)) ∧ Hid (Blk wr g2 140 (U (List.replicate 64 0))) ∧ Hid (Filled wr g3 bs k) ∧ Below w.heap.size w wr) (fun i _ => 16 - (intOf i).toNat)
  case atStart => exact ⟨0, by omega, rfl, HB1, HB2, HF, hbl⟩
  case round =>
    clear HB1 HB2 HF hbl
    obtain ⟨k, hk, rfl, hb1, hb2, hb3, hbl⟩ := hrel
    by_cases hlt : k < 16
    · have hc : ∀ i : Nat, i < 64 → wr.cell? ⟨g1, i, none⟩ = some (.int .u8 (bs.getD i 0)) := fun i hi => hb1.out.bcell i (by have := HL.out; omega)
      have c0 := hc (4 * k) (by omega)
      have c1 := hc (4 * k + 1) (by omega)
      have c2 := hc (4 * k + 2) (by omega)
      have c3 := hc (4 * k + 3) (by omega)
      obtain ⟨z, hy⟩ := hb3.out.there (by omega)
      have hf := Blk.frozen hb3.out k
      have x0 := getD_bytes HB.out (4 * k)
      have x1 := getD_bytes HB.out (4 * k + 1)
      have x2 := getD_bytes HB.out (4 * k + 2)
      have x3 := getD_bytes HB.out (4 * k + 3)
      have k0 : (0 : Int) ≤ (k : Int) := by omega
      have k1 : (k : Int) < 64 := by omega
      have j0 : 4 * (k : Int) < 64 := by omega
      have j1 : 4 * (k : Int) + 1 < 64 := by omega
      have j2 : 4 * (k : Int) + 2 < 64 := by omega
      have j3 : 4 * (k : Int) + 3 < 64 := by omega
      have n0 : (0 : Int) ≤ 4 * (k : Int) := by omega
      have n1' : (0 : Int) ≤ 4 * (k : Int) + 1 := by omega
      have n2' : (0 : Int) ≤ 4 * (k : Int) + 2 := by omega
      have n3' : (0 : Int) ≤ 4 * (k : Int) + 3 := by omega
      have r0 : IntKind.i64.wrap (4 * (k : Int)) = 4 * (k : Int) := by rw [IntKind.wrap_i64]; omega
      have r1 : IntKind.i64.wrap (4 * (k : Int) + 1) = 4 * (k : Int) + 1 := by rw [IntKind.wrap_i64]; omega
      have r2 : IntKind.i64.wrap (4 * (k : Int) + 2) = 4 * (k : Int) + 2 := by rw [IntKind.wrap_i64]; omega
      have r3 : IntKind.i64.wrap (4 * (k : Int) + 3) = 4 * (k : Int) + 3 := by rw [IntKind.wrap_i64]; omega
      have e0 : (4 * (k : Int)).toNat = 4 * k := by omega
      have e1 : (4 * (k : Int) + 1).toNat = 4 * k + 1 := by omega
      have e2 : (4 * (k : Int) + 2).toNat = 4 * k + 2 := by omega
      have e3 : (4 * (k : Int) + 3).toNat = 4 * k + 3 := by omega
      have HE : Hid (nextWord bs (sch bs k) k = bs.getD (4 * k) 0 * 16777216 + bs.getD (4 * k + 1) 0 * 65536 + bs.getD (4 * k + 2) 0 * 256 + bs.getD (4 * k + 3) 0) := by
        show _ = _
        rw [nextWord, if_pos hlt]
      clear hc
      generalize bs.getD (4 * k) 0 = z0 at *
      generalize bs.getD (4 * k + 1) 0 = z1 at *
      generalize bs.getD (4 * k + 2) 0 = z2 at *
      generalize bs.getD (4 * k + 3) 0 = z3 at *
      go_wp2_with fail
      go_region_held2 (fun w' => w'.cell? ⟨g1, 4 * k, none⟩ = some (.int .u8 z0) ∧ w'.cell? ⟨g1, 4 * k + 1, none⟩ = some (.int .u8 z1) ∧ w'.cell? ⟨g1, 4 * k + 2, none⟩ = some (.int .u8 z2) ∧ w'.cell? ⟨g1, 4 * k + 3, none⟩ = some (.int .u8 z3))
        (first | (refine ⟨?_, ?_, ?_, ?_⟩ <;> first | assumption | (refine (cell_set_ne _ _ _ _ _ _ ?_).trans ?_ <;> assumption)))
        (first | (go_at_call 106; refine (word_any z0 z1 z2 z3 _ x0 x1 x2 x3).mono ?_; rintro e w7 ⟨rfl, rfl⟩))
      clear c0 c1 c2 c3 hy hf
      go_wp2
      exact ⟨⟨k + 1, by omega, by go_num, hb1.out.other _ _ n1, hb2.out.other _ _ n2, hb3.out.next (by omega) _ HE.out, (setCell_below _ _ hbl n3).drew⟩, by simp [intOf]; omega⟩
    · have hf16 : Hid (Filled wr g3 bs 16) := by
        have : k = 16 := by omega
        subst this
        exact hb3
      obtain ⟨kk, rfl⟩ : ∃ x, x = k := ⟨_, rfl⟩
      go_wp2_with fail
      go_loopw [5] (fun i wr => ∃ k : Nat, 16 ≤ k ∧ k ≤ 64 ∧ i = .int .i64 k ∧ Hid (Blk wr g2 140 (U (List.replicate 64 0))) ∧ Hid (Filled wr g3 bs k) ∧ Below w.heap.size w wr) (fun i _ => 64 - (intOf i).toNat)
      case atStart => exact ⟨16, by omega, by omega, rfl, hb2, hf16, hbl⟩
      case round =>
        clear hb1 hb2 hb3 hbl hf16 hk hlt
        obtain ⟨k, hk0, hk, rfl, hb2, hb3, hbl⟩ := hrel
        obtain ⟨w7, rfl⟩ : ∃ x, x = wr := ⟨_, rfl⟩
        by_cases hlt : k < 64
        · obtain ⟨k2, q2⟩ : ∃ k2 : Nat, (k : Int) - 2 = k2 := ⟨k - 2, by omega⟩
          obtain ⟨k7, q7⟩ : ∃ k7 : Nat, (k : Int) - 7 = k7 := ⟨k - 7, by omega⟩
          obtain ⟨k15, q15⟩ : ∃ k15 : Nat, (k : Int) - 15 = k15 := ⟨k - 15, by omega⟩
          obtain ⟨k16, q16⟩ : ∃ k16 : Nat, (k : Int) - 16 = k16 := ⟨k - 16, by omega⟩
          have c0 := hb3.out.cell k2 (by omega)
          have c1 := hb3.out.cell k7 (by omega)
          have c2 := hb3.out.cell k15 (by omega)
          have c3 := hb3.out.cell k16 (by omega)
          obtain ⟨z, hy⟩ := hb3.out.there hlt
          have hf := Blk.frozen hb3.out k
          have k0 : (0 : Int) ≤ (k : Int) := by omega
          have k1 : (k : Int) < 64 := by omega
          have j0 : (k2 : Int) < 64 := by omega
          have j1 : (k7 : Int) < 64 := by omega
          have j2 : (k15 : Int) < 64 := by omega
          have j3 : (k16 : Int) < 64 := by omega
          have n0 : (0 : Int) ≤ (k2 : Int) := by omega
          have n1' : (0 : Int) ≤ (k7 : Int) := by omega
          have n2' : (0 : Int) ≤ (k15 : Int) := by omega
          have n3' : (0 : Int) ≤ (k16 : Int) := by omega
          have r0' : IntKind.i64.wrap (k2 : Int) = (k2 : Int) := by rw [IntKind.wrap_i64]; omega
          have r1' : IntKind.i64.wrap (k7 : Int) = (k7 : Int) := by rw [IntKind.wrap_i64]; omega
          have r2' : IntKind.i64.wrap (k15 : Int) = (k15 : Int) := by rw [IntKind.wrap_i64]; omega
          have r3' : IntKind.i64.wrap (k16 : Int) = (k16 : Int) := by rw [IntKind.wrap_i64]; omega
          have m0 : k2 ≠ k := by omega
          have m1 : k7 ≠ k := by omega
          have m2 : k15 ≠ k := by omega
          have m3 : k16 ≠ k := by omega
          have HE : Hid (nextWord bs (sch bs k) k = ad (ad (ad (sm1 ((sch bs k).getD k2 0)) ((sch bs k).getD k7 0)) (sm0 ((sch bs k).getD k15 0))) ((sch bs k).getD k16 0)) := by
            show _ = _
            rw [nextWord, if_neg (by omega), show k - 2 = k2 by omega, show k - 7 = k7 by omega, show k - 15 = k15 by omega, show k - 16 = k16 by omega]
          generalize (sch bs k).getD k2 0 = z0 at *
          generalize (sch bs k).getD k7 0 = z1 at *
          generalize (sch bs k).getD k15 0 = z2 at *
          generalize (sch bs k).getD k16 0 = z3 at *
          go_wp2_with fail
          go_region_held2 (fun w' => w'.cell? ⟨g3, k2, none⟩ = some (.int .u32 z0) ∧ w'.cell? ⟨g3, k7, none⟩ = some (.int .u32 z1) ∧ w'.cell? ⟨g3, k15, none⟩ = some (.int .u32 z2) ∧ w'.cell? ⟨g3, k16, none⟩ = some (.int .u32 z3))
            (first | (refine ⟨?_, ?_, ?_, ?_⟩ <;> first | assumption | (refine (cell_set_off _ _ _ _ _ ?_).trans ?_ <;> assumption)))
            (first | (go_at_call 107; refine (mixLate_any z0 _).mono ?_; rintro e w8 ⟨rfl, rfl⟩) | (go_at_call 108; refine (mixEarly_any z2 _).mono ?_; rintro e w8 ⟨rfl, rfl⟩))
          clear c0 c1 c2 c3 hy hf
          go_wp2
          exact ⟨⟨k + 1, by omega, by omega, by go_num, hb2.out.other _ _ n2, hb3.out.next (by omega) _ HE.out, (setCell_below _ _ hbl n3).drew⟩, by simp [intOf]; omega⟩
        · obtain rfl : k = 64 := by omega
          have HF : Hid (Blk w7 g3 140 (U (sch bs 64))) := by
            have : Blk w7 g3 140 (U (sch bs 64 ++ List.replicate (64 - 64) 0)) := hb3.out
            rw [show 64 - 64 = 0 from rfl, List.replicate_zero, List.append_nil] at this
            exact this
          have HS : Hid ((U (sch bs 64)).size = 64) := by rw [U_size, sch_length]; exact rfl
          go_wp2_with (first | (refine wpList_ld _ rfl _ _ rfl g3 _ rfl HF.out 64 _ Tryz.underlying140 (by rw [HS.out]; exact size_w64) ?_) | (refine wpList_st _ rfl _ _ _ rfl g2 _ _ rfl rfl hb2.out (by rw [HS.out]; exact size_w64) (by rw [HS.out, U_size]; simp) (U_one _) ?_))
          exact bodyPost_ret (v := .agg (U (sch bs 64))) (results_cell_row rfl _ _ g2 _ _ _ _ rfl (hb2.out.row (U (sch bs 64))) Tryz.underlying140 rfl (by rw [HS.out]; exact size_w64)) rfl ⟨rfl, setRow_below _ hbl n4⟩

end Go.Proofs.YtpihigcnoifcfaaGreatDoor

/- sha.mixed and sha.Step, as contracts: the 64 rounds, the block step. -/
namespace Go.Proofs.YtpihigcnoifcfaaGreatDoor
set_option maxRecDepth 20000
open Go.RowKit

/-- The tables of the program stand as its text lays them. -/
def Laid (w : World) : Prop := w.heap.size ≥ 3 ∧ (∀ i, i < 64 → w.cell? ⟨2, i, none⟩ = some (.int .u32 (ks.getD i 0))) ∧ (∀ i, i < 8 → w.cell? ⟨0, i, none⟩ = some (.int .u32 (hs.getD i 0)))
theorem Laid.grow {w w' : World} (h : Laid w) (hb : Below w.heap.size w w') : Laid w' := by
  obtain ⟨h0, h1, h2⟩ := h
  refine ⟨Nat.le_trans h0 hb.size, fun i hi => ?_, fun i hi => ?_⟩
  · rw [hb.cell (p := ⟨2, i, none⟩) (by show 2 < _; omega)]; exact h1 i hi
  · rw [hb.cell (p := ⟨0, i, none⟩) (by show 0 < _; omega)]; exact h2 i hi

theorem rnd_flat (k w a b c d e f g h : Int) : rnd k w [a, b, c, d, e, f, g, h] =
    [((h + big1 e + chs e f g + k + w) % 4294967296 + (big0 a + maj a b c) % 4294967296) % 4294967296, a, b, c, (d + (h + big1 e + chs e f g + k + w) % 4294967296) % 4294967296, e, f, g] := by
  have : ad (ad (ad (ad h (big1 e)) (chs e f g)) k) w = (h + big1 e + chs e f g + k + w) % 4294967296 := by
    simp only [ad]
    omega
  simp only [rnd, this]
  rfl

set_option maxHeartbeats 1000000 in
theorem mixed_any (v ws : List Int) (w : World) (hL : Laid w) (hv : v.length = 8) (hw : ws.length = 64) :
    Calls Tryz.prog 93 #[.agg (U v), .agg (U ws)] w fun e w' => e = .returned (.agg (U (rds ws v 64))) ∧ Below w.heap.size w w' := by
  have HW := hidden hw
  have HL := hidden hL
  obtain ⟨a, b, c, d, e, f, g, h, hvv⟩ := eight v hv
  have HV : Hid (rds ws v 0 = [a, b, c, d, e, f, g, h]) := hvv
  have HG : Hid (v.getD 0 0 = a ∧ v.getD 1 0 = b ∧ v.getD 2 0 = c ∧ v.getD 3 0 = d ∧ v.getD 4 0 = e ∧ v.getD 5 0 = f ∧ v.getD 6 0 = g ∧ v.getD 7 0 = h) := by subst hvv; exact ⟨rfl, rfl, rfl, rfl, rfl, rfl, rfl, rfl⟩
  have HV8 := hidden hv
  clear hw hL hv hvv
  go_enter Tryz.func93, Tryz.ntmps93
  go_wp2_with (first | (have hh1 := hl1; clear hh1; refine wpList_bx _ rfl _ _ rfl _ rfl ?_; intro w2 g2 hg2 hl2 B2 b2) | (refine wpList_bx _ rfl _ _ rfl _ rfl ?_; intro w1 g1 hg1 hl1 B1 b1) | (refine wpList_al _ rfl _ rfl _ zero_w8 ?_; intro w3 g3 hg3 hl3 B3 b3))
  have s1 := b1.size
  have s2 := b2.size
  have s3 := b3.size
  have HB1 := hidden ((B1.grow b2).grow b3)
  have HB2 := hidden (B2.grow b3)
  have HB3 := hidden B3
  have hbl := (b1.trans (b2.mono s1)).trans (b3.mono (Nat.le_trans s1 s2))
  clear B1 B2 B3 b1 b2 b3
  have n3 : w.heap.size ≤ g3 := by omega
  clear hg1 hg2 hg3 hl1 hl2 hl3 s1 s2 s3
  have x0 := HB1.out.wcell 0 (by have := HV8.out; omega)
  have x1 := HB1.out.wcell 1 (by have := HV8.out; omega)
  have x2 := HB1.out.wcell 2 (by have := HV8.out; omega)
  have x3 := HB1.out.wcell 3 (by have := HV8.out; omega)
  have x4 := HB1.out.wcell 4 (by have := HV8.out; omega)
  have x5 := HB1.out.wcell 5 (by have := HV8.out; omega)
  have x6 := HB1.out.wcell 6 (by have := HV8.out; omega)
  have x7 := HB1.out.wcell 7 (by have := HV8.out; omega)
  obtain ⟨y0, y1, y2, y3, y4, y5, y6, y7⟩ := HG.out
  rw [y0] at x0
  rw [y1] at x1
  rw [y2] at x2
  rw [y3] at x3
  rw [y4] at x4
  rw [y5] at x5
  rw [y6] at x6
  rw [y7] at x7
  clear y0 y1 y2 y3 y4 y5 y6 y7 HG
  go_quiet (fail)
  clear x0 x1 x2 x3 x4 x5 x6 x7
  go_wp2_with fail
  have HLd : Hid (Laid (w3.drewN nq)) := (HL.out.grow hbl).grow (below_drewN (Below.refl _ _) nq)
  have hbl' : Below w.heap.size w (w3.drewN nq) := below_drewN hbl nq
  have HB2' : Hid (Blk (w3.drewN nq) g2 140 (U ws)) := HB2.out.grow (below_drewN (Below.refl _ _) nq)
  have HB3' : Hid (Blk (w3.drewN nq) g3 120 (U (List.replicate 8 0))) := HB3.out.grow (below_drewN (Below.refl _ _) nq)
  clear HB1 HB2 HB3 hbl HL
  go_loopw [5, 6, 7, 8, 9, 10, 11, 12, 32] (fun a' b' c' d' e' f' g' h' i wr => ∃ (k : Nat) (a b c d e f g h : Int), k ≤ 64 ∧ i = .int .i64 k ∧ a' = .int .u32 a ∧ b' = .int .u32 b ∧ c' = .int .u32 c ∧ d' = .int .u32 d ∧ e' = .int .u32 e ∧ f' = .int .u32 f ∧ g' = .int .u32 g ∧ h' = .int .u32 h ∧ Hid (rds ws v k = [a, b, c, d, e, f, g, h]) ∧ Hid (Laid wr) ∧ Hid (Blk wr g2 140 (U ws)) ∧ Hid (Blk wr g3 120 (U (List.replicate 8 0))) ∧ Below w.heap.size w wr) (fun _ _ _ _ _ _ _ _ i _ => 64 - (intOf i).toNat)
  case atStart => exact ⟨0, a, b, c, d, e, f, g, h, by omega, rfl, rfl, rfl, rfl, rfl, rfl, rfl, rfl, rfl, HV, HLd, HB2', HB3', hbl'⟩
  case round =>
    clear HV HLd HB2' HB3' hbl'
    obtain ⟨k, a, b, c, d, e, f, g, h, hk, rfl, rfl, rfl, rfl, rfl, rfl, rfl, rfl, rfl, hR, hLd, hB2, hB3, hbl⟩ := hrel
    by_cases hlt : k < 64
    · have c1 := hB2.out.wcell k (by have := HW.out; omega)
      have c2 := hLd.out.2.1 k hlt
      have k0 : (0 : Int) ≤ (k : Int) := by omega
      have k1 : (k : Int) < 64 := by omega
      have HE : Hid (rds ws v (k + 1) = [((h + big1 e + chs e f g + ks.getD k 0 + ws.getD k 0) % 4294967296 + (big0 a + maj a b c) % 4294967296) % 4294967296, a, b, c, (d + (h + big1 e + chs e f g + ks.getD k 0 + ws.getD k 0) % 4294967296) % 4294967296, e, f, g]) := by
        show rds ws v (k + 1) = _
        rw [rds, hR.out, rnd_flat]
      generalize ks.getD k 0 = kt at *
      generalize ws.getD k 0 = wt at *
      go_wp2_with fail
      go_quiet ((first | (go_at_call 102; exact Calls.quiet_of_same (mixLower_any _ _)) | (go_at_call 103; exact Calls.quiet_of_same (choose_any _ _ _ _))))
      go_wp2_with (first | (go_at_call 104; refine (mixUpper_any _ _).mono ?_; rintro e' w' ⟨rfl, rfl⟩) | (go_at_call 105; refine (majority_any _ _ _ _).mono ?_; rintro e' w' ⟨rfl, rfl⟩))
      have hd := below_drewN (Below.refl wr.heap.size wr) nq
      exact ⟨⟨k + 1, _, _, _, _, _, _, _, _, by omega, by go_num, rfl, rfl, rfl, rfl, rfl, rfl, rfl, rfl, HE, hLd.out.grow hd, hB2.out.grow hd, hB3.out.grow hd, below_drewN hbl nq⟩, by simp [intOf]; omega⟩
    · obtain rfl : k = 64 := by omega
      have HS : Hid ((U [a, b, c, d, e, f, g, h]).size = 8) := by rw [U_size]; exact rfl
      go_wp2_with (first | (refine wpList_st _ rfl _ _ _ rfl g3 _ (U [a, b, c, d, e, f, g, h]) rfl rfl hB3.out (by rw [HS.out]; exact size_w8) (by rw [HS.out, U_size]; simp) (U_one _) ?_))
      exact bodyPost_ret (v := .agg (U [a, b, c, d, e, f, g, h])) (results_cell_row rfl _ _ g3 _ _ _ _ rfl (hB3.out.row (U [a, b, c, d, e, f, g, h])) Tryz.underlying120 rfl (by rw [HS.out]; exact size_w8)) rfl ⟨by rw [hR.out], setRow_below _ hbl n3⟩

end Go.Proofs.YtpihigcnoifcfaaGreatDoor

/- sha.Step, as a contract: the block step. -/
namespace Go.Proofs.YtpihigcnoifcfaaGreatDoor
set_option maxRecDepth 20000
open Go.RowKit

theorem zip_set (h v : List Int) (k : Nat) (hh : k < h.length) (hv : k < v.length) : ((List.zipWith ad h v).take k ++ h.drop k).set k (ad (((List.zipWith ad h v).take k ++ h.drop k).getD k 0) (v.getD k 0)) = (List.zipWith ad h v).take (k + 1) ++ h.drop (k + 1) := by
  have hl : ((List.zipWith ad h v).take k).length = k := by simp; omega
  have e : h.drop k = h[k] :: h.drop (k + 1) := List.drop_eq_getElem_cons hh
  have e1 : ((List.zipWith ad h v).take k ++ h.drop k).getD k 0 = h[k] := by
    rw [List.getD, List.getElem?_append_right (by omega), hl, Nat.sub_self, e]
    rfl
  rw [e1, e, List.set_append_right _ _ (by omega), hl, Nat.sub_self, List.set_cons_zero, List.take_succ_eq_append_getElem (by simp; omega)]
  simp [List.getD, hv]

set_option maxHeartbeats 1000000 in
theorem step_any (h bs : List Int) (w : World) (hL : Laid w) (hh : h.length = 8) (hb : bs.length = 64) (hby : Bytes bs) :
    Calls Tryz.prog 77 #[.agg (U h), .agg (B bs)] w fun e w' => e = .returned (.agg (U (stp h bs))) ∧ Below w.heap.size w w' := by
  obtain ⟨a, b, c, d, e, f, g, k, hvv⟩ := eight h hh
  have HV : Hid (h = [a, b, c, d, e, f, g, k]) := hvv
  clear hvv
  have HL := hidden hL
  have HH := hidden hh
  have HB := hidden hb
  have HBY := hidden hby
  clear hL hh hb hby
  go_enter Tryz.func77, Tryz.ntmps77
  go_wp2_with (first | (have hh1 := hl1; clear hh1; refine wpList_bx _ rfl _ _ rfl _ rfl ?_; intro w2 g2 hg2 hl2 B2 b2) | (refine wpList_bx _ rfl _ _ rfl _ rfl ?_; intro w1 g1 hg1 hl1 B1 b1) | (refine wpList_al _ rfl _ rfl _ zero_w8 ?_; intro w3 g3 hg3 hl3 B3 b3))
  have s1 := b1.size
  have s2 := b2.size
  have s3 := b3.size
  have HB1 := hidden ((B1.grow b2).grow b3)
  have HB2 := hidden (B2.grow b3)
  have HB3 := hidden B3
  have hbl := (b1.trans (b2.mono s1)).trans (b3.mono (Nat.le_trans s1 s2))
  clear B1 B2 B3 b1 b2 b3
  have n1 : w.heap.size ≤ g1 := by omega
  have n3 : w.heap.size ≤ g3 := by omega
  have n13 : g1 ≠ g3 := by omega
  clear hg1 hg2 hg3 hl1 hl2 hl3 s1 s2 s3
  have HL3 := hidden (HL.out.grow hbl)
  have HLG : Hid (∀ w', Below w3.heap.size w3 w' → Laid w') := fun w' hw => HL3.out.grow hw
  have HS : Hid (∀ w', Below w3.heap.size w3 w' → w'.rangeAt g2 0 (B bs).toList ∧ w'.cell? ⟨g1, 0, none⟩ = some (.int .u32 a) ∧ w'.cell? ⟨g1, 1, none⟩ = some (.int .u32 b) ∧ w'.cell? ⟨g1, 2, none⟩ = some (.int .u32 c) ∧ w'.cell? ⟨g1, 3, none⟩ = some (.int .u32 d) ∧ w'.cell? ⟨g1, 4, none⟩ = some (.int .u32 e) ∧ w'.cell? ⟨g1, 5, none⟩ = some (.int .u32 f) ∧ w'.cell? ⟨g1, 6, none⟩ = some (.int .u32 g) ∧ w'.cell? ⟨g1, 7, none⟩ = some (.int .u32 k)) := by
    intro w' hw'
    have h1 := HB1.out.grow hw'
    rw [HV.out] at h1
    exact ⟨(HB2.out.grow hw').range, h1.eight⟩
  have hu64 : Tryz.prog.underlying 121 = some (.array 64 5) := Tryz.underlying121
  have hi64 : (Tryz.prog.info? 121).map (·.size) = some (B bs).toList.length := by rw [B_toList, List.length_map, HB.out]; exact size_b64
  have hd0 : Below w3.heap.size w3 w3.drew := (Below.refl _ _).drew
  go_region_held2 (fun w' => w'.rangeAt g2 0 (B bs).toList ∧ w'.cell? ⟨g1, 0, none⟩ = some (.int .u32 a) ∧ w'.cell? ⟨g1, 1, none⟩ = some (.int .u32 b) ∧ w'.cell? ⟨g1, 2, none⟩ = some (.int .u32 c) ∧ w'.cell? ⟨g1, 3, none⟩ = some (.int .u32 d) ∧ w'.cell? ⟨g1, 4, none⟩ = some (.int .u32 e) ∧ w'.cell? ⟨g1, 5, none⟩ = some (.int .u32 f) ∧ w'.cell? ⟨g1, 6, none⟩ = some (.int .u32 g) ∧ w'.cell? ⟨g1, 7, none⟩ = some (.int .u32 k))
    (first | exact HS.out _ (by assumption))
    (first | (go_at_call 94; refine (schedule_any bs _ HBY.out HB.out).mono ?_; rintro e w4 ⟨rfl, hb4⟩; have hbd := grow_trans hd0 hb4) | (go_at_call 93; refine (mixed_any [a, b, c, d, e, f, g, k] (sch bs 64) _ (HLG.out _ hbd) rfl (sch_length _ _)).mono ?_; rintro e w5 ⟨rfl, hb5⟩; have hbe := grow_trans hbd hb5))
  have hb5' : Below w.heap.size w w5 := hbl.trans (hbe.mono hbl.size)
  have HB1' : Hid (Blk w5 g1 120 (U h)) := HB1.out.grow hbe
  have HB3' : Hid (Blk w5 g3 120 (U (List.replicate 8 0))) := HB3.out.grow hbe
  have HX : Hid (rds (sch bs 64) [a, b, c, d, e, f, g, k] 64 = rds (sch bs 64) h 64) := by rw [HV.out]; exact rfl
  rw [HX.out]
  have HY : Hid (stp h bs = List.zipWith ad h (rds (sch bs 64) h 64)) := rfl
  have HZ : Hid ((rds (sch bs 64) h 64).length = 8) := rds_length _ _ HH.out _
  generalize rds (sch bs 64) h 64 = v at *
  clear HB1 HB2 HB3 hbl HS HLG HL3 HL hi64 hu64 hd0 hb4 hbd hb5 hbe HX HV
  go_wp2_with fail
  go_loopw [11] (fun i wr => ∃ k : Nat, k ≤ 8 ∧ i = .int .i64 k ∧ Hid (Blk wr g1 120 (U ((List.zipWith ad h v).take k ++ h.drop k))) ∧ Hid (Blk wr g3 120 (U (List.replicate 8 0))) ∧ Below w.heap.size w wr) (fun i _ => 8 - (intOf i).toNat)
  case atStart => exact ⟨0, by omega, rfl, by simpa using HB1', HB3', hb5'⟩
  case round =>
    clear HB1' HB3' hb5'
    obtain ⟨k, hk, rfl, hB1, hB3, hbl⟩ := hrel
    by_cases hlt : k < 8
    · have k0 : (0 : Int) ≤ (k : Int) := by omega
      have k1 : (k : Int) < 8 := by omega
      have c1 := hB1.out.wcell k (by have := HH.out; have := HZ.out; simp; omega)
      have f1 := hB1.out.frozen k
      have hix := index_w8 v k HZ.out hlt
      have HE : Hid (((List.zipWith ad h v).take k ++ h.drop k).set k (ad (((List.zipWith ad h v).take k ++ h.drop k).getD k 0) (v.getD k 0)) = (List.zipWith ad h v).take (k + 1) ++ h.drop (k + 1)) := zip_set h v k (by have := HH.out; omega) (by have := HZ.out; omega)
      generalize ((List.zipWith ad h v).take k ++ h.drop k).getD k 0 = x at *
      generalize v.getD k 0 = y at *
      go_wp2_with fail
      have hn := hB1.out.set k (.int .u32 (ad x y))
      rw [U_set, HE.out] at hn
      exact ⟨⟨k + 1, by omega, by go_num, hn, hB3.out.other _ _ (Ne.symm n13), setCell_below _ _ hbl n1⟩, by simp [intOf]; omega⟩
    · have HF : Hid (Blk wr g1 120 (U (stp h bs))) := by
        have : Blk wr g1 120 (U ((List.zipWith ad h v).take k ++ h.drop k)) := hB1.out
        rw [List.take_of_length_le (by have := HH.out; have := HZ.out; simp; omega), List.drop_of_length_le (by have := HH.out; omega), List.append_nil, ← HY.out] at this
        exact this
      have HS : Hid ((U (stp h bs)).size = 8) := by rw [U_size]; exact stp_length _ _ HH.out
      go_wp2_with (first | (refine wpList_ld _ rfl _ _ rfl g1 _ rfl HF.out 8 _ Tryz.underlying120 (by rw [HS.out]; exact size_w8) ?_) | (refine wpList_st _ rfl _ _ _ rfl g3 _ _ rfl rfl hB3.out (by rw [HS.out]; exact size_w8) (by rw [HS.out, U_size]; simp) (U_one _) ?_))
      exact bodyPost_ret (v := .agg (U (stp h bs))) (results_cell_row rfl _ _ g3 _ _ _ _ rfl (hB3.out.row _) Tryz.underlying120 rfl (by rw [HS.out]; exact size_w8)) rfl ⟨rfl, setRow_below _ hbl n3⟩

end Go.Proofs.YtpihigcnoifcfaaGreatDoor
