/- The document's schedule of a block (rootcellarref02.words), as a contract. -/
import Derived.Test.YtpihigcnoifcfaaDoorVr08
import Derived.RegionTactic
import Derived.Test.YtpihigcnoifcfaaDoorVr04
namespace Go.Proofs.YtpihigcnoifcfaaDoor
set_option maxRecDepth 20000
open Go.RowKit

/-- The first i bytes of word t of a block, as a number. -/
def acc (b : List Int) (t : Nat) : Nat → Int
  | 0 => 0
  | i + 1 => acc b t i * 256 + b.getD (4 * t + i) 0
theorem acc_bd (b : List Int) (t : Nat) (h : Bytes b) : ∀ i, 0 ≤ acc b t i ∧ acc b t i < 256 ^ i
  | 0 => ⟨by simp [acc], by simp [acc]⟩
  | i + 1 => by
    have h1 := acc_bd b t h i
    have h2 := getD_bytes h (4 * t + i)
    simp only [acc]
    rw [Int.pow_succ]
    omega
theorem acc_four (b ws : List Int) (t : Nat) (ht : t < 16) : acc b t 4 = nextWord b ws t := by
  simp only [acc, nextWord, if_pos ht, Nat.add_zero]
  omega

theorem getD_set (l : List Int) (t : Nat) (x : Int) (h : t < l.length) : (l.set t x).getD t 0 = x := by
  rw [List.getD, List.getElem?_set_self h]
  rfl

theorem set_there (b : List Int) (t : Nat) (ht : t < 64) : (sch b t ++ List.replicate (64 - t) 0).set t (acc b t 0) = sch b t ++ List.replicate (64 - t) 0 := by
  rw [show 64 - t = (64 - (t + 1)) + 1 by omega, List.replicate_succ, List.set_append_right _ _ (by rw [sch_length]; omega), sch_length, Nat.sub_self, List.set_cons_zero]
  rfl

set_option maxHeartbeats 4000000 in
theorem words_any (gb off c : Nat) (bs : List Int) (w : World) (hb : Bytes bs) (hcell : ∀ i, i < 64 → w.cell? ⟨gb, off + i, none⟩ = some (.int .u8 (bs.getD i 0))) :
    Calls Tryd.prog 81 #[.slice (some ⟨gb, off, none⟩) 64 c] w fun e w' => e = .returned (.agg (U (sch bs 64))) ∧ Below w.heap.size w w' := by
  have HB := hidden hb
  have HC := hidden hcell
  clear hb hcell
  go_enter Tryd.func81, Tryd.ntmps81
  go_wp2_with (first | (have hh2 := hl2; clear hh2; refine wpList_al _ rfl _ rfl _ zero_w64 ?_; intro w3 g3 hg3 hl3 B3 b3) | (refine wpList_al _ rfl _ rfl _ zero_w64 ?_; intro w2 g2 hg2 hl2 B2 b2))
  have s2 := b2.size
  have s3 := b3.size
  have HB2 := hidden (B2.grow b3)
  have HF : Hid (Filled w3 g3 bs 0) := B3
  have hbl := b2.trans (b3.mono s2)
  clear B2 B3 b2 b3
  have n2 : g2 ≠ g3 := by omega
  have n3 : w.heap.size ≤ g3 := by omega
  have n4 : w.heap.size ≤ g2 := by omega
  clear hg2 hg3 hl2 hl3 s2 s3
  go_loopw [4] (fun i wr => ∃ k : Nat, k ≤ 16 ∧ i = .int .i64 k ∧ Hid (Blk wr g2 122 (U (List.replicate 64 0))) ∧ Hid (Filled wr g3 bs k) ∧ Below w.heap.size w wr) (fun i _ => 16 - (intOf i).toNat)
  case atStart => exact ⟨0, by omega, rfl, HB2, HF, hbl⟩
  case round =>
    clear HB2 HF hbl
    obtain ⟨t, ht, rfl, hb2, hb3, hbl⟩ := hrel
    obtain ⟨w7, rfl⟩ : ∃ x, x = wr := ⟨_, rfl⟩
    by_cases hlt : t < 16
    · have t16 : (t : Int) < 16 := by omega
      go_wp2_with fail
      go_loopw [5] (fun j wr => ∃ i : Nat, i ≤ 4 ∧ j = .int .i64 i ∧ Hid (Blk wr g2 122 (U (List.replicate 64 0))) ∧ Hid (Blk wr g3 122 (U ((sch bs t ++ List.replicate (64 - t) 0).set t (acc bs t i)))) ∧ Below w.heap.size w wr) (fun j _ => 4 - (intOf j).toNat)
      case atStart => exact ⟨0, by omega, rfl, hb2, by show Blk _ _ _ _; rw [set_there bs t (by omega)]; exact hb3.out, hbl⟩
      case round =>
        clear hb2 hb3 hbl
        obtain ⟨i, hi, rfl, hb2, hb3, hbl⟩ := hrel
        obtain ⟨w8, rfl⟩ : ∃ x, x = wr := ⟨_, rfl⟩
        by_cases hi4 : i < 4
        · have hlen : ((sch bs t ++ List.replicate (64 - t) 0).set t (acc bs t i)).length = 64 := by have := sch_length bs t; simp; omega
          have c1 := hb3.out.wcell t (by omega)
          have f1 := hb3.out.frozen t
          rw [getD_set _ t _ (by have := sch_length bs t; simp; omega)] at c1
          have c2 : w8.cell? ⟨gb, off + (4 * t + i), none⟩ = some (.int .u8 (bs.getD (4 * t + i) 0)) := by
            have := HC.out (4 * t + i) (by omega)
            exact (hbl.cell (p := ⟨gb, off + (4 * t + i), none⟩) (block_lt_of_cell this)).trans this
          have ba := acc_bd bs t HB.out i
          have bz := getD_bytes HB.out (4 * t + i)
          have ba3 : acc bs t i < 16777216 := by
            have : (256 : Int) ^ i ≤ 256 ^ 3 := by
              match i, hi4 with
              | 0, _ => decide
              | 1, _ => decide
              | 2, _ => decide
              | 3, _ => decide
            omega
          have ba0 := ba.1
          have HN : Hid (acc bs t (i + 1) = acc bs t i * 256 + bs.getD (4 * t + i) 0) := rfl
          have HSS : Hid (∀ z, ((sch bs t ++ List.replicate (64 - t) 0).set t (acc bs t i)).set t z = (sch bs t ++ List.replicate (64 - t) 0).set t z) := fun z => by simp
          clear ba hlen
          obtain ⟨q, hq⟩ : ∃ q : Nat, q = 4 * t + i := ⟨_, rfl⟩
          have HQ := hidden hq
          rw [← hq] at c2 bz HN
          generalize acc bs t i = x at *
          generalize bs.getD q 0 = z at *
          have r0 : IntKind.i64.wrap (4 * (t : Int)) = 4 * (t : Int) := by rw [IntKind.wrap_i64]; omega
          have r1 : 4 * (t : Int) + (i : Int) = (q : Int) := by omega
          have r2 : IntKind.i64.wrap (q : Int) = (q : Int) := by rw [IntKind.wrap_i64]; omega
          have q0 : (0 : Int) ≤ (q : Int) := by omega
          have q1 : (q : Int) < 64 := by omega
          have t0 : (0 : Int) ≤ (t : Int) := by omega
          have t1 : (t : Int) < 64 := by omega
          clear hq
          go_wp2_with fail
          go_region
          have hn : Blk (w8.setCell ⟨g3, t, none⟩ (.int .u32 (x * 256 + z))) g3 122 (U ((sch bs t ++ List.replicate (64 - t) 0).set t (acc bs t (i + 1)))) := by
            have h := hb3.out.set t (.int .u32 (x * 256 + z))
            rw [U_set, HSS.out] at h
            rw [HN.out]
            exact h
          have i1 : (i : Int) < 4 := by omega
          go_wp2
          exact ⟨⟨i + 1, by omega, by go_num, hb2.out.other _ _ n2, hn, (setCell_below _ _ hbl n3).drew⟩, by simp [intOf]; omega⟩
        · have hF : Hid (Filled w8 g3 bs (t + 1)) := by
            have h4 : i = 4 := by omega
            subst h4
            have : Blk w8 g3 122 (U ((sch bs t ++ List.replicate (64 - t) 0).set t (acc bs t 4))) := hb3.out
            rw [acc_four bs (sch bs t) t hlt, ← sch_set bs t (by omega)] at this
            exact this
          go_wp2
          exact ⟨⟨t + 1, by omega, by go_num, hb2, hF, hbl⟩, by simp [intOf]; omega⟩
    · have hf16 : Hid (Filled w7 g3 bs 16) := by
        have : t = 16 := by omega
        subst this
        exact hb3
      go_wp2_with fail
      go_loopw [6] (fun i wr => ∃ k : Nat, 16 ≤ k ∧ k ≤ 64 ∧ i = .int .i64 k ∧ Hid (Blk wr g2 122 (U (List.replicate 64 0))) ∧ Hid (Filled wr g3 bs k) ∧ Below w.heap.size w wr) (fun i _ => 64 - (intOf i).toNat)
      case atStart => exact ⟨16, by omega, by omega, rfl, hb2, hf16, hbl⟩
      case round =>
        clear hb2 hb3 hbl hf16 hlt ht
        obtain ⟨k, hk0, hk, rfl, hb2, hb3, hbl⟩ := hrel
        obtain ⟨w8, rfl⟩ : ∃ x, x = wr := ⟨_, rfl⟩
        by_cases hlt : k < 64
        · obtain ⟨k2, q2⟩ : ∃ k2 : Nat, (k : Int) - 2 = k2 := ⟨k - 2, by omega⟩
          obtain ⟨k7, q7⟩ : ∃ k7 : Nat, (k : Int) - 7 = k7 := ⟨k - 7, by omega⟩
          obtain ⟨k15, q15⟩ : ∃ k15 : Nat, (k : Int) - 15 = k15 := ⟨k - 15, by omega⟩
          obtain ⟨k16, q16⟩ : ∃ k16 : Nat, (k : Int) - 16 = k16 := ⟨k - 16, by omega⟩
          have c0 := hb3.out.cell k2 (by omega)
          have c1 := hb3.out.cell k7 (by omega)
          have c2 := hb3.out.cell k15 (by omega)
          have c3 := hb3.out.cell k16 (by omega)
          obtain ⟨z, hy⟩ := hb3.out.there hlt
          have hf := Blk.frozen hb3.out k
          have k0 : (0 : Int) ≤ (k : Int) := by omega
          have k1 : (k : Int) < 64 := by omega
          have j0 : (k2 : Int) < 64 := by omega
          have j1 : (k7 : Int) < 64 := by omega
          have j2 : (k15 : Int) < 64 := by omega
          have j3 : (k16 : Int) < 64 := by omega
          have n0 : (0 : Int) ≤ (k2 : Int) := by omega
          have n1' : (0 : Int) ≤ (k7 : Int) := by omega
          have n2' : (0 : Int) ≤ (k15 : Int) := by omega
          have n3' : (0 : Int) ≤ (k16 : Int) := by omega
          have r0' : IntKind.i64.wrap (k2 : Int) = (k2 : Int) := by rw [IntKind.wrap_i64]; omega
          have r1' : IntKind.i64.wrap (k7 : Int) = (k7 : Int) := by rw [IntKind.wrap_i64]; omega
          have r2' : IntKind.i64.wrap (k15 : Int) = (k15 : Int) := by rw [IntKind.wrap_i64]; omega
          have r3' : IntKind.i64.wrap (k16 : Int) = (k16 : Int) := by rw [IntKind.wrap_i64]; omega
          have HE : Hid (nextWord bs (sch bs k) k = (sm1 ((sch bs k).getD k2 0) + (sch bs k).getD k7 0 + sm0 ((sch bs k).getD k15 0) + (sch bs k).getD k16 0) % 4294967296) := by
            show _ = _
            rw [nextWord, if_neg (by omega), show k - 2 = k2 by omega, show k - 7 = k7 by omega, show k - 15 = k15 by omega, show k - 16 = k16 by omega]
            simp only [ad]
            omega
          generalize (sch bs k).getD k2 0 = z0 at *
          generalize (sch bs k).getD k7 0 = z1 at *
          generalize (sch bs k).getD k15 0 = z2 at *
          generalize (sch bs k).getD k16 0 = z3 at *
          have HE2 := HE.out
          simp only [sm0, sm1, xo] at HE2
          replace HE := hidden HE2
          clear HE2
          go_wp2_with (go_at_call 83; refine (turned_any _ _ _ (by omega) (by omega)).mono ?_; rintro e w' ⟨rfl, nn, rfl⟩)
          go_region
          clear c0 c1 c2 c3 hy hf
          go_wp2
          exact ⟨⟨k + 1, by omega, by omega, by go_num, (hb2.out.grow (below_drewN (Below.refl _ _) _)).other _ _ n2, Filled.next (Blk.grow hb3.out (below_drewN (Below.refl _ _) _)) (by omega) _ HE.out, setCell_below _ _ (below_drewN hbl _) n3⟩, by simp [intOf]; omega⟩
        · obtain rfl : k = 64 := by omega
          have HF : Hid (Blk w8 g3 122 (U (sch bs 64))) := by
            have : Blk w8 g3 122 (U (sch bs 64 ++ List.replicate (64 - 64) 0)) := hb3.out
            rw [show 64 - 64 = 0 from rfl, List.replicate_zero, List.append_nil] at this
            exact this
          have HS : Hid ((U (sch bs 64)).size = 64) := by rw [U_size, sch_length]; exact rfl
          go_wp2_with (first | (refine wpList_ld _ rfl _ _ rfl g3 _ rfl HF.out 64 _ Tryd.underlying122 (by rw [HS.out]; exact size_w64) ?_) | (refine wpList_st _ rfl _ _ _ rfl g2 _ _ rfl rfl hb2.out (by rw [HS.out]; exact size_w64) (by rw [HS.out, U_size]; simp) (U_one _) ?_))
          exact bodyPost_ret (v := .agg (U (sch bs 64))) (results_cell_row rfl _ _ g2 _ _ _ _ rfl (hb2.out.row (U (sch bs 64))) Tryd.underlying122 rfl (by rw [HS.out]; exact size_w64)) rfl ⟨rfl, setRow_below _ hbl n4⟩

end Go.Proofs.YtpihigcnoifcfaaDoor

/- The document's block step (rootcellarref02.Step), as a contract. -/
namespace Go.Proofs.YtpihigcnoifcfaaDoor
set_option maxRecDepth 20000
open Go.RowKit

set_option maxHeartbeats 4000000 in
set_option maxRecDepth 20000 in
theorem constants_any (w : World) : Calls Tryd.prog 82 #[] w fun e w' => e = .returned (.agg (U ks)) ∧ Below w.heap.size w w' := by
  go_enter Tryd.func82, Tryd.ntmps82
  go_wp2_with (first | (refine wpList_al _ rfl _ rfl _ zero_w64 ?_; intro w1 g1 hg1 hl1 B1 b1) | (refine wpList_bld _ rfl _ _ rfl (U ks) (by kernel_rfl) ?_) | (refine wpList_sto _ rfl _ _ _ rfl g1 _ (U ks) rfl rfl B1 (by kernel_rfl) (by simp [U_size, ks]) (U_one _) ?_; intro w2 B2 hg2))
  exact bodyPost_ret (v := .agg (U ks)) (results_cell_row rfl _ _ g1 _ _ _ _ rfl B2 Tryd.underlying122 rfl (by kernel_rfl)) rfl ⟨rfl, below_row b1 hg2 hg1⟩

theorem drewN_grow {w : World} (n : Nat) : Below w.heap.size w (w.drewN n) := below_drewN (Below.refl _ _) n

set_option maxHeartbeats 4000000 in
set_option maxRecDepth 10000 in
theorem refStep_any (gb off c : Nat) (h bs : List Int) (w : World) (hh : h.length = 8) (hby : Bytes bs) (hcell : ∀ i, i < 64 → w.cell? ⟨gb, off + i, none⟩ = some (.int .u8 (bs.getD i 0))) :
    Calls Tryd.prog 74 #[.agg (U h), .slice (some ⟨gb, off, none⟩) 64 c] w fun e w' => e = .returned (.agg (U (stp h bs))) ∧ Below w.heap.size w w' := by
  have HH := hidden hh
  have HBY := hidden hby
  have HC : Hid (∀ w', Below w.heap.size w w' → ∀ i, i < 64 → w'.cell? ⟨gb, off + i, none⟩ = some (.int .u8 (bs.getD i 0))) := fun w' hb i hi => (hb.cell (p := ⟨gb, off + i, none⟩) (block_lt_of_cell (hcell i hi))).trans (hcell i hi)
  have SW : Hid ((U (sch bs 64)).size = 64) := by rw [U_size, sch_length]; exact rfl
  have SK : Hid ((U ks).size = 64) := by rw [U_size]; exact rfl
  have SH : Hid ((U h).size = 8) := by rw [U_size]; exact hh
  clear hh hby hcell
  go_enter Tryd.func74, Tryd.ntmps74
  go_wp2_with (first
    | (refine wpList_bx _ rfl _ _ rfl _ rfl ?_; intro w2 g2 hg2 hl2 B2 b2)
    | (refine wpList_al _ rfl _ rfl _ zero_w8 ?_; intro w4 g4 hg4 hl4 B4 b4))
  have c4 := b2.trans (b4.mono b2.size)
  refine (words_any gb off c bs _ HBY.out (HC.out _ c4)).mono ?_
  rintro e wA ⟨rfl, bA⟩
  have cA := c4.trans (bA.mono c4.size)
  go_wp2_with (first
    | (refine wpList_al _ rfl _ rfl _ zero_w64 ?_; intro w5 g5 hg5 hl5 B5 b5)
    | (refine wpList_sto _ rfl _ _ _ rfl g5 _ _ rfl rfl B5 (by rw [SW.out]; exact size_w64) (by rw [SW.out, U_size]; simp) (U_one _) ?_; intro wS BS gS))
  have c5 := cA.trans (b5.mono cA.size)
  have cS := below_row c5 gS (by have := cA.size; omega)
  refine (constants_any _).mono ?_
  rintro e wC ⟨rfl, bC⟩
  have cC := cS.trans (bC.mono cS.size)
  have e2 := b4.size
  have e4 := bA.size
  have eA := b5.size
  have e5 := gS.size
  have eS := bC.size
  have n25 : g2 ≠ g5 := by omega
  have n45 : g4 ≠ g5 := by omega
  have D2 := ((((B2.grow b4).grow bA).grow b5).kept gS n25).grow bC
  have D4 := (((B4.grow bA).grow b5).kept gS n45).grow bC
  have D5 := BS.grow bC
  go_wp2_with (first
    | (have hx := hl6; clear hx; refine wpList_al _ rfl _ rfl _ zero_w8 ?_; intro w7 g7 hg7 hl7 B7 b7)
    | (refine wpList_al _ rfl _ rfl _ zero_w64 ?_; intro w6 g6 hg6 hl6 B6 b6)
    | (have hx := hl7; clear hx; refine wpList_sto _ rfl _ _ _ rfl g7 _ (U h) rfl rfl B7 (by rw [SH.out]; exact size_w8) (by rw [SH.out, U_size]; simp) (U_one _) ?_; intro wU BU gU)
    | (refine wpList_sto _ rfl _ _ _ rfl g6 _ (U ks) rfl rfl B6 (by rw [SK.out]; exact size_w64) (by rw [SK.out, U_size]; simp) (U_one _) ?_; intro wT BT gT; have hx26 : g2 ≠ g6 := Nat.ne_of_lt (Nat.lt_of_lt_of_le D2.lt hg6); have F2 := (D2.grow b6).kept gT hx26)
    | (refine wpList_ld _ rfl _ _ rfl g2 (U h) rfl F2 8 _ Tryd.underlying113 (by rw [SH.out]; exact size_w8) ?_))
  have d2 := D2.lt
  have d4 := D4.lt
  have d5 := D5.lt
  have eC := b6.size
  have e6 := gT.size
  have eT := b7.size
  have c6 := cC.trans (b6.mono cC.size)
  have cT := below_row c6 gT (by have := cC.size; omega)
  have c7 := cT.trans (b7.mono cT.size)
  have cU := below_row c7 gU (by have := cT.size; omega)
  have n27 : g2 ≠ g7 := by omega
  have n47 : g4 ≠ g7 := by omega
  have n57 : g5 ≠ g7 := by omega
  have n67 : g6 ≠ g7 := by omega
  have n24 : g2 ≠ g4 := by omega
  have HB2 := hidden ((F2.grow b7).kept gU n27)
  have HB4 := hidden ((((D4.grow b6).kept gT (by omega)).grow b7).kept gU n47)
  have HB5 := hidden ((((D5.grow b6).kept gT (by omega)).grow b7).kept gU n57)
  have HB6 := hidden ((BT.grow b7).kept gU n67)
  have HB7 : Hid (Blk wU g7 113 (U (rds (sch bs 64) h 0))) := BU
  have m2 : w.heap.size ≤ g2 := by omega
  have m4 : w.heap.size ≤ g4 := by have := b2.size; omega
  have m7 : w.heap.size ≤ g7 := by have := cT.size; omega
  have HB := hidden cU
  clear B2 b2 B4 b4 c4 bA cA B5 b5 BS gS c5 cS bC cC D2 D4 D5 B6 b6 BT gT F2 B7 b7 BU gU c6 cT c7 cU
  clear hg2 hl2 hg4 hl4 hg5 hl5 hg6 hl6 hg7 hl7 e2 e4 eA e5 eS d2 d4 d5 eC e6 eT n25 n45 hx26
  go_loopw [8] (fun i wr => ∃ k : Nat, k ≤ 64 ∧ i = .int .i64 k ∧ Hid (Blk wr g2 113 (U h)) ∧ Hid (Blk wr g4 113 (U (List.replicate 8 0))) ∧ Hid (Blk wr g5 122 (U (sch bs 64))) ∧ Hid (Blk wr g6 122 (U ks)) ∧ Hid (Blk wr g7 113 (U (rds (sch bs 64) h k))) ∧ Hid (Below w.heap.size w wr)) (fun i _ => 64 - (intOf i).toNat)
  case atStart => exact ⟨0, by omega, rfl, HB2, HB4, HB5, HB6, HB7, HB⟩
  case round =>
    clear HB2 HB4 HB5 HB6 HB7 HB
    obtain ⟨k, hk, rfl, hB2, hB4, hB5, hB6, hB7, hbl⟩ := hrel
    by_cases hlt : k < 64
    · obtain ⟨x0, x1, x2, x3, x4, x5, x6, x7, hv⟩ := eight _ (rds_length (sch bs 64) h HH.out k)
      have HE : Hid (rds (sch bs 64) h (k + 1) = [((x7 + big1 x4 + chs x4 x5 x6 + ks.getD k 0 + (sch bs 64).getD k 0) % 4294967296 + (big0 x0 + maj x0 x1 x2) % 4294967296) % 4294967296, x0, x1, x2, (x3 + (x7 + big1 x4 + chs x4 x5 x6 + ks.getD k 0 + (sch bs 64).getD k 0) % 4294967296) % 4294967296, x4, x5, x6]) := by
        show rds (sch bs 64) h (k + 1) = _
        rw [rds, hv, rnd_flat]
      have HB7 : Hid (Blk wr g7 113 (U [x0, x1, x2, x3, x4, x5, x6, x7])) := by
        rw [← hv]; exact hB7
      obtain ⟨a0, a1, a2, a3, a4, a5, a6, a7⟩ := HB7.out.eight
      have c1 := hB5.out.wcell k (by rw [sch_length]; exact hlt)
      have c2 := hB6.out.wcell k (by exact hlt)
      have k0 : (0 : Int) ≤ (k : Int) := by omega
      have k1 : (k : Int) < 64 := by omega
      have hsg : IntKind.u32.signed = false := rfl
      clear hv
      generalize ks.getD k 0 = kt at *
      generalize (sch bs 64).getD k 0 = wt at *
      go_wp2_with (go_at_call 83; refine (turned_any _ _ _ (by omega) (by omega)).mono ?_; rintro e w' ⟨rfl, nn, rfl⟩)
      go_quiet (fail)
      rw [show bits .xor .u32 (bits .xor .u32 (rot x4 6) (rot x4 11)) (rot x4 25) = big1 x4 from rfl, show bits .xor .u32 (bits .xor .u32 (rot x0 2) (rot x0 13)) (rot x0 22) = big0 x0 from rfl,
        show bits .xor .u32 (bits .and .u32 x4 x5) (bits .and .u32 (bits .xor .u32 IntKind.u32.max x4) x6) = chs x4 x5 x6 from rfl]
      generalize big1 x4 = p1 at *
      generalize big0 x0 = p0 at *
      generalize chs x4 x5 x6 = p2 at *
      clear c1 c2 a0 a1 a2 a3 a4 a5 a6 a7
      generalize hq : wr.drewN _ = wn
      have gq : Below wr.heap.size wr (wn.drewN nq) := by rw [← hq]; exact below_drewN (drewN_grow _) nq
      clear hq
      generalize wn.drewN nq = wq at *
      have hB2' := hidden (hB2.out.grow gq)
      have hB4' := hidden (hB4.out.grow gq)
      have hB5' := hidden (hB5.out.grow gq)
      have hB6' := hidden (hB6.out.grow gq)
      have hB7' := hidden (HB7.out.grow gq)
      have hbl' := hidden (hbl.out.trans (gq.mono hbl.out.size))
      obtain ⟨a0, a1, a2, a3, a4, a5, a6, a7⟩ := hB7'.out.eight
      clear gq hB2 hB4 hB5 hB6 hB7 HB7 hbl
      go_wp2_with (first | (refine wpList_sto _ rfl _ _ _ rfl g7 _ _ rfl rfl hB7'.out (by exact size_w8) (by rw [U_size]; rfl) (by simp [Value.oneCell']) ?_; intro wV BV gV; clear a0 a1 a2 a3 a4 a5 a6 a7))
      have BV' : Blk wV g7 113 (U (rds (sch bs 64) h (k + 1))) := by
        rw [HE.out]
        refine Eq.mp (congrArg (Blk wV g7 113) ?_) BV
        simp [U, maj, xo]
      exact ⟨⟨k + 1, by omega, by go_num, hB2'.out.kept gV n27, hB4'.out.kept gV n47, hB5'.out.kept gV n57, hB6'.out.kept gV n67, BV', below_row hbl'.out gV m7⟩, by simp [intOf]; omega⟩
    · obtain rfl : k = 64 := by omega
      have HY : Hid (stp h bs = List.zipWith ad h (rds (sch bs 64) h 64)) := rfl
      have HZ : Hid ((rds (sch bs 64) h 64).length = 8) := rds_length _ _ HH.out _
      generalize rds (sch bs 64) h 64 = v at *
      generalize sch bs 64 = ws at *
      clear SW SK
      go_wp2_with fail
      go_loopw [15] (fun i wr => ∃ k : Nat, k ≤ 8 ∧ i = .int .i64 k ∧ Hid (Blk wr g2 113 (U ((List.zipWith ad h v).take k ++ h.drop k))) ∧ Hid (Blk wr g4 113 (U (List.replicate 8 0))) ∧ Hid (Blk wr g7 113 (U v)) ∧ Hid (Below w.heap.size w wr)) (fun i _ => 8 - (intOf i).toNat)
      case atStart => exact ⟨0, by omega, rfl, by simpa using hB2, hB4, hB7, hbl⟩
      case round =>
        clear hB2 hB4 hB5 hB6 hB7 hbl
        obtain ⟨k, hk, rfl, hB2, hB4, hB7, hbl⟩ := hrel
        obtain ⟨w9, rfl⟩ : ∃ x, x = wr := ⟨_, rfl⟩
        by_cases hlt : k < 8
        · have k0 : (0 : Int) ≤ (k : Int) := by omega
          have k1 : (k : Int) < 8 := by omega
          have c1 := hB2.out.wcell k (by have := HH.out; have := HZ.out; simp; omega)
          have f1 := hB2.out.frozen k
          have c2 := hB7.out.wcell k (by have := HZ.out; omega)
          have HE : Hid (((List.zipWith ad h v).take k ++ h.drop k).set k (ad (((List.zipWith ad h v).take k ++ h.drop k).getD k 0) (v.getD k 0)) = (List.zipWith ad h v).take (k + 1) ++ h.drop (k + 1)) := zip_set h v k (by have := HH.out; omega) (by have := HZ.out; omega)
          generalize ((List.zipWith ad h v).take k ++ h.drop k).getD k 0 = x at *
          generalize v.getD k 0 = y at *
          go_wp2_with fail
          go_region
          have hn := hB2.out.set k (.int .u32 (ad x y))
          rw [U_set, HE.out] at hn
          clear c1 c2 f1
          go_wp2_with fail
          exact ⟨⟨k + 1, by omega, by go_num, hn, hB4.out.other _ _ (Ne.symm n24), hB7.out.other _ _ (Ne.symm n27), (setCell_below _ _ hbl.out m2).drew⟩, by simp [intOf]; omega⟩
        · have HF : Hid (Blk w9 g2 113 (U (stp h bs))) := by
            have : Blk w9 g2 113 (U ((List.zipWith ad h v).take k ++ h.drop k)) := hB2.out
            rw [List.take_of_length_le (by have := HH.out; have := HZ.out; simp; omega), List.drop_of_length_le (by have := HH.out; omega), List.append_nil, ← HY.out] at this
            exact this
          obtain rfl : k = 8 := by omega
          have HS : Hid ((U (stp h bs)).size = 8) := by rw [U_size]; exact stp_length _ _ HH.out
          go_wp2_with (first | (refine wpList_ld _ rfl _ _ rfl g2 _ rfl HF.out 8 _ Tryd.underlying113 (by rw [HS.out]; exact size_w8) ?_) | (refine wpList_sto _ rfl _ _ _ rfl g4 _ _ rfl rfl hB4.out (by rw [HS.out]; exact size_w8) (by rw [HS.out, U_size]; simp) (U_one _) ?_; intro wZ BZ gZ))
          exact bodyPost_ret (v := .agg (U (stp h bs))) (results_cell_row rfl _ _ g4 _ _ _ _ rfl BZ Tryd.underlying113 rfl (by rw [HS.out]; exact size_w8)) rfl ⟨rfl, below_row hbl.out gZ m4⟩

end Go.Proofs.YtpihigcnoifcfaaDoor

/- sha's State in memory, and its small calls (New, good, filled, Len, Clone), as contracts. -/
namespace Go.Proofs.YtpihigcnoifcfaaDoor
set_option maxRecDepth 20000
open Go.RowKit

/-- The cells of a state: the words, the block, the count, whether it was made. -/
def Cs (ws bk : List Int) (c : Int) (m : Bool) : Array Value := (ws.map (Value.int .u32) ++ bk.map (Value.int .u8) ++ [Value.int .i64 c, Value.bool m]).toArray
theorem Cs_size (ws bk : List Int) (c : Int) (m : Bool) (hw : ws.length = 8) (hb : bk.length = 64) : (Cs ws bk c m).size = 74 := by simp [Cs, hw, hb]
theorem Cs_one (ws bk : List Int) (c : Int) (m : Bool) : (Cs ws bk c m).all (·.oneCell') = true := Array.all_eq_true_iff_forall_mem.2 (fun v hv => by
  simp only [Cs, List.mem_toArray, List.mem_append, List.mem_map] at hv
  rcases hv with (⟨z, _, rfl⟩ | ⟨z, _, rfl⟩) | hv
  · rfl
  · rfl
  · simp at hv
    rcases hv with rfl | rfl <;> rfl)

/-- Block g holds a state of these words, this block, this count. -/
def St (w : World) (g : Nat) (ws bk : List Int) (c : Int) : Prop := Blk w g 118 (Cs ws bk c true) ∧ ws.length = 8 ∧ bk.length = 64 ∧ Bytes bk

theorem St.made {w : World} {g : Nat} {ws bk : List Int} {c : Int} (h : St w g ws bk c) : w.cell? ⟨g, 73, none⟩ = some (.bool true) := by
  obtain ⟨h1, h2, h3, _⟩ := h
  rw [h1.cell]
  simp [Cs, h2, h3]
theorem St.count {w : World} {g : Nat} {ws bk : List Int} {c : Int} (h : St w g ws bk c) : w.cell? ⟨g, 72, none⟩ = some (.int .i64 c) := by
  obtain ⟨h1, h2, h3, _⟩ := h
  rw [h1.cell]
  simp [Cs, h2, h3]
theorem St.word {w : World} {g : Nat} {ws bk : List Int} {c : Int} (h : St w g ws bk c) (i : Nat) (hi : i < 8) : w.cell? ⟨g, i, none⟩ = some (.int .u32 (ws.getD i 0)) := by
  obtain ⟨h1, h2, h3, _⟩ := h
  rw [h1.cell]
  simp [Cs, List.getElem?_append, h2, List.getD, hi]
theorem St.range {w : World} {g : Nat} {ws bk : List Int} {c : Int} (h : St w g ws bk c) : w.rangeAt g 8 (B bk).toList := by
  obtain ⟨h1, h2, h3, _⟩ := h
  intro j v hv
  rw [h1.cell]
  have hj : j < 64 := by have := (List.getElem?_eq_some_iff.1 hv).1; simpa [B_toList, h3] using this
  rw [B_toList] at hv
  rw [List.getElem?_map, List.getElem?_eq_getElem (by omega)] at hv
  simp [Cs, List.getElem?_append, h2, h3, hj]
  simpa using hv
theorem St.grow {w w' : World} {g : Nat} {ws bk : List Int} {c : Int} (h : St w g ws bk c) (hb : Below w.heap.size w w') : St w' g ws bk c := ⟨h.1.grow hb, h.2⟩
theorem St.kept {w w' : World} {g g' : Nat} {ws bk : List Int} {c : Int} (h : St w g ws bk c) (hg : w.grownBy w' (some g')) (hne : g ≠ g') : St w' g ws bk c := ⟨h.1.kept hg hne, h.2⟩

theorem size_st : (Tryd.prog.info? 118).map (·.size) = some 74 := by kernel_rfl
theorem zero_st : (Tryd.prog.info? 118).map (fun i => (i.zero, i.size)) = some (some (.agg (Cs (List.replicate 8 0) (List.replicate 64 0) 0 false)), 74) := by kernel_rfl

set_option maxHeartbeats 1000000 in
set_option maxRecDepth 10000 in
theorem new_any (w : World) (hL : Laid w) : Calls Tryd.prog 66 #[] w fun e w' => ∃ g, e = .returned (.pointer (some ⟨g, 0, none⟩)) ∧ w.heap.size ≤ g ∧ g < w'.heap.size ∧ St w' g hs (List.replicate 64 0) 0 ∧ Below w.heap.size w w' := by
  obtain ⟨_, _, h⟩ := hL
  have a0 := h 0 (by omega)
  have a1 := h 1 (by omega)
  have a2 := h 2 (by omega)
  have a3 := h 3 (by omega)
  have a4 := h 4 (by omega)
  have a5 := h 5 (by omega)
  have a6 := h 6 (by omega)
  have a7 := h 7 (by omega)
  simp only [hs, List.getD_cons_zero, List.getD_cons_succ] at a0 a1 a2 a3 a4 a5 a6 a7
  clear h
  go_enter Tryd.func66, Tryd.ntmps66
  go_wp2_with (first | (refine wpList_bld _ rfl _ _ rfl (Cs hs (List.replicate 64 0) 0 true) (by kernel_rfl) ?_) | (refine wpList_bx _ rfl _ _ rfl _ rfl ?_; intro w1 g1 hg1 hl1 B1 b1))
  go_ret
  exact ⟨g1, rfl, hg1, hl1, ⟨B1, rfl, rfl, by intro z hz; rw [List.eq_of_mem_replicate hz]; omega⟩, b1⟩

set_option maxHeartbeats 400000 in
theorem good_nil (w : World) : Calls Tryd.prog 76 #[.pointer none] w fun e w' => e = .returned (.bool false) ∧ w' = w := by
  go_enter Tryd.func76, Tryd.ntmps76
  go_wp2
  go_ret
  exact ⟨rfl, rfl⟩

set_option maxHeartbeats 400000 in
theorem good_at (g : Nat) (m : Bool) (w : World) (hm : w.cell? ⟨g, 73, none⟩ = some (.bool m)) :
    Calls Tryd.prog 76 #[.pointer (some ⟨g, 0, none⟩)] w fun e w' => e = .returned (.bool m) ∧ w' = w := by
  cases m
  all_goals
    go_enter Tryd.func76, Tryd.ntmps76
    go_wp2
    go_ret
    exact ⟨rfl, rfl⟩

set_option maxHeartbeats 400000 in
theorem filled_at (g c : Nat) (w : World) (hm : w.cell? ⟨g, 72, none⟩ = some (.int .i64 (c : Int))) :
    Calls Tryd.prog 77 #[.pointer (some ⟨g, 0, none⟩)] w fun e w' => e = .returned (.int .i64 ((c % 64 : Nat) : Int)) ∧ w' = w := by
  go_enter Tryd.func77, Tryd.ntmps77
  go_wp2
  go_ret
  exact ⟨by show Ending.returned (.int .i64 ((c : Int).tmod 64)) = _; congr 2, rfl⟩

end Go.Proofs.YtpihigcnoifcfaaDoor
