/- sha's State.Sum and sha.Sum, as contracts: the digest of what was written. -/
import Derived.Test.YtpihigcnoifcfaaGreatDoorVw10
import Derived.Test.YtpihigcnoifcfaaGreatDoorVw07
import Derived.Test.YtpihigcnoifcfaaGreatDoorVw04
import Derived.Test.YtpihigcnoifcfaaGreatDoorVw05
namespace Go.Proofs.YtpihigcnoifcfaaGreatDoor
set_option maxRecDepth 20000
open Go.RowKit

theorem underlying_st : ∃ fs, Tryz.prog.underlying 123 = some (.struct fs) := ⟨_, Tryz.underlying123⟩

theorem Reads.block {w : World} {v : Value} {zs : List Int} (h : Reads w v zs) (hp : 0 < zs.length) : ∃ k, v.ownBlock = some k ∧ k < w.heap.size := by
  obtain ⟨a, cap, rfl, h1, h2, h3, h4⟩ := h
  obtain ⟨b, off, rfl, hc⟩ := h4 hp
  exact ⟨b, rfl, block_lt_of_cell (hc 0 hp)⟩
theorem Reads.apart {w : World} {v : Value} {zs : List Int} {g : Nat} (h : Reads w v zs) (hg : w.heap.size ≤ g) : 0 < zs.length → v.ownBlock ≠ some g := by
  intro hp
  obtain ⟨k, h1, h2⟩ := h.block hp
  rw [h1]
  intro e
  injection e with e
  omega

set_option maxHeartbeats 2000000 in
set_option maxRecDepth 10000 in
theorem sum_at (g : Nat) (l : List Int) (w : World) (hT : Txt w g l) (hL : Laid w) (hlen : l.length ≤ 576460752303423488) :
    Calls Tryz.prog 59 #[.pointer (some ⟨g, 0, none⟩)] w fun e w' => e = .returned (.agg (B (dig l))) ∧ Below w.heap.size w w' := by
  obtain ⟨bk, hSt, htk, hby⟩ := hT
  have hm := hSt.made
  have HS := hidden hSt
  have HTK := hidden htk
  have HBY := hidden hby
  have HL := hidden hL
  have HZ : Hid ((Cs (eat l (l.length / 64)) bk (l.length : Int) true).size = 74) := Cs_size _ _ _ _ hSt.2.1 hSt.2.2.1
  clear hSt htk hby hL
  go_enter Tryz.func59, Tryz.ntmps59
  go_wp2_with (first | (refine wpList_al _ rfl _ rfl _ zero_hash ?_; intro w1 g1 hg1 hl1 B1 b1; have hm1 := (HS.out.grow b1).made))
  refine (good_at g true _ hm1).mono ?_
  rintro e w' ⟨rfl, hw'⟩
  rw [hw']
  clear hw' hm1 hm
  have S1 := HS.out.grow b1
  have L1 := HL.out.grow b1
  go_wp2_with (first | (refine wpList_load_row rfl _ _ rfl g rfl _ (Cs (eat l (l.length / 64)) bk (l.length : Int) true) _ _ S1.1 Tryz.underlying123 rfl (by rw [HZ.out]; exact size_st) ?_) | (refine wpList_al _ rfl _ rfl _ (zero_of_info zero_st).1 ?_; intro w2 g2 hg2 hl2 B2 b2) | (refine wpList_sto _ rfl _ _ _ rfl g2 _ _ rfl rfl B2 (by rw [HZ.out]; exact size_st) (by rw [HZ.out]; rfl) (Cs_one _ _ _ _) ?_; intro w3 B3 gg3; have hne : g ≠ g2 := Nat.ne_of_lt (Nat.lt_of_lt_of_le S1.1.lt hg2); have hc3 := ((S1.grow b2).kept gg3 hne).count))
  have n12 : g1 ≠ g2 := by omega
  have B1' := (B1.grow b2).kept gg3 n12
  have L3 := (L1.grow b2).kept gg3 (by have := L1.1; omega)
  have T3 : Txt w3 g2 l := ⟨bk, ⟨B3, HS.out.2⟩, HTK.out, HBY.out⟩
  have c2 := b1.trans (b2.mono b1.size)
  have c3 := below_row c2 gg3 (by have := b1.size; omega)
  clear B1 B2 B3 S1 L1 hc3 gg3 hne
  refine (padding_any l.length w3 (by omega)).mono ?_
  rintro e w4 ⟨v, sp, rfl, hO, b4⟩
  have c4 := c3.trans (b4.mono c3.size)
  have T4 := T3.grow b4
  have L4 := L3.grow b4
  have B4 := B1'.grow b4
  have hv2 : 0 < (pad l.length).length → v.ownBlock ≠ some g2 := by
    intro _ e
    have := (hO.lt g2 e).1
    have := T3.lt
    omega
  have hR4 := hO.reads
  have HPL : Hid ((pad l.length).length ≤ 72) := by
    show _ ≤ _
    rw [pad_length]
    omega
  go_wp2_with fail
  refine (write_any g2 v l (pad l.length) w4 T4 hR4 hv2 L4 (by have := L3.1; have := HL.out.1; have := b1.size; omega) (by have := HPL.out; omega)).mono ?_
  rintro e w5 ⟨rfl, T5, L5, g5⟩
  have c5 := below_row c4 g5 (by have := b1.size; omega)
  have B5 := B4.kept g5 n12
  obtain ⟨bk5, S5, _, _⟩ := T5
  have HE : Hid (out (eat (l ++ pad l.length) ((l ++ pad l.length).length / 64)) = dig l) := by
    show _ = _
    rw [dig, List.length_append]
  have hW8 : (eat (l ++ pad l.length) ((l ++ pad l.length).length / 64)).length = 8 := eat_length _ _
  generalize eat (l ++ pad l.length) ((l ++ pad l.length).length / 64) = W at *
  have HS5 := hidden S5
  have HW8 := hidden hW8
  have HU8 : Hid ((U W).toList.length = 8) := by rw [U_toList, List.length_map]; exact hW8
  clear S5 hW8 hR4 hO T3 T4 L3 L4 HPL hv2
  go_wp2_with (first | (refine wpList_load_mid rfl _ _ rfl g2 0 rfl (U W).toList _ HS5.out.words Tryz.underlying120 rfl (by rw [HU8.out]; exact size_w8) ?_))
  refine (bytesOf_any W w5 HW8.out).mono ?_
  rintro e w6 ⟨rfl, b6⟩
  have B6 := B5.grow b6
  have HSZ : Hid ((B (out W)).size = 32) := by rw [B_size, out_length, HW8.out]; exact rfl
  go_wp2_with (first | (refine wpList_sto _ rfl _ _ _ rfl g1 _ _ rfl rfl B6 (by rw [HSZ.out]; exact size_hash) (by rw [HSZ.out, B_size]; simp) (B_one _) ?_; intro w7 B7 g7))
  exact bodyPost_ret (v := .agg (B (out W))) (results_cell_row rfl _ _ g1 _ _ _ _ rfl B7 Tryz.underlying25 rfl (by rw [HSZ.out]; exact size_hash)) rfl ⟨by rw [HE.out], below_row (c5.trans (b6.mono c5.size)) g7 hg1⟩

set_option maxHeartbeats 1000000 in
theorem shaSum_any (v : Value) (bs : List Int) (w : World) (hr : Reads w v bs) (hL : Laid w) (hlen : bs.length ≤ 576460752303423488) :
    Calls Tryz.prog 28 #[v] w fun e w' => e = .returned (.agg (B (dig bs))) ∧ Below w.heap.size w w' := by
  have HR := hidden hr
  have HL := hidden hL
  clear hr hL
  go_enter Tryz.func28, Tryz.ntmps28
  go_wp2_with (first | (refine wpList_al _ rfl _ rfl _ zero_hash ?_; intro w1 g1 hg1 hl1 B1 b1))
  refine (new_any w1 (HL.out.grow b1)).mono ?_
  rintro e w2 ⟨g, rfl, hg, hgl, S2, b2⟩
  have L2 := (HL.out.grow b1).grow b2
  have T2 : Txt w2 g [] := ⟨_, S2, rfl, Bytes.nil⟩
  have R1 := HR.out.grow b1
  have R2 := R1.grow b2
  have hgw : w.heap.size ≤ g := Nat.le_trans b1.size hg
  go_wp2_with fail
  refine (write_any g v [] bs w2 T2 R2 (R1.apart hg) L2 (by have := HL.out.1; omega) (by simp; omega)).mono ?_
  rintro e w3 ⟨rfl, T3, L3, g3⟩
  rw [List.nil_append] at T3
  have c2 := b1.trans (b2.mono b1.size)
  have c3 := below_row c2 g3 hgw
  have n1 : g1 ≠ g := by omega
  have B3 := (B1.grow b2).kept g3 n1
  go_wp2_with fail
  refine (sum_at g bs w3 T3 L3 hlen).mono ?_
  rintro e w4 ⟨rfl, b4⟩
  have B4 := B3.grow b4
  have HSZ : Hid ((B (dig bs)).size = 32) := by rw [B_size]; exact dig_length bs
  go_wp2_with (first | (refine wpList_sto _ rfl _ _ _ rfl g1 _ _ rfl rfl B4 (by rw [HSZ.out]; exact size_hash) (by rw [HSZ.out, B_size]; simp) (B_one _) ?_; intro w7 B7 g7))
  exact bodyPost_ret (v := .agg (B (dig bs))) (results_cell_row rfl _ _ g1 _ _ _ _ rfl B7 Tryz.underlying25 rfl (by rw [HSZ.out]; exact size_hash)) rfl ⟨rfl, below_row (c3.trans (b4.mono c3.size)) g7 hg1⟩

end Go.Proofs.YtpihigcnoifcfaaGreatDoor

/- tag.Of, as a contract: the digest of the byte and of the parts behind it. -/
namespace Go.Proofs.YtpihigcnoifcfaaGreatDoor
set_option maxRecDepth 20000
open Go.RowKit

/-- What a call leaves that tells the digest of a text. -/
def DigPost (l : List Int) (w : World) (e : Ending) (w' : World) : Prop := e = .returned (.agg (B (dig l))) ∧ Below w.heap.size w w'

set_option maxHeartbeats 2000000 in
set_option maxRecDepth 10000 in
theorem of_any (t : Int) (v : Value) (ps : List (List Int)) (w : World) (h0 : 0 ≤ t) (h1 : t ≤ 255) (h : Parts w v ps) (hL : Laid w) (hl : 1 + ps.flatten.length ≤ 576460752303423488) :
    Calls Tryz.prog 56 #[.int .u8 t, v] w (DigPost (t :: ps.flatten) w) := by
  obtain ⟨a, cap, V, rfl, hcap, hn, hcell, hr⟩ := h
  have HC := hidden hcell
  have HR := hidden hr
  have HL := hidden hL
  have HN := hidden hn
  have HLN := hidden hl
  have hp0 : (0 : Int) ≤ (ps.length : Int) := by omega
  clear hcell hr hL hl
  go_enter Tryz.func56, Tryz.ntmps56
  go_wp2_with (refine wpList_al _ rfl _ rfl _ zero_hash ?_; intro w1 g1 hg1 hl1 B1 b1)
  have L1 := HL.out.grow b1
  refine (new_any w1 L1).mono ?_
  rintro e w2 ⟨g, rfl, hg, hgl, S2, b2⟩
  have L2 := L1.grow b2
  have T2 : Txt w2 g [] := ⟨_, S2, rfl, Bytes.nil⟩
  have c2 := b1.trans (b2.mono b1.size)
  have hgw : w.heap.size ≤ g := Nat.le_trans b1.size hg
  have hg2 : 3 ≤ g := Nat.le_trans HL.out.1 hgw
  have bA := grow_alloc w2 (.cells #[.int .u8 t] 5)
  have cA := grow_trans c2 bA
  have HW := hidden (write_any g (.slice (some ⟨w2.heap.size, 0, none⟩) 1 1) [] [t] (w2.alloc (.cells #[.int .u8 t] 5)) (T2.grow bA) (one_reads w2 t h0 h1) (fun _ e => by
    have e' : some w2.heap.size = some g := e
    injection e' with e'
    omega) (L2.grow bA) hg2 (by simp))
  have BA := (B1.grow b2).grow bA
  clear S2 T2 L1 L2 B1
  go_wp2_with (go_at_call 58; refine HW.out.mono ?_; rintro e w3 ⟨rfl, T3, L3, g3⟩)
  have HT3 : Hid (Txt w3 g (t :: (ps.take 0).flatten)) := T3
  have HL3 := hidden L3
  have HG3 := hidden g3
  have HBA := hidden BA
  obtain ⟨wA, hwA⟩ : ∃ x, x = w2.alloc (.cells #[.int .u8 t] 5) := ⟨_, rfl⟩
  rw [← hwA] at HG3 HBA cA
  clear T3 L3 g3 BA HW bA hwA
  go_loopw [15] (fun i wr => ∃ k : Nat, k ≤ ps.length ∧ i = .int .i64 k ∧ Hid (Txt wr g (t :: (ps.take k).flatten)) ∧ Hid (Laid wr) ∧ Hid (wA.grownBy wr (some g))) (fun i _ => ps.length - (intOf i).toNat)
  case atStart => exact ⟨0, by omega, rfl, HT3, HL3, HG3⟩
  case round =>
    clear HT3 HL3 HG3
    obtain ⟨k, hk, rfl, hT, hLr, hG⟩ := hrel
    by_cases hlt : k < ps.length
    · obtain ⟨b, off, rfl, hcc⟩ := HC.out (by omega)
      have hx := hcc k hlt
      have hbw := block_lt_of_cell hx
      have hx1 := (cA.cell (p := ⟨b, off + k, none⟩) hbw).trans hx
      have hx2 : wr.cell? ⟨b, off + k, none⟩ = some (V k) := hG.out.cell hx1 (fun e => by
        injection e with e
        have hbw' : b < w.heap.size := hbw
        have e' : b = g := e
        omega)
      have hap := (HR.out k hlt).apart hgw
      have hrk := ((HR.out k hlt).grow cA).kept hG.out hap
      have HWK := hidden (write_any g (V k) (t :: (ps.take k).flatten) (ps.getD k []) wr hT.out hrk hap hLr.out hg2 (by
        have h2 := lens_succ ps k hlt
        have h3 := lens_le ps (k + 1)
        have h4 := HLN.out
        unfold lens at h2 h3
        rw [List.length_cons]
        omega))
      have HF : Hid ((t :: (ps.take (k + 1)).flatten) = (t :: (ps.take k).flatten) ++ ps.getD k []) := by
        show _ = _
        rw [flat_succ ps k hlt]
        rfl
      have k0 : (0 : Int) ≤ (k : Int) := by omega
      have k1 : (k : Int) < (ps.length : Int) := by omega
      clear hx hcc hx1 hap hrk hbw
      generalize V k = vk at *
      go_wp2_with (go_at_call 58; refine HWK.out.mono ?_; rintro e w4 ⟨rfl, T4, L4, g4⟩)
      refine ⟨⟨k + 1, by omega, by go_num, ?_, L4, grown_trans hG.out g4⟩, by simp [intOf]; omega⟩
      show Txt _ _ _
      rw [HF.out]
      exact T4
    · have hfl : (ps.take k).flatten = ps.flatten := by rw [List.take_of_length_le (by omega)]
      rw [hfl] at hT
      have c5 := below_row cA hG.out hgw
      have B5 := HBA.out.kept hG.out (show g1 ≠ g by omega)
      have HSU := hidden (sum_at g (t :: ps.flatten) wr hT.out hLr.out (by have := HLN.out; rw [List.length_cons]; omega))
      have HSZ : Hid ((B (dig (t :: ps.flatten))).size = 32) := by rw [B_size]; exact dig_length _
      obtain ⟨D, hD⟩ : ∃ D, D = dig (t :: ps.flatten) := ⟨_, rfl⟩
      rw [← hD] at HSU HSZ
      have HD := hidden hD
      clear hD
      go_wp2_with (first | (go_at_call 59; refine HSU.out.mono ?_; rintro e w6 ⟨rfl, b6⟩; have B6 := B5.grow b6) | (refine wpList_sto _ rfl _ _ _ rfl g1 _ _ rfl rfl B6 (by rw [HSZ.out]; exact size_hash) (by rw [HSZ.out, B_size]; simp) (B_one _) ?_; intro w7 B7 g7))
      exact bodyPost_ret (v := .agg (B D)) (results_cell_row rfl _ _ g1 _ _ _ _ rfl B7 Tryz.underlying25 rfl (by rw [HSZ.out]; exact size_hash)) rfl ⟨by rw [HD.out], below_row (grow_trans c5 b6) g7 hg1⟩

theorem Laid.alloc {w : World} (h : Laid w) (o : Obj) : Laid (w.alloc o) := h.grow (grow_alloc w o)

set_option maxHeartbeats 1000000 in
theorem empty_any (w : World) (hL : Laid w) : Calls Tryz.prog 38 #[] w (DigPost [0] w) := by
  have HL := hidden hL
  have HSZ : Hid ((B (dig [0])).size = 32) := by rw [B_size]; exact dig_length _
  obtain ⟨D, hD⟩ : ∃ D, D = dig [0] := ⟨_, rfl⟩
  have HD := hidden hD
  have H : Hid (∀ w', Laid w' → Calls Tryz.prog 56 #[.int .u8 0, .slice none 0 0] w' fun e w'' => e = .returned (.agg (B D)) ∧ Below w'.heap.size w' w'') := by
    intro w' hw'
    rw [hD]
    exact of_any 0 _ [] w' (by omega) (by omega) (parts_nil w') hw' (by simp)
  rw [← hD] at HSZ
  clear hL hD
  go_enter Tryz.func38, Tryz.ntmps38
  go_wp2_with (first | (refine wpList_al _ rfl _ rfl _ zero_hash ?_; intro w1 g1 hg1 hl1 B1 b1) | (go_at_call 56; refine (H.out _ (HL.out.grow b1)).mono ?_; rintro e w2 ⟨rfl, b2⟩; have B2 := B1.grow b2) | (refine wpList_sto _ rfl _ _ _ rfl g1 _ _ rfl rfl B2 (by rw [HSZ.out]; exact size_hash) (by rw [HSZ.out, B_size]; simp) (B_one _) ?_; intro w3 B3 g3))
  exact bodyPost_ret (v := .agg (B D)) (results_cell_row rfl _ _ g1 _ _ _ _ rfl B3 Tryz.underlying25 rfl (by rw [HSZ.out]; exact size_hash)) rfl ⟨by rw [HD.out], below_row (grow_trans b1 b2) g3 hg1⟩

set_option maxHeartbeats 1000000 in
theorem value_any (v : Value) (zs : List Int) (w : World) (h : Reads w v zs) (hL : Laid w) (hl : zs.length < 576460752303423488) : Calls Tryz.prog 26 #[v] w (DigPost (3 :: zs) w) := by
  have HL := hidden hL
  have HSZ : Hid ((B (dig (3 :: zs))).size = 32) := by rw [B_size]; exact dig_length _
  obtain ⟨D, hD⟩ : ∃ D, D = dig (3 :: zs) := ⟨_, rfl⟩
  have HD := hidden hD
  have H : Hid (∀ w', Laid w' → Below w.heap.size w w' → Calls Tryz.prog 56 #[.int .u8 3, .slice (some ⟨w'.heap.size, 0, none⟩) 1 1] (w'.alloc (.cells #[v] 26)) fun e w'' => e = .returned (.agg (B D)) ∧ Below w'.heap.size w' w'') := by
    intro w' hw' hb
    have h1 := of_any 3 _ [zs] _ (by omega) (by omega) (parts_one w' v zs (h.grow hb)) (hw'.alloc _) (by simp; omega)
    rw [show [zs].flatten = zs by simp] at h1
    rw [hD]
    exact h1.mono fun e w'' ⟨h2, h3⟩ => ⟨h2, grow_trans (grow_alloc _ _) h3⟩
  rw [← hD] at HSZ
  obtain ⟨va, vc, rfl, _, _, _, _⟩ := h
  clear hL hD
  go_enter Tryz.func26, Tryz.ntmps26
  go_wp2_with (first | (refine wpList_al _ rfl _ rfl _ zero_hash ?_; intro w1 g1 hg1 hl1 B1 b1) | (go_at_call 56; refine (H.out w1 (HL.out.grow b1) b1).mono ?_; rintro e w2 ⟨rfl, b2⟩; have B2 := B1.grow b2) | (refine wpList_sto _ rfl _ _ _ rfl g1 _ _ rfl rfl B2 (by rw [HSZ.out]; exact size_hash) (by rw [HSZ.out, B_size]; simp) (B_one _) ?_; intro w3 B3 g3))
  exact bodyPost_ret (v := .agg (B D)) (results_cell_row rfl _ _ g1 _ _ _ _ rfl B3 Tryz.underlying25 rfl (by rw [HSZ.out]; exact size_hash)) rfl ⟨by rw [HD.out], below_row (grow_trans b1 b2) g3 hg1⟩

set_option maxHeartbeats 2000000 in
theorem leaf_any (K A : List Int) (w : World) (hk : K.length = 32) (ha : A.length = 32) (bk : Bytes K) (ba : Bytes A) (hL : Laid w) : Calls Tryz.prog 39 #[.agg (B K), .agg (B A)] w (DigPost (1 :: (K ++ A)) w) := by
  have HL := hidden hL
  have HSZ : Hid ((B (dig (1 :: (K ++ A)))).size = 32) := by rw [B_size]; exact dig_length _
  obtain ⟨D, hD⟩ : ∃ D, D = dig (1 :: (K ++ A)) := ⟨_, rfl⟩
  have HD := hidden hD
  have H : Hid (∀ w' g1 g2, Laid w' → Blk w' g1 24 (B K) → Blk w' g2 25 (B A) → Calls Tryz.prog 56 #[.int .u8 1, .slice (some ⟨w'.heap.size, 0, none⟩) 2 2] (w'.alloc (.cells #[.slice (some ⟨g1, 0, none⟩) 32 32, .slice (some ⟨g2, 0, none⟩) 32 32] 26)) fun e w'' => e = .returned (.agg (B D)) ∧ Below w'.heap.size w' w'') := by
    intro w' g1 g2 hw' B1 B2
    have h1 := of_any 1 _ [K, A] _ (by omega) (by omega) (parts_two w' _ _ K A (B1.readsN bk 32 hk) (B2.readsN ba 32 ha)) (hw'.alloc _) (by simp [hk, ha])
    rw [show [K, A].flatten = K ++ A by simp] at h1
    rw [hD]
    exact h1.mono fun e w'' ⟨h2, h3⟩ => ⟨h2, grow_trans (grow_alloc _ _) h3⟩
  rw [← hD] at HSZ
  clear bk ba hk ha hL hD
  go_enter Tryz.func39, Tryz.ntmps39
  go_wp2_with (first | (refine wpList_al _ rfl _ rfl _ zero_hash ?_; intro w3 g3 hg3 hl3 B3 b3) | (have hx := hl1; clear hx; refine wpList_bx _ rfl _ _ rfl _ rfl ?_; intro w2 g2 hg2 hl2 B2 b2) | (refine wpList_bx _ rfl _ _ rfl _ rfl ?_; intro w1 g1 hg1 hl1 B1 b1))
  have c2 := b1.trans (b2.mono b1.size)
  have c3 := c2.trans (b3.mono c2.size)
  have HB1 := hidden ((B1.grow b2).grow b3)
  have HB2 := hidden (B2.grow b3)
  have HL3 := hidden (HL.out.grow c3)
  have HB3 := hidden B3
  clear B1 B2 B3
  refine wp_region_any (by kernel_rfl) ?_
  change wpAny _ _ _ _ _ _ _ (World.drew _)
  refine wpAny_take (i := 0) (v := .slice (some ⟨g1, 0, none⟩) 32 32) rfl (by kernel_rfl) (by kernel_rfl) (by kernel_rfl) (fun _ _ _ h => h) (Or.inl ⟨by rfl, fun w => by go_simp⟩) ?_
  simp only [Act.put, List.getElem_toArray, List.getElem_cons_zero, List.setIfInBounds_toArray, List.set_cons_zero, List.set_cons_succ]
  refine wpAny_take (i := 1) (v := .slice (some ⟨g2, 0, none⟩) 32 32) rfl (by kernel_rfl) (by kernel_rfl) (by kernel_rfl) (fun _ _ _ h => h) (Or.inl ⟨by rfl, fun w => by go_simp⟩) ?_
  simp only [Act.put, List.getElem_toArray, List.getElem_cons_zero, List.getElem_cons_succ, List.setIfInBounds_toArray, List.set_cons_zero, List.set_cons_succ]
  refine wpAny_ready (rs := [2]) (by kernel_rfl) (by simp) ?_
  refine AllReady.cons rfl (fun K1 hK => ?_) AllReady.nil
  go_simp
  refine hK _ _ ?_
  clear hK K1
  refine wpAny_ready (rs := [3]) (by kernel_rfl) (by simp) ?_
  refine AllReady.cons rfl (fun K1 hK => ?_) AllReady.nil
  go_simp
  refine (H.out w3.drew g1 g2 (HL3.out.grow (Below.refl _ _).drew) HB1.out HB2.out).mono ?_
  rintro e w4 ⟨rfl, b4⟩
  refine hK _ _ ?_
  clear hK K1
  have c4 : Below w.heap.size w w4 := c3.trans ((grow_trans (Below.refl _ _).drew b4).mono c3.size)
  have B4 := HB3.out.grow (grow_trans (Below.refl _ _).drew b4)
  refine wpAny_ready (rs := [4]) (by kernel_rfl) (by simp) ?_
  refine AllReady.cons rfl (fun K1 hK => ?_) AllReady.nil
  refine step_sto _ rfl _ _ _ rfl g3 _ (B D) rfl rfl B4 (by rw [HSZ.out]; exact size_hash) (by rw [HSZ.out, B_size]; simp) (B_one _) ?_
  intro w5 B5 g5
  refine hK _ _ ?_
  clear hK K1
  refine wpAny_done (by kernel_rfl) ?_ _
  simp only [Act.put, List.getElem_toArray, List.getElem_cons_zero, List.getElem_cons_succ]
  go_wp2_with fail
  exact bodyPost_ret (v := .agg (B D)) (results_cell_row rfl _ _ g3 _ _ _ _ rfl B5 Tryz.underlying25 rfl (by rw [HSZ.out]; exact size_hash)) rfl ⟨by rw [HD.out], below_row c4 g5 (Nat.le_trans c2.size hg3)⟩

set_option maxHeartbeats 2000000 in
theorem inner_any (K A : List Int) (w : World) (hk : K.length = 32) (ha : A.length = 32) (bk : Bytes K) (ba : Bytes A) (hL : Laid w) : Calls Tryz.prog 40 #[.agg (B K), .agg (B A)] w (DigPost (2 :: (K ++ A)) w) := by
  have HL := hidden hL
  have HSZ : Hid ((B (dig (2 :: (K ++ A)))).size = 32) := by rw [B_size]; exact dig_length _
  obtain ⟨D, hD⟩ : ∃ D, D = dig (2 :: (K ++ A)) := ⟨_, rfl⟩
  have HD := hidden hD
  have H : Hid (∀ w' g1 g2, Laid w' → Blk w' g1 25 (B K) → Blk w' g2 25 (B A) → Calls Tryz.prog 56 #[.int .u8 2, .slice (some ⟨w'.heap.size, 0, none⟩) 2 2] (w'.alloc (.cells #[.slice (some ⟨g1, 0, none⟩) 32 32, .slice (some ⟨g2, 0, none⟩) 32 32] 26)) fun e w'' => e = .returned (.agg (B D)) ∧ Below w'.heap.size w' w'') := by
    intro w' g1 g2 hw' B1 B2
    have h1 := of_any 2 _ [K, A] _ (by omega) (by omega) (parts_two w' _ _ K A (B1.readsN bk 32 hk) (B2.readsN ba 32 ha)) (hw'.alloc _) (by simp [hk, ha])
    rw [show [K, A].flatten = K ++ A by simp] at h1
    rw [hD]
    exact h1.mono fun e w'' ⟨h2, h3⟩ => ⟨h2, grow_trans (grow_alloc _ _) h3⟩
  rw [← hD] at HSZ
  clear bk ba hk ha hL hD
  go_enter Tryz.func40, Tryz.ntmps40
  go_wp2_with (first | (refine wpList_al _ rfl _ rfl _ zero_hash ?_; intro w3 g3 hg3 hl3 B3 b3) | (have hx := hl1; clear hx; refine wpList_bx _ rfl _ _ rfl _ rfl ?_; intro w2 g2 hg2 hl2 B2 b2) | (refine wpList_bx _ rfl _ _ rfl _ rfl ?_; intro w1 g1 hg1 hl1 B1 b1))
  have c2 := b1.trans (b2.mono b1.size)
  have c3 := c2.trans (b3.mono c2.size)
  have HB1 := hidden ((B1.grow b2).grow b3)
  have HB2 := hidden (B2.grow b3)
  have HL3 := hidden (HL.out.grow c3)
  have HB3 := hidden B3
  clear B1 B2 B3
  refine wp_region_any (by kernel_rfl) ?_
  change wpAny _ _ _ _ _ _ _ (World.drew _)
  refine wpAny_take (i := 0) (v := .slice (some ⟨g1, 0, none⟩) 32 32) rfl (by kernel_rfl) (by kernel_rfl) (by kernel_rfl) (fun _ _ _ h => h) (Or.inl ⟨by rfl, fun w => by go_simp⟩) ?_
  simp only [Act.put, List.getElem_toArray, List.getElem_cons_zero, List.setIfInBounds_toArray, List.set_cons_zero, List.set_cons_succ]
  refine wpAny_take (i := 1) (v := .slice (some ⟨g2, 0, none⟩) 32 32) rfl (by kernel_rfl) (by kernel_rfl) (by kernel_rfl) (fun _ _ _ h => h) (Or.inl ⟨by rfl, fun w => by go_simp⟩) ?_
  simp only [Act.put, List.getElem_toArray, List.getElem_cons_zero, List.getElem_cons_succ, List.setIfInBounds_toArray, List.set_cons_zero, List.set_cons_succ]
  refine wpAny_ready (rs := [2]) (by kernel_rfl) (by simp) ?_
  refine AllReady.cons rfl (fun K1 hK => ?_) AllReady.nil
  go_simp
  refine hK _ _ ?_
  clear hK K1
  refine wpAny_ready (rs := [3]) (by kernel_rfl) (by simp) ?_
  refine AllReady.cons rfl (fun K1 hK => ?_) AllReady.nil
  go_simp
  refine (H.out w3.drew g1 g2 (HL3.out.grow (Below.refl _ _).drew) HB1.out HB2.out).mono ?_
  rintro e w4 ⟨rfl, b4⟩
  refine hK _ _ ?_
  clear hK K1
  have c4 : Below w.heap.size w w4 := c3.trans ((grow_trans (Below.refl _ _).drew b4).mono c3.size)
  have B4 := HB3.out.grow (grow_trans (Below.refl _ _).drew b4)
  refine wpAny_ready (rs := [4]) (by kernel_rfl) (by simp) ?_
  refine AllReady.cons rfl (fun K1 hK => ?_) AllReady.nil
  refine step_sto _ rfl _ _ _ rfl g3 _ (B D) rfl rfl B4 (by rw [HSZ.out]; exact size_hash) (by rw [HSZ.out, B_size]; simp) (B_one _) ?_
  intro w5 B5 g5
  refine hK _ _ ?_
  clear hK K1
  refine wpAny_done (by kernel_rfl) ?_ _
  simp only [Act.put, List.getElem_toArray, List.getElem_cons_zero, List.getElem_cons_succ]
  go_wp2_with fail
  exact bodyPost_ret (v := .agg (B D)) (results_cell_row rfl _ _ g3 _ _ _ _ rfl B5 Tryz.underlying25 rfl (by rw [HSZ.out]; exact size_hash)) rfl ⟨by rw [HD.out], below_row c4 g5 (Nat.le_trans c2.size hg3)⟩

end Go.Proofs.YtpihigcnoifcfaaGreatDoor

/- node.Encode, node.Digest, as contracts. -/
namespace Go.Proofs.YtpihigcnoifcfaaGreatDoor
set_option maxRecDepth 20000
open Go.RowKit

/-- What a walk asks of a node in a block. -/
structure NdF (N : List Int) (k : Int) (a b c d : List Int) : Prop where
  kd : ∀ w g t, Blk w g t (B N) → w.cell? ⟨g, 0, none⟩ = some (.int .u8 k)
  sa : Seg N 1 a
  sb : Seg N 33 b
  sc : Seg N 65 c
  sd : Seg N 97 d
  la : (Tryz.prog.info? 24).map (·.size) = some a.length
  lb : (Tryz.prog.info? 25).map (·.size) = some b.length
  lc : (Tryz.prog.info? 25).map (·.size) = some c.length
  ld : (Tryz.prog.info? 25).map (·.size) = some d.length
  ln : (Tryz.prog.info? 33).map (·.size) = some (B N).size
  ll : (Tryz.prog.info? 33).map (·.size) = some (B N).toList.length

theorem Nd.facts {k : Int} {a b c d : List Int} (h : Nd k a b c d) : NdF (nd k a b c d) k a b c d :=
  ⟨fun _ _ _ q => Nd.kind q, h.segA, h.segB, h.segC, h.segD, by rw [h.la]; exact sz_path, by rw [h.lb]; exact sz_hash, by rw [h.lc]; exact sz_hash, by rw [h.ld]; exact sz_hash, by rw [h.size]; exact size_node, by rw [Array.length_toList, h.size]; exact size_node⟩

/-- A node's text; nothing of one that may not be. -/
def txN (k : Int) (a b c d : List Int) : List Int := if okN k a b c d = true then (if k = 1 then 1 :: (a ++ b) else if k = 2 then 2 :: (c ++ d) else [0]) else []
def dgN (k : Int) (a b c d : List Int) : List Int := if okN k a b c d = true then dig (txN k a b c d) else z32

def EncPost (k : Int) (a b c d : List Int) (w : World) (e : Ending) (w' : World) : Prop :=
  ∃ v sp, e = .returned (.tuple #[v, .int .i64 (okE k a b c d)]) ∧ Own w.heap.size w' v (txN k a b c d) sp ∧ Below w.heap.size w w'
def DigNPost (k : Int) (a b c d : List Int) (w : World) (e : Ending) (w' : World) : Prop :=
  e = .returned (.tuple #[.agg (B (dgN k a b c d)), .int .i64 (okE k a b c d)]) ∧ Below w.heap.size w w'

theorem Own.later {b b' : Nat} {w : World} {v : Value} {zs sp : List Int} (h : Own b w v zs sp) (hb : b' ≤ b) : Own b' w v zs sp := by
  obtain ⟨h1, h2, h3, h4⟩ := h
  refine ⟨h1, h2, h3, ?_⟩
  rcases h4 with h4 | ⟨g, hid, hg, h5⟩
  · exact .inl h4
  · exact .inr ⟨g, hid, Nat.le_trans hb hg, h5⟩

set_option maxHeartbeats 2000000 in
theorem encode_any (k : Int) (a b c d : List Int) (w : World) (h : Nd k a b c d) : Calls Tryz.prog 23 #[.agg (B (nd k a b c d))] w (EncPost k a b c d w) := by
  obtain ⟨fs, hu⟩ := u_node
  have HU := hidden hu
  have HF := hidden h.facts
  have HC : Hid (∀ w', Calls Tryz.prog 48 #[.agg (B (nd k a b c d))] w' fun e w'' => e = .returned (.int .i64 (okE k a b c d)) ∧ Below w'.heap.size w' w'') := fun w' => check_any k a b c d w' h
  obtain ⟨N, hN⟩ : ∃ N, N = nd k a b c d := ⟨_, rfl⟩
  rw [← hN] at HF HC ⊢
  by_cases hok : okN k a b c d = true
  · have hoE : okE k a b c d = 0 := by rw [okE, if_pos hok]
    rw [hoE] at HC
    by_cases hk1 : k = 1
    · have HT : Hid (∀ w', Calls Tryz.prog 49 #[.agg (B a), .agg (B b)] w' (TxtPost (1 :: (a ++ b)) 65 w')) := fun w' => leafText_new a b w' h.la h.lb h.ba h.bb
      have HX : Hid (∀ w' v sp, Own w.heap.size w' v (1 :: (a ++ b)) sp → Below w.heap.size w w' → EncPost k a b c d w (.returned (.tuple #[v, .int .i64 0])) w') := fun w' v sp ho hb => ⟨v, sp, by rw [hoE], by rw [txN, if_pos hok, if_pos hk1]; exact ho, hb⟩
      have q1 : (k == 1) = true := by simp [hk1]
      clear h hu hN hk1 hok hoE
      go_enter Tryz.func23, Tryz.ntmps23
      go_wp2_with (first
        | ((with_reducible refine at_bx ?_); refine wpList_bx _ rfl _ _ rfl _ rfl ?_; intro w1 g1 hg1 hl1 B1 b1)
        | ((with_reducible refine at_ld 1 ?_); refine wpList_lds _ rfl _ _ rfl g1 _ _ rfl B1 HU.out HF.out.ln ?_)
        | (go_at_call 48; refine (HC.out _).mono ?_; rintro e w2 ⟨rfl, b2⟩; have B2 := B1.grow b2; have ck := HF.out.kd _ _ _ B2)
        | ((with_reducible refine at_ld 14 ?_); refine wpList_ldm _ rfl _ _ rfl g1 1 _ _ a rfl B2 HF.out.sa _ _ Tryz.underlying24 HF.out.la ?_)
        | ((with_reducible refine at_ld 16 ?_); refine wpList_ldm _ rfl _ _ rfl g1 33 _ _ b rfl B2 HF.out.sb _ _ Tryz.underlying25 HF.out.lb ?_)
        | (go_at_call 49; refine (HT.out _).mono ?_; rintro e w3 ⟨g, c3, sp, rfl, hgl, hgg, hO, b3⟩))
      go_ret2
      have c2 := grow_trans b1 b2
      exact HX.out _ _ _ (hO.later c2.size) (grow_trans c2 b3)
    · have q1 : (k == 1) = false := by simp [hk1]
      by_cases hk2 : k = 2
      · have HT : Hid (∀ w', Calls Tryz.prog 50 #[.agg (B c), .agg (B d)] w' (TxtPost (2 :: (c ++ d)) 65 w')) := fun w' => innerText_new c d w' h.lc h.ld h.bc h.bd
        have HX : Hid (∀ w' v sp, Own w.heap.size w' v (2 :: (c ++ d)) sp → Below w.heap.size w w' → EncPost k a b c d w (.returned (.tuple #[v, .int .i64 0])) w') := fun w' v sp ho hb => ⟨v, sp, by rw [hoE], by rw [txN, if_pos hok, if_neg hk1, if_pos hk2]; exact ho, hb⟩
        have q2 : (k == 2) = true := by simp [hk2]
        clear h hu hN hk1 hk2 hok hoE
        go_enter Tryz.func23, Tryz.ntmps23
        go_wp2_with (first
          | ((with_reducible refine at_bx ?_); refine wpList_bx _ rfl _ _ rfl _ rfl ?_; intro w1 g1 hg1 hl1 B1 b1)
          | ((with_reducible refine at_ld 1 ?_); refine wpList_lds _ rfl _ _ rfl g1 _ _ rfl B1 HU.out HF.out.ln ?_)
          | (go_at_call 48; refine (HC.out _).mono ?_; rintro e w2 ⟨rfl, b2⟩; have B2 := B1.grow b2; have ck := HF.out.kd _ _ _ B2)
          | ((with_reducible refine at_ld 21 ?_); refine wpList_ldm _ rfl _ _ rfl g1 65 _ _ c rfl B2 HF.out.sc _ _ Tryz.underlying25 HF.out.lc ?_)
          | ((with_reducible refine at_ld 23 ?_); refine wpList_ldm _ rfl _ _ rfl g1 97 _ _ d rfl B2 HF.out.sd _ _ Tryz.underlying25 HF.out.ld ?_)
          | (go_at_call 50; refine (HT.out _).mono ?_; rintro e w3 ⟨g, c3, sp, rfl, hgl, hgg, hO, b3⟩))
        go_ret2
        have c2 := grow_trans b1 b2
        exact HX.out _ _ _ (hO.later c2.size) (grow_trans c2 b3)
      · have HT : Hid (∀ w', Calls Tryz.prog 51 #[] w' (TxtPost [0] 1 w')) := fun w' => emptyText_new w'
        have HX : Hid (∀ w' v sp, Own w.heap.size w' v [0] sp → Below w.heap.size w w' → EncPost k a b c d w (.returned (.tuple #[v, .int .i64 0])) w') := fun w' v sp ho hb => ⟨v, sp, by rw [hoE], by rw [txN, if_pos hok, if_neg hk1, if_neg hk2]; exact ho, hb⟩
        have q2 : (k == 2) = false := by simp [hk2]
        clear h hu hN hk1 hk2 hok hoE
        go_enter Tryz.func23, Tryz.ntmps23
        go_wp2_with (first
          | ((with_reducible refine at_bx ?_); refine wpList_bx _ rfl _ _ rfl _ rfl ?_; intro w1 g1 hg1 hl1 B1 b1)
          | ((with_reducible refine at_ld 1 ?_); refine wpList_lds _ rfl _ _ rfl g1 _ _ rfl B1 HU.out HF.out.ln ?_)
          | (go_at_call 48; refine (HC.out _).mono ?_; rintro e w2 ⟨rfl, b2⟩; have B2 := B1.grow b2; have ck := HF.out.kd _ _ _ B2)
          | (go_at_call 51; refine (HT.out _).mono ?_; rintro e w3 ⟨g, c3, sp, rfl, hgl, hgg, hO, b3⟩))
        go_ret2
        have c2 := grow_trans b1 b2
        exact HX.out _ _ _ (hO.later c2.size) (grow_trans c2 b3)
  · have hoE : okE k a b c d = 2 := by rw [okE, if_neg hok]
    rw [hoE] at HC
    have HX : Hid (∀ w', Below w.heap.size w w' → EncPost k a b c d w (.returned (.tuple #[.slice none 0 0, .int .i64 2])) w') := fun w' hb => ⟨_, [], by rw [hoE], by rw [txN, if_neg hok]; exact Own.nil _ _, hb⟩
    clear h hu hN hok hoE
    go_enter Tryz.func23, Tryz.ntmps23
    go_wp2_with (first
      | ((with_reducible refine at_bx ?_); refine wpList_bx _ rfl _ _ rfl _ rfl ?_; intro w1 g1 hg1 hl1 B1 b1)
      | ((with_reducible refine at_ld 1 ?_); refine wpList_lds _ rfl _ _ rfl g1 _ _ rfl B1 HU.out HF.out.ln ?_)
      | (go_at_call 48; refine (HC.out _).mono ?_; rintro e w2 ⟨rfl, b2⟩))
    go_ret2
    exact HX.out _ (grow_trans b1 b2)

theorem z32_hash : B z32 = B (List.replicate 32 0) := rfl

theorem built_hash : Tryz.prog.built 25 [] = some (B z32) := by kernel_rfl

set_option maxHeartbeats 2000000 in
theorem digest_any (k : Int) (a b c d : List Int) (w : World) (h : Nd k a b c d) (hL : Laid w) : Calls Tryz.prog 71 #[.agg (B (nd k a b c d))] w (DigNPost k a b c d w) := by
  obtain ⟨fs, hu⟩ := u_node
  have HU := hidden hu
  have HL := hidden hL
  have HF := hidden h.facts
  have HC : Hid (∀ w', Calls Tryz.prog 48 #[.agg (B (nd k a b c d))] w' fun e w'' => e = .returned (.int .i64 (okE k a b c d)) ∧ Below w'.heap.size w' w'') := fun w' => check_any k a b c d w' h
  obtain ⟨N, hN⟩ : ∃ N, N = nd k a b c d := ⟨_, rfl⟩
  rw [← hN] at HF HC ⊢
  by_cases hok : okN k a b c d = true
  · have hoE : okE k a b c d = 0 := by rw [okE, if_pos hok]
    rw [hoE] at HC
    obtain ⟨D, hD⟩ : ∃ D, D = dgN k a b c d := ⟨_, rfl⟩
    have HSZ : Hid ((Tryz.prog.info? 25).map (·.size) = some (B D).size) := by show _ = _; rw [B_size, hD, dgN, if_pos hok, dig_length]; exact sz_hash
    have HS2 : Hid ((B (List.replicate 32 0)).size = (B D).size) := by show _ = _; rw [B_size, B_size, hD, dgN, if_pos hok, dig_length]; rfl
    have HX : Hid (∀ w', Below w.heap.size w w' → DigNPost k a b c d w (.returned (.tuple #[.agg (B D), .int .i64 0])) w') := fun w' hb => ⟨by rw [hD, hoE], hb⟩
    by_cases hk1 : k = 1
    · have HT : Hid (∀ w', Laid w' → Calls Tryz.prog 39 #[.agg (B a), .agg (B b)] w' fun e w'' => e = .returned (.agg (B D)) ∧ Below w'.heap.size w' w'') := by
        intro w' hl
        rw [hD, dgN, if_pos hok, txN, if_pos hok, if_pos hk1]
        exact leaf_any a b w' h.la h.lb h.ba h.bb hl
      have q1 : (k == 1) = true := by simp [hk1]
      clear h hu hN hk1 hok hoE hD hL
      go_enter Tryz.func71, Tryz.ntmps71
      go_wp2_with (first
        | ((with_reducible refine at_bx ?_); refine wpList_bx _ rfl _ _ rfl _ rfl ?_; intro w1 g1 hg1 hl1 B1 b1)
        | ((with_reducible refine at_al ?_); refine wpList_al _ rfl _ rfl _ zero_hash ?_; intro w0 g0 hg0 hl0 B0 b0; have B1' := B1.grow b0; have c1 := grow_trans b1 b0)
        | ((with_reducible refine at_ld 1 ?_); refine wpList_lds _ rfl _ _ rfl g1 _ _ rfl B1' HU.out HF.out.ln ?_)
        | (go_at_call 48; refine (HC.out _).mono ?_; rintro e w2 ⟨rfl, b2⟩; have B2 := B1'.grow b2; have ck := HF.out.kd _ _ _ B2; have c2 := grow_trans c1 b2)
        | ((with_reducible refine at_ld 15 ?_); refine wpList_ldm _ rfl _ _ rfl g1 1 _ _ a rfl B2 HF.out.sa _ _ Tryz.underlying24 HF.out.la ?_)
        | ((with_reducible refine at_ld 17 ?_); refine wpList_ldm _ rfl _ _ rfl g1 33 _ _ b rfl B2 HF.out.sb _ _ Tryz.underlying25 HF.out.lb ?_)
        | (go_at_call 39; refine (HT.out _ (HL.out.grow c2)).mono ?_; rintro e w3 ⟨rfl, b3⟩; have B3 := (B0.grow b2).grow b3)
        | ((with_reducible refine at_st 2 ?_); refine wpList_sto _ rfl _ _ _ rfl g0 _ _ rfl rfl B3 HSZ.out HS2.out (B_one _) ?_; intro w4 B4 g4))
      exact bodyPost_ret (v := .tuple #[.agg (B D), .int .i64 0]) (results_row_tmp rfl _ _ g0 _ _ _ _ rfl rfl B4 Tryz.underlying25 HSZ.out) rfl (HX.out _ (below_row (grow_trans c2 b3) g4 (Nat.le_trans b1.size hg0)))
    · have q1 : (k == 1) = false := by simp [hk1]
      by_cases hk2 : k = 2
      · have HT : Hid (∀ w', Laid w' → Calls Tryz.prog 40 #[.agg (B c), .agg (B d)] w' fun e w'' => e = .returned (.agg (B D)) ∧ Below w'.heap.size w' w'') := by
          intro w' hl
          rw [hD, dgN, if_pos hok, txN, if_pos hok, if_neg hk1, if_pos hk2]
          exact inner_any c d w' h.lc h.ld h.bc h.bd hl
        have q2 : (k == 2) = true := by simp [hk2]
        clear h hu hN hk1 hk2 hok hoE hD hL
        go_enter Tryz.func71, Tryz.ntmps71
        go_wp2_with (first
          | ((with_reducible refine at_bx ?_); refine wpList_bx _ rfl _ _ rfl _ rfl ?_; intro w1 g1 hg1 hl1 B1 b1)
          | ((with_reducible refine at_al ?_); refine wpList_al _ rfl _ rfl _ zero_hash ?_; intro w0 g0 hg0 hl0 B0 b0; have B1' := B1.grow b0; have c1 := grow_trans b1 b0)
          | ((with_reducible refine at_ld 1 ?_); refine wpList_lds _ rfl _ _ rfl g1 _ _ rfl B1' HU.out HF.out.ln ?_)
          | (go_at_call 48; refine (HC.out _).mono ?_; rintro e w2 ⟨rfl, b2⟩; have B2 := B1'.grow b2; have ck := HF.out.kd _ _ _ B2; have c2 := grow_trans c1 b2)
          | ((with_reducible refine at_ld 22 ?_); refine wpList_ldm _ rfl _ _ rfl g1 65 _ _ c rfl B2 HF.out.sc _ _ Tryz.underlying25 HF.out.lc ?_)
          | ((with_reducible refine at_ld 24 ?_); refine wpList_ldm _ rfl _ _ rfl g1 97 _ _ d rfl B2 HF.out.sd _ _ Tryz.underlying25 HF.out.ld ?_)
          | (go_at_call 40; refine (HT.out _ (HL.out.grow c2)).mono ?_; rintro e w3 ⟨rfl, b3⟩; have B3 := (B0.grow b2).grow b3)
          | ((with_reducible refine at_st 2 ?_); refine wpList_sto _ rfl _ _ _ rfl g0 _ _ rfl rfl B3 HSZ.out HS2.out (B_one _) ?_; intro w4 B4 g4))
        exact bodyPost_ret (v := .tuple #[.agg (B D), .int .i64 0]) (results_row_tmp rfl _ _ g0 _ _ _ _ rfl rfl B4 Tryz.underlying25 HSZ.out) rfl (HX.out _ (below_row (grow_trans c2 b3) g4 (Nat.le_trans b1.size hg0)))
      · have HT : Hid (∀ w', Laid w' → Calls Tryz.prog 38 #[] w' fun e w'' => e = .returned (.agg (B D)) ∧ Below w'.heap.size w' w'') := by
          intro w' hl
          rw [hD, dgN, if_pos hok, txN, if_pos hok, if_neg hk1, if_neg hk2]
          exact empty_any w' hl
        have q2 : (k == 2) = false := by simp [hk2]
        clear h hu hN hk1 hk2 hok hoE hD hL
        go_enter Tryz.func71, Tryz.ntmps71
        go_wp2_with (first
          | ((with_reducible refine at_bx ?_); refine wpList_bx _ rfl _ _ rfl _ rfl ?_; intro w1 g1 hg1 hl1 B1 b1)
          | ((with_reducible refine at_al ?_); refine wpList_al _ rfl _ rfl _ zero_hash ?_; intro w0 g0 hg0 hl0 B0 b0; have B1' := B1.grow b0; have c1 := grow_trans b1 b0)
          | ((with_reducible refine at_ld 1 ?_); refine wpList_lds _ rfl _ _ rfl g1 _ _ rfl B1' HU.out HF.out.ln ?_)
          | (go_at_call 48; refine (HC.out _).mono ?_; rintro e w2 ⟨rfl, b2⟩; have B2 := B1'.grow b2; have ck := HF.out.kd _ _ _ B2; have c2 := grow_trans c1 b2)
          | (go_at_call 38; refine (HT.out _ (HL.out.grow c2)).mono ?_; rintro e w3 ⟨rfl, b3⟩; have B3 := (B0.grow b2).grow b3)
          | ((with_reducible refine at_st 2 ?_); refine wpList_sto _ rfl _ _ _ rfl g0 _ _ rfl rfl B3 HSZ.out HS2.out (B_one _) ?_; intro w4 B4 g4))
        exact bodyPost_ret (v := .tuple #[.agg (B D), .int .i64 0]) (results_row_tmp rfl _ _ g0 _ _ _ _ rfl rfl B4 Tryz.underlying25 HSZ.out) rfl (HX.out _ (below_row (grow_trans c2 b3) g4 (Nat.le_trans b1.size hg0)))
  · have hoE : okE k a b c d = 2 := by rw [okE, if_neg hok]
    rw [hoE] at HC
    have HX : Hid (∀ w', Below w.heap.size w w' → DigNPost k a b c d w (.returned (.tuple #[.agg (B z32), .int .i64 2])) w') := fun w' hb => ⟨by rw [hoE, dgN, if_neg hok], hb⟩
    clear h hu hN hok hoE hL
    go_enter Tryz.func71, Tryz.ntmps71
    go_wp2_with (first
      | ((with_reducible refine at_bx ?_); refine wpList_bx _ rfl _ _ rfl _ rfl ?_; intro w1 g1 hg1 hl1 B1 b1)
      | ((with_reducible refine at_al ?_); refine wpList_al _ rfl _ rfl _ zero_hash ?_; intro w0 g0 hg0 hl0 B0 b0; have B1' := B1.grow b0; have c1 := grow_trans b1 b0)
      | ((with_reducible refine at_ld 1 ?_); refine wpList_lds _ rfl _ _ rfl g1 _ _ rfl B1' HU.out HF.out.ln ?_)
      | (go_at_call 48; refine (HC.out _).mono ?_; rintro e w2 ⟨rfl, b2⟩; have B2 := B0.grow b2; have c2 := grow_trans c1 b2)
      | ((with_reducible refine at_bd ?_); refine wpList_bld _ rfl _ _ rfl _ built_hash ?_)
      | ((with_reducible refine at_st 2 ?_); refine wpList_sto _ rfl _ _ _ rfl g0 _ (B z32) rfl rfl B2 (by kernel_rfl) rfl (B_one _) ?_; intro w4 B4 g4))
    exact bodyPost_ret (v := .tuple #[.agg (B z32), .int .i64 2]) (results_row_tmp rfl _ _ g0 _ _ _ _ rfl rfl B4 Tryz.underlying25 (by kernel_rfl)) rfl (HX.out _ (below_row c2 g4 (Nat.le_trans b1.size hg0)))

end Go.Proofs.YtpihigcnoifcfaaGreatDoor
