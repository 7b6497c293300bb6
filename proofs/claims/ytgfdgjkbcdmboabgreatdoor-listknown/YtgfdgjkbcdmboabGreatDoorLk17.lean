/- tag.text and the document's Text, as contracts: a byte and the parts behind it, one behind the other, in new memory. -/
import Derived.Test.YtgfdgjkbcdmboabGreatDoorLk16
import Derived.Test.YtgfdgjkbcdmboabGreatDoorLk04
import Derived.Deep.RegionHeld2
namespace Go.Proofs.YtgfdgjkbcdmboabGreatDoor
set_option maxRecDepth 20000
open Go.RowKit

/-- A new slice of one byte. -/
theorem own_one (base : Nat) (w : World) (z : Int) (h0 : 0 ≤ z) (h1 : z ≤ 255) (hb : base ≤ w.heap.size) : Own base (w.alloc (.cells #[.int .u8 z] 5)) (.slice (some ⟨w.heap.size, 0, none⟩) 1 1) [z] [] :=
  ⟨by intro y hy; simp at hy; subst hy; exact ⟨h0, h1⟩, Bytes.nil, by simp [maxLen], .inr ⟨w.heap.size, [], hb, rfl, heap_alloc_new w _⟩⟩

theorem text_le (ps : List (List Int)) (k : Nat) (t : Int) (h : k < ps.length) (hl : 1 + ps.flatten.length ≤ 140737488355328) : (t :: (ps.take k).flatten).length + (ps.getD k []).length ≤ 140737488355328 := by
  have h1 := lens_succ ps k h
  have h2 := lens_le ps (k + 1)
  unfold lens at *
  rw [List.length_cons]
  omega

end Go.Proofs.YtgfdgjkbcdmboabGreatDoor

/- tag's EmptyText, ValueText, LeafText, InnerText and the document's texts, as contracts. -/
namespace Go.Proofs.YtgfdgjkbcdmboabGreatDoor
set_option maxRecDepth 20000
open Go.RowKit

theorem parts_nil (w : World) : Parts w (.slice none 0 0) [] := ⟨none, 0, fun _ => .slice none 0 0, rfl, by simp, by simp, fun h => by simp at h, fun i hi => by simp at hi⟩

theorem parts_one (w : World) (v : Value) (zs : List Int) (h : Reads w v zs) : Parts (w.alloc (.cells #[v] 64)) (.slice (some ⟨w.heap.size, 0, none⟩) 1 1) [zs] := by
  refine ⟨_, 1, fun _ => v, rfl, Nat.le_refl _, by simp, fun _ => ⟨w.heap.size, 0, rfl, fun i hi => ?_⟩, fun i hi => ?_⟩
  · have hr : (w.alloc (.cells #[v] 64)).heap[w.heap.size]? = some (.cells #[v] 64 (0, 0)) := heap_alloc_new w _
    rw [cell_of_row _ _ _ _ _ _ hr]
    match i, hi with
    | 0, _ => rfl
  · match i, hi with
    | 0, _ => exact h.grow (grow_alloc w _)

theorem parts_two (w : World) (v u : Value) (zs ys : List Int) (h : Reads w v zs) (k : Reads w u ys) : Parts (w.alloc (.cells #[v, u] 64)) (.slice (some ⟨w.heap.size, 0, none⟩) 2 2) [zs, ys] := by
  refine ⟨_, 2, fun i => if i = 0 then v else u, rfl, Nat.le_refl _, by simp, fun _ => ⟨w.heap.size, 0, rfl, fun i hi => ?_⟩, fun i hi => ?_⟩
  · have hr : (w.alloc (.cells #[v, u] 64)).heap[w.heap.size]? = some (.cells #[v, u] 64 (0, 0)) := heap_alloc_new w _
    rw [cell_of_row _ _ _ _ _ _ hr]
    match i, hi with
    | 0, _ => rfl
    | 1, _ => rfl
  · match i, hi with
    | 0, _ => exact h.grow (grow_alloc w _)
    | 1, _ => exact k.grow (grow_alloc w _)

theorem Blk.readsN {w : World} {g : Nat} {t : TypeId} {zs : List Int} (h : Blk w g t (B zs)) (hb : Bytes zs) (n : Nat) (hn : zs.length = n) : Reads w (.slice (some ⟨g, 0, none⟩) n n) zs := by
  subst hn
  exact ⟨_, _, rfl, Nat.le_refl _, fun h => by simp at h, hb, fun _ => ⟨g, 0, rfl, fun i hi => by rw [Nat.zero_add]; exact h.bcell i hi⟩⟩

end Go.Proofs.YtgfdgjkbcdmboabGreatDoor

/- tag.Of, as a contract: the digest of the byte and of the parts behind it. -/
namespace Go.Proofs.YtgfdgjkbcdmboabGreatDoor
set_option maxRecDepth 20000
open Go.RowKit

/-- What a call leaves that tells the digest of a text. -/
def DigPost (l : List Int) (w : World) (e : Ending) (w' : World) : Prop := e = .returned (.agg (B (dig l))) ∧ Below w.heap.size w w'

set_option maxHeartbeats 2000000 in
set_option maxRecDepth 10000 in
theorem of_any (t : Int) (v : Value) (ps : List (List Int)) (w : World) (h0 : 0 ≤ t) (h1 : t ≤ 255) (h : Parts w v ps) (hL : Laid w) (hl : 1 + ps.flatten.length ≤ 576460752303423488) :
    Calls Tryz.prog 148 #[.int .u8 t, v] w (DigPost (t :: ps.flatten) w) := by
  obtain ⟨a, cap, V, rfl, hcap, hn, hcell, hr⟩ := h
  have HC := hidden hcell
  have HR := hidden hr
  have HL := hidden hL
  have HN := hidden hn
  have HLN := hidden hl
  have hp0 : (0 : Int) ≤ (ps.length : Int) := by omega
  clear hcell hr hL hl
  go_enter Tryz.func148, Tryz.ntmps148
  go_wp2_with (refine wpList_al _ rfl _ rfl _ zero_hash ?_; intro w1 g1 hg1 hl1 B1 b1)
  have L1 := HL.out.grow b1
  refine (new_any w1 L1).mono ?_
  rintro e w2 ⟨g, rfl, hg, hgl, S2, b2⟩
  have L2 := L1.grow b2
  have T2 : Txt w2 g [] := ⟨_, S2, rfl, Bytes.nil⟩
  have c2 := b1.trans (b2.mono b1.size)
  have hgw : w.heap.size ≤ g := Nat.le_trans b1.size hg
  have hg2 : 3 ≤ g := Nat.le_trans HL.out.1 hgw
  have bA := grow_alloc w2 (.cells #[.int .u8 t] 5)
  have cA := grow_trans c2 bA
  have HW := hidden (write_any g (.slice (some ⟨w2.heap.size, 0, none⟩) 1 1) [] [t] (w2.alloc (.cells #[.int .u8 t] 5)) (T2.grow bA) (one_reads w2 t h0 h1) (fun _ e => by
    have e' : some w2.heap.size = some g := e
    injection e' with e'
    omega) (L2.grow bA) hg2 (by simp))
  have BA := (B1.grow b2).grow bA
  clear S2 T2 L1 L2 B1
  go_wp2_with (go_at_call 169; refine HW.out.mono ?_; rintro e w3 ⟨rfl, T3, L3, g3⟩)
  have HT3 : Hid (Txt w3 g (t :: (ps.take 0).flatten)) := T3
  have HL3 := hidden L3
  have HG3 := hidden g3
  have HBA := hidden BA
  obtain ⟨wA, hwA⟩ : ∃ x, x = w2.alloc (.cells #[.int .u8 t] 5) := ⟨_, rfl⟩
  rw [← hwA] at HG3 HBA cA
  clear T3 L3 g3 BA HW bA hwA
  go_loopw [15] (fun i wr => ∃ k : Nat, k ≤ ps.length ∧ i = .int .i64 k ∧ Hid (Txt wr g (t :: (ps.take k).flatten)) ∧ Hid (Laid wr) ∧ Hid (wA.grownBy wr (some g))) (fun i _ => ps.length - (intOf i).toNat)
  case atStart => exact ⟨0, by omega, rfl, HT3, HL3, HG3⟩
  case round =>
    clear HT3 HL3 HG3
    obtain ⟨k, hk, rfl, hT, hLr, hG⟩ := hrel
    by_cases hlt : k < ps.length
    · obtain ⟨b, off, rfl, hcc⟩ := HC.out (by omega)
      have hx := hcc k hlt
      have hbw := block_lt_of_cell hx
      have hx1 := (cA.cell (p := ⟨b, off + k, none⟩) hbw).trans hx
      have hx2 : wr.cell? ⟨b, off + k, none⟩ = some (V k) := hG.out.cell hx1 (fun e => by
        injection e with e
        have hbw' : b < w.heap.size := hbw
        have e' : b = g := e
        omega)
      have hap := (HR.out k hlt).apart hgw
      have hrk := ((HR.out k hlt).grow cA).kept hG.out hap
      have HWK := hidden (write_any g (V k) (t :: (ps.take k).flatten) (ps.getD k []) wr hT.out hrk hap hLr.out hg2 (by
        have h2 := lens_succ ps k hlt
        have h3 := lens_le ps (k + 1)
        have h4 := HLN.out
        unfold lens at h2 h3
        rw [List.length_cons]
        omega))
      have HF : Hid ((t :: (ps.take (k + 1)).flatten) = (t :: (ps.take k).flatten) ++ ps.getD k []) := by
        show _ = _
        rw [flat_succ ps k hlt]
        rfl
      have k0 : (0 : Int) ≤ (k : Int) := by omega
      have k1 : (k : Int) < (ps.length : Int) := by omega
      clear hx hcc hx1 hap hrk hbw
      generalize V k = vk at *
      go_wp2_with (go_at_call 169; refine HWK.out.mono ?_; rintro e w4 ⟨rfl, T4, L4, g4⟩)
      refine ⟨⟨k + 1, by omega, by go_num, ?_, L4, grown_trans hG.out g4⟩, by simp [intOf]; omega⟩
      show Txt _ _ _
      rw [HF.out]
      exact T4
    · have hfl : (ps.take k).flatten = ps.flatten := by rw [List.take_of_length_le (by omega)]
      rw [hfl] at hT
      have c5 := below_row cA hG.out hgw
      have B5 := HBA.out.kept hG.out (show g1 ≠ g by omega)
      have HSU := hidden (sum_at g (t :: ps.flatten) wr hT.out hLr.out (by have := HLN.out; rw [List.length_cons]; omega))
      have HSZ : Hid ((B (dig (t :: ps.flatten))).size = 32) := by rw [B_size]; exact dig_length _
      obtain ⟨D, hD⟩ : ∃ D, D = dig (t :: ps.flatten) := ⟨_, rfl⟩
      rw [← hD] at HSU HSZ
      have HD := hidden hD
      clear hD
      go_wp2_with (first | (go_at_call 170; refine HSU.out.mono ?_; rintro e w6 ⟨rfl, b6⟩; have B6 := B5.grow b6) | (refine wpList_sto _ rfl _ _ _ rfl g1 _ _ rfl rfl B6 (by rw [HSZ.out]; exact size_hash) (by rw [HSZ.out, B_size]; simp) (B_one _) ?_; intro w7 B7 g7))
      exact bodyPost_ret (v := .agg (B D)) (results_cell_row rfl _ _ g1 _ _ _ _ rfl B7 Tryz.underlying72 rfl (by rw [HSZ.out]; exact size_hash)) rfl ⟨by rw [HD.out], below_row (grow_trans c5 b6) g7 hg1⟩

theorem Laid.alloc {w : World} (h : Laid w) (o : Obj) : Laid (w.alloc o) := h.grow (grow_alloc w o)

set_option maxHeartbeats 1000000 in
theorem empty_any (w : World) (hL : Laid w) : Calls Tryz.prog 123 #[] w (DigPost [0] w) := by
  have HL := hidden hL
  have HSZ : Hid ((B (dig [0])).size = 32) := by rw [B_size]; exact dig_length _
  obtain ⟨D, hD⟩ : ∃ D, D = dig [0] := ⟨_, rfl⟩
  have HD := hidden hD
  have H : Hid (∀ w', Laid w' → Calls Tryz.prog 148 #[.int .u8 0, .slice none 0 0] w' fun e w'' => e = .returned (.agg (B D)) ∧ Below w'.heap.size w' w'') := by
    intro w' hw'
    rw [hD]
    exact of_any 0 _ [] w' (by omega) (by omega) (parts_nil w') hw' (by simp)
  rw [← hD] at HSZ
  clear hL hD
  go_enter Tryz.func123, Tryz.ntmps123
  go_wp2_with (first | (refine wpList_al _ rfl _ rfl _ zero_hash ?_; intro w1 g1 hg1 hl1 B1 b1) | (go_at_call 148; refine (H.out _ (HL.out.grow b1)).mono ?_; rintro e w2 ⟨rfl, b2⟩; have B2 := B1.grow b2) | (refine wpList_sto _ rfl _ _ _ rfl g1 _ _ rfl rfl B2 (by rw [HSZ.out]; exact size_hash) (by rw [HSZ.out, B_size]; simp) (B_one _) ?_; intro w3 B3 g3))
  exact bodyPost_ret (v := .agg (B D)) (results_cell_row rfl _ _ g1 _ _ _ _ rfl B3 Tryz.underlying72 rfl (by rw [HSZ.out]; exact size_hash)) rfl ⟨by rw [HD.out], below_row (grow_trans b1 b2) g3 hg1⟩

set_option maxHeartbeats 1000000 in
theorem value_any (v : Value) (zs : List Int) (w : World) (h : Reads w v zs) (hL : Laid w) (hl : zs.length < 576460752303423488) : Calls Tryz.prog 119 #[v] w (DigPost (3 :: zs) w) := by
  have HL := hidden hL
  have HSZ : Hid ((B (dig (3 :: zs))).size = 32) := by rw [B_size]; exact dig_length _
  obtain ⟨D, hD⟩ : ∃ D, D = dig (3 :: zs) := ⟨_, rfl⟩
  have HD := hidden hD
  have H : Hid (∀ w', Laid w' → Below w.heap.size w w' → Calls Tryz.prog 148 #[.int .u8 3, .slice (some ⟨w'.heap.size, 0, none⟩) 1 1] (w'.alloc (.cells #[v] 64)) fun e w'' => e = .returned (.agg (B D)) ∧ Below w'.heap.size w' w'') := by
    intro w' hw' hb
    have h1 := of_any 3 _ [zs] _ (by omega) (by omega) (parts_one w' v zs (h.grow hb)) (hw'.alloc _) (by simp; omega)
    rw [show [zs].flatten = zs by simp] at h1
    rw [hD]
    exact h1.mono fun e w'' ⟨h2, h3⟩ => ⟨h2, grow_trans (grow_alloc _ _) h3⟩
  rw [← hD] at HSZ
  obtain ⟨va, vc, rfl, _, _, _, _⟩ := h
  clear hL hD
  go_enter Tryz.func119, Tryz.ntmps119
  go_wp2_with (first | (refine wpList_al _ rfl _ rfl _ zero_hash ?_; intro w1 g1 hg1 hl1 B1 b1) | (go_at_call 148; refine (H.out w1 (HL.out.grow b1) b1).mono ?_; rintro e w2 ⟨rfl, b2⟩; have B2 := B1.grow b2) | (refine wpList_sto _ rfl _ _ _ rfl g1 _ _ rfl rfl B2 (by rw [HSZ.out]; exact size_hash) (by rw [HSZ.out, B_size]; simp) (B_one _) ?_; intro w3 B3 g3))
  exact bodyPost_ret (v := .agg (B D)) (results_cell_row rfl _ _ g1 _ _ _ _ rfl B3 Tryz.underlying72 rfl (by rw [HSZ.out]; exact size_hash)) rfl ⟨by rw [HD.out], below_row (grow_trans b1 b2) g3 hg1⟩

set_option maxHeartbeats 2000000 in
theorem leaf_any (K A : List Int) (w : World) (hk : K.length = 32) (ha : A.length = 32) (bk : Bytes K) (ba : Bytes A) (hL : Laid w) : Calls Tryz.prog 124 #[.agg (B K), .agg (B A)] w (DigPost (1 :: (K ++ A)) w) := by
  have HL := hidden hL
  have HSZ : Hid ((B (dig (1 :: (K ++ A)))).size = 32) := by rw [B_size]; exact dig_length _
  obtain ⟨D, hD⟩ : ∃ D, D = dig (1 :: (K ++ A)) := ⟨_, rfl⟩
  have HD := hidden hD
  have H : Hid (∀ w' g1 g2, Laid w' → Blk w' g1 24 (B K) → Blk w' g2 72 (B A) → Calls Tryz.prog 148 #[.int .u8 1, .slice (some ⟨w'.heap.size, 0, none⟩) 2 2] (w'.alloc (.cells #[.slice (some ⟨g1, 0, none⟩) 32 32, .slice (some ⟨g2, 0, none⟩) 32 32] 64)) fun e w'' => e = .returned (.agg (B D)) ∧ Below w'.heap.size w' w'') := by
    intro w' g1 g2 hw' B1 B2
    have h1 := of_any 1 _ [K, A] _ (by omega) (by omega) (parts_two w' _ _ K A (B1.readsN bk 32 hk) (B2.readsN ba 32 ha)) (hw'.alloc _) (by simp [hk, ha])
    rw [show [K, A].flatten = K ++ A by simp] at h1
    rw [hD]
    exact h1.mono fun e w'' ⟨h2, h3⟩ => ⟨h2, grow_trans (grow_alloc _ _) h3⟩
  rw [← hD] at HSZ
  clear bk ba hk ha hL hD
  go_enter Tryz.func124, Tryz.ntmps124
  go_wp2_with (first | (refine wpList_al _ rfl _ rfl _ zero_hash ?_; intro w3 g3 hg3 hl3 B3 b3) | (have hx := hl1; clear hx; refine wpList_bx _ rfl _ _ rfl _ rfl ?_; intro w2 g2 hg2 hl2 B2 b2) | (refine wpList_bx _ rfl _ _ rfl _ rfl ?_; intro w1 g1 hg1 hl1 B1 b1))
  have c2 := b1.trans (b2.mono b1.size)
  have c3 := c2.trans (b3.mono c2.size)
  have HB1 := hidden ((B1.grow b2).grow b3)
  have HB2 := hidden (B2.grow b3)
  have HL3 := hidden (HL.out.grow c3)
  have HB3 := hidden B3
  clear B1 B2 B3
  refine wp_region_any (by kernel_rfl) ?_
  change wpAny _ _ _ _ _ _ _ (World.drew _)
  refine wpAny_take (i := 0) (v := .slice (some ⟨g1, 0, none⟩) 32 32) rfl (by kernel_rfl) (by kernel_rfl) (by kernel_rfl) (fun _ _ _ h => h) (Or.inl ⟨by rfl, fun w => by go_simp⟩) ?_
  simp only [Act.put, List.getElem_toArray, List.getElem_cons_zero, List.setIfInBounds_toArray, List.set_cons_zero, List.set_cons_succ]
  refine wpAny_take (i := 1) (v := .slice (some ⟨g2, 0, none⟩) 32 32) rfl (by kernel_rfl) (by kernel_rfl) (by kernel_rfl) (fun _ _ _ h => h) (Or.inl ⟨by rfl, fun w => by go_simp⟩) ?_
  simp only [Act.put, List.getElem_toArray, List.getElem_cons_zero, List.getElem_cons_succ, List.setIfInBounds_toArray, List.set_cons_zero, List.set_cons_succ]
  refine wpAny_ready (rs := [2]) (by kernel_rfl) (by simp) ?_
  refine AllReady.cons rfl (fun K1 hK => ?_) AllReady.nil
  go_simp
  refine hK _ _ ?_
  clear hK K1
  refine wpAny_ready (rs := [3]) (by kernel_rfl) (by simp) ?_
  refine AllReady.cons rfl (fun K1 hK => ?_) AllReady.nil
  go_simp
  refine (H.out w3.drew g1 g2 (HL3.out.grow (Below.refl _ _).drew) HB1.out HB2.out).mono ?_
  rintro e w4 ⟨rfl, b4⟩
  refine hK _ _ ?_
  clear hK K1
  have c4 : Below w.heap.size w w4 := c3.trans ((grow_trans (Below.refl _ _).drew b4).mono c3.size)
  have B4 := HB3.out.grow (grow_trans (Below.refl _ _).drew b4)
  refine wpAny_ready (rs := [4]) (by kernel_rfl) (by simp) ?_
  refine AllReady.cons rfl (fun K1 hK => ?_) AllReady.nil
  refine step_sto _ rfl _ _ _ rfl g3 _ (B D) rfl rfl B4 (by rw [HSZ.out]; exact size_hash) (by rw [HSZ.out, B_size]; simp) (B_one _) ?_
  intro w5 B5 g5
  refine hK _ _ ?_
  clear hK K1
  refine wpAny_done (by kernel_rfl) ?_ _
  simp only [Act.put, List.getElem_toArray, List.getElem_cons_zero, List.getElem_cons_succ]
  go_wp2_with fail
  exact bodyPost_ret (v := .agg (B D)) (results_cell_row rfl _ _ g3 _ _ _ _ rfl B5 Tryz.underlying72 rfl (by rw [HSZ.out]; exact size_hash)) rfl ⟨by rw [HD.out], below_row c4 g5 (Nat.le_trans c2.size hg3)⟩

set_option maxHeartbeats 2000000 in
theorem inner_any (K A : List Int) (w : World) (hk : K.length = 32) (ha : A.length = 32) (bk : Bytes K) (ba : Bytes A) (hL : Laid w) : Calls Tryz.prog 126 #[.agg (B K), .agg (B A)] w (DigPost (2 :: (K ++ A)) w) := by
  have HL := hidden hL
  have HSZ : Hid ((B (dig (2 :: (K ++ A)))).size = 32) := by rw [B_size]; exact dig_length _
  obtain ⟨D, hD⟩ : ∃ D, D = dig (2 :: (K ++ A)) := ⟨_, rfl⟩
  have HD := hidden hD
  have H : Hid (∀ w' g1 g2, Laid w' → Blk w' g1 72 (B K) → Blk w' g2 72 (B A) → Calls Tryz.prog 148 #[.int .u8 2, .slice (some ⟨w'.heap.size, 0, none⟩) 2 2] (w'.alloc (.cells #[.slice (some ⟨g1, 0, none⟩) 32 32, .slice (some ⟨g2, 0, none⟩) 32 32] 64)) fun e w'' => e = .returned (.agg (B D)) ∧ Below w'.heap.size w' w'') := by
    intro w' g1 g2 hw' B1 B2
    have h1 := of_any 2 _ [K, A] _ (by omega) (by omega) (parts_two w' _ _ K A (B1.readsN bk 32 hk) (B2.readsN ba 32 ha)) (hw'.alloc _) (by simp [hk, ha])
    rw [show [K, A].flatten = K ++ A by simp] at h1
    rw [hD]
    exact h1.mono fun e w'' ⟨h2, h3⟩ => ⟨h2, grow_trans (grow_alloc _ _) h3⟩
  rw [← hD] at HSZ
  clear bk ba hk ha hL hD
  go_enter Tryz.func126, Tryz.ntmps126
  go_wp2_with (first | (refine wpList_al _ rfl _ rfl _ zero_hash ?_; intro w3 g3 hg3 hl3 B3 b3) | (have hx := hl1; clear hx; refine wpList_bx _ rfl _ _ rfl _ rfl ?_; intro w2 g2 hg2 hl2 B2 b2) | (refine wpList_bx _ rfl _ _ rfl _ rfl ?_; intro w1 g1 hg1 hl1 B1 b1))
  have c2 := b1.trans (b2.mono b1.size)
  have c3 := c2.trans (b3.mono c2.size)
  have HB1 := hidden ((B1.grow b2).grow b3)
  have HB2 := hidden (B2.grow b3)
  have HL3 := hidden (HL.out.grow c3)
  have HB3 := hidden B3
  clear B1 B2 B3
  refine wp_region_any (by kernel_rfl) ?_
  change wpAny _ _ _ _ _ _ _ (World.drew _)
  refine wpAny_take (i := 0) (v := .slice (some ⟨g1, 0, none⟩) 32 32) rfl (by kernel_rfl) (by kernel_rfl) (by kernel_rfl) (fun _ _ _ h => h) (Or.inl ⟨by rfl, fun w => by go_simp⟩) ?_
  simp only [Act.put, List.getElem_toArray, List.getElem_cons_zero, List.setIfInBounds_toArray, List.set_cons_zero, List.set_cons_succ]
  refine wpAny_take (i := 1) (v := .slice (some ⟨g2, 0, none⟩) 32 32) rfl (by kernel_rfl) (by kernel_rfl) (by kernel_rfl) (fun _ _ _ h => h) (Or.inl ⟨by rfl, fun w => by go_simp⟩) ?_
  simp only [Act.put, List.getElem_toArray, List.getElem_cons_zero, List.getElem_cons_succ, List.setIfInBounds_toArray, List.set_cons_zero, List.set_cons_succ]
  refine wpAny_ready (rs := [2]) (by kernel_rfl) (by simp) ?_
  refine AllReady.cons rfl (fun K1 hK => ?_) AllReady.nil
  go_simp
  refine hK _ _ ?_
  clear hK K1
  refine wpAny_ready (rs := [3]) (by kernel_rfl) (by simp) ?_
  refine AllReady.cons rfl (fun K1 hK => ?_) AllReady.nil
  go_simp
  refine (H.out w3.drew g1 g2 (HL3.out.grow (Below.refl _ _).drew) HB1.out HB2.out).mono ?_
  rintro e w4 ⟨rfl, b4⟩
  refine hK _ _ ?_
  clear hK K1
  have c4 : Below w.heap.size w w4 := c3.trans ((grow_trans (Below.refl _ _).drew b4).mono c3.size)
  have B4 := HB3.out.grow (grow_trans (Below.refl _ _).drew b4)
  refine wpAny_ready (rs := [4]) (by kernel_rfl) (by simp) ?_
  refine AllReady.cons rfl (fun K1 hK => ?_) AllReady.nil
  refine step_sto _ rfl _ _ _ rfl g3 _ (B D) rfl rfl B4 (by rw [HSZ.out]; exact size_hash) (by rw [HSZ.out, B_size]; simp) (B_one _) ?_
  intro w5 B5 g5
  refine hK _ _ ?_
  clear hK K1
  refine wpAny_done (by kernel_rfl) ?_ _
  simp only [Act.put, List.getElem_toArray, List.getElem_cons_zero, List.getElem_cons_succ]
  go_wp2_with fail
  exact bodyPost_ret (v := .agg (B D)) (results_cell_row rfl _ _ g3 _ _ _ _ rfl B5 Tryz.underlying72 rfl (by rw [HSZ.out]; exact size_hash)) rfl ⟨by rw [HD.out], below_row c4 g5 (Nat.le_trans c2.size hg3)⟩

end Go.Proofs.YtgfdgjkbcdmboabGreatDoor
