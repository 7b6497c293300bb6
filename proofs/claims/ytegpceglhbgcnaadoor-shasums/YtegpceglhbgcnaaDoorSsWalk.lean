/- ShaSums' walk: the law returns true at every text and every block, and nothing that was in memory turns. -/
import Derived.Test.YtegpceglhbgcnaaDoorRefSum
import Derived.Test.YtegpceglhbgcnaaDoorKit2
namespace Go.Proofs.YtegpceglhbgcnaaDoor
open Go.RowKit

set_option maxHeartbeats 4000000 in
set_option maxRecDepth 10000 in
theorem shaSums_walk (v : Value) (bs h blk : List Int) (w : World) (hr : Reads w v bs) (hlen : bs.length ≤ 140737488355328 - 4096) (hh : h.length = 8) (hb : blk.length = 64) (hby : Bytes blk) (hL : Laid w) :
    Calls Tryd.prog 3 #[v, .agg (U h), .agg (B blk)] w fun e w' => e = .returned (.bool true) ∧ Below w.heap.size w w' := by
  have HR := hidden hr
  have HL := hidden hL
  obtain ⟨x0, x1, x2, x3, x4, x5, x6, x7, hvv⟩ := eight h hh
  have HV : Hid (h = [x0, x1, x2, x3, x4, x5, x6, x7]) := hvv
  have HH := hidden hh
  have HB := hidden hb
  have HBY := hidden hby
  clear hr hL hvv hh hb hby
  go_enter Tryd.func3, Tryd.ntmps3
  go_wp2_with (first | (have hx := hl1; clear hx; refine wpList_bx _ rfl _ _ rfl _ rfl ?_; intro w2 g2 hg2 hl2 B2 b2) | (refine wpList_bx _ rfl _ _ rfl _ rfl ?_; intro w1 g1 hg1 hl1 B1 b1))
  have c2 := b1.trans (b2.mono b1.size)
  have R2 := HR.out.grow c2
  refine (lent_any v bs w2 R2 (by omega)).mono ?_
  rintro e w3 ⟨rfl, row3, b3, s3⟩
  have c3 := c2.trans (b3.mono c2.size)
  have L3 := HL.out.grow c3
  have hbb : Bytes bs := by
    obtain ⟨_, _, _, _, _, hb, _⟩ := R2
    exact hb
  have hRp : Reads w3 (.slice (some ⟨w2.heap.size, 0, none⟩) bs.length (bs.length + 5)) bs := by
    refine ⟨_, _, rfl, by omega, fun h => by simp at h, hbb, fun _ => ⟨w2.heap.size, 0, rfl, fun i hi => ?_⟩⟩
    rw [Nat.zero_add, row3.cell i (by simp; omega)]
    simp [List.getD, List.getElem?_append_left hi]
  go_wp2_with fail
  refine (shaSum_any _ bs w3 hRp L3 (by omega)).mono ?_
  rintro e w4 ⟨rfl, b4⟩
  have c4 := c3.trans (b4.mono c3.size)
  go_wp2_with fail
  refine (refSum_any v bs w4 (HR.out.grow c4) hlen).mono ?_
  rintro e w5 ⟨rfl, b5⟩
  have c5 := c4.trans (b5.mono c4.size)
  have HQ := hash_same (dig bs) (dig_length bs)
  have b35 := grow_trans b4 b5
  have row5 : Row w5 w2.heap.size (bs ++ marks bs.length) := row3.of_block (b35.block _ row3.lt)
  generalize dig bs = D at *
  go_wp2_with (go_at_call 10; refine (kept_true w2.heap.size v bs w5 row5 (HR.out.grow c5) (by omega)).mono ?_; rintro e w6 ⟨rfl, b6⟩)
  have c6 := c5.trans (b6.mono c5.size)
  have L6 := HL.out.grow c6
  have b26 := grow_trans b3 (grow_trans b35 b6)
  have HB1 := hidden ((B1.grow b2).grow b26)
  have HB2 := hidden (B2.grow b26)
  have HS : Hid (∀ w', Below w6.heap.size w6 w' → w'.rangeAt g2 0 (B blk).toList ∧ w'.cell? ⟨g1, 0, none⟩ = some (.int .u32 x0) ∧ w'.cell? ⟨g1, 1, none⟩ = some (.int .u32 x1) ∧ w'.cell? ⟨g1, 2, none⟩ = some (.int .u32 x2) ∧ w'.cell? ⟨g1, 3, none⟩ = some (.int .u32 x3) ∧ w'.cell? ⟨g1, 4, none⟩ = some (.int .u32 x4) ∧ w'.cell? ⟨g1, 5, none⟩ = some (.int .u32 x5) ∧ w'.cell? ⟨g1, 6, none⟩ = some (.int .u32 x6) ∧ w'.cell? ⟨g1, 7, none⟩ = some (.int .u32 x7)) := by
    intro w' hw'
    have h1 := HB1.out.grow hw'
    rw [HV.out] at h1
    exact ⟨(HB2.out.grow hw').range, h1.eight⟩
  have HLG : Hid (∀ w', Below w6.heap.size w6 w' → Laid w') := fun w' hw => L6.grow hw
  have hu64 : Tryd.prog.underlying 25 = some (.array 64 5) := Tryd.underlying25
  have hi64 : (Tryd.prog.info? 25).map (·.size) = some (B blk).toList.length := by rw [B_toList, List.length_map, HB.out]; exact size_b64
  have hd0 : Below w6.heap.size w6 w6.drew := (Below.refl _ _).drew
  have HST := fun w => words_same (stp h blk) (stp_length _ _ HH.out) w
  rw [HV.out] at HST
  have HC : Hid (∀ w', Below w6.heap.size w6 w' → ∀ i, i < 64 → w'.cell? ⟨g2, 0 + i, none⟩ = some (.int .u8 (blk.getD i 0))) := by
    intro w' hw' i hi
    rw [Nat.zero_add]
    exact (HB2.out.grow hw').bcell i (by rw [HB.out]; exact hi)
  clear HQ L6 b26 b35 row5 row3 hRp L3 R2 B1 B2
  go_region_held2 (fun w' => w'.rangeAt g2 0 (B blk).toList ∧ w'.cell? ⟨g1, 0, none⟩ = some (.int .u32 x0) ∧ w'.cell? ⟨g1, 1, none⟩ = some (.int .u32 x1) ∧ w'.cell? ⟨g1, 2, none⟩ = some (.int .u32 x2) ∧ w'.cell? ⟨g1, 3, none⟩ = some (.int .u32 x3) ∧ w'.cell? ⟨g1, 4, none⟩ = some (.int .u32 x4) ∧ w'.cell? ⟨g1, 5, none⟩ = some (.int .u32 x5) ∧ w'.cell? ⟨g1, 6, none⟩ = some (.int .u32 x6) ∧ w'.cell? ⟨g1, 7, none⟩ = some (.int .u32 x7))
    (first | exact HS.out _ (by assumption))
    (first
      | (go_at_call 11; refine (step_any [x0, x1, x2, x3, x4, x5, x6, x7] blk _ (HLG.out _ (by assumption)) rfl HB.out HBY.out).mono ?_; rintro e w7 ⟨rfl, b7⟩; have hd7 := grow_trans hd0 b7)
      | (go_at_call 12; refine (refStep_any g2 0 64 [x0, x1, x2, x3, x4, x5, x6, x7] blk _ rfl HBY.out (HC.out _ (by assumption))).mono ?_; rintro e w8 ⟨rfl, b8⟩; have hd8 := grow_trans (by assumption) b8))
  go_wp2
  go_ret
  exact ⟨rfl, c6.trans (hd8.mono c6.size)⟩

end Go.Proofs.YtegpceglhbgcnaaDoor
