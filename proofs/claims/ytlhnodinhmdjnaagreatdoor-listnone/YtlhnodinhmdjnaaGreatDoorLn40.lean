/- ListNone's walk: of what is no store, all calls answer so. -/
import Derived.Test.YtlhnodinhmdjnaaGreatDoorLn01
import Derived.Test.YtlhnodinhmdjnaaGreatDoorLn39
import Derived.Test.YtlhnodinhmdjnaaGreatDoorRows
import Derived.ProofKit
import Derived.OpenShut
import Derived.ShutString
import Derived.ChangeOld
import Derived.Below
import Derived.SizedLaws
import Derived.Test.YtlhnodinhmdjnaaGreatDoorLn03
namespace Go.Proofs.YtlhnodinhmdjnaaGreatDoor
set_option maxRecDepth 20000
open Go.RowKit

def akL (h : Int) (K T : List Int) (n m : Int) : List Value := .int .i64 h :: (K.map (Value.int .u8) ++ (T.map (Value.int .u8) ++ [.int .i64 n, .int .i64 m]))
theorem ak_at {h : Int} {K T : List Int} {n m : Int} (hK : K.length = 32) (hT : T.length = 32) : (akL h K T n m)[65]? = some (.int .i64 n) ∧ (akL h K T n m)[66]? = some (.int .i64 m) := by
  have e : akL h K T n m = (.int .i64 h :: (K.map (Value.int .u8) ++ T.map (Value.int .u8))) ++ [.int .i64 n, .int .i64 m] := by simp [akL]
  have hl : (Value.int .i64 h :: (K.map (Value.int .u8) ++ T.map (Value.int .u8))).length = 65 := by simp [hK, hT]
  rw [e]
  exact ⟨by rw [List.getElem?_append_right (by omega), hl]; rfl, by rw [List.getElem?_append_right (by omega), hl]; rfl⟩
theorem ak_h {w : World} {b : Nat} {t : TypeId} {h : Int} {K T : List Int} {n m : Int} (hb : Blk w b t (akL h K T n m).toArray) : w.cell? ⟨b, 0, none⟩ = some (.int .i64 h) := by rw [hb.cell]; rfl
theorem ak_n {w : World} {b : Nat} {t : TypeId} {h : Int} {K T : List Int} {n m : Int} (hb : Blk w b t (akL h K T n m).toArray) (hK : K.length = 32) (hT : T.length = 32) : w.cell? ⟨b, 65, none⟩ = some (.int .i64 n) := by rw [hb.cell]; simpa using (ak_at hK hT).1
theorem ak_m {w : World} {b : Nat} {t : TypeId} {h : Int} {K T : List Int} {n m : Int} (hb : Blk w b t (akL h K T n m).toArray) (hK : K.length = 32) (hT : T.length = 32) : w.cell? ⟨b, 66, none⟩ = some (.int .i64 m) := by rw [hb.cell]; simpa using (ak_at hK hT).2
theorem ak_key {w : World} {b : Nat} {t : TypeId} {h : Int} {K T : List Int} {n m : Int} (hb : Blk w b t (akL h K T n m).toArray) : w.rangeAt b 1 (K.map (Value.int .u8)) := rng_mid (p := [.int .i64 h]) (r := T.map (Value.int .u8) ++ [.int .i64 n, .int .i64 m]) hb rfl
theorem ak_to {w : World} {b : Nat} {t : TypeId} {h : Int} {K T : List Int} {n m : Int} (hb : Blk w b t (akL h K T n m).toArray) (hK : K.length = 32) : w.rangeAt b 33 (T.map (Value.int .u8)) := rng_mid (t := t) (p := .int .i64 h :: K.map (Value.int .u8)) (r := [.int .i64 n, .int .i64 m]) (by rw [List.cons_append]; exact hb) (by simp [hK])
theorem step_al13 {ops : Array Oper} {op : Oper} {a : Act} {K : Act → World → Prop} {Q : Exit → Act → World → Prop} {E : Prop} (w : World) (hgd : op.guard = none) (ty : TypeId) (ho : op.op = .alloc ty) (cs : Array Value)
    (hz : ∀ w, (zeroValue ty).run Tryz.prog w = .ok (.agg cs) w)
    (hk : ∀ w' g, w.heap.size ≤ g → Blk w' g ty cs → Below w.heap.size w w' → K (a.put op.dst (.pointer (some ⟨g, 0, none⟩))) w') : if Region.wanted op (yielded ops a.tmps) = true then Oper.wp Tryz.prog op a w K Q else E := by
  have hw : Region.wanted op (yielded ops a.tmps) = true := by simp [Region.wanted, hgd]
  rw [if_pos hw]
  unfold Oper.wp execOp
  simp [ho, hz, Instr.alloc, newVar, Value.cells, newRow]
  exact hk _ w.heap.size (Nat.le_refl _) (Blk.new w ty cs) (grow_alloc w _)
theorem prAt_nil13 {w : World} : PrAt w (.slice none ([] : List Ent).length 0) (fun _ => undef) [] := ⟨none, 0, rfl, Nat.le_refl _, fun h => by simp at h, fun i hi => by simp at hi⟩

set_option maxHeartbeats 16000000 in
theorem listNone_walk (hh : Int) (K T : List Int) (nn mm : Int) (w : World) (hL : Laid w) (hK : Key K) (hT : Key T) : Calls Tryz.prog 3 #[.agg (akL hh K T nn mm).toArray] w fun e w' => e = .returned (.bool true) ∧ Below w.heap.size w w' := by
  have HK := hidden hK
  have HKL := hidden hK.1
  have HTL := hidden hT.1
  have HPK := hidden (pth_ln K hK.1)
  have HPT := hidden (pth_ln T hT.1)
  have HPZ := hidden (pth_ln z32 z32_length)
  have HB0 := hidden built_k0
  have HEQ : Hid (∀ w, (Op.equalIn 10000 23 (.agg (B z32)) (.agg (B z32))).run Tryz.prog w = .ok true w) := fun w => by have := path_eq z32 z32 rfl rfl w; simpa using this
  have HZ : Hid ((Tryz.prog.info? 37).map (·.size) = some (encP z32 (.slice none 0 0)).toArray.size) := (encP_sz z32_length).1
  have HAW : Hid (∀ w', Below w.heap.size w w' → Calls Tryz.prog 17 #[] w' fun e w'' => e = .returned (.bool true) ∧ Below w'.heap.size w' w'') := fun w' hb => awake13_any w' (hL.grow hb)
  clear hK hT hL
  obtain ⟨ap, hap⟩ : ∃ ap, ap = akL hh K T nn mm := ⟨_, rfl⟩
  have HAP := hidden hap
  rw [← hap]
  clear hap
  go_enter Tryz.func3, Tryz.ntmps3
  go_wp2_with (first
    | ((with_reducible refine at_bxd 1 ?_); refine wpList_bx _ rfl _ _ rfl _ rfl ?_; intro w1 b1 hg3 hl3 B3 q3; have HB1' := hidden B3; have HQ3 := hidden q3; clear hg3 hl3 B3 q3))
  have HW4 : Hid (Below w1.heap.size w1 ((w1.alloc (.cells #[.pointer none, .pointer none] 29)).alloc (.cells #[.pointer none, .pointer (some ⟨w1.heap.size, 0, none⟩)] 26))) := grow_trans (grow_alloc _ _) (grow_alloc _ _)
  have HBL : Hid (Blk ((w1.alloc (.cells #[.pointer none, .pointer none] 29)).alloc (.cells #[.pointer none, .pointer (some ⟨w1.heap.size, 0, none⟩)] 26)) (w1.heap.size + 1) 26 #[.pointer none, .pointer (some ⟨w1.heap.size, 0, none⟩)]) := by
    have := Blk.new (w1.alloc (.cells #[.pointer none, .pointer none] 29)) 26 #[.pointer none, .pointer (some ⟨w1.heap.size, 0, none⟩)]
    rw [show (w1.alloc (.cells #[.pointer none, .pointer none] 29)).heap.size = w1.heap.size + 1 by simp] at this
    exact this
  have HBS : Hid (Blk ((w1.alloc (.cells #[.pointer none, .pointer none] 29)).alloc (.cells #[.pointer none, .pointer (some ⟨w1.heap.size, 0, none⟩)] 26)) w1.heap.size 29 #[.pointer none, .pointer none]) := (Blk.new w1 29 #[.pointer none, .pointer none]).grow (grow_alloc _ _)
  generalize (w1.alloc (.cells #[.pointer none, .pointer none] 29)).alloc (.cells #[.pointer none, .pointer (some ⟨w1.heap.size, 0, none⟩)] 26) = w4 at *
  generalize w1.heap.size + 1 = bl at *
  have HQ4 : Hid (Below w.heap.size w w4) := grow_trans HQ3.out HW4.out
  have HB1 : Hid (∀ w', Below w4.heap.size w4 w' → Blk w' b1 25 (akL hh K T nn mm).toArray) := fun w' hb => by rw [← HAP.out]; exact (HB1'.out.grow HW4.out).grow hb
  generalize w1.heap.size = bs at *
  have HC0 : Hid (∀ w', Below w4.heap.size w4 w' → w'.cell? ⟨bl, 0, none⟩ = some (.pointer none)) := fun w' hb => by rw [(HBL.out.grow hb).cell]; rfl
  have HC1 : Hid (∀ w', Below w4.heap.size w4 w' → w'.cell? ⟨bl, 1, none⟩ = some (.pointer (some ⟨bs, 0, none⟩))) := fun w' hb => by rw [(HBL.out.grow hb).cell]; rfl
  have HNB : Hid (∀ w', Below w4.heap.size w4 w' → NoS w' (.pointer (some ⟨bs, 0, none⟩))) := fun w' hb => .inr ⟨bs, rfl, by rw [(HBS.out.grow hb).cell]; rfl⟩
  clear HBS HBL HW4 HB1' HQ3 HAP
  go_loopw [4] (fun iv wr => (iv = .int .i64 0 ∧ Hid (Below w4.heap.size w4 wr)) ∨ (iv = .int .i64 1 ∧ Hid (Below w4.heap.size w4 wr)) ∨ (iv = .int .i64 2 ∧ Hid (Below w4.heap.size w4 wr))) (fun iv _ => 2 - (intOf iv).toNat)
  case atStart => exact .inl ⟨rfl, Below.refl _ _⟩
  case round =>
    rcases hrel with ⟨rfl, HBW⟩ | ⟨rfl, HBW⟩ | ⟨rfl, HBW⟩
    · as_aux_lemma =>
        have HN : Hid (∀ w', Below w4.heap.size w4 w' → NoS w' (.pointer none)) := fun w' _ => .inl rfl
        have HCO : Hid (∀ w', Below wr.heap.size wr w' → Calls Tryz.prog 9 #[.pointer none, .int .i64 hh] w' fun e w'' => e = .returned (.tuple #[.int .i64 0, .int .i64 1]) ∧ Below w'.heap.size w' w'') := fun w' hb => count13_bad (vw_no (HN.out _ (grow_trans HBW.out hb))) hh 1 rfl (by omega)
        have HRA : Hid (∀ w', Below wr.heap.size wr w' → Calls Tryz.prog 10 #[.pointer none, .int .i64 hh, .agg (B K)] w' fun e w'' => e = .returned (.tuple #[.int .i64 0, .int .i64 1]) ∧ Below w'.heap.size w' w'') := fun w' hb => rank_bad (vw_no (HN.out _ (grow_trans HBW.out hb))) hh K 1 rfl (by omega)
        have HNT : Hid (∀ w', Below wr.heap.size wr w' → Calls Tryz.prog 11 #[.pointer none, .int .i64 hh, .int .i64 nn] w' fun e w'' => e = .returned (.tuple #[.agg (encP z32 (.slice none 0 0)).toArray, .int .i64 1]) ∧ Below w'.heap.size w' w'') := fun w' hb => nth_bad (vw_no (HN.out _ (grow_trans HBW.out hb))) hh nn 1 rfl (by omega)
        have HBT : Hid (∀ w', Below wr.heap.size wr w' → Calls Tryz.prog 12 #[.pointer none, .int .i64 hh, .agg (B K), .agg (B T)] w' fun e w'' => e = .returned (.tuple #[.int .i64 0, .int .i64 1]) ∧ Below w'.heap.size w' w'') := fun w' hb => between_bad (vw_no (HN.out _ (grow_trans HBW.out hb))) hh K T HK.out 1 rfl (by omega)
        have HSM : Hid (∀ w', Below wr.heap.size wr w' → Calls Tryz.prog 13 #[.pointer none, .int .i64 hh, .agg (B K), .int .i64 mm] w' fun e w'' => e = .returned (.tuple #[.slice none 0 0, .int .i64 1]) ∧ Below w'.heap.size w' w'') := fun w' hb => some_bad (vw_no (HN.out _ (grow_trans HBW.out hb))) hh K HK.out mm 1 rfl (by omega)
        have HAL : Hid (∀ w', Below wr.heap.size wr w' → Calls Tryz.prog 15 #[.pointer none, .int .i64 hh] w' (OvPost w' [])) := fun w' hb => all_bad (vw_no (HN.out _ (grow_trans HBW.out hb))) hh 1 rfl (by omega)
        have HFR : Hid (∀ w', Below wr.heap.size wr w' → Calls Tryz.prog 16 #[.pointer none, .int .i64 hh, .agg (B K)] w' (OvPost w' [])) := fun w' hb => from_bad (vw_no (HN.out _ (grow_trans HBW.out hb))) hh K HK.out 1 rfl (by omega)
        clear HN
        go_wp2_with fail
        refine wp_region_held_drew (S := fun w' => Below wr.heap.size wr w') (by kernel_rfl) ((below_drewN (Below.refl _ _) 1)) (fun hHeld => ?_)
        refine tkp 0 (.slice (some ⟨bl, 0, none⟩) 2 2) hHeld ?_
        simp only [Act.put, zq1, zq2, zq4, zq5, zq6]
        refine tkp 1 (.int .i64 0) hHeld ?_
        simp only [Act.put, zq1, zq2, zq3, zq4, zq5, zq6]
        refine tkp 2 (.pointer (some ⟨bl, 0, none⟩)) hHeld ?_
        simp only [Act.put, zq1, zq2, zq3, zq4, zq5, zq6]
        refine tkg 3 (.pointer none) rfl (Or.inl ⟨by rfl, fun w hS => by (have q1 := HC0.out _ (grow_trans HBW.out hS); go_simp)⟩) hHeld ?_
        simp only [Act.put, zq1, zq2, zq3, zq4, zq5, zq6]
        refine tkp 4 (.pointer (some ⟨b1, 0, none⟩)) hHeld ?_
        simp only [Act.put, zq1, zq2, zq3, zq4, zq5, zq6]
        refine tkg 5 (.int .i64 hh) rfl (Or.inl ⟨by rfl, fun w hS => by (have q1 := ak_h (HB1.out _ (grow_trans HBW.out hS)); go_simp)⟩) hHeld ?_
        simp only [Act.put, zq1, zq2, zq3, zq4, zq5, zq6]
        refine wpAnyH_ready (rs := [6]) (by kernel_rfl) (by simp) ?_
        refine AllReadyH.cons rfl (fun KQ hK => ?_) AllReadyH.nil
        go_simp
        refine (HCO.out _ hHeld).mono ?_
        rintro e z1 ⟨rfl, a1⟩
        refine hK.out _ _ (grow_trans hHeld a1) (fun hHeld => ?_)
        clear hK KQ
        refine tkp 7 (.tuple #[.int .i64 0, .int .i64 1]) hHeld ?_
        simp only [Act.put, zq1, zq2, zq3, zq4, zq5, zq6]
        refine tkp 8 (.int .i64 0) hHeld ?_
        simp only [Act.put, zq1, zq2, zq3, zq4, zq5, zq6]
        refine tkp 9 (.int .i64 1) hHeld ?_
        simp only [Act.put, zq1, zq2, zq3, zq4, zq5, zq6]
        refine tkp 10 (.int .i64 0) hHeld ?_
        simp only [Act.put, zq1, zq2, zq3, zq4, zq5, zq6]
        refine tkp 11 (.int .i64 1) hHeld ?_
        simp only [Act.put, zq1, zq2, zq3, zq4, zq5, zq6]
        refine wpAnyH_done (by kernel_rfl) ?_ _
        go_wp2_with fail
        refine wp_region_held_drew (S := fun w' => Below wr.heap.size wr w') (by kernel_rfl) ((below_drewN hHeld 1)) (fun hHeld => ?_)
        refine tkp 0 (.slice (some ⟨bl, 0, none⟩) 2 2) hHeld ?_
        simp only [Act.put, zq1, zq2, zq4, zq5, zq6]
        refine tkp 1 (.int .i64 0) hHeld ?_
        simp only [Act.put, zq1, zq2, zq3, zq4, zq5, zq6]
        refine tkp 2 (.pointer (some ⟨bl, 0, none⟩)) hHeld ?_
        simp only [Act.put, zq1, zq2, zq3, zq4, zq5, zq6]
        refine tkg 3 (.pointer none) rfl (Or.inl ⟨by rfl, fun w hS => by (have q1 := HC0.out _ (grow_trans HBW.out hS); go_simp)⟩) hHeld ?_
        simp only [Act.put, zq1, zq2, zq3, zq4, zq5, zq6]
        refine tkp 4 (.pointer (some ⟨b1, 0, none⟩)) hHeld ?_
        simp only [Act.put, zq1, zq2, zq3, zq4, zq5, zq6]
        refine tkg 5 (.int .i64 hh) rfl (Or.inl ⟨by rfl, fun w hS => by (have q1 := ak_h (HB1.out _ (grow_trans HBW.out hS)); go_simp)⟩) hHeld ?_
        simp only [Act.put, zq1, zq2, zq3, zq4, zq5, zq6]
        refine tkp 6 (.pointer (some ⟨b1, 1, none⟩)) hHeld ?_
        simp only [Act.put, zq1, zq2, zq3, zq4, zq5, zq6]
        refine tkg 7 (.agg (B K)) rfl (yieldsIf_load_mid rfl 23 (.tmp 41) rfl b1 1 rfl (B K).toList _ (fun w hS => by rw [B_toList]; exact ak_key (HB1.out _ (grow_trans HBW.out hS))) Tryz.underlying23 rfl HPK.out) hHeld ?_
        simp only [Act.put, zq1, zq2, zq3, zq4, zq5, zq6]
        refine wpAnyH_ready (rs := [8]) (by kernel_rfl) (by simp) ?_
        refine AllReadyH.cons rfl (fun KQ hK => ?_) AllReadyH.nil
        go_simp
        refine (HRA.out _ hHeld).mono ?_
        rintro e z2 ⟨rfl, a1⟩
        refine hK.out _ _ (grow_trans hHeld a1) (fun hHeld => ?_)
        clear hK KQ
        refine tkp 9 (.tuple #[.int .i64 0, .int .i64 1]) hHeld ?_
        simp only [Act.put, zq1, zq2, zq3, zq4, zq5, zq6]
        refine tkp 10 (.int .i64 0) hHeld ?_
        simp only [Act.put, zq1, zq2, zq3, zq4, zq5, zq6]
        refine tkp 11 (.int .i64 1) hHeld ?_
        simp only [Act.put, zq1, zq2, zq3, zq4, zq5, zq6]
        refine tkp 12 (.int .i64 0) hHeld ?_
        simp only [Act.put, zq1, zq2, zq3, zq4, zq5, zq6]
        refine tkp 13 (.int .i64 1) hHeld ?_
        simp only [Act.put, zq1, zq2, zq3, zq4, zq5, zq6]
        refine wpAnyH_done (by kernel_rfl) ?_ _
        go_wp2_with fail
        refine wp_region_held_drew (S := fun w' => Below wr.heap.size wr w') (by kernel_rfl) ((below_drewN hHeld 1)) (fun hHeld => ?_)
        refine tkp 0 (.slice (some ⟨bl, 0, none⟩) 2 2) hHeld ?_
        simp only [Act.put, zq1, zq2, zq4, zq5, zq6]
        refine tkp 1 (.int .i64 0) hHeld ?_
        simp only [Act.put, zq1, zq2, zq3, zq4, zq5, zq6]
        refine tkp 2 (.pointer (some ⟨bl, 0, none⟩)) hHeld ?_
        simp only [Act.put, zq1, zq2, zq3, zq4, zq5, zq6]
        refine tkg 3 (.pointer none) rfl (Or.inl ⟨by rfl, fun w hS => by (have q1 := HC0.out _ (grow_trans HBW.out hS); go_simp)⟩) hHeld ?_
        simp only [Act.put, zq1, zq2, zq3, zq4, zq5, zq6]
        refine tkp 4 (.pointer (some ⟨b1, 0, none⟩)) hHeld ?_
        simp only [Act.put, zq1, zq2, zq3, zq4, zq5, zq6]
        refine tkg 5 (.int .i64 hh) rfl (Or.inl ⟨by rfl, fun w hS => by (have q1 := ak_h (HB1.out _ (grow_trans HBW.out hS)); go_simp)⟩) hHeld ?_
        simp only [Act.put, zq1, zq2, zq3, zq4, zq5, zq6]
        refine tkp 6 (.pointer (some ⟨b1, 65, none⟩)) hHeld ?_
        simp only [Act.put, zq1, zq2, zq3, zq4, zq5, zq6]
        refine tkg 7 (.int .i64 nn) rfl (Or.inl ⟨by rfl, fun w hS => by (have q1 := ak_n (HB1.out _ (grow_trans HBW.out hS)) HKL.out HTL.out; go_simp)⟩) hHeld ?_
        simp only [Act.put, zq1, zq2, zq3, zq4, zq5, zq6]
        refine wpAnyH_ready (rs := [8, 12]) (by kernel_rfl) (by simp) ?_
        refine AllReadyH.cons rfl (fun KQ hK => ?_) (AllReadyH.cons rfl (fun KQ hK => ?_) AllReadyH.nil)
        · go_simp
          refine (HNT.out _ hHeld).mono ?_
          rintro e z3 ⟨rfl, a3⟩
          refine hK.out _ _ (grow_trans hHeld a3) (fun hHeld => ?_)
          clear hK KQ
          refine tkp 9 (.tuple #[.agg (encP z32 (.slice none 0 0)).toArray, .int .i64 1]) hHeld ?_
          simp only [Act.put, zq1, zq2, zq3, zq4, zq5, zq6]
          refine tkp 10 (.agg (encP z32 (.slice none 0 0)).toArray) hHeld ?_
          simp only [Act.put, zq1, zq2, zq3, zq4, zq5, zq6]
          refine tkp 11 (.int .i64 1) hHeld ?_
          simp only [Act.put, zq1, zq2, zq3, zq4, zq5, zq6]
          refine wpAnyH_ready (rs := [12]) (by kernel_rfl) (by simp) ?_
          refine AllReadyH.cons rfl (fun KQ hK => ?_) AllReadyH.nil
          refine step_al13 _ rfl _ rfl _ zero_pair ?_
          intro z4 g9 hg9 B4 a4
          have HB9 := hidden B4
          have HG9 : Hid (wr.heap.size ≤ g9) := Nat.le_trans hHeld.size hg9
          refine hK.out _ _ (grow_trans hHeld a4) (fun hHeld => ?_)
          clear hK KQ B4 hg9
          refine wpAnyH_ready (rs := [13]) (by kernel_rfl) (by simp) ?_
          refine AllReadyH.cons rfl (fun KQ hK => ?_) AllReadyH.nil
          refine step_sto _ rfl _ _ _ rfl g9 _ (encP z32 (.slice none 0 0)).toArray rfl rfl HB9.out HZ.out rfl (encP_one z32 none 0 0) ?_
          intro z5 B5 r5
          have HB5 := hidden B5
          have HBL5 : Hid (Below wr.heap.size wr z5) := below_row hHeld r5 HG9.out
          refine hK.out _ _ HBL5.out (fun hHeld => ?_)
          clear hK KQ B5 r5
          refine tkp 14 (.int .i64 1) hHeld ?_
          simp only [Act.put, zq1, zq2, zq3, zq4, zq5, zq6]
          refine wpAnyH_done (by kernel_rfl) ?_ _
          go_wp2_with fail
          have HBd := hidden (below_drewN (Below.refl z5.heap.size z5) 1)
          have HV5 : Hid (∀ w', Below z5.heap.size z5 w' → w'.cell? ⟨g9, 32, none⟩ = some (.slice none 0 0)) := fun w' hb => by rw [(HB5.out.grow hb).cell]; rfl
          have HK5 : Hid (∀ w', Below z5.heap.size z5 w' → w'.rangeAt g9 0 (B z32).toList) := fun w' hb => by rw [B_toList]; exact rng_mid (p := []) (r := [.slice none 0 0]) (HB5.out.grow hb) rfl
          refine wp_region_held_drew (S := fun w' => Below wr.heap.size wr w' ∧ Below z5.heap.size z5 w') (by kernel_rfl) (⟨below_drewN hHeld 1, HBd.out⟩) (fun hHeld => ?_)
          refine tkp 0 (.slice (some ⟨bl, 0, none⟩) 2 2) hHeld ?_
          simp only [Act.put, zq1, zq2, zq4, zq5, zq6]
          refine tkp 1 (.int .i64 0) hHeld ?_
          simp only [Act.put, zq1, zq2, zq3, zq4, zq5, zq6]
          refine tkp 2 (.pointer (some ⟨bl, 0, none⟩)) hHeld ?_
          simp only [Act.put, zq1, zq2, zq3, zq4, zq5, zq6]
          refine tkg 3 (.pointer none) rfl (Or.inl ⟨by rfl, fun w hS => by (have q1 := HC0.out _ (grow_trans HBW.out hS.1); go_simp)⟩) hHeld ?_
          simp only [Act.put, zq1, zq2, zq3, zq4, zq5, zq6]
          refine tkp 4 (.pointer (some ⟨b1, 0, none⟩)) hHeld ?_
          simp only [Act.put, zq1, zq2, zq3, zq4, zq5, zq6]
          refine tkg 5 (.int .i64 hh) rfl (Or.inl ⟨by rfl, fun w hS => by (have q1 := ak_h (HB1.out _ (grow_trans HBW.out hS.1)); go_simp)⟩) hHeld ?_
          simp only [Act.put, zq1, zq2, zq3, zq4, zq5, zq6]
          refine tkp 6 (.pointer (some ⟨b1, 1, none⟩)) hHeld ?_
          simp only [Act.put, zq1, zq2, zq3, zq4, zq5, zq6]
          refine tkg 7 (.agg (B K)) rfl (yieldsIf_load_mid rfl 23 (.tmp 65) rfl b1 1 rfl (B K).toList _ (fun w hS => by rw [B_toList]; exact ak_key (HB1.out _ (grow_trans HBW.out hS.1))) Tryz.underlying23 rfl HPK.out) hHeld ?_
          simp only [Act.put, zq1, zq2, zq3, zq4, zq5, zq6]
          refine tkp 8 (.pointer (some ⟨b1, 33, none⟩)) hHeld ?_
          simp only [Act.put, zq1, zq2, zq3, zq4, zq5, zq6]
          refine tkg 9 (.agg (B T)) rfl (yieldsIf_load_mid rfl 23 (.tmp 67) rfl b1 33 rfl (B T).toList _ (fun w hS => by rw [B_toList]; exact ak_to (HB1.out _ (grow_trans HBW.out hS.1)) HKL.out) Tryz.underlying23 rfl HPT.out) hHeld ?_
          simp only [Act.put, zq1, zq2, zq3, zq4, zq5, zq6]
          refine wpAnyH_ready (rs := [10]) (by kernel_rfl) (by simp) ?_
          refine AllReadyH.cons rfl (fun KQ hK => ?_) AllReadyH.nil
          go_simp
          refine (HBT.out _ hHeld.1).mono ?_
          rintro e z6 ⟨rfl, a1⟩
          refine hK.out _ _ (⟨grow_trans hHeld.1 a1, grow_trans hHeld.2 a1⟩) (fun hHeld => ?_)
          clear hK KQ
          refine tkp 11 (.tuple #[.int .i64 0, .int .i64 1]) hHeld ?_
          simp only [Act.put, zq1, zq2, zq3, zq4, zq5, zq6]
          refine tkp 12 (.int .i64 0) hHeld ?_
          simp only [Act.put, zq1, zq2, zq3, zq4, zq5, zq6]
          refine tkp 13 (.int .i64 1) hHeld ?_
          simp only [Act.put, zq1, zq2, zq3, zq4, zq5, zq6]
          refine tkp 14 (.int .i64 0) hHeld ?_
          simp only [Act.put, zq1, zq2, zq3, zq4, zq5, zq6]
          refine tkp 15 (.int .i64 1) hHeld ?_
          simp only [Act.put, zq1, zq2, zq3, zq4, zq5, zq6]
          refine wpAnyH_done (by kernel_rfl) ?_ _
          go_wp2_with fail
          refine wp_region_held_drew (S := fun w' => Below wr.heap.size wr w' ∧ Below z5.heap.size z5 w') (by kernel_rfl) (⟨below_drewN hHeld.1 1, below_drewN hHeld.2 1⟩) (fun hHeld => ?_)
          refine tkp 0 (.slice (some ⟨bl, 0, none⟩) 2 2) hHeld ?_
          simp only [Act.put, zq1, zq2, zq4, zq5, zq6]
          refine tkp 1 (.int .i64 0) hHeld ?_
          simp only [Act.put, zq1, zq2, zq3, zq4, zq5, zq6]
          refine tkp 2 (.pointer (some ⟨bl, 0, none⟩)) hHeld ?_
          simp only [Act.put, zq1, zq2, zq3, zq4, zq5, zq6]
          refine tkg 3 (.pointer none) rfl (Or.inl ⟨by rfl, fun w hS => by (have q1 := HC0.out _ (grow_trans HBW.out hS.1); go_simp)⟩) hHeld ?_
          simp only [Act.put, zq1, zq2, zq3, zq4, zq5, zq6]
          refine tkp 4 (.pointer (some ⟨b1, 0, none⟩)) hHeld ?_
          simp only [Act.put, zq1, zq2, zq3, zq4, zq5, zq6]
          refine tkg 5 (.int .i64 hh) rfl (Or.inl ⟨by rfl, fun w hS => by (have q1 := ak_h (HB1.out _ (grow_trans HBW.out hS.1)); go_simp)⟩) hHeld ?_
          simp only [Act.put, zq1, zq2, zq3, zq4, zq5, zq6]
          refine tkp 6 (.pointer (some ⟨b1, 1, none⟩)) hHeld ?_
          simp only [Act.put, zq1, zq2, zq3, zq4, zq5, zq6]
          refine tkg 7 (.agg (B K)) rfl (yieldsIf_load_mid rfl 23 (.tmp 79) rfl b1 1 rfl (B K).toList _ (fun w hS => by rw [B_toList]; exact ak_key (HB1.out _ (grow_trans HBW.out hS.1))) Tryz.underlying23 rfl HPK.out) hHeld ?_
          simp only [Act.put, zq1, zq2, zq3, zq4, zq5, zq6]
          refine tkp 8 (.pointer (some ⟨b1, 66, none⟩)) hHeld ?_
          simp only [Act.put, zq1, zq2, zq3, zq4, zq5, zq6]
          refine tkg 9 (.int .i64 mm) rfl (Or.inl ⟨by rfl, fun w hS => by (have q1 := ak_m (HB1.out _ (grow_trans HBW.out hS.1)) HKL.out HTL.out; go_simp)⟩) hHeld ?_
          simp only [Act.put, zq1, zq2, zq3, zq4, zq5, zq6]
          refine wpAnyH_ready (rs := [10]) (by kernel_rfl) (by simp) ?_
          refine AllReadyH.cons rfl (fun KQ hK => ?_) AllReadyH.nil
          go_simp
          refine (HSM.out _ hHeld.1).mono ?_
          rintro e z7 ⟨rfl, a1⟩
          refine hK.out _ _ (⟨grow_trans hHeld.1 a1, grow_trans hHeld.2 a1⟩) (fun hHeld => ?_)
          clear hK KQ
          refine tkp 11 (.tuple #[.slice none 0 0, .int .i64 1]) hHeld ?_
          simp only [Act.put, zq1, zq2, zq3, zq4, zq5, zq6]
          refine tkp 12 (.slice none 0 0) hHeld ?_
          simp only [Act.put, zq1, zq2, zq3, zq4, zq5, zq6]
          refine tkp 13 (.int .i64 1) hHeld ?_
          simp only [Act.put, zq1, zq2, zq3, zq4, zq5, zq6]
          refine tkp 14 (.slice none 0 0) hHeld ?_
          simp only [Act.put, zq1, zq2, zq3, zq4, zq5, zq6]
          refine tkp 15 (.int .i64 1) hHeld ?_
          simp only [Act.put, zq1, zq2, zq3, zq4, zq5, zq6]
          refine wpAnyH_done (by kernel_rfl) ?_ _
          go_wp2_with fail
          refine wp_region_held_drew (S := fun w' => Below wr.heap.size wr w' ∧ Below z5.heap.size z5 w') (by kernel_rfl) (⟨below_drewN hHeld.1 1, below_drewN hHeld.2 1⟩) (fun hHeld => ?_)
          refine tkp 0 (.int .i64 0) hHeld ?_
          simp only [Act.put, zq1, zq2, zq4, zq5, zq6]
          refine tkp 1 (.int .i64 0) hHeld ?_
          simp only [Act.put, zq1, zq2, zq3, zq4, zq5, zq6]
          refine tkg 2 (.int .i64 0) rfl (Or.inl ⟨by rfl, fun w hS => by (go_simp; rfl)⟩) hHeld ?_
          simp only [Act.put, zq1, zq2, zq3, zq4, zq5, zq6]
          refine tkp 3 (.int .i64 0) hHeld ?_
          simp only [Act.put, zq1, zq2, zq3, zq4, zq5, zq6]
          refine tkg 4 (.int .i64 0) rfl (Or.inl ⟨by rfl, fun w hS => by (go_simp; rfl)⟩) hHeld ?_
          simp only [Act.put, zq1, zq2, zq3, zq4, zq5, zq6]
          refine tkp 5 (.slice none 0 0) hHeld ?_
          simp only [Act.put, zq1, zq2, zq3, zq4, zq5, zq6]
          refine tkp 6 (.int .i64 0) hHeld ?_
          simp only [Act.put, zq1, zq2, zq3, zq4, zq5, zq6]
          refine tkg 7 (.int .i64 0) rfl (Or.inl ⟨by rfl, fun w hS => by (go_simp; rfl)⟩) hHeld ?_
          simp only [Act.put, zq1, zq2, zq3, zq4, zq5, zq6]
          refine tkp 8 (.pointer (some ⟨g9, 32, none⟩)) hHeld ?_
          simp only [Act.put, zq1, zq2, zq3, zq4, zq5, zq6]
          refine tkg 9 (.slice none 0 0) rfl (Or.inl ⟨by rfl, fun w hS => by (have q1 := HV5.out _ hS.2; go_simp)⟩) hHeld ?_
          simp only [Act.put, zq1, zq2, zq3, zq4, zq5, zq6]
          refine tkp 10 (.int .i64 0) hHeld ?_
          simp only [Act.put, zq1, zq2, zq3, zq4, zq5, zq6]
          refine tkg 11 (.int .i64 0) rfl (Or.inl ⟨by rfl, fun w hS => by (go_simp; rfl)⟩) hHeld ?_
          simp only [Act.put, zq1, zq2, zq3, zq4, zq5, zq6]
          refine tkp 12 (.bool false) hHeld ?_
          simp only [Act.put, zq1, zq2, zq3, zq4, zq5, zq6]
          refine tkp 13 (.bool false) hHeld ?_
          simp only [Act.put, zq1, zq2, zq3, zq4, zq5, zq6]
          refine tkp 14 (.pointer (some ⟨g9, 0, none⟩)) hHeld ?_
          simp only [Act.put, zq1, zq2, zq3, zq4, zq5, zq6]
          refine tkg 15 (.agg (B z32)) rfl (yieldsIf_load_mid rfl 23 (.tmp 100) rfl g9 0 rfl (B z32).toList _ (fun w hS => HK5.out _ hS.2) Tryz.underlying23 rfl HPZ.out) hHeld ?_
          simp only [Act.put, zq1, zq2, zq3, zq4, zq5, zq6]
          refine tkg 16 (.agg (B z32)) rfl (Or.inl ⟨by rfl, fun w hS => exec_blc _ _ 23 _ (by rfl) _ (by rw [List.map_toArray]; exact HB0.out) w⟩) hHeld ?_
          simp only [Act.put, zq1, zq2, zq3, zq4, zq5, zq6]
          refine tkg 17 (.bool false) rfl (Or.inl ⟨by rfl, fun w hS => by (have q1 := HEQ.out w; go_simp)⟩) hHeld ?_
          simp only [Act.put, zq1, zq2, zq3, zq4, zq5, zq6]
          refine tkp 18 (.bool false) hHeld ?_
          simp only [Act.put, zq1, zq2, zq3, zq4, zq5, zq6]
          refine tkp 19 (.bool false) hHeld ?_
          simp only [Act.put, zq1, zq2, zq3, zq4, zq5, zq6]
          refine tkp 20 (.int .i64 1) hHeld ?_
          simp only [Act.put, zq1, zq2, zq3, zq4, zq5, zq6]
          refine tkp 21 (.bool false) hHeld ?_
          simp only [Act.put, zq1, zq2, zq3, zq4, zq5, zq6]
          refine tkp 22 (.bool false) hHeld ?_
          simp only [Act.put, zq1, zq2, zq3, zq4, zq5, zq6]
          refine tkp 23 (.bool false) hHeld ?_
          simp only [Act.put, zq1, zq2, zq3, zq4, zq5, zq6]
          refine tkp 24 (.int .i64 1) hHeld ?_
          simp only [Act.put, zq1, zq2, zq3, zq4, zq5, zq6]
          refine tkp 25 (.bool false) hHeld ?_
          simp only [Act.put, zq1, zq2, zq3, zq4, zq5, zq6]
          refine tkp 26 (.bool false) hHeld ?_
          simp only [Act.put, zq1, zq2, zq3, zq4, zq5, zq6]
          refine tkp 27 (.bool false) hHeld ?_
          simp only [Act.put, zq1, zq2, zq3, zq4, zq5, zq6]
          refine tkp 28 (.int .i64 1) hHeld ?_
          simp only [Act.put, zq1, zq2, zq3, zq4, zq5, zq6]
          refine tkp 29 (.bool false) hHeld ?_
          simp only [Act.put, zq1, zq2, zq3, zq4, zq5, zq6]
          refine tkp 30 (.bool false) hHeld ?_
          simp only [Act.put, zq1, zq2, zq3, zq4, zq5, zq6]
          refine tkp 31 (.bool false) hHeld ?_
          simp only [Act.put, zq1, zq2, zq3, zq4, zq5, zq6]
          refine tkp 32 (.int .i64 1) hHeld ?_
          simp only [Act.put, zq1, zq2, zq3, zq4, zq5, zq6]
          refine tkp 33 (.bool false) hHeld ?_
          simp only [Act.put, zq1, zq2, zq3, zq4, zq5, zq6]
          refine tkp 34 (.bool false) hHeld ?_
          simp only [Act.put, zq1, zq2, zq3, zq4, zq5, zq6]
          refine tkp 35 (.bool false) hHeld ?_
          simp only [Act.put, zq1, zq2, zq3, zq4, zq5, zq6]
          refine tkp 36 (.int .i64 1) hHeld ?_
          simp only [Act.put, zq1, zq2, zq3, zq4, zq5, zq6]
          refine tkp 37 (.bool false) hHeld ?_
          simp only [Act.put, zq1, zq2, zq3, zq4, zq5, zq6]
          refine tkp 38 (.bool false) hHeld ?_
          simp only [Act.put, zq1, zq2, zq3, zq4, zq5, zq6]
          refine tkp 39 (.bool false) hHeld ?_
          simp only [Act.put, zq1, zq2, zq3, zq4, zq5, zq6]
          refine tkp 40 (.slice (some ⟨bl, 0, none⟩) 2 2) hHeld ?_
          simp only [Act.put, zq1, zq2, zq3, zq4, zq5, zq6]
          refine tkp 41 (.int .i64 0) hHeld ?_
          simp only [Act.put, zq1, zq2, zq3, zq4, zq5, zq6]
          refine tkp 42 (.pointer (some ⟨bl, 0, none⟩)) hHeld ?_
          simp only [Act.put, zq1, zq2, zq3, zq4, zq5, zq6]
          refine tkg 43 (.pointer none) rfl (Or.inl ⟨by rfl, fun w hS => by (have q1 := HC0.out _ (grow_trans HBW.out hS.1); go_simp)⟩) hHeld ?_
          simp only [Act.put, zq1, zq2, zq3, zq4, zq5, zq6]
          refine tkp 44 (.pointer (some ⟨b1, 0, none⟩)) hHeld ?_
          simp only [Act.put, zq1, zq2, zq3, zq4, zq5, zq6]
          refine tkg 45 (.int .i64 hh) rfl (Or.inl ⟨by rfl, fun w hS => by (have q1 := ak_h (HB1.out _ (grow_trans HBW.out hS.1)); go_simp)⟩) hHeld ?_
          simp only [Act.put, zq1, zq2, zq3, zq4, zq5, zq6]
          refine wpAnyH_ready (rs := [46]) (by kernel_rfl) (by simp) ?_
          refine AllReadyH.cons rfl (fun KQ hK => ?_) AllReadyH.nil
          go_simp
          refine (HAL.out _ hHeld.1).mono ?_
          rintro e y46 ⟨b5, rfl, _, hO, a1⟩
          have HO := hidden hO
          clear hO
          refine hK.out _ _ (⟨grow_trans hHeld.1 a1, grow_trans hHeld.2 a1⟩) (fun hHeld => ?_)
          clear hK KQ
          refine wpAnyH_ready (rs := [47]) (by kernel_rfl) (by simp) ?_
          refine AllReadyH.cons rfl (fun KQ hK => ?_) AllReadyH.nil
          go_simp
          refine (gone13_any HO.out (by simp) (fun e he => by simp at he) none 0 (fun _ => undef) prAt_nil13 0).mono ?_
          rintro e y47 ⟨rfl, a1⟩
          clear HO
          refine hK.out _ _ (⟨grow_trans hHeld.1 a1, grow_trans hHeld.2 a1⟩) (fun hHeld => ?_)
          clear hK KQ
          refine tkp 48 (.bool false) hHeld ?_
          simp only [Act.put, zq1, zq2, zq3, zq4, zq5, zq6]
          refine tkp 49 (.bool false) hHeld ?_
          simp only [Act.put, zq1, zq2, zq3, zq4, zq5, zq6]
          refine tkp 50 (.bool false) hHeld ?_
          simp only [Act.put, zq1, zq2, zq3, zq4, zq5, zq6]
          refine tkp 51 (.slice (some ⟨bl, 0, none⟩) 2 2) hHeld ?_
          simp only [Act.put, zq1, zq2, zq3, zq4, zq5, zq6]
          refine tkp 52 (.int .i64 0) hHeld ?_
          simp only [Act.put, zq1, zq2, zq3, zq4, zq5, zq6]
          refine tkp 53 (.pointer (some ⟨bl, 0, none⟩)) hHeld ?_
          simp only [Act.put, zq1, zq2, zq3, zq4, zq5, zq6]
          refine tkg 54 (.pointer none) rfl (Or.inl ⟨by rfl, fun w hS => by (have q1 := HC0.out _ (grow_trans HBW.out hS.1); go_simp)⟩) hHeld ?_
          simp only [Act.put, zq1, zq2, zq3, zq4, zq5, zq6]
          refine tkp 55 (.pointer (some ⟨b1, 0, none⟩)) hHeld ?_
          simp only [Act.put, zq1, zq2, zq3, zq4, zq5, zq6]
          refine tkg 56 (.int .i64 hh) rfl (Or.inl ⟨by rfl, fun w hS => by (have q1 := ak_h (HB1.out _ (grow_trans HBW.out hS.1)); go_simp)⟩) hHeld ?_
          simp only [Act.put, zq1, zq2, zq3, zq4, zq5, zq6]
          refine tkp 57 (.pointer (some ⟨b1, 1, none⟩)) hHeld ?_
          simp only [Act.put, zq1, zq2, zq3, zq4, zq5, zq6]
          refine tkg 58 (.agg (B K)) rfl (yieldsIf_load_mid rfl 23 (.tmp 143) rfl b1 1 rfl (B K).toList _ (fun w hS => by rw [B_toList]; exact ak_key (HB1.out _ (grow_trans HBW.out hS.1))) Tryz.underlying23 rfl HPK.out) hHeld ?_
          simp only [Act.put, zq1, zq2, zq3, zq4, zq5, zq6]
          refine wpAnyH_ready (rs := [59]) (by kernel_rfl) (by simp) ?_
          refine AllReadyH.cons rfl (fun KQ hK => ?_) AllReadyH.nil
          go_simp
          refine (HFR.out _ hHeld.1).mono ?_
          rintro e y59 ⟨b5, rfl, _, hO, a1⟩
          have HO := hidden hO
          clear hO
          refine hK.out _ _ (⟨grow_trans hHeld.1 a1, grow_trans hHeld.2 a1⟩) (fun hHeld => ?_)
          clear hK KQ
          refine wpAnyH_ready (rs := [60]) (by kernel_rfl) (by simp) ?_
          refine AllReadyH.cons rfl (fun KQ hK => ?_) AllReadyH.nil
          go_simp
          refine (gone13_any HO.out (by simp) (fun e he => by simp at he) none 0 (fun _ => undef) prAt_nil13 0).mono ?_
          rintro e y60 ⟨rfl, a1⟩
          clear HO
          refine hK.out _ _ (⟨grow_trans hHeld.1 a1, grow_trans hHeld.2 a1⟩) (fun hHeld => ?_)
          clear hK KQ
          refine tkp 61 (.bool false) hHeld ?_
          simp only [Act.put, zq1, zq2, zq3, zq4, zq5, zq6]
          refine tkp 62 (.bool false) hHeld ?_
          simp only [Act.put, zq1, zq2, zq3, zq4, zq5, zq6]
          refine wpAnyH_done (by kernel_rfl) ?_ _
          have HL6 := hidden hHeld.1
          clear hHeld
          go_wp2_with fail
          exact ⟨.inr (.inl ⟨by go_num, hidden (grow_trans HBW.out HL6.out)⟩), by simp [intOf]⟩
        · refine step_al13 _ rfl _ rfl _ zero_pair ?_
          intro z4 g9 hg9 B4 a4
          have HB9 := hidden B4
          have HG9 : Hid (wr.heap.size ≤ g9) := Nat.le_trans hHeld.size hg9
          refine hK.out _ _ (grow_trans hHeld a4) (fun hHeld => ?_)
          clear hK KQ B4 hg9
          refine wpAnyH_ready (rs := [8]) (by kernel_rfl) (by simp) ?_
          refine AllReadyH.cons rfl (fun KQ hK => ?_) AllReadyH.nil
          go_simp
          refine (HNT.out _ hHeld).mono ?_
          rintro e z3 ⟨rfl, a3⟩
          replace HB9 := hidden (HB9.out.grow a3)
          refine hK.out _ _ (grow_trans hHeld a3) (fun hHeld => ?_)
          clear hK KQ
          refine tkp 9 (.tuple #[.agg (encP z32 (.slice none 0 0)).toArray, .int .i64 1]) hHeld ?_
          simp only [Act.put, zq1, zq2, zq3, zq4, zq5, zq6]
          refine tkp 10 (.agg (encP z32 (.slice none 0 0)).toArray) hHeld ?_
          simp only [Act.put, zq1, zq2, zq3, zq4, zq5, zq6]
          refine tkp 11 (.int .i64 1) hHeld ?_
          simp only [Act.put, zq1, zq2, zq3, zq4, zq5, zq6]
          refine wpAnyH_ready (rs := [13]) (by kernel_rfl) (by simp) ?_
          refine AllReadyH.cons rfl (fun KQ hK => ?_) AllReadyH.nil
          refine step_sto _ rfl _ _ _ rfl g9 _ (encP z32 (.slice none 0 0)).toArray rfl rfl HB9.out HZ.out rfl (encP_one z32 none 0 0) ?_
          intro z5 B5 r5
          have HB5 := hidden B5
          have HBL5 : Hid (Below wr.heap.size wr z5) := below_row hHeld r5 HG9.out
          refine hK.out _ _ HBL5.out (fun hHeld => ?_)
          clear hK KQ B5 r5
          refine tkp 14 (.int .i64 1) hHeld ?_
          simp only [Act.put, zq1, zq2, zq3, zq4, zq5, zq6]
          refine wpAnyH_done (by kernel_rfl) ?_ _
          go_wp2_with fail
          have HBd := hidden (below_drewN (Below.refl z5.heap.size z5) 1)
          have HV5 : Hid (∀ w', Below z5.heap.size z5 w' → w'.cell? ⟨g9, 32, none⟩ = some (.slice none 0 0)) := fun w' hb => by rw [(HB5.out.grow hb).cell]; rfl
          have HK5 : Hid (∀ w', Below z5.heap.size z5 w' → w'.rangeAt g9 0 (B z32).toList) := fun w' hb => by rw [B_toList]; exact rng_mid (p := []) (r := [.slice none 0 0]) (HB5.out.grow hb) rfl
          refine wp_region_held_drew (S := fun w' => Below wr.heap.size wr w' ∧ Below z5.heap.size z5 w') (by kernel_rfl) (⟨below_drewN hHeld 1, HBd.out⟩) (fun hHeld => ?_)
          refine tkp 0 (.slice (some ⟨bl, 0, none⟩) 2 2) hHeld ?_
          simp only [Act.put, zq1, zq2, zq4, zq5, zq6]
          refine tkp 1 (.int .i64 0) hHeld ?_
          simp only [Act.put, zq1, zq2, zq3, zq4, zq5, zq6]
          refine tkp 2 (.pointer (some ⟨bl, 0, none⟩)) hHeld ?_
          simp only [Act.put, zq1, zq2, zq3, zq4, zq5, zq6]
          refine tkg 3 (.pointer none) rfl (Or.inl ⟨by rfl, fun w hS => by (have q1 := HC0.out _ (grow_trans HBW.out hS.1); go_simp)⟩) hHeld ?_
          simp only [Act.put, zq1, zq2, zq3, zq4, zq5, zq6]
          refine tkp 4 (.pointer (some ⟨b1, 0, none⟩)) hHeld ?_
          simp only [Act.put, zq1, zq2, zq3, zq4, zq5, zq6]
          refine tkg 5 (.int .i64 hh) rfl (Or.inl ⟨by rfl, fun w hS => by (have q1 := ak_h (HB1.out _ (grow_trans HBW.out hS.1)); go_simp)⟩) hHeld ?_
          simp only [Act.put, zq1, zq2, zq3, zq4, zq5, zq6]
          refine tkp 6 (.pointer (some ⟨b1, 1, none⟩)) hHeld ?_
          simp only [Act.put, zq1, zq2, zq3, zq4, zq5, zq6]
          refine tkg 7 (.agg (B K)) rfl (yieldsIf_load_mid rfl 23 (.tmp 65) rfl b1 1 rfl (B K).toList _ (fun w hS => by rw [B_toList]; exact ak_key (HB1.out _ (grow_trans HBW.out hS.1))) Tryz.underlying23 rfl HPK.out) hHeld ?_
          simp only [Act.put, zq1, zq2, zq3, zq4, zq5, zq6]
          refine tkp 8 (.pointer (some ⟨b1, 33, none⟩)) hHeld ?_
          simp only [Act.put, zq1, zq2, zq3, zq4, zq5, zq6]
          refine tkg 9 (.agg (B T)) rfl (yieldsIf_load_mid rfl 23 (.tmp 67) rfl b1 33 rfl (B T).toList _ (fun w hS => by rw [B_toList]; exact ak_to (HB1.out _ (grow_trans HBW.out hS.1)) HKL.out) Tryz.underlying23 rfl HPT.out) hHeld ?_
          simp only [Act.put, zq1, zq2, zq3, zq4, zq5, zq6]
          refine wpAnyH_ready (rs := [10]) (by kernel_rfl) (by simp) ?_
          refine AllReadyH.cons rfl (fun KQ hK => ?_) AllReadyH.nil
          go_simp
          refine (HBT.out _ hHeld.1).mono ?_
          rintro e z6 ⟨rfl, a1⟩
          refine hK.out _ _ (⟨grow_trans hHeld.1 a1, grow_trans hHeld.2 a1⟩) (fun hHeld => ?_)
          clear hK KQ
          refine tkp 11 (.tuple #[.int .i64 0, .int .i64 1]) hHeld ?_
          simp only [Act.put, zq1, zq2, zq3, zq4, zq5, zq6]
          refine tkp 12 (.int .i64 0) hHeld ?_
          simp only [Act.put, zq1, zq2, zq3, zq4, zq5, zq6]
          refine tkp 13 (.int .i64 1) hHeld ?_
          simp only [Act.put, zq1, zq2, zq3, zq4, zq5, zq6]
          refine tkp 14 (.int .i64 0) hHeld ?_
          simp only [Act.put, zq1, zq2, zq3, zq4, zq5, zq6]
          refine tkp 15 (.int .i64 1) hHeld ?_
          simp only [Act.put, zq1, zq2, zq3, zq4, zq5, zq6]
          refine wpAnyH_done (by kernel_rfl) ?_ _
          go_wp2_with fail
          refine wp_region_held_drew (S := fun w' => Below wr.heap.size wr w' ∧ Below z5.heap.size z5 w') (by kernel_rfl) (⟨below_drewN hHeld.1 1, below_drewN hHeld.2 1⟩) (fun hHeld => ?_)
          refine tkp 0 (.slice (some ⟨bl, 0, none⟩) 2 2) hHeld ?_
          simp only [Act.put, zq1, zq2, zq4, zq5, zq6]
          refine tkp 1 (.int .i64 0) hHeld ?_
          simp only [Act.put, zq1, zq2, zq3, zq4, zq5, zq6]
          refine tkp 2 (.pointer (some ⟨bl, 0, none⟩)) hHeld ?_
          simp only [Act.put, zq1, zq2, zq3, zq4, zq5, zq6]
          refine tkg 3 (.pointer none) rfl (Or.inl ⟨by rfl, fun w hS => by (have q1 := HC0.out _ (grow_trans HBW.out hS.1); go_simp)⟩) hHeld ?_
          simp only [Act.put, zq1, zq2, zq3, zq4, zq5, zq6]
          refine tkp 4 (.pointer (some ⟨b1, 0, none⟩)) hHeld ?_
          simp only [Act.put, zq1, zq2, zq3, zq4, zq5, zq6]
          refine tkg 5 (.int .i64 hh) rfl (Or.inl ⟨by rfl, fun w hS => by (have q1 := ak_h (HB1.out _ (grow_trans HBW.out hS.1)); go_simp)⟩) hHeld ?_
          simp only [Act.put, zq1, zq2, zq3, zq4, zq5, zq6]
          refine tkp 6 (.pointer (some ⟨b1, 1, none⟩)) hHeld ?_
          simp only [Act.put, zq1, zq2, zq3, zq4, zq5, zq6]
          refine tkg 7 (.agg (B K)) rfl (yieldsIf_load_mid rfl 23 (.tmp 79) rfl b1 1 rfl (B K).toList _ (fun w hS => by rw [B_toList]; exact ak_key (HB1.out _ (grow_trans HBW.out hS.1))) Tryz.underlying23 rfl HPK.out) hHeld ?_
          simp only [Act.put, zq1, zq2, zq3, zq4, zq5, zq6]
          refine tkp 8 (.pointer (some ⟨b1, 66, none⟩)) hHeld ?_
          simp only [Act.put, zq1, zq2, zq3, zq4, zq5, zq6]
          refine tkg 9 (.int .i64 mm) rfl (Or.inl ⟨by rfl, fun w hS => by (have q1 := ak_m (HB1.out _ (grow_trans HBW.out hS.1)) HKL.out HTL.out; go_simp)⟩) hHeld ?_
          simp only [Act.put, zq1, zq2, zq3, zq4, zq5, zq6]
          refine wpAnyH_ready (rs := [10]) (by kernel_rfl) (by simp) ?_
          refine AllReadyH.cons rfl (fun KQ hK => ?_) AllReadyH.nil
          go_simp
          refine (HSM.out _ hHeld.1).mono ?_
          rintro e z7 ⟨rfl, a1⟩
          refine hK.out _ _ (⟨grow_trans hHeld.1 a1, grow_trans hHeld.2 a1⟩) (fun hHeld => ?_)
          clear hK KQ
          refine tkp 11 (.tuple #[.slice none 0 0, .int .i64 1]) hHeld ?_
          simp only [Act.put, zq1, zq2, zq3, zq4, zq5, zq6]
          refine tkp 12 (.slice none 0 0) hHeld ?_
          simp only [Act.put, zq1, zq2, zq3, zq4, zq5, zq6]
          refine tkp 13 (.int .i64 1) hHeld ?_
          simp only [Act.put, zq1, zq2, zq3, zq4, zq5, zq6]
          refine tkp 14 (.slice none 0 0) hHeld ?_
          simp only [Act.put, zq1, zq2, zq3, zq4, zq5, zq6]
          refine tkp 15 (.int .i64 1) hHeld ?_
          simp only [Act.put, zq1, zq2, zq3, zq4, zq5, zq6]
          refine wpAnyH_done (by kernel_rfl) ?_ _
          go_wp2_with fail
          refine wp_region_held_drew (S := fun w' => Below wr.heap.size wr w' ∧ Below z5.heap.size z5 w') (by kernel_rfl) (⟨below_drewN hHeld.1 1, below_drewN hHeld.2 1⟩) (fun hHeld => ?_)
          refine tkp 0 (.int .i64 0) hHeld ?_
          simp only [Act.put, zq1, zq2, zq4, zq5, zq6]
          refine tkp 1 (.int .i64 0) hHeld ?_
          simp only [Act.put, zq1, zq2, zq3, zq4, zq5, zq6]
          refine tkg 2 (.int .i64 0) rfl (Or.inl ⟨by rfl, fun w hS => by (go_simp; rfl)⟩) hHeld ?_
          simp only [Act.put, zq1, zq2, zq3, zq4, zq5, zq6]
          refine tkp 3 (.int .i64 0) hHeld ?_
          simp only [Act.put, zq1, zq2, zq3, zq4, zq5, zq6]
          refine tkg 4 (.int .i64 0) rfl (Or.inl ⟨by rfl, fun w hS => by (go_simp; rfl)⟩) hHeld ?_
          simp only [Act.put, zq1, zq2, zq3, zq4, zq5, zq6]
          refine tkp 5 (.slice none 0 0) hHeld ?_
          simp only [Act.put, zq1, zq2, zq3, zq4, zq5, zq6]
          refine tkp 6 (.int .i64 0) hHeld ?_
          simp only [Act.put, zq1, zq2, zq3, zq4, zq5, zq6]
          refine tkg 7 (.int .i64 0) rfl (Or.inl ⟨by rfl, fun w hS => by (go_simp; rfl)⟩) hHeld ?_
          simp only [Act.put, zq1, zq2, zq3, zq4, zq5, zq6]
          refine tkp 8 (.pointer (some ⟨g9, 32, none⟩)) hHeld ?_
          simp only [Act.put, zq1, zq2, zq3, zq4, zq5, zq6]
          refine tkg 9 (.slice none 0 0) rfl (Or.inl ⟨by rfl, fun w hS => by (have q1 := HV5.out _ hS.2; go_simp)⟩) hHeld ?_
          simp only [Act.put, zq1, zq2, zq3, zq4, zq5, zq6]
          refine tkp 10 (.int .i64 0) hHeld ?_
          simp only [Act.put, zq1, zq2, zq3, zq4, zq5, zq6]
          refine tkg 11 (.int .i64 0) rfl (Or.inl ⟨by rfl, fun w hS => by (go_simp; rfl)⟩) hHeld ?_
          simp only [Act.put, zq1, zq2, zq3, zq4, zq5, zq6]
          refine tkp 12 (.bool false) hHeld ?_
          simp only [Act.put, zq1, zq2, zq3, zq4, zq5, zq6]
          refine tkp 13 (.bool false) hHeld ?_
          simp only [Act.put, zq1, zq2, zq3, zq4, zq5, zq6]
          refine tkp 14 (.pointer (some ⟨g9, 0, none⟩)) hHeld ?_
          simp only [Act.put, zq1, zq2, zq3, zq4, zq5, zq6]
          refine tkg 15 (.agg (B z32)) rfl (yieldsIf_load_mid rfl 23 (.tmp 100) rfl g9 0 rfl (B z32).toList _ (fun w hS => HK5.out _ hS.2) Tryz.underlying23 rfl HPZ.out) hHeld ?_
          simp only [Act.put, zq1, zq2, zq3, zq4, zq5, zq6]
          refine tkg 16 (.agg (B z32)) rfl (Or.inl ⟨by rfl, fun w hS => exec_blc _ _ 23 _ (by rfl) _ (by rw [List.map_toArray]; exact HB0.out) w⟩) hHeld ?_
          simp only [Act.put, zq1, zq2, zq3, zq4, zq5, zq6]
          refine tkg 17 (.bool false) rfl (Or.inl ⟨by rfl, fun w hS => by (have q1 := HEQ.out w; go_simp)⟩) hHeld ?_
          simp only [Act.put, zq1, zq2, zq3, zq4, zq5, zq6]
          refine tkp 18 (.bool false) hHeld ?_
          simp only [Act.put, zq1, zq2, zq3, zq4, zq5, zq6]
          refine tkp 19 (.bool false) hHeld ?_
          simp only [Act.put, zq1, zq2, zq3, zq4, zq5, zq6]
          refine tkp 20 (.int .i64 1) hHeld ?_
          simp only [Act.put, zq1, zq2, zq3, zq4, zq5, zq6]
          refine tkp 21 (.bool false) hHeld ?_
          simp only [Act.put, zq1, zq2, zq3, zq4, zq5, zq6]
          refine tkp 22 (.bool false) hHeld ?_
          simp only [Act.put, zq1, zq2, zq3, zq4, zq5, zq6]
          refine tkp 23 (.bool false) hHeld ?_
          simp only [Act.put, zq1, zq2, zq3, zq4, zq5, zq6]
          refine tkp 24 (.int .i64 1) hHeld ?_
          simp only [Act.put, zq1, zq2, zq3, zq4, zq5, zq6]
          refine tkp 25 (.bool false) hHeld ?_
          simp only [Act.put, zq1, zq2, zq3, zq4, zq5, zq6]
          refine tkp 26 (.bool false) hHeld ?_
          simp only [Act.put, zq1, zq2, zq3, zq4, zq5, zq6]
          refine tkp 27 (.bool false) hHeld ?_
          simp only [Act.put, zq1, zq2, zq3, zq4, zq5, zq6]
          refine tkp 28 (.int .i64 1) hHeld ?_
          simp only [Act.put, zq1, zq2, zq3, zq4, zq5, zq6]
          refine tkp 29 (.bool false) hHeld ?_
          simp only [Act.put, zq1, zq2, zq3, zq4, zq5, zq6]
          refine tkp 30 (.bool false) hHeld ?_
          simp only [Act.put, zq1, zq2, zq3, zq4, zq5, zq6]
          refine tkp 31 (.bool false) hHeld ?_
          simp only [Act.put, zq1, zq2, zq3, zq4, zq5, zq6]
          refine tkp 32 (.int .i64 1) hHeld ?_
          simp only [Act.put, zq1, zq2, zq3, zq4, zq5, zq6]
          refine tkp 33 (.bool false) hHeld ?_
          simp only [Act.put, zq1, zq2, zq3, zq4, zq5, zq6]
          refine tkp 34 (.bool false) hHeld ?_
          simp only [Act.put, zq1, zq2, zq3, zq4, zq5, zq6]
          refine tkp 35 (.bool false) hHeld ?_
          simp only [Act.put, zq1, zq2, zq3, zq4, zq5, zq6]
          refine tkp 36 (.int .i64 1) hHeld ?_
          simp only [Act.put, zq1, zq2, zq3, zq4, zq5, zq6]
          refine tkp 37 (.bool false) hHeld ?_
          simp only [Act.put, zq1, zq2, zq3, zq4, zq5, zq6]
          refine tkp 38 (.bool false) hHeld ?_
          simp only [Act.put, zq1, zq2, zq3, zq4, zq5, zq6]
          refine tkp 39 (.bool false) hHeld ?_
          simp only [Act.put, zq1, zq2, zq3, zq4, zq5, zq6]
          refine tkp 40 (.slice (some ⟨bl, 0, none⟩) 2 2) hHeld ?_
          simp only [Act.put, zq1, zq2, zq3, zq4, zq5, zq6]
          refine tkp 41 (.int .i64 0) hHeld ?_
          simp only [Act.put, zq1, zq2, zq3, zq4, zq5, zq6]
          refine tkp 42 (.pointer (some ⟨bl, 0, none⟩)) hHeld ?_
          simp only [Act.put, zq1, zq2, zq3, zq4, zq5, zq6]
          refine tkg 43 (.pointer none) rfl (Or.inl ⟨by rfl, fun w hS => by (have q1 := HC0.out _ (grow_trans HBW.out hS.1); go_simp)⟩) hHeld ?_
          simp only [Act.put, zq1, zq2, zq3, zq4, zq5, zq6]
          refine tkp 44 (.pointer (some ⟨b1, 0, none⟩)) hHeld ?_
          simp only [Act.put, zq1, zq2, zq3, zq4, zq5, zq6]
          refine tkg 45 (.int .i64 hh) rfl (Or.inl ⟨by rfl, fun w hS => by (have q1 := ak_h (HB1.out _ (grow_trans HBW.out hS.1)); go_simp)⟩) hHeld ?_
          simp only [Act.put, zq1, zq2, zq3, zq4, zq5, zq6]
          refine wpAnyH_ready (rs := [46]) (by kernel_rfl) (by simp) ?_
          refine AllReadyH.cons rfl (fun KQ hK => ?_) AllReadyH.nil
          go_simp
          refine (HAL.out _ hHeld.1).mono ?_
          rintro e y46 ⟨b5, rfl, _, hO, a1⟩
          have HO := hidden hO
          clear hO
          refine hK.out _ _ (⟨grow_trans hHeld.1 a1, grow_trans hHeld.2 a1⟩) (fun hHeld => ?_)
          clear hK KQ
          refine wpAnyH_ready (rs := [47]) (by kernel_rfl) (by simp) ?_
          refine AllReadyH.cons rfl (fun KQ hK => ?_) AllReadyH.nil
          go_simp
          refine (gone13_any HO.out (by simp) (fun e he => by simp at he) none 0 (fun _ => undef) prAt_nil13 0).mono ?_
          rintro e y47 ⟨rfl, a1⟩
          clear HO
          refine hK.out _ _ (⟨grow_trans hHeld.1 a1, grow_trans hHeld.2 a1⟩) (fun hHeld => ?_)
          clear hK KQ
          refine tkp 48 (.bool false) hHeld ?_
          simp only [Act.put, zq1, zq2, zq3, zq4, zq5, zq6]
          refine tkp 49 (.bool false) hHeld ?_
          simp only [Act.put, zq1, zq2, zq3, zq4, zq5, zq6]
          refine tkp 50 (.bool false) hHeld ?_
          simp only [Act.put, zq1, zq2, zq3, zq4, zq5, zq6]
          refine tkp 51 (.slice (some ⟨bl, 0, none⟩) 2 2) hHeld ?_
          simp only [Act.put, zq1, zq2, zq3, zq4, zq5, zq6]
          refine tkp 52 (.int .i64 0) hHeld ?_
          simp only [Act.put, zq1, zq2, zq3, zq4, zq5, zq6]
          refine tkp 53 (.pointer (some ⟨bl, 0, none⟩)) hHeld ?_
          simp only [Act.put, zq1, zq2, zq3, zq4, zq5, zq6]
          refine tkg 54 (.pointer none) rfl (Or.inl ⟨by rfl, fun w hS => by (have q1 := HC0.out _ (grow_trans HBW.out hS.1); go_simp)⟩) hHeld ?_
          simp only [Act.put, zq1, zq2, zq3, zq4, zq5, zq6]
          refine tkp 55 (.pointer (some ⟨b1, 0, none⟩)) hHeld ?_
          simp only [Act.put, zq1, zq2, zq3, zq4, zq5, zq6]
          refine tkg 56 (.int .i64 hh) rfl (Or.inl ⟨by rfl, fun w hS => by (have q1 := ak_h (HB1.out _ (grow_trans HBW.out hS.1)); go_simp)⟩) hHeld ?_
          simp only [Act.put, zq1, zq2, zq3, zq4, zq5, zq6]
          refine tkp 57 (.pointer (some ⟨b1, 1, none⟩)) hHeld ?_
          simp only [Act.put, zq1, zq2, zq3, zq4, zq5, zq6]
          refine tkg 58 (.agg (B K)) rfl (yieldsIf_load_mid rfl 23 (.tmp 143) rfl b1 1 rfl (B K).toList _ (fun w hS => by rw [B_toList]; exact ak_key (HB1.out _ (grow_trans HBW.out hS.1))) Tryz.underlying23 rfl HPK.out) hHeld ?_
          simp only [Act.put, zq1, zq2, zq3, zq4, zq5, zq6]
          refine wpAnyH_ready (rs := [59]) (by kernel_rfl) (by simp) ?_
          refine AllReadyH.cons rfl (fun KQ hK => ?_) AllReadyH.nil
          go_simp
          refine (HFR.out _ hHeld.1).mono ?_
          rintro e y59 ⟨b5, rfl, _, hO, a1⟩
          have HO := hidden hO
          clear hO
          refine hK.out _ _ (⟨grow_trans hHeld.1 a1, grow_trans hHeld.2 a1⟩) (fun hHeld => ?_)
          clear hK KQ
          refine wpAnyH_ready (rs := [60]) (by kernel_rfl) (by simp) ?_
          refine AllReadyH.cons rfl (fun KQ hK => ?_) AllReadyH.nil
          go_simp
          refine (gone13_any HO.out (by simp) (fun e he => by simp at he) none 0 (fun _ => undef) prAt_nil13 0).mono ?_
          rintro e y60 ⟨rfl, a1⟩
          clear HO
          refine hK.out _ _ (⟨grow_trans hHeld.1 a1, grow_trans hHeld.2 a1⟩) (fun hHeld => ?_)
          clear hK KQ
          refine tkp 61 (.bool false) hHeld ?_
          simp only [Act.put, zq1, zq2, zq3, zq4, zq5, zq6]
          refine tkp 62 (.bool false) hHeld ?_
          simp only [Act.put, zq1, zq2, zq3, zq4, zq5, zq6]
          refine wpAnyH_done (by kernel_rfl) ?_ _
          have HL6 := hidden hHeld.1
          clear hHeld
          go_wp2_with fail
          exact ⟨.inr (.inl ⟨by go_num, hidden (grow_trans HBW.out HL6.out)⟩), by simp [intOf]⟩
    · as_aux_lemma =>
        have HN : Hid (∀ w', Below w4.heap.size w4 w' → NoS w' (.pointer (some ⟨bs, 0, none⟩))) := HNB.out
        have HCO : Hid (∀ w', Below wr.heap.size wr w' → Calls Tryz.prog 9 #[.pointer (some ⟨bs, 0, none⟩), .int .i64 hh] w' fun e w'' => e = .returned (.tuple #[.int .i64 0, .int .i64 1]) ∧ Below w'.heap.size w' w'') := fun w' hb => count13_bad (vw_no (HN.out _ (grow_trans HBW.out hb))) hh 1 rfl (by omega)
        have HRA : Hid (∀ w', Below wr.heap.size wr w' → Calls Tryz.prog 10 #[.pointer (some ⟨bs, 0, none⟩), .int .i64 hh, .agg (B K)] w' fun e w'' => e = .returned (.tuple #[.int .i64 0, .int .i64 1]) ∧ Below w'.heap.size w' w'') := fun w' hb => rank_bad (vw_no (HN.out _ (grow_trans HBW.out hb))) hh K 1 rfl (by omega)
        have HNT : Hid (∀ w', Below wr.heap.size wr w' → Calls Tryz.prog 11 #[.pointer (some ⟨bs, 0, none⟩), .int .i64 hh, .int .i64 nn] w' fun e w'' => e = .returned (.tuple #[.agg (encP z32 (.slice none 0 0)).toArray, .int .i64 1]) ∧ Below w'.heap.size w' w'') := fun w' hb => nth_bad (vw_no (HN.out _ (grow_trans HBW.out hb))) hh nn 1 rfl (by omega)
        have HBT : Hid (∀ w', Below wr.heap.size wr w' → Calls Tryz.prog 12 #[.pointer (some ⟨bs, 0, none⟩), .int .i64 hh, .agg (B K), .agg (B T)] w' fun e w'' => e = .returned (.tuple #[.int .i64 0, .int .i64 1]) ∧ Below w'.heap.size w' w'') := fun w' hb => between_bad (vw_no (HN.out _ (grow_trans HBW.out hb))) hh K T HK.out 1 rfl (by omega)
        have HSM : Hid (∀ w', Below wr.heap.size wr w' → Calls Tryz.prog 13 #[.pointer (some ⟨bs, 0, none⟩), .int .i64 hh, .agg (B K), .int .i64 mm] w' fun e w'' => e = .returned (.tuple #[.slice none 0 0, .int .i64 1]) ∧ Below w'.heap.size w' w'') := fun w' hb => some_bad (vw_no (HN.out _ (grow_trans HBW.out hb))) hh K HK.out mm 1 rfl (by omega)
        have HAL : Hid (∀ w', Below wr.heap.size wr w' → Calls Tryz.prog 15 #[.pointer (some ⟨bs, 0, none⟩), .int .i64 hh] w' (OvPost w' [])) := fun w' hb => all_bad (vw_no (HN.out _ (grow_trans HBW.out hb))) hh 1 rfl (by omega)
        have HFR : Hid (∀ w', Below wr.heap.size wr w' → Calls Tryz.prog 16 #[.pointer (some ⟨bs, 0, none⟩), .int .i64 hh, .agg (B K)] w' (OvPost w' [])) := fun w' hb => from_bad (vw_no (HN.out _ (grow_trans HBW.out hb))) hh K HK.out 1 rfl (by omega)
        clear HN
        go_wp2_with fail
        refine wp_region_held_drew (S := fun w' => Below wr.heap.size wr w') (by kernel_rfl) ((below_drewN (Below.refl _ _) 1)) (fun hHeld => ?_)
        refine tkp 0 (.slice (some ⟨bl, 0, none⟩) 2 2) hHeld ?_
        simp only [Act.put, zq1, zq2, zq4, zq5, zq6]
        refine tkp 1 (.int .i64 1) hHeld ?_
        simp only [Act.put, zq1, zq2, zq3, zq4, zq5, zq6]
        refine tkp 2 (.pointer (some ⟨bl, 1, none⟩)) hHeld ?_
        simp only [Act.put, zq1, zq2, zq3, zq4, zq5, zq6]
        refine tkg 3 (.pointer (some ⟨bs, 0, none⟩)) rfl (Or.inl ⟨by rfl, fun w hS => by (have q1 := HC1.out _ (grow_trans HBW.out hS); go_simp)⟩) hHeld ?_
        simp only [Act.put, zq1, zq2, zq3, zq4, zq5, zq6]
        refine tkp 4 (.pointer (some ⟨b1, 0, none⟩)) hHeld ?_
        simp only [Act.put, zq1, zq2, zq3, zq4, zq5, zq6]
        refine tkg 5 (.int .i64 hh) rfl (Or.inl ⟨by rfl, fun w hS => by (have q1 := ak_h (HB1.out _ (grow_trans HBW.out hS)); go_simp)⟩) hHeld ?_
        simp only [Act.put, zq1, zq2, zq3, zq4, zq5, zq6]
        refine wpAnyH_ready (rs := [6]) (by kernel_rfl) (by simp) ?_
        refine AllReadyH.cons rfl (fun KQ hK => ?_) AllReadyH.nil
        go_simp
        refine (HCO.out _ hHeld).mono ?_
        rintro e z1 ⟨rfl, a1⟩
        refine hK.out _ _ (grow_trans hHeld a1) (fun hHeld => ?_)
        clear hK KQ
        refine tkp 7 (.tuple #[.int .i64 0, .int .i64 1]) hHeld ?_
        simp only [Act.put, zq1, zq2, zq3, zq4, zq5, zq6]
        refine tkp 8 (.int .i64 0) hHeld ?_
        simp only [Act.put, zq1, zq2, zq3, zq4, zq5, zq6]
        refine tkp 9 (.int .i64 1) hHeld ?_
        simp only [Act.put, zq1, zq2, zq3, zq4, zq5, zq6]
        refine tkp 10 (.int .i64 0) hHeld ?_
        simp only [Act.put, zq1, zq2, zq3, zq4, zq5, zq6]
        refine tkp 11 (.int .i64 1) hHeld ?_
        simp only [Act.put, zq1, zq2, zq3, zq4, zq5, zq6]
        refine wpAnyH_done (by kernel_rfl) ?_ _
        go_wp2_with fail
        refine wp_region_held_drew (S := fun w' => Below wr.heap.size wr w') (by kernel_rfl) ((below_drewN hHeld 1)) (fun hHeld => ?_)
        refine tkp 0 (.slice (some ⟨bl, 0, none⟩) 2 2) hHeld ?_
        simp only [Act.put, zq1, zq2, zq4, zq5, zq6]
        refine tkp 1 (.int .i64 1) hHeld ?_
        simp only [Act.put, zq1, zq2, zq3, zq4, zq5, zq6]
        refine tkp 2 (.pointer (some ⟨bl, 1, none⟩)) hHeld ?_
        simp only [Act.put, zq1, zq2, zq3, zq4, zq5, zq6]
        refine tkg 3 (.pointer (some ⟨bs, 0, none⟩)) rfl (Or.inl ⟨by rfl, fun w hS => by (have q1 := HC1.out _ (grow_trans HBW.out hS); go_simp)⟩) hHeld ?_
        simp only [Act.put, zq1, zq2, zq3, zq4, zq5, zq6]
        refine tkp 4 (.pointer (some ⟨b1, 0, none⟩)) hHeld ?_
        simp only [Act.put, zq1, zq2, zq3, zq4, zq5, zq6]
        refine tkg 5 (.int .i64 hh) rfl (Or.inl ⟨by rfl, fun w hS => by (have q1 := ak_h (HB1.out _ (grow_trans HBW.out hS)); go_simp)⟩) hHeld ?_
        simp only [Act.put, zq1, zq2, zq3, zq4, zq5, zq6]
        refine tkp 6 (.pointer (some ⟨b1, 1, none⟩)) hHeld ?_
        simp only [Act.put, zq1, zq2, zq3, zq4, zq5, zq6]
        refine tkg 7 (.agg (B K)) rfl (yieldsIf_load_mid rfl 23 (.tmp 41) rfl b1 1 rfl (B K).toList _ (fun w hS => by rw [B_toList]; exact ak_key (HB1.out _ (grow_trans HBW.out hS))) Tryz.underlying23 rfl HPK.out) hHeld ?_
        simp only [Act.put, zq1, zq2, zq3, zq4, zq5, zq6]
        refine wpAnyH_ready (rs := [8]) (by kernel_rfl) (by simp) ?_
        refine AllReadyH.cons rfl (fun KQ hK => ?_) AllReadyH.nil
        go_simp
        refine (HRA.out _ hHeld).mono ?_
        rintro e z2 ⟨rfl, a1⟩
        refine hK.out _ _ (grow_trans hHeld a1) (fun hHeld => ?_)
        clear hK KQ
        refine tkp 9 (.tuple #[.int .i64 0, .int .i64 1]) hHeld ?_
        simp only [Act.put, zq1, zq2, zq3, zq4, zq5, zq6]
        refine tkp 10 (.int .i64 0) hHeld ?_
        simp only [Act.put, zq1, zq2, zq3, zq4, zq5, zq6]
        refine tkp 11 (.int .i64 1) hHeld ?_
        simp only [Act.put, zq1, zq2, zq3, zq4, zq5, zq6]
        refine tkp 12 (.int .i64 0) hHeld ?_
        simp only [Act.put, zq1, zq2, zq3, zq4, zq5, zq6]
        refine tkp 13 (.int .i64 1) hHeld ?_
        simp only [Act.put, zq1, zq2, zq3, zq4, zq5, zq6]
        refine wpAnyH_done (by kernel_rfl) ?_ _
        go_wp2_with fail
        refine wp_region_held_drew (S := fun w' => Below wr.heap.size wr w') (by kernel_rfl) ((below_drewN hHeld 1)) (fun hHeld => ?_)
        refine tkp 0 (.slice (some ⟨bl, 0, none⟩) 2 2) hHeld ?_
        simp only [Act.put, zq1, zq2, zq4, zq5, zq6]
        refine tkp 1 (.int .i64 1) hHeld ?_
        simp only [Act.put, zq1, zq2, zq3, zq4, zq5, zq6]
        refine tkp 2 (.pointer (some ⟨bl, 1, none⟩)) hHeld ?_
        simp only [Act.put, zq1, zq2, zq3, zq4, zq5, zq6]
        refine tkg 3 (.pointer (some ⟨bs, 0, none⟩)) rfl (Or.inl ⟨by rfl, fun w hS => by (have q1 := HC1.out _ (grow_trans HBW.out hS); go_simp)⟩) hHeld ?_
        simp only [Act.put, zq1, zq2, zq3, zq4, zq5, zq6]
        refine tkp 4 (.pointer (some ⟨b1, 0, none⟩)) hHeld ?_
        simp only [Act.put, zq1, zq2, zq3, zq4, zq5, zq6]
        refine tkg 5 (.int .i64 hh) rfl (Or.inl ⟨by rfl, fun w hS => by (have q1 := ak_h (HB1.out _ (grow_trans HBW.out hS)); go_simp)⟩) hHeld ?_
        simp only [Act.put, zq1, zq2, zq3, zq4, zq5, zq6]
        refine tkp 6 (.pointer (some ⟨b1, 65, none⟩)) hHeld ?_
        simp only [Act.put, zq1, zq2, zq3, zq4, zq5, zq6]
        refine tkg 7 (.int .i64 nn) rfl (Or.inl ⟨by rfl, fun w hS => by (have q1 := ak_n (HB1.out _ (grow_trans HBW.out hS)) HKL.out HTL.out; go_simp)⟩) hHeld ?_
        simp only [Act.put, zq1, zq2, zq3, zq4, zq5, zq6]
        refine wpAnyH_ready (rs := [8, 12]) (by kernel_rfl) (by simp) ?_
        refine AllReadyH.cons rfl (fun KQ hK => ?_) (AllReadyH.cons rfl (fun KQ hK => ?_) AllReadyH.nil)
        · go_simp
          refine (HNT.out _ hHeld).mono ?_
          rintro e z3 ⟨rfl, a3⟩
          refine hK.out _ _ (grow_trans hHeld a3) (fun hHeld => ?_)
          clear hK KQ
          refine tkp 9 (.tuple #[.agg (encP z32 (.slice none 0 0)).toArray, .int .i64 1]) hHeld ?_
          simp only [Act.put, zq1, zq2, zq3, zq4, zq5, zq6]
          refine tkp 10 (.agg (encP z32 (.slice none 0 0)).toArray) hHeld ?_
          simp only [Act.put, zq1, zq2, zq3, zq4, zq5, zq6]
          refine tkp 11 (.int .i64 1) hHeld ?_
          simp only [Act.put, zq1, zq2, zq3, zq4, zq5, zq6]
          refine wpAnyH_ready (rs := [12]) (by kernel_rfl) (by simp) ?_
          refine AllReadyH.cons rfl (fun KQ hK => ?_) AllReadyH.nil
          refine step_al13 _ rfl _ rfl _ zero_pair ?_
          intro z4 g9 hg9 B4 a4
          have HB9 := hidden B4
          have HG9 : Hid (wr.heap.size ≤ g9) := Nat.le_trans hHeld.size hg9
          refine hK.out _ _ (grow_trans hHeld a4) (fun hHeld => ?_)
          clear hK KQ B4 hg9
          refine wpAnyH_ready (rs := [13]) (by kernel_rfl) (by simp) ?_
          refine AllReadyH.cons rfl (fun KQ hK => ?_) AllReadyH.nil
          refine step_sto _ rfl _ _ _ rfl g9 _ (encP z32 (.slice none 0 0)).toArray rfl rfl HB9.out HZ.out rfl (encP_one z32 none 0 0) ?_
          intro z5 B5 r5
          have HB5 := hidden B5
          have HBL5 : Hid (Below wr.heap.size wr z5) := below_row hHeld r5 HG9.out
          refine hK.out _ _ HBL5.out (fun hHeld => ?_)
          clear hK KQ B5 r5
          refine tkp 14 (.int .i64 1) hHeld ?_
          simp only [Act.put, zq1, zq2, zq3, zq4, zq5, zq6]
          refine wpAnyH_done (by kernel_rfl) ?_ _
          go_wp2_with fail
          have HBd := hidden (below_drewN (Below.refl z5.heap.size z5) 1)
          have HV5 : Hid (∀ w', Below z5.heap.size z5 w' → w'.cell? ⟨g9, 32, none⟩ = some (.slice none 0 0)) := fun w' hb => by rw [(HB5.out.grow hb).cell]; rfl
          have HK5 : Hid (∀ w', Below z5.heap.size z5 w' → w'.rangeAt g9 0 (B z32).toList) := fun w' hb => by rw [B_toList]; exact rng_mid (p := []) (r := [.slice none 0 0]) (HB5.out.grow hb) rfl
          refine wp_region_held_drew (S := fun w' => Below wr.heap.size wr w' ∧ Below z5.heap.size z5 w') (by kernel_rfl) (⟨below_drewN hHeld 1, HBd.out⟩) (fun hHeld => ?_)
          refine tkp 0 (.slice (some ⟨bl, 0, none⟩) 2 2) hHeld ?_
          simp only [Act.put, zq1, zq2, zq4, zq5, zq6]
          refine tkp 1 (.int .i64 1) hHeld ?_
          simp only [Act.put, zq1, zq2, zq3, zq4, zq5, zq6]
          refine tkp 2 (.pointer (some ⟨bl, 1, none⟩)) hHeld ?_
          simp only [Act.put, zq1, zq2, zq3, zq4, zq5, zq6]
          refine tkg 3 (.pointer (some ⟨bs, 0, none⟩)) rfl (Or.inl ⟨by rfl, fun w hS => by (have q1 := HC1.out _ (grow_trans HBW.out hS.1); go_simp)⟩) hHeld ?_
          simp only [Act.put, zq1, zq2, zq3, zq4, zq5, zq6]
          refine tkp 4 (.pointer (some ⟨b1, 0, none⟩)) hHeld ?_
          simp only [Act.put, zq1, zq2, zq3, zq4, zq5, zq6]
          refine tkg 5 (.int .i64 hh) rfl (Or.inl ⟨by rfl, fun w hS => by (have q1 := ak_h (HB1.out _ (grow_trans HBW.out hS.1)); go_simp)⟩) hHeld ?_
          simp only [Act.put, zq1, zq2, zq3, zq4, zq5, zq6]
          refine tkp 6 (.pointer (some ⟨b1, 1, none⟩)) hHeld ?_
          simp only [Act.put, zq1, zq2, zq3, zq4, zq5, zq6]
          refine tkg 7 (.agg (B K)) rfl (yieldsIf_load_mid rfl 23 (.tmp 65) rfl b1 1 rfl (B K).toList _ (fun w hS => by rw [B_toList]; exact ak_key (HB1.out _ (grow_trans HBW.out hS.1))) Tryz.underlying23 rfl HPK.out) hHeld ?_
          simp only [Act.put, zq1, zq2, zq3, zq4, zq5, zq6]
          refine tkp 8 (.pointer (some ⟨b1, 33, none⟩)) hHeld ?_
          simp only [Act.put, zq1, zq2, zq3, zq4, zq5, zq6]
          refine tkg 9 (.agg (B T)) rfl (yieldsIf_load_mid rfl 23 (.tmp 67) rfl b1 33 rfl (B T).toList _ (fun w hS => by rw [B_toList]; exact ak_to (HB1.out _ (grow_trans HBW.out hS.1)) HKL.out) Tryz.underlying23 rfl HPT.out) hHeld ?_
          simp only [Act.put, zq1, zq2, zq3, zq4, zq5, zq6]
          refine wpAnyH_ready (rs := [10]) (by kernel_rfl) (by simp) ?_
          refine AllReadyH.cons rfl (fun KQ hK => ?_) AllReadyH.nil
          go_simp
          refine (HBT.out _ hHeld.1).mono ?_
          rintro e z6 ⟨rfl, a1⟩
          refine hK.out _ _ (⟨grow_trans hHeld.1 a1, grow_trans hHeld.2 a1⟩) (fun hHeld => ?_)
          clear hK KQ
          refine tkp 11 (.tuple #[.int .i64 0, .int .i64 1]) hHeld ?_
          simp only [Act.put, zq1, zq2, zq3, zq4, zq5, zq6]
          refine tkp 12 (.int .i64 0) hHeld ?_
          simp only [Act.put, zq1, zq2, zq3, zq4, zq5, zq6]
          refine tkp 13 (.int .i64 1) hHeld ?_
          simp only [Act.put, zq1, zq2, zq3, zq4, zq5, zq6]
          refine tkp 14 (.int .i64 0) hHeld ?_
          simp only [Act.put, zq1, zq2, zq3, zq4, zq5, zq6]
          refine tkp 15 (.int .i64 1) hHeld ?_
          simp only [Act.put, zq1, zq2, zq3, zq4, zq5, zq6]
          refine wpAnyH_done (by kernel_rfl) ?_ _
          go_wp2_with fail
          refine wp_region_held_drew (S := fun w' => Below wr.heap.size wr w' ∧ Below z5.heap.size z5 w') (by kernel_rfl) (⟨below_drewN hHeld.1 1, below_drewN hHeld.2 1⟩) (fun hHeld => ?_)
          refine tkp 0 (.slice (some ⟨bl, 0, none⟩) 2 2) hHeld ?_
          simp only [Act.put, zq1, zq2, zq4, zq5, zq6]
          refine tkp 1 (.int .i64 1) hHeld ?_
          simp only [Act.put, zq1, zq2, zq3, zq4, zq5, zq6]
          refine tkp 2 (.pointer (some ⟨bl, 1, none⟩)) hHeld ?_
          simp only [Act.put, zq1, zq2, zq3, zq4, zq5, zq6]
          refine tkg 3 (.pointer (some ⟨bs, 0, none⟩)) rfl (Or.inl ⟨by rfl, fun w hS => by (have q1 := HC1.out _ (grow_trans HBW.out hS.1); go_simp)⟩) hHeld ?_
          simp only [Act.put, zq1, zq2, zq3, zq4, zq5, zq6]
          refine tkp 4 (.pointer (some ⟨b1, 0, none⟩)) hHeld ?_
          simp only [Act.put, zq1, zq2, zq3, zq4, zq5, zq6]
          refine tkg 5 (.int .i64 hh) rfl (Or.inl ⟨by rfl, fun w hS => by (have q1 := ak_h (HB1.out _ (grow_trans HBW.out hS.1)); go_simp)⟩) hHeld ?_
          simp only [Act.put, zq1, zq2, zq3, zq4, zq5, zq6]
          refine tkp 6 (.pointer (some ⟨b1, 1, none⟩)) hHeld ?_
          simp only [Act.put, zq1, zq2, zq3, zq4, zq5, zq6]
          refine tkg 7 (.agg (B K)) rfl (yieldsIf_load_mid rfl 23 (.tmp 79) rfl b1 1 rfl (B K).toList _ (fun w hS => by rw [B_toList]; exact ak_key (HB1.out _ (grow_trans HBW.out hS.1))) Tryz.underlying23 rfl HPK.out) hHeld ?_
          simp only [Act.put, zq1, zq2, zq3, zq4, zq5, zq6]
          refine tkp 8 (.pointer (some ⟨b1, 66, none⟩)) hHeld ?_
          simp only [Act.put, zq1, zq2, zq3, zq4, zq5, zq6]
          refine tkg 9 (.int .i64 mm) rfl (Or.inl ⟨by rfl, fun w hS => by (have q1 := ak_m (HB1.out _ (grow_trans HBW.out hS.1)) HKL.out HTL.out; go_simp)⟩) hHeld ?_
          simp only [Act.put, zq1, zq2, zq3, zq4, zq5, zq6]
          refine wpAnyH_ready (rs := [10]) (by kernel_rfl) (by simp) ?_
          refine AllReadyH.cons rfl (fun KQ hK => ?_) AllReadyH.nil
          go_simp
          refine (HSM.out _ hHeld.1).mono ?_
          rintro e z7 ⟨rfl, a1⟩
          refine hK.out _ _ (⟨grow_trans hHeld.1 a1, grow_trans hHeld.2 a1⟩) (fun hHeld => ?_)
          clear hK KQ
          refine tkp 11 (.tuple #[.slice none 0 0, .int .i64 1]) hHeld ?_
          simp only [Act.put, zq1, zq2, zq3, zq4, zq5, zq6]
          refine tkp 12 (.slice none 0 0) hHeld ?_
          simp only [Act.put, zq1, zq2, zq3, zq4, zq5, zq6]
          refine tkp 13 (.int .i64 1) hHeld ?_
          simp only [Act.put, zq1, zq2, zq3, zq4, zq5, zq6]
          refine tkp 14 (.slice none 0 0) hHeld ?_
          simp only [Act.put, zq1, zq2, zq3, zq4, zq5, zq6]
          refine tkp 15 (.int .i64 1) hHeld ?_
          simp only [Act.put, zq1, zq2, zq3, zq4, zq5, zq6]
          refine wpAnyH_done (by kernel_rfl) ?_ _
          go_wp2_with fail
          refine wp_region_held_drew (S := fun w' => Below wr.heap.size wr w' ∧ Below z5.heap.size z5 w') (by kernel_rfl) (⟨below_drewN hHeld.1 1, below_drewN hHeld.2 1⟩) (fun hHeld => ?_)
          refine tkp 0 (.int .i64 0) hHeld ?_
          simp only [Act.put, zq1, zq2, zq4, zq5, zq6]
          refine tkp 1 (.int .i64 0) hHeld ?_
          simp only [Act.put, zq1, zq2, zq3, zq4, zq5, zq6]
          refine tkg 2 (.int .i64 0) rfl (Or.inl ⟨by rfl, fun w hS => by (go_simp; rfl)⟩) hHeld ?_
          simp only [Act.put, zq1, zq2, zq3, zq4, zq5, zq6]
          refine tkp 3 (.int .i64 0) hHeld ?_
          simp only [Act.put, zq1, zq2, zq3, zq4, zq5, zq6]
          refine tkg 4 (.int .i64 0) rfl (Or.inl ⟨by rfl, fun w hS => by (go_simp; rfl)⟩) hHeld ?_
          simp only [Act.put, zq1, zq2, zq3, zq4, zq5, zq6]
          refine tkp 5 (.slice none 0 0) hHeld ?_
          simp only [Act.put, zq1, zq2, zq3, zq4, zq5, zq6]
          refine tkp 6 (.int .i64 0) hHeld ?_
          simp only [Act.put, zq1, zq2, zq3, zq4, zq5, zq6]
          refine tkg 7 (.int .i64 0) rfl (Or.inl ⟨by rfl, fun w hS => by (go_simp; rfl)⟩) hHeld ?_
          simp only [Act.put, zq1, zq2, zq3, zq4, zq5, zq6]
          refine tkp 8 (.pointer (some ⟨g9, 32, none⟩)) hHeld ?_
          simp only [Act.put, zq1, zq2, zq3, zq4, zq5, zq6]
          refine tkg 9 (.slice none 0 0) rfl (Or.inl ⟨by rfl, fun w hS => by (have q1 := HV5.out _ hS.2; go_simp)⟩) hHeld ?_
          simp only [Act.put, zq1, zq2, zq3, zq4, zq5, zq6]
          refine tkp 10 (.int .i64 0) hHeld ?_
          simp only [Act.put, zq1, zq2, zq3, zq4, zq5, zq6]
          refine tkg 11 (.int .i64 0) rfl (Or.inl ⟨by rfl, fun w hS => by (go_simp; rfl)⟩) hHeld ?_
          simp only [Act.put, zq1, zq2, zq3, zq4, zq5, zq6]
          refine tkp 12 (.bool false) hHeld ?_
          simp only [Act.put, zq1, zq2, zq3, zq4, zq5, zq6]
          refine tkp 13 (.bool false) hHeld ?_
          simp only [Act.put, zq1, zq2, zq3, zq4, zq5, zq6]
          refine tkp 14 (.pointer (some ⟨g9, 0, none⟩)) hHeld ?_
          simp only [Act.put, zq1, zq2, zq3, zq4, zq5, zq6]
          refine tkg 15 (.agg (B z32)) rfl (yieldsIf_load_mid rfl 23 (.tmp 100) rfl g9 0 rfl (B z32).toList _ (fun w hS => HK5.out _ hS.2) Tryz.underlying23 rfl HPZ.out) hHeld ?_
          simp only [Act.put, zq1, zq2, zq3, zq4, zq5, zq6]
          refine tkg 16 (.agg (B z32)) rfl (Or.inl ⟨by rfl, fun w hS => exec_blc _ _ 23 _ (by rfl) _ (by rw [List.map_toArray]; exact HB0.out) w⟩) hHeld ?_
          simp only [Act.put, zq1, zq2, zq3, zq4, zq5, zq6]
          refine tkg 17 (.bool false) rfl (Or.inl ⟨by rfl, fun w hS => by (have q1 := HEQ.out w; go_simp)⟩) hHeld ?_
          simp only [Act.put, zq1, zq2, zq3, zq4, zq5, zq6]
          refine tkp 18 (.bool false) hHeld ?_
          simp only [Act.put, zq1, zq2, zq3, zq4, zq5, zq6]
          refine tkp 19 (.bool false) hHeld ?_
          simp only [Act.put, zq1, zq2, zq3, zq4, zq5, zq6]
          refine tkp 20 (.int .i64 1) hHeld ?_
          simp only [Act.put, zq1, zq2, zq3, zq4, zq5, zq6]
          refine tkp 21 (.bool false) hHeld ?_
          simp only [Act.put, zq1, zq2, zq3, zq4, zq5, zq6]
          refine tkp 22 (.bool false) hHeld ?_
          simp only [Act.put, zq1, zq2, zq3, zq4, zq5, zq6]
          refine tkp 23 (.bool false) hHeld ?_
          simp only [Act.put, zq1, zq2, zq3, zq4, zq5, zq6]
          refine tkp 24 (.int .i64 1) hHeld ?_
          simp only [Act.put, zq1, zq2, zq3, zq4, zq5, zq6]
          refine tkp 25 (.bool false) hHeld ?_
          simp only [Act.put, zq1, zq2, zq3, zq4, zq5, zq6]
          refine tkp 26 (.bool false) hHeld ?_
          simp only [Act.put, zq1, zq2, zq3, zq4, zq5, zq6]
          refine tkp 27 (.bool false) hHeld ?_
          simp only [Act.put, zq1, zq2, zq3, zq4, zq5, zq6]
          refine tkp 28 (.int .i64 1) hHeld ?_
          simp only [Act.put, zq1, zq2, zq3, zq4, zq5, zq6]
          refine tkp 29 (.bool false) hHeld ?_
          simp only [Act.put, zq1, zq2, zq3, zq4, zq5, zq6]
          refine tkp 30 (.bool false) hHeld ?_
          simp only [Act.put, zq1, zq2, zq3, zq4, zq5, zq6]
          refine tkp 31 (.bool false) hHeld ?_
          simp only [Act.put, zq1, zq2, zq3, zq4, zq5, zq6]
          refine tkp 32 (.int .i64 1) hHeld ?_
          simp only [Act.put, zq1, zq2, zq3, zq4, zq5, zq6]
          refine tkp 33 (.bool false) hHeld ?_
          simp only [Act.put, zq1, zq2, zq3, zq4, zq5, zq6]
          refine tkp 34 (.bool false) hHeld ?_
          simp only [Act.put, zq1, zq2, zq3, zq4, zq5, zq6]
          refine tkp 35 (.bool false) hHeld ?_
          simp only [Act.put, zq1, zq2, zq3, zq4, zq5, zq6]
          refine tkp 36 (.int .i64 1) hHeld ?_
          simp only [Act.put, zq1, zq2, zq3, zq4, zq5, zq6]
          refine tkp 37 (.bool false) hHeld ?_
          simp only [Act.put, zq1, zq2, zq3, zq4, zq5, zq6]
          refine tkp 38 (.bool false) hHeld ?_
          simp only [Act.put, zq1, zq2, zq3, zq4, zq5, zq6]
          refine tkp 39 (.bool false) hHeld ?_
          simp only [Act.put, zq1, zq2, zq3, zq4, zq5, zq6]
          refine tkp 40 (.slice (some ⟨bl, 0, none⟩) 2 2) hHeld ?_
          simp only [Act.put, zq1, zq2, zq3, zq4, zq5, zq6]
          refine tkp 41 (.int .i64 1) hHeld ?_
          simp only [Act.put, zq1, zq2, zq3, zq4, zq5, zq6]
          refine tkp 42 (.pointer (some ⟨bl, 1, none⟩)) hHeld ?_
          simp only [Act.put, zq1, zq2, zq3, zq4, zq5, zq6]
          refine tkg 43 (.pointer (some ⟨bs, 0, none⟩)) rfl (Or.inl ⟨by rfl, fun w hS => by (have q1 := HC1.out _ (grow_trans HBW.out hS.1); go_simp)⟩) hHeld ?_
          simp only [Act.put, zq1, zq2, zq3, zq4, zq5, zq6]
          refine tkp 44 (.pointer (some ⟨b1, 0, none⟩)) hHeld ?_
          simp only [Act.put, zq1, zq2, zq3, zq4, zq5, zq6]
          refine tkg 45 (.int .i64 hh) rfl (Or.inl ⟨by rfl, fun w hS => by (have q1 := ak_h (HB1.out _ (grow_trans HBW.out hS.1)); go_simp)⟩) hHeld ?_
          simp only [Act.put, zq1, zq2, zq3, zq4, zq5, zq6]
          refine wpAnyH_ready (rs := [46]) (by kernel_rfl) (by simp) ?_
          refine AllReadyH.cons rfl (fun KQ hK => ?_) AllReadyH.nil
          go_simp
          refine (HAL.out _ hHeld.1).mono ?_
          rintro e y46 ⟨b5, rfl, _, hO, a1⟩
          have HO := hidden hO
          clear hO
          refine hK.out _ _ (⟨grow_trans hHeld.1 a1, grow_trans hHeld.2 a1⟩) (fun hHeld => ?_)
          clear hK KQ
          refine wpAnyH_ready (rs := [47]) (by kernel_rfl) (by simp) ?_
          refine AllReadyH.cons rfl (fun KQ hK => ?_) AllReadyH.nil
          go_simp
          refine (gone13_any HO.out (by simp) (fun e he => by simp at he) none 0 (fun _ => undef) prAt_nil13 0).mono ?_
          rintro e y47 ⟨rfl, a1⟩
          clear HO
          refine hK.out _ _ (⟨grow_trans hHeld.1 a1, grow_trans hHeld.2 a1⟩) (fun hHeld => ?_)
          clear hK KQ
          refine tkp 48 (.bool false) hHeld ?_
          simp only [Act.put, zq1, zq2, zq3, zq4, zq5, zq6]
          refine tkp 49 (.bool false) hHeld ?_
          simp only [Act.put, zq1, zq2, zq3, zq4, zq5, zq6]
          refine tkp 50 (.bool false) hHeld ?_
          simp only [Act.put, zq1, zq2, zq3, zq4, zq5, zq6]
          refine tkp 51 (.slice (some ⟨bl, 0, none⟩) 2 2) hHeld ?_
          simp only [Act.put, zq1, zq2, zq3, zq4, zq5, zq6]
          refine tkp 52 (.int .i64 1) hHeld ?_
          simp only [Act.put, zq1, zq2, zq3, zq4, zq5, zq6]
          refine tkp 53 (.pointer (some ⟨bl, 1, none⟩)) hHeld ?_
          simp only [Act.put, zq1, zq2, zq3, zq4, zq5, zq6]
          refine tkg 54 (.pointer (some ⟨bs, 0, none⟩)) rfl (Or.inl ⟨by rfl, fun w hS => by (have q1 := HC1.out _ (grow_trans HBW.out hS.1); go_simp)⟩) hHeld ?_
          simp only [Act.put, zq1, zq2, zq3, zq4, zq5, zq6]
          refine tkp 55 (.pointer (some ⟨b1, 0, none⟩)) hHeld ?_
          simp only [Act.put, zq1, zq2, zq3, zq4, zq5, zq6]
          refine tkg 56 (.int .i64 hh) rfl (Or.inl ⟨by rfl, fun w hS => by (have q1 := ak_h (HB1.out _ (grow_trans HBW.out hS.1)); go_simp)⟩) hHeld ?_
          simp only [Act.put, zq1, zq2, zq3, zq4, zq5, zq6]
          refine tkp 57 (.pointer (some ⟨b1, 1, none⟩)) hHeld ?_
          simp only [Act.put, zq1, zq2, zq3, zq4, zq5, zq6]
          refine tkg 58 (.agg (B K)) rfl (yieldsIf_load_mid rfl 23 (.tmp 143) rfl b1 1 rfl (B K).toList _ (fun w hS => by rw [B_toList]; exact ak_key (HB1.out _ (grow_trans HBW.out hS.1))) Tryz.underlying23 rfl HPK.out) hHeld ?_
          simp only [Act.put, zq1, zq2, zq3, zq4, zq5, zq6]
          refine wpAnyH_ready (rs := [59]) (by kernel_rfl) (by simp) ?_
          refine AllReadyH.cons rfl (fun KQ hK => ?_) AllReadyH.nil
          go_simp
          refine (HFR.out _ hHeld.1).mono ?_
          rintro e y59 ⟨b5, rfl, _, hO, a1⟩
          have HO := hidden hO
          clear hO
          refine hK.out _ _ (⟨grow_trans hHeld.1 a1, grow_trans hHeld.2 a1⟩) (fun hHeld => ?_)
          clear hK KQ
          refine wpAnyH_ready (rs := [60]) (by kernel_rfl) (by simp) ?_
          refine AllReadyH.cons rfl (fun KQ hK => ?_) AllReadyH.nil
          go_simp
          refine (gone13_any HO.out (by simp) (fun e he => by simp at he) none 0 (fun _ => undef) prAt_nil13 0).mono ?_
          rintro e y60 ⟨rfl, a1⟩
          clear HO
          refine hK.out _ _ (⟨grow_trans hHeld.1 a1, grow_trans hHeld.2 a1⟩) (fun hHeld => ?_)
          clear hK KQ
          refine tkp 61 (.bool false) hHeld ?_
          simp only [Act.put, zq1, zq2, zq3, zq4, zq5, zq6]
          refine tkp 62 (.bool false) hHeld ?_
          simp only [Act.put, zq1, zq2, zq3, zq4, zq5, zq6]
          refine wpAnyH_done (by kernel_rfl) ?_ _
          have HL6 := hidden hHeld.1
          clear hHeld
          go_wp2_with fail
          exact ⟨.inr (.inr ⟨by go_num, hidden (grow_trans HBW.out HL6.out)⟩), by simp [intOf]⟩
        · refine step_al13 _ rfl _ rfl _ zero_pair ?_
          intro z4 g9 hg9 B4 a4
          have HB9 := hidden B4
          have HG9 : Hid (wr.heap.size ≤ g9) := Nat.le_trans hHeld.size hg9
          refine hK.out _ _ (grow_trans hHeld a4) (fun hHeld => ?_)
          clear hK KQ B4 hg9
          refine wpAnyH_ready (rs := [8]) (by kernel_rfl) (by simp) ?_
          refine AllReadyH.cons rfl (fun KQ hK => ?_) AllReadyH.nil
          go_simp
          refine (HNT.out _ hHeld).mono ?_
          rintro e z3 ⟨rfl, a3⟩
          replace HB9 := hidden (HB9.out.grow a3)
          refine hK.out _ _ (grow_trans hHeld a3) (fun hHeld => ?_)
          clear hK KQ
          refine tkp 9 (.tuple #[.agg (encP z32 (.slice none 0 0)).toArray, .int .i64 1]) hHeld ?_
          simp only [Act.put, zq1, zq2, zq3, zq4, zq5, zq6]
          refine tkp 10 (.agg (encP z32 (.slice none 0 0)).toArray) hHeld ?_
          simp only [Act.put, zq1, zq2, zq3, zq4, zq5, zq6]
          refine tkp 11 (.int .i64 1) hHeld ?_
          simp only [Act.put, zq1, zq2, zq3, zq4, zq5, zq6]
          refine wpAnyH_ready (rs := [13]) (by kernel_rfl) (by simp) ?_
          refine AllReadyH.cons rfl (fun KQ hK => ?_) AllReadyH.nil
          refine step_sto _ rfl _ _ _ rfl g9 _ (encP z32 (.slice none 0 0)).toArray rfl rfl HB9.out HZ.out rfl (encP_one z32 none 0 0) ?_
          intro z5 B5 r5
          have HB5 := hidden B5
          have HBL5 : Hid (Below wr.heap.size wr z5) := below_row hHeld r5 HG9.out
          refine hK.out _ _ HBL5.out (fun hHeld => ?_)
          clear hK KQ B5 r5
          refine tkp 14 (.int .i64 1) hHeld ?_
          simp only [Act.put, zq1, zq2, zq3, zq4, zq5, zq6]
          refine wpAnyH_done (by kernel_rfl) ?_ _
          go_wp2_with fail
          have HBd := hidden (below_drewN (Below.refl z5.heap.size z5) 1)
          have HV5 : Hid (∀ w', Below z5.heap.size z5 w' → w'.cell? ⟨g9, 32, none⟩ = some (.slice none 0 0)) := fun w' hb => by rw [(HB5.out.grow hb).cell]; rfl
          have HK5 : Hid (∀ w', Below z5.heap.size z5 w' → w'.rangeAt g9 0 (B z32).toList) := fun w' hb => by rw [B_toList]; exact rng_mid (p := []) (r := [.slice none 0 0]) (HB5.out.grow hb) rfl
          refine wp_region_held_drew (S := fun w' => Below wr.heap.size wr w' ∧ Below z5.heap.size z5 w') (by kernel_rfl) (⟨below_drewN hHeld 1, HBd.out⟩) (fun hHeld => ?_)
          refine tkp 0 (.slice (some ⟨bl, 0, none⟩) 2 2) hHeld ?_
          simp only [Act.put, zq1, zq2, zq4, zq5, zq6]
          refine tkp 1 (.int .i64 1) hHeld ?_
          simp only [Act.put, zq1, zq2, zq3, zq4, zq5, zq6]
          refine tkp 2 (.pointer (some ⟨bl, 1, none⟩)) hHeld ?_
          simp only [Act.put, zq1, zq2, zq3, zq4, zq5, zq6]
          refine tkg 3 (.pointer (some ⟨bs, 0, none⟩)) rfl (Or.inl ⟨by rfl, fun w hS => by (have q1 := HC1.out _ (grow_trans HBW.out hS.1); go_simp)⟩) hHeld ?_
          simp only [Act.put, zq1, zq2, zq3, zq4, zq5, zq6]
          refine tkp 4 (.pointer (some ⟨b1, 0, none⟩)) hHeld ?_
          simp only [Act.put, zq1, zq2, zq3, zq4, zq5, zq6]
          refine tkg 5 (.int .i64 hh) rfl (Or.inl ⟨by rfl, fun w hS => by (have q1 := ak_h (HB1.out _ (grow_trans HBW.out hS.1)); go_simp)⟩) hHeld ?_
          simp only [Act.put, zq1, zq2, zq3, zq4, zq5, zq6]
          refine tkp 6 (.pointer (some ⟨b1, 1, none⟩)) hHeld ?_
          simp only [Act.put, zq1, zq2, zq3, zq4, zq5, zq6]
          refine tkg 7 (.agg (B K)) rfl (yieldsIf_load_mid rfl 23 (.tmp 65) rfl b1 1 rfl (B K).toList _ (fun w hS => by rw [B_toList]; exact ak_key (HB1.out _ (grow_trans HBW.out hS.1))) Tryz.underlying23 rfl HPK.out) hHeld ?_
          simp only [Act.put, zq1, zq2, zq3, zq4, zq5, zq6]
          refine tkp 8 (.pointer (some ⟨b1, 33, none⟩)) hHeld ?_
          simp only [Act.put, zq1, zq2, zq3, zq4, zq5, zq6]
          refine tkg 9 (.agg (B T)) rfl (yieldsIf_load_mid rfl 23 (.tmp 67) rfl b1 33 rfl (B T).toList _ (fun w hS => by rw [B_toList]; exact ak_to (HB1.out _ (grow_trans HBW.out hS.1)) HKL.out) Tryz.underlying23 rfl HPT.out) hHeld ?_
          simp only [Act.put, zq1, zq2, zq3, zq4, zq5, zq6]
          refine wpAnyH_ready (rs := [10]) (by kernel_rfl) (by simp) ?_
          refine AllReadyH.cons rfl (fun KQ hK => ?_) AllReadyH.nil
          go_simp
          refine (HBT.out _ hHeld.1).mono ?_
          rintro e z6 ⟨rfl, a1⟩
          refine hK.out _ _ (⟨grow_trans hHeld.1 a1, grow_trans hHeld.2 a1⟩) (fun hHeld => ?_)
          clear hK KQ
          refine tkp 11 (.tuple #[.int .i64 0, .int .i64 1]) hHeld ?_
          simp only [Act.put, zq1, zq2, zq3, zq4, zq5, zq6]
          refine tkp 12 (.int .i64 0) hHeld ?_
          simp only [Act.put, zq1, zq2, zq3, zq4, zq5, zq6]
          refine tkp 13 (.int .i64 1) hHeld ?_
          simp only [Act.put, zq1, zq2, zq3, zq4, zq5, zq6]
          refine tkp 14 (.int .i64 0) hHeld ?_
          simp only [Act.put, zq1, zq2, zq3, zq4, zq5, zq6]
          refine tkp 15 (.int .i64 1) hHeld ?_
          simp only [Act.put, zq1, zq2, zq3, zq4, zq5, zq6]
          refine wpAnyH_done (by kernel_rfl) ?_ _
          go_wp2_with fail
          refine wp_region_held_drew (S := fun w' => Below wr.heap.size wr w' ∧ Below z5.heap.size z5 w') (by kernel_rfl) (⟨below_drewN hHeld.1 1, below_drewN hHeld.2 1⟩) (fun hHeld => ?_)
          refine tkp 0 (.slice (some ⟨bl, 0, none⟩) 2 2) hHeld ?_
          simp only [Act.put, zq1, zq2, zq4, zq5, zq6]
          refine tkp 1 (.int .i64 1) hHeld ?_
          simp only [Act.put, zq1, zq2, zq3, zq4, zq5, zq6]
          refine tkp 2 (.pointer (some ⟨bl, 1, none⟩)) hHeld ?_
          simp only [Act.put, zq1, zq2, zq3, zq4, zq5, zq6]
          refine tkg 3 (.pointer (some ⟨bs, 0, none⟩)) rfl (Or.inl ⟨by rfl, fun w hS => by (have q1 := HC1.out _ (grow_trans HBW.out hS.1); go_simp)⟩) hHeld ?_
          simp only [Act.put, zq1, zq2, zq3, zq4, zq5, zq6]
          refine tkp 4 (.pointer (some ⟨b1, 0, none⟩)) hHeld ?_
          simp only [Act.put, zq1, zq2, zq3, zq4, zq5, zq6]
          refine tkg 5 (.int .i64 hh) rfl (Or.inl ⟨by rfl, fun w hS => by (have q1 := ak_h (HB1.out _ (grow_trans HBW.out hS.1)); go_simp)⟩) hHeld ?_
          simp only [Act.put, zq1, zq2, zq3, zq4, zq5, zq6]
          refine tkp 6 (.pointer (some ⟨b1, 1, none⟩)) hHeld ?_
          simp only [Act.put, zq1, zq2, zq3, zq4, zq5, zq6]
          refine tkg 7 (.agg (B K)) rfl (yieldsIf_load_mid rfl 23 (.tmp 79) rfl b1 1 rfl (B K).toList _ (fun w hS => by rw [B_toList]; exact ak_key (HB1.out _ (grow_trans HBW.out hS.1))) Tryz.underlying23 rfl HPK.out) hHeld ?_
          simp only [Act.put, zq1, zq2, zq3, zq4, zq5, zq6]
          refine tkp 8 (.pointer (some ⟨b1, 66, none⟩)) hHeld ?_
          simp only [Act.put, zq1, zq2, zq3, zq4, zq5, zq6]
          refine tkg 9 (.int .i64 mm) rfl (Or.inl ⟨by rfl, fun w hS => by (have q1 := ak_m (HB1.out _ (grow_trans HBW.out hS.1)) HKL.out HTL.out; go_simp)⟩) hHeld ?_
          simp only [Act.put, zq1, zq2, zq3, zq4, zq5, zq6]
          refine wpAnyH_ready (rs := [10]) (by kernel_rfl) (by simp) ?_
          refine AllReadyH.cons rfl (fun KQ hK => ?_) AllReadyH.nil
          go_simp
          refine (HSM.out _ hHeld.1).mono ?_
          rintro e z7 ⟨rfl, a1⟩
          refine hK.out _ _ (⟨grow_trans hHeld.1 a1, grow_trans hHeld.2 a1⟩) (fun hHeld => ?_)
          clear hK KQ
          refine tkp 11 (.tuple #[.slice none 0 0, .int .i64 1]) hHeld ?_
          simp only [Act.put, zq1, zq2, zq3, zq4, zq5, zq6]
          refine tkp 12 (.slice none 0 0) hHeld ?_
          simp only [Act.put, zq1, zq2, zq3, zq4, zq5, zq6]
          refine tkp 13 (.int .i64 1) hHeld ?_
          simp only [Act.put, zq1, zq2, zq3, zq4, zq5, zq6]
          refine tkp 14 (.slice none 0 0) hHeld ?_
          simp only [Act.put, zq1, zq2, zq3, zq4, zq5, zq6]
          refine tkp 15 (.int .i64 1) hHeld ?_
          simp only [Act.put, zq1, zq2, zq3, zq4, zq5, zq6]
          refine wpAnyH_done (by kernel_rfl) ?_ _
          go_wp2_with fail
          refine wp_region_held_drew (S := fun w' => Below wr.heap.size wr w' ∧ Below z5.heap.size z5 w') (by kernel_rfl) (⟨below_drewN hHeld.1 1, below_drewN hHeld.2 1⟩) (fun hHeld => ?_)
          refine tkp 0 (.int .i64 0) hHeld ?_
          simp only [Act.put, zq1, zq2, zq4, zq5, zq6]
          refine tkp 1 (.int .i64 0) hHeld ?_
          simp only [Act.put, zq1, zq2, zq3, zq4, zq5, zq6]
          refine tkg 2 (.int .i64 0) rfl (Or.inl ⟨by rfl, fun w hS => by (go_simp; rfl)⟩) hHeld ?_
          simp only [Act.put, zq1, zq2, zq3, zq4, zq5, zq6]
          refine tkp 3 (.int .i64 0) hHeld ?_
          simp only [Act.put, zq1, zq2, zq3, zq4, zq5, zq6]
          refine tkg 4 (.int .i64 0) rfl (Or.inl ⟨by rfl, fun w hS => by (go_simp; rfl)⟩) hHeld ?_
          simp only [Act.put, zq1, zq2, zq3, zq4, zq5, zq6]
          refine tkp 5 (.slice none 0 0) hHeld ?_
          simp only [Act.put, zq1, zq2, zq3, zq4, zq5, zq6]
          refine tkp 6 (.int .i64 0) hHeld ?_
          simp only [Act.put, zq1, zq2, zq3, zq4, zq5, zq6]
          refine tkg 7 (.int .i64 0) rfl (Or.inl ⟨by rfl, fun w hS => by (go_simp; rfl)⟩) hHeld ?_
          simp only [Act.put, zq1, zq2, zq3, zq4, zq5, zq6]
          refine tkp 8 (.pointer (some ⟨g9, 32, none⟩)) hHeld ?_
          simp only [Act.put, zq1, zq2, zq3, zq4, zq5, zq6]
          refine tkg 9 (.slice none 0 0) rfl (Or.inl ⟨by rfl, fun w hS => by (have q1 := HV5.out _ hS.2; go_simp)⟩) hHeld ?_
          simp only [Act.put, zq1, zq2, zq3, zq4, zq5, zq6]
          refine tkp 10 (.int .i64 0) hHeld ?_
          simp only [Act.put, zq1, zq2, zq3, zq4, zq5, zq6]
          refine tkg 11 (.int .i64 0) rfl (Or.inl ⟨by rfl, fun w hS => by (go_simp; rfl)⟩) hHeld ?_
          simp only [Act.put, zq1, zq2, zq3, zq4, zq5, zq6]
          refine tkp 12 (.bool false) hHeld ?_
          simp only [Act.put, zq1, zq2, zq3, zq4, zq5, zq6]
          refine tkp 13 (.bool false) hHeld ?_
          simp only [Act.put, zq1, zq2, zq3, zq4, zq5, zq6]
          refine tkp 14 (.pointer (some ⟨g9, 0, none⟩)) hHeld ?_
          simp only [Act.put, zq1, zq2, zq3, zq4, zq5, zq6]
          refine tkg 15 (.agg (B z32)) rfl (yieldsIf_load_mid rfl 23 (.tmp 100) rfl g9 0 rfl (B z32).toList _ (fun w hS => HK5.out _ hS.2) Tryz.underlying23 rfl HPZ.out) hHeld ?_
          simp only [Act.put, zq1, zq2, zq3, zq4, zq5, zq6]
          refine tkg 16 (.agg (B z32)) rfl (Or.inl ⟨by rfl, fun w hS => exec_blc _ _ 23 _ (by rfl) _ (by rw [List.map_toArray]; exact HB0.out) w⟩) hHeld ?_
          simp only [Act.put, zq1, zq2, zq3, zq4, zq5, zq6]
          refine tkg 17 (.bool false) rfl (Or.inl ⟨by rfl, fun w hS => by (have q1 := HEQ.out w; go_simp)⟩) hHeld ?_
          simp only [Act.put, zq1, zq2, zq3, zq4, zq5, zq6]
          refine tkp 18 (.bool false) hHeld ?_
          simp only [Act.put, zq1, zq2, zq3, zq4, zq5, zq6]
          refine tkp 19 (.bool false) hHeld ?_
          simp only [Act.put, zq1, zq2, zq3, zq4, zq5, zq6]
          refine tkp 20 (.int .i64 1) hHeld ?_
          simp only [Act.put, zq1, zq2, zq3, zq4, zq5, zq6]
          refine tkp 21 (.bool false) hHeld ?_
          simp only [Act.put, zq1, zq2, zq3, zq4, zq5, zq6]
          refine tkp 22 (.bool false) hHeld ?_
          simp only [Act.put, zq1, zq2, zq3, zq4, zq5, zq6]
          refine tkp 23 (.bool false) hHeld ?_
          simp only [Act.put, zq1, zq2, zq3, zq4, zq5, zq6]
          refine tkp 24 (.int .i64 1) hHeld ?_
          simp only [Act.put, zq1, zq2, zq3, zq4, zq5, zq6]
          refine tkp 25 (.bool false) hHeld ?_
          simp only [Act.put, zq1, zq2, zq3, zq4, zq5, zq6]
          refine tkp 26 (.bool false) hHeld ?_
          simp only [Act.put, zq1, zq2, zq3, zq4, zq5, zq6]
          refine tkp 27 (.bool false) hHeld ?_
          simp only [Act.put, zq1, zq2, zq3, zq4, zq5, zq6]
          refine tkp 28 (.int .i64 1) hHeld ?_
          simp only [Act.put, zq1, zq2, zq3, zq4, zq5, zq6]
          refine tkp 29 (.bool false) hHeld ?_
          simp only [Act.put, zq1, zq2, zq3, zq4, zq5, zq6]
          refine tkp 30 (.bool false) hHeld ?_
          simp only [Act.put, zq1, zq2, zq3, zq4, zq5, zq6]
          refine tkp 31 (.bool false) hHeld ?_
          simp only [Act.put, zq1, zq2, zq3, zq4, zq5, zq6]
          refine tkp 32 (.int .i64 1) hHeld ?_
          simp only [Act.put, zq1, zq2, zq3, zq4, zq5, zq6]
          refine tkp 33 (.bool false) hHeld ?_
          simp only [Act.put, zq1, zq2, zq3, zq4, zq5, zq6]
          refine tkp 34 (.bool false) hHeld ?_
          simp only [Act.put, zq1, zq2, zq3, zq4, zq5, zq6]
          refine tkp 35 (.bool false) hHeld ?_
          simp only [Act.put, zq1, zq2, zq3, zq4, zq5, zq6]
          refine tkp 36 (.int .i64 1) hHeld ?_
          simp only [Act.put, zq1, zq2, zq3, zq4, zq5, zq6]
          refine tkp 37 (.bool false) hHeld ?_
          simp only [Act.put, zq1, zq2, zq3, zq4, zq5, zq6]
          refine tkp 38 (.bool false) hHeld ?_
          simp only [Act.put, zq1, zq2, zq3, zq4, zq5, zq6]
          refine tkp 39 (.bool false) hHeld ?_
          simp only [Act.put, zq1, zq2, zq3, zq4, zq5, zq6]
          refine tkp 40 (.slice (some ⟨bl, 0, none⟩) 2 2) hHeld ?_
          simp only [Act.put, zq1, zq2, zq3, zq4, zq5, zq6]
          refine tkp 41 (.int .i64 1) hHeld ?_
          simp only [Act.put, zq1, zq2, zq3, zq4, zq5, zq6]
          refine tkp 42 (.pointer (some ⟨bl, 1, none⟩)) hHeld ?_
          simp only [Act.put, zq1, zq2, zq3, zq4, zq5, zq6]
          refine tkg 43 (.pointer (some ⟨bs, 0, none⟩)) rfl (Or.inl ⟨by rfl, fun w hS => by (have q1 := HC1.out _ (grow_trans HBW.out hS.1); go_simp)⟩) hHeld ?_
          simp only [Act.put, zq1, zq2, zq3, zq4, zq5, zq6]
          refine tkp 44 (.pointer (some ⟨b1, 0, none⟩)) hHeld ?_
          simp only [Act.put, zq1, zq2, zq3, zq4, zq5, zq6]
          refine tkg 45 (.int .i64 hh) rfl (Or.inl ⟨by rfl, fun w hS => by (have q1 := ak_h (HB1.out _ (grow_trans HBW.out hS.1)); go_simp)⟩) hHeld ?_
          simp only [Act.put, zq1, zq2, zq3, zq4, zq5, zq6]
          refine wpAnyH_ready (rs := [46]) (by kernel_rfl) (by simp) ?_
          refine AllReadyH.cons rfl (fun KQ hK => ?_) AllReadyH.nil
          go_simp
          refine (HAL.out _ hHeld.1).mono ?_
          rintro e y46 ⟨b5, rfl, _, hO, a1⟩
          have HO := hidden hO
          clear hO
          refine hK.out _ _ (⟨grow_trans hHeld.1 a1, grow_trans hHeld.2 a1⟩) (fun hHeld => ?_)
          clear hK KQ
          refine wpAnyH_ready (rs := [47]) (by kernel_rfl) (by simp) ?_
          refine AllReadyH.cons rfl (fun KQ hK => ?_) AllReadyH.nil
          go_simp
          refine (gone13_any HO.out (by simp) (fun e he => by simp at he) none 0 (fun _ => undef) prAt_nil13 0).mono ?_
          rintro e y47 ⟨rfl, a1⟩
          clear HO
          refine hK.out _ _ (⟨grow_trans hHeld.1 a1, grow_trans hHeld.2 a1⟩) (fun hHeld => ?_)
          clear hK KQ
          refine tkp 48 (.bool false) hHeld ?_
          simp only [Act.put, zq1, zq2, zq3, zq4, zq5, zq6]
          refine tkp 49 (.bool false) hHeld ?_
          simp only [Act.put, zq1, zq2, zq3, zq4, zq5, zq6]
          refine tkp 50 (.bool false) hHeld ?_
          simp only [Act.put, zq1, zq2, zq3, zq4, zq5, zq6]
          refine tkp 51 (.slice (some ⟨bl, 0, none⟩) 2 2) hHeld ?_
          simp only [Act.put, zq1, zq2, zq3, zq4, zq5, zq6]
          refine tkp 52 (.int .i64 1) hHeld ?_
          simp only [Act.put, zq1, zq2, zq3, zq4, zq5, zq6]
          refine tkp 53 (.pointer (some ⟨bl, 1, none⟩)) hHeld ?_
          simp only [Act.put, zq1, zq2, zq3, zq4, zq5, zq6]
          refine tkg 54 (.pointer (some ⟨bs, 0, none⟩)) rfl (Or.inl ⟨by rfl, fun w hS => by (have q1 := HC1.out _ (grow_trans HBW.out hS.1); go_simp)⟩) hHeld ?_
          simp only [Act.put, zq1, zq2, zq3, zq4, zq5, zq6]
          refine tkp 55 (.pointer (some ⟨b1, 0, none⟩)) hHeld ?_
          simp only [Act.put, zq1, zq2, zq3, zq4, zq5, zq6]
          refine tkg 56 (.int .i64 hh) rfl (Or.inl ⟨by rfl, fun w hS => by (have q1 := ak_h (HB1.out _ (grow_trans HBW.out hS.1)); go_simp)⟩) hHeld ?_
          simp only [Act.put, zq1, zq2, zq3, zq4, zq5, zq6]
          refine tkp 57 (.pointer (some ⟨b1, 1, none⟩)) hHeld ?_
          simp only [Act.put, zq1, zq2, zq3, zq4, zq5, zq6]
          refine tkg 58 (.agg (B K)) rfl (yieldsIf_load_mid rfl 23 (.tmp 143) rfl b1 1 rfl (B K).toList _ (fun w hS => by rw [B_toList]; exact ak_key (HB1.out _ (grow_trans HBW.out hS.1))) Tryz.underlying23 rfl HPK.out) hHeld ?_
          simp only [Act.put, zq1, zq2, zq3, zq4, zq5, zq6]
          refine wpAnyH_ready (rs := [59]) (by kernel_rfl) (by simp) ?_
          refine AllReadyH.cons rfl (fun KQ hK => ?_) AllReadyH.nil
          go_simp
          refine (HFR.out _ hHeld.1).mono ?_
          rintro e y59 ⟨b5, rfl, _, hO, a1⟩
          have HO := hidden hO
          clear hO
          refine hK.out _ _ (⟨grow_trans hHeld.1 a1, grow_trans hHeld.2 a1⟩) (fun hHeld => ?_)
          clear hK KQ
          refine wpAnyH_ready (rs := [60]) (by kernel_rfl) (by simp) ?_
          refine AllReadyH.cons rfl (fun KQ hK => ?_) AllReadyH.nil
          go_simp
          refine (gone13_any HO.out (by simp) (fun e he => by simp at he) none 0 (fun _ => undef) prAt_nil13 0).mono ?_
          rintro e y60 ⟨rfl, a1⟩
          clear HO
          refine hK.out _ _ (⟨grow_trans hHeld.1 a1, grow_trans hHeld.2 a1⟩) (fun hHeld => ?_)
          clear hK KQ
          refine tkp 61 (.bool false) hHeld ?_
          simp only [Act.put, zq1, zq2, zq3, zq4, zq5, zq6]
          refine tkp 62 (.bool false) hHeld ?_
          simp only [Act.put, zq1, zq2, zq3, zq4, zq5, zq6]
          refine wpAnyH_done (by kernel_rfl) ?_ _
          have HL6 := hidden hHeld.1
          clear hHeld
          go_wp2_with fail
          exact ⟨.inr (.inr ⟨by go_num, hidden (grow_trans HBW.out HL6.out)⟩), by simp [intOf]⟩
    · go_wp2_with (first
        | (go_at_call 17; refine (HAW.out _ (grow_trans HQ4.out HBW.out)).mono ?_; rintro e w9 ⟨rfl, b9⟩; have HB9 := hidden b9; clear b9))
      go_ret
      exact ⟨rfl, grow_trans (grow_trans HQ4.out HBW.out) HB9.out⟩

end Go.Proofs.YtlhnodinhmdjnaaGreatDoor

namespace Go.Proofs.YtlhnodinhmdjnaaGreatDoor
set_option maxRecDepth 20000
open Go.ChangeShapes Go.WideShapes Go.ChangeAt Go.RowKit

theorem ownK : ownKnob Tryz.prog.godebug = none := by kernel_rfl
theorem laidOut : laidOutB Tryz.prog = true := by kernel_rfl

end Go.Proofs.YtlhnodinhmdjnaaGreatDoor

namespace Go.Proofs.YtlhnodinhmdjnaaGreatDoor
set_option maxRecDepth 20000
open Go.ChangeShapes Go.WideShapes Go.ChangeAt Go.RowKit

theorem cells_byte : Tryz.prog.cellsOf 5 = 1 := by kernel_rfl
end Go.Proofs.YtlhnodinhmdjnaaGreatDoor
