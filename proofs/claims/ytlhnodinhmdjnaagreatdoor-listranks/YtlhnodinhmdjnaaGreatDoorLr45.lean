/- ListRanks' walk, one case. -/
import Derived.Test.YtlhnodinhmdjnaaGreatDoorLr01
import Derived.Test.YtlhnodinhmdjnaaGreatDoorLr43
import Derived.Test.YtlhnodinhmdjnaaGreatDoorLr44
namespace Go.Proofs.YtlhnodinhmdjnaaGreatDoor
set_option maxRecDepth 20000
open Go.RowKit Go.Shelf

attribute [local go_sem] Oper.semAt_some

set_option maxRecDepth 100000 in
set_option maxHeartbeats 8000000 in
theorem lrk_gtM {av : Option Addr} {cap : Nat} {V : Nat → Value} {es : List Ent} {a b h : List Int} (w : World) (hL : Laid w) (hv : PrAt w (.slice av es.length cap) V es) (h16 : es.length ≤ 16) (hi : RootIs es 0 h 0) (hA : Key a) (hB : Key b) (hc : cmp a b = 1) (hNL : ¬ IsLast b) :
    Calls Tryz.prog 4 #[.slice av es.length cap, .agg (B a), .agg (B b)] w fun e w' => e = .returned (.bool true) ∧ Below w.heap.size w w' := by
  have HAW : Hid (∀ w', Below w.heap.size w w' → Calls Tryz.prog 17 #[] w' fun e w'' => e = .returned (.bool true) ∧ Below w'.heap.size w' w'') := fun w' hb => awake13_any w' (hL.grow hb)
  have HRT : Hid (∀ w', Below w.heap.size w w' → Calls Tryz.prog 18 #[.slice av es.length cap] w' fun e w'' => e = .returned (.tuple #[.agg (B h), .int .i64 0]) ∧ Below w'.heap.size w' w'') := fun w' hb => root_at13 hi (Root_any _ V es w' (hv.grow hb) (by omega) (hL.grow hb))
  have HF := hidden (hash_facts h hi.len)
  have HFL : Hid (∀ w', Below w.heap.size w w' → Calls Tryz.prog 19 #[.slice av es.length cap] w' fun e w2 => ∃ g root x y nb z fs, e = .returned (.tuple #[.pointer (some ⟨g, 0, none⟩), .int .i64 ((root : Nat) : Int), .bool true]) ∧ RkF a b (1) es.length w2 g root x y nb z fs ∧ Below w'.heap.size w' w2) := fun w' hb => rk_filled (hv.grow hb) h16 hi hA hB hc (hL.grow hb)
  have HCM : Hid (∀ w', Calls Tryz.prog 20 #[.agg (B a), .agg (B b)] w' fun e w'' => e = .returned (.int .i64 (1)) ∧ Below w'.heap.size w' w'') := fun w' => by have := pcompare_any a b w' hA hB; rw [hc] at this; exact this
  have HNX : Hid (∀ w', Calls Tryz.prog 21 #[.agg (B b)] w' (NextPost b w')) := fun w' => next_any b w' hB
  have HNL := hidden hNL
  have HPA := hidden (keyB_size hA)
  have HLA := hidden (pth_ln a hA.1)
  have HPB := hidden (keyB_size hB)
  have HLB := hidden (pth_ln b hB.1)
  have hn16 : ¬ (16 : Int) < (es.length : Int) := by omega
  have hn16' : ¬ 16 < es.length := by omega
  generalize es.length = n at *
  clear hL hv hi hA hB hc hNL h16
  refine (callsIn_wide (n := 4)).1 ?_
  refine callsIn_of_wp_marks Tryz.func4 rfl trivial ?_ rfl
  simp only [Tryz.ntmps4, List.size_toArray, List.length_cons, List.length_nil, Nat.reduceAdd, Nat.reduceSub, Array.replicate_succ, Array.replicate_zero, List.push_toArray, List.append_toArray, List.nil_append, List.cons_append]
  refine wpIn_wide.2 ?_
  have hfn := eql13_fn
  go_wp2_with (first
    | ((with_reducible refine at_bxd 4 ?_); refine wpList_bx _ rfl _ _ rfl _ rfl ?_; intro w0 b4 hg hl B4 q4; have HB4 := hidden B4; have HQ0 := hidden q4; clear hg hl B4 q4)
    | ((with_reducible refine at_bxd 5 ?_); refine wpList_bx _ rfl _ _ rfl _ rfl ?_; intro w1 b5 hg hl B5 q5; have HA : Hid (∀ w', Below w1.heap.size w1 w' → Blk w' b4 23 (B a)) := (fun w' hb => (HB4.out.grow q5).grow hb); have HB : Hid (∀ w', Below w1.heap.size w1 w' → Blk w' b5 23 (B b)) := (fun w' hb => B5.grow hb); replace HQ0 := hidden (grow_trans HQ0.out q5); have HQ := hidden (Below.refl w1.heap.size w1); clear hg hl B5 q5 HB4)
    | (go_at_call 17; refine (HAW.out _ (grow_trans HQ0.out HQ.out)).mono ?_; rintro e x ⟨rfl, bx⟩; replace HQ := hidden (grow_trans HQ.out bx); (try replace HR := hidden (grow_trans HR.out bx)); (try replace HBN := hidden (HBN.out.grow bx)); clear bx)
    | (go_at_call 18; refine (HRT.out _ (grow_trans HQ0.out HQ.out)).mono ?_; rintro e x ⟨rfl, bx⟩; replace HQ := hidden (grow_trans HQ.out bx); (try replace HR := hidden (grow_trans HR.out bx)); (try replace HBN := hidden (HBN.out.grow bx)); clear bx)
    | ((with_reducible refine at_ald 8 ?_); refine wpList_al _ rfl _ rfl _ zero_hash ?_; intro x g8 hg hl B8 bx; have HG8 : Hid (w1.heap.size ≤ g8) := Nat.le_trans HQ.out.size hg; have HB8 := hidden B8; clear hg hl B8; replace HQ := hidden (grow_trans HQ.out bx); (try replace HR := hidden (grow_trans HR.out bx)); (try replace HBN := hidden (HBN.out.grow bx)); clear bx)
    | ((with_reducible refine at_st 8 ?_); refine wpList_sto _ rfl _ _ _ rfl g8 _ (B h) rfl rfl HB8.out HF.out.1 HF.out.2 (B_one _) ?_; intro x B9 r9; replace HQ := hidden (below_row HQ.out r9 HG8.out); clear B9 r9 HB8)
    | (go_at_call 19; refine (HFL.out _ (grow_trans HQ0.out HQ.out)).mono ?_; rintro e w2 ⟨g, root, xa, y, nb, z, fs, rfl, hR, b2⟩; have R := hidden hR; replace HQ := hidden (grow_trans HQ.out b2); have HR := hidden (Below.refl w2.heap.size w2); clear hR b2; have HRA : Hid (∀ w', Below w2.heap.size w2 w' → Calls Tryz.prog 10 #[.pointer (some ⟨g, 0, none⟩), .int .i64 (root : Int), .agg (B a)] w' fun e w'' => e = .returned (.tuple #[.int .i64 (xa : Int), .int .i64 0]) ∧ Below w'.heap.size w' w'') := (fun w' hb => (R.out.grow hb).rka); have HRB : Hid (∀ w', Below w2.heap.size w2 w' → Calls Tryz.prog 10 #[.pointer (some ⟨g, 0, none⟩), .int .i64 (root : Int), .agg (B b)] w' fun e w'' => e = .returned (.tuple #[.int .i64 (y : Int), .int .i64 0]) ∧ Below w'.heap.size w' w'') := (fun w' hb => (R.out.grow hb).rkb); have HBT : Hid (∀ w', Below w2.heap.size w2 w' → Calls Tryz.prog 12 #[.pointer (some ⟨g, 0, none⟩), .int .i64 (root : Int), .agg (B a), .agg (B b)] w' fun e w'' => e = .returned (.tuple #[.int .i64 (nb : Int), .int .i64 0]) ∧ Below w'.heap.size w' w'') := (fun w' hb => (R.out.grow hb).bt); have HCN : Hid (∀ w', Below w2.heap.size w2 w' → Calls Tryz.prog 9 #[.pointer (some ⟨g, 0, none⟩), .int .i64 (root : Int)] w' fun e w'' => e = .returned (.tuple #[.int .i64 (n : Int), .int .i64 0]) ∧ Below w'.heap.size w' w'') := (fun w' hb => (R.out.grow hb).cn); have HZ : Hid (∀ ys, IsNext b ys → ∀ w', Below w2.heap.size w2 w' → Calls Tryz.prog 10 #[.pointer (some ⟨g, 0, none⟩), .int .i64 (root : Int), .agg (B ys)] w' fun e w'' => e = .returned (.tuple #[.int .i64 (z : Int), .int .i64 0]) ∧ Below w'.heap.size w' w'') := (fun ys hN w' hb => (R.out.grow hb).rkz ys hN); have HFR : Hid (∀ w', Below w2.heap.size w2 w' → Calls Tryz.prog 16 #[.pointer (some ⟨g, 0, none⟩), .int .i64 (root : Int), .agg (B a)] w' (OvPost w' fs)) := (fun w' hb => (R.out.grow hb).fr); have hyx : ¬ ((xa : Int) < (y : Int)) := (by have := R.out.gt rfl; omega); have hyx2 : ¬ (xa < y) := (by omega); have hnb : nb = 0 := (R.out.gt rfl).2; subst hnb; have hnx : wrap64 ((n : Int) - (xa : Int)) = (fs.length : Int) := R.out.ln; clear HFL)
    | (go_at_call 10; refine (HRA.out _ HR.out).mono ?_; rintro e x ⟨rfl, bx⟩; clear HRA; replace HQ := hidden (grow_trans HQ.out bx); (try replace HR := hidden (grow_trans HR.out bx)); (try replace HBN := hidden (HBN.out.grow bx)); clear bx)
    | (go_at_call 10; refine (HRB.out _ HR.out).mono ?_; rintro e x ⟨rfl, bx⟩; clear HRB; replace HQ := hidden (grow_trans HQ.out bx); (try replace HR := hidden (grow_trans HR.out bx)); (try replace HBN := hidden (HBN.out.grow bx)); clear bx)
    | (go_at_call 12; refine (HBT.out _ HR.out).mono ?_; rintro e x ⟨rfl, bx⟩; clear HBT; replace HQ := hidden (grow_trans HQ.out bx); (try replace HR := hidden (grow_trans HR.out bx)); (try replace HBN := hidden (HBN.out.grow bx)); clear bx)
    | (go_at_call 9; refine (HCN.out _ HR.out).mono ?_; rintro e x ⟨rfl, bx⟩; clear HCN; replace HQ := hidden (grow_trans HQ.out bx); (try replace HR := hidden (grow_trans HR.out bx)); (try replace HBN := hidden (HBN.out.grow bx)); clear bx)
    | ((with_reducible refine at_ldd 51 4 ?_); refine wpList_ld _ rfl _ _ rfl b4 _ rfl (HA.out _ HQ.out) _ _ Tryz.underlying23 HPA.out ?_)
    | ((with_reducible refine at_ldd 65 4 ?_); refine wpList_ld _ rfl _ _ rfl b4 _ rfl (HA.out _ HQ.out) _ _ Tryz.underlying23 HPA.out ?_)
    | ((with_reducible refine at_ldd 100 4 ?_); refine wpList_ld _ rfl _ _ rfl b4 _ rfl (HA.out _ HQ.out) _ _ Tryz.underlying23 HPA.out ?_)
    | ((with_reducible refine at_ldd 162 4 ?_); refine wpList_ld _ rfl _ _ rfl b4 _ rfl (HA.out _ HQ.out) _ _ Tryz.underlying23 HPA.out ?_)
    | ((with_reducible refine at_ldd 58 5 ?_); refine wpList_ld _ rfl _ _ rfl b5 _ rfl (HB.out _ HQ.out) _ _ Tryz.underlying23 HPB.out ?_)
    | ((with_reducible refine at_ldd 66 5 ?_); refine wpList_ld _ rfl _ _ rfl b5 _ rfl (HB.out _ HQ.out) _ _ Tryz.underlying23 HPB.out ?_)
    | ((with_reducible refine at_ldd 101 5 ?_); refine wpList_ld _ rfl _ _ rfl b5 _ rfl (HB.out _ HQ.out) _ _ Tryz.underlying23 HPB.out ?_)
    | ((with_reducible refine at_ldd 133 5 ?_); refine wpList_ld _ rfl _ _ rfl b5 _ rfl (HB.out _ HQ.out) _ _ Tryz.underlying23 HPB.out ?_)
    | (go_at_call 20; refine (HCM.out _).mono ?_; rintro e x ⟨rfl, bx⟩; replace HQ := hidden (grow_trans HQ.out bx); (try replace HR := hidden (grow_trans HR.out bx)); (try replace HBN := hidden (HBN.out.grow bx)); clear bx)
    | (go_at_call 21; refine (HNX.out _).mono ?_; rintro e x9 ⟨ys, bb, hor, rfl, bx⟩; obtain ⟨rfl, hN⟩ : bb = true ∧ IsNext b ys := (hor.resolve_right (fun h => HNL.out h.2.1)); have HNY := hidden hN; have HYK : Hid (Key ys) := hN.1; have HYS : Hid ((Tryz.prog.info? 23).map (·.size) = some (B ys).size ∧ (B (List.replicate 32 0)).size = (B ys).size) := ⟨keyB_size HYK.out, by rw [B_size, B_size, HYK.out.1]; rfl⟩; clear hor hN; replace HQ := hidden (grow_trans HQ.out bx); (try replace HR := hidden (grow_trans HR.out bx)); (try replace HBN := hidden (HBN.out.grow bx)); clear bx)
    | ((with_reducible refine at_ald 22 ?_); refine wpList_al _ rfl _ rfl _ zero_path ?_; intro x9 g22 hg hl B22 bx; have HG22 : Hid (w2.heap.size ≤ g22 ∧ w1.heap.size ≤ g22) := ⟨Nat.le_trans HR.out.size hg, Nat.le_trans HQ.out.size hg⟩; have HB22 := hidden B22; clear hg hl B22; replace HQ := hidden (grow_trans HQ.out bx); (try replace HR := hidden (grow_trans HR.out bx)); (try replace HBN := hidden (HBN.out.grow bx)); clear bx)
    | ((with_reducible refine at_st 22 ?_); refine wpList_sto _ rfl _ _ _ rfl g22 _ (B ys) rfl rfl HB22.out HYS.out.1 HYS.out.2 (B_one _) ?_; intro x9 B9 r9; replace HQ := hidden (below_row HQ.out r9 HG22.out.2); replace HR := hidden (below_row HR.out r9 HG22.out.1); have HBN := hidden B9; clear B9 r9)
    | ((with_reducible refine at_ldd 139 4 ?_); refine wpList_ldw13 _ rfl _ _ rfl b4 0 rfl (B a).toList (HA.out _ HQ.out).range _ Tryz.underlying23 rfl HLA.out ?_)
    | ((with_reducible refine at_ldd 140 5 ?_); refine wpList_ldw13 _ rfl _ _ rfl b5 0 rfl (B b).toList (HB.out _ HQ.out).range _ Tryz.underlying23 rfl HLB.out ?_)
    | ((with_reducible refine at_ldd 147 22 ?_); refine wpList_ld _ rfl _ _ rfl g22 _ rfl HBN.out _ _ Tryz.underlying23 HYS.out.1 ?_)
    | (go_at_call 10; refine (HZ.out ys HNY.out _ HR.out).mono ?_; rintro e x ⟨rfl, bx⟩; clear HZ; replace HQ := hidden (grow_trans HQ.out bx); (try replace HR := hidden (grow_trans HR.out bx)); (try replace HBN := hidden (HBN.out.grow bx)); clear bx)
    | (go_at_call 16; refine (HFR.out _ HR.out).mono ?_; rintro e wF ⟨bo, rfl, _, hO, bx⟩; have HO := hidden hO; clear hO; replace HQ := hidden (grow_trans HQ.out bx); (try replace HR := hidden (grow_trans HR.out bx)); (try replace HBN := hidden (HBN.out.grow bx)); clear bx))
  rename_i K hK
  have hsm := R.out.sm
  obtain ⟨wA, hwA⟩ : ∃ x, x = wF.alloc (.cells #[Value.int .i64 0] 3) := ⟨_, rfl⟩
  have hbk : Blk wA wF.heap.size 3 #[.int .i64 0] := by rw [hwA]; exact Blk.new wF 3 #[.int .i64 0]
  have hlA : Below wF.heap.size wF wA := by rw [hwA]; exact grow_alloc _ _
  have hsA : wF.heap.size < wA.heap.size := by rw [hwA]; simp
  rw [← hwA]
  have HBW : Hid (Below w.heap.size w wF) := grow_trans HQ0.out HQ.out
  refine act_named13 ?_
  intro a0 ha0
  refine range_count13 (by rw [ha0]; rfl) HO.out hsm.1 hsm.2 hbk hlA hsA ?body ?done
  case body =>
    intro l k v1 v2 A hk hC
    have c1 : A.cell? ⟨wF.heap.size, 0, none⟩ = some (.int .i64 (k : Int)) := by rw [hC.2.cell]; rfl
    have z1 : A.frozen? ⟨wF.heap.size, 0, none⟩ = false := hC.2.frozen 0
    have hwk : wrap64 ((k : Int) + 1) = (k : Int) + 1 := Go.IntWalk.wrap64_in _ (by omega)
    have HC := hidden hC
    have hS := cn_step (b := wA.heap.size) hC
    rw [ha0]
    clear hC hbk hlA hsm ha0 hwA
    simp only [List.zipWith_toArray, Array.zip, List.foldl_toArray', List.size_toArray]
    gi_wp2
    all_goals exact ⟨rfl, hS⟩
  case done =>
    intro D W hD hC hKd
    have c1 : W.cell? ⟨wF.heap.size, 0, none⟩ = some (.int .i64 (fs.length : Int)) := by rw [hC.2.cell]; rfl
    have HC := hidden hC
    rw [ha0]
    clear hC hbk hlA hsm ha0 hwA
    refine hK _ _ ?_
    go_wp2
    refine ⟨by simp, .inl ⟨_, _, rfl, run_takeDeferred hKd, ?_⟩⟩
    refine ⟨.bool true, ?_, rfl, (HBW.out.trans (HC.out.1.mono HBW.out.size)).trans (belowK_b (w := w) (Nat.le_refl _) W D _ _ (by have := HBW.out.size; omega) hKd rfl rfl)⟩
    simp [results, Tryz.f4, go_sem]

end Go.Proofs.YtlhnodinhmdjnaaGreatDoor

namespace Go.Proofs.YtlhnodinhmdjnaaGreatDoor
set_option maxRecDepth 20000
open Go.RowKit Go.Shelf

attribute [local go_sem] Oper.semAt_some

set_option maxRecDepth 100000 in
set_option maxHeartbeats 8000000 in
theorem lrk_gtL {av : Option Addr} {cap : Nat} {V : Nat → Value} {es : List Ent} {a b h : List Int} (w : World) (hL : Laid w) (hv : PrAt w (.slice av es.length cap) V es) (h16 : es.length ≤ 16) (hi : RootIs es 0 h 0) (hA : Key a) (hB : Key b) (hc : cmp a b = 1) (hNL : IsLast b) :
    Calls Tryz.prog 4 #[.slice av es.length cap, .agg (B a), .agg (B b)] w fun e w' => e = .returned (.bool true) ∧ Below w.heap.size w w' := by
  have HAW : Hid (∀ w', Below w.heap.size w w' → Calls Tryz.prog 17 #[] w' fun e w'' => e = .returned (.bool true) ∧ Below w'.heap.size w' w'') := fun w' hb => awake13_any w' (hL.grow hb)
  have HRT : Hid (∀ w', Below w.heap.size w w' → Calls Tryz.prog 18 #[.slice av es.length cap] w' fun e w'' => e = .returned (.tuple #[.agg (B h), .int .i64 0]) ∧ Below w'.heap.size w' w'') := fun w' hb => root_at13 hi (Root_any _ V es w' (hv.grow hb) (by omega) (hL.grow hb))
  have HF := hidden (hash_facts h hi.len)
  have HFL : Hid (∀ w', Below w.heap.size w w' → Calls Tryz.prog 19 #[.slice av es.length cap] w' fun e w2 => ∃ g root x y nb z fs, e = .returned (.tuple #[.pointer (some ⟨g, 0, none⟩), .int .i64 ((root : Nat) : Int), .bool true]) ∧ RkF a b (1) es.length w2 g root x y nb z fs ∧ Below w'.heap.size w' w2) := fun w' hb => rk_filled (hv.grow hb) h16 hi hA hB hc (hL.grow hb)
  have HCM : Hid (∀ w', Calls Tryz.prog 20 #[.agg (B a), .agg (B b)] w' fun e w'' => e = .returned (.int .i64 (1)) ∧ Below w'.heap.size w' w'') := fun w' => by have := pcompare_any a b w' hA hB; rw [hc] at this; exact this
  have HNX : Hid (∀ w', Calls Tryz.prog 21 #[.agg (B b)] w' (NextPost b w')) := fun w' => next_any b w' hB
  have HNL := hidden hNL
  have HPA := hidden (keyB_size hA)
  have HLA := hidden (pth_ln a hA.1)
  have HPB := hidden (keyB_size hB)
  have HLB := hidden (pth_ln b hB.1)
  have hn16 : ¬ (16 : Int) < (es.length : Int) := by omega
  have hn16' : ¬ 16 < es.length := by omega
  generalize es.length = n at *
  clear hL hv hi hA hB hc hNL h16
  refine (callsIn_wide (n := 4)).1 ?_
  refine callsIn_of_wp_marks Tryz.func4 rfl trivial ?_ rfl
  simp only [Tryz.ntmps4, List.size_toArray, List.length_cons, List.length_nil, Nat.reduceAdd, Nat.reduceSub, Array.replicate_succ, Array.replicate_zero, List.push_toArray, List.append_toArray, List.nil_append, List.cons_append]
  refine wpIn_wide.2 ?_
  have hfn := eql13_fn
  go_wp2_with (first
    | ((with_reducible refine at_bxd 4 ?_); refine wpList_bx _ rfl _ _ rfl _ rfl ?_; intro w0 b4 hg hl B4 q4; have HB4 := hidden B4; have HQ0 := hidden q4; clear hg hl B4 q4)
    | ((with_reducible refine at_bxd 5 ?_); refine wpList_bx _ rfl _ _ rfl _ rfl ?_; intro w1 b5 hg hl B5 q5; have HA : Hid (∀ w', Below w1.heap.size w1 w' → Blk w' b4 23 (B a)) := (fun w' hb => (HB4.out.grow q5).grow hb); have HB : Hid (∀ w', Below w1.heap.size w1 w' → Blk w' b5 23 (B b)) := (fun w' hb => B5.grow hb); replace HQ0 := hidden (grow_trans HQ0.out q5); have HQ := hidden (Below.refl w1.heap.size w1); clear hg hl B5 q5 HB4)
    | (go_at_call 17; refine (HAW.out _ (grow_trans HQ0.out HQ.out)).mono ?_; rintro e x ⟨rfl, bx⟩; replace HQ := hidden (grow_trans HQ.out bx); (try replace HR := hidden (grow_trans HR.out bx)); (try replace HBN := hidden (HBN.out.grow bx)); clear bx)
    | (go_at_call 18; refine (HRT.out _ (grow_trans HQ0.out HQ.out)).mono ?_; rintro e x ⟨rfl, bx⟩; replace HQ := hidden (grow_trans HQ.out bx); (try replace HR := hidden (grow_trans HR.out bx)); (try replace HBN := hidden (HBN.out.grow bx)); clear bx)
    | ((with_reducible refine at_ald 8 ?_); refine wpList_al _ rfl _ rfl _ zero_hash ?_; intro x g8 hg hl B8 bx; have HG8 : Hid (w1.heap.size ≤ g8) := Nat.le_trans HQ.out.size hg; have HB8 := hidden B8; clear hg hl B8; replace HQ := hidden (grow_trans HQ.out bx); (try replace HR := hidden (grow_trans HR.out bx)); (try replace HBN := hidden (HBN.out.grow bx)); clear bx)
    | ((with_reducible refine at_st 8 ?_); refine wpList_sto _ rfl _ _ _ rfl g8 _ (B h) rfl rfl HB8.out HF.out.1 HF.out.2 (B_one _) ?_; intro x B9 r9; replace HQ := hidden (below_row HQ.out r9 HG8.out); clear B9 r9 HB8)
    | (go_at_call 19; refine (HFL.out _ (grow_trans HQ0.out HQ.out)).mono ?_; rintro e w2 ⟨g, root, xa, y, nb, z, fs, rfl, hR, b2⟩; have R := hidden hR; replace HQ := hidden (grow_trans HQ.out b2); have HR := hidden (Below.refl w2.heap.size w2); clear hR b2; have HRA : Hid (∀ w', Below w2.heap.size w2 w' → Calls Tryz.prog 10 #[.pointer (some ⟨g, 0, none⟩), .int .i64 (root : Int), .agg (B a)] w' fun e w'' => e = .returned (.tuple #[.int .i64 (xa : Int), .int .i64 0]) ∧ Below w'.heap.size w' w'') := (fun w' hb => (R.out.grow hb).rka); have HRB : Hid (∀ w', Below w2.heap.size w2 w' → Calls Tryz.prog 10 #[.pointer (some ⟨g, 0, none⟩), .int .i64 (root : Int), .agg (B b)] w' fun e w'' => e = .returned (.tuple #[.int .i64 (y : Int), .int .i64 0]) ∧ Below w'.heap.size w' w'') := (fun w' hb => (R.out.grow hb).rkb); have HBT : Hid (∀ w', Below w2.heap.size w2 w' → Calls Tryz.prog 12 #[.pointer (some ⟨g, 0, none⟩), .int .i64 (root : Int), .agg (B a), .agg (B b)] w' fun e w'' => e = .returned (.tuple #[.int .i64 (nb : Int), .int .i64 0]) ∧ Below w'.heap.size w' w'') := (fun w' hb => (R.out.grow hb).bt); have HCN : Hid (∀ w', Below w2.heap.size w2 w' → Calls Tryz.prog 9 #[.pointer (some ⟨g, 0, none⟩), .int .i64 (root : Int)] w' fun e w'' => e = .returned (.tuple #[.int .i64 (n : Int), .int .i64 0]) ∧ Below w'.heap.size w' w'') := (fun w' hb => (R.out.grow hb).cn); have HZ : Hid (∀ ys, IsNext b ys → ∀ w', Below w2.heap.size w2 w' → Calls Tryz.prog 10 #[.pointer (some ⟨g, 0, none⟩), .int .i64 (root : Int), .agg (B ys)] w' fun e w'' => e = .returned (.tuple #[.int .i64 (z : Int), .int .i64 0]) ∧ Below w'.heap.size w' w'') := (fun ys hN w' hb => (R.out.grow hb).rkz ys hN); have HFR : Hid (∀ w', Below w2.heap.size w2 w' → Calls Tryz.prog 16 #[.pointer (some ⟨g, 0, none⟩), .int .i64 (root : Int), .agg (B a)] w' (OvPost w' fs)) := (fun w' hb => (R.out.grow hb).fr); have hyx : ¬ ((xa : Int) < (y : Int)) := (by have := R.out.gt rfl; omega); have hyx2 : ¬ (xa < y) := (by omega); have hnb : nb = 0 := (R.out.gt rfl).2; subst hnb; have hnx : wrap64 ((n : Int) - (xa : Int)) = (fs.length : Int) := R.out.ln; clear HFL)
    | (go_at_call 10; refine (HRA.out _ HR.out).mono ?_; rintro e x ⟨rfl, bx⟩; clear HRA; replace HQ := hidden (grow_trans HQ.out bx); (try replace HR := hidden (grow_trans HR.out bx)); (try replace HBN := hidden (HBN.out.grow bx)); clear bx)
    | (go_at_call 10; refine (HRB.out _ HR.out).mono ?_; rintro e x ⟨rfl, bx⟩; clear HRB; replace HQ := hidden (grow_trans HQ.out bx); (try replace HR := hidden (grow_trans HR.out bx)); (try replace HBN := hidden (HBN.out.grow bx)); clear bx)
    | (go_at_call 12; refine (HBT.out _ HR.out).mono ?_; rintro e x ⟨rfl, bx⟩; clear HBT; replace HQ := hidden (grow_trans HQ.out bx); (try replace HR := hidden (grow_trans HR.out bx)); (try replace HBN := hidden (HBN.out.grow bx)); clear bx)
    | (go_at_call 9; refine (HCN.out _ HR.out).mono ?_; rintro e x ⟨rfl, bx⟩; clear HCN; replace HQ := hidden (grow_trans HQ.out bx); (try replace HR := hidden (grow_trans HR.out bx)); (try replace HBN := hidden (HBN.out.grow bx)); clear bx)
    | ((with_reducible refine at_ldd 51 4 ?_); refine wpList_ld _ rfl _ _ rfl b4 _ rfl (HA.out _ HQ.out) _ _ Tryz.underlying23 HPA.out ?_)
    | ((with_reducible refine at_ldd 65 4 ?_); refine wpList_ld _ rfl _ _ rfl b4 _ rfl (HA.out _ HQ.out) _ _ Tryz.underlying23 HPA.out ?_)
    | ((with_reducible refine at_ldd 100 4 ?_); refine wpList_ld _ rfl _ _ rfl b4 _ rfl (HA.out _ HQ.out) _ _ Tryz.underlying23 HPA.out ?_)
    | ((with_reducible refine at_ldd 162 4 ?_); refine wpList_ld _ rfl _ _ rfl b4 _ rfl (HA.out _ HQ.out) _ _ Tryz.underlying23 HPA.out ?_)
    | ((with_reducible refine at_ldd 58 5 ?_); refine wpList_ld _ rfl _ _ rfl b5 _ rfl (HB.out _ HQ.out) _ _ Tryz.underlying23 HPB.out ?_)
    | ((with_reducible refine at_ldd 66 5 ?_); refine wpList_ld _ rfl _ _ rfl b5 _ rfl (HB.out _ HQ.out) _ _ Tryz.underlying23 HPB.out ?_)
    | ((with_reducible refine at_ldd 101 5 ?_); refine wpList_ld _ rfl _ _ rfl b5 _ rfl (HB.out _ HQ.out) _ _ Tryz.underlying23 HPB.out ?_)
    | ((with_reducible refine at_ldd 133 5 ?_); refine wpList_ld _ rfl _ _ rfl b5 _ rfl (HB.out _ HQ.out) _ _ Tryz.underlying23 HPB.out ?_)
    | (go_at_call 20; refine (HCM.out _).mono ?_; rintro e x ⟨rfl, bx⟩; replace HQ := hidden (grow_trans HQ.out bx); (try replace HR := hidden (grow_trans HR.out bx)); (try replace HBN := hidden (HBN.out.grow bx)); clear bx)
    | (go_at_call 21; refine (HNX.out _).mono ?_; rintro e x9 ⟨ys, bb, hor, rfl, bx⟩; obtain ⟨rfl, hy⟩ : bb = false ∧ ys = List.replicate 32 0 := (hor.elim (fun h => absurd HNL.out h.2.not_last) (fun h => ⟨h.1, h.2.2⟩)); have HYL : Hid (ys.length = 32) := (by rw [hy]; rfl); have HYS : Hid ((Tryz.prog.info? 23).map (·.size) = some (B ys).size ∧ (B (List.replicate 32 0)).size = (B ys).size) := ⟨(by rw [hy]; exact keyB_size key_zero), by rw [B_size, B_size, HYL.out]; rfl⟩; clear hor hy HYL; replace HQ := hidden (grow_trans HQ.out bx); (try replace HR := hidden (grow_trans HR.out bx)); (try replace HBN := hidden (HBN.out.grow bx)); clear bx)
    | ((with_reducible refine at_ald 22 ?_); refine wpList_al _ rfl _ rfl _ zero_path ?_; intro x9 g22 hg hl B22 bx; have HG22 : Hid (w2.heap.size ≤ g22 ∧ w1.heap.size ≤ g22) := ⟨Nat.le_trans HR.out.size hg, Nat.le_trans HQ.out.size hg⟩; have HB22 := hidden B22; clear hg hl B22; replace HQ := hidden (grow_trans HQ.out bx); (try replace HR := hidden (grow_trans HR.out bx)); (try replace HBN := hidden (HBN.out.grow bx)); clear bx)
    | ((with_reducible refine at_st 22 ?_); refine wpList_sto _ rfl _ _ _ rfl g22 _ (B ys) rfl rfl HB22.out HYS.out.1 HYS.out.2 (B_one _) ?_; intro x9 B9 r9; replace HQ := hidden (below_row HQ.out r9 HG22.out.2); replace HR := hidden (below_row HR.out r9 HG22.out.1); have HBN := hidden B9; clear B9 r9)
    | (go_at_call 16; refine (HFR.out _ HR.out).mono ?_; rintro e wF ⟨bo, rfl, _, hO, bx⟩; have HO := hidden hO; clear hO; replace HQ := hidden (grow_trans HQ.out bx); (try replace HR := hidden (grow_trans HR.out bx)); (try replace HBN := hidden (HBN.out.grow bx)); clear bx))
  rename_i K hK
  have hsm := R.out.sm
  obtain ⟨wA, hwA⟩ : ∃ x, x = wF.alloc (.cells #[Value.int .i64 0] 3) := ⟨_, rfl⟩
  have hbk : Blk wA wF.heap.size 3 #[.int .i64 0] := by rw [hwA]; exact Blk.new wF 3 #[.int .i64 0]
  have hlA : Below wF.heap.size wF wA := by rw [hwA]; exact grow_alloc _ _
  have hsA : wF.heap.size < wA.heap.size := by rw [hwA]; simp
  rw [← hwA]
  have HBW : Hid (Below w.heap.size w wF) := grow_trans HQ0.out HQ.out
  refine act_named13 ?_
  intro a0 ha0
  refine range_count13 (by rw [ha0]; rfl) HO.out hsm.1 hsm.2 hbk hlA hsA ?body ?done
  case body =>
    intro l k v1 v2 A hk hC
    have c1 : A.cell? ⟨wF.heap.size, 0, none⟩ = some (.int .i64 (k : Int)) := by rw [hC.2.cell]; rfl
    have z1 : A.frozen? ⟨wF.heap.size, 0, none⟩ = false := hC.2.frozen 0
    have hwk : wrap64 ((k : Int) + 1) = (k : Int) + 1 := Go.IntWalk.wrap64_in _ (by omega)
    have HC := hidden hC
    have hS := cn_step (b := wA.heap.size) hC
    rw [ha0]
    clear hC hbk hlA hsm ha0 hwA
    simp only [List.zipWith_toArray, Array.zip, List.foldl_toArray', List.size_toArray]
    gi_wp2
    all_goals exact ⟨rfl, hS⟩
  case done =>
    intro D W hD hC hKd
    have c1 : W.cell? ⟨wF.heap.size, 0, none⟩ = some (.int .i64 (fs.length : Int)) := by rw [hC.2.cell]; rfl
    have HC := hidden hC
    rw [ha0]
    clear hC hbk hlA hsm ha0 hwA
    refine hK _ _ ?_
    go_wp2
    refine ⟨by simp, .inl ⟨_, _, rfl, run_takeDeferred hKd, ?_⟩⟩
    refine ⟨.bool true, ?_, rfl, (HBW.out.trans (HC.out.1.mono HBW.out.size)).trans (belowK_b (w := w) (Nat.le_refl _) W D _ _ (by have := HBW.out.size; omega) hKd rfl rfl)⟩
    simp [results, Tryz.f4, go_sem]

end Go.Proofs.YtlhnodinhmdjnaaGreatDoor

namespace Go.Proofs.YtlhnodinhmdjnaaGreatDoor
set_option maxRecDepth 20000
open Go.RowKit Go.Shelf

set_option maxRecDepth 100000 in
set_option maxHeartbeats 8000000 in
theorem lrk_out {av : Option Addr} {cap : Nat} {V : Nat → Value} {es : List Ent} {a b h : List Int} {E : Int} (w : World) (hL : Laid w) (hv : PrAt w (.slice av es.length cap) V es) (hn : es.length ≤ 140737488355328) (hi : RootIs es 0 h E) (ho : 16 < es.length ∨ E ≠ 0) :
    Calls Tryz.prog 4 #[.slice av es.length cap, .agg (B a), .agg (B b)] w fun e w' => e = .returned (.bool true) ∧ Below w.heap.size w w' := by
  have HAW : Hid (∀ w', Below w.heap.size w w' → Calls Tryz.prog 17 #[] w' fun e w'' => e = .returned (.bool true) ∧ Below w'.heap.size w' w'') := fun w' hb => awake13_any w' (hL.grow hb)
  have HRT : Hid (∀ w', Below w.heap.size w w' → Calls Tryz.prog 18 #[.slice av es.length cap] w' fun e w'' => e = .returned (.tuple #[.agg (B h), .int .i64 E]) ∧ Below w'.heap.size w' w'') := fun w' hb => root_at13 hi (Root_any _ V es w' (hv.grow hb) hn (hL.grow hb))
  have HF := hidden (hash_facts h hi.len)
  have hcase : ((16 : Int) < (es.length : Int) ∧ 16 < es.length) ∨ (¬ (16 : Int) < (es.length : Int) ∧ ¬ 16 < es.length ∧ (E == 0) = false ∧ (E != 0) = true) := by
    by_cases h1 : 16 < es.length
    · exact .inl ⟨by omega, h1⟩
    · exact .inr ⟨by omega, h1, by simpa using ho.resolve_left h1, by simpa using ho.resolve_left h1⟩
  generalize es.length = n at *
  clear hL hv hi ho hn
  rcases hcase with ⟨i1, i4⟩ | ⟨i1, i4, i2, i3⟩
  all_goals
    go_enter Tryz.func4, Tryz.ntmps4
    go_wp2_with (first
      | ((with_reducible refine at_bxd 4 ?_); refine wpList_bx _ rfl _ _ rfl _ rfl ?_; intro w0 b4 hg hl B4 q4; have HQ := hidden q4; clear hg hl B4 q4)
      | ((with_reducible refine at_bxd 5 ?_); refine wpList_bx _ rfl _ _ rfl _ rfl ?_; intro w1 b5 hg hl B5 q5; replace HQ := hidden (grow_trans HQ.out q5); clear hg hl B5 q5)
      | (go_at_call 17; refine (HAW.out _ HQ.out).mono ?_; rintro e w2 ⟨rfl, q2⟩; replace HQ := hidden (grow_trans HQ.out q2); clear q2)
      | (go_at_call 18; refine (HRT.out _ HQ.out).mono ?_; rintro e w3 ⟨rfl, q3⟩; replace HQ := hidden (grow_trans HQ.out q3); clear q3)
      | ((with_reducible refine at_ald 8 ?_); refine wpList_al _ rfl _ rfl _ zero_hash ?_; intro w4 g8 hg hl B8 q4; have HB8 := hidden B8; have HG8 := hidden (Nat.le_trans HQ.out.size hg); replace HQ := hidden (grow_trans HQ.out q4); clear hg hl B8 q4)
      | ((with_reducible refine at_st 8 ?_); refine wpList_sto _ rfl _ _ _ rfl g8 _ (B h) rfl rfl HB8.out HF.out.1 HF.out.2 (B_one _) ?_; intro w5 B9 r9; replace HQ := hidden (below_row HQ.out r9 HG8.out); clear B9 r9 HB8))
    go_ret
    exact ⟨rfl, HQ.out⟩

theorem listRanks_walk {av : Option Addr} {cap : Nat} {V : Nat → Value} {es : List Ent} {a b : List Int} (w : World) (hL : Laid w) (hv : PrAt w (.slice av es.length cap) V es) (hn : es.length ≤ 140737488355328) (hA : Key a) (hB : Key b) :
    Calls Tryz.prog 4 #[.slice av es.length cap, .agg (B a), .agg (B b)] w fun e w' => e = .returned (.bool true) ∧ Below w.heap.size w w' := by
  obtain ⟨h, E, hi⟩ := rootIs_ex13 es
  by_cases ho : 16 < es.length ∨ E ≠ 0
  · exact lrk_out w hL hv hn hi ho
  · have h16 : es.length ≤ 16 := by omega
    have hE : E = 0 := by omega
    subst hE
    by_cases hl : IsLast b
    · rcases cmp_key hA hB with ⟨hc, rfl⟩ | ⟨hc, _⟩ | ⟨hc, _⟩
      · exact lrk_eqL w hL hv h16 hi hA hc hl
      · exact lrk_ltL w hL hv h16 hi hA hB hc hl
      · exact lrk_gtL w hL hv h16 hi hA hB hc hl
    · rcases cmp_key hA hB with ⟨hc, rfl⟩ | ⟨hc, _⟩ | ⟨hc, _⟩
      · exact lrk_eqM w hL hv h16 hi hA hc hl
      · exact lrk_ltM w hL hv h16 hi hA hB hc hl
      · exact lrk_gtM w hL hv h16 hi hA hB hc hl

end Go.Proofs.YtlhnodinhmdjnaaGreatDoor
