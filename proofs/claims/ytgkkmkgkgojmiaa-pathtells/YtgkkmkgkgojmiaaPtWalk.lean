/- PathTells' walk: the law returns true at every bytes, keys and number, and nothing that was in memory turns. -/
import Derived.Test.YtgkkmkgkgojmiaaPtAns
import Derived.Test.YtgkkmkgkgojmiaaApartT
import Derived.Test.YtgkkmkgkgojmiaaKit2
import Derived.Test.YtgkkmkgkgojmiaaAtOps
import Derived.Deep.CutRange
namespace Go.Proofs.Ytgkkmkgkgojmiaa
open Go.RowKit

/-- What a call leaves that tells a key's bytes. -/
def BytesPost (ps : List Int) (w : World) (e : Ending) (w' : World) : Prop := ∃ g, e = .returned (.slice (some ⟨g, 0, none⟩) 32 32) ∧ w.heap.size ≤ g ∧ Blk w' g 24 (B ps) ∧ Below w.heap.size w w'

theorem own_key {base : Nat} {w : World} {g : Nat} {ps : List Int} (h : Blk w g 24 (B ps)) (hp : Key ps) (hb : base ≤ g) : OwnT base w (.slice (some ⟨g, 0, none⟩) 32 32) ps [] := by
  have hl := hp.1
  refine ⟨hp.2, Bytes.nil, by rw [hl]; simp [maxLen], .inr ⟨g, _, [], hb, by rw [hl]; rfl, by simpa using h⟩⟩

theorem Row.lentR {w : World} {g : Nat} {zs : List Int} (h : Row w g (zs ++ marks zs.length)) (hb : Bytes zs) : Reads w (.slice (some ⟨g, 0, none⟩) zs.length (zs.length + 5)) zs :=
  ⟨_, _, rfl, by omega, fun h => by simp at h, hb, fun _ => ⟨g, 0, rfl, fun i hi => by
    rw [Nat.zero_add, h.cell i (by simp; omega)]
    simp [List.getD, List.getElem?_append_left hi]⟩⟩
theorem Row.grow' {w w' : World} {g : Nat} {zs : List Int} (h : Row w g zs) (hb : Below w.heap.size w w') : Row w' g zs := h.of_block (hb.block g h.lt)
theorem Row.kept' {w w' : World} {g g' : Nat} {zs : List Int} (h : Row w g zs) (hg : w.grownBy w' (some g')) (hne : g ≠ g') : Row w' g zs := h.of_block (hg.block g h.lt (fun e => hne (by injection e)))
theorem rowb_ne {w : World} {g h : Nat} {zs : List Int} {cs : Array Value} (a : Row w g zs) (b : Blk w h 23 cs) : g ≠ h := by
  rintro rfl
  unfold Row at a
  unfold Blk at b
  rw [a] at b
  injection b with b
  injection b with _ b
  exact absurd b (by decide)

/-- Both tell one key of bytes, or one error. -/
theorem of_both (zs : List Int) (hb : Bytes zs) : ∃ (X : List Int) (ee : Int), Key X ∧ (∀ u w', Reads w' u zs → Calls Try.prog 7 #[u] w' fun e w'' => e = .returned (.tuple #[.agg (B X), .int .i64 ee]) ∧ Below w'.heap.size w' w'') ∧
    ∀ u w', Reads w' u zs → Calls Try.prog 8 #[u] w' fun e w'' => e = .returned (.tuple #[.agg (B X), .int .i64 ee]) ∧ Below w'.heap.size w' w'' := by
  by_cases hl : zs.length = 32
  · exact ⟨zs, 0, ⟨hl, hb⟩, fun u w' h => of_at u zs w' h hl, fun u w' h => rof_in u zs w' h hl⟩
  · refine ⟨List.replicate 32 0, 3, key_zero, fun u w' h => ?_, fun u w' h => rof_out u zs w' h hl⟩
    refine (of_out u zs w' h hl).mono ?_
    rintro e w'' ⟨ys, h, rfl, b⟩
    rw [h]
    exact ⟨rfl, b⟩

set_option maxHeartbeats 16000000 in
set_option maxRecDepth 20000 in
theorem pathTells_walk (v : Value) (zs ps qs : List Int) (d : Int) (w : World) (hr : Reads w v zs) (hl : zs.length ≤ 140737488355328 - 4096) (hp : Key ps) (hq : Key qs) :
    Calls Try.prog 3 #[v, .agg (B ps), .agg (B qs), .int .i64 d] w fun e w' => e = .returned (.bool true) ∧ Below w.heap.size w w' := by
  have HR := hidden hr
  have HP := hidden hp
  have HQ := hidden hq
  have HZB : Hid (Bytes zs) := by
    obtain ⟨_, _, _, _, _, hb, _⟩ := hr
    exact hb
  have hsP := key_size hp
  have hiP : (Try.prog.info? 24).map (·.size) = some (B ps).toList.length := by rw [B_toList, List.length_map, hp.1]; exact size_path
  have hiQ : (Try.prog.info? 24).map (·.size) = some (B qs).toList.length := by rw [B_toList, List.length_map, hq.1]; exact size_path
  obtain ⟨X, ee, hX, hof, hrof⟩ := of_both zs HZB.out
  have HX := hidden hX
  have cOf := hidden hof
  have rOf := hidden hrof
  have hsX := key_size hX
  have hsX2 := b32_size hX
  have HZX : Hid ((B X).size = 32) := by rw [B_size]; exact hX.1
  have cB : Hid (∀ w', Calls Try.prog 9 #[.agg (B ps)] w' (BytesPost ps w')) := fun w' => pbytes_any ps w'
  clear hp hq hX hof hrof
  obtain ⟨va, vc, rfl, _, _, _, _⟩ := hr
  go_enter Try.func3, Try.ntmps3
  go_upto_region 4 with (first
    | (have hx := hl1; clear hx; (with_reducible refine at_bx ?_); refine wpList_bx _ rfl _ _ rfl _ rfl ?_; intro w2 gq hg2 hl2 B2 b2; have HPQ : Hid (∀ w', Below w2.heap.size w2 w' → Blk w' gp 24 (B ps) ∧ Blk w' gq 24 (B qs)) := (fun w' hw' => ⟨(B1.grow b2).grow hw', B2.grow hw'⟩); have bb : Below w2.heap.size w2 w2 := Below.refl _ _; have c2 := grow_trans b1 b2; clear B1 B2 b1 b2 hg1 hg2 hl2)
    | ((with_reducible refine at_bx ?_); refine wpList_bx _ rfl _ _ rfl _ rfl ?_; intro w1 gp hg1 hl1 B1 b1)
    | (go_at_call 6; refine (lent_any _ zs _ (HR.out.grow c2) (by omega)).mono ?_; rintro e w3 ⟨rfl, row3, b3, s3⟩; obtain ⟨gl, hgl⟩ : ∃ g, g = w2.heap.size := ⟨_, rfl⟩; rw [← hgl] at row3 ⊢; have HGL := hidden hgl; clear hgl s3; replace bb := b3; clear b3)
    | (go_at_call 7; refine (cOf.out _ w3 (row3.lentR HZB.out)).mono ?_; rintro e w4 ⟨rfl, b4⟩; replace row3 := row3.grow' b4; replace bb := grow_trans bb b4; clear b4)
    | (have hx := hgx; clear hx; (with_reducible refine at_al ?_); refine wpList_al _ rfl _ rfl _ zero_b32 ?_; intro w8 gy hg8 hl8 B8 b8; have hgy := Nat.le_trans bb.size hg8; have hne : gx ≠ gy := (by have := BX.lt; omega); replace BX := BX.grow b8; replace row3 := row3.grow' b8; replace bb := grow_trans bb b8; clear b8 hg8)
    | ((with_reducible refine at_al ?_); refine wpList_al _ rfl _ rfl _ zero_path ?_; intro w5 gx hg5 hl5 B5 b5; have hgx := Nat.le_trans bb.size hg5; have hlx : gl ≠ gx := (by have := row3.lt; omega); replace row3 := row3.grow' b5; replace bb := grow_trans bb b5; clear b5 hg5)
    | ((with_reducible refine at_st 10 ?_); refine wpList_sto _ rfl (.tmp 10) _ _ rfl gx _ (B X) rfl rfl B5 hsX (by rw [HZX.out, B_size]; simp) (B_one _) ?_; intro w6 BX g6; replace bb := below_row bb g6 hgx; replace row3 := row3.kept' g6 hlx; clear g6 B5)
    | (go_at_call 8; refine (rOf.out _ _ (HR.out.grow (grow_trans c2 bb))).mono ?_; rintro e w7 ⟨rfl, b7⟩; replace BX := BX.grow b7; replace row3 := row3.grow' b7; replace bb := grow_trans bb b7; clear b7)
    | ((with_reducible refine at_st 12 ?_); have hly : gl ≠ gy := (rowb_ne row3 B8); refine wpList_sto _ rfl (.tmp 12) _ _ rfl gy _ (B X) rfl rfl B8 hsX2 (by rw [HZX.out, B_size]; simp) (B_one _) ?_; intro w9 BY g9; replace bb := below_row bb g9 hgy; replace BX := BX.kept g9 hne; replace row3 := row3.kept' g9 hly; clear g9 B8))
  clear cOf rOf hl5 hl8 hl1
  have HS9 : Hid (∀ w', Below w9.heap.size w9 w' → w'.rangeAt gp 0 (B ps).toList ∧ w'.rangeAt gq 0 (B qs).toList) := fun w' hw' => ⟨(HPQ.out w' (grow_trans bb hw')).1.range, (HPQ.out w' (grow_trans bb hw')).2.range⟩
  have d0 : Below w9.heap.size w9 w9.drew := (Below.refl _ _).drew
  refine wp_region_held_drew (S := fun w' => w'.rangeAt gp 0 (B ps).toList ∧ w'.rangeAt gq 0 (B qs).toList) (by kernel_rfl) (HS9.out _ d0) (fun hHeld => ?_)
  refine wpAnyH_take (i := 0) (v := .agg (B ps)) rfl (by kernel_rfl) (by kernel_rfl) (by kernel_rfl) (fun _ _ _ h => h) (yieldsIf_load_mid rfl 24 (.tmp 5) rfl gp 0 rfl (B ps).toList _ (fun w hS => hS.1) u_path rfl hiP) hHeld ?_
  simp only [Act.put, List.getElem_toArray, List.getElem_cons_zero, List.setIfInBounds_toArray, List.set_cons_zero, List.set_cons_succ]
  refine wpAnyH_take (i := 2) (v := .agg (B ps)) rfl (by kernel_rfl) (by kernel_rfl) (by kernel_rfl) (fun _ _ _ h => h) (yieldsIf_load_mid rfl 24 (.tmp 5) rfl gp 0 rfl (B ps).toList _ (fun w hS => hS.1) u_path rfl hiP) hHeld ?_
  simp only [Act.put, List.getElem_toArray, List.getElem_cons_zero, List.getElem_cons_succ, List.setIfInBounds_toArray, List.set_cons_zero, List.set_cons_succ]
  refine wpAnyH_ready (rs := [1]) (by kernel_rfl) (by simp) ?_
  refine AllReadyH.cons rfl (fun KQ hK => ?_) AllReadyH.nil
  go_simp
  refine (cB.out _).mono ?_
  rintro e x1 ⟨g1, rfl, l1, B1, a1⟩
  have H1 := hidden B1.lt
  have d1 := grow_trans d0 a1
  refine hK.out _ _ (HS9.out _ d1) (fun hHeld => ?_)
  clear hK KQ
  refine wpAnyH_ready (rs := [3]) (by kernel_rfl) (by simp) ?_
  refine AllReadyH.cons rfl (fun KQ hK => ?_) AllReadyH.nil
  go_simp
  refine (cB.out _).mono ?_
  rintro e x2 ⟨g2, rfl, l2, B2, a2⟩
  have d2 := grow_trans d1 a2
  refine hK.out _ _ (HS9.out _ d2) (fun hHeld => ?_)
  clear hK KQ
  refine wpAnyH_ready (rs := [4]) (by kernel_rfl) (by simp) ?_
  refine AllReadyH.cons rfl (fun KQ hK => ?_) AllReadyH.nil
  go_simp
  refine hK.out _ _ (HS9.out _ d2) (fun hHeld => ?_)
  clear hK KQ
  refine wpAnyH_ready (rs := [5]) (by kernel_rfl) (by simp) ?_
  refine AllReadyH.cons rfl (fun KQ hK => ?_) AllReadyH.nil
  go_simp
  refine hK.out _ _ (HS9.out _ d2) (fun hHeld => ?_)
  clear hK KQ
  refine wpAnyH_done (by kernel_rfl) ?_ _
  have bb2 := grow_trans bb d2
  replace B1 := B1.grow a2
  replace BX := BX.grow d2
  replace BY := BY.grow d2
  have HLL : Hid (gl < w9.heap.size) := row3.lt
  replace row3 := row3.grow' d2
  have l1' : w9.heap.size ≤ g1 := l1
  have hg1 : w2.heap.size ≤ g1 := Nat.le_trans (grow_trans bb d0).size l1
  have hg2 : w2.heap.size ≤ g2 := Nat.le_trans (grow_trans bb d1).size l2
  have hg12 : g1 ≠ g2 := by have := a1.size; have h2 := B1.lt; intro e; subst e; have h3 : g1 < x1.heap.size := H1.out; omega
  have HGL' : Hid (w2.heap.size ≤ gl) := by rw [HGL.out]; exact Nat.le_refl _
  have HOW : Hid (∀ w', Below x2.heap.size x2 w' → OwnT w2.heap.size w' (.slice (some ⟨g1, 0, none⟩) 32 32) ps [] ∧ OwnT w2.heap.size w' (.slice (some ⟨g2, 0, none⟩) 32 32) ps [] ∧ OwnT w2.heap.size w' (.slice (some ⟨gl, 0, none⟩) zs.length (zs.length + 5)) zs (marks zs.length)) := by
    intro w' hw'
    refine ⟨own_key (B1.grow hw') HP.out hg1, own_key (B2.grow hw') HP.out hg2, ?_⟩
    have h1 := Own.mk (base := w2.heap.size) HZB.out (marks_bytes zs.length) (by rw [marks_length]; simp only [maxLen]; omega) HGL'.out (row3.grow' hw')
    rw [marks_length] at h1
    exact h1.toT
  have hgl1 : gl ≠ g1 := by have h1 := HLL.out; omega
  have hgl2 : gl ≠ g2 := by have h1 := HLL.out; have h2 := a1.size; have h3 : w9.drew.heap.size = w9.heap.size := rfl; omega
  have HLS : Hid (∀ w', Below x2.heap.size x2 w' → ListsT w2.heap.size w'.heap.size 0 3 (fun i => [.slice (some ⟨g1, 0, none⟩) 32 32, .slice (some ⟨g2, 0, none⟩) 32 32, .slice (some ⟨gl, 0, none⟩) zs.length (zs.length + 5)].getD i undef) (fun i => [ps, ps, zs].getD i []) (fun i => [[], [], marks zs.length].getD i []) (w'.alloc (.cells #[.slice (some ⟨g1, 0, none⟩) 32 32, .slice (some ⟨g2, 0, none⟩) 32 32, .slice (some ⟨gl, 0, none⟩) zs.length (zs.length + 5)] 22))) := by
    intro w' hw'
    obtain ⟨o1, o2, o3⟩ := HOW.out w' hw'
    refine lists_newT w2.heap.size w' [.slice (some ⟨g1, 0, none⟩) 32 32, .slice (some ⟨g2, 0, none⟩) 32 32, .slice (some ⟨gl, 0, none⟩) zs.length (zs.length + 5)] _ _ [g1, g2, gl] 3 rfl rfl ?_ ?_ ?_
    · intro i hi
      match i, hi with
      | 0, _ => exact o1
      | 1, _ => exact o2
      | 2, _ => exact o3
    · intro i hi
      match i, hi with
      | 0, _ => rfl
      | 1, _ => rfl
      | 2, _ => rfl
    · simp only [List.nodup_cons, List.mem_cons, List.not_mem_nil, or_false, not_or, not_false_iff, List.nodup_nil, and_true]
      exact ⟨⟨hg12, Ne.symm hgl1⟩, Ne.symm hgl2⟩
  have HRW : Hid (∀ w', Below x2.heap.size x2 w' → Row w' gl (zs ++ marks zs.length)) := fun w' hw' => row3.grow' hw'
  have HXY : Hid (∀ w', Below x2.heap.size x2 w' → Blk w' gx 24 (B X) ∧ Blk w' gy 23 (B X)) := fun w' hw' => ⟨BX.grow hw', BY.grow hw'⟩
  have HSM : Hid (∀ w', Below x2.heap.size x2 w' → Calls Try.prog 12 #[.slice (some ⟨g1, 0, none⟩) 32 32, .slice (some ⟨gp, 0, none⟩) 32 32] w' fun e w'' => e = .returned (.bool true) ∧ w'' = w') := by
    intro w' hw'
    have h5 := same_any _ _ ps ps w' ((B1.grow hw').key_reads HP.out) ((HPQ.out w' (grow_trans bb2 hw')).1.key_reads HP.out)
    rw [decide_eq_true rfl] at h5
    exact h5
  have HRV : Hid (∀ w', Below x2.heap.size x2 w' → Reads w' (.slice va zs.length vc) zs) := fun w' hw' => HR.out.grow (grow_trans (grow_trans c2 bb2) hw')
  have HPX : Hid (∀ w', Below x2.heap.size x2 w' → Blk w' gp 24 (B ps) ∧ Blk w' gq 24 (B qs)) := fun w' hw' => HPQ.out w' (grow_trans bb2 hw')
  have bx : Below x2.heap.size x2 x2 := Below.refl _ _
  clear HS9 d0 d1 d2 a1 a2 l1 l2 B1 B2 H1 HOW row3 BX BY bb hgl1 hgl2 hg12 HGL HGL' HLL hg1 hg2 hlx hly
  go_upto_region 7 with (first
    | ((with_reducible refine at_ld 10 ?_); refine wpList_ld _ rfl (.tmp 10) _ rfl gx _ rfl (HXY.out _ bx).1 _ _ u_path hsX ?_)
    | ((with_reducible refine at_ld 12 ?_); refine wpList_ld _ rfl (.tmp 12) _ rfl gy _ rfl (HXY.out _ bx).2 _ _ u_b32 hsX2 ?_)
    | (go_at_call 10; refine (same_law X ee _ HX.out).mono ?_; rintro e y1 ⟨rfl, a1⟩; replace bx := grow_trans bx a1; clear a1)
    | (go_at_call 11; refine (kept_true gl _ zs _ (HRW.out _ bx) (HRV.out _ bx) (by omega)).mono ?_; rintro e y2 ⟨rfl, a2⟩; replace bx := grow_trans bx a2; clear a2)
    | (go_at_call 12; refine (HSM.out _ bx).mono ?_; rintro e y3 ⟨rfl, hy3⟩; rw [hy3]; clear hy3 y3)
    | (go_at_call 13; refine (apart_walkT w2.heap.size _ 0 3 3 _ _ _ _ (by omega) (HLS.out _ bx) (Nat.le_refl _)).mono ?_; rintro e y4 ⟨rfl, a4⟩; replace bx := grow_trans (grow_trans bx (grow_alloc _ _)) a4; clear a4))
  have bb : Below w2.heap.size w2 y4 := grow_trans bb2 bx
  have BX0 := (HXY.out _ bx).1
  have BY0 := (HXY.out _ bx).2
  have HS : Hid (∀ w', Below y4.heap.size y4 w' → w'.rangeAt gp 0 (B ps).toList ∧ w'.rangeAt gq 0 (B qs).toList) := fun w' hw' => ⟨(HPQ.out w' (grow_trans bb hw')).1.range, (HPQ.out w' (grow_trans bb hw')).2.range⟩
  have d0 : Below y4.heap.size y4 y4.drew := (Below.refl _ _).drew
  clear HXY HRW HSM HRV HPX HLS bx bb2 cB
  obtain ⟨c, hc⟩ := common_ex ps qs
  obtain ⟨b, hb⟩ : ∃ b : Bool, b = true ↔ Und ps qs d := ⟨@decide (Und ps qs d) (Classical.propDecidable _), @decide_eq_true_iff _ (Classical.propDecidable _)⟩
  obtain ⟨β, hβ⟩ : ∃ β, β = kbi ps d := ⟨_, rfl⟩
  obtain ⟨γ, hγ⟩ : ∃ γ, γ = cmp ps qs := ⟨_, rfl⟩
  have cBit : Hid (∀ w', Calls Try.prog 14 #[.agg (B ps), .int .i64 d] w' fun e w'' => e = .returned (.int .i64 β) ∧ Below w'.heap.size w' w'') := by
    intro w'
    rw [hβ]
    exact bit_any ps d w' HP.out
  have rBit : Hid (∀ w', Calls Try.prog 15 #[.agg (B ps), .int .i64 d] w' fun e w'' => e = .returned (.int .i64 β) ∧ Below w'.heap.size w' w'') := by
    intro w'
    rw [hβ]
    exact rbit_any ps d w' HP.out
  have cCom : Hid (∀ w', Calls Try.prog 16 #[.agg (B ps), .agg (B qs)] w' fun e w'' => e = .returned (.int .i64 c) ∧ Below w'.heap.size w' w'') := fun w' => common_at ps qs c w' HP.out HQ.out hc
  have rCom : Hid (∀ w', Calls Try.prog 17 #[.agg (B ps), .agg (B qs)] w' fun e w'' => e = .returned (.int .i64 c) ∧ Below w'.heap.size w' w'') := fun w' => rcommon_at ps qs c w' HP.out HQ.out hc
  have cCmp : Hid (∀ w', Calls Try.prog 18 #[.agg (B ps), .agg (B qs)] w' fun e w'' => e = .returned (.int .i64 γ) ∧ Below w'.heap.size w' w'') := by
    intro w'
    rw [hγ]
    exact pcompare_any ps qs w' HP.out HQ.out
  have rCmp : Hid (∀ w', Calls Try.prog 19 #[.agg (B ps), .agg (B qs)] w' fun e w'' => e = .returned (.int .i64 γ) ∧ Below w'.heap.size w' w'') := by
    intro w'
    rw [hγ]
    exact rcmp_any ps qs w' HP.out HQ.out
  have cUnd : Hid (∀ w', Calls Try.prog 20 #[.agg (B ps), .agg (B qs), .int .i64 d] w' fun e w'' => e = .returned (.bool b) ∧ Below w'.heap.size w' w'') := fun w' => under_at ps qs d b w' HP.out HQ.out hb
  have rUnd : Hid (∀ w', Calls Try.prog 21 #[.agg (B ps), .agg (B qs), .int .i64 d] w' fun e w'' => e = .returned (.bool b) ∧ Below w'.heap.size w' w'') := fun w' => runder_at ps qs d b w' HP.out HQ.out hb
  have e1 : (β != β) = false := by simp
  have e2 : ((c : Int) != (c : Int)) = false := by simp
  have e3 : (γ != γ) = false := by simp
  have e4 : (b != b) = false := by simp
  clear hc hb hβ hγ
  refine wp_region_held_drew (S := fun w' => w'.rangeAt gp 0 (B ps).toList ∧ w'.rangeAt gq 0 (B qs).toList) (by kernel_rfl) (HS.out _ d0) (fun hHeld => ?_)
  refine wpAnyH_take (i := 0) (v := .agg (B ps)) rfl (by kernel_rfl) (by kernel_rfl) (by kernel_rfl) (fun _ _ _ h => h) (yieldsIf_load_mid rfl 24 (.tmp 5) rfl gp 0 rfl (B ps).toList _ (fun w hS => hS.1) u_path rfl hiP) hHeld ?_
  simp only [Act.put, List.getElem_toArray, List.getElem_cons_zero, List.setIfInBounds_toArray, List.set_cons_zero, List.set_cons_succ]
  refine wpAnyH_take (i := 1) (v := .int .i64 d) rfl (by kernel_rfl) (by kernel_rfl) (by kernel_rfl) (fun _ _ _ h => h) (Or.inl ⟨by rfl, fun w hS => by go_simp⟩) hHeld ?_
  simp only [Act.put, List.getElem_toArray, List.getElem_cons_zero, List.getElem_cons_succ, List.setIfInBounds_toArray, List.set_cons_zero, List.set_cons_succ]
  refine wpAnyH_take (i := 3) (v := .agg (B ps)) rfl (by kernel_rfl) (by kernel_rfl) (by kernel_rfl) (fun _ _ _ h => h) (yieldsIf_load_mid rfl 24 (.tmp 5) rfl gp 0 rfl (B ps).toList _ (fun w hS => hS.1) u_path rfl hiP) hHeld ?_
  simp only [Act.put, List.getElem_toArray, List.getElem_cons_zero, List.getElem_cons_succ, List.setIfInBounds_toArray, List.set_cons_zero, List.set_cons_succ]
  refine wpAnyH_take (i := 4) (v := .int .i64 d) rfl (by kernel_rfl) (by kernel_rfl) (by kernel_rfl) (fun _ _ _ h => h) (Or.inl ⟨by rfl, fun w hS => by go_simp⟩) hHeld ?_
  simp only [Act.put, List.getElem_toArray, List.getElem_cons_zero, List.getElem_cons_succ, List.setIfInBounds_toArray, List.set_cons_zero, List.set_cons_succ]
  refine wpAnyH_ready (rs := [2]) (by kernel_rfl) (by simp) ?_
  refine AllReadyH.cons rfl (fun KQ hK => ?_) AllReadyH.nil
  go_simp
  refine (cBit.out _).mono ?_
  rintro e v1 ⟨rfl, a1⟩
  have d1 := grow_trans d0 a1
  refine hK.out _ _ (HS.out _ d1) (fun hHeld => ?_)
  clear hK KQ
  refine wpAnyH_ready (rs := [5]) (by kernel_rfl) (by simp) ?_
  refine AllReadyH.cons rfl (fun KQ hK => ?_) AllReadyH.nil
  go_simp
  refine (rBit.out _).mono ?_
  rintro e v2 ⟨rfl, a2⟩
  have d2 := grow_trans d1 a2
  refine hK.out _ _ (HS.out _ d2) (fun hHeld => ?_)
  clear hK KQ
  refine wpAnyH_take (i := 6) (v := .bool false) rfl (by kernel_rfl) (by kernel_rfl) (by kernel_rfl) (fun _ _ _ h => h) (Or.inl ⟨by rfl, fun w hS => by go_simp⟩) hHeld ?_
  simp only [Act.put, List.getElem_toArray, List.getElem_cons_zero, List.getElem_cons_succ, List.setIfInBounds_toArray, List.set_cons_zero, List.set_cons_succ]
  refine wpAnyH_take (i := 7) (v := .bool false) rfl (by kernel_rfl) (by kernel_rfl) (by kernel_rfl) (fun _ _ _ h => h) (Or.inl ⟨by rfl, fun w hS => by go_simp⟩) hHeld ?_
  simp only [Act.put, List.getElem_toArray, List.getElem_cons_zero, List.getElem_cons_succ, List.setIfInBounds_toArray, List.set_cons_zero, List.set_cons_succ]
  refine wpAnyH_take (i := 8) (v := .agg (B ps)) rfl (by kernel_rfl) (by kernel_rfl) (by kernel_rfl) (fun _ _ _ h => h) (yieldsIf_load_mid rfl 24 (.tmp 5) rfl gp 0 rfl (B ps).toList _ (fun w hS => hS.1) u_path rfl hiP) hHeld ?_
  simp only [Act.put, List.getElem_toArray, List.getElem_cons_zero, List.getElem_cons_succ, List.setIfInBounds_toArray, List.set_cons_zero, List.set_cons_succ]
  refine wpAnyH_take (i := 9) (v := .agg (B qs)) rfl (by kernel_rfl) (by kernel_rfl) (by kernel_rfl) (fun _ _ _ h => h) (yieldsIf_load_mid rfl 24 (.tmp 6) rfl gq 0 rfl (B qs).toList _ (fun w hS => hS.2) u_path rfl hiQ) hHeld ?_
  simp only [Act.put, List.getElem_toArray, List.getElem_cons_zero, List.getElem_cons_succ, List.setIfInBounds_toArray, List.set_cons_zero, List.set_cons_succ]
  refine wpAnyH_take (i := 11) (v := .agg (B ps)) rfl (by kernel_rfl) (by kernel_rfl) (by kernel_rfl) (fun _ _ _ h => h) (yieldsIf_load_mid rfl 24 (.tmp 5) rfl gp 0 rfl (B ps).toList _ (fun w hS => hS.1) u_path rfl hiP) hHeld ?_
  simp only [Act.put, List.getElem_toArray, List.getElem_cons_zero, List.getElem_cons_succ, List.setIfInBounds_toArray, List.set_cons_zero, List.set_cons_succ]
  refine wpAnyH_take (i := 12) (v := .agg (B qs)) rfl (by kernel_rfl) (by kernel_rfl) (by kernel_rfl) (fun _ _ _ h => h) (yieldsIf_load_mid rfl 24 (.tmp 6) rfl gq 0 rfl (B qs).toList _ (fun w hS => hS.2) u_path rfl hiQ) hHeld ?_
  simp only [Act.put, List.getElem_toArray, List.getElem_cons_zero, List.getElem_cons_succ, List.setIfInBounds_toArray, List.set_cons_zero, List.set_cons_succ]
  refine wpAnyH_ready (rs := [10]) (by kernel_rfl) (by simp) ?_
  refine AllReadyH.cons rfl (fun KQ hK => ?_) AllReadyH.nil
  go_simp
  refine (cCom.out _).mono ?_
  rintro e v3 ⟨rfl, a3⟩
  have d3 := grow_trans d2 a3
  refine hK.out _ _ (HS.out _ d3) (fun hHeld => ?_)
  clear hK KQ
  refine wpAnyH_ready (rs := [13]) (by kernel_rfl) (by simp) ?_
  refine AllReadyH.cons rfl (fun KQ hK => ?_) AllReadyH.nil
  go_simp
  refine (rCom.out _).mono ?_
  rintro e v4 ⟨rfl, a4⟩
  have d4 := grow_trans d3 a4
  refine hK.out _ _ (HS.out _ d4) (fun hHeld => ?_)
  clear hK KQ
  refine wpAnyH_take (i := 14) (v := .bool false) rfl (by kernel_rfl) (by kernel_rfl) (by kernel_rfl) (fun _ _ _ h => h) (Or.inl ⟨by rfl, fun w hS => by go_simp⟩) hHeld ?_
  simp only [Act.put, List.getElem_toArray, List.getElem_cons_zero, List.getElem_cons_succ, List.setIfInBounds_toArray, List.set_cons_zero, List.set_cons_succ]
  refine wpAnyH_take (i := 15) (v := .bool false) rfl (by kernel_rfl) (by kernel_rfl) (by kernel_rfl) (fun _ _ _ h => h) (Or.inl ⟨by rfl, fun w hS => by go_simp⟩) hHeld ?_
  simp only [Act.put, List.getElem_toArray, List.getElem_cons_zero, List.getElem_cons_succ, List.setIfInBounds_toArray, List.set_cons_zero, List.set_cons_succ]
  refine wpAnyH_take (i := 16) (v := .bool false) rfl (by kernel_rfl) (by kernel_rfl) (by kernel_rfl) (fun _ _ _ h => h) (Or.inl ⟨by rfl, fun w hS => by go_simp⟩) hHeld ?_
  simp only [Act.put, List.getElem_toArray, List.getElem_cons_zero, List.getElem_cons_succ, List.setIfInBounds_toArray, List.set_cons_zero, List.set_cons_succ]
  refine wpAnyH_take (i := 17) (v := .agg (B ps)) rfl (by kernel_rfl) (by kernel_rfl) (by kernel_rfl) (fun _ _ _ h => h) (yieldsIf_load_mid rfl 24 (.tmp 5) rfl gp 0 rfl (B ps).toList _ (fun w hS => hS.1) u_path rfl hiP) hHeld ?_
  simp only [Act.put, List.getElem_toArray, List.getElem_cons_zero, List.getElem_cons_succ, List.setIfInBounds_toArray, List.set_cons_zero, List.set_cons_succ]
  refine wpAnyH_take (i := 18) (v := .agg (B qs)) rfl (by kernel_rfl) (by kernel_rfl) (by kernel_rfl) (fun _ _ _ h => h) (yieldsIf_load_mid rfl 24 (.tmp 6) rfl gq 0 rfl (B qs).toList _ (fun w hS => hS.2) u_path rfl hiQ) hHeld ?_
  simp only [Act.put, List.getElem_toArray, List.getElem_cons_zero, List.getElem_cons_succ, List.setIfInBounds_toArray, List.set_cons_zero, List.set_cons_succ]
  refine wpAnyH_take (i := 20) (v := .agg (B ps)) rfl (by kernel_rfl) (by kernel_rfl) (by kernel_rfl) (fun _ _ _ h => h) (yieldsIf_load_mid rfl 24 (.tmp 5) rfl gp 0 rfl (B ps).toList _ (fun w hS => hS.1) u_path rfl hiP) hHeld ?_
  simp only [Act.put, List.getElem_toArray, List.getElem_cons_zero, List.getElem_cons_succ, List.setIfInBounds_toArray, List.set_cons_zero, List.set_cons_succ]
  refine wpAnyH_take (i := 21) (v := .agg (B qs)) rfl (by kernel_rfl) (by kernel_rfl) (by kernel_rfl) (fun _ _ _ h => h) (yieldsIf_load_mid rfl 24 (.tmp 6) rfl gq 0 rfl (B qs).toList _ (fun w hS => hS.2) u_path rfl hiQ) hHeld ?_
  simp only [Act.put, List.getElem_toArray, List.getElem_cons_zero, List.getElem_cons_succ, List.setIfInBounds_toArray, List.set_cons_zero, List.set_cons_succ]
  refine wpAnyH_ready (rs := [19]) (by kernel_rfl) (by simp) ?_
  refine AllReadyH.cons rfl (fun KQ hK => ?_) AllReadyH.nil
  go_simp
  refine (cCmp.out _).mono ?_
  rintro e v5 ⟨rfl, a5⟩
  have d5 := grow_trans d4 a5
  refine hK.out _ _ (HS.out _ d5) (fun hHeld => ?_)
  clear hK KQ
  refine wpAnyH_ready (rs := [22]) (by kernel_rfl) (by simp) ?_
  refine AllReadyH.cons rfl (fun KQ hK => ?_) AllReadyH.nil
  go_simp
  refine (rCmp.out _).mono ?_
  rintro e v6 ⟨rfl, a6⟩
  have d6 := grow_trans d5 a6
  refine hK.out _ _ (HS.out _ d6) (fun hHeld => ?_)
  clear hK KQ
  refine wpAnyH_take (i := 23) (v := .bool false) rfl (by kernel_rfl) (by kernel_rfl) (by kernel_rfl) (fun _ _ _ h => h) (Or.inl ⟨by rfl, fun w hS => by go_simp⟩) hHeld ?_
  simp only [Act.put, List.getElem_toArray, List.getElem_cons_zero, List.getElem_cons_succ, List.setIfInBounds_toArray, List.set_cons_zero, List.set_cons_succ]
  refine wpAnyH_take (i := 24) (v := .bool false) rfl (by kernel_rfl) (by kernel_rfl) (by kernel_rfl) (fun _ _ _ h => h) (Or.inl ⟨by rfl, fun w hS => by go_simp⟩) hHeld ?_
  simp only [Act.put, List.getElem_toArray, List.getElem_cons_zero, List.getElem_cons_succ, List.setIfInBounds_toArray, List.set_cons_zero, List.set_cons_succ]
  refine wpAnyH_take (i := 25) (v := .bool false) rfl (by kernel_rfl) (by kernel_rfl) (by kernel_rfl) (fun _ _ _ h => h) (Or.inl ⟨by rfl, fun w hS => by go_simp⟩) hHeld ?_
  simp only [Act.put, List.getElem_toArray, List.getElem_cons_zero, List.getElem_cons_succ, List.setIfInBounds_toArray, List.set_cons_zero, List.set_cons_succ]
  refine wpAnyH_take (i := 26) (v := .agg (B ps)) rfl (by kernel_rfl) (by kernel_rfl) (by kernel_rfl) (fun _ _ _ h => h) (yieldsIf_load_mid rfl 24 (.tmp 5) rfl gp 0 rfl (B ps).toList _ (fun w hS => hS.1) u_path rfl hiP) hHeld ?_
  simp only [Act.put, List.getElem_toArray, List.getElem_cons_zero, List.getElem_cons_succ, List.setIfInBounds_toArray, List.set_cons_zero, List.set_cons_succ]
  refine wpAnyH_take (i := 27) (v := .agg (B qs)) rfl (by kernel_rfl) (by kernel_rfl) (by kernel_rfl) (fun _ _ _ h => h) (yieldsIf_load_mid rfl 24 (.tmp 6) rfl gq 0 rfl (B qs).toList _ (fun w hS => hS.2) u_path rfl hiQ) hHeld ?_
  simp only [Act.put, List.getElem_toArray, List.getElem_cons_zero, List.getElem_cons_succ, List.setIfInBounds_toArray, List.set_cons_zero, List.set_cons_succ]
  refine wpAnyH_take (i := 28) (v := .int .i64 d) rfl (by kernel_rfl) (by kernel_rfl) (by kernel_rfl) (fun _ _ _ h => h) (Or.inl ⟨by rfl, fun w hS => by go_simp⟩) hHeld ?_
  simp only [Act.put, List.getElem_toArray, List.getElem_cons_zero, List.getElem_cons_succ, List.setIfInBounds_toArray, List.set_cons_zero, List.set_cons_succ]
  refine wpAnyH_take (i := 30) (v := .agg (B ps)) rfl (by kernel_rfl) (by kernel_rfl) (by kernel_rfl) (fun _ _ _ h => h) (yieldsIf_load_mid rfl 24 (.tmp 5) rfl gp 0 rfl (B ps).toList _ (fun w hS => hS.1) u_path rfl hiP) hHeld ?_
  simp only [Act.put, List.getElem_toArray, List.getElem_cons_zero, List.getElem_cons_succ, List.setIfInBounds_toArray, List.set_cons_zero, List.set_cons_succ]
  refine wpAnyH_take (i := 31) (v := .agg (B qs)) rfl (by kernel_rfl) (by kernel_rfl) (by kernel_rfl) (fun _ _ _ h => h) (yieldsIf_load_mid rfl 24 (.tmp 6) rfl gq 0 rfl (B qs).toList _ (fun w hS => hS.2) u_path rfl hiQ) hHeld ?_
  simp only [Act.put, List.getElem_toArray, List.getElem_cons_zero, List.getElem_cons_succ, List.setIfInBounds_toArray, List.set_cons_zero, List.set_cons_succ]
  refine wpAnyH_take (i := 32) (v := .int .i64 d) rfl (by kernel_rfl) (by kernel_rfl) (by kernel_rfl) (fun _ _ _ h => h) (Or.inl ⟨by rfl, fun w hS => by go_simp⟩) hHeld ?_
  simp only [Act.put, List.getElem_toArray, List.getElem_cons_zero, List.getElem_cons_succ, List.setIfInBounds_toArray, List.set_cons_zero, List.set_cons_succ]
  refine wpAnyH_ready (rs := [29]) (by kernel_rfl) (by simp) ?_
  refine AllReadyH.cons rfl (fun KQ hK => ?_) AllReadyH.nil
  go_simp
  refine (cUnd.out _).mono ?_
  rintro e v7 ⟨rfl, a7⟩
  have d7 := grow_trans d6 a7
  refine hK.out _ _ (HS.out _ d7) (fun hHeld => ?_)
  clear hK KQ
  refine wpAnyH_ready (rs := [33]) (by kernel_rfl) (by simp) ?_
  refine AllReadyH.cons rfl (fun KQ hK => ?_) AllReadyH.nil
  go_simp
  refine (rUnd.out _).mono ?_
  rintro e v8 ⟨rfl, a8⟩
  have d8 := grow_trans d7 a8
  refine hK.out _ _ (HS.out _ d8) (fun hHeld => ?_)
  clear hK KQ
  refine wpAnyH_take (i := 34) (v := .bool false) rfl (by kernel_rfl) (by kernel_rfl) (by kernel_rfl) (fun _ _ _ h => h) (Or.inl ⟨by rfl, fun w hS => by go_simp⟩) hHeld ?_
  simp only [Act.put, List.getElem_toArray, List.getElem_cons_zero, List.getElem_cons_succ, List.setIfInBounds_toArray, List.set_cons_zero, List.set_cons_succ]
  refine wpAnyH_take (i := 35) (v := .bool false) rfl (by kernel_rfl) (by kernel_rfl) (by kernel_rfl) (fun _ _ _ h => h) (Or.inl ⟨by rfl, fun w hS => by go_simp⟩) hHeld ?_
  simp only [Act.put, List.getElem_toArray, List.getElem_cons_zero, List.getElem_cons_succ, List.setIfInBounds_toArray, List.set_cons_zero, List.set_cons_succ]
  refine wpAnyH_done (by kernel_rfl) ?_ _
  replace bb := grow_trans bb d8
  replace BX0 := BX0.grow d8
  replace BY0 := BY0.grow d8
  clear d0 d1 d2 d3 d4 d5 d6 d7 d8 a1 a2 a3 a4 a5 a6 a7 a8 HS cBit rBit cCom rCom cCmp rCmp cUnd rUnd e1 e2 e3 e4
  have HZ0 : Hid ((B X).size = 32) := HZX
  go_upto_region 13 with (first
    | ((with_reducible refine at_ld 5 ?_); refine wpList_ld _ rfl (.tmp 5) _ rfl gp _ rfl (HPQ.out _ bb).1 _ _ u_path hsP ?_)
    | (go_at_call 22; refine (flip_any ps d _ HP.out).mono ?_; rintro e s1 ⟨F1, n1, hF, rfl, a1⟩; have HF1 := hidden hF; have hkF : Key F1 := hF.key (fun _ h => h.1); have hsF := key_size hkF; have hsF2 := b32_size hkF; have HK1 := hidden hkF; have HZ1 : Hid ((B F1).size = 32) := (by rw [B_size]; exact hkF.1); clear hF hkF; replace BX0 := BX0.grow a1; replace BY0 := BY0.grow a1; replace bb := grow_trans bb a1; clear a1)
    | ((with_reducible refine at_st 10 ?_); refine wpList_sto _ rfl (.tmp 10) _ _ rfl gx _ (B F1) rfl rfl BX0 hsF (by rw [HZ0.out, HZ1.out]) (B_one _) ?_; intro s2 BX1 g2; replace bb := below_row bb g2 hgx; replace BY0 := BY0.kept g2 (Ne.symm hne); clear g2 BX0)
    | (go_at_call 23; refine (rflip_any ps d _ HP.out).mono ?_; rintro e s3 ⟨G, m, hG, rfl, a3⟩; obtain ⟨q1, q2⟩ := HF1.out.one hG (fun _ _ h k => h.one k); subst q1; subst q2; clear hG; replace BX1 := BX1.grow a3; replace BY0 := BY0.grow a3; replace bb := grow_trans bb a3; clear a3)
    | ((with_reducible refine at_st 12 ?_); refine wpList_sto _ rfl (.tmp 12) _ _ rfl gy _ (B F1) rfl rfl BY0 hsF2 (by rw [HZ0.out, HZ1.out]) (B_one _) ?_; intro s4 BY1 g4; replace bb := below_row bb g4 hgy; replace BX1 := BX1.kept g4 hne; clear g4 BY0)
    | ((with_reducible refine at_ld 10 ?_); refine wpList_ld _ rfl (.tmp 10) _ rfl gx _ rfl BX1 _ _ u_path hsF ?_)
    | ((with_reducible refine at_ld 12 ?_); refine wpList_ld _ rfl (.tmp 12) _ rfl gy _ rfl BY1 _ _ u_b32 hsF2 ?_)
    | (go_at_call 10; refine (same_law F1 n1 _ HK1.out).mono ?_; rintro e s5 ⟨rfl, a5⟩; replace BX1 := BX1.grow a5; replace BY1 := BY1.grow a5; replace bb := grow_trans bb a5; clear a5))
  clear HF1 hsF hsF2
  go_upto_region 17 with (first
    | ((with_reducible refine at_ld 5 ?_); refine wpList_ld _ rfl (.tmp 5) _ rfl gp _ rfl (HPQ.out _ bb).1 _ _ u_path hsP ?_)
    | (go_at_call 24; refine (first_any ps d _ HP.out).mono ?_; rintro e s1 ⟨F2, n2, hF, rfl, a1⟩; have HF2 := hidden hF; have hkF : Key F2 := hF.key (fun _ h => h.1); have hsF := key_size hkF; have hsF2 := b32_size hkF; have HK2 := hidden hkF; have HZ2 : Hid ((B F2).size = 32) := (by rw [B_size]; exact hkF.1); clear hF hkF; replace BX1 := BX1.grow a1; replace BY1 := BY1.grow a1; replace bb := grow_trans bb a1; clear a1)
    | ((with_reducible refine at_st 10 ?_); refine wpList_sto _ rfl (.tmp 10) _ _ rfl gx _ (B F2) rfl rfl BX1 hsF (by rw [HZ1.out, HZ2.out]) (B_one _) ?_; intro s2 BX2 g2; replace bb := below_row bb g2 hgx; replace BY1 := BY1.kept g2 (Ne.symm hne); clear g2 BX1)
    | (go_at_call 25; refine (rfilled_any ps d 0 _ HP.out (Or.inl rfl)).mono ?_; rintro e s3 ⟨G, m, hG, rfl, a3⟩; obtain ⟨q1, q2⟩ := HF2.out.one hG (fun _ _ h k => h.one k); subst q1; subst q2; clear hG; replace BX2 := BX2.grow a3; replace BY1 := BY1.grow a3; replace bb := grow_trans bb a3; clear a3)
    | ((with_reducible refine at_st 12 ?_); refine wpList_sto _ rfl (.tmp 12) _ _ rfl gy _ (B F2) rfl rfl BY1 hsF2 (by rw [HZ1.out, HZ2.out]) (B_one _) ?_; intro s4 BY2 g4; replace bb := below_row bb g4 hgy; replace BX2 := BX2.kept g4 hne; clear g4 BY1)
    | ((with_reducible refine at_ld 10 ?_); refine wpList_ld _ rfl (.tmp 10) _ rfl gx _ rfl BX2 _ _ u_path hsF ?_)
    | ((with_reducible refine at_ld 12 ?_); refine wpList_ld _ rfl (.tmp 12) _ rfl gy _ rfl BY2 _ _ u_b32 hsF2 ?_)
    | (go_at_call 10; refine (same_law F2 n2 _ HK2.out).mono ?_; rintro e s5 ⟨rfl, a5⟩; replace BX2 := BX2.grow a5; replace BY2 := BY2.grow a5; replace bb := grow_trans bb a5; clear a5))
  clear HF2 hsF hsF2
  go_upto_region 21 with (first
    | ((with_reducible refine at_ld 5 ?_); refine wpList_ld _ rfl (.tmp 5) _ rfl gp _ rfl (HPQ.out _ bb).1 _ _ u_path hsP ?_)
    | (go_at_call 26; refine (last_any ps d _ HP.out).mono ?_; rintro e s1 ⟨F3, n3, hF, rfl, a1⟩; have HF3 := hidden hF; have hkF : Key F3 := hF.key (fun _ h => h.1); have hsF := key_size hkF; have hsF2 := b32_size hkF; have HK3 := hidden hkF; have HZ3 : Hid ((B F3).size = 32) := (by rw [B_size]; exact hkF.1); clear hF hkF; replace BX2 := BX2.grow a1; replace BY2 := BY2.grow a1; replace bb := grow_trans bb a1; clear a1)
    | ((with_reducible refine at_st 10 ?_); refine wpList_sto _ rfl (.tmp 10) _ _ rfl gx _ (B F3) rfl rfl BX2 hsF (by rw [HZ2.out, HZ3.out]) (B_one _) ?_; intro s2 BX3 g2; replace bb := below_row bb g2 hgx; replace BY2 := BY2.kept g2 (Ne.symm hne); clear g2 BX2)
    | (go_at_call 25; refine (rfilled_any ps d 1 _ HP.out (Or.inr rfl)).mono ?_; rintro e s3 ⟨G, m, hG, rfl, a3⟩; obtain ⟨q1, q2⟩ := HF3.out.one hG (fun _ _ h k => h.one k); subst q1; subst q2; clear hG; replace BX3 := BX3.grow a3; replace BY2 := BY2.grow a3; replace bb := grow_trans bb a3; clear a3)
    | ((with_reducible refine at_st 12 ?_); refine wpList_sto _ rfl (.tmp 12) _ _ rfl gy _ (B F3) rfl rfl BY2 hsF2 (by rw [HZ2.out, HZ3.out]) (B_one _) ?_; intro s4 BY3 g4; replace bb := below_row bb g4 hgy; replace BX3 := BX3.kept g4 hne; clear g4 BY2)
    | ((with_reducible refine at_ld 10 ?_); refine wpList_ld _ rfl (.tmp 10) _ rfl gx _ rfl BX3 _ _ u_path hsF ?_)
    | ((with_reducible refine at_ld 12 ?_); refine wpList_ld _ rfl (.tmp 12) _ rfl gy _ rfl BY3 _ _ u_b32 hsF2 ?_)
    | (go_at_call 10; refine (same_law F3 n3 _ HK3.out).mono ?_; rintro e s5 ⟨rfl, a5⟩; replace BX3 := BX3.grow a5; replace BY3 := BY3.grow a5; replace bb := grow_trans bb a5; clear a5))
  clear HF3 hsF hsF2
  have cN : Hid (∀ w', Calls Try.prog 27 #[.agg (B ps)] w' fun e w'' => ∃ ys b, NextAns ps ys b ∧ e = .returned (.tuple #[.agg (B ys), .bool b]) ∧ Below w'.heap.size w' w'') := fun w' => next_any ps w' HP.out
  have rN : Hid (∀ w', Calls Try.prog 28 #[.agg (B ps)] w' fun e w'' => ∃ ys b, NextAns ps ys b ∧ e = .returned (.tuple #[.agg (B ys), .bool b]) ∧ Below w'.heap.size w' w'') := fun w' => rnext_any ps w' HP.out
  go_wp2_with (first
    | ((with_reducible refine at_ld 5 ?_); refine wpList_ld _ rfl (.tmp 5) _ rfl gp _ rfl (HPQ.out _ bb).1 _ _ u_path hsP ?_)
    | (go_at_call 27; refine (cN.out _).mono ?_; rintro e s1 ⟨F4, n4, hF, rfl, a1⟩; have HF4 := hidden hF; have hkF : Key F4 := hF.key; have hsF := key_size hkF; have hsF2 := b32_size hkF; have HK4 := hidden hkF; have HZ4 : Hid ((B F4).size = 32) := (by rw [B_size]; exact hkF.1); have E4 : ∀ w, (Op.equalIn 10000 24 (.agg (B F4)) (.agg (B F4))).run Try.prog w = .ok true w := (fun w => by rw [path_eq F4 F4 hkF.1 hkF.1 w, decide_eq_true rfl]); have e5 : (n4 == n4) = true := (by simp); clear hF hkF; replace BX3 := BX3.grow a1; replace BY3 := BY3.grow a1; replace bb := grow_trans bb a1; clear a1)
    | ((with_reducible refine at_st 10 ?_); refine wpList_sto _ rfl (.tmp 10) _ _ rfl gx _ (B F4) rfl rfl BX3 hsF (by rw [HZ3.out, HZ4.out]) (B_one _) ?_; intro s2 BX4 g2; replace bb := below_row bb g2 hgx; replace BY3 := BY3.kept g2 (Ne.symm hne); clear g2 BX3)
    | (go_at_call 28; refine (rN.out _).mono ?_; rintro e s3 ⟨G, m, hG, rfl, a3⟩; obtain ⟨q1, q2⟩ := HF4.out.one hG; subst q1; subst q2; clear hG; replace BX4 := BX4.grow a3; replace BY3 := BY3.grow a3; replace bb := grow_trans bb a3; clear a3)
    | ((with_reducible refine at_st 12 ?_); refine wpList_sto _ rfl (.tmp 12) _ _ rfl gy _ (B F4) rfl rfl BY3 hsF2 (by rw [HZ3.out, HZ4.out]) (B_one _) ?_; intro s4 BY4 g4; replace bb := below_row bb g4 hgy; replace BX4 := BX4.kept g4 hne; clear g4 BY3)
    | ((with_reducible refine at_ld 10 ?_); refine wpList_ld _ rfl (.tmp 10) _ rfl gx _ rfl BX4 _ _ u_path hsF ?_)
    | ((with_reducible refine at_ld 12 ?_); refine wpList_ld _ rfl (.tmp 12) _ rfl gy _ rfl BY4 _ _ u_b32 hsF2 ?_))
  go_ret
  exact ⟨rfl, grow_trans c2 bb⟩

end Go.Proofs.Ytgkkmkgkgojmiaa
