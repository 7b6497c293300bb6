/- NodeCodes' walk: the law returns true at every node and every list of bytes, and nothing that was in memory turns. -/
import Derived.Test.YtjcklpdifanjlaaDoorNodeRef3
import Derived.Test.YtjcklpdifanjlaaDoorApartT
import Derived.Test.YtjcklpdifanjlaaDoorKit2
namespace Go.Proofs.YtjcklpdifanjlaaDoor
set_option maxRecDepth 20000
open Go.RowKit

theorem lists_apT (base : Nat) (w : World) (vs : List Value) (Zs Ss : List (List Int)) (n : Nat) (hv : vs.length = n) (hO : ∀ i, i < n → OwnT base w (vs.getD i undef) (Zs.getD i []) (Ss.getD i []))
    (hA : ∀ i k, i < n → k < n → i ≠ k → ∀ g, (vs.getD i undef).ownBlock = some g → (vs.getD k undef).ownBlock ≠ some g) : ListsT base w.heap.size 0 n (fun i => vs.getD i undef) (fun i => Zs.getD i []) (fun i => Ss.getD i []) (w.alloc (.cells vs.toArray 28)) where
  cell := fun i hi => by
    have hr : (w.alloc (.cells vs.toArray 28)).heap[w.heap.size]? = some (.cells vs.toArray 28 (0, 0)) := heap_alloc_new w _
    rw [cell_of_row _ _ _ _ _ _ hr]
    simp [List.getD, hv, hi]
  own := fun i hi => (hO i hi).grow (grow_alloc w _)
  apart := hA
  far := fun i hi e => by
    have := ((hO i hi).lt _ e).2
    omega

theorem lent_at (v : Value) (zs : List Int) (w : World) (h : Reads w v zs) (hl : zs.length ≤ 140737488355328) :
    Calls Tryd.prog 8 #[v] w fun e w' => ∃ g, e = .returned (.slice (some ⟨g, 0, none⟩) zs.length (zs.length + 5)) ∧ w.heap.size ≤ g ∧ Row w' g (zs ++ marks zs.length) ∧ Below w.heap.size w w' :=
  (lent_any v zs w h hl).mono fun _ _ ⟨h1, h2, h3, _⟩ => ⟨_, h1, Nat.le_refl _, h2, h3⟩

theorem row_reads {w : World} {g : Nat} {zs : List Int} (h : Row w g (zs ++ marks zs.length)) (hb : Bytes zs) : Reads w (.slice (some ⟨g, 0, none⟩) zs.length (zs.length + 5)) zs := by
  refine ⟨_, _, rfl, by omega, (fun e => by cases e), hb, fun _ => ⟨g, 0, rfl, fun i hi => ?_⟩⟩
  rw [Nat.zero_add, h.cell i (by simp; omega)]
  simp [List.getD, hi, List.getElem?_append_left hi]

set_option maxHeartbeats 8000000 in
theorem nodeCodes_walk (k : Int) (a b c d : List Int) (v : Value) (zs : List Int) (w : World) (h : Nd k a b c d) (hv : Reads w v zs) (hlz : zs.length ≤ 140737488355328 - 4096) (hL : Laid w) :
    Calls Tryd.prog 3 #[.agg (B (nd k a b c d)), v] w fun e w' => e = .returned (.bool true) ∧ Below w.heap.size w w' := by
  obtain ⟨fs, hu⟩ := u_node
  have HU := hidden hu
  have KV := hidden hv.kp
  have KW := hidden (below_kp w)
  have KL := hidden hL.kp
  have HF := hidden h.facts
  have hby : Bytes zs := by obtain ⟨_, _, _, _, _, hb, _⟩ := hv; exact hb
  have HBY := hidden hby
  have HLE : Hid (∀ w', Reads w' v zs → Calls Tryd.prog 8 #[v] w' fun e w'' => ∃ g, e = .returned (.slice (some ⟨g, 0, none⟩) zs.length (zs.length + 5)) ∧ w'.heap.size ≤ g ∧ Row w'' g (zs ++ marks zs.length) ∧ Below w'.heap.size w' w'') := fun w' hr => lent_at v zs w' hr (by omega)
  have HKP : Hid (∀ w' g, Row w' g (zs ++ marks zs.length) → Reads w' v zs → Calls Tryd.prog 18 #[.slice (some ⟨g, 0, none⟩) zs.length (zs.length + 5), v] w' fun e w'' => e = .returned (.bool true) ∧ Below w'.heap.size w' w'') := fun w' g hr hv => kept_true g v zs w' hr hv (by omega)
  have HLZ : Hid (zs.length ≤ 140737488355328 - 4096) := hlz
  obtain ⟨D, hD⟩ : ∃ D, D = dgN k a b c d := ⟨_, rfl⟩
  obtain ⟨oE, hoE⟩ : ∃ x, x = okE k a b c d := ⟨_, rfl⟩
  have hDl : D.length = 32 := by
    rw [hD, dgN]
    split
    · exact dig_length _
    · rfl
  have HC : Hid (∀ w', Calls Tryd.prog 15 #[.agg (B (nd k a b c d))] w' fun e w'' => e = .returned (.int .i64 oE) ∧ Below w'.heap.size w' w'') := fun w' => by rw [hoE]; exact check_any k a b c d w' h
  have HCr : Hid (∀ w', Calls Tryd.prog 16 #[.agg (B (nd k a b c d))] w' fun e w'' => e = .returned (.int .i64 oE) ∧ Below w'.heap.size w' w'') := fun w' => by rw [hoE]; exact refCheck_any k a b c d w' h
  have HG : Hid (∀ w', Laid w' → Calls Tryd.prog 9 #[.agg (B (nd k a b c d))] w' fun e w'' => e = .returned (.tuple #[.agg (B D), .int .i64 oE]) ∧ Below w'.heap.size w' w'') := fun w' hl => by rw [hoE, hD]; exact digest_any k a b c d w' h hl
  have HGr : Hid (∀ w', Calls Tryd.prog 10 #[.agg (B (nd k a b c d))] w' fun e w'' => e = .returned (.tuple #[.agg (B D), .int .i64 oE]) ∧ Below w'.heap.size w' w'') := fun w' => by rw [hoE, hD]; exact refDigest_any k a b c d w' h
  have HE : Hid (∀ w', Calls Tryd.prog 11 #[.agg (B (nd k a b c d))] w' fun e w'' => ∃ v sp, e = .returned (.tuple #[v, .int .i64 oE]) ∧ Own w'.heap.size w'' v (txN k a b c d) sp ∧ Below w'.heap.size w' w'') := fun w' => by rw [hoE]; exact encode_any k a b c d w' h
  have HEr : Hid (∀ w', Calls Tryd.prog 12 #[.agg (B (nd k a b c d))] w' fun e w'' => ∃ v sp, e = .returned (.tuple #[v, .int .i64 oE]) ∧ Own w'.heap.size w'' v (txN k a b c d) sp ∧ Below w'.heap.size w' w'') := fun w' => by rw [hoE]; exact refEncode_any k a b c d w' h
  obtain ⟨k2, a2, b2, c2, d2, hn2, h2⟩ := dc_nd zs hby
  obtain ⟨M, hM⟩ : ∃ M, M = nd k2 a2 b2 c2 d2 := ⟨_, rfl⟩
  obtain ⟨dE, hdE⟩ : ∃ x, x = dcE zs := ⟨_, rfl⟩
  have HDl : Hid (∀ w' x, Reads w' x zs → Calls Tryd.prog 13 #[x] w' fun e w'' => e = .returned (.tuple #[.agg (B M), .int .i64 dE]) ∧ Below w'.heap.size w' w'') := fun w' x hx => by rw [hM, ← hn2, hdE]; exact decode_any x zs w' hx
  have HDr : Hid (∀ w' x, Reads w' x zs → Calls Tryd.prog 14 #[x] w' fun e w'' => e = .returned (.tuple #[.agg (B M), .int .i64 dE]) ∧ Below w'.heap.size w' w'') := fun w' x hx => by rw [hM, ← hn2, hdE]; exact refDecode_any x zs w' hx
  have HF2 := hidden h2.facts
  have HNz2 : Hid ((B (List.replicate 129 0)).size = (B (nd k2 a2 b2 c2 d2)).size) := by show _ = _; rw [h2.size]; rfl
  have hEqM : ∀ w, (Op.equalIn 10000 27 (.agg (B (nd k2 a2 b2 c2 d2))) (.agg (B (nd k2 a2 b2 c2 d2)))).run Tryd.prog w = .ok true w := fun w => by have := node_eq h2 h2 w; simpa using this
  rw [← hM] at HF2 HNz2 hEqM
  have hEqD : ∀ w, (Op.equalIn 10000 25 (.agg (B D)) (.agg (B D))).run Tryd.prog w = .ok true w := fun w => by have := hash_eq D D hDl hDl w; simpa using this
  have HDs : Hid ((Tryd.prog.info? 25).map (·.size) = some (B D).size) := by show _ = _; rw [B_size, hDl]; exact sz_hash
  have HDs2 : Hid ((Tryd.prog.info? 25).map (·.size) = some (B D).toList.length) := by show _ = _; rw [Array.length_toList, B_size, hDl]; exact sz_hash
  have HDz : Hid ((B (List.replicate 32 0)).size = (B D).size) := by show _ = _; rw [B_size, B_size, hDl]; rfl
  obtain ⟨N, hN⟩ : ∃ N, N = nd k a b c d := ⟨_, rfl⟩
  obtain ⟨X, hX⟩ : ∃ X, X = txN k a b c d := ⟨_, rfl⟩
  have HSm : Hid (∀ w' x y, Reads w' x X → Reads w' y X → Calls Tryd.prog 17 #[x, y] w' fun e w'' => e = .returned (.bool true) ∧ w'' = w') := by
    intro w' x y hx hy
    have := same_any x y X X w' hx hy
    simpa using this
  rw [← hN] at HC HCr HG HGr HE HEr HF ⊢
  rw [← hX] at HE HEr
  obtain ⟨va, vc, rfl, _, _, _, _⟩ := hv
  clear h hu hL hby hlz hD hoE hDl hn2 h2 hM hdE hN hX
  have hwe : ∀ x : Int, (x != x) = false := fun x => by simp
  go_enter Tryd.func3, Tryd.ntmps3
  go_wp2_with (first
    | ((with_reducible refine at_bxd 2 ?_); refine wpList_bx _ rfl _ _ rfl _ rfl ?_; intro x1 g2 hg1 hl1 bq1 q1; replace KV := hidden (KV.out.step q1); replace KW := hidden (KW.out.step q1); replace KL := hidden (KL.out.step q1); have KN := hidden bq1.kp; clear hg1 hl1 bq1 q1)
    | ((with_reducible refine at_ldd 23 2 ?_); refine wpList_lds _ rfl _ _ rfl g2 _ _ rfl KN.out.now HU.out HF.out.ln ?_)
    | ((with_reducible refine at_ald 6 ?_); refine wpList_al _ rfl _ rfl _ zero_hash ?_; intro x4 g6 hg6 hl4 bq4 q4; clear hl4)
    | ((with_reducible refine at_st 6 ?_); refine wpList_sto _ rfl _ _ _ rfl g6 _ (B D) rfl rfl bq4 HDs.out HDz.out (B_one _) ?_; intro x5 by5 r5; have q5 := below_row q4 r5 hg6; replace KV := hidden (KV.out.step q5); replace KW := hidden (KW.out.step q5); replace KL := hidden (KL.out.step q5); replace KN := hidden (KN.out.step q5); replace KR := hidden (KR.out.step q5); have K6 := hidden by5.kp; clear q5 q4 r5 by5 bq4 hg6)
    | ((with_reducible refine at_ldd 28 2 ?_); refine wpList_lds _ rfl _ _ rfl g2 _ _ rfl KN.out.now HU.out HF.out.ln ?_)
    | ((with_reducible refine at_ald 8 ?_); refine wpList_al _ rfl _ rfl _ zero_hash ?_; intro x7 g8 hg8 hl7 bq7 q7; clear hl7)
    | ((with_reducible refine at_st 8 ?_); refine wpList_sto _ rfl _ _ _ rfl g8 _ (B D) rfl rfl bq7 HDs.out HDz.out (B_one _) ?_; intro x8 by8 r8; have q8 := below_row q7 r8 hg8; replace KV := hidden (KV.out.step q8); replace KW := hidden (KW.out.step q8); replace KL := hidden (KL.out.step q8); replace KN := hidden (KN.out.step q8); replace KR := hidden (KR.out.step q8); replace K6 := hidden (K6.out.step q8); have K8 := hidden by8.kp; clear q8 q7 r8 by8 bq7 hg8)
    | ((with_reducible refine at_ldd 33 2 ?_); refine wpList_lds _ rfl _ _ rfl g2 _ _ rfl KN.out.now HU.out HF.out.ln ?_)
    | ((with_reducible refine at_ldd 38 2 ?_); refine wpList_lds _ rfl _ _ rfl g2 _ _ rfl KN.out.now HU.out HF.out.ln ?_)
    | ((with_reducible refine at_ldd 43 2 ?_); refine wpList_lds _ rfl _ _ rfl g2 _ _ rfl KN.out.now HU.out HF.out.ln ?_)
    | ((with_reducible refine at_ald 16 ?_); refine wpList_al _ rfl _ rfl _ zero_node ?_; intro x13 g16 hg16 hl13 bq13 q13; clear hl13)
    | ((with_reducible refine at_st 16 ?_); refine wpList_sto _ rfl _ _ _ rfl g16 _ (B M) rfl rfl bq13 HF2.out.ln HNz2.out (B_one _) ?_; intro x14 by14 r14; have q14 := below_row q13 r14 hg16; replace KV := hidden (KV.out.step q14); replace KW := hidden (KW.out.step q14); replace KL := hidden (KL.out.step q14); replace KN := hidden (KN.out.step q14); replace KR := hidden (KR.out.step q14); replace K6 := hidden (K6.out.step q14); replace K8 := hidden (K8.out.step q14); replace KT := hidden (KT.out.step q14); replace KT2 := hidden (KT2.out.step q14); replace KU := hidden (KU.out.step q14); have K16 := hidden by14.kp; clear q14 q13 r14 by14 bq13 hg16)
    | ((with_reducible refine at_ald 18 ?_); refine wpList_al _ rfl _ rfl _ zero_node ?_; intro x16 g18 hg18 hl16 bq16 q16; clear hl16)
    | ((with_reducible refine at_st 18 ?_); refine wpList_sto _ rfl _ _ _ rfl g18 _ (B M) rfl rfl bq16 HF2.out.ln HNz2.out (B_one _) ?_; intro x17 by17 r17; have q17 := below_row q16 r17 hg18; replace KV := hidden (KV.out.step q17); replace KW := hidden (KW.out.step q17); replace KL := hidden (KL.out.step q17); replace KN := hidden (KN.out.step q17); replace KR := hidden (KR.out.step q17); replace K6 := hidden (K6.out.step q17); replace K8 := hidden (K8.out.step q17); replace KT := hidden (KT.out.step q17); replace KT2 := hidden (KT2.out.step q17); replace KU := hidden (KU.out.step q17); replace K16 := hidden (K16.out.step q17); have K18 := hidden by17.kp; clear q17 q16 r17 by17 bq16 hg18)
    | (go_at_call 14; refine (HDr.out _ _ KV.out.now).mono ?_; rintro e x15 ⟨rfl, q15⟩; replace KV := hidden (KV.out.step q15); replace KW := hidden (KW.out.step q15); replace KL := hidden (KL.out.step q15); replace KN := hidden (KN.out.step q15); replace KR := hidden (KR.out.step q15); replace K6 := hidden (K6.out.step q15); replace K8 := hidden (K8.out.step q15); replace KT := hidden (KT.out.step q15); replace KT2 := hidden (KT2.out.step q15); replace KU := hidden (KU.out.step q15); replace K16 := hidden (K16.out.step q15); have mk_frootcellarref05Decode_1 : Hid True := trivial; clear q15)
    | (go_at_call 13; refine (HDl.out _ _ (row_reads KR.out.now HBY.out)).mono ?_; rintro e x12 ⟨rfl, q12⟩; replace KV := hidden (KV.out.step q12); replace KW := hidden (KW.out.step q12); replace KL := hidden (KL.out.step q12); replace KN := hidden (KN.out.step q12); replace KR := hidden (KR.out.step q12); replace K6 := hidden (K6.out.step q12); replace K8 := hidden (K8.out.step q12); replace KT := hidden (KT.out.step q12); replace KT2 := hidden (KT2.out.step q12); replace KU := hidden (KU.out.step q12); have mk_fnodeDecode_1 : Hid True := trivial; clear q12)
    | (go_at_call 12; refine (HEr.out _).mono ?_; rintro e x11 ⟨u, su, rfl, hO, q11⟩; replace KV := hidden (KV.out.step q11); replace KW := hidden (KW.out.step q11); replace KL := hidden (KL.out.step q11); replace KN := hidden (KN.out.step q11); replace KR := hidden (KR.out.step q11); replace K6 := hidden (K6.out.step q11); replace K8 := hidden (K8.out.step q11); replace KT := hidden (KT.out.step q11); replace KT2 := hidden (KT2.out.step q11); have KU := hidden hO.reads.kp; obtain ⟨ua, uc, rfl⟩ := hO.slice; clear hO; have mk_frootcellarref05Encode_1 : Hid True := trivial; clear q11)
    | (go_at_call 11; have mk := mk_fnodeEncode_1; clear mk; have z1 := KR.out.now.lt; have z2 := KT.out.now.lt; refine (HE.out _).mono ?_; rintro e x10 ⟨t2, sp2, rfl, hO, q10⟩; replace KV := hidden (KV.out.step q10); replace KW := hidden (KW.out.step q10); replace KL := hidden (KL.out.step q10); replace KN := hidden (KN.out.step q10); replace KR := hidden (KR.out.step q10); replace K6 := hidden (K6.out.step q10); replace K8 := hidden (K8.out.step q10); replace KT := hidden (KT.out.step q10); have KT2 := hidden hO.kp; have HT2 : Hid (∀ k, t2.ownBlock = some k → gl < k ∧ ∀ j, (Value.slice ta X.length tc).ownBlock = some j → j < k) := fun k hk => ⟨Nat.lt_of_lt_of_le z1 (hO.lt k hk).1, fun j hj => Nat.lt_of_lt_of_le (z2 j hj).2 (hO.lt k hk).1⟩; clear z1 z2; obtain ⟨ta2, tc2, rfl⟩ := hO.slice; clear hO; have mk_fnodeEncode_2 : Hid True := trivial; clear q10)
    | (go_at_call 11; have z1 := KR.out.now.lt; refine (HE.out _).mono ?_; rintro e x9 ⟨t, sp, rfl, hO, q9⟩; replace KV := hidden (KV.out.step q9); replace KW := hidden (KW.out.step q9); replace KL := hidden (KL.out.step q9); replace KN := hidden (KN.out.step q9); replace KR := hidden (KR.out.step q9); replace K6 := hidden (K6.out.step q9); replace K8 := hidden (K8.out.step q9); have KT := hidden hO.kp; have HT : Hid (∀ k, t.ownBlock = some k → gl < k) := fun k hk => Nat.lt_of_lt_of_le z1 (hO.lt k hk).1; clear z1; obtain ⟨ta, tc, rfl⟩ := hO.slice; clear hO; have mk_fnodeEncode_1 : Hid True := trivial; clear q9)
    | (go_at_call 10; refine (HGr.out _).mono ?_; rintro e x6 ⟨rfl, q6⟩; replace KV := hidden (KV.out.step q6); replace KW := hidden (KW.out.step q6); replace KL := hidden (KL.out.step q6); replace KN := hidden (KN.out.step q6); replace KR := hidden (KR.out.step q6); replace K6 := hidden (K6.out.step q6); have mk_frootcellarref05Digest_1 : Hid True := trivial; clear q6)
    | (go_at_call 9; refine (HG.out _ KL.out.now).mono ?_; rintro e x3 ⟨rfl, q3⟩; replace KV := hidden (KV.out.step q3); replace KW := hidden (KW.out.step q3); replace KL := hidden (KL.out.step q3); replace KN := hidden (KN.out.step q3); replace KR := hidden (KR.out.step q3); have mk_fnodeDigest_1 : Hid True := trivial; clear q3)
    | (go_at_call 8; refine (HLE.out _ KV.out.now).mono ?_; rintro e x2 ⟨gl, rfl, hgl, hrow, q2⟩; replace KV := hidden (KV.out.step q2); replace KW := hidden (KW.out.step q2); replace KL := hidden (KL.out.step q2); replace KN := hidden (KN.out.step q2); have KR := hidden (row_kp hrow); clear hrow hgl; have mk_frootcellarkitLentBytes_1 : Hid True := trivial; clear q2))
  have HS : Hid (∀ w', Below x17.heap.size x17 w' → w'.rangeAt g2 0 (B N).toList ∧ w'.rangeAt g6 0 (B D).toList ∧ w'.rangeAt g8 0 (B D).toList ∧ w'.rangeAt g16 0 (B M).toList ∧ w'.rangeAt g18 0 (B M).toList) := fun w' hw' => ⟨(KN.out w' hw').range, (K6.out w' hw').range, (K8.out w' hw').range, (K16.out w' hw').range, (K18.out w' hw').range⟩
  have d0 : Below x17.heap.size x17 x17.drew := (Below.refl _ _).drew
  refine wp_region_held_drew (S := fun w' => w'.rangeAt g2 0 (B N).toList ∧ w'.rangeAt g6 0 (B D).toList ∧ w'.rangeAt g8 0 (B D).toList ∧ w'.rangeAt g16 0 (B M).toList ∧ w'.rangeAt g18 0 (B M).toList) (by kernel_rfl) (HS.out _ d0) (fun hHeld => ?_)
  refine wpAnyH_take (i := 0) (v := .agg (B N)) rfl (by kernel_rfl) (by kernel_rfl) (by kernel_rfl) (fun _ _ _ h => h) (yieldsIf_load_mid rfl 27 (.tmp 2) rfl g2 0 rfl (B N).toList _ (fun w hS => hS.1) HU.out rfl HF.out.ll) hHeld ?_
  simp only [Act.put, List.getElem_toArray, List.getElem_cons_zero, List.setIfInBounds_toArray, List.set_cons_zero, List.set_cons_succ]
  refine wpAnyH_take (i := 2) (v := .agg (B N)) rfl (by kernel_rfl) (by kernel_rfl) (by kernel_rfl) (fun _ _ _ h => h) (yieldsIf_load_mid rfl 27 (.tmp 2) rfl g2 0 rfl (B N).toList _ (fun w hS => hS.1) HU.out rfl HF.out.ll) hHeld ?_
  simp only [Act.put, List.getElem_toArray, List.getElem_cons_zero, List.getElem_cons_succ, List.setIfInBounds_toArray, List.set_cons_zero, List.set_cons_succ]
  refine wpAnyH_ready (rs := [1]) (by kernel_rfl) (by simp) ?_
  refine AllReadyH.cons rfl (fun KQ hK => ?_) AllReadyH.nil
  go_simp
  refine (HC.out _).mono ?_
  rintro e y1 ⟨rfl, a1⟩
  have d1 := grow_trans d0 a1
  refine hK.out _ _ (HS.out _ d1) (fun hHeld => ?_)
  clear hK KQ
  refine wpAnyH_ready (rs := [3]) (by kernel_rfl) (by simp) ?_
  refine AllReadyH.cons rfl (fun KQ hK => ?_) AllReadyH.nil
  go_simp
  refine (HCr.out _).mono ?_
  rintro e y2 ⟨rfl, a2⟩
  have d2 := grow_trans d1 a2
  refine hK.out _ _ (HS.out _ d2) (fun hHeld => ?_)
  clear hK KQ
  refine wpAnyH_take (i := 4) (v := .bool false) rfl (by kernel_rfl) (by kernel_rfl) (by kernel_rfl) (fun _ _ _ h => h) (Or.inl ⟨by rfl, fun w hS => by go_simp⟩) hHeld ?_
  simp only [Act.put, List.getElem_toArray, List.getElem_cons_zero, List.getElem_cons_succ, List.setIfInBounds_toArray, List.set_cons_zero, List.set_cons_succ]
  refine wpAnyH_take (i := 5) (v := .bool false) rfl (by kernel_rfl) (by kernel_rfl) (by kernel_rfl) (fun _ _ _ h => h) (Or.inl ⟨by rfl, fun w hS => by go_simp⟩) hHeld ?_
  simp only [Act.put, List.getElem_toArray, List.getElem_cons_zero, List.getElem_cons_succ, List.setIfInBounds_toArray, List.set_cons_zero, List.set_cons_succ]
  refine wpAnyH_take (i := 6) (v := .agg (B D)) rfl (by kernel_rfl) (by kernel_rfl) (by kernel_rfl) (fun _ _ _ h => h) (yieldsIf_load_mid rfl 25 (.tmp 6) rfl g6 0 rfl (B D).toList _ (fun w hS => hS.2.1) Tryd.underlying25 rfl HDs2.out) hHeld ?_
  simp only [Act.put, List.getElem_toArray, List.getElem_cons_zero, List.getElem_cons_succ, List.setIfInBounds_toArray, List.set_cons_zero, List.set_cons_succ]
  refine wpAnyH_take (i := 7) (v := .agg (B D)) rfl (by kernel_rfl) (by kernel_rfl) (by kernel_rfl) (fun _ _ _ h => h) (yieldsIf_load_mid rfl 25 (.tmp 8) rfl g8 0 rfl (B D).toList _ (fun w hS => hS.2.2.1) Tryd.underlying25 rfl HDs2.out) hHeld ?_
  simp only [Act.put, List.getElem_toArray, List.getElem_cons_zero, List.getElem_cons_succ, List.setIfInBounds_toArray, List.set_cons_zero, List.set_cons_succ]
  refine wpAnyH_take (i := 8) (v := .bool false) rfl (by kernel_rfl) (by kernel_rfl) (by kernel_rfl) (fun _ _ _ h => h) (Or.inl ⟨by rfl, fun w hS => by go_simp⟩) hHeld ?_
  simp only [Act.put, List.getElem_toArray, List.getElem_cons_zero, List.getElem_cons_succ, List.setIfInBounds_toArray, List.set_cons_zero, List.set_cons_succ]
  refine wpAnyH_take (i := 9) (v := .bool false) rfl (by kernel_rfl) (by kernel_rfl) (by kernel_rfl) (fun _ _ _ h => h) (Or.inl ⟨by rfl, fun w hS => by go_simp⟩) hHeld ?_
  simp only [Act.put, List.getElem_toArray, List.getElem_cons_zero, List.getElem_cons_succ, List.setIfInBounds_toArray, List.set_cons_zero, List.set_cons_succ]
  refine wpAnyH_take (i := 10) (v := .bool false) rfl (by kernel_rfl) (by kernel_rfl) (by kernel_rfl) (fun _ _ _ h => h) (Or.inl ⟨by rfl, fun w hS => by go_simp⟩) hHeld ?_
  simp only [Act.put, List.getElem_toArray, List.getElem_cons_zero, List.getElem_cons_succ, List.setIfInBounds_toArray, List.set_cons_zero, List.set_cons_succ]
  refine wpAnyH_take (i := 11) (v := .int .i64 oE) rfl (by kernel_rfl) (by kernel_rfl) (by kernel_rfl) (fun _ _ _ h => h) (Or.inl ⟨by rfl, fun w hS => by go_simp⟩) hHeld ?_
  simp only [Act.put, List.getElem_toArray, List.getElem_cons_zero, List.getElem_cons_succ, List.setIfInBounds_toArray, List.set_cons_zero, List.set_cons_succ]
  refine wpAnyH_take (i := 12) (v := .int .i64 oE) rfl (by kernel_rfl) (by kernel_rfl) (by kernel_rfl) (fun _ _ _ h => h) (Or.inl ⟨by rfl, fun w hS => by go_simp⟩) hHeld ?_
  simp only [Act.put, List.getElem_toArray, List.getElem_cons_zero, List.getElem_cons_succ, List.setIfInBounds_toArray, List.set_cons_zero, List.set_cons_succ]
  refine wpAnyH_take (i := 13) (v := .bool false) rfl (by kernel_rfl) (by kernel_rfl) (by kernel_rfl) (fun _ _ _ h => h) (Or.inl ⟨by rfl, fun w hS => by go_simp⟩) hHeld ?_
  simp only [Act.put, List.getElem_toArray, List.getElem_cons_zero, List.getElem_cons_succ, List.setIfInBounds_toArray, List.set_cons_zero, List.set_cons_succ]
  refine wpAnyH_take (i := 14) (v := .bool false) rfl (by kernel_rfl) (by kernel_rfl) (by kernel_rfl) (fun _ _ _ h => h) (Or.inl ⟨by rfl, fun w hS => by go_simp⟩) hHeld ?_
  simp only [Act.put, List.getElem_toArray, List.getElem_cons_zero, List.getElem_cons_succ, List.setIfInBounds_toArray, List.set_cons_zero, List.set_cons_succ]
  refine wpAnyH_take (i := 15) (v := .bool false) rfl (by kernel_rfl) (by kernel_rfl) (by kernel_rfl) (fun _ _ _ h => h) (Or.inl ⟨by rfl, fun w hS => by go_simp⟩) hHeld ?_
  simp only [Act.put, List.getElem_toArray, List.getElem_cons_zero, List.getElem_cons_succ, List.setIfInBounds_toArray, List.set_cons_zero, List.set_cons_succ]
  refine wpAnyH_take (i := 16) (v := .slice ta X.length tc) rfl (by kernel_rfl) (by kernel_rfl) (by kernel_rfl) (fun _ _ _ h => h) (Or.inl ⟨by rfl, fun w hS => by go_simp⟩) hHeld ?_
  simp only [Act.put, List.getElem_toArray, List.getElem_cons_zero, List.getElem_cons_succ, List.setIfInBounds_toArray, List.set_cons_zero, List.set_cons_succ]
  refine wpAnyH_take (i := 17) (v := .slice ua X.length uc) rfl (by kernel_rfl) (by kernel_rfl) (by kernel_rfl) (fun _ _ _ h => h) (Or.inl ⟨by rfl, fun w hS => by go_simp⟩) hHeld ?_
  simp only [Act.put, List.getElem_toArray, List.getElem_cons_zero, List.getElem_cons_succ, List.setIfInBounds_toArray, List.set_cons_zero, List.set_cons_succ]
  refine wpAnyH_ready (rs := [18]) (by kernel_rfl) (by simp) ?_
  refine AllReadyH.cons rfl (fun KQ hK => ?_) AllReadyH.nil
  go_simp
  refine (HSm.out _ _ _ (KT.out _ d2).reads (KU.out _ d2)).mono ?_
  rintro e y3 ⟨rfl, hy3⟩
  rw [hy3]
  clear hy3 y3
  refine hK.out _ _ (HS.out _ d2) (fun hHeld => ?_)
  clear hK KQ
  refine wpAnyH_take (i := 19) (v := .bool false) rfl (by kernel_rfl) (by kernel_rfl) (by kernel_rfl) (fun _ _ _ h => h) (Or.inl ⟨by rfl, fun w hS => by go_simp⟩) hHeld ?_
  simp only [Act.put, List.getElem_toArray, List.getElem_cons_zero, List.getElem_cons_succ, List.setIfInBounds_toArray, List.set_cons_zero, List.set_cons_succ]
  refine wpAnyH_take (i := 20) (v := .bool false) rfl (by kernel_rfl) (by kernel_rfl) (by kernel_rfl) (fun _ _ _ h => h) (Or.inl ⟨by rfl, fun w hS => by go_simp⟩) hHeld ?_
  simp only [Act.put, List.getElem_toArray, List.getElem_cons_zero, List.getElem_cons_succ, List.setIfInBounds_toArray, List.set_cons_zero, List.set_cons_succ]
  refine wpAnyH_take (i := 21) (v := .bool false) rfl (by kernel_rfl) (by kernel_rfl) (by kernel_rfl) (fun _ _ _ h => h) (Or.inl ⟨by rfl, fun w hS => by go_simp⟩) hHeld ?_
  simp only [Act.put, List.getElem_toArray, List.getElem_cons_zero, List.getElem_cons_succ, List.setIfInBounds_toArray, List.set_cons_zero, List.set_cons_succ]
  refine wpAnyH_take (i := 22) (v := .slice ta2 X.length tc2) rfl (by kernel_rfl) (by kernel_rfl) (by kernel_rfl) (fun _ _ _ h => h) (Or.inl ⟨by rfl, fun w hS => by go_simp⟩) hHeld ?_
  simp only [Act.put, List.getElem_toArray, List.getElem_cons_zero, List.getElem_cons_succ, List.setIfInBounds_toArray, List.set_cons_zero, List.set_cons_succ]
  refine wpAnyH_take (i := 23) (v := .slice ua X.length uc) rfl (by kernel_rfl) (by kernel_rfl) (by kernel_rfl) (fun _ _ _ h => h) (Or.inl ⟨by rfl, fun w hS => by go_simp⟩) hHeld ?_
  simp only [Act.put, List.getElem_toArray, List.getElem_cons_zero, List.getElem_cons_succ, List.setIfInBounds_toArray, List.set_cons_zero, List.set_cons_succ]
  refine wpAnyH_ready (rs := [24]) (by kernel_rfl) (by simp) ?_
  refine AllReadyH.cons rfl (fun KQ hK => ?_) AllReadyH.nil
  go_simp
  refine (HSm.out _ _ _ (KT2.out _ d2).reads (KU.out _ d2)).mono ?_
  rintro e y3 ⟨rfl, hy3⟩
  rw [hy3]
  clear hy3 y3
  refine hK.out _ _ (HS.out _ d2) (fun hHeld => ?_)
  clear hK KQ
  refine wpAnyH_take (i := 25) (v := .bool false) rfl (by kernel_rfl) (by kernel_rfl) (by kernel_rfl) (fun _ _ _ h => h) (Or.inl ⟨by rfl, fun w hS => by go_simp⟩) hHeld ?_
  simp only [Act.put, List.getElem_toArray, List.getElem_cons_zero, List.getElem_cons_succ, List.setIfInBounds_toArray, List.set_cons_zero, List.set_cons_succ]
  refine wpAnyH_take (i := 26) (v := .bool false) rfl (by kernel_rfl) (by kernel_rfl) (by kernel_rfl) (fun _ _ _ h => h) (Or.inl ⟨by rfl, fun w hS => by go_simp⟩) hHeld ?_
  simp only [Act.put, List.getElem_toArray, List.getElem_cons_zero, List.getElem_cons_succ, List.setIfInBounds_toArray, List.set_cons_zero, List.set_cons_succ]
  refine wpAnyH_take (i := 27) (v := .bool false) rfl (by kernel_rfl) (by kernel_rfl) (by kernel_rfl) (fun _ _ _ h => h) (Or.inl ⟨by rfl, fun w hS => by go_simp⟩) hHeld ?_
  simp only [Act.put, List.getElem_toArray, List.getElem_cons_zero, List.getElem_cons_succ, List.setIfInBounds_toArray, List.set_cons_zero, List.set_cons_succ]
  refine wpAnyH_take (i := 28) (v := .int .i64 oE) rfl (by kernel_rfl) (by kernel_rfl) (by kernel_rfl) (fun _ _ _ h => h) (Or.inl ⟨by rfl, fun w hS => by go_simp⟩) hHeld ?_
  simp only [Act.put, List.getElem_toArray, List.getElem_cons_zero, List.getElem_cons_succ, List.setIfInBounds_toArray, List.set_cons_zero, List.set_cons_succ]
  refine wpAnyH_take (i := 29) (v := .int .i64 oE) rfl (by kernel_rfl) (by kernel_rfl) (by kernel_rfl) (fun _ _ _ h => h) (Or.inl ⟨by rfl, fun w hS => by go_simp⟩) hHeld ?_
  simp only [Act.put, List.getElem_toArray, List.getElem_cons_zero, List.getElem_cons_succ, List.setIfInBounds_toArray, List.set_cons_zero, List.set_cons_succ]
  refine wpAnyH_take (i := 30) (v := .bool false) rfl (by kernel_rfl) (by kernel_rfl) (by kernel_rfl) (fun _ _ _ h => h) (Or.inl ⟨by rfl, fun w hS => by go_simp⟩) hHeld ?_
  simp only [Act.put, List.getElem_toArray, List.getElem_cons_zero, List.getElem_cons_succ, List.setIfInBounds_toArray, List.set_cons_zero, List.set_cons_succ]
  refine wpAnyH_take (i := 31) (v := .bool false) rfl (by kernel_rfl) (by kernel_rfl) (by kernel_rfl) (fun _ _ _ h => h) (Or.inl ⟨by rfl, fun w hS => by go_simp⟩) hHeld ?_
  simp only [Act.put, List.getElem_toArray, List.getElem_cons_zero, List.getElem_cons_succ, List.setIfInBounds_toArray, List.set_cons_zero, List.set_cons_succ]
  refine wpAnyH_take (i := 32) (v := .bool false) rfl (by kernel_rfl) (by kernel_rfl) (by kernel_rfl) (fun _ _ _ h => h) (Or.inl ⟨by rfl, fun w hS => by go_simp⟩) hHeld ?_
  simp only [Act.put, List.getElem_toArray, List.getElem_cons_zero, List.getElem_cons_succ, List.setIfInBounds_toArray, List.set_cons_zero, List.set_cons_succ]
  refine wpAnyH_take (i := 33) (v := .int .i64 oE) rfl (by kernel_rfl) (by kernel_rfl) (by kernel_rfl) (fun _ _ _ h => h) (Or.inl ⟨by rfl, fun w hS => by go_simp⟩) hHeld ?_
  simp only [Act.put, List.getElem_toArray, List.getElem_cons_zero, List.getElem_cons_succ, List.setIfInBounds_toArray, List.set_cons_zero, List.set_cons_succ]
  refine wpAnyH_take (i := 34) (v := .int .i64 oE) rfl (by kernel_rfl) (by kernel_rfl) (by kernel_rfl) (fun _ _ _ h => h) (Or.inl ⟨by rfl, fun w hS => by go_simp⟩) hHeld ?_
  simp only [Act.put, List.getElem_toArray, List.getElem_cons_zero, List.getElem_cons_succ, List.setIfInBounds_toArray, List.set_cons_zero, List.set_cons_succ]
  refine wpAnyH_take (i := 35) (v := .bool false) rfl (by kernel_rfl) (by kernel_rfl) (by kernel_rfl) (fun _ _ _ h => h) (Or.inl ⟨by rfl, fun w hS => by go_simp⟩) hHeld ?_
  simp only [Act.put, List.getElem_toArray, List.getElem_cons_zero, List.getElem_cons_succ, List.setIfInBounds_toArray, List.set_cons_zero, List.set_cons_succ]
  refine wpAnyH_take (i := 36) (v := .bool false) rfl (by kernel_rfl) (by kernel_rfl) (by kernel_rfl) (fun _ _ _ h => h) (Or.inl ⟨by rfl, fun w hS => by go_simp⟩) hHeld ?_
  simp only [Act.put, List.getElem_toArray, List.getElem_cons_zero, List.getElem_cons_succ, List.setIfInBounds_toArray, List.set_cons_zero, List.set_cons_succ]
  refine wpAnyH_take (i := 37) (v := .bool false) rfl (by kernel_rfl) (by kernel_rfl) (by kernel_rfl) (fun _ _ _ h => h) (Or.inl ⟨by rfl, fun w hS => by go_simp⟩) hHeld ?_
  simp only [Act.put, List.getElem_toArray, List.getElem_cons_zero, List.getElem_cons_succ, List.setIfInBounds_toArray, List.set_cons_zero, List.set_cons_succ]
  refine wpAnyH_take (i := 38) (v := .agg (B M)) rfl (by kernel_rfl) (by kernel_rfl) (by kernel_rfl) (fun _ _ _ h => h) (yieldsIf_load_mid rfl 27 (.tmp 16) rfl g16 0 rfl (B M).toList _ (fun w hS => hS.2.2.2.1) HU.out rfl HF2.out.ll) hHeld ?_
  simp only [Act.put, List.getElem_toArray, List.getElem_cons_zero, List.getElem_cons_succ, List.setIfInBounds_toArray, List.set_cons_zero, List.set_cons_succ]
  refine wpAnyH_take (i := 39) (v := .agg (B M)) rfl (by kernel_rfl) (by kernel_rfl) (by kernel_rfl) (fun _ _ _ h => h) (yieldsIf_load_mid rfl 27 (.tmp 18) rfl g18 0 rfl (B M).toList _ (fun w hS => hS.2.2.2.2) HU.out rfl HF2.out.ll) hHeld ?_
  simp only [Act.put, List.getElem_toArray, List.getElem_cons_zero, List.getElem_cons_succ, List.setIfInBounds_toArray, List.set_cons_zero, List.set_cons_succ]
  refine wpAnyH_take (i := 40) (v := .bool false) rfl (by kernel_rfl) (by kernel_rfl) (by kernel_rfl) (fun _ _ _ h => h) (Or.inl ⟨by rfl, fun w hS => by go_simp⟩) hHeld ?_
  simp only [Act.put, List.getElem_toArray, List.getElem_cons_zero, List.getElem_cons_succ, List.setIfInBounds_toArray, List.set_cons_zero, List.set_cons_succ]
  refine wpAnyH_take (i := 41) (v := .bool false) rfl (by kernel_rfl) (by kernel_rfl) (by kernel_rfl) (fun _ _ _ h => h) (Or.inl ⟨by rfl, fun w hS => by go_simp⟩) hHeld ?_
  simp only [Act.put, List.getElem_toArray, List.getElem_cons_zero, List.getElem_cons_succ, List.setIfInBounds_toArray, List.set_cons_zero, List.set_cons_succ]
  refine wpAnyH_take (i := 42) (v := .bool false) rfl (by kernel_rfl) (by kernel_rfl) (by kernel_rfl) (fun _ _ _ h => h) (Or.inl ⟨by rfl, fun w hS => by go_simp⟩) hHeld ?_
  simp only [Act.put, List.getElem_toArray, List.getElem_cons_zero, List.getElem_cons_succ, List.setIfInBounds_toArray, List.set_cons_zero, List.set_cons_succ]
  refine wpAnyH_take (i := 43) (v := .int .i64 dE) rfl (by kernel_rfl) (by kernel_rfl) (by kernel_rfl) (fun _ _ _ h => h) (Or.inl ⟨by rfl, fun w hS => by go_simp⟩) hHeld ?_
  simp only [Act.put, List.getElem_toArray, List.getElem_cons_zero, List.getElem_cons_succ, List.setIfInBounds_toArray, List.set_cons_zero, List.set_cons_succ]
  refine wpAnyH_take (i := 44) (v := .int .i64 dE) rfl (by kernel_rfl) (by kernel_rfl) (by kernel_rfl) (fun _ _ _ h => h) (Or.inl ⟨by rfl, fun w hS => by go_simp⟩) hHeld ?_
  simp only [Act.put, List.getElem_toArray, List.getElem_cons_zero, List.getElem_cons_succ, List.setIfInBounds_toArray, List.set_cons_zero, List.set_cons_succ]
  refine wpAnyH_take (i := 45) (v := .bool false) rfl (by kernel_rfl) (by kernel_rfl) (by kernel_rfl) (fun _ _ _ h => h) (Or.inl ⟨by rfl, fun w hS => by go_simp⟩) hHeld ?_
  simp only [Act.put, List.getElem_toArray, List.getElem_cons_zero, List.getElem_cons_succ, List.setIfInBounds_toArray, List.set_cons_zero, List.set_cons_succ]
  refine wpAnyH_take (i := 46) (v := .bool false) rfl (by kernel_rfl) (by kernel_rfl) (by kernel_rfl) (fun _ _ _ h => h) (Or.inl ⟨by rfl, fun w hS => by go_simp⟩) hHeld ?_
  simp only [Act.put, List.getElem_toArray, List.getElem_cons_zero, List.getElem_cons_succ, List.setIfInBounds_toArray, List.set_cons_zero, List.set_cons_succ]
  refine wpAnyH_done (by kernel_rfl) ?_ _
  replace KV := hidden (KV.out.step d2); replace KW := hidden (KW.out.step d2); replace KR := hidden (KR.out.step d2); replace KT := hidden (KT.out.step d2); replace KT2 := hidden (KT2.out.step d2)
  have HLS : Hid (∀ w', Row w' gl (zs ++ marks zs.length) → Own 0 w' (.slice ta X.length tc) X sp → Own 0 w' (.slice ta2 X.length tc2) X sp2 → ListsT 0 w'.heap.size 0 3 (fun i => [.slice ta X.length tc, .slice ta2 X.length tc2, .slice (some ⟨gl, 0, none⟩) zs.length (zs.length + 5)].getD i undef) (fun i => [X, X, zs].getD i []) (fun i => [sp, sp2, marks zs.length].getD i []) (w'.alloc (.cells #[.slice ta X.length tc, .slice ta2 X.length tc2, .slice (some ⟨gl, 0, none⟩) zs.length (zs.length + 5)] 28))) := by
    intro w' hrow o1 o2
    have h3 := Own.mk (base := 0) HBY.out (marks_bytes zs.length) (by rw [marks_length]; have := HLZ.out; simp only [maxLen]; omega) (Nat.zero_le _) hrow
    rw [marks_length] at h3
    refine lists_apT 0 w' [.slice ta X.length tc, .slice ta2 X.length tc2, .slice (some ⟨gl, 0, none⟩) zs.length (zs.length + 5)] _ _ 3 rfl ?_ ?_
    · intro i hi
      match i, hi with
      | 0, _ => exact o1.toT
      | 1, _ => exact o2.toT
      | 2, _ => exact h3.toT
    · have hgl : (Value.slice (some ⟨gl, 0, none⟩) zs.length (zs.length + 5)).ownBlock = some gl := rfl
      intro i j hi hj hne g e1 e2
      match i, j, hi, hj with
      | 0, 0, _, _ => omega
      | 1, 1, _, _ => omega
      | 2, 2, _, _ => omega
      | 0, 1, _, _ => have := (HT2.out g e2).2 g e1; omega
      | 1, 0, _, _ => have := (HT2.out g e1).2 g e2; omega
      | 0, 2, _, _ => have := HT.out g e1; have e3 : some gl = some g := e2; injection e3 with e3; omega
      | 2, 0, _, _ => have := HT.out g e2; have e3 : some gl = some g := e1; injection e3 with e3; omega
      | 1, 2, _, _ => have := (HT2.out g e1).1; have e3 : some gl = some g := e2; injection e3 with e3; omega
      | 2, 1, _, _ => have := (HT2.out g e2).1; have e3 : some gl = some g := e1; injection e3 with e3; omega
  clear HS d0 d1 d2 a1 a2 K6 K8 K16 K18 KN KU
  go_wp2_with (first
    | (go_at_call 18; refine (HKP.out _ _ KR.out.now KV.out.now).mono ?_; rintro e z1 ⟨rfl, q1⟩; replace KW := hidden (KW.out.step q1); replace KR := hidden (KR.out.step q1); replace KT := hidden (KT.out.step q1); replace KT2 := hidden (KT2.out.step q1); clear q1)
    | (go_at_call 19; refine (apart_walkT 0 _ 0 3 3 _ _ _ _ (by omega) (HLS.out _ KR.out.now (KT.out.now.later (Nat.zero_le _)) (KT2.out.now.later (Nat.zero_le _))) (Nat.le_refl _)).mono ?_; rintro e z2 ⟨rfl, q2⟩; replace KW := hidden (KW.out.step (grow_trans (grow_alloc _ _) q2)); clear q2))
  go_ret
  exact ⟨rfl, KW.out.now⟩

end Go.Proofs.YtjcklpdifanjlaaDoor
