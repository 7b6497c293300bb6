/- NodeBack's walk: the law returns true at every node and every list of bytes, and nothing that was in memory turns. -/
import Derived.Test.YtjcklpdifanjlaaDoorNodeKp
import Derived.Test.YtjcklpdifanjlaaDoorKit1
namespace Go.Proofs.YtjcklpdifanjlaaDoor
set_option maxRecDepth 20000
open Go.RowKit

theorem em_dig : dig [0] = [110, 52, 11, 156, 255, 179, 122, 152, 156, 165, 68, 230, 187, 120, 10, 44, 120, 144, 29, 63, 179, 55, 56, 118, 133, 17, 163, 6, 23, 175, 160, 29] := by kernel_rfl
theorem em_ne : dig [0] ≠ z32 := by
  rw [em_dig]
  decide

theorem ok_cases {k : Int} {a b c d : List Int} (h : okN k a b c d = true) : (k = 0 ∧ a = z32 ∧ b = z32 ∧ c = z32 ∧ d = z32) ∨ (k = 1 ∧ c = z32 ∧ d = z32) ∨ (k = 2 ∧ a = z32 ∧ b = z32) := by
  simpa [okN] using h

theorem dec_enc {k : Int} {a b c d : List Int} (h : Nd k a b c d) (ho : okN k a b c d = true) : dcN (txN k a b c d) = nd k a b c d ∧ dcE (txN k a b c d) = 0 := by
  have hcat : ∀ (x : Int) (u v : List Int), u.length = 32 → v.length = 32 → (x :: (u ++ v)).length = 65 ∧ (x :: (u ++ v)).getD 0 0 = x ∧ dcA (x :: (u ++ v)) = u ∧ dcB (x :: (u ++ v)) = v := by
    intro x u v hu hv
    refine ⟨by simp [hu, hv], rfl, ?_, ?_⟩
    · simp [dcA, ← hu]
    · have : (x :: (u ++ v)).drop 33 = (u ++ v).drop 32 := rfl
      rw [dcB, this, ← hu, List.drop_left]
  rcases ok_cases ho with ⟨rfl, rfl, rfl, rfl, rfl⟩ | ⟨rfl, rfl, rfl⟩ | ⟨rfl, rfl, rfl⟩
  · have e : txN 0 z32 z32 z32 z32 = [0] := by rw [txN, if_pos ho]; rfl
    rw [e]
    exact ⟨rfl, rfl⟩
  · have e : txN 1 a b z32 z32 = 1 :: (a ++ b) := by rw [txN, if_pos ho]; rfl
    obtain ⟨h1, h2, h3, h4⟩ := hcat 1 a b h.la h.lb
    rw [e, dcN, dcE, if_pos ⟨h1, h2⟩, if_pos ⟨h1, h2⟩, h3, h4]
    exact ⟨rfl, rfl⟩
  · have e : txN 2 z32 z32 c d = 2 :: (c ++ d) := by rw [txN, if_pos ho]; rfl
    obtain ⟨h1, h2, h3, h4⟩ := hcat 2 c d h.lc h.ld
    have hn : ¬ ((2 :: (c ++ d)).length = 65 ∧ (2 :: (c ++ d)).getD 0 0 = 1) := fun q => by
      have := q.2
      rw [h2] at this
      omega
    rw [e]
    constructor
    · rw [dcN, if_neg hn, if_pos ⟨h1, h2⟩, h3, h4]
    · rw [dcE, if_neg hn, if_pos ⟨h1, h2⟩]

theorem txN_short {k : Int} {a b c d : List Int} (h : Nd k a b c d) : (txN k a b c d).length ≤ 65 := by
  unfold txN
  split
  · split
    · simp [h.la, h.lb]
    · split
      · simp [h.lc, h.ld]
      · simp
  · simp

theorem enc_dec {zs : List Int} (hb : Bytes zs) (h : dcE zs = 0) : ∃ k a b c d, dcN zs = nd k a b c d ∧ Nd k a b c d ∧ okN k a b c d = true ∧ txN k a b c d = zs := by
  have hcut : ∀ x, zs.length = 65 → zs.getD 0 0 = x → zs = x :: (dcA zs ++ dcB zs) := by
    intro x hl hx
    match zs, hl with
    | y :: r, hl =>
      have : y = x := hx
      subst this
      have e1 : dcB (y :: r) = r.drop 32 := rfl
      have e2 : dcA (y :: r) = r.take 32 := rfl
      rw [e1, e2, List.take_append_drop]
  by_cases h1 : zs.length = 65 ∧ zs.getD 0 0 = 1
  · have ho : okN 1 (dcA zs) (dcB zs) z32 z32 = true := by simp [okN]
    refine ⟨1, dcA zs, dcB zs, z32, z32, by rw [dcN, if_pos h1], ⟨by omega, by omega, dcA_length zs h1.1, dcB_length zs h1.1, rfl, rfl, dcA_bytes zs hb, dcB_bytes zs hb, z32_bytes, z32_bytes⟩, ho, ?_⟩
    rw [txN, if_pos ho, if_pos rfl]
    exact (hcut 1 h1.1 h1.2).symm
  · by_cases h2 : zs.length = 65 ∧ zs.getD 0 0 = 2
    · have ho : okN 2 z32 z32 (dcA zs) (dcB zs) = true := by simp [okN]
      refine ⟨2, z32, z32, dcA zs, dcB zs, by rw [dcN, if_neg h1, if_pos h2], ⟨by omega, by omega, rfl, rfl, dcA_length zs h2.1, dcB_length zs h2.1, z32_bytes, z32_bytes, dcA_bytes zs hb, dcB_bytes zs hb⟩, ho, ?_⟩
      rw [txN, if_pos ho, if_neg (by omega), if_pos rfl]
      exact (hcut 2 h2.1 h2.2).symm
    · by_cases h3 : zs.length = 1 ∧ zs.getD 0 0 = 0
      · have ho : okN 0 z32 z32 z32 z32 = true := by simp [okN]
        refine ⟨0, z32, z32, z32, z32, by rw [dcN, if_neg h1, if_neg h2], z_nd, ho, ?_⟩
        rw [txN, if_pos ho, if_neg (by omega), if_neg (by omega)]
        match zs, h3 with
        | [y], ⟨_, hy⟩ =>
          have : y = 0 := hy
          rw [this]
      · rw [dcE, if_neg h1, if_neg h2, if_neg h3] at h
        omega

theorem dcE_cases (zs : List Int) : dcE zs = 0 ∨ dcE zs = 10 := by
  unfold dcE
  repeat' split
  all_goals simp

set_option maxHeartbeats 4000000 in
theorem back_ok_ok (k : Int) (a b c d : List Int) (v : Value) (zs : List Int) (w : World) (h : Nd k a b c d) (hv : Reads w v zs) (hL : Laid w) (ho : okN k a b c d = true) (hd : dcE zs = 0) :
    Calls Tryd.prog 6 #[.agg (B (nd k a b c d)), v] w fun e w' => e = .returned (.bool true) ∧ Below w.heap.size w w' := by
  obtain ⟨fs, hu⟩ := u_node
  have HU := hidden hu
  have KV := hidden hv.kp
  have KW := hidden (below_kp w)
  have KL := hidden hL.kp
  have HF := hidden h.facts
  have hoE : okE k a b c d = 0 := by rw [okE, ho]; rfl
  have HC : Hid (∀ w', Calls Tryd.prog 15 #[.agg (B (nd k a b c d))] w' fun e w'' => e = .returned (.int .i64 0) ∧ Below w'.heap.size w' w'') := by
    intro w'
    have := check_any k a b c d w' h
    rwa [hoE] at this
  have HE : Hid (∀ w', Calls Tryd.prog 11 #[.agg (B (nd k a b c d))] w' fun e w'' => ∃ v sp, e = .returned (.tuple #[v, .int .i64 0]) ∧ Own w'.heap.size w'' v (txN k a b c d) sp ∧ Below w'.heap.size w' w'') := by
    intro w'
    have := encode_any k a b c d w' h
    unfold EncPost at this
    rwa [hoE] at this
  have HDb : Hid (∀ w', Reads w' v zs → Calls Tryd.prog 13 #[v] w' fun e w'' => e = .returned (.tuple #[.agg (B (dcN zs)), .int .i64 0]) ∧ Below w'.heap.size w' w'') := by
    intro w' hb
    have := decode_any v zs w' hb
    unfold DecPost at this
    rwa [hd] at this
  obtain ⟨D, hD⟩ : ∃ D, D = dgN k a b c d := ⟨_, rfl⟩
  have hDd : dgN k a b c d = dig (txN k a b c d) := by rw [dgN, if_pos ho]
  have hDl : D.length = 32 := by rw [hD, hDd, dig_length]
  have HG : Hid (∀ w', Laid w' → Calls Tryd.prog 9 #[.agg (B (nd k a b c d))] w' fun e w'' => e = .returned (.tuple #[.agg (B D), .int .i64 0]) ∧ Below w'.heap.size w' w'') := by
    intro w' hl
    have := digest_any k a b c d w' h hl
    unfold DigNPost at this
    rwa [hoE, ← hD] at this
  have HM : Hid (∀ w' x, Reads w' x (txN k a b c d) → Laid w' → Calls Tryd.prog 33 #[x] w' fun e w'' => e = .returned (.agg (B D)) ∧ Below w'.heap.size w' w'') := by
    intro w' x hx hl
    rw [hD, hDd]
    have := txN_short h
    exact shaSum_any x _ w' hx hl (by omega)
  have HDt : Hid (∀ w' x, Reads w' x (txN k a b c d) → Calls Tryd.prog 13 #[x] w' fun e w'' => e = .returned (.tuple #[.agg (B (nd k a b c d)), .int .i64 0]) ∧ Below w'.heap.size w' w'') := by
    intro w' x hx
    have := decode_any x _ w' hx
    unfold DecPost at this
    obtain ⟨e1, e2⟩ := dec_enc h ho
    rwa [e1, e2] at this
  have hEqN : ∀ w, (Op.equalIn 10000 27 (.agg (B (nd k a b c d))) (.agg (B (nd k a b c d)))).run Tryd.prog w = .ok true w := fun w => by have := node_eq h h w; simpa using this
  have hEqD : ∀ w, (Op.equalIn 10000 25 (.agg (B D)) (.agg (B D))).run Tryd.prog w = .ok true w := fun w => by have := hash_eq D D hDl hDl w; simpa using this
  have HDs : Hid ((Tryd.prog.info? 25).map (·.size) = some (B D).size) := by show _ = _; rw [B_size, hDl]; exact sz_hash
  have HDs2 : Hid ((Tryd.prog.info? 25).map (·.size) = some (B D).toList.length) := by show _ = _; rw [Array.length_toList, B_size, hDl]; exact sz_hash
  have HDz : Hid ((B (List.replicate 32 0)).size = (B D).size) := by show _ = _; rw [B_size, B_size, hDl]; rfl
  have HNz : Hid ((B (List.replicate 129 0)).size = (B (nd k a b c d)).size) := by show _ = _; rw [h.size]; rfl
  obtain ⟨k2, a2, b2, c2, d2, hn2, h2, ho2, ht2⟩ := enc_dec (by obtain ⟨_, _, _, _, _, hb, _⟩ := hv; exact hb) hd
  rw [hn2] at HDb
  have HF2 := hidden h2.facts
  have HE2 : Hid (∀ w', Calls Tryd.prog 11 #[.agg (B (nd k2 a2 b2 c2 d2))] w' fun e w'' => ∃ v sp, e = .returned (.tuple #[v, .int .i64 0]) ∧ Own w'.heap.size w'' v zs sp ∧ Below w'.heap.size w' w'') := by
    intro w'
    have := encode_any k2 a2 b2 c2 d2 w' h2
    unfold EncPost at this
    have e2 : okE k2 a2 b2 c2 d2 = 0 := by rw [okE, ho2]; rfl
    rwa [e2, ht2] at this
  have HSm : Hid (∀ w' x, Reads w' x zs → Reads w' v zs → Calls Tryd.prog 17 #[x, v] w' fun e w'' => e = .returned (.bool true) ∧ w'' = w') := by
    intro w' x hx hb
    have := same_any x v zs zs w' hx hb
    simpa using this
  have HNz2 : Hid ((B (List.replicate 129 0)).size = (B (nd k2 a2 b2 c2 d2)).size) := by show _ = _; rw [h2.size]; rfl
  obtain ⟨M, hM⟩ : ∃ M, M = nd k2 a2 b2 c2 d2 := ⟨_, rfl⟩
  rw [← hM] at HDb HF2 HE2 HNz2
  clear hn2 h2 ho2 ht2 hM
  obtain ⟨N, hN⟩ : ∃ N, N = nd k a b c d := ⟨_, rfl⟩
  obtain ⟨X, hX⟩ : ∃ X, X = txN k a b c d := ⟨_, rfl⟩
  rw [← hN] at HC HE HF HG HDt hEqN HNz ⊢
  rw [← hX] at HE HM HDt
  obtain ⟨va, vc, rfl, _, _, _, _⟩ := hv
  clear h hu hL ho hd hoE hN hX hD hDd hDl
  go_enter Tryd.func6, Tryd.ntmps6
  go_wp2_with (first
    | ((with_reducible refine at_bxd 2 ?_); refine wpList_bx _ rfl _ _ rfl _ rfl ?_; intro x1 g2 hg1 hl1 bq1 q1; replace KV := hidden (KV.out.step q1); replace KW := hidden (KW.out.step q1); replace KL := hidden (KL.out.step q1); have KN := hidden bq1.kp; clear hg1 hl1 bq1 q1)
    | ((with_reducible refine at_ldd 18 2 ?_); refine wpList_lds _ rfl _ _ rfl g2 _ _ rfl KN.out.now HU.out HF.out.ln ?_)
    | ((with_reducible refine at_ldd 24 2 ?_); refine wpList_lds _ rfl _ _ rfl g2 _ _ rfl KN.out.now HU.out HF.out.ln ?_)
    | ((with_reducible refine at_ald 7 ?_); refine wpList_al _ rfl _ rfl _ zero_node ?_; intro x5 g7 hg7 hl5 bq5 q5; clear hl5)
    | ((with_reducible refine at_st 7 ?_); refine wpList_sto _ rfl _ _ _ rfl g7 _ (B N) rfl rfl bq5 HF.out.ln HNz.out (B_one _) ?_; intro x6 by6 r6; have q6 := below_row q5 r6 hg7; replace KV := hidden (KV.out.step q6); replace KW := hidden (KW.out.step q6); replace KL := hidden (KL.out.step q6); replace KN := hidden (KN.out.step q6); replace KT := hidden (KT.out.step q6); have K7 := hidden by6.kp; clear q6 q5 r6 by6 bq5 hg7)
    | ((with_reducible refine at_ldd 36 2 ?_); refine wpList_lds _ rfl _ _ rfl g2 _ _ rfl KN.out.now HU.out HF.out.ln ?_)
    | ((with_reducible refine at_ald 9 ?_); refine wpList_al _ rfl _ rfl _ zero_hash ?_; intro x8 g9 hg9 hl8 bq8 q8; clear hl8)
    | ((with_reducible refine at_st 9 ?_); refine wpList_sto _ rfl _ _ _ rfl g9 _ (B D) rfl rfl bq8 HDs.out HDz.out (B_one _) ?_; intro x9 by9 r9; have q9 := below_row q8 r9 hg9; replace KV := hidden (KV.out.step q9); replace KW := hidden (KW.out.step q9); replace KL := hidden (KL.out.step q9); replace KN := hidden (KN.out.step q9); replace KT := hidden (KT.out.step q9); replace K7 := hidden (K7.out.step q9); have K9 := hidden by9.kp; clear q9 q8 r9 by9 bq8 hg9)
    | (go_at_call 9; refine (HG.out _ KL.out.now).mono ?_; rintro e x7 ⟨rfl, q7⟩; replace KV := hidden (KV.out.step q7); replace KW := hidden (KW.out.step q7); replace KL := hidden (KL.out.step q7); replace KN := hidden (KN.out.step q7); replace KT := hidden (KT.out.step q7); replace K7 := hidden (K7.out.step q7); have mk_fnodeDigest_1 : Hid True := trivial; clear q7)
    | (go_at_call 13; refine (HDt.out _ _ KT.out.now).mono ?_; rintro e x4 ⟨rfl, q4⟩; replace KV := hidden (KV.out.step q4); replace KW := hidden (KW.out.step q4); replace KL := hidden (KL.out.step q4); replace KN := hidden (KN.out.step q4); replace KT := hidden (KT.out.step q4); have mk_fnodeDecode_1 : Hid True := trivial; clear q4)
    | (go_at_call 15; refine (HC.out _).mono ?_; rintro e x3 ⟨rfl, q3⟩; replace KV := hidden (KV.out.step q3); replace KW := hidden (KW.out.step q3); replace KL := hidden (KL.out.step q3); replace KN := hidden (KN.out.step q3); replace KT := hidden (KT.out.step q3); have mk_fnodeCheck_1 : Hid True := trivial; clear q3)
    | (go_at_call 11; refine (HE.out _).mono ?_; rintro e x2 ⟨t, sp, rfl, hO, q2⟩; replace KV := hidden (KV.out.step q2); replace KW := hidden (KW.out.step q2); replace KL := hidden (KL.out.step q2); replace KN := hidden (KN.out.step q2); have KT := hidden hO.reads.kp; obtain ⟨ta, tc, rfl⟩ := hO.slice; clear hO; have mk_fnodeEncode_1 : Hid True := trivial; clear q2))
  have HS : Hid (∀ w', Below x9.heap.size x9 w' → w'.rangeAt g7 0 (B N).toList ∧ w'.rangeAt g2 0 (B N).toList ∧ w'.rangeAt g9 0 (B D).toList) := fun w' hw' => ⟨(K7.out w' hw').range, (KN.out w' hw').range, (K9.out w' hw').range⟩
  have d0 : Below x9.heap.size x9 x9.drew := (Below.refl _ _).drew
  refine wp_region_held_drew (S := fun w' => w'.rangeAt g7 0 (B N).toList ∧ w'.rangeAt g2 0 (B N).toList ∧ w'.rangeAt g9 0 (B D).toList) (by kernel_rfl) (HS.out _ d0) (fun hHeld => ?_)
  refine wpAnyH_take (i := 0) (v := .int .i64 0) rfl (by kernel_rfl) (by kernel_rfl) (by kernel_rfl) (fun _ _ _ h => h) (Or.inl ⟨by rfl, fun w hS => by go_simp⟩) hHeld ?_
  simp only [Act.put, List.getElem_toArray, List.getElem_cons_zero, List.setIfInBounds_toArray, List.set_cons_zero, List.set_cons_succ]
  refine wpAnyH_take (i := 1) (v := .bool false) rfl (by kernel_rfl) (by kernel_rfl) (by kernel_rfl) (fun _ _ _ h => h) (Or.inl ⟨by rfl, fun w hS => by go_simp⟩) hHeld ?_
  simp only [Act.put, List.getElem_toArray, List.getElem_cons_zero, List.getElem_cons_succ, List.setIfInBounds_toArray, List.set_cons_zero, List.set_cons_succ]
  refine wpAnyH_take (i := 2) (v := .bool false) rfl (by kernel_rfl) (by kernel_rfl) (by kernel_rfl) (fun _ _ _ h => h) (Or.inl ⟨by rfl, fun w hS => by go_simp⟩) hHeld ?_
  simp only [Act.put, List.getElem_toArray, List.getElem_cons_zero, List.getElem_cons_succ, List.setIfInBounds_toArray, List.set_cons_zero, List.set_cons_succ]
  refine wpAnyH_take (i := 3) (v := .int .i64 0) rfl (by kernel_rfl) (by kernel_rfl) (by kernel_rfl) (fun _ _ _ h => h) (Or.inl ⟨by rfl, fun w hS => by go_simp⟩) hHeld ?_
  simp only [Act.put, List.getElem_toArray, List.getElem_cons_zero, List.getElem_cons_succ, List.setIfInBounds_toArray, List.set_cons_zero, List.set_cons_succ]
  refine wpAnyH_take (i := 4) (v := .bool false) rfl (by kernel_rfl) (by kernel_rfl) (by kernel_rfl) (fun _ _ _ h => h) (Or.inl ⟨by rfl, fun w hS => by go_simp⟩) hHeld ?_
  simp only [Act.put, List.getElem_toArray, List.getElem_cons_zero, List.getElem_cons_succ, List.setIfInBounds_toArray, List.set_cons_zero, List.set_cons_succ]
  refine wpAnyH_take (i := 5) (v := .bool false) rfl (by kernel_rfl) (by kernel_rfl) (by kernel_rfl) (fun _ _ _ h => h) (Or.inl ⟨by rfl, fun w hS => by go_simp⟩) hHeld ?_
  simp only [Act.put, List.getElem_toArray, List.getElem_cons_zero, List.getElem_cons_succ, List.setIfInBounds_toArray, List.set_cons_zero, List.set_cons_succ]
  refine wpAnyH_take (i := 6) (v := .bool false) rfl (by kernel_rfl) (by kernel_rfl) (by kernel_rfl) (fun _ _ _ h => h) (Or.inl ⟨by rfl, fun w hS => by go_simp⟩) hHeld ?_
  simp only [Act.put, List.getElem_toArray, List.getElem_cons_zero, List.getElem_cons_succ, List.setIfInBounds_toArray, List.set_cons_zero, List.set_cons_succ]
  refine wpAnyH_take (i := 7) (v := .agg (B N)) rfl (by kernel_rfl) (by kernel_rfl) (by kernel_rfl) (fun _ _ _ h => h) (yieldsIf_load_mid rfl 27 (.tmp 7) rfl g7 0 rfl (B N).toList _ (fun w hS => hS.1) HU.out rfl HF.out.ll) hHeld ?_
  simp only [Act.put, List.getElem_toArray, List.getElem_cons_zero, List.getElem_cons_succ, List.setIfInBounds_toArray, List.set_cons_zero, List.set_cons_succ]
  refine wpAnyH_take (i := 8) (v := .agg (B N)) rfl (by kernel_rfl) (by kernel_rfl) (by kernel_rfl) (fun _ _ _ h => h) (yieldsIf_load_mid rfl 27 (.tmp 2) rfl g2 0 rfl (B N).toList _ (fun w hS => hS.2.1) HU.out rfl HF.out.ll) hHeld ?_
  simp only [Act.put, List.getElem_toArray, List.getElem_cons_zero, List.getElem_cons_succ, List.setIfInBounds_toArray, List.set_cons_zero, List.set_cons_succ]
  refine wpAnyH_take (i := 9) (v := .bool false) rfl (by kernel_rfl) (by kernel_rfl) (by kernel_rfl) (fun _ _ _ h => h) (Or.inl ⟨by rfl, fun w hS => by go_simp⟩) hHeld ?_
  simp only [Act.put, List.getElem_toArray, List.getElem_cons_zero, List.getElem_cons_succ, List.setIfInBounds_toArray, List.set_cons_zero, List.set_cons_succ]
  refine wpAnyH_take (i := 10) (v := .bool false) rfl (by kernel_rfl) (by kernel_rfl) (by kernel_rfl) (fun _ _ _ h => h) (Or.inl ⟨by rfl, fun w hS => by go_simp⟩) hHeld ?_
  simp only [Act.put, List.getElem_toArray, List.getElem_cons_zero, List.getElem_cons_succ, List.setIfInBounds_toArray, List.set_cons_zero, List.set_cons_succ]
  refine wpAnyH_take (i := 11) (v := .bool false) rfl (by kernel_rfl) (by kernel_rfl) (by kernel_rfl) (fun _ _ _ h => h) (Or.inl ⟨by rfl, fun w hS => by go_simp⟩) hHeld ?_
  simp only [Act.put, List.getElem_toArray, List.getElem_cons_zero, List.getElem_cons_succ, List.setIfInBounds_toArray, List.set_cons_zero, List.set_cons_succ]
  refine wpAnyH_take (i := 12) (v := .agg (B D)) rfl (by kernel_rfl) (by kernel_rfl) (by kernel_rfl) (fun _ _ _ h => h) (yieldsIf_load_mid rfl 25 (.tmp 9) rfl g9 0 rfl (B D).toList _ (fun w hS => hS.2.2) Tryd.underlying25 rfl HDs2.out) hHeld ?_
  simp only [Act.put, List.getElem_toArray, List.getElem_cons_zero, List.getElem_cons_succ, List.setIfInBounds_toArray, List.set_cons_zero, List.set_cons_succ]
  refine wpAnyH_take (i := 13) (v := .slice ta X.length tc) rfl (by kernel_rfl) (by kernel_rfl) (by kernel_rfl) (fun _ _ _ h => h) (Or.inl ⟨by rfl, fun w hS => by go_simp⟩) hHeld ?_
  simp only [Act.put, List.getElem_toArray, List.getElem_cons_zero, List.getElem_cons_succ, List.setIfInBounds_toArray, List.set_cons_zero, List.set_cons_succ]
  refine wpAnyH_ready (rs := [14]) (by kernel_rfl) (by simp) ?_
  refine AllReadyH.cons rfl (fun KQ hK => ?_) AllReadyH.nil
  go_simp
  refine (HM.out _ _ (KT.out _ d0) (KL.out _ d0)).mono ?_
  rintro e y1 ⟨rfl, a1⟩
  have d1 := grow_trans d0 a1
  refine hK.out _ _ (HS.out _ d1) (fun hHeld => ?_)
  clear hK KQ
  refine wpAnyH_take (i := 15) (v := .bool false) rfl (by kernel_rfl) (by kernel_rfl) (by kernel_rfl) (fun _ _ _ h => h) (Or.inl ⟨by rfl, fun w hS => by go_simp⟩) hHeld ?_
  simp only [Act.put, List.getElem_toArray, List.getElem_cons_zero, List.getElem_cons_succ, List.setIfInBounds_toArray, List.set_cons_zero, List.set_cons_succ]
  refine wpAnyH_take (i := 16) (v := .bool false) rfl (by kernel_rfl) (by kernel_rfl) (by kernel_rfl) (fun _ _ _ h => h) (Or.inl ⟨by rfl, fun w hS => by go_simp⟩) hHeld ?_
  simp only [Act.put, List.getElem_toArray, List.getElem_cons_zero, List.getElem_cons_succ, List.setIfInBounds_toArray, List.set_cons_zero, List.set_cons_succ]
  refine wpAnyH_done (by kernel_rfl) ?_ _
  replace KV := hidden (KV.out.step d1); replace KW := hidden (KW.out.step d1); replace KL := hidden (KL.out.step d1); replace KN := hidden (KN.out.step d1); replace KT := hidden (KT.out.step d1); replace K7 := hidden (K7.out.step d1); replace K9 := hidden (K9.out.step d1)
  clear HS d0 d1 a1 K7 K9
  go_wp2_with (first
    | ((with_reducible refine at_ald 11 ?_); refine wpList_al _ rfl _ rfl _ zero_node ?_; intro x11 g11 hg11 hl11 bq11 q11; clear hl11)
    | ((with_reducible refine at_st 11 ?_); refine wpList_sto _ rfl _ _ _ rfl g11 _ (B M) rfl rfl bq11 HF2.out.ln HNz2.out (B_one _) ?_; intro x12 by12 r12; have q12 := below_row q11 r12 hg11; replace KV := hidden (KV.out.step q12); replace KW := hidden (KW.out.step q12); replace KL := hidden (KL.out.step q12); replace KN := hidden (KN.out.step q12); replace KT := hidden (KT.out.step q12); have K11 := hidden by12.kp; clear q12 q11 r12 by12 bq11 hg11)
    | ((with_reducible refine at_ldd 82 11 ?_); refine wpList_lds _ rfl _ _ rfl g11 _ _ rfl K11.out.now HU.out HF2.out.ln ?_)
    | (go_at_call 17; refine (HSm.out _ _ KU.out.now KV.out.now).mono ?_; rintro e x14 ⟨rfl, rfl⟩; have mk_frootcellarkitSameBytes_1 : Hid True := trivial)
    | (go_at_call 11; have mk := mk_fnodeEncode_1; clear mk; refine (HE2.out _).mono ?_; rintro e x13 ⟨u, su, rfl, hO, q13⟩; replace KV := hidden (KV.out.step q13); replace KW := hidden (KW.out.step q13); replace KL := hidden (KL.out.step q13); replace KN := hidden (KN.out.step q13); replace KT := hidden (KT.out.step q13); replace K11 := hidden (K11.out.step q13); have KU := hidden hO.reads.kp; obtain ⟨ua, uc, rfl⟩ := hO.slice; clear hO; have mk_fnodeEncode_2 : Hid True := trivial; clear q13)
    | (go_at_call 13; have mk := mk_fnodeDecode_1; clear mk; refine (HDb.out _ KV.out.now).mono ?_; rintro e x10 ⟨rfl, q10⟩; replace KV := hidden (KV.out.step q10); replace KW := hidden (KW.out.step q10); replace KL := hidden (KL.out.step q10); replace KN := hidden (KN.out.step q10); replace KT := hidden (KT.out.step q10); have mk_fnodeDecode_2 : Hid True := trivial; clear q10))
  go_ret
  exact ⟨rfl, KW.out.now⟩

set_option maxHeartbeats 4000000 in
theorem back_ok_no (k : Int) (a b c d : List Int) (v : Value) (zs : List Int) (w : World) (h : Nd k a b c d) (hv : Reads w v zs) (hL : Laid w) (ho : okN k a b c d = true) (hd : dcE zs = 10) :
    Calls Tryd.prog 6 #[.agg (B (nd k a b c d)), v] w fun e w' => e = .returned (.bool true) ∧ Below w.heap.size w w' := by
  obtain ⟨fs, hu⟩ := u_node
  have HU := hidden hu
  have KV := hidden hv.kp
  have KW := hidden (below_kp w)
  have KL := hidden hL.kp
  have HF := hidden h.facts
  have hoE : okE k a b c d = 0 := by rw [okE, ho]; rfl
  have HC : Hid (∀ w', Calls Tryd.prog 15 #[.agg (B (nd k a b c d))] w' fun e w'' => e = .returned (.int .i64 0) ∧ Below w'.heap.size w' w'') := by
    intro w'
    have := check_any k a b c d w' h
    rwa [hoE] at this
  have HE : Hid (∀ w', Calls Tryd.prog 11 #[.agg (B (nd k a b c d))] w' fun e w'' => ∃ v sp, e = .returned (.tuple #[v, .int .i64 0]) ∧ Own w'.heap.size w'' v (txN k a b c d) sp ∧ Below w'.heap.size w' w'') := by
    intro w'
    have := encode_any k a b c d w' h
    unfold EncPost at this
    rwa [hoE] at this
  have HDb : Hid (∀ w', Reads w' v zs → Calls Tryd.prog 13 #[v] w' fun e w'' => e = .returned (.tuple #[.agg (B (dcN zs)), .int .i64 10]) ∧ Below w'.heap.size w' w'') := by
    intro w' hb
    have := decode_any v zs w' hb
    unfold DecPost at this
    rwa [hd] at this
  obtain ⟨D, hD⟩ : ∃ D, D = dgN k a b c d := ⟨_, rfl⟩
  have hDd : dgN k a b c d = dig (txN k a b c d) := by rw [dgN, if_pos ho]
  have hDl : D.length = 32 := by rw [hD, hDd, dig_length]
  have HG : Hid (∀ w', Laid w' → Calls Tryd.prog 9 #[.agg (B (nd k a b c d))] w' fun e w'' => e = .returned (.tuple #[.agg (B D), .int .i64 0]) ∧ Below w'.heap.size w' w'') := by
    intro w' hl
    have := digest_any k a b c d w' h hl
    unfold DigNPost at this
    rwa [hoE, ← hD] at this
  have HM : Hid (∀ w' x, Reads w' x (txN k a b c d) → Laid w' → Calls Tryd.prog 33 #[x] w' fun e w'' => e = .returned (.agg (B D)) ∧ Below w'.heap.size w' w'') := by
    intro w' x hx hl
    rw [hD, hDd]
    have := txN_short h
    exact shaSum_any x _ w' hx hl (by omega)
  have HDt : Hid (∀ w' x, Reads w' x (txN k a b c d) → Calls Tryd.prog 13 #[x] w' fun e w'' => e = .returned (.tuple #[.agg (B (nd k a b c d)), .int .i64 0]) ∧ Below w'.heap.size w' w'') := by
    intro w' x hx
    have := decode_any x _ w' hx
    unfold DecPost at this
    obtain ⟨e1, e2⟩ := dec_enc h ho
    rwa [e1, e2] at this
  have hEqN : ∀ w, (Op.equalIn 10000 27 (.agg (B (nd k a b c d))) (.agg (B (nd k a b c d)))).run Tryd.prog w = .ok true w := fun w => by have := node_eq h h w; simpa using this
  have hEqD : ∀ w, (Op.equalIn 10000 25 (.agg (B D)) (.agg (B D))).run Tryd.prog w = .ok true w := fun w => by have := hash_eq D D hDl hDl w; simpa using this
  have HDs : Hid ((Tryd.prog.info? 25).map (·.size) = some (B D).size) := by show _ = _; rw [B_size, hDl]; exact sz_hash
  have HDs2 : Hid ((Tryd.prog.info? 25).map (·.size) = some (B D).toList.length) := by show _ = _; rw [Array.length_toList, B_size, hDl]; exact sz_hash
  have HDz : Hid ((B (List.replicate 32 0)).size = (B D).size) := by show _ = _; rw [B_size, B_size, hDl]; rfl
  have HNz : Hid ((B (List.replicate 129 0)).size = (B (nd k a b c d)).size) := by show _ = _; rw [h.size]; rfl
  obtain ⟨k2, a2, b2, c2, d2, hn2, h2⟩ := dc_nd zs (by obtain ⟨_, _, _, _, _, hb, _⟩ := hv; exact hb)
  rw [hn2] at HDb
  have HF2 := hidden h2.facts
  have HNz2 : Hid ((B (List.replicate 129 0)).size = (B (nd k2 a2 b2 c2 d2)).size) := by show _ = _; rw [h2.size]; rfl
  obtain ⟨M, hM⟩ : ∃ M, M = nd k2 a2 b2 c2 d2 := ⟨_, rfl⟩
  rw [← hM] at HDb HF2 HNz2
  obtain ⟨E, hE⟩ : ∃ E, E = dig [0] := ⟨_, rfl⟩
  have hEl : E.length = 32 := by rw [hE, dig_length]
  have hoz : okN 0 z32 z32 z32 z32 = true := by simp [okN]
  have HGz : Hid (∀ w', Laid w' → Calls Tryd.prog 9 #[.agg (B (nd 0 z32 z32 z32 z32))] w' fun e w'' => e = .returned (.tuple #[.agg (B E), .int .i64 0]) ∧ Below w'.heap.size w' w'') := by
    intro w' hl
    have := digest_any 0 z32 z32 z32 z32 w' z_nd hl
    unfold DigNPost at this
    have e1 : okE 0 z32 z32 z32 z32 = 0 := by rw [okE, hoz]; rfl
    have e2 : dgN 0 z32 z32 z32 z32 = E := by rw [dgN, if_pos hoz, txN, if_pos hoz, hE]; rfl
    rwa [e1, e2] at this
  have HEm : Hid (∀ w', Laid w' → Calls Tryd.prog 34 #[] w' fun e w'' => e = .returned (.agg (B E)) ∧ Below w'.heap.size w' w'') := by
    intro w' hl
    rw [hE]
    exact empty_any w' hl
  have hEqE : ∀ w, (Op.equalIn 10000 25 (.agg (B E)) (.agg (B E))).run Tryd.prog w = .ok true w := fun w => by have := hash_eq E E hEl hEl w; simpa using this
  have hEqZ : ∀ w, (Op.equalIn 10000 25 (.agg (B E)) (.agg (B z32))).run Tryd.prog w = .ok false w := fun w => by
    have := hash_eq E z32 hEl rfl w
    rwa [decide_eq_false (by rw [hE]; exact em_ne)] at this
  have HEs : Hid ((Tryd.prog.info? 25).map (·.size) = some (B E).size) := by show _ = _; rw [B_size, hEl]; exact sz_hash
  have HEs2 : Hid ((Tryd.prog.info? 25).map (·.size) = some (B E).toList.length) := by show _ = _; rw [Array.length_toList, B_size, hEl]; exact sz_hash
  have HEz : Hid ((B (List.replicate 32 0)).size = (B E).size) := by show _ = _; rw [B_size, B_size, hEl]; rfl
  have HB0 : Hid (Tryd.prog.built 27 [] = some (B (nd 0 z32 z32 z32 z32))) := built_empty
  have HBh : Hid (Tryd.prog.built 25 [] = some (B z32)) := built_hash
  obtain ⟨Z, hZ⟩ : ∃ Z, Z = nd 0 z32 z32 z32 z32 := ⟨_, rfl⟩
  rw [← hZ] at HGz HB0
  clear hn2 h2 hM hE hEl hoz hZ
  obtain ⟨N, hN⟩ : ∃ N, N = nd k a b c d := ⟨_, rfl⟩
  obtain ⟨X, hX⟩ : ∃ X, X = txN k a b c d := ⟨_, rfl⟩
  rw [← hN] at HC HE HF HG HDt hEqN HNz ⊢
  rw [← hX] at HE HM HDt
  obtain ⟨va, vc, rfl, _, _, _, _⟩ := hv
  clear h hu hL ho hd hoE hN hX hD hDd hDl
  go_enter Tryd.func6, Tryd.ntmps6
  go_wp2_with (first
    | ((with_reducible refine at_bxd 2 ?_); refine wpList_bx _ rfl _ _ rfl _ rfl ?_; intro x1 g2 hg1 hl1 bq1 q1; replace KV := hidden (KV.out.step q1); replace KW := hidden (KW.out.step q1); replace KL := hidden (KL.out.step q1); have KN := hidden bq1.kp; clear hg1 hl1 bq1 q1)
    | ((with_reducible refine at_ldd 18 2 ?_); refine wpList_lds _ rfl _ _ rfl g2 _ _ rfl KN.out.now HU.out HF.out.ln ?_)
    | ((with_reducible refine at_ldd 24 2 ?_); refine wpList_lds _ rfl _ _ rfl g2 _ _ rfl KN.out.now HU.out HF.out.ln ?_)
    | ((with_reducible refine at_ald 7 ?_); refine wpList_al _ rfl _ rfl _ zero_node ?_; intro x5 g7 hg7 hl5 bq5 q5; clear hl5)
    | ((with_reducible refine at_st 7 ?_); refine wpList_sto _ rfl _ _ _ rfl g7 _ (B N) rfl rfl bq5 HF.out.ln HNz.out (B_one _) ?_; intro x6 by6 r6; have q6 := below_row q5 r6 hg7; replace KV := hidden (KV.out.step q6); replace KW := hidden (KW.out.step q6); replace KL := hidden (KL.out.step q6); replace KN := hidden (KN.out.step q6); replace KT := hidden (KT.out.step q6); have K7 := hidden by6.kp; clear q6 q5 r6 by6 bq5 hg7)
    | ((with_reducible refine at_ldd 36 2 ?_); refine wpList_lds _ rfl _ _ rfl g2 _ _ rfl KN.out.now HU.out HF.out.ln ?_)
    | ((with_reducible refine at_ald 9 ?_); refine wpList_al _ rfl _ rfl _ zero_hash ?_; intro x8 g9 hg9 hl8 bq8 q8; clear hl8)
    | ((with_reducible refine at_st 9 ?_); refine wpList_sto _ rfl _ _ _ rfl g9 _ (B D) rfl rfl bq8 HDs.out HDz.out (B_one _) ?_; intro x9 by9 r9; have q9 := below_row q8 r9 hg9; replace KV := hidden (KV.out.step q9); replace KW := hidden (KW.out.step q9); replace KL := hidden (KL.out.step q9); replace KN := hidden (KN.out.step q9); replace KT := hidden (KT.out.step q9); replace K7 := hidden (K7.out.step q9); have K9 := hidden by9.kp; clear q9 q8 r9 by9 bq8 hg9)
    | (go_at_call 9; refine (HG.out _ KL.out.now).mono ?_; rintro e x7 ⟨rfl, q7⟩; replace KV := hidden (KV.out.step q7); replace KW := hidden (KW.out.step q7); replace KL := hidden (KL.out.step q7); replace KN := hidden (KN.out.step q7); replace KT := hidden (KT.out.step q7); replace K7 := hidden (K7.out.step q7); have mk_fnodeDigest_1 : Hid True := trivial; clear q7)
    | (go_at_call 13; refine (HDt.out _ _ KT.out.now).mono ?_; rintro e x4 ⟨rfl, q4⟩; replace KV := hidden (KV.out.step q4); replace KW := hidden (KW.out.step q4); replace KL := hidden (KL.out.step q4); replace KN := hidden (KN.out.step q4); replace KT := hidden (KT.out.step q4); have mk_fnodeDecode_1 : Hid True := trivial; clear q4)
    | (go_at_call 15; refine (HC.out _).mono ?_; rintro e x3 ⟨rfl, q3⟩; replace KV := hidden (KV.out.step q3); replace KW := hidden (KW.out.step q3); replace KL := hidden (KL.out.step q3); replace KN := hidden (KN.out.step q3); replace KT := hidden (KT.out.step q3); have mk_fnodeCheck_1 : Hid True := trivial; clear q3)
    | (go_at_call 11; refine (HE.out _).mono ?_; rintro e x2 ⟨t, sp, rfl, hO, q2⟩; replace KV := hidden (KV.out.step q2); replace KW := hidden (KW.out.step q2); replace KL := hidden (KL.out.step q2); replace KN := hidden (KN.out.step q2); have KT := hidden hO.reads.kp; obtain ⟨ta, tc, rfl⟩ := hO.slice; clear hO; have mk_fnodeEncode_1 : Hid True := trivial; clear q2))
  have HS : Hid (∀ w', Below x9.heap.size x9 w' → w'.rangeAt g7 0 (B N).toList ∧ w'.rangeAt g2 0 (B N).toList ∧ w'.rangeAt g9 0 (B D).toList) := fun w' hw' => ⟨(K7.out w' hw').range, (KN.out w' hw').range, (K9.out w' hw').range⟩
  have d0 : Below x9.heap.size x9 x9.drew := (Below.refl _ _).drew
  refine wp_region_held_drew (S := fun w' => w'.rangeAt g7 0 (B N).toList ∧ w'.rangeAt g2 0 (B N).toList ∧ w'.rangeAt g9 0 (B D).toList) (by kernel_rfl) (HS.out _ d0) (fun hHeld => ?_)
  refine wpAnyH_take (i := 0) (v := .int .i64 0) rfl (by kernel_rfl) (by kernel_rfl) (by kernel_rfl) (fun _ _ _ h => h) (Or.inl ⟨by rfl, fun w hS => by go_simp⟩) hHeld ?_
  simp only [Act.put, List.getElem_toArray, List.getElem_cons_zero, List.setIfInBounds_toArray, List.set_cons_zero, List.set_cons_succ]
  refine wpAnyH_take (i := 1) (v := .bool false) rfl (by kernel_rfl) (by kernel_rfl) (by kernel_rfl) (fun _ _ _ h => h) (Or.inl ⟨by rfl, fun w hS => by go_simp⟩) hHeld ?_
  simp only [Act.put, List.getElem_toArray, List.getElem_cons_zero, List.getElem_cons_succ, List.setIfInBounds_toArray, List.set_cons_zero, List.set_cons_succ]
  refine wpAnyH_take (i := 2) (v := .bool false) rfl (by kernel_rfl) (by kernel_rfl) (by kernel_rfl) (fun _ _ _ h => h) (Or.inl ⟨by rfl, fun w hS => by go_simp⟩) hHeld ?_
  simp only [Act.put, List.getElem_toArray, List.getElem_cons_zero, List.getElem_cons_succ, List.setIfInBounds_toArray, List.set_cons_zero, List.set_cons_succ]
  refine wpAnyH_take (i := 3) (v := .int .i64 0) rfl (by kernel_rfl) (by kernel_rfl) (by kernel_rfl) (fun _ _ _ h => h) (Or.inl ⟨by rfl, fun w hS => by go_simp⟩) hHeld ?_
  simp only [Act.put, List.getElem_toArray, List.getElem_cons_zero, List.getElem_cons_succ, List.setIfInBounds_toArray, List.set_cons_zero, List.set_cons_succ]
  refine wpAnyH_take (i := 4) (v := .bool false) rfl (by kernel_rfl) (by kernel_rfl) (by kernel_rfl) (fun _ _ _ h => h) (Or.inl ⟨by rfl, fun w hS => by go_simp⟩) hHeld ?_
  simp only [Act.put, List.getElem_toArray, List.getElem_cons_zero, List.getElem_cons_succ, List.setIfInBounds_toArray, List.set_cons_zero, List.set_cons_succ]
  refine wpAnyH_take (i := 5) (v := .bool false) rfl (by kernel_rfl) (by kernel_rfl) (by kernel_rfl) (fun _ _ _ h => h) (Or.inl ⟨by rfl, fun w hS => by go_simp⟩) hHeld ?_
  simp only [Act.put, List.getElem_toArray, List.getElem_cons_zero, List.getElem_cons_succ, List.setIfInBounds_toArray, List.set_cons_zero, List.set_cons_succ]
  refine wpAnyH_take (i := 6) (v := .bool false) rfl (by kernel_rfl) (by kernel_rfl) (by kernel_rfl) (fun _ _ _ h => h) (Or.inl ⟨by rfl, fun w hS => by go_simp⟩) hHeld ?_
  simp only [Act.put, List.getElem_toArray, List.getElem_cons_zero, List.getElem_cons_succ, List.setIfInBounds_toArray, List.set_cons_zero, List.set_cons_succ]
  refine wpAnyH_take (i := 7) (v := .agg (B N)) rfl (by kernel_rfl) (by kernel_rfl) (by kernel_rfl) (fun _ _ _ h => h) (yieldsIf_load_mid rfl 27 (.tmp 7) rfl g7 0 rfl (B N).toList _ (fun w hS => hS.1) HU.out rfl HF.out.ll) hHeld ?_
  simp only [Act.put, List.getElem_toArray, List.getElem_cons_zero, List.getElem_cons_succ, List.setIfInBounds_toArray, List.set_cons_zero, List.set_cons_succ]
  refine wpAnyH_take (i := 8) (v := .agg (B N)) rfl (by kernel_rfl) (by kernel_rfl) (by kernel_rfl) (fun _ _ _ h => h) (yieldsIf_load_mid rfl 27 (.tmp 2) rfl g2 0 rfl (B N).toList _ (fun w hS => hS.2.1) HU.out rfl HF.out.ll) hHeld ?_
  simp only [Act.put, List.getElem_toArray, List.getElem_cons_zero, List.getElem_cons_succ, List.setIfInBounds_toArray, List.set_cons_zero, List.set_cons_succ]
  refine wpAnyH_take (i := 9) (v := .bool false) rfl (by kernel_rfl) (by kernel_rfl) (by kernel_rfl) (fun _ _ _ h => h) (Or.inl ⟨by rfl, fun w hS => by go_simp⟩) hHeld ?_
  simp only [Act.put, List.getElem_toArray, List.getElem_cons_zero, List.getElem_cons_succ, List.setIfInBounds_toArray, List.set_cons_zero, List.set_cons_succ]
  refine wpAnyH_take (i := 10) (v := .bool false) rfl (by kernel_rfl) (by kernel_rfl) (by kernel_rfl) (fun _ _ _ h => h) (Or.inl ⟨by rfl, fun w hS => by go_simp⟩) hHeld ?_
  simp only [Act.put, List.getElem_toArray, List.getElem_cons_zero, List.getElem_cons_succ, List.setIfInBounds_toArray, List.set_cons_zero, List.set_cons_succ]
  refine wpAnyH_take (i := 11) (v := .bool false) rfl (by kernel_rfl) (by kernel_rfl) (by kernel_rfl) (fun _ _ _ h => h) (Or.inl ⟨by rfl, fun w hS => by go_simp⟩) hHeld ?_
  simp only [Act.put, List.getElem_toArray, List.getElem_cons_zero, List.getElem_cons_succ, List.setIfInBounds_toArray, List.set_cons_zero, List.set_cons_succ]
  refine wpAnyH_take (i := 12) (v := .agg (B D)) rfl (by kernel_rfl) (by kernel_rfl) (by kernel_rfl) (fun _ _ _ h => h) (yieldsIf_load_mid rfl 25 (.tmp 9) rfl g9 0 rfl (B D).toList _ (fun w hS => hS.2.2) Tryd.underlying25 rfl HDs2.out) hHeld ?_
  simp only [Act.put, List.getElem_toArray, List.getElem_cons_zero, List.getElem_cons_succ, List.setIfInBounds_toArray, List.set_cons_zero, List.set_cons_succ]
  refine wpAnyH_take (i := 13) (v := .slice ta X.length tc) rfl (by kernel_rfl) (by kernel_rfl) (by kernel_rfl) (fun _ _ _ h => h) (Or.inl ⟨by rfl, fun w hS => by go_simp⟩) hHeld ?_
  simp only [Act.put, List.getElem_toArray, List.getElem_cons_zero, List.getElem_cons_succ, List.setIfInBounds_toArray, List.set_cons_zero, List.set_cons_succ]
  refine wpAnyH_ready (rs := [14]) (by kernel_rfl) (by simp) ?_
  refine AllReadyH.cons rfl (fun KQ hK => ?_) AllReadyH.nil
  go_simp
  refine (HM.out _ _ (KT.out _ d0) (KL.out _ d0)).mono ?_
  rintro e y1 ⟨rfl, a1⟩
  have d1 := grow_trans d0 a1
  refine hK.out _ _ (HS.out _ d1) (fun hHeld => ?_)
  clear hK KQ
  refine wpAnyH_take (i := 15) (v := .bool false) rfl (by kernel_rfl) (by kernel_rfl) (by kernel_rfl) (fun _ _ _ h => h) (Or.inl ⟨by rfl, fun w hS => by go_simp⟩) hHeld ?_
  simp only [Act.put, List.getElem_toArray, List.getElem_cons_zero, List.getElem_cons_succ, List.setIfInBounds_toArray, List.set_cons_zero, List.set_cons_succ]
  refine wpAnyH_take (i := 16) (v := .bool false) rfl (by kernel_rfl) (by kernel_rfl) (by kernel_rfl) (fun _ _ _ h => h) (Or.inl ⟨by rfl, fun w hS => by go_simp⟩) hHeld ?_
  simp only [Act.put, List.getElem_toArray, List.getElem_cons_zero, List.getElem_cons_succ, List.setIfInBounds_toArray, List.set_cons_zero, List.set_cons_succ]
  refine wpAnyH_done (by kernel_rfl) ?_ _
  replace KV := hidden (KV.out.step d1); replace KW := hidden (KW.out.step d1); replace KL := hidden (KL.out.step d1); replace KN := hidden (KN.out.step d1); replace KT := hidden (KT.out.step d1); replace K7 := hidden (K7.out.step d1); replace K9 := hidden (K9.out.step d1)
  clear HS d0 d1 a1 K7 K9
  go_wp2_with (first
    | ((with_reducible refine at_ald 11 ?_); refine wpList_al _ rfl _ rfl _ zero_node ?_; intro x11 g11 hg11 hl11 bq11 q11; clear hl11)
    | ((with_reducible refine at_st 11 ?_); refine wpList_sto _ rfl _ _ _ rfl g11 _ (B M) rfl rfl bq11 HF2.out.ln HNz2.out (B_one _) ?_; intro x12 by12 r12; have q12 := below_row q11 r12 hg11; replace KV := hidden (KV.out.step q12); replace KW := hidden (KW.out.step q12); replace KL := hidden (KL.out.step q12); replace KN := hidden (KN.out.step q12); replace KT := hidden (KT.out.step q12); have K11 := hidden by12.kp; clear q12 q11 r12 by12 bq11 hg11)
    | ((with_reducible refine at_bdd 65 ?_); refine wpList_bld _ rfl _ _ rfl _ (by rw [List.map_toArray]; exact HB0.out) ?_)
    | ((with_reducible refine at_ald 13 ?_); refine wpList_al _ rfl _ rfl _ zero_hash ?_; intro x14 g13 hg13 hl14 bq14 q14; clear hl14)
    | ((with_reducible refine at_st 13 ?_); refine wpList_sto _ rfl _ _ _ rfl g13 _ (B E) rfl rfl bq14 HEs.out HEz.out (B_one _) ?_; intro x15 by15 r15; have q15 := below_row q14 r15 hg13; replace KV := hidden (KV.out.step q15); replace KW := hidden (KW.out.step q15); replace KL := hidden (KL.out.step q15); replace KN := hidden (KN.out.step q15); replace KT := hidden (KT.out.step q15); replace K11 := hidden (K11.out.step q15); have K13 := hidden by15.kp; clear q15 q14 r15 by15 bq14 hg13)
    | (go_at_call 9; have mk := mk_fnodeDigest_1; clear mk; refine (HGz.out _ KL.out.now).mono ?_; rintro e x13 ⟨rfl, q13⟩; replace KV := hidden (KV.out.step q13); replace KW := hidden (KW.out.step q13); replace KL := hidden (KL.out.step q13); replace KN := hidden (KN.out.step q13); replace KT := hidden (KT.out.step q13); replace K11 := hidden (K11.out.step q13); have mk_fnodeDigest_2 : Hid True := trivial; clear q13)
    | (go_at_call 13; have mk := mk_fnodeDecode_1; clear mk; refine (HDb.out _ KV.out.now).mono ?_; rintro e x10 ⟨rfl, q10⟩; replace KV := hidden (KV.out.step q10); replace KW := hidden (KW.out.step q10); replace KL := hidden (KL.out.step q10); replace KN := hidden (KN.out.step q10); replace KT := hidden (KT.out.step q10); have mk_fnodeDecode_2 : Hid True := trivial; clear q10))
  have HS : Hid (∀ w', Below x15.heap.size x15 w' → w'.rangeAt g13 0 (B E).toList) := fun w' hw' => (K13.out w' hw').range
  have d0 : Below x15.heap.size x15 x15.drew := (Below.refl _ _).drew
  refine wp_region_held_drew (S := fun w' => w'.rangeAt g13 0 (B E).toList) (by kernel_rfl) (HS.out _ d0) (fun hHeld => ?_)
  refine wpAnyH_take (i := 0) (v := .int .i64 0) rfl (by kernel_rfl) (by kernel_rfl) (by kernel_rfl) (fun _ _ _ h => h) (Or.inl ⟨by rfl, fun w hS => by go_simp⟩) hHeld ?_
  simp only [Act.put, List.getElem_toArray, List.getElem_cons_zero, List.setIfInBounds_toArray, List.set_cons_zero, List.set_cons_succ]
  refine wpAnyH_take (i := 1) (v := .bool true) rfl (by kernel_rfl) (by kernel_rfl) (by kernel_rfl) (fun _ _ _ h => h) (Or.inl ⟨by rfl, fun w hS => by go_simp⟩) hHeld ?_
  simp only [Act.put, List.getElem_toArray, List.getElem_cons_zero, List.getElem_cons_succ, List.setIfInBounds_toArray, List.set_cons_zero, List.set_cons_succ]
  refine wpAnyH_take (i := 2) (v := .bool true) rfl (by kernel_rfl) (by kernel_rfl) (by kernel_rfl) (fun _ _ _ h => h) (Or.inl ⟨by rfl, fun w hS => by go_simp⟩) hHeld ?_
  simp only [Act.put, List.getElem_toArray, List.getElem_cons_zero, List.getElem_cons_succ, List.setIfInBounds_toArray, List.set_cons_zero, List.set_cons_succ]
  refine wpAnyH_take (i := 3) (v := .agg (B E)) rfl (by kernel_rfl) (by kernel_rfl) (by kernel_rfl) (fun _ _ _ h => h) (yieldsIf_load_mid rfl 25 (.tmp 13) rfl g13 0 rfl (B E).toList _ (fun w hS => hS) Tryd.underlying25 rfl HEs2.out) hHeld ?_
  simp only [Act.put, List.getElem_toArray, List.getElem_cons_zero, List.getElem_cons_succ, List.setIfInBounds_toArray, List.set_cons_zero, List.set_cons_succ]
  refine wpAnyH_ready (rs := [4]) (by kernel_rfl) (by simp) ?_
  refine AllReadyH.cons rfl (fun KQ hK => ?_) AllReadyH.nil
  go_simp
  refine (HEm.out _ (KL.out _ d0)).mono ?_
  rintro e y1 ⟨rfl, a1⟩
  have d1 := grow_trans d0 a1
  refine hK.out _ _ (HS.out _ d1) (fun hHeld => ?_)
  clear hK KQ
  refine wpAnyH_take (i := 5) (v := .bool true) rfl (by kernel_rfl) (by kernel_rfl) (by kernel_rfl) (fun _ _ _ h => h) (Or.inl ⟨by rfl, fun w hS => by go_simp⟩) hHeld ?_
  simp only [Act.put, List.getElem_toArray, List.getElem_cons_zero, List.getElem_cons_succ, List.setIfInBounds_toArray, List.set_cons_zero, List.set_cons_succ]
  refine wpAnyH_take (i := 6) (v := .bool true) rfl (by kernel_rfl) (by kernel_rfl) (by kernel_rfl) (fun _ _ _ h => h) (Or.inl ⟨by rfl, fun w hS => by go_simp⟩) hHeld ?_
  simp only [Act.put, List.getElem_toArray, List.getElem_cons_zero, List.getElem_cons_succ, List.setIfInBounds_toArray, List.set_cons_zero, List.set_cons_succ]
  refine wpAnyH_take (i := 7) (v := .bool true) rfl (by kernel_rfl) (by kernel_rfl) (by kernel_rfl) (fun _ _ _ h => h) (Or.inl ⟨by rfl, fun w hS => by go_simp⟩) hHeld ?_
  simp only [Act.put, List.getElem_toArray, List.getElem_cons_zero, List.getElem_cons_succ, List.setIfInBounds_toArray, List.set_cons_zero, List.set_cons_succ]
  refine wpAnyH_take (i := 8) (v := .agg (B E)) rfl (by kernel_rfl) (by kernel_rfl) (by kernel_rfl) (fun _ _ _ h => h) (yieldsIf_load_mid rfl 25 (.tmp 13) rfl g13 0 rfl (B E).toList _ (fun w hS => hS) Tryd.underlying25 rfl HEs2.out) hHeld ?_
  simp only [Act.put, List.getElem_toArray, List.getElem_cons_zero, List.getElem_cons_succ, List.setIfInBounds_toArray, List.set_cons_zero, List.set_cons_succ]
  refine wpAnyH_take (i := 9) (v := .agg (B z32)) rfl (by kernel_rfl) (by kernel_rfl) (by kernel_rfl) (fun _ _ _ h => h) (Or.inl ⟨by rfl, fun w hS => exec_bd _ _ 25 _ (by rfl) (B z32) (by rw [List.map_toArray]; exact HBh.out) w⟩) hHeld ?_
  simp only [Act.put, List.getElem_toArray, List.getElem_cons_zero, List.getElem_cons_succ, List.setIfInBounds_toArray, List.set_cons_zero, List.set_cons_succ]
  refine wpAnyH_take (i := 10) (v := .bool true) rfl (by kernel_rfl) (by kernel_rfl) (by kernel_rfl) (fun _ _ _ h => h) (Or.inl ⟨by rfl, fun w hS => by go_simp⟩) hHeld ?_
  simp only [Act.put, List.getElem_toArray, List.getElem_cons_zero, List.getElem_cons_succ, List.setIfInBounds_toArray, List.set_cons_zero, List.set_cons_succ]
  refine wpAnyH_take (i := 11) (v := .bool true) rfl (by kernel_rfl) (by kernel_rfl) (by kernel_rfl) (fun _ _ _ h => h) (Or.inl ⟨by rfl, fun w hS => by go_simp⟩) hHeld ?_
  simp only [Act.put, List.getElem_toArray, List.getElem_cons_zero, List.getElem_cons_succ, List.setIfInBounds_toArray, List.set_cons_zero, List.set_cons_succ]
  refine wpAnyH_take (i := 12) (v := .bool true) rfl (by kernel_rfl) (by kernel_rfl) (by kernel_rfl) (fun _ _ _ h => h) (Or.inl ⟨by rfl, fun w hS => by go_simp⟩) hHeld ?_
  simp only [Act.put, List.getElem_toArray, List.getElem_cons_zero, List.getElem_cons_succ, List.setIfInBounds_toArray, List.set_cons_zero, List.set_cons_succ]
  refine wpAnyH_done (by kernel_rfl) ?_ _
  go_wp2_with fail
  go_ret
  exact ⟨rfl, KW.out _ d1⟩

set_option maxHeartbeats 4000000 in
theorem back_no_ok (k : Int) (a b c d : List Int) (v : Value) (zs : List Int) (w : World) (h : Nd k a b c d) (hv : Reads w v zs) (hL : Laid w) (ho : okN k a b c d = false) (hd : dcE zs = 0) :
    Calls Tryd.prog 6 #[.agg (B (nd k a b c d)), v] w fun e w' => e = .returned (.bool true) ∧ Below w.heap.size w w' := by
  obtain ⟨fs, hu⟩ := u_node
  have HU := hidden hu
  have KV := hidden hv.kp
  have KW := hidden (below_kp w)
  have KL := hidden hL.kp
  have HF := hidden h.facts
  have hoE : okE k a b c d = 2 := by rw [okE, ho]; rfl
  have HC : Hid (∀ w', Calls Tryd.prog 15 #[.agg (B (nd k a b c d))] w' fun e w'' => e = .returned (.int .i64 2) ∧ Below w'.heap.size w' w'') := by
    intro w'
    have := check_any k a b c d w' h
    rwa [hoE] at this
  have HE : Hid (∀ w', Calls Tryd.prog 11 #[.agg (B (nd k a b c d))] w' fun e w'' => ∃ v sp, e = .returned (.tuple #[v, .int .i64 2]) ∧ Own w'.heap.size w'' v (txN k a b c d) sp ∧ Below w'.heap.size w' w'') := by
    intro w'
    have := encode_any k a b c d w' h
    unfold EncPost at this
    rwa [hoE] at this
  have HDb : Hid (∀ w', Reads w' v zs → Calls Tryd.prog 13 #[v] w' fun e w'' => e = .returned (.tuple #[.agg (B (dcN zs)), .int .i64 0]) ∧ Below w'.heap.size w' w'') := by
    intro w' hb
    have := decode_any v zs w' hb
    unfold DecPost at this
    rwa [hd] at this
  obtain ⟨k2, a2, b2, c2, d2, hn2, h2, ho2, ht2⟩ := enc_dec (by obtain ⟨_, _, _, _, _, hb, _⟩ := hv; exact hb) hd
  rw [hn2] at HDb
  have HF2 := hidden h2.facts
  have HE2 : Hid (∀ w', Calls Tryd.prog 11 #[.agg (B (nd k2 a2 b2 c2 d2))] w' fun e w'' => ∃ v sp, e = .returned (.tuple #[v, .int .i64 0]) ∧ Own w'.heap.size w'' v zs sp ∧ Below w'.heap.size w' w'') := by
    intro w'
    have := encode_any k2 a2 b2 c2 d2 w' h2
    unfold EncPost at this
    have e2 : okE k2 a2 b2 c2 d2 = 0 := by rw [okE, ho2]; rfl
    rwa [e2, ht2] at this
  have HSm : Hid (∀ w' x, Reads w' x zs → Reads w' v zs → Calls Tryd.prog 17 #[x, v] w' fun e w'' => e = .returned (.bool true) ∧ w'' = w') := by
    intro w' x hx hb
    have := same_any x v zs zs w' hx hb
    simpa using this
  have HNz2 : Hid ((B (List.replicate 129 0)).size = (B (nd k2 a2 b2 c2 d2)).size) := by show _ = _; rw [h2.size]; rfl
  obtain ⟨M, hM⟩ : ∃ M, M = nd k2 a2 b2 c2 d2 := ⟨_, rfl⟩
  rw [← hM] at HDb HF2 HE2 HNz2
  clear hn2 h2 ho2 ht2 hM
  obtain ⟨N, hN⟩ : ∃ N, N = nd k a b c d := ⟨_, rfl⟩
  obtain ⟨X, hX⟩ : ∃ X, X = txN k a b c d := ⟨_, rfl⟩
  rw [← hN] at HC HE HF ⊢
  rw [← hX] at HE
  obtain ⟨va, vc, rfl, _, _, _, _⟩ := hv
  clear h hu hL ho hd hoE hN hX
  go_enter Tryd.func6, Tryd.ntmps6
  go_wp2_with (first
    | ((with_reducible refine at_bxd 2 ?_); refine wpList_bx _ rfl _ _ rfl _ rfl ?_; intro x1 g2 hg1 hl1 bq1 q1; replace KV := hidden (KV.out.step q1); replace KW := hidden (KW.out.step q1); replace KL := hidden (KL.out.step q1); have KN := hidden bq1.kp; clear hg1 hl1 bq1 q1)
    | ((with_reducible refine at_ldd 18 2 ?_); refine wpList_lds _ rfl _ _ rfl g2 _ _ rfl KN.out.now HU.out HF.out.ln ?_)
    | ((with_reducible refine at_ldd 24 2 ?_); refine wpList_lds _ rfl _ _ rfl g2 _ _ rfl KN.out.now HU.out HF.out.ln ?_)
    | ((with_reducible refine at_ald 11 ?_); refine wpList_al _ rfl _ rfl _ zero_node ?_; intro x5 g11 hg11 hl5 bq5 q5; clear hl5)
    | ((with_reducible refine at_st 11 ?_); refine wpList_sto _ rfl _ _ _ rfl g11 _ (B M) rfl rfl bq5 HF2.out.ln HNz2.out (B_one _) ?_; intro x6 by6 r6; have q6 := below_row q5 r6 hg11; replace KV := hidden (KV.out.step q6); replace KW := hidden (KW.out.step q6); replace KL := hidden (KL.out.step q6); replace KN := hidden (KN.out.step q6); replace KT := hidden (KT.out.step q6); have K11 := hidden by6.kp; clear q6 q5 r6 by6 bq5 hg11)
    | ((with_reducible refine at_ldd 82 11 ?_); refine wpList_lds _ rfl _ _ rfl g11 _ _ rfl K11.out.now HU.out HF2.out.ln ?_)
    | (go_at_call 17; refine (HSm.out _ _ KU.out.now KV.out.now).mono ?_; rintro e x8 ⟨rfl, rfl⟩; have mk_frootcellarkitSameBytes_1 : Hid True := trivial)
    | (go_at_call 11; have mk := mk_fnodeEncode_1; clear mk; refine (HE2.out _).mono ?_; rintro e x7 ⟨u, su, rfl, hO, q7⟩; replace KV := hidden (KV.out.step q7); replace KW := hidden (KW.out.step q7); replace KL := hidden (KL.out.step q7); replace KN := hidden (KN.out.step q7); replace KT := hidden (KT.out.step q7); replace K11 := hidden (K11.out.step q7); have KU := hidden hO.reads.kp; obtain ⟨ua, uc, rfl⟩ := hO.slice; clear hO; have mk_fnodeEncode_2 : Hid True := trivial; clear q7)
    | (go_at_call 13; refine (HDb.out _ KV.out.now).mono ?_; rintro e x4 ⟨rfl, q4⟩; replace KV := hidden (KV.out.step q4); replace KW := hidden (KW.out.step q4); replace KL := hidden (KL.out.step q4); replace KN := hidden (KN.out.step q4); replace KT := hidden (KT.out.step q4); have mk_fnodeDecode_1 : Hid True := trivial; clear q4)
    | (go_at_call 15; refine (HC.out _).mono ?_; rintro e x3 ⟨rfl, q3⟩; replace KV := hidden (KV.out.step q3); replace KW := hidden (KW.out.step q3); replace KL := hidden (KL.out.step q3); replace KN := hidden (KN.out.step q3); replace KT := hidden (KT.out.step q3); have mk_fnodeCheck_1 : Hid True := trivial; clear q3)
    | (go_at_call 11; refine (HE.out _).mono ?_; rintro e x2 ⟨t, sp, rfl, hO, q2⟩; replace KV := hidden (KV.out.step q2); replace KW := hidden (KW.out.step q2); replace KL := hidden (KL.out.step q2); replace KN := hidden (KN.out.step q2); have KT := hidden hO.reads.kp; obtain ⟨ta, tc, rfl⟩ := hO.slice; clear hO; have mk_fnodeEncode_1 : Hid True := trivial; clear q2))
  go_ret
  exact ⟨rfl, KW.out.now⟩

set_option maxHeartbeats 4000000 in
theorem back_no_no (k : Int) (a b c d : List Int) (v : Value) (zs : List Int) (w : World) (h : Nd k a b c d) (hv : Reads w v zs) (hL : Laid w) (ho : okN k a b c d = false) (hd : dcE zs = 10) :
    Calls Tryd.prog 6 #[.agg (B (nd k a b c d)), v] w fun e w' => e = .returned (.bool true) ∧ Below w.heap.size w w' := by
  obtain ⟨fs, hu⟩ := u_node
  have HU := hidden hu
  have KV := hidden hv.kp
  have KW := hidden (below_kp w)
  have KL := hidden hL.kp
  have HF := hidden h.facts
  have hoE : okE k a b c d = 2 := by rw [okE, ho]; rfl
  have HC : Hid (∀ w', Calls Tryd.prog 15 #[.agg (B (nd k a b c d))] w' fun e w'' => e = .returned (.int .i64 2) ∧ Below w'.heap.size w' w'') := by
    intro w'
    have := check_any k a b c d w' h
    rwa [hoE] at this
  have HE : Hid (∀ w', Calls Tryd.prog 11 #[.agg (B (nd k a b c d))] w' fun e w'' => ∃ v sp, e = .returned (.tuple #[v, .int .i64 2]) ∧ Own w'.heap.size w'' v (txN k a b c d) sp ∧ Below w'.heap.size w' w'') := by
    intro w'
    have := encode_any k a b c d w' h
    unfold EncPost at this
    rwa [hoE] at this
  have HDb : Hid (∀ w', Reads w' v zs → Calls Tryd.prog 13 #[v] w' fun e w'' => e = .returned (.tuple #[.agg (B (dcN zs)), .int .i64 10]) ∧ Below w'.heap.size w' w'') := by
    intro w' hb
    have := decode_any v zs w' hb
    unfold DecPost at this
    rwa [hd] at this
  obtain ⟨k2, a2, b2, c2, d2, hn2, h2⟩ := dc_nd zs (by obtain ⟨_, _, _, _, _, hb, _⟩ := hv; exact hb)
  rw [hn2] at HDb
  have HF2 := hidden h2.facts
  have HNz2 : Hid ((B (List.replicate 129 0)).size = (B (nd k2 a2 b2 c2 d2)).size) := by show _ = _; rw [h2.size]; rfl
  obtain ⟨M, hM⟩ : ∃ M, M = nd k2 a2 b2 c2 d2 := ⟨_, rfl⟩
  rw [← hM] at HDb HF2 HNz2
  obtain ⟨E, hE⟩ : ∃ E, E = dig [0] := ⟨_, rfl⟩
  have hEl : E.length = 32 := by rw [hE, dig_length]
  have hoz : okN 0 z32 z32 z32 z32 = true := by simp [okN]
  have HGz : Hid (∀ w', Laid w' → Calls Tryd.prog 9 #[.agg (B (nd 0 z32 z32 z32 z32))] w' fun e w'' => e = .returned (.tuple #[.agg (B E), .int .i64 0]) ∧ Below w'.heap.size w' w'') := by
    intro w' hl
    have := digest_any 0 z32 z32 z32 z32 w' z_nd hl
    unfold DigNPost at this
    have e1 : okE 0 z32 z32 z32 z32 = 0 := by rw [okE, hoz]; rfl
    have e2 : dgN 0 z32 z32 z32 z32 = E := by rw [dgN, if_pos hoz, txN, if_pos hoz, hE]; rfl
    rwa [e1, e2] at this
  have HEm : Hid (∀ w', Laid w' → Calls Tryd.prog 34 #[] w' fun e w'' => e = .returned (.agg (B E)) ∧ Below w'.heap.size w' w'') := by
    intro w' hl
    rw [hE]
    exact empty_any w' hl
  have hEqE : ∀ w, (Op.equalIn 10000 25 (.agg (B E)) (.agg (B E))).run Tryd.prog w = .ok true w := fun w => by have := hash_eq E E hEl hEl w; simpa using this
  have hEqZ : ∀ w, (Op.equalIn 10000 25 (.agg (B E)) (.agg (B z32))).run Tryd.prog w = .ok false w := fun w => by
    have := hash_eq E z32 hEl rfl w
    rwa [decide_eq_false (by rw [hE]; exact em_ne)] at this
  have HEs : Hid ((Tryd.prog.info? 25).map (·.size) = some (B E).size) := by show _ = _; rw [B_size, hEl]; exact sz_hash
  have HEs2 : Hid ((Tryd.prog.info? 25).map (·.size) = some (B E).toList.length) := by show _ = _; rw [Array.length_toList, B_size, hEl]; exact sz_hash
  have HEz : Hid ((B (List.replicate 32 0)).size = (B E).size) := by show _ = _; rw [B_size, B_size, hEl]; rfl
  have HB0 : Hid (Tryd.prog.built 27 [] = some (B (nd 0 z32 z32 z32 z32))) := built_empty
  have HBh : Hid (Tryd.prog.built 25 [] = some (B z32)) := built_hash
  obtain ⟨Z, hZ⟩ : ∃ Z, Z = nd 0 z32 z32 z32 z32 := ⟨_, rfl⟩
  rw [← hZ] at HGz HB0
  clear hn2 h2 hM hE hEl hoz hZ
  obtain ⟨N, hN⟩ : ∃ N, N = nd k a b c d := ⟨_, rfl⟩
  obtain ⟨X, hX⟩ : ∃ X, X = txN k a b c d := ⟨_, rfl⟩
  rw [← hN] at HC HE HF ⊢
  rw [← hX] at HE
  obtain ⟨va, vc, rfl, _, _, _, _⟩ := hv
  clear h hu hL ho hd hoE hN hX
  go_enter Tryd.func6, Tryd.ntmps6
  go_wp2_with (first
    | ((with_reducible refine at_bxd 2 ?_); refine wpList_bx _ rfl _ _ rfl _ rfl ?_; intro x1 g2 hg1 hl1 bq1 q1; replace KV := hidden (KV.out.step q1); replace KW := hidden (KW.out.step q1); replace KL := hidden (KL.out.step q1); have KN := hidden bq1.kp; clear hg1 hl1 bq1 q1)
    | ((with_reducible refine at_ldd 18 2 ?_); refine wpList_lds _ rfl _ _ rfl g2 _ _ rfl KN.out.now HU.out HF.out.ln ?_)
    | ((with_reducible refine at_ldd 24 2 ?_); refine wpList_lds _ rfl _ _ rfl g2 _ _ rfl KN.out.now HU.out HF.out.ln ?_)
    | ((with_reducible refine at_ald 11 ?_); refine wpList_al _ rfl _ rfl _ zero_node ?_; intro x5 g11 hg11 hl5 bq5 q5; clear hl5)
    | ((with_reducible refine at_st 11 ?_); refine wpList_sto _ rfl _ _ _ rfl g11 _ (B M) rfl rfl bq5 HF2.out.ln HNz2.out (B_one _) ?_; intro x6 by6 r6; have q6 := below_row q5 r6 hg11; replace KV := hidden (KV.out.step q6); replace KW := hidden (KW.out.step q6); replace KL := hidden (KL.out.step q6); replace KN := hidden (KN.out.step q6); replace KT := hidden (KT.out.step q6); have K11 := hidden by6.kp; clear q6 q5 r6 by6 bq5 hg11)
    | ((with_reducible refine at_bdd 65 ?_); refine wpList_bld _ rfl _ _ rfl _ (by rw [List.map_toArray]; exact HB0.out) ?_)
    | ((with_reducible refine at_ald 13 ?_); refine wpList_al _ rfl _ rfl _ zero_hash ?_; intro x8 g13 hg13 hl8 bq8 q8; clear hl8)
    | ((with_reducible refine at_st 13 ?_); refine wpList_sto _ rfl _ _ _ rfl g13 _ (B E) rfl rfl bq8 HEs.out HEz.out (B_one _) ?_; intro x9 by9 r9; have q9 := below_row q8 r9 hg13; replace KV := hidden (KV.out.step q9); replace KW := hidden (KW.out.step q9); replace KL := hidden (KL.out.step q9); replace KN := hidden (KN.out.step q9); replace KT := hidden (KT.out.step q9); replace K11 := hidden (K11.out.step q9); have K13 := hidden by9.kp; clear q9 q8 r9 by9 bq8 hg13)
    | (go_at_call 9; refine (HGz.out _ KL.out.now).mono ?_; rintro e x7 ⟨rfl, q7⟩; replace KV := hidden (KV.out.step q7); replace KW := hidden (KW.out.step q7); replace KL := hidden (KL.out.step q7); replace KN := hidden (KN.out.step q7); replace KT := hidden (KT.out.step q7); replace K11 := hidden (K11.out.step q7); have mk_fnodeDigest_1 : Hid True := trivial; clear q7)
    | (go_at_call 13; refine (HDb.out _ KV.out.now).mono ?_; rintro e x4 ⟨rfl, q4⟩; replace KV := hidden (KV.out.step q4); replace KW := hidden (KW.out.step q4); replace KL := hidden (KL.out.step q4); replace KN := hidden (KN.out.step q4); replace KT := hidden (KT.out.step q4); have mk_fnodeDecode_1 : Hid True := trivial; clear q4)
    | (go_at_call 15; refine (HC.out _).mono ?_; rintro e x3 ⟨rfl, q3⟩; replace KV := hidden (KV.out.step q3); replace KW := hidden (KW.out.step q3); replace KL := hidden (KL.out.step q3); replace KN := hidden (KN.out.step q3); replace KT := hidden (KT.out.step q3); have mk_fnodeCheck_1 : Hid True := trivial; clear q3)
    | (go_at_call 11; refine (HE.out _).mono ?_; rintro e x2 ⟨t, sp, rfl, hO, q2⟩; replace KV := hidden (KV.out.step q2); replace KW := hidden (KW.out.step q2); replace KL := hidden (KL.out.step q2); replace KN := hidden (KN.out.step q2); have KT := hidden hO.reads.kp; obtain ⟨ta, tc, rfl⟩ := hO.slice; clear hO; have mk_fnodeEncode_1 : Hid True := trivial; clear q2))
  have HS : Hid (∀ w', Below x9.heap.size x9 w' → w'.rangeAt g13 0 (B E).toList) := fun w' hw' => (K13.out w' hw').range
  have d0 : Below x9.heap.size x9 x9.drew := (Below.refl _ _).drew
  refine wp_region_held_drew (S := fun w' => w'.rangeAt g13 0 (B E).toList) (by kernel_rfl) (HS.out _ d0) (fun hHeld => ?_)
  refine wpAnyH_take (i := 0) (v := .int .i64 0) rfl (by kernel_rfl) (by kernel_rfl) (by kernel_rfl) (fun _ _ _ h => h) (Or.inl ⟨by rfl, fun w hS => by go_simp⟩) hHeld ?_
  simp only [Act.put, List.getElem_toArray, List.getElem_cons_zero, List.setIfInBounds_toArray, List.set_cons_zero, List.set_cons_succ]
  refine wpAnyH_take (i := 1) (v := .bool true) rfl (by kernel_rfl) (by kernel_rfl) (by kernel_rfl) (fun _ _ _ h => h) (Or.inl ⟨by rfl, fun w hS => by go_simp⟩) hHeld ?_
  simp only [Act.put, List.getElem_toArray, List.getElem_cons_zero, List.getElem_cons_succ, List.setIfInBounds_toArray, List.set_cons_zero, List.set_cons_succ]
  refine wpAnyH_take (i := 2) (v := .bool true) rfl (by kernel_rfl) (by kernel_rfl) (by kernel_rfl) (fun _ _ _ h => h) (Or.inl ⟨by rfl, fun w hS => by go_simp⟩) hHeld ?_
  simp only [Act.put, List.getElem_toArray, List.getElem_cons_zero, List.getElem_cons_succ, List.setIfInBounds_toArray, List.set_cons_zero, List.set_cons_succ]
  refine wpAnyH_take (i := 3) (v := .agg (B E)) rfl (by kernel_rfl) (by kernel_rfl) (by kernel_rfl) (fun _ _ _ h => h) (yieldsIf_load_mid rfl 25 (.tmp 13) rfl g13 0 rfl (B E).toList _ (fun w hS => hS) Tryd.underlying25 rfl HEs2.out) hHeld ?_
  simp only [Act.put, List.getElem_toArray, List.getElem_cons_zero, List.getElem_cons_succ, List.setIfInBounds_toArray, List.set_cons_zero, List.set_cons_succ]
  refine wpAnyH_ready (rs := [4]) (by kernel_rfl) (by simp) ?_
  refine AllReadyH.cons rfl (fun KQ hK => ?_) AllReadyH.nil
  go_simp
  refine (HEm.out _ (KL.out _ d0)).mono ?_
  rintro e y1 ⟨rfl, a1⟩
  have d1 := grow_trans d0 a1
  refine hK.out _ _ (HS.out _ d1) (fun hHeld => ?_)
  clear hK KQ
  refine wpAnyH_take (i := 5) (v := .bool true) rfl (by kernel_rfl) (by kernel_rfl) (by kernel_rfl) (fun _ _ _ h => h) (Or.inl ⟨by rfl, fun w hS => by go_simp⟩) hHeld ?_
  simp only [Act.put, List.getElem_toArray, List.getElem_cons_zero, List.getElem_cons_succ, List.setIfInBounds_toArray, List.set_cons_zero, List.set_cons_succ]
  refine wpAnyH_take (i := 6) (v := .bool true) rfl (by kernel_rfl) (by kernel_rfl) (by kernel_rfl) (fun _ _ _ h => h) (Or.inl ⟨by rfl, fun w hS => by go_simp⟩) hHeld ?_
  simp only [Act.put, List.getElem_toArray, List.getElem_cons_zero, List.getElem_cons_succ, List.setIfInBounds_toArray, List.set_cons_zero, List.set_cons_succ]
  refine wpAnyH_take (i := 7) (v := .bool true) rfl (by kernel_rfl) (by kernel_rfl) (by kernel_rfl) (fun _ _ _ h => h) (Or.inl ⟨by rfl, fun w hS => by go_simp⟩) hHeld ?_
  simp only [Act.put, List.getElem_toArray, List.getElem_cons_zero, List.getElem_cons_succ, List.setIfInBounds_toArray, List.set_cons_zero, List.set_cons_succ]
  refine wpAnyH_take (i := 8) (v := .agg (B E)) rfl (by kernel_rfl) (by kernel_rfl) (by kernel_rfl) (fun _ _ _ h => h) (yieldsIf_load_mid rfl 25 (.tmp 13) rfl g13 0 rfl (B E).toList _ (fun w hS => hS) Tryd.underlying25 rfl HEs2.out) hHeld ?_
  simp only [Act.put, List.getElem_toArray, List.getElem_cons_zero, List.getElem_cons_succ, List.setIfInBounds_toArray, List.set_cons_zero, List.set_cons_succ]
  refine wpAnyH_take (i := 9) (v := .agg (B z32)) rfl (by kernel_rfl) (by kernel_rfl) (by kernel_rfl) (fun _ _ _ h => h) (Or.inl ⟨by rfl, fun w hS => exec_bd _ _ 25 _ (by rfl) (B z32) (by rw [List.map_toArray]; exact HBh.out) w⟩) hHeld ?_
  simp only [Act.put, List.getElem_toArray, List.getElem_cons_zero, List.getElem_cons_succ, List.setIfInBounds_toArray, List.set_cons_zero, List.set_cons_succ]
  refine wpAnyH_take (i := 10) (v := .bool true) rfl (by kernel_rfl) (by kernel_rfl) (by kernel_rfl) (fun _ _ _ h => h) (Or.inl ⟨by rfl, fun w hS => by go_simp⟩) hHeld ?_
  simp only [Act.put, List.getElem_toArray, List.getElem_cons_zero, List.getElem_cons_succ, List.setIfInBounds_toArray, List.set_cons_zero, List.set_cons_succ]
  refine wpAnyH_take (i := 11) (v := .bool true) rfl (by kernel_rfl) (by kernel_rfl) (by kernel_rfl) (fun _ _ _ h => h) (Or.inl ⟨by rfl, fun w hS => by go_simp⟩) hHeld ?_
  simp only [Act.put, List.getElem_toArray, List.getElem_cons_zero, List.getElem_cons_succ, List.setIfInBounds_toArray, List.set_cons_zero, List.set_cons_succ]
  refine wpAnyH_take (i := 12) (v := .bool true) rfl (by kernel_rfl) (by kernel_rfl) (by kernel_rfl) (fun _ _ _ h => h) (Or.inl ⟨by rfl, fun w hS => by go_simp⟩) hHeld ?_
  simp only [Act.put, List.getElem_toArray, List.getElem_cons_zero, List.getElem_cons_succ, List.setIfInBounds_toArray, List.set_cons_zero, List.set_cons_succ]
  refine wpAnyH_done (by kernel_rfl) ?_ _
  go_wp2_with fail
  go_ret
  exact ⟨rfl, KW.out _ d1⟩

theorem nodeBack_walk (k : Int) (a b c d : List Int) (v : Value) (zs : List Int) (w : World) (h : Nd k a b c d) (hv : Reads w v zs) (hL : Laid w) :
    Calls Tryd.prog 6 #[.agg (B (nd k a b c d)), v] w fun e w' => e = .returned (.bool true) ∧ Below w.heap.size w w' := by
  cases ho : okN k a b c d with
  | true =>
    rcases dcE_cases zs with hd | hd
    · exact back_ok_ok k a b c d v zs w h hv hL ho hd
    · exact back_ok_no k a b c d v zs w h hv hL ho hd
  | false =>
    rcases dcE_cases zs with hd | hd
    · exact back_no_ok k a b c d v zs w h hv hL ho hd
    · exact back_no_no k a b c d v zs w h hv hL ho hd

end Go.Proofs.YtjcklpdifanjlaaDoor
