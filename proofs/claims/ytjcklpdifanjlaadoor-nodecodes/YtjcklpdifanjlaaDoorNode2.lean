/- node.Encode, node.Digest, as contracts. -/
import Derived.Test.YtjcklpdifanjlaaDoorNode1
import Derived.Test.YtjcklpdifanjlaaDoorTagNew
import Derived.Test.YtjcklpdifanjlaaDoorTagOf
namespace Go.Proofs.YtjcklpdifanjlaaDoor
set_option maxRecDepth 20000
open Go.RowKit

/-- What a walk asks of a node in a block. -/
structure NdF (N : List Int) (k : Int) (a b c d : List Int) : Prop where
  kd : ∀ w g t, Blk w g t (B N) → w.cell? ⟨g, 0, none⟩ = some (.int .u8 k)
  sa : Seg N 1 a
  sb : Seg N 33 b
  sc : Seg N 65 c
  sd : Seg N 97 d
  la : (Tryd.prog.info? 24).map (·.size) = some a.length
  lb : (Tryd.prog.info? 25).map (·.size) = some b.length
  lc : (Tryd.prog.info? 25).map (·.size) = some c.length
  ld : (Tryd.prog.info? 25).map (·.size) = some d.length
  ln : (Tryd.prog.info? 27).map (·.size) = some (B N).size
  ll : (Tryd.prog.info? 27).map (·.size) = some (B N).toList.length

theorem Nd.facts {k : Int} {a b c d : List Int} (h : Nd k a b c d) : NdF (nd k a b c d) k a b c d :=
  ⟨fun _ _ _ q => Nd.kind q, h.segA, h.segB, h.segC, h.segD, by rw [h.la]; exact sz_path, by rw [h.lb]; exact sz_hash, by rw [h.lc]; exact sz_hash, by rw [h.ld]; exact sz_hash, by rw [h.size]; exact size_node, by rw [Array.length_toList, h.size]; exact size_node⟩

/-- A node's text; nothing of one that may not be. -/
def txN (k : Int) (a b c d : List Int) : List Int := if okN k a b c d = true then (if k = 1 then 1 :: (a ++ b) else if k = 2 then 2 :: (c ++ d) else [0]) else []
def dgN (k : Int) (a b c d : List Int) : List Int := if okN k a b c d = true then dig (txN k a b c d) else z32

def EncPost (k : Int) (a b c d : List Int) (w : World) (e : Ending) (w' : World) : Prop :=
  ∃ v sp, e = .returned (.tuple #[v, .int .i64 (okE k a b c d)]) ∧ Own w.heap.size w' v (txN k a b c d) sp ∧ Below w.heap.size w w'
def DigNPost (k : Int) (a b c d : List Int) (w : World) (e : Ending) (w' : World) : Prop :=
  e = .returned (.tuple #[.agg (B (dgN k a b c d)), .int .i64 (okE k a b c d)]) ∧ Below w.heap.size w w'

theorem Own.later {b b' : Nat} {w : World} {v : Value} {zs sp : List Int} (h : Own b w v zs sp) (hb : b' ≤ b) : Own b' w v zs sp := by
  obtain ⟨h1, h2, h3, h4⟩ := h
  refine ⟨h1, h2, h3, ?_⟩
  rcases h4 with h4 | ⟨g, hid, hg, h5⟩
  · exact .inl h4
  · exact .inr ⟨g, hid, Nat.le_trans hb hg, h5⟩

set_option maxHeartbeats 2000000 in
theorem encode_any (k : Int) (a b c d : List Int) (w : World) (h : Nd k a b c d) : Calls Tryd.prog 11 #[.agg (B (nd k a b c d))] w (EncPost k a b c d w) := by
  obtain ⟨fs, hu⟩ := u_node
  have HU := hidden hu
  have HF := hidden h.facts
  have HC : Hid (∀ w', Calls Tryd.prog 15 #[.agg (B (nd k a b c d))] w' fun e w'' => e = .returned (.int .i64 (okE k a b c d)) ∧ Below w'.heap.size w' w'') := fun w' => check_any k a b c d w' h
  obtain ⟨N, hN⟩ : ∃ N, N = nd k a b c d := ⟨_, rfl⟩
  rw [← hN] at HF HC ⊢
  by_cases hok : okN k a b c d = true
  · have hoE : okE k a b c d = 0 := by rw [okE, if_pos hok]
    rw [hoE] at HC
    by_cases hk1 : k = 1
    · have HT : Hid (∀ w', Calls Tryd.prog 41 #[.agg (B a), .agg (B b)] w' (TxtPost (1 :: (a ++ b)) 65 w')) := fun w' => leafText_new a b w' h.la h.lb h.ba h.bb
      have HX : Hid (∀ w' v sp, Own w.heap.size w' v (1 :: (a ++ b)) sp → Below w.heap.size w w' → EncPost k a b c d w (.returned (.tuple #[v, .int .i64 0])) w') := fun w' v sp ho hb => ⟨v, sp, by rw [hoE], by rw [txN, if_pos hok, if_pos hk1]; exact ho, hb⟩
      have q1 : (k == 1) = true := by simp [hk1]
      clear h hu hN hk1 hok hoE
      go_enter Tryd.func11, Tryd.ntmps11
      go_wp2_with (first
        | ((with_reducible refine at_bx ?_); refine wpList_bx _ rfl _ _ rfl _ rfl ?_; intro w1 g1 hg1 hl1 B1 b1)
        | ((with_reducible refine at_ld 1 ?_); refine wpList_lds _ rfl _ _ rfl g1 _ _ rfl B1 HU.out HF.out.ln ?_)
        | (go_at_call 15; refine (HC.out _).mono ?_; rintro e w2 ⟨rfl, b2⟩; have B2 := B1.grow b2; have ck := HF.out.kd _ _ _ B2)
        | ((with_reducible refine at_ld 14 ?_); refine wpList_ldm _ rfl _ _ rfl g1 1 _ _ a rfl B2 HF.out.sa _ _ Tryd.underlying24 HF.out.la ?_)
        | ((with_reducible refine at_ld 16 ?_); refine wpList_ldm _ rfl _ _ rfl g1 33 _ _ b rfl B2 HF.out.sb _ _ Tryd.underlying25 HF.out.lb ?_)
        | (go_at_call 41; refine (HT.out _).mono ?_; rintro e w3 ⟨g, c3, sp, rfl, hgl, hgg, hO, b3⟩))
      go_ret2
      have c2 := grow_trans b1 b2
      exact HX.out _ _ _ (hO.later c2.size) (grow_trans c2 b3)
    · have q1 : (k == 1) = false := by simp [hk1]
      by_cases hk2 : k = 2
      · have HT : Hid (∀ w', Calls Tryd.prog 42 #[.agg (B c), .agg (B d)] w' (TxtPost (2 :: (c ++ d)) 65 w')) := fun w' => innerText_new c d w' h.lc h.ld h.bc h.bd
        have HX : Hid (∀ w' v sp, Own w.heap.size w' v (2 :: (c ++ d)) sp → Below w.heap.size w w' → EncPost k a b c d w (.returned (.tuple #[v, .int .i64 0])) w') := fun w' v sp ho hb => ⟨v, sp, by rw [hoE], by rw [txN, if_pos hok, if_neg hk1, if_pos hk2]; exact ho, hb⟩
        have q2 : (k == 2) = true := by simp [hk2]
        clear h hu hN hk1 hk2 hok hoE
        go_enter Tryd.func11, Tryd.ntmps11
        go_wp2_with (first
          | ((with_reducible refine at_bx ?_); refine wpList_bx _ rfl _ _ rfl _ rfl ?_; intro w1 g1 hg1 hl1 B1 b1)
          | ((with_reducible refine at_ld 1 ?_); refine wpList_lds _ rfl _ _ rfl g1 _ _ rfl B1 HU.out HF.out.ln ?_)
          | (go_at_call 15; refine (HC.out _).mono ?_; rintro e w2 ⟨rfl, b2⟩; have B2 := B1.grow b2; have ck := HF.out.kd _ _ _ B2)
          | ((with_reducible refine at_ld 21 ?_); refine wpList_ldm _ rfl _ _ rfl g1 65 _ _ c rfl B2 HF.out.sc _ _ Tryd.underlying25 HF.out.lc ?_)
          | ((with_reducible refine at_ld 23 ?_); refine wpList_ldm _ rfl _ _ rfl g1 97 _ _ d rfl B2 HF.out.sd _ _ Tryd.underlying25 HF.out.ld ?_)
          | (go_at_call 42; refine (HT.out _).mono ?_; rintro e w3 ⟨g, c3, sp, rfl, hgl, hgg, hO, b3⟩))
        go_ret2
        have c2 := grow_trans b1 b2
        exact HX.out _ _ _ (hO.later c2.size) (grow_trans c2 b3)
      · have HT : Hid (∀ w', Calls Tryd.prog 43 #[] w' (TxtPost [0] 1 w')) := fun w' => emptyText_new w'
        have HX : Hid (∀ w' v sp, Own w.heap.size w' v [0] sp → Below w.heap.size w w' → EncPost k a b c d w (.returned (.tuple #[v, .int .i64 0])) w') := fun w' v sp ho hb => ⟨v, sp, by rw [hoE], by rw [txN, if_pos hok, if_neg hk1, if_neg hk2]; exact ho, hb⟩
        have q2 : (k == 2) = false := by simp [hk2]
        clear h hu hN hk1 hk2 hok hoE
        go_enter Tryd.func11, Tryd.ntmps11
        go_wp2_with (first
          | ((with_reducible refine at_bx ?_); refine wpList_bx _ rfl _ _ rfl _ rfl ?_; intro w1 g1 hg1 hl1 B1 b1)
          | ((with_reducible refine at_ld 1 ?_); refine wpList_lds _ rfl _ _ rfl g1 _ _ rfl B1 HU.out HF.out.ln ?_)
          | (go_at_call 15; refine (HC.out _).mono ?_; rintro e w2 ⟨rfl, b2⟩; have B2 := B1.grow b2; have ck := HF.out.kd _ _ _ B2)
          | (go_at_call 43; refine (HT.out _).mono ?_; rintro e w3 ⟨g, c3, sp, rfl, hgl, hgg, hO, b3⟩))
        go_ret2
        have c2 := grow_trans b1 b2
        exact HX.out _ _ _ (hO.later c2.size) (grow_trans c2 b3)
  · have hoE : okE k a b c d = 2 := by rw [okE, if_neg hok]
    rw [hoE] at HC
    have HX : Hid (∀ w', Below w.heap.size w w' → EncPost k a b c d w (.returned (.tuple #[.slice none 0 0, .int .i64 2])) w') := fun w' hb => ⟨_, [], by rw [hoE], by rw [txN, if_neg hok]; exact Own.nil _ _, hb⟩
    clear h hu hN hok hoE
    go_enter Tryd.func11, Tryd.ntmps11
    go_wp2_with (first
      | ((with_reducible refine at_bx ?_); refine wpList_bx _ rfl _ _ rfl _ rfl ?_; intro w1 g1 hg1 hl1 B1 b1)
      | ((with_reducible refine at_ld 1 ?_); refine wpList_lds _ rfl _ _ rfl g1 _ _ rfl B1 HU.out HF.out.ln ?_)
      | (go_at_call 15; refine (HC.out _).mono ?_; rintro e w2 ⟨rfl, b2⟩))
    go_ret2
    exact HX.out _ (grow_trans b1 b2)

theorem z32_hash : B z32 = B (List.replicate 32 0) := rfl

theorem built_hash : Tryd.prog.built 25 [] = some (B z32) := by kernel_rfl

set_option maxHeartbeats 2000000 in
theorem digest_any (k : Int) (a b c d : List Int) (w : World) (h : Nd k a b c d) (hL : Laid w) : Calls Tryd.prog 9 #[.agg (B (nd k a b c d))] w (DigNPost k a b c d w) := by
  obtain ⟨fs, hu⟩ := u_node
  have HU := hidden hu
  have HL := hidden hL
  have HF := hidden h.facts
  have HC : Hid (∀ w', Calls Tryd.prog 15 #[.agg (B (nd k a b c d))] w' fun e w'' => e = .returned (.int .i64 (okE k a b c d)) ∧ Below w'.heap.size w' w'') := fun w' => check_any k a b c d w' h
  obtain ⟨N, hN⟩ : ∃ N, N = nd k a b c d := ⟨_, rfl⟩
  rw [← hN] at HF HC ⊢
  by_cases hok : okN k a b c d = true
  · have hoE : okE k a b c d = 0 := by rw [okE, if_pos hok]
    rw [hoE] at HC
    obtain ⟨D, hD⟩ : ∃ D, D = dgN k a b c d := ⟨_, rfl⟩
    have HSZ : Hid ((Tryd.prog.info? 25).map (·.size) = some (B D).size) := by show _ = _; rw [B_size, hD, dgN, if_pos hok, dig_length]; exact sz_hash
    have HS2 : Hid ((B (List.replicate 32 0)).size = (B D).size) := by show _ = _; rw [B_size, B_size, hD, dgN, if_pos hok, dig_length]; rfl
    have HX : Hid (∀ w', Below w.heap.size w w' → DigNPost k a b c d w (.returned (.tuple #[.agg (B D), .int .i64 0])) w') := fun w' hb => ⟨by rw [hD, hoE], hb⟩
    by_cases hk1 : k = 1
    · have HT : Hid (∀ w', Laid w' → Calls Tryd.prog 39 #[.agg (B a), .agg (B b)] w' fun e w'' => e = .returned (.agg (B D)) ∧ Below w'.heap.size w' w'') := by
        intro w' hl
        rw [hD, dgN, if_pos hok, txN, if_pos hok, if_pos hk1]
        exact leaf_any a b w' h.la h.lb h.ba h.bb hl
      have q1 : (k == 1) = true := by simp [hk1]
      clear h hu hN hk1 hok hoE hD hL
      go_enter Tryd.func9, Tryd.ntmps9
      go_wp2_with (first
        | ((with_reducible refine at_bx ?_); refine wpList_bx _ rfl _ _ rfl _ rfl ?_; intro w1 g1 hg1 hl1 B1 b1)
        | ((with_reducible refine at_al ?_); refine wpList_al _ rfl _ rfl _ zero_hash ?_; intro w0 g0 hg0 hl0 B0 b0; have B1' := B1.grow b0; have c1 := grow_trans b1 b0)
        | ((with_reducible refine at_ld 1 ?_); refine wpList_lds _ rfl _ _ rfl g1 _ _ rfl B1' HU.out HF.out.ln ?_)
        | (go_at_call 15; refine (HC.out _).mono ?_; rintro e w2 ⟨rfl, b2⟩; have B2 := B1'.grow b2; have ck := HF.out.kd _ _ _ B2; have c2 := grow_trans c1 b2)
        | ((with_reducible refine at_ld 15 ?_); refine wpList_ldm _ rfl _ _ rfl g1 1 _ _ a rfl B2 HF.out.sa _ _ Tryd.underlying24 HF.out.la ?_)
        | ((with_reducible refine at_ld 17 ?_); refine wpList_ldm _ rfl _ _ rfl g1 33 _ _ b rfl B2 HF.out.sb _ _ Tryd.underlying25 HF.out.lb ?_)
        | (go_at_call 39; refine (HT.out _ (HL.out.grow c2)).mono ?_; rintro e w3 ⟨rfl, b3⟩; have B3 := (B0.grow b2).grow b3)
        | ((with_reducible refine at_st 2 ?_); refine wpList_sto _ rfl _ _ _ rfl g0 _ _ rfl rfl B3 HSZ.out HS2.out (B_one _) ?_; intro w4 B4 g4))
      exact bodyPost_ret (v := .tuple #[.agg (B D), .int .i64 0]) (results_row_tmp rfl _ _ g0 _ _ _ _ rfl rfl B4 Tryd.underlying25 HSZ.out) rfl (HX.out _ (below_row (grow_trans c2 b3) g4 (Nat.le_trans b1.size hg0)))
    · have q1 : (k == 1) = false := by simp [hk1]
      by_cases hk2 : k = 2
      · have HT : Hid (∀ w', Laid w' → Calls Tryd.prog 38 #[.agg (B c), .agg (B d)] w' fun e w'' => e = .returned (.agg (B D)) ∧ Below w'.heap.size w' w'') := by
          intro w' hl
          rw [hD, dgN, if_pos hok, txN, if_pos hok, if_neg hk1, if_pos hk2]
          exact inner_any c d w' h.lc h.ld h.bc h.bd hl
        have q2 : (k == 2) = true := by simp [hk2]
        clear h hu hN hk1 hk2 hok hoE hD hL
        go_enter Tryd.func9, Tryd.ntmps9
        go_wp2_with (first
          | ((with_reducible refine at_bx ?_); refine wpList_bx _ rfl _ _ rfl _ rfl ?_; intro w1 g1 hg1 hl1 B1 b1)
          | ((with_reducible refine at_al ?_); refine wpList_al _ rfl _ rfl _ zero_hash ?_; intro w0 g0 hg0 hl0 B0 b0; have B1' := B1.grow b0; have c1 := grow_trans b1 b0)
          | ((with_reducible refine at_ld 1 ?_); refine wpList_lds _ rfl _ _ rfl g1 _ _ rfl B1' HU.out HF.out.ln ?_)
          | (go_at_call 15; refine (HC.out _).mono ?_; rintro e w2 ⟨rfl, b2⟩; have B2 := B1'.grow b2; have ck := HF.out.kd _ _ _ B2; have c2 := grow_trans c1 b2)
          | ((with_reducible refine at_ld 22 ?_); refine wpList_ldm _ rfl _ _ rfl g1 65 _ _ c rfl B2 HF.out.sc _ _ Tryd.underlying25 HF.out.lc ?_)
          | ((with_reducible refine at_ld 24 ?_); refine wpList_ldm _ rfl _ _ rfl g1 97 _ _ d rfl B2 HF.out.sd _ _ Tryd.underlying25 HF.out.ld ?_)
          | (go_at_call 38; refine (HT.out _ (HL.out.grow c2)).mono ?_; rintro e w3 ⟨rfl, b3⟩; have B3 := (B0.grow b2).grow b3)
          | ((with_reducible refine at_st 2 ?_); refine wpList_sto _ rfl _ _ _ rfl g0 _ _ rfl rfl B3 HSZ.out HS2.out (B_one _) ?_; intro w4 B4 g4))
        exact bodyPost_ret (v := .tuple #[.agg (B D), .int .i64 0]) (results_row_tmp rfl _ _ g0 _ _ _ _ rfl rfl B4 Tryd.underlying25 HSZ.out) rfl (HX.out _ (below_row (grow_trans c2 b3) g4 (Nat.le_trans b1.size hg0)))
      · have HT : Hid (∀ w', Laid w' → Calls Tryd.prog 34 #[] w' fun e w'' => e = .returned (.agg (B D)) ∧ Below w'.heap.size w' w'') := by
          intro w' hl
          rw [hD, dgN, if_pos hok, txN, if_pos hok, if_neg hk1, if_neg hk2]
          exact empty_any w' hl
        have q2 : (k == 2) = false := by simp [hk2]
        clear h hu hN hk1 hk2 hok hoE hD hL
        go_enter Tryd.func9, Tryd.ntmps9
        go_wp2_with (first
          | ((with_reducible refine at_bx ?_); refine wpList_bx _ rfl _ _ rfl _ rfl ?_; intro w1 g1 hg1 hl1 B1 b1)
          | ((with_reducible refine at_al ?_); refine wpList_al _ rfl _ rfl _ zero_hash ?_; intro w0 g0 hg0 hl0 B0 b0; have B1' := B1.grow b0; have c1 := grow_trans b1 b0)
          | ((with_reducible refine at_ld 1 ?_); refine wpList_lds _ rfl _ _ rfl g1 _ _ rfl B1' HU.out HF.out.ln ?_)
          | (go_at_call 15; refine (HC.out _).mono ?_; rintro e w2 ⟨rfl, b2⟩; have B2 := B1'.grow b2; have ck := HF.out.kd _ _ _ B2; have c2 := grow_trans c1 b2)
          | (go_at_call 34; refine (HT.out _ (HL.out.grow c2)).mono ?_; rintro e w3 ⟨rfl, b3⟩; have B3 := (B0.grow b2).grow b3)
          | ((with_reducible refine at_st 2 ?_); refine wpList_sto _ rfl _ _ _ rfl g0 _ _ rfl rfl B3 HSZ.out HS2.out (B_one _) ?_; intro w4 B4 g4))
        exact bodyPost_ret (v := .tuple #[.agg (B D), .int .i64 0]) (results_row_tmp rfl _ _ g0 _ _ _ _ rfl rfl B4 Tryd.underlying25 HSZ.out) rfl (HX.out _ (below_row (grow_trans c2 b3) g4 (Nat.le_trans b1.size hg0)))
  · have hoE : okE k a b c d = 2 := by rw [okE, if_neg hok]
    rw [hoE] at HC
    have HX : Hid (∀ w', Below w.heap.size w w' → DigNPost k a b c d w (.returned (.tuple #[.agg (B z32), .int .i64 2])) w') := fun w' hb => ⟨by rw [hoE, dgN, if_neg hok], hb⟩
    clear h hu hN hok hoE hL
    go_enter Tryd.func9, Tryd.ntmps9
    go_wp2_with (first
      | ((with_reducible refine at_bx ?_); refine wpList_bx _ rfl _ _ rfl _ rfl ?_; intro w1 g1 hg1 hl1 B1 b1)
      | ((with_reducible refine at_al ?_); refine wpList_al _ rfl _ rfl _ zero_hash ?_; intro w0 g0 hg0 hl0 B0 b0; have B1' := B1.grow b0; have c1 := grow_trans b1 b0)
      | ((with_reducible refine at_ld 1 ?_); refine wpList_lds _ rfl _ _ rfl g1 _ _ rfl B1' HU.out HF.out.ln ?_)
      | (go_at_call 15; refine (HC.out _).mono ?_; rintro e w2 ⟨rfl, b2⟩; have B2 := B0.grow b2; have c2 := grow_trans c1 b2)
      | ((with_reducible refine at_bd ?_); refine wpList_bld _ rfl _ _ rfl _ built_hash ?_)
      | ((with_reducible refine at_st 2 ?_); refine wpList_sto _ rfl _ _ _ rfl g0 _ (B z32) rfl rfl B2 (by kernel_rfl) rfl (B_one _) ?_; intro w4 B4 g4))
    exact bodyPost_ret (v := .tuple #[.agg (B z32), .int .i64 2]) (results_row_tmp rfl _ _ g0 _ _ _ _ rfl rfl B4 Tryd.underlying25 (by kernel_rfl)) rfl (HX.out _ (below_row c2 g4 (Nat.le_trans b1.size hg0)))

end Go.Proofs.YtjcklpdifanjlaaDoor
