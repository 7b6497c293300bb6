/- PackBack's walk: the law returns true at every proof, all bytes and every byte more, and nothing that was in memory turns. -/
import Derived.Test.YtpihigcnoifcfaaDoorVr26
import Derived.Test.YtpihigcnoifcfaaDoorVr28
import Derived.Test.YtpihigcnoifcfaaDoorVr16
import Derived.Test.YtpihigcnoifcfaaDoorVr05
import Derived.Test.YtpihigcnoifcfaaDoorVr19
import Derived.Test.YtpihigcnoifcfaaDoorVr27
import Derived.Deep.RegionHeld2
namespace Go.Proofs.YtpihigcnoifcfaaDoor
set_option maxRecDepth 20000
open Go.RowKit

theorem ownHs_kp {w : World} {base n : Nat} {v : Value} {xs : List Value} (h : w.ownsRow base 23 32 v n xs) : Kp w (fun w' => w'.ownsRow base 23 32 v n xs) := fun _ q => ownsH_below h q

theorem own_ln {w : World} {xa : Option Addr} {n c : Nat} {zs sp : List Int} {b : Nat} (h : Own b w (.slice xa n c) zs sp) : zs.length = n ∧ n ≤ c := by
  obtain ⟨a', c', e, h1, _⟩ := h.reads
  injection e with e1 e2 e3
  subst e2
  subst e3
  exact ⟨rfl, h1⟩
theorem own_pos {w : World} {xa : Option Addr} {n c : Nat} {zs sp : List Int} {b : Nat} (h : Own b w (.slice xa n c) zs sp) (hn : 0 < n) : ∃ g, xa = some ⟨g, 0, none⟩ := by
  obtain ⟨_, _, _, h4⟩ := h
  rcases h4 with ⟨e, _⟩ | ⟨g, rest, _, e, _⟩
  · injection e with _ e2
    omega
  · injection e with e1
    exact ⟨g, e1⟩
theorem own_cut {w : World} {xa : Option Addr} {n c : Nat} {zs sp : List Int} {b : Nat} (h : Own b w (.slice xa n c) zs sp) (m : Nat) (hm : m ≤ n) : Reads w (.slice xa m c) (zs.take m) := by
  have e := (own_ln h).1
  have := h.reads
  rw [← e] at this hm
  exact this.cutfront m hm

end Go.Proofs.YtpihigcnoifcfaaDoor

/- The document's Encode, Digest of nodes, as contracts. -/
namespace Go.Proofs.YtpihigcnoifcfaaDoor
set_option maxRecDepth 20000
open Go.RowKit

set_option maxHeartbeats 2000000 in
theorem refEncode_any (k : Int) (a b c d : List Int) (w : World) (h : Nd k a b c d) : Calls Tryd.prog 61 #[.agg (B (nd k a b c d))] w (EncPost k a b c d w) := by
  obtain ⟨fs, hu⟩ := u_node
  have HU := hidden hu
  have HF := hidden h.facts
  have HC : Hid (∀ w', Calls Tryd.prog 34 #[.agg (B (nd k a b c d))] w' fun e w'' => e = .returned (.int .i64 (okE k a b c d)) ∧ Below w'.heap.size w' w'') := fun w' => refCheck_any k a b c d w' h
  obtain ⟨N, hN⟩ : ∃ N, N = nd k a b c d := ⟨_, rfl⟩
  rw [← hN] at HF HC ⊢
  by_cases hok : okN k a b c d = true
  · have hoE : okE k a b c d = 0 := by rw [okE, if_pos hok]
    rw [hoE] at HC
    by_cases hk1 : k = 1
    · have HT : Hid (∀ w', Calls Tryd.prog 73 #[.agg (B a), .agg (B b)] w' (TxtPost (1 :: (a ++ b)) 65 w')) := fun w' => refLeafText_new a b w' h.la h.lb h.ba h.bb
      have HX : Hid (∀ w' v sp, Own w.heap.size w' v (1 :: (a ++ b)) sp → Below w.heap.size w w' → EncPost k a b c d w (.returned (.tuple #[v, .int .i64 0])) w') := fun w' v sp ho hb => ⟨v, sp, by rw [hoE], by rw [txN, if_pos hok, if_pos hk1]; exact ho, hb⟩
      have q1 : (k == 1) = true := by simp [hk1]
      clear h hu hN hk1 hok hoE
      go_enter Tryd.func61, Tryd.ntmps61
      go_wp2_with (first
        | ((with_reducible refine at_bx ?_); refine wpList_bx _ rfl _ _ rfl _ rfl ?_; intro w1 g1 hg1 hl1 B1 b1)
        | ((with_reducible refine at_ldd 4 1 ?_); refine wpList_lds _ rfl _ _ rfl g1 _ _ rfl B1 HU.out HF.out.ln ?_)
        | (go_at_call 34; refine (HC.out _).mono ?_; rintro e w2 ⟨rfl, b2⟩; have B2 := B1.grow b2; have ck := HF.out.kd _ _ _ B2)
        | ((with_reducible refine at_ldd 11 10 ?_); refine wpList_ldm _ rfl _ _ rfl g1 1 _ _ a rfl B2 HF.out.sa _ _ Tryd.underlying24 HF.out.la ?_)
        | ((with_reducible refine at_ldd 13 12 ?_); refine wpList_ldm _ rfl _ _ rfl g1 33 _ _ b rfl B2 HF.out.sb _ _ Tryd.underlying23 HF.out.lb ?_)
        | (go_at_call 73; refine (HT.out _).mono ?_; rintro e w3 ⟨g, c3, sp, rfl, hgl, hgg, hO, b3⟩))
      go_ret2
      have c2 := grow_trans b1 b2
      exact HX.out _ _ _ (hO.later c2.size) (grow_trans c2 b3)
    · have q1 : (k == 1) = false := by simp [hk1]
      by_cases hk2 : k = 2
      · have HT : Hid (∀ w', Calls Tryd.prog 63 #[.agg (B c), .agg (B d)] w' (TxtPost (2 :: (c ++ d)) 65 w')) := fun w' => refInnerText_new c d w' h.lc h.ld h.bc h.bd
        have HX : Hid (∀ w' v sp, Own w.heap.size w' v (2 :: (c ++ d)) sp → Below w.heap.size w w' → EncPost k a b c d w (.returned (.tuple #[v, .int .i64 0])) w') := fun w' v sp ho hb => ⟨v, sp, by rw [hoE], by rw [txN, if_pos hok, if_neg hk1, if_pos hk2]; exact ho, hb⟩
        have q2 : (k == 2) = true := by simp [hk2]
        clear h hu hN hk1 hk2 hok hoE
        go_enter Tryd.func61, Tryd.ntmps61
        go_wp2_with (first
          | ((with_reducible refine at_bx ?_); refine wpList_bx _ rfl _ _ rfl _ rfl ?_; intro w1 g1 hg1 hl1 B1 b1)
          | ((with_reducible refine at_ldd 4 1 ?_); refine wpList_lds _ rfl _ _ rfl g1 _ _ rfl B1 HU.out HF.out.ln ?_)
          | (go_at_call 34; refine (HC.out _).mono ?_; rintro e w2 ⟨rfl, b2⟩; have B2 := B1.grow b2; have ck := HF.out.kd _ _ _ B2)
          | ((with_reducible refine at_ldd 19 18 ?_); refine wpList_ldm _ rfl _ _ rfl g1 65 _ _ c rfl B2 HF.out.sc _ _ Tryd.underlying23 HF.out.lc ?_)
          | ((with_reducible refine at_ldd 21 20 ?_); refine wpList_ldm _ rfl _ _ rfl g1 97 _ _ d rfl B2 HF.out.sd _ _ Tryd.underlying23 HF.out.ld ?_)
          | (go_at_call 63; refine (HT.out _).mono ?_; rintro e w3 ⟨g, c3, sp, rfl, hgl, hgg, hO, b3⟩))
        go_ret2
        have c2 := grow_trans b1 b2
        exact HX.out _ _ _ (hO.later c2.size) (grow_trans c2 b3)
      · have HX : Hid (∀ w' v sp, Own w.heap.size w' v [0] sp → Below w.heap.size w w' → EncPost k a b c d w (.returned (.tuple #[v, .int .i64 0])) w') := fun w' v sp ho hb => ⟨v, sp, by rw [hoE], by rw [txN, if_pos hok, if_neg hk1, if_neg hk2]; exact ho, hb⟩
        have q2 : (k == 2) = false := by simp [hk2]
        clear h hu hN hk1 hk2 hok hoE
        go_enter Tryd.func61, Tryd.ntmps61
        go_wp2_with (first
          | ((with_reducible refine at_bx ?_); refine wpList_bx _ rfl _ _ rfl _ rfl ?_; intro w1 g1 hg1 hl1 B1 b1)
          | ((with_reducible refine at_ldd 4 1 ?_); refine wpList_lds _ rfl _ _ rfl g1 _ _ rfl B1 HU.out HF.out.ln ?_)
          | (go_at_call 34; refine (HC.out _).mono ?_; rintro e w2 ⟨rfl, b2⟩; have B2 := B1.grow b2; have ck := HF.out.kd _ _ _ B2))
        go_ret2
        have c2 := grow_trans b1 b2
        exact HX.out _ _ [] (Own.mk (g := w2.heap.size) (zs := [0]) (sp := []) (fun z hz => by simp at hz; omega) Bytes.nil (by simp [maxLen]) c2.size (heap_alloc_new w2 _)) (grow_trans c2 (grow_alloc _ _))
  · have hoE : okE k a b c d = 2 := by rw [okE, if_neg hok]
    rw [hoE] at HC
    have HX : Hid (∀ w', Below w.heap.size w w' → EncPost k a b c d w (.returned (.tuple #[.slice none 0 0, .int .i64 2])) w') := fun w' hb => ⟨_, [], by rw [hoE], by rw [txN, if_neg hok]; exact Own.nil _ _, hb⟩
    clear h hu hN hok hoE
    go_enter Tryd.func61, Tryd.ntmps61
    go_wp2_with (first
      | ((with_reducible refine at_bx ?_); refine wpList_bx _ rfl _ _ rfl _ rfl ?_; intro w1 g1 hg1 hl1 B1 b1)
      | ((with_reducible refine at_ldd 4 1 ?_); refine wpList_lds _ rfl _ _ rfl g1 _ _ rfl B1 HU.out HF.out.ln ?_)
      | (go_at_call 34; refine (HC.out _).mono ?_; rintro e w2 ⟨rfl, b2⟩))
    go_ret2
    exact HX.out _ (grow_trans b1 b2)

theorem txN_len {k : Int} {a b c d : List Int} (h : Nd k a b c d) : (txN k a b c d).length ≤ 65 := by
  unfold txN
  split
  · split
    · simp [h.la, h.lb]
    · split
      · simp [h.lc, h.ld]
      · simp
  · simp

set_option maxHeartbeats 2000000 in
theorem refDigest_any (k : Int) (a b c d : List Int) (w : World) (h : Nd k a b c d) : Calls Tryd.prog 35 #[.agg (B (nd k a b c d))] w (DigNPost k a b c d w) := by
  obtain ⟨fs, hu⟩ := u_node
  have HU := hidden hu
  have HF := hidden h.facts
  by_cases hok : okN k a b c d = true
  · have hoE : okE k a b c d = 0 := by rw [okE, if_pos hok]
    have HE : Hid (∀ w', Calls Tryd.prog 61 #[.agg (B (nd k a b c d))] w' fun e w'' => ∃ v sp, e = .returned (.tuple #[v, .int .i64 0]) ∧ Own w'.heap.size w'' v (txN k a b c d) sp ∧ Below w'.heap.size w' w'') := by
      intro w'
      have := refEncode_any k a b c d w' h
      unfold EncPost at this
      rwa [hoE] at this
    obtain ⟨D, hD⟩ : ∃ D, D = dgN k a b c d := ⟨_, rfl⟩
    have hDd : dgN k a b c d = dig (txN k a b c d) := by rw [dgN, if_pos hok]
    have hDl : D.length = 32 := by rw [hD, hDd, dig_length]
    have HM : Hid (∀ w' x, Reads w' x (txN k a b c d) → Calls Tryd.prog 62 #[x] w' fun e w'' => e = .returned (.agg (B D)) ∧ Below w'.heap.size w' w'') := by
      intro w' x hx
      rw [hD, hDd]
      have := txN_len h
      exact refSum_any x _ w' hx (by omega)
    have HSZ : Hid ((Tryd.prog.info? 23).map (·.size) = some (B D).size) := by show _ = _; rw [B_size, hDl]; exact sz_hash
    have HS2 : Hid ((B (List.replicate 32 0)).size = (B D).size) := by show _ = _; rw [B_size, B_size, hDl]; rfl
    have HX : Hid (∀ w', Below w.heap.size w w' → DigNPost k a b c d w (.returned (.tuple #[.agg (B D), .int .i64 0])) w') := fun w' hb => ⟨by rw [hD, hoE], hb⟩
    obtain ⟨N, hN⟩ : ∃ N, N = nd k a b c d := ⟨_, rfl⟩
    obtain ⟨X, hXX⟩ : ∃ X, X = txN k a b c d := ⟨_, rfl⟩
    rw [← hN] at HF HE ⊢
    rw [← hXX] at HE HM
    clear h hu hN hok hoE hD hDd hDl hXX
    go_enter Tryd.func35, Tryd.ntmps35
    go_wp2_with (first
      | ((with_reducible refine at_bx ?_); refine wpList_bx _ rfl _ _ rfl _ rfl ?_; intro w1 g1 hg1 hl1 B1 b1)
      | ((with_reducible refine at_al ?_); refine wpList_al _ rfl _ rfl _ zero_hash ?_; intro w0 g0 hg0 hl0 B0 b0; have B1' := B1.grow b0; have c1 := grow_trans b1 b0)
      | ((with_reducible refine at_ldd 7 1 ?_); refine wpList_lds _ rfl _ _ rfl g1 _ _ rfl B1' HU.out HF.out.ln ?_)
      | (go_at_call 61; refine (HE.out _).mono ?_; rintro e w2 ⟨t, sp, rfl, hO, b2⟩; have hR := hidden hO.reads; obtain ⟨ta, tc, rfl⟩ := hO.slice; clear hO; have B2 := B0.grow b2; have c2 := grow_trans c1 b2)
      | (go_at_call 62; refine (HM.out _ _ hR.out).mono ?_; rintro e w3 ⟨rfl, b3⟩; have B3 := B2.grow b3)
      | ((with_reducible refine at_st 2 ?_); refine wpList_sto _ rfl _ _ _ rfl g0 _ _ rfl rfl B3 HSZ.out HS2.out (B_one _) ?_; intro w4 B4 g4))
    exact bodyPost_ret (v := .tuple #[.agg (B D), .int .i64 0]) (results_row_tmp rfl _ _ g0 _ _ _ _ rfl rfl B4 Tryd.underlying23 HSZ.out) rfl (HX.out _ (below_row (grow_trans c2 b3) g4 (Nat.le_trans b1.size hg0)))
  · have hoE : okE k a b c d = 2 := by rw [okE, if_neg hok]
    have HE : Hid (∀ w', Calls Tryd.prog 61 #[.agg (B (nd k a b c d))] w' fun e w'' => ∃ v sp, e = .returned (.tuple #[v, .int .i64 2]) ∧ Own w'.heap.size w'' v (txN k a b c d) sp ∧ Below w'.heap.size w' w'') := by
      intro w'
      have := refEncode_any k a b c d w' h
      unfold EncPost at this
      rwa [hoE] at this
    have HX : Hid (∀ w', Below w.heap.size w w' → DigNPost k a b c d w (.returned (.tuple #[.agg (B z32), .int .i64 2])) w') := fun w' hb => ⟨by rw [hoE, dgN, if_neg hok], hb⟩
    obtain ⟨N, hN⟩ : ∃ N, N = nd k a b c d := ⟨_, rfl⟩
    rw [← hN] at HF HE ⊢
    clear h hu hN hok hoE
    go_enter Tryd.func35, Tryd.ntmps35
    go_wp2_with (first
      | ((with_reducible refine at_bx ?_); refine wpList_bx _ rfl _ _ rfl _ rfl ?_; intro w1 g1 hg1 hl1 B1 b1)
      | ((with_reducible refine at_al ?_); refine wpList_al _ rfl _ rfl _ zero_hash ?_; intro w0 g0 hg0 hl0 B0 b0; have B1' := B1.grow b0; have c1 := grow_trans b1 b0)
      | ((with_reducible refine at_ldd 7 1 ?_); refine wpList_lds _ rfl _ _ rfl g1 _ _ rfl B1' HU.out HF.out.ln ?_)
      | (go_at_call 61; refine (HE.out _).mono ?_; rintro e w2 ⟨t, sp, rfl, hO, b2⟩; obtain ⟨ta, tc, rfl⟩ := hO.slice; clear hO; have B2 := B0.grow b2; have c2 := grow_trans c1 b2)
      | ((with_reducible refine at_bd ?_); refine wpList_bld _ rfl _ _ rfl _ built_hash ?_)
      | ((with_reducible refine at_st 2 ?_); refine wpList_sto _ rfl _ _ _ rfl g0 _ (B z32) rfl rfl B2 (by kernel_rfl) rfl (B_one _) ?_; intro w4 B4 g4))
    exact bodyPost_ret (v := .tuple #[.agg (B z32), .int .i64 2]) (results_row_tmp rfl _ _ g0 _ _ _ _ rfl rfl B4 Tryd.underlying23 (by kernel_rfl)) rfl (HX.out _ (below_row c2 g4 (Nat.le_trans b1.size hg0)))

end Go.Proofs.YtpihigcnoifcfaaDoor

/- The document's Set (rootcellarref04), as a contract. -/
namespace Go.Proofs.YtpihigcnoifcfaaDoor
set_option maxRecDepth 20000
open Go.RowKit

theorem u_b32 : Tryd.prog.underlying 22 = some (.array 32 5) := Tryd.underlying22
theorem b32_size {xs : List Int} (h : Key xs) : (Tryd.prog.info? 22).map (·.size) = some (B xs).size := by rw [B_size, h.1]; exact size_b32

theorem set_key (xs : List Int) (d : Nat) (b z : Int) (hx : Key xs) (hd : d < 256) (hb : b = 0 ∨ b = 1) (hz : z = xs.getD (d / 8) 0 + (b - kb xs d) * 2 ^ (7 - d % 8)) : 0 ≤ z ∧ z ≤ 255 ∧ IsSet xs d b (xs.set (d / 8) z) := by
  obtain ⟨⟨h1, h2⟩, h3⟩ := bt_put (xs.getD (d / 8) 0) b (hx.byte _) hb (d % 8) (by omega)
  have e : xs.getD (d / 8) 0 + (b - bt (xs.getD (d / 8) 0) (d % 8)) * 2 ^ (7 - d % 8) = z := hz.symm
  rw [e] at h1 h2 h3
  refine ⟨h1, h2, hx.set _ _ ⟨h1, h2⟩, fun j hj => ?_⟩
  rw [kb_set _ _ _ _ (by rw [hx.1]; omega)]
  by_cases q : j / 8 = d / 8
  · rw [if_pos q, h3 _ (by omega)]
    by_cases p : j % 8 = d % 8
    · rw [if_pos p, if_pos (by omega)]
    · rw [if_neg p, if_neg (by omega)]
      unfold kb
      rw [q]
  · rw [if_neg q, if_neg (by omega)]

end Go.Proofs.YtpihigcnoifcfaaDoor
