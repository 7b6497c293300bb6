/- The document's Up, as a contract. -/
import Derived.Test.YtjcklpdifanjlaaDoorOr37
import Derived.Test.YtjcklpdifanjlaaDoorOr23
import Derived.Test.YtjcklpdifanjlaaDoorOr22
import Derived.Test.YtjcklpdifanjlaaDoorOr33
import Derived.Test.YtjcklpdifanjlaaDoorOr13
namespace Go.Proofs.YtjcklpdifanjlaaDoor
set_option maxRecDepth 20000
open Go.RowKit

set_option maxHeartbeats 2000000 in
theorem rup_long (key : List Int) (s : Value) (hs : List (List Int)) (N : List Int) (w : World) (hh : HsAt w s hs) (hn : 256 < hs.length) :
    Calls Tryd.prog 32 #[.agg (B key), .agg (encR s N).toArray] w fun e w' => e = .returned (.tuple #[.agg (B z32), .int .i64 4]) ∧ Below w.heap.size w w' := by
  obtain ⟨sa, sc, rfl, _⟩ := hh
  obtain ⟨n, hnn⟩ : ∃ n, n = hs.length := ⟨_, rfl⟩
  rw [← hnn] at hn ⊢
  have HB : Hid (Tryd.prog.built 25 [] = some (B z32)) := built_hash
  have z1 : (256 : Int) < (n : Int) := by omega
  clear hnn
  go_enter Tryd.func32, Tryd.ntmps32
  go_wp2_with (first
    | ((with_reducible refine at_bxd 2 ?_); refine wpList_bx _ rfl _ _ rfl _ rfl ?_; intro w1 g2 hg2 hl2 B2 b1)
    | ((with_reducible refine at_bxd 3 ?_); refine wpList_bx _ rfl _ _ rfl _ rfl ?_; intro w2 g3 hg3 hl3 B3 b2; have c2 := grow_trans b1 b2)
    | ((with_reducible refine at_ald 4 ?_); refine wpList_al _ rfl _ rfl _ zero_hash ?_; intro w3 g4 hg4 hl4 B4 b3; have c3 := grow_trans c2 b3; have s3 := proof_side (B3.grow b3))
    | ((with_reducible refine at_bd ?_); refine wpList_bld _ rfl _ _ rfl _ (by rw [List.map_toArray]; exact HB.out) ?_)
    | ((with_reducible refine at_st 4 ?_); refine wpList_sto _ rfl _ _ _ rfl g4 _ (B z32) rfl rfl B4 (by kernel_rfl) rfl (B_one _) ?_; intro w5 B5 r5))
  exact bodyPost_ret (v := .tuple #[.agg (B z32), .int .i64 4]) (results_row_tmp rfl _ _ g4 _ _ _ _ rfl rfl B5 Tryd.underlying25 (by kernel_rfl)) rfl ⟨rfl, below_row c3 r5 (Nat.le_trans c2.size hg4)⟩

set_option maxHeartbeats 4000000 in
theorem rup_bad (key : List Int) (s : Value) (hs : List (List Int)) (k : Int) (a b c d : List Int) (w : World) (hh : HsAt w s hs) (hn : hs.length ≤ 256) (h : Nd k a b c d) (hb : ¬ (okN k a b c d = true ∧ k ≠ 2)) :
    Calls Tryd.prog 32 #[.agg (B key), .agg (encR s (nd k a b c d)).toArray] w fun e w' => e = .returned (.tuple #[.agg (B z32), .int .i64 2]) ∧ Below w.heap.size w w' := by
  obtain ⟨sa, sc, rfl, _⟩ := hh
  have HCk : Hid (∀ w', Calls Tryd.prog 16 #[.agg (B (nd k a b c d))] w' fun e w'' => e = .returned (.int .i64 (okE k a b c d)) ∧ Below w'.heap.size w' w'') := fun w' => refCheck_any k a b c d w' h
  have HN := hidden h.length
  obtain ⟨n, hnn⟩ : ∃ n, n = hs.length := ⟨_, rfl⟩
  rw [← hnn] at hn ⊢
  have HB : Hid (Tryd.prog.built 25 [] = some (B z32)) := built_hash
  have z1 : ¬ (256 : Int) < (n : Int) := by omega
  by_cases hok : okN k a b c d = true
  · have hk2 : k = 2 := by
      by_cases q : k = 2
      · exact q
      · exact absurd ⟨hok, q⟩ hb
    have hE0 : okE k a b c d = 0 := by rw [okE, if_pos hok]
    have HKI : Hid (∀ w' g t s, Blk w' g t (encR s (nd k a b c d)).toArray → w'.cell? ⟨g, 1, none⟩ = some (.int .u8 2)) := fun w' g t s q => by rw [← hk2]; exact proof_kind q
    rw [hE0] at HCk
    obtain ⟨N, hNN⟩ : ∃ N, N = nd k a b c d := ⟨_, rfl⟩
    rw [← hNN] at HCk HN HKI ⊢
    clear hE0 hnn h hb hok hk2 hNN
    go_enter Tryd.func32, Tryd.ntmps32
    go_wp2_with (first
      | ((with_reducible refine at_bxd 2 ?_); refine wpList_bx _ rfl _ _ rfl _ rfl ?_; intro w1 g2 hg2 hl2 B2 b1)
      | ((with_reducible refine at_bxd 3 ?_); refine wpList_bx _ rfl _ _ rfl _ rfl ?_; intro w2 g3 hg3 hl3 B3 b2; have c2 := grow_trans b1 b2)
      | ((with_reducible refine at_ald 4 ?_); refine wpList_al _ rfl _ rfl _ zero_hash ?_; intro w3 g4 hg4 hl4 B4 b3; have c3 := grow_trans c2 b3; have D3 := B3.grow b3; have s3 := proof_side D3)
      | ((with_reducible refine at_ldd 15 14 ?_); refine wpList_lde _ rfl _ rfl g3 _ _ N rfl D3 HN.out ?_)
      | (go_at_call 16; refine (HCk.out _).mono ?_; rintro e w4 ⟨rfl, b4⟩; have c4 := grow_trans c3 b4; have k3 := HKI.out _ _ _ _ (D3.grow b4); have E4 := B4.grow b4)
      | ((with_reducible refine at_bd ?_); refine wpList_bld _ rfl _ _ rfl _ (by rw [List.map_toArray]; exact HB.out) ?_)
      | ((with_reducible refine at_st 4 ?_); refine wpList_sto _ rfl _ _ _ rfl g4 _ (B z32) rfl rfl E4 (by kernel_rfl) rfl (B_one _) ?_; intro w7 B8 r7))
    exact bodyPost_ret (v := .tuple #[.agg (B z32), .int .i64 2]) (results_row_tmp rfl _ _ g4 _ _ _ _ rfl rfl B8 Tryd.underlying25 (by kernel_rfl)) rfl ⟨rfl, below_row c4 r7 (Nat.le_trans c2.size hg4)⟩
  · have hE2 : okE k a b c d = 2 := by rw [okE, if_neg hok]
    rw [hE2] at HCk
    obtain ⟨N, hNN⟩ : ∃ N, N = nd k a b c d := ⟨_, rfl⟩
    rw [← hNN] at HCk HN ⊢
    clear hE2 hnn h hb hok hNN
    go_enter Tryd.func32, Tryd.ntmps32
    go_wp2_with (first
      | ((with_reducible refine at_bxd 2 ?_); refine wpList_bx _ rfl _ _ rfl _ rfl ?_; intro w1 g2 hg2 hl2 B2 b1)
      | ((with_reducible refine at_bxd 3 ?_); refine wpList_bx _ rfl _ _ rfl _ rfl ?_; intro w2 g3 hg3 hl3 B3 b2; have c2 := grow_trans b1 b2)
      | ((with_reducible refine at_ald 4 ?_); refine wpList_al _ rfl _ rfl _ zero_hash ?_; intro w3 g4 hg4 hl4 B4 b3; have c3 := grow_trans c2 b3; have D3 := B3.grow b3; have s3 := proof_side D3)
      | ((with_reducible refine at_ldd 15 14 ?_); refine wpList_lde _ rfl _ rfl g3 _ _ N rfl D3 HN.out ?_)
      | (go_at_call 16; refine (HCk.out _).mono ?_; rintro e w4 ⟨rfl, b4⟩; have c4 := grow_trans c3 b4; have E4 := B4.grow b4)
      | ((with_reducible refine at_bd ?_); refine wpList_bld _ rfl _ _ rfl _ (by rw [List.map_toArray]; exact HB.out) ?_)
      | ((with_reducible refine at_st 4 ?_); refine wpList_sto _ rfl _ _ _ rfl g4 _ (B z32) rfl rfl E4 (by kernel_rfl) rfl (B_one _) ?_; intro w7 B8 r7))
    exact bodyPost_ret (v := .tuple #[.agg (B z32), .int .i64 2]) (results_row_tmp rfl _ _ g4 _ _ _ _ rfl rfl B8 Tryd.underlying25 (by kernel_rfl)) rfl ⟨rfl, below_row c4 r7 (Nat.le_trans c2.size hg4)⟩

set_option maxRecDepth 100000 in
set_option maxHeartbeats 8000000 in
theorem rup_good (key : List Int) (s : Value) (hs : List (List Int)) (k : Int) (a b c d : List Int) (w : World) (hkey : Key key) (hh : HsAt w s hs) (hn : hs.length ≤ 256) (h : Nd k a b c d) (hok : okN k a b c d = true) (hk2 : k ≠ 2) :
    Calls Tryd.prog 32 #[.agg (B key), .agg (encR s (nd k a b c d)).toArray] w fun e w' => e = .returned (.tuple #[.agg (B (upD key 0 hs (dgN k a b c d))), .int .i64 0]) ∧ Below w.heap.size w w' := by
  obtain ⟨sa, sc, rfl, hcap, hc, hl⟩ := hh
  have HKEY := hidden hkey
  have HCk : Hid (∀ w', Calls Tryd.prog 16 #[.agg (B (nd k a b c d))] w' fun e w'' => e = .returned (.int .i64 (okE k a b c d)) ∧ Below w'.heap.size w' w'') := fun w' => refCheck_any k a b c d w' h
  have HDg : Hid (∀ w', Calls Tryd.prog 10 #[.agg (B (nd k a b c d))] w' (DigNPost k a b c d w')) := fun w' => refDigest_any k a b c d w' h
  have HN := hidden h.length
  have HC := hidden hc
  have HLS := hidden hl
  have HKL := hidden (path_ln key hkey.1)
  obtain ⟨n, hnn⟩ : ∃ n, n = hs.length := ⟨_, rfl⟩
  have HNN := hidden hnn
  rw [← hnn] at hn ⊢
  have z1 : ¬ (256 : Int) < (n : Int) := by omega
  obtain ⟨G, hG⟩ : ∃ G, G = dgN k a b c d := ⟨_, rfl⟩
  have HGK : Hid (G.length = 32 ∧ Bytes G) := by rw [hG]; exact dgN_ok k a b c d
  have HF0 := hidden (hash_sz G HGK.out.1)
  have hE : okE k a b c d = 0 := by rw [okE, if_pos hok]
  have hDP : ∀ w e w', DigNPost k a b c d w e w' → e = .returned (.tuple #[.agg (B G), .int .i64 0]) ∧ Below w.heap.size w w' := fun w e w' q => by rw [hG, ← hE]; exact q
  have HDP := hidden hDP
  have HKI : Hid (∀ w' g t s, Blk w' g t (encR s (nd k a b c d)).toArray → w'.cell? ⟨g, 1, none⟩ = some (.int .u8 k)) := fun w' g t s q => proof_kind q
  have q2 : (k == 2) = false := by simp [hk2]
  have HX : Hid (∀ m, (upD key m (hs.drop m) G).length = 32 ∧ Bytes (upD key m (hs.drop m) G)) := fun m => upD_ok key _ m G HGK.out.1 HGK.out.2
  rw [← hG]
  obtain ⟨X0, hX0⟩ : ∃ X0, X0 = upD key 0 hs G := ⟨_, rfl⟩
  rw [← hX0]
  have HX0 := hidden hX0
  obtain ⟨N, hNN⟩ : ∃ N, N = nd k a b c d := ⟨_, rfl⟩
  rw [hE] at HCk
  rw [← hNN] at HDg HCk HN HKI ⊢
  have hw0 : IntKind.i64.wrap ((n : Int) - 1) = (n : Int) - 1 := by rw [IntKind.wrap_i64]; omega
  clear hG h hok hk2 hNN hE hDP hkey hc hl hcap hnn hX0
  go_enter Tryd.func32, Tryd.ntmps32
  go_wp2_with (first
    | ((with_reducible refine at_bxd 2 ?_); refine wpList_bx _ rfl _ _ rfl _ rfl ?_; intro w1 g2 hg2 hl2 B2 b1)
    | ((with_reducible refine at_bxd 3 ?_); refine wpList_bx _ rfl _ _ rfl _ rfl ?_; intro w2 g3 hg3 hl3 B3 b2; have c2 := grow_trans b1 b2; have D2 := B2.grow b2)
    | ((with_reducible refine at_ald 4 ?_); refine wpList_al _ rfl _ rfl _ zero_hash ?_; intro w3 g4 hg4 hl4 B4 b3; have c3 := grow_trans c2 b3; have D3 := B3.grow b3; have s3 := proof_side D3)
    | ((with_reducible refine at_ldd 15 14 ?_); refine wpList_lde _ rfl _ rfl g3 _ _ N rfl D3 HN.out ?_)
    | (go_at_call 16; refine (HCk.out _).mono ?_; rintro e wc ⟨rfl, bc⟩; replace c3 := grow_trans c3 bc; replace D3 := D3.grow bc; replace B4 := B4.grow bc; replace D2 := (D2.grow b3).grow bc; have kc := HKI.out _ _ _ _ D3; have sc3 := proof_side D3)
    | ((with_reducible refine at_ldd 27 26 ?_); refine wpList_lde _ rfl _ rfl g3 _ _ N rfl D3 HN.out ?_)
    | (go_at_call 10; refine (HDg.out _).mono ?_; rintro e w4 hq; obtain ⟨rfl, b4⟩ := HDP.out _ _ _ hq; clear hq; have c4 := grow_trans c3 b4; have E3 := D3.grow b4; have E4 := B4.grow b4)
    | ((with_reducible refine at_ald 6 ?_); refine wpList_al _ rfl _ rfl _ zero_hash ?_; intro w5 g6 hg6 hl6 B6 b5; have c5 := grow_trans c4 b5; have F3 := E3.grow b5; have F4 := E4.grow b5)
    | ((with_reducible refine at_st 6 ?_); refine wpList_sto _ rfl _ _ _ rfl g6 _ (B G) rfl rfl B6 HF0.out.1 HF0.out.2 (B_one _) ?_; intro w6 B7 r6; have c6 := below_row c5 r6 (Nat.le_trans c4.size hg6); have n36 : g3 ≠ g6 := Nat.ne_of_lt (Nat.lt_of_lt_of_le E3.lt hg6); have n46 : g4 ≠ g6 := Nat.ne_of_lt (Nat.lt_of_lt_of_le E4.lt hg6); have G3 := F3.kept r6 n36; have G4 := F4.kept r6 n46; have k3 := HKI.out _ _ _ _ G3; have t3 := proof_side G3))
  have E2 := D2.grow b4
  have n26 : g2 ≠ g6 := Nat.ne_of_lt (Nat.lt_of_lt_of_le E2.lt hg6)
  have G2 := (E2.grow b5).kept r6 n26
  have h06 : w.heap.size ≤ g6 := Nat.le_trans c4.size hg6
  have h04 : w.heap.size ≤ g4 := Nat.le_trans c2.size hg4
  have HN6 := hidden (And.intro n26 (And.intro n36 n46))
  have HG2 := hidden G2
  have HG3 := hidden G3
  have HG4 := hidden G4
  have HB7 := hidden B7
  have HC6 := hidden c6
  have H06 := hidden h06
  clear B2 B3 B4 B6 b1 b2 b3 b4 b5 c2 c3 c4 c5 D2 D3 s3 kc sc3 bc E2 E3 E4 F3 F4 r6 k3 t3 n26 n36 n46 G2 G3 G4 B7 c6 hg2 hl2 hg3 hl3 hg4 hl4 hg6 hl6 h06 wc w1 w2 w3 w4 w5
  go_loopw [8] (fun i wr => ∃ m : Nat, m ≤ n ∧ i = .int .i64 ((m : Int) - 1) ∧ Hid (Blk wr g6 25 (B (upD key m (hs.drop m) G))) ∧ Hid (w6.grownBy wr (some g6))) (fun i _ => (intOf i + 1).toNat)
  case atStart => exact ⟨n, by omega, rfl, by rw [HNN.out, List.drop_length]; exact HB7.out, below_grown (Below.refl _ _) _⟩
  case round =>
    obtain ⟨m, hm, rfl, hB, hgr⟩ := hrel
    by_cases hm0 : m = 0
    · subst hm0
      have HB0 : Hid (Blk wr g6 25 (B X0)) := by have := hB.out; rwa [List.drop_zero, ← HX0.out] at this
      have HXX := hidden (hash_sz X0 (by have := (HX.out 0).1; rwa [List.drop_zero, ← HX0.out] at this))
      have HR4 := hidden (HG4.out.kept hgr.out HN6.out.2.2)
      have HCW := hidden (below_row HC6.out hgr.out H06.out)
      clear hB
      go_wp2_with (first
        | ((with_reducible refine at_ldd 57 6 ?_); refine wpList_ld _ rfl _ _ rfl g6 _ rfl HB0.out _ _ Tryd.underlying25 HXX.out.1 ?_)
        | ((with_reducible refine at_st 4 ?_); refine wpList_sto _ rfl _ _ _ rfl g4 _ (B X0) rfl rfl HR4.out HXX.out.1 HXX.out.2 (B_one _) ?_; intro w7 B8 r7))
      exact bodyPost_ret (v := .tuple #[.agg (B X0), .int .i64 0]) (results_row_tmp rfl _ _ g4 _ _ _ _ rfl rfl B8 Tryd.underlying25 HXX.out.1) rfl ⟨rfl, below_row HCW.out r7 h04⟩
    · obtain ⟨j, rfl⟩ : ∃ j, m = j + 1 := ⟨m - 1, by omega⟩
      have ej : (((j + 1 : Nat) : Int) - 1) = (j : Int) := by omega
      rw [ej]
      have hlt : j < hs.length := by rw [← HNN.out]; omega
      obtain ⟨gs, os, rfl, hcc⟩ := HC.out (by omega)
      have z2 : (j : Int) < (n : Int) := by omega
      have z0 : (0 : Int) ≤ (j : Int) := by omega
      have hj256 : j < 256 := by omega
      have hst := upD_drop key hs G j hlt
      obtain ⟨Y, hY⟩ : ∃ Y, Y = hs.getD j [] := ⟨_, rfl⟩
      have HYK : Hid (Y.length = 32 ∧ Bytes Y) := by rw [hY]; exact HLS.out j hlt
      have HYL := hidden (hash_ln Y HYK.out.1)
      have HXK := hidden (HX.out (j + 1))
      have hBB := hB.out
      obtain ⟨X, hXX⟩ : ∃ X, X = upD key (j + 1) (hs.drop (j + 1)) G := ⟨_, rfl⟩
      rw [← hXX] at HXK hst hBB
      rw [← hY] at hst
      have HXL := hidden (hash_ln X HXK.out.1)
      have HF := hidden (hash_sz (jnD (kb key j) X Y) (jnD_length _ _ _))
      have HCW := hidden (below_row HC6.out hgr.out H06.out)
      have HBit : Hid (∀ w', Calls Tryd.prog 57 #[.agg (B key), .int .i64 j] w' fun e w'' => e = .returned (.int .i64 (kb key j)) ∧ Below w'.heap.size w' w'') := fun w' => by
        have := rbit_any key j w' HKEY.out
        rwa [kbi_in _ _ hj256] at this
      have HI0 : Hid (∀ w', Calls Tryd.prog 63 #[.agg (B X), .agg (B Y)] w' fun e w'' => e = .returned (.agg (B (inD X Y))) ∧ Below w'.heap.size w' w'') := fun w' => refInner_any X Y w' HXK.out.1 HYK.out.1 HXK.out.2 HYK.out.2
      have HI1 : Hid (∀ w', Calls Tryd.prog 63 #[.agg (B Y), .agg (B X)] w' fun e w'' => e = .returned (.agg (B (inD Y X))) ∧ Below w'.heap.size w' w'') := fun w' => refInner_any Y X w' HYK.out.1 HXK.out.1 HYK.out.2 HXK.out.2
      have HB6 : Hid (∀ w', Below wr.heap.size wr w' → Blk w' g6 25 (B X)) := fun w' q => hBB.grow q
      have HK2 : Hid (Blk wr g2 24 (B key)) := HG2.out.kept hgr.out HN6.out.1
      have HKZ : Hid ((Tryd.prog.info? 24).map (·.size) = some (B key).size) := by show _ = _; rw [B_size, HKEY.out.1]; exact sz_path
      have HS : Hid (∀ w', Below wr.heap.size wr w' → w'.rangeAt g6 0 (B X).toList ∧ w'.cell? ⟨g3, 0, none⟩ = some (.slice (some ⟨gs, os, none⟩) n sc) ∧ w'.rangeAt gs (os + j * 32) (B Y).toList) := fun w' q =>
        ⟨(hBB.grow q).range, proof_side ((HG3.out.kept hgr.out HN6.out.2.1).grow q), by rw [hY]; exact rng_grow (rng_grow (hcc j hlt) HCW.out) q⟩
      have hwj : IntKind.i64.wrap ((j : Int) - 1) = (j : Int) - 1 := by rw [IntKind.wrap_i64]; omega
      have hb2 := kb_two key j
      obtain ⟨β, hβ⟩ : ∃ β, β = kb key j := ⟨_, rfl⟩
      rw [← hβ] at HBit hst HF hb2
      rcases hb2 with hb2 | hb2
      · subst hb2
        have e0 : jnD 0 X Y = inD X Y := by rw [jnD, if_neg (by omega)]
        obtain ⟨X', hX'⟩ : ∃ X', X' = inD X Y := ⟨_, rfl⟩
        rw [e0, ← hX'] at HF hst
        have HSZ : Hid ((B X).size = (B X').size) := by show _ = _; rw [B_size, B_size, HXK.out.1, hX']; exact (dig_length _).symm
        rw [← hX'] at HI0
        have HST := hidden hst
        clear hst hY hXX hβ hX' hcc hlt hB hBB e0
        go_wp2_with (first
          | ((with_reducible refine at_ldd 39 2 ?_); refine wpList_ld _ rfl _ _ rfl g2 _ rfl HK2.out _ _ Tryd.underlying24 HKZ.out ?_)
          | (go_at_call 57; refine (HBit.out _).mono ?_; rintro e x1 ⟨rfl, a1⟩))
        have d0 : Below wr.heap.size wr x1.drew := grow_trans a1 (Below.refl _ _).drew
        refine wp_region_last (S := fun w' => w'.rangeAt g6 0 (B X).toList ∧ w'.cell? ⟨g3, 0, none⟩ = some (.slice (some ⟨gs, os, none⟩) n sc) ∧ w'.rangeAt gs (os + j * 32) (B Y).toList) 7 (by kernel_rfl) (HS.out _ d0) (fun hHeld => ?_)
        refine wpAnyL_take (i := 0) (v := .agg (B X)) rfl (by kernel_rfl) (by kernel_rfl) (by kernel_rfl) (by kernel_rfl) (by kernel_rfl) (fun _ _ _ h => h) (yieldsIf_load_mid rfl 25 (.tmp 6) rfl g6 (0) rfl (B X).toList _ (fun w hS => hS.1) Tryd.underlying25 rfl HXL.out) hHeld ?_
        simp only [Act.put, List.getElem_toArray, List.getElem_cons_zero, List.setIfInBounds_toArray, List.set_cons_zero, List.set_cons_succ]
        refine wpAnyL_take (i := 1) (v := .pointer (some ⟨g3, 0, none⟩)) rfl (by kernel_rfl) (by kernel_rfl) (by kernel_rfl) (by kernel_rfl) (by kernel_rfl) (fun _ _ _ h => h) (Or.inl ⟨by rfl, fun w hS => by go_simp⟩) hHeld ?_
        simp only [Act.put, List.getElem_toArray, List.getElem_cons_zero, List.getElem_cons_succ, List.setIfInBounds_toArray, List.set_cons_zero, List.set_cons_succ]
        refine wpAnyL_take (i := 2) (v := .slice (some ⟨gs, os, none⟩) n sc) rfl (by kernel_rfl) (by kernel_rfl) (by kernel_rfl) (by kernel_rfl) (by kernel_rfl) (fun _ _ _ h => h) (Or.inl ⟨by rfl, fun w hS => by (have s1 := hS.2.1; go_simp)⟩) hHeld ?_
        simp only [Act.put, List.getElem_toArray, List.getElem_cons_zero, List.getElem_cons_succ, List.setIfInBounds_toArray, List.set_cons_zero, List.set_cons_succ]
        refine wpAnyL_take (i := 3) (v := .int .i64 j) rfl (by kernel_rfl) (by kernel_rfl) (by kernel_rfl) (by kernel_rfl) (by kernel_rfl) (fun _ _ _ h => h) (Or.inl ⟨by rfl, fun w hS => by go_simp⟩) hHeld ?_
        simp only [Act.put, List.getElem_toArray, List.getElem_cons_zero, List.getElem_cons_succ, List.setIfInBounds_toArray, List.set_cons_zero, List.set_cons_succ]
        refine wpAnyL_take (i := 4) (v := .pointer (some ⟨gs, os + j * 32, none⟩)) rfl (by kernel_rfl) (by kernel_rfl) (by kernel_rfl) (by kernel_rfl) (by kernel_rfl) (fun _ _ _ h => h) (Or.inl ⟨by rfl, fun w hS => by go_simp⟩) hHeld ?_
        simp only [Act.put, List.getElem_toArray, List.getElem_cons_zero, List.getElem_cons_succ, List.setIfInBounds_toArray, List.set_cons_zero, List.set_cons_succ]
        refine wpAnyL_take (i := 5) (v := .agg (B Y)) rfl (by kernel_rfl) (by kernel_rfl) (by kernel_rfl) (by kernel_rfl) (by kernel_rfl) (fun _ _ _ h => h) (yieldsIf_load_mid rfl 25 (.tmp 47) rfl gs (os + j * 32) rfl (B Y).toList _ (fun w hS => hS.2.2) Tryd.underlying25 rfl HYL.out) hHeld ?_
        simp only [Act.put, List.getElem_toArray, List.getElem_cons_zero, List.getElem_cons_succ, List.setIfInBounds_toArray, List.set_cons_zero, List.set_cons_succ]
        refine wpAnyL_one (i := 6) rfl (by kernel_rfl) (fun KQ hK => ?_)
        go_simp
        refine (HI0.out _).mono ?_
        rintro e x2 ⟨rfl, a2⟩
        have d2 := grow_trans d0 a2
        refine hK.out _ _ (HS.out _ d2) (fun hHeld => ?_)
        clear hK KQ
        refine wpAnyL_last rfl (by kernel_rfl) (by kernel_rfl) (fun KQ hK => ?_)
        refine step_sto _ rfl _ _ _ rfl g6 _ (B X') rfl rfl (HB6.out _ d2) HF.out.1 HSZ.out (B_one _) ?_
        intro x3 B3 r3
        refine hK.out _ _ ?_
        clear hK KQ
        have hg3 := grown_trans (grown_trans hgr.out (below_grown d2 _)) r3
        go_wp2_with fail
        exact ⟨⟨j, by omega, by go_num, by rw [HST.out]; exact B3, hg3⟩, by simp [intOf]⟩
      · subst hb2
        have e0 : jnD 1 X Y = inD Y X := by rw [jnD, if_pos rfl]
        obtain ⟨X', hX'⟩ : ∃ X', X' = inD Y X := ⟨_, rfl⟩
        rw [e0, ← hX'] at HF hst
        have HSZ : Hid ((B X).size = (B X').size) := by show _ = _; rw [B_size, B_size, HXK.out.1, hX']; exact (dig_length _).symm
        rw [← hX'] at HI1
        have HST := hidden hst
        clear hst hY hXX hβ hX' hcc hlt hB hBB e0
        go_wp2_with (first
          | ((with_reducible refine at_ldd 39 2 ?_); refine wpList_ld _ rfl _ _ rfl g2 _ rfl HK2.out _ _ Tryd.underlying24 HKZ.out ?_)
          | (go_at_call 57; refine (HBit.out _).mono ?_; rintro e x1 ⟨rfl, a1⟩))
        have d0 : Below wr.heap.size wr x1.drew := grow_trans a1 (Below.refl _ _).drew
        refine wp_region_last (S := fun w' => w'.rangeAt g6 0 (B X).toList ∧ w'.cell? ⟨g3, 0, none⟩ = some (.slice (some ⟨gs, os, none⟩) n sc) ∧ w'.rangeAt gs (os + j * 32) (B Y).toList) 7 (by kernel_rfl) (HS.out _ d0) (fun hHeld => ?_)
        refine wpAnyL_take (i := 0) (v := .pointer (some ⟨g3, 0, none⟩)) rfl (by kernel_rfl) (by kernel_rfl) (by kernel_rfl) (by kernel_rfl) (by kernel_rfl) (fun _ _ _ h => h) (Or.inl ⟨by rfl, fun w hS => by go_simp⟩) hHeld ?_
        simp only [Act.put, List.getElem_toArray, List.getElem_cons_zero, List.setIfInBounds_toArray, List.set_cons_zero, List.set_cons_succ]
        refine wpAnyL_take (i := 1) (v := .slice (some ⟨gs, os, none⟩) n sc) rfl (by kernel_rfl) (by kernel_rfl) (by kernel_rfl) (by kernel_rfl) (by kernel_rfl) (fun _ _ _ h => h) (Or.inl ⟨by rfl, fun w hS => by (have s1 := hS.2.1; go_simp)⟩) hHeld ?_
        simp only [Act.put, List.getElem_toArray, List.getElem_cons_zero, List.getElem_cons_succ, List.setIfInBounds_toArray, List.set_cons_zero, List.set_cons_succ]
        refine wpAnyL_take (i := 2) (v := .int .i64 j) rfl (by kernel_rfl) (by kernel_rfl) (by kernel_rfl) (by kernel_rfl) (by kernel_rfl) (fun _ _ _ h => h) (Or.inl ⟨by rfl, fun w hS => by go_simp⟩) hHeld ?_
        simp only [Act.put, List.getElem_toArray, List.getElem_cons_zero, List.getElem_cons_succ, List.setIfInBounds_toArray, List.set_cons_zero, List.set_cons_succ]
        refine wpAnyL_take (i := 3) (v := .pointer (some ⟨gs, os + j * 32, none⟩)) rfl (by kernel_rfl) (by kernel_rfl) (by kernel_rfl) (by kernel_rfl) (by kernel_rfl) (fun _ _ _ h => h) (Or.inl ⟨by rfl, fun w hS => by go_simp⟩) hHeld ?_
        simp only [Act.put, List.getElem_toArray, List.getElem_cons_zero, List.getElem_cons_succ, List.setIfInBounds_toArray, List.set_cons_zero, List.set_cons_succ]
        refine wpAnyL_take (i := 4) (v := .agg (B Y)) rfl (by kernel_rfl) (by kernel_rfl) (by kernel_rfl) (by kernel_rfl) (by kernel_rfl) (fun _ _ _ h => h) (yieldsIf_load_mid rfl 25 (.tmp 53) rfl gs (os + j * 32) rfl (B Y).toList _ (fun w hS => hS.2.2) Tryd.underlying25 rfl HYL.out) hHeld ?_
        simp only [Act.put, List.getElem_toArray, List.getElem_cons_zero, List.getElem_cons_succ, List.setIfInBounds_toArray, List.set_cons_zero, List.set_cons_succ]
        refine wpAnyL_take (i := 5) (v := .agg (B X)) rfl (by kernel_rfl) (by kernel_rfl) (by kernel_rfl) (by kernel_rfl) (by kernel_rfl) (fun _ _ _ h => h) (yieldsIf_load_mid rfl 25 (.tmp 6) rfl g6 (0) rfl (B X).toList _ (fun w hS => hS.1) Tryd.underlying25 rfl HXL.out) hHeld ?_
        simp only [Act.put, List.getElem_toArray, List.getElem_cons_zero, List.getElem_cons_succ, List.setIfInBounds_toArray, List.set_cons_zero, List.set_cons_succ]
        refine wpAnyL_one (i := 6) rfl (by kernel_rfl) (fun KQ hK => ?_)
        go_simp
        refine (HI1.out _).mono ?_
        rintro e x2 ⟨rfl, a2⟩
        have d2 := grow_trans d0 a2
        refine hK.out _ _ (HS.out _ d2) (fun hHeld => ?_)
        clear hK KQ
        refine wpAnyL_last rfl (by kernel_rfl) (by kernel_rfl) (fun KQ hK => ?_)
        refine step_sto _ rfl _ _ _ rfl g6 _ (B X') rfl rfl (HB6.out _ d2) HF.out.1 HSZ.out (B_one _) ?_
        intro x3 B3 r3
        refine hK.out _ _ ?_
        clear hK KQ
        have hg3 := grown_trans (grown_trans hgr.out (below_grown d2 _)) r3
        go_wp2_with fail
        exact ⟨⟨j, by omega, by go_num, by rw [HST.out]; exact B3, hg3⟩, by simp [intOf]⟩

theorem rup_any (key : List Int) (s : Value) (hs : List (List Int)) (k : Int) (a b c d : List Int) (w : World) (hkey : Key key) (hh : HsAt w s hs) (h : Nd k a b c d) :
    Calls Tryd.prog 32 #[.agg (B key), .agg (encR s (nd k a b c d)).toArray] w (UpPost key hs k a b c d w) := by
  unfold UpPost upH upE
  by_cases hn : 256 < hs.length
  · rw [if_pos hn, if_pos hn]
    exact rup_long key s hs _ w hh hn
  · rw [if_neg hn, if_neg hn]
    by_cases hb : okN k a b c d = true ∧ k ≠ 2
    · rw [if_pos hb, if_pos hb]
      exact rup_good key s hs k a b c d w hkey hh (by omega) h hb.1 hb.2
    · rw [if_neg hb, if_neg hb]
      exact rup_bad key s hs k a b c d w hh (by omega) h hb

end Go.Proofs.YtjcklpdifanjlaaDoor

/- rootcellarkit.LentPairs and KeptPairs, as contracts. -/
namespace Go.Proofs.YtjcklpdifanjlaaDoor
set_option maxRecDepth 20000
open Go.RowKit

theorem setCells_other {g k : Nat} (hne : k ≠ g) : ∀ (vs : List Value) (o : Nat) (w : World), (w.setCells g o vs).heap[k]? = w.heap[k]?
  | [], _, _ => rfl
  | v :: r, o, w => by
    rw [World.setCells, setCells_other hne r (o + 1), heap_setCell_other w ⟨g, o, none⟩ k v (fun e => hne e)]

/-- A value that was lent. -/
def lvP (es : List Ent) (G : Nat → Nat) (i : Nat) : Value := .slice (some ⟨G i, 0, none⟩) (es.getD i e00).2.length ((es.getD i e00).2.length + 5)

/-- k of the entries lent, in a row with room for two more, which are nought. -/
structure LentP (w : World) (g k : Nat) (G : Nat → Nat) (es : List Ent) : Prop where
  pair : ∀ i, i < k → w.rangeAt g (i * 33) (encP (es.getD i e00).1 (lvP es G i))
  row : ∀ i, i < k → Row w (G i) ((es.getD i e00).2 ++ marks (es.getD i e00).2.length)
  spare : ∀ j, j < 2 → w.rangeAt g ((es.length + j) * 33) (encP z32 (.slice none 0 0))

theorem LentP.grow {w w' : World} {g k : Nat} {G : Nat → Nat} {es : List Ent} (h : LentP w g k G es) (hb : Below w.heap.size w w') : LentP w' g k G es :=
  ⟨fun i hi => rng_grow (h.pair i hi) hb, fun i hi => (h.row i hi).of_block (hb.block _ (h.row i hi).lt), fun j hj => rng_grow (h.spare j hj) hb⟩
theorem LentP.kp {w : World} {g k : Nat} {G : Nat → Nat} {es : List Ent} (h : LentP w g k G es) : Kp w (fun w' => LentP w' g k G es) := fun _ q => h.grow q

theorem lent_reads {w : World} {g : Nat} {zs : List Int} (h : Row w g (zs ++ marks zs.length)) (hb : Bytes zs) : Reads w (.slice (some ⟨g, 0, none⟩) zs.length (zs.length + 5)) zs := by
  refine ⟨_, _, rfl, by omega, (fun e => by cases e), hb, fun _ => ⟨g, 0, rfl, fun i hi => ?_⟩⟩
  rw [Nat.zero_add, h.cell i (by simp; omega)]
  simp [List.getD, hi, List.getElem?_append_left hi]

theorem LentP.prAt {w : World} {g : Nat} {G : Nat → Nat} {es : List Ent} (h : LentP w g es.length G es) (hk : ∀ i, i < es.length → Key (es.getD i e00).1) (hb : ∀ i, i < es.length → Bytes (es.getD i e00).2) : PrAt w (.slice (some ⟨g, 0, none⟩) es.length (es.length + 2)) (lvP es G) es := by
  refine ⟨_, _, rfl, by omega, fun _ => ⟨g, 0, rfl, fun i hi => by rw [Nat.zero_add]; exact h.pair i hi⟩, fun i hi => ⟨hk i hi, ?_⟩⟩
  exact lent_reads (h.row i hi) (hb i hi)

def prPlaces : Nat → Option (Nat × Nat) := fun i => (#[(0, 32), (32, 1)] : Array (Nat × Nat))[i]?

theorem builtP_eq (ps : List (Nat × Value)) : Tryd.prog.built 75 ps = Instr.fill prPlaces (encP z32 (.slice none 0 0)).toArray ps := by kernel_rfl

theorem built_pair (k : List Int) (a : Option Addr) (l c : Nat) (hk : k.length = 32) : Tryd.prog.built 75 [(0, .agg (B k)), (1, .slice a l c)] = some (encP k (.slice a l c)).toArray := by
  rw [builtP_eq, fill_one prPlaces 0 0 32 _ (k.map (Value.int .u8)) _ _ rfl (cells_b k) (by simp [hk]) (by simp [encP, z32]), fill_one prPlaces 1 32 1 _ [.slice a l c] _ _ rfl rfl rfl (by simp [encP, z32, hk]), Instr.fill]
  congr 2
  simp [encP, z32, hk]

/-- make([]api.Pair, n, n + 2). -/
theorem wpList_mkp {ops : Array Oper} {rest : List Oper} {o : Oper} {a : Act} {Q : Exit → Act → World → Prop} (w : World) (hgd : o.guard = none) (x y : Operand)
    (hop : o.op = Op.makeSlice 49 x y) (n : Nat) (hx : a.eval x = .int .i64 n) (hy : a.eval y = .int .i64 ((n : Int) + 2)) (hn : (n + 2) * 56 ≤ 281474976710656)
    (h : ∀ w' g, w.heap.size ≤ g → g < w'.heap.size → (∀ i, i < n + 2 → w'.rangeAt g (i * 33) (encP z32 (.slice none 0 0)) ∧ w'.there g (i * 33) 33) → Below w.heap.size w w' → wpList Tryd.prog ops Q rest (a.put o.dst (.slice (some ⟨g, 0, none⟩) n (n + 2))) w') :
    wpList Tryd.prog ops Q (o :: rest) a w := by
  refine wpList_plain hgd fun K hK => ?_
  obtain ⟨i, z, hi, hz, hzc, hs, hby⟩ : ∃ i z, Tryd.prog.info? 75 = some i ∧ i.zero = some z ∧ z.cells = (encP z32 (.slice none 0 0)).toArray ∧ i.size = 33 ∧ i.bytes = 56 := ⟨_, _, rfl, rfl, rfl, rfl, rfl⟩
  have hr := run_make (P := Tryd.prog) w 49 75 i z Tryd.underlying49 hi hz .i64 .i64 n ((n : Int) + 2) (by omega) (by omega) (by rw [hby]; omega) (by omega)
  rw [hs, hzc] at hr
  have e1 : ((n : Int) + 2).toNat = n + 2 := by omega
  simp only [Int.toNat_natCast, e1] at hr
  have hsz := size_madeCells (encP z32 (.slice none 0 0)).toArray ((n + 2) * 33)
  have hB : Blk (w.alloc (.cells (madeCells (encP z32 (.slice none 0 0)).toArray ((n + 2) * 33)) 75)) w.heap.size 75 _ := Blk.new w _ _
  unfold Oper.wp
  simp [execOp, hop, hx, hy, hr, Result.andThen]
  refine hK _ _ (h _ w.heap.size (Nat.le_refl _) (by simp) (fun j hj => ⟨fun q v hv => ?_, hB.there _ _ (by rw [hsz]; omega)⟩) (grow_alloc w _))
  have hq : q < 33 := by have := (List.getElem?_eq_some_iff.1 hv).1; rwa [encP_length _ _ rfl] at this
  rw [hB.cell]
  have e2 : (encP z32 (.slice none 0 0)).toArray.size = 33 := by rw [List.size_toArray]; exact encP_length _ _ rfl
  unfold madeCells
  rw [Array.getElem?_map, Array.getElem?_range, if_pos (by omega), e2]
  simp only [Option.map_some]
  rw [show (j * 33 + q) % 33 = q by omega]
  rw [getElem!_pos _ q (by rw [e2]; exact hq)]
  obtain ⟨h1, h2⟩ := List.getElem?_eq_some_iff.1 hv
  rw [← h2]
  simp

def LentPost (es : List Ent) (w : World) (e : Ending) (w' : World) : Prop := ∃ g G, e = .returned (.slice (some ⟨g, 0, none⟩) es.length (es.length + 2)) ∧ w.heap.size ≤ g ∧ LentP w' g es.length G es ∧ Below w.heap.size w w'

set_option maxRecDepth 100000 in
set_option maxHeartbeats 8000000 in
theorem lentPairs_any (v : Value) (V : Nat → Value) (es : List Ent) (w : World) (hv : PrAt w v V es) (hn : es.length * 56 ≤ 140737488355328 - 4096) (hl : ∀ i, i < es.length → (es.getD i e00).2.length ≤ 140737488355328 - 4096) :
    Calls Tryd.prog 21 #[v] w (LentPost es w) := by
  obtain ⟨a, cap, rfl, hcap, hc, hr⟩ := hv
  have HC := hidden hc
  have HR := hidden hr
  have HLE := hidden hl
  obtain ⟨n, hnn⟩ : ∃ n, n = es.length := ⟨_, rfl⟩
  have HN := hidden hnn
  have HPost : Hid (∀ w' g G, w.heap.size ≤ g → LentP w' g n G es → Below w.heap.size w w' → LentPost es w (.returned (.slice (some ⟨g, 0, none⟩) n (n + 2))) w') := fun w' g G h1 h2 h3 => ⟨g, G, by rw [hnn], h1, by rw [← hnn]; exact h2, h3⟩
  rw [← hnn] at hn ⊢
  have hw2 : IntKind.i64.wrap ((n : Int) + 2) = (n : Int) + 2 := by rw [IntKind.wrap_i64]; omega
  have hn2 : (n + 2) * 56 ≤ 281474976710656 := by omega
  clear hc hr hcap hnn hl
  go_enter Tryd.func21, Tryd.ntmps21
  go_wp2_with (first
    | (refine wpList_mkp _ rfl _ _ rfl n rfl rfl hn2 ?_; intro w1 g hg hgl hz b1))
  have HG := hidden hg
  have HL0 : Hid (LentP w1 g 0 (fun _ => 0) es) := ⟨fun i hi => by omega, fun i hi => by omega, fun j hj => by rw [← HN.out]; exact (hz (n + j) (by omega)).1⟩
  have HT0 : Hid (∀ i, i < n → w1.there g (i * 33) 33) := fun i hi => (hz i (by omega)).2
  have HGL := hidden hgl
  clear hz hg hgl
  go_loopw [4] (fun i wr => ∃ (k : Nat) (G : Nat → Nat), k ≤ n ∧ i = .int .i64 k ∧ Hid (LentP wr g k G es) ∧ Hid (∀ i, i < n → wr.there g (i * 33) 33) ∧ Hid (g < wr.heap.size) ∧ Hid (∀ i, i < k → G i ≠ g) ∧ Below w.heap.size w wr) (fun i _ => n - (intOf i).toNat)
  case atStart => exact ⟨0, _, by omega, rfl, HL0, HT0, HGL, fun i hi => by omega, b1⟩
  case round =>
    obtain ⟨k, G, hk, rfl, hlp, hth, hgl, hne, hbw⟩ := hrel
    by_cases hlt : k < n
    · have hlt' : k < es.length := by rw [← HN.out]; exact hlt
      obtain ⟨ga, off, rfl, hcc⟩ := HC.out (by omega)
      have z1 : (k : Int) < (n : Int) := by omega
      have z0 : (0 : Int) ≤ (k : Int) := by omega
      obtain ⟨hkey, hrd⟩ := HR.out k hlt'
      have HLT : Hid (∀ w', Below w.heap.size w w' → Calls Tryd.prog 8 #[V k] w' fun e w'' => ∃ q, e = .returned (.slice (some ⟨q, 0, none⟩) (es.getD k e00).2.length ((es.getD k e00).2.length + 5)) ∧ w'.heap.size ≤ q ∧ Row w'' q ((es.getD k e00).2 ++ marks (es.getD k e00).2.length) ∧ Below w'.heap.size w' w'') := fun w' hb =>
        (lent_any (V k) _ w' (hrd.grow hb) (by have := HLE.out k hlt'; omega)).mono fun _ _ ⟨h1, h2, h3, _⟩ => ⟨_, h1, Nat.le_refl _, h2, h3⟩
      have HS : Hid (∀ w', Below w.heap.size w w' → w'.rangeAt ga (off + k * 33) (B (es.getD k e00).1).toList ∧ w'.cell? ⟨ga, off + k * 33 + 32, none⟩ = some (V k)) := fun w' hw' => ⟨rng_key (rng_grow (hcc k hlt') hw'), rng_val (rng_grow (hcc k hlt') hw') hkey.1⟩
      have HKY := hidden hkey
      obtain ⟨va, vc, hV, _, _, _, _⟩ := hrd
      obtain ⟨K, hK⟩ : ∃ K, K = (es.getD k e00).1 := ⟨_, rfl⟩
      obtain ⟨L, hL⟩ : ∃ L, L = (es.getD k e00).2.length := ⟨_, rfl⟩
      rw [hV] at HLT HS
      rw [← hL] at HLT HS
      rw [← hK] at HS HKY
      have HLK : Hid ((Tryd.prog.info? 24).map (·.size) = some (B K).toList.length) := by show _ = _; rw [B_toList, List.length_map, HKY.out.1]; exact sz_path
      have HBP : Hid (∀ q, Tryd.prog.built 75 [(0, .agg (B K)), (1, .slice (some ⟨q, 0, none⟩) L (L + 5))] = some (encP K (.slice (some ⟨q, 0, none⟩) L (L + 5))).toArray) := fun q => built_pair K _ _ _ HKY.out.1
      have HKE := hidden hK
      have HLL := hidden hL
      clear hcc hkey hK hL hV hlt'
      go_wp2_with fail
      have d0 : Below w.heap.size w wr.drew := grow_trans hbw (Below.refl _ _).drew
      refine wp_region_held_drew (S := fun w' => w'.rangeAt ga (off + k * 33) (B K).toList ∧ w'.cell? ⟨ga, off + k * 33 + 32, none⟩ = some (.slice va L vc)) (by kernel_rfl) (HS.out _ d0) (fun hHeld => ?_)
      refine wpAnyH_take (i := 0) (v := .slice (some ⟨g, 0, none⟩) n (n + 2)) rfl (by kernel_rfl) (by kernel_rfl) (by kernel_rfl) (fun _ _ _ h => h) (Or.inl ⟨by rfl, fun w hS => by go_simp⟩) hHeld ?_
      simp only [Act.put, List.getElem_toArray, List.getElem_cons_zero, List.setIfInBounds_toArray, List.set_cons_zero, List.set_cons_succ]
      refine wpAnyH_take (i := 1) (v := .int .i64 k) rfl (by kernel_rfl) (by kernel_rfl) (by kernel_rfl) (fun _ _ _ h => h) (Or.inl ⟨by rfl, fun w hS => by go_simp⟩) hHeld ?_
      simp only [Act.put, List.getElem_toArray, List.getElem_cons_zero, List.getElem_cons_succ, List.setIfInBounds_toArray, List.set_cons_zero, List.set_cons_succ]
      refine wpAnyH_take (i := 2) (v := .slice (some ⟨ga, off, none⟩) n cap) rfl (by kernel_rfl) (by kernel_rfl) (by kernel_rfl) (fun _ _ _ h => h) (Or.inl ⟨by rfl, fun w hS => by go_simp⟩) hHeld ?_
      simp only [Act.put, List.getElem_toArray, List.getElem_cons_zero, List.getElem_cons_succ, List.setIfInBounds_toArray, List.set_cons_zero, List.set_cons_succ]
      refine wpAnyH_take (i := 3) (v := .int .i64 k) rfl (by kernel_rfl) (by kernel_rfl) (by kernel_rfl) (fun _ _ _ h => h) (Or.inl ⟨by rfl, fun w hS => by go_simp⟩) hHeld ?_
      simp only [Act.put, List.getElem_toArray, List.getElem_cons_zero, List.getElem_cons_succ, List.setIfInBounds_toArray, List.set_cons_zero, List.set_cons_succ]
      refine wpAnyH_take (i := 4) (v := .pointer (some ⟨ga, off + k * 33, none⟩)) rfl (by kernel_rfl) (by kernel_rfl) (by kernel_rfl) (fun _ _ _ h => h) (Or.inl ⟨by rfl, fun w hS => by go_simp⟩) hHeld ?_
      simp only [Act.put, List.getElem_toArray, List.getElem_cons_zero, List.getElem_cons_succ, List.setIfInBounds_toArray, List.set_cons_zero, List.set_cons_succ]
      refine wpAnyH_take (i := 5) (v := .pointer (some ⟨ga, off + k * 33, none⟩)) rfl (by kernel_rfl) (by kernel_rfl) (by kernel_rfl) (fun _ _ _ h => h) (Or.inl ⟨by rfl, fun w hS => by go_simp⟩) hHeld ?_
      simp only [Act.put, List.getElem_toArray, List.getElem_cons_zero, List.getElem_cons_succ, List.setIfInBounds_toArray, List.set_cons_zero, List.set_cons_succ]
      refine wpAnyH_take (i := 6) (v := .agg (B K)) rfl (by kernel_rfl) (by kernel_rfl) (by kernel_rfl) (fun _ _ _ h => h) (yieldsIf_load_mid rfl 24 (.tmp 22) rfl ga (off + k * 33) rfl (B K).toList _ (fun w hS => hS.1) Tryd.underlying24 rfl HLK.out) hHeld ?_
      simp only [Act.put, List.getElem_toArray, List.getElem_cons_zero, List.getElem_cons_succ, List.setIfInBounds_toArray, List.set_cons_zero, List.set_cons_succ]
      refine wpAnyH_take (i := 7) (v := .slice (some ⟨ga, off, none⟩) n cap) rfl (by kernel_rfl) (by kernel_rfl) (by kernel_rfl) (fun _ _ _ h => h) (Or.inl ⟨by rfl, fun w hS => by go_simp⟩) hHeld ?_
      simp only [Act.put, List.getElem_toArray, List.getElem_cons_zero, List.getElem_cons_succ, List.setIfInBounds_toArray, List.set_cons_zero, List.set_cons_succ]
      refine wpAnyH_take (i := 8) (v := .int .i64 k) rfl (by kernel_rfl) (by kernel_rfl) (by kernel_rfl) (fun _ _ _ h => h) (Or.inl ⟨by rfl, fun w hS => by go_simp⟩) hHeld ?_
      simp only [Act.put, List.getElem_toArray, List.getElem_cons_zero, List.getElem_cons_succ, List.setIfInBounds_toArray, List.set_cons_zero, List.set_cons_succ]
      refine wpAnyH_take (i := 9) (v := .pointer (some ⟨ga, off + k * 33, none⟩)) rfl (by kernel_rfl) (by kernel_rfl) (by kernel_rfl) (fun _ _ _ h => h) (Or.inl ⟨by rfl, fun w hS => by go_simp⟩) hHeld ?_
      simp only [Act.put, List.getElem_toArray, List.getElem_cons_zero, List.getElem_cons_succ, List.setIfInBounds_toArray, List.set_cons_zero, List.set_cons_succ]
      refine wpAnyH_take (i := 10) (v := .pointer (some ⟨ga, off + k * 33 + 32, none⟩)) rfl (by kernel_rfl) (by kernel_rfl) (by kernel_rfl) (fun _ _ _ h => h) (Or.inl ⟨by rfl, fun w hS => by go_simp⟩) hHeld ?_
      simp only [Act.put, List.getElem_toArray, List.getElem_cons_zero, List.getElem_cons_succ, List.setIfInBounds_toArray, List.set_cons_zero, List.set_cons_succ]
      refine wpAnyH_take (i := 11) (v := .slice va L vc) rfl (by kernel_rfl) (by kernel_rfl) (by kernel_rfl) (fun _ _ _ h => h) (Or.inl ⟨by rfl, fun w hS => by (have s1 := hS.2; go_simp)⟩) hHeld ?_
      simp only [Act.put, List.getElem_toArray, List.getElem_cons_zero, List.getElem_cons_succ, List.setIfInBounds_toArray, List.set_cons_zero, List.set_cons_succ]
      refine wpAnyH_ready (rs := [12]) (by kernel_rfl) (by simp) ?_
      refine AllReadyH.cons rfl (fun KQ hK => ?_) AllReadyH.nil
      go_simp
      refine (HLT.out _ d0).mono ?_
      rintro e x1 ⟨q, rfl, hq, hrow, a1⟩
      have d1 := grow_trans d0 a1
      refine hK.out _ _ (HS.out _ d1) (fun hHeld => ?_)
      clear hK KQ
      refine wpAnyH_take (i := 13) (v := .agg (encP K (.slice (some ⟨q, 0, none⟩) L (L + 5))).toArray) rfl (by kernel_rfl) (by kernel_rfl) (by kernel_rfl) (fun _ _ _ h => h) (Or.inl ⟨by rfl, fun w hS => exec_bd _ _ 75 _ (by rfl) _ (by rw [List.map_toArray]; exact HBP.out q) w⟩) hHeld ?_
      simp only [Act.put, List.getElem_toArray, List.getElem_cons_zero, List.getElem_cons_succ, List.setIfInBounds_toArray, List.set_cons_zero, List.set_cons_succ]
      refine wpAnyH_take (i := 14) (v := .pointer (some ⟨g, k * 33, none⟩)) rfl (by kernel_rfl) (by kernel_rfl) (by kernel_rfl) (fun _ _ _ h => h) (Or.inl ⟨by rfl, fun w hS => by go_simp⟩) hHeld ?_
      simp only [Act.put, List.getElem_toArray, List.getElem_cons_zero, List.getElem_cons_succ, List.setIfInBounds_toArray, List.set_cons_zero, List.set_cons_succ]
      refine wpAnyH_ready (rs := [15]) (by kernel_rfl) (by simp) ?_
      refine AllReadyH.cons rfl (fun KQ hK => ?_) AllReadyH.nil
      have hgx : Below wr.heap.size wr x1 := grow_trans (Below.refl _ _).drew a1
      have hlp1 := hlp.out.grow hgx
      have hsz9 : (encP K (.slice (some ⟨q, 0, none⟩) L (L + 5))).toArray.size = 33 := by rw [List.size_toArray]; exact encP_length _ _ HKY.out.1
      refine step_stL _ rfl _ _ _ rfl g (k * 33) (encP K (.slice (some ⟨q, 0, none⟩) L (L + 5))).toArray rfl rfl (by rw [hsz9]; exact there_grow (hth.out k hlt) hgx) (by rw [hsz9]; exact size_pair) (encP_one _ _ _ _) ?_
      have c4 : Below w.heap.size w (x1.setCells g (k * 33) (encP K (.slice (some ⟨q, 0, none⟩) L (L + 5)))) := setCells_below HG.out _ _ _ d1
      have hqg : q ≠ g := by
        have h1 := hgl.out
        have h2 : wr.drew.heap.size = wr.heap.size := rfl
        intro e
        subst e
        omega
      have hths : ∀ i, i < n → (x1.setCells g (k * 33) (encP K (.slice (some ⟨q, 0, none⟩) L (L + 5)))).there g (i * 33) 33 := fun i hi => World.there_setCells (there_grow (hth.out i hi) hgx) _ _ _
      have hlen9 : (encP K (.slice (some ⟨q, 0, none⟩) L (L + 5))).length = 33 := encP_length _ _ HKY.out.1
      have hlp2 : LentP (x1.setCells g (k * 33) (encP K (.slice (some ⟨q, 0, none⟩) L (L + 5)))) g (k + 1) (fun i => if i = k then q else G i) es := by
        refine ⟨fun i hi => ?_, fun i hi => ?_, fun j hj => ?_⟩
        · by_cases e : i = k
          · subst e
            have e2 : lvP es (fun j => if j = i then q else G j) i = .slice (some ⟨q, 0, none⟩) L (L + 5) := by simp [lvP, HLL.out]
            rw [e2, ← HKE.out]
            exact World.rangeAt_setCells_same _ _ _ _ (by rw [hlen9]; exact there_grow (hth.out i hlt) hgx)
          · have e2 : lvP es (fun j => if j = k then q else G j) i = lvP es G i := by simp [lvP, e]
            rw [e2]
            refine World.rangeAt_setCells_apart (hlp1.pair i (by omega)) _ _ _ (.inr (.inl ?_))
            rw [encP_length _ _ (HR.out i (by rw [← HN.out]; omega)).1.1]
            omega
        · by_cases e : i = k
          · subst e
            simp only [if_true]
            have hrow' : Row x1 q ((es.getD i e00).2 ++ marks (es.getD i e00).2.length) := by rw [← HLL.out]; exact hrow
            exact hrow'.of_block (setCells_other hqg _ _ _)
          · simp only [if_neg e]
            exact (hlp1.row i (by omega)).of_block (setCells_other (hne.out i (by omega)) _ _ _)
        · refine World.rangeAt_setCells_apart (hlp1.spare j hj) _ _ _ (.inr (.inr ?_))
          rw [hlen9]
          have := HN.out
          omega
      have hne2 : ∀ i, i < k + 1 → (fun i => if i = k then q else G i) i ≠ g := by
        intro i hi
        by_cases e : i = k
        · simp only [if_pos e]
          exact hqg
        · simp only [if_neg e]
          exact hne.out i (by omega)
      have HLP2 := hidden hlp2
      have HTH2 := hidden hths
      have HNE2 := hidden hne2
      clear hlp2 hths hne2 hlp1
      generalize hxx : x1.setCells g (k * 33) (encP K (.slice (some ⟨q, 0, none⟩) L (L + 5))) = x2 at c4 HLP2 HTH2 ⊢
      clear hxx
      refine hK.out _ _ (HS.out _ c4) (fun hHeld => ?_)
      clear hK KQ
      refine wpAnyH_done (by kernel_rfl) ?_ _
      have hg2 : Hid (g < x2.heap.size) := by
        obtain ⟨h1, _⟩ := HTH2.out k hlt 0 (by omega)
        obtain ⟨u, hu⟩ := Option.isSome_iff_exists.1 h1
        exact block_lt_of_cell hu
      go_wp2_with fail
      exact ⟨⟨k + 1, _, by omega, by go_num, HLP2, HTH2, hg2, HNE2, c4⟩, by simp [intOf]; omega⟩
    · have hkn : k = n := by omega
      subst hkn
      have z1 : ¬ (k : Int) < (k : Int) := by omega
      go_wp2
      go_ret
      exact HPost.out _ _ _ HG.out hlp.out hbw

end Go.Proofs.YtjcklpdifanjlaaDoor
