/- PackCodes' walk: the law returns true at every proof and all bytes, and nothing that was in memory turns. -/
import Derived.Test.YtpihigcnoifcfaaGreatDoorVw29
import Derived.Test.YtpihigcnoifcfaaGreatDoorVw31
import Derived.Test.YtpihigcnoifcfaaGreatDoorVw32
import Derived.Test.YtpihigcnoifcfaaGreatDoorVw21
import Derived.Test.YtpihigcnoifcfaaGreatDoorVw27
namespace Go.Proofs.YtpihigcnoifcfaaGreatDoor
set_option maxRecDepth 20000
open Go.RowKit

theorem dp_nd {zs : List Int} (hb : Bytes zs) : ∃ k a b c d, dpN zs = nd k a b c d ∧ Nd k a b c d := by
  by_cases h : okD zs
  · obtain ⟨k, a, b, c, d, h1, h2⟩ := dc_nd _ (pR_bytes hb)
    exact ⟨k, a, b, c, d, by rw [dpN, if_pos h, h1], h2⟩
  · exact ⟨0, z32, z32, z32, z32, by rw [dpN, if_neg h], z_nd⟩
theorem dp_dg {zs : List Int} (hb : Bytes zs) : Dg (dpH zs) := by
  unfold dpH
  split
  · exact pR_dg hb
  · exact fun x hx => by simp at hx
theorem dp_len {zs : List Int} : (dpH zs).length ≤ 256 := by
  unfold dpH
  split
  · rename_i h
    rw [pR_len]
    exact h.1.2
  · simp

def seven32 : List Int := 7 :: List.replicate 31 0
theorem built_seven : Tryz.prog.built 25 [(0, .int .u8 7)] = some (B seven32) := by kernel_rfl

theorem own_grown {b b0 : Nat} {w w' : World} {v u : Value} {zs sp : List Int} {n : Nat} {xs : List Value} (h : Own b w v zs sp) (hq : w.ownsRow b0 25 32 u n xs) (hg : w.grownBy w' u.ownBlock) : Own b w' v zs sp :=
  h.of_block fun k hk => hg.block k (h.lt k hk).2 (fun e => by
    rcases hq.2 with ⟨rfl, _⟩ | ⟨g, cap, cur, rfl, _, hb, _⟩
    · simp [Value.ownBlock] at e
    · obtain rfl : k = g := by simpa [Value.ownBlock] using e
      exact own_blk h (show Blk w k 25 cur from hb) (by decide) hk)

theorem lists_three (w : World) (v1 v2 v3 : Value) (z1 z2 z3 s1 s2 s3 : List Int) (o1 : Own 0 w v1 z1 s1) (o2 : Own 0 w v2 z2 s2) (o3 : Own 0 w v3 z3 s3) (a12 : ∀ g, v1.ownBlock = some g → v2.ownBlock ≠ some g) (a13 : ∀ g, v1.ownBlock = some g → v3.ownBlock ≠ some g) (a23 : ∀ g, v2.ownBlock = some g → v3.ownBlock ≠ some g) :
    ListsT 0 w.heap.size 0 3 (fun i => [v1, v2, v3].getD i undef) (fun i => [z1, z2, z3].getD i []) (fun i => [s1, s2, s3].getD i []) (w.alloc (.cells #[v1, v2, v3] 26)) := by
  refine lists_apT 0 w [v1, v2, v3] _ _ 3 rfl ?_ ?_
  · intro i hi
    match i, hi with
    | 0, _ => exact o1.toT
    | 1, _ => exact o2.toT
    | 2, _ => exact o3.toT
  · intro i j hi hj hne g e1 e2
    match i, j, hi, hj with
    | 0, 0, _, _ => omega
    | 1, 1, _, _ => omega
    | 2, 2, _, _ => omega
    | 0, 1, _, _ => exact a12 g e1 e2
    | 1, 0, _, _ => exact a12 g e2 e1
    | 0, 2, _, _ => exact a13 g e1 e2
    | 2, 0, _, _ => exact a13 g e2 e1
    | 1, 2, _, _ => exact a23 g e1 e2
    | 2, 1, _, _ => exact a23 g e2 e1

end Go.Proofs.YtpihigcnoifcfaaGreatDoor

/- node.Up, as a contract. -/
namespace Go.Proofs.YtpihigcnoifcfaaGreatDoor
set_option maxRecDepth 20000
open Go.RowKit

/-- What Up tells. -/
def upE (hs : List (List Int)) (k : Int) (a b c d : List Int) : Int := if 256 < hs.length then 4 else if okN k a b c d = true ∧ k ≠ 2 then 0 else 2
def upH (key : List Int) (hs : List (List Int)) (k : Int) (a b c d : List Int) : List Int := if 256 < hs.length then z32 else if okN k a b c d = true ∧ k ≠ 2 then upD key 0 hs (dgN k a b c d) else z32

theorem upD_drop (key : List Int) (hs : List (List Int)) (h : List Int) (j : Nat) (hj : j < hs.length) : upD key j (hs.drop j) h = jnD (kb key j) (upD key (j + 1) (hs.drop (j + 1)) h) (hs.getD j []) := by
  rw [List.drop_eq_getElem_cons hj]
  have e : hs.getD j [] = hs[j] := by simp [List.getD, hj]
  rw [e, show upD key j (hs[j] :: hs.drop (j + 1)) h = (if kb key j = 0 then inD (upD key (j + 1) (hs.drop (j + 1)) h) hs[j] else inD hs[j] (upD key (j + 1) (hs.drop (j + 1)) h)) from rfl]
  unfold jnD
  rcases kb_two key j with q | q
  · rw [if_pos q, if_neg (by omega)]
  · rw [if_neg (by omega), if_pos q]
theorem upD_ok (key : List Int) : ∀ (hs : List (List Int)) (d : Nat) (h : List Int), h.length = 32 → Bytes h → (upD key d hs h).length = 32 ∧ Bytes (upD key d hs h)
  | [], _, h, h1, h2 => ⟨h1, h2⟩
  | s :: r, d, h, _, _ => by
    unfold upD
    split <;> exact ⟨dig_length _, dig_bytes _⟩
theorem dgN_ok (k : Int) (a b c d : List Int) : (dgN k a b c d).length = 32 ∧ Bytes (dgN k a b c d) := by
  unfold dgN
  split
  · exact ⟨dig_length _, dig_bytes _⟩
  · exact ⟨rfl, z32_bytes⟩

def UpPost (key : List Int) (hs : List (List Int)) (k : Int) (a b c d : List Int) (w : World) (e : Ending) (w' : World) : Prop :=
  e = .returned (.tuple #[.agg (B (upH key hs k a b c d)), .int .i64 (upE hs k a b c d)]) ∧ Below w.heap.size w w'

set_option maxHeartbeats 2000000 in
theorem up_long (key : List Int) (s : Value) (hs : List (List Int)) (N : List Int) (w : World) (hh : HsAt w s hs) (hn : 256 < hs.length) :
    Calls Tryz.prog 47 #[.agg (B key), .agg (encR s N).toArray] w fun e w' => e = .returned (.tuple #[.agg (B z32), .int .i64 4]) ∧ Below w.heap.size w w' := by
  obtain ⟨sa, sc, rfl, _⟩ := hh
  obtain ⟨n, hnn⟩ : ∃ n, n = hs.length := ⟨_, rfl⟩
  rw [← hnn] at hn ⊢
  have HB : Hid (Tryz.prog.built 25 [] = some (B z32)) := built_hash
  have z1 : (256 : Int) < (n : Int) := by omega
  clear hnn
  go_enter Tryz.func47, Tryz.ntmps47
  go_wp2_with (first
    | ((with_reducible refine at_bxd 2 ?_); refine wpList_bx _ rfl _ _ rfl _ rfl ?_; intro w1 g2 hg2 hl2 B2 b1)
    | ((with_reducible refine at_bxd 3 ?_); refine wpList_bx _ rfl _ _ rfl _ rfl ?_; intro w2 g3 hg3 hl3 B3 b2; have c2 := grow_trans b1 b2)
    | ((with_reducible refine at_ald 4 ?_); refine wpList_al _ rfl _ rfl _ zero_hash ?_; intro w3 g4 hg4 hl4 B4 b3; have c3 := grow_trans c2 b3; have s3 := proof_side (B3.grow b3))
    | ((with_reducible refine at_bd ?_); refine wpList_bld _ rfl _ _ rfl _ (by rw [List.map_toArray]; exact HB.out) ?_)
    | ((with_reducible refine at_st 4 ?_); refine wpList_sto _ rfl _ _ _ rfl g4 _ (B z32) rfl rfl B4 (by kernel_rfl) rfl (B_one _) ?_; intro w5 B5 r5))
  exact bodyPost_ret (v := .tuple #[.agg (B z32), .int .i64 4]) (results_row_tmp rfl _ _ g4 _ _ _ _ rfl rfl B5 Tryz.underlying25 (by kernel_rfl)) rfl ⟨rfl, below_row c3 r5 (Nat.le_trans c2.size hg4)⟩

set_option maxHeartbeats 4000000 in
theorem up_bad (key : List Int) (s : Value) (hs : List (List Int)) (k : Int) (a b c d : List Int) (w : World) (hh : HsAt w s hs) (hn : hs.length ≤ 256) (h : Nd k a b c d) (hb : ¬ (okN k a b c d = true ∧ k ≠ 2)) (hL : Laid w) :
    Calls Tryz.prog 47 #[.agg (B key), .agg (encR s (nd k a b c d)).toArray] w fun e w' => e = .returned (.tuple #[.agg (B z32), .int .i64 2]) ∧ Below w.heap.size w w' := by
  obtain ⟨sa, sc, rfl, _⟩ := hh
  have HL := hidden hL
  have HDg : Hid (∀ w', Laid w' → Calls Tryz.prog 71 #[.agg (B (nd k a b c d))] w' (DigNPost k a b c d w')) := fun w' hl => digest_any k a b c d w' h hl
  have HN := hidden h.length
  obtain ⟨n, hnn⟩ : ∃ n, n = hs.length := ⟨_, rfl⟩
  rw [← hnn] at hn ⊢
  have HB : Hid (Tryz.prog.built 25 [] = some (B z32)) := built_hash
  have z1 : ¬ (256 : Int) < (n : Int) := by omega
  obtain ⟨G, hG⟩ : ∃ G, G = dgN k a b c d := ⟨_, rfl⟩
  have HF := hidden (hash_sz G (by rw [hG]; exact (dgN_ok k a b c d).1))
  obtain ⟨E, hE⟩ : ∃ E, E = okE k a b c d := ⟨_, rfl⟩
  have hDP : ∀ w e w', DigNPost k a b c d w e w' → e = .returned (.tuple #[.agg (B G), .int .i64 E]) ∧ Below w.heap.size w w' := fun w e w' q => by rw [hG, hE]; exact q
  have HDP := hidden hDP
  clear hDP
  by_cases hok : okN k a b c d = true
  · have hk2 : k = 2 := by
      by_cases q : k = 2
      · exact q
      · exact absurd ⟨hok, q⟩ hb
    have hE0 : E = 0 := by rw [hE, okE, if_pos hok]
    have HKI : Hid (∀ w' g t s, Blk w' g t (encR s (nd k a b c d)).toArray → w'.cell? ⟨g, 1, none⟩ = some (.int .u8 2)) := fun w' g t s q => by rw [← hk2]; exact proof_kind q
    subst hE0
    obtain ⟨N, hNN⟩ : ∃ N, N = nd k a b c d := ⟨_, rfl⟩
    rw [← hNN] at HDg HN HKI ⊢
    clear hE hG hnn h hb hL hok hk2 hNN
    go_enter Tryz.func47, Tryz.ntmps47
    go_wp2_with (first
      | ((with_reducible refine at_bxd 2 ?_); refine wpList_bx _ rfl _ _ rfl _ rfl ?_; intro w1 g2 hg2 hl2 B2 b1)
      | ((with_reducible refine at_bxd 3 ?_); refine wpList_bx _ rfl _ _ rfl _ rfl ?_; intro w2 g3 hg3 hl3 B3 b2; have c2 := grow_trans b1 b2)
      | ((with_reducible refine at_ald 4 ?_); refine wpList_al _ rfl _ rfl _ zero_hash ?_; intro w3 g4 hg4 hl4 B4 b3; have c3 := grow_trans c2 b3; have D3 := B3.grow b3; have s3 := proof_side D3)
      | ((with_reducible refine at_ldd 16 15 ?_); refine wpList_lde _ rfl _ rfl g3 _ _ N rfl D3 HN.out ?_)
      | (go_at_call 71; refine (HDg.out _ (HL.out.grow c3)).mono ?_; rintro e w4 hq; obtain ⟨rfl, b4⟩ := HDP.out _ _ _ hq; clear hq; have c4 := grow_trans c3 b4; have E3 := D3.grow b4; have E4 := B4.grow b4)
      | ((with_reducible refine at_ald 6 ?_); refine wpList_al _ rfl _ rfl _ zero_hash ?_; intro w5 g6 hg6 hl6 B6 b5; have c5 := grow_trans c4 b5; have F3 := E3.grow b5; have F4 := E4.grow b5)
      | ((with_reducible refine at_st 6 ?_); refine wpList_sto _ rfl _ _ _ rfl g6 _ (B G) rfl rfl B6 HF.out.1 HF.out.2 (B_one _) ?_; intro w6 B7 r6; have c6 := below_row c5 r6 (Nat.le_trans c4.size hg6); have n36 : g3 ≠ g6 := Nat.ne_of_lt (Nat.lt_of_lt_of_le E3.lt hg6); have n46 : g4 ≠ g6 := Nat.ne_of_lt (Nat.lt_of_lt_of_le E4.lt hg6); have G3 := F3.kept r6 n36; have G4 := F4.kept r6 n46; have k3 := HKI.out _ _ _ _ G3; clear n36 n46)
      | ((with_reducible refine at_bd ?_); refine wpList_bld _ rfl _ _ rfl _ (by rw [List.map_toArray]; exact HB.out) ?_)
      | ((with_reducible refine at_st 4 ?_); refine wpList_sto _ rfl _ _ _ rfl g4 _ (B z32) rfl rfl G4 (by kernel_rfl) rfl (B_one _) ?_; intro w7 B8 r7))
    exact bodyPost_ret (v := .tuple #[.agg (B z32), .int .i64 2]) (results_row_tmp rfl _ _ g4 _ _ _ _ rfl rfl B8 Tryz.underlying25 (by kernel_rfl)) rfl ⟨rfl, below_row c6 r7 (Nat.le_trans c2.size hg4)⟩
  · have hE2 : E = 2 := by rw [hE, okE, if_neg hok]
    subst hE2
    obtain ⟨N, hNN⟩ : ∃ N, N = nd k a b c d := ⟨_, rfl⟩
    rw [← hNN] at HDg HN ⊢
    clear hE hG hnn h hb hL hok hNN
    go_enter Tryz.func47, Tryz.ntmps47
    go_wp2_with (first
      | ((with_reducible refine at_bxd 2 ?_); refine wpList_bx _ rfl _ _ rfl _ rfl ?_; intro w1 g2 hg2 hl2 B2 b1)
      | ((with_reducible refine at_bxd 3 ?_); refine wpList_bx _ rfl _ _ rfl _ rfl ?_; intro w2 g3 hg3 hl3 B3 b2; have c2 := grow_trans b1 b2)
      | ((with_reducible refine at_ald 4 ?_); refine wpList_al _ rfl _ rfl _ zero_hash ?_; intro w3 g4 hg4 hl4 B4 b3; have c3 := grow_trans c2 b3; have D3 := B3.grow b3; have s3 := proof_side D3)
      | ((with_reducible refine at_ldd 16 15 ?_); refine wpList_lde _ rfl _ rfl g3 _ _ N rfl D3 HN.out ?_)
      | (go_at_call 71; refine (HDg.out _ (HL.out.grow c3)).mono ?_; rintro e w4 hq; obtain ⟨rfl, b4⟩ := HDP.out _ _ _ hq; clear hq; have c4 := grow_trans c3 b4; have E4 := B4.grow b4)
      | ((with_reducible refine at_ald 6 ?_); refine wpList_al _ rfl _ rfl _ zero_hash ?_; intro w5 g6 hg6 hl6 B6 b5; have c5 := grow_trans c4 b5; have F4 := E4.grow b5)
      | ((with_reducible refine at_st 6 ?_); refine wpList_sto _ rfl _ _ _ rfl g6 _ (B G) rfl rfl B6 HF.out.1 HF.out.2 (B_one _) ?_; intro w6 B7 r6; have c6 := below_row c5 r6 (Nat.le_trans c4.size hg6); have n46 : g4 ≠ g6 := Nat.ne_of_lt (Nat.lt_of_lt_of_le E4.lt hg6); have G4 := F4.kept r6 n46; clear n46)
      | ((with_reducible refine at_bd ?_); refine wpList_bld _ rfl _ _ rfl _ (by rw [List.map_toArray]; exact HB.out) ?_)
      | ((with_reducible refine at_st 4 ?_); refine wpList_sto _ rfl _ _ _ rfl g4 _ (B z32) rfl rfl G4 (by kernel_rfl) rfl (B_one _) ?_; intro w7 B8 r7))
    exact bodyPost_ret (v := .tuple #[.agg (B z32), .int .i64 2]) (results_row_tmp rfl _ _ g4 _ _ _ _ rfl rfl B8 Tryz.underlying25 (by kernel_rfl)) rfl ⟨rfl, below_row c6 r7 (Nat.le_trans c2.size hg4)⟩

set_option maxRecDepth 100000 in
set_option maxHeartbeats 8000000 in
theorem up_good (key : List Int) (s : Value) (hs : List (List Int)) (k : Int) (a b c d : List Int) (w : World) (hkey : Key key) (hh : HsAt w s hs) (hn : hs.length ≤ 256) (h : Nd k a b c d) (hok : okN k a b c d = true) (hk2 : k ≠ 2) (hL : Laid w) :
    Calls Tryz.prog 47 #[.agg (B key), .agg (encR s (nd k a b c d)).toArray] w fun e w' => e = .returned (.tuple #[.agg (B (upD key 0 hs (dgN k a b c d))), .int .i64 0]) ∧ Below w.heap.size w w' := by
  obtain ⟨sa, sc, rfl, hcap, hc, hl⟩ := hh
  have HL := hidden hL
  have HKEY := hidden hkey
  have HDg : Hid (∀ w', Laid w' → Calls Tryz.prog 71 #[.agg (B (nd k a b c d))] w' (DigNPost k a b c d w')) := fun w' hl => digest_any k a b c d w' h hl
  have HN := hidden h.length
  have HC := hidden hc
  have HLS := hidden hl
  have HKL := hidden (path_ln key hkey.1)
  obtain ⟨n, hnn⟩ : ∃ n, n = hs.length := ⟨_, rfl⟩
  have HNN := hidden hnn
  rw [← hnn] at hn ⊢
  have z1 : ¬ (256 : Int) < (n : Int) := by omega
  obtain ⟨G, hG⟩ : ∃ G, G = dgN k a b c d := ⟨_, rfl⟩
  have HGK : Hid (G.length = 32 ∧ Bytes G) := by rw [hG]; exact dgN_ok k a b c d
  have HF0 := hidden (hash_sz G HGK.out.1)
  have hE : okE k a b c d = 0 := by rw [okE, if_pos hok]
  have hDP : ∀ w e w', DigNPost k a b c d w e w' → e = .returned (.tuple #[.agg (B G), .int .i64 0]) ∧ Below w.heap.size w w' := fun w e w' q => by rw [hG, ← hE]; exact q
  have HDP := hidden hDP
  have HKI : Hid (∀ w' g t s, Blk w' g t (encR s (nd k a b c d)).toArray → w'.cell? ⟨g, 1, none⟩ = some (.int .u8 k)) := fun w' g t s q => proof_kind q
  have q2 : (k == 2) = false := by simp [hk2]
  have HX : Hid (∀ m, (upD key m (hs.drop m) G).length = 32 ∧ Bytes (upD key m (hs.drop m) G)) := fun m => upD_ok key _ m G HGK.out.1 HGK.out.2
  rw [← hG]
  obtain ⟨X0, hX0⟩ : ∃ X0, X0 = upD key 0 hs G := ⟨_, rfl⟩
  rw [← hX0]
  have HX0 := hidden hX0
  obtain ⟨N, hNN⟩ : ∃ N, N = nd k a b c d := ⟨_, rfl⟩
  rw [← hNN] at HDg HN HKI ⊢
  have hw0 : IntKind.i64.wrap ((n : Int) - 1) = (n : Int) - 1 := by rw [IntKind.wrap_i64]; omega
  clear hG h hL hok hk2 hNN hE hDP hkey hc hl hcap hnn hX0
  go_enter Tryz.func47, Tryz.ntmps47
  go_wp2_with (first
    | ((with_reducible refine at_bxd 2 ?_); refine wpList_bx _ rfl _ _ rfl _ rfl ?_; intro w1 g2 hg2 hl2 B2 b1)
    | ((with_reducible refine at_bxd 3 ?_); refine wpList_bx _ rfl _ _ rfl _ rfl ?_; intro w2 g3 hg3 hl3 B3 b2; have c2 := grow_trans b1 b2; have D2 := B2.grow b2)
    | ((with_reducible refine at_ald 4 ?_); refine wpList_al _ rfl _ rfl _ zero_hash ?_; intro w3 g4 hg4 hl4 B4 b3; have c3 := grow_trans c2 b3; have D3 := B3.grow b3; have s3 := proof_side D3)
    | ((with_reducible refine at_ldd 16 15 ?_); refine wpList_lde _ rfl _ rfl g3 _ _ N rfl D3 HN.out ?_)
    | (go_at_call 71; refine (HDg.out _ (HL.out.grow c3)).mono ?_; rintro e w4 hq; obtain ⟨rfl, b4⟩ := HDP.out _ _ _ hq; clear hq; have c4 := grow_trans c3 b4; have E3 := D3.grow b4; have E4 := B4.grow b4)
    | ((with_reducible refine at_ald 6 ?_); refine wpList_al _ rfl _ rfl _ zero_hash ?_; intro w5 g6 hg6 hl6 B6 b5; have c5 := grow_trans c4 b5; have F3 := E3.grow b5; have F4 := E4.grow b5)
    | ((with_reducible refine at_st 6 ?_); refine wpList_sto _ rfl _ _ _ rfl g6 _ (B G) rfl rfl B6 HF0.out.1 HF0.out.2 (B_one _) ?_; intro w6 B7 r6; have c6 := below_row c5 r6 (Nat.le_trans c4.size hg6); have n36 : g3 ≠ g6 := Nat.ne_of_lt (Nat.lt_of_lt_of_le E3.lt hg6); have n46 : g4 ≠ g6 := Nat.ne_of_lt (Nat.lt_of_lt_of_le E4.lt hg6); have G3 := F3.kept r6 n36; have G4 := F4.kept r6 n46; have k3 := HKI.out _ _ _ _ G3; have t3 := proof_side G3))
  have l2 := (((D2.grow b3).grow b4).grow b5).lt
  have E2 := ((D2.grow b3).grow b4)
  have n26 : g2 ≠ g6 := Nat.ne_of_lt (Nat.lt_of_lt_of_le E2.lt hg6)
  have G2 := (E2.grow b5).kept r6 n26
  have h06 : w.heap.size ≤ g6 := Nat.le_trans c4.size hg6
  have h04 : w.heap.size ≤ g4 := Nat.le_trans c2.size hg4
  have HN6 := hidden (And.intro n26 (And.intro n36 n46))
  have HG2 := hidden G2
  have HG3 := hidden G3
  have HG4 := hidden G4
  have HB7 := hidden B7
  have HC6 := hidden c6
  have H06 := hidden h06
  clear B2 B3 B4 B6 b1 b2 b3 b4 b5 c2 c3 c4 c5 D2 D3 s3 E2 E3 E4 F3 F4 r6 k3 t3 n26 n36 n46 G2 G3 G4 B7 c6 hg2 hl2 hg3 hl3 hg4 hl4 hg6 hl6 h06 l2 w1 w2 w3 w4 w5
  go_loopw [8] (fun i wr => ∃ m : Nat, m ≤ n ∧ i = .int .i64 ((m : Int) - 1) ∧ Hid (Blk wr g6 25 (B (upD key m (hs.drop m) G))) ∧ Hid (w6.grownBy wr (some g6))) (fun i _ => (intOf i + 1).toNat)
  case atStart => exact ⟨n, by omega, rfl, by rw [HNN.out, List.drop_length]; exact HB7.out, below_grown (Below.refl _ _) _⟩
  case round =>
    obtain ⟨m, hm, rfl, hB, hgr⟩ := hrel
    by_cases hm0 : m = 0
    · subst hm0
      have HB0 : Hid (Blk wr g6 25 (B X0)) := by have := hB.out; rwa [List.drop_zero, ← HX0.out] at this
      have HXX := hidden (hash_sz X0 (by have := (HX.out 0).1; rwa [List.drop_zero, ← HX0.out] at this))
      have HR4 := hidden (HG4.out.kept hgr.out HN6.out.2.2)
      have HCW := hidden (below_row HC6.out hgr.out H06.out)
      clear hB
      go_wp2_with (first
        | ((with_reducible refine at_ldd 47 6 ?_); refine wpList_ld _ rfl _ _ rfl g6 _ rfl HB0.out _ _ Tryz.underlying25 HXX.out.1 ?_)
        | ((with_reducible refine at_st 4 ?_); refine wpList_sto _ rfl _ _ _ rfl g4 _ (B X0) rfl rfl HR4.out HXX.out.1 HXX.out.2 (B_one _) ?_; intro w7 B8 r7))
      exact bodyPost_ret (v := .tuple #[.agg (B X0), .int .i64 0]) (results_row_tmp rfl _ _ g4 _ _ _ _ rfl rfl B8 Tryz.underlying25 HXX.out.1) rfl ⟨rfl, below_row HCW.out r7 h04⟩
    · obtain ⟨j, rfl⟩ : ∃ j, m = j + 1 := ⟨m - 1, by omega⟩
      have ej : (((j + 1 : Nat) : Int) - 1) = (j : Int) := by omega
      rw [ej]
      have hlt : j < hs.length := by rw [← HNN.out]; omega
      obtain ⟨gs, os, rfl, hcc⟩ := HC.out (by omega)
      have z2 : (j : Int) < (n : Int) := by omega
      have z0 : (0 : Int) ≤ (j : Int) := by omega
      have hj256 : j < 256 := by omega
      have hst := upD_drop key hs G j hlt
      obtain ⟨Y, hY⟩ : ∃ Y, Y = hs.getD j [] := ⟨_, rfl⟩
      have HYK : Hid (Y.length = 32 ∧ Bytes Y) := by rw [hY]; exact HLS.out j hlt
      have HYL := hidden (hash_ln Y HYK.out.1)
      have HXK := hidden (HX.out (j + 1))
      have hBB := hB.out
      obtain ⟨X, hXX⟩ : ∃ X, X = upD key (j + 1) (hs.drop (j + 1)) G := ⟨_, rfl⟩
      rw [← hXX] at HXK hst hBB
      rw [← hY] at hst
      have HXL := hidden (hash_ln X HXK.out.1)
      have HF := hidden (hash_sz (jnD (kb key j) X Y) (jnD_length _ _ _))
      have HCW := hidden (below_row HC6.out hgr.out H06.out)
      have HBit : Hid (∀ w', Calls Tryz.prog 16 #[.agg (B key), .int .i64 j] w' fun e w'' => e = .returned (.int .i64 (kb key j)) ∧ Below w'.heap.size w' w'') := fun w' => by
        have := bit_any key j w' HKEY.out
        rwa [kbi_in _ _ hj256] at this
      have HJn : Hid (∀ w', Laid w' → Calls Tryz.prog 72 #[.int .i64 (kb key j), .agg (B X), .agg (B Y)] w' fun e w'' => e = .returned (.agg (B (jnD (kb key j) X Y))) ∧ Below w'.heap.size w' w'') := fun w' hl => njoin_any _ X Y w' HXK.out.1 HYK.out.1 HXK.out.2 HYK.out.2 hl
      have HLd : Hid (∀ w', Below wr.heap.size wr w' → Laid w') := fun w' q => (HL.out.grow HCW.out).grow q
      have HB6 : Hid (∀ w', Below wr.heap.size wr w' → Blk w' g6 25 (B X)) := fun w' q => hBB.grow q
      have HS : Hid (∀ w', Below wr.heap.size wr w' → w'.rangeAt g2 0 (B key).toList ∧ w'.rangeAt g6 0 (B X).toList ∧ w'.cell? ⟨g3, 0, none⟩ = some (.slice (some ⟨gs, os, none⟩) n sc) ∧ w'.rangeAt gs (os + j * 32) (B Y).toList) := fun w' q =>
        ⟨((HG2.out.kept hgr.out HN6.out.1).grow q).range, (hBB.grow q).range, proof_side ((HG3.out.kept hgr.out HN6.out.2.1).grow q), by rw [hY]; exact rng_grow (rng_grow (hcc j hlt) HCW.out) q⟩
      obtain ⟨β, hβ⟩ : ∃ β, β = kb key j := ⟨_, rfl⟩
      rw [← hβ] at HBit HJn hst HF
      obtain ⟨X', hX'⟩ : ∃ X', X' = jnD β X Y := ⟨_, rfl⟩
      have HSZ : Hid ((B X).size = (B X').size) := by show _ = _; rw [B_size, B_size, HXK.out.1, hX', jnD_length]
      rw [← hX'] at HJn hst HF
      have HST := hidden hst
      have hwj : IntKind.i64.wrap ((j : Int) - 1) = (j : Int) - 1 := by rw [IntKind.wrap_i64]; omega
      clear hst hY hXX hβ hX' hcc hlt hB hBB
      go_wp2_with fail
      have d0 : Below wr.heap.size wr wr.drew := (Below.refl _ _).drew
      refine wp_region_last (S := fun w' => w'.rangeAt g2 0 (B key).toList ∧ w'.rangeAt g6 0 (B X).toList ∧ w'.cell? ⟨g3, 0, none⟩ = some (.slice (some ⟨gs, os, none⟩) n sc) ∧ w'.rangeAt gs (os + j * 32) (B Y).toList) 10 (by kernel_rfl) (HS.out _ d0) (fun hHeld => ?_)
      refine wpAnyL_take (i := 0) (v := .agg (B key)) rfl (by kernel_rfl) (by kernel_rfl) (by kernel_rfl) (by kernel_rfl) (by kernel_rfl) (fun _ _ _ h => h) (yieldsIf_load_mid rfl 24 (.tmp 2) rfl g2 (0) rfl (B key).toList _ (fun w hS => hS.1) Tryz.underlying24 rfl HKL.out) hHeld ?_
      simp only [Act.put, List.getElem_toArray, List.getElem_cons_zero, List.setIfInBounds_toArray, List.set_cons_zero, List.set_cons_succ]
      refine wpAnyL_take (i := 1) (v := .int .i64 j) rfl (by kernel_rfl) (by kernel_rfl) (by kernel_rfl) (by kernel_rfl) (by kernel_rfl) (fun _ _ _ h => h) (Or.inl ⟨by rfl, fun w hS => by go_simp⟩) hHeld ?_
      simp only [Act.put, List.getElem_toArray, List.getElem_cons_zero, List.getElem_cons_succ, List.setIfInBounds_toArray, List.set_cons_zero, List.set_cons_succ]
      refine wpAnyL_take (i := 3) (v := .agg (B X)) rfl (by kernel_rfl) (by kernel_rfl) (by kernel_rfl) (by kernel_rfl) (by kernel_rfl) (fun _ _ _ h => h) (yieldsIf_load_mid rfl 25 (.tmp 6) rfl g6 (0) rfl (B X).toList _ (fun w hS => hS.2.1) Tryz.underlying25 rfl HXL.out) hHeld ?_
      simp only [Act.put, List.getElem_toArray, List.getElem_cons_zero, List.getElem_cons_succ, List.setIfInBounds_toArray, List.set_cons_zero, List.set_cons_succ]
      refine wpAnyL_take (i := 4) (v := .pointer (some ⟨g3, 0, none⟩)) rfl (by kernel_rfl) (by kernel_rfl) (by kernel_rfl) (by kernel_rfl) (by kernel_rfl) (fun _ _ _ h => h) (Or.inl ⟨by rfl, fun w hS => by go_simp⟩) hHeld ?_
      simp only [Act.put, List.getElem_toArray, List.getElem_cons_zero, List.getElem_cons_succ, List.setIfInBounds_toArray, List.set_cons_zero, List.set_cons_succ]
      refine wpAnyL_take (i := 5) (v := .slice (some ⟨gs, os, none⟩) n sc) rfl (by kernel_rfl) (by kernel_rfl) (by kernel_rfl) (by kernel_rfl) (by kernel_rfl) (fun _ _ _ h => h) (Or.inl ⟨by rfl, fun w hS => by (have s1 := hS.2.2.1; go_simp)⟩) hHeld ?_
      simp only [Act.put, List.getElem_toArray, List.getElem_cons_zero, List.getElem_cons_succ, List.setIfInBounds_toArray, List.set_cons_zero, List.set_cons_succ]
      refine wpAnyL_take (i := 6) (v := .int .i64 j) rfl (by kernel_rfl) (by kernel_rfl) (by kernel_rfl) (by kernel_rfl) (by kernel_rfl) (fun _ _ _ h => h) (Or.inl ⟨by rfl, fun w hS => by go_simp⟩) hHeld ?_
      simp only [Act.put, List.getElem_toArray, List.getElem_cons_zero, List.getElem_cons_succ, List.setIfInBounds_toArray, List.set_cons_zero, List.set_cons_succ]
      refine wpAnyL_take (i := 7) (v := .pointer (some ⟨gs, os + j * 32, none⟩)) rfl (by kernel_rfl) (by kernel_rfl) (by kernel_rfl) (by kernel_rfl) (by kernel_rfl) (fun _ _ _ h => h) (Or.inl ⟨by rfl, fun w hS => by go_simp⟩) hHeld ?_
      simp only [Act.put, List.getElem_toArray, List.getElem_cons_zero, List.getElem_cons_succ, List.setIfInBounds_toArray, List.set_cons_zero, List.set_cons_succ]
      refine wpAnyL_take (i := 8) (v := .agg (B Y)) rfl (by kernel_rfl) (by kernel_rfl) (by kernel_rfl) (by kernel_rfl) (by kernel_rfl) (fun _ _ _ h => h) (yieldsIf_load_mid rfl 25 (.tmp 44) rfl gs (os + j * 32) rfl (B Y).toList _ (fun w hS => hS.2.2.2) Tryz.underlying25 rfl HYL.out) hHeld ?_
      simp only [Act.put, List.getElem_toArray, List.getElem_cons_zero, List.getElem_cons_succ, List.setIfInBounds_toArray, List.set_cons_zero, List.set_cons_succ]
      refine wpAnyL_one (i := 2) rfl (by kernel_rfl) (fun KQ hK => ?_)
      go_simp
      refine (HBit.out _).mono ?_
      rintro e x1 ⟨rfl, a1⟩
      have d1 := grow_trans d0 a1
      refine hK.out _ _ (HS.out _ d1) (fun hHeld => ?_)
      clear hK KQ
      refine wpAnyL_one (i := 9) rfl (by kernel_rfl) (fun KQ hK => ?_)
      go_simp
      refine (HJn.out _ (HLd.out _ d1)).mono ?_
      rintro e x2 ⟨rfl, a2⟩
      have d2 := grow_trans d1 a2
      refine hK.out _ _ (HS.out _ d2) (fun hHeld => ?_)
      clear hK KQ
      refine wpAnyL_last rfl (by kernel_rfl) (by kernel_rfl) (fun KQ hK => ?_)
      refine step_sto _ rfl _ _ _ rfl g6 _ (B X') rfl rfl (HB6.out _ d2) HF.out.1 HSZ.out (B_one _) ?_
      intro x3 B3 r3
      refine hK.out _ _ ?_
      clear hK KQ
      have hg3 := grown_trans (grown_trans hgr.out (below_grown d2 _)) r3
      go_wp2_with fail
      exact ⟨⟨j, by omega, by go_num, by rw [HST.out]; exact B3, hg3⟩, by simp [intOf]⟩

theorem up_any (key : List Int) (s : Value) (hs : List (List Int)) (k : Int) (a b c d : List Int) (w : World) (hkey : Key key) (hh : HsAt w s hs) (h : Nd k a b c d) (hL : Laid w) :
    Calls Tryz.prog 47 #[.agg (B key), .agg (encR s (nd k a b c d)).toArray] w (UpPost key hs k a b c d w) := by
  unfold UpPost upH upE
  by_cases hn : 256 < hs.length
  · rw [if_pos hn, if_pos hn]
    exact up_long key s hs _ w hh hn
  · rw [if_neg hn, if_neg hn]
    by_cases hb : okN k a b c d = true ∧ k ≠ 2
    · rw [if_pos hb, if_pos hb]
      exact up_good key s hs k a b c d w hkey hh (by omega) h hb.1 hb.2 hL
    · rw [if_neg hb, if_neg hb]
      exact up_bad key s hs k a b c d w hh (by omega) h hb hL

end Go.Proofs.YtpihigcnoifcfaaGreatDoor

/- The document's Up, as a contract. -/
namespace Go.Proofs.YtpihigcnoifcfaaGreatDoor
set_option maxRecDepth 20000
open Go.RowKit

end Go.Proofs.YtpihigcnoifcfaaGreatDoor
