/- PackCodes' walk: the law returns true at every proof and all bytes, and nothing that was in memory turns. -/
import Derived.Test.YtaihiffdjgadeaaDoorPc29
import Derived.Test.YtaihiffdjgadeaaDoorPc31
import Derived.Test.YtaihiffdjgadeaaDoorPc32
import Derived.Test.YtaihiffdjgadeaaDoorRows
import Derived.Test.YtaihiffdjgadeaaDoorPc08
import Derived.ProofKit
import Derived.LaidMore
import Derived.OpenShut
import Derived.Stop.Joined
import Derived.Lib.LaidTab
import Derived.ShutString
import Derived.ChangeOld
import Derived.Below
import Derived.SizedLaws
namespace Go.Proofs.YtaihiffdjgadeaaDoor
set_option maxRecDepth 20000
open Go.RowKit

theorem dp_nd {zs : List Int} (hb : Bytes zs) : ∃ k a b c d, dpN zs = nd k a b c d ∧ Nd k a b c d := by
  by_cases h : okD zs
  · obtain ⟨k, a, b, c, d, h1, h2⟩ := dc_nd _ (pR_bytes hb)
    exact ⟨k, a, b, c, d, by rw [dpN, if_pos h, h1], h2⟩
  · exact ⟨0, z32, z32, z32, z32, by rw [dpN, if_neg h], z_nd⟩
theorem dp_dg {zs : List Int} (hb : Bytes zs) : Dg (dpH zs) := by
  unfold dpH
  split
  · exact pR_dg hb
  · exact fun x hx => by simp at hx
theorem dp_len {zs : List Int} : (dpH zs).length ≤ 256 := by
  unfold dpH
  split
  · rename_i h
    rw [pR_len]
    exact h.1.2
  · simp

def seven32 : List Int := 7 :: List.replicate 31 0
theorem built_seven : Tryd.prog.built 26 [(0, .int .u8 7)] = some (B seven32) := by kernel_rfl

theorem own_grown {b b0 : Nat} {w w' : World} {v u : Value} {zs sp : List Int} {n : Nat} {xs : List Value} (h : Own b w v zs sp) (hq : w.ownsRow b0 26 32 u n xs) (hg : w.grownBy w' u.ownBlock) : Own b w' v zs sp :=
  h.of_block fun k hk => hg.block k (h.lt k hk).2 (fun e => by
    rcases hq.2 with ⟨rfl, _⟩ | ⟨g, cap, cur, rfl, _, hb, _⟩
    · simp [Value.ownBlock] at e
    · obtain rfl : k = g := by simpa [Value.ownBlock] using e
      exact own_blk h (show Blk w k 26 cur from hb) (by decide) hk)

theorem lists_three (w : World) (v1 v2 v3 : Value) (z1 z2 z3 s1 s2 s3 : List Int) (o1 : Own 0 w v1 z1 s1) (o2 : Own 0 w v2 z2 s2) (o3 : Own 0 w v3 z3 s3) (a12 : ∀ g, v1.ownBlock = some g → v2.ownBlock ≠ some g) (a13 : ∀ g, v1.ownBlock = some g → v3.ownBlock ≠ some g) (a23 : ∀ g, v2.ownBlock = some g → v3.ownBlock ≠ some g) :
    ListsT 0 w.heap.size 0 3 (fun i => [v1, v2, v3].getD i undef) (fun i => [z1, z2, z3].getD i []) (fun i => [s1, s2, s3].getD i []) (w.alloc (.cells #[v1, v2, v3] 31)) := by
  refine lists_apT 0 w [v1, v2, v3] _ _ 3 rfl ?_ ?_
  · intro i hi
    match i, hi with
    | 0, _ => exact o1.toT
    | 1, _ => exact o2.toT
    | 2, _ => exact o3.toT
  · intro i j hi hj hne g e1 e2
    match i, j, hi, hj with
    | 0, 0, _, _ => omega
    | 1, 1, _, _ => omega
    | 2, 2, _, _ => omega
    | 0, 1, _, _ => exact a12 g e1 e2
    | 1, 0, _, _ => exact a12 g e2 e1
    | 0, 2, _, _ => exact a13 g e1 e2
    | 2, 0, _, _ => exact a13 g e2 e1
    | 1, 2, _, _ => exact a23 g e1 e2
    | 2, 1, _, _ => exact a23 g e2 e1

set_option maxRecDepth 100000 in
set_option maxHeartbeats 16000000 in
theorem packCodes_walk (s : Value) (hs : List (List Int)) (k : Int) (a b c d : List Int) (v : Value) (zs : List Int) (w : World) (hh : HsAt w s hs) (hp : Plc s) (hN : Nd k a b c d) (hv : Reads w v zs) (hlz : zs.length ≤ 140737488355328 - 4096) (hL : Laid w) :
    Calls Tryd.prog 3 #[.agg (encR s (nd k a b c d)).toArray, v] w fun e w' => e = .returned (.bool true) ∧ Below w.heap.size w w' := by
  have KV := hidden hv.kp
  have KW := hidden (below_kp w)
  have KL := hidden hL.kp
  have KS := hidden hh.kp
  have hbz : Bytes zs := by obtain ⟨_, _, _, _, _, hb, _⟩ := hv; exact hb
  have HBZ := hidden hbz
  have hdg : Dgs hs := hh.dgs
  obtain ⟨fp, hup⟩ := u_proof
  have HUP := hidden hup
  have hSz : ∀ a m c (N : List Int), N.length = 129 → (Tryd.prog.info? 30).map (·.size) = some (encR (.slice a m c) N).toArray.size ∧ (encR (.slice none 0 0) (List.replicate 129 0)).toArray.size = (encR (.slice a m c) N).toArray.size := fun a m c N hN => ⟨encR_sz _ _ hN, by simp [encR, hN]⟩
  have hdp := dp_dg hbz
  have hlen := dp_len (zs := zs)
  obtain ⟨k2, a2, b2, c2, d2, hdn, hN2⟩ := dp_nd hbz
  have hDL : ∀ w' g, Row w' g (zs ++ marks zs.length) → Laid w' → Calls Tryd.prog 10 #[.slice (some ⟨g, 0, none⟩) zs.length (zs.length + 5)] w' (DecPP zs w') := fun w' g h1 h2 => pkdecode_any _ zs w' (row_reads h1 hbz) (by omega) h2
  have hRD : ∀ w', Reads w' v zs → Calls Tryd.prog 11 #[v] w' (DecPP zs w') := fun w' h => rpdecode_any v zs w' h hlz
  have hLE : ∀ w', Reads w' v zs → Calls Tryd.prog 6 #[v] w' fun e w'' => ∃ g, e = .returned (.slice (some ⟨g, 0, none⟩) zs.length (zs.length + 5)) ∧ w'.heap.size ≤ g ∧ Row w'' g (zs ++ marks zs.length) ∧ Below w'.heap.size w' w'' := fun w' h => lent_at v zs w' h (by omega)
  have hKP : ∀ w' g, Row w' g (zs ++ marks zs.length) → Reads w' v zs → Calls Tryd.prog 16 #[.slice (some ⟨g, 0, none⟩) zs.length (zs.length + 5), v] w' fun e w'' => e = .returned (.bool true) ∧ Below w'.heap.size w' w'' := fun w' g h1 h2 => kept_true g v zs w' h1 h2 (by omega)
  have hSB : ∀ w' x y (X : List Int), Reads w' x X → Reads w' y X → Calls Tryd.prog 14 #[x, y] w' fun e w'' => e = .returned (.bool true) ∧ w'' = w' := fun w' x y X h1 h2 => by
    have := same_any x y X X w' h1 h2
    simpa using this
  have HSB := hidden hSB
  have hOL : ∀ w' g, Row w' g (zs ++ marks zs.length) → Own 0 w' (.slice (some ⟨g, 0, none⟩) zs.length (zs.length + 5)) zs (marks zs.length) := fun w' g hrow => by
    have h3 := Own.mk (base := 0) hbz (marks_bytes zs.length) (by rw [marks_length]; simp only [maxLen]; omega) (Nat.zero_le _) hrow
    rw [marks_length] at h3
    exact h3
  have HOL := hidden hOL
  obtain ⟨va, vc, rfl, _⟩ := hv
  obtain ⟨sa, sc, rfl, _⟩ := hh
  obtain ⟨n, hnn⟩ : ∃ n, n = hs.length := ⟨_, rfl⟩
  obtain ⟨l, hll⟩ : ∃ l, l = zs.length := ⟨_, rfl⟩
  obtain ⟨l5, hl5⟩ : ∃ l5, l5 = zs.length + 5 := ⟨_, rfl⟩
  have hEx : ∀ w' (sx : Option Addr × Nat), HsAt w' (.slice sx.1 n sx.2) hs → Laid w' → Calls Tryd.prog 7 #[.agg (encR (.slice sx.1 n sx.2) (nd k a b c d)).toArray] w' fun e w'' => ∃ xa xc sp, e = .returned (.tuple #[.slice xa (exP hs k a b c d).length xc, .int .i64 (chE hs k a b c d)]) ∧ Own w'.heap.size w'' (.slice xa (exP hs k a b c d).length xc) (exP hs k a b c d) sp ∧ Below w'.heap.size w' w'' := fun w' sx h1 h2 => enc_yes h1 hN h2 rfl rfl
  have hRx : ∀ w' (sx : Option Addr × Nat), HsAt w' (.slice sx.1 n sx.2) hs → Calls Tryd.prog 8 #[.agg (encR (.slice sx.1 n sx.2) (nd k a b c d)).toArray] w' fun e w'' => ∃ xa xc sp, e = .returned (.tuple #[.slice xa (exP hs k a b c d).length xc, .int .i64 (chE hs k a b c d)]) ∧ Own w'.heap.size w'' (.slice xa (exP hs k a b c d).length xc) (exP hs k a b c d) sp ∧ Below w'.heap.size w' w'' := fun w' sx h1 => (rpencode_any _ hs k a b c d w' h1 hN).mono fun e w'' ⟨v, sp, e1, e2, e3⟩ => by
    obtain ⟨xa, xc, rfl⟩ := e2.slice
    exact ⟨xa, xc, sp, e1, e2, e3⟩
  have hSi : ∀ w' (sx : Option Addr × Nat), HsAt w' (.slice sx.1 n sx.2) hs → Laid w' → Calls Tryd.prog 9 #[.agg (encR (.slice sx.1 n sx.2) (nd k a b c d)).toArray] w' fun e w'' => e = .returned (.tuple #[.int .i64 ((exP hs k a b c d).length : Int), .int .i64 (chE hs k a b c d)]) ∧ Below w'.heap.size w' w'' := fun w' sx h1 h2 => pksize_any _ hs k a b c d w' h1 hN h2
  have hCk : ∀ w' (sx : Option Addr × Nat), HsAt w' (.slice sx.1 n sx.2) hs → Calls Tryd.prog 12 #[.agg (encR (.slice sx.1 n sx.2) (nd k a b c d)).toArray] w' fun e w'' => e = .returned (.int .i64 (chE hs k a b c d)) ∧ Below w'.heap.size w' w'' := fun w' sx h1 => pkcheck_any _ hs k a b c d w' h1 hN
  have hRk : ∀ w' (sx : Option Addr × Nat), HsAt w' (.slice sx.1 n sx.2) hs → Calls Tryd.prog 13 #[.agg (encR (.slice sx.1 n sx.2) (nd k a b c d)).toArray] w' fun e w'' => e = .returned (.int .i64 (chE hs k a b c d)) ∧ Below w'.heap.size w' w'' := fun w' sx h1 => rpcheck_any _ hs k a b c d w' h1 hN
  have hCP : n ≤ 300 → ∀ w', HsAt w' (.slice sa n sc) hs → Calls Tryd.prog 5 #[.agg (encR (.slice sa n sc) (nd k a b c d)).toArray] w' fun e w'' => ∃ s1 s2, e = .returned (.agg (encR (.slice s1 n s2) (nd k a b c d)).toArray) ∧ w''.ownsRow w'.heap.size 26 32 (.slice s1 n s2) n (flatH hs) ∧ Below w'.heap.size w' w'' := fun h3 w' h1 => by
    rw [hnn] at h1 h3 ⊢
    exact copyProof_any _ hs _ w' hp h1 (by omega) hN.length
  have hSQ : n ≤ 300 → ∀ w' (sx sy : Option Addr × Nat), HsAt w' (.slice sx.1 n sx.2) hs → HsAt w' (.slice sy.1 n sy.2) hs → Calls Tryd.prog 15 #[.agg (encR (.slice sx.1 n sx.2) (nd k a b c d)).toArray, .agg (encR (.slice sy.1 n sy.2) (nd k a b c d)).toArray] w' fun e w'' => e = .returned (.bool true) ∧ Below w'.heap.size w' w'' := fun h3 w' sx sy h1 h2 => by
    have := sameProof_any _ _ _ _ k k a b c d a b c d w' h1 h2 (by omega) hN hN
    simpa using this
  obtain ⟨m, hmm⟩ : ∃ m, m = (dpH zs).length := ⟨_, rfl⟩
  have hSP : ∀ w' (sx sy : Option Addr × Nat) b1 b2, w'.ownsRow b1 26 32 (.slice sx.1 m sx.2) m (flatH (dpH zs)) → w'.ownsRow b2 26 32 (.slice sy.1 m sy.2) m (flatH (dpH zs)) → Calls Tryd.prog 15 #[.agg (encR (.slice sx.1 m sx.2) (dpN zs)).toArray, .agg (encR (.slice sy.1 m sy.2) (dpN zs)).toArray] w' fun e w'' => e = .returned (.bool true) ∧ Below w'.heap.size w' w'' := fun w' sx sy b1 b2' h1 h2 => by
    rw [hmm] at h1 h2 ⊢
    have g1 := hsAt_own (base := b1) h1 hdp
    have g2 := hsAt_own (base := b2') h2 hdp
    have := sameProof_any _ _ _ _ k2 k2 a2 b2 c2 d2 a2 b2 c2 d2 w' g1 g2 (by omega) hN2 hN2
    rw [← hdn] at this
    simpa using this
  have HSP := hidden hSP
  have HOH : Hid (∀ w' b0 (sx : Option Addr × Nat), w'.ownsRow b0 26 32 (.slice sx.1 n sx.2) n (flatH hs) → HsAt w' (.slice sx.1 n sx.2) hs) := fun w' b0 sx h => hsAt_own (base := b0) (by rw [← hnn]; exact h) hdg
  have HDP : Hid (∀ w0 e w1, DecPP zs w0 e w1 → ∃ qa qc, e = .returned (.tuple #[.agg (encR (.slice qa m qc) (dpN zs)).toArray, .int .i64 (dpE zs)]) ∧ w1.ownsRow w0.heap.size 26 32 (.slice qa m qc) m (flatH (dpH zs)) ∧ Below w0.heap.size w0 w1) := fun w0 e w1 h => by rw [hmm]; exact h
  have HM6 : Hid (m ≤ 256) := by show _ ≤ _; rw [hmm]; exact hlen
  have hM129 : (dpN zs).length = 129 := by rw [hdn]; exact hN2.length
  have HSzP : Hid (∀ a' c', (Tryd.prog.info? 30).map (·.size) = some (encR (.slice a' n c') (nd k a b c d)).toArray.size ∧ (encR (.slice none 0 0) (List.replicate 129 0)).toArray.size = (encR (.slice a' n c') (nd k a b c d)).toArray.size) := fun a' c' => hSz a' n c' _ hN.length
  have HSzQ : Hid (∀ a' c', (Tryd.prog.info? 30).map (·.size) = some (encR (.slice a' m c') (dpN zs)).toArray.size ∧ (encR (.slice none 0 0) (List.replicate 129 0)).toArray.size = (encR (.slice a' m c') (dpN zs)).toArray.size) := fun a' c' => hSz a' m c' _ hM129
  rw [← hl5, ← hll] at hDL hLE hKP HOL
  rw [← hll] at KV hRD ⊢
  rw [← hnn] at KS ⊢
  obtain ⟨X, hX⟩ : ∃ X, X = exP hs k a b c d := ⟨_, rfl⟩
  rw [← hX] at hEx hRx hSi
  obtain ⟨L, hLL⟩ : ∃ L, L = X.length := ⟨_, rfl⟩
  rw [← hLL] at hEx hRx hSi
  have HDL := hidden hDL
  have HRD := hidden hRD
  have HLE := hidden hLE
  have HKP := hidden hKP
  have HEx := hidden hEx
  have HRx := hidden hRx
  have HSi := hidden hSi
  have HCk := hidden hCk
  have HRk := hidden hRk
  clear hSz hbz hdg hup hdp hlen hdn hN2 hDL hRD hLE hKP hSB hOL hEx hRx hSi hCk hRk hSP hM129 hX hLL hll hl5 hmm hN hp hL hlz
  generalize nd k a b c d = N at *
  generalize dpN zs = M at *
  generalize flatH hs = FS at *
  generalize flatH (dpH zs) = FS2 at *
  generalize dpE zs = E2 at *
  generalize chE hs k a b c d = E at *
  by_cases h300 : 300 < n
  · have z3 : (300 : Int) < (n : Int) := by omega
    clear hCP hSQ
    go_enter Tryd.func3, Tryd.ntmps3
    go_wp2_with (first
      | ((with_reducible refine at_bxd 2 ?_); refine wpList_bx _ rfl _ _ rfl _ rfl ?_; intro w1 g2 hg2 hl2 B2 b1; have cx := proof_side B2))
    go_ret
    exact ⟨rfl, (KW.out.step b1).now⟩
  · have z3 : ¬ (300 : Int) < (n : Int) := by omega
    have HCP := hidden (hCP (by omega))
    have HSQ := hidden (hSQ (by omega))
    clear hCP hSQ h300 hnn
    go_enter Tryd.func3, Tryd.ntmps3
    go_wp2_with (first
      | ((with_reducible refine at_bxd 2 ?_); refine wpList_bx _ rfl _ _ rfl _ rfl ?_; intro x1 g2 hg1 hl1 bq1 q1; replace KV := hidden (KV.out.step q1); replace KW := hidden (KW.out.step q1); replace KL := hidden (KL.out.step q1); replace KS := hidden (KS.out.step q1); have K2 := hidden bq1.kp; clear hg1 hl1 bq1 q1; have cx2 := proof_side K2.out.now)
      | ((with_reducible refine at_ldd 26 2 ?_); clear cx2; refine wpList_lds _ rfl _ _ rfl g2 _ _ rfl K2.out.now HUP.out (HSzP.out sa sc).1 ?_)
      | ((with_reducible refine at_ald 5 ?_); refine wpList_al _ rfl _ rfl _ zero_proof ?_; intro x3 g5 hg5 hl3 bq3 q3; clear hl3)
      | ((with_reducible refine at_st 5 ?_); refine wpList_sto _ rfl _ _ _ rfl g5 _ ((encR (.slice ka n kc) N).toArray) rfl rfl bq3 (HSzP.out ka kc).1 (HSzP.out ka kc).2 (encR_one _ _ _ _) ?_; intro x4 by4 r4; have q4 := below_row q3 r4 hg5; replace KV := hidden (KV.out.step q4); replace KW := hidden (KW.out.step q4); replace KL := hidden (KL.out.step q4); replace KS := hidden (KS.out.step q4); replace K2 := hidden (K2.out.step q4); replace KK := hidden (KK.out.step q4); have K5 := hidden by4.kp; clear q4 q3 r4 by4 bq3 hg5)
      | ((with_reducible refine at_ldd 31 2 ?_); refine wpList_lds _ rfl _ _ rfl g2 _ _ rfl K2.out.now HUP.out (HSzP.out sa sc).1 ?_)
      | ((with_reducible refine at_ldd 36 2 ?_); refine wpList_lds _ rfl _ _ rfl g2 _ _ rfl K2.out.now HUP.out (HSzP.out sa sc).1 ?_)
      | ((with_reducible refine at_ldd 41 5 ?_); refine wpList_lds _ rfl _ _ rfl g5 _ _ rfl K5.out.now HUP.out (HSzP.out ka kc).1 ?_)
      | ((with_reducible refine at_ldd 46 2 ?_); refine wpList_lds _ rfl _ _ rfl g2 _ _ rfl K2.out.now HUP.out (HSzP.out sa sc).1 ?_)
      | ((with_reducible refine at_ald 15 ?_); refine wpList_al _ rfl _ rfl _ zero_proof ?_; intro x11 g15 hg15 hl11 bq11 q11; clear hl11)
      | ((with_reducible refine at_st 15 ?_); refine wpList_sto _ rfl _ _ _ rfl g15 _ ((encR (.slice qa m qc) M).toArray) rfl rfl bq11 (HSzQ.out qa qc).1 (HSzQ.out qa qc).2 (encR_one _ _ _ _) ?_; intro x12 by12 r12; have q12 := below_row q11 r12 hg15; replace KV := hidden (KV.out.step q12); replace KW := hidden (KW.out.step q12); replace KL := hidden (KL.out.step q12); replace KS := hidden (KS.out.step q12); replace K2 := hidden (K2.out.step q12); replace KK := hidden (KK.out.step q12); replace K5 := hidden (K5.out.step q12); replace KR := hidden (KR.out.step q12); replace KX := hidden (KX.out.step q12); replace KY := hidden (KY.out.step q12); replace KZ := hidden (KZ.out.step q12); replace KQ := hidden (KQ.out.step q12); have K15 := hidden by12.kp; clear q12 q11 r12 by12 bq11 hg15)
      | ((with_reducible refine at_ald 17 ?_); refine wpList_al _ rfl _ rfl _ zero_proof ?_; intro x14 g17 hg17 hl14 bq14 q14; clear hl14)
      | ((with_reducible refine at_st 17 ?_); refine wpList_sto _ rfl _ _ _ rfl g17 _ ((encR (.slice q2a m q2c) M).toArray) rfl rfl bq14 (HSzQ.out q2a q2c).1 (HSzQ.out q2a q2c).2 (encR_one _ _ _ _) ?_; intro x15 by15 r15; have q15 := below_row q14 r15 hg17; replace KV := hidden (KV.out.step q15); replace KW := hidden (KW.out.step q15); replace KL := hidden (KL.out.step q15); replace KS := hidden (KS.out.step q15); replace K2 := hidden (K2.out.step q15); replace KK := hidden (KK.out.step q15); replace K5 := hidden (K5.out.step q15); replace KR := hidden (KR.out.step q15); replace KX := hidden (KX.out.step q15); replace KY := hidden (KY.out.step q15); replace KZ := hidden (KZ.out.step q15); replace KQ := hidden (KQ.out.step q15); replace K15 := hidden (K15.out.step q15); replace KQ2 := hidden (KQ2.out.step q15); have K17 := hidden by15.kp; clear q15 q14 r15 by15 bq14 hg17)
      | ((with_reducible refine at_ald 19 ?_); refine wpList_al _ rfl _ rfl _ zero_proof ?_; intro x17 g19 hg19 hl17 bq17 q17; clear hl17)
      | ((with_reducible refine at_st 19 ?_); refine wpList_sto _ rfl _ _ _ rfl g19 _ ((encR (.slice oa m oc) M).toArray) rfl rfl bq17 (HSzQ.out oa oc).1 (HSzQ.out oa oc).2 (encR_one _ _ _ _) ?_; intro x18 by18 r18; have q18 := below_row q17 r18 hg19; replace KV := hidden (KV.out.step q18); replace KW := hidden (KW.out.step q18); replace KL := hidden (KL.out.step q18); replace KS := hidden (KS.out.step q18); replace K2 := hidden (K2.out.step q18); replace KK := hidden (KK.out.step q18); replace K5 := hidden (K5.out.step q18); replace KR := hidden (KR.out.step q18); replace KX := hidden (KX.out.step q18); replace KY := hidden (KY.out.step q18); replace KZ := hidden (KZ.out.step q18); replace KQ := hidden (KQ.out.step q18); replace K15 := hidden (K15.out.step q18); replace KQ2 := hidden (KQ2.out.step q18); replace K17 := hidden (K17.out.step q18); replace KO := hidden (KO.out.step q18); have K19 := hidden by18.kp; clear q18 q17 r18 by18 bq17 hg19)
      | (go_at_call 11; have hpq := (fun g (e : (Value.slice qa m qc).ownBlock = some g) => Nat.not_le_of_lt (KQ.out.now.lt g e).2); refine (HRD.out _ KV.out.now).mono ?_; rintro e x16 hd3; obtain ⟨oa, oc, rfl, oo, hq3⟩ := HDP.out _ _ _ hd3; replace KV := hidden (KV.out.step hq3); replace KW := hidden (KW.out.step hq3); replace KL := hidden (KL.out.step hq3); replace KS := hidden (KS.out.step hq3); replace K2 := hidden (K2.out.step hq3); replace KK := hidden (KK.out.step hq3); replace K5 := hidden (K5.out.step hq3); replace KR := hidden (KR.out.step hq3); replace KX := hidden (KX.out.step hq3); replace KY := hidden (KY.out.step hq3); replace KZ := hidden (KZ.out.step hq3); replace KQ := hidden (KQ.out.step hq3); replace K15 := hidden (K15.out.step hq3); replace KQ2 := hidden (KQ2.out.step hq3); replace K17 := hidden (K17.out.step hq3); have HT3 := hidden (show ∀ g, (Value.slice oa m oc).ownBlock = some g → (Value.slice qa m qc).ownBlock ≠ some g from fun g e e' => hpq g e' (oo.lt g e).1); have KO := hidden (ownHs_kp oo); clear oo hq3 hpq; have mk_frootcellarref17Decode_1 : Hid True := trivial)
      | (go_at_call 10; have mk := mk_fpackDecode_1; clear mk; have hpq := (fun g (e : (Value.slice qa m qc).ownBlock = some g) => Nat.not_le_of_lt (KQ.out.now.lt g e).2); refine (HDL.out _ _ KR.out.now KL.out.now).mono ?_; rintro e x13 hd2; obtain ⟨q2a, q2c, rfl, oq2, hq2⟩ := HDP.out _ _ _ hd2; replace KV := hidden (KV.out.step hq2); replace KW := hidden (KW.out.step hq2); replace KL := hidden (KL.out.step hq2); replace KS := hidden (KS.out.step hq2); replace K2 := hidden (K2.out.step hq2); replace KK := hidden (KK.out.step hq2); replace K5 := hidden (K5.out.step hq2); replace KR := hidden (KR.out.step hq2); replace KX := hidden (KX.out.step hq2); replace KY := hidden (KY.out.step hq2); replace KZ := hidden (KZ.out.step hq2); replace KQ := hidden (KQ.out.step hq2); replace K15 := hidden (K15.out.step hq2); have HT2 := hidden (show ∀ g, (Value.slice q2a m q2c).ownBlock = some g → (Value.slice qa m qc).ownBlock ≠ some g from fun g e e' => hpq g e' (oq2.lt g e).1); have KQ2 := hidden (ownHs_kp oq2); clear oq2 hq2 hpq; have mk_fpackDecode_2 : Hid True := trivial)
      | (go_at_call 10; have hbq := KW.out.now.size; refine (HDL.out _ _ KR.out.now KL.out.now).mono ?_; rintro e x10 hd1; obtain ⟨qa, qc, rfl, oq, hq1⟩ := HDP.out _ _ _ hd1; replace KV := hidden (KV.out.step hq1); replace KW := hidden (KW.out.step hq1); replace KL := hidden (KL.out.step hq1); replace KS := hidden (KS.out.step hq1); replace K2 := hidden (K2.out.step hq1); replace KK := hidden (KK.out.step hq1); replace K5 := hidden (K5.out.step hq1); replace KR := hidden (KR.out.step hq1); replace KX := hidden (KX.out.step hq1); replace KY := hidden (KY.out.step hq1); replace KZ := hidden (KZ.out.step hq1); have KQ := hidden (ownHs_kp (own_base oq hbq)); clear oq hq1 hbq; have mk_fpackDecode_1 : Hid True := trivial)
      | (go_at_call 9; refine (HSi.out _ (_, _) KS.out.now KL.out.now).mono ?_; rintro e x9 ⟨rfl, q9⟩; replace KV := hidden (KV.out.step q9); replace KW := hidden (KW.out.step q9); replace KL := hidden (KL.out.step q9); replace KS := hidden (KS.out.step q9); replace K2 := hidden (K2.out.step q9); replace KK := hidden (KK.out.step q9); replace K5 := hidden (K5.out.step q9); replace KR := hidden (KR.out.step q9); replace KX := hidden (KX.out.step q9); replace KY := hidden (KY.out.step q9); replace KZ := hidden (KZ.out.step q9); have mk_fpackSize_1 : Hid True := trivial; clear q9)
      | (go_at_call 8; refine (HRx.out _ (_, _) (HOH.out _ _ (_, _) KK.out.now)).mono ?_; rintro e x8 ⟨za, zc, spz, rfl, oz, q8⟩; replace KV := hidden (KV.out.step q8); replace KW := hidden (KW.out.step q8); replace KL := hidden (KL.out.step q8); replace KS := hidden (KS.out.step q8); replace K2 := hidden (K2.out.step q8); replace KK := hidden (KK.out.step q8); replace K5 := hidden (K5.out.step q8); replace KR := hidden (KR.out.step q8); replace KX := hidden (KX.out.step q8); replace KY := hidden (KY.out.step q8); have KZ := hidden oz.kp; clear oz; have mk_frootcellarref17Encode_1 : Hid True := trivial; clear q8)
      | (go_at_call 7; have mk := mk_fpackEncode_1; clear mk; have hpos := KR.out.now.lt; have hpx := (fun g e => (KX.out.now.lt g e).2); refine (HEx.out _ (_, _) KS.out.now KL.out.now).mono ?_; rintro e x7 ⟨ya, yc, spy, rfl, oy, q7⟩; replace KV := hidden (KV.out.step q7); replace KW := hidden (KW.out.step q7); replace KL := hidden (KL.out.step q7); replace KS := hidden (KS.out.step q7); replace K2 := hidden (K2.out.step q7); replace KK := hidden (KK.out.step q7); replace K5 := hidden (K5.out.step q7); replace KR := hidden (KR.out.step q7); replace KX := hidden (KX.out.step q7); have HTY := hidden (show ∀ g, (Value.slice ya L yc).ownBlock = some g → gl < g ∧ ∀ g', (Value.slice xa L xc).ownBlock = some g' → g' < g from fun g e => ⟨Nat.lt_of_lt_of_le hpos (oy.lt g e).1, fun g' e' => Nat.lt_of_lt_of_le (hpx g' e') (oy.lt g e).1⟩); have KY := hidden (oy.later (Nat.zero_le _)).kp; clear oy hpos hpx; have mk_fpackEncode_2 : Hid True := trivial; clear q7)
      | (go_at_call 7; have hpos := KR.out.now.lt; refine (HEx.out _ (_, _) KS.out.now KL.out.now).mono ?_; rintro e x6 ⟨xa, xc, spx, rfl, ox, q6⟩; replace KV := hidden (KV.out.step q6); replace KW := hidden (KW.out.step q6); replace KL := hidden (KL.out.step q6); replace KS := hidden (KS.out.step q6); replace K2 := hidden (K2.out.step q6); replace KK := hidden (KK.out.step q6); replace K5 := hidden (K5.out.step q6); replace KR := hidden (KR.out.step q6); have HTX := hidden (show ∀ g, (Value.slice xa L xc).ownBlock = some g → gl < g from fun g e => Nat.lt_of_lt_of_le hpos (ox.lt g e).1); have KX := hidden (ox.later (Nat.zero_le _)).kp; clear ox hpos; have mk_fpackEncode_1 : Hid True := trivial; clear q6)
      | (go_at_call 6; refine (HLE.out _ KV.out.now).mono ?_; rintro e x5 ⟨gl, rfl, hgl, rl, q5⟩; replace KV := hidden (KV.out.step q5); replace KW := hidden (KW.out.step q5); replace KL := hidden (KL.out.step q5); replace KS := hidden (KS.out.step q5); replace K2 := hidden (K2.out.step q5); replace KK := hidden (KK.out.step q5); replace K5 := hidden (K5.out.step q5); have KR := hidden (row_kp rl); clear rl hgl; have mk_frootcellarkitLentBytes_1 : Hid True := trivial; clear q5)
      | (go_at_call 5; refine (HCP.out _ KS.out.now).mono ?_; rintro e x2 ⟨ka, kc, rfl, ok, q2⟩; replace KV := hidden (KV.out.step q2); replace KW := hidden (KW.out.step q2); replace KL := hidden (KL.out.step q2); replace KS := hidden (KS.out.step q2); replace K2 := hidden (K2.out.step q2); have KK := hidden (ownHs_kp ok); clear ok; have mk_frootcellarkitCopyProof_1 : Hid True := trivial; clear q2))

    refine wp_region_held_drew (S := fun w' => Below x18.heap.size x18 w') (by kernel_rfl) ((Below.refl _ _).drew) (fun hHeld => ?_)
    refine wpAnyH_take (i := 0) (v := .agg (encR (.slice sa n sc) N).toArray) rfl (by kernel_rfl) (by kernel_rfl) (by kernel_rfl) (fun _ _ _ h => h) (yieldsIf_load_mid rfl 30 (.tmp 2) rfl g2 0 rfl (encR (.slice sa n sc) N).toArray.toList _ (fun w hS => (K2.out _ hS).range) HUP.out rfl (by rw [Array.length_toList]; exact (HSzP.out sa sc).1)) hHeld ?_
    simp only [Act.put, List.getElem_toArray, List.getElem_cons_zero, List.setIfInBounds_toArray, List.set_cons_zero, List.set_cons_succ]
    refine wpAnyH_take (i := 2) (v := .agg (encR (.slice ka n kc) N).toArray) rfl (by kernel_rfl) (by kernel_rfl) (by kernel_rfl) (fun _ _ _ h => h) (yieldsIf_load_mid rfl 30 (.tmp 5) rfl g5 0 rfl (encR (.slice ka n kc) N).toArray.toList _ (fun w hS => (K5.out _ hS).range) HUP.out rfl (by rw [Array.length_toList]; exact (HSzP.out ka kc).1)) hHeld ?_
    simp only [Act.put, List.getElem_toArray, List.getElem_cons_zero, List.getElem_cons_succ, List.setIfInBounds_toArray, List.set_cons_zero, List.set_cons_succ]
    refine wpAnyH_ready (rs := [1]) (by kernel_rfl) (by simp) ?_
    refine AllReadyH.cons rfl (fun KQ hK => ?_) AllReadyH.nil
    go_simp
    refine (HCk.out _ (_, _) (KS.out _ hHeld)).mono ?_
    rintro e y1 ⟨rfl, a1⟩
    refine hK.out _ _ (grow_trans hHeld a1) (fun hHeld => ?_)
    clear hK KQ
    refine wpAnyH_ready (rs := [3]) (by kernel_rfl) (by simp) ?_
    refine AllReadyH.cons rfl (fun KQ hK => ?_) AllReadyH.nil
    go_simp
    refine (HRk.out _ (_, _) (HOH.out _ _ (_, _) (KK.out _ hHeld))).mono ?_
    rintro e y2 ⟨rfl, a2⟩
    refine hK.out _ _ (grow_trans hHeld a2) (fun hHeld => ?_)
    clear hK KQ
    refine wpAnyH_take (i := 4) (v := .bool false) rfl (by kernel_rfl) (by kernel_rfl) (by kernel_rfl) (fun _ _ _ h => h) (Or.inl ⟨by rfl, fun w hS => by go_simp⟩) hHeld ?_
    simp only [Act.put, List.getElem_toArray, List.getElem_cons_zero, List.getElem_cons_succ, List.setIfInBounds_toArray, List.set_cons_zero, List.set_cons_succ]
    refine wpAnyH_take (i := 5) (v := .bool false) rfl (by kernel_rfl) (by kernel_rfl) (by kernel_rfl) (fun _ _ _ h => h) (Or.inl ⟨by rfl, fun w hS => by go_simp⟩) hHeld ?_
    simp only [Act.put, List.getElem_toArray, List.getElem_cons_zero, List.getElem_cons_succ, List.setIfInBounds_toArray, List.set_cons_zero, List.set_cons_succ]
    refine wpAnyH_take (i := 6) (v := .slice xa L xc) rfl (by kernel_rfl) (by kernel_rfl) (by kernel_rfl) (fun _ _ _ h => h) (Or.inl ⟨by rfl, fun w hS => by go_simp⟩) hHeld ?_
    simp only [Act.put, List.getElem_toArray, List.getElem_cons_zero, List.getElem_cons_succ, List.setIfInBounds_toArray, List.set_cons_zero, List.set_cons_succ]
    refine wpAnyH_take (i := 7) (v := .slice za L zc) rfl (by kernel_rfl) (by kernel_rfl) (by kernel_rfl) (fun _ _ _ h => h) (Or.inl ⟨by rfl, fun w hS => by go_simp⟩) hHeld ?_
    simp only [Act.put, List.getElem_toArray, List.getElem_cons_zero, List.getElem_cons_succ, List.setIfInBounds_toArray, List.set_cons_zero, List.set_cons_succ]
    refine wpAnyH_ready (rs := [8]) (by kernel_rfl) (by simp) ?_
    refine AllReadyH.cons rfl (fun KQ hK => ?_) AllReadyH.nil
    go_simp
    refine (HSB.out _ _ _ X (KX.out _ hHeld).reads (KZ.out _ hHeld).reads).mono ?_
    rintro e y3 ⟨rfl, rfl⟩
    refine hK.out _ _ (hHeld) (fun hHeld => ?_)
    clear hK KQ
    refine wpAnyH_take (i := 9) (v := .bool false) rfl (by kernel_rfl) (by kernel_rfl) (by kernel_rfl) (fun _ _ _ h => h) (Or.inl ⟨by rfl, fun w hS => by go_simp⟩) hHeld ?_
    simp only [Act.put, List.getElem_toArray, List.getElem_cons_zero, List.getElem_cons_succ, List.setIfInBounds_toArray, List.set_cons_zero, List.set_cons_succ]
    refine wpAnyH_take (i := 10) (v := .bool false) rfl (by kernel_rfl) (by kernel_rfl) (by kernel_rfl) (fun _ _ _ h => h) (Or.inl ⟨by rfl, fun w hS => by go_simp⟩) hHeld ?_
    simp only [Act.put, List.getElem_toArray, List.getElem_cons_zero, List.getElem_cons_succ, List.setIfInBounds_toArray, List.set_cons_zero, List.set_cons_succ]
    refine wpAnyH_take (i := 11) (v := .bool false) rfl (by kernel_rfl) (by kernel_rfl) (by kernel_rfl) (fun _ _ _ h => h) (Or.inl ⟨by rfl, fun w hS => by go_simp⟩) hHeld ?_
    simp only [Act.put, List.getElem_toArray, List.getElem_cons_zero, List.getElem_cons_succ, List.setIfInBounds_toArray, List.set_cons_zero, List.set_cons_succ]
    refine wpAnyH_take (i := 12) (v := .slice ya L yc) rfl (by kernel_rfl) (by kernel_rfl) (by kernel_rfl) (fun _ _ _ h => h) (Or.inl ⟨by rfl, fun w hS => by go_simp⟩) hHeld ?_
    simp only [Act.put, List.getElem_toArray, List.getElem_cons_zero, List.getElem_cons_succ, List.setIfInBounds_toArray, List.set_cons_zero, List.set_cons_succ]
    refine wpAnyH_take (i := 13) (v := .slice za L zc) rfl (by kernel_rfl) (by kernel_rfl) (by kernel_rfl) (fun _ _ _ h => h) (Or.inl ⟨by rfl, fun w hS => by go_simp⟩) hHeld ?_
    simp only [Act.put, List.getElem_toArray, List.getElem_cons_zero, List.getElem_cons_succ, List.setIfInBounds_toArray, List.set_cons_zero, List.set_cons_succ]
    refine wpAnyH_ready (rs := [14]) (by kernel_rfl) (by simp) ?_
    refine AllReadyH.cons rfl (fun KQ hK => ?_) AllReadyH.nil
    go_simp
    refine (HSB.out _ _ _ X (KY.out _ hHeld).reads (KZ.out _ hHeld).reads).mono ?_
    rintro e y4 ⟨rfl, rfl⟩
    refine hK.out _ _ (hHeld) (fun hHeld => ?_)
    clear hK KQ
    refine wpAnyH_take (i := 15) (v := .bool false) rfl (by kernel_rfl) (by kernel_rfl) (by kernel_rfl) (fun _ _ _ h => h) (Or.inl ⟨by rfl, fun w hS => by go_simp⟩) hHeld ?_
    simp only [Act.put, List.getElem_toArray, List.getElem_cons_zero, List.getElem_cons_succ, List.setIfInBounds_toArray, List.set_cons_zero, List.set_cons_succ]
    refine wpAnyH_take (i := 16) (v := .bool false) rfl (by kernel_rfl) (by kernel_rfl) (by kernel_rfl) (fun _ _ _ h => h) (Or.inl ⟨by rfl, fun w hS => by go_simp⟩) hHeld ?_
    simp only [Act.put, List.getElem_toArray, List.getElem_cons_zero, List.getElem_cons_succ, List.setIfInBounds_toArray, List.set_cons_zero, List.set_cons_succ]
    refine wpAnyH_take (i := 17) (v := .bool false) rfl (by kernel_rfl) (by kernel_rfl) (by kernel_rfl) (fun _ _ _ h => h) (Or.inl ⟨by rfl, fun w hS => by go_simp⟩) hHeld ?_
    simp only [Act.put, List.getElem_toArray, List.getElem_cons_zero, List.getElem_cons_succ, List.setIfInBounds_toArray, List.set_cons_zero, List.set_cons_succ]
    refine wpAnyH_take (i := 18) (v := .int .i64 E) rfl (by kernel_rfl) (by kernel_rfl) (by kernel_rfl) (fun _ _ _ h => h) (Or.inl ⟨by rfl, fun w hS => by go_simp⟩) hHeld ?_
    simp only [Act.put, List.getElem_toArray, List.getElem_cons_zero, List.getElem_cons_succ, List.setIfInBounds_toArray, List.set_cons_zero, List.set_cons_succ]
    refine wpAnyH_take (i := 19) (v := .int .i64 E) rfl (by kernel_rfl) (by kernel_rfl) (by kernel_rfl) (fun _ _ _ h => h) (Or.inl ⟨by rfl, fun w hS => by go_simp⟩) hHeld ?_
    simp only [Act.put, List.getElem_toArray, List.getElem_cons_zero, List.getElem_cons_succ, List.setIfInBounds_toArray, List.set_cons_zero, List.set_cons_succ]
    refine wpAnyH_take (i := 20) (v := .bool false) rfl (by kernel_rfl) (by kernel_rfl) (by kernel_rfl) (fun _ _ _ h => h) (Or.inl ⟨by rfl, fun w hS => by go_simp⟩) hHeld ?_
    simp only [Act.put, List.getElem_toArray, List.getElem_cons_zero, List.getElem_cons_succ, List.setIfInBounds_toArray, List.set_cons_zero, List.set_cons_succ]
    refine wpAnyH_take (i := 21) (v := .bool false) rfl (by kernel_rfl) (by kernel_rfl) (by kernel_rfl) (fun _ _ _ h => h) (Or.inl ⟨by rfl, fun w hS => by go_simp⟩) hHeld ?_
    simp only [Act.put, List.getElem_toArray, List.getElem_cons_zero, List.getElem_cons_succ, List.setIfInBounds_toArray, List.set_cons_zero, List.set_cons_succ]
    refine wpAnyH_take (i := 22) (v := .bool false) rfl (by kernel_rfl) (by kernel_rfl) (by kernel_rfl) (fun _ _ _ h => h) (Or.inl ⟨by rfl, fun w hS => by go_simp⟩) hHeld ?_
    simp only [Act.put, List.getElem_toArray, List.getElem_cons_zero, List.getElem_cons_succ, List.setIfInBounds_toArray, List.set_cons_zero, List.set_cons_succ]
    refine wpAnyH_take (i := 23) (v := .int .i64 E) rfl (by kernel_rfl) (by kernel_rfl) (by kernel_rfl) (fun _ _ _ h => h) (Or.inl ⟨by rfl, fun w hS => by go_simp⟩) hHeld ?_
    simp only [Act.put, List.getElem_toArray, List.getElem_cons_zero, List.getElem_cons_succ, List.setIfInBounds_toArray, List.set_cons_zero, List.set_cons_succ]
    refine wpAnyH_take (i := 24) (v := .int .i64 E) rfl (by kernel_rfl) (by kernel_rfl) (by kernel_rfl) (fun _ _ _ h => h) (Or.inl ⟨by rfl, fun w hS => by go_simp⟩) hHeld ?_
    simp only [Act.put, List.getElem_toArray, List.getElem_cons_zero, List.getElem_cons_succ, List.setIfInBounds_toArray, List.set_cons_zero, List.set_cons_succ]
    refine wpAnyH_take (i := 25) (v := .bool false) rfl (by kernel_rfl) (by kernel_rfl) (by kernel_rfl) (fun _ _ _ h => h) (Or.inl ⟨by rfl, fun w hS => by go_simp⟩) hHeld ?_
    simp only [Act.put, List.getElem_toArray, List.getElem_cons_zero, List.getElem_cons_succ, List.setIfInBounds_toArray, List.set_cons_zero, List.set_cons_succ]
    refine wpAnyH_take (i := 26) (v := .bool false) rfl (by kernel_rfl) (by kernel_rfl) (by kernel_rfl) (fun _ _ _ h => h) (Or.inl ⟨by rfl, fun w hS => by go_simp⟩) hHeld ?_
    simp only [Act.put, List.getElem_toArray, List.getElem_cons_zero, List.getElem_cons_succ, List.setIfInBounds_toArray, List.set_cons_zero, List.set_cons_succ]
    refine wpAnyH_take (i := 27) (v := .bool false) rfl (by kernel_rfl) (by kernel_rfl) (by kernel_rfl) (fun _ _ _ h => h) (Or.inl ⟨by rfl, fun w hS => by go_simp⟩) hHeld ?_
    simp only [Act.put, List.getElem_toArray, List.getElem_cons_zero, List.getElem_cons_succ, List.setIfInBounds_toArray, List.set_cons_zero, List.set_cons_succ]
    refine wpAnyH_take (i := 28) (v := .int .i64 (L : Int)) rfl (by kernel_rfl) (by kernel_rfl) (by kernel_rfl) (fun _ _ _ h => h) (Or.inl ⟨by rfl, fun w hS => by go_simp⟩) hHeld ?_
    simp only [Act.put, List.getElem_toArray, List.getElem_cons_zero, List.getElem_cons_succ, List.setIfInBounds_toArray, List.set_cons_zero, List.set_cons_succ]
    refine wpAnyH_take (i := 29) (v := .slice za L zc) rfl (by kernel_rfl) (by kernel_rfl) (by kernel_rfl) (fun _ _ _ h => h) (Or.inl ⟨by rfl, fun w hS => by go_simp⟩) hHeld ?_
    simp only [Act.put, List.getElem_toArray, List.getElem_cons_zero, List.getElem_cons_succ, List.setIfInBounds_toArray, List.set_cons_zero, List.set_cons_succ]
    refine wpAnyH_take (i := 30) (v := .int .i64 (L : Int)) rfl (by kernel_rfl) (by kernel_rfl) (by kernel_rfl) (fun _ _ _ h => h) (Or.inl ⟨by rfl, fun w hS => by go_simp⟩) hHeld ?_
    simp only [Act.put, List.getElem_toArray, List.getElem_cons_zero, List.getElem_cons_succ, List.setIfInBounds_toArray, List.set_cons_zero, List.set_cons_succ]
    refine wpAnyH_take (i := 31) (v := .bool false) rfl (by kernel_rfl) (by kernel_rfl) (by kernel_rfl) (fun _ _ _ h => h) (Or.inl ⟨by rfl, fun w hS => by go_simp⟩) hHeld ?_
    simp only [Act.put, List.getElem_toArray, List.getElem_cons_zero, List.getElem_cons_succ, List.setIfInBounds_toArray, List.set_cons_zero, List.set_cons_succ]
    refine wpAnyH_take (i := 32) (v := .bool false) rfl (by kernel_rfl) (by kernel_rfl) (by kernel_rfl) (fun _ _ _ h => h) (Or.inl ⟨by rfl, fun w hS => by go_simp⟩) hHeld ?_
    simp only [Act.put, List.getElem_toArray, List.getElem_cons_zero, List.getElem_cons_succ, List.setIfInBounds_toArray, List.set_cons_zero, List.set_cons_succ]
    refine wpAnyH_take (i := 33) (v := .bool false) rfl (by kernel_rfl) (by kernel_rfl) (by kernel_rfl) (fun _ _ _ h => h) (Or.inl ⟨by rfl, fun w hS => by go_simp⟩) hHeld ?_
    simp only [Act.put, List.getElem_toArray, List.getElem_cons_zero, List.getElem_cons_succ, List.setIfInBounds_toArray, List.set_cons_zero, List.set_cons_succ]
    refine wpAnyH_take (i := 34) (v := .int .i64 E) rfl (by kernel_rfl) (by kernel_rfl) (by kernel_rfl) (fun _ _ _ h => h) (Or.inl ⟨by rfl, fun w hS => by go_simp⟩) hHeld ?_
    simp only [Act.put, List.getElem_toArray, List.getElem_cons_zero, List.getElem_cons_succ, List.setIfInBounds_toArray, List.set_cons_zero, List.set_cons_succ]
    refine wpAnyH_take (i := 35) (v := .int .i64 E) rfl (by kernel_rfl) (by kernel_rfl) (by kernel_rfl) (fun _ _ _ h => h) (Or.inl ⟨by rfl, fun w hS => by go_simp⟩) hHeld ?_
    simp only [Act.put, List.getElem_toArray, List.getElem_cons_zero, List.getElem_cons_succ, List.setIfInBounds_toArray, List.set_cons_zero, List.set_cons_succ]
    refine wpAnyH_take (i := 36) (v := .bool false) rfl (by kernel_rfl) (by kernel_rfl) (by kernel_rfl) (fun _ _ _ h => h) (Or.inl ⟨by rfl, fun w hS => by go_simp⟩) hHeld ?_
    simp only [Act.put, List.getElem_toArray, List.getElem_cons_zero, List.getElem_cons_succ, List.setIfInBounds_toArray, List.set_cons_zero, List.set_cons_succ]
    refine wpAnyH_take (i := 37) (v := .bool false) rfl (by kernel_rfl) (by kernel_rfl) (by kernel_rfl) (fun _ _ _ h => h) (Or.inl ⟨by rfl, fun w hS => by go_simp⟩) hHeld ?_
    simp only [Act.put, List.getElem_toArray, List.getElem_cons_zero, List.getElem_cons_succ, List.setIfInBounds_toArray, List.set_cons_zero, List.set_cons_succ]
    refine wpAnyH_done (by kernel_rfl) ?_ _
    have h12 := hHeld
    replace KV := hidden (KV.out.step h12)
    replace KW := hidden (KW.out.step h12)
    replace KL := hidden (KL.out.step h12)
    replace KS := hidden (KS.out.step h12)
    replace K2 := hidden (K2.out.step h12)
    replace KK := hidden (KK.out.step h12)
    replace K5 := hidden (K5.out.step h12)
    replace KR := hidden (KR.out.step h12)
    replace KX := hidden (KX.out.step h12)
    replace KY := hidden (KY.out.step h12)
    replace KZ := hidden (KZ.out.step h12)
    replace KQ := hidden (KQ.out.step h12)
    replace K15 := hidden (K15.out.step h12)
    replace KQ2 := hidden (KQ2.out.step h12)
    replace K17 := hidden (K17.out.step h12)
    replace KO := hidden (KO.out.step h12)
    replace K19 := hidden (K19.out.step h12)
    clear h12 hHeld
    go_wp2_with (first
      | ((with_reducible refine at_ldd 103 15 ?_); refine wpList_lds _ rfl _ _ rfl g15 _ _ rfl K15.out.now HUP.out (HSzQ.out qa qc).1 ?_)
      | ((with_reducible refine at_ldd 104 19 ?_); refine wpList_lds _ rfl _ _ rfl g19 _ _ rfl K19.out.now HUP.out (HSzQ.out oa oc).1 ?_)
      | ((with_reducible refine at_ldd 108 17 ?_); refine wpList_ldsg _ rfl _ _ rfl g17 _ _ rfl K17.out.now HUP.out (HSzQ.out q2a q2c).1 ?_)
      | ((with_reducible refine at_ldd 109 19 ?_); refine wpList_ldsg _ rfl _ _ rfl g19 _ _ rfl K19.out.now HUP.out (HSzQ.out oa oc).1 ?_)
      | ((with_reducible refine at_ldd 124 2 ?_); refine wpList_ldsg _ rfl _ _ rfl g2 _ _ rfl K2.out.now HUP.out (HSzP.out sa sc).1 ?_)
      | ((with_reducible refine at_ldd 125 5 ?_); refine wpList_ldsg _ rfl _ _ rfl g5 _ _ rfl K5.out.now HUP.out (HSzP.out ka kc).1 ?_)
      | (go_at_call 16; refine (HKP.out _ _ KR.out.now KV.out.now).mono ?_; rintro e x32 ⟨rfl, q32⟩; replace KV := hidden (KV.out.step q32); replace KW := hidden (KW.out.step q32); replace KL := hidden (KL.out.step q32); replace KS := hidden (KS.out.step q32); replace K2 := hidden (K2.out.step q32); replace KK := hidden (KK.out.step q32); replace K5 := hidden (K5.out.step q32); replace KR := hidden (KR.out.step q32); replace KX := hidden (KX.out.step q32); replace KY := hidden (KY.out.step q32); replace KZ := hidden (KZ.out.step q32); replace KQ := hidden (KQ.out.step q32); replace K15 := hidden (K15.out.step q32); replace KQ2 := hidden (KQ2.out.step q32); replace K17 := hidden (K17.out.step q32); replace KO := hidden (KO.out.step q32); replace K19 := hidden (K19.out.step q32); have mk_frootcellarkitKeptBytes_1 : Hid True := trivial; clear q32)
      | (go_at_call 15; have mk := mk_frootcellarkitSameProof_2; clear mk; refine (HSQ.out _ (_, _) (_, _) KS.out.now (HOH.out _ _ (_, _) KK.out.now)).mono ?_; rintro e x31 ⟨rfl, q31⟩; replace KV := hidden (KV.out.step q31); replace KW := hidden (KW.out.step q31); replace KL := hidden (KL.out.step q31); replace KS := hidden (KS.out.step q31); replace K2 := hidden (K2.out.step q31); replace KK := hidden (KK.out.step q31); replace K5 := hidden (K5.out.step q31); replace KR := hidden (KR.out.step q31); replace KX := hidden (KX.out.step q31); replace KY := hidden (KY.out.step q31); replace KZ := hidden (KZ.out.step q31); replace KQ := hidden (KQ.out.step q31); replace K15 := hidden (K15.out.step q31); replace KQ2 := hidden (KQ2.out.step q31); replace K17 := hidden (K17.out.step q31); replace KO := hidden (KO.out.step q31); replace K19 := hidden (K19.out.step q31); have mk_frootcellarkitSameProof_3 : Hid True := trivial; clear q31)
      | (go_at_call 15; have mk := mk_frootcellarkitSameProof_1; clear mk; refine (HSP.out _ (_, _) (_, _) _ _ KQ2.out.now KO.out.now).mono ?_; rintro e x30 ⟨rfl, q30⟩; replace KV := hidden (KV.out.step q30); replace KW := hidden (KW.out.step q30); replace KL := hidden (KL.out.step q30); replace KS := hidden (KS.out.step q30); replace K2 := hidden (K2.out.step q30); replace KK := hidden (KK.out.step q30); replace K5 := hidden (K5.out.step q30); replace KR := hidden (KR.out.step q30); replace KX := hidden (KX.out.step q30); replace KY := hidden (KY.out.step q30); replace KZ := hidden (KZ.out.step q30); replace KQ := hidden (KQ.out.step q30); replace K15 := hidden (K15.out.step q30); replace KQ2 := hidden (KQ2.out.step q30); replace K17 := hidden (K17.out.step q30); replace KO := hidden (KO.out.step q30); replace K19 := hidden (K19.out.step q30); have mk_frootcellarkitSameProof_2 : Hid True := trivial; clear q30)
      | (go_at_call 15; refine (HSP.out _ (_, _) (_, _) _ _ KQ.out.now KO.out.now).mono ?_; rintro e x29 ⟨rfl, q29⟩; replace KV := hidden (KV.out.step q29); replace KW := hidden (KW.out.step q29); replace KL := hidden (KL.out.step q29); replace KS := hidden (KS.out.step q29); replace K2 := hidden (K2.out.step q29); replace KK := hidden (KK.out.step q29); replace K5 := hidden (K5.out.step q29); replace KR := hidden (KR.out.step q29); replace KX := hidden (KX.out.step q29); replace KY := hidden (KY.out.step q29); replace KZ := hidden (KZ.out.step q29); replace KQ := hidden (KQ.out.step q29); replace K15 := hidden (K15.out.step q29); replace KQ2 := hidden (KQ2.out.step q29); replace K17 := hidden (K17.out.step q29); replace KO := hidden (KO.out.step q29); replace K19 := hidden (K19.out.step q29); have mk_frootcellarkitSameProof_1 : Hid True := trivial; clear q29))

    have HQ := hidden KQ.out.now
    have HQ2 := hidden KQ2.out.now
    have HO := hidden KO.out.now
    have H15 := hidden K15.out.now
    have H17 := hidden K17.out.now
    have H19 := hidden K19.out.now
    have HX := hidden KX.out.now
    have HY := hidden KY.out.now
    have HRw := hidden (HOL.out _ _ KR.out.now)
    have HKW := hidden KW.out.now
    have HAP := hidden (show (∀ g, (Value.slice xa L xc).ownBlock = some g → (Value.slice ya L yc).ownBlock ≠ some g) ∧ (∀ g, (Value.slice xa L xc).ownBlock = some g → (Value.slice (some ⟨gl, 0, none⟩) l l5).ownBlock ≠ some g) ∧ (∀ g, (Value.slice ya L yc).ownBlock = some g → (Value.slice (some ⟨gl, 0, none⟩) l l5).ownBlock ≠ some g) from ⟨fun g e1 e2 => Nat.lt_irrefl g ((HTY.out g e2).2 g e1), fun g e1 e2 => by
      have h1 := HTX.out g e1
      have e3 : some gl = some g := e2
      injection e3 with e3
      omega, fun g e1 e2 => by
      have h1 := (HTY.out g e1).1
      have e3 : some gl = some g := e2
      injection e3 with e3
      omega⟩)
    clear KV KW KL KS K2 KK K5 KR KX KY KZ KQ K15 KQ2 K17 KO K19 HDL HRD HLE HKP HEx HRx HSi HCk HRk HCP HSQ HSB HOH HDP HTX HTY
    go_loopw [21] (fun iv wr => ∃ j : Nat, j ≤ m ∧ iv = .int .i64 (j : Int) ∧ Hid (x32.grownBy wr (Value.slice qa m qc).ownBlock) ∧ Hid (∀ ga, (Value.slice qa m qc).ownBlock = some ga → ∃ cur, Blk wr ga 26 cur ∧ m * 32 ≤ cur.size)) (fun iv _ => m - (intOf iv).toNat)
    case atStart =>
      refine ⟨0, by omega, rfl, World.grownBy.refl _ _, fun ga hga => ?_⟩
      rcases HQ.out.2 with ⟨e, e2⟩ | ⟨g', cap', cur, e, _, hg', hc1, _, hc2, _⟩
      · rw [e] at hga
        simp [Value.ownBlock] at hga
      · rw [e] at hga
        obtain rfl : g' = ga := by simpa [Value.ownBlock] using hga
        exact ⟨cur, hg', by omega⟩
    case round =>
      obtain ⟨j, hj, rfl, hgr, hcu⟩ := hrel
      have hm6 := HM6.out
      have hk15 := H15.out.keptO hgr.out (own_ne HQ.out H15.out)
      have cx := proof_side hk15
      by_cases hlt : j < m
      · have z1 : (j : Int) < (m : Int) := by omega
        have z0 : (0 : Int) ≤ (j : Int) := by omega
        obtain ⟨ga, hga⟩ : ∃ ga, qa = some ⟨ga, 0, none⟩ := by
          rcases HQ.out.2 with ⟨e, e2⟩ | ⟨g', cap', cur, e, _⟩
          · omega
          · injection e with e1
            exact ⟨g', e1⟩
        subst hga
        obtain ⟨cur, hcur, hsz⟩ := hcu.out ga rfl
        have HTH : Hid (wr.there ga (j * 32) (B seven32).size) := hcur.there (j * 32) _ (by show j * 32 + 32 ≤ _; omega)
        have HC := hidden (Blk.cells (B seven32).toList (j * 32) hcur (by show j * 32 + 32 ≤ _; omega))
        have HCS : Hid (m * 32 ≤ (cur.toList.take (j * 32) ++ ((B seven32).toList ++ cur.toList.drop (j * 32 + (B seven32).toList.length))).toArray.size) := by
          show _ ≤ _
          have h32 : (B seven32).toList.length = 32 := rfl
          simp only [List.size_toArray, List.length_append, List.length_take, List.length_drop, h32, Array.length_toList]
          omega
        have gr := grown_setCells ga (B seven32).toList (j * 32) wr
        have HGR : Hid (x32.grownBy (wr.setCells ga (j * 32) (B seven32).toList) (Value.slice (some ⟨ga, 0, none⟩) m qc).ownBlock) := grown_trans hgr.out gr
        have HBL : Hid (Tryd.prog.built 26 [(0, .int .u8 7)] = some (B seven32)) := built_seven
        obtain ⟨Q1, hQ1⟩ : ∃ Q1, Q1 = seven32 := ⟨_, rfl⟩
        have HIS : Hid ((Tryd.prog.info? 26).map (·.size) = some (B Q1).size) := by show _ = _; rw [hQ1, B_size]; exact sz_hash
        rw [← hQ1] at HTH HC HCS HGR HBL
        clear gr hcur hsz hcu hgr hQ1 hk15
        go_wp2_with (first
          | ((with_reducible refine at_bd ?_); refine wpList_bld _ rfl _ _ rfl _ (by rw [List.map_toArray]; exact HBL.out) ?_)
          | ((with_reducible refine at_st 146 ?_); refine wpList_store_mid rfl _ _ _ rfl ga (j * 32) (B Q1) rfl rfl HTH.out HIS.out (B_one _) ?_; generalize wr.setCells ga (j * 32) (B Q1).toList = x9 at *))
        exact ⟨⟨j + 1, by omega, by go_num, HGR, fun ga' e => by
          obtain rfl : ga = ga' := by simpa [Value.ownBlock] using e
          exact ⟨_, HC.out, HCS.out⟩⟩, by simp [intOf]; omega⟩
      · have z1 : ¬ (j : Int) < (m : Int) := by omega
        have HA2 : Hid ((Value.slice q2a m q2c).ownBlock = none ∨ (Value.slice q2a m q2c).ownBlock ≠ (Value.slice qa m qc).ownBlock) := by
          cases h : (Value.slice q2a m q2c).ownBlock with
          | none => exact .inl rfl
          | some kk => exact .inr fun e => HT2.out kk h e.symm
        have HA3 : Hid ((Value.slice oa m oc).ownBlock = none ∨ (Value.slice oa m oc).ownBlock ≠ (Value.slice qa m qc).ownBlock) := by
          cases h : (Value.slice oa m oc).ownBlock with
          | none => exact .inl rfl
          | some kk => exact .inr fun e => HT3.out kk h e.symm
        have HS2 := hidden (HQ2.out.kept hgr.out HA2.out)
        have HS3 := hidden (HO.out.kept hgr.out HA3.out)
        have HR17 := hidden (H17.out.keptO hgr.out (own_ne HQ.out H17.out))
        have HR19 := hidden (H19.out.keptO hgr.out (own_ne HQ.out H19.out))
        have HX2 := hidden (own_grown HX.out HQ.out hgr.out)
        have HY2 := hidden (own_grown HY.out HQ.out hgr.out)
        have HL2 := hidden (own_grown HRw.out HQ.out hgr.out)
        have HBE := hidden (below_ownH HKW.out HQ.out (Nat.le_refl _) hgr.out)
        clear hgr hcu hk15
        go_wp2_with (first
          | ((with_reducible refine at_ldd 147 17 ?_); refine wpList_lds _ rfl _ _ rfl g17 _ _ rfl HR17.out HUP.out (HSzQ.out _ _).1 ?_)
          | ((with_reducible refine at_ldd 148 19 ?_); refine wpList_lds _ rfl _ _ rfl g19 _ _ rfl HR19.out HUP.out (HSzQ.out _ _).1 ?_)
          | (go_at_call 15; refine (HSP.out _ (_, _) (_, _) _ _ HS2.out HS3.out).mono ?_; rintro e y1 ⟨rfl, a1⟩; have HX3 := hidden (HX2.out.grow a1); have HY3 := hidden (HY2.out.grow a1); have HL3 := hidden (HL2.out.grow a1); have HBE1 := hidden (grow_trans HBE.out a1); clear a1)
          | (go_at_call 17; refine (apart_walkT 0 _ 0 3 3 _ _ _ _ (by omega) (lists_three _ _ _ _ X X zs spx spy _ HX3.out HY3.out HL3.out HAP.out.1 HAP.out.2.1 HAP.out.2.2) (Nat.le_refl _)).mono ?_; rintro e y2 ⟨rfl, a2⟩; have HBE2 := hidden (grow_trans HBE1.out (grow_trans (grow_alloc _ _) a2)); clear a2))
        go_ret
        exact ⟨rfl, HBE2.out⟩

end Go.Proofs.YtaihiffdjgadeaaDoor

/- What the two tables of sha hold when a statement's call begins, as the rows list it; and the start that the program's own text lays. -/
namespace Go.Proofs.YtaihiffdjgadeaaDoor
set_option maxRecDepth 20000
open Go.ChangeShapes Go.WideShapes Go.ChangeAt Go.WideMaps Go.WideElems Go.RowKit

abbrev laid2 : List (String × DataW Unit) := Rows.packCodesRow.laid
abbrev nameOf (i : Nat) : String := (laid2.map (·.1)).getD i Rows.packCodesRow.func

theorem gFirst : Tryd.prog.globalNamed (nameOf 0) = some 1 := by kernel_rfl
theorem gRounds : Tryd.prog.globalNamed (nameOf 1) = some 2 := by kernel_rfl
theorem tFirst : (Tryd.prog.globals[1]?).map (·.type) = some 105 := by kernel_rfl
theorem tRounds : (Tryd.prog.globals[2]?).map (·.type) = some 108 := by kernel_rfl

/-- The door's own heap meets the condition. -/
theorem door_met (os : Os) (args : Array Value) : laidMetH Tryd.prog laid2 ((World.doorLaid Tryd.prog 400 os).forCall (fun _ _ => 0) ⟨#[], args, []⟩).memory :=
  laidMetH_of_parts3 (fuel := 8) (laidMet_of_run' 8 (by kernel_rfl) (by kernel_rfl)) (by kernel_rfl) (by kernel_rfl)

theorem tab_first : (Rows.laid_rootcellar_sha_first : DataW Unit) = Lib.tabData .u32 hs := rfl
theorem tab_rounds : (Rows.laid_rootcellar_sha_rounds : DataW Unit) = Lib.tabData .u32 ks := rfl
theorem cells_w8 : Tryd.prog.cellsOf 105 = 8 := by kernel_rfl
theorem cells_w64 : Tryd.prog.cellsOf 108 = 64 := by kernel_rfl
theorem cells_w : Tryd.prog.cellsOf 104 = 1 := by kernel_rfl

/-- What the condition gives the walks. -/
theorem of_laid {W : World} (h : laidMetH Tryd.prog laid2 W) : Laid W := by
  rw [MakeChecks.laidMetH_plain _ _ _ (by kernel_rfl)] at h
  obtain ⟨ps, ⟨g0, t0, cs0, f0, p0, q0, hg0, ht0, hv0, hd0, ⟨g1, t1, cs1, f1, p1, q1, hg1, ht1, hv1, hd1, _, _⟩, _⟩, _, _⟩ := h
  obtain rfl := Option.some.inj (gFirst.symm.trans hg0)
  obtain rfl := Option.some.inj (gRounds.symm.trans hg1)
  obtain rfl := Option.some.inj (tFirst.symm.trans ht0)
  obtain rfl := Option.some.inj (tRounds.symm.trans ht1)
  rw [tab_first] at hd0
  rw [tab_rounds] at hd1
  have e0 := Lib.cells_of_tab Tryd.underlying105 Tryd.underlying104 cells_w cells_w8 hd0
  have e1 := Lib.cells_of_tab Tryd.underlying108 Tryd.underlying104 cells_w cells_w64 hd1
  have c1 : ∀ i, i < 64 → W.cell? ⟨2, i, none⟩ = some (.int .u32 (ks.getD i 0)) := by
    intro i hi
    rw [World.var?_cell hg1 hv1 i, ← Array.getElem?_toList, e1, List.getElem?_map, List.getElem?_eq_getElem (show i < ks.length from hi)]
    simp [List.getD, show i < ks.length from hi]
  have c0 : ∀ i, i < 8 → W.cell? ⟨1, i, none⟩ = some (.int .u32 (hs.getD i 0)) := by
    intro i hi
    rw [World.var?_cell hg0 hv0 i, ← Array.getElem?_toList, e0, List.getElem?_map, List.getElem?_eq_getElem (show i < hs.length from hi)]
    simp [List.getD, show i < hs.length from hi]
  exact ⟨block_lt_of_cell (c1 0 (by omega)), c1, c0⟩

end Go.Proofs.YtaihiffdjgadeaaDoor

/- What every statement's proof asks of the program as a whole. -/
namespace Go.Proofs.YtaihiffdjgadeaaDoor
set_option maxRecDepth 20000
open Go.ChangeShapes Go.WideShapes Go.ChangeAt Go.RowKit

theorem ownK : ownKnob Tryd.prog.godebug = none := by kernel_rfl
theorem laidOut : laidOutB Tryd.prog = true := by kernel_rfl

theorem okWide_st {t : TypeId} {fs : Array Field} {W : World} {base : Nat} {v : Value} (ht : Tryd.prog.underlying t = some (.struct fs)) (h : Value.okWide Tryd.prog W .any base t v) : ∃ cs, v = .agg cs := by
  unfold Value.okWide at h
  cases v <;> simp_all

end Go.Proofs.YtaihiffdjgadeaaDoor
