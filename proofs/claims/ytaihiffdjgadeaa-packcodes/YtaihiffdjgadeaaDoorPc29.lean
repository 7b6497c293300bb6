/- PackBack's walk: the law returns true at every proof, all bytes and every byte more, and nothing that was in memory turns. -/
import Derived.Test.YtaihiffdjgadeaaDoorPc26
import Derived.Test.YtaihiffdjgadeaaDoorPc28
import Derived.Test.YtaihiffdjgadeaaDoorPc16
import Derived.Test.YtaihiffdjgadeaaDoorPc05
import Derived.Test.YtaihiffdjgadeaaDoorPc19
import Derived.Test.YtaihiffdjgadeaaDoorPc27
import Derived.Deep.RegionHeld2
namespace Go.Proofs.YtaihiffdjgadeaaDoor
set_option maxRecDepth 20000
open Go.RowKit

theorem ownHs_kp {w : World} {base n : Nat} {v : Value} {xs : List Value} (h : w.ownsRow base 26 32 v n xs) : Kp w (fun w' => w'.ownsRow base 26 32 v n xs) := fun _ q => ownsH_below h q

/-- Decode, told apart. -/
theorem dec_yes {v : Value} {zs : List Int} {w : World} (h : Reads w v zs) (hl : zs.length ≤ 140737488355328) (hL : Laid w) (hok : okD zs) {hs : List (List Int)} {N : List Int} (h1 : (pR zs).1 = hs) (h2 : dcN (pR zs).2.1 = N) (n : Nat) (hn : hs.length = n) :
    Calls Tryd.prog 10 #[v] w fun e w' => ∃ a c, e = .returned (.tuple #[.agg (encR (.slice a n c) N).toArray, .int .i64 0]) ∧ w'.ownsRow w.heap.size 26 32 (.slice a n c) n (flatH hs) ∧ Below w.heap.size w w' := by
  refine (pkdecode_any v zs w h hl hL).mono ?_
  rintro e w' ⟨a, c, e1, e2, e3⟩
  have e4 : dpH zs = hs := by rw [dpH, if_pos hok, h1]
  have e5 : dpN zs = N := by rw [dpN, if_pos hok, h2]
  have e6 : dpE zs = 0 := by rw [dpE, if_pos hok]
  rw [e4, e5, e6, hn] at e1
  rw [e4, hn] at e2
  exact ⟨a, c, e1, e2, e3⟩
theorem dec_no {v : Value} {zs : List Int} {w : World} (h : Reads w v zs) (hl : zs.length ≤ 140737488355328) (hL : Laid w) (hok : ¬ okD zs) :
    Calls Tryd.prog 10 #[v] w fun e w' => ∃ a c, e = .returned (.tuple #[.agg (encR (.slice a 0 c) (nd 0 z32 z32 z32 z32)).toArray, .int .i64 10]) ∧ Below w.heap.size w w' := by
  refine (pkdecode_any v zs w h hl hL).mono ?_
  rintro e w' ⟨a, c, e1, e2, e3⟩
  have e4 : dpH zs = [] := by rw [dpH, if_neg hok]
  have e5 : dpN zs = nd 0 z32 z32 z32 z32 := by rw [dpN, if_neg hok]
  have e6 : dpE zs = 10 := by rw [dpE, if_neg hok]
  rw [e4, e5, e6] at e1
  exact ⟨a, c, e1, e3⟩
theorem enc_yes {s : Value} {hs : List (List Int)} {k : Int} {a b c d : List Int} {w : World} (hh : HsAt w s hs) (hN : Nd k a b c d) (hL : Laid w) {X : List Int} {E : Int} (h1 : exP hs k a b c d = X) (h2 : chE hs k a b c d = E) :
    Calls Tryd.prog 7 #[.agg (encR s (nd k a b c d)).toArray] w fun e w' => ∃ xa xc sp, e = .returned (.tuple #[.slice xa X.length xc, .int .i64 E]) ∧ Own w.heap.size w' (.slice xa X.length xc) X sp ∧ Below w.heap.size w w' := by
  refine (pkencode_any s hs k a b c d w hh hN hL).mono ?_
  rintro e w' ⟨v, sp, e1, e2, e3⟩
  obtain ⟨xa, xc, rfl⟩ := e2.slice
  rw [h1] at e1 e2
  rw [h2] at e1
  exact ⟨xa, xc, sp, e1, e2, e3⟩
/-- load of a proof's end, where it is wanted. -/
theorem wpList_ldeg {ops : Array Oper} {rest : List Oper} {op : Oper} {a : Act} {Q : Exit → Act → World → Prop} (w : World) (hgd : Region.wanted op (yielded ops a.tmps) = true) (x : Operand) (ho : op.op = .load 28 x)
    (g : Nat) (t : TypeId) (s : Value) (z : List Int) (hx : a.eval x = .pointer (some ⟨g, 1, none⟩)) (h : Blk w g t (encR s z).toArray) (hl : z.length = 129)
    (hk : wpList Tryd.prog ops Q rest (a.put op.dst (.agg (B z))) w) : wpList Tryd.prog ops Q (op :: rest) a w := by
  obtain ⟨fs, hu⟩ := u_node
  exact BigFrame.wpList_want hgd fun _ hK => wp_load_mid 28 x ho g 1 hx (z.map (Value.int .u8)) _ (proof_end h) hu rfl (by rw [List.length_map, hl]; exact size_node) (hK _ _ hk)

theorem own_ln {w : World} {xa : Option Addr} {n c : Nat} {zs sp : List Int} {b : Nat} (h : Own b w (.slice xa n c) zs sp) : zs.length = n ∧ n ≤ c := by
  obtain ⟨a', c', e, h1, _⟩ := h.reads
  injection e with e1 e2 e3
  subst e2
  subst e3
  exact ⟨rfl, h1⟩
theorem own_pos {w : World} {xa : Option Addr} {n c : Nat} {zs sp : List Int} {b : Nat} (h : Own b w (.slice xa n c) zs sp) (hn : 0 < n) : ∃ g, xa = some ⟨g, 0, none⟩ := by
  obtain ⟨_, _, _, h4⟩ := h
  rcases h4 with ⟨e, _⟩ | ⟨g, rest, _, e, _⟩
  · injection e with _ e2
    omega
  · injection e with e1
    exact ⟨g, e1⟩
theorem own_cut {w : World} {xa : Option Addr} {n c : Nat} {zs sp : List Int} {b : Nat} (h : Own b w (.slice xa n c) zs sp) (m : Nat) (hm : m ≤ n) : Reads w (.slice xa m c) (zs.take m) := by
  have e := (own_ln h).1
  have := h.reads
  rw [← e] at this hm
  exact this.cutfront m hm

set_option maxRecDepth 100000 in
set_option maxHeartbeats 16000000 in
theorem packBack_walk (s : Value) (hs : List (List Int)) (k : Int) (a b c d : List Int) (v : Value) (zs : List Int) (more : Int) (w : World) (hh : HsAt w s hs) (hN : Nd k a b c d) (hv : Reads w v zs) (hlz : zs.length ≤ 140737488355328 - 4096) (hm : 0 ≤ more ∧ more ≤ 255) (hL : Laid w) :
    Calls Tryd.prog 4 #[.agg (encR s (nd k a b c d)).toArray, v, .int .u8 more] w fun e w' => e = .returned (.bool true) ∧ Below w.heap.size w w' := by
  have KV := hidden hv.kp
  have KW := hidden (below_kp w)
  have KL := hidden hL.kp
  have KS := hidden hh.kp
  have hbz : Bytes zs := by obtain ⟨_, _, _, _, _, hb, _⟩ := hv; exact hb
  have hdg : Dg hs := hh.dgs
  obtain ⟨fp, hup⟩ := u_proof
  have HUP := hidden hup
  have hE1 : ∀ w', HsAt w' s hs → Laid w' → Calls Tryd.prog 7 #[.agg (encR s (nd k a b c d)).toArray] w' fun e w'' => ∃ xa xc sp, e = .returned (.tuple #[.slice xa (exP hs k a b c d).length xc, .int .i64 (chE hs k a b c d)]) ∧ Own w'.heap.size w'' (.slice xa (exP hs k a b c d).length xc) (exP hs k a b c d) sp ∧ Below w'.heap.size w' w'' := fun w' h1 h2 => enc_yes h1 hN h2 rfl rfl
  have hSz : ∀ a m c (N : List Int), N.length = 129 → (Tryd.prog.info? 30).map (·.size) = some (encR (.slice a m c) N).toArray.size ∧ (encR (.slice none 0 0) (List.replicate 129 0)).toArray.size = (encR (.slice a m c) N).toArray.size := fun a m c N hN => ⟨encR_sz _ _ hN, by simp [encR, hN]⟩
  have HSzA := hidden hSz
  -- the bytes that came in
  obtain ⟨n2, R2, M2, FS2, E2, hz⟩ : ∃ (n2 : Nat) (R2 : List (List Int)) (M2 : List Int) (FS2 : List Value) (E2 : Int), (E2 = 10 ∨ E2 = 0) ∧ M2.length = 129 ∧ (∀ w', Reads w' v zs → Laid w' → Calls Tryd.prog 10 #[v] w' fun e w'' => ∃ a c, e = .returned (.tuple #[.agg (encR (.slice a n2 c) M2).toArray, .int .i64 E2]) ∧ w''.ownsRow w'.heap.size 26 32 (.slice a n2 c) n2 FS2 ∧ Below w'.heap.size w' w'') ∧
      (E2 = 0 → ∀ w' qa qc b, w'.ownsRow b 26 32 (.slice qa n2 qc) n2 FS2 → Laid w' → Calls Tryd.prog 7 #[.agg (encR (.slice qa n2 qc) M2).toArray] w' fun e w'' => ∃ xa xc sp, e = .returned (.tuple #[.slice xa zs.length xc, .int .i64 0]) ∧ Own w'.heap.size w'' (.slice xa zs.length xc) zs sp ∧ Below w'.heap.size w' w'') := by
    by_cases hok : okD zs
    · obtain ⟨k', a', b', c', d', hN', hNd', ho', hk', ht'⟩ := okD_node hbz hok
      obtain ⟨hc', he'⟩ := okD_enc hbz hok hNd' hN'
      refine ⟨pN zs, (pR zs).1, nd k' a' b' c' d', flatH (pR zs).1, 0, .inr rfl, hNd'.length, fun w' h1 h2 => dec_yes h1 (by omega) h2 hok rfl hN' _ (pR_len zs), fun _ w' qa qc bb h1 h2 => ?_⟩
      have hat : HsAt w' (.slice qa (pN zs) qc) (pR zs).1 := hsAt_own (base := bb) (by rw [pR_len]; exact h1) (pR_dg hbz)
      exact enc_yes hat hNd' h2 (by rw [exP, if_pos hc', he']) hc'
    · refine ⟨0, [], nd 0 z32 z32 z32 z32, [], 10, .inl rfl, by rfl, fun w' h1 h2 => ?_, fun e => by omega⟩
      refine (pkdecode_any v zs w' h1 (by omega) h2).mono ?_
      rintro e w'' ⟨a, c, e1, e2, e3⟩
      rw [show dpH zs = [] by rw [dpH, if_neg hok], show dpN zs = nd 0 z32 z32 z32 z32 by rw [dpN, if_neg hok], show dpE zs = 10 by rw [dpE, if_neg hok]] at e1
      rw [show dpH zs = [] by rw [dpH, if_neg hok]] at e2
      exact ⟨a, c, e1, e2, e3⟩
  obtain ⟨hE2, hM2, hDz, hEz⟩ := hz
  have HDz := hidden hDz
  have HSz2 : Hid (∀ a c, (Tryd.prog.info? 30).map (·.size) = some (encR (.slice a n2 c) M2).toArray.size ∧ (encR (.slice none 0 0) (List.replicate 129 0)).toArray.size = (encR (.slice a n2 c) M2).toArray.size) := fun a c => hSz a n2 c M2 hM2
  have HSb : Hid (∀ w' x, Reads w' x zs → Reads w' v zs → Calls Tryd.prog 14 #[x, v] w' fun e w'' => e = .returned (.bool true) ∧ w'' = w') := fun w' x h1 h2 => by
    have := same_any x v zs zs w' h1 h2
    simpa using this
  obtain ⟨va, vc, rfl, _⟩ := hv
  obtain ⟨l, hll⟩ : ∃ l, l = zs.length := ⟨_, rfl⟩
  rw [← hll] at KV HDz HSb hEz ⊢
  have HNK : Hid (∀ w' g t, Blk w' g t (encR s (nd k a b c d)).toArray → w'.cell? ⟨g, 1, none⟩ = some (.int .u8 k)) := fun w' g t h => proof_kind h
  have HCk : Hid (∀ w', Calls Tryd.prog 19 #[.agg (B (nd k a b c d))] w' fun e w'' => e = .returned (.int .i64 (okE k a b c d)) ∧ Below w'.heap.size w' w'') := fun w' => check_any k a b c d w' hN
  obtain ⟨n, hnn⟩ : ∃ n, n = hs.length := ⟨_, rfl⟩
  by_cases h0 : chE hs k a b c d = 0
  · have hex : exP hs k a b c d = pkE hs k a b c d := if_pos h0
    obtain ⟨hn256, hk2, ho⟩ := chE_ok h0
    obtain ⟨d1, d2, d3⟩ := dec_told hdg hN h0
    have dm := dec_more hdg hN h0 more
    have dl := dec_less hdg hN h0
    have hsz := pkE_size hdg hN h0
    rw [hex, h0] at hE1
    obtain ⟨X, hX⟩ : ∃ X, X = pkE hs k a b c d := ⟨_, rfl⟩
    rw [← hX] at hE1 d1 d2 d3 dm dl hsz
    obtain ⟨L, hLL⟩ : ∃ L, L = X.length := ⟨_, rfl⟩
    have HLL := hidden hLL
    rw [← hLL] at hE1 hsz dl
    have HE1 := hidden hE1
    have HD1 : Hid (∀ w' xa xc, Reads w' (.slice xa L xc) X → Laid w' → Calls Tryd.prog 10 #[.slice xa L xc] w' fun e w'' => ∃ a' c', e = .returned (.tuple #[.agg (encR (.slice a' n c') (nd k a b c d)).toArray, .int .i64 0]) ∧ w''.ownsRow w'.heap.size 26 32 (.slice a' n c') n (flatH hs) ∧ Below w'.heap.size w' w'') := fun w' xa xc h1 h2 => dec_yes h1 (by omega) h2 d1 d2 d3 n hnn.symm
    have HD2 : Hid (∀ w' u, Reads w' u (X ++ [more]) → Laid w' → Calls Tryd.prog 10 #[u] w' fun e w'' => ∃ a c, e = .returned (.tuple #[.agg (encR (.slice a 0 c) (nd 0 z32 z32 z32 z32)).toArray, .int .i64 10]) ∧ Below w'.heap.size w' w'') := fun w' u h1 h2 => dec_no h1 (by rw [List.length_append]; simp only [List.length_singleton]; omega) h2 dm
    have HD3 : Hid (∀ w' u, Reads w' u (X.take (L - 1)) → Laid w' → Calls Tryd.prog 10 #[u] w' fun e w'' => ∃ a c, e = .returned (.tuple #[.agg (encR (.slice a 0 c) (nd 0 z32 z32 z32 z32)).toArray, .int .i64 10]) ∧ Below w'.heap.size w' w'') := fun w' u h1 h2 => dec_no h1 (by rw [List.length_take]; omega) h2 dl
    have HCp : Hid (∀ w' xa xc, Reads w' (.slice xa L xc) X → Calls Tryd.prog 18 #[.slice xa L xc] w' fun e w'' => ∃ v' sp, e = .returned v' ∧ Own w'.heap.size w'' v' X sp ∧ Below w'.heap.size w' w'') := fun w' xa xc h1 => copyBytes_any _ X w' h1 (by omega)
    have HSP : Hid (∀ w' sx sc qa qc bb, HsAt w' (.slice sx n sc) hs → w'.ownsRow bb 26 32 (.slice qa n qc) n (flatH hs) → Calls Tryd.prog 15 #[.agg (encR (.slice sx n sc) (nd k a b c d)).toArray, .agg (encR (.slice qa n qc) (nd k a b c d)).toArray] w' fun e w'' => e = .returned (.bool true) ∧ Below w'.heap.size w' w'') := fun w' sx sc qa qc bb h1 h2 => by
      have hat : HsAt w' (.slice qa n qc) hs := hsAt_own (base := bb) (by rw [← hnn]; exact h2) hdg
      have := sameProof_any _ _ _ _ k k a b c d a b c d w' h1 hat (by omega) hN hN
      simpa using this
    have HSz1 : Hid (∀ a' c', (Tryd.prog.info? 30).map (·.size) = some (encR (.slice a' n c') (nd k a b c d)).toArray.size ∧ (encR (.slice none 0 0) (List.replicate 129 0)).toArray.size = (encR (.slice a' n c') (nd k a b c d)).toArray.size) := fun a' c' => hSz a' n c' _ hN.length
    have HSz0 : Hid (∀ a' c', (Tryd.prog.info? 30).map (·.size) = some (encR (.slice a' 0 c') (nd 0 z32 z32 z32 z32)).toArray.size ∧ (encR (.slice none 0 0) (List.replicate 129 0)).toArray.size = (encR (.slice a' 0 c') (nd 0 z32 z32 z32 z32)).toArray.size) := fun a' c' => hSz a' 0 c' _ rfl
    have HMr : Hid (Bytes [more]) := fun z hz => by simp only [List.mem_cons, List.not_mem_nil, or_false] at hz; omega
    obtain ⟨sa, sc, rfl, _⟩ := hh
    rw [← hnn] at KS HE1 ⊢
    generalize nd k a b c d = N at *
    generalize nd 0 z32 z32 z32 z32 = Z at *
    generalize flatH hs = FS at *
    have l3 : ¬ (L : Int) < 3 := by omega
    have l4 : ¬ (8291 : Int) < (L : Int) := by omega
    have l5 : IntKind.i64.wrap ((L : Int) - 1) = (L : Int) - 1 := by rw [IntKind.wrap_i64]; omega
    have l6 : ((L : Int) - 1).toNat = L - 1 := by omega
    have l7 : (0 : Int) ≤ (L : Int) - 1 := by omega
    have HL3 : Hid (3 ≤ L ∧ L ≤ 8291) := hsz
    clear hE1 hDz hSz hN hdg hbz hup hex hn256 hk2 ho d1 d2 d3 dm dl hX hll hnn hL h0 HNK HCk hM2 hLL hsz hm hlz
    rcases hE2 with rfl | rfl
    · clear hEz
      go_enter Tryd.func4, Tryd.ntmps4
      go_wp2_with (first
        | ((with_reducible refine at_bxd 3 ?_); refine wpList_bx _ rfl _ _ rfl _ rfl ?_; intro x1 g3 hg1 hl1 bq1 q1; replace KV := hidden (KV.out.step q1); replace KW := hidden (KW.out.step q1); replace KL := hidden (KL.out.step q1); replace KS := hidden (KS.out.step q1); have K3 := hidden bq1.kp; clear hg1 hl1 bq1 q1)
        | ((with_reducible refine at_ldd 20 3 ?_); refine wpList_lds _ rfl _ _ rfl g3 _ _ rfl K3.out.now HUP.out (HSz1.out sa sc).1 ?_)
        | ((with_reducible refine at_ald 9 ?_); refine wpList_al _ rfl _ rfl _ zero_proof ?_; intro x4 g9 hg9 hl4 bq4 q4; clear hl4)
        | ((with_reducible refine at_st 9 ?_); refine wpList_sto _ rfl _ _ _ rfl g9 _ ((encR (.slice qa n qc) N).toArray) rfl rfl bq4 (HSz1.out qa qc).1 (HSz1.out qa qc).2 (encR_one _ _ _ _) ?_; intro x5 by5 r5; have q5 := below_row q4 r5 hg9; replace KV := hidden (KV.out.step q5); replace KW := hidden (KW.out.step q5); replace KL := hidden (KL.out.step q5); replace KS := hidden (KS.out.step q5); replace K3 := hidden (K3.out.step q5); replace KX := hidden (KX.out.step q5); replace KQ := hidden (KQ.out.step q5); have K9 := hidden by5.kp; clear q5 q4 r5 by5 bq4 hg9)
        | ((with_reducible refine at_ldd 34 3 ?_); refine wpList_ldsg _ rfl _ _ rfl g3 _ _ rfl K3.out.now HUP.out (HSz1.out sa sc).1 ?_)
        | ((with_reducible refine at_ldd 35 9 ?_); refine wpList_ldsg _ rfl _ _ rfl g9 _ _ rfl K9.out.now HUP.out (HSz1.out qa qc).1 ?_)
        | (go_at_call 18; refine (HCp.out _ _ _ KX.out.now.reads).mono ?_; rintro e wy ⟨yv, spy, rfl, oy, qy⟩; obtain ⟨ya, yc, rfl⟩ := oy.slice; have HOy := hidden (oy.grow (grow_alloc wy (.cells #[.int .u8 more] 5))); have HQy := hidden (grow_trans qy (grow_alloc wy (.cells #[.int .u8 more] 5))); have HLr := hidden (lit_own wy [more] HMr.out (by simp)).reads; have HLq := hidden (show X.length + [more].length ≤ 140737488355328 by have := HL3.out; have h2 := HLL.out; simp only [List.length_singleton]; omega); clear oy qy)
        | (at_builtin; refine wpList_app _ rfl _ _ rfl _ _ _ X spy [more] HOy.out HLr.out rfl rfl HLq.out HQy.out.size ?_; intro zv wz spz oz gz whz nlz; obtain ⟨za, zc, rfl⟩ := oz.slice; rw [List.length_append, List.length_singleton] at oz; have qz := own_below HQy.out HOy.out gz; replace KV := hidden (KV.out.step qz); replace KW := hidden (KW.out.step qz); replace KL := hidden (KL.out.step qz); replace KS := hidden (KS.out.step qz); replace K3 := hidden (K3.out.step qz); replace KX := hidden (KX.out.step qz); replace KQ := hidden (KQ.out.step qz); replace K9 := hidden (K9.out.step qz); have HOz := hidden oz; clear oz gz whz nlz qz)
        | ((with_reducible refine at_ald 11 ?_); refine wpList_al _ rfl _ rfl _ zero_proof ?_; intro x9 g11 hg11 hl9 bq9 q9; clear hl9)
        | ((with_reducible refine at_st 11 ?_); refine wpList_sto _ rfl _ _ _ rfl g11 _ ((encR (.slice ta 0 tc) Z).toArray) rfl rfl bq9 (HSz0.out ta tc).1 (HSz0.out ta tc).2 (encR_one _ _ _ _) ?_; intro x10 by10 r10; have q10 := below_row q9 r10 hg11; replace KV := hidden (KV.out.step q10); replace KW := hidden (KW.out.step q10); replace KL := hidden (KL.out.step q10); replace KS := hidden (KS.out.step q10); replace K3 := hidden (K3.out.step q10); replace KX := hidden (KX.out.step q10); replace KQ := hidden (KQ.out.step q10); replace K9 := hidden (K9.out.step q10); have K11 := hidden by10.kp; clear q10 q9 r10 by10 bq9 hg11)
        | ((with_reducible refine at_ald 13 ?_); refine wpList_al _ rfl _ rfl _ zero_proof ?_; intro x12 g13 hg13 hl12 bq12 q12; clear hl12)
        | ((with_reducible refine at_st 13 ?_); refine wpList_sto _ rfl _ _ _ rfl g13 _ ((encR (.slice ua 0 uc) Z).toArray) rfl rfl bq12 (HSz0.out ua uc).1 (HSz0.out ua uc).2 (encR_one _ _ _ _) ?_; intro x13 by13 r13; have q13 := below_row q12 r13 hg13; replace KV := hidden (KV.out.step q13); replace KW := hidden (KW.out.step q13); replace KL := hidden (KL.out.step q13); replace KS := hidden (KS.out.step q13); replace K3 := hidden (K3.out.step q13); replace KX := hidden (KX.out.step q13); replace KQ := hidden (KQ.out.step q13); replace K9 := hidden (K9.out.step q13); replace K11 := hidden (K11.out.step q13); have K13 := hidden by13.kp; clear q13 q12 r13 by13 bq12 hg13)
        | ((with_reducible refine at_ald 15 ?_); refine wpList_al _ rfl _ rfl _ zero_proof ?_; intro x15 g15 hg15 hl15 bq15 q15; clear hl15)
        | ((with_reducible refine at_st 15 ?_); refine wpList_sto _ rfl _ _ _ rfl g15 _ ((encR (.slice oa n2 oc) M2).toArray) rfl rfl bq15 (HSz2.out oa oc).1 (HSz2.out oa oc).2 (encR_one _ _ _ _) ?_; intro x16 by16 r16; have q16 := below_row q15 r16 hg15; replace KV := hidden (KV.out.step q16); replace KW := hidden (KW.out.step q16); replace KL := hidden (KL.out.step q16); replace KS := hidden (KS.out.step q16); replace K3 := hidden (K3.out.step q16); replace KX := hidden (KX.out.step q16); replace KQ := hidden (KQ.out.step q16); replace K9 := hidden (K9.out.step q16); replace K11 := hidden (K11.out.step q16); replace K13 := hidden (K13.out.step q16); replace KO := hidden (KO.out.step q16); have K15 := hidden by16.kp; clear q16 q15 r16 by16 bq15 hg15)
        | (go_at_call 10; have mk := mk_fpackDecode_3; clear mk; refine (HDz.out _ KV.out.now KL.out.now).mono ?_; rintro e x14 ⟨oa, oc, rfl, oo, q14⟩; replace KV := hidden (KV.out.step q14); replace KW := hidden (KW.out.step q14); replace KL := hidden (KL.out.step q14); replace KS := hidden (KS.out.step q14); replace K3 := hidden (K3.out.step q14); replace KX := hidden (KX.out.step q14); replace KQ := hidden (KQ.out.step q14); replace K9 := hidden (K9.out.step q14); replace K11 := hidden (K11.out.step q14); replace K13 := hidden (K13.out.step q14); have KO := hidden (ownHs_kp oo); clear oo; have mk_fpackDecode_4 : Hid True := trivial; clear q14)
        | (go_at_call 10; have mk := mk_fpackDecode_2; clear mk; refine (HD3.out _ _ (own_cut KX.out.now (L - 1) (by omega)) KL.out.now).mono ?_; rintro e x11 ⟨ua, uc, rfl, q11⟩; replace KV := hidden (KV.out.step q11); replace KW := hidden (KW.out.step q11); replace KL := hidden (KL.out.step q11); replace KS := hidden (KS.out.step q11); replace K3 := hidden (K3.out.step q11); replace KX := hidden (KX.out.step q11); replace KQ := hidden (KQ.out.step q11); replace K9 := hidden (K9.out.step q11); replace K11 := hidden (K11.out.step q11); have mk_fpackDecode_3 : Hid True := trivial; clear q11)
        | (go_at_call 10; have mk := mk_fpackDecode_1; clear mk; refine (HD2.out _ _ HOz.out.reads KL.out.now).mono ?_; rintro e x8 ⟨ta, tc, rfl, q8⟩; replace KV := hidden (KV.out.step q8); replace KW := hidden (KW.out.step q8); replace KL := hidden (KL.out.step q8); replace KS := hidden (KS.out.step q8); replace K3 := hidden (K3.out.step q8); replace KX := hidden (KX.out.step q8); replace KQ := hidden (KQ.out.step q8); replace K9 := hidden (K9.out.step q8); have mk_fpackDecode_2 : Hid True := trivial; clear q8)
        | (go_at_call 15; refine (HSP.out _ _ _ _ _ _ KS.out.now KQ.out.now).mono ?_; rintro e x6 ⟨rfl, q6⟩; replace KV := hidden (KV.out.step q6); replace KW := hidden (KW.out.step q6); replace KL := hidden (KL.out.step q6); replace KS := hidden (KS.out.step q6); replace K3 := hidden (K3.out.step q6); replace KX := hidden (KX.out.step q6); replace KQ := hidden (KQ.out.step q6); replace K9 := hidden (K9.out.step q6); have mk_frootcellarkitSameProof_1 : Hid True := trivial; clear q6)
        | (go_at_call 10; refine (HD1.out _ _ _ KX.out.now.reads KL.out.now).mono ?_; rintro e x3 ⟨qa, qc, rfl, oq, q3⟩; replace KV := hidden (KV.out.step q3); replace KW := hidden (KW.out.step q3); replace KL := hidden (KL.out.step q3); replace KS := hidden (KS.out.step q3); replace K3 := hidden (K3.out.step q3); replace KX := hidden (KX.out.step q3); have KQ := hidden (ownHs_kp oq); clear oq; have mk_fpackDecode_1 : Hid True := trivial; clear q3)
        | (go_at_call 7; refine (HE1.out _ KS.out.now KL.out.now).mono ?_; rintro e x2 ⟨xa, xc, spx, rfl, ox, q2⟩; replace KV := hidden (KV.out.step q2); replace KW := hidden (KW.out.step q2); replace KL := hidden (KL.out.step q2); replace KS := hidden (KS.out.step q2); replace K3 := hidden (K3.out.step q2); obtain ⟨gx, rfl⟩ := own_pos ox (by omega); have KX := hidden ox.kp; have l8 : (L : Int) - 1 ≤ (xc : Int) := (by have := (own_ln ox).2; omega); clear ox; have mk_fpackEncode_1 : Hid True := trivial; clear q2))
      go_ret
      exact ⟨rfl, KW.out.now⟩
    · have HEz := hidden (hEz rfl)
      clear hEz
      go_enter Tryd.func4, Tryd.ntmps4
      go_wp2_with (first
        | ((with_reducible refine at_bxd 3 ?_); refine wpList_bx _ rfl _ _ rfl _ rfl ?_; intro x1 g3 hg1 hl1 bq1 q1; replace KV := hidden (KV.out.step q1); replace KW := hidden (KW.out.step q1); replace KL := hidden (KL.out.step q1); replace KS := hidden (KS.out.step q1); have K3 := hidden bq1.kp; clear hg1 hl1 bq1 q1)
        | ((with_reducible refine at_ldd 20 3 ?_); refine wpList_lds _ rfl _ _ rfl g3 _ _ rfl K3.out.now HUP.out (HSz1.out sa sc).1 ?_)
        | ((with_reducible refine at_ald 9 ?_); refine wpList_al _ rfl _ rfl _ zero_proof ?_; intro x4 g9 hg9 hl4 bq4 q4; clear hl4)
        | ((with_reducible refine at_st 9 ?_); refine wpList_sto _ rfl _ _ _ rfl g9 _ ((encR (.slice qa n qc) N).toArray) rfl rfl bq4 (HSz1.out qa qc).1 (HSz1.out qa qc).2 (encR_one _ _ _ _) ?_; intro x5 by5 r5; have q5 := below_row q4 r5 hg9; replace KV := hidden (KV.out.step q5); replace KW := hidden (KW.out.step q5); replace KL := hidden (KL.out.step q5); replace KS := hidden (KS.out.step q5); replace K3 := hidden (K3.out.step q5); replace KX := hidden (KX.out.step q5); replace KQ := hidden (KQ.out.step q5); have K9 := hidden by5.kp; clear q5 q4 r5 by5 bq4 hg9)
        | ((with_reducible refine at_ldd 34 3 ?_); refine wpList_ldsg _ rfl _ _ rfl g3 _ _ rfl K3.out.now HUP.out (HSz1.out sa sc).1 ?_)
        | ((with_reducible refine at_ldd 35 9 ?_); refine wpList_ldsg _ rfl _ _ rfl g9 _ _ rfl K9.out.now HUP.out (HSz1.out qa qc).1 ?_)
        | (go_at_call 18; refine (HCp.out _ _ _ KX.out.now.reads).mono ?_; rintro e wy ⟨yv, spy, rfl, oy, qy⟩; obtain ⟨ya, yc, rfl⟩ := oy.slice; have HOy := hidden (oy.grow (grow_alloc wy (.cells #[.int .u8 more] 5))); have HQy := hidden (grow_trans qy (grow_alloc wy (.cells #[.int .u8 more] 5))); have HLr := hidden (lit_own wy [more] HMr.out (by simp)).reads; have HLq := hidden (show X.length + [more].length ≤ 140737488355328 by have := HL3.out; have h2 := HLL.out; simp only [List.length_singleton]; omega); clear oy qy)
        | (at_builtin; refine wpList_app _ rfl _ _ rfl _ _ _ X spy [more] HOy.out HLr.out rfl rfl HLq.out HQy.out.size ?_; intro zv wz spz oz gz whz nlz; obtain ⟨za, zc, rfl⟩ := oz.slice; rw [List.length_append, List.length_singleton] at oz; have qz := own_below HQy.out HOy.out gz; replace KV := hidden (KV.out.step qz); replace KW := hidden (KW.out.step qz); replace KL := hidden (KL.out.step qz); replace KS := hidden (KS.out.step qz); replace K3 := hidden (K3.out.step qz); replace KX := hidden (KX.out.step qz); replace KQ := hidden (KQ.out.step qz); replace K9 := hidden (K9.out.step qz); have HOz := hidden oz; clear oz gz whz nlz qz)
        | ((with_reducible refine at_ald 11 ?_); refine wpList_al _ rfl _ rfl _ zero_proof ?_; intro x9 g11 hg11 hl9 bq9 q9; clear hl9)
        | ((with_reducible refine at_st 11 ?_); refine wpList_sto _ rfl _ _ _ rfl g11 _ ((encR (.slice ta 0 tc) Z).toArray) rfl rfl bq9 (HSz0.out ta tc).1 (HSz0.out ta tc).2 (encR_one _ _ _ _) ?_; intro x10 by10 r10; have q10 := below_row q9 r10 hg11; replace KV := hidden (KV.out.step q10); replace KW := hidden (KW.out.step q10); replace KL := hidden (KL.out.step q10); replace KS := hidden (KS.out.step q10); replace K3 := hidden (K3.out.step q10); replace KX := hidden (KX.out.step q10); replace KQ := hidden (KQ.out.step q10); replace K9 := hidden (K9.out.step q10); have K11 := hidden by10.kp; clear q10 q9 r10 by10 bq9 hg11)
        | ((with_reducible refine at_ald 13 ?_); refine wpList_al _ rfl _ rfl _ zero_proof ?_; intro x12 g13 hg13 hl12 bq12 q12; clear hl12)
        | ((with_reducible refine at_st 13 ?_); refine wpList_sto _ rfl _ _ _ rfl g13 _ ((encR (.slice ua 0 uc) Z).toArray) rfl rfl bq12 (HSz0.out ua uc).1 (HSz0.out ua uc).2 (encR_one _ _ _ _) ?_; intro x13 by13 r13; have q13 := below_row q12 r13 hg13; replace KV := hidden (KV.out.step q13); replace KW := hidden (KW.out.step q13); replace KL := hidden (KL.out.step q13); replace KS := hidden (KS.out.step q13); replace K3 := hidden (K3.out.step q13); replace KX := hidden (KX.out.step q13); replace KQ := hidden (KQ.out.step q13); replace K9 := hidden (K9.out.step q13); replace K11 := hidden (K11.out.step q13); have K13 := hidden by13.kp; clear q13 q12 r13 by13 bq12 hg13)
        | ((with_reducible refine at_ald 15 ?_); refine wpList_al _ rfl _ rfl _ zero_proof ?_; intro x15 g15 hg15 hl15 bq15 q15; clear hl15)
        | ((with_reducible refine at_st 15 ?_); refine wpList_sto _ rfl _ _ _ rfl g15 _ ((encR (.slice oa n2 oc) M2).toArray) rfl rfl bq15 (HSz2.out oa oc).1 (HSz2.out oa oc).2 (encR_one _ _ _ _) ?_; intro x16 by16 r16; have q16 := below_row q15 r16 hg15; replace KV := hidden (KV.out.step q16); replace KW := hidden (KW.out.step q16); replace KL := hidden (KL.out.step q16); replace KS := hidden (KS.out.step q16); replace K3 := hidden (K3.out.step q16); replace KX := hidden (KX.out.step q16); replace KQ := hidden (KQ.out.step q16); replace K9 := hidden (K9.out.step q16); replace K11 := hidden (K11.out.step q16); replace K13 := hidden (K13.out.step q16); replace KO := hidden (KO.out.step q16); have K15 := hidden by16.kp; clear q16 q15 r16 by16 bq15 hg15)
        | ((with_reducible refine at_ldd 97 15 ?_); refine wpList_lds _ rfl _ _ rfl g15 _ _ rfl K15.out.now HUP.out (HSz2.out oa oc).1 ?_)
        | (go_at_call 14; refine (HSb.out _ _ KP.out.now.reads KV.out.now).mono ?_; rintro e wf ⟨rfl, rfl⟩)
        | (go_at_call 7; have mk := mk_fpackEncode_1; clear mk; refine (HEz.out _ _ _ _ KO.out.now KL.out.now).mono ?_; rintro e x17 ⟨pa, pc, spp, rfl, op, q17⟩; replace KV := hidden (KV.out.step q17); replace KW := hidden (KW.out.step q17); replace KL := hidden (KL.out.step q17); replace KS := hidden (KS.out.step q17); replace K3 := hidden (K3.out.step q17); replace KX := hidden (KX.out.step q17); replace KQ := hidden (KQ.out.step q17); replace K9 := hidden (K9.out.step q17); replace K11 := hidden (K11.out.step q17); replace K13 := hidden (K13.out.step q17); replace KO := hidden (KO.out.step q17); replace K15 := hidden (K15.out.step q17); have KP := hidden op.kp; clear op; have mk_fpackEncode_2 : Hid True := trivial; clear q17)
        | (go_at_call 10; have mk := mk_fpackDecode_3; clear mk; refine (HDz.out _ KV.out.now KL.out.now).mono ?_; rintro e x14 ⟨oa, oc, rfl, oo, q14⟩; replace KV := hidden (KV.out.step q14); replace KW := hidden (KW.out.step q14); replace KL := hidden (KL.out.step q14); replace KS := hidden (KS.out.step q14); replace K3 := hidden (K3.out.step q14); replace KX := hidden (KX.out.step q14); replace KQ := hidden (KQ.out.step q14); replace K9 := hidden (K9.out.step q14); replace K11 := hidden (K11.out.step q14); replace K13 := hidden (K13.out.step q14); have KO := hidden (ownHs_kp oo); clear oo; have mk_fpackDecode_4 : Hid True := trivial; clear q14)
        | (go_at_call 10; have mk := mk_fpackDecode_2; clear mk; refine (HD3.out _ _ (own_cut KX.out.now (L - 1) (by omega)) KL.out.now).mono ?_; rintro e x11 ⟨ua, uc, rfl, q11⟩; replace KV := hidden (KV.out.step q11); replace KW := hidden (KW.out.step q11); replace KL := hidden (KL.out.step q11); replace KS := hidden (KS.out.step q11); replace K3 := hidden (K3.out.step q11); replace KX := hidden (KX.out.step q11); replace KQ := hidden (KQ.out.step q11); replace K9 := hidden (K9.out.step q11); replace K11 := hidden (K11.out.step q11); have mk_fpackDecode_3 : Hid True := trivial; clear q11)
        | (go_at_call 10; have mk := mk_fpackDecode_1; clear mk; refine (HD2.out _ _ HOz.out.reads KL.out.now).mono ?_; rintro e x8 ⟨ta, tc, rfl, q8⟩; replace KV := hidden (KV.out.step q8); replace KW := hidden (KW.out.step q8); replace KL := hidden (KL.out.step q8); replace KS := hidden (KS.out.step q8); replace K3 := hidden (K3.out.step q8); replace KX := hidden (KX.out.step q8); replace KQ := hidden (KQ.out.step q8); replace K9 := hidden (K9.out.step q8); have mk_fpackDecode_2 : Hid True := trivial; clear q8)
        | (go_at_call 15; refine (HSP.out _ _ _ _ _ _ KS.out.now KQ.out.now).mono ?_; rintro e x6 ⟨rfl, q6⟩; replace KV := hidden (KV.out.step q6); replace KW := hidden (KW.out.step q6); replace KL := hidden (KL.out.step q6); replace KS := hidden (KS.out.step q6); replace K3 := hidden (K3.out.step q6); replace KX := hidden (KX.out.step q6); replace KQ := hidden (KQ.out.step q6); replace K9 := hidden (K9.out.step q6); have mk_frootcellarkitSameProof_1 : Hid True := trivial; clear q6)
        | (go_at_call 10; refine (HD1.out _ _ _ KX.out.now.reads KL.out.now).mono ?_; rintro e x3 ⟨qa, qc, rfl, oq, q3⟩; replace KV := hidden (KV.out.step q3); replace KW := hidden (KW.out.step q3); replace KL := hidden (KL.out.step q3); replace KS := hidden (KS.out.step q3); replace K3 := hidden (K3.out.step q3); replace KX := hidden (KX.out.step q3); have KQ := hidden (ownHs_kp oq); clear oq; have mk_fpackDecode_1 : Hid True := trivial; clear q3)
        | (go_at_call 7; refine (HE1.out _ KS.out.now KL.out.now).mono ?_; rintro e x2 ⟨xa, xc, spx, rfl, ox, q2⟩; replace KV := hidden (KV.out.step q2); replace KW := hidden (KW.out.step q2); replace KL := hidden (KL.out.step q2); replace KS := hidden (KS.out.step q2); replace K3 := hidden (K3.out.step q2); obtain ⟨gx, rfl⟩ := own_pos ox (by omega); have KX := hidden ox.kp; have l8 : (L : Int) - 1 ≤ (xc : Int) := (by have := (own_ln ox).2; omega); clear ox; have mk_fpackEncode_1 : Hid True := trivial; clear q2))
      go_ret
      exact ⟨rfl, KW.out.now⟩
  · have hex : exP hs k a b c d = [] := if_neg h0
    have hS1 : ∀ a' c', (Tryd.prog.info? 30).map (·.size) = some (encR (.slice a' n c') (nd k a b c d)).toArray.size := fun a' c' => (hSz a' n c' _ hN.length).1
    have HS1 := hidden hS1
    rw [hex] at hE1
    have hO : okE k a b c d = 0 ∨ okE k a b c d = 2 := by unfold okE; split <;> simp
    have hch : chE hs k a b c d = if 256 < n then 4 else if k = 2 then 2 else okE k a b c d := by rw [hnn]; rfl
    rw [hch] at h0 hE1
    have HNl := hidden hN.length
    obtain ⟨sa, sc, rfl, _⟩ := hh
    rw [← hnn] at KS hE1 HNK ⊢
    have k0 := hN.k0
    generalize okE k a b c d = O at *
    generalize nd k a b c d = N at *
    by_cases h256 : 256 < n
    · have z1 : ¬ (n : Int) ≤ 256 := by omega
      rw [if_pos h256] at hE1
      have HE1 := hidden hE1
      clear hE1 hDz hSz hN hdg hbz hup hex hll hnn hL h0 hM2 hm hlz hch hO h256 hS1
      rcases hE2 with rfl | rfl
      · clear hEz
        go_enter Tryd.func4, Tryd.ntmps4
        go_wp2_with (first
          | ((with_reducible refine at_bxd 3 ?_); refine wpList_bx _ rfl _ _ rfl _ rfl ?_; intro x1 g3 hg1 hl1 bq1 q1; replace KV := hidden (KV.out.step q1); replace KW := hidden (KW.out.step q1); replace KL := hidden (KL.out.step q1); replace KS := hidden (KS.out.step q1); have K3 := hidden bq1.kp; clear hg1 hl1 bq1 q1; have cx3 := proof_side K3.out.now)
          | ((with_reducible refine at_ldd 20 3 ?_); refine wpList_lds _ rfl _ _ rfl g3 _ _ rfl K3.out.now HUP.out (HS1.out sa sc) ?_)
          | ((with_reducible refine at_ald 15 ?_); refine wpList_al _ rfl _ rfl _ zero_proof ?_; intro x4 g15 hg15 hl4 bq4 q4; clear hl4)
          | ((with_reducible refine at_st 15 ?_); refine wpList_sto _ rfl _ _ _ rfl g15 _ ((encR (.slice oa n2 oc) M2).toArray) rfl rfl bq4 (HSz2.out oa oc).1 (HSz2.out oa oc).2 (encR_one _ _ _ _) ?_; intro x5 by5 r5; have q5 := below_row q4 r5 hg15; replace KV := hidden (KV.out.step q5); replace KW := hidden (KW.out.step q5); replace KL := hidden (KL.out.step q5); replace KS := hidden (KS.out.step q5); replace K3 := hidden (K3.out.step q5); replace KO := hidden (KO.out.step q5); have K15 := hidden by5.kp; clear q5 q4 r5 by5 bq4 hg15)
          | (go_at_call 10; refine (HDz.out _ KV.out.now KL.out.now).mono ?_; rintro e x3 ⟨oa, oc, rfl, oo, q3⟩; replace KV := hidden (KV.out.step q3); replace KW := hidden (KW.out.step q3); replace KL := hidden (KL.out.step q3); replace KS := hidden (KS.out.step q3); replace K3 := hidden (K3.out.step q3); have KO := hidden (ownHs_kp oo); clear oo; have mk_fpackDecode_1 : Hid True := trivial; clear q3)
          | (go_at_call 7; refine (HE1.out _ KS.out.now KL.out.now).mono ?_; rintro e x2 ⟨xa, xc, spx, rfl, ox, q2⟩; replace KV := hidden (KV.out.step q2); replace KW := hidden (KW.out.step q2); replace KL := hidden (KL.out.step q2); replace KS := hidden (KS.out.step q2); replace K3 := hidden (K3.out.step q2); clear ox cx3; have cx := proof_side K3.out.now; have mk_fpackEncode_1 : Hid True := trivial; clear q2))
        go_ret
        exact ⟨rfl, KW.out.now⟩
      · have HEz := hidden (hEz rfl)
        clear hEz
        go_enter Tryd.func4, Tryd.ntmps4
        go_wp2_with (first
          | ((with_reducible refine at_bxd 3 ?_); refine wpList_bx _ rfl _ _ rfl _ rfl ?_; intro x1 g3 hg1 hl1 bq1 q1; replace KV := hidden (KV.out.step q1); replace KW := hidden (KW.out.step q1); replace KL := hidden (KL.out.step q1); replace KS := hidden (KS.out.step q1); have K3 := hidden bq1.kp; clear hg1 hl1 bq1 q1; have cx3 := proof_side K3.out.now)
          | ((with_reducible refine at_ldd 20 3 ?_); refine wpList_lds _ rfl _ _ rfl g3 _ _ rfl K3.out.now HUP.out (HS1.out sa sc) ?_)
          | ((with_reducible refine at_ald 15 ?_); refine wpList_al _ rfl _ rfl _ zero_proof ?_; intro x4 g15 hg15 hl4 bq4 q4; clear hl4)
          | ((with_reducible refine at_st 15 ?_); refine wpList_sto _ rfl _ _ _ rfl g15 _ ((encR (.slice oa n2 oc) M2).toArray) rfl rfl bq4 (HSz2.out oa oc).1 (HSz2.out oa oc).2 (encR_one _ _ _ _) ?_; intro x5 by5 r5; have q5 := below_row q4 r5 hg15; replace KV := hidden (KV.out.step q5); replace KW := hidden (KW.out.step q5); replace KL := hidden (KL.out.step q5); replace KS := hidden (KS.out.step q5); replace K3 := hidden (K3.out.step q5); replace KO := hidden (KO.out.step q5); have K15 := hidden by5.kp; clear q5 q4 r5 by5 bq4 hg15)
          | ((with_reducible refine at_ldd 97 15 ?_); refine wpList_lds _ rfl _ _ rfl g15 _ _ rfl K15.out.now HUP.out (HSz2.out oa oc).1 ?_)
          | (go_at_call 14; refine (HSb.out _ _ KP.out.now.reads KV.out.now).mono ?_; rintro e wf ⟨rfl, rfl⟩)
          | (go_at_call 7; have mk := mk_fpackEncode_1; clear mk; refine (HEz.out _ _ _ _ KO.out.now KL.out.now).mono ?_; rintro e x6 ⟨pa, pc, spp, rfl, op, q6⟩; replace KV := hidden (KV.out.step q6); replace KW := hidden (KW.out.step q6); replace KL := hidden (KL.out.step q6); replace KS := hidden (KS.out.step q6); replace K3 := hidden (K3.out.step q6); replace KO := hidden (KO.out.step q6); replace K15 := hidden (K15.out.step q6); have KP := hidden op.kp; clear op; have mk_fpackEncode_2 : Hid True := trivial; clear q6)
          | (go_at_call 10; refine (HDz.out _ KV.out.now KL.out.now).mono ?_; rintro e x3 ⟨oa, oc, rfl, oo, q3⟩; replace KV := hidden (KV.out.step q3); replace KW := hidden (KW.out.step q3); replace KL := hidden (KL.out.step q3); replace KS := hidden (KS.out.step q3); replace K3 := hidden (K3.out.step q3); have KO := hidden (ownHs_kp oo); clear oo; have mk_fpackDecode_1 : Hid True := trivial; clear q3)
          | (go_at_call 7; refine (HE1.out _ KS.out.now KL.out.now).mono ?_; rintro e x2 ⟨xa, xc, spx, rfl, ox, q2⟩; replace KV := hidden (KV.out.step q2); replace KW := hidden (KW.out.step q2); replace KL := hidden (KL.out.step q2); replace KS := hidden (KS.out.step q2); replace K3 := hidden (K3.out.step q2); clear ox cx3; have cx := proof_side K3.out.now; have mk_fpackEncode_1 : Hid True := trivial; clear q2))
        go_ret
        exact ⟨rfl, KW.out.now⟩
    · have z1 : (n : Int) ≤ 256 := by omega
      rw [if_neg h256] at hE1 h0
      rcases hO with rfl | rfl
      · have hk : k = 2 := by
          by_cases q : k = 2
          · exact q
          · rw [if_neg q] at h0
            exact absurd rfl h0
        rw [if_pos hk] at hE1
        have HE1 := hidden hE1
        have z2 : (k == 2) = true := by simp [hk]
        have z3 : (k != 2) = false := by simp [hk]
        clear hE1 hDz hSz hN hdg hbz hup hex hll hnn hL h0 hM2 hm hlz hch h256 hS1
        rcases hE2 with rfl | rfl
        · clear hEz
          go_enter Tryd.func4, Tryd.ntmps4
          go_wp2_with (first
            | ((with_reducible refine at_bxd 3 ?_); refine wpList_bx _ rfl _ _ rfl _ rfl ?_; intro x1 g3 hg1 hl1 bq1 q1; replace KV := hidden (KV.out.step q1); replace KW := hidden (KW.out.step q1); replace KL := hidden (KL.out.step q1); replace KS := hidden (KS.out.step q1); have K3 := hidden bq1.kp; clear hg1 hl1 bq1 q1; have cx3 := proof_side K3.out.now)
            | ((with_reducible refine at_ldd 20 3 ?_); refine wpList_lds _ rfl _ _ rfl g3 _ _ rfl K3.out.now HUP.out (HS1.out sa sc) ?_)
            | ((with_reducible refine at_ldd 79 78 ?_); refine wpList_ldeg _ rfl _ rfl g3 _ _ N rfl K3.out.now HNl.out ?_)
            | ((with_reducible refine at_ald 15 ?_); refine wpList_al _ rfl _ rfl _ zero_proof ?_; intro x5 g15 hg15 hl5 bq5 q5; clear hl5)
            | ((with_reducible refine at_st 15 ?_); refine wpList_sto _ rfl _ _ _ rfl g15 _ ((encR (.slice oa n2 oc) M2).toArray) rfl rfl bq5 (HSz2.out oa oc).1 (HSz2.out oa oc).2 (encR_one _ _ _ _) ?_; intro x6 by6 r6; have q6 := below_row q5 r6 hg15; replace KV := hidden (KV.out.step q6); replace KW := hidden (KW.out.step q6); replace KL := hidden (KL.out.step q6); replace KS := hidden (KS.out.step q6); replace K3 := hidden (K3.out.step q6); replace KO := hidden (KO.out.step q6); have K15 := hidden by6.kp; clear q6 q5 r6 by6 bq5 hg15)
            | (go_at_call 10; refine (HDz.out _ KV.out.now KL.out.now).mono ?_; rintro e x4 ⟨oa, oc, rfl, oo, q4⟩; replace KV := hidden (KV.out.step q4); replace KW := hidden (KW.out.step q4); replace KL := hidden (KL.out.step q4); replace KS := hidden (KS.out.step q4); replace K3 := hidden (K3.out.step q4); have KO := hidden (ownHs_kp oo); clear oo; have mk_fpackDecode_1 : Hid True := trivial; clear q4)
            | (go_at_call 19; refine (HCk.out _).mono ?_; rintro e x3 ⟨rfl, q3⟩; replace KV := hidden (KV.out.step q3); replace KW := hidden (KW.out.step q3); replace KL := hidden (KL.out.step q3); replace KS := hidden (KS.out.step q3); replace K3 := hidden (K3.out.step q3); have ck := HNK.out _ _ _ K3.out.now; have mk_fnodeCheck_1 : Hid True := trivial; clear q3)
            | (go_at_call 7; refine (HE1.out _ KS.out.now KL.out.now).mono ?_; rintro e x2 ⟨xa, xc, spx, rfl, ox, q2⟩; replace KV := hidden (KV.out.step q2); replace KW := hidden (KW.out.step q2); replace KL := hidden (KL.out.step q2); replace KS := hidden (KS.out.step q2); replace K3 := hidden (K3.out.step q2); clear ox cx3; have cx := proof_side K3.out.now; have mk_fpackEncode_1 : Hid True := trivial; clear q2))
          go_ret
          exact ⟨rfl, KW.out.now⟩
        · have HEz := hidden (hEz rfl)
          clear hEz
          go_enter Tryd.func4, Tryd.ntmps4
          go_wp2_with (first
            | ((with_reducible refine at_bxd 3 ?_); refine wpList_bx _ rfl _ _ rfl _ rfl ?_; intro x1 g3 hg1 hl1 bq1 q1; replace KV := hidden (KV.out.step q1); replace KW := hidden (KW.out.step q1); replace KL := hidden (KL.out.step q1); replace KS := hidden (KS.out.step q1); have K3 := hidden bq1.kp; clear hg1 hl1 bq1 q1; have cx3 := proof_side K3.out.now)
            | ((with_reducible refine at_ldd 20 3 ?_); refine wpList_lds _ rfl _ _ rfl g3 _ _ rfl K3.out.now HUP.out (HS1.out sa sc) ?_)
            | ((with_reducible refine at_ldd 79 78 ?_); refine wpList_ldeg _ rfl _ rfl g3 _ _ N rfl K3.out.now HNl.out ?_)
            | ((with_reducible refine at_ald 15 ?_); refine wpList_al _ rfl _ rfl _ zero_proof ?_; intro x5 g15 hg15 hl5 bq5 q5; clear hl5)
            | ((with_reducible refine at_st 15 ?_); refine wpList_sto _ rfl _ _ _ rfl g15 _ ((encR (.slice oa n2 oc) M2).toArray) rfl rfl bq5 (HSz2.out oa oc).1 (HSz2.out oa oc).2 (encR_one _ _ _ _) ?_; intro x6 by6 r6; have q6 := below_row q5 r6 hg15; replace KV := hidden (KV.out.step q6); replace KW := hidden (KW.out.step q6); replace KL := hidden (KL.out.step q6); replace KS := hidden (KS.out.step q6); replace K3 := hidden (K3.out.step q6); replace KO := hidden (KO.out.step q6); have K15 := hidden by6.kp; clear q6 q5 r6 by6 bq5 hg15)
            | ((with_reducible refine at_ldd 97 15 ?_); refine wpList_lds _ rfl _ _ rfl g15 _ _ rfl K15.out.now HUP.out (HSz2.out oa oc).1 ?_)
            | (go_at_call 14; refine (HSb.out _ _ KP.out.now.reads KV.out.now).mono ?_; rintro e wf ⟨rfl, rfl⟩)
            | (go_at_call 7; have mk := mk_fpackEncode_1; clear mk; refine (HEz.out _ _ _ _ KO.out.now KL.out.now).mono ?_; rintro e x7 ⟨pa, pc, spp, rfl, op, q7⟩; replace KV := hidden (KV.out.step q7); replace KW := hidden (KW.out.step q7); replace KL := hidden (KL.out.step q7); replace KS := hidden (KS.out.step q7); replace K3 := hidden (K3.out.step q7); replace KO := hidden (KO.out.step q7); replace K15 := hidden (K15.out.step q7); have KP := hidden op.kp; clear op; have mk_fpackEncode_2 : Hid True := trivial; clear q7)
            | (go_at_call 10; refine (HDz.out _ KV.out.now KL.out.now).mono ?_; rintro e x4 ⟨oa, oc, rfl, oo, q4⟩; replace KV := hidden (KV.out.step q4); replace KW := hidden (KW.out.step q4); replace KL := hidden (KL.out.step q4); replace KS := hidden (KS.out.step q4); replace K3 := hidden (K3.out.step q4); have KO := hidden (ownHs_kp oo); clear oo; have mk_fpackDecode_1 : Hid True := trivial; clear q4)
            | (go_at_call 19; refine (HCk.out _).mono ?_; rintro e x3 ⟨rfl, q3⟩; replace KV := hidden (KV.out.step q3); replace KW := hidden (KW.out.step q3); replace KL := hidden (KL.out.step q3); replace KS := hidden (KS.out.step q3); replace K3 := hidden (K3.out.step q3); have ck := HNK.out _ _ _ K3.out.now; have mk_fnodeCheck_1 : Hid True := trivial; clear q3)
            | (go_at_call 7; refine (HE1.out _ KS.out.now KL.out.now).mono ?_; rintro e x2 ⟨xa, xc, spx, rfl, ox, q2⟩; replace KV := hidden (KV.out.step q2); replace KW := hidden (KW.out.step q2); replace KL := hidden (KL.out.step q2); replace KS := hidden (KS.out.step q2); replace K3 := hidden (K3.out.step q2); clear ox cx3; have cx := proof_side K3.out.now; have mk_fpackEncode_1 : Hid True := trivial; clear q2))
          go_ret
          exact ⟨rfl, KW.out.now⟩
      · have hE1' : ∀ w', HsAt w' (.slice sa n sc) hs → Laid w' → Calls Tryd.prog 7 #[.agg (encR (.slice sa n sc) N).toArray] w' fun e w'' => ∃ xa xc sp, e = .returned (.tuple #[.slice xa ([] : List Int).length xc, .int .i64 2]) ∧ Own w'.heap.size w'' (.slice xa ([] : List Int).length xc) [] sp ∧ Below w'.heap.size w' w'' := fun w' h1 h2 => by
          have := hE1 w' h1 h2
          rw [show (if k = 2 then (2 : Int) else 2) = 2 by split <;> rfl] at this
          exact this
        have HE1 := hidden hE1'
        clear hE1 hE1' hDz hSz hN hdg hbz hup hex hll hnn hL h0 hM2 hm hlz hch h256 hS1
        rcases hE2 with rfl | rfl
        · clear hEz
          go_enter Tryd.func4, Tryd.ntmps4
          go_wp2_with (first
            | ((with_reducible refine at_bxd 3 ?_); refine wpList_bx _ rfl _ _ rfl _ rfl ?_; intro x1 g3 hg1 hl1 bq1 q1; replace KV := hidden (KV.out.step q1); replace KW := hidden (KW.out.step q1); replace KL := hidden (KL.out.step q1); replace KS := hidden (KS.out.step q1); have K3 := hidden bq1.kp; clear hg1 hl1 bq1 q1; have cx3 := proof_side K3.out.now)
            | ((with_reducible refine at_ldd 20 3 ?_); refine wpList_lds _ rfl _ _ rfl g3 _ _ rfl K3.out.now HUP.out (HS1.out sa sc) ?_)
            | ((with_reducible refine at_ldd 79 78 ?_); refine wpList_ldeg _ rfl _ rfl g3 _ _ N rfl K3.out.now HNl.out ?_)
            | ((with_reducible refine at_ald 15 ?_); refine wpList_al _ rfl _ rfl _ zero_proof ?_; intro x5 g15 hg15 hl5 bq5 q5; clear hl5)
            | ((with_reducible refine at_st 15 ?_); refine wpList_sto _ rfl _ _ _ rfl g15 _ ((encR (.slice oa n2 oc) M2).toArray) rfl rfl bq5 (HSz2.out oa oc).1 (HSz2.out oa oc).2 (encR_one _ _ _ _) ?_; intro x6 by6 r6; have q6 := below_row q5 r6 hg15; replace KV := hidden (KV.out.step q6); replace KW := hidden (KW.out.step q6); replace KL := hidden (KL.out.step q6); replace KS := hidden (KS.out.step q6); replace K3 := hidden (K3.out.step q6); replace KO := hidden (KO.out.step q6); have K15 := hidden by6.kp; clear q6 q5 r6 by6 bq5 hg15)
            | (go_at_call 10; refine (HDz.out _ KV.out.now KL.out.now).mono ?_; rintro e x4 ⟨oa, oc, rfl, oo, q4⟩; replace KV := hidden (KV.out.step q4); replace KW := hidden (KW.out.step q4); replace KL := hidden (KL.out.step q4); replace KS := hidden (KS.out.step q4); replace K3 := hidden (K3.out.step q4); have KO := hidden (ownHs_kp oo); clear oo; have mk_fpackDecode_1 : Hid True := trivial; clear q4)
            | (go_at_call 19; refine (HCk.out _).mono ?_; rintro e x3 ⟨rfl, q3⟩; replace KV := hidden (KV.out.step q3); replace KW := hidden (KW.out.step q3); replace KL := hidden (KL.out.step q3); replace KS := hidden (KS.out.step q3); replace K3 := hidden (K3.out.step q3); have ck := HNK.out _ _ _ K3.out.now; have mk_fnodeCheck_1 : Hid True := trivial; clear q3)
            | (go_at_call 7; refine (HE1.out _ KS.out.now KL.out.now).mono ?_; rintro e x2 ⟨xa, xc, spx, rfl, ox, q2⟩; replace KV := hidden (KV.out.step q2); replace KW := hidden (KW.out.step q2); replace KL := hidden (KL.out.step q2); replace KS := hidden (KS.out.step q2); replace K3 := hidden (K3.out.step q2); clear ox cx3; have cx := proof_side K3.out.now; have mk_fpackEncode_1 : Hid True := trivial; clear q2))
          go_ret
          exact ⟨rfl, KW.out.now⟩
        · have HEz := hidden (hEz rfl)
          clear hEz
          go_enter Tryd.func4, Tryd.ntmps4
          go_wp2_with (first
            | ((with_reducible refine at_bxd 3 ?_); refine wpList_bx _ rfl _ _ rfl _ rfl ?_; intro x1 g3 hg1 hl1 bq1 q1; replace KV := hidden (KV.out.step q1); replace KW := hidden (KW.out.step q1); replace KL := hidden (KL.out.step q1); replace KS := hidden (KS.out.step q1); have K3 := hidden bq1.kp; clear hg1 hl1 bq1 q1; have cx3 := proof_side K3.out.now)
            | ((with_reducible refine at_ldd 20 3 ?_); refine wpList_lds _ rfl _ _ rfl g3 _ _ rfl K3.out.now HUP.out (HS1.out sa sc) ?_)
            | ((with_reducible refine at_ldd 79 78 ?_); refine wpList_ldeg _ rfl _ rfl g3 _ _ N rfl K3.out.now HNl.out ?_)
            | ((with_reducible refine at_ald 15 ?_); refine wpList_al _ rfl _ rfl _ zero_proof ?_; intro x5 g15 hg15 hl5 bq5 q5; clear hl5)
            | ((with_reducible refine at_st 15 ?_); refine wpList_sto _ rfl _ _ _ rfl g15 _ ((encR (.slice oa n2 oc) M2).toArray) rfl rfl bq5 (HSz2.out oa oc).1 (HSz2.out oa oc).2 (encR_one _ _ _ _) ?_; intro x6 by6 r6; have q6 := below_row q5 r6 hg15; replace KV := hidden (KV.out.step q6); replace KW := hidden (KW.out.step q6); replace KL := hidden (KL.out.step q6); replace KS := hidden (KS.out.step q6); replace K3 := hidden (K3.out.step q6); replace KO := hidden (KO.out.step q6); have K15 := hidden by6.kp; clear q6 q5 r6 by6 bq5 hg15)
            | ((with_reducible refine at_ldd 97 15 ?_); refine wpList_lds _ rfl _ _ rfl g15 _ _ rfl K15.out.now HUP.out (HSz2.out oa oc).1 ?_)
            | (go_at_call 14; refine (HSb.out _ _ KP.out.now.reads KV.out.now).mono ?_; rintro e wf ⟨rfl, rfl⟩)
            | (go_at_call 7; have mk := mk_fpackEncode_1; clear mk; refine (HEz.out _ _ _ _ KO.out.now KL.out.now).mono ?_; rintro e x7 ⟨pa, pc, spp, rfl, op, q7⟩; replace KV := hidden (KV.out.step q7); replace KW := hidden (KW.out.step q7); replace KL := hidden (KL.out.step q7); replace KS := hidden (KS.out.step q7); replace K3 := hidden (K3.out.step q7); replace KO := hidden (KO.out.step q7); replace K15 := hidden (K15.out.step q7); have KP := hidden op.kp; clear op; have mk_fpackEncode_2 : Hid True := trivial; clear q7)
            | (go_at_call 10; refine (HDz.out _ KV.out.now KL.out.now).mono ?_; rintro e x4 ⟨oa, oc, rfl, oo, q4⟩; replace KV := hidden (KV.out.step q4); replace KW := hidden (KW.out.step q4); replace KL := hidden (KL.out.step q4); replace KS := hidden (KS.out.step q4); replace K3 := hidden (K3.out.step q4); have KO := hidden (ownHs_kp oo); clear oo; have mk_fpackDecode_1 : Hid True := trivial; clear q4)
            | (go_at_call 19; refine (HCk.out _).mono ?_; rintro e x3 ⟨rfl, q3⟩; replace KV := hidden (KV.out.step q3); replace KW := hidden (KW.out.step q3); replace KL := hidden (KL.out.step q3); replace KS := hidden (KS.out.step q3); replace K3 := hidden (K3.out.step q3); have ck := HNK.out _ _ _ K3.out.now; have mk_fnodeCheck_1 : Hid True := trivial; clear q3)
            | (go_at_call 7; refine (HE1.out _ KS.out.now KL.out.now).mono ?_; rintro e x2 ⟨xa, xc, spx, rfl, ox, q2⟩; replace KV := hidden (KV.out.step q2); replace KW := hidden (KW.out.step q2); replace KL := hidden (KL.out.step q2); replace KS := hidden (KS.out.step q2); replace K3 := hidden (K3.out.step q2); clear ox cx3; have cx := proof_side K3.out.now; have mk_fpackEncode_1 : Hid True := trivial; clear q2))
          go_ret
          exact ⟨rfl, KW.out.now⟩

end Go.Proofs.YtaihiffdjgadeaaDoor

/- The document's Encode, Digest of nodes, as contracts. -/
namespace Go.Proofs.YtaihiffdjgadeaaDoor
set_option maxRecDepth 20000
open Go.RowKit

set_option maxHeartbeats 2000000 in
theorem refEncode_any (k : Int) (a b c d : List Int) (w : World) (h : Nd k a b c d) : Calls Tryd.prog 26 #[.agg (B (nd k a b c d))] w (EncPost k a b c d w) := by
  obtain ⟨fs, hu⟩ := u_node
  have HU := hidden hu
  have HF := hidden h.facts
  have HC : Hid (∀ w', Calls Tryd.prog 33 #[.agg (B (nd k a b c d))] w' fun e w'' => e = .returned (.int .i64 (okE k a b c d)) ∧ Below w'.heap.size w' w'') := fun w' => refCheck_any k a b c d w' h
  obtain ⟨N, hN⟩ : ∃ N, N = nd k a b c d := ⟨_, rfl⟩
  rw [← hN] at HF HC ⊢
  by_cases hok : okN k a b c d = true
  · have hoE : okE k a b c d = 0 := by rw [okE, if_pos hok]
    rw [hoE] at HC
    by_cases hk1 : k = 1
    · have HT : Hid (∀ w', Calls Tryd.prog 45 #[.agg (B a), .agg (B b)] w' (TxtPost (1 :: (a ++ b)) 65 w')) := fun w' => refLeafText_new a b w' h.la h.lb h.ba h.bb
      have HX : Hid (∀ w' v sp, Own w.heap.size w' v (1 :: (a ++ b)) sp → Below w.heap.size w w' → EncPost k a b c d w (.returned (.tuple #[v, .int .i64 0])) w') := fun w' v sp ho hb => ⟨v, sp, by rw [hoE], by rw [txN, if_pos hok, if_pos hk1]; exact ho, hb⟩
      have q1 : (k == 1) = true := by simp [hk1]
      clear h hu hN hk1 hok hoE
      go_enter Tryd.func26, Tryd.ntmps26
      go_wp2_with (first
        | ((with_reducible refine at_bx ?_); refine wpList_bx _ rfl _ _ rfl _ rfl ?_; intro w1 g1 hg1 hl1 B1 b1)
        | ((with_reducible refine at_ldd 4 1 ?_); refine wpList_lds _ rfl _ _ rfl g1 _ _ rfl B1 HU.out HF.out.ln ?_)
        | (go_at_call 33; refine (HC.out _).mono ?_; rintro e w2 ⟨rfl, b2⟩; have B2 := B1.grow b2; have ck := HF.out.kd _ _ _ B2)
        | ((with_reducible refine at_ldd 11 10 ?_); refine wpList_ldm _ rfl _ _ rfl g1 1 _ _ a rfl B2 HF.out.sa _ _ Tryd.underlying25 HF.out.la ?_)
        | ((with_reducible refine at_ldd 13 12 ?_); refine wpList_ldm _ rfl _ _ rfl g1 33 _ _ b rfl B2 HF.out.sb _ _ Tryd.underlying26 HF.out.lb ?_)
        | (go_at_call 45; refine (HT.out _).mono ?_; rintro e w3 ⟨g, c3, sp, rfl, hgl, hgg, hO, b3⟩))
      go_ret2
      have c2 := grow_trans b1 b2
      exact HX.out _ _ _ (hO.later c2.size) (grow_trans c2 b3)
    · have q1 : (k == 1) = false := by simp [hk1]
      by_cases hk2 : k = 2
      · have HT : Hid (∀ w', Calls Tryd.prog 46 #[.agg (B c), .agg (B d)] w' (TxtPost (2 :: (c ++ d)) 65 w')) := fun w' => refInnerText_new c d w' h.lc h.ld h.bc h.bd
        have HX : Hid (∀ w' v sp, Own w.heap.size w' v (2 :: (c ++ d)) sp → Below w.heap.size w w' → EncPost k a b c d w (.returned (.tuple #[v, .int .i64 0])) w') := fun w' v sp ho hb => ⟨v, sp, by rw [hoE], by rw [txN, if_pos hok, if_neg hk1, if_pos hk2]; exact ho, hb⟩
        have q2 : (k == 2) = true := by simp [hk2]
        clear h hu hN hk1 hk2 hok hoE
        go_enter Tryd.func26, Tryd.ntmps26
        go_wp2_with (first
          | ((with_reducible refine at_bx ?_); refine wpList_bx _ rfl _ _ rfl _ rfl ?_; intro w1 g1 hg1 hl1 B1 b1)
          | ((with_reducible refine at_ldd 4 1 ?_); refine wpList_lds _ rfl _ _ rfl g1 _ _ rfl B1 HU.out HF.out.ln ?_)
          | (go_at_call 33; refine (HC.out _).mono ?_; rintro e w2 ⟨rfl, b2⟩; have B2 := B1.grow b2; have ck := HF.out.kd _ _ _ B2)
          | ((with_reducible refine at_ldd 19 18 ?_); refine wpList_ldm _ rfl _ _ rfl g1 65 _ _ c rfl B2 HF.out.sc _ _ Tryd.underlying26 HF.out.lc ?_)
          | ((with_reducible refine at_ldd 21 20 ?_); refine wpList_ldm _ rfl _ _ rfl g1 97 _ _ d rfl B2 HF.out.sd _ _ Tryd.underlying26 HF.out.ld ?_)
          | (go_at_call 46; refine (HT.out _).mono ?_; rintro e w3 ⟨g, c3, sp, rfl, hgl, hgg, hO, b3⟩))
        go_ret2
        have c2 := grow_trans b1 b2
        exact HX.out _ _ _ (hO.later c2.size) (grow_trans c2 b3)
      · have HX : Hid (∀ w' v sp, Own w.heap.size w' v [0] sp → Below w.heap.size w w' → EncPost k a b c d w (.returned (.tuple #[v, .int .i64 0])) w') := fun w' v sp ho hb => ⟨v, sp, by rw [hoE], by rw [txN, if_pos hok, if_neg hk1, if_neg hk2]; exact ho, hb⟩
        have q2 : (k == 2) = false := by simp [hk2]
        clear h hu hN hk1 hk2 hok hoE
        go_enter Tryd.func26, Tryd.ntmps26
        go_wp2_with (first
          | ((with_reducible refine at_bx ?_); refine wpList_bx _ rfl _ _ rfl _ rfl ?_; intro w1 g1 hg1 hl1 B1 b1)
          | ((with_reducible refine at_ldd 4 1 ?_); refine wpList_lds _ rfl _ _ rfl g1 _ _ rfl B1 HU.out HF.out.ln ?_)
          | (go_at_call 33; refine (HC.out _).mono ?_; rintro e w2 ⟨rfl, b2⟩; have B2 := B1.grow b2; have ck := HF.out.kd _ _ _ B2))
        go_ret2
        have c2 := grow_trans b1 b2
        exact HX.out _ _ [] (Own.mk (g := w2.heap.size) (zs := [0]) (sp := []) (fun z hz => by simp at hz; omega) Bytes.nil (by simp [maxLen]) c2.size (heap_alloc_new w2 _)) (grow_trans c2 (grow_alloc _ _))
  · have hoE : okE k a b c d = 2 := by rw [okE, if_neg hok]
    rw [hoE] at HC
    have HX : Hid (∀ w', Below w.heap.size w w' → EncPost k a b c d w (.returned (.tuple #[.slice none 0 0, .int .i64 2])) w') := fun w' hb => ⟨_, [], by rw [hoE], by rw [txN, if_neg hok]; exact Own.nil _ _, hb⟩
    clear h hu hN hok hoE
    go_enter Tryd.func26, Tryd.ntmps26
    go_wp2_with (first
      | ((with_reducible refine at_bx ?_); refine wpList_bx _ rfl _ _ rfl _ rfl ?_; intro w1 g1 hg1 hl1 B1 b1)
      | ((with_reducible refine at_ldd 4 1 ?_); refine wpList_lds _ rfl _ _ rfl g1 _ _ rfl B1 HU.out HF.out.ln ?_)
      | (go_at_call 33; refine (HC.out _).mono ?_; rintro e w2 ⟨rfl, b2⟩))
    go_ret2
    exact HX.out _ (grow_trans b1 b2)

theorem txN_len {k : Int} {a b c d : List Int} (h : Nd k a b c d) : (txN k a b c d).length ≤ 65 := by
  unfold txN
  split
  · split
    · simp [h.la, h.lb]
    · split
      · simp [h.lc, h.ld]
      · simp
  · simp

end Go.Proofs.YtaihiffdjgadeaaDoor

/- The document's Set (rootcellarref04), as a contract. -/
namespace Go.Proofs.YtaihiffdjgadeaaDoor
set_option maxRecDepth 20000
open Go.RowKit

theorem u_b32 : Tryd.prog.underlying 24 = some (.array 32 5) := Tryd.underlying24
theorem b32_size {xs : List Int} (h : Key xs) : (Tryd.prog.info? 24).map (·.size) = some (B xs).size := by rw [B_size, h.1]; exact size_b32

theorem set_key (xs : List Int) (d : Nat) (b z : Int) (hx : Key xs) (hd : d < 256) (hb : b = 0 ∨ b = 1) (hz : z = xs.getD (d / 8) 0 + (b - kb xs d) * 2 ^ (7 - d % 8)) : 0 ≤ z ∧ z ≤ 255 ∧ IsSet xs d b (xs.set (d / 8) z) := by
  obtain ⟨⟨h1, h2⟩, h3⟩ := bt_put (xs.getD (d / 8) 0) b (hx.byte _) hb (d % 8) (by omega)
  have e : xs.getD (d / 8) 0 + (b - bt (xs.getD (d / 8) 0) (d % 8)) * 2 ^ (7 - d % 8) = z := hz.symm
  rw [e] at h1 h2 h3
  refine ⟨h1, h2, hx.set _ _ ⟨h1, h2⟩, fun j hj => ?_⟩
  rw [kb_set _ _ _ _ (by rw [hx.1]; omega)]
  by_cases q : j / 8 = d / 8
  · rw [if_pos q, h3 _ (by omega)]
    by_cases p : j % 8 = d % 8
    · rw [if_pos p, if_pos (by omega)]
    · rw [if_neg p, if_neg (by omega)]
      unfold kb
      rw [q]
  · rw [if_neg q, if_neg (by omega)]

end Go.Proofs.YtaihiffdjgadeaaDoor
