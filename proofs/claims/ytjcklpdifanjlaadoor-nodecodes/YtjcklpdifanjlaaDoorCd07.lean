/- node.bare, Check, is, as contracts. -/
import Derived.Test.YtjcklpdifanjlaaDoorCd06
import Derived.Deep.RegionHeld
import Derived.Deep.RegionHeld2
import Derived.Test.YtjcklpdifanjlaaDoorCd03
namespace Go.Proofs.YtjcklpdifanjlaaDoor
set_option maxRecDepth 20000
open Go.RowKit

/-- A node that may be. -/
def okN (k : Int) (a b c d : List Int) : Bool := decide ((k = 0 ∧ a = z32 ∧ b = z32 ∧ c = z32 ∧ d = z32) ∨ (k = 1 ∧ c = z32 ∧ d = z32) ∨ (k = 2 ∧ a = z32 ∧ b = z32))

theorem z_nd : Nd 0 z32 z32 z32 z32 := ⟨by omega, by omega, rfl, rfl, rfl, rfl, z32_bytes, z32_bytes, z32_bytes, z32_bytes⟩

def BarePost (k : Int) (a b c d : List Int) (w : World) (e : Ending) (w' : World) : Prop :=
  ∃ k' a' b' c' d', e = .returned (.agg (B (nd k' a' b' c' d'))) ∧ Nd k' a' b' c' d' ∧ okN k a b c d = decide (nd k a b c d = nd k' a' b' c' d') ∧ Below w.heap.size w w'

set_option maxHeartbeats 2000000 in
theorem bare_any (k : Int) (a b c d : List Int) (w : World) (h : Nd k a b c d) : Calls Tryd.prog 48 #[.agg (B (nd k a b c d))] w (BarePost k a b c d w) := by
  obtain ⟨fs, hu⟩ := u_node
  have HU := hidden hu
  have H := hidden h
  have H129 : Hid ((Tryd.prog.info? 27).map (·.size) = some (B (nd k a b c d)).size) := by show _ = _; rw [h.size, size_node]
  obtain ⟨N, hN⟩ : ∃ N, N = nd k a b c d := ⟨_, rfl⟩
  have HN := hidden hN
  rw [← hN] at H129 ⊢
  have hkd := fun w g t (q : Blk w g t (B N)) => Nd.kind (k := k) (a := a) (b := b) (c := c) (d := d) (by rw [← hN]; exact q)
  have HKD : Hid (∀ w g t, Blk w g t (B N) → w.cell? ⟨g, 0, none⟩ = some (.int .u8 k)) := hkd
  have SA : Hid (Seg N 1 a) := by rw [hN]; exact h.segA
  have SB : Hid (Seg N 33 b) := by rw [hN]; exact h.segB
  have SC : Hid (Seg N 65 c) := by rw [hN]; exact h.segC
  have SD : Hid (Seg N 97 d) := by rw [hN]; exact h.segD
  have LA : Hid ((Tryd.prog.info? 24).map (·.size) = some a.length) := by show _ = _; rw [h.la]; exact sz_path
  have LB : Hid ((Tryd.prog.info? 25).map (·.size) = some b.length) := by show _ = _; rw [h.lb]; exact sz_hash
  have LC : Hid ((Tryd.prog.info? 25).map (·.size) = some c.length) := by show _ = _; rw [h.lc]; exact sz_hash
  have LD : Hid ((Tryd.prog.info? 25).map (·.size) = some d.length) := by show _ = _; rw [h.ld]; exact sz_hash
  by_cases hk1 : k = 1
  · have HB : Hid (Tryd.prog.built 27 [(0, .int .u8 1), (1, .agg (B a)), (2, .agg (B b))] = some (B (nd 1 a b z32 z32))) := built_leaf a b h.la h.lb
    have HR : Hid (Nd 1 a b z32 z32) := ⟨by omega, by omega, h.la, h.lb, rfl, rfl, h.ba, h.bb, z32_bytes, z32_bytes⟩
    have HO : Hid (okN k a b c d = decide (nd k a b c d = nd 1 a b z32 z32)) := by
      show _ = _
      rw [Bool.eq_iff_iff, decide_eq_true_iff, nd_inj h HR.out]
      simp [okN, hk1]
    have q1 : (k == 1) = true := by simp [hk1]
    clear h hu hN hkd hk1
    go_enter Tryd.func48, Tryd.ntmps48
    go_wp2_with (first
      | ((with_reducible refine at_bx ?_); refine wpList_bx _ rfl _ _ rfl _ rfl ?_; intro w1 g1 hg1 hl1 B1 b1; have ck := HKD.out _ _ _ B1)
      | ((with_reducible refine at_al ?_); refine wpList_al _ rfl _ rfl _ zero_node ?_; intro w2 g2 hg2 hl2 B2 b2; have B1' := B1.grow b2; have ck2 := HKD.out _ _ _ B1')
      | ((with_reducible refine at_ld 7 ?_); refine wpList_ldm _ rfl _ _ rfl g1 1 _ _ a rfl B1' SA.out _ _ Tryd.underlying24 LA.out ?_)
      | ((with_reducible refine at_ld 9 ?_); refine wpList_ldm _ rfl _ _ rfl g1 33 _ _ b rfl B1' SB.out _ _ Tryd.underlying25 LB.out ?_)
      | ((with_reducible refine at_bd ?_); refine wpList_bld _ rfl _ _ rfl _ (by rw [List.map_toArray]; exact HB.out) ?_)
      | ((with_reducible refine at_st 2 ?_); refine wpList_sto _ rfl _ _ _ rfl g2 _ _ rfl rfl B2 (by rw [HR.out.size]; exact size_node) (by rw [HR.out.size]; rfl) (B_one _) ?_; intro w3 B3 g3))
    exact bodyPost_ret (v := .agg (B (nd 1 a b z32 z32))) (results_cell_row rfl _ _ g2 _ _ _ _ rfl B3 HU.out rfl (by rw [HR.out.size]; exact size_node)) rfl ⟨_, _, _, _, _, rfl, HR.out, HO.out, below_row (grow_trans b1 b2) g3 (Nat.le_trans b1.size hg2)⟩
  · have q1 : (k == 1) = false := by simp [hk1]
    by_cases hk2 : k = 2
    · have HB : Hid (Tryd.prog.built 27 [(0, .int .u8 2), (3, .agg (B c)), (4, .agg (B d))] = some (B (nd 2 z32 z32 c d))) := built_inner c d h.lc h.ld
      have HR : Hid (Nd 2 z32 z32 c d) := ⟨by omega, by omega, rfl, rfl, h.lc, h.ld, z32_bytes, z32_bytes, h.bc, h.bd⟩
      have HO : Hid (okN k a b c d = decide (nd k a b c d = nd 2 z32 z32 c d)) := by
        show _ = _
        rw [Bool.eq_iff_iff, decide_eq_true_iff, nd_inj h HR.out]
        simp [okN, hk2]
      have q2 : (k == 2) = true := by simp [hk2]
      clear h hu hN hkd hk1 hk2
      go_enter Tryd.func48, Tryd.ntmps48
      go_wp2_with (first
        | ((with_reducible refine at_bx ?_); refine wpList_bx _ rfl _ _ rfl _ rfl ?_; intro w1 g1 hg1 hl1 B1 b1; have ck := HKD.out _ _ _ B1)
        | ((with_reducible refine at_al ?_); refine wpList_al _ rfl _ rfl _ zero_node ?_; intro w2 g2 hg2 hl2 B2 b2; have B1' := B1.grow b2; have ck2 := HKD.out _ _ _ B1')
        | ((with_reducible refine at_ld 14 ?_); refine wpList_ldm _ rfl _ _ rfl g1 65 _ _ c rfl B1' SC.out _ _ Tryd.underlying25 LC.out ?_)
        | ((with_reducible refine at_ld 16 ?_); refine wpList_ldm _ rfl _ _ rfl g1 97 _ _ d rfl B1' SD.out _ _ Tryd.underlying25 LD.out ?_)
        | ((with_reducible refine at_bd ?_); refine wpList_bld _ rfl _ _ rfl _ (by rw [List.map_toArray]; exact HB.out) ?_)
        | ((with_reducible refine at_st 2 ?_); refine wpList_sto _ rfl _ _ _ rfl g2 _ _ rfl rfl B2 (by rw [HR.out.size]; exact size_node) (by rw [HR.out.size]; rfl) (B_one _) ?_; intro w3 B3 g3))
      exact bodyPost_ret (v := .agg (B (nd 2 z32 z32 c d))) (results_cell_row rfl _ _ g2 _ _ _ _ rfl B3 HU.out rfl (by rw [HR.out.size]; exact size_node)) rfl ⟨_, _, _, _, _, rfl, HR.out, HO.out, below_row (grow_trans b1 b2) g3 (Nat.le_trans b1.size hg2)⟩
    · have HB : Hid (Tryd.prog.built 27 [] = some (B (nd 0 z32 z32 z32 z32))) := built_empty
      have HR : Hid (Nd 0 z32 z32 z32 z32) := z_nd
      have HO : Hid (okN k a b c d = decide (nd k a b c d = nd 0 z32 z32 z32 z32)) := by
        show _ = _
        rw [Bool.eq_iff_iff, decide_eq_true_iff, nd_inj h HR.out]
        simp [okN, hk1, hk2]
      have q2 : (k == 2) = false := by simp [hk2]
      clear h hu hN hkd hk1 hk2
      go_enter Tryd.func48, Tryd.ntmps48
      go_wp2_with (first
        | ((with_reducible refine at_bx ?_); refine wpList_bx _ rfl _ _ rfl _ rfl ?_; intro w1 g1 hg1 hl1 B1 b1; have ck := HKD.out _ _ _ B1)
        | ((with_reducible refine at_al ?_); refine wpList_al _ rfl _ rfl _ zero_node ?_; intro w2 g2 hg2 hl2 B2 b2; have B1' := B1.grow b2; have ck2 := HKD.out _ _ _ B1')
        | ((with_reducible refine at_bd ?_); refine wpList_bld _ rfl _ _ rfl _ (by rw [List.map_toArray]; exact HB.out) ?_)
        | ((with_reducible refine at_st 2 ?_); refine wpList_sto _ rfl _ _ _ rfl g2 _ _ rfl rfl B2 (by rw [HR.out.size]; exact size_node) (by rw [HR.out.size]; rfl) (B_one _) ?_; intro w3 B3 g3))
      exact bodyPost_ret (v := .agg (B (nd 0 z32 z32 z32 z32))) (results_cell_row rfl _ _ g2 _ _ _ _ rfl B3 HU.out rfl (by rw [HR.out.size]; exact size_node)) rfl ⟨_, _, _, _, _, rfl, HR.out, HO.out, below_row (grow_trans b1 b2) g3 (Nat.le_trans b1.size hg2)⟩

def okE (k : Int) (a b c d : List Int) : Int := if okN k a b c d = true then 0 else 2

set_option maxHeartbeats 2000000 in
theorem check_any (k : Int) (a b c d : List Int) (w : World) (h : Nd k a b c d) : Calls Tryd.prog 15 #[.agg (B (nd k a b c d))] w fun e w' => e = .returned (.int .i64 (okE k a b c d)) ∧ Below w.heap.size w w' := by
  obtain ⟨fs, hu⟩ := u_node
  have HU := hidden hu
  have H := hidden h
  have H129 : Hid ((Tryd.prog.info? 27).map (·.size) = some (B (nd k a b c d)).toList.length) := by show _ = _; rw [Array.length_toList, h.size, size_node]
  have HC : Hid (∀ w', Calls Tryd.prog 48 #[.agg (B (nd k a b c d))] w' (BarePost k a b c d w')) := fun w' => bare_any k a b c d w' h
  have HEQ : Hid (∀ k' a' b' c' d', Nd k' a' b' c' d' → ∀ w, (Op.equalIn 10000 27 (.agg (B (nd k a b c d))) (.agg (B (nd k' a' b' c' d')))).run Tryd.prog w = .ok (decide (nd k a b c d = nd k' a' b' c' d')) w) := fun k' a' b' c' d' h' w => node_eq h h' w
  obtain ⟨r, hr⟩ : ∃ r, r = okN k a b c d := ⟨_, rfl⟩
  have HO : Hid (okE k a b c d = if r = true then 0 else 2) := by show _ = _; rw [okE, hr]
  rw [HO.out]
  have HP : Hid (∀ w e w', BarePost k a b c d w e w' → ∃ M, e = .returned (.agg (B M)) ∧ (∀ w, (Op.equalIn 10000 27 (.agg (B (nd k a b c d))) (.agg (B M))).run Tryd.prog w = .ok r w) ∧ Below w.heap.size w w') := by
    rintro w e w' ⟨k', a', b', c', d', rfl, hn, ho, hb⟩
    refine ⟨_, rfl, fun w => ?_, hb⟩
    rw [HEQ.out k' a' b' c' d' hn w, hr, ho]
  obtain ⟨N, hN⟩ : ∃ N, N = nd k a b c d := ⟨_, rfl⟩
  rw [← hN] at H129 HC HP ⊢
  clear h hu hN hr HEQ
  go_enter Tryd.func15, Tryd.ntmps15
  go_wp2_with (first
    | ((with_reducible refine at_bx ?_); refine wpList_bx _ rfl _ _ rfl _ rfl ?_; intro w1 g1 hg1 hl1 B1 b1))
  have HS : Hid (∀ w', Below w1.heap.size w1 w' → w'.rangeAt g1 0 (B N).toList) := fun w' hw' => (B1.grow hw').range
  have d0 : Below w1.heap.size w1 w1.drew := (Below.refl _ _).drew
  refine wp_region_held_drew (S := fun w' => w'.rangeAt g1 0 (B N).toList) (by kernel_rfl) (HS.out _ d0) (fun hHeld => ?_)
  refine wpAnyH_take (i := 0) (v := .agg (B N)) rfl (by kernel_rfl) (by kernel_rfl) (by kernel_rfl) (fun _ _ _ h => h) (yieldsIf_load_mid rfl 27 (.tmp 1) rfl g1 0 rfl (B N).toList _ (fun w hS => hS) HU.out rfl H129.out) hHeld ?_
  simp only [Act.put, List.getElem_toArray, List.getElem_cons_zero, List.setIfInBounds_toArray, List.set_cons_zero, List.set_cons_succ]
  refine wpAnyH_take (i := 1) (v := .agg (B N)) rfl (by kernel_rfl) (by kernel_rfl) (by kernel_rfl) (fun _ _ _ h => h) (yieldsIf_load_mid rfl 27 (.tmp 1) rfl g1 0 rfl (B N).toList _ (fun w hS => hS) HU.out rfl H129.out) hHeld ?_
  simp only [Act.put, List.getElem_toArray, List.getElem_cons_zero, List.getElem_cons_succ, List.setIfInBounds_toArray, List.set_cons_zero, List.set_cons_succ]
  refine wpAnyH_ready (rs := [2]) (by kernel_rfl) (by simp) ?_
  refine AllReadyH.cons rfl (fun KQ hK => ?_) AllReadyH.nil
  go_simp
  refine (HC.out _).mono ?_
  intro e x1 hx
  obtain ⟨M, rfl, hEq, a1⟩ := HP.out _ _ _ hx
  clear hx
  have d1 := grow_trans d0 a1
  refine hK.out _ _ (HS.out _ d1) (fun hHeld => ?_)
  clear hK KQ
  refine wpAnyH_take (i := 3) (v := .bool (!r)) rfl (by kernel_rfl) (by kernel_rfl) (by kernel_rfl) (fun _ _ _ h => h) (Or.inl ⟨by rfl, fun w hS => by (go_simp; skip)⟩) hHeld ?_
  simp only [Act.put, List.getElem_toArray, List.getElem_cons_zero, List.getElem_cons_succ, List.setIfInBounds_toArray, List.set_cons_zero, List.set_cons_succ]
  refine wpAnyH_done (by kernel_rfl) ?_ _
  clear hEq
  cases r
  · go_wp2_with fail
    go_ret
    exact ⟨rfl, grow_trans b1 d1⟩
  · go_wp2_with fail
    go_ret
    exact ⟨rfl, grow_trans b1 d1⟩

end Go.Proofs.YtjcklpdifanjlaaDoor

/- The statements' own helpers on bytes, as contracts: SameBytes, LentBytes, KeptBytes, OverBytes. -/
namespace Go.Proofs.YtjcklpdifanjlaaDoor
set_option maxRecDepth 20000
open Go.RowKit

set_option maxHeartbeats 400000 in
theorem same_any (x y : Value) (xs ys : List Int) (w : World) (hx : Reads w x xs) (hy : Reads w y ys) :
    Calls Tryd.prog 17 #[x, y] w fun e w' => e = .returned (.bool (decide (xs = ys))) ∧ w' = w := by
  have c1 := conv_reads hx
  have c2 := conv_reads hy
  have HB : Hid (((strOfNums xs).toList == (strOfNums ys).toList) = decide (xs = ys)) := by
    obtain ⟨_, _, _, _, _, h1, _⟩ := hx
    obtain ⟨_, _, _, _, _, h2, _⟩ := hy
    exact str_beq xs ys h1 h2
  clear hx hy
  go_enter Tryd.func17, Tryd.ntmps17
  go_wp2
  go_ret
  exact ⟨by rw [← HB.out]; rfl, rfl⟩

/-- The marks that stand in the room behind n lent bytes. -/
def marks (n : Nat) : List Int := (List.range 5).map fun k => 200 + ((n + k : Nat) : Int) % 50

theorem marks_bytes (n : Nat) : Bytes (marks n) := by
  intro z hz
  simp only [marks, List.mem_map] at hz
  obtain ⟨k, _, rfl⟩ := hz
  omega
theorem marks_length (n : Nat) : (marks n).length = 5 := by simp [marks]

theorem lent_start (zs : List Int) : (List.replicate (zs.length + 5) (0 : Int)).take 0 ++ zs.take (zs.length + 5) ++ (List.replicate (zs.length + 5) (0 : Int)).drop (0 + min zs.length (zs.length + 5)) = zs ++ (marks zs.length).take 0 ++ List.replicate (5 - 0) 0 := by
  have : min zs.length (zs.length + 5) = zs.length := by omega
  rw [this, List.take_of_length_le (l := zs) (by omega), List.drop_replicate, List.take_zero, List.take_zero]
  simp

theorem lent_round (zs : List Int) (k : Nat) (hk : k < 5) : (zs ++ (marks zs.length).take k ++ List.replicate (5 - k) (0 : Int)).set (zs.length + k) (200 + ((zs.length + k : Nat) : Int) % 50) = zs ++ (marks zs.length).take (k + 1) ++ List.replicate (5 - (k + 1)) 0 := by
  have e : List.replicate (5 - k) (0 : Int) = 0 :: List.replicate (5 - (k + 1)) 0 := by
    rw [show 5 - k = (5 - (k + 1)) + 1 by omega]; rfl
  have l : (zs ++ (marks zs.length).take k).length = zs.length + k := by simp [marks_length]; omega
  rw [e, List.set_append_right _ _ (by omega), l, Nat.sub_self, List.set_cons_zero]
  rw [show (marks zs.length).take (k + 1) = (marks zs.length).take k ++ [200 + ((zs.length + k : Nat) : Int) % 50] by
    rw [List.take_succ_eq_append_getElem (by rw [marks_length]; exact hk)]
    simp [marks]]
  simp

theorem lent_end (zs : List Int) (k : Nat) (hk : ¬ k < 5) : zs ++ (marks zs.length).take k ++ List.replicate (5 - k) 0 = zs ++ marks zs.length := by
  rw [List.take_of_length_le (by rw [marks_length]; omega), show 5 - k = 0 by omega]
  simp

set_option maxHeartbeats 400000 in
theorem lent_any (v : Value) (zs : List Int) (w : World) (h : Reads w v zs) (hl : zs.length ≤ 140737488355328) :
    Calls Tryd.prog 8 #[v] w fun e w' => e = .returned (.slice (some ⟨w.heap.size, 0, none⟩) zs.length (zs.length + 5)) ∧ Row w' w.heap.size (zs ++ marks zs.length) ∧ Below w.heap.size w w' ∧ w'.heap.size = w.heap.size + 1 := by
  have HR : Hid (Reads w v zs) := h
  obtain ⟨a, c, rfl, _, _, _, _⟩ := h
  go_enter Tryd.func8, Tryd.ntmps8
  go_wp2_with (first | (at_make; refine wpList_mk _ rfl _ _ rfl _ _ _ _ (zs.length + 5) (zs.length + 5) rfl rfl (by omega) (by omega) (Nat.le_refl _) (by omega) ?_; intro w1 hr1 hb1 hs1) | (refine wpList_cp _ rfl _ _ rfl w.heap.size 0 (zs.length + 5) (zs.length + 5) _ zs _ hr1 (HR.out.grow hb1) rfl rfl (by simp) ?_; intro w2 hr2 hg2 hs2))
  have hb2 : Below w.heap.size w w2 := hb1.trans ((Below.refl _ _).grown hg2 (by omega) (by intro k hk; injection hk with hk; exact Nat.le_of_eq hk))
  rw [lent_start] at hr2
  have hr3 : Hid (Row w2 w.heap.size (zs ++ (marks zs.length).take 0 ++ List.replicate (5 - 0) 0)) := hr2
  have hs3 : w2.heap.size = w.heap.size + 1 := by omega
  clear hr1 hr2 hg2 hb1 hs1 hs2 HR
  go_loopw [4] (fun i wr => ∃ k : Nat, k ≤ 5 ∧ i = .int .i64 (zs.length + k : Nat) ∧ Hid (Row wr w.heap.size (zs ++ (marks zs.length).take k ++ List.replicate (5 - k) 0)) ∧ Below w.heap.size w wr ∧ wr.heap.size = w.heap.size + 1) (fun i _ => zs.length + 5 - (intOf i).toNat)
  case atStart => exact ⟨0, by omega, by simp, hr3, hb2, hs3⟩
  case round =>
    obtain ⟨k, hk, rfl, hr, hb, hs⟩ := hrel
    by_cases hlt : k < 5
    · have hc := hr.out.cell (zs.length + k) (by simp [marks_length]; omega)
      have hf := hr.out.frozen (zs.length + k)
      go_wp2
      refine ⟨⟨k + 1, by omega, by go_num, ?_, hb.setCell (Nat.le_refl _) _, by simpa using hs⟩, by simp [intOf]; omega⟩
      have := hr.out.set (zs.length + k) (200 + ((zs.length + k : Nat) : Int) % 50)
      rw [lent_round zs k hlt] at this
      show Row _ _ _
      simpa using this
    · have he := lent_end zs k hlt
      go_wp2
      go_ret
      refine ⟨rfl, ?_, hb, hs⟩
      rw [← he]
      exact hr.out

/-- A byte written over. -/
def x5 (z : Int) : Int := bits .xor .u8 z 90

theorem x5_eq (z : Int) (h : 0 ≤ z ∧ z ≤ 255) : x5 z = ((z.toNat ^^^ 90 : Nat) : Int) := by
  unfold x5
  rw [u8_xor z 90 h.1 (by omega) (by omega) (by omega)]
  rfl
theorem x5_bd (z : Int) (h : 0 ≤ z ∧ z ≤ 255) : 0 ≤ x5 z ∧ x5 z ≤ 255 := by
  rw [x5_eq z h]
  have : z.toNat ^^^ 90 < 2 ^ 8 := Nat.xor_lt_two_pow (by omega) (by omega)
  omega
theorem x5_x5 (z : Int) (h : 0 ≤ z ∧ z ≤ 255) : x5 (x5 z) = z := by
  rw [x5_eq _ (x5_bd z h), x5_eq z h, Int.toNat_natCast, Nat.xor_assoc, Nat.xor_self, Nat.xor_zero]
  omega
theorem Bytes.x5 {zs : List Int} (h : Bytes zs) : Bytes (zs.map x5) := by
  intro z hz
  obtain ⟨y, hy, rfl⟩ := List.mem_map.1 hz
  exact x5_bd y (h y hy)
theorem map_x5 {zs : List Int} (h : Bytes zs) : (zs.map x5).map x5 = zs := by
  rw [List.map_map]
  conv => rhs; rw [← List.map_id zs]
  exact List.map_congr_left fun z hz => x5_x5 z (h z hz)

theorem over_round (zs : List Int) (k : Nat) (hk : k < zs.length) : ((zs.take k).map x5 ++ zs.drop k).set k (x5 (zs.getD k 0)) = (zs.take (k + 1)).map x5 ++ zs.drop (k + 1) := by
  have hd : zs.drop k = zs.getD k 0 :: zs.drop (k + 1) := by
    rw [List.drop_eq_getElem_cons hk]; simp [List.getD, hk]
  have hl : ((zs.take k).map x5).length = k := by simp; omega
  rw [hd, List.set_append_right _ _ (by omega), hl, Nat.sub_self, List.set_cons_zero, take_snoc zs k hk, List.map_append, List.append_assoc]
  rfl

theorem over_get (zs : List Int) (k : Nat) (hk : k < zs.length) : ((zs.take k).map x5 ++ zs.drop k).getD k 0 = zs.getD k 0 := by
  have : ((zs.take k).map x5).length = k := by simp; omega
  simp only [List.getD]
  rw [List.getElem?_append_right (by omega), this, Nat.sub_self]
  simp

set_option maxHeartbeats 400000 in
theorem over_row (g n : Nat) (zs rest : List Int) (w : World) (h : Row w g (zs ++ rest)) (hl : zs.length ≤ maxLen) :
    Calls Tryd.prog 49 #[.slice (some ⟨g, 0, none⟩) n zs.length] w fun e w' => e = .returned (.tuple #[]) ∧ Row w' g (zs.map x5 ++ rest) ∧ w.grownBy w' (some g) ∧ w'.heap.size = w.heap.size := by
  unfold maxLen at hl
  have HR : Hid (Row w g (((zs.take 0).map x5 ++ zs.drop 0) ++ rest)) := by
    show Row _ _ _
    simpa using h
  clear h
  go_enter Tryd.func49, Tryd.ntmps49
  go_wp2_with fail
  go_loopw [3] (fun i wr => ∃ k : Nat, k ≤ zs.length ∧ i = .int .i64 k ∧ Hid (Row wr g (((zs.take k).map x5 ++ zs.drop k) ++ rest)) ∧ w.grownBy wr (some g) ∧ wr.heap.size = w.heap.size) (fun i _ => zs.length - (intOf i).toNat)
  case atStart => exact ⟨0, by omega, by simp, HR, World.grownBy.refl _ _, rfl⟩
  case round =>
    obtain ⟨k, hk, rfl, hr, hb, hs⟩ := hrel
    by_cases hlt : k < zs.length
    · have hL : ((zs.take k).map x5 ++ zs.drop k).length = zs.length := by simp; omega
      have hc := hr.out.cell k (by rw [List.length_append]; omega)
      rw [show (((zs.take k).map x5 ++ zs.drop k) ++ rest).getD k 0 = ((zs.take k).map x5 ++ zs.drop k).getD k 0 by simp only [List.getD]; rw [List.getElem?_append_left (by omega)], over_get zs k hlt] at hc
      have hf := hr.out.frozen k
      have this := hr.out.set k (x5 (zs.getD k 0))
      rw [List.set_append_left _ _ (by omega), over_round zs k hlt] at this
      generalize zs.getD k 0 = z at hc this
      have HT := hidden this
      clear this hL
      go_wp2
      refine ⟨⟨k + 1, by omega, by go_num, ?_, grown_trans hb (grown_setCell _ _ _ _), by simpa using hs⟩, by simp [intOf]; omega⟩
      exact HT
    · go_wp2
      go_end0
      refine ⟨rfl, ?_, hb, hs⟩
      have := hr.out
      rw [List.take_of_length_le (by omega), List.drop_of_length_le (by omega), List.append_nil] at this
      exact this

set_option maxHeartbeats 400000 in
theorem over_nil (w : World) : Calls Tryd.prog 49 #[.slice none 0 0] w fun e w' => e = .returned (.tuple #[]) ∧ w' = w := by
  go_enter Tryd.func49, Tryd.ntmps49
  go_wp2_with fail
  refine wp_loop_rounds 1 ?_
  rw [rounds_succ]
  go_wp2
  go_end0
  exact ⟨rfl, rfl⟩

theorem over_own (base : Nat) (v : Value) (zs sp : List Int) (w : World) (h : Own base w v zs sp) :
    Calls Tryd.prog 49 #[v] w fun e w' => e = .returned (.tuple #[]) ∧ Own base w' v (zs.map x5) (sp.map x5) ∧ w.grownBy w' v.ownBlock ∧ w'.heap.size = w.heap.size := by
  obtain ⟨h1, h2, h3, h4⟩ := h
  rcases h4 with ⟨rfl, rfl, rfl⟩ | ⟨g, rest, hg, rfl, hr⟩
  · refine (over_nil w).mono ?_
    rintro e w' ⟨rfl, rfl⟩
    exact ⟨rfl, Own.nil _ _, World.grownBy.refl _ _, rfl⟩
  · have := over_row g zs.length (zs ++ sp) rest w hr (by simpa using h3)
    rw [List.length_append] at this
    refine this.mono ?_
    rintro e w' ⟨rfl, hr', hg', hs'⟩
    refine ⟨rfl, ⟨h1.x5, h2.x5, by simpa using h3, .inr ⟨g, rest, hg, by simp, by simpa using hr'⟩⟩, hg', hs'⟩

end Go.Proofs.YtjcklpdifanjlaaDoor
