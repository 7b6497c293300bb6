/- The document's digests (rootcellarref03), and Entry of both, as contracts. -/
import Derived.Test.YtpihigcnoifcfaaDoorVr11
import Derived.Test.YtpihigcnoifcfaaDoorVr18
import Derived.Laws.ResultCell
import Derived.Test.YtpihigcnoifcfaaDoorVr16
import Derived.Test.YtpihigcnoifcfaaDoorVr12
import Derived.Test.YtpihigcnoifcfaaDoorVr15
import Derived.Test.YtpihigcnoifcfaaDoorVr05
import Derived.Sort.Statements
namespace Go.Proofs.YtpihigcnoifcfaaDoor
set_option maxRecDepth 20000
open Go.RowKit

set_option maxHeartbeats 1000000 in
theorem refOf_any (t : Int) (v : Value) (ps : List (List Int)) (w : World) (h0 : 0 ≤ t) (h1 : t ≤ 255) (h : Parts w v ps) (hl : 1 + ps.flatten.length ≤ 140737488355328 - 4096) :
    Calls Tryd.prog 41 #[.int .u8 t, v] w (DigPost (t :: ps.flatten) w) := by
  have HT : Hid (∀ w', Below w.heap.size w w' → Calls Tryd.prog 69 #[.int .u8 t, v] w' (JoinPost (t :: ps.flatten) w')) := by
    intro w' hw'
    obtain ⟨a, cap, V, rfl, q1, q2, q3, q4⟩ := h
    refine refText_any t _ ps w' h0 h1 ⟨a, cap, V, rfl, q1, q2, fun hp => ?_, fun i hi => (q4 i hi).grow hw'⟩ (by omega)
    obtain ⟨b, off, e, hc⟩ := q3 hp
    exact ⟨b, off, e, fun i hi => (hw'.cell (p := ⟨b, off + i, none⟩) (block_lt_of_cell (hc i hi))).trans (hc i hi)⟩
  obtain ⟨D, hD⟩ : ∃ D, D = dig (t :: ps.flatten) := ⟨_, rfl⟩
  have HD := hidden hD
  have HSZ : Hid ((B D).size = 32) := by rw [B_size, hD]; exact dig_length _
  have HS : Hid (∀ u w', Reads w' u (t :: ps.flatten) → Calls Tryd.prog 62 #[u] w' fun e w'' => e = .returned (.agg (B D)) ∧ Below w'.heap.size w' w'') := by
    intro u w' hu
    rw [hD]
    exact refSum_any u _ w' hu (by rw [List.length_cons]; omega)
  clear h hD hl
  go_enter Tryd.func41, Tryd.ntmps41
  go_wp2_with (first | (refine wpList_al _ rfl _ rfl _ zero_b32 ?_; intro w1 g1 hg1 hl1 B1 b1) | (go_at_call 69; refine (HT.out w1 b1).mono ?_; rintro e w2 ⟨u, sp, rfl, hO, b2⟩; have hR := hO.reads; clear hO) | (go_at_call 62; refine (HS.out u w2 hR).mono ?_; rintro e w3 ⟨rfl, b3⟩; have B3 := (B1.grow b2).grow b3) | (refine wpList_sto _ rfl _ _ _ rfl g1 _ _ rfl rfl B3 (by rw [HSZ.out]; exact size_b32) (by rw [HSZ.out, B_size]; simp) (B_one _) ?_; intro w4 B4 g4))
  exact bodyPost_ret (v := .agg (B D)) (results_cell_row rfl _ _ g1 _ _ _ _ rfl B4 Tryd.underlying22 rfl (by rw [HSZ.out]; exact size_b32)) rfl ⟨by rw [HD.out], below_row (grow_trans (grow_trans b1 b2) b3) g4 hg1⟩

set_option maxHeartbeats 1000000 in
theorem refEmpty_any (w : World) : Calls Tryd.prog 58 #[] w (DigPost [0] w) := by
  obtain ⟨D, hD⟩ : ∃ D, D = dig [0] := ⟨_, rfl⟩
  have HD := hidden hD
  have HSZ : Hid ((B D).size = 32) := by rw [B_size, hD]; exact dig_length _
  have H : Hid (∀ w', Calls Tryd.prog 41 #[.int .u8 0, .slice none 0 0] w' fun e w'' => e = .returned (.agg (B D)) ∧ Below w'.heap.size w' w'') := by
    intro w'
    rw [hD]
    exact refOf_any 0 _ [] w' (by omega) (by omega) (parts_nil w') (by simp)
  clear hD
  go_enter Tryd.func58, Tryd.ntmps58
  go_wp2_with (first | (refine wpList_al _ rfl _ rfl _ zero_b32 ?_; intro w1 g1 hg1 hl1 B1 b1) | (go_at_call 41; refine (H.out _).mono ?_; rintro e w2 ⟨rfl, b2⟩; have B2 := B1.grow b2) | (refine wpList_sto _ rfl _ _ _ rfl g1 _ _ rfl rfl B2 (by rw [HSZ.out]; exact size_b32) (by rw [HSZ.out, B_size]; simp) (B_one _) ?_; intro w3 B3 g3))
  exact bodyPost_ret (v := .agg (B D)) (results_cell_row rfl _ _ g1 _ _ _ _ rfl B3 Tryd.underlying22 rfl (by rw [HSZ.out]; exact size_b32)) rfl ⟨by rw [HD.out], below_row (grow_trans b1 b2) g3 hg1⟩

set_option maxHeartbeats 1000000 in
theorem refValue_any (v : Value) (zs : List Int) (w : World) (h : Reads w v zs) (hl : zs.length < 140737488355328 - 4096) : Calls Tryd.prog 22 #[v] w (DigPost (3 :: zs) w) := by
  obtain ⟨D, hD⟩ : ∃ D, D = dig (3 :: zs) := ⟨_, rfl⟩
  have HD := hidden hD
  have HSZ : Hid ((B D).size = 32) := by rw [B_size, hD]; exact dig_length _
  have H : Hid (∀ w', Below w.heap.size w w' → Calls Tryd.prog 41 #[.int .u8 3, .slice (some ⟨w'.heap.size, 0, none⟩) 1 1] (w'.alloc (.cells #[v] 25)) fun e w'' => e = .returned (.agg (B D)) ∧ Below w'.heap.size w' w'') := by
    intro w' hb
    have h1 := refOf_any 3 _ [zs] _ (by omega) (by omega) (parts_one w' v zs (h.grow hb)) (by simp; omega)
    rw [show [zs].flatten = zs by simp] at h1
    rw [hD]
    exact h1.mono fun e w'' ⟨h2, h3⟩ => ⟨h2, grow_trans (grow_alloc _ _) h3⟩
  obtain ⟨va, vc, rfl, _, _, _, _⟩ := h
  clear hD
  go_enter Tryd.func22, Tryd.ntmps22
  go_wp2_with (first | (refine wpList_al _ rfl _ rfl _ zero_b32 ?_; intro w1 g1 hg1 hl1 B1 b1) | (go_at_call 41; refine (H.out w1 b1).mono ?_; rintro e w2 ⟨rfl, b2⟩; have B2 := B1.grow b2) | (refine wpList_sto _ rfl _ _ _ rfl g1 _ _ rfl rfl B2 (by rw [HSZ.out]; exact size_b32) (by rw [HSZ.out, B_size]; simp) (B_one _) ?_; intro w3 B3 g3))
  exact bodyPost_ret (v := .agg (B D)) (results_cell_row rfl _ _ g1 _ _ _ _ rfl B3 Tryd.underlying22 rfl (by rw [HSZ.out]; exact size_b32)) rfl ⟨by rw [HD.out], below_row (grow_trans b1 b2) g3 hg1⟩

set_option maxHeartbeats 2000000 in
theorem refInner_any (K A : List Int) (w : World) (hk : K.length = 32) (ha : A.length = 32) (bk : Bytes K) (ba : Bytes A) : Calls Tryd.prog 37 #[.agg (B K), .agg (B A)] w (DigPost (2 :: (K ++ A)) w) := by
  obtain ⟨D, hD⟩ : ∃ D, D = dig (2 :: (K ++ A)) := ⟨_, rfl⟩
  have HD := hidden hD
  have HSZ : Hid ((B D).size = 32) := by rw [B_size, hD]; exact dig_length _
  have HKZ : Hid ((B K).size = 32) := by rw [B_size]; exact hk
  have HAZ : Hid ((B A).size = 32) := by rw [B_size]; exact ha
  have HT : Hid (∀ w', Calls Tryd.prog 63 #[.agg (B K), .agg (B A)] w' (JoinPost (2 :: (K ++ A)) w')) := fun w' => refInnerText_any K A w' hk ha bk ba
  have HS : Hid (∀ u w', Reads w' u (2 :: (K ++ A)) → Calls Tryd.prog 62 #[u] w' fun e w'' => e = .returned (.agg (B D)) ∧ Below w'.heap.size w' w'') := by
    intro u w' hu
    rw [hD]
    exact refSum_any u _ w' hu (by simp [hk, ha])
  clear hD hk ha bk ba
  go_enter Tryd.func37, Tryd.ntmps37
  go_wp2_with (first
    | (refine wpList_al _ rfl _ rfl _ zero_b32 ?_; intro w3 g3 hg3 hl3 B3 b3; have B1' := (B1.grow b2).grow b3; have B2' := B2.grow b3)
    | (have hx := hl1; clear hx; refine wpList_bx _ rfl _ _ rfl _ rfl ?_; intro w2 g2 hg2 hl2 B2 b2) | (refine wpList_bx _ rfl _ _ rfl _ rfl ?_; intro w1 g1 hg1 hl1 B1 b1)
    | (refine wpList_ld _ rfl _ _ rfl g1 _ rfl B1' _ _ Tryd.underlying22 (by rw [HKZ.out]; exact size_b32) ?_)
    | (refine wpList_ld _ rfl _ _ rfl g2 _ rfl B2' _ _ Tryd.underlying22 (by rw [HAZ.out]; exact size_b32) ?_)
    | (go_at_call 63; refine (HT.out w3).mono ?_; rintro e w4 ⟨u, sp, rfl, hO, b4⟩; have hR := hO.reads; clear hO)
    | (go_at_call 62; refine (HS.out u w4 hR).mono ?_; rintro e w5 ⟨rfl, b5⟩; have B5 := (B3.grow b4).grow b5)
    | (refine wpList_sto _ rfl _ _ _ rfl g3 _ _ rfl rfl B5 (by rw [HSZ.out]; exact size_b32) (by rw [HSZ.out, B_size]; simp) (B_one _) ?_; intro w6 B6 g6))
  have c2 := b1.trans (b2.mono b1.size)
  have c5 := grow_trans (grow_trans (grow_trans c2 b3) b4) b5
  exact bodyPost_ret (v := .agg (B D)) (results_cell_row rfl _ _ g3 _ _ _ _ rfl B6 Tryd.underlying22 rfl (by rw [HSZ.out]; exact size_b32)) rfl ⟨by rw [HD.out], below_row c5 g6 (Nat.le_trans c2.size hg3)⟩

end Go.Proofs.YtpihigcnoifcfaaDoor

/- The document's Check, Encode, Digest of nodes, as contracts. -/
namespace Go.Proofs.YtpihigcnoifcfaaDoor
set_option maxRecDepth 20000
open Go.RowKit

theorem wpList_ldmg {ops : Array Oper} {rest : List Oper} {op : Oper} {a : Act} {Q : Exit → Act → World → Prop} (w : World) (hgd : Region.wanted op (yielded ops a.tmps) = true) (x : Operand) (ty : TypeId) (ho : op.op = .load ty x)
    (g o : Nat) (t : TypeId) (zs xs : List Int) (hx : a.eval x = .pointer (some ⟨g, o, none⟩)) (h : Blk w g t (B zs)) (hs : Seg zs o xs) (n : Nat) (e : TypeId) (hu : Tryd.prog.underlying ty = some (.array n e)) (hi : (Tryd.prog.info? ty).map (·.size) = some xs.length)
    (hk : wpList Tryd.prog ops Q rest (a.put op.dst (.agg (B xs))) w) : wpList Tryd.prog ops Q (op :: rest) a w :=
  BigFrame.wpList_want hgd fun _ hK => wp_load_mid ty x ho g o hx (xs.map (Value.int .u8)) _ (hs.range h) hu rfl (by rw [hi]; simp) (hK _ _ hk)

theorem wpList_bldg {ops : Array Oper} {rest : List Oper} {op : Oper} {a : Act} {Q : Exit → Act → World → Prop} (w : World) (hgd : Region.wanted op (yielded ops a.tmps) = true) (ty : TypeId) (parts : Array (Nat × Operand)) (ho : op.op = .build ty parts)
    (cs : Array Value) (h : Tryd.prog.built ty (parts.map fun (i, x) => (i, a.eval x)).toList = some cs)
    (hk : wpList Tryd.prog ops Q rest (a.put op.dst (.agg cs)) w) : wpList Tryd.prog ops Q (op :: rest) a w := by
  refine BigFrame.wpList_want hgd fun K hK => ?_
  unfold Oper.wp execOp
  simp only [ho, Sem.run_bind, run_build w ty _ cs h, Result.andThen_ok, Sem.run_pure]
  exact hK _ _ hk


set_option maxHeartbeats 4000000 in
theorem rcheck_core (k : Int) (a b c d : List Int) (w : World) (h : Nd k a b c d) (fa fb fc fd : Bool) (r : Int) (ea : decide (a = z32) = fa) (eb : decide (b = z32) = fb) (ec : decide (c = z32) = fc) (ed : decide (d = z32) = fd)
    (hr : (k = 0 ∧ r = if (fa && fb && fc && fd) = true then 0 else 2) ∨ (k = 1 ∧ r = if (fc && fd) = true then 0 else 2) ∨ (k = 2 ∧ r = if (fa && fb) = true then 0 else 2) ∨ (k ≠ 0 ∧ k ≠ 1 ∧ k ≠ 2 ∧ r = 2)) :
    Calls Tryd.prog 34 #[.agg (B (nd k a b c d))] w fun e w' => e = .returned (.int .i64 r) ∧ Below w.heap.size w w' := by
  have HF := hidden h.facts
  have HBh : Hid (Tryd.prog.built 23 [] = some (B z32)) := built_hash
  have HBp : Hid (Tryd.prog.built 24 [] = some (B z32)) := built_path
  have qa : ∀ w, (Op.equalIn 10000 24 (.agg (B a)) (.agg (B z32))).run Tryd.prog w = .ok fa w := fun w => by rw [← ea]; exact path_eq a z32 h.la rfl w
  have qb : ∀ w, (Op.equalIn 10000 23 (.agg (B b)) (.agg (B z32))).run Tryd.prog w = .ok fb w := fun w => by rw [← eb]; exact hash_eq b z32 h.lb rfl w
  have qc : ∀ w, (Op.equalIn 10000 23 (.agg (B c)) (.agg (B z32))).run Tryd.prog w = .ok fc w := fun w => by rw [← ec]; exact hash_eq c z32 h.lc rfl w
  have qd : ∀ w, (Op.equalIn 10000 23 (.agg (B d)) (.agg (B z32))).run Tryd.prog w = .ok fd w := fun w => by rw [← ed]; exact hash_eq d z32 h.ld rfl w
  obtain ⟨N, hN⟩ : ∃ N, N = nd k a b c d := ⟨_, rfl⟩
  rw [← hN] at HF ⊢
  clear h hN ea eb ec ed
  rcases hr with ⟨hk, hr⟩ | ⟨hk, hr⟩ | ⟨hk, hr⟩ | ⟨h0, h1, h2, hr⟩
  · have k0 : (k == 0) = true := by simp [hk]
    have k1 : (k == 1) = false := by simp [hk]
    have k2 : (k == 2) = false := by simp [hk]
    clear hk
    cases fa with
    | false =>
      have hr2 : r = 2 := by simpa using hr
      subst hr2
      clear hr
      go_enter Tryd.func34, Tryd.ntmps34
      go_wp2_with (first
        | ((with_reducible refine at_bxd 1 ?_); refine wpList_bx _ rfl _ _ rfl _ rfl ?_; intro w1 g1 hg1 hl1 B1 b1)
        | ((with_reducible refine at_bdd 4 ?_); refine wpList_bld _ rfl _ _ rfl _ (by rw [List.map_toArray]; exact HBh.out) ?_)
        | ((with_reducible refine at_ald 3 ?_); refine wpList_al _ rfl _ rfl _ zero_hash ?_; intro w2 g2 hg2 hl2 B2 b2)
        | ((with_reducible refine at_st 3 ?_); refine wpList_sto _ rfl _ _ _ rfl g2 _ (B z32) rfl rfl B2 (by kernel_rfl) rfl (B_one _) ?_; intro w3 B3 r3; have q3 := below_row b2 r3 hg2; have B4 := B1.grow q3; have ck := HF.out.kd _ _ _ B4; have c3 := grow_trans b1 q3)
        | ((with_reducible refine at_bdd 53 ?_); refine wpList_bldg _ rfl _ _ rfl _ (by rw [List.map_toArray]; exact HBp.out) ?_)
        | ((with_reducible refine at_bdd 11 ?_); refine wpList_bldg _ rfl _ _ rfl _ (by rw [List.map_toArray]; exact HBp.out) ?_)
        | ((with_reducible refine at_ldd 10 9 ?_); refine wpList_ldmg _ rfl _ _ rfl g1 1 _ _ a rfl B4 HF.out.sa _ _ Tryd.underlying24 HF.out.la ?_)
        | ((with_reducible refine at_ldd 52 51 ?_); refine wpList_ldmg _ rfl _ _ rfl g1 1 _ _ a rfl B4 HF.out.sa _ _ Tryd.underlying24 HF.out.la ?_)
        | ((with_reducible refine at_ldd 16 15 ?_); refine wpList_ldmg _ rfl _ _ rfl g1 33 _ _ b rfl B4 HF.out.sb _ _ Tryd.underlying23 HF.out.lb ?_)
        | ((with_reducible refine at_ldd 58 57 ?_); refine wpList_ldmg _ rfl _ _ rfl g1 33 _ _ b rfl B4 HF.out.sb _ _ Tryd.underlying23 HF.out.lb ?_)
        | ((with_reducible refine at_ldd 22 21 ?_); refine wpList_ldmg _ rfl _ _ rfl g1 65 _ _ c rfl B4 HF.out.sc _ _ Tryd.underlying23 HF.out.lc ?_)
        | ((with_reducible refine at_ldd 37 36 ?_); refine wpList_ldmg _ rfl _ _ rfl g1 65 _ _ c rfl B4 HF.out.sc _ _ Tryd.underlying23 HF.out.lc ?_)
        | ((with_reducible refine at_ldd 28 27 ?_); refine wpList_ldmg _ rfl _ _ rfl g1 97 _ _ d rfl B4 HF.out.sd _ _ Tryd.underlying23 HF.out.ld ?_)
        | ((with_reducible refine at_ldd 43 42 ?_); refine wpList_ldmg _ rfl _ _ rfl g1 97 _ _ d rfl B4 HF.out.sd _ _ Tryd.underlying23 HF.out.ld ?_)
        | ((with_reducible refine at_ldd 17 3 ?_); refine wpList_ldg _ rfl _ _ rfl g2 _ rfl B3 _ _ Tryd.underlying23 (by kernel_rfl) ?_)
        | ((with_reducible refine at_ldd 23 3 ?_); refine wpList_ldg _ rfl _ _ rfl g2 _ rfl B3 _ _ Tryd.underlying23 (by kernel_rfl) ?_)
        | ((with_reducible refine at_ldd 29 3 ?_); refine wpList_ldg _ rfl _ _ rfl g2 _ rfl B3 _ _ Tryd.underlying23 (by kernel_rfl) ?_)
        | ((with_reducible refine at_ldd 38 3 ?_); refine wpList_ldg _ rfl _ _ rfl g2 _ rfl B3 _ _ Tryd.underlying23 (by kernel_rfl) ?_)
        | ((with_reducible refine at_ldd 44 3 ?_); refine wpList_ldg _ rfl _ _ rfl g2 _ rfl B3 _ _ Tryd.underlying23 (by kernel_rfl) ?_)
        | ((with_reducible refine at_ldd 59 3 ?_); refine wpList_ldg _ rfl _ _ rfl g2 _ rfl B3 _ _ Tryd.underlying23 (by kernel_rfl) ?_))
      go_ret
      exact ⟨rfl, c3⟩
    | true =>
      cases fb with
      | false =>
        have hr2 : r = 2 := by simpa using hr
        subst hr2
        clear hr
        go_enter Tryd.func34, Tryd.ntmps34
        go_wp2_with (first
          | ((with_reducible refine at_bxd 1 ?_); refine wpList_bx _ rfl _ _ rfl _ rfl ?_; intro w1 g1 hg1 hl1 B1 b1)
          | ((with_reducible refine at_bdd 4 ?_); refine wpList_bld _ rfl _ _ rfl _ (by rw [List.map_toArray]; exact HBh.out) ?_)
          | ((with_reducible refine at_ald 3 ?_); refine wpList_al _ rfl _ rfl _ zero_hash ?_; intro w2 g2 hg2 hl2 B2 b2)
          | ((with_reducible refine at_st 3 ?_); refine wpList_sto _ rfl _ _ _ rfl g2 _ (B z32) rfl rfl B2 (by kernel_rfl) rfl (B_one _) ?_; intro w3 B3 r3; have q3 := below_row b2 r3 hg2; have B4 := B1.grow q3; have ck := HF.out.kd _ _ _ B4; have c3 := grow_trans b1 q3)
          | ((with_reducible refine at_bdd 53 ?_); refine wpList_bldg _ rfl _ _ rfl _ (by rw [List.map_toArray]; exact HBp.out) ?_)
          | ((with_reducible refine at_bdd 11 ?_); refine wpList_bldg _ rfl _ _ rfl _ (by rw [List.map_toArray]; exact HBp.out) ?_)
          | ((with_reducible refine at_ldd 10 9 ?_); refine wpList_ldmg _ rfl _ _ rfl g1 1 _ _ a rfl B4 HF.out.sa _ _ Tryd.underlying24 HF.out.la ?_)
          | ((with_reducible refine at_ldd 52 51 ?_); refine wpList_ldmg _ rfl _ _ rfl g1 1 _ _ a rfl B4 HF.out.sa _ _ Tryd.underlying24 HF.out.la ?_)
          | ((with_reducible refine at_ldd 16 15 ?_); refine wpList_ldmg _ rfl _ _ rfl g1 33 _ _ b rfl B4 HF.out.sb _ _ Tryd.underlying23 HF.out.lb ?_)
          | ((with_reducible refine at_ldd 58 57 ?_); refine wpList_ldmg _ rfl _ _ rfl g1 33 _ _ b rfl B4 HF.out.sb _ _ Tryd.underlying23 HF.out.lb ?_)
          | ((with_reducible refine at_ldd 22 21 ?_); refine wpList_ldmg _ rfl _ _ rfl g1 65 _ _ c rfl B4 HF.out.sc _ _ Tryd.underlying23 HF.out.lc ?_)
          | ((with_reducible refine at_ldd 37 36 ?_); refine wpList_ldmg _ rfl _ _ rfl g1 65 _ _ c rfl B4 HF.out.sc _ _ Tryd.underlying23 HF.out.lc ?_)
          | ((with_reducible refine at_ldd 28 27 ?_); refine wpList_ldmg _ rfl _ _ rfl g1 97 _ _ d rfl B4 HF.out.sd _ _ Tryd.underlying23 HF.out.ld ?_)
          | ((with_reducible refine at_ldd 43 42 ?_); refine wpList_ldmg _ rfl _ _ rfl g1 97 _ _ d rfl B4 HF.out.sd _ _ Tryd.underlying23 HF.out.ld ?_)
          | ((with_reducible refine at_ldd 17 3 ?_); refine wpList_ldg _ rfl _ _ rfl g2 _ rfl B3 _ _ Tryd.underlying23 (by kernel_rfl) ?_)
          | ((with_reducible refine at_ldd 23 3 ?_); refine wpList_ldg _ rfl _ _ rfl g2 _ rfl B3 _ _ Tryd.underlying23 (by kernel_rfl) ?_)
          | ((with_reducible refine at_ldd 29 3 ?_); refine wpList_ldg _ rfl _ _ rfl g2 _ rfl B3 _ _ Tryd.underlying23 (by kernel_rfl) ?_)
          | ((with_reducible refine at_ldd 38 3 ?_); refine wpList_ldg _ rfl _ _ rfl g2 _ rfl B3 _ _ Tryd.underlying23 (by kernel_rfl) ?_)
          | ((with_reducible refine at_ldd 44 3 ?_); refine wpList_ldg _ rfl _ _ rfl g2 _ rfl B3 _ _ Tryd.underlying23 (by kernel_rfl) ?_)
          | ((with_reducible refine at_ldd 59 3 ?_); refine wpList_ldg _ rfl _ _ rfl g2 _ rfl B3 _ _ Tryd.underlying23 (by kernel_rfl) ?_))
        go_ret
        exact ⟨rfl, c3⟩
      | true =>
        cases fc with
        | false =>
          have hr2 : r = 2 := by simpa using hr
          subst hr2
          clear hr
          go_enter Tryd.func34, Tryd.ntmps34
          go_wp2_with (first
            | ((with_reducible refine at_bxd 1 ?_); refine wpList_bx _ rfl _ _ rfl _ rfl ?_; intro w1 g1 hg1 hl1 B1 b1)
            | ((with_reducible refine at_bdd 4 ?_); refine wpList_bld _ rfl _ _ rfl _ (by rw [List.map_toArray]; exact HBh.out) ?_)
            | ((with_reducible refine at_ald 3 ?_); refine wpList_al _ rfl _ rfl _ zero_hash ?_; intro w2 g2 hg2 hl2 B2 b2)
            | ((with_reducible refine at_st 3 ?_); refine wpList_sto _ rfl _ _ _ rfl g2 _ (B z32) rfl rfl B2 (by kernel_rfl) rfl (B_one _) ?_; intro w3 B3 r3; have q3 := below_row b2 r3 hg2; have B4 := B1.grow q3; have ck := HF.out.kd _ _ _ B4; have c3 := grow_trans b1 q3)
            | ((with_reducible refine at_bdd 53 ?_); refine wpList_bldg _ rfl _ _ rfl _ (by rw [List.map_toArray]; exact HBp.out) ?_)
            | ((with_reducible refine at_bdd 11 ?_); refine wpList_bldg _ rfl _ _ rfl _ (by rw [List.map_toArray]; exact HBp.out) ?_)
            | ((with_reducible refine at_ldd 10 9 ?_); refine wpList_ldmg _ rfl _ _ rfl g1 1 _ _ a rfl B4 HF.out.sa _ _ Tryd.underlying24 HF.out.la ?_)
            | ((with_reducible refine at_ldd 52 51 ?_); refine wpList_ldmg _ rfl _ _ rfl g1 1 _ _ a rfl B4 HF.out.sa _ _ Tryd.underlying24 HF.out.la ?_)
            | ((with_reducible refine at_ldd 16 15 ?_); refine wpList_ldmg _ rfl _ _ rfl g1 33 _ _ b rfl B4 HF.out.sb _ _ Tryd.underlying23 HF.out.lb ?_)
            | ((with_reducible refine at_ldd 58 57 ?_); refine wpList_ldmg _ rfl _ _ rfl g1 33 _ _ b rfl B4 HF.out.sb _ _ Tryd.underlying23 HF.out.lb ?_)
            | ((with_reducible refine at_ldd 22 21 ?_); refine wpList_ldmg _ rfl _ _ rfl g1 65 _ _ c rfl B4 HF.out.sc _ _ Tryd.underlying23 HF.out.lc ?_)
            | ((with_reducible refine at_ldd 37 36 ?_); refine wpList_ldmg _ rfl _ _ rfl g1 65 _ _ c rfl B4 HF.out.sc _ _ Tryd.underlying23 HF.out.lc ?_)
            | ((with_reducible refine at_ldd 28 27 ?_); refine wpList_ldmg _ rfl _ _ rfl g1 97 _ _ d rfl B4 HF.out.sd _ _ Tryd.underlying23 HF.out.ld ?_)
            | ((with_reducible refine at_ldd 43 42 ?_); refine wpList_ldmg _ rfl _ _ rfl g1 97 _ _ d rfl B4 HF.out.sd _ _ Tryd.underlying23 HF.out.ld ?_)
            | ((with_reducible refine at_ldd 17 3 ?_); refine wpList_ldg _ rfl _ _ rfl g2 _ rfl B3 _ _ Tryd.underlying23 (by kernel_rfl) ?_)
            | ((with_reducible refine at_ldd 23 3 ?_); refine wpList_ldg _ rfl _ _ rfl g2 _ rfl B3 _ _ Tryd.underlying23 (by kernel_rfl) ?_)
            | ((with_reducible refine at_ldd 29 3 ?_); refine wpList_ldg _ rfl _ _ rfl g2 _ rfl B3 _ _ Tryd.underlying23 (by kernel_rfl) ?_)
            | ((with_reducible refine at_ldd 38 3 ?_); refine wpList_ldg _ rfl _ _ rfl g2 _ rfl B3 _ _ Tryd.underlying23 (by kernel_rfl) ?_)
            | ((with_reducible refine at_ldd 44 3 ?_); refine wpList_ldg _ rfl _ _ rfl g2 _ rfl B3 _ _ Tryd.underlying23 (by kernel_rfl) ?_)
            | ((with_reducible refine at_ldd 59 3 ?_); refine wpList_ldg _ rfl _ _ rfl g2 _ rfl B3 _ _ Tryd.underlying23 (by kernel_rfl) ?_))
          go_ret
          exact ⟨rfl, c3⟩
        | true =>
          cases fd with
          | false =>
            have hr2 : r = 2 := by simpa using hr
            subst hr2
            clear hr
            go_enter Tryd.func34, Tryd.ntmps34
            go_wp2_with (first
              | ((with_reducible refine at_bxd 1 ?_); refine wpList_bx _ rfl _ _ rfl _ rfl ?_; intro w1 g1 hg1 hl1 B1 b1)
              | ((with_reducible refine at_bdd 4 ?_); refine wpList_bld _ rfl _ _ rfl _ (by rw [List.map_toArray]; exact HBh.out) ?_)
              | ((with_reducible refine at_ald 3 ?_); refine wpList_al _ rfl _ rfl _ zero_hash ?_; intro w2 g2 hg2 hl2 B2 b2)
              | ((with_reducible refine at_st 3 ?_); refine wpList_sto _ rfl _ _ _ rfl g2 _ (B z32) rfl rfl B2 (by kernel_rfl) rfl (B_one _) ?_; intro w3 B3 r3; have q3 := below_row b2 r3 hg2; have B4 := B1.grow q3; have ck := HF.out.kd _ _ _ B4; have c3 := grow_trans b1 q3)
              | ((with_reducible refine at_bdd 53 ?_); refine wpList_bldg _ rfl _ _ rfl _ (by rw [List.map_toArray]; exact HBp.out) ?_)
              | ((with_reducible refine at_bdd 11 ?_); refine wpList_bldg _ rfl _ _ rfl _ (by rw [List.map_toArray]; exact HBp.out) ?_)
              | ((with_reducible refine at_ldd 10 9 ?_); refine wpList_ldmg _ rfl _ _ rfl g1 1 _ _ a rfl B4 HF.out.sa _ _ Tryd.underlying24 HF.out.la ?_)
              | ((with_reducible refine at_ldd 52 51 ?_); refine wpList_ldmg _ rfl _ _ rfl g1 1 _ _ a rfl B4 HF.out.sa _ _ Tryd.underlying24 HF.out.la ?_)
              | ((with_reducible refine at_ldd 16 15 ?_); refine wpList_ldmg _ rfl _ _ rfl g1 33 _ _ b rfl B4 HF.out.sb _ _ Tryd.underlying23 HF.out.lb ?_)
              | ((with_reducible refine at_ldd 58 57 ?_); refine wpList_ldmg _ rfl _ _ rfl g1 33 _ _ b rfl B4 HF.out.sb _ _ Tryd.underlying23 HF.out.lb ?_)
              | ((with_reducible refine at_ldd 22 21 ?_); refine wpList_ldmg _ rfl _ _ rfl g1 65 _ _ c rfl B4 HF.out.sc _ _ Tryd.underlying23 HF.out.lc ?_)
              | ((with_reducible refine at_ldd 37 36 ?_); refine wpList_ldmg _ rfl _ _ rfl g1 65 _ _ c rfl B4 HF.out.sc _ _ Tryd.underlying23 HF.out.lc ?_)
              | ((with_reducible refine at_ldd 28 27 ?_); refine wpList_ldmg _ rfl _ _ rfl g1 97 _ _ d rfl B4 HF.out.sd _ _ Tryd.underlying23 HF.out.ld ?_)
              | ((with_reducible refine at_ldd 43 42 ?_); refine wpList_ldmg _ rfl _ _ rfl g1 97 _ _ d rfl B4 HF.out.sd _ _ Tryd.underlying23 HF.out.ld ?_)
              | ((with_reducible refine at_ldd 17 3 ?_); refine wpList_ldg _ rfl _ _ rfl g2 _ rfl B3 _ _ Tryd.underlying23 (by kernel_rfl) ?_)
              | ((with_reducible refine at_ldd 23 3 ?_); refine wpList_ldg _ rfl _ _ rfl g2 _ rfl B3 _ _ Tryd.underlying23 (by kernel_rfl) ?_)
              | ((with_reducible refine at_ldd 29 3 ?_); refine wpList_ldg _ rfl _ _ rfl g2 _ rfl B3 _ _ Tryd.underlying23 (by kernel_rfl) ?_)
              | ((with_reducible refine at_ldd 38 3 ?_); refine wpList_ldg _ rfl _ _ rfl g2 _ rfl B3 _ _ Tryd.underlying23 (by kernel_rfl) ?_)
              | ((with_reducible refine at_ldd 44 3 ?_); refine wpList_ldg _ rfl _ _ rfl g2 _ rfl B3 _ _ Tryd.underlying23 (by kernel_rfl) ?_)
              | ((with_reducible refine at_ldd 59 3 ?_); refine wpList_ldg _ rfl _ _ rfl g2 _ rfl B3 _ _ Tryd.underlying23 (by kernel_rfl) ?_))
            go_ret
            exact ⟨rfl, c3⟩
          | true =>
            have hr2 : r = 0 := by simpa using hr
            subst hr2
            clear hr
            go_enter Tryd.func34, Tryd.ntmps34
            go_wp2_with (first
              | ((with_reducible refine at_bxd 1 ?_); refine wpList_bx _ rfl _ _ rfl _ rfl ?_; intro w1 g1 hg1 hl1 B1 b1)
              | ((with_reducible refine at_bdd 4 ?_); refine wpList_bld _ rfl _ _ rfl _ (by rw [List.map_toArray]; exact HBh.out) ?_)
              | ((with_reducible refine at_ald 3 ?_); refine wpList_al _ rfl _ rfl _ zero_hash ?_; intro w2 g2 hg2 hl2 B2 b2)
              | ((with_reducible refine at_st 3 ?_); refine wpList_sto _ rfl _ _ _ rfl g2 _ (B z32) rfl rfl B2 (by kernel_rfl) rfl (B_one _) ?_; intro w3 B3 r3; have q3 := below_row b2 r3 hg2; have B4 := B1.grow q3; have ck := HF.out.kd _ _ _ B4; have c3 := grow_trans b1 q3)
              | ((with_reducible refine at_bdd 53 ?_); refine wpList_bldg _ rfl _ _ rfl _ (by rw [List.map_toArray]; exact HBp.out) ?_)
              | ((with_reducible refine at_bdd 11 ?_); refine wpList_bldg _ rfl _ _ rfl _ (by rw [List.map_toArray]; exact HBp.out) ?_)
              | ((with_reducible refine at_ldd 10 9 ?_); refine wpList_ldmg _ rfl _ _ rfl g1 1 _ _ a rfl B4 HF.out.sa _ _ Tryd.underlying24 HF.out.la ?_)
              | ((with_reducible refine at_ldd 52 51 ?_); refine wpList_ldmg _ rfl _ _ rfl g1 1 _ _ a rfl B4 HF.out.sa _ _ Tryd.underlying24 HF.out.la ?_)
              | ((with_reducible refine at_ldd 16 15 ?_); refine wpList_ldmg _ rfl _ _ rfl g1 33 _ _ b rfl B4 HF.out.sb _ _ Tryd.underlying23 HF.out.lb ?_)
              | ((with_reducible refine at_ldd 58 57 ?_); refine wpList_ldmg _ rfl _ _ rfl g1 33 _ _ b rfl B4 HF.out.sb _ _ Tryd.underlying23 HF.out.lb ?_)
              | ((with_reducible refine at_ldd 22 21 ?_); refine wpList_ldmg _ rfl _ _ rfl g1 65 _ _ c rfl B4 HF.out.sc _ _ Tryd.underlying23 HF.out.lc ?_)
              | ((with_reducible refine at_ldd 37 36 ?_); refine wpList_ldmg _ rfl _ _ rfl g1 65 _ _ c rfl B4 HF.out.sc _ _ Tryd.underlying23 HF.out.lc ?_)
              | ((with_reducible refine at_ldd 28 27 ?_); refine wpList_ldmg _ rfl _ _ rfl g1 97 _ _ d rfl B4 HF.out.sd _ _ Tryd.underlying23 HF.out.ld ?_)
              | ((with_reducible refine at_ldd 43 42 ?_); refine wpList_ldmg _ rfl _ _ rfl g1 97 _ _ d rfl B4 HF.out.sd _ _ Tryd.underlying23 HF.out.ld ?_)
              | ((with_reducible refine at_ldd 17 3 ?_); refine wpList_ldg _ rfl _ _ rfl g2 _ rfl B3 _ _ Tryd.underlying23 (by kernel_rfl) ?_)
              | ((with_reducible refine at_ldd 23 3 ?_); refine wpList_ldg _ rfl _ _ rfl g2 _ rfl B3 _ _ Tryd.underlying23 (by kernel_rfl) ?_)
              | ((with_reducible refine at_ldd 29 3 ?_); refine wpList_ldg _ rfl _ _ rfl g2 _ rfl B3 _ _ Tryd.underlying23 (by kernel_rfl) ?_)
              | ((with_reducible refine at_ldd 38 3 ?_); refine wpList_ldg _ rfl _ _ rfl g2 _ rfl B3 _ _ Tryd.underlying23 (by kernel_rfl) ?_)
              | ((with_reducible refine at_ldd 44 3 ?_); refine wpList_ldg _ rfl _ _ rfl g2 _ rfl B3 _ _ Tryd.underlying23 (by kernel_rfl) ?_)
              | ((with_reducible refine at_ldd 59 3 ?_); refine wpList_ldg _ rfl _ _ rfl g2 _ rfl B3 _ _ Tryd.underlying23 (by kernel_rfl) ?_))
            go_ret
            exact ⟨rfl, c3⟩
  · have k0 : (k == 0) = false := by simp [hk]
    have k1 : (k == 1) = true := by simp [hk]
    have k2 : (k == 2) = false := by simp [hk]
    clear hk
    cases fc with
    | false =>
      have hr2 : r = 2 := by simpa using hr
      subst hr2
      clear hr
      go_enter Tryd.func34, Tryd.ntmps34
      go_wp2_with (first
        | ((with_reducible refine at_bxd 1 ?_); refine wpList_bx _ rfl _ _ rfl _ rfl ?_; intro w1 g1 hg1 hl1 B1 b1)
        | ((with_reducible refine at_bdd 4 ?_); refine wpList_bld _ rfl _ _ rfl _ (by rw [List.map_toArray]; exact HBh.out) ?_)
        | ((with_reducible refine at_ald 3 ?_); refine wpList_al _ rfl _ rfl _ zero_hash ?_; intro w2 g2 hg2 hl2 B2 b2)
        | ((with_reducible refine at_st 3 ?_); refine wpList_sto _ rfl _ _ _ rfl g2 _ (B z32) rfl rfl B2 (by kernel_rfl) rfl (B_one _) ?_; intro w3 B3 r3; have q3 := below_row b2 r3 hg2; have B4 := B1.grow q3; have ck := HF.out.kd _ _ _ B4; have c3 := grow_trans b1 q3)
        | ((with_reducible refine at_bdd 53 ?_); refine wpList_bldg _ rfl _ _ rfl _ (by rw [List.map_toArray]; exact HBp.out) ?_)
        | ((with_reducible refine at_bdd 11 ?_); refine wpList_bldg _ rfl _ _ rfl _ (by rw [List.map_toArray]; exact HBp.out) ?_)
        | ((with_reducible refine at_ldd 10 9 ?_); refine wpList_ldmg _ rfl _ _ rfl g1 1 _ _ a rfl B4 HF.out.sa _ _ Tryd.underlying24 HF.out.la ?_)
        | ((with_reducible refine at_ldd 52 51 ?_); refine wpList_ldmg _ rfl _ _ rfl g1 1 _ _ a rfl B4 HF.out.sa _ _ Tryd.underlying24 HF.out.la ?_)
        | ((with_reducible refine at_ldd 16 15 ?_); refine wpList_ldmg _ rfl _ _ rfl g1 33 _ _ b rfl B4 HF.out.sb _ _ Tryd.underlying23 HF.out.lb ?_)
        | ((with_reducible refine at_ldd 58 57 ?_); refine wpList_ldmg _ rfl _ _ rfl g1 33 _ _ b rfl B4 HF.out.sb _ _ Tryd.underlying23 HF.out.lb ?_)
        | ((with_reducible refine at_ldd 22 21 ?_); refine wpList_ldmg _ rfl _ _ rfl g1 65 _ _ c rfl B4 HF.out.sc _ _ Tryd.underlying23 HF.out.lc ?_)
        | ((with_reducible refine at_ldd 37 36 ?_); refine wpList_ldmg _ rfl _ _ rfl g1 65 _ _ c rfl B4 HF.out.sc _ _ Tryd.underlying23 HF.out.lc ?_)
        | ((with_reducible refine at_ldd 28 27 ?_); refine wpList_ldmg _ rfl _ _ rfl g1 97 _ _ d rfl B4 HF.out.sd _ _ Tryd.underlying23 HF.out.ld ?_)
        | ((with_reducible refine at_ldd 43 42 ?_); refine wpList_ldmg _ rfl _ _ rfl g1 97 _ _ d rfl B4 HF.out.sd _ _ Tryd.underlying23 HF.out.ld ?_)
        | ((with_reducible refine at_ldd 17 3 ?_); refine wpList_ldg _ rfl _ _ rfl g2 _ rfl B3 _ _ Tryd.underlying23 (by kernel_rfl) ?_)
        | ((with_reducible refine at_ldd 23 3 ?_); refine wpList_ldg _ rfl _ _ rfl g2 _ rfl B3 _ _ Tryd.underlying23 (by kernel_rfl) ?_)
        | ((with_reducible refine at_ldd 29 3 ?_); refine wpList_ldg _ rfl _ _ rfl g2 _ rfl B3 _ _ Tryd.underlying23 (by kernel_rfl) ?_)
        | ((with_reducible refine at_ldd 38 3 ?_); refine wpList_ldg _ rfl _ _ rfl g2 _ rfl B3 _ _ Tryd.underlying23 (by kernel_rfl) ?_)
        | ((with_reducible refine at_ldd 44 3 ?_); refine wpList_ldg _ rfl _ _ rfl g2 _ rfl B3 _ _ Tryd.underlying23 (by kernel_rfl) ?_)
        | ((with_reducible refine at_ldd 59 3 ?_); refine wpList_ldg _ rfl _ _ rfl g2 _ rfl B3 _ _ Tryd.underlying23 (by kernel_rfl) ?_))
      go_ret
      exact ⟨rfl, c3⟩
    | true =>
      cases fd with
      | false =>
        have hr2 : r = 2 := by simpa using hr
        subst hr2
        clear hr
        go_enter Tryd.func34, Tryd.ntmps34
        go_wp2_with (first
          | ((with_reducible refine at_bxd 1 ?_); refine wpList_bx _ rfl _ _ rfl _ rfl ?_; intro w1 g1 hg1 hl1 B1 b1)
          | ((with_reducible refine at_bdd 4 ?_); refine wpList_bld _ rfl _ _ rfl _ (by rw [List.map_toArray]; exact HBh.out) ?_)
          | ((with_reducible refine at_ald 3 ?_); refine wpList_al _ rfl _ rfl _ zero_hash ?_; intro w2 g2 hg2 hl2 B2 b2)
          | ((with_reducible refine at_st 3 ?_); refine wpList_sto _ rfl _ _ _ rfl g2 _ (B z32) rfl rfl B2 (by kernel_rfl) rfl (B_one _) ?_; intro w3 B3 r3; have q3 := below_row b2 r3 hg2; have B4 := B1.grow q3; have ck := HF.out.kd _ _ _ B4; have c3 := grow_trans b1 q3)
          | ((with_reducible refine at_bdd 53 ?_); refine wpList_bldg _ rfl _ _ rfl _ (by rw [List.map_toArray]; exact HBp.out) ?_)
          | ((with_reducible refine at_bdd 11 ?_); refine wpList_bldg _ rfl _ _ rfl _ (by rw [List.map_toArray]; exact HBp.out) ?_)
          | ((with_reducible refine at_ldd 10 9 ?_); refine wpList_ldmg _ rfl _ _ rfl g1 1 _ _ a rfl B4 HF.out.sa _ _ Tryd.underlying24 HF.out.la ?_)
          | ((with_reducible refine at_ldd 52 51 ?_); refine wpList_ldmg _ rfl _ _ rfl g1 1 _ _ a rfl B4 HF.out.sa _ _ Tryd.underlying24 HF.out.la ?_)
          | ((with_reducible refine at_ldd 16 15 ?_); refine wpList_ldmg _ rfl _ _ rfl g1 33 _ _ b rfl B4 HF.out.sb _ _ Tryd.underlying23 HF.out.lb ?_)
          | ((with_reducible refine at_ldd 58 57 ?_); refine wpList_ldmg _ rfl _ _ rfl g1 33 _ _ b rfl B4 HF.out.sb _ _ Tryd.underlying23 HF.out.lb ?_)
          | ((with_reducible refine at_ldd 22 21 ?_); refine wpList_ldmg _ rfl _ _ rfl g1 65 _ _ c rfl B4 HF.out.sc _ _ Tryd.underlying23 HF.out.lc ?_)
          | ((with_reducible refine at_ldd 37 36 ?_); refine wpList_ldmg _ rfl _ _ rfl g1 65 _ _ c rfl B4 HF.out.sc _ _ Tryd.underlying23 HF.out.lc ?_)
          | ((with_reducible refine at_ldd 28 27 ?_); refine wpList_ldmg _ rfl _ _ rfl g1 97 _ _ d rfl B4 HF.out.sd _ _ Tryd.underlying23 HF.out.ld ?_)
          | ((with_reducible refine at_ldd 43 42 ?_); refine wpList_ldmg _ rfl _ _ rfl g1 97 _ _ d rfl B4 HF.out.sd _ _ Tryd.underlying23 HF.out.ld ?_)
          | ((with_reducible refine at_ldd 17 3 ?_); refine wpList_ldg _ rfl _ _ rfl g2 _ rfl B3 _ _ Tryd.underlying23 (by kernel_rfl) ?_)
          | ((with_reducible refine at_ldd 23 3 ?_); refine wpList_ldg _ rfl _ _ rfl g2 _ rfl B3 _ _ Tryd.underlying23 (by kernel_rfl) ?_)
          | ((with_reducible refine at_ldd 29 3 ?_); refine wpList_ldg _ rfl _ _ rfl g2 _ rfl B3 _ _ Tryd.underlying23 (by kernel_rfl) ?_)
          | ((with_reducible refine at_ldd 38 3 ?_); refine wpList_ldg _ rfl _ _ rfl g2 _ rfl B3 _ _ Tryd.underlying23 (by kernel_rfl) ?_)
          | ((with_reducible refine at_ldd 44 3 ?_); refine wpList_ldg _ rfl _ _ rfl g2 _ rfl B3 _ _ Tryd.underlying23 (by kernel_rfl) ?_)
          | ((with_reducible refine at_ldd 59 3 ?_); refine wpList_ldg _ rfl _ _ rfl g2 _ rfl B3 _ _ Tryd.underlying23 (by kernel_rfl) ?_))
        go_ret
        exact ⟨rfl, c3⟩
      | true =>
        have hr2 : r = 0 := by simpa using hr
        subst hr2
        clear hr
        go_enter Tryd.func34, Tryd.ntmps34
        go_wp2_with (first
          | ((with_reducible refine at_bxd 1 ?_); refine wpList_bx _ rfl _ _ rfl _ rfl ?_; intro w1 g1 hg1 hl1 B1 b1)
          | ((with_reducible refine at_bdd 4 ?_); refine wpList_bld _ rfl _ _ rfl _ (by rw [List.map_toArray]; exact HBh.out) ?_)
          | ((with_reducible refine at_ald 3 ?_); refine wpList_al _ rfl _ rfl _ zero_hash ?_; intro w2 g2 hg2 hl2 B2 b2)
          | ((with_reducible refine at_st 3 ?_); refine wpList_sto _ rfl _ _ _ rfl g2 _ (B z32) rfl rfl B2 (by kernel_rfl) rfl (B_one _) ?_; intro w3 B3 r3; have q3 := below_row b2 r3 hg2; have B4 := B1.grow q3; have ck := HF.out.kd _ _ _ B4; have c3 := grow_trans b1 q3)
          | ((with_reducible refine at_bdd 53 ?_); refine wpList_bldg _ rfl _ _ rfl _ (by rw [List.map_toArray]; exact HBp.out) ?_)
          | ((with_reducible refine at_bdd 11 ?_); refine wpList_bldg _ rfl _ _ rfl _ (by rw [List.map_toArray]; exact HBp.out) ?_)
          | ((with_reducible refine at_ldd 10 9 ?_); refine wpList_ldmg _ rfl _ _ rfl g1 1 _ _ a rfl B4 HF.out.sa _ _ Tryd.underlying24 HF.out.la ?_)
          | ((with_reducible refine at_ldd 52 51 ?_); refine wpList_ldmg _ rfl _ _ rfl g1 1 _ _ a rfl B4 HF.out.sa _ _ Tryd.underlying24 HF.out.la ?_)
          | ((with_reducible refine at_ldd 16 15 ?_); refine wpList_ldmg _ rfl _ _ rfl g1 33 _ _ b rfl B4 HF.out.sb _ _ Tryd.underlying23 HF.out.lb ?_)
          | ((with_reducible refine at_ldd 58 57 ?_); refine wpList_ldmg _ rfl _ _ rfl g1 33 _ _ b rfl B4 HF.out.sb _ _ Tryd.underlying23 HF.out.lb ?_)
          | ((with_reducible refine at_ldd 22 21 ?_); refine wpList_ldmg _ rfl _ _ rfl g1 65 _ _ c rfl B4 HF.out.sc _ _ Tryd.underlying23 HF.out.lc ?_)
          | ((with_reducible refine at_ldd 37 36 ?_); refine wpList_ldmg _ rfl _ _ rfl g1 65 _ _ c rfl B4 HF.out.sc _ _ Tryd.underlying23 HF.out.lc ?_)
          | ((with_reducible refine at_ldd 28 27 ?_); refine wpList_ldmg _ rfl _ _ rfl g1 97 _ _ d rfl B4 HF.out.sd _ _ Tryd.underlying23 HF.out.ld ?_)
          | ((with_reducible refine at_ldd 43 42 ?_); refine wpList_ldmg _ rfl _ _ rfl g1 97 _ _ d rfl B4 HF.out.sd _ _ Tryd.underlying23 HF.out.ld ?_)
          | ((with_reducible refine at_ldd 17 3 ?_); refine wpList_ldg _ rfl _ _ rfl g2 _ rfl B3 _ _ Tryd.underlying23 (by kernel_rfl) ?_)
          | ((with_reducible refine at_ldd 23 3 ?_); refine wpList_ldg _ rfl _ _ rfl g2 _ rfl B3 _ _ Tryd.underlying23 (by kernel_rfl) ?_)
          | ((with_reducible refine at_ldd 29 3 ?_); refine wpList_ldg _ rfl _ _ rfl g2 _ rfl B3 _ _ Tryd.underlying23 (by kernel_rfl) ?_)
          | ((with_reducible refine at_ldd 38 3 ?_); refine wpList_ldg _ rfl _ _ rfl g2 _ rfl B3 _ _ Tryd.underlying23 (by kernel_rfl) ?_)
          | ((with_reducible refine at_ldd 44 3 ?_); refine wpList_ldg _ rfl _ _ rfl g2 _ rfl B3 _ _ Tryd.underlying23 (by kernel_rfl) ?_)
          | ((with_reducible refine at_ldd 59 3 ?_); refine wpList_ldg _ rfl _ _ rfl g2 _ rfl B3 _ _ Tryd.underlying23 (by kernel_rfl) ?_))
        go_ret
        exact ⟨rfl, c3⟩
  · have k0 : (k == 0) = false := by simp [hk]
    have k1 : (k == 1) = false := by simp [hk]
    have k2 : (k == 2) = true := by simp [hk]
    clear hk
    cases fa with
    | false =>
      have hr2 : r = 2 := by simpa using hr
      subst hr2
      clear hr
      go_enter Tryd.func34, Tryd.ntmps34
      go_wp2_with (first
        | ((with_reducible refine at_bxd 1 ?_); refine wpList_bx _ rfl _ _ rfl _ rfl ?_; intro w1 g1 hg1 hl1 B1 b1)
        | ((with_reducible refine at_bdd 4 ?_); refine wpList_bld _ rfl _ _ rfl _ (by rw [List.map_toArray]; exact HBh.out) ?_)
        | ((with_reducible refine at_ald 3 ?_); refine wpList_al _ rfl _ rfl _ zero_hash ?_; intro w2 g2 hg2 hl2 B2 b2)
        | ((with_reducible refine at_st 3 ?_); refine wpList_sto _ rfl _ _ _ rfl g2 _ (B z32) rfl rfl B2 (by kernel_rfl) rfl (B_one _) ?_; intro w3 B3 r3; have q3 := below_row b2 r3 hg2; have B4 := B1.grow q3; have ck := HF.out.kd _ _ _ B4; have c3 := grow_trans b1 q3)
        | ((with_reducible refine at_bdd 53 ?_); refine wpList_bldg _ rfl _ _ rfl _ (by rw [List.map_toArray]; exact HBp.out) ?_)
        | ((with_reducible refine at_bdd 11 ?_); refine wpList_bldg _ rfl _ _ rfl _ (by rw [List.map_toArray]; exact HBp.out) ?_)
        | ((with_reducible refine at_ldd 10 9 ?_); refine wpList_ldmg _ rfl _ _ rfl g1 1 _ _ a rfl B4 HF.out.sa _ _ Tryd.underlying24 HF.out.la ?_)
        | ((with_reducible refine at_ldd 52 51 ?_); refine wpList_ldmg _ rfl _ _ rfl g1 1 _ _ a rfl B4 HF.out.sa _ _ Tryd.underlying24 HF.out.la ?_)
        | ((with_reducible refine at_ldd 16 15 ?_); refine wpList_ldmg _ rfl _ _ rfl g1 33 _ _ b rfl B4 HF.out.sb _ _ Tryd.underlying23 HF.out.lb ?_)
        | ((with_reducible refine at_ldd 58 57 ?_); refine wpList_ldmg _ rfl _ _ rfl g1 33 _ _ b rfl B4 HF.out.sb _ _ Tryd.underlying23 HF.out.lb ?_)
        | ((with_reducible refine at_ldd 22 21 ?_); refine wpList_ldmg _ rfl _ _ rfl g1 65 _ _ c rfl B4 HF.out.sc _ _ Tryd.underlying23 HF.out.lc ?_)
        | ((with_reducible refine at_ldd 37 36 ?_); refine wpList_ldmg _ rfl _ _ rfl g1 65 _ _ c rfl B4 HF.out.sc _ _ Tryd.underlying23 HF.out.lc ?_)
        | ((with_reducible refine at_ldd 28 27 ?_); refine wpList_ldmg _ rfl _ _ rfl g1 97 _ _ d rfl B4 HF.out.sd _ _ Tryd.underlying23 HF.out.ld ?_)
        | ((with_reducible refine at_ldd 43 42 ?_); refine wpList_ldmg _ rfl _ _ rfl g1 97 _ _ d rfl B4 HF.out.sd _ _ Tryd.underlying23 HF.out.ld ?_)
        | ((with_reducible refine at_ldd 17 3 ?_); refine wpList_ldg _ rfl _ _ rfl g2 _ rfl B3 _ _ Tryd.underlying23 (by kernel_rfl) ?_)
        | ((with_reducible refine at_ldd 23 3 ?_); refine wpList_ldg _ rfl _ _ rfl g2 _ rfl B3 _ _ Tryd.underlying23 (by kernel_rfl) ?_)
        | ((with_reducible refine at_ldd 29 3 ?_); refine wpList_ldg _ rfl _ _ rfl g2 _ rfl B3 _ _ Tryd.underlying23 (by kernel_rfl) ?_)
        | ((with_reducible refine at_ldd 38 3 ?_); refine wpList_ldg _ rfl _ _ rfl g2 _ rfl B3 _ _ Tryd.underlying23 (by kernel_rfl) ?_)
        | ((with_reducible refine at_ldd 44 3 ?_); refine wpList_ldg _ rfl _ _ rfl g2 _ rfl B3 _ _ Tryd.underlying23 (by kernel_rfl) ?_)
        | ((with_reducible refine at_ldd 59 3 ?_); refine wpList_ldg _ rfl _ _ rfl g2 _ rfl B3 _ _ Tryd.underlying23 (by kernel_rfl) ?_))
      go_ret
      exact ⟨rfl, c3⟩
    | true =>
      cases fb with
      | false =>
        have hr2 : r = 2 := by simpa using hr
        subst hr2
        clear hr
        go_enter Tryd.func34, Tryd.ntmps34
        go_wp2_with (first
          | ((with_reducible refine at_bxd 1 ?_); refine wpList_bx _ rfl _ _ rfl _ rfl ?_; intro w1 g1 hg1 hl1 B1 b1)
          | ((with_reducible refine at_bdd 4 ?_); refine wpList_bld _ rfl _ _ rfl _ (by rw [List.map_toArray]; exact HBh.out) ?_)
          | ((with_reducible refine at_ald 3 ?_); refine wpList_al _ rfl _ rfl _ zero_hash ?_; intro w2 g2 hg2 hl2 B2 b2)
          | ((with_reducible refine at_st 3 ?_); refine wpList_sto _ rfl _ _ _ rfl g2 _ (B z32) rfl rfl B2 (by kernel_rfl) rfl (B_one _) ?_; intro w3 B3 r3; have q3 := below_row b2 r3 hg2; have B4 := B1.grow q3; have ck := HF.out.kd _ _ _ B4; have c3 := grow_trans b1 q3)
          | ((with_reducible refine at_bdd 53 ?_); refine wpList_bldg _ rfl _ _ rfl _ (by rw [List.map_toArray]; exact HBp.out) ?_)
          | ((with_reducible refine at_bdd 11 ?_); refine wpList_bldg _ rfl _ _ rfl _ (by rw [List.map_toArray]; exact HBp.out) ?_)
          | ((with_reducible refine at_ldd 10 9 ?_); refine wpList_ldmg _ rfl _ _ rfl g1 1 _ _ a rfl B4 HF.out.sa _ _ Tryd.underlying24 HF.out.la ?_)
          | ((with_reducible refine at_ldd 52 51 ?_); refine wpList_ldmg _ rfl _ _ rfl g1 1 _ _ a rfl B4 HF.out.sa _ _ Tryd.underlying24 HF.out.la ?_)
          | ((with_reducible refine at_ldd 16 15 ?_); refine wpList_ldmg _ rfl _ _ rfl g1 33 _ _ b rfl B4 HF.out.sb _ _ Tryd.underlying23 HF.out.lb ?_)
          | ((with_reducible refine at_ldd 58 57 ?_); refine wpList_ldmg _ rfl _ _ rfl g1 33 _ _ b rfl B4 HF.out.sb _ _ Tryd.underlying23 HF.out.lb ?_)
          | ((with_reducible refine at_ldd 22 21 ?_); refine wpList_ldmg _ rfl _ _ rfl g1 65 _ _ c rfl B4 HF.out.sc _ _ Tryd.underlying23 HF.out.lc ?_)
          | ((with_reducible refine at_ldd 37 36 ?_); refine wpList_ldmg _ rfl _ _ rfl g1 65 _ _ c rfl B4 HF.out.sc _ _ Tryd.underlying23 HF.out.lc ?_)
          | ((with_reducible refine at_ldd 28 27 ?_); refine wpList_ldmg _ rfl _ _ rfl g1 97 _ _ d rfl B4 HF.out.sd _ _ Tryd.underlying23 HF.out.ld ?_)
          | ((with_reducible refine at_ldd 43 42 ?_); refine wpList_ldmg _ rfl _ _ rfl g1 97 _ _ d rfl B4 HF.out.sd _ _ Tryd.underlying23 HF.out.ld ?_)
          | ((with_reducible refine at_ldd 17 3 ?_); refine wpList_ldg _ rfl _ _ rfl g2 _ rfl B3 _ _ Tryd.underlying23 (by kernel_rfl) ?_)
          | ((with_reducible refine at_ldd 23 3 ?_); refine wpList_ldg _ rfl _ _ rfl g2 _ rfl B3 _ _ Tryd.underlying23 (by kernel_rfl) ?_)
          | ((with_reducible refine at_ldd 29 3 ?_); refine wpList_ldg _ rfl _ _ rfl g2 _ rfl B3 _ _ Tryd.underlying23 (by kernel_rfl) ?_)
          | ((with_reducible refine at_ldd 38 3 ?_); refine wpList_ldg _ rfl _ _ rfl g2 _ rfl B3 _ _ Tryd.underlying23 (by kernel_rfl) ?_)
          | ((with_reducible refine at_ldd 44 3 ?_); refine wpList_ldg _ rfl _ _ rfl g2 _ rfl B3 _ _ Tryd.underlying23 (by kernel_rfl) ?_)
          | ((with_reducible refine at_ldd 59 3 ?_); refine wpList_ldg _ rfl _ _ rfl g2 _ rfl B3 _ _ Tryd.underlying23 (by kernel_rfl) ?_))
        go_ret
        exact ⟨rfl, c3⟩
      | true =>
        have hr2 : r = 0 := by simpa using hr
        subst hr2
        clear hr
        go_enter Tryd.func34, Tryd.ntmps34
        go_wp2_with (first
          | ((with_reducible refine at_bxd 1 ?_); refine wpList_bx _ rfl _ _ rfl _ rfl ?_; intro w1 g1 hg1 hl1 B1 b1)
          | ((with_reducible refine at_bdd 4 ?_); refine wpList_bld _ rfl _ _ rfl _ (by rw [List.map_toArray]; exact HBh.out) ?_)
          | ((with_reducible refine at_ald 3 ?_); refine wpList_al _ rfl _ rfl _ zero_hash ?_; intro w2 g2 hg2 hl2 B2 b2)
          | ((with_reducible refine at_st 3 ?_); refine wpList_sto _ rfl _ _ _ rfl g2 _ (B z32) rfl rfl B2 (by kernel_rfl) rfl (B_one _) ?_; intro w3 B3 r3; have q3 := below_row b2 r3 hg2; have B4 := B1.grow q3; have ck := HF.out.kd _ _ _ B4; have c3 := grow_trans b1 q3)
          | ((with_reducible refine at_bdd 53 ?_); refine wpList_bldg _ rfl _ _ rfl _ (by rw [List.map_toArray]; exact HBp.out) ?_)
          | ((with_reducible refine at_bdd 11 ?_); refine wpList_bldg _ rfl _ _ rfl _ (by rw [List.map_toArray]; exact HBp.out) ?_)
          | ((with_reducible refine at_ldd 10 9 ?_); refine wpList_ldmg _ rfl _ _ rfl g1 1 _ _ a rfl B4 HF.out.sa _ _ Tryd.underlying24 HF.out.la ?_)
          | ((with_reducible refine at_ldd 52 51 ?_); refine wpList_ldmg _ rfl _ _ rfl g1 1 _ _ a rfl B4 HF.out.sa _ _ Tryd.underlying24 HF.out.la ?_)
          | ((with_reducible refine at_ldd 16 15 ?_); refine wpList_ldmg _ rfl _ _ rfl g1 33 _ _ b rfl B4 HF.out.sb _ _ Tryd.underlying23 HF.out.lb ?_)
          | ((with_reducible refine at_ldd 58 57 ?_); refine wpList_ldmg _ rfl _ _ rfl g1 33 _ _ b rfl B4 HF.out.sb _ _ Tryd.underlying23 HF.out.lb ?_)
          | ((with_reducible refine at_ldd 22 21 ?_); refine wpList_ldmg _ rfl _ _ rfl g1 65 _ _ c rfl B4 HF.out.sc _ _ Tryd.underlying23 HF.out.lc ?_)
          | ((with_reducible refine at_ldd 37 36 ?_); refine wpList_ldmg _ rfl _ _ rfl g1 65 _ _ c rfl B4 HF.out.sc _ _ Tryd.underlying23 HF.out.lc ?_)
          | ((with_reducible refine at_ldd 28 27 ?_); refine wpList_ldmg _ rfl _ _ rfl g1 97 _ _ d rfl B4 HF.out.sd _ _ Tryd.underlying23 HF.out.ld ?_)
          | ((with_reducible refine at_ldd 43 42 ?_); refine wpList_ldmg _ rfl _ _ rfl g1 97 _ _ d rfl B4 HF.out.sd _ _ Tryd.underlying23 HF.out.ld ?_)
          | ((with_reducible refine at_ldd 17 3 ?_); refine wpList_ldg _ rfl _ _ rfl g2 _ rfl B3 _ _ Tryd.underlying23 (by kernel_rfl) ?_)
          | ((with_reducible refine at_ldd 23 3 ?_); refine wpList_ldg _ rfl _ _ rfl g2 _ rfl B3 _ _ Tryd.underlying23 (by kernel_rfl) ?_)
          | ((with_reducible refine at_ldd 29 3 ?_); refine wpList_ldg _ rfl _ _ rfl g2 _ rfl B3 _ _ Tryd.underlying23 (by kernel_rfl) ?_)
          | ((with_reducible refine at_ldd 38 3 ?_); refine wpList_ldg _ rfl _ _ rfl g2 _ rfl B3 _ _ Tryd.underlying23 (by kernel_rfl) ?_)
          | ((with_reducible refine at_ldd 44 3 ?_); refine wpList_ldg _ rfl _ _ rfl g2 _ rfl B3 _ _ Tryd.underlying23 (by kernel_rfl) ?_)
          | ((with_reducible refine at_ldd 59 3 ?_); refine wpList_ldg _ rfl _ _ rfl g2 _ rfl B3 _ _ Tryd.underlying23 (by kernel_rfl) ?_))
        go_ret
        exact ⟨rfl, c3⟩
  · have k0 : (k == 0) = false := by simp [h0]
    have k1 : (k == 1) = false := by simp [h1]
    have k2 : (k == 2) = false := by simp [h2]
    subst hr
    clear h0 h1 h2
    go_enter Tryd.func34, Tryd.ntmps34
    go_wp2_with (first
      | ((with_reducible refine at_bxd 1 ?_); refine wpList_bx _ rfl _ _ rfl _ rfl ?_; intro w1 g1 hg1 hl1 B1 b1)
      | ((with_reducible refine at_bdd 4 ?_); refine wpList_bld _ rfl _ _ rfl _ (by rw [List.map_toArray]; exact HBh.out) ?_)
      | ((with_reducible refine at_ald 3 ?_); refine wpList_al _ rfl _ rfl _ zero_hash ?_; intro w2 g2 hg2 hl2 B2 b2)
      | ((with_reducible refine at_st 3 ?_); refine wpList_sto _ rfl _ _ _ rfl g2 _ (B z32) rfl rfl B2 (by kernel_rfl) rfl (B_one _) ?_; intro w3 B3 r3; have q3 := below_row b2 r3 hg2; have B4 := B1.grow q3; have ck := HF.out.kd _ _ _ B4; have c3 := grow_trans b1 q3)
      | ((with_reducible refine at_bdd 53 ?_); refine wpList_bldg _ rfl _ _ rfl _ (by rw [List.map_toArray]; exact HBp.out) ?_)
      | ((with_reducible refine at_bdd 11 ?_); refine wpList_bldg _ rfl _ _ rfl _ (by rw [List.map_toArray]; exact HBp.out) ?_)
      | ((with_reducible refine at_ldd 10 9 ?_); refine wpList_ldmg _ rfl _ _ rfl g1 1 _ _ a rfl B4 HF.out.sa _ _ Tryd.underlying24 HF.out.la ?_)
      | ((with_reducible refine at_ldd 52 51 ?_); refine wpList_ldmg _ rfl _ _ rfl g1 1 _ _ a rfl B4 HF.out.sa _ _ Tryd.underlying24 HF.out.la ?_)
      | ((with_reducible refine at_ldd 16 15 ?_); refine wpList_ldmg _ rfl _ _ rfl g1 33 _ _ b rfl B4 HF.out.sb _ _ Tryd.underlying23 HF.out.lb ?_)
      | ((with_reducible refine at_ldd 58 57 ?_); refine wpList_ldmg _ rfl _ _ rfl g1 33 _ _ b rfl B4 HF.out.sb _ _ Tryd.underlying23 HF.out.lb ?_)
      | ((with_reducible refine at_ldd 22 21 ?_); refine wpList_ldmg _ rfl _ _ rfl g1 65 _ _ c rfl B4 HF.out.sc _ _ Tryd.underlying23 HF.out.lc ?_)
      | ((with_reducible refine at_ldd 37 36 ?_); refine wpList_ldmg _ rfl _ _ rfl g1 65 _ _ c rfl B4 HF.out.sc _ _ Tryd.underlying23 HF.out.lc ?_)
      | ((with_reducible refine at_ldd 28 27 ?_); refine wpList_ldmg _ rfl _ _ rfl g1 97 _ _ d rfl B4 HF.out.sd _ _ Tryd.underlying23 HF.out.ld ?_)
      | ((with_reducible refine at_ldd 43 42 ?_); refine wpList_ldmg _ rfl _ _ rfl g1 97 _ _ d rfl B4 HF.out.sd _ _ Tryd.underlying23 HF.out.ld ?_)
      | ((with_reducible refine at_ldd 17 3 ?_); refine wpList_ldg _ rfl _ _ rfl g2 _ rfl B3 _ _ Tryd.underlying23 (by kernel_rfl) ?_)
      | ((with_reducible refine at_ldd 23 3 ?_); refine wpList_ldg _ rfl _ _ rfl g2 _ rfl B3 _ _ Tryd.underlying23 (by kernel_rfl) ?_)
      | ((with_reducible refine at_ldd 29 3 ?_); refine wpList_ldg _ rfl _ _ rfl g2 _ rfl B3 _ _ Tryd.underlying23 (by kernel_rfl) ?_)
      | ((with_reducible refine at_ldd 38 3 ?_); refine wpList_ldg _ rfl _ _ rfl g2 _ rfl B3 _ _ Tryd.underlying23 (by kernel_rfl) ?_)
      | ((with_reducible refine at_ldd 44 3 ?_); refine wpList_ldg _ rfl _ _ rfl g2 _ rfl B3 _ _ Tryd.underlying23 (by kernel_rfl) ?_)
      | ((with_reducible refine at_ldd 59 3 ?_); refine wpList_ldg _ rfl _ _ rfl g2 _ rfl B3 _ _ Tryd.underlying23 (by kernel_rfl) ?_))
    go_ret
    exact ⟨rfl, c3⟩

theorem refCheck_any (k : Int) (a b c d : List Int) (w : World) (h : Nd k a b c d) : Calls Tryd.prog 34 #[.agg (B (nd k a b c d))] w fun e w' => e = .returned (.int .i64 (okE k a b c d)) ∧ Below w.heap.size w w' := by
  refine rcheck_core k a b c d w h _ _ _ _ (okE k a b c d) rfl rfl rfl rfl ?_
  unfold okE okN
  by_cases h0 : k = 0
  · exact .inl ⟨h0, by simp [h0, and_assoc]⟩
  · by_cases h1 : k = 1
    · exact .inr (.inl ⟨h1, by simp [h1]⟩)
    · by_cases h2 : k = 2
      · exact .inr (.inr (.inl ⟨h2, by simp [h2]⟩))
      · exact .inr (.inr (.inr ⟨h0, h1, h2, by simp [h0, h1, h2]⟩))

end Go.Proofs.YtpihigcnoifcfaaDoor

/- Leaves: a key and its value's digest; their order; where they part; the root of a list of leaves. No program in this text. -/
namespace Go.Proofs.YtpihigcnoifcfaaDoor
set_option maxRecDepth 20000
open Go.RowKit

structure Lf where
  key : List Int
  val : List Int
  hk : Key key
  hl : val.length = 32
  hb : Bytes val

instance : Inhabited Lf := ⟨⟨z32, z32, ⟨rfl, z32_bytes⟩, rfl, z32_bytes⟩⟩

theorem Lf.nd (x : Lf) : Nd 1 x.key x.val z32 z32 := ⟨by omega, by omega, x.hk.1, x.hl, rfl, rfl, x.hk.2, x.hb, z32_bytes, z32_bytes⟩
def Lf.ints (x : Lf) : List Int := Go.Proofs.YtpihigcnoifcfaaDoor.nd 1 x.key x.val z32 z32
theorem Lf.ints_length (x : Lf) : x.ints.length = 129 := x.nd.length
def encLf (x : Lf) : List Value := x.ints.map (Value.int .u8)
theorem encLf_length (x : Lf) : (encLf x).length = 129 := by simp [encLf, x.ints_length]
theorem encLf_one (x : Lf) : ∀ v ∈ encLf x, v.oneCell' = true := fun v hv => by
  obtain ⟨z, _, rfl⟩ := List.mem_map.1 hv
  rfl
theorem encLf_array (x : Lf) : (encLf x).toArray = B (Go.Proofs.YtpihigcnoifcfaaDoor.nd 1 x.key x.val z32 z32) := rfl

def cfLf (x y : Lf) : Int := cmp x.key y.key

theorem Ahead.trans {a b c : List Int} (h : Ahead a b) (k : Ahead b c) : Ahead a c := by
  obtain ⟨i, hi, h1, h2, h3⟩ := h
  obtain ⟨j, hj, k1, k2, k3⟩ := k
  rcases Nat.lt_trichotomy i j with e | e | e
  · exact ⟨i, hi, fun q hq => (h1 q hq).trans (k1 q (by omega)), h2, by rw [← k1 i e]; exact h3⟩
  · subst e
    omega
  · exact ⟨j, hj, fun q hq => (h1 q (by omega)).trans (k1 q hq), by rw [h1 j e]; exact k2, k3⟩
theorem Ahead.irrefl (a : List Int) : ¬ Ahead a a := fun ⟨_, _, _, h2, h3⟩ => by omega
theorem ahead_total {a b : List Int} (ha : Key a) (hb : Key b) (h : ¬ Ahead a b) : a = b ∨ Ahead b a := by
  rcases cmp_key ha hb with ⟨_, e⟩ | ⟨_, e⟩ | ⟨_, e⟩
  · exact .inl e
  · exact absurd e h
  · exact .inr e

theorem cfLf_lt (x y : Lf) : decide (cfLf x y < 0) = true ↔ Ahead x.key y.key := by
  rw [decide_eq_true_iff]
  exact cmp_lt x.hk y.hk

theorem swoLf : Go.Sort.SWO (fun x y : Lf => decide (cfLf x y < 0)) where
  irrefl x := by
    rw [← Bool.not_eq_true, cfLf_lt]
    exact Ahead.irrefl _
  trans x y z h1 h2 := by
    rw [cfLf_lt] at *
    exact h1.trans h2
  ntrans x y z h1 h2 := by
    rw [← Bool.not_eq_true, cfLf_lt] at *
    intro h3
    rcases ahead_total x.hk y.hk h1 with e | e
    · rw [e] at h3
      exact h2 h3
    · exact h2 (e.trans h3)

/-- Rising, by key. -/
def Rise (l : List Lf) : Prop := l.Pairwise fun a b => Ahead a.key b.key
theorem Rise.sub {l m : List Lf} (h : Rise l) (k : m.Sublist l) : Rise m := h.sublist k

/-- All keys have the same first d bits. -/
def Same (l : List Lf) (d : Nat) : Prop := ∀ a ∈ l, ∀ b ∈ l, ∀ j, j < d → kb a.key j = kb b.key j
theorem Same.sub {l m : List Lf} {d : Nat} (h : Same l d) (k : ∀ x ∈ m, x ∈ l) : Same m d := fun a ha b hb j hj => h a (k a ha) b (k b hb) j hj

def sdL (l : List Lf) (d : Nat) (b : Int) : List Lf := l.filter fun x => kb x.key d == b
theorem Same.side {l : List Lf} {d : Nat} (b : Int) (h : Same l d) : Same (sdL l d b) (d + 1) := by
  intro x hx y hy j hj
  unfold sdL at hx hy
  rw [List.mem_filter, beq_iff_eq] at hx hy
  by_cases e : j = d
  · rw [e, hx.2, hy.2]
  · exact h x hx.1 y hy.1 j (by omega)
theorem Rise.side {l : List Lf} (d : Nat) (b : Int) (h : Rise l) : Rise (sdL l d b) := h.sub List.filter_sublist

theorem kb_bit (a : List Int) (d : Nat) : kb a d = 0 ∨ kb a d = 1 := by
  unfold kb bt
  omega

/-- As they rise and have the same first d bits, those whose bit d is 0 stand ahead. -/
theorem part_at : ∀ (l : List Lf) (d : Nat), d < 256 → Rise l → Same l d → l.take (l.countP fun x => !(kb x.key d == 1)) = sdL l d 0 ∧ l.drop (l.countP fun x => !(kb x.key d == 1)) = sdL l d 1
  | [], d, _, _, _ => ⟨rfl, rfl⟩
  | a :: r, d, hd, hr, hs => by
    have hr' : Rise r := (List.pairwise_cons.1 hr).2
    have hs' : Same r d := hs.sub fun x hx => by simp [hx]
    obtain ⟨i1, i2⟩ := part_at r d hd hr' hs'
    rcases kb_bit a.key d with e | e
    · have e1 : (kb a.key d == 1) = false := by simp [e]
      have e0 : (kb a.key d == 0) = true := by simp [e]
      rw [List.countP_cons_of_pos (by simp [e1])]
      constructor
      · rw [List.take_succ_cons, i1]
        unfold sdL
        rw [List.filter_cons_of_pos (p := fun x : Lf => kb x.key d == 0) e0]
      · rw [List.drop_succ_cons, i2]
        unfold sdL
        rw [List.filter_cons_of_neg (by simp [e1])]
    · have hall : ∀ x ∈ r, kb x.key d = 1 := by
        intro x hx
        rcases kb_bit x.key d with q | q
        · have h1 : Ahead x.key a.key := ⟨d, hd, fun j hj => hs x (by simp [hx]) a (by simp) j hj, q, e⟩
          exact absurd (((List.pairwise_cons.1 hr).1 x hx).trans h1) (Ahead.irrefl _)
        · exact q
      have e1 : (kb a.key d == 1) = true := by simp [e]
      have hc : (a :: r).countP (fun x => !(kb x.key d == 1)) = 0 := by
        rw [List.countP_eq_zero]
        intro x hx
        rcases List.mem_cons.1 hx with rfl | hx
        · simp [e1]
        · simp [hall x hx]
      rw [hc]
      constructor
      · rw [List.take_zero]
        symm
        unfold sdL
        rw [List.filter_eq_nil_iff]
        intro x hx
        rcases List.mem_cons.1 hx with rfl | hx
        · simp [e]
        · simp [hall x hx]
      · rw [List.drop_zero]
        symm
        unfold sdL
        rw [List.filter_eq_self]
        intro x hx
        rcases List.mem_cons.1 hx with rfl | hx
        · exact e1
        · simp [hall x hx]

/-- Once one bit is 1, all behind it are. -/
theorem part_mono (l : List Lf) (d : Nat) (hd : d < 256) (hr : Rise l) (hs : Same l d) : ∀ a b, a ≤ b → b < l.length → (kb l[a]!.key d == 1) = true → (kb l[b]!.key d == 1) = true := by
  intro a b hab hb h1
  rcases Nat.lt_or_eq_of_le hab with e | e
  · have ha : a < l.length := by omega
    rw [getElem!_pos l a ha] at h1
    rw [getElem!_pos l b hb]
    have hA := List.pairwise_iff_getElem.1 hr a b ha hb e
    rcases kb_bit l[b].key d with q | q
    · have h2 : Ahead l[b].key l[a].key := ⟨d, hd, fun j hj => hs _ (List.getElem_mem hb) _ (List.getElem_mem ha) j hj, q, by simpa using h1⟩
      exact absurd (hA.trans h2) (Ahead.irrefl _)
    · simp [q]
  · rw [← e]
    exact h1

/-- The root of leaves at the depth d; n: how many depths are left. -/
def rtL : Nat → Nat → List Lf → List Int
  | _, _, [] => emD
  | _, _, [x] => lfD x.key x.val
  | 0, _, _ :: _ :: _ => inD emD emD
  | n + 1, d, a :: b :: l => inD (rtL n (d + 1) (sdL (a :: b :: l) d 0)) (rtL n (d + 1) (sdL (a :: b :: l) d 1))
theorem rtL_nil (n d : Nat) : rtL n d [] = emD := by cases n <;> rfl
theorem rtL_one (n d : Nat) (x : Lf) : rtL n d [x] = lfD x.key x.val := by cases n <;> rfl
theorem rtL_more (n d : Nat) (l : List Lf) (h : 2 ≤ l.length) : rtL (n + 1) d l = inD (rtL n (d + 1) (sdL l d 0)) (rtL n (d + 1) (sdL l d 1)) := by
  match l, h with
  | a :: b :: l, _ => rfl

theorem rtL_perm : ∀ (n d : Nat) (l m : List Lf), l.Perm m → rtL n d l = rtL n d m := by
  intro n
  induction n with
  | zero =>
    intro d l m h
    match l, m, h with
    | [], m, h => rw [List.nil_perm.1 h]
    | [e], m, h => rw [List.singleton_perm.1 h]
    | a :: b :: l, [], h => exact absurd h.length_eq (by simp)
    | a :: b :: l, [e], h => exact absurd h.length_eq (by simp)
    | a :: b :: l, c :: d :: m, h => rfl
  | succ n ih =>
    intro d l m h
    match l, m, h with
    | [], m, h => rw [List.nil_perm.1 h]
    | [e], m, h => rw [List.singleton_perm.1 h]
    | a :: b :: l, m, h =>
      have h2 : 2 ≤ m.length := by rw [← h.length_eq]; simp
      have hs : ∀ c, (sdL (a :: b :: l) d c).Perm (sdL m d c) := fun c => h.filter _
      rw [rtL_more n d _ (by simp), rtL_more n d m h2, ih (d + 1) _ _ (hs 0), ih (d + 1) _ _ (hs 1)]

/-- Leaves with the same 256 bits that rise are one at most. -/
theorem Rise.few {l : List Lf} (h : Rise l) (hs : Same l 256) : l.length ≤ 1 := by
  match l, h, hs with
  | [], _, _ => simp
  | [x], _, _ => simp
  | a :: b :: r, h, hs =>
    obtain ⟨c, hc, h1, h2, h3⟩ := (List.pairwise_cons.1 h).1 b (by simp)
    have := hs a (by simp) b (by simp) c hc
    omega

theorem dig_by (l : List Int) : Bytes (dig l) := dig_bytes l

instance (xs : List Int) : Decidable (Key xs) := inferInstanceAs (Decidable (xs.length = 32 ∧ ∀ z ∈ xs, 0 ≤ z ∧ z ≤ 255))

/-- An entry's leaf. -/
def mkLf (e : Ent) : Lf := if h : Key e.1 then ⟨e.1, vaD e.2, h, dig_length _, dig_by _⟩ else default
theorem mkLf_key {e : Ent} (h : Key e.1) : (mkLf e).key = e.1 := by rw [mkLf, dif_pos h]
theorem mkLf_val {e : Ent} (h : Key e.1) : (mkLf e).val = vaD e.2 := by rw [mkLf, dif_pos h]

theorem side_map (l : List Ent) (d : Nat) (b : Int) (hd : d < 256) (hk : ∀ e ∈ l, Key e.1) : sdL (l.map mkLf) d b = (sideOf l d b).map mkLf := by
  unfold sdL sideOf
  rw [List.filter_map]
  congr 1
  apply List.filter_congr
  intro e he
  simp only [Function.comp]
  rw [mkLf_key (hk e he), kbi_in _ _ hd]

theorem rt_map : ∀ (n d : Nat) (l : List Ent), d + n = 256 → (∀ e ∈ l, Key e.1) → rtL n d (l.map mkLf) = rt n d l := by
  intro n
  induction n with
  | zero =>
    intro d l _ hk
    match l, hk with
    | [], _ => rfl
    | [e], hk => rw [List.map_singleton, rtL_one, rt_one, enD, mkLf_key (hk e (by simp)), mkLf_val (hk e (by simp))]
    | a :: b :: l, _ => rfl
  | succ n ih =>
    intro d l hd hk
    match l, hk with
    | [], _ => rfl
    | [e], hk => rw [List.map_singleton, rtL_one, rt_one, enD, mkLf_key (hk e (by simp)), mkLf_val (hk e (by simp))]
    | a :: b :: l, hk =>
      have hs : ∀ c, ∀ e ∈ sideOf (a :: b :: l) d c, Key e.1 := fun c e he => hk e (List.mem_filter.1 he).1
      rw [rtL_more n d _ (by simp), rt_more n d _ (by simp), side_map _ d 0 (by omega) hk, side_map _ d 1 (by omega) hk, ih (d + 1) _ (by omega) (hs 0), ih (d + 1) _ (by omega) (hs 1)]

end Go.Proofs.YtpihigcnoifcfaaDoor
