/- The document's Check, Encode, Digest of nodes, as contracts. -/
import Derived.Test.YtjcklpdifanjlaaDoorCd16
import Derived.Test.YtjcklpdifanjlaaDoorCd19
namespace Go.Proofs.YtjcklpdifanjlaaDoor
set_option maxRecDepth 20000
open Go.RowKit

theorem wpList_ldmg {ops : Array Oper} {rest : List Oper} {op : Oper} {a : Act} {Q : Exit → Act → World → Prop} (w : World) (hgd : Region.wanted op (yielded ops a.tmps) = true) (x : Operand) (ty : TypeId) (ho : op.op = .load ty x)
    (g o : Nat) (t : TypeId) (zs xs : List Int) (hx : a.eval x = .pointer (some ⟨g, o, none⟩)) (h : Blk w g t (B zs)) (hs : Seg zs o xs) (n : Nat) (e : TypeId) (hu : Tryd.prog.underlying ty = some (.array n e)) (hi : (Tryd.prog.info? ty).map (·.size) = some xs.length)
    (hk : wpList Tryd.prog ops Q rest (a.put op.dst (.agg (B xs))) w) : wpList Tryd.prog ops Q (op :: rest) a w :=
  BigFrame.wpList_want hgd fun _ hK => wp_load_mid ty x ho g o hx (xs.map (Value.int .u8)) _ (hs.range h) hu rfl (by rw [hi]; simp) (hK _ _ hk)

theorem wpList_bldg {ops : Array Oper} {rest : List Oper} {op : Oper} {a : Act} {Q : Exit → Act → World → Prop} (w : World) (hgd : Region.wanted op (yielded ops a.tmps) = true) (ty : TypeId) (parts : Array (Nat × Operand)) (ho : op.op = .build ty parts)
    (cs : Array Value) (h : Tryd.prog.built ty (parts.map fun (i, x) => (i, a.eval x)).toList = some cs)
    (hk : wpList Tryd.prog ops Q rest (a.put op.dst (.agg cs)) w) : wpList Tryd.prog ops Q (op :: rest) a w := by
  refine BigFrame.wpList_want hgd fun K hK => ?_
  unfold Oper.wp execOp
  simp only [ho, Sem.run_bind, run_build w ty _ cs h, Result.andThen_ok, Sem.run_pure]
  exact hK _ _ hk

theorem built_path : Tryd.prog.built 24 [] = some (B z32) := by kernel_rfl

set_option maxHeartbeats 4000000 in
theorem rcheck_core (k : Int) (a b c d : List Int) (w : World) (h : Nd k a b c d) (fa fb fc fd : Bool) (r : Int) (ea : decide (a = z32) = fa) (eb : decide (b = z32) = fb) (ec : decide (c = z32) = fc) (ed : decide (d = z32) = fd)
    (hr : (k = 0 ∧ r = if (fa && fb && fc && fd) = true then 0 else 2) ∨ (k = 1 ∧ r = if (fc && fd) = true then 0 else 2) ∨ (k = 2 ∧ r = if (fa && fb) = true then 0 else 2) ∨ (k ≠ 0 ∧ k ≠ 1 ∧ k ≠ 2 ∧ r = 2)) :
    Calls Tryd.prog 16 #[.agg (B (nd k a b c d))] w fun e w' => e = .returned (.int .i64 r) ∧ Below w.heap.size w w' := by
  have HF := hidden h.facts
  have HBh : Hid (Tryd.prog.built 25 [] = some (B z32)) := built_hash
  have HBp : Hid (Tryd.prog.built 24 [] = some (B z32)) := built_path
  have qa : ∀ w, (Op.equalIn 10000 24 (.agg (B a)) (.agg (B z32))).run Tryd.prog w = .ok fa w := fun w => by rw [← ea]; exact path_eq a z32 h.la rfl w
  have qb : ∀ w, (Op.equalIn 10000 25 (.agg (B b)) (.agg (B z32))).run Tryd.prog w = .ok fb w := fun w => by rw [← eb]; exact hash_eq b z32 h.lb rfl w
  have qc : ∀ w, (Op.equalIn 10000 25 (.agg (B c)) (.agg (B z32))).run Tryd.prog w = .ok fc w := fun w => by rw [← ec]; exact hash_eq c z32 h.lc rfl w
  have qd : ∀ w, (Op.equalIn 10000 25 (.agg (B d)) (.agg (B z32))).run Tryd.prog w = .ok fd w := fun w => by rw [← ed]; exact hash_eq d z32 h.ld rfl w
  obtain ⟨N, hN⟩ : ∃ N, N = nd k a b c d := ⟨_, rfl⟩
  rw [← hN] at HF ⊢
  clear h hN ea eb ec ed
  rcases hr with ⟨hk, hr⟩ | ⟨hk, hr⟩ | ⟨hk, hr⟩ | ⟨h0, h1, h2, hr⟩
  · have k0 : (k == 0) = true := by simp [hk]
    have k1 : (k == 1) = false := by simp [hk]
    have k2 : (k == 2) = false := by simp [hk]
    clear hk
    cases fa with
    | false =>
      have hr2 : r = 2 := by simpa using hr
      subst hr2
      clear hr
      go_enter Tryd.func16, Tryd.ntmps16
      go_wp2_with (first
        | ((with_reducible refine at_bxd 1 ?_); refine wpList_bx _ rfl _ _ rfl _ rfl ?_; intro w1 g1 hg1 hl1 B1 b1)
        | ((with_reducible refine at_bdd 4 ?_); refine wpList_bld _ rfl _ _ rfl _ (by rw [List.map_toArray]; exact HBh.out) ?_)
        | ((with_reducible refine at_ald 3 ?_); refine wpList_al _ rfl _ rfl _ zero_hash ?_; intro w2 g2 hg2 hl2 B2 b2)
        | ((with_reducible refine at_st 3 ?_); refine wpList_sto _ rfl _ _ _ rfl g2 _ (B z32) rfl rfl B2 (by kernel_rfl) rfl (B_one _) ?_; intro w3 B3 r3; have q3 := below_row b2 r3 hg2; have B4 := B1.grow q3; have ck := HF.out.kd _ _ _ B4; have c3 := grow_trans b1 q3)
        | ((with_reducible refine at_bdd 53 ?_); refine wpList_bldg _ rfl _ _ rfl _ (by rw [List.map_toArray]; exact HBp.out) ?_)
        | ((with_reducible refine at_bdd 11 ?_); refine wpList_bldg _ rfl _ _ rfl _ (by rw [List.map_toArray]; exact HBp.out) ?_)
        | ((with_reducible refine at_ldd 10 9 ?_); refine wpList_ldmg _ rfl _ _ rfl g1 1 _ _ a rfl B4 HF.out.sa _ _ Tryd.underlying24 HF.out.la ?_)
        | ((with_reducible refine at_ldd 52 51 ?_); refine wpList_ldmg _ rfl _ _ rfl g1 1 _ _ a rfl B4 HF.out.sa _ _ Tryd.underlying24 HF.out.la ?_)
        | ((with_reducible refine at_ldd 16 15 ?_); refine wpList_ldmg _ rfl _ _ rfl g1 33 _ _ b rfl B4 HF.out.sb _ _ Tryd.underlying25 HF.out.lb ?_)
        | ((with_reducible refine at_ldd 58 57 ?_); refine wpList_ldmg _ rfl _ _ rfl g1 33 _ _ b rfl B4 HF.out.sb _ _ Tryd.underlying25 HF.out.lb ?_)
        | ((with_reducible refine at_ldd 22 21 ?_); refine wpList_ldmg _ rfl _ _ rfl g1 65 _ _ c rfl B4 HF.out.sc _ _ Tryd.underlying25 HF.out.lc ?_)
        | ((with_reducible refine at_ldd 37 36 ?_); refine wpList_ldmg _ rfl _ _ rfl g1 65 _ _ c rfl B4 HF.out.sc _ _ Tryd.underlying25 HF.out.lc ?_)
        | ((with_reducible refine at_ldd 28 27 ?_); refine wpList_ldmg _ rfl _ _ rfl g1 97 _ _ d rfl B4 HF.out.sd _ _ Tryd.underlying25 HF.out.ld ?_)
        | ((with_reducible refine at_ldd 43 42 ?_); refine wpList_ldmg _ rfl _ _ rfl g1 97 _ _ d rfl B4 HF.out.sd _ _ Tryd.underlying25 HF.out.ld ?_)
        | ((with_reducible refine at_ldd 17 3 ?_); refine wpList_ldg _ rfl _ _ rfl g2 _ rfl B3 _ _ Tryd.underlying25 (by kernel_rfl) ?_)
        | ((with_reducible refine at_ldd 23 3 ?_); refine wpList_ldg _ rfl _ _ rfl g2 _ rfl B3 _ _ Tryd.underlying25 (by kernel_rfl) ?_)
        | ((with_reducible refine at_ldd 29 3 ?_); refine wpList_ldg _ rfl _ _ rfl g2 _ rfl B3 _ _ Tryd.underlying25 (by kernel_rfl) ?_)
        | ((with_reducible refine at_ldd 38 3 ?_); refine wpList_ldg _ rfl _ _ rfl g2 _ rfl B3 _ _ Tryd.underlying25 (by kernel_rfl) ?_)
        | ((with_reducible refine at_ldd 44 3 ?_); refine wpList_ldg _ rfl _ _ rfl g2 _ rfl B3 _ _ Tryd.underlying25 (by kernel_rfl) ?_)
        | ((with_reducible refine at_ldd 59 3 ?_); refine wpList_ldg _ rfl _ _ rfl g2 _ rfl B3 _ _ Tryd.underlying25 (by kernel_rfl) ?_))
      go_ret
      exact ⟨rfl, c3⟩
    | true =>
      cases fb with
      | false =>
        have hr2 : r = 2 := by simpa using hr
        subst hr2
        clear hr
        go_enter Tryd.func16, Tryd.ntmps16
        go_wp2_with (first
          | ((with_reducible refine at_bxd 1 ?_); refine wpList_bx _ rfl _ _ rfl _ rfl ?_; intro w1 g1 hg1 hl1 B1 b1)
          | ((with_reducible refine at_bdd 4 ?_); refine wpList_bld _ rfl _ _ rfl _ (by rw [List.map_toArray]; exact HBh.out) ?_)
          | ((with_reducible refine at_ald 3 ?_); refine wpList_al _ rfl _ rfl _ zero_hash ?_; intro w2 g2 hg2 hl2 B2 b2)
          | ((with_reducible refine at_st 3 ?_); refine wpList_sto _ rfl _ _ _ rfl g2 _ (B z32) rfl rfl B2 (by kernel_rfl) rfl (B_one _) ?_; intro w3 B3 r3; have q3 := below_row b2 r3 hg2; have B4 := B1.grow q3; have ck := HF.out.kd _ _ _ B4; have c3 := grow_trans b1 q3)
          | ((with_reducible refine at_bdd 53 ?_); refine wpList_bldg _ rfl _ _ rfl _ (by rw [List.map_toArray]; exact HBp.out) ?_)
          | ((with_reducible refine at_bdd 11 ?_); refine wpList_bldg _ rfl _ _ rfl _ (by rw [List.map_toArray]; exact HBp.out) ?_)
          | ((with_reducible refine at_ldd 10 9 ?_); refine wpList_ldmg _ rfl _ _ rfl g1 1 _ _ a rfl B4 HF.out.sa _ _ Tryd.underlying24 HF.out.la ?_)
          | ((with_reducible refine at_ldd 52 51 ?_); refine wpList_ldmg _ rfl _ _ rfl g1 1 _ _ a rfl B4 HF.out.sa _ _ Tryd.underlying24 HF.out.la ?_)
          | ((with_reducible refine at_ldd 16 15 ?_); refine wpList_ldmg _ rfl _ _ rfl g1 33 _ _ b rfl B4 HF.out.sb _ _ Tryd.underlying25 HF.out.lb ?_)
          | ((with_reducible refine at_ldd 58 57 ?_); refine wpList_ldmg _ rfl _ _ rfl g1 33 _ _ b rfl B4 HF.out.sb _ _ Tryd.underlying25 HF.out.lb ?_)
          | ((with_reducible refine at_ldd 22 21 ?_); refine wpList_ldmg _ rfl _ _ rfl g1 65 _ _ c rfl B4 HF.out.sc _ _ Tryd.underlying25 HF.out.lc ?_)
          | ((with_reducible refine at_ldd 37 36 ?_); refine wpList_ldmg _ rfl _ _ rfl g1 65 _ _ c rfl B4 HF.out.sc _ _ Tryd.underlying25 HF.out.lc ?_)
          | ((with_reducible refine at_ldd 28 27 ?_); refine wpList_ldmg _ rfl _ _ rfl g1 97 _ _ d rfl B4 HF.out.sd _ _ Tryd.underlying25 HF.out.ld ?_)
          | ((with_reducible refine at_ldd 43 42 ?_); refine wpList_ldmg _ rfl _ _ rfl g1 97 _ _ d rfl B4 HF.out.sd _ _ Tryd.underlying25 HF.out.ld ?_)
          | ((with_reducible refine at_ldd 17 3 ?_); refine wpList_ldg _ rfl _ _ rfl g2 _ rfl B3 _ _ Tryd.underlying25 (by kernel_rfl) ?_)
          | ((with_reducible refine at_ldd 23 3 ?_); refine wpList_ldg _ rfl _ _ rfl g2 _ rfl B3 _ _ Tryd.underlying25 (by kernel_rfl) ?_)
          | ((with_reducible refine at_ldd 29 3 ?_); refine wpList_ldg _ rfl _ _ rfl g2 _ rfl B3 _ _ Tryd.underlying25 (by kernel_rfl) ?_)
          | ((with_reducible refine at_ldd 38 3 ?_); refine wpList_ldg _ rfl _ _ rfl g2 _ rfl B3 _ _ Tryd.underlying25 (by kernel_rfl) ?_)
          | ((with_reducible refine at_ldd 44 3 ?_); refine wpList_ldg _ rfl _ _ rfl g2 _ rfl B3 _ _ Tryd.underlying25 (by kernel_rfl) ?_)
          | ((with_reducible refine at_ldd 59 3 ?_); refine wpList_ldg _ rfl _ _ rfl g2 _ rfl B3 _ _ Tryd.underlying25 (by kernel_rfl) ?_))
        go_ret
        exact ⟨rfl, c3⟩
      | true =>
        cases fc with
        | false =>
          have hr2 : r = 2 := by simpa using hr
          subst hr2
          clear hr
          go_enter Tryd.func16, Tryd.ntmps16
          go_wp2_with (first
            | ((with_reducible refine at_bxd 1 ?_); refine wpList_bx _ rfl _ _ rfl _ rfl ?_; intro w1 g1 hg1 hl1 B1 b1)
            | ((with_reducible refine at_bdd 4 ?_); refine wpList_bld _ rfl _ _ rfl _ (by rw [List.map_toArray]; exact HBh.out) ?_)
            | ((with_reducible refine at_ald 3 ?_); refine wpList_al _ rfl _ rfl _ zero_hash ?_; intro w2 g2 hg2 hl2 B2 b2)
            | ((with_reducible refine at_st 3 ?_); refine wpList_sto _ rfl _ _ _ rfl g2 _ (B z32) rfl rfl B2 (by kernel_rfl) rfl (B_one _) ?_; intro w3 B3 r3; have q3 := below_row b2 r3 hg2; have B4 := B1.grow q3; have ck := HF.out.kd _ _ _ B4; have c3 := grow_trans b1 q3)
            | ((with_reducible refine at_bdd 53 ?_); refine wpList_bldg _ rfl _ _ rfl _ (by rw [List.map_toArray]; exact HBp.out) ?_)
            | ((with_reducible refine at_bdd 11 ?_); refine wpList_bldg _ rfl _ _ rfl _ (by rw [List.map_toArray]; exact HBp.out) ?_)
            | ((with_reducible refine at_ldd 10 9 ?_); refine wpList_ldmg _ rfl _ _ rfl g1 1 _ _ a rfl B4 HF.out.sa _ _ Tryd.underlying24 HF.out.la ?_)
            | ((with_reducible refine at_ldd 52 51 ?_); refine wpList_ldmg _ rfl _ _ rfl g1 1 _ _ a rfl B4 HF.out.sa _ _ Tryd.underlying24 HF.out.la ?_)
            | ((with_reducible refine at_ldd 16 15 ?_); refine wpList_ldmg _ rfl _ _ rfl g1 33 _ _ b rfl B4 HF.out.sb _ _ Tryd.underlying25 HF.out.lb ?_)
            | ((with_reducible refine at_ldd 58 57 ?_); refine wpList_ldmg _ rfl _ _ rfl g1 33 _ _ b rfl B4 HF.out.sb _ _ Tryd.underlying25 HF.out.lb ?_)
            | ((with_reducible refine at_ldd 22 21 ?_); refine wpList_ldmg _ rfl _ _ rfl g1 65 _ _ c rfl B4 HF.out.sc _ _ Tryd.underlying25 HF.out.lc ?_)
            | ((with_reducible refine at_ldd 37 36 ?_); refine wpList_ldmg _ rfl _ _ rfl g1 65 _ _ c rfl B4 HF.out.sc _ _ Tryd.underlying25 HF.out.lc ?_)
            | ((with_reducible refine at_ldd 28 27 ?_); refine wpList_ldmg _ rfl _ _ rfl g1 97 _ _ d rfl B4 HF.out.sd _ _ Tryd.underlying25 HF.out.ld ?_)
            | ((with_reducible refine at_ldd 43 42 ?_); refine wpList_ldmg _ rfl _ _ rfl g1 97 _ _ d rfl B4 HF.out.sd _ _ Tryd.underlying25 HF.out.ld ?_)
            | ((with_reducible refine at_ldd 17 3 ?_); refine wpList_ldg _ rfl _ _ rfl g2 _ rfl B3 _ _ Tryd.underlying25 (by kernel_rfl) ?_)
            | ((with_reducible refine at_ldd 23 3 ?_); refine wpList_ldg _ rfl _ _ rfl g2 _ rfl B3 _ _ Tryd.underlying25 (by kernel_rfl) ?_)
            | ((with_reducible refine at_ldd 29 3 ?_); refine wpList_ldg _ rfl _ _ rfl g2 _ rfl B3 _ _ Tryd.underlying25 (by kernel_rfl) ?_)
            | ((with_reducible refine at_ldd 38 3 ?_); refine wpList_ldg _ rfl _ _ rfl g2 _ rfl B3 _ _ Tryd.underlying25 (by kernel_rfl) ?_)
            | ((with_reducible refine at_ldd 44 3 ?_); refine wpList_ldg _ rfl _ _ rfl g2 _ rfl B3 _ _ Tryd.underlying25 (by kernel_rfl) ?_)
            | ((with_reducible refine at_ldd 59 3 ?_); refine wpList_ldg _ rfl _ _ rfl g2 _ rfl B3 _ _ Tryd.underlying25 (by kernel_rfl) ?_))
          go_ret
          exact ⟨rfl, c3⟩
        | true =>
          cases fd with
          | false =>
            have hr2 : r = 2 := by simpa using hr
            subst hr2
            clear hr
            go_enter Tryd.func16, Tryd.ntmps16
            go_wp2_with (first
              | ((with_reducible refine at_bxd 1 ?_); refine wpList_bx _ rfl _ _ rfl _ rfl ?_; intro w1 g1 hg1 hl1 B1 b1)
              | ((with_reducible refine at_bdd 4 ?_); refine wpList_bld _ rfl _ _ rfl _ (by rw [List.map_toArray]; exact HBh.out) ?_)
              | ((with_reducible refine at_ald 3 ?_); refine wpList_al _ rfl _ rfl _ zero_hash ?_; intro w2 g2 hg2 hl2 B2 b2)
              | ((with_reducible refine at_st 3 ?_); refine wpList_sto _ rfl _ _ _ rfl g2 _ (B z32) rfl rfl B2 (by kernel_rfl) rfl (B_one _) ?_; intro w3 B3 r3; have q3 := below_row b2 r3 hg2; have B4 := B1.grow q3; have ck := HF.out.kd _ _ _ B4; have c3 := grow_trans b1 q3)
              | ((with_reducible refine at_bdd 53 ?_); refine wpList_bldg _ rfl _ _ rfl _ (by rw [List.map_toArray]; exact HBp.out) ?_)
              | ((with_reducible refine at_bdd 11 ?_); refine wpList_bldg _ rfl _ _ rfl _ (by rw [List.map_toArray]; exact HBp.out) ?_)
              | ((with_reducible refine at_ldd 10 9 ?_); refine wpList_ldmg _ rfl _ _ rfl g1 1 _ _ a rfl B4 HF.out.sa _ _ Tryd.underlying24 HF.out.la ?_)
              | ((with_reducible refine at_ldd 52 51 ?_); refine wpList_ldmg _ rfl _ _ rfl g1 1 _ _ a rfl B4 HF.out.sa _ _ Tryd.underlying24 HF.out.la ?_)
              | ((with_reducible refine at_ldd 16 15 ?_); refine wpList_ldmg _ rfl _ _ rfl g1 33 _ _ b rfl B4 HF.out.sb _ _ Tryd.underlying25 HF.out.lb ?_)
              | ((with_reducible refine at_ldd 58 57 ?_); refine wpList_ldmg _ rfl _ _ rfl g1 33 _ _ b rfl B4 HF.out.sb _ _ Tryd.underlying25 HF.out.lb ?_)
              | ((with_reducible refine at_ldd 22 21 ?_); refine wpList_ldmg _ rfl _ _ rfl g1 65 _ _ c rfl B4 HF.out.sc _ _ Tryd.underlying25 HF.out.lc ?_)
              | ((with_reducible refine at_ldd 37 36 ?_); refine wpList_ldmg _ rfl _ _ rfl g1 65 _ _ c rfl B4 HF.out.sc _ _ Tryd.underlying25 HF.out.lc ?_)
              | ((with_reducible refine at_ldd 28 27 ?_); refine wpList_ldmg _ rfl _ _ rfl g1 97 _ _ d rfl B4 HF.out.sd _ _ Tryd.underlying25 HF.out.ld ?_)
              | ((with_reducible refine at_ldd 43 42 ?_); refine wpList_ldmg _ rfl _ _ rfl g1 97 _ _ d rfl B4 HF.out.sd _ _ Tryd.underlying25 HF.out.ld ?_)
              | ((with_reducible refine at_ldd 17 3 ?_); refine wpList_ldg _ rfl _ _ rfl g2 _ rfl B3 _ _ Tryd.underlying25 (by kernel_rfl) ?_)
              | ((with_reducible refine at_ldd 23 3 ?_); refine wpList_ldg _ rfl _ _ rfl g2 _ rfl B3 _ _ Tryd.underlying25 (by kernel_rfl) ?_)
              | ((with_reducible refine at_ldd 29 3 ?_); refine wpList_ldg _ rfl _ _ rfl g2 _ rfl B3 _ _ Tryd.underlying25 (by kernel_rfl) ?_)
              | ((with_reducible refine at_ldd 38 3 ?_); refine wpList_ldg _ rfl _ _ rfl g2 _ rfl B3 _ _ Tryd.underlying25 (by kernel_rfl) ?_)
              | ((with_reducible refine at_ldd 44 3 ?_); refine wpList_ldg _ rfl _ _ rfl g2 _ rfl B3 _ _ Tryd.underlying25 (by kernel_rfl) ?_)
              | ((with_reducible refine at_ldd 59 3 ?_); refine wpList_ldg _ rfl _ _ rfl g2 _ rfl B3 _ _ Tryd.underlying25 (by kernel_rfl) ?_))
            go_ret
            exact ⟨rfl, c3⟩
          | true =>
            have hr2 : r = 0 := by simpa using hr
            subst hr2
            clear hr
            go_enter Tryd.func16, Tryd.ntmps16
            go_wp2_with (first
              | ((with_reducible refine at_bxd 1 ?_); refine wpList_bx _ rfl _ _ rfl _ rfl ?_; intro w1 g1 hg1 hl1 B1 b1)
              | ((with_reducible refine at_bdd 4 ?_); refine wpList_bld _ rfl _ _ rfl _ (by rw [List.map_toArray]; exact HBh.out) ?_)
              | ((with_reducible refine at_ald 3 ?_); refine wpList_al _ rfl _ rfl _ zero_hash ?_; intro w2 g2 hg2 hl2 B2 b2)
              | ((with_reducible refine at_st 3 ?_); refine wpList_sto _ rfl _ _ _ rfl g2 _ (B z32) rfl rfl B2 (by kernel_rfl) rfl (B_one _) ?_; intro w3 B3 r3; have q3 := below_row b2 r3 hg2; have B4 := B1.grow q3; have ck := HF.out.kd _ _ _ B4; have c3 := grow_trans b1 q3)
              | ((with_reducible refine at_bdd 53 ?_); refine wpList_bldg _ rfl _ _ rfl _ (by rw [List.map_toArray]; exact HBp.out) ?_)
              | ((with_reducible refine at_bdd 11 ?_); refine wpList_bldg _ rfl _ _ rfl _ (by rw [List.map_toArray]; exact HBp.out) ?_)
              | ((with_reducible refine at_ldd 10 9 ?_); refine wpList_ldmg _ rfl _ _ rfl g1 1 _ _ a rfl B4 HF.out.sa _ _ Tryd.underlying24 HF.out.la ?_)
              | ((with_reducible refine at_ldd 52 51 ?_); refine wpList_ldmg _ rfl _ _ rfl g1 1 _ _ a rfl B4 HF.out.sa _ _ Tryd.underlying24 HF.out.la ?_)
              | ((with_reducible refine at_ldd 16 15 ?_); refine wpList_ldmg _ rfl _ _ rfl g1 33 _ _ b rfl B4 HF.out.sb _ _ Tryd.underlying25 HF.out.lb ?_)
              | ((with_reducible refine at_ldd 58 57 ?_); refine wpList_ldmg _ rfl _ _ rfl g1 33 _ _ b rfl B4 HF.out.sb _ _ Tryd.underlying25 HF.out.lb ?_)
              | ((with_reducible refine at_ldd 22 21 ?_); refine wpList_ldmg _ rfl _ _ rfl g1 65 _ _ c rfl B4 HF.out.sc _ _ Tryd.underlying25 HF.out.lc ?_)
              | ((with_reducible refine at_ldd 37 36 ?_); refine wpList_ldmg _ rfl _ _ rfl g1 65 _ _ c rfl B4 HF.out.sc _ _ Tryd.underlying25 HF.out.lc ?_)
              | ((with_reducible refine at_ldd 28 27 ?_); refine wpList_ldmg _ rfl _ _ rfl g1 97 _ _ d rfl B4 HF.out.sd _ _ Tryd.underlying25 HF.out.ld ?_)
              | ((with_reducible refine at_ldd 43 42 ?_); refine wpList_ldmg _ rfl _ _ rfl g1 97 _ _ d rfl B4 HF.out.sd _ _ Tryd.underlying25 HF.out.ld ?_)
              | ((with_reducible refine at_ldd 17 3 ?_); refine wpList_ldg _ rfl _ _ rfl g2 _ rfl B3 _ _ Tryd.underlying25 (by kernel_rfl) ?_)
              | ((with_reducible refine at_ldd 23 3 ?_); refine wpList_ldg _ rfl _ _ rfl g2 _ rfl B3 _ _ Tryd.underlying25 (by kernel_rfl) ?_)
              | ((with_reducible refine at_ldd 29 3 ?_); refine wpList_ldg _ rfl _ _ rfl g2 _ rfl B3 _ _ Tryd.underlying25 (by kernel_rfl) ?_)
              | ((with_reducible refine at_ldd 38 3 ?_); refine wpList_ldg _ rfl _ _ rfl g2 _ rfl B3 _ _ Tryd.underlying25 (by kernel_rfl) ?_)
              | ((with_reducible refine at_ldd 44 3 ?_); refine wpList_ldg _ rfl _ _ rfl g2 _ rfl B3 _ _ Tryd.underlying25 (by kernel_rfl) ?_)
              | ((with_reducible refine at_ldd 59 3 ?_); refine wpList_ldg _ rfl _ _ rfl g2 _ rfl B3 _ _ Tryd.underlying25 (by kernel_rfl) ?_))
            go_ret
            exact ⟨rfl, c3⟩
  · have k0 : (k == 0) = false := by simp [hk]
    have k1 : (k == 1) = true := by simp [hk]
    have k2 : (k == 2) = false := by simp [hk]
    clear hk
    cases fc with
    | false =>
      have hr2 : r = 2 := by simpa using hr
      subst hr2
      clear hr
      go_enter Tryd.func16, Tryd.ntmps16
      go_wp2_with (first
        | ((with_reducible refine at_bxd 1 ?_); refine wpList_bx _ rfl _ _ rfl _ rfl ?_; intro w1 g1 hg1 hl1 B1 b1)
        | ((with_reducible refine at_bdd 4 ?_); refine wpList_bld _ rfl _ _ rfl _ (by rw [List.map_toArray]; exact HBh.out) ?_)
        | ((with_reducible refine at_ald 3 ?_); refine wpList_al _ rfl _ rfl _ zero_hash ?_; intro w2 g2 hg2 hl2 B2 b2)
        | ((with_reducible refine at_st 3 ?_); refine wpList_sto _ rfl _ _ _ rfl g2 _ (B z32) rfl rfl B2 (by kernel_rfl) rfl (B_one _) ?_; intro w3 B3 r3; have q3 := below_row b2 r3 hg2; have B4 := B1.grow q3; have ck := HF.out.kd _ _ _ B4; have c3 := grow_trans b1 q3)
        | ((with_reducible refine at_bdd 53 ?_); refine wpList_bldg _ rfl _ _ rfl _ (by rw [List.map_toArray]; exact HBp.out) ?_)
        | ((with_reducible refine at_bdd 11 ?_); refine wpList_bldg _ rfl _ _ rfl _ (by rw [List.map_toArray]; exact HBp.out) ?_)
        | ((with_reducible refine at_ldd 10 9 ?_); refine wpList_ldmg _ rfl _ _ rfl g1 1 _ _ a rfl B4 HF.out.sa _ _ Tryd.underlying24 HF.out.la ?_)
        | ((with_reducible refine at_ldd 52 51 ?_); refine wpList_ldmg _ rfl _ _ rfl g1 1 _ _ a rfl B4 HF.out.sa _ _ Tryd.underlying24 HF.out.la ?_)
        | ((with_reducible refine at_ldd 16 15 ?_); refine wpList_ldmg _ rfl _ _ rfl g1 33 _ _ b rfl B4 HF.out.sb _ _ Tryd.underlying25 HF.out.lb ?_)
        | ((with_reducible refine at_ldd 58 57 ?_); refine wpList_ldmg _ rfl _ _ rfl g1 33 _ _ b rfl B4 HF.out.sb _ _ Tryd.underlying25 HF.out.lb ?_)
        | ((with_reducible refine at_ldd 22 21 ?_); refine wpList_ldmg _ rfl _ _ rfl g1 65 _ _ c rfl B4 HF.out.sc _ _ Tryd.underlying25 HF.out.lc ?_)
        | ((with_reducible refine at_ldd 37 36 ?_); refine wpList_ldmg _ rfl _ _ rfl g1 65 _ _ c rfl B4 HF.out.sc _ _ Tryd.underlying25 HF.out.lc ?_)
        | ((with_reducible refine at_ldd 28 27 ?_); refine wpList_ldmg _ rfl _ _ rfl g1 97 _ _ d rfl B4 HF.out.sd _ _ Tryd.underlying25 HF.out.ld ?_)
        | ((with_reducible refine at_ldd 43 42 ?_); refine wpList_ldmg _ rfl _ _ rfl g1 97 _ _ d rfl B4 HF.out.sd _ _ Tryd.underlying25 HF.out.ld ?_)
        | ((with_reducible refine at_ldd 17 3 ?_); refine wpList_ldg _ rfl _ _ rfl g2 _ rfl B3 _ _ Tryd.underlying25 (by kernel_rfl) ?_)
        | ((with_reducible refine at_ldd 23 3 ?_); refine wpList_ldg _ rfl _ _ rfl g2 _ rfl B3 _ _ Tryd.underlying25 (by kernel_rfl) ?_)
        | ((with_reducible refine at_ldd 29 3 ?_); refine wpList_ldg _ rfl _ _ rfl g2 _ rfl B3 _ _ Tryd.underlying25 (by kernel_rfl) ?_)
        | ((with_reducible refine at_ldd 38 3 ?_); refine wpList_ldg _ rfl _ _ rfl g2 _ rfl B3 _ _ Tryd.underlying25 (by kernel_rfl) ?_)
        | ((with_reducible refine at_ldd 44 3 ?_); refine wpList_ldg _ rfl _ _ rfl g2 _ rfl B3 _ _ Tryd.underlying25 (by kernel_rfl) ?_)
        | ((with_reducible refine at_ldd 59 3 ?_); refine wpList_ldg _ rfl _ _ rfl g2 _ rfl B3 _ _ Tryd.underlying25 (by kernel_rfl) ?_))
      go_ret
      exact ⟨rfl, c3⟩
    | true =>
      cases fd with
      | false =>
        have hr2 : r = 2 := by simpa using hr
        subst hr2
        clear hr
        go_enter Tryd.func16, Tryd.ntmps16
        go_wp2_with (first
          | ((with_reducible refine at_bxd 1 ?_); refine wpList_bx _ rfl _ _ rfl _ rfl ?_; intro w1 g1 hg1 hl1 B1 b1)
          | ((with_reducible refine at_bdd 4 ?_); refine wpList_bld _ rfl _ _ rfl _ (by rw [List.map_toArray]; exact HBh.out) ?_)
          | ((with_reducible refine at_ald 3 ?_); refine wpList_al _ rfl _ rfl _ zero_hash ?_; intro w2 g2 hg2 hl2 B2 b2)
          | ((with_reducible refine at_st 3 ?_); refine wpList_sto _ rfl _ _ _ rfl g2 _ (B z32) rfl rfl B2 (by kernel_rfl) rfl (B_one _) ?_; intro w3 B3 r3; have q3 := below_row b2 r3 hg2; have B4 := B1.grow q3; have ck := HF.out.kd _ _ _ B4; have c3 := grow_trans b1 q3)
          | ((with_reducible refine at_bdd 53 ?_); refine wpList_bldg _ rfl _ _ rfl _ (by rw [List.map_toArray]; exact HBp.out) ?_)
          | ((with_reducible refine at_bdd 11 ?_); refine wpList_bldg _ rfl _ _ rfl _ (by rw [List.map_toArray]; exact HBp.out) ?_)
          | ((with_reducible refine at_ldd 10 9 ?_); refine wpList_ldmg _ rfl _ _ rfl g1 1 _ _ a rfl B4 HF.out.sa _ _ Tryd.underlying24 HF.out.la ?_)
          | ((with_reducible refine at_ldd 52 51 ?_); refine wpList_ldmg _ rfl _ _ rfl g1 1 _ _ a rfl B4 HF.out.sa _ _ Tryd.underlying24 HF.out.la ?_)
          | ((with_reducible refine at_ldd 16 15 ?_); refine wpList_ldmg _ rfl _ _ rfl g1 33 _ _ b rfl B4 HF.out.sb _ _ Tryd.underlying25 HF.out.lb ?_)
          | ((with_reducible refine at_ldd 58 57 ?_); refine wpList_ldmg _ rfl _ _ rfl g1 33 _ _ b rfl B4 HF.out.sb _ _ Tryd.underlying25 HF.out.lb ?_)
          | ((with_reducible refine at_ldd 22 21 ?_); refine wpList_ldmg _ rfl _ _ rfl g1 65 _ _ c rfl B4 HF.out.sc _ _ Tryd.underlying25 HF.out.lc ?_)
          | ((with_reducible refine at_ldd 37 36 ?_); refine wpList_ldmg _ rfl _ _ rfl g1 65 _ _ c rfl B4 HF.out.sc _ _ Tryd.underlying25 HF.out.lc ?_)
          | ((with_reducible refine at_ldd 28 27 ?_); refine wpList_ldmg _ rfl _ _ rfl g1 97 _ _ d rfl B4 HF.out.sd _ _ Tryd.underlying25 HF.out.ld ?_)
          | ((with_reducible refine at_ldd 43 42 ?_); refine wpList_ldmg _ rfl _ _ rfl g1 97 _ _ d rfl B4 HF.out.sd _ _ Tryd.underlying25 HF.out.ld ?_)
          | ((with_reducible refine at_ldd 17 3 ?_); refine wpList_ldg _ rfl _ _ rfl g2 _ rfl B3 _ _ Tryd.underlying25 (by kernel_rfl) ?_)
          | ((with_reducible refine at_ldd 23 3 ?_); refine wpList_ldg _ rfl _ _ rfl g2 _ rfl B3 _ _ Tryd.underlying25 (by kernel_rfl) ?_)
          | ((with_reducible refine at_ldd 29 3 ?_); refine wpList_ldg _ rfl _ _ rfl g2 _ rfl B3 _ _ Tryd.underlying25 (by kernel_rfl) ?_)
          | ((with_reducible refine at_ldd 38 3 ?_); refine wpList_ldg _ rfl _ _ rfl g2 _ rfl B3 _ _ Tryd.underlying25 (by kernel_rfl) ?_)
          | ((with_reducible refine at_ldd 44 3 ?_); refine wpList_ldg _ rfl _ _ rfl g2 _ rfl B3 _ _ Tryd.underlying25 (by kernel_rfl) ?_)
          | ((with_reducible refine at_ldd 59 3 ?_); refine wpList_ldg _ rfl _ _ rfl g2 _ rfl B3 _ _ Tryd.underlying25 (by kernel_rfl) ?_))
        go_ret
        exact ⟨rfl, c3⟩
      | true =>
        have hr2 : r = 0 := by simpa using hr
        subst hr2
        clear hr
        go_enter Tryd.func16, Tryd.ntmps16
        go_wp2_with (first
          | ((with_reducible refine at_bxd 1 ?_); refine wpList_bx _ rfl _ _ rfl _ rfl ?_; intro w1 g1 hg1 hl1 B1 b1)
          | ((with_reducible refine at_bdd 4 ?_); refine wpList_bld _ rfl _ _ rfl _ (by rw [List.map_toArray]; exact HBh.out) ?_)
          | ((with_reducible refine at_ald 3 ?_); refine wpList_al _ rfl _ rfl _ zero_hash ?_; intro w2 g2 hg2 hl2 B2 b2)
          | ((with_reducible refine at_st 3 ?_); refine wpList_sto _ rfl _ _ _ rfl g2 _ (B z32) rfl rfl B2 (by kernel_rfl) rfl (B_one _) ?_; intro w3 B3 r3; have q3 := below_row b2 r3 hg2; have B4 := B1.grow q3; have ck := HF.out.kd _ _ _ B4; have c3 := grow_trans b1 q3)
          | ((with_reducible refine at_bdd 53 ?_); refine wpList_bldg _ rfl _ _ rfl _ (by rw [List.map_toArray]; exact HBp.out) ?_)
          | ((with_reducible refine at_bdd 11 ?_); refine wpList_bldg _ rfl _ _ rfl _ (by rw [List.map_toArray]; exact HBp.out) ?_)
          | ((with_reducible refine at_ldd 10 9 ?_); refine wpList_ldmg _ rfl _ _ rfl g1 1 _ _ a rfl B4 HF.out.sa _ _ Tryd.underlying24 HF.out.la ?_)
          | ((with_reducible refine at_ldd 52 51 ?_); refine wpList_ldmg _ rfl _ _ rfl g1 1 _ _ a rfl B4 HF.out.sa _ _ Tryd.underlying24 HF.out.la ?_)
          | ((with_reducible refine at_ldd 16 15 ?_); refine wpList_ldmg _ rfl _ _ rfl g1 33 _ _ b rfl B4 HF.out.sb _ _ Tryd.underlying25 HF.out.lb ?_)
          | ((with_reducible refine at_ldd 58 57 ?_); refine wpList_ldmg _ rfl _ _ rfl g1 33 _ _ b rfl B4 HF.out.sb _ _ Tryd.underlying25 HF.out.lb ?_)
          | ((with_reducible refine at_ldd 22 21 ?_); refine wpList_ldmg _ rfl _ _ rfl g1 65 _ _ c rfl B4 HF.out.sc _ _ Tryd.underlying25 HF.out.lc ?_)
          | ((with_reducible refine at_ldd 37 36 ?_); refine wpList_ldmg _ rfl _ _ rfl g1 65 _ _ c rfl B4 HF.out.sc _ _ Tryd.underlying25 HF.out.lc ?_)
          | ((with_reducible refine at_ldd 28 27 ?_); refine wpList_ldmg _ rfl _ _ rfl g1 97 _ _ d rfl B4 HF.out.sd _ _ Tryd.underlying25 HF.out.ld ?_)
          | ((with_reducible refine at_ldd 43 42 ?_); refine wpList_ldmg _ rfl _ _ rfl g1 97 _ _ d rfl B4 HF.out.sd _ _ Tryd.underlying25 HF.out.ld ?_)
          | ((with_reducible refine at_ldd 17 3 ?_); refine wpList_ldg _ rfl _ _ rfl g2 _ rfl B3 _ _ Tryd.underlying25 (by kernel_rfl) ?_)
          | ((with_reducible refine at_ldd 23 3 ?_); refine wpList_ldg _ rfl _ _ rfl g2 _ rfl B3 _ _ Tryd.underlying25 (by kernel_rfl) ?_)
          | ((with_reducible refine at_ldd 29 3 ?_); refine wpList_ldg _ rfl _ _ rfl g2 _ rfl B3 _ _ Tryd.underlying25 (by kernel_rfl) ?_)
          | ((with_reducible refine at_ldd 38 3 ?_); refine wpList_ldg _ rfl _ _ rfl g2 _ rfl B3 _ _ Tryd.underlying25 (by kernel_rfl) ?_)
          | ((with_reducible refine at_ldd 44 3 ?_); refine wpList_ldg _ rfl _ _ rfl g2 _ rfl B3 _ _ Tryd.underlying25 (by kernel_rfl) ?_)
          | ((with_reducible refine at_ldd 59 3 ?_); refine wpList_ldg _ rfl _ _ rfl g2 _ rfl B3 _ _ Tryd.underlying25 (by kernel_rfl) ?_))
        go_ret
        exact ⟨rfl, c3⟩
  · have k0 : (k == 0) = false := by simp [hk]
    have k1 : (k == 1) = false := by simp [hk]
    have k2 : (k == 2) = true := by simp [hk]
    clear hk
    cases fa with
    | false =>
      have hr2 : r = 2 := by simpa using hr
      subst hr2
      clear hr
      go_enter Tryd.func16, Tryd.ntmps16
      go_wp2_with (first
        | ((with_reducible refine at_bxd 1 ?_); refine wpList_bx _ rfl _ _ rfl _ rfl ?_; intro w1 g1 hg1 hl1 B1 b1)
        | ((with_reducible refine at_bdd 4 ?_); refine wpList_bld _ rfl _ _ rfl _ (by rw [List.map_toArray]; exact HBh.out) ?_)
        | ((with_reducible refine at_ald 3 ?_); refine wpList_al _ rfl _ rfl _ zero_hash ?_; intro w2 g2 hg2 hl2 B2 b2)
        | ((with_reducible refine at_st 3 ?_); refine wpList_sto _ rfl _ _ _ rfl g2 _ (B z32) rfl rfl B2 (by kernel_rfl) rfl (B_one _) ?_; intro w3 B3 r3; have q3 := below_row b2 r3 hg2; have B4 := B1.grow q3; have ck := HF.out.kd _ _ _ B4; have c3 := grow_trans b1 q3)
        | ((with_reducible refine at_bdd 53 ?_); refine wpList_bldg _ rfl _ _ rfl _ (by rw [List.map_toArray]; exact HBp.out) ?_)
        | ((with_reducible refine at_bdd 11 ?_); refine wpList_bldg _ rfl _ _ rfl _ (by rw [List.map_toArray]; exact HBp.out) ?_)
        | ((with_reducible refine at_ldd 10 9 ?_); refine wpList_ldmg _ rfl _ _ rfl g1 1 _ _ a rfl B4 HF.out.sa _ _ Tryd.underlying24 HF.out.la ?_)
        | ((with_reducible refine at_ldd 52 51 ?_); refine wpList_ldmg _ rfl _ _ rfl g1 1 _ _ a rfl B4 HF.out.sa _ _ Tryd.underlying24 HF.out.la ?_)
        | ((with_reducible refine at_ldd 16 15 ?_); refine wpList_ldmg _ rfl _ _ rfl g1 33 _ _ b rfl B4 HF.out.sb _ _ Tryd.underlying25 HF.out.lb ?_)
        | ((with_reducible refine at_ldd 58 57 ?_); refine wpList_ldmg _ rfl _ _ rfl g1 33 _ _ b rfl B4 HF.out.sb _ _ Tryd.underlying25 HF.out.lb ?_)
        | ((with_reducible refine at_ldd 22 21 ?_); refine wpList_ldmg _ rfl _ _ rfl g1 65 _ _ c rfl B4 HF.out.sc _ _ Tryd.underlying25 HF.out.lc ?_)
        | ((with_reducible refine at_ldd 37 36 ?_); refine wpList_ldmg _ rfl _ _ rfl g1 65 _ _ c rfl B4 HF.out.sc _ _ Tryd.underlying25 HF.out.lc ?_)
        | ((with_reducible refine at_ldd 28 27 ?_); refine wpList_ldmg _ rfl _ _ rfl g1 97 _ _ d rfl B4 HF.out.sd _ _ Tryd.underlying25 HF.out.ld ?_)
        | ((with_reducible refine at_ldd 43 42 ?_); refine wpList_ldmg _ rfl _ _ rfl g1 97 _ _ d rfl B4 HF.out.sd _ _ Tryd.underlying25 HF.out.ld ?_)
        | ((with_reducible refine at_ldd 17 3 ?_); refine wpList_ldg _ rfl _ _ rfl g2 _ rfl B3 _ _ Tryd.underlying25 (by kernel_rfl) ?_)
        | ((with_reducible refine at_ldd 23 3 ?_); refine wpList_ldg _ rfl _ _ rfl g2 _ rfl B3 _ _ Tryd.underlying25 (by kernel_rfl) ?_)
        | ((with_reducible refine at_ldd 29 3 ?_); refine wpList_ldg _ rfl _ _ rfl g2 _ rfl B3 _ _ Tryd.underlying25 (by kernel_rfl) ?_)
        | ((with_reducible refine at_ldd 38 3 ?_); refine wpList_ldg _ rfl _ _ rfl g2 _ rfl B3 _ _ Tryd.underlying25 (by kernel_rfl) ?_)
        | ((with_reducible refine at_ldd 44 3 ?_); refine wpList_ldg _ rfl _ _ rfl g2 _ rfl B3 _ _ Tryd.underlying25 (by kernel_rfl) ?_)
        | ((with_reducible refine at_ldd 59 3 ?_); refine wpList_ldg _ rfl _ _ rfl g2 _ rfl B3 _ _ Tryd.underlying25 (by kernel_rfl) ?_))
      go_ret
      exact ⟨rfl, c3⟩
    | true =>
      cases fb with
      | false =>
        have hr2 : r = 2 := by simpa using hr
        subst hr2
        clear hr
        go_enter Tryd.func16, Tryd.ntmps16
        go_wp2_with (first
          | ((with_reducible refine at_bxd 1 ?_); refine wpList_bx _ rfl _ _ rfl _ rfl ?_; intro w1 g1 hg1 hl1 B1 b1)
          | ((with_reducible refine at_bdd 4 ?_); refine wpList_bld _ rfl _ _ rfl _ (by rw [List.map_toArray]; exact HBh.out) ?_)
          | ((with_reducible refine at_ald 3 ?_); refine wpList_al _ rfl _ rfl _ zero_hash ?_; intro w2 g2 hg2 hl2 B2 b2)
          | ((with_reducible refine at_st 3 ?_); refine wpList_sto _ rfl _ _ _ rfl g2 _ (B z32) rfl rfl B2 (by kernel_rfl) rfl (B_one _) ?_; intro w3 B3 r3; have q3 := below_row b2 r3 hg2; have B4 := B1.grow q3; have ck := HF.out.kd _ _ _ B4; have c3 := grow_trans b1 q3)
          | ((with_reducible refine at_bdd 53 ?_); refine wpList_bldg _ rfl _ _ rfl _ (by rw [List.map_toArray]; exact HBp.out) ?_)
          | ((with_reducible refine at_bdd 11 ?_); refine wpList_bldg _ rfl _ _ rfl _ (by rw [List.map_toArray]; exact HBp.out) ?_)
          | ((with_reducible refine at_ldd 10 9 ?_); refine wpList_ldmg _ rfl _ _ rfl g1 1 _ _ a rfl B4 HF.out.sa _ _ Tryd.underlying24 HF.out.la ?_)
          | ((with_reducible refine at_ldd 52 51 ?_); refine wpList_ldmg _ rfl _ _ rfl g1 1 _ _ a rfl B4 HF.out.sa _ _ Tryd.underlying24 HF.out.la ?_)
          | ((with_reducible refine at_ldd 16 15 ?_); refine wpList_ldmg _ rfl _ _ rfl g1 33 _ _ b rfl B4 HF.out.sb _ _ Tryd.underlying25 HF.out.lb ?_)
          | ((with_reducible refine at_ldd 58 57 ?_); refine wpList_ldmg _ rfl _ _ rfl g1 33 _ _ b rfl B4 HF.out.sb _ _ Tryd.underlying25 HF.out.lb ?_)
          | ((with_reducible refine at_ldd 22 21 ?_); refine wpList_ldmg _ rfl _ _ rfl g1 65 _ _ c rfl B4 HF.out.sc _ _ Tryd.underlying25 HF.out.lc ?_)
          | ((with_reducible refine at_ldd 37 36 ?_); refine wpList_ldmg _ rfl _ _ rfl g1 65 _ _ c rfl B4 HF.out.sc _ _ Tryd.underlying25 HF.out.lc ?_)
          | ((with_reducible refine at_ldd 28 27 ?_); refine wpList_ldmg _ rfl _ _ rfl g1 97 _ _ d rfl B4 HF.out.sd _ _ Tryd.underlying25 HF.out.ld ?_)
          | ((with_reducible refine at_ldd 43 42 ?_); refine wpList_ldmg _ rfl _ _ rfl g1 97 _ _ d rfl B4 HF.out.sd _ _ Tryd.underlying25 HF.out.ld ?_)
          | ((with_reducible refine at_ldd 17 3 ?_); refine wpList_ldg _ rfl _ _ rfl g2 _ rfl B3 _ _ Tryd.underlying25 (by kernel_rfl) ?_)
          | ((with_reducible refine at_ldd 23 3 ?_); refine wpList_ldg _ rfl _ _ rfl g2 _ rfl B3 _ _ Tryd.underlying25 (by kernel_rfl) ?_)
          | ((with_reducible refine at_ldd 29 3 ?_); refine wpList_ldg _ rfl _ _ rfl g2 _ rfl B3 _ _ Tryd.underlying25 (by kernel_rfl) ?_)
          | ((with_reducible refine at_ldd 38 3 ?_); refine wpList_ldg _ rfl _ _ rfl g2 _ rfl B3 _ _ Tryd.underlying25 (by kernel_rfl) ?_)
          | ((with_reducible refine at_ldd 44 3 ?_); refine wpList_ldg _ rfl _ _ rfl g2 _ rfl B3 _ _ Tryd.underlying25 (by kernel_rfl) ?_)
          | ((with_reducible refine at_ldd 59 3 ?_); refine wpList_ldg _ rfl _ _ rfl g2 _ rfl B3 _ _ Tryd.underlying25 (by kernel_rfl) ?_))
        go_ret
        exact ⟨rfl, c3⟩
      | true =>
        have hr2 : r = 0 := by simpa using hr
        subst hr2
        clear hr
        go_enter Tryd.func16, Tryd.ntmps16
        go_wp2_with (first
          | ((with_reducible refine at_bxd 1 ?_); refine wpList_bx _ rfl _ _ rfl _ rfl ?_; intro w1 g1 hg1 hl1 B1 b1)
          | ((with_reducible refine at_bdd 4 ?_); refine wpList_bld _ rfl _ _ rfl _ (by rw [List.map_toArray]; exact HBh.out) ?_)
          | ((with_reducible refine at_ald 3 ?_); refine wpList_al _ rfl _ rfl _ zero_hash ?_; intro w2 g2 hg2 hl2 B2 b2)
          | ((with_reducible refine at_st 3 ?_); refine wpList_sto _ rfl _ _ _ rfl g2 _ (B z32) rfl rfl B2 (by kernel_rfl) rfl (B_one _) ?_; intro w3 B3 r3; have q3 := below_row b2 r3 hg2; have B4 := B1.grow q3; have ck := HF.out.kd _ _ _ B4; have c3 := grow_trans b1 q3)
          | ((with_reducible refine at_bdd 53 ?_); refine wpList_bldg _ rfl _ _ rfl _ (by rw [List.map_toArray]; exact HBp.out) ?_)
          | ((with_reducible refine at_bdd 11 ?_); refine wpList_bldg _ rfl _ _ rfl _ (by rw [List.map_toArray]; exact HBp.out) ?_)
          | ((with_reducible refine at_ldd 10 9 ?_); refine wpList_ldmg _ rfl _ _ rfl g1 1 _ _ a rfl B4 HF.out.sa _ _ Tryd.underlying24 HF.out.la ?_)
          | ((with_reducible refine at_ldd 52 51 ?_); refine wpList_ldmg _ rfl _ _ rfl g1 1 _ _ a rfl B4 HF.out.sa _ _ Tryd.underlying24 HF.out.la ?_)
          | ((with_reducible refine at_ldd 16 15 ?_); refine wpList_ldmg _ rfl _ _ rfl g1 33 _ _ b rfl B4 HF.out.sb _ _ Tryd.underlying25 HF.out.lb ?_)
          | ((with_reducible refine at_ldd 58 57 ?_); refine wpList_ldmg _ rfl _ _ rfl g1 33 _ _ b rfl B4 HF.out.sb _ _ Tryd.underlying25 HF.out.lb ?_)
          | ((with_reducible refine at_ldd 22 21 ?_); refine wpList_ldmg _ rfl _ _ rfl g1 65 _ _ c rfl B4 HF.out.sc _ _ Tryd.underlying25 HF.out.lc ?_)
          | ((with_reducible refine at_ldd 37 36 ?_); refine wpList_ldmg _ rfl _ _ rfl g1 65 _ _ c rfl B4 HF.out.sc _ _ Tryd.underlying25 HF.out.lc ?_)
          | ((with_reducible refine at_ldd 28 27 ?_); refine wpList_ldmg _ rfl _ _ rfl g1 97 _ _ d rfl B4 HF.out.sd _ _ Tryd.underlying25 HF.out.ld ?_)
          | ((with_reducible refine at_ldd 43 42 ?_); refine wpList_ldmg _ rfl _ _ rfl g1 97 _ _ d rfl B4 HF.out.sd _ _ Tryd.underlying25 HF.out.ld ?_)
          | ((with_reducible refine at_ldd 17 3 ?_); refine wpList_ldg _ rfl _ _ rfl g2 _ rfl B3 _ _ Tryd.underlying25 (by kernel_rfl) ?_)
          | ((with_reducible refine at_ldd 23 3 ?_); refine wpList_ldg _ rfl _ _ rfl g2 _ rfl B3 _ _ Tryd.underlying25 (by kernel_rfl) ?_)
          | ((with_reducible refine at_ldd 29 3 ?_); refine wpList_ldg _ rfl _ _ rfl g2 _ rfl B3 _ _ Tryd.underlying25 (by kernel_rfl) ?_)
          | ((with_reducible refine at_ldd 38 3 ?_); refine wpList_ldg _ rfl _ _ rfl g2 _ rfl B3 _ _ Tryd.underlying25 (by kernel_rfl) ?_)
          | ((with_reducible refine at_ldd 44 3 ?_); refine wpList_ldg _ rfl _ _ rfl g2 _ rfl B3 _ _ Tryd.underlying25 (by kernel_rfl) ?_)
          | ((with_reducible refine at_ldd 59 3 ?_); refine wpList_ldg _ rfl _ _ rfl g2 _ rfl B3 _ _ Tryd.underlying25 (by kernel_rfl) ?_))
        go_ret
        exact ⟨rfl, c3⟩
  · have k0 : (k == 0) = false := by simp [h0]
    have k1 : (k == 1) = false := by simp [h1]
    have k2 : (k == 2) = false := by simp [h2]
    subst hr
    clear h0 h1 h2
    go_enter Tryd.func16, Tryd.ntmps16
    go_wp2_with (first
      | ((with_reducible refine at_bxd 1 ?_); refine wpList_bx _ rfl _ _ rfl _ rfl ?_; intro w1 g1 hg1 hl1 B1 b1)
      | ((with_reducible refine at_bdd 4 ?_); refine wpList_bld _ rfl _ _ rfl _ (by rw [List.map_toArray]; exact HBh.out) ?_)
      | ((with_reducible refine at_ald 3 ?_); refine wpList_al _ rfl _ rfl _ zero_hash ?_; intro w2 g2 hg2 hl2 B2 b2)
      | ((with_reducible refine at_st 3 ?_); refine wpList_sto _ rfl _ _ _ rfl g2 _ (B z32) rfl rfl B2 (by kernel_rfl) rfl (B_one _) ?_; intro w3 B3 r3; have q3 := below_row b2 r3 hg2; have B4 := B1.grow q3; have ck := HF.out.kd _ _ _ B4; have c3 := grow_trans b1 q3)
      | ((with_reducible refine at_bdd 53 ?_); refine wpList_bldg _ rfl _ _ rfl _ (by rw [List.map_toArray]; exact HBp.out) ?_)
      | ((with_reducible refine at_bdd 11 ?_); refine wpList_bldg _ rfl _ _ rfl _ (by rw [List.map_toArray]; exact HBp.out) ?_)
      | ((with_reducible refine at_ldd 10 9 ?_); refine wpList_ldmg _ rfl _ _ rfl g1 1 _ _ a rfl B4 HF.out.sa _ _ Tryd.underlying24 HF.out.la ?_)
      | ((with_reducible refine at_ldd 52 51 ?_); refine wpList_ldmg _ rfl _ _ rfl g1 1 _ _ a rfl B4 HF.out.sa _ _ Tryd.underlying24 HF.out.la ?_)
      | ((with_reducible refine at_ldd 16 15 ?_); refine wpList_ldmg _ rfl _ _ rfl g1 33 _ _ b rfl B4 HF.out.sb _ _ Tryd.underlying25 HF.out.lb ?_)
      | ((with_reducible refine at_ldd 58 57 ?_); refine wpList_ldmg _ rfl _ _ rfl g1 33 _ _ b rfl B4 HF.out.sb _ _ Tryd.underlying25 HF.out.lb ?_)
      | ((with_reducible refine at_ldd 22 21 ?_); refine wpList_ldmg _ rfl _ _ rfl g1 65 _ _ c rfl B4 HF.out.sc _ _ Tryd.underlying25 HF.out.lc ?_)
      | ((with_reducible refine at_ldd 37 36 ?_); refine wpList_ldmg _ rfl _ _ rfl g1 65 _ _ c rfl B4 HF.out.sc _ _ Tryd.underlying25 HF.out.lc ?_)
      | ((with_reducible refine at_ldd 28 27 ?_); refine wpList_ldmg _ rfl _ _ rfl g1 97 _ _ d rfl B4 HF.out.sd _ _ Tryd.underlying25 HF.out.ld ?_)
      | ((with_reducible refine at_ldd 43 42 ?_); refine wpList_ldmg _ rfl _ _ rfl g1 97 _ _ d rfl B4 HF.out.sd _ _ Tryd.underlying25 HF.out.ld ?_)
      | ((with_reducible refine at_ldd 17 3 ?_); refine wpList_ldg _ rfl _ _ rfl g2 _ rfl B3 _ _ Tryd.underlying25 (by kernel_rfl) ?_)
      | ((with_reducible refine at_ldd 23 3 ?_); refine wpList_ldg _ rfl _ _ rfl g2 _ rfl B3 _ _ Tryd.underlying25 (by kernel_rfl) ?_)
      | ((with_reducible refine at_ldd 29 3 ?_); refine wpList_ldg _ rfl _ _ rfl g2 _ rfl B3 _ _ Tryd.underlying25 (by kernel_rfl) ?_)
      | ((with_reducible refine at_ldd 38 3 ?_); refine wpList_ldg _ rfl _ _ rfl g2 _ rfl B3 _ _ Tryd.underlying25 (by kernel_rfl) ?_)
      | ((with_reducible refine at_ldd 44 3 ?_); refine wpList_ldg _ rfl _ _ rfl g2 _ rfl B3 _ _ Tryd.underlying25 (by kernel_rfl) ?_)
      | ((with_reducible refine at_ldd 59 3 ?_); refine wpList_ldg _ rfl _ _ rfl g2 _ rfl B3 _ _ Tryd.underlying25 (by kernel_rfl) ?_))
    go_ret
    exact ⟨rfl, c3⟩

theorem refCheck_any (k : Int) (a b c d : List Int) (w : World) (h : Nd k a b c d) : Calls Tryd.prog 16 #[.agg (B (nd k a b c d))] w fun e w' => e = .returned (.int .i64 (okE k a b c d)) ∧ Below w.heap.size w w' := by
  refine rcheck_core k a b c d w h _ _ _ _ (okE k a b c d) rfl rfl rfl rfl ?_
  unfold okE okN
  by_cases h0 : k = 0
  · exact .inl ⟨h0, by simp [h0, and_assoc]⟩
  · by_cases h1 : k = 1
    · exact .inr (.inl ⟨h1, by simp [h1]⟩)
    · by_cases h2 : k = 2
      · exact .inr (.inr (.inl ⟨h2, by simp [h2]⟩))
      · exact .inr (.inr (.inr ⟨h0, h1, h2, by simp [h0, h1, h2]⟩))

end Go.Proofs.YtjcklpdifanjlaaDoor

/- The document's Encode, Digest of nodes, as contracts. -/
namespace Go.Proofs.YtjcklpdifanjlaaDoor
set_option maxRecDepth 20000
open Go.RowKit

set_option maxHeartbeats 2000000 in
theorem refEncode_any (k : Int) (a b c d : List Int) (w : World) (h : Nd k a b c d) : Calls Tryd.prog 12 #[.agg (B (nd k a b c d))] w (EncPost k a b c d w) := by
  obtain ⟨fs, hu⟩ := u_node
  have HU := hidden hu
  have HF := hidden h.facts
  have HC : Hid (∀ w', Calls Tryd.prog 16 #[.agg (B (nd k a b c d))] w' fun e w'' => e = .returned (.int .i64 (okE k a b c d)) ∧ Below w'.heap.size w' w'') := fun w' => refCheck_any k a b c d w' h
  obtain ⟨N, hN⟩ : ∃ N, N = nd k a b c d := ⟨_, rfl⟩
  rw [← hN] at HF HC ⊢
  by_cases hok : okN k a b c d = true
  · have hoE : okE k a b c d = 0 := by rw [okE, if_pos hok]
    rw [hoE] at HC
    by_cases hk1 : k = 1
    · have HT : Hid (∀ w', Calls Tryd.prog 44 #[.agg (B a), .agg (B b)] w' (TxtPost (1 :: (a ++ b)) 65 w')) := fun w' => refLeafText_new a b w' h.la h.lb h.ba h.bb
      have HX : Hid (∀ w' v sp, Own w.heap.size w' v (1 :: (a ++ b)) sp → Below w.heap.size w w' → EncPost k a b c d w (.returned (.tuple #[v, .int .i64 0])) w') := fun w' v sp ho hb => ⟨v, sp, by rw [hoE], by rw [txN, if_pos hok, if_pos hk1]; exact ho, hb⟩
      have q1 : (k == 1) = true := by simp [hk1]
      clear h hu hN hk1 hok hoE
      go_enter Tryd.func12, Tryd.ntmps12
      go_wp2_with (first
        | ((with_reducible refine at_bx ?_); refine wpList_bx _ rfl _ _ rfl _ rfl ?_; intro w1 g1 hg1 hl1 B1 b1)
        | ((with_reducible refine at_ldd 4 1 ?_); refine wpList_lds _ rfl _ _ rfl g1 _ _ rfl B1 HU.out HF.out.ln ?_)
        | (go_at_call 16; refine (HC.out _).mono ?_; rintro e w2 ⟨rfl, b2⟩; have B2 := B1.grow b2; have ck := HF.out.kd _ _ _ B2)
        | ((with_reducible refine at_ldd 11 10 ?_); refine wpList_ldm _ rfl _ _ rfl g1 1 _ _ a rfl B2 HF.out.sa _ _ Tryd.underlying24 HF.out.la ?_)
        | ((with_reducible refine at_ldd 13 12 ?_); refine wpList_ldm _ rfl _ _ rfl g1 33 _ _ b rfl B2 HF.out.sb _ _ Tryd.underlying25 HF.out.lb ?_)
        | (go_at_call 44; refine (HT.out _).mono ?_; rintro e w3 ⟨g, c3, sp, rfl, hgl, hgg, hO, b3⟩))
      go_ret2
      have c2 := grow_trans b1 b2
      exact HX.out _ _ _ (hO.later c2.size) (grow_trans c2 b3)
    · have q1 : (k == 1) = false := by simp [hk1]
      by_cases hk2 : k = 2
      · have HT : Hid (∀ w', Calls Tryd.prog 45 #[.agg (B c), .agg (B d)] w' (TxtPost (2 :: (c ++ d)) 65 w')) := fun w' => refInnerText_new c d w' h.lc h.ld h.bc h.bd
        have HX : Hid (∀ w' v sp, Own w.heap.size w' v (2 :: (c ++ d)) sp → Below w.heap.size w w' → EncPost k a b c d w (.returned (.tuple #[v, .int .i64 0])) w') := fun w' v sp ho hb => ⟨v, sp, by rw [hoE], by rw [txN, if_pos hok, if_neg hk1, if_pos hk2]; exact ho, hb⟩
        have q2 : (k == 2) = true := by simp [hk2]
        clear h hu hN hk1 hk2 hok hoE
        go_enter Tryd.func12, Tryd.ntmps12
        go_wp2_with (first
          | ((with_reducible refine at_bx ?_); refine wpList_bx _ rfl _ _ rfl _ rfl ?_; intro w1 g1 hg1 hl1 B1 b1)
          | ((with_reducible refine at_ldd 4 1 ?_); refine wpList_lds _ rfl _ _ rfl g1 _ _ rfl B1 HU.out HF.out.ln ?_)
          | (go_at_call 16; refine (HC.out _).mono ?_; rintro e w2 ⟨rfl, b2⟩; have B2 := B1.grow b2; have ck := HF.out.kd _ _ _ B2)
          | ((with_reducible refine at_ldd 19 18 ?_); refine wpList_ldm _ rfl _ _ rfl g1 65 _ _ c rfl B2 HF.out.sc _ _ Tryd.underlying25 HF.out.lc ?_)
          | ((with_reducible refine at_ldd 21 20 ?_); refine wpList_ldm _ rfl _ _ rfl g1 97 _ _ d rfl B2 HF.out.sd _ _ Tryd.underlying25 HF.out.ld ?_)
          | (go_at_call 45; refine (HT.out _).mono ?_; rintro e w3 ⟨g, c3, sp, rfl, hgl, hgg, hO, b3⟩))
        go_ret2
        have c2 := grow_trans b1 b2
        exact HX.out _ _ _ (hO.later c2.size) (grow_trans c2 b3)
      · have HX : Hid (∀ w' v sp, Own w.heap.size w' v [0] sp → Below w.heap.size w w' → EncPost k a b c d w (.returned (.tuple #[v, .int .i64 0])) w') := fun w' v sp ho hb => ⟨v, sp, by rw [hoE], by rw [txN, if_pos hok, if_neg hk1, if_neg hk2]; exact ho, hb⟩
        have q2 : (k == 2) = false := by simp [hk2]
        clear h hu hN hk1 hk2 hok hoE
        go_enter Tryd.func12, Tryd.ntmps12
        go_wp2_with (first
          | ((with_reducible refine at_bx ?_); refine wpList_bx _ rfl _ _ rfl _ rfl ?_; intro w1 g1 hg1 hl1 B1 b1)
          | ((with_reducible refine at_ldd 4 1 ?_); refine wpList_lds _ rfl _ _ rfl g1 _ _ rfl B1 HU.out HF.out.ln ?_)
          | (go_at_call 16; refine (HC.out _).mono ?_; rintro e w2 ⟨rfl, b2⟩; have B2 := B1.grow b2; have ck := HF.out.kd _ _ _ B2))
        go_ret2
        have c2 := grow_trans b1 b2
        exact HX.out _ _ [] (Own.mk (g := w2.heap.size) (zs := [0]) (sp := []) (fun z hz => by simp at hz; omega) Bytes.nil (by simp [maxLen]) c2.size (heap_alloc_new w2 _)) (grow_trans c2 (grow_alloc _ _))
  · have hoE : okE k a b c d = 2 := by rw [okE, if_neg hok]
    rw [hoE] at HC
    have HX : Hid (∀ w', Below w.heap.size w w' → EncPost k a b c d w (.returned (.tuple #[.slice none 0 0, .int .i64 2])) w') := fun w' hb => ⟨_, [], by rw [hoE], by rw [txN, if_neg hok]; exact Own.nil _ _, hb⟩
    clear h hu hN hok hoE
    go_enter Tryd.func12, Tryd.ntmps12
    go_wp2_with (first
      | ((with_reducible refine at_bx ?_); refine wpList_bx _ rfl _ _ rfl _ rfl ?_; intro w1 g1 hg1 hl1 B1 b1)
      | ((with_reducible refine at_ldd 4 1 ?_); refine wpList_lds _ rfl _ _ rfl g1 _ _ rfl B1 HU.out HF.out.ln ?_)
      | (go_at_call 16; refine (HC.out _).mono ?_; rintro e w2 ⟨rfl, b2⟩))
    go_ret2
    exact HX.out _ (grow_trans b1 b2)

theorem txN_len {k : Int} {a b c d : List Int} (h : Nd k a b c d) : (txN k a b c d).length ≤ 65 := by
  unfold txN
  split
  · split
    · simp [h.la, h.lb]
    · split
      · simp [h.lc, h.ld]
      · simp
  · simp

set_option maxHeartbeats 2000000 in
theorem refDigest_any (k : Int) (a b c d : List Int) (w : World) (h : Nd k a b c d) : Calls Tryd.prog 10 #[.agg (B (nd k a b c d))] w (DigNPost k a b c d w) := by
  obtain ⟨fs, hu⟩ := u_node
  have HU := hidden hu
  have HF := hidden h.facts
  by_cases hok : okN k a b c d = true
  · have hoE : okE k a b c d = 0 := by rw [okE, if_pos hok]
    have HE : Hid (∀ w', Calls Tryd.prog 12 #[.agg (B (nd k a b c d))] w' fun e w'' => ∃ v sp, e = .returned (.tuple #[v, .int .i64 0]) ∧ Own w'.heap.size w'' v (txN k a b c d) sp ∧ Below w'.heap.size w' w'') := by
      intro w'
      have := refEncode_any k a b c d w' h
      unfold EncPost at this
      rwa [hoE] at this
    obtain ⟨D, hD⟩ : ∃ D, D = dgN k a b c d := ⟨_, rfl⟩
    have hDd : dgN k a b c d = dig (txN k a b c d) := by rw [dgN, if_pos hok]
    have hDl : D.length = 32 := by rw [hD, hDd, dig_length]
    have HM : Hid (∀ w' x, Reads w' x (txN k a b c d) → Calls Tryd.prog 40 #[x] w' fun e w'' => e = .returned (.agg (B D)) ∧ Below w'.heap.size w' w'') := by
      intro w' x hx
      rw [hD, hDd]
      have := txN_len h
      exact refSum_any x _ w' hx (by omega)
    have HSZ : Hid ((Tryd.prog.info? 25).map (·.size) = some (B D).size) := by show _ = _; rw [B_size, hDl]; exact sz_hash
    have HS2 : Hid ((B (List.replicate 32 0)).size = (B D).size) := by show _ = _; rw [B_size, B_size, hDl]; rfl
    have HX : Hid (∀ w', Below w.heap.size w w' → DigNPost k a b c d w (.returned (.tuple #[.agg (B D), .int .i64 0])) w') := fun w' hb => ⟨by rw [hD, hoE], hb⟩
    obtain ⟨N, hN⟩ : ∃ N, N = nd k a b c d := ⟨_, rfl⟩
    obtain ⟨X, hXX⟩ : ∃ X, X = txN k a b c d := ⟨_, rfl⟩
    rw [← hN] at HF HE ⊢
    rw [← hXX] at HE HM
    clear h hu hN hok hoE hD hDd hDl hXX
    go_enter Tryd.func10, Tryd.ntmps10
    go_wp2_with (first
      | ((with_reducible refine at_bx ?_); refine wpList_bx _ rfl _ _ rfl _ rfl ?_; intro w1 g1 hg1 hl1 B1 b1)
      | ((with_reducible refine at_al ?_); refine wpList_al _ rfl _ rfl _ zero_hash ?_; intro w0 g0 hg0 hl0 B0 b0; have B1' := B1.grow b0; have c1 := grow_trans b1 b0)
      | ((with_reducible refine at_ldd 7 1 ?_); refine wpList_lds _ rfl _ _ rfl g1 _ _ rfl B1' HU.out HF.out.ln ?_)
      | (go_at_call 12; refine (HE.out _).mono ?_; rintro e w2 ⟨t, sp, rfl, hO, b2⟩; have hR := hidden hO.reads; obtain ⟨ta, tc, rfl⟩ := hO.slice; clear hO; have B2 := B0.grow b2; have c2 := grow_trans c1 b2)
      | (go_at_call 40; refine (HM.out _ _ hR.out).mono ?_; rintro e w3 ⟨rfl, b3⟩; have B3 := B2.grow b3)
      | ((with_reducible refine at_st 2 ?_); refine wpList_sto _ rfl _ _ _ rfl g0 _ _ rfl rfl B3 HSZ.out HS2.out (B_one _) ?_; intro w4 B4 g4))
    exact bodyPost_ret (v := .tuple #[.agg (B D), .int .i64 0]) (results_row_tmp rfl _ _ g0 _ _ _ _ rfl rfl B4 Tryd.underlying25 HSZ.out) rfl (HX.out _ (below_row (grow_trans c2 b3) g4 (Nat.le_trans b1.size hg0)))
  · have hoE : okE k a b c d = 2 := by rw [okE, if_neg hok]
    have HE : Hid (∀ w', Calls Tryd.prog 12 #[.agg (B (nd k a b c d))] w' fun e w'' => ∃ v sp, e = .returned (.tuple #[v, .int .i64 2]) ∧ Own w'.heap.size w'' v (txN k a b c d) sp ∧ Below w'.heap.size w' w'') := by
      intro w'
      have := refEncode_any k a b c d w' h
      unfold EncPost at this
      rwa [hoE] at this
    have HX : Hid (∀ w', Below w.heap.size w w' → DigNPost k a b c d w (.returned (.tuple #[.agg (B z32), .int .i64 2])) w') := fun w' hb => ⟨by rw [hoE, dgN, if_neg hok], hb⟩
    obtain ⟨N, hN⟩ : ∃ N, N = nd k a b c d := ⟨_, rfl⟩
    rw [← hN] at HF HE ⊢
    clear h hu hN hok hoE
    go_enter Tryd.func10, Tryd.ntmps10
    go_wp2_with (first
      | ((with_reducible refine at_bx ?_); refine wpList_bx _ rfl _ _ rfl _ rfl ?_; intro w1 g1 hg1 hl1 B1 b1)
      | ((with_reducible refine at_al ?_); refine wpList_al _ rfl _ rfl _ zero_hash ?_; intro w0 g0 hg0 hl0 B0 b0; have B1' := B1.grow b0; have c1 := grow_trans b1 b0)
      | ((with_reducible refine at_ldd 7 1 ?_); refine wpList_lds _ rfl _ _ rfl g1 _ _ rfl B1' HU.out HF.out.ln ?_)
      | (go_at_call 12; refine (HE.out _).mono ?_; rintro e w2 ⟨t, sp, rfl, hO, b2⟩; obtain ⟨ta, tc, rfl⟩ := hO.slice; clear hO; have B2 := B0.grow b2; have c2 := grow_trans c1 b2)
      | ((with_reducible refine at_bd ?_); refine wpList_bld _ rfl _ _ rfl _ built_hash ?_)
      | ((with_reducible refine at_st 2 ?_); refine wpList_sto _ rfl _ _ _ rfl g0 _ (B z32) rfl rfl B2 (by kernel_rfl) rfl (B_one _) ?_; intro w4 B4 g4))
    exact bodyPost_ret (v := .tuple #[.agg (B z32), .int .i64 2]) (results_row_tmp rfl _ _ g0 _ _ _ _ rfl rfl B4 Tryd.underlying25 (by kernel_rfl)) rfl (HX.out _ (below_row c2 g4 (Nat.le_trans b1.size hg0)))

end Go.Proofs.YtjcklpdifanjlaaDoor
