/- The document's Check, Encode, Digest of nodes, as contracts. -/
import Derived.Test.YtjcklpdifanjlaaDoorOr21
import Derived.Test.YtjcklpdifanjlaaDoorOr27
import Derived.Test.YtjcklpdifanjlaaDoorOr26
import Derived.Test.YtjcklpdifanjlaaDoorOr22
namespace Go.Proofs.YtjcklpdifanjlaaDoor
set_option maxRecDepth 20000
open Go.RowKit

theorem wpList_ldmg {ops : Array Oper} {rest : List Oper} {op : Oper} {a : Act} {Q : Exit → Act → World → Prop} (w : World) (hgd : Region.wanted op (yielded ops a.tmps) = true) (x : Operand) (ty : TypeId) (ho : op.op = .load ty x)
    (g o : Nat) (t : TypeId) (zs xs : List Int) (hx : a.eval x = .pointer (some ⟨g, o, none⟩)) (h : Blk w g t (B zs)) (hs : Seg zs o xs) (n : Nat) (e : TypeId) (hu : Tryd.prog.underlying ty = some (.array n e)) (hi : (Tryd.prog.info? ty).map (·.size) = some xs.length)
    (hk : wpList Tryd.prog ops Q rest (a.put op.dst (.agg (B xs))) w) : wpList Tryd.prog ops Q (op :: rest) a w :=
  BigFrame.wpList_want hgd fun _ hK => wp_load_mid ty x ho g o hx (xs.map (Value.int .u8)) _ (hs.range h) hu rfl (by rw [hi]; simp) (hK _ _ hk)

theorem wpList_bldg {ops : Array Oper} {rest : List Oper} {op : Oper} {a : Act} {Q : Exit → Act → World → Prop} (w : World) (hgd : Region.wanted op (yielded ops a.tmps) = true) (ty : TypeId) (parts : Array (Nat × Operand)) (ho : op.op = .build ty parts)
    (cs : Array Value) (h : Tryd.prog.built ty (parts.map fun (i, x) => (i, a.eval x)).toList = some cs)
    (hk : wpList Tryd.prog ops Q rest (a.put op.dst (.agg cs)) w) : wpList Tryd.prog ops Q (op :: rest) a w := by
  refine BigFrame.wpList_want hgd fun K hK => ?_
  unfold Oper.wp execOp
  simp only [ho, Sem.run_bind, run_build w ty _ cs h, Result.andThen_ok, Sem.run_pure]
  exact hK _ _ hk

theorem built_path : Tryd.prog.built 24 [] = some (B z32) := by kernel_rfl

set_option maxHeartbeats 4000000 in
theorem rcheck_core (k : Int) (a b c d : List Int) (w : World) (h : Nd k a b c d) (fa fb fc fd : Bool) (r : Int) (ea : decide (a = z32) = fa) (eb : decide (b = z32) = fb) (ec : decide (c = z32) = fc) (ed : decide (d = z32) = fd)
    (hr : (k = 0 ∧ r = if (fa && fb && fc && fd) = true then 0 else 2) ∨ (k = 1 ∧ r = if (fc && fd) = true then 0 else 2) ∨ (k = 2 ∧ r = if (fa && fb) = true then 0 else 2) ∨ (k ≠ 0 ∧ k ≠ 1 ∧ k ≠ 2 ∧ r = 2)) :
    Calls Tryd.prog 16 #[.agg (B (nd k a b c d))] w fun e w' => e = .returned (.int .i64 r) ∧ Below w.heap.size w w' := by
  have HF := hidden h.facts
  have HBh : Hid (Tryd.prog.built 25 [] = some (B z32)) := built_hash
  have HBp : Hid (Tryd.prog.built 24 [] = some (B z32)) := built_path
  have qa : ∀ w, (Op.equalIn 10000 24 (.agg (B a)) (.agg (B z32))).run Tryd.prog w = .ok fa w := fun w => by rw [← ea]; exact path_eq a z32 h.la rfl w
  have qb : ∀ w, (Op.equalIn 10000 25 (.agg (B b)) (.agg (B z32))).run Tryd.prog w = .ok fb w := fun w => by rw [← eb]; exact hash_eq b z32 h.lb rfl w
  have qc : ∀ w, (Op.equalIn 10000 25 (.agg (B c)) (.agg (B z32))).run Tryd.prog w = .ok fc w := fun w => by rw [← ec]; exact hash_eq c z32 h.lc rfl w
  have qd : ∀ w, (Op.equalIn 10000 25 (.agg (B d)) (.agg (B z32))).run Tryd.prog w = .ok fd w := fun w => by rw [← ed]; exact hash_eq d z32 h.ld rfl w
  obtain ⟨N, hN⟩ : ∃ N, N = nd k a b c d := ⟨_, rfl⟩
  rw [← hN] at HF ⊢
  clear h hN ea eb ec ed
  rcases hr with ⟨hk, hr⟩ | ⟨hk, hr⟩ | ⟨hk, hr⟩ | ⟨h0, h1, h2, hr⟩
  · have k0 : (k == 0) = true := by simp [hk]
    have k1 : (k == 1) = false := by simp [hk]
    have k2 : (k == 2) = false := by simp [hk]
    clear hk
    cases fa with
    | false =>
      have hr2 : r = 2 := by simpa using hr
      subst hr2
      clear hr
      go_enter Tryd.func16, Tryd.ntmps16
      go_wp2_with (first
        | ((with_reducible refine at_bxd 1 ?_); refine wpList_bx _ rfl _ _ rfl _ rfl ?_; intro w1 g1 hg1 hl1 B1 b1)
        | ((with_reducible refine at_bdd 4 ?_); refine wpList_bld _ rfl _ _ rfl _ (by rw [List.map_toArray]; exact HBh.out) ?_)
        | ((with_reducible refine at_ald 3 ?_); refine wpList_al _ rfl _ rfl _ zero_hash ?_; intro w2 g2 hg2 hl2 B2 b2)
        | ((with_reducible refine at_st 3 ?_); refine wpList_sto _ rfl _ _ _ rfl g2 _ (B z32) rfl rfl B2 (by kernel_rfl) rfl (B_one _) ?_; intro w3 B3 r3; have q3 := below_row b2 r3 hg2; have B4 := B1.grow q3; have ck := HF.out.kd _ _ _ B4; have c3 := grow_trans b1 q3)
        | ((with_reducible refine at_bdd 53 ?_); refine wpList_bldg _ rfl _ _ rfl _ (by rw [List.map_toArray]; exact HBp.out) ?_)
        | ((with_reducible refine at_bdd 11 ?_); refine wpList_bldg _ rfl _ _ rfl _ (by rw [List.map_toArray]; exact HBp.out) ?_)
        | ((with_reducible refine at_ldd 10 9 ?_); refine wpList_ldmg _ rfl _ _ rfl g1 1 _ _ a rfl B4 HF.out.sa _ _ Tryd.underlying24 HF.out.la ?_)
        | ((with_reducible refine at_ldd 52 51 ?_); refine wpList_ldmg _ rfl _ _ rfl g1 1 _ _ a rfl B4 HF.out.sa _ _ Tryd.underlying24 HF.out.la ?_)
        | ((with_reducible refine at_ldd 16 15 ?_); refine wpList_ldmg _ rfl _ _ rfl g1 33 _ _ b rfl B4 HF.out.sb _ _ Tryd.underlying25 HF.out.lb ?_)
        | ((with_reducible refine at_ldd 58 57 ?_); refine wpList_ldmg _ rfl _ _ rfl g1 33 _ _ b rfl B4 HF.out.sb _ _ Tryd.underlying25 HF.out.lb ?_)
        | ((with_reducible refine at_ldd 22 21 ?_); refine wpList_ldmg _ rfl _ _ rfl g1 65 _ _ c rfl B4 HF.out.sc _ _ Tryd.underlying25 HF.out.lc ?_)
        | ((with_reducible refine at_ldd 37 36 ?_); refine wpList_ldmg _ rfl _ _ rfl g1 65 _ _ c rfl B4 HF.out.sc _ _ Tryd.underlying25 HF.out.lc ?_)
        | ((with_reducible refine at_ldd 28 27 ?_); refine wpList_ldmg _ rfl _ _ rfl g1 97 _ _ d rfl B4 HF.out.sd _ _ Tryd.underlying25 HF.out.ld ?_)
        | ((with_reducible refine at_ldd 43 42 ?_); refine wpList_ldmg _ rfl _ _ rfl g1 97 _ _ d rfl B4 HF.out.sd _ _ Tryd.underlying25 HF.out.ld ?_)
        | ((with_reducible refine at_ldd 17 3 ?_); refine wpList_ldg _ rfl _ _ rfl g2 _ rfl B3 _ _ Tryd.underlying25 (by kernel_rfl) ?_)
        | ((with_reducible refine at_ldd 23 3 ?_); refine wpList_ldg _ rfl _ _ rfl g2 _ rfl B3 _ _ Tryd.underlying25 (by kernel_rfl) ?_)
        | ((with_reducible refine at_ldd 29 3 ?_); refine wpList_ldg _ rfl _ _ rfl g2 _ rfl B3 _ _ Tryd.underlying25 (by kernel_rfl) ?_)
        | ((with_reducible refine at_ldd 38 3 ?_); refine wpList_ldg _ rfl _ _ rfl g2 _ rfl B3 _ _ Tryd.underlying25 (by kernel_rfl) ?_)
        | ((with_reducible refine at_ldd 44 3 ?_); refine wpList_ldg _ rfl _ _ rfl g2 _ rfl B3 _ _ Tryd.underlying25 (by kernel_rfl) ?_)
        | ((with_reducible refine at_ldd 59 3 ?_); refine wpList_ldg _ rfl _ _ rfl g2 _ rfl B3 _ _ Tryd.underlying25 (by kernel_rfl) ?_))
      go_ret
      exact ⟨rfl, c3⟩
    | true =>
      cases fb with
      | false =>
        have hr2 : r = 2 := by simpa using hr
        subst hr2
        clear hr
        go_enter Tryd.func16, Tryd.ntmps16
        go_wp2_with (first
          | ((with_reducible refine at_bxd 1 ?_); refine wpList_bx _ rfl _ _ rfl _ rfl ?_; intro w1 g1 hg1 hl1 B1 b1)
          | ((with_reducible refine at_bdd 4 ?_); refine wpList_bld _ rfl _ _ rfl _ (by rw [List.map_toArray]; exact HBh.out) ?_)
          | ((with_reducible refine at_ald 3 ?_); refine wpList_al _ rfl _ rfl _ zero_hash ?_; intro w2 g2 hg2 hl2 B2 b2)
          | ((with_reducible refine at_st 3 ?_); refine wpList_sto _ rfl _ _ _ rfl g2 _ (B z32) rfl rfl B2 (by kernel_rfl) rfl (B_one _) ?_; intro w3 B3 r3; have q3 := below_row b2 r3 hg2; have B4 := B1.grow q3; have ck := HF.out.kd _ _ _ B4; have c3 := grow_trans b1 q3)
          | ((with_reducible refine at_bdd 53 ?_); refine wpList_bldg _ rfl _ _ rfl _ (by rw [List.map_toArray]; exact HBp.out) ?_)
          | ((with_reducible refine at_bdd 11 ?_); refine wpList_bldg _ rfl _ _ rfl _ (by rw [List.map_toArray]; exact HBp.out) ?_)
          | ((with_reducible refine at_ldd 10 9 ?_); refine wpList_ldmg _ rfl _ _ rfl g1 1 _ _ a rfl B4 HF.out.sa _ _ Tryd.underlying24 HF.out.la ?_)
          | ((with_reducible refine at_ldd 52 51 ?_); refine wpList_ldmg _ rfl _ _ rfl g1 1 _ _ a rfl B4 HF.out.sa _ _ Tryd.underlying24 HF.out.la ?_)
          | ((with_reducible refine at_ldd 16 15 ?_); refine wpList_ldmg _ rfl _ _ rfl g1 33 _ _ b rfl B4 HF.out.sb _ _ Tryd.underlying25 HF.out.lb ?_)
          | ((with_reducible refine at_ldd 58 57 ?_); refine wpList_ldmg _ rfl _ _ rfl g1 33 _ _ b rfl B4 HF.out.sb _ _ Tryd.underlying25 HF.out.lb ?_)
          | ((with_reducible refine at_ldd 22 21 ?_); refine wpList_ldmg _ rfl _ _ rfl g1 65 _ _ c rfl B4 HF.out.sc _ _ Tryd.underlying25 HF.out.lc ?_)
          | ((with_reducible refine at_ldd 37 36 ?_); refine wpList_ldmg _ rfl _ _ rfl g1 65 _ _ c rfl B4 HF.out.sc _ _ Tryd.underlying25 HF.out.lc ?_)
          | ((with_reducible refine at_ldd 28 27 ?_); refine wpList_ldmg _ rfl _ _ rfl g1 97 _ _ d rfl B4 HF.out.sd _ _ Tryd.underlying25 HF.out.ld ?_)
          | ((with_reducible refine at_ldd 43 42 ?_); refine wpList_ldmg _ rfl _ _ rfl g1 97 _ _ d rfl B4 HF.out.sd _ _ Tryd.underlying25 HF.out.ld ?_)
          | ((with_reducible refine at_ldd 17 3 ?_); refine wpList_ldg _ rfl _ _ rfl g2 _ rfl B3 _ _ Tryd.underlying25 (by kernel_rfl) ?_)
          | ((with_reducible refine at_ldd 23 3 ?_); refine wpList_ldg _ rfl _ _ rfl g2 _ rfl B3 _ _ Tryd.underlying25 (by kernel_rfl) ?_)
          | ((with_reducible refine at_ldd 29 3 ?_); refine wpList_ldg _ rfl _ _ rfl g2 _ rfl B3 _ _ Tryd.underlying25 (by kernel_rfl) ?_)
          | ((with_reducible refine at_ldd 38 3 ?_); refine wpList_ldg _ rfl _ _ rfl g2 _ rfl B3 _ _ Tryd.underlying25 (by kernel_rfl) ?_)
          | ((with_reducible refine at_ldd 44 3 ?_); refine wpList_ldg _ rfl _ _ rfl g2 _ rfl B3 _ _ Tryd.underlying25 (by kernel_rfl) ?_)
          | ((with_reducible refine at_ldd 59 3 ?_); refine wpList_ldg _ rfl _ _ rfl g2 _ rfl B3 _ _ Tryd.underlying25 (by kernel_rfl) ?_))
        go_ret
        exact ⟨rfl, c3⟩
      | true =>
        cases fc with
        | false =>
          have hr2 : r = 2 := by simpa using hr
          subst hr2
          clear hr
          go_enter Tryd.func16, Tryd.ntmps16
          go_wp2_with (first
            | ((with_reducible refine at_bxd 1 ?_); refine wpList_bx _ rfl _ _ rfl _ rfl ?_; intro w1 g1 hg1 hl1 B1 b1)
            | ((with_reducible refine at_bdd 4 ?_); refine wpList_bld _ rfl _ _ rfl _ (by rw [List.map_toArray]; exact HBh.out) ?_)
            | ((with_reducible refine at_ald 3 ?_); refine wpList_al _ rfl _ rfl _ zero_hash ?_; intro w2 g2 hg2 hl2 B2 b2)
            | ((with_reducible refine at_st 3 ?_); refine wpList_sto _ rfl _ _ _ rfl g2 _ (B z32) rfl rfl B2 (by kernel_rfl) rfl (B_one _) ?_; intro w3 B3 r3; have q3 := below_row b2 r3 hg2; have B4 := B1.grow q3; have ck := HF.out.kd _ _ _ B4; have c3 := grow_trans b1 q3)
            | ((with_reducible refine at_bdd 53 ?_); refine wpList_bldg _ rfl _ _ rfl _ (by rw [List.map_toArray]; exact HBp.out) ?_)
            | ((with_reducible refine at_bdd 11 ?_); refine wpList_bldg _ rfl _ _ rfl _ (by rw [List.map_toArray]; exact HBp.out) ?_)
            | ((with_reducible refine at_ldd 10 9 ?_); refine wpList_ldmg _ rfl _ _ rfl g1 1 _ _ a rfl B4 HF.out.sa _ _ Tryd.underlying24 HF.out.la ?_)
            | ((with_reducible refine at_ldd 52 51 ?_); refine wpList_ldmg _ rfl _ _ rfl g1 1 _ _ a rfl B4 HF.out.sa _ _ Tryd.underlying24 HF.out.la ?_)
            | ((with_reducible refine at_ldd 16 15 ?_); refine wpList_ldmg _ rfl _ _ rfl g1 33 _ _ b rfl B4 HF.out.sb _ _ Tryd.underlying25 HF.out.lb ?_)
            | ((with_reducible refine at_ldd 58 57 ?_); refine wpList_ldmg _ rfl _ _ rfl g1 33 _ _ b rfl B4 HF.out.sb _ _ Tryd.underlying25 HF.out.lb ?_)
            | ((with_reducible refine at_ldd 22 21 ?_); refine wpList_ldmg _ rfl _ _ rfl g1 65 _ _ c rfl B4 HF.out.sc _ _ Tryd.underlying25 HF.out.lc ?_)
            | ((with_reducible refine at_ldd 37 36 ?_); refine wpList_ldmg _ rfl _ _ rfl g1 65 _ _ c rfl B4 HF.out.sc _ _ Tryd.underlying25 HF.out.lc ?_)
            | ((with_reducible refine at_ldd 28 27 ?_); refine wpList_ldmg _ rfl _ _ rfl g1 97 _ _ d rfl B4 HF.out.sd _ _ Tryd.underlying25 HF.out.ld ?_)
            | ((with_reducible refine at_ldd 43 42 ?_); refine wpList_ldmg _ rfl _ _ rfl g1 97 _ _ d rfl B4 HF.out.sd _ _ Tryd.underlying25 HF.out.ld ?_)
            | ((with_reducible refine at_ldd 17 3 ?_); refine wpList_ldg _ rfl _ _ rfl g2 _ rfl B3 _ _ Tryd.underlying25 (by kernel_rfl) ?_)
            | ((with_reducible refine at_ldd 23 3 ?_); refine wpList_ldg _ rfl _ _ rfl g2 _ rfl B3 _ _ Tryd.underlying25 (by kernel_rfl) ?_)
            | ((with_reducible refine at_ldd 29 3 ?_); refine wpList_ldg _ rfl _ _ rfl g2 _ rfl B3 _ _ Tryd.underlying25 (by kernel_rfl) ?_)
            | ((with_reducible refine at_ldd 38 3 ?_); refine wpList_ldg _ rfl _ _ rfl g2 _ rfl B3 _ _ Tryd.underlying25 (by kernel_rfl) ?_)
            | ((with_reducible refine at_ldd 44 3 ?_); refine wpList_ldg _ rfl _ _ rfl g2 _ rfl B3 _ _ Tryd.underlying25 (by kernel_rfl) ?_)
            | ((with_reducible refine at_ldd 59 3 ?_); refine wpList_ldg _ rfl _ _ rfl g2 _ rfl B3 _ _ Tryd.underlying25 (by kernel_rfl) ?_))
          go_ret
          exact ⟨rfl, c3⟩
        | true =>
          cases fd with
          | false =>
            have hr2 : r = 2 := by simpa using hr
            subst hr2
            clear hr
            go_enter Tryd.func16, Tryd.ntmps16
            go_wp2_with (first
              | ((with_reducible refine at_bxd 1 ?_); refine wpList_bx _ rfl _ _ rfl _ rfl ?_; intro w1 g1 hg1 hl1 B1 b1)
              | ((with_reducible refine at_bdd 4 ?_); refine wpList_bld _ rfl _ _ rfl _ (by rw [List.map_toArray]; exact HBh.out) ?_)
              | ((with_reducible refine at_ald 3 ?_); refine wpList_al _ rfl _ rfl _ zero_hash ?_; intro w2 g2 hg2 hl2 B2 b2)
              | ((with_reducible refine at_st 3 ?_); refine wpList_sto _ rfl _ _ _ rfl g2 _ (B z32) rfl rfl B2 (by kernel_rfl) rfl (B_one _) ?_; intro w3 B3 r3; have q3 := below_row b2 r3 hg2; have B4 := B1.grow q3; have ck := HF.out.kd _ _ _ B4; have c3 := grow_trans b1 q3)
              | ((with_reducible refine at_bdd 53 ?_); refine wpList_bldg _ rfl _ _ rfl _ (by rw [List.map_toArray]; exact HBp.out) ?_)
              | ((with_reducible refine at_bdd 11 ?_); refine wpList_bldg _ rfl _ _ rfl _ (by rw [List.map_toArray]; exact HBp.out) ?_)
              | ((with_reducible refine at_ldd 10 9 ?_); refine wpList_ldmg _ rfl _ _ rfl g1 1 _ _ a rfl B4 HF.out.sa _ _ Tryd.underlying24 HF.out.la ?_)
              | ((with_reducible refine at_ldd 52 51 ?_); refine wpList_ldmg _ rfl _ _ rfl g1 1 _ _ a rfl B4 HF.out.sa _ _ Tryd.underlying24 HF.out.la ?_)
              | ((with_reducible refine at_ldd 16 15 ?_); refine wpList_ldmg _ rfl _ _ rfl g1 33 _ _ b rfl B4 HF.out.sb _ _ Tryd.underlying25 HF.out.lb ?_)
              | ((with_reducible refine at_ldd 58 57 ?_); refine wpList_ldmg _ rfl _ _ rfl g1 33 _ _ b rfl B4 HF.out.sb _ _ Tryd.underlying25 HF.out.lb ?_)
              | ((with_reducible refine at_ldd 22 21 ?_); refine wpList_ldmg _ rfl _ _ rfl g1 65 _ _ c rfl B4 HF.out.sc _ _ Tryd.underlying25 HF.out.lc ?_)
              | ((with_reducible refine at_ldd 37 36 ?_); refine wpList_ldmg _ rfl _ _ rfl g1 65 _ _ c rfl B4 HF.out.sc _ _ Tryd.underlying25 HF.out.lc ?_)
              | ((with_reducible refine at_ldd 28 27 ?_); refine wpList_ldmg _ rfl _ _ rfl g1 97 _ _ d rfl B4 HF.out.sd _ _ Tryd.underlying25 HF.out.ld ?_)
              | ((with_reducible refine at_ldd 43 42 ?_); refine wpList_ldmg _ rfl _ _ rfl g1 97 _ _ d rfl B4 HF.out.sd _ _ Tryd.underlying25 HF.out.ld ?_)
              | ((with_reducible refine at_ldd 17 3 ?_); refine wpList_ldg _ rfl _ _ rfl g2 _ rfl B3 _ _ Tryd.underlying25 (by kernel_rfl) ?_)
              | ((with_reducible refine at_ldd 23 3 ?_); refine wpList_ldg _ rfl _ _ rfl g2 _ rfl B3 _ _ Tryd.underlying25 (by kernel_rfl) ?_)
              | ((with_reducible refine at_ldd 29 3 ?_); refine wpList_ldg _ rfl _ _ rfl g2 _ rfl B3 _ _ Tryd.underlying25 (by kernel_rfl) ?_)
              | ((with_reducible refine at_ldd 38 3 ?_); refine wpList_ldg _ rfl _ _ rfl g2 _ rfl B3 _ _ Tryd.underlying25 (by kernel_rfl) ?_)
              | ((with_reducible refine at_ldd 44 3 ?_); refine wpList_ldg _ rfl _ _ rfl g2 _ rfl B3 _ _ Tryd.underlying25 (by kernel_rfl) ?_)
              | ((with_reducible refine at_ldd 59 3 ?_); refine wpList_ldg _ rfl _ _ rfl g2 _ rfl B3 _ _ Tryd.underlying25 (by kernel_rfl) ?_))
            go_ret
            exact ⟨rfl, c3⟩
          | true =>
            have hr2 : r = 0 := by simpa using hr
            subst hr2
            clear hr
            go_enter Tryd.func16, Tryd.ntmps16
            go_wp2_with (first
              | ((with_reducible refine at_bxd 1 ?_); refine wpList_bx _ rfl _ _ rfl _ rfl ?_; intro w1 g1 hg1 hl1 B1 b1)
              | ((with_reducible refine at_bdd 4 ?_); refine wpList_bld _ rfl _ _ rfl _ (by rw [List.map_toArray]; exact HBh.out) ?_)
              | ((with_reducible refine at_ald 3 ?_); refine wpList_al _ rfl _ rfl _ zero_hash ?_; intro w2 g2 hg2 hl2 B2 b2)
              | ((with_reducible refine at_st 3 ?_); refine wpList_sto _ rfl _ _ _ rfl g2 _ (B z32) rfl rfl B2 (by kernel_rfl) rfl (B_one _) ?_; intro w3 B3 r3; have q3 := below_row b2 r3 hg2; have B4 := B1.grow q3; have ck := HF.out.kd _ _ _ B4; have c3 := grow_trans b1 q3)
              | ((with_reducible refine at_bdd 53 ?_); refine wpList_bldg _ rfl _ _ rfl _ (by rw [List.map_toArray]; exact HBp.out) ?_)
              | ((with_reducible refine at_bdd 11 ?_); refine wpList_bldg _ rfl _ _ rfl _ (by rw [List.map_toArray]; exact HBp.out) ?_)
              | ((with_reducible refine at_ldd 10 9 ?_); refine wpList_ldmg _ rfl _ _ rfl g1 1 _ _ a rfl B4 HF.out.sa _ _ Tryd.underlying24 HF.out.la ?_)
              | ((with_reducible refine at_ldd 52 51 ?_); refine wpList_ldmg _ rfl _ _ rfl g1 1 _ _ a rfl B4 HF.out.sa _ _ Tryd.underlying24 HF.out.la ?_)
              | ((with_reducible refine at_ldd 16 15 ?_); refine wpList_ldmg _ rfl _ _ rfl g1 33 _ _ b rfl B4 HF.out.sb _ _ Tryd.underlying25 HF.out.lb ?_)
              | ((with_reducible refine at_ldd 58 57 ?_); refine wpList_ldmg _ rfl _ _ rfl g1 33 _ _ b rfl B4 HF.out.sb _ _ Tryd.underlying25 HF.out.lb ?_)
              | ((with_reducible refine at_ldd 22 21 ?_); refine wpList_ldmg _ rfl _ _ rfl g1 65 _ _ c rfl B4 HF.out.sc _ _ Tryd.underlying25 HF.out.lc ?_)
              | ((with_reducible refine at_ldd 37 36 ?_); refine wpList_ldmg _ rfl _ _ rfl g1 65 _ _ c rfl B4 HF.out.sc _ _ Tryd.underlying25 HF.out.lc ?_)
              | ((with_reducible refine at_ldd 28 27 ?_); refine wpList_ldmg _ rfl _ _ rfl g1 97 _ _ d rfl B4 HF.out.sd _ _ Tryd.underlying25 HF.out.ld ?_)
              | ((with_reducible refine at_ldd 43 42 ?_); refine wpList_ldmg _ rfl _ _ rfl g1 97 _ _ d rfl B4 HF.out.sd _ _ Tryd.underlying25 HF.out.ld ?_)
              | ((with_reducible refine at_ldd 17 3 ?_); refine wpList_ldg _ rfl _ _ rfl g2 _ rfl B3 _ _ Tryd.underlying25 (by kernel_rfl) ?_)
              | ((with_reducible refine at_ldd 23 3 ?_); refine wpList_ldg _ rfl _ _ rfl g2 _ rfl B3 _ _ Tryd.underlying25 (by kernel_rfl) ?_)
              | ((with_reducible refine at_ldd 29 3 ?_); refine wpList_ldg _ rfl _ _ rfl g2 _ rfl B3 _ _ Tryd.underlying25 (by kernel_rfl) ?_)
              | ((with_reducible refine at_ldd 38 3 ?_); refine wpList_ldg _ rfl _ _ rfl g2 _ rfl B3 _ _ Tryd.underlying25 (by kernel_rfl) ?_)
              | ((with_reducible refine at_ldd 44 3 ?_); refine wpList_ldg _ rfl _ _ rfl g2 _ rfl B3 _ _ Tryd.underlying25 (by kernel_rfl) ?_)
              | ((with_reducible refine at_ldd 59 3 ?_); refine wpList_ldg _ rfl _ _ rfl g2 _ rfl B3 _ _ Tryd.underlying25 (by kernel_rfl) ?_))
            go_ret
            exact ⟨rfl, c3⟩
  · have k0 : (k == 0) = false := by simp [hk]
    have k1 : (k == 1) = true := by simp [hk]
    have k2 : (k == 2) = false := by simp [hk]
    clear hk
    cases fc with
    | false =>
      have hr2 : r = 2 := by simpa using hr
      subst hr2
      clear hr
      go_enter Tryd.func16, Tryd.ntmps16
      go_wp2_with (first
        | ((with_reducible refine at_bxd 1 ?_); refine wpList_bx _ rfl _ _ rfl _ rfl ?_; intro w1 g1 hg1 hl1 B1 b1)
        | ((with_reducible refine at_bdd 4 ?_); refine wpList_bld _ rfl _ _ rfl _ (by rw [List.map_toArray]; exact HBh.out) ?_)
        | ((with_reducible refine at_ald 3 ?_); refine wpList_al _ rfl _ rfl _ zero_hash ?_; intro w2 g2 hg2 hl2 B2 b2)
        | ((with_reducible refine at_st 3 ?_); refine wpList_sto _ rfl _ _ _ rfl g2 _ (B z32) rfl rfl B2 (by kernel_rfl) rfl (B_one _) ?_; intro w3 B3 r3; have q3 := below_row b2 r3 hg2; have B4 := B1.grow q3; have ck := HF.out.kd _ _ _ B4; have c3 := grow_trans b1 q3)
        | ((with_reducible refine at_bdd 53 ?_); refine wpList_bldg _ rfl _ _ rfl _ (by rw [List.map_toArray]; exact HBp.out) ?_)
        | ((with_reducible refine at_bdd 11 ?_); refine wpList_bldg _ rfl _ _ rfl _ (by rw [List.map_toArray]; exact HBp.out) ?_)
        | ((with_reducible refine at_ldd 10 9 ?_); refine wpList_ldmg _ rfl _ _ rfl g1 1 _ _ a rfl B4 HF.out.sa _ _ Tryd.underlying24 HF.out.la ?_)
        | ((with_reducible refine at_ldd 52 51 ?_); refine wpList_ldmg _ rfl _ _ rfl g1 1 _ _ a rfl B4 HF.out.sa _ _ Tryd.underlying24 HF.out.la ?_)
        | ((with_reducible refine at_ldd 16 15 ?_); refine wpList_ldmg _ rfl _ _ rfl g1 33 _ _ b rfl B4 HF.out.sb _ _ Tryd.underlying25 HF.out.lb ?_)
        | ((with_reducible refine at_ldd 58 57 ?_); refine wpList_ldmg _ rfl _ _ rfl g1 33 _ _ b rfl B4 HF.out.sb _ _ Tryd.underlying25 HF.out.lb ?_)
        | ((with_reducible refine at_ldd 22 21 ?_); refine wpList_ldmg _ rfl _ _ rfl g1 65 _ _ c rfl B4 HF.out.sc _ _ Tryd.underlying25 HF.out.lc ?_)
        | ((with_reducible refine at_ldd 37 36 ?_); refine wpList_ldmg _ rfl _ _ rfl g1 65 _ _ c rfl B4 HF.out.sc _ _ Tryd.underlying25 HF.out.lc ?_)
        | ((with_reducible refine at_ldd 28 27 ?_); refine wpList_ldmg _ rfl _ _ rfl g1 97 _ _ d rfl B4 HF.out.sd _ _ Tryd.underlying25 HF.out.ld ?_)
        | ((with_reducible refine at_ldd 43 42 ?_); refine wpList_ldmg _ rfl _ _ rfl g1 97 _ _ d rfl B4 HF.out.sd _ _ Tryd.underlying25 HF.out.ld ?_)
        | ((with_reducible refine at_ldd 17 3 ?_); refine wpList_ldg _ rfl _ _ rfl g2 _ rfl B3 _ _ Tryd.underlying25 (by kernel_rfl) ?_)
        | ((with_reducible refine at_ldd 23 3 ?_); refine wpList_ldg _ rfl _ _ rfl g2 _ rfl B3 _ _ Tryd.underlying25 (by kernel_rfl) ?_)
        | ((with_reducible refine at_ldd 29 3 ?_); refine wpList_ldg _ rfl _ _ rfl g2 _ rfl B3 _ _ Tryd.underlying25 (by kernel_rfl) ?_)
        | ((with_reducible refine at_ldd 38 3 ?_); refine wpList_ldg _ rfl _ _ rfl g2 _ rfl B3 _ _ Tryd.underlying25 (by kernel_rfl) ?_)
        | ((with_reducible refine at_ldd 44 3 ?_); refine wpList_ldg _ rfl _ _ rfl g2 _ rfl B3 _ _ Tryd.underlying25 (by kernel_rfl) ?_)
        | ((with_reducible refine at_ldd 59 3 ?_); refine wpList_ldg _ rfl _ _ rfl g2 _ rfl B3 _ _ Tryd.underlying25 (by kernel_rfl) ?_))
      go_ret
      exact ⟨rfl, c3⟩
    | true =>
      cases fd with
      | false =>
        have hr2 : r = 2 := by simpa using hr
        subst hr2
        clear hr
        go_enter Tryd.func16, Tryd.ntmps16
        go_wp2_with (first
          | ((with_reducible refine at_bxd 1 ?_); refine wpList_bx _ rfl _ _ rfl _ rfl ?_; intro w1 g1 hg1 hl1 B1 b1)
          | ((with_reducible refine at_bdd 4 ?_); refine wpList_bld _ rfl _ _ rfl _ (by rw [List.map_toArray]; exact HBh.out) ?_)
          | ((with_reducible refine at_ald 3 ?_); refine wpList_al _ rfl _ rfl _ zero_hash ?_; intro w2 g2 hg2 hl2 B2 b2)
          | ((with_reducible refine at_st 3 ?_); refine wpList_sto _ rfl _ _ _ rfl g2 _ (B z32) rfl rfl B2 (by kernel_rfl) rfl (B_one _) ?_; intro w3 B3 r3; have q3 := below_row b2 r3 hg2; have B4 := B1.grow q3; have ck := HF.out.kd _ _ _ B4; have c3 := grow_trans b1 q3)
          | ((with_reducible refine at_bdd 53 ?_); refine wpList_bldg _ rfl _ _ rfl _ (by rw [List.map_toArray]; exact HBp.out) ?_)
          | ((with_reducible refine at_bdd 11 ?_); refine wpList_bldg _ rfl _ _ rfl _ (by rw [List.map_toArray]; exact HBp.out) ?_)
          | ((with_reducible refine at_ldd 10 9 ?_); refine wpList_ldmg _ rfl _ _ rfl g1 1 _ _ a rfl B4 HF.out.sa _ _ Tryd.underlying24 HF.out.la ?_)
          | ((with_reducible refine at_ldd 52 51 ?_); refine wpList_ldmg _ rfl _ _ rfl g1 1 _ _ a rfl B4 HF.out.sa _ _ Tryd.underlying24 HF.out.la ?_)
          | ((with_reducible refine at_ldd 16 15 ?_); refine wpList_ldmg _ rfl _ _ rfl g1 33 _ _ b rfl B4 HF.out.sb _ _ Tryd.underlying25 HF.out.lb ?_)
          | ((with_reducible refine at_ldd 58 57 ?_); refine wpList_ldmg _ rfl _ _ rfl g1 33 _ _ b rfl B4 HF.out.sb _ _ Tryd.underlying25 HF.out.lb ?_)
          | ((with_reducible refine at_ldd 22 21 ?_); refine wpList_ldmg _ rfl _ _ rfl g1 65 _ _ c rfl B4 HF.out.sc _ _ Tryd.underlying25 HF.out.lc ?_)
          | ((with_reducible refine at_ldd 37 36 ?_); refine wpList_ldmg _ rfl _ _ rfl g1 65 _ _ c rfl B4 HF.out.sc _ _ Tryd.underlying25 HF.out.lc ?_)
          | ((with_reducible refine at_ldd 28 27 ?_); refine wpList_ldmg _ rfl _ _ rfl g1 97 _ _ d rfl B4 HF.out.sd _ _ Tryd.underlying25 HF.out.ld ?_)
          | ((with_reducible refine at_ldd 43 42 ?_); refine wpList_ldmg _ rfl _ _ rfl g1 97 _ _ d rfl B4 HF.out.sd _ _ Tryd.underlying25 HF.out.ld ?_)
          | ((with_reducible refine at_ldd 17 3 ?_); refine wpList_ldg _ rfl _ _ rfl g2 _ rfl B3 _ _ Tryd.underlying25 (by kernel_rfl) ?_)
          | ((with_reducible refine at_ldd 23 3 ?_); refine wpList_ldg _ rfl _ _ rfl g2 _ rfl B3 _ _ Tryd.underlying25 (by kernel_rfl) ?_)
          | ((with_reducible refine at_ldd 29 3 ?_); refine wpList_ldg _ rfl _ _ rfl g2 _ rfl B3 _ _ Tryd.underlying25 (by kernel_rfl) ?_)
          | ((with_reducible refine at_ldd 38 3 ?_); refine wpList_ldg _ rfl _ _ rfl g2 _ rfl B3 _ _ Tryd.underlying25 (by kernel_rfl) ?_)
          | ((with_reducible refine at_ldd 44 3 ?_); refine wpList_ldg _ rfl _ _ rfl g2 _ rfl B3 _ _ Tryd.underlying25 (by kernel_rfl) ?_)
          | ((with_reducible refine at_ldd 59 3 ?_); refine wpList_ldg _ rfl _ _ rfl g2 _ rfl B3 _ _ Tryd.underlying25 (by kernel_rfl) ?_))
        go_ret
        exact ⟨rfl, c3⟩
      | true =>
        have hr2 : r = 0 := by simpa using hr
        subst hr2
        clear hr
        go_enter Tryd.func16, Tryd.ntmps16
        go_wp2_with (first
          | ((with_reducible refine at_bxd 1 ?_); refine wpList_bx _ rfl _ _ rfl _ rfl ?_; intro w1 g1 hg1 hl1 B1 b1)
          | ((with_reducible refine at_bdd 4 ?_); refine wpList_bld _ rfl _ _ rfl _ (by rw [List.map_toArray]; exact HBh.out) ?_)
          | ((with_reducible refine at_ald 3 ?_); refine wpList_al _ rfl _ rfl _ zero_hash ?_; intro w2 g2 hg2 hl2 B2 b2)
          | ((with_reducible refine at_st 3 ?_); refine wpList_sto _ rfl _ _ _ rfl g2 _ (B z32) rfl rfl B2 (by kernel_rfl) rfl (B_one _) ?_; intro w3 B3 r3; have q3 := below_row b2 r3 hg2; have B4 := B1.grow q3; have ck := HF.out.kd _ _ _ B4; have c3 := grow_trans b1 q3)
          | ((with_reducible refine at_bdd 53 ?_); refine wpList_bldg _ rfl _ _ rfl _ (by rw [List.map_toArray]; exact HBp.out) ?_)
          | ((with_reducible refine at_bdd 11 ?_); refine wpList_bldg _ rfl _ _ rfl _ (by rw [List.map_toArray]; exact HBp.out) ?_)
          | ((with_reducible refine at_ldd 10 9 ?_); refine wpList_ldmg _ rfl _ _ rfl g1 1 _ _ a rfl B4 HF.out.sa _ _ Tryd.underlying24 HF.out.la ?_)
          | ((with_reducible refine at_ldd 52 51 ?_); refine wpList_ldmg _ rfl _ _ rfl g1 1 _ _ a rfl B4 HF.out.sa _ _ Tryd.underlying24 HF.out.la ?_)
          | ((with_reducible refine at_ldd 16 15 ?_); refine wpList_ldmg _ rfl _ _ rfl g1 33 _ _ b rfl B4 HF.out.sb _ _ Tryd.underlying25 HF.out.lb ?_)
          | ((with_reducible refine at_ldd 58 57 ?_); refine wpList_ldmg _ rfl _ _ rfl g1 33 _ _ b rfl B4 HF.out.sb _ _ Tryd.underlying25 HF.out.lb ?_)
          | ((with_reducible refine at_ldd 22 21 ?_); refine wpList_ldmg _ rfl _ _ rfl g1 65 _ _ c rfl B4 HF.out.sc _ _ Tryd.underlying25 HF.out.lc ?_)
          | ((with_reducible refine at_ldd 37 36 ?_); refine wpList_ldmg _ rfl _ _ rfl g1 65 _ _ c rfl B4 HF.out.sc _ _ Tryd.underlying25 HF.out.lc ?_)
          | ((with_reducible refine at_ldd 28 27 ?_); refine wpList_ldmg _ rfl _ _ rfl g1 97 _ _ d rfl B4 HF.out.sd _ _ Tryd.underlying25 HF.out.ld ?_)
          | ((with_reducible refine at_ldd 43 42 ?_); refine wpList_ldmg _ rfl _ _ rfl g1 97 _ _ d rfl B4 HF.out.sd _ _ Tryd.underlying25 HF.out.ld ?_)
          | ((with_reducible refine at_ldd 17 3 ?_); refine wpList_ldg _ rfl _ _ rfl g2 _ rfl B3 _ _ Tryd.underlying25 (by kernel_rfl) ?_)
          | ((with_reducible refine at_ldd 23 3 ?_); refine wpList_ldg _ rfl _ _ rfl g2 _ rfl B3 _ _ Tryd.underlying25 (by kernel_rfl) ?_)
          | ((with_reducible refine at_ldd 29 3 ?_); refine wpList_ldg _ rfl _ _ rfl g2 _ rfl B3 _ _ Tryd.underlying25 (by kernel_rfl) ?_)
          | ((with_reducible refine at_ldd 38 3 ?_); refine wpList_ldg _ rfl _ _ rfl g2 _ rfl B3 _ _ Tryd.underlying25 (by kernel_rfl) ?_)
          | ((with_reducible refine at_ldd 44 3 ?_); refine wpList_ldg _ rfl _ _ rfl g2 _ rfl B3 _ _ Tryd.underlying25 (by kernel_rfl) ?_)
          | ((with_reducible refine at_ldd 59 3 ?_); refine wpList_ldg _ rfl _ _ rfl g2 _ rfl B3 _ _ Tryd.underlying25 (by kernel_rfl) ?_))
        go_ret
        exact ⟨rfl, c3⟩
  · have k0 : (k == 0) = false := by simp [hk]
    have k1 : (k == 1) = false := by simp [hk]
    have k2 : (k == 2) = true := by simp [hk]
    clear hk
    cases fa with
    | false =>
      have hr2 : r = 2 := by simpa using hr
      subst hr2
      clear hr
      go_enter Tryd.func16, Tryd.ntmps16
      go_wp2_with (first
        | ((with_reducible refine at_bxd 1 ?_); refine wpList_bx _ rfl _ _ rfl _ rfl ?_; intro w1 g1 hg1 hl1 B1 b1)
        | ((with_reducible refine at_bdd 4 ?_); refine wpList_bld _ rfl _ _ rfl _ (by rw [List.map_toArray]; exact HBh.out) ?_)
        | ((with_reducible refine at_ald 3 ?_); refine wpList_al _ rfl _ rfl _ zero_hash ?_; intro w2 g2 hg2 hl2 B2 b2)
        | ((with_reducible refine at_st 3 ?_); refine wpList_sto _ rfl _ _ _ rfl g2 _ (B z32) rfl rfl B2 (by kernel_rfl) rfl (B_one _) ?_; intro w3 B3 r3; have q3 := below_row b2 r3 hg2; have B4 := B1.grow q3; have ck := HF.out.kd _ _ _ B4; have c3 := grow_trans b1 q3)
        | ((with_reducible refine at_bdd 53 ?_); refine wpList_bldg _ rfl _ _ rfl _ (by rw [List.map_toArray]; exact HBp.out) ?_)
        | ((with_reducible refine at_bdd 11 ?_); refine wpList_bldg _ rfl _ _ rfl _ (by rw [List.map_toArray]; exact HBp.out) ?_)
        | ((with_reducible refine at_ldd 10 9 ?_); refine wpList_ldmg _ rfl _ _ rfl g1 1 _ _ a rfl B4 HF.out.sa _ _ Tryd.underlying24 HF.out.la ?_)
        | ((with_reducible refine at_ldd 52 51 ?_); refine wpList_ldmg _ rfl _ _ rfl g1 1 _ _ a rfl B4 HF.out.sa _ _ Tryd.underlying24 HF.out.la ?_)
        | ((with_reducible refine at_ldd 16 15 ?_); refine wpList_ldmg _ rfl _ _ rfl g1 33 _ _ b rfl B4 HF.out.sb _ _ Tryd.underlying25 HF.out.lb ?_)
        | ((with_reducible refine at_ldd 58 57 ?_); refine wpList_ldmg _ rfl _ _ rfl g1 33 _ _ b rfl B4 HF.out.sb _ _ Tryd.underlying25 HF.out.lb ?_)
        | ((with_reducible refine at_ldd 22 21 ?_); refine wpList_ldmg _ rfl _ _ rfl g1 65 _ _ c rfl B4 HF.out.sc _ _ Tryd.underlying25 HF.out.lc ?_)
        | ((with_reducible refine at_ldd 37 36 ?_); refine wpList_ldmg _ rfl _ _ rfl g1 65 _ _ c rfl B4 HF.out.sc _ _ Tryd.underlying25 HF.out.lc ?_)
        | ((with_reducible refine at_ldd 28 27 ?_); refine wpList_ldmg _ rfl _ _ rfl g1 97 _ _ d rfl B4 HF.out.sd _ _ Tryd.underlying25 HF.out.ld ?_)
        | ((with_reducible refine at_ldd 43 42 ?_); refine wpList_ldmg _ rfl _ _ rfl g1 97 _ _ d rfl B4 HF.out.sd _ _ Tryd.underlying25 HF.out.ld ?_)
        | ((with_reducible refine at_ldd 17 3 ?_); refine wpList_ldg _ rfl _ _ rfl g2 _ rfl B3 _ _ Tryd.underlying25 (by kernel_rfl) ?_)
        | ((with_reducible refine at_ldd 23 3 ?_); refine wpList_ldg _ rfl _ _ rfl g2 _ rfl B3 _ _ Tryd.underlying25 (by kernel_rfl) ?_)
        | ((with_reducible refine at_ldd 29 3 ?_); refine wpList_ldg _ rfl _ _ rfl g2 _ rfl B3 _ _ Tryd.underlying25 (by kernel_rfl) ?_)
        | ((with_reducible refine at_ldd 38 3 ?_); refine wpList_ldg _ rfl _ _ rfl g2 _ rfl B3 _ _ Tryd.underlying25 (by kernel_rfl) ?_)
        | ((with_reducible refine at_ldd 44 3 ?_); refine wpList_ldg _ rfl _ _ rfl g2 _ rfl B3 _ _ Tryd.underlying25 (by kernel_rfl) ?_)
        | ((with_reducible refine at_ldd 59 3 ?_); refine wpList_ldg _ rfl _ _ rfl g2 _ rfl B3 _ _ Tryd.underlying25 (by kernel_rfl) ?_))
      go_ret
      exact ⟨rfl, c3⟩
    | true =>
      cases fb with
      | false =>
        have hr2 : r = 2 := by simpa using hr
        subst hr2
        clear hr
        go_enter Tryd.func16, Tryd.ntmps16
        go_wp2_with (first
          | ((with_reducible refine at_bxd 1 ?_); refine wpList_bx _ rfl _ _ rfl _ rfl ?_; intro w1 g1 hg1 hl1 B1 b1)
          | ((with_reducible refine at_bdd 4 ?_); refine wpList_bld _ rfl _ _ rfl _ (by rw [List.map_toArray]; exact HBh.out) ?_)
          | ((with_reducible refine at_ald 3 ?_); refine wpList_al _ rfl _ rfl _ zero_hash ?_; intro w2 g2 hg2 hl2 B2 b2)
          | ((with_reducible refine at_st 3 ?_); refine wpList_sto _ rfl _ _ _ rfl g2 _ (B z32) rfl rfl B2 (by kernel_rfl) rfl (B_one _) ?_; intro w3 B3 r3; have q3 := below_row b2 r3 hg2; have B4 := B1.grow q3; have ck := HF.out.kd _ _ _ B4; have c3 := grow_trans b1 q3)
          | ((with_reducible refine at_bdd 53 ?_); refine wpList_bldg _ rfl _ _ rfl _ (by rw [List.map_toArray]; exact HBp.out) ?_)
          | ((with_reducible refine at_bdd 11 ?_); refine wpList_bldg _ rfl _ _ rfl _ (by rw [List.map_toArray]; exact HBp.out) ?_)
          | ((with_reducible refine at_ldd 10 9 ?_); refine wpList_ldmg _ rfl _ _ rfl g1 1 _ _ a rfl B4 HF.out.sa _ _ Tryd.underlying24 HF.out.la ?_)
          | ((with_reducible refine at_ldd 52 51 ?_); refine wpList_ldmg _ rfl _ _ rfl g1 1 _ _ a rfl B4 HF.out.sa _ _ Tryd.underlying24 HF.out.la ?_)
          | ((with_reducible refine at_ldd 16 15 ?_); refine wpList_ldmg _ rfl _ _ rfl g1 33 _ _ b rfl B4 HF.out.sb _ _ Tryd.underlying25 HF.out.lb ?_)
          | ((with_reducible refine at_ldd 58 57 ?_); refine wpList_ldmg _ rfl _ _ rfl g1 33 _ _ b rfl B4 HF.out.sb _ _ Tryd.underlying25 HF.out.lb ?_)
          | ((with_reducible refine at_ldd 22 21 ?_); refine wpList_ldmg _ rfl _ _ rfl g1 65 _ _ c rfl B4 HF.out.sc _ _ Tryd.underlying25 HF.out.lc ?_)
          | ((with_reducible refine at_ldd 37 36 ?_); refine wpList_ldmg _ rfl _ _ rfl g1 65 _ _ c rfl B4 HF.out.sc _ _ Tryd.underlying25 HF.out.lc ?_)
          | ((with_reducible refine at_ldd 28 27 ?_); refine wpList_ldmg _ rfl _ _ rfl g1 97 _ _ d rfl B4 HF.out.sd _ _ Tryd.underlying25 HF.out.ld ?_)
          | ((with_reducible refine at_ldd 43 42 ?_); refine wpList_ldmg _ rfl _ _ rfl g1 97 _ _ d rfl B4 HF.out.sd _ _ Tryd.underlying25 HF.out.ld ?_)
          | ((with_reducible refine at_ldd 17 3 ?_); refine wpList_ldg _ rfl _ _ rfl g2 _ rfl B3 _ _ Tryd.underlying25 (by kernel_rfl) ?_)
          | ((with_reducible refine at_ldd 23 3 ?_); refine wpList_ldg _ rfl _ _ rfl g2 _ rfl B3 _ _ Tryd.underlying25 (by kernel_rfl) ?_)
          | ((with_reducible refine at_ldd 29 3 ?_); refine wpList_ldg _ rfl _ _ rfl g2 _ rfl B3 _ _ Tryd.underlying25 (by kernel_rfl) ?_)
          | ((with_reducible refine at_ldd 38 3 ?_); refine wpList_ldg _ rfl _ _ rfl g2 _ rfl B3 _ _ Tryd.underlying25 (by kernel_rfl) ?_)
          | ((with_reducible refine at_ldd 44 3 ?_); refine wpList_ldg _ rfl _ _ rfl g2 _ rfl B3 _ _ Tryd.underlying25 (by kernel_rfl) ?_)
          | ((with_reducible refine at_ldd 59 3 ?_); refine wpList_ldg _ rfl _ _ rfl g2 _ rfl B3 _ _ Tryd.underlying25 (by kernel_rfl) ?_))
        go_ret
        exact ⟨rfl, c3⟩
      | true =>
        have hr2 : r = 0 := by simpa using hr
        subst hr2
        clear hr
        go_enter Tryd.func16, Tryd.ntmps16
        go_wp2_with (first
          | ((with_reducible refine at_bxd 1 ?_); refine wpList_bx _ rfl _ _ rfl _ rfl ?_; intro w1 g1 hg1 hl1 B1 b1)
          | ((with_reducible refine at_bdd 4 ?_); refine wpList_bld _ rfl _ _ rfl _ (by rw [List.map_toArray]; exact HBh.out) ?_)
          | ((with_reducible refine at_ald 3 ?_); refine wpList_al _ rfl _ rfl _ zero_hash ?_; intro w2 g2 hg2 hl2 B2 b2)
          | ((with_reducible refine at_st 3 ?_); refine wpList_sto _ rfl _ _ _ rfl g2 _ (B z32) rfl rfl B2 (by kernel_rfl) rfl (B_one _) ?_; intro w3 B3 r3; have q3 := below_row b2 r3 hg2; have B4 := B1.grow q3; have ck := HF.out.kd _ _ _ B4; have c3 := grow_trans b1 q3)
          | ((with_reducible refine at_bdd 53 ?_); refine wpList_bldg _ rfl _ _ rfl _ (by rw [List.map_toArray]; exact HBp.out) ?_)
          | ((with_reducible refine at_bdd 11 ?_); refine wpList_bldg _ rfl _ _ rfl _ (by rw [List.map_toArray]; exact HBp.out) ?_)
          | ((with_reducible refine at_ldd 10 9 ?_); refine wpList_ldmg _ rfl _ _ rfl g1 1 _ _ a rfl B4 HF.out.sa _ _ Tryd.underlying24 HF.out.la ?_)
          | ((with_reducible refine at_ldd 52 51 ?_); refine wpList_ldmg _ rfl _ _ rfl g1 1 _ _ a rfl B4 HF.out.sa _ _ Tryd.underlying24 HF.out.la ?_)
          | ((with_reducible refine at_ldd 16 15 ?_); refine wpList_ldmg _ rfl _ _ rfl g1 33 _ _ b rfl B4 HF.out.sb _ _ Tryd.underlying25 HF.out.lb ?_)
          | ((with_reducible refine at_ldd 58 57 ?_); refine wpList_ldmg _ rfl _ _ rfl g1 33 _ _ b rfl B4 HF.out.sb _ _ Tryd.underlying25 HF.out.lb ?_)
          | ((with_reducible refine at_ldd 22 21 ?_); refine wpList_ldmg _ rfl _ _ rfl g1 65 _ _ c rfl B4 HF.out.sc _ _ Tryd.underlying25 HF.out.lc ?_)
          | ((with_reducible refine at_ldd 37 36 ?_); refine wpList_ldmg _ rfl _ _ rfl g1 65 _ _ c rfl B4 HF.out.sc _ _ Tryd.underlying25 HF.out.lc ?_)
          | ((with_reducible refine at_ldd 28 27 ?_); refine wpList_ldmg _ rfl _ _ rfl g1 97 _ _ d rfl B4 HF.out.sd _ _ Tryd.underlying25 HF.out.ld ?_)
          | ((with_reducible refine at_ldd 43 42 ?_); refine wpList_ldmg _ rfl _ _ rfl g1 97 _ _ d rfl B4 HF.out.sd _ _ Tryd.underlying25 HF.out.ld ?_)
          | ((with_reducible refine at_ldd 17 3 ?_); refine wpList_ldg _ rfl _ _ rfl g2 _ rfl B3 _ _ Tryd.underlying25 (by kernel_rfl) ?_)
          | ((with_reducible refine at_ldd 23 3 ?_); refine wpList_ldg _ rfl _ _ rfl g2 _ rfl B3 _ _ Tryd.underlying25 (by kernel_rfl) ?_)
          | ((with_reducible refine at_ldd 29 3 ?_); refine wpList_ldg _ rfl _ _ rfl g2 _ rfl B3 _ _ Tryd.underlying25 (by kernel_rfl) ?_)
          | ((with_reducible refine at_ldd 38 3 ?_); refine wpList_ldg _ rfl _ _ rfl g2 _ rfl B3 _ _ Tryd.underlying25 (by kernel_rfl) ?_)
          | ((with_reducible refine at_ldd 44 3 ?_); refine wpList_ldg _ rfl _ _ rfl g2 _ rfl B3 _ _ Tryd.underlying25 (by kernel_rfl) ?_)
          | ((with_reducible refine at_ldd 59 3 ?_); refine wpList_ldg _ rfl _ _ rfl g2 _ rfl B3 _ _ Tryd.underlying25 (by kernel_rfl) ?_))
        go_ret
        exact ⟨rfl, c3⟩
  · have k0 : (k == 0) = false := by simp [h0]
    have k1 : (k == 1) = false := by simp [h1]
    have k2 : (k == 2) = false := by simp [h2]
    subst hr
    clear h0 h1 h2
    go_enter Tryd.func16, Tryd.ntmps16
    go_wp2_with (first
      | ((with_reducible refine at_bxd 1 ?_); refine wpList_bx _ rfl _ _ rfl _ rfl ?_; intro w1 g1 hg1 hl1 B1 b1)
      | ((with_reducible refine at_bdd 4 ?_); refine wpList_bld _ rfl _ _ rfl _ (by rw [List.map_toArray]; exact HBh.out) ?_)
      | ((with_reducible refine at_ald 3 ?_); refine wpList_al _ rfl _ rfl _ zero_hash ?_; intro w2 g2 hg2 hl2 B2 b2)
      | ((with_reducible refine at_st 3 ?_); refine wpList_sto _ rfl _ _ _ rfl g2 _ (B z32) rfl rfl B2 (by kernel_rfl) rfl (B_one _) ?_; intro w3 B3 r3; have q3 := below_row b2 r3 hg2; have B4 := B1.grow q3; have ck := HF.out.kd _ _ _ B4; have c3 := grow_trans b1 q3)
      | ((with_reducible refine at_bdd 53 ?_); refine wpList_bldg _ rfl _ _ rfl _ (by rw [List.map_toArray]; exact HBp.out) ?_)
      | ((with_reducible refine at_bdd 11 ?_); refine wpList_bldg _ rfl _ _ rfl _ (by rw [List.map_toArray]; exact HBp.out) ?_)
      | ((with_reducible refine at_ldd 10 9 ?_); refine wpList_ldmg _ rfl _ _ rfl g1 1 _ _ a rfl B4 HF.out.sa _ _ Tryd.underlying24 HF.out.la ?_)
      | ((with_reducible refine at_ldd 52 51 ?_); refine wpList_ldmg _ rfl _ _ rfl g1 1 _ _ a rfl B4 HF.out.sa _ _ Tryd.underlying24 HF.out.la ?_)
      | ((with_reducible refine at_ldd 16 15 ?_); refine wpList_ldmg _ rfl _ _ rfl g1 33 _ _ b rfl B4 HF.out.sb _ _ Tryd.underlying25 HF.out.lb ?_)
      | ((with_reducible refine at_ldd 58 57 ?_); refine wpList_ldmg _ rfl _ _ rfl g1 33 _ _ b rfl B4 HF.out.sb _ _ Tryd.underlying25 HF.out.lb ?_)
      | ((with_reducible refine at_ldd 22 21 ?_); refine wpList_ldmg _ rfl _ _ rfl g1 65 _ _ c rfl B4 HF.out.sc _ _ Tryd.underlying25 HF.out.lc ?_)
      | ((with_reducible refine at_ldd 37 36 ?_); refine wpList_ldmg _ rfl _ _ rfl g1 65 _ _ c rfl B4 HF.out.sc _ _ Tryd.underlying25 HF.out.lc ?_)
      | ((with_reducible refine at_ldd 28 27 ?_); refine wpList_ldmg _ rfl _ _ rfl g1 97 _ _ d rfl B4 HF.out.sd _ _ Tryd.underlying25 HF.out.ld ?_)
      | ((with_reducible refine at_ldd 43 42 ?_); refine wpList_ldmg _ rfl _ _ rfl g1 97 _ _ d rfl B4 HF.out.sd _ _ Tryd.underlying25 HF.out.ld ?_)
      | ((with_reducible refine at_ldd 17 3 ?_); refine wpList_ldg _ rfl _ _ rfl g2 _ rfl B3 _ _ Tryd.underlying25 (by kernel_rfl) ?_)
      | ((with_reducible refine at_ldd 23 3 ?_); refine wpList_ldg _ rfl _ _ rfl g2 _ rfl B3 _ _ Tryd.underlying25 (by kernel_rfl) ?_)
      | ((with_reducible refine at_ldd 29 3 ?_); refine wpList_ldg _ rfl _ _ rfl g2 _ rfl B3 _ _ Tryd.underlying25 (by kernel_rfl) ?_)
      | ((with_reducible refine at_ldd 38 3 ?_); refine wpList_ldg _ rfl _ _ rfl g2 _ rfl B3 _ _ Tryd.underlying25 (by kernel_rfl) ?_)
      | ((with_reducible refine at_ldd 44 3 ?_); refine wpList_ldg _ rfl _ _ rfl g2 _ rfl B3 _ _ Tryd.underlying25 (by kernel_rfl) ?_)
      | ((with_reducible refine at_ldd 59 3 ?_); refine wpList_ldg _ rfl _ _ rfl g2 _ rfl B3 _ _ Tryd.underlying25 (by kernel_rfl) ?_))
    go_ret
    exact ⟨rfl, c3⟩

theorem refCheck_any (k : Int) (a b c d : List Int) (w : World) (h : Nd k a b c d) : Calls Tryd.prog 16 #[.agg (B (nd k a b c d))] w fun e w' => e = .returned (.int .i64 (okE k a b c d)) ∧ Below w.heap.size w w' := by
  refine rcheck_core k a b c d w h _ _ _ _ (okE k a b c d) rfl rfl rfl rfl ?_
  unfold okE okN
  by_cases h0 : k = 0
  · exact .inl ⟨h0, by simp [h0, and_assoc]⟩
  · by_cases h1 : k = 1
    · exact .inr (.inl ⟨h1, by simp [h1]⟩)
    · by_cases h2 : k = 2
      · exact .inr (.inr (.inl ⟨h2, by simp [h2]⟩))
      · exact .inr (.inr (.inr ⟨h0, h1, h2, by simp [h0, h1, h2]⟩))

end Go.Proofs.YtjcklpdifanjlaaDoor

/- Lists of digests and proofs in memory; rootcellarkit.SameHashes and SameProof, as contracts. -/
namespace Go.Proofs.YtjcklpdifanjlaaDoor
set_option maxRecDepth 20000
open Go.RowKit

/-- A slice of digests. -/
def HsAt (w : World) (v : Value) (hs : List (List Int)) : Prop :=
  ∃ a cap, v = .slice a hs.length cap ∧ hs.length ≤ cap ∧ (0 < hs.length → ∃ g off, a = some ⟨g, off, none⟩ ∧ ∀ i, i < hs.length → w.rangeAt g (off + i * 32) (B (hs.getD i [])).toList) ∧
    ∀ i, i < hs.length → (hs.getD i []).length = 32 ∧ Bytes (hs.getD i [])
theorem HsAt.grow {w w' : World} {v : Value} {hs : List (List Int)} (h : HsAt w v hs) (hb : Below w.heap.size w w') : HsAt w' v hs := by
  obtain ⟨a, cap, e, h1, h2, h3⟩ := h
  refine ⟨a, cap, e, h1, fun hp => ?_, h3⟩
  obtain ⟨g, off, ea, hr⟩ := h2 hp
  exact ⟨g, off, ea, fun i hi => rng_grow (hr i hi) hb⟩
theorem HsAt.kp {w : World} {v : Value} {hs : List (List Int)} (h : HsAt w v hs) : Kp w (fun w' => HsAt w' v hs) := fun _ q => h.grow q
theorem HsAt.nil (w : World) : HsAt w (.slice none 0 0) [] := ⟨none, 0, rfl, by simp, fun h => by simp at h, fun i hi => by simp at hi⟩

/-- A proof's cells: its sides, its end. -/
def encR (s : Value) (z : List Int) : List Value := s :: z.map (Value.int .u8)
theorem encR_length (s : Value) (z : List Int) (h : z.length = 129) : (encR s z).length = 130 := by simp [encR, h]
theorem size_proof : (Tryd.prog.info? 60).map (·.size) = some 130 := by kernel_rfl

theorem u_proof : ∃ fs, Tryd.prog.underlying 60 = some (.struct fs) := ⟨_, Tryd.underlying60⟩

theorem proof_side {w : World} {g : Nat} {t : TypeId} {s : Value} {z : List Int} (h : Blk w g t (encR s z).toArray) : w.cell? ⟨g, 0, none⟩ = some s := by
  rw [h.cell]
  simp [encR]
theorem proof_end {w : World} {g : Nat} {t : TypeId} {s : Value} {z : List Int} (h : Blk w g t (encR s z).toArray) : w.rangeAt g 1 (z.map (Value.int .u8)) := by
  intro j v hv
  rw [h.cell]
  simp only [encR, List.getElem?_toArray]
  rw [Nat.add_comm, List.getElem?_cons_succ]
  exact hv

/-- load of a proof's end. -/
theorem wpList_lde {ops : Array Oper} {rest : List Oper} {op : Oper} {a : Act} {Q : Exit → Act → World → Prop} (w : World) (hgd : op.guard = none) (x : Operand) (ho : op.op = .load 27 x)
    (g : Nat) (t : TypeId) (s : Value) (z : List Int) (hx : a.eval x = .pointer (some ⟨g, 1, none⟩)) (h : Blk w g t (encR s z).toArray) (hl : z.length = 129)
    (hk : wpList Tryd.prog ops Q rest (a.put op.dst (.agg (B z))) w) : wpList Tryd.prog ops Q (op :: rest) a w := by
  obtain ⟨fs, hu⟩ := u_node
  exact wpList_load_mid hgd 27 x ho g 1 hx (z.map (Value.int .u8)) _ (proof_end h) hu rfl (by rw [List.length_map, hl]; exact size_node) hk

set_option maxRecDepth 100000 in
set_option maxHeartbeats 4000000 in
theorem sameHashes_any (x y : Value) (xs ys : List (List Int)) (w : World) (hx : HsAt w x xs) (hy : HsAt w y ys) (hn : xs.length ≤ 140737488355328) :
    Calls Tryd.prog 60 #[x, y] w fun e w' => e = .returned (.bool (decide (xs = ys))) ∧ Below w.heap.size w w' := by
  obtain ⟨xa, xc, rfl, _, hxc, hxl⟩ := hx
  obtain ⟨ya, yc, rfl, _, hyc, hyl⟩ := hy
  by_cases hlen : xs.length = ys.length
  · have HX := hidden hxc
    have HY := hidden hyc
    have HXL := hidden hxl
    have HYL := hidden hyl
    have HLE := hidden hlen
    obtain ⟨n, hnn⟩ : ∃ n, n = xs.length := ⟨_, rfl⟩
    have HN := hidden hnn
    rw [← hlen, ← hnn]
    rw [← hnn] at hn
    obtain ⟨r, hr⟩ : ∃ r, r = decide (xs = ys) := ⟨_, rfl⟩
    have HR := hidden hr
    rw [← hr]
    have hne : ((n : Int) != (n : Int)) = false := by simp
    clear hxc hyc hxl hyl hlen hnn hr
    go_enter Tryd.func60, Tryd.ntmps60
    go_wp2_with fail
    go_loopw [5] (fun i wr => ∃ k : Nat, k ≤ n ∧ i = .int .i64 k ∧ Hid (∀ q, q < k → xs.getD q [] = ys.getD q []) ∧ Below w.heap.size w wr) (fun i _ => n - (intOf i).toNat)
    case atStart => exact ⟨0, by omega, rfl, fun q hq => by omega, Below.refl _ _⟩
    case round =>
      obtain ⟨k, hk, rfl, hsm, hbw⟩ := hrel
      by_cases hlt : k < n
      · have hlx : k < xs.length := by rw [← HN.out]; exact hlt
        have hly : k < ys.length := by rw [← HLE.out]; exact hlx
        obtain ⟨gx, ox, rfl, hcx⟩ := HX.out (by omega)
        obtain ⟨gy, oy, rfl, hcy⟩ := HY.out (by omega)
        have z1 : (k : Int) < (n : Int) := by omega
        have z0 : (0 : Int) ≤ (k : Int) := by omega
        obtain ⟨J, hJ⟩ : ∃ J, J = xs.getD k [] := ⟨_, rfl⟩
        obtain ⟨K, hK⟩ : ∃ K, K = ys.getD k [] := ⟨_, rfl⟩
        have HJL : Hid (J.length = 32) := by show _ = _; rw [hJ]; exact (HXL.out k hlx).1
        have HKL : Hid (K.length = 32) := by show _ = _; rw [hK]; exact (HYL.out k hly).1
        have hEq : ∀ w, (Op.equalIn 10000 25 (.agg (B J)) (.agg (B K))).run Tryd.prog w = .ok (decide (J = K)) w := fun w => hash_eq J K HJL.out HKL.out w
        have HS : Hid (∀ w', Below w.heap.size w w' → w'.rangeAt gx (ox + k * 32) (B J).toList ∧ w'.rangeAt gy (oy + k * 32) (B K).toList) := fun w' hw' => by
          rw [hJ, hK]
          exact ⟨rng_grow (hcx k hlx) hw', rng_grow (hcy k hly) hw'⟩
        have HLJ : Hid ((Tryd.prog.info? 25).map (·.size) = some (B J).toList.length) := by show _ = _; rw [B_toList, List.length_map, HJL.out]; exact sz_hash
        have HLK : Hid ((Tryd.prog.info? 25).map (·.size) = some (B K).toList.length) := by show _ = _; rw [B_toList, List.length_map, HKL.out]; exact sz_hash
        have HJ := hidden hJ
        have HK := hidden hK
        clear hcx hcy hlx hly hJ hK
        by_cases hJK : J = K
        · have HSM : Hid (∀ q, q < k + 1 → xs.getD q [] = ys.getD q []) := by
            intro q hq
            by_cases e : q = k
            · rw [e, ← HJ.out, ← HK.out, hJK]
            · exact hsm.out q (by omega)
          rw [decide_eq_true hJK] at hEq
          have HJK := hidden hJK
          clear hJK
          go_wp2_with fail
          have d0 : Below w.heap.size w wr.drew := grow_trans hbw (Below.refl _ _).drew
          refine wp_region_held_drew (S := fun w' => w'.rangeAt gx (ox + k * 32) (B J).toList ∧ w'.rangeAt gy (oy + k * 32) (B K).toList) (by kernel_rfl) (HS.out _ d0) (fun hHeld => ?_)
          refine wpAnyH_take (i := 0) (v := .slice (some ⟨gx, ox, none⟩) n xc) rfl (by kernel_rfl) (by kernel_rfl) (by kernel_rfl) (fun _ _ _ h => h) (Or.inl ⟨by rfl, fun w hS => by go_simp⟩) hHeld ?_
          simp only [Act.put, List.getElem_toArray, List.getElem_cons_zero, List.setIfInBounds_toArray, List.set_cons_zero, List.set_cons_succ]
          refine wpAnyH_take (i := 1) (v := .int .i64 k) rfl (by kernel_rfl) (by kernel_rfl) (by kernel_rfl) (fun _ _ _ h => h) (Or.inl ⟨by rfl, fun w hS => by go_simp⟩) hHeld ?_
          simp only [Act.put, List.getElem_toArray, List.getElem_cons_zero, List.getElem_cons_succ, List.setIfInBounds_toArray, List.set_cons_zero, List.set_cons_succ]
          refine wpAnyH_take (i := 2) (v := .pointer (some ⟨gx, ox + k * 32, none⟩)) rfl (by kernel_rfl) (by kernel_rfl) (by kernel_rfl) (fun _ _ _ h => h) (Or.inl ⟨by rfl, fun w hS => by go_simp⟩) hHeld ?_
          simp only [Act.put, List.getElem_toArray, List.getElem_cons_zero, List.getElem_cons_succ, List.setIfInBounds_toArray, List.set_cons_zero, List.set_cons_succ]
          refine wpAnyH_take (i := 3) (v := .agg (B J)) rfl (by kernel_rfl) (by kernel_rfl) (by kernel_rfl) (fun _ _ _ h => h) (yieldsIf_load_mid rfl 25 (.tmp 19) rfl gx (ox + k * 32) rfl (B J).toList _ (fun w hS => hS.1) Tryd.underlying25 rfl HLJ.out) hHeld ?_
          simp only [Act.put, List.getElem_toArray, List.getElem_cons_zero, List.getElem_cons_succ, List.setIfInBounds_toArray, List.set_cons_zero, List.set_cons_succ]
          refine wpAnyH_take (i := 4) (v := .slice (some ⟨gy, oy, none⟩) n yc) rfl (by kernel_rfl) (by kernel_rfl) (by kernel_rfl) (fun _ _ _ h => h) (Or.inl ⟨by rfl, fun w hS => by go_simp⟩) hHeld ?_
          simp only [Act.put, List.getElem_toArray, List.getElem_cons_zero, List.getElem_cons_succ, List.setIfInBounds_toArray, List.set_cons_zero, List.set_cons_succ]
          refine wpAnyH_take (i := 5) (v := .int .i64 k) rfl (by kernel_rfl) (by kernel_rfl) (by kernel_rfl) (fun _ _ _ h => h) (Or.inl ⟨by rfl, fun w hS => by go_simp⟩) hHeld ?_
          simp only [Act.put, List.getElem_toArray, List.getElem_cons_zero, List.getElem_cons_succ, List.setIfInBounds_toArray, List.set_cons_zero, List.set_cons_succ]
          refine wpAnyH_take (i := 6) (v := .pointer (some ⟨gy, oy + k * 32, none⟩)) rfl (by kernel_rfl) (by kernel_rfl) (by kernel_rfl) (fun _ _ _ h => h) (Or.inl ⟨by rfl, fun w hS => by go_simp⟩) hHeld ?_
          simp only [Act.put, List.getElem_toArray, List.getElem_cons_zero, List.getElem_cons_succ, List.setIfInBounds_toArray, List.set_cons_zero, List.set_cons_succ]
          refine wpAnyH_take (i := 7) (v := .agg (B K)) rfl (by kernel_rfl) (by kernel_rfl) (by kernel_rfl) (fun _ _ _ h => h) (yieldsIf_load_mid rfl 25 (.tmp 23) rfl gy (oy + k * 32) rfl (B K).toList _ (fun w hS => hS.2) Tryd.underlying25 rfl HLK.out) hHeld ?_
          simp only [Act.put, List.getElem_toArray, List.getElem_cons_zero, List.getElem_cons_succ, List.setIfInBounds_toArray, List.set_cons_zero, List.set_cons_succ]
          refine wpAnyH_take (i := 8) (v := .bool false) rfl (by kernel_rfl) (by kernel_rfl) (by kernel_rfl) (fun _ _ _ h => h) (Or.inl ⟨by rfl, fun w hS => by go_simp⟩) hHeld ?_
          simp only [Act.put, List.getElem_toArray, List.getElem_cons_zero, List.getElem_cons_succ, List.setIfInBounds_toArray, List.set_cons_zero, List.set_cons_succ]
          refine wpAnyH_done (by kernel_rfl) ?_ _
          go_wp2_with fail
          exact ⟨⟨k + 1, by omega, by go_num, HSM, d0⟩, by simp [intOf]; omega⟩
        · have HF : Hid (r = false) := by
            show _ = _
            rw [HR.out, decide_eq_false]
            intro e
            apply hJK
            rw [HJ.out, HK.out, e]
          rw [decide_eq_false hJK] at hEq
          clear hJK
          go_wp2_with fail
          have d0 : Below w.heap.size w wr.drew := grow_trans hbw (Below.refl _ _).drew
          refine wp_region_held_drew (S := fun w' => w'.rangeAt gx (ox + k * 32) (B J).toList ∧ w'.rangeAt gy (oy + k * 32) (B K).toList) (by kernel_rfl) (HS.out _ d0) (fun hHeld => ?_)
          refine wpAnyH_take (i := 0) (v := .slice (some ⟨gx, ox, none⟩) n xc) rfl (by kernel_rfl) (by kernel_rfl) (by kernel_rfl) (fun _ _ _ h => h) (Or.inl ⟨by rfl, fun w hS => by go_simp⟩) hHeld ?_
          simp only [Act.put, List.getElem_toArray, List.getElem_cons_zero, List.setIfInBounds_toArray, List.set_cons_zero, List.set_cons_succ]
          refine wpAnyH_take (i := 1) (v := .int .i64 k) rfl (by kernel_rfl) (by kernel_rfl) (by kernel_rfl) (fun _ _ _ h => h) (Or.inl ⟨by rfl, fun w hS => by go_simp⟩) hHeld ?_
          simp only [Act.put, List.getElem_toArray, List.getElem_cons_zero, List.getElem_cons_succ, List.setIfInBounds_toArray, List.set_cons_zero, List.set_cons_succ]
          refine wpAnyH_take (i := 2) (v := .pointer (some ⟨gx, ox + k * 32, none⟩)) rfl (by kernel_rfl) (by kernel_rfl) (by kernel_rfl) (fun _ _ _ h => h) (Or.inl ⟨by rfl, fun w hS => by go_simp⟩) hHeld ?_
          simp only [Act.put, List.getElem_toArray, List.getElem_cons_zero, List.getElem_cons_succ, List.setIfInBounds_toArray, List.set_cons_zero, List.set_cons_succ]
          refine wpAnyH_take (i := 3) (v := .agg (B J)) rfl (by kernel_rfl) (by kernel_rfl) (by kernel_rfl) (fun _ _ _ h => h) (yieldsIf_load_mid rfl 25 (.tmp 19) rfl gx (ox + k * 32) rfl (B J).toList _ (fun w hS => hS.1) Tryd.underlying25 rfl HLJ.out) hHeld ?_
          simp only [Act.put, List.getElem_toArray, List.getElem_cons_zero, List.getElem_cons_succ, List.setIfInBounds_toArray, List.set_cons_zero, List.set_cons_succ]
          refine wpAnyH_take (i := 4) (v := .slice (some ⟨gy, oy, none⟩) n yc) rfl (by kernel_rfl) (by kernel_rfl) (by kernel_rfl) (fun _ _ _ h => h) (Or.inl ⟨by rfl, fun w hS => by go_simp⟩) hHeld ?_
          simp only [Act.put, List.getElem_toArray, List.getElem_cons_zero, List.getElem_cons_succ, List.setIfInBounds_toArray, List.set_cons_zero, List.set_cons_succ]
          refine wpAnyH_take (i := 5) (v := .int .i64 k) rfl (by kernel_rfl) (by kernel_rfl) (by kernel_rfl) (fun _ _ _ h => h) (Or.inl ⟨by rfl, fun w hS => by go_simp⟩) hHeld ?_
          simp only [Act.put, List.getElem_toArray, List.getElem_cons_zero, List.getElem_cons_succ, List.setIfInBounds_toArray, List.set_cons_zero, List.set_cons_succ]
          refine wpAnyH_take (i := 6) (v := .pointer (some ⟨gy, oy + k * 32, none⟩)) rfl (by kernel_rfl) (by kernel_rfl) (by kernel_rfl) (fun _ _ _ h => h) (Or.inl ⟨by rfl, fun w hS => by go_simp⟩) hHeld ?_
          simp only [Act.put, List.getElem_toArray, List.getElem_cons_zero, List.getElem_cons_succ, List.setIfInBounds_toArray, List.set_cons_zero, List.set_cons_succ]
          refine wpAnyH_take (i := 7) (v := .agg (B K)) rfl (by kernel_rfl) (by kernel_rfl) (by kernel_rfl) (fun _ _ _ h => h) (yieldsIf_load_mid rfl 25 (.tmp 23) rfl gy (oy + k * 32) rfl (B K).toList _ (fun w hS => hS.2) Tryd.underlying25 rfl HLK.out) hHeld ?_
          simp only [Act.put, List.getElem_toArray, List.getElem_cons_zero, List.getElem_cons_succ, List.setIfInBounds_toArray, List.set_cons_zero, List.set_cons_succ]
          refine wpAnyH_take (i := 8) (v := .bool true) rfl (by kernel_rfl) (by kernel_rfl) (by kernel_rfl) (fun _ _ _ h => h) (Or.inl ⟨by rfl, fun w hS => by go_simp⟩) hHeld ?_
          simp only [Act.put, List.getElem_toArray, List.getElem_cons_zero, List.getElem_cons_succ, List.setIfInBounds_toArray, List.set_cons_zero, List.set_cons_succ]
          refine wpAnyH_done (by kernel_rfl) ?_ _
          go_wp2_with fail
          go_ret
          exact ⟨by rw [HF.out]; rfl, d0⟩
      · have HT : Hid (r = true) := by
          show _ = _
          rw [HR.out, decide_eq_true]
          apply List.ext_getElem HLE.out
          intro i h1 h2
          have h3 := hsm.out i (by have := HN.out; omega)
          simpa [List.getD, h1, h2] using h3
        have z1 : ¬ (k : Int) < (n : Int) := by omega
        clear hsm
        go_wp2
        go_ret
        exact ⟨by rw [HT.out]; rfl, hbw⟩
  · have hd : decide (xs = ys) = false := decide_eq_false (fun e => hlen (by rw [e]))
    rw [hd]
    have h1 : ((xs.length : Int) != (ys.length : Int)) = true := by simp; omega
    have h2 : ((xs.length : Int) == (ys.length : Int)) = false := by simp; omega
    clear hxc hyc hxl hyl hlen hd
    go_enter Tryd.func60, Tryd.ntmps60
    go_wp2
    go_ret
    exact ⟨rfl, Below.refl _ _⟩

set_option maxHeartbeats 4000000 in
theorem sameProof_any (x y : Value) (xs ys : List (List Int)) (k k' : Int) (a b c d a' b' c' d' : List Int) (w : World) (hx : HsAt w x xs) (hy : HsAt w y ys) (hn : xs.length ≤ 140737488355328) (h : Nd k a b c d) (h' : Nd k' a' b' c' d') :
    Calls Tryd.prog 29 #[.agg (encR x (nd k a b c d)).toArray, .agg (encR y (nd k' a' b' c' d')).toArray] w fun e w' => e = .returned (.bool (decide (nd k a b c d = nd k' a' b' c' d') && decide (xs = ys))) ∧ Below w.heap.size w w' := by
  have HSm : Hid (∀ w', Below w.heap.size w w' → Calls Tryd.prog 60 #[x, y] w' fun e w'' => e = .returned (.bool (decide (xs = ys))) ∧ Below w'.heap.size w' w'') := fun w' hb => sameHashes_any x y xs ys w' (hx.grow hb) (hy.grow hb) hn
  have hEq := fun w => node_eq h h' w
  have HL1 := hidden h.length
  have HL2 := hidden h'.length
  obtain ⟨N, hN⟩ : ∃ N, N = nd k a b c d := ⟨_, rfl⟩
  obtain ⟨M, hM⟩ : ∃ M, M = nd k' a' b' c' d' := ⟨_, rfl⟩
  rw [← hN] at HL1 hEq ⊢
  rw [← hM] at HL2 hEq ⊢
  obtain ⟨p, hp⟩ : ∃ p, p = decide (N = M) := ⟨_, rfl⟩
  obtain ⟨q, hq⟩ : ∃ q, q = decide (xs = ys) := ⟨_, rfl⟩
  rw [← hp] at hEq ⊢
  rw [← hq] at HSm ⊢
  obtain ⟨xa, xc, rfl, _⟩ := hx
  obtain ⟨ya, yc, rfl, _⟩ := hy
  clear h h' hN hM hp hq hn
  cases p with
  | true =>
    go_enter Tryd.func29, Tryd.ntmps29
    go_wp2_with (first
      | ((with_reducible refine at_bxd 2 ?_); refine wpList_bx _ rfl _ _ rfl _ rfl ?_; intro w1 g1 hg1 hl1 B1 b1; have cx := proof_side B1)
      | ((with_reducible refine at_bxd 3 ?_); refine wpList_bx _ rfl _ _ rfl _ rfl ?_; intro w2 g2 hg2 hl2 B2 b2; have B1' := B1.grow b2; have c2 := grow_trans b1 b2; have cx2 := proof_side B1'; have cy := proof_side B2)
      | ((with_reducible refine at_ldd 6 5 ?_); refine wpList_lde _ rfl _ rfl g1 _ _ N rfl B1' HL1.out ?_)
      | ((with_reducible refine at_ldd 8 7 ?_); refine wpList_lde _ rfl _ rfl g2 _ _ M rfl B2 HL2.out ?_)
      | (go_at_call 60; refine (HSm.out _ c2).mono ?_; rintro e w3 ⟨rfl, b3⟩))
    go_ret
    exact ⟨by simp, grow_trans c2 b3⟩
  | false =>
    go_enter Tryd.func29, Tryd.ntmps29
    go_wp2_with (first
      | ((with_reducible refine at_bxd 2 ?_); refine wpList_bx _ rfl _ _ rfl _ rfl ?_; intro w1 g1 hg1 hl1 B1 b1; have cx := proof_side B1)
      | ((with_reducible refine at_bxd 3 ?_); refine wpList_bx _ rfl _ _ rfl _ rfl ?_; intro w2 g2 hg2 hl2 B2 b2; have B1' := B1.grow b2; have c2 := grow_trans b1 b2; have cx2 := proof_side B1'; have cy := proof_side B2)
      | ((with_reducible refine at_ldd 6 5 ?_); refine wpList_lde _ rfl _ rfl g1 _ _ N rfl B1' HL1.out ?_)
      | ((with_reducible refine at_ldd 8 7 ?_); refine wpList_lde _ rfl _ rfl g2 _ _ M rfl B2 HL2.out ?_))
    go_ret
    exact ⟨by simp, c2⟩

end Go.Proofs.YtjcklpdifanjlaaDoor
