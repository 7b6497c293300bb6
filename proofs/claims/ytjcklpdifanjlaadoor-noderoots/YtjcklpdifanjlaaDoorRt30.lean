/- The document's Check, Encode, Digest of nodes, as contracts. -/
import Derived.Test.YtjcklpdifanjlaaDoorRt21
import Derived.Test.YtjcklpdifanjlaaDoorRt29
import Derived.Test.YtjcklpdifanjlaaDoorRt26
namespace Go.Proofs.YtjcklpdifanjlaaDoor
set_option maxRecDepth 20000
open Go.RowKit

theorem wpList_ldmg {ops : Array Oper} {rest : List Oper} {op : Oper} {a : Act} {Q : Exit → Act → World → Prop} (w : World) (hgd : Region.wanted op (yielded ops a.tmps) = true) (x : Operand) (ty : TypeId) (ho : op.op = .load ty x)
    (g o : Nat) (t : TypeId) (zs xs : List Int) (hx : a.eval x = .pointer (some ⟨g, o, none⟩)) (h : Blk w g t (B zs)) (hs : Seg zs o xs) (n : Nat) (e : TypeId) (hu : Tryd.prog.underlying ty = some (.array n e)) (hi : (Tryd.prog.info? ty).map (·.size) = some xs.length)
    (hk : wpList Tryd.prog ops Q rest (a.put op.dst (.agg (B xs))) w) : wpList Tryd.prog ops Q (op :: rest) a w :=
  BigFrame.wpList_want hgd fun _ hK => wp_load_mid ty x ho g o hx (xs.map (Value.int .u8)) _ (hs.range h) hu rfl (by rw [hi]; simp) (hK _ _ hk)

theorem wpList_bldg {ops : Array Oper} {rest : List Oper} {op : Oper} {a : Act} {Q : Exit → Act → World → Prop} (w : World) (hgd : Region.wanted op (yielded ops a.tmps) = true) (ty : TypeId) (parts : Array (Nat × Operand)) (ho : op.op = .build ty parts)
    (cs : Array Value) (h : Tryd.prog.built ty (parts.map fun (i, x) => (i, a.eval x)).toList = some cs)
    (hk : wpList Tryd.prog ops Q rest (a.put op.dst (.agg cs)) w) : wpList Tryd.prog ops Q (op :: rest) a w := by
  refine BigFrame.wpList_want hgd fun K hK => ?_
  unfold Oper.wp execOp
  simp only [ho, Sem.run_bind, run_build w ty _ cs h, Result.andThen_ok, Sem.run_pure]
  exact hK _ _ hk

theorem built_path : Tryd.prog.built 24 [] = some (B z32) := by kernel_rfl

set_option maxHeartbeats 4000000 in
theorem rcheck_core (k : Int) (a b c d : List Int) (w : World) (h : Nd k a b c d) (fa fb fc fd : Bool) (r : Int) (ea : decide (a = z32) = fa) (eb : decide (b = z32) = fb) (ec : decide (c = z32) = fc) (ed : decide (d = z32) = fd)
    (hr : (k = 0 ∧ r = if (fa && fb && fc && fd) = true then 0 else 2) ∨ (k = 1 ∧ r = if (fc && fd) = true then 0 else 2) ∨ (k = 2 ∧ r = if (fa && fb) = true then 0 else 2) ∨ (k ≠ 0 ∧ k ≠ 1 ∧ k ≠ 2 ∧ r = 2)) :
    Calls Tryd.prog 16 #[.agg (B (nd k a b c d))] w fun e w' => e = .returned (.int .i64 r) ∧ Below w.heap.size w w' := by
  have HF := hidden h.facts
  have HBh : Hid (Tryd.prog.built 25 [] = some (B z32)) := built_hash
  have HBp : Hid (Tryd.prog.built 24 [] = some (B z32)) := built_path
  have qa : ∀ w, (Op.equalIn 10000 24 (.agg (B a)) (.agg (B z32))).run Tryd.prog w = .ok fa w := fun w => by rw [← ea]; exact path_eq a z32 h.la rfl w
  have qb : ∀ w, (Op.equalIn 10000 25 (.agg (B b)) (.agg (B z32))).run Tryd.prog w = .ok fb w := fun w => by rw [← eb]; exact hash_eq b z32 h.lb rfl w
  have qc : ∀ w, (Op.equalIn 10000 25 (.agg (B c)) (.agg (B z32))).run Tryd.prog w = .ok fc w := fun w => by rw [← ec]; exact hash_eq c z32 h.lc rfl w
  have qd : ∀ w, (Op.equalIn 10000 25 (.agg (B d)) (.agg (B z32))).run Tryd.prog w = .ok fd w := fun w => by rw [← ed]; exact hash_eq d z32 h.ld rfl w
  obtain ⟨N, hN⟩ : ∃ N, N = nd k a b c d := ⟨_, rfl⟩
  rw [← hN] at HF ⊢
  clear h hN ea eb ec ed
  rcases hr with ⟨hk, hr⟩ | ⟨hk, hr⟩ | ⟨hk, hr⟩ | ⟨h0, h1, h2, hr⟩
  · have k0 : (k == 0) = true := by simp [hk]
    have k1 : (k == 1) = false := by simp [hk]
    have k2 : (k == 2) = false := by simp [hk]
    clear hk
    cases fa with
    | false =>
      have hr2 : r = 2 := by simpa using hr
      subst hr2
      clear hr
      go_enter Tryd.func16, Tryd.ntmps16
      go_wp2_with (first
        | ((with_reducible refine at_bxd 1 ?_); refine wpList_bx _ rfl _ _ rfl _ rfl ?_; intro w1 g1 hg1 hl1 B1 b1)
        | ((with_reducible refine at_bdd 4 ?_); refine wpList_bld _ rfl _ _ rfl _ (by rw [List.map_toArray]; exact HBh.out) ?_)
        | ((with_reducible refine at_ald 3 ?_); refine wpList_al _ rfl _ rfl _ zero_hash ?_; intro w2 g2 hg2 hl2 B2 b2)
        | ((with_reducible refine at_st 3 ?_); refine wpList_sto _ rfl _ _ _ rfl g2 _ (B z32) rfl rfl B2 (by kernel_rfl) rfl (B_one _) ?_; intro w3 B3 r3; have q3 := below_row b2 r3 hg2; have B4 := B1.grow q3; have ck := HF.out.kd _ _ _ B4; have c3 := grow_trans b1 q3)
        | ((with_reducible refine at_bdd 53 ?_); refine wpList_bldg _ rfl _ _ rfl _ (by rw [List.map_toArray]; exact HBp.out) ?_)
        | ((with_reducible refine at_bdd 11 ?_); refine wpList_bldg _ rfl _ _ rfl _ (by rw [List.map_toArray]; exact HBp.out) ?_)
        | ((with_reducible refine at_ldd 10 9 ?_); refine wpList_ldmg _ rfl _ _ rfl g1 1 _ _ a rfl B4 HF.out.sa _ _ Tryd.underlying24 HF.out.la ?_)
        | ((with_reducible refine at_ldd 52 51 ?_); refine wpList_ldmg _ rfl _ _ rfl g1 1 _ _ a rfl B4 HF.out.sa _ _ Tryd.underlying24 HF.out.la ?_)
        | ((with_reducible refine at_ldd 16 15 ?_); refine wpList_ldmg _ rfl _ _ rfl g1 33 _ _ b rfl B4 HF.out.sb _ _ Tryd.underlying25 HF.out.lb ?_)
        | ((with_reducible refine at_ldd 58 57 ?_); refine wpList_ldmg _ rfl _ _ rfl g1 33 _ _ b rfl B4 HF.out.sb _ _ Tryd.underlying25 HF.out.lb ?_)
        | ((with_reducible refine at_ldd 22 21 ?_); refine wpList_ldmg _ rfl _ _ rfl g1 65 _ _ c rfl B4 HF.out.sc _ _ Tryd.underlying25 HF.out.lc ?_)
        | ((with_reducible refine at_ldd 37 36 ?_); refine wpList_ldmg _ rfl _ _ rfl g1 65 _ _ c rfl B4 HF.out.sc _ _ Tryd.underlying25 HF.out.lc ?_)
        | ((with_reducible refine at_ldd 28 27 ?_); refine wpList_ldmg _ rfl _ _ rfl g1 97 _ _ d rfl B4 HF.out.sd _ _ Tryd.underlying25 HF.out.ld ?_)
        | ((with_reducible refine at_ldd 43 42 ?_); refine wpList_ldmg _ rfl _ _ rfl g1 97 _ _ d rfl B4 HF.out.sd _ _ Tryd.underlying25 HF.out.ld ?_)
        | ((with_reducible refine at_ldd 17 3 ?_); refine wpList_ldg _ rfl _ _ rfl g2 _ rfl B3 _ _ Tryd.underlying25 (by kernel_rfl) ?_)
        | ((with_reducible refine at_ldd 23 3 ?_); refine wpList_ldg _ rfl _ _ rfl g2 _ rfl B3 _ _ Tryd.underlying25 (by kernel_rfl) ?_)
        | ((with_reducible refine at_ldd 29 3 ?_); refine wpList_ldg _ rfl _ _ rfl g2 _ rfl B3 _ _ Tryd.underlying25 (by kernel_rfl) ?_)
        | ((with_reducible refine at_ldd 38 3 ?_); refine wpList_ldg _ rfl _ _ rfl g2 _ rfl B3 _ _ Tryd.underlying25 (by kernel_rfl) ?_)
        | ((with_reducible refine at_ldd 44 3 ?_); refine wpList_ldg _ rfl _ _ rfl g2 _ rfl B3 _ _ Tryd.underlying25 (by kernel_rfl) ?_)
        | ((with_reducible refine at_ldd 59 3 ?_); refine wpList_ldg _ rfl _ _ rfl g2 _ rfl B3 _ _ Tryd.underlying25 (by kernel_rfl) ?_))
      go_ret
      exact ⟨rfl, c3⟩
    | true =>
      cases fb with
      | false =>
        have hr2 : r = 2 := by simpa using hr
        subst hr2
        clear hr
        go_enter Tryd.func16, Tryd.ntmps16
        go_wp2_with (first
          | ((with_reducible refine at_bxd 1 ?_); refine wpList_bx _ rfl _ _ rfl _ rfl ?_; intro w1 g1 hg1 hl1 B1 b1)
          | ((with_reducible refine at_bdd 4 ?_); refine wpList_bld _ rfl _ _ rfl _ (by rw [List.map_toArray]; exact HBh.out) ?_)
          | ((with_reducible refine at_ald 3 ?_); refine wpList_al _ rfl _ rfl _ zero_hash ?_; intro w2 g2 hg2 hl2 B2 b2)
          | ((with_reducible refine at_st 3 ?_); refine wpList_sto _ rfl _ _ _ rfl g2 _ (B z32) rfl rfl B2 (by kernel_rfl) rfl (B_one _) ?_; intro w3 B3 r3; have q3 := below_row b2 r3 hg2; have B4 := B1.grow q3; have ck := HF.out.kd _ _ _ B4; have c3 := grow_trans b1 q3)
          | ((with_reducible refine at_bdd 53 ?_); refine wpList_bldg _ rfl _ _ rfl _ (by rw [List.map_toArray]; exact HBp.out) ?_)
          | ((with_reducible refine at_bdd 11 ?_); refine wpList_bldg _ rfl _ _ rfl _ (by rw [List.map_toArray]; exact HBp.out) ?_)
          | ((with_reducible refine at_ldd 10 9 ?_); refine wpList_ldmg _ rfl _ _ rfl g1 1 _ _ a rfl B4 HF.out.sa _ _ Tryd.underlying24 HF.out.la ?_)
          | ((with_reducible refine at_ldd 52 51 ?_); refine wpList_ldmg _ rfl _ _ rfl g1 1 _ _ a rfl B4 HF.out.sa _ _ Tryd.underlying24 HF.out.la ?_)
          | ((with_reducible refine at_ldd 16 15 ?_); refine wpList_ldmg _ rfl _ _ rfl g1 33 _ _ b rfl B4 HF.out.sb _ _ Tryd.underlying25 HF.out.lb ?_)
          | ((with_reducible refine at_ldd 58 57 ?_); refine wpList_ldmg _ rfl _ _ rfl g1 33 _ _ b rfl B4 HF.out.sb _ _ Tryd.underlying25 HF.out.lb ?_)
          | ((with_reducible refine at_ldd 22 21 ?_); refine wpList_ldmg _ rfl _ _ rfl g1 65 _ _ c rfl B4 HF.out.sc _ _ Tryd.underlying25 HF.out.lc ?_)
          | ((with_reducible refine at_ldd 37 36 ?_); refine wpList_ldmg _ rfl _ _ rfl g1 65 _ _ c rfl B4 HF.out.sc _ _ Tryd.underlying25 HF.out.lc ?_)
          | ((with_reducible refine at_ldd 28 27 ?_); refine wpList_ldmg _ rfl _ _ rfl g1 97 _ _ d rfl B4 HF.out.sd _ _ Tryd.underlying25 HF.out.ld ?_)
          | ((with_reducible refine at_ldd 43 42 ?_); refine wpList_ldmg _ rfl _ _ rfl g1 97 _ _ d rfl B4 HF.out.sd _ _ Tryd.underlying25 HF.out.ld ?_)
          | ((with_reducible refine at_ldd 17 3 ?_); refine wpList_ldg _ rfl _ _ rfl g2 _ rfl B3 _ _ Tryd.underlying25 (by kernel_rfl) ?_)
          | ((with_reducible refine at_ldd 23 3 ?_); refine wpList_ldg _ rfl _ _ rfl g2 _ rfl B3 _ _ Tryd.underlying25 (by kernel_rfl) ?_)
          | ((with_reducible refine at_ldd 29 3 ?_); refine wpList_ldg _ rfl _ _ rfl g2 _ rfl B3 _ _ Tryd.underlying25 (by kernel_rfl) ?_)
          | ((with_reducible refine at_ldd 38 3 ?_); refine wpList_ldg _ rfl _ _ rfl g2 _ rfl B3 _ _ Tryd.underlying25 (by kernel_rfl) ?_)
          | ((with_reducible refine at_ldd 44 3 ?_); refine wpList_ldg _ rfl _ _ rfl g2 _ rfl B3 _ _ Tryd.underlying25 (by kernel_rfl) ?_)
          | ((with_reducible refine at_ldd 59 3 ?_); refine wpList_ldg _ rfl _ _ rfl g2 _ rfl B3 _ _ Tryd.underlying25 (by kernel_rfl) ?_))
        go_ret
        exact ⟨rfl, c3⟩
      | true =>
        cases fc with
        | false =>
          have hr2 : r = 2 := by simpa using hr
          subst hr2
          clear hr
          go_enter Tryd.func16, Tryd.ntmps16
          go_wp2_with (first
            | ((with_reducible refine at_bxd 1 ?_); refine wpList_bx _ rfl _ _ rfl _ rfl ?_; intro w1 g1 hg1 hl1 B1 b1)
            | ((with_reducible refine at_bdd 4 ?_); refine wpList_bld _ rfl _ _ rfl _ (by rw [List.map_toArray]; exact HBh.out) ?_)
            | ((with_reducible refine at_ald 3 ?_); refine wpList_al _ rfl _ rfl _ zero_hash ?_; intro w2 g2 hg2 hl2 B2 b2)
            | ((with_reducible refine at_st 3 ?_); refine wpList_sto _ rfl _ _ _ rfl g2 _ (B z32) rfl rfl B2 (by kernel_rfl) rfl (B_one _) ?_; intro w3 B3 r3; have q3 := below_row b2 r3 hg2; have B4 := B1.grow q3; have ck := HF.out.kd _ _ _ B4; have c3 := grow_trans b1 q3)
            | ((with_reducible refine at_bdd 53 ?_); refine wpList_bldg _ rfl _ _ rfl _ (by rw [List.map_toArray]; exact HBp.out) ?_)
            | ((with_reducible refine at_bdd 11 ?_); refine wpList_bldg _ rfl _ _ rfl _ (by rw [List.map_toArray]; exact HBp.out) ?_)
            | ((with_reducible refine at_ldd 10 9 ?_); refine wpList_ldmg _ rfl _ _ rfl g1 1 _ _ a rfl B4 HF.out.sa _ _ Tryd.underlying24 HF.out.la ?_)
            | ((with_reducible refine at_ldd 52 51 ?_); refine wpList_ldmg _ rfl _ _ rfl g1 1 _ _ a rfl B4 HF.out.sa _ _ Tryd.underlying24 HF.out.la ?_)
            | ((with_reducible refine at_ldd 16 15 ?_); refine wpList_ldmg _ rfl _ _ rfl g1 33 _ _ b rfl B4 HF.out.sb _ _ Tryd.underlying25 HF.out.lb ?_)
            | ((with_reducible refine at_ldd 58 57 ?_); refine wpList_ldmg _ rfl _ _ rfl g1 33 _ _ b rfl B4 HF.out.sb _ _ Tryd.underlying25 HF.out.lb ?_)
            | ((with_reducible refine at_ldd 22 21 ?_); refine wpList_ldmg _ rfl _ _ rfl g1 65 _ _ c rfl B4 HF.out.sc _ _ Tryd.underlying25 HF.out.lc ?_)
            | ((with_reducible refine at_ldd 37 36 ?_); refine wpList_ldmg _ rfl _ _ rfl g1 65 _ _ c rfl B4 HF.out.sc _ _ Tryd.underlying25 HF.out.lc ?_)
            | ((with_reducible refine at_ldd 28 27 ?_); refine wpList_ldmg _ rfl _ _ rfl g1 97 _ _ d rfl B4 HF.out.sd _ _ Tryd.underlying25 HF.out.ld ?_)
            | ((with_reducible refine at_ldd 43 42 ?_); refine wpList_ldmg _ rfl _ _ rfl g1 97 _ _ d rfl B4 HF.out.sd _ _ Tryd.underlying25 HF.out.ld ?_)
            | ((with_reducible refine at_ldd 17 3 ?_); refine wpList_ldg _ rfl _ _ rfl g2 _ rfl B3 _ _ Tryd.underlying25 (by kernel_rfl) ?_)
            | ((with_reducible refine at_ldd 23 3 ?_); refine wpList_ldg _ rfl _ _ rfl g2 _ rfl B3 _ _ Tryd.underlying25 (by kernel_rfl) ?_)
            | ((with_reducible refine at_ldd 29 3 ?_); refine wpList_ldg _ rfl _ _ rfl g2 _ rfl B3 _ _ Tryd.underlying25 (by kernel_rfl) ?_)
            | ((with_reducible refine at_ldd 38 3 ?_); refine wpList_ldg _ rfl _ _ rfl g2 _ rfl B3 _ _ Tryd.underlying25 (by kernel_rfl) ?_)
            | ((with_reducible refine at_ldd 44 3 ?_); refine wpList_ldg _ rfl _ _ rfl g2 _ rfl B3 _ _ Tryd.underlying25 (by kernel_rfl) ?_)
            | ((with_reducible refine at_ldd 59 3 ?_); refine wpList_ldg _ rfl _ _ rfl g2 _ rfl B3 _ _ Tryd.underlying25 (by kernel_rfl) ?_))
          go_ret
          exact ⟨rfl, c3⟩
        | true =>
          cases fd with
          | false =>
            have hr2 : r = 2 := by simpa using hr
            subst hr2
            clear hr
            go_enter Tryd.func16, Tryd.ntmps16
            go_wp2_with (first
              | ((with_reducible refine at_bxd 1 ?_); refine wpList_bx _ rfl _ _ rfl _ rfl ?_; intro w1 g1 hg1 hl1 B1 b1)
              | ((with_reducible refine at_bdd 4 ?_); refine wpList_bld _ rfl _ _ rfl _ (by rw [List.map_toArray]; exact HBh.out) ?_)
              | ((with_reducible refine at_ald 3 ?_); refine wpList_al _ rfl _ rfl _ zero_hash ?_; intro w2 g2 hg2 hl2 B2 b2)
              | ((with_reducible refine at_st 3 ?_); refine wpList_sto _ rfl _ _ _ rfl g2 _ (B z32) rfl rfl B2 (by kernel_rfl) rfl (B_one _) ?_; intro w3 B3 r3; have q3 := below_row b2 r3 hg2; have B4 := B1.grow q3; have ck := HF.out.kd _ _ _ B4; have c3 := grow_trans b1 q3)
              | ((with_reducible refine at_bdd 53 ?_); refine wpList_bldg _ rfl _ _ rfl _ (by rw [List.map_toArray]; exact HBp.out) ?_)
              | ((with_reducible refine at_bdd 11 ?_); refine wpList_bldg _ rfl _ _ rfl _ (by rw [List.map_toArray]; exact HBp.out) ?_)
              | ((with_reducible refine at_ldd 10 9 ?_); refine wpList_ldmg _ rfl _ _ rfl g1 1 _ _ a rfl B4 HF.out.sa _ _ Tryd.underlying24 HF.out.la ?_)
              | ((with_reducible refine at_ldd 52 51 ?_); refine wpList_ldmg _ rfl _ _ rfl g1 1 _ _ a rfl B4 HF.out.sa _ _ Tryd.underlying24 HF.out.la ?_)
              | ((with_reducible refine at_ldd 16 15 ?_); refine wpList_ldmg _ rfl _ _ rfl g1 33 _ _ b rfl B4 HF.out.sb _ _ Tryd.underlying25 HF.out.lb ?_)
              | ((with_reducible refine at_ldd 58 57 ?_); refine wpList_ldmg _ rfl _ _ rfl g1 33 _ _ b rfl B4 HF.out.sb _ _ Tryd.underlying25 HF.out.lb ?_)
              | ((with_reducible refine at_ldd 22 21 ?_); refine wpList_ldmg _ rfl _ _ rfl g1 65 _ _ c rfl B4 HF.out.sc _ _ Tryd.underlying25 HF.out.lc ?_)
              | ((with_reducible refine at_ldd 37 36 ?_); refine wpList_ldmg _ rfl _ _ rfl g1 65 _ _ c rfl B4 HF.out.sc _ _ Tryd.underlying25 HF.out.lc ?_)
              | ((with_reducible refine at_ldd 28 27 ?_); refine wpList_ldmg _ rfl _ _ rfl g1 97 _ _ d rfl B4 HF.out.sd _ _ Tryd.underlying25 HF.out.ld ?_)
              | ((with_reducible refine at_ldd 43 42 ?_); refine wpList_ldmg _ rfl _ _ rfl g1 97 _ _ d rfl B4 HF.out.sd _ _ Tryd.underlying25 HF.out.ld ?_)
              | ((with_reducible refine at_ldd 17 3 ?_); refine wpList_ldg _ rfl _ _ rfl g2 _ rfl B3 _ _ Tryd.underlying25 (by kernel_rfl) ?_)
              | ((with_reducible refine at_ldd 23 3 ?_); refine wpList_ldg _ rfl _ _ rfl g2 _ rfl B3 _ _ Tryd.underlying25 (by kernel_rfl) ?_)
              | ((with_reducible refine at_ldd 29 3 ?_); refine wpList_ldg _ rfl _ _ rfl g2 _ rfl B3 _ _ Tryd.underlying25 (by kernel_rfl) ?_)
              | ((with_reducible refine at_ldd 38 3 ?_); refine wpList_ldg _ rfl _ _ rfl g2 _ rfl B3 _ _ Tryd.underlying25 (by kernel_rfl) ?_)
              | ((with_reducible refine at_ldd 44 3 ?_); refine wpList_ldg _ rfl _ _ rfl g2 _ rfl B3 _ _ Tryd.underlying25 (by kernel_rfl) ?_)
              | ((with_reducible refine at_ldd 59 3 ?_); refine wpList_ldg _ rfl _ _ rfl g2 _ rfl B3 _ _ Tryd.underlying25 (by kernel_rfl) ?_))
            go_ret
            exact ⟨rfl, c3⟩
          | true =>
            have hr2 : r = 0 := by simpa using hr
            subst hr2
            clear hr
            go_enter Tryd.func16, Tryd.ntmps16
            go_wp2_with (first
              | ((with_reducible refine at_bxd 1 ?_); refine wpList_bx _ rfl _ _ rfl _ rfl ?_; intro w1 g1 hg1 hl1 B1 b1)
              | ((with_reducible refine at_bdd 4 ?_); refine wpList_bld _ rfl _ _ rfl _ (by rw [List.map_toArray]; exact HBh.out) ?_)
              | ((with_reducible refine at_ald 3 ?_); refine wpList_al _ rfl _ rfl _ zero_hash ?_; intro w2 g2 hg2 hl2 B2 b2)
              | ((with_reducible refine at_st 3 ?_); refine wpList_sto _ rfl _ _ _ rfl g2 _ (B z32) rfl rfl B2 (by kernel_rfl) rfl (B_one _) ?_; intro w3 B3 r3; have q3 := below_row b2 r3 hg2; have B4 := B1.grow q3; have ck := HF.out.kd _ _ _ B4; have c3 := grow_trans b1 q3)
              | ((with_reducible refine at_bdd 53 ?_); refine wpList_bldg _ rfl _ _ rfl _ (by rw [List.map_toArray]; exact HBp.out) ?_)
              | ((with_reducible refine at_bdd 11 ?_); refine wpList_bldg _ rfl _ _ rfl _ (by rw [List.map_toArray]; exact HBp.out) ?_)
              | ((with_reducible refine at_ldd 10 9 ?_); refine wpList_ldmg _ rfl _ _ rfl g1 1 _ _ a rfl B4 HF.out.sa _ _ Tryd.underlying24 HF.out.la ?_)
              | ((with_reducible refine at_ldd 52 51 ?_); refine wpList_ldmg _ rfl _ _ rfl g1 1 _ _ a rfl B4 HF.out.sa _ _ Tryd.underlying24 HF.out.la ?_)
              | ((with_reducible refine at_ldd 16 15 ?_); refine wpList_ldmg _ rfl _ _ rfl g1 33 _ _ b rfl B4 HF.out.sb _ _ Tryd.underlying25 HF.out.lb ?_)
              | ((with_reducible refine at_ldd 58 57 ?_); refine wpList_ldmg _ rfl _ _ rfl g1 33 _ _ b rfl B4 HF.out.sb _ _ Tryd.underlying25 HF.out.lb ?_)
              | ((with_reducible refine at_ldd 22 21 ?_); refine wpList_ldmg _ rfl _ _ rfl g1 65 _ _ c rfl B4 HF.out.sc _ _ Tryd.underlying25 HF.out.lc ?_)
              | ((with_reducible refine at_ldd 37 36 ?_); refine wpList_ldmg _ rfl _ _ rfl g1 65 _ _ c rfl B4 HF.out.sc _ _ Tryd.underlying25 HF.out.lc ?_)
              | ((with_reducible refine at_ldd 28 27 ?_); refine wpList_ldmg _ rfl _ _ rfl g1 97 _ _ d rfl B4 HF.out.sd _ _ Tryd.underlying25 HF.out.ld ?_)
              | ((with_reducible refine at_ldd 43 42 ?_); refine wpList_ldmg _ rfl _ _ rfl g1 97 _ _ d rfl B4 HF.out.sd _ _ Tryd.underlying25 HF.out.ld ?_)
              | ((with_reducible refine at_ldd 17 3 ?_); refine wpList_ldg _ rfl _ _ rfl g2 _ rfl B3 _ _ Tryd.underlying25 (by kernel_rfl) ?_)
              | ((with_reducible refine at_ldd 23 3 ?_); refine wpList_ldg _ rfl _ _ rfl g2 _ rfl B3 _ _ Tryd.underlying25 (by kernel_rfl) ?_)
              | ((with_reducible refine at_ldd 29 3 ?_); refine wpList_ldg _ rfl _ _ rfl g2 _ rfl B3 _ _ Tryd.underlying25 (by kernel_rfl) ?_)
              | ((with_reducible refine at_ldd 38 3 ?_); refine wpList_ldg _ rfl _ _ rfl g2 _ rfl B3 _ _ Tryd.underlying25 (by kernel_rfl) ?_)
              | ((with_reducible refine at_ldd 44 3 ?_); refine wpList_ldg _ rfl _ _ rfl g2 _ rfl B3 _ _ Tryd.underlying25 (by kernel_rfl) ?_)
              | ((with_reducible refine at_ldd 59 3 ?_); refine wpList_ldg _ rfl _ _ rfl g2 _ rfl B3 _ _ Tryd.underlying25 (by kernel_rfl) ?_))
            go_ret
            exact ⟨rfl, c3⟩
  · have k0 : (k == 0) = false := by simp [hk]
    have k1 : (k == 1) = true := by simp [hk]
    have k2 : (k == 2) = false := by simp [hk]
    clear hk
    cases fc with
    | false =>
      have hr2 : r = 2 := by simpa using hr
      subst hr2
      clear hr
      go_enter Tryd.func16, Tryd.ntmps16
      go_wp2_with (first
        | ((with_reducible refine at_bxd 1 ?_); refine wpList_bx _ rfl _ _ rfl _ rfl ?_; intro w1 g1 hg1 hl1 B1 b1)
        | ((with_reducible refine at_bdd 4 ?_); refine wpList_bld _ rfl _ _ rfl _ (by rw [List.map_toArray]; exact HBh.out) ?_)
        | ((with_reducible refine at_ald 3 ?_); refine wpList_al _ rfl _ rfl _ zero_hash ?_; intro w2 g2 hg2 hl2 B2 b2)
        | ((with_reducible refine at_st 3 ?_); refine wpList_sto _ rfl _ _ _ rfl g2 _ (B z32) rfl rfl B2 (by kernel_rfl) rfl (B_one _) ?_; intro w3 B3 r3; have q3 := below_row b2 r3 hg2; have B4 := B1.grow q3; have ck := HF.out.kd _ _ _ B4; have c3 := grow_trans b1 q3)
        | ((with_reducible refine at_bdd 53 ?_); refine wpList_bldg _ rfl _ _ rfl _ (by rw [List.map_toArray]; exact HBp.out) ?_)
        | ((with_reducible refine at_bdd 11 ?_); refine wpList_bldg _ rfl _ _ rfl _ (by rw [List.map_toArray]; exact HBp.out) ?_)
        | ((with_reducible refine at_ldd 10 9 ?_); refine wpList_ldmg _ rfl _ _ rfl g1 1 _ _ a rfl B4 HF.out.sa _ _ Tryd.underlying24 HF.out.la ?_)
        | ((with_reducible refine at_ldd 52 51 ?_); refine wpList_ldmg _ rfl _ _ rfl g1 1 _ _ a rfl B4 HF.out.sa _ _ Tryd.underlying24 HF.out.la ?_)
        | ((with_reducible refine at_ldd 16 15 ?_); refine wpList_ldmg _ rfl _ _ rfl g1 33 _ _ b rfl B4 HF.out.sb _ _ Tryd.underlying25 HF.out.lb ?_)
        | ((with_reducible refine at_ldd 58 57 ?_); refine wpList_ldmg _ rfl _ _ rfl g1 33 _ _ b rfl B4 HF.out.sb _ _ Tryd.underlying25 HF.out.lb ?_)
        | ((with_reducible refine at_ldd 22 21 ?_); refine wpList_ldmg _ rfl _ _ rfl g1 65 _ _ c rfl B4 HF.out.sc _ _ Tryd.underlying25 HF.out.lc ?_)
        | ((with_reducible refine at_ldd 37 36 ?_); refine wpList_ldmg _ rfl _ _ rfl g1 65 _ _ c rfl B4 HF.out.sc _ _ Tryd.underlying25 HF.out.lc ?_)
        | ((with_reducible refine at_ldd 28 27 ?_); refine wpList_ldmg _ rfl _ _ rfl g1 97 _ _ d rfl B4 HF.out.sd _ _ Tryd.underlying25 HF.out.ld ?_)
        | ((with_reducible refine at_ldd 43 42 ?_); refine wpList_ldmg _ rfl _ _ rfl g1 97 _ _ d rfl B4 HF.out.sd _ _ Tryd.underlying25 HF.out.ld ?_)
        | ((with_reducible refine at_ldd 17 3 ?_); refine wpList_ldg _ rfl _ _ rfl g2 _ rfl B3 _ _ Tryd.underlying25 (by kernel_rfl) ?_)
        | ((with_reducible refine at_ldd 23 3 ?_); refine wpList_ldg _ rfl _ _ rfl g2 _ rfl B3 _ _ Tryd.underlying25 (by kernel_rfl) ?_)
        | ((with_reducible refine at_ldd 29 3 ?_); refine wpList_ldg _ rfl _ _ rfl g2 _ rfl B3 _ _ Tryd.underlying25 (by kernel_rfl) ?_)
        | ((with_reducible refine at_ldd 38 3 ?_); refine wpList_ldg _ rfl _ _ rfl g2 _ rfl B3 _ _ Tryd.underlying25 (by kernel_rfl) ?_)
        | ((with_reducible refine at_ldd 44 3 ?_); refine wpList_ldg _ rfl _ _ rfl g2 _ rfl B3 _ _ Tryd.underlying25 (by kernel_rfl) ?_)
        | ((with_reducible refine at_ldd 59 3 ?_); refine wpList_ldg _ rfl _ _ rfl g2 _ rfl B3 _ _ Tryd.underlying25 (by kernel_rfl) ?_))
      go_ret
      exact ⟨rfl, c3⟩
    | true =>
      cases fd with
      | false =>
        have hr2 : r = 2 := by simpa using hr
        subst hr2
        clear hr
        go_enter Tryd.func16, Tryd.ntmps16
        go_wp2_with (first
          | ((with_reducible refine at_bxd 1 ?_); refine wpList_bx _ rfl _ _ rfl _ rfl ?_; intro w1 g1 hg1 hl1 B1 b1)
          | ((with_reducible refine at_bdd 4 ?_); refine wpList_bld _ rfl _ _ rfl _ (by rw [List.map_toArray]; exact HBh.out) ?_)
          | ((with_reducible refine at_ald 3 ?_); refine wpList_al _ rfl _ rfl _ zero_hash ?_; intro w2 g2 hg2 hl2 B2 b2)
          | ((with_reducible refine at_st 3 ?_); refine wpList_sto _ rfl _ _ _ rfl g2 _ (B z32) rfl rfl B2 (by kernel_rfl) rfl (B_one _) ?_; intro w3 B3 r3; have q3 := below_row b2 r3 hg2; have B4 := B1.grow q3; have ck := HF.out.kd _ _ _ B4; have c3 := grow_trans b1 q3)
          | ((with_reducible refine at_bdd 53 ?_); refine wpList_bldg _ rfl _ _ rfl _ (by rw [List.map_toArray]; exact HBp.out) ?_)
          | ((with_reducible refine at_bdd 11 ?_); refine wpList_bldg _ rfl _ _ rfl _ (by rw [List.map_toArray]; exact HBp.out) ?_)
          | ((with_reducible refine at_ldd 10 9 ?_); refine wpList_ldmg _ rfl _ _ rfl g1 1 _ _ a rfl B4 HF.out.sa _ _ Tryd.underlying24 HF.out.la ?_)
          | ((with_reducible refine at_ldd 52 51 ?_); refine wpList_ldmg _ rfl _ _ rfl g1 1 _ _ a rfl B4 HF.out.sa _ _ Tryd.underlying24 HF.out.la ?_)
          | ((with_reducible refine at_ldd 16 15 ?_); refine wpList_ldmg _ rfl _ _ rfl g1 33 _ _ b rfl B4 HF.out.sb _ _ Tryd.underlying25 HF.out.lb ?_)
          | ((with_reducible refine at_ldd 58 57 ?_); refine wpList_ldmg _ rfl _ _ rfl g1 33 _ _ b rfl B4 HF.out.sb _ _ Tryd.underlying25 HF.out.lb ?_)
          | ((with_reducible refine at_ldd 22 21 ?_); refine wpList_ldmg _ rfl _ _ rfl g1 65 _ _ c rfl B4 HF.out.sc _ _ Tryd.underlying25 HF.out.lc ?_)
          | ((with_reducible refine at_ldd 37 36 ?_); refine wpList_ldmg _ rfl _ _ rfl g1 65 _ _ c rfl B4 HF.out.sc _ _ Tryd.underlying25 HF.out.lc ?_)
          | ((with_reducible refine at_ldd 28 27 ?_); refine wpList_ldmg _ rfl _ _ rfl g1 97 _ _ d rfl B4 HF.out.sd _ _ Tryd.underlying25 HF.out.ld ?_)
          | ((with_reducible refine at_ldd 43 42 ?_); refine wpList_ldmg _ rfl _ _ rfl g1 97 _ _ d rfl B4 HF.out.sd _ _ Tryd.underlying25 HF.out.ld ?_)
          | ((with_reducible refine at_ldd 17 3 ?_); refine wpList_ldg _ rfl _ _ rfl g2 _ rfl B3 _ _ Tryd.underlying25 (by kernel_rfl) ?_)
          | ((with_reducible refine at_ldd 23 3 ?_); refine wpList_ldg _ rfl _ _ rfl g2 _ rfl B3 _ _ Tryd.underlying25 (by kernel_rfl) ?_)
          | ((with_reducible refine at_ldd 29 3 ?_); refine wpList_ldg _ rfl _ _ rfl g2 _ rfl B3 _ _ Tryd.underlying25 (by kernel_rfl) ?_)
          | ((with_reducible refine at_ldd 38 3 ?_); refine wpList_ldg _ rfl _ _ rfl g2 _ rfl B3 _ _ Tryd.underlying25 (by kernel_rfl) ?_)
          | ((with_reducible refine at_ldd 44 3 ?_); refine wpList_ldg _ rfl _ _ rfl g2 _ rfl B3 _ _ Tryd.underlying25 (by kernel_rfl) ?_)
          | ((with_reducible refine at_ldd 59 3 ?_); refine wpList_ldg _ rfl _ _ rfl g2 _ rfl B3 _ _ Tryd.underlying25 (by kernel_rfl) ?_))
        go_ret
        exact ⟨rfl, c3⟩
      | true =>
        have hr2 : r = 0 := by simpa using hr
        subst hr2
        clear hr
        go_enter Tryd.func16, Tryd.ntmps16
        go_wp2_with (first
          | ((with_reducible refine at_bxd 1 ?_); refine wpList_bx _ rfl _ _ rfl _ rfl ?_; intro w1 g1 hg1 hl1 B1 b1)
          | ((with_reducible refine at_bdd 4 ?_); refine wpList_bld _ rfl _ _ rfl _ (by rw [List.map_toArray]; exact HBh.out) ?_)
          | ((with_reducible refine at_ald 3 ?_); refine wpList_al _ rfl _ rfl _ zero_hash ?_; intro w2 g2 hg2 hl2 B2 b2)
          | ((with_reducible refine at_st 3 ?_); refine wpList_sto _ rfl _ _ _ rfl g2 _ (B z32) rfl rfl B2 (by kernel_rfl) rfl (B_one _) ?_; intro w3 B3 r3; have q3 := below_row b2 r3 hg2; have B4 := B1.grow q3; have ck := HF.out.kd _ _ _ B4; have c3 := grow_trans b1 q3)
          | ((with_reducible refine at_bdd 53 ?_); refine wpList_bldg _ rfl _ _ rfl _ (by rw [List.map_toArray]; exact HBp.out) ?_)
          | ((with_reducible refine at_bdd 11 ?_); refine wpList_bldg _ rfl _ _ rfl _ (by rw [List.map_toArray]; exact HBp.out) ?_)
          | ((with_reducible refine at_ldd 10 9 ?_); refine wpList_ldmg _ rfl _ _ rfl g1 1 _ _ a rfl B4 HF.out.sa _ _ Tryd.underlying24 HF.out.la ?_)
          | ((with_reducible refine at_ldd 52 51 ?_); refine wpList_ldmg _ rfl _ _ rfl g1 1 _ _ a rfl B4 HF.out.sa _ _ Tryd.underlying24 HF.out.la ?_)
          | ((with_reducible refine at_ldd 16 15 ?_); refine wpList_ldmg _ rfl _ _ rfl g1 33 _ _ b rfl B4 HF.out.sb _ _ Tryd.underlying25 HF.out.lb ?_)
          | ((with_reducible refine at_ldd 58 57 ?_); refine wpList_ldmg _ rfl _ _ rfl g1 33 _ _ b rfl B4 HF.out.sb _ _ Tryd.underlying25 HF.out.lb ?_)
          | ((with_reducible refine at_ldd 22 21 ?_); refine wpList_ldmg _ rfl _ _ rfl g1 65 _ _ c rfl B4 HF.out.sc _ _ Tryd.underlying25 HF.out.lc ?_)
          | ((with_reducible refine at_ldd 37 36 ?_); refine wpList_ldmg _ rfl _ _ rfl g1 65 _ _ c rfl B4 HF.out.sc _ _ Tryd.underlying25 HF.out.lc ?_)
          | ((with_reducible refine at_ldd 28 27 ?_); refine wpList_ldmg _ rfl _ _ rfl g1 97 _ _ d rfl B4 HF.out.sd _ _ Tryd.underlying25 HF.out.ld ?_)
          | ((with_reducible refine at_ldd 43 42 ?_); refine wpList_ldmg _ rfl _ _ rfl g1 97 _ _ d rfl B4 HF.out.sd _ _ Tryd.underlying25 HF.out.ld ?_)
          | ((with_reducible refine at_ldd 17 3 ?_); refine wpList_ldg _ rfl _ _ rfl g2 _ rfl B3 _ _ Tryd.underlying25 (by kernel_rfl) ?_)
          | ((with_reducible refine at_ldd 23 3 ?_); refine wpList_ldg _ rfl _ _ rfl g2 _ rfl B3 _ _ Tryd.underlying25 (by kernel_rfl) ?_)
          | ((with_reducible refine at_ldd 29 3 ?_); refine wpList_ldg _ rfl _ _ rfl g2 _ rfl B3 _ _ Tryd.underlying25 (by kernel_rfl) ?_)
          | ((with_reducible refine at_ldd 38 3 ?_); refine wpList_ldg _ rfl _ _ rfl g2 _ rfl B3 _ _ Tryd.underlying25 (by kernel_rfl) ?_)
          | ((with_reducible refine at_ldd 44 3 ?_); refine wpList_ldg _ rfl _ _ rfl g2 _ rfl B3 _ _ Tryd.underlying25 (by kernel_rfl) ?_)
          | ((with_reducible refine at_ldd 59 3 ?_); refine wpList_ldg _ rfl _ _ rfl g2 _ rfl B3 _ _ Tryd.underlying25 (by kernel_rfl) ?_))
        go_ret
        exact ⟨rfl, c3⟩
  · have k0 : (k == 0) = false := by simp [hk]
    have k1 : (k == 1) = false := by simp [hk]
    have k2 : (k == 2) = true := by simp [hk]
    clear hk
    cases fa with
    | false =>
      have hr2 : r = 2 := by simpa using hr
      subst hr2
      clear hr
      go_enter Tryd.func16, Tryd.ntmps16
      go_wp2_with (first
        | ((with_reducible refine at_bxd 1 ?_); refine wpList_bx _ rfl _ _ rfl _ rfl ?_; intro w1 g1 hg1 hl1 B1 b1)
        | ((with_reducible refine at_bdd 4 ?_); refine wpList_bld _ rfl _ _ rfl _ (by rw [List.map_toArray]; exact HBh.out) ?_)
        | ((with_reducible refine at_ald 3 ?_); refine wpList_al _ rfl _ rfl _ zero_hash ?_; intro w2 g2 hg2 hl2 B2 b2)
        | ((with_reducible refine at_st 3 ?_); refine wpList_sto _ rfl _ _ _ rfl g2 _ (B z32) rfl rfl B2 (by kernel_rfl) rfl (B_one _) ?_; intro w3 B3 r3; have q3 := below_row b2 r3 hg2; have B4 := B1.grow q3; have ck := HF.out.kd _ _ _ B4; have c3 := grow_trans b1 q3)
        | ((with_reducible refine at_bdd 53 ?_); refine wpList_bldg _ rfl _ _ rfl _ (by rw [List.map_toArray]; exact HBp.out) ?_)
        | ((with_reducible refine at_bdd 11 ?_); refine wpList_bldg _ rfl _ _ rfl _ (by rw [List.map_toArray]; exact HBp.out) ?_)
        | ((with_reducible refine at_ldd 10 9 ?_); refine wpList_ldmg _ rfl _ _ rfl g1 1 _ _ a rfl B4 HF.out.sa _ _ Tryd.underlying24 HF.out.la ?_)
        | ((with_reducible refine at_ldd 52 51 ?_); refine wpList_ldmg _ rfl _ _ rfl g1 1 _ _ a rfl B4 HF.out.sa _ _ Tryd.underlying24 HF.out.la ?_)
        | ((with_reducible refine at_ldd 16 15 ?_); refine wpList_ldmg _ rfl _ _ rfl g1 33 _ _ b rfl B4 HF.out.sb _ _ Tryd.underlying25 HF.out.lb ?_)
        | ((with_reducible refine at_ldd 58 57 ?_); refine wpList_ldmg _ rfl _ _ rfl g1 33 _ _ b rfl B4 HF.out.sb _ _ Tryd.underlying25 HF.out.lb ?_)
        | ((with_reducible refine at_ldd 22 21 ?_); refine wpList_ldmg _ rfl _ _ rfl g1 65 _ _ c rfl B4 HF.out.sc _ _ Tryd.underlying25 HF.out.lc ?_)
        | ((with_reducible refine at_ldd 37 36 ?_); refine wpList_ldmg _ rfl _ _ rfl g1 65 _ _ c rfl B4 HF.out.sc _ _ Tryd.underlying25 HF.out.lc ?_)
        | ((with_reducible refine at_ldd 28 27 ?_); refine wpList_ldmg _ rfl _ _ rfl g1 97 _ _ d rfl B4 HF.out.sd _ _ Tryd.underlying25 HF.out.ld ?_)
        | ((with_reducible refine at_ldd 43 42 ?_); refine wpList_ldmg _ rfl _ _ rfl g1 97 _ _ d rfl B4 HF.out.sd _ _ Tryd.underlying25 HF.out.ld ?_)
        | ((with_reducible refine at_ldd 17 3 ?_); refine wpList_ldg _ rfl _ _ rfl g2 _ rfl B3 _ _ Tryd.underlying25 (by kernel_rfl) ?_)
        | ((with_reducible refine at_ldd 23 3 ?_); refine wpList_ldg _ rfl _ _ rfl g2 _ rfl B3 _ _ Tryd.underlying25 (by kernel_rfl) ?_)
        | ((with_reducible refine at_ldd 29 3 ?_); refine wpList_ldg _ rfl _ _ rfl g2 _ rfl B3 _ _ Tryd.underlying25 (by kernel_rfl) ?_)
        | ((with_reducible refine at_ldd 38 3 ?_); refine wpList_ldg _ rfl _ _ rfl g2 _ rfl B3 _ _ Tryd.underlying25 (by kernel_rfl) ?_)
        | ((with_reducible refine at_ldd 44 3 ?_); refine wpList_ldg _ rfl _ _ rfl g2 _ rfl B3 _ _ Tryd.underlying25 (by kernel_rfl) ?_)
        | ((with_reducible refine at_ldd 59 3 ?_); refine wpList_ldg _ rfl _ _ rfl g2 _ rfl B3 _ _ Tryd.underlying25 (by kernel_rfl) ?_))
      go_ret
      exact ⟨rfl, c3⟩
    | true =>
      cases fb with
      | false =>
        have hr2 : r = 2 := by simpa using hr
        subst hr2
        clear hr
        go_enter Tryd.func16, Tryd.ntmps16
        go_wp2_with (first
          | ((with_reducible refine at_bxd 1 ?_); refine wpList_bx _ rfl _ _ rfl _ rfl ?_; intro w1 g1 hg1 hl1 B1 b1)
          | ((with_reducible refine at_bdd 4 ?_); refine wpList_bld _ rfl _ _ rfl _ (by rw [List.map_toArray]; exact HBh.out) ?_)
          | ((with_reducible refine at_ald 3 ?_); refine wpList_al _ rfl _ rfl _ zero_hash ?_; intro w2 g2 hg2 hl2 B2 b2)
          | ((with_reducible refine at_st 3 ?_); refine wpList_sto _ rfl _ _ _ rfl g2 _ (B z32) rfl rfl B2 (by kernel_rfl) rfl (B_one _) ?_; intro w3 B3 r3; have q3 := below_row b2 r3 hg2; have B4 := B1.grow q3; have ck := HF.out.kd _ _ _ B4; have c3 := grow_trans b1 q3)
          | ((with_reducible refine at_bdd 53 ?_); refine wpList_bldg _ rfl _ _ rfl _ (by rw [List.map_toArray]; exact HBp.out) ?_)
          | ((with_reducible refine at_bdd 11 ?_); refine wpList_bldg _ rfl _ _ rfl _ (by rw [List.map_toArray]; exact HBp.out) ?_)
          | ((with_reducible refine at_ldd 10 9 ?_); refine wpList_ldmg _ rfl _ _ rfl g1 1 _ _ a rfl B4 HF.out.sa _ _ Tryd.underlying24 HF.out.la ?_)
          | ((with_reducible refine at_ldd 52 51 ?_); refine wpList_ldmg _ rfl _ _ rfl g1 1 _ _ a rfl B4 HF.out.sa _ _ Tryd.underlying24 HF.out.la ?_)
          | ((with_reducible refine at_ldd 16 15 ?_); refine wpList_ldmg _ rfl _ _ rfl g1 33 _ _ b rfl B4 HF.out.sb _ _ Tryd.underlying25 HF.out.lb ?_)
          | ((with_reducible refine at_ldd 58 57 ?_); refine wpList_ldmg _ rfl _ _ rfl g1 33 _ _ b rfl B4 HF.out.sb _ _ Tryd.underlying25 HF.out.lb ?_)
          | ((with_reducible refine at_ldd 22 21 ?_); refine wpList_ldmg _ rfl _ _ rfl g1 65 _ _ c rfl B4 HF.out.sc _ _ Tryd.underlying25 HF.out.lc ?_)
          | ((with_reducible refine at_ldd 37 36 ?_); refine wpList_ldmg _ rfl _ _ rfl g1 65 _ _ c rfl B4 HF.out.sc _ _ Tryd.underlying25 HF.out.lc ?_)
          | ((with_reducible refine at_ldd 28 27 ?_); refine wpList_ldmg _ rfl _ _ rfl g1 97 _ _ d rfl B4 HF.out.sd _ _ Tryd.underlying25 HF.out.ld ?_)
          | ((with_reducible refine at_ldd 43 42 ?_); refine wpList_ldmg _ rfl _ _ rfl g1 97 _ _ d rfl B4 HF.out.sd _ _ Tryd.underlying25 HF.out.ld ?_)
          | ((with_reducible refine at_ldd 17 3 ?_); refine wpList_ldg _ rfl _ _ rfl g2 _ rfl B3 _ _ Tryd.underlying25 (by kernel_rfl) ?_)
          | ((with_reducible refine at_ldd 23 3 ?_); refine wpList_ldg _ rfl _ _ rfl g2 _ rfl B3 _ _ Tryd.underlying25 (by kernel_rfl) ?_)
          | ((with_reducible refine at_ldd 29 3 ?_); refine wpList_ldg _ rfl _ _ rfl g2 _ rfl B3 _ _ Tryd.underlying25 (by kernel_rfl) ?_)
          | ((with_reducible refine at_ldd 38 3 ?_); refine wpList_ldg _ rfl _ _ rfl g2 _ rfl B3 _ _ Tryd.underlying25 (by kernel_rfl) ?_)
          | ((with_reducible refine at_ldd 44 3 ?_); refine wpList_ldg _ rfl _ _ rfl g2 _ rfl B3 _ _ Tryd.underlying25 (by kernel_rfl) ?_)
          | ((with_reducible refine at_ldd 59 3 ?_); refine wpList_ldg _ rfl _ _ rfl g2 _ rfl B3 _ _ Tryd.underlying25 (by kernel_rfl) ?_))
        go_ret
        exact ⟨rfl, c3⟩
      | true =>
        have hr2 : r = 0 := by simpa using hr
        subst hr2
        clear hr
        go_enter Tryd.func16, Tryd.ntmps16
        go_wp2_with (first
          | ((with_reducible refine at_bxd 1 ?_); refine wpList_bx _ rfl _ _ rfl _ rfl ?_; intro w1 g1 hg1 hl1 B1 b1)
          | ((with_reducible refine at_bdd 4 ?_); refine wpList_bld _ rfl _ _ rfl _ (by rw [List.map_toArray]; exact HBh.out) ?_)
          | ((with_reducible refine at_ald 3 ?_); refine wpList_al _ rfl _ rfl _ zero_hash ?_; intro w2 g2 hg2 hl2 B2 b2)
          | ((with_reducible refine at_st 3 ?_); refine wpList_sto _ rfl _ _ _ rfl g2 _ (B z32) rfl rfl B2 (by kernel_rfl) rfl (B_one _) ?_; intro w3 B3 r3; have q3 := below_row b2 r3 hg2; have B4 := B1.grow q3; have ck := HF.out.kd _ _ _ B4; have c3 := grow_trans b1 q3)
          | ((with_reducible refine at_bdd 53 ?_); refine wpList_bldg _ rfl _ _ rfl _ (by rw [List.map_toArray]; exact HBp.out) ?_)
          | ((with_reducible refine at_bdd 11 ?_); refine wpList_bldg _ rfl _ _ rfl _ (by rw [List.map_toArray]; exact HBp.out) ?_)
          | ((with_reducible refine at_ldd 10 9 ?_); refine wpList_ldmg _ rfl _ _ rfl g1 1 _ _ a rfl B4 HF.out.sa _ _ Tryd.underlying24 HF.out.la ?_)
          | ((with_reducible refine at_ldd 52 51 ?_); refine wpList_ldmg _ rfl _ _ rfl g1 1 _ _ a rfl B4 HF.out.sa _ _ Tryd.underlying24 HF.out.la ?_)
          | ((with_reducible refine at_ldd 16 15 ?_); refine wpList_ldmg _ rfl _ _ rfl g1 33 _ _ b rfl B4 HF.out.sb _ _ Tryd.underlying25 HF.out.lb ?_)
          | ((with_reducible refine at_ldd 58 57 ?_); refine wpList_ldmg _ rfl _ _ rfl g1 33 _ _ b rfl B4 HF.out.sb _ _ Tryd.underlying25 HF.out.lb ?_)
          | ((with_reducible refine at_ldd 22 21 ?_); refine wpList_ldmg _ rfl _ _ rfl g1 65 _ _ c rfl B4 HF.out.sc _ _ Tryd.underlying25 HF.out.lc ?_)
          | ((with_reducible refine at_ldd 37 36 ?_); refine wpList_ldmg _ rfl _ _ rfl g1 65 _ _ c rfl B4 HF.out.sc _ _ Tryd.underlying25 HF.out.lc ?_)
          | ((with_reducible refine at_ldd 28 27 ?_); refine wpList_ldmg _ rfl _ _ rfl g1 97 _ _ d rfl B4 HF.out.sd _ _ Tryd.underlying25 HF.out.ld ?_)
          | ((with_reducible refine at_ldd 43 42 ?_); refine wpList_ldmg _ rfl _ _ rfl g1 97 _ _ d rfl B4 HF.out.sd _ _ Tryd.underlying25 HF.out.ld ?_)
          | ((with_reducible refine at_ldd 17 3 ?_); refine wpList_ldg _ rfl _ _ rfl g2 _ rfl B3 _ _ Tryd.underlying25 (by kernel_rfl) ?_)
          | ((with_reducible refine at_ldd 23 3 ?_); refine wpList_ldg _ rfl _ _ rfl g2 _ rfl B3 _ _ Tryd.underlying25 (by kernel_rfl) ?_)
          | ((with_reducible refine at_ldd 29 3 ?_); refine wpList_ldg _ rfl _ _ rfl g2 _ rfl B3 _ _ Tryd.underlying25 (by kernel_rfl) ?_)
          | ((with_reducible refine at_ldd 38 3 ?_); refine wpList_ldg _ rfl _ _ rfl g2 _ rfl B3 _ _ Tryd.underlying25 (by kernel_rfl) ?_)
          | ((with_reducible refine at_ldd 44 3 ?_); refine wpList_ldg _ rfl _ _ rfl g2 _ rfl B3 _ _ Tryd.underlying25 (by kernel_rfl) ?_)
          | ((with_reducible refine at_ldd 59 3 ?_); refine wpList_ldg _ rfl _ _ rfl g2 _ rfl B3 _ _ Tryd.underlying25 (by kernel_rfl) ?_))
        go_ret
        exact ⟨rfl, c3⟩
  · have k0 : (k == 0) = false := by simp [h0]
    have k1 : (k == 1) = false := by simp [h1]
    have k2 : (k == 2) = false := by simp [h2]
    subst hr
    clear h0 h1 h2
    go_enter Tryd.func16, Tryd.ntmps16
    go_wp2_with (first
      | ((with_reducible refine at_bxd 1 ?_); refine wpList_bx _ rfl _ _ rfl _ rfl ?_; intro w1 g1 hg1 hl1 B1 b1)
      | ((with_reducible refine at_bdd 4 ?_); refine wpList_bld _ rfl _ _ rfl _ (by rw [List.map_toArray]; exact HBh.out) ?_)
      | ((with_reducible refine at_ald 3 ?_); refine wpList_al _ rfl _ rfl _ zero_hash ?_; intro w2 g2 hg2 hl2 B2 b2)
      | ((with_reducible refine at_st 3 ?_); refine wpList_sto _ rfl _ _ _ rfl g2 _ (B z32) rfl rfl B2 (by kernel_rfl) rfl (B_one _) ?_; intro w3 B3 r3; have q3 := below_row b2 r3 hg2; have B4 := B1.grow q3; have ck := HF.out.kd _ _ _ B4; have c3 := grow_trans b1 q3)
      | ((with_reducible refine at_bdd 53 ?_); refine wpList_bldg _ rfl _ _ rfl _ (by rw [List.map_toArray]; exact HBp.out) ?_)
      | ((with_reducible refine at_bdd 11 ?_); refine wpList_bldg _ rfl _ _ rfl _ (by rw [List.map_toArray]; exact HBp.out) ?_)
      | ((with_reducible refine at_ldd 10 9 ?_); refine wpList_ldmg _ rfl _ _ rfl g1 1 _ _ a rfl B4 HF.out.sa _ _ Tryd.underlying24 HF.out.la ?_)
      | ((with_reducible refine at_ldd 52 51 ?_); refine wpList_ldmg _ rfl _ _ rfl g1 1 _ _ a rfl B4 HF.out.sa _ _ Tryd.underlying24 HF.out.la ?_)
      | ((with_reducible refine at_ldd 16 15 ?_); refine wpList_ldmg _ rfl _ _ rfl g1 33 _ _ b rfl B4 HF.out.sb _ _ Tryd.underlying25 HF.out.lb ?_)
      | ((with_reducible refine at_ldd 58 57 ?_); refine wpList_ldmg _ rfl _ _ rfl g1 33 _ _ b rfl B4 HF.out.sb _ _ Tryd.underlying25 HF.out.lb ?_)
      | ((with_reducible refine at_ldd 22 21 ?_); refine wpList_ldmg _ rfl _ _ rfl g1 65 _ _ c rfl B4 HF.out.sc _ _ Tryd.underlying25 HF.out.lc ?_)
      | ((with_reducible refine at_ldd 37 36 ?_); refine wpList_ldmg _ rfl _ _ rfl g1 65 _ _ c rfl B4 HF.out.sc _ _ Tryd.underlying25 HF.out.lc ?_)
      | ((with_reducible refine at_ldd 28 27 ?_); refine wpList_ldmg _ rfl _ _ rfl g1 97 _ _ d rfl B4 HF.out.sd _ _ Tryd.underlying25 HF.out.ld ?_)
      | ((with_reducible refine at_ldd 43 42 ?_); refine wpList_ldmg _ rfl _ _ rfl g1 97 _ _ d rfl B4 HF.out.sd _ _ Tryd.underlying25 HF.out.ld ?_)
      | ((with_reducible refine at_ldd 17 3 ?_); refine wpList_ldg _ rfl _ _ rfl g2 _ rfl B3 _ _ Tryd.underlying25 (by kernel_rfl) ?_)
      | ((with_reducible refine at_ldd 23 3 ?_); refine wpList_ldg _ rfl _ _ rfl g2 _ rfl B3 _ _ Tryd.underlying25 (by kernel_rfl) ?_)
      | ((with_reducible refine at_ldd 29 3 ?_); refine wpList_ldg _ rfl _ _ rfl g2 _ rfl B3 _ _ Tryd.underlying25 (by kernel_rfl) ?_)
      | ((with_reducible refine at_ldd 38 3 ?_); refine wpList_ldg _ rfl _ _ rfl g2 _ rfl B3 _ _ Tryd.underlying25 (by kernel_rfl) ?_)
      | ((with_reducible refine at_ldd 44 3 ?_); refine wpList_ldg _ rfl _ _ rfl g2 _ rfl B3 _ _ Tryd.underlying25 (by kernel_rfl) ?_)
      | ((with_reducible refine at_ldd 59 3 ?_); refine wpList_ldg _ rfl _ _ rfl g2 _ rfl B3 _ _ Tryd.underlying25 (by kernel_rfl) ?_))
    go_ret
    exact ⟨rfl, c3⟩

theorem refCheck_any (k : Int) (a b c d : List Int) (w : World) (h : Nd k a b c d) : Calls Tryd.prog 16 #[.agg (B (nd k a b c d))] w fun e w' => e = .returned (.int .i64 (okE k a b c d)) ∧ Below w.heap.size w w' := by
  refine rcheck_core k a b c d w h _ _ _ _ (okE k a b c d) rfl rfl rfl rfl ?_
  unfold okE okN
  by_cases h0 : k = 0
  · exact .inl ⟨h0, by simp [h0, and_assoc]⟩
  · by_cases h1 : k = 1
    · exact .inr (.inl ⟨h1, by simp [h1]⟩)
    · by_cases h2 : k = 2
      · exact .inr (.inr (.inl ⟨h2, by simp [h2]⟩))
      · exact .inr (.inr (.inr ⟨h0, h1, h2, by simp [h0, h1, h2]⟩))

end Go.Proofs.YtjcklpdifanjlaaDoor

/- rootcellarkit.KeptPairs and the law's few, as contracts. -/
namespace Go.Proofs.YtjcklpdifanjlaaDoor
set_option maxRecDepth 20000
open Go.RowKit

set_option maxHeartbeats 1000000 in
theorem few_any (a : Option Addr) (n cap : Nat) (w : World) : Calls Tryd.prog 20 #[.slice a n cap] w fun e w' => e = .returned (.bool (decide (n ≤ 40 ∨ 4096 < n))) ∧ w' = w := by
  by_cases h1 : n ≤ 40
  · have t1 : (n : Int) ≤ 40 := by omega
    have hd : decide (n ≤ 40 ∨ 4096 < n) = true := decide_eq_true (.inl h1)
    rw [hd]
    clear h1 hd
    go_enter Tryd.func20, Tryd.ntmps20
    go_wp2
    go_ret
    exact ⟨rfl, rfl⟩
  · have t1 : ¬ (n : Int) ≤ 40 := by omega
    by_cases h2 : 4096 < n
    · have t2 : (4096 : Int) < (n : Int) := by omega
      have hd : decide (n ≤ 40 ∨ 4096 < n) = true := decide_eq_true (.inr h2)
      rw [hd]
      clear h1 h2 hd
      go_enter Tryd.func20, Tryd.ntmps20
      go_wp2
      go_ret
      exact ⟨rfl, rfl⟩
    · have t2 : ¬ (4096 : Int) < (n : Int) := by omega
      have hd : decide (n ≤ 40 ∨ 4096 < n) = false := decide_eq_false (by omega)
      rw [hd]
      clear h1 h2 hd
      go_enter Tryd.func20, Tryd.ntmps20
      go_wp2
      go_ret
      exact ⟨rfl, rfl⟩

/-- cap of a slice of entries. -/
theorem wpList_capP {ops : Array Oper} {rest : List Oper} {o : Oper} {a : Act} {Q : Exit → Act → World → Prop} (w : World) (hgd : o.guard = none) (x : Operand)
    (hop : o.op = .call { callee := .builtin .cap, args := #[x], argTypes := #[49] }) (b : Option Addr) (n c : Nat) (hx : a.eval x = .slice b n c)
    (h : wpList Tryd.prog ops Q rest (a.put o.dst (.int .i64 c)) w) : wpList Tryd.prog ops Q (o :: rest) a w := by
  refine wpList_plain hgd fun K hK => ?_
  have hr := run_cap_slice (P := Tryd.prog) w 49 o.type b n c (by kernel_rfl)
  unfold Oper.wp execOp
  simp only [hop, resolve, invoke, builtin, Sem.run_bind, Sem.run_pure, Result.andThen_ok, List.map_toArray, List.map_cons, List.map_nil, hx, hr]
  exact hK _ _ h

set_option maxRecDepth 100000 in
set_option maxHeartbeats 8000000 in
theorem keptPairs_true (g : Nat) (G : Nat → Nat) (v : Value) (V : Nat → Value) (es : List Ent) (w : World) (hlp : LentP w g es.length G es) (hv : PrAt w v V es) (hn : es.length * 56 ≤ 140737488355328 - 4096) (hl : ∀ i, i < es.length → (es.getD i e00).2.length ≤ 140737488355328 - 4096) :
    Calls Tryd.prog 26 #[.slice (some ⟨g, 0, none⟩) es.length (es.length + 2), v] w fun e w' => e = .returned (.bool true) ∧ Below w.heap.size w w' := by
  obtain ⟨a, cap, rfl, hcap, hc, hr⟩ := hv
  have HC := hidden hc
  have HR := hidden hr
  have HLE := hidden hl
  have KLP := hidden hlp
  obtain ⟨n, hnn⟩ : ∃ n, n = es.length := ⟨_, rfl⟩
  have HN := hidden hnn
  rw [← hnn] at hn KLP ⊢
  have HBp : Hid (Tryd.prog.built 24 [] = some (B z32)) := built_path
  have hEqz : ∀ w, (Op.equalIn 10000 24 (.agg (B z32)) (.agg (B z32))).run Tryd.prog w = .ok true w := fun w => by have := path_eq z32 z32 rfl rfl w; simpa using this
  obtain ⟨m, hm⟩ : ∃ m, m = n + 2 := ⟨_, rfl⟩
  rw [← hm]
  have HM := hidden hm
  have i1 : (m : Int) ≤ (m : Int) := Int.le_refl _
  have i2 : (0 : Int) ≤ (m : Int) := by omega
  have i3 : m ≤ m := Nat.le_refl _
  have hmb : m ≤ 140737488355328 := by omega
  clear hc hr hcap hnn hl hlp hm
  go_enter Tryd.func26, Tryd.ntmps26
  go_wp2_with fail
  go_loopw [5] (fun i wr => ∃ (k : Nat), k ≤ n ∧ i = .int .i64 k ∧ Below w.heap.size w wr) (fun i _ => n - (intOf i).toNat)
  case atStart => exact ⟨0, by omega, rfl, Below.refl _ _⟩
  case round =>
    obtain ⟨k, hk, rfl, hbw⟩ := hrel
    by_cases hlt : k < n
    · have hlt' : k < es.length := by rw [← HN.out]; exact hlt
      obtain ⟨ga, off, rfl, hcc⟩ := HC.out (by omega)
      have z1 : (k : Int) < (n : Int) := by omega
      have z0 : (0 : Int) ≤ (k : Int) := by omega
      obtain ⟨hkey, hrd⟩ := HR.out k hlt'
      have HKP : Hid (∀ w', Below w.heap.size w w' → Calls Tryd.prog 18 #[lvP es G k, V k] w' fun e w'' => e = .returned (.bool true) ∧ Below w'.heap.size w' w'') := fun w' hb => kept_true (G k) (V k) _ w' ((KLP.out.grow hb).row k hlt) (hrd.grow hb) (by have := HLE.out k hlt'; omega)
      have HS : Hid (∀ w', Below w.heap.size w w' → (w'.rangeAt g (k * 33) (B (es.getD k e00).1).toList ∧ w'.cell? ⟨g, k * 33 + 32, none⟩ = some (lvP es G k)) ∧ (w'.rangeAt ga (off + k * 33) (B (es.getD k e00).1).toList ∧ w'.cell? ⟨ga, off + k * 33 + 32, none⟩ = some (V k))) := fun w' hw' =>
        ⟨⟨rng_key ((KLP.out.grow hw').pair k hlt), rng_val ((KLP.out.grow hw').pair k hlt) hkey.1⟩, ⟨rng_key (rng_grow (hcc k hlt') hw'), rng_val (rng_grow (hcc k hlt') hw') hkey.1⟩⟩
      have HKY := hidden hkey
      obtain ⟨va, vc, hV, _, _, _, _⟩ := hrd
      obtain ⟨K, hK⟩ : ∃ K, K = (es.getD k e00).1 := ⟨_, rfl⟩
      obtain ⟨L, hL⟩ : ∃ L, L = (es.getD k e00).2.length := ⟨_, rfl⟩
      obtain ⟨q, hq⟩ : ∃ q, q = G k := ⟨_, rfl⟩
      have hlv : lvP es G k = .slice (some ⟨q, 0, none⟩) L (L + 5) := by rw [lvP, ← hL, ← hq]
      rw [hV, hlv] at HKP HS
      rw [← hL] at HKP HS
      rw [← hK] at HS HKY
      have HLK : Hid ((Tryd.prog.info? 24).map (·.size) = some (B K).toList.length) := by show _ = _; rw [B_toList, List.length_map, HKY.out.1]; exact sz_path
      have hEq : ∀ w, (Op.equalIn 10000 24 (.agg (B K)) (.agg (B K))).run Tryd.prog w = .ok true w := fun w => by have := path_eq K K HKY.out.1 HKY.out.1 w; simpa using this
      clear hcc hkey hK hL hV hlt' hq hlv
      go_wp2_with fail
      have d0 : Below w.heap.size w wr.drew := grow_trans hbw (Below.refl _ _).drew
      refine wp_region_held_drew (S := fun w' => (w'.rangeAt g (k * 33) (B K).toList ∧ w'.cell? ⟨g, k * 33 + 32, none⟩ = some (.slice (some ⟨q, 0, none⟩) L (L + 5))) ∧ (w'.rangeAt ga (off + k * 33) (B K).toList ∧ w'.cell? ⟨ga, off + k * 33 + 32, none⟩ = some (.slice va L vc))) (by kernel_rfl) (HS.out _ d0) (fun hHeld => ?_)
      refine wpAnyH_take (i := 0) (v := .slice (some ⟨g, 0, none⟩) n m) rfl (by kernel_rfl) (by kernel_rfl) (by kernel_rfl) (fun _ _ _ h => h) (Or.inl ⟨by rfl, fun w hS => by go_simp⟩) hHeld ?_
      simp only [Act.put, List.getElem_toArray, List.getElem_cons_zero, List.setIfInBounds_toArray, List.set_cons_zero, List.set_cons_succ]
      refine wpAnyH_take (i := 1) (v := .int .i64 k) rfl (by kernel_rfl) (by kernel_rfl) (by kernel_rfl) (fun _ _ _ h => h) (Or.inl ⟨by rfl, fun w hS => by go_simp⟩) hHeld ?_
      simp only [Act.put, List.getElem_toArray, List.getElem_cons_zero, List.getElem_cons_succ, List.setIfInBounds_toArray, List.set_cons_zero, List.set_cons_succ]
      refine wpAnyH_take (i := 2) (v := .pointer (some ⟨g, k * 33, none⟩)) rfl (by kernel_rfl) (by kernel_rfl) (by kernel_rfl) (fun _ _ _ h => h) (Or.inl ⟨by rfl, fun w hS => by go_simp⟩) hHeld ?_
      simp only [Act.put, List.getElem_toArray, List.getElem_cons_zero, List.getElem_cons_succ, List.setIfInBounds_toArray, List.set_cons_zero, List.set_cons_succ]
      refine wpAnyH_take (i := 3) (v := .pointer (some ⟨g, k * 33, none⟩)) rfl (by kernel_rfl) (by kernel_rfl) (by kernel_rfl) (fun _ _ _ h => h) (Or.inl ⟨by rfl, fun w hS => by go_simp⟩) hHeld ?_
      simp only [Act.put, List.getElem_toArray, List.getElem_cons_zero, List.getElem_cons_succ, List.setIfInBounds_toArray, List.set_cons_zero, List.set_cons_succ]
      refine wpAnyH_take (i := 4) (v := .agg (B K)) rfl (by kernel_rfl) (by kernel_rfl) (by kernel_rfl) (fun _ _ _ h => h) (yieldsIf_load_mid rfl 24 (.tmp 22) rfl g (k * 33) rfl (B K).toList _ (fun w hS => hS.1.1) Tryd.underlying24 rfl HLK.out) hHeld ?_
      simp only [Act.put, List.getElem_toArray, List.getElem_cons_zero, List.getElem_cons_succ, List.setIfInBounds_toArray, List.set_cons_zero, List.set_cons_succ]
      refine wpAnyH_take (i := 5) (v := .slice (some ⟨ga, off, none⟩) n cap) rfl (by kernel_rfl) (by kernel_rfl) (by kernel_rfl) (fun _ _ _ h => h) (Or.inl ⟨by rfl, fun w hS => by go_simp⟩) hHeld ?_
      simp only [Act.put, List.getElem_toArray, List.getElem_cons_zero, List.getElem_cons_succ, List.setIfInBounds_toArray, List.set_cons_zero, List.set_cons_succ]
      refine wpAnyH_take (i := 6) (v := .int .i64 k) rfl (by kernel_rfl) (by kernel_rfl) (by kernel_rfl) (fun _ _ _ h => h) (Or.inl ⟨by rfl, fun w hS => by go_simp⟩) hHeld ?_
      simp only [Act.put, List.getElem_toArray, List.getElem_cons_zero, List.getElem_cons_succ, List.setIfInBounds_toArray, List.set_cons_zero, List.set_cons_succ]
      refine wpAnyH_take (i := 7) (v := .pointer (some ⟨ga, off + k * 33, none⟩)) rfl (by kernel_rfl) (by kernel_rfl) (by kernel_rfl) (fun _ _ _ h => h) (Or.inl ⟨by rfl, fun w hS => by go_simp⟩) hHeld ?_
      simp only [Act.put, List.getElem_toArray, List.getElem_cons_zero, List.getElem_cons_succ, List.setIfInBounds_toArray, List.set_cons_zero, List.set_cons_succ]
      refine wpAnyH_take (i := 8) (v := .pointer (some ⟨ga, off + k * 33, none⟩)) rfl (by kernel_rfl) (by kernel_rfl) (by kernel_rfl) (fun _ _ _ h => h) (Or.inl ⟨by rfl, fun w hS => by go_simp⟩) hHeld ?_
      simp only [Act.put, List.getElem_toArray, List.getElem_cons_zero, List.getElem_cons_succ, List.setIfInBounds_toArray, List.set_cons_zero, List.set_cons_succ]
      refine wpAnyH_take (i := 9) (v := .agg (B K)) rfl (by kernel_rfl) (by kernel_rfl) (by kernel_rfl) (fun _ _ _ h => h) (yieldsIf_load_mid rfl 24 (.tmp 27) rfl ga (off + k * 33) rfl (B K).toList _ (fun w hS => hS.2.1) Tryd.underlying24 rfl HLK.out) hHeld ?_
      simp only [Act.put, List.getElem_toArray, List.getElem_cons_zero, List.getElem_cons_succ, List.setIfInBounds_toArray, List.set_cons_zero, List.set_cons_succ]
      refine wpAnyH_take (i := 10) (v := .bool false) rfl (by kernel_rfl) (by kernel_rfl) (by kernel_rfl) (fun _ _ _ h => h) (Or.inl ⟨by rfl, fun w hS => by go_simp⟩) hHeld ?_
      simp only [Act.put, List.getElem_toArray, List.getElem_cons_zero, List.getElem_cons_succ, List.setIfInBounds_toArray, List.set_cons_zero, List.set_cons_succ]
      refine wpAnyH_take (i := 11) (v := .bool false) rfl (by kernel_rfl) (by kernel_rfl) (by kernel_rfl) (fun _ _ _ h => h) (Or.inl ⟨by rfl, fun w hS => by go_simp⟩) hHeld ?_
      simp only [Act.put, List.getElem_toArray, List.getElem_cons_zero, List.getElem_cons_succ, List.setIfInBounds_toArray, List.set_cons_zero, List.set_cons_succ]
      refine wpAnyH_take (i := 12) (v := .slice (some ⟨g, 0, none⟩) n m) rfl (by kernel_rfl) (by kernel_rfl) (by kernel_rfl) (fun _ _ _ h => h) (Or.inl ⟨by rfl, fun w hS => by go_simp⟩) hHeld ?_
      simp only [Act.put, List.getElem_toArray, List.getElem_cons_zero, List.getElem_cons_succ, List.setIfInBounds_toArray, List.set_cons_zero, List.set_cons_succ]
      refine wpAnyH_take (i := 13) (v := .int .i64 k) rfl (by kernel_rfl) (by kernel_rfl) (by kernel_rfl) (fun _ _ _ h => h) (Or.inl ⟨by rfl, fun w hS => by go_simp⟩) hHeld ?_
      simp only [Act.put, List.getElem_toArray, List.getElem_cons_zero, List.getElem_cons_succ, List.setIfInBounds_toArray, List.set_cons_zero, List.set_cons_succ]
      refine wpAnyH_take (i := 14) (v := .pointer (some ⟨g, k * 33, none⟩)) rfl (by kernel_rfl) (by kernel_rfl) (by kernel_rfl) (fun _ _ _ h => h) (Or.inl ⟨by rfl, fun w hS => by go_simp⟩) hHeld ?_
      simp only [Act.put, List.getElem_toArray, List.getElem_cons_zero, List.getElem_cons_succ, List.setIfInBounds_toArray, List.set_cons_zero, List.set_cons_succ]
      refine wpAnyH_take (i := 15) (v := .pointer (some ⟨g, k * 33 + 32, none⟩)) rfl (by kernel_rfl) (by kernel_rfl) (by kernel_rfl) (fun _ _ _ h => h) (Or.inl ⟨by rfl, fun w hS => by go_simp⟩) hHeld ?_
      simp only [Act.put, List.getElem_toArray, List.getElem_cons_zero, List.getElem_cons_succ, List.setIfInBounds_toArray, List.set_cons_zero, List.set_cons_succ]
      refine wpAnyH_take (i := 16) (v := .slice (some ⟨q, 0, none⟩) L (L + 5)) rfl (by kernel_rfl) (by kernel_rfl) (by kernel_rfl) (fun _ _ _ h => h) (Or.inl ⟨by rfl, fun w hS => by (have s1 := hS.1.2; go_simp)⟩) hHeld ?_
      simp only [Act.put, List.getElem_toArray, List.getElem_cons_zero, List.getElem_cons_succ, List.setIfInBounds_toArray, List.set_cons_zero, List.set_cons_succ]
      refine wpAnyH_take (i := 17) (v := .slice (some ⟨ga, off, none⟩) n cap) rfl (by kernel_rfl) (by kernel_rfl) (by kernel_rfl) (fun _ _ _ h => h) (Or.inl ⟨by rfl, fun w hS => by go_simp⟩) hHeld ?_
      simp only [Act.put, List.getElem_toArray, List.getElem_cons_zero, List.getElem_cons_succ, List.setIfInBounds_toArray, List.set_cons_zero, List.set_cons_succ]
      refine wpAnyH_take (i := 18) (v := .int .i64 k) rfl (by kernel_rfl) (by kernel_rfl) (by kernel_rfl) (fun _ _ _ h => h) (Or.inl ⟨by rfl, fun w hS => by go_simp⟩) hHeld ?_
      simp only [Act.put, List.getElem_toArray, List.getElem_cons_zero, List.getElem_cons_succ, List.setIfInBounds_toArray, List.set_cons_zero, List.set_cons_succ]
      refine wpAnyH_take (i := 19) (v := .pointer (some ⟨ga, off + k * 33, none⟩)) rfl (by kernel_rfl) (by kernel_rfl) (by kernel_rfl) (fun _ _ _ h => h) (Or.inl ⟨by rfl, fun w hS => by go_simp⟩) hHeld ?_
      simp only [Act.put, List.getElem_toArray, List.getElem_cons_zero, List.getElem_cons_succ, List.setIfInBounds_toArray, List.set_cons_zero, List.set_cons_succ]
      refine wpAnyH_take (i := 20) (v := .pointer (some ⟨ga, off + k * 33 + 32, none⟩)) rfl (by kernel_rfl) (by kernel_rfl) (by kernel_rfl) (fun _ _ _ h => h) (Or.inl ⟨by rfl, fun w hS => by go_simp⟩) hHeld ?_
      simp only [Act.put, List.getElem_toArray, List.getElem_cons_zero, List.getElem_cons_succ, List.setIfInBounds_toArray, List.set_cons_zero, List.set_cons_succ]
      refine wpAnyH_take (i := 21) (v := .slice va L vc) rfl (by kernel_rfl) (by kernel_rfl) (by kernel_rfl) (fun _ _ _ h => h) (Or.inl ⟨by rfl, fun w hS => by (have s1 := hS.2.2; go_simp)⟩) hHeld ?_
      simp only [Act.put, List.getElem_toArray, List.getElem_cons_zero, List.getElem_cons_succ, List.setIfInBounds_toArray, List.set_cons_zero, List.set_cons_succ]
      refine wpAnyH_ready (rs := [22]) (by kernel_rfl) (by simp) ?_
      refine AllReadyH.cons rfl (fun KQ hK => ?_) AllReadyH.nil
      go_simp
      refine (HKP.out _ d0).mono ?_
      rintro e x1 ⟨rfl, a1⟩
      have d1 := grow_trans d0 a1
      refine hK.out _ _ (HS.out _ d1) (fun hHeld => ?_)
      clear hK KQ
      refine wpAnyH_take (i := 23) (v := .bool false) rfl (by kernel_rfl) (by kernel_rfl) (by kernel_rfl) (fun _ _ _ h => h) (Or.inl ⟨by rfl, fun w hS => by go_simp⟩) hHeld ?_
      simp only [Act.put, List.getElem_toArray, List.getElem_cons_zero, List.getElem_cons_succ, List.setIfInBounds_toArray, List.set_cons_zero, List.set_cons_succ]
      refine wpAnyH_take (i := 24) (v := .bool false) rfl (by kernel_rfl) (by kernel_rfl) (by kernel_rfl) (fun _ _ _ h => h) (Or.inl ⟨by rfl, fun w hS => by go_simp⟩) hHeld ?_
      simp only [Act.put, List.getElem_toArray, List.getElem_cons_zero, List.getElem_cons_succ, List.setIfInBounds_toArray, List.set_cons_zero, List.set_cons_succ]
      refine wpAnyH_done (by kernel_rfl) ?_ _
      go_wp2_with fail
      exact ⟨⟨k + 1, by omega, by go_num, d1⟩, by simp [intOf]; omega⟩
    · have hkn : k = n := by omega
      subst hkn
      have z1 : ¬ (k : Int) < (k : Int) := by omega
      go_wp2_with (first
        | (at_builtin; refine wpList_capP _ rfl _ rfl _ _ _ rfl ?_))
      go_loopw [7] (fun i ws => ∃ (j : Nat), k ≤ j ∧ j ≤ m ∧ i = .int .i64 j ∧ Below w.heap.size w ws) (fun i _ => m - (intOf i).toNat)
      case atStart => exact ⟨k, by omega, by have := HM.out; omega, rfl, hbw⟩
      case round =>
        obtain ⟨j, hj0, hj, rfl, hbs⟩ := hrel
        by_cases hjk : j < m
        · have y1 : (j : Int) < (m : Int) := by omega
          have y0 : (0 : Int) ≤ (j : Int) := by omega
          have HSP : Hid (wr.rangeAt g (j * 33) (encP z32 (.slice none 0 0))) := by
            have h1 := (KLP.out.grow hbs).spare (j - k) (by have := HM.out; omega)
            rwa [← HN.out, show k + (j - k) = j by omega] at h1
          have ckv := rng_val HSP.out rfl
          go_wp2_with (first
            | ((with_reducible refine at_ldd 60 59 ?_); refine wpList_ldk _ rfl _ rfl g (j * 33) z32 rfl (rng_key HSP.out) rfl ?_)
            | ((with_reducible refine at_bdd 61 ?_); refine wpList_bld _ rfl _ _ rfl _ (by rw [List.map_toArray]; exact HBp.out) ?_))
          exact ⟨⟨j + 1, by omega, by omega, by go_num, hbs⟩, by simp [intOf]; omega⟩
        · have y1 : ¬ (j : Int) < (m : Int) := by omega
          go_wp2
          go_ret
          exact ⟨rfl, hbs⟩

end Go.Proofs.YtjcklpdifanjlaaDoor
