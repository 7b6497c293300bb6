/- Worlds that have but grown: draws, and new blocks; path.Compare and path.Bit told so; the function that the leaves are sorted by. -/
import Derived.Test.YtjcklpdifanjlaaDoorOr11
import Derived.Test.YtjcklpdifanjlaaDoorOr10
import Derived.Sort.Grow
import Derived.Shelf.SlSortCmp.WholeK
import Derived.Shelf.SlSorted.Search
import Derived.Test.YtjcklpdifanjlaaDoorProg
namespace Go.Proofs.YtjcklpdifanjlaaDoor
set_option maxRecDepth 20000
open Go.RowKit

def Grew (w w' : World) : Prop := ∃ (q : Nat) (os : Array Obj), w' = Go.Sort.grow (w.drewN q) os
theorem Grew.refl (w : World) : Grew w w := ⟨0, #[], by rw [Go.Sort.grow_empty]; rfl⟩
theorem Grew.trans {a b c : World} (h : Grew a b) (k : Grew b c) : Grew a c := by
  obtain ⟨q, os, rfl⟩ := h
  obtain ⟨p, us, rfl⟩ := k
  refine ⟨q + p, os ++ us, ?_⟩
  rw [← Go.Sort.grow_grow]
  simp [Go.Sort.grow, World.drewN, Nat.add_assoc]
theorem Grew.alloc (w : World) (o : Obj) : Grew w (w.alloc o) := ⟨0, #[o], by rw [Go.Sort.alloc_eq_grow]; rfl⟩
theorem Grew.drewN (w : World) (n : Nat) : Grew w (w.drewN n) := ⟨n, #[], by rw [Go.Sort.grow_empty]⟩
theorem Grew.drew (w : World) : Grew w w.drew := Grew.drewN w 1
theorem Grew.below {w w' : World} (h : Grew w w') : Below w.heap.size w w' := by
  obtain ⟨q, os, rfl⟩ := h
  exact ⟨rfl, rfl, rfl, by simp [Go.Sort.grow, World.drewN], fun k hk => Go.Sort.heap_grow_old (w.drewN q) os hk⟩

/-- A new variable that holds a value; the world has grown. -/
theorem wpList_bxG {ops : Array Oper} {rest : List Oper} {op : Oper} {a : Act} {Q : Exit → Act → World → Prop} (w : World) (hgd : op.guard = none) (x : Operand) (ty : TypeId) (ho : op.op = .box ty x)
    (cs : Array Value) (hx : a.eval x = .agg cs)
    (hk : ∀ w' g, w.heap.size ≤ g → Blk w' g ty cs → Grew w w' → wpList Tryd.prog ops Q rest (a.put op.dst (.pointer (some ⟨g, 0, none⟩))) w') : wpList Tryd.prog ops Q (op :: rest) a w := by
  refine wpList_plain hgd fun K hK => ?_
  unfold Oper.wp execOp
  simp [ho, hx, Instr.box, newVar, Value.cells, newRow]
  exact hK _ _ (hk _ w.heap.size (Nat.le_refl _) (Blk.new w ty cs) (Grew.alloc w _))

set_option maxHeartbeats 1000000 in
theorem pcompare_grew (xs ys : List Int) (w : World) (hx : Key xs) (hy : Key ys) : Calls Tryd.prog 79 #[.agg (B xs), .agg (B ys)] w fun e w' => e = .returned (.int .i64 (cmp xs ys)) ∧ Grew w w' := by
  go_enter Tryd.func79, Tryd.ntmps79
  go_wp2_with (first | ((with_reducible refine at_bxd 2 ?_); refine wpList_bxG _ rfl _ _ rfl _ rfl ?_; intro w1 g1 hg1 B1 b1) | ((with_reducible refine at_bxd 3 ?_); refine wpList_bxG _ rfl _ _ rfl _ rfl ?_; intro w2 g2 hg2 B2 b2))
  have c2 := b1.trans b2
  have HC : Hid (∀ w', Below w2.heap.size w2 w' → Calls Tryd.prog 94 #[.slice (some ⟨g1, 0, none⟩) 32 32, .slice (some ⟨g2, 0, none⟩) 32 32] w' fun e w'' => e = .returned (.int .i64 (cmp xs ys)) ∧ w'' = w') :=
    fun w' hw' => compare_any _ _ xs ys w' (((B1.grow b2.below).grow hw').key_reads hx) ((B2.grow hw').key_reads hy)
  clear hx hy
  go_quiet ((go_at_call 94; exact Calls.quiet_of_same (HC.out _ (below_drewN (Below.refl _ _) _))))
  go_wp2
  go_ret
  exact ⟨rfl, c2.trans (Grew.drewN _ _)⟩

set_option maxHeartbeats 1000000 in
theorem bit_grew (xs : List Int) (d : Nat) (w : World) (hx : Key xs) (hd : d < 256) : Calls Tryd.prog 37 #[.agg (B xs), .int .i64 d] w fun e w' => e = .returned (.int .i64 (kb xs d)) ∧ Grew w w' := by
  have HI : Hid (∀ w, Calls Tryd.prog 69 #[.int .i64 (d : Int)] w fun e w' => e = .returned (.bool true) ∧ w' = w) := by
    intro w
    have := isBit_any d w
    rw [decide_eq_true (by omega)] at this
    exact this
  have HW := hidden (bit_word xs hx d)
  have h2 : ((d / 8 : Nat) : Int) < 32 := by omega
  go_enter Tryd.func37, Tryd.ntmps37
  go_wp2_with (first | (go_at_call 69; refine (HI.out _).mono ?_; rintro e w2 ⟨rfl, rfl⟩) | ((with_reducible refine at_bxd 2 ?_); refine wpList_bxG _ rfl _ _ rfl _ rfl ?_; intro w1 g1 hg1 B1 b1; have c1 := B1.bcell (d / 8) (by rw [hx.1]; omega)))
  go_ret
  exact ⟨by rw [HW.out]; rfl, b1⟩

/-- The function that leaves are sorted by. -/
theorem closure_cmp (k k' : Int) (a b c d a' b' c' d' : List Int) (w : World) (h : Nd k a b c d) (h' : Nd k' a' b' c' d') : Calls Tryd.prog 78 #[.agg (B (nd k a b c d)), .agg (B (nd k' a' b' c' d'))] w fun e w' => e = .returned (.int .i64 (cmp a a')) ∧ Grew w w' := by
  have HC : Hid (∀ w', Calls Tryd.prog 79 #[.agg (B a), .agg (B a')] w' fun e w'' => e = .returned (.int .i64 (cmp a a')) ∧ Grew w' w'') := fun w' => pcompare_grew a a' w' ⟨h.la, h.ba⟩ ⟨h'.la, h'.ba⟩
  have S1 : Hid (Seg (nd k a b c d) 1 a) := h.segA
  have S2 : Hid (Seg (nd k' a' b' c' d') 1 a') := h'.segA
  have L1 : Hid ((Tryd.prog.info? 24).map (·.size) = some a.length) := by show _ = _; rw [h.la]; exact sz_path
  have L2 : Hid ((Tryd.prog.info? 24).map (·.size) = some a'.length) := by show _ = _; rw [h'.la]; exact sz_path
  obtain ⟨N, hN⟩ : ∃ N, N = nd k a b c d := ⟨_, rfl⟩
  obtain ⟨M, hM⟩ : ∃ M, M = nd k' a' b' c' d' := ⟨_, rfl⟩
  obtain ⟨r, hr⟩ : ∃ r, r = cmp a a' := ⟨_, rfl⟩
  rw [← hN] at S1 ⊢
  rw [← hM] at S2 ⊢
  rw [← hr] at HC ⊢
  clear h h' hN hM hr
  go_enter Tryd.func78, Tryd.ntmps78
  go_wp2_with (first
    | ((with_reducible refine at_bxd 2 ?_); refine wpList_bxG _ rfl _ _ rfl _ rfl ?_; intro w1 g1 hg1 B1 b1)
    | ((with_reducible refine at_bxd 3 ?_); refine wpList_bxG _ rfl _ _ rfl _ rfl ?_; intro w2 g2 hg2 B2 b2; have B1' := B1.grow b2.below)
    | ((with_reducible refine at_ldd 6 5 ?_); refine wpList_ldm _ rfl _ _ rfl g1 1 _ _ a rfl B1' S1.out _ _ Tryd.underlying24 L1.out ?_)
    | ((with_reducible refine at_ldd 8 7 ?_); refine wpList_ldm _ rfl _ _ rfl g2 1 _ _ a' rfl B2 S2.out _ _ Tryd.underlying24 L2.out ?_)
    | (go_at_call 79; refine (HC.out _).mono ?_; rintro e w3 ⟨rfl, b3⟩))
  go_ret
  exact ⟨rfl, (b1.trans b2).trans b3⟩

end Go.Proofs.YtjcklpdifanjlaaDoor

/- slices.SortFunc at nodes, and sort.Search: the contracts that the library bears, laid at this program (written by wip/lays.sh for one seat). -/
namespace Go.Proofs.YtjcklpdifanjlaaDoor
set_option maxRecDepth 20000
open Go.Shelf
def sortNode_ren : Go.Shelf.Ren := ⟨fun | 6 => 77 | 15 => 93 | 14 => 92 | 28 => 107 | 29 => 108 | 20 => 99 | 21 => 100 | 22 => 101 | 23 => 102 | 24 => 103 | 25 => 104 | 26 => 105 | 27 => 106 | 46 => 118 | 47 => 119 | 48 => 120 | 49 => 121 | 50 => 122 | 57 => 126 | n => n, fun | 22 => 94 | 24 => 27 | 25 => 123 | 3 => 3 | 39 => 144 | 0 => 0 | 53 => 114 | 55 => 113 | 4 => 4 | 46 => 150 | 45 => 149 | 50 => 154 | 5 => 5 | 9 => 9 | 66 => 162 | 70 => 166 | 76 => 169 | 77 => 170 | n => n, fun | n => n⟩
theorem sortNode : Go.Proofs.SlLaysF0.n6 Tryd.prog sortNode_ren := {
  mixed := by kernel_rfl
  f6 := ⟨Tryd.f77.name, by decide, Tryd.func77.trans (congrArg some (by kernel_rfl))⟩
  f14 := ⟨Tryd.f92.name, by decide, Tryd.func92.trans (congrArg some (by kernel_rfl))⟩
  f15 := Tryd.func93.trans (congrArg some (by kernel_rfl))
  f20 := ⟨Tryd.f99.name, by decide, Tryd.func99.trans (congrArg some (by kernel_rfl))⟩
  f21 := ⟨Tryd.f100.name, by decide, Tryd.func100.trans (congrArg some (by kernel_rfl))⟩
  f22 := ⟨Tryd.f101.name, by decide, Tryd.func101.trans (congrArg some (by kernel_rfl))⟩
  f23 := ⟨Tryd.f102.name, by decide, Tryd.func102.trans (congrArg some (by kernel_rfl))⟩
  f24 := ⟨Tryd.f103.name, by decide, Tryd.func103.trans (congrArg some (by kernel_rfl))⟩
  f25 := ⟨Tryd.f104.name, by decide, Tryd.func104.trans (congrArg some (by kernel_rfl))⟩
  f26 := ⟨Tryd.f105.name, by decide, Tryd.func105.trans (congrArg some (by kernel_rfl))⟩
  f27 := ⟨Tryd.f106.name, by decide, Tryd.func106.trans (congrArg some (by kernel_rfl))⟩
  f28 := Tryd.func107.trans (congrArg some (by kernel_rfl))
  f29 := Tryd.func108.trans (congrArg some (by kernel_rfl))
  f46 := ⟨Tryd.f118.name, by decide, Tryd.func118.trans (congrArg some (by kernel_rfl))⟩
  f47 := Tryd.func119.trans (congrArg some (by kernel_rfl))
  f48 := Tryd.func120.trans (congrArg some (by kernel_rfl))
  f49 := ⟨Tryd.f121.name, by decide, Tryd.func121.trans (congrArg some (by kernel_rfl))⟩
  f50 := ⟨Tryd.f122.name, by decide, Tryd.func122.trans (congrArg some (by kernel_rfl))⟩
  f57 := ⟨Tryd.f126.name, by decide, Tryd.func126.trans (congrArg some (by kernel_rfl))⟩
  t0 := Tryd.underlying0
  a0 := Tryd.isAgg0
  z0 := Tryd.sizeOf0
  v0 := Tryd.zeroValue0
  t3 := Tryd.underlying3
  a3 := Tryd.isAgg3
  z3 := Tryd.sizeOf3
  v3 := Tryd.zeroValue3
  t4 := Tryd.underlying4
  a4 := Tryd.isAgg4
  z4 := Tryd.sizeOf4
  v4 := Tryd.zeroValue4
  t5 := Tryd.underlying5
  a5 := Tryd.isAgg5
  z5 := Tryd.sizeOf5
  v5 := Tryd.zeroValue5
  t9 := Tryd.underlying9
  a9 := Tryd.isAgg9
  z9 := Tryd.sizeOf9
  v9 := Tryd.zeroValue9
  t22 := Tryd.underlying94
  a22 := Tryd.isAgg94
  z22 := Tryd.sizeOf94
  v22 := Tryd.zeroValue94
  t25 := Tryd.underlying123
  a25 := Tryd.isAgg123
  z25 := Tryd.sizeOf123
  v25 := Tryd.zeroValue123
  t39 := Tryd.underlying144
  a39 := Tryd.isAgg144
  z39 := Tryd.sizeOf144
  v39 := Tryd.zeroValue144
  t45 := Tryd.underlying149
  a45 := Tryd.isAgg149
  z45 := Tryd.sizeOf149
  v45 := Tryd.zeroValue149
  t46 := Tryd.underlying150
  a46 := Tryd.isAgg150
  z46 := Tryd.sizeOf150
  v46 := Tryd.zeroValue150
  t50 := Tryd.underlying154
  a50 := Tryd.isAgg154
  z50 := Tryd.sizeOf154
  v50 := Tryd.zeroValue154
  t53 := Tryd.underlying114
  a53 := Tryd.isAgg114
  z53 := Tryd.sizeOf114
  v53 := Tryd.zeroValue114
  t55 := Tryd.underlying113
  a55 := Tryd.isAgg113
  z55 := Tryd.sizeOf113
  v55 := Tryd.zeroValue113
  t66 := Tryd.underlying162
  a66 := Tryd.isAgg162
  z66 := Tryd.sizeOf162
  v66 := Tryd.zeroValue162
  t70 := Tryd.underlying166
  a70 := Tryd.isAgg166
  z70 := Tryd.sizeOf166
  v70 := Tryd.zeroValue166
  t76 := Tryd.underlying169
  a76 := Tryd.isAgg169
  z76 := Tryd.sizeOf169
  v76 := Tryd.zeroValue169
  t77 := Tryd.underlying170
  a77 := Tryd.isAgg170
  z77 := Tryd.sizeOf170
  v77 := Tryd.zeroValue170 }
def searchL_ren : Go.Shelf.Ren := ⟨fun | 16 => 81 | n => n, fun | 3 => 3 | 35 => 112 | 4 => 4 | 38 => 144 | n => n, fun | n => n⟩
theorem searchL : Go.Proofs.SlLaysO.n16 Tryd.prog searchL_ren := {
  mixed := by kernel_rfl
  f16 := Tryd.func81.trans (congrArg some (by kernel_rfl))
  t3 := Tryd.underlying3
  a3 := Tryd.isAgg3
  z3 := Tryd.sizeOf3
  v3 := Tryd.zeroValue3
  t4 := Tryd.underlying4
  a4 := Tryd.isAgg4
  z4 := Tryd.sizeOf4
  v4 := Tryd.zeroValue4
  t35 := Tryd.underlying112
  a35 := Tryd.isAgg112
  z35 := Tryd.sizeOf112
  v35 := Tryd.zeroValue112
  t38 := Tryd.underlying144
  a38 := Tryd.isAgg144
  z38 := Tryd.sizeOf144
  v38 := Tryd.zeroValue144 }

end Go.Proofs.YtjcklpdifanjlaaDoor
