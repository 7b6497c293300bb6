/- Worlds that have but grown: draws, and new blocks; path.Compare and path.Bit told so; the function that the leaves are sorted by. -/
import Derived.Test.YtkhinjkcfjncgaaGreatDoorKn07
import Derived.Test.YtkhinjkcfjncgaaGreatDoorKn06
import Derived.Sort.Grow
import Derived.Shelf.SlSortCmp.WholeK
import Derived.Shelf.SlSorted.Search
import Derived.Test.YtkhinjkcfjncgaaGreatDoorProg
import Derived.Test.YtkhinjkcfjncgaaGreatDoorKn08
import Derived.Test.YtkhinjkcfjncgaaGreatDoorKn36
import Derived.Lib.SlicesSearch
namespace Go.Proofs.YtkhinjkcfjncgaaGreatDoor
set_option maxRecDepth 20000
open Go.RowKit

def Grew (w w' : World) : Prop := ∃ (q : Nat) (os : Array Obj), w' = Go.Sort.grow (w.drewN q) os
theorem Grew.refl (w : World) : Grew w w := ⟨0, #[], by rw [Go.Sort.grow_empty]; rfl⟩
theorem Grew.trans {a b c : World} (h : Grew a b) (k : Grew b c) : Grew a c := by
  obtain ⟨q, os, rfl⟩ := h
  obtain ⟨p, us, rfl⟩ := k
  refine ⟨q + p, os ++ us, ?_⟩
  rw [← Go.Sort.grow_grow]
  simp [Go.Sort.grow, World.drewN, Nat.add_assoc]
theorem Grew.alloc (w : World) (o : Obj) : Grew w (w.alloc o) := ⟨0, #[o], by rw [Go.Sort.alloc_eq_grow]; rfl⟩
theorem Grew.drewN (w : World) (n : Nat) : Grew w (w.drewN n) := ⟨n, #[], by rw [Go.Sort.grow_empty]⟩
theorem Grew.drew (w : World) : Grew w w.drew := Grew.drewN w 1
theorem Grew.below {w w' : World} (h : Grew w w') : Below w.heap.size w w' := by
  obtain ⟨q, os, rfl⟩ := h
  exact ⟨rfl, rfl, rfl, by simp [Go.Sort.grow, World.drewN], fun k hk => Go.Sort.heap_grow_old (w.drewN q) os hk⟩

/-- A new variable that holds a value; the world has grown. -/
theorem wpList_bxG {ops : Array Oper} {rest : List Oper} {op : Oper} {a : Act} {Q : Exit → Act → World → Prop} (w : World) (hgd : op.guard = none) (x : Operand) (ty : TypeId) (ho : op.op = .box ty x)
    (cs : Array Value) (hx : a.eval x = .agg cs)
    (hk : ∀ w' g, w.heap.size ≤ g → Blk w' g ty cs → Grew w w' → wpList Tryz.prog ops Q rest (a.put op.dst (.pointer (some ⟨g, 0, none⟩))) w') : wpList Tryz.prog ops Q (op :: rest) a w := by
  refine wpList_plain hgd fun K hK => ?_
  unfold Oper.wp execOp
  simp [ho, hx, Instr.box, newVar, Value.cells, newRow]
  exact hK _ _ (hk _ w.heap.size (Nat.le_refl _) (Blk.new w ty cs) (Grew.alloc w _))

set_option maxHeartbeats 1000000 in
theorem pcompare_grew (xs ys : List Int) (w : World) (hx : Key xs) (hy : Key ys) : Calls Tryz.prog 190 #[.agg (B xs), .agg (B ys)] w fun e w' => e = .returned (.int .i64 (cmp xs ys)) ∧ Grew w w' := by
  go_enter Tryz.func190, Tryz.ntmps190
  go_wp2_with (first | ((with_reducible refine at_bxd 2 ?_); refine wpList_bxG _ rfl _ _ rfl _ rfl ?_; intro w1 g1 hg1 B1 b1) | ((with_reducible refine at_bxd 3 ?_); refine wpList_bxG _ rfl _ _ rfl _ rfl ?_; intro w2 g2 hg2 B2 b2))
  have c2 := b1.trans b2
  have HC : Hid (∀ w', Below w2.heap.size w2 w' → Calls Tryz.prog 206 #[.slice (some ⟨g1, 0, none⟩) 32 32, .slice (some ⟨g2, 0, none⟩) 32 32] w' fun e w'' => e = .returned (.int .i64 (cmp xs ys)) ∧ w'' = w') :=
    fun w' hw' => compare_any _ _ xs ys w' (((B1.grow b2.below).grow hw').key_reads hx) ((B2.grow hw').key_reads hy)
  clear hx hy
  go_quiet ((go_at_call 206; exact Calls.quiet_of_same (HC.out _ (below_drewN (Below.refl _ _) _))))
  go_wp2
  go_ret
  exact ⟨rfl, c2.trans (Grew.drewN _ _)⟩

set_option maxHeartbeats 1000000 in
theorem bit_grew (xs : List Int) (d : Nat) (w : World) (hx : Key xs) (hd : d < 256) : Calls Tryz.prog 201 #[.agg (B xs), .int .i64 d] w fun e w' => e = .returned (.int .i64 (kb xs d)) ∧ Grew w w' := by
  have HI : Hid (∀ w, Calls Tryz.prog 216 #[.int .i64 (d : Int)] w fun e w' => e = .returned (.bool true) ∧ w' = w) := by
    intro w
    have := isBit_any d w
    rw [decide_eq_true (by omega)] at this
    exact this
  have HW := hidden (bit_word xs hx d)
  have h2 : ((d / 8 : Nat) : Int) < 32 := by omega
  go_enter Tryz.func201, Tryz.ntmps201
  go_wp2_with (first | (go_at_call 216; refine (HI.out _).mono ?_; rintro e w2 ⟨rfl, rfl⟩) | ((with_reducible refine at_bxd 2 ?_); refine wpList_bxG _ rfl _ _ rfl _ rfl ?_; intro w1 g1 hg1 B1 b1; have c1 := B1.bcell (d / 8) (by rw [hx.1]; omega)))
  go_ret
  exact ⟨by rw [HW.out]; rfl, b1⟩

/-- The function that leaves are sorted by. -/
theorem closure_cmp (k k' : Int) (a b c d a' b' c' d' : List Int) (w : World) (h : Nd k a b c d) (h' : Nd k' a' b' c' d') : Calls Tryz.prog 189 #[.agg (B (nd k a b c d)), .agg (B (nd k' a' b' c' d'))] w fun e w' => e = .returned (.int .i64 (cmp a a')) ∧ Grew w w' := by
  have HC : Hid (∀ w', Calls Tryz.prog 190 #[.agg (B a), .agg (B a')] w' fun e w'' => e = .returned (.int .i64 (cmp a a')) ∧ Grew w' w'') := fun w' => pcompare_grew a a' w' ⟨h.la, h.ba⟩ ⟨h'.la, h'.ba⟩
  have S1 : Hid (Seg (nd k a b c d) 1 a) := h.segA
  have S2 : Hid (Seg (nd k' a' b' c' d') 1 a') := h'.segA
  have L1 : Hid ((Tryz.prog.info? 72).map (·.size) = some a.length) := by show _ = _; rw [h.la]; exact sz_path
  have L2 : Hid ((Tryz.prog.info? 72).map (·.size) = some a'.length) := by show _ = _; rw [h'.la]; exact sz_path
  obtain ⟨N, hN⟩ : ∃ N, N = nd k a b c d := ⟨_, rfl⟩
  obtain ⟨M, hM⟩ : ∃ M, M = nd k' a' b' c' d' := ⟨_, rfl⟩
  obtain ⟨r, hr⟩ : ∃ r, r = cmp a a' := ⟨_, rfl⟩
  rw [← hN] at S1 ⊢
  rw [← hM] at S2 ⊢
  rw [← hr] at HC ⊢
  clear h h' hN hM hr
  go_enter Tryz.func189, Tryz.ntmps189
  go_wp2_with (first
    | ((with_reducible refine at_bxd 2 ?_); refine wpList_bxG _ rfl _ _ rfl _ rfl ?_; intro w1 g1 hg1 B1 b1)
    | ((with_reducible refine at_bxd 3 ?_); refine wpList_bxG _ rfl _ _ rfl _ rfl ?_; intro w2 g2 hg2 B2 b2; have B1' := B1.grow b2.below)
    | ((with_reducible refine at_ldd 6 5 ?_); refine wpList_ldm _ rfl _ _ rfl g1 1 _ _ a rfl B1' S1.out _ _ Tryz.underlying72 L1.out ?_)
    | ((with_reducible refine at_ldd 8 7 ?_); refine wpList_ldm _ rfl _ _ rfl g2 1 _ _ a' rfl B2 S2.out _ _ Tryz.underlying72 L2.out ?_)
    | (go_at_call 190; refine (HC.out _).mono ?_; rintro e w3 ⟨rfl, b3⟩))
  go_ret
  exact ⟨rfl, (b1.trans b2).trans b3⟩

end Go.Proofs.YtkhinjkcfjncgaaGreatDoor

/- slices.SortFunc at nodes, and sort.Search: the contracts that the library bears, laid at this program (written by wip/lays.sh for one seat). -/
namespace Go.Proofs.YtkhinjkcfjncgaaGreatDoor
set_option maxRecDepth 20000
open Go.Shelf
def sortNode_ren : Go.Shelf.Ren := ⟨fun | 6 => 188 | 15 => 78 | 14 => 205 | 28 => 134 | 29 => 135 | 20 => 217 | 21 => 218 | 22 => 219 | 23 => 220 | 24 => 221 | 25 => 222 | 26 => 223 | 27 => 224 | 46 => 232 | 47 => 173 | 48 => 174 | 49 => 233 | 50 => 234 | 57 => 243 | n => n, fun | 22 => 194 | 24 => 143 | 25 => 238 | 3 => 3 | 39 => 134 | 0 => 0 | 53 => 179 | 55 => 181 | 4 => 4 | 46 => 171 | 45 => 170 | 50 => 176 | 5 => 5 | 9 => 9 | 66 => 219 | 70 => 223 | 76 => 248 | 77 => 89 | n => n, fun | n => n⟩
theorem sortNode : Go.Proofs.SlLaysF0.n6 Tryz.prog sortNode_ren := {
  mixed := by kernel_rfl
  f6 := ⟨Tryz.f188.name, by decide, Tryz.func188.trans (congrArg some (by kernel_rfl))⟩
  f14 := ⟨Tryz.f205.name, by decide, Tryz.func205.trans (congrArg some (by kernel_rfl))⟩
  f15 := Tryz.func78.trans (congrArg some (by kernel_rfl))
  f20 := ⟨Tryz.f217.name, by decide, Tryz.func217.trans (congrArg some (by kernel_rfl))⟩
  f21 := ⟨Tryz.f218.name, by decide, Tryz.func218.trans (congrArg some (by kernel_rfl))⟩
  f22 := ⟨Tryz.f219.name, by decide, Tryz.func219.trans (congrArg some (by kernel_rfl))⟩
  f23 := ⟨Tryz.f220.name, by decide, Tryz.func220.trans (congrArg some (by kernel_rfl))⟩
  f24 := ⟨Tryz.f221.name, by decide, Tryz.func221.trans (congrArg some (by kernel_rfl))⟩
  f25 := ⟨Tryz.f222.name, by decide, Tryz.func222.trans (congrArg some (by kernel_rfl))⟩
  f26 := ⟨Tryz.f223.name, by decide, Tryz.func223.trans (congrArg some (by kernel_rfl))⟩
  f27 := ⟨Tryz.f224.name, by decide, Tryz.func224.trans (congrArg some (by kernel_rfl))⟩
  f28 := Tryz.func134.trans (congrArg some (by kernel_rfl))
  f29 := Tryz.func135.trans (congrArg some (by kernel_rfl))
  f46 := ⟨Tryz.f232.name, by decide, Tryz.func232.trans (congrArg some (by kernel_rfl))⟩
  f47 := Tryz.func173.trans (congrArg some (by kernel_rfl))
  f48 := Tryz.func174.trans (congrArg some (by kernel_rfl))
  f49 := ⟨Tryz.f233.name, by decide, Tryz.func233.trans (congrArg some (by kernel_rfl))⟩
  f50 := ⟨Tryz.f234.name, by decide, Tryz.func234.trans (congrArg some (by kernel_rfl))⟩
  f57 := ⟨Tryz.f243.name, by decide, Tryz.func243.trans (congrArg some (by kernel_rfl))⟩
  t0 := Tryz.underlying0
  a0 := Tryz.isAgg0
  z0 := Tryz.sizeOf0
  v0 := Tryz.zeroValue0
  t3 := Tryz.underlying3
  a3 := Tryz.isAgg3
  z3 := Tryz.sizeOf3
  v3 := Tryz.zeroValue3
  t4 := Tryz.underlying4
  a4 := Tryz.isAgg4
  z4 := Tryz.sizeOf4
  v4 := Tryz.zeroValue4
  t5 := Tryz.underlying5
  a5 := Tryz.isAgg5
  z5 := Tryz.sizeOf5
  v5 := Tryz.zeroValue5
  t9 := Tryz.underlying9
  a9 := Tryz.isAgg9
  z9 := Tryz.sizeOf9
  v9 := Tryz.zeroValue9
  t22 := Tryz.underlying194
  a22 := Tryz.isAgg194
  z22 := Tryz.sizeOf194
  v22 := Tryz.zeroValue194
  t25 := Tryz.underlying238
  a25 := Tryz.isAgg238
  z25 := Tryz.sizeOf238
  v25 := Tryz.zeroValue238
  t39 := Tryz.underlying134
  a39 := Tryz.isAgg134
  z39 := Tryz.sizeOf134
  v39 := Tryz.zeroValue134
  t45 := Tryz.underlying170
  a45 := Tryz.isAgg170
  z45 := Tryz.sizeOf170
  v45 := Tryz.zeroValue170
  t46 := Tryz.underlying171
  a46 := Tryz.isAgg171
  z46 := Tryz.sizeOf171
  v46 := Tryz.zeroValue171
  t50 := Tryz.underlying176
  a50 := Tryz.isAgg176
  z50 := Tryz.sizeOf176
  v50 := Tryz.zeroValue176
  t53 := Tryz.underlying179
  a53 := Tryz.isAgg179
  z53 := Tryz.sizeOf179
  v53 := Tryz.zeroValue179
  t55 := Tryz.underlying181
  a55 := Tryz.isAgg181
  z55 := Tryz.sizeOf181
  v55 := Tryz.zeroValue181
  t66 := Tryz.underlying219
  a66 := Tryz.isAgg219
  z66 := Tryz.sizeOf219
  v66 := Tryz.zeroValue219
  t70 := Tryz.underlying223
  a70 := Tryz.isAgg223
  z70 := Tryz.sizeOf223
  v70 := Tryz.zeroValue223
  t76 := Tryz.underlying248
  a76 := Tryz.isAgg248
  z76 := Tryz.sizeOf248
  v76 := Tryz.zeroValue248
  t77 := Tryz.underlying89
  a77 := Tryz.isAgg89
  z77 := Tryz.sizeOf89
  v77 := Tryz.zeroValue89 }
def searchL_ren : Go.Shelf.Ren := ⟨fun | 16 => 207 | n => n, fun | 3 => 3 | 35 => 67 | 4 => 4 | 38 => 134 | n => n, fun | n => n⟩
theorem searchL : Go.Proofs.SlLaysO.n16 Tryz.prog searchL_ren := {
  mixed := by kernel_rfl
  f16 := Tryz.func207.trans (congrArg some (by kernel_rfl))
  t3 := Tryz.underlying3
  a3 := Tryz.isAgg3
  z3 := Tryz.sizeOf3
  v3 := Tryz.zeroValue3
  t4 := Tryz.underlying4
  a4 := Tryz.isAgg4
  z4 := Tryz.sizeOf4
  v4 := Tryz.zeroValue4
  t35 := Tryz.underlying67
  a35 := Tryz.isAgg67
  z35 := Tryz.sizeOf67
  v35 := Tryz.zeroValue67
  t38 := Tryz.underlying134
  a38 := Tryz.isAgg134
  z38 := Tryz.sizeOf134
  v38 := Tryz.zeroValue134 }

end Go.Proofs.YtkhinjkcfjncgaaGreatDoor

/- node.part and node.rootAt, as contracts. -/
namespace Go.Proofs.YtkhinjkcfjncgaaGreatDoor
set_option maxRecDepth 20000
open Go.RowKit

/-- A slice of leaves. -/
def LvAt (w : World) (v : Value) (ls : List Lf) : Prop :=
  ∃ a cap, v = .slice a ls.length cap ∧ ls.length ≤ cap ∧ (0 < ls.length → ∃ g off, a = some ⟨g, off, none⟩ ∧ ∀ i, i < ls.length → w.rangeAt g (off + i * 129) (encLf ls[i]!))

theorem range_grow {w w' : World} {g o : Nat} {cs : List Value} (h : w.rangeAt g o cs) (hb : Below w.heap.size w w') : w'.rangeAt g o cs := fun j v hv => (hb.cell (p := ⟨g, o + j, none⟩) (block_lt_of_cell (h j v hv))).trans (h j v hv)

theorem LvAt.grow {w w' : World} {v : Value} {ls : List Lf} (h : LvAt w v ls) (hb : Below w.heap.size w w') : LvAt w' v ls := by
  obtain ⟨a, cap, e, h1, h2⟩ := h
  refine ⟨a, cap, e, h1, fun hp => ?_⟩
  obtain ⟨g, off, ea, hr⟩ := h2 hp
  exact ⟨g, off, ea, fun i hi => range_grow (hr i hi) hb⟩
theorem LvAt.kp {w : World} {v : Value} {ls : List Lf} (h : LvAt w v ls) : Kp w (fun w' => LvAt w' v ls) := fun _ q => h.grow q

/-- The key, and the value's digest, in a leaf's cells. -/
theorem lf_key {w : World} {g o : Nat} {x : Lf} (h : w.rangeAt g o (encLf x)) : w.rangeAt g (o + 1) (B x.key).toList := by
  intro j v hv
  rw [B_toList, List.getElem?_map, Option.map_eq_some_iff] at hv
  obtain ⟨z, hz, rfl⟩ := hv
  rw [Nat.add_assoc]
  refine h (1 + j) _ ?_
  unfold encLf Lf.ints
  rw [List.getElem?_map, x.nd.segA j z hz]
  rfl
theorem lf_val {w : World} {g o : Nat} {x : Lf} (h : w.rangeAt g o (encLf x)) : w.rangeAt g (o + 33) (B x.val).toList := by
  intro j v hv
  rw [B_toList, List.getElem?_map, Option.map_eq_some_iff] at hv
  obtain ⟨z, hz, rfl⟩ := hv
  rw [Nat.add_assoc]
  refine h (33 + j) _ ?_
  unfold encLf Lf.ints
  rw [List.getElem?_map, x.nd.segB j z hz]
  rfl

set_option maxHeartbeats 2000000 in
/-- The function that is searched by. -/
theorem closure_bit (g off cap n i d g1 g2 : Nat) (x : Lf) (W : World) (hi : i < n) (hd : d < 256) (h1 : W.cell? ⟨g1, 0, none⟩ = some (.slice (some ⟨g, off, none⟩) n cap)) (h2 : W.cell? ⟨g2, 0, none⟩ = some (.int .i64 d)) (hr : W.rangeAt g (off + i * 129) (encLf x)) :
    Calls Tryz.prog 208 #[.int .i64 i, .pointer (some ⟨g1, 0, none⟩), .pointer (some ⟨g2, 0, none⟩)] W fun e w' => e = .returned (.bool (kb x.key d == 1)) ∧ Grew W w' := by
  have HB : Hid (∀ w', Calls Tryz.prog 201 #[.agg (B x.key), .int .i64 d] w' fun e w'' => e = .returned (.int .i64 (kb x.key d)) ∧ Grew w' w'') := fun w' => bit_grew x.key d w' x.hk hd
  have HL : Hid ((Tryz.prog.info? 72).map (·.size) = some (B x.key).toList.length) := by show _ = _; rw [B_toList, List.length_map, x.hk.1]; exact sz_path
  have HS : Hid (∀ w', Below W.heap.size W w' → w'.cell? ⟨g1, 0, none⟩ = some (.slice (some ⟨g, off, none⟩) n cap) ∧ w'.cell? ⟨g2, 0, none⟩ = some (.int .i64 d) ∧ w'.rangeAt g (off + i * 129 + 1) (B x.key).toList) := fun w' hw' => ⟨(hw'.cell (block_lt_of_cell h1)).trans h1, (hw'.cell (block_lt_of_cell h2)).trans h2, range_grow (lf_key hr) hw'⟩
  obtain ⟨K, hK⟩ : ∃ K, K = x.key := ⟨_, rfl⟩
  rw [← hK] at HB HL HS ⊢
  obtain ⟨z, hz⟩ : ∃ z, z = kb K d := ⟨_, rfl⟩
  rw [← hz] at HB ⊢
  have hi1 : (i : Int) < (n : Int) := by omega
  have hi0 : (0 : Int) ≤ (i : Int) := by omega
  clear hr h1 h2 hK hz hi
  go_enter Tryz.func208, Tryz.ntmps208
  go_wp2_with fail
  have d0 : Below W.heap.size W W.drew := (Below.refl _ _).drew
  refine wp_region_held_drew (S := fun w' => w'.cell? ⟨g1, 0, none⟩ = some (.slice (some ⟨g, off, none⟩) n cap) ∧ w'.cell? ⟨g2, 0, none⟩ = some (.int .i64 d) ∧ w'.rangeAt g (off + i * 129 + 1) (B K).toList) (by kernel_rfl) (HS.out _ d0) (fun hHeld => ?_)
  refine wpAnyH_take (i := 0) (v := .slice (some ⟨g, off, none⟩) n cap) rfl (by kernel_rfl) (by kernel_rfl) (by kernel_rfl) (fun _ _ _ h => h) (Or.inl ⟨by rfl, fun w hS => by (have s1 := hS.1; go_simp)⟩) hHeld ?_
  simp only [Act.put, List.getElem_toArray, List.getElem_cons_zero, List.setIfInBounds_toArray, List.set_cons_zero, List.set_cons_succ]
  refine wpAnyH_take (i := 1) (v := .int .i64 i) rfl (by kernel_rfl) (by kernel_rfl) (by kernel_rfl) (fun _ _ _ h => h) (Or.inl ⟨by rfl, fun w hS => by go_simp⟩) hHeld ?_
  simp only [Act.put, List.getElem_toArray, List.getElem_cons_zero, List.getElem_cons_succ, List.setIfInBounds_toArray, List.set_cons_zero, List.set_cons_succ]
  refine wpAnyH_take (i := 2) (v := .pointer (some ⟨g, off + i * 129, none⟩)) rfl (by kernel_rfl) (by kernel_rfl) (by kernel_rfl) (fun _ _ _ h => h) (Or.inl ⟨by rfl, fun w hS => by go_simp⟩) hHeld ?_
  simp only [Act.put, List.getElem_toArray, List.getElem_cons_zero, List.getElem_cons_succ, List.setIfInBounds_toArray, List.set_cons_zero, List.set_cons_succ]
  refine wpAnyH_take (i := 3) (v := .pointer (some ⟨g, off + i * 129 + 1, none⟩)) rfl (by kernel_rfl) (by kernel_rfl) (by kernel_rfl) (fun _ _ _ h => h) (Or.inl ⟨by rfl, fun w hS => by go_simp⟩) hHeld ?_
  simp only [Act.put, List.getElem_toArray, List.getElem_cons_zero, List.getElem_cons_succ, List.setIfInBounds_toArray, List.set_cons_zero, List.set_cons_succ]
  refine wpAnyH_take (i := 4) (v := .agg (B K)) rfl (by kernel_rfl) (by kernel_rfl) (by kernel_rfl) (fun _ _ _ h => h) (yieldsIf_load_mid rfl 72 (.tmp 8) rfl g (off + i * 129 + 1) rfl (B K).toList _ (fun w hS => hS.2.2) Tryz.underlying72 rfl HL.out) hHeld ?_
  simp only [Act.put, List.getElem_toArray, List.getElem_cons_zero, List.getElem_cons_succ, List.setIfInBounds_toArray, List.set_cons_zero, List.set_cons_succ]
  refine wpAnyH_take (i := 5) (v := .int .i64 d) rfl (by kernel_rfl) (by kernel_rfl) (by kernel_rfl) (fun _ _ _ h => h) (Or.inl ⟨by rfl, fun w hS => by (have s1 := hS.2.1; go_simp)⟩) hHeld ?_
  simp only [Act.put, List.getElem_toArray, List.getElem_cons_zero, List.getElem_cons_succ, List.setIfInBounds_toArray, List.set_cons_zero, List.set_cons_succ]
  refine wpAnyH_ready (rs := [6]) (by kernel_rfl) (by simp) ?_
  refine AllReadyH.cons rfl (fun KQ hK => ?_) AllReadyH.nil
  go_simp
  refine (HB.out _).mono ?_
  rintro e x1 ⟨rfl, a1⟩
  have d1 := grow_trans d0 a1.below
  refine hK.out _ _ (HS.out _ d1) (fun hHeld => ?_)
  clear hK KQ
  refine wpAnyH_take (i := 7) (v := .bool (z == 1)) rfl (by kernel_rfl) (by kernel_rfl) (by kernel_rfl) (fun _ _ _ h => h) (Or.inl ⟨by rfl, fun w hS => by go_simp⟩) hHeld ?_
  simp only [Act.put, List.getElem_toArray, List.getElem_cons_zero, List.getElem_cons_succ, List.setIfInBounds_toArray, List.set_cons_zero, List.set_cons_succ]
  refine wpAnyH_take (i := 8) (v := .bool (z == 1)) rfl (by kernel_rfl) (by kernel_rfl) (by kernel_rfl) (fun _ _ _ h => h) (Or.inl ⟨by rfl, fun w hS => by go_simp⟩) hHeld ?_
  simp only [Act.put, List.getElem_toArray, List.getElem_cons_zero, List.getElem_cons_succ, List.setIfInBounds_toArray, List.set_cons_zero, List.set_cons_succ]
  refine wpAnyH_done (by kernel_rfl) ?_ _
  go_wp2_with fail
  go_ret
  exact ⟨rfl, (Grew.drew W).trans a1⟩

theorem countP_rng (q : Lf → Bool) : ∀ l : List Lf, (List.range l.length).countP (fun i => q l[i]!) = l.countP q := by
  intro l
  have e : (List.range l.length).map (fun i => l[i]!) = l := by
    apply List.ext_getElem (by simp)
    intro i h1 h2
    simp [h2]
  have h := List.countP_map (p := q) (f := fun i => l[i]!) (l := List.range l.length)
  rw [e] at h
  exact h.symm

theorem LvAt.cut {w : World} {g off cap : Nat} {ls : List Lf} (h : ∀ i, i < ls.length → w.rangeAt g (off + i * 129) (encLf ls[i]!)) (hc : ls.length ≤ cap) (c : Nat) (hcn : c ≤ ls.length) :
    LvAt w (.slice (some ⟨g, off, none⟩) c cap) (ls.take c) ∧ LvAt w (.slice (if cap = c then some ⟨g, off, none⟩ else some ⟨g, off + c * 129, none⟩) (ls.length - c) (cap - c)) (ls.drop c) := by
  constructor
  · have hl : (ls.take c).length = c := by simp; omega
    refine ⟨_, _, by rw [hl], by omega, fun _ => ⟨g, off, rfl, fun i hi => ?_⟩⟩
    rw [hl] at hi
    have e : (ls.take c)[i]! = ls[i]! := by
      rw [getElem!_pos _ i (by omega), getElem!_pos _ i (by omega)]
      simp
    rw [e]
    exact h i (by omega)
  · have hl : (ls.drop c).length = ls.length - c := by simp
    refine ⟨_, _, by rw [hl], by omega, fun hp => ?_⟩
    rw [hl] at hp
    rw [if_neg (by omega)]
    refine ⟨g, off + c * 129, rfl, fun i hi => ?_⟩
    rw [hl] at hi
    have e : (ls.drop c)[i]! = ls[c + i]! := by
      rw [getElem!_pos _ i (by omega), getElem!_pos _ (c + i) (by omega)]
      simp
    rw [e, Nat.add_assoc, ← Nat.add_mul]
    exact h (c + i) (by omega)

theorem sub_add_cap (a b : Nat) (h : b ≤ a) : ((a : Int) - (b : Int)).toNat = a - b := by omega

set_option maxHeartbeats 4000000 in
theorem part_any (g off cap d : Nat) (ls : List Lf) (w : World) (hd : d < 256) (hn : ls.length ≤ 4096) (hcap : ls.length ≤ cap) (hr : Rise ls) (hs : Same ls d) (hv : ∀ i, i < ls.length → w.rangeAt g (off + i * 129) (encLf ls[i]!)) :
    Calls Tryz.prog 191 #[.slice (some ⟨g, off, none⟩) ls.length cap, .int .i64 d] w fun e w' => ∃ v0 v1, e = .returned (.tuple #[v0, v1]) ∧ LvAt w' v0 (sdL ls d 0) ∧ LvAt w' v1 (sdL ls d 1) ∧ Below w.heap.size w w' := by
  obtain ⟨c, hc⟩ : ∃ c, c = ls.countP fun x => !(kb x.key d == 1) := ⟨_, rfl⟩
  have hcn : c ≤ ls.length := by rw [hc]; exact List.countP_le_length
  obtain ⟨p0, p1⟩ := part_at ls d hd hr hs
  rw [← hc] at p0 p1
  have eg : ∀ args w, (callFunc 208 args).run Tryz.prog w = .ok (.enter 208 args) w := enters_of Tryz.func208 (by kernel_rfl) rfl
  have HSE : Hid (∀ w' g1 g2, Below w.heap.size w w' → w'.cell? ⟨g1, 0, none⟩ = some (.slice (some ⟨g, off, none⟩) ls.length cap) → w'.cell? ⟨g2, 0, none⟩ = some (.int .i64 d) →
      Calls Tryz.prog 207 #[.int .i64 ls.length, .func (.func 208) #[] #[.pointer (some ⟨g1, 0, none⟩), .pointer (some ⟨g2, 0, none⟩)]] w' fun e w'' => e = .returned (.int .i64 c) ∧ Grew w' w'') := by
    intro w' g1 g2 hb h1 h2
    have h := Any.sort_Search searchL 208 #[.pointer (some ⟨g1, 0, none⟩), .pointer (some ⟨g2, 0, none⟩)] ls.length (fun i => kb ls[i]!.key d == 1) w' eg (by omega) (fun m os i hi => by
      have q : Grew w' (Go.Sort.grow (w'.drewN m) os) := ⟨m, os, rfl⟩
      have := closure_bit g off cap ls.length i d g1 g2 ls[i]! _ hi hd ((q.below.cell (block_lt_of_cell h1)).trans h1) ((q.below.cell (block_lt_of_cell h2)).trans h2) (range_grow (hv i hi) (grow_trans hb q.below))
      exact this.mono fun e w'' ⟨e1, e2⟩ => ⟨e1, e2⟩) (part_mono ls d hd hr hs)
    rw [countP_rng (fun x => !(kb x.key d == 1)) ls, ← hc] at h
    exact h
  have HV : Hid (∀ w', Below w.heap.size w w' → LvAt w' (.slice (some ⟨g, off, none⟩) c cap) (sdL ls d 0) ∧ LvAt w' (.slice (if cap = c then some ⟨g, off, none⟩ else some ⟨g, off + c * 129, none⟩) (ls.length - c) (cap - c)) (sdL ls d 1)) := by
    intro w' hb
    have := LvAt.cut (fun i hi => range_grow (hv i hi) hb) hcap c hcn
    rwa [p0, p1] at this
  obtain ⟨n, hnn⟩ : ∃ n, n = ls.length := ⟨_, rfl⟩
  rw [← hnn] at HSE HV hcn hcap hn ⊢
  have i1 : (c : Int) ≤ (n : Int) := by omega
  have i2 : (0 : Int) ≤ (c : Int) := by omega
  have i3 : (n : Int) ≤ (cap : Int) := by omega
  have i4 : (c : Int) ≤ (cap : Int) := by omega
  clear hr hs hv hc p0 p1 eg hnn
  go_enter Tryz.func191, Tryz.ntmps191
  go_wp2_with (go_at_call 207; refine (HSE.out _ _ _ (grow_trans (grow_alloc _ _) (grow_alloc _ _)) (by simp) (by simp)).mono ?_; rintro e x1 ⟨rfl, a1⟩)
  have hx : Below w.heap.size w x1 := grow_trans (grow_trans (grow_alloc _ _) (grow_alloc _ _)) a1.below
  have HS : Hid (∀ w', Below x1.heap.size x1 w' → w'.cell? ⟨w.heap.size, 0, none⟩ = some (.slice (some ⟨g, off, none⟩) n cap)) := by
    intro w' hw'
    have q0 : ((w.alloc (.cells #[.slice (some ⟨g, off, none⟩) n cap] 194)).alloc (.cells #[.int .i64 d] 3)).cell? ⟨w.heap.size, 0, none⟩ = some (.slice (some ⟨g, off, none⟩) n cap) := by simp
    have q1 := (a1.below.cell (block_lt_of_cell q0)).trans q0
    exact (hw'.cell (block_lt_of_cell q1)).trans q1
  have d0 : Below x1.heap.size x1 x1.drew := (Below.refl _ _).drew
  refine wp_region_held_drew (S := fun w' => w'.cell? ⟨w.heap.size, 0, none⟩ = some (.slice (some ⟨g, off, none⟩) n cap)) (by kernel_rfl) (HS.out _ d0) (fun hHeld => ?_)
  refine wpAnyH_take (i := 0) (v := .slice (some ⟨g, off, none⟩) n cap) rfl (by kernel_rfl) (by kernel_rfl) (by kernel_rfl) (fun _ _ _ h => h) (Or.inl ⟨by rfl, fun w hS => by (have s1 := hS; go_simp)⟩) hHeld ?_
  simp only [Act.put, List.getElem_toArray, List.getElem_cons_zero, List.setIfInBounds_toArray, List.set_cons_zero, List.set_cons_succ]
  refine wpAnyH_take (i := 1) (v := .int .i64 c) rfl (by kernel_rfl) (by kernel_rfl) (by kernel_rfl) (fun _ _ _ h => h) (Or.inl ⟨by rfl, fun w hS => by go_simp⟩) hHeld ?_
  simp only [Act.put, List.getElem_toArray, List.getElem_cons_zero, List.getElem_cons_succ, List.setIfInBounds_toArray, List.set_cons_zero, List.set_cons_succ]
  refine wpAnyH_take (i := 2) (v := .slice (some ⟨g, off, none⟩) c cap) rfl (by kernel_rfl) (by kernel_rfl) (by kernel_rfl) (fun _ _ _ h => h) (Or.inl ⟨by rfl, fun w hS => by go_simp⟩) hHeld ?_
  simp only [Act.put, List.getElem_toArray, List.getElem_cons_zero, List.getElem_cons_succ, List.setIfInBounds_toArray, List.set_cons_zero, List.set_cons_succ]
  refine wpAnyH_take (i := 3) (v := .slice (some ⟨g, off, none⟩) n cap) rfl (by kernel_rfl) (by kernel_rfl) (by kernel_rfl) (fun _ _ _ h => h) (Or.inl ⟨by rfl, fun w hS => by (have s1 := hS; go_simp)⟩) hHeld ?_
  simp only [Act.put, List.getElem_toArray, List.getElem_cons_zero, List.getElem_cons_succ, List.setIfInBounds_toArray, List.set_cons_zero, List.set_cons_succ]
  refine wpAnyH_take (i := 4) (v := .int .i64 c) rfl (by kernel_rfl) (by kernel_rfl) (by kernel_rfl) (fun _ _ _ h => h) (Or.inl ⟨by rfl, fun w hS => by go_simp⟩) hHeld ?_
  simp only [Act.put, List.getElem_toArray, List.getElem_cons_zero, List.getElem_cons_succ, List.setIfInBounds_toArray, List.set_cons_zero, List.set_cons_succ]
  refine wpAnyH_take (i := 5) (v := .slice (if cap = c then some ⟨g, off, none⟩ else some ⟨g, off + c * 129, none⟩) (n - c) (cap - c)) rfl (by kernel_rfl) (by kernel_rfl) (by kernel_rfl) (fun _ _ _ h => h) (Or.inl ⟨by rfl, fun w hS => by (go_simp; skip)⟩) hHeld ?_
  simp only [Act.put, List.getElem_toArray, List.getElem_cons_zero, List.getElem_cons_succ, List.setIfInBounds_toArray, List.set_cons_zero, List.set_cons_succ]
  refine wpAnyH_take (i := 6) (v := .slice (some ⟨g, off, none⟩) c cap) rfl (by kernel_rfl) (by kernel_rfl) (by kernel_rfl) (fun _ _ _ h => h) (Or.inl ⟨by rfl, fun w hS => by go_simp⟩) hHeld ?_
  simp only [Act.put, List.getElem_toArray, List.getElem_cons_zero, List.getElem_cons_succ, List.setIfInBounds_toArray, List.set_cons_zero, List.set_cons_succ]
  refine wpAnyH_take (i := 7) (v := .slice (if cap = c then some ⟨g, off, none⟩ else some ⟨g, off + c * 129, none⟩) (n - c) (cap - c)) rfl (by kernel_rfl) (by kernel_rfl) (by kernel_rfl) (fun _ _ _ h => h) (Or.inl ⟨by rfl, fun w hS => by go_simp⟩) hHeld ?_
  simp only [Act.put, List.getElem_toArray, List.getElem_cons_zero, List.getElem_cons_succ, List.setIfInBounds_toArray, List.set_cons_zero, List.set_cons_succ]
  refine wpAnyH_done (by kernel_rfl) ?_ _
  generalize (if cap = c then (some ⟨g, off, none⟩ : Option Addr) else some ⟨g, off + c * 129, none⟩) = A1 at HV ⊢
  go_wp2_with fail
  go_ret2
  exact ⟨_, _, rfl, (HV.out _ (grow_trans hx d0)).1, (HV.out _ (grow_trans hx d0)).2, grow_trans hx d0⟩

end Go.Proofs.YtkhinjkcfjncgaaGreatDoor
