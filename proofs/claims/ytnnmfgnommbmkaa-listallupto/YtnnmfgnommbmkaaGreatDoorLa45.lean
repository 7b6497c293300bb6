/- node.RootAt and node.Root at any entries, as contracts. -/
import Derived.Test.YtnnmfgnommbmkaaGreatDoorLa01
import Derived.Test.YtnnmfgnommbmkaaGreatDoorLa44
import Derived.Test.YtnnmfgnommbmkaaGreatDoorLa03
import Derived.Test.YtnnmfgnommbmkaaGreatDoorLa33
import Derived.Test.YtnnmfgnommbmkaaGreatDoorLa34
import Derived.Test.YtnnmfgnommbmkaaGreatDoorLa39
import Derived.Test.YtnnmfgnommbmkaaGreatDoorLa40
import Derived.Test.YtnnmfgnommbmkaaGreatDoorLa41
namespace Go.Proofs.YtnnmfgnommbmkaaGreatDoor
set_option maxRecDepth 20000
open Go.RowKit

def RootPost (es : List Ent) (d : Int) (w : World) (e : Ending) (w' : World) : Prop := ∃ h E, e = .returned (.tuple #[.agg (B h), .int .i64 E]) ∧ RootIs es d h E ∧ Below w.heap.size w w'

theorem errB_long {es : List Ent} (h : 4096 < es.length) : errB es = 4 := by rw [errB, if_pos h]

theorem RootAt_any (v : Value) (V : Nat → Value) (es : List Ent) (d : Int) (w : World) (hv : PrAt w v V es) (hn : es.length ≤ 140737488355328) (hL : Laid w) : Calls Tryz.prog 18 #[v, .int .i64 d] w (RootPost es d w) := by
  by_cases hd : d < 0 ∨ 256 < d
  · exact (RootAt_out v V es d w hv hd).mono fun e w' ⟨h1, h2⟩ => ⟨_, _, h1, .out hd, h2⟩
  · obtain ⟨m, rfl⟩ : ∃ m : Nat, d = (m : Int) := ⟨d.toNat, by omega⟩
    by_cases hE : errB es = 0
    · have hl : es.length ≤ 4096 := by
        by_cases h : 4096 < es.length
        · rw [errB_long h] at hE
          omega
        · omega
      by_cases hs : SameE es m
      · exact (RootAt_in v V es m true w hv hl hL (by omega) hE ⟨fun _ => hs, fun _ => rfl⟩).mono fun e w' ⟨h1, h2⟩ => ⟨_, _, h1, .good (by omega) (by omega) hE (by simpa using hs), h2⟩
      · exact (RootAt_in v V es m false w hv hl hL (by omega) hE ⟨fun h => (by cases h), fun h => absurd h hs⟩).mono fun e w' ⟨h1, h2⟩ => ⟨_, _, h1, .part (by omega) (by omega) hE (by simpa using hs), h2⟩
    · exact (RootAt_bad v V es m w hv hn (by omega) hE).mono fun e w' ⟨h1, h2⟩ => ⟨_, _, h1, .bad _ (by omega) (by omega) rfl hE, h2⟩

set_option maxHeartbeats 2000000 in
theorem Root_any (v : Value) (V : Nat → Value) (es : List Ent) (w : World) (hv : PrAt w v V es) (hn : es.length ≤ 140737488355328) (hL : Laid w) : Calls Tryz.prog 5 #[v] w (RootPost es 0 w) := by
  have HR : Hid (∀ w', Below w.heap.size w w' → Calls Tryz.prog 18 #[v, .int .i64 0] w' (RootPost es 0 w')) := fun w' hb => RootAt_any v V es 0 w' (hv.grow hb) hn (hL.grow hb)
  obtain ⟨a, cap, rfl, _, _, _⟩ := hv
  clear hL
  go_enter Tryz.func5, Tryz.ntmps5
  go_wp2_with (first
    | ((with_reducible refine at_ald 2 ?_); refine wpList_al _ rfl _ rfl _ zero_hash ?_; intro w1 g1 hg1 hl1 B1 b1)
    | (go_at_call 18; refine (HR.out _ b1).mono ?_; rintro e w2 ⟨h, E, rfl, hi, b2⟩; have HI := hidden hi; have HF := hidden (hash_facts h hi.len); clear hi; have B2 := B1.grow b2)
    | ((with_reducible refine at_st 2 ?_); refine wpList_sto _ rfl _ _ _ rfl g1 _ (B h) rfl rfl B2 HF.out.1 HF.out.2 (B_one _) ?_; intro w3 B3 r3))
  exact bodyPost_ret (v := .tuple #[.agg (B h), .int .i64 E]) (results_row_tmp rfl _ _ g1 _ _ _ _ rfl rfl B3 Tryz.underlying25 HF.out.1) rfl ⟨h, E, rfl, HI.out, below_row (grow_trans b1 b2) r3 hg1⟩

end Go.Proofs.YtnnmfgnommbmkaaGreatDoor

namespace Go.Proofs.YtnnmfgnommbmkaaGreatDoor
set_option maxRecDepth 20000
open Go.RowKit

def PutPost (n : Int) (zs : List Int) (w : World) (e : Ending) (w' : World) : Prop := ∃ v sp, e = .returned (.tuple #[v, .int .i64 n]) ∧ Own w.heap.size w' v zs sp ∧ Below w.heap.size w w'

theorem tmod_mod (x n : Int) : x.tmod n % n = x % n := by
  have h := Int.mul_tdiv_add_tmod x n
  conv => rhs; rw [← h]
  rw [Int.add_comm, Int.add_mul_emod_self_left]

theorem tmod_neg (x n : Int) (hn : 0 < n) (h : x.tmod n < 0) : x.tmod n + n = x % n := by
  rw [← tmod_mod x n]
  have h1 := Int.lt_tmod_of_pos x hn
  rw [← Int.add_emod_right, Int.emod_eq_of_lt (by omega) (by omega)]

theorem tmod_pos (x n : Int) (hn : 0 < n) (h : ¬ x.tmod n < 0) : x.tmod n = x % n := by
  rw [← tmod_mod x n]
  have h1 := Int.tmod_lt_of_pos x hn
  rw [Int.emod_eq_of_lt (by omega) h1]

set_option maxHeartbeats 400000 in
theorem pick_any (x n : Int) (w : World) (hn : 0 < n) (hm : n ≤ 9223372036854775807) : Calls Tryz.prog 14 #[.int .i64 x, .int .i64 n] w fun e w' => e = .returned (.int .i64 (x % n)) ∧ w' = w := by
  go_enter Tryz.func14, Tryz.ntmps14
  go_wp2
  · have e := tmod_neg x n hn (by omega)
    have hb := Int.emod_lt_of_pos x hn
    have hc := Int.emod_nonneg x (show n ≠ 0 by omega)
    go_ret
    refine ⟨?_, rfl⟩
    show Ending.returned (.int .i64 (wrap64 (x.tmod n + n))) = _
    rw [e, Go.IntWalk.wrap64_in _ (by omega)]
  · have e := tmod_pos x n hn (by omega)
    go_ret
    refine ⟨?_, rfl⟩
    show Ending.returned (.int .i64 (x.tmod n)) = _
    rw [e]

end Go.Proofs.YtnnmfgnommbmkaaGreatDoor

namespace Go.Proofs.YtnnmfgnommbmkaaGreatDoor
set_option maxRecDepth 20000
open Go.RowKit Go.Shelf

attribute [local go_sem] Oper.semAt_some

structure AllI (x8 : World) (b11 b12 : Nat) (k : Nat) (L : List Int) (A : World) : Prop where
  md : Mod [b11, b12] x8 A
  bn : Blk A b11 3 #[.int .i64 (k : Int)]
  bl : Blk A b12 32 (B L)
theorem AllI.grow {x8 A A' : World} {b11 b12 k : Nat} {L : List Int} (h : AllI x8 b11 b12 k L A) (hb : Below A.heap.size A A') : AllI x8 b11 b12 k L A' := ⟨h.md.trans' (Mod.of_below hb _), h.bn.grow hb, h.bl.grow hb⟩
theorem AllI.own {x8 A A' : World} {b11 b12 k B0 : Nat} {L : List Int} (hB : x8.heap.size ≤ B0) {row : Option Nat} (h : AllI x8 b11 b12 k L A) (hg : A.grownBy A' row) (hr : ∀ r, row = some r → B0 ≤ r ∧ ∃ o : Obj, A.heap[r]? = some o ∧ o.isCells = false) : AllI x8 b11 b12 k L A' :=
  ⟨⟨hg.os.trans h.md.os, hg.tape.trans h.md.tape, hg.output.trans h.md.output, Nat.le_trans h.md.size hg.size, fun q hq hn => (hg.block q (Nat.lt_of_lt_of_le hq h.md.size) (fun e => by have := (hr q e.symm).1; omega)).trans (h.md.block q hq hn)⟩, h.bn.of_block (blk_own h.bn hg (fun r e => (hr r e).2)), h.bl.of_block (blk_own h.bl hg (fun r e => (hr r e).2))⟩

structure AllS (w x8 : World) (b11 b12 : Nat) (lv : Value) (V : Nat → Value) (es : List Ent) (g root : Nat) (cs : List (Nat × Ce)) (T : Tre) (sv : Nat) : Prop where
  low : ∀ z, Mod [b11, b12] x8 z → Below w.heap.size w z
  prs : ∀ z, Mod [b11, b12] x8 z → PrAt z lv V es
  lir : ∀ z, Mod [b11, b12] x8 z → LiR z (some ⟨g, 0, none⟩) cs root T
  c2 : ∀ z, Mod [b11, b12] x8 z → z.cell? ⟨w.heap.size, 0, none⟩ = some lv
  c4 : ∀ z, Mod [b11, b12] x8 z → Blk z (w.heap.size + 1) 4 #[.bool false]
  c8 : ∀ z, Mod [b11, b12] x8 z → z.cell? ⟨sv, 0, none⟩ = some (.pointer (some ⟨g, 0, none⟩))
  c9 : ∀ z, Mod [b11, b12] x8 z → z.cell? ⟨sv + 1, 0, none⟩ = some (.int .i64 (root : Int))

def Rl8 (N : Nat) (S : List Nat) (A B : World) : Prop := A.heap.size ≤ B.heap.size ∧ ∀ k, k < N → k < A.heap.size → k ∉ S → B.heap[k]? = A.heap[k]?
theorem Rl8.trans {N : Nat} {S : List Nat} (A B C : World) (h : Rl8 N S A B) (k : Rl8 N S B C) : Rl8 N S A C := ⟨Nat.le_trans h.1 k.1, fun q h1 h2 h3 => (k.2 q h1 (Nat.lt_of_lt_of_le h2 h.1) h3).trans (h.2 q h1 h2 h3)⟩
theorem Rl8.low {N : Nat} {S : List Nat} {A B : World} (h : Below N A B) : Rl8 N S A B := ⟨h.size, fun q h1 _ _ => h.block q h1⟩
theorem Rl8.below {N : Nat} {S : List Nat} {A B : World} (h : Below A.heap.size A B) : Rl8 N S A B := ⟨h.size, fun q _ h2 _ => h.block q h2⟩
theorem Rl8.mod {N : Nat} {S : List Nat} {A B : World} (h : Mod S A B) : Rl8 N S A B := ⟨h.size, fun q _ h2 h3 => h.block q h2 h3⟩
theorem ovN_rl {wb w : World} {b : Nat} {es : List Ent} {S : List Nat} (hb : wb.heap.size ≤ b) (h : OvN wb w b es) (hS : ∀ k ∈ S, k < wb.heap.size) : ∃ a c V, ∀ z, Rl8 w.heap.size S w z → Blk z b 22 #[.slice a es.length c] ∧ PrAt z (.slice a es.length c) V es := by
  obtain ⟨a, c, its, h1, h2, h3, h4⟩ := h
  refine ⟨a, c, fun i => (its.getD i (e00, undef)).2, fun z m => ⟨h1.of_block (m.2 b h1.lt h1.lt (fun q => by have := hS b q; omega)), ?_⟩⟩
  have := prAt_own (ownsRow_of h2 (fun g hg => m.2 g (h2.lt g hg).2 (h2.lt g hg).2 (fun q => by have := (h2.lt g hg).1; have := hS g q; omega))) (fun p hp => (h4 p hp).1) (fun p hp => by
    obtain ⟨_, sp, ho⟩ := h4 p hp
    exact (ho.of_block (fun k hk => m.2 k (ho.lt k hk).2 (ho.lt k hk).2 (fun q => by have := (ho.lt k hk).1; have := hS k q; omega))).reads)
  rwa [h3] at this
def LastI (F : List Ent) (k : Nat) (L : List Int) : Prop := Key L ∧ (0 < k → ∃ e, F[k - 1]? = some e ∧ e.1 = L)

def alFr (w x5 : World) (la : Option Addr) (lc n : Nat) (most : Int) (g6 g12 b g root : Nat) (h : List Int) (bk : Nat) (K : List Int) (u : Value) : Act := { tmps := #[Value.slice la n lc, Value.int IntKind.i64 most, Value.pointer (some { block := w.heap.size, off := 0 }), undef, Value.pointer (some { block := w.heap.size + 1, off := 0 }), Value.bool true, Value.pointer (some { block := g6, off := 0 }), Value.int IntKind.i64 0, Value.pointer (some { block := x5.heap.size, off := 0 }), Value.pointer (some { block := x5.heap.size + 1, off := 0 }), Value.bool true, Value.pointer (some { block := x5.heap.size + 1 + 1, off := 0 }), Value.pointer (some { block := g12, off := 0 }), Value.func (Fn.func 76) #[] #[Value.pointer (some { block := b, off := 0 })], Value.pointer (some { block := bk, off := 0 }), u, undef, undef, undef, undef, Value.bool true, Value.tuple #[Value.agg (B h), Value.int IntKind.i64 0], Value.slice la n lc, Value.tuple #[Value.agg (B h), Value.int IntKind.i64 0], Value.agg (B h), Value.int IntKind.i64 0, Value.slice la n lc, Value.int IntKind.i64 ↑n, Value.bool (decide ((16 : Int) < (n : Int))), Value.bool (decide ((16 : Int) < (n : Int))), Value.int IntKind.i64 0, Value.bool false, Value.bool (decide ((16 : Int) < (n : Int))), undef, Value.tuple #[Value.pointer (some { block := g, off := 0 }), Value.int IntKind.i64 ↑root, Value.bool true], Value.slice la n lc, Value.tuple #[Value.pointer (some { block := g, off := 0 }), Value.int IntKind.i64 ↑root, Value.bool true], Value.pointer (some { block := g, off := 0 }), Value.int IntKind.i64 ↑root, Value.bool true, Value.bool true, Value.bool false, Value.agg (B z32), Value.pointer (some { block := g, off := 0 }), Value.int IntKind.i64 ↑root, Value.func (Fn.func 76) #[] #[Value.pointer (some { block := b, off := 0 })], Value.func (Fn.func 76) #[] #[Value.pointer (some { block := b, off := 0 })], Value.bool false, Value.func (Fn.func 76) #[] #[Value.pointer (some { block := b, off := 0 })], Value.agg (B K), u, undef, undef, undef, undef, undef, undef, undef, undef, undef, undef, undef, undef, undef, undef, undef, undef, undef, undef, undef, undef, undef, undef, undef, undef, undef, undef, undef, undef, undef, undef, undef, undef, undef, undef, undef, undef, undef, undef, undef, undef, undef, undef, undef, undef, undef, undef, undef, undef, undef, undef, undef, undef, undef, undef, undef, undef, undef, undef, undef, undef, undef, undef, undef, undef, undef, undef, undef, undef, undef, undef, undef, undef], defers := [] }
theorem wpList_ldwK {ops : Array Oper} {rest : List Oper} {op : Oper} {a : Act} {Q : Exit → Act → World → Prop} (w : World) (hgd : Region.wanted op (yielded ops a.tmps) = true) (x : Operand) (ho : op.op = .load 32 x) (b : Nat) (K : List Int) (hx : a.eval x = .pointer (some ⟨b, 0, none⟩)) (hc : w.rangeAt b 0 (B K).toList) (hK : K.length = 32)
    (h : wpList Tryz.prog ops Q rest (a.put op.dst (.agg (B K))) w) : wpList Tryz.prog ops Q (op :: rest) a w :=
  wpList_ldw13 w hgd 32 x ho b 0 hx (B K).toList hc _ Tryz.underlying32 rfl (by rw [B_toList, List.length_map, hK]; exact size_path) (by rwa [Array.toArray_toList])
theorem al_store {n11 : Nat} {x8 A A6 A8 : World} {g12 k : Nat} {L : List Int} (hG : AllI x8 n11 g12 k L A) (hA : Below A.heap.size A A6) (hne : n11 ≠ g12) (r8 : A6.grownBy A8 (some g12)) : Mod [n11, g12] A A8 ∧ Blk A8 n11 3 #[.int .i64 (k : Int)] ∧ A8.cell? ⟨n11, 0, none⟩ = some (.int .i64 (k : Int)) ∧ A8.frozen? ⟨n11, 0, none⟩ = false := by
  have b := (hG.bn.grow hA)
  have b8 : Blk A8 n11 3 #[.int .i64 (k : Int)] := b.of_block (r8.block _ b.lt (fun e => hne (by injection e)))
  exact ⟨(Mod.of_below hA _).trans' (Mod.of_some r8 (by simp)), b8, by rw [b8.cell]; rfl, b8.frozen 0⟩
def AlB (w x5 x8 : World) (la : Option Addr) (lc n : Nat) (most : Int) (g6 g12 b g root : Nat) (h : List Int) (F : List Ent) (pre : List (Ent × Value)) (x : Ent × Value) (a' : Act) (W : World) : Prop := ∃ bk L, a' = alFr w x5 la lc n most g6 g12 b g root h bk x.1.1 x.2 ∧ AllI x8 (x5.heap.size + 1 + 1) g12 pre.length L W ∧ Blk W bk 32 (B x.1.1) ∧ NextE x8.heap.size F pre x W ∧ pre.length < n ∧ LastI F pre.length L ∧ x8.heap.size ≤ bk
def AlIn (x5 x8 : World) (g12 n : Nat) (F : List Ent) (pre : List (Ent × Value)) (W : World) : Prop := ∃ L, AllI x8 (x5.heap.size + 1 + 1) g12 pre.length L W ∧ pre.length ≤ n ∧ LastI F pre.length L

set_option maxRecDepth 100000 in
set_option maxHeartbeats 16000000 in
theorem listAll_main {w : World} {la : Option Addr} {lc : Nat} {V : Nat → Value} {es : List Ent} (hP : PrAt w (.slice la es.length lc) V es) (h16 : es.length ≤ 16) (hE : errB es = 0) (hL : Laid w) (most : Int) :
    Calls Tryz.prog 3 #[.slice la es.length lc, .int .i64 most] w fun e w' => e = .returned (.bool true) ∧ Below w.heap.size w w' := by
  refine (callsIn_wide (n := 4)).1 ?_
  obtain ⟨hbs, hap, _⟩ : (∀ e ∈ es, e.2.length ≤ 1024) ∧ (es.Pairwise fun a b => a.1 ≠ b.1) ∧ True := by
    have h2 := hE
    unfold errB at h2
    rw [if_neg (by omega)] at h2
    obtain ⟨a, b, _⟩ := lsE_ok [] es h2
    exact ⟨a, b, trivial⟩
  have HAW : Hid (∀ w', Below w.heap.size w w' → Calls Tryz.prog 4 #[] w' fun e w'' => e = .returned (.bool true) ∧ Below w'.heap.size w' w'') := fun w' hb => awake13_any w' (hL.grow hb)
  have HRO : Hid (∀ w', Below w.heap.size w w' → Calls Tryz.prog 5 #[.slice la es.length lc] w' fun e w'' => ∃ h, e = .returned (.tuple #[.agg (B h), .int .i64 0]) ∧ h.length = 32 ∧ Below w'.heap.size w' w'') := fun w' hb => by
    refine (Root_any _ V es w' (hP.grow hb) (by omega) (hL.grow hb)).mono ?_
    rintro e w'' ⟨h, E, rfl, p, b⟩
    have hE0 : E = 0 := by
      cases p with
      | out q => omega
      | bad _ _ _ q1 q2 => exact absurd (q1.symm.trans hE) q2
      | part _ _ q1 q2 => exact absurd (fun _ _ _ _ j hj => by simp at hj) q2
      | good _ _ q1 q2 => rfl
    subst hE0
    exact ⟨h, rfl, p.len, b⟩
  have HFI : Hid (∀ w', Below w.heap.size w w' → Calls Tryz.prog 6 #[.slice la es.length lc] w' fun e w'' => ∃ g gs cs fr root T, e = .returned (.tuple #[.pointer (some ⟨g, 0, none⟩), .int .i64 ((root : Nat) : Int), .bool true]) ∧ Hs w' [] w'' g gs 5160 cs fr ∧ FlI cs es.length root T es) := fun w' hb => filled_any (hP.grow hb) h16 hap hbs (hL.grow hb)
  have HPR := hidden hP
  have HAP := hidden hap
  have HBS := hidden hbs
  obtain ⟨n, hn⟩ : ∃ n, n = es.length := ⟨_, rfl⟩
  have HN := hidden hn
  rw [← hn] at HRO HFI HPR ⊢
  have hn16 : ¬ (16 : Int) < (n : Int) := by omega
  clear hP hE hL hbs hap h16 hn
  refine callsIn_of_wp_marks Tryz.func3 rfl trivial ?_ rfl
  simp only [Tryz.ntmps3, List.size_toArray, List.length_cons, List.length_nil, Nat.reduceAdd, Nat.reduceSub, Array.replicate_succ, Array.replicate_zero, List.push_toArray, List.append_toArray, List.nil_append, List.cons_append]
  have hfn := eql13_fn
  have f1 : Fence.wide.fn 4 := trivial
  have f2 : Fence.wide.fn 5 := trivial
  have f3 : Fence.wide.fn 6 := trivial
  have f4 : Fence.wide.fn 7 := trivial
  have HHZ : Hid (∀ h : List Int, h.length = 32 → (Tryz.prog.info? 25).map (·.size) = some (B h).size ∧ (B z32).size = (B h).size) := fun h hl => ⟨by rw [B_size, hl]; exact size_hash, by rw [B_size, B_size, hl]; rfl⟩
  gi_wp2_with (first
    | (gi_at_call 4; refine (callsIn_wide.2 (HAW.out _ (grow_trans (grow_alloc _ _) (grow_alloc _ _)))).mono ?_; rintro e x1 ⟨rfl, b1⟩; have HK2 : Hid (Blk x1 w.heap.size 22 #[.slice la n lc]) := ((Blk.new w 22 #[.slice la n lc]).grow (grow_alloc _ (.cells #[Value.bool false] 4))).grow b1; have HK4 : Hid (Blk x1 (w.heap.size + 1) 4 #[.bool false]) := (by have h7 := (Blk.new (w.alloc (.cells #[Value.slice la n lc] 22)) 4 #[Value.bool false]).grow b1; simp only [World.size_alloc] at h7; exact h7); have HB1 : Hid (Below w.heap.size w x1) := grow_trans (grow_trans (grow_alloc _ _) (grow_alloc _ _)) b1; have c2 : x1.cell? ⟨w.heap.size, 0, none⟩ = some (.slice la n lc) := (by rw [HK2.out.cell]; rfl); clear b1 HAW)
    | (gi_at_call 5; clear c2; refine (callsIn_wide.2 (HRO.out _ HB1.out)).mono ?_; rintro e x2 ⟨h, rfl, hl, b2⟩; have HB2 := hidden (grow_trans HB1.out b2); have HHZ2 := hidden (HHZ.out h hl); replace HK2 := hidden (HK2.out.grow b2); replace HK4 := hidden (HK4.out.grow b2); clear b2 hl HRO HB1 HHZ)
    | (have mk := HHZ2; clear mk; refine inList (.inl rfl) (fun c e => by cases e) (wpList_al _ rfl _ rfl _ zero_hash (fun x3 g6 hg6 hl6 B6 b3 => ⟨rfl, ?_⟩)); have HG6 := hidden hg6; have HB6 := hidden B6; have HQ3 := hidden b3; clear hg6 hl6 B6 b3)
    | (have mk := HHZ2; clear mk; refine inList (.inl rfl) (fun c e => by cases e) (wpList_sto _ rfl _ _ _ rfl g6 _ (B h) rfl rfl HB6.out HHZ2.out.1 HHZ2.out.2 (B_one _) (fun x4 B9 r9 => ⟨rfl, ?_⟩)); have b4 := below_row HQ3.out r9 HG6.out; have HB4 := hidden (grow_trans HB2.out b4); replace HK2 := hidden (HK2.out.grow b4); replace HK4 := hidden (HK4.out.grow b4); have c2 : x4.cell? ⟨w.heap.size, 0, none⟩ = some (.slice la n lc) := (by rw [HK2.out.cell]; rfl); clear B9 r9 b4 HQ3 HG6 HB6 HHZ2 HB2)
    | (gi_at_call 6; clear c2; refine (callsIn_wide.2 (HFI.out _ HB4.out)).mono ?_; rintro e x5 ⟨g, gs, cs, fr, root, TT, rfl, hh, hfl⟩; have b5 := hh.low; have HB5 := hidden (grow_trans HB4.out b5); replace HK2 := hidden (HK2.out.grow b5); replace HK4 := hidden (HK4.out.grow b5); have HH := hidden hh; have HFL := hidden hfl; clear hh hfl b5 HFI HB4)
    | (refine inList (.inl rfl) (fun c e => by cases e) (wpList_bld _ rfl _ _ rfl _ (by rw [List.map_toArray]; exact built_k0) ⟨rfl, ?_⟩))
    | (have mk := HH; clear mk; refine inList (.inl rfl) (fun c e => by cases e) (wpList_al _ rfl _ rfl _ zero_path (fun x6 g12 hg12 hl12 B12 b6 => ⟨rfl, ?_⟩)); have HG12 := hidden hg12; have HB12 := hidden B12; have HQ6 := hidden b6; clear hg12 hl12 B12 b6)
    | (have mk := HB12; clear mk; refine inList (.inl rfl) (fun c e => by cases e) (wpList_sto _ rfl _ _ _ rfl g12 _ (B z32) rfl rfl HB12.out (by rw [B_size]; exact size_path) rfl (B_one _) (fun x7 B13 r13 => ⟨rfl, ?_⟩)); have b7 := below_row HQ6.out r13 HG12.out; have HL12 := hidden B13; have b57 := grow_trans (grow_trans (grow_trans (grow_alloc x5 (.cells #[Value.pointer (some ⟨g, 0, none⟩)] 29)) (grow_alloc _ (.cells #[Value.int .i64 (root : Int)] 3))) (grow_alloc _ (.cells #[Value.int .i64 0] 3))) b7; have HB7 := hidden (grow_trans HB5.out b57); have HB57 := hidden b57; replace HK2 := hidden (HK2.out.grow b57); replace HK4 := hidden (HK4.out.grow b57); have HK8 : Hid (Blk x7 x5.heap.size 29 #[.pointer (some ⟨g, 0, none⟩)]) := (((Blk.new x5 29 #[Value.pointer (some ⟨g, 0, none⟩)]).grow (grow_alloc _ (.cells #[Value.int .i64 (root : Int)] 3))).grow (grow_alloc _ (.cells #[Value.int .i64 0] 3))).grow b7; have HK9 : Hid (Blk x7 (x5.heap.size + 1) 3 #[.int .i64 (root : Int)]) := (by have h7 := ((Blk.new (x5.alloc (.cells #[Value.pointer (some ⟨g, 0, none⟩)] 29)) 3 #[Value.int .i64 (root : Int)]).grow (grow_alloc _ (.cells #[Value.int .i64 0] 3))).grow b7; simp only [World.size_alloc] at h7; exact h7); have HK11 : Hid (Blk x7 (x5.heap.size + 1 + 1) 3 #[.int .i64 0]) := (by have h7 := (Blk.new ((x5.alloc (.cells #[Value.pointer (some ⟨g, 0, none⟩)] 29)).alloc (.cells #[Value.int .i64 (root : Int)] 3)) 3 #[Value.int .i64 0]).grow b7; simp only [World.size_alloc] at h7; exact h7); have HN12 : Hid (x5.heap.size + 1 + 1 + 1 ≤ g12) := (by have h7 := HG12.out; simp only [World.size_alloc] at h7; exact h7); have c8 : x7.cell? ⟨x5.heap.size, 0, none⟩ = some (.pointer (some ⟨g, 0, none⟩)) := (by rw [HK8.out.cell]; rfl); have c9 : x7.cell? ⟨x5.heap.size + 1, 0, none⟩ = some (.int .i64 (root : Int)) := (by rw [HK9.out.cell]; rfl); clear b7 b57 B13 r13 HG12 HB12 HQ6)
    | (gi_at_call 7; clear c8 c9; refine (callsIn_wide.2 (all_anyN ((HFL.out.lir HH.out (by rw [← HN.out]; omega)).grow HB57.out))).mono ?_; rintro e x8 ⟨b, rfl, hbb, hov, b8⟩; have HOV := hidden hov; have HB8 := hidden b8; have HBB := hidden hbb; clear hbb hov b8))
  have hS7 : ∀ k ∈ [x5.heap.size + 1 + 1, g12], k < x7.heap.size := fun k hk => by
    rcases List.mem_cons.1 hk with rfl | hk
    · exact HK11.out.lt
    · rw [List.mem_singleton.1 hk]; exact HL12.out.lt
  have hSw : ∀ k ∈ [x5.heap.size + 1 + 1, g12], x5.heap.size ≤ k := fun k hk => by
    rcases List.mem_cons.1 hk with rfl | hk
    · omega
    · rw [List.mem_singleton.1 hk]; have := HN12.out; omega
  obtain ⟨oa, oc, OV, hO⟩ := ovN_rl HBB.out HOV.out hS7
  have B58 := grow_trans HB57.out HB8.out
  have r5 := HFL.out.lir HH.out (by rw [← HN.out]; omega)
  have HAS : Hid (AllS w x8 (x5.heap.size + 1 + 1) g12 (.slice la n lc) V es g root cs TT x5.heap.size) := by
    have hlow : ∀ z, Mod [x5.heap.size + 1 + 1, g12] x8 z → Below w.heap.size w z := fun z m => (grow_trans HB7.out HB8.out).trans (m.below (fun k hk => by have := hSw k hk; have := HB5.out.size; omega) (grow_trans HB7.out HB8.out).size)
    have hw5 := HB5.out.size
    have n12 := HN12.out
    refine ⟨hlow, fun z m => HPR.out.grow (hlow z m), fun z m => ?_, fun z m => ?_, fun z m => ?_, fun z m => ?_, fun z m => ?_⟩
    · obtain ⟨⟨vp, vf, s5, m0, nn⟩, W⟩ := HH.out
      have s8 := (s5.grow B58).mod m (fun k hk hq => by have := s5.lts k hk; have := hSw k hq; omega)
      exact ⟨vw_ok s8 W, r5.wf, r5.tre, r5.rt, r5.num, r5.few⟩
    · have h2 := (HK2.out.grow HB8.out).mod m (by simp; omega)
      rw [h2.cell]
      rfl
    · exact (HK4.out.grow HB8.out).mod m (by simp; omega)
    · have h2 := (HK8.out.grow HB8.out).mod m (by simp; omega)
      rw [h2.cell]
      rfl
    · have h2 := (HK9.out.grow HB8.out).mod m (by simp; omega)
      rw [h2.cell]
      rfl
  have hTl : TT.ents.length = n := by rw [HFL.out.ents.length_eq, HN.out]
  have HTP : Hid (TT.ents.Perm es) := HFL.out.ents
  obtain ⟨_, hTW⟩ := r5.wf
  have HTK : Hid ((∀ e ∈ TT.ents, Key e.1) ∧ TT.ents.Pairwise fun a b => Ahead a.1 b.1) := r5.keys13
  have HSQ : Hid (∀ (n' : Nat), 1 ≤ n' → SeqS Fence.wide n' Tryz.prog 76 #[.pointer (some ⟨b, 0, none⟩)] (fun x : Ent × Value => #[Value.agg (B x.1.1), x.2]) (NextE x8.heap.size TT.ents) (Rl8 x8.heap.size [x5.heap.size + 1 + 1, g12]) (fun xs => xs.map (·.1) = TT.ents) (fun pre => pre.map (·.1) <+: TT.ents) TT.ents.length x8) := fun n' hn' l J Jx W hW hJ hY h0 => ov1_inS Rl8.trans (fun A B h => Rl8.below h) (fun A B h => h.1) oa oc OV hO (by omega) (fun e he => Nat.le_trans (HBS.out e (HFL.out.ents.mem_iff.1 he)) (by omega)) n' hn' l J Jx W (Rl8.below hW) hJ hY h0
  have HI0 : Hid (AllI x8 (x5.heap.size + 1 + 1) g12 0 z32 x8) := ⟨Mod.refl _ _, HK11.out.grow HB8.out, HL12.out.grow HB8.out⟩
  have HSZ8 : Hid (x5.heap.size + 1 + 1 < x8.heap.size ∧ g12 < x8.heap.size ∧ x5.heap.size + 1 + 1 ≠ g12) := ⟨HI0.out.bn.lt, HI0.out.bl.lt, by have := HN12.out; omega⟩
  have HNL : Hid (TT.ents.length = n) := hTl
  clear hO r5 hTl hTW hS7 hSw B58 HFL HH HK2 HK4 HK8 HK9 HK11 HL12 HOV HB57 HBB HPR HB7 HB5 HB8 hfn
  obtain ⟨F, hF⟩ : ∃ F, F = TT.ents := ⟨_, rfl⟩
  rw [← hF] at HTP HTK HSQ HNL
  have HFT := hidden hF
  clear hF
  refine wpIn_rangeS rfl (by omega) (gf := 76) (lb := #[.pointer (some ⟨b, 0, none⟩)]) rfl trivial (enters_of Tryz.func76 (by kernel_rfl) rfl) (HSQ.out (4 - 1) (by omega)) Rl8.trans (fun A B h => Rl8.low h) (Below.refl _ _) (fun _ => rfl)
    (AlIn x5 x8 g12 n F)
    (fun _ _ _ => False)
    (AlB w x5 x8 la lc n most g6 g12 b g root h F)
    (fun s A A' h hb => by
      obtain ⟨L, h1, h2⟩ := h
      exact ⟨L, h1.grow hb, h2⟩) (fun s A A' row h hg hr => by
      obtain ⟨L, h1, h2⟩ := h
      exact ⟨L, h1.own (Nat.le_refl _) hg hr, h2⟩)
    (fun cc s A A' row h hg hr => h)
    (fun pre x a' s A A' row h hg hr => by
      obtain ⟨bk, L, q1, q2, q3, ⟨q4, sp, q5⟩, q6⟩ := h
      refine ⟨bk, L, q1, q2.own (Nat.le_refl _) hg hr, q3.of_block (blk_own q3 hg (fun r e => (hr r e).2)), ⟨q4, sp, q5.of_block (fun k hk => ?_)⟩, q6⟩
      obtain ⟨cs, hb⟩ := q5.blk k hk
      exact blk_own hb hg (fun r e => (hr r e).2))
    ⟨z32, HI0.out, Nat.zero_le _, key_z32, fun h => absurd h (by simp)⟩ ?assign ?body ?done ?stop
  case assign =>
    rintro l pre x A ⟨L, hG, _, hLI⟩ hx hlt
    have HKL : Hid (Key x.1.1) := HTK.out.1 _ (List.mem_of_getElem? hx.1)
    have HPS := hidden (keyB_size HKL.out)
    have HS2 : Hid ((B (List.replicate 32 0)).size = (B x.1.1).size) := by
      show _ = _
      rw [B_size, B_size, HKL.out.1]
      rfl
    have HG := hidden hG
    have HX := hidden hx
    have HLI := hidden hLI
    have HLT : Hid (pre.length < n) := by rw [← HNL.out]; exact hlt
    clear hG hx hlt hLI
    simp only [List.zipWith_toArray, Array.zip, List.foldl_toArray', List.size_toArray]
    gi_wp2_with (first
      | (refine inList (.inr ⟨l, rfl⟩) (fun c e => by cases e) (wpList_al _ rfl _ rfl _ zero_path (fun w2 g8 hg8 hl8 B8 b2 => ⟨rfl, ?_⟩)); have HG8 := hidden hg8; have HB8 := hidden B8; have HQ2 := hidden b2; clear hg8 hl8 B8 b2)
      | (refine inList (.inr ⟨l, rfl⟩) (fun c e => by cases e) (wpList_sto _ rfl _ _ _ rfl g8 _ (B x.1.1) rfl rfl HB8.out HPS.out HS2.out (B_one _) (fun w4 B9 r9 => ⟨rfl, ?_⟩)); have HB9 := hidden B9; have HQ4 := hidden (below_row HQ2.out r9 HG8.out); clear B9 r9))
    refine ⟨⟨HQ4.out.size, fun k o _ hk _ => (HQ4.out.block k (Array.getElem?_eq_some_iff.1 hk).1).trans hk⟩, Rl8.below HQ4.out, g8, L, rfl, HG.out.grow HQ4.out, HB9.out, ⟨HX.out.1, ?_⟩, HLT.out, HLI.out, Nat.le_trans HG.out.md.size HG8.out⟩
    obtain ⟨sp, ho⟩ := HX.out.2
    exact ⟨sp, ho.grow HQ4.out⟩
  case body =>
    rintro l pre ⟨⟨K, bs⟩, u⟩ a' A ⟨bk, L, rfl, hG, hKB, ⟨hex, sp, ho⟩, hlt, hLI, hbk⟩
    dsimp only at hKB hex ho
    obtain ⟨ua, uc, rfl⟩ := ho.slice
    obtain ⟨k, hk⟩ : ∃ k, k = pre.length := ⟨_, rfl⟩
    rw [← hk] at hG hlt hex hLI
    have HKE := hidden hk
    have hmF := List.mem_of_getElem? hex
    have hK : Key K := HTK.out.1 _ hmF
    have hme : (K, bs) ∈ es := HTP.out.mem_iff.1 hmF
    have HG := hidden hG
    have HKB := hidden hKB
    have HK32 : Hid (K.length = 32) := hK.1
    have HL32 : Hid (L.length = 32) := hLI.1.1
    have HPS := hidden (keyB_size hK)
    have HLK : Hid ((B L).size = (B K).size) := by show _ = _; rw [B_size, B_size, hK.1, hLI.1.1]
    have HM : Hid (∀ A', Below A.heap.size A A' → Mod [x5.heap.size + 1 + 1, g12] x8 A') := fun A' hb => hG.md.trans' (Mod.of_below hb _)
    have HC : Hid (∀ A', Below A.heap.size A A' → A'.cell? ⟨w.heap.size, 0, none⟩ = some (.slice la n lc) ∧ A'.cell? ⟨x5.heap.size, 0, none⟩ = some (.pointer (some ⟨g, 0, none⟩)) ∧ A'.cell? ⟨x5.heap.size + 1, 0, none⟩ = some (.int .i64 (root : Int)) ∧ A'.cell? ⟨x5.heap.size + 1 + 1, 0, none⟩ = some (.int .i64 (k : Int))) := fun A' hb => ⟨HAS.out.c2 _ (HM.out _ hb), HAS.out.c8 _ (HM.out _ hb), HAS.out.c9 _ (HM.out _ hb), by rw [(HG.out.bn.grow hb).cell]; rfl⟩
    obtain ⟨cm, hcm⟩ : ∃ cm, cm = cmp L K := ⟨_, rfl⟩
    have HCM : Hid (∀ A', Below A.heap.size A A' → Calls Tryz.prog 8 #[.agg (B L), .agg (B K)] A' fun e w'' => e = .returned (.int .i64 cm) ∧ Below A'.heap.size A' w'') := fun A' _ => by
      rw [hcm]
      exact pcompare_any L K A' hLI.1 hK
    have hcl : 0 < k → cm < 0 := fun h0 => by
      obtain ⟨e, he, rfl⟩ := hLI.2 h0
      rw [hcm]
      refine (cmp_lt hLI.1 hK).2 ?_
      have h1 := (List.getElem?_eq_some_iff.1 he)
      have h2 := (List.getElem?_eq_some_iff.1 hex)
      have := List.pairwise_iff_getElem.1 HTK.out.2 (k - 1) k h1.1 h2.1 (by omega)
      rwa [h1.2, h2.2] at this
    have HHA : Hid (∀ A', Below A.heap.size A A' → Calls Tryz.prog 9 #[.slice la n lc, .agg (B K), .slice ua bs.length uc] A' fun e w'' => e = .returned (.bool true) ∧ Below A'.heap.size A' w'') := fun A' hb => by
      have h1 := HAS.out.prs _ (HM.out _ hb)
      have h2 := HN.out
      rw [h2] at h1 ⊢
      exact has13_any h1 (by omega) HAP.out hK hme (ho.reads.grow hb)
    have hrk : TT.rk K = k := by
      rw [((HAS.out.lir _ hG.md)).rkd K hK, ← HFT.out]
      exact ahd_at HTK.out.1 HTK.out.2 hex
    have HRK : Hid (∀ A', Below A.heap.size A A' → Calls Tryz.prog 10 #[.pointer (some ⟨g, 0, none⟩), .int .i64 (root : Int), .agg (B K)] A' fun e w'' => e = .returned (.tuple #[.int .i64 (k : Int), .int .i64 0]) ∧ Below A'.heap.size A' w'') := fun A' hb => by
      have := (HAS.out.lir _ (HM.out _ hb)).rank K hK
      rwa [hrk] at this
    obtain ⟨bl, hbl⟩ : ∃ bl, bl = bs.length := ⟨_, rfl⟩
    have HNT : Hid (∀ A', Below A.heap.size A A' → Calls Tryz.prog 11 #[.pointer (some ⟨g, 0, none⟩), .int .i64 (root : Int), .int .i64 (k : Int)] A' fun e w'' => ∃ na nc, e = .returned (.tuple #[.agg (encP K (.slice na bl nc)).toArray, .int .i64 0]) ∧ Reads w'' (.slice na bl nc) bs ∧ Below A'.heap.size A' w'') := fun A' hb => by
      rw [hbl]
      exact nth_any (HAS.out.lir _ (HM.out _ hb)) k K bs (by rw [← HFT.out]; exact hex)
    rw [← hbl] at HHA ho ⊢
    have HSM : Hid (∀ A' v, Below A.heap.size A A' → Reads A' v bs → Calls Tryz.prog 12 #[v, .slice ua bl uc] A' fun e w'' => e = .returned (.bool true) ∧ w'' = A') := fun A' v hb hr => by
      have := same_any v (.slice ua bl uc) bs bs A' hr (ho.reads.grow hb)
      simpa using this
    have hE := path_eq K K hK.1 hK.1
    simp only [decide_true] at hE
    have hwk : wrap64 ((k : Int) + 1) = (k : Int) + 1 := Go.IntWalk.wrap64_in _ (by have := hlt; omega)
    have HLM := hidden hlt
    have HEX := hidden hex
    have HKK := hidden hK
    have HA := hidden (Below.refl A.heap.size A)
    obtain ⟨c2, c8, c9, c11⟩ := HC.out _ HA.out
    have f5 : Fence.wide.fn 8 := trivial
    have f6 : Fence.wide.fn 9 := trivial
    have f7 : Fence.wide.fn 10 := trivial
    have f8 : Fence.wide.fn 11 := trivial
    have f9 : Fence.wide.fn 12 := trivial
    have HFIN : Hid (∀ A8, Mod [x5.heap.size + 1 + 1, g12] A A8 → Blk A8 (x5.heap.size + 1 + 1) 3 #[.int .i64 (k : Int)] → Blk A8 g12 32 (B K) → outS x8.heap.size (Rl8 x8.heap.size [x5.heap.size + 1 + 1, g12]) (AlIn x5 x8 g12 n F) (fun _ _ _ => False) (pre ++ [((K, bs), Value.slice ua bl uc)]) A .normal { tmps := #[], defers := [] } (A8.setCell ⟨x5.heap.size + 1 + 1, 0, none⟩ (.int .i64 ((k : Int) + 1)))) := fun A8 m8 bn8 bl8 => by
      have m9 : Mod [x5.heap.size + 1 + 1, g12] A8 (A8.setCell ⟨x5.heap.size + 1 + 1, 0, none⟩ (.int .i64 ((k : Int) + 1))) := Mod.setCell _ _ _ _ (by simp)
      have mm := m8.trans' m9
      refine ⟨⟨mm.size, fun q o hq hqo _ => (mm.block q (Array.getElem?_eq_some_iff.1 hqo).1 (fun e => by have h8 := HSZ8.out; have e2 : q = x5.heap.size + 1 + 1 ∨ q = g12 := (by simpa using e); omega)).trans hqo⟩, Rl8.mod mm, K, ⟨HG.out.md.trans' mm, ?_, ?_⟩, ?_, HKK.out, fun _ => ⟨(K, bs), ?_, rfl⟩⟩
      · rw [List.length_append, List.length_singleton, ← HKE.out]
        exact bn8.set 0 _
      · exact bl8.of_block (by
          have m10 : Mod [x5.heap.size + 1 + 1] A8 (A8.setCell ⟨x5.heap.size + 1 + 1, 0, none⟩ (.int .i64 ((k : Int) + 1))) := Mod.setCell _ _ _ _ (by simp)
          exact m10.block g12 bl8.lt (by simp; exact fun e => HSZ8.out.2.2 e.symm))
      · rw [List.length_append, List.length_singleton, ← HKE.out]
        exact HLM.out
      · rw [List.length_append, List.length_singleton, ← HKE.out]
        exact HEX.out
    clear hG hKB hex ho hlt hLI hbk hmF hK hme hcm hrk hk hbl
    unfold alFr
    by_cases hk0 : 0 < k
    · have y1 : (0 : Int) < (k : Int) := by omega
      have hcl2 := hcl hk0
      have y2 : ¬ (0 : Int) ≤ cm := by omega
      have y2b : decide ((0 : Int) ≤ cm) = false := decide_eq_false y2
      have y1b : decide ((0 : Int) < (k : Int)) = true := decide_eq_true y1
      have y1c : decide (0 < k) = true := decide_eq_true hk0
      clear hcl hcl2
      gi_wp2_with (first
      | (gi_at_call 8; refine (CallsIn.inRound l (callsIn_wide.2 (HCM.out _ HA.out))).mono ?_; rintro e A1 ⟨rfl, q1⟩; replace HA := hidden (grow_trans HA.out q1); clear c2 c8 c9 c11 q1; obtain ⟨c2, c8, c9, c11⟩ := HC.out _ HA.out)
      | (gi_at_call 9; refine (CallsIn.inRound l (callsIn_wide.2 (HHA.out _ HA.out))).mono ?_; rintro e A2 ⟨rfl, q2⟩; replace HA := hidden (grow_trans HA.out q2); clear c2 c8 c9 c11 q2; obtain ⟨c2, c8, c9, c11⟩ := HC.out _ HA.out)
      | (gi_at_call 10; refine (CallsIn.inRound l (callsIn_wide.2 (HRK.out _ HA.out))).mono ?_; rintro e A3 ⟨rfl, q3⟩; replace HA := hidden (grow_trans HA.out q3); clear c2 c8 c9 c11 q3; obtain ⟨c2, c8, c9, c11⟩ := HC.out _ HA.out)
      | (gi_at_call 11; refine (CallsIn.inRound l (callsIn_wide.2 (HNT.out _ HA.out))).mono ?_; rintro e A4 ⟨na, nc, rfl, hrd, q4⟩; have HRD := hidden hrd; replace HA := hidden (grow_trans HA.out q4); have HPZ : Hid ((Tryz.prog.info? 42).map (·.size) = some (encP K (.slice na bl nc)).toArray.size ∧ (encP z32 (.slice none 0 0)).toArray.size = (encP K (.slice na bl nc)).toArray.size) := ⟨(by rw [List.size_toArray, encP_length K _ HK32.out]; exact size_pair), (by rw [List.size_toArray, List.size_toArray, encP_length K _ HK32.out, encP_length z32 _ z32_length])⟩; clear c2 c8 c9 c11 q4 hrd; obtain ⟨c2, c8, c9, c11⟩ := HC.out _ HA.out)
      | (refine inList (.inr ⟨l, rfl⟩) (fun c e => by cases e) (wpList_al _ rfl _ rfl _ zero_pair (fun A5 g18 hg18 hl18 B18 q5 => ⟨rfl, ?_⟩)); have HG18 := hidden hg18; have HB18 := hidden B18; have HQ5 := hidden q5; clear hg18 hl18 B18 q5 c2 c8 c9 c11)
      | (have mk := HB18; clear mk; refine inList (.inr ⟨l, rfl⟩) (fun c e => by cases e) (wpList_sto _ rfl _ _ _ rfl g18 _ (encP K (.slice na bl nc)).toArray rfl rfl HB18.out HPZ.out.1 HPZ.out.2 (encP_one _ _ _ _) (fun A6 B6 r6 => ⟨rfl, ?_⟩)); have HB6 := hidden B6; have q6 := below_row HQ5.out r6 HG18.out; replace HRD := hidden (HRD.out.grow q6); replace HA := hidden (grow_trans HA.out q6); obtain ⟨c2, c8, c9, c11⟩ := HC.out _ HA.out; have c99 := blk_val HB6.out HK32.out; clear B6 r6 q6 HB18 HG18 HQ5)
      | (refine inList (.inr ⟨l, rfl⟩) (fun c e => by cases e) (wpList_ldwK _ rfl _ rfl g12 L rfl ((HG.out.bl.grow HA.out).range) HL32.out ⟨rfl, ?_⟩))
      | (refine inList (.inr ⟨l, rfl⟩) (fun c e => by cases e) (wpList_ldwK _ rfl _ rfl bk K rfl ((HKB.out.grow HA.out).range) HK32.out ⟨rfl, ?_⟩))
      | (refine inList (.inr ⟨l, rfl⟩) (fun c e => by cases e) (wpList_ldwK _ rfl _ rfl g18 K rfl (blk_key HB6.out) HK32.out ⟨rfl, ?_⟩))
      | (gi_at_call 12; refine (CallsIn.inRound l (callsIn_wide.2 (HSM.out _ _ HA.out HRD.out))).mono ?_; rintro e A7 ⟨rfl, hx7⟩; rw [hx7]; clear hx7 c99)
      | (have mk := HB6; clear mk; refine inList (.inr ⟨l, rfl⟩) (fun c e => by cases e) (wpList_sto _ rfl _ _ _ rfl g12 _ (B K) rfl rfl (HG.out.bl.grow HA.out) HPS.out HLK.out (B_one _) (fun A8 B8 r8 => ⟨rfl, ?_⟩)); obtain ⟨m8, bn8, c11', z11⟩ := al_store HG.out HA.out HSZ8.out.2.2 r8; have HM8 := hidden m8; have HB8 := hidden B8; have HBN8 := hidden bn8; clear B8 r8 m8 bn8))
      exact HFIN.out _ HM8.out HBN8.out HB8.out
    · have y1 : ¬ (0 : Int) < (k : Int) := by omega
      have y1b : decide ((0 : Int) < (k : Int)) = false := decide_eq_false y1
      have y1c : decide (0 < k) = false := decide_eq_false hk0
      clear hcl
      gi_wp2_with (first
      | (gi_at_call 8; refine (CallsIn.inRound l (callsIn_wide.2 (HCM.out _ HA.out))).mono ?_; rintro e A1 ⟨rfl, q1⟩; replace HA := hidden (grow_trans HA.out q1); clear c2 c8 c9 c11 q1; obtain ⟨c2, c8, c9, c11⟩ := HC.out _ HA.out)
      | (gi_at_call 9; refine (CallsIn.inRound l (callsIn_wide.2 (HHA.out _ HA.out))).mono ?_; rintro e A2 ⟨rfl, q2⟩; replace HA := hidden (grow_trans HA.out q2); clear c2 c8 c9 c11 q2; obtain ⟨c2, c8, c9, c11⟩ := HC.out _ HA.out)
      | (gi_at_call 10; refine (CallsIn.inRound l (callsIn_wide.2 (HRK.out _ HA.out))).mono ?_; rintro e A3 ⟨rfl, q3⟩; replace HA := hidden (grow_trans HA.out q3); clear c2 c8 c9 c11 q3; obtain ⟨c2, c8, c9, c11⟩ := HC.out _ HA.out)
      | (gi_at_call 11; refine (CallsIn.inRound l (callsIn_wide.2 (HNT.out _ HA.out))).mono ?_; rintro e A4 ⟨na, nc, rfl, hrd, q4⟩; have HRD := hidden hrd; replace HA := hidden (grow_trans HA.out q4); have HPZ : Hid ((Tryz.prog.info? 42).map (·.size) = some (encP K (.slice na bl nc)).toArray.size ∧ (encP z32 (.slice none 0 0)).toArray.size = (encP K (.slice na bl nc)).toArray.size) := ⟨(by rw [List.size_toArray, encP_length K _ HK32.out]; exact size_pair), (by rw [List.size_toArray, List.size_toArray, encP_length K _ HK32.out, encP_length z32 _ z32_length])⟩; clear c2 c8 c9 c11 q4 hrd; obtain ⟨c2, c8, c9, c11⟩ := HC.out _ HA.out)
      | (refine inList (.inr ⟨l, rfl⟩) (fun c e => by cases e) (wpList_al _ rfl _ rfl _ zero_pair (fun A5 g18 hg18 hl18 B18 q5 => ⟨rfl, ?_⟩)); have HG18 := hidden hg18; have HB18 := hidden B18; have HQ5 := hidden q5; clear hg18 hl18 B18 q5 c2 c8 c9 c11)
      | (have mk := HB18; clear mk; refine inList (.inr ⟨l, rfl⟩) (fun c e => by cases e) (wpList_sto _ rfl _ _ _ rfl g18 _ (encP K (.slice na bl nc)).toArray rfl rfl HB18.out HPZ.out.1 HPZ.out.2 (encP_one _ _ _ _) (fun A6 B6 r6 => ⟨rfl, ?_⟩)); have HB6 := hidden B6; have q6 := below_row HQ5.out r6 HG18.out; replace HRD := hidden (HRD.out.grow q6); replace HA := hidden (grow_trans HA.out q6); obtain ⟨c2, c8, c9, c11⟩ := HC.out _ HA.out; have c99 := blk_val HB6.out HK32.out; clear B6 r6 q6 HB18 HG18 HQ5)
      | (refine inList (.inr ⟨l, rfl⟩) (fun c e => by cases e) (wpList_ldwK _ rfl _ rfl g12 L rfl ((HG.out.bl.grow HA.out).range) HL32.out ⟨rfl, ?_⟩))
      | (refine inList (.inr ⟨l, rfl⟩) (fun c e => by cases e) (wpList_ldwK _ rfl _ rfl bk K rfl ((HKB.out.grow HA.out).range) HK32.out ⟨rfl, ?_⟩))
      | (refine inList (.inr ⟨l, rfl⟩) (fun c e => by cases e) (wpList_ldwK _ rfl _ rfl g18 K rfl (blk_key HB6.out) HK32.out ⟨rfl, ?_⟩))
      | (gi_at_call 12; refine (CallsIn.inRound l (callsIn_wide.2 (HSM.out _ _ HA.out HRD.out))).mono ?_; rintro e A7 ⟨rfl, hx7⟩; rw [hx7]; clear hx7 c99)
      | (have mk := HB6; clear mk; refine inList (.inr ⟨l, rfl⟩) (fun c e => by cases e) (wpList_sto _ rfl _ _ _ rfl g12 _ (B K) rfl rfl (HG.out.bl.grow HA.out) HPS.out HLK.out (B_one _) (fun A8 B8 r8 => ⟨rfl, ?_⟩)); obtain ⟨m8, bn8, c11', z11⟩ := al_store HG.out HA.out HSZ8.out.2.2 r8; have HM8 := hidden m8; have HB8 := hidden B8; have HBN8 := hidden bn8; clear B8 r8 m8 bn8))
      exact HFIN.out _ HM8.out HBN8.out HB8.out
  case done =>
    rintro D xs W hD hxs ⟨L, hG, _⟩ hK
    have hKD := hK
    clear hK
    have hl : xs.length = n := by rw [← HNL.out, ← hxs, List.length_map]
    rw [hl] at hG
    have hTn : TT.ents.length = n := by rw [← HFT.out]; exact HNL.out
    have HCW : Hid (∀ w', Below W.heap.size W w' → w'.cell? ⟨w.heap.size, 0, none⟩ = some (.slice la n lc) ∧ w'.cell? ⟨x5.heap.size, 0, none⟩ = some (.pointer (some ⟨g, 0, none⟩)) ∧ w'.cell? ⟨x5.heap.size + 1, 0, none⟩ = some (.int .i64 (root : Int)) ∧ w'.cell? ⟨x5.heap.size + 1 + 1, 0, none⟩ = some (.int .i64 (n : Int))) := fun w' hb => ⟨HAS.out.c2 _ (hG.md.trans' (Mod.of_below hb _)), HAS.out.c8 _ (hG.md.trans' (Mod.of_below hb _)), HAS.out.c9 _ (hG.md.trans' (Mod.of_below hb _)), by rw [(hG.bn.grow hb).cell]; rfl⟩
    have HPK : Hid (∀ w', Calls Tryz.prog 14 #[.int .i64 most, .int .i64 5] w' fun e w'' => (∃ p : Nat, p < 5 ∧ e = .returned (.int .i64 (p : Int))) ∧ w'' = w') := fun w' => (pick_any most 5 w' (by omega) (by omega)).mono fun e w'' ⟨h1, h2⟩ => ⟨⟨(most % 5).toNat, by omega, by rw [h1]; congr 2; omega⟩, h2⟩
    gi_wp2
    refine region_lastIn (.inl rfl) (S := fun w' => Below W.heap.size W w') 16 (by kernel_rfl) (by kernel_rfl) (below_drewN (Below.refl _ _) 1) (fun hHeld => ?_)
    refine wpAnyL_take (i := 0) (v := .bool true) rfl (by kernel_rfl) (by kernel_rfl) (by kernel_rfl) (by kernel_rfl) (by kernel_rfl) (fun _ _ _ h => absurd h.1 (by simp)) (Or.inl ⟨by rfl, fun w hS => by go_simp⟩) hHeld ?_
    simp only [Act.put, zq1, zq2, zq4, zq5, zq6]
    refine wpAnyL_take (i := 1) (v := .bool true) rfl (by kernel_rfl) (by kernel_rfl) (by kernel_rfl) (by kernel_rfl) (by kernel_rfl) (fun _ _ _ h => absurd h.1 (by simp)) (Or.inl ⟨by rfl, fun w hS => by go_simp⟩) hHeld ?_
    simp only [Act.put, zq1, zq2, zq3, zq4, zq5, zq6]
    refine wpAnyL_take (i := 2) (v := .int .i64 (n : Int)) rfl (by kernel_rfl) (by kernel_rfl) (by kernel_rfl) (by kernel_rfl) (by kernel_rfl) (fun _ _ _ h => absurd h.1 (by simp)) (Or.inl ⟨by rfl, fun w hS => by (have q1 := (HCW.out _ hS).2.2.2; go_simp)⟩) hHeld ?_
    simp only [Act.put, zq1, zq2, zq3, zq4, zq5, zq6]
    refine wpAnyL_take (i := 3) (v := .slice la n lc) rfl (by kernel_rfl) (by kernel_rfl) (by kernel_rfl) (by kernel_rfl) (by kernel_rfl) (fun _ _ _ h => absurd h.1 (by simp)) (Or.inl ⟨by rfl, fun w hS => by (have q1 := (HCW.out _ hS).1; go_simp)⟩) hHeld ?_
    simp only [Act.put, zq1, zq2, zq3, zq4, zq5, zq6]
    refine wpAnyL_take (i := 4) (v := .int .i64 (n : Int)) rfl (by kernel_rfl) (by kernel_rfl) (by kernel_rfl) (by kernel_rfl) (by kernel_rfl) (fun _ _ _ h => absurd h.1 (by simp)) (Or.inl ⟨by rfl, fun w hS => by go_simp⟩) hHeld ?_
    simp only [Act.put, zq1, zq2, zq3, zq4, zq5, zq6]
    refine wpAnyL_take (i := 5) (v := .bool true) rfl (by kernel_rfl) (by kernel_rfl) (by kernel_rfl) (by kernel_rfl) (by kernel_rfl) (fun _ _ _ h => absurd h.1 (by simp)) (Or.inl ⟨by rfl, fun w hS => by go_simp⟩) hHeld ?_
    simp only [Act.put, zq1, zq2, zq3, zq4, zq5, zq6]
    refine wpAnyL_take (i := 6) (v := .bool true) rfl (by kernel_rfl) (by kernel_rfl) (by kernel_rfl) (by kernel_rfl) (by kernel_rfl) (fun _ _ _ h => absurd h.1 (by simp)) (Or.inl ⟨by rfl, fun w hS => by go_simp⟩) hHeld ?_
    simp only [Act.put, zq1, zq2, zq3, zq4, zq5, zq6]
    refine wpAnyL_take (i := 7) (v := .bool true) rfl (by kernel_rfl) (by kernel_rfl) (by kernel_rfl) (by kernel_rfl) (by kernel_rfl) (fun _ _ _ h => absurd h.1 (by simp)) (Or.inl ⟨by rfl, fun w hS => by go_simp⟩) hHeld ?_
    simp only [Act.put, zq1, zq2, zq3, zq4, zq5, zq6]
    refine wpAnyL_take (i := 8) (v := .pointer (some ⟨g, 0, none⟩)) rfl (by kernel_rfl) (by kernel_rfl) (by kernel_rfl) (by kernel_rfl) (by kernel_rfl) (fun _ _ _ h => absurd h.1 (by simp)) (Or.inl ⟨by rfl, fun w hS => by (have q1 := (HCW.out _ hS).2.1; go_simp)⟩) hHeld ?_
    simp only [Act.put, zq1, zq2, zq3, zq4, zq5, zq6]
    refine wpAnyL_take (i := 9) (v := .int .i64 (root : Int)) rfl (by kernel_rfl) (by kernel_rfl) (by kernel_rfl) (by kernel_rfl) (by kernel_rfl) (fun _ _ _ h => absurd h.1 (by simp)) (Or.inl ⟨by rfl, fun w hS => by (have q1 := (HCW.out _ hS).2.2.1; go_simp)⟩) hHeld ?_
    simp only [Act.put, zq1, zq2, zq3, zq4, zq5, zq6]
    refine wpAnyL_take (i := 10) (v := .slice la n lc) rfl (by kernel_rfl) (by kernel_rfl) (by kernel_rfl) (by kernel_rfl) (by kernel_rfl) (fun _ _ _ h => absurd h.1 (by simp)) (Or.inl ⟨by rfl, fun w hS => by (have q1 := (HCW.out _ hS).1; go_simp)⟩) hHeld ?_
    simp only [Act.put, zq1, zq2, zq3, zq4, zq5, zq6]
    refine wpAnyL_take (i := 11) (v := .int .i64 most) rfl (by kernel_rfl) (by kernel_rfl) (by kernel_rfl) (by kernel_rfl) (by kernel_rfl) (fun _ _ _ h => absurd h.1 (by simp)) (Or.inl ⟨by rfl, fun w hS => by go_simp⟩) hHeld ?_
    simp only [Act.put, zq1, zq2, zq3, zq4, zq5, zq6]
    refine wpAnyL_one (i := 12) rfl (by kernel_rfl) (fun KQ hK => ?_)
    go_simp
    refine (HPK.out _).mono ?_
    rintro e z1 ⟨⟨p, hp, rfl⟩, hz1⟩
    rw [hz1]
    clear hz1 z1
    obtain ⟨m1, hm1⟩ : ∃ m1 : Int, m1 = ((p + 1 : Nat) : Int) := ⟨_, rfl⟩
    have hw1 : wrap64 (1 + (p : Int)) = m1 := (by rw [hm1, Go.IntWalk.wrap64_in _ (by omega)]; omega)
    have hw2 : IntKind.i64.wrap (1 + (p : Int)) = m1 := (Go.IntWalk.i64_left _).trans hw1
    have HPC : Hid (∀ w', Below W.heap.size W w' → Calls Tryz.prog 13 #[.pointer (some ⟨g, 0, none⟩), .int .i64 (root : Int), .slice la n lc, .int .i64 m1] w' fun e w'' => e = .returned (.bool true) ∧ Below w'.heap.size w' w'') := fun w' hb => (by rw [hm1]; exact pieces13_any (HAS.out.lir _ (hG.md.trans' (Mod.of_below hb _))) hTn (by omega) p (by omega))
    clear hm1 hp
    refine hK.out _ _ (hHeld) (fun hHeld => ?_)
    clear hK KQ
    refine wpAnyL_take (i := 13) (v := .int .i64 m1) rfl (by kernel_rfl) (by kernel_rfl) (by kernel_rfl) (by kernel_rfl) (by kernel_rfl) (fun _ _ _ h => absurd h.1 (by simp)) (Or.inl ⟨by rfl, fun w hS => by go_simp⟩) hHeld ?_
    simp only [Act.put, zq1, zq2, zq3, zq4, zq5, zq6]
    refine wpAnyL_one (i := 14) rfl (by kernel_rfl) (fun KQ hK => ?_)
    go_simp
    refine (HPC.out _ hHeld).mono ?_
    rintro e z2 ⟨rfl, a2⟩
    refine hK.out _ _ (grow_trans hHeld a2) (fun hHeld => ?_)
    clear hK KQ
    refine wpAnyL_take (i := 15) (v := .bool true) rfl (by kernel_rfl) (by kernel_rfl) (by kernel_rfl) (by kernel_rfl) (by kernel_rfl) (fun _ _ _ h => absurd h.1 (by simp)) (Or.inl ⟨by rfl, fun w hS => by go_simp⟩) hHeld ?_
    simp only [Act.put, zq1, zq2, zq3, zq4, zq5, zq6]
    refine wpAnyL_last rfl (by kernel_rfl) (by kernel_rfl) (fun KQ hK => ?_)
    have hz4 := (HAS.out.c4 _ (hG.md.trans' (Mod.of_below hHeld _)))
    have c4 : z2.cell? ⟨w.heap.size + 1, 0, none⟩ = some (.bool false) := by rw [hz4.cell]; rfl
    have z4 : z2.frozen? ⟨w.heap.size + 1, 0, none⟩ = false := hz4.frozen 0
    go_simp
    refine hK.out _ _ ?_
    clear hK KQ
    refine ⟨rfl, ?_⟩
    have HH2 := hidden hHeld
    clear hHeld
    gi_wp2
    have hKz : z2.heap[D]? = some (.deferred (some [])) := (HH2.out.block D (Array.getElem?_eq_some_iff.1 hKD).1).trans hKD
    have hB := HAS.out.low _ (hG.md.trans' (Mod.of_below HH2.out _))
    have hB8 := (HAS.out.low _ (Mod.refl _ _)).size
    have hw4 : w.heap.size ≤ D := Nat.le_trans hB8 hD
    have hK' := (KeepsOthers.setCell z2 ⟨w.heap.size + 1, 0, none⟩ (.bool true)).same D _ hKz rfl
    refine ⟨by simp, .inl ⟨_, _, rfl, run_takeDeferred hK', ?_⟩⟩
    have hc5 := cell_kept (World.cell?_setCell_same' z2 ⟨w.heap.size + 1, 0, none⟩ (.bool true) (by rw [c4]; rfl)) (grownBy_putObj' _ D (.deferred none)) (fun r e => by cases e; exact ⟨_, hK', rfl⟩)
    refine ⟨.bool true, ?_, rfl, (setCell_below (g := w.heap.size + 1) 0 (.bool true) hB (by omega)).trans (belowK_b (w := w) (Nat.le_refl _) _ D _ _ hw4 hK' rfl rfl)⟩
    simp [results, Tryz.f3, go_sem, hc5]
  case stop =>
    rintro D cc pre W hD _ hf hK
    exact hf.elim

set_option maxRecDepth 100000 in
set_option maxHeartbeats 4000000 in
theorem listAll_odd {w : World} {la : Option Addr} {lc : Nat} {V : Nat → Value} {es : List Ent} (hP : PrAt w (.slice la es.length lc) V es) (hn : es.length ≤ 140737488355328) (hE : 16 < es.length ∨ errB es ≠ 0) (hL : Laid w) (most : Int) :
    Calls Tryz.prog 3 #[.slice la es.length lc, .int .i64 most] w fun e w' => e = .returned (.bool true) ∧ Below w.heap.size w w' := by
  have HAW : Hid (∀ w', Below w.heap.size w w' → Calls Tryz.prog 4 #[] w' fun e w'' => e = .returned (.bool true) ∧ Below w'.heap.size w' w'') := fun w' hb => awake13_any w' (hL.grow hb)
  have HRO : Hid (∀ w', Below w.heap.size w w' → Calls Tryz.prog 5 #[.slice la es.length lc] w' fun e w'' => ∃ h E, e = .returned (.tuple #[.agg (B h), .int .i64 E]) ∧ h.length = 32 ∧ (16 < es.length ∨ E ≠ 0) ∧ Below w'.heap.size w' w'') := fun w' hb => by
    refine (Root_any _ V es w' (hP.grow hb) hn (hL.grow hb)).mono ?_
    rintro e w'' ⟨h, E, rfl, p, b⟩
    refine ⟨h, E, rfl, p.len, ?_, b⟩
    rcases hE with q | q
    · exact .inl q
    · refine .inr fun e0 => ?_
      cases p with
      | out q => omega
      | bad _ _ _ q1 q2 => exact q (q1 ▸ e0)
      | part _ _ q1 q2 => exact absurd (fun _ _ _ _ j hj => by simp at hj) q2
      | good _ _ q1 q2 => exact q q1
  obtain ⟨n, hnn⟩ : ∃ n, n = es.length := ⟨_, rfl⟩
  rw [← hnn] at HRO ⊢
  have HHZ : Hid (∀ h : List Int, h.length = 32 → (Tryz.prog.info? 25).map (·.size) = some (B h).size ∧ (B z32).size = (B h).size) := fun h hl => ⟨by rw [B_size, hl]; exact size_hash, by rw [B_size, B_size, hl]; rfl⟩
  clear hP hE hL hn hnn
  go_enter Tryz.func3, Tryz.ntmps3
  go_upto_region 3 with (first
    | (go_at_call 4; refine (HAW.out _ (grow_trans (grow_alloc _ _) (grow_alloc _ _))).mono ?_; rintro e x1 ⟨rfl, b1⟩; have HK2 : Hid (Blk x1 w.heap.size 22 #[.slice la n lc]) := ((Blk.new w 22 #[.slice la n lc]).grow (grow_alloc _ (.cells #[Value.bool false] 4))).grow b1; have HK4 : Hid (Blk x1 (w.heap.size + 1) 4 #[.bool false]) := (by have h7 := (Blk.new (w.alloc (.cells #[Value.slice la n lc] 22)) 4 #[Value.bool false]).grow b1; simp only [World.size_alloc] at h7; exact h7); have HB1 : Hid (Below w.heap.size w x1) := grow_trans (grow_trans (grow_alloc _ _) (grow_alloc _ _)) b1; have c2 : x1.cell? ⟨w.heap.size, 0, none⟩ = some (.slice la n lc) := (by rw [HK2.out.cell]; rfl); clear b1 HAW)
    | (go_at_call 5; clear c2; refine (HRO.out _ HB1.out).mono ?_; rintro e x2 ⟨h, E, rfl, hl, hor, b2⟩; have HOR := hidden hor; have HB2 := hidden (grow_trans HB1.out b2); have HHZ2 := hidden (HHZ.out h hl); replace HK2 := hidden (HK2.out.grow b2); replace HK4 := hidden (HK4.out.grow b2); clear b2 hl hor HRO HB1 HHZ)
    | (refine wpList_al _ rfl _ rfl _ zero_hash ?_; intro x3 g6 hg6 hl6 B6 b3; have HG6 := hidden hg6; have HB6 := hidden B6; have HQ3 := hidden b3; clear hg6 hl6 B6 b3)
    | (refine wpList_sto _ rfl _ _ _ rfl g6 _ (B h) rfl rfl HB6.out HHZ2.out.1 HHZ2.out.2 (B_one _) ?_; intro x4 B9 r9; have b4 := below_row HQ3.out r9 HG6.out; have HB4 := hidden (grow_trans HB2.out b4); replace HK2 := hidden (HK2.out.grow b4); replace HK4 := hidden (HK4.out.grow b4); clear B9 r9 b4 HQ3 HG6 HB6 HHZ2 HB2))
  have c2 : x4.cell? ⟨w.heap.size, 0, none⟩ = some (.slice la n lc) := (by rw [HK2.out.cell]; rfl)
  have c4 : x4.cell? ⟨w.heap.size + 1, 0, none⟩ = some (.bool false) := (by rw [HK4.out.cell]; rfl)
  have z4 : x4.frozen? ⟨w.heap.size + 1, 0, none⟩ = false := HK4.out.frozen 0
  have hst : (x4.setCell ⟨w.heap.size + 1, 0, none⟩ (.bool true)).cell? ⟨w.heap.size + 1, 0, none⟩ = some (.bool true) := World.cell?_setCell_same' _ _ _ (by rw [c4]; rfl)
  have hbl : Below w.heap.size w (x4.setCell ⟨w.heap.size + 1, 0, none⟩ (.bool true)) := setCell_below 0 _ HB4.out (by omega)
  by_cases h16 : 16 < n
  · have y1 : (16 : Int) < (n : Int) := by omega
    go_wp2_with fail
    refine bodyPost_ret (v := .bool true) ?_ rfl ⟨rfl, hbl⟩
    simp [results, Tryz.f3, go_sem, hst]
  · have y1 : ¬ (16 : Int) < (n : Int) := by omega
    have hE := HOR.out.resolve_left h16
    have y2 : (E == 0) = false := by simpa using hE
    have y3 : (E != 0) = true := by rw [bne, y2]; rfl
    go_wp2_with fail
    refine bodyPost_ret (v := .bool true) ?_ rfl ⟨rfl, hbl⟩
    simp [results, Tryz.f3, go_sem, hst]

theorem listAll_walk (v : Value) (V : Nat → Value) (es : List Ent) (most : Int) (w : World) (hL : Laid w) (hP : PrAt w v V es) (hn : es.length ≤ 140737488355328) : Calls Tryz.prog 3 #[v, .int .i64 most] w fun e w' => e = .returned (.bool true) ∧ Below w.heap.size w w' := by
  obtain ⟨la, lc, rfl⟩ : ∃ la lc, v = .slice la es.length lc := by obtain ⟨a, c, e, _⟩ := id hP; exact ⟨a, c, e⟩
  by_cases h : 16 < es.length ∨ errB es ≠ 0
  · exact listAll_odd hP hn h hL most
  · exact listAll_main hP (by omega) (Classical.byContradiction fun q => h (.inr q)) hL most

end Go.Proofs.YtnnmfgnommbmkaaGreatDoor
