/- node.mayBe, as a contract. -/
import Derived.Test.YtpbmpmiicdpehabGreatDoorDb32
import Derived.Test.YtpbmpmiicdpehabGreatDoorDb36
import Derived.Test.YtpbmpmiicdpehabGreatDoorDb38
import Derived.Test.YtpbmpmiicdpehabGreatDoorDb07
import Derived.Test.YtpbmpmiicdpehabGreatDoorDb06
import Derived.Sort.Grow
import Derived.Shelf.SlSortCmp.WholeK
import Derived.Shelf.SlSorted.Search
import Derived.Test.YtpbmpmiicdpehabGreatDoorProg
namespace Go.Proofs.YtpbmpmiicdpehabGreatDoor
set_option maxRecDepth 20000
open Go.RowKit

theorem size_unit : (Tryz.prog.info? 145).map (·.size) = some (#[] : Array Value).size := by kernel_rfl

theorem built_unit : Tryz.prog.built 145 [] = some #[] := by kernel_rfl

theorem wpList_mkmap {ops : Array Oper} {rest : List Oper} {op : Oper} {a : Act} {Q : Exit → Act → World → Prop} (w : World) (hgd : op.guard = none) (x : Operand) (ho : op.op = .makeMap 144 (some x))
    (n : Int) (hx : a.eval x = .int .i64 n)
    (hk : ∀ w' g, w.heap.size ≤ g → KeysAt w' g [] → Below w.heap.size w w' → wpList Tryz.prog ops Q rest (a.put op.dst (.map (some g))) w') : wpList Tryz.prog ops Q (op :: rest) a w := by
  refine wpList_plain hgd fun K hK => ?_
  unfold Oper.wp execOp
  simp only [ho]
  simp [Instr.makeMap, hx, run_underlying u_keymap, asInt]
  exact hK _ _ (hk _ w.heap.size (Nat.le_refl _) (KeysAt.new w) (grow_alloc w _))

theorem KeysAt.kept {w w' : World} {b g : Nat} {ks : List (List Int)} (h : KeysAt w b ks) (hg : w.grownBy w' (some g)) (hne : b ≠ g) : KeysAt w' b ks := by
  have hl := h.lt
  obtain ⟨es, c, h1, h2⟩ := h
  exact ⟨es, c, (hg.block b hl (fun e => hne (by injection e))).trans h1, h2⟩

set_option maxRecDepth 100000 in
set_option maxHeartbeats 8000000 in
theorem mayBe_any (v : Value) (V : Nat → Value) (es : List Ent) (w : World) (hv : PrAt w v V es) (hn : es.length ≤ 140737488355328) :
    Calls Tryz.prog 76 #[v] w fun e w' => e = .returned (.int .i64 (errB es)) ∧ Below w.heap.size w w' := by
  obtain ⟨a, cap, rfl, hcap, hc, hr⟩ := hv
  by_cases hbig : 4096 < es.length
  · have hE : errB es = 4 := by rw [errB, if_pos hbig]
    rw [hE]
    have hb : (4096 : Int) < (es.length : Int) := by omega
    clear hc hr hcap hbig hE
    go_enter Tryz.func76, Tryz.ntmps76
    go_wp2
    go_ret
    exact ⟨rfl, Below.refl _ _⟩
  · have HE : Hid (errB es = lsE [] es) := by show _ = _; rw [errB, if_neg hbig]
    have HC := hidden hc
    have HR := hidden hr
    have hb : ¬ (4096 : Int) < (es.length : Int) := by omega
    obtain ⟨n, hnn⟩ : ∃ n, n = es.length := ⟨_, rfl⟩
    have HN := hidden hnn
    obtain ⟨E, hE⟩ : ∃ E, E = errB es := ⟨_, rfl⟩
    rw [← hE] at HE ⊢
    rw [← hnn] at hb hn ⊢
    clear hc hr hcap hbig hnn hE
    go_enter Tryz.func76, Tryz.ntmps76
    go_wp2_with (first
      | (refine wpList_mkmap _ rfl _ rfl _ rfl ?_; intro w1 gm hgm hk0 b1))
    have HGM := hidden hgm
    have HK0 := hidden hk0
    clear hgm hk0
    go_loopw [16] (fun i wr => ∃ k : Nat, k ≤ n ∧ i = .int .i64 k ∧ Hid (KeysAt wr gm ((es.take k).map (·.1))) ∧ Hid (E = lsE ((es.take k).map (·.1)) (es.drop k)) ∧ Below w.heap.size w wr) (fun i _ => n - (intOf i).toNat)
    case atStart => exact ⟨0, by omega, rfl, HK0, HE, b1⟩
    case round =>
      obtain ⟨k, hk, rfl, hks, hls, hbw⟩ := hrel
      by_cases hlt : k < n
      · have hlt' : k < es.length := by rw [← HN.out]; exact hlt
        obtain ⟨g, off, rfl, hcc⟩ := HC.out (by omega)
        have z1 : (k : Int) < (n : Int) := by omega
        have z0 : (0 : Int) ≤ (k : Int) := by omega
        obtain ⟨hkey, hrd⟩ := HR.out k hlt'
        have HRG : Hid (wr.rangeAt g (off + k * 33) (encP (es.getD k e00).1 (V k))) := rng_grow (hcc k hlt') hbw
        have hst := lsE_step ((es.take k).map (·.1)) es k hlt'
        rw [← hls.out] at hst
        have HKT := hidden (keys_take es k hlt')
        have HKL : Hid (∀ q ∈ (es.take k).map (·.1), q.length = 32) := by
          intro q hq
          obtain ⟨x, hx, rfl⟩ := List.mem_map.1 hq
          obtain ⟨j, hj, rfl⟩ := List.mem_iff_getElem.1 (List.mem_of_mem_take hx)
          have := (HR.out j hj).1.1
          simpa [List.getD, hj] using this
        obtain ⟨va, vc, hV, _, _, _, _⟩ := hrd
        obtain ⟨K, hK⟩ : ∃ K, K = (es.getD k e00).1 := ⟨_, rfl⟩
        obtain ⟨L, hL⟩ : ∃ L, L = (es.getD k e00).2.length := ⟨_, rfl⟩
        rw [← hK, ← hL] at hst
        rw [← hK] at HKT HRG hkey
        rw [← hL] at hV
        rw [hV] at HRG
        have HKY := hidden hkey
        obtain ⟨ks, hksd⟩ : ∃ ks, ks = (es.take k).map (·.1) := ⟨_, rfl⟩
        rw [← hksd] at hst hks HKL HKT
        have hsz : (Tryz.prog.info? 52).map (·.size) = some (encP K (.slice va L vc)).toArray.size := by rw [List.size_toArray, encP_length K _ HKY.out.1]; exact size_pair
        have hsz2 : (encP z32 (.slice none 0 0)).toArray.size = (encP K (.slice va L vc)).toArray.size := by rw [List.size_toArray, List.size_toArray, encP_length K _ HKY.out.1]; rfl
        have HSZ := hidden hsz
        have HSZ2 := hidden hsz2
        clear hcc hls hK hL hV hkey hksd hsz hsz2 hlt'
        by_cases hlong : 1024 < L
        · rw [if_pos hlong] at hst
          have hl2 : (1024 : Int) < (L : Int) := by omega
          have HSTT := hidden hst
          clear hst hlong
          go_wp2_with (first
            | ((with_reducible refine at_ldd 19 18 ?_); refine wpList_ldp _ rfl _ rfl g (off + k * 33) K _ rfl HRG.out HKY.out.1 ?_)
            | ((with_reducible refine at_ald 5 ?_); refine wpList_al _ rfl _ rfl _ zero_pair ?_; intro w2 g5 hg5 hl5 B5 q5)
            | ((with_reducible refine at_st 5 ?_); refine wpList_sto _ rfl _ _ _ rfl g5 _ _ rfl rfl B5 HSZ.out HSZ2.out (encP_one _ _ _ _) ?_; intro w3 B6 r6; have q6 := below_row q5 r6 hg5; have ckv := pair_val B6 HKY.out.1))
          go_ret
          exact ⟨by rw [HSTT.out]; rfl, grow_trans hbw q6⟩
        · rw [if_neg hlong] at hst
          have hl2 : ¬ (1024 : Int) < (L : Int) := by omega
          by_cases hmem : K ∈ ks
          · rw [if_pos hmem] at hst
            have hdd : decide (K ∈ ks) = true := decide_eq_true hmem
            have HSTT := hidden hst
            clear hst hlong hmem
            go_wp2_with (first
              | ((with_reducible refine at_ldd 19 18 ?_); refine wpList_ldp _ rfl _ rfl g (off + k * 33) K _ rfl HRG.out HKY.out.1 ?_)
              | ((with_reducible refine at_ald 5 ?_); refine wpList_al _ rfl _ rfl _ zero_pair ?_; intro w2 g5 hg5 hl5 B5 q5)
              | ((with_reducible refine at_st 5 ?_); refine wpList_sto _ rfl _ _ _ rfl g5 _ _ rfl rfl B5 HSZ.out HSZ2.out (encP_one _ _ _ _) ?_; intro w3 B6 r6; have q6 := below_row q5 r6 hg5; have ckv := pair_val B6 HKY.out.1)
              | ((with_reducible refine at_ldd 27 26 ?_); refine wpList_ldk _ rfl _ rfl g5 0 K rfl (pair_key B6) HKY.out.1 ?_)
              | (refine wpList_look _ rfl _ _ rfl gm ks K rfl rfl HKY.out.1 HKL.out (hks.out.grow q6) ?_)
              | ((with_reducible refine at_ald 6 ?_); refine wpList_al _ rfl _ rfl _ zero_unit ?_; intro w4 g6 hg6 hl6 B7 q7))
            go_ret
            exact ⟨by rw [HSTT.out]; rfl, grow_trans (grow_trans hbw q6) q7⟩
          · rw [if_neg hmem] at hst
            have hdd : decide (K ∈ ks) = false := decide_eq_false hmem
            have HSTT := hidden hst
            have HMEM := hidden hmem
            clear hst hlong hmem
            go_wp2_with (first
              | ((with_reducible refine at_ldd 19 18 ?_); refine wpList_ldp _ rfl _ rfl g (off + k * 33) K _ rfl HRG.out HKY.out.1 ?_)
              | ((with_reducible refine at_ald 5 ?_); refine wpList_al _ rfl _ rfl _ zero_pair ?_; intro w2 g5 hg5 hl5 B5 q5)
              | ((with_reducible refine at_st 5 ?_); refine wpList_sto _ rfl _ _ _ rfl g5 _ _ rfl rfl B5 HSZ.out HSZ2.out (encP_one _ _ _ _) ?_; intro w3 B6 r6; have q6 := below_row q5 r6 hg5; have ckv := pair_val B6 HKY.out.1)
              | ((with_reducible refine at_ldd 27 26 ?_); refine wpList_ldk _ rfl _ rfl g5 0 K rfl (pair_key B6) HKY.out.1 ?_)
              | (refine wpList_look _ rfl _ _ rfl gm ks K rfl rfl HKY.out.1 HKL.out (hks.out.grow q6) ?_)
              | ((with_reducible refine at_ald 6 ?_); refine wpList_al _ rfl _ rfl _ zero_unit ?_; intro w4 g6 hg6 hl6 B7 q7)
              | ((with_reducible refine at_ldd 34 33 ?_); refine wpList_ldk _ rfl _ rfl g5 0 K rfl (pair_key (B6.grow q7)) HKY.out.1 ?_)
              | ((with_reducible refine at_bdd 35 ?_); refine wpList_bld _ rfl _ _ rfl _ (by rw [List.map_toArray]; exact built_unit) ?_)
              | (refine wpList_keyPut _ rfl _ _ _ rfl gm ks K rfl rfl rfl HKY.out.1 HKL.out HMEM.out ((hks.out.grow q6).grow q7) ?_; intro w6 K6 r9))
            have hbel : Below w.heap.size w w6 := below_row (grow_trans (grow_trans hbw q6) q7) r9 HGM.out
            exact ⟨⟨k + 1, by omega, by go_num, by rw [HKT.out]; exact K6, by rw [HKT.out]; exact HSTT.out, hbel⟩, by simp [intOf]; omega⟩
      · have hkn : k = es.length := by rw [← HN.out]; omega
        have HZ : Hid (E = 0) := by
          show _ = _
          rw [hls.out, hkn, List.drop_of_length_le (Nat.le_refl _)]
          rfl
        have z1 : ¬ (k : Int) < (n : Int) := by omega
        clear hls hks
        go_wp2
        go_ret
        exact ⟨by rw [HZ.out]; rfl, hbw⟩

end Go.Proofs.YtpbmpmiicdpehabGreatDoor

/- Worlds that have but grown: draws, and new blocks; path.Compare and path.Bit told so; the function that the leaves are sorted by. -/
namespace Go.Proofs.YtpbmpmiicdpehabGreatDoor
set_option maxRecDepth 20000
open Go.RowKit

def Grew (w w' : World) : Prop := ∃ (q : Nat) (os : Array Obj), w' = Go.Sort.grow (w.drewN q) os
theorem Grew.refl (w : World) : Grew w w := ⟨0, #[], by rw [Go.Sort.grow_empty]; rfl⟩
theorem Grew.trans {a b c : World} (h : Grew a b) (k : Grew b c) : Grew a c := by
  obtain ⟨q, os, rfl⟩ := h
  obtain ⟨p, us, rfl⟩ := k
  refine ⟨q + p, os ++ us, ?_⟩
  rw [← Go.Sort.grow_grow]
  simp [Go.Sort.grow, World.drewN, Nat.add_assoc]
theorem Grew.alloc (w : World) (o : Obj) : Grew w (w.alloc o) := ⟨0, #[o], by rw [Go.Sort.alloc_eq_grow]; rfl⟩
theorem Grew.drewN (w : World) (n : Nat) : Grew w (w.drewN n) := ⟨n, #[], by rw [Go.Sort.grow_empty]⟩
theorem Grew.drew (w : World) : Grew w w.drew := Grew.drewN w 1
theorem Grew.below {w w' : World} (h : Grew w w') : Below w.heap.size w w' := by
  obtain ⟨q, os, rfl⟩ := h
  exact ⟨rfl, rfl, rfl, by simp [Go.Sort.grow, World.drewN], fun k hk => Go.Sort.heap_grow_old (w.drewN q) os hk⟩

/-- A new variable that holds a value; the world has grown. -/
theorem wpList_bxG {ops : Array Oper} {rest : List Oper} {op : Oper} {a : Act} {Q : Exit → Act → World → Prop} (w : World) (hgd : op.guard = none) (x : Operand) (ty : TypeId) (ho : op.op = .box ty x)
    (cs : Array Value) (hx : a.eval x = .agg cs)
    (hk : ∀ w' g, w.heap.size ≤ g → Blk w' g ty cs → Grew w w' → wpList Tryz.prog ops Q rest (a.put op.dst (.pointer (some ⟨g, 0, none⟩))) w') : wpList Tryz.prog ops Q (op :: rest) a w := by
  refine wpList_plain hgd fun K hK => ?_
  unfold Oper.wp execOp
  simp [ho, hx, Instr.box, newVar, Value.cells, newRow]
  exact hK _ _ (hk _ w.heap.size (Nat.le_refl _) (Blk.new w ty cs) (Grew.alloc w _))

set_option maxHeartbeats 1000000 in
theorem pcompare_grew (xs ys : List Int) (w : World) (hx : Key xs) (hy : Key ys) : Calls Tryz.prog 80 #[.agg (B xs), .agg (B ys)] w fun e w' => e = .returned (.int .i64 (cmp xs ys)) ∧ Grew w w' := by
  go_enter Tryz.func80, Tryz.ntmps80
  go_wp2_with (first | ((with_reducible refine at_bxd 2 ?_); refine wpList_bxG _ rfl _ _ rfl _ rfl ?_; intro w1 g1 hg1 B1 b1) | ((with_reducible refine at_bxd 3 ?_); refine wpList_bxG _ rfl _ _ rfl _ rfl ?_; intro w2 g2 hg2 B2 b2))
  have c2 := b1.trans b2
  have HC : Hid (∀ w', Below w2.heap.size w2 w' → Calls Tryz.prog 98 #[.slice (some ⟨g1, 0, none⟩) 32 32, .slice (some ⟨g2, 0, none⟩) 32 32] w' fun e w'' => e = .returned (.int .i64 (cmp xs ys)) ∧ w'' = w') :=
    fun w' hw' => compare_any _ _ xs ys w' (((B1.grow b2.below).grow hw').key_reads hx) ((B2.grow hw').key_reads hy)
  clear hx hy
  go_quiet ((go_at_call 98; exact Calls.quiet_of_same (HC.out _ (below_drewN (Below.refl _ _) _))))
  go_wp2
  go_ret
  exact ⟨rfl, c2.trans (Grew.drewN _ _)⟩

set_option maxHeartbeats 1000000 in
theorem bit_grew (xs : List Int) (d : Nat) (w : World) (hx : Key xs) (hd : d < 256) : Calls Tryz.prog 52 #[.agg (B xs), .int .i64 d] w fun e w' => e = .returned (.int .i64 (kb xs d)) ∧ Grew w w' := by
  have HI : Hid (∀ w, Calls Tryz.prog 71 #[.int .i64 (d : Int)] w fun e w' => e = .returned (.bool true) ∧ w' = w) := by
    intro w
    have := isBit_any d w
    rw [decide_eq_true (by omega)] at this
    exact this
  have HW := hidden (bit_word xs hx d)
  have h2 : ((d / 8 : Nat) : Int) < 32 := by omega
  go_enter Tryz.func52, Tryz.ntmps52
  go_wp2_with (first | (go_at_call 71; refine (HI.out _).mono ?_; rintro e w2 ⟨rfl, rfl⟩) | ((with_reducible refine at_bxd 2 ?_); refine wpList_bxG _ rfl _ _ rfl _ rfl ?_; intro w1 g1 hg1 B1 b1; have c1 := B1.bcell (d / 8) (by rw [hx.1]; omega)))
  go_ret
  exact ⟨by rw [HW.out]; rfl, b1⟩

/-- The function that leaves are sorted by. -/
theorem closure_cmp (k k' : Int) (a b c d a' b' c' d' : List Int) (w : World) (h : Nd k a b c d) (h' : Nd k' a' b' c' d') : Calls Tryz.prog 79 #[.agg (B (nd k a b c d)), .agg (B (nd k' a' b' c' d'))] w fun e w' => e = .returned (.int .i64 (cmp a a')) ∧ Grew w w' := by
  have HC : Hid (∀ w', Calls Tryz.prog 80 #[.agg (B a), .agg (B a')] w' fun e w'' => e = .returned (.int .i64 (cmp a a')) ∧ Grew w' w'') := fun w' => pcompare_grew a a' w' ⟨h.la, h.ba⟩ ⟨h'.la, h'.ba⟩
  have S1 : Hid (Seg (nd k a b c d) 1 a) := h.segA
  have S2 : Hid (Seg (nd k' a' b' c' d') 1 a') := h'.segA
  have L1 : Hid ((Tryz.prog.info? 32).map (·.size) = some a.length) := by show _ = _; rw [h.la]; exact sz_path
  have L2 : Hid ((Tryz.prog.info? 32).map (·.size) = some a'.length) := by show _ = _; rw [h'.la]; exact sz_path
  obtain ⟨N, hN⟩ : ∃ N, N = nd k a b c d := ⟨_, rfl⟩
  obtain ⟨M, hM⟩ : ∃ M, M = nd k' a' b' c' d' := ⟨_, rfl⟩
  obtain ⟨r, hr⟩ : ∃ r, r = cmp a a' := ⟨_, rfl⟩
  rw [← hN] at S1 ⊢
  rw [← hM] at S2 ⊢
  rw [← hr] at HC ⊢
  clear h h' hN hM hr
  go_enter Tryz.func79, Tryz.ntmps79
  go_wp2_with (first
    | ((with_reducible refine at_bxd 2 ?_); refine wpList_bxG _ rfl _ _ rfl _ rfl ?_; intro w1 g1 hg1 B1 b1)
    | ((with_reducible refine at_bxd 3 ?_); refine wpList_bxG _ rfl _ _ rfl _ rfl ?_; intro w2 g2 hg2 B2 b2; have B1' := B1.grow b2.below)
    | ((with_reducible refine at_ldd 6 5 ?_); refine wpList_ldm _ rfl _ _ rfl g1 1 _ _ a rfl B1' S1.out _ _ Tryz.underlying32 L1.out ?_)
    | ((with_reducible refine at_ldd 8 7 ?_); refine wpList_ldm _ rfl _ _ rfl g2 1 _ _ a' rfl B2 S2.out _ _ Tryz.underlying32 L2.out ?_)
    | (go_at_call 80; refine (HC.out _).mono ?_; rintro e w3 ⟨rfl, b3⟩))
  go_ret
  exact ⟨rfl, (b1.trans b2).trans b3⟩

end Go.Proofs.YtpbmpmiicdpehabGreatDoor

/- slices.SortFunc at nodes, and sort.Search: the contracts that the library bears, laid at this program (written by wip/lays.sh for one seat). -/
namespace Go.Proofs.YtpbmpmiicdpehabGreatDoor
set_option maxRecDepth 20000
open Go.Shelf
def sortNode_ren : Go.Shelf.Ren := ⟨fun | 6 => 78 | 15 => 97 | 14 => 96 | 28 => 117 | 29 => 118 | 20 => 109 | 21 => 110 | 22 => 111 | 23 => 112 | 24 => 113 | 25 => 114 | 26 => 115 | 27 => 116 | 46 => 123 | 47 => 124 | 48 => 125 | 49 => 126 | 50 => 127 | 57 => 136 | n => n, fun | 22 => 97 | 24 => 122 | 25 => 125 | 3 => 3 | 39 => 149 | 0 => 0 | 53 => 152 | 55 => 170 | 4 => 4 | 46 => 163 | 45 => 162 | 50 => 140 | 5 => 5 | 9 => 9 | 66 => 174 | 70 => 178 | 76 => 183 | 77 => 77 | n => n, fun | n => n⟩
theorem sortNode : Go.Proofs.SlLaysF0.n6 Tryz.prog sortNode_ren := {
  mixed := by kernel_rfl
  f6 := ⟨Tryz.f78.name, by decide, Tryz.func78.trans (congrArg some (by kernel_rfl))⟩
  f14 := ⟨Tryz.f96.name, by decide, Tryz.func96.trans (congrArg some (by kernel_rfl))⟩
  f15 := Tryz.func97.trans (congrArg some (by kernel_rfl))
  f20 := ⟨Tryz.f109.name, by decide, Tryz.func109.trans (congrArg some (by kernel_rfl))⟩
  f21 := ⟨Tryz.f110.name, by decide, Tryz.func110.trans (congrArg some (by kernel_rfl))⟩
  f22 := ⟨Tryz.f111.name, by decide, Tryz.func111.trans (congrArg some (by kernel_rfl))⟩
  f23 := ⟨Tryz.f112.name, by decide, Tryz.func112.trans (congrArg some (by kernel_rfl))⟩
  f24 := ⟨Tryz.f113.name, by decide, Tryz.func113.trans (congrArg some (by kernel_rfl))⟩
  f25 := ⟨Tryz.f114.name, by decide, Tryz.func114.trans (congrArg some (by kernel_rfl))⟩
  f26 := ⟨Tryz.f115.name, by decide, Tryz.func115.trans (congrArg some (by kernel_rfl))⟩
  f27 := ⟨Tryz.f116.name, by decide, Tryz.func116.trans (congrArg some (by kernel_rfl))⟩
  f28 := Tryz.func117.trans (congrArg some (by kernel_rfl))
  f29 := Tryz.func118.trans (congrArg some (by kernel_rfl))
  f46 := ⟨Tryz.f123.name, by decide, Tryz.func123.trans (congrArg some (by kernel_rfl))⟩
  f47 := Tryz.func124.trans (congrArg some (by kernel_rfl))
  f48 := Tryz.func125.trans (congrArg some (by kernel_rfl))
  f49 := ⟨Tryz.f126.name, by decide, Tryz.func126.trans (congrArg some (by kernel_rfl))⟩
  f50 := ⟨Tryz.f127.name, by decide, Tryz.func127.trans (congrArg some (by kernel_rfl))⟩
  f57 := ⟨Tryz.f136.name, by decide, Tryz.func136.trans (congrArg some (by kernel_rfl))⟩
  t0 := Tryz.underlying0
  a0 := Tryz.isAgg0
  z0 := Tryz.sizeOf0
  v0 := Tryz.zeroValue0
  t3 := Tryz.underlying3
  a3 := Tryz.isAgg3
  z3 := Tryz.sizeOf3
  v3 := Tryz.zeroValue3
  t4 := Tryz.underlying4
  a4 := Tryz.isAgg4
  z4 := Tryz.sizeOf4
  v4 := Tryz.zeroValue4
  t5 := Tryz.underlying5
  a5 := Tryz.isAgg5
  z5 := Tryz.sizeOf5
  v5 := Tryz.zeroValue5
  t9 := Tryz.underlying9
  a9 := Tryz.isAgg9
  z9 := Tryz.sizeOf9
  v9 := Tryz.zeroValue9
  t22 := Tryz.underlying97
  a22 := Tryz.isAgg97
  z22 := Tryz.sizeOf97
  v22 := Tryz.zeroValue97
  t25 := Tryz.underlying125
  a25 := Tryz.isAgg125
  z25 := Tryz.sizeOf125
  v25 := Tryz.zeroValue125
  t39 := Tryz.underlying149
  a39 := Tryz.isAgg149
  z39 := Tryz.sizeOf149
  v39 := Tryz.zeroValue149
  t45 := Tryz.underlying162
  a45 := Tryz.isAgg162
  z45 := Tryz.sizeOf162
  v45 := Tryz.zeroValue162
  t46 := Tryz.underlying163
  a46 := Tryz.isAgg163
  z46 := Tryz.sizeOf163
  v46 := Tryz.zeroValue163
  t50 := Tryz.underlying140
  a50 := Tryz.isAgg140
  z50 := Tryz.sizeOf140
  v50 := Tryz.zeroValue140
  t53 := Tryz.underlying152
  a53 := Tryz.isAgg152
  z53 := Tryz.sizeOf152
  v53 := Tryz.zeroValue152
  t55 := Tryz.underlying170
  a55 := Tryz.isAgg170
  z55 := Tryz.sizeOf170
  v55 := Tryz.zeroValue170
  t66 := Tryz.underlying174
  a66 := Tryz.isAgg174
  z66 := Tryz.sizeOf174
  v66 := Tryz.zeroValue174
  t70 := Tryz.underlying178
  a70 := Tryz.isAgg178
  z70 := Tryz.sizeOf178
  v70 := Tryz.zeroValue178
  t76 := Tryz.underlying183
  a76 := Tryz.isAgg183
  z76 := Tryz.sizeOf183
  v76 := Tryz.zeroValue183
  t77 := Tryz.underlying77
  a77 := Tryz.isAgg77
  z77 := Tryz.sizeOf77
  v77 := Tryz.zeroValue77 }
def searchL_ren : Go.Shelf.Ren := ⟨fun | 16 => 100 | n => n, fun | 3 => 3 | 35 => 76 | 4 => 4 | 38 => 149 | n => n, fun | n => n⟩
theorem searchL : Go.Proofs.SlLaysO.n16 Tryz.prog searchL_ren := {
  mixed := by kernel_rfl
  f16 := Tryz.func100.trans (congrArg some (by kernel_rfl))
  t3 := Tryz.underlying3
  a3 := Tryz.isAgg3
  z3 := Tryz.sizeOf3
  v3 := Tryz.zeroValue3
  t4 := Tryz.underlying4
  a4 := Tryz.isAgg4
  z4 := Tryz.sizeOf4
  v4 := Tryz.zeroValue4
  t35 := Tryz.underlying76
  a35 := Tryz.isAgg76
  z35 := Tryz.sizeOf76
  v35 := Tryz.zeroValue76
  t38 := Tryz.underlying149
  a38 := Tryz.isAgg149
  z38 := Tryz.sizeOf149
  v38 := Tryz.zeroValue149 }

end Go.Proofs.YtpbmpmiicdpehabGreatDoor
