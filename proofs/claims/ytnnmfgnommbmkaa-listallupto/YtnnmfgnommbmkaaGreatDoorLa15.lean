/- The statements' own helpers on bytes, as contracts: SameBytes, LentBytes, KeptBytes, OverBytes. -/
import Derived.Test.YtnnmfgnommbmkaaGreatDoorLa01
import Derived.Test.YtnnmfgnommbmkaaGreatDoorLa03
import Derived.Test.YtnnmfgnommbmkaaGreatDoorLa14
import Derived.Test.YtnnmfgnommbmkaaGreatDoorLa13
import Derived.Laws.CopyOwn
import Derived.Deep.RegionLaw
namespace Go.Proofs.YtnnmfgnommbmkaaGreatDoor
set_option maxRecDepth 20000
open Go.RowKit

set_option maxHeartbeats 400000 in
theorem same_any (x y : Value) (xs ys : List Int) (w : World) (hx : Reads w x xs) (hy : Reads w y ys) :
    Calls Tryz.prog 12 #[x, y] w fun e w' => e = .returned (.bool (decide (xs = ys))) ∧ w' = w := by
  have c1 := conv_reads hx
  have c2 := conv_reads hy
  have HB : Hid (((strOfNums xs).toList == (strOfNums ys).toList) = decide (xs = ys)) := by
    obtain ⟨_, _, _, _, _, h1, _⟩ := hx
    obtain ⟨_, _, _, _, _, h2, _⟩ := hy
    exact str_beq xs ys h1 h2
  clear hx hy
  go_enter Tryz.func12, Tryz.ntmps12
  go_wp2
  go_ret
  exact ⟨by rw [← HB.out]; rfl, rfl⟩

def marks (n : Nat) : List Int := (List.range 5).map fun k => 200 + ((n + k : Nat) : Int) % 50

def x5 (z : Int) : Int := bits .xor .u8 z 90

theorem x5_eq (z : Int) (h : 0 ≤ z ∧ z ≤ 255) : x5 z = ((z.toNat ^^^ 90 : Nat) : Int) := by
  unfold x5
  rw [u8_xor z 90 h.1 (by omega) (by omega) (by omega)]
  rfl
theorem x5_bd (z : Int) (h : 0 ≤ z ∧ z ≤ 255) : 0 ≤ x5 z ∧ x5 z ≤ 255 := by
  rw [x5_eq z h]
  have : z.toNat ^^^ 90 < 2 ^ 8 := Nat.xor_lt_two_pow (by omega) (by omega)
  omega
theorem Bytes.x5 {zs : List Int} (h : Bytes zs) : Bytes (zs.map x5) := by
  intro z hz
  obtain ⟨y, hy, rfl⟩ := List.mem_map.1 hz
  exact x5_bd y (h y hy)
theorem over_round (zs : List Int) (k : Nat) (hk : k < zs.length) : ((zs.take k).map x5 ++ zs.drop k).set k (x5 (zs.getD k 0)) = (zs.take (k + 1)).map x5 ++ zs.drop (k + 1) := by
  have hd : zs.drop k = zs.getD k 0 :: zs.drop (k + 1) := by
    rw [List.drop_eq_getElem_cons hk]; simp [List.getD, hk]
  have hl : ((zs.take k).map x5).length = k := by simp; omega
  rw [hd, List.set_append_right _ _ (by omega), hl, Nat.sub_self, List.set_cons_zero, take_snoc zs k hk, List.map_append, List.append_assoc]
  rfl

theorem over_get (zs : List Int) (k : Nat) (hk : k < zs.length) : ((zs.take k).map x5 ++ zs.drop k).getD k 0 = zs.getD k 0 := by
  have : ((zs.take k).map x5).length = k := by simp; omega
  simp only [List.getD]
  rw [List.getElem?_append_right (by omega), this, Nat.sub_self]
  simp

set_option maxHeartbeats 400000 in
theorem over_row (g n : Nat) (zs rest : List Int) (w : World) (h : Row w g (zs ++ rest)) (hl : zs.length ≤ maxLen) :
    Calls Tryz.prog 33 #[.slice (some ⟨g, 0, none⟩) n zs.length] w fun e w' => e = .returned (.tuple #[]) ∧ Row w' g (zs.map x5 ++ rest) ∧ w.grownBy w' (some g) ∧ w'.heap.size = w.heap.size := by
  unfold maxLen at hl
  have HR : Hid (Row w g (((zs.take 0).map x5 ++ zs.drop 0) ++ rest)) := by
    show Row _ _ _
    simpa using h
  clear h
  go_enter Tryz.func33, Tryz.ntmps33
  go_wp2_with fail
  go_loopw [3] (fun i wr => ∃ k : Nat, k ≤ zs.length ∧ i = .int .i64 k ∧ Hid (Row wr g (((zs.take k).map x5 ++ zs.drop k) ++ rest)) ∧ w.grownBy wr (some g) ∧ wr.heap.size = w.heap.size) (fun i _ => zs.length - (intOf i).toNat)
  case atStart => exact ⟨0, by omega, by simp, HR, World.grownBy.refl _ _, rfl⟩
  case round =>
    obtain ⟨k, hk, rfl, hr, hb, hs⟩ := hrel
    by_cases hlt : k < zs.length
    · have hL : ((zs.take k).map x5 ++ zs.drop k).length = zs.length := by simp; omega
      have hc := hr.out.cell k (by rw [List.length_append]; omega)
      rw [show (((zs.take k).map x5 ++ zs.drop k) ++ rest).getD k 0 = ((zs.take k).map x5 ++ zs.drop k).getD k 0 by simp only [List.getD]; rw [List.getElem?_append_left (by omega)], over_get zs k hlt] at hc
      have hf := hr.out.frozen k
      have this := hr.out.set k (x5 (zs.getD k 0))
      rw [List.set_append_left _ _ (by omega), over_round zs k hlt] at this
      generalize zs.getD k 0 = z at hc this
      have HT := hidden this
      clear this hL
      go_wp2
      refine ⟨⟨k + 1, by omega, by go_num, ?_, grown_trans hb (grown_setCell _ _ _ _), by simpa using hs⟩, by simp [intOf]; omega⟩
      exact HT
    · go_wp2
      go_end0
      refine ⟨rfl, ?_, hb, hs⟩
      have := hr.out
      rw [List.take_of_length_le (by omega), List.drop_of_length_le (by omega), List.append_nil] at this
      exact this

set_option maxHeartbeats 400000 in
theorem over_nil (w : World) : Calls Tryz.prog 33 #[.slice none 0 0] w fun e w' => e = .returned (.tuple #[]) ∧ w' = w := by
  go_enter Tryz.func33, Tryz.ntmps33
  go_wp2_with fail
  refine wp_loop_rounds 1 ?_
  rw [rounds_succ]
  go_wp2
  go_end0
  exact ⟨rfl, rfl⟩

theorem over_own (base : Nat) (v : Value) (zs sp : List Int) (w : World) (h : Own base w v zs sp) :
    Calls Tryz.prog 33 #[v] w fun e w' => e = .returned (.tuple #[]) ∧ Own base w' v (zs.map x5) (sp.map x5) ∧ w.grownBy w' v.ownBlock ∧ w'.heap.size = w.heap.size := by
  obtain ⟨h1, h2, h3, h4⟩ := h
  rcases h4 with ⟨rfl, rfl, rfl⟩ | ⟨g, rest, hg, rfl, hr⟩
  · refine (over_nil w).mono ?_
    rintro e w' ⟨rfl, rfl⟩
    exact ⟨rfl, Own.nil _ _, World.grownBy.refl _ _, rfl⟩
  · have := over_row g zs.length (zs ++ sp) rest w hr (by simpa using h3)
    rw [List.length_append] at this
    refine this.mono ?_
    rintro e w' ⟨rfl, hr', hg', hs'⟩
    refine ⟨rfl, ⟨h1.x5, h2.x5, by simpa using h3, .inr ⟨g, rest, hg, by simp, by simpa using hr'⟩⟩, hg', hs'⟩

end Go.Proofs.YtnnmfgnommbmkaaGreatDoor

namespace Go.Proofs.YtnnmfgnommbmkaaGreatDoor
set_option maxRecDepth 20000
open Go.RowKit

theorem one_reads (w : World) (z : Int) (h0 : 0 ≤ z) (h1 : z ≤ 255) : Reads (w.alloc (.cells #[.int .u8 z] 5)) (.slice (some ⟨w.heap.size, 0, none⟩) 1 1) [z] := by
  refine ⟨_, 1, rfl, Nat.le_refl _, fun h => by simp at h, ?_, fun _ => ⟨w.heap.size, 0, rfl, ?_⟩⟩
  · intro y hy
    simp at hy
    subst hy
    exact ⟨h0, h1⟩
  · intro i hi
    have hr : (w.alloc (.cells #[.int .u8 z] 5)).heap[w.heap.size]? = some (.cells #[.int .u8 z] 5 (0, 0)) := heap_alloc_new w _
    rw [cell_of_row _ _ _ _ _ _ hr]
    match i, hi with
    | 0, _ => rfl

theorem zero_hash : ∀ w, (zeroValue 25).run Tryz.prog w = .ok (.agg (B (List.replicate 32 0))) w := Tryz.zeroValue25
theorem size_hash : (Tryz.prog.info? 25).map (·.size) = some 32 := by kernel_rfl

def PadPost (zs : List Int) (w : World) (e : Ending) (w' : World) : Prop := ∃ v sp, e = .returned v ∧ Own w.heap.size w' v zs sp ∧ Below w.heap.size w w'

set_option maxHeartbeats 1000000 in
theorem padding_any (n : Nat) (w : World) (hn : n < 1152921504606846976) : Calls Tryz.prog 124 #[.int .i64 (n : Int)] w (PadPost (pad n) w) := by
  obtain ⟨q, hq⟩ : ∃ q, q = (119 - n % 64) % 64 := ⟨_, rfl⟩
  have HQ := hidden hq
  have q64 : q < 64 := by omega
  clear hq
  go_enter Tryz.func124, Tryz.ntmps124
  go_wp2_with (first | (at_make; refine wpList_mk _ rfl _ _ rfl _ _ _ _ (q + 1) (q + 9) rfl rfl (by have := HQ.out; omega) (by have := HQ.out; omega) (by omega) (by omega) ?_; intro w1 hr1 hb1 hs1; have hc0 := hr1.cell 0 (by simp); have hf0 := hr1.frozen 0; have i0 : (0 : Int) < ((q + 1 : Nat) : Int) := by omega))
  have HO : Hid (Own w.heap.size (w1.setCell ⟨w.heap.size, 0, none⟩ (.int .u8 128)) (.slice (some ⟨w.heap.size, 0, none⟩) (q + 1) (q + 9)) ((128 :: List.replicate q 0) ++ be8 (8 * (n : Int)) 0) (List.replicate 8 0)) := by
    have h1 := hr1.set 0 128
    have e : (List.replicate (q + 9) (0 : Int)).set 0 128 = ((128 :: List.replicate q 0) ++ be8 (8 * (n : Int)) 0) ++ List.replicate 8 0 := by
      rw [show q + 9 = (q + 8) + 1 by omega, List.replicate_succ, List.set_cons_zero, show List.replicate (q + 8) (0 : Int) = List.replicate q 0 ++ List.replicate 8 0 from (List.replicate_append_replicate).symm]
      simp [be8]
    rw [e] at h1
    have h2 := Own.mk (base := w.heap.size) (zs := (128 :: List.replicate q 0) ++ be8 (8 * (n : Int)) 0) (sp := List.replicate 8 0) (by intro z hz; simp [be8] at hz; rcases hz with rfl | ⟨_, rfl⟩ <;> omega) (Bytes.zeros 8) (by simp [be8, maxLen]; omega) (Nat.le_refl _) h1
    have e2 : ((128 :: List.replicate q 0) ++ be8 (8 * (n : Int)) 0).length = q + 1 := by simp [be8]
    rw [e2, show q + 1 + (List.replicate 8 (0 : Int)).length = q + 9 by simp] at h2
    exact h2
  have hb2 : Below w.heap.size w (w1.setCell ⟨w.heap.size, 0, none⟩ (.int .u8 128)) := setCell_below _ _ hb1 (Nat.le_refl _)
  clear hr1 hb1 hs1 hc0 hf0
  go_loopw [4, 6] (fun v i wr => ∃ (j : Nat) (a : Option Addr) (c : Nat) (sp : List Int), j ≤ 8 ∧ i = .int .i64 (56 - 8 * (j : Int)) ∧ v = .slice a (q + 1 + j) c ∧ Hid (Own w.heap.size wr (.slice a (q + 1 + j) c) ((128 :: List.replicate q 0) ++ be8 (8 * (n : Int)) j) sp) ∧ Below w.heap.size w wr) (fun _ i _ => (intOf i + 8).toNat)
  case atStart => exact ⟨0, _, _, _, by omega, rfl, rfl, HO, hb2⟩
  case round =>
    clear HO hb2
    obtain ⟨j, a, c, sp, hj, rfl, rfl, hO, hbl⟩ := hrel
    by_cases hlt : j < 8
    · obtain ⟨s, hs⟩ : ∃ s : Nat, 56 - 8 * (j : Int) = (s : Int) := ⟨56 - 8 * j, by omega⟩
      have HS : Hid (s = 56 - 8 * j) := by show s = _; omega
      have s0 : (0 : Int) ≤ (s : Int) := by omega
      have s1 : (s : Int) < 64 := by omega
      rw [hs]
      have HE : Hid (be8 (8 * (n : Int)) (j + 1) = be8 (8 * (n : Int)) j ++ [(n : Int) * 8 / 2 ^ s % 256]) := by
        show _ = _
        rw [be8, HS.out, show 8 * (7 - j) = 56 - 8 * j by omega, Int.mul_comm]
      have HLen : Hid (((128 :: List.replicate q 0) ++ be8 (8 * (n : Int)) j).length = q + 1 + j) := by
        show _ = _
        simp [be8_length]
        omega
      have z0 : 0 ≤ (n : Int) * 8 / 2 ^ s % 256 := by omega
      have z1 : (n : Int) * 8 / 2 ^ s % 256 ≤ 255 := by omega
      clear hs
      go_wp2_with (at_builtin; refine wpList_app _ rfl _ _ rfl w.heap.size _ _ ((128 :: List.replicate q 0) ++ be8 (8 * (n : Int)) j) sp [(n : Int) * 8 / 2 ^ s % 256] (hO.out.grow (grow_alloc _ _)) (one_reads _ _ z0 z1) rfl rfl (by rw [HLen.out]; simp; omega) (by have := hbl.size; simp; omega) ?_; intro v' w' sp' h1 h2 h3 h4)
      obtain ⟨a', c', hv'⟩ := h1.slice
      have hv2 : v' = .slice a' (q + 1 + (j + 1)) c' := by
        rw [hv', List.length_append, HLen.out]
        rfl
      subst hv2
      rw [List.append_assoc, ← HE.out] at h1
      have hb' : Below w.heap.size w w' := (hbl.trans ((grow_alloc wr _).mono hbl.size)).grown h2 (by have := hbl.size; simp; omega) (fun k hk => (hO.out.lt k hk).1)
      refine ⟨⟨j + 1, a', c', sp', by omega, ?_, rfl, h1, hb'⟩, ?_⟩
      · have := HS.out
        congr 1
        omega
      · have := HS.out
        simp [intOf]
        omega
    · obtain rfl : j = 8 := by omega
      rw [show (56 : Int) - 8 * ((8 : Nat) : Int) = -8 from rfl]
      go_wp2
      go_ret
      refine ⟨_, sp, rfl, ?_, hbl⟩
      have := hO.out
      rw [pad, ← HQ.out]
      exact this

theorem out_take (ws : List Int) (k : Nat) (hk : k < ws.length) : out (ws.take (k + 1)) = out (ws.take k) ++ [ws.getD k 0 / 16777216 % 256, ws.getD k 0 / 65536 % 256, ws.getD k 0 / 256 % 256, ws.getD k 0 % 256] := by
  unfold out
  rw [List.take_succ_eq_append_getElem hk, List.flatMap_append]
  simp [List.getD, hk]

theorem four_set (p : List Int) (m : Nat) (a b c d : Int) : ((((p ++ List.replicate (m + 4) 0).set p.length a).set (p.length + 1) b).set (p.length + 2) c).set (p.length + 3) d = p ++ [a, b, c, d] ++ List.replicate m 0 := by
  rw [show List.replicate (m + 4) (0 : Int) = 0 :: 0 :: 0 :: 0 :: List.replicate m 0 from rfl]
  simp

set_option maxHeartbeats 1000000 in
theorem bytesOf_any (ws : List Int) (w : World) (hw : ws.length = 8) : Calls Tryz.prog 125 #[.agg (U ws)] w fun e w' => e = .returned (.agg (B (out ws))) ∧ Below w.heap.size w w' := by
  have HW := hidden hw
  have SZ : Hid ((U ws).size = 8) := by rw [U_size]; exact hw
  clear hw
  go_enter Tryz.func125, Tryz.ntmps125
  go_wp2_with (first | (refine wpList_bx _ rfl _ _ rfl _ rfl ?_; intro w1 g1 hg1 hl1 B1 b1) | (have hh2 := hl2; clear hh2; refine wpList_al _ rfl _ rfl _ zero_hash ?_; intro w3 g3 hg3 hl3 B3 b3; have BB1 := (B1.grow b2).grow b3) | (refine wpList_al _ rfl _ rfl _ zero_hash ?_; intro w2 g2 hg2 hl2 B2 b2) | (refine wpList_ld _ rfl _ _ rfl g1 _ rfl BB1 8 _ Tryz.underlying171 (by rw [SZ.out]; exact size_w8) ?_))
  have s1 := b1.size
  have s2 := b2.size
  have s3 := b3.size
  have HB2 := hidden (B2.grow b3)
  have HB3 : Hid (Blk w3 g3 25 (B (out (ws.take 0) ++ List.replicate (32 - 4 * 0) 0))) := B3
  have hbl := (b1.trans (b2.mono s1)).trans (b3.mono (Nat.le_trans s1 s2))
  clear B1 B2 B3 b1 b2 b3 BB1
  have n2 : g2 ≠ g3 := by omega
  have n3 : w.heap.size ≤ g3 := by omega
  have n4 : w.heap.size ≤ g2 := by omega
  clear hg1 hg2 hg3 hl1 hl2 hl3 s1 s2 s3
  go_loopw [7] (fun i wr => ∃ k : Nat, k ≤ 8 ∧ i = .int .i64 k ∧ Hid (Blk wr g2 25 (B (List.replicate 32 0))) ∧ Hid (Blk wr g3 25 (B (out (ws.take k) ++ List.replicate (32 - 4 * k) 0))) ∧ Below w.heap.size w wr) (fun i _ => 8 - (intOf i).toNat)
  case atStart => exact ⟨0, by omega, rfl, HB2, HB3, hbl⟩
  case round =>
    clear HB2 HB3 hbl
    obtain ⟨k, hk, rfl, hB2, hB3, hbl⟩ := hrel
    by_cases hlt : k < 8
    · have hix := index_w8 ws k HW.out hlt
      have hlen : (out (ws.take k)).length = 4 * k := by rw [out_length, List.length_take, HW.out]; omega
      have hc : ∀ i : Nat, i < 32 → ∃ z, wr.cell? ⟨g3, i, none⟩ = some (.int .u8 z) := fun i hi => ⟨_, hB3.out.bcell i (by simp [hlen]; omega)⟩
      obtain ⟨y0, c0⟩ := hc (4 * k) (by omega)
      obtain ⟨y1, c1⟩ := hc (4 * k + 1) (by omega)
      obtain ⟨y2, c2⟩ := hc (4 * k + 2) (by omega)
      obtain ⟨y3, c3⟩ := hc (4 * k + 3) (by omega)
      have f0 := hB3.out.frozen (4 * k)
      have f1 := hB3.out.frozen (4 * k + 1)
      have f2 := hB3.out.frozen (4 * k + 2)
      have f3 := hB3.out.frozen (4 * k + 3)
      have k0 : (0 : Int) ≤ (k : Int) := by omega
      have k1 : (k : Int) < 8 := by omega
      have j0 : 4 * (k : Int) < 32 := by omega
      have j1 : 4 * (k : Int) + 1 < 32 := by omega
      have j2 : 4 * (k : Int) + 2 < 32 := by omega
      have j3 : 4 * (k : Int) + 3 < 32 := by omega
      have n0 : (0 : Int) ≤ 4 * (k : Int) := by omega
      have n1' : (0 : Int) ≤ 4 * (k : Int) + 1 := by omega
      have n2' : (0 : Int) ≤ 4 * (k : Int) + 2 := by omega
      have n3' : (0 : Int) ≤ 4 * (k : Int) + 3 := by omega
      have r0 : IntKind.i64.wrap (4 * (k : Int)) = 4 * (k : Int) := by rw [IntKind.wrap_i64]; omega
      have r1 : IntKind.i64.wrap (4 * (k : Int) + 1) = 4 * (k : Int) + 1 := by rw [IntKind.wrap_i64]; omega
      have r2 : IntKind.i64.wrap (4 * (k : Int) + 2) = 4 * (k : Int) + 2 := by rw [IntKind.wrap_i64]; omega
      have r3 : IntKind.i64.wrap (4 * (k : Int) + 3) = 4 * (k : Int) + 3 := by rw [IntKind.wrap_i64]; omega
      have e0 : (4 * (k : Int)).toNat = 4 * k := by omega
      have e1 : (4 * (k : Int) + 1).toNat = 4 * k + 1 := by omega
      have e2 : (4 * (k : Int) + 2).toNat = 4 * k + 2 := by omega
      have e3 : (4 * (k : Int) + 3).toNat = 4 * k + 3 := by omega
      have HT := hidden (out_take ws k (by have := HW.out; omega))
      have HF := hidden (four_set (out (ws.take k)) (32 - 4 * (k + 1)))
      have HLn := hidden hlen
      clear hc hlen
      generalize ws.getD k 0 = x at *
      have HN : Hid (∀ a b c d : Int, ((((out (ws.take k) ++ List.replicate (32 - 4 * k) 0).set (4 * k) a).set (4 * k + 1) b).set (4 * k + 2) c).set (4 * k + 3) d = out (ws.take k) ++ [a, b, c, d] ++ List.replicate (32 - 4 * (k + 1)) 0) := by
        intro a b c d
        have := HF.out a b c d
        rw [HLn.out, show 32 - 4 * (k + 1) + 4 = 32 - 4 * k by omega] at this
        exact this
      go_wp2_with fail
      have hn := (((hB3.out.set (4 * k) (.int .u8 (x / 16777216 % 256))).set (4 * k + 1) (.int .u8 (x / 65536 % 256))).set (4 * k + 2) (.int .u8 (x / 256 % 256))).set (4 * k + 3) (.int .u8 (x % 256))
      rw [B_set, B_set, B_set, B_set, HN.out, ← HT.out] at hn
      exact ⟨⟨k + 1, by omega, by go_num, (((hB2.out.other _ _ n2).other _ _ n2).other _ _ n2).other _ _ n2, hn, setCell_below _ _ (setCell_below _ _ (setCell_below _ _ (setCell_below _ _ hbl n3) n3) n3) n3⟩, by simp [intOf]; omega⟩
    · obtain rfl : k = 8 := by omega
      have HF : Hid (Blk wr g3 25 (B (out ws))) := by
        have : Blk wr g3 25 (B (out (ws.take 8) ++ List.replicate (32 - 4 * 8) 0)) := hB3.out
        rw [List.take_of_length_le (by have := HW.out; omega), show 32 - 4 * 8 = 0 from rfl, List.replicate_zero, List.append_nil] at this
        exact this
      have HS : Hid ((B (out ws)).size = 32) := by rw [B_size, out_length, HW.out]; exact rfl
      go_wp2_with (first | (refine wpList_ld _ rfl _ _ rfl g3 _ rfl HF.out 32 _ Tryz.underlying25 (by rw [HS.out]; exact size_hash) ?_) | (refine wpList_sto _ rfl _ _ _ rfl g2 _ _ rfl rfl hB2.out (by rw [HS.out]; exact size_hash) (by rw [HS.out, B_size]; simp) (B_one _) ?_; intro wZ BZ gZ))
      exact bodyPost_ret (v := .agg (B (out ws))) (results_cell_row rfl _ _ g2 _ _ _ _ rfl BZ Tryz.underlying25 rfl (by rw [HS.out]; exact size_hash)) rfl ⟨rfl, below_row hbl gZ n4⟩

end Go.Proofs.YtnnmfgnommbmkaaGreatDoor

namespace Go.Proofs.YtnnmfgnommbmkaaGreatDoor
set_option maxRecDepth 20000
open Go.RowKit

theorem run_copy_blk {ops : Array Oper} {o : Oper} {a : Act} {K : Act → World → Prop} {Q : Exit → Act → World → Prop} {E : Prop} (w : World) (hgd : o.guard = none) (d s : Operand)
    (hop : o.op = .call { callee := .builtin .copy, args := #[d, s], argTypes := #[36, 36] })
    (g off dl dc : Nat) (cur : Array Value) (t : TypeId) (ys : List Int) (sv : Value) (hr : Blk w g t cur) (hs : Reads w sv ys) (hd : a.eval d = .slice (some ⟨g, off, none⟩) dl dc) (hx : a.eval s = sv) (m : Nat) (hm : m = min ys.length dl) (hpos : 0 < m) (hfit : off + m ≤ cur.size)
    (h : ∀ w', Blk w' g t (cur.toList.take off ++ ((ys.take m).map (Value.int .u8) ++ cur.toList.drop (off + m))).toArray → w.grownBy w' (some g) → w'.heap.size = w.heap.size → K (a.put o.dst (.int .i64 (m : Nat))) w') :
    if Region.wanted o (yielded ops a.tmps) = true then Oper.wp Tryz.prog o a w K Q else E := by
  have hw : Region.wanted o (yielded ops a.tmps) = true := by simp [Region.wanted, hgd]
  rw [if_pos hw]
  have hs' := hs
  obtain ⟨sa, sc, rfl, h1, h2, h3, h4⟩ := hs'
  obtain ⟨b, o', rfl, hc⟩ := h4 (by omega)
  have hlen : ((ys.take m).map (Value.int .u8)).length = Nat.min ys.length dl := by
    have : Nat.min ys.length dl = min ys.length dl := rfl
    rw [this, List.length_map, List.length_take]
    omega
  have hl2 : ((ys.take m).map (Value.int .u8)).length = m := by rw [List.length_map, List.length_take]; omega
  have hsrc : ∀ j v, ((ys.take m).map (Value.int .u8))[j]? = some v → w.cell? ((⟨b, o', none⟩ : Addr).add j) = some v := by
    intro j v hv
    refine (hs.cells rfl).2 j v ?_
    have hj := (List.getElem?_eq_some_iff.1 hv).1
    rw [hl2] at hj
    rw [List.map_take, List.getElem?_take, if_pos (by omega)] at hv
    exact hv
  have hone := ints_oneCell .u8 (ys.take m)
  generalize (ys.take m).map (Value.int .u8) = cs at *
  have hrun := run_copy_row (P := Tryz.prog) w 36 36 o.type 5 g off dl dc ⟨b, o', none⟩ ys.length sc cur t cs u_bytes size_byte hr hlen hsrc (by omega) hone
  rw [hl2] at hrun
  unfold Oper.wp
  simp [execOp, hop, resolve, invoke, builtin, hd, hx, hrun, Result.andThen]
  exact h _ (setRow_heap w g _ _ _ _ hr) ⟨rfl, rfl, rfl, by simp, fun k _ hk => setRow_other w g k _ (fun e => hk (by simp [e]))⟩ (by simp)

theorem Blk.cells {g : Nat} {t : TypeId} : ∀ (vs : List Value) (o : Nat) {w : World} {cs : Array Value}, Blk w g t cs → o + vs.length ≤ cs.size →
    Blk (w.setCells g o vs) g t (cs.toList.take o ++ (vs ++ cs.toList.drop (o + vs.length))).toArray
  | [], o, w, cs, h, _ => by
    have : (cs.toList.take o ++ ([] ++ cs.toList.drop (o + ([] : List Value).length))).toArray = cs := by simp
    rw [this]
    exact h
  | v :: vs, o, w, cs, h, hf => by
    have h1 := Blk.cells vs (o + 1) (h.set o v) (by simp at hf ⊢; omega)
    have e : ((cs.setIfInBounds o v).toList.take (o + 1) ++ (vs ++ (cs.setIfInBounds o v).toList.drop (o + 1 + vs.length))).toArray = (cs.toList.take o ++ ((v :: vs) ++ cs.toList.drop (o + (v :: vs).length))).toArray := by
      congr 1
      simp only [Array.toList_setIfInBounds, List.length_cons]
      have ho : o < cs.toList.length := by simp at hf ⊢; omega
      rw [List.take_set, List.drop_set, if_pos (by omega), show o + 1 + vs.length = o + (vs.length + 1) by omega, List.take_succ_eq_append_getElem ho, List.set_append_right _ _ (by rw [List.length_take]; exact Nat.min_le_left _ _), List.length_take, Nat.min_eq_left (Nat.le_of_lt ho), Nat.sub_self, List.set_cons_zero]
      simp
    rw [e] at h1
    exact h1

theorem Cs_toList (ws bk : List Int) (c : Int) (m : Bool) : (Cs ws bk c m).toList = ws.map (Value.int .u32) ++ (bk.map (Value.int .u8) ++ [Value.int .i64 c, Value.bool m]) := by simp [Cs]
theorem Cs_words (ws ws' bk : List Int) (c : Int) (m : Bool) (h : ws.length = ws'.length) : ((Cs ws bk c m).toList.take 0 ++ ((ws'.map (Value.int .u32)) ++ (Cs ws bk c m).toList.drop (0 + (ws'.map (Value.int .u32)).length))).toArray = Cs ws' bk c m := by
  rw [Cs_toList]
  have : 0 + (ws'.map (Value.int .u32)).length = (ws.map (Value.int .u32)).length := by simp [h]
  rw [this]
  simp [Cs]
theorem Cs_count (ws bk : List Int) (c d : Int) (m : Bool) (hw : ws.length = 8) (hb : bk.length = 64) : (Cs ws bk c m).setIfInBounds 72 (.int .i64 d) = Cs ws bk d m := by
  apply Array.ext'
  rw [Array.toList_setIfInBounds, Cs_toList, Cs_toList, List.set_append_right _ _ (by simp [hw]), List.set_append_right _ _ (by simp [hw, hb])]
  simp [hw, hb]
theorem Cs_block (ws bk ys : List Int) (c : Int) (m : Bool) (f n : Nat) (hw : ws.length = 8) (hb : bk.length = 64) (hf : f + n ≤ 64) : ((Cs ws bk c m).toList.take (8 + f) ++ (ys.map (Value.int .u8) ++ (Cs ws bk c m).toList.drop (8 + f + n))).toArray = Cs ws (bk.take f ++ ys ++ bk.drop (f + n)) c m := by
  rw [Cs_toList]
  have e1 : (ws.map (Value.int .u32) ++ (bk.map (Value.int .u8) ++ [Value.int .i64 c, Value.bool m])).take (8 + f) = ws.map (Value.int .u32) ++ (bk.take f).map (Value.int .u8) := by
    rw [List.take_append, List.take_of_length_le (by simp; omega)]
    simp [hw, List.take_append, hb, show f - 64 = 0 by omega, List.map_take]
  have e2 : (ws.map (Value.int .u32) ++ (bk.map (Value.int .u8) ++ [Value.int .i64 c, Value.bool m])).drop (8 + f + n) = (bk.drop (f + n)).map (Value.int .u8) ++ [Value.int .i64 c, Value.bool m] := by
    rw [List.drop_append, List.drop_of_length_le (by simp; omega)]
    simp [hw, List.drop_append, hb, show 8 + f + n - 8 = f + n by omega, show f + n - 64 = 0 by omega, List.map_drop]
  rw [e1, e2]
  simp [Cs, List.append_assoc]

def Txt (w : World) (g : Nat) (l : List Int) : Prop := ∃ bk, St w g (eat l (l.length / 64)) bk (l.length : Int) ∧ bk.take (l.length % 64) = l.drop (64 * (l.length / 64)) ∧ Bytes l
theorem Txt.grow {w w' : World} {g : Nat} {l : List Int} (h : Txt w g l) (hb : Below w.heap.size w w') : Txt w' g l := by
  obtain ⟨bk, h1, h2⟩ := h
  exact ⟨bk, h1.grow hb, h2⟩
theorem Txt.lt {w : World} {g : Nat} {l : List Int} (h : Txt w g l) : g < w.heap.size := by
  obtain ⟨bk, h1, _⟩ := h
  exact h1.1.lt

theorem some_part (l bk ys : List Int) (f n : Nat) (hf : f = l.length % 64) (hn : ys.length = n) (hb : bk.length = 64) (h : bk.take f = l.drop (64 * (l.length / 64))) (hlt : f + n < 64) :
    eat (l ++ ys) ((l ++ ys).length / 64) = eat l (l.length / 64) ∧ (bk.take f ++ ys ++ bk.drop (f + n)).take ((l ++ ys).length % 64) = (l ++ ys).drop (64 * ((l ++ ys).length / 64)) := by
  have e1 : (l ++ ys).length / 64 = l.length / 64 := by rw [List.length_append]; omega
  have e2 : (l ++ ys).length % 64 = f + n := by rw [List.length_append]; omega
  rw [e1, e2]
  refine ⟨eat_append l ys _ (by omega), ?_⟩
  rw [List.drop_append_of_le_length (by omega), ← h, List.take_left' (by simp; omega)]

theorem whole_part (l bk ys : List Int) (f n : Nat) (hf : f = l.length % 64) (hn : ys.length = n) (hb : bk.length = 64) (h : bk.take f = l.drop (64 * (l.length / 64))) (hlt : f + n = 64) :
    eat (l ++ ys) ((l ++ ys).length / 64) = stp (eat l (l.length / 64)) (bk.take f ++ ys ++ bk.drop (f + n)) ∧ (bk.take f ++ ys ++ bk.drop (f + n)).take ((l ++ ys).length % 64) = (l ++ ys).drop (64 * ((l ++ ys).length / 64)) := by
  have e1 : (l ++ ys).length / 64 = l.length / 64 + 1 := by rw [List.length_append]; omega
  have e2 : (l ++ ys).length % 64 = 0 := by rw [List.length_append]; omega
  have e3 : bk.drop (f + n) = [] := List.drop_of_length_le (by omega)
  rw [e1, e2, e3, List.append_nil]
  refine ⟨?_, ?_⟩
  · simp only [eat]
    rw [eat_append l ys _ (by omega), List.drop_append_of_le_length (by omega), ← h, List.take_of_length_le (by simp; omega)]
  · rw [List.take_zero, List.drop_of_length_le (by rw [List.length_append]; omega)]

end Go.Proofs.YtnnmfgnommbmkaaGreatDoor
