/- A slab of things of type store.cell that a walk keeps: in whatever blocks of the walk's own it lies. -/
import Derived.Test.YtgfdgjkbcdmboabGreatDoorLk10
import Derived.Test.YtgfdgjkbcdmboabGreatDoorProg
import Derived.Test.YtgfdgjkbcdmboabGreatDoorLk04
import Derived.BigQuiet
import Derived.Deep.RegionHeld2
namespace Go.Proofs.YtgfdgjkbcdmboabGreatDoor
set_option maxRecDepth 20000
open Go.RowKit

/-- The slab at g is in this state, all its blocks are new since w0, and nothing of w0 has turned. -/
def HsC (w0 w : World) (g room : Nat) (ps : List Pl) (fr : List Nat) : Prop := ∃ vp vf, SlC w g vp vf room ps fr ∧ (∀ k ∈ slB g vp vf, w0.heap.size ≤ k) ∧ Below w0.heap.size w0 w

theorem HsC.low {w0 w : World} {g room : Nat} {ps : List Pl} {fr : List Nat} (h : HsC w0 w g room ps fr) : Below w0.heap.size w0 w := by
  obtain ⟨_, _, _, _, h⟩ := h
  exact h

theorem HsC.inv {w0 w : World} {g room : Nat} {ps : List Pl} {fr : List Nat} (h : HsC w0 w g room ps fr) : Inv room ps fr := by
  obtain ⟨_, _, h, _, _⟩ := h
  exact h.inv

theorem HsC.grow {w0 w w' : World} {g room : Nat} {ps : List Pl} {fr : List Nat} (h : HsC w0 w g room ps fr) (hb : Below w.heap.size w w') : HsC w0 w' g room ps fr := by
  obtain ⟨vp, vf, h1, h2, h3⟩ := h
  exact ⟨vp, vf, h1.mod (Mod.of_below hb []) (fun _ _ h => by cases h), h2, h3.trans (hb.mono h3.size)⟩

/-- A call that turns it. -/
theorem HsC.use {w0 w : World} {g room : Nat} {ps ps' : List Pl} {fr fr' : List Nat} {f : FuncId} {args : Array Value} {E : Value} (h : HsC w0 w g room ps fr)
    (hc : ∀ vp vf, SlC w g vp vf room ps fr → Calls Tryz.prog f args w fun e w' => e = .returned E ∧ TurnC w g (slB g vp vf) room ps' fr' w') : Calls Tryz.prog f args w fun e w' => e = .returned E ∧ HsC w0 w' g room ps' fr' := by
  obtain ⟨vp, vf, h1, h2, h3⟩ := h
  refine (hc vp vf h1).mono ?_
  rintro e w' ⟨rfl, vp', vf', k1, k2, k3⟩
  exact ⟨rfl, vp', vf', k1, k3.base h2 h3.size, h3.trans (k2.below h2 h3.size)⟩

/-- A call that leaves it. -/
theorem HsC.look {w0 w : World} {g room : Nat} {ps : List Pl} {fr : List Nat} {f : FuncId} {args : Array Value} {E : Value} (h : HsC w0 w g room ps fr)
    (hc : ∀ vp vf, SlC w g vp vf room ps fr → Calls Tryz.prog f args w fun e w' => e = .returned E ∧ Below w.heap.size w w') : Calls Tryz.prog f args w fun e w' => e = .returned E ∧ HsC w0 w' g room ps fr := by
  obtain ⟨vp, vf, h1, h2, h3⟩ := h
  refine (hc vp vf h1).mono ?_
  rintro e w' ⟨rfl, hb⟩
  exact ⟨rfl, HsC.grow ⟨vp, vf, h1, h2, h3⟩ hb⟩

theorem calls_sameC {w : World} {f : FuncId} {args : Array Value} {E : Value} (hc : Calls Tryz.prog f args w fun e w' => e = .returned E ∧ w' = w) : Calls Tryz.prog f args w fun e w' => e = .returned E ∧ Below w.heap.size w w' := hc.mono (fun _ _ ⟨h1, h2⟩ => ⟨h1, h2 ▸ Below.refl _ _⟩)

end Go.Proofs.YtgfdgjkbcdmboabGreatDoor

/- The small functions of sha, and of the document's answer, on words, as contracts. -/
namespace Go.Proofs.YtgfdgjkbcdmboabGreatDoor
set_option maxRecDepth 20000
open Go.RowKit

set_option maxHeartbeats 400000 in
theorem turn_any (x n : Int) (w : World) (h0 : 0 < n) (h : n < 32) :
    Calls Tryz.prog 212 #[.int .u32 x, .int .u64 n] w fun e w' => e = .returned (.int .u32 (rot x n)) ∧ w' = w := by
  go_enter Tryz.func212, Tryz.ntmps212
  go_wp2
  go_ret
  exact ⟨rfl, rfl⟩

set_option maxHeartbeats 400000 in
theorem choose_any (x y z : Int) (w : World) :
    Calls Tryz.prog 206 #[.int .u32 x, .int .u32 y, .int .u32 z] w fun e w' => e = .returned (.int .u32 (chs x y z)) ∧ w' = w := by
  have hs : IntKind.u32.signed = false := rfl
  go_enter Tryz.func206, Tryz.ntmps206
  go_wp2
  go_ret
  exact ⟨rfl, rfl⟩

set_option maxHeartbeats 400000 in
theorem majority_any (x y z : Int) (w : World) :
    Calls Tryz.prog 208 #[.int .u32 x, .int .u32 y, .int .u32 z] w fun e w' => e = .returned (.int .u32 (maj x y z)) ∧ w' = w := by
  go_enter Tryz.func208, Tryz.ntmps208
  go_wp2
  go_ret
  exact ⟨rfl, rfl⟩

set_option maxHeartbeats 400000 in
theorem mixLower_any (x : Int) (w : World) :
    Calls Tryz.prog 205 #[.int .u32 x] w fun e w' => e = .returned (.int .u32 (big1 x)) ∧ w' = w := by
  go_enter Tryz.func205, Tryz.ntmps205
  go_wp2_with (go_at_call 212; refine (turn_any _ _ _ (by omega) (by omega)).mono ?_; rintro e w' ⟨rfl, rfl⟩)
  go_ret
  exact ⟨rfl, rfl⟩

set_option maxHeartbeats 400000 in
theorem mixUpper_any (x : Int) (w : World) :
    Calls Tryz.prog 207 #[.int .u32 x] w fun e w' => e = .returned (.int .u32 (big0 x)) ∧ w' = w := by
  go_enter Tryz.func207, Tryz.ntmps207
  go_wp2_with (go_at_call 212; refine (turn_any _ _ _ (by omega) (by omega)).mono ?_; rintro e w' ⟨rfl, rfl⟩)
  go_ret
  exact ⟨rfl, rfl⟩

set_option maxHeartbeats 400000 in
theorem mixEarly_any (x : Int) (w : World) :
    Calls Tryz.prog 211 #[.int .u32 x] w fun e w' => e = .returned (.int .u32 (sm0 x)) ∧ w' = w := by
  go_enter Tryz.func211, Tryz.ntmps211
  go_wp2_with (go_at_call 212; refine (turn_any _ _ _ (by omega) (by omega)).mono ?_; rintro e w' ⟨rfl, rfl⟩)
  go_ret
  exact ⟨rfl, rfl⟩

set_option maxHeartbeats 400000 in
theorem mixLate_any (x : Int) (w : World) :
    Calls Tryz.prog 210 #[.int .u32 x] w fun e w' => e = .returned (.int .u32 (sm1 x)) ∧ w' = w := by
  go_enter Tryz.func210, Tryz.ntmps210
  go_wp2_with (go_at_call 212; refine (turn_any _ _ _ (by omega) (by omega)).mono ?_; rintro e w' ⟨rfl, rfl⟩)
  go_ret
  exact ⟨rfl, rfl⟩

theorem u32_or_nat (a b : Nat) (ha : a < 4294967296) (hb : b < 4294967296) : bits .or .u32 (a : Int) (b : Int) = ((a ||| b : Nat) : Int) := by
  have hx : a ||| b < 2 ^ 32 := Nat.or_lt_two_pow (by omega) (by omega)
  show IntKind.u32.wrap ((BitVec.ofInt 32 (a : Int) ||| BitVec.ofInt 32 (b : Int)).toNat : Int) = _
  have e : ∀ c : Nat, c < 4294967296 → (BitVec.ofInt 32 (c : Int)).toNat = c := by
    intro c hc
    rw [BitVec.toNat_ofInt]
    omega
  rw [BitVec.toNat_or, e a ha, e b hb]
  show (((a ||| b : Nat) : Int)) % 4294967296 = _
  omega

theorem u32_join (i : Nat) (a b : Int) (h1 : 0 ≤ a) (h2 : a < 4294967296) (h3 : 0 ≤ b) (h4 : b < 2 ^ i) (h5 : b < 4294967296) (hm : a.toNat % 2 ^ i = 0) : bits .or .u32 a b = a + b := by
  obtain ⟨A, rfl⟩ := Int.eq_ofNat_of_zero_le h1
  obtain ⟨B, rfl⟩ := Int.eq_ofNat_of_zero_le h3
  rw [u32_or_nat A B (by omega) (by omega), nat_join i A B (by simpa using hm) (by exact_mod_cast h4)]
  simp

theorem word_num (a b c d : Int) (ha : 0 ≤ a ∧ a ≤ 255) (hb : 0 ≤ b ∧ b ≤ 255) (hc : 0 ≤ c ∧ c ≤ 255) (hd : 0 ≤ d ∧ d ≤ 255) :
    bits .or .u32 (bits .or .u32 (bits .or .u32 (a * 16777216) (b * 65536)) (c * 256)) d = a * 16777216 + b * 65536 + c * 256 + d := by
  rw [u32_join 24 (a * 16777216) (b * 65536) (by omega) (by omega) (by omega) (by omega) (by omega) (by omega),
    u32_join 16 _ (c * 256) (by omega) (by omega) (by omega) (by omega) (by omega) (by omega),
    u32_join 8 _ d (by omega) (by omega) (by omega) (by omega) (by omega) (by omega)]

set_option maxHeartbeats 400000 in
theorem word_any (a b c d : Int) (w : World) (ha : 0 ≤ a ∧ a ≤ 255) (hb : 0 ≤ b ∧ b ≤ 255) (hc : 0 ≤ c ∧ c ≤ 255) (hd : 0 ≤ d ∧ d ≤ 255) :
    Calls Tryz.prog 209 #[.int .u8 a, .int .u8 b, .int .u8 c, .int .u8 d] w fun e w' => e = .returned (.int .u32 (a * 16777216 + b * 65536 + c * 256 + d)) ∧ w' = w := by
  have HE := hidden (word_num a b c d ha hb hc hd)
  go_enter Tryz.func209, Tryz.ntmps209
  go_wp2
  go_ret
  refine ⟨?_, rfl⟩
  rw [← HE.out]
  rfl

end Go.Proofs.YtgfdgjkbcdmboabGreatDoor

/- sha.schedule, as a contract: the 64 words of a block. -/
namespace Go.Proofs.YtgfdgjkbcdmboabGreatDoor
set_option maxRecDepth 20000
open Go.RowKit

theorem sch_set (b : List Int) (k : Nat) (hk : k < 64) : sch b (k + 1) ++ List.replicate (64 - (k + 1)) 0 = (sch b k ++ List.replicate (64 - k) 0).set k (nextWord b (sch b k) k) := by
  rw [show 64 - k = (64 - (k + 1)) + 1 by omega, List.replicate_succ, List.set_append_right _ _ (by rw [sch_length]; omega), sch_length, Nat.sub_self, List.set_cons_zero]
  simp [sch]

theorem getD_bytes {zs : List Int} (h : Bytes zs) (i : Nat) : 0 ≤ zs.getD i 0 ∧ zs.getD i 0 ≤ 255 := by
  by_cases hi : i < zs.length
  · exact h _ (by simp [List.getD, hi])
  · simp [List.getD, hi]

/-- The array of words while it is filled. -/
def Filled (w : World) (g : Nat) (b : List Int) (k : Nat) : Prop := Blk w g 251 (U (sch b k ++ List.replicate (64 - k) 0))
theorem Filled.cell {w : World} {g : Nat} {b : List Int} {k : Nat} (h : Filled w g b k) (i : Nat) (hi : i < k) : w.cell? ⟨g, i, none⟩ = some (.int .u32 ((sch b k).getD i 0)) := by
  rw [Blk.wcell h i (by have := sch_length b k; simp; omega)]
  simp [List.getD, List.getElem?_append_left (show i < (sch b k).length by rw [sch_length]; omega)]
theorem Filled.there {w : World} {g : Nat} {b : List Int} {k : Nat} (h : Filled w g b k) (hk : k < 64) : ∃ z, w.cell? ⟨g, k, none⟩ = some (.int .u32 z) := ⟨_, Blk.wcell h k (by have := sch_length b k; simp; omega)⟩
theorem Filled.next {w : World} {g : Nat} {b : List Int} {k : Nat} (h : Filled w g b k) (hk : k < 64) (z : Int) (hz : nextWord b (sch b k) k = z) : Filled (w.setCell ⟨g, k, none⟩ (.int .u32 z)) g b (k + 1) := by
  have := Blk.set h k (.int .u32 z)
  rw [U_set, ← hz, ← sch_set b k hk, hz] at this
  exact this

set_option maxHeartbeats 1000000 in
theorem schedule_any (bs : List Int) (w : World) (hb : Bytes bs) (hl : bs.length = 64) :
    Calls Tryz.prog 203 #[.agg (B bs)] w fun e w' => e = .returned (.agg (U (sch bs 64))) ∧ Below w.heap.size w w' := by
  have HB := hidden hb
  have HL := hidden hl
  clear hb hl
  go_enter Tryz.func203, Tryz.ntmps203
  go_wp2_with (first | (refine wpList_bx _ rfl _ _ rfl _ rfl ?_; intro w1 g1 hg1 hl1 B1 b1) | (have hh2 := hl2; clear hh2; refine wpList_al _ rfl _ rfl _ zero_w64 ?_; intro w3 g3 hg3 hl3 B3 b3) | (refine wpList_al _ rfl _ rfl _ zero_w64 ?_; intro w2 g2 hg2 hl2 B2 b2))
  have s1 := b1.size
  have s2 := b2.size
  have s3 := b3.size
  have HB1 := hidden ((B1.grow b2).grow b3)
  have HB2 := hidden (B2.grow b3)
  have HF : Hid (Filled w3 g3 bs 0) := B3
  have hbl := (b1.trans (b2.mono s1)).trans (b3.mono (Nat.le_trans s1 s2))
  clear B1 B2 B3 b1 b2 b3
  have n1 : g1 ≠ g3 := by omega
  have n2 : g2 ≠ g3 := by omega
  have n3 : w.heap.size ≤ g3 := by omega
  have n4 : w.heap.size ≤ g2 := by omega
  clear hg1 hg2 hg3 hl1 hl2 hl3 s1 s2 s3
  go_loopw [6] (fun i wr => ∃ k : Nat, k ≤ 16 ∧ i = .int .i64 k ∧ Hid (Blk wr g1 238 (B bs)) ∧ Hid (Blk wr g2 251 (U (List.replicate 64 0))) ∧ Hid (Filled wr g3 bs k) ∧ Below w.heap.size w wr) (fun i _ => 16 - (intOf i).toNat)
  case atStart => exact ⟨0, by omega, rfl, HB1, HB2, HF, hbl⟩
  case round =>
    clear HB1 HB2 HF hbl
    obtain ⟨k, hk, rfl, hb1, hb2, hb3, hbl⟩ := hrel
    by_cases hlt : k < 16
    · have hc : ∀ i : Nat, i < 64 → wr.cell? ⟨g1, i, none⟩ = some (.int .u8 (bs.getD i 0)) := fun i hi => hb1.out.bcell i (by have := HL.out; omega)
      have c0 := hc (4 * k) (by omega)
      have c1 := hc (4 * k + 1) (by omega)
      have c2 := hc (4 * k + 2) (by omega)
      have c3 := hc (4 * k + 3) (by omega)
      obtain ⟨z, hy⟩ := hb3.out.there (by omega)
      have hf := Blk.frozen hb3.out k
      have x0 := getD_bytes HB.out (4 * k)
      have x1 := getD_bytes HB.out (4 * k + 1)
      have x2 := getD_bytes HB.out (4 * k + 2)
      have x3 := getD_bytes HB.out (4 * k + 3)
      have k0 : (0 : Int) ≤ (k : Int) := by omega
      have k1 : (k : Int) < 64 := by omega
      have j0 : 4 * (k : Int) < 64 := by omega
      have j1 : 4 * (k : Int) + 1 < 64 := by omega
      have j2 : 4 * (k : Int) + 2 < 64 := by omega
      have j3 : 4 * (k : Int) + 3 < 64 := by omega
      have n0 : (0 : Int) ≤ 4 * (k : Int) := by omega
      have n1' : (0 : Int) ≤ 4 * (k : Int) + 1 := by omega
      have n2' : (0 : Int) ≤ 4 * (k : Int) + 2 := by omega
      have n3' : (0 : Int) ≤ 4 * (k : Int) + 3 := by omega
      have r0 : IntKind.i64.wrap (4 * (k : Int)) = 4 * (k : Int) := by rw [IntKind.wrap_i64]; omega
      have r1 : IntKind.i64.wrap (4 * (k : Int) + 1) = 4 * (k : Int) + 1 := by rw [IntKind.wrap_i64]; omega
      have r2 : IntKind.i64.wrap (4 * (k : Int) + 2) = 4 * (k : Int) + 2 := by rw [IntKind.wrap_i64]; omega
      have r3 : IntKind.i64.wrap (4 * (k : Int) + 3) = 4 * (k : Int) + 3 := by rw [IntKind.wrap_i64]; omega
      have e0 : (4 * (k : Int)).toNat = 4 * k := by omega
      have e1 : (4 * (k : Int) + 1).toNat = 4 * k + 1 := by omega
      have e2 : (4 * (k : Int) + 2).toNat = 4 * k + 2 := by omega
      have e3 : (4 * (k : Int) + 3).toNat = 4 * k + 3 := by omega
      have HE : Hid (nextWord bs (sch bs k) k = bs.getD (4 * k) 0 * 16777216 + bs.getD (4 * k + 1) 0 * 65536 + bs.getD (4 * k + 2) 0 * 256 + bs.getD (4 * k + 3) 0) := by
        show _ = _
        rw [nextWord, if_pos hlt]
      clear hc
      generalize bs.getD (4 * k) 0 = z0 at *
      generalize bs.getD (4 * k + 1) 0 = z1 at *
      generalize bs.getD (4 * k + 2) 0 = z2 at *
      generalize bs.getD (4 * k + 3) 0 = z3 at *
      go_wp2_with fail
      go_region_held2 (fun w' => w'.cell? ⟨g1, 4 * k, none⟩ = some (.int .u8 z0) ∧ w'.cell? ⟨g1, 4 * k + 1, none⟩ = some (.int .u8 z1) ∧ w'.cell? ⟨g1, 4 * k + 2, none⟩ = some (.int .u8 z2) ∧ w'.cell? ⟨g1, 4 * k + 3, none⟩ = some (.int .u8 z3))
        (first | (refine ⟨?_, ?_, ?_, ?_⟩ <;> first | assumption | (refine (cell_set_ne _ _ _ _ _ _ ?_).trans ?_ <;> assumption)))
        (first | (go_at_call 209; refine (word_any z0 z1 z2 z3 _ x0 x1 x2 x3).mono ?_; rintro e w7 ⟨rfl, rfl⟩))
      clear c0 c1 c2 c3 hy hf
      go_wp2
      exact ⟨⟨k + 1, by omega, by go_num, hb1.out.other _ _ n1, hb2.out.other _ _ n2, hb3.out.next (by omega) _ HE.out, (setCell_below _ _ hbl n3).drew⟩, by simp [intOf]; omega⟩
    · have hf16 : Hid (Filled wr g3 bs 16) := by
        have : k = 16 := by omega
        subst this
        exact hb3
      obtain ⟨kk, rfl⟩ : ∃ x, x = k := ⟨_, rfl⟩
      go_wp2_with fail
      go_loopw [5] (fun i wr => ∃ k : Nat, 16 ≤ k ∧ k ≤ 64 ∧ i = .int .i64 k ∧ Hid (Blk wr g2 251 (U (List.replicate 64 0))) ∧ Hid (Filled wr g3 bs k) ∧ Below w.heap.size w wr) (fun i _ => 64 - (intOf i).toNat)
      case atStart => exact ⟨16, by omega, by omega, rfl, hb2, hf16, hbl⟩
      case round =>
        clear hb1 hb2 hb3 hbl hf16 hk hlt
        obtain ⟨k, hk0, hk, rfl, hb2, hb3, hbl⟩ := hrel
        obtain ⟨w7, rfl⟩ : ∃ x, x = wr := ⟨_, rfl⟩
        by_cases hlt : k < 64
        · obtain ⟨k2, q2⟩ : ∃ k2 : Nat, (k : Int) - 2 = k2 := ⟨k - 2, by omega⟩
          obtain ⟨k7, q7⟩ : ∃ k7 : Nat, (k : Int) - 7 = k7 := ⟨k - 7, by omega⟩
          obtain ⟨k15, q15⟩ : ∃ k15 : Nat, (k : Int) - 15 = k15 := ⟨k - 15, by omega⟩
          obtain ⟨k16, q16⟩ : ∃ k16 : Nat, (k : Int) - 16 = k16 := ⟨k - 16, by omega⟩
          have c0 := hb3.out.cell k2 (by omega)
          have c1 := hb3.out.cell k7 (by omega)
          have c2 := hb3.out.cell k15 (by omega)
          have c3 := hb3.out.cell k16 (by omega)
          obtain ⟨z, hy⟩ := hb3.out.there hlt
          have hf := Blk.frozen hb3.out k
          have k0 : (0 : Int) ≤ (k : Int) := by omega
          have k1 : (k : Int) < 64 := by omega
          have j0 : (k2 : Int) < 64 := by omega
          have j1 : (k7 : Int) < 64 := by omega
          have j2 : (k15 : Int) < 64 := by omega
          have j3 : (k16 : Int) < 64 := by omega
          have n0 : (0 : Int) ≤ (k2 : Int) := by omega
          have n1' : (0 : Int) ≤ (k7 : Int) := by omega
          have n2' : (0 : Int) ≤ (k15 : Int) := by omega
          have n3' : (0 : Int) ≤ (k16 : Int) := by omega
          have r0' : IntKind.i64.wrap (k2 : Int) = (k2 : Int) := by rw [IntKind.wrap_i64]; omega
          have r1' : IntKind.i64.wrap (k7 : Int) = (k7 : Int) := by rw [IntKind.wrap_i64]; omega
          have r2' : IntKind.i64.wrap (k15 : Int) = (k15 : Int) := by rw [IntKind.wrap_i64]; omega
          have r3' : IntKind.i64.wrap (k16 : Int) = (k16 : Int) := by rw [IntKind.wrap_i64]; omega
          have m0 : k2 ≠ k := by omega
          have m1 : k7 ≠ k := by omega
          have m2 : k15 ≠ k := by omega
          have m3 : k16 ≠ k := by omega
          have HE : Hid (nextWord bs (sch bs k) k = ad (ad (ad (sm1 ((sch bs k).getD k2 0)) ((sch bs k).getD k7 0)) (sm0 ((sch bs k).getD k15 0))) ((sch bs k).getD k16 0)) := by
            show _ = _
            rw [nextWord, if_neg (by omega), show k - 2 = k2 by omega, show k - 7 = k7 by omega, show k - 15 = k15 by omega, show k - 16 = k16 by omega]
          generalize (sch bs k).getD k2 0 = z0 at *
          generalize (sch bs k).getD k7 0 = z1 at *
          generalize (sch bs k).getD k15 0 = z2 at *
          generalize (sch bs k).getD k16 0 = z3 at *
          go_wp2_with fail
          go_region_held2 (fun w' => w'.cell? ⟨g3, k2, none⟩ = some (.int .u32 z0) ∧ w'.cell? ⟨g3, k7, none⟩ = some (.int .u32 z1) ∧ w'.cell? ⟨g3, k15, none⟩ = some (.int .u32 z2) ∧ w'.cell? ⟨g3, k16, none⟩ = some (.int .u32 z3))
            (first | (refine ⟨?_, ?_, ?_, ?_⟩ <;> first | assumption | (refine (cell_set_off _ _ _ _ _ ?_).trans ?_ <;> assumption)))
            (first | (go_at_call 210; refine (mixLate_any z0 _).mono ?_; rintro e w8 ⟨rfl, rfl⟩) | (go_at_call 211; refine (mixEarly_any z2 _).mono ?_; rintro e w8 ⟨rfl, rfl⟩))
          clear c0 c1 c2 c3 hy hf
          go_wp2
          exact ⟨⟨k + 1, by omega, by omega, by go_num, hb2.out.other _ _ n2, hb3.out.next (by omega) _ HE.out, (setCell_below _ _ hbl n3).drew⟩, by simp [intOf]; omega⟩
        · obtain rfl : k = 64 := by omega
          have HF : Hid (Blk w7 g3 251 (U (sch bs 64))) := by
            have : Blk w7 g3 251 (U (sch bs 64 ++ List.replicate (64 - 64) 0)) := hb3.out
            rw [show 64 - 64 = 0 from rfl, List.replicate_zero, List.append_nil] at this
            exact this
          have HS : Hid ((U (sch bs 64)).size = 64) := by rw [U_size, sch_length]; exact rfl
          go_wp2_with (first | (refine wpList_ld _ rfl _ _ rfl g3 _ rfl HF.out 64 _ Tryz.underlying251 (by rw [HS.out]; exact size_w64) ?_) | (refine wpList_st _ rfl _ _ _ rfl g2 _ _ rfl rfl hb2.out (by rw [HS.out]; exact size_w64) (by rw [HS.out, U_size]; simp) (U_one _) ?_))
          exact bodyPost_ret (v := .agg (U (sch bs 64))) (results_cell_row rfl _ _ g2 _ _ _ _ rfl (hb2.out.row (U (sch bs 64))) Tryz.underlying251 rfl (by rw [HS.out]; exact size_w64)) rfl ⟨rfl, setRow_below _ hbl n4⟩

end Go.Proofs.YtgfdgjkbcdmboabGreatDoor
