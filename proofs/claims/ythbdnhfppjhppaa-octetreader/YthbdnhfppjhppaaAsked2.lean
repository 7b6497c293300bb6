/- The law's helper 'asked', walked: whatever call is asked for, it answers true and both readers stand alike behind it. -/
import Derived.Test.YthbdnhfppjhppaaAsked
namespace Go.Proofs.Ythbdnhfppjhppaa
open Go.RowKit
set_option linter.unusedVariables false

/-- What 'asked' leaves. -/
def AskPost (B b1 : Nat) (o1 : Option Nat) (b2 : Nat) (o2 : Option Nat) (w : World) (e : Ending) (w' : World) : Prop := e = .returned (.bool true) ∧ St b1 o1 b2 o2 w' ∧ Below B w w'

set_option maxHeartbeats 1000000 in
theorem ask_byte (B b1 : Nat) (o1 : Option Nat) (b2 : Nat) (o2 : Option Nat) (n : Int) (w : World) (h : St b1 o1 b2 o2 w) (hB1 : B ≤ b1) (hB2 : B ≤ b2) (hs : B ≤ w.heap.size) :
    Calls Try.prog 26 #[.pointer (some ⟨b1, 0, none⟩), .pointer (some ⟨b2, 0, none⟩), .agg #[.int .u8 0, .int .i64 n]] w (AskPost B b1 o1 b2 o2 w) := by
  have hb0 : Below B w (w.alloc (.cells #[.int .u8 0, .int .i64 n] 48)) := (Below.refl _ _).alloc hs _
  obtain ⟨x, hx0, hx1, hc⟩ := number_st 1 B b1 o1 b2 o2 _ (h.grow (grow_alloc w (.cells #[.int .u8 0, .int .i64 n] 48))) (by omega) (by omega) hB1 hB2 (by simp; omega)
  have HC := byte_of _ x _ (fun w1 => Next 1 B b1 o1 b2 o2 x w1 ∧ Below B (w.alloc (.cells #[.int .u8 0, .int .i64 n] 48)) w1) hc hx0 (by omega)
  have H := hidden HC
  have HB0 := hidden hb0
  clear h hc HC hb0
  go_enter Try.func26, Try.ntmps26
  go_wp2_with (first | (go_at_call 35; refine H.out.mono ?_; rintro e w1 ⟨rfl, hN, hB⟩) | (go_at_call 41; refine Calls.mono hN ?_; rintro e w2 ⟨rfl, hS, hC⟩))
  go_ret
  exact ⟨rfl, hS, (HB0.out.trans hB).trans hC⟩

set_option maxHeartbeats 1000000 in
theorem ask_u16 (B b1 : Nat) (o1 : Option Nat) (b2 : Nat) (o2 : Option Nat) (n : Int) (w : World) (h : St b1 o1 b2 o2 w) (hB1 : B ≤ b1) (hB2 : B ≤ b2) (hs : B ≤ w.heap.size) :
    Calls Try.prog 26 #[.pointer (some ⟨b1, 0, none⟩), .pointer (some ⟨b2, 0, none⟩), .agg #[.int .u8 1, .int .i64 n]] w (AskPost B b1 o1 b2 o2 w) := by
  have hb0 : Below B w (w.alloc (.cells #[.int .u8 1, .int .i64 n] 48)) := (Below.refl _ _).alloc hs _
  obtain ⟨x, hx0, hx1, hc⟩ := number_st 2 B b1 o1 b2 o2 _ (h.grow (grow_alloc w (.cells #[.int .u8 1, .int .i64 n] 48))) (by omega) (by omega) hB1 hB2 (by simp; omega)
  have HC := u16_of _ x _ (fun w1 => Next 2 B b1 o1 b2 o2 x w1 ∧ Below B (w.alloc (.cells #[.int .u8 1, .int .i64 n] 48)) w1) hc
  have H := hidden HC
  have HB0 := hidden hb0
  clear h hc HC hb0
  go_enter Try.func26, Try.ntmps26
  go_wp2_with (first | (go_at_call 33; refine H.out.mono ?_; rintro e w1 ⟨rfl, hN, hB⟩) | (go_at_call 41; refine Calls.mono hN ?_; rintro e w2 ⟨rfl, hS, hC⟩))
  go_ret
  exact ⟨rfl, hS, (HB0.out.trans hB).trans hC⟩

set_option maxHeartbeats 1000000 in
theorem ask_u32 (B b1 : Nat) (o1 : Option Nat) (b2 : Nat) (o2 : Option Nat) (n : Int) (w : World) (h : St b1 o1 b2 o2 w) (hB1 : B ≤ b1) (hB2 : B ≤ b2) (hs : B ≤ w.heap.size) :
    Calls Try.prog 26 #[.pointer (some ⟨b1, 0, none⟩), .pointer (some ⟨b2, 0, none⟩), .agg #[.int .u8 2, .int .i64 n]] w (AskPost B b1 o1 b2 o2 w) := by
  have hb0 : Below B w (w.alloc (.cells #[.int .u8 2, .int .i64 n] 48)) := (Below.refl _ _).alloc hs _
  obtain ⟨x, hx0, hx1, hc⟩ := number_st 4 B b1 o1 b2 o2 _ (h.grow (grow_alloc w (.cells #[.int .u8 2, .int .i64 n] 48))) (by omega) (by omega) hB1 hB2 (by simp; omega)
  have HC := u32_of _ x _ (fun w1 => Next 4 B b1 o1 b2 o2 x w1 ∧ Below B (w.alloc (.cells #[.int .u8 2, .int .i64 n] 48)) w1) hc
  have H := hidden HC
  have HB0 := hidden hb0
  clear h hc HC hb0
  go_enter Try.func26, Try.ntmps26
  go_wp2_with (first | (go_at_call 34; refine H.out.mono ?_; rintro e w1 ⟨rfl, hN, hB⟩) | (go_at_call 41; refine Calls.mono hN ?_; rintro e w2 ⟨rfl, hS, hC⟩))
  go_ret
  exact ⟨rfl, hS, (HB0.out.trans hB).trans hC⟩

set_option maxHeartbeats 1000000 in
theorem ask_take (B b1 : Nat) (o1 : Option Nat) (b2 : Nat) (o2 : Option Nat) (n : Int) (w : World) (h : St b1 o1 b2 o2 w) (hB1 : B ≤ b1) (hB2 : B ≤ b2) (hs : B ≤ w.heap.size) :
    Calls Try.prog 26 #[.pointer (some ⟨b1, 0, none⟩), .pointer (some ⟨b2, 0, none⟩), .agg #[.int .u8 3, .int .i64 n]] w (AskPost B b1 o1 b2 o2 w) := by
  have hb0 : Below B w (w.alloc (.cells #[.int .u8 3, .int .i64 n] 48)) := (Below.refl _ _).alloc hs _
  have hst := h.grow (grow_alloc w (.cells #[.int .u8 3, .int .i64 n] 48))
  have HC := take_st n b1 o1 b2 o2 _ hst
  have hlt : b1 < w.heap.size ∧ b2 < w.heap.size ∧ ∀ k, (o1 = some k ∨ o2 = some k) → k < w.heap.size := by
    obtain ⟨_, _, _, r1, r2, _, _, _, _, _, d4⟩ := h
    exact ⟨r1.lt, r2.lt, d4⟩
  have HL := hidden hlt
  have H := hidden HC
  have HB0 := hidden hb0
  clear h HC hb0 hst hlt
  go_enter Try.func26, Try.ntmps26
  go_wp2_with fail
  refine H.out.mono ?_
  rintro e w1 ⟨a, c, zs, sp, rfl, hown, hg1, hN⟩
  have c1 : w1.cell? ⟨w.heap.size, 1, none⟩ = some (.int .i64 n) := by
    refine hg1.cell (a := ⟨w.heap.size, 1, none⟩) ?_ ?_
    · rw [cell_of_row _ _ _ _ _ _ (heap_alloc_new w _)]; rfl
    · have := HL.out.1
      simp only [ne_eq, Option.some.injEq]
      omega
  go_wp2_with fail
  refine Calls.mono hN ?_
  rintro e w2 ⟨v, ok, rfl, hr, hS, hg2⟩
  have hown2 : Own (w.heap.size + 1) w2 (.slice a zs.length c) zs sp := by
    refine (hown.of_block (w' := w2) ?_).mono (by simp)
    intro k hk
    have := hown.lt k hk
    refine hg2.block k this.2 ?_
    intro e
    injection e with e
    have := HL.out.2.1
    simp at *
    omega
  have HO := hidden hown2
  have HR := hidden hr
  have HS := hidden hS
  clear hown hown2 hr hS hN
  go_wp2_with fail
  refine (same_any _ _ zs zs w2 HO.out.reads HR.out).mono ?_
  rintro e w3 ⟨rfl, rfl⟩
  go_wp2_with fail
  refine (over_own _ _ zs sp w3 HO.out).mono ?_
  rintro e w4 ⟨rfl, hown4, hg4, hs4⟩
  go_wp2
  go_ret
  have hge : ∀ k, (Value.slice a zs.length c).ownBlock = some k → w.heap.size + 1 ≤ k := fun k hk => (HO.out.lt k hk).1
  refine ⟨by simp, HS.out.step hg4 ?_, ?_⟩
  · intro k hk
    have h1 := hge k hk
    have h2 := HL.out.1
    have h3 := HL.out.2.1
    refine ⟨by omega, by omega, ?_, ?_⟩
    · intro e
      have := HL.out.2.2 k (.inl e)
      omega
    · intro e
      have := HL.out.2.2 k (.inr e)
      omega
  · have hx1 := below_of_grown (B := B) hg1 hB1 (by simp; omega)
    have hx2 := below_of_grown (B := B) hg2 hB2 (by have := hg1.size; simp at this; omega)
    refine ((HB0.out.trans hx1).trans hx2).trans ((Below.refl _ _).grown hg4 ?_ ?_)
    · have := hg1.size
      have := hg2.size
      simp at *
      omega
    · intro k hk
      have := hge k hk
      omega

set_option maxHeartbeats 1000000 in
theorem ask_left (B b1 : Nat) (o1 : Option Nat) (b2 : Nat) (o2 : Option Nat) (n : Int) (w : World) (h : St b1 o1 b2 o2 w) (hB1 : B ≤ b1) (hB2 : B ≤ b2) (hs : B ≤ w.heap.size) :
    Calls Try.prog 26 #[.pointer (some ⟨b1, 0, none⟩), .pointer (some ⟨b2, 0, none⟩), .agg #[.int .u8 4, .int .i64 n]] w (AskPost B b1 o1 b2 o2 w) := by
  have hb0 : Below B w (w.alloc (.cells #[.int .u8 4, .int .i64 n] 48)) := (Below.refl _ _).alloc hs _
  have hst := h.grow (grow_alloc w (.cells #[.int .u8 4, .int .i64 n] 48))
  have HST := hidden hst
  have HB0 := hidden hb0
  obtain ⟨z1, zs, bad, r1, r2, e1, e2, d1, d2, d3, d4⟩ := h
  have hlt2 := r2.lt
  obtain ⟨a2, q2, m1, m2, c0, c1, _, _, _, _, _⟩ := (r2.grow (grow_alloc w (.cells #[.int .u8 4, .int .i64 n] 48))).cells
  have H := hidden (rd_left b1 z1 bad (((w.alloc (.cells #[.int .u8 4, .int .i64 n] 48))).drew) o1 (r1.grow (grow_alloc w _).drew))
  have hlen : (if bad = true then 0 else z1.length) = zs.length := by
    cases bad
    · rw [e1 rfl]; rfl
    · rw [e2 rfl]; rfl
  simp only [hlen] at H
  clear hst hb0 r1 r2 d1 d2 d3 d4 e1 e2 m1 m2 hlen
  go_enter Try.func26, Try.ntmps26
  go_wp2_with fail
  go_region_held (fun w' => w'.cell? ⟨b2, 0, none⟩ = some (.slice a2 zs.length q2))
    (first | simpa using c0 | assumption)
    (first | (go_at_call 27; refine H.out.mono ?_; rintro e w1 ⟨rfl, rfl⟩))
  go_wp2
  go_ret
  exact ⟨by simp, HST.out.grow (Below.refl _ _).drew, HB0.out.drew⟩

set_option maxHeartbeats 1000000 in
theorem ask_bad (B b1 : Nat) (o1 : Option Nat) (b2 : Nat) (o2 : Option Nat) (n : Int) (w : World) (h : St b1 o1 b2 o2 w) (hB1 : B ≤ b1) (hB2 : B ≤ b2) (hs : B ≤ w.heap.size) :
    Calls Try.prog 26 #[.pointer (some ⟨b1, 0, none⟩), .pointer (some ⟨b2, 0, none⟩), .agg #[.int .u8 5, .int .i64 n]] w (AskPost B b1 o1 b2 o2 w) := by
  have hb0 : Below B w (w.alloc (.cells #[.int .u8 5, .int .i64 n] 48)) := (Below.refl _ _).alloc hs _
  have hst := h.grow (grow_alloc w (.cells #[.int .u8 5, .int .i64 n] 48))
  have HST := hidden hst
  have HB0 := hidden hb0
  obtain ⟨z1, zs, bad, r1, r2, e1, e2, d1, d2, d3, d4⟩ := h
  have hlt2 := r2.lt
  obtain ⟨a2, q2, m1, m2, c0, c1, _, _, _, _, _⟩ := (r2.grow (grow_alloc w (.cells #[.int .u8 5, .int .i64 n] 48))).cells
  have H := hidden (rd_bad b1 z1 bad (((w.alloc (.cells #[.int .u8 5, .int .i64 n] 48))).drew) o1 (r1.grow (grow_alloc w _).drew))
  clear hst hb0 r1 r2 d1 d2 d3 d4 e1 e2 m1 m2
  go_enter Try.func26, Try.ntmps26
  go_wp2_with fail
  go_region_held (fun w' => w'.cell? ⟨b2, 1, none⟩ = some (.bool bad))
    (first | simpa using c1 | assumption)
    (first | (go_at_call 28; refine H.out.mono ?_; rintro e w1 ⟨rfl, rfl⟩))
  go_wp2
  go_ret
  exact ⟨by simp, HST.out.grow (Below.refl _ _).drew, HB0.out.drew⟩

set_option maxHeartbeats 1000000 in
theorem ask_done (B b1 : Nat) (o1 : Option Nat) (b2 : Nat) (o2 : Option Nat) (k : Int) (n : Int) (w : World) (h : St b1 o1 b2 o2 w) (hB1 : B ≤ b1) (hB2 : B ≤ b2) (hs : B ≤ w.heap.size) (hk : 6 ≤ k) :
    Calls Try.prog 26 #[.pointer (some ⟨b1, 0, none⟩), .pointer (some ⟨b2, 0, none⟩), .agg #[.int .u8 k, .int .i64 n]] w (AskPost B b1 o1 b2 o2 w) := by
  have hb0 : Below B w (w.alloc (.cells #[.int .u8 k, .int .i64 n] 48)) := (Below.refl _ _).alloc hs _
  have hst := h.grow (grow_alloc w (.cells #[.int .u8 k, .int .i64 n] 48))
  have HST := hidden hst
  have HB0 := hidden hb0
  have k0 : (k == 0) = false := beq_eq_false_iff_ne.2 (by omega)
  have k1 : (k == 1) = false := beq_eq_false_iff_ne.2 (by omega)
  have k2 : (k == 2) = false := beq_eq_false_iff_ne.2 (by omega)
  have k3 : (k == 3) = false := beq_eq_false_iff_ne.2 (by omega)
  have k4 : (k == 4) = false := beq_eq_false_iff_ne.2 (by omega)
  have k5 : (k == 5) = false := beq_eq_false_iff_ne.2 (by omega)
  obtain ⟨z1, zs, bad, r1, r2, e1, e2, d1, d2, d3, d4⟩ := hst
  have H := hidden (rd_done b1 z1 bad _ o1 r1)
  have H2 := hidden (rm_done b2 zs bad _ o2 r2)
  have hlen : (!bad && z1.length == 0) = (!bad && zs.length == 0) := by
    cases bad
    · rw [e1 rfl]
    · rfl
  rw [hlen] at H
  clear hb0 r1 r2 d1 d2 d3 d4 e1 e2 hlen h
  generalize (!bad && zs.length == 0) = t at *
  go_enter Try.func26, Try.ntmps26
  go_wp2_with (first | (go_at_call 29; refine H.out.mono ?_; rintro e w1 ⟨rfl, rfl⟩) | (go_at_call 30; refine H2.out.mono ?_; rintro e w2 ⟨rfl, rfl⟩))
  go_ret
  exact ⟨by simp, HST.out, HB0.out⟩

end Go.Proofs.Ythbdnhfppjhppaa
