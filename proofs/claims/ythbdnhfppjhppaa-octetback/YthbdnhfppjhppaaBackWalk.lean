/- OctetBack's walk: digits and bytes there and back, pieces that are taken, numbers that are read as they were written. -/
import Derived.Test.YthbdnhfppjhppaaUnhex
import Derived.Test.YthbdnhfppjhppaaJoin
import Derived.Test.YthbdnhfppjhppaaPuts
import Derived.Test.YthbdnhfppjhppaaOctet2
import Derived.Test.YthbdnhfppjhppaaKit1
import Derived.Deep.RegionHeld2
import Derived.Deep.DeepCutAuto
namespace Go.Proofs.Ythbdnhfppjhppaa
open Go.RowKit

/-- v is a slice of ints. -/
def Ints (w : World) (v : Value) (ks : List Int) : Prop :=
  ∃ a cap, v = .slice a ks.length cap ∧ ks.length ≤ 140737488355328 ∧
    (0 < ks.length → ∃ b off, a = some ⟨b, off, none⟩ ∧ ∀ i, i < ks.length → w.cell? ⟨b, off + i, none⟩ = some (.int .i64 (ks.getD i 0)))

theorem rd_take (b : Nat) (zs : List Int) (n : Nat) (w : World) (o : Option Nat) (h : Rd w b o zs false) (hn : n ≤ zs.length) :
    Calls Try.prog 31 #[.pointer (some ⟨b, 0, none⟩), .int .i64 n] w fun e w' => ∃ a c sp, e = .returned (.slice a n c) ∧ Own w.heap.size w' (.slice a n c) (zs.take n) sp ∧ Rd w' b o (zs.drop n) false ∧ w.grownBy w' (some b) := by
  have hl : zs.length ≤ 140737488355328 := by
    obtain ⟨_, _, _, h, _⟩ := h
    exact h
  have hln : (zs.take n).length = n := by simp; omega
  refine (take_of _ n (zs.take n) w (fun w1 => Rd w1 b o (zs.drop n) false ∧ w.grownBy w1 (some b) ∧ w1.heap.size = w.heap.size) (by omega) ?_).mono ?_
  · refine (rd_cut_ok b zs n w o h hn).mono ?_
    rintro e w1 ⟨a, c, rfl, hr, h1, h2, h3⟩
    exact ⟨_, rfl, hr, h1, h2, h3⟩
  · rintro e w' ⟨w1, a, c, sp, rfl, ⟨r1, g1, s1⟩, hown, hbel⟩
    rw [hln] at hown
    rw [hln]
    exact ⟨a, c, sp, rfl, by rw [← s1]; exact hown, r1.grow hbel, grown_trans g1 (below_grown hbel _)⟩

/-- The six bytes of a number of two and one of four. -/
def six (n m : Int) : List Int := [n / 256, n % 256, m / 16777216, m / 65536 % 256, m / 256 % 256, m % 256]

/-- What a reader over these six bytes tells, call by call. -/
theorem q_u16 (n m : Int) (b : Nat) (o : Option Nat) (w : World) (h : Rd w b o (six n m) false) :
    Calls Try.prog 33 #[.pointer (some ⟨b, 0, none⟩)] w fun e w' => e = .returned (.int .i64 n) ∧ Rd w' b o ((six n m).drop 2) false ∧ w.grownBy w' (some b) := by
  refine u16_of _ n w _ ?_
  refine (rd_number_ok b (six n m) 2 w o h (by simp [six]) (by omega) (by omega)).mono ?_
  rintro e w' ⟨rfl, h1, h2, _⟩
  refine ⟨?_, h1, h2⟩
  have : numOf ((six n m).take 2) = n := by simp [six, numOf]; omega
  rw [this]
theorem q_u32 (n m : Int) (b : Nat) (o : Option Nat) (w : World) (h : Rd w b o ((six n m).drop 2) false) :
    Calls Try.prog 34 #[.pointer (some ⟨b, 0, none⟩)] w fun e w' => e = .returned (.int .i64 m) ∧ Rd w' b o [] false ∧ w.grownBy w' (some b) := by
  refine u32_of _ m w _ ?_
  refine (rd_number_ok b ((six n m).drop 2) 4 w o h (by simp [six]) (by omega) (by omega)).mono ?_
  rintro e w' ⟨rfl, h1, h2, _⟩
  refine ⟨?_, h1, h2⟩
  have : numOf (((six n m).drop 2).take 4) = m := by simp [six, numOf]; omega
  rw [this]
theorem q_byte (b : Nat) (o : Option Nat) (w : World) (h : Rd w b o [] false) :
    Calls Try.prog 35 #[.pointer (some ⟨b, 0, none⟩)] w fun e w' => e = .returned (.int .u8 0) ∧ Rd w' b o [] true ∧ w.grownBy w' (some b) := by
  refine byte_of _ 0 w _ ?_ (by omega) (by omega)
  refine (rd_number_bad b [] 1 w o h (by simp)).mono ?_
  rintro e w' ⟨rfl, rfl⟩
  exact ⟨rfl, h.bad, grown_setCell _ _ _ _⟩

theorem two_parts (w : World) (x y : Value) (xs ys : List Int) (hx : Reads w x xs) (hy : Reads w y ys) : Parts (w.alloc (.cells #[x, y] 22)) (.slice (some ⟨w.heap.size, 0, none⟩) 2 2) [xs, ys] := by
  refine ⟨_, 2, fun i => if i = 0 then x else y, rfl, Nat.le_refl _, by simp, fun _ => ⟨w.heap.size, 0, rfl, ?_⟩, ?_⟩
  · intro i hi
    have hr : (w.alloc (.cells #[x, y] 22)).heap[w.heap.size]? = some (.cells #[x, y] 22 (0, 0)) := heap_alloc_new w _
    rw [cell_of_row _ _ _ _ _ _ hr]
    match i, hi with
    | 0, _ => rfl
    | 1, _ => rfl
  · intro i hi
    match i, hi with
    | 0, _ => exact hx.grow (grow_alloc _ _)
    | 1, _ => exact hy.grow (grow_alloc _ _)

set_option maxRecDepth 100000 in
set_option maxHeartbeats 4000000 in
theorem back_walk (v ks : Value) (s : ByteArray) (zs sizes : List Int) (n m : Int) (w : World) (hr : Reads w v zs) (hl : zs.length ≤ 140737488355328 - 4096) (hs : s.size ≤ maxLen) (hk : Ints w ks sizes) (n0 : 0 ≤ n) (n1 : n ≤ 65535) (m0 : 0 ≤ m) (m1 : m ≤ 4294967295) :
    Calls Try.prog 6 #[v, .string s, ks, .int .u16 n, .int .u32 m] w fun e w' => e = .returned (.bool true) ∧ Below w.heap.size w w' := by
  have hsl : ∃ a c, v = .slice a zs.length c := by obtain ⟨a, c, e, _⟩ := hr; exact ⟨a, c, e⟩
  obtain ⟨va, vc, rfl⟩ := hsl
  have HR := hidden hr
  have HK := hidden hk
  have HS := hidden hs
  have HBY : Hid (Bytes zs) := by obtain ⟨_, _, _, _, _, hb, _⟩ := hr; exact hb
  clear hr hk hs
  go_enter Try.func6, Try.ntmps6
  go_wp2_with fail
  refine (hex_any _ zs w HR.out hl).mono ?_
  rintro e w1 ⟨rfl, hb1⟩
  go_wp2_with fail
  refine (unhex_any (strOfNums (hx zs)) w1 ?_).mono ?_
  · rw [strOfNums_size]
    unfold hx
    split
    · simp [maxLen]
    · rw [hexL_length]; simp only [maxLen]; omega
  rintro e w2 ⟨x, sp, rfl, hox, hb2⟩
  rw [nums_str _ (hx_bytes HBY.out)] at *
  have hbw2 : Below w.heap.size w w2 := grow_trans hb1 hb2
  have HX : Hid (∀ w', Calls Try.prog 11 #[.slice none 0 0] w' fun e w'' => e = .returned (.string ⟨#[45]⟩) ∧ w'' = w') := fun w' => hex_none none 0 w'
  clear hb1 hb2
  go_upto_region 2 with fail
  go_cut [11, 12, 41] from 23 (fun _ _ t w' => t = .bool false ∧ Below w.heap.size w w')
  case first =>
    by_cases hlen : zs.length ≤ 32768
    · rw [uh_hx zs HBY.out hlen] at *
      have hle : (zs.length : Int) ≤ 32768 := by omega
      have HOX := hidden hox
      clear hox
      go_wp2_with fail
      refine (same_any _ _ zs zs w2 HOX.out.reads (HR.out.grow hbw2)).mono ?_
      rintro e w3 ⟨rfl, rfl⟩
      have hdd : decide (zs = zs) = true := by simp
      go_wp2_with fail
      go_meet
      case rel => exact ⟨rfl, hbw2⟩
    · have hle : ¬ (zs.length : Int) ≤ 32768 := by omega
      clear hox
      generalize (uh (hx zs)).1 = E at *
      go_wp2_with fail
      go_meet
      case rel => exact ⟨rfl, hbw2⟩
  case rest =>
    obtain ⟨rfl, hbw3⟩ := hcut
    clear hox hbw2
    go_wp2_with fail
    refine (unhex_any s _ HS.out).mono ?_
    rintro e w4 ⟨y, sp4, rfl, hoy, hb4⟩
    have hbw4 : Below w.heap.size w w4 := grow_trans hbw3 hb4
    clear hbw3 hb4
    go_upto_region 5 with fail
    go_cut [13, 14, 58] from 23 (fun _ _ t w' => t = .bool false ∧ Below w.heap.size w w')
    case first =>
      by_cases hf : (uh (nums s)).1 = 0
      · have he : strOfNums (hx (uh (nums s)).2) = s := by rw [hx_uh (nums s) hf, str_nums]
        have HY := hidden (hex_any y (uh (nums s)).2 w4 hoy.reads (by have := uh_len (nums s); omega))
        rw [he] at HY
        rw [hf]
        clear hoy he hf
        go_wp2_with fail
        refine HY.out.mono ?_
        rintro e w5 ⟨rfl, hb5⟩
        go_wp2_with fail
        refine (HX.out _).mono ?_
        rintro e w6 ⟨rfl, rfl⟩
        go_wp2_with fail
        go_meet
        case rel => exact ⟨rfl, grow_trans hbw4 hb5⟩
      · have hf0 : ((uh (nums s)).1 == 0) = false := beq_eq_false_iff_ne.2 hf
        clear hoy hf
        generalize (uh (nums s)).1 = F at *
        go_wp2_with fail
        refine (HX.out _).mono ?_
        rintro e w6 ⟨rfl, rfl⟩
        go_wp2_with fail
        go_meet
        case rel => exact ⟨rfl, hbw4⟩
    case rest =>
      obtain ⟨rfl, hbw5⟩ := hcut
      clear hoy hbw4
      go_wp2_with fail
      refine (new_any _ zs wc (HR.out.grow hbw5) (by omega)).mono ?_
      rintro e w6 ⟨b1, o1, rfl, hlb, hlo, hrd, hb6⟩
      have hbw6 : Below w.heap.size w w6 := grow_trans hbw5 hb6
      have hlt1 : b1 < w6.heap.size := hrd.lt
      have hwb : w.heap.size ≤ b1 := by have := hbw5.size; omega
      have HLO : Hid (∀ k, o1 = some k → k < w6.heap.size) := fun k hk => (hlo k hk).2
      have HRD : Hid (Rd w6 b1 o1 (zs.drop 0) false) := hrd
      have HOG : Hid (Own w6.heap.size w6 (.slice none 0 0) (zs.take 0) []) := Own.nil _ _
      clear hrd hlo hlb hb6 hbw5 wc
      obtain ⟨ka, kcap, rfl, hkn, hkc⟩ := HK.out
      have HKC := hidden hkc
      clear hkc HK
      go_wp2_with fail
      go_loopw [16, 17] (fun t i wr => ∃ (k p : Nat) (sp : List Int) (a : Option Addr) (q : Nat), k ≤ sizes.length ∧ p ≤ zs.length ∧ i = .int .i64 k ∧ t = .slice a p q ∧ Hid (Own w6.heap.size wr t (zs.take p) sp) ∧ Hid (Rd wr b1 o1 (zs.drop p) false) ∧ Below w.heap.size w wr ∧ w6.heap.size ≤ wr.heap.size) (fun _ i _ => sizes.length - (intOf i).toNat)
      case atStart => exact ⟨0, 0, [], none, 0, by omega, by omega, rfl, rfl, HOG, HRD, hbw6, Nat.le_refl _⟩
      case round =>
        obtain ⟨k, p, sp, a, q, hk, hp, rfl, rfl, hO, hR, hb, hsz⟩ := hrel
        have HL : Hid (∀ w', Below wr.heap.size wr w' → Calls Try.prog 27 #[.pointer (some ⟨b1, 0, none⟩)] w' fun e w'' => e = .returned (.int .i64 (zs.length - p : Nat)) ∧ w'' = w') := by
          intro w' hw'
          have := rd_left b1 (zs.drop p) false w' o1 (hR.out.grow hw')
          simp only [List.length_drop, Bool.false_eq_true, if_false] at this
          exact this
        by_cases hbody : k < sizes.length ∧ p < zs.length
        · obtain ⟨hlt, hpp⟩ := hbody
          obtain ⟨kb, koff, rfl, hkcell⟩ := HKC.out (by omega)
          have hcell := hkcell k hlt
          have hgt : (0 : Int) < ((zs.length - p : Nat) : Int) := by omega
          generalize sizes.getD k 0 = sz at *
          generalize hL : zs.length - p = L at *
          have hLb : L ≤ 140737488355328 := by omega
          have hwrp : IntKind.i64.wrap ((L : Int) + 1) = (L : Int) + 1 := by rw [IntKind.wrap_i64]; omega
          obtain ⟨N, hN, hNL⟩ : ∃ N : Nat, sz % ((L : Int) + 1) = (N : Int) ∧ N ≤ L := by
            have h1 := Int.emod_nonneg sz (show (L : Int) + 1 ≠ 0 by omega)
            have h2 := Int.emod_lt_of_pos sz (show (0 : Int) < (L : Int) + 1 by omega)
            exact ⟨(sz % ((L : Int) + 1)).toNat, by omega, by omega⟩
          have HP : Hid (∀ w', Calls Try.prog 32 #[.int .i64 sz, .int .i64 ((L : Int) + 1)] w' fun e w'' => e = .returned (.int .i64 N) ∧ w'' = w') := by
            intro w'
            have := pick_any sz ((L : Int) + 1) w' (by omega) (by omega)
            rw [hN] at this
            exact this
          have HNN := hidden hN
          have HLL := hidden hL
          have HKB : Hid (∀ w', Below w.heap.size w w' → w'.cell? ⟨kb, koff + k, none⟩ = some (.int .i64 sz)) := fun w' hw' => (hw'.cell (p := ⟨kb, koff + k, none⟩) (block_lt_of_cell hcell)).trans hcell
          have HT : Hid (Calls Try.prog 31 #[.pointer (some ⟨b1, 0, none⟩), .int .i64 N] wr.drew fun e w' => ∃ a c sp, e = .returned (.slice a N c) ∧ Own wr.heap.size w' (.slice a N c) ((zs.drop p).take N) sp ∧ Rd w' b1 o1 ((zs.drop p).drop N) false ∧ wr.grownBy w' (some b1)) := by
            refine (rd_take b1 (zs.drop p) N wr.drew o1 (hR.out.grow (Below.refl _ _).drew) (by rw [List.length_drop]; omega)).mono ?_
            rintro e w' ⟨a, c, sp, rfl, h1, h2, h3⟩
            exact ⟨a, c, sp, rfl, h1, h2, ⟨h3.os, h3.tape, h3.output, h3.size, h3.block⟩⟩
          have hbd := hb.drew
          clear hcell hkcell hN hL
          go_wp2_with (go_at_call 27; refine (HL.out _ (Below.refl _ _)).mono ?_; rintro e w7 ⟨rfl, rfl⟩)
          go_region_held2 (fun w' => w'.cell? ⟨kb, koff + k, none⟩ = some (.int .i64 sz))
            (first | exact HKB.out _ (by assumption))
            (first
              | (go_at_call 27; refine (HL.out _ (Below.refl _ _).drew).mono ?_; rintro e w8 ⟨rfl, rfl⟩)
              | (go_at_call 32; refine (HP.out _).mono ?_; rintro e w8 ⟨rfl, rfl⟩)
              | (go_at_call 31; refine HT.out.mono ?_; rintro e w8 ⟨a8, c8, sp8, rfl, ho8, hr8, hg8⟩; have hb8 : Below w.heap.size w w8 := below_row hb hg8 hwb; have hs8 := hg8.size)
              | (refine step_app _ rfl _ _ rfl w6.heap.size _ _ (zs.take p) sp _ (hO.out.of_block (fun k hk => hg8.block k (hO.out.lt k hk).2 (by have := (hO.out.lt k hk).1; simp only [ne_eq, Option.some.injEq]; omega))) ho8.reads rfl rfl (.inr (by simp; omega)) (by omega) ?_; intro v9 w9 sp9 h91 h92 h93 h94 h95; have hb9 : Below w.heap.size w w9 := hb8.grown h92 (by omega) (fun k hk => by have := (hO.out.lt k hk).1; have := hbw6.size; omega)))
          have hO9 : Own w6.heap.size w9 v9 (zs.take (p + N)) sp9 := by
            rw [List.take_add]
            exact h91
          have hR9 : Rd w9 b1 o1 (zs.drop (p + N)) false := by
            have := hr8.kept h92 (fun e => by have := (hO.out.lt b1 e.symm).1; omega) (by
              by_cases hno : (Value.slice a p q).ownBlock = none
              · exact .inl hno
              · refine .inr (fun e => ?_)
                cases ho : o1 with
                | none => exact hno (by rw [← e, ho])
                | some kk =>
                  have h1 := HLO.out kk ho
                  have h2 := (hO.out.lt kk (by rw [← e, ho])).1
                  omega)
            rwa [List.drop_drop] at this
          have hsz9 : w6.heap.size ≤ w9.heap.size := by have := h92.size; omega
          obtain ⟨a9, c9, hv9⟩ := hO9.slice
          have hpl : (zs.take (p + N)).length = p + N := by
            have := HLL.out
            simp; omega
          rw [hpl] at hv9
          subst hv9
          have hpN : p + N ≤ zs.length := by have := HLL.out; omega
          have HO9 := hidden hO9
          have HR9 := hidden hR9
          clear h91 h92 h93 h94 h95 hO9 hR9 hpl hr8 ho8 hg8 HLL HNN HT HP
          go_wp2
          exact ⟨⟨k + 1, p + N, sp9, a9, c9, by omega, hpN, by go_num, rfl, HO9, HR9, hb9, hsz9⟩, by simp [intOf]; omega⟩
        · have hexit : ¬ k < sizes.length ∨ (k < sizes.length ∧ ¬ p < zs.length) := by omega
          have HT2 : Hid (Calls Try.prog 31 #[.pointer (some ⟨b1, 0, none⟩), .int .i64 (zs.length - p : Nat)] wr fun e w' => ∃ a c sp, e = .returned (.slice a (zs.length - p) c) ∧ Own wr.heap.size w' (.slice a (zs.length - p) c) (zs.drop p) sp ∧ Rd w' b1 o1 [] false ∧ wr.grownBy w' (some b1)) := by
            refine (rd_take b1 (zs.drop p) (zs.length - p) wr o1 hR.out (by rw [List.length_drop]; omega)).mono ?_
            rintro e w' ⟨a, c, sp, rfl, h1, h2, h3⟩
            rw [List.take_of_length_le (by rw [List.length_drop]; omega)] at h1
            rw [List.drop_of_length_le (by rw [List.length_drop]; omega)] at h2
            exact ⟨a, c, sp, rfl, h1, h2, h3⟩
          rcases hexit with hx | ⟨hx, hy⟩
          all_goals
            have hgt : ¬ k < sizes.length ∨ ¬ (0 : Int) < ((zs.length - p : Nat) : Int) := by omega
            generalize hL : zs.length - p = L at *
            have HLL := hidden hL
            clear hL
            try (have hgt2 : ¬ (0 : Int) < (L : Int) := by omega)
            clear hgt
            go_wp2_with (first
              | (go_at_call 27; refine (HL.out _ (Below.refl _ _)).mono ?_; rintro e w7 ⟨rfl, rfl⟩)
              | (go_at_call 31; refine HT2.out.mono ?_; rintro e w8 ⟨a8, c8, sp8, rfl, ho8, hr8, hg8⟩; have hb8 : Below w.heap.size w w8 := below_row hb hg8 hwb; have hs8 := hg8.size)
              | (at_builtin; refine wpList_app _ rfl _ _ rfl w6.heap.size _ _ (zs.take p) sp _ (hO.out.of_block (fun k hk => hg8.block k (hO.out.lt k hk).2 (by have := (hO.out.lt k hk).1; simp only [ne_eq, Option.some.injEq]; omega))) ho8.reads rfl rfl (by simp; omega) (by omega) ?_; intro v9 w9 sp9 h91 h92 h93 h94; have hb9 : Below w.heap.size w w9 := hb8.grown h92 (by omega) (fun k hk => by have := (hO.out.lt k hk).1; have := hbw6.size; omega)))
            have hO9 : Own w6.heap.size w9 v9 zs sp9 := by
              rw [List.take_append_drop] at h91
              exact h91
            have hR9 : Rd w9 b1 o1 [] false := by
              refine hr8.kept h92 (fun e => by have := (hO.out.lt b1 e.symm).1; omega) ?_
              by_cases hno : (Value.slice a p q).ownBlock = none
              · exact .inl hno
              · refine .inr (fun e => ?_)
                cases ho : o1 with
                | none => exact hno (by rw [← e, ho])
                | some kk =>
                  have h1 := HLO.out kk ho
                  have h2 := (hO.out.lt kk (by rw [← e, ho])).1
                  omega
            refine (rd_done b1 [] false w9 o1 hR9).mono ?_
            rintro e w10 ⟨rfl, rfl⟩
            have HO9 := hidden hO9
            clear h91 h92 h93 h94 hr8 ho8 hg8 hR9 hO9 hO hR HT2 HL hb8
            go_wp2_with fail
            refine (same_any _ _ zs zs w10 HO9.out.reads (HR.out.grow hb9)).mono ?_
            rintro e w11 ⟨rfl, rfl⟩
            have hdd : decide (zs = zs) = true := by simp
            go_wp2_with fail
            refine (put16_ok n w11 n0 n1).mono ?_
            rintro e w12 ⟨v12, sp12, rfl, ho12, hb12⟩
            obtain ⟨a12, c12, rfl⟩ := ho12.slice
            have HO12 := hidden ho12
            clear ho12
            go_wp2_with fail
            refine (put32_ok m w12 m0 m1).mono ?_
            rintro e w13 ⟨v13, sp13, rfl, ho13, hb13⟩
            obtain ⟨a13, c13, rfl⟩ := ho13.slice
            have HO13 := hidden ho13
            clear ho13
            go_wp2_with fail
            refine (join_any _ _ _ (two_parts w13 _ _ _ _ (HO12.out.reads.grow hb13) HO13.out.reads) (by simp)).mono ?_
            rintro e w14 ⟨v14, sp14, rfl, ho14, hb14⟩
            have HO14 := hidden ho14
            clear ho14
            go_wp2_with fail
            refine (new_any _ (six n m) w14 HO14.out.reads (by simp [six])).mono ?_
            rintro e w15 ⟨b5, o5, rfl, hlb5, _, hr15, hb15⟩
            have hbw15 : Below w.heap.size w w15 := grow_trans (grow_trans (grow_trans (grow_trans hb9 hb12) hb13) (grow_trans (grow_alloc _ _) hb14)) hb15
            have hwb5 : w.heap.size ≤ b5 := by
              have h1 := (grow_trans (grow_trans (grow_trans hb9 hb12) hb13) (grow_trans (grow_alloc _ _) hb14)).size
              omega
            have HR15 := hidden hr15
            clear hr15 hb12 hb13 hb14 hb15 HO12 HO13 HO14 HO9
            go_wp2_with fail
            refine (q_u16 n m b5 o5 w15 HR15.out).mono ?_
            rintro e w16 ⟨rfl, hr16, hg16⟩
            have hbw16 := below_row hbw15 hg16 hwb5
            have HR16 := hidden hr16
            clear hr16 hg16
            go_wp2_with fail
            refine (q_u32 n m b5 o5 w16 HR16.out).mono ?_
            rintro e w17 ⟨rfl, hr17, hg17⟩
            have hbw17 := below_row hbw16 hg17 hwb5
            have HR17 := hidden hr17
            clear hr17 hg17
            go_wp2_with fail
            refine (rd_done b5 [] false w17 o5 HR17.out).mono ?_
            rintro e w18 ⟨rfl, rfl⟩
            go_wp2_with fail
            refine (q_byte b5 o5 w18 HR17.out).mono ?_
            rintro e w19 ⟨rfl, hr19, hg19⟩
            have hbw19 := below_row hbw17 hg19 hwb5
            have HR19 := hidden hr19
            clear hr19 hg19
            go_wp2_with fail
            refine (rd_bad b5 [] true w19 o5 HR19.out).mono ?_
            rintro e w20 ⟨rfl, rfl⟩
            go_wp2_with fail
            go_ret
            exact ⟨rfl, hbw19⟩

end Go.Proofs.Ythbdnhfppjhppaa
