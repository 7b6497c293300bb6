/- path.isBit, isDepth, Of, Bytes, Bit, Compare, as contracts. -/
import Derived.Test.YtagkmfgoahbclaaBo09
import Derived.Test.YtagkmfgoahbclaaBo06
import Derived.Laws.Cover3
namespace Go.Proofs.Ytagkmfgoahbclaa
set_option maxRecDepth 20000
open Go.RowKit

theorem zero_path : ∀ w, (zeroValue 34).run Try.prog w = .ok (.agg (B (List.replicate 32 0))) w := Try.zeroValue34
theorem size_path : (Try.prog.info? 34).map (·.size) = some 32 := by kernel_rfl
theorem u_path : Try.prog.underlying 34 = some (.array 32 5) := Try.underlying34

theorem and_one (y : Int) (hy : 0 ≤ y ∧ y ≤ 255) : bits .and .u8 y 1 = y % 2 := by
  obtain ⟨n, hn, rfl⟩ := nat_of y hy
  have := u8_and_nat n 1 hn (by omega)
  rw [Nat.and_one_is_mod] at this
  rw [show (1 : Int) = ((1 : Nat) : Int) from rfl, this]
  omega

theorem shr_byte (y : Int) (hy : 0 ≤ y ∧ y ≤ 255) (k : Nat) : 0 ≤ y / 2 ^ k ∧ y / 2 ^ k ≤ 255 :=
  ⟨Int.ediv_nonneg hy.1 (Int.pow_nonneg (by omega)), Int.le_trans (Int.ediv_le_self _ hy.1) hy.2⟩

theorem bit_word (xs : List Int) (hx : Key xs) (d : Nat) : wrap64 (bits .and .u8 (xs[d / 8]?.getD 0 / 2 ^ (7 - d % 8)) 1) = kb xs d := by
  have h := shr_byte _ (hx.byte (d / 8)) (7 - d % 8)
  have e : xs[d / 8]?.getD 0 = xs.getD (d / 8) 0 := by simp [List.getD]
  rw [e, and_one _ h, Go.IntWalk.wrap64_in _ (by omega)]
  rfl

theorem Blk.key_reads {w : World} {g : Nat} {xs : List Int} (h : Blk w g 34 (B xs)) (hx : Key xs) : Reads w (.slice (some ⟨g, 0, none⟩) 32 32) xs := by
  have e : (.slice (some ⟨g, 0, none⟩) 32 32 : Value) = .slice (some ⟨g, 0, none⟩) xs.length 32 := by rw [hx.1]
  rw [e]
  refine ⟨_, _, rfl, by rw [hx.1]; omega, fun h => by simp at h, hx.2, fun _ => ⟨g, 0, rfl, fun i hi => ?_⟩⟩
  rw [Nat.zero_add]
  exact h.bcell i hi

set_option maxHeartbeats 1000000 in
theorem pcompare_any (xs ys : List Int) (w : World) (hx : Key xs) (hy : Key ys) : Calls Try.prog 25 #[.agg (B xs), .agg (B ys)] w fun e w' => e = .returned (.int .i64 (cmp xs ys)) ∧ Below w.heap.size w w' := by
  go_enter Try.func25, Try.ntmps25
  go_wp2_with (first | (have hz := hl1; clear hz; refine wpList_bx _ rfl _ _ rfl _ rfl ?_; intro w2 g2 hg2 hl2 B2 b2) | (refine wpList_bx _ rfl _ _ rfl _ rfl ?_; intro w1 g1 hg1 hl1 B1 b1))
  have c2 := grow_trans b1 b2
  have HC : Hid (∀ w', Below w2.heap.size w2 w' → Calls Try.prog 28 #[.slice (some ⟨g1, 0, none⟩) 32 32, .slice (some ⟨g2, 0, none⟩) 32 32] w' fun e w'' => e = .returned (.int .i64 (cmp xs ys)) ∧ w'' = w') :=
    fun w' hw' => compare_any _ _ xs ys w' (((B1.grow b2).grow hw').key_reads hx) ((B2.grow hw').key_reads hy)
  clear hx hy
  go_quiet ((go_at_call 28; exact Calls.quiet_of_same (HC.out _ (below_drewN (Below.refl _ _) _))))
  go_wp2
  go_ret
  exact ⟨rfl, below_drewN c2 _⟩

/-- What a call leaves that tells a key, and an error's number. -/
def KeyPost (p : List Int → Prop) (n : Int) (w : World) (e : Ending) (w' : World) : Prop := ∃ ys, p ys ∧ e = .returned (.tuple #[.agg (B ys), .int .i64 n]) ∧ Below w.heap.size w w'

theorem key_zero : Key (List.replicate 32 0) := ⟨by simp, fun z hz => by have := List.eq_of_mem_replicate hz; omega⟩

end Go.Proofs.Ytagkmfgoahbclaa

/- math/bits' LeadingZeros8; path.Common and Under, as contracts. -/
namespace Go.Proofs.Ytagkmfgoahbclaa
set_option maxRecDepth 20000
open Go.RowKit

/-- How many bits a byte has, from its first 1 on. -/
def len8 (n : Nat) : Nat := if n = 0 then 0 else Nat.log2 n + 1

/-- A table's byte, by its place. -/
theorem wpList_ix {ops : Array Oper} {rest : List Oper} {op : Oper} {a : Act} {Q : Exit → Act → World → Prop} (w : World) (hgd : op.guard = none) (x y : Operand) (ty : TypeId) (ho : op.op = .index ty x y) (hu : Try.prog.underlying ty = some .string)
    (s : ByteArray) (n : Nat) (hn : n < 256) (hx : a.eval x = .string s) (hy : a.eval y = .int .u8 n) (h : (List.range 256).all (fun n => (s[n]?).map (·.toNat) == some (len8 n)) = true) (hk : wpList Try.prog ops Q rest (a.put op.dst (.int .u8 (len8 n))) w) : wpList Try.prog ops Q (op :: rest) a w := by
  refine wpList_plain hgd fun K hK => ?_
  have h' : (s[n]?).map (·.toNat) = some (len8 n) := by
    have := List.all_eq_true.1 h n (by simpa using hn)
    simpa using this
  cases hb : s[n]? with
  | none => rw [hb] at h'; cases h'
  | some c =>
    rw [hb] at h'
    injection h' with h'
    unfold Oper.wp execOp
    simp only [ho, hx, hy, Instr.index, asIntOf, Sem.run_bind, Sem.run_pure, Result.andThen_ok, run_underlying hu, Int.natCast_nonneg, if_true, Int.toNat_natCast, hb, h']
    exact hK _ _ hk

/-- Two unlike bytes: how many noughts lead in their xor is the place of the first unlike bit. -/
theorem xor_lead (x y : Int) (hx : 0 ≤ x ∧ x ≤ 255) (hy : 0 ≤ y ∧ y ≤ 255) (h : x ≠ y) : ∃ m : Nat, m < 256 ∧ bits .xor .u8 x y = m ∧ 8 - len8 m < 8 ∧ (∀ j, j < 8 - len8 m → bt x j = bt y j) ∧ bt x (8 - len8 m) ≠ bt y (8 - len8 m) := by
  obtain ⟨m, hm, e⟩ := nat_of _ (bits_byte .xor x y)
  have hb := bt_xor x y hx hy
  rw [e] at hb
  have h1 : ∀ (q : Nat) j, bt (q : Int) j = ((q / 2 ^ (7 - j) % 2 : Nat) : Int) := by intro q j; unfold bt; norm_cast
  have h0 : m ≠ 0 := by
    rintro rfl
    refine h (byte_ext x y hx hy fun k _ => ?_)
    have := hb k
    rw [show ((0 : Nat) : Int) = 0 from rfl, bt_zero] at this
    by_cases q : bt x k = bt y k
    · exact q
    · rw [if_neg q] at this; omega
  obtain ⟨a1, a2, a3⟩ := (show ∀ m, m < 256 → m ≠ 0 → 8 - len8 m < 8 ∧ (∀ j, j < 8 - len8 m → m / 2 ^ (7 - j) % 2 = 0) ∧ m / 2 ^ (7 - (8 - len8 m)) % 2 = 1 from by decide +kernel) m hm h0
  refine ⟨m, hm, e, a1, fun j hj => ?_, fun q => ?_⟩
  · have := hb j
    rw [h1, a2 j hj] at this
    by_cases q : bt x j = bt y j
    · exact q
    · rw [if_neg q] at this; omega
  · have := hb (8 - len8 m)
    rw [h1, a3, if_pos q] at this
    omega

/-- The first unlike byte, and the first unlike bit in it: how many first bits are the same. -/
theorem common_of {xs ys : List Int} (i l : Nat) (hi : i < 32) (hl : l < 8) (he : ∀ j, j < i → xs.getD j 0 = ys.getD j 0) (h1 : ∀ j, j < l → bt (xs.getD i 0) j = bt (ys.getD i 0) j) (h2 : bt (xs.getD i 0) l ≠ bt (ys.getD i 0) l) : IsCommon xs ys (8 * i + l) := by
  refine ⟨by omega, fun j hj => ?_, fun _ => ?_⟩
  · unfold kb
    rcases Nat.lt_or_ge (j / 8) i with e | e
    · rw [he _ e]
    · have e2 : j / 8 = i := by omega
      rw [e2]
      exact h1 _ (by omega)
  · unfold kb
    rw [show (8 * i + l) / 8 = i by omega, show (8 * i + l) % 8 = l by omega]
    exact h2

end Go.Proofs.Ytagkmfgoahbclaa
