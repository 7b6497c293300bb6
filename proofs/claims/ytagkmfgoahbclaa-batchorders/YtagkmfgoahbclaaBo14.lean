/- The small functions of sha, and of the document's answer, on words, as contracts. -/
import Derived.Test.YtagkmfgoahbclaaProg
import Derived.Test.YtagkmfgoahbclaaBo03
import Derived.BigQuiet
import Derived.Test.YtagkmfgoahbclaaBo04
import Derived.Deep.RegionHeld2
namespace Go.Proofs.Ytagkmfgoahbclaa
set_option maxRecDepth 20000
open Go.RowKit

theorem u32_or_nat (a b : Nat) (ha : a < 4294967296) (hb : b < 4294967296) : bits .or .u32 (a : Int) (b : Int) = ((a ||| b : Nat) : Int) := by
  have hx : a ||| b < 2 ^ 32 := Nat.or_lt_two_pow (by omega) (by omega)
  show IntKind.u32.wrap ((BitVec.ofInt 32 (a : Int) ||| BitVec.ofInt 32 (b : Int)).toNat : Int) = _
  have e : ∀ c : Nat, c < 4294967296 → (BitVec.ofInt 32 (c : Int)).toNat = c := by
    intro c hc
    rw [BitVec.toNat_ofInt]
    omega
  rw [BitVec.toNat_or, e a ha, e b hb]
  show (((a ||| b : Nat) : Int)) % 4294967296 = _
  omega

theorem u32_join (i : Nat) (a b : Int) (h1 : 0 ≤ a) (h2 : a < 4294967296) (h3 : 0 ≤ b) (h4 : b < 2 ^ i) (h5 : b < 4294967296) (hm : a.toNat % 2 ^ i = 0) : bits .or .u32 a b = a + b := by
  obtain ⟨A, rfl⟩ := Int.eq_ofNat_of_zero_le h1
  obtain ⟨B, rfl⟩ := Int.eq_ofNat_of_zero_le h3
  rw [u32_or_nat A B (by omega) (by omega), nat_join i A B (by simpa using hm) (by exact_mod_cast h4)]
  simp

theorem word_num (a b c d : Int) (ha : 0 ≤ a ∧ a ≤ 255) (hb : 0 ≤ b ∧ b ≤ 255) (hc : 0 ≤ c ∧ c ≤ 255) (hd : 0 ≤ d ∧ d ≤ 255) :
    bits .or .u32 (bits .or .u32 (bits .or .u32 (a * 16777216) (b * 65536)) (c * 256)) d = a * 16777216 + b * 65536 + c * 256 + d := by
  rw [u32_join 24 (a * 16777216) (b * 65536) (by omega) (by omega) (by omega) (by omega) (by omega) (by omega),
    u32_join 16 _ (c * 256) (by omega) (by omega) (by omega) (by omega) (by omega) (by omega),
    u32_join 8 _ d (by omega) (by omega) (by omega) (by omega) (by omega) (by omega)]

end Go.Proofs.Ytagkmfgoahbclaa

/- sha.schedule, as a contract: the 64 words of a block. -/
namespace Go.Proofs.Ytagkmfgoahbclaa
set_option maxRecDepth 20000
open Go.RowKit

theorem sch_set (b : List Int) (k : Nat) (hk : k < 64) : sch b (k + 1) ++ List.replicate (64 - (k + 1)) 0 = (sch b k ++ List.replicate (64 - k) 0).set k (nextWord b (sch b k) k) := by
  rw [show 64 - k = (64 - (k + 1)) + 1 by omega, List.replicate_succ, List.set_append_right _ _ (by rw [sch_length]; omega), sch_length, Nat.sub_self, List.set_cons_zero]
  simp [sch]

theorem getD_bytes {zs : List Int} (h : Bytes zs) (i : Nat) : 0 ≤ zs.getD i 0 ∧ zs.getD i 0 ≤ 255 := by
  by_cases hi : i < zs.length
  · exact h _ (by simp [List.getD, hi])
  · simp [List.getD, hi]

end Go.Proofs.Ytagkmfgoahbclaa
