/- octet.digit and octet.Hex, as contracts. -/
import Derived.Test.YtpihigcnoifcfaaGreatDoorVw17
import Derived.Test.YtpihigcnoifcfaaGreatDoorVw01
import Derived.Deep.RegionLaw
import Derived.Lib.SlBytesConst
namespace Go.Proofs.YtpihigcnoifcfaaGreatDoor
set_option maxRecDepth 20000
open Go.RowKit

theorem and15 (z : Int) (h0 : 0 ≤ z) (h1 : z ≤ 255) : bits .and .u8 z 15 = z % 16 := by
  rw [u8_and z 15 h0 (by omega) (by omega) (by omega)]
  have : (15 : Int).toNat = 15 := rfl
  rw [this, nat_mask4]
  omega

theorem digits_fin : ∀ n : Fin 16, (((⟨#[48, 49, 50, 51, 52, 53, 54, 55, 56, 57, 97, 98, 99, 100, 101, 102]⟩ : ByteArray)[n.val]'(by have := n.isLt; exact this)).toNat : Int) = hd n.val := by
  decide +kernel

theorem digits_get (v : Int) (h0 : 0 ≤ v) (h1 : v < 16) (hh : v.toNat < (⟨#[48, 49, 50, 51, 52, 53, 54, 55, 56, 57, 97, 98, 99, 100, 101, 102]⟩ : ByteArray).size) :
    (((⟨#[48, 49, 50, 51, 52, 53, 54, 55, 56, 57, 97, 98, 99, 100, 101, 102]⟩ : ByteArray)[v.toNat]'hh).toNat : Int) = hd v := by
  have := digits_fin ⟨v.toNat, by omega⟩
  have e : ((v.toNat : Nat) : Int) = v := by omega
  simp only [e] at this
  exact this

theorem pair_reads (w : World) (a b : UInt8) : Reads ((w.alloc (.cells #[.int .u8 (a.toNat : Int), .int .u8 (b.toNat : Int)] 5)).drew) (.slice (some ⟨w.heap.size, 0, none⟩) 2 2) [(a.toNat : Int), (b.toNat : Int)] := by
  have ha := a.toNat_lt
  have hb := b.toNat_lt
  refine ⟨_, 2, rfl, Nat.le_refl _, fun h => by simp at h, ?_, fun _ => ⟨w.heap.size, 0, rfl, ?_⟩⟩
  · intro z hz
    simp at hz
    rcases hz with rfl | rfl <;> omega
  · intro i hi
    have hr : ((w.alloc (.cells #[.int .u8 (a.toNat : Int), .int .u8 (b.toNat : Int)] 5)).drew).heap[w.heap.size]? = some (.cells #[.int .u8 (a.toNat : Int), .int .u8 (b.toNat : Int)] 5 (0, 0)) := heap_alloc_new w _
    rw [cell_of_row _ _ _ _ _ _ hr]
    match i, hi with
    | 0, _ => rfl
    | 1, _ => rfl

end Go.Proofs.YtpihigcnoifcfaaGreatDoor

/- ShaNil's walk: the law returns true at every b, and nothing that was in memory turns. -/
namespace Go.Proofs.YtpihigcnoifcfaaGreatDoor
set_option maxRecDepth 20000
open Go.RowKit

theorem abc_reads (w : World) : Reads (w.alloc (.cells #[.int .u8 97, .int .u8 98, .int .u8 99] 5 (3, 4))) (.slice (some ⟨w.heap.size, 0, none⟩) 3 3) [97, 98, 99] := by
  refine ⟨_, 3, rfl, Nat.le_refl _, fun h => by simp at h, by intro z hz; simp at hz; omega, fun _ => ⟨w.heap.size, 0, rfl, ?_⟩⟩
  intro i hi
  have hr : (w.alloc (.cells #[.int .u8 97, .int .u8 98, .int .u8 99] 5 (3, 4))).heap[w.heap.size]? = some (.cells #[.int .u8 97, .int .u8 98, .int .u8 99] 5 (3, 4)) := heap_alloc_new w _
  rw [cell_of_row _ _ _ _ _ _ hr]
  match i, hi with
  | 0, _ => rfl
  | 1, _ => rfl
  | 2, _ => rfl

theorem abc_text : ((strOfNums (hx (dig [97, 98, 99]))).toList == [98, 97, 55, 56, 49, 54, 98, 102, 56, 102, 48, 49, 99, 102, 101, 97, 52, 49, 52, 49, 52, 48, 100, 101, 53, 100, 97, 101, 50, 50, 50, 51, 98, 48, 48, 51, 54, 49, 97, 51, 57, 54, 49, 55, 55, 97, 57, 99, 98, 52, 49, 48, 102, 102, 54, 49, 102, 50, 48, 48, 49, 53, 97, 100]) = true := by
  rw [dig_abc]
  kernel_rfl

theorem Blk.reads {w : World} {g : Nat} {t : TypeId} {zs : List Int} (h : Blk w g t (B zs)) (hb : Bytes zs) : Reads w (.slice (some ⟨g, 0, none⟩) zs.length zs.length) zs :=
  ⟨_, _, rfl, Nat.le_refl _, fun h => by simp at h, hb, fun _ => ⟨g, 0, rfl, fun i hi => by rw [Nat.zero_add]; exact h.bcell i hi⟩⟩

end Go.Proofs.YtpihigcnoifcfaaGreatDoor

/- The document's digest (rootcellarref02.Sum), as a contract. -/
namespace Go.Proofs.YtpihigcnoifcfaaGreatDoor
set_option maxRecDepth 20000
open Go.RowKit

theorem zero_b32' : ∀ w, (zeroValue 23).run Tryz.prog w = .ok (.agg (B (List.replicate 32 0))) w := Tryz.zeroValue23

theorem out_get (W : List Int) (i : Nat) (hi : i / 4 < W.length) : (out W).getD i 0 = W.getD (i / 4) 0 / 2 ^ (24 - 8 * (i % 4)) % 256 := by
  induction W generalizing i with
  | nil => simp at hi
  | cons a W ih =>
    have e : out (a :: W) = [a / 16777216 % 256, a / 65536 % 256, a / 256 % 256, a % 256] ++ out W := by simp [out]
    rw [e]
    by_cases h4 : i < 4
    · have hd : i / 4 = 0 := by omega
      rw [hd]
      match i, h4 with
      | 0, _ => simp
      | 1, _ => simp
      | 2, _ => simp
      | 3, _ => simp
    · obtain ⟨j, rfl⟩ : ∃ j, i = j + 4 := ⟨i - 4, by omega⟩
      have h1 := ih j (by simp at hi; omega)
      rw [show (j + 4) / 4 = j / 4 + 1 by omega, show (j + 4) % 4 = j % 4 by omega, List.getD_cons_succ, ← h1]
      simp [List.getD]

theorem Own.cells {base : Nat} {w : World} {a : Option Addr} {n c : Nat} {zs sp : List Int} (h : Own base w (.slice a n c) zs sp) (hp : 0 < zs.length) : ∃ g, a = some ⟨g, 0, none⟩ ∧ base ≤ g ∧ g < w.heap.size ∧ n = zs.length ∧ n ≤ c ∧ ∀ i, i < zs.length → w.cell? ⟨g, i, none⟩ = some (.int .u8 (zs.getD i 0)) := by
  obtain ⟨h1, h2, h3, h4⟩ := h
  rcases h4 with ⟨e, rfl, rfl⟩ | ⟨g, rest, hg, e, hr⟩
  · simp at hp
  · injection e with e1 e2 e3
    subst e1
    refine ⟨g, rfl, hg, hr.lt, e2, by omega, fun i hi => ?_⟩
    rw [hr.cell i (by simp; omega), List.append_assoc]
    simp [List.getD, List.getElem?_append_left hi]

theorem whole_over (xs ys : List Value) (h : xs.length = ys.length) : (xs.take 0 ++ (ys ++ xs.drop (0 + ys.length))).toArray = ys.toArray := by
  rw [List.take_zero, List.nil_append, List.drop_of_length_le (by omega), List.append_nil]

theorem take_set_next (l : List Int) (i m : Nat) (hi : i < l.length) : (l.take i ++ List.replicate (m + 1) 0).set i (l.getD i 0) = l.take (i + 1) ++ List.replicate m 0 := by
  have hl : (l.take i).length = i := by simp; omega
  rw [List.replicate_succ, List.set_append_right _ _ (by omega), hl, Nat.sub_self, List.set_cons_zero, List.take_succ_eq_append_getElem hi, List.append_assoc]
  simp only [List.getD, List.getElem?_eq_getElem hi, Option.getD_some, List.singleton_append]

end Go.Proofs.YtpihigcnoifcfaaGreatDoor
