/- node.RootAt and node.Root at any entries, as contracts. -/
import Derived.Test.YtpbmpmiicdpehabGreatDoorDb42
import Derived.Test.YtpbmpmiicdpehabGreatDoorDb36
import Derived.Deep.RegionHeld2
namespace Go.Proofs.YtpbmpmiicdpehabGreatDoor
set_option maxRecDepth 20000
open Go.RowKit

def RootPost (es : List Ent) (d : Int) (w : World) (e : Ending) (w' : World) : Prop := ∃ h E, e = .returned (.tuple #[.agg (B h), .int .i64 E]) ∧ RootIs es d h E ∧ Below w.heap.size w w'

theorem errB_long {es : List Ent} (h : 4096 < es.length) : errB es = 4 := by rw [errB, if_pos h]

theorem RootAt_any (v : Value) (V : Nat → Value) (es : List Ent) (d : Int) (w : World) (hv : PrAt w v V es) (hn : es.length ≤ 140737488355328) (hL : Laid w) : Calls Tryz.prog 31 #[v, .int .i64 d] w (RootPost es d w) := by
  by_cases hd : d < 0 ∨ 256 < d
  · exact (RootAt_out v V es d w hv hd).mono fun e w' ⟨h1, h2⟩ => ⟨_, _, h1, .out hd, h2⟩
  · obtain ⟨m, rfl⟩ : ∃ m : Nat, d = (m : Int) := ⟨d.toNat, by omega⟩
    by_cases hE : errB es = 0
    · have hl : es.length ≤ 4096 := by
        by_cases h : 4096 < es.length
        · rw [errB_long h] at hE
          omega
        · omega
      by_cases hs : SameE es m
      · exact (RootAt_in v V es m true w hv hl hL (by omega) hE ⟨fun _ => hs, fun _ => rfl⟩).mono fun e w' ⟨h1, h2⟩ => ⟨_, _, h1, .good (by omega) (by omega) hE (by simpa using hs), h2⟩
      · exact (RootAt_in v V es m false w hv hl hL (by omega) hE ⟨fun h => (by cases h), fun h => absurd h hs⟩).mono fun e w' ⟨h1, h2⟩ => ⟨_, _, h1, .part (by omega) (by omega) hE (by simpa using hs), h2⟩
    · exact (RootAt_bad v V es m w hv hn (by omega) hE).mono fun e w' ⟨h1, h2⟩ => ⟨_, _, h1, .bad _ (by omega) (by omega) rfl hE, h2⟩

set_option maxHeartbeats 2000000 in
theorem Root_any (v : Value) (V : Nat → Value) (es : List Ent) (w : World) (hv : PrAt w v V es) (hn : es.length ≤ 140737488355328) (hL : Laid w) : Calls Tryz.prog 12 #[v] w (RootPost es 0 w) := by
  have HR : Hid (∀ w', Below w.heap.size w w' → Calls Tryz.prog 31 #[v, .int .i64 0] w' (RootPost es 0 w')) := fun w' hb => RootAt_any v V es 0 w' (hv.grow hb) hn (hL.grow hb)
  obtain ⟨a, cap, rfl, _, _, _⟩ := hv
  clear hL
  go_enter Tryz.func12, Tryz.ntmps12
  go_wp2_with (first
    | ((with_reducible refine at_ald 2 ?_); refine wpList_al _ rfl _ rfl _ zero_hash ?_; intro w1 g1 hg1 hl1 B1 b1)
    | (go_at_call 31; refine (HR.out _ b1).mono ?_; rintro e w2 ⟨h, E, rfl, hi, b2⟩; have HI := hidden hi; have HF := hidden (hash_facts h hi.len); clear hi; have B2 := B1.grow b2)
    | ((with_reducible refine at_st 2 ?_); refine wpList_sto _ rfl _ _ _ rfl g1 _ (B h) rfl rfl B2 HF.out.1 HF.out.2 (B_one _) ?_; intro w3 B3 r3))
  exact bodyPost_ret (v := .tuple #[.agg (B h), .int .i64 E]) (results_row_tmp rfl _ _ g1 _ _ _ _ rfl rfl B3 Tryz.underlying39 HF.out.1) rfl ⟨h, E, rfl, HI.out, below_row (grow_trans b1 b2) r3 hg1⟩

end Go.Proofs.YtpbmpmiicdpehabGreatDoor

/- The document's Set (rootcellarref04), as a contract. -/
namespace Go.Proofs.YtpbmpmiicdpehabGreatDoor
set_option maxRecDepth 20000
open Go.RowKit

theorem u_b32 : Tryz.prog.underlying 31 = some (.array 32 5) := Tryz.underlying31
theorem b32_size {xs : List Int} (h : Key xs) : (Tryz.prog.info? 31).map (·.size) = some (B xs).size := by rw [B_size, h.1]; exact size_b32

theorem set_key (xs : List Int) (d : Nat) (b z : Int) (hx : Key xs) (hd : d < 256) (hb : b = 0 ∨ b = 1) (hz : z = xs.getD (d / 8) 0 + (b - kb xs d) * 2 ^ (7 - d % 8)) : 0 ≤ z ∧ z ≤ 255 ∧ IsSet xs d b (xs.set (d / 8) z) := by
  obtain ⟨⟨h1, h2⟩, h3⟩ := bt_put (xs.getD (d / 8) 0) b (hx.byte _) hb (d % 8) (by omega)
  have e : xs.getD (d / 8) 0 + (b - bt (xs.getD (d / 8) 0) (d % 8)) * 2 ^ (7 - d % 8) = z := hz.symm
  rw [e] at h1 h2 h3
  refine ⟨h1, h2, hx.set _ _ ⟨h1, h2⟩, fun j hj => ?_⟩
  rw [kb_set _ _ _ _ (by rw [hx.1]; omega)]
  by_cases q : j / 8 = d / 8
  · rw [if_pos q, h3 _ (by omega)]
    by_cases p : j % 8 = d % 8
    · rw [if_pos p, if_pos (by omega)]
    · rw [if_neg p, if_neg (by omega)]
      unfold kb
      rw [q]
  · rw [if_neg q, if_neg (by omega)]

end Go.Proofs.YtpbmpmiicdpehabGreatDoor

/- The document's Of and Compare (rootcellarref04), as contracts. -/
namespace Go.Proofs.YtpbmpmiicdpehabGreatDoor
set_option maxRecDepth 20000
open Go.RowKit

/-- The first k bytes are laid. -/
def Cop (xs : List Int) (k : Nat) (ys : List Int) : Prop := ys.length = 32 ∧ ∀ j, j < 32 → ys.getD j 0 = if j < k then xs.getD j 0 else 0
theorem Cop.start (xs : List Int) : Cop xs 0 (List.replicate 32 0) := ⟨by simp, fun j hj => by rw [if_neg (by omega)]; rw [List.getD_eq_getElem?_getD, List.getElem?_replicate, if_pos hj]; rfl⟩
theorem Cop.step {xs ys : List Int} {k : Nat} (h : Cop xs k ys) (hk : k < 32) : Cop xs (k + 1) (ys.set k (xs.getD k 0)) := by
  refine ⟨by rw [List.length_set]; exact h.1, fun j hj => ?_⟩
  rw [key_getD_set _ _ _ _ (by rw [h.1]; exact hk), h.2 j hj]
  by_cases e : j = k
  · subst e
    rw [if_pos rfl, if_pos (by omega)]
  · rw [if_neg e]
    by_cases q : j < k
    · rw [if_pos q, if_pos (by omega)]
    · rw [if_neg q, if_neg (by omega)]
theorem Cop.all {xs ys : List Int} (h : Cop xs 32 ys) (hl : xs.length = 32) : ys = xs := by
  apply List.ext_getElem (by rw [h.1, hl])
  intro j h1 h2
  have := h.2 j (by have := h.1; omega)
  rw [if_pos (by have := h.1; omega)] at this
  simpa [List.getD, h1, h2] using this

end Go.Proofs.YtpbmpmiicdpehabGreatDoor
