/- The document's Set (rootcellarref04), as a contract. -/
import Derived.Test.YtagkmfgoahbclaaBo26
import Derived.Deep.RegionHeld2
namespace Go.Proofs.Ytagkmfgoahbclaa
set_option maxRecDepth 20000
open Go.RowKit

theorem u_b32 : Try.prog.underlying 33 = some (.array 32 5) := Try.underlying33
theorem b32_size {xs : List Int} (h : Key xs) : (Try.prog.info? 33).map (·.size) = some (B xs).size := by rw [B_size, h.1]; exact size_b32

theorem set_key (xs : List Int) (d : Nat) (b z : Int) (hx : Key xs) (hd : d < 256) (hb : b = 0 ∨ b = 1) (hz : z = xs.getD (d / 8) 0 + (b - kb xs d) * 2 ^ (7 - d % 8)) : 0 ≤ z ∧ z ≤ 255 ∧ IsSet xs d b (xs.set (d / 8) z) := by
  obtain ⟨⟨h1, h2⟩, h3⟩ := bt_put (xs.getD (d / 8) 0) b (hx.byte _) hb (d % 8) (by omega)
  have e : xs.getD (d / 8) 0 + (b - bt (xs.getD (d / 8) 0) (d % 8)) * 2 ^ (7 - d % 8) = z := hz.symm
  rw [e] at h1 h2 h3
  refine ⟨h1, h2, hx.set _ _ ⟨h1, h2⟩, fun j hj => ?_⟩
  rw [kb_set _ _ _ _ (by rw [hx.1]; omega)]
  by_cases q : j / 8 = d / 8
  · rw [if_pos q, h3 _ (by omega)]
    by_cases p : j % 8 = d % 8
    · rw [if_pos p, if_pos (by omega)]
    · rw [if_neg p, if_neg (by omega)]
      unfold kb
      rw [q]
  · rw [if_neg q, if_neg (by omega)]

end Go.Proofs.Ytagkmfgoahbclaa

/- The document's Of and Compare (rootcellarref04), as contracts. -/
namespace Go.Proofs.Ytagkmfgoahbclaa
set_option maxRecDepth 20000
open Go.RowKit

/-- The first k bytes are laid. -/
def Cop (xs : List Int) (k : Nat) (ys : List Int) : Prop := ys.length = 32 ∧ ∀ j, j < 32 → ys.getD j 0 = if j < k then xs.getD j 0 else 0
theorem Cop.start (xs : List Int) : Cop xs 0 (List.replicate 32 0) := ⟨by simp, fun j hj => by rw [if_neg (by omega)]; rw [List.getD_eq_getElem?_getD, List.getElem?_replicate, if_pos hj]; rfl⟩
theorem Cop.step {xs ys : List Int} {k : Nat} (h : Cop xs k ys) (hk : k < 32) : Cop xs (k + 1) (ys.set k (xs.getD k 0)) := by
  refine ⟨by rw [List.length_set]; exact h.1, fun j hj => ?_⟩
  rw [key_getD_set _ _ _ _ (by rw [h.1]; exact hk), h.2 j hj]
  by_cases e : j = k
  · subst e
    rw [if_pos rfl, if_pos (by omega)]
  · rw [if_neg e]
    by_cases q : j < k
    · rw [if_pos q, if_pos (by omega)]
    · rw [if_neg q, if_neg (by omega)]
theorem Cop.all {xs ys : List Int} (h : Cop xs 32 ys) (hl : xs.length = 32) : ys = xs := by
  apply List.ext_getElem (by rw [h.1, hl])
  intro j h1 h2
  have := h.2 j (by have := h.1; omega)
  rw [if_pos (by have := h.1; omega)] at this
  simpa [List.getD, h1, h2] using this

set_option maxHeartbeats 2000000 in
set_option maxRecDepth 10000 in
theorem rcmp_any (xs ys : List Int) (w : World) (hx : Key xs) (hy : Key ys) : Calls Try.prog 20 #[.agg (B xs), .agg (B ys)] w fun e w' => e = .returned (.int .i64 (cmp xs ys)) ∧ Below w.heap.size w w' := by
  have HX := hidden hx
  have HY := hidden hy
  clear hx hy
  go_enter Try.func20, Try.ntmps20
  go_wp2_with (first | (have hz := hl1; clear hz; refine wpList_bx _ rfl _ _ rfl _ rfl ?_; intro w2 g2 hg2 hl2 B2 b2; have B1' := B1.grow b2) | (refine wpList_bx _ rfl _ _ rfl _ rfl ?_; intro w1 g1 hg1 hl1 B1 b1))
  have c2 := grow_trans b1 b2
  have C1 : Hid (∀ w', Below w2.heap.size w2 w' → ∀ i, i < 32 → w'.cell? ⟨g1, i, none⟩ = some (.int .u8 (xs.getD i 0))) := fun w' hw' i hi => (B1'.grow hw').bcell i (by rw [HX.out.1]; exact hi)
  have C2 : Hid (∀ w', Below w2.heap.size w2 w' → ∀ i, i < 32 → w'.cell? ⟨g2, i, none⟩ = some (.int .u8 (ys.getD i 0))) := fun w' hw' i hi => (B2.grow hw').bcell i (by rw [HY.out.1]; exact hi)
  clear B1 B1' B2 b1 b2 hg1 hg2 hl1 hl2
  go_loopw [5] (fun i wr => ∃ k : Nat, k ≤ 32 ∧ i = .int .i64 k ∧ Hid (cmp xs ys = cmp (xs.drop k) (ys.drop k)) ∧ Hid (Below w2.heap.size w2 wr)) (fun i _ => 32 - (intOf i).toNat)
  case atStart => exact ⟨0, by omega, rfl, rfl, Below.refl _ _⟩
  case round =>
    obtain ⟨k, hk, rfl, hcm, hb⟩ := hrel
    by_cases hk2 : k < 32
    · have hk' : (k : Int) < 32 := by omega
      have h1 : k < xs.length := by rw [HX.out.1]; exact hk2
      have h2 : k < ys.length := by rw [HY.out.1]; exact hk2
      have q1 := C1.out _ hb.out k hk2
      have q2 := C2.out _ hb.out k hk2
      have HC : Hid (cmp xs ys = if xs.getD k 0 < ys.getD k 0 then -1 else if ys.getD k 0 < xs.getD k 0 then 1 else cmp (xs.drop (k + 1)) (ys.drop (k + 1))) := by
        show _ = _
        rw [hcm.out, drop_getD xs k h1, drop_getD ys k h2, cmp]
      clear h1 h2
      generalize xs.getD k 0 = p at *
      generalize ys.getD k 0 = q at *
      clear hcm
      by_cases hpq : p < q
      · have HR : Hid (cmp xs ys = -1) := by show _ = _; rw [HC.out, if_pos hpq]
        go_wp2_with fail
        go_quiet (fail)
        go_wp2
        go_ret
        exact ⟨by rw [HR.out]; rfl, below_drewN (grow_trans c2 hb.out) _⟩
      · by_cases hqp : q < p
        · have HR : Hid (cmp xs ys = 1) := by show _ = _; rw [HC.out, if_neg hpq, if_pos hqp]
          go_wp2_with fail
          go_quiet (fail)
          go_wp2_with fail
          go_quiet (fail)
          go_wp2
          go_ret
          exact ⟨by rw [HR.out]; rfl, below_drewN (below_drewN (grow_trans c2 hb.out) _) _⟩
        · have HR : Hid (cmp xs ys = cmp (xs.drop (k + 1)) (ys.drop (k + 1))) := by show _ = _; rw [HC.out, if_neg hpq, if_neg hqp]
          go_wp2_with fail
          go_quiet (fail)
          go_wp2_with fail
          go_quiet (fail)
          go_wp2
          exact ⟨⟨k + 1, by omega, by go_num, HR, below_drewN hb.out _⟩, by simp [intOf]; omega⟩
    · obtain rfl : k = 32 := by omega
      have HR : Hid (cmp xs ys = 0) := by
        show _ = _
        rw [hcm.out, List.drop_of_length_le (by rw [HX.out.1]; omega), List.drop_of_length_le (by rw [HY.out.1]; omega)]
        rfl
      go_wp2
      go_ret
      exact ⟨by rw [HR.out]; rfl, grow_trans c2 hb.out⟩

end Go.Proofs.Ytagkmfgoahbclaa
