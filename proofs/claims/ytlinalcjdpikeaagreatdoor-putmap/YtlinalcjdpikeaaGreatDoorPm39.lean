/- node.RootAt and node.Root at any entries, as contracts. -/
import Derived.Test.YtlinalcjdpikeaaGreatDoorPm38
import Derived.Test.YtlinalcjdpikeaaGreatDoorPm37
import Derived.Deep.RegionHeld2
namespace Go.Proofs.YtlinalcjdpikeaaGreatDoor
set_option maxRecDepth 20000
open Go.RowKit

def RootPost (es : List Ent) (d : Int) (w : World) (e : Ending) (w' : World) : Prop := ∃ h E, e = .returned (.tuple #[.agg (B h), .int .i64 E]) ∧ RootIs es d h E ∧ Below w.heap.size w w'

theorem errB_long {es : List Ent} (h : 4096 < es.length) : errB es = 4 := by rw [errB, if_pos h]

theorem RootAt_any (v : Value) (V : Nat → Value) (es : List Ent) (d : Int) (w : World) (hv : PrAt w v V es) (hn : es.length ≤ 140737488355328) (hL : Laid w) : Calls Tryz.prog 59 #[v, .int .i64 d] w (RootPost es d w) := by
  by_cases hd : d < 0 ∨ 256 < d
  · exact (RootAt_out v V es d w hv hd).mono fun e w' ⟨h1, h2⟩ => ⟨_, _, h1, .out hd, h2⟩
  · obtain ⟨m, rfl⟩ : ∃ m : Nat, d = (m : Int) := ⟨d.toNat, by omega⟩
    by_cases hE : errB es = 0
    · have hl : es.length ≤ 4096 := by
        by_cases h : 4096 < es.length
        · rw [errB_long h] at hE
          omega
        · omega
      by_cases hs : SameE es m
      · exact (RootAt_in v V es m true w hv hl hL (by omega) hE ⟨fun _ => hs, fun _ => rfl⟩).mono fun e w' ⟨h1, h2⟩ => ⟨_, _, h1, .good (by omega) (by omega) hE (by simpa using hs), h2⟩
      · exact (RootAt_in v V es m false w hv hl hL (by omega) hE ⟨fun h => (by cases h), fun h => absurd h hs⟩).mono fun e w' ⟨h1, h2⟩ => ⟨_, _, h1, .part (by omega) (by omega) hE (by simpa using hs), h2⟩
    · exact (RootAt_bad v V es m w hv hn (by omega) hE).mono fun e w' ⟨h1, h2⟩ => ⟨_, _, h1, .bad _ (by omega) (by omega) rfl hE, h2⟩

set_option maxHeartbeats 2000000 in
theorem Root_any (v : Value) (V : Nat → Value) (es : List Ent) (w : World) (hv : PrAt w v V es) (hn : es.length ≤ 140737488355328) (hL : Laid w) : Calls Tryz.prog 23 #[v] w (RootPost es 0 w) := by
  have HR : Hid (∀ w', Below w.heap.size w w' → Calls Tryz.prog 59 #[v, .int .i64 0] w' (RootPost es 0 w')) := fun w' hb => RootAt_any v V es 0 w' (hv.grow hb) hn (hL.grow hb)
  obtain ⟨a, cap, rfl, _, _, _⟩ := hv
  clear hL
  go_enter Tryz.func23, Tryz.ntmps23
  go_wp2_with (first
    | ((with_reducible refine at_ald 2 ?_); refine wpList_al _ rfl _ rfl _ zero_hash ?_; intro w1 g1 hg1 hl1 B1 b1)
    | (go_at_call 59; refine (HR.out _ b1).mono ?_; rintro e w2 ⟨h, E, rfl, hi, b2⟩; have HI := hidden hi; have HF := hidden (hash_facts h hi.len); clear hi; have B2 := B1.grow b2)
    | ((with_reducible refine at_st 2 ?_); refine wpList_sto _ rfl _ _ _ rfl g1 _ (B h) rfl rfl B2 HF.out.1 HF.out.2 (B_one _) ?_; intro w3 B3 r3))
  exact bodyPost_ret (v := .tuple #[.agg (B h), .int .i64 E]) (results_row_tmp rfl _ _ g1 _ _ _ _ rfl rfl B3 Tryz.underlying55 HF.out.1) rfl ⟨h, E, rfl, HI.out, below_row (grow_trans b1 b2) r3 hg1⟩

end Go.Proofs.YtlinalcjdpikeaaGreatDoor

/- The document's Set (rootcellarref04), as a contract. -/
namespace Go.Proofs.YtlinalcjdpikeaaGreatDoor
set_option maxRecDepth 20000
open Go.RowKit

theorem u_b32 : Tryz.prog.underlying 30 = some (.array 32 5) := Tryz.underlying30
theorem b32_size {xs : List Int} (h : Key xs) : (Tryz.prog.info? 30).map (·.size) = some (B xs).size := by rw [B_size, h.1]; exact size_b32

theorem set_key (xs : List Int) (d : Nat) (b z : Int) (hx : Key xs) (hd : d < 256) (hb : b = 0 ∨ b = 1) (hz : z = xs.getD (d / 8) 0 + (b - kb xs d) * 2 ^ (7 - d % 8)) : 0 ≤ z ∧ z ≤ 255 ∧ IsSet xs d b (xs.set (d / 8) z) := by
  obtain ⟨⟨h1, h2⟩, h3⟩ := bt_put (xs.getD (d / 8) 0) b (hx.byte _) hb (d % 8) (by omega)
  have e : xs.getD (d / 8) 0 + (b - bt (xs.getD (d / 8) 0) (d % 8)) * 2 ^ (7 - d % 8) = z := hz.symm
  rw [e] at h1 h2 h3
  refine ⟨h1, h2, hx.set _ _ ⟨h1, h2⟩, fun j hj => ?_⟩
  rw [kb_set _ _ _ _ (by rw [hx.1]; omega)]
  by_cases q : j / 8 = d / 8
  · rw [if_pos q, h3 _ (by omega)]
    by_cases p : j % 8 = d % 8
    · rw [if_pos p, if_pos (by omega)]
    · rw [if_neg p, if_neg (by omega)]
      unfold kb
      rw [q]
  · rw [if_neg q, if_neg (by omega)]

set_option maxHeartbeats 4000000 in
set_option maxRecDepth 10000 in
theorem rset_in (xs : List Int) (d : Nat) (b : Int) (w : World) (hx : Key xs) (hd : d < 256) (hb : b = 0 ∨ b = 1) : Calls Tryz.prog 152 #[.agg (B xs), .int .i64 d, .int .i64 b] w fun e w' => ∃ ys, IsSet xs d b ys ∧ e = .returned (.agg (B ys)) ∧ Below w.heap.size w w' := by
  have HX := hidden hx
  have h2 : ((d / 8 : Nat) : Int) < 32 := by omega
  have hby := hx.byte (d / 8)
  obtain ⟨x, hxx⟩ : ∃ x, x = xs.getD (d / 8) 0 := ⟨_, rfl⟩
  rw [← hxx] at hby
  have hwx : wrap64 x = x := Go.IntWalk.wrap64_in _ (by omega)
  obtain ⟨y, hy⟩ : ∃ y, y = kb xs d := ⟨_, rfl⟩
  have hy2 : y = 0 ∨ y = 1 := by rw [hy]; exact kb_two xs d
  have cB : Hid (∀ w', Calls Tryz.prog 134 #[.agg (B xs), .int .i64 d] w' fun e w'' => e = .returned (.int .i64 y) ∧ Below w'.heap.size w' w'') := by
    intro w'
    rw [hy]
    exact rbit_in xs d w' hx hd
  obtain ⟨W, hW⟩ : ∃ W : Int, W = 2 ^ (7 - d % 8) := ⟨_, rfl⟩
  obtain ⟨f, hf⟩ : ∃ f : Int, f = b - y := ⟨_, rfl⟩
  obtain ⟨m, hm⟩ : ∃ m : Int, m = f * W := ⟨_, rfl⟩
  obtain ⟨z, hz⟩ : ∃ z : Int, z = x + m := ⟨_, rfl⟩
  obtain ⟨z0, z1, hset⟩ := set_key xs d b z hx hd hb (by rw [hz, hm, hf, hxx, hy, hW])
  have HSET := hidden hset
  have HW := hidden hW
  have w9 : IntKind.i64.wrap (b - y) = f := by rw [IntKind.wrap_i64]; omega
  have w11 : IntKind.i64.wrap (f * W) = m := by rw [← hm, IntKind.wrap_i64]; omega
  have w12 : IntKind.i64.wrap (x + m) = z := by rw [← hz, IntKind.wrap_i64]; omega
  have w13 : z % 256 = z := by omega
  have w1 : IntKind.i64.wrap ((d : Int) / 8) = (d : Int) / 8 := by rw [IntKind.wrap_i64]; omega
  have w4 : IntKind.i64.wrap x = x := by rw [IntKind.wrap_i64]; omega
  have hbd : 0 ≤ (d : Int) / 8 ∧ (d : Int) / 8 < 32 := by omega
  have htn : ((d : Int) / 8).toNat = d / 8 := by omega
  have HXX := hidden hxx
  have hs := b32_size hx
  have hs2 := b32_size hset.1
  have HZ : Hid ((B (xs.set (d / 8) z)).size = 32) := by rw [B_size]; exact hset.1.1
  have hiX : (Tryz.prog.info? 30).map (·.size) = some (B xs).toList.length := by rw [B_toList, List.length_map, hx.1]; exact size_b32
  clear hx hxx hW hf hm hz hset hy2 hb hy
  go_enter Tryz.func152, Tryz.ntmps152
  go_wp2_with (first | (refine wpList_bx _ rfl _ _ rfl _ rfl ?_; intro w1 g1 hg1 hl1 B1 b1) | (refine wpList_al _ rfl _ rfl _ zero_b32 ?_; intro w2 g2 hg2 hl2 B2 b2; have B1' := B1.grow b2))
  have c2 := grow_trans b1 b2
  have hg3 : w.heap.size ≤ g2 := Nat.le_trans b1.size hg2
  have hne : g2 ≠ g1 := by omega
  have HB : Hid (∀ w', Below w2.heap.size w2 w' → Blk w' g1 30 (B xs) ∧ Blk w' g2 30 (B (List.replicate 32 0))) := fun w' hw' => ⟨B1'.grow hw', B2.grow hw'⟩
  have HS : Hid (∀ w', Below w2.heap.size w2 w' → w'.rangeAt g1 0 (B xs).toList ∧ w'.cell? ⟨g1, d / 8, none⟩ = some (.int .u8 x)) := fun w' hw' => ⟨(B1'.grow hw').range, by
    have := (B1'.grow hw').bcell (d / 8) (by rw [HX.out.1]; omega)
    rw [← HXX.out] at this
    exact this⟩
  clear B1 B1' B2 b1 b2 hl1 hl2 hg2
  have hm : d % 8 < 8 := Nat.mod_lt _ (by omega)
  go_loopw [7, 8] (fun s i wr => ∃ (k : Nat) (v : Int), k ≤ 7 - d % 8 ∧ s = .int .i64 v ∧ i = .int .i64 k ∧ Hid (v = 2 ^ k) ∧ 0 ≤ v ∧ v ≤ 128 ∧ wr = w2) (fun _ i _ => 8 - (intOf i).toNat)
  case atStart => exact ⟨0, 1, by omega, rfl, rfl, by show _ = _; simp, by omega, by omega, rfl⟩
  case round =>
    obtain ⟨k, v, hk, rfl, rfl, hv, hv0, hv1, hwr⟩ := hrel
    by_cases hlt : k < 7 - d % 8
    · subst hwr
      have hlt' : (k : Int) < 7 - (d : Int) % 8 := by omega
      have hv2 : v ≤ 64 := by
        have h := (show ∀ k, k < 7 → 2 ^ k ≤ 64 from by decide +kernel) k (by omega)
        rw [hv.out]
        have e : (2 : Int) ^ k = ((2 ^ k : Nat) : Int) := by rw [Int.natCast_pow]; rfl
        rw [e]
        exact Int.ofNat_le.2 h
      go_wp2
      exact ⟨⟨k + 1, 2 * v, by omega, by go_num, by go_num, by show _ = _; rw [hv.out, Int.pow_succ, Int.mul_comm], by omega, by omega, trivial⟩, by simp [intOf]; omega⟩
    · have hlt' : decide ((k : Int) < 7 - (d : Int) % 8) = false := decide_eq_false (by omega)
      obtain rfl : k = 7 - d % 8 := by omega
      obtain rfl : v = W := by rw [hv.out, HW.out]
      subst hwr
      obtain ⟨wz, rfl⟩ : ∃ x, x = wr := ⟨_, rfl⟩
      have d0 : Below wz.heap.size wz wz.drew := (Below.refl _ _).drew
      clear hlt hlt'
      go_wp2_with fail
      refine wp_region_held_drew (S := fun w' => w'.rangeAt g1 0 (B xs).toList ∧ w'.cell? ⟨g1, d / 8, none⟩ = some (.int .u8 x)) (by kernel_rfl) (HS.out _ d0) (fun hHeld => ?_)
      refine wpAnyH_take (i := 0) (v := .int .i64 (d : Int)) rfl (by kernel_rfl) (by kernel_rfl) (by kernel_rfl) (fun _ _ _ h => h) (Or.inl ⟨by rfl, fun w hS => by go_simp⟩) hHeld ?_
      simp only [Act.put, List.getElem_toArray, List.getElem_cons_zero, List.setIfInBounds_toArray, List.set_cons_zero, List.set_cons_succ]
      refine wpAnyH_take (i := 1) (v := .int .i64 ((d : Int) / 8)) rfl (by kernel_rfl) (by kernel_rfl) (by kernel_rfl) (fun _ _ _ h => h) (Or.inl ⟨by rfl, fun w hS => by go_simp⟩) hHeld ?_
      simp only [Act.put, List.getElem_toArray, List.getElem_cons_zero, List.getElem_cons_succ, List.setIfInBounds_toArray, List.set_cons_zero, List.set_cons_succ]
      refine wpAnyH_take (i := 2) (v := .pointer (some ⟨g1, d / 8, none⟩)) rfl (by kernel_rfl) (by kernel_rfl) (by kernel_rfl) (fun _ _ _ h => h) (Or.inl ⟨by rfl, fun w hS => by go_simp⟩) hHeld ?_
      simp only [Act.put, List.getElem_toArray, List.getElem_cons_zero, List.getElem_cons_succ, List.setIfInBounds_toArray, List.set_cons_zero, List.set_cons_succ]
      refine wpAnyH_take (i := 3) (v := .int .u8 x) rfl (by kernel_rfl) (by kernel_rfl) (by kernel_rfl) (fun _ _ _ h => h) (Or.inl ⟨by rfl, fun w hS => by (have q1 := hS.2; go_simp)⟩) hHeld ?_
      simp only [Act.put, List.getElem_toArray, List.getElem_cons_zero, List.getElem_cons_succ, List.setIfInBounds_toArray, List.set_cons_zero, List.set_cons_succ]
      refine wpAnyH_take (i := 4) (v := .int .i64 x) rfl (by kernel_rfl) (by kernel_rfl) (by kernel_rfl) (fun _ _ _ h => h) (Or.inl ⟨by rfl, fun w hS => by go_simp⟩) hHeld ?_
      simp only [Act.put, List.getElem_toArray, List.getElem_cons_zero, List.getElem_cons_succ, List.setIfInBounds_toArray, List.set_cons_zero, List.set_cons_succ]
      refine wpAnyH_take (i := 5) (v := .int .i64 b) rfl (by kernel_rfl) (by kernel_rfl) (by kernel_rfl) (fun _ _ _ h => h) (Or.inl ⟨by rfl, fun w hS => by go_simp⟩) hHeld ?_
      simp only [Act.put, List.getElem_toArray, List.getElem_cons_zero, List.getElem_cons_succ, List.setIfInBounds_toArray, List.set_cons_zero, List.set_cons_succ]
      refine wpAnyH_take (i := 6) (v := .agg (B xs)) rfl (by kernel_rfl) (by kernel_rfl) (by kernel_rfl) (fun _ _ _ h => h) (yieldsIf_load_mid rfl 30 (.tmp 3) rfl g1 0 rfl (B xs).toList _ (fun w hS => hS.1) u_b32 rfl hiX) hHeld ?_
      simp only [Act.put, List.getElem_toArray, List.getElem_cons_zero, List.getElem_cons_succ, List.setIfInBounds_toArray, List.set_cons_zero, List.set_cons_succ]
      refine wpAnyH_take (i := 7) (v := .int .i64 (d : Int)) rfl (by kernel_rfl) (by kernel_rfl) (by kernel_rfl) (fun _ _ _ h => h) (Or.inl ⟨by rfl, fun w hS => by go_simp⟩) hHeld ?_
      simp only [Act.put, List.getElem_toArray, List.getElem_cons_zero, List.getElem_cons_succ, List.setIfInBounds_toArray, List.set_cons_zero, List.set_cons_succ]
      refine wpAnyH_take (i := 10) (v := .int .i64 v) rfl (by kernel_rfl) (by kernel_rfl) (by kernel_rfl) (fun _ _ _ h => h) (Or.inl ⟨by rfl, fun w hS => by go_simp⟩) hHeld ?_
      simp only [Act.put, List.getElem_toArray, List.getElem_cons_zero, List.getElem_cons_succ, List.setIfInBounds_toArray, List.set_cons_zero, List.set_cons_succ]
      refine wpAnyH_ready (rs := [8]) (by kernel_rfl) (by simp) ?_
      refine AllReadyH.cons rfl (fun KQ hK => ?_) AllReadyH.nil
      go_simp
      refine (cB.out _).mono ?_
      rintro e x1 ⟨rfl, a1⟩
      have d1 := grow_trans d0 a1
      refine hK.out _ _ (HS.out _ d1) (fun hHeld => ?_)
      clear hK KQ
      refine wpAnyH_take (i := 9) (v := .int .i64 f) rfl (by kernel_rfl) (by kernel_rfl) (by kernel_rfl) (fun _ _ _ h => h) (Or.inl ⟨by rfl, fun w hS => by go_simp⟩) hHeld ?_
      simp only [Act.put, List.getElem_toArray, List.getElem_cons_zero, List.getElem_cons_succ, List.setIfInBounds_toArray, List.set_cons_zero, List.set_cons_succ]
      refine wpAnyH_take (i := 11) (v := .int .i64 m) rfl (by kernel_rfl) (by kernel_rfl) (by kernel_rfl) (fun _ _ _ h => h) (Or.inl ⟨by rfl, fun w hS => by go_simp⟩) hHeld ?_
      simp only [Act.put, List.getElem_toArray, List.getElem_cons_zero, List.getElem_cons_succ, List.setIfInBounds_toArray, List.set_cons_zero, List.set_cons_succ]
      refine wpAnyH_take (i := 12) (v := .int .i64 z) rfl (by kernel_rfl) (by kernel_rfl) (by kernel_rfl) (fun _ _ _ h => h) (Or.inl ⟨by rfl, fun w hS => by go_simp⟩) hHeld ?_
      simp only [Act.put, List.getElem_toArray, List.getElem_cons_zero, List.getElem_cons_succ, List.setIfInBounds_toArray, List.set_cons_zero, List.set_cons_succ]
      refine wpAnyH_ready (rs := [13]) (by kernel_rfl) (by simp) ?_
      refine AllReadyH.cons rfl (fun KQ hK => ?_) AllReadyH.nil
      go_simp
      refine hK.out _ _ (HS.out _ d1) (fun hHeld => ?_)
      clear hK KQ
      refine wpAnyH_done (by kernel_rfl) ?_ _
      have B4 := (HB.out _ d1).1
      have B5 := (HB.out _ d1).2
      have c1 := (HS.out _ d1).2
      have f1 := B4.frozen (d / 8)
      have c4 : Below w.heap.size w x1 := grow_trans c2 d1
      clear HS HB d0 d1 a1 w9 w11 w12 w1 w4 hbd htn
      go_wp2_with (first | (refine wpList_ld _ rfl _ _ rfl g1 _ rfl (B4.bset (d / 8) z) _ _ u_b32 hs2 ?_) | (refine wpList_sto _ rfl _ _ _ rfl g2 _ (B (xs.set (d / 8) z)) rfl rfl (B5.other (d / 8) (.int .u8 z) hne) hs2 (by rw [HZ.out, B_size]; simp) (B_one _) ?_; intro w5 B6 g5))
      exact bodyPost_ret (v := .agg (B (xs.set (d / 8) z))) (results_cell_row rfl _ _ g2 _ _ _ _ rfl B6 u_b32 rfl hs2) rfl ⟨_, HSET.out, rfl, below_row (setCell_below _ _ c4 hg1) g5 hg3⟩

end Go.Proofs.YtlinalcjdpikeaaGreatDoor

/- The document's Of and Compare (rootcellarref04), as contracts. -/
namespace Go.Proofs.YtlinalcjdpikeaaGreatDoor
set_option maxRecDepth 20000
open Go.RowKit

/-- The first k bytes are laid. -/
def Cop (xs : List Int) (k : Nat) (ys : List Int) : Prop := ys.length = 32 ∧ ∀ j, j < 32 → ys.getD j 0 = if j < k then xs.getD j 0 else 0
theorem Cop.start (xs : List Int) : Cop xs 0 (List.replicate 32 0) := ⟨by simp, fun j hj => by rw [if_neg (by omega)]; rw [List.getD_eq_getElem?_getD, List.getElem?_replicate, if_pos hj]; rfl⟩
theorem Cop.step {xs ys : List Int} {k : Nat} (h : Cop xs k ys) (hk : k < 32) : Cop xs (k + 1) (ys.set k (xs.getD k 0)) := by
  refine ⟨by rw [List.length_set]; exact h.1, fun j hj => ?_⟩
  rw [key_getD_set _ _ _ _ (by rw [h.1]; exact hk), h.2 j hj]
  by_cases e : j = k
  · subst e
    rw [if_pos rfl, if_pos (by omega)]
  · rw [if_neg e]
    by_cases q : j < k
    · rw [if_pos q, if_pos (by omega)]
    · rw [if_neg q, if_neg (by omega)]
theorem Cop.all {xs ys : List Int} (h : Cop xs 32 ys) (hl : xs.length = 32) : ys = xs := by
  apply List.ext_getElem (by rw [h.1, hl])
  intro j h1 h2
  have := h.2 j (by have := h.1; omega)
  rw [if_pos (by have := h.1; omega)] at this
  simpa [List.getD, h1, h2] using this

end Go.Proofs.YtlinalcjdpikeaaGreatDoor
