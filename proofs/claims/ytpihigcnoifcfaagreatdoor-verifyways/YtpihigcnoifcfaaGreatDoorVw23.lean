/- pack.marks as a contract: the sides' bits, and the sides that are written, both in new memory. -/
import Derived.Test.YtpihigcnoifcfaaGreatDoorVw16
import Derived.Test.YtpihigcnoifcfaaGreatDoorVw22
import Derived.Test.YtpihigcnoifcfaaGreatDoorProg
import Derived.Test.YtpihigcnoifcfaaGreatDoorVw01
namespace Go.Proofs.YtpihigcnoifcfaaGreatDoor
set_option maxRecDepth 20000
open Go.RowKit

theorem Row.keepO {w w' : World} {g : Nat} {zs : List Int} {row : Option Nat} (h : Row w g zs) (hg : w.grownBy w' row) (hn : row ≠ some g) : Row w' g zs := h.of_block (hg.block g h.lt (fun e => hn e.symm))
theorem Row.grow {w w' : World} {g : Nat} {zs : List Int} (h : Row w g zs) (hb : Below w.heap.size w w') : Row w' g zs := h.of_block (hb.block g h.lt)
theorem Own.ne {b : Nat} {w : World} {v : Value} {zs sp : List Int} (h : Own b w v zs sp) {g : Nat} (hg : w.heap.size ≤ g) : v.ownBlock ≠ some g := fun e => by have := (h.lt g e).2; omega
theorem Own.set {b : Nat} {w : World} {v : Value} {zs sp : List Int} (h : Own b w v zs sp) {g : Nat} (hg : v.ownBlock ≠ some g) (o : Nat) (u : Value) : Own b (w.setCell ⟨g, o, none⟩ u) v zs sp :=
  h.of_block fun k hk => (grown_setCell w g o u).block k (h.lt k hk).2 (fun e => hg (by rw [hk]; exact e))
theorem own_below {w0 w w' : World} {v : Value} {zs sp : List Int} (hb : Below w0.heap.size w0 w) (ho : Own w0.heap.size w v zs sp) (hg : w.grownBy w' v.ownBlock) : Below w0.heap.size w0 w' := by
  cases e : v.ownBlock with
  | none => rw [e] at hg; exact ⟨hg.os.trans hb.os, hg.tape.trans hb.tape, hg.output.trans hb.output, Nat.le_trans hb.size hg.size, fun k hk => (hg.block k (Nat.lt_of_lt_of_le hk hb.size) (by simp)).trans (hb.block k hk)⟩
  | some g => rw [e] at hg; exact below_row hb hg (ho.lt g e).1

/-- A bit more set. -/
theorem bits_more {hs : List (List Int)} {k m : Nat} (hk : k < hs.length) (hm : hs.length ≤ 8 * m) (hne : hs.getD k [] ≠ emD) : (bitsOf (mk (hs.take k)) m).set (k / 8) (bits .or .u8 ((bitsOf (mk (hs.take k)) m).getD (k / 8) 0) (2 ^ (7 - k % 8))) = bitsOf (mk (hs.take (k + 1))) m := by
  refine bits_set (by omega) fun i _ => ?_
  have e : hs.take (k + 1) = hs.take k ++ [hs.getD k []] := by rw [List.take_add_one, List.getElem?_eq_getElem hk]; simp [List.getD, hk]
  rw [e, mk_snoc, List.length_take, Nat.min_eq_left (by omega), decide_eq_true hne]
theorem bits_same {hs : List (List Int)} {k m : Nat} (hk : k < hs.length) (hne : hs.getD k [] = emD) : bitsOf (mk (hs.take k)) m = bitsOf (mk (hs.take (k + 1))) m := by
  refine bitsOf_congr fun i _ => ?_
  have e : hs.take (k + 1) = hs.take k ++ [hs.getD k []] := by rw [List.take_add_one, List.getElem?_eq_getElem hk]; simp [List.getD, hk]
  rw [e, mk_snoc, List.length_take, Nat.min_eq_left (by omega), hne]
  by_cases q : i = k
  · rw [if_pos q]
    have l : (hs.take k).length ≤ i := by rw [List.length_take]; omega
    simp [mk, List.getD, List.getElem?_eq_none l]
  · rw [if_neg q]
theorem bits_none (m : Nat) : bitsOf (mk []) m = List.replicate m 0 := by
  symm
  refine bits_is (Bytes.zeros m) (by simp) fun j hj => ?_
  have e : (List.replicate m (0 : Int)).getD (j / 8) 0 = 0 := by
    simp only [List.getD, List.getElem?_replicate]
    split <;> rfl
  rw [kb, e]
  simp [bt, mk, bI]
theorem wr_more {hs : List (List Int)} {k : Nat} (hk : k < hs.length) : wrL (hs.take (k + 1)) = wrL (hs.take k) ++ wrL [hs.getD k []] := by
  have e : hs.take (k + 1) = hs.take k ++ [hs.getD k []] := by rw [List.take_add_one, List.getElem?_eq_getElem hk]; simp [List.getD, hk]
  rw [e, wrL_append]

/-- What marks leaves. -/
def MkPost (hs : List (List Int)) (w : World) (e : Ending) (w' : World) : Prop := ∃ g v sp, e = .returned (.tuple #[.slice (some ⟨g, 0, none⟩) (by7 hs.length) (by7 hs.length), v]) ∧ Own w.heap.size w' (.slice (some ⟨g, 0, none⟩) (by7 hs.length) (by7 hs.length)) (bitsL hs) [] ∧ Own w.heap.size w' v (wrL hs) sp ∧ Below w.heap.size w w'

set_option maxRecDepth 100000 in
set_option maxHeartbeats 8000000 in
theorem marks_any (v : Value) (hs : List (List Int)) (w : World) (hh : HsAt w v hs) (hn : hs.length ≤ 256) (hL : Laid w) : Calls Tryz.prog 24 #[v] w (MkPost hs w) := by
  have HL := hidden hL
  obtain ⟨va, vc, rfl, _, hrow, hdg⟩ := hh
  obtain ⟨n, hnn⟩ : ∃ n, n = hs.length := ⟨_, rfl⟩
  have HNN := hidden hnn
  have HR : Hid (∀ k, k < n → ∃ g off, va = some ⟨g, off, none⟩ ∧ w.rangeAt g (off + k * 32) (B (hs.getD k [])).toList ∧ (hs.getD k []).length = 32 ∧ Bytes (hs.getD k [])) := fun k hk => by
    rw [hnn] at hk
    obtain ⟨g, off, e, h⟩ := hrow (by omega)
    exact ⟨g, off, e, h k hk, hdg k hk⟩
  have HWN : Hid (∀ k, (wrL (hs.take k)).length ≤ 8192) := fun k => by
    have hd : Dg (hs.take k) := fun x hx => by
      obtain ⟨i, hi, rfl⟩ := List.getElem_of_mem (List.mem_of_mem_take hx)
      have := hdg i hi
      simpa [List.getD, hi] using this
    have := wrL_length_le hd
    rw [List.length_take] at this
    omega
  rw [← hnn] at hn ⊢
  obtain ⟨m, hm⟩ : ∃ m, m = by7 n := ⟨_, rfl⟩
  have HM : Hid (n ≤ 8 * m ∧ m ≤ 32) := by show _ ∧ _; rw [hm]; unfold by7; omega
  have HPost : Hid (∀ g v sp w', Own w.heap.size w' (.slice (some ⟨g, 0, none⟩) m m) (bitsL hs) [] → Own w.heap.size w' v (wrL hs) sp → Below w.heap.size w w' → MkPost hs w (.returned (.tuple #[.slice (some ⟨g, 0, none⟩) m m, v])) w') := fun g v sp w' h1 h2 h3 => by
    rw [hm, hnn] at h1 ⊢
    exact ⟨g, v, sp, rfl, h1, h2, h3⟩
  have HBL : Hid (bitsL hs = bitsOf (mk (hs.take n)) m) := by show _ = _; rw [hnn, List.take_length, bitsL, hm, hnn]
  have HWL : Hid (wrL hs = wrL (hs.take n)) := by show _ = _; rw [hnn, List.take_length]
  have HBF : Hid (∀ w, Calls Tryz.prog 52 #[.int .i64 n] w fun e w' => e = .returned (.int .i64 m) ∧ w' = w) := fun w => by rw [hm]; exact bytesFor_any n w (by omega)
  obtain ⟨D, hD⟩ : ∃ D, D = emD := ⟨_, rfl⟩
  have HD := hidden hD
  have HEM : Hid (∀ w', Laid w' → Calls Tryz.prog 53 #[] w' fun e w'' => e = .returned (.agg (B D)) ∧ Below w'.heap.size w' w'') := fun w' h => by rw [hD]; exact pempty_any w' h
  have HSZ : Hid ((Tryz.prog.info? 25).map (·.size) = some (B D).size) := by show _ = _; rw [B_size, hD, emD_length]; exact sz_hash
  have HS2 : Hid ((B (List.replicate 32 0)).size = (B D).size) := by show _ = _; rw [B_size, B_size, hD, emD_length]; rfl
  have HDL : Hid (D.length = 32) := by show _ = _; rw [hD, emD_length]
  have HMK : Hid (∀ k w, k < n → Calls Tryz.prog 54 #[.int .i64 (k : Int)] w fun e w' => e = .returned (.int .u8 (2 ^ (7 - k % 8))) ∧ w' = w) := fun k w hk => mark_any k w (by omega)
  generalize HE : MkPost hs w = Post at HPost ⊢
  have HN6 : Hid (n ≤ 256) := hn
  clear HE hm hnn hrow hdg hL hD hn
  go_enter Tryz.func24, Tryz.ntmps24
  go_wp2_with (first
    | (go_at_call 52; refine (HBF.out _).mono ?_; rintro e w ⟨rfl, rfl⟩)
    | (at_make; refine wpList_mk _ rfl _ _ rfl _ _ _ _ m m rfl rfl rfl rfl (Nat.le_refl _) (by have := HM.out; omega) ?_; intro w2 hr2 hb2 hs2; have HR2 := hidden hr2; have HB2 := hidden hb2; have HS2' := hidden hs2; clear hr2 hb2 hs2)
    | (go_at_call 53; refine (HEM.out _ (HL.out.grow HB2.out)).mono ?_; rintro e w3 ⟨rfl, b3⟩; have HB3 := hidden b3; clear b3)
    | ((with_reducible refine at_ald 4 ?_); refine wpList_al _ rfl _ rfl _ zero_hash ?_; intro w4 g4 hg4 hl4 D4 b4; have HG4 := hidden hg4; have HD4 := hidden D4; have HB4 := hidden b4; clear hg4 hl4 D4 b4)
    | ((with_reducible refine at_st 4 ?_); refine wpList_sto _ rfl _ _ _ rfl g4 _ _ rfl rfl HD4.out HSZ.out HS2.out (B_one _) ?_; intro w5 D5 r5; have HD5 := hidden D5; have HB5 := hidden (below_row HB4.out r5 HG4.out); clear D5 r5))
  obtain ⟨G, hG⟩ : ∃ G, G = w.heap.size := ⟨_, rfl⟩
  rw [← hG] at HR2
  simp only [← hG]
  have HGE := hidden hG
  have HR5 : Hid (Row w5 G (List.replicate m 0)) := (HR2.out.grow HB3.out).grow HB5.out
  have HW5 : Hid (Below w.heap.size w w5) := grow_trans (grow_trans HB2.out HB3.out) HB5.out
  have HG4b : Hid (G < g4 ∧ w.heap.size ≤ g4) := by
    have h1 := HG4.out; have h2 := HB3.out.size; have h3 := HS2'.out; have h4 := HGE.out
    show _ ∧ _
    omega
  clear HR2 HB2 HB3 HB4 HB5 HD4 HG4 HS2' hG HBF HEM
  go_loopw [14, 3] (fun iv fv wr => ∃ (k : Nat) (sp : List Int) (u : Value), k ≤ n ∧ iv = .int .i64 (k : Int) ∧ u = fv ∧ Hid (Own w.heap.size wr u (wrL (hs.take k)) sp) ∧ Hid (u.ownBlock ≠ some G) ∧ Hid (u.ownBlock ≠ some g4) ∧ Hid (Row wr G (bitsOf (mk (hs.take k)) m)) ∧ Hid (Blk wr g4 25 (B D)) ∧ Hid (Below w.heap.size w wr)) (fun iv _ _ => n - (intOf iv).toNat)
  case atStart => exact ⟨0, [], _, by omega, rfl, rfl, Own.nil _ _, by show _ ≠ _; simp [Value.ownBlock], by show _ ≠ _; simp [Value.ownBlock], (by show Row _ _ _; rw [List.take_zero, bits_none]; exact HR5.out), HD5.out, HW5.out⟩
  case round =>
    obtain ⟨k, sp, fv, hk, rfl, rfl, hO, hnG, hn4, hRw, hB4, hBw⟩ := hrel
    have hn6 : n ≤ 256 := HN6.out
    by_cases hlt : k < n
    · obtain ⟨gx, ox, rfl, hra, h32, hby⟩ := HR.out k hlt
      have z1 : (k : Int) < (n : Int) := by omega
      have z0 : (0 : Int) ≤ (k : Int) := by omega
      have hlk : k < hs.length := by rw [← HNN.out]; exact hlt
      have HWM := hidden (wr_more hlk)
      have HBM : Hid (hs.getD k [] ≠ emD → (bitsOf (mk (hs.take k)) m).set (k / 8) (bits .or .u8 ((bitsOf (mk (hs.take k)) m).getD (k / 8) 0) (2 ^ (7 - k % 8))) = bitsOf (mk (hs.take (k + 1))) m) := fun h => bits_more hlk (by rw [← HNN.out]; exact HM.out.1) h
      have HBS : Hid (hs.getD k [] = emD → bitsOf (mk (hs.take k)) m = bitsOf (mk (hs.take (k + 1))) m) := fun h => bits_same hlk h
      obtain ⟨J, hJ⟩ : ∃ J, J = hs.getD k [] := ⟨_, rfl⟩
      rw [← hJ] at hra h32 hby HWM HBM HBS
      have HJL := hidden h32
      have HJB := hidden hby
      have HRA := hidden (rng_grow hra hBw.out)
      have HLJ : Hid ((Tryz.prog.info? 25).map (·.size) = some (B J).toList.length) := by show _ = _; rw [B_toList, List.length_map, h32]; exact sz_hash
      have HLJ2 : Hid ((Tryz.prog.info? 25).map (·.size) = some (B J).size) := by show _ = _; rw [B_size, h32]; exact sz_hash
      have HLJ3 : Hid ((B (List.replicate 32 0)).size = (B J).size) := by show _ = _; rw [B_size, B_size, h32]; rfl
      have hEq : ∀ w, (Op.equalIn 10000 25 (.agg (B J)) (.agg (B D))).run Tryz.prog w = .ok (decide (J = D)) w := fun w => hash_eq J D h32 HDL.out w
      have HMK2 : Hid (∀ w, Calls Tryz.prog 54 #[.int .i64 (k : Int)] w fun e w' => e = .returned (.int .u8 (2 ^ (7 - k % 8))) ∧ w' = w) := fun w => HMK.out k w hlt
      have HLW : Hid (w.heap.size ≤ wr.heap.size) := hBw.out.size
      clear hra h32 hby hJ hlk
      by_cases hJD : J = D
      · rw [decide_eq_true hJD] at hEq
        have HBS2 : Hid (bitsOf (mk (hs.take k)) m = bitsOf (mk (hs.take (k + 1))) m) := HBS.out (by rw [hJD, HD.out])
        have HWM2 : Hid (wrL (hs.take (k + 1)) = wrL (hs.take k)) := by show _ = _; rw [HWM.out, wrL_one, if_pos (by rw [hJD, HD.out]), List.append_nil]
        clear hJD HBS HBM HWM
        go_wp2_with (first
          | ((with_reducible refine at_ldd 18 17 ?_); refine wpList_load_mid rfl _ _ rfl gx (ox + k * 32) rfl (B J).toList _ HRA.out Tryz.underlying25 rfl HLJ.out ?_; rw [Array.toArray_toList])
          | ((with_reducible refine at_ald 6 ?_); refine wpList_al _ rfl _ rfl _ zero_hash ?_; intro w6 g6 hg6 hl6 B6 b6)
          | ((with_reducible refine at_st 6 ?_); refine wpList_sto _ rfl _ _ _ rfl g6 _ (B J) rfl rfl B6 HLJ2.out HLJ3.out (B_one _) ?_; intro w7 B7 r7; have b7 := below_row b6 r7 hg6; have D7 := (hB4.out.grow b6).keptO r7 (by intro e; injection e with e; have := hB4.out.lt; omega))
          | ((with_reducible refine at_ldd 19 6 ?_); refine wpList_ld _ rfl _ _ rfl g6 _ rfl B7 _ _ Tryz.underlying25 HLJ2.out ?_)
          | ((with_reducible refine at_ldd 20 4 ?_); refine wpList_ld _ rfl _ _ rfl g4 _ rfl D7 _ _ Tryz.underlying25 HSZ.out ?_))
        refine ⟨⟨k + 1, sp, _, by omega, by go_num, rfl, ?_, hnG, hn4, ?_, hB4.out.grow b7, grow_trans hBw.out b7⟩, by simp [intOf]; omega⟩
        · show Own _ _ _ _ _
          rw [HWM2.out]
          exact hO.out.grow b7
        · show Row _ _ _
          rw [← HBS2.out]
          exact hRw.out.grow b7
      · rw [decide_eq_false hJD] at hEq
        have HBM2 := hidden (HBM.out (by rw [← HD.out]; exact hJD))
        have HWM2 : Hid (wrL (hs.take (k + 1)) = wrL (hs.take k) ++ J) := by show _ = _; rw [HWM.out, wrL_one, if_neg (by rw [← HD.out]; exact hJD)]
        clear hJD HBS HBM HWM
        go_wp2_with (first
          | ((with_reducible refine at_ldd 18 17 ?_); refine wpList_load_mid rfl _ _ rfl gx (ox + k * 32) rfl (B J).toList _ HRA.out Tryz.underlying25 rfl HLJ.out ?_; rw [Array.toArray_toList])
          | ((with_reducible refine at_ald 6 ?_); refine wpList_al _ rfl _ rfl _ zero_hash ?_; intro w6 g6 hg6 hl6 B6 b6)
          | ((with_reducible refine at_st 6 ?_); refine wpList_sto _ rfl _ _ _ rfl g6 _ (B J) rfl rfl B6 HLJ2.out HLJ3.out (B_one _) ?_; intro w7 B7 r7; have b7 := below_row b6 r7 hg6; have D7 := (hB4.out.grow b6).keptO r7 (by intro e; injection e with e; have := hB4.out.lt; omega))
          | ((with_reducible refine at_ldd 19 6 ?_); refine wpList_ld _ rfl _ _ rfl g6 _ rfl B7 _ _ Tryz.underlying25 HLJ2.out ?_)
          | ((with_reducible refine at_ldd 20 4 ?_); refine wpList_ld _ rfl _ _ rfl g4 _ rfl D7 _ _ Tryz.underlying25 HSZ.out ?_))
        have HO7 := hidden (hO.out.grow b7)
        have HRw7 := hidden (hRw.out.grow b7)
        have HB47 := hidden (hB4.out.grow b7)
        have HBw7 := hidden (grow_trans hBw.out b7)
        have HN6' : Hid (fv.ownBlock ≠ some g6 ∧ G ≠ g6) := ⟨hO.out.ne hg6, fun e => by have := hRw.out.lt; omega⟩
        have HB67 := hidden B7
        clear b6 b7 r7 hg6 hl6 B6 hO hRw hB4 hBw B7
        generalize hX : bitsOf (mk (hs.take k)) m = X at HRw7 HBM2
        have hXl : X.length = m := by rw [← hX, bitsOf_length]
        have hk8 : k / 8 < m := by have := HM.out.1; omega
        have z2 : (0 : Int) ≤ (k : Int) / 8 := by omega
        have z3 : (k : Int) / 8 < (m : Int) := by omega
        have z4 : IntKind.i64.wrap ((k : Int) / 8) = (k : Int) / 8 := by rw [IntKind.wrap_i64]; omega
        have z5 : ((k : Int) / 8).toNat = k / 8 := by omega
        have HC : Hid (∀ w', Below w7.heap.size w7 w' → w'.cell? ⟨G, k / 8, none⟩ = some (.int .u8 (X.getD (k / 8) 0)) ∧ w'.frozen? ⟨G, k / 8, none⟩ = false) := fun w' h => ⟨(HRw7.out.grow h).cell _ (by rw [hXl]; exact hk8), (HRw7.out.grow h).frozen _⟩
        obtain ⟨x, hx⟩ : ∃ x, x = X.getD (k / 8) 0 := ⟨_, rfl⟩
        obtain ⟨y, hy⟩ : ∃ y : Int, y = 2 ^ (7 - k % 8) := ⟨_, rfl⟩
        rw [← hx] at HC HBM2
        rw [← hy] at HMK2 HBM2
        clear hX hXl hx hy
        refine wp_region_last (S := fun w' => Below w7.heap.size w7 w') 9 (by kernel_rfl) ((Below.refl _ _).drew) (fun hHeld => ?_)
        generalize w7.drew = wz at hHeld ⊢
        refine wpAnyL_take (i := 0) (v := .slice (some ⟨G, 0, none⟩) m m) rfl (by kernel_rfl) (by kernel_rfl) (by kernel_rfl) (by kernel_rfl) (by kernel_rfl) (fun _ _ _ h => h) (Or.inl ⟨by rfl, fun w hS => by go_simp⟩) hHeld ?_
        simp only [Act.put, List.getElem_toArray, List.getElem_cons_zero, List.setIfInBounds_toArray, List.set_cons_zero, List.set_cons_succ]
        refine wpAnyL_take (i := 1) (v := .int .i64 (k : Int)) rfl (by kernel_rfl) (by kernel_rfl) (by kernel_rfl) (by kernel_rfl) (by kernel_rfl) (fun _ _ _ h => h) (Or.inl ⟨by rfl, fun w hS => by go_simp⟩) hHeld ?_
        simp only [Act.put, List.getElem_toArray, List.getElem_cons_zero, List.getElem_cons_succ, List.setIfInBounds_toArray, List.set_cons_zero, List.set_cons_succ]
        refine wpAnyL_take (i := 2) (v := .int .i64 ((k : Int) / 8)) rfl (by kernel_rfl) (by kernel_rfl) (by kernel_rfl) (by kernel_rfl) (by kernel_rfl) (fun _ _ _ h => h) (Or.inl ⟨by rfl, fun w hS => by go_simp⟩) hHeld ?_
        simp only [Act.put, List.getElem_toArray, List.getElem_cons_zero, List.getElem_cons_succ, List.setIfInBounds_toArray, List.set_cons_zero, List.set_cons_succ]
        refine wpAnyL_take (i := 3) (v := .pointer (some ⟨G, k / 8, none⟩)) rfl (by kernel_rfl) (by kernel_rfl) (by kernel_rfl) (by kernel_rfl) (by kernel_rfl) (fun _ _ _ h => h) (Or.inl ⟨by rfl, fun w hS => by go_simp⟩) hHeld ?_
        simp only [Act.put, List.getElem_toArray, List.getElem_cons_zero, List.getElem_cons_succ, List.setIfInBounds_toArray, List.set_cons_zero, List.set_cons_succ]
        refine wpAnyL_take (i := 4) (v := .int .u8 x) rfl (by kernel_rfl) (by kernel_rfl) (by kernel_rfl) (by kernel_rfl) (by kernel_rfl) (fun _ _ _ h => h) (Or.inl ⟨by rfl, fun w hS => by (have q1 := (HC.out _ hS).1; go_simp)⟩) hHeld ?_
        simp only [Act.put, List.getElem_toArray, List.getElem_cons_zero, List.getElem_cons_succ, List.setIfInBounds_toArray, List.set_cons_zero, List.set_cons_succ]
        refine wpAnyL_take (i := 5) (v := .int .i64 (k : Int)) rfl (by kernel_rfl) (by kernel_rfl) (by kernel_rfl) (by kernel_rfl) (by kernel_rfl) (fun _ _ _ h => h) (Or.inl ⟨by rfl, fun w hS => by go_simp⟩) hHeld ?_
        simp only [Act.put, List.getElem_toArray, List.getElem_cons_zero, List.getElem_cons_succ, List.setIfInBounds_toArray, List.set_cons_zero, List.set_cons_succ]
        refine wpAnyL_one (i := 6) rfl (by kernel_rfl) (fun KQ hK => ?_)
        go_simp
        refine (HMK2.out _).mono ?_
        rintro e wz ⟨rfl, rfl⟩
        refine hK.out _ _ (hHeld) (fun hHeld => ?_)
        clear hK KQ
        refine wpAnyL_take (i := 7) (v := .int .u8 (bits .or .u8 x y)) rfl (by kernel_rfl) (by kernel_rfl) (by kernel_rfl) (by kernel_rfl) (by kernel_rfl) (fun _ _ _ h => h) (Or.inl ⟨by rfl, fun w hS => by go_simp⟩) hHeld ?_
        simp only [Act.put, List.getElem_toArray, List.getElem_cons_zero, List.getElem_cons_succ, List.setIfInBounds_toArray, List.set_cons_zero, List.set_cons_succ]
        refine wpAnyL_take (i := 8) (v := .pointer (some ⟨G, k / 8, none⟩)) rfl (by kernel_rfl) (by kernel_rfl) (by kernel_rfl) (by kernel_rfl) (by kernel_rfl) (fun _ _ _ h => h) (Or.inl ⟨by rfl, fun w hS => by go_simp⟩) hHeld ?_
        simp only [Act.put, List.getElem_toArray, List.getElem_cons_zero, List.getElem_cons_succ, List.setIfInBounds_toArray, List.set_cons_zero, List.set_cons_succ]
        have q1 := (HC.out _ hHeld).1
        have q2 := (HC.out _ hHeld).2
        refine wpAnyL_last rfl (by kernel_rfl) (by kernel_rfl) (fun KQ hK => ?_)
        go_simp
        
        refine hK.out _ _ ?_
        clear hK KQ

        have HRw8 := hidden ((HRw7.out.grow hHeld).set (k / 8) (bits .or .u8 x y))
        rw [HBM2.out] at HRw8
        have HO8 := hidden ((HO7.out.grow hHeld).set hnG.out (k / 8) (.int .u8 (bits .or .u8 x y)))
        have g8 := grown_setCell wz G (k / 8) (.int .u8 (bits .or .u8 x y))
        have HB8 := hidden (below_row (grow_trans HBw7.out hHeld) g8 (by rw [HGE.out]; exact Nat.le_refl _))
        have HB48 := hidden ((HB47.out.grow hHeld).keptO g8 (by intro e; injection e with e; have := HG4b.out.1; omega))
        have HB68 := hidden ((HB67.out.grow hHeld).keptO g8 (by intro e; injection e with e; exact HN6'.out.2 e.symm))
        generalize wz.setCell ⟨G, k / 8, none⟩ (.int .u8 (bits .or .u8 x y)) = w8 at *
        clear HC hHeld HO7 HRw7 HB47 HBw7 HB67 g8
        have HLW8 : Hid (w.heap.size ≤ w8.heap.size) := HB8.out.size
        have HJR := hidden (HB68.out.readsN HJB.out 32 HJL.out)
        have HLN : Hid ((wrL (hs.take k)).length + J.length ≤ 140737488355328) := by show _ ≤ _; have h1 := HWN.out k; have h2 := HJL.out; omega
        go_wp2_with (at_builtin; refine wpList_app _ rfl _ _ rfl w.heap.size fv _ (wrL (hs.take k)) sp J HO8.out HJR.out rfl rfl HLN.out HLW8.out ?_; intro v9 w9 sp9 o9 gr9 wh9 nl9)
        refine ⟨⟨k + 1, sp9, _, by omega, by go_num, rfl, ?_, ?_, ?_, ?_, ?_, ?_⟩, by simp [intOf]; omega⟩
        · show Own _ _ _ _ _
          rw [HWM2.out]
          exact o9
        · show _ ≠ _
          rcases wh9 with e | e
          · rw [e]; exact hnG.out
          · rw [e]; intro q; injection q with q; have := HRw8.out.lt; omega
        · show _ ≠ _
          rcases wh9 with e | e
          · rw [e]; exact hn4.out
          · rw [e]; intro q; injection q with q; have := HB48.out.lt; omega
        · exact HRw8.out.keepO gr9 hnG.out
        · exact HB48.out.keptO gr9 (Ne.symm hn4.out)
        · exact own_below HB8.out HO8.out gr9
    · have hkn : k = n := by omega
      have z1 : ¬ (k : Int) < (n : Int) := by omega
      rw [hkn] at hO hRw
      have HRn := hidden hRw.out
      rw [← HBL.out] at HRn
      rw [← HWL.out] at hO
      clear hRw hkn
      go_wp2
      have hb : (bitsL hs).length = m := by rw [HBL.out, bitsOf_length]
      have := Own.mk (base := w.heap.size) (g := G) (zs := bitsL hs) (sp := []) (bitsL_bytes hs) Bytes.nil (by rw [hb]; have := HM.out.2; simp only [List.length_nil, maxLen]; omega) (by rw [HGE.out]; exact Nat.le_refl _) (by rw [List.append_nil]; exact HRn.out)
      rw [hb] at this
      exact HPost.out G fv sp wr this hO.out hBw.out

end Go.Proofs.YtpihigcnoifcfaaGreatDoor

/- The calls of octet's Reader, each as a contract: what it returns and what it leaves in memory. No condition beyond what each theorem names. -/
namespace Go.Proofs.YtpihigcnoifcfaaGreatDoor
set_option maxRecDepth 20000
open Go.RowKit

set_option maxHeartbeats 400000 in
theorem rgood_nil (w : World) :
    Calls Tryz.prog 68 #[.pointer none] w fun e w' => e = .returned (.bool false) ∧ w' = w := by
  go_enter Tryz.func68, Tryz.ntmps68
  go_wp2
  go_ret
  exact ⟨rfl, rfl⟩

set_option maxHeartbeats 400000 in
theorem rgood_at (b o : Nat) (m d : Bool) (w : World) (hm : w.cell? ⟨b, o + 1, none⟩ = some (.bool m)) (hd : w.cell? ⟨b, o + 2, none⟩ = some (.bool d)) :
    Calls Tryz.prog 68 #[.pointer (some ⟨b, o, none⟩)] w fun e w' => e = .returned (.bool (m && !d)) ∧ w' = w := by
  cases m <;> cases d
  all_goals
    go_enter Tryz.func68, Tryz.ntmps68
    go_wp2
    go_ret
    exact ⟨rfl, rfl⟩

set_option maxHeartbeats 400000 in
theorem cut_nil (n : Int) (w : World) :
    Calls Tryz.prog 67 #[.pointer none, .int .i64 n] w fun e w' => e = .returned (.slice none 0 0) ∧ w' = w := by
  go_enter Tryz.func67, Tryz.ntmps67
  go_wp2_with (go_at_call 68; refine (rgood_nil _).mono ?_; rintro e w' ⟨rfl, rfl⟩)
  go_ret
  exact ⟨rfl, rfl⟩

set_option maxHeartbeats 400000 in
theorem cut_not (b o : Nat) (m d : Bool) (n : Int) (w : World) (hm : w.cell? ⟨b, o + 1, none⟩ = some (.bool m)) (hd : w.cell? ⟨b, o + 2, none⟩ = some (.bool d)) (hn : (m && !d) = false) :
    Calls Tryz.prog 67 #[.pointer (some ⟨b, o, none⟩), .int .i64 n] w fun e w' => e = .returned (.slice none 0 0) ∧ w' = w := by
  go_enter Tryz.func67, Tryz.ntmps67
  go_wp2_with (go_at_call 68; refine (rgood_at _ _ _ _ _ hm hd).mono ?_; rintro e w' ⟨rfl, rfl⟩)
  go_ret
  exact ⟨rfl, rfl⟩

set_option maxHeartbeats 400000 in
theorem cut_bad (b o : Nat) (a : Option Addr) (l c : Nat) (n : Int) (w : World) (hr : w.cell? ⟨b, o, none⟩ = some (.slice a l c)) (hm : w.cell? ⟨b, o + 1, none⟩ = some (.bool true)) (hd : w.cell? ⟨b, o + 2, none⟩ = some (.bool false)) (hf : w.frozen? ⟨b, o + 2, none⟩ = false) (hn : n < 0 ∨ (l : Int) < n) :
    Calls Tryz.prog 67 #[.pointer (some ⟨b, o, none⟩), .int .i64 n] w fun e w' => e = .returned (.slice none 0 0) ∧ w' = w.setCell ⟨b, o + 2, none⟩ (.bool true) := by
  by_cases h0 : n < 0
  all_goals
    go_enter Tryz.func67, Tryz.ntmps67
    go_wp2_with (go_at_call 68; refine (rgood_at _ _ _ _ _ hm hd).mono ?_; rintro e w' ⟨rfl, rfl⟩)
    go_ret
    exact ⟨rfl, rfl⟩

/-- Where a slice begins once n of its bytes are cut off. -/
def moved (a : Option Addr) (c n : Nat) : Option Addr := if c = n then a else a.map fun x => x.add n

set_option maxHeartbeats 400000 in
theorem cut_ok (b o : Nat) (a : Option Addr) (l c : Nat) (n : Nat) (w : World) (hr : w.cell? ⟨b, o, none⟩ = some (.slice a l c)) (hm : w.cell? ⟨b, o + 1, none⟩ = some (.bool true)) (hd : w.cell? ⟨b, o + 2, none⟩ = some (.bool false)) (hf : w.frozen? ⟨b, o, none⟩ = false) (hn : n ≤ l) (hlc : l ≤ c) :
    Calls Tryz.prog 67 #[.pointer (some ⟨b, o, none⟩), .int .i64 n] w fun e w' => e = .returned (.slice a n c) ∧ w' = w.setCell ⟨b, o, none⟩ (.slice (moved a c n) (l - n) (c - n)) := by
  have h0 : ¬ (n : Int) < 0 := by omega
  by_cases hcn : c = n
  · have : l = n := by omega
    subst this; subst hcn
    simp only [moved, if_true]
    go_enter Tryz.func67, Tryz.ntmps67
    go_wp2_with (go_at_call 68; refine (rgood_at _ _ _ _ _ hm hd).mono ?_; rintro e w' ⟨rfl, rfl⟩)
    go_ret
    exact ⟨by simp, by simp⟩
  · simp only [moved, if_neg hcn]
    go_enter Tryz.func67, Tryz.ntmps67
    go_wp2_with (go_at_call 68; refine (rgood_at _ _ _ _ _ hm hd).mono ?_; rintro e w' ⟨rfl, rfl⟩)
    go_ret
    exact ⟨by simp, by simp⟩

set_option maxHeartbeats 400000 in
theorem number_none (r : Value) (n : Int) (w w1 : World) (hc : Calls Tryz.prog 67 #[r, .int .i64 n] w fun e w' => e = .returned (.slice none 0 0) ∧ w' = w1) :
    Calls Tryz.prog 91 #[r, .int .i64 n] w fun e w' => e = .returned (.int .i64 0) ∧ w' = w1 := by
  have H : Hid (Calls Tryz.prog 67 #[r, .int .i64 n] w fun e w' => e = .returned (.slice none 0 0) ∧ w' = w1) := hc
  clear hc
  go_enter Tryz.func91, Tryz.ntmps91
  go_wp2_with (go_at_call 67; refine H.out.mono ?_; rintro e w' ⟨rfl, rfl⟩)
  refine wp_loop_rounds 1 ?_
  rw [rounds_succ]
  go_wp2
  go_ret
  exact ⟨rfl, rfl⟩

set_option maxHeartbeats 400000 in
theorem number_row (r : Value) (g off c n : Nat) (zs : List Int) (w w1 : World) (hz : zs.length = n) (hb : Bytes zs) (hcell : ∀ i, i < n → w1.cell? ⟨g, off + i, none⟩ = some (.int .u8 (zs.getD i 0))) (h4 : n ≤ 4)
    (hc : Calls Tryz.prog 67 #[r, .int .i64 n] w fun e w' => e = .returned (.slice (some ⟨g, off, none⟩) n c) ∧ w' = w1) :
    Calls Tryz.prog 91 #[r, .int .i64 n] w fun e w' => e = .returned (.int .i64 (numOf zs)) ∧ w' = w1 := by
  have HH : Hid (Calls Tryz.prog 67 #[r, .int .i64 n] w fun e w' => e = .returned (.slice (some ⟨g, off, none⟩) n c) ∧ w' = w1) := hc
  have HB : Hid (Bytes zs) := hb
  have HZ : Hid (zs.length = n) := hz
  clear hc hb hz
  go_enter Tryz.func91, Tryz.ntmps91
  go_wp2_with (go_at_call 67; refine HH.out.mono ?_; rintro e w' ⟨rfl, rfl⟩)
  go_loop [5, 12] (fun s i => ∃ k : Nat, k ≤ n ∧ i = .int .i64 k ∧ s = .int .i64 (numOf (zs.take k))) (fun _ i => n - (intOf i).toNat)
  case atStart => exact ⟨0, Nat.zero_le _, rfl, rfl⟩
  case round =>
    obtain ⟨k, hk, rfl, rfl⟩ := hrel
    by_cases hlt : k < n
    · have hx := hcell k hlt
      clear hcell
      go_wp2
      exact ⟨⟨k + 1, by omega, by go_num, by rw [numOf_round zs HB.out k (by have := HZ.out; omega) (by omega)]⟩, by simp [intOf]; omega⟩
    · go_wp2
      go_ret
      exact ⟨by rw [List.take_of_length_le (by have := HZ.out; omega)]; rfl, rfl⟩

end Go.Proofs.YtpihigcnoifcfaaGreatDoor

/- octet's Reader as an object: bytes.Clone, New, Byte, U16, U32, Take, Left, Bad and Done over a reader that New made, over one that it did not make, and over nil. -/
namespace Go.Proofs.YtpihigcnoifcfaaGreatDoor
set_option maxRecDepth 20000
open Go.RowKit

attribute [local go_sem] eql_bytes_nil

theorem clone_nil (w : World) : Calls Tryz.prog 63 #[.slice none 0 0] w fun e w' => e = .returned (.slice none 0 0) ∧ w' = w := by
  go_enter Tryz.func63, Tryz.ntmps63
  go_wp2
  go_ret
  exact ⟨rfl, rfl⟩

set_option maxHeartbeats 400000 in
theorem clone_some (x : Addr) (n c : Nat) (zs : List Int) (w : World) (h : Reads w (.slice (some x) n c) zs) (hl : zs.length ≤ 140737488355328) :
    Calls Tryz.prog 63 #[.slice (some x) n c] w fun e w' => ∃ v sp, e = .returned v ∧ Own w.heap.size w' v zs sp ∧ Below w.heap.size w w' ∧ v ≠ .slice none 0 0 := by
  have HR : Hid (Reads w (.slice (some x) n c) zs) := h
  clear h
  go_enter Tryz.func63, Tryz.ntmps63
  go_wp2_with (at_builtin; refine wpList_app _ rfl _ _ rfl w.heap.size _ _ [] [] zs (Own.empty _ _ (Nat.le_refl _)) (HR.out.grow ((Below.refl _ _).alloc (Nat.le_refl _) _)) rfl rfl (by simpa using hl) (by simp) ?_; intro v' w' sp' h1 h2 h3 h4)
  go_ret
  refine ⟨v', sp', rfl, by simpa using h1, ?_, ?_⟩
  · exact ((Below.refl _ _).alloc (Nat.le_refl _) _).grown h2 (by simp) (by intro k hk; simp [Value.ownBlock] at hk; omega)
  · intro e
    have := (h4.1 e).1
    simp at this

theorem oclone_any (v : Value) (zs : List Int) (w : World) (h : Reads w v zs) (hl : zs.length ≤ 140737488355328) :
    Calls Tryz.prog 63 #[v] w fun e w' => ∃ a c sp, e = .returned (.slice a zs.length c) ∧ Own w.heap.size w' (.slice a zs.length c) zs sp ∧ Below w.heap.size w w' := by
  have h' := h
  obtain ⟨a, cap, rfl, h1, h2, h3, h4⟩ := h'
  cases a with
  | none =>
    have h0 : zs = [] := by
      by_cases hz : zs = []
      · exact hz
      · obtain ⟨b, off, e, _⟩ := h4 (List.length_pos_iff.2 hz)
        cases e
    subst h0
    obtain rfl := h2 rfl
    refine (clone_nil w).mono ?_
    rintro e w' ⟨rfl, rfl⟩
    exact ⟨_, _, [], rfl, Own.nil _ _, Below.refl _ _⟩
  | some x =>
    refine (clone_some x _ cap zs w h hl).mono ?_
    rintro e w' ⟨u, sp, rfl, h5, h6, _⟩
    obtain ⟨a, c, rfl⟩ := h5.slice
    exact ⟨a, c, sp, rfl, h5, h6⟩

/-- A reader that New made, at block b: what is left reads as zs. -/
def Rd (w : World) (b : Nat) (o : Option Nat) (zs : List Int) (bad : Bool) : Prop :=
  ∃ v, w.heap[b]? = some (.cells #[v, .bool true, .bool bad] 113 (0, 0)) ∧ Reads w v zs ∧ zs.length ≤ 140737488355328 ∧ v.ownBlock = o ∧ o ≠ some b

theorem Rd.lt {w : World} {b : Nat} {o : Option Nat} {zs : List Int} {bad : Bool} (h : Rd w b o zs bad) : b < w.heap.size := by
  obtain ⟨v, h, _⟩ := h
  exact (Array.getElem?_eq_some_iff.1 h).1

theorem Rd.grow {w w' : World} {b : Nat} {o : Option Nat} {zs : List Int} {bad : Bool} (h : Rd w b o zs bad) (hb : Below w.heap.size w w') : Rd w' b o zs bad := by
  have hlt := h.lt
  obtain ⟨v, h, h1, h2, h3⟩ := h
  exact ⟨v, by rw [hb.block b hlt]; exact h, h1.grow hb, h2, h3⟩

theorem Reads.keptB {w w' : World} {v : Value} {zs : List Int} {row : Option Nat} (h : Reads w v zs) (hg : w.grownBy w' row) (hr : row = none ∨ v.ownBlock ≠ row) : Reads w' v zs := by
  obtain ⟨a, cap, rfl, h1, h2, h3, h4⟩ := h
  refine ⟨a, cap, rfl, h1, h2, h3, fun hp => ?_⟩
  obtain ⟨b, off, rfl, hc⟩ := h4 hp
  refine ⟨b, off, rfl, fun i hi => ?_⟩
  refine hg.cell (hc i hi) ?_
  rcases hr with rfl | hr
  · simp
  · exact hr

/-- What another call does elsewhere leaves a reader as it was. -/
theorem Rd.kept {w w' : World} {b : Nat} {o : Option Nat} {zs : List Int} {bad : Bool} {row : Option Nat} (h : Rd w b o zs bad) (hg : w.grownBy w' row) (hb : some b ≠ row) (ho : row = none ∨ o ≠ row) : Rd w' b o zs bad := by
  have hlt := h.lt
  obtain ⟨v, h, h1, h2, rfl, h4⟩ := h
  exact ⟨v, by rw [hg.block b hlt hb]; exact h, h1.keptB hg ho, h2, rfl, h4⟩

set_option maxHeartbeats 400000 in
theorem onew_any (v : Value) (zs : List Int) (w : World) (h : Reads w v zs) (hl : zs.length ≤ 140737488355328) :
    Calls Tryz.prog 41 #[v] w fun e w' => ∃ b o, e = .returned (.pointer (some ⟨b, 0, none⟩)) ∧ w.heap.size ≤ b ∧ (∀ k, o = some k → w.heap.size ≤ k ∧ k < w'.heap.size) ∧ Rd w' b o zs false ∧ Below w.heap.size w w' := by
  have HR : Hid (Reads w v zs) := h
  clear h
  go_enter Tryz.func41, Tryz.ntmps41
  go_wp2_with (go_at_call 63; refine (oclone_any _ zs _ HR.out hl).mono ?_; rintro e w1 ⟨a, c, sp, rfl, h5, h6⟩)
  go_ret
  refine ⟨w1.heap.size, _, rfl, h6.size, fun k hk => ⟨(h5.lt k hk).1, by have := (h5.lt k hk).2; simp; omega⟩, ⟨_, heap_alloc_new _ _, h5.reads.grow ((Below.refl _ _).alloc (Nat.le_refl _) _), hl, rfl, ?_⟩, h6.alloc h6.size _⟩
  intro hk
  have := (h5.lt _ hk).2
  omega

/-- Of a reader the three cells. -/
theorem Rd.cells {w : World} {b : Nat} {o : Option Nat} {zs : List Int} {bad : Bool} (h : Rd w b o zs bad) : ∃ a c, w.heap[b]? = some (.cells #[.slice a zs.length c, .bool true, .bool bad] 113 (0, 0)) ∧ Reads w (.slice a zs.length c) zs ∧
    w.cell? ⟨b, 0, none⟩ = some (.slice a zs.length c) ∧ w.cell? ⟨b, 0 + 1, none⟩ = some (.bool true) ∧ w.cell? ⟨b, 0 + 2, none⟩ = some (.bool bad) ∧ (∀ o, w.frozen? ⟨b, o, none⟩ = false) ∧ zs.length ≤ c ∧ zs.length ≤ 140737488355328 ∧ (∀ x, a = some x → x.block ≠ b) ∧ (Value.slice a zs.length c).ownBlock = o := by
  obtain ⟨v, h1, h2, h3, h4, h9⟩ := h
  have h2' := h2
  obtain ⟨a, c, rfl, h5, h6, h7, h8⟩ := h2'
  refine ⟨a, c, h1, h2, ?_, ?_, ?_, fun o => frozen_of_row w b o _ _ h1, h5, h3, ?_, h4⟩
  · rw [cell_of_row w b 0 _ _ _ h1]; rfl
  · rw [cell_of_row w b _ _ _ _ h1]; rfl
  · rw [cell_of_row w b _ _ _ _ h1]; rfl
  · intro x hx e
    subst hx
    exact h9 (by rw [← h4, ← e]; rfl)

/-- Of a slice cut from the front: what is left. -/
theorem Reads.cutoff {w : World} {a : Option Addr} {c : Nat} {zs : List Int} (h : Reads w (.slice a zs.length c) zs) (n : Nat) (hn : n ≤ zs.length) : Reads w (.slice (moved a c n) (zs.length - n) (c - n)) (zs.drop n) := by
  obtain ⟨a', c', e, h1, h2, h3, h4⟩ := h
  injection e with e1 e2 e3
  subst e1; subst e3
  refine ⟨moved a c n, c - n, by simp, by simp; omega, ?_, h3.drop n, ?_⟩
  · intro hm
    unfold moved at hm
    split at hm
    · omega
    · cases a with
      | none => have := h2 rfl; omega
      | some x => simp at hm
  · intro hp
    simp at hp
    obtain ⟨b, off, rfl, hc⟩ := h4 (by omega)
    refine ⟨b, off + n, by simp [moved, show c ≠ n by omega, Addr.add_lit], fun i hi => ?_⟩
    simp at hi
    rw [Nat.add_assoc, hc (n + i) (by omega)]
    simp [List.getD]

/-- And what was cut. -/
theorem Reads.cutfront {w : World} {a : Option Addr} {c : Nat} {zs : List Int} (h : Reads w (.slice a zs.length c) zs) (n : Nat) (hn : n ≤ zs.length) : Reads w (.slice a n c) (zs.take n) := by
  obtain ⟨a', c', e, h1, h2, h3, h4⟩ := h
  injection e with e1 e2 e3
  subst e1; subst e3
  have hl : (zs.take n).length = n := by simp; omega
  refine ⟨a, c, by rw [hl], by omega, h2, h3.take n, ?_⟩
  intro hp
  obtain ⟨b, off, rfl, hc⟩ := h4 (by omega)
  refine ⟨b, off, rfl, fun i hi => ?_⟩
  rw [hc i (by omega)]
  rw [hl] at hi
  simp [List.getD, hi]

theorem Reads.set {w : World} {v : Value} {zs : List Int} (h : Reads w v zs) (b o : Nat) (u : Value) (hb : ∀ k, v.ownBlock = some k → k ≠ b) : Reads (w.setCell ⟨b, o, none⟩ u) v zs := by
  obtain ⟨a, cap, rfl, h1, h2, h3, h4⟩ := h
  refine ⟨a, cap, rfl, h1, h2, h3, fun hp => ?_⟩
  obtain ⟨g, off, rfl, hc⟩ := h4 hp
  refine ⟨g, off, rfl, fun i hi => ?_⟩
  rw [World.cell?_setCell_other _ _ _ _ (by intro e; exact hb g rfl (by injection e with e1; exact e1.symm))]
  exact hc i hi

theorem moved_own (a : Option Addr) (c n l l' c1 c2 : Nat) : (Value.slice (moved a c n) l' c2).ownBlock = (Value.slice a l c1).ownBlock := by
  cases a with
  | none => simp [moved, Value.ownBlock]
  | some x =>
    obtain ⟨xb, xo, xs⟩ := x
    have e : ((⟨xb, xo, xs⟩ : Addr).add n).block = xb := by unfold Addr.add; split <;> rfl
    unfold moved
    split
    · rfl
    · simp [Value.ownBlock, e]

/-- The reader behind a cut. -/
theorem Rd.cutoff {w : World} {b : Nat} {zs : List Int} {a : Option Addr} {c n : Nat} (h1 : w.heap[b]? = some (.cells #[.slice a zs.length c, .bool true, .bool false] 113 (0, 0))) (h2 : Reads w (.slice a zs.length c) zs)
    (h3 : zs.length ≤ 140737488355328) (h4 : ∀ x, a = some x → x.block ≠ b) (hn : n ≤ zs.length) : Rd (w.setCell ⟨b, 0, none⟩ (.slice (moved a c n) (zs.length - n) (c - n))) b (Value.slice a zs.length c).ownBlock (zs.drop n) false := by
  have hm := moved_own a c n zs.length (zs.length - n) c (c - n)
  have ho : (Value.slice a zs.length c).ownBlock ≠ some b := by
    intro e
    cases a with
    | none => simp [Value.ownBlock] at e
    | some x => simp [Value.ownBlock] at e; exact h4 x rfl e
  have hb : ∀ k, (Value.slice (moved a c n) (zs.length - n) (c - n)).ownBlock = some k → k ≠ b := by
    intro k hk e
    rw [hm] at hk
    exact ho (by rw [hk, e])
  refine ⟨_, ?_, (h2.cutoff n hn).set b 0 _ hb, by simp; omega, hm, ho⟩
  rw [heap_setCell_same w b 0 _ _ _ h1]
  rfl

theorem Rd.turned {w : World} {b : Nat} {zs : List Int} {a : Option Addr} {c : Nat} (h1 : w.heap[b]? = some (.cells #[.slice a zs.length c, .bool true, .bool false] 113 (0, 0))) (h2 : Reads w (.slice a zs.length c) zs)
    (h3 : zs.length ≤ 140737488355328) (h4 : ∀ x, a = some x → x.block ≠ b) : Rd (w.setCell ⟨b, 0 + 2, none⟩ (.bool true)) b (Value.slice a zs.length c).ownBlock zs true := by
  have hb : ∀ k, (Value.slice a zs.length c).ownBlock = some k → k ≠ b := by
    intro k hk
    cases a with
    | none => simp [Value.ownBlock] at hk
    | some x => simp [Value.ownBlock] at hk; subst hk; exact h4 x rfl
  refine ⟨_, ?_, h2.set b _ _ hb, h3, rfl, fun e => hb b e rfl⟩
  rw [heap_setCell_same w b _ _ _ _ h1]
  rfl

/-! ### cut -/
theorem rd_cut_ok (b : Nat) (zs : List Int) (n : Nat) (w : World) (o : Option Nat) (h : Rd w b o zs false) (hn : n ≤ zs.length) :
    Calls Tryz.prog 67 #[.pointer (some ⟨b, 0, none⟩), .int .i64 n] w fun e w' => ∃ a c, e = .returned (.slice a n c) ∧ Reads w' (.slice a n c) (zs.take n) ∧ Rd w' b o (zs.drop n) false ∧ w.grownBy w' (some b) ∧ w'.heap.size = w.heap.size := by
  obtain ⟨a, c, h1, h2, c0, c1, c2, hf, hlc, hl, hx, rfl⟩ := h.cells
  refine (cut_ok b 0 a zs.length c n w c0 c1 c2 (hf 0) hn hlc).mono ?_
  rintro e w' ⟨rfl, rfl⟩
  refine ⟨a, c, rfl, (h2.cutfront n hn).set b 0 _ ?_, Rd.cutoff h1 h2 hl hx hn, grown_setCell _ _ _ _, by simp⟩
  intro k hk
  cases a with
  | none => simp [Value.ownBlock] at hk
  | some x => simp [Value.ownBlock] at hk; subst hk; exact hx x rfl

theorem rd_cut_bad (b : Nat) (zs : List Int) (n : Int) (w : World) (o : Option Nat) (h : Rd w b o zs false) (hn : n < 0 ∨ (zs.length : Int) < n) :
    Calls Tryz.prog 67 #[.pointer (some ⟨b, 0, none⟩), .int .i64 n] w fun e w' => e = .returned (.slice none 0 0) ∧ w' = w.setCell ⟨b, 0 + 2, none⟩ (.bool true) := by
  obtain ⟨a, c, h1, h2, c0, c1, c2, hf, hlc, hl, hx, rfl⟩ := h.cells
  exact cut_bad b 0 a zs.length c n w c0 c1 c2 (hf _) hn

theorem Rd.bad {w : World} {b : Nat} {o : Option Nat} {zs : List Int} (h : Rd w b o zs false) : Rd (w.setCell ⟨b, 0 + 2, none⟩ (.bool true)) b o zs true := by
  obtain ⟨a, c, h1, h2, c0, c1, c2, hf, hlc, hl, hx, rfl⟩ := h.cells
  exact Rd.turned h1 h2 hl hx

theorem rd_cut_not (b : Nat) (zs : List Int) (n : Int) (w : World) (o : Option Nat) (h : Rd w b o zs true) :
    Calls Tryz.prog 67 #[.pointer (some ⟨b, 0, none⟩), .int .i64 n] w fun e w' => e = .returned (.slice none 0 0) ∧ w' = w := by
  obtain ⟨a, c, h1, h2, c0, c1, c2, hf, hlc, hl, hx, rfl⟩ := h.cells
  exact cut_not b 0 true true n w c1 c2 rfl

/-! ### number -/
theorem rd_number_ok (b : Nat) (zs : List Int) (n : Nat) (w : World) (o : Option Nat) (h : Rd w b o zs false) (hn : n ≤ zs.length) (h0 : 0 < n) (h4 : n ≤ 4) :
    Calls Tryz.prog 91 #[.pointer (some ⟨b, 0, none⟩), .int .i64 n] w fun e w' => e = .returned (.int .i64 (numOf (zs.take n))) ∧ Rd w' b o (zs.drop n) false ∧ w.grownBy w' (some b) ∧ w'.heap.size = w.heap.size := by
  obtain ⟨a, c, h1, h2, c0, c1, c2, hf, hlc, hl, hx, rfl⟩ := h.cells
  have hr := (h2.cutfront n hn).set b 0 (.slice (moved a c n) (zs.length - n) (c - n)) (by
    intro k hk
    cases a with
    | none => simp [Value.ownBlock] at hk
    | some x => simp [Value.ownBlock] at hk; subst hk; exact hx x rfl)
  have hlen : (zs.take n).length = n := by simp; omega
  obtain ⟨a', c', e, _, _, hby, hcells⟩ := hr
  injection e with e1 e2 e3
  subst e1; subst e3
  obtain ⟨g, off, rfl, hc⟩ := hcells (by omega)
  refine (number_row _ g off c n (zs.take n) w _ hlen hby (fun i hi => hc i (by omega)) h4 (cut_ok b 0 _ zs.length c n w c0 c1 c2 (hf 0) hn hlc)).mono ?_
  rintro e w' ⟨rfl, rfl⟩
  exact ⟨rfl, Rd.cutoff h1 h2 hl hx hn, grown_setCell _ _ _ _, by simp⟩

theorem rd_number_bad (b : Nat) (zs : List Int) (n : Nat) (w : World) (o : Option Nat) (h : Rd w b o zs false) (hn : zs.length < n) :
    Calls Tryz.prog 91 #[.pointer (some ⟨b, 0, none⟩), .int .i64 n] w fun e w' => e = .returned (.int .i64 0) ∧ w' = w.setCell ⟨b, 0 + 2, none⟩ (.bool true) :=
  number_none _ n w _ (rd_cut_bad b zs n w o h (by omega))

theorem rd_number_not (b : Nat) (zs : List Int) (n : Nat) (w : World) (o : Option Nat) (h : Rd w b o zs true) :
    Calls Tryz.prog 91 #[.pointer (some ⟨b, 0, none⟩), .int .i64 n] w fun e w' => e = .returned (.int .i64 0) ∧ w' = w :=
  number_none _ n w _ (rd_cut_not b zs n w o h)

end Go.Proofs.YtpihigcnoifcfaaGreatDoor
