/- The document's digit, Hex, Unhex (rootcellarref01), as contracts. -/
import Derived.Test.YthbdnhfppjhppaaUnhex
import Derived.Deep.RegionHeld2
namespace Go.Proofs.Ythbdnhfppjhppaa
open Go.RowKit

/-- Where a sign stands among the digits. -/
theorem dg_hd_eq (c : Int) (k : Nat) (hk : k < 16) : (hd k = c ↔ dg c = k) := by
  constructor
  · intro h
    rw [← h, dg_hd _ (by omega) (by omega)]
  · intro h
    have := hd_dg c (by omega)
    rw [h] at this
    exact this

set_option maxHeartbeats 1000000 in
theorem rdigit_any (c : Int) (w : World) :
    Calls Try.prog 37 #[.int .u8 c] w fun e w' => e = .returned (.int .i64 (dg c)) ∧ w' = w := by
  go_enter Try.func37, Try.ntmps37
  go_wp2_with fail
  go_loop [3] (fun i => ∃ k : Nat, k ≤ 16 ∧ i = .int .i64 k ∧ Hid (∀ j : Nat, j < k → dg c ≠ j)) (fun i => 16 - (intOf i).toNat)
  case atStart => exact ⟨0, by omega, rfl, fun j hj => by omega⟩
  case round =>
    obtain ⟨k, hk, rfl, hno⟩ := hrel
    by_cases hlt : k < 16
    · have k1 : (k : Int) < 16 := by omega
      have k0 : (0 : Int) ≤ (k : Int) := by omega
      have hks : k < (⟨#[48, 49, 50, 51, 52, 53, 54, 55, 56, 57, 97, 98, 99, 100, 101, 102]⟩ : ByteArray).size := hlt
      have hg : ((((⟨#[48, 49, 50, 51, 52, 53, 54, 55, 56, 57, 97, 98, 99, 100, 101, 102]⟩ : ByteArray)[k]'hks).toNat : Nat) : Int) = hd k := digits_fin ⟨k, hlt⟩
      have HE := hidden (dg_hd_eq c k hlt)
      by_cases hq : hd k = c
      · have hbt : (((((⟨#[48, 49, 50, 51, 52, 53, 54, 55, 56, 57, 97, 98, 99, 100, 101, 102]⟩ : ByteArray)[k]'hks).toNat : Nat) : Int) == c) = true := by rw [hg]; exact beq_iff_eq.2 hq
        have HDC := hidden (HE.out.1 hq)
        clear hg hq
        go_wp2
        go_ret
        exact ⟨by rw [HDC.out]; rfl, rfl⟩
      · have hbt : (((((⟨#[48, 49, 50, 51, 52, 53, 54, 55, 56, 57, 97, 98, 99, 100, 101, 102]⟩ : ByteArray)[k]'hks).toNat : Nat) : Int) == c) = false := by rw [hg]; exact beq_eq_false_iff_ne.2 hq
        have HDC : Hid (dg c ≠ k) := fun e => hq (HE.out.2 e)
        clear hg hq
        go_wp2
        refine ⟨⟨k + 1, by omega, by go_num, ?_⟩, by simp [intOf]; omega⟩
        intro j hj
        by_cases e : j = k
        · subst e; exact HDC.out
        · exact hno.out j (by omega)
    · have HD : Hid (dg c = -1) := by
        have hb := dg_bd c
        show _ = _
        by_cases hh : 0 ≤ dg c
        · have := hno.out (dg c).toNat (by omega)
          omega
        · omega
      go_wp2
      go_ret
      exact ⟨by rw [HD.out]; rfl, rfl⟩

theorem rdigit_u (u : UInt8) (w : World) : Calls Try.prog 37 #[.int .u8 (u.toNat : Int)] w fun e w' => e = .returned (.int .i64 (dg (u.toNat : Int))) ∧ w' = w :=
  rdigit_any _ w

set_option maxHeartbeats 1000000 in
theorem rhex_row (g off c : Nat) (zs : List Int) (w : World) (hp : 0 < zs.length) (hby : Bytes zs) (hl : zs.length ≤ 1048576) (hcell : ∀ i, i < zs.length → w.cell? ⟨g, off + i, none⟩ = some (.int .u8 (zs.getD i 0))) :
    Calls Try.prog 12 #[.slice (some ⟨g, off, none⟩) zs.length c] w fun e w' => e = .returned (.string (strOfNums (hexL zs))) ∧ Below w.heap.size w w' := by
  have hne : ((zs.length : Int) == 0) = false := beq_eq_false_iff_ne.2 (by omega)
  have HB := hidden hby
  have HO : Hid (Own w.heap.size w (.slice none 0 0) (hexL (zs.take 0)) []) := Own.nil _ _
  clear hby
  go_enter Try.func12, Try.ntmps12
  go_wp2_with fail
  go_loopw [3, 4] (fun t i wr => ∃ (k : Nat) (sp : List Int) (a : Option Addr) (q : Nat), k ≤ zs.length ∧ i = .int .i64 k ∧ t = .slice a (2 * k) q ∧ Hid (Own w.heap.size wr t (hexL (zs.take k)) sp) ∧ Below w.heap.size w wr) (fun _ i _ => zs.length - (intOf i).toNat)
  case atStart => exact ⟨0, [], _, _, by omega, rfl, rfl, HO, Below.refl _ _⟩
  case round =>
    obtain ⟨k, sp, a, q, hk, rfl, rfl, hO, hb⟩ := hrel
    by_cases hlt : k < zs.length
    · have hx0 := hcell k hlt
      have HX : Hid (∀ w', Below w.heap.size w w' → w'.cell? ⟨g, off + k, none⟩ = some (.int .u8 (zs.getD k 0))) := fun w' hw' => (hw'.cell (p := ⟨g, off + k, none⟩) (block_lt_of_cell hx0)).trans hx0
      have hz := HB.out.getD k
      have HT := hidden (take_snoc zs k hlt)
      generalize zs.getD k 0 = z at *
      have b1 : 0 ≤ z / 16 := by omega
      have b2 : z / 16 < 16 := by omega
      have b3 : 0 ≤ z % 16 := by omega
      have b4 : z % 16 < 16 := by omega
      have k1 : (k : Int) < (zs.length : Int) := by omega
      have k0 : (0 : Int) ≤ (k : Int) := by omega
      have e1 : IntKind.u8.wrap (z.tdiv 16) = z / 16 := by rw [Int.tdiv_eq_ediv_of_nonneg hz.1, IntKind.wrap_u8']; omega
      have e2 : z.tmod 16 = z % 16 := Int.tmod_eq_emod_of_nonneg hz.1
      have e3 : IntKind.u8.wrap (z % 16) = z % 16 := by rw [IntKind.wrap_u8']; omega
      have hbd := hb.drew
      have hba : ∀ o, Below w.heap.size w ((wr.alloc o).drew) := fun o => (hb.alloc hb.size o).drew
      clear hx0 hcell
      go_wp2_with fail
      go_region_held2 (fun w' => w'.cell? ⟨g, off + k, none⟩ = some (.int .u8 z))
        (first | exact HX.out _ hbd | exact HX.out _ (hba _) | exact HX.out _ (by assumption))
        (first | (refine step_app _ rfl _ _ rfl w.heap.size _ _ (hexL (zs.take k)) sp _ (hO.out.grow (grow_alloc _ _).drew) (pair_reads _ _ _) rfl rfl (.inr (by rw [hexL_length]; simp; omega)) (by have := hb.size; simp; omega) ?_; intro v' w' sp' h1 h2 h3 h4 h5; have hb' : Below w.heap.size w w' := (hb.trans (((grow_alloc wr _).drew).mono hb.size)).grown h2 (by have := hb.size; simp; omega) (fun k hk => (hO.out.lt k hk).1)))
      all_goals
        rw [digits_get _ b1 b2, digits_get _ b3 b4] at h1
        have hO' : Hid (Own w.heap.size w' v' (hexL (zs.take (k + 1))) sp') := by
          rw [HT.out, hexL_snoc]
          exact h1
        have hlen : (hexL (zs.take (k + 1))).length = 2 * (k + 1) := by
          rw [hexL_length]; simp; omega
        obtain ⟨a', c', hv'⟩ := hO'.out.slice
        rw [hlen] at hv'
        subst hv'
        clear h1 h2 h3 h4 h5 hlen e1 e2 e3
        go_wp2
        exact ⟨⟨k + 1, sp', a', c', by omega, by go_num, by go_num, hO', hb'⟩, by simp [intOf]; omega⟩
    · have hke : k = zs.length := by omega
      have hr := hO.out.reads
      rw [hke, List.take_of_length_le (Nat.le_refl _)] at hr
      have hc := conv_reads hr
      subst hke
      clear hO
      go_wp2
      go_ret
      exact ⟨rfl, hb⟩

set_option maxHeartbeats 400000 in
theorem rhex_none (a : Option Addr) (c : Nat) (w : World) :
    Calls Try.prog 12 #[.slice a 0 c] w fun e w' => e = .returned (.string (strOfNums [45])) ∧ w' = w := by
  go_enter Try.func12, Try.ntmps12
  go_wp2
  go_ret
  exact ⟨rfl, rfl⟩

theorem rhex_any (v : Value) (zs : List Int) (w : World) (h : Reads w v zs) (hl : zs.length ≤ 1048576) :
    Calls Try.prog 12 #[v] w fun e w' => e = .returned (.string (strOfNums (hx zs))) ∧ Below w.heap.size w w' := by
  obtain ⟨a, c, rfl, h1, h2, h3, h4⟩ := h
  by_cases hz : zs = []
  · subst hz
    refine (rhex_none a c w).mono ?_
    rintro e w' ⟨rfl, rfl⟩
    exact ⟨rfl, Below.refl _ _⟩
  · have hp : 0 < zs.length := List.length_pos_iff.2 hz
    obtain ⟨g, off, rfl, hc⟩ := h4 hp
    refine (rhex_row g off c zs w hp h3 hl hc).mono ?_
    rintro e w' ⟨rfl, hb⟩
    refine ⟨?_, hb⟩
    unfold hx
    rw [if_neg hz]

set_option maxHeartbeats 1000000 in
theorem runhex_early (s : ByteArray) (w : World) (hs : s.size ≤ maxLen) (h : 65536 < s.size ∨ nums s = [45] ∨ s.size = 0 ∨ s.size % 2 = 1) :
    Calls Try.prog 10 #[.string s] w fun e w' => e = .returned (.tuple #[.slice none 0 0, .int .i64 (uh (nums s)).1]) ∧ w' = w := by
  unfold maxLen at hs
  have hl := nums_length s
  by_cases h1 : 65536 < s.size
  · have e : uh (nums s) = (4, []) := by unfold uh; rw [if_pos (by omega)]
    rw [e]
    have h1' : (65536 : Int) < (s.size : Int) := by omega
    clear h hl e
    go_enter Try.func10, Try.ntmps10
    go_wp2
    go_ret2
    exact ⟨rfl, rfl⟩
  · have h1' : ¬ (65536 : Int) < (s.size : Int) := by omega
    by_cases h2 : nums s = [45]
    · have e : uh (nums s) = (0, []) := by unfold uh; rw [if_neg (by omega), if_pos h2]
      rw [e]
      have hm : (s.toList == [45]) = true := by rw [s_minus, h2]; rfl
      clear h hl e h2
      go_enter Try.func10, Try.ntmps10
      go_wp2
      go_ret2
      exact ⟨rfl, rfl⟩
    · have h3 : s.size = 0 ∨ s.size % 2 = 1 := by simp only [h1, h2, false_or] at h; exact h
      have e : uh (nums s) = (110, []) := by unfold uh; rw [if_neg (by omega), if_neg h2, if_pos (by omega)]
      rw [e]
      have hm : (s.toList == [45]) = false := by rw [s_minus]; simp [h2]
      clear h hl e h2
      by_cases h4 : s.size = 0
      · have z0 : ((s.size : Int) == 0) = true := beq_iff_eq.2 (by omega)
        clear h3 h1
        go_enter Try.func10, Try.ntmps10
        go_wp2
        go_ret2
        exact ⟨rfl, rfl⟩
      · have z0 : ((s.size : Int) == 0) = false := beq_eq_false_iff_ne.2 (by omega)
        have z1 : ((s.size : Int) % 2 != 0) = true := by rw [bne_iff_ne]; omega
        clear h3
        go_enter Try.func10, Try.ntmps10
        go_wp2
        go_ret2
        exact ⟨rfl, rfl⟩

set_option maxHeartbeats 1000000 in
theorem runhex_late (s : ByteArray) (w : World) (h1 : s.size ≤ 65536) (h2 : nums s ≠ [45]) (h3 : s.size ≠ 0) (h4 : s.size % 2 = 0) :
    Calls Try.prog 10 #[.string s] w (UnPost (uh (nums s)) w) := by
  have hl := nums_length s
  have HU : Hid (uh (nums s) = if goodB (nums s) (s.size / 2) = true then (0, prs (nums s) (s.size / 2)) else (110, [])) := by
    show _ = _
    unfold uh
    rw [if_neg (by omega), if_neg h2, if_neg (by omega), hl]
  have h1' : ¬ (65536 : Int) < (s.size : Int) := by omega
  have hm : (s.toList == [45]) = false := by rw [s_minus]; simp [h2]
  have z0 : ((s.size : Int) == 0) = false := beq_eq_false_iff_ne.2 (by omega)
  have z1 : ((s.size : Int) % 2 != 0) = false := by rw [bne_eq_false_iff_eq]; omega
  generalize uh (nums s) = U at *
  have HL := hidden hl
  clear hl h2
  go_enter Try.func10, Try.ntmps10
  go_wp2_with fail
  have HO : Hid (Own w.heap.size w (.slice none 0 0) (prs (nums s) 0) []) := Own.nil _ _
  have hb1 : Below w.heap.size w w := Below.refl _ _
  have HG0 : Hid (Good (nums s) 0) := by intro j hj; omega
  go_loopw [4, 5] (fun t i wr => ∃ (k : Nat) (sp : List Int) (a : Option Addr) (q : Nat), k ≤ s.size / 2 ∧ i = .int .i64 (2 * k : Nat) ∧ t = .slice a k q ∧ Hid (Own w.heap.size wr t (prs (nums s) k) sp) ∧ Hid (Good (nums s) k) ∧ Below w.heap.size w wr) (fun _ i _ => s.size - (intOf i).toNat)
  case atStart => exact ⟨0, [], _, _, by omega, rfl, rfl, HO, HG0, hb1⟩
  case round =>
    obtain ⟨k, sp, a, q, hk, rfl, rfl, hO, hG, hb⟩ := hrel
    by_cases hlt : k < s.size / 2
    · have i1 : (2 * k : Nat) < s.size := by omega
      have i2 : (2 * k + 1 : Nat) < s.size := by omega
      have g1 := nums_get s (2 * k) i1
      have g2 := nums_get s (2 * k + 1) i2
      have HP : Hid (pr (nums s) k = 16 * dg (s[2 * k].toNat : Int) + dg (s[2 * k + 1].toNat : Int)) := by
        show _ = _
        unfold pr
        rw [g1, g2]
      have HGs : Hid (0 ≤ dg (s[2 * k].toNat : Int) → 0 ≤ dg (s[2 * k + 1].toNat : Int) → Good (nums s) (k + 1)) := by
        intro q1 q2 j hj
        by_cases e : j = k
        · subst e
          rw [g1, g2]
          exact ⟨q1, q2⟩
        · exact hG.out j (by omega)
      have HGn : Hid ((dg (s[2 * k].toNat : Int) < 0 ∨ dg (s[2 * k + 1].toNat : Int) < 0) → U = (110, [])) := by
        intro q
        rw [HU.out, if_neg]
        intro e
        have := (goodB_iff _ _).1 e k hlt
        rw [g1, g2] at this
        omega
      have d1 := dg_bd (s[2 * k].toNat : Int)
      have d2 := dg_bd (s[2 * k + 1].toNat : Int)
      clear g1 g2
      generalize hpp : 2 * k = p at *
      have HPP := hidden hpp
      clear hpp
      have j1 : (p : Int) < (s.size : Int) := by omega
      have j2 : (p : Int) + 1 < (s.size : Int) := by omega
      have j3 : (0 : Int) ≤ (p : Int) + 1 := by omega
      have j0 : (0 : Int) ≤ (p : Int) := by omega
      go_wp2_with fail
      refine (rdigit_u _ _).mono ?_
      rintro e w7 ⟨rfl, rfl⟩
      go_wp2_with fail
      refine (rdigit_u _ _).mono ?_
      rintro e w8 ⟨rfl, rfl⟩
      generalize dg (s[p].toNat : Int) = hi at *
      generalize dg (s[p + 1].toNat : Int) = lo at *
      by_cases q1 : hi < 0
      · have HN := hidden (HGn.out (.inl q1))
        go_wp2
        go_ret2
        refine ⟨_, [], by rw [HN.out]; rfl, ?_, hb⟩
        rw [HN.out]
        exact Own.nil _ _
      · by_cases q2 : lo < 0
        · have HN := hidden (HGn.out (.inr q2))
          go_wp2
          go_ret2
          refine ⟨_, [], by rw [HN.out]; rfl, ?_, hb⟩
          rw [HN.out]
          exact Own.nil _ _
        · have hpb : 0 ≤ 16 * hi + lo ∧ 16 * hi + lo ≤ 255 := by omega
          go_wp2_with (at_builtin; (refine wpList_app _ rfl _ _ rfl w.heap.size _ _ (prs (nums s) k) sp _ (hO.out.grow (grow_alloc _ _)) (one_reads _ _ hpb.1 hpb.2) rfl rfl (by rw [prs_length]; simp; omega) (by have := hb.size; simp; omega) ?_; intro v' w' sp' h1 h2 h3 h4))
          have hO' : Own w.heap.size w' v' (prs (nums s) (k + 1)) sp' := by
            rw [prs_succ, HP.out]
            exact h1
          have hb' : Below w.heap.size w w' := (hb.alloc hb.size _).grown h2 (by have := hb.size; simp; omega) (fun k hk => (hO.out.lt k hk).1)
          obtain ⟨a', c', hv'⟩ := hO'.slice
          rw [prs_length] at hv'
          have hp2 := HPP.out
          exact ⟨⟨k + 1, sp', a', c', by omega, by rw [← hp2]; go_num, hv', hO', HGs.out (by omega) (by omega), hb'⟩, by simp [intOf]; omega⟩
    · have hU : U = (0, prs (nums s) k) := by
        have hke : s.size / 2 = k := by omega
        have := HU.out
        rw [hke, if_pos ((goodB_iff _ _).2 hG.out)] at this
        exact this
      have HUU := hidden hU
      clear hU HU
      go_wp2
      go_ret2
      refine ⟨_, sp, by rw [HUU.out]; rfl, ?_, hb⟩
      rw [HUU.out]
      exact hO.out

theorem runhex_any (s : ByteArray) (w : World) (hs : s.size ≤ maxLen) : Calls Try.prog 10 #[.string s] w (UnPost (uh (nums s)) w) := by
  by_cases h : 65536 < s.size ∨ nums s = [45] ∨ s.size = 0 ∨ s.size % 2 = 1
  · refine (runhex_early s w hs h).mono ?_
    rintro e w' ⟨rfl, rfl⟩
    refine ⟨_, [], rfl, ?_, Below.refl _ _⟩
    rw [uh_early (nums s) (by rw [nums_length]; exact h)]
    exact Own.nil _ _
  · simp only [not_or] at h
    exact runhex_late s w (by omega) h.2.1 h.2.2.1 (by omega)

end Go.Proofs.Ythbdnhfppjhppaa
