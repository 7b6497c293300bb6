/- octet.Unhex, as a contract: at every text the error and the bytes that the document names. -/
import Derived.Test.YthbdnhfppjhppaaHex1
import Derived.Deep.QuietTactic
import Derived.BigQuiet
namespace Go.Proofs.Ythbdnhfppjhppaa
open Go.RowKit

theorem s_minus (s : ByteArray) : (s.toList == [45]) = decide (nums s = [45]) := by
  rw [Bool.eq_iff_iff]
  simp only [beq_iff_eq, decide_eq_true_eq]
  constructor
  · intro h
    rw [ByteArray.toList_eq] at h
    unfold nums
    rw [h]
    rfl
  · intro h
    have : s = ⟨#[45]⟩ := nums_inj (by rw [h]; rfl)
    rw [this, ByteArray.toList_eq]

set_option maxHeartbeats 1000000 in
theorem unhex_early (s : ByteArray) (w : World) (hs : s.size ≤ maxLen) (h : 65536 < s.size ∨ nums s = [45] ∨ s.size = 0 ∨ s.size % 2 = 1) :
    Calls Try.prog 9 #[.string s] w fun e w' => e = .returned (.tuple #[.slice none 0 0, .int .i64 (uh (nums s)).1]) ∧ w' = w := by
  unfold maxLen at hs
  have hl := nums_length s
  by_cases h1 : 65536 < s.size
  · have e : uh (nums s) = (4, []) := by unfold uh; rw [if_pos (by omega)]
    rw [e]
    have h1' : (65536 : Int) < (s.size : Int) := by omega
    clear h hl e
    go_enter Try.func9, Try.ntmps9
    go_wp2
    go_ret2
    exact ⟨rfl, rfl⟩
  · have h1' : ¬ (65536 : Int) < (s.size : Int) := by omega
    by_cases h2 : nums s = [45]
    · have e : uh (nums s) = (0, []) := by unfold uh; rw [if_neg (by omega), if_pos h2]
      rw [e]
      have hm : (s.toList == [45]) = true := by rw [s_minus, h2]; rfl
      clear h hl e h2
      go_enter Try.func9, Try.ntmps9
      go_wp2
      go_ret2
      exact ⟨rfl, rfl⟩
    · have h3 : s.size = 0 ∨ s.size % 2 = 1 := by simp only [h1, h2, false_or] at h; exact h
      have e : uh (nums s) = (110, []) := by unfold uh; rw [if_neg (by omega), if_neg h2, if_pos (by omega)]
      rw [e]
      have hm : (s.toList == [45]) = false := by rw [s_minus]; simp [h2]
      clear h hl e h2
      by_cases h4 : s.size = 0
      · have z0 : ((s.size : Int) == 0) = true := beq_iff_eq.2 (by omega)
        clear h3 h1
        go_enter Try.func9, Try.ntmps9
        go_wp2
        go_ret2
        exact ⟨rfl, rfl⟩
      · have z0 : ((s.size : Int) == 0) = false := beq_eq_false_iff_ne.2 (by omega)
        have z1 : ((s.size : Int) % 2 != 0) = true := by rw [bne_iff_ne]; omega
        clear h3
        go_enter Try.func9, Try.ntmps9
        go_wp2
        go_ret2
        exact ⟨rfl, rfl⟩

theorem uh_early (l : List Int) (h : 65536 < l.length ∨ l = [45] ∨ l.length = 0 ∨ l.length % 2 = 1) : (uh l).2 = [] := by
  unfold uh
  split
  · rfl
  · split
    · rfl
    · split
      · rfl
      · rename_i h1 h2 h3
        simp only [h1, h2, false_or] at h
        exact absurd h h3

/-- What Unhex leaves. -/
def UnPost (U : Int × List Int) (w : World) (e : Ending) (w' : World) : Prop := ∃ v sp, e = .returned (.tuple #[v, .int .i64 U.1]) ∧ Own w.heap.size w' v U.2 sp ∧ Below w.heap.size w w'

/-- high << 4 | low. -/
theorem or_nib (a z : Int) (h1 : 0 ≤ a) (h2 : a ≤ 15) (h3 : 0 ≤ z) (h4 : z ≤ 15) : bits .or .i64 (a * 16) z = 16 * a + z := by
  rw [i64_join 4 _ _ (by omega) (by omega) h3 (by omega) (by omega) (by omega)]
  omega

theorem one_reads (w : World) (x : Int) (h0 : 0 ≤ x) (h1 : x ≤ 255) : Reads (w.alloc (.cells #[.int .u8 x] 5)) (.slice (some ⟨w.heap.size, 0, none⟩) 1 1) [x] := by
  refine ⟨_, 1, rfl, Nat.le_refl _, fun h => by simp at h, ?_, fun _ => ⟨w.heap.size, 0, rfl, ?_⟩⟩
  · intro z hz
    simp at hz
    omega
  · intro i hi
    have hr : (w.alloc (.cells #[.int .u8 x] 5)).heap[w.heap.size]? = some (.cells #[.int .u8 x] 5 (0, 0)) := heap_alloc_new w _
    rw [cell_of_row _ _ _ _ _ _ hr]
    match i, hi with
    | 0, _ => rfl

set_option maxHeartbeats 1000000 in
theorem unhex_late (s : ByteArray) (w : World) (h1 : s.size ≤ 65536) (h2 : nums s ≠ [45]) (h3 : s.size ≠ 0) (h4 : s.size % 2 = 0) :
    Calls Try.prog 9 #[.string s] w (UnPost (uh (nums s)) w) := by
  have hl := nums_length s
  have HU : Hid (uh (nums s) = if goodB (nums s) (s.size / 2) = true then (0, prs (nums s) (s.size / 2)) else (110, [])) := by
    show _ = _
    unfold uh
    rw [if_neg (by omega), if_neg h2, if_neg (by omega), hl]
  have h1' : ¬ (65536 : Int) < (s.size : Int) := by omega
  have hm : (s.toList == [45]) = false := by rw [s_minus]; simp [h2]
  have z0 : ((s.size : Int) == 0) = false := beq_eq_false_iff_ne.2 (by omega)
  have z1 : ((s.size : Int) % 2 != 0) = false := by rw [bne_eq_false_iff_eq]; omega
  generalize uh (nums s) = U at *
  have HL := hidden hl
  clear hl h2
  go_enter Try.func9, Try.ntmps9
  go_wp2_with (at_make; refine wpList_mk _ rfl _ _ rfl _ _ _ _ 0 (s.size / 2) rfl rfl (by rfl) (by omega) (by omega) (by omega) ?_; intro w1 hr1 hb1 hs1)
  have HO : Hid (Own w.heap.size w1 (.slice (some ⟨w.heap.size, 0, none⟩) 0 (s.size / 2)) (prs (nums s) 0) (List.replicate (s.size / 2) 0)) := by
    exact ⟨Bytes.nil, Bytes.zeros _, by simp [prs, maxLen]; omega, .inr ⟨_, [], Nat.le_refl _, by simp [prs], by simpa [prs] using hr1⟩⟩
  have HG0 : Hid (Good (nums s) 0) := by intro j hj; omega
  clear hr1 hs1
  go_loopw [4, 5] (fun t i wr => ∃ (k : Nat) (sp : List Int) (a : Option Addr) (q : Nat), k ≤ s.size / 2 ∧ i = .int .i64 (2 * k : Nat) ∧ t = .slice a k q ∧ Hid (Own w.heap.size wr t (prs (nums s) k) sp) ∧ Hid (Good (nums s) k) ∧ Below w.heap.size w wr) (fun _ i _ => s.size - (intOf i).toNat)
  case atStart => exact ⟨0, List.replicate (s.size / 2) 0, _, _, by omega, rfl, rfl, HO, HG0, hb1⟩
  case round =>
    obtain ⟨k, sp, a, q, hk, rfl, rfl, hO, hG, hb⟩ := hrel
    by_cases hlt : k < s.size / 2
    · have i1 : (2 * k : Nat) < s.size := by omega
      have i2 : (2 * k + 1 : Nat) < s.size := by omega
      have g1 := nums_get s (2 * k) i1
      have g2 := nums_get s (2 * k + 1) i2
      have HP : Hid (pr (nums s) k = 16 * dg (s[2 * k].toNat : Int) + dg (s[2 * k + 1].toNat : Int)) := by
        show _ = _
        unfold pr
        rw [g1, g2]
      have HGs : Hid (0 ≤ dg (s[2 * k].toNat : Int) → 0 ≤ dg (s[2 * k + 1].toNat : Int) → Good (nums s) (k + 1)) := by
        intro q1 q2 j hj
        by_cases e : j = k
        · subst e
          rw [g1, g2]
          exact ⟨q1, q2⟩
        · exact hG.out j (by omega)
      have HGn : Hid ((dg (s[2 * k].toNat : Int) < 0 ∨ dg (s[2 * k + 1].toNat : Int) < 0) → U = (110, [])) := by
        intro q
        rw [HU.out, if_neg]
        intro e
        have := (goodB_iff _ _).1 e k hlt
        rw [g1, g2] at this
        omega
      have d1 := dg_bd (s[2 * k].toNat : Int)
      have d2 := dg_bd (s[2 * k + 1].toNat : Int)
      clear g1 g2
      generalize hpp : 2 * k = p at *
      have HPP := hidden hpp
      clear hpp
      have j1 : (p : Int) < (s.size : Int) := by omega
      have j2 : (p : Int) + 1 < (s.size : Int) := by omega
      have j3 : (0 : Int) ≤ (p : Int) + 1 := by omega
      have j0 : (0 : Int) ≤ (p : Int) := by omega
      go_wp2_with fail
      go_quiet ((go_at_call 36; exact Calls.quiet_of_same (digit_u _ _)))
      generalize dg (s[p].toNat : Int) = hi at *
      generalize dg (s[p + 1].toNat : Int) = lo at *
      by_cases q1 : hi < 0
      · have HN := hidden (HGn.out (.inl q1))
        go_wp2
        go_ret2
        refine ⟨_, [], by rw [HN.out]; rfl, ?_, below_drewN hb _⟩
        rw [HN.out]
        exact Own.nil _ _
      · by_cases q2 : lo < 0
        · have HN := hidden (HGn.out (.inr q2))
          go_wp2
          go_ret2
          refine ⟨_, [], by rw [HN.out]; rfl, ?_, below_drewN hb _⟩
          rw [HN.out]
          exact Own.nil _ _
        · have eo := or_nib hi lo (by omega) (by omega) (by omega) (by omega)
          have hpb : 0 ≤ 16 * hi + lo ∧ 16 * hi + lo ≤ 255 := by omega
          go_wp2_with (at_builtin; (refine wpList_app _ rfl _ _ rfl w.heap.size _ _ (prs (nums s) k) sp _ (hO.out.grow (grow_trans (below_drewN (Below.refl _ _) _) (grow_alloc _ _))) (one_reads _ _ hpb.1 hpb.2) rfl rfl (by rw [prs_length]; simp; omega) (by have := hb.size; simp; omega) ?_; intro v' w' sp' h1 h2 h3 h4))
          have hO' : Own w.heap.size w' v' (prs (nums s) (k + 1)) sp' := by
            rw [prs_succ, HP.out]
            exact h1
          have hb' : Below w.heap.size w w' := ((below_drewN hb _).alloc (by exact hb.size) _).grown h2 (by have := hb.size; simp; omega) (fun k hk => (hO.out.lt k hk).1)
          obtain ⟨a', c', hv'⟩ := hO'.slice
          rw [prs_length] at hv'
          have hp2 := HPP.out
          exact ⟨⟨k + 1, sp', a', c', by omega, by rw [← hp2]; go_num, hv', hO', HGs.out (by omega) (by omega), hb'⟩, by simp [intOf]; omega⟩
    · have hU : U = (0, prs (nums s) k) := by
        have hke : s.size / 2 = k := by omega
        have := HU.out
        rw [hke, if_pos ((goodB_iff _ _).2 hG.out)] at this
        exact this
      have HUU := hidden hU
      clear hU HU
      go_wp2
      go_ret2
      refine ⟨_, sp, by rw [HUU.out]; rfl, ?_, hb⟩
      rw [HUU.out]
      exact hO.out

theorem unhex_any (s : ByteArray) (w : World) (hs : s.size ≤ maxLen) : Calls Try.prog 9 #[.string s] w (UnPost (uh (nums s)) w) := by
  by_cases h : 65536 < s.size ∨ nums s = [45] ∨ s.size = 0 ∨ s.size % 2 = 1
  · refine (unhex_early s w hs h).mono ?_
    rintro e w' ⟨rfl, rfl⟩
    refine ⟨_, [], rfl, ?_, Below.refl _ _⟩
    rw [uh_early (nums s) (by rw [nums_length]; exact h)]
    exact Own.nil _ _
  · simp only [not_or] at h
    exact unhex_late s w (by omega) h.2.1 h.2.2.1 (by omega)

end Go.Proofs.Ythbdnhfppjhppaa
