/- The document's reader (rootcellarref01.Reader), as contracts: New, Take, Number, Done. -/
import Derived.Test.YthbdnhfppjhppaaOctet1
namespace Go.Proofs.Ythbdnhfppjhppaa
open Go.RowKit

/-- The document's reader at block b. -/
def Rm (w : World) (b : Nat) (o : Option Nat) (zs : List Int) (bad : Bool) : Prop :=
  ∃ v, w.heap[b]? = some (.cells #[v, .bool bad] 51 (0, 0)) ∧ Reads w v zs ∧ zs.length ≤ 140737488355328 ∧ (v.ownBlock = o ∨ v.ownBlock = none) ∧ o ≠ some b

theorem Rm.lt {w : World} {b : Nat} {o : Option Nat} {zs : List Int} {bad : Bool} (h : Rm w b o zs bad) : b < w.heap.size := by
  obtain ⟨v, h, _⟩ := h
  exact (Array.getElem?_eq_some_iff.1 h).1

theorem Rm.grow {w w' : World} {b : Nat} {o : Option Nat} {zs : List Int} {bad : Bool} (h : Rm w b o zs bad) (hb : Below w.heap.size w w') : Rm w' b o zs bad := by
  have hlt := h.lt
  obtain ⟨v, h, h1, h2, h3⟩ := h
  exact ⟨v, by rw [hb.block b hlt]; exact h, h1.grow hb, h2, h3⟩

theorem Rm.kept {w w' : World} {b : Nat} {o : Option Nat} {zs : List Int} {bad : Bool} {row : Option Nat} (h : Rm w b o zs bad) (hg : w.grownBy w' row) (hb : some b ≠ row) (ho : row = none ∨ o ≠ row) : Rm w' b o zs bad := by
  have hlt := h.lt
  obtain ⟨v, h, h1, h2, h3, h4⟩ := h
  refine ⟨v, by rw [hg.block b hlt hb]; exact h, h1.kept hg ?_, h2, h3, h4⟩
  rcases ho with ho | ho
  · exact .inl ho
  · rcases h3 with e | e
    · rw [e]; exact .inr ho
    · rw [e]
      cases row with
      | none => exact .inl rfl
      | some k => exact .inr (by simp)

theorem Rm.cells {w : World} {b : Nat} {o : Option Nat} {zs : List Int} {bad : Bool} (h : Rm w b o zs bad) : ∃ a c, w.heap[b]? = some (.cells #[.slice a zs.length c, .bool bad] 51 (0, 0)) ∧ Reads w (.slice a zs.length c) zs ∧
    w.cell? ⟨b, 0, none⟩ = some (.slice a zs.length c) ∧ w.cell? ⟨b, 0 + 1, none⟩ = some (.bool bad) ∧ (∀ i, w.frozen? ⟨b, i, none⟩ = false) ∧ zs.length ≤ c ∧ zs.length ≤ 140737488355328 ∧ ((Value.slice a zs.length c).ownBlock = o ∨ (Value.slice a zs.length c).ownBlock = none) ∧ o ≠ some b := by
  obtain ⟨v, h1, h2, h3, h4, h9⟩ := h
  have h2' := h2
  obtain ⟨a, c, rfl, h5, h6, h7, h8⟩ := h2'
  refine ⟨a, c, h1, h2, ?_, ?_, fun i => frozen_of_row w b i _ _ h1, h5, h3, h4, h9⟩
  · rw [cell_of_row w b 0 _ _ _ h1]; rfl
  · rw [cell_of_row w b _ _ _ _ h1]; rfl

set_option maxHeartbeats 400000 in
theorem rnew_any (v : Value) (zs : List Int) (w : World) (h : Reads w v zs) (hl : zs.length ≤ 140737488355328) :
    Calls Try.prog 25 #[v] w fun e w' => ∃ b o, e = .returned (.pointer (some ⟨b, 0, none⟩)) ∧ w.heap.size ≤ b ∧ (∀ k, o = some k → w.heap.size ≤ k ∧ k < w'.heap.size) ∧ Rm w' b o zs false ∧ Below w.heap.size w w' := by
  have HR : Hid (Reads w v zs) := h
  clear h
  go_enter Try.func25, Try.ntmps25
  go_wp2_with (at_builtin; refine wpList_app _ rfl _ _ rfl w.heap.size _ _ [] [] zs (Own.empty _ _ (Nat.le_refl _)) (HR.out.grow (grow_alloc _ _)) rfl rfl (by simpa using hl) (by simp) ?_; intro v' w' sp' h1 h2 h3 h4; simp only [List.nil_append] at h1; obtain ⟨a', c', rfl⟩ := h1.slice)
  go_ret
  have hb : Below w.heap.size w w' := (grow_alloc w _).grown h2 (by simp) (by intro k hk; simp [Value.ownBlock] at hk; omega)
  refine ⟨w'.heap.size, _, rfl, hb.size, fun k hk => ⟨(h1.lt k hk).1, by have := (h1.lt k hk).2; simp; omega⟩, ⟨_, heap_alloc_new _ _, h1.reads.grow (grow_alloc _ _), hl, .inl rfl, ?_⟩, hb.alloc hb.size _⟩
  intro hk
  have := (h1.lt _ hk).2
  omega

set_option maxHeartbeats 400000 in
theorem rtake_core_bad (b : Nat) (a : Option Addr) (l c : Nat) (bad : Bool) (n : Int) (w : World) (c0 : w.cell? ⟨b, 0, none⟩ = some (.slice a l c)) (c1 : w.cell? ⟨b, 0 + 1, none⟩ = some (.bool bad)) (hf : ∀ i, w.frozen? ⟨b, i, none⟩ = false) (hn : bad = true ∨ n < 0 ∨ (l : Int) < n) :
    Calls Try.prog 42 #[.pointer (some ⟨b, 0, none⟩), .int .i64 n] w fun e w' => e = .returned (.tuple #[.slice none 0 0, .bool false]) ∧ w' = (w.setCell ⟨b, 0 + 1, none⟩ (.bool true)).setCell ⟨b, 0, none⟩ (.slice none 0 0) := by
  have f0 := hf 0
  have f1 := hf 1
  clear hf
  cases bad
  · by_cases h0 : n < 0
    · go_enter Try.func42, Try.ntmps42
      go_wp2
      go_ret2
      exact ⟨rfl, rfl⟩
    · have h1 : (l : Int) < n := by simp [h0] at hn; exact hn
      clear hn
      go_enter Try.func42, Try.ntmps42
      go_wp2
      go_ret2
      exact ⟨rfl, rfl⟩
  · clear hn
    go_enter Try.func42, Try.ntmps42
    go_wp2
    go_ret2
    exact ⟨rfl, rfl⟩

set_option maxHeartbeats 400000 in
theorem rtake_core_ok (b : Nat) (a : Option Addr) (c : Nat) (zs : List Int) (n : Nat) (w : World) (c0 : w.cell? ⟨b, 0, none⟩ = some (.slice a zs.length c)) (c1 : w.cell? ⟨b, 0 + 1, none⟩ = some (.bool false)) (hf : ∀ i, w.frozen? ⟨b, i, none⟩ = false) (hn : n ≤ zs.length) (hlc : zs.length ≤ c)
    (hr : Reads w (.slice a zs.length c) zs) (hl : zs.length ≤ 140737488355328) :
    Calls Try.prog 42 #[.pointer (some ⟨b, 0, none⟩), .int .i64 n] w fun e w' => ∃ w1 v sp, e = .returned (.tuple #[v, .bool true]) ∧ Own w.heap.size w1 v (zs.take n) sp ∧ Below w.heap.size w w1 ∧ w' = w1.setCell ⟨b, 0, none⟩ (.slice (moved a c n) (zs.length - n) (c - n)) := by
  have HR : Hid (Reads w (.slice a n c) (zs.take n)) := hr.cutfront n hn
  have hlt : b < w.heap.size := block_lt_of_cell c0
  have f0 := hf 0
  clear hf hr
  have h0 : ¬ (n : Int) < 0 := by omega
  have hlt' : (n : Int) ≤ (zs.length : Int) := by omega
  by_cases hcn : c = n
  · have hzl : zs.length = n := by omega
    rw [hzl] at *
    subst hcn
    rw [show moved a c c = a by simp [moved]]
    go_enter Try.func42, Try.ntmps42
    go_wp2_with (at_builtin; refine wpList_app _ rfl _ _ rfl w.heap.size _ _ [] [] (zs.take c) (Own.empty _ _ (Nat.le_refl _)) (HR.out.grow (grow_alloc _ _)) rfl rfl (by simp; omega) (by simp) ?_; intro v' w' sp' h1 h2 h3 h4; have hb : Below w.heap.size w w' := (grow_alloc w _).grown h2 (by simp) (by intro k hk; simp [Value.ownBlock] at hk; omega); have c0' := (hb.cell (p := ⟨b, 0, none⟩) hlt).trans c0; have f0' := (hb.frozen (p := ⟨b, 0, none⟩) hlt).trans f0)
    go_ret2
    refine ⟨w', v', rfl, ⟨sp', by simpa using h1⟩, hb, by simp⟩
  · rw [show moved a c n = a.map fun x => x.add n by simp [moved, hcn]]
    go_enter Try.func42, Try.ntmps42
    go_wp2_with (at_builtin; refine wpList_app _ rfl _ _ rfl w.heap.size _ _ [] [] (zs.take n) (Own.empty _ _ (Nat.le_refl _)) (HR.out.grow (grow_alloc _ _)) rfl rfl (by simp; omega) (by simp) ?_; intro v' w' sp' h1 h2 h3 h4; have hb : Below w.heap.size w w' := (grow_alloc w _).grown h2 (by simp) (by intro k hk; simp [Value.ownBlock] at hk; omega); have c0' := (hb.cell (p := ⟨b, 0, none⟩) hlt).trans c0; have f0' := (hb.frozen (p := ⟨b, 0, none⟩) hlt).trans f0)
    go_ret2
    refine ⟨w', v', rfl, ⟨sp', by simpa using h1⟩, hb, by simp⟩

theorem Rm.set {w : World} {b : Nat} {o : Option Nat} {zs : List Int} {v u : Value} {bad : Bool} (h1 : w.heap[b]? = some (.cells #[v, .bool bad] 51 (0, 0))) (hr : Reads w u zs) (hl : zs.length ≤ 140737488355328) (hu : u.ownBlock = o ∨ u.ownBlock = none) (ho : o ≠ some b) :
    Rm (w.setCell ⟨b, 0, none⟩ u) b o zs bad := by
  refine ⟨u, ?_, hr.set b 0 u ?_, hl, hu, ho⟩
  · rw [heap_setCell_same w b 0 _ _ _ h1]; rfl
  · intro k hk e
    rcases hu with hu | hu
    · exact ho (by rw [← hu, hk, e])
    · rw [hu] at hk; cases hk

theorem rm_take_ok (b : Nat) (zs : List Int) (n : Nat) (w : World) (o : Option Nat) (h : Rm w b o zs false) (hn : n ≤ zs.length) :
    Calls Try.prog 42 #[.pointer (some ⟨b, 0, none⟩), .int .i64 n] w fun e w' => ∃ a c, e = .returned (.tuple #[.slice a n c, .bool true]) ∧ Reads w' (.slice a n c) (zs.take n) ∧ (∀ k, (Value.slice a n c).ownBlock = some k → w.heap.size ≤ k) ∧ Rm w' b o (zs.drop n) false ∧ w.grownBy w' (some b) := by
  have hlt := h.lt
  obtain ⟨a, c, h1, h2, c0, c1, hf, hlc, hl, ho, hob⟩ := h.cells
  refine (rtake_core_ok b a c zs n w c0 c1 hf hn hlc h2 hl).mono ?_
  rintro e w' ⟨w1, v, sp, rfl, hown, hbel, rfl⟩
  obtain ⟨a', c', rfl⟩ := hown.slice
  have hln : (zs.take n).length = n := by simp; omega
  rw [hln] at hown
  have hk : ∀ k, (Value.slice a' n c').ownBlock = some k → w.heap.size ≤ k := fun k hk => (hown.lt k hk).1
  have hm := moved_own a c n zs.length (zs.length - n) c (c - n)
  refine ⟨a', c', by rw [hln], hown.reads.set b 0 _ (fun k h => by have := hk k h; omega), hk, ?_, grown_trans (below_grown hbel _) (grown_setCell _ _ _ _)⟩
  exact Rm.set (by rw [hbel.block b hlt]; exact h1) ((h2.cutoff n hn).grow hbel) (by simp; omega) (by rw [hm]; exact ho) hob

theorem rm_take_bad (b : Nat) (zs : List Int) (bad : Bool) (n : Int) (w : World) (o : Option Nat) (h : Rm w b o zs bad) (hn : bad = true ∨ n < 0 ∨ (zs.length : Int) < n) :
    Calls Try.prog 42 #[.pointer (some ⟨b, 0, none⟩), .int .i64 n] w fun e w' => e = .returned (.tuple #[.slice none 0 0, .bool false]) ∧ Rm w' b o [] true ∧ w.grownBy w' (some b) := by
  obtain ⟨a, c, h1, h2, c0, c1, hf, hlc, hl, ho, hob⟩ := h.cells
  refine (rtake_core_bad b a _ c bad n w c0 c1 hf hn).mono ?_
  rintro e w' ⟨rfl, rfl⟩
  refine ⟨rfl, Rm.set (v := .slice a zs.length c) ?_ (Reads.nil _) (by simp) (.inr rfl) hob, grown_trans (grown_setCell _ _ _ _) (grown_setCell _ _ _ _)⟩
  rw [heap_setCell_same w b _ _ _ _ h1]
  rfl

set_option maxHeartbeats 400000 in
theorem rnumber_of (r : Value) (n : Nat) (zs : List Int) (w : World) (R : World → Prop) (hz : zs.length = n) (h4 : n ≤ 4)
    (h : Calls Try.prog 42 #[r, .int .i64 n] w fun e w' => ∃ a c, e = .returned (.tuple #[.slice a n c, .bool true]) ∧ Reads w' (.slice a n c) zs ∧ R w') (hn : 0 < n) :
    Calls Try.prog 41 #[r, .int .i64 n] w fun e w' => e = .returned (.int .i64 (numOf zs)) ∧ R w' := by
  have HH : Hid (Calls Try.prog 42 #[r, .int .i64 n] w fun e w' => ∃ a c, e = .returned (.tuple #[.slice a n c, .bool true]) ∧ Reads w' (.slice a n c) zs ∧ R w') := h
  have HZ : Hid (zs.length = n) := hz
  clear h hz
  go_enter Try.func41, Try.ntmps41
  go_wp2_with (go_at_call 42; refine HH.out.mono ?_; rintro e w1 ⟨a, c, rfl, hr, hR⟩)
  have hr' := hr
  obtain ⟨a', c', e, _, _, hby, hc⟩ := hr'
  injection e with e1 e2 e3
  subst e1; subst e3
  obtain ⟨g, off, rfl, hcell⟩ := hc (by have := HZ.out; omega)
  rw [HZ.out] at hcell
  have HB : Hid (Bytes zs) := hby
  clear hby hc e2 hr
  go_loop [7, 8] (fun s i => ∃ k : Nat, k ≤ n ∧ i = .int .i64 k ∧ s = .int .i64 (numOf (zs.take k))) (fun _ i => n - (intOf i).toNat)
  case atStart => exact ⟨0, Nat.zero_le _, rfl, rfl⟩
  case round =>
    obtain ⟨k, hk, rfl, rfl⟩ := hrel
    by_cases hlt : k < n
    · have hx := hcell k hlt
      have hb1 := HB.out.getD k
      have hb2 := numOf_le4 (zs.take k) (HB.out.take k) (by simp; omega)
      have HS : Hid (256 * numOf (zs.take k) + zs.getD k 0 = numOf (zs.take (k + 1))) := by
        rw [take_snoc zs k (by have := HZ.out; omega), numOf_snoc]
        exact rfl
      generalize zs.getD k 0 = z at *
      clear hcell
      go_wp2
      exact ⟨⟨k + 1, by omega, by go_num, by rw [HS.out]⟩, by simp [intOf]; omega⟩
    · go_wp2
      go_ret
      exact ⟨by rw [List.take_of_length_le (by have := HZ.out; omega)]; rfl, hR⟩

set_option maxHeartbeats 400000 in
theorem rnumber_bad (r : Value) (n : Int) (w : World) (R : World → Prop)
    (h : Calls Try.prog 42 #[r, .int .i64 n] w fun e w' => e = .returned (.tuple #[.slice none 0 0, .bool false]) ∧ R w') :
    Calls Try.prog 41 #[r, .int .i64 n] w fun e w' => e = .returned (.int .i64 0) ∧ R w' := by
  have HH : Hid (Calls Try.prog 42 #[r, .int .i64 n] w fun e w' => e = .returned (.tuple #[.slice none 0 0, .bool false]) ∧ R w') := h
  clear h
  go_enter Try.func41, Try.ntmps41
  go_wp2_with (go_at_call 42; refine HH.out.mono ?_; rintro e w1 ⟨rfl, hR⟩)
  refine wp_loop_rounds 1 ?_
  rw [rounds_succ]
  go_wp2
  go_ret
  exact ⟨rfl, hR⟩

set_option maxHeartbeats 400000 in
theorem rdone_core (b : Nat) (a : Option Addr) (l c : Nat) (bad : Bool) (w : World) (c0 : w.cell? ⟨b, 0, none⟩ = some (.slice a l c)) (c1 : w.cell? ⟨b, 0 + 1, none⟩ = some (.bool bad)) :
    Calls Try.prog 30 #[.pointer (some ⟨b, 0, none⟩)] w fun e w' => e = .returned (.bool (!bad && l == 0)) ∧ w' = w := by
  cases bad
  · go_enter Try.func30, Try.ntmps30
    go_wp2
    go_ret
    refine ⟨?_, rfl⟩
    cases l <;> rfl
  · go_enter Try.func30, Try.ntmps30
    go_wp2
    go_ret
    exact ⟨rfl, rfl⟩

theorem rm_done (b : Nat) (zs : List Int) (bad : Bool) (w : World) (o : Option Nat) (h : Rm w b o zs bad) :
    Calls Try.prog 30 #[.pointer (some ⟨b, 0, none⟩)] w fun e w' => e = .returned (.bool (!bad && zs.length == 0)) ∧ w' = w := by
  obtain ⟨a, c, h1, h2, c0, c1, hf, hlc, hl, ho, hob⟩ := h.cells
  exact rdone_core b a _ c bad w c0 c1

end Go.Proofs.Ythbdnhfppjhppaa
