/- The document's Put and Join (rootcellarref01), as contracts. -/
import Derived.Test.YthbdnhfppjhppaaJoin
import Derived.Test.YthbdnhfppjhppaaPuts
namespace Go.Proofs.Ythbdnhfppjhppaa
open Go.RowKit

/-- The lowest j bytes of v, the highest first. -/
def low : Nat → Int → List Int
  | 0, _ => []
  | j + 1, v => (v / 256 ^ j % 256) :: low j v
theorem low_length : ∀ (j : Nat) (v : Int), (low j v).length = j
  | 0, _ => rfl
  | j + 1, v => by simp [low, low_length j v]
theorem low_bytes : ∀ (j : Nat) (v : Int), Bytes (low j v)
  | 0, _ => Bytes.nil
  | j + 1, v => by
    intro z hz
    simp only [low, List.mem_cons] at hz
    rcases hz with rfl | hz
    · omega
    · exact low_bytes j v z hz

theorem low_set (n j : Nat) (v : Int) (h : j < n) : (List.replicate (n - j) (0 : Int) ++ low j v).set (n - 1 - j) (v / 256 ^ j % 256) = List.replicate (n - (j + 1)) 0 ++ low (j + 1) v := by
  have e : List.replicate (n - j) (0 : Int) = List.replicate (n - (j + 1)) 0 ++ [0] := by
    rw [show n - j = (n - (j + 1)) + 1 by omega, List.replicate_succ']
  rw [e, List.append_assoc, List.set_append_right _ _ (by simp; omega)]
  simp [low, show n - 1 - j - (n - (j + 1)) = 0 by omega]

theorem div_pow_succ (v : Int) (j : Nat) : v / 256 ^ j / 256 = v / 256 ^ (j + 1) := by
  rw [Int.pow_succ, Int.ediv_ediv_of_nonneg (Int.le_of_lt (Int.pow_pos (by omega)))]

set_option maxHeartbeats 1000000 in
theorem rput_bad (v n : Int) (w : World) (hn : n = 2 ∨ n = 4) (h : v < 0 ∨ (n = 2 ∧ 65535 < v) ∨ (n = 4 ∧ 4294967295 < v)) : Calls Try.prog 21 #[.int .i64 v, .int .i64 n] w (PutPost 2 [] w) := by
  by_cases h0 : v < 0
  · clear h
    go_enter Try.func21, Try.ntmps21
    go_wp2
    go_ret2
    exact ⟨_, [], rfl, Own.nil _ _, Below.refl _ _⟩
  · rcases hn with rfl | rfl
    · have h1 : 65535 < v := by omega
      clear h
      go_enter Try.func21, Try.ntmps21
      go_wp2
      go_ret2
      exact ⟨_, [], rfl, Own.nil _ _, Below.refl _ _⟩
    · have h1 : 4294967295 < v := by omega
      clear h
      go_enter Try.func21, Try.ntmps21
      go_wp2
      go_ret2
      exact ⟨_, [], rfl, Own.nil _ _, Below.refl _ _⟩

set_option maxHeartbeats 1000000 in
theorem rput_ok2 (v : Int) (w : World) (h0 : 0 ≤ v) (h2 : v ≤ 65535) : Calls Try.prog 21 #[.int .i64 v, .int .i64 2] w (PutPost 0 (low 2 v) w) := by
  have hv0 : ¬ v < 0 := by omega
  have hv1 : ¬ 65535 < v := by omega
  go_enter Try.func21, Try.ntmps21
  go_wp2_with (at_make; refine wpList_mk _ rfl _ _ rfl _ _ _ _ 2 2 rfl rfl (by rfl) (by rfl) (Nat.le_refl _) (by omega) ?_; intro w1 hr1 hb1 hs1)
  have HR : Hid (Row w1 w.heap.size (List.replicate (2 - 0) 0 ++ low 0 v)) := by
    show Row _ _ _
    simpa [low] using hr1
  clear hr1
  go_loopw [0, 7] (fun x i wr => ∃ j : Nat, j ≤ 2 ∧ i = .int .i64 (2 - 1 - j : Int) ∧ x = .int .i64 (v / 256 ^ j) ∧ Hid (Row wr w.heap.size (List.replicate (2 - j) 0 ++ low j v)) ∧ Below w.heap.size w wr) (fun _ i _ => (intOf i + 1).toNat)
  case atStart => exact ⟨0, by omega, by simp, by simp, HR, hb1⟩
  case round =>
    obtain ⟨j, hj, rfl, rfl, hR, hb⟩ := hrel
    by_cases hlt : j < 2
    · have hc := hR.out.cell (2 - 1 - j) (by simp [low_length]; omega)
      have hf := hR.out.frozen (2 - 1 - j)
      have hset := hR.out.set (2 - 1 - j) (v / 256 ^ j % 256)
      rw [low_set 2 j v hlt] at hset
      have HD := hidden (div_pow_succ v j)
      have hx0 : 0 ≤ v / 256 ^ j := Int.ediv_nonneg h0 (Int.le_of_lt (Int.pow_pos (by omega)))
      have hx1 : v / 256 ^ j ≤ v := Int.ediv_le_self _ h0
      have hij : ((2 : Int) - 1 - (j : Int)) = ((2 - 1 - j : Nat) : Int) := by omega
      rw [hij]
      have hpos : (0 : Int) ≤ ((2 - 1 - j : Nat) : Int) := by omega
      have hlt3 : ((2 - 1 - j : Nat) : Int) < 2 := by omega
      generalize hp : 2 - 1 - j = p at *
      have HPP := hidden hp
      have HIJ := hidden hij
      have HSET := hidden hset
      clear hp hij hset
      generalize hx : v / 256 ^ j = x at *
      have HX := hidden hx
      clear hx
      generalize (List.replicate (2 - j) (0 : Int) ++ low j v).getD p 0 = old at *
      go_wp2
      refine ⟨⟨j + 1, by omega, ?_, ?_, HSET, hb.setCell (Nat.le_refl _) _⟩, by simp [intOf]⟩
      · have h1 := HPP.out
        have h2 := HIJ.out
        congr 1
        omega
      · rw [← HD.out]
    · have hje : j = 2 := by omega
      subst hje
      go_wp2
      go_ret2
      refine ⟨_, [], rfl, ?_, hb⟩
      have hrow := hR.out
      simp only [Nat.sub_self, List.replicate_zero, List.nil_append] at hrow
      have := Own.mk (base := w.heap.size) (low_bytes 2 v) Bytes.nil (by simp [low_length, maxLen]) (Nat.le_refl _) (by simpa using hrow)
      rw [low_length] at this
      exact this

set_option maxHeartbeats 1000000 in
theorem rput_ok4 (v : Int) (w : World) (h0 : 0 ≤ v) (h2 : v ≤ 4294967295) : Calls Try.prog 21 #[.int .i64 v, .int .i64 4] w (PutPost 0 (low 4 v) w) := by
  have hv0 : ¬ v < 0 := by omega
  have hv1 : ¬ 4294967295 < v := by omega
  go_enter Try.func21, Try.ntmps21
  go_wp2_with (at_make; refine wpList_mk _ rfl _ _ rfl _ _ _ _ 4 4 rfl rfl (by rfl) (by rfl) (Nat.le_refl _) (by omega) ?_; intro w1 hr1 hb1 hs1)
  have HR : Hid (Row w1 w.heap.size (List.replicate (4 - 0) 0 ++ low 0 v)) := by
    show Row _ _ _
    simpa [low] using hr1
  clear hr1
  go_loopw [0, 7] (fun x i wr => ∃ j : Nat, j ≤ 4 ∧ i = .int .i64 (4 - 1 - j : Int) ∧ x = .int .i64 (v / 256 ^ j) ∧ Hid (Row wr w.heap.size (List.replicate (4 - j) 0 ++ low j v)) ∧ Below w.heap.size w wr) (fun _ i _ => (intOf i + 1).toNat)
  case atStart => exact ⟨0, by omega, by simp, by simp, HR, hb1⟩
  case round =>
    obtain ⟨j, hj, rfl, rfl, hR, hb⟩ := hrel
    by_cases hlt : j < 4
    · have hc := hR.out.cell (4 - 1 - j) (by simp [low_length]; omega)
      have hf := hR.out.frozen (4 - 1 - j)
      have hset := hR.out.set (4 - 1 - j) (v / 256 ^ j % 256)
      rw [low_set 4 j v hlt] at hset
      have HD := hidden (div_pow_succ v j)
      have hx0 : 0 ≤ v / 256 ^ j := Int.ediv_nonneg h0 (Int.le_of_lt (Int.pow_pos (by omega)))
      have hx1 : v / 256 ^ j ≤ v := Int.ediv_le_self _ h0
      have hij : ((4 : Int) - 1 - (j : Int)) = ((4 - 1 - j : Nat) : Int) := by omega
      rw [hij]
      have hpos : (0 : Int) ≤ ((4 - 1 - j : Nat) : Int) := by omega
      have hlt3 : ((4 - 1 - j : Nat) : Int) < 4 := by omega
      generalize hp : 4 - 1 - j = p at *
      have HPP := hidden hp
      have HIJ := hidden hij
      have HSET := hidden hset
      clear hp hij hset
      generalize hx : v / 256 ^ j = x at *
      have HX := hidden hx
      clear hx
      generalize (List.replicate (4 - j) (0 : Int) ++ low j v).getD p 0 = old at *
      go_wp2
      refine ⟨⟨j + 1, by omega, ?_, ?_, HSET, hb.setCell (Nat.le_refl _) _⟩, by simp [intOf]⟩
      · have h1 := HPP.out
        have h2 := HIJ.out
        congr 1
        omega
      · rw [← HD.out]
    · have hje : j = 4 := by omega
      subst hje
      go_wp2
      go_ret2
      refine ⟨_, [], rfl, ?_, hb⟩
      have hrow := hR.out
      simp only [Nat.sub_self, List.replicate_zero, List.nil_append] at hrow
      have := Own.mk (base := w.heap.size) (low_bytes 4 v) Bytes.nil (by simp [low_length, maxLen]) (Nat.le_refl _) (by simpa using hrow)
      rw [low_length] at this
      exact this

set_option maxHeartbeats 1000000 in
theorem rjoin_any (v : Value) (ps : List (List Int)) (w : World) (h : Parts w v ps) (hl : ps.flatten.length ≤ 140737488355328) :
    Calls Try.prog 22 #[v] w (JoinPost ps.flatten w) := by
  obtain ⟨a, cap, V, rfl, hcap, hn, hcell, hr⟩ := h
  have HC := hidden hcell
  have HR := hidden hr
  have HO : Hid (Own w.heap.size w (.slice none 0 0) ((ps.take 0).flatten) []) := Own.nil _ _
  clear hcell hr
  go_enter Try.func22, Try.ntmps22
  go_wp2_with fail
  go_loopw [3, 4] (fun t i wr => ∃ (k : Nat) (sp : List Int), k ≤ ps.length ∧ i = .int .i64 k ∧ Hid (Own w.heap.size wr t ((ps.take k).flatten) sp) ∧ Below w.heap.size w wr) (fun _ i _ => ps.length - (intOf i).toNat)
  case atStart => exact ⟨0, [], by omega, rfl, HO, Below.refl _ _⟩
  case round =>
    obtain ⟨k, sp, hk, rfl, hO, hb⟩ := hrel
    by_cases hlt : k < ps.length
    · obtain ⟨b, off, rfl, hcc⟩ := HC.out (by omega)
      have hx := hcc k hlt
      have hx1 := (hb.cell (p := ⟨b, off + k, none⟩) (block_lt_of_cell hx)).trans hx
      have HRK := hidden ((HR.out k hlt).grow hb)
      have HF := hidden (flat_succ ps k hlt)
      have hle : ((ps.take k).flatten).length + (ps.getD k []).length ≤ 140737488355328 := by
        have h1 := lens_succ ps k hlt
        have h2 := lens_le ps (k + 1)
        unfold lens at *
        omega
      clear hx hcc
      go_wp2_with (at_builtin; refine wpList_app _ rfl _ _ rfl w.heap.size _ _ _ sp _ hO.out HRK.out rfl rfl hle hb.size ?_; intro v' w' sp' h1 h2 h3 h4)
      have hO' : Own w.heap.size w' v' ((ps.take (k + 1)).flatten) sp' := by
        rw [HF.out]
        exact h1
      exact ⟨⟨k + 1, sp', by omega, by go_num, hO', hb.grown h2 hb.size (fun j hj => (hO.out.lt j hj).1)⟩, by simp [intOf]; omega⟩
    · have hfl : (ps.take k).flatten = ps.flatten := by rw [List.take_of_length_le (by omega)]
      rw [hfl] at hO
      go_wp2
      go_ret
      exact ⟨_, sp, rfl, hO.out, hb⟩

end Go.Proofs.Ythbdnhfppjhppaa
