/- The document's schedule of a block (rootcellarref02.words), as a contract. -/
import Derived.Test.YtpihigcnoifcfaaGreatDoorVw08
import Derived.RegionTactic
import Derived.Test.YtpihigcnoifcfaaGreatDoorVw04
namespace Go.Proofs.YtpihigcnoifcfaaGreatDoor
set_option maxRecDepth 20000
open Go.RowKit

/-- The first i bytes of word t of a block, as a number. -/
def acc (b : List Int) (t : Nat) : Nat → Int
  | 0 => 0
  | i + 1 => acc b t i * 256 + b.getD (4 * t + i) 0
theorem acc_bd (b : List Int) (t : Nat) (h : Bytes b) : ∀ i, 0 ≤ acc b t i ∧ acc b t i < 256 ^ i
  | 0 => ⟨by simp [acc], by simp [acc]⟩
  | i + 1 => by
    have h1 := acc_bd b t h i
    have h2 := getD_bytes h (4 * t + i)
    simp only [acc]
    rw [Int.pow_succ]
    omega
theorem acc_four (b ws : List Int) (t : Nat) (ht : t < 16) : acc b t 4 = nextWord b ws t := by
  simp only [acc, nextWord, if_pos ht, Nat.add_zero]
  omega

theorem getD_set (l : List Int) (t : Nat) (x : Int) (h : t < l.length) : (l.set t x).getD t 0 = x := by
  rw [List.getD, List.getElem?_set_self h]
  rfl

theorem set_there (b : List Int) (t : Nat) (ht : t < 64) : (sch b t ++ List.replicate (64 - t) 0).set t (acc b t 0) = sch b t ++ List.replicate (64 - t) 0 := by
  rw [show 64 - t = (64 - (t + 1)) + 1 by omega, List.replicate_succ, List.set_append_right _ _ (by rw [sch_length]; omega), sch_length, Nat.sub_self, List.set_cons_zero]
  rfl

end Go.Proofs.YtpihigcnoifcfaaGreatDoor

/- The document's block step (rootcellarref02.Step), as a contract. -/
namespace Go.Proofs.YtpihigcnoifcfaaGreatDoor
set_option maxRecDepth 20000
open Go.RowKit

theorem drewN_grow {w : World} (n : Nat) : Below w.heap.size w (w.drewN n) := below_drewN (Below.refl _ _) n

end Go.Proofs.YtpihigcnoifcfaaGreatDoor

/- sha's State in memory, and its small calls (New, good, filled, Len, Clone), as contracts. -/
namespace Go.Proofs.YtpihigcnoifcfaaGreatDoor
set_option maxRecDepth 20000
open Go.RowKit

/-- The cells of a state: the words, the block, the count, whether it was made. -/
def Cs (ws bk : List Int) (c : Int) (m : Bool) : Array Value := (ws.map (Value.int .u32) ++ bk.map (Value.int .u8) ++ [Value.int .i64 c, Value.bool m]).toArray
theorem Cs_size (ws bk : List Int) (c : Int) (m : Bool) (hw : ws.length = 8) (hb : bk.length = 64) : (Cs ws bk c m).size = 74 := by simp [Cs, hw, hb]
theorem Cs_one (ws bk : List Int) (c : Int) (m : Bool) : (Cs ws bk c m).all (·.oneCell') = true := Array.all_eq_true_iff_forall_mem.2 (fun v hv => by
  simp only [Cs, List.mem_toArray, List.mem_append, List.mem_map] at hv
  rcases hv with (⟨z, _, rfl⟩ | ⟨z, _, rfl⟩) | hv
  · rfl
  · rfl
  · simp at hv
    rcases hv with rfl | rfl <;> rfl)

/-- Block g holds a state of these words, this block, this count. -/
def St (w : World) (g : Nat) (ws bk : List Int) (c : Int) : Prop := Blk w g 123 (Cs ws bk c true) ∧ ws.length = 8 ∧ bk.length = 64 ∧ Bytes bk

theorem St.made {w : World} {g : Nat} {ws bk : List Int} {c : Int} (h : St w g ws bk c) : w.cell? ⟨g, 73, none⟩ = some (.bool true) := by
  obtain ⟨h1, h2, h3, _⟩ := h
  rw [h1.cell]
  simp [Cs, h2, h3]
theorem St.count {w : World} {g : Nat} {ws bk : List Int} {c : Int} (h : St w g ws bk c) : w.cell? ⟨g, 72, none⟩ = some (.int .i64 c) := by
  obtain ⟨h1, h2, h3, _⟩ := h
  rw [h1.cell]
  simp [Cs, h2, h3]
theorem St.word {w : World} {g : Nat} {ws bk : List Int} {c : Int} (h : St w g ws bk c) (i : Nat) (hi : i < 8) : w.cell? ⟨g, i, none⟩ = some (.int .u32 (ws.getD i 0)) := by
  obtain ⟨h1, h2, h3, _⟩ := h
  rw [h1.cell]
  simp [Cs, List.getElem?_append, h2, List.getD, hi]
theorem St.range {w : World} {g : Nat} {ws bk : List Int} {c : Int} (h : St w g ws bk c) : w.rangeAt g 8 (B bk).toList := by
  obtain ⟨h1, h2, h3, _⟩ := h
  intro j v hv
  rw [h1.cell]
  have hj : j < 64 := by have := (List.getElem?_eq_some_iff.1 hv).1; simpa [B_toList, h3] using this
  rw [B_toList] at hv
  rw [List.getElem?_map, List.getElem?_eq_getElem (by omega)] at hv
  simp [Cs, List.getElem?_append, h2, h3, hj]
  simpa using hv
theorem St.grow {w w' : World} {g : Nat} {ws bk : List Int} {c : Int} (h : St w g ws bk c) (hb : Below w.heap.size w w') : St w' g ws bk c := ⟨h.1.grow hb, h.2⟩
theorem St.kept {w w' : World} {g g' : Nat} {ws bk : List Int} {c : Int} (h : St w g ws bk c) (hg : w.grownBy w' (some g')) (hne : g ≠ g') : St w' g ws bk c := ⟨h.1.kept hg hne, h.2⟩

theorem size_st : (Tryz.prog.info? 123).map (·.size) = some 74 := by kernel_rfl
theorem zero_st : (Tryz.prog.info? 123).map (fun i => (i.zero, i.size)) = some (some (.agg (Cs (List.replicate 8 0) (List.replicate 64 0) 0 false)), 74) := by kernel_rfl

set_option maxHeartbeats 1000000 in
set_option maxRecDepth 10000 in
theorem new_any (w : World) (hL : Laid w) : Calls Tryz.prog 57 #[] w fun e w' => ∃ g, e = .returned (.pointer (some ⟨g, 0, none⟩)) ∧ w.heap.size ≤ g ∧ g < w'.heap.size ∧ St w' g hs (List.replicate 64 0) 0 ∧ Below w.heap.size w w' := by
  obtain ⟨_, _, h⟩ := hL
  have a0 := h 0 (by omega)
  have a1 := h 1 (by omega)
  have a2 := h 2 (by omega)
  have a3 := h 3 (by omega)
  have a4 := h 4 (by omega)
  have a5 := h 5 (by omega)
  have a6 := h 6 (by omega)
  have a7 := h 7 (by omega)
  simp only [hs, List.getD_cons_zero, List.getD_cons_succ] at a0 a1 a2 a3 a4 a5 a6 a7
  clear h
  go_enter Tryz.func57, Tryz.ntmps57
  go_wp2_with (first | (refine wpList_bld _ rfl _ _ rfl (Cs hs (List.replicate 64 0) 0 true) (by kernel_rfl) ?_) | (refine wpList_bx _ rfl _ _ rfl _ rfl ?_; intro w1 g1 hg1 hl1 B1 b1))
  go_ret
  exact ⟨g1, rfl, hg1, hl1, ⟨B1, rfl, rfl, by intro z hz; rw [List.eq_of_mem_replicate hz]; omega⟩, b1⟩

set_option maxHeartbeats 400000 in
theorem good_nil (w : World) : Calls Tryz.prog 75 #[.pointer none] w fun e w' => e = .returned (.bool false) ∧ w' = w := by
  go_enter Tryz.func75, Tryz.ntmps75
  go_wp2
  go_ret
  exact ⟨rfl, rfl⟩

set_option maxHeartbeats 400000 in
theorem good_at (g : Nat) (m : Bool) (w : World) (hm : w.cell? ⟨g, 73, none⟩ = some (.bool m)) :
    Calls Tryz.prog 75 #[.pointer (some ⟨g, 0, none⟩)] w fun e w' => e = .returned (.bool m) ∧ w' = w := by
  cases m
  all_goals
    go_enter Tryz.func75, Tryz.ntmps75
    go_wp2
    go_ret
    exact ⟨rfl, rfl⟩

set_option maxHeartbeats 400000 in
theorem filled_at (g c : Nat) (w : World) (hm : w.cell? ⟨g, 72, none⟩ = some (.int .i64 (c : Int))) :
    Calls Tryz.prog 76 #[.pointer (some ⟨g, 0, none⟩)] w fun e w' => e = .returned (.int .i64 ((c % 64 : Nat) : Int)) ∧ w' = w := by
  go_enter Tryz.func76, Tryz.ntmps76
  go_wp2
  go_ret
  exact ⟨by show Ending.returned (.int .i64 ((c : Int).tmod 64)) = _; congr 2, rfl⟩

end Go.Proofs.YtpihigcnoifcfaaGreatDoor
