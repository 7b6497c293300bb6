/- sha's State in memory, and its small calls (New, good, filled, Len, Clone), as contracts. -/
import Derived.Test.YtegpceglhbgcnaaDoorRefSha2
namespace Go.Proofs.YtegpceglhbgcnaaDoor
open Go.RowKit

/-- The cells of a state: the words, the block, the count, whether it was made. -/
def Cs (ws bk : List Int) (c : Int) (m : Bool) : Array Value := (ws.map (Value.int .u32) ++ bk.map (Value.int .u8) ++ [Value.int .i64 c, Value.bool m]).toArray
theorem Cs_size (ws bk : List Int) (c : Int) (m : Bool) (hw : ws.length = 8) (hb : bk.length = 64) : (Cs ws bk c m).size = 74 := by simp [Cs, hw, hb]
theorem Cs_one (ws bk : List Int) (c : Int) (m : Bool) : (Cs ws bk c m).all (·.oneCell') = true := Array.all_eq_true_iff_forall_mem.2 (fun v hv => by
  simp only [Cs, List.mem_toArray, List.mem_append, List.mem_map] at hv
  rcases hv with (⟨z, _, rfl⟩ | ⟨z, _, rfl⟩) | hv
  · rfl
  · rfl
  · simp at hv
    rcases hv with rfl | rfl <;> rfl)

/-- Block g holds a state of these words, this block, this count. -/
def St (w : World) (g : Nat) (ws bk : List Int) (c : Int) : Prop := Blk w g 53 (Cs ws bk c true) ∧ ws.length = 8 ∧ bk.length = 64 ∧ Bytes bk

theorem St.made {w : World} {g : Nat} {ws bk : List Int} {c : Int} (h : St w g ws bk c) : w.cell? ⟨g, 73, none⟩ = some (.bool true) := by
  obtain ⟨h1, h2, h3, _⟩ := h
  rw [h1.cell]
  simp [Cs, h2, h3]
theorem St.count {w : World} {g : Nat} {ws bk : List Int} {c : Int} (h : St w g ws bk c) : w.cell? ⟨g, 72, none⟩ = some (.int .i64 c) := by
  obtain ⟨h1, h2, h3, _⟩ := h
  rw [h1.cell]
  simp [Cs, h2, h3]
theorem St.word {w : World} {g : Nat} {ws bk : List Int} {c : Int} (h : St w g ws bk c) (i : Nat) (hi : i < 8) : w.cell? ⟨g, i, none⟩ = some (.int .u32 (ws.getD i 0)) := by
  obtain ⟨h1, h2, h3, _⟩ := h
  rw [h1.cell]
  simp [Cs, List.getElem?_append, h2, List.getD, hi]
theorem St.range {w : World} {g : Nat} {ws bk : List Int} {c : Int} (h : St w g ws bk c) : w.rangeAt g 8 (B bk).toList := by
  obtain ⟨h1, h2, h3, _⟩ := h
  intro j v hv
  rw [h1.cell]
  have hj : j < 64 := by have := (List.getElem?_eq_some_iff.1 hv).1; simpa [B_toList, h3] using this
  rw [B_toList] at hv
  rw [List.getElem?_map, List.getElem?_eq_getElem (by omega)] at hv
  simp [Cs, List.getElem?_append, h2, h3, hj]
  simpa using hv
theorem St.grow {w w' : World} {g : Nat} {ws bk : List Int} {c : Int} (h : St w g ws bk c) (hb : Below w.heap.size w w') : St w' g ws bk c := ⟨h.1.grow hb, h.2⟩
theorem St.kept {w w' : World} {g g' : Nat} {ws bk : List Int} {c : Int} (h : St w g ws bk c) (hg : w.grownBy w' (some g')) (hne : g ≠ g') : St w' g ws bk c := ⟨h.1.kept hg hne, h.2⟩

theorem size_st : (Tryd.prog.info? 53).map (·.size) = some 74 := by kernel_rfl
theorem zero_st : (Tryd.prog.info? 53).map (fun i => (i.zero, i.size)) = some (some (.agg (Cs (List.replicate 8 0) (List.replicate 64 0) 0 false)), 74) := by kernel_rfl

set_option maxHeartbeats 1000000 in
set_option maxRecDepth 10000 in
theorem new_any (w : World) (hL : Laid w) : Calls Tryd.prog 13 #[] w fun e w' => ∃ g, e = .returned (.pointer (some ⟨g, 0, none⟩)) ∧ w.heap.size ≤ g ∧ g < w'.heap.size ∧ St w' g hs (List.replicate 64 0) 0 ∧ Below w.heap.size w w' := by
  obtain ⟨_, _, h⟩ := hL
  have a0 := h 0 (by omega)
  have a1 := h 1 (by omega)
  have a2 := h 2 (by omega)
  have a3 := h 3 (by omega)
  have a4 := h 4 (by omega)
  have a5 := h 5 (by omega)
  have a6 := h 6 (by omega)
  have a7 := h 7 (by omega)
  simp only [hs, List.getD_cons_zero, List.getD_cons_succ] at a0 a1 a2 a3 a4 a5 a6 a7
  clear h
  go_enter Tryd.func13, Tryd.ntmps13
  go_wp2_with (first | (refine wpList_bld _ rfl _ _ rfl (Cs hs (List.replicate 64 0) 0 true) (by kernel_rfl) ?_) | (refine wpList_bx _ rfl _ _ rfl _ rfl ?_; intro w1 g1 hg1 hl1 B1 b1))
  go_ret
  exact ⟨g1, rfl, hg1, hl1, ⟨B1, rfl, rfl, by intro z hz; rw [List.eq_of_mem_replicate hz]; omega⟩, b1⟩

set_option maxHeartbeats 400000 in
theorem good_nil (w : World) : Calls Tryd.prog 27 #[.pointer none] w fun e w' => e = .returned (.bool false) ∧ w' = w := by
  go_enter Tryd.func27, Tryd.ntmps27
  go_wp2
  go_ret
  exact ⟨rfl, rfl⟩

set_option maxHeartbeats 400000 in
theorem good_at (g : Nat) (m : Bool) (w : World) (hm : w.cell? ⟨g, 73, none⟩ = some (.bool m)) :
    Calls Tryd.prog 27 #[.pointer (some ⟨g, 0, none⟩)] w fun e w' => e = .returned (.bool m) ∧ w' = w := by
  cases m
  all_goals
    go_enter Tryd.func27, Tryd.ntmps27
    go_wp2
    go_ret
    exact ⟨rfl, rfl⟩

set_option maxHeartbeats 400000 in
theorem filled_at (g c : Nat) (w : World) (hm : w.cell? ⟨g, 72, none⟩ = some (.int .i64 (c : Int))) :
    Calls Tryd.prog 28 #[.pointer (some ⟨g, 0, none⟩)] w fun e w' => e = .returned (.int .i64 ((c % 64 : Nat) : Int)) ∧ w' = w := by
  go_enter Tryd.func28, Tryd.ntmps28
  go_wp2
  go_ret
  exact ⟨by show Ending.returned (.int .i64 ((c : Int).tmod 64)) = _; congr 2, rfl⟩

set_option maxHeartbeats 400000 in
theorem len_at (g : Nat) (c : Int) (w : World) (hm : w.cell? ⟨g, 73, none⟩ = some (.bool true)) (hc : w.cell? ⟨g, 72, none⟩ = some (.int .i64 c)) :
    Calls Tryd.prog 17 #[.pointer (some ⟨g, 0, none⟩)] w fun e w' => e = .returned (.int .i64 c) ∧ w' = w := by
  go_enter Tryd.func17, Tryd.ntmps17
  go_wp2_with (go_at_call 27; refine (good_at _ _ _ hm).mono ?_; rintro e w' ⟨rfl, rfl⟩)
  go_ret
  exact ⟨rfl, rfl⟩

set_option maxHeartbeats 1000000 in
set_option maxRecDepth 10000 in
theorem clone_at (g : Nat) (ws bk : List Int) (c : Int) (w : World) (h : St w g ws bk c) :
    Calls Tryd.prog 18 #[.pointer (some ⟨g, 0, none⟩)] w fun e w' => ∃ g', e = .returned (.pointer (some ⟨g', 0, none⟩)) ∧ w.heap.size ≤ g' ∧ g' < w'.heap.size ∧ St w' g' ws bk c ∧ Below w.heap.size w w' := by
  have hm := h.made
  have HS := hidden h
  have HZ : Hid ((Cs ws bk c true).size = 74) := Cs_size _ _ _ _ h.2.1 h.2.2.1
  clear h
  go_enter Tryd.func18, Tryd.ntmps18
  go_wp2_with (first | (go_at_call 27; refine (good_at _ _ _ hm).mono ?_; rintro e w' ⟨rfl, rfl⟩) | (refine wpList_load_row rfl _ _ rfl g rfl _ (Cs ws bk c true) _ _ HS.out.1 Tryd.underlying53 rfl (by rw [HZ.out]; exact size_st) ?_) | (refine wpList_al _ rfl _ rfl _ (zero_of_info zero_st).1 ?_; intro w1 g1 hg1 hl1 B1 b1) | (refine wpList_sto _ rfl _ _ _ rfl g1 _ _ rfl rfl B1 (by rw [HZ.out]; exact size_st) (by rw [HZ.out]; rfl) (Cs_one _ _ _ _) ?_; intro w2 B2 gg2))
  go_ret
  exact ⟨g1, rfl, hg1, by have := B2.lt; exact this, ⟨B2, HS.out.2⟩, below_row b1 gg2 hg1⟩

end Go.Proofs.YtegpceglhbgcnaaDoor
