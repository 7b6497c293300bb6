/- sha's State in memory, and its small calls (New, good, filled, Len, Clone), as contracts. -/
import Derived.Test.YtlinalcjdpikeabDoorPk19
import Derived.Test.YtlinalcjdpikeabDoorPk03
namespace Go.Proofs.YtlinalcjdpikeabDoor
set_option maxRecDepth 20000
open Go.RowKit

/-- The cells of a state: the words, the block, the count, whether it was made. -/
def Cs (ws bk : List Int) (c : Int) (m : Bool) : Array Value := (ws.map (Value.int .u32) ++ bk.map (Value.int .u8) ++ [Value.int .i64 c, Value.bool m]).toArray
theorem Cs_size (ws bk : List Int) (c : Int) (m : Bool) (hw : ws.length = 8) (hb : bk.length = 64) : (Cs ws bk c m).size = 74 := by simp [Cs, hw, hb]
theorem Cs_one (ws bk : List Int) (c : Int) (m : Bool) : (Cs ws bk c m).all (·.oneCell') = true := Array.all_eq_true_iff_forall_mem.2 (fun v hv => by
  simp only [Cs, List.mem_toArray, List.mem_append, List.mem_map] at hv
  rcases hv with (⟨z, _, rfl⟩ | ⟨z, _, rfl⟩) | hv
  · rfl
  · rfl
  · simp at hv
    rcases hv with rfl | rfl <;> rfl)

/-- Block g holds a state of these words, this block, this count. -/
def St (w : World) (g : Nat) (ws bk : List Int) (c : Int) : Prop := Blk w g 106 (Cs ws bk c true) ∧ ws.length = 8 ∧ bk.length = 64 ∧ Bytes bk

theorem St.made {w : World} {g : Nat} {ws bk : List Int} {c : Int} (h : St w g ws bk c) : w.cell? ⟨g, 73, none⟩ = some (.bool true) := by
  obtain ⟨h1, h2, h3, _⟩ := h
  rw [h1.cell]
  simp [Cs, h2, h3]
theorem St.count {w : World} {g : Nat} {ws bk : List Int} {c : Int} (h : St w g ws bk c) : w.cell? ⟨g, 72, none⟩ = some (.int .i64 c) := by
  obtain ⟨h1, h2, h3, _⟩ := h
  rw [h1.cell]
  simp [Cs, h2, h3]
theorem St.word {w : World} {g : Nat} {ws bk : List Int} {c : Int} (h : St w g ws bk c) (i : Nat) (hi : i < 8) : w.cell? ⟨g, i, none⟩ = some (.int .u32 (ws.getD i 0)) := by
  obtain ⟨h1, h2, h3, _⟩ := h
  rw [h1.cell]
  simp [Cs, List.getElem?_append, h2, List.getD, hi]
theorem St.range {w : World} {g : Nat} {ws bk : List Int} {c : Int} (h : St w g ws bk c) : w.rangeAt g 8 (B bk).toList := by
  obtain ⟨h1, h2, h3, _⟩ := h
  intro j v hv
  rw [h1.cell]
  have hj : j < 64 := by have := (List.getElem?_eq_some_iff.1 hv).1; simpa [B_toList, h3] using this
  rw [B_toList] at hv
  rw [List.getElem?_map, List.getElem?_eq_getElem (by omega)] at hv
  simp [Cs, List.getElem?_append, h2, h3, hj]
  simpa using hv
theorem St.grow {w w' : World} {g : Nat} {ws bk : List Int} {c : Int} (h : St w g ws bk c) (hb : Below w.heap.size w w') : St w' g ws bk c := ⟨h.1.grow hb, h.2⟩
theorem St.kept {w w' : World} {g g' : Nat} {ws bk : List Int} {c : Int} (h : St w g ws bk c) (hg : w.grownBy w' (some g')) (hne : g ≠ g') : St w' g ws bk c := ⟨h.1.kept hg hne, h.2⟩

theorem size_st : (Tryd.prog.info? 106).map (·.size) = some 74 := by kernel_rfl
theorem zero_st : (Tryd.prog.info? 106).map (fun i => (i.zero, i.size)) = some (some (.agg (Cs (List.replicate 8 0) (List.replicate 64 0) 0 false)), 74) := by kernel_rfl

set_option maxHeartbeats 1000000 in
set_option maxRecDepth 10000 in
theorem new_any (w : World) (hL : Laid w) : Calls Tryd.prog 45 #[] w fun e w' => ∃ g, e = .returned (.pointer (some ⟨g, 0, none⟩)) ∧ w.heap.size ≤ g ∧ g < w'.heap.size ∧ St w' g hs (List.replicate 64 0) 0 ∧ Below w.heap.size w w' := by
  obtain ⟨_, _, h⟩ := hL
  have a0 := h 0 (by omega)
  have a1 := h 1 (by omega)
  have a2 := h 2 (by omega)
  have a3 := h 3 (by omega)
  have a4 := h 4 (by omega)
  have a5 := h 5 (by omega)
  have a6 := h 6 (by omega)
  have a7 := h 7 (by omega)
  simp only [hs, List.getD_cons_zero, List.getD_cons_succ] at a0 a1 a2 a3 a4 a5 a6 a7
  clear h
  go_enter Tryd.func45, Tryd.ntmps45
  go_wp2_with (first | (refine wpList_bld _ rfl _ _ rfl (Cs hs (List.replicate 64 0) 0 true) (by kernel_rfl) ?_) | (refine wpList_bx _ rfl _ _ rfl _ rfl ?_; intro w1 g1 hg1 hl1 B1 b1))
  go_ret
  exact ⟨g1, rfl, hg1, hl1, ⟨B1, rfl, rfl, by intro z hz; rw [List.eq_of_mem_replicate hz]; omega⟩, b1⟩

set_option maxHeartbeats 400000 in
theorem good_nil (w : World) : Calls Tryd.prog 65 #[.pointer none] w fun e w' => e = .returned (.bool false) ∧ w' = w := by
  go_enter Tryd.func65, Tryd.ntmps65
  go_wp2
  go_ret
  exact ⟨rfl, rfl⟩

set_option maxHeartbeats 400000 in
theorem good_at (g : Nat) (m : Bool) (w : World) (hm : w.cell? ⟨g, 73, none⟩ = some (.bool m)) :
    Calls Tryd.prog 65 #[.pointer (some ⟨g, 0, none⟩)] w fun e w' => e = .returned (.bool m) ∧ w' = w := by
  cases m
  all_goals
    go_enter Tryd.func65, Tryd.ntmps65
    go_wp2
    go_ret
    exact ⟨rfl, rfl⟩

set_option maxHeartbeats 400000 in
theorem filled_at (g c : Nat) (w : World) (hm : w.cell? ⟨g, 72, none⟩ = some (.int .i64 (c : Int))) :
    Calls Tryd.prog 66 #[.pointer (some ⟨g, 0, none⟩)] w fun e w' => e = .returned (.int .i64 ((c % 64 : Nat) : Int)) ∧ w' = w := by
  go_enter Tryd.func66, Tryd.ntmps66
  go_wp2
  go_ret
  exact ⟨by show Ending.returned (.int .i64 ((c : Int).tmod 64)) = _; congr 2, rfl⟩

end Go.Proofs.YtlinalcjdpikeabDoor

/- The statements' own helpers on bytes, as contracts: SameBytes, LentBytes, KeptBytes, OverBytes. -/
namespace Go.Proofs.YtlinalcjdpikeabDoor
set_option maxRecDepth 20000
open Go.RowKit

/-- The marks that stand in the room behind n lent bytes. -/
def marks (n : Nat) : List Int := (List.range 5).map fun k => 200 + ((n + k : Nat) : Int) % 50

theorem marks_bytes (n : Nat) : Bytes (marks n) := by
  intro z hz
  simp only [marks, List.mem_map] at hz
  obtain ⟨k, _, rfl⟩ := hz
  omega
theorem marks_length (n : Nat) : (marks n).length = 5 := by simp [marks]

theorem lent_start (zs : List Int) : (List.replicate (zs.length + 5) (0 : Int)).take 0 ++ zs.take (zs.length + 5) ++ (List.replicate (zs.length + 5) (0 : Int)).drop (0 + min zs.length (zs.length + 5)) = zs ++ (marks zs.length).take 0 ++ List.replicate (5 - 0) 0 := by
  have : min zs.length (zs.length + 5) = zs.length := by omega
  rw [this, List.take_of_length_le (l := zs) (by omega), List.drop_replicate, List.take_zero, List.take_zero]
  simp

theorem lent_round (zs : List Int) (k : Nat) (hk : k < 5) : (zs ++ (marks zs.length).take k ++ List.replicate (5 - k) (0 : Int)).set (zs.length + k) (200 + ((zs.length + k : Nat) : Int) % 50) = zs ++ (marks zs.length).take (k + 1) ++ List.replicate (5 - (k + 1)) 0 := by
  have e : List.replicate (5 - k) (0 : Int) = 0 :: List.replicate (5 - (k + 1)) 0 := by
    rw [show 5 - k = (5 - (k + 1)) + 1 by omega]; rfl
  have l : (zs ++ (marks zs.length).take k).length = zs.length + k := by simp [marks_length]; omega
  rw [e, List.set_append_right _ _ (by omega), l, Nat.sub_self, List.set_cons_zero]
  rw [show (marks zs.length).take (k + 1) = (marks zs.length).take k ++ [200 + ((zs.length + k : Nat) : Int) % 50] by
    rw [List.take_succ_eq_append_getElem (by rw [marks_length]; exact hk)]
    simp [marks]]
  simp

theorem lent_end (zs : List Int) (k : Nat) (hk : ¬ k < 5) : zs ++ (marks zs.length).take k ++ List.replicate (5 - k) 0 = zs ++ marks zs.length := by
  rw [List.take_of_length_le (by rw [marks_length]; omega), show 5 - k = 0 by omega]
  simp

/-- A byte written over. -/
def x5 (z : Int) : Int := bits .xor .u8 z 90

theorem x5_eq (z : Int) (h : 0 ≤ z ∧ z ≤ 255) : x5 z = ((z.toNat ^^^ 90 : Nat) : Int) := by
  unfold x5
  rw [u8_xor z 90 h.1 (by omega) (by omega) (by omega)]
  rfl
theorem x5_bd (z : Int) (h : 0 ≤ z ∧ z ≤ 255) : 0 ≤ x5 z ∧ x5 z ≤ 255 := by
  rw [x5_eq z h]
  have : z.toNat ^^^ 90 < 2 ^ 8 := Nat.xor_lt_two_pow (by omega) (by omega)
  omega
theorem x5_x5 (z : Int) (h : 0 ≤ z ∧ z ≤ 255) : x5 (x5 z) = z := by
  rw [x5_eq _ (x5_bd z h), x5_eq z h, Int.toNat_natCast, Nat.xor_assoc, Nat.xor_self, Nat.xor_zero]
  omega
theorem Bytes.x5 {zs : List Int} (h : Bytes zs) : Bytes (zs.map x5) := by
  intro z hz
  obtain ⟨y, hy, rfl⟩ := List.mem_map.1 hz
  exact x5_bd y (h y hy)
theorem map_x5 {zs : List Int} (h : Bytes zs) : (zs.map x5).map x5 = zs := by
  rw [List.map_map]
  conv => rhs; rw [← List.map_id zs]
  exact List.map_congr_left fun z hz => x5_x5 z (h z hz)

theorem over_round (zs : List Int) (k : Nat) (hk : k < zs.length) : ((zs.take k).map x5 ++ zs.drop k).set k (x5 (zs.getD k 0)) = (zs.take (k + 1)).map x5 ++ zs.drop (k + 1) := by
  have hd : zs.drop k = zs.getD k 0 :: zs.drop (k + 1) := by
    rw [List.drop_eq_getElem_cons hk]; simp [List.getD, hk]
  have hl : ((zs.take k).map x5).length = k := by simp; omega
  rw [hd, List.set_append_right _ _ (by omega), hl, Nat.sub_self, List.set_cons_zero, take_snoc zs k hk, List.map_append, List.append_assoc]
  rfl

theorem over_get (zs : List Int) (k : Nat) (hk : k < zs.length) : ((zs.take k).map x5 ++ zs.drop k).getD k 0 = zs.getD k 0 := by
  have : ((zs.take k).map x5).length = k := by simp; omega
  simp only [List.getD]
  rw [List.getElem?_append_right (by omega), this, Nat.sub_self]
  simp

end Go.Proofs.YtlinalcjdpikeabDoor
