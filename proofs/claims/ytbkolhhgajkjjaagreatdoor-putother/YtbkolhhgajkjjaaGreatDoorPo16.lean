/- KeptBytes, as a contract: what was lent and not turned is told so. -/
import Derived.Test.YtbkolhhgajkjjaaGreatDoorPo14
import Derived.Lib.MakeNoZero
namespace Go.Proofs.YtbkolhhgajkjjaaGreatDoor
set_option maxHeartbeats 1000000
set_option maxRecDepth 20000
open Go.RowKit
theorem Row.reads {w : World} {g : Nat} {all : List Int} (h : Row w g all) (hb : Bytes all) (c : Nat) (hc : all.length ≤ c) : Reads w (.slice (some ⟨g, 0, none⟩) all.length c) all :=
 ⟨_, _, rfl, hc, fun h => by simp at h, hb, fun _ => ⟨g, 0, rfl, fun i hi => by rw [Nat.zero_add]; exact h.cell i hi⟩⟩
theorem Zvw (g n m : Nat) (a : Option Addr) (c : Nat) (S : ByteArray) (zs : List Int) (w : World) (h5 : (n : Int) + 5 ≤ (m : Int)) (h6 : (0 : Int) ≤ (n : Int) + 5) (hl : n ≤ 140737488355328)
  (HC : Hid (∀ w', Below w.heap.size w w' → (convert 32 9 (.slice (some ⟨g, 0, none⟩) m m)).run Tryz.prog w' = .ok (.string S) w'))
  (HC2 : Hid (∀ w' g', Row w' g' (zs ++ marks n) → (convert 32 9 (.slice (some ⟨g', 0, none⟩) ((n : Int) + 5).toNat m)).run Tryz.prog w' = .ok (.string S) w'))
  (HL : Hid (Calls Tryz.prog 22 #[.slice a n c] w.drew fun e w' => e = .returned (.slice (some ⟨w.heap.size, 0, none⟩) n m) ∧ Row w' w.heap.size (zs ++ marks n) ∧ Below w.heap.size w w')) :
  Calls Tryz.prog 25 #[.slice (some ⟨g, 0, none⟩) n m, .slice a n c] w fun e w' => e = .returned (.bool true) ∧ Below w.heap.size w w' := by
 have hwr : IntKind.i64.wrap ((n : Int) + 5) = (n : Int) + 5 := by rw [IntKind.wrap_i64]; omega
 go_enter Tryz.func25, Tryz.ntmps25
 go_wp2_with fail
 go_region_held (fun w' => (convert 32 9 (.slice (some ⟨g, 0, none⟩) m m)).run Tryz.prog w' = .ok (.string S) w')
  (first | exact HC.out _ (Below.refl _ _).drew | exact HC.out _ (by assumption))
  (first | (go_at_call 22; refine HL.out.mono ?_; rintro e w1 ⟨rfl, hr1, hb1⟩; have c2 := HC2.out w1 w.heap.size hr1))
 go_wp2
 go_ret
 exact ⟨rfl, by assumption⟩
theorem Zvv (g : Nat) (v : Value) (zs : List Int) (w : World) (hr : Row w g (zs ++ marks zs.length)) (h : Reads w v zs) (hl : zs.length ≤ 140737488355328) :
  Calls Tryz.prog 25 #[.slice (some ⟨g, 0, none⟩) zs.length (zs.length + 5), v] w fun e w' => e = .returned (.bool true) ∧ Below w.heap.size w w' := by
 have hby : Bytes (zs ++ marks zs.length) := by
  obtain ⟨_, _, _, _, _, h1, _⟩ := h
  exact h1.append (Zio _)
 have hlen : (zs ++ marks zs.length).length = zs.length + 5 := by simp [Zbo]
 have h' := h
 obtain ⟨a, c, rfl, _, _, _, _⟩ := h'
 refine Zvw g zs.length (zs.length + 5) a c (strOfNums (zs ++ marks zs.length)) zs w (by omega) (by omega) hl ?_ ?_ ?_
 ·intro w' hb
  have hr' : Row w' g (zs ++ marks zs.length) := hr.of_block (hb.block g hr.lt)
  have := Zbh (hr'.reads hby (zs.length + 5) (by omega))
  rw [hlen] at this
  exact this
 ·intro w' g' hr'
  have := Zbh (hr'.reads hby (zs.length + 5) (by omega))
  rw [hlen] at this
  rw [show ((zs.length : Int) + 5).toNat = zs.length + 5 by omega]
  exact this
 ·refine (Zqo _ zs w.drew (by exact h) hl).mono ?_
  rintro e w1 ⟨rfl, hr1, hb1, hs1⟩
  exact ⟨rfl, hr1, Yfa hb1⟩
def Parts (w : World) (v : Value) (ps : List (List Int)) : Prop :=
 ∃ (a : Option Addr) (cap : Nat) (V : Nat → Value), v = .slice a ps.length cap ∧ ps.length ≤ cap ∧ ps.length ≤ 140737488355328 ∧ (0 < ps.length → ∃ b off, a = some ⟨b, off, none⟩ ∧ ∀ i, i < ps.length → w.cell? ⟨b, off + i, none⟩ = some (V i)) ∧ ∀ i, i < ps.length → Reads w (V i) (ps.getD i [])
def lens (ps : List (List Int)) (k : Nat) : Nat := ((ps.take k).flatten).length
theorem Zna (ps : List (List Int)) (k : Nat) (h : k < ps.length) : lens ps (k + 1) = lens ps k + (ps.getD k []).length := by
 unfold lens
 rw [List.take_succ_eq_append_getElem h, List.flatten_append, List.length_append]
 simp [List.getD, h]
theorem Zni (ps : List (List Int)) (k : Nat) (h : k < ps.length) : (ps.take (k + 1)).flatten = (ps.take k).flatten ++ ps.getD k [] := by
 rw [List.take_succ_eq_append_getElem h, List.flatten_append]
 simp [List.getD, h]
theorem Zvt (ps : List (List Int)) (k : Nat) : lens ps k ≤ ps.flatten.length := by
 unfold lens
 conv => rhs; rw [← List.take_append_drop k ps, List.flatten_append, List.length_append]
 omega
def JoinPost (zs : List Int) (w : World) (e : Ending) (w' : World) : Prop := ∃ u sp, e = .returned u ∧ Own w.heap.size w' u zs sp ∧ Below w.heap.size w w'
theorem Ydl (base : Nat) (w : World) (z : Int) (h0 : 0 ≤ z) (h1 : z ≤ 255) (hb : base ≤ w.heap.size) : Own base (w.alloc (.cells #[.int .u8 z] 5)) (.slice (some ⟨w.heap.size, 0, none⟩) 1 1) [z] [] :=
 ⟨by intro y hy; simp at hy; subst hy; exact ⟨h0, h1⟩, Bytes.nil, by simp [maxLen], .inr ⟨w.heap.size, [], hb, rfl, heap_alloc_new w _⟩⟩
theorem Ycp (ps : List (List Int)) (k : Nat) (t : Int) (h : k < ps.length) (hl : 1 + ps.flatten.length ≤ 140737488355328) : (t :: (ps.take k).flatten).length + (ps.getD k []).length ≤ 140737488355328 := by
 have h1 := Zna ps k h
 have h2 := Zvt ps (k + 1)
 unfold lens at *
 rw [List.length_cons]
 omega
theorem Zfh (t : Int) (v : Value) (ps : List (List Int)) (w : World) (h0 : 0 ≤ t) (h1 : t ≤ 255) (h : Parts w v ps) (hl : 1 + ps.flatten.length ≤ 140737488355328) :
  Calls Tryz.prog 163 #[.int .u8 t, v] w (JoinPost (t :: ps.flatten) w) := by
 obtain ⟨a, cap, V, rfl, hcap, hn, hcell, hr⟩ := h
 have HC := Za hcell
 have HR := Za hr
 have HO : Hid (Own w.heap.size (w.alloc (.cells #[.int .u8 t] 5)) (.slice (some ⟨w.heap.size, 0, none⟩) 1 1) (t :: (ps.take 0).flatten) []) := Ydl _ _ _ h0 h1 (Nat.le_refl _)
 clear hcell hr
 go_enter Tryz.func163, Tryz.ntmps163
 go_wp2_with fail
 go_loopw [5, 6] (fun b i wr => ∃ (k : Nat) (sp : List Int), k ≤ ps.length ∧ i = .int .i64 k ∧ Hid (Own w.heap.size wr b (t :: (ps.take k).flatten) sp) ∧ Below w.heap.size w wr) (fun _ i _ => ps.length - (intOf i).toNat)
 case atStart => exact ⟨0, [], by omega, rfl, HO, Zg _ _⟩
 case round =>
  clear HO
  obtain ⟨k, sp, hk, rfl, hO, hb⟩ := hrel
  by_cases hlt : k < ps.length
  ·obtain ⟨b, off, rfl, hcc⟩ := HC.out (by omega)
   have hx := hcc k hlt
   have hx1 := (hb.cell (p := ⟨b, off + k, none⟩) (block_lt_of_cell hx)).trans hx
   have HRK := Za ((HR.out k hlt).grow hb)
   have HF := Za (Zni ps k hlt)
   have hle := Ycp ps k t hlt hl
   have HLE := Za hle
   clear hx hcc hle
   go_wp2_with (at_builtin; refine Zce _ rfl _ _ rfl w.heap.size _ _ _ sp _ hO.out HRK.out rfl rfl HLE.out hb.size ?_; intro v' w' sp' h1 h2 h3 h4)
   have hO' : Own w.heap.size w' v' (t :: (ps.take (k + 1)).flatten) sp' := by
    rw [HF.out]
    exact h1
   exact ⟨⟨k + 1, sp', by omega, by go_num, hO', hb.grown h2 hb.size (fun j hj => (hO.out.lt j hj).1)⟩, by simp [intOf]; omega⟩
  ·have hfl : (ps.take k).flatten = ps.flatten := by rw [List.take_of_length_le (by omega)]
   rw [hfl] at hO
   go_wp2
   go_ret
   exact ⟨_, sp, rfl, hO.out, hb⟩
end Go.Proofs.YtbkolhhgajkjjaaGreatDoor
