/- KeptBytes, as a contract: what was lent and not turned is told so. -/
import Derived.Test.YtjcklpdifanjlaaDoorKit1
import Derived.Deep.RegionHeld
namespace Go.Proofs.YtjcklpdifanjlaaDoor
set_option maxRecDepth 20000
open Go.RowKit

theorem Row.reads {w : World} {g : Nat} {all : List Int} (h : Row w g all) (hb : Bytes all) (c : Nat) (hc : all.length ≤ c) : Reads w (.slice (some ⟨g, 0, none⟩) all.length c) all :=
  ⟨_, _, rfl, hc, fun h => by simp at h, hb, fun _ => ⟨g, 0, rfl, fun i hi => by rw [Nat.zero_add]; exact h.cell i hi⟩⟩

set_option maxHeartbeats 1000000 in
theorem kept_core (g n m : Nat) (a : Option Addr) (c : Nat) (S : ByteArray) (zs : List Int) (w : World) (h5 : (n : Int) + 5 ≤ (m : Int)) (h6 : (0 : Int) ≤ (n : Int) + 5) (hl : n ≤ 140737488355328)
    (HC : Hid (∀ w', Below w.heap.size w w' → (convert 28 9 (.slice (some ⟨g, 0, none⟩) m m)).run Tryd.prog w' = .ok (.string S) w'))
    (HC2 : Hid (∀ w' g', Row w' g' (zs ++ marks n) → (convert 28 9 (.slice (some ⟨g', 0, none⟩) ((n : Int) + 5).toNat m)).run Tryd.prog w' = .ok (.string S) w'))
    (HL : Hid (Calls Tryd.prog 8 #[.slice a n c] w.drew fun e w' => e = .returned (.slice (some ⟨w.heap.size, 0, none⟩) n m) ∧ Row w' w.heap.size (zs ++ marks n) ∧ Below w.heap.size w w')) :
    Calls Tryd.prog 18 #[.slice (some ⟨g, 0, none⟩) n m, .slice a n c] w fun e w' => e = .returned (.bool true) ∧ Below w.heap.size w w' := by
  have hwr : IntKind.i64.wrap ((n : Int) + 5) = (n : Int) + 5 := by rw [IntKind.wrap_i64]; omega
  go_enter Tryd.func18, Tryd.ntmps18
  go_wp2_with fail
  go_region_held (fun w' => (convert 28 9 (.slice (some ⟨g, 0, none⟩) m m)).run Tryd.prog w' = .ok (.string S) w')
    (first | exact HC.out _ (Below.refl _ _).drew | exact HC.out _ (by assumption))
    (first | (go_at_call 8; refine HL.out.mono ?_; rintro e w1 ⟨rfl, hr1, hb1⟩; have c2 := HC2.out w1 w.heap.size hr1))
  go_wp2
  go_ret
  exact ⟨rfl, by assumption⟩

theorem kept_true (g : Nat) (v : Value) (zs : List Int) (w : World) (hr : Row w g (zs ++ marks zs.length)) (h : Reads w v zs) (hl : zs.length ≤ 140737488355328) :
    Calls Tryd.prog 18 #[.slice (some ⟨g, 0, none⟩) zs.length (zs.length + 5), v] w fun e w' => e = .returned (.bool true) ∧ Below w.heap.size w w' := by
  have hby : Bytes (zs ++ marks zs.length) := by
    obtain ⟨_, _, _, _, _, h1, _⟩ := h
    exact h1.append (marks_bytes _)
  have hlen : (zs ++ marks zs.length).length = zs.length + 5 := by simp [marks_length]
  have h' := h
  obtain ⟨a, c, rfl, _, _, _, _⟩ := h'
  refine kept_core g zs.length (zs.length + 5) a c (strOfNums (zs ++ marks zs.length)) zs w (by omega) (by omega) hl ?_ ?_ ?_
  · intro w' hb
    have hr' : Row w' g (zs ++ marks zs.length) := hr.of_block (hb.block g hr.lt)
    have := conv_reads (hr'.reads hby (zs.length + 5) (by omega))
    rw [hlen] at this
    exact this
  · intro w' g' hr'
    have := conv_reads (hr'.reads hby (zs.length + 5) (by omega))
    rw [hlen] at this
    rw [show ((zs.length : Int) + 5).toNat = zs.length + 5 by omega]
    exact this
  · refine (lent_any _ zs w.drew (by exact h) hl).mono ?_
    rintro e w1 ⟨rfl, hr1, hb1, hs1⟩
    exact ⟨rfl, hr1, undrew hb1⟩

end Go.Proofs.YtjcklpdifanjlaaDoor
