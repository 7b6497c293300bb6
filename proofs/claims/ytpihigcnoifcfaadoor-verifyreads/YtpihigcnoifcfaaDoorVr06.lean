/- KeptBytes, as a contract: what was lent and not turned is told so. -/
import Derived.Test.YtpihigcnoifcfaaDoorVr05
import Derived.Deep.RegionHeld
import Derived.Test.YtpihigcnoifcfaaDoorVr01
import Derived.Lib.MakeNoZero
namespace Go.Proofs.YtpihigcnoifcfaaDoor
set_option maxRecDepth 20000
open Go.RowKit

theorem Row.reads {w : World} {g : Nat} {all : List Int} (h : Row w g all) (hb : Bytes all) (c : Nat) (hc : all.length ≤ c) : Reads w (.slice (some ⟨g, 0, none⟩) all.length c) all :=
  ⟨_, _, rfl, hc, fun h => by simp at h, hb, fun _ => ⟨g, 0, rfl, fun i hi => by rw [Nat.zero_add]; exact h.cell i hi⟩⟩

set_option maxHeartbeats 1000000 in
theorem kept_core (g n m : Nat) (a : Option Addr) (c : Nat) (S : ByteArray) (zs : List Int) (w : World) (h5 : (n : Int) + 5 ≤ (m : Int)) (h6 : (0 : Int) ≤ (n : Int) + 5) (hl : n ≤ 140737488355328)
    (HC : Hid (∀ w', Below w.heap.size w w' → (convert 25 9 (.slice (some ⟨g, 0, none⟩) m m)).run Tryd.prog w' = .ok (.string S) w'))
    (HC2 : Hid (∀ w' g', Row w' g' (zs ++ marks n) → (convert 25 9 (.slice (some ⟨g', 0, none⟩) ((n : Int) + 5).toNat m)).run Tryd.prog w' = .ok (.string S) w'))
    (HL : Hid (Calls Tryd.prog 4 #[.slice a n c] w.drew fun e w' => e = .returned (.slice (some ⟨w.heap.size, 0, none⟩) n m) ∧ Row w' w.heap.size (zs ++ marks n) ∧ Below w.heap.size w w')) :
    Calls Tryd.prog 13 #[.slice (some ⟨g, 0, none⟩) n m, .slice a n c] w fun e w' => e = .returned (.bool true) ∧ Below w.heap.size w w' := by
  have hwr : IntKind.i64.wrap ((n : Int) + 5) = (n : Int) + 5 := by rw [IntKind.wrap_i64]; omega
  go_enter Tryd.func13, Tryd.ntmps13
  go_wp2_with fail
  go_region_held (fun w' => (convert 25 9 (.slice (some ⟨g, 0, none⟩) m m)).run Tryd.prog w' = .ok (.string S) w')
    (first | exact HC.out _ (Below.refl _ _).drew | exact HC.out _ (by assumption))
    (first | (go_at_call 4; refine HL.out.mono ?_; rintro e w1 ⟨rfl, hr1, hb1⟩; have c2 := HC2.out w1 w.heap.size hr1))
  go_wp2
  go_ret
  exact ⟨rfl, by assumption⟩

theorem kept_true (g : Nat) (v : Value) (zs : List Int) (w : World) (hr : Row w g (zs ++ marks zs.length)) (h : Reads w v zs) (hl : zs.length ≤ 140737488355328) :
    Calls Tryd.prog 13 #[.slice (some ⟨g, 0, none⟩) zs.length (zs.length + 5), v] w fun e w' => e = .returned (.bool true) ∧ Below w.heap.size w w' := by
  have hby : Bytes (zs ++ marks zs.length) := by
    obtain ⟨_, _, _, _, _, h1, _⟩ := h
    exact h1.append (marks_bytes _)
  have hlen : (zs ++ marks zs.length).length = zs.length + 5 := by simp [marks_length]
  have h' := h
  obtain ⟨a, c, rfl, _, _, _, _⟩ := h'
  refine kept_core g zs.length (zs.length + 5) a c (strOfNums (zs ++ marks zs.length)) zs w (by omega) (by omega) hl ?_ ?_ ?_
  · intro w' hb
    have hr' : Row w' g (zs ++ marks zs.length) := hr.of_block (hb.block g hr.lt)
    have := conv_reads (hr'.reads hby (zs.length + 5) (by omega))
    rw [hlen] at this
    exact this
  · intro w' g' hr'
    have := conv_reads (hr'.reads hby (zs.length + 5) (by omega))
    rw [hlen] at this
    rw [show ((zs.length : Int) + 5).toNat = zs.length + 5 by omega]
    exact this
  · refine (lent_any _ zs w.drew (by exact h) hl).mono ?_
    rintro e w1 ⟨rfl, hr1, hb1, hs1⟩
    exact ⟨rfl, hr1, undrew hb1⟩

end Go.Proofs.YtpihigcnoifcfaaDoor

/- octet.Join (bytes.Join with no separator), as a contract: all parts, one behind the other, in new memory. -/
namespace Go.Proofs.YtpihigcnoifcfaaDoor
set_option maxRecDepth 20000
open Go.RowKit

/-- v is a slice of slices that reads as these lists of bytes. -/
def Parts (w : World) (v : Value) (ps : List (List Int)) : Prop :=
  ∃ (a : Option Addr) (cap : Nat) (V : Nat → Value), v = .slice a ps.length cap ∧ ps.length ≤ cap ∧ ps.length ≤ 140737488355328 ∧ (0 < ps.length → ∃ b off, a = some ⟨b, off, none⟩ ∧ ∀ i, i < ps.length → w.cell? ⟨b, off + i, none⟩ = some (V i)) ∧ ∀ i, i < ps.length → Reads w (V i) (ps.getD i [])

theorem digits_B : ∀ (n t : Nat) (acc : List Int), ∃ ds : List Int, ds.length = acc.length + n ∧ Extern.BytealgMakeNoZero.digits n t (B acc) = B ds
  | 0, _, acc => ⟨acc, rfl, rfl⟩
  | n + 1, t, acc => by
    obtain ⟨ds, h1, h2⟩ := digits_B n (t / 256) (acc ++ [((t % 256 : Nat) : Int)])
    refine ⟨ds, by simp at h1; omega, ?_⟩
    rw [Extern.BytealgMakeNoZero.digits, ← h2]
    congr 1
    simp [B]

theorem run_mnz (n : Nat) (w : World) (hn : n ≤ 281474976710656) : ∃ t, (Extern.BytealgMakeNoZero.makeNoZero #[3] #[25] #[.int .i64 n]).run Tryd.prog w =
    .ok (.slice (some ⟨w.heap.size, 0, none⟩) n (grownCap w n 0 5)) (w.drew.drew.alloc (.cells (Extern.BytealgMakeNoZero.digits (grownCap w n 0 5) t #[]) 5)) := by
  apply Exists.intro
  show Sem.run Tryd.prog (do
        let .slice elem ← underlying 25 | stuck _
        if (n : Int) < 0 || (n : Int) > 2 ^ 48 then runtimePanic _
        let cap ← choose (.appendCap (n : Int).toNat 0 elem)
        askRoom cap
        let bytes ← choose _
        let a ← newRow elem (Extern.BytealgMakeNoZero.digits cap bytes #[])
        pure (Value.slice (some a) (n : Int).toNat cap)) w = _
  have g1 : ¬ (n : Int) < 0 := by omega
  have g2 : ¬ (281474976710656 : Int) < (n : Int) := by omega
  simp [run_underlying u_bytes, g1, g2, Question.forced, newRow, grownCap]
  rfl

/-- How many bytes the first k parts have. -/
def lens (ps : List (List Int)) (k : Nat) : Nat := ((ps.take k).flatten).length
theorem lens_succ (ps : List (List Int)) (k : Nat) (h : k < ps.length) : lens ps (k + 1) = lens ps k + (ps.getD k []).length := by
  unfold lens
  rw [List.take_succ_eq_append_getElem h, List.flatten_append, List.length_append]
  simp [List.getD, h]
theorem flat_succ (ps : List (List Int)) (k : Nat) (h : k < ps.length) : (ps.take (k + 1)).flatten = (ps.take k).flatten ++ ps.getD k [] := by
  rw [List.take_succ_eq_append_getElem h, List.flatten_append]
  simp [List.getD, h]
theorem lens_le (ps : List (List Int)) (k : Nat) : lens ps k ≤ ps.flatten.length := by
  unfold lens
  conv => rhs; rw [← List.take_append_drop k ps, List.flatten_append, List.length_append]
  omega
theorem lens_all (ps : List (List Int)) (k : Nat) (h : ps.length ≤ k) : lens ps k = ps.flatten.length := by
  unfold lens
  rw [List.take_of_length_le h]

/-- What Join leaves. -/
def JoinPost (zs : List Int) (w : World) (e : Ending) (w' : World) : Prop := ∃ u sp, e = .returned u ∧ Own w.heap.size w' u zs sp ∧ Below w.heap.size w w'

end Go.Proofs.YtpihigcnoifcfaaDoor

/- tag.text and the document's Text, as contracts: a byte and the parts behind it, one behind the other, in new memory. -/
namespace Go.Proofs.YtpihigcnoifcfaaDoor
set_option maxRecDepth 20000
open Go.RowKit

/-- A new slice of one byte. -/
theorem own_one (base : Nat) (w : World) (z : Int) (h0 : 0 ≤ z) (h1 : z ≤ 255) (hb : base ≤ w.heap.size) : Own base (w.alloc (.cells #[.int .u8 z] 5)) (.slice (some ⟨w.heap.size, 0, none⟩) 1 1) [z] [] :=
  ⟨by intro y hy; simp at hy; subst hy; exact ⟨h0, h1⟩, Bytes.nil, by simp [maxLen], .inr ⟨w.heap.size, [], hb, rfl, heap_alloc_new w _⟩⟩

theorem text_le (ps : List (List Int)) (k : Nat) (t : Int) (h : k < ps.length) (hl : 1 + ps.flatten.length ≤ 140737488355328) : (t :: (ps.take k).flatten).length + (ps.getD k []).length ≤ 140737488355328 := by
  have h1 := lens_succ ps k h
  have h2 := lens_le ps (k + 1)
  unfold lens at *
  rw [List.length_cons]
  omega

set_option maxHeartbeats 1000000 in
theorem refText_any (t : Int) (v : Value) (ps : List (List Int)) (w : World) (h0 : 0 ≤ t) (h1 : t ≤ 255) (h : Parts w v ps) (hl : 1 + ps.flatten.length ≤ 140737488355328) :
    Calls Tryd.prog 69 #[.int .u8 t, v] w (JoinPost (t :: ps.flatten) w) := by
  obtain ⟨a, cap, V, rfl, hcap, hn, hcell, hr⟩ := h
  have HC := hidden hcell
  have HR := hidden hr
  have HO : Hid (Own w.heap.size (w.alloc (.cells #[.int .u8 t] 5)) (.slice (some ⟨w.heap.size, 0, none⟩) 1 1) (t :: (ps.take 0).flatten) []) := own_one _ _ _ h0 h1 (Nat.le_refl _)
  clear hcell hr
  go_enter Tryd.func69, Tryd.ntmps69
  go_wp2_with fail
  go_loopw [5, 6] (fun b i wr => ∃ (k : Nat) (sp : List Int), k ≤ ps.length ∧ i = .int .i64 k ∧ Hid (Own w.heap.size wr b (t :: (ps.take k).flatten) sp) ∧ Below w.heap.size w wr) (fun _ i _ => ps.length - (intOf i).toNat)
  case atStart => exact ⟨0, [], by omega, rfl, HO, grow_alloc _ _⟩
  case round =>
    clear HO
    obtain ⟨k, sp, hk, rfl, hO, hb⟩ := hrel
    by_cases hlt : k < ps.length
    · obtain ⟨b, off, rfl, hcc⟩ := HC.out (by omega)
      have hx := hcc k hlt
      have hx1 := (hb.cell (p := ⟨b, off + k, none⟩) (block_lt_of_cell hx)).trans hx
      have HRK := hidden ((HR.out k hlt).grow hb)
      have HF := hidden (flat_succ ps k hlt)
      have hle := text_le ps k t hlt hl
      have HLE := hidden hle
      clear hx hcc hle
      go_wp2_with (at_builtin; refine wpList_app _ rfl _ _ rfl w.heap.size _ _ _ sp _ hO.out HRK.out rfl rfl HLE.out hb.size ?_; intro v' w' sp' h1 h2 h3 h4)
      have hO' : Own w.heap.size w' v' (t :: (ps.take (k + 1)).flatten) sp' := by
        rw [HF.out]
        exact h1
      exact ⟨⟨k + 1, sp', by omega, by go_num, hO', hb.grown h2 hb.size (fun j hj => (hO.out.lt j hj).1)⟩, by simp [intOf]; omega⟩
    · have hfl : (ps.take k).flatten = ps.flatten := by rw [List.take_of_length_le (by omega)]
      rw [hfl] at hO
      go_wp2
      go_ret
      exact ⟨_, sp, rfl, hO.out, hb⟩

end Go.Proofs.YtpihigcnoifcfaaDoor
