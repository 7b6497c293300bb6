/- OctetHex's walk: digits of any bytes, bytes of any text, the order of any two lists, held against the document's; what was lent stays; new memory. -/
import Derived.Test.YthbdnhfppjhppaaRefHex
import Derived.Test.YthbdnhfppjhppaaCmp
import Derived.Test.YthbdnhfppjhppaaApart
import Derived.Test.YthbdnhfppjhppaaKit2
namespace Go.Proofs.Ythbdnhfppjhppaa
open Go.RowKit

/-- Four lists of the law's own, each born behind the one ahead of it. -/
def pick4 {α : Type} (x y z u : α) (i : Nat) : α := if i = 0 then x else if i = 1 then y else if i = 2 then z else u

theorem lists_four {base : Nat} {w : World} {x y z u : Value} {zx sx zy sy zz sz zu su : List Int} (ox : Own base w x zx sx) (oy : Own base w y zy sy) (oz : Own base w z zz sz) (ou : Own base w u zu su)
    (d1 : ∀ g, x.ownBlock = some g → y.ownBlock ≠ some g ∧ z.ownBlock ≠ some g ∧ u.ownBlock ≠ some g) (d2 : ∀ g, y.ownBlock = some g → z.ownBlock ≠ some g ∧ u.ownBlock ≠ some g) (d3 : ∀ g, z.ownBlock = some g → u.ownBlock ≠ some g) :
    Lists base w.heap.size 0 4 (pick4 x y z u) (pick4 zx zy zz zu) (pick4 sx sy sz su) (w.alloc (.cells #[x, y, z, u] 22)) := by
  have hr : (w.alloc (.cells #[x, y, z, u] 22)).heap[w.heap.size]? = some (.cells #[x, y, z, u] 22 (0, 0)) := heap_alloc_new w _
  have lt : ∀ {v : Value} {a b : List Int}, Own base w v a b → v.ownBlock ≠ some w.heap.size := by
    intro v a b h e
    have := (h.lt _ e).2
    omega
  refine ⟨?_, ?_, ?_, ?_⟩
  · intro i hi
    rw [Nat.zero_add, cell_of_row _ _ _ _ _ _ hr]
    match i, hi with
    | 0, _ => rfl
    | 1, _ => rfl
    | 2, _ => rfl
    | 3, _ => rfl
  · intro i hi
    match i, hi with
    | 0, _ => exact ox.grow (grow_alloc _ _)
    | 1, _ => exact oy.grow (grow_alloc _ _)
    | 2, _ => exact oz.grow (grow_alloc _ _)
    | 3, _ => exact ou.grow (grow_alloc _ _)
  · intro i k hi hk hik g hg hg'
    match i, hi, k, hk with
    | 0, _, 0, _ => exact hik rfl
    | 0, _, 1, _ => exact (d1 g hg).1 hg'
    | 0, _, 2, _ => exact (d1 g hg).2.1 hg'
    | 0, _, 3, _ => exact (d1 g hg).2.2 hg'
    | 1, _, 0, _ => exact (d1 g hg').1 hg
    | 1, _, 1, _ => exact hik rfl
    | 1, _, 2, _ => exact (d2 g hg).1 hg'
    | 1, _, 3, _ => exact (d2 g hg).2 hg'
    | 2, _, 0, _ => exact (d1 g hg').2.1 hg
    | 2, _, 1, _ => exact (d2 g hg').1 hg
    | 2, _, 2, _ => exact hik rfl
    | 2, _, 3, _ => exact d3 g hg hg'
    | 3, _, 0, _ => exact (d1 g hg').2.2 hg
    | 3, _, 1, _ => exact (d2 g hg').2 hg
    | 3, _, 2, _ => exact d3 g hg' hg
    | 3, _, 3, _ => exact hik rfl
  · intro i hi
    match i, hi with
    | 0, _ => exact lt ox
    | 1, _ => exact lt oy
    | 2, _ => exact lt oz
    | 3, _ => exact lt ou

theorem grow_drewN (w : World) (d : Nat) : Below w.heap.size w (w.drewN d) := below_drewN (Below.refl _ _) d

set_option maxRecDepth 100000 in
set_option maxHeartbeats 4000000 in
theorem hex_walk (vb vc : Value) (s : ByteArray) (zb zc : List Int) (w : World) (hb : Reads w vb zb) (hc : Reads w vc zc) (lb : zb.length ≤ 1048576) (lc : zc.length ≤ 1048576) (hs : s.size ≤ maxLen) :
    Calls Try.prog 3 #[vb, .string s, vc] w fun e w' => e = .returned (.bool true) ∧ Below w.heap.size w w' := by
  have HB := hidden hb
  have HC := hidden hc
  have HS := hidden hs
  clear hb hc hs
  go_enter Try.func3, Try.ntmps3
  go_wp2_with fail
  refine (lent_any _ zb w HB.out (by omega)).mono ?_
  rintro e w1 ⟨rfl, hr1, hb1, hs1⟩
  have HR1 := hidden hr1
  have HS1 := hidden hs1
  clear hr1 hs1
  go_wp2_with fail
  refine (lent_any _ zc w1 (HC.out.grow hb1) (by omega)).mono ?_
  rintro e w2 ⟨rfl, hr2, hb2, hs2⟩
  have HR2 := hidden hr2
  have HS2 := hidden hs2
  clear hr2 hs2
  obtain ⟨g1, hg1⟩ : ∃ g1, g1 = w.heap.size := ⟨_, rfl⟩
  obtain ⟨g2, hg2⟩ : ∃ g2, g2 = w1.heap.size := ⟨_, rfl⟩
  have OP : Hid (Own w.heap.size w2 (.slice (some ⟨g1, 0, none⟩) zb.length (zb.length + 5)) zb (marks zb.length)) := by
    obtain ⟨_, _, _, _, _, hby, _⟩ := HB.out
    have := Own.mk (base := w.heap.size) hby (marks_bytes zb.length) (by rw [marks_length]; simp only [maxLen]; omega) (Nat.le_refl _) HR1.out
    rw [marks_length, ← hg1] at this
    rw [← hg1] at *
    exact this.grow hb2
  have OQ : Hid (Own w.heap.size w2 (.slice (some ⟨g2, 0, none⟩) zc.length (zc.length + 5)) zc (marks zc.length)) := by
    obtain ⟨_, _, _, _, _, hby, _⟩ := HC.out
    have := Own.mk (base := w.heap.size) hby (marks_bytes zc.length) (by rw [marks_length]; simp only [maxLen]; omega) (by exact hb1.size) HR2.out
    rw [marks_length, ← hg2] at this
    exact this
  have RP : Hid (Row w2 g1 (zb ++ marks zb.length)) := by rw [hg1]; exact HR1.out.of_block (hb2.block _ (by have := HS1.out; omega))
  have RQ : Hid (Row w2 g2 (zc ++ marks zc.length)) := by rw [hg2]; exact HR2.out
  rw [← hg1, ← hg2]
  have HG1 := hidden hg1
  have HG2 := hidden hg2
  have hbw2 : Below w.heap.size w w2 := grow_trans hb1 hb2
  clear hg1 hg2 HR1 HR2
  go_wp2_with fail
  refine (unhex_any s w2 HS.out).mono ?_
  rintro e w3 ⟨vx, spx, rfl, hox, hb3⟩
  obtain ⟨ax, cx, rfl⟩ := hox.slice
  have HOX := hidden hox
  clear hox
  go_wp2_with fail
  refine (unhex_any s w3 HS.out).mono ?_
  rintro e w4 ⟨vy, spy, rfl, hoy, hb4⟩
  obtain ⟨ay, cy, rfl⟩ := hoy.slice
  have HOY := hidden hoy
  clear hoy
  go_wp2_with fail
  refine (runhex_any s w4 HS.out).mono ?_
  rintro e w5 ⟨vz, spz, rfl, hoz, hb5⟩
  obtain ⟨az, cz, rfl⟩ := hoz.slice
  have HOZ := hidden hoz
  clear hoz
  generalize (uh (nums s)).1 = E at *
  generalize (uh (nums s)).2 = U at *
  have hb25 : Below w2.heap.size w2 w5 := grow_trans (grow_trans hb3 hb4) hb5
  have hb05 : Below w.heap.size w w5 := grow_trans hbw2 hb25
  go_wp2_with fail
  refine (hex_any _ zb w5 (OP.out.grow hb25).reads (by omega)).mono ?_
  rintro e w6 ⟨rfl, hb6⟩
  go_wp2_with fail
  refine (rhex_any _ zb w6 (HB.out.grow (grow_trans hb05 hb6)) lb).mono ?_
  rintro e w7 ⟨rfl, hb7⟩
  go_wp2_with fail
  have hb57 : Below w5.heap.size w5 w7 := grow_trans hb6 hb7
  have hb07 : Below w.heap.size w w7 := grow_trans hb05 hb57
  have hb27 : Below w2.heap.size w2 w7 := grow_trans hb25 hb57
  refine (compare_any _ _ zb zc w7 (OP.out.grow hb27).reads (OQ.out.grow hb27).reads).mono ?_
  rintro e wx ⟨rfl, hwx⟩
  subst hwx
  obtain ⟨w7, rfl⟩ : ∃ x, x = wx := ⟨_, rfl⟩
  go_wp2_with fail
  refine (rcompare_any _ _ zb zc _ (HB.out.grow hb07) (HC.out.grow hb07) (by omega) (by omega)).mono ?_
  rintro e w8 ⟨rfl, d1, hd1⟩
  have hb8 := grow_drewN w7 d1
  rw [← hd1] at hb8
  clear hd1
  go_wp2_with fail
  have hb08 : Below w.heap.size w w8 := grow_trans hb07 hb8
  have hb28 : Below w2.heap.size w2 w8 := grow_trans hb27 hb8
  refine (compare_any _ _ zc zb w8 (OQ.out.grow hb28).reads (OP.out.grow hb28).reads).mono ?_
  rintro e wx ⟨rfl, hwx⟩
  subst hwx
  obtain ⟨w8, rfl⟩ : ∃ x, x = wx := ⟨_, rfl⟩
  go_wp2_with fail
  refine (rcompare_any _ _ zc zb _ (HC.out.grow hb08) (HB.out.grow hb08) (by omega) (by omega)).mono ?_
  rintro e w9 ⟨rfl, d2, hd2⟩
  have hb9 := grow_drewN w8 d2
  rw [← hd2] at hb9
  clear hd2
  go_wp2_with fail
  have hb09 : Below w.heap.size w w9 := grow_trans hb08 hb9
  have hb29 : Below w2.heap.size w2 w9 := grow_trans hb28 hb9
  have hb59 : Below w5.heap.size w5 w9 := grow_trans hb57 (grow_trans hb8 hb9)
  have hb49 : Below w4.heap.size w4 w9 := grow_trans hb5 hb59
  have hb39 : Below w3.heap.size w3 w9 := grow_trans hb4 hb49
  have NX := hidden (HOX.out.grow hb39)
  have NY := hidden (HOY.out.grow hb49)
  have NZ := hidden (HOZ.out.grow hb59)
  refine (same_any _ _ U U w9 NX.out.reads NZ.out.reads).mono ?_
  rintro e wx ⟨rfl, hwx⟩
  subst hwx
  obtain ⟨w9, rfl⟩ : ∃ x, x = wx := ⟨_, rfl⟩
  go_wp2_with fail
  refine (same_any _ _ U U w9 NY.out.reads NZ.out.reads).mono ?_
  rintro e wx ⟨rfl, hwx⟩
  subst hwx
  obtain ⟨w9, rfl⟩ : ∃ x, x = wx := ⟨_, rfl⟩
  go_wp2_with fail
  refine (kept_true g1 vb zb w9 (RP.out.of_block (hb29.block _ RP.out.lt)) (HB.out.grow hb09) (by omega)).mono ?_
  rintro e w10 ⟨rfl, hb10⟩
  go_wp2_with fail
  refine (kept_true g2 vc zc w10 (RQ.out.of_block ((grow_trans hb29 hb10).block _ RQ.out.lt)) (HC.out.grow (grow_trans hb09 hb10)) (by omega)).mono ?_
  rintro e w11 ⟨rfl, hb11⟩
  go_wp2_with fail
  have hb9b : Below w9.heap.size w9 w11 := grow_trans hb10 hb11
  have hb0b : Below w.heap.size w w11 := grow_trans hb09 hb9b
  have LX := HOX.out.lt
  have LY := HOY.out.lt
  have l1 := RP.out.lt
  have l2 := RQ.out.lt
  have l3 := hb3.size
  have ne12 : g1 ≠ g2 := by
    have a1 := HG1.out
    have a2 := HG2.out
    have a3 := HS1.out
    omega
  have L := lists_four (base := w.heap.size) (w := w11) ((NX.out.grow hb9b).mono hbw2.size) ((NY.out.grow hb9b).mono (by have := hb3.size; have := hbw2.size; omega)) (OP.out.grow (grow_trans hb29 hb9b)) (OQ.out.grow (grow_trans hb29 hb9b))
    (by
      intro g hg
      have := LX g hg
      refine ⟨fun e => ?_, fun e => ?_, fun e => ?_⟩
      · have := LY g e
        omega
      · simp only [Value.ownBlock, Option.some.injEq] at e
        omega
      · simp only [Value.ownBlock, Option.some.injEq] at e
        omega)
    (by
      intro g hg
      have := LY g hg
      refine ⟨fun e => ?_, fun e => ?_⟩ <;> simp only [Value.ownBlock, Option.some.injEq] at e <;> omega)
    (by
      intro g hg e
      simp only [Value.ownBlock, Option.some.injEq] at e hg
      omega)
  refine (apart_walk _ _ _ 4 4 _ _ _ _ (by omega) L (by omega)).mono ?_
  rintro e w12 ⟨rfl, hb12⟩
  clear LX LY L
  go_wp2_with fail
  go_ret
  exact ⟨rfl, grow_trans hb0b (grow_trans (grow_alloc _ _) hb12)⟩

end Go.Proofs.Ythbdnhfppjhppaa
