/- What the two tables of sha hold when a statement's call begins, as the rows list it; and the start that the program's own text lays. -/
import Derived.Test.YtjcklpdifanjlaaDoorRows
import Derived.Test.YtjcklpdifanjlaaDoorOr04
import Derived.ProofKit
import Derived.LaidMore
import Derived.OpenShut
import Derived.Stop.Joined
import Derived.Lib.LaidTab
import Derived.Test.YtjcklpdifanjlaaDoorOr03
import Derived.Lib.Bytealg
import Derived.Deep.QuietTactic
import Derived.BigQuiet
namespace Go.Proofs.YtjcklpdifanjlaaDoor
set_option maxRecDepth 20000
open Go.ChangeShapes Go.WideShapes Go.ChangeAt Go.WideMaps Go.WideElems Go.RowKit

abbrev laid2 : List (String × DataW Unit) := Rows.nodeCodesRow.laid
abbrev nameOf (i : Nat) : String := (laid2.map (·.1)).getD i Rows.nodeCodesRow.func

theorem gFirst : Tryd.prog.globalNamed (nameOf 0) = some 0 := by kernel_rfl
theorem gRounds : Tryd.prog.globalNamed (nameOf 1) = some 1 := by kernel_rfl
theorem tFirst : (Tryd.prog.globals[0]?).map (·.type) = some 115 := by kernel_rfl
theorem tRounds : (Tryd.prog.globals[1]?).map (·.type) = some 135 := by kernel_rfl

/-- The door's own heap meets the condition. -/
theorem door_met (os : Os) (args : Array Value) : laidMetH Tryd.prog laid2 ((World.doorLaid Tryd.prog 400 os).forCall (fun _ _ => 0) ⟨#[], args, []⟩).memory :=
  laidMetH_of_parts3 (fuel := 8) (laidMet_of_run' 8 (by kernel_rfl) (by kernel_rfl)) (by kernel_rfl) (by kernel_rfl)

theorem tab_first : (Rows.laid_rootcellar_sha_first : DataW Unit) = Lib.tabData .u32 hs := rfl
theorem tab_rounds : (Rows.laid_rootcellar_sha_rounds : DataW Unit) = Lib.tabData .u32 ks := rfl
theorem cells_w8 : Tryd.prog.cellsOf 115 = 8 := by kernel_rfl
theorem cells_w64 : Tryd.prog.cellsOf 135 = 64 := by kernel_rfl
theorem cells_w : Tryd.prog.cellsOf 114 = 1 := by kernel_rfl

/-- What the condition gives the walks. -/
theorem of_laid {W : World} (h : laidMetH Tryd.prog laid2 W) : Laid W := by
  rw [MakeChecks.laidMetH_plain _ _ _ (by kernel_rfl)] at h
  obtain ⟨ps, ⟨g0, t0, cs0, f0, p0, q0, hg0, ht0, hv0, hd0, ⟨g1, t1, cs1, f1, p1, q1, hg1, ht1, hv1, hd1, _, _⟩, _⟩, _, _⟩ := h
  obtain rfl := Option.some.inj (gFirst.symm.trans hg0)
  obtain rfl := Option.some.inj (gRounds.symm.trans hg1)
  obtain rfl := Option.some.inj (tFirst.symm.trans ht0)
  obtain rfl := Option.some.inj (tRounds.symm.trans ht1)
  rw [tab_first] at hd0
  rw [tab_rounds] at hd1
  have e0 := Lib.cells_of_tab Tryd.underlying115 Tryd.underlying114 cells_w cells_w8 hd0
  have e1 := Lib.cells_of_tab Tryd.underlying135 Tryd.underlying114 cells_w cells_w64 hd1
  have c1 : ∀ i, i < 64 → W.cell? ⟨1, i, none⟩ = some (.int .u32 (ks.getD i 0)) := by
    intro i hi
    rw [World.var?_cell hg1 hv1 i, ← Array.getElem?_toList, e1, List.getElem?_map, List.getElem?_eq_getElem (show i < ks.length from hi)]
    simp [List.getD, show i < ks.length from hi]
  have c0 : ∀ i, i < 8 → W.cell? ⟨0, i, none⟩ = some (.int .u32 (hs.getD i 0)) := by
    intro i hi
    rw [World.var?_cell hg0 hv0 i, ← Array.getElem?_toList, e0, List.getElem?_map, List.getElem?_eq_getElem (show i < hs.length from hi)]
    simp [List.getD, show i < hs.length from hi]
  exact ⟨block_lt_of_cell (c1 0 (by omega)), c1, c0⟩

end Go.Proofs.YtjcklpdifanjlaaDoor

/- octet.Compare and the document's Compare, as contracts: both tell the order of two lists of bytes. -/
namespace Go.Proofs.YtjcklpdifanjlaaDoor
set_option maxRecDepth 20000
open Go.RowKit

/-- The order of two lists, the first unlike number telling; a beginning ahead of what goes on. -/
def cmp : List Int → List Int → Int
  | [], [] => 0
  | [], _ :: _ => -1
  | _ :: _, [] => 1
  | a :: r, b :: s => if a < b then -1 else if b < a then 1 else cmp r s

theorem cmp_bytes : ∀ (xs ys : List Int), Bytes xs → Bytes ys → Lib.compareBytes (xs.map fun n => UInt8.ofNat n.toNat) (ys.map fun n => UInt8.ofNat n.toNat) = cmp xs ys
  | [], [], _, _ => rfl
  | [], _ :: _, _, _ => rfl
  | _ :: _, [], _, _ => rfl
  | a :: r, b :: s, ha, hb => by
    have h1 := ha a (by simp)
    have h2 := hb b (by simp)
    have ih := cmp_bytes r s (fun z hz => ha z (by simp [hz])) (fun z hz => hb z (by simp [hz]))
    have e : ∀ x y : Int, 0 ≤ x ∧ x ≤ 255 → 0 ≤ y ∧ y ≤ 255 → (UInt8.ofNat x.toNat < UInt8.ofNat y.toNat ↔ x < y) := by
      intro x y hx hy
      rw [UInt8.lt_iff_toNat_lt, UInt8.toNat_ofNat', UInt8.toNat_ofNat']
      omega
    simp only [List.map_cons, Lib.compareBytes, cmp, ih, e a b h1 h2, e b a h2 h1]

theorem load_bytes : ∀ (zs : List Int) (b off : Nat) (acc : ByteArray) (w : World), (∀ i, i < zs.length → w.cell? ⟨b, off + i, none⟩ = some (.int .u8 (zs.getD i 0))) →
    (Extern.Bytes.loadBytes ⟨b, off, none⟩ zs.length acc).run Tryd.prog w = .ok (zs.foldl (fun r n => r.push (n.toNat.toUInt8)) acc) w
  | [], _, _, _, _, _ => by simp [Extern.Bytes.loadBytes]
  | z :: zs, b, off, acc, w, h => by
    have h0 := h 0 (by simp)
    simp only [Nat.add_zero, List.getD_cons_zero] at h0
    have hl : (load ⟨b, off, none⟩).run Tryd.prog w = .ok (.int .u8 z) w := by
      simp [go_sem, h0]
    have ih := load_bytes zs b (off + 1) (acc.push z.toNat.toUInt8) w (fun i hi => by
      have := h (i + 1) (by simpa using hi)
      rw [show off + 1 + i = off + (i + 1) by omega]
      simpa using this)
    simp only [List.length_cons, Extern.Bytes.loadBytes, Sem.run_bind, hl, Result.andThen_ok, Addr.add_lit, ih, List.foldl_cons]

theorem bytesOf_reads {w : World} {v : Value} {zs : List Int} (h : Reads w v zs) : (Extern.Bytes.bytesOf v).run Tryd.prog w = .ok (strOfNums zs) w := by
  obtain ⟨a, c, rfl, h1, h2, h3, h4⟩ := h
  have hfold : zs.foldl (fun r n => r.push (n.toNat.toUInt8)) ByteArray.empty = strOfNums zs := by
    have := foldl_push_bytes zs ByteArray.empty
    have e : (fun (r : ByteArray) (n : Int) => r.push (n.toNat.toUInt8)) = fun r n => r.push (UInt8.ofNat n.toNat) := rfl
    rw [e, this]
    simp [strOfNums, ByteArray.empty, ByteArray.emptyWithCapacity]
    rfl
  cases a with
  | none =>
    have hz : zs = [] := by
      by_cases hz : zs = []
      · exact hz
      · obtain ⟨_, _, e, _⟩ := h4 (List.length_pos_iff.2 hz)
        cases e
    subst hz
    rfl
  | some x =>
    by_cases hz : zs = []
    · subst hz
      rfl
    · obtain ⟨b, off, e, hc⟩ := h4 (List.length_pos_iff.2 hz)
      injection e with e
      subst e
      show (Extern.Bytes.loadBytes ⟨b, off, none⟩ zs.length .empty).run Tryd.prog w = _
      rw [load_bytes zs b off _ w hc, hfold]

theorem call_cmp {w : World} {x y : Value} {xs ys : List Int} (hx : Reads w x xs) (hy : Reads w y ys) : (callFunc 123 #[x, y]).run Tryd.prog w = .ok (.value (.int .i64 (cmp xs ys))) w := by
  have b1 : Bytes xs := by obtain ⟨_, _, _, _, _, h, _⟩ := hx; exact h
  have b2 : Bytes ys := by obtain ⟨_, _, _, _, _, h, _⟩ := hy; exact h
  rw [run_callFunc_extern Tryd.func123 (by kernel_rfl) (by kernel_rfl) (by kernel_rfl) (e := Extern.BytealgCompare.compare) (by kernel_rfl)]
  have e : Extern.BytealgCompare.compare #[x, y] = (do pure (goInt (Extern.BytealgCompare.cmp (← Extern.Bytes.bytesOf x) (← Extern.Bytes.bytesOf y)))) := rfl
  rw [e]
  simp only [Sem.run_bind, bytesOf_reads hx, bytesOf_reads hy, Result.andThen_ok, Sem.run_pure]
  rw [Lib.cmp_eq, strOfNums_data, strOfNums_data, cmp_bytes xs ys b1 b2]
  rfl

set_option maxHeartbeats 400000 in
theorem bcompare_any (x y : Value) (xs ys : List Int) (w : World) (hx : Reads w x xs) (hy : Reads w y ys) :
    Calls Tryd.prog 109 #[x, y] w fun e w' => e = .returned (.int .i64 (cmp xs ys)) ∧ w' = w := by
  have hc := call_cmp hx hy
  clear hx hy
  generalize cmp xs ys = r at *
  go_enter Tryd.func109, Tryd.ntmps109
  go_wp2
  go_ret
  exact ⟨rfl, rfl⟩

set_option maxHeartbeats 400000 in
theorem compare_any (x y : Value) (xs ys : List Int) (w : World) (hx : Reads w x xs) (hy : Reads w y ys) :
    Calls Tryd.prog 94 #[x, y] w fun e w' => e = .returned (.int .i64 (cmp xs ys)) ∧ w' = w := by
  have H := hidden (bcompare_any x y xs ys w hx hy)
  clear hx hy
  go_enter Tryd.func94, Tryd.ntmps94
  go_wp2_with (go_at_call 109; refine H.out.mono ?_; rintro e w' ⟨rfl, rfl⟩)
  go_ret
  exact ⟨rfl, rfl⟩

theorem drewN_add (w : World) (a b : Nat) : (w.drewN a).drewN b = w.drewN (a + b) := by
  simp [World.drewN, Nat.add_assoc]
theorem drew2 (w : World) (a b : Nat) : ∃ d, (w.drewN a).drewN b = w.drewN d := ⟨_, drewN_add w a b⟩
theorem drew3 (w : World) (a b c : Nat) : ∃ d, ((w.drewN a).drewN b).drewN c = w.drewN d := ⟨_, by rw [drewN_add, drewN_add]⟩

theorem drop_getD (xs : List Int) (k : Nat) (h : k < xs.length) : xs.drop k = xs.getD k 0 :: xs.drop (k + 1) := by
  rw [List.drop_eq_getElem_cons h]; simp [List.getD, h]

end Go.Proofs.YtjcklpdifanjlaaDoor
