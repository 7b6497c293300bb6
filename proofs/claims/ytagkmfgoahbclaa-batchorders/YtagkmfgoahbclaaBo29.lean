/- Cells written over in new memory; a struct stored in the midst of a block; a literal in a region that draws its order. -/
import Derived.Test.YtagkmfgoahbclaaBo20
import Derived.Test.YtagkmfgoahbclaaBo07
import Derived.Test.YtagkmfgoahbclaaBo21
import Derived.Deep.RegionHeld
namespace Go.Proofs.Ytagkmfgoahbclaa
set_option maxRecDepth 20000
open Go.RowKit

theorem there_grow {w w' : World} {g o n : Nat} (h : w.there g o n) (hb : Below w.heap.size w w') : w'.there g o n := fun j hj => by
  obtain ⟨h1, h2⟩ := h j hj
  obtain ⟨v, hv⟩ := Option.isSome_iff_exists.1 h1
  have hl : g < w.heap.size := block_lt_of_cell (a := ⟨g, o + j, none⟩) hv
  exact ⟨by rw [(hb.cell (p := ⟨g, o + j, none⟩) hl)]; exact h1, by rw [World.frozen?_of_block (hb.block g hl)]; exact h2⟩

theorem setCells_below {w0 : World} {g : Nat} (hg : w0.heap.size ≤ g) : ∀ (vs : List Value) (o : Nat) (w : World), Below w0.heap.size w0 w → Below w0.heap.size w0 (w.setCells g o vs)
  | [], _, _, h => h
  | v :: r, o, _, h => setCells_below hg r (o + 1) _ (setCell_below o v h hg)

/-- store of a leaf into a row of nodes, in a region that draws its order. -/
theorem step_stL {ops : Array Oper} {o : Oper} {a : Act} {K : Act → World → Prop} {Q : Exit → Act → World → Prop} {E : Prop} (w : World) (hgd : o.guard = none) (x y : Operand) (ty : TypeId) (ho : o.op = .store ty x y)
    (g f : Nat) (cs : Array Value) (hx : a.eval x = .pointer (some ⟨g, f, none⟩)) (hy : a.eval y = .agg cs) (h : w.there g f cs.size) (hi : (Try.prog.info? ty).map (·.size) = some cs.size) (h1 : cs.all (·.oneCell') = true)
    (hk : K (a.put o.dst undef) (w.setCells g f cs.toList)) : if Region.wanted o (yielded ops a.tmps) = true then Oper.wp Try.prog o a w K Q else E := by
  have hw : Region.wanted o (yielded ops a.tmps) = true := by simp [Region.wanted, hgd]
  rw [if_pos hw]
  exact wp_store_mid ty x y ho g f cs hx hy h hi h1 hk

theorem exec_bd (o : Oper) (a : Act) (ty : TypeId) (parts : Array (Nat × Operand)) (ho : o.op = .build ty parts) (cs : Array Value) (h : Try.prog.built ty (parts.map fun (i, x) => (i, a.eval x)).toList = some cs) (w : World) : (execOp a.eval o).run Try.prog w = .ok (.value (.agg cs)) w := by
  unfold execOp
  simp only [ho, Sem.run_bind, run_build w ty _ cs h, Result.andThen_ok, Sem.run_pure]

theorem built_path : Try.prog.built 34 [] = some (B z32) := by kernel_rfl

end Go.Proofs.Ytagkmfgoahbclaa

/- KeptBytes, as a contract: what was lent and not turned is told so. -/
namespace Go.Proofs.Ytagkmfgoahbclaa
set_option maxRecDepth 20000
open Go.RowKit

theorem Row.reads {w : World} {g : Nat} {all : List Int} (h : Row w g all) (hb : Bytes all) (c : Nat) (hc : all.length ≤ c) : Reads w (.slice (some ⟨g, 0, none⟩) all.length c) all :=
  ⟨_, _, rfl, hc, fun h => by simp at h, hb, fun _ => ⟨g, 0, rfl, fun i hi => by rw [Nat.zero_add]; exact h.cell i hi⟩⟩

set_option maxHeartbeats 1000000 in
theorem kept_core (g n m : Nat) (a : Option Addr) (c : Nat) (S : ByteArray) (zs : List Int) (w : World) (h5 : (n : Int) + 5 ≤ (m : Int)) (h6 : (0 : Int) ≤ (n : Int) + 5) (hl : n ≤ 140737488355328)
    (HC : Hid (∀ w', Below w.heap.size w w' → (convert 35 9 (.slice (some ⟨g, 0, none⟩) m m)).run Try.prog w' = .ok (.string S) w'))
    (HC2 : Hid (∀ w' g', Row w' g' (zs ++ marks n) → (convert 35 9 (.slice (some ⟨g', 0, none⟩) ((n : Int) + 5).toNat m)).run Try.prog w' = .ok (.string S) w'))
    (HL : Hid (Calls Try.prog 17 #[.slice a n c] w.drew fun e w' => e = .returned (.slice (some ⟨w.heap.size, 0, none⟩) n m) ∧ Row w' w.heap.size (zs ++ marks n) ∧ Below w.heap.size w w')) :
    Calls Try.prog 22 #[.slice (some ⟨g, 0, none⟩) n m, .slice a n c] w fun e w' => e = .returned (.bool true) ∧ Below w.heap.size w w' := by
  have hwr : IntKind.i64.wrap ((n : Int) + 5) = (n : Int) + 5 := by rw [IntKind.wrap_i64]; omega
  go_enter Try.func22, Try.ntmps22
  go_wp2_with fail
  go_region_held (fun w' => (convert 35 9 (.slice (some ⟨g, 0, none⟩) m m)).run Try.prog w' = .ok (.string S) w')
    (first | exact HC.out _ (Below.refl _ _).drew | exact HC.out _ (by assumption))
    (first | (go_at_call 17; refine HL.out.mono ?_; rintro e w1 ⟨rfl, hr1, hb1⟩; have c2 := HC2.out w1 w.heap.size hr1))
  go_wp2
  go_ret
  exact ⟨rfl, by assumption⟩

theorem kept_true (g : Nat) (v : Value) (zs : List Int) (w : World) (hr : Row w g (zs ++ marks zs.length)) (h : Reads w v zs) (hl : zs.length ≤ 140737488355328) :
    Calls Try.prog 22 #[.slice (some ⟨g, 0, none⟩) zs.length (zs.length + 5), v] w fun e w' => e = .returned (.bool true) ∧ Below w.heap.size w w' := by
  have hby : Bytes (zs ++ marks zs.length) := by
    obtain ⟨_, _, _, _, _, h1, _⟩ := h
    exact h1.append (marks_bytes _)
  have hlen : (zs ++ marks zs.length).length = zs.length + 5 := by simp [marks_length]
  have h' := h
  obtain ⟨a, c, rfl, _, _, _, _⟩ := h'
  refine kept_core g zs.length (zs.length + 5) a c (strOfNums (zs ++ marks zs.length)) zs w (by omega) (by omega) hl ?_ ?_ ?_
  · intro w' hb
    have hr' : Row w' g (zs ++ marks zs.length) := hr.of_block (hb.block g hr.lt)
    have := conv_reads (hr'.reads hby (zs.length + 5) (by omega))
    rw [hlen] at this
    exact this
  · intro w' g' hr'
    have := conv_reads (hr'.reads hby (zs.length + 5) (by omega))
    rw [hlen] at this
    rw [show ((zs.length : Int) + 5).toNat = zs.length + 5 by omega]
    exact this
  · refine (lent_any _ zs w.drew (by exact h) hl).mono ?_
    rintro e w1 ⟨rfl, hr1, hb1, hs1⟩
    exact ⟨rfl, hr1, undrew hb1⟩

end Go.Proofs.Ytagkmfgoahbclaa
