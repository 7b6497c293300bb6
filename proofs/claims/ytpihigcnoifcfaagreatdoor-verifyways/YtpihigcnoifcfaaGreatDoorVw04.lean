/- Arrays of words in memory: blocks whose cells are known whole. -/
import Derived.Test.YtpihigcnoifcfaaGreatDoorVw01
import Derived.Test.YtpihigcnoifcfaaGreatDoorVw03
import Derived.Deep.MidRow
import Derived.Deep.WholeRow
import Derived.Laws.ResultCell
import Derived.ChangeKeysEq
import Derived.Laws.StructEq
import Derived.BigQuiet
import Derived.Deep.QuietTactic
import Derived.WalkKit
namespace Go.Proofs.YtpihigcnoifcfaaGreatDoor
set_option maxRecDepth 20000
open Go.RowKit

def U (zs : List Int) : Array Value := (zs.map (Value.int .u32)).toArray
theorem U_size (zs : List Int) : (U zs).size = zs.length := by simp [U]
theorem U_get (zs : List Int) (i : Nat) (h : i < zs.length) : (U zs)[i]? = some (.int .u32 (zs.getD i 0)) := by simp [U, List.getD, h]
theorem U_toList (zs : List Int) : (U zs).toList = zs.map (Value.int .u32) := by simp [U]
theorem U_set (zs : List Int) (i : Nat) (z : Int) : (U zs).setIfInBounds i (.int .u32 z) = U (zs.set i z) := by
  apply Array.ext'
  simp [U, List.map_set]
theorem U_one (zs : List Int) : (U zs).all (·.oneCell') = true := Array.all_eq_true_iff_forall_mem.2 (fun v hv => by
  simp only [U, List.mem_toArray, List.mem_map] at hv
  obtain ⟨z, _, rfl⟩ := hv
  rfl)
theorem B_one (zs : List Int) : (B zs).all (·.oneCell') = true := Array.all_eq_true_iff_forall_mem.2 (fun v hv => by
  simp only [B, List.mem_toArray, List.mem_map] at hv
  obtain ⟨z, _, rfl⟩ := hv
  rfl)

theorem Blk.wcell {w : World} {g : Nat} {t : TypeId} {zs : List Int} (h : Blk w g t (U zs)) (i : Nat) (hi : i < zs.length) : w.cell? ⟨g, i, none⟩ = some (.int .u32 (zs.getD i 0)) := by
  rw [h.cell, U_get zs i hi]
theorem Blk.bcell {w : World} {g : Nat} {t : TypeId} {zs : List Int} (h : Blk w g t (B zs)) (i : Nat) (hi : i < zs.length) : w.cell? ⟨g, i, none⟩ = some (.int .u8 (zs.getD i 0)) := by
  rw [h.cell, B_get zs i hi]

theorem zero_w64 : ∀ w, (zeroValue 140).run Tryz.prog w = .ok (.agg (U (List.replicate 64 0))) w := Tryz.zeroValue140

theorem zero_w8 : ∀ w, (zeroValue 120).run Tryz.prog w = .ok (.agg (U (List.replicate 8 0))) w := Tryz.zeroValue120

theorem zero_b32 : ∀ w, (zeroValue 23).run Tryz.prog w = .ok (.agg (B (List.replicate 32 0))) w := Tryz.zeroValue23

theorem Blk.eight {w : World} {g : Nat} {t : TypeId} {a b c d e f k l : Int} (h : Blk w g t (U [a, b, c, d, e, f, k, l])) :
    w.cell? ⟨g, 0, none⟩ = some (.int .u32 a) ∧ w.cell? ⟨g, 1, none⟩ = some (.int .u32 b) ∧ w.cell? ⟨g, 2, none⟩ = some (.int .u32 c) ∧ w.cell? ⟨g, 3, none⟩ = some (.int .u32 d) ∧ w.cell? ⟨g, 4, none⟩ = some (.int .u32 e) ∧ w.cell? ⟨g, 5, none⟩ = some (.int .u32 f) ∧ w.cell? ⟨g, 6, none⟩ = some (.int .u32 k) ∧ w.cell? ⟨g, 7, none⟩ = some (.int .u32 l) :=
  ⟨h.wcell 0 (by simp), h.wcell 1 (by simp), h.wcell 2 (by simp), h.wcell 3 (by simp), h.wcell 4 (by simp), h.wcell 5 (by simp), h.wcell 6 (by simp), h.wcell 7 (by simp)⟩

/-- An array's element, the array by value. -/
theorem index_w8 (v : List Int) (k : Nat) (hv : v.length = 8) (hk : k < 8) (w : World) : (Instr.index 120 (.agg (U v)) (.int .i64 (k : Int))).run Tryz.prog w = .ok (.int .u32 (v.getD k 0)) w := by
  have hg := U_get v k (by omega)
  simp [Instr.index, asIntOf, part, hg]
  omega

theorem size_w64 : (Tryz.prog.info? 140).map (·.size) = some 64 := by kernel_rfl

theorem size_w8 : (Tryz.prog.info? 120).map (·.size) = some 8 := by kernel_rfl

theorem size_b64 : (Tryz.prog.info? 121).map (·.size) = some 64 := by kernel_rfl

theorem size_b32 : (Tryz.prog.info? 23).map (·.size) = some 32 := by kernel_rfl

end Go.Proofs.YtpihigcnoifcfaaGreatDoor

/- Arrays by value: laws for their whole loads, stores and literals beside ShaMem's, and arrays held against each other. -/
namespace Go.Proofs.YtpihigcnoifcfaaGreatDoor
set_option maxRecDepth 20000
open Go.RowKit

theorem results_row_tmp {fn : Func} {p u : Tmp} {ty : TypeId} (h : fn.results = #[.cell p ty, .tmp u]) (tmps : Array Value) (w : World) (g : Nat) (cs : Array Value) (n : Nat) (el : TypeId) (x : Value) (hp : tmps.getD p undef = .pointer (some ⟨g, 0, none⟩)) (hx : tmps.getD u undef = x) (hg : Blk w g ty cs)
    (hu : Tryz.prog.underlying ty = some (.array n el)) (hi : (Tryz.prog.info? ty).map (·.size) = some cs.size) :
    (results fn tmps).run Tryz.prog w = .ok (.tuple #[.agg cs, x]) w := by
  rw [results_cell_tmp h, hp, hx]
  simp [asAddr, run_loadVar_row w g ty ty cs (0, 0) _ hg hu rfl hi]

/-- load of a whole array, where its guard says yes. -/
theorem wpList_ldg {ops : Array Oper} {rest : List Oper} {op : Oper} {a : Act} {Q : Exit → Act → World → Prop} (w : World) (hgd : Region.wanted op (yielded ops a.tmps) = true) (x : Operand) (ty : TypeId) (ho : op.op = .load ty x)
    (g : Nat) (cs : Array Value) (hx : a.eval x = .pointer (some ⟨g, 0, none⟩)) (h : Blk w g ty cs) (n : Nat) (e : TypeId) (hu : Tryz.prog.underlying ty = some (.array n e)) (hi : (Tryz.prog.info? ty).map (·.size) = some cs.size)
    (hk : wpList Tryz.prog ops Q rest (a.put op.dst (.agg cs)) w) : wpList Tryz.prog ops Q (op :: rest) a w := by
  refine BigFrame.wpList_want hgd fun K hK => ?_
  unfold Oper.wp execOp
  simp only [ho, hx, Instr.loadAt, Instr.sureAddr, Sem.run_bind, Sem.run_pure, Result.andThen_ok, h.load n e hu hi]
  exact hK _ _ hk

theorem cellsOf_byte : Tryz.prog.cellsOf 5 = 1 := by kernel_rfl

theorem items_eq {e : TypeId} {k : IntKind} (he : Tryz.prog.underlying e = some (.int k)) (hagg : ∀ w, (isAgg e).run Tryz.prog w = .ok false w) (d : Nat) (zs us : List Int) (xs ys : Array Value) (hx : ∀ i, i < zs.length → xs[i]? = some (.int k (zs.getD i 0))) (hy : ∀ i, i < us.length → ys[i]? = some (.int k (us.getD i 0))) (w : World) :
    ∀ is : List Nat, (∀ i ∈ is, i < zs.length ∧ i < us.length) → (Op.eqItems (d + 1) e 1 xs ys is).run Tryz.prog w = .ok (is.all fun i => zs.getD i 0 == us.getD i 0) w
  | [], _ => by simp [Op.eqItems]
  | i :: is, h => by
    have h1 := hx i (h i (by simp)).1
    have h2 := hy i (h i (by simp)).2
    have hp : (part e xs (i * 1)).run Tryz.prog w = .ok (.int k (zs.getD i 0)) w := by
      rw [Nat.mul_one]
      unfold part
      rw [Sem.run_bind, hagg w]
      simp only [Result.andThen_ok, Bool.false_eq_true, if_false, h1, Sem.run_pure]
    have hq : (part e ys (i * 1)).run Tryz.prog w = .ok (.int k (us.getD i 0)) w := by
      rw [Nat.mul_one]
      unfold part
      rw [Sem.run_bind, hagg w]
      simp only [Result.andThen_ok, Bool.false_eq_true, if_false, h2, Sem.run_pure]
    have he2 := run_equalIn_int (P := Tryz.prog) (w := w) d e k k (zs.getD i 0) (us.getD i 0) he
    have ih := items_eq he hagg d zs us xs ys hx hy w is (fun j hj => h j (by simp [hj]))
    simp only [Op.eqItems, Sem.run_bind, hp, hq, Result.andThen_ok, he2, List.all_cons]
    by_cases hb : zs.getD i 0 == us.getD i 0
    · rw [hb]
      simp only [Bool.not_true, Bool.false_eq_true, if_false, Bool.true_and]
      exact ih
    · rw [Bool.eq_false_iff.2 hb]
      simp

theorem all_same (n : Nat) (xs ys : List Int) (hx : xs.length = n) (hy : ys.length = n) : ((List.range n).all fun i => xs.getD i 0 == ys.getD i 0) = decide (xs = ys) := by
  rw [Bool.eq_iff_iff, List.all_eq_true, decide_eq_true_iff]
  constructor
  · intro h
    apply List.ext_getElem (by omega)
    intro i h1 h2
    have := h i (by simpa [hx] using h1)
    simpa [List.getD, h1, h2] using this
  · rintro rfl i _
    simp

theorem arr_eq {t : TypeId} (ht : Tryz.prog.underlying t = some (.array 32 5)) (xs ys : List Int) (hx : xs.length = 32) (hy : ys.length = 32) (w : World) : (Op.equalIn 10000 t (.agg (B xs)) (.agg (B ys))).run Tryz.prog w = .ok (decide (xs = ys)) w := by
  obtain ⟨i, hi⟩ : ∃ i, Tryz.prog.info? 5 = some i := ⟨_, rfl⟩
  rw [show (10000 : Nat) = 9998 + 1 + 1 from rfl, run_equalIn_array (P := Tryz.prog) w (9998 + 1) (B xs) (B ys) ht hi, cellsOf_byte,
    items_eq u_byte Tryz.isAgg5 9998 xs ys (B xs) (B ys) (fun i hi => B_get xs i hi) (fun i hi => B_get ys i hi) w _ (fun i hi => by rw [hx, hy]; simpa using hi), all_same 32 xs ys hx hy]

theorem hash_eq (xs ys : List Int) (hx : xs.length = 32) (hy : ys.length = 32) (w : World) : (Op.equalIn 10000 25 (.agg (B xs)) (.agg (B ys))).run Tryz.prog w = .ok (decide (xs = ys)) w := arr_eq Tryz.underlying25 xs ys hx hy w

theorem path_eq (xs ys : List Int) (hx : xs.length = 32) (hy : ys.length = 32) (w : World) : (Op.equalIn 10000 24 (.agg (B xs)) (.agg (B ys))).run Tryz.prog w = .ok (decide (xs = ys)) w := arr_eq Tryz.underlying24 xs ys hx hy w

theorem b32_eq (xs ys : List Int) (hx : xs.length = 32) (hy : ys.length = 32) (w : World) : (Op.equalIn 10000 23 (.agg (B xs)) (.agg (B ys))).run Tryz.prog w = .ok (decide (xs = ys)) w := arr_eq Tryz.underlying23 xs ys hx hy w

end Go.Proofs.YtpihigcnoifcfaaGreatDoor

/- Looks at the operation that comes next, and nothing else: so that a law is tried there alone (under 'with_reducible'). -/
namespace Go.Proofs.YtpihigcnoifcfaaGreatDoor
set_option maxRecDepth 20000
open Go.RowKit

theorem at_ld {P : Program} {ops : Array Oper} {Q : Exit → Act → World → Prop} {rest : List Oper} {a : Act} {w : World} {dst : Option Tmp} {ty t : TypeId} {p : String} {f : Array Edge} {g : Option (Nat × Bool)} (s : Nat)
    (h : wpList P ops Q (Oper.mk dst (.load ty (.tmp s)) t p f g :: rest) a w) : wpList P ops Q (Oper.mk dst (.load ty (.tmp s)) t p f g :: rest) a w := h

theorem at_ldd {P : Program} {ops : Array Oper} {Q : Exit → Act → World → Prop} {rest : List Oper} {a : Act} {w : World} {ty t : TypeId} {p : String} {f : Array Edge} {g : Option (Nat × Bool)} (k s : Nat)
    (h : wpList P ops Q (Oper.mk (some k) (.load ty (.tmp s)) t p f g :: rest) a w) : wpList P ops Q (Oper.mk (some k) (.load ty (.tmp s)) t p f g :: rest) a w := h

theorem at_st {P : Program} {ops : Array Oper} {Q : Exit → Act → World → Prop} {rest : List Oper} {a : Act} {w : World} {dst : Option Tmp} {ty t : TypeId} {p : String} {f : Array Edge} {g : Option (Nat × Bool)} {y : Operand} (s : Nat)
    (h : wpList P ops Q (Oper.mk dst (.store ty (.tmp s) y) t p f g :: rest) a w) : wpList P ops Q (Oper.mk dst (.store ty (.tmp s) y) t p f g :: rest) a w := h

theorem at_al {P : Program} {ops : Array Oper} {Q : Exit → Act → World → Prop} {rest : List Oper} {a : Act} {w : World} {dst : Option Tmp} {ty t : TypeId} {p : String} {f : Array Edge} {g : Option (Nat × Bool)} 
    (h : wpList P ops Q (Oper.mk dst (.alloc ty) t p f g :: rest) a w) : wpList P ops Q (Oper.mk dst (.alloc ty) t p f g :: rest) a w := h

theorem at_bx {P : Program} {ops : Array Oper} {Q : Exit → Act → World → Prop} {rest : List Oper} {a : Act} {w : World} {dst : Option Tmp} {ty t : TypeId} {p : String} {f : Array Edge} {g : Option (Nat × Bool)} {x : Operand}
    (h : wpList P ops Q (Oper.mk dst (.box ty x) t p f g :: rest) a w) : wpList P ops Q (Oper.mk dst (.box ty x) t p f g :: rest) a w := h

theorem at_bd {P : Program} {ops : Array Oper} {Q : Exit → Act → World → Prop} {rest : List Oper} {a : Act} {w : World} {dst : Option Tmp} {ty t : TypeId} {p : String} {f : Array Edge} {g : Option (Nat × Bool)} {x : Array (Nat × Operand)}
    (h : wpList P ops Q (Oper.mk dst (.build ty x) t p f g :: rest) a w) : wpList P ops Q (Oper.mk dst (.build ty x) t p f g :: rest) a w := h

theorem at_ald {P : Program} {ops : Array Oper} {Q : Exit → Act → World → Prop} {rest : List Oper} {a : Act} {w : World} {ty t : TypeId} {p : String} {f : Array Edge} {g : Option (Nat × Bool)} (k : Nat)
    (h : wpList P ops Q (Oper.mk (some k) (.alloc ty) t p f g :: rest) a w) : wpList P ops Q (Oper.mk (some k) (.alloc ty) t p f g :: rest) a w := h

theorem at_bxd {P : Program} {ops : Array Oper} {Q : Exit → Act → World → Prop} {rest : List Oper} {a : Act} {w : World} {ty t : TypeId} {p : String} {f : Array Edge} {g : Option (Nat × Bool)} {x : Operand} (k : Nat)
    (h : wpList P ops Q (Oper.mk (some k) (.box ty x) t p f g :: rest) a w) : wpList P ops Q (Oper.mk (some k) (.box ty x) t p f g :: rest) a w := h

theorem at_cd {P : Program} {ops : Array Oper} {Q : Exit → Act → World → Prop} {rest : List Oper} {a : Act} {w : World} {t : TypeId} {p : String} {f : Array Edge} {g : Option (Nat × Bool)} {c : Call} (k : Nat)
    (h : wpList P ops Q (Oper.mk (some k) (.call c) t p f g :: rest) a w) : wpList P ops Q (Oper.mk (some k) (.call c) t p f g :: rest) a w := h

theorem at_bdd {P : Program} {ops : Array Oper} {Q : Exit → Act → World → Prop} {rest : List Oper} {a : Act} {w : World} {ty t : TypeId} {p : String} {f : Array Edge} {g : Option (Nat × Bool)} {x : Array (Nat × Operand)} (k : Nat)
    (h : wpList P ops Q (Oper.mk (some k) (.build ty x) t p f g :: rest) a w) : wpList P ops Q (Oper.mk (some k) (.build ty x) t p f g :: rest) a w := h

end Go.Proofs.YtpihigcnoifcfaaGreatDoor
