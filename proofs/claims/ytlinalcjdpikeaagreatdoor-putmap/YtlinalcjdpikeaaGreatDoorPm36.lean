/- rootcellarkit.LentPairs and KeptPairs, as contracts. -/
import Derived.Test.YtlinalcjdpikeaaGreatDoorPm33
import Derived.Test.YtlinalcjdpikeaaGreatDoorPm35
import Derived.Test.YtlinalcjdpikeaaGreatDoorPm15
import Derived.Test.YtlinalcjdpikeaaGreatDoorPm20
import Derived.Test.YtlinalcjdpikeaaGreatDoorPm19
namespace Go.Proofs.YtlinalcjdpikeaaGreatDoor
set_option maxRecDepth 20000
open Go.RowKit

theorem setCells_other {g k : Nat} (hne : k ≠ g) : ∀ (vs : List Value) (o : Nat) (w : World), (w.setCells g o vs).heap[k]? = w.heap[k]?
  | [], _, _ => rfl
  | v :: r, o, w => by
    rw [World.setCells, setCells_other hne r (o + 1), heap_setCell_other w ⟨g, o, none⟩ k v (fun e => hne e)]

/-- A value that was lent. -/
def lvP (es : List Ent) (G : Nat → Nat) (i : Nat) : Value := .slice (some ⟨G i, 0, none⟩) (es.getD i e00).2.length ((es.getD i e00).2.length + 5)

/-- k of the entries lent, in a row with room for two more, which are nought. -/
structure LentP (w : World) (g k : Nat) (G : Nat → Nat) (es : List Ent) : Prop where
  pair : ∀ i, i < k → w.rangeAt g (i * 33) (encP (es.getD i e00).1 (lvP es G i))
  row : ∀ i, i < k → Row w (G i) ((es.getD i e00).2 ++ marks (es.getD i e00).2.length)
  spare : ∀ j, j < 2 → w.rangeAt g ((es.length + j) * 33) (encP z32 (.slice none 0 0))

theorem LentP.grow {w w' : World} {g k : Nat} {G : Nat → Nat} {es : List Ent} (h : LentP w g k G es) (hb : Below w.heap.size w w') : LentP w' g k G es :=
  ⟨fun i hi => rng_grow (h.pair i hi) hb, fun i hi => (h.row i hi).of_block (hb.block _ (h.row i hi).lt), fun j hj => rng_grow (h.spare j hj) hb⟩
theorem LentP.kp {w : World} {g k : Nat} {G : Nat → Nat} {es : List Ent} (h : LentP w g k G es) : Kp w (fun w' => LentP w' g k G es) := fun _ q => h.grow q

theorem lent_reads {w : World} {g : Nat} {zs : List Int} (h : Row w g (zs ++ marks zs.length)) (hb : Bytes zs) : Reads w (.slice (some ⟨g, 0, none⟩) zs.length (zs.length + 5)) zs := by
  refine ⟨_, _, rfl, by omega, (fun e => by cases e), hb, fun _ => ⟨g, 0, rfl, fun i hi => ?_⟩⟩
  rw [Nat.zero_add, h.cell i (by simp; omega)]
  simp [List.getD, hi, List.getElem?_append_left hi]

theorem LentP.prAt {w : World} {g : Nat} {G : Nat → Nat} {es : List Ent} (h : LentP w g es.length G es) (hk : ∀ i, i < es.length → Key (es.getD i e00).1) (hb : ∀ i, i < es.length → Bytes (es.getD i e00).2) : PrAt w (.slice (some ⟨g, 0, none⟩) es.length (es.length + 2)) (lvP es G) es := by
  refine ⟨_, _, rfl, by omega, fun _ => ⟨g, 0, rfl, fun i hi => by rw [Nat.zero_add]; exact h.pair i hi⟩, fun i hi => ⟨hk i hi, ?_⟩⟩
  exact lent_reads (h.row i hi) (hb i hi)

def prPlaces : Nat → Option (Nat × Nat) := fun i => (#[(0, 32), (32, 1)] : Array (Nat × Nat))[i]?

theorem builtP_eq (ps : List (Nat × Value)) : Tryz.prog.built 59 ps = Instr.fill prPlaces (encP z32 (.slice none 0 0)).toArray ps := by kernel_rfl

theorem built_pair (k : List Int) (a : Option Addr) (l c : Nat) (hk : k.length = 32) : Tryz.prog.built 59 [(0, .agg (B k)), (1, .slice a l c)] = some (encP k (.slice a l c)).toArray := by
  rw [builtP_eq, fill_one prPlaces 0 0 32 _ (k.map (Value.int .u8)) _ _ rfl (cells_b k) (by simp [hk]) (by simp [encP, z32]), fill_one prPlaces 1 32 1 _ [.slice a l c] _ _ rfl rfl rfl (by simp [encP, z32, hk]), Instr.fill]
  congr 2
  simp [encP, z32, hk]

/-- make([]api.Pair, n, n + 2). -/
theorem wpList_mkp {ops : Array Oper} {rest : List Oper} {o : Oper} {a : Act} {Q : Exit → Act → World → Prop} (w : World) (hgd : o.guard = none) (x y : Operand)
    (hop : o.op = Op.makeSlice 52 x y) (n : Nat) (hx : a.eval x = .int .i64 n) (hy : a.eval y = .int .i64 ((n : Int) + 2)) (hn : (n + 2) * 56 ≤ 281474976710656)
    (h : ∀ w' g, w.heap.size ≤ g → g < w'.heap.size → (∀ i, i < n + 2 → w'.rangeAt g (i * 33) (encP z32 (.slice none 0 0)) ∧ w'.there g (i * 33) 33) → Below w.heap.size w w' → wpList Tryz.prog ops Q rest (a.put o.dst (.slice (some ⟨g, 0, none⟩) n (n + 2))) w') :
    wpList Tryz.prog ops Q (o :: rest) a w := by
  refine wpList_plain hgd fun K hK => ?_
  obtain ⟨i, z, hi, hz, hzc, hs, hby⟩ : ∃ i z, Tryz.prog.info? 59 = some i ∧ i.zero = some z ∧ z.cells = (encP z32 (.slice none 0 0)).toArray ∧ i.size = 33 ∧ i.bytes = 56 := ⟨_, _, rfl, rfl, rfl, rfl, rfl⟩
  have hr := run_make (P := Tryz.prog) w 52 59 i z Tryz.underlying52 hi hz .i64 .i64 n ((n : Int) + 2) (by omega) (by omega) (by rw [hby]; omega) (by omega)
  rw [hs, hzc] at hr
  have e1 : ((n : Int) + 2).toNat = n + 2 := by omega
  simp only [Int.toNat_natCast, e1] at hr
  have hsz := size_madeCells (encP z32 (.slice none 0 0)).toArray ((n + 2) * 33)
  have hB : Blk (w.alloc (.cells (madeCells (encP z32 (.slice none 0 0)).toArray ((n + 2) * 33)) 59)) w.heap.size 59 _ := Blk.new w _ _
  unfold Oper.wp
  simp [execOp, hop, hx, hy, hr, Result.andThen]
  refine hK _ _ (h _ w.heap.size (Nat.le_refl _) (by simp) (fun j hj => ⟨fun q v hv => ?_, hB.there _ _ (by rw [hsz]; omega)⟩) (grow_alloc w _))
  have hq : q < 33 := by have := (List.getElem?_eq_some_iff.1 hv).1; rwa [encP_length _ _ rfl] at this
  rw [hB.cell]
  have e2 : (encP z32 (.slice none 0 0)).toArray.size = 33 := by rw [List.size_toArray]; exact encP_length _ _ rfl
  unfold madeCells
  rw [Array.getElem?_map, Array.getElem?_range, if_pos (by omega), e2]
  simp only [Option.map_some]
  rw [show (j * 33 + q) % 33 = q by omega]
  rw [getElem!_pos _ q (by rw [e2]; exact hq)]
  obtain ⟨h1, h2⟩ := List.getElem?_eq_some_iff.1 hv
  rw [← h2]
  simp

def LentPost (es : List Ent) (w : World) (e : Ending) (w' : World) : Prop := ∃ g G, e = .returned (.slice (some ⟨g, 0, none⟩) es.length (es.length + 2)) ∧ w.heap.size ≤ g ∧ LentP w' g es.length G es ∧ Below w.heap.size w w'

end Go.Proofs.YtlinalcjdpikeaaGreatDoor

/- The document's Check, Encode, Digest of nodes, as contracts. -/
namespace Go.Proofs.YtlinalcjdpikeaaGreatDoor
set_option maxRecDepth 20000
open Go.RowKit

theorem wpList_ldmg {ops : Array Oper} {rest : List Oper} {op : Oper} {a : Act} {Q : Exit → Act → World → Prop} (w : World) (hgd : Region.wanted op (yielded ops a.tmps) = true) (x : Operand) (ty : TypeId) (ho : op.op = .load ty x)
    (g o : Nat) (t : TypeId) (zs xs : List Int) (hx : a.eval x = .pointer (some ⟨g, o, none⟩)) (h : Blk w g t (B zs)) (hs : Seg zs o xs) (n : Nat) (e : TypeId) (hu : Tryz.prog.underlying ty = some (.array n e)) (hi : (Tryz.prog.info? ty).map (·.size) = some xs.length)
    (hk : wpList Tryz.prog ops Q rest (a.put op.dst (.agg (B xs))) w) : wpList Tryz.prog ops Q (op :: rest) a w :=
  BigFrame.wpList_want hgd fun _ hK => wp_load_mid ty x ho g o hx (xs.map (Value.int .u8)) _ (hs.range h) hu rfl (by rw [hi]; simp) (hK _ _ hk)

theorem wpList_bldg {ops : Array Oper} {rest : List Oper} {op : Oper} {a : Act} {Q : Exit → Act → World → Prop} (w : World) (hgd : Region.wanted op (yielded ops a.tmps) = true) (ty : TypeId) (parts : Array (Nat × Operand)) (ho : op.op = .build ty parts)
    (cs : Array Value) (h : Tryz.prog.built ty (parts.map fun (i, x) => (i, a.eval x)).toList = some cs)
    (hk : wpList Tryz.prog ops Q rest (a.put op.dst (.agg cs)) w) : wpList Tryz.prog ops Q (op :: rest) a w := by
  refine BigFrame.wpList_want hgd fun K hK => ?_
  unfold Oper.wp execOp
  simp only [ho, Sem.run_bind, run_build w ty _ cs h, Result.andThen_ok, Sem.run_pure]
  exact hK _ _ hk

theorem built_path : Tryz.prog.built 31 [] = some (B z32) := by kernel_rfl

end Go.Proofs.YtlinalcjdpikeaaGreatDoor

/- rootcellarkit.KeptPairs and the law's few, as contracts. -/
namespace Go.Proofs.YtlinalcjdpikeaaGreatDoor
set_option maxRecDepth 20000
open Go.RowKit

/-- cap of a slice of entries. -/
theorem wpList_capP {ops : Array Oper} {rest : List Oper} {o : Oper} {a : Act} {Q : Exit → Act → World → Prop} (w : World) (hgd : o.guard = none) (x : Operand)
    (hop : o.op = .call { callee := .builtin .cap, args := #[x], argTypes := #[52] }) (b : Option Addr) (n c : Nat) (hx : a.eval x = .slice b n c)
    (h : wpList Tryz.prog ops Q rest (a.put o.dst (.int .i64 c)) w) : wpList Tryz.prog ops Q (o :: rest) a w := by
  refine wpList_plain hgd fun K hK => ?_
  have hr := run_cap_slice (P := Tryz.prog) w 52 o.type b n c (by kernel_rfl)
  unfold Oper.wp execOp
  simp only [hop, resolve, invoke, builtin, Sem.run_bind, Sem.run_pure, Result.andThen_ok, List.map_toArray, List.map_cons, List.map_nil, hx, hr]
  exact hK _ _ h

end Go.Proofs.YtlinalcjdpikeaaGreatDoor
