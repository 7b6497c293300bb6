/- The document's side of entries, told with where it lies; entries in a list that is kept apart from some blocks. -/
import Derived.Test.YtpihigcnoifcfaaGreatDoorVw28
import Derived.Test.YtpihigcnoifcfaaGreatDoorVw35
import Derived.Test.YtpihigcnoifcfaaGreatDoorVw27
import Derived.Test.YtpihigcnoifcfaaGreatDoorVw20
import Derived.Test.YtpihigcnoifcfaaGreatDoorVw12
import Derived.Test.YtpihigcnoifcfaaGreatDoorVw06
namespace Go.Proofs.YtpihigcnoifcfaaGreatDoor
set_option maxRecDepth 20000
open Go.RowKit

def SideOwn (w0 : World) (es : List Ent) (d : Nat) (b : Int) (w : World) (e : Ending) (w' : World) : Prop :=
  ∃ v its, e = .returned v ∧ its.map (·.1) = sideOf es d b ∧ (∀ p ∈ its, Key p.1.1 ∧ Reads w0 p.2 p.1.2) ∧ w'.ownsRow w.heap.size 45 33 v its.length (flatP its) ∧ Below w.heap.size w w'


/-- Entries whose list lies in a block of which R holds; their values were there in w0. -/
def PrO (w0 w : World) (R : Nat → Prop) (v : Value) (its : List (Ent × Value)) : Prop :=
  (∀ p ∈ its, Key p.1.1 ∧ Reads w0 p.2 p.1.2) ∧ ∃ a cap, v = .slice a its.length cap ∧ its.length ≤ cap ∧
    (0 < its.length → ∃ g off, a = some ⟨g, off, none⟩ ∧ R g ∧ g < w.heap.size ∧ ∀ i, i < its.length → w.rangeAt g (off + i * 33) (encP (its.getD i (e00, undef)).1.1 (its.getD i (e00, undef)).2))

theorem PrO.kept {w0 w w' : World} {R : Nat → Prop} {v : Value} {its : List (Ent × Value)} {row : Option Nat} (h : PrO w0 w R v its) (hg : w.grownBy w' row) (hR : ∀ g, R g → some g ≠ row) : PrO w0 w' R v its := by
  obtain ⟨h1, a, cap, e, h2, h3⟩ := h
  refine ⟨h1, a, cap, e, h2, fun hp => ?_⟩
  obtain ⟨g, off, ea, hr, hlt, hc⟩ := h3 hp
  exact ⟨g, off, ea, hr, Nat.lt_of_lt_of_le hlt hg.size, fun i hi j u hu => hg.cell (a := ⟨g, off + i * 33 + j, none⟩) (hc i hi j u hu) (hR g hr)⟩
theorem PrO.grow {w0 w w' : World} {R : Nat → Prop} {v : Value} {its : List (Ent × Value)} (h : PrO w0 w R v its) (hb : Below w.heap.size w w') : PrO w0 w' R v its := by
  obtain ⟨h1, a, cap, e, h2, h3⟩ := h
  refine ⟨h1, a, cap, e, h2, fun hp => ?_⟩
  obtain ⟨g, off, ea, hr, hlt, hc⟩ := h3 hp
  exact ⟨g, off, ea, hr, Nat.lt_of_lt_of_le hlt hb.size, fun i hi => rng_grow (hc i hi) hb⟩
theorem PrO.imp {w0 w : World} {R R' : Nat → Prop} {v : Value} {its : List (Ent × Value)} (h : PrO w0 w R v its) (hR : ∀ g, g < w.heap.size → R g → R' g) : PrO w0 w R' v its := by
  obtain ⟨h1, a, cap, e, h2, h3⟩ := h
  refine ⟨h1, a, cap, e, h2, fun hp => ?_⟩
  obtain ⟨g, off, ea, hr, hlt, hc⟩ := h3 hp
  exact ⟨g, off, ea, hR g hlt hr, hlt, hc⟩
theorem getD_fst (its : List (Ent × Value)) (i : Nat) (hi : i < its.length) : (its.map (·.1)).getD i e00 = its[i].1 ∧ its.getD i (e00, undef) = its[i] := ⟨by simp [List.getD, hi], by simp [List.getD, hi]⟩
theorem PrO.at {w0 w : World} {R : Nat → Prop} {v : Value} {its : List (Ent × Value)} (h : PrO w0 w R v its) (hb : Below w0.heap.size w0 w) : PrAt w v (fun i => (its.getD i (e00, undef)).2) (its.map (·.1)) ∧ ∀ i, i < (its.map (·.1)).length → Reads w0 (its.getD i (e00, undef)).2 ((its.map (·.1)).getD i e00).2 := by
  obtain ⟨h1, a, cap, e, h2, h3⟩ := h
  have hk : ∀ i, i < (its.map (·.1)).length → Key ((its.map (·.1)).getD i e00).1 ∧ Reads w0 (its.getD i (e00, undef)).2 ((its.map (·.1)).getD i e00).2 := by
    intro i hi
    rw [List.length_map] at hi
    obtain ⟨e1, e2⟩ := getD_fst its i hi
    rw [e1, e2]
    exact h1 _ (List.getElem_mem hi)
  refine ⟨⟨a, cap, by rw [List.length_map]; exact e, by rw [List.length_map]; exact h2, fun hp => ?_, fun i hi => ⟨(hk i hi).1, (hk i hi).2.grow hb⟩⟩, fun i hi => (hk i hi).2⟩
  rw [List.length_map] at hp ⊢
  obtain ⟨g, off, ea, _, _, hc⟩ := h3 hp
  refine ⟨g, off, ea, fun i hi => ?_⟩
  obtain ⟨e1, e2⟩ := getD_fst its i hi
  have := hc i hi
  rw [e2] at this
  rw [e1]
  simp only [e2]
  exact this
/-- Entries that came in. -/
theorem PrO.of {w : World} {v : Value} {V : Nat → Value} {es : List Ent} (h : PrAt w v V es) : ∃ its, its.map (·.1) = es ∧ PrO w w (fun _ => True) v its := by
  have hk := h
  obtain ⟨a, cap, e, h1, h2, h3⟩ := h
  refine ⟨(List.range es.length).map fun i => (es.getD i e00, V i), ?_, ?_⟩
  · apply List.ext_getElem (by simp)
    intro i q1 q2
    simp [List.getD, q2]
  · refine ⟨fun p hp => ?_, a, cap, by simpa using e, by simpa using h1, fun hp => ?_⟩
    · obtain ⟨i, hi, rfl⟩ := List.mem_map.1 hp
      exact h3 i (List.mem_range.1 hi)
    · have hp' : 0 < es.length := by simpa using hp
      obtain ⟨g, off, ea, hc⟩ := h2 hp'
      refine ⟨g, off, ea, trivial, ?_, fun i hi => ?_⟩
      · have := hc 0 hp' 32 (V 0) (by unfold encP; rw [List.getElem?_append_right (by rw [List.length_map, (h3 0 hp').1.1]; exact Nat.le_refl _), List.length_map, (h3 0 hp').1.1]; rfl)
        exact block_lt_of_cell this
      · have hi' : i < es.length := by simpa using hi
        have := hc i hi'
        simpa [List.getD, hi'] using this
/-- Entries of the call's own. -/
theorem PrO.own {w0 w : World} {base : Nat} {v : Value} {its : List (Ent × Value)} (h : w.ownsRow base 45 33 v its.length (flatP its)) (hk : ∀ p ∈ its, Key p.1.1 ∧ Reads w0 p.2 p.1.2) : PrO w0 w (fun g => base ≤ g) v its := by
  rcases h.2 with ⟨rfl, hn⟩ | ⟨g, cap, cur, rfl, hb, hg, hcap, _, hsz, htake⟩
  · exact ⟨hk, none, 0, by rw [hn], by omega, fun hp => by omega⟩
  · refine ⟨hk, _, cap, rfl, hcap, fun _ => ⟨g, 0, rfl, hb, (Array.getElem?_eq_some_iff.1 hg).1, fun i hi j u hu => ?_⟩⟩
    obtain ⟨e1, e2⟩ := getD_fst its i hi
    rw [e2] at hu
    have h1 := flatP_at its (fun p hp => (hk p hp).1.1) i hi j u hu
    rw [← htake] at h1
    have h2 : (cur.toList)[i * 33 + j]? = some u := by
      rw [List.getElem?_take] at h1
      split at h1
      · exact h1
      · cases h1
    rw [cell_of_row w g _ cur _ _ hg, Nat.zero_add]
    simpa using h2

end Go.Proofs.YtpihigcnoifcfaaGreatDoor

/- The document's Way, as a contract. -/
namespace Go.Proofs.YtpihigcnoifcfaaGreatDoor
set_option maxRecDepth 20000
open Go.RowKit

end Go.Proofs.YtpihigcnoifcfaaGreatDoor

/- rootcellarkit.LentPairs and KeptPairs, as contracts. -/
namespace Go.Proofs.YtpihigcnoifcfaaGreatDoor
set_option maxRecDepth 20000
open Go.RowKit

theorem setCells_other {g k : Nat} (hne : k ≠ g) : ∀ (vs : List Value) (o : Nat) (w : World), (w.setCells g o vs).heap[k]? = w.heap[k]?
  | [], _, _ => rfl
  | v :: r, o, w => by
    rw [World.setCells, setCells_other hne r (o + 1), heap_setCell_other w ⟨g, o, none⟩ k v (fun e => hne e)]

/-- A value that was lent. -/
def lvP (es : List Ent) (G : Nat → Nat) (i : Nat) : Value := .slice (some ⟨G i, 0, none⟩) (es.getD i e00).2.length ((es.getD i e00).2.length + 5)

/-- k of the entries lent, in a row with room for two more, which are nought. -/
structure LentP (w : World) (g k : Nat) (G : Nat → Nat) (es : List Ent) : Prop where
  pair : ∀ i, i < k → w.rangeAt g (i * 33) (encP (es.getD i e00).1 (lvP es G i))
  row : ∀ i, i < k → Row w (G i) ((es.getD i e00).2 ++ marks (es.getD i e00).2.length)
  spare : ∀ j, j < 2 → w.rangeAt g ((es.length + j) * 33) (encP z32 (.slice none 0 0))

theorem LentP.grow {w w' : World} {g k : Nat} {G : Nat → Nat} {es : List Ent} (h : LentP w g k G es) (hb : Below w.heap.size w w') : LentP w' g k G es :=
  ⟨fun i hi => rng_grow (h.pair i hi) hb, fun i hi => (h.row i hi).of_block (hb.block _ (h.row i hi).lt), fun j hj => rng_grow (h.spare j hj) hb⟩
theorem LentP.kp {w : World} {g k : Nat} {G : Nat → Nat} {es : List Ent} (h : LentP w g k G es) : Kp w (fun w' => LentP w' g k G es) := fun _ q => h.grow q

theorem lent_reads {w : World} {g : Nat} {zs : List Int} (h : Row w g (zs ++ marks zs.length)) (hb : Bytes zs) : Reads w (.slice (some ⟨g, 0, none⟩) zs.length (zs.length + 5)) zs := by
  refine ⟨_, _, rfl, by omega, (fun e => by cases e), hb, fun _ => ⟨g, 0, rfl, fun i hi => ?_⟩⟩
  rw [Nat.zero_add, h.cell i (by simp; omega)]
  simp [List.getD, hi, List.getElem?_append_left hi]

theorem LentP.prAt {w : World} {g : Nat} {G : Nat → Nat} {es : List Ent} (h : LentP w g es.length G es) (hk : ∀ i, i < es.length → Key (es.getD i e00).1) (hb : ∀ i, i < es.length → Bytes (es.getD i e00).2) : PrAt w (.slice (some ⟨g, 0, none⟩) es.length (es.length + 2)) (lvP es G) es := by
  refine ⟨_, _, rfl, by omega, fun _ => ⟨g, 0, rfl, fun i hi => by rw [Nat.zero_add]; exact h.pair i hi⟩, fun i hi => ⟨hk i hi, ?_⟩⟩
  exact lent_reads (h.row i hi) (hb i hi)

def prPlaces : Nat → Option (Nat × Nat) := fun i => (#[(0, 32), (32, 1)] : Array (Nat × Nat))[i]?

theorem builtP_eq (ps : List (Nat × Value)) : Tryz.prog.built 45 ps = Instr.fill prPlaces (encP z32 (.slice none 0 0)).toArray ps := by kernel_rfl

theorem built_pair (k : List Int) (a : Option Addr) (l c : Nat) (hk : k.length = 32) : Tryz.prog.built 45 [(0, .agg (B k)), (1, .slice a l c)] = some (encP k (.slice a l c)).toArray := by
  rw [builtP_eq, fill_one prPlaces 0 0 32 _ (k.map (Value.int .u8)) _ _ rfl (cells_b k) (by simp [hk]) (by simp [encP, z32]), fill_one prPlaces 1 32 1 _ [.slice a l c] _ _ rfl rfl rfl (by simp [encP, z32, hk]), Instr.fill]
  congr 2
  simp [encP, z32, hk]

/-- make([]api.Pair, n, n + 2). -/
theorem wpList_mkp {ops : Array Oper} {rest : List Oper} {o : Oper} {a : Act} {Q : Exit → Act → World → Prop} (w : World) (hgd : o.guard = none) (x y : Operand)
    (hop : o.op = Op.makeSlice 22 x y) (n : Nat) (hx : a.eval x = .int .i64 n) (hy : a.eval y = .int .i64 ((n : Int) + 2)) (hn : (n + 2) * 56 ≤ 281474976710656)
    (h : ∀ w' g, w.heap.size ≤ g → g < w'.heap.size → (∀ i, i < n + 2 → w'.rangeAt g (i * 33) (encP z32 (.slice none 0 0)) ∧ w'.there g (i * 33) 33) → Below w.heap.size w w' → wpList Tryz.prog ops Q rest (a.put o.dst (.slice (some ⟨g, 0, none⟩) n (n + 2))) w') :
    wpList Tryz.prog ops Q (o :: rest) a w := by
  refine wpList_plain hgd fun K hK => ?_
  obtain ⟨i, z, hi, hz, hzc, hs, hby⟩ : ∃ i z, Tryz.prog.info? 45 = some i ∧ i.zero = some z ∧ z.cells = (encP z32 (.slice none 0 0)).toArray ∧ i.size = 33 ∧ i.bytes = 56 := ⟨_, _, rfl, rfl, rfl, rfl, rfl⟩
  have hr := run_make (P := Tryz.prog) w 22 45 i z Tryz.underlying22 hi hz .i64 .i64 n ((n : Int) + 2) (by omega) (by omega) (by rw [hby]; omega) (by omega)
  rw [hs, hzc] at hr
  have e1 : ((n : Int) + 2).toNat = n + 2 := by omega
  simp only [Int.toNat_natCast, e1] at hr
  have hsz := size_madeCells (encP z32 (.slice none 0 0)).toArray ((n + 2) * 33)
  have hB : Blk (w.alloc (.cells (madeCells (encP z32 (.slice none 0 0)).toArray ((n + 2) * 33)) 45)) w.heap.size 45 _ := Blk.new w _ _
  unfold Oper.wp
  simp [execOp, hop, hx, hy, hr, Result.andThen]
  refine hK _ _ (h _ w.heap.size (Nat.le_refl _) (by simp) (fun j hj => ⟨fun q v hv => ?_, hB.there _ _ (by rw [hsz]; omega)⟩) (grow_alloc w _))
  have hq : q < 33 := by have := (List.getElem?_eq_some_iff.1 hv).1; rwa [encP_length _ _ rfl] at this
  rw [hB.cell]
  have e2 : (encP z32 (.slice none 0 0)).toArray.size = 33 := by rw [List.size_toArray]; exact encP_length _ _ rfl
  unfold madeCells
  rw [Array.getElem?_map, Array.getElem?_range, if_pos (by omega), e2]
  simp only [Option.map_some]
  rw [show (j * 33 + q) % 33 = q by omega]
  rw [getElem!_pos _ q (by rw [e2]; exact hq)]
  obtain ⟨h1, h2⟩ := List.getElem?_eq_some_iff.1 hv
  rw [← h2]
  simp

def LentPost (es : List Ent) (w : World) (e : Ending) (w' : World) : Prop := ∃ g G, e = .returned (.slice (some ⟨g, 0, none⟩) es.length (es.length + 2)) ∧ w.heap.size ≤ g ∧ LentP w' g es.length G es ∧ Below w.heap.size w w'

end Go.Proofs.YtpihigcnoifcfaaGreatDoor
