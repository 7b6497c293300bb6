/- Cells of a block that is known whole are there. -/
import Derived.Test.YtdpaanidangnlaaDoorWn01
import Derived.Test.YtdpaanidangnlaaDoorWn11
import Derived.Test.YtdpaanidangnlaaDoorWn42
import Derived.Test.YtdpaanidangnlaaDoorWn40
namespace Go.Proofs.YtdpaanidangnlaaDoor
set_option maxRecDepth 20000
open Go.RowKit

theorem Blk.there {w : World} {g : Nat} {t : TypeId} {cs : Array Value} (h : Blk w g t cs) (o n : Nat) (hn : o + n ≤ cs.size) : w.there g o n := fun j hj => ⟨by rw [h.cell, Array.getElem?_eq_getElem (by omega)]; rfl, h.frozen _⟩

end Go.Proofs.YtdpaanidangnlaaDoor

/- The way down, step by step, and what a way tells; laws for a proof in a block. -/
namespace Go.Proofs.YtdpaanidangnlaaDoor
set_option maxRecDepth 20000
open Go.RowKit

/-- The end of a way. -/
def endN : List Ent → List Int
  | [e] => nd 1 e.1 (vaD e.2) z32 z32
  | _ => nd 0 z32 z32 z32 z32

/-- On the way down: the entries that are left, the sides so far. -/
structure WaySt (es : List Ent) (key : List Int) (d : Nat) (ed : List Ent) (hs : List (List Int)) : Prop where
  hd : d ≤ 256
  keys : ∀ e ∈ ed, Key e.1
  sides : hs ++ sds (256 - d) d ed key = sds 256 0 es key
  rest : rst (256 - d) d ed key = rst 256 0 es key
  len : hs.length = d
  dgs : Dgs hs
  sub : ∀ e ∈ ed, e ∈ es

theorem rt_len (n d : Nat) (es : List Ent) : (rt n d es).length = 32 ∧ Bytes (rt n d es) := by
  match n, es with
  | _, [] => rw [rt_nil]; exact ⟨dig_length _, dig_bytes _⟩
  | _, [x] => rw [rt_one]; exact ⟨dig_length _, dig_bytes _⟩
  | 0, _ :: _ :: _ => exact ⟨dig_length _, dig_bytes _⟩
  | n + 1, a :: b :: l => rw [rt_more n d _ (by simp)]; exact ⟨dig_length _, dig_bytes _⟩

theorem WaySt.start {es : List Ent} (key : List Int) (h : ∀ e ∈ es, Key e.1) : WaySt es key 0 es [] := ⟨by omega, h, rfl, rfl, rfl, fun x hx => by simp at hx, fun _ h => h⟩
theorem WaySt.step {es ed : List Ent} {key : List Int} {d : Nat} {hs : List (List Int)} (h : WaySt es key d ed hs) (hl : 1 < ed.length) (hd : d < 256) :
    WaySt es key (d + 1) (sideOf ed d (kb key d)) (hs ++ [rt (255 - d) (d + 1) (sideOf ed d (1 - kb key d))]) := by
  have e : 256 - d = (255 - d) + 1 := by omega
  have e2 : 256 - (d + 1) = 255 - d := by omega
  have h1 := h.sides
  have h2 := h.rest
  rw [e, sds, if_neg (by omega)] at h1
  rw [e, rst, if_neg (by omega)] at h2
  refine ⟨by omega, fun x hx => h.keys x (List.mem_filter.1 hx).1, ?_, ?_, by rw [List.length_append, h.len]; rfl, h.dgs.snoc (rt_len _ _ _).1 (rt_len _ _ _).2, fun x hx => h.sub x (List.mem_filter.1 hx).1⟩
  · rw [e2, List.append_assoc]
    exact h1
  · rw [e2]
    exact h2
theorem WaySt.done {es ed : List Ent} {key : List Int} {d : Nat} {hs : List (List Int)} (h : WaySt es key d ed hs) (hl : ed.length ≤ 1) : hs = sds 256 0 es key ∧ rst 256 0 es key = ed := by
  have h1 := h.sides
  have h2 := h.rest
  match hn : 256 - d with
  | 0 =>
    have e1 : sds 0 d ed key = [] := by simp [sds]
    have e2 : rst 0 d ed key = ed := by simp [rst]
    rw [hn, e1, List.append_nil] at h1
    rw [hn, e2] at h2
    exact ⟨h1, h2.symm⟩
  | k + 1 =>
    rw [hn, sds, if_pos hl, List.append_nil] at h1
    rw [hn, rst, if_pos hl] at h2
    exact ⟨h1, h2.symm⟩

theorem sdL_perm {ls : List Lf} {ed : List Ent} {d : Nat} (hd : d < 256) (hk : ∀ e ∈ ed, Key e.1) (h : ls.Perm (ed.map mkLf)) (c : Int) : (sdL ls d c).Perm ((sideOf ed d c).map mkLf) := by
  rw [← side_map ed d c hd hk]
  exact h.filter _

theorem sds_dgs : ∀ (n d : Nat) (l : List Ent) (key : List Int), Dgs (sds n d l key)
  | 0, _, _, _ => fun x hx => by simp [sds] at hx
  | n + 1, d, l, key => by
    intro x hx
    unfold sds at hx
    split at hx
    · simp at hx
    · rcases List.mem_cons.1 hx with rfl | hx
      · exact rt_len _ _ _
      · exact sds_dgs n (d + 1) _ key x hx

theorem Blk.keptO {w w' : World} {g : Nat} {t : TypeId} {cs : Array Value} {row : Option Nat} (h : Blk w g t cs) (hg : w.grownBy w' row) (hne : some g ≠ row) : Blk w' g t cs := h.of_block (hg.block g h.lt hne)
theorem own_ne {w : World} {base : Nat} {v : Value} {n : Nat} {xs : List Value} {g : Nat} {cs : Array Value} (h : w.ownsRow base 39 32 v n xs) (hb : Blk w g 43 cs) : some g ≠ v.ownBlock := by
  rcases h.2 with ⟨rfl, _⟩ | ⟨g', cap, cur, rfl, _, hg, _⟩
  · simp [Value.ownBlock]
  · intro e
    obtain rfl : g = g' := by simpa [Value.ownBlock] using e
    have hb' : w.heap[g]? = some (.cells cs 43 (0, 0)) := hb
    rw [hb'] at hg
    injection hg with hg
    injection hg with _ ht
    exact absurd ht (by decide)
theorem own_base {w : World} {base base' : Nat} {v : Value} {n : Nat} {xs : List Value} (h : w.ownsRow base 39 32 v n xs) (hb : base' ≤ base) : w.ownsRow base' 39 32 v n xs := by
  refine ⟨h.1, h.2.imp id ?_⟩
  rintro ⟨g, cap, cur, e1, e2, e3⟩
  exact ⟨g, cap, cur, e1, Nat.le_trans hb e2, e3⟩
theorem own_slice {w : World} {base : Nat} {v : Value} {n : Nat} {xs : List Value} (h : w.ownsRow base 39 32 v n xs) : ∃ a c, v = .slice a n c := by
  rcases h.2 with ⟨e, e2⟩ | ⟨g', cap', cur, e, _⟩
  · exact ⟨none, 0, by rw [e, e2]⟩
  · exact ⟨_, _, e⟩

theorem rep_nd : List.replicate 129 (0 : Int) = nd 0 z32 z32 z32 z32 := by rfl

/-- store of a part of a block. -/
theorem wpList_stm {ops : Array Oper} {rest : List Oper} {op : Oper} {a : Act} {Q : Exit → Act → World → Prop} (w : World) (hgd : op.guard = none) (ty : TypeId) (x y : Operand) (ho : op.op = .store ty x y)
    (b off : Nat) (cells : Array Value) (hx : a.eval x = .pointer (some ⟨b, off, none⟩)) (hy : a.eval y = .agg cells) (ht : w.there b off cells.size) (hi : (Tryd.prog.info? ty).map (·.size) = some cells.size) (h1 : cells.all (·.oneCell') = true)
    (h : wpList Tryd.prog ops Q rest (a.put op.dst undef) (w.setCells b off cells.toList)) : wpList Tryd.prog ops Q (op :: rest) a w :=
  wpList_plain hgd fun _ hK => wp_store_mid ty x y ho b off cells hx hy ht hi h1 (hK _ _ h)

/-- What Way tells. -/
def wyH (es : List Ent) (key : List Int) : List (List Int) := if errB es = 0 then sds 256 0 es key else []
def wyN (es : List Ent) (key : List Int) : List Int := if errB es = 0 then endN (rst 256 0 es key) else nd 0 z32 z32 z32 z32
def WayPost (es : List Ent) (key : List Int) (w : World) (e : Ending) (w' : World) : Prop :=
  ∃ sa sc, e = .returned (.tuple #[.agg (encR (.slice sa (wyH es key).length sc) (wyN es key)).toArray, .int .i64 (errB es)]) ∧ w'.ownsRow w.heap.size 39 32 (.slice sa (wyH es key).length sc) (wyH es key).length (flatH (wyH es key)) ∧ Below w.heap.size w w'

end Go.Proofs.YtdpaanidangnlaaDoor
