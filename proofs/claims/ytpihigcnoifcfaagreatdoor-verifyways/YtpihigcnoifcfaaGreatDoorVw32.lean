/- ApartBytes, as a contract: lists of bytes of the call's own, no two of one block, are told to be apart, and behind the call memory is as it was. -/
import Derived.Test.YtpihigcnoifcfaaGreatDoorVw05
import Derived.Deep.RegionHeld2
import Derived.Deep.QuietTactic
import Derived.BigQuiet
import Derived.Test.YtpihigcnoifcfaaGreatDoorVw04
import Derived.Test.YtpihigcnoifcfaaGreatDoorVw30
import Derived.Test.YtpihigcnoifcfaaGreatDoorVw06
namespace Go.Proofs.YtpihigcnoifcfaaGreatDoor
set_option maxRecDepth 20000
open Go.RowKit

/-- Block g holds just these texts. -/
def SRow (w : World) (g : Nat) (ss : List ByteArray) : Prop := w.heap[g]? = some (.cells (ss.map Value.string).toArray 9 (0, 0))

theorem SRow.cell {w : World} {g : Nat} {ss : List ByteArray} (h : SRow w g ss) (i : Nat) (hi : i < ss.length) : w.cell? ⟨g, i, none⟩ = some (.string (ss.getD i ByteArray.empty)) := by
  rw [cell_of_row w g i _ _ _ h]
  simp [List.getD, hi]
theorem SRow.frozen {w : World} {g : Nat} {ss : List ByteArray} (h : SRow w g ss) (i : Nat) : w.frozen? ⟨g, i, none⟩ = false := frozen_of_row w g i _ _ h
theorem SRow.set {w : World} {g : Nat} {ss : List ByteArray} (h : SRow w g ss) (i : Nat) (s : ByteArray) : SRow (w.setCell ⟨g, i, none⟩ (.string s)) g (ss.set i s) := by
  unfold SRow
  rw [heap_setCell_same w g i _ _ _ h]
  congr 2
  apply Array.ext'
  simp [List.map_set]
theorem SRow.of_block {w w' : World} {g : Nat} {ss : List ByteArray} (h : SRow w g ss) (k : w'.heap[g]? = w.heap[g]?) : SRow w' g ss := by unfold SRow at *; rw [k]; exact h

/-- Of a slice of the call's own, its room with it. -/
theorem Own.full {b : Nat} {w : World} {a : Option Addr} {l c : Nat} {zs sp : List Int} (h : Own b w (.slice a l c) zs sp) : Reads w (.slice a c c) (zs ++ sp) ∧ c = zs.length + sp.length ∧ l = zs.length ∧ c ≤ maxLen := by
  obtain ⟨h1, h2, h3, h4⟩ := h
  rcases h4 with ⟨e, rfl, rfl⟩ | ⟨g, rest, hg, e, h5⟩
  · injection e with e1 e2 e3
    subst e1; subst e2; subst e3
    exact ⟨Reads.nil _, rfl, rfl, by simp [maxLen]⟩
  · injection e with e1 e2 e3
    subst e1; subst e2; subst e3
    refine ⟨⟨_, _, by rw [List.length_append], by simp, fun h => by simp at h, h1.append h2, fun _ => ⟨g, 0, rfl, fun i hi => ?_⟩⟩, rfl, rfl, h3⟩
    rw [Nat.zero_add, h5.cell i (by simp at hi ⊢; omega)]
    simp only [List.getD]
    rw [List.getElem?_append_left hi]

/-- The lists that are held against each other. -/
structure Lists (base gl off n : Nat) (V : Nat → Value) (Z S : Nat → List Int) (w : World) : Prop where
  cell : ∀ i, i < n → w.cell? ⟨gl, off + i, none⟩ = some (V i)
  own : ∀ i, i < n → Own base w (V i) (Z i) (S i)
  apart : ∀ i k, i < n → k < n → i ≠ k → ∀ g, (V i).ownBlock = some g → (V k).ownBlock ≠ some g
  far : ∀ i, i < n → (V i).ownBlock ≠ some gl

theorem Lists.of_block {base gl off n : Nat} {V : Nat → Value} {Z S : Nat → List Int} {w w' : World} (h : Lists base gl off n V Z S w) (hw : ∀ k, k < w.heap.size → w'.heap[k]? = w.heap[k]?) : Lists base gl off n V Z S w' where
  cell := fun i hi => by
    have := h.cell i hi
    have hlt := block_lt_of_cell this
    rw [World.cell?_of_block (w := w) (hw _ hlt)]
    exact this
  own := fun i hi => (h.own i hi).of_block fun k hk => hw k ((h.own i hi).lt k hk).2
  apart := h.apart
  far := h.far

/-- The text of list k, its room with it. -/
def txt (Z S : Nat → List Int) (k : Nat) : ByteArray := strOfNums (Z k ++ S k)

theorem txts_set (Z S : Nat → List Int) (n k : Nat) (h : k < n) : ((List.range k).map (txt Z S) ++ List.replicate (n - k) ByteArray.empty).set k (txt Z S k) = (List.range (k + 1)).map (txt Z S) ++ List.replicate (n - (k + 1)) ByteArray.empty := by
  have e : List.replicate (n - k) ByteArray.empty = ByteArray.empty :: List.replicate (n - (k + 1)) ByteArray.empty := by
    rw [show n - k = (n - (k + 1)) + 1 by omega]; rfl
  rw [e, List.set_append_right _ _ (by simp), List.range_succ]
  simp

end Go.Proofs.YtpihigcnoifcfaaGreatDoor

/- Slices of the call's own over a block of bytes of any type (a key that was boxed, too), and OverBytes over them. -/
namespace Go.Proofs.YtpihigcnoifcfaaGreatDoor
set_option maxRecDepth 20000
open Go.RowKit

theorem Blk.bput {w : World} {g : Nat} {t : TypeId} {zs : List Int} (h : Blk w g t (B zs)) (i : Nat) (z : Int) : Blk (w.setCell ⟨g, i, none⟩ (.int .u8 z)) g t (B (zs.set i z)) := by
  have := h.set i (.int .u8 z)
  rw [B_set] at this
  exact this

/-- A slice of the call's own, from block 'base' on: the bytes zs, behind them the room sp; the block is of any type. -/
def OwnT (base : Nat) (w : World) (v : Value) (zs sp : List Int) : Prop :=
  Bytes zs ∧ Bytes sp ∧ zs.length + sp.length ≤ maxLen ∧
  ((v = .slice none 0 0 ∧ zs = [] ∧ sp = []) ∨ ∃ g t rest, base ≤ g ∧ v = .slice (some ⟨g, 0, none⟩) zs.length (zs.length + sp.length) ∧ Blk w g t (B (zs ++ sp ++ rest)))

theorem Own.toT {base : Nat} {w : World} {v : Value} {zs sp : List Int} (h : Own base w v zs sp) : OwnT base w v zs sp := by
  obtain ⟨h1, h2, h3, h4⟩ := h
  refine ⟨h1, h2, h3, ?_⟩
  rcases h4 with h4 | ⟨g, rest, hg, h5, h6⟩
  · exact .inl h4
  · exact .inr ⟨g, _, rest, hg, h5, h6⟩

theorem OwnT.slice {b : Nat} {w : World} {v : Value} {zs sp : List Int} (h : OwnT b w v zs sp) : ∃ a c, v = .slice a zs.length c := by
  obtain ⟨_, _, _, h4⟩ := h
  rcases h4 with ⟨rfl, rfl, rfl⟩ | ⟨g, t, rest, hg, rfl, h5⟩
  · exact ⟨_, _, rfl⟩
  · exact ⟨_, _, rfl⟩

theorem OwnT.mono {b b' : Nat} {w : World} {v : Value} {zs sp : List Int} (h : OwnT b w v zs sp) (hb : b' ≤ b) : OwnT b' w v zs sp := by
  obtain ⟨h1, h2, h3, h4⟩ := h
  refine ⟨h1, h2, h3, ?_⟩
  rcases h4 with h4 | ⟨g, t, rest, hg, h5⟩
  · exact .inl h4
  · exact .inr ⟨g, t, rest, Nat.le_trans hb hg, h5⟩

theorem OwnT.of_block {b : Nat} {w w' : World} {v : Value} {zs sp : List Int} (h : OwnT b w v zs sp) (hw : ∀ k, v.ownBlock = some k → w'.heap[k]? = w.heap[k]?) : OwnT b w' v zs sp := by
  obtain ⟨h1, h2, h3, h4⟩ := h
  refine ⟨h1, h2, h3, ?_⟩
  rcases h4 with h4 | ⟨g, t, rest, hg, rfl, h5⟩
  · exact .inl h4
  · exact .inr ⟨g, t, rest, hg, rfl, h5.of_block (hw g rfl)⟩

theorem OwnT.lt {b : Nat} {w : World} {v : Value} {zs sp : List Int} (h : OwnT b w v zs sp) : ∀ k, v.ownBlock = some k → b ≤ k ∧ k < w.heap.size := by
  obtain ⟨h1, h2, h3, h4⟩ := h
  intro k hk
  rcases h4 with ⟨rfl, _⟩ | ⟨g, t, rest, hg, rfl, h5⟩
  · simp [Value.ownBlock] at hk
  · simp only [Value.ownBlock, Option.some.injEq] at hk
    subst hk
    exact ⟨hg, h5.lt⟩

theorem OwnT.grow {b : Nat} {w w' : World} {v : Value} {zs sp : List Int} (h : OwnT b w v zs sp) (hb : Below w.heap.size w w') : OwnT b w' v zs sp := h.of_block fun k hk => hb.block k (h.lt k hk).2

/-- Of a slice of the call's own, its room with it. -/
theorem OwnT.full {b : Nat} {w : World} {a : Option Addr} {l c : Nat} {zs sp : List Int} (h : OwnT b w (.slice a l c) zs sp) : Reads w (.slice a c c) (zs ++ sp) ∧ c = zs.length + sp.length ∧ l = zs.length ∧ c ≤ maxLen := by
  obtain ⟨h1, h2, h3, h4⟩ := h
  rcases h4 with ⟨e, rfl, rfl⟩ | ⟨g, t, rest, hg, e, h5⟩
  · injection e with e1 e2 e3
    subst e1; subst e2; subst e3
    exact ⟨Reads.nil _, rfl, rfl, by simp [maxLen]⟩
  · injection e with e1 e2 e3
    subst e1; subst e2; subst e3
    refine ⟨⟨_, _, by rw [List.length_append], by simp, fun h => by simp at h, h1.append h2, fun _ => ⟨g, 0, rfl, fun i hi => ?_⟩⟩, rfl, rfl, h3⟩
    rw [Nat.zero_add, h5.bcell i (by simp at hi ⊢; omega)]
    simp only [List.getD]
    rw [List.getElem?_append_left hi]

/-- The lists that are held against each other. -/
structure ListsT (base gl off n : Nat) (V : Nat → Value) (Z S : Nat → List Int) (w : World) : Prop where
  cell : ∀ i, i < n → w.cell? ⟨gl, off + i, none⟩ = some (V i)
  own : ∀ i, i < n → OwnT base w (V i) (Z i) (S i)
  apart : ∀ i k, i < n → k < n → i ≠ k → ∀ g, (V i).ownBlock = some g → (V k).ownBlock ≠ some g
  far : ∀ i, i < n → (V i).ownBlock ≠ some gl

theorem ListsT.of_block {base gl off n : Nat} {V : Nat → Value} {Z S : Nat → List Int} {w w' : World} (h : ListsT base gl off n V Z S w) (hw : ∀ k, k < w.heap.size → w'.heap[k]? = w.heap[k]?) : ListsT base gl off n V Z S w' where
  cell := fun i hi => by
    have := h.cell i hi
    have hlt := block_lt_of_cell this
    rw [World.cell?_of_block (w := w) (hw _ hlt)]
    exact this
  own := fun i hi => (h.own i hi).of_block fun k hk => hw k ((h.own i hi).lt k hk).2
  apart := h.apart
  far := h.far

theorem lists_newT (base : Nat) (w : World) (vs : List Value) (Zs Ss : List (List Int)) (G : List Nat) (n : Nat) (hv : vs.length = n) (hg : G.length = n) (hO : ∀ i, i < n → OwnT base w (vs.getD i undef) (Zs.getD i []) (Ss.getD i []))
    (hG : ∀ i, i < n → (vs.getD i undef).ownBlock = some (G.getD i 0)) (hN : G.Nodup) : ListsT base w.heap.size 0 n (fun i => vs.getD i undef) (fun i => Zs.getD i []) (fun i => Ss.getD i []) (w.alloc (.cells vs.toArray 26)) where
  cell := fun i hi => by
    have hr : (w.alloc (.cells vs.toArray 26)).heap[w.heap.size]? = some (.cells vs.toArray 26 (0, 0)) := heap_alloc_new w _
    rw [cell_of_row _ _ _ _ _ _ hr]
    simp [List.getD, hv, hi]
  own := fun i hi => (hO i hi).grow (grow_alloc w _)
  apart := fun i k hi hk hne g e e2 => by
    rw [hG i hi] at e
    rw [hG k hk] at e2
    injection e with e
    injection e2 with e2
    have h1 : i < G.length := by omega
    have h2 : k < G.length := by omega
    have h3 : G[i] = G[k] := by
      simp only [List.getD, List.getElem?_eq_getElem h1, List.getElem?_eq_getElem h2, Option.getD_some] at e e2
      rw [e, e2]
    have hP := List.pairwise_iff_getElem.1 hN
    rcases Nat.lt_or_gt_of_ne hne with h | h
    · exact hP i k h1 h2 h h3
    · exact hP k i h2 h1 h h3.symm
  far := fun i hi e => by
    have := ((hO i hi).lt _ e).2
    omega

theorem lists_apT (base : Nat) (w : World) (vs : List Value) (Zs Ss : List (List Int)) (n : Nat) (hv : vs.length = n) (hO : ∀ i, i < n → OwnT base w (vs.getD i undef) (Zs.getD i []) (Ss.getD i []))
    (hA : ∀ i k, i < n → k < n → i ≠ k → ∀ g, (vs.getD i undef).ownBlock = some g → (vs.getD k undef).ownBlock ≠ some g) : ListsT base w.heap.size 0 n (fun i => vs.getD i undef) (fun i => Zs.getD i []) (fun i => Ss.getD i []) (w.alloc (.cells vs.toArray 26)) where
  cell := fun i hi => by
    have hr : (w.alloc (.cells vs.toArray 26)).heap[w.heap.size]? = some (.cells vs.toArray 26 (0, 0)) := heap_alloc_new w _
    rw [cell_of_row _ _ _ _ _ _ hr]
    simp [List.getD, hv, hi]
  own := fun i hi => (hO i hi).grow (grow_alloc w _)
  apart := hA
  far := fun i hi e => by
    have := ((hO i hi).lt _ e).2
    omega

end Go.Proofs.YtpihigcnoifcfaaGreatDoor

/- NodeCodes' walk: the law returns true at every node and every list of bytes, and nothing that was in memory turns. -/
namespace Go.Proofs.YtpihigcnoifcfaaGreatDoor
set_option maxRecDepth 20000
open Go.RowKit

theorem row_reads {w : World} {g : Nat} {zs : List Int} (h : Row w g (zs ++ marks zs.length)) (hb : Bytes zs) : Reads w (.slice (some ⟨g, 0, none⟩) zs.length (zs.length + 5)) zs := by
  refine ⟨_, _, rfl, by omega, (fun e => by cases e), hb, fun _ => ⟨g, 0, rfl, fun i hi => ?_⟩⟩
  rw [Nat.zero_add, h.cell i (by simp; omega)]
  simp [List.getD, hi, List.getElem?_append_left hi]

end Go.Proofs.YtpihigcnoifcfaaGreatDoor
