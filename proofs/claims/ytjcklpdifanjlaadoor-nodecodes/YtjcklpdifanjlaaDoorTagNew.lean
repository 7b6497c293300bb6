/- Texts that were just made: where they lie; lists of such texts. -/
import Derived.Test.YtjcklpdifanjlaaDoorTagTxts
namespace Go.Proofs.YtjcklpdifanjlaaDoor
set_option maxRecDepth 20000
open Go.RowKit

/-- What a call leaves that tells a new text of n bytes. -/
def TxtPost (zs : List Int) (n : Nat) (w : World) (e : Ending) (w' : World) : Prop :=
  ∃ g c sp, e = .returned (.slice (some ⟨g, 0, none⟩) n c) ∧ w.heap.size ≤ g ∧ g < w'.heap.size ∧ Own w.heap.size w' (.slice (some ⟨g, 0, none⟩) n c) zs sp ∧ Below w.heap.size w w'

theorem txt_of_join {zs : List Int} {n : Nat} {w : World} {e : Ending} {w' : World} (hn : zs.length = n) (hp : 0 < n) (h : JoinPost zs w e w') : TxtPost zs n w e w' := by
  obtain ⟨v, sp, rfl, hO, hb⟩ := h
  subst hn
  have hl := hO.lt
  obtain ⟨h1, h2, h3, h4⟩ := hO
  rcases h4 with ⟨_, rfl, _⟩ | ⟨g, rest, hg, rfl, h5⟩
  · simp at hp
  · exact ⟨g, _, sp, rfl, hg, (hl g rfl).2, ⟨h1, h2, h3, .inr ⟨g, rest, hg, rfl, h5⟩⟩, hb⟩

theorem emptyText_new (w : World) : Calls Tryd.prog 43 #[] w (TxtPost [0] 1 w) := (emptyText_any w).mono fun _ _ h => txt_of_join rfl (by omega) h

theorem leafText_new (K A : List Int) (w : World) (hk : K.length = 32) (ha : A.length = 32) (bk : Bytes K) (ba : Bytes A) : Calls Tryd.prog 41 #[.agg (B K), .agg (B A)] w (TxtPost (1 :: (K ++ A)) 65 w) :=
  (leafText_any K A w hk ha bk ba).mono fun _ _ h => txt_of_join (by simp [hk, ha]) (by omega) h

theorem innerText_new (K A : List Int) (w : World) (hk : K.length = 32) (ha : A.length = 32) (bk : Bytes K) (ba : Bytes A) : Calls Tryd.prog 42 #[.agg (B K), .agg (B A)] w (TxtPost (2 :: (K ++ A)) 65 w) :=
  (innerText_any K A w hk ha bk ba).mono fun _ _ h => txt_of_join (by simp [hk, ha]) (by omega) h

theorem refLeafText_new (K A : List Int) (w : World) (hk : K.length = 32) (ha : A.length = 32) (bk : Bytes K) (ba : Bytes A) : Calls Tryd.prog 44 #[.agg (B K), .agg (B A)] w (TxtPost (1 :: (K ++ A)) 65 w) :=
  (refLeafText_any K A w hk ha bk ba).mono fun _ _ h => txt_of_join (by simp [hk, ha]) (by omega) h

theorem refInnerText_new (K A : List Int) (w : World) (hk : K.length = 32) (ha : A.length = 32) (bk : Bytes K) (ba : Bytes A) : Calls Tryd.prog 45 #[.agg (B K), .agg (B A)] w (TxtPost (2 :: (K ++ A)) 65 w) :=
  (refInnerText_any K A w hk ha bk ba).mono fun _ _ h => txt_of_join (by simp [hk, ha]) (by omega) h

theorem refText_new (t : Int) (v : Value) (ps : List (List Int)) (n : Nat) (w : World) (h0 : 0 ≤ t) (h1 : t ≤ 255) (h : Parts w v ps) (hl : 1 + ps.flatten.length ≤ 140737488355328) (hn : ps.flatten.length + 1 = n) :
    Calls Tryd.prog 72 #[.int .u8 t, v] w (TxtPost (t :: ps.flatten) n w) := (refText_any t v ps w h0 h1 h hl).mono fun _ _ h => txt_of_join hn (by omega) h

theorem refText_one (v : Value) (zs : List Int) (w : World) (h : Parts w v [zs]) (hl : zs.length < 140737488355328) : Calls Tryd.prog 72 #[.int .u8 3, v] w (TxtPost (3 :: zs) (zs.length + 1) w) := by
  have h1 := refText_new 3 v [zs] (zs.length + 1) w (by omega) (by omega) h (by simp; omega) (by simp)
  rw [show [zs].flatten = zs by simp] at h1
  exact h1

theorem refText_nil (w : World) : Calls Tryd.prog 72 #[.int .u8 0, .slice none 0 0] w (TxtPost [0] 1 w) := refText_new 0 _ [] 1 w (by omega) (by omega) (parts_nil w) (by simp) rfl

theorem Parts.grow {w w' : World} {v : Value} {ps : List (List Int)} (h : Parts w v ps) (hb : Below w.heap.size w w') : Parts w' v ps := by
  obtain ⟨a, cap, V, rfl, h1, h2, h3, h4⟩ := h
  refine ⟨a, cap, V, rfl, h1, h2, fun hp => ?_, fun i hi => (h4 i hi).grow hb⟩
  obtain ⟨b, off, e, hc⟩ := h3 hp
  exact ⟨b, off, e, fun i hi => (hb.cell (p := ⟨b, off + i, none⟩) (block_lt_of_cell (hc i hi))).trans (hc i hi)⟩

/-- A new list of values that read as these bytes. -/
theorem parts_new (w : World) (vs : List Value) (ps : List (List Int)) (n : Nat) (hn : ps.length = n) (hv : vs.length = n) (hp : n ≤ 140737488355328) (h : ∀ i, i < n → Reads w (vs.getD i undef) (ps.getD i [])) :
    Parts (w.alloc (.cells vs.toArray 28)) (.slice (some ⟨w.heap.size, 0, none⟩) n n) ps := by
  subst hn
  refine ⟨_, ps.length, fun i => vs.getD i undef, rfl, Nat.le_refl _, hp, fun _ => ⟨w.heap.size, 0, rfl, fun i hi => ?_⟩, fun i hi => (h i hi).grow (grow_alloc w _)⟩
  have hr : (w.alloc (.cells vs.toArray 28)).heap[w.heap.size]? = some (.cells vs.toArray 28 (0, 0)) := heap_alloc_new w _
  rw [cell_of_row _ _ _ _ _ _ hr]
  simp [List.getD, hv, hi]

end Go.Proofs.YtjcklpdifanjlaaDoor
