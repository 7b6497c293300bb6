/- What ShaScript's law holds between its calls: three states and what was written to each. -/
import Derived.Test.YtegpceglhbgcnaaDoorSnWalk
import Derived.Test.YtegpceglhbgcnaaDoorRefSum
import Derived.Test.YtegpceglhbgcnaaDoorKit2
namespace Go.Proofs.YtegpceglhbgcnaaDoor
open Go.RowKit

def upd {α : Type} (f : Nat → α) (o : Nat) (x : α) : Nat → α := fun i => if i = o then x else f i
theorem upd_same {α : Type} (f : Nat → α) (o : Nat) (x : α) : upd f o x o = x := by simp [upd]
theorem upd_other {α : Type} (f : Nat → α) (o i : Nat) (x : α) (h : i ≠ o) : upd f o x i = f i := by simp [upd, h]

theorem three_get {α : Type} (f : Nat → α) (o : Nat) (h : o < 3) : (#[f 0, f 1, f 2] : Array α)[o]? = some (f o) := by
  match o, h with
  | 0, _ => rfl
  | 1, _ => rfl
  | 2, _ => rfl
theorem three_set {α : Type} (f : Nat → α) (o : Nat) (x : α) (h : o < 3) : (#[f 0, f 1, f 2] : Array α).setIfInBounds o x = #[upd f o x 0, upd f o x 1, upd f o x 2] := by
  match o, h with
  | 0, _ => rfl
  | 1, _ => rfl
  | 2, _ => rfl

def ptr (P : Nat → Nat) (i : Nat) : Value := .pointer (some ⟨P i, 0, none⟩)

structure Sc (w wr : World) (gs gm : Nat) (P : Nat → Nat) (T : Nat → List Int) (M : Nat → Value) (V : Nat → List Int) : Prop where
  s : Blk wr gs 38 #[ptr P 0, ptr P 1, ptr P 2]
  m : Blk wr gm 39 #[M 0, M 1, M 2]
  txt : ∀ i, i < 3 → Txt wr (P i) (T i)
  ne : ∀ i j, i < 3 → j < 3 → P i = P j → i = j
  ge : ∀ i, i < 3 → w.heap.size ≤ P i
  sge : w.heap.size ≤ gs
  mge : w.heap.size ≤ gm
  own : ∀ i, i < 3 → ∃ sp, Own w.heap.size wr (M i) (V i) sp
  low : Below w.heap.size w wr

theorem Blk.types {w : World} {g g' : Nat} {t t' : TypeId} {cs cs' : Array Value} (h : Blk w g t cs) (h' : Blk w g' t' cs') (hne : t ≠ t') : g ≠ g' := by
  intro e
  subst e
  unfold Blk at h h'
  rw [h] at h'
  injection h' with h'
  injection h' with _ h' _
  exact hne h'
theorem Txt.blk {w : World} {g : Nat} {l : List Int} (h : Txt w g l) : ∃ cs, Blk w g 53 cs := by
  obtain ⟨bk, h1, _⟩ := h
  exact ⟨_, h1.1⟩
theorem Txt.of_block {w w' : World} {g : Nat} {l : List Int} (h : Txt w g l) (k : w'.heap[g]? = w.heap[g]?) : Txt w' g l := by
  obtain ⟨bk, h1, h2⟩ := h
  exact ⟨bk, ⟨h1.1.of_block k, h1.2⟩, h2⟩
theorem Own.blk {b : Nat} {w : World} {v : Value} {zs sp : List Int} (h : Own b w v zs sp) {k : Nat} (hk : v.ownBlock = some k) : ∃ cs, Blk w k 5 cs := by
  obtain ⟨_, _, _, h4⟩ := h
  rcases h4 with ⟨rfl, _⟩ | ⟨g, rest, hg, rfl, h5⟩
  · simp [Value.ownBlock] at hk
  · simp only [Value.ownBlock, Option.some.injEq] at hk
    subst hk
    exact ⟨_, h5⟩

section
variable {w wr : World} {gs gm : Nat} {P : Nat → Nat} {T : Nat → List Int} {M : Nat → Value} {V : Nat → List Int}

theorem Sc.cs (h : Sc w wr gs gm P T M V) (o : Nat) (ho : o < 3) : wr.cell? ⟨gs, o, none⟩ = some (.pointer (some ⟨P o, 0, none⟩)) := by
  rw [h.s.cell, three_get (ptr P) o ho]
  rfl
theorem Sc.cm (h : Sc w wr gs gm P T M V) (o : Nat) (ho : o < 3) : wr.cell? ⟨gm, o, none⟩ = some (M o) := by
  rw [h.m.cell, three_get M o ho]

theorem Sc.grow {w' : World} (h : Sc w wr gs gm P T M V) (hb : Below wr.heap.size wr w') : Sc w w' gs gm P T M V :=
  ⟨h.s.grow hb, h.m.grow hb, fun i hi => (h.txt i hi).grow hb, h.ne, h.ge, h.sge, h.mge, fun i hi => by
    obtain ⟨sp, ho⟩ := h.own i hi
    exact ⟨sp, ho.grow hb⟩, h.low.trans (hb.mono h.low.size)⟩

/-- A write to one of the states. -/
theorem Sc.step {w' : World} (h : Sc w wr gs gm P T M V) (o : Nat) (ho : o < 3) (t : List Int) (hblk : ∀ k, k < wr.heap.size → k ≠ P o → w'.heap[k]? = wr.heap[k]?) (ht : Txt w' (P o) t) (hl : Below w.heap.size w w') : Sc w w' gs gm P (upd T o t) M V := by
  obtain ⟨cp, hP⟩ := (h.txt o ho).blk
  refine ⟨h.s.of_block (hblk gs h.s.lt (h.s.types hP (by decide))), h.m.of_block (hblk gm h.m.lt (h.m.types hP (by decide))), fun i hi => ?_, h.ne, h.ge, h.sge, h.mge, fun i hi => ?_, hl⟩
  · by_cases e : i = o
    · subst e
      rw [upd_same]
      exact ht
    · rw [upd_other _ _ _ _ e]
      exact (h.txt i hi).of_block (hblk (P i) (h.txt i hi).lt (fun e2 => e (h.ne i o hi ho e2)))
  · obtain ⟨sp, hO⟩ := h.own i hi
    refine ⟨sp, hO.of_block (fun k hk => ?_)⟩
    obtain ⟨ck, hK⟩ := hO.blk hk
    exact hblk k (hO.lt k hk).2 (hK.types hP (by decide))

/-- What was written, kept anew. -/
theorem Sc.setM (h : Sc w wr gs gm P T M V) (o : Nat) (ho : o < 3) (v : Value) (u sp : List Int) (hv : Own w.heap.size wr v u sp) : Sc w (wr.setCell ⟨gm, o, none⟩ v) gs gm P T (upd M o v) (upd V o u) := by
  have hg := grown_setCell wr gm o v
  have keepO : ∀ {x : Value} {zs sp : List Int}, Own w.heap.size wr x zs sp → Own w.heap.size (wr.setCell ⟨gm, o, none⟩ v) x zs sp := by
    intro x zs sp hO
    refine hO.of_block (fun k hk => ?_)
    obtain ⟨ck, hK⟩ := hO.blk hk
    exact hg.block k (hO.lt k hk).2 (fun e => (hK.types h.m (by decide)) (by injection e))
  refine ⟨h.s.other _ _ (h.s.types h.m (by decide)), ?_, fun i hi => ?_, h.ne, h.ge, h.sge, h.mge, fun i hi => ?_, below_row h.low hg h.mge⟩
  · have := h.m.set o v
    rw [three_set M o v ho] at this
    exact this
  · obtain ⟨cp, hP⟩ := (h.txt i hi).blk
    exact (h.txt i hi).kept hg (hP.types h.m (by decide))
  · by_cases e : i = o
    · subst e
      rw [upd_same, upd_same]
      exact ⟨sp, keepO hv⟩
    · rw [upd_other _ _ _ _ e, upd_other _ _ _ _ e]
      obtain ⟨sp, hO⟩ := h.own i hi
      exact ⟨sp, keepO hO⟩

/-- A clone in a state's place. -/
theorem Sc.setS (h : Sc w wr gs gm P T M V) (t : Nat) (ht : t < 3) (gc : Nat) (l : List Int) (hT : Txt wr gc l) (hgc : w.heap.size ≤ gc) (hnew : ∀ i, i < 3 → P i ≠ gc) : Sc w (wr.setCell ⟨gs, t, none⟩ (.pointer (some ⟨gc, 0, none⟩))) gs gm (upd P t gc) (upd T t l) M V := by
  have hg := grown_setCell wr gs t (.pointer (some ⟨gc, 0, none⟩))
  refine ⟨?_, h.m.other _ _ (h.m.types h.s (by decide)), fun i hi => ?_, fun i j hi hj e => ?_, fun i hi => ?_, h.sge, h.mge, fun i hi => ?_, below_row h.low hg h.sge⟩
  · have := h.s.set t (.pointer (some ⟨gc, 0, none⟩))
    rw [three_set (ptr P) t _ ht] at this
    have e : ∀ i, upd (ptr P) t (.pointer (some ⟨gc, 0, none⟩)) i = ptr (upd P t gc) i := by
      intro i
      unfold upd ptr
      by_cases e : i = t
      · simp [e]
      · simp [e]
    rw [e, e, e] at this
    exact this
  · by_cases e : i = t
    · subst e
      rw [upd_same, upd_same]
      obtain ⟨cp, hP⟩ := hT.blk
      exact hT.kept hg (hP.types h.s (by decide))
    · rw [upd_other _ _ _ _ e, upd_other _ _ _ _ e]
      obtain ⟨cp, hP⟩ := (h.txt i hi).blk
      exact (h.txt i hi).kept hg (hP.types h.s (by decide))
  · by_cases e1 : i = t
    · by_cases e2 : j = t
      · omega
      · rw [e1, upd_same, upd_other _ _ _ _ e2] at e
        exact absurd e.symm (hnew j hj)
    · by_cases e2 : j = t
      · rw [e2, upd_same, upd_other _ _ _ _ e1] at e
        exact absurd e (hnew i hi)
      · rw [upd_other _ _ _ _ e1, upd_other _ _ _ _ e2] at e
        exact h.ne i j hi hj e
  · by_cases e : i = t
    · subst e
      rw [upd_same]
      exact hgc
    · rw [upd_other _ _ _ _ e]
      exact h.ge i hi
  · obtain ⟨sp, hO⟩ := h.own i hi
    refine ⟨sp, hO.of_block (fun k hk => ?_)⟩
    obtain ⟨ck, hK⟩ := hO.blk hk
    exact hg.block k (hO.lt k hk).2 (fun e => (hK.types h.s (by decide)) (by injection e))
end

end Go.Proofs.YtegpceglhbgcnaaDoor
