/- A region that draws its order, some of whose operations (the writers, Ws) write what others ahead of them read: what is held (S) is asked for as long as no writer has come up. -/
import Derived.Test.YtagkmfgoahbclaaBo18
import Derived.Test.YtagkmfgoahbclaaBo17
import Derived.Test.YtagkmfgoahbclaaBo06
namespace Go.Proofs.Ytagkmfgoahbclaa
set_option maxRecDepth 20000
open Go Go.RowKit

section
variable {P : Program} {ops : Array Oper} {Q : Exit → Act → World → Prop} {md : Region.Mode} {S : World → Prop} {Ws : List Nat}

/-- A writer has come up. -/
def wrote (Ws : List Nat) (listed : Array Bool) : Bool := Ws.any fun L => listed.getD L false
theorem wrote_set {listed : Array Bool} {i : Nat} (h : Ws.contains i = false) : wrote Ws (listed.setIfInBounds i true) = wrote Ws listed := by
  unfold wrote
  apply Bool.eq_iff_iff.2
  simp only [List.any_eq_true]
  have hne : ∀ L ∈ Ws, i ≠ L := fun L hL e => by
    subst e
    simp at h
    exact h hL
  constructor
  · rintro ⟨L, h1, h2⟩
    exact ⟨L, h1, by rwa [getD_set_ne false (hne L h1)] at h2⟩
  · rintro ⟨L, h1, h2⟩
    exact ⟨L, h1, by rwa [getD_set_ne false (hne L h1)]⟩
theorem wrote_not {listed : Array Bool} {i n : Nat} (hs : ShutL md ops listed) (hi : listed.getD i false = false) (hld : (Ws.all fun L => leads md ops i n L) = true) : wrote Ws listed = false := by
  unfold wrote
  rw [Bool.eq_false_iff]
  intro h
  obtain ⟨L, h1, h2⟩ := List.any_eq_true.1 h
  have h3 := List.all_eq_true.1 hld L h1
  cases ho : ops[L]? with
  | none =>
    cases n with
    | zero => simp [leads] at h3
    | succ n => unfold leads at h3; rw [ho] at h3; cases h3
  | some o => exact leads_on hs hi n L h3 o ho (hs L o ho h2)

def wpAnyW (P : Program) (md : Region.Mode) (ops : Array Oper) (Q : Exit → Act → World → Prop) (S : World → Prop) (Ws : List Nat) : Nat → Array Bool → Act → World → Prop
  | 0, listed, a, w => Region.ready md ops listed = [] ∧ Q .normal a w
  | fuel + 1, listed, a, w =>
    (Region.ready md ops listed = [] → Q .normal a w) ∧
    ∀ i ∈ Region.ready md ops listed, wpOp P ops Q i (fun a' w' => (wrote Ws (listed.setIfInBounds i true) = true ∨ S w') ∧ wpAnyW P md ops Q S Ws fuel (listed.setIfInBounds i true) a' w') a w

theorem wpAny_of_wrote : ∀ (fuel : Nat) (listed : Array Bool) (a : Act) (w : World), wpAnyW P md ops Q S Ws fuel listed a w → wpAny P md ops Q fuel listed a w
  | 0, _, _, _, h => h
  | fuel + 1, _, _, _, h => ⟨h.1, fun i hi => wpOp_mono (fun a' w' h' => wpAny_of_wrote fuel _ a' w' h'.2) (h.2 i hi)⟩

theorem unlisted {listed : Array Bool} {i : Nat} (hr : i ∈ Region.ready md ops listed) : listed.getD i false = false := by
  have h0 := (mem_ready.1 hr).1
  rcases Nat.lt_or_ge i listed.size with h' | h'
  · simpa [h'] using h0
  · simp [Array.getElem?_eq_none h']

/-- One that reads what is held. -/
theorem wpAnyW_first {i n : Nat} {oi : Oper} {v : Value} (hi : ops[i]? = some oi) (hsel : ∀ (j : Nat) (o : Oper) cs b, ops[j]? = some o → o.op ≠ .select cs b)
    (hQ : ∀ c a w, Q (.panic c) (a.put oi.dst v) w → Q (.panic c) a w) (hld : (Ws.all fun L => leads md ops i n L) = true) (hiw : Ws.contains i = false) :
    ∀ (fuel : Nat) (listed : Array Bool) (a : Act) (w : World), ShutL md ops listed →
      (∀ j oj, ops[j]? = some oj → j ≠ i → listed.getD j true = false → (∀ e ∈ oj.after, Region.binds md e = true → e.on ≠ i) → oi.apart ops oj = true) →
      i ∈ Region.ready md ops listed → YieldsIf P ops S oi v a → S w →
      wpAnyW P md ops Q S Ws fuel (listed.setIfInBounds i true) (a.put oi.dst v) w → wpAnyW P md ops Q S Ws (fuel + 1) listed a w := by
  intro fuel
  induction fuel with
  | zero =>
    intro listed a w _ _ hr hy hS H
    refine ⟨fun h => (by rw [h] at hr; cases hr), fun j hj => ?_⟩
    by_cases hji : j = i
    · subst hji; exact hy.wpOp hi hS ⟨.inr hS, H⟩
    · have := ready_mono hj hji
      rw [H.1] at this
      cases this
  | succ fuel ih =>
    intro listed a w hsh hfree hr hy hS H
    refine ⟨fun h => (by rw [h] at hr; cases hr), fun j hj => ?_⟩
    by_cases hji : j = i
    · subst hji; exact hy.wpOp hi hS ⟨.inr hS, H⟩
    · have h1 := H.2 j (ready_mono hj hji)
      obtain ⟨hjun, oj, hoj, hall⟩ := mem_ready.1 hj
      have hi0 := unlisted hr
      have hnw : wrote Ws ((listed.setIfInBounds i true).setIfInBounds j true) = false := by
        rw [Array.setIfInBounds_comm _ _ (Ne.symm hji), wrote_set hiw]
        refine wrote_not (hsh.step hj) ?_ hld
        rw [getD_set_ne false hji]
        exact hi0
      have hnot : ∀ e ∈ oj.after, Region.binds md e = true → e.on ≠ i := fun e he hb heq => by
        have h1 := hall e he hb
        rw [heq, hi0] at h1
        cases h1
      have h2 := wpOp_putIf hoj (hfree j oj hoj hji hjun hnot) (fun cs b => hsel i oi cs b hi) (fun cs b => hsel j oj cs b hoj) hQ hy h1
      have hfree' : ∀ k ok, ops[k]? = some ok → k ≠ i → (listed.setIfInBounds j true).getD k true = false →
          (∀ e ∈ ok.after, Region.binds md e = true → e.on ≠ i) → oi.apart ops ok = true := fun k ok hk hki hun hno => by
        refine hfree k ok hk hki ?_ hno
        by_cases hjk : j = k
        · subst hjk; exact hjun
        · rw [getD_set_ne true hjk] at hun; exact hun
      refine wpOp_mono (fun a' w' h3 => ?_) h2
      have hS' : S w' := h3.2.1.resolve_left (by rw [hnw]; simp)
      refine ⟨.inr hS', ih (listed.setIfInBounds j true) a' w' (hsh.step hj) hfree' (ready_mono hr (Ne.symm hji)) h3.1 hS' ?_⟩
      rw [Array.setIfInBounds_comm _ _ hji]
      exact h3.2.2

/-- One that yields its value in whatever world. -/
theorem wpAnyW_pure {i : Nat} {oi : Oper} {v : Value} (hi : ops[i]? = some oi) (hsel : ∀ (j : Nat) (o : Oper) cs b, ops[j]? = some o → o.op ≠ .select cs b)
    (hQ : ∀ c a w, Q (.panic c) (a.put oi.dst v) w → Q (.panic c) a w) (hiw : Ws.contains i = false) :
    ∀ (fuel : Nat) (listed : Array Bool) (a : Act) (w : World),
      (∀ j oj, ops[j]? = some oj → j ≠ i → listed.getD j true = false → (∀ e ∈ oj.after, Region.binds md e = true → e.on ≠ i) → oi.apart ops oj = true) →
      i ∈ Region.ready md ops listed → YieldsIf P ops (fun _ => True) oi v a → (wrote Ws listed = true ∨ S w) →
      wpAnyW P md ops Q S Ws fuel (listed.setIfInBounds i true) (a.put oi.dst v) w → wpAnyW P md ops Q S Ws (fuel + 1) listed a w := by
  intro fuel
  induction fuel with
  | zero =>
    intro listed a w _ hr hy hS H
    refine ⟨fun h => (by rw [h] at hr; cases hr), fun j hj => ?_⟩
    by_cases hji : j = i
    · subst hji; exact hy.wpOp hi trivial ⟨by rw [wrote_set hiw]; exact hS, H⟩
    · have := ready_mono hj hji
      rw [H.1] at this
      cases this
  | succ fuel ih =>
    intro listed a w hfree hr hy hS H
    refine ⟨fun h => (by rw [h] at hr; cases hr), fun j hj => ?_⟩
    by_cases hji : j = i
    · subst hji; exact hy.wpOp hi trivial ⟨by rw [wrote_set hiw]; exact hS, H⟩
    · have h1 := H.2 j (ready_mono hj hji)
      obtain ⟨hjun, oj, hoj, hall⟩ := mem_ready.1 hj
      have hi0 := unlisted hr
      have hnot : ∀ e ∈ oj.after, Region.binds md e = true → e.on ≠ i := fun e he hb heq => by
        have h1 := hall e he hb
        rw [heq, hi0] at h1
        cases h1
      have h2 := wpOp_putIf hoj (hfree j oj hoj hji hjun hnot) (fun cs b => hsel i oi cs b hi) (fun cs b => hsel j oj cs b hoj) hQ hy h1
      have hfree' : ∀ k ok, ops[k]? = some ok → k ≠ i → (listed.setIfInBounds j true).getD k true = false →
          (∀ e ∈ ok.after, Region.binds md e = true → e.on ≠ i) → oi.apart ops ok = true := fun k ok hk hki hun hno => by
        refine hfree k ok hk hki ?_ hno
        by_cases hjk : j = k
        · subst hjk; exact hjun
        · rw [getD_set_ne true hjk] at hun; exact hun
      refine wpOp_mono (fun a' w' h3 => ?_) h2
      have hS' : wrote Ws (listed.setIfInBounds j true) = true ∨ S w' := by
        have := h3.2.1
        rwa [Array.setIfInBounds_comm _ _ (Ne.symm hji), wrote_set hiw] at this
      refine ⟨hS', ih (listed.setIfInBounds j true) a' w' hfree' (ready_mono hr (Ne.symm hji)) h3.1 hS' ?_⟩
      rw [Array.setIfInBounds_comm _ _ hji]
      exact h3.2.2

theorem wpAnyW_take {i : Nat} {oi : Oper} {v : Value} {fuel : Nat} {listed : Array Bool} {a : Act} {w : World} (hi : ops[i]? = some oi)
    (hs : Region.noSelect ops = true) (hf : Region.free md ops listed i = true) (hr : (Region.ready md ops listed).contains i = true) (hld : (Ws.all fun L => leads md ops i 40 L) = true) (hiw : Ws.contains i = false) (hsh : shutB md ops listed = true)
    (hQ : ∀ c a w, Q (.panic c) (a.put oi.dst v) w → Q (.panic c) a w) (hy : YieldsIf P ops S oi v a) (hS : S w)
    (h : wpAnyW P md ops Q S Ws fuel (listed.setIfInBounds i true) (a.put oi.dst v) w) : wpAnyW P md ops Q S Ws (fuel + 1) listed a w :=
  wpAnyW_first hi (Region.noSelect_spec hs) hQ hld hiw fuel listed a w (shutL_of hsh) (Region.free_spec hi hf) (by simpa using hr) hy hS h
theorem wpAnyW_take0 {i : Nat} {oi : Oper} {v : Value} {fuel : Nat} {listed : Array Bool} {a : Act} {w : World} (hi : ops[i]? = some oi)
    (hs : Region.noSelect ops = true) (hf : Region.free md ops listed i = true) (hr : (Region.ready md ops listed).contains i = true) (hiw : Ws.contains i = false)
    (hQ : ∀ c a w, Q (.panic c) (a.put oi.dst v) w → Q (.panic c) a w) (hy : YieldsIf P ops (fun _ => True) oi v a) (hS : wrote Ws listed = true ∨ S w)
    (h : wpAnyW P md ops Q S Ws fuel (listed.setIfInBounds i true) (a.put oi.dst v) w) : wpAnyW P md ops Q S Ws (fuel + 1) listed a w :=
  wpAnyW_pure hi (Region.noSelect_spec hs) hQ hiw fuel listed a w (Region.free_spec hi hf) (by simpa using hr) hy hS h

/-- A writer, or one that comes up behind a writer: nothing of S is shown. -/
theorem wpAnyW_one {fuel : Nat} {listed : Array Bool} {a : Act} {w : World} {i : Nat} {o : Oper} (ho : ops[i]? = some o) (hr : Region.ready md ops listed = [i]) (hw : wrote Ws (listed.setIfInBounds i true) = true)
    (h : ∀ K' : Act → World → Prop, Shut (∀ a w, wpAnyW P md ops Q S Ws fuel (listed.setIfInBounds i true) a w → K' a w) → if Region.wanted o (yielded ops a.tmps) = true then Oper.wp P o a w K' Q else K' (a.put o.dst undef) w) :
    wpAnyW P md ops Q S Ws (fuel + 1) listed a w := by
  refine ⟨fun h0 => ?_, fun j hj => ?_⟩
  · rw [hr] at h0
    cases h0
  · rw [hr] at hj
    obtain rfl : j = i := by simpa using hj
    exact wpOp_step ho (fun K' hK => h K' (fun a w hW => hK a w ⟨.inl hw, hW⟩))

theorem wpAnyW_done {fuel : Nat} {listed : Array Bool} {a : Act} {w : World} (he : Region.ready md ops listed = []) (h : Q .normal a w) : wpAnyW P md ops Q S Ws fuel listed a w := by
  cases fuel with
  | zero => exact ⟨he, h⟩
  | succ n => exact ⟨fun _ => h, by rw [he]; simp⟩

theorem wp_region_wrote {id : Nat} {a : Act} {w : World} (Ws : List Nat) (hm : P.follows .mixedOrders = true) (hS : S w.drew)
    (h : S w.drew → wpAnyW P .any ops Q S Ws ops.size (Array.replicate ops.size false) a w.drew) : (Code.region id ops true).wp P Q a w :=
  wp_region_any hm (wpAny_of_wrote _ _ _ _ (h hS))

end
end Go.Proofs.Ytagkmfgoahbclaa

/- Writes in memory: a key, whether it goes, a value. -/
namespace Go.Proofs.Ytagkmfgoahbclaa
set_option maxRecDepth 20000
open Go.RowKit

def encW (x : Wt) : List Value := x.k.map (Value.int .u8) ++ [.bool x.g, x.v]

/-- What a write in memory is. -/
structure WtOk (x : Wt) : Prop where
  hk : Key x.k
  hb : Bytes x.b
  hv : ∃ a c, x.v = .slice a x.b.length c
theorem WtOk.one {x : Wt} (h : WtOk x) : ∀ u ∈ encW x, u.oneCell' = true := fun u hu => by
  obtain ⟨a, c, e⟩ := h.hv
  unfold encW at hu
  simp only [List.mem_append, List.mem_map, List.mem_cons, List.not_mem_nil, or_false] at hu
  rcases hu with ⟨z, _, rfl⟩ | rfl | rfl
  · rfl
  · rfl
  · rw [e]; rfl
theorem WtOk.len {x : Wt} (h : WtOk x) : (encW x).length = 34 := by simp [encW, h.hk.1]
theorem WtOk.all {x : Wt} (h : WtOk x) : (encW x).toArray.all (·.oneCell') = true := all_oneCell_toArray h.one

theorem size_write : (Try.prog.info? 37).map (·.size) = some 34 := by kernel_rfl

theorem u_write : ∃ fs, Try.prog.underlying 37 = some (.struct fs) := ⟨_, Try.underlying37⟩

theorem info_write : ∃ i z, Try.prog.info? 37 = some i ∧ i.zero = some z ∧ i.size = 34 ∧ i.bytes = 64 ∧ z.cells.size = 34 := ⟨_, _, rfl, rfl, rfl, rfl, rfl⟩

theorem encW_key {w : World} {g o : Nat} {x : Wt} (h : w.rangeAt g o (encW x)) : w.rangeAt g o (B x.k).toList := by
  intro j u hu
  rw [B_toList] at hu
  have hj : j < (x.k.map (Value.int .u8)).length := (List.getElem?_eq_some_iff.1 hu).1
  refine h j u ?_
  unfold encW
  rw [List.getElem?_append_left hj]
  exact hu
theorem encW_gone {w : World} {g o : Nat} {x : Wt} (h : w.rangeAt g o (encW x)) (hk : x.k.length = 32) : w.cell? ⟨g, o + 32, none⟩ = some (.bool x.g) := by
  refine h 32 _ ?_
  unfold encW
  rw [List.getElem?_append_right (by simp [hk])]
  simp [hk]
theorem encW_val {w : World} {g o : Nat} {x : Wt} (h : w.rangeAt g o (encW x)) (hk : x.k.length = 32) : w.cell? ⟨g, o + 33, none⟩ = some x.v := by
  refine h 33 _ ?_
  unfold encW
  rw [List.getElem?_append_right (by simp [hk])]
  simp [hk]
theorem rngW_grow {w w' : World} {g o : Nat} {cs : List Value} (h : w.rangeAt g o cs) (hb : Below w.heap.size w w') : w'.rangeAt g o cs := fun j v hv => (hb.cell (p := ⟨g, o + j, none⟩) (block_lt_of_cell (h j v hv))).trans (h j v hv)

/-- A list of writes of the program's own. -/
abbrev LsW (w : World) (v : Value) (xs : List Wt) : Prop := Lst w 37 34 v xs.length (flatE encW xs)

/-- Two writes changed places. -/
theorem lsW_swp {w : World} {g c i j : Nat} {xs : List Wt} (h : Lst w 37 34 (.slice (some ⟨g, 0, none⟩) xs.length c) xs.length (flatE encW xs)) (hok : ∀ x ∈ xs, WtOk x) (hi : i < xs.length) (hj : j < xs.length) :
    Lst ((w.setCells g (i * 34) (encW xs[j])).setCells g (j * 34) (encW xs[i])) 37 34 (.slice (some ⟨g, 0, none⟩) (swp xs i j).length c) (swp xs i j).length (flatE encW (swp xs i j)) := by
  have l0 : ∀ x ∈ xs, (encW x).length = 34 := fun x hx => (hok x hx).len
  have h1 := lstE_set h l0 i hi xs[j] (l0 _ (List.getElem_mem hj))
  have l1 : ∀ x ∈ xs.set i xs[j], (encW x).length = 34 := fun x hx => by
    rcases List.mem_or_eq_of_mem_set hx with hx | rfl
    · exact l0 x hx
    · exact l0 _ (List.getElem_mem hj)
  have h2 := lstE_set h1 l1 j (by rw [List.length_set]; exact hj) xs[i] (l0 _ (List.getElem_mem hi))
  rw [swp_len]
  have e : swp xs i j = (xs.set i xs[j]).set j xs[i] := by unfold swp; rw [getElem!_pos xs i hi, getElem!_pos xs j hj]
  rw [e]
  exact h2

end Go.Proofs.Ytagkmfgoahbclaa
