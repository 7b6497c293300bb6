/- A slab beside the document's, each in blocks of its own, apart from some blocks that a walk holds. -/
import Derived.Test.YtodigmmpodbpiaaGoneW
namespace Go.Proofs.Ytodigmmpodbpiaa
set_option maxRecDepth 20000
open Go.RowKit

/-- Both slabs, in these states; the blocks X hold what they hold, and belong to neither. -/
def Hp (w0 w : World) (X : List (Nat × Obj)) (gs gw room : Nat) (ps : List Pl) (fr : List Nat) (ts : List Int) (cs fr2 : List Nat) : Prop :=
  ∃ vp vf vt vc vf2, SlI w gs vp vf room ps fr ∧ Rf w gw vt vc vf2 room ts cs fr2 ∧ (∀ k ∈ slB gs vp vf, k ∉ rfB gw vt vc vf2) ∧ (∀ k ∈ slB gs vp vf, w0.heap.size ≤ k) ∧ (∀ k ∈ rfB gw vt vc vf2, w0.heap.size ≤ k) ∧
    (∀ x ∈ X, w.heap[x.1]? = some x.2 ∧ x.1 ∉ slB gs vp vf ∧ x.1 ∉ rfB gw vt vc vf2) ∧ Below w0.heap.size w0 w

theorem Hp.low {w0 w : World} {X : List (Nat × Obj)} {gs gw room : Nat} {ps : List Pl} {fr : List Nat} {ts : List Int} {cs fr2 : List Nat} (h : Hp w0 w X gs gw room ps fr ts cs fr2) : Below w0.heap.size w0 w := by
  obtain ⟨_, _, _, _, _, _, _, _, _, _, _, h⟩ := h
  exact h
theorem Hp.inv {w0 w : World} {X : List (Nat × Obj)} {gs gw room : Nat} {ps : List Pl} {fr : List Nat} {ts : List Int} {cs fr2 : List Nat} (h : Hp w0 w X gs gw room ps fr ts cs fr2) : Inv room ps fr := by
  obtain ⟨_, _, _, _, _, h, _⟩ := h
  exact h.inv
theorem Hp.held {w0 w : World} {X : List (Nat × Obj)} {gs gw room : Nat} {ps : List Pl} {fr : List Nat} {ts : List Int} {cs fr2 : List Nat} (h : Hp w0 w X gs gw room ps fr ts cs fr2) {g : Nat} {cells : Array Value} {t : TypeId} (hx : (g, Obj.cells cells t (0, 0)) ∈ X) : Blk w g t cells := by
  obtain ⟨_, _, _, _, _, _, _, _, _, _, h, _⟩ := h
  exact (h _ hx).1
theorem Hp.less {w0 w : World} {X Y : List (Nat × Obj)} {gs gw room : Nat} {ps : List Pl} {fr : List Nat} {ts : List Int} {cs fr2 : List Nat} (h : Hp w0 w X gs gw room ps fr ts cs fr2) (hy : ∀ y ∈ Y, y ∈ X) : Hp w0 w Y gs gw room ps fr ts cs fr2 := by
  obtain ⟨vp, vf, vt, vc, vf2, h1, h2, h3, h4, h5, h6, h7⟩ := h
  exact ⟨vp, vf, vt, vc, vf2, h1, h2, h3, h4, h5, fun y hyy => h6 y (hy y hyy), h7⟩

theorem SlI.lts {w : World} {g : Nat} {vp vf : Value} {room : Nat} {ps : List Pl} {fr : List Nat} (h : SlI w g vp vf room ps fr) : ∀ k ∈ slB g vp vf, k < w.heap.size := fun k hk => by
  rcases slB_mem.1 hk with rfl | hk | hk
  · exact h.blk.lt
  · exact lst_lt h.pls k hk
  · exact lst_lt h.frs k hk
theorem Rf.lts {w : World} {g : Nat} {vt vc vf : Value} {room : Nat} {ts : List Int} {cs fr : List Nat} (h : Rf w g vt vc vf room ts cs fr) : ∀ k ∈ rfB g vt vc vf, k < w.heap.size := fun k hk => by
  rcases rfB_mem.1 hk with rfl | hk | hk | hk
  · exact h.blk.lt
  · exact lst_lt h.ths k hk
  · exact lst_lt h.cts k hk
  · exact lst_lt h.frs k hk

theorem Hp.grow {w0 w w' : World} {X : List (Nat × Obj)} {gs gw room : Nat} {ps : List Pl} {fr : List Nat} {ts : List Int} {cs fr2 : List Nat} (h : Hp w0 w X gs gw room ps fr ts cs fr2) (hb : Below w.heap.size w w') : Hp w0 w' X gs gw room ps fr ts cs fr2 := by
  obtain ⟨vp, vf, vt, vc, vf2, h1, h2, h3, h4, h5, h6, h7⟩ := h
  refine ⟨vp, vf, vt, vc, vf2, h1.mod (Mod.of_below hb []) (fun _ _ h => by cases h), h2.mod (Mod.of_below hb []) (fun _ _ h => by cases h), h3, h4, h5, fun x hx => ?_, h7.trans (hb.mono h7.size)⟩
  obtain ⟨k1, k2, k3⟩ := h6 x hx
  exact ⟨(hb.block x.1 (Array.getElem?_eq_some_iff.1 k1).1).trans k1, k2, k3⟩

/-- A new block that the walk holds. -/
theorem Hp.hold {w0 w : World} {X : List (Nat × Obj)} {gs gw room : Nat} {ps : List Pl} {fr : List Nat} {ts : List Int} {cs fr2 : List Nat} (h : Hp w0 w X gs gw room ps fr ts cs fr2) (o : Obj) : Hp w0 (w.alloc o) ((w.heap.size, o) :: X) gs gw room ps fr ts cs fr2 := by
  have hg := h.grow (grow_alloc w o)
  obtain ⟨vp, vf, vt, vc, vf2, h1, h2, _⟩ := h
  have l1 := h1.lts
  have l2 := h2.lts
  obtain ⟨vp', vf', vt', vc', vf2', g1, g2, g3, g4, g5, g6, g7⟩ := hg
  have e1 : vp' = vp := Option.some.inj (g1.c2.symm.trans (h1.mod (Mod.of_below (grow_alloc w o) []) (fun _ _ h => by cases h)).c2)
  have e2 : vf' = vf := Option.some.inj (g1.c3.symm.trans (h1.mod (Mod.of_below (grow_alloc w o) []) (fun _ _ h => by cases h)).c3)
  have e3 : vt' = vt := Option.some.inj (g2.c2.symm.trans (h2.mod (Mod.of_below (grow_alloc w o) []) (fun _ _ h => by cases h)).c2)
  have e4 : vc' = vc := Option.some.inj (g2.c3.symm.trans (h2.mod (Mod.of_below (grow_alloc w o) []) (fun _ _ h => by cases h)).c3)
  have e5 : vf2' = vf2 := Option.some.inj (g2.c4.symm.trans (h2.mod (Mod.of_below (grow_alloc w o) []) (fun _ _ h => by cases h)).c4)
  subst e1 e2 e3 e4 e5
  refine ⟨vp', vf', vt', vc', vf2', g1, g2, g3, g4, g5, fun x hx => ?_, g7⟩
  rcases List.mem_cons.1 hx with rfl | hx
  · exact ⟨heap_alloc_new w o, fun e => Nat.lt_irrefl _ (l1 _ e), fun e => Nat.lt_irrefl _ (l2 _ e)⟩
  · exact g6 x hx

/-- A call that turns the slab. -/
theorem Hp.useS {w0 w : World} {X : List (Nat × Obj)} {gs gw room : Nat} {ps ps' : List Pl} {fr fr' : List Nat} {ts : List Int} {cs fr2 : List Nat} {f : FuncId} {args : Array Value} {E : Value} (h : Hp w0 w X gs gw room ps fr ts cs fr2)
    (hc : ∀ vp vf, SlI w gs vp vf room ps fr → Calls Try.prog f args w fun e w' => e = .returned E ∧ TurnI w gs (slB gs vp vf) room ps' fr' w') : Calls Try.prog f args w fun e w' => e = .returned E ∧ Hp w0 w' X gs gw room ps' fr' ts cs fr2 := by
  obtain ⟨vp, vf, vt, vc, vf2, h1, h2, h3, h4, h5, h6, h7⟩ := h
  refine (hc vp vf h1).mono ?_
  rintro e w' ⟨rfl, vp', vf', k1, k2, k3⟩
  have hd : ∀ k ∈ rfB gw vt vc vf2, k ∉ slB gs vp vf := fun k hk e => h3 k e hk
  refine ⟨rfl, vp', vf', vt, vc, vf2, k1, h2.mod k2 hd, fun k hk hk2 => k3.apart hd h2.lts k hk2 hk, k3.base h4 h7.size, h5, fun x hx => ?_, h7.trans (k2.below h4 h7.size)⟩
  obtain ⟨x1, x2, x3⟩ := h6 x hx
  have hlt := (Array.getElem?_eq_some_iff.1 x1).1
  refine ⟨(k2.block x.1 hlt x2).trans x1, fun e => ?_, x3⟩
  rcases k3 x.1 e with e | e
  · exact x2 e
  · omega

/-- A call that turns the document's. -/
theorem Hp.useR {w0 w : World} {X : List (Nat × Obj)} {gs gw room : Nat} {ps : List Pl} {fr : List Nat} {ts ts' : List Int} {cs fr2 cs' fr2' : List Nat} {f : FuncId} {args : Array Value} {E : Value} (h : Hp w0 w X gs gw room ps fr ts cs fr2)
    (hc : ∀ vt vc vf2, Rf w gw vt vc vf2 room ts cs fr2 → Calls Try.prog f args w fun e w' => e = .returned E ∧ RTurn w gw (rfB gw vt vc vf2) room ts' cs' fr2' w') : Calls Try.prog f args w fun e w' => e = .returned E ∧ Hp w0 w' X gs gw room ps fr ts' cs' fr2' := by
  obtain ⟨vp, vf, vt, vc, vf2, h1, h2, h3, h4, h5, h6, h7⟩ := h
  refine (hc vt vc vf2 h2).mono ?_
  rintro e w' ⟨rfl, vt', vc', vf2', k1, k2, k3⟩
  refine ⟨rfl, vp, vf, vt', vc', vf2', h1.mod k2 h3, k1, fun k hk hk2 => k3.apart h3 h1.lts k hk hk2, h4, k3.base h5 h7.size, fun x hx => ?_, h7.trans (k2.below h5 h7.size)⟩
  obtain ⟨x1, x2, x3⟩ := h6 x hx
  have hlt := (Array.getElem?_eq_some_iff.1 x1).1
  refine ⟨(k2.block x.1 hlt x3).trans x1, x2, fun e => ?_⟩
  rcases k3 x.1 e with e | e
  · exact x3 e
  · omega

/-- A call that leaves both. -/
theorem Hp.look {w0 w : World} {X : List (Nat × Obj)} {gs gw room : Nat} {ps : List Pl} {fr : List Nat} {ts : List Int} {cs fr2 : List Nat} {f : FuncId} {args : Array Value} {P : Ending → World → Prop} (h : Hp w0 w X gs gw room ps fr ts cs fr2)
    (hc : ∀ vp vf vt vc vf2, SlI w gs vp vf room ps fr → Rf w gw vt vc vf2 room ts cs fr2 → Calls Try.prog f args w fun e w' => P e w' ∧ Below w.heap.size w w') : Calls Try.prog f args w fun e w' => P e w' ∧ Hp w0 w' X gs gw room ps fr ts cs fr2 := by
  have hh := h
  obtain ⟨vp, vf, vt, vc, vf2, h1, h2, _⟩ := h
  exact (hc vp vf vt vc vf2 h1 h2).mono (fun e w' ⟨h1, h2⟩ => ⟨h1, hh.grow h2⟩)

theorem same_below {w : World} {f : FuncId} {args : Array Value} {P : Ending → World → Prop} (hc : Calls Try.prog f args w fun e w' => P e w' ∧ w' = w) : Calls Try.prog f args w fun e w' => P e w' ∧ Below w.heap.size w w' := hc.mono (fun _ _ ⟨h1, h2⟩ => ⟨h1, h2 ▸ Below.refl _ _⟩)

/-- The slab's state beside the document's. -/
structure Rel (ps : List Pl) (fr : List Nat) (ts : List Int) (cs fr2 : List Nat) : Prop where
  cs : cs = ps.map (·.1)
  fr : fr2 = fr
  nums : NumsI ps
  ths : ∀ i, 0 < cnt ps i → thgI ps (i + 1) = ts[i]?.getD 0
  len : ts.length = ps.length

theorem thgI_eq {ps : List Pl} {i : Nat} {z : Int} (h : thg ps i = [Value.int .i64 z]) : thgI ps (i + 1) = z := by
  unfold thgI
  rw [Nat.add_sub_cancel, h]
  rfl
theorem thgI_congr {ps qs : List Pl} {i : Nat} (h : thg ps i = thg qs i) : thgI ps (i + 1) = thgI qs (i + 1) := by
  unfold thgI
  rw [Nat.add_sub_cancel, h]

theorem NumsI.set {ps : List Pl} (h : NumsI ps) (i c : Nat) (z : Int) : NumsI (ps.set i (c, [Value.int .i64 z])) := fun j hj => by
  have hj' : j < ps.length := by simpa using hj
  by_cases hi : i < ps.length
  · rw [thg_set ps i j _ hi]
    split
    · exact ⟨z, rfl⟩
    · exact h j hj'
  · rw [List.set_eq_of_length_le (by omega)]
    exact h j hj'
theorem NumsI.keep {ps : List Pl} (h : NumsI ps) (i c : Nat) : NumsI (ps.set i (c, thg ps i)) := fun j hj => by
  have hj' : j < ps.length := by simpa using hj
  by_cases hi : i < ps.length
  · rw [thg_set ps i j _ hi]
    split
    · exact h i hi
    · exact h j hj'
  · rw [List.set_eq_of_length_le (by omega)]
    exact h j hj'
theorem NumsI.snoc {ps : List Pl} (h : NumsI ps) (c : Nat) (z : Int) : NumsI (ps ++ [(c, [Value.int .i64 z])]) := fun j hj => by
  rw [thg_snoc]
  split
  · exact ⟨z, rfl⟩
  · exact h j (by simp at hj; omega)

theorem set_get (ts : List Int) (i j : Nat) (z : Int) (hi : i < ts.length) : (ts.set i z)[j]?.getD 0 = if j = i then z else ts[j]?.getD 0 := by
  rw [List.getElem?_set]
  by_cases h : i = j
  · subst h
    simp [hi]
  · rw [if_neg h, if_neg (fun e => h e.symm)]

theorem Rel.takeFree {ps : List Pl} {fr : List Nat} {ts : List Int} {cs fr2 : List Nat} {i : Nat} (h : Rel ps (fr ++ [i + 1]) ts cs fr2) (hi : i < ps.length) (z : Int) : Rel (ps.set i (1, [Value.int .i64 z])) fr (ts.set i z) (cs.set i 1) fr := by
  refine ⟨by rw [h.cs, List.map_set], rfl, h.nums.set i 1 z, fun j hj => ?_, by simp [h.len]⟩
  rw [set_get ts i j z (by rw [h.len]; exact hi)]
  split
  · next e =>
    subst e
    exact thgI_eq (by rw [thg_set ps _ _ _ hi, if_pos rfl])
  · next e =>
    rw [cnt_set ps i j _ hi, if_neg e] at hj
    rw [← h.ths j hj]
    exact thgI_congr (by rw [thg_set ps i j _ hi, if_neg e])
theorem Rel.takeNew {ps : List Pl} {ts : List Int} {cs fr2 : List Nat} (h : Rel ps [] ts cs fr2) (z : Int) : Rel (ps ++ [(1, [Value.int .i64 z])]) [] (ts ++ [z]) (cs ++ [1]) [] := by
  refine ⟨by rw [h.cs]; simp, rfl, h.nums.snoc 1 z, fun j hj => ?_, by simp [h.len]⟩
  by_cases e : j = ps.length
  · subst e
    rw [← h.len]
    rw [thgI_eq (ps := ps ++ [(1, [Value.int .i64 z])]) (by rw [h.len, thg_snoc, if_pos rfl])]
    simp
  · rw [cnt_snoc, if_neg e] at hj
    have hl := cnt_lt hj
    rw [List.getElem?_append_left (by rw [h.len]; exact hl), ← h.ths j hj]
    exact thgI_congr (by rw [thg_snoc, if_neg e])
theorem Rel.keep {ps : List Pl} {fr : List Nat} {ts : List Int} {cs fr2 : List Nat} {i : Nat} (h : Rel ps fr ts cs fr2) (hi : 0 < cnt ps i) (q : Nat) : Rel (ps.set i (q, thg ps i)) fr ts (cs.set i q) fr := by
  have hl := cnt_lt hi
  refine ⟨by rw [h.cs, List.map_set], rfl, h.nums.keep i q, fun j hj => ?_, by simp [h.len]⟩
  have e : thg (ps.set i (q, thg ps i)) j = thg ps j := by
    rw [thg_set ps i j _ hl]
    split
    · next e => rw [e]
    · rfl
  rw [thgI_congr e]
  apply h.ths
  rw [cnt_set ps i j _ hl] at hj
  split at hj
  · next e => rw [e]; exact hi
  · exact hj
theorem Rel.drop {ps : List Pl} {fr : List Nat} {ts : List Int} {cs fr2 : List Nat} {i : Nat} (h : Rel ps fr ts cs fr2) (hi : 0 < cnt ps i) : Rel (ps.set i (0, [Value.int .i64 0])) (fr ++ [i + 1]) ts (cs.set i 0) (fr ++ [i + 1]) := by
  have hl := cnt_lt hi
  refine ⟨by rw [h.cs, List.map_set], rfl, h.nums.set i 0 0, fun j hj => ?_, by simp [h.len]⟩
  rw [cnt_set ps i j _ hl] at hj
  split at hj
  · simp at hj
  · next e =>
    rw [← h.ths j hj]
    exact thgI_congr (by rw [thg_set ps i j _ hl, if_neg e])
theorem Rel.put {ps : List Pl} {fr : List Nat} {ts : List Int} {cs fr2 : List Nat} {i : Nat} (h : Rel ps fr ts cs fr2) (hi : 0 < cnt ps i) (z : Int) : Rel (ps.set i (cnt ps i, [Value.int .i64 z])) fr (ts.set i z) cs fr := by
  have hl := cnt_lt hi
  refine ⟨?_, rfl, h.nums.set i _ z, fun j hj => ?_, by simp [h.len]⟩
  · rw [h.cs, List.map_set]
    symm
    apply List.ext_getElem?
    intro j
    rw [List.getElem?_set]
    split
    · next e =>
      subst e
      simp [cnt, hl]
    · rfl
  · rw [set_get ts i j z (by rw [h.len]; exact hl)]
    split
    · next e =>
      subst e
      exact thgI_eq (by rw [thg_set ps _ _ _ hl, if_pos rfl])
    · next e =>
      rw [cnt_set ps i j _ hl, if_neg e] at hj
      rw [← h.ths j hj]
      exact thgI_congr (by rw [thg_set ps i j _ hl, if_neg e])
theorem Rel.cn {ps : List Pl} {fr : List Nat} {ts : List Int} {cs fr2 : List Nat} (h : Rel ps fr ts cs fr2) (i : Nat) : cn cs i = cnt ps i := by rw [h.cs, cn_map]
theorem Rel.vac {ps : List Pl} {fr : List Nat} {ts : List Int} {cs fr2 : List Nat} (h : Rel ps fr ts cs fr2) {slot : Int} (hv : Vac ps slot) : VacC cs slot := fun i hi => by rw [h.cn]; exact hv i hi

end Go.Proofs.Ytodigmmpodbpiaa
