/- What PutMap's walk keeps: a store beside a variable of its own. -/
import Derived.Test.YtlinalcjdpikeaaGreatDoorPm31
import Derived.Test.YtlinalcjdpikeaaGreatDoorPm40
namespace Go.Proofs.YtlinalcjdpikeaaGreatDoor
set_option maxRecDepth 20000
open Go.RowKit

/-- The store at g, in blocks new since w1, and a digest in the block bt beside it. -/
def Hy (w1 w : World) (g gs R bt : Nat) (D : List Int) (cs : List (Nat × Ce)) (fr : List Nat) : Prop :=
  (∃ vp vf, Stm w g gs vp vf R cs fr ∧ (∀ k ∈ stB g gs vp vf cs, w1.heap.size ≤ k ∧ k ≠ bt)) ∧ Below w1.heap.size w1 w ∧ Blk w bt 55 (B D) ∧ w1.heap.size ≤ bt ∧ Wf cs []

section
variable {w1 w w' : World} {g gs R bt : Nat} {D : List Int} {cs : List (Nat × Ce)} {fr : List Nat}
theorem Hy.low (h : Hy w1 w g gs R bt D cs fr) : Below w1.heap.size w1 w := h.2.1
theorem Hy.wf (h : Hy w1 w g gs R bt D cs fr) : Wf cs [] := h.2.2.2.2
theorem Hy.blk (h : Hy w1 w g gs R bt D cs fr) : Blk w bt 55 (B D) := h.2.2.1
theorem Hy.grow (h : Hy w1 w g gs R bt D cs fr) (hb : Below w.heap.size w w') : Hy w1 w' g gs R bt D cs fr := by
  obtain ⟨⟨vp, vf, s, n⟩, h1, h2, h3, h4⟩ := h
  exact ⟨⟨vp, vf, s.grow hb, n⟩, grow_trans h1 hb, h2.grow hb, h3, h4⟩
theorem Hy.hs (h : Hy w1 w g gs R bt D cs fr) : ∃ S, Hs w S w g gs R cs fr ∧ (∀ P : World → Prop, (∀ w', Below w1.heap.size w1 w' → P w') → Kq S w P) ∧ ∀ w' cs' fr', Hs w S w' g gs R cs' fr' → Hy w1 w' g gs R bt D cs' fr' := by
  obtain ⟨⟨vp, vf, s, n⟩, h1, h2, h3, h4⟩ := h
  refine ⟨stB g gs vp vf cs, Hs.here s h4, fun P hP => Kq.of_low hP h1 (fun k hk => (n k hk).1), fun w' cs' fr' k => ?_⟩
  obtain ⟨⟨vp', vf', s', m', n'⟩, W'⟩ := k
  refine ⟨⟨vp', vf', s', fun q hq => ?_⟩, h1.trans (m'.below (fun q hq => (n q hq).1) h1.size), h2.mod m' (fun e => (n bt e).2 rfl), h3, W'⟩
  rcases n' q hq with e | e
  · exact n q e
  · have := h2.lt
    exact ⟨Nat.le_trans h1.size e, by omega⟩
theorem Hy.put (h : Hy w1 w g gs R bt D cs fr) {D' : List Int} (hB : Blk w' bt 55 (B D')) (hg : w.grownBy w' (some bt)) : Hy w1 w' g gs R bt D' cs fr := by
  obtain ⟨⟨vp, vf, s, n⟩, h1, h2, h3, h4⟩ := h
  have m : Mod [bt] w w' := Mod.of_some hg (by simp)
  exact ⟨⟨vp, vf, s.mod m (fun k hk e => (n k hk).2 (List.mem_singleton.1 e)), n⟩, h1.trans (m.below (fun k hk => by rw [List.mem_singleton.1 hk]; exact h3) h1.size), hB, h3, h4⟩
theorem Hy.new (H : Hs w1 [] w g gs R cs fr) (hb : Below w.heap.size w w') (hbt : w.heap.size ≤ bt) (hB : Blk w' bt 55 (B D)) : Hy w1 w' g gs R bt D cs fr := by
  have hl := H.low
  obtain ⟨⟨vp, vf, s, m, n⟩, W⟩ := H
  refine ⟨⟨vp, vf, s.grow hb, fun k hk => ?_⟩, grow_trans hl hb, hB, Nat.le_trans hl.size hbt, W⟩
  have := s.lts k hk
  rcases n k hk with e | e
  · cases e
  · exact ⟨e, by omega⟩
end

/-- What the walk knows of its map, of its root, and of what it kept. -/
structure Mp (cs : List (Nat × Ce)) (k : Nat) (its : List It) (root : Nat) (T : Tre) (kept : Nat) (D : List Int) : Prop where
  rt : Rt cs root T
  ents : T.ents.Perm (its.map (·.1))
  own : ∀ i, own cs [] i ≤ 2 * k
  noc : noc cs ≤ 257 * k
  held : kept = 0 ∨ (1 ≤ kept ∧ 1 + (if root = kept then 1 else 0) ≤ Go.Proofs.YtlinalcjdpikeaaGreatDoor.own cs [] (kept - 1) ∧ ∃ X, IsT cs kept X ∧ ((sdC cs kept).kind = 2 → (sdC cs kept).dp = 0) ∧ D = Go.Proofs.YtlinalcjdpikeaaGreatDoor.rt 256 0 X.ents)

theorem mp_zero : Mp [] 0 [] 0 .emp 0 z32 := ⟨Rt.zero [], List.Perm.refl _, fun i => by rw [own_nil]; omega, by show 0 ≤ _; omega, .inl rfl⟩

theorem own_moreC {cs : List (Nat × Ce)} (W : Wf cs []) {i : Nat} (hi : 0 < cc cs i) (j : Nat) : own (moreC cs i) [] j = own cs [] j + (if i = j then 1 else 0) := by
  have := W.le j
  unfold own
  rw [moreC_cc hi, moreC_ce]
  omega

/-- The root is held once more and kept. -/
theorem mp_keep {cs : List (Nat × Ce)} {k : Nat} {its : List It} {root : Nat} {T : Tre} {kept : Nat} {D : List Int} (W : Wf cs []) (m : Mp cs k its root T kept D) (h0 : 0 < root) : 0 < cc cs (root - 1) ∧ Rt (moreC cs (root - 1)) root T ∧ (∀ i, own (moreC cs (root - 1)) [] i ≤ 2 * k + 1) ∧ noc (moreC cs (root - 1)) = noc cs ∧ 2 ≤ own (moreC cs (root - 1)) [] (root - 1) := by
  have hc : 0 < cc cs (root - 1) := (m.rt.tree.occ.resolve_left (by omega)).2
  have hk : ∀ i, 0 < cc cs i → 0 < cc (moreC cs (root - 1)) i ∧ Core (ce cs i) (ce (moreC cs (root - 1)) i) := fun i hi => by
    rw [moreC_cc hc, moreC_ce]
    exact ⟨by omega, Core.refl _⟩
  have ho := m.rt.own.resolve_left (by omega)
  refine ⟨hc, ⟨m.rt.tree.keep hk, ?_, .inr (by rw [own_moreC W hc]; omega)⟩, fun i => ?_, moreC_noc hc, by rw [own_moreC W hc, if_pos rfl]; omega⟩
  · have hd := m.rt.dp
    rw [sdC, if_neg (by omega)] at hd ⊢
    rw [moreC_ce]
    exact hd
  · rw [own_moreC W hc]
    have := m.own i
    split <;> omega

/-- What is kept and held stays, to the digest. -/
theorem held_stay {cs cs' : List (Nat × Ce)} {root top kept : Nat} {D : List Int} (hold : 1 ≤ kept ∧ 1 + (if root = kept then 1 else 0) ≤ own cs [] (kept - 1) ∧ ∃ X, IsT cs kept X ∧ ((sdC cs kept).kind = 2 → (sdC cs kept).dp = 0) ∧ D = rt 256 0 X.ents) (ho : ∀ i, own cs' [] i + (if root = i + 1 then 1 else 0) = own cs [] i + (if top = i + 1 then 1 else 0)) (hkeep : ∀ x X, IsT cs x X → (x = 0 ∨ 0 < cc cs' (x - 1)) → IsT cs' x X) :
    1 ≤ kept ∧ 1 + (if top = kept then 1 else 0) ≤ own cs' [] (kept - 1) ∧ ∃ X, IsT cs' kept X ∧ ((sdC cs' kept).kind = 2 → (sdC cs' kept).dp = 0) ∧ D = rt 256 0 X.ents := by
  obtain ⟨h1, h2, X, h3, h4, h5⟩ := hold
  have h6 := ho (kept - 1)
  rw [show kept - 1 + 1 = kept by omega] at h6
  have h7 : 1 + (if top = kept then 1 else 0) ≤ own cs' [] (kept - 1) := by omega
  have h8 : 0 < cc cs' (kept - 1) := by
    unfold own at h7
    omega
  have h9 := hkeep kept X h3 (.inr h8)
  refine ⟨h1, h7, X, h9, fun q => ?_, h5⟩
  match X, h3, h9 with
  | .emp, e, _ => have : kept = 0 := e; omega
  | .lf _ _, _, e => rw [sdC, if_neg (by omega)] at q; have := e.2.2.1; omega
  | .nd d _ _ _ _, e0, e =>
    have hk : (sdC cs kept).kind = 2 := by rw [sdC, if_neg (by omega)]; exact e0.2.2.1
    have := h4 hk
    rw [sdC, if_neg (by omega)] at this ⊢
    rw [e.2.2.2.1, ← e0.2.2.2.1]
    exact this

end Go.Proofs.YtlinalcjdpikeaaGreatDoor

/- What one write of PutMap makes, and what is told behind it. -/
namespace Go.Proofs.YtlinalcjdpikeaaGreatDoor
set_option maxRecDepth 20000
open Go.RowKit

/-- Behind a write. -/
def Ax (w1 w : World) (g gs R bt : Nat) (D : List Int) (k : Nat) (its : List It) (top kept lim : Nat) : Prop := ∃ cs fr T, Hy w1 w g gs R bt D cs fr ∧ Mp cs k its top T kept D ∧ noc cs ≤ lim ∧ 1 ≤ top ∧ 1 ≤ own cs [] (top - 1)
theorem Ax.grow {w1 w w' : World} {g gs R bt : Nat} {D : List Int} {k : Nat} {its : List It} {top kept lim : Nat} (h : Ax w1 w g gs R bt D k its top kept lim) (hb : Below w.heap.size w w') : Ax w1 w' g gs R bt D k its top kept lim := by
  obtain ⟨cs, fr, T, h1, h2⟩ := h
  exact ⟨cs, fr, T, h1.grow hb, h2⟩
theorem Ax.low {w1 w : World} {g gs R bt : Nat} {D : List Int} {k : Nat} {its : List It} {top kept lim : Nat} (h : Ax w1 w g gs R bt D k its top kept lim) : Below w1.heap.size w1 w := by
  obtain ⟨cs, fr, T, h1, h2⟩ := h
  exact h1.low

section
variable {w1 w : World} {g gs R bt : Nat} {D : List Int} {k : Nat} {its : List It} {top kept lim : Nat}
theorem Ax.occ (h : Ax w1 w g gs R bt D k its top kept lim) : ∃ o : Nat, o ≤ lim ∧ Calls Tryz.prog 18 #[.pointer (some ⟨g, 0, none⟩)] w fun e w' => e = .returned (.int .i64 (o : Int)) ∧ Below w.heap.size w w' := by
  obtain ⟨cs, fr, T, h1, h2, h3, _⟩ := h
  obtain ⟨S, hs, _, _⟩ := h1.hs
  exact ⟨noc cs, h3, hs_occ hs⟩
theorem Ax.held (h : Ax w1 w g gs R bt D k its top kept lim) : ∃ o : Nat, 1 ≤ o ∧ Calls Tryz.prog 22 #[.pointer (some ⟨g, 0, none⟩), .int .i64 (top : Int)] w fun e w' => e = .returned (.int .i64 (o : Int)) ∧ Below w.heap.size w w' := by
  obtain ⟨cs, fr, T, h1, h2, h3, h4, h5⟩ := h
  obtain ⟨S, hs, _, _⟩ := h1.hs
  refine ⟨_, ?_, held_any hs.vw (top : Int)⟩
  unfold own at h5
  rw [cot, if_pos (by omega), show ((top : Int) - 1).toNat = top - 1 by omega, cat_nat, sdC, if_neg (by omega)]
  simpa using h5
theorem Ax.dig (h : Ax w1 w g gs R bt D k its top kept lim) (hL : Laid w) : Calls Tryz.prog 20 #[.pointer (some ⟨g, 0, none⟩), .int .i64 (top : Int)] w fun e w' => e = .returned (.agg (B (rt 256 0 (its.map (·.1))))) ∧ Below w.heap.size w w' := by
  obtain ⟨cs, fr, T, h1, h2, _⟩ := h
  obtain ⟨S, hs, _, _⟩ := h1.hs
  have := sdig_any hs.vw (top : Int) hL
  have e : vDg true (cat cs) (top : Int) = rt 256 0 (its.map (·.1)) := by
    have e1 : vDg true (cat cs) (top : Int) = sdD cs top := by
      unfold vDg sdD
      by_cases h0 : top = 0
      · subst h0
        rfl
      · rw [if_neg (by omega), if_neg h0, cat_nat, sdC, if_neg h0]
    rw [e1, h2.rt.dig h1.wf]
    exact rt_perm _ _ _ _ h2.ents
  rwa [e] at this
theorem Ax.size (h : Ax w1 w g gs R bt D k its top kept lim) : Calls Tryz.prog 25 #[.pointer (some ⟨g, 0, none⟩), .int .i64 (top : Int)] w fun e w' => e = .returned (.int .i64 (its.length : Int)) ∧ Below w.heap.size w w' := by
  obtain ⟨cs, fr, T, h1, h2, _⟩ := h
  obtain ⟨S, hs, _, _⟩ := h1.hs
  have := size_any hs.vw (top : Int)
  rwa [cat_nat, h2.rt.size h1.wf, h2.ents.length_eq, List.length_map] at this
end

/-- A write, at a store that holds what it held, or the root once more. -/
theorem mp_put {w1 w : World} {g gs bt : Nat} {D : List Int} {cs : List (Nat × Ce)} {fr : List Nat} (H : Hy w1 w g gs 8256 bt D cs fr) {k root kept o : Nat} {its : List It} {T : Tre} (r : Rt cs root T) (he : T.ents.Perm (its.map (·.1))) (hap : (its.map (·.1)).Pairwise fun a b => a.1 ≠ b.1) (ho : ∀ i, own cs [] i ≤ 2 * k + 1) (hn : noc cs = o) (hn2 : o ≤ 257 * k) (hk : k < 16)
    (hh : kept = 0 ∨ (1 ≤ kept ∧ 1 + (if root = kept then 1 else 0) ≤ own cs [] (kept - 1) ∧ ∃ X, IsT cs kept X ∧ ((sdC cs kept).kind = 2 → (sdC cs kept).dp = 0) ∧ D = rt 256 0 X.ents))
    {K bs : List Int} (hK : Key K) {u : Value} (hu : ∀ w', Below w1.heap.size w1 w' → Reads w' u bs) (hL : ∀ w', Below w1.heap.size w1 w' → Laid w') (hl : bs.length ≤ 1024) {ss : List Nat} (hss : BesIs K T root ss) (h256 : ss.length ≤ 256) :
    Calls Tryz.prog 21 #[.pointer (some ⟨g, 0, none⟩), .int .i64 (root : Int), .agg (B K), u] w fun e w' => ∃ top : Nat, e = .returned (.tuple #[.int .i64 (top : Int), .int .i64 0]) ∧ Ax w1 w' g gs 8256 bt D (k + 1) (upI its (((K, bs), u) : It)) top kept (o + costN T K bs ss) := by
  obtain ⟨S, hs, hkq, hbk⟩ := H.hs
  refine (put_any hs r hK (hkq _ hu) (hkq _ hL) hl (fun i => by have := ho i; omega) (by omega) hss).mono ?_
  rintro e w' ⟨top, cs', fr', T', rfl, p, h'⟩
  have hcn : costN T K bs ss ≤ 257 := by
    unfold costN
    split <;> omega
  have hp := upI_up its (((K, bs), u) : It) hap
  refine ⟨top, rfl, cs', fr', T', hbk _ _ _ h', ⟨p.rt, (p.ents.trans (upE_perm he K bs)).trans hp.1.symm, fun i => own_step (p.own i) (ho i) (by omega), by have := p.noc; omega, ?_⟩, by have := p.noc; omega, p.pos, ?_⟩
  · rcases hh with e | e
    · exact .inl e
    · exact .inr (held_stay e p.own p.keep)
  · have := p.rt.own.resolve_left (by have := p.pos; omega)
    omega

/-- What is kept is as it was. -/
theorem Hy.kept {w1 w : World} {g gs R bt : Nat} {D : List Int} {cs : List (Nat × Ce)} {fr : List Nat} (H : Hy w1 w g gs R bt D cs fr) {kept root : Nat} (hh : 1 ≤ kept ∧ 1 + (if root = kept then 1 else 0) ≤ own cs [] (kept - 1) ∧ ∃ X, IsT cs kept X ∧ ((sdC cs kept).kind = 2 → (sdC cs kept).dp = 0) ∧ D = rt 256 0 X.ents) (hL : Laid w) :
    (Calls Tryz.prog 20 #[.pointer (some ⟨g, 0, none⟩), .int .i64 (kept : Int)] w fun e w' => e = .returned (.agg (B D)) ∧ Below w.heap.size w w') ∧ ∃ o : Nat, 1 ≤ o ∧ ∀ w', Below w.heap.size w w' → Calls Tryz.prog 22 #[.pointer (some ⟨g, 0, none⟩), .int .i64 (kept : Int)] w' fun e w'' => e = .returned (.int .i64 (o : Int)) ∧ Below w'.heap.size w' w'' := by
  obtain ⟨h1, h2, X, h3, h4, h5⟩ := hh
  obtain ⟨S, hs, _, _⟩ := H.hs
  constructor
  · have := sdig_any hs.vw (kept : Int) hL
    have e : vDg true (cat cs) (kept : Int) = D := by
      rw [h5]
      unfold vDg
      rw [if_neg (by omega), cat_nat]
      have := (tree_ok H.wf X kept h3).dig 0 h4
      unfold sdD at this
      rw [if_neg (by omega)] at this
      rw [sdC, if_neg (by omega)]
      exact this
    rwa [e] at this
  · refine ⟨_, ?_, fun w' hb => held_any (hs.grow hb).vw (kept : Int)⟩
    have : 1 ≤ own cs [] (kept - 1) := by omega
    unfold own at this
    rw [cot, if_pos (by omega), show ((kept : Int) - 1).toNat = kept - 1 by omega, cat_nat, sdC, if_neg (by omega)]
    simpa using this

theorem Hy.rtDig {w1 w : World} {g gs R bt : Nat} {D : List Int} {cs : List (Nat × Ce)} {fr : List Nat} (H : Hy w1 w g gs R bt D cs fr) {root : Nat} {T : Tre} (r : Rt cs root T) : (rt 256 0 T.ents).length = 32 ∧ (∀ w', Below w.heap.size w w' → Laid w' → Calls Tryz.prog 20 #[.pointer (some ⟨g, 0, none⟩), .int .i64 (root : Int)] w' fun e w'' => e = .returned (.agg (B (rt 256 0 T.ents))) ∧ Below w'.heap.size w' w'') := by
  obtain ⟨S, hs, _, _⟩ := H.hs
  have e : vDg true (cat cs) (root : Int) = rt 256 0 T.ents := by
    have e1 : vDg true (cat cs) (root : Int) = sdD cs root := by
      unfold vDg sdD
      by_cases h0 : root = 0
      · subst h0
        rfl
      · rw [if_neg (by omega), if_neg h0, cat_nat, sdC, if_neg h0]
    rw [e1, r.dig H.wf]
  refine ⟨?_, fun w' hb hl => ?_⟩
  · rw [← e]
    exact (vDg_len hs.vw _).1
  · have := sdig_any (hs.grow hb).vw (root : Int) hl
    rwa [e] at this
theorem Hy.keptLen {w1 w : World} {g gs R bt : Nat} {D : List Int} {cs : List (Nat × Ce)} {fr : List Nat} (H : Hy w1 w g gs R bt D cs fr) {kept : Nat} (hh : ∃ X, IsT cs kept X ∧ ((sdC cs kept).kind = 2 → (sdC cs kept).dp = 0) ∧ D = rt 256 0 X.ents) : D.length = 32 := by
  obtain ⟨X, h3, h4, h5⟩ := hh
  obtain ⟨S, hs, _, _⟩ := H.hs
  have hd := (tree_ok H.wf X kept h3).dig 0 h4
  rw [h5, ← hd]
  unfold sdD
  split
  · exact dig_length _
  · exact (H.wf.ok _).ld

/-- The root of what pairs answered. -/
theorem root_of {es : List Ent} (hl : es.length ≤ 16) (hv : ∀ e ∈ es, e.2.length ≤ 1024) (ha : es.Pairwise fun a b => a.1 ≠ b.1) {h : List Int} {E : Int} (p : RootIs es 0 h E) : h = rt 256 0 es ∧ E = 0 := by
  have he : errB es = 0 := by
    unfold errB
    rw [if_neg (by omega)]
    exact lsE_of [] es hv ha (fun _ _ h => by cases h)
  cases p with
  | out q => omega
  | bad _ _ _ q1 q2 => exact absurd (q1.symm.trans he) q2
  | part _ _ q1 q2 => exact absurd (fun _ _ _ _ j hj => by simp at hj) q2
  | good _ _ q1 q2 => exact ⟨by simp, rfl⟩

/-- The first entries of a list in memory. -/
theorem PrAt.take {w : World} {a : Option Addr} {n cap : Nat} {V : Nat → Value} {es : List Ent} (h : PrAt w (.slice a n cap) V es) (hn : n = es.length) (k : Nat) (hk : k ≤ n) : PrAt w (.slice a k cap) V (es.take k) := by
  obtain ⟨a', cap', e, h1, h2, h3⟩ := h
  injection e with e1 e2 e3
  subst e1 e3
  have hl : (es.take k).length = k := by rw [List.length_take]; omega
  have hg : ∀ i, i < k → (es.take k).getD i e00 = es.getD i e00 := fun i hi => by
    simp only [List.getD_eq_getElem?_getD, List.getElem?_take]
    rw [if_pos hi]
  refine ⟨a, cap, by rw [hl], by rw [hl]; omega, fun hp => ?_, fun i hi => ?_⟩
  · rw [hl] at hp
    obtain ⟨g, off, ea, hr⟩ := h2 (by omega)
    exact ⟨g, off, ea, fun i hi => by rw [hl] at hi; rw [hg i hi]; exact hr i (by omega)⟩
  · rw [hl] at hi
    rw [hg i hi]
    exact h3 i (by omega)
theorem inI_of_take (es : List Ent) (V : Nat → Value) (k : Nat) (hk : k ≤ es.length) : inI (es.take k) V = (inI es V).take k := by
  have hl : (es.take k).length = k := by rw [List.length_take]; omega
  apply List.ext_getElem
  · rw [inI_len, hl, List.length_take, inI_len]
    omega
  · intro i h1 h2
    rw [inI_len, hl] at h1
    simp [inI, List.getD_eq_getElem?_getD, List.getElem?_take, h1]

end Go.Proofs.YtlinalcjdpikeaaGreatDoor

/- PutMap's walk: behind any writes the digest is the root of the map that they lead to; what is held besides is as it was. -/
namespace Go.Proofs.YtlinalcjdpikeaaGreatDoor
set_option maxRecDepth 20000
open Go.RowKit

theorem built_zh9 : Tryz.prog.built 55 [] = some (B z32) := by kernel_rfl

set_option maxRecDepth 100000 in
set_option maxHeartbeats 16000000 in
theorem putMap_walk (keep : Int) (v : Value) (V : Nat → Value) (es : List Ent) (w : World) (hL : Laid w) (hv : PrAt w v V es) : Calls Tryz.prog 6 #[v, .int .i64 keep] w fun e w' => e = .returned (.bool true) ∧ Below w.heap.size w w' := by
  have HAW := hidden (awake9_any w hL)
  have HLG : Hid (∀ w', Below w.heap.size w w' → Calls Tryz.prog 16 #[v] w' fun e w'' => e = .returned (.bool (lgP es)) ∧ Below w'.heap.size w' w'') := fun w' hb => large_any (hv.grow hb)
  have HL : Hid (∀ w', Below w.heap.size w w' → Laid w') := fun w' hb => hL.grow hb
  have hv0 := hv
  obtain ⟨a, cap, rfl, hcap, hc, hr⟩ := hv
  cases hlg : lgP es with
  | true =>
    rw [hlg] at HLG
    generalize es.length = n at HLG ⊢
    clear hc hr hcap HL hlg hv0 hL
    go_enter Tryz.func6, Tryz.ntmps6
    go_wp2_with (first
      | (go_at_call 15; refine HAW.out.mono ?_; rintro e w1 ⟨rfl, b1⟩; have HQ1 := hidden b1; clear b1)
      | (go_at_call 16; refine (HLG.out _ HQ1.out).mono ?_; rintro e w2 ⟨rfl, b2⟩; have HQ2 := hidden (grow_trans HQ1.out b2); clear b2))
    go_ret
    exact ⟨rfl, HQ2.out⟩
  | false =>
  rw [hlg] at HLG
  obtain ⟨h16, h1024⟩ := lgP_false hlg
  have HNW : Hid (∀ w', Calls Tryz.prog 7 #[.int .i64 8256] w' fun e w'' => ∃ g gs, e = .returned (.tuple #[.pointer (some ⟨g, 0, none⟩), .int .i64 0]) ∧ Hs w' [] w'' g gs 8256 [] []) := fun w' => hs_new 8256 w' (by omega) (by omega)
  have HAT : Hid (∀ k, k < es.length → ∃ lb off ua uc, a = some ⟨lb, off, none⟩ ∧ V k = .slice ua (es.getD k e00).2.length uc ∧ Key (es.getD k e00).1 ∧ (es.getD k e00).2.length ≤ 1024 ∧ (∀ w', Below w.heap.size w w' → w'.rangeAt lb (off + k * 33) (encP (es.getD k e00).1 (V k)) ∧ Reads w' (V k) (es.getD k e00).2)) := fun k hk => by
    obtain ⟨lb, off, e1, h1⟩ := hc (by omega)
    have h2 := hr k hk
    have hk2 := h2.1
    obtain ⟨ua, uc, e2, _⟩ := h2.2
    refine ⟨lb, off, ua, uc, e1, e2, hk2, h1024 _ (by rw [List.getD_eq_getElem?_getD, List.getElem?_eq_getElem hk]; exact List.getElem_mem _), fun w' hb => ⟨rng_grow (h1 k hk) hb, h2.2.grow hb⟩⟩
  have HLM : Hid (∀ q ∈ inI es V, q.1.2.length ≤ 1024 ∧ Key q.1.1 ∧ ∀ w', Below w.heap.size w w' → Reads w' q.2 q.1.2) := fun q hq => by
    obtain ⟨i, hi, rfl⟩ := List.mem_map.1 hq
    have hi := List.mem_range.1 hi
    obtain ⟨_, _, _, _, _, _, q2, q3, q4⟩ := HAT.out i hi
    exact ⟨q3, q2, fun w' hb => (q4 w' hb).2⟩
  have HIN : Hid (∀ k, k < es.length → prI ((inI es V).take (k + 1)) = upI (prI ((inI es V).take k)) (es.getD k e00, V k)) := fun k hk => by rw [inI_take es V k hk, prI_snoc]
  have HPA : Hid (∀ k, k ≤ es.length → PrAt w (.slice a k cap) V (es.take k)) := fun k hk => hv0.take rfl k hk
  have HIT : Hid (∀ k, k ≤ es.length → inI (es.take k) V = (inI es V).take k) := fun k hk => inI_of_take es V k hk
  obtain ⟨n, hn⟩ : ∃ n, n = es.length := ⟨_, rfl⟩
  have HN := hidden hn
  have hn16 : n ≤ 16 := by omega
  have HCAP : Hid (n ≤ cap) := by rw [hn]; exact hcap
  rw [← hn] at HLG HPA HIT ⊢
  generalize inI es V = l at HLM HIN HIT
  have HB0 := hidden built_zh9
  have HZS : Hid ((Tryz.prog.info? 55).map (·.size) = some (B z32).size) := size_hash
  have HZP : Hid (∀ w, (zeroValue 55).run Tryz.prog w = .ok (.agg (B z32)) w) := fun w => zero_hash w
  have HM0 := hidden mp_zero
  have HZL : Hid (z32.length = 32) := rfl
  have HPZ : Hid ([] = prI (l.take 0)) := by show _ = _; rw [List.take_zero]; rfl
  generalize z32 = Z at HB0 HZS HZP HM0 HZL
  clear hc hr hcap hlg h16 h1024 hn hL hv0
  go_enter Tryz.func6, Tryz.ntmps6
  go_wp2_with (first
    | (go_at_call 15; refine HAW.out.mono ?_; rintro e wa ⟨rfl, b1⟩; have HQ1 := hidden b1; clear b1)
    | (go_at_call 16; refine (HLG.out _ HQ1.out).mono ?_; rintro e w1 ⟨rfl, b2⟩; have HQW := hidden (grow_trans HQ1.out b2); clear b2)
    | (go_at_call 7; refine (HNW.out _).mono ?_; rintro e w2 ⟨g, gs, rfl, h2⟩; have HH2 := hidden h2; clear h2)
    | ((with_reducible refine at_bdd 29 ?_); refine wpList_bld _ rfl _ _ rfl _ (by rw [List.map_toArray]; exact HB0.out) ?_)
    | ((with_reducible refine at_ald 10 ?_); refine wpList_al _ rfl _ rfl _ HZP.out ?_; intro w3 bt hg3 hl3 B3 q3; have HB3 := hidden B3; have HG3 := hidden hg3; have HQ3 := hidden q3; clear hg3 hl3 B3 q3)
    | ((with_reducible refine at_st 10 ?_); refine wpList_sto _ rfl _ _ _ rfl bt _ (B Z) rfl rfl HB3.out HZS.out rfl (B_one _) ?_; intro w4 B4 r4; have HY4 := hidden (Hy.new HH2.out (below_row HQ3.out r4 HG3.out) HG3.out B4); clear B4 r4))
  clear HB3 HG3 HQ3 HH2 HAW HLG HNW HQ1 HB0 HZP HZS
  go_loopw [8, 9, 11] (fun rv kv iv wr => ∃ (k root kept : Nat) (D : List Int), k ≤ n ∧ rv = .int .i64 (root : Int) ∧ kv = .int .i64 (kept : Int) ∧ iv = .int .i64 (k : Int) ∧ Hid (D.length = 32 ∧ ∃ cs fr T, Hy w1 wr g gs 8256 bt D cs fr ∧ Mp cs k (prI (l.take k)) root T kept D)) (fun _ _ iv _ => n - (intOf iv).toNat)
  case atStart => exact ⟨0, 0, 0, Z, by omega, rfl, rfl, rfl, HZL.out, [], [], .emp, HY4.out, by rw [← HPZ.out]; exact HM0.out⟩
  case round =>
    clear HY4 HM0 HZL HPZ
    obtain ⟨k, root, kept, D, hk, rfl, rfl, rfl, HST0⟩ := hrel
    have HDL := hidden HST0.out.1
    have HST := hidden HST0.out.2
    clear HST0
    by_cases hlt : k < n
    · obtain ⟨lb, off, ua, uc, rfl, hVk, hKey, hlen, hat⟩ := HAT.out k (by rw [← HN.out]; exact hlt)
      obtain ⟨cs, fr, T, HYc, M⟩ := HST.out
      have HYR := hidden HYc
      obtain ⟨ss, hss, h256⟩ := M.rt.bes HYc.wf hKey
      have hap : ((prI (l.take k)).map (·.1)).Pairwise fun a b => a.1 ≠ b.1 := prI_apart _ _ rfl
      have hst : prI (l.take (k + 1)) = upI (prI (l.take k)) (es.getD k e00, V k) := HIN.out k (by rw [← HN.out]; exact hlt)
      have hcn : costN T (es.getD k e00).1 (es.getD k e00).2 ss ≤ 257 := by
        unfold costN
        split <;> omega
      have HCO : Hid (∀ w', Below wr.heap.size wr w' → Calls Tryz.prog 17 #[.pointer (some ⟨g, 0, none⟩), .int .i64 (root : Int), .agg (B (es.getD k e00).1), .slice ua (es.getD k e00).2.length uc] w' fun e w'' => e = .returned (.tuple #[.int .i64 (costN T (es.getD k e00).1 (es.getD k e00).2 ss : Int), .int .i64 0]) ∧ Below w'.heap.size w' w'') := fun w' hb => by
        obtain ⟨S, hs, _, _⟩ := HYc.hs
        rw [← hVk]
        exact cost_any (hs.grow hb) M.rt hKey (hat w' (grow_trans HQW.out (grow_trans HYc.low hb))).2 hlen (fun i => by have := M.own i; omega) hss h256
      have HOC : Hid (∀ w', Below wr.heap.size wr w' → Calls Tryz.prog 18 #[.pointer (some ⟨g, 0, none⟩)] w' fun e w'' => e = .returned (.int .i64 (noc cs : Int)) ∧ Below w'.heap.size w' w'') := fun w' hb => by
        obtain ⟨S, hs, _, _⟩ := HYc.hs
        exact hs_occ (hs.grow hb)
      have HRG : Hid (∀ w', Below w1.heap.size w1 w' → w'.rangeAt lb (off + k * 33) (encP (es.getD k e00).1 (.slice ua (es.getD k e00).2.length uc))) := fun w' hb => by rw [← hVk]; exact (hat w' (grow_trans HQW.out hb)).1
      have HKL := hidden hKey.1
      have HPL := hidden (pth_ln (es.getD k e00).1 hKey.1)
      have hpl : (prI (l.take (k + 1))).length ≤ 16 := Nat.le_trans (prI_len _ _ rfl) (by rw [List.length_take]; have := HN.out; omega)
      have hpa : ((prI (l.take (k + 1))).map (·.1)).Pairwise fun a b => a.1 ≠ b.1 := prI_apart _ _ rfl
      have hpm : ∀ q ∈ prI (l.take (k + 1)), q ∈ l := fun q hq => List.mem_of_mem_take (prI_mem _ _ rfl q hq)
      obtain ⟨hroot, E0, hri⟩ := rootIs_ex ((prI (l.take (k + 1))).map (·.1)) 0
      obtain ⟨e1, e2⟩ := root_of (by rw [List.length_map]; exact hpl) (fun e he => by obtain ⟨q, hq, rfl⟩ := List.mem_map.1 he; exact (HLM.out q (hpm q hq)).1) hpa hri
      have hHl := hri.len
      rw [e1] at hHl
      have HPR : Hid (∀ w', Below w.heap.size w w' → Calls Tryz.prog 24 #[.slice (some ⟨lb, off, none⟩) (k + 1) cap] w' fun e w'' => ∃ a c, e = .returned (.slice a (prI (l.take (k + 1))).length c) ∧ w''.ownsRow w'.heap.size 59 33 (.slice a (prI (l.take (k + 1))).length c) (prI (l.take (k + 1))).length (flatP (prI (l.take (k + 1)))) ∧ Below w'.heap.size w' w'') := fun w' hb => by
        have := pairs_any ((HPA.out (k + 1) (by omega)).grow hb) (by rw [List.length_take]; have := HN.out; omega)
        unfold PsPost at this
        rw [HIT.out (k + 1) (by omega)] at this
        exact this
      have HRO : Hid (∀ w' a c, (∃ b, w'.ownsRow b 59 33 (.slice a (prI (l.take (k + 1))).length c) (prI (l.take (k + 1))).length (flatP (prI (l.take (k + 1))))) → Below w.heap.size w w' → Calls Tryz.prog 23 #[.slice a (prI (l.take (k + 1))).length c] w' fun e w'' => e = .returned (.tuple #[.agg (B (rt 256 0 ((prI (l.take (k + 1))).map (·.1)))), .int .i64 0]) ∧ Below w'.heap.size w' w'') := fun w' a c ⟨b, o⟩ hb => by
        have hpr := prAt_own o (fun q hq => (HLM.out q (hpm q hq)).2.1) (fun q hq => (HLM.out q (hpm q hq)).2.2 w' hb)
        have := rootPost_at hri (Root_any _ _ _ w' hpr (by rw [List.length_map]; omega) (HL.out _ hb))
        rwa [e1, e2] at this
      have HHL : Hid ((Tryz.prog.info? 55).map (·.size) = some (B (rt 256 0 ((prI (l.take (k + 1))).map (·.1)))).toList.length) := by show _ = _; rw [B_toList, List.length_map, hHl]; exact size_hash
      have HHS : Hid ((Tryz.prog.info? 55).map (·.size) = some (B (rt 256 0 ((prI (l.take (k + 1))).map (·.1)))).size ∧ (B z32).size = (B (rt 256 0 ((prI (l.take (k + 1))).map (·.1)))).size) := ⟨by rw [B_size, hHl]; exact size_hash, by rw [B_size, B_size, hHl]; rfl⟩
      have hE := hash_eq (rt 256 0 ((prI (l.take (k + 1))).map (·.1))) (rt 256 0 ((prI (l.take (k + 1))).map (·.1))) hHl hHl
      simp only [decide_true] at hE
      have hu : ∀ w', Below w1.heap.size w1 w' → Reads w' (V k) (es.getD k e00).2 := fun w' hb => (hat w' (grow_trans HQW.out hb)).2
      have hlz : ∀ w', Below w1.heap.size w1 w' → Laid w' := fun w' hb => HL.out _ (grow_trans HQW.out hb)
      have hk16 : k < 16 := by omega
      by_cases hkeep : (k : Int) = keep
      · subst hkeep
        by_cases hr0 : 0 < root
        · as_aux_lemma =>
            obtain ⟨mk1, mk2, mk3, mk4, mk5⟩ := mp_keep HYc.wf M hr0
            obtain ⟨dl, hdg⟩ := HYc.rtDig M.rt
            have HHO : Hid (∀ w', Below wr.heap.size wr w' → Calls Tryz.prog 19 #[.pointer (some ⟨g, 0, none⟩), .int .i64 (root : Int)] w' fun e w'' => e = .returned (.int .i64 0) ∧ Hy w1 w'' g gs 8256 bt D (moreC cs (root - 1)) fr) := fun w' hb => by
              obtain ⟨S, hs, _, hbk⟩ := (HYc.grow hb).hs
              have := hs_hold hs (root - 1) mk1 (by have := HYc.wf.ccLe (root - 1) 100 (by have := M.own (root - 1); omega); have := hs.sizes; omega)
              rw [show (((root - 1 : Nat) : Int) + 1) = (root : Int) by omega] at this
              exact this.mono fun e w'' ⟨e1, h⟩ => ⟨e1, hbk _ _ _ h⟩
            have HD1 : Hid (∀ w', Hy w1 w' g gs 8256 bt D (moreC cs (root - 1)) fr → Calls Tryz.prog 20 #[.pointer (some ⟨g, 0, none⟩), .int .i64 (root : Int)] w' fun e w'' => e = .returned (.agg (B (rt 256 0 T.ents))) ∧ Below w'.heap.size w' w'') := fun w' h => (h.rtDig mk2).2 w' (Below.refl _ _) (hlz _ h.low)
            have HDS : Hid ((Tryz.prog.info? 55).map (·.size) = some (B (rt 256 0 T.ents)).size ∧ (B D).size = (B (rt 256 0 T.ents)).size) := ⟨by rw [B_size, dl]; exact size_hash, by rw [B_size, B_size, dl]; exact HDL.out⟩
            have HPT : Hid (∀ w', Hy w1 w' g gs 8256 bt (rt 256 0 T.ents) (moreC cs (root - 1)) fr → Calls Tryz.prog 21 #[.pointer (some ⟨g, 0, none⟩), .int .i64 (root : Int), .agg (B (es.getD k e00).1), .slice ua (es.getD k e00).2.length uc] w' fun e w'' => ∃ (ty : Int) (tn : Nat), e = .returned (.tuple #[.int .i64 ty, .int .i64 0]) ∧ ty = (tn : Int) ∧ 1 ≤ tn ∧ Ax w1 w'' g gs 8256 bt (rt 256 0 T.ents) (k + 1) (prI (l.take (k + 1))) tn root (noc cs + costN T (es.getD k e00).1 (es.getD k e00).2 ss)) := fun w' h => by
              rw [hst, ← hVk]
              exact (mp_put h mk2 M.ents hap mk3 mk4 (by have := M.noc; omega) hk16 (.inr ⟨hr0, by rw [if_pos rfl]; omega, T, mk2.tree, mk2.dp, rfl⟩) hKey hu hlz hlen hss h256).mono fun e w'' ⟨tn, q1, q2⟩ => ⟨_, tn, q1, rfl, (by obtain ⟨_, _, _, _, _, _, q3, _⟩ := q2; exact q3), q2⟩
            have HDG : Hid (∀ w' (ty : Int) (tn : Nat), ty = (tn : Int) → Ax w1 w' g gs 8256 bt (rt 256 0 T.ents) (k + 1) (prI (l.take (k + 1))) tn root (noc cs + costN T (es.getD k e00).1 (es.getD k e00).2 ss) → Calls Tryz.prog 20 #[.pointer (some ⟨g, 0, none⟩), .int .i64 ty] w' fun e w'' => e = .returned (.agg (B (rt 256 0 ((prI (l.take (k + 1))).map (·.1))))) ∧ Below w'.heap.size w' w'') := fun w' ty tn q h => by rw [q]; exact h.dig (hlz _ h.low)
            have HSZ : Hid (∀ w' (ty : Int) (tn : Nat), ty = (tn : Int) → Ax w1 w' g gs 8256 bt (rt 256 0 T.ents) (k + 1) (prI (l.take (k + 1))) tn root (noc cs + costN T (es.getD k e00).1 (es.getD k e00).2 ss) → Calls Tryz.prog 25 #[.pointer (some ⟨g, 0, none⟩), .int .i64 ty] w' fun e w'' => e = .returned (.int .i64 ((prI (l.take (k + 1))).length : Int)) ∧ Below w'.heap.size w' w'') := fun w' ty tn q h => by rw [q]; exact h.size
            have HNX : Hid (∀ w' tn, Ax w1 w' g gs 8256 bt (rt 256 0 T.ents) (k + 1) (prI (l.take (k + 1))) tn root (noc cs + costN T (es.getD k e00).1 (es.getD k e00).2 ss) → (rt 256 0 T.ents).length = 32 ∧ ∃ cs9 fr9 T9, Hy w1 w' g gs 8256 bt (rt 256 0 T.ents) cs9 fr9 ∧ Mp cs9 (k + 1) (prI (l.take (k + 1))) tn T9 root (rt 256 0 T.ents)) := fun w' tn ⟨cs9, fr9, T9, h1, h2, _⟩ => ⟨dl, cs9, fr9, T9, h1, h2⟩
            generalize hog : noc cs = o at HOC HPT HDG HSZ HNX
            generalize hcg : costN T (es.getD k e00).1 (es.getD k e00).2 ss = c at HCO HPT HDG HSZ HNX hcn
            have ho2 : o ≤ 5000 := (by have := M.noc; omega)
            have HITL : Hid ((prI (l.take (k + 1))).length ≤ 16) := hpl
            have hc258 : ¬ (258 : Int) < (c : Int) := (by omega)
            have hwo : wrap64 ((o : Int) + (c : Int)) = (o : Int) + (c : Int) := Go.IntWalk.wrap64_in _ (by omega)
            generalize (rt 256 0 ((prI (l.take (k + 1))).map (·.1))) = H at HDG HRO HHL HHS hE
            generalize (rt 256 0 T.ents) = D1 at HD1 HDS HPT HDG HSZ HNX
            generalize (es.getD k e00).1 = K at HPT HCO HRG HKL HPL
            generalize (es.getD k e00).2.length = ul at HPT HCO HRG
            obtain ⟨ry, hry⟩ : ∃ ry : Int, ry = (root : Int) := ⟨_, rfl⟩
            rw [← hry] at HPT HCO ⊢
            rw [← hry] at HHO HD1
            have HRY := hidden hry
            generalize hprq : (prI (l.take (k + 1))) = pr at HPT HDG HSZ HNX HPR HRO HITL
            have HPRQ := hidden hprq
            obtain ⟨mm, hmm⟩ : ∃ mm, mm = pr.length := ⟨_, rfl⟩
            rw [← hmm] at HSZ HPR HRO HITL
            have k0 : (0 : Int) ≤ (k : Int) := by omega
            have k1 : (k : Int) < (n : Int) := by omega
            have hwk : wrap64 ((k : Int) + 1) = ((k + 1 : Nat) : Int) := by rw [Go.IntWalk.wrap64_in _ (by omega)]; rfl
            have kc0 : (0 : Int) ≤ ((k + 1 : Nat) : Int) := Int.natCast_nonneg _
            have kc1 : ((k + 1 : Nat) : Int) ≤ (cap : Int) := Int.ofNat_le.2 (Nat.le_trans (Nat.succ_le_of_lt hlt) HCAP.out)
            have hrp : (0 : Int) < ry := (by rw [hry]; omega)
            clear hVk hKey hat hss h256 hap hst hu hlz M HYc hpl hpa hpm hri e1 e2 hHl hlen hcg hog hmm HST HAT HPA HIT HIN hk hcn ho2 hprq mk1 mk2 mk3 mk4 mk5 dl hdg hr0 hry
            go_wp2_with fail
            refine wp_region_held_drew (S := fun w' => w'.rangeAt lb (off + k * 33) (encP K (.slice ua ul uc))) (by kernel_rfl) (HRG.out _ (grow_trans HYR.out.low (below_drewN (Below.refl _ _) 1))) (fun hHeld => ?_)
            refine wpAnyH_take (i := 0) (v := .pointer (some ⟨g, 0, none⟩)) rfl (by kernel_rfl) (by kernel_rfl) (by kernel_rfl) (fun _ _ _ h => h) (Or.inl ⟨by rfl, fun w hS => by go_simp⟩) hHeld ?_
            simp only [Act.put, List.getElem_toArray, List.getElem_cons_zero, List.setIfInBounds_toArray, List.set_cons_zero, List.set_cons_succ]
            refine wpAnyH_take (i := 1) (v := .int .i64 ry) rfl (by kernel_rfl) (by kernel_rfl) (by kernel_rfl) (fun _ _ _ h => h) (Or.inl ⟨by rfl, fun w hS => by go_simp⟩) hHeld ?_
            simp only [Act.put, List.getElem_toArray, List.getElem_cons_zero, List.getElem_cons_succ, List.setIfInBounds_toArray, List.set_cons_zero, List.set_cons_succ]
            refine wpAnyH_take (i := 2) (v := .slice (some ⟨lb, off, none⟩) n cap) rfl (by kernel_rfl) (by kernel_rfl) (by kernel_rfl) (fun _ _ _ h => h) (Or.inl ⟨by rfl, fun w hS => by go_simp⟩) hHeld ?_
            simp only [Act.put, List.getElem_toArray, List.getElem_cons_zero, List.getElem_cons_succ, List.setIfInBounds_toArray, List.set_cons_zero, List.set_cons_succ]
            refine wpAnyH_take (i := 3) (v := .int .i64 (k : Int)) rfl (by kernel_rfl) (by kernel_rfl) (by kernel_rfl) (fun _ _ _ h => h) (Or.inl ⟨by rfl, fun w hS => by go_simp⟩) hHeld ?_
            simp only [Act.put, List.getElem_toArray, List.getElem_cons_zero, List.getElem_cons_succ, List.setIfInBounds_toArray, List.set_cons_zero, List.set_cons_succ]
            refine wpAnyH_take (i := 4) (v := .pointer (some ⟨lb, off + k * 33, none⟩)) rfl (by kernel_rfl) (by kernel_rfl) (by kernel_rfl) (fun _ _ _ h => h) (Or.inl ⟨by rfl, fun w hS => by go_simp⟩) hHeld ?_
            simp only [Act.put, List.getElem_toArray, List.getElem_cons_zero, List.getElem_cons_succ, List.setIfInBounds_toArray, List.set_cons_zero, List.set_cons_succ]
            refine wpAnyH_take (i := 5) (v := .pointer (some ⟨lb, off + k * 33, none⟩)) rfl (by kernel_rfl) (by kernel_rfl) (by kernel_rfl) (fun _ _ _ h => h) (Or.inl ⟨by rfl, fun w hS => by go_simp⟩) hHeld ?_
            simp only [Act.put, List.getElem_toArray, List.getElem_cons_zero, List.getElem_cons_succ, List.setIfInBounds_toArray, List.set_cons_zero, List.set_cons_succ]
            refine wpAnyH_take (i := 6) (v := .agg (B K)) rfl (by kernel_rfl) (by kernel_rfl) (by kernel_rfl) (fun _ _ _ h => h) (yieldsIf_load_mid rfl 31 (.tmp 42) rfl lb (off + k * 33) rfl (B K).toList _ (fun w hS => rng_key hS) Tryz.underlying31 rfl HPL.out) hHeld ?_
            simp only [Act.put, List.getElem_toArray, List.getElem_cons_zero, List.getElem_cons_succ, List.setIfInBounds_toArray, List.set_cons_zero, List.set_cons_succ]
            refine wpAnyH_take (i := 7) (v := .slice (some ⟨lb, off, none⟩) n cap) rfl (by kernel_rfl) (by kernel_rfl) (by kernel_rfl) (fun _ _ _ h => h) (Or.inl ⟨by rfl, fun w hS => by go_simp⟩) hHeld ?_
            simp only [Act.put, List.getElem_toArray, List.getElem_cons_zero, List.getElem_cons_succ, List.setIfInBounds_toArray, List.set_cons_zero, List.set_cons_succ]
            refine wpAnyH_take (i := 8) (v := .int .i64 (k : Int)) rfl (by kernel_rfl) (by kernel_rfl) (by kernel_rfl) (fun _ _ _ h => h) (Or.inl ⟨by rfl, fun w hS => by go_simp⟩) hHeld ?_
            simp only [Act.put, List.getElem_toArray, List.getElem_cons_zero, List.getElem_cons_succ, List.setIfInBounds_toArray, List.set_cons_zero, List.set_cons_succ]
            refine wpAnyH_take (i := 9) (v := .pointer (some ⟨lb, off + k * 33, none⟩)) rfl (by kernel_rfl) (by kernel_rfl) (by kernel_rfl) (fun _ _ _ h => h) (Or.inl ⟨by rfl, fun w hS => by go_simp⟩) hHeld ?_
            simp only [Act.put, List.getElem_toArray, List.getElem_cons_zero, List.getElem_cons_succ, List.setIfInBounds_toArray, List.set_cons_zero, List.set_cons_succ]
            refine wpAnyH_take (i := 10) (v := .pointer (some ⟨lb, off + k * 33 + 32, none⟩)) rfl (by kernel_rfl) (by kernel_rfl) (by kernel_rfl) (fun _ _ _ h => h) (Or.inl ⟨by rfl, fun w hS => by go_simp⟩) hHeld ?_
            simp only [Act.put, List.getElem_toArray, List.getElem_cons_zero, List.getElem_cons_succ, List.setIfInBounds_toArray, List.set_cons_zero, List.set_cons_succ]
            refine wpAnyH_take (i := 11) (v := .slice ua ul uc) rfl (by kernel_rfl) (by kernel_rfl) (by kernel_rfl) (fun _ _ _ h => h) (Or.inl ⟨by rfl, fun w hS => by (have q1 := rng_val hS HKL.out; go_simp)⟩) hHeld ?_
            simp only [Act.put, List.getElem_toArray, List.getElem_cons_zero, List.getElem_cons_succ, List.setIfInBounds_toArray, List.set_cons_zero, List.set_cons_succ]
            refine wpAnyH_ready (rs := [12]) (by kernel_rfl) (by simp) ?_
            refine AllReadyH.cons rfl (fun KQ hK => ?_) AllReadyH.nil
            go_simp
            refine (HCO.out _ (below_drewN (Below.refl _ _) 1)).mono ?_
            rintro e x1 ⟨rfl, a1⟩
            have HQ1 : Hid (Below wr.heap.size wr x1) := grow_trans (below_drewN (Below.refl _ _) 1) a1
            clear a1
            refine hK.out _ _ (HRG.out _ (grow_trans HYR.out.low HQ1.out)) (fun hHeld => ?_)
            clear hK KQ
            refine wpAnyH_take (i := 13) (v := .tuple #[.int .i64 (c : Int), .int .i64 0]) rfl (by kernel_rfl) (by kernel_rfl) (by kernel_rfl) (fun _ _ _ h => h) (Or.inl ⟨by rfl, fun w hS => by go_simp⟩) hHeld ?_
            simp only [Act.put, List.getElem_toArray, List.getElem_cons_zero, List.getElem_cons_succ, List.setIfInBounds_toArray, List.set_cons_zero, List.set_cons_succ]
            refine wpAnyH_take (i := 14) (v := .int .i64 (c : Int)) rfl (by kernel_rfl) (by kernel_rfl) (by kernel_rfl) (fun _ _ _ h => h) (Or.inl ⟨by rfl, fun w hS => by go_simp⟩) hHeld ?_
            simp only [Act.put, List.getElem_toArray, List.getElem_cons_zero, List.getElem_cons_succ, List.setIfInBounds_toArray, List.set_cons_zero, List.set_cons_succ]
            refine wpAnyH_take (i := 15) (v := .int .i64 0) rfl (by kernel_rfl) (by kernel_rfl) (by kernel_rfl) (fun _ _ _ h => h) (Or.inl ⟨by rfl, fun w hS => by go_simp⟩) hHeld ?_
            simp only [Act.put, List.getElem_toArray, List.getElem_cons_zero, List.getElem_cons_succ, List.setIfInBounds_toArray, List.set_cons_zero, List.set_cons_succ]
            refine wpAnyH_take (i := 16) (v := .int .i64 (c : Int)) rfl (by kernel_rfl) (by kernel_rfl) (by kernel_rfl) (fun _ _ _ h => h) (Or.inl ⟨by rfl, fun w hS => by go_simp⟩) hHeld ?_
            simp only [Act.put, List.getElem_toArray, List.getElem_cons_zero, List.getElem_cons_succ, List.setIfInBounds_toArray, List.set_cons_zero, List.set_cons_succ]
            refine wpAnyH_take (i := 17) (v := .int .i64 0) rfl (by kernel_rfl) (by kernel_rfl) (by kernel_rfl) (fun _ _ _ h => h) (Or.inl ⟨by rfl, fun w hS => by go_simp⟩) hHeld ?_
            simp only [Act.put, List.getElem_toArray, List.getElem_cons_zero, List.getElem_cons_succ, List.setIfInBounds_toArray, List.set_cons_zero, List.set_cons_succ]
            refine wpAnyH_done (by kernel_rfl) ?_ _
            clear hHeld
            go_wp2_with (first
              | (go_at_call 18; refine (HOC.out _ HQ1.out).mono ?_; rintro e x2 ⟨rfl, b2⟩; have HQ2 := hidden (grow_trans HQ1.out b2); clear b2)
              | (go_at_call 19; refine (HHO.out _ HQ2.out).mono ?_; rintro e x3 ⟨rfl, h3⟩; have HY3 := hidden h3; clear h3)
              | (go_at_call 20; refine (HD1.out _ HY3.out).mono ?_; rintro e x4 ⟨rfl, b4⟩; have HY4 := hidden (HY3.out.grow b4); clear b4)
              | ((with_reducible refine at_st 10 ?_); refine wpList_sto _ rfl _ _ _ rfl bt _ (B D1) rfl rfl HY4.out.blk HDS.out.1 HDS.out.2 (B_one _) ?_; intro x5 B5 r5; have HY := hidden (HY4.out.put B5 r5); clear B5 r5))
            refine wp_region_held_drew (S := fun w' => w'.rangeAt lb (off + k * 33) (encP K (.slice ua ul uc))) (by kernel_rfl) (HRG.out _ (grow_trans HY.out.low (below_drewN (Below.refl _ _) 1))) (fun hHeld => ?_)
            refine wpAnyH_take (i := 0) (v := .pointer (some ⟨g, 0, none⟩)) rfl (by kernel_rfl) (by kernel_rfl) (by kernel_rfl) (fun _ _ _ h => h) (Or.inl ⟨by rfl, fun w hS => by go_simp⟩) hHeld ?_
            simp only [Act.put, List.getElem_toArray, List.getElem_cons_zero, List.setIfInBounds_toArray, List.set_cons_zero, List.set_cons_succ]
            refine wpAnyH_take (i := 1) (v := .int .i64 ry) rfl (by kernel_rfl) (by kernel_rfl) (by kernel_rfl) (fun _ _ _ h => h) (Or.inl ⟨by rfl, fun w hS => by go_simp⟩) hHeld ?_
            simp only [Act.put, List.getElem_toArray, List.getElem_cons_zero, List.getElem_cons_succ, List.setIfInBounds_toArray, List.set_cons_zero, List.set_cons_succ]
            refine wpAnyH_take (i := 2) (v := .slice (some ⟨lb, off, none⟩) n cap) rfl (by kernel_rfl) (by kernel_rfl) (by kernel_rfl) (fun _ _ _ h => h) (Or.inl ⟨by rfl, fun w hS => by go_simp⟩) hHeld ?_
            simp only [Act.put, List.getElem_toArray, List.getElem_cons_zero, List.getElem_cons_succ, List.setIfInBounds_toArray, List.set_cons_zero, List.set_cons_succ]
            refine wpAnyH_take (i := 3) (v := .int .i64 (k : Int)) rfl (by kernel_rfl) (by kernel_rfl) (by kernel_rfl) (fun _ _ _ h => h) (Or.inl ⟨by rfl, fun w hS => by go_simp⟩) hHeld ?_
            simp only [Act.put, List.getElem_toArray, List.getElem_cons_zero, List.getElem_cons_succ, List.setIfInBounds_toArray, List.set_cons_zero, List.set_cons_succ]
            refine wpAnyH_take (i := 4) (v := .pointer (some ⟨lb, off + k * 33, none⟩)) rfl (by kernel_rfl) (by kernel_rfl) (by kernel_rfl) (fun _ _ _ h => h) (Or.inl ⟨by rfl, fun w hS => by go_simp⟩) hHeld ?_
            simp only [Act.put, List.getElem_toArray, List.getElem_cons_zero, List.getElem_cons_succ, List.setIfInBounds_toArray, List.set_cons_zero, List.set_cons_succ]
            refine wpAnyH_take (i := 5) (v := .pointer (some ⟨lb, off + k * 33, none⟩)) rfl (by kernel_rfl) (by kernel_rfl) (by kernel_rfl) (fun _ _ _ h => h) (Or.inl ⟨by rfl, fun w hS => by go_simp⟩) hHeld ?_
            simp only [Act.put, List.getElem_toArray, List.getElem_cons_zero, List.getElem_cons_succ, List.setIfInBounds_toArray, List.set_cons_zero, List.set_cons_succ]
            refine wpAnyH_take (i := 6) (v := .agg (B K)) rfl (by kernel_rfl) (by kernel_rfl) (by kernel_rfl) (fun _ _ _ h => h) (yieldsIf_load_mid rfl 31 (.tmp 75) rfl lb (off + k * 33) rfl (B K).toList _ (fun w hS => rng_key hS) Tryz.underlying31 rfl HPL.out) hHeld ?_
            simp only [Act.put, List.getElem_toArray, List.getElem_cons_zero, List.getElem_cons_succ, List.setIfInBounds_toArray, List.set_cons_zero, List.set_cons_succ]
            refine wpAnyH_take (i := 7) (v := .slice (some ⟨lb, off, none⟩) n cap) rfl (by kernel_rfl) (by kernel_rfl) (by kernel_rfl) (fun _ _ _ h => h) (Or.inl ⟨by rfl, fun w hS => by go_simp⟩) hHeld ?_
            simp only [Act.put, List.getElem_toArray, List.getElem_cons_zero, List.getElem_cons_succ, List.setIfInBounds_toArray, List.set_cons_zero, List.set_cons_succ]
            refine wpAnyH_take (i := 8) (v := .int .i64 (k : Int)) rfl (by kernel_rfl) (by kernel_rfl) (by kernel_rfl) (fun _ _ _ h => h) (Or.inl ⟨by rfl, fun w hS => by go_simp⟩) hHeld ?_
            simp only [Act.put, List.getElem_toArray, List.getElem_cons_zero, List.getElem_cons_succ, List.setIfInBounds_toArray, List.set_cons_zero, List.set_cons_succ]
            refine wpAnyH_take (i := 9) (v := .pointer (some ⟨lb, off + k * 33, none⟩)) rfl (by kernel_rfl) (by kernel_rfl) (by kernel_rfl) (fun _ _ _ h => h) (Or.inl ⟨by rfl, fun w hS => by go_simp⟩) hHeld ?_
            simp only [Act.put, List.getElem_toArray, List.getElem_cons_zero, List.getElem_cons_succ, List.setIfInBounds_toArray, List.set_cons_zero, List.set_cons_succ]
            refine wpAnyH_take (i := 10) (v := .pointer (some ⟨lb, off + k * 33 + 32, none⟩)) rfl (by kernel_rfl) (by kernel_rfl) (by kernel_rfl) (fun _ _ _ h => h) (Or.inl ⟨by rfl, fun w hS => by go_simp⟩) hHeld ?_
            simp only [Act.put, List.getElem_toArray, List.getElem_cons_zero, List.getElem_cons_succ, List.setIfInBounds_toArray, List.set_cons_zero, List.set_cons_succ]
            refine wpAnyH_take (i := 11) (v := .slice ua ul uc) rfl (by kernel_rfl) (by kernel_rfl) (by kernel_rfl) (fun _ _ _ h => h) (Or.inl ⟨by rfl, fun w hS => by (have q1 := rng_val hS HKL.out; go_simp)⟩) hHeld ?_
            simp only [Act.put, List.getElem_toArray, List.getElem_cons_zero, List.getElem_cons_succ, List.setIfInBounds_toArray, List.set_cons_zero, List.set_cons_succ]
            refine wpAnyH_ready (rs := [12]) (by kernel_rfl) (by simp) ?_
            refine AllReadyH.cons rfl (fun KQ hK => ?_) AllReadyH.nil
            go_simp
            refine (HPT.out _ (HY.out.grow (below_drewN (Below.refl _ _) 1))).mono ?_
            rintro e z1 ⟨ty, tn, rfl, hty, htp, hA⟩
            have HTY := hidden hty
            have HA := hidden hA
            have tyn : ¬ ty = 0 := (by rw [hty]; omega)
            have tyb : (ty == 0) = false := (by simpa using tyn)
            clear hty hA htp
            refine hK.out _ _ (HRG.out _ HA.out.low) (fun hHeld => ?_)
            clear hK KQ
            refine wpAnyH_take (i := 13) (v := .tuple #[.int .i64 ty, .int .i64 0]) rfl (by kernel_rfl) (by kernel_rfl) (by kernel_rfl) (fun _ _ _ h => h) (Or.inl ⟨by rfl, fun w hS => by go_simp⟩) hHeld ?_
            simp only [Act.put, List.getElem_toArray, List.getElem_cons_zero, List.getElem_cons_succ, List.setIfInBounds_toArray, List.set_cons_zero, List.set_cons_succ]
            refine wpAnyH_take (i := 14) (v := .int .i64 ty) rfl (by kernel_rfl) (by kernel_rfl) (by kernel_rfl) (fun _ _ _ h => h) (Or.inl ⟨by rfl, fun w hS => by go_simp⟩) hHeld ?_
            simp only [Act.put, List.getElem_toArray, List.getElem_cons_zero, List.getElem_cons_succ, List.setIfInBounds_toArray, List.set_cons_zero, List.set_cons_succ]
            refine wpAnyH_take (i := 15) (v := .int .i64 0) rfl (by kernel_rfl) (by kernel_rfl) (by kernel_rfl) (fun _ _ _ h => h) (Or.inl ⟨by rfl, fun w hS => by go_simp⟩) hHeld ?_
            simp only [Act.put, List.getElem_toArray, List.getElem_cons_zero, List.getElem_cons_succ, List.setIfInBounds_toArray, List.set_cons_zero, List.set_cons_succ]
            refine wpAnyH_take (i := 16) (v := .int .i64 ty) rfl (by kernel_rfl) (by kernel_rfl) (by kernel_rfl) (fun _ _ _ h => h) (Or.inl ⟨by rfl, fun w hS => by go_simp⟩) hHeld ?_
            simp only [Act.put, List.getElem_toArray, List.getElem_cons_zero, List.getElem_cons_succ, List.setIfInBounds_toArray, List.set_cons_zero, List.set_cons_succ]
            refine wpAnyH_take (i := 17) (v := .int .i64 0) rfl (by kernel_rfl) (by kernel_rfl) (by kernel_rfl) (fun _ _ _ h => h) (Or.inl ⟨by rfl, fun w hS => by go_simp⟩) hHeld ?_
            simp only [Act.put, List.getElem_toArray, List.getElem_cons_zero, List.getElem_cons_succ, List.setIfInBounds_toArray, List.set_cons_zero, List.set_cons_succ]
            refine wpAnyH_done (by kernel_rfl) ?_ _
            clear hHeld
            go_wp2_with (first
              | (go_at_call 18; obtain ⟨o2, ho2, hc2⟩ := HA.out.occ; have hno : ¬ ((o : Int) + (c : Int)) < (o2 : Int) := (by have := ho2; omega); refine hc2.mono ?_; rintro e x5 ⟨rfl, b5⟩; replace HA := hidden (HA.out.grow b5); clear b5 hc2 ho2)
              | (go_at_call 22; obtain ⟨h2, hh2, hc2⟩ := HA.out.held; rw [← HTY.out] at hc2; have hnh : ¬ (h2 : Int) < 1 := (by omega); refine hc2.mono ?_; rintro e x6 ⟨rfl, b6⟩; replace HA := hidden (HA.out.grow b6); clear b6 hc2 hh2)
              | (go_at_call 24; refine (HPR.out _ (grow_trans HQW.out HA.out.low)).mono ?_; rintro e x7 ⟨pa, pc, rfl, hq, b7⟩; have HQ7 := hidden hq; replace HA := hidden (HA.out.grow b7); clear b7 hq)
              | (go_at_call 23; refine (HRO.out _ _ _ ⟨_, HQ7.out⟩ (grow_trans HQW.out HA.out.low)).mono ?_; rintro e x8 ⟨rfl, b8⟩; replace HA := hidden (HA.out.grow b8); clear b8)
              | ((with_reducible refine at_ald 17 ?_); refine wpList_al _ rfl _ rfl _ zero_hash ?_; intro x8b bh hgh hlh BH q3; have HBZ := hidden BH; have HGH := hidden hgh; have HQ8 := hidden q3; clear hgh hlh BH q3)
              | ((with_reducible refine at_st 17 ?_); refine wpList_sto _ rfl _ _ _ rfl bh _ (B H) rfl rfl HBZ.out HHS.out.1 HHS.out.2 (B_one _) ?_; intro x9 BH r4; have HBH := hidden BH; replace HA := hidden (HA.out.grow (below_row HQ8.out r4 HGH.out)); clear BH r4))
            have hwi : IntKind.i64.wrap ((k : Int) + 1) = (k : Int) + 1 := (Go.IntWalk.i64_left _).trans hwk
            have kd0 : (0 : Int) ≤ (k : Int) + 1 := kc0
            have kd1 : ¬ (cap : Int) < (k : Int) + 1 := Int.not_lt.2 kc1
            have kd2 : (k : Int) + 1 ≤ (cap : Int) := kc1
            refine wp_region_held_drew (S := fun w' => Below x9.heap.size x9 w') (by kernel_rfl) ((below_drewN (Below.refl _ _) 1)) (fun hHeld => ?_)
            refine wpAnyH_take (i := 0) (v := .int .i64 0) rfl (by kernel_rfl) (by kernel_rfl) (by kernel_rfl) (fun _ _ _ h => h) (Or.inl ⟨by rfl, fun w hS => by go_simp⟩) hHeld ?_
            simp only [Act.put, List.getElem_toArray, List.getElem_cons_zero, List.setIfInBounds_toArray, List.set_cons_zero, List.set_cons_succ]
            refine wpAnyH_take (i := 1) (v := .bool false) rfl (by kernel_rfl) (by kernel_rfl) (by kernel_rfl) (fun _ _ _ h => h) (Or.inl ⟨by rfl, fun w hS => by go_simp⟩) hHeld ?_
            simp only [Act.put, List.getElem_toArray, List.getElem_cons_zero, List.getElem_cons_succ, List.setIfInBounds_toArray, List.set_cons_zero, List.set_cons_succ]
            refine wpAnyH_take (i := 2) (v := .bool false) rfl (by kernel_rfl) (by kernel_rfl) (by kernel_rfl) (fun _ _ _ h => h) (Or.inl ⟨by rfl, fun w hS => by go_simp⟩) hHeld ?_
            simp only [Act.put, List.getElem_toArray, List.getElem_cons_zero, List.getElem_cons_succ, List.setIfInBounds_toArray, List.set_cons_zero, List.set_cons_succ]
            refine wpAnyH_take (i := 3) (v := .pointer (some ⟨g, 0, none⟩)) rfl (by kernel_rfl) (by kernel_rfl) (by kernel_rfl) (fun _ _ _ h => h) (Or.inl ⟨by rfl, fun w hS => by go_simp⟩) hHeld ?_
            simp only [Act.put, List.getElem_toArray, List.getElem_cons_zero, List.getElem_cons_succ, List.setIfInBounds_toArray, List.set_cons_zero, List.set_cons_succ]
            refine wpAnyH_take (i := 4) (v := .int .i64 ty) rfl (by kernel_rfl) (by kernel_rfl) (by kernel_rfl) (fun _ _ _ h => h) (Or.inl ⟨by rfl, fun w hS => by go_simp⟩) hHeld ?_
            simp only [Act.put, List.getElem_toArray, List.getElem_cons_zero, List.getElem_cons_succ, List.setIfInBounds_toArray, List.set_cons_zero, List.set_cons_succ]
            refine wpAnyH_take (i := 6) (v := .agg (B H)) rfl (by kernel_rfl) (by kernel_rfl) (by kernel_rfl) (fun _ _ _ h => h) (yieldsIf_load_mid rfl 55 (.tmp 17) rfl bh 0 rfl (B H).toList _ (fun w hS => (HBH.out.grow hS).range) Tryz.underlying55 rfl HHL.out) hHeld ?_
            simp only [Act.put, List.getElem_toArray, List.getElem_cons_zero, List.getElem_cons_succ, List.setIfInBounds_toArray, List.set_cons_zero, List.set_cons_succ]
            refine wpAnyH_ready (rs := [5]) (by kernel_rfl) (by simp) ?_
            refine AllReadyH.cons rfl (fun KQ hK => ?_) AllReadyH.nil
            go_simp
            refine (HDG.out _ _ _ HTY.out (HA.out.grow hHeld)).mono ?_
            rintro e y1 ⟨rfl, a1⟩
            refine hK.out _ _ (grow_trans hHeld a1) (fun hHeld => ?_)
            clear hK KQ
            refine wpAnyH_take (i := 7) (v := .bool false) rfl (by kernel_rfl) (by kernel_rfl) (by kernel_rfl) (fun _ _ _ h => h) (Or.inl ⟨by rfl, fun w hS => by go_simp⟩) hHeld ?_
            simp only [Act.put, List.getElem_toArray, List.getElem_cons_zero, List.getElem_cons_succ, List.setIfInBounds_toArray, List.set_cons_zero, List.set_cons_succ]
            refine wpAnyH_take (i := 8) (v := .bool false) rfl (by kernel_rfl) (by kernel_rfl) (by kernel_rfl) (fun _ _ _ h => h) (Or.inl ⟨by rfl, fun w hS => by go_simp⟩) hHeld ?_
            simp only [Act.put, List.getElem_toArray, List.getElem_cons_zero, List.getElem_cons_succ, List.setIfInBounds_toArray, List.set_cons_zero, List.set_cons_succ]
            refine wpAnyH_take (i := 9) (v := .bool false) rfl (by kernel_rfl) (by kernel_rfl) (by kernel_rfl) (fun _ _ _ h => h) (Or.inl ⟨by rfl, fun w hS => by go_simp⟩) hHeld ?_
            simp only [Act.put, List.getElem_toArray, List.getElem_cons_zero, List.getElem_cons_succ, List.setIfInBounds_toArray, List.set_cons_zero, List.set_cons_succ]
            refine wpAnyH_take (i := 10) (v := .pointer (some ⟨g, 0, none⟩)) rfl (by kernel_rfl) (by kernel_rfl) (by kernel_rfl) (fun _ _ _ h => h) (Or.inl ⟨by rfl, fun w hS => by go_simp⟩) hHeld ?_
            simp only [Act.put, List.getElem_toArray, List.getElem_cons_zero, List.getElem_cons_succ, List.setIfInBounds_toArray, List.set_cons_zero, List.set_cons_succ]
            refine wpAnyH_take (i := 11) (v := .int .i64 ty) rfl (by kernel_rfl) (by kernel_rfl) (by kernel_rfl) (fun _ _ _ h => h) (Or.inl ⟨by rfl, fun w hS => by go_simp⟩) hHeld ?_
            simp only [Act.put, List.getElem_toArray, List.getElem_cons_zero, List.getElem_cons_succ, List.setIfInBounds_toArray, List.set_cons_zero, List.set_cons_succ]
            refine wpAnyH_take (i := 13) (v := .slice (some ⟨lb, off, none⟩) n cap) rfl (by kernel_rfl) (by kernel_rfl) (by kernel_rfl) (fun _ _ _ h => h) (Or.inl ⟨by rfl, fun w hS => by go_simp⟩) hHeld ?_
            simp only [Act.put, List.getElem_toArray, List.getElem_cons_zero, List.getElem_cons_succ, List.setIfInBounds_toArray, List.set_cons_zero, List.set_cons_succ]
            refine wpAnyH_take (i := 14) (v := .int .i64 (k : Int)) rfl (by kernel_rfl) (by kernel_rfl) (by kernel_rfl) (fun _ _ _ h => h) (Or.inl ⟨by rfl, fun w hS => by go_simp⟩) hHeld ?_
            simp only [Act.put, List.getElem_toArray, List.getElem_cons_zero, List.getElem_cons_succ, List.setIfInBounds_toArray, List.set_cons_zero, List.set_cons_succ]
            refine wpAnyH_take (i := 15) (v := .int .i64 ((k + 1 : Nat) : Int)) rfl (by kernel_rfl) (by kernel_rfl) (by kernel_rfl) (fun _ _ _ h => h) (Or.inl ⟨by rfl, fun w hS => by go_simp⟩) hHeld ?_
            simp only [Act.put, List.getElem_toArray, List.getElem_cons_zero, List.getElem_cons_succ, List.setIfInBounds_toArray, List.set_cons_zero, List.set_cons_succ]
            refine wpAnyH_take (i := 16) (v := .slice (some ⟨lb, off, none⟩) (k + 1) cap) rfl (by kernel_rfl) (by kernel_rfl) (by kernel_rfl) (fun _ _ _ h => h) (Or.inl ⟨by rfl, fun w hS => by go_simp⟩) hHeld ?_
            simp only [Act.put, List.getElem_toArray, List.getElem_cons_zero, List.getElem_cons_succ, List.setIfInBounds_toArray, List.set_cons_zero, List.set_cons_succ]
            refine wpAnyH_ready (rs := [12]) (by kernel_rfl) (by simp) ?_
            refine AllReadyH.cons rfl (fun KQ hK => ?_) AllReadyH.nil
            go_simp
            refine (HSZ.out _ _ _ HTY.out (HA.out.grow hHeld)).mono ?_
            rintro e y2 ⟨rfl, a1⟩
            refine hK.out _ _ (grow_trans hHeld a1) (fun hHeld => ?_)
            clear hK KQ
            refine wpAnyH_ready (rs := [17]) (by kernel_rfl) (by simp) ?_
            refine AllReadyH.cons rfl (fun KQ hK => ?_) AllReadyH.nil
            go_simp
            refine (HPR.out _ (grow_trans HQW.out (HA.out.grow hHeld).low)).mono ?_
            rintro e y3 ⟨pa, pc, rfl, _, a1⟩
            refine hK.out _ _ (grow_trans hHeld a1) (fun hHeld => ?_)
            clear hK KQ
            refine wpAnyH_take (i := 18) (v := .int .i64 (mm : Int)) rfl (by kernel_rfl) (by kernel_rfl) (by kernel_rfl) (fun _ _ _ h => h) (Or.inl ⟨by rfl, fun w hS => by go_simp⟩) hHeld ?_
            simp only [Act.put, List.getElem_toArray, List.getElem_cons_zero, List.getElem_cons_succ, List.setIfInBounds_toArray, List.set_cons_zero, List.set_cons_succ]
            refine wpAnyH_take (i := 19) (v := .bool false) rfl (by kernel_rfl) (by kernel_rfl) (by kernel_rfl) (fun _ _ _ h => h) (Or.inl ⟨by rfl, fun w hS => by go_simp⟩) hHeld ?_
            simp only [Act.put, List.getElem_toArray, List.getElem_cons_zero, List.getElem_cons_succ, List.setIfInBounds_toArray, List.set_cons_zero, List.set_cons_succ]
            refine wpAnyH_take (i := 20) (v := .bool false) rfl (by kernel_rfl) (by kernel_rfl) (by kernel_rfl) (fun _ _ _ h => h) (Or.inl ⟨by rfl, fun w hS => by go_simp⟩) hHeld ?_
            simp only [Act.put, List.getElem_toArray, List.getElem_cons_zero, List.getElem_cons_succ, List.setIfInBounds_toArray, List.set_cons_zero, List.set_cons_succ]
            refine wpAnyH_done (by kernel_rfl) ?_ _
            have HAE := hidden (HA.out.grow hHeld)
            clear hHeld
            go_wp2_with fail
            exact ⟨⟨k + 1, tn, root, _, by omega, by rw [HTY.out], by rw [HRY.out], by go_num, by have hz := HNX.out _ _ HAE.out; rw [← HPRQ.out] at hz; exact hz⟩, by simp [intOf]; exact mea_step k1⟩
        · as_aux_lemma =>
            have hrz : (root : Int) = 0 := by omega
            have HPT : Hid (∀ w', Hy w1 w' g gs 8256 bt D cs fr → Calls Tryz.prog 21 #[.pointer (some ⟨g, 0, none⟩), .int .i64 (root : Int), .agg (B (es.getD k e00).1), .slice ua (es.getD k e00).2.length uc] w' fun e w'' => ∃ (ty : Int) (tn : Nat), e = .returned (.tuple #[.int .i64 ty, .int .i64 0]) ∧ ty = (tn : Int) ∧ 1 ≤ tn ∧ Ax w1 w'' g gs 8256 bt D (k + 1) (prI (l.take (k + 1))) tn kept (noc cs + costN T (es.getD k e00).1 (es.getD k e00).2 ss)) := fun w' h => by
              rw [hst, ← hVk]
              exact (mp_put h M.rt M.ents hap (fun i => by have := M.own i; omega) rfl M.noc hk16 M.held hKey hu hlz hlen hss h256).mono fun e w'' ⟨tn, q1, q2⟩ => ⟨_, tn, q1, rfl, (by obtain ⟨_, _, _, _, _, _, q3, _⟩ := q2; exact q3), q2⟩
            have HDG : Hid (∀ w' (ty : Int) (tn : Nat), ty = (tn : Int) → Ax w1 w' g gs 8256 bt D (k + 1) (prI (l.take (k + 1))) tn kept (noc cs + costN T (es.getD k e00).1 (es.getD k e00).2 ss) → Calls Tryz.prog 20 #[.pointer (some ⟨g, 0, none⟩), .int .i64 ty] w' fun e w'' => e = .returned (.agg (B (rt 256 0 ((prI (l.take (k + 1))).map (·.1))))) ∧ Below w'.heap.size w' w'') := fun w' ty tn q h => by rw [q]; exact h.dig (hlz _ h.low)
            have HSZ : Hid (∀ w' (ty : Int) (tn : Nat), ty = (tn : Int) → Ax w1 w' g gs 8256 bt D (k + 1) (prI (l.take (k + 1))) tn kept (noc cs + costN T (es.getD k e00).1 (es.getD k e00).2 ss) → Calls Tryz.prog 25 #[.pointer (some ⟨g, 0, none⟩), .int .i64 ty] w' fun e w'' => e = .returned (.int .i64 ((prI (l.take (k + 1))).length : Int)) ∧ Below w'.heap.size w' w'') := fun w' ty tn q h => by rw [q]; exact h.size
            have HNX : Hid (∀ w' tn, Ax w1 w' g gs 8256 bt D (k + 1) (prI (l.take (k + 1))) tn kept (noc cs + costN T (es.getD k e00).1 (es.getD k e00).2 ss) → D.length = 32 ∧ ∃ cs9 fr9 T9, Hy w1 w' g gs 8256 bt D cs9 fr9 ∧ Mp cs9 (k + 1) (prI (l.take (k + 1))) tn T9 kept D) := fun w' tn ⟨cs9, fr9, T9, h1, h2, _⟩ => ⟨HDL.out, cs9, fr9, T9, h1, h2⟩
            have HY0 := HYR
            generalize hog : noc cs = o at HOC HPT HDG HSZ HNX
            generalize hcg : costN T (es.getD k e00).1 (es.getD k e00).2 ss = c at HCO HPT HDG HSZ HNX hcn
            have ho2 : o ≤ 5000 := (by have := M.noc; omega)
            have HITL : Hid ((prI (l.take (k + 1))).length ≤ 16) := hpl
            have hc258 : ¬ (258 : Int) < (c : Int) := (by omega)
            have hwo : wrap64 ((o : Int) + (c : Int)) = (o : Int) + (c : Int) := Go.IntWalk.wrap64_in _ (by omega)
            generalize (rt 256 0 ((prI (l.take (k + 1))).map (·.1))) = H at HDG HRO HHL HHS hE
            generalize (es.getD k e00).1 = K at HPT HCO HRG HKL HPL
            generalize (es.getD k e00).2.length = ul at HPT HCO HRG
            obtain ⟨ry, hry⟩ : ∃ ry : Int, ry = (root : Int) := ⟨_, rfl⟩
            rw [← hry] at HPT HCO ⊢
            have HRY := hidden hry
            generalize hprq : (prI (l.take (k + 1))) = pr at HPT HDG HSZ HNX HPR HRO HITL
            have HPRQ := hidden hprq
            obtain ⟨mm, hmm⟩ : ∃ mm, mm = pr.length := ⟨_, rfl⟩
            rw [← hmm] at HSZ HPR HRO HITL
            have k0 : (0 : Int) ≤ (k : Int) := by omega
            have k1 : (k : Int) < (n : Int) := by omega
            have hwk : wrap64 ((k : Int) + 1) = ((k + 1 : Nat) : Int) := by rw [Go.IntWalk.wrap64_in _ (by omega)]; rfl
            have kc0 : (0 : Int) ≤ ((k + 1 : Nat) : Int) := Int.natCast_nonneg _
            have kc1 : ((k + 1 : Nat) : Int) ≤ (cap : Int) := Int.ofNat_le.2 (Nat.le_trans (Nat.succ_le_of_lt hlt) HCAP.out)
            clear hVk hKey hat hss h256 hap hst hu hlz M HYc hpl hpa hpm hri e1 e2 hHl hlen hcg hog hmm HST HAT HPA HIT HIN hk hcn ho2 hprq
            have hrn : ¬ (0 : Int) < ry := (by rw [hry, hrz]; omega)
            clear hry hrz hr0
            go_wp2_with fail
            refine wp_region_held_drew (S := fun w' => w'.rangeAt lb (off + k * 33) (encP K (.slice ua ul uc))) (by kernel_rfl) (HRG.out _ (grow_trans HYR.out.low (below_drewN (Below.refl _ _) 1))) (fun hHeld => ?_)
            refine wpAnyH_take (i := 0) (v := .pointer (some ⟨g, 0, none⟩)) rfl (by kernel_rfl) (by kernel_rfl) (by kernel_rfl) (fun _ _ _ h => h) (Or.inl ⟨by rfl, fun w hS => by go_simp⟩) hHeld ?_
            simp only [Act.put, List.getElem_toArray, List.getElem_cons_zero, List.setIfInBounds_toArray, List.set_cons_zero, List.set_cons_succ]
            refine wpAnyH_take (i := 1) (v := .int .i64 ry) rfl (by kernel_rfl) (by kernel_rfl) (by kernel_rfl) (fun _ _ _ h => h) (Or.inl ⟨by rfl, fun w hS => by go_simp⟩) hHeld ?_
            simp only [Act.put, List.getElem_toArray, List.getElem_cons_zero, List.getElem_cons_succ, List.setIfInBounds_toArray, List.set_cons_zero, List.set_cons_succ]
            refine wpAnyH_take (i := 2) (v := .slice (some ⟨lb, off, none⟩) n cap) rfl (by kernel_rfl) (by kernel_rfl) (by kernel_rfl) (fun _ _ _ h => h) (Or.inl ⟨by rfl, fun w hS => by go_simp⟩) hHeld ?_
            simp only [Act.put, List.getElem_toArray, List.getElem_cons_zero, List.getElem_cons_succ, List.setIfInBounds_toArray, List.set_cons_zero, List.set_cons_succ]
            refine wpAnyH_take (i := 3) (v := .int .i64 (k : Int)) rfl (by kernel_rfl) (by kernel_rfl) (by kernel_rfl) (fun _ _ _ h => h) (Or.inl ⟨by rfl, fun w hS => by go_simp⟩) hHeld ?_
            simp only [Act.put, List.getElem_toArray, List.getElem_cons_zero, List.getElem_cons_succ, List.setIfInBounds_toArray, List.set_cons_zero, List.set_cons_succ]
            refine wpAnyH_take (i := 4) (v := .pointer (some ⟨lb, off + k * 33, none⟩)) rfl (by kernel_rfl) (by kernel_rfl) (by kernel_rfl) (fun _ _ _ h => h) (Or.inl ⟨by rfl, fun w hS => by go_simp⟩) hHeld ?_
            simp only [Act.put, List.getElem_toArray, List.getElem_cons_zero, List.getElem_cons_succ, List.setIfInBounds_toArray, List.set_cons_zero, List.set_cons_succ]
            refine wpAnyH_take (i := 5) (v := .pointer (some ⟨lb, off + k * 33, none⟩)) rfl (by kernel_rfl) (by kernel_rfl) (by kernel_rfl) (fun _ _ _ h => h) (Or.inl ⟨by rfl, fun w hS => by go_simp⟩) hHeld ?_
            simp only [Act.put, List.getElem_toArray, List.getElem_cons_zero, List.getElem_cons_succ, List.setIfInBounds_toArray, List.set_cons_zero, List.set_cons_succ]
            refine wpAnyH_take (i := 6) (v := .agg (B K)) rfl (by kernel_rfl) (by kernel_rfl) (by kernel_rfl) (fun _ _ _ h => h) (yieldsIf_load_mid rfl 31 (.tmp 42) rfl lb (off + k * 33) rfl (B K).toList _ (fun w hS => rng_key hS) Tryz.underlying31 rfl HPL.out) hHeld ?_
            simp only [Act.put, List.getElem_toArray, List.getElem_cons_zero, List.getElem_cons_succ, List.setIfInBounds_toArray, List.set_cons_zero, List.set_cons_succ]
            refine wpAnyH_take (i := 7) (v := .slice (some ⟨lb, off, none⟩) n cap) rfl (by kernel_rfl) (by kernel_rfl) (by kernel_rfl) (fun _ _ _ h => h) (Or.inl ⟨by rfl, fun w hS => by go_simp⟩) hHeld ?_
            simp only [Act.put, List.getElem_toArray, List.getElem_cons_zero, List.getElem_cons_succ, List.setIfInBounds_toArray, List.set_cons_zero, List.set_cons_succ]
            refine wpAnyH_take (i := 8) (v := .int .i64 (k : Int)) rfl (by kernel_rfl) (by kernel_rfl) (by kernel_rfl) (fun _ _ _ h => h) (Or.inl ⟨by rfl, fun w hS => by go_simp⟩) hHeld ?_
            simp only [Act.put, List.getElem_toArray, List.getElem_cons_zero, List.getElem_cons_succ, List.setIfInBounds_toArray, List.set_cons_zero, List.set_cons_succ]
            refine wpAnyH_take (i := 9) (v := .pointer (some ⟨lb, off + k * 33, none⟩)) rfl (by kernel_rfl) (by kernel_rfl) (by kernel_rfl) (fun _ _ _ h => h) (Or.inl ⟨by rfl, fun w hS => by go_simp⟩) hHeld ?_
            simp only [Act.put, List.getElem_toArray, List.getElem_cons_zero, List.getElem_cons_succ, List.setIfInBounds_toArray, List.set_cons_zero, List.set_cons_succ]
            refine wpAnyH_take (i := 10) (v := .pointer (some ⟨lb, off + k * 33 + 32, none⟩)) rfl (by kernel_rfl) (by kernel_rfl) (by kernel_rfl) (fun _ _ _ h => h) (Or.inl ⟨by rfl, fun w hS => by go_simp⟩) hHeld ?_
            simp only [Act.put, List.getElem_toArray, List.getElem_cons_zero, List.getElem_cons_succ, List.setIfInBounds_toArray, List.set_cons_zero, List.set_cons_succ]
            refine wpAnyH_take (i := 11) (v := .slice ua ul uc) rfl (by kernel_rfl) (by kernel_rfl) (by kernel_rfl) (fun _ _ _ h => h) (Or.inl ⟨by rfl, fun w hS => by (have q1 := rng_val hS HKL.out; go_simp)⟩) hHeld ?_
            simp only [Act.put, List.getElem_toArray, List.getElem_cons_zero, List.getElem_cons_succ, List.setIfInBounds_toArray, List.set_cons_zero, List.set_cons_succ]
            refine wpAnyH_ready (rs := [12]) (by kernel_rfl) (by simp) ?_
            refine AllReadyH.cons rfl (fun KQ hK => ?_) AllReadyH.nil
            go_simp
            refine (HCO.out _ (below_drewN (Below.refl _ _) 1)).mono ?_
            rintro e x1 ⟨rfl, a1⟩
            have HQ1 : Hid (Below wr.heap.size wr x1) := grow_trans (below_drewN (Below.refl _ _) 1) a1
            clear a1
            refine hK.out _ _ (HRG.out _ (grow_trans HYR.out.low HQ1.out)) (fun hHeld => ?_)
            clear hK KQ
            refine wpAnyH_take (i := 13) (v := .tuple #[.int .i64 (c : Int), .int .i64 0]) rfl (by kernel_rfl) (by kernel_rfl) (by kernel_rfl) (fun _ _ _ h => h) (Or.inl ⟨by rfl, fun w hS => by go_simp⟩) hHeld ?_
            simp only [Act.put, List.getElem_toArray, List.getElem_cons_zero, List.getElem_cons_succ, List.setIfInBounds_toArray, List.set_cons_zero, List.set_cons_succ]
            refine wpAnyH_take (i := 14) (v := .int .i64 (c : Int)) rfl (by kernel_rfl) (by kernel_rfl) (by kernel_rfl) (fun _ _ _ h => h) (Or.inl ⟨by rfl, fun w hS => by go_simp⟩) hHeld ?_
            simp only [Act.put, List.getElem_toArray, List.getElem_cons_zero, List.getElem_cons_succ, List.setIfInBounds_toArray, List.set_cons_zero, List.set_cons_succ]
            refine wpAnyH_take (i := 15) (v := .int .i64 0) rfl (by kernel_rfl) (by kernel_rfl) (by kernel_rfl) (fun _ _ _ h => h) (Or.inl ⟨by rfl, fun w hS => by go_simp⟩) hHeld ?_
            simp only [Act.put, List.getElem_toArray, List.getElem_cons_zero, List.getElem_cons_succ, List.setIfInBounds_toArray, List.set_cons_zero, List.set_cons_succ]
            refine wpAnyH_take (i := 16) (v := .int .i64 (c : Int)) rfl (by kernel_rfl) (by kernel_rfl) (by kernel_rfl) (fun _ _ _ h => h) (Or.inl ⟨by rfl, fun w hS => by go_simp⟩) hHeld ?_
            simp only [Act.put, List.getElem_toArray, List.getElem_cons_zero, List.getElem_cons_succ, List.setIfInBounds_toArray, List.set_cons_zero, List.set_cons_succ]
            refine wpAnyH_take (i := 17) (v := .int .i64 0) rfl (by kernel_rfl) (by kernel_rfl) (by kernel_rfl) (fun _ _ _ h => h) (Or.inl ⟨by rfl, fun w hS => by go_simp⟩) hHeld ?_
            simp only [Act.put, List.getElem_toArray, List.getElem_cons_zero, List.getElem_cons_succ, List.setIfInBounds_toArray, List.set_cons_zero, List.set_cons_succ]
            refine wpAnyH_done (by kernel_rfl) ?_ _
            clear hHeld
            go_wp2_with (first
              | (go_at_call 18; refine (HOC.out _ HQ1.out).mono ?_; rintro e x2 ⟨rfl, b2⟩; have HY := hidden (HY0.out.grow (grow_trans HQ1.out b2)); clear b2))
            refine wp_region_held_drew (S := fun w' => w'.rangeAt lb (off + k * 33) (encP K (.slice ua ul uc))) (by kernel_rfl) (HRG.out _ (grow_trans HY.out.low (below_drewN (Below.refl _ _) 1))) (fun hHeld => ?_)
            refine wpAnyH_take (i := 0) (v := .pointer (some ⟨g, 0, none⟩)) rfl (by kernel_rfl) (by kernel_rfl) (by kernel_rfl) (fun _ _ _ h => h) (Or.inl ⟨by rfl, fun w hS => by go_simp⟩) hHeld ?_
            simp only [Act.put, List.getElem_toArray, List.getElem_cons_zero, List.setIfInBounds_toArray, List.set_cons_zero, List.set_cons_succ]
            refine wpAnyH_take (i := 1) (v := .int .i64 ry) rfl (by kernel_rfl) (by kernel_rfl) (by kernel_rfl) (fun _ _ _ h => h) (Or.inl ⟨by rfl, fun w hS => by go_simp⟩) hHeld ?_
            simp only [Act.put, List.getElem_toArray, List.getElem_cons_zero, List.getElem_cons_succ, List.setIfInBounds_toArray, List.set_cons_zero, List.set_cons_succ]
            refine wpAnyH_take (i := 2) (v := .slice (some ⟨lb, off, none⟩) n cap) rfl (by kernel_rfl) (by kernel_rfl) (by kernel_rfl) (fun _ _ _ h => h) (Or.inl ⟨by rfl, fun w hS => by go_simp⟩) hHeld ?_
            simp only [Act.put, List.getElem_toArray, List.getElem_cons_zero, List.getElem_cons_succ, List.setIfInBounds_toArray, List.set_cons_zero, List.set_cons_succ]
            refine wpAnyH_take (i := 3) (v := .int .i64 (k : Int)) rfl (by kernel_rfl) (by kernel_rfl) (by kernel_rfl) (fun _ _ _ h => h) (Or.inl ⟨by rfl, fun w hS => by go_simp⟩) hHeld ?_
            simp only [Act.put, List.getElem_toArray, List.getElem_cons_zero, List.getElem_cons_succ, List.setIfInBounds_toArray, List.set_cons_zero, List.set_cons_succ]
            refine wpAnyH_take (i := 4) (v := .pointer (some ⟨lb, off + k * 33, none⟩)) rfl (by kernel_rfl) (by kernel_rfl) (by kernel_rfl) (fun _ _ _ h => h) (Or.inl ⟨by rfl, fun w hS => by go_simp⟩) hHeld ?_
            simp only [Act.put, List.getElem_toArray, List.getElem_cons_zero, List.getElem_cons_succ, List.setIfInBounds_toArray, List.set_cons_zero, List.set_cons_succ]
            refine wpAnyH_take (i := 5) (v := .pointer (some ⟨lb, off + k * 33, none⟩)) rfl (by kernel_rfl) (by kernel_rfl) (by kernel_rfl) (fun _ _ _ h => h) (Or.inl ⟨by rfl, fun w hS => by go_simp⟩) hHeld ?_
            simp only [Act.put, List.getElem_toArray, List.getElem_cons_zero, List.getElem_cons_succ, List.setIfInBounds_toArray, List.set_cons_zero, List.set_cons_succ]
            refine wpAnyH_take (i := 6) (v := .agg (B K)) rfl (by kernel_rfl) (by kernel_rfl) (by kernel_rfl) (fun _ _ _ h => h) (yieldsIf_load_mid rfl 31 (.tmp 75) rfl lb (off + k * 33) rfl (B K).toList _ (fun w hS => rng_key hS) Tryz.underlying31 rfl HPL.out) hHeld ?_
            simp only [Act.put, List.getElem_toArray, List.getElem_cons_zero, List.getElem_cons_succ, List.setIfInBounds_toArray, List.set_cons_zero, List.set_cons_succ]
            refine wpAnyH_take (i := 7) (v := .slice (some ⟨lb, off, none⟩) n cap) rfl (by kernel_rfl) (by kernel_rfl) (by kernel_rfl) (fun _ _ _ h => h) (Or.inl ⟨by rfl, fun w hS => by go_simp⟩) hHeld ?_
            simp only [Act.put, List.getElem_toArray, List.getElem_cons_zero, List.getElem_cons_succ, List.setIfInBounds_toArray, List.set_cons_zero, List.set_cons_succ]
            refine wpAnyH_take (i := 8) (v := .int .i64 (k : Int)) rfl (by kernel_rfl) (by kernel_rfl) (by kernel_rfl) (fun _ _ _ h => h) (Or.inl ⟨by rfl, fun w hS => by go_simp⟩) hHeld ?_
            simp only [Act.put, List.getElem_toArray, List.getElem_cons_zero, List.getElem_cons_succ, List.setIfInBounds_toArray, List.set_cons_zero, List.set_cons_succ]
            refine wpAnyH_take (i := 9) (v := .pointer (some ⟨lb, off + k * 33, none⟩)) rfl (by kernel_rfl) (by kernel_rfl) (by kernel_rfl) (fun _ _ _ h => h) (Or.inl ⟨by rfl, fun w hS => by go_simp⟩) hHeld ?_
            simp only [Act.put, List.getElem_toArray, List.getElem_cons_zero, List.getElem_cons_succ, List.setIfInBounds_toArray, List.set_cons_zero, List.set_cons_succ]
            refine wpAnyH_take (i := 10) (v := .pointer (some ⟨lb, off + k * 33 + 32, none⟩)) rfl (by kernel_rfl) (by kernel_rfl) (by kernel_rfl) (fun _ _ _ h => h) (Or.inl ⟨by rfl, fun w hS => by go_simp⟩) hHeld ?_
            simp only [Act.put, List.getElem_toArray, List.getElem_cons_zero, List.getElem_cons_succ, List.setIfInBounds_toArray, List.set_cons_zero, List.set_cons_succ]
            refine wpAnyH_take (i := 11) (v := .slice ua ul uc) rfl (by kernel_rfl) (by kernel_rfl) (by kernel_rfl) (fun _ _ _ h => h) (Or.inl ⟨by rfl, fun w hS => by (have q1 := rng_val hS HKL.out; go_simp)⟩) hHeld ?_
            simp only [Act.put, List.getElem_toArray, List.getElem_cons_zero, List.getElem_cons_succ, List.setIfInBounds_toArray, List.set_cons_zero, List.set_cons_succ]
            refine wpAnyH_ready (rs := [12]) (by kernel_rfl) (by simp) ?_
            refine AllReadyH.cons rfl (fun KQ hK => ?_) AllReadyH.nil
            go_simp
            refine (HPT.out _ (HY.out.grow (below_drewN (Below.refl _ _) 1))).mono ?_
            rintro e z1 ⟨ty, tn, rfl, hty, htp, hA⟩
            have HTY := hidden hty
            have HA := hidden hA
            have tyn : ¬ ty = 0 := (by rw [hty]; omega)
            have tyb : (ty == 0) = false := (by simpa using tyn)
            clear hty hA htp
            refine hK.out _ _ (HRG.out _ HA.out.low) (fun hHeld => ?_)
            clear hK KQ
            refine wpAnyH_take (i := 13) (v := .tuple #[.int .i64 ty, .int .i64 0]) rfl (by kernel_rfl) (by kernel_rfl) (by kernel_rfl) (fun _ _ _ h => h) (Or.inl ⟨by rfl, fun w hS => by go_simp⟩) hHeld ?_
            simp only [Act.put, List.getElem_toArray, List.getElem_cons_zero, List.getElem_cons_succ, List.setIfInBounds_toArray, List.set_cons_zero, List.set_cons_succ]
            refine wpAnyH_take (i := 14) (v := .int .i64 ty) rfl (by kernel_rfl) (by kernel_rfl) (by kernel_rfl) (fun _ _ _ h => h) (Or.inl ⟨by rfl, fun w hS => by go_simp⟩) hHeld ?_
            simp only [Act.put, List.getElem_toArray, List.getElem_cons_zero, List.getElem_cons_succ, List.setIfInBounds_toArray, List.set_cons_zero, List.set_cons_succ]
            refine wpAnyH_take (i := 15) (v := .int .i64 0) rfl (by kernel_rfl) (by kernel_rfl) (by kernel_rfl) (fun _ _ _ h => h) (Or.inl ⟨by rfl, fun w hS => by go_simp⟩) hHeld ?_
            simp only [Act.put, List.getElem_toArray, List.getElem_cons_zero, List.getElem_cons_succ, List.setIfInBounds_toArray, List.set_cons_zero, List.set_cons_succ]
            refine wpAnyH_take (i := 16) (v := .int .i64 ty) rfl (by kernel_rfl) (by kernel_rfl) (by kernel_rfl) (fun _ _ _ h => h) (Or.inl ⟨by rfl, fun w hS => by go_simp⟩) hHeld ?_
            simp only [Act.put, List.getElem_toArray, List.getElem_cons_zero, List.getElem_cons_succ, List.setIfInBounds_toArray, List.set_cons_zero, List.set_cons_succ]
            refine wpAnyH_take (i := 17) (v := .int .i64 0) rfl (by kernel_rfl) (by kernel_rfl) (by kernel_rfl) (fun _ _ _ h => h) (Or.inl ⟨by rfl, fun w hS => by go_simp⟩) hHeld ?_
            simp only [Act.put, List.getElem_toArray, List.getElem_cons_zero, List.getElem_cons_succ, List.setIfInBounds_toArray, List.set_cons_zero, List.set_cons_succ]
            refine wpAnyH_done (by kernel_rfl) ?_ _
            clear hHeld
            go_wp2_with (first
              | (go_at_call 18; obtain ⟨o2, ho2, hc2⟩ := HA.out.occ; have hno : ¬ ((o : Int) + (c : Int)) < (o2 : Int) := (by have := ho2; omega); refine hc2.mono ?_; rintro e x5 ⟨rfl, b5⟩; replace HA := hidden (HA.out.grow b5); clear b5 hc2 ho2)
              | (go_at_call 22; obtain ⟨h2, hh2, hc2⟩ := HA.out.held; rw [← HTY.out] at hc2; have hnh : ¬ (h2 : Int) < 1 := (by omega); refine hc2.mono ?_; rintro e x6 ⟨rfl, b6⟩; replace HA := hidden (HA.out.grow b6); clear b6 hc2 hh2)
              | (go_at_call 24; refine (HPR.out _ (grow_trans HQW.out HA.out.low)).mono ?_; rintro e x7 ⟨pa, pc, rfl, hq, b7⟩; have HQ7 := hidden hq; replace HA := hidden (HA.out.grow b7); clear b7 hq)
              | (go_at_call 23; refine (HRO.out _ _ _ ⟨_, HQ7.out⟩ (grow_trans HQW.out HA.out.low)).mono ?_; rintro e x8 ⟨rfl, b8⟩; replace HA := hidden (HA.out.grow b8); clear b8)
              | ((with_reducible refine at_ald 17 ?_); refine wpList_al _ rfl _ rfl _ zero_hash ?_; intro x8b bh hgh hlh BH q3; have HBZ := hidden BH; have HGH := hidden hgh; have HQ8 := hidden q3; clear hgh hlh BH q3)
              | ((with_reducible refine at_st 17 ?_); refine wpList_sto _ rfl _ _ _ rfl bh _ (B H) rfl rfl HBZ.out HHS.out.1 HHS.out.2 (B_one _) ?_; intro x9 BH r4; have HBH := hidden BH; replace HA := hidden (HA.out.grow (below_row HQ8.out r4 HGH.out)); clear BH r4))
            have hwi : IntKind.i64.wrap ((k : Int) + 1) = (k : Int) + 1 := (Go.IntWalk.i64_left _).trans hwk
            have kd0 : (0 : Int) ≤ (k : Int) + 1 := kc0
            have kd1 : ¬ (cap : Int) < (k : Int) + 1 := Int.not_lt.2 kc1
            have kd2 : (k : Int) + 1 ≤ (cap : Int) := kc1
            refine wp_region_held_drew (S := fun w' => Below x9.heap.size x9 w') (by kernel_rfl) ((below_drewN (Below.refl _ _) 1)) (fun hHeld => ?_)
            refine wpAnyH_take (i := 0) (v := .int .i64 0) rfl (by kernel_rfl) (by kernel_rfl) (by kernel_rfl) (fun _ _ _ h => h) (Or.inl ⟨by rfl, fun w hS => by go_simp⟩) hHeld ?_
            simp only [Act.put, List.getElem_toArray, List.getElem_cons_zero, List.setIfInBounds_toArray, List.set_cons_zero, List.set_cons_succ]
            refine wpAnyH_take (i := 1) (v := .bool false) rfl (by kernel_rfl) (by kernel_rfl) (by kernel_rfl) (fun _ _ _ h => h) (Or.inl ⟨by rfl, fun w hS => by go_simp⟩) hHeld ?_
            simp only [Act.put, List.getElem_toArray, List.getElem_cons_zero, List.getElem_cons_succ, List.setIfInBounds_toArray, List.set_cons_zero, List.set_cons_succ]
            refine wpAnyH_take (i := 2) (v := .bool false) rfl (by kernel_rfl) (by kernel_rfl) (by kernel_rfl) (fun _ _ _ h => h) (Or.inl ⟨by rfl, fun w hS => by go_simp⟩) hHeld ?_
            simp only [Act.put, List.getElem_toArray, List.getElem_cons_zero, List.getElem_cons_succ, List.setIfInBounds_toArray, List.set_cons_zero, List.set_cons_succ]
            refine wpAnyH_take (i := 3) (v := .pointer (some ⟨g, 0, none⟩)) rfl (by kernel_rfl) (by kernel_rfl) (by kernel_rfl) (fun _ _ _ h => h) (Or.inl ⟨by rfl, fun w hS => by go_simp⟩) hHeld ?_
            simp only [Act.put, List.getElem_toArray, List.getElem_cons_zero, List.getElem_cons_succ, List.setIfInBounds_toArray, List.set_cons_zero, List.set_cons_succ]
            refine wpAnyH_take (i := 4) (v := .int .i64 ty) rfl (by kernel_rfl) (by kernel_rfl) (by kernel_rfl) (fun _ _ _ h => h) (Or.inl ⟨by rfl, fun w hS => by go_simp⟩) hHeld ?_
            simp only [Act.put, List.getElem_toArray, List.getElem_cons_zero, List.getElem_cons_succ, List.setIfInBounds_toArray, List.set_cons_zero, List.set_cons_succ]
            refine wpAnyH_take (i := 6) (v := .agg (B H)) rfl (by kernel_rfl) (by kernel_rfl) (by kernel_rfl) (fun _ _ _ h => h) (yieldsIf_load_mid rfl 55 (.tmp 17) rfl bh 0 rfl (B H).toList _ (fun w hS => (HBH.out.grow hS).range) Tryz.underlying55 rfl HHL.out) hHeld ?_
            simp only [Act.put, List.getElem_toArray, List.getElem_cons_zero, List.getElem_cons_succ, List.setIfInBounds_toArray, List.set_cons_zero, List.set_cons_succ]
            refine wpAnyH_ready (rs := [5]) (by kernel_rfl) (by simp) ?_
            refine AllReadyH.cons rfl (fun KQ hK => ?_) AllReadyH.nil
            go_simp
            refine (HDG.out _ _ _ HTY.out (HA.out.grow hHeld)).mono ?_
            rintro e y1 ⟨rfl, a1⟩
            refine hK.out _ _ (grow_trans hHeld a1) (fun hHeld => ?_)
            clear hK KQ
            refine wpAnyH_take (i := 7) (v := .bool false) rfl (by kernel_rfl) (by kernel_rfl) (by kernel_rfl) (fun _ _ _ h => h) (Or.inl ⟨by rfl, fun w hS => by go_simp⟩) hHeld ?_
            simp only [Act.put, List.getElem_toArray, List.getElem_cons_zero, List.getElem_cons_succ, List.setIfInBounds_toArray, List.set_cons_zero, List.set_cons_succ]
            refine wpAnyH_take (i := 8) (v := .bool false) rfl (by kernel_rfl) (by kernel_rfl) (by kernel_rfl) (fun _ _ _ h => h) (Or.inl ⟨by rfl, fun w hS => by go_simp⟩) hHeld ?_
            simp only [Act.put, List.getElem_toArray, List.getElem_cons_zero, List.getElem_cons_succ, List.setIfInBounds_toArray, List.set_cons_zero, List.set_cons_succ]
            refine wpAnyH_take (i := 9) (v := .bool false) rfl (by kernel_rfl) (by kernel_rfl) (by kernel_rfl) (fun _ _ _ h => h) (Or.inl ⟨by rfl, fun w hS => by go_simp⟩) hHeld ?_
            simp only [Act.put, List.getElem_toArray, List.getElem_cons_zero, List.getElem_cons_succ, List.setIfInBounds_toArray, List.set_cons_zero, List.set_cons_succ]
            refine wpAnyH_take (i := 10) (v := .pointer (some ⟨g, 0, none⟩)) rfl (by kernel_rfl) (by kernel_rfl) (by kernel_rfl) (fun _ _ _ h => h) (Or.inl ⟨by rfl, fun w hS => by go_simp⟩) hHeld ?_
            simp only [Act.put, List.getElem_toArray, List.getElem_cons_zero, List.getElem_cons_succ, List.setIfInBounds_toArray, List.set_cons_zero, List.set_cons_succ]
            refine wpAnyH_take (i := 11) (v := .int .i64 ty) rfl (by kernel_rfl) (by kernel_rfl) (by kernel_rfl) (fun _ _ _ h => h) (Or.inl ⟨by rfl, fun w hS => by go_simp⟩) hHeld ?_
            simp only [Act.put, List.getElem_toArray, List.getElem_cons_zero, List.getElem_cons_succ, List.setIfInBounds_toArray, List.set_cons_zero, List.set_cons_succ]
            refine wpAnyH_take (i := 13) (v := .slice (some ⟨lb, off, none⟩) n cap) rfl (by kernel_rfl) (by kernel_rfl) (by kernel_rfl) (fun _ _ _ h => h) (Or.inl ⟨by rfl, fun w hS => by go_simp⟩) hHeld ?_
            simp only [Act.put, List.getElem_toArray, List.getElem_cons_zero, List.getElem_cons_succ, List.setIfInBounds_toArray, List.set_cons_zero, List.set_cons_succ]
            refine wpAnyH_take (i := 14) (v := .int .i64 (k : Int)) rfl (by kernel_rfl) (by kernel_rfl) (by kernel_rfl) (fun _ _ _ h => h) (Or.inl ⟨by rfl, fun w hS => by go_simp⟩) hHeld ?_
            simp only [Act.put, List.getElem_toArray, List.getElem_cons_zero, List.getElem_cons_succ, List.setIfInBounds_toArray, List.set_cons_zero, List.set_cons_succ]
            refine wpAnyH_take (i := 15) (v := .int .i64 ((k + 1 : Nat) : Int)) rfl (by kernel_rfl) (by kernel_rfl) (by kernel_rfl) (fun _ _ _ h => h) (Or.inl ⟨by rfl, fun w hS => by go_simp⟩) hHeld ?_
            simp only [Act.put, List.getElem_toArray, List.getElem_cons_zero, List.getElem_cons_succ, List.setIfInBounds_toArray, List.set_cons_zero, List.set_cons_succ]
            refine wpAnyH_take (i := 16) (v := .slice (some ⟨lb, off, none⟩) (k + 1) cap) rfl (by kernel_rfl) (by kernel_rfl) (by kernel_rfl) (fun _ _ _ h => h) (Or.inl ⟨by rfl, fun w hS => by go_simp⟩) hHeld ?_
            simp only [Act.put, List.getElem_toArray, List.getElem_cons_zero, List.getElem_cons_succ, List.setIfInBounds_toArray, List.set_cons_zero, List.set_cons_succ]
            refine wpAnyH_ready (rs := [12]) (by kernel_rfl) (by simp) ?_
            refine AllReadyH.cons rfl (fun KQ hK => ?_) AllReadyH.nil
            go_simp
            refine (HSZ.out _ _ _ HTY.out (HA.out.grow hHeld)).mono ?_
            rintro e y2 ⟨rfl, a1⟩
            refine hK.out _ _ (grow_trans hHeld a1) (fun hHeld => ?_)
            clear hK KQ
            refine wpAnyH_ready (rs := [17]) (by kernel_rfl) (by simp) ?_
            refine AllReadyH.cons rfl (fun KQ hK => ?_) AllReadyH.nil
            go_simp
            refine (HPR.out _ (grow_trans HQW.out (HA.out.grow hHeld).low)).mono ?_
            rintro e y3 ⟨pa, pc, rfl, _, a1⟩
            refine hK.out _ _ (grow_trans hHeld a1) (fun hHeld => ?_)
            clear hK KQ
            refine wpAnyH_take (i := 18) (v := .int .i64 (mm : Int)) rfl (by kernel_rfl) (by kernel_rfl) (by kernel_rfl) (fun _ _ _ h => h) (Or.inl ⟨by rfl, fun w hS => by go_simp⟩) hHeld ?_
            simp only [Act.put, List.getElem_toArray, List.getElem_cons_zero, List.getElem_cons_succ, List.setIfInBounds_toArray, List.set_cons_zero, List.set_cons_succ]
            refine wpAnyH_take (i := 19) (v := .bool false) rfl (by kernel_rfl) (by kernel_rfl) (by kernel_rfl) (fun _ _ _ h => h) (Or.inl ⟨by rfl, fun w hS => by go_simp⟩) hHeld ?_
            simp only [Act.put, List.getElem_toArray, List.getElem_cons_zero, List.getElem_cons_succ, List.setIfInBounds_toArray, List.set_cons_zero, List.set_cons_succ]
            refine wpAnyH_take (i := 20) (v := .bool false) rfl (by kernel_rfl) (by kernel_rfl) (by kernel_rfl) (fun _ _ _ h => h) (Or.inl ⟨by rfl, fun w hS => by go_simp⟩) hHeld ?_
            simp only [Act.put, List.getElem_toArray, List.getElem_cons_zero, List.getElem_cons_succ, List.setIfInBounds_toArray, List.set_cons_zero, List.set_cons_succ]
            refine wpAnyH_done (by kernel_rfl) ?_ _
            have HAE := hidden (HA.out.grow hHeld)
            clear hHeld
            go_wp2_with fail
            exact ⟨⟨k + 1, tn, kept, _, by omega, by rw [HTY.out], rfl, by go_num, by have hz := HNX.out _ _ HAE.out; rw [← HPRQ.out] at hz; exact hz⟩, by simp [intOf]; exact mea_step k1⟩
      · as_aux_lemma =>
          have hkb : ((k : Int) == keep) = false := by simpa using hkeep
          have HPT : Hid (∀ w', Hy w1 w' g gs 8256 bt D cs fr → Calls Tryz.prog 21 #[.pointer (some ⟨g, 0, none⟩), .int .i64 (root : Int), .agg (B (es.getD k e00).1), .slice ua (es.getD k e00).2.length uc] w' fun e w'' => ∃ (ty : Int) (tn : Nat), e = .returned (.tuple #[.int .i64 ty, .int .i64 0]) ∧ ty = (tn : Int) ∧ 1 ≤ tn ∧ Ax w1 w'' g gs 8256 bt D (k + 1) (prI (l.take (k + 1))) tn kept (noc cs + costN T (es.getD k e00).1 (es.getD k e00).2 ss)) := fun w' h => by
            rw [hst, ← hVk]
            exact (mp_put h M.rt M.ents hap (fun i => by have := M.own i; omega) rfl M.noc hk16 M.held hKey hu hlz hlen hss h256).mono fun e w'' ⟨tn, q1, q2⟩ => ⟨_, tn, q1, rfl, (by obtain ⟨_, _, _, _, _, _, q3, _⟩ := q2; exact q3), q2⟩
          have HDG : Hid (∀ w' (ty : Int) (tn : Nat), ty = (tn : Int) → Ax w1 w' g gs 8256 bt D (k + 1) (prI (l.take (k + 1))) tn kept (noc cs + costN T (es.getD k e00).1 (es.getD k e00).2 ss) → Calls Tryz.prog 20 #[.pointer (some ⟨g, 0, none⟩), .int .i64 ty] w' fun e w'' => e = .returned (.agg (B (rt 256 0 ((prI (l.take (k + 1))).map (·.1))))) ∧ Below w'.heap.size w' w'') := fun w' ty tn q h => by rw [q]; exact h.dig (hlz _ h.low)
          have HSZ : Hid (∀ w' (ty : Int) (tn : Nat), ty = (tn : Int) → Ax w1 w' g gs 8256 bt D (k + 1) (prI (l.take (k + 1))) tn kept (noc cs + costN T (es.getD k e00).1 (es.getD k e00).2 ss) → Calls Tryz.prog 25 #[.pointer (some ⟨g, 0, none⟩), .int .i64 ty] w' fun e w'' => e = .returned (.int .i64 ((prI (l.take (k + 1))).length : Int)) ∧ Below w'.heap.size w' w'') := fun w' ty tn q h => by rw [q]; exact h.size
          have HNX : Hid (∀ w' tn, Ax w1 w' g gs 8256 bt D (k + 1) (prI (l.take (k + 1))) tn kept (noc cs + costN T (es.getD k e00).1 (es.getD k e00).2 ss) → D.length = 32 ∧ ∃ cs9 fr9 T9, Hy w1 w' g gs 8256 bt D cs9 fr9 ∧ Mp cs9 (k + 1) (prI (l.take (k + 1))) tn T9 kept D) := fun w' tn ⟨cs9, fr9, T9, h1, h2, _⟩ => ⟨HDL.out, cs9, fr9, T9, h1, h2⟩
          have HY0 := HYR
          generalize hog : noc cs = o at HOC HPT HDG HSZ HNX
          generalize hcg : costN T (es.getD k e00).1 (es.getD k e00).2 ss = c at HCO HPT HDG HSZ HNX hcn
          have ho2 : o ≤ 5000 := (by have := M.noc; omega)
          have HITL : Hid ((prI (l.take (k + 1))).length ≤ 16) := hpl
          have hc258 : ¬ (258 : Int) < (c : Int) := (by omega)
          have hwo : wrap64 ((o : Int) + (c : Int)) = (o : Int) + (c : Int) := Go.IntWalk.wrap64_in _ (by omega)
          generalize (rt 256 0 ((prI (l.take (k + 1))).map (·.1))) = H at HDG HRO HHL HHS hE
          generalize (es.getD k e00).1 = K at HPT HCO HRG HKL HPL
          generalize (es.getD k e00).2.length = ul at HPT HCO HRG
          obtain ⟨ry, hry⟩ : ∃ ry : Int, ry = (root : Int) := ⟨_, rfl⟩
          rw [← hry] at HPT HCO ⊢
          have HRY := hidden hry
          generalize hprq : (prI (l.take (k + 1))) = pr at HPT HDG HSZ HNX HPR HRO HITL
          have HPRQ := hidden hprq
          obtain ⟨mm, hmm⟩ : ∃ mm, mm = pr.length := ⟨_, rfl⟩
          rw [← hmm] at HSZ HPR HRO HITL
          have k0 : (0 : Int) ≤ (k : Int) := by omega
          have k1 : (k : Int) < (n : Int) := by omega
          have hwk : wrap64 ((k : Int) + 1) = ((k + 1 : Nat) : Int) := by rw [Go.IntWalk.wrap64_in _ (by omega)]; rfl
          have kc0 : (0 : Int) ≤ ((k + 1 : Nat) : Int) := Int.natCast_nonneg _
          have kc1 : ((k + 1 : Nat) : Int) ≤ (cap : Int) := Int.ofNat_le.2 (Nat.le_trans (Nat.succ_le_of_lt hlt) HCAP.out)
          clear hVk hKey hat hss h256 hap hst hu hlz M HYc hpl hpa hpm hri e1 e2 hHl hlen hcg hog hmm HST HAT HPA HIT HIN hk hcn ho2 hprq
          clear hry hkeep
          go_wp2_with fail
          refine wp_region_held_drew (S := fun w' => w'.rangeAt lb (off + k * 33) (encP K (.slice ua ul uc))) (by kernel_rfl) (HRG.out _ (grow_trans HYR.out.low (below_drewN (Below.refl _ _) 1))) (fun hHeld => ?_)
          refine wpAnyH_take (i := 0) (v := .pointer (some ⟨g, 0, none⟩)) rfl (by kernel_rfl) (by kernel_rfl) (by kernel_rfl) (fun _ _ _ h => h) (Or.inl ⟨by rfl, fun w hS => by go_simp⟩) hHeld ?_
          simp only [Act.put, List.getElem_toArray, List.getElem_cons_zero, List.setIfInBounds_toArray, List.set_cons_zero, List.set_cons_succ]
          refine wpAnyH_take (i := 1) (v := .int .i64 ry) rfl (by kernel_rfl) (by kernel_rfl) (by kernel_rfl) (fun _ _ _ h => h) (Or.inl ⟨by rfl, fun w hS => by go_simp⟩) hHeld ?_
          simp only [Act.put, List.getElem_toArray, List.getElem_cons_zero, List.getElem_cons_succ, List.setIfInBounds_toArray, List.set_cons_zero, List.set_cons_succ]
          refine wpAnyH_take (i := 2) (v := .slice (some ⟨lb, off, none⟩) n cap) rfl (by kernel_rfl) (by kernel_rfl) (by kernel_rfl) (fun _ _ _ h => h) (Or.inl ⟨by rfl, fun w hS => by go_simp⟩) hHeld ?_
          simp only [Act.put, List.getElem_toArray, List.getElem_cons_zero, List.getElem_cons_succ, List.setIfInBounds_toArray, List.set_cons_zero, List.set_cons_succ]
          refine wpAnyH_take (i := 3) (v := .int .i64 (k : Int)) rfl (by kernel_rfl) (by kernel_rfl) (by kernel_rfl) (fun _ _ _ h => h) (Or.inl ⟨by rfl, fun w hS => by go_simp⟩) hHeld ?_
          simp only [Act.put, List.getElem_toArray, List.getElem_cons_zero, List.getElem_cons_succ, List.setIfInBounds_toArray, List.set_cons_zero, List.set_cons_succ]
          refine wpAnyH_take (i := 4) (v := .pointer (some ⟨lb, off + k * 33, none⟩)) rfl (by kernel_rfl) (by kernel_rfl) (by kernel_rfl) (fun _ _ _ h => h) (Or.inl ⟨by rfl, fun w hS => by go_simp⟩) hHeld ?_
          simp only [Act.put, List.getElem_toArray, List.getElem_cons_zero, List.getElem_cons_succ, List.setIfInBounds_toArray, List.set_cons_zero, List.set_cons_succ]
          refine wpAnyH_take (i := 5) (v := .pointer (some ⟨lb, off + k * 33, none⟩)) rfl (by kernel_rfl) (by kernel_rfl) (by kernel_rfl) (fun _ _ _ h => h) (Or.inl ⟨by rfl, fun w hS => by go_simp⟩) hHeld ?_
          simp only [Act.put, List.getElem_toArray, List.getElem_cons_zero, List.getElem_cons_succ, List.setIfInBounds_toArray, List.set_cons_zero, List.set_cons_succ]
          refine wpAnyH_take (i := 6) (v := .agg (B K)) rfl (by kernel_rfl) (by kernel_rfl) (by kernel_rfl) (fun _ _ _ h => h) (yieldsIf_load_mid rfl 31 (.tmp 42) rfl lb (off + k * 33) rfl (B K).toList _ (fun w hS => rng_key hS) Tryz.underlying31 rfl HPL.out) hHeld ?_
          simp only [Act.put, List.getElem_toArray, List.getElem_cons_zero, List.getElem_cons_succ, List.setIfInBounds_toArray, List.set_cons_zero, List.set_cons_succ]
          refine wpAnyH_take (i := 7) (v := .slice (some ⟨lb, off, none⟩) n cap) rfl (by kernel_rfl) (by kernel_rfl) (by kernel_rfl) (fun _ _ _ h => h) (Or.inl ⟨by rfl, fun w hS => by go_simp⟩) hHeld ?_
          simp only [Act.put, List.getElem_toArray, List.getElem_cons_zero, List.getElem_cons_succ, List.setIfInBounds_toArray, List.set_cons_zero, List.set_cons_succ]
          refine wpAnyH_take (i := 8) (v := .int .i64 (k : Int)) rfl (by kernel_rfl) (by kernel_rfl) (by kernel_rfl) (fun _ _ _ h => h) (Or.inl ⟨by rfl, fun w hS => by go_simp⟩) hHeld ?_
          simp only [Act.put, List.getElem_toArray, List.getElem_cons_zero, List.getElem_cons_succ, List.setIfInBounds_toArray, List.set_cons_zero, List.set_cons_succ]
          refine wpAnyH_take (i := 9) (v := .pointer (some ⟨lb, off + k * 33, none⟩)) rfl (by kernel_rfl) (by kernel_rfl) (by kernel_rfl) (fun _ _ _ h => h) (Or.inl ⟨by rfl, fun w hS => by go_simp⟩) hHeld ?_
          simp only [Act.put, List.getElem_toArray, List.getElem_cons_zero, List.getElem_cons_succ, List.setIfInBounds_toArray, List.set_cons_zero, List.set_cons_succ]
          refine wpAnyH_take (i := 10) (v := .pointer (some ⟨lb, off + k * 33 + 32, none⟩)) rfl (by kernel_rfl) (by kernel_rfl) (by kernel_rfl) (fun _ _ _ h => h) (Or.inl ⟨by rfl, fun w hS => by go_simp⟩) hHeld ?_
          simp only [Act.put, List.getElem_toArray, List.getElem_cons_zero, List.getElem_cons_succ, List.setIfInBounds_toArray, List.set_cons_zero, List.set_cons_succ]
          refine wpAnyH_take (i := 11) (v := .slice ua ul uc) rfl (by kernel_rfl) (by kernel_rfl) (by kernel_rfl) (fun _ _ _ h => h) (Or.inl ⟨by rfl, fun w hS => by (have q1 := rng_val hS HKL.out; go_simp)⟩) hHeld ?_
          simp only [Act.put, List.getElem_toArray, List.getElem_cons_zero, List.getElem_cons_succ, List.setIfInBounds_toArray, List.set_cons_zero, List.set_cons_succ]
          refine wpAnyH_ready (rs := [12]) (by kernel_rfl) (by simp) ?_
          refine AllReadyH.cons rfl (fun KQ hK => ?_) AllReadyH.nil
          go_simp
          refine (HCO.out _ (below_drewN (Below.refl _ _) 1)).mono ?_
          rintro e x1 ⟨rfl, a1⟩
          have HQ1 : Hid (Below wr.heap.size wr x1) := grow_trans (below_drewN (Below.refl _ _) 1) a1
          clear a1
          refine hK.out _ _ (HRG.out _ (grow_trans HYR.out.low HQ1.out)) (fun hHeld => ?_)
          clear hK KQ
          refine wpAnyH_take (i := 13) (v := .tuple #[.int .i64 (c : Int), .int .i64 0]) rfl (by kernel_rfl) (by kernel_rfl) (by kernel_rfl) (fun _ _ _ h => h) (Or.inl ⟨by rfl, fun w hS => by go_simp⟩) hHeld ?_
          simp only [Act.put, List.getElem_toArray, List.getElem_cons_zero, List.getElem_cons_succ, List.setIfInBounds_toArray, List.set_cons_zero, List.set_cons_succ]
          refine wpAnyH_take (i := 14) (v := .int .i64 (c : Int)) rfl (by kernel_rfl) (by kernel_rfl) (by kernel_rfl) (fun _ _ _ h => h) (Or.inl ⟨by rfl, fun w hS => by go_simp⟩) hHeld ?_
          simp only [Act.put, List.getElem_toArray, List.getElem_cons_zero, List.getElem_cons_succ, List.setIfInBounds_toArray, List.set_cons_zero, List.set_cons_succ]
          refine wpAnyH_take (i := 15) (v := .int .i64 0) rfl (by kernel_rfl) (by kernel_rfl) (by kernel_rfl) (fun _ _ _ h => h) (Or.inl ⟨by rfl, fun w hS => by go_simp⟩) hHeld ?_
          simp only [Act.put, List.getElem_toArray, List.getElem_cons_zero, List.getElem_cons_succ, List.setIfInBounds_toArray, List.set_cons_zero, List.set_cons_succ]
          refine wpAnyH_take (i := 16) (v := .int .i64 (c : Int)) rfl (by kernel_rfl) (by kernel_rfl) (by kernel_rfl) (fun _ _ _ h => h) (Or.inl ⟨by rfl, fun w hS => by go_simp⟩) hHeld ?_
          simp only [Act.put, List.getElem_toArray, List.getElem_cons_zero, List.getElem_cons_succ, List.setIfInBounds_toArray, List.set_cons_zero, List.set_cons_succ]
          refine wpAnyH_take (i := 17) (v := .int .i64 0) rfl (by kernel_rfl) (by kernel_rfl) (by kernel_rfl) (fun _ _ _ h => h) (Or.inl ⟨by rfl, fun w hS => by go_simp⟩) hHeld ?_
          simp only [Act.put, List.getElem_toArray, List.getElem_cons_zero, List.getElem_cons_succ, List.setIfInBounds_toArray, List.set_cons_zero, List.set_cons_succ]
          refine wpAnyH_done (by kernel_rfl) ?_ _
          clear hHeld
          go_wp2_with (first
            | (go_at_call 18; refine (HOC.out _ HQ1.out).mono ?_; rintro e x2 ⟨rfl, b2⟩; have HY := hidden (HY0.out.grow (grow_trans HQ1.out b2)); clear b2))
          refine wp_region_held_drew (S := fun w' => w'.rangeAt lb (off + k * 33) (encP K (.slice ua ul uc))) (by kernel_rfl) (HRG.out _ (grow_trans HY.out.low (below_drewN (Below.refl _ _) 1))) (fun hHeld => ?_)
          refine wpAnyH_take (i := 0) (v := .pointer (some ⟨g, 0, none⟩)) rfl (by kernel_rfl) (by kernel_rfl) (by kernel_rfl) (fun _ _ _ h => h) (Or.inl ⟨by rfl, fun w hS => by go_simp⟩) hHeld ?_
          simp only [Act.put, List.getElem_toArray, List.getElem_cons_zero, List.setIfInBounds_toArray, List.set_cons_zero, List.set_cons_succ]
          refine wpAnyH_take (i := 1) (v := .int .i64 ry) rfl (by kernel_rfl) (by kernel_rfl) (by kernel_rfl) (fun _ _ _ h => h) (Or.inl ⟨by rfl, fun w hS => by go_simp⟩) hHeld ?_
          simp only [Act.put, List.getElem_toArray, List.getElem_cons_zero, List.getElem_cons_succ, List.setIfInBounds_toArray, List.set_cons_zero, List.set_cons_succ]
          refine wpAnyH_take (i := 2) (v := .slice (some ⟨lb, off, none⟩) n cap) rfl (by kernel_rfl) (by kernel_rfl) (by kernel_rfl) (fun _ _ _ h => h) (Or.inl ⟨by rfl, fun w hS => by go_simp⟩) hHeld ?_
          simp only [Act.put, List.getElem_toArray, List.getElem_cons_zero, List.getElem_cons_succ, List.setIfInBounds_toArray, List.set_cons_zero, List.set_cons_succ]
          refine wpAnyH_take (i := 3) (v := .int .i64 (k : Int)) rfl (by kernel_rfl) (by kernel_rfl) (by kernel_rfl) (fun _ _ _ h => h) (Or.inl ⟨by rfl, fun w hS => by go_simp⟩) hHeld ?_
          simp only [Act.put, List.getElem_toArray, List.getElem_cons_zero, List.getElem_cons_succ, List.setIfInBounds_toArray, List.set_cons_zero, List.set_cons_succ]
          refine wpAnyH_take (i := 4) (v := .pointer (some ⟨lb, off + k * 33, none⟩)) rfl (by kernel_rfl) (by kernel_rfl) (by kernel_rfl) (fun _ _ _ h => h) (Or.inl ⟨by rfl, fun w hS => by go_simp⟩) hHeld ?_
          simp only [Act.put, List.getElem_toArray, List.getElem_cons_zero, List.getElem_cons_succ, List.setIfInBounds_toArray, List.set_cons_zero, List.set_cons_succ]
          refine wpAnyH_take (i := 5) (v := .pointer (some ⟨lb, off + k * 33, none⟩)) rfl (by kernel_rfl) (by kernel_rfl) (by kernel_rfl) (fun _ _ _ h => h) (Or.inl ⟨by rfl, fun w hS => by go_simp⟩) hHeld ?_
          simp only [Act.put, List.getElem_toArray, List.getElem_cons_zero, List.getElem_cons_succ, List.setIfInBounds_toArray, List.set_cons_zero, List.set_cons_succ]
          refine wpAnyH_take (i := 6) (v := .agg (B K)) rfl (by kernel_rfl) (by kernel_rfl) (by kernel_rfl) (fun _ _ _ h => h) (yieldsIf_load_mid rfl 31 (.tmp 75) rfl lb (off + k * 33) rfl (B K).toList _ (fun w hS => rng_key hS) Tryz.underlying31 rfl HPL.out) hHeld ?_
          simp only [Act.put, List.getElem_toArray, List.getElem_cons_zero, List.getElem_cons_succ, List.setIfInBounds_toArray, List.set_cons_zero, List.set_cons_succ]
          refine wpAnyH_take (i := 7) (v := .slice (some ⟨lb, off, none⟩) n cap) rfl (by kernel_rfl) (by kernel_rfl) (by kernel_rfl) (fun _ _ _ h => h) (Or.inl ⟨by rfl, fun w hS => by go_simp⟩) hHeld ?_
          simp only [Act.put, List.getElem_toArray, List.getElem_cons_zero, List.getElem_cons_succ, List.setIfInBounds_toArray, List.set_cons_zero, List.set_cons_succ]
          refine wpAnyH_take (i := 8) (v := .int .i64 (k : Int)) rfl (by kernel_rfl) (by kernel_rfl) (by kernel_rfl) (fun _ _ _ h => h) (Or.inl ⟨by rfl, fun w hS => by go_simp⟩) hHeld ?_
          simp only [Act.put, List.getElem_toArray, List.getElem_cons_zero, List.getElem_cons_succ, List.setIfInBounds_toArray, List.set_cons_zero, List.set_cons_succ]
          refine wpAnyH_take (i := 9) (v := .pointer (some ⟨lb, off + k * 33, none⟩)) rfl (by kernel_rfl) (by kernel_rfl) (by kernel_rfl) (fun _ _ _ h => h) (Or.inl ⟨by rfl, fun w hS => by go_simp⟩) hHeld ?_
          simp only [Act.put, List.getElem_toArray, List.getElem_cons_zero, List.getElem_cons_succ, List.setIfInBounds_toArray, List.set_cons_zero, List.set_cons_succ]
          refine wpAnyH_take (i := 10) (v := .pointer (some ⟨lb, off + k * 33 + 32, none⟩)) rfl (by kernel_rfl) (by kernel_rfl) (by kernel_rfl) (fun _ _ _ h => h) (Or.inl ⟨by rfl, fun w hS => by go_simp⟩) hHeld ?_
          simp only [Act.put, List.getElem_toArray, List.getElem_cons_zero, List.getElem_cons_succ, List.setIfInBounds_toArray, List.set_cons_zero, List.set_cons_succ]
          refine wpAnyH_take (i := 11) (v := .slice ua ul uc) rfl (by kernel_rfl) (by kernel_rfl) (by kernel_rfl) (fun _ _ _ h => h) (Or.inl ⟨by rfl, fun w hS => by (have q1 := rng_val hS HKL.out; go_simp)⟩) hHeld ?_
          simp only [Act.put, List.getElem_toArray, List.getElem_cons_zero, List.getElem_cons_succ, List.setIfInBounds_toArray, List.set_cons_zero, List.set_cons_succ]
          refine wpAnyH_ready (rs := [12]) (by kernel_rfl) (by simp) ?_
          refine AllReadyH.cons rfl (fun KQ hK => ?_) AllReadyH.nil
          go_simp
          refine (HPT.out _ (HY.out.grow (below_drewN (Below.refl _ _) 1))).mono ?_
          rintro e z1 ⟨ty, tn, rfl, hty, htp, hA⟩
          have HTY := hidden hty
          have HA := hidden hA
          have tyn : ¬ ty = 0 := (by rw [hty]; omega)
          have tyb : (ty == 0) = false := (by simpa using tyn)
          clear hty hA htp
          refine hK.out _ _ (HRG.out _ HA.out.low) (fun hHeld => ?_)
          clear hK KQ
          refine wpAnyH_take (i := 13) (v := .tuple #[.int .i64 ty, .int .i64 0]) rfl (by kernel_rfl) (by kernel_rfl) (by kernel_rfl) (fun _ _ _ h => h) (Or.inl ⟨by rfl, fun w hS => by go_simp⟩) hHeld ?_
          simp only [Act.put, List.getElem_toArray, List.getElem_cons_zero, List.getElem_cons_succ, List.setIfInBounds_toArray, List.set_cons_zero, List.set_cons_succ]
          refine wpAnyH_take (i := 14) (v := .int .i64 ty) rfl (by kernel_rfl) (by kernel_rfl) (by kernel_rfl) (fun _ _ _ h => h) (Or.inl ⟨by rfl, fun w hS => by go_simp⟩) hHeld ?_
          simp only [Act.put, List.getElem_toArray, List.getElem_cons_zero, List.getElem_cons_succ, List.setIfInBounds_toArray, List.set_cons_zero, List.set_cons_succ]
          refine wpAnyH_take (i := 15) (v := .int .i64 0) rfl (by kernel_rfl) (by kernel_rfl) (by kernel_rfl) (fun _ _ _ h => h) (Or.inl ⟨by rfl, fun w hS => by go_simp⟩) hHeld ?_
          simp only [Act.put, List.getElem_toArray, List.getElem_cons_zero, List.getElem_cons_succ, List.setIfInBounds_toArray, List.set_cons_zero, List.set_cons_succ]
          refine wpAnyH_take (i := 16) (v := .int .i64 ty) rfl (by kernel_rfl) (by kernel_rfl) (by kernel_rfl) (fun _ _ _ h => h) (Or.inl ⟨by rfl, fun w hS => by go_simp⟩) hHeld ?_
          simp only [Act.put, List.getElem_toArray, List.getElem_cons_zero, List.getElem_cons_succ, List.setIfInBounds_toArray, List.set_cons_zero, List.set_cons_succ]
          refine wpAnyH_take (i := 17) (v := .int .i64 0) rfl (by kernel_rfl) (by kernel_rfl) (by kernel_rfl) (fun _ _ _ h => h) (Or.inl ⟨by rfl, fun w hS => by go_simp⟩) hHeld ?_
          simp only [Act.put, List.getElem_toArray, List.getElem_cons_zero, List.getElem_cons_succ, List.setIfInBounds_toArray, List.set_cons_zero, List.set_cons_succ]
          refine wpAnyH_done (by kernel_rfl) ?_ _
          clear hHeld
          go_wp2_with (first
            | (go_at_call 18; obtain ⟨o2, ho2, hc2⟩ := HA.out.occ; have hno : ¬ ((o : Int) + (c : Int)) < (o2 : Int) := (by have := ho2; omega); refine hc2.mono ?_; rintro e x5 ⟨rfl, b5⟩; replace HA := hidden (HA.out.grow b5); clear b5 hc2 ho2)
            | (go_at_call 22; obtain ⟨h2, hh2, hc2⟩ := HA.out.held; rw [← HTY.out] at hc2; have hnh : ¬ (h2 : Int) < 1 := (by omega); refine hc2.mono ?_; rintro e x6 ⟨rfl, b6⟩; replace HA := hidden (HA.out.grow b6); clear b6 hc2 hh2)
            | (go_at_call 24; refine (HPR.out _ (grow_trans HQW.out HA.out.low)).mono ?_; rintro e x7 ⟨pa, pc, rfl, hq, b7⟩; have HQ7 := hidden hq; replace HA := hidden (HA.out.grow b7); clear b7 hq)
            | (go_at_call 23; refine (HRO.out _ _ _ ⟨_, HQ7.out⟩ (grow_trans HQW.out HA.out.low)).mono ?_; rintro e x8 ⟨rfl, b8⟩; replace HA := hidden (HA.out.grow b8); clear b8)
            | ((with_reducible refine at_ald 17 ?_); refine wpList_al _ rfl _ rfl _ zero_hash ?_; intro x8b bh hgh hlh BH q3; have HBZ := hidden BH; have HGH := hidden hgh; have HQ8 := hidden q3; clear hgh hlh BH q3)
            | ((with_reducible refine at_st 17 ?_); refine wpList_sto _ rfl _ _ _ rfl bh _ (B H) rfl rfl HBZ.out HHS.out.1 HHS.out.2 (B_one _) ?_; intro x9 BH r4; have HBH := hidden BH; replace HA := hidden (HA.out.grow (below_row HQ8.out r4 HGH.out)); clear BH r4))
          have hwi : IntKind.i64.wrap ((k : Int) + 1) = (k : Int) + 1 := (Go.IntWalk.i64_left _).trans hwk
          have kd0 : (0 : Int) ≤ (k : Int) + 1 := kc0
          have kd1 : ¬ (cap : Int) < (k : Int) + 1 := Int.not_lt.2 kc1
          have kd2 : (k : Int) + 1 ≤ (cap : Int) := kc1
          refine wp_region_held_drew (S := fun w' => Below x9.heap.size x9 w') (by kernel_rfl) ((below_drewN (Below.refl _ _) 1)) (fun hHeld => ?_)
          refine wpAnyH_take (i := 0) (v := .int .i64 0) rfl (by kernel_rfl) (by kernel_rfl) (by kernel_rfl) (fun _ _ _ h => h) (Or.inl ⟨by rfl, fun w hS => by go_simp⟩) hHeld ?_
          simp only [Act.put, List.getElem_toArray, List.getElem_cons_zero, List.setIfInBounds_toArray, List.set_cons_zero, List.set_cons_succ]
          refine wpAnyH_take (i := 1) (v := .bool false) rfl (by kernel_rfl) (by kernel_rfl) (by kernel_rfl) (fun _ _ _ h => h) (Or.inl ⟨by rfl, fun w hS => by go_simp⟩) hHeld ?_
          simp only [Act.put, List.getElem_toArray, List.getElem_cons_zero, List.getElem_cons_succ, List.setIfInBounds_toArray, List.set_cons_zero, List.set_cons_succ]
          refine wpAnyH_take (i := 2) (v := .bool false) rfl (by kernel_rfl) (by kernel_rfl) (by kernel_rfl) (fun _ _ _ h => h) (Or.inl ⟨by rfl, fun w hS => by go_simp⟩) hHeld ?_
          simp only [Act.put, List.getElem_toArray, List.getElem_cons_zero, List.getElem_cons_succ, List.setIfInBounds_toArray, List.set_cons_zero, List.set_cons_succ]
          refine wpAnyH_take (i := 3) (v := .pointer (some ⟨g, 0, none⟩)) rfl (by kernel_rfl) (by kernel_rfl) (by kernel_rfl) (fun _ _ _ h => h) (Or.inl ⟨by rfl, fun w hS => by go_simp⟩) hHeld ?_
          simp only [Act.put, List.getElem_toArray, List.getElem_cons_zero, List.getElem_cons_succ, List.setIfInBounds_toArray, List.set_cons_zero, List.set_cons_succ]
          refine wpAnyH_take (i := 4) (v := .int .i64 ty) rfl (by kernel_rfl) (by kernel_rfl) (by kernel_rfl) (fun _ _ _ h => h) (Or.inl ⟨by rfl, fun w hS => by go_simp⟩) hHeld ?_
          simp only [Act.put, List.getElem_toArray, List.getElem_cons_zero, List.getElem_cons_succ, List.setIfInBounds_toArray, List.set_cons_zero, List.set_cons_succ]
          refine wpAnyH_take (i := 6) (v := .agg (B H)) rfl (by kernel_rfl) (by kernel_rfl) (by kernel_rfl) (fun _ _ _ h => h) (yieldsIf_load_mid rfl 55 (.tmp 17) rfl bh 0 rfl (B H).toList _ (fun w hS => (HBH.out.grow hS).range) Tryz.underlying55 rfl HHL.out) hHeld ?_
          simp only [Act.put, List.getElem_toArray, List.getElem_cons_zero, List.getElem_cons_succ, List.setIfInBounds_toArray, List.set_cons_zero, List.set_cons_succ]
          refine wpAnyH_ready (rs := [5]) (by kernel_rfl) (by simp) ?_
          refine AllReadyH.cons rfl (fun KQ hK => ?_) AllReadyH.nil
          go_simp
          refine (HDG.out _ _ _ HTY.out (HA.out.grow hHeld)).mono ?_
          rintro e y1 ⟨rfl, a1⟩
          refine hK.out _ _ (grow_trans hHeld a1) (fun hHeld => ?_)
          clear hK KQ
          refine wpAnyH_take (i := 7) (v := .bool false) rfl (by kernel_rfl) (by kernel_rfl) (by kernel_rfl) (fun _ _ _ h => h) (Or.inl ⟨by rfl, fun w hS => by go_simp⟩) hHeld ?_
          simp only [Act.put, List.getElem_toArray, List.getElem_cons_zero, List.getElem_cons_succ, List.setIfInBounds_toArray, List.set_cons_zero, List.set_cons_succ]
          refine wpAnyH_take (i := 8) (v := .bool false) rfl (by kernel_rfl) (by kernel_rfl) (by kernel_rfl) (fun _ _ _ h => h) (Or.inl ⟨by rfl, fun w hS => by go_simp⟩) hHeld ?_
          simp only [Act.put, List.getElem_toArray, List.getElem_cons_zero, List.getElem_cons_succ, List.setIfInBounds_toArray, List.set_cons_zero, List.set_cons_succ]
          refine wpAnyH_take (i := 9) (v := .bool false) rfl (by kernel_rfl) (by kernel_rfl) (by kernel_rfl) (fun _ _ _ h => h) (Or.inl ⟨by rfl, fun w hS => by go_simp⟩) hHeld ?_
          simp only [Act.put, List.getElem_toArray, List.getElem_cons_zero, List.getElem_cons_succ, List.setIfInBounds_toArray, List.set_cons_zero, List.set_cons_succ]
          refine wpAnyH_take (i := 10) (v := .pointer (some ⟨g, 0, none⟩)) rfl (by kernel_rfl) (by kernel_rfl) (by kernel_rfl) (fun _ _ _ h => h) (Or.inl ⟨by rfl, fun w hS => by go_simp⟩) hHeld ?_
          simp only [Act.put, List.getElem_toArray, List.getElem_cons_zero, List.getElem_cons_succ, List.setIfInBounds_toArray, List.set_cons_zero, List.set_cons_succ]
          refine wpAnyH_take (i := 11) (v := .int .i64 ty) rfl (by kernel_rfl) (by kernel_rfl) (by kernel_rfl) (fun _ _ _ h => h) (Or.inl ⟨by rfl, fun w hS => by go_simp⟩) hHeld ?_
          simp only [Act.put, List.getElem_toArray, List.getElem_cons_zero, List.getElem_cons_succ, List.setIfInBounds_toArray, List.set_cons_zero, List.set_cons_succ]
          refine wpAnyH_take (i := 13) (v := .slice (some ⟨lb, off, none⟩) n cap) rfl (by kernel_rfl) (by kernel_rfl) (by kernel_rfl) (fun _ _ _ h => h) (Or.inl ⟨by rfl, fun w hS => by go_simp⟩) hHeld ?_
          simp only [Act.put, List.getElem_toArray, List.getElem_cons_zero, List.getElem_cons_succ, List.setIfInBounds_toArray, List.set_cons_zero, List.set_cons_succ]
          refine wpAnyH_take (i := 14) (v := .int .i64 (k : Int)) rfl (by kernel_rfl) (by kernel_rfl) (by kernel_rfl) (fun _ _ _ h => h) (Or.inl ⟨by rfl, fun w hS => by go_simp⟩) hHeld ?_
          simp only [Act.put, List.getElem_toArray, List.getElem_cons_zero, List.getElem_cons_succ, List.setIfInBounds_toArray, List.set_cons_zero, List.set_cons_succ]
          refine wpAnyH_take (i := 15) (v := .int .i64 ((k + 1 : Nat) : Int)) rfl (by kernel_rfl) (by kernel_rfl) (by kernel_rfl) (fun _ _ _ h => h) (Or.inl ⟨by rfl, fun w hS => by go_simp⟩) hHeld ?_
          simp only [Act.put, List.getElem_toArray, List.getElem_cons_zero, List.getElem_cons_succ, List.setIfInBounds_toArray, List.set_cons_zero, List.set_cons_succ]
          refine wpAnyH_take (i := 16) (v := .slice (some ⟨lb, off, none⟩) (k + 1) cap) rfl (by kernel_rfl) (by kernel_rfl) (by kernel_rfl) (fun _ _ _ h => h) (Or.inl ⟨by rfl, fun w hS => by go_simp⟩) hHeld ?_
          simp only [Act.put, List.getElem_toArray, List.getElem_cons_zero, List.getElem_cons_succ, List.setIfInBounds_toArray, List.set_cons_zero, List.set_cons_succ]
          refine wpAnyH_ready (rs := [12]) (by kernel_rfl) (by simp) ?_
          refine AllReadyH.cons rfl (fun KQ hK => ?_) AllReadyH.nil
          go_simp
          refine (HSZ.out _ _ _ HTY.out (HA.out.grow hHeld)).mono ?_
          rintro e y2 ⟨rfl, a1⟩
          refine hK.out _ _ (grow_trans hHeld a1) (fun hHeld => ?_)
          clear hK KQ
          refine wpAnyH_ready (rs := [17]) (by kernel_rfl) (by simp) ?_
          refine AllReadyH.cons rfl (fun KQ hK => ?_) AllReadyH.nil
          go_simp
          refine (HPR.out _ (grow_trans HQW.out (HA.out.grow hHeld).low)).mono ?_
          rintro e y3 ⟨pa, pc, rfl, _, a1⟩
          refine hK.out _ _ (grow_trans hHeld a1) (fun hHeld => ?_)
          clear hK KQ
          refine wpAnyH_take (i := 18) (v := .int .i64 (mm : Int)) rfl (by kernel_rfl) (by kernel_rfl) (by kernel_rfl) (fun _ _ _ h => h) (Or.inl ⟨by rfl, fun w hS => by go_simp⟩) hHeld ?_
          simp only [Act.put, List.getElem_toArray, List.getElem_cons_zero, List.getElem_cons_succ, List.setIfInBounds_toArray, List.set_cons_zero, List.set_cons_succ]
          refine wpAnyH_take (i := 19) (v := .bool false) rfl (by kernel_rfl) (by kernel_rfl) (by kernel_rfl) (fun _ _ _ h => h) (Or.inl ⟨by rfl, fun w hS => by go_simp⟩) hHeld ?_
          simp only [Act.put, List.getElem_toArray, List.getElem_cons_zero, List.getElem_cons_succ, List.setIfInBounds_toArray, List.set_cons_zero, List.set_cons_succ]
          refine wpAnyH_take (i := 20) (v := .bool false) rfl (by kernel_rfl) (by kernel_rfl) (by kernel_rfl) (fun _ _ _ h => h) (Or.inl ⟨by rfl, fun w hS => by go_simp⟩) hHeld ?_
          simp only [Act.put, List.getElem_toArray, List.getElem_cons_zero, List.getElem_cons_succ, List.setIfInBounds_toArray, List.set_cons_zero, List.set_cons_succ]
          refine wpAnyH_done (by kernel_rfl) ?_ _
          have HAE := hidden (HA.out.grow hHeld)
          clear hHeld
          go_wp2_with fail
          exact ⟨⟨k + 1, tn, kept, _, by omega, by rw [HTY.out], rfl, by go_num, by have hz := HNX.out _ _ HAE.out; rw [← HPRQ.out] at hz; exact hz⟩, by simp [intOf]; exact mea_step k1⟩
    · obtain rfl : k = n := by omega
      have nlt : ¬ (k : Int) < (k : Int) := by omega
      obtain ⟨cs, fr, T, HYc, M⟩ := HST.out
      have HYR := hidden HYc
      by_cases hk0 : kept = 0
      · subst hk0
        have HE := hidden (grow_trans HQW.out HYc.low)
        clear HYc M HST
        go_wp2_with fail
        refine wp_region_held_drew (S := fun w' => Below wr.heap.size wr w') (by kernel_rfl) ((below_drewN (Below.refl _ _) 1)) (fun hHeld => ?_)
        refine wpAnyH_take (i := 0) (v := .bool true) rfl (by kernel_rfl) (by kernel_rfl) (by kernel_rfl) (fun _ _ _ h => h) (Or.inl ⟨by rfl, fun w hS => by go_simp⟩) hHeld ?_
        simp only [Act.put, List.getElem_toArray, List.getElem_cons_zero, List.setIfInBounds_toArray, List.set_cons_zero, List.set_cons_succ]
        refine wpAnyH_take (i := 1) (v := .bool true) rfl (by kernel_rfl) (by kernel_rfl) (by kernel_rfl) (fun _ _ _ h => h) (Or.inl ⟨by rfl, fun w hS => by go_simp⟩) hHeld ?_
        simp only [Act.put, List.getElem_toArray, List.getElem_cons_zero, List.getElem_cons_succ, List.setIfInBounds_toArray, List.set_cons_zero, List.set_cons_succ]
        refine wpAnyH_take (i := 2) (v := .int .i64 0) rfl (by kernel_rfl) (by kernel_rfl) (by kernel_rfl) (fun _ _ _ h => h) (Or.inl ⟨by rfl, fun w hS => by go_simp⟩) hHeld ?_
        simp only [Act.put, List.getElem_toArray, List.getElem_cons_zero, List.getElem_cons_succ, List.setIfInBounds_toArray, List.set_cons_zero, List.set_cons_succ]
        refine wpAnyH_take (i := 3) (v := .bool true) rfl (by kernel_rfl) (by kernel_rfl) (by kernel_rfl) (fun _ _ _ h => h) (Or.inl ⟨by rfl, fun w hS => by go_simp⟩) hHeld ?_
        simp only [Act.put, List.getElem_toArray, List.getElem_cons_zero, List.getElem_cons_succ, List.setIfInBounds_toArray, List.set_cons_zero, List.set_cons_succ]
        refine wpAnyH_take (i := 4) (v := .bool true) rfl (by kernel_rfl) (by kernel_rfl) (by kernel_rfl) (fun _ _ _ h => h) (Or.inl ⟨by rfl, fun w hS => by go_simp⟩) hHeld ?_
        simp only [Act.put, List.getElem_toArray, List.getElem_cons_zero, List.getElem_cons_succ, List.setIfInBounds_toArray, List.set_cons_zero, List.set_cons_succ]
        refine wpAnyH_take (i := 5) (v := undef) rfl (by kernel_rfl) (by kernel_rfl) (by kernel_rfl) (fun _ _ _ h => h) (Or.inr ⟨by rfl, rfl⟩) hHeld ?_
        simp only [Act.put, List.getElem_toArray, List.getElem_cons_zero, List.getElem_cons_succ, List.setIfInBounds_toArray, List.set_cons_zero, List.set_cons_succ]
        refine wpAnyH_take (i := 6) (v := undef) rfl (by kernel_rfl) (by kernel_rfl) (by kernel_rfl) (fun _ _ _ h => h) (Or.inr ⟨by rfl, rfl⟩) hHeld ?_
        simp only [Act.put, List.getElem_toArray, List.getElem_cons_zero, List.getElem_cons_succ, List.setIfInBounds_toArray, List.set_cons_zero, List.set_cons_succ]
        refine wpAnyH_take (i := 7) (v := undef) rfl (by kernel_rfl) (by kernel_rfl) (by kernel_rfl) (fun _ _ _ h => h) (Or.inr ⟨by rfl, rfl⟩) hHeld ?_
        simp only [Act.put, List.getElem_toArray, List.getElem_cons_zero, List.getElem_cons_succ, List.setIfInBounds_toArray, List.set_cons_zero, List.set_cons_succ]
        refine wpAnyH_take (i := 8) (v := undef) rfl (by kernel_rfl) (by kernel_rfl) (by kernel_rfl) (fun _ _ _ h => h) (Or.inr ⟨by rfl, rfl⟩) hHeld ?_
        simp only [Act.put, List.getElem_toArray, List.getElem_cons_zero, List.getElem_cons_succ, List.setIfInBounds_toArray, List.set_cons_zero, List.set_cons_succ]
        refine wpAnyH_take (i := 9) (v := undef) rfl (by kernel_rfl) (by kernel_rfl) (by kernel_rfl) (fun _ _ _ h => h) (Or.inr ⟨by rfl, rfl⟩) hHeld ?_
        simp only [Act.put, List.getElem_toArray, List.getElem_cons_zero, List.getElem_cons_succ, List.setIfInBounds_toArray, List.set_cons_zero, List.set_cons_succ]
        refine wpAnyH_take (i := 10) (v := undef) rfl (by kernel_rfl) (by kernel_rfl) (by kernel_rfl) (fun _ _ _ h => h) (Or.inr ⟨by rfl, rfl⟩) hHeld ?_
        simp only [Act.put, List.getElem_toArray, List.getElem_cons_zero, List.getElem_cons_succ, List.setIfInBounds_toArray, List.set_cons_zero, List.set_cons_succ]
        refine wpAnyH_take (i := 11) (v := undef) rfl (by kernel_rfl) (by kernel_rfl) (by kernel_rfl) (fun _ _ _ h => h) (Or.inr ⟨by rfl, rfl⟩) hHeld ?_
        simp only [Act.put, List.getElem_toArray, List.getElem_cons_zero, List.getElem_cons_succ, List.setIfInBounds_toArray, List.set_cons_zero, List.set_cons_succ]
        refine wpAnyH_take (i := 12) (v := undef) rfl (by kernel_rfl) (by kernel_rfl) (by kernel_rfl) (fun _ _ _ h => h) (Or.inr ⟨by rfl, rfl⟩) hHeld ?_
        simp only [Act.put, List.getElem_toArray, List.getElem_cons_zero, List.getElem_cons_succ, List.setIfInBounds_toArray, List.set_cons_zero, List.set_cons_succ]
        refine wpAnyH_take (i := 13) (v := undef) rfl (by kernel_rfl) (by kernel_rfl) (by kernel_rfl) (fun _ _ _ h => h) (Or.inr ⟨by rfl, rfl⟩) hHeld ?_
        simp only [Act.put, List.getElem_toArray, List.getElem_cons_zero, List.getElem_cons_succ, List.setIfInBounds_toArray, List.set_cons_zero, List.set_cons_succ]
        refine wpAnyH_take (i := 14) (v := undef) rfl (by kernel_rfl) (by kernel_rfl) (by kernel_rfl) (fun _ _ _ h => h) (Or.inr ⟨by rfl, rfl⟩) hHeld ?_
        simp only [Act.put, List.getElem_toArray, List.getElem_cons_zero, List.getElem_cons_succ, List.setIfInBounds_toArray, List.set_cons_zero, List.set_cons_succ]
        refine wpAnyH_take (i := 15) (v := undef) rfl (by kernel_rfl) (by kernel_rfl) (by kernel_rfl) (fun _ _ _ h => h) (Or.inr ⟨by rfl, rfl⟩) hHeld ?_
        simp only [Act.put, List.getElem_toArray, List.getElem_cons_zero, List.getElem_cons_succ, List.setIfInBounds_toArray, List.set_cons_zero, List.set_cons_succ]
        refine wpAnyH_take (i := 16) (v := .bool true) rfl (by kernel_rfl) (by kernel_rfl) (by kernel_rfl) (fun _ _ _ h => h) (Or.inl ⟨by rfl, fun w hS => by go_simp⟩) hHeld ?_
        simp only [Act.put, List.getElem_toArray, List.getElem_cons_zero, List.getElem_cons_succ, List.setIfInBounds_toArray, List.set_cons_zero, List.set_cons_succ]
        refine wpAnyH_take (i := 17) (v := .bool true) rfl (by kernel_rfl) (by kernel_rfl) (by kernel_rfl) (fun _ _ _ h => h) (Or.inl ⟨by rfl, fun w hS => by go_simp⟩) hHeld ?_
        simp only [Act.put, List.getElem_toArray, List.getElem_cons_zero, List.getElem_cons_succ, List.setIfInBounds_toArray, List.set_cons_zero, List.set_cons_succ]
        refine wpAnyH_take (i := 18) (v := .bool true) rfl (by kernel_rfl) (by kernel_rfl) (by kernel_rfl) (fun _ _ _ h => h) (Or.inl ⟨by rfl, fun w hS => by go_simp⟩) hHeld ?_
        simp only [Act.put, List.getElem_toArray, List.getElem_cons_zero, List.getElem_cons_succ, List.setIfInBounds_toArray, List.set_cons_zero, List.set_cons_succ]
        refine wpAnyH_done (by kernel_rfl) ?_ _
        have HH := hidden hHeld
        clear hHeld
        go_wp2_with fail
        go_ret
        exact ⟨rfl, grow_trans HE.out HH.out⟩
      · have hh := M.held.resolve_left hk0
        obtain ⟨_, oh, hoh, hhe⟩ := HYc.kept hh (HL.out _ (grow_trans HQW.out HYc.low))
        have HDG : Hid (∀ w', Below wr.heap.size wr w' → Calls Tryz.prog 20 #[.pointer (some ⟨g, 0, none⟩), .int .i64 (kept : Int)] w' fun e w'' => e = .returned (.agg (B D)) ∧ Below w'.heap.size w' w'') := fun w' hb => ((HYc.grow hb).kept hh (HL.out _ (grow_trans HQW.out (HYc.grow hb).low))).1
        have HHE := hidden hhe
        have HE := hidden (grow_trans HQW.out HYc.low)
        have hE := hash_eq D D HDL.out HDL.out
        simp only [decide_true] at hE
        have HHL : Hid ((Tryz.prog.info? 55).map (·.size) = some (B D).toList.length) := by show _ = _; rw [B_toList, List.length_map, HDL.out]; exact size_hash
        have hkz : ((kept : Int) == 0) = false := by simp; omega
        have hog : (1 : Int) ≤ (oh : Int) := by omega
        generalize (kept : Int) = ky at HDG HHE hkz ⊢
        clear hhe hh M HYc HST hoh
        go_wp2_with fail
        refine wp_region_held_drew (S := fun w' => Below wr.heap.size wr w') (by kernel_rfl) ((below_drewN (Below.refl _ _) 1)) (fun hHeld => ?_)
        refine wpAnyH_take (i := 0) (v := .bool true) rfl (by kernel_rfl) (by kernel_rfl) (by kernel_rfl) (fun _ _ _ h => h) (Or.inl ⟨by rfl, fun w hS => by go_simp⟩) hHeld ?_
        simp only [Act.put, List.getElem_toArray, List.getElem_cons_zero, List.setIfInBounds_toArray, List.set_cons_zero, List.set_cons_succ]
        refine wpAnyH_take (i := 1) (v := .bool true) rfl (by kernel_rfl) (by kernel_rfl) (by kernel_rfl) (fun _ _ _ h => h) (Or.inl ⟨by rfl, fun w hS => by go_simp⟩) hHeld ?_
        simp only [Act.put, List.getElem_toArray, List.getElem_cons_zero, List.getElem_cons_succ, List.setIfInBounds_toArray, List.set_cons_zero, List.set_cons_succ]
        refine wpAnyH_take (i := 2) (v := .int .i64 ky) rfl (by kernel_rfl) (by kernel_rfl) (by kernel_rfl) (fun _ _ _ h => h) (Or.inl ⟨by rfl, fun w hS => by go_simp⟩) hHeld ?_
        simp only [Act.put, List.getElem_toArray, List.getElem_cons_zero, List.getElem_cons_succ, List.setIfInBounds_toArray, List.set_cons_zero, List.set_cons_succ]
        refine wpAnyH_take (i := 3) (v := .bool false) rfl (by kernel_rfl) (by kernel_rfl) (by kernel_rfl) (fun _ _ _ h => h) (Or.inl ⟨by rfl, fun w hS => by go_simp⟩) hHeld ?_
        simp only [Act.put, List.getElem_toArray, List.getElem_cons_zero, List.getElem_cons_succ, List.setIfInBounds_toArray, List.set_cons_zero, List.set_cons_succ]
        refine wpAnyH_take (i := 4) (v := .bool false) rfl (by kernel_rfl) (by kernel_rfl) (by kernel_rfl) (fun _ _ _ h => h) (Or.inl ⟨by rfl, fun w hS => by go_simp⟩) hHeld ?_
        simp only [Act.put, List.getElem_toArray, List.getElem_cons_zero, List.getElem_cons_succ, List.setIfInBounds_toArray, List.set_cons_zero, List.set_cons_succ]
        refine wpAnyH_take (i := 5) (v := .pointer (some ⟨g, 0, none⟩)) rfl (by kernel_rfl) (by kernel_rfl) (by kernel_rfl) (fun _ _ _ h => h) (Or.inl ⟨by rfl, fun w hS => by go_simp⟩) hHeld ?_
        simp only [Act.put, List.getElem_toArray, List.getElem_cons_zero, List.getElem_cons_succ, List.setIfInBounds_toArray, List.set_cons_zero, List.set_cons_succ]
        refine wpAnyH_take (i := 6) (v := .int .i64 ky) rfl (by kernel_rfl) (by kernel_rfl) (by kernel_rfl) (fun _ _ _ h => h) (Or.inl ⟨by rfl, fun w hS => by go_simp⟩) hHeld ?_
        simp only [Act.put, List.getElem_toArray, List.getElem_cons_zero, List.getElem_cons_succ, List.setIfInBounds_toArray, List.set_cons_zero, List.set_cons_succ]
        refine wpAnyH_take (i := 8) (v := .agg (B D)) rfl (by kernel_rfl) (by kernel_rfl) (by kernel_rfl) (fun _ _ _ h => h) (yieldsIf_load_mid rfl 55 (.tmp 10) rfl bt 0 rfl (B D).toList _ (fun w hS => (HYR.out.blk.grow hS).range) Tryz.underlying55 rfl HHL.out) hHeld ?_
        simp only [Act.put, List.getElem_toArray, List.getElem_cons_zero, List.getElem_cons_succ, List.setIfInBounds_toArray, List.set_cons_zero, List.set_cons_succ]
        refine wpAnyH_ready (rs := [7]) (by kernel_rfl) (by simp) ?_
        refine AllReadyH.cons rfl (fun KQ hK => ?_) AllReadyH.nil
        go_simp
        refine (HDG.out _ hHeld).mono ?_
        rintro e y1 ⟨rfl, a1⟩
        refine hK.out _ _ (grow_trans hHeld a1) (fun hHeld => ?_)
        clear hK KQ
        refine wpAnyH_take (i := 9) (v := .bool true) rfl (by kernel_rfl) (by kernel_rfl) (by kernel_rfl) (fun _ _ _ h => h) (Or.inl ⟨by rfl, fun w hS => by go_simp⟩) hHeld ?_
        simp only [Act.put, List.getElem_toArray, List.getElem_cons_zero, List.getElem_cons_succ, List.setIfInBounds_toArray, List.set_cons_zero, List.set_cons_succ]
        refine wpAnyH_take (i := 10) (v := .bool true) rfl (by kernel_rfl) (by kernel_rfl) (by kernel_rfl) (fun _ _ _ h => h) (Or.inl ⟨by rfl, fun w hS => by go_simp⟩) hHeld ?_
        simp only [Act.put, List.getElem_toArray, List.getElem_cons_zero, List.getElem_cons_succ, List.setIfInBounds_toArray, List.set_cons_zero, List.set_cons_succ]
        refine wpAnyH_take (i := 11) (v := .pointer (some ⟨g, 0, none⟩)) rfl (by kernel_rfl) (by kernel_rfl) (by kernel_rfl) (fun _ _ _ h => h) (Or.inl ⟨by rfl, fun w hS => by go_simp⟩) hHeld ?_
        simp only [Act.put, List.getElem_toArray, List.getElem_cons_zero, List.getElem_cons_succ, List.setIfInBounds_toArray, List.set_cons_zero, List.set_cons_succ]
        refine wpAnyH_take (i := 12) (v := .int .i64 ky) rfl (by kernel_rfl) (by kernel_rfl) (by kernel_rfl) (fun _ _ _ h => h) (Or.inl ⟨by rfl, fun w hS => by go_simp⟩) hHeld ?_
        simp only [Act.put, List.getElem_toArray, List.getElem_cons_zero, List.getElem_cons_succ, List.setIfInBounds_toArray, List.set_cons_zero, List.set_cons_succ]
        refine wpAnyH_ready (rs := [13]) (by kernel_rfl) (by simp) ?_
        refine AllReadyH.cons rfl (fun KQ hK => ?_) AllReadyH.nil
        go_simp
        refine (HHE.out _ hHeld).mono ?_
        rintro e y2 ⟨rfl, a1⟩
        refine hK.out _ _ (grow_trans hHeld a1) (fun hHeld => ?_)
        clear hK KQ
        refine wpAnyH_take (i := 14) (v := .bool true) rfl (by kernel_rfl) (by kernel_rfl) (by kernel_rfl) (fun _ _ _ h => h) (Or.inl ⟨by rfl, fun w hS => by go_simp⟩) hHeld ?_
        simp only [Act.put, List.getElem_toArray, List.getElem_cons_zero, List.getElem_cons_succ, List.setIfInBounds_toArray, List.set_cons_zero, List.set_cons_succ]
        refine wpAnyH_take (i := 15) (v := .bool true) rfl (by kernel_rfl) (by kernel_rfl) (by kernel_rfl) (fun _ _ _ h => h) (Or.inl ⟨by rfl, fun w hS => by go_simp⟩) hHeld ?_
        simp only [Act.put, List.getElem_toArray, List.getElem_cons_zero, List.getElem_cons_succ, List.setIfInBounds_toArray, List.set_cons_zero, List.set_cons_succ]
        refine wpAnyH_take (i := 16) (v := .bool true) rfl (by kernel_rfl) (by kernel_rfl) (by kernel_rfl) (fun _ _ _ h => h) (Or.inl ⟨by rfl, fun w hS => by go_simp⟩) hHeld ?_
        simp only [Act.put, List.getElem_toArray, List.getElem_cons_zero, List.getElem_cons_succ, List.setIfInBounds_toArray, List.set_cons_zero, List.set_cons_succ]
        refine wpAnyH_take (i := 17) (v := .bool true) rfl (by kernel_rfl) (by kernel_rfl) (by kernel_rfl) (fun _ _ _ h => h) (Or.inl ⟨by rfl, fun w hS => by go_simp⟩) hHeld ?_
        simp only [Act.put, List.getElem_toArray, List.getElem_cons_zero, List.getElem_cons_succ, List.setIfInBounds_toArray, List.set_cons_zero, List.set_cons_succ]
        refine wpAnyH_take (i := 18) (v := .bool true) rfl (by kernel_rfl) (by kernel_rfl) (by kernel_rfl) (fun _ _ _ h => h) (Or.inl ⟨by rfl, fun w hS => by go_simp⟩) hHeld ?_
        simp only [Act.put, List.getElem_toArray, List.getElem_cons_zero, List.getElem_cons_succ, List.setIfInBounds_toArray, List.set_cons_zero, List.set_cons_succ]
        refine wpAnyH_done (by kernel_rfl) ?_ _
        have HH := hidden hHeld
        clear hHeld
        go_wp2_with fail
        go_ret
        exact ⟨rfl, grow_trans HE.out HH.out⟩

end Go.Proofs.YtlinalcjdpikeaaGreatDoor
