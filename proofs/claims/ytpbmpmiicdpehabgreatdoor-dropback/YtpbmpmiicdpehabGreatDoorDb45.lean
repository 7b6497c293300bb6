/- What PutMap's walk keeps: a store beside a variable of its own. -/
import Derived.Test.YtpbmpmiicdpehabGreatDoorDb34
import Derived.Test.YtpbmpmiicdpehabGreatDoorDb44
import Derived.Test.YtpbmpmiicdpehabGreatDoorDb37
import Derived.Test.YtpbmpmiicdpehabGreatDoorDb38
namespace Go.Proofs.YtpbmpmiicdpehabGreatDoor
set_option maxRecDepth 20000
open Go.RowKit

/-- The store at g, in blocks new since w1, and a digest in the block bt beside it. -/
def Hy (w1 w : World) (g gs R bt : Nat) (D : List Int) (cs : List (Nat × Ce)) (fr : List Nat) : Prop :=
  (∃ vp vf, Stm w g gs vp vf R cs fr ∧ (∀ k ∈ stB g gs vp vf cs, w1.heap.size ≤ k ∧ k ≠ bt)) ∧ Below w1.heap.size w1 w ∧ Blk w bt 39 (B D) ∧ w1.heap.size ≤ bt ∧ Wf cs []

section
variable {w1 w w' : World} {g gs R bt : Nat} {D : List Int} {cs : List (Nat × Ce)} {fr : List Nat}
theorem Hy.low (h : Hy w1 w g gs R bt D cs fr) : Below w1.heap.size w1 w := h.2.1
theorem Hy.wf (h : Hy w1 w g gs R bt D cs fr) : Wf cs [] := h.2.2.2.2
theorem Hy.blk (h : Hy w1 w g gs R bt D cs fr) : Blk w bt 39 (B D) := h.2.2.1
theorem Hy.grow (h : Hy w1 w g gs R bt D cs fr) (hb : Below w.heap.size w w') : Hy w1 w' g gs R bt D cs fr := by
  obtain ⟨⟨vp, vf, s, n⟩, h1, h2, h3, h4⟩ := h
  exact ⟨⟨vp, vf, s.grow hb, n⟩, grow_trans h1 hb, h2.grow hb, h3, h4⟩
theorem Hy.hs (h : Hy w1 w g gs R bt D cs fr) : ∃ S, Hs w S w g gs R cs fr ∧ (∀ P : World → Prop, (∀ w', Below w1.heap.size w1 w' → P w') → Kq S w P) ∧ ∀ w' cs' fr', Hs w S w' g gs R cs' fr' → Hy w1 w' g gs R bt D cs' fr' := by
  obtain ⟨⟨vp, vf, s, n⟩, h1, h2, h3, h4⟩ := h
  refine ⟨stB g gs vp vf cs, Hs.here s h4, fun P hP => Kq.of_low hP h1 (fun k hk => (n k hk).1), fun w' cs' fr' k => ?_⟩
  obtain ⟨⟨vp', vf', s', m', n'⟩, W'⟩ := k
  refine ⟨⟨vp', vf', s', fun q hq => ?_⟩, h1.trans (m'.below (fun q hq => (n q hq).1) h1.size), h2.mod m' (fun e => (n bt e).2 rfl), h3, W'⟩
  rcases n' q hq with e | e
  · exact n q e
  · have := h2.lt
    exact ⟨Nat.le_trans h1.size e, by omega⟩
theorem Hy.put (h : Hy w1 w g gs R bt D cs fr) {D' : List Int} (hB : Blk w' bt 39 (B D')) (hg : w.grownBy w' (some bt)) : Hy w1 w' g gs R bt D' cs fr := by
  obtain ⟨⟨vp, vf, s, n⟩, h1, h2, h3, h4⟩ := h
  have m : Mod [bt] w w' := Mod.of_some hg (by simp)
  exact ⟨⟨vp, vf, s.mod m (fun k hk e => (n k hk).2 (List.mem_singleton.1 e)), n⟩, h1.trans (m.below (fun k hk => by rw [List.mem_singleton.1 hk]; exact h3) h1.size), hB, h3, h4⟩
theorem Hy.new (H : Hs w1 [] w g gs R cs fr) (hb : Below w.heap.size w w') (hbt : w.heap.size ≤ bt) (hB : Blk w' bt 39 (B D)) : Hy w1 w' g gs R bt D cs fr := by
  have hl := H.low
  obtain ⟨⟨vp, vf, s, m, n⟩, W⟩ := H
  refine ⟨⟨vp, vf, s.grow hb, fun k hk => ?_⟩, grow_trans hl hb, hB, Nat.le_trans hl.size hbt, W⟩
  have := s.lts k hk
  rcases n k hk with e | e
  · cases e
  · exact ⟨e, by omega⟩
end

/-- What the walk knows of its map, of its root, and of what it kept. -/
structure Mp (cs : List (Nat × Ce)) (k : Nat) (its : List It) (root : Nat) (T : Tre) (kept : Nat) (D : List Int) : Prop where
  rt : Rt cs root T
  ents : T.ents.Perm (its.map (·.1))
  own : ∀ i, own cs [] i ≤ 2 * k
  noc : noc cs ≤ 257 * k
  held : kept = 0 ∨ (1 ≤ kept ∧ 1 + (if root = kept then 1 else 0) ≤ Go.Proofs.YtpbmpmiicdpehabGreatDoor.own cs [] (kept - 1) ∧ ∃ X, IsT cs kept X ∧ ((sdC cs kept).kind = 2 → (sdC cs kept).dp = 0) ∧ D = Go.Proofs.YtpbmpmiicdpehabGreatDoor.rt 256 0 X.ents)

theorem mp_zero : Mp [] 0 [] 0 .emp 0 z32 := ⟨Rt.zero [], List.Perm.refl _, fun i => by rw [own_nil]; omega, by show 0 ≤ _; omega, .inl rfl⟩

theorem own_moreC {cs : List (Nat × Ce)} (W : Wf cs []) {i : Nat} (hi : 0 < cc cs i) (j : Nat) : own (moreC cs i) [] j = own cs [] j + (if i = j then 1 else 0) := by
  have := W.le j
  unfold own
  rw [moreC_cc hi, moreC_ce]
  omega

/-- The root is held once more and kept. -/
theorem mp_keep {cs : List (Nat × Ce)} {k : Nat} {its : List It} {root : Nat} {T : Tre} {kept : Nat} {D : List Int} (W : Wf cs []) (m : Mp cs k its root T kept D) (h0 : 0 < root) : 0 < cc cs (root - 1) ∧ Rt (moreC cs (root - 1)) root T ∧ (∀ i, own (moreC cs (root - 1)) [] i ≤ 2 * k + 1) ∧ noc (moreC cs (root - 1)) = noc cs ∧ 2 ≤ own (moreC cs (root - 1)) [] (root - 1) := by
  have hc : 0 < cc cs (root - 1) := (m.rt.tree.occ.resolve_left (by omega)).2
  have hk : ∀ i, 0 < cc cs i → 0 < cc (moreC cs (root - 1)) i ∧ Core (ce cs i) (ce (moreC cs (root - 1)) i) := fun i hi => by
    rw [moreC_cc hc, moreC_ce]
    exact ⟨by omega, Core.refl _⟩
  have ho := m.rt.own.resolve_left (by omega)
  refine ⟨hc, ⟨m.rt.tree.keep hk, ?_, .inr (by rw [own_moreC W hc]; omega)⟩, fun i => ?_, moreC_noc hc, by rw [own_moreC W hc, if_pos rfl]; omega⟩
  · have hd := m.rt.dp
    rw [sdC, if_neg (by omega)] at hd ⊢
    rw [moreC_ce]
    exact hd
  · rw [own_moreC W hc]
    have := m.own i
    split <;> omega

/-- What is kept and held stays, to the digest. -/
theorem held_stay {cs cs' : List (Nat × Ce)} {root top kept : Nat} {D : List Int} (hold : 1 ≤ kept ∧ 1 + (if root = kept then 1 else 0) ≤ own cs [] (kept - 1) ∧ ∃ X, IsT cs kept X ∧ ((sdC cs kept).kind = 2 → (sdC cs kept).dp = 0) ∧ D = rt 256 0 X.ents) (ho : ∀ i, own cs' [] i + (if root = i + 1 then 1 else 0) = own cs [] i + (if top = i + 1 then 1 else 0)) (hkeep : ∀ x X, IsT cs x X → (x = 0 ∨ 0 < cc cs' (x - 1)) → IsT cs' x X) :
    1 ≤ kept ∧ 1 + (if top = kept then 1 else 0) ≤ own cs' [] (kept - 1) ∧ ∃ X, IsT cs' kept X ∧ ((sdC cs' kept).kind = 2 → (sdC cs' kept).dp = 0) ∧ D = rt 256 0 X.ents := by
  obtain ⟨h1, h2, X, h3, h4, h5⟩ := hold
  have h6 := ho (kept - 1)
  rw [show kept - 1 + 1 = kept by omega] at h6
  have h7 : 1 + (if top = kept then 1 else 0) ≤ own cs' [] (kept - 1) := by omega
  have h8 : 0 < cc cs' (kept - 1) := by
    unfold own at h7
    omega
  have h9 := hkeep kept X h3 (.inr h8)
  refine ⟨h1, h7, X, h9, fun q => ?_, h5⟩
  match X, h3, h9 with
  | .emp, e, _ => have : kept = 0 := e; omega
  | .lf _ _, _, e => rw [sdC, if_neg (by omega)] at q; have := e.2.2.1; omega
  | .nd d _ _ _ _, e0, e =>
    have hk : (sdC cs kept).kind = 2 := by rw [sdC, if_neg (by omega)]; exact e0.2.2.1
    have := h4 hk
    rw [sdC, if_neg (by omega)] at this ⊢
    rw [e.2.2.2.1, ← e0.2.2.2.1]
    exact this

end Go.Proofs.YtpbmpmiicdpehabGreatDoor

/- What one write of PutMap makes, and what is told behind it. -/
namespace Go.Proofs.YtpbmpmiicdpehabGreatDoor
set_option maxRecDepth 20000
open Go.RowKit

/-- Behind a write. -/
def Ax (w1 w : World) (g gs R bt : Nat) (D : List Int) (k : Nat) (its : List It) (top kept lim : Nat) : Prop := ∃ cs fr T, Hy w1 w g gs R bt D cs fr ∧ Mp cs k its top T kept D ∧ noc cs ≤ lim ∧ 1 ≤ top ∧ 1 ≤ own cs [] (top - 1)
theorem Ax.grow {w1 w w' : World} {g gs R bt : Nat} {D : List Int} {k : Nat} {its : List It} {top kept lim : Nat} (h : Ax w1 w g gs R bt D k its top kept lim) (hb : Below w.heap.size w w') : Ax w1 w' g gs R bt D k its top kept lim := by
  obtain ⟨cs, fr, T, h1, h2⟩ := h
  exact ⟨cs, fr, T, h1.grow hb, h2⟩
theorem Ax.low {w1 w : World} {g gs R bt : Nat} {D : List Int} {k : Nat} {its : List It} {top kept lim : Nat} (h : Ax w1 w g gs R bt D k its top kept lim) : Below w1.heap.size w1 w := by
  obtain ⟨cs, fr, T, h1, h2⟩ := h
  exact h1.low

section
variable {w1 w : World} {g gs R bt : Nat} {D : List Int} {k : Nat} {its : List It} {top kept lim : Nat}
theorem Ax.occ (h : Ax w1 w g gs R bt D k its top kept lim) : ∃ o : Nat, o ≤ lim ∧ Calls Tryz.prog 10 #[.pointer (some ⟨g, 0, none⟩)] w fun e w' => e = .returned (.int .i64 (o : Int)) ∧ Below w.heap.size w w' := by
  obtain ⟨cs, fr, T, h1, h2, h3, _⟩ := h
  obtain ⟨S, hs, _, _⟩ := h1.hs
  exact ⟨noc cs, h3, hs_occ hs⟩
theorem Ax.held (h : Ax w1 w g gs R bt D k its top kept lim) : ∃ o : Nat, 1 ≤ o ∧ Calls Tryz.prog 41 #[.pointer (some ⟨g, 0, none⟩), .int .i64 (top : Int)] w fun e w' => e = .returned (.int .i64 (o : Int)) ∧ Below w.heap.size w w' := by
  obtain ⟨cs, fr, T, h1, h2, h3, h4, h5⟩ := h
  obtain ⟨S, hs, _, _⟩ := h1.hs
  refine ⟨_, ?_, held_any hs.vw (top : Int)⟩
  unfold own at h5
  rw [cot, if_pos (by omega), show ((top : Int) - 1).toNat = top - 1 by omega, cat_nat, sdC, if_neg (by omega)]
  simpa using h5
theorem Ax.dig (h : Ax w1 w g gs R bt D k its top kept lim) (hL : Laid w) : Calls Tryz.prog 13 #[.pointer (some ⟨g, 0, none⟩), .int .i64 (top : Int)] w fun e w' => e = .returned (.agg (B (rt 256 0 (its.map (·.1))))) ∧ Below w.heap.size w w' := by
  obtain ⟨cs, fr, T, h1, h2, _⟩ := h
  obtain ⟨S, hs, _, _⟩ := h1.hs
  have := sdig_any hs.vw (top : Int) hL
  have e : vDg true (cat cs) (top : Int) = rt 256 0 (its.map (·.1)) := by
    have e1 : vDg true (cat cs) (top : Int) = sdD cs top := by
      unfold vDg sdD
      by_cases h0 : top = 0
      · subst h0
        rfl
      · rw [if_neg (by omega), if_neg h0, cat_nat, sdC, if_neg h0]
    rw [e1, h2.rt.dig h1.wf]
    exact rt_perm _ _ _ _ h2.ents
  rwa [e] at this
theorem Ax.size (h : Ax w1 w g gs R bt D k its top kept lim) : Calls Tryz.prog 14 #[.pointer (some ⟨g, 0, none⟩), .int .i64 (top : Int)] w fun e w' => e = .returned (.int .i64 (its.length : Int)) ∧ Below w.heap.size w w' := by
  obtain ⟨cs, fr, T, h1, h2, _⟩ := h
  obtain ⟨S, hs, _, _⟩ := h1.hs
  have := size_any hs.vw (top : Int)
  rwa [cat_nat, h2.rt.size h1.wf, h2.ents.length_eq, List.length_map] at this
end

/-- A write, at a store that holds what it held, or the root once more. -/
theorem mp_put {w1 w : World} {g gs bt : Nat} {D : List Int} {cs : List (Nat × Ce)} {fr : List Nat} (H : Hy w1 w g gs 8256 bt D cs fr) {k root kept o : Nat} {its : List It} {T : Tre} (r : Rt cs root T) (he : T.ents.Perm (its.map (·.1))) (hap : (its.map (·.1)).Pairwise fun a b => a.1 ≠ b.1) (ho : ∀ i, own cs [] i ≤ 2 * k + 1) (hn : noc cs = o) (hn2 : o ≤ 257 * k) (hk : k < 16)
    (hh : kept = 0 ∨ (1 ≤ kept ∧ 1 + (if root = kept then 1 else 0) ≤ own cs [] (kept - 1) ∧ ∃ X, IsT cs kept X ∧ ((sdC cs kept).kind = 2 → (sdC cs kept).dp = 0) ∧ D = rt 256 0 X.ents))
    {K bs : List Int} (hK : Key K) {u : Value} (hu : ∀ w', Below w1.heap.size w1 w' → Reads w' u bs) (hL : ∀ w', Below w1.heap.size w1 w' → Laid w') (hl : bs.length ≤ 1024) {ss : List Nat} (hss : BesIs K T root ss) (h256 : ss.length ≤ 256) :
    Calls Tryz.prog 17 #[.pointer (some ⟨g, 0, none⟩), .int .i64 (root : Int), .agg (B K), u] w fun e w' => ∃ top : Nat, e = .returned (.tuple #[.int .i64 (top : Int), .int .i64 0]) ∧ Ax w1 w' g gs 8256 bt D (k + 1) (upI its (((K, bs), u) : It)) top kept (o + costN T K bs ss) := by
  obtain ⟨S, hs, hkq, hbk⟩ := H.hs
  refine (put_any hs r hK (hkq _ hu) (hkq _ hL) hl (fun i => by have := ho i; omega) (by omega) hss).mono ?_
  rintro e w' ⟨top, cs', fr', T', rfl, p, h'⟩
  have hcn : costN T K bs ss ≤ 257 := by
    unfold costN
    split <;> omega
  have hp := upI_up its (((K, bs), u) : It) hap
  refine ⟨top, rfl, cs', fr', T', hbk _ _ _ h', ⟨p.rt, (p.ents.trans (upE_perm he K bs)).trans hp.1.symm, fun i => own_step (p.own i) (ho i) (by omega), by have := p.noc; omega, ?_⟩, by have := p.noc; omega, p.pos, ?_⟩
  · rcases hh with e | e
    · exact .inl e
    · exact .inr (held_stay e p.own p.keep)
  · have := p.rt.own.resolve_left (by have := p.pos; omega)
    omega

/-- What is kept is as it was. -/
theorem Hy.kept {w1 w : World} {g gs R bt : Nat} {D : List Int} {cs : List (Nat × Ce)} {fr : List Nat} (H : Hy w1 w g gs R bt D cs fr) {kept root : Nat} (hh : 1 ≤ kept ∧ 1 + (if root = kept then 1 else 0) ≤ own cs [] (kept - 1) ∧ ∃ X, IsT cs kept X ∧ ((sdC cs kept).kind = 2 → (sdC cs kept).dp = 0) ∧ D = rt 256 0 X.ents) (hL : Laid w) :
    (Calls Tryz.prog 13 #[.pointer (some ⟨g, 0, none⟩), .int .i64 (kept : Int)] w fun e w' => e = .returned (.agg (B D)) ∧ Below w.heap.size w w') ∧ ∃ o : Nat, 1 ≤ o ∧ ∀ w', Below w.heap.size w w' → Calls Tryz.prog 41 #[.pointer (some ⟨g, 0, none⟩), .int .i64 (kept : Int)] w' fun e w'' => e = .returned (.int .i64 (o : Int)) ∧ Below w'.heap.size w' w'' := by
  obtain ⟨h1, h2, X, h3, h4, h5⟩ := hh
  obtain ⟨S, hs, _, _⟩ := H.hs
  constructor
  · have := sdig_any hs.vw (kept : Int) hL
    have e : vDg true (cat cs) (kept : Int) = D := by
      rw [h5]
      unfold vDg
      rw [if_neg (by omega), cat_nat]
      have := (tree_ok H.wf X kept h3).dig 0 h4
      unfold sdD at this
      rw [if_neg (by omega)] at this
      rw [sdC, if_neg (by omega)]
      exact this
    rwa [e] at this
  · refine ⟨_, ?_, fun w' hb => held_any (hs.grow hb).vw (kept : Int)⟩
    have : 1 ≤ own cs [] (kept - 1) := by omega
    unfold own at this
    rw [cot, if_pos (by omega), show ((kept : Int) - 1).toNat = kept - 1 by omega, cat_nat, sdC, if_neg (by omega)]
    simpa using this

theorem Hy.rtDig {w1 w : World} {g gs R bt : Nat} {D : List Int} {cs : List (Nat × Ce)} {fr : List Nat} (H : Hy w1 w g gs R bt D cs fr) {root : Nat} {T : Tre} (r : Rt cs root T) : (rt 256 0 T.ents).length = 32 ∧ (∀ w', Below w.heap.size w w' → Laid w' → Calls Tryz.prog 13 #[.pointer (some ⟨g, 0, none⟩), .int .i64 (root : Int)] w' fun e w'' => e = .returned (.agg (B (rt 256 0 T.ents))) ∧ Below w'.heap.size w' w'') := by
  obtain ⟨S, hs, _, _⟩ := H.hs
  have e : vDg true (cat cs) (root : Int) = rt 256 0 T.ents := by
    have e1 : vDg true (cat cs) (root : Int) = sdD cs root := by
      unfold vDg sdD
      by_cases h0 : root = 0
      · subst h0
        rfl
      · rw [if_neg (by omega), if_neg h0, cat_nat, sdC, if_neg h0]
    rw [e1, r.dig H.wf]
  refine ⟨?_, fun w' hb hl => ?_⟩
  · rw [← e]
    exact (vDg_len hs.vw _).1
  · have := sdig_any (hs.grow hb).vw (root : Int) hl
    rwa [e] at this
theorem Hy.keptLen {w1 w : World} {g gs R bt : Nat} {D : List Int} {cs : List (Nat × Ce)} {fr : List Nat} (H : Hy w1 w g gs R bt D cs fr) {kept : Nat} (hh : ∃ X, IsT cs kept X ∧ ((sdC cs kept).kind = 2 → (sdC cs kept).dp = 0) ∧ D = rt 256 0 X.ents) : D.length = 32 := by
  obtain ⟨X, h3, h4, h5⟩ := hh
  obtain ⟨S, hs, _, _⟩ := H.hs
  have hd := (tree_ok H.wf X kept h3).dig 0 h4
  rw [h5, ← hd]
  unfold sdD
  split
  · exact dig_length _
  · exact (H.wf.ok _).ld

/-- The root of what pairs answered. -/
theorem root_of {es : List Ent} (hl : es.length ≤ 16) (hv : ∀ e ∈ es, e.2.length ≤ 1024) (ha : es.Pairwise fun a b => a.1 ≠ b.1) {h : List Int} {E : Int} (p : RootIs es 0 h E) : h = rt 256 0 es ∧ E = 0 := by
  have he : errB es = 0 := by
    unfold errB
    rw [if_neg (by omega)]
    exact lsE_of [] es hv ha (fun _ _ h => by cases h)
  cases p with
  | out q => omega
  | bad _ _ _ q1 q2 => exact absurd (q1.symm.trans he) q2
  | part _ _ q1 q2 => exact absurd (fun _ _ _ _ j hj => by simp at hj) q2
  | good _ _ q1 q2 => exact ⟨by simp, rfl⟩

/-- The first entries of a list in memory. -/
theorem PrAt.take {w : World} {a : Option Addr} {n cap : Nat} {V : Nat → Value} {es : List Ent} (h : PrAt w (.slice a n cap) V es) (hn : n = es.length) (k : Nat) (hk : k ≤ n) : PrAt w (.slice a k cap) V (es.take k) := by
  obtain ⟨a', cap', e, h1, h2, h3⟩ := h
  injection e with e1 e2 e3
  subst e1 e3
  have hl : (es.take k).length = k := by rw [List.length_take]; omega
  have hg : ∀ i, i < k → (es.take k).getD i e00 = es.getD i e00 := fun i hi => by
    simp only [List.getD_eq_getElem?_getD, List.getElem?_take]
    rw [if_pos hi]
  refine ⟨a, cap, by rw [hl], by rw [hl]; omega, fun hp => ?_, fun i hi => ?_⟩
  · rw [hl] at hp
    obtain ⟨g, off, ea, hr⟩ := h2 (by omega)
    exact ⟨g, off, ea, fun i hi => by rw [hl] at hi; rw [hg i hi]; exact hr i (by omega)⟩
  · rw [hl] at hi
    rw [hg i hi]
    exact h3 i (by omega)
theorem inI_of_take (es : List Ent) (V : Nat → Value) (k : Nat) (hk : k ≤ es.length) : inI (es.take k) V = (inI es V).take k := by
  have hl : (es.take k).length = k := by rw [List.length_take]; omega
  apply List.ext_getElem
  · rw [inI_len, hl, List.length_take, inI_len]
    omega
  · intro i h1 h2
    rw [inI_len, hl] at h1
    simp [inI, List.getD_eq_getElem?_getD, List.getElem?_take, h1]

end Go.Proofs.YtpbmpmiicdpehabGreatDoor

/- What DropMap's walk keeps: a store of which callers hold one root, beside a list of entries; the law's unlike. -/
namespace Go.Proofs.YtpbmpmiicdpehabGreatDoor
set_option maxRecDepth 20000
open Go.RowKit

/-- A slice of keys. -/
def PsAt (w : World) (v : Value) (ks : List (List Int)) : Prop :=
  ∃ a cap, v = .slice a ks.length cap ∧ ks.length ≤ cap ∧ (0 < ks.length → ∃ g off, a = some ⟨g, off, none⟩ ∧ ∀ i, i < ks.length → w.rangeAt g (off + i * 32) (B (ks.getD i [])).toList) ∧ ∀ i, i < ks.length → Key (ks.getD i [])
theorem PsAt.grow {w w' : World} {v : Value} {ks : List (List Int)} (h : PsAt w v ks) (hb : Below w.heap.size w w') : PsAt w' v ks := by
  obtain ⟨a, cap, e, h1, h2, h3⟩ := h
  refine ⟨a, cap, e, h1, fun hp => ?_, h3⟩
  obtain ⟨g, off, ea, hr⟩ := h2 hp
  exact ⟨g, off, ea, fun i hi => rng_grow (hr i hi) hb⟩

/-- Are entries such as the law takes? -/
def unP (es : List Ent) : Bool := decide (es.length ≤ 14 ∧ errB es = 0)
theorem unP_yes {es : List Ent} (h : unP es = true) : es.length ≤ 14 ∧ (∀ e ∈ es, e.2.length ≤ 1024) ∧ es.Pairwise fun a b => a.1 ≠ b.1 := by
  unfold unP at h
  obtain ⟨h1, h2⟩ := of_decide_eq_true h
  unfold errB at h2
  rw [if_neg (by omega)] at h2
  obtain ⟨a, b, _⟩ := lsE_ok [] es h2
  exact ⟨h1, a, b⟩

set_option maxHeartbeats 1000000 in
theorem unlike_any {w : World} {v : Value} {V : Nat → Value} {es : List Ent} (hv : PrAt w v V es) (hn : es.length ≤ 140737488355328) (hL : Laid w) : Calls Tryz.prog 6 #[v] w fun e w' => e = .returned (.bool (unP es)) ∧ Below w.heap.size w w' := by
  have HRO : Hid (Calls Tryz.prog 12 #[v] w fun e w' => ∃ h E, e = .returned (.tuple #[.agg (B h), .int .i64 E]) ∧ (h.length = 32 ∧ (E = 0 ↔ errB es = 0)) ∧ Below w.heap.size w w') := by
    refine (Root_any v V es w hv hn hL).mono ?_
    rintro e w' ⟨h, E, rfl, p, b⟩
    refine ⟨h, E, rfl, ⟨p.len, ?_⟩, b⟩
    cases p with
    | out q => omega
    | bad _ _ _ q1 q2 => rw [q1]
    | part _ _ q1 q2 => exact absurd (fun _ _ _ _ j hj => by simp at hj) q2
    | good _ _ q1 q2 => simp [q1]
  obtain ⟨a, cap, rfl, _, _, _⟩ := hv
  have HUN : Hid (unP es = decide (es.length ≤ 14 ∧ errB es = 0)) := rfl
  generalize unP es = U at HUN ⊢
  generalize es.length = n at hn HUN HRO ⊢
  by_cases h14 : n ≤ 14
  · have h15 : (n : Int) ≤ 14 := by omega
    clear hL
    go_enter Tryz.func6, Tryz.ntmps6
    go_wp2_with (first
      | (go_at_call 12; refine HRO.out.mono ?_; rintro e w1 ⟨H, E, rfl, hE, b1⟩; have HB1 := hidden b1; have HHS : Hid ((Tryz.prog.info? 39).map (·.size) = some (B H).size ∧ (B z32).size = (B H).size) := ⟨by rw [B_size, hE.1]; exact size_hash, by rw [B_size, B_size, hE.1]; rfl⟩; have HEE := hidden hE.2; clear b1 hE)
      | ((with_reducible refine at_ald 3 ?_); refine wpList_al _ rfl _ rfl _ zero_hash ?_; intro w2 bh hgh hlh BH q3; have HBZ := hidden BH; have HGH := hidden hgh; have HQ8 := hidden q3; clear hgh hlh BH q3)
      | ((with_reducible refine at_st 3 ?_); refine wpList_sto _ rfl _ _ _ rfl bh _ (B H) rfl rfl HBZ.out HHS.out.1 HHS.out.2 (B_one _) ?_; intro w3 BH r4; have HQ9 := hidden (below_row HQ8.out r4 HGH.out); clear BH r4))
    go_ret
    refine ⟨?_, grow_trans HB1.out HQ9.out⟩
    rw [HUN.out]
    have e1 : (E == 0) = decide (n ≤ 14 ∧ errB es = 0) := by
      rw [Bool.eq_iff_iff, decide_eq_true_eq, beq_iff_eq, HEE.out]
      exact ⟨fun h => ⟨h14, h⟩, fun h => h.2⟩
    rw [← e1]
    first | rfl | simp
  · have h15 : ¬ (n : Int) ≤ 14 := by omega
    clear hL
    go_enter Tryz.func6, Tryz.ntmps6
    go_wp2_with (first
      | (go_at_call 12; refine HRO.out.mono ?_; rintro e w1 ⟨H, E, rfl, hE, b1⟩; have HB1 := hidden b1; have HHS : Hid ((Tryz.prog.info? 39).map (·.size) = some (B H).size ∧ (B z32).size = (B H).size) := ⟨by rw [B_size, hE.1]; exact size_hash, by rw [B_size, B_size, hE.1]; rfl⟩; clear b1 hE)
      | ((with_reducible refine at_ald 3 ?_); refine wpList_al _ rfl _ rfl _ zero_hash ?_; intro w2 bh hgh hlh BH q3; have HBZ := hidden BH; have HGH := hidden hgh; have HQ8 := hidden q3; clear hgh hlh BH q3)
      | ((with_reducible refine at_st 3 ?_); refine wpList_sto _ rfl _ _ _ rfl bh _ (B H) rfl rfl HBZ.out HHS.out.1 HHS.out.2 (B_one _) ?_; intro w3 BH r4; have HQ9 := hidden (below_row HQ8.out r4 HGH.out); clear BH r4))
    go_ret
    refine ⟨?_, grow_trans HB1.out HQ9.out⟩
    rw [HUN.out]
    have e1 : decide (n ≤ 14 ∧ errB es = 0) = false := by simp [h14]
    rw [e1]
    rfl

/-! ### A store beside a list -/
/-- The store at g, whose callers hold the root of F alone, and a list of the entries E beside it. -/
def Dq (w0 w : World) (g gs : Nat) (F : List Ent) (root : Nat) (v : Value) (E : List Ent) : Prop :=
  ∃ S V cs fr T, Hs w S w g gs 10320 cs fr ∧ Rt cs root T ∧ T.ents.Perm F ∧ (∀ i, own cs [] i = if root = i + 1 then 1 else 0) ∧ (∀ k ∈ S, w0.heap.size ≤ k ∧ k < w.heap.size) ∧ Below w0.heap.size w0 w ∧ Kq S w (fun z => PrAt z v V E)

section
variable {w0 w w' : World} {g gs root : Nat} {F E : List Ent} {v : Value}
theorem Dq.low (h : Dq w0 w g gs F root v E) : Below w0.heap.size w0 w := by
  obtain ⟨S, V, cs, fr, T, _, _, _, _, _, h6, _⟩ := h
  exact h6
theorem Dq.grow (h : Dq w0 w g gs F root v E) (hb : Below w.heap.size w w') : Dq w0 w' g gs F root v E := by
  obtain ⟨S, V, cs, fr, T, h1, h2, h3, h4, h5, h6, h7⟩ := h
  exact ⟨S, V, cs, fr, T, h1.rebase hb, h2, h3, h4, fun k hk => ⟨(h5 k hk).1, Nat.lt_of_lt_of_le (h5 k hk).2 hb.size⟩, grow_trans h6 hb, h7.grow hb⟩
/-- Without the list. -/
theorem Dq.num (h : Dq w0 w g gs F root v E) : ∃ S cs fr T, Hs w S w g gs 10320 cs fr ∧ Rt cs root T ∧ T.ents.Perm F ∧ (∀ i, own cs [] i = if root = i + 1 then 1 else 0) ∧ noc cs = nN 256 0 F ∧ T.num = nN 256 0 F := by
  obtain ⟨S, V, cs, fr, T, h1, h2, h3, h4, h5, h6, h7⟩ := h
  have hn : T.num = nN 256 0 F := by
    rw [num_is h1.2 T root 0 h2.tree h2.dp]
    exact nN_perm _ _ _ _ h3
  refine ⟨S, cs, fr, T, h1, h2, h3, h4, ?_, hn⟩
  rw [← hn]
  exact noc_root h1.2 h2.tree (fun i hi => by
    rw [h4] at hi
    apply Classical.byContradiction
    intro e
    rw [if_neg e] at hi
    exact hi rfl)
theorem Dq.occ (h : Dq w0 w g gs F root v E) : Calls Tryz.prog 10 #[.pointer (some ⟨g, 0, none⟩)] w fun e w' => e = .returned (.int .i64 (nN 256 0 F : Int)) ∧ Below w.heap.size w w' := by
  obtain ⟨S, cs, fr, T, h1, h2, h3, h4, h5, _⟩ := h.num
  rw [← h5]
  exact hs_occ h1
theorem Dq.size (h : Dq w0 w g gs F root v E) : Calls Tryz.prog 14 #[.pointer (some ⟨g, 0, none⟩), .int .i64 (root : Int)] w fun e w' => e = .returned (.int .i64 (F.length : Int)) ∧ Below w.heap.size w w' := by
  obtain ⟨S, cs, fr, T, h1, h2, h3, h4, h5, _⟩ := h.num
  have := size_any h1.vw (root : Int)
  rwa [cat_nat, h2.size h1.2, h3.length_eq] at this
theorem Dq.dig (h : Dq w0 w g gs F root v E) (hL : Laid w) : Calls Tryz.prog 13 #[.pointer (some ⟨g, 0, none⟩), .int .i64 (root : Int)] w fun e w' => e = .returned (.agg (B (rt 256 0 F))) ∧ Below w.heap.size w w' := by
  obtain ⟨S, cs, fr, T, h1, h2, h3, h4, _⟩ := h.num
  have := sdig_any h1.vw (root : Int) hL
  rwa [sdD_vDg, h2.dig h1.2, rt_perm _ _ _ _ h3] at this
theorem Dq.reach (h : Dq w0 w g gs F root v E) (hn : nN 256 0 F ≤ 4000) : Calls Tryz.prog 15 #[.pointer (some ⟨g, 0, none⟩), .int .i64 (root : Int)] w fun e w' => e = .returned (.int .i64 (nN 256 0 F : Int)) ∧ Below w.heap.size w w' := by
  obtain ⟨S, cs, fr, T, h1, h2, h3, h4, _, h6⟩ := h.num
  have := reached_any h1.vw h1.2 root T h2.tree (by rw [h6]; exact hn)
  rwa [h6] at this
theorem Dq.cost (h : Dq w0 w g gs F root v E) {K : List Int} (hK : Key K) : ∃ n : Nat, n ≤ 256 ∧ (hasK F K = false → n = 0) ∧ ∀ w', Below w.heap.size w w' → Calls Tryz.prog 9 #[.pointer (some ⟨g, 0, none⟩), .int .i64 (root : Int), .agg (B K)] w' fun e w'' => e = .returned (.tuple #[.int .i64 (n : Int), .int .i64 0]) ∧ Below w'.heap.size w' w'' := by
  obtain ⟨S, cs, fr, T, h1, h2, h3, h4, _, h6⟩ := h.num
  obtain ⟨c1, c2, c3⟩ := dcost_le h1.2 h2.tree h2.dp K
  rw [hasK_perm h3 K] at c2
  exact ⟨_, c1, c2, fun w' hb => dcost_any (h1.grow hb) h2 hK⟩
theorem Dq.drop (h : Dq w0 w g gs F root v E) {K : List Int} (hK : Key K) (hL : ∀ w', Below w0.heap.size w0 w' → Laid w') (hf : nN 256 0 F + 258 ≤ 10320) :
    Calls Tryz.prog 11 #[.pointer (some ⟨g, 0, none⟩), .int .i64 (root : Int), .agg (B K)] w fun e w' => ∃ top : Nat, e = .returned (.tuple #[.int .i64 (top : Int), .bool (hasK F K), .int .i64 0]) ∧ Dq w0 w' g gs (dlE F K) top v E ∧ (hasK F K = false → top = root) := by
  obtain ⟨_, _, _, _, g1, _, _, _, g5, _⟩ := h.num
  obtain ⟨S, V, cs, fr, T, h1, h2, h3, h4, h5, h6, h7⟩ := h
  have hno : noc cs = nN 256 0 F := by
    rw [noc_root h1.2 h2.tree (fun i hi => by
      rw [h4] at hi
      apply Classical.byContradiction
      intro e
      rw [if_neg e] at hi
      exact hi rfl), num_is h1.2 T root 0 h2.tree h2.dp]
    exact nN_perm _ _ _ _ h3
  have hp := hasK_perm h3 K
  have hLq : Kq S w Laid := Kq.of_low hL h6 (fun k hk => (h5 k hk).1)
  refine (drop_any h1 h2 hK hLq (fun i => by rw [h4]; split <;> omega) (by omega)).mono ?_
  rintro e w' ⟨top, cs', fr', T', rfl, p, hh⟩
  obtain ⟨S', q1, q2, q3, q4, q5⟩ := hh.from
  refine ⟨top, by rw [hp], ⟨S', V, cs', fr', T', q1, p.rt, p.ents.trans (dlE_perm h3 K), fun i => own_only (p.own i) (h4 i), fun k hk => ⟨?_, q4 k hk⟩, h6.trans (hh.mod.below (fun k hk => (h5 k hk).1) h6.size), q3 _ h7⟩, fun q => (p.same (by rw [hp]; exact q)).1⟩
  rcases q2 k hk with e | e
  · exact (h5 k e).1
  · exact Nat.le_trans h6.size e
theorem Dq.without (h : Dq w0 w g gs F root v E) (hn : E.length ≤ 14) {K : List Int} (hK : Key K) : Calls Tryz.prog 8 #[v, .agg (B K)] w fun e w' => ∃ a c, e = .returned (.tuple #[.slice a (dlE E K).length c, .bool (hasK E K)]) ∧ Dq w0 w' g gs F root (.slice a (dlE E K).length c) (dlE E K) := by
  obtain ⟨S, V, cs, fr, T, h1, h2, h3, h4, h5, h6, h7⟩ := h
  refine (without_any (fun k hk => (h5 k hk).2) h7 hn hK).mono ?_
  rintro e w' ⟨a, c, V', rfl, q, hb⟩
  exact ⟨a, c, rfl, S, V', cs, fr, T, h1.rebase hb, h2, h3, h4, fun k hk => ⟨(h5 k hk).1, Nat.lt_of_lt_of_le (h5 k hk).2 hb.size⟩, grow_trans h6 hb, q⟩
theorem Dq.list (h : Dq w0 w g gs F root v E) : ∃ V, PrAt w v V E := by
  obtain ⟨S, V, cs, fr, T, h1, h2, h3, h4, h5, h6, h7⟩ := h
  exact ⟨V, h7.now⟩
end

theorem dq_new {w0 w : World} {g gs root : Nat} {F : List Ent} (h : Dk w0 w g gs 10320 F root) {v : Value} {V : Nat → Value} (hv : ∀ w', Below w0.heap.size w0 w' → PrAt w' v V F) : Dq w0 w g gs F root v F := by
  obtain ⟨cs, fr, T, h1, h2, h3, h4⟩ := h
  obtain ⟨S, q1, q2, q3, q4, q5⟩ := h1.from
  refine ⟨S, V, cs, fr, T, q1, h2, h3, h4, fun k hk => ⟨?_, q4 k hk⟩, h1.low, q3 _ (kq_nil hv)⟩
  rcases q2 k hk with e | e
  · cases e
  · exact e

/-- What is left of entries when keys are deleted one behind the other. -/
def dlL (es : List Ent) (ks : List (List Int)) : List Ent := ks.foldl dlE es
theorem dlL_snoc (es : List Ent) (ks : List (List Int)) (k : List Int) : dlL es (ks ++ [k]) = dlE (dlL es ks) k := by simp [dlL]
theorem dlL_sub (es : List Ent) : ∀ ks : List (List Int), (dlL es ks).Sublist es := fun ks => by
  unfold dlL
  induction ks generalizing es with
  | nil => exact List.Sublist.refl _
  | cons k r ih => exact (ih (dlE es k)).trans List.filter_sublist

end Go.Proofs.YtpbmpmiicdpehabGreatDoor
