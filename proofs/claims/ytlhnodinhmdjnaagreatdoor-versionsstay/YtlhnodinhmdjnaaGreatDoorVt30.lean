/- A root at hand, and what Put and Cost make of it: what the laws ask. -/
import Derived.Test.YtlhnodinhmdjnaaGreatDoorVt29
import Derived.Test.YtlhnodinhmdjnaaGreatDoorVt18
import Derived.Shelf.SlIter.Nil
import Derived.Shelf.SortM.Plain
import Derived.Shelf.SortM.SortNone
import Derived.Test.YtlhnodinhmdjnaaGreatDoorProg
namespace Go.Proofs.YtlhnodinhmdjnaaGreatDoor
set_option maxRecDepth 20000
open Go.RowKit

theorem con_le (i : Nat) (p : Nat × Ce) : con i p ≤ 2 := by
  unfold con
  split
  · split <;> split <;> omega
  · omega
theorem ns_le (cs : List (Nat × Ce)) (i : Nat) : ns cs i ≤ 2 * cs.length := by
  induction cs with
  | nil => simp [ns]
  | cons p r ih =>
    have h := con_le i p
    simp only [ns, List.map_cons, List.sum_cons, List.length_cons] at ih ⊢
    omega
theorem Wf.ccLe {cs : List (Nat × Ce)} (W : Wf cs []) (i b : Nat) (h : Go.Proofs.YtlhnodinhmdjnaaGreatDoor.own cs [] i ≤ b) : cc cs i ≤ 2 * cs.length + b := by
  have h1 := W.own i
  have h2 := W.ab i
  have h3 := ns_le cs i
  rw [List.count_nil] at h1
  omega

/-- A root at hand. -/
structure Rt (cs : List (Nat × Ce)) (h : Nat) (T : Tre) : Prop where
  tree : IsT cs h T
  dp : (sdC cs h).kind = 2 → (sdC cs h).dp = 0
  own : h = 0 ∨ 0 < own cs [] (h - 1)

theorem Rt.root {cs : List (Nat × Ce)} {h : Nat} {T : Tre} (r : Rt cs h T) : vRt true (cot cs h) (cat cs h) h = 0 := by
  unfold vRt
  rw [if_pos rfl]
  by_cases h0 : (h : Int) = 0
  · rw [if_pos h0]
  · rw [if_neg h0]
    rcases r.tree.occ with e | ⟨e1, e2⟩
    · exact absurd (by omega) h0
    · have hc : cot cs (h : Int) = cc cs (h - 1) := by rw [cot, if_pos (by omega), show ((h : Int) - 1).toNat = h - 1 by omega]
      rw [hc, if_neg (by omega)]
      have hd := r.dp
      rw [← cat_nat] at hd
      unfold vDp
      rw [if_pos rfl]
      by_cases k : (cat cs (h : Int)).kind = 2
      · rw [if_pos k, hd k]
        rfl
      · rw [if_neg k]
        rfl
theorem Rt.refuse {cs : List (Nat × Ce)} {h : Nat} {T : Tre} (r : Rt cs h T) {n : Nat} (hn : n ≤ 1024) : vRf true (cot cs h) (cat cs h) h n = 0 := by
  unfold vRf
  rw [if_pos rfl, if_neg (by omega)]
  unfold vAh
  rw [if_pos r.root, if_neg]
  rintro ⟨h0, q⟩
  have h1 : h ≠ 0 := fun e => h0 (by omega)
  have ho := r.own.resolve_left h1
  have hc : cot cs (h : Int) = cc cs (h - 1) := by rw [cot, if_pos (by omega), show ((h : Int) - 1).toNat = h - 1 by omega]
  rw [hc, cat_nat, sdC, if_neg h1] at q
  unfold Go.Proofs.YtlhnodinhmdjnaaGreatDoor.own at ho
  rw [List.count_nil] at ho
  omega
theorem Rt.zero (cs : List (Nat × Ce)) : Rt cs 0 .emp := ⟨rfl, fun k => absurd k (by show ¬ zc.kind = 2; decide), .inl rfl⟩

/-- A map's entries, with this one among them. -/
def upE (E : List Ent) (K bs : List Int) : List Ent := (K, bs) :: E.filter fun e => !(e.1 == K)

theorem up_same : ∀ (l : List Ent) (K bs : List Int), (l.Pairwise fun a b => a.1 ≠ b.1) → (K, bs) ∈ l → l.Perm (upE l K bs)
  | [], _, _, _, h => by cases h
  | e :: r, K, bs, hp, hm => by
    obtain ⟨h1, h2⟩ := List.pairwise_cons.1 hp
    unfold upE
    rcases List.mem_cons.1 hm with q | q
    · subst q
      have hr : r.filter (fun e : Ent => !(e.1 == K)) = r := List.filter_eq_self.2 (fun x hx => by
        have := h1 x hx
        simp only [Bool.not_eq_true', beq_eq_false_iff_ne, ne_eq]
        exact fun e => this e.symm)
      rw [List.filter_cons, if_neg (by simp), hr]
    · have hne : e.1 ≠ K := h1 _ q
      rw [List.filter_cons, if_pos (by simpa using hne)]
      exact (List.Perm.cons e (up_same r K bs h2 q)).trans (List.Perm.swap _ _ _)

theorem upE_perm {E F : List Ent} (h : E.Perm F) (K bs : List Int) : (upE E K bs).Perm (upE F K bs) := List.Perm.cons _ (h.filter _)

/-- How many nodes are made. -/
def costN (T : Tre) (K bs : List Int) (ss : List Nat) : Nat := if T.efin K = [(K, bs)] then 0 else 1 + ss.length

/-- What Put makes of a store. -/
structure PaIs (cs : List (Nat × Ce)) (fr : List Nat) (T : Tre) (h : Nat) (K bs : List Int) (ss : List Nat) (top : Nat) (cs' : List (Nat × Ce)) (fr' : List Nat) (T' : Tre) : Prop where
  rt : Rt cs' top T'
  ents : T'.ents.Perm (upE T.ents K bs)
  pos : 1 ≤ top
  own : ∀ i, own cs' [] i + (if h = i + 1 then 1 else 0) = own cs [] i + (if top = i + 1 then 1 else 0)
  keep : ∀ x X, IsT cs x X → (x = 0 ∨ 0 < cc cs' (x - 1)) → IsT cs' x X
  noc : noc cs' ≤ noc cs + costN T K bs ss
  same : T.efin K = [(K, bs)] → top = h ∧ cs' = cs ∧ fr' = fr
  just : h = 0 ∨ h ∈ ss → Go.Proofs.YtlhnodinhmdjnaaGreatDoor.noc cs' = Go.Proofs.YtlhnodinhmdjnaaGreatDoor.noc cs + costN T K bs ss
  new : T.efin K ≠ [(K, bs)] → cc cs (top - 1) = 0
  len : cs'.length ≤ cs.length + costN T K bs ss

def PaPost (w0 : World) (S : List Nat) (g gs room : Nat) (cs : List (Nat × Ce)) (fr : List Nat) (T : Tre) (h : Nat) (K bs : List Int) (ss : List Nat) (e : Ending) (w' : World) : Prop :=
  ∃ (top : Nat) (cs' : List (Nat × Ce)) (fr' : List Nat) (T' : Tre), e = .returned (.tuple #[.int .i64 (top : Int), .int .i64 0]) ∧ PaIs cs fr T h K bs ss top cs' fr' T' ∧ Hs w0 S w' g gs room cs' fr'

theorem efin_some {cs : List (Nat × Ce)} {T : Tre} {h : Nat} (hT : IsT cs h T) {K bs : List Int} (hs : T.efin K = [(K, bs)]) : h ≠ 0 := fun e => by
  subst e
  cases T with
  | emp => simp [Tre.efin] at hs
  | lf _ _ => have := hT.1; omega
  | nd _ _ _ _ _ => have := hT.1; omega

theorem put_any {w0 w : World} {S : List Nat} {g gs room : Nat} {cs : List (Nat × Ce)} {fr : List Nat} (H : Hs w0 S w g gs room cs fr) {h : Nat} {T : Tre} (r : Rt cs h T) {K : List Int} (hK : Key K) {u : Value} {bs : List Int} (hu : Kq S w0 (fun w' => Reads w' u bs)) (hL : Kq S w0 Laid) (hl : bs.length ≤ 1024) (hb : ∀ i, own cs [] i ≤ 1000000) (hf : noc cs + 258 ≤ room) {ss : List Nat} (hss : BesIs K T h ss) :
    Calls Tryz.prog 26 #[.pointer (some ⟨g, 0, none⟩), .int .i64 (h : Int), .agg (B K), u] w (PaPost w0 S g gs room cs fr T h K bs ss) := by
  by_cases hsm : T.efin K = [(K, bs)]
  · have h0 := efin_some r.tree hsm
    refine (put_same H h T r.tree K hK u bs (H.kq hu) (r.refuse hl) r.root hf hsm).mono ?_
    rintro e w' ⟨rfl, b⟩
    have hp := up_same T.ents K bs (tree_ok H.2 T h r.tree).apart (efin_mem K T _ (by rw [hsm]; simp))
    exact ⟨h, cs, fr, T, rfl, ⟨r, hp, by omega, fun _ => rfl, fun x X hX _ => hX, Nat.le_add_right _ _, fun _ => ⟨rfl, rfl, rfl⟩, fun _ => by simp [costN, hsm], fun q => absurd hsm q, Nat.le_add_right _ _⟩, H.grow b⟩
  · have hbo : BesOk cs T.ents K ss := by
      obtain ⟨ss2, b1, b2⟩ := bes_ex H.2 K hK r.tree r.dp
      have : ss = ss2 := by
        rcases hss with ⟨e1, e2⟩ | ⟨b, e1, e2⟩ | ⟨k, b, c, e1, e2, e3, e4, e5, e6⟩ <;> rcases b1 with ⟨f1, f2⟩ | ⟨b', f1, f2⟩ | ⟨k', b', c', f1, f2, f3, f4, f5, f6⟩
        · rw [e2, f2]
        · rw [e2, f2]
        · rw [e1] at f1; cases f1
        · rw [e2, f2]
        · rw [e2, f2]
        · rw [e1] at f1
          injection f1 with f1 _
          injection f1 with f1 _
          exact absurd f1.symm f2
        · rw [e1] at f1; cases f1
        · rw [e1] at f1
          injection f1 with f1 _
          injection f1 with f1 _
          exact absurd f1 e2
        · rw [e1] at f1
          injection f1 with f1 _
          injection f1 with f1 _
          subst f1
          rw [e6, f6, e3.one f3]
      rw [this]
      exact b2
    obtain ⟨_, hr1, hr2⟩ := H.sizes
    have hct : ∀ i, cc cs i + 257 < 1073741824 := fun i => by
      have := H.2.ccLe i 1000000 (hb i)
      omega
    refine (put_new H h T r.tree K hK u bs hu hL (r.refuse hl) hl r.root r.own hf hsm ss hss hbo hct).mono ?_
    rintro e w' ⟨top, cs', fr', rfl, _, p, hh⟩
    obtain ⟨U, u1, u2⟩ := p.tree
    refine ⟨top, cs', fr', U, rfl, ⟨⟨u1, p.dp, .inr ?_⟩, u2, p.new.1, p.own, p.keep, by rw [costN, if_neg hsm]; exact p.noc, fun q => absurd q hsm, fun q => by rw [costN, if_neg hsm]; exact p.just q, fun _ => p.new.2, by rw [costN, if_neg hsm]; exact p.len⟩, hh⟩
    have h1 := p.own (top - 1)
    have h2 := p.new
    rw [if_pos (show top = top - 1 + 1 by omega)] at h1
    by_cases e : h = top - 1 + 1
    · exfalso
      have ho := r.own.resolve_left (by omega)
      rw [show h - 1 = top - 1 by omega] at ho
      unfold Go.Proofs.YtlhnodinhmdjnaaGreatDoor.own at ho
      omega
    · rw [if_neg e] at h1
      omega

theorem put_no_room {w0 w : World} {S : List Nat} {g gs room : Nat} {cs : List (Nat × Ce)} {fr : List Nat} (H : Hs w0 S w g gs room cs fr) {h : Nat} {T : Tre} (r : Rt cs h T) {K : List Int} {u : Value} {bs : List Int} (hu : Reads w u bs) (hl : bs.length ≤ 1024) (hf : room < noc cs + 258) :
    Calls Tryz.prog 26 #[.pointer (some ⟨g, 0, none⟩), .int .i64 (h : Int), .agg (B K), u] w fun e w' => e = .returned (.tuple #[.int .i64 0, .int .i64 9]) ∧ Below w.heap.size w w' := by
  obtain ⟨a, c, rfl, _⟩ := hu
  exact put_full H h K a _ c (r.refuse hl) hf

/-- The way's sides and how many. -/
theorem Rt.bes {cs : List (Nat × Ce)} {h : Nat} {T : Tre} (r : Rt cs h T) (W : Wf cs []) {K : List Int} (hK : Key K) : ∃ ss, BesIs K T h ss ∧ ss.length ≤ 256 := by
  obtain ⟨ss, b1, b2⟩ := bes_ex W K hK r.tree r.dp
  exact ⟨ss, b1, b2.len⟩
theorem Rt.dig {cs : List (Nat × Ce)} {h : Nat} {T : Tre} (r : Rt cs h T) (W : Wf cs []) : sdD cs h = rt 256 0 T.ents := (tree_ok W T h r.tree).dig 0 r.dp
theorem Rt.size {cs : List (Nat × Ce)} {h : Nat} {T : Tre} (r : Rt cs h T) (W : Wf cs []) : (sdC cs h).sz = T.ents.length := (tree_ok W T h r.tree).sz

/-- A store that New answered. -/
theorem hs_new (room : Nat) (w : World) (h1 : 1 ≤ room) (h2 : room ≤ 65536) : Calls Tryz.prog 25 #[.int .i64 (room : Int)] w fun e w' => ∃ g gs, e = .returned (.tuple #[.pointer (some ⟨g, 0, none⟩), .int .i64 0]) ∧ Hs w [] w' g gs room [] [] := by
  refine (newS_ok room w h1 h2).mono ?_
  rintro e w' ⟨g, gs, rfl, hg, hgs, s, b⟩
  refine ⟨g, gs, rfl, ⟨_, _, s, Mod.of_below b _, fun k hk => .inr ?_⟩, Wf.new⟩
  rcases stB_mem.1 hk with rfl | hk | ⟨i, hk⟩
  · exact hg
  · rcases slB_mem.1 hk with rfl | hk | hk
    · exact hgs
    · cases hk
    · cases hk
  · simp only [ce, List.getElem?_nil, Option.getD_none] at hk
    cases hk

/-- What stands in every world that has but grown stands where only new blocks turn. -/
theorem kq_nil {w : World} {P : World → Prop} (h : ∀ w', Below w.heap.size w w' → P w') : Kq [] w P := fun w' m => h w' m.below0
theorem Hs.low {w w' : World} {g gs room : Nat} {cs : List (Nat × Ce)} {fr : List Nat} (h : Hs w [] w' g gs room cs fr) : Below w.heap.size w w' := h.mod.below0

end Go.Proofs.YtlhnodinhmdjnaaGreatDoor

/- Versions in memory, beside their store. -/
namespace Go.Proofs.YtlhnodinhmdjnaaGreatDoor
set_option maxRecDepth 20000
open Go.RowKit

/-- A store at g in blocks new since w1, and blocks X, as new, that are not its own. -/
def Hz (w1 w : World) (X : List Nat) (g gs R : Nat) (cs : List (Nat × Ce)) (fr : List Nat) : Prop :=
  (∃ vp vf, Stm w g gs vp vf R cs fr ∧ ∀ k ∈ stB g gs vp vf cs, w1.heap.size ≤ k ∧ k ∉ X) ∧ Below w1.heap.size w1 w ∧ (∀ x ∈ X, w1.heap.size ≤ x ∧ x < w.heap.size) ∧ Wf cs []
/-- Of the blocks X only x may have turned. -/
def Kx (X : List Nat) (x : Nat) (w w' : World) : Prop := ∀ y ∈ X, y ≠ x → w'.heap[y]? = w.heap[y]?
theorem Kx.trans {X : List Nat} {x : Nat} {w w' w'' : World} (h : Kx X x w w') (k : Kx X x w' w'') : Kx X x w w'' := fun y hy hn => (k y hy hn).trans (h y hy hn)

section
variable {w1 w w' : World} {X : List Nat} {g gs R : Nat} {cs : List (Nat × Ce)} {fr : List Nat}
theorem Hz.low (h : Hz w1 w X g gs R cs fr) : Below w1.heap.size w1 w := h.2.1
theorem Hz.wf (h : Hz w1 w X g gs R cs fr) : Wf cs [] := h.2.2.2
theorem Hz.grow (h : Hz w1 w X g gs R cs fr) (hb : Below w.heap.size w w') : Hz w1 w' X g gs R cs fr := by
  obtain ⟨⟨vp, vf, s, n⟩, h1, h2, h3⟩ := h
  exact ⟨⟨vp, vf, s.grow hb, n⟩, grow_trans h1 hb, fun x hx => ⟨(h2 x hx).1, Nat.lt_of_lt_of_le (h2 x hx).2 hb.size⟩, h3⟩
theorem Hz.kx (h : Hz w1 w X g gs R cs fr) (hb : Below w.heap.size w w') (x : Nat) : Kx X x w w' := fun y hy _ => hb.block y (h.2.2.1 y hy).2
theorem Hz.hs (h : Hz w1 w X g gs R cs fr) : ∃ S, Hs w S w g gs R cs fr ∧ (∀ P : World → Prop, (∀ w', Below w1.heap.size w1 w' → P w') → Kq S w P) ∧ ∀ w' cs' fr', Hs w S w' g gs R cs' fr' → Hz w1 w' X g gs R cs' fr' ∧ ∀ x, Kx X x w w' := by
  obtain ⟨⟨vp, vf, s, n⟩, h1, h2, h4⟩ := h
  refine ⟨stB g gs vp vf cs, Hs.here s h4, fun P hP => Kq.of_low hP h1 (fun k hk => (n k hk).1), fun w' cs' fr' k => ?_⟩
  obtain ⟨⟨vp', vf', s', m', n'⟩, W'⟩ := k
  have hk : ∀ x, Kx X x w w' := fun _ y hy _ => m'.block y (h2 y hy).2 (fun e => (n y e).2 hy)
  refine ⟨⟨⟨vp', vf', s', fun q hq => ?_⟩, h1.trans (m'.below (fun q hq => (n q hq).1) h1.size), fun x hx => ⟨(h2 x hx).1, Nat.lt_of_lt_of_le (h2 x hx).2 m'.size⟩, W'⟩, hk⟩
  rcases n' q hq with e | e
  · exact n q e
  · exact ⟨Nat.le_trans h1.size e, fun hx => by have := (h2 q hx).2; omega⟩
/-- The same, with the blocks of it. -/
theorem Hz.off (h : Hz w1 w X g gs R cs fr) : ∃ S, Hs w S w g gs R cs fr ∧ (∀ P : World → Prop, (∀ w', Below w1.heap.size w1 w' → P w') → Kq S w P) ∧ (∀ x ∈ X, x ∉ S ∧ x < w.heap.size) ∧ ∀ w' cs' fr', Hs w S w' g gs R cs' fr' → Hz w1 w' X g gs R cs' fr' := by
  have hh := h
  obtain ⟨⟨vp, vf, s, n⟩, h1, h2, h4⟩ := h
  refine ⟨stB g gs vp vf cs, Hs.here s h4, fun P hP => Kq.of_low hP h1 (fun k hk => (n k hk).1), fun x hx => ⟨fun e => (n x e).2 hx, (h2 x hx).2⟩, fun w' cs' fr' k => ?_⟩
  obtain ⟨⟨vp', vf', s', m', n'⟩, W'⟩ := k
  refine ⟨⟨vp', vf', s', fun q hq => ?_⟩, h1.trans (m'.below (fun q hq => (n q hq).1) h1.size), fun x hx => ⟨(h2 x hx).1, Nat.lt_of_lt_of_le (h2 x hx).2 m'.size⟩, W'⟩
  rcases n' q hq with e | e
  · exact n q e
  · exact ⟨Nat.le_trans h1.size e, fun hx => by have := (h2 q hx).2; omega⟩
theorem Hz.turn {x : Nat} (h : Hz w1 w X g gs R cs fr) (hx : x ∈ X) (hg : w.grownBy w' (some x)) : Hz w1 w' X g gs R cs fr ∧ Kx X x w w' := by
  obtain ⟨⟨vp, vf, s, n⟩, h1, h2, h3⟩ := h
  have m : Mod [x] w w' := Mod.of_some hg (by simp)
  refine ⟨⟨⟨vp, vf, s.mod m (fun k hk e => (n k hk).2 (by rw [List.mem_singleton.1 e]; exact hx)), n⟩, h1.trans (m.below (fun k hk => by rw [List.mem_singleton.1 hk]; exact (h2 x hx).1) h1.size), fun y hy => ⟨(h2 y hy).1, Nat.lt_of_lt_of_le (h2 y hy).2 m.size⟩, h3⟩, fun y hy hn => ?_⟩
  exact m.block y (h2 y hy).2 (fun e => hn (List.mem_singleton.1 e))
theorem Hz.new (H : Hs w1 [] w g gs R cs fr) : Hz w1 w [] g gs R cs fr := by
  have hl := H.low
  obtain ⟨⟨vp, vf, s, m, n⟩, W⟩ := H
  refine ⟨⟨vp, vf, s, fun k hk => ?_⟩, hl, (fun x hx => nomatch hx), W⟩
  rcases n k hk with e | e
  · cases e
  · exact ⟨e, by simp⟩
theorem Hz.add {x : Nat} (h : Hz w1 w X g gs R cs fr) (hb : Below w.heap.size w w') (hx : w.heap.size ≤ x) (hlt : x < w'.heap.size) : Hz w1 w' (x :: X) g gs R cs fr := by
  obtain ⟨⟨vp, vf, s, n⟩, h1, h2, h3⟩ := h
  refine ⟨⟨vp, vf, s.grow hb, fun k hk => ⟨(n k hk).1, fun e => ?_⟩⟩, grow_trans h1 hb, fun y hy => ?_, h3⟩
  · have := s.lts k hk
    rcases List.mem_cons.1 e with e | e
    · omega
    · exact (n k hk).2 e
  · rcases List.mem_cons.1 hy with e | e
    · subst e
      exact ⟨Nat.le_trans h1.size hx, hlt⟩
    · exact ⟨(h2 y e).1, Nat.lt_of_lt_of_le (h2 y e).2 hb.size⟩
theorem Hz.vw (h : Hz w1 w X g gs R cs fr) : Vw w (.pointer (some ⟨g, 0, none⟩)) true (cot cs) (cat cs) := by
  obtain ⟨S, hs, _⟩ := h.hs
  exact hs.vw
end

theorem blk_at {w w' : World} {g : Nat} {t : TypeId} {cs : Array Value} (h : Blk w g t cs) (e : w'.heap[g]? = w.heap[g]?) : Blk w' g t cs := by
  unfold Blk at h ⊢
  rw [e]
  exact h
theorem vm_at {w w' : World} {b n : Nat} {ms : Nms} (h : VM w b n ms) (e : w'.heap[b]? = w.heap[b]?) : VM w' b n ms := by
  obtain ⟨D, ⟨es, clock, k1, k2⟩, h3⟩ := h
  exact ⟨D, ⟨es, clock, e.trans k1, k2⟩, h3⟩

/-- Versions at gv, their map at b, of the store at g. -/
structure Hv (w1 w : World) (X : List Nat) (gv b g gs R : Nat) (ms : Nms) (cs : List (Nat × Ce)) (fr : List Nat) : Prop where
  hz : Hz w1 w X g gs R cs fr
  gx : gv ∈ X
  bx : b ∈ X
  blk : Blk w gv 70 #[.pointer (some ⟨gv, 0, none⟩), .pointer (some ⟨g, 0, none⟩), .map (some b)]
  vm : VM w b ms.length ms

section
variable {w1 w w' : World} {X : List Nat} {gv b g gs R : Nat} {ms : Nms} {cs : List (Nat × Ce)} {fr : List Nat}
theorem Hv.low (h : Hv w1 w X gv b g gs R ms cs fr) : Below w1.heap.size w1 w := h.hz.low
theorem Hv.wf (h : Hv w1 w X gv b g gs R ms cs fr) : Wf cs [] := h.hz.wf
theorem Hv.grow (h : Hv w1 w X gv b g gs R ms cs fr) (hb : Below w.heap.size w w') : Hv w1 w' X gv b g gs R ms cs fr := ⟨h.hz.grow hb, h.gx, h.bx, h.blk.grow hb, h.vm.grow hb⟩
theorem Hv.ne (h : Hv w1 w X gv b g gs R ms cs fr) : gv ≠ b := (h.vm.notCells h.blk).symm
/-- A call of the store. -/
theorem Hv.hs (h : Hv w1 w X gv b g gs R ms cs fr) : ∃ S, Hs w S w g gs R cs fr ∧ (∀ P : World → Prop, (∀ w', Below w1.heap.size w1 w' → P w') → Kq S w P) ∧ ∀ w' cs' fr', Hs w S w' g gs R cs' fr' → Hv w1 w' X gv b g gs R ms cs' fr' ∧ ∀ x, Kx X x w w' := by
  obtain ⟨S, h1, h2, h3⟩ := h.hz.hs
  refine ⟨S, h1, h2, fun w' cs' fr' k => ?_⟩
  obtain ⟨k1, k2⟩ := h3 w' cs' fr' k
  exact ⟨⟨k1, h.gx, h.bx, blk_at h.blk (k2 b gv h.gx h.ne), vm_at h.vm (k2 gv b h.bx h.ne.symm)⟩, k2⟩
/-- The map has turned. -/
theorem Hv.turn (h : Hv w1 w X gv b g gs R ms cs fr) {n : Nat} {ms' : Nms} (hm : VM w' b n ms') (hg : w.grownBy w' (some b)) : Hv w1 w' X gv b g gs R ms' cs fr ∧ Kx X b w w' := by
  obtain ⟨k1, k2⟩ := h.hz.turn h.bx hg
  exact ⟨⟨k1, h.gx, h.bx, blk_at h.blk (k2 gv h.gx h.ne), hm.just⟩, k2⟩
theorem Hv.kx (h : Hv w1 w X gv b g gs R ms cs fr) (hb : Below w.heap.size w w') (x : Nat) : Kx X x w w' := h.hz.kx hb x
theorem Hv.c0 (h : Hv w1 w X gv b g gs R ms cs fr) : w.cell? ⟨gv, 0, none⟩ = some (.pointer (some ⟨gv, 0, none⟩)) := by rw [h.blk.cell]; rfl
theorem Hv.c1 (h : Hv w1 w X gv b g gs R ms cs fr) : w.cell? ⟨gv, 1, none⟩ = some (.pointer (some ⟨g, 0, none⟩)) := by rw [h.blk.cell]; rfl
theorem Hv.c2 (h : Hv w1 w X gv b g gs R ms cs fr) : w.cell? ⟨gv, 2, none⟩ = some (.map (some b)) := by rw [h.blk.cell]; rfl
end

end Go.Proofs.YtlhnodinhmdjnaaGreatDoor

/- maps.Keys, slices.Sorted and slices.Sort at texts: the contracts that the library bears, laid at this program (written by wip/layss.sh for one seat). -/
namespace Go.Proofs.YtlhnodinhmdjnaaGreatDoor
set_option maxRecDepth 20000
open Go.Shelf
def keysL_ren : Go.Shelf.Ren := ⟨fun | 7 => 73 | 10 => 105 | n => n, fun | 23 => 68 | 26 => 9 | 3 => 3 | 28 => 128 | 0 => 0 | 27 => 127 | 33 => 81 | 4 => 4 | n => n, fun | n => n⟩
theorem keysL : Go.Proofs.SlLaysZ.n7 Tryz.prog keysL_ren := {
  mixed := by kernel_rfl
  f7 := ⟨Tryz.f73.name, by decide, Tryz.func73.trans (congrArg some (by kernel_rfl))⟩
  f10 := ⟨Tryz.f105.name, by decide, Tryz.func105.trans (congrArg some (by kernel_rfl))⟩
  t0 := Tryz.underlying0
  a0 := Tryz.isAgg0
  z0 := Tryz.sizeOf0
  v0 := Tryz.zeroValue0
  t4 := Tryz.underlying4
  a4 := Tryz.isAgg4
  z4 := Tryz.sizeOf4
  v4 := Tryz.zeroValue4
  t23 := Tryz.underlying68
  a23 := Tryz.isAgg68
  z23 := Tryz.sizeOf68
  v23 := Tryz.zeroValue68
  t26 := Tryz.underlying9
  a26 := Tryz.isAgg9
  z26 := Tryz.sizeOf9
  v26 := Tryz.zeroValue9
  t27 := Tryz.underlying127
  a27 := Tryz.isAgg127
  z27 := Tryz.sizeOf127
  v27 := Tryz.zeroValue127
  t28 := Tryz.underlying128
  a28 := Tryz.isAgg128
  z28 := Tryz.sizeOf128
  v28 := Tryz.zeroValue128
  t33 := Tryz.underlying81
  a33 := Tryz.isAgg81
  z33 := Tryz.sizeOf81
  v33 := Tryz.zeroValue81 }
def sortedL_ren : Go.Shelf.Ren := ⟨fun | 6 => 72 | 8 => 103 | 9 => 104 | 11 => 133 | 13 => 135 | 12 => 134 | 23 => 159 | 24 => 160 | 14 => 150 | 15 => 151 | 16 => 152 | 17 => 153 | 18 => 154 | 19 => 155 | 20 => 156 | 21 => 157 | 22 => 158 | 25 => 173 | 26 => 174 | 27 => 175 | 28 => 176 | 29 => 177 | 30 => 178 | 31 => 189 | n => n, fun | 26 => 9 | 28 => 128 | 24 => 83 | 0 => 0 | 3 => 3 | 37 => 190 | 48 => 203 | 50 => 220 | 4 => 4 | 40 => 212 | 39 => 211 | 45 => 158 | 5 => 5 | 9 => 9 | 51 => 230 | 55 => 234 | 57 => 241 | 58 => 99 | 33 => 81 | n => n, fun | n => n⟩
theorem sortedL : Go.Proofs.SlLaysZ.n6 Tryz.prog sortedL_ren := {
  mixed := by kernel_rfl
  f6 := ⟨Tryz.f72.name, by decide, Tryz.func72.trans (congrArg some (by kernel_rfl))⟩
  f8 := ⟨Tryz.f103.name, by decide, Tryz.func103.trans (congrArg some (by kernel_rfl))⟩
  f11 := ⟨Tryz.f133.name, by decide, Tryz.func133.trans (congrArg some (by kernel_rfl))⟩
  t0 := Tryz.underlying0
  a0 := Tryz.isAgg0
  z0 := Tryz.sizeOf0
  v0 := Tryz.zeroValue0
  t24 := Tryz.underlying83
  a24 := Tryz.isAgg83
  z24 := Tryz.sizeOf83
  v24 := Tryz.zeroValue83
  t26 := Tryz.underlying9
  a26 := Tryz.isAgg9
  z26 := Tryz.sizeOf9
  v26 := Tryz.zeroValue9
  t28 := Tryz.underlying128
  a28 := Tryz.isAgg128
  z28 := Tryz.sizeOf128
  v28 := Tryz.zeroValue128
  i26 := by kernel_rfl }
def sortL_ren : Go.Shelf.Ren := ⟨fun | 6 => 104 | 8 => 135 | 9 => 134 | 19 => 159 | 20 => 160 | 21 => 150 | 22 => 151 | 23 => 152 | 24 => 153 | 25 => 154 | 26 => 155 | 27 => 156 | 28 => 157 | 29 => 158 | 36 => 173 | 31 => 174 | 32 => 175 | 37 => 176 | 38 => 177 | 39 => 178 | 41 => 189 | n => n, fun | 27 => 83 | 29 => 9 | 3 => 3 | 32 => 190 | 26 => 83 | 0 => 0 | 44 => 203 | 46 => 220 | 4 => 4 | 36 => 212 | 35 => 211 | 41 => 158 | 5 => 5 | 9 => 9 | 53 => 230 | 57 => 234 | 63 => 241 | 64 => 99 | n => n, fun | n => n⟩
theorem sortL : Go.Proofs.SlLaysM.n6 Tryz.prog sortL_ren := {
  mixed := by kernel_rfl
  f6 := ⟨Tryz.f104.name, by decide, Tryz.func104.trans (congrArg some (by kernel_rfl))⟩
  f8 := Tryz.func135.trans (congrArg some (by kernel_rfl))
  f9 := ⟨Tryz.f134.name, by decide, Tryz.func134.trans (congrArg some (by kernel_rfl))⟩
  f19 := Tryz.func159.trans (congrArg some (by kernel_rfl))
  f20 := Tryz.func160.trans (congrArg some (by kernel_rfl))
  f21 := ⟨Tryz.f150.name, by decide, Tryz.func150.trans (congrArg some (by kernel_rfl))⟩
  f22 := ⟨Tryz.f151.name, by decide, Tryz.func151.trans (congrArg some (by kernel_rfl))⟩
  f23 := ⟨Tryz.f152.name, by decide, Tryz.func152.trans (congrArg some (by kernel_rfl))⟩
  f24 := ⟨Tryz.f153.name, by decide, Tryz.func153.trans (congrArg some (by kernel_rfl))⟩
  f25 := ⟨Tryz.f154.name, by decide, Tryz.func154.trans (congrArg some (by kernel_rfl))⟩
  f26 := ⟨Tryz.f155.name, by decide, Tryz.func155.trans (congrArg some (by kernel_rfl))⟩
  f27 := ⟨Tryz.f156.name, by decide, Tryz.func156.trans (congrArg some (by kernel_rfl))⟩
  f28 := ⟨Tryz.f157.name, by decide, Tryz.func157.trans (congrArg some (by kernel_rfl))⟩
  f29 := ⟨Tryz.f158.name, by decide, Tryz.func158.trans (congrArg some (by kernel_rfl))⟩
  f31 := Tryz.func174.trans (congrArg some (by kernel_rfl))
  f32 := Tryz.func175.trans (congrArg some (by kernel_rfl))
  f36 := ⟨Tryz.f173.name, by decide, Tryz.func173.trans (congrArg some (by kernel_rfl))⟩
  f37 := ⟨Tryz.f176.name, by decide, Tryz.func176.trans (congrArg some (by kernel_rfl))⟩
  f38 := ⟨Tryz.f177.name, by decide, Tryz.func177.trans (congrArg some (by kernel_rfl))⟩
  f39 := ⟨Tryz.f178.name, by decide, Tryz.func178.trans (congrArg some (by kernel_rfl))⟩
  f41 := ⟨Tryz.f189.name, by decide, Tryz.func189.trans (congrArg some (by kernel_rfl))⟩
  t0 := Tryz.underlying0
  a0 := Tryz.isAgg0
  z0 := Tryz.sizeOf0
  v0 := Tryz.zeroValue0
  t3 := Tryz.underlying3
  a3 := Tryz.isAgg3
  z3 := Tryz.sizeOf3
  v3 := Tryz.zeroValue3
  t4 := Tryz.underlying4
  a4 := Tryz.isAgg4
  z4 := Tryz.sizeOf4
  v4 := Tryz.zeroValue4
  t5 := Tryz.underlying5
  a5 := Tryz.isAgg5
  z5 := Tryz.sizeOf5
  v5 := Tryz.zeroValue5
  t9 := Tryz.underlying9
  a9 := Tryz.isAgg9
  z9 := Tryz.sizeOf9
  v9 := Tryz.zeroValue9
  t26 := Tryz.underlying83
  a26 := Tryz.isAgg83
  z26 := Tryz.sizeOf83
  v26 := Tryz.zeroValue83
  t27 := Tryz.underlying83
  a27 := Tryz.isAgg83
  z27 := Tryz.sizeOf83
  v27 := Tryz.zeroValue83
  t29 := Tryz.underlying9
  a29 := Tryz.isAgg9
  z29 := Tryz.sizeOf9
  v29 := Tryz.zeroValue9
  t32 := Tryz.underlying190
  a32 := Tryz.isAgg190
  z32 := Tryz.sizeOf190
  v32 := Tryz.zeroValue190
  t35 := Tryz.underlying211
  a35 := Tryz.isAgg211
  z35 := Tryz.sizeOf211
  v35 := Tryz.zeroValue211
  t36 := Tryz.underlying212
  a36 := Tryz.isAgg212
  z36 := Tryz.sizeOf212
  v36 := Tryz.zeroValue212
  t41 := Tryz.underlying158
  a41 := Tryz.isAgg158
  z41 := Tryz.sizeOf158
  v41 := Tryz.zeroValue158
  t44 := Tryz.underlying203
  a44 := Tryz.isAgg203
  z44 := Tryz.sizeOf203
  v44 := Tryz.zeroValue203
  t46 := Tryz.underlying220
  a46 := Tryz.isAgg220
  z46 := Tryz.sizeOf220
  v46 := Tryz.zeroValue220
  t53 := Tryz.underlying230
  a53 := Tryz.isAgg230
  z53 := Tryz.sizeOf230
  v53 := Tryz.zeroValue230
  t57 := Tryz.underlying234
  a57 := Tryz.isAgg234
  z57 := Tryz.sizeOf234
  v57 := Tryz.zeroValue234
  t63 := Tryz.underlying241
  a63 := Tryz.isAgg241
  z63 := Tryz.sizeOf241
  v63 := Tryz.zeroValue241
  t64 := Tryz.underlying99
  a64 := Tryz.isAgg99
  z64 := Tryz.sizeOf99
  v64 := Tryz.zeroValue99 }

end Go.Proofs.YtlhnodinhmdjnaaGreatDoor
