/- A root at hand, and what Put and Cost make of it: what the laws ask. -/
import Derived.Test.YtlhnodinhmdjnaaGreatDoorLr01
import Derived.Test.YtlhnodinhmdjnaaGreatDoorLr36
import Derived.Test.YtlhnodinhmdjnaaGreatDoorLr22
import Derived.Test.YtlhnodinhmdjnaaGreatDoorLr33
namespace Go.Proofs.YtlhnodinhmdjnaaGreatDoor
set_option maxRecDepth 20000
open Go.RowKit

theorem con_le (i : Nat) (p : Nat × Ce) : con i p ≤ 2 := by
  unfold con
  split
  · split <;> split <;> omega
  · omega
theorem ns_le (cs : List (Nat × Ce)) (i : Nat) : ns cs i ≤ 2 * cs.length := by
  induction cs with
  | nil => simp [ns]
  | cons p r ih =>
    have h := con_le i p
    simp only [ns, List.map_cons, List.sum_cons, List.length_cons] at ih ⊢
    omega
theorem Wf.ccLe {cs : List (Nat × Ce)} (W : Wf cs []) (i b : Nat) (h : Go.Proofs.YtlhnodinhmdjnaaGreatDoor.own cs [] i ≤ b) : cc cs i ≤ 2 * cs.length + b := by
  have h1 := W.own i
  have h2 := W.ab i
  have h3 := ns_le cs i
  rw [List.count_nil] at h1
  omega

structure Rt (cs : List (Nat × Ce)) (h : Nat) (T : Tre) : Prop where
  tree : IsT cs h T
  dp : (sdC cs h).kind = 2 → (sdC cs h).dp = 0
  own : h = 0 ∨ 0 < own cs [] (h - 1)

theorem Rt.root {cs : List (Nat × Ce)} {h : Nat} {T : Tre} (r : Rt cs h T) : vRt true (cot cs h) (cat cs h) h = 0 := by
  unfold vRt
  rw [if_pos rfl]
  by_cases h0 : (h : Int) = 0
  · rw [if_pos h0]
  · rw [if_neg h0]
    rcases r.tree.occ with e | ⟨e1, e2⟩
    · exact absurd (by omega) h0
    · have hc : cot cs (h : Int) = cc cs (h - 1) := by rw [cot, if_pos (by omega), show ((h : Int) - 1).toNat = h - 1 by omega]
      rw [hc, if_neg (by omega)]
      have hd := r.dp
      rw [← cat_nat] at hd
      unfold vDp
      rw [if_pos rfl]
      by_cases k : (cat cs (h : Int)).kind = 2
      · rw [if_pos k, hd k]
        rfl
      · rw [if_neg k]
        rfl
theorem Rt.refuse {cs : List (Nat × Ce)} {h : Nat} {T : Tre} (r : Rt cs h T) {n : Nat} (hn : n ≤ 1024) : vRf true (cot cs h) (cat cs h) h n = 0 := by
  unfold vRf
  rw [if_pos rfl, if_neg (by omega)]
  unfold vAh
  rw [if_pos r.root, if_neg]
  rintro ⟨h0, q⟩
  have h1 : h ≠ 0 := fun e => h0 (by omega)
  have ho := r.own.resolve_left h1
  have hc : cot cs (h : Int) = cc cs (h - 1) := by rw [cot, if_pos (by omega), show ((h : Int) - 1).toNat = h - 1 by omega]
  rw [hc, cat_nat, sdC, if_neg h1] at q
  unfold Go.Proofs.YtlhnodinhmdjnaaGreatDoor.own at ho
  rw [List.count_nil] at ho
  omega
theorem Rt.zero (cs : List (Nat × Ce)) : Rt cs 0 .emp := ⟨rfl, fun k => absurd k (by show ¬ zc.kind = 2; decide), .inl rfl⟩

def upE (E : List Ent) (K bs : List Int) : List Ent := (K, bs) :: E.filter fun e => !(e.1 == K)

theorem up_same : ∀ (l : List Ent) (K bs : List Int), (l.Pairwise fun a b => a.1 ≠ b.1) → (K, bs) ∈ l → l.Perm (upE l K bs)
  | [], _, _, _, h => by cases h
  | e :: r, K, bs, hp, hm => by
    obtain ⟨h1, h2⟩ := List.pairwise_cons.1 hp
    unfold upE
    rcases List.mem_cons.1 hm with q | q
    · subst q
      have hr : r.filter (fun e : Ent => !(e.1 == K)) = r := List.filter_eq_self.2 (fun x hx => by
        have := h1 x hx
        simp only [Bool.not_eq_true', beq_eq_false_iff_ne, ne_eq]
        exact fun e => this e.symm)
      rw [List.filter_cons, if_neg (by simp), hr]
    · have hne : e.1 ≠ K := h1 _ q
      rw [List.filter_cons, if_pos (by simpa using hne)]
      exact (List.Perm.cons e (up_same r K bs h2 q)).trans (List.Perm.swap _ _ _)

def costN (T : Tre) (K bs : List Int) (ss : List Nat) : Nat := if T.efin K = [(K, bs)] then 0 else 1 + ss.length

structure PaIs (cs : List (Nat × Ce)) (fr : List Nat) (T : Tre) (h : Nat) (K bs : List Int) (ss : List Nat) (top : Nat) (cs' : List (Nat × Ce)) (fr' : List Nat) (T' : Tre) : Prop where
  rt : Rt cs' top T'
  ents : T'.ents.Perm (upE T.ents K bs)
  pos : 1 ≤ top
  own : ∀ i, own cs' [] i + (if h = i + 1 then 1 else 0) = own cs [] i + (if top = i + 1 then 1 else 0)
  keep : ∀ x X, IsT cs x X → (x = 0 ∨ 0 < cc cs' (x - 1)) → IsT cs' x X
  noc : noc cs' ≤ noc cs + costN T K bs ss
  same : T.efin K = [(K, bs)] → top = h ∧ cs' = cs ∧ fr' = fr
  just : h = 0 ∨ h ∈ ss → Go.Proofs.YtlhnodinhmdjnaaGreatDoor.noc cs' = Go.Proofs.YtlhnodinhmdjnaaGreatDoor.noc cs + costN T K bs ss
  new : T.efin K ≠ [(K, bs)] → cc cs (top - 1) = 0
  len : cs'.length ≤ cs.length + costN T K bs ss

def PaPost (w0 : World) (S : List Nat) (g gs room : Nat) (cs : List (Nat × Ce)) (fr : List Nat) (T : Tre) (h : Nat) (K bs : List Int) (ss : List Nat) (e : Ending) (w' : World) : Prop :=
  ∃ (top : Nat) (cs' : List (Nat × Ce)) (fr' : List Nat) (T' : Tre), e = .returned (.tuple #[.int .i64 (top : Int), .int .i64 0]) ∧ PaIs cs fr T h K bs ss top cs' fr' T' ∧ Hs w0 S w' g gs room cs' fr'

theorem efin_some {cs : List (Nat × Ce)} {T : Tre} {h : Nat} (hT : IsT cs h T) {K bs : List Int} (hs : T.efin K = [(K, bs)]) : h ≠ 0 := fun e => by
  subst e
  cases T with
  | emp => simp [Tre.efin] at hs
  | lf _ _ => have := hT.1; omega
  | nd _ _ _ _ _ => have := hT.1; omega

theorem put_any {w0 w : World} {S : List Nat} {g gs room : Nat} {cs : List (Nat × Ce)} {fr : List Nat} (H : Hs w0 S w g gs room cs fr) {h : Nat} {T : Tre} (r : Rt cs h T) {K : List Int} (hK : Key K) {u : Value} {bs : List Int} (hu : Kq S w0 (fun w' => Reads w' u bs)) (hL : Kq S w0 Laid) (hl : bs.length ≤ 1024) (hb : ∀ i, own cs [] i ≤ 1000000) (hf : noc cs + 258 ≤ room) {ss : List Nat} (hss : BesIs K T h ss) :
    Calls Tryz.prog 26 #[.pointer (some ⟨g, 0, none⟩), .int .i64 (h : Int), .agg (B K), u] w (PaPost w0 S g gs room cs fr T h K bs ss) := by
  by_cases hsm : T.efin K = [(K, bs)]
  · have h0 := efin_some r.tree hsm
    refine (put_same H h T r.tree K hK u bs (H.kq hu) (r.refuse hl) r.root hf hsm).mono ?_
    rintro e w' ⟨rfl, b⟩
    have hp := up_same T.ents K bs (tree_ok H.2 T h r.tree).apart (efin_mem K T _ (by rw [hsm]; simp))
    exact ⟨h, cs, fr, T, rfl, ⟨r, hp, by omega, fun _ => rfl, fun x X hX _ => hX, Nat.le_add_right _ _, fun _ => ⟨rfl, rfl, rfl⟩, fun _ => by simp [costN, hsm], fun q => absurd hsm q, Nat.le_add_right _ _⟩, H.grow b⟩
  · have hbo : BesOk cs T.ents K ss := by
      obtain ⟨ss2, b1, b2⟩ := bes_ex H.2 K hK r.tree r.dp
      have : ss = ss2 := by
        rcases hss with ⟨e1, e2⟩ | ⟨b, e1, e2⟩ | ⟨k, b, c, e1, e2, e3, e4, e5, e6⟩ <;> rcases b1 with ⟨f1, f2⟩ | ⟨b', f1, f2⟩ | ⟨k', b', c', f1, f2, f3, f4, f5, f6⟩
        · rw [e2, f2]
        · rw [e2, f2]
        · rw [e1] at f1; cases f1
        · rw [e2, f2]
        · rw [e2, f2]
        · rw [e1] at f1
          injection f1 with f1 _
          injection f1 with f1 _
          exact absurd f1.symm f2
        · rw [e1] at f1; cases f1
        · rw [e1] at f1
          injection f1 with f1 _
          injection f1 with f1 _
          exact absurd f1 e2
        · rw [e1] at f1
          injection f1 with f1 _
          injection f1 with f1 _
          subst f1
          rw [e6, f6, e3.one f3]
      rw [this]
      exact b2
    obtain ⟨_, hr1, hr2⟩ := H.sizes
    have hct : ∀ i, cc cs i + 257 < 1073741824 := fun i => by
      have := H.2.ccLe i 1000000 (hb i)
      omega
    refine (put_new H h T r.tree K hK u bs hu hL (r.refuse hl) hl r.root r.own hf hsm ss hss hbo hct).mono ?_
    rintro e w' ⟨top, cs', fr', rfl, _, p, hh⟩
    obtain ⟨U, u1, u2⟩ := p.tree
    refine ⟨top, cs', fr', U, rfl, ⟨⟨u1, p.dp, .inr ?_⟩, u2, p.new.1, p.own, p.keep, by rw [costN, if_neg hsm]; exact p.noc, fun q => absurd q hsm, fun q => by rw [costN, if_neg hsm]; exact p.just q, fun _ => p.new.2, by rw [costN, if_neg hsm]; exact p.len⟩, hh⟩
    have h1 := p.own (top - 1)
    have h2 := p.new
    rw [if_pos (show top = top - 1 + 1 by omega)] at h1
    by_cases e : h = top - 1 + 1
    · exfalso
      have ho := r.own.resolve_left (by omega)
      rw [show h - 1 = top - 1 by omega] at ho
      unfold Go.Proofs.YtlhnodinhmdjnaaGreatDoor.own at ho
      omega
    · rw [if_neg e] at h1
      omega

theorem hs_new (room : Nat) (w : World) (h1 : 1 ≤ room) (h2 : room ≤ 65536) : Calls Tryz.prog 25 #[.int .i64 (room : Int)] w fun e w' => ∃ g gs, e = .returned (.tuple #[.pointer (some ⟨g, 0, none⟩), .int .i64 0]) ∧ Hs w [] w' g gs room [] [] := by
  refine (newS_ok room w h1 h2).mono ?_
  rintro e w' ⟨g, gs, rfl, hg, hgs, s, b⟩
  refine ⟨g, gs, rfl, ⟨_, _, s, Mod.of_below b _, fun k hk => .inr ?_⟩, Wf.new⟩
  rcases stB_mem.1 hk with rfl | hk | ⟨i, hk⟩
  · exact hg
  · rcases slB_mem.1 hk with rfl | hk | hk
    · exact hgs
    · cases hk
    · cases hk
  · simp only [ce, List.getElem?_nil, Option.getD_none] at hk
    cases hk

theorem kq_nil {w : World} {P : World → Prop} (h : ∀ w', Below w.heap.size w w' → P w') : Kq [] w P := fun w' m => h w' m.below0
theorem Hs.low {w w' : World} {g gs room : Nat} {cs : List (Nat × Ce)} {fr : List Nat} (h : Hs w [] w' g gs room cs fr) : Below w.heap.size w w' := h.mod.below0

end Go.Proofs.YtlhnodinhmdjnaaGreatDoor

namespace Go.Proofs.YtlhnodinhmdjnaaGreatDoor
set_option maxRecDepth 20000
open Go Go.RowKit

section
variable {P : Program} {ops : Array Oper} {Q : Exit → Act → World → Prop} {md : Region.Mode} {S : World → Prop} {Ws : List Nat}

def wrote (Ws : List Nat) (listed : Array Bool) : Bool := Ws.any fun L => listed.getD L false
theorem wrote_set {listed : Array Bool} {i : Nat} (h : Ws.contains i = false) : wrote Ws (listed.setIfInBounds i true) = wrote Ws listed := by
  unfold wrote
  apply Bool.eq_iff_iff.2
  simp only [List.any_eq_true]
  have hne : ∀ L ∈ Ws, i ≠ L := fun L hL e => by
    subst e
    simp at h
    exact h hL
  constructor
  · rintro ⟨L, h1, h2⟩
    exact ⟨L, h1, by rwa [getD_set_ne false (hne L h1)] at h2⟩
  · rintro ⟨L, h1, h2⟩
    exact ⟨L, h1, by rwa [getD_set_ne false (hne L h1)]⟩
theorem wrote_not {listed : Array Bool} {i n : Nat} (hs : ShutL md ops listed) (hi : listed.getD i false = false) (hld : (Ws.all fun L => leads md ops i n L) = true) : wrote Ws listed = false := by
  unfold wrote
  rw [Bool.eq_false_iff]
  intro h
  obtain ⟨L, h1, h2⟩ := List.any_eq_true.1 h
  have h3 := List.all_eq_true.1 hld L h1
  cases ho : ops[L]? with
  | none =>
    cases n with
    | zero => simp [leads] at h3
    | succ n => unfold leads at h3; rw [ho] at h3; cases h3
  | some o => exact leads_on hs hi n L h3 o ho (hs L o ho h2)

def wpAnyW (P : Program) (md : Region.Mode) (ops : Array Oper) (Q : Exit → Act → World → Prop) (S : World → Prop) (Ws : List Nat) : Nat → Array Bool → Act → World → Prop
  | 0, listed, a, w => Region.ready md ops listed = [] ∧ Q .normal a w
  | fuel + 1, listed, a, w =>
    (Region.ready md ops listed = [] → Q .normal a w) ∧
    ∀ i ∈ Region.ready md ops listed, wpOp P ops Q i (fun a' w' => (wrote Ws (listed.setIfInBounds i true) = true ∨ S w') ∧ wpAnyW P md ops Q S Ws fuel (listed.setIfInBounds i true) a' w') a w

theorem wpAny_of_wrote : ∀ (fuel : Nat) (listed : Array Bool) (a : Act) (w : World), wpAnyW P md ops Q S Ws fuel listed a w → wpAny P md ops Q fuel listed a w
  | 0, _, _, _, h => h
  | fuel + 1, _, _, _, h => ⟨h.1, fun i hi => wpOp_mono (fun a' w' h' => wpAny_of_wrote fuel _ a' w' h'.2) (h.2 i hi)⟩

theorem unlisted {listed : Array Bool} {i : Nat} (hr : i ∈ Region.ready md ops listed) : listed.getD i false = false := by
  have h0 := (mem_ready.1 hr).1
  rcases Nat.lt_or_ge i listed.size with h' | h'
  · simpa [h'] using h0
  · simp [Array.getElem?_eq_none h']

theorem wpAnyW_first {i n : Nat} {oi : Oper} {v : Value} (hi : ops[i]? = some oi) (hsel : ∀ (j : Nat) (o : Oper) cs b, ops[j]? = some o → o.op ≠ .select cs b)
    (hQ : ∀ c a w, Q (.panic c) (a.put oi.dst v) w → Q (.panic c) a w) (hld : (Ws.all fun L => leads md ops i n L) = true) (hiw : Ws.contains i = false) :
    ∀ (fuel : Nat) (listed : Array Bool) (a : Act) (w : World), ShutL md ops listed →
      (∀ j oj, ops[j]? = some oj → j ≠ i → listed.getD j true = false → (∀ e ∈ oj.after, Region.binds md e = true → e.on ≠ i) → oi.apart ops oj = true) →
      i ∈ Region.ready md ops listed → YieldsIf P ops S oi v a → S w →
      wpAnyW P md ops Q S Ws fuel (listed.setIfInBounds i true) (a.put oi.dst v) w → wpAnyW P md ops Q S Ws (fuel + 1) listed a w := by
  intro fuel
  induction fuel with
  | zero =>
    intro listed a w _ _ hr hy hS H
    refine ⟨fun h => (by rw [h] at hr; cases hr), fun j hj => ?_⟩
    by_cases hji : j = i
    · subst hji; exact hy.wpOp hi hS ⟨.inr hS, H⟩
    · have := ready_mono hj hji
      rw [H.1] at this
      cases this
  | succ fuel ih =>
    intro listed a w hsh hfree hr hy hS H
    refine ⟨fun h => (by rw [h] at hr; cases hr), fun j hj => ?_⟩
    by_cases hji : j = i
    · subst hji; exact hy.wpOp hi hS ⟨.inr hS, H⟩
    · have h1 := H.2 j (ready_mono hj hji)
      obtain ⟨hjun, oj, hoj, hall⟩ := mem_ready.1 hj
      have hi0 := unlisted hr
      have hnw : wrote Ws ((listed.setIfInBounds i true).setIfInBounds j true) = false := by
        rw [Array.setIfInBounds_comm _ _ (Ne.symm hji), wrote_set hiw]
        refine wrote_not (hsh.step hj) ?_ hld
        rw [getD_set_ne false hji]
        exact hi0
      have hnot : ∀ e ∈ oj.after, Region.binds md e = true → e.on ≠ i := fun e he hb heq => by
        have h1 := hall e he hb
        rw [heq, hi0] at h1
        cases h1
      have h2 := wpOp_putIf hoj (hfree j oj hoj hji hjun hnot) (fun cs b => hsel i oi cs b hi) (fun cs b => hsel j oj cs b hoj) hQ hy h1
      have hfree' : ∀ k ok, ops[k]? = some ok → k ≠ i → (listed.setIfInBounds j true).getD k true = false →
          (∀ e ∈ ok.after, Region.binds md e = true → e.on ≠ i) → oi.apart ops ok = true := fun k ok hk hki hun hno => by
        refine hfree k ok hk hki ?_ hno
        by_cases hjk : j = k
        · subst hjk; exact hjun
        · rw [getD_set_ne true hjk] at hun; exact hun
      refine wpOp_mono (fun a' w' h3 => ?_) h2
      have hS' : S w' := h3.2.1.resolve_left (by rw [hnw]; simp)
      refine ⟨.inr hS', ih (listed.setIfInBounds j true) a' w' (hsh.step hj) hfree' (ready_mono hr (Ne.symm hji)) h3.1 hS' ?_⟩
      rw [Array.setIfInBounds_comm _ _ hji]
      exact h3.2.2

theorem wpAnyW_pure {i : Nat} {oi : Oper} {v : Value} (hi : ops[i]? = some oi) (hsel : ∀ (j : Nat) (o : Oper) cs b, ops[j]? = some o → o.op ≠ .select cs b)
    (hQ : ∀ c a w, Q (.panic c) (a.put oi.dst v) w → Q (.panic c) a w) (hiw : Ws.contains i = false) :
    ∀ (fuel : Nat) (listed : Array Bool) (a : Act) (w : World),
      (∀ j oj, ops[j]? = some oj → j ≠ i → listed.getD j true = false → (∀ e ∈ oj.after, Region.binds md e = true → e.on ≠ i) → oi.apart ops oj = true) →
      i ∈ Region.ready md ops listed → YieldsIf P ops (fun _ => True) oi v a → (wrote Ws listed = true ∨ S w) →
      wpAnyW P md ops Q S Ws fuel (listed.setIfInBounds i true) (a.put oi.dst v) w → wpAnyW P md ops Q S Ws (fuel + 1) listed a w := by
  intro fuel
  induction fuel with
  | zero =>
    intro listed a w _ hr hy hS H
    refine ⟨fun h => (by rw [h] at hr; cases hr), fun j hj => ?_⟩
    by_cases hji : j = i
    · subst hji; exact hy.wpOp hi trivial ⟨by rw [wrote_set hiw]; exact hS, H⟩
    · have := ready_mono hj hji
      rw [H.1] at this
      cases this
  | succ fuel ih =>
    intro listed a w hfree hr hy hS H
    refine ⟨fun h => (by rw [h] at hr; cases hr), fun j hj => ?_⟩
    by_cases hji : j = i
    · subst hji; exact hy.wpOp hi trivial ⟨by rw [wrote_set hiw]; exact hS, H⟩
    · have h1 := H.2 j (ready_mono hj hji)
      obtain ⟨hjun, oj, hoj, hall⟩ := mem_ready.1 hj
      have hi0 := unlisted hr
      have hnot : ∀ e ∈ oj.after, Region.binds md e = true → e.on ≠ i := fun e he hb heq => by
        have h1 := hall e he hb
        rw [heq, hi0] at h1
        cases h1
      have h2 := wpOp_putIf hoj (hfree j oj hoj hji hjun hnot) (fun cs b => hsel i oi cs b hi) (fun cs b => hsel j oj cs b hoj) hQ hy h1
      have hfree' : ∀ k ok, ops[k]? = some ok → k ≠ i → (listed.setIfInBounds j true).getD k true = false →
          (∀ e ∈ ok.after, Region.binds md e = true → e.on ≠ i) → oi.apart ops ok = true := fun k ok hk hki hun hno => by
        refine hfree k ok hk hki ?_ hno
        by_cases hjk : j = k
        · subst hjk; exact hjun
        · rw [getD_set_ne true hjk] at hun; exact hun
      refine wpOp_mono (fun a' w' h3 => ?_) h2
      have hS' : wrote Ws (listed.setIfInBounds j true) = true ∨ S w' := by
        have := h3.2.1
        rwa [Array.setIfInBounds_comm _ _ (Ne.symm hji), wrote_set hiw] at this
      refine ⟨hS', ih (listed.setIfInBounds j true) a' w' hfree' (ready_mono hr (Ne.symm hji)) h3.1 hS' ?_⟩
      rw [Array.setIfInBounds_comm _ _ hji]
      exact h3.2.2

theorem wpAnyW_take {i : Nat} {oi : Oper} {v : Value} {fuel : Nat} {listed : Array Bool} {a : Act} {w : World} (hi : ops[i]? = some oi)
    (hs : Region.noSelect ops = true) (hf : Region.free md ops listed i = true) (hr : (Region.ready md ops listed).contains i = true) (hld : (Ws.all fun L => leads md ops i 40 L) = true) (hiw : Ws.contains i = false) (hsh : shutB md ops listed = true)
    (hQ : ∀ c a w, Q (.panic c) (a.put oi.dst v) w → Q (.panic c) a w) (hy : YieldsIf P ops S oi v a) (hS : S w)
    (h : wpAnyW P md ops Q S Ws fuel (listed.setIfInBounds i true) (a.put oi.dst v) w) : wpAnyW P md ops Q S Ws (fuel + 1) listed a w :=
  wpAnyW_first hi (Region.noSelect_spec hs) hQ hld hiw fuel listed a w (shutL_of hsh) (Region.free_spec hi hf) (by simpa using hr) hy hS h
theorem wpAnyW_take0 {i : Nat} {oi : Oper} {v : Value} {fuel : Nat} {listed : Array Bool} {a : Act} {w : World} (hi : ops[i]? = some oi)
    (hs : Region.noSelect ops = true) (hf : Region.free md ops listed i = true) (hr : (Region.ready md ops listed).contains i = true) (hiw : Ws.contains i = false)
    (hQ : ∀ c a w, Q (.panic c) (a.put oi.dst v) w → Q (.panic c) a w) (hy : YieldsIf P ops (fun _ => True) oi v a) (hS : wrote Ws listed = true ∨ S w)
    (h : wpAnyW P md ops Q S Ws fuel (listed.setIfInBounds i true) (a.put oi.dst v) w) : wpAnyW P md ops Q S Ws (fuel + 1) listed a w :=
  wpAnyW_pure hi (Region.noSelect_spec hs) hQ hiw fuel listed a w (Region.free_spec hi hf) (by simpa using hr) hy hS h

theorem wpAnyW_one {fuel : Nat} {listed : Array Bool} {a : Act} {w : World} {i : Nat} {o : Oper} (ho : ops[i]? = some o) (hr : Region.ready md ops listed = [i]) (hw : wrote Ws (listed.setIfInBounds i true) = true)
    (h : ∀ K' : Act → World → Prop, Shut (∀ a w, wpAnyW P md ops Q S Ws fuel (listed.setIfInBounds i true) a w → K' a w) → if Region.wanted o (yielded ops a.tmps) = true then Oper.wp P o a w K' Q else K' (a.put o.dst undef) w) :
    wpAnyW P md ops Q S Ws (fuel + 1) listed a w := by
  refine ⟨fun h0 => ?_, fun j hj => ?_⟩
  · rw [hr] at h0
    cases h0
  · rw [hr] at hj
    obtain rfl : j = i := by simpa using hj
    exact wpOp_step ho (fun K' hK => h K' (fun a w hW => hK a w ⟨.inl hw, hW⟩))

theorem wpAnyW_done {fuel : Nat} {listed : Array Bool} {a : Act} {w : World} (he : Region.ready md ops listed = []) (h : Q .normal a w) : wpAnyW P md ops Q S Ws fuel listed a w := by
  cases fuel with
  | zero => exact ⟨he, h⟩
  | succ n => exact ⟨fun _ => h, by rw [he]; simp⟩

theorem wp_region_wrote {id : Nat} {a : Act} {w : World} (Ws : List Nat) (hm : P.follows .mixedOrders = true) (hS : S w.drew)
    (h : S w.drew → wpAnyW P .any ops Q S Ws ops.size (Array.replicate ops.size false) a w.drew) : (Code.region id ops true).wp P Q a w :=
  wp_region_any hm (wpAny_of_wrote _ _ _ _ (h hS))

end
end Go.Proofs.YtlhnodinhmdjnaaGreatDoor

namespace Go.Proofs.YtlhnodinhmdjnaaGreatDoor
set_option maxRecDepth 20000
open Go.RowKit

structure FlI (cs : List (Nat × Ce)) (k root : Nat) (T : Tre) (l : List Ent) : Prop where
  rt : Rt cs root T
  ents : T.ents.Perm l
  own : ∀ i, own cs [] i ≤ k
  noc : noc cs ≤ 257 * k

theorem fl_step {cs cs' : List (Nat × Ce)} {fr fr' : List Nat} {k root top : Nat} {T T' : Tre} {l : List Ent} {K bs : List Int} {ss : List Nat} (f : FlI cs k root T l) (p : PaIs cs fr T root K bs ss top cs' fr' T') (hs : ss.length ≤ 256) (hn : ∀ e ∈ l, e.1 ≠ K) : FlI cs' (k + 1) top T' (l ++ [(K, bs)]) := by
  have hc : costN T K bs ss ≤ 257 := by
    unfold costN
    split <;> omega
  refine ⟨p.rt, ?_, fun i => ?_, by have := p.noc; have := f.noc; omega⟩
  · refine p.ents.trans ?_
    have h1 : T.ents.filter (fun e => !(e.1 == K)) = T.ents := List.filter_eq_self.2 (fun e he => by
      have := hn e (f.ents.mem_iff.1 he)
      simpa using this)
    unfold upE
    rw [h1]
    exact ((f.ents.cons _).trans (List.perm_append_singleton _ _).symm)
  · have h1 := p.own i
    have h2 := f.own i
    split at h1 <;> split at h1 <;> omega

set_option maxRecDepth 100000 in
set_option maxHeartbeats 4000000 in
theorem filled_any {w : World} {a : Option Addr} {c : Nat} {V : Nat → Value} {es : List Ent} (hP : PrAt w (.slice a es.length c) V es) (h16 : es.length ≤ 16) (hap : es.Pairwise fun x y => x.1 ≠ y.1) (hbs : ∀ e ∈ es, e.2.length ≤ 1024) (hL : Laid w) :
    Calls Tryz.prog 19 #[.slice a es.length c] w fun e w' => ∃ g gs cs fr root T, e = .returned (.tuple #[.pointer (some ⟨g, 0, none⟩), .int .i64 ((root : Nat) : Int), .bool true]) ∧ Hs w [] w' g gs 5160 cs fr ∧ FlI cs es.length root T es := by
  have HNW : Hid (Calls Tryz.prog 25 #[.int .i64 5160] w fun e w' => ∃ g gs, e = .returned (.tuple #[.pointer (some ⟨g, 0, none⟩), .int .i64 0]) ∧ Hs w [] w' g gs 5160 [] []) := hs_new 5160 w (by omega) (by omega)
  obtain ⟨n, hn⟩ : ∃ n, n = es.length := ⟨_, rfl⟩
  have HGet : Hid (∀ k, k < n → ∃ lg lo ua uc K bs, a = some ⟨lg, lo, none⟩ ∧ es[k]? = some (K, bs) ∧ w.rangeAt lg (lo + k * 33) (encP K (.slice ua bs.length uc)) ∧ Key K ∧ Reads w (.slice ua bs.length uc) bs ∧ bs.length ≤ 1024 ∧ ∀ e ∈ es.take k, e.1 ≠ K) := fun k hk => by
    rw [hn] at hk
    obtain ⟨a', c', e, _, h2, h3⟩ := hP
    injection e with e1 _ _
    subst e1
    obtain ⟨g, off, ea, hr⟩ := h2 (by omega)
    have h4 := hr k hk
    obtain ⟨hk1, hk2⟩ := h3 k hk
    rw [List.getD_eq_getElem?_getD, List.getElem?_eq_getElem hk, Option.getD_some] at h4 hk1 hk2
    obtain ⟨ua, uc, eV⟩ : ∃ ua uc, V k = .slice ua es[k].2.length uc := by
      obtain ⟨x, y, e, _⟩ := hk2
      exact ⟨x, y, e⟩
    rw [eV] at h4 hk2
    refine ⟨g, off, ua, uc, es[k].1, es[k].2, ea, by rw [List.getElem?_eq_getElem hk], h4, hk1, hk2, hbs _ (List.getElem_mem hk), fun e he => ?_⟩
    obtain ⟨j, hj, rfl⟩ := List.getElem_of_mem he
    rw [List.length_take] at hj
    rw [List.getElem_take]
    exact List.pairwise_iff_getElem.1 hap j k (by omega) hk (by omega)
  have HLD : Hid (∀ w', Below w.heap.size w w' → Laid w') := fun w' hb => hL.grow hb
  have H16 : Hid (n ≤ 16) := by rw [hn]; exact h16
  have HNE := hidden hn
  rw [← hn]
  clear hP h16 hap hbs hL hn
  go_enter Tryz.func19, Tryz.ntmps19
  go_wp2_with (go_at_call 25; refine HNW.out.mono ?_; rintro e w1 ⟨g, gs, rfl, hH⟩; have HH := hidden hH; clear hH)
  go_loopw [6, 7, 8] (fun ev rv iv wr => ∃ (k root : Nat) (cs : List (Nat × Ce)) (fr : List Nat) (T : Tre), k ≤ n ∧ ev = .int .i64 0 ∧ rv = .int .i64 (root : Int) ∧ iv = .int .i64 (k : Int) ∧ Hid (Hs w [] wr g gs 5160 cs fr) ∧ Hid (FlI cs k root T (es.take k))) (fun _ _ iv _ => n - (intOf iv).toNat)
  case atStart => exact ⟨0, 0, [], [], .emp, Nat.zero_le _, rfl, rfl, rfl, HH, ⟨Rt.zero [], List.Perm.refl _, fun i => by simp [Go.Proofs.YtlhnodinhmdjnaaGreatDoor.own, cc], by show 0 ≤ _; omega⟩⟩
  case round =>
    clear HH HNW
    obtain ⟨k, root, cs, fr, T, hk, rfl, rfl, rfl, hH, hF⟩ := hrel
    have hk16 := H16.out
    have hwk : wrap64 ((k : Int) + 1) = ((k + 1 : Nat) : Int) := by rw [Go.IntWalk.wrap64_in _ (by omega)]; rfl
    by_cases hlt : k < n
    · obtain ⟨lg, lo, ua, uc, K, bs, rfl, hek, hrg, hK, hrd, hb4, hnk⟩ := HGet.out k hlt
      have hlow := hH.out.low
      have HR1 : Hid (∀ w', Below wr.heap.size wr w' → w'.rangeAt lg (lo + k * 33) (B K).toList) := fun w' hb j v hv => rng_grow (rng_grow hrg hlow) hb j v (by
        rw [B_toList] at hv
        have hj : j < K.length := by
          have := (List.getElem?_eq_some_iff.1 hv).1
          simpa using this
        rw [encP, List.getElem?_append_left (by simpa using hj)]
        exact hv)
      have HR2 : Hid (∀ w', Below wr.heap.size wr w' → w'.cell? ⟨lg, lo + k * 33 + 32, none⟩ = some (.slice ua bs.length uc)) := fun w' hb => rng_grow (rng_grow hrg hlow) hb 32 _ (by
        rw [encP, List.getElem?_append_right (by simp [hK.1])]
        simp [hK.1])
      have HKL := hidden (pth_ln K hK.1)
      have HPT : Hid (∀ w', Below wr.heap.size wr w' → Calls Tryz.prog 26 #[.pointer (some ⟨g, 0, none⟩), .int .i64 (root : Int), .agg (B K), .slice ua bs.length uc] w' fun e w'' => ∃ (top : Nat) (cs' : List (Nat × Ce)) (fr' : List Nat) (T' : Tre), e = .returned (.tuple #[.int .i64 (top : Int), .int .i64 0]) ∧ FlI cs' (k + 1) top T' (es.take (k + 1)) ∧ Hs w [] w'' g gs 5160 cs' fr') := fun w' hb => by
        obtain ⟨ss, b1, b2⟩ := bes_ex hH.out.2 K hK hF.out.rt.tree hF.out.rt.dp
        refine (put_any (hH.out.grow hb) hF.out.rt hK (kq_nil (fun w'' hb'' => hrd.grow hb'')) (kq_nil HLD.out) hb4 (fun i => by have := hF.out.own i; omega) (by have := hF.out.noc; omega) b1).mono ?_
        rintro e w'' ⟨top, cs', fr', T', rfl, p, hH'⟩
        refine ⟨top, cs', fr', T', rfl, ?_, hH'⟩
        have := fl_step hF.out p b2.len hnk
        rw [List.take_add_one, hek]
        exact this
      have i1 : (k : Int) < (n : Int) := by omega
      have i0 : (0 : Int) ≤ (k : Int) := by omega
      obtain ⟨y, hy⟩ : ∃ y : Int, y = (root : Int) := ⟨_, rfl⟩
      rw [← hy] at HPT
      rw [← hy]
      clear hek hrg hK hrd hb4 hnk hlow hH hF hy
      go_wp2_with fail
      refine wp_region_wrote (S := fun w' => Below wr.heap.size wr w') [12] (by kernel_rfl) (below_drewN (Below.refl _ _) 1) (fun hHeld => ?_)
      refine wpAnyW_take0 (i := 0) (v := .pointer (some ⟨g, 0, none⟩)) rfl (by kernel_rfl) (by kernel_rfl) (by kernel_rfl) (by kernel_rfl) (fun _ _ _ h => h) (Or.inl ⟨by rfl, fun w hS => by go_simp⟩) (.inr hHeld) ?_
      simp only [Act.put, zq1, zq2, zq4, zq5, zq6]
      refine wpAnyW_take0 (i := 1) (v := .int .i64 y) rfl (by kernel_rfl) (by kernel_rfl) (by kernel_rfl) (by kernel_rfl) (fun _ _ _ h => h) (Or.inl ⟨by rfl, fun w hS => by go_simp⟩) (.inr hHeld) ?_
      simp only [Act.put, zq1, zq2, zq3, zq4, zq5, zq6]
      refine wpAnyW_take0 (i := 2) (v := .slice (some ⟨lg, lo, none⟩) n c) rfl (by kernel_rfl) (by kernel_rfl) (by kernel_rfl) (by kernel_rfl) (fun _ _ _ h => h) (Or.inl ⟨by rfl, fun w hS => by go_simp⟩) (.inr hHeld) ?_
      simp only [Act.put, zq1, zq2, zq3, zq4, zq5, zq6]
      refine wpAnyW_take0 (i := 3) (v := .int .i64 (k : Int)) rfl (by kernel_rfl) (by kernel_rfl) (by kernel_rfl) (by kernel_rfl) (fun _ _ _ h => h) (Or.inl ⟨by rfl, fun w hS => by go_simp⟩) (.inr hHeld) ?_
      simp only [Act.put, zq1, zq2, zq3, zq4, zq5, zq6]
      refine wpAnyW_take0 (i := 4) (v := .pointer (some ⟨lg, lo + k * 33, none⟩)) rfl (by kernel_rfl) (by kernel_rfl) (by kernel_rfl) (by kernel_rfl) (fun _ _ _ h => h) (Or.inl ⟨by rfl, fun w hS => by go_simp⟩) (.inr hHeld) ?_
      simp only [Act.put, zq1, zq2, zq3, zq4, zq5, zq6]
      refine wpAnyW_take0 (i := 5) (v := .pointer (some ⟨lg, lo + k * 33, none⟩)) rfl (by kernel_rfl) (by kernel_rfl) (by kernel_rfl) (by kernel_rfl) (fun _ _ _ h => h) (Or.inl ⟨by rfl, fun w hS => by go_simp⟩) (.inr hHeld) ?_
      simp only [Act.put, zq1, zq2, zq3, zq4, zq5, zq6]
      refine wpAnyW_take (i := 6) (v := .agg (B K)) rfl (by kernel_rfl) (by kernel_rfl) (by kernel_rfl) (by kernel_rfl) (by kernel_rfl) (by kernel_rfl) (fun _ _ _ h => h) (yieldsIf_load_mid rfl 23 (.tmp 29) rfl lg (lo + k * 33) rfl (B K).toList _ (fun w hS => HR1.out _ hS) Tryz.underlying23 rfl HKL.out) hHeld ?_
      simp only [Act.put, zq1, zq2, zq3, zq4, zq5, zq6]
      refine wpAnyW_take0 (i := 7) (v := .slice (some ⟨lg, lo, none⟩) n c) rfl (by kernel_rfl) (by kernel_rfl) (by kernel_rfl) (by kernel_rfl) (fun _ _ _ h => h) (Or.inl ⟨by rfl, fun w hS => by go_simp⟩) (.inr hHeld) ?_
      simp only [Act.put, zq1, zq2, zq3, zq4, zq5, zq6]
      refine wpAnyW_take0 (i := 8) (v := .int .i64 (k : Int)) rfl (by kernel_rfl) (by kernel_rfl) (by kernel_rfl) (by kernel_rfl) (fun _ _ _ h => h) (Or.inl ⟨by rfl, fun w hS => by go_simp⟩) (.inr hHeld) ?_
      simp only [Act.put, zq1, zq2, zq3, zq4, zq5, zq6]
      refine wpAnyW_take0 (i := 9) (v := .pointer (some ⟨lg, lo + k * 33, none⟩)) rfl (by kernel_rfl) (by kernel_rfl) (by kernel_rfl) (by kernel_rfl) (fun _ _ _ h => h) (Or.inl ⟨by rfl, fun w hS => by go_simp⟩) (.inr hHeld) ?_
      simp only [Act.put, zq1, zq2, zq3, zq4, zq5, zq6]
      refine wpAnyW_take0 (i := 10) (v := .pointer (some ⟨lg, lo + k * 33 + 32, none⟩)) rfl (by kernel_rfl) (by kernel_rfl) (by kernel_rfl) (by kernel_rfl) (fun _ _ _ h => h) (Or.inl ⟨by rfl, fun w hS => by go_simp⟩) (.inr hHeld) ?_
      simp only [Act.put, zq1, zq2, zq3, zq4, zq5, zq6]
      refine wpAnyW_take (i := 11) (v := .slice ua bs.length uc) rfl (by kernel_rfl) (by kernel_rfl) (by kernel_rfl) (by kernel_rfl) (by kernel_rfl) (by kernel_rfl) (fun _ _ _ h => h) (Or.inl ⟨by rfl, fun w hS => by (have q1 := HR2.out _ hS; go_simp)⟩) hHeld ?_
      simp only [Act.put, zq1, zq2, zq3, zq4, zq5, zq6]
      refine wpAnyW_one (i := 12) rfl (by kernel_rfl) (by kernel_rfl) (fun KQ hK => ?_)
      go_simp
      refine (HPT.out _ hHeld).mono ?_
      rintro e z ⟨top, cs', fr', T', rfl, hz⟩
      have HZ := hidden hz
      clear hz
      refine hK.out _ _ ?_
      clear hK KQ
      refine wpAnyW_take0 (i := 13) (v := .tuple #[.int .i64 (top : Int), .int .i64 0]) rfl (by kernel_rfl) (by kernel_rfl) (by kernel_rfl) (by kernel_rfl) (fun _ _ _ h => h) (Or.inl ⟨by rfl, fun w hS => by go_simp⟩) (.inl (by kernel_rfl)) ?_
      simp only [Act.put, zq1, zq2, zq3, zq4, zq5, zq6]
      refine wpAnyW_take0 (i := 14) (v := .int .i64 (top : Int)) rfl (by kernel_rfl) (by kernel_rfl) (by kernel_rfl) (by kernel_rfl) (fun _ _ _ h => h) (Or.inl ⟨by rfl, fun w hS => by go_simp⟩) (.inl (by kernel_rfl)) ?_
      simp only [Act.put, zq1, zq2, zq3, zq4, zq5, zq6]
      refine wpAnyW_take0 (i := 15) (v := .int .i64 0) rfl (by kernel_rfl) (by kernel_rfl) (by kernel_rfl) (by kernel_rfl) (fun _ _ _ h => h) (Or.inl ⟨by rfl, fun w hS => by go_simp⟩) (.inl (by kernel_rfl)) ?_
      simp only [Act.put, zq1, zq2, zq3, zq4, zq5, zq6]
      refine wpAnyW_take0 (i := 16) (v := .int .i64 (top : Int)) rfl (by kernel_rfl) (by kernel_rfl) (by kernel_rfl) (by kernel_rfl) (fun _ _ _ h => h) (Or.inl ⟨by rfl, fun w hS => by go_simp⟩) (.inl (by kernel_rfl)) ?_
      simp only [Act.put, zq1, zq2, zq3, zq4, zq5, zq6]
      refine wpAnyW_take0 (i := 17) (v := .int .i64 0) rfl (by kernel_rfl) (by kernel_rfl) (by kernel_rfl) (by kernel_rfl) (fun _ _ _ h => h) (Or.inl ⟨by rfl, fun w hS => by go_simp⟩) (.inl (by kernel_rfl)) ?_
      simp only [Act.put, zq1, zq2, zq3, zq4, zq5, zq6]
      refine wpAnyW_done (by kernel_rfl) ?_
      go_wp2
      exact ⟨⟨k + 1, top, cs', fr', T', by omega, rfl, rfl, by first | rfl | go_num, HZ.out.2, HZ.out.1⟩, by simp [intOf]; omega⟩
    · obtain rfl : k = n := by omega
      have HF : Hid (FlI cs k root T es) := by
        have := hF.out
        rw [List.take_of_length_le (by rw [← HNE.out]; omega)] at this
        exact this
      go_wp2
      go_ret3
      exact ⟨g, gs, cs, fr, root, T, rfl, hH.out, HF.out⟩

theorem FlI.lir {w w' : World} {g gs k root : Nat} {cs : List (Nat × Ce)} {fr : List Nat} {T : Tre} {l : List Ent} (f : FlI cs k root T l) (hH : Hs w [] w' g gs 5160 cs fr) (hl : l.length ≤ 1000) : LiR w' (some ⟨g, 0, none⟩) cs root T := by
  have h1 : T.ents.length = l.length := f.ents.length_eq
  have h2 := num_le hH.2 T root f.rt.tree
  refine ⟨hH.vw, ⟨[], hH.2⟩, f.rt.tree, f.rt.root, ?_, by omega⟩
  have h3 : T.ents.length * (257 - dq cs root) ≤ 1000 * 257 := Nat.mul_le_mul (by omega) (by omega)
  omega

end Go.Proofs.YtlhnodinhmdjnaaGreatDoor
