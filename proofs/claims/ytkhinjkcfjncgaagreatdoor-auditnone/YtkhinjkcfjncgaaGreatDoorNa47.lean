/- A root at hand, and what Put and Cost make of it: what the laws ask. -/
import Derived.Test.YtkhinjkcfjncgaaGreatDoorNa46
namespace Go.Proofs.YtkhinjkcfjncgaaGreatDoor
set_option maxRecDepth 20000
open Go.RowKit

theorem con_le (i : Nat) (p : Nat × Ce) : con i p ≤ 2 := by
  unfold con
  split
  · split <;> split <;> omega
  · omega
theorem ns_le (cs : List (Nat × Ce)) (i : Nat) : ns cs i ≤ 2 * cs.length := by
  induction cs with
  | nil => simp [ns]
  | cons p r ih =>
    have h := con_le i p
    simp only [ns, List.map_cons, List.sum_cons, List.length_cons] at ih ⊢
    omega
theorem Wf.ccLe {cs : List (Nat × Ce)} (W : Wf cs []) (i b : Nat) (h : Go.Proofs.YtkhinjkcfjncgaaGreatDoor.own cs [] i ≤ b) : cc cs i ≤ 2 * cs.length + b := by
  have h1 := W.own i
  have h2 := W.ab i
  have h3 := ns_le cs i
  rw [List.count_nil] at h1
  omega

/-- A root at hand. -/
structure Rt (cs : List (Nat × Ce)) (h : Nat) (T : Tre) : Prop where
  tree : IsT cs h T
  dp : (sdC cs h).kind = 2 → (sdC cs h).dp = 0
  own : h = 0 ∨ 0 < own cs [] (h - 1)

theorem Rt.root {cs : List (Nat × Ce)} {h : Nat} {T : Tre} (r : Rt cs h T) : vRt true (cot cs h) (cat cs h) h = 0 := by
  unfold vRt
  rw [if_pos rfl]
  by_cases h0 : (h : Int) = 0
  · rw [if_pos h0]
  · rw [if_neg h0]
    rcases r.tree.occ with e | ⟨e1, e2⟩
    · exact absurd (by omega) h0
    · have hc : cot cs (h : Int) = cc cs (h - 1) := by rw [cot, if_pos (by omega), show ((h : Int) - 1).toNat = h - 1 by omega]
      rw [hc, if_neg (by omega)]
      have hd := r.dp
      rw [← cat_nat] at hd
      unfold vDp
      rw [if_pos rfl]
      by_cases k : (cat cs (h : Int)).kind = 2
      · rw [if_pos k, hd k]
        rfl
      · rw [if_neg k]
        rfl
theorem Rt.refuse {cs : List (Nat × Ce)} {h : Nat} {T : Tre} (r : Rt cs h T) {n : Nat} (hn : n ≤ 1024) : vRf true (cot cs h) (cat cs h) h n = 0 := by
  unfold vRf
  rw [if_pos rfl, if_neg (by omega)]
  unfold vAh
  rw [if_pos r.root, if_neg]
  rintro ⟨h0, q⟩
  have h1 : h ≠ 0 := fun e => h0 (by omega)
  have ho := r.own.resolve_left h1
  have hc : cot cs (h : Int) = cc cs (h - 1) := by rw [cot, if_pos (by omega), show ((h : Int) - 1).toNat = h - 1 by omega]
  rw [hc, cat_nat, sdC, if_neg h1] at q
  unfold Go.Proofs.YtkhinjkcfjncgaaGreatDoor.own at ho
  rw [List.count_nil] at ho
  omega
theorem Rt.zero (cs : List (Nat × Ce)) : Rt cs 0 .emp := ⟨rfl, fun k => absurd k (by show ¬ zc.kind = 2; decide), .inl rfl⟩

/-- A map's entries, with this one among them. -/
def upE (E : List Ent) (K bs : List Int) : List Ent := (K, bs) :: E.filter fun e => !(e.1 == K)

theorem up_same : ∀ (l : List Ent) (K bs : List Int), (l.Pairwise fun a b => a.1 ≠ b.1) → (K, bs) ∈ l → l.Perm (upE l K bs)
  | [], _, _, _, h => by cases h
  | e :: r, K, bs, hp, hm => by
    obtain ⟨h1, h2⟩ := List.pairwise_cons.1 hp
    unfold upE
    rcases List.mem_cons.1 hm with q | q
    · subst q
      have hr : r.filter (fun e : Ent => !(e.1 == K)) = r := List.filter_eq_self.2 (fun x hx => by
        have := h1 x hx
        simp only [Bool.not_eq_true', beq_eq_false_iff_ne, ne_eq]
        exact fun e => this e.symm)
      rw [List.filter_cons, if_neg (by simp), hr]
    · have hne : e.1 ≠ K := h1 _ q
      rw [List.filter_cons, if_pos (by simpa using hne)]
      exact (List.Perm.cons e (up_same r K bs h2 q)).trans (List.Perm.swap _ _ _)

theorem upE_perm {E F : List Ent} (h : E.Perm F) (K bs : List Int) : (upE E K bs).Perm (upE F K bs) := List.Perm.cons _ (h.filter _)

/-- How many nodes are made. -/
def costN (T : Tre) (K bs : List Int) (ss : List Nat) : Nat := if T.efin K = [(K, bs)] then 0 else 1 + ss.length

/-- What Put makes of a store. -/
structure PaIs (cs : List (Nat × Ce)) (fr : List Nat) (T : Tre) (h : Nat) (K bs : List Int) (ss : List Nat) (top : Nat) (cs' : List (Nat × Ce)) (fr' : List Nat) (T' : Tre) : Prop where
  rt : Rt cs' top T'
  ents : T'.ents.Perm (upE T.ents K bs)
  pos : 1 ≤ top
  own : ∀ i, own cs' [] i + (if h = i + 1 then 1 else 0) = own cs [] i + (if top = i + 1 then 1 else 0)
  keep : ∀ x X, IsT cs x X → (x = 0 ∨ 0 < cc cs' (x - 1)) → IsT cs' x X
  noc : noc cs' ≤ noc cs + costN T K bs ss
  same : T.efin K = [(K, bs)] → top = h ∧ cs' = cs ∧ fr' = fr
  just : h = 0 ∨ h ∈ ss → Go.Proofs.YtkhinjkcfjncgaaGreatDoor.noc cs' = Go.Proofs.YtkhinjkcfjncgaaGreatDoor.noc cs + costN T K bs ss
  new : T.efin K ≠ [(K, bs)] → cc cs (top - 1) = 0
  len : cs'.length ≤ cs.length + costN T K bs ss

def PaPost (w0 : World) (S : List Nat) (g gs room : Nat) (cs : List (Nat × Ce)) (fr : List Nat) (T : Tre) (h : Nat) (K bs : List Int) (ss : List Nat) (e : Ending) (w' : World) : Prop :=
  ∃ (top : Nat) (cs' : List (Nat × Ce)) (fr' : List Nat) (T' : Tre), e = .returned (.tuple #[.int .i64 (top : Int), .int .i64 0]) ∧ PaIs cs fr T h K bs ss top cs' fr' T' ∧ Hs w0 S w' g gs room cs' fr'

theorem efin_some {cs : List (Nat × Ce)} {T : Tre} {h : Nat} (hT : IsT cs h T) {K bs : List Int} (hs : T.efin K = [(K, bs)]) : h ≠ 0 := fun e => by
  subst e
  cases T with
  | emp => simp [Tre.efin] at hs
  | lf _ _ => have := hT.1; omega
  | nd _ _ _ _ _ => have := hT.1; omega

theorem put_any {w0 w : World} {S : List Nat} {g gs room : Nat} {cs : List (Nat × Ce)} {fr : List Nat} (H : Hs w0 S w g gs room cs fr) {h : Nat} {T : Tre} (r : Rt cs h T) {K : List Int} (hK : Key K) {u : Value} {bs : List Int} (hu : Kq S w0 (fun w' => Reads w' u bs)) (hL : Kq S w0 Laid) (hl : bs.length ≤ 1024) (hb : ∀ i, own cs [] i ≤ 1000000) (hf : noc cs + 258 ≤ room) {ss : List Nat} (hss : BesIs K T h ss) :
    Calls Tryz.prog 58 #[.pointer (some ⟨g, 0, none⟩), .int .i64 (h : Int), .agg (B K), u] w (PaPost w0 S g gs room cs fr T h K bs ss) := by
  by_cases hsm : T.efin K = [(K, bs)]
  · have h0 := efin_some r.tree hsm
    refine (put_same H h T r.tree K hK u bs (H.kq hu) (r.refuse hl) r.root hf hsm).mono ?_
    rintro e w' ⟨rfl, b⟩
    have hp := up_same T.ents K bs (tree_ok H.2 T h r.tree).apart (efin_mem K T _ (by rw [hsm]; simp))
    exact ⟨h, cs, fr, T, rfl, ⟨r, hp, by omega, fun _ => rfl, fun x X hX _ => hX, Nat.le_add_right _ _, fun _ => ⟨rfl, rfl, rfl⟩, fun _ => by simp [costN, hsm], fun q => absurd hsm q, Nat.le_add_right _ _⟩, H.grow b⟩
  · have hbo : BesOk cs T.ents K ss := by
      obtain ⟨ss2, b1, b2⟩ := bes_ex H.2 K hK r.tree r.dp
      have : ss = ss2 := by
        rcases hss with ⟨e1, e2⟩ | ⟨b, e1, e2⟩ | ⟨k, b, c, e1, e2, e3, e4, e5, e6⟩ <;> rcases b1 with ⟨f1, f2⟩ | ⟨b', f1, f2⟩ | ⟨k', b', c', f1, f2, f3, f4, f5, f6⟩
        · rw [e2, f2]
        · rw [e2, f2]
        · rw [e1] at f1; cases f1
        · rw [e2, f2]
        · rw [e2, f2]
        · rw [e1] at f1
          injection f1 with f1 _
          injection f1 with f1 _
          exact absurd f1.symm f2
        · rw [e1] at f1; cases f1
        · rw [e1] at f1
          injection f1 with f1 _
          injection f1 with f1 _
          exact absurd f1 e2
        · rw [e1] at f1
          injection f1 with f1 _
          injection f1 with f1 _
          subst f1
          rw [e6, f6, e3.one f3]
      rw [this]
      exact b2
    obtain ⟨_, hr1, hr2⟩ := H.sizes
    have hct : ∀ i, cc cs i + 257 < 1073741824 := fun i => by
      have := H.2.ccLe i 1000000 (hb i)
      omega
    refine (put_new H h T r.tree K hK u bs hu hL (r.refuse hl) hl r.root r.own hf hsm ss hss hbo hct).mono ?_
    rintro e w' ⟨top, cs', fr', rfl, _, p, hh⟩
    obtain ⟨U, u1, u2⟩ := p.tree
    refine ⟨top, cs', fr', U, rfl, ⟨⟨u1, p.dp, .inr ?_⟩, u2, p.new.1, p.own, p.keep, by rw [costN, if_neg hsm]; exact p.noc, fun q => absurd q hsm, fun q => by rw [costN, if_neg hsm]; exact p.just q, fun _ => p.new.2, by rw [costN, if_neg hsm]; exact p.len⟩, hh⟩
    have h1 := p.own (top - 1)
    have h2 := p.new
    rw [if_pos (show top = top - 1 + 1 by omega)] at h1
    by_cases e : h = top - 1 + 1
    · exfalso
      have ho := r.own.resolve_left (by omega)
      rw [show h - 1 = top - 1 by omega] at ho
      unfold Go.Proofs.YtkhinjkcfjncgaaGreatDoor.own at ho
      omega
    · rw [if_neg e] at h1
      omega

theorem cost_any {w0 w : World} {S : List Nat} {g gs room : Nat} {cs : List (Nat × Ce)} {fr : List Nat} (H : Hs w0 S w g gs room cs fr) {h : Nat} {T : Tre} (r : Rt cs h T) {K : List Int} (hK : Key K) {u : Value} {bs : List Int} (hu : Reads w u bs) (hl : bs.length ≤ 1024) (hb : ∀ i, own cs [] i ≤ 1000000) {ss : List Nat} (hss : BesIs K T h ss) (h256 : ss.length ≤ 256) :
    Calls Tryz.prog 122 #[.pointer (some ⟨g, 0, none⟩), .int .i64 (h : Int), .agg (B K), u] w fun e w' => e = .returned (.tuple #[.int .i64 (costN T K bs ss : Int), .int .i64 0]) ∧ Below w.heap.size w w' := by
  by_cases hsm : T.efin K = [(K, bs)]
  · rw [costN, if_pos hsm]
    exact cost_same H h T r.tree K hK u bs hu (r.refuse hl) r.root hsm
  · rw [costN, if_neg hsm]
    obtain ⟨_, hr1, hr2⟩ := H.sizes
    exact cost_new H h T r.tree K hK u bs hu (r.refuse hl) r.root hsm ss hss h256 (fun i => by have := H.2.ccLe i 1000000 (hb i); omega)

theorem put_no_room {w0 w : World} {S : List Nat} {g gs room : Nat} {cs : List (Nat × Ce)} {fr : List Nat} (H : Hs w0 S w g gs room cs fr) {h : Nat} {T : Tre} (r : Rt cs h T) {K : List Int} {u : Value} {bs : List Int} (hu : Reads w u bs) (hl : bs.length ≤ 1024) (hf : room < noc cs + 258) :
    Calls Tryz.prog 58 #[.pointer (some ⟨g, 0, none⟩), .int .i64 (h : Int), .agg (B K), u] w fun e w' => e = .returned (.tuple #[.int .i64 0, .int .i64 9]) ∧ Below w.heap.size w w' := by
  obtain ⟨a, c, rfl, _⟩ := hu
  exact put_full H h K a _ c (r.refuse hl) hf

/-- The way's sides and how many. -/
theorem Rt.bes {cs : List (Nat × Ce)} {h : Nat} {T : Tre} (r : Rt cs h T) (W : Wf cs []) {K : List Int} (hK : Key K) : ∃ ss, BesIs K T h ss ∧ ss.length ≤ 256 := by
  obtain ⟨ss, b1, b2⟩ := bes_ex W K hK r.tree r.dp
  exact ⟨ss, b1, b2.len⟩
theorem Rt.dig {cs : List (Nat × Ce)} {h : Nat} {T : Tre} (r : Rt cs h T) (W : Wf cs []) : sdD cs h = rt 256 0 T.ents := (tree_ok W T h r.tree).dig 0 r.dp
theorem Rt.size {cs : List (Nat × Ce)} {h : Nat} {T : Tre} (r : Rt cs h T) (W : Wf cs []) : (sdC cs h).sz = T.ents.length := (tree_ok W T h r.tree).sz

/-- A store that New answered. -/
theorem hs_new (room : Nat) (w : World) (h1 : 1 ≤ room) (h2 : room ≤ 65536) : Calls Tryz.prog 46 #[.int .i64 (room : Int)] w fun e w' => ∃ g gs, e = .returned (.tuple #[.pointer (some ⟨g, 0, none⟩), .int .i64 0]) ∧ Hs w [] w' g gs room [] [] := by
  refine (newS_ok room w h1 h2).mono ?_
  rintro e w' ⟨g, gs, rfl, hg, hgs, s, b⟩
  refine ⟨g, gs, rfl, ⟨_, _, s, Mod.of_below b _, fun k hk => .inr ?_⟩, Wf.new⟩
  rcases stB_mem.1 hk with rfl | hk | ⟨i, hk⟩
  · exact hg
  · rcases slB_mem.1 hk with rfl | hk | hk
    · exact hgs
    · cases hk
    · cases hk
  · simp only [ce, List.getElem?_nil, Option.getD_none] at hk
    cases hk

/-- What stands in every world that has but grown stands where only new blocks turn. -/
theorem kq_nil {w : World} {P : World → Prop} (h : ∀ w', Below w.heap.size w w' → P w') : Kq [] w P := fun w' m => h w' m.below0
theorem Hs.low {w w' : World} {g gs room : Nat} {cs : List (Nat × Ce)} {fr : List Nat} (h : Hs w [] w' g gs room cs fr) : Below w.heap.size w w' := h.mod.below0

end Go.Proofs.YtkhinjkcfjncgaaGreatDoor

/- The document's examples that the laws of put ask (awake), as a contract. -/
namespace Go.Proofs.YtkhinjkcfjncgaaGreatDoor
set_option maxRecDepth 20000
open Go.RowKit

theorem built_z : Tryz.prog.built 72 [] = some (B z32) := by kernel_rfl

/-- A root with one entry is its leaf. -/
theorem Rt.one {cs : List (Nat × Ce)} {h : Nat} {T : Tre} (r : Rt cs h T) (W : Wf cs []) {e : Ent} (he : T.ents.Perm [e]) : T = .lf e.1 e.2 := by
  have hl := he.length_eq
  match T, r.tree with
  | .emp, _ => simp [Tre.ents] at hl
  | .lf k b, _ =>
    have := he.mem_iff.1 (show ((k, b) : Ent) ∈ [(k, b)] by simp)
    rw [← List.mem_singleton.1 this]
  | .nd d hl' hr L R, hT =>
    have h2 := (nd_ok W hT).two
    rw [show (Tre.nd d hl' hr L R).ents = L.ents ++ R.ents from rfl] at hl
    simp only [List.length_singleton] at hl
    omega

/-- A first entry. -/
theorem pa_first {fr fr' : List Nat} {K bs : List Int} {ss : List Nat} {top : Nat} {cs cs' : List (Nat × Ce)} {T' : Tre} (hss : BesIs K .emp 0 ss) (p : PaIs cs fr .emp 0 K bs ss top cs' fr' T') : T'.ents.Perm [(K, bs)] ∧ noc cs' = noc cs + 1 ∧ cs'.length ≤ cs.length + 1 := by
  have e : ss = [] := by
    rcases hss with ⟨_, e⟩ | ⟨b, e, _⟩ | ⟨k, b, c, e, _⟩
    · exact e
    · cases e
    · cases e
  subst e
  exact ⟨p.ents, p.just (.inl rfl), p.len⟩

/-- A second one that parts at the depth c. -/
theorem pa_second {fr fr' : List Nat} {K bs k b : List Int} {h c : Nat} {ss : List Nat} {top : Nat} {cs cs' : List (Nat × Ce)} {T' : Tre} (hc : IsCommon K k c) (hne : k ≠ K) (hss : BesIs K (.lf k b) h ss) (p : PaIs cs fr (.lf k b) h K bs ss top cs' fr' T') : T'.ents.Perm [(K, bs), (k, b)] ∧ noc cs' = noc cs + (c + 2) ∧ costN (.lf k b) K bs ss = c + 2 ∧ cs'.length ≤ cs.length + (c + 2) := by
  have e : ss = besX [] c h := by
    rcases hss with ⟨e, _⟩ | ⟨b', e, _⟩ | ⟨k', b', c', e1, _, e3, _, _, e6⟩
    · cases e
    · injection e with e _
      injection e with e _
      exact absurd e hne
    · injection e1 with e1 _
      injection e1 with e1 _
      subst e1
      rw [e6, hc.one e3]
      rfl
  have hl : ss.length = c + 1 := by rw [e, besX_len _ _ _ (by simp)]
  have hcst : costN (.lf k b) K bs ss = c + 2 := by
    have : ¬ ((Tre.lf k b).efin K = [(K, bs)]) := fun q => by
      injection q with q _
      injection q with q _
      exact hne q
    rw [costN, if_neg this, hl]
    omega
  refine ⟨?_, ?_, hcst, by rw [← hcst]; exact p.len⟩
  · have := p.ents
    unfold upE at this
    rw [show (Tre.lf k b).ents = [(k, b)] from rfl, List.filter_cons, if_pos (by simpa using hne), List.filter_nil] at this
    exact this
  · rw [← hcst]
    exact p.just (.inr (by rw [e]; simp [besX]))

/-- Behind the first Put, and behind the second. -/
def Aw (w : World) (S : List Nat) (w' : World) (g gs room r n m : Nat) (es : List Ent) : Prop := ∃ cs fr T, Hs w S w' g gs room cs fr ∧ Rt cs r T ∧ T.ents.Perm es ∧ noc cs = n ∧ (∀ i, own cs [] i ≤ m) ∧ cs.length ≤ n
theorem Aw.grow {w w' w'' : World} {S : List Nat} {g gs room r n m : Nat} {es : List Ent} (h : Aw w S w' g gs room r n m es) (hb : Below w'.heap.size w' w'') : Aw w S w'' g gs room r n m es := by
  obtain ⟨cs, fr, T, h1, h2⟩ := h
  exact ⟨cs, fr, T, h1.grow hb, h2⟩
theorem Aw.low {w w' : World} {g gs room r n m : Nat} {es : List Ent} (h : Aw w [] w' g gs room r n m es) : Below w.heap.size w w' := by
  obtain ⟨cs, fr, T, h1, h2⟩ := h
  exact h1.low
theorem Aw.size {w w' : World} {S : List Nat} {g gs room r n m : Nat} {es : List Ent} (h : Aw w S w' g gs room r n m es) : Calls Tryz.prog 85 #[.pointer (some ⟨g, 0, none⟩), .int .i64 (r : Int)] w' fun e w'' => e = .returned (.int .i64 (es.length : Int)) ∧ Below w'.heap.size w' w'' := by
  obtain ⟨cs, fr, T, h1, h2, h3, _⟩ := h
  have := size_any h1.vw (r : Int)
  rwa [cat_nat, h2.size h1.2, h3.length_eq] at this
theorem Aw.occ {w w' : World} {S : List Nat} {g gs room r n m : Nat} {es : List Ent} (h : Aw w S w' g gs room r n m es) : Calls Tryz.prog 26 #[.pointer (some ⟨g, 0, none⟩)] w' fun e w'' => e = .returned (.int .i64 (n : Int)) ∧ Below w'.heap.size w' w'' := by
  obtain ⟨cs, fr, T, h1, h2, h3, h4, _⟩ := h
  have := hs_occ h1
  rwa [h4] at this

theorem own_nil (i : Nat) : own [] [] i = 0 := by simp [own, cc]
theorem own_step {a b x y : Nat} {p q : Prop} [Decidable p] [Decidable q] (h : a + (if p then 1 else 0) = b + (if q then 1 else 0)) (hb : b ≤ x) (hy : x + 1 ≤ y) : a ≤ y := by
  split at h <;> split at h <;> omega

theorem aw_first {w w' : World} {S : List Nat} {g gs room : Nat} (hL : Kq S w Laid) (H : Hs w S w' g gs room [] []) (K : List Int) (hK : Key K) (hr : 258 ≤ room) : Calls Tryz.prog 58 #[.pointer (some ⟨g, 0, none⟩), .int .i64 0, .agg (B K), .slice none 0 0] w' fun e w'' => ∃ r : Nat, e = .returned (.tuple #[.int .i64 (r : Int), .int .i64 0]) ∧ Aw w S w'' g gs room r 1 1 [(K, [])] := by
  obtain ⟨ss, hss, _⟩ := (Rt.zero []).bes Wf.new hK
  refine (put_any H (Rt.zero []) hK (u := .slice none 0 0) (bs := []) (fun _ _ => Reads.nil _) hL (by simp) (fun i => by rw [own_nil]; omega) (by show 0 + 258 ≤ room; omega) hss).mono ?_
  rintro e w'' ⟨top, cs', fr', T', rfl, p, hh⟩
  obtain ⟨q1, q2, q3⟩ := pa_first hss p
  exact ⟨top, rfl, cs', fr', T', hh, p.rt, q1, by rw [q2]; rfl, fun i => own_step (p.own i) (x := 0) (by rw [own_nil]; omega) (by omega), q3⟩

theorem aw_second {w w' : World} {S : List Nat} {g gs room r : Nat} (hL : Kq S w Laid) {k : List Int} (H : Aw w S w' g gs room r 1 1 [(k, [])]) (K : List Int) (hK : Key K) (hne : k ≠ K) (c : Nat) (hc : IsCommon K k c) (hr : 259 ≤ room) : Calls Tryz.prog 58 #[.pointer (some ⟨g, 0, none⟩), .int .i64 (r : Int), .agg (B K), .slice none 0 0] w' fun e w'' => ∃ r' : Nat, e = .returned (.tuple #[.int .i64 (r' : Int), .int .i64 0]) ∧ Aw w S w'' g gs room r' (c + 3) 2 [(K, []), (k, [])] := by
  obtain ⟨cs, fr, T, h1, h2, h3, h4, h5, h6⟩ := H
  obtain rfl := h2.one h1.2 h3
  obtain ⟨ss, hss, _⟩ := h2.bes h1.2 hK
  refine (put_any h1 h2 hK (u := .slice none 0 0) (bs := []) (fun _ _ => Reads.nil _) hL (by simp) (fun i => Nat.le_trans (h5 i) (by omega)) (by omega) hss).mono ?_
  rintro e w'' ⟨top, cs', fr', T', rfl, p, hh⟩
  obtain ⟨q1, q2, q3, q4⟩ := pa_second hc hne hss p
  exact ⟨top, rfl, cs', fr', T', hh, p.rt, q1, by omega, fun i => own_step (p.own i) (h5 i) (by omega), by omega⟩

theorem aw_same {w w' : World} {S : List Nat} {g gs room r n m : Nat} {es : List Ent} (H : Aw w S w' g gs room r n m es) (K : List Int) (hK : Key K) (hm : (K, []) ∈ es) (hr : n + 258 ≤ room) : Calls Tryz.prog 58 #[.pointer (some ⟨g, 0, none⟩), .int .i64 (r : Int), .agg (B K), .slice none 0 0] w' fun e w'' => e = .returned (.tuple #[.int .i64 (r : Int), .int .i64 0]) ∧ Below w'.heap.size w' w'' := by
  obtain ⟨cs, fr, T, h1, h2, h3, h4, h5, h6⟩ := H
  have hsm := efin_key h1.2 K T r h2.tree (K, []) (h3.mem_iff.2 hm) rfl
  exact put_same h1 r T h2.tree K hK (.slice none 0 0) [] (Reads.nil _) (h2.refuse (by simp)) h2.root (by omega) hsm

end Go.Proofs.YtkhinjkcfjncgaaGreatDoor
