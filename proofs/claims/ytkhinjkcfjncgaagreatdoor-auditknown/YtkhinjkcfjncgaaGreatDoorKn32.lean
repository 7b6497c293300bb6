/- The document's examples that the laws of put ask (awake), as a contract. -/
import Derived.Test.YtkhinjkcfjncgaaGreatDoorKn31
import Derived.Test.YtkhinjkcfjncgaaGreatDoorKn27
namespace Go.Proofs.YtkhinjkcfjncgaaGreatDoor
set_option maxRecDepth 20000
open Go.RowKit

theorem built_z : Tryz.prog.built 72 [] = some (B z32) := by kernel_rfl

/-- A root with one entry is its leaf. -/
theorem Rt.one {cs : List (Nat × Ce)} {h : Nat} {T : Tre} (r : Rt cs h T) (W : Wf cs []) {e : Ent} (he : T.ents.Perm [e]) : T = .lf e.1 e.2 := by
  have hl := he.length_eq
  match T, r.tree with
  | .emp, _ => simp [Tre.ents] at hl
  | .lf k b, _ =>
    have := he.mem_iff.1 (show ((k, b) : Ent) ∈ [(k, b)] by simp)
    rw [← List.mem_singleton.1 this]
  | .nd d hl' hr L R, hT =>
    have h2 := (nd_ok W hT).two
    rw [show (Tre.nd d hl' hr L R).ents = L.ents ++ R.ents from rfl] at hl
    simp only [List.length_singleton] at hl
    omega

/-- A first entry. -/
theorem pa_first {fr fr' : List Nat} {K bs : List Int} {ss : List Nat} {top : Nat} {cs cs' : List (Nat × Ce)} {T' : Tre} (hss : BesIs K .emp 0 ss) (p : PaIs cs fr .emp 0 K bs ss top cs' fr' T') : T'.ents.Perm [(K, bs)] ∧ noc cs' = noc cs + 1 ∧ cs'.length ≤ cs.length + 1 := by
  have e : ss = [] := by
    rcases hss with ⟨_, e⟩ | ⟨b, e, _⟩ | ⟨k, b, c, e, _⟩
    · exact e
    · cases e
    · cases e
  subst e
  exact ⟨p.ents, p.just (.inl rfl), p.len⟩

/-- A second one that parts at the depth c. -/
theorem pa_second {fr fr' : List Nat} {K bs k b : List Int} {h c : Nat} {ss : List Nat} {top : Nat} {cs cs' : List (Nat × Ce)} {T' : Tre} (hc : IsCommon K k c) (hne : k ≠ K) (hss : BesIs K (.lf k b) h ss) (p : PaIs cs fr (.lf k b) h K bs ss top cs' fr' T') : T'.ents.Perm [(K, bs), (k, b)] ∧ noc cs' = noc cs + (c + 2) ∧ costN (.lf k b) K bs ss = c + 2 ∧ cs'.length ≤ cs.length + (c + 2) := by
  have e : ss = besX [] c h := by
    rcases hss with ⟨e, _⟩ | ⟨b', e, _⟩ | ⟨k', b', c', e1, _, e3, _, _, e6⟩
    · cases e
    · injection e with e _
      injection e with e _
      exact absurd e hne
    · injection e1 with e1 _
      injection e1 with e1 _
      subst e1
      rw [e6, hc.one e3]
      rfl
  have hl : ss.length = c + 1 := by rw [e, besX_len _ _ _ (by simp)]
  have hcst : costN (.lf k b) K bs ss = c + 2 := by
    have : ¬ ((Tre.lf k b).efin K = [(K, bs)]) := fun q => by
      injection q with q _
      injection q with q _
      exact hne q
    rw [costN, if_neg this, hl]
    omega
  refine ⟨?_, ?_, hcst, by rw [← hcst]; exact p.len⟩
  · have := p.ents
    unfold upE at this
    rw [show (Tre.lf k b).ents = [(k, b)] from rfl, List.filter_cons, if_pos (by simpa using hne), List.filter_nil] at this
    exact this
  · rw [← hcst]
    exact p.just (.inr (by rw [e]; simp [besX]))

/-- Behind the first Put, and behind the second. -/
def Aw (w : World) (S : List Nat) (w' : World) (g gs room r n m : Nat) (es : List Ent) : Prop := ∃ cs fr T, Hs w S w' g gs room cs fr ∧ Rt cs r T ∧ T.ents.Perm es ∧ noc cs = n ∧ (∀ i, own cs [] i ≤ m) ∧ cs.length ≤ n
theorem Aw.grow {w w' w'' : World} {S : List Nat} {g gs room r n m : Nat} {es : List Ent} (h : Aw w S w' g gs room r n m es) (hb : Below w'.heap.size w' w'') : Aw w S w'' g gs room r n m es := by
  obtain ⟨cs, fr, T, h1, h2⟩ := h
  exact ⟨cs, fr, T, h1.grow hb, h2⟩
theorem Aw.low {w w' : World} {g gs room r n m : Nat} {es : List Ent} (h : Aw w [] w' g gs room r n m es) : Below w.heap.size w w' := by
  obtain ⟨cs, fr, T, h1, h2⟩ := h
  exact h1.low
theorem Aw.size {w w' : World} {S : List Nat} {g gs room r n m : Nat} {es : List Ent} (h : Aw w S w' g gs room r n m es) : Calls Tryz.prog 85 #[.pointer (some ⟨g, 0, none⟩), .int .i64 (r : Int)] w' fun e w'' => e = .returned (.int .i64 (es.length : Int)) ∧ Below w'.heap.size w' w'' := by
  obtain ⟨cs, fr, T, h1, h2, h3, _⟩ := h
  have := size_any h1.vw (r : Int)
  rwa [cat_nat, h2.size h1.2, h3.length_eq] at this
theorem Aw.occ {w w' : World} {S : List Nat} {g gs room r n m : Nat} {es : List Ent} (h : Aw w S w' g gs room r n m es) : Calls Tryz.prog 26 #[.pointer (some ⟨g, 0, none⟩)] w' fun e w'' => e = .returned (.int .i64 (n : Int)) ∧ Below w'.heap.size w' w'' := by
  obtain ⟨cs, fr, T, h1, h2, h3, h4, _⟩ := h
  have := hs_occ h1
  rwa [h4] at this

theorem own_nil (i : Nat) : own [] [] i = 0 := by simp [own, cc]
theorem own_step {a b x y : Nat} {p q : Prop} [Decidable p] [Decidable q] (h : a + (if p then 1 else 0) = b + (if q then 1 else 0)) (hb : b ≤ x) (hy : x + 1 ≤ y) : a ≤ y := by
  split at h <;> split at h <;> omega

theorem aw_first {w w' : World} {S : List Nat} {g gs room : Nat} (hL : Kq S w Laid) (H : Hs w S w' g gs room [] []) (K : List Int) (hK : Key K) (hr : 258 ≤ room) : Calls Tryz.prog 58 #[.pointer (some ⟨g, 0, none⟩), .int .i64 0, .agg (B K), .slice none 0 0] w' fun e w'' => ∃ r : Nat, e = .returned (.tuple #[.int .i64 (r : Int), .int .i64 0]) ∧ Aw w S w'' g gs room r 1 1 [(K, [])] := by
  obtain ⟨ss, hss, _⟩ := (Rt.zero []).bes Wf.new hK
  refine (put_any H (Rt.zero []) hK (u := .slice none 0 0) (bs := []) (fun _ _ => Reads.nil _) hL (by simp) (fun i => by rw [own_nil]; omega) (by show 0 + 258 ≤ room; omega) hss).mono ?_
  rintro e w'' ⟨top, cs', fr', T', rfl, p, hh⟩
  obtain ⟨q1, q2, q3⟩ := pa_first hss p
  exact ⟨top, rfl, cs', fr', T', hh, p.rt, q1, by rw [q2]; rfl, fun i => own_step (p.own i) (x := 0) (by rw [own_nil]; omega) (by omega), q3⟩

theorem aw_second {w w' : World} {S : List Nat} {g gs room r : Nat} (hL : Kq S w Laid) {k : List Int} (H : Aw w S w' g gs room r 1 1 [(k, [])]) (K : List Int) (hK : Key K) (hne : k ≠ K) (c : Nat) (hc : IsCommon K k c) (hr : 259 ≤ room) : Calls Tryz.prog 58 #[.pointer (some ⟨g, 0, none⟩), .int .i64 (r : Int), .agg (B K), .slice none 0 0] w' fun e w'' => ∃ r' : Nat, e = .returned (.tuple #[.int .i64 (r' : Int), .int .i64 0]) ∧ Aw w S w'' g gs room r' (c + 3) 2 [(K, []), (k, [])] := by
  obtain ⟨cs, fr, T, h1, h2, h3, h4, h5, h6⟩ := H
  obtain rfl := h2.one h1.2 h3
  obtain ⟨ss, hss, _⟩ := h2.bes h1.2 hK
  refine (put_any h1 h2 hK (u := .slice none 0 0) (bs := []) (fun _ _ => Reads.nil _) hL (by simp) (fun i => Nat.le_trans (h5 i) (by omega)) (by omega) hss).mono ?_
  rintro e w'' ⟨top, cs', fr', T', rfl, p, hh⟩
  obtain ⟨q1, q2, q3, q4⟩ := pa_second hc hne hss p
  exact ⟨top, rfl, cs', fr', T', hh, p.rt, q1, by omega, fun i => own_step (p.own i) (h5 i) (by omega), by omega⟩

theorem aw_same {w w' : World} {S : List Nat} {g gs room r n m : Nat} {es : List Ent} (H : Aw w S w' g gs room r n m es) (K : List Int) (hK : Key K) (hm : (K, []) ∈ es) (hr : n + 258 ≤ room) : Calls Tryz.prog 58 #[.pointer (some ⟨g, 0, none⟩), .int .i64 (r : Int), .agg (B K), .slice none 0 0] w' fun e w'' => e = .returned (.tuple #[.int .i64 (r : Int), .int .i64 0]) ∧ Below w'.heap.size w' w'' := by
  obtain ⟨cs, fr, T, h1, h2, h3, h4, h5, h6⟩ := H
  have hsm := efin_key h1.2 K T r h2.tree (K, []) (h3.mem_iff.2 hm) rfl
  exact put_same h1 r T h2.tree K hK (.slice none 0 0) [] (Reads.nil _) (h2.refuse (by simp)) h2.root (by omega) hsm

end Go.Proofs.YtkhinjkcfjncgaaGreatDoor

/- Law 12's examples: a store with a root of two leaves, held once; Check of it, of none, of it twice over. -/
namespace Go.Proofs.YtkhinjkcfjncgaaGreatDoor
set_option maxRecDepth 20000
open Go.RowKit

theorem Hs.au {w0 w : World} {S : List Nat} {g gs room : Nat} {cs : List (Nat × Ce)} {fr : List Nat} (h : Hs w0 S w g gs room cs fr) : Au w (.pointer (some ⟨g, 0, none⟩)) cs := ⟨h.vw, h.2, by
  obtain ⟨_, h2, h3⟩ := h.sizes
  omega, fun w' hb => by
  obtain ⟨⟨vp, vf, s, _, _⟩, _⟩ := h.grow hb
  exact hndS_ok s⟩

/-- Behind the first Put, and behind the second: callers hold the root once and nothing else. -/
def Ax (w : World) (S : List Nat) (w' : World) (g gs room r n : Nat) (es : List Ent) : Prop := ∃ cs fr T, Hs w S w' g gs room cs fr ∧ Rt cs r T ∧ T.ents.Perm es ∧ noc cs = n ∧ (∀ i, own cs [] i = if r = i + 1 then 1 else 0) ∧ cs.length ≤ n
theorem Ax.grow {w w' w'' : World} {S : List Nat} {g gs room r n : Nat} {es : List Ent} (h : Ax w S w' g gs room r n es) (hb : Below w'.heap.size w' w'') : Ax w S w'' g gs room r n es := by
  obtain ⟨cs, fr, T, h1, h2⟩ := h
  exact ⟨cs, fr, T, h1.grow hb, h2⟩
theorem Ax.low {w w' : World} {g gs room r n : Nat} {es : List Ent} (h : Ax w [] w' g gs room r n es) : Below w.heap.size w w' := by
  obtain ⟨cs, fr, T, h1, h2⟩ := h
  exact h1.low
theorem ax_first {w w' : World} {S : List Nat} {g gs room : Nat} (hL : Kq S w Laid) (H : Hs w S w' g gs room [] []) (K : List Int) (hK : Key K) (hr : 258 ≤ room) : Calls Tryz.prog 58 #[.pointer (some ⟨g, 0, none⟩), .int .i64 0, .agg (B K), .slice none 0 0] w' fun e w'' => ∃ r : Nat, e = .returned (.tuple #[.int .i64 (r : Int), .int .i64 0]) ∧ Ax w S w'' g gs room r 1 [(K, [])] := by
  obtain ⟨ss, hss, _⟩ := (Rt.zero []).bes Wf.new hK
  refine (put_any H (Rt.zero []) hK (u := .slice none 0 0) (bs := []) (fun _ _ => Reads.nil _) hL (by simp) (fun i => by rw [own_nil]; omega) (by show 0 + 258 ≤ room; omega) hss).mono ?_
  rintro e w'' ⟨top, cs', fr', T', rfl, p, hh⟩
  obtain ⟨q1, q2, q3⟩ := pa_first hss p
  refine ⟨top, rfl, cs', fr', T', hh, p.rt, q1, by rw [q2]; rfl, fun i => ?_, q3⟩
  have := p.own i
  rw [own_nil, if_neg (show ¬ 0 = i + 1 by omega)] at this
  omega
theorem ax_second {w w' : World} {S : List Nat} {g gs room r : Nat} (hL : Kq S w Laid) {k : List Int} (H : Ax w S w' g gs room r 1 [(k, [])]) (K : List Int) (hK : Key K) (hne : k ≠ K) (c : Nat) (hc : IsCommon K k c) (hr : 259 ≤ room) : Calls Tryz.prog 58 #[.pointer (some ⟨g, 0, none⟩), .int .i64 (r : Int), .agg (B K), .slice none 0 0] w' fun e w'' => ∃ r' : Nat, e = .returned (.tuple #[.int .i64 (r' : Int), .int .i64 0]) ∧ Ax w S w'' g gs room r' (c + 3) [(K, []), (k, [])] := by
  obtain ⟨cs, fr, T, h1, h2, h3, h4, h5, h6⟩ := H
  obtain rfl := h2.one h1.2 h3
  obtain ⟨ss, hss, _⟩ := h2.bes h1.2 hK
  refine (put_any h1 h2 hK (u := .slice none 0 0) (bs := []) (fun _ _ => Reads.nil _) hL (by simp) (fun i => by rw [h5 i]; split <;> omega) (by omega) hss).mono ?_
  rintro e w'' ⟨top, cs', fr', T', rfl, p, hh⟩
  obtain ⟨q1, q2, q3, q4⟩ := pa_second hc hne hss p
  refine ⟨top, rfl, cs', fr', T', hh, p.rt, q1, by omega, fun i => ?_, by omega⟩
  have := p.own i
  rw [h5 i] at this
  omega

set_option maxHeartbeats 4000000 in
theorem two_any (w : World) (hL : Laid w) : Calls Tryz.prog 29 #[] w fun e w' => ∃ g gs r : Nat, e = .returned (.tuple #[.pointer (some ⟨g, 0, none⟩), .int .i64 (r : Int)]) ∧ Ax w [] w' g gs 600 r 3 [(kyB 128, []), (z32, [])] := by
  have HN := hidden (hs_new 600 w (by omega) (by omega))
  have kz : Key z32 := ⟨rfl, z32_bytes⟩
  have k1 := kyB_key 128 (by omega) (by omega)
  have hne : z32 ≠ kyB 128 := by decide
  have hc : IsCommon (kyB 128) z32 0 := ⟨by omega, fun j hj => by omega, fun _ => by decide⟩
  have HB0 := hidden built_z
  have HB1 := hidden (built_ky 128)
  have H1 : Hid (∀ w' g gs, Hs w [] w' g gs 600 [] [] → Calls Tryz.prog 58 #[.pointer (some ⟨g, 0, none⟩), .int .i64 0, .agg (B z32), .slice none 0 0] w' fun e w'' => ∃ r : Nat, e = .returned (.tuple #[.int .i64 (r : Int), .int .i64 0]) ∧ Ax w [] w'' g gs 600 r 1 [(z32, [])]) := fun w' g gs h => ax_first (kq_nil fun _ hb => hL.grow hb) h z32 kz (by omega)
  have H2 : Hid (∀ w' g gs r, Ax w [] w' g gs 600 r 1 [(z32, [])] → Calls Tryz.prog 58 #[.pointer (some ⟨g, 0, none⟩), .int .i64 (r : Int), .agg (B (kyB 128)), .slice none 0 0] w' fun e w'' => ∃ r' : Nat, e = .returned (.tuple #[.int .i64 (r' : Int), .int .i64 0]) ∧ Ax w [] w'' g gs 600 r' 3 [(kyB 128, []), (z32, [])]) := fun w' g gs r h => ax_second (kq_nil fun _ hb => hL.grow hb) h (kyB 128) k1 hne 0 hc (by omega)
  generalize z32 = Z at HB0 H1 H2 ⊢
  generalize kyB 128 = Y at HB1 H2 ⊢
  clear hL kz k1 hne hc
  go_enter Tryz.func29, Tryz.ntmps29
  go_wp2_with (first
    | (go_at_call 46; refine HN.out.mono ?_; rintro e w1 ⟨g, gs, rfl, h1⟩; have HH1 := hidden h1; clear h1)
    | ((with_reducible refine at_bdd 12 ?_); refine wpList_bld _ rfl _ _ rfl _ (by rw [List.map_toArray]; exact HB0.out) ?_)
    | ((with_reducible refine at_bdd 19 ?_); refine wpList_bld _ rfl _ _ rfl _ (by rw [List.map_toArray]; exact HB1.out) ?_)
    | (go_at_call 58; have mk := mp1; clear mk; refine (H2.out _ _ _ _ HA1.out).mono ?_; rintro e w4 ⟨r2, rfl, h4⟩; have HA2 := hidden h4; clear h4)
    | (go_at_call 58; refine (H1.out _ _ _ HH1.out).mono ?_; rintro e w2 ⟨r1, rfl, h2⟩; have HA1 := hidden h2; clear h2; have mp1 : Hid True := trivial))
  go_ret2
  exact ⟨g, gs, r2, rfl, HA2.out⟩

theorem frE_rt {cs : List (Nat × Ce)} {r : Nat} (h : vRt true (cot cs r) (cat cs r) r = 0) : ∀ n, frE (cot cs) (cat cs) (zN (List.replicate n r)) = 0
  | 0 => rfl
  | n + 1 => by
    show (if vRt true (cot cs r) (cat cs r) r = 0 then _ else _) = 0
    rw [if_pos h]
    exact frE_rt h n
theorem rts_rep {cs : List (Nat × Ce)} {r : Nat} {T : Tre} (h : Rt cs r T) (hl : r ≠ 0 → 0 < cc cs (r - 1)) (n : Nat) (hn : n ≤ 64) : Rts cs (List.replicate n r) := ⟨by
  rw [auE, if_neg (by rw [zN_length, List.length_replicate]; omega)]
  exact frE_rt h.root n, fun x hx h0 => by
  obtain rfl := (List.mem_replicate.1 hx).2
  exact hl h0⟩

theorem zs_blk {w : World} {b : Nat} {R : List Nat} (n : Nat) (hB : Blk w b 3 (R.map fun (x : Nat) => Value.int .i64 (x : Int)).toArray) (hn : n = R.length) (c : Nat) : Zs w (.slice (some ⟨b, 0, none⟩) n c) (zN R) := by
  refine ⟨some ⟨b, 0, none⟩, c, by rw [zN_length, hn], fun k hk => ⟨b, 0, rfl, ?_⟩⟩
  rw [zN_length] at hk
  rw [hB.cell, zN_get R k hk]
  simp [hk]

/-- What the three Checks tell. -/
theorem ax_facts {w w' : World} {S : List Nat} {g gs room r : Nat} (h : Ax w S w' g gs room r 3 [(kyB 128, []), (z32, [])]) : ∃ cs, Au w' (.pointer (some ⟨g, 0, none⟩)) cs ∧ (∀ n, n ≤ 64 → Rts cs (List.replicate n r)) ∧ (∀ P, RdA cs [] P → (fnA cs P (slotsOf (cs.map pl))).length = 3 ∧ ∀ h ∈ fnA cs P (slotsOf (cs.map pl)), wnt P (h : Int) = 0 ∧ cc cs (h - 1) = 1) ∧ (∀ P, RdA cs [r] P → fnA cs P (slotsOf (cs.map pl)) = []) ∧ ∀ P, RdA cs [r, r] P → fnA cs P (slotsOf (cs.map pl)) = [r] ∧ wnt P (r : Int) = 2 ∧ cc cs (r - 1) = 1 := by
  obtain ⟨cs, fr, T, h1, h2, h3, h4, h5, h6⟩ := h
  have W := h1.2
  obtain ⟨r1, r2, r3, r4, r5⟩ := two_counts W h2.tree h2.dp h3 (by decide) (by decide) h6 h5
  have wa : ∀ n P, RdA cs (List.replicate n r) P → 0 < n → ∀ i, wnt P ((i + 1 : Nat) : Int) = (if r = i + 1 then n else 0) + ns cs i := fun n P hP hn i => by
    have := want_all W hP (fun x hx h0 => by
      obtain rfl := (List.mem_replicate.1 hx).2
      exact r2) (reach_all W hP (fun i hi => by
      rw [h5 i] at hi
      by_cases e : r = i + 1
      · rw [← e]
        exact List.mem_replicate.2 ⟨by omega, rfl⟩
      · rw [if_neg e] at hi
        omega)) i
    rw [this, List.count_replicate]
    simp only [beq_iff_eq]
  have cw : ∀ i, cc cs i = ns cs i + (if r = i + 1 then 1 else 0) := fun i => by
    have c1 := W.own i
    have c2 := W.ab i
    rw [List.count_nil, h5 i] at c1
    omega
  refine ⟨cs, h1.au, fun n hn => rts_rep h2 (fun _ => r2) n hn, fun P hP => ?_, fun P hP => ?_, fun P hP => ?_⟩
  · obtain rfl := rch_none hP
    have e : fnA cs [] (slotsOf (cs.map pl)) = slotsOf (cs.map pl) := by
      unfold fnA
      rw [List.filter_eq_self]
      intro x hx
      have := ((slot_iff cs x).1 hx).2
      rw [wnt_nil]
      simp
      omega
    rw [e]
    refine ⟨by rw [slots_length]; exact r5, fun x hx => ⟨by rw [wnt_nil], r4 _ ((slot_iff cs x).1 hx).2⟩⟩
  · unfold fnA
    rw [List.filter_eq_nil_iff]
    intro x hx
    obtain ⟨x0, hxc⟩ := (slot_iff cs x).1 hx
    obtain ⟨i, rfl⟩ : ∃ i, x = i + 1 := ⟨x - 1, by omega⟩
    have e1 := wa 1 P hP (by omega) i
    have e2 := cw i
    rw [Nat.add_sub_cancel] at hxc ⊢
    rw [e1]
    simp only [decide_eq_true_eq, ne_eq, Classical.not_not]
    omega
  · have hw2 : wnt P (r : Int) = 2 := by
      have := wa 2 P hP (by omega) (r - 1)
      rw [show r - 1 + 1 = r by omega, if_pos rfl, r3] at this
      exact this
    refine ⟨?_, hw2, r4 _ r2⟩
    have nd : (fnA cs P (slotsOf (cs.map pl))).Nodup := (slots_nd _).filter _
    have pm : (fnA cs P (slotsOf (cs.map pl))).Perm [r] := (List.perm_ext_iff_of_nodup nd (by simp)).2 (fun x => by
      rw [fnA, List.mem_filter, slot_iff, List.mem_singleton]
      constructor
      · rintro ⟨⟨x0, hxc⟩, hd⟩
        obtain ⟨i, rfl⟩ : ∃ i, x = i + 1 := ⟨x - 1, by omega⟩
        have e1 := wa 2 P hP (by omega) i
        have e2 := cw i
        rw [Nat.add_sub_cancel, e1] at hd
        simp only [decide_eq_true_eq, ne_eq] at hd
        apply Classical.byContradiction
        intro q
        rw [if_neg (fun z => q z.symm)] at hd e2
        omega
      · rintro rfl
        refine ⟨⟨by omega, r2⟩, ?_⟩
        rw [hw2, r4 _ r2]
        rfl)
    exact List.perm_singleton.1 pm

theorem flF_one (cs : List (Nat × Ce)) (P : List Nat) (x : Nat) (L : List Nat) : flF cs P (x :: L) = .int .i64 (x : Int) :: .int .i64 (wnt P (x : Int) : Int) :: .int .i64 (cc cs (x - 1) : Int) :: flF cs P L := rfl
theorem fd_eq (z0 z1 z2 : Int) (w : World) : (Op.equalIn 10000 39 (.agg #[.int .i64 z0, .int .i64 z1, .int .i64 z2]) (.agg #[.int .i64 z0, .int .i64 z1, .int .i64 z2])).run Tryz.prog w = .ok true w := by
  have hf : ∃ f0 f1 f2 : Field, (Tryz.prog.fieldsOf 39).toList = [f0, f1, f2] ∧ (f0.name ≠ "_" ∧ f0.type = 3 ∧ f0.offset = 0) ∧ (f1.name ≠ "_" ∧ f1.type = 3 ∧ f1.offset = 1) ∧ (f2.name ≠ "_" ∧ f2.type = 3 ∧ f2.offset = 2) :=
    ⟨_, _, _, rfl, ⟨by decide, rfl, rfl⟩, ⟨by decide, rfl, rfl⟩, ⟨by decide, rfl, rfl⟩⟩
  obtain ⟨f0, f1, f2, hF, ⟨n0, t0, o0⟩, ⟨n1, t1, o1⟩, ⟨n2, t2, o2⟩⟩ := hf
  have hu : Tryz.prog.underlying 39 = some (.struct (Tryz.prog.fieldsOf 39)) := by kernel_rfl
  have ek : ∀ z, (Op.equalIn 9999 3 (.int .i64 z) (.int .i64 z)).run Tryz.prog w = .ok true w := fun z => by rw [run_equalIn_int (P := Tryz.prog) (w := w) 9998 3 .i64 .i64 z z Tryz.underlying3]; simp
  rw [run_equalIn_struct (P := Tryz.prog) (w := w) 9999 39 _ _ hu (by kernel_rfl), hF]
  have p : ∀ k (z : Int), (#[Value.int .i64 z0, .int .i64 z1, .int .i64 z2] : Array Value)[k]? = some (.int .i64 z) → (part 3 #[Value.int .i64 z0, .int .i64 z1, .int .i64 z2] k).run Tryz.prog w = .ok (.int .i64 z) w := by
    intro k z hz
    unfold part
    rw [Sem.run_bind, Tryz.isAgg3 w]
    simp [hz]
  have p0 := p 0 z0 rfl
  have p1 := p 1 z1 rfl
  have p2 := p 2 z2 rfl
  rw [Op.eqFields, if_pos n0, Op.eqFields, if_pos n1, Op.eqFields, if_pos n2, Op.eqFields]
  simp [t0, t1, t2, o0, o1, o2, p0, p1, p2, ek, Sem.run_bind]
theorem size_fd : (Tryz.prog.info? 39).map (·.size) = some 3 := by kernel_rfl

set_option maxHeartbeats 4000000 in
theorem awake12_any (w : World) (hL : Laid w) : Calls Tryz.prog 25 #[] w fun e w' => e = .returned (.bool true) ∧ Below w.heap.size w w' := by
  have HT := hidden (two_any w hL)
  have HC1 : Hid (∀ w' b g gs r, Ax w [] w' g gs 600 r 3 [(kyB 128, []), (z32, [])] → Blk w' b 3 #[.int .i64 (r : Int)] → Calls Tryz.prog 11 #[.pointer (some ⟨g, 0, none⟩), .slice (some ⟨b, 0, none⟩) 1 1] w' fun e w'' => ∃ a c, e = .returned (.tuple #[.slice a 0 c, .int .i64 0]) ∧ Below w'.heap.size w' w'') := fun w' b g gs r h hB => by
    obtain ⟨cs, A, hR, _, f1, _⟩ := ax_facts h
    refine (chk_any A (hR 1 (by omega)) (zs_blk (R := [r]) 1 hB rfl 1)).mono ?_
    rintro e w'' ⟨P, a, c, rfl, q1, q2, q3⟩
    rw [f1 P q1]
    exact ⟨a, c, rfl, q3⟩
  have HC0 : Hid (∀ w' g gs r, Ax w [] w' g gs 600 r 3 [(kyB 128, []), (z32, [])] → Calls Tryz.prog 11 #[.pointer (some ⟨g, 0, none⟩), .slice none 0 0] w' fun e w'' => ∃ b c, e = .returned (.tuple #[.slice (some ⟨b, 0, none⟩) 3 c, .int .i64 0]) ∧ w''.cell? ⟨b, 1, none⟩ = some (.int .i64 0) ∧ w''.cell? ⟨b, 2, none⟩ = some (.int .i64 1) ∧ Below w'.heap.size w' w'') := fun w' g gs r h => by
    obtain ⟨cs, A, hR, f0, _, _⟩ := ax_facts h
    refine (chk_any A (hR 0 (by omega)) (zs_nil w')).mono ?_
    rintro e w'' ⟨P, a, c, rfl, q1, q2, q3⟩
    obtain ⟨f2, f3⟩ := f0 P q1
    match hF : fnA cs P (slotsOf (cs.map pl)), f2, f3 with
    | x :: L, f2, f3 =>
      obtain ⟨g1, g2⟩ := f3 x (by simp)
      rw [hF, f2] at q2
      obtain ⟨b, c', e, _⟩ := lst_pos (owR_lst q2) (by omega)
      injection e with e1 e2 e3
      subst e1
      have z1 := lst_cell (owR_lst q2) 1 (by omega)
      have z2 := lst_cell (owR_lst q2) 2 (by omega)
      rw [flF_one] at z1 z2
      rw [g1] at z1
      rw [g2] at z2
      rw [f2]
      exact ⟨b, c, rfl, z1, z2, q3⟩
  have HC2 : Hid (∀ w' b g gs r, Ax w [] w' g gs 600 r 3 [(kyB 128, []), (z32, [])] → Blk w' b 3 #[.int .i64 (r : Int), .int .i64 (r : Int)] → Calls Tryz.prog 11 #[.pointer (some ⟨g, 0, none⟩), .slice (some ⟨b, 0, none⟩) 2 2] w' fun e w'' => ∃ b c, e = .returned (.tuple #[.slice (some ⟨b, 0, none⟩) 1 c, .int .i64 0]) ∧ w''.rangeAt b 0 [.int .i64 (r : Int), .int .i64 2, .int .i64 1] ∧ Below w'.heap.size w' w'') := fun w' b g gs r h hB => by
    obtain ⟨cs, A, hR, _, _, f0⟩ := ax_facts h
    refine (chk_any A (hR 2 (by omega)) (zs_blk (R := [r, r]) 2 hB rfl 2)).mono ?_
    rintro e w'' ⟨P, a, c, rfl, q1, q2, q3⟩
    obtain ⟨f1, f2, f3⟩ := f0 P q1
    rw [f1] at q2 ⊢
    obtain ⟨b, c', e, _⟩ := lst_pos (owR_lst q2) (by simp)
    injection e with e1 e2 e3
    subst e1
    refine ⟨b, c, rfl, fun j u hu => ?_, q3⟩
    have hj : j < 3 := by
      have := (List.getElem?_eq_some_iff.1 hu).1
      simpa using this
    rw [Nat.zero_add, lst_cell (owR_lst q2) j (by simp; omega), flF_one, f2, f3]
    exact hu
  have HEQ := hidden fd_eq
  clear hL
  generalize [(kyB 128, []), (z32, ([] : List Int))] = es at HT HC1 HC0 HC2
  go_enter Tryz.func25, Tryz.ntmps25
  go_wp2_with (first
    | (go_at_call 29; refine HT.out.mono ?_; rintro e w1 ⟨g, gs, r, rfl, h1⟩; have HA1 := hidden h1; have HA2 := hidden (h1.grow (grow_alloc w1 (.cells #[.int .i64 (r : Int)] 3))); clear h1)
    | (go_at_call 11; have mk := mk2; clear mk; refine (HC2.out _ _ _ _ _ HA5.out (Blk.new _ _ _)).mono ?_; rintro e w4 ⟨b2, c2, rfl, r4, b4⟩; have HR4 := hidden r4; have HW4 := hidden (grow_trans HA5.out.low b4); have z1 := below_cell b4 (below_cell (grow_alloc w3 (.cells #[.int .i64 (r : Int), .int .i64 (r : Int)] 3)) HZ1.out); have z2 := below_cell b4 (below_cell (grow_alloc w3 (.cells #[.int .i64 (r : Int), .int .i64 (r : Int)] 3)) HZ2.out); have hq := HEQ.out (r : Int) 2 1; clear r4 b4)
    | ((with_reducible refine at_ldd 75 74 ?_); refine wpList_ldw _ rfl _ _ rfl b2 0 rfl [.int .i64 (r : Int), .int .i64 2, .int .i64 1] _ HR4.out Tryz.underlying39 rfl size_fd ?_)
    | (go_at_call 11; have mk := mk1; clear mk; refine (HC0.out _ _ _ _ HA3.out).mono ?_; rintro e w3 ⟨b1, c1, rfl, z1, z2, b3⟩; have HZ1 := hidden z1; have HZ2 := hidden z2; have HA4 := hidden (HA3.out.grow b3); have HA5 := hidden ((HA3.out.grow b3).grow (grow_alloc w3 (.cells #[.int .i64 (r : Int), .int .i64 (r : Int)] 3))); have mk2 : Hid True := trivial; clear z1 z2 b3)
    | (go_at_call 11; refine (HC1.out _ _ _ _ _ HA2.out (Blk.new _ _ _)).mono ?_; rintro e w2 ⟨a1, c0, rfl, b2⟩; have HA3 := hidden (HA2.out.grow b2); have mk1 : Hid True := trivial; clear b2))
  go_ret
  exact ⟨rfl, HW4.out⟩

end Go.Proofs.YtkhinjkcfjncgaaGreatDoor

/- audit.Lost and audit.Shared, as contracts. -/
namespace Go.Proofs.YtkhinjkcfjncgaaGreatDoor
set_option maxRecDepth 20000
open Go.RowKit

def lsA (P : List Nat) (L : List Nat) : List Nat := L.filter fun (h : Nat) => decide (wnt P (h : Int) = 0)
theorem lsA_snoc (P L : List Nat) (h : Nat) : lsA P (L ++ [h]) = if wnt P (h : Int) = 0 then lsA P L ++ [h] else lsA P L := by
  unfold lsA
  rw [List.filter_append]
  by_cases e : wnt P (h : Int) = 0
  · rw [if_pos e]
    simp [e]
  · rw [if_neg e]
    simp [e]
def LoPost (cs : List (Nat × Ce)) (R : List Nat) (w : World) (e : Ending) (w' : World) : Prop := ∃ P a c, e = .returned (.tuple #[.slice a (lsA P (slotsOf (cs.map pl))).length c, .int .i64 0]) ∧ RdA cs R P ∧ w'.ownsRow w.heap.size 3 1 (.slice a (lsA P (slotsOf (cs.map pl))).length c) (lsA P (slotsOf (cs.map pl))).length (nats (lsA P (slotsOf (cs.map pl)))) ∧ Below w.heap.size w w'

set_option maxHeartbeats 4000000 in
theorem lost_any {w : World} {v : Value} {cs : List (Nat × Ce)} (A : Au w v cs) {R : List Nat} (hR : Rts cs R) {rv : Value} (hz : Zs w rv (zN R)) : Calls Tryz.prog 16 #[v, rv] w (LoPost cs R w) := by
  have HL := hidden (look_any A.vw A.wf A.le rv R hz hR.ok hR.lv)
  obtain ⟨L, hLe⟩ : ∃ L, L = slotsOf (cs.map pl) := ⟨_, rfl⟩
  have HN : Hid (∀ w', Below w.heap.size w w' → Calls Tryz.prog 33 #[v] w' fun e w'' => ∃ a c, e = .returned (.slice a L.length c) ∧ w''.ownsRow w'.heap.size 3 1 (.slice a L.length c) L.length (nats L) ∧ Below w'.heap.size w' w'') := by
    rw [hLe]
    exact A.hn
  have HLB : Hid (∀ k, k < L.length → ∃ x, L[k]? = some x ∧ x ≤ 65536) := fun k hk => by
    have hm := List.getElem_mem hk
    obtain ⟨i, e, h⟩ := (slots_mem (cs.map pl) _).1 (by rw [← hLe]; exact hm)
    rw [cnt_pl] at h
    have := cc_lt h
    have := A.le
    exact ⟨L[k], List.getElem?_eq_getElem hk, by omega⟩
  have HLL : Hid (L.length ≤ 65536) := by
    show _ ≤ _
    rw [hLe, slots_length]
    have := A.le
    have h2 : occs (cs.map pl) ≤ (cs.map pl).length := by
      unfold occs
      exact List.countP_le_length
    rw [List.length_map] at h2
    omega
  have HPost : Hid (∀ P a c n w', n = (lsA P L).length → RdA cs R P → w'.ownsRow w.heap.size 3 1 (.slice a n c) n (nats (lsA P L)) → Below w.heap.size w w' → LoPost cs R w (.returned (.tuple #[.slice a n c, .int .i64 0])) w') := fun P a c n w' hn q1 q2 q3 => by
    rw [hn] at q2 ⊢
    rw [hLe] at q2 ⊢
    exact ⟨P, a, c, rfl, q1, q2, q3⟩
  generalize HE : LoPost cs R w = Post at HPost ⊢
  generalize HE2 : L.length = M at HN HLL
  have HM := hidden HE2
  clear A hR hz HE hLe HE2
  go_enter Tryz.func16, Tryz.ntmps16
  go_wp2_with (first
    | (go_at_call 32; refine HL.out.mono ?_; rintro e w1 ⟨P, slv, bm, n, rfl, r1, o1, m1, l1, b1⟩; have HRD := hidden r1; have HO1 := hidden o1; have HM1 := hidden m1; have HB1 := hidden b1; have HLM := hidden l1; obtain ⟨sa, sc, esl⟩ := lst_slice (owR_lst o1); subst esl; clear r1 o1 m1 b1 l1)
    | ((with_reducible refine at_ald 6 ?_); refine wpList_al _ rfl _ rfl _ zero_sv ?_; intro w2 b6 hg1 hl1 B2 q2; have HB2 := hidden B2; have HQ2 := hidden q2; have HG2 := hidden hg1; clear hg1 hl1 B2 q2)
    | ((with_reducible refine at_st 6 ?_); refine wpList_sto _ rfl _ _ _ rfl b6 _ #[.slice sa (rch P).length sc, .map (some bm)] rfl rfl HB2.out size_sv rfl (by simp [Value.oneCell']) ?_; intro w3 B3 g3; have HB3 := hidden B3; have HQ3 := hidden (below_row HQ2.out g3 HG2.out); clear B3 g3)
    | (go_at_call 33; refine (HN.out _ (grow_trans HB1.out HQ3.out)).mono ?_; rintro e w4 ⟨la, lc, rfl, o4, b4⟩; have HO4 := hidden o4; have HQ4 := hidden b4; clear o4 b4))
  have HC1 : Hid (∀ w', Below w4.heap.size w4 w' → w'.cell? ⟨b6, 1, none⟩ = some (.map (some bm))) := fun w' hb => by rw [(((HB3.out.grow HQ4.out).grow hb)).cell]; rfl
  have HS4 := hidden ((HM1.out.grow HQ3.out).grow HQ4.out)
  have HW4 := hidden (grow_trans (grow_trans HB1.out HQ3.out) HQ4.out)
  clear HL HN HB3 HB2 HQ2 HG2 HO1 HM1
  go_loopw [23, 8] (fun iv fv wr => ∃ (k n : Nat) (a : Option Addr) (c : Nat), k ≤ M ∧ iv = .int .i64 (k : Int) ∧ fv = .slice a n c ∧ Hid (n = (lsA P (L.take k)).length) ∧ Hid (n ≤ k) ∧ Hid (wr.ownsRow w4.heap.size 3 1 (.slice a n c) n (nats (lsA P (L.take k)))) ∧ Hid (Below w4.heap.size w4 wr)) (fun iv _ _ => M - (intOf iv).toNat)
  case atStart => exact ⟨0, 0, none, 0, by omega, rfl, rfl, rfl, Nat.le_refl _, (World.ownsRow_nil _ _ _ _ : World.ownsRow w4 w4.heap.size 3 1 (.slice none 0 0) 0 []), Below.refl _ _⟩
  case round =>
    obtain ⟨k, n, a, c, hk, rfl, rfl, hn, hnk, hO, hB⟩ := hrel
    by_cases hlt : k < M
    · obtain ⟨x, hx, hx6⟩ := HLB.out k (by rw [HM.out]; exact hlt)
      have hgx : L.getD k 0 = x := by rw [List.getD_eq_getElem?_getD, hx]; rfl
      obtain ⟨gl, hla, hcl⟩ := ints_at (by have := owR_lst HO4.out; exact this) HM.out.symm k hlt
      subst hla
      rw [hgx] at hcl
      have hcl := below_cell hB.out hcl
      have hlk := (HS4.out.grow hB.out).look (wfi_nat x (by omega))
      have hc1 := HC1.out _ hB.out
      have HTK : Hid (lsA P (L.take (k + 1)) = if wnt P (x : Int) = 0 then lsA P (L.take k) ++ [x] else lsA P (L.take k)) := by
        show _ = _
        rw [List.take_add_one, hx]
        exact lsA_snoc P _ x
      have k0 : (0 : Int) ≤ (k : Int) := by omega
      have k1 : (k : Int) < (M : Int) := by omega
      have hM6 := HLL.out
      have hwk : wrap64 ((k : Int) + 1) = ((k + 1 : Nat) : Int) := by rw [Go.IntWalk.wrap64_in _ (by omega)]; rfl
      have HNS := hidden (nats_snoc (lsA P (L.take k)) x)
      obtain ⟨y, hy⟩ : ∃ y : Int, y = (x : Int) := ⟨_, rfl⟩
      obtain ⟨p, hp⟩ : ∃ p, p = wnt P (x : Int) := ⟨_, rfl⟩
      rw [← hp] at HTK hlk
      rw [← hy] at hcl hlk HNS
      clear hx hx6 hgx hp hy
      by_cases hpq : p = 0
      · have HT1 : Hid (lsA P (L.take (k + 1)) = lsA P (L.take k) ++ [x]) := by
          have := HTK.out
          rw [if_pos hpq] at this
          exact this
        have hpq2 : (p : Int) = 0 := by omega
        rw [hpq2] at hlk
        have HOd := hidden (owR_grow hO.out (grow_alloc wr (.cells #[.int .i64 y] 3)))
        have HDS : Hid (w4.heap.size ≤ wr.heap.size) := hB.out.size
        have HNK : Hid (n + 1 ≤ 65537) := by have := hnk.out; show _ ≤ _; omega
        clear HTK hpq hpq2
        go_wp2_with (at_builtin; refine wpList_appB _ rfl _ _ _ rfl w4.heap.size 3 1 8 Tryz.underlying23 info_nat (by omega) _ n (nats (lsA P (L.take k))) rfl HOd.out wr.heap.size [.int .i64 y] rfl (Blk.new _ _ _) rfl (by intro u hu; simp at hu; subst hu; rfl) (by have := HNK.out; simp only [maxLen]; omega) (by have := HNK.out; omega) (Nat.le_trans HDS.out (by simp)) ?_; intro a5 c5 w5 o5 g5; have HO5 := hidden o5; have HB5 := hidden (owR_below (grow_trans hB.out (grow_alloc wr (.cells #[.int .i64 y] 3))) HOd.out (Nat.le_refl _) g5); clear o5 g5)
        refine ⟨⟨k + 1, n + 1, a5, c5, by omega, by go_num, rfl, ?_, ?_, ?_, HB5⟩, by simp [intOf]; exact mea12 k1⟩
        · show _ = _
          rw [HT1.out, List.length_append, hn.out]
          rfl
        · have := hnk.out
          show _ ≤ _
          omega
        · show World.ownsRow _ _ _ _ _ _ _
          rw [HT1.out, HNS.out]
          exact HO5.out
      · have HT1 : Hid (lsA P (L.take (k + 1)) = lsA P (L.take k)) := by
          have := HTK.out
          rw [if_neg hpq] at this
          exact this
        have hpq2 : ¬ (p : Int) = 0 := by omega
        clear HTK HNS
        go_wp2_with fail
        exact ⟨⟨k + 1, n, a, c, by omega, by go_num, rfl, by rw [HT1.out]; exact hn, by have := hnk.out; show _ ≤ _; omega, by rw [HT1.out]; exact hO, hB⟩, by simp [intOf]; exact mea12 k1⟩
    · obtain rfl : k = M := by omega
      have nlt : ¬ (k : Int) < (k : Int) := by omega
      have HF : Hid (Post (.returned (.tuple #[.slice a n c, .int .i64 0])) wr) := by
        have q1 := hO.out
        have q2 := hn.out
        rw [List.take_of_length_le (by rw [HM.out]; omega)] at q1 q2
        exact HPost.out P a c n wr q2 HRD.out (owR_base q1 HW4.out.size) (grow_trans HW4.out hB.out)
      go_wp2_with fail
      exact HF.out

def shA (P : List Nat) (L : List Nat) : Nat := (L.filter fun (h : Nat) => decide (1 < wnt P (h : Int))).length
theorem shA_snoc (P L : List Nat) (h : Nat) : shA P (L ++ [h]) = if 1 < wnt P (h : Int) then shA P L + 1 else shA P L := by
  unfold shA
  rw [List.filter_append, List.length_append]
  by_cases e : 1 < wnt P (h : Int)
  · rw [if_pos e]
    simp [e]
  · rw [if_neg e]
    simp [e]
theorem shA_le (P L : List Nat) : shA P L ≤ L.length := List.length_filter_le _ _
def ShPost (cs : List (Nat × Ce)) (R : List Nat) (w : World) (e : Ending) (w' : World) : Prop := ∃ P, e = .returned (.tuple #[.int .i64 (shA P (rch P) : Int), .int .i64 0]) ∧ RdA cs R P ∧ Below w.heap.size w w'

set_option maxHeartbeats 4000000 in
theorem shd_any {w : World} {v : Value} {cs : List (Nat × Ce)} (A : Au w v cs) {R : List Nat} (hR : Rts cs R) {rv : Value} (hz : Zs w rv (zN R)) : Calls Tryz.prog 18 #[v, rv] w (ShPost cs R w) := by
  have HL := hidden (look_any A.vw A.wf A.le rv R hz hR.ok hR.lv)
  have HLL : Hid (∀ P, RdA cs R P → (rch P).length ≤ 65537 ∧ ∀ x ∈ rch P, x ≤ 65536) := fun P h => by
    have h1 := rch_len A.wf hR.lv h.rc
    have h2 := A.le
    refine ⟨by omega, fun x hx => ?_⟩
    have := cc_lt (((h.mem x).1 hx).live A.wf hR.lv).2
    omega
  have HPost : Hid (∀ P n w', n = shA P (rch P) → RdA cs R P → Below w.heap.size w w' → ShPost cs R w (.returned (.tuple #[.int .i64 (n : Int), .int .i64 0])) w') := fun P n w' hn q1 q2 => ⟨P, by rw [hn], q1, q2⟩
  generalize HE : ShPost cs R w = Post at HPost ⊢
  clear A hR hz HE
  go_enter Tryz.func18, Tryz.ntmps18
  go_wp2_with (first
    | (go_at_call 32; refine HL.out.mono ?_; rintro e w1 ⟨P, slv, bm, n, rfl, r1, o1, m1, l1, b1⟩; have HRD := hidden r1; have HO1 := hidden o1; have HM1 := hidden m1; have HB1 := hidden b1; have HLM := hidden l1; obtain ⟨sa, sc, esl⟩ := lst_slice (owR_lst o1); subst esl; clear r1 o1 m1 b1 l1)
    | ((with_reducible refine at_ald 6 ?_); refine wpList_al _ rfl _ rfl _ zero_sv ?_; intro w2 b6 hg1 hl1 B2 q2; have HB2 := hidden B2; have HQ2 := hidden q2; have HG2 := hidden hg1; clear hg1 hl1 B2 q2)
    | ((with_reducible refine at_st 6 ?_); refine wpList_sto _ rfl _ _ _ rfl b6 _ #[.slice sa (rch P).length sc, .map (some bm)] rfl rfl HB2.out size_sv rfl (by simp [Value.oneCell']) ?_; intro w3 B3 g3; have HB3 := hidden B3; have HQ3 := hidden (below_row HQ2.out g3 HG2.out); have c0 := B3.cell 0; have c1 := B3.cell 1; simp only [List.getElem?_toArray, List.getElem?_cons_zero, List.getElem?_cons_succ] at c0 c1; clear B3 g3))
  obtain ⟨hM, hLe⟩ := HLL.out P HRD.out
  have HS3 := hidden (HM1.out.grow HQ3.out)
  have HO3 := hidden (owR_grow HO1.out HQ3.out)
  have HW3 := hidden (grow_trans HB1.out HQ3.out)
  have HLE := hidden hLe
  obtain ⟨L, hL⟩ : ∃ L, L = rch P := ⟨_, rfl⟩
  obtain ⟨M, hMe⟩ : ∃ M, M = (rch P).length := ⟨_, rfl⟩
  rw [← hMe] at HO3 hM c0 ⊢
  rw [← hL] at HLE HO3 hMe
  have HME := hidden hMe
  have HLR := hidden hL
  clear HL HB3 HB2 HQ2 HG2 HO1 HM1 hLe hL hMe HLL HQ3
  go_loopw [23, 8] (fun iv fv wr => ∃ (k n : Nat), k ≤ M ∧ iv = .int .i64 (k : Int) ∧ fv = .int .i64 (n : Int) ∧ Hid (n = shA P (L.take k)) ∧ Hid (n ≤ k) ∧ wr = w3) (fun iv _ _ => M - (intOf iv).toNat)
  case atStart => exact ⟨0, 0, by omega, rfl, rfl, rfl, Nat.le_refl _, rfl⟩
  case round =>
    obtain ⟨k, n, hk, rfl, rfl, hn, hnk, rfl⟩ := hrel
    by_cases hlt : k < M
    · have hkL : k < L.length := by rw [← HME.out]; exact hlt
      have hx : L[k]? = some L[k] := List.getElem?_eq_getElem hkL
      have hx6 := HLE.out _ (List.getElem_mem hkL)
      obtain ⟨gl, hla, hcl⟩ := ints_at (by have := owR_lst HO3.out; exact this) HME.out k hlt
      subst hla
      have hgx : L.getD k 0 = L[k] := by rw [List.getD_eq_getElem?_getD, hx]; rfl
      rw [hgx] at hcl
      generalize L[k] = x at hx hx6 hcl
      have hlk := HS3.out.look (wfi_nat x (by omega))
      have HTK : Hid (shA P (L.take (k + 1)) = if 1 < wnt P (x : Int) then shA P (L.take k) + 1 else shA P (L.take k)) := by
        show _ = _
        rw [List.take_add_one, hx]
        exact shA_snoc P _ x
      have k0 : (0 : Int) ≤ (k : Int) := by omega
      have k1 : (k : Int) < (M : Int) := by omega
      have hwk : wrap64 ((k : Int) + 1) = ((k + 1 : Nat) : Int) := by rw [Go.IntWalk.wrap64_in _ (by omega)]; rfl
      have hnk2 := hnk.out
      have hwn : wrap64 ((n : Int) + 1) = ((n + 1 : Nat) : Int) := by rw [Go.IntWalk.wrap64_in _ (by omega)]; rfl
      generalize (x : Int) = y at *
      generalize wnt P y = p at *
      clear hx hx6 hgx hkL
      by_cases hp : 1 < p
      · have hp2 : (1 : Int) < (p : Int) := by omega
        go_wp2_with fail
        refine ⟨⟨k + 1, n + 1, by omega, by go_num, by go_num, ?_, ?_, trivial⟩, by simp [intOf]; exact mea12 k1⟩
        · show _ = _
          rw [HTK.out, if_pos hp, hn.out]
        · show _ ≤ _
          omega
      · have hp2 : ¬ (1 : Int) < (p : Int) := by omega
        go_wp2_with fail
        refine ⟨⟨k + 1, n, by omega, by go_num, rfl, ?_, ?_, trivial⟩, by simp [intOf]; exact mea12 k1⟩
        · show _ = _
          rw [HTK.out, if_neg hp, hn.out]
        · show _ ≤ _
          omega
    · obtain rfl : k = M := by omega
      have nlt : ¬ (k : Int) < (k : Int) := by omega
      have HF : Hid (Post (.returned (.tuple #[.int .i64 (n : Int), .int .i64 0])) wr) := by
        have q2 := hn.out
        rw [List.take_of_length_le (by rw [HME.out]; omega), HLR.out] at q2
        exact HPost.out P n wr q2 HRD.out HW3.out
      go_wp2_with fail
      exact HF.out

end Go.Proofs.YtkhinjkcfjncgaaGreatDoor
