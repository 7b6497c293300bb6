/- Law 12's examples: a store with a root of two leaves, held once; Check of it, of none, of it twice over. -/
import Derived.Test.YtkhinjkcfjncgaaGreatDoorNa40
import Derived.Test.YtkhinjkcfjncgaaGreatDoorNa47
namespace Go.Proofs.YtkhinjkcfjncgaaGreatDoor
set_option maxRecDepth 20000
open Go.RowKit

theorem Hs.au {w0 w : World} {S : List Nat} {g gs room : Nat} {cs : List (Nat × Ce)} {fr : List Nat} (h : Hs w0 S w g gs room cs fr) : Au w (.pointer (some ⟨g, 0, none⟩)) cs := ⟨h.vw, h.2, by
  obtain ⟨_, h2, h3⟩ := h.sizes
  omega, fun w' hb => by
  obtain ⟨⟨vp, vf, s, _, _⟩, _⟩ := h.grow hb
  exact hndS_ok s⟩

/-- Behind the first Put, and behind the second: callers hold the root once and nothing else. -/
def Ax (w : World) (S : List Nat) (w' : World) (g gs room r n : Nat) (es : List Ent) : Prop := ∃ cs fr T, Hs w S w' g gs room cs fr ∧ Rt cs r T ∧ T.ents.Perm es ∧ noc cs = n ∧ (∀ i, own cs [] i = if r = i + 1 then 1 else 0) ∧ cs.length ≤ n
theorem Ax.grow {w w' w'' : World} {S : List Nat} {g gs room r n : Nat} {es : List Ent} (h : Ax w S w' g gs room r n es) (hb : Below w'.heap.size w' w'') : Ax w S w'' g gs room r n es := by
  obtain ⟨cs, fr, T, h1, h2⟩ := h
  exact ⟨cs, fr, T, h1.grow hb, h2⟩
theorem Ax.low {w w' : World} {g gs room r n : Nat} {es : List Ent} (h : Ax w [] w' g gs room r n es) : Below w.heap.size w w' := by
  obtain ⟨cs, fr, T, h1, h2⟩ := h
  exact h1.low
theorem ax_first {w w' : World} {S : List Nat} {g gs room : Nat} (hL : Kq S w Laid) (H : Hs w S w' g gs room [] []) (K : List Int) (hK : Key K) (hr : 258 ≤ room) : Calls Tryz.prog 58 #[.pointer (some ⟨g, 0, none⟩), .int .i64 0, .agg (B K), .slice none 0 0] w' fun e w'' => ∃ r : Nat, e = .returned (.tuple #[.int .i64 (r : Int), .int .i64 0]) ∧ Ax w S w'' g gs room r 1 [(K, [])] := by
  obtain ⟨ss, hss, _⟩ := (Rt.zero []).bes Wf.new hK
  refine (put_any H (Rt.zero []) hK (u := .slice none 0 0) (bs := []) (fun _ _ => Reads.nil _) hL (by simp) (fun i => by rw [own_nil]; omega) (by show 0 + 258 ≤ room; omega) hss).mono ?_
  rintro e w'' ⟨top, cs', fr', T', rfl, p, hh⟩
  obtain ⟨q1, q2, q3⟩ := pa_first hss p
  refine ⟨top, rfl, cs', fr', T', hh, p.rt, q1, by rw [q2]; rfl, fun i => ?_, q3⟩
  have := p.own i
  rw [own_nil, if_neg (show ¬ 0 = i + 1 by omega)] at this
  omega
theorem ax_second {w w' : World} {S : List Nat} {g gs room r : Nat} (hL : Kq S w Laid) {k : List Int} (H : Ax w S w' g gs room r 1 [(k, [])]) (K : List Int) (hK : Key K) (hne : k ≠ K) (c : Nat) (hc : IsCommon K k c) (hr : 259 ≤ room) : Calls Tryz.prog 58 #[.pointer (some ⟨g, 0, none⟩), .int .i64 (r : Int), .agg (B K), .slice none 0 0] w' fun e w'' => ∃ r' : Nat, e = .returned (.tuple #[.int .i64 (r' : Int), .int .i64 0]) ∧ Ax w S w'' g gs room r' (c + 3) [(K, []), (k, [])] := by
  obtain ⟨cs, fr, T, h1, h2, h3, h4, h5, h6⟩ := H
  obtain rfl := h2.one h1.2 h3
  obtain ⟨ss, hss, _⟩ := h2.bes h1.2 hK
  refine (put_any h1 h2 hK (u := .slice none 0 0) (bs := []) (fun _ _ => Reads.nil _) hL (by simp) (fun i => by rw [h5 i]; split <;> omega) (by omega) hss).mono ?_
  rintro e w'' ⟨top, cs', fr', T', rfl, p, hh⟩
  obtain ⟨q1, q2, q3, q4⟩ := pa_second hc hne hss p
  refine ⟨top, rfl, cs', fr', T', hh, p.rt, q1, by omega, fun i => ?_, by omega⟩
  have := p.own i
  rw [h5 i] at this
  omega

set_option maxHeartbeats 4000000 in
theorem two_any (w : World) (hL : Laid w) : Calls Tryz.prog 29 #[] w fun e w' => ∃ g gs r : Nat, e = .returned (.tuple #[.pointer (some ⟨g, 0, none⟩), .int .i64 (r : Int)]) ∧ Ax w [] w' g gs 600 r 3 [(kyB 128, []), (z32, [])] := by
  have HN := hidden (hs_new 600 w (by omega) (by omega))
  have kz : Key z32 := ⟨rfl, z32_bytes⟩
  have k1 := kyB_key 128 (by omega) (by omega)
  have hne : z32 ≠ kyB 128 := by decide
  have hc : IsCommon (kyB 128) z32 0 := ⟨by omega, fun j hj => by omega, fun _ => by decide⟩
  have HB0 := hidden built_z
  have HB1 := hidden (built_ky 128)
  have H1 : Hid (∀ w' g gs, Hs w [] w' g gs 600 [] [] → Calls Tryz.prog 58 #[.pointer (some ⟨g, 0, none⟩), .int .i64 0, .agg (B z32), .slice none 0 0] w' fun e w'' => ∃ r : Nat, e = .returned (.tuple #[.int .i64 (r : Int), .int .i64 0]) ∧ Ax w [] w'' g gs 600 r 1 [(z32, [])]) := fun w' g gs h => ax_first (kq_nil fun _ hb => hL.grow hb) h z32 kz (by omega)
  have H2 : Hid (∀ w' g gs r, Ax w [] w' g gs 600 r 1 [(z32, [])] → Calls Tryz.prog 58 #[.pointer (some ⟨g, 0, none⟩), .int .i64 (r : Int), .agg (B (kyB 128)), .slice none 0 0] w' fun e w'' => ∃ r' : Nat, e = .returned (.tuple #[.int .i64 (r' : Int), .int .i64 0]) ∧ Ax w [] w'' g gs 600 r' 3 [(kyB 128, []), (z32, [])]) := fun w' g gs r h => ax_second (kq_nil fun _ hb => hL.grow hb) h (kyB 128) k1 hne 0 hc (by omega)
  generalize z32 = Z at HB0 H1 H2 ⊢
  generalize kyB 128 = Y at HB1 H2 ⊢
  clear hL kz k1 hne hc
  go_enter Tryz.func29, Tryz.ntmps29
  go_wp2_with (first
    | (go_at_call 46; refine HN.out.mono ?_; rintro e w1 ⟨g, gs, rfl, h1⟩; have HH1 := hidden h1; clear h1)
    | ((with_reducible refine at_bdd 12 ?_); refine wpList_bld _ rfl _ _ rfl _ (by rw [List.map_toArray]; exact HB0.out) ?_)
    | ((with_reducible refine at_bdd 19 ?_); refine wpList_bld _ rfl _ _ rfl _ (by rw [List.map_toArray]; exact HB1.out) ?_)
    | (go_at_call 58; have mk := mp1; clear mk; refine (H2.out _ _ _ _ HA1.out).mono ?_; rintro e w4 ⟨r2, rfl, h4⟩; have HA2 := hidden h4; clear h4)
    | (go_at_call 58; refine (H1.out _ _ _ HH1.out).mono ?_; rintro e w2 ⟨r1, rfl, h2⟩; have HA1 := hidden h2; clear h2; have mp1 : Hid True := trivial))
  go_ret2
  exact ⟨g, gs, r2, rfl, HA2.out⟩

theorem frE_rt {cs : List (Nat × Ce)} {r : Nat} (h : vRt true (cot cs r) (cat cs r) r = 0) : ∀ n, frE (cot cs) (cat cs) (zN (List.replicate n r)) = 0
  | 0 => rfl
  | n + 1 => by
    show (if vRt true (cot cs r) (cat cs r) r = 0 then _ else _) = 0
    rw [if_pos h]
    exact frE_rt h n
theorem rts_rep {cs : List (Nat × Ce)} {r : Nat} {T : Tre} (h : Rt cs r T) (hl : r ≠ 0 → 0 < cc cs (r - 1)) (n : Nat) (hn : n ≤ 64) : Rts cs (List.replicate n r) := ⟨by
  rw [auE, if_neg (by rw [zN_length, List.length_replicate]; omega)]
  exact frE_rt h.root n, fun x hx h0 => by
  obtain rfl := (List.mem_replicate.1 hx).2
  exact hl h0⟩

theorem zs_blk {w : World} {b : Nat} {R : List Nat} (n : Nat) (hB : Blk w b 3 (R.map fun (x : Nat) => Value.int .i64 (x : Int)).toArray) (hn : n = R.length) (c : Nat) : Zs w (.slice (some ⟨b, 0, none⟩) n c) (zN R) := by
  refine ⟨some ⟨b, 0, none⟩, c, by rw [zN_length, hn], fun k hk => ⟨b, 0, rfl, ?_⟩⟩
  rw [zN_length] at hk
  rw [hB.cell, zN_get R k hk]
  simp [hk]

/-- What the three Checks tell. -/
theorem ax_facts {w w' : World} {S : List Nat} {g gs room r : Nat} (h : Ax w S w' g gs room r 3 [(kyB 128, []), (z32, [])]) : ∃ cs, Au w' (.pointer (some ⟨g, 0, none⟩)) cs ∧ (∀ n, n ≤ 64 → Rts cs (List.replicate n r)) ∧ (∀ P, RdA cs [] P → (fnA cs P (slotsOf (cs.map pl))).length = 3 ∧ ∀ h ∈ fnA cs P (slotsOf (cs.map pl)), wnt P (h : Int) = 0 ∧ cc cs (h - 1) = 1) ∧ (∀ P, RdA cs [r] P → fnA cs P (slotsOf (cs.map pl)) = []) ∧ ∀ P, RdA cs [r, r] P → fnA cs P (slotsOf (cs.map pl)) = [r] ∧ wnt P (r : Int) = 2 ∧ cc cs (r - 1) = 1 := by
  obtain ⟨cs, fr, T, h1, h2, h3, h4, h5, h6⟩ := h
  have W := h1.2
  obtain ⟨r1, r2, r3, r4, r5⟩ := two_counts W h2.tree h2.dp h3 (by decide) (by decide) h6 h5
  have wa : ∀ n P, RdA cs (List.replicate n r) P → 0 < n → ∀ i, wnt P ((i + 1 : Nat) : Int) = (if r = i + 1 then n else 0) + ns cs i := fun n P hP hn i => by
    have := want_all W hP (fun x hx h0 => by
      obtain rfl := (List.mem_replicate.1 hx).2
      exact r2) (reach_all W hP (fun i hi => by
      rw [h5 i] at hi
      by_cases e : r = i + 1
      · rw [← e]
        exact List.mem_replicate.2 ⟨by omega, rfl⟩
      · rw [if_neg e] at hi
        omega)) i
    rw [this, List.count_replicate]
    simp only [beq_iff_eq]
  have cw : ∀ i, cc cs i = ns cs i + (if r = i + 1 then 1 else 0) := fun i => by
    have c1 := W.own i
    have c2 := W.ab i
    rw [List.count_nil, h5 i] at c1
    omega
  refine ⟨cs, h1.au, fun n hn => rts_rep h2 (fun _ => r2) n hn, fun P hP => ?_, fun P hP => ?_, fun P hP => ?_⟩
  · obtain rfl := rch_none hP
    have e : fnA cs [] (slotsOf (cs.map pl)) = slotsOf (cs.map pl) := by
      unfold fnA
      rw [List.filter_eq_self]
      intro x hx
      have := ((slot_iff cs x).1 hx).2
      rw [wnt_nil]
      simp
      omega
    rw [e]
    refine ⟨by rw [slots_length]; exact r5, fun x hx => ⟨by rw [wnt_nil], r4 _ ((slot_iff cs x).1 hx).2⟩⟩
  · unfold fnA
    rw [List.filter_eq_nil_iff]
    intro x hx
    obtain ⟨x0, hxc⟩ := (slot_iff cs x).1 hx
    obtain ⟨i, rfl⟩ : ∃ i, x = i + 1 := ⟨x - 1, by omega⟩
    have e1 := wa 1 P hP (by omega) i
    have e2 := cw i
    rw [Nat.add_sub_cancel] at hxc ⊢
    rw [e1]
    simp only [decide_eq_true_eq, ne_eq, Classical.not_not]
    omega
  · have hw2 : wnt P (r : Int) = 2 := by
      have := wa 2 P hP (by omega) (r - 1)
      rw [show r - 1 + 1 = r by omega, if_pos rfl, r3] at this
      exact this
    refine ⟨?_, hw2, r4 _ r2⟩
    have nd : (fnA cs P (slotsOf (cs.map pl))).Nodup := (slots_nd _).filter _
    have pm : (fnA cs P (slotsOf (cs.map pl))).Perm [r] := (List.perm_ext_iff_of_nodup nd (by simp)).2 (fun x => by
      rw [fnA, List.mem_filter, slot_iff, List.mem_singleton]
      constructor
      · rintro ⟨⟨x0, hxc⟩, hd⟩
        obtain ⟨i, rfl⟩ : ∃ i, x = i + 1 := ⟨x - 1, by omega⟩
        have e1 := wa 2 P hP (by omega) i
        have e2 := cw i
        rw [Nat.add_sub_cancel, e1] at hd
        simp only [decide_eq_true_eq, ne_eq] at hd
        apply Classical.byContradiction
        intro q
        rw [if_neg (fun z => q z.symm)] at hd e2
        omega
      · rintro rfl
        refine ⟨⟨by omega, r2⟩, ?_⟩
        rw [hw2, r4 _ r2]
        rfl)
    exact List.perm_singleton.1 pm

theorem flF_one (cs : List (Nat × Ce)) (P : List Nat) (x : Nat) (L : List Nat) : flF cs P (x :: L) = .int .i64 (x : Int) :: .int .i64 (wnt P (x : Int) : Int) :: .int .i64 (cc cs (x - 1) : Int) :: flF cs P L := rfl
theorem fd_eq (z0 z1 z2 : Int) (w : World) : (Op.equalIn 10000 39 (.agg #[.int .i64 z0, .int .i64 z1, .int .i64 z2]) (.agg #[.int .i64 z0, .int .i64 z1, .int .i64 z2])).run Tryz.prog w = .ok true w := by
  have hf : ∃ f0 f1 f2 : Field, (Tryz.prog.fieldsOf 39).toList = [f0, f1, f2] ∧ (f0.name ≠ "_" ∧ f0.type = 3 ∧ f0.offset = 0) ∧ (f1.name ≠ "_" ∧ f1.type = 3 ∧ f1.offset = 1) ∧ (f2.name ≠ "_" ∧ f2.type = 3 ∧ f2.offset = 2) :=
    ⟨_, _, _, rfl, ⟨by decide, rfl, rfl⟩, ⟨by decide, rfl, rfl⟩, ⟨by decide, rfl, rfl⟩⟩
  obtain ⟨f0, f1, f2, hF, ⟨n0, t0, o0⟩, ⟨n1, t1, o1⟩, ⟨n2, t2, o2⟩⟩ := hf
  have hu : Tryz.prog.underlying 39 = some (.struct (Tryz.prog.fieldsOf 39)) := by kernel_rfl
  have ek : ∀ z, (Op.equalIn 9999 3 (.int .i64 z) (.int .i64 z)).run Tryz.prog w = .ok true w := fun z => by rw [run_equalIn_int (P := Tryz.prog) (w := w) 9998 3 .i64 .i64 z z Tryz.underlying3]; simp
  rw [run_equalIn_struct (P := Tryz.prog) (w := w) 9999 39 _ _ hu (by kernel_rfl), hF]
  have p : ∀ k (z : Int), (#[Value.int .i64 z0, .int .i64 z1, .int .i64 z2] : Array Value)[k]? = some (.int .i64 z) → (part 3 #[Value.int .i64 z0, .int .i64 z1, .int .i64 z2] k).run Tryz.prog w = .ok (.int .i64 z) w := by
    intro k z hz
    unfold part
    rw [Sem.run_bind, Tryz.isAgg3 w]
    simp [hz]
  have p0 := p 0 z0 rfl
  have p1 := p 1 z1 rfl
  have p2 := p 2 z2 rfl
  rw [Op.eqFields, if_pos n0, Op.eqFields, if_pos n1, Op.eqFields, if_pos n2, Op.eqFields]
  simp [t0, t1, t2, o0, o1, o2, p0, p1, p2, ek, Sem.run_bind]
theorem size_fd : (Tryz.prog.info? 39).map (·.size) = some 3 := by kernel_rfl

set_option maxHeartbeats 4000000 in
theorem awake12_any (w : World) (hL : Laid w) : Calls Tryz.prog 25 #[] w fun e w' => e = .returned (.bool true) ∧ Below w.heap.size w w' := by
  have HT := hidden (two_any w hL)
  have HC1 : Hid (∀ w' b g gs r, Ax w [] w' g gs 600 r 3 [(kyB 128, []), (z32, [])] → Blk w' b 3 #[.int .i64 (r : Int)] → Calls Tryz.prog 11 #[.pointer (some ⟨g, 0, none⟩), .slice (some ⟨b, 0, none⟩) 1 1] w' fun e w'' => ∃ a c, e = .returned (.tuple #[.slice a 0 c, .int .i64 0]) ∧ Below w'.heap.size w' w'') := fun w' b g gs r h hB => by
    obtain ⟨cs, A, hR, _, f1, _⟩ := ax_facts h
    refine (chk_any A (hR 1 (by omega)) (zs_blk (R := [r]) 1 hB rfl 1)).mono ?_
    rintro e w'' ⟨P, a, c, rfl, q1, q2, q3⟩
    rw [f1 P q1]
    exact ⟨a, c, rfl, q3⟩
  have HC0 : Hid (∀ w' g gs r, Ax w [] w' g gs 600 r 3 [(kyB 128, []), (z32, [])] → Calls Tryz.prog 11 #[.pointer (some ⟨g, 0, none⟩), .slice none 0 0] w' fun e w'' => ∃ b c, e = .returned (.tuple #[.slice (some ⟨b, 0, none⟩) 3 c, .int .i64 0]) ∧ w''.cell? ⟨b, 1, none⟩ = some (.int .i64 0) ∧ w''.cell? ⟨b, 2, none⟩ = some (.int .i64 1) ∧ Below w'.heap.size w' w'') := fun w' g gs r h => by
    obtain ⟨cs, A, hR, f0, _, _⟩ := ax_facts h
    refine (chk_any A (hR 0 (by omega)) (zs_nil w')).mono ?_
    rintro e w'' ⟨P, a, c, rfl, q1, q2, q3⟩
    obtain ⟨f2, f3⟩ := f0 P q1
    match hF : fnA cs P (slotsOf (cs.map pl)), f2, f3 with
    | x :: L, f2, f3 =>
      obtain ⟨g1, g2⟩ := f3 x (by simp)
      rw [hF, f2] at q2
      obtain ⟨b, c', e, _⟩ := lst_pos (owR_lst q2) (by omega)
      injection e with e1 e2 e3
      subst e1
      have z1 := lst_cell (owR_lst q2) 1 (by omega)
      have z2 := lst_cell (owR_lst q2) 2 (by omega)
      rw [flF_one] at z1 z2
      rw [g1] at z1
      rw [g2] at z2
      rw [f2]
      exact ⟨b, c, rfl, z1, z2, q3⟩
  have HC2 : Hid (∀ w' b g gs r, Ax w [] w' g gs 600 r 3 [(kyB 128, []), (z32, [])] → Blk w' b 3 #[.int .i64 (r : Int), .int .i64 (r : Int)] → Calls Tryz.prog 11 #[.pointer (some ⟨g, 0, none⟩), .slice (some ⟨b, 0, none⟩) 2 2] w' fun e w'' => ∃ b c, e = .returned (.tuple #[.slice (some ⟨b, 0, none⟩) 1 c, .int .i64 0]) ∧ w''.rangeAt b 0 [.int .i64 (r : Int), .int .i64 2, .int .i64 1] ∧ Below w'.heap.size w' w'') := fun w' b g gs r h hB => by
    obtain ⟨cs, A, hR, _, _, f0⟩ := ax_facts h
    refine (chk_any A (hR 2 (by omega)) (zs_blk (R := [r, r]) 2 hB rfl 2)).mono ?_
    rintro e w'' ⟨P, a, c, rfl, q1, q2, q3⟩
    obtain ⟨f1, f2, f3⟩ := f0 P q1
    rw [f1] at q2 ⊢
    obtain ⟨b, c', e, _⟩ := lst_pos (owR_lst q2) (by simp)
    injection e with e1 e2 e3
    subst e1
    refine ⟨b, c, rfl, fun j u hu => ?_, q3⟩
    have hj : j < 3 := by
      have := (List.getElem?_eq_some_iff.1 hu).1
      simpa using this
    rw [Nat.zero_add, lst_cell (owR_lst q2) j (by simp; omega), flF_one, f2, f3]
    exact hu
  have HEQ := hidden fd_eq
  clear hL
  generalize [(kyB 128, []), (z32, ([] : List Int))] = es at HT HC1 HC0 HC2
  go_enter Tryz.func25, Tryz.ntmps25
  go_wp2_with (first
    | (go_at_call 29; refine HT.out.mono ?_; rintro e w1 ⟨g, gs, r, rfl, h1⟩; have HA1 := hidden h1; have HA2 := hidden (h1.grow (grow_alloc w1 (.cells #[.int .i64 (r : Int)] 3))); clear h1)
    | (go_at_call 11; have mk := mk2; clear mk; refine (HC2.out _ _ _ _ _ HA5.out (Blk.new _ _ _)).mono ?_; rintro e w4 ⟨b2, c2, rfl, r4, b4⟩; have HR4 := hidden r4; have HW4 := hidden (grow_trans HA5.out.low b4); have z1 := below_cell b4 (below_cell (grow_alloc w3 (.cells #[.int .i64 (r : Int), .int .i64 (r : Int)] 3)) HZ1.out); have z2 := below_cell b4 (below_cell (grow_alloc w3 (.cells #[.int .i64 (r : Int), .int .i64 (r : Int)] 3)) HZ2.out); have hq := HEQ.out (r : Int) 2 1; clear r4 b4)
    | ((with_reducible refine at_ldd 75 74 ?_); refine wpList_ldw _ rfl _ _ rfl b2 0 rfl [.int .i64 (r : Int), .int .i64 2, .int .i64 1] _ HR4.out Tryz.underlying39 rfl size_fd ?_)
    | (go_at_call 11; have mk := mk1; clear mk; refine (HC0.out _ _ _ _ HA3.out).mono ?_; rintro e w3 ⟨b1, c1, rfl, z1, z2, b3⟩; have HZ1 := hidden z1; have HZ2 := hidden z2; have HA4 := hidden (HA3.out.grow b3); have HA5 := hidden ((HA3.out.grow b3).grow (grow_alloc w3 (.cells #[.int .i64 (r : Int), .int .i64 (r : Int)] 3))); have mk2 : Hid True := trivial; clear z1 z2 b3)
    | (go_at_call 11; refine (HC1.out _ _ _ _ _ HA2.out (Blk.new _ _ _)).mono ?_; rintro e w2 ⟨a1, c0, rfl, b2⟩; have HA3 := hidden (HA2.out.grow b2); have mk1 : Hid True := trivial; clear b2))
  go_ret
  exact ⟨rfl, HW4.out⟩

end Go.Proofs.YtkhinjkcfjncgaaGreatDoor

/- AuditNone's walk: of what is no store, all calls answer so. -/
namespace Go.Proofs.YtkhinjkcfjncgaaGreatDoor
set_option maxRecDepth 20000
open Go.RowKit

set_option maxHeartbeats 16000000 in
theorem auditNone_walk (rv : Value) (w : World) (hL : Laid w) : Calls Tryz.prog 5 #[rv] w fun e w' => e = .returned (.bool true) ∧ Below w.heap.size w w' := by
  have HAW : Hid (∀ w', Below w.heap.size w w' → Calls Tryz.prog 25 #[] w' fun e w'' => e = .returned (.bool true) ∧ Below w'.heap.size w' w'') := fun w' hb => awake12_any w' (hL.grow hb)
  clear hL
  go_enter Tryz.func5, Tryz.ntmps5
  go_wp2_with fail
  have HQ4 : Hid (Below w.heap.size w ((w.alloc (.cells #[.pointer none, .pointer none] 58)).alloc (.cells #[.pointer none, .pointer (some ⟨w.heap.size, 0, none⟩)] 32))) := grow_trans (grow_alloc _ _) (grow_alloc _ _)
  have HBL : Hid (Blk ((w.alloc (.cells #[.pointer none, .pointer none] 58)).alloc (.cells #[.pointer none, .pointer (some ⟨w.heap.size, 0, none⟩)] 32)) (w.heap.size + 1) 32 #[.pointer none, .pointer (some ⟨w.heap.size, 0, none⟩)]) := by
    have := Blk.new (w.alloc (.cells #[.pointer none, .pointer none] 58)) 32 #[.pointer none, .pointer (some ⟨w.heap.size, 0, none⟩)]
    rw [show (w.alloc (.cells #[.pointer none, .pointer none] 58)).heap.size = w.heap.size + 1 by simp] at this
    exact this
  have HBS : Hid (Blk ((w.alloc (.cells #[.pointer none, .pointer none] 58)).alloc (.cells #[.pointer none, .pointer (some ⟨w.heap.size, 0, none⟩)] 32)) w.heap.size 58 #[.pointer none, .pointer none]) := (Blk.new w 58 #[.pointer none, .pointer none]).grow (grow_alloc _ _)
  generalize (w.alloc (.cells #[.pointer none, .pointer none] 58)).alloc (.cells #[.pointer none, .pointer (some ⟨w.heap.size, 0, none⟩)] 32) = w4 at *
  generalize w.heap.size + 1 = bl at *
  obtain ⟨bs, hbs⟩ : ∃ b, b = w.heap.size := ⟨_, rfl⟩
  rw [← hbs] at HBL HBS
  have HC0 : Hid (∀ w', Below w4.heap.size w4 w' → w'.cell? ⟨bl, 0, none⟩ = some (.pointer none)) := fun w' hb => by rw [(HBL.out.grow hb).cell]; rfl
  have HC1 : Hid (∀ w', Below w4.heap.size w4 w' → w'.cell? ⟨bl, 1, none⟩ = some (.pointer (some ⟨bs, 0, none⟩))) := fun w' hb => by rw [(HBL.out.grow hb).cell]; rfl
  have HNB : Hid (∀ w', Below w4.heap.size w4 w' → NoS w' (.pointer (some ⟨bs, 0, none⟩))) := fun w' hb => .inr ⟨bs, rfl, by rw [(HBS.out.grow hb).cell]; rfl⟩
  clear HBS HBL hbs
  go_loopw [4] (fun iv wr => (iv = .int .i64 0 ∧ Hid (Below w4.heap.size w4 wr)) ∨ (iv = .int .i64 1 ∧ Hid (Below w4.heap.size w4 wr)) ∨ (iv = .int .i64 2 ∧ Hid (Below w4.heap.size w4 wr))) (fun iv _ => 2 - (intOf iv).toNat)
  case atStart => exact .inl ⟨rfl, Below.refl _ _⟩
  case round =>
    rcases hrel with ⟨rfl, HBW⟩ | ⟨rfl, HBW⟩ | ⟨rfl, HBW⟩
    · as_aux_lemma =>
        have HN : Hid (∀ w', Below w4.heap.size w4 w' → NoS w' (.pointer none)) := fun w' _ => .inl rfl
        have HCheck : Hid (∀ w', Below w4.heap.size w4 w' → Calls Tryz.prog 11 #[.pointer none, rv] w' fun e w'' => e = .returned (.tuple #[.slice none 0 0, .int .i64 1]) ∧ Below w'.heap.size w' w'') := fun w' hb => chk_bad (lkBad_no (vw_no (HN.out _ hb)) rv) (by decide)
        have HReached : Hid (∀ w', Below w4.heap.size w4 w' → Calls Tryz.prog 14 #[.pointer none, rv] w' fun e w'' => e = .returned (.tuple #[.slice none 0 0, .int .i64 1]) ∧ Below w'.heap.size w' w'') := fun w' hb => rea_bad (lkBad_no (vw_no (HN.out _ hb)) rv) (by decide)
        have HLost : Hid (∀ w', Below w4.heap.size w4 w' → Calls Tryz.prog 16 #[.pointer none, rv] w' fun e w'' => e = .returned (.tuple #[.slice none 0 0, .int .i64 1]) ∧ Below w'.heap.size w' w'') := fun w' hb => lost_bad (lkBad_no (vw_no (HN.out _ hb)) rv) (by decide)
        have HShared : Hid (∀ w', Below w4.heap.size w4 w' → Calls Tryz.prog 18 #[.pointer none, rv] w' fun e w'' => e = .returned (.tuple #[.int .i64 0, .int .i64 1]) ∧ Below w'.heap.size w' w'') := fun w' hb => shd_bad (lkBad_no (vw_no (HN.out _ hb)) rv) (by decide)
        have HSound : Hid (∀ w', Below w4.heap.size w4 w' → Calls Tryz.prog 23 #[.pointer none, .int .i64 0] w' fun e w'' => e = .returned (.tuple #[.bool false, .int .i64 1]) ∧ Below w'.heap.size w' w'') := fun w' hb => snd_bad (fun w'' b hb' _ => lkBad_no (vw_no (HN.out _ hb)) _ w'' hb') (by decide)
        have q0 := HC0.out _ HBW.out
        clear HN
        go_wp2_with (first
          | (go_at_call 11; refine (HCheck.out _ HBW.out).mono ?_; rintro e x0 ⟨rfl, b1⟩; have HX0 := hidden (grow_trans HBW.out b1); have q1 := HC0.out _ HX0.out; clear b1)
          | (go_at_call 14; refine (HReached.out _ HX0.out).mono ?_; rintro e x1 ⟨rfl, b1⟩; have HX1 := hidden (grow_trans HX0.out b1); have q2 := HC0.out _ HX1.out; clear b1)
          | (go_at_call 16; refine (HLost.out _ HX1.out).mono ?_; rintro e x2 ⟨rfl, b1⟩; have HX2 := hidden (grow_trans HX1.out b1); have q3 := HC0.out _ HX2.out; clear b1)
          | (go_at_call 18; refine (HShared.out _ HX2.out).mono ?_; rintro e x3 ⟨rfl, b1⟩; have HX3 := hidden (grow_trans HX2.out b1); have q4 := HC0.out _ HX3.out; clear b1)
          | (go_at_call 23; refine (HSound.out _ HX3.out).mono ?_; rintro e x4 ⟨rfl, b1⟩; have HX4 := hidden (grow_trans HX3.out b1); have q5 := HC0.out _ HX4.out; clear b1))
        exact ⟨.inr (.inl ⟨by go_num, HX4⟩), by simp [intOf]⟩
    · as_aux_lemma =>
        have HN : Hid (∀ w', Below w4.heap.size w4 w' → NoS w' (.pointer (some ⟨bs, 0, none⟩))) := HNB.out
        have HCheck : Hid (∀ w', Below w4.heap.size w4 w' → Calls Tryz.prog 11 #[.pointer (some ⟨bs, 0, none⟩), rv] w' fun e w'' => e = .returned (.tuple #[.slice none 0 0, .int .i64 1]) ∧ Below w'.heap.size w' w'') := fun w' hb => chk_bad (lkBad_no (vw_no (HN.out _ hb)) rv) (by decide)
        have HReached : Hid (∀ w', Below w4.heap.size w4 w' → Calls Tryz.prog 14 #[.pointer (some ⟨bs, 0, none⟩), rv] w' fun e w'' => e = .returned (.tuple #[.slice none 0 0, .int .i64 1]) ∧ Below w'.heap.size w' w'') := fun w' hb => rea_bad (lkBad_no (vw_no (HN.out _ hb)) rv) (by decide)
        have HLost : Hid (∀ w', Below w4.heap.size w4 w' → Calls Tryz.prog 16 #[.pointer (some ⟨bs, 0, none⟩), rv] w' fun e w'' => e = .returned (.tuple #[.slice none 0 0, .int .i64 1]) ∧ Below w'.heap.size w' w'') := fun w' hb => lost_bad (lkBad_no (vw_no (HN.out _ hb)) rv) (by decide)
        have HShared : Hid (∀ w', Below w4.heap.size w4 w' → Calls Tryz.prog 18 #[.pointer (some ⟨bs, 0, none⟩), rv] w' fun e w'' => e = .returned (.tuple #[.int .i64 0, .int .i64 1]) ∧ Below w'.heap.size w' w'') := fun w' hb => shd_bad (lkBad_no (vw_no (HN.out _ hb)) rv) (by decide)
        have HSound : Hid (∀ w', Below w4.heap.size w4 w' → Calls Tryz.prog 23 #[.pointer (some ⟨bs, 0, none⟩), .int .i64 0] w' fun e w'' => e = .returned (.tuple #[.bool false, .int .i64 1]) ∧ Below w'.heap.size w' w'') := fun w' hb => snd_bad (fun w'' b hb' _ => lkBad_no (vw_no (HN.out _ hb)) _ w'' hb') (by decide)
        have q0 := HC1.out _ HBW.out
        clear HN
        go_wp2_with (first
          | (go_at_call 11; refine (HCheck.out _ HBW.out).mono ?_; rintro e x0 ⟨rfl, b1⟩; have HX0 := hidden (grow_trans HBW.out b1); have q1 := HC1.out _ HX0.out; clear b1)
          | (go_at_call 14; refine (HReached.out _ HX0.out).mono ?_; rintro e x1 ⟨rfl, b1⟩; have HX1 := hidden (grow_trans HX0.out b1); have q2 := HC1.out _ HX1.out; clear b1)
          | (go_at_call 16; refine (HLost.out _ HX1.out).mono ?_; rintro e x2 ⟨rfl, b1⟩; have HX2 := hidden (grow_trans HX1.out b1); have q3 := HC1.out _ HX2.out; clear b1)
          | (go_at_call 18; refine (HShared.out _ HX2.out).mono ?_; rintro e x3 ⟨rfl, b1⟩; have HX3 := hidden (grow_trans HX2.out b1); have q4 := HC1.out _ HX3.out; clear b1)
          | (go_at_call 23; refine (HSound.out _ HX3.out).mono ?_; rintro e x4 ⟨rfl, b1⟩; have HX4 := hidden (grow_trans HX3.out b1); have q5 := HC1.out _ HX4.out; clear b1))
        exact ⟨.inr (.inr ⟨by go_num, HX4⟩), by simp [intOf]⟩
    · go_wp2_with (first
        | (go_at_call 25; refine (HAW.out _ (grow_trans HQ4.out HBW.out)).mono ?_; rintro e w9 ⟨rfl, b9⟩; have HB9 := hidden b9; clear b9))
      go_ret
      exact ⟨rfl, grow_trans (grow_trans HQ4.out HBW.out) HB9.out⟩

end Go.Proofs.YtkhinjkcfjncgaaGreatDoor
