/- The document's examples that the laws of put ask (awake), as a contract. -/
import Derived.Test.YtlinalcjdpikeabDoorPk43
namespace Go.Proofs.YtlinalcjdpikeabDoor
set_option maxRecDepth 20000
open Go.RowKit

theorem built_z : Tryd.prog.built 36 [] = some (B z32) := by kernel_rfl

/-- A root with one entry is its leaf. -/
theorem Rt.one {cs : List (Nat × Ce)} {h : Nat} {T : Tre} (r : Rt cs h T) (W : Wf cs []) {e : Ent} (he : T.ents.Perm [e]) : T = .lf e.1 e.2 := by
  have hl := he.length_eq
  match T, r.tree with
  | .emp, _ => simp [Tre.ents] at hl
  | .lf k b, _ =>
    have := he.mem_iff.1 (show ((k, b) : Ent) ∈ [(k, b)] by simp)
    rw [← List.mem_singleton.1 this]
  | .nd d hl' hr L R, hT =>
    have h2 := (nd_ok W hT).two
    rw [show (Tre.nd d hl' hr L R).ents = L.ents ++ R.ents from rfl] at hl
    simp only [List.length_singleton] at hl
    omega

/-- A first entry. -/
theorem pa_first {fr fr' : List Nat} {K bs : List Int} {ss : List Nat} {top : Nat} {cs cs' : List (Nat × Ce)} {T' : Tre} (hss : BesIs K .emp 0 ss) (p : PaIs cs fr .emp 0 K bs ss top cs' fr' T') : T'.ents.Perm [(K, bs)] ∧ noc cs' = noc cs + 1 ∧ cs'.length ≤ cs.length + 1 := by
  have e : ss = [] := by
    rcases hss with ⟨_, e⟩ | ⟨b, e, _⟩ | ⟨k, b, c, e, _⟩
    · exact e
    · cases e
    · cases e
  subst e
  exact ⟨p.ents, p.just (.inl rfl), p.len⟩

/-- A second one that parts at the depth c. -/
theorem pa_second {fr fr' : List Nat} {K bs k b : List Int} {h c : Nat} {ss : List Nat} {top : Nat} {cs cs' : List (Nat × Ce)} {T' : Tre} (hc : IsCommon K k c) (hne : k ≠ K) (hss : BesIs K (.lf k b) h ss) (p : PaIs cs fr (.lf k b) h K bs ss top cs' fr' T') : T'.ents.Perm [(K, bs), (k, b)] ∧ noc cs' = noc cs + (c + 2) ∧ costN (.lf k b) K bs ss = c + 2 ∧ cs'.length ≤ cs.length + (c + 2) := by
  have e : ss = besX [] c h := by
    rcases hss with ⟨e, _⟩ | ⟨b', e, _⟩ | ⟨k', b', c', e1, _, e3, _, _, e6⟩
    · cases e
    · injection e with e _
      injection e with e _
      exact absurd e hne
    · injection e1 with e1 _
      injection e1 with e1 _
      subst e1
      rw [e6, hc.one e3]
      rfl
  have hl : ss.length = c + 1 := by rw [e, besX_len _ _ _ (by simp)]
  have hcst : costN (.lf k b) K bs ss = c + 2 := by
    have : ¬ ((Tre.lf k b).efin K = [(K, bs)]) := fun q => by
      injection q with q _
      injection q with q _
      exact hne q
    rw [costN, if_neg this, hl]
    omega
  refine ⟨?_, ?_, hcst, by rw [← hcst]; exact p.len⟩
  · have := p.ents
    unfold upE at this
    rw [show (Tre.lf k b).ents = [(k, b)] from rfl, List.filter_cons, if_pos (by simpa using hne), List.filter_nil] at this
    exact this
  · rw [← hcst]
    exact p.just (.inr (by rw [e]; simp [besX]))

/-- Behind the first Put, and behind the second. -/
def Aw (w : World) (S : List Nat) (w' : World) (g gs room r n m : Nat) (es : List Ent) : Prop := ∃ cs fr T, Hs w S w' g gs room cs fr ∧ Rt cs r T ∧ T.ents.Perm es ∧ noc cs = n ∧ (∀ i, own cs [] i ≤ m) ∧ cs.length ≤ n
theorem Aw.grow {w w' w'' : World} {S : List Nat} {g gs room r n m : Nat} {es : List Ent} (h : Aw w S w' g gs room r n m es) (hb : Below w'.heap.size w' w'') : Aw w S w'' g gs room r n m es := by
  obtain ⟨cs, fr, T, h1, h2⟩ := h
  exact ⟨cs, fr, T, h1.grow hb, h2⟩
theorem Aw.low {w w' : World} {g gs room r n m : Nat} {es : List Ent} (h : Aw w [] w' g gs room r n m es) : Below w.heap.size w w' := by
  obtain ⟨cs, fr, T, h1, h2⟩ := h
  exact h1.low
theorem Aw.size {w w' : World} {S : List Nat} {g gs room r n m : Nat} {es : List Ent} (h : Aw w S w' g gs room r n m es) : Calls Tryd.prog 13 #[.pointer (some ⟨g, 0, none⟩), .int .i64 (r : Int)] w' fun e w'' => e = .returned (.int .i64 (es.length : Int)) ∧ Below w'.heap.size w' w'' := by
  obtain ⟨cs, fr, T, h1, h2, h3, _⟩ := h
  have := size_any h1.vw (r : Int)
  rwa [cat_nat, h2.size h1.2, h3.length_eq] at this
theorem Aw.occ {w w' : World} {S : List Nat} {g gs room r n m : Nat} {es : List Ent} (h : Aw w S w' g gs room r n m es) : Calls Tryd.prog 8 #[.pointer (some ⟨g, 0, none⟩)] w' fun e w'' => e = .returned (.int .i64 (n : Int)) ∧ Below w'.heap.size w' w'' := by
  obtain ⟨cs, fr, T, h1, h2, h3, h4, _⟩ := h
  have := hs_occ h1
  rwa [h4] at this

theorem own_nil (i : Nat) : own [] [] i = 0 := by simp [own, cc]
theorem own_step {a b x y : Nat} {p q : Prop} [Decidable p] [Decidable q] (h : a + (if p then 1 else 0) = b + (if q then 1 else 0)) (hb : b ≤ x) (hy : x + 1 ≤ y) : a ≤ y := by
  split at h <;> split at h <;> omega

theorem aw_first {w w' : World} {S : List Nat} {g gs room : Nat} (hL : Kq S w Laid) (H : Hs w S w' g gs room [] []) (K : List Int) (hK : Key K) (hr : 258 ≤ room) : Calls Tryd.prog 11 #[.pointer (some ⟨g, 0, none⟩), .int .i64 0, .agg (B K), .slice none 0 0] w' fun e w'' => ∃ r : Nat, e = .returned (.tuple #[.int .i64 (r : Int), .int .i64 0]) ∧ Aw w S w'' g gs room r 1 1 [(K, [])] := by
  obtain ⟨ss, hss, _⟩ := (Rt.zero []).bes Wf.new hK
  refine (put_any H (Rt.zero []) hK (u := .slice none 0 0) (bs := []) (fun _ _ => Reads.nil _) hL (by simp) (fun i => by rw [own_nil]; omega) (by show 0 + 258 ≤ room; omega) hss).mono ?_
  rintro e w'' ⟨top, cs', fr', T', rfl, p, hh⟩
  obtain ⟨q1, q2, q3⟩ := pa_first hss p
  exact ⟨top, rfl, cs', fr', T', hh, p.rt, q1, by rw [q2]; rfl, fun i => own_step (p.own i) (x := 0) (by rw [own_nil]; omega) (by omega), q3⟩

theorem aw_second {w w' : World} {S : List Nat} {g gs room r : Nat} (hL : Kq S w Laid) {k : List Int} (H : Aw w S w' g gs room r 1 1 [(k, [])]) (K : List Int) (hK : Key K) (hne : k ≠ K) (c : Nat) (hc : IsCommon K k c) (hr : 259 ≤ room) : Calls Tryd.prog 11 #[.pointer (some ⟨g, 0, none⟩), .int .i64 (r : Int), .agg (B K), .slice none 0 0] w' fun e w'' => ∃ r' : Nat, e = .returned (.tuple #[.int .i64 (r' : Int), .int .i64 0]) ∧ Aw w S w'' g gs room r' (c + 3) 2 [(K, []), (k, [])] := by
  obtain ⟨cs, fr, T, h1, h2, h3, h4, h5, h6⟩ := H
  obtain rfl := h2.one h1.2 h3
  obtain ⟨ss, hss, _⟩ := h2.bes h1.2 hK
  refine (put_any h1 h2 hK (u := .slice none 0 0) (bs := []) (fun _ _ => Reads.nil _) hL (by simp) (fun i => Nat.le_trans (h5 i) (by omega)) (by omega) hss).mono ?_
  rintro e w'' ⟨top, cs', fr', T', rfl, p, hh⟩
  obtain ⟨q1, q2, q3, q4⟩ := pa_second hc hne hss p
  exact ⟨top, rfl, cs', fr', T', hh, p.rt, q1, by omega, fun i => own_step (p.own i) (h5 i) (by omega), by omega⟩

theorem aw_same {w w' : World} {S : List Nat} {g gs room r n m : Nat} {es : List Ent} (H : Aw w S w' g gs room r n m es) (K : List Int) (hK : Key K) (hm : (K, []) ∈ es) (hr : n + 258 ≤ room) : Calls Tryd.prog 11 #[.pointer (some ⟨g, 0, none⟩), .int .i64 (r : Int), .agg (B K), .slice none 0 0] w' fun e w'' => e = .returned (.tuple #[.int .i64 (r : Int), .int .i64 0]) ∧ Below w'.heap.size w' w'' := by
  obtain ⟨cs, fr, T, h1, h2, h3, h4, h5, h6⟩ := H
  have hsm := efin_key h1.2 K T r h2.tree (K, []) (h3.mem_iff.2 hm) rfl
  exact put_same h1 r T h2.tree K hK (.slice none 0 0) [] (Reads.nil _) (h2.refuse (by simp)) h2.root (by omega) hsm

set_option maxHeartbeats 4000000 in
theorem awake9_any (w : World) (hL : Laid w) : Calls Tryd.prog 5 #[] w fun e w' => e = .returned (.bool true) ∧ Below w.heap.size w w' := by
  have HN := hidden (hs_new 600 w (by omega) (by omega))
  have kz : Key z32 := ⟨rfl, z32_bytes⟩
  have k1 := kyB_key 128 (by omega) (by omega)
  have hne : z32 ≠ kyB 128 := by decide
  have hc : IsCommon (kyB 128) z32 0 := ⟨by omega, fun j hj => by omega, fun _ => by decide⟩
  have HB0 := hidden built_z
  have HB1 := hidden (built_ky 128)
  have H1 : Hid (∀ w' g gs, Hs w [] w' g gs 600 [] [] → Calls Tryd.prog 11 #[.pointer (some ⟨g, 0, none⟩), .int .i64 0, .agg (B z32), .slice none 0 0] w' fun e w'' => ∃ r : Nat, e = .returned (.tuple #[.int .i64 (r : Int), .int .i64 0]) ∧ Aw w [] w'' g gs 600 r 1 1 [(z32, [])]) := fun w' g gs h => aw_first (kq_nil fun _ hb => hL.grow hb) h z32 kz (by omega)
  have H2 : Hid (∀ w' g gs r, Aw w [] w' g gs 600 r 1 1 [(z32, [])] → Calls Tryd.prog 11 #[.pointer (some ⟨g, 0, none⟩), .int .i64 (r : Int), .agg (B (kyB 128)), .slice none 0 0] w' fun e w'' => ∃ r' : Nat, e = .returned (.tuple #[.int .i64 (r' : Int), .int .i64 0]) ∧ Aw w [] w'' g gs 600 r' 3 2 [(kyB 128, []), (z32, [])]) := fun w' g gs r h => aw_second (kq_nil fun _ hb => hL.grow hb) h (kyB 128) k1 hne 0 hc (by omega)
  have H3 : Hid (∀ w' g gs r, Aw w [] w' g gs 600 r 3 2 [(kyB 128, []), (z32, [])] → Calls Tryd.prog 11 #[.pointer (some ⟨g, 0, none⟩), .int .i64 (r : Int), .agg (B z32), .slice none 0 0] w' fun e w'' => e = .returned (.tuple #[.int .i64 (r : Int), .int .i64 0]) ∧ Below w'.heap.size w' w'') := fun w' g gs r h => aw_same h z32 kz (by simp) (by omega)
  have HS1 : Hid (∀ w' g gs r, Aw w [] w' g gs 600 r 1 1 [(z32, [])] → Calls Tryd.prog 13 #[.pointer (some ⟨g, 0, none⟩), .int .i64 (r : Int)] w' fun e w'' => e = .returned (.int .i64 1) ∧ Below w'.heap.size w' w'') := fun w' g gs r h => h.size
  have HS2 : Hid (∀ w' g gs r, Aw w [] w' g gs 600 r 3 2 [(kyB 128, []), (z32, [])] → Calls Tryd.prog 13 #[.pointer (some ⟨g, 0, none⟩), .int .i64 (r : Int)] w' fun e w'' => e = .returned (.int .i64 2) ∧ Below w'.heap.size w' w'') := fun w' g gs r h => h.size
  have HO1 : Hid (∀ w' g gs r, Aw w [] w' g gs 600 r 1 1 [(z32, [])] → Calls Tryd.prog 8 #[.pointer (some ⟨g, 0, none⟩)] w' fun e w'' => e = .returned (.int .i64 1) ∧ Below w'.heap.size w' w'') := fun w' g gs r h => h.occ
  have HO2 : Hid (∀ w' g gs r, Aw w [] w' g gs 600 r 3 2 [(kyB 128, []), (z32, [])] → Calls Tryd.prog 8 #[.pointer (some ⟨g, 0, none⟩)] w' fun e w'' => e = .returned (.int .i64 3) ∧ Below w'.heap.size w' w'') := fun w' g gs r h => h.occ
  generalize z32 = Z at HB0 H1 H2 H3 HS1 HS2 HO1 HO2
  generalize kyB 128 = Y at HB1 H2 H3 HS2 HO2
  clear hL kz k1 hne hc
  go_enter Tryd.func5, Tryd.ntmps5
  go_wp2_with (first
    | (go_at_call 7; refine HN.out.mono ?_; rintro e w1 ⟨g, gs, rfl, h1⟩; have HH1 := hidden h1; clear h1)
    | ((with_reducible refine at_bdd 15 ?_); refine wpList_bld _ rfl _ _ rfl _ (by rw [List.map_toArray]; exact HB0.out) ?_)
    | ((with_reducible refine at_bdd 35 ?_); refine wpList_bld _ rfl _ _ rfl _ (by rw [List.map_toArray]; exact HB1.out) ?_)
    | ((with_reducible refine at_bdd 55 ?_); refine wpList_bld _ rfl _ _ rfl _ (by rw [List.map_toArray]; exact HB0.out) ?_)
    | (go_at_call 11; have mk := mp2; clear mk; refine (H3.out _ _ _ _ HA2.out).mono ?_; rintro e w6 ⟨rfl, b6⟩; have HBL := hidden (grow_trans HA2.out.low b6); clear b6)
    | (go_at_call 11; have mk := mp1; clear mk; refine (H2.out _ _ _ _ HA1.out).mono ?_; rintro e w4 ⟨r2, rfl, h4⟩; have HA2 := hidden h4; clear h4; have mp2 : Hid True := trivial)
    | (go_at_call 11; refine (H1.out _ _ _ HH1.out).mono ?_; rintro e w2 ⟨r1, rfl, h2⟩; have HA1 := hidden h2; clear h2; have mp1 : Hid True := trivial)
    | (go_at_call 13; have mk := mp2; clear mk; refine (HS2.out _ _ _ _ HA2.out).mono ?_; rintro e w5 ⟨rfl, b5⟩; replace HA2 := hidden (HA2.out.grow b5); clear b5)
    | (go_at_call 13; refine (HS1.out _ _ _ _ HA1.out).mono ?_; rintro e w3 ⟨rfl, b3⟩; replace HA1 := hidden (HA1.out.grow b3); clear b3)
    | (go_at_call 8; have mk := mp2; clear mk; refine (HO2.out _ _ _ _ HA2.out).mono ?_; rintro e w5 ⟨rfl, b5⟩; replace HA2 := hidden (HA2.out.grow b5); clear b5)
    | (go_at_call 8; refine (HO1.out _ _ _ _ HA1.out).mono ?_; rintro e w3 ⟨rfl, b3⟩; replace HA1 := hidden (HA1.out.grow b3); clear b3))
  go_ret
  exact ⟨rfl, HBL.out⟩

end Go.Proofs.YtlinalcjdpikeabDoor

/- PutKnown's walk: the document's examples. -/
namespace Go.Proofs.YtlinalcjdpikeabDoor
set_option maxRecDepth 20000
open Go.RowKit

/-- The key whose last byte is 1, all others 0. -/
def kyO : List Int := List.replicate 31 0 ++ [1]
theorem kyO_key : Key kyO := ⟨by simp [kyO], fun z hz => by
  rcases List.mem_append.1 hz with hz | hz
  · rw [List.eq_of_mem_replicate hz]
    omega
  · rw [List.mem_singleton.1 hz]
    omega⟩
theorem kyO_set : (B z32).setIfInBounds 31 (.int .u8 1) = B kyO := by rfl
theorem kyO_com : IsCommon kyO z32 255 := ⟨by omega, fun j hj => by
  have : (List.range 255).all (fun j => decide (kb kyO j = kb z32 j)) = true := by decide +kernel
  simpa using List.all_eq_true.1 this j (List.mem_range.2 hj), fun _ => by decide⟩

theorem aw_cost {w w' : World} {S : List Nat} {g gs room r : Nat} {k : List Int} (H : Aw w S w' g gs room r 1 1 [(k, [])]) (K : List Int) (hK : Key K) (hne : k ≠ K) (c : Nat) (hc : IsCommon K k c) (hc2 : c < 256) : Calls Tryd.prog 12 #[.pointer (some ⟨g, 0, none⟩), .int .i64 (r : Int), .agg (B K), .slice none 0 0] w' fun e w'' => e = .returned (.tuple #[.int .i64 ((c + 2 : Nat) : Int), .int .i64 0]) ∧ Below w'.heap.size w' w'' := by
  obtain ⟨cs, fr, T, h1, h2, h3, h4, h5, _⟩ := H
  obtain rfl := h2.one h1.2 h3
  have hss : BesIs K (.lf k []) r (besX [] c r) := .inr (.inr ⟨k, [], c, rfl, hne, hc, by simp [Tre.oth], hc2, rfl⟩)
  have hl : (besX [] c r).length = c + 1 := besX_len _ _ _ (by simp)
  have := cost_any h1 h2 hK (u := .slice none 0 0) (bs := []) (Reads.nil _) (by simp) (fun i => Nat.le_trans (h5 i) (by omega)) hss (by rw [hl]; omega)
  have hcn : costN (.lf k []) K [] (besX [] c r) = c + 2 := by
    have : ¬ ((Tre.lf k []).efin K = [(K, [])]) := fun q => by
      injection q with q _
      injection q with q _
      exact hne q
    rw [costN, if_neg this, hl]
    omega
  rwa [hcn] at this

theorem Aw.fits {w w' : World} {S : List Nat} {g gs room r n m : Nat} {es : List Ent} (h : Aw w S w' g gs room r n m es) (j : Int) : Calls Tryd.prog 10 #[.pointer (some ⟨g, 0, none⟩), .int .i64 j] w' fun e w'' => e = .returned (.bool (fitsN n room j)) ∧ Below w'.heap.size w' w'' := by
  obtain ⟨cs, fr, T, h1, h2, h3, h4, _⟩ := h
  have := fits9_any h1 j
  rwa [h4] at this

/-- A handle beyond all that was ever taken. -/
theorem Aw.miss {w w' : World} {S : List Nat} {g gs room r n m : Nat} {es : List Ent} (h : Aw w S w' g gs room r n m es) (q : Nat) (hq : n < q) (K : List Int) : Calls Tryd.prog 11 #[.pointer (some ⟨g, 0, none⟩), .int .i64 (q : Int), .agg (B K), .slice none 0 0] w' fun e w'' => e = .returned (.tuple #[.int .i64 0, .int .i64 7]) ∧ Below w'.heap.size w' w'' := by
  obtain ⟨cs, fr, T, h1, h2, h3, h4, _, h6⟩ := h
  have hl : cs.length < q := by omega
  have hc : cot cs (q : Int) = 0 := by
    unfold cot
    split
    · rw [show ((q : Int) - 1).toNat = q - 1 by omega]
      exact cc_out cs _ (by omega)
    · rfl
  refine put_bad h1.vw (q : Int) K none 0 0 7 ?_ (by omega)
  have hr : vRt true (cot cs (q : Int)) (cat cs (q : Int)) (q : Int) = 7 := by
    unfold vRt
    rw [if_pos rfl, if_neg (by omega), if_pos hc]
  unfold vRf
  rw [if_pos rfl, if_neg (by omega)]
  unfold vAh
  rw [if_neg (by rw [hr]; omega), hr]

theorem Aw.kq {w w' : World} {S : List Nat} {g gs room r n m : Nat} {es : List Ent} (h : Aw w S w' g gs room r n m es) {P : World → Prop} (k : Kq S w P) : P w' := by
  obtain ⟨cs, fr, T, h1, _⟩ := h
  exact h1.kq k

/-- A store that New answered, beside a block that is newer. -/
theorem kn_base {w w1 w4 : World} {g gs room b3 : Nat} {t : TypeId} {X : Array Value} (H : Hs w [] w1 g gs room [] []) (hb : Below w1.heap.size w1 w4) (hb3 : w1.heap.size ≤ b3) (B4 : Blk w4 b3 t X) : ∃ S, Hs w4 S w4 g gs room [] [] ∧ Kq S w4 (fun w' => Blk w' b3 t X) ∧ (∀ P : World → Prop, (∀ w', Below w.heap.size w w' → P w') → Kq S w4 P) ∧ ∀ w', (∃ cs fr, Hs w4 S w' g gs room cs fr) → Below w.heap.size w w' := by
  obtain ⟨S, h1, hn, hk, hS, hbk⟩ := H.from
  refine ⟨S, h1.rebase hb, Kq.blk B4 (fun e => by have := hS _ e; omega), fun P hP => (hk P (kq_nil hP)).grow hb, fun w' ⟨cs, fr, h⟩ => ?_⟩
  exact (hbk _ _ _ (Hs.back hb h)).low

set_option maxHeartbeats 8000000 in
theorem putKnown_walk (w : World) (hL : Laid w) : Calls Tryd.prog 4 #[] w fun e w' => e = .returned (.bool true) ∧ Below w.heap.size w w' := by
  have HL : Hid (∀ w', Below w.heap.size w w' → Laid w') := fun w' hb => hL.grow hb
  have HAW : Hid (∀ w', Below w.heap.size w w' → Calls Tryd.prog 5 #[] w' fun e w'' => e = .returned (.bool true) ∧ Below w'.heap.size w' w'') := fun w' hb => awake9_any w' (hL.grow hb)
  have HN1 := hidden (hs_new 600 w (by omega) (by omega))
  have HN2 : Hid (∀ w', Calls Tryd.prog 7 #[.int .i64 257] w' fun e w'' => ∃ g gs, e = .returned (.tuple #[.pointer (some ⟨g, 0, none⟩), .int .i64 0]) ∧ Hs w' [] w'' g gs 257 [] []) := fun w' => hs_new 257 w' (by omega) (by omega)
  have HN3 : Hid (∀ w', Calls Tryd.prog 7 #[.int .i64 258] w' fun e w'' => ∃ g gs, e = .returned (.tuple #[.pointer (some ⟨g, 0, none⟩), .int .i64 0]) ∧ Hs w' [] w'' g gs 258 [] []) := fun w' => hs_new 258 w' (by omega) (by omega)
  have kz : Key z32 := ⟨rfl, z32_bytes⟩
  have ko := kyO_key
  have hne : z32 ≠ kyO := by decide
  have hc := kyO_com
  have HB0 := hidden built_z
  have HSET := hidden kyO_set
  have HZ31 : Hid ((B z32)[31]? = some (.int .u8 0)) := by show _ = _; rfl
  have HZS : Hid ((B z32).size = 32) := by show _ = _; rfl
  have HPS : Hid ((Tryd.prog.info? 36).map (·.size) = some (B kyO).size) := by show _ = _; rw [B_size, ko.1]; exact size_path
  have HZP : Hid (∀ w, (zeroValue 36).run Tryd.prog w = .ok (.agg (B z32)) w) := fun w => zero_path w
  have H1 : Hid (∀ w' S w'' g gs, Kq S w' Laid → Hs w' S w'' g gs 600 [] [] → Calls Tryd.prog 11 #[.pointer (some ⟨g, 0, none⟩), .int .i64 0, .agg (B z32), .slice none 0 0] w'' fun e w3 => ∃ r : Nat, e = .returned (.tuple #[.int .i64 (r : Int), .int .i64 0]) ∧ Aw w' S w3 g gs 600 r 1 1 [(z32, [])]) := fun w' S w'' g gs hl h => aw_first hl h z32 kz (by omega)
  have HCO : Hid (∀ w' S w'' g gs r, Aw w' S w'' g gs 600 r 1 1 [(z32, [])] → Calls Tryd.prog 12 #[.pointer (some ⟨g, 0, none⟩), .int .i64 (r : Int), .agg (B kyO), .slice none 0 0] w'' fun e w3 => e = .returned (.tuple #[.int .i64 257, .int .i64 0]) ∧ Below w''.heap.size w'' w3) := fun w' S w'' g gs r h => aw_cost h kyO ko hne 255 hc (by omega)
  have H2 : Hid (∀ w' S w'' g gs r, Kq S w' Laid → Aw w' S w'' g gs 600 r 1 1 [(z32, [])] → Calls Tryd.prog 11 #[.pointer (some ⟨g, 0, none⟩), .int .i64 (r : Int), .agg (B kyO), .slice none 0 0] w'' fun e w3 => ∃ r' : Nat, e = .returned (.tuple #[.int .i64 (r' : Int), .int .i64 0]) ∧ Aw w' S w3 g gs 600 r' 258 2 [(kyO, []), (z32, [])]) := fun w' S w'' g gs r hl h => aw_second hl h kyO ko hne 255 hc (by omega)
  have HOC : Hid (∀ w' S w'' g gs r, Aw w' S w'' g gs 600 r 258 2 [(kyO, []), (z32, [])] → Calls Tryd.prog 8 #[.pointer (some ⟨g, 0, none⟩)] w'' fun e w3 => e = .returned (.int .i64 258) ∧ Below w''.heap.size w'' w3) := fun w' S w'' g gs r h => h.occ
  have HP3 : Hid (∀ w' w'' g gs, Hs w' [] w'' g gs 257 [] [] → Calls Tryd.prog 11 #[.pointer (some ⟨g, 0, none⟩), .int .i64 0, .agg (B z32), .slice none 0 0] w'' fun e w3 => e = .returned (.tuple #[.int .i64 0, .int .i64 9]) ∧ Below w''.heap.size w'' w3) := fun w' w'' g gs h => put_no_room h (Rt.zero []) (Reads.nil _) (by simp) (by show 257 < 0 + 258; omega)
  have HP4 : Hid (∀ w' w'' g gs, Laid w' → Hs w' [] w'' g gs 258 [] [] → Calls Tryd.prog 11 #[.pointer (some ⟨g, 0, none⟩), .int .i64 0, .agg (B z32), .slice none 0 0] w'' fun e w3 => ∃ r : Nat, e = .returned (.tuple #[.int .i64 (r : Int), .int .i64 0]) ∧ Below w'.heap.size w' w3) := fun w' w'' g gs hl h => (aw_first (kq_nil fun _ hb => hl.grow hb) h z32 kz (by omega)).mono fun e w3 ⟨r, e1, ha⟩ => ⟨r, e1, ha.low⟩
  have HP5 : Hid (∀ w' S w'' g gs r, Aw w' S w'' g gs 600 r 258 2 [(kyO, []), (z32, [])] → Calls Tryd.prog 11 #[.pointer (some ⟨g, 0, none⟩), .int .i64 599, .agg (B z32), .slice none 0 0] w'' fun e w3 => e = .returned (.tuple #[.int .i64 0, .int .i64 7]) ∧ Below w''.heap.size w'' w3) := fun w' S w'' g gs r h => h.miss 599 (by omega) z32
  have HP6 : Hid (∀ w' w'' g gs a, Hs w' [] w'' g gs 257 [] [] → Calls Tryd.prog 11 #[.pointer (some ⟨g, 0, none⟩), .int .i64 0, .agg (B z32), .slice a 1025 1025] w'' fun e w3 => e = .returned (.tuple #[.int .i64 0, .int .i64 4]) ∧ Below w''.heap.size w'' w3) := fun w' w'' g gs a h => put_bad h.vw 0 z32 a 1025 1025 4 rfl (by omega)
  have HFT : Hid (∀ w' S w'' g gs r (j : Int), Aw w' S w'' g gs 600 r 258 2 [(kyO, []), (z32, [])] → Calls Tryd.prog 10 #[.pointer (some ⟨g, 0, none⟩), .int .i64 j] w'' fun e w3 => e = .returned (.bool (fitsN 258 600 j)) ∧ Below w''.heap.size w'' w3) := fun w' S w'' g gs r j h => h.fits j
  have ft0 : fitsN 258 600 0 = true := by decide
  have ft1 : fitsN 258 600 1 = true := by decide
  have ft2 : fitsN 258 600 2 = false := by decide
  have ft3 : fitsN 258 600 (-1) = false := by decide
  have ft4 : fitsN 258 600 65 = false := by decide
  generalize z32 = Z at HB0 HSET HZ31 HZS HZP H1 HCO H2 HOC HP3 HP4 HP5 HP6 HFT
  generalize kyO = O at HSET HPS HCO H2 HOC HP5 HFT
  clear hL kz ko hne hc
  go_enter Tryd.func4, Tryd.ntmps4
  go_wp2_with (first
    | (go_at_call 7; have mk := mn2; clear mk; refine (HN3.out _).mono ?_; rintro e wj ⟨g3, gs3, rfl, h3⟩; have HJ := hidden h3; clear h3)
    | (go_at_call 7; have mk := mn1; clear mk; refine (HN2.out _).mono ?_; rintro e ws ⟨g2, gs2, rfl, h2⟩; have HSM := hidden h2; replace HA := hidden (HA.out.grow h2.low); clear h2; have mn2 : Hid True := trivial)
    | (go_at_call 7; refine HN1.out.mono ?_; rintro e w1 ⟨g, gs, rfl, h1⟩; have HH1 := hidden h1; clear h1; have mn1 : Hid True := trivial)
    | ((with_reducible refine at_bdd 28 ?_); refine wpList_bld _ rfl _ _ rfl _ (by rw [List.map_toArray]; exact HB0.out) ?_)
    | ((with_reducible refine at_ald 3 ?_); refine wpList_al _ rfl _ rfl _ HZP.out ?_; intro w2 b3 hg3 hl3 B3 q3; have HB3 := hidden B3; have HG3 := hidden hg3; have HQ3 := hidden q3; clear hg3 hl3 B3 q3)
    | ((with_reducible refine at_st 3 ?_); refine wpList_sto _ rfl _ _ _ rfl b3 _ (B Z) rfl rfl HB3.out (by rw [HZS.out]; exact size_path) rfl (B_one _) ?_; intro w3 B3' r3; have HB33 := hidden B3'; have HQ33 := hidden (below_row HQ3.out r3 HG3.out); have hc31 : w3.cell? ⟨b3, 31, none⟩ = some (.int .u8 0) := (by rw [B3'.cell]; exact HZ31.out); have hf31 : w3.frozen? ⟨b3, 31, none⟩ = false := B3'.frozen 31; clear B3' r3)
    | ((with_reducible refine at_bdd 32 ?_); have HB4 : Hid (Blk (w3.setCell ⟨b3, 31, none⟩ (.int .u8 1)) b3 36 (B O)) := (by have := HB33.out.set 31 (.int .u8 1); rw [HSET.out] at this; exact this); have HQ4 : Hid (Below w1.heap.size w1 (w3.setCell ⟨b3, 31, none⟩ (.int .u8 1))) := HQ33.out.trans ((Mod.setCell w3 b3 31 (.int .u8 1) (S := [b3]) (by simp)).below (fun k hk => by rw [List.mem_singleton.1 hk]; exact HG3.out) HQ33.out.size); clear hc31 hf31; generalize w3.setCell ⟨b3, 31, none⟩ (.int .u8 1) = w4 at *; obtain ⟨S, hs4, kb, kp, hlw⟩ := kn_base HH1.out HQ4.out HG3.out HB4.out; have HS4 := hidden hs4; have HKB := hidden kb; have HKL := hidden (kp Laid HL.out); have HLW := hidden hlw; clear hs4 kb kp hlw; refine wpList_bld _ rfl _ _ rfl _ (by rw [List.map_toArray]; exact HB0.out) ?_)
    | ((with_reducible refine at_bdd 75 ?_); refine wpList_bld _ rfl _ _ rfl _ (by rw [List.map_toArray]; exact HB0.out) ?_)
    | ((with_reducible refine at_bdd 85 ?_); refine wpList_bld _ rfl _ _ rfl _ (by rw [List.map_toArray]; exact HB0.out) ?_)
    | ((with_reducible refine at_bdd 91 ?_); refine wpList_bld _ rfl _ _ rfl _ (by rw [List.map_toArray]; exact HB0.out) ?_)
    | ((with_reducible refine at_bdd 97 ?_); refine wpList_bld _ rfl _ _ rfl _ (by rw [List.map_toArray]; exact HB0.out) ?_)
    | ((with_reducible refine at_ldd 39 3 ?_); refine wpList_ld _ rfl _ _ rfl b3 _ rfl HB5.out _ _ Tryd.underlying36 HPS.out ?_)
    | ((with_reducible refine at_ldd 46 3 ?_); refine wpList_ld _ rfl _ _ rfl b3 _ rfl HB5.out _ _ Tryd.underlying36 HPS.out ?_)
    | (at_make; refine wpList_mk _ rfl _ _ rfl _ _ _ _ 1025 1025 rfl rfl (by rfl) (by rfl) (Nat.le_refl _) (by omega) ?_; intro wm hrm hbm hsm; replace HA := hidden (HA.out.grow hbm); replace HSM := hidden (HSM.out.grow hbm); clear hrm hbm hsm)
    | (go_at_call 11; have mk := mp5; clear mk; refine (HP6.out _ _ _ _ _ HSM.out).mono ?_; rintro e x6 ⟨rfl, b6⟩; replace HA := hidden (HA.out.grow b6); clear b6)
    | (go_at_call 11; have mk := mp4; clear mk; refine (HP5.out _ _ _ _ _ _ HA.out).mono ?_; rintro e x5 ⟨rfl, b5⟩; replace HA := hidden (HA.out.grow b5); replace HSM := hidden (HSM.out.grow b5); clear b5; have mp5 : Hid True := trivial)
    | (go_at_call 11; have mk := mp3; clear mk; refine (HP4.out _ _ _ _ (HL.out _ (HLW.out _ (by obtain ⟨cs, fr, _, h, _⟩ := HA.out; exact ⟨cs, fr, h⟩))) HJ.out).mono ?_; rintro e x4 ⟨r4, rfl, b4⟩; replace HA := hidden (HA.out.grow b4); replace HSM := hidden (HSM.out.grow b4); clear b4 HJ; have mp4 : Hid True := trivial)
    | (go_at_call 11; have mk := mp2; clear mk; refine (HP3.out _ _ _ _ HSM.out).mono ?_; rintro e x3 ⟨rfl, b3x⟩; replace HA := hidden (HA.out.grow b3x); replace HSM := hidden (HSM.out.grow b3x); clear b3x; have mp3 : Hid True := trivial)
    | (go_at_call 11; have mk := mp1; clear mk; refine (H2.out _ _ _ _ _ _ HKL.out HA1.out).mono ?_; rintro e x2 ⟨r2, rfl, h2⟩; have HA := hidden h2; clear h2; have mp2 : Hid True := trivial)
    | (go_at_call 11; refine (H1.out _ _ _ _ _ HKL.out HS4.out).mono ?_; rintro e x1 ⟨r1, rfl, h1⟩; have HA1 := hidden h1; have HB5 := hidden (h1.kq HKB.out); clear h1; have mp1 : Hid True := trivial)
    | (go_at_call 12; refine (HCO.out _ _ _ _ _ _ HA1.out).mono ?_; rintro e xc ⟨rfl, bc⟩; replace HA1 := hidden (HA1.out.grow bc); replace HB5 := hidden (HB5.out.grow bc); clear bc)
    | (go_at_call 8; refine (HOC.out _ _ _ _ _ _ HA.out).mono ?_; rintro e xo ⟨rfl, bo⟩; replace HA := hidden (HA.out.grow bo); clear bo)
    | (go_at_call 10; refine (HFT.out _ _ _ _ _ _ _ HA.out).mono ?_; rintro e xf ⟨rfl, bf⟩; replace HA := hidden (HA.out.grow bf); clear bf)
    | (go_at_call 5; have HLA := hidden (HLW.out _ (by obtain ⟨cs, fr, _, h, _⟩ := HA.out; exact ⟨cs, fr, h⟩)); refine (HAW.out _ HLA.out).mono ?_; rintro e xa ⟨rfl, ba⟩; have HE := hidden (grow_trans HLA.out ba); clear ba))
  go_ret
  exact ⟨rfl, HE.out⟩

end Go.Proofs.YtlinalcjdpikeabDoor
