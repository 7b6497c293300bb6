/- The document's examples that the laws of put ask (awake), as a contract. -/
import Derived.Test.YtlinalcjdpikeabDoorPr43
import Derived.Test.YtlinalcjdpikeabDoorPr11
import Derived.Test.YtlinalcjdpikeabDoorPr32
namespace Go.Proofs.YtlinalcjdpikeabDoor
set_option maxRecDepth 20000
open Go.RowKit

theorem built_z : Tryd.prog.built 36 [] = some (B z32) := by kernel_rfl

/-- A root with one entry is its leaf. -/
theorem Rt.one {cs : List (Nat × Ce)} {h : Nat} {T : Tre} (r : Rt cs h T) (W : Wf cs []) {e : Ent} (he : T.ents.Perm [e]) : T = .lf e.1 e.2 := by
  have hl := he.length_eq
  match T, r.tree with
  | .emp, _ => simp [Tre.ents] at hl
  | .lf k b, _ =>
    have := he.mem_iff.1 (show ((k, b) : Ent) ∈ [(k, b)] by simp)
    rw [← List.mem_singleton.1 this]
  | .nd d hl' hr L R, hT =>
    have h2 := (nd_ok W hT).two
    rw [show (Tre.nd d hl' hr L R).ents = L.ents ++ R.ents from rfl] at hl
    simp only [List.length_singleton] at hl
    omega

/-- A first entry. -/
theorem pa_first {fr fr' : List Nat} {K bs : List Int} {ss : List Nat} {top : Nat} {cs cs' : List (Nat × Ce)} {T' : Tre} (hss : BesIs K .emp 0 ss) (p : PaIs cs fr .emp 0 K bs ss top cs' fr' T') : T'.ents.Perm [(K, bs)] ∧ noc cs' = noc cs + 1 ∧ cs'.length ≤ cs.length + 1 := by
  have e : ss = [] := by
    rcases hss with ⟨_, e⟩ | ⟨b, e, _⟩ | ⟨k, b, c, e, _⟩
    · exact e
    · cases e
    · cases e
  subst e
  exact ⟨p.ents, p.just (.inl rfl), p.len⟩

/-- A second one that parts at the depth c. -/
theorem pa_second {fr fr' : List Nat} {K bs k b : List Int} {h c : Nat} {ss : List Nat} {top : Nat} {cs cs' : List (Nat × Ce)} {T' : Tre} (hc : IsCommon K k c) (hne : k ≠ K) (hss : BesIs K (.lf k b) h ss) (p : PaIs cs fr (.lf k b) h K bs ss top cs' fr' T') : T'.ents.Perm [(K, bs), (k, b)] ∧ noc cs' = noc cs + (c + 2) ∧ costN (.lf k b) K bs ss = c + 2 ∧ cs'.length ≤ cs.length + (c + 2) := by
  have e : ss = besX [] c h := by
    rcases hss with ⟨e, _⟩ | ⟨b', e, _⟩ | ⟨k', b', c', e1, _, e3, _, _, e6⟩
    · cases e
    · injection e with e _
      injection e with e _
      exact absurd e hne
    · injection e1 with e1 _
      injection e1 with e1 _
      subst e1
      rw [e6, hc.one e3]
      rfl
  have hl : ss.length = c + 1 := by rw [e, besX_len _ _ _ (by simp)]
  have hcst : costN (.lf k b) K bs ss = c + 2 := by
    have : ¬ ((Tre.lf k b).efin K = [(K, bs)]) := fun q => by
      injection q with q _
      injection q with q _
      exact hne q
    rw [costN, if_neg this, hl]
    omega
  refine ⟨?_, ?_, hcst, by rw [← hcst]; exact p.len⟩
  · have := p.ents
    unfold upE at this
    rw [show (Tre.lf k b).ents = [(k, b)] from rfl, List.filter_cons, if_pos (by simpa using hne), List.filter_nil] at this
    exact this
  · rw [← hcst]
    exact p.just (.inr (by rw [e]; simp [besX]))

/-- Behind the first Put, and behind the second. -/
def Aw (w : World) (S : List Nat) (w' : World) (g gs room r n m : Nat) (es : List Ent) : Prop := ∃ cs fr T, Hs w S w' g gs room cs fr ∧ Rt cs r T ∧ T.ents.Perm es ∧ noc cs = n ∧ (∀ i, own cs [] i ≤ m) ∧ cs.length ≤ n
theorem Aw.grow {w w' w'' : World} {S : List Nat} {g gs room r n m : Nat} {es : List Ent} (h : Aw w S w' g gs room r n m es) (hb : Below w'.heap.size w' w'') : Aw w S w'' g gs room r n m es := by
  obtain ⟨cs, fr, T, h1, h2⟩ := h
  exact ⟨cs, fr, T, h1.grow hb, h2⟩
theorem Aw.low {w w' : World} {g gs room r n m : Nat} {es : List Ent} (h : Aw w [] w' g gs room r n m es) : Below w.heap.size w w' := by
  obtain ⟨cs, fr, T, h1, h2⟩ := h
  exact h1.low
theorem Aw.size {w w' : World} {S : List Nat} {g gs room r n m : Nat} {es : List Ent} (h : Aw w S w' g gs room r n m es) : Calls Tryd.prog 13 #[.pointer (some ⟨g, 0, none⟩), .int .i64 (r : Int)] w' fun e w'' => e = .returned (.int .i64 (es.length : Int)) ∧ Below w'.heap.size w' w'' := by
  obtain ⟨cs, fr, T, h1, h2, h3, _⟩ := h
  have := size_any h1.vw (r : Int)
  rwa [cat_nat, h2.size h1.2, h3.length_eq] at this
theorem Aw.occ {w w' : World} {S : List Nat} {g gs room r n m : Nat} {es : List Ent} (h : Aw w S w' g gs room r n m es) : Calls Tryd.prog 8 #[.pointer (some ⟨g, 0, none⟩)] w' fun e w'' => e = .returned (.int .i64 (n : Int)) ∧ Below w'.heap.size w' w'' := by
  obtain ⟨cs, fr, T, h1, h2, h3, h4, _⟩ := h
  have := hs_occ h1
  rwa [h4] at this

theorem own_nil (i : Nat) : own [] [] i = 0 := by simp [own, cc]
theorem own_step {a b x y : Nat} {p q : Prop} [Decidable p] [Decidable q] (h : a + (if p then 1 else 0) = b + (if q then 1 else 0)) (hb : b ≤ x) (hy : x + 1 ≤ y) : a ≤ y := by
  split at h <;> split at h <;> omega

theorem aw_first {w w' : World} {S : List Nat} {g gs room : Nat} (hL : Kq S w Laid) (H : Hs w S w' g gs room [] []) (K : List Int) (hK : Key K) (hr : 258 ≤ room) : Calls Tryd.prog 11 #[.pointer (some ⟨g, 0, none⟩), .int .i64 0, .agg (B K), .slice none 0 0] w' fun e w'' => ∃ r : Nat, e = .returned (.tuple #[.int .i64 (r : Int), .int .i64 0]) ∧ Aw w S w'' g gs room r 1 1 [(K, [])] := by
  obtain ⟨ss, hss, _⟩ := (Rt.zero []).bes Wf.new hK
  refine (put_any H (Rt.zero []) hK (u := .slice none 0 0) (bs := []) (fun _ _ => Reads.nil _) hL (by simp) (fun i => by rw [own_nil]; omega) (by show 0 + 258 ≤ room; omega) hss).mono ?_
  rintro e w'' ⟨top, cs', fr', T', rfl, p, hh⟩
  obtain ⟨q1, q2, q3⟩ := pa_first hss p
  exact ⟨top, rfl, cs', fr', T', hh, p.rt, q1, by rw [q2]; rfl, fun i => own_step (p.own i) (x := 0) (by rw [own_nil]; omega) (by omega), q3⟩

theorem aw_second {w w' : World} {S : List Nat} {g gs room r : Nat} (hL : Kq S w Laid) {k : List Int} (H : Aw w S w' g gs room r 1 1 [(k, [])]) (K : List Int) (hK : Key K) (hne : k ≠ K) (c : Nat) (hc : IsCommon K k c) (hr : 259 ≤ room) : Calls Tryd.prog 11 #[.pointer (some ⟨g, 0, none⟩), .int .i64 (r : Int), .agg (B K), .slice none 0 0] w' fun e w'' => ∃ r' : Nat, e = .returned (.tuple #[.int .i64 (r' : Int), .int .i64 0]) ∧ Aw w S w'' g gs room r' (c + 3) 2 [(K, []), (k, [])] := by
  obtain ⟨cs, fr, T, h1, h2, h3, h4, h5, h6⟩ := H
  obtain rfl := h2.one h1.2 h3
  obtain ⟨ss, hss, _⟩ := h2.bes h1.2 hK
  refine (put_any h1 h2 hK (u := .slice none 0 0) (bs := []) (fun _ _ => Reads.nil _) hL (by simp) (fun i => Nat.le_trans (h5 i) (by omega)) (by omega) hss).mono ?_
  rintro e w'' ⟨top, cs', fr', T', rfl, p, hh⟩
  obtain ⟨q1, q2, q3, q4⟩ := pa_second hc hne hss p
  exact ⟨top, rfl, cs', fr', T', hh, p.rt, q1, by omega, fun i => own_step (p.own i) (h5 i) (by omega), by omega⟩

theorem aw_same {w w' : World} {S : List Nat} {g gs room r n m : Nat} {es : List Ent} (H : Aw w S w' g gs room r n m es) (K : List Int) (hK : Key K) (hm : (K, []) ∈ es) (hr : n + 258 ≤ room) : Calls Tryd.prog 11 #[.pointer (some ⟨g, 0, none⟩), .int .i64 (r : Int), .agg (B K), .slice none 0 0] w' fun e w'' => e = .returned (.tuple #[.int .i64 (r : Int), .int .i64 0]) ∧ Below w'.heap.size w' w'' := by
  obtain ⟨cs, fr, T, h1, h2, h3, h4, h5, h6⟩ := H
  have hsm := efin_key h1.2 K T r h2.tree (K, []) (h3.mem_iff.2 hm) rfl
  exact put_same h1 r T h2.tree K hK (.slice none 0 0) [] (Reads.nil _) (h2.refuse (by simp)) h2.root (by omega) hsm

set_option maxHeartbeats 4000000 in
theorem awake9_any (w : World) (hL : Laid w) : Calls Tryd.prog 5 #[] w fun e w' => e = .returned (.bool true) ∧ Below w.heap.size w w' := by
  have HN := hidden (hs_new 600 w (by omega) (by omega))
  have kz : Key z32 := ⟨rfl, z32_bytes⟩
  have k1 := kyB_key 128 (by omega) (by omega)
  have hne : z32 ≠ kyB 128 := by decide
  have hc : IsCommon (kyB 128) z32 0 := ⟨by omega, fun j hj => by omega, fun _ => by decide⟩
  have HB0 := hidden built_z
  have HB1 := hidden (built_ky 128)
  have H1 : Hid (∀ w' g gs, Hs w [] w' g gs 600 [] [] → Calls Tryd.prog 11 #[.pointer (some ⟨g, 0, none⟩), .int .i64 0, .agg (B z32), .slice none 0 0] w' fun e w'' => ∃ r : Nat, e = .returned (.tuple #[.int .i64 (r : Int), .int .i64 0]) ∧ Aw w [] w'' g gs 600 r 1 1 [(z32, [])]) := fun w' g gs h => aw_first (kq_nil fun _ hb => hL.grow hb) h z32 kz (by omega)
  have H2 : Hid (∀ w' g gs r, Aw w [] w' g gs 600 r 1 1 [(z32, [])] → Calls Tryd.prog 11 #[.pointer (some ⟨g, 0, none⟩), .int .i64 (r : Int), .agg (B (kyB 128)), .slice none 0 0] w' fun e w'' => ∃ r' : Nat, e = .returned (.tuple #[.int .i64 (r' : Int), .int .i64 0]) ∧ Aw w [] w'' g gs 600 r' 3 2 [(kyB 128, []), (z32, [])]) := fun w' g gs r h => aw_second (kq_nil fun _ hb => hL.grow hb) h (kyB 128) k1 hne 0 hc (by omega)
  have H3 : Hid (∀ w' g gs r, Aw w [] w' g gs 600 r 3 2 [(kyB 128, []), (z32, [])] → Calls Tryd.prog 11 #[.pointer (some ⟨g, 0, none⟩), .int .i64 (r : Int), .agg (B z32), .slice none 0 0] w' fun e w'' => e = .returned (.tuple #[.int .i64 (r : Int), .int .i64 0]) ∧ Below w'.heap.size w' w'') := fun w' g gs r h => aw_same h z32 kz (by simp) (by omega)
  have HS1 : Hid (∀ w' g gs r, Aw w [] w' g gs 600 r 1 1 [(z32, [])] → Calls Tryd.prog 13 #[.pointer (some ⟨g, 0, none⟩), .int .i64 (r : Int)] w' fun e w'' => e = .returned (.int .i64 1) ∧ Below w'.heap.size w' w'') := fun w' g gs r h => h.size
  have HS2 : Hid (∀ w' g gs r, Aw w [] w' g gs 600 r 3 2 [(kyB 128, []), (z32, [])] → Calls Tryd.prog 13 #[.pointer (some ⟨g, 0, none⟩), .int .i64 (r : Int)] w' fun e w'' => e = .returned (.int .i64 2) ∧ Below w'.heap.size w' w'') := fun w' g gs r h => h.size
  have HO1 : Hid (∀ w' g gs r, Aw w [] w' g gs 600 r 1 1 [(z32, [])] → Calls Tryd.prog 8 #[.pointer (some ⟨g, 0, none⟩)] w' fun e w'' => e = .returned (.int .i64 1) ∧ Below w'.heap.size w' w'') := fun w' g gs r h => h.occ
  have HO2 : Hid (∀ w' g gs r, Aw w [] w' g gs 600 r 3 2 [(kyB 128, []), (z32, [])] → Calls Tryd.prog 8 #[.pointer (some ⟨g, 0, none⟩)] w' fun e w'' => e = .returned (.int .i64 3) ∧ Below w'.heap.size w' w'') := fun w' g gs r h => h.occ
  generalize z32 = Z at HB0 H1 H2 H3 HS1 HS2 HO1 HO2
  generalize kyB 128 = Y at HB1 H2 H3 HS2 HO2
  clear hL kz k1 hne hc
  go_enter Tryd.func5, Tryd.ntmps5
  go_wp2_with (first
    | (go_at_call 7; refine HN.out.mono ?_; rintro e w1 ⟨g, gs, rfl, h1⟩; have HH1 := hidden h1; clear h1)
    | ((with_reducible refine at_bdd 15 ?_); refine wpList_bld _ rfl _ _ rfl _ (by rw [List.map_toArray]; exact HB0.out) ?_)
    | ((with_reducible refine at_bdd 35 ?_); refine wpList_bld _ rfl _ _ rfl _ (by rw [List.map_toArray]; exact HB1.out) ?_)
    | ((with_reducible refine at_bdd 55 ?_); refine wpList_bld _ rfl _ _ rfl _ (by rw [List.map_toArray]; exact HB0.out) ?_)
    | (go_at_call 11; have mk := mp2; clear mk; refine (H3.out _ _ _ _ HA2.out).mono ?_; rintro e w6 ⟨rfl, b6⟩; have HBL := hidden (grow_trans HA2.out.low b6); clear b6)
    | (go_at_call 11; have mk := mp1; clear mk; refine (H2.out _ _ _ _ HA1.out).mono ?_; rintro e w4 ⟨r2, rfl, h4⟩; have HA2 := hidden h4; clear h4; have mp2 : Hid True := trivial)
    | (go_at_call 11; refine (H1.out _ _ _ HH1.out).mono ?_; rintro e w2 ⟨r1, rfl, h2⟩; have HA1 := hidden h2; clear h2; have mp1 : Hid True := trivial)
    | (go_at_call 13; have mk := mp2; clear mk; refine (HS2.out _ _ _ _ HA2.out).mono ?_; rintro e w5 ⟨rfl, b5⟩; replace HA2 := hidden (HA2.out.grow b5); clear b5)
    | (go_at_call 13; refine (HS1.out _ _ _ _ HA1.out).mono ?_; rintro e w3 ⟨rfl, b3⟩; replace HA1 := hidden (HA1.out.grow b3); clear b3)
    | (go_at_call 8; have mk := mp2; clear mk; refine (HO2.out _ _ _ _ HA2.out).mono ?_; rintro e w5 ⟨rfl, b5⟩; replace HA2 := hidden (HA2.out.grow b5); clear b5)
    | (go_at_call 8; refine (HO1.out _ _ _ _ HA1.out).mono ?_; rintro e w3 ⟨rfl, b3⟩; replace HA1 := hidden (HA1.out.grow b3); clear b3))
  go_ret
  exact ⟨rfl, HBL.out⟩

end Go.Proofs.YtlinalcjdpikeabDoor

/- Entries in memory: a slice of pairs, each a key and a value. -/
namespace Go.Proofs.YtlinalcjdpikeabDoor
set_option maxRecDepth 20000
open Go.RowKit

def e00 : Ent := ([], [])
def encP (k : List Int) (v : Value) : List Value := k.map (Value.int .u8) ++ [v]
theorem encP_length (k : List Int) (v : Value) (h : k.length = 32) : (encP k v).length = 33 := by simp [encP, h]

/-- A slice of entries; V i is the value of the entry i. -/
def PrAt (w : World) (v : Value) (V : Nat → Value) (es : List Ent) : Prop :=
  ∃ a cap, v = .slice a es.length cap ∧ es.length ≤ cap ∧ (0 < es.length → ∃ g off, a = some ⟨g, off, none⟩ ∧ ∀ i, i < es.length → w.rangeAt g (off + i * 33) (encP (es.getD i e00).1 (V i))) ∧
    ∀ i, i < es.length → Key (es.getD i e00).1 ∧ Reads w (V i) (es.getD i e00).2

theorem rng_grow {w w' : World} {g o : Nat} {cs : List Value} (h : w.rangeAt g o cs) (hb : Below w.heap.size w w') : w'.rangeAt g o cs := fun j v hv => (hb.cell (p := ⟨g, o + j, none⟩) (block_lt_of_cell (h j v hv))).trans (h j v hv)

theorem PrAt.grow {w w' : World} {v : Value} {V : Nat → Value} {es : List Ent} (h : PrAt w v V es) (hb : Below w.heap.size w w') : PrAt w' v V es := by
  obtain ⟨a, cap, e, h1, h2, h3⟩ := h
  refine ⟨a, cap, e, h1, fun hp => ?_, fun i hi => ⟨(h3 i hi).1, (h3 i hi).2.grow hb⟩⟩
  obtain ⟨g, off, ea, hr⟩ := h2 hp
  exact ⟨g, off, ea, fun i hi => rng_grow (hr i hi) hb⟩
theorem PrAt.kp {w : World} {v : Value} {V : Nat → Value} {es : List Ent} (h : PrAt w v V es) : Kp w (fun w' => PrAt w' v V es) := fun _ q => h.grow q
theorem PrAt.keys {w : World} {v : Value} {V : Nat → Value} {es : List Ent} (h : PrAt w v V es) : ∀ e ∈ es, Key e.1 := by
  intro e he
  obtain ⟨_, _, _, _, _, h3⟩ := h
  obtain ⟨i, hi, rfl⟩ := List.mem_iff_getElem.1 he
  have := (h3 i hi).1
  simpa [List.getD, hi] using this

/-- May entries be: the ones ahead have the keys ks. -/
def lsE : List (List Int) → List Ent → Int
  | _, [] => 0
  | ks, e :: r => if 1024 < e.2.length then 4 else if e.1 ∈ ks then 6 else lsE (ks ++ [e.1]) r
def errB (es : List Ent) : Int := if 4096 < es.length then 4 else lsE [] es
theorem lsE_step (ks : List (List Int)) (es : List Ent) (k : Nat) (hk : k < es.length) : lsE ks (es.drop k) = if 1024 < (es.getD k e00).2.length then 4 else if (es.getD k e00).1 ∈ ks then 6 else lsE (ks ++ [(es.getD k e00).1]) (es.drop (k + 1)) := by
  rw [List.drop_eq_getElem_cons hk, lsE]
  simp [List.getD, hk]
theorem keys_take (es : List Ent) (k : Nat) (hk : k < es.length) : (es.take (k + 1)).map (·.1) = (es.take k).map (·.1) ++ [(es.getD k e00).1] := by
  rw [List.take_add_one, List.map_append]
  simp [List.getD, hk]

theorem lsE_ok : ∀ (ks : List (List Int)) (es : List Ent), lsE ks es = 0 → (∀ e ∈ es, e.2.length ≤ 1024) ∧ Apart1 es ∧ ∀ e ∈ es, e.1 ∉ ks
  | ks, [], _ => ⟨by simp, List.Pairwise.nil, by simp⟩
  | ks, e :: r, h => by
    rw [lsE] at h
    split at h
    · omega
    · rename_i h1
      split at h
      · omega
      · rename_i h2
        obtain ⟨a, b, c⟩ := lsE_ok _ r h
        refine ⟨fun x hx => ?_, List.pairwise_cons.2 ⟨fun x hx e1 => ?_, b⟩, fun x hx => ?_⟩
        · rcases List.mem_cons.1 hx with rfl | hx
          · omega
          · exact a x hx
        · exact c x hx (by simp [e1])
        · rcases List.mem_cons.1 hx with rfl | hx
          · exact h2
          · exact fun hm => c x hx (by simp [hm])
theorem lsE_of : ∀ (ks : List (List Int)) (es : List Ent), (∀ e ∈ es, e.2.length ≤ 1024) → Apart1 es → (∀ e ∈ es, e.1 ∉ ks) → lsE ks es = 0
  | ks, [], _, _, _ => rfl
  | ks, e :: r, h1, h2, h3 => by
    have a := h1 e (by simp)
    rw [lsE, if_neg (by omega), if_neg (h3 e (by simp))]
    refine lsE_of _ r (fun x hx => h1 x (by simp [hx])) (List.pairwise_cons.1 h2).2 (fun x hx hm => ?_)
    rcases List.mem_append.1 hm with hm | hm
    · exact h3 x (by simp [hx]) hm
    · have : x.1 = e.1 := by simpa using hm
      exact (List.pairwise_cons.1 h2).1 x hx this.symm
theorem lsE_cases : ∀ (ks : List (List Int)) (es : List Ent), lsE ks es = 0 ∨ lsE ks es = 4 ∨ lsE ks es = 6
  | _, [] => .inl rfl
  | ks, e :: r => by
    rw [lsE]
    split
    · exact .inr (.inl rfl)
    · split
      · exact .inr (.inr rfl)
      · exact lsE_cases _ r

theorem size_pair : (Tryd.prog.info? 39).map (·.size) = some 33 := by kernel_rfl

theorem u_pair : ∃ fs, Tryd.prog.underlying 39 = some (.struct fs) := ⟨_, Tryd.underlying39⟩

theorem zero_pair : ∀ w, (zeroValue 39).run Tryd.prog w = .ok (.agg (encP z32 (.slice none 0 0)).toArray) w := zero_of_info (n := 33) (by kernel_rfl) |>.1

theorem encP_one (k : List Int) (a : Option Addr) (l c : Nat) : (encP k (.slice a l c)).toArray.all (·.oneCell') = true := all_oneCell_toArray (fun v hv => by
  unfold encP at hv
  rcases List.mem_append.1 hv with hv | hv
  · obtain ⟨z, _, rfl⟩ := List.mem_map.1 hv
    rfl
  · obtain rfl : v = .slice a l c := by simpa using hv
    rfl)

/-- A pair in a block of its own: its key, its value. -/
theorem pair_key {w : World} {g : Nat} {t : TypeId} {k : List Int} {v : Value} (h : Blk w g t (encP k v).toArray) : w.rangeAt g 0 (B k).toList := by
  intro j u hu
  rw [B_toList] at hu
  have hj : j < (k.map (Value.int .u8)).length := (List.getElem?_eq_some_iff.1 hu).1
  rw [Nat.zero_add, h.cell]
  simp only [encP, List.getElem?_toArray]
  rw [List.getElem?_append_left hj]
  exact hu
theorem pair_val {w : World} {g : Nat} {t : TypeId} {k : List Int} {v : Value} (h : Blk w g t (encP k v).toArray) (hk : k.length = 32) : w.cell? ⟨g, 32, none⟩ = some v := by
  rw [h.cell]
  simp only [encP, List.getElem?_toArray]
  rw [List.getElem?_append_right (by simp [hk])]
  simp [hk]

/-- load of a pair out of a slice. -/
theorem wpList_ldp {ops : Array Oper} {rest : List Oper} {op : Oper} {a : Act} {Q : Exit → Act → World → Prop} (w : World) (hgd : op.guard = none) (x : Operand) (ho : op.op = .load 39 x)
    (g o : Nat) (k : List Int) (v : Value) (hx : a.eval x = .pointer (some ⟨g, o, none⟩)) (h : w.rangeAt g o (encP k v)) (hl : k.length = 32)
    (hk : wpList Tryd.prog ops Q rest (a.put op.dst (.agg (encP k v).toArray)) w) : wpList Tryd.prog ops Q (op :: rest) a w := by
  obtain ⟨fs, hu⟩ := u_pair
  exact wpList_load_mid hgd 39 x ho g o hx (encP k v) _ h hu rfl (by rw [encP_length k v hl]; exact size_pair) hk

/-- load of a key at the front of a block. -/
theorem wpList_ldk {ops : Array Oper} {rest : List Oper} {op : Oper} {a : Act} {Q : Exit → Act → World → Prop} (w : World) (hgd : op.guard = none) (x : Operand) (ho : op.op = .load 36 x)
    (g o : Nat) (k : List Int) (hx : a.eval x = .pointer (some ⟨g, o, none⟩)) (h : w.rangeAt g o (B k).toList) (hl : k.length = 32)
    (hk : wpList Tryd.prog ops Q rest (a.put op.dst (.agg (B k))) w) : wpList Tryd.prog ops Q (op :: rest) a w :=
  wpList_load_mid hgd 36 x ho g o hx (B k).toList _ h Tryd.underlying36 rfl (by rw [B_toList, List.length_map, hl]; exact sz_path) (by simpa using hk)

end Go.Proofs.YtlinalcjdpikeabDoor
