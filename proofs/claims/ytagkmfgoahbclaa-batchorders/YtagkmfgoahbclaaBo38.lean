/- Where all values of BatchOrders' lists lie: apart. -/
import Derived.Test.YtagkmfgoahbclaaBo37
namespace Go.Proofs.Ytagkmfgoahbclaa
set_option maxRecDepth 20000
open Go.RowKit

theorem own_lent {w : World} {base g : Nat} {zs : List Int} (h : Row w g (zs ++ marks zs.length)) (hb : Bytes zs) (hg : base ≤ g) (hl : zs.length ≤ 140737488355328) : Own base w (.slice (some ⟨g, 0, none⟩) zs.length (zs.length + 5)) zs (marks zs.length) := by
  have := Own.mk (base := base) (zs := zs) (sp := marks zs.length) hb (marks_bytes _) (by rw [marks_length]; simp only [maxLen]; omega) hg h
  rw [marks_length] at this
  exact this
theorem own_inr {base hi : Nat} {w : World} {v : Value} {zs sp : List Int} (h : Own base w v zs sp) (hh : w.heap.size ≤ hi) : InR base hi v := fun q hq => by
  have := h.lt q hq
  omega
/-- The entries' values. -/
theorem its_vals (its : List (Ent × Value)) : (List.range its.length).map (fun k => (its.getD k (e00, undef)).2) = its.map (·.2) := by
  apply List.ext_getElem (by simp)
  intro i h1 h2
  simp at h1
  simp [List.getD, h1]
theorem its_apt {rs : List Wt} (h : ∀ p q, p < rs.length → q < rs.length → p ≠ q → ∀ k, rs[p]!.v.ownBlock = some k → rs[q]!.v.ownBlock ≠ some k) : Apt ((itsOf rs).map (·.2)) := by
  have h1 : rs.Pairwise fun x y => ∀ k, x.v.ownBlock = some k → y.v.ownBlock ≠ some k := List.pairwise_iff_getElem.2 fun i j hi hj hij => by
    have := h i j hi hj (by omega)
    rw [getElem!_pos rs i hi, getElem!_pos rs j hj] at this
    exact this
  unfold itsOf
  rw [List.map_map]
  exact List.pairwise_map.2 (h1.sublist List.filter_sublist)
theorem apt_two (m : Nat) (f g : Nat → Value) {a b c d : Nat} (hf : ∀ k, k < m → InR a b (f k)) (hg : ∀ k, k < m → InR c d (g k)) (hbc : b ≤ c) (pf : ∀ i j, i < m → j < m → i ≠ j → ∀ q, (f i).ownBlock = some q → (f j).ownBlock ≠ some q) (pg : ∀ i j, i < m → j < m → i ≠ j → ∀ q, (g i).ownBlock = some q → (g j).ownBlock ≠ some q) : Apt ((List.range m).flatMap fun k => [f k, g k]) := by
  unfold Apt
  rw [List.pairwise_flatMap]
  have fg : ∀ i j, i < m → j < m → ∀ q, (f i).ownBlock = some q → (g j).ownBlock ≠ some q := fun i j hi hj q e1 e2 => by
    have := hf i hi q e1
    have := hg j hj q e2
    omega
  refine ⟨fun k hk => ?_, List.pairwise_iff_getElem.2 fun i j hi hj hij => ?_⟩
  · have hk := List.mem_range.1 hk
    refine List.pairwise_cons.2 ⟨fun y hy => ?_, List.pairwise_singleton _ _⟩
    obtain rfl : y = g k := by simpa using hy
    exact fg k k hk hk
  · simp only [List.length_range] at hi hj
    simp only [List.getElem_range]
    intro x hx y hy
    simp only [List.mem_cons, List.not_mem_nil, or_false] at hx hy
    rcases hx with rfl | rfl <;> rcases hy with rfl | rfl
    · exact pf i j hi hj (by omega)
    · exact fg i j hi hj
    · exact fun q e1 e2 => fg j i hj hi q e2 e1
    · exact pg i j hi hj (by omega)
theorem inr_two (m : Nat) (f g : Nat → Value) {a b c d : Nat} (hf : ∀ k, k < m → InR a b (f k)) (hg : ∀ k, k < m → InR c d (g k)) (h1 : a ≤ c) (h2 : b ≤ d) : ∀ u ∈ (List.range m).flatMap fun k => [f k, g k], InR a d u := fun u hu q hq => by
  obtain ⟨k, hk, hu⟩ := List.mem_flatMap.1 hu
  have hk := List.mem_range.1 hk
  simp only [List.mem_cons, List.not_mem_nil, or_false] at hu
  rcases hu with rfl | rfl
  · have := hf k hk q hq
    omega
  · have := hg k hk q hq
    omega
theorem inr_map (n : Nat) (f : Nat → Value) {a b : Nat} (h : ∀ k, k < n → InR a b (f k)) : ∀ u ∈ (List.range n).map f, InR a b u := fun u hu => by
  obtain ⟨k, hk, rfl⟩ := List.mem_map.1 hu
  exact h k (List.mem_range.1 hk)
/-- All four kinds of values, one behind the other. -/
theorem apt_all {A X C Q : List Value} {s0 s1 s2 s4 s5 s6 : Nat} (hA : Apt A) (hX : Apt X) (hC : Apt C) (hQ : Apt Q) (iA : ∀ u ∈ A, InR s0 s1 u) (iQ : ∀ u ∈ Q, InR s1 s2 u) (iC : ∀ u ∈ C, InR s2 s4 u) (iX : ∀ u ∈ X, InR s5 s6 u) (h12 : s1 ≤ s2) (h24 : s2 ≤ s4) (h45 : s4 ≤ s5) : Apt (A ++ X ++ C ++ Q) := by
  refine apt_app (apt_app (apt_app hA hX (apt_cross iA iX (by omega))) hC fun u hu => ?_) hQ fun u hu => ?_
  · rcases List.mem_append.1 hu with hu | hu
    · exact apt_cross iA iC (by omega) u hu
    · exact apt_cross iX iC (by omega) u hu
  · rcases List.mem_append.1 hu with hu | hu
    · rcases List.mem_append.1 hu with hu | hu
      · exact apt_cross iA iQ (by omega) u hu
      · exact apt_cross iX iQ (by omega) u hu
    · exact apt_cross iC iQ (by omega) u hu

end Go.Proofs.Ytagkmfgoahbclaa

/- BatchOrders' walk. -/
namespace Go.Proofs.Ytagkmfgoahbclaa
set_option maxRecDepth 20000
open Go.RowKit

/-- Both lists that Order answered, and the document's. -/
structure OAll (ls qs : List Wt) (x2 x3 x4 x5 : World) (va vb vc : Value) (m : Nat) (ra rb rc : List Wt) : Prop where
  a : OrdOk qs x2 va ra x3
  b : OrdOk qs x3 vb rb x4
  c1 : Lst x5 37 34 vc rc.length (flatE encW rc)
  c2 : ∀ x ∈ rc, WtOk x ∧ Reads x5 x.v x.b ∧ (x.g = true → x.b = [])
  la : ra.length = m
  lb : rb.length = m
  lc : rc.length = m
  ac : ra.map nrm = rc.map nrm
  bc : rb.map nrm = rc.map nrm
  few : m ≤ 80

theorem wr_side {w : World} {a : Option Addr} {n c : Nat} {rs : List Wt} (h : WrAt w (.slice a n c) rs) : 0 < n → ∃ g off, a = some ⟨g, off, none⟩ ∧ ∀ i, i < n → w.rangeAt g (off + i * 34) (encW rs[i]!) := fun hn => by
  obtain ⟨a', cap, e, h1, h2, h3, h4, h6⟩ := h
  injection e with e1 e2 e3
  subst e1
  obtain ⟨g, off, ea, hr⟩ := h3 (by omega)
  exact ⟨g, off, ea, fun i hi => hr i (by omega)⟩
theorem OrdOk.wr {qs : List Wt} {x2 x3 : World} {v : Value} {ra : List Wt} (h : OrdOk qs x2 v ra x3) : WrAt x3 v ra := wrAt_own h.own (fun x hx => (h.ok x hx).1) (fun x hx => by obtain ⟨sp, ho⟩ := (h.ok x hx).2.2; exact ho.reads)
theorem same_call {w : World} {x y : Value} {xs ys : List Int} (hx : Reads w x xs) (hy : Reads w y ys) (e : xs = ys) : Calls Try.prog 21 #[x, y] w fun e w' => e = .returned (.bool true) ∧ Below w.heap.size w w' :=
  (same_any x y xs ys w hx hy).mono fun e' w' ⟨h1, h2⟩ => ⟨by rw [h1, e]; simp, by rw [h2]; exact Below.refl _ _⟩
/-- sameWrites of an answer and the document's. -/
theorem same_ord {w xa : World} {qs ra rc : List Wt} {x2 : World} {a c : Option Addr} {m ca cc : Nat} (h : OrdOk qs x2 (.slice a m ca) ra xa) (hb : Below xa.heap.size xa w) (hla : ra.length = m) (hlc : rc.length = m) (hm : m ≤ 80) (hc1 : WrAt w (.slice c m cc) rc) (hc2 : ∀ x ∈ rc, x.g = true → x.b = []) (e : ra.map nrm = rc.map nrm) :
    Calls Try.prog 10 #[.slice a m ca, .slice c m cc] w fun e w' => e = .returned (.bool true) ∧ Below w.heap.size w w' := by
  have hw := h.wr.grow hb
  obtain ⟨_, each⟩ := nrm_each e (fun x hx => (h.ok x hx).2.1) hc2
  refine sameW_true a c m ca cc (fun i => ra[i]!) (fun i => rc[i]!) w (by omega) (wr_side hw) (wr_side hc1) (fun i hi => ?_) (fun i hi w' hb' => ?_)
  · have i1 : i < ra.length := by omega
    have i2 : i < rc.length := by omega
    refine ⟨by rw [getElem!_pos ra i i1]; exact hw.ok _ (List.getElem_mem i1), by rw [getElem!_pos rc i i2]; exact hc1.ok _ (List.getElem_mem i2), (each i i1).1, (each i i1).2.1⟩
  · have i1 : i < ra.length := by omega
    have i2 : i < rc.length := by omega
    have r1 : Reads w' ra[i]!.v ra[i]!.b := by rw [getElem!_pos ra i i1]; exact (hw.reads _ (List.getElem_mem i1)).grow hb'
    have r2 : Reads w' rc[i]!.v rc[i]!.b := by rw [getElem!_pos rc i i2]; exact (hc1.reads _ (List.getElem_mem i2)).grow hb'
    exact same_call r1 r2 (each i i1).2.2
/-- KeptWrites of what was lent. -/
theorem kept_lent {w : World} {gq lc : Nat} {la : Option Addr} {Gq : Nat → Nat} {ls : List Wt} (h : LentWr w gq ls.length Gq ls) (hl : WrAt w (.slice la ls.length lc) ls) (hn : ls.length ≤ 80) (hll : ∀ x ∈ ls, x.b.length ≤ 140737488355328 - 4096) :
    Calls Try.prog 14 #[.slice (some ⟨gq, 0, none⟩) ls.length (ls.length + 2), .slice la ls.length lc] w fun e w' => e = .returned (.bool true) ∧ Below w.heap.size w w' := by
  refine keptW_true (some ⟨gq, 0, none⟩) la ls.length (ls.length + 2) lc (lwW ls Gq) (fun i => ls[i]!) w (by omega) (fun _ => ⟨gq, 0, rfl, fun i hi => by rw [Nat.zero_add]; exact h.pair i hi⟩) (wr_side hl) (fun i hi => ?_) (fun i hi w' hb' => ?_)
  · have ok : WtOk ls[i]! := by rw [getElem!_pos ls i hi]; exact hl.ok _ (List.getElem_mem hi)
    exact ⟨⟨ok.hk, ok.hb, _, _, rfl⟩, ok, rfl, rfl⟩
  · have r2 : Reads w' ls[i]!.v ls[i]!.b := by rw [getElem!_pos ls i hi]; exact (hl.reads _ (List.getElem_mem hi)).grow hb'
    have hb2 := hll ls[i]! (by rw [getElem!_pos ls i hi]; exact List.getElem_mem hi)
    exact kept_true (Gq i) ls[i]!.v ls[i]!.b w' ((h.row i hi).of_block (hb'.block _ (h.row i hi).lt)) r2 (by omega)

theorem oall_ex {ls : List Wt} {G : Nat → Nat} {x2 x3 x4 x5 : World} {va vb vc : Value} {ra rb rc : List Wt} (hA : OrdOk (lwL ls G) x2 va ra x3) (hB : OrdOk (lwL ls G) x3 vb rb x4) (c1 : Lst x5 37 34 vc rc.length (flatE encW rc)) (c2 : Lat (ls.map nrm) (rc.map nrm)) (c3 : ∀ x ∈ rc, WtOk x ∧ Reads x5 x.v x.b ∧ (x.g = true → x.b = [])) (c4 : rc.length ≤ ls.length) (hls : ls.length ≤ 80) : ∃ m, OAll ls (lwL ls G) x2 x3 x4 x5 va vb vc m ra rb rc := by
  have e1 : ra.map nrm = rc.map nrm := by have := hA.lat; rw [lwL_nrm] at this; exact this.one c2
  have e2 : rb.map nrm = rc.map nrm := by have := hB.lat; rw [lwL_nrm] at this; exact this.one c2
  have l1 : ra.length = rc.length := by have := congrArg List.length e1; simpa using this
  have l2 : rb.length = rc.length := by have := congrArg List.length e2; simpa using this
  exact ⟨rc.length, hA, hB, c1, c3, l1, l2, rfl, e1, e2, by omega⟩
theorem its_same {es : List Ent} {ls qs : List Wt} {rx ry : List Wt} (h1 : Lat ((wes es ++ qs).map nrm) (rx.map nrm)) (h2 : Lat ((wes es ++ ls).map nrm) (ry.map nrm)) (e : qs.map nrm = ls.map nrm) : (itsOf rx).map (·.1) = (itsOf ry).map (·.1) ∧ (itsOf rx).length = (itsOf ry).length := by
  have e1 : rx.map nrm = ry.map nrm := by
    rw [List.map_append, e, ← List.map_append] at h1
    exact h1.one h2
  have e2 : (itsOf rx).map (·.1) = (itsOf ry).map (·.1) := by rw [itsOf_ent, itsOf_ent]; exact entW_nrm _ _ e1
  exact ⟨e2, by have := congrArg List.length e2; simpa using this⟩
theorem prAt_its {w : World} {base : Nat} {v : Value} {rs : List Wt} (h : w.ownsRow base 41 33 v (itsOf rs).length (flatP (itsOf rs))) (hr : ∀ x ∈ rs, WtOk x ∧ Reads w x.v x.b) : PrAt w v (fun i => ((itsOf rs).getD i (e00, undef)).2) ((itsOf rs).map (·.1)) :=
  prAt_own h (fun p hp => by obtain ⟨x, hx, rfl⟩ := itsOf_mem hp; exact (hr x hx).1.hk) (fun p hp => by obtain ⟨x, hx, rfl⟩ := itsOf_mem hp; exact (hr x hx).2)

set_option maxRecDepth 100000 in
set_option maxHeartbeats 8000000 in
theorem orders_walk (mv lv : Value) (V : Nat → Value) (es : List Ent) (ls : List Wt) (w : World) (hv : PrAt w mv V es) (hl : WrAt w lv ls) (hle : ∀ i, i < es.length → (es.getD i e00).2.length ≤ 140737488355328 - 4096) (hll : ∀ x ∈ ls, x.b.length ≤ 140737488355328 - 4096) :
    Calls Try.prog 3 #[mv, lv] w fun e w' => e = .returned (.bool true) ∧ Below w.heap.size w w' := by
  obtain ⟨ma, mc, rfl⟩ : ∃ ma mc, mv = .slice ma es.length mc := by obtain ⟨a, c, e, _⟩ := id hv; exact ⟨a, c, e⟩
  obtain ⟨la, lc, rfl⟩ : ∃ la lc, lv = .slice la ls.length lc := by obtain ⟨a, c, e, _⟩ := id hl; exact ⟨a, c, e⟩
  by_cases hbig : 80 < es.length ∨ 80 < ls.length
  · obtain ⟨n, hn⟩ : ∃ n, n = es.length := ⟨_, rfl⟩
    obtain ⟨lm, hlm⟩ : ∃ lm, lm = ls.length := ⟨_, rfl⟩
    rw [← hn, ← hlm] at hbig ⊢
    clear hv hl hle hll hn hlm
    by_cases h1 : 80 < n
    · have z1 : (80 : Int) < (n : Int) := by omega
      go_enter Try.func3, Try.ntmps3
      go_wp2
      go_ret
      exact ⟨rfl, Below.refl _ _⟩
    · have z1 : ¬ (80 : Int) < (n : Int) := by omega
      have z2 : (80 : Int) < (lm : Int) := by omega
      go_enter Try.func3, Try.ntmps3
      go_wp2
      go_ret
      exact ⟨rfl, Below.refl _ _⟩
  · have hes : es.length ≤ 80 := by omega
    have hls : ls.length ≤ 80 := by omega
    have HV := hidden hv
    have HL := hidden hl
    have HLE := hidden hle
    have HLL := hidden hll
    have HLP := hidden (lentPairs2_any (.slice ma es.length mc) V es w hv (by omega) hle)
    have HLW : Hid (∀ w', Below w.heap.size w w' → Calls Try.prog 5 #[.slice la ls.length lc] w' (LentWPost ls w')) := fun w' hb => lentWrites_any _ ls w' (hl.grow hb) (by omega) hll
    have HODR : Hid (∀ w' g G, LentWr w' g ls.length G ls → Calls Try.prog 6 #[.slice (some ⟨g, 0, none⟩) ls.length (ls.length + 2)] w' (OrdPost (lwL ls G) w')) := fun w' g G h1 => order_any _ (lwL ls G) w' (h1.wrAt hl.ok) (by rw [lwL_len]; omega) (fun x hx => by
      unfold lwL at hx
      obtain ⟨i, hi, rfl⟩ := List.mem_map.1 hx
      have hi := List.mem_range.1 hi
      have := hll ls[i]! (by rw [getElem!_pos ls i hi]; exact List.getElem_mem hi)
      show ls[i]!.b.length ≤ _
      omega)
    have HKEY : Hid (∀ w' g G, LentWr w' g ls.length G ls → Calls Try.prog 11 #[.slice (some ⟨g, 0, none⟩) ls.length (ls.length + 2)] w' fun e w'' => ∃ ks, Lat (lwL ls G) ks ∧ ks.length ≤ (lwL ls G).length ∧ e = .returned (.int .i64 (ks.length : Int)) ∧ Below w'.heap.size w' w'') := fun w' g G h1 => keys_any _ (lwL ls G) w' (h1.wrAt hl.ok) (by rw [lwL_len]; omega)
    have HROD : Hid (∀ w', Below w.heap.size w w' → Calls Try.prog 7 #[.slice la ls.length lc] w' (RoPost ls w')) := fun w' hb => rorder_any _ ls w' (hl.grow hb) (by omega) (fun x hx => by have := hll x hx; omega)
    have HOVR : Hid (∀ w' gp Gp gq Gq, LentP w' gp es.length Gp es → LentWr w' gq ls.length Gq ls → Calls Try.prog 8 #[.slice (some ⟨gp, 0, none⟩) es.length (es.length + 2), .slice (some ⟨gq, 0, none⟩) ls.length (ls.length + 2)] w' (OvPost es (lwL ls Gq) w')) := fun w' gp Gp gq Gq h1 h2 => override_any _ _ (lvP es Gp) es (lwL ls Gq) w' (h1.prAt (fun i hi => by obtain ⟨_, _, _, _, _, h3⟩ := hv; exact (h3 i hi).1) (fun i hi => by obtain ⟨_, _, _, _, _, h3⟩ := hv; obtain ⟨_, _, _, _, _, h4, _⟩ := (h3 i hi).2; exact h4)) (h2.wrAt hl.ok) (by rw [lwL_len]; omega) (fun i hi => by have := hle i hi; omega) (fun x hx => by
      unfold lwL at hx
      obtain ⟨i, hi, rfl⟩ := List.mem_map.1 hx
      have hi := List.mem_range.1 hi
      have := hll ls[i]! (by rw [getElem!_pos ls i hi]; exact List.getElem_mem hi)
      show ls[i]!.b.length ≤ _
      omega)
    have HROV : Hid (∀ w', Below w.heap.size w w' → Calls Try.prog 9 #[.slice ma es.length mc, .slice la ls.length lc] w' (RvPost es ls w')) := fun w' hb => roverride_any _ _ V es ls w' (hv.grow hb) (hl.grow hb) (by omega) (fun i hi => by have := hle i hi; omega) (fun x hx => by have := hll x hx; omega)
    have HKPP : Hid (∀ w' gp Gp, Below w.heap.size w w' → LentP w' gp es.length Gp es → Calls Try.prog 13 #[.slice (some ⟨gp, 0, none⟩) es.length (es.length + 2), .slice ma es.length mc] w' fun e w'' => e = .returned (.bool true) ∧ Below w'.heap.size w' w'') := fun w' gp Gp hb h1 => keptPairs_true gp Gp _ V es w' h1 (hv.grow hb) (by omega) hle
    have HKWW : Hid (∀ w' gq Gq, Below w.heap.size w w' → LentWr w' gq ls.length Gq ls → Calls Try.prog 14 #[.slice (some ⟨gq, 0, none⟩) ls.length (ls.length + 2), .slice la ls.length lc] w' fun e w'' => e = .returned (.bool true) ∧ Below w'.heap.size w' w'') := fun w' gq Gq hb h1 => kept_lent h1 (hl.grow hb) hls hll
    obtain ⟨n, hn⟩ : ∃ n, n = es.length := ⟨_, rfl⟩
    obtain ⟨lm, hlm⟩ : ∃ lm, lm = ls.length := ⟨_, rfl⟩
    have HN : Hid (n = es.length ∧ lm = ls.length ∧ n ≤ 80 ∧ lm ≤ 80) := ⟨hn, hlm, by omega, by omega⟩
    have HLP2 : Hid (Calls Try.prog 4 #[.slice ma n mc] w (LentPost2 es w)) := by rw [hn]; exact HLP.out
    rw [← hlm] at HLW HODR HKEY HROD HOVR HROV HKWW
    rw [← hn] at HOVR HROV HKPP
    rw [← hn, ← hlm]
    have z1 : ¬ (80 : Int) < (n : Int) := by omega
    have z2 : ¬ (80 : Int) < (lm : Int) := by omega
    clear hv hl hle hll hn hlm hes hls hbig HLP
    go_enter Try.func3, Try.ntmps3
    go_wp2_with (first
      | (go_at_call 4; refine HLP2.out.mono ?_; rintro e x1 ⟨gp, Gp, rfl, p1, p2, p3, p4, b1⟩; rw [← HN.out.1] at p4 ⊢; have HP1 := hidden (And.intro p1 (And.intro p2 (And.intro p3 p4))); have B1 := hidden b1; clear p1 p2 p3 p4 b1)
      | (go_at_call 5; refine (HLW.out _ B1.out).mono ?_; rintro e x2 ⟨gq, Gq, rfl, q1, q2, q3, q4, b2⟩; rw [← HN.out.2.1] at q4 ⊢; have HQ1 := hidden (And.intro q1 (And.intro q2 (And.intro q3 q4))); have B2 := hidden b2; clear q1 q2 q3 q4 b2)
      | (go_at_call 6; have mk := m1; clear mk; refine (HODR.out _ _ Gq (HQ1.out.2.2.2.grow HA.out.bel)).mono ?_; rintro e x4 ⟨vb, rb, rfl, ob⟩; have HB := hidden ob; clear ob; obtain ⟨ba, bc, rfl⟩ := lst_slice HB.out.own; have m2 : Hid True := trivial; clear m1)
      | (go_at_call 6; have mk := HQ1; clear mk; refine (HODR.out _ _ Gq HQ1.out.2.2.2).mono ?_; rintro e x3 ⟨va, ra, rfl, oa⟩; have HA := hidden oa; clear oa; obtain ⟨aa, ac, rfl⟩ := lst_slice HA.out.own; have m1 : Hid True := trivial)
      | (go_at_call 7; refine (HROD.out _ (grow_trans (grow_trans (grow_trans B1.out B2.out) HA.out.bel) HB.out.bel)).mono ?_; rintro e x5 ⟨vc, rc, rfl, c1, c2, c3, c4, c5⟩; obtain ⟨m, hall⟩ := oall_ex HA.out HB.out c1 c2 c3 c4 (by rw [← HN.out.2.1]; exact HN.out.2.2.2); obtain ⟨ca, cc, rfl⟩ := lst_slice c1; have B5 : Hid (Below w.heap.size w x5) := grow_trans (grow_trans (grow_trans (grow_trans B1.out B2.out) HA.out.bel) HB.out.bel) c5; have B45 := hidden c5; rw [hall.la, hall.lb, hall.lc]; have HALL := hidden hall; clear hall c1 c2 c3 c4 c5)
      | (go_at_call 8; refine (HOVR.out _ gp Gp gq Gq (HP1.out.2.2.2.grow (grow_trans (grow_trans (grow_trans B2.out HA.out.bel) HB.out.bel) B45.out)) (HQ1.out.2.2.2.grow (grow_trans (grow_trans HA.out.bel HB.out.bel) B45.out))).mono ?_; rintro e x6 ⟨vx, rx, rfl, x1', x2', x3', x4', x5', x6'⟩; have HX := hidden (And.intro x1' (And.intro x2' (And.intro x3' (And.intro x4' x5')))); have B56 := hidden x6'; obtain ⟨xa, xc, rfl⟩ := ownsP_slice x2'; clear x1' x2' x3' x4' x5' x6')
      | (go_at_call 9; refine (HROV.out _ (grow_trans B5.out B56.out)).mono ?_; rintro e x7 ⟨vy, ry, rfl, y1, y2, y3, y4, y5⟩; have HY := hidden (And.intro y1 (And.intro y2 y3)); have B67 := hidden y5; obtain ⟨ya, yc, rfl⟩ := ownsP_slice y2; clear y1 y2 y3 y4 y5))
    have HKL : Hid (∀ x ∈ ls, x.k.length = 32) := fun x hx => (HL.out.ok x hx).hk.1
    have HEB2 : Hid (∀ i, i < es.length → Bytes (es.getD i e00).2 ∧ (es.getD i e00).2.length ≤ 140737488355328 - 4096) := fun i hi => ⟨by obtain ⟨_, _, _, _, _, h3⟩ := HV.out; obtain ⟨_, _, _, _, _, h4, _⟩ := (h3 i hi).2; exact h4, HLE.out i hi⟩
    have HLB2 : Hid (∀ x ∈ ls, Bytes x.b ∧ x.b.length ≤ 140737488355328 - 4096) := fun x hx => ⟨(HL.out.ok x hx).hb, HLL.out x hx⟩
    have B57 : Hid (Below x5.heap.size x5 x7) := grow_trans B56.out B67.out
    have B47 : Hid (Below x4.heap.size x4 x7) := grow_trans B45.out B57.out
    have B37 : Hid (Below x3.heap.size x3 x7) := grow_trans HB.out.bel B47.out
    have B27 : Hid (Below x2.heap.size x2 x7) := grow_trans HA.out.bel B37.out
    have B17 : Hid (Below x1.heap.size x1 x7) := grow_trans B2.out B27.out
    have B07 : Hid (Below w.heap.size w x7) := grow_trans B1.out B17.out
    obtain ⟨ix, il⟩ := its_same HX.out.1 HY.out.1 (lwL_nrm ls Gq)
    obtain ⟨t, ht⟩ : ∃ t, t = (itsOf rx).length := ⟨_, rfl⟩
    have HT : Hid (t = (itsOf rx).length ∧ (itsOf ry).length = t ∧ (itsOf rx).map (·.1) = (itsOf ry).map (·.1) ∧ t ≤ 160) := ⟨ht, by rw [ht]; exact il.symm, ix, by rw [ht]; have h1 := itsOf_few rx; have h2 := HX.out.2.2.2.2; rw [lwL_len] at h2; have := HN.out; omega⟩
    rw [← il, ← ht]
    have HPX : Hid (∀ w', Below x7.heap.size x7 w' → PrAt w' (.slice xa t xc) (fun i => ((itsOf rx).getD i (e00, undef)).2) ((itsOf rx).map (·.1))) := fun w' hb => by
      rw [ht]
      exact (prAt_its HX.out.2.1 (fun x hx => ⟨(HX.out.2.2.1 x hx).1, by obtain ⟨sp, ho⟩ := (HX.out.2.2.1 x hx).2; exact ho.reads⟩)).grow (grow_trans B67.out hb)
    have HPY : Hid (∀ w', Below x7.heap.size x7 w' → PrAt w' (.slice ya t yc) (fun i => ((itsOf ry).getD i (e00, undef)).2) ((itsOf rx).map (·.1))) := fun w' hb => by
      rw [ix, ht, il]
      exact (prAt_its HY.out.2.1 HY.out.2.2).grow hb
    have HPP : Hid (∀ w', Below x7.heap.size x7 w' → PrAt w' (.slice (some ⟨gp, 0, none⟩) n (n + 2)) (lvP es Gp) es) := fun w' hb => by
      rw [HN.out.1]
      have h0 := HP1.out.2.2.2
      rw [HN.out.1] at h0
      exact (h0.grow (grow_trans B17.out hb)).prAt (fun i hi => by obtain ⟨_, _, _, _, _, h3⟩ := HV.out; exact (h3 i hi).1) (fun i hi => by obtain ⟨_, _, _, _, _, h3⟩ := HV.out; obtain ⟨_, _, _, _, _, h4, _⟩ := (h3 i hi).2; exact h4)
    have HS1 : Hid (∀ w', Below x7.heap.size x7 w' → Calls Try.prog 10 #[.slice aa m ac, .slice ca m cc] w' fun e w'' => e = .returned (.bool true) ∧ Below w'.heap.size w' w'') := fun w' hb => by
      have h1 := HALL.out.a
      rw [HALL.out.la] at h1
      have h2 : WrAt w' (.slice ca m cc) rc := by
        have h3 := (wrAt_own HALL.out.c1 (fun x hx => (HALL.out.c2 x hx).1) (fun x hx => (HALL.out.c2 x hx).2.1)).grow (grow_trans B57.out hb)
        rw [HALL.out.lc] at h3
        exact h3
      exact same_ord h1 (grow_trans B37.out hb) HALL.out.la HALL.out.lc HALL.out.few h2 (fun x hx => (HALL.out.c2 x hx).2.2) HALL.out.ac
    have HS2 : Hid (∀ w', Below x7.heap.size x7 w' → Calls Try.prog 10 #[.slice ba m bc, .slice ca m cc] w' fun e w'' => e = .returned (.bool true) ∧ Below w'.heap.size w' w'') := fun w' hb => by
      have h1 := HALL.out.b
      rw [HALL.out.lb] at h1
      have h2 : WrAt w' (.slice ca m cc) rc := by
        have h3 := (wrAt_own HALL.out.c1 (fun x hx => (HALL.out.c2 x hx).1) (fun x hx => (HALL.out.c2 x hx).2.1)).grow (grow_trans B57.out hb)
        rw [HALL.out.lc] at h3
        exact h3
      exact same_ord h1 (grow_trans B47.out hb) HALL.out.lb HALL.out.lc HALL.out.few h2 (fun x hx => (HALL.out.c2 x hx).2.2) HALL.out.bc
    have HK1 : Hid (∀ w', Below x7.heap.size x7 w' → Calls Try.prog 11 #[.slice (some ⟨gq, 0, none⟩) lm (lm + 2)] w' fun e w'' => e = .returned (.int .i64 (m : Int)) ∧ Below w'.heap.size w' w'') := fun w' hb => (HKEY.out w' gq Gq (HQ1.out.2.2.2.grow (grow_trans B27.out hb))).mono fun e w'' ⟨ks, k1, _, k3, k4⟩ => ⟨by
      have e1 : ks.map nrm = ra.map nrm := k1.nm.one HALL.out.a.lat
      have e2 : ks.length = ra.length := by have := congrArg List.length e1; simpa using this
      rw [k3, e2, HALL.out.la], k4⟩
    have HSP1 : Hid (∀ w', Below x7.heap.size x7 w' → Calls Try.prog 12 #[.slice xa t xc, .slice ya t yc] w' fun e w'' => e = .returned (.bool true) ∧ Below w'.heap.size w' w'') := fun w' hb => samePairs_true _ _ _ _ _ w' (HPX.out w' hb) (HPY.out w' hb) (by rw [List.length_map, ← HT.out.1]; have := HT.out.2.2.2; omega)
    have HKP1 : Hid (∀ w', Below x7.heap.size x7 w' → Calls Try.prog 13 #[.slice (some ⟨gp, 0, none⟩) n (n + 2), .slice ma n mc] w' fun e w'' => e = .returned (.bool true) ∧ Below w'.heap.size w' w'') := fun w' hb => HKPP.out w' gp Gp (grow_trans B07.out hb) (HP1.out.2.2.2.grow (grow_trans B17.out hb))
    have HKW1 : Hid (∀ w', Below x7.heap.size x7 w' → Calls Try.prog 14 #[.slice (some ⟨gq, 0, none⟩) lm (lm + 2), .slice la lm lc] w' fun e w'' => e = .returned (.bool true) ∧ Below w'.heap.size w' w'') := fun w' hb => HKWW.out w' gq Gq (grow_trans B07.out hb) (HQ1.out.2.2.2.grow (grow_trans B27.out hb))
    have BV : Hid (Below x7.heap.size x7 x7) := Below.refl _ _
    have m3 : Hid True := trivial
    clear HLP2 HLW HODR HKEY HROD HOVR HROV HKPP HKWW ix il ht HPY HV HL HLE HLL m2
    go_wp2_with (first
      | (go_at_call 10; have mk := m3; clear mk; refine (HS1.out _ BV.out).mono ?_; rintro e x8 ⟨rfl, d⟩; have BW := hidden (grow_trans BV.out d); clear BV d m3; have BV := BW; clear BW; have m4 : Hid True := trivial)
      | (go_at_call 10; have mk := m4; clear mk; refine (HS2.out _ BV.out).mono ?_; rintro e x9 ⟨rfl, d⟩; have BW := hidden (grow_trans BV.out d); clear BV d m4; have BV := BW; clear BW)
      | (go_at_call 11; refine (HK1.out _ BV.out).mono ?_; rintro e x10 ⟨rfl, d⟩; have BW := hidden (grow_trans BV.out d); clear BV d; have BV := BW; clear BW)
      | (go_at_call 12; refine (HSP1.out _ BV.out).mono ?_; rintro e x11 ⟨rfl, d⟩; have BW := hidden (grow_trans BV.out d); clear BV d; have BV := BW; clear BW)
      | (go_at_call 13; refine (HKP1.out _ BV.out).mono ?_; rintro e x12 ⟨rfl, d⟩; have BW := hidden (grow_trans BV.out d); clear BV d; have BV := BW; clear BW)
      | (go_at_call 14; refine (HKW1.out _ BV.out).mono ?_; rintro e x13 ⟨rfl, d⟩; have BW := hidden (grow_trans BV.out d); clear BV d; have BV := BW; clear BW)
      | (refine wpList_bs2p _ rfl _ _ rfl _ _ _ _ _ _ rfl rfl ?_; intro xB gl hgl BL d; have BW := hidden (grow_trans BV.out d); clear BV d; have BV := BW; clear BW; have HBL := hidden BL; clear BL))
    obtain ⟨Es, hEs⟩ : ∃ Es : Nat → List Ent, Es = fun i => if i = 0 then es else (itsOf rx).map (·.1) := ⟨_, rfl⟩
    obtain ⟨Vs, hVs⟩ : ∃ Vs : Nat → Nat → Value, Vs = fun i => if i = 0 then lvP es Gp else fun k => ((itsOf rx).getD k (e00, undef)).2 := ⟨_, rfl⟩
    have HV0 : Hid (vlsN Es Vs 2 = (List.range n).map (lvP es Gp) ++ (itsOf rx).map (·.2)) := by
      show _ = _
      have e1 : (List.range ((itsOf rx).map (·.1)).length).map (fun k => ((itsOf rx).getD k (e00, undef)).2) = (itsOf rx).map (·.2) := by rw [List.length_map]; exact its_vals _
      rw [hEs, hVs, HN.out.1]
      simp only [vlsN]
      simp only [if_true, List.nil_append, show ¬ (1 = 0) by omega, if_false]
      rw [e1]
    have HLN : Hid ((vlsN Es Vs 2).length = n + t) := by show _ = _; rw [HV0.out]; simp [HT.out.1]
    have HVOF : Hid (Calls Try.prog 15 #[.slice (some ⟨gl, 0, none⟩) 2 2] xB fun e w' => ∃ v, e = .returned v ∧ AccS xB w' v (vlsN Es Vs 2).length (vlsN Es Vs 2)) := by
      refine valuesOf_any gl (fun i => if i = 0 then .slice (some ⟨gp, 0, none⟩) n (n + 2) else .slice xa t xc) Es Vs xB (fun i hi => ?_) (fun i hi => ?_) (by rw [HLN.out]; have := HN.out; have := HT.out; omega)
      · rcases (show i = 0 ∨ i = 1 by omega) with e | e <;> subst e <;> rw [HBL.out.cell] <;> rfl
      · rcases (show i = 0 ∨ i = 1 by omega) with e | e <;> subst e <;> rw [hEs, hVs]
        · exact HPP.out _ BV.out
        · exact HPX.out _ BV.out
    obtain ⟨L1, hL1⟩ : ∃ L1 : Nat → List Value, L1 = fun i => vlsN Es Vs 2 ++ (List.range i).flatMap fun k => [ra[k]!.v, rb[k]!.v] := ⟨_, rfl⟩
    have HL1 : Hid (L1 0 = vlsN Es Vs 2 ∧ (∀ i, L1 (i + 1) = L1 i ++ [ra[i]!.v, rb[i]!.v]) ∧ (∀ i, (L1 i).length = n + t + 2 * i)) := by
      refine ⟨by rw [hL1]; simp, fun i => by rw [hL1]; simp [List.range_succ], fun i => ?_⟩
      rw [hL1]
      simp only [List.length_append, HLN.out]
      congr 1
      induction i with
      | zero => simp
      | succ i ih => rw [List.range_succ, List.flatMap_append, List.length_append, ih]; simp; omega
    obtain ⟨L2, hL2⟩ : ∃ L2 : Nat → List Value, L2 = fun i => L1 m ++ (List.range i).map fun k => (lwW ls Gq k).v := ⟨_, rfl⟩
    have HL2 : Hid (L2 0 = L1 m ∧ (∀ i, L2 (i + 1) = L2 i ++ [(lwW ls Gq i).v]) ∧ (∀ i, (L2 i).length = n + t + 2 * m + i)) := by
      refine ⟨by rw [hL2]; simp, fun i => by rw [hL2]; simp [List.range_succ], fun i => by rw [hL2]; simp [HL1.out.2.2]⟩
    have HROWA : Hid (∀ w', Below xB.heap.size xB w' → Lst w' 37 34 (.slice aa m ac) m (flatE encW ra)) := fun w' hb => by
      have h1 := lst_grow HALL.out.a.own (grow_trans B37.out (grow_trans BV.out hb))
      rw [HALL.out.la] at h1
      exact h1
    have HROWB : Hid (∀ w', Below xB.heap.size xB w' → Lst w' 37 34 (.slice ba m bc) m (flatE encW rb)) := fun w' hb => by
      have h1 := lst_grow HALL.out.b.own (grow_trans B47.out (grow_trans BV.out hb))
      rw [HALL.out.lb] at h1
      exact h1
    have HQC : Hid (∀ i, i < lm → ∀ w', Below xB.heap.size xB w' → w'.cell? ⟨gq, i * 34 + 33, none⟩ = some (lwW ls Gq i).v) := fun i hi w' hb => by
      have h1 := rngW_grow (HQ1.out.2.2.2.pair i hi) (grow_trans B27.out (grow_trans BV.out hb))
      have hi2 : i < ls.length := by have := HN.out; omega
      have h2 := encW_val h1 (by unfold lwW; show ls[i]!.k.length = 32; rw [getElem!_pos ls i hi2]; exact HKL.out _ (List.getElem_mem hi2))
      exact h2
    have HFIN : Hid (Apt (L2 lm) ∧ ∀ u ∈ L2 lm, ∃ zs sp, OwnT w.heap.size xB u zs sp) := by
      have oP : ∀ k, k < n → Own w.heap.size x1 (lvP es Gp k) (es.getD k e00).2 (marks (es.getD k e00).2.length) := fun k hk => by
        have hk2 : k < es.length := by have := HN.out; omega
        exact own_lent (HP1.out.2.2.2.row k hk) (HEB2.out k hk2).1 (HP1.out.2.1 k hk2) (by have := (HEB2.out k hk2).2; omega)
      have oQ : ∀ k, k < lm → Own x1.heap.size x2 (lwW ls Gq k).v ls[k]!.b (marks ls[k]!.b.length) := fun k hk => by
        have hk2 : k < ls.length := by have := HN.out; omega
        exact own_lent (HQ1.out.2.2.2.row k hk) (HLB2.out _ (by rw [getElem!_pos ls k hk2]; exact List.getElem_mem hk2)).1 (HQ1.out.2.1 k hk2) (by have := (HLB2.out ls[k]! (by rw [getElem!_pos ls k hk2]; exact List.getElem_mem hk2)).2; omega)
      have oA : ∀ k, k < m → ∃ sp, Own x2.heap.size x3 ra[k]!.v ra[k]!.b sp := fun k hk => by
        have hk2 : k < ra.length := by have := HALL.out.la; omega
        rw [getElem!_pos ra k hk2]
        exact (HALL.out.a.ok _ (List.getElem_mem hk2)).2.2
      have oB : ∀ k, k < m → ∃ sp, Own x3.heap.size x4 rb[k]!.v rb[k]!.b sp := fun k hk => by
        have hk2 : k < rb.length := by have := HALL.out.lb; omega
        rw [getElem!_pos rb k hk2]
        exact (HALL.out.b.ok _ (List.getElem_mem hk2)).2.2
      have oX : ∀ u ∈ (itsOf rx).map (·.2), ∃ zs sp, Own x5.heap.size x6 u zs sp := fun u hu => by
        obtain ⟨p, hp, rfl⟩ := List.mem_map.1 hu
        obtain ⟨x, hx, rfl⟩ := itsOf_mem hp
        obtain ⟨sp, ho⟩ := (HX.out.2.2.1 x hx).2
        exact ⟨_, sp, ho⟩
      have s12 := B2.out.size
      have s23 := HALL.out.a.bel.size
      have s34 := HALL.out.b.bel.size
      have s45 := B45.out.size
      have s01 := B1.out.size
      have eL : L2 lm = (List.range n).map (lvP es Gp) ++ (itsOf rx).map (·.2) ++ ((List.range m).flatMap fun k => [ra[k]!.v, rb[k]!.v]) ++ (List.range lm).map fun k => (lwW ls Gq k).v := by rw [hL2, hL1, HV0.out]
      have iA : ∀ k, k < m → InR x2.heap.size x3.heap.size ra[k]!.v := fun k hk => by obtain ⟨sp, ho⟩ := oA k hk; exact own_inr ho (Nat.le_refl _)
      have iB : ∀ k, k < m → InR x3.heap.size x4.heap.size rb[k]!.v := fun k hk => by obtain ⟨sp, ho⟩ := oB k hk; exact own_inr ho (Nat.le_refl _)
      refine ⟨?_, fun u hu => ?_⟩
      · rw [eL]
        refine apt_all (s0 := w.heap.size) (s1 := x1.heap.size) (s2 := x2.heap.size) (s4 := x4.heap.size) (s5 := x5.heap.size) (s6 := x6.heap.size) (apt_map n _ fun i j hi hj hij q e1 e2 => ?_) (its_apt HX.out.2.2.2.1) (apt_two m _ _ iA iB (Nat.le_refl _) (fun i j hi hj => HALL.out.a.ap i j (by have := HALL.out.la; omega) (by have := HALL.out.la; omega)) (fun i j hi hj => HALL.out.b.ap i j (by have := HALL.out.lb; omega) (by have := HALL.out.lb; omega))) (apt_map lm _ fun i j hi hj hij q e1 e2 => ?_) (inr_map n _ fun k hk => own_inr (oP k hk) (Nat.le_refl _)) (inr_map lm _ fun k hk => own_inr (oQ k hk) (Nat.le_refl _)) (inr_two m _ _ iA iB s23 s34) (fun u hu => by obtain ⟨zs, sp, ho⟩ := oX u hu; exact own_inr ho (Nat.le_refl _)) s12 (by omega) s45
        · have i2 : i < es.length := by have := HN.out; omega
          have j2 : j < es.length := by have := HN.out; omega
          simp only [lvP, Value.ownBlock, Option.some.injEq] at e1 e2
          exact HP1.out.2.2.1 i j i2 j2 hij (by omega)
        · have i2 : i < ls.length := by have := HN.out; omega
          have j2 : j < ls.length := by have := HN.out; omega
          simp only [lwW, Value.ownBlock, Option.some.injEq] at e1 e2
          exact HQ1.out.2.2.1 i j i2 j2 hij (by omega)
      · rw [eL] at hu
        have g1 : Below x1.heap.size x1 xB := grow_trans B17.out BV.out
        have g2 : Below x2.heap.size x2 xB := grow_trans B27.out BV.out
        have g3 : Below x3.heap.size x3 xB := grow_trans B37.out BV.out
        have g4 : Below x4.heap.size x4 xB := grow_trans B47.out BV.out
        have g6 : Below x6.heap.size x6 xB := grow_trans B67.out BV.out
        rcases List.mem_append.1 hu with hu | hu
        · rcases List.mem_append.1 hu with hu | hu
          · rcases List.mem_append.1 hu with hu | hu
            · obtain ⟨k, hk, rfl⟩ := List.mem_map.1 hu
              exact ⟨_, _, ((oP k (List.mem_range.1 hk)).grow g1).toT⟩
            · obtain ⟨zs, sp, ho⟩ := oX u hu
              exact ⟨zs, sp, ((ho.grow g6).mono (by omega)).toT⟩
          · obtain ⟨k, hk, hu⟩ := List.mem_flatMap.1 hu
            have hk := List.mem_range.1 hk
            simp only [List.mem_cons, List.not_mem_nil, or_false] at hu
            rcases hu with rfl | rfl
            · obtain ⟨sp, ho⟩ := oA k hk
              exact ⟨_, sp, ((ho.grow g3).mono (by omega)).toT⟩
            · obtain ⟨sp, ho⟩ := oB k hk
              exact ⟨_, sp, ((ho.grow g4).mono (by omega)).toT⟩
        · obtain ⟨k, hk, rfl⟩ := List.mem_map.1 hu
          exact ⟨_, _, (((oQ k (List.mem_range.1 hk)).grow g2).mono (by omega)).toT⟩
    have HOKA : Hid (∀ i, i < m → WtOk ra[i]! ∧ WtOk rb[i]!) := fun i hi => by
      have i1 : i < ra.length := by have := HALL.out.la; omega
      have i2 : i < rb.length := by have := HALL.out.lb; omega
      exact ⟨by rw [getElem!_pos ra i i1]; exact (HALL.out.a.ok _ (List.getElem_mem i1)).1, by rw [getElem!_pos rb i i2]; exact (HALL.out.b.ok _ (List.getElem_mem i2)).1⟩
    have HOKS : Hid ((∀ x ∈ ra, WtOk x) ∧ (∀ x ∈ rb, WtOk x) ∧ ra.length = m ∧ rb.length = m ∧ m ≤ 80) := ⟨fun x hx => (HALL.out.a.ok x hx).1, fun x hx => (HALL.out.b.ok x hx).1, HALL.out.la, HALL.out.lb, HALL.out.few⟩
    have HBB : Hid (Below w.heap.size w xB) := grow_trans B07.out BV.out
    have HT2 : Hid (t ≤ 160) := HT.out.2.2.2
    have HL0 := hidden HL1.out.1
    rw [← HL0.out] at HVOF
    clear HL0 HEB2 HLB2 HKL hEs hVs hL1 hL2 HV0 HLN HALL HX HY HT HPX HPP HS1 HS2 HK1 HSP1 HKP1 HKW1 HP1 HQ1 HA HB B57 B47 B37 B27 B17 B07 B1 B2 B5 B45 B56 B67 BV HBL
    go_wp2_with (go_at_call 15; refine HVOF.out.mono ?_; rintro e xC ⟨vm, rfl, hvm⟩; have HM0 := hidden hvm; obtain ⟨ea, ec, rfl⟩ := ownsS_slice hvm.own; clear hvm)
    clear HVOF
    go_loopw [12, 13] (fun ev iv wr => ∃ (i : Nat), iv = .int .i64 (i : Int) ∧ i ≤ m ∧ (∃ a c, ev = .slice a (L1 i).length c) ∧ Hid (AccS xB wr ev (L1 i).length (L1 i))) (fun _ iv _ => m - (intOf iv).toNat)
    case atStart => exact ⟨0, rfl, by omega, ⟨_, _, rfl⟩, HM0⟩
    case round =>
      clear HM0
      obtain ⟨i, rfl, him, ⟨ea, ec, rfl⟩, hacc⟩ := hrel
      by_cases hlt : i < m
      · as_aux_lemma =>
          have z3 : (i : Int) < (m : Int) := by omega
          have z0 : (0 : Int) ≤ (i : Int) := by omega
          obtain ⟨ga, ac', hga, _⟩ := lst_pos (HROWA.out xB (Below.refl _ _)) (by omega)
          injection hga with hga hx1 hx2
          subst hga
          obtain ⟨gb, bc', hgb, _⟩ := lst_pos (HROWB.out xB (Below.refl _ _)) (by omega)
          injection hgb with hgb hx3 hx4
          subst hgb
          obtain ⟨oka, okb⟩ := HOKA.out i hlt
          obtain ⟨ua, uc, hua⟩ := oka.hv
          obtain ⟨va, vc, hva⟩ := okb.hv
          obtain ⟨ul, hul⟩ : ∃ ul, ul = ra[i]!.b.length := ⟨_, rfl⟩
          obtain ⟨vl, hvl⟩ : ∃ vl, vl = rb[i]!.b.length := ⟨_, rfl⟩
          rw [← hul] at hua
          rw [← hvl] at hva
          have HCC : Hid (∀ w', Below xB.heap.size xB w' → w'.cell? ⟨ga, i * 34 + 33, none⟩ = some (.slice ua ul uc) ∧ w'.cell? ⟨gb, i * 34 + 33, none⟩ = some (.slice va vl vc)) := fun w' hb => by
            have i1 : i < ra.length := by have := HOKS.out; omega
            have i2 : i < rb.length := by have := HOKS.out; omega
            have h1 := (lstE_range (HROWA.out w' hb) HOKS.out.2.2.1 (fun x hx => (HOKS.out.1 x hx).len) i i1).1
            have h2 := (lstE_range (HROWB.out w' hb) HOKS.out.2.2.2.1 (fun x hx => (HOKS.out.2.1 x hx).len) i i2).1
            rw [← hua, ← hva]
            rw [← getElem!_pos ra i i1] at h1
            rw [← getElem!_pos rb i i2] at h2
            exact ⟨encW_val h1 oka.hk.1, encW_val h2 okb.hk.1⟩
          obtain ⟨j, hj⟩ : ∃ j, j = i + 1 := ⟨_, rfl⟩
          have HJ := hidden hj
          have HNX : Hid (L1 i ++ [.slice ua ul uc, .slice va vl vc] = L1 j) := by show _ = _; rw [hj, HL1.out.2.1 i, hua, hva]
          obtain ⟨el, hel⟩ : ∃ el, el = (L1 i).length := ⟨_, rfl⟩
          have HNL : Hid (el + 2 = (L1 j).length) := by show _ = _; rw [← HNX.out, hel]; simp
          have HEB : Hid (el + 2 ≤ 1000000000) := by show el + 2 ≤ _; rw [hel, HL1.out.2.2]; have := HN.out; have := HT2.out; have := HOKS.out; omega
          rw [← hel] at hacc ⊢
          have hwi := w64_succ (k := i) (by have := HOKS.out; omega) hj
          have d0 : Below xB.heap.size xB wr.drew := grow_trans hacc.out.bel (Below.refl _ _).drew
          clear hx1 hx2 hx3 hx4 oka okb hua hva hul hvl hj hel
          go_wp2_with fail
          refine wp_region_held_drew (S := fun w' => w'.cell? ⟨ga, i * 34 + 33, none⟩ = some (.slice ua ul uc) ∧ w'.cell? ⟨gb, i * 34 + 33, none⟩ = some (.slice va vl vc)) (by kernel_rfl) (HCC.out _ d0) (fun hHeld => ?_)
          refine wpAnyH_take (i := 0) (v := .slice ea el ec) rfl (by kernel_rfl) (by kernel_rfl) (by kernel_rfl) (fun _ _ _ h => h) (Or.inl ⟨by rfl, fun w hS => by go_simp⟩) hHeld ?_
          simp only [Act.put, List.getElem_toArray, List.getElem_cons_zero, List.setIfInBounds_toArray, List.set_cons_zero, List.set_cons_succ]
          refine wpAnyH_take (i := 1) (v := .slice (some ⟨ga, 0, none⟩) m ac) rfl (by kernel_rfl) (by kernel_rfl) (by kernel_rfl) (fun _ _ _ h => h) (Or.inl ⟨by rfl, fun w hS => by go_simp⟩) hHeld ?_
          simp only [Act.put, List.getElem_toArray, List.getElem_cons_zero, List.getElem_cons_succ, List.setIfInBounds_toArray, List.set_cons_zero, List.set_cons_succ]
          refine wpAnyH_take (i := 2) (v := .int .i64 (i : Int)) rfl (by kernel_rfl) (by kernel_rfl) (by kernel_rfl) (fun _ _ _ h => h) (Or.inl ⟨by rfl, fun w hS => by go_simp⟩) hHeld ?_
          simp only [Act.put, List.getElem_toArray, List.getElem_cons_zero, List.getElem_cons_succ, List.setIfInBounds_toArray, List.set_cons_zero, List.set_cons_succ]
          refine wpAnyH_take (i := 3) (v := .pointer (some ⟨ga, i * 34, none⟩)) rfl (by kernel_rfl) (by kernel_rfl) (by kernel_rfl) (fun _ _ _ h => h) (Or.inl ⟨by rfl, fun w hS => by go_simp⟩) hHeld ?_
          simp only [Act.put, List.getElem_toArray, List.getElem_cons_zero, List.getElem_cons_succ, List.setIfInBounds_toArray, List.set_cons_zero, List.set_cons_succ]
          refine wpAnyH_take (i := 4) (v := .pointer (some ⟨ga, i * 34 + 33, none⟩)) rfl (by kernel_rfl) (by kernel_rfl) (by kernel_rfl) (fun _ _ _ h => h) (Or.inl ⟨by rfl, fun w hS => by go_simp⟩) hHeld ?_
          simp only [Act.put, List.getElem_toArray, List.getElem_cons_zero, List.getElem_cons_succ, List.setIfInBounds_toArray, List.set_cons_zero, List.set_cons_succ]
          refine wpAnyH_take (i := 5) (v := .slice ua ul uc) rfl (by kernel_rfl) (by kernel_rfl) (by kernel_rfl) (fun _ _ _ h => h) (Or.inl ⟨by rfl, fun w hS => by (have q1 := hS.1; go_simp)⟩) hHeld ?_
          simp only [Act.put, List.getElem_toArray, List.getElem_cons_zero, List.getElem_cons_succ, List.setIfInBounds_toArray, List.set_cons_zero, List.set_cons_succ]
          refine wpAnyH_take (i := 6) (v := .slice (some ⟨gb, 0, none⟩) m bc) rfl (by kernel_rfl) (by kernel_rfl) (by kernel_rfl) (fun _ _ _ h => h) (Or.inl ⟨by rfl, fun w hS => by go_simp⟩) hHeld ?_
          simp only [Act.put, List.getElem_toArray, List.getElem_cons_zero, List.getElem_cons_succ, List.setIfInBounds_toArray, List.set_cons_zero, List.set_cons_succ]
          refine wpAnyH_take (i := 7) (v := .int .i64 (i : Int)) rfl (by kernel_rfl) (by kernel_rfl) (by kernel_rfl) (fun _ _ _ h => h) (Or.inl ⟨by rfl, fun w hS => by go_simp⟩) hHeld ?_
          simp only [Act.put, List.getElem_toArray, List.getElem_cons_zero, List.getElem_cons_succ, List.setIfInBounds_toArray, List.set_cons_zero, List.set_cons_succ]
          refine wpAnyH_take (i := 8) (v := .pointer (some ⟨gb, i * 34, none⟩)) rfl (by kernel_rfl) (by kernel_rfl) (by kernel_rfl) (fun _ _ _ h => h) (Or.inl ⟨by rfl, fun w hS => by go_simp⟩) hHeld ?_
          simp only [Act.put, List.getElem_toArray, List.getElem_cons_zero, List.getElem_cons_succ, List.setIfInBounds_toArray, List.set_cons_zero, List.set_cons_succ]
          refine wpAnyH_take (i := 9) (v := .pointer (some ⟨gb, i * 34 + 33, none⟩)) rfl (by kernel_rfl) (by kernel_rfl) (by kernel_rfl) (fun _ _ _ h => h) (Or.inl ⟨by rfl, fun w hS => by go_simp⟩) hHeld ?_
          simp only [Act.put, List.getElem_toArray, List.getElem_cons_zero, List.getElem_cons_succ, List.setIfInBounds_toArray, List.set_cons_zero, List.set_cons_succ]
          refine wpAnyH_take (i := 10) (v := .slice va vl vc) rfl (by kernel_rfl) (by kernel_rfl) (by kernel_rfl) (fun _ _ _ h => h) (Or.inl ⟨by rfl, fun w hS => by (have q1 := hS.2; go_simp)⟩) hHeld ?_
          simp only [Act.put, List.getElem_toArray, List.getElem_cons_zero, List.getElem_cons_succ, List.setIfInBounds_toArray, List.set_cons_zero, List.set_cons_succ]
          refine wpAnyH_ready (rs := [11]) (by kernel_rfl) (by simp) ?_
          refine AllReadyH.cons rfl (fun KQ hK => ?_) AllReadyH.nil
          refine step_bs2s _ rfl _ _ rfl ua va ul uc vl vc rfl rfl ?_
          intro w6 g6 hg6 B6 b6
          have HA3 := hidden ((hacc.out.grow (Below.refl _ _).drew).grow b6)
          refine hK.out _ _ (HCC.out _ HA3.out.bel) (fun hHeld => ?_)
          clear hK KQ
          refine wpAnyH_ready (rs := [12]) (by kernel_rfl) (by simp) ?_
          refine AllReadyH.cons rfl (fun KQ hK => ?_) AllReadyH.nil
          refine step_appSs _ rfl _ _ rfl xB.heap.size (.slice ea el ec) el _ HA3.out.own rfl ⟨g6, 0, none⟩ 2 2 [.slice ua ul uc, .slice va vl vc] rfl rfl (blk_cells B6) (sl_two _ _ _ _ _ _) HEB.out HA3.out.bel.size ?_
          intro u2 w7 k1 k2
          rw [HNX.out, HNL.out] at k1
          have HA4 := hidden (HA3.out.app k1 k2)
          clear HA3 k2
          obtain ⟨ua2, uc2, rfl⟩ := ownsS_slice k1
          clear k1 B6
          refine hK.out _ _ (HCC.out _ HA4.out.bel) (fun hHeld => ?_)
          clear hK KQ
          refine wpAnyH_take (i := 13) (v := .slice ua2 (L1 j).length uc2) rfl (by kernel_rfl) (by kernel_rfl) (by kernel_rfl) (fun _ _ _ h => h) (Or.inl ⟨by rfl, fun w hS => by go_simp⟩) hHeld ?_
          simp only [Act.put, List.getElem_toArray, List.getElem_cons_zero, List.getElem_cons_succ, List.setIfInBounds_toArray, List.set_cons_zero, List.set_cons_succ]
          refine wpAnyH_done (by kernel_rfl) ?_ _
          go_wp2_with fail
          rw [hwi]
          clear hwi
          exact ⟨⟨j, rfl, by have := HJ.out; omega, ⟨_, _, rfl⟩, HA4⟩, by have := HJ.out; simp [intOf]; omega⟩
      · have z3 : ¬ (i : Int) < (m : Int) := by omega
        have HM2 : Hid (AccS xB wr (.slice ea (L2 0).length ec) (L2 0).length (L2 0)) := by
          rw [HL2.out.1, show m = i by omega]
          exact hacc.out
        have HEL : Hid ((L1 i).length = (L2 0).length) := by show _ = _; rw [HL2.out.1, show m = i by omega]
        rw [HEL.out]
        clear hacc HEL HROWA HROWB HOKA
        go_wp2_with fail
        go_loopw [12, 14] (fun ev iv wr => ∃ (k : Nat), iv = .int .i64 (k : Int) ∧ k ≤ lm ∧ (∃ a c, ev = .slice a (L2 k).length c) ∧ Hid (AccS xB wr ev (L2 k).length (L2 k))) (fun _ iv _ => lm - (intOf iv).toNat)
        case atStart => exact ⟨0, rfl, by omega, ⟨_, _, rfl⟩, HM2⟩
        case round =>
          clear HM2
          obtain ⟨k, rfl, hkm, ⟨ea, ec, rfl⟩, hacc⟩ := hrel
          by_cases hlt2 : k < lm
          · as_aux_lemma =>
              have y3 : (k : Int) < (lm : Int) := by omega
              have y0 : (0 : Int) ≤ (k : Int) := by omega
              obtain ⟨va, vl, vc, hva⟩ : ∃ va vl vc, (lwW ls Gq k).v = .slice va vl vc := ⟨_, _, _, rfl⟩
              have c1 := HQC.out k hlt2 wr hacc.out.bel
              rw [hva] at c1
              obtain ⟨j, hj⟩ : ∃ j, j = k + 1 := ⟨_, rfl⟩
              have HJ := hidden hj
              have HNX : Hid (L2 k ++ [.slice va vl vc] = L2 j) := by show _ = _; rw [hj, HL2.out.2.1 k, hva]
              obtain ⟨el, hel⟩ : ∃ el, el = (L2 k).length := ⟨_, rfl⟩
              have HNL : Hid (el + 1 = (L2 j).length) := by show _ = _; rw [← HNX.out, hel]; simp
              have HEB : Hid (el + 1 ≤ 1000000000) := by show el + 1 ≤ _; rw [hel, HL2.out.2.2]; have := HN.out; have := HT2.out; have := HOKS.out; omega
              rw [← hel] at hacc ⊢
              have hwi := w64_succ (k := k) (by have := HN.out; omega) hj
              clear hva hj hel
              go_wp2_with (first
                | (refine wpList_bs1 _ rfl _ rfl va vl vc rfl ?_; intro w6 g6 hg6 B6 b6; have HA3 := hidden (hacc.out.grow b6))
                | (at_builtin; refine wpList_appS _ rfl _ _ rfl xB.heap.size _ el _ HA3.out.own rfl ⟨g6, 0, none⟩ 1 1 [.slice va vl vc] rfl rfl (blk_cells B6) (sl_one va vl vc) HEB.out HA3.out.bel.size ?_; intro u2 w7 k1 k2; rw [HNX.out, HNL.out] at k1; have HA4 := hidden (HA3.out.app k1 k2); clear HA3 k2; obtain ⟨ua2, uc2, rfl⟩ := ownsS_slice k1; clear k1 B6))
              have hij : (k : Int) + 1 = (j : Int) := by have := HJ.out; clear hwi; omega
              rw [hij]
              clear hwi hij
              exact ⟨⟨j, rfl, by have := HJ.out; omega, ⟨_, _, rfl⟩, HA4⟩, by have := HJ.out; simp [intOf]; omega⟩
          · have y3 : ¬ (k : Int) < (lm : Int) := by omega
            have HAF : Hid (AccS xB wr (.slice ea (L2 lm).length ec) (L2 lm).length (L2 lm)) := by
              rw [show lm = k by omega]
              exact hacc.out
            have HEL : Hid ((L2 k).length = (L2 lm).length) := by show _ = _; rw [show lm = k by omega]
            rw [HEL.out]
            have HAPB : Hid (Calls Try.prog 16 #[.slice ea (L2 lm).length ec] wr fun e w' => e = .returned (.bool true) ∧ Below wr.heap.size wr w') := by
              by_cases hz : (L2 lm).length = 0
              · rw [hz]
                exact apart_nil _ _ wr
              · obtain ⟨g9, c9, hv9, hc9⟩ := lst_pos (e := 35) (k := 1) (w := wr) (v := .slice ea (L2 lm).length ec) (n := (L2 lm).length) (xs := L2 lm) (by
                  refine ⟨HAF.out.own.1, ?_⟩
                  rcases HAF.out.own.2 with hh | ⟨g', cap, cur, e, hb', rest⟩
                  · exact .inl hh
                  · exact .inr ⟨g', cap, cur, e, Nat.zero_le _, rest⟩) (by omega)
                injection hv9 with e1 _ e3
                have haf := HAF.out
                rw [e1, e3] at haf
                obtain ⟨Z, S, hls⟩ := listsT_of haf HFIN.out.2 HFIN.out.1
                rw [e1, e3]
                exact apart_walkT w.heap.size g9 0 (L2 lm).length c9 _ Z S wr (by rw [HL2.out.2.2]; have := HN.out; have := HT2.out; have := HOKS.out; omega) hls hc9
            have HBF : Hid (Below w.heap.size w wr) := grow_trans HBB.out HAF.out.bel
            clear hacc HAF HEL HFIN
            go_wp2_with (go_at_call 16; refine HAPB.out.mono ?_; rintro e xZ ⟨rfl, dz⟩; have HDZ := hidden dz; clear dz)
            go_ret
            exact ⟨rfl, grow_trans HBF.out HDZ.out⟩

end Go.Proofs.Ytagkmfgoahbclaa
