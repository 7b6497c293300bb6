/- Each key's last write, by rising key: that there is but one such list; how it comes out of a list that is sorted steadily. No program in this text. -/
import Derived.Test.YtagkmfgoahbclaaBo18
import Derived.Test.YtagkmfgoahbclaaBo02
namespace Go.Proofs.Ytagkmfgoahbclaa
set_option maxRecDepth 20000
open Go.RowKit

/-- The last write of its key. -/
def LastW (l : List Wt) (x : Wt) : Prop := ∃ p s, l = p ++ x :: s ∧ ∀ y ∈ s, y.k ≠ x.k
def Ris (r : List Wt) : Prop := r.Pairwise fun a b => Ahead a.k b.k
/-- r: each key's last write of l, by rising key. -/
structure Lat (l r : List Wt) : Prop where
  ris : Ris r
  mem : ∀ x, x ∈ r ↔ LastW l x

theorem LastW.mem {l : List Wt} {x : Wt} (h : LastW l x) : x ∈ l := by
  obtain ⟨p, s, rfl, _⟩ := h
  simp
theorem Lat.sub {l r : List Wt} (h : Lat l r) : ∀ x ∈ r, x ∈ l := fun x hx => ((h.mem x).1 hx).mem

theorem ris_one : ∀ (r q : List Wt), Ris r → Ris q → (∀ x, x ∈ r ↔ x ∈ q) → r = q
  | [], [], _, _, _ => rfl
  | [], b :: q, _, _, h => absurd ((h b).2 (by simp)) (by simp)
  | a :: r, [], _, _, h => absurd ((h a).1 (by simp)) (by simp)
  | a :: r, b :: q, hr, hq, h => by
    have h1 := List.pairwise_cons.1 hr
    have h2 := List.pairwise_cons.1 hq
    have e : a = b := by
      rcases List.mem_cons.1 ((h a).1 (by simp)) with e | e
      · exact e
      · rcases List.mem_cons.1 ((h b).2 (by simp)) with f | f
        · exact f.symm
        · exact absurd (al_trans (h1.1 b f) (h2.1 a e)) (al_irr _)
    subst e
    rw [ris_one r q h1.2 h2.2 fun x => ⟨fun hx => ?_, fun hx => ?_⟩]
    · rcases List.mem_cons.1 ((h x).1 (by simp [hx])) with e | e
      · subst e
        exact absurd (h1.1 x hx) (al_irr _)
      · exact e
    · rcases List.mem_cons.1 ((h x).2 (by simp [hx])) with e | e
      · subst e
        exact absurd (h2.1 x hx) (al_irr _)
      · exact e
theorem Lat.one {l r q : List Wt} (h : Lat l r) (k : Lat l q) : r = q := ris_one r q h.ris k.ris fun x => (h.mem x).trans (k.mem x).symm

theorem isLast_filter (l : List Wt) (x : Wt) : LastW l x ↔ (l.filter fun y => y.k == x.k).getLast? = some x := by
  constructor
  · rintro ⟨p, s, rfl, h⟩
    have : s.filter (fun y => y.k == x.k) = [] := by
      rw [List.filter_eq_nil_iff]
      intro y hy
      simp [h y hy]
    rw [List.filter_append, List.filter_cons_of_pos (by simp), this]
    simp
  · intro h
    induction l with
    | nil => simp at h
    | cons a r ih =>
      by_cases e : (r.filter fun y => y.k == x.k).getLast? = some x
      · obtain ⟨p, s, rfl, h2⟩ := ih e
        exact ⟨a :: p, s, rfl, h2⟩
      · by_cases ea : a.k = x.k
        · rw [List.filter_cons_of_pos (by simp [ea])] at h
          cases hr : r.filter (fun y => y.k == x.k) with
          | nil =>
            rw [hr] at h
            obtain rfl : a = x := by simpa using h
            refine ⟨[], r, rfl, fun y hy e2 => ?_⟩
            have := (List.filter_eq_nil_iff.1 hr) y hy
            simp [e2] at this
          | cons b q =>
            rw [hr] at h e
            rw [List.getLast?_cons_cons] at h
            exact absurd h e
        · rw [List.filter_cons_of_neg (by simp [ea])] at h
          exact absurd h e
theorem Stab.last {l m : List Wt} (h : Stab l m) (x : Wt) : LastW l x ↔ LastW m x := by rw [isLast_filter, isLast_filter, h.2]

/-- The last of its key, in a list that is in order: the next one has another key. -/
def Ltr (ys : List Wt) (j : Nat) : Prop := j + 1 = ys.length ∨ ky ys j ≠ ky ys (j + 1)
theorem ky_get {ys : List Wt} {j : Nat} {x : Wt} (h : ys[j]? = some x) : ky ys j = x.k := by
  unfold ky
  rw [List.getElem!_eq_getElem?_getD, h]
  rfl
theorem srt_last {ys : List Wt} (hk : Kys ys) (hs : Srt 0 ys.length ys) (x : Wt) : LastW ys x ↔ ∃ j, ys[j]? = some x ∧ Ltr ys j := by
  constructor
  · rintro ⟨p, s, rfl, h⟩
    refine ⟨p.length, by simp, ?_⟩
    cases s with
    | nil => left; simp
    | cons b q =>
      right
      rw [ky_get (j := p.length) (x := x) (by simp), ky_get (j := p.length + 1) (x := b) (by rw [List.getElem?_append_right (by omega)]; simp)]
      exact fun e => h b (by simp) e.symm
  · rintro ⟨j, hj, hl⟩
    have hjl := (List.getElem?_eq_some_iff.1 hj).1
    refine ⟨ys.take j, ys.drop (j + 1), ?_, fun y hy e => ?_⟩
    · have : ys[j] = x := (List.getElem?_eq_some_iff.1 hj).2
      rw [← this]
      simp
    · obtain ⟨i, hi, rfl⟩ := List.mem_iff_getElem.1 hy
      rw [List.length_drop] at hi
      rcases hl with hl | hl
      · omega
      · have e1 : ky ys (j + 1 + i) = ky ys j := by
          rw [ky_get hj, ← e]
          unfold ky
          rw [getElem!_pos ys _ (by omega)]
          simp
        have h1 := hs j (j + 1) (by omega) (by omega) (by omega)
        have h2 : ¬ Ahead (ky ys (j + 1 + i)) (ky ys (j + 1)) := by
          by_cases e0 : i = 0
          · subst e0
            exact al_irr _
          · exact hs (j + 1) (j + 1 + i) (by omega) (by omega) (by omega)
        rw [e1] at h2
        rcases al_tot (hk.at hjl) (hk.at (by omega)) h2 with q | q
        · exact hl q
        · exact h1 q

/-- Of the first i those that are kept. -/
structure KpI (ys : List Wt) (i : Nat) (ks : List Wt) : Prop where
  ris : Ris ks
  mem : ∀ x, x ∈ ks ↔ ∃ j, j < i ∧ ys[j]? = some x ∧ Ltr ys j
theorem KpI.nil (ys : List Wt) : KpI ys 0 [] := ⟨List.Pairwise.nil, fun x => ⟨fun h => (by cases h), fun ⟨j, h, _⟩ => (by omega)⟩⟩
theorem KpI.skip {ys ks : List Wt} {i : Nat} (h : KpI ys i ks) (hn : ¬ Ltr ys i) : KpI ys (i + 1) ks := by
  refine ⟨h.ris, fun x => (h.mem x).trans ⟨?_, ?_⟩⟩
  · rintro ⟨j, h1, h2⟩
    exact ⟨j, by omega, h2⟩
  · rintro ⟨j, h1, h2, h3⟩
    by_cases e : j = i
    · subst e; exact absurd h3 hn
    · exact ⟨j, by omega, h2, h3⟩
theorem KpI.take {ys ks : List Wt} {i : Nat} {x : Wt} (h : KpI ys i ks) (hk : Kys ys) (hs : Srt 0 ys.length ys) (hx : ys[i]? = some x) (hn : Ltr ys i) : KpI ys (i + 1) (ks ++ [x]) := by
  have hi := (List.getElem?_eq_some_iff.1 hx).1
  refine ⟨List.pairwise_append.2 ⟨h.ris, List.pairwise_singleton _ _, fun a ha b hb => ?_⟩, fun y => ?_⟩
  · obtain rfl : b = x := by simpa using hb
    obtain ⟨j, h1, h2, h3⟩ := (h.mem a).1 ha
    rcases h3 with h3 | h3
    · omega
    · rw [← ky_get h2, ← ky_get hx]
      have h4 : Ahead (ky ys j) (ky ys (j + 1)) := by
        rcases al_tot (hk.at (by omega)) (hk.at (by omega)) (hs j (j + 1) (by omega) (by omega) (by omega)) with q | q
        · exact absurd q.symm h3
        · exact q
      by_cases e : j + 1 = i
      · rw [← e]; exact h4
      · exact al_lt (hk.at (by omega)) (hk.at hi) h4 (hs (j + 1) i (by omega) (by omega) hi)
  · rw [List.mem_append, h.mem]
    constructor
    · rintro (⟨j, h1, h2⟩ | h1)
      · exact ⟨j, by omega, h2⟩
      · obtain rfl : y = x := by simpa using h1
        exact ⟨i, by omega, hx, hn⟩
    · rintro ⟨j, h1, h2, h3⟩
      by_cases e : j = i
      · subst e
        rw [hx] at h2
        injection h2 with h2
        exact .inr (by simp [h2])
      · exact .inl ⟨j, by omega, h2, h3⟩
theorem KpI.done {ls ys ks : List Wt} (h : KpI ys ys.length ks) (hk : Kys ys) (hs : Srt 0 ys.length ys) (st : Stab ls ys) : Lat ls ks := ⟨h.ris, fun x => by
  rw [h.mem, st.last x, srt_last hk hs]
  exact ⟨fun ⟨j, _, h2⟩ => ⟨j, h2⟩, fun ⟨j, h2, h3⟩ => ⟨j, (List.getElem?_eq_some_iff.1 h2).1, h2, h3⟩⟩⟩

/-- What a write says, wherever its value lies. -/
def nrm (x : Wt) : Wt := ⟨x.k, x.g, if x.g then [] else x.b, .slice none 0 0⟩
theorem LastW.nm {l : List Wt} {y : Wt} : LastW (l.map nrm) y ↔ ∃ x, LastW l x ∧ nrm x = y := by
  constructor
  · rintro ⟨p, s, h1, h2⟩
    obtain ⟨p', q, rfl, rfl, h4⟩ := List.map_eq_append_iff.1 h1
    obtain ⟨x, s', rfl, rfl, rfl⟩ := List.map_eq_cons_iff.1 h4
    exact ⟨x, ⟨p', s', rfl, fun z hz => h2 (nrm z) (List.mem_map_of_mem hz)⟩, rfl⟩
  · rintro ⟨x, ⟨p, s, rfl, h⟩, rfl⟩
    refine ⟨p.map nrm, s.map nrm, by simp, fun z hz => ?_⟩
    obtain ⟨u, hu, rfl⟩ := List.mem_map.1 hz
    exact h u hu
theorem Lat.nm {l r : List Wt} (h : Lat l r) : Lat (l.map nrm) (r.map nrm) := ⟨List.pairwise_map.2 h.ris, fun y => by
  rw [List.mem_map, LastW.nm]
  exact ⟨fun ⟨x, h1, h2⟩ => ⟨x, (h.mem x).1 h1, h2⟩, fun ⟨x, h1, h2⟩ => ⟨x, (h.mem x).2 h1, h2⟩⟩⟩
/-- Two lists that say the same have the same order. -/
theorem Lat.same {l m r q : List Wt} (h : Lat l r) (k : Lat m q) (e : l.map nrm = m.map nrm) : r.map nrm = q.map nrm := by
  have h1 := h.nm
  rw [e] at h1
  exact h1.one k.nm

end Go.Proofs.Ytagkmfgoahbclaa

/- The statements' own helpers on bytes, as contracts: SameBytes, LentBytes, KeptBytes, OverBytes. -/
namespace Go.Proofs.Ytagkmfgoahbclaa
set_option maxRecDepth 20000
open Go.RowKit

set_option maxHeartbeats 400000 in
theorem same_any (x y : Value) (xs ys : List Int) (w : World) (hx : Reads w x xs) (hy : Reads w y ys) :
    Calls Try.prog 21 #[x, y] w fun e w' => e = .returned (.bool (decide (xs = ys))) ∧ w' = w := by
  have c1 := conv_reads hx
  have c2 := conv_reads hy
  have HB : Hid (((strOfNums xs).toList == (strOfNums ys).toList) = decide (xs = ys)) := by
    obtain ⟨_, _, _, _, _, h1, _⟩ := hx
    obtain ⟨_, _, _, _, _, h2, _⟩ := hy
    exact str_beq xs ys h1 h2
  clear hx hy
  go_enter Try.func21, Try.ntmps21
  go_wp2
  go_ret
  exact ⟨by rw [← HB.out]; rfl, rfl⟩

/-- The marks that stand in the room behind n lent bytes. -/
def marks (n : Nat) : List Int := (List.range 5).map fun k => 200 + ((n + k : Nat) : Int) % 50

theorem marks_bytes (n : Nat) : Bytes (marks n) := by
  intro z hz
  simp only [marks, List.mem_map] at hz
  obtain ⟨k, _, rfl⟩ := hz
  omega
theorem marks_length (n : Nat) : (marks n).length = 5 := by simp [marks]

theorem lent_start (zs : List Int) : (List.replicate (zs.length + 5) (0 : Int)).take 0 ++ zs.take (zs.length + 5) ++ (List.replicate (zs.length + 5) (0 : Int)).drop (0 + min zs.length (zs.length + 5)) = zs ++ (marks zs.length).take 0 ++ List.replicate (5 - 0) 0 := by
  have : min zs.length (zs.length + 5) = zs.length := by omega
  rw [this, List.take_of_length_le (l := zs) (by omega), List.drop_replicate, List.take_zero, List.take_zero]
  simp

theorem lent_round (zs : List Int) (k : Nat) (hk : k < 5) : (zs ++ (marks zs.length).take k ++ List.replicate (5 - k) (0 : Int)).set (zs.length + k) (200 + ((zs.length + k : Nat) : Int) % 50) = zs ++ (marks zs.length).take (k + 1) ++ List.replicate (5 - (k + 1)) 0 := by
  have e : List.replicate (5 - k) (0 : Int) = 0 :: List.replicate (5 - (k + 1)) 0 := by
    rw [show 5 - k = (5 - (k + 1)) + 1 by omega]; rfl
  have l : (zs ++ (marks zs.length).take k).length = zs.length + k := by simp [marks_length]; omega
  rw [e, List.set_append_right _ _ (by omega), l, Nat.sub_self, List.set_cons_zero]
  rw [show (marks zs.length).take (k + 1) = (marks zs.length).take k ++ [200 + ((zs.length + k : Nat) : Int) % 50] by
    rw [List.take_succ_eq_append_getElem (by rw [marks_length]; exact hk)]
    simp [marks]]
  simp

theorem lent_end (zs : List Int) (k : Nat) (hk : ¬ k < 5) : zs ++ (marks zs.length).take k ++ List.replicate (5 - k) 0 = zs ++ marks zs.length := by
  rw [List.take_of_length_le (by rw [marks_length]; omega), show 5 - k = 0 by omega]
  simp

set_option maxHeartbeats 400000 in
theorem lent_any (v : Value) (zs : List Int) (w : World) (h : Reads w v zs) (hl : zs.length ≤ 140737488355328) :
    Calls Try.prog 17 #[v] w fun e w' => e = .returned (.slice (some ⟨w.heap.size, 0, none⟩) zs.length (zs.length + 5)) ∧ Row w' w.heap.size (zs ++ marks zs.length) ∧ Below w.heap.size w w' ∧ w'.heap.size = w.heap.size + 1 := by
  have HR : Hid (Reads w v zs) := h
  obtain ⟨a, c, rfl, _, _, _, _⟩ := h
  go_enter Try.func17, Try.ntmps17
  go_wp2_with (first | (at_make; refine wpList_mk _ rfl _ _ rfl _ _ _ _ (zs.length + 5) (zs.length + 5) rfl rfl (by omega) (by omega) (Nat.le_refl _) (by omega) ?_; intro w1 hr1 hb1 hs1) | (refine wpList_cp _ rfl _ _ rfl w.heap.size 0 (zs.length + 5) (zs.length + 5) _ zs _ hr1 (HR.out.grow hb1) rfl rfl (by simp) ?_; intro w2 hr2 hg2 hs2))
  have hb2 : Below w.heap.size w w2 := hb1.trans ((Below.refl _ _).grown hg2 (by omega) (by intro k hk; injection hk with hk; exact Nat.le_of_eq hk))
  rw [lent_start] at hr2
  have hr3 : Hid (Row w2 w.heap.size (zs ++ (marks zs.length).take 0 ++ List.replicate (5 - 0) 0)) := hr2
  have hs3 : w2.heap.size = w.heap.size + 1 := by omega
  clear hr1 hr2 hg2 hb1 hs1 hs2 HR
  go_loopw [4] (fun i wr => ∃ k : Nat, k ≤ 5 ∧ i = .int .i64 (zs.length + k : Nat) ∧ Hid (Row wr w.heap.size (zs ++ (marks zs.length).take k ++ List.replicate (5 - k) 0)) ∧ Below w.heap.size w wr ∧ wr.heap.size = w.heap.size + 1) (fun i _ => zs.length + 5 - (intOf i).toNat)
  case atStart => exact ⟨0, by omega, by simp, hr3, hb2, hs3⟩
  case round =>
    obtain ⟨k, hk, rfl, hr, hb, hs⟩ := hrel
    by_cases hlt : k < 5
    · have hc := hr.out.cell (zs.length + k) (by simp [marks_length]; omega)
      have hf := hr.out.frozen (zs.length + k)
      go_wp2
      refine ⟨⟨k + 1, by omega, by go_num, ?_, hb.setCell (Nat.le_refl _) _, by simpa using hs⟩, by simp [intOf]; omega⟩
      have := hr.out.set (zs.length + k) (200 + ((zs.length + k : Nat) : Int) % 50)
      rw [lent_round zs k hlt] at this
      show Row _ _ _
      simpa using this
    · have he := lent_end zs k hlt
      go_wp2
      go_ret
      refine ⟨rfl, ?_, hb, hs⟩
      rw [← he]
      exact hr.out

/-- A byte written over. -/
def x5 (z : Int) : Int := bits .xor .u8 z 90

theorem x5_eq (z : Int) (h : 0 ≤ z ∧ z ≤ 255) : x5 z = ((z.toNat ^^^ 90 : Nat) : Int) := by
  unfold x5
  rw [u8_xor z 90 h.1 (by omega) (by omega) (by omega)]
  rfl
theorem x5_bd (z : Int) (h : 0 ≤ z ∧ z ≤ 255) : 0 ≤ x5 z ∧ x5 z ≤ 255 := by
  rw [x5_eq z h]
  have : z.toNat ^^^ 90 < 2 ^ 8 := Nat.xor_lt_two_pow (by omega) (by omega)
  omega
theorem x5_x5 (z : Int) (h : 0 ≤ z ∧ z ≤ 255) : x5 (x5 z) = z := by
  rw [x5_eq _ (x5_bd z h), x5_eq z h, Int.toNat_natCast, Nat.xor_assoc, Nat.xor_self, Nat.xor_zero]
  omega
theorem Bytes.x5 {zs : List Int} (h : Bytes zs) : Bytes (zs.map x5) := by
  intro z hz
  obtain ⟨y, hy, rfl⟩ := List.mem_map.1 hz
  exact x5_bd y (h y hy)
theorem map_x5 {zs : List Int} (h : Bytes zs) : (zs.map x5).map x5 = zs := by
  rw [List.map_map]
  conv => rhs; rw [← List.map_id zs]
  exact List.map_congr_left fun z hz => x5_x5 z (h z hz)

theorem over_round (zs : List Int) (k : Nat) (hk : k < zs.length) : ((zs.take k).map x5 ++ zs.drop k).set k (x5 (zs.getD k 0)) = (zs.take (k + 1)).map x5 ++ zs.drop (k + 1) := by
  have hd : zs.drop k = zs.getD k 0 :: zs.drop (k + 1) := by
    rw [List.drop_eq_getElem_cons hk]; simp [List.getD, hk]
  have hl : ((zs.take k).map x5).length = k := by simp; omega
  rw [hd, List.set_append_right _ _ (by omega), hl, Nat.sub_self, List.set_cons_zero, take_snoc zs k hk, List.map_append, List.append_assoc]
  rfl

theorem over_get (zs : List Int) (k : Nat) (hk : k < zs.length) : ((zs.take k).map x5 ++ zs.drop k).getD k 0 = zs.getD k 0 := by
  have : ((zs.take k).map x5).length = k := by simp; omega
  simp only [List.getD]
  rw [List.getElem?_append_right (by omega), this, Nat.sub_self]
  simp

set_option maxHeartbeats 400000 in
theorem over_row (g n : Nat) (zs rest : List Int) (w : World) (h : Row w g (zs ++ rest)) (hl : zs.length ≤ maxLen) :
    Calls Try.prog 23 #[.slice (some ⟨g, 0, none⟩) n zs.length] w fun e w' => e = .returned (.tuple #[]) ∧ Row w' g (zs.map x5 ++ rest) ∧ w.grownBy w' (some g) ∧ w'.heap.size = w.heap.size := by
  unfold maxLen at hl
  have HR : Hid (Row w g (((zs.take 0).map x5 ++ zs.drop 0) ++ rest)) := by
    show Row _ _ _
    simpa using h
  clear h
  go_enter Try.func23, Try.ntmps23
  go_wp2_with fail
  go_loopw [3] (fun i wr => ∃ k : Nat, k ≤ zs.length ∧ i = .int .i64 k ∧ Hid (Row wr g (((zs.take k).map x5 ++ zs.drop k) ++ rest)) ∧ w.grownBy wr (some g) ∧ wr.heap.size = w.heap.size) (fun i _ => zs.length - (intOf i).toNat)
  case atStart => exact ⟨0, by omega, by simp, HR, World.grownBy.refl _ _, rfl⟩
  case round =>
    obtain ⟨k, hk, rfl, hr, hb, hs⟩ := hrel
    by_cases hlt : k < zs.length
    · have hL : ((zs.take k).map x5 ++ zs.drop k).length = zs.length := by simp; omega
      have hc := hr.out.cell k (by rw [List.length_append]; omega)
      rw [show (((zs.take k).map x5 ++ zs.drop k) ++ rest).getD k 0 = ((zs.take k).map x5 ++ zs.drop k).getD k 0 by simp only [List.getD]; rw [List.getElem?_append_left (by omega)], over_get zs k hlt] at hc
      have hf := hr.out.frozen k
      have this := hr.out.set k (x5 (zs.getD k 0))
      rw [List.set_append_left _ _ (by omega), over_round zs k hlt] at this
      generalize zs.getD k 0 = z at hc this
      have HT := hidden this
      clear this hL
      go_wp2
      refine ⟨⟨k + 1, by omega, by go_num, ?_, grown_trans hb (grown_setCell _ _ _ _), by simpa using hs⟩, by simp [intOf]; omega⟩
      exact HT
    · go_wp2
      go_end0
      refine ⟨rfl, ?_, hb, hs⟩
      have := hr.out
      rw [List.take_of_length_le (by omega), List.drop_of_length_le (by omega), List.append_nil] at this
      exact this

set_option maxHeartbeats 400000 in
theorem over_nil (w : World) : Calls Try.prog 23 #[.slice none 0 0] w fun e w' => e = .returned (.tuple #[]) ∧ w' = w := by
  go_enter Try.func23, Try.ntmps23
  go_wp2_with fail
  refine wp_loop_rounds 1 ?_
  rw [rounds_succ]
  go_wp2
  go_end0
  exact ⟨rfl, rfl⟩

theorem over_own (base : Nat) (v : Value) (zs sp : List Int) (w : World) (h : Own base w v zs sp) :
    Calls Try.prog 23 #[v] w fun e w' => e = .returned (.tuple #[]) ∧ Own base w' v (zs.map x5) (sp.map x5) ∧ w.grownBy w' v.ownBlock ∧ w'.heap.size = w.heap.size := by
  obtain ⟨h1, h2, h3, h4⟩ := h
  rcases h4 with ⟨rfl, rfl, rfl⟩ | ⟨g, rest, hg, rfl, hr⟩
  · refine (over_nil w).mono ?_
    rintro e w' ⟨rfl, rfl⟩
    exact ⟨rfl, Own.nil _ _, World.grownBy.refl _ _, rfl⟩
  · have := over_row g zs.length (zs ++ sp) rest w hr (by simpa using h3)
    rw [List.length_append] at this
    refine this.mono ?_
    rintro e w' ⟨rfl, hr', hg', hs'⟩
    refine ⟨rfl, ⟨h1.x5, h2.x5, by simpa using h3, .inr ⟨g, rest, hg, by simp, by simpa using hr'⟩⟩, hg', hs'⟩

end Go.Proofs.Ytagkmfgoahbclaa
