/- A tree that is made from below out of entries, slot by slot: that it fits, and what stands there behind it. No program in this text but the store's own. -/
import Derived.Test.YtkhinjkcfjncgaaGreatDoorNa38
import Derived.Test.YtkhinjkcfjncgaaGreatDoorNa32
namespace Go.Proofs.YtkhinjkcfjncgaaGreatDoor
set_option maxRecDepth 20000
open Go.RowKit

/-- Slots more, and none of those that were there turned. -/
structure Ext (cs cs' : List (Nat × Ce)) : Prop where
  len : cs.length ≤ cs'.length
  cc : ∀ i, i < cs.length → cc cs' i = cc cs i
  ce : ∀ i, i < cs.length → ce cs' i = ce cs i
theorem Ext.refl (cs : List (Nat × Ce)) : Ext cs cs := ⟨Nat.le_refl _, fun _ _ => rfl, fun _ _ => rfl⟩
theorem Ext.trans {a b c : List (Nat × Ce)} (h : Ext a b) (k : Ext b c) : Ext a c := ⟨Nat.le_trans h.len k.len, fun i hi => (k.cc i (Nat.lt_of_lt_of_le hi h.len)).trans (h.cc i hi), fun i hi => (k.ce i (Nat.lt_of_lt_of_le hi h.len)).trans (h.ce i hi)⟩
theorem Ext.snoc (cs : List (Nat × Ce)) (p : Nat × Ce) : Ext cs (cs ++ [p]) := ⟨by simp, fun i hi => by rw [cc_snoc, if_neg (by omega)], fun i hi => by rw [ce_snoc, if_neg (by omega)]⟩
theorem Ext.up {cs cs' : List (Nat × Ce)} (h : Ext cs cs') (x : Nat) (hx : x = 0 ∨ cs.length < x) : Ext cs (upA cs' x) := by
  have a := upA_of cs' x
  refine ⟨by rw [a.len]; exact h.len, fun i hi => by rw [a.cc]; exact h.cc i hi, fun i hi => ?_⟩
  rw [← h.ce i hi]
  unfold upA
  split
  · rfl
  · rename_i h0
    by_cases hl : x - 1 < cs'.length
    · rw [setA_ce cs' x _ i hl, if_neg (by omega)]
    · rw [setA, List.set_eq_of_length_le (by omega)]

/-- What is held and looks the same has the same tree. -/
theorem IsT.keep {cs cs' : List (Nat × Ce)} (k : ∀ i, 0 < cc cs i → 0 < cc cs' i ∧ Core (ce cs i) (ce cs' i)) : ∀ {T : Tre} {h : Nat}, IsT cs h T → IsT cs' h T
  | .emp, _, e => e
  | .lf _ _, h, ⟨h1, h2, h3, h4, h5⟩ => by
    obtain ⟨k1, k2⟩ := k _ h2
    refine ⟨h1, k1, ?_⟩
    rw [k2]
    exact ⟨h3, h4, h5⟩
  | .nd _ _ _ _ _, h, ⟨h1, h2, h3, h4, h5, h6, h7, h8⟩ => by
    obtain ⟨k1, k2⟩ := k _ h2
    refine ⟨h1, k1, ?_⟩
    rw [k2]
    exact ⟨h3, h4, h5, h6, IsT.keep k h7, IsT.keep k h8⟩
theorem Ext.keep {cs cs' : List (Nat × Ce)} (h : Ext cs cs') : ∀ i, 0 < Go.Proofs.YtkhinjkcfjncgaaGreatDoor.cc cs i → 0 < Go.Proofs.YtkhinjkcfjncgaaGreatDoor.cc cs' i ∧ Core (Go.Proofs.YtkhinjkcfjncgaaGreatDoor.ce cs i) (Go.Proofs.YtkhinjkcfjncgaaGreatDoor.ce cs' i) := fun i hi => by
  have hl := cc_lt hi
  rw [h.cc i hl, h.ce i hl]
  exact ⟨hi, Core.refl _⟩
theorem Ext.sdC {cs cs' : List (Nat × Ce)} (h : Ext cs cs') (x : Nat) (hx : x ≤ cs.length) : sdC cs' x = sdC cs x := by
  unfold Go.Proofs.YtkhinjkcfjncgaaGreatDoor.sdC
  split
  · rfl
  · exact h.ce _ (by omega)

/-- The tree of these entries, from the depth d on, has been made: its handle is h. -/
structure Bd (cs : List (Nat × Ce)) (es : List Ent) (d h : Nat) (cs' : List (Nat × Ce)) : Prop where
  ext : Ext cs cs'
  wf : Wf cs' []
  tree : ∃ T, IsT cs' h T ∧ T.ents.Perm es
  dp : (sdC cs' h).kind = 2 → (sdC cs' h).dp = d
  own : h ≠ 0 → cs.length < h ∧ h ≤ cs'.length ∧ cc cs' (h - 1) = 1 ∧ (ce cs' (h - 1)).ab = 0
  num : cs'.length ≤ cs.length + es.length * (257 - d)

theorem Bd.nil {cs : List (Nat × Ce)} (w : Wf cs []) (d : Nat) : Bd cs [] d 0 cs :=
  ⟨Ext.refl _, w, ⟨.emp, rfl, List.Perm.refl _⟩, fun k => absurd k (by show ¬ zc.kind = 2; decide), fun h => absurd rfl h, by simp⟩

theorem Bd.one {cs : List (Nat × Ce)} (w : Wf cs []) (d : Nat) (hd : d ≤ 256) (e : Ent) (v : Value) (hl : e.2.length ≤ 1024) (hb : Bytes e.2) (ok : CeOk (lfC (lfD e.1 (vaD e.2)) e.1 v e.2)) : Bd cs [e] d (cs.length + 1) (cs ++ [(1, lfC (lfD e.1 (vaD e.2)) e.1 v e.2)]) := by
  have tk := (tk_of (cs := cs) (fr := []) (fun _ h => by cases h) (1, lfC (lfD e.1 (vaD e.2)) e.1 v e.2)).2
  have ec : cc (cs ++ [(1, lfC (lfD e.1 (vaD e.2)) e.1 v e.2)]) cs.length = 1 := by rw [cc_snoc, if_pos rfl]
  have ee : ce (cs ++ [(1, lfC (lfD e.1 (vaD e.2)) e.1 v e.2)]) cs.length = lfC (lfD e.1 (vaD e.2)) e.1 v e.2 := by rw [ce_snoc, if_pos rfl]
  refine ⟨Ext.snoc _ _, w.leaf tk (leaf_ok e.1 v e.2 hb hl) ok rfl, ⟨.lf e.1 e.2, ⟨by omega, ?_, ?_, ?_, ?_⟩, List.Perm.refl _⟩, fun k => ?_, fun _ => ⟨by omega, by simp, ?_, ?_⟩, ?_⟩
  · rw [Nat.add_sub_cancel, ec]; omega
  · rw [Nat.add_sub_cancel, ee]; rfl
  · rw [Nat.add_sub_cancel, ee]; rfl
  · rw [Nat.add_sub_cancel, ee]; rfl
  · rw [sdC, if_neg (by omega), Nat.add_sub_cancel, ee] at k
    exact absurd k (by show ¬ (1 : Int) = 2; omega)
  · rw [Nat.add_sub_cancel, ec]
  · rw [Nat.add_sub_cancel, ee]; rfl
  · simp; omega

theorem sideOf_perm (es : List Ent) (d : Nat) (hd : d < 256) : (sideOf es d 0 ++ sideOf es d 1).Perm es := by
  have h := List.filter_append_perm (fun e : Ent => kbi e.1 d == 0) es
  have e : es.filter (fun e : Ent => !(kbi e.1 d == 0)) = sideOf es d 1 := by
    unfold sideOf
    congr 1
    funext e
    rw [kbi_in _ _ hd]
    rcases kb_two e.1 d with q | q <;> rw [q] <;> rfl
  rw [e] at h
  exact h

theorem Bd.side {cs cs' : List (Nat × Ce)} {es : List Ent} {d h : Nat} (b : Bd cs es (d + 1) h cs') (bit : Int) (hb : ∀ e ∈ es, kb e.1 d = bit) : (sdC cs' h).sz = es.length ∧ fsP (sdC cs' h) d bit = true ∧ (h ≠ 0 → ∃ e ∈ es, ∀ j, j < d + 1 → kb e.1 j = kb (sdC cs' h).key j) ∧ ((sdC cs' h).kind = 0 → h = 0) := by
  obtain ⟨T, hT, hp⟩ := b.tree
  have ok := tree_ok b.wf T h hT
  have hsz : (sdC cs' h).sz = es.length := by rw [ok.sz, hp.length_eq]
  by_cases h0 : h = 0
  · subst h0
    exact ⟨hsz, rfl, fun q => absurd rfl q, fun _ => rfl⟩
  · have es1 : sdC cs' h = ce cs' (h - 1) := if_neg h0
    have hex : ∃ e ∈ es, ∀ j, j < d + 1 → kb e.1 j = kb (sdC cs' h).key j := by
      obtain ⟨e, he⟩ := List.exists_mem_of_ne_nil _ (ok.pos h0)
      refine ⟨e, hp.mem_iff.1 he, ok.share (d + 1) h0 (fun k => ?_) e he⟩
      have := b.dp (by rw [es1]; exact k)
      rw [es1] at this
      omega
    have hk : kb (sdC cs' h).key d = bit := by
      obtain ⟨e, he, hq⟩ := hex
      rw [← hq d (by omega)]
      exact hb e he
    obtain ⟨_, _, o3, _⟩ := b.own h0
    have hkd := b.wf.kinds (h - 1) (by omega)
    rw [← es1] at hkd
    refine ⟨hsz, ?_, fun _ => hex, fun q => by rcases hkd with e | e <;> omega⟩
    unfold fsP
    rcases hkd with e | e
    · rw [if_pos e]
      simpa using hk
    · rw [if_neg (by omega), if_pos e, b.dp e]
      simpa using hk

theorem Bd.two {cs cs1 cs2 : List (Nat × Ce)} {es : List Ent} {d a b : Nat} (hd : d < 256) (hn : 2 ≤ es.length) (hs : ∀ x ∈ es, ∀ y ∈ es, ∀ j, j < d → kb x.1 j = kb y.1 j) (ba : Bd cs (sideOf es d 0) (d + 1) a cs1) (bb : Bd cs1 (sideOf es d 1) (d + 1) b cs2) :
    mayP cs2 (a : Int) ∧ mayP cs2 (b : Int) ∧ ∃ u, (u = true ↔ Und (sdC cs2 a).key (sdC cs2 b).key (d : Int)) ∧ fitP d (sdC cs2 a) (sdC cs2 b) u = true ∧
      ∀ K, IsFill (if (sdC cs2 a).kind = 0 then (sdC cs2 b).key else (sdC cs2 a).key) d 0 K → Bd cs es d (cs2.length + 1) (upA (upA (cs2 ++ [(1, inC (inD (sdD cs2 a) (sdD cs2 b)) K ((sdC cs2 a).sz + (sdC cs2 b).sz) d a b)]) a) b) := by
  have hbit : ∀ (c : Int) e, e ∈ sideOf es d c → kb e.1 d = c := fun c e he => by
    have := (List.mem_filter.1 he).2
    rw [kbi_in _ _ hd] at this
    simpa using this
  have hal : a ≤ cs1.length := by
    by_cases h0 : a = 0
    · omega
    · exact (ba.own h0).2.1
  have hbl : b ≤ cs2.length := by
    by_cases h0 : b = 0
    · omega
    · exact (bb.own h0).2.1
  have hca : sdC cs2 a = sdC cs1 a := bb.ext.sdC a hal
  obtain ⟨a1, a2, a3, a4⟩ := ba.side 0 (hbit 0)
  obtain ⟨b1, b2, b3, b4⟩ := bb.side 1 (hbit 1)
  rw [← hca] at a1 a2 a3 a4
  have may : ∀ x : Nat, (x ≠ 0 → cc cs2 (x - 1) = 1 ∧ (ce cs2 (x - 1)).ab = 0) → mayP cs2 (x : Int) := fun x hx => by
    by_cases h0 : x = 0
    · exact .inl (by omega)
    · obtain ⟨q1, q2⟩ := hx h0
      refine .inr ?_
      rw [cat_nat, cot, if_pos (by omega), show ((x : Int) - 1).toNat = x - 1 by omega, sdC, if_neg h0]
      omega
  have ma := may a (fun h0 => by
    obtain ⟨q0, q1, q2, q3⟩ := ba.own h0
    rw [bb.ext.cc _ (by omega), bb.ext.ce _ (by omega)]
    exact ⟨q2, q3⟩)
  have mb := may b (fun h0 => by
    obtain ⟨q0, q1, q2, q3⟩ := bb.own h0
    exact ⟨q2, q3⟩)
  have hperm := sideOf_perm es d hd
  have hlen : (sideOf es d 0).length + (sideOf es d 1).length = es.length := by rw [← List.length_append]; exact hperm.length_eq
  refine ⟨ma, mb, ?_⟩
  have hfit : ∃ u, (u = true ↔ Und (sdC cs2 a).key (sdC cs2 b).key (d : Int)) ∧ fitP d (sdC cs2 a) (sdC cs2 b) u = true := by
    by_cases hu : Und (sdC cs2 a).key (sdC cs2 b).key (d : Int)
    · refine ⟨true, by simp [hu], ?_⟩
      unfold fitP
      rw [a2, b2]
      simp
      omega
    · refine ⟨false, by simp [hu], ?_⟩
      have : (sdC cs2 a).kind = 0 ∨ (sdC cs2 b).kind = 0 := by
        apply Classical.byContradiction
        intro hq
        have ha0 : a ≠ 0 := fun e => hq (.inl (by rw [e]; rfl))
        have hb0 : b ≠ 0 := fun e => hq (.inr (by rw [e]; rfl))
        obtain ⟨x, hx, hxk⟩ := a3 ha0
        obtain ⟨y, hy, hyk⟩ := b3 hb0
        refine hu ⟨by omega, by omega, fun j hj => ?_⟩
        rw [← hxk j (by omega), ← hyk j (by omega)]
        exact hs x (List.mem_filter.1 hx).1 y (List.mem_filter.1 hy).1 j (by omega)
      unfold fitP
      rw [a2, b2]
      rcases this with e | e <;> simp [e] <;> omega
  obtain ⟨u, hu, hf⟩ := hfit
  refine ⟨u, hu, hf, fun K hK => ?_⟩
  have tk := (tk_of (cs := cs2) (fr := []) (fun _ h => by cases h) (1, inC (inD (sdD cs2 a) (sdD cs2 b)) K ((sdC cs2 a).sz + (sdC cs2 b).sz) d a b)).2
  have wf := bb.wf.inner tk (inn_ok bb.wf hd ma mb hu hf hK) ⟨dig_length _, dig_bytes _, hK.1, none, 0, rfl⟩ rfl ma.own mb.own
  have hX : ∃ X, X = inC (inD (sdD cs2 a) (sdD cs2 b)) K ((sdC cs2 a).sz + (sdC cs2 b).sz) d a b := ⟨_, rfl⟩
  obtain ⟨X, hX⟩ := hX
  rw [← hX]
  have xk : X.kind = 2 := by rw [hX]; rfl
  have xd : X.dp = d := by rw [hX]; rfl
  have xl : X.l = a := by rw [hX]; rfl
  have xr : X.r = b := by rw [hX]; rfl
  have xa : X.ab = 0 := by rw [hX]; rfl
  have wf' : Wf (upA (upA (cs2 ++ [(1, X)]) a) b) [] := by rw [hX]; exact wf
  have u1 := upA_of (cs2 ++ [(1, X)]) a
  have uu := u1.trans (upA_of (upA (cs2 ++ [(1, X)]) a) b)
  have e2 := Ext.snoc cs2 (1, X)
  have ex : Ext cs (upA (upA (cs2 ++ [(1, X)]) a) b) := by
    refine Ext.up (Ext.up ((ba.ext.trans bb.ext).trans e2) a ?_) b ?_
    · by_cases h0 : a = 0
      · exact .inl h0
      · exact .inr (ba.own h0).1
    · by_cases h0 : b = 0
      · exact .inl h0
      · have := (bb.own h0).1
        have := ba.ext.len
        exact .inr (by omega)
  have kp : ∀ i, 0 < cc cs2 i → 0 < cc (upA (upA (cs2 ++ [(1, X)]) a) b) i ∧ Core (ce cs2 i) (ce (upA (upA (cs2 ++ [(1, X)]) a) b) i) := fun i hi => by
    obtain ⟨k1, k2⟩ := e2.keep i hi
    exact ⟨by rw [uu.cc]; exact k1, k2.trans (uu.core i)⟩
  have cn : cc (upA (upA (cs2 ++ [(1, X)]) a) b) cs2.length = 1 := by rw [uu.cc, cc_snoc, if_pos rfl]
  have cr : Core X (ce (upA (upA (cs2 ++ [(1, X)]) a) b) cs2.length) := by
    have := uu.core cs2.length
    rwa [ce_snoc, if_pos rfl] at this
  have ab : (ce (upA (upA (cs2 ++ [(1, X)]) a) b) cs2.length).ab = 0 := by
    rw [upA_ab _ b _ (by rw [u1.len, List.length_append]; left; simp; omega), upA_ab _ a _ (by rw [List.length_append]; left; have := bb.ext.len; simp; omega), ce_snoc, if_pos rfl, xa, if_neg (by have := bb.ext.len; omega), if_neg (by omega)]
  obtain ⟨TA, hTA, pA⟩ := ba.tree
  obtain ⟨TB, hTB, pB⟩ := bb.tree
  have sn : sdC (upA (upA (cs2 ++ [(1, X)]) a) b) (cs2.length + 1) = ce (upA (upA (cs2 ++ [(1, X)]) a) b) cs2.length := rfl
  refine ⟨ex, wf', ⟨.nd d a b TA TB, ⟨by omega, ?_, ?_, ?_, ?_, ?_, ?_, ?_⟩, ?_⟩, fun _ => ?_, fun _ => ⟨?_, ?_, ?_, ?_⟩, ?_⟩
  · rw [Nat.add_sub_cancel, cn]; omega
  · rw [Nat.add_sub_cancel, cr]; exact xk
  · rw [Nat.add_sub_cancel, cr]; exact xd
  · rw [Nat.add_sub_cancel, cr]; exact xl
  · rw [Nat.add_sub_cancel, cr]; exact xr
  · exact (hTA.keep bb.ext.keep).keep kp
  · exact hTB.keep kp
  · exact (pA.append pB).trans hperm
  · rw [sn, cr]; exact xd
  · have := ba.ext.len
    have := bb.ext.len
    omega
  · rw [uu.len]; simp
  · rw [Nat.add_sub_cancel, cn]
  · rw [Nat.add_sub_cancel, ab]
  · have n1 := ba.num
    have n2 := bb.num
    rw [uu.len, List.length_append, List.length_singleton]
    have e1 : 257 - (d + 1) = 256 - d := by omega
    rw [e1] at n1 n2
    have e3 : es.length * (257 - d) = es.length * (256 - d) + es.length := by
      rw [show 257 - d = (256 - d) + 1 by omega, Nat.mul_add, Nat.mul_one]
    rw [e3, ← hlen, Nat.add_mul]
    omega

end Go.Proofs.YtkhinjkcfjncgaaGreatDoor

/- What stands beside a key's way in the tree that is written with it: which entries are below each of these sides. No program in this text. -/
namespace Go.Proofs.YtkhinjkcfjncgaaGreatDoor
set_option maxRecDepth 20000
open Go.RowKit

/-- Does an entry's key share the first d bits with K? -/
def shr (K : List Int) (d : Nat) (e : Ent) : Bool := (List.range d).all fun j => kb e.1 j == kb K j
theorem shr_iff {K : List Int} {d : Nat} {e : Ent} : shr K d e = true ↔ ∀ j, j < d → kb e.1 j = kb K j := by simp [shr]
theorem shr_succ (K : List Int) (d : Nat) (e : Ent) : shr K (d + 1) e = (shr K d e && (kb e.1 d == kb K d)) := by
  simp [shr, List.range_succ, List.all_append]
theorem shr_le {K : List Int} {d c : Nat} (h : d ≤ c) {e : Ent} (hs : shr K c e = true) : shr K d e = true := shr_iff.2 fun j hj => shr_iff.1 hs j (by omega)

/-- The entries of the written tree from the depth d on. -/
def wE (E : List Ent) (K bs : List Int) (d : Nat) : List Ent := (K, bs) :: E.filter fun e => shr K d e && !(e.1 == K)
/-- The entries beside the way at the depth d. -/
def bsE (E : List Ent) (K : List Int) (d : Nat) : List Ent := E.filter fun e => shr K d e && !(kb e.1 d == kb K d)

theorem filter_sub {α : Type} (E : List α) (p q : α → Bool) (h : ∀ e, q e = true → p e = true) : E.filter q = (E.filter p).filter q := by
  rw [List.filter_filter]
  congr 1
  funext e
  cases hq : q e with
  | false => simp
  | true => simp [h e hq]

theorem wE_step (E : List Ent) (K bs : List Int) (d : Nat) : (wE E K bs (d + 1) ++ bsE E K d).Perm (wE E K bs d) := by
  unfold wE
  rw [List.cons_append]
  refine List.Perm.cons _ ?_
  have h := List.filter_append_perm (fun e : Ent => kb e.1 d == kb K d) (E.filter fun e => shr K d e && !(e.1 == K))
  have e1 : (E.filter fun e => shr K d e && !(e.1 == K)).filter (fun e : Ent => kb e.1 d == kb K d) = E.filter fun e => shr K (d + 1) e && !(e.1 == K) := by
    rw [List.filter_filter]
    congr 1
    funext e
    rw [shr_succ]
    cases shr K d e <;> cases (e.1 == K) <;> cases (kb e.1 d == kb K d) <;> rfl
  have e2 : (E.filter fun e => shr K d e && !(e.1 == K)).filter (fun e : Ent => !(kb e.1 d == kb K d)) = bsE E K d := by
    rw [List.filter_filter]
    unfold bsE
    congr 1
    funext e
    by_cases hk : e.1 = K
    · simp [hk]
    · have : (e.1 == K) = false := by simpa using hk
      rw [this]
      cases shr K d e <;> cases (kb e.1 d == kb K d) <;> rfl
  rw [e1, e2] at h
  exact h

theorem wE_zero (E : List Ent) (K bs : List Int) : wE E K bs 0 = (K, bs) :: E.filter fun e => !(e.1 == K) := by simp [wE, shr]

/-- What is known of the sides beside a key's way. -/
structure BesOk (cs : List (Nat × Ce)) (E : List Ent) (K : List Int) (ss : List Nat) : Prop where
  len : ss.length ≤ 256
  side : ∀ d, d < ss.length → ∃ V, IsT cs (ss.getD d 0) V ∧ V.ents = bsE E K d ∧ ((sdC cs (ss.getD d 0)).kind = 2 → (sdC cs (ss.getD d 0)).dp = d + 1)
  last : 0 < ss.length → ss.getD (ss.length - 1) 0 ≠ 0
  none : E.filter (fun e => shr K ss.length e && !(e.1 == K)) = []

/-- What is known of a way down from the depth d on. -/
def WayB (cs : List (Nat × Ce)) (E : List Ent) (K : List Int) (os : List Nat) (ef : List Ent) (d : Nat) : Prop :=
  (∀ j, j < os.length → ∃ V, IsT cs (os.getD j 0) V ∧ V.ents = bsE E K (d + j) ∧ ((sdC cs (os.getD j 0)).kind = 2 → (sdC cs (os.getD j 0)).dp = d + j + 1)) ∧ ef = E.filter (shr K (d + os.length)) ∧ d + os.length ≤ 256 ∧ (0 < os.length → os.getD (os.length - 1) 0 ≠ 0)

theorem WayB.none {cs : List (Nat × Ce)} {E : List Ent} {K : List Int} {ef : List Ent} {d : Nat} (hd : d ≤ 256) (he : ef = E.filter (shr K d)) : WayB cs E K [] ef d :=
  ⟨fun j hj => absurd hj (by simp), by simpa using he, by simpa using hd, fun h => absurd h (by simp)⟩

theorem WayB.more {cs : List (Nat × Ce)} {pend : List Nat} (w : Wf cs pend) {E : List Ent} {K : List Int} {os : List Nat} {ef : List Ent} {d v : Nat} {V : Tre} (i : WayB cs E K os ef (d + 1)) (tV : IsT cs v V) (kV : (sdC cs v).kind = 2 → (sdC cs v).dp = d + 1) (eV : V.ents = bsE E K d) (two : os.length = 0 → V.ents.length ≠ 0) : WayB cs E K (v :: os) ef d := by
  obtain ⟨i1, i2, i3, i4⟩ := i
  refine ⟨fun j hj => ?_, by rw [i2, List.length_cons]; congr 2; omega, by rw [List.length_cons]; omega, fun _ => ?_⟩
  · cases j with
    | zero => exact ⟨V, tV, eV, kV⟩
    | succ j =>
      rw [List.length_cons] at hj
      obtain ⟨W, j1, j2, j3⟩ := i1 j (by omega)
      refine ⟨W, by simpa using j1, by rw [j2]; congr 1; omega, fun k => ?_⟩
      have := j3 (by simpa using k)
      rw [List.getD_cons_succ, this]
      omega
  · rw [List.length_cons, Nat.add_sub_cancel]
    by_cases hz : 0 < os.length
    · obtain ⟨q, hq⟩ : ∃ q, os.length = q + 1 := ⟨os.length - 1, by omega⟩
      have := i4 hz
      rw [hq, Nat.add_sub_cancel] at this
      rw [hq, List.getD_cons_succ]
      exact this
    · have hz0 : os.length = 0 := by omega
      rw [hz0, List.getD_cons_zero]
      intro hv
      subst hv
      have := (tree_ok w V 0 tV).sz
      rw [show (sdC cs 0).sz = 0 from rfl] at this
      exact two hz0 this.symm

theorem oth_few (K : List Int) : ∀ (M : Tre), (M.oth K).length = 0 → M.ents.length ≤ 1
  | .emp, _ => by simp [Tre.ents]
  | .lf _ _, _ => by simp [Tre.ents]
  | .nd _ _ _ _ _, h => by
    simp only [Tre.oth] at h
    split at h <;> simp at h

/-- Down the tree. -/
theorem way_bes {cs : List (Nat × Ce)} {pend : List Nat} (w : Wf cs pend) (E : List Ent) (K : List Int) : ∀ (U : Tre) (x d : Nat), IsT cs x U → ((sdC cs x).kind = 2 → (sdC cs x).dp = d) → d ≤ 256 → U.ents = E.filter (shr K d) → WayB cs E K (U.oth K) (U.efin K) d
  | .emp, x, d, _, _, hd, he => WayB.none hd he
  | .lf k b, x, d, _, _, hd, he => WayB.none hd he
  | .nd d hl hr L R, x, d', hT, hk, hd, he => by
    have n := nd_ok w hT
    obtain ⟨h1, h2, h3, h4, h5, h6, h7, h8⟩ := hT
    have es : sdC cs x = ce cs (x - 1) := if_neg (by omega)
    obtain rfl : d = d' := by
      rw [es] at hk
      rw [← h4]
      exact hk h3
    have hdp := n.dp
    have ihL := way_bes w E K L hl (d + 1) h7 n.kl (by omega)
    have ihR := way_bes w E K R hr (d + 1) h8 n.kr (by omega)
    have he2 : L.ents ++ R.ents = E.filter (shr K d) := he
    have f0 : (L.ents ++ R.ents).filter (fun e : Ent => kb e.1 d == 0) = L.ents := by
      have e1 : L.ents.filter (fun e : Ent => kb e.1 d == 0) = L.ents := List.filter_eq_self.2 (fun e h => by simp [n.bL e h])
      have e2 : R.ents.filter (fun e : Ent => kb e.1 d == 0) = [] := List.filter_eq_nil_iff.2 (fun e h => by simp [n.bR e h])
      rw [List.filter_append, e1, e2, List.append_nil]
    have f1 : (L.ents ++ R.ents).filter (fun e : Ent => kb e.1 d == 1) = R.ents := by
      have e1 : L.ents.filter (fun e : Ent => kb e.1 d == 1) = [] := List.filter_eq_nil_iff.2 (fun e h => by simp [n.bL e h])
      have e2 : R.ents.filter (fun e : Ent => kb e.1 d == 1) = R.ents := List.filter_eq_self.2 (fun e h => by simp [n.bR e h])
      rw [List.filter_append, e1, e2, List.nil_append]
    have hmine : ∀ b : Int, kb K d = b → (E.filter (shr K d)).filter (fun e : Ent => kb e.1 d == b) = E.filter (shr K (d + 1)) := fun b hb => by
      rw [List.filter_filter]
      congr 1
      funext e
      rw [shr_succ, hb]
      cases shr K d e <;> cases (kb e.1 d == b) <;> rfl
    have hoth : ∀ b : Int, kb K d = 1 - b → (b = 0 ∨ b = 1) → (E.filter (shr K d)).filter (fun e : Ent => kb e.1 d == b) = bsE E K d := fun b hb h01 => by
      rw [List.filter_filter]
      unfold bsE
      congr 1
      funext e
      have e3 : (kb e.1 d == b) = !(kb e.1 d == kb K d) := by
        rw [hb]
        rcases h01 with q | q <;> rcases kb_two e.1 d with q2 | q2 <;> rw [q, q2] <;> rfl
      rw [e3]
      cases shr K d e <;> cases (kb e.1 d == kb K d) <;> rfl
    have htwo := n.two
    rw [List.length_append] at htwo
    rcases kb_two K d with q | q
    · have a1 : L.ents = E.filter (shr K (d + 1)) := by rw [← hmine 0 q, ← he2, f0]
      have a2 : R.ents = bsE E K d := by rw [← hoth 1 (by omega) (.inr rfl), ← he2, f1]
      have := WayB.more w (ihL a1) h8 n.kr a2 (fun z => by have := oth_few K L z; omega)
      simpa [Tre.oth, Tre.efin, q] using this
    · have a1 : R.ents = E.filter (shr K (d + 1)) := by rw [← hmine 1 q, ← he2, f1]
      have a2 : L.ents = bsE E K d := by rw [← hoth 0 (by omega) (.inl rfl), ← he2, f0]
      have := WayB.more w (ihR a1) h7 n.kl a2 (fun z => by have := oth_few K R z; omega)
      simpa [Tre.oth, Tre.efin, q] using this

/-- The sides beside the way, where it ends with the key's own leaf or with nothing. -/
theorem bes_own {cs : List (Nat × Ce)} {pend : List Nat} (w : Wf cs pend) (K : List Int) {T : Tre} {h : Nat} (hT : IsT cs h T) (hd : (sdC cs h).kind = 2 → (sdC cs h).dp = 0) (hf : ∀ e ∈ T.efin K, e.1 = K) : BesOk cs T.ents K (T.oth K) := by
  obtain ⟨h1, h2, h3, h4⟩ := way_bes w T.ents K T h 0 hT hd (by omega) (by rw [List.filter_eq_self.2]; intro e _; simp [shr])
  refine ⟨by omega, fun d hd => ?_, h4, ?_⟩
  · obtain ⟨V, v1, v2, v3⟩ := h1 d hd
    rw [Nat.zero_add] at v2 v3
    exact ⟨V, v1, v2, v3⟩
  · rw [Nat.zero_add] at h2
    rw [filter_sub T.ents (shr K (T.oth K).length) _ (fun e he => by simp only [Bool.and_eq_true] at he; exact he.1), ← h2, List.filter_eq_nil_iff]
    intro e he
    simp [hf e he]

/-- .. and where it ends with another key's leaf: both part at the depth c. -/
def besX (oth : List Nat) (c f : Nat) : List Nat := oth ++ (List.replicate (c - oth.length) 0 ++ [f])
theorem besX_len (oth : List Nat) (c f : Nat) (h : oth.length ≤ c) : (besX oth c f).length = c + 1 := by simp [besX]; omega
theorem besX_low (oth : List Nat) (c f d : Nat) (h : d < oth.length) : (besX oth c f).getD d 0 = oth.getD d 0 := by
  simp only [besX, List.getD_eq_getElem?_getD]
  rw [List.getElem?_append_left h]
theorem besX_mid (oth : List Nat) (c f d : Nat) (h : oth.length ≤ d) (hc : d < c) : (besX oth c f).getD d 0 = 0 := by
  simp only [besX, List.getD_eq_getElem?_getD]
  rw [List.getElem?_append_right h, List.getElem?_append_left (by simp; omega), List.getElem?_replicate, if_pos (by omega)]
  rfl
theorem besX_top (oth : List Nat) (c f : Nat) (h : oth.length ≤ c) : (besX oth c f).getD c 0 = f := by
  simp only [besX, List.getD_eq_getElem?_getD]
  rw [List.getElem?_append_right h, List.getElem?_append_right (by simp), List.length_replicate, Nat.sub_self]
  rfl

theorem bes_other {cs : List (Nat × Ce)} {pend : List Nat} (w : Wf cs pend) (K : List Int) {T : Tre} {h : Nat} (hT : IsT cs h T) (hd : (sdC cs h).kind = 2 → (sdC cs h).dp = 0) {k b : List Int} (hf : T.efin K = [(k, b)]) (c : Nat) (hc : IsCommon K k c) (hc2 : c < 256) : (T.oth K).length ≤ c ∧ BesOk cs T.ents K (besX (T.oth K) c (T.fin K h)) := by
  obtain ⟨h1, h2, h3, h4⟩ := way_bes w T.ents K T h 0 hT hd (by omega) (by rw [List.filter_eq_self.2]; intro e _; simp [shr])
  rw [Nat.zero_add] at h2 h3
  rw [hf] at h2
  have hkb : ∀ j, j < (T.oth K).length → kb k j = kb K j := by
    have hm : ((k, b) : Ent) ∈ T.ents.filter (shr K (T.oth K).length) := by rw [← h2]; simp
    exact shr_iff.1 (List.mem_filter.1 hm).2
  have hle : (T.oth K).length ≤ c := by
    apply Nat.le_of_not_lt
    intro hlt
    exact hc.2.2 hc2 (hkb c hlt).symm
  have hsk : ∀ d, d ≤ c → shr K d ((k, b) : Ent) = true := fun d hd => shr_iff.2 fun j hj => (hc.2.1 j (by omega)).symm
  have hdeep : ∀ (d : Nat) (q : Ent → Bool), (T.oth K).length ≤ d → T.ents.filter (fun e => shr K d e && q e) = [((k, b) : Ent)].filter (fun e => shr K d e && q e) := fun d q hq => by
    rw [h2]
    exact filter_sub T.ents _ _ (fun e he => by simp only [Bool.and_eq_true] at he; exact shr_le hq he.1)
  have hne : ¬ kb k c = kb K c := fun e => hc.2.2 hc2 e.symm
  obtain ⟨f1, f2⟩ | ⟨k', b', f1, f2, f3, f4, f5, f6⟩ := fin_is K T h hT
  · rw [hf] at f2
    cases f2
  rw [hf] at f1
  injection f1 with f1 _
  injection f1 with e1 e2
  subst e1 e2
  have fT : IsT cs (T.fin K h) (.lf k b) := ⟨f2, f3, f4, f5, f6⟩
  refine ⟨hle, by rw [besX_len _ _ _ hle]; omega, fun d hd2 => ?_, fun _ => ?_, ?_⟩
  · rw [besX_len _ _ _ hle] at hd2
    by_cases a1 : d < (T.oth K).length
    · obtain ⟨V, v1, v2, v3⟩ := h1 d a1
      rw [Nat.zero_add] at v2 v3
      rw [besX_low _ _ _ _ a1]
      exact ⟨V, v1, v2, v3⟩
    · by_cases a2 : d < c
      · rw [besX_mid _ _ _ _ (by omega) a2]
        refine ⟨.emp, rfl, ?_, fun q => absurd q (by show ¬ zc.kind = 2; decide)⟩
        unfold bsE
        rw [hdeep d _ (by omega)]
        have : kb k d = kb K d := (hc.2.1 d a2).symm
        simp [Tre.ents, this]
      · obtain rfl : d = c := by omega
        rw [besX_top _ _ _ hle]
        refine ⟨.lf k b, fT, ?_, fun q => ?_⟩
        · unfold bsE
          rw [hdeep d _ hle]
          simp [Tre.ents, hsk d (Nat.le_refl _), hne]
        · rw [sdC, if_neg (by omega)] at q
          omega
  · rw [besX_len _ _ _ hle, Nat.add_sub_cancel, besX_top _ _ _ hle]
    omega
  · rw [besX_len _ _ _ hle, hdeep (c + 1) _ (by omega)]
    simp [shr_succ, hne]

end Go.Proofs.YtkhinjkcfjncgaaGreatDoor
