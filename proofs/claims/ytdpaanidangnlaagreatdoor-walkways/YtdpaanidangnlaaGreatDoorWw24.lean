/- The way of a key down a store's tree: its handles, its end, its other sides; that these are the way among the tree's entries, in whatever order. No program in this text. -/
import Derived.Test.YtdpaanidangnlaaGreatDoorWw09
import Derived.Test.YtdpaanidangnlaaGreatDoorWw23
import Derived.Test.YtdpaanidangnlaaGreatDoorWw07
import Derived.Deep.RegionHeld
import Derived.Deep.RegionHeld2
namespace Go.Proofs.YtdpaanidangnlaaGreatDoor
set_option maxRecDepth 20000
open Go.RowKit

/-- The inner nodes of a key's way. -/
def Tre.hs (K : List Int) : Nat → Tre → List Nat
  | _, .emp => []
  | _, .lf _ _ => []
  | h, .nd d hl hr l r => h :: (if kb K d = 1 then r.hs K hr else l.hs K hl)
/-- With what it ends. -/
def Tre.fin (K : List Int) : Nat → Tre → Nat
  | h, .emp => h
  | h, .lf _ _ => h
  | _, .nd d hl hr l r => if kb K d = 1 then r.fin K hr else l.fin K hl
/-- The other sides. -/
def Tre.oth (K : List Int) : Tre → List Nat
  | .emp => []
  | .lf _ _ => []
  | .nd d hl hr l r => if kb K d = 1 then hl :: r.oth K else hr :: l.oth K
/-- The entry with which it ends. -/
def Tre.efin (K : List Int) : Tre → List Ent
  | .emp => []
  | .lf k b => [(k, b)]
  | .nd d _ _ l r => if kb K d = 1 then r.efin K else l.efin K

theorem Tre.hs_oth (K : List Int) : ∀ (T : Tre) (h : Nat), (T.hs K h).length = (T.oth K).length
  | .emp, _ => rfl
  | .lf _ _, _ => rfl
  | .nd d hl hr l r, h => by
    have h1 := Tre.hs_oth K l hl
    have h2 := Tre.hs_oth K r hr
    simp only [Tre.hs, Tre.oth]
    split <;> simp [h1, h2]

structure NdOk (cs : List (Nat × Ce)) (d hl hr : Nat) (L R : Tre) : Prop where
  dp : d < 256
  bL : ∀ e ∈ L.ents, kb e.1 d = 0
  bR : ∀ e ∈ R.ents, kb e.1 d = 1
  two : 2 ≤ (L.ents ++ R.ents).length
  kl : (sdC cs hl).kind = 2 → (sdC cs hl).dp = d + 1
  kr : (sdC cs hr).kind = 2 → (sdC cs hr).dp = d + 1

theorem nd_ok {cs : List (Nat × Ce)} {pend : List Nat} (w : Wf cs pend) {d hl hr h : Nat} {L R : Tre} (hT : IsT cs h (.nd d hl hr L R)) : NdOk cs d hl hr L R := by
  obtain ⟨h1, h2, h3, h4, h5, h6, h7, h8⟩ := hT
  obtain ⟨i, rfl⟩ : ∃ i, h = i + 1 := ⟨h - 1, by omega⟩
  rw [Nat.add_sub_cancel] at h2 h3 h4 h5 h6
  have okL := tree_ok w L hl h7
  have okR := tree_ok w R hr h8
  rcases w.tr i h2 with hn | hn
  · have := hn.kind; omega
  have hdp := hn.dp
  have sl := hn.sl
  have sr := hn.sr
  have hsz := hn.sz
  have htwo := hn.two
  rw [h4] at hdp sl sr
  rw [h5] at sl hsz
  rw [h6] at sr hsz
  have side : ∀ (q : Nat) (b : Int) (U : Tre), TreeOk cs q U → SideOk cs d b q → (∀ e ∈ U.ents, kb e.1 d = b) ∧ ((sdC cs q).kind = 2 → (sdC cs q).dp = d + 1) := fun q b U ok s => by
    rcases s with rfl | ⟨q1, q2, q3, q4⟩
    · refine ⟨fun e he => ?_, fun k => absurd k (by show ¬ zc.kind = 2; decide)⟩
      have := ok.sz
      rw [show (sdC cs 0).sz = 0 from rfl] at this
      rw [List.eq_nil_of_length_eq_zero this.symm] at he
      cases he
    · have es : sdC cs q = ce cs (q - 1) := if_neg (by omega)
      refine ⟨fun e he => ?_, fun k => ?_⟩
      · rw [ok.share (d + 1) (by omega) (fun k => by rcases q4 with q4 | ⟨_, q4⟩ <;> omega) e he d (by omega), es]
        exact q3
      · rw [es] at k ⊢
        rcases q4 with q4 | ⟨_, q4⟩
        · omega
        · exact q4
  obtain ⟨a1, a2⟩ := side hl 0 L okL sl
  obtain ⟨b1, b2⟩ := side hr 1 R okR sr
  exact ⟨hdp, a1, b1, by rw [List.length_append, ← okL.sz, ← okR.sz, ← hsz]; exact htwo, a2, b2⟩

theorem NdOk.side0 {cs : List (Nat × Ce)} {d hl hr : Nat} {L R : Tre} (n : NdOk cs d hl hr L R) : sideOf (L.ents ++ R.ents) d 0 = L.ents := by
  rw [sideOf_app, sideOf_all L.ents d 0 (fun e he => by rw [kbi_in _ _ n.dp]; exact n.bL e he), sideOf_none R.ents d 0 1 (fun e he => by rw [kbi_in _ _ n.dp]; exact n.bR e he) (by omega), List.append_nil]
theorem NdOk.side1 {cs : List (Nat × Ce)} {d hl hr : Nat} {L R : Tre} (n : NdOk cs d hl hr L R) : sideOf (L.ents ++ R.ents) d 1 = R.ents := by
  rw [sideOf_app, sideOf_none L.ents d 1 0 (fun e he => by rw [kbi_in _ _ n.dp]; exact n.bL e he) (by omega), sideOf_all R.ents d 1 (fun e he => by rw [kbi_in _ _ n.dp]; exact n.bR e he), List.nil_append]

theorem sds_few (n d : Nat) (l : List Ent) (K : List Int) (h : l.length ≤ 1) : sds n d l K = [] ∧ rst n d l K = l := by
  cases n with
  | zero => exact ⟨rfl, rfl⟩
  | succ n => exact ⟨by rw [sds, if_pos h], by rw [rst, if_pos h]⟩

/-- A key's way in the tree is its way among the tree's entries. -/
theorem way_tree {cs : List (Nat × Ce)} {pend : List Nat} (w : Wf cs pend) (K : List Int) : ∀ (T : Tre) (h d : Nat), IsT cs h T → ((sdC cs h).kind = 2 → (sdC cs h).dp = d) → d ≤ 256 → (T.oth K).map (sdD cs) = sds (256 - d) d T.ents K ∧ T.efin K = rst (256 - d) d T.ents K ∧ (T.oth K).length ≤ 256 - d
  | .emp, h, d, _, _, _ => by
    obtain ⟨e1, e2⟩ := sds_few (256 - d) d Tre.emp.ents K (by simp [Tre.ents])
    rw [e1, e2]
    exact ⟨rfl, rfl, Nat.zero_le _⟩
  | .lf k b, h, d, _, _, _ => by
    obtain ⟨e1, e2⟩ := sds_few (256 - d) d (Tre.lf k b).ents K (by simp [Tre.ents])
    rw [e1, e2]
    exact ⟨rfl, rfl, Nat.zero_le _⟩
  | .nd d hl hr L R, h, d', hT, hd, _ => by
    have n := nd_ok w hT
    obtain ⟨h1, h2, h3, h4, h5, h6, h7, h8⟩ := hT
    have es : sdC cs h = ce cs (h - 1) := if_neg (by omega)
    obtain rfl : d = d' := by
      rw [es] at hd
      rw [← h4]
      exact hd h3
    have okL := tree_ok w L hl h7
    have okR := tree_ok w R hr h8
    have hdp := n.dp
    obtain ⟨l1, l2, l3⟩ := way_tree w K L hl (d + 1) h7 n.kl (by omega)
    obtain ⟨r1, r2, r3⟩ := way_tree w K R hr (d + 1) h8 n.kr (by omega)
    have dl := okL.dig (d + 1) n.kl
    have dr := okR.dig (d + 1) n.kr
    obtain ⟨m, hm⟩ : ∃ m, 256 - d = m + 1 := ⟨255 - d, by omega⟩
    have hm2 : 256 - (d + 1) = m := by omega
    rw [hm2] at l1 l2 l3 r1 r2 r3 dl dr
    have htwo := n.two
    rw [hm]
    show (Tre.oth K (.nd d hl hr L R)).map (sdD cs) = sds (m + 1) d (L.ents ++ R.ents) K ∧ Tre.efin K (.nd d hl hr L R) = rst (m + 1) d (L.ents ++ R.ents) K ∧ (Tre.oth K (.nd d hl hr L R)).length ≤ m + 1
    rw [sds, rst, if_neg (by omega), if_neg (by omega)]
    rcases kb_two K d with q | q
    · rw [q, show (1 : Int) - 0 = 1 from rfl, n.side0, n.side1]
      simp only [Tre.oth, Tre.efin, q]
      refine ⟨?_, l2, ?_⟩
      · simp only [show ¬ ((0 : Int) = 1) by omega, if_false, List.map_cons]
        rw [l1, dr]
      · simp only [show ¬ ((0 : Int) = 1) by omega, if_false, List.length_cons]
        omega
    · rw [q, show (1 : Int) - 1 = 0 from rfl, n.side0, n.side1]
      simp only [Tre.oth, Tre.efin, q]
      refine ⟨?_, r2, ?_⟩
      · simp only [if_true, List.map_cons]
        rw [r1, dl]
      · simp only [if_true, List.length_cons]
        omega

/-- Ways hang on no order. -/
theorem way_perm (K : List Int) : ∀ (n d : Nat) (l m : List Ent), l.Perm m → sds n d l K = sds n d m K ∧ (rst n d l K).Perm (rst n d m K)
  | 0, _, _, _, h => ⟨rfl, h⟩
  | n + 1, d, l, m, h => by
    have hl := h.length_eq
    have hs : ∀ c, (sideOf l d c).Perm (sideOf m d c) := fun c => h.filter _
    obtain ⟨i1, i2⟩ := way_perm K n (d + 1) _ _ (hs (kb K d))
    rw [sds, sds, rst, rst]
    by_cases q : l.length ≤ 1
    · rw [if_pos q, if_pos q, if_pos (by omega), if_pos (by omega)]
      exact ⟨rfl, h⟩
    · rw [if_neg q, if_neg q, if_neg (by omega), if_neg (by omega), i1, rt_perm n (d + 1) _ _ (hs _)]
      exact ⟨rfl, i2⟩

/-- What the way ends with. -/
theorem fin_is {cs : List (Nat × Ce)} (K : List Int) : ∀ (T : Tre) (h : Nat), IsT cs h T → (T.fin K h = 0 ∧ T.efin K = []) ∨ ∃ k b, T.efin K = [(k, b)] ∧ 1 ≤ T.fin K h ∧ 0 < cc cs (T.fin K h - 1) ∧ (ce cs (T.fin K h - 1)).kind = 1 ∧ (ce cs (T.fin K h - 1)).key = k ∧ (ce cs (T.fin K h - 1)).bs = b
  | .emp, h, e => .inl ⟨e, rfl⟩
  | .lf k b, h, ⟨h1, h2, h3, h4, h5⟩ => .inr ⟨k, b, rfl, h1, h2, h3, h4, h5⟩
  | .nd d hl hr L R, h, ⟨_, _, _, _, _, _, h7, h8⟩ => by
    have a := fin_is K L hl h7
    have b := fin_is K R hr h8
    simp only [Tre.fin, Tre.efin]
    by_cases q : kb K d = 1
    · simp only [q, if_true]
      exact b
    · simp only [q, if_false]
      exact a

/-- An entry with that key is the one with which the way ends. -/
theorem efin_key {cs : List (Nat × Ce)} {pend : List Nat} (w : Wf cs pend) (K : List Int) : ∀ (T : Tre) (h : Nat), IsT cs h T → ∀ e ∈ T.ents, e.1 = K → T.efin K = [e]
  | .emp, _, _, e, he, _ => by cases he
  | .lf k b, _, _, e, he, _ => by
    obtain rfl : e = (k, b) := by simpa [Tre.ents] using he
    rfl
  | .nd d hl hr L R, h, hT, e, he, hK => by
    have n := nd_ok w hT
    obtain ⟨_, _, _, _, _, _, h7, h8⟩ := hT
    simp only [Tre.efin]
    rcases List.mem_append.1 he with he | he
    · have := n.bL e he
      rw [hK] at this
      rw [if_neg (by omega)]
      exact efin_key w K L hl h7 e he hK
    · have := n.bR e he
      rw [hK] at this
      rw [if_pos this]
      exact efin_key w K R hr h8 e he hK
theorem efin_mem (K : List Int) : ∀ (T : Tre), ∀ e ∈ T.efin K, e ∈ T.ents
  | .emp, e, he => by cases he
  | .lf k b, e, he => he
  | .nd d hl hr L R, e, he => by
    simp only [Tre.efin] at he
    split at he
    · exact List.mem_append_right _ (efin_mem K R e he)
    · exact List.mem_append_left _ (efin_mem K L e he)

end Go.Proofs.YtdpaanidangnlaaGreatDoor

/- A tree that is made from below out of entries, slot by slot: that it fits, and what stands there behind it. No program in this text but the store's own. -/
namespace Go.Proofs.YtdpaanidangnlaaGreatDoor
set_option maxRecDepth 20000
open Go.RowKit

/-- Slots more, and none of those that were there turned. -/
structure Ext (cs cs' : List (Nat × Ce)) : Prop where
  len : cs.length ≤ cs'.length
  cc : ∀ i, i < cs.length → cc cs' i = cc cs i
  ce : ∀ i, i < cs.length → ce cs' i = ce cs i
theorem Ext.refl (cs : List (Nat × Ce)) : Ext cs cs := ⟨Nat.le_refl _, fun _ _ => rfl, fun _ _ => rfl⟩
theorem Ext.trans {a b c : List (Nat × Ce)} (h : Ext a b) (k : Ext b c) : Ext a c := ⟨Nat.le_trans h.len k.len, fun i hi => (k.cc i (Nat.lt_of_lt_of_le hi h.len)).trans (h.cc i hi), fun i hi => (k.ce i (Nat.lt_of_lt_of_le hi h.len)).trans (h.ce i hi)⟩
theorem Ext.snoc (cs : List (Nat × Ce)) (p : Nat × Ce) : Ext cs (cs ++ [p]) := ⟨by simp, fun i hi => by rw [cc_snoc, if_neg (by omega)], fun i hi => by rw [ce_snoc, if_neg (by omega)]⟩
theorem Ext.up {cs cs' : List (Nat × Ce)} (h : Ext cs cs') (x : Nat) (hx : x = 0 ∨ cs.length < x) : Ext cs (upA cs' x) := by
  have a := upA_of cs' x
  refine ⟨by rw [a.len]; exact h.len, fun i hi => by rw [a.cc]; exact h.cc i hi, fun i hi => ?_⟩
  rw [← h.ce i hi]
  unfold upA
  split
  · rfl
  · rename_i h0
    by_cases hl : x - 1 < cs'.length
    · rw [setA_ce cs' x _ i hl, if_neg (by omega)]
    · rw [setA, List.set_eq_of_length_le (by omega)]

/-- What is held and looks the same has the same tree. -/
theorem IsT.keep {cs cs' : List (Nat × Ce)} (k : ∀ i, 0 < cc cs i → 0 < cc cs' i ∧ Core (ce cs i) (ce cs' i)) : ∀ {T : Tre} {h : Nat}, IsT cs h T → IsT cs' h T
  | .emp, _, e => e
  | .lf _ _, h, ⟨h1, h2, h3, h4, h5⟩ => by
    obtain ⟨k1, k2⟩ := k _ h2
    refine ⟨h1, k1, ?_⟩
    rw [k2]
    exact ⟨h3, h4, h5⟩
  | .nd _ _ _ _ _, h, ⟨h1, h2, h3, h4, h5, h6, h7, h8⟩ => by
    obtain ⟨k1, k2⟩ := k _ h2
    refine ⟨h1, k1, ?_⟩
    rw [k2]
    exact ⟨h3, h4, h5, h6, IsT.keep k h7, IsT.keep k h8⟩
theorem Ext.keep {cs cs' : List (Nat × Ce)} (h : Ext cs cs') : ∀ i, 0 < Go.Proofs.YtdpaanidangnlaaGreatDoor.cc cs i → 0 < Go.Proofs.YtdpaanidangnlaaGreatDoor.cc cs' i ∧ Core (Go.Proofs.YtdpaanidangnlaaGreatDoor.ce cs i) (Go.Proofs.YtdpaanidangnlaaGreatDoor.ce cs' i) := fun i hi => by
  have hl := cc_lt hi
  rw [h.cc i hl, h.ce i hl]
  exact ⟨hi, Core.refl _⟩
theorem Ext.sdC {cs cs' : List (Nat × Ce)} (h : Ext cs cs') (x : Nat) (hx : x ≤ cs.length) : sdC cs' x = sdC cs x := by
  unfold Go.Proofs.YtdpaanidangnlaaGreatDoor.sdC
  split
  · rfl
  · exact h.ce _ (by omega)

/-- The tree of these entries, from the depth d on, has been made: its handle is h. -/
structure Bd (cs : List (Nat × Ce)) (es : List Ent) (d h : Nat) (cs' : List (Nat × Ce)) : Prop where
  ext : Ext cs cs'
  wf : Wf cs' []
  tree : ∃ T, IsT cs' h T ∧ T.ents.Perm es
  dp : (sdC cs' h).kind = 2 → (sdC cs' h).dp = d
  own : h ≠ 0 → cs.length < h ∧ h ≤ cs'.length ∧ cc cs' (h - 1) = 1 ∧ (ce cs' (h - 1)).ab = 0
  num : cs'.length ≤ cs.length + es.length * (257 - d)

theorem Bd.nil {cs : List (Nat × Ce)} (w : Wf cs []) (d : Nat) : Bd cs [] d 0 cs :=
  ⟨Ext.refl _, w, ⟨.emp, rfl, List.Perm.refl _⟩, fun k => absurd k (by show ¬ zc.kind = 2; decide), fun h => absurd rfl h, by simp⟩

theorem Bd.one {cs : List (Nat × Ce)} (w : Wf cs []) (d : Nat) (hd : d ≤ 256) (e : Ent) (v : Value) (hl : e.2.length ≤ 1024) (hb : Bytes e.2) (ok : CeOk (lfC (lfD e.1 (vaD e.2)) e.1 v e.2)) : Bd cs [e] d (cs.length + 1) (cs ++ [(1, lfC (lfD e.1 (vaD e.2)) e.1 v e.2)]) := by
  have tk := (tk_of (cs := cs) (fr := []) (fun _ h => by cases h) (1, lfC (lfD e.1 (vaD e.2)) e.1 v e.2)).2
  have ec : cc (cs ++ [(1, lfC (lfD e.1 (vaD e.2)) e.1 v e.2)]) cs.length = 1 := by rw [cc_snoc, if_pos rfl]
  have ee : ce (cs ++ [(1, lfC (lfD e.1 (vaD e.2)) e.1 v e.2)]) cs.length = lfC (lfD e.1 (vaD e.2)) e.1 v e.2 := by rw [ce_snoc, if_pos rfl]
  refine ⟨Ext.snoc _ _, w.leaf tk (leaf_ok e.1 v e.2 hb hl) ok rfl, ⟨.lf e.1 e.2, ⟨by omega, ?_, ?_, ?_, ?_⟩, List.Perm.refl _⟩, fun k => ?_, fun _ => ⟨by omega, by simp, ?_, ?_⟩, ?_⟩
  · rw [Nat.add_sub_cancel, ec]; omega
  · rw [Nat.add_sub_cancel, ee]; rfl
  · rw [Nat.add_sub_cancel, ee]; rfl
  · rw [Nat.add_sub_cancel, ee]; rfl
  · rw [sdC, if_neg (by omega), Nat.add_sub_cancel, ee] at k
    exact absurd k (by show ¬ (1 : Int) = 2; omega)
  · rw [Nat.add_sub_cancel, ec]
  · rw [Nat.add_sub_cancel, ee]; rfl
  · simp; omega

theorem sideOf_perm (es : List Ent) (d : Nat) (hd : d < 256) : (sideOf es d 0 ++ sideOf es d 1).Perm es := by
  have h := List.filter_append_perm (fun e : Ent => kbi e.1 d == 0) es
  have e : es.filter (fun e : Ent => !(kbi e.1 d == 0)) = sideOf es d 1 := by
    unfold sideOf
    congr 1
    funext e
    rw [kbi_in _ _ hd]
    rcases kb_two e.1 d with q | q <;> rw [q] <;> rfl
  rw [e] at h
  exact h

theorem Bd.side {cs cs' : List (Nat × Ce)} {es : List Ent} {d h : Nat} (b : Bd cs es (d + 1) h cs') (bit : Int) (hb : ∀ e ∈ es, kb e.1 d = bit) : (sdC cs' h).sz = es.length ∧ fsP (sdC cs' h) d bit = true ∧ (h ≠ 0 → ∃ e ∈ es, ∀ j, j < d + 1 → kb e.1 j = kb (sdC cs' h).key j) ∧ ((sdC cs' h).kind = 0 → h = 0) := by
  obtain ⟨T, hT, hp⟩ := b.tree
  have ok := tree_ok b.wf T h hT
  have hsz : (sdC cs' h).sz = es.length := by rw [ok.sz, hp.length_eq]
  by_cases h0 : h = 0
  · subst h0
    exact ⟨hsz, rfl, fun q => absurd rfl q, fun _ => rfl⟩
  · have es1 : sdC cs' h = ce cs' (h - 1) := if_neg h0
    have hex : ∃ e ∈ es, ∀ j, j < d + 1 → kb e.1 j = kb (sdC cs' h).key j := by
      obtain ⟨e, he⟩ := List.exists_mem_of_ne_nil _ (ok.pos h0)
      refine ⟨e, hp.mem_iff.1 he, ok.share (d + 1) h0 (fun k => ?_) e he⟩
      have := b.dp (by rw [es1]; exact k)
      rw [es1] at this
      omega
    have hk : kb (sdC cs' h).key d = bit := by
      obtain ⟨e, he, hq⟩ := hex
      rw [← hq d (by omega)]
      exact hb e he
    obtain ⟨_, _, o3, _⟩ := b.own h0
    have hkd := b.wf.kinds (h - 1) (by omega)
    rw [← es1] at hkd
    refine ⟨hsz, ?_, fun _ => hex, fun q => by rcases hkd with e | e <;> omega⟩
    unfold fsP
    rcases hkd with e | e
    · rw [if_pos e]
      simpa using hk
    · rw [if_neg (by omega), if_pos e, b.dp e]
      simpa using hk

theorem Bd.two {cs cs1 cs2 : List (Nat × Ce)} {es : List Ent} {d a b : Nat} (hd : d < 256) (hn : 2 ≤ es.length) (hs : ∀ x ∈ es, ∀ y ∈ es, ∀ j, j < d → kb x.1 j = kb y.1 j) (ba : Bd cs (sideOf es d 0) (d + 1) a cs1) (bb : Bd cs1 (sideOf es d 1) (d + 1) b cs2) :
    mayP cs2 (a : Int) ∧ mayP cs2 (b : Int) ∧ ∃ u, (u = true ↔ Und (sdC cs2 a).key (sdC cs2 b).key (d : Int)) ∧ fitP d (sdC cs2 a) (sdC cs2 b) u = true ∧
      ∀ K, IsFill (if (sdC cs2 a).kind = 0 then (sdC cs2 b).key else (sdC cs2 a).key) d 0 K → Bd cs es d (cs2.length + 1) (upA (upA (cs2 ++ [(1, inC (inD (sdD cs2 a) (sdD cs2 b)) K ((sdC cs2 a).sz + (sdC cs2 b).sz) d a b)]) a) b) := by
  have hbit : ∀ (c : Int) e, e ∈ sideOf es d c → kb e.1 d = c := fun c e he => by
    have := (List.mem_filter.1 he).2
    rw [kbi_in _ _ hd] at this
    simpa using this
  have hal : a ≤ cs1.length := by
    by_cases h0 : a = 0
    · omega
    · exact (ba.own h0).2.1
  have hbl : b ≤ cs2.length := by
    by_cases h0 : b = 0
    · omega
    · exact (bb.own h0).2.1
  have hca : sdC cs2 a = sdC cs1 a := bb.ext.sdC a hal
  obtain ⟨a1, a2, a3, a4⟩ := ba.side 0 (hbit 0)
  obtain ⟨b1, b2, b3, b4⟩ := bb.side 1 (hbit 1)
  rw [← hca] at a1 a2 a3 a4
  have may : ∀ x : Nat, (x ≠ 0 → cc cs2 (x - 1) = 1 ∧ (ce cs2 (x - 1)).ab = 0) → mayP cs2 (x : Int) := fun x hx => by
    by_cases h0 : x = 0
    · exact .inl (by omega)
    · obtain ⟨q1, q2⟩ := hx h0
      refine .inr ?_
      rw [cat_nat, cot, if_pos (by omega), show ((x : Int) - 1).toNat = x - 1 by omega, sdC, if_neg h0]
      omega
  have ma := may a (fun h0 => by
    obtain ⟨q0, q1, q2, q3⟩ := ba.own h0
    rw [bb.ext.cc _ (by omega), bb.ext.ce _ (by omega)]
    exact ⟨q2, q3⟩)
  have mb := may b (fun h0 => by
    obtain ⟨q0, q1, q2, q3⟩ := bb.own h0
    exact ⟨q2, q3⟩)
  have hperm := sideOf_perm es d hd
  have hlen : (sideOf es d 0).length + (sideOf es d 1).length = es.length := by rw [← List.length_append]; exact hperm.length_eq
  refine ⟨ma, mb, ?_⟩
  have hfit : ∃ u, (u = true ↔ Und (sdC cs2 a).key (sdC cs2 b).key (d : Int)) ∧ fitP d (sdC cs2 a) (sdC cs2 b) u = true := by
    by_cases hu : Und (sdC cs2 a).key (sdC cs2 b).key (d : Int)
    · refine ⟨true, by simp [hu], ?_⟩
      unfold fitP
      rw [a2, b2]
      simp
      omega
    · refine ⟨false, by simp [hu], ?_⟩
      have : (sdC cs2 a).kind = 0 ∨ (sdC cs2 b).kind = 0 := by
        apply Classical.byContradiction
        intro hq
        have ha0 : a ≠ 0 := fun e => hq (.inl (by rw [e]; rfl))
        have hb0 : b ≠ 0 := fun e => hq (.inr (by rw [e]; rfl))
        obtain ⟨x, hx, hxk⟩ := a3 ha0
        obtain ⟨y, hy, hyk⟩ := b3 hb0
        refine hu ⟨by omega, by omega, fun j hj => ?_⟩
        rw [← hxk j (by omega), ← hyk j (by omega)]
        exact hs x (List.mem_filter.1 hx).1 y (List.mem_filter.1 hy).1 j (by omega)
      unfold fitP
      rw [a2, b2]
      rcases this with e | e <;> simp [e] <;> omega
  obtain ⟨u, hu, hf⟩ := hfit
  refine ⟨u, hu, hf, fun K hK => ?_⟩
  have tk := (tk_of (cs := cs2) (fr := []) (fun _ h => by cases h) (1, inC (inD (sdD cs2 a) (sdD cs2 b)) K ((sdC cs2 a).sz + (sdC cs2 b).sz) d a b)).2
  have wf := bb.wf.inner tk (inn_ok bb.wf hd ma mb hu hf hK) ⟨dig_length _, dig_bytes _, hK.1, none, 0, rfl⟩ rfl ma.own mb.own
  have hX : ∃ X, X = inC (inD (sdD cs2 a) (sdD cs2 b)) K ((sdC cs2 a).sz + (sdC cs2 b).sz) d a b := ⟨_, rfl⟩
  obtain ⟨X, hX⟩ := hX
  rw [← hX]
  have xk : X.kind = 2 := by rw [hX]; rfl
  have xd : X.dp = d := by rw [hX]; rfl
  have xl : X.l = a := by rw [hX]; rfl
  have xr : X.r = b := by rw [hX]; rfl
  have xa : X.ab = 0 := by rw [hX]; rfl
  have wf' : Wf (upA (upA (cs2 ++ [(1, X)]) a) b) [] := by rw [hX]; exact wf
  have u1 := upA_of (cs2 ++ [(1, X)]) a
  have uu := u1.trans (upA_of (upA (cs2 ++ [(1, X)]) a) b)
  have e2 := Ext.snoc cs2 (1, X)
  have ex : Ext cs (upA (upA (cs2 ++ [(1, X)]) a) b) := by
    refine Ext.up (Ext.up ((ba.ext.trans bb.ext).trans e2) a ?_) b ?_
    · by_cases h0 : a = 0
      · exact .inl h0
      · exact .inr (ba.own h0).1
    · by_cases h0 : b = 0
      · exact .inl h0
      · have := (bb.own h0).1
        have := ba.ext.len
        exact .inr (by omega)
  have kp : ∀ i, 0 < cc cs2 i → 0 < cc (upA (upA (cs2 ++ [(1, X)]) a) b) i ∧ Core (ce cs2 i) (ce (upA (upA (cs2 ++ [(1, X)]) a) b) i) := fun i hi => by
    obtain ⟨k1, k2⟩ := e2.keep i hi
    exact ⟨by rw [uu.cc]; exact k1, k2.trans (uu.core i)⟩
  have cn : cc (upA (upA (cs2 ++ [(1, X)]) a) b) cs2.length = 1 := by rw [uu.cc, cc_snoc, if_pos rfl]
  have cr : Core X (ce (upA (upA (cs2 ++ [(1, X)]) a) b) cs2.length) := by
    have := uu.core cs2.length
    rwa [ce_snoc, if_pos rfl] at this
  have ab : (ce (upA (upA (cs2 ++ [(1, X)]) a) b) cs2.length).ab = 0 := by
    rw [upA_ab _ b _ (by rw [u1.len, List.length_append]; left; simp; omega), upA_ab _ a _ (by rw [List.length_append]; left; have := bb.ext.len; simp; omega), ce_snoc, if_pos rfl, xa, if_neg (by have := bb.ext.len; omega), if_neg (by omega)]
  obtain ⟨TA, hTA, pA⟩ := ba.tree
  obtain ⟨TB, hTB, pB⟩ := bb.tree
  have sn : sdC (upA (upA (cs2 ++ [(1, X)]) a) b) (cs2.length + 1) = ce (upA (upA (cs2 ++ [(1, X)]) a) b) cs2.length := rfl
  refine ⟨ex, wf', ⟨.nd d a b TA TB, ⟨by omega, ?_, ?_, ?_, ?_, ?_, ?_, ?_⟩, ?_⟩, fun _ => ?_, fun _ => ⟨?_, ?_, ?_, ?_⟩, ?_⟩
  · rw [Nat.add_sub_cancel, cn]; omega
  · rw [Nat.add_sub_cancel, cr]; exact xk
  · rw [Nat.add_sub_cancel, cr]; exact xd
  · rw [Nat.add_sub_cancel, cr]; exact xl
  · rw [Nat.add_sub_cancel, cr]; exact xr
  · exact (hTA.keep bb.ext.keep).keep kp
  · exact hTB.keep kp
  · exact (pA.append pB).trans hperm
  · rw [sn, cr]; exact xd
  · have := ba.ext.len
    have := bb.ext.len
    omega
  · rw [uu.len]; simp
  · rw [Nat.add_sub_cancel, cn]
  · rw [Nat.add_sub_cancel, ab]
  · have n1 := ba.num
    have n2 := bb.num
    rw [uu.len, List.length_append, List.length_singleton]
    have e1 : 257 - (d + 1) = 256 - d := by omega
    rw [e1] at n1 n2
    have e3 : es.length * (257 - d) = es.length * (256 - d) + es.length := by
      rw [show 257 - d = (256 - d) + 1 by omega, Nat.mul_add, Nat.mul_one]
    rw [e3, ← hlen, Nat.add_mul]
    omega

end Go.Proofs.YtdpaanidangnlaaGreatDoor

/- node.bare, Check, is, as contracts. -/
namespace Go.Proofs.YtdpaanidangnlaaGreatDoor
set_option maxRecDepth 20000
open Go.RowKit

/-- A node that may be. -/
def okN (k : Int) (a b c d : List Int) : Bool := decide ((k = 0 ∧ a = z32 ∧ b = z32 ∧ c = z32 ∧ d = z32) ∨ (k = 1 ∧ c = z32 ∧ d = z32) ∨ (k = 2 ∧ a = z32 ∧ b = z32))

theorem z_nd : Nd 0 z32 z32 z32 z32 := ⟨by omega, by omega, rfl, rfl, rfl, rfl, z32_bytes, z32_bytes, z32_bytes, z32_bytes⟩

def BarePost (k : Int) (a b c d : List Int) (w : World) (e : Ending) (w' : World) : Prop :=
  ∃ k' a' b' c' d', e = .returned (.agg (B (nd k' a' b' c' d'))) ∧ Nd k' a' b' c' d' ∧ okN k a b c d = decide (nd k a b c d = nd k' a' b' c' d') ∧ Below w.heap.size w w'

set_option maxHeartbeats 2000000 in
theorem bare_any (k : Int) (a b c d : List Int) (w : World) (h : Nd k a b c d) : Calls Tryz.prog 133 #[.agg (B (nd k a b c d))] w (BarePost k a b c d w) := by
  obtain ⟨fs, hu⟩ := u_node
  have HU := hidden hu
  have H := hidden h
  have H129 : Hid ((Tryz.prog.info? 48).map (·.size) = some (B (nd k a b c d)).size) := by show _ = _; rw [h.size, size_node]
  obtain ⟨N, hN⟩ : ∃ N, N = nd k a b c d := ⟨_, rfl⟩
  have HN := hidden hN
  rw [← hN] at H129 ⊢
  have hkd := fun w g t (q : Blk w g t (B N)) => Nd.kind (k := k) (a := a) (b := b) (c := c) (d := d) (by rw [← hN]; exact q)
  have HKD : Hid (∀ w g t, Blk w g t (B N) → w.cell? ⟨g, 0, none⟩ = some (.int .u8 k)) := hkd
  have SA : Hid (Seg N 1 a) := by rw [hN]; exact h.segA
  have SB : Hid (Seg N 33 b) := by rw [hN]; exact h.segB
  have SC : Hid (Seg N 65 c) := by rw [hN]; exact h.segC
  have SD : Hid (Seg N 97 d) := by rw [hN]; exact h.segD
  have LA : Hid ((Tryz.prog.info? 31).map (·.size) = some a.length) := by show _ = _; rw [h.la]; exact sz_path
  have LB : Hid ((Tryz.prog.info? 43).map (·.size) = some b.length) := by show _ = _; rw [h.lb]; exact sz_hash
  have LC : Hid ((Tryz.prog.info? 43).map (·.size) = some c.length) := by show _ = _; rw [h.lc]; exact sz_hash
  have LD : Hid ((Tryz.prog.info? 43).map (·.size) = some d.length) := by show _ = _; rw [h.ld]; exact sz_hash
  by_cases hk1 : k = 1
  · have HB : Hid (Tryz.prog.built 48 [(0, .int .u8 1), (1, .agg (B a)), (2, .agg (B b))] = some (B (nd 1 a b z32 z32))) := built_leaf a b h.la h.lb
    have HR : Hid (Nd 1 a b z32 z32) := ⟨by omega, by omega, h.la, h.lb, rfl, rfl, h.ba, h.bb, z32_bytes, z32_bytes⟩
    have HO : Hid (okN k a b c d = decide (nd k a b c d = nd 1 a b z32 z32)) := by
      show _ = _
      rw [Bool.eq_iff_iff, decide_eq_true_iff, nd_inj h HR.out]
      simp [okN, hk1]
    have q1 : (k == 1) = true := by simp [hk1]
    clear h hu hN hkd hk1
    go_enter Tryz.func133, Tryz.ntmps133
    go_wp2_with (first
      | ((with_reducible refine at_bx ?_); refine wpList_bx _ rfl _ _ rfl _ rfl ?_; intro w1 g1 hg1 hl1 B1 b1; have ck := HKD.out _ _ _ B1)
      | ((with_reducible refine at_al ?_); refine wpList_al _ rfl _ rfl _ zero_node ?_; intro w2 g2 hg2 hl2 B2 b2; have B1' := B1.grow b2; have ck2 := HKD.out _ _ _ B1')
      | ((with_reducible refine at_ld 7 ?_); refine wpList_ldm _ rfl _ _ rfl g1 1 _ _ a rfl B1' SA.out _ _ Tryz.underlying31 LA.out ?_)
      | ((with_reducible refine at_ld 9 ?_); refine wpList_ldm _ rfl _ _ rfl g1 33 _ _ b rfl B1' SB.out _ _ Tryz.underlying43 LB.out ?_)
      | ((with_reducible refine at_bd ?_); refine wpList_bld _ rfl _ _ rfl _ (by rw [List.map_toArray]; exact HB.out) ?_)
      | ((with_reducible refine at_st 2 ?_); refine wpList_sto _ rfl _ _ _ rfl g2 _ _ rfl rfl B2 (by rw [HR.out.size]; exact size_node) (by rw [HR.out.size]; rfl) (B_one _) ?_; intro w3 B3 g3))
    exact bodyPost_ret (v := .agg (B (nd 1 a b z32 z32))) (results_cell_row rfl _ _ g2 _ _ _ _ rfl B3 HU.out rfl (by rw [HR.out.size]; exact size_node)) rfl ⟨_, _, _, _, _, rfl, HR.out, HO.out, below_row (grow_trans b1 b2) g3 (Nat.le_trans b1.size hg2)⟩
  · have q1 : (k == 1) = false := by simp [hk1]
    by_cases hk2 : k = 2
    · have HB : Hid (Tryz.prog.built 48 [(0, .int .u8 2), (3, .agg (B c)), (4, .agg (B d))] = some (B (nd 2 z32 z32 c d))) := built_inner c d h.lc h.ld
      have HR : Hid (Nd 2 z32 z32 c d) := ⟨by omega, by omega, rfl, rfl, h.lc, h.ld, z32_bytes, z32_bytes, h.bc, h.bd⟩
      have HO : Hid (okN k a b c d = decide (nd k a b c d = nd 2 z32 z32 c d)) := by
        show _ = _
        rw [Bool.eq_iff_iff, decide_eq_true_iff, nd_inj h HR.out]
        simp [okN, hk2]
      have q2 : (k == 2) = true := by simp [hk2]
      clear h hu hN hkd hk1 hk2
      go_enter Tryz.func133, Tryz.ntmps133
      go_wp2_with (first
        | ((with_reducible refine at_bx ?_); refine wpList_bx _ rfl _ _ rfl _ rfl ?_; intro w1 g1 hg1 hl1 B1 b1; have ck := HKD.out _ _ _ B1)
        | ((with_reducible refine at_al ?_); refine wpList_al _ rfl _ rfl _ zero_node ?_; intro w2 g2 hg2 hl2 B2 b2; have B1' := B1.grow b2; have ck2 := HKD.out _ _ _ B1')
        | ((with_reducible refine at_ld 14 ?_); refine wpList_ldm _ rfl _ _ rfl g1 65 _ _ c rfl B1' SC.out _ _ Tryz.underlying43 LC.out ?_)
        | ((with_reducible refine at_ld 16 ?_); refine wpList_ldm _ rfl _ _ rfl g1 97 _ _ d rfl B1' SD.out _ _ Tryz.underlying43 LD.out ?_)
        | ((with_reducible refine at_bd ?_); refine wpList_bld _ rfl _ _ rfl _ (by rw [List.map_toArray]; exact HB.out) ?_)
        | ((with_reducible refine at_st 2 ?_); refine wpList_sto _ rfl _ _ _ rfl g2 _ _ rfl rfl B2 (by rw [HR.out.size]; exact size_node) (by rw [HR.out.size]; rfl) (B_one _) ?_; intro w3 B3 g3))
      exact bodyPost_ret (v := .agg (B (nd 2 z32 z32 c d))) (results_cell_row rfl _ _ g2 _ _ _ _ rfl B3 HU.out rfl (by rw [HR.out.size]; exact size_node)) rfl ⟨_, _, _, _, _, rfl, HR.out, HO.out, below_row (grow_trans b1 b2) g3 (Nat.le_trans b1.size hg2)⟩
    · have HB : Hid (Tryz.prog.built 48 [] = some (B (nd 0 z32 z32 z32 z32))) := built_empty
      have HR : Hid (Nd 0 z32 z32 z32 z32) := z_nd
      have HO : Hid (okN k a b c d = decide (nd k a b c d = nd 0 z32 z32 z32 z32)) := by
        show _ = _
        rw [Bool.eq_iff_iff, decide_eq_true_iff, nd_inj h HR.out]
        simp [okN, hk1, hk2]
      have q2 : (k == 2) = false := by simp [hk2]
      clear h hu hN hkd hk1 hk2
      go_enter Tryz.func133, Tryz.ntmps133
      go_wp2_with (first
        | ((with_reducible refine at_bx ?_); refine wpList_bx _ rfl _ _ rfl _ rfl ?_; intro w1 g1 hg1 hl1 B1 b1; have ck := HKD.out _ _ _ B1)
        | ((with_reducible refine at_al ?_); refine wpList_al _ rfl _ rfl _ zero_node ?_; intro w2 g2 hg2 hl2 B2 b2; have B1' := B1.grow b2; have ck2 := HKD.out _ _ _ B1')
        | ((with_reducible refine at_bd ?_); refine wpList_bld _ rfl _ _ rfl _ (by rw [List.map_toArray]; exact HB.out) ?_)
        | ((with_reducible refine at_st 2 ?_); refine wpList_sto _ rfl _ _ _ rfl g2 _ _ rfl rfl B2 (by rw [HR.out.size]; exact size_node) (by rw [HR.out.size]; rfl) (B_one _) ?_; intro w3 B3 g3))
      exact bodyPost_ret (v := .agg (B (nd 0 z32 z32 z32 z32))) (results_cell_row rfl _ _ g2 _ _ _ _ rfl B3 HU.out rfl (by rw [HR.out.size]; exact size_node)) rfl ⟨_, _, _, _, _, rfl, HR.out, HO.out, below_row (grow_trans b1 b2) g3 (Nat.le_trans b1.size hg2)⟩

def okE (k : Int) (a b c d : List Int) : Int := if okN k a b c d = true then 0 else 2

set_option maxHeartbeats 2000000 in
theorem check_any (k : Int) (a b c d : List Int) (w : World) (h : Nd k a b c d) : Calls Tryz.prog 111 #[.agg (B (nd k a b c d))] w fun e w' => e = .returned (.int .i64 (okE k a b c d)) ∧ Below w.heap.size w w' := by
  obtain ⟨fs, hu⟩ := u_node
  have HU := hidden hu
  have H := hidden h
  have H129 : Hid ((Tryz.prog.info? 48).map (·.size) = some (B (nd k a b c d)).toList.length) := by show _ = _; rw [Array.length_toList, h.size, size_node]
  have HC : Hid (∀ w', Calls Tryz.prog 133 #[.agg (B (nd k a b c d))] w' (BarePost k a b c d w')) := fun w' => bare_any k a b c d w' h
  have HEQ : Hid (∀ k' a' b' c' d', Nd k' a' b' c' d' → ∀ w, (Op.equalIn 10000 48 (.agg (B (nd k a b c d))) (.agg (B (nd k' a' b' c' d')))).run Tryz.prog w = .ok (decide (nd k a b c d = nd k' a' b' c' d')) w) := fun k' a' b' c' d' h' w => node_eq h h' w
  obtain ⟨r, hr⟩ : ∃ r, r = okN k a b c d := ⟨_, rfl⟩
  have HO : Hid (okE k a b c d = if r = true then 0 else 2) := by show _ = _; rw [okE, hr]
  rw [HO.out]
  have HP : Hid (∀ w e w', BarePost k a b c d w e w' → ∃ M, e = .returned (.agg (B M)) ∧ (∀ w, (Op.equalIn 10000 48 (.agg (B (nd k a b c d))) (.agg (B M))).run Tryz.prog w = .ok r w) ∧ Below w.heap.size w w') := by
    rintro w e w' ⟨k', a', b', c', d', rfl, hn, ho, hb⟩
    refine ⟨_, rfl, fun w => ?_, hb⟩
    rw [HEQ.out k' a' b' c' d' hn w, hr, ho]
  obtain ⟨N, hN⟩ : ∃ N, N = nd k a b c d := ⟨_, rfl⟩
  rw [← hN] at H129 HC HP ⊢
  clear h hu hN hr HEQ
  go_enter Tryz.func111, Tryz.ntmps111
  go_wp2_with (first
    | ((with_reducible refine at_bx ?_); refine wpList_bx _ rfl _ _ rfl _ rfl ?_; intro w1 g1 hg1 hl1 B1 b1))
  have HS : Hid (∀ w', Below w1.heap.size w1 w' → w'.rangeAt g1 0 (B N).toList) := fun w' hw' => (B1.grow hw').range
  have d0 : Below w1.heap.size w1 w1.drew := (Below.refl _ _).drew
  refine wp_region_held_drew (S := fun w' => w'.rangeAt g1 0 (B N).toList) (by kernel_rfl) (HS.out _ d0) (fun hHeld => ?_)
  refine wpAnyH_take (i := 0) (v := .agg (B N)) rfl (by kernel_rfl) (by kernel_rfl) (by kernel_rfl) (fun _ _ _ h => h) (yieldsIf_load_mid rfl 48 (.tmp 1) rfl g1 0 rfl (B N).toList _ (fun w hS => hS) HU.out rfl H129.out) hHeld ?_
  simp only [Act.put, List.getElem_toArray, List.getElem_cons_zero, List.setIfInBounds_toArray, List.set_cons_zero, List.set_cons_succ]
  refine wpAnyH_take (i := 1) (v := .agg (B N)) rfl (by kernel_rfl) (by kernel_rfl) (by kernel_rfl) (fun _ _ _ h => h) (yieldsIf_load_mid rfl 48 (.tmp 1) rfl g1 0 rfl (B N).toList _ (fun w hS => hS) HU.out rfl H129.out) hHeld ?_
  simp only [Act.put, List.getElem_toArray, List.getElem_cons_zero, List.getElem_cons_succ, List.setIfInBounds_toArray, List.set_cons_zero, List.set_cons_succ]
  refine wpAnyH_ready (rs := [2]) (by kernel_rfl) (by simp) ?_
  refine AllReadyH.cons rfl (fun KQ hK => ?_) AllReadyH.nil
  go_simp
  refine (HC.out _).mono ?_
  intro e x1 hx
  obtain ⟨M, rfl, hEq, a1⟩ := HP.out _ _ _ hx
  clear hx
  have d1 := grow_trans d0 a1
  refine hK.out _ _ (HS.out _ d1) (fun hHeld => ?_)
  clear hK KQ
  refine wpAnyH_take (i := 3) (v := .bool (!r)) rfl (by kernel_rfl) (by kernel_rfl) (by kernel_rfl) (fun _ _ _ h => h) (Or.inl ⟨by rfl, fun w hS => by (go_simp; skip)⟩) hHeld ?_
  simp only [Act.put, List.getElem_toArray, List.getElem_cons_zero, List.getElem_cons_succ, List.setIfInBounds_toArray, List.set_cons_zero, List.set_cons_succ]
  refine wpAnyH_done (by kernel_rfl) ?_ _
  clear hEq
  cases r
  · go_wp2_with fail
    go_ret
    exact ⟨rfl, grow_trans b1 d1⟩
  · go_wp2_with fail
    go_ret
    exact ⟨rfl, grow_trans b1 d1⟩

end Go.Proofs.YtdpaanidangnlaaGreatDoor
