/- Stores by definition: a node more in a free slot, its sides' counts; what stays. No program in this text. -/
import Derived.Test.YtnnmfgnommbmkaaGreatDoorLa01
import Derived.Test.YtnnmfgnommbmkaaGreatDoorLa08
namespace Go.Proofs.YtnnmfgnommbmkaaGreatDoor
set_option maxRecDepth 20000
open Go.RowKit

def tkH {α : Type} (cs : List α) (fr : List Nat) : Nat := match fr.getLast? with | some s => s | none => cs.length + 1
def tkC {α : Type} (cs : List α) (fr : List Nat) (p : α) : List α := match fr.getLast? with | some s => cs.set (s - 1) p | none => cs ++ [p]
def Full {α : Type} (room : Nat) (cs : List α) (fr : List Nat) : Prop := fr = [] ∧ room ≤ cs.length

def FrOk (cs : List (Nat × Ce)) (fr : List Nat) : Prop := ∀ s ∈ fr, 1 ≤ s ∧ s ≤ cs.length ∧ cc cs (s - 1) = 0
theorem frOk_inv {room : Nat} {cs : List (Nat × Ce)} {fr : List Nat} (h : Inv room (cs.map pl) fr) : FrOk cs fr := fun s hs => by
  obtain ⟨h1, h2, h3⟩ := h.free s hs
  rw [cnt_pl] at h3
  exact ⟨h1, by simpa using h2, h3⟩

theorem tk_cases {α : Type} (cs : List α) (fr : List Nat) : (∃ s fr0, fr = fr0 ++ [s] ∧ tkH cs fr = s ∧ (∀ p, tkC cs fr p = cs.set (s - 1) p)) ∨ (fr = [] ∧ tkH cs fr = cs.length + 1 ∧ ∀ p, tkC cs fr p = cs ++ [p]) := by
  rcases List.eq_nil_or_concat fr with e | ⟨fr0, s, e⟩
  · subst e
    exact .inr ⟨rfl, rfl, fun _ => rfl⟩
  · rw [List.concat_eq_append] at e
    subst e
    exact .inl ⟨s, fr0, rfl, by simp [tkH], fun p => by simp [tkC]⟩

structure TkOf (cs : List (Nat × Ce)) (i : Nat) (p : Nat × Ce) (cs' : List (Nat × Ce)) : Prop where
  vac : cc cs i = 0
  le : i ≤ cs.length
  len : cs'.length = max cs.length (i + 1)
  cc : ∀ j, cc cs' j = if j = i then p.1 else cc cs j
  ce : ∀ j, ce cs' j = if j = i then p.2 else ce cs j
  ns : ∀ j, ns cs' j = ns cs j + con j p

theorem tk_of {cs : List (Nat × Ce)} {fr : List Nat} (h : FrOk cs fr) (p : Nat × Ce) : 1 ≤ tkH cs fr ∧ TkOf cs (tkH cs fr - 1) p (tkC cs fr p) := by
  rcases tk_cases cs fr with ⟨s, fr0, rfl, e1, e2⟩ | ⟨rfl, e1, e2⟩
  · obtain ⟨h1, h2, h3⟩ := h s (by simp)
    have hl : s - 1 < cs.length := by omega
    rw [e1, e2]
    refine ⟨h1, h3, by omega, by simp; omega, fun j => cc_set cs _ j p hl, fun j => ce_set cs _ j p hl, fun j => ?_⟩
    have := ns_set cs j (s - 1) p hl
    have e0 : con j (Go.Proofs.YtnnmfgnommbmkaaGreatDoor.cc cs (s - 1), Go.Proofs.YtnnmfgnommbmkaaGreatDoor.ce cs (s - 1)) = 0 := by simp [con, h3]
    omega
  · rw [e1, e2]
    exact ⟨by omega, cc_out cs _ (by omega), by omega, by simp, fun j => cc_snoc cs j p, fun j => ce_snoc cs j p, fun j => ns_snoc cs j p⟩

theorem TkOf.keep {cs cs' : List (Nat × Ce)} {i : Nat} {p : Nat × Ce} (t : TkOf cs i p cs') {h d : Nat} {b : Int} (s : SideOk cs d b h) : KeepS cs cs' h := fun h0 => by
  rcases s with e | ⟨_, h2, _⟩
  · exact absurd e h0
  · have hne : h - 1 ≠ i := fun e => by
      rw [e, t.vac] at h2
      omega
    rw [t.cc, t.ce, if_neg hne, if_neg hne]
    exact ⟨h2, Core.refl _⟩
theorem TkOf.node {cs cs' : List (Nat × Ce)} {i : Nat} {p : Nat × Ce} (t : TkOf cs i p cs') {c : Ce} (h : NodeOk cs c) : NodeOk cs' c := by
  rcases h with h | h
  · exact .inl h
  · exact .inr (h.keep (t.keep h.sl) (t.keep h.sr))

theorem pend_vac {cs : List (Nat × Ce)} {pend : List Nat} (h : Wf cs pend) (i : Nat) (hv : cc cs i = 0) : pend.count (i + 1) = 0 ∧ (ce cs i).ab = 0 := by
  have := h.le i
  omega

theorem Wf.leaf {cs cs' : List (Nat × Ce)} {pend : List Nat} {i : Nat} {x : Ce} (h : Wf cs pend) (t : TkOf cs i (1, x) cs') (hx : LeafOk x) (ho : CeOk x) (ha : x.ab = 0) : Wf cs' pend := by
  have hc : ∀ j, con j (1, x) = 0 := fun j => by simp [con, hx.l, hx.r]
  have hp := pend_vac h i t.vac
  refine ⟨fun j hj => ?_, fun j => ?_, fun j => ?_, fun j => ?_, fun j hj => ?_, h.pos⟩
  · rw [t.cc] at hj
    rw [t.ce]
    split at hj
    · simp at hj
    · next e => rw [if_neg e]; exact h.zero j hj
  · rw [t.ce]
    split
    · exact ho
    · exact h.ok j
  · rw [t.ns, hc, t.ce]
    split
    · next e => rw [e, h.ab, hp.2]; exact ha.symm
    · exact h.ab j
  · rw [t.ce, t.cc]
    split
    · next e => rw [e]; simp only; omega
    · exact h.le j
  · rw [t.cc] at hj
    rw [t.ce]
    split
    · exact .inl hx
    · next e =>
      rw [if_neg e] at hj
      exact t.node (h.tr j hj)

theorem sides_ne {cs : List (Nat × Ce)} {c : Ce} (h : InnOk cs c) (h0 : c.l ≠ 0) : c.l ≠ c.r := fun e => by
  have h1 := h.sl
  have h2 := h.sr
  rw [← e] at h2
  rcases h1 with h1 | ⟨_, _, h1, _⟩
  · exact h0 h1
  · rcases h2 with h2 | ⟨_, _, h2, _⟩
    · exact h0 h2
    · rw [h1] at h2
      omega

theorem SideOk.lt {cs : List (Nat × Ce)} {h d : Nat} {b : Int} (s : SideOk cs d b h) : h - 1 < cs.length ∨ h = 0 := by
  rcases s with e | ⟨_, e, _⟩
  · exact .inr e
  · exact .inl (cc_lt e)

theorem Wf.inner {cs cs' : List (Nat × Ce)} {i : Nat} {x : Ce} (h : Wf cs []) (t : TkOf cs i (1, x) cs') (hx : InnOk cs x) (ho : CeOk x) (ha : x.ab = 0) (hl : x.l ≠ 0 → 0 < Go.Proofs.YtnnmfgnommbmkaaGreatDoor.own cs [] (x.l - 1)) (hr : x.r ≠ 0 → 0 < Go.Proofs.YtnnmfgnommbmkaaGreatDoor.own cs [] (x.r - 1)) : Wf (upA (upA cs' x.l) x.r) [] := by
  have a1 := upA_of cs' x.l
  have aa : AbOf cs' (upA (upA cs' x.l) x.r) := a1.trans (upA_of _ _)
  have bl : x.l - 1 < cs'.length ∨ x.l = 0 := by
    rcases hx.sl.lt with e | e
    · exact .inl (by rw [t.len]; omega)
    · exact .inr e
  have br : x.r - 1 < (upA cs' x.l).length ∨ x.r = 0 := by
    rcases hx.sr.lt with e | e
    · exact .inl (by rw [a1.len, t.len]; omega)
    · exact .inr e
  have hab : ∀ j, (ce (upA (upA cs' x.l) x.r) j).ab = (ce cs' j).ab + (if x.l = j + 1 then 1 else 0) + (if x.r = j + 1 then 1 else 0) := fun j => by rw [upA_ab _ _ _ br, upA_ab _ _ _ bl]
  have hc : ∀ j, con j (1, x) = (if x.l = j + 1 then 1 else 0) + (if x.r = j + 1 then 1 else 0) := fun j => by simp [con]
  have nl : x.l ≠ i + 1 := fun e => by
    have := hl (by omega)
    rw [e, Nat.add_sub_cancel] at this
    unfold Go.Proofs.YtnnmfgnommbmkaaGreatDoor.own at this
    rw [t.vac] at this
    omega
  have nr : x.r ≠ i + 1 := fun e => by
    have := hr (by omega)
    rw [e, Nat.add_sub_cancel] at this
    unfold Go.Proofs.YtnnmfgnommbmkaaGreatDoor.own at this
    rw [t.vac] at this
    omega
  have hvac := pend_vac h i t.vac
  have hns : ∀ j, ns (upA (upA cs' x.l) x.r) j = (ce (upA (upA cs' x.l) x.r) j).ab := fun j => by
    rw [aa.ns, t.ns, hab, hc, t.ce]
    by_cases e : j = i
    · rw [if_pos e, e, h.ab, hvac.2, if_neg nl, if_neg nr]
      simp only
      omega
    · rw [if_neg e, h.ab]
      omega
  have hle : ∀ j, (ce (upA (upA cs' x.l) x.r) j).ab + ([] : List Nat).count (j + 1) ≤ cc (upA (upA cs' x.l) x.r) j := fun j => by
    rw [hab, aa.cc, t.ce, t.cc, List.count_nil]
    by_cases e : j = i
    · rw [if_pos e, if_pos e, e, if_neg nl, if_neg nr, ha]
      simp
    · rw [if_neg e, if_neg e]
      have h1 := h.own j
      rw [List.count_nil] at h1
      by_cases e1 : x.l = j + 1
      · have h2 := hl (by omega)
        rw [e1, Nat.add_sub_cancel] at h2
        have h3 := sides_ne hx (by omega)
        rw [if_pos e1, if_neg (fun e2 => h3 (by omega))]
        omega
      · rw [if_neg e1]
        by_cases e2 : x.r = j + 1
        · have h2 := hr (by omega)
          rw [e2, Nat.add_sub_cancel] at h2
          rw [if_pos e2]
          omega
        · rw [if_neg e2]
          omega
  have keep2 : ∀ q, KeepS cs cs' q → KeepS cs (upA (upA cs' x.l) x.r) q := fun q k q0 => by
    obtain ⟨k1, k2⟩ := k q0
    exact ⟨by rw [aa.cc]; exact k1, k2.trans (aa.core _)⟩
  refine ⟨fun j hj => ?_, fun j => ?_, hns, hle, fun j hj => ?_, fun _ hh => by cases hh⟩
  · have h0 := hle j
    rw [hj] at h0
    rw [aa.cc, t.cc] at hj
    split at hj
    · simp at hj
    · next e =>
      have hk := aa.core j
      rw [t.ce, if_neg e, h.zero j hj] at hk
      rw [hk, show (ce (upA (upA cs' x.l) x.r) j).ab = 0 by omega]
      rfl
  · refine (aa.core j).ok ?_
    rw [t.ce]
    split
    · exact ho
    · exact h.ok j
  · have hk := aa.core j
    rw [aa.cc, t.cc] at hj
    rw [t.ce] at hk
    by_cases e : j = i
    · rw [if_pos e] at hk
      exact .inr ((hx.keep (keep2 _ (t.keep hx.sl)) (keep2 _ (t.keep hx.sr))).core hk)
    · rw [if_neg e] at hk hj
      rcases h.tr j hj with hn | hn
      · exact .inl (hn.core hk)
      · exact .inr ((hn.keep (keep2 _ (t.keep hn.sl)) (keep2 _ (t.keep hn.sr))).core hk)

theorem Wf.more {cs : List (Nat × Ce)} (h : Wf cs []) (i : Nat) (hi : 0 < cc cs i) : Wf (cs.set i (cc cs i + 1, ce cs i)) [] := h.recount i _ hi (by omega) (by have := h.le i; omega) (fun _ _ => Nat.le_refl _) (fun _ hh => by cases hh)
theorem Wf.less {cs : List (Nat × Ce)} (h : Wf cs []) (i : Nat) (hi : 0 < Go.Proofs.YtnnmfgnommbmkaaGreatDoor.own cs [] i) : Wf cs [i + 1] := by
  refine ⟨h.zero, h.ok, h.ab, fun j => ?_, h.tr, fun q hq => by simp at hq; omega⟩
  have h1 := h.own j
  rw [List.count_nil] at h1
  rw [List.count_singleton]
  by_cases e : i = j
  · subst e
    simp only [beq_self_eq_true, if_true]
    omega
  · have e2 : (i + 1 == j + 1) = false := by simp; exact e
    rw [if_neg (by rw [e2]; decide)]
    omega

end Go.Proofs.YtnnmfgnommbmkaaGreatDoor

namespace Go.Proofs.YtnnmfgnommbmkaaGreatDoor
set_option maxRecDepth 20000
open Go.RowKit

inductive Tre where
  | emp : Tre
  | lf (k b : List Int) : Tre
  | nd (d hl hr : Nat) (l r : Tre) : Tre

def Tre.ents : Tre → List Ent
  | .emp => []
  | .lf k b => [(k, b)]
  | .nd _ _ _ l r => l.ents ++ r.ents
def Tre.lvs : Nat → Tre → List Nat
  | _, .emp => []
  | h, .lf _ _ => [h]
  | _, .nd _ hl hr l r => l.lvs hl ++ r.lvs hr
def Tre.num : Tre → Nat
  | .emp => 0
  | .lf _ _ => 1
  | .nd _ _ _ l r => 1 + (l.num + r.num)

def IsT (cs : List (Nat × Ce)) : Nat → Tre → Prop
  | h, .emp => h = 0
  | h, .lf k b => 1 ≤ h ∧ 0 < cc cs (h - 1) ∧ (ce cs (h - 1)).kind = 1 ∧ (ce cs (h - 1)).key = k ∧ (ce cs (h - 1)).bs = b
  | h, .nd d hl hr l r => 1 ≤ h ∧ 0 < cc cs (h - 1) ∧ (ce cs (h - 1)).kind = 2 ∧ (ce cs (h - 1)).dp = d ∧ (ce cs (h - 1)).l = hl ∧ (ce cs (h - 1)).r = hr ∧ IsT cs hl l ∧ IsT cs hr r

theorem tree_le {cs : List (Nat × Ce)} {pend : List Nat} (w : Wf cs pend) : ∀ (n i : Nat), 0 < cc cs i → (ce cs i).kind = 2 → 256 - (ce cs i).dp ≤ n → ∃ T, IsT cs (i + 1) T
  | 0, i, hi, hk, hn => by
    rcases w.tr i hi with h | h
    · have := h.kind; omega
    · have := h.dp; omega
  | n + 1, i, hi, hk, hn => by
    rcases w.tr i hi with h | h
    · have := h.kind; omega
    · have side : ∀ b q, SideOk cs (ce cs i).dp b q → ∃ T, IsT cs q T := fun b q hq => by
        rcases hq with rfl | ⟨q1, q2, q3, q4⟩
        · exact ⟨.emp, rfl⟩
        · obtain ⟨j, rfl⟩ : ∃ j, q = j + 1 := ⟨q - 1, by omega⟩
          rw [Nat.add_sub_cancel] at q2 q3 q4
          rcases q4 with q4 | ⟨q4, q5⟩
          · exact ⟨.lf _ _, by omega, q2, q4, rfl, rfl⟩
          · exact tree_le w n j q2 q4 (by omega)
      obtain ⟨L, hL⟩ := side _ _ h.sl
      obtain ⟨R, hR⟩ := side _ _ h.sr
      exact ⟨.nd _ _ _ L R, by omega, hi, hk, rfl, rfl, rfl, hL, hR⟩

theorem tree_ex {cs : List (Nat × Ce)} {pend : List Nat} (w : Wf cs pend) (i : Nat) (hi : 0 < cc cs i) : ∃ T, IsT cs (i + 1) T := by
  rcases w.tr i hi with h | h
  · exact ⟨.lf _ _, by omega, hi, h.kind, rfl, rfl⟩
  · exact tree_le w 256 i hi h.kind (by omega)

theorem IsT.one {cs : List (Nat × Ce)} : ∀ {T U : Tre} {h : Nat}, IsT cs h T → IsT cs h U → T = U
  | .emp, .emp, _, _, _ => rfl
  | .emp, .lf _ _, h, a, b => by have : h = 0 := a; have := b.1; omega
  | .emp, .nd _ _ _ _ _, h, a, b => by have : h = 0 := a; have := b.1; omega
  | .lf _ _, .emp, h, a, b => by have : h = 0 := b; have := a.1; omega
  | .nd _ _ _ _ _, .emp, h, a, b => by have : h = 0 := b; have := a.1; omega
  | .lf _ _, .lf _ _, h, a, b => by
    obtain ⟨_, _, _, a1, a2⟩ := a
    obtain ⟨_, _, _, b1, b2⟩ := b
    rw [← a1, ← a2, ← b1, ← b2]
  | .lf _ _, .nd _ _ _ _ _, h, a, b => by have := a.2.2.1; have := b.2.2.1; omega
  | .nd _ _ _ _ _, .lf _ _, h, a, b => by have := a.2.2.1; have := b.2.2.1; omega
  | .nd _ _ _ l r, .nd _ _ _ l' r', h, a, b => by
    obtain ⟨_, _, _, a1, a2, a3, a4, a5⟩ := a
    obtain ⟨_, _, _, b1, b2, b3, b4, b5⟩ := b
    subst a1 a2 a3 b1 b2 b3
    rw [IsT.one a4 b4, IsT.one a5 b5]

structure TreeOk (cs : List (Nat × Ce)) (h : Nat) (T : Tre) : Prop where
  sz : (sdC cs h).sz = T.ents.length
  ent : ∀ e ∈ T.ents, Key e.1 ∧ e.2.length ≤ 1024 ∧ Bytes e.2
  share : ∀ d, h ≠ 0 → ((ce cs (h - 1)).kind = 2 → d ≤ (ce cs (h - 1)).dp) → ∀ e ∈ T.ents, ∀ j, j < d → kb e.1 j = kb (sdC cs h).key j
  dig : ∀ d, ((sdC cs h).kind = 2 → (sdC cs h).dp = d) → sdD cs h = rt (256 - d) d T.ents
  apart : T.ents.Pairwise fun a b => a.1 ≠ b.1
  keys : (T.lvs h).map (fun q => (ce cs (q - 1)).key) = T.ents.map (·.1)
  lvs : ∀ q ∈ T.lvs h, 1 ≤ q ∧ 0 < cc cs (q - 1)
  pos : h ≠ 0 → T.ents ≠ []

theorem sideOf_all (l : List Ent) (d : Nat) (b : Int) (h : ∀ e ∈ l, kbi e.1 d = b) : sideOf l d b = l := by
  unfold sideOf
  rw [List.filter_eq_self]
  intro e he
  simp [h e he]
theorem sideOf_none (l : List Ent) (d : Nat) (b c : Int) (h : ∀ e ∈ l, kbi e.1 d = c) (hc : c ≠ b) : sideOf l d b = [] := by
  unfold sideOf
  rw [List.filter_eq_nil_iff]
  intro e he
  simp [h e he, hc]
theorem sideOf_app (l m : List Ent) (d : Nat) (b : Int) : sideOf (l ++ m) d b = sideOf l d b ++ sideOf m d b := List.filter_append _ _

theorem tree_ok {cs : List (Nat × Ce)} {pend : List Nat} (w : Wf cs pend) : ∀ (T : Tre) (h : Nat), IsT cs h T → TreeOk cs h T
  | .emp, h, e => by
    have e : h = 0 := e
    subst e
    exact ⟨rfl, fun _ h => (by cases h), fun _ h => absurd rfl h, fun d _ => (rt_nil _ _).symm, List.Pairwise.nil, rfl, fun _ h => (by cases h), fun h => absurd rfl h⟩
  | .lf k b, h, ⟨h1, h2, h3, h4, h5⟩ => by
    obtain ⟨i, rfl⟩ : ∃ i, h = i + 1 := ⟨h - 1, by omega⟩
    rw [Nat.add_sub_cancel] at h2 h3 h4 h5
    have hs : sdC cs (i + 1) = ce cs i := rfl
    have hd : sdD cs (i + 1) = (ce cs i).dig := rfl
    rcases w.tr i h2 with hn | hn
    · refine ⟨by rw [hs, hn.sz]; rfl, fun e he => ?_, fun d _ _ e he j _ => ?_, fun d _ => ?_, List.pairwise_singleton _ _, ?_, fun q hq => ?_, fun _ e => by cases e⟩
      · obtain rfl : e = (k, b) := by simpa [Tre.ents] using he
        rw [← h4, ← h5]
        exact ⟨(w.ok i).hk, hn.len, hn.by_⟩
      · obtain rfl : e = (k, b) := by simpa [Tre.ents] using he
        rw [hs, h4]
      · rw [hd, hn.dig, h4, h5]
        exact (rt_one (256 - d) d (k, b)).symm
      · simp [Tre.lvs, Tre.ents, h4]
      · obtain rfl : q = i + 1 := by simpa [Tre.lvs] using hq
        exact ⟨by omega, h2⟩
    · have := hn.kind; omega
  | .nd d hl hr L R, h, ⟨h1, h2, h3, h4, h5, h6, h7, h8⟩ => by
    obtain ⟨i, rfl⟩ : ∃ i, h = i + 1 := ⟨h - 1, by omega⟩
    rw [Nat.add_sub_cancel] at h2 h3 h4 h5 h6
    have hs : sdC cs (i + 1) = ce cs i := rfl
    have hd : sdD cs (i + 1) = (ce cs i).dig := rfl
    have okL := tree_ok w L hl h7
    have okR := tree_ok w R hr h8
    rcases w.tr i h2 with hn | hn
    · have := hn.kind; omega
    have hdp := hn.dp
    have sl := hn.sl
    have sr := hn.sr
    have hsz := hn.sz
    have htwo := hn.two
    have hcom := hn.com
    have hkey := hn.key
    have hdig := hn.dig
    rw [h4] at hdp sl sr hcom hkey
    rw [h5] at sl hsz hcom hkey hdig
    rw [h6] at sr hsz hcom hkey hdig
    have shL : ∀ e ∈ L.ents, hl ≠ 0 ∧ ∀ j, j < d + 1 → kb e.1 j = kb (sdC cs hl).key j := fun e he => by
      by_cases e0 : hl = 0
      · subst e0
        have := okL.sz
        rw [show (sdC cs 0).sz = 0 from rfl] at this
        rw [List.eq_nil_of_length_eq_zero this.symm] at he
        cases he
      · refine ⟨e0, okL.share (d + 1) e0 (fun k => ?_) e he⟩
        rcases sl with e | ⟨_, _, _, e | ⟨_, e⟩⟩
        · exact absurd e e0
        · omega
        · omega
    have shR : ∀ e ∈ R.ents, hr ≠ 0 ∧ ∀ j, j < d + 1 → kb e.1 j = kb (sdC cs hr).key j := fun e he => by
      by_cases e0 : hr = 0
      · subst e0
        have := okR.sz
        rw [show (sdC cs 0).sz = 0 from rfl] at this
        rw [List.eq_nil_of_length_eq_zero this.symm] at he
        cases he
      · refine ⟨e0, okR.share (d + 1) e0 (fun k => ?_) e he⟩
        rcases sr with e | ⟨_, _, _, e | ⟨_, e⟩⟩
        · exact absurd e e0
        · omega
        · omega
    have bL : ∀ e ∈ L.ents, kb e.1 d = 0 := fun e he => by
      obtain ⟨e0, sh⟩ := shL e he
      rw [sh d (by omega)]
      rcases sl with e | ⟨_, _, e, _⟩
      · exact absurd e e0
      · unfold sdC
        rw [if_neg e0]
        exact e
    have bR : ∀ e ∈ R.ents, kb e.1 d = 1 := fun e he => by
      obtain ⟨e0, sh⟩ := shR e he
      rw [sh d (by omega)]
      rcases sr with e | ⟨_, _, e, _⟩
      · exact absurd e e0
      · unfold sdC
        rw [if_neg e0]
        exact e
    have hlen : (L.ents ++ R.ents).length = (ce cs i).sz := by rw [List.length_append, hsz, okL.sz, okR.sz]
    refine ⟨by rw [hs]; exact hlen.symm, fun e he => ?_, fun q _ hq e he j hj => ?_, fun q hq => ?_, ?_, ?_, fun q hq => ?_, fun _ e => ?_⟩
    · rcases List.mem_append.1 he with he | he
      · exact okL.ent e he
      · exact okR.ent e he
    · have hj2 : j < d := by
        have := hq (by rw [Nat.add_sub_cancel]; exact h3)
        rw [Nat.add_sub_cancel, h4] at this
        omega
      rw [hs, hkey.2 j (by omega), if_pos hj2]
      rcases List.mem_append.1 he with he | he
      · obtain ⟨e0, sh⟩ := shL e he
        rw [if_neg e0]
        exact sh j (by omega)
      · obtain ⟨e0, sh⟩ := shR e he
        by_cases el : hl = 0
        · rw [if_pos el]
          exact sh j (by omega)
        · rw [if_neg el, sh j (by omega)]
          exact ((hcom el e0).2.2 j (by omega)).symm
    · have hqd : d = q := by rw [← h4]; exact hq h3
      subst hqd
      rw [hd, hdig]
      obtain ⟨n, hn2⟩ : ∃ n, 256 - d = n + 1 := ⟨255 - d, by omega⟩
      show _ = rt (256 - d) d (L.ents ++ R.ents)
      rw [hn2, rt_more n d _ (by rw [hlen]; exact htwo), sideOf_app, sideOf_app]
      rw [sideOf_all L.ents d 0 (fun e he => by rw [kbi_in _ _ hdp]; exact bL e he), sideOf_none R.ents d 0 1 (fun e he => by rw [kbi_in _ _ hdp]; exact bR e he) (by omega)]
      rw [sideOf_none L.ents d 1 0 (fun e he => by rw [kbi_in _ _ hdp]; exact bL e he) (by omega), sideOf_all R.ents d 1 (fun e he => by rw [kbi_in _ _ hdp]; exact bR e he)]
      rw [List.append_nil, List.nil_append]
      have e1 := okL.dig (d + 1) (fun k => by
        unfold sdC at k ⊢
        rcases sl with e | ⟨e0, _, _, e | ⟨_, e⟩⟩
        · rw [if_pos e] at k; exact absurd k (by decide)
        · rw [if_neg (by omega)] at k; omega
        · rw [if_neg (by omega)]; exact e)
      have e2 := okR.dig (d + 1) (fun k => by
        unfold sdC at k ⊢
        rcases sr with e | ⟨e0, _, _, e | ⟨_, e⟩⟩
        · rw [if_pos e] at k; exact absurd k (by decide)
        · rw [if_neg (by omega)] at k; omega
        · rw [if_neg (by omega)]; exact e)
      rw [show 256 - (d + 1) = n by omega] at e1 e2
      rw [e1, e2]
    · show (L.ents ++ R.ents).Pairwise _
      rw [List.pairwise_append]
      refine ⟨okL.apart, okR.apart, fun a ha b hb e => ?_⟩
      have h1 := bL a ha
      have h2 := bR b hb
      rw [e, h2] at h1
      omega
    · show (L.lvs hl ++ R.lvs hr).map _ = (L.ents ++ R.ents).map _
      rw [List.map_append, List.map_append, okL.keys, okR.keys]
    · rcases List.mem_append.1 hq with hq | hq
      · exact okL.lvs q hq
      · exact okR.lvs q hq
    · have : (L.ents ++ R.ents).length = 0 := by rw [show L.ents ++ R.ents = [] from e]; rfl
      omega

theorem nodup_le : ∀ (n : Nat) (l : List Nat), l.Nodup → (∀ q ∈ l, q < n) → l.length ≤ n
  | 0, l, _, h => by
    match l, h with
    | [], _ => simp
    | q :: r, h => exact absurd (h q (by simp)) (by omega)
  | n + 1, l, hd, h => by
    have h1 := nodup_le n (l.erase n) (hd.erase n) (fun q hq => by
      have h2 := h q (List.mem_of_mem_erase hq)
      have h3 : q ≠ n := (List.Nodup.mem_erase_iff hd).1 hq |>.1
      omega)
    have h4 := List.length_erase (a := n) (l := l)
    split at h4 <;> omega

theorem TreeOk.few {cs : List (Nat × Ce)} {h : Nat} {T : Tre} (t : TreeOk cs h T) : T.ents.length ≤ cs.length := by
  have hl : (T.lvs h).length = T.ents.length := by
    have := congrArg List.length t.keys
    simpa using this
  have hn : (T.lvs h).Nodup := by
    have h1 : (T.ents.map (·.1)).Nodup := List.pairwise_map.2 t.apart
    rw [← t.keys] at h1
    unfold List.Nodup at h1
    rw [List.pairwise_map] at h1
    exact h1.imp (fun hne e => hne (by rw [e]))
  have := nodup_le cs.length ((T.lvs h).map (· - 1)) (List.pairwise_map.2 (by
    refine List.Pairwise.imp_of_mem ?_ hn
    intro a b ha hb hne e
    have h1 := (t.lvs a ha).1
    have h2 := (t.lvs b hb).1
    exact hne (by omega))) (fun q hq => by
      obtain ⟨a, ha, rfl⟩ := List.mem_map.1 hq
      exact cc_lt (t.lvs a ha).2)
  rw [List.length_map] at this
  omega

theorem Wf.size_le {cs : List (Nat × Ce)} {pend : List Nat} (w : Wf cs pend) (h : Nat) (hh : h = 0 ∨ 0 < cc cs (h - 1)) : (sdC cs h).sz ≤ cs.length := by
  by_cases e : h = 0
  · subst e
    show 0 ≤ _
    omega
  · obtain ⟨i, rfl⟩ : ∃ i, h = i + 1 := ⟨h - 1, by omega⟩
    rw [Nat.add_sub_cancel] at hh
    obtain ⟨T, hT⟩ := tree_ex w i (by omega)
    have t := tree_ok w T _ hT
    rw [t.sz]
    exact t.few

end Go.Proofs.YtnnmfgnommbmkaaGreatDoor

namespace Go.Proofs.YtnnmfgnommbmkaaGreatDoor
set_option maxRecDepth 20000
open Go.RowKit

def Tre.hs (K : List Int) : Nat → Tre → List Nat
  | _, .emp => []
  | _, .lf _ _ => []
  | h, .nd d hl hr l r => h :: (if kb K d = 1 then r.hs K hr else l.hs K hl)
def Tre.fin (K : List Int) : Nat → Tre → Nat
  | h, .emp => h
  | h, .lf _ _ => h
  | _, .nd d hl hr l r => if kb K d = 1 then r.fin K hr else l.fin K hl
def Tre.oth (K : List Int) : Tre → List Nat
  | .emp => []
  | .lf _ _ => []
  | .nd d hl hr l r => if kb K d = 1 then hl :: r.oth K else hr :: l.oth K
def Tre.efin (K : List Int) : Tre → List Ent
  | .emp => []
  | .lf k b => [(k, b)]
  | .nd d _ _ l r => if kb K d = 1 then r.efin K else l.efin K

theorem Tre.hs_oth (K : List Int) : ∀ (T : Tre) (h : Nat), (T.hs K h).length = (T.oth K).length
  | .emp, _ => rfl
  | .lf _ _, _ => rfl
  | .nd d hl hr l r, h => by
    have h1 := Tre.hs_oth K l hl
    have h2 := Tre.hs_oth K r hr
    simp only [Tre.hs, Tre.oth]
    split <;> simp [h1, h2]

structure NdOk (cs : List (Nat × Ce)) (d hl hr : Nat) (L R : Tre) : Prop where
  dp : d < 256
  bL : ∀ e ∈ L.ents, kb e.1 d = 0
  bR : ∀ e ∈ R.ents, kb e.1 d = 1
  two : 2 ≤ (L.ents ++ R.ents).length
  kl : (sdC cs hl).kind = 2 → (sdC cs hl).dp = d + 1
  kr : (sdC cs hr).kind = 2 → (sdC cs hr).dp = d + 1

theorem nd_ok {cs : List (Nat × Ce)} {pend : List Nat} (w : Wf cs pend) {d hl hr h : Nat} {L R : Tre} (hT : IsT cs h (.nd d hl hr L R)) : NdOk cs d hl hr L R := by
  obtain ⟨h1, h2, h3, h4, h5, h6, h7, h8⟩ := hT
  obtain ⟨i, rfl⟩ : ∃ i, h = i + 1 := ⟨h - 1, by omega⟩
  rw [Nat.add_sub_cancel] at h2 h3 h4 h5 h6
  have okL := tree_ok w L hl h7
  have okR := tree_ok w R hr h8
  rcases w.tr i h2 with hn | hn
  · have := hn.kind; omega
  have hdp := hn.dp
  have sl := hn.sl
  have sr := hn.sr
  have hsz := hn.sz
  have htwo := hn.two
  rw [h4] at hdp sl sr
  rw [h5] at sl hsz
  rw [h6] at sr hsz
  have side : ∀ (q : Nat) (b : Int) (U : Tre), TreeOk cs q U → SideOk cs d b q → (∀ e ∈ U.ents, kb e.1 d = b) ∧ ((sdC cs q).kind = 2 → (sdC cs q).dp = d + 1) := fun q b U ok s => by
    rcases s with rfl | ⟨q1, q2, q3, q4⟩
    · refine ⟨fun e he => ?_, fun k => absurd k (by show ¬ zc.kind = 2; decide)⟩
      have := ok.sz
      rw [show (sdC cs 0).sz = 0 from rfl] at this
      rw [List.eq_nil_of_length_eq_zero this.symm] at he
      cases he
    · have es : sdC cs q = ce cs (q - 1) := if_neg (by omega)
      refine ⟨fun e he => ?_, fun k => ?_⟩
      · rw [ok.share (d + 1) (by omega) (fun k => by rcases q4 with q4 | ⟨_, q4⟩ <;> omega) e he d (by omega), es]
        exact q3
      · rw [es] at k ⊢
        rcases q4 with q4 | ⟨_, q4⟩
        · omega
        · exact q4
  obtain ⟨a1, a2⟩ := side hl 0 L okL sl
  obtain ⟨b1, b2⟩ := side hr 1 R okR sr
  exact ⟨hdp, a1, b1, by rw [List.length_append, ← okL.sz, ← okR.sz, ← hsz]; exact htwo, a2, b2⟩

theorem NdOk.side0 {cs : List (Nat × Ce)} {d hl hr : Nat} {L R : Tre} (n : NdOk cs d hl hr L R) : sideOf (L.ents ++ R.ents) d 0 = L.ents := by
  rw [sideOf_app, sideOf_all L.ents d 0 (fun e he => by rw [kbi_in _ _ n.dp]; exact n.bL e he), sideOf_none R.ents d 0 1 (fun e he => by rw [kbi_in _ _ n.dp]; exact n.bR e he) (by omega), List.append_nil]
theorem NdOk.side1 {cs : List (Nat × Ce)} {d hl hr : Nat} {L R : Tre} (n : NdOk cs d hl hr L R) : sideOf (L.ents ++ R.ents) d 1 = R.ents := by
  rw [sideOf_app, sideOf_none L.ents d 1 0 (fun e he => by rw [kbi_in _ _ n.dp]; exact n.bL e he) (by omega), sideOf_all R.ents d 1 (fun e he => by rw [kbi_in _ _ n.dp]; exact n.bR e he), List.nil_append]

theorem sds_few (n d : Nat) (l : List Ent) (K : List Int) (h : l.length ≤ 1) : sds n d l K = [] ∧ rst n d l K = l := by
  cases n with
  | zero => exact ⟨rfl, rfl⟩
  | succ n => exact ⟨by rw [sds, if_pos h], by rw [rst, if_pos h]⟩

theorem way_tree {cs : List (Nat × Ce)} {pend : List Nat} (w : Wf cs pend) (K : List Int) : ∀ (T : Tre) (h d : Nat), IsT cs h T → ((sdC cs h).kind = 2 → (sdC cs h).dp = d) → d ≤ 256 → (T.oth K).map (sdD cs) = sds (256 - d) d T.ents K ∧ T.efin K = rst (256 - d) d T.ents K ∧ (T.oth K).length ≤ 256 - d
  | .emp, h, d, _, _, _ => by
    obtain ⟨e1, e2⟩ := sds_few (256 - d) d Tre.emp.ents K (by simp [Tre.ents])
    rw [e1, e2]
    exact ⟨rfl, rfl, Nat.zero_le _⟩
  | .lf k b, h, d, _, _, _ => by
    obtain ⟨e1, e2⟩ := sds_few (256 - d) d (Tre.lf k b).ents K (by simp [Tre.ents])
    rw [e1, e2]
    exact ⟨rfl, rfl, Nat.zero_le _⟩
  | .nd d hl hr L R, h, d', hT, hd, _ => by
    have n := nd_ok w hT
    obtain ⟨h1, h2, h3, h4, h5, h6, h7, h8⟩ := hT
    have es : sdC cs h = ce cs (h - 1) := if_neg (by omega)
    obtain rfl : d = d' := by
      rw [es] at hd
      rw [← h4]
      exact hd h3
    have okL := tree_ok w L hl h7
    have okR := tree_ok w R hr h8
    have hdp := n.dp
    obtain ⟨l1, l2, l3⟩ := way_tree w K L hl (d + 1) h7 n.kl (by omega)
    obtain ⟨r1, r2, r3⟩ := way_tree w K R hr (d + 1) h8 n.kr (by omega)
    have dl := okL.dig (d + 1) n.kl
    have dr := okR.dig (d + 1) n.kr
    obtain ⟨m, hm⟩ : ∃ m, 256 - d = m + 1 := ⟨255 - d, by omega⟩
    have hm2 : 256 - (d + 1) = m := by omega
    rw [hm2] at l1 l2 l3 r1 r2 r3 dl dr
    have htwo := n.two
    rw [hm]
    show (Tre.oth K (.nd d hl hr L R)).map (sdD cs) = sds (m + 1) d (L.ents ++ R.ents) K ∧ Tre.efin K (.nd d hl hr L R) = rst (m + 1) d (L.ents ++ R.ents) K ∧ (Tre.oth K (.nd d hl hr L R)).length ≤ m + 1
    rw [sds, rst, if_neg (by omega), if_neg (by omega)]
    rcases kb_two K d with q | q
    · rw [q, show (1 : Int) - 0 = 1 from rfl, n.side0, n.side1]
      simp only [Tre.oth, Tre.efin, q]
      refine ⟨?_, l2, ?_⟩
      · simp only [show ¬ ((0 : Int) = 1) by omega, if_false, List.map_cons]
        rw [l1, dr]
      · simp only [show ¬ ((0 : Int) = 1) by omega, if_false, List.length_cons]
        omega
    · rw [q, show (1 : Int) - 1 = 0 from rfl, n.side0, n.side1]
      simp only [Tre.oth, Tre.efin, q]
      refine ⟨?_, r2, ?_⟩
      · simp only [if_true, List.map_cons]
        rw [r1, dl]
      · simp only [if_true, List.length_cons]
        omega

theorem fin_is {cs : List (Nat × Ce)} (K : List Int) : ∀ (T : Tre) (h : Nat), IsT cs h T → (T.fin K h = 0 ∧ T.efin K = []) ∨ ∃ k b, T.efin K = [(k, b)] ∧ 1 ≤ T.fin K h ∧ 0 < cc cs (T.fin K h - 1) ∧ (ce cs (T.fin K h - 1)).kind = 1 ∧ (ce cs (T.fin K h - 1)).key = k ∧ (ce cs (T.fin K h - 1)).bs = b
  | .emp, h, e => .inl ⟨e, rfl⟩
  | .lf k b, h, ⟨h1, h2, h3, h4, h5⟩ => .inr ⟨k, b, rfl, h1, h2, h3, h4, h5⟩
  | .nd d hl hr L R, h, ⟨_, _, _, _, _, _, h7, h8⟩ => by
    have a := fin_is K L hl h7
    have b := fin_is K R hr h8
    simp only [Tre.fin, Tre.efin]
    by_cases q : kb K d = 1
    · simp only [q, if_true]
      exact b
    · simp only [q, if_false]
      exact a

theorem efin_mem (K : List Int) : ∀ (T : Tre), ∀ e ∈ T.efin K, e ∈ T.ents
  | .emp, e, he => by cases he
  | .lf k b, e, he => he
  | .nd d hl hr L R, e, he => by
    simp only [Tre.efin] at he
    split at he
    · exact List.mem_append_right _ (efin_mem K R e he)
    · exact List.mem_append_left _ (efin_mem K L e he)

end Go.Proofs.YtnnmfgnommbmkaaGreatDoor
