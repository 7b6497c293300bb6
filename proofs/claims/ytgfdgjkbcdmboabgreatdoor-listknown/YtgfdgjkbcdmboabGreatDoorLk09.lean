/- Stores by definition: the tree below a handle, its entries; that its digest is the root of these, that they have unlike keys, and that a size is how many there are. No program in this text. -/
import Derived.Test.YtgfdgjkbcdmboabGreatDoorLk08
import Derived.Test.YtgfdgjkbcdmboabGreatDoorLk06
namespace Go.Proofs.YtgfdgjkbcdmboabGreatDoor
set_option maxRecDepth 20000
open Go.RowKit

inductive Tre where
  | emp : Tre
  | lf (k b : List Int) : Tre
  | nd (d hl hr : Nat) (l r : Tre) : Tre

def Tre.ents : Tre → List Ent
  | .emp => []
  | .lf k b => [(k, b)]
  | .nd _ _ _ l r => l.ents ++ r.ents
/-- The handles of its leaves. -/
def Tre.lvs : Nat → Tre → List Nat
  | _, .emp => []
  | h, .lf _ _ => [h]
  | _, .nd _ hl hr l r => l.lvs hl ++ r.lvs hr
/-- How many nodes it has. -/
def Tre.num : Tre → Nat
  | .emp => 0
  | .lf _ _ => 1
  | .nd _ _ _ l r => 1 + (l.num + r.num)

/-- The tree below a handle. -/
def IsT (cs : List (Nat × Ce)) : Nat → Tre → Prop
  | h, .emp => h = 0
  | h, .lf k b => 1 ≤ h ∧ 0 < cc cs (h - 1) ∧ (ce cs (h - 1)).kind = 1 ∧ (ce cs (h - 1)).key = k ∧ (ce cs (h - 1)).bs = b
  | h, .nd d hl hr l r => 1 ≤ h ∧ 0 < cc cs (h - 1) ∧ (ce cs (h - 1)).kind = 2 ∧ (ce cs (h - 1)).dp = d ∧ (ce cs (h - 1)).l = hl ∧ (ce cs (h - 1)).r = hr ∧ IsT cs hl l ∧ IsT cs hr r

theorem tree_le {cs : List (Nat × Ce)} {pend : List Nat} (w : Wf cs pend) : ∀ (n i : Nat), 0 < cc cs i → (ce cs i).kind = 2 → 256 - (ce cs i).dp ≤ n → ∃ T, IsT cs (i + 1) T
  | 0, i, hi, hk, hn => by
    rcases w.tr i hi with h | h
    · have := h.kind; omega
    · have := h.dp; omega
  | n + 1, i, hi, hk, hn => by
    rcases w.tr i hi with h | h
    · have := h.kind; omega
    · have side : ∀ b q, SideOk cs (ce cs i).dp b q → ∃ T, IsT cs q T := fun b q hq => by
        rcases hq with rfl | ⟨q1, q2, q3, q4⟩
        · exact ⟨.emp, rfl⟩
        · obtain ⟨j, rfl⟩ : ∃ j, q = j + 1 := ⟨q - 1, by omega⟩
          rw [Nat.add_sub_cancel] at q2 q3 q4
          rcases q4 with q4 | ⟨q4, q5⟩
          · exact ⟨.lf _ _, by omega, q2, q4, rfl, rfl⟩
          · exact tree_le w n j q2 q4 (by omega)
      obtain ⟨L, hL⟩ := side _ _ h.sl
      obtain ⟨R, hR⟩ := side _ _ h.sr
      exact ⟨.nd _ _ _ L R, by omega, hi, hk, rfl, rfl, rfl, hL, hR⟩

theorem tree_ex {cs : List (Nat × Ce)} {pend : List Nat} (w : Wf cs pend) (i : Nat) (hi : 0 < cc cs i) : ∃ T, IsT cs (i + 1) T := by
  rcases w.tr i hi with h | h
  · exact ⟨.lf _ _, by omega, hi, h.kind, rfl, rfl⟩
  · exact tree_le w 256 i hi h.kind (by omega)

theorem IsT.one {cs : List (Nat × Ce)} : ∀ {T U : Tre} {h : Nat}, IsT cs h T → IsT cs h U → T = U
  | .emp, .emp, _, _, _ => rfl
  | .emp, .lf _ _, h, a, b => by have : h = 0 := a; have := b.1; omega
  | .emp, .nd _ _ _ _ _, h, a, b => by have : h = 0 := a; have := b.1; omega
  | .lf _ _, .emp, h, a, b => by have : h = 0 := b; have := a.1; omega
  | .nd _ _ _ _ _, .emp, h, a, b => by have : h = 0 := b; have := a.1; omega
  | .lf _ _, .lf _ _, h, a, b => by
    obtain ⟨_, _, _, a1, a2⟩ := a
    obtain ⟨_, _, _, b1, b2⟩ := b
    rw [← a1, ← a2, ← b1, ← b2]
  | .lf _ _, .nd _ _ _ _ _, h, a, b => by have := a.2.2.1; have := b.2.2.1; omega
  | .nd _ _ _ _ _, .lf _ _, h, a, b => by have := a.2.2.1; have := b.2.2.1; omega
  | .nd _ _ _ l r, .nd _ _ _ l' r', h, a, b => by
    obtain ⟨_, _, _, a1, a2, a3, a4, a5⟩ := a
    obtain ⟨_, _, _, b1, b2, b3, b4, b5⟩ := b
    subst a1 a2 a3 b1 b2 b3
    rw [IsT.one a4 b4, IsT.one a5 b5]

/-- What is known of the tree below a handle. -/
structure TreeOk (cs : List (Nat × Ce)) (h : Nat) (T : Tre) : Prop where
  sz : (sdC cs h).sz = T.ents.length
  ent : ∀ e ∈ T.ents, Key e.1 ∧ e.2.length ≤ 1024 ∧ Bytes e.2
  share : ∀ d, h ≠ 0 → ((ce cs (h - 1)).kind = 2 → d ≤ (ce cs (h - 1)).dp) → ∀ e ∈ T.ents, ∀ j, j < d → kb e.1 j = kb (sdC cs h).key j
  dig : ∀ d, ((sdC cs h).kind = 2 → (sdC cs h).dp = d) → sdD cs h = rt (256 - d) d T.ents
  apart : T.ents.Pairwise fun a b => a.1 ≠ b.1
  keys : (T.lvs h).map (fun q => (ce cs (q - 1)).key) = T.ents.map (·.1)
  lvs : ∀ q ∈ T.lvs h, 1 ≤ q ∧ 0 < cc cs (q - 1)
  pos : h ≠ 0 → T.ents ≠ []

theorem sideOf_all (l : List Ent) (d : Nat) (b : Int) (h : ∀ e ∈ l, kbi e.1 d = b) : sideOf l d b = l := by
  unfold sideOf
  rw [List.filter_eq_self]
  intro e he
  simp [h e he]
theorem sideOf_none (l : List Ent) (d : Nat) (b c : Int) (h : ∀ e ∈ l, kbi e.1 d = c) (hc : c ≠ b) : sideOf l d b = [] := by
  unfold sideOf
  rw [List.filter_eq_nil_iff]
  intro e he
  simp [h e he, hc]
theorem sideOf_app (l m : List Ent) (d : Nat) (b : Int) : sideOf (l ++ m) d b = sideOf l d b ++ sideOf m d b := List.filter_append _ _

theorem tree_ok {cs : List (Nat × Ce)} {pend : List Nat} (w : Wf cs pend) : ∀ (T : Tre) (h : Nat), IsT cs h T → TreeOk cs h T
  | .emp, h, e => by
    have e : h = 0 := e
    subst e
    exact ⟨rfl, fun _ h => (by cases h), fun _ h => absurd rfl h, fun d _ => (rt_nil _ _).symm, List.Pairwise.nil, rfl, fun _ h => (by cases h), fun h => absurd rfl h⟩
  | .lf k b, h, ⟨h1, h2, h3, h4, h5⟩ => by
    obtain ⟨i, rfl⟩ : ∃ i, h = i + 1 := ⟨h - 1, by omega⟩
    rw [Nat.add_sub_cancel] at h2 h3 h4 h5
    have hs : sdC cs (i + 1) = ce cs i := rfl
    have hd : sdD cs (i + 1) = (ce cs i).dig := rfl
    rcases w.tr i h2 with hn | hn
    · refine ⟨by rw [hs, hn.sz]; rfl, fun e he => ?_, fun d _ _ e he j _ => ?_, fun d _ => ?_, List.pairwise_singleton _ _, ?_, fun q hq => ?_, fun _ e => by cases e⟩
      · obtain rfl : e = (k, b) := by simpa [Tre.ents] using he
        rw [← h4, ← h5]
        exact ⟨(w.ok i).hk, hn.len, hn.by_⟩
      · obtain rfl : e = (k, b) := by simpa [Tre.ents] using he
        rw [hs, h4]
      · rw [hd, hn.dig, h4, h5]
        exact (rt_one (256 - d) d (k, b)).symm
      · simp [Tre.lvs, Tre.ents, h4]
      · obtain rfl : q = i + 1 := by simpa [Tre.lvs] using hq
        exact ⟨by omega, h2⟩
    · have := hn.kind; omega
  | .nd d hl hr L R, h, ⟨h1, h2, h3, h4, h5, h6, h7, h8⟩ => by
    obtain ⟨i, rfl⟩ : ∃ i, h = i + 1 := ⟨h - 1, by omega⟩
    rw [Nat.add_sub_cancel] at h2 h3 h4 h5 h6
    have hs : sdC cs (i + 1) = ce cs i := rfl
    have hd : sdD cs (i + 1) = (ce cs i).dig := rfl
    have okL := tree_ok w L hl h7
    have okR := tree_ok w R hr h8
    rcases w.tr i h2 with hn | hn
    · have := hn.kind; omega
    have hdp := hn.dp
    have sl := hn.sl
    have sr := hn.sr
    have hsz := hn.sz
    have htwo := hn.two
    have hcom := hn.com
    have hkey := hn.key
    have hdig := hn.dig
    rw [h4] at hdp sl sr hcom hkey
    rw [h5] at sl hsz hcom hkey hdig
    rw [h6] at sr hsz hcom hkey hdig
    have shL : ∀ e ∈ L.ents, hl ≠ 0 ∧ ∀ j, j < d + 1 → kb e.1 j = kb (sdC cs hl).key j := fun e he => by
      by_cases e0 : hl = 0
      · subst e0
        have := okL.sz
        rw [show (sdC cs 0).sz = 0 from rfl] at this
        rw [List.eq_nil_of_length_eq_zero this.symm] at he
        cases he
      · refine ⟨e0, okL.share (d + 1) e0 (fun k => ?_) e he⟩
        rcases sl with e | ⟨_, _, _, e | ⟨_, e⟩⟩
        · exact absurd e e0
        · omega
        · omega
    have shR : ∀ e ∈ R.ents, hr ≠ 0 ∧ ∀ j, j < d + 1 → kb e.1 j = kb (sdC cs hr).key j := fun e he => by
      by_cases e0 : hr = 0
      · subst e0
        have := okR.sz
        rw [show (sdC cs 0).sz = 0 from rfl] at this
        rw [List.eq_nil_of_length_eq_zero this.symm] at he
        cases he
      · refine ⟨e0, okR.share (d + 1) e0 (fun k => ?_) e he⟩
        rcases sr with e | ⟨_, _, _, e | ⟨_, e⟩⟩
        · exact absurd e e0
        · omega
        · omega
    have bL : ∀ e ∈ L.ents, kb e.1 d = 0 := fun e he => by
      obtain ⟨e0, sh⟩ := shL e he
      rw [sh d (by omega)]
      rcases sl with e | ⟨_, _, e, _⟩
      · exact absurd e e0
      · unfold sdC
        rw [if_neg e0]
        exact e
    have bR : ∀ e ∈ R.ents, kb e.1 d = 1 := fun e he => by
      obtain ⟨e0, sh⟩ := shR e he
      rw [sh d (by omega)]
      rcases sr with e | ⟨_, _, e, _⟩
      · exact absurd e e0
      · unfold sdC
        rw [if_neg e0]
        exact e
    have hlen : (L.ents ++ R.ents).length = (ce cs i).sz := by rw [List.length_append, hsz, okL.sz, okR.sz]
    refine ⟨by rw [hs]; exact hlen.symm, fun e he => ?_, fun q _ hq e he j hj => ?_, fun q hq => ?_, ?_, ?_, fun q hq => ?_, fun _ e => ?_⟩
    · rcases List.mem_append.1 he with he | he
      · exact okL.ent e he
      · exact okR.ent e he
    · have hj2 : j < d := by
        have := hq (by rw [Nat.add_sub_cancel]; exact h3)
        rw [Nat.add_sub_cancel, h4] at this
        omega
      rw [hs, hkey.2 j (by omega), if_pos hj2]
      rcases List.mem_append.1 he with he | he
      · obtain ⟨e0, sh⟩ := shL e he
        rw [if_neg e0]
        exact sh j (by omega)
      · obtain ⟨e0, sh⟩ := shR e he
        by_cases el : hl = 0
        · rw [if_pos el]
          exact sh j (by omega)
        · rw [if_neg el, sh j (by omega)]
          exact ((hcom el e0).2.2 j (by omega)).symm
    · have hqd : d = q := by rw [← h4]; exact hq h3
      subst hqd
      rw [hd, hdig]
      obtain ⟨n, hn2⟩ : ∃ n, 256 - d = n + 1 := ⟨255 - d, by omega⟩
      show _ = rt (256 - d) d (L.ents ++ R.ents)
      rw [hn2, rt_more n d _ (by rw [hlen]; exact htwo), sideOf_app, sideOf_app]
      rw [sideOf_all L.ents d 0 (fun e he => by rw [kbi_in _ _ hdp]; exact bL e he), sideOf_none R.ents d 0 1 (fun e he => by rw [kbi_in _ _ hdp]; exact bR e he) (by omega)]
      rw [sideOf_none L.ents d 1 0 (fun e he => by rw [kbi_in _ _ hdp]; exact bL e he) (by omega), sideOf_all R.ents d 1 (fun e he => by rw [kbi_in _ _ hdp]; exact bR e he)]
      rw [List.append_nil, List.nil_append]
      have e1 := okL.dig (d + 1) (fun k => by
        unfold sdC at k ⊢
        rcases sl with e | ⟨e0, _, _, e | ⟨_, e⟩⟩
        · rw [if_pos e] at k; exact absurd k (by decide)
        · rw [if_neg (by omega)] at k; omega
        · rw [if_neg (by omega)]; exact e)
      have e2 := okR.dig (d + 1) (fun k => by
        unfold sdC at k ⊢
        rcases sr with e | ⟨e0, _, _, e | ⟨_, e⟩⟩
        · rw [if_pos e] at k; exact absurd k (by decide)
        · rw [if_neg (by omega)] at k; omega
        · rw [if_neg (by omega)]; exact e)
      rw [show 256 - (d + 1) = n by omega] at e1 e2
      rw [e1, e2]
    · show (L.ents ++ R.ents).Pairwise _
      rw [List.pairwise_append]
      refine ⟨okL.apart, okR.apart, fun a ha b hb e => ?_⟩
      have h1 := bL a ha
      have h2 := bR b hb
      rw [e, h2] at h1
      omega
    · show (L.lvs hl ++ R.lvs hr).map _ = (L.ents ++ R.ents).map _
      rw [List.map_append, List.map_append, okL.keys, okR.keys]
    · rcases List.mem_append.1 hq with hq | hq
      · exact okL.lvs q hq
      · exact okR.lvs q hq
    · have : (L.ents ++ R.ents).length = 0 := by rw [show L.ents ++ R.ents = [] from e]; rfl
      omega

/-- As many numbers as there are places. -/
theorem nodup_le : ∀ (n : Nat) (l : List Nat), l.Nodup → (∀ q ∈ l, q < n) → l.length ≤ n
  | 0, l, _, h => by
    match l, h with
    | [], _ => simp
    | q :: r, h => exact absurd (h q (by simp)) (by omega)
  | n + 1, l, hd, h => by
    have h1 := nodup_le n (l.erase n) (hd.erase n) (fun q hq => by
      have h2 := h q (List.mem_of_mem_erase hq)
      have h3 : q ≠ n := (List.Nodup.mem_erase_iff hd).1 hq |>.1
      omega)
    have h4 := List.length_erase (a := n) (l := l)
    split at h4 <;> omega

theorem TreeOk.few {cs : List (Nat × Ce)} {h : Nat} {T : Tre} (t : TreeOk cs h T) : T.ents.length ≤ cs.length := by
  have hl : (T.lvs h).length = T.ents.length := by
    have := congrArg List.length t.keys
    simpa using this
  have hn : (T.lvs h).Nodup := by
    have h1 : (T.ents.map (·.1)).Nodup := List.pairwise_map.2 t.apart
    rw [← t.keys] at h1
    unfold List.Nodup at h1
    rw [List.pairwise_map] at h1
    exact h1.imp (fun hne e => hne (by rw [e]))
  have := nodup_le cs.length ((T.lvs h).map (· - 1)) (List.pairwise_map.2 (by
    refine List.Pairwise.imp_of_mem ?_ hn
    intro a b ha hb hne e
    have h1 := (t.lvs a ha).1
    have h2 := (t.lvs b hb).1
    exact hne (by omega))) (fun q hq => by
      obtain ⟨a, ha, rfl⟩ := List.mem_map.1 hq
      exact cc_lt (t.lvs a ha).2)
  rw [List.length_map] at this
  omega

/-- A size is at most how many slots there are. -/
theorem Wf.size_le {cs : List (Nat × Ce)} {pend : List Nat} (w : Wf cs pend) (h : Nat) (hh : h = 0 ∨ 0 < cc cs (h - 1)) : (sdC cs h).sz ≤ cs.length := by
  by_cases e : h = 0
  · subst e
    show 0 ≤ _
    omega
  · obtain ⟨i, rfl⟩ : ∃ i, h = i + 1 := ⟨h - 1, by omega⟩
    rw [Nat.add_sub_cancel] at hh
    obtain ⟨T, hT⟩ := tree_ex w i (by omega)
    have t := tree_ok w T _ hT
    rw [t.sz]
    exact t.few

end Go.Proofs.YtgfdgjkbcdmboabGreatDoor

/- The way of a key down a store's tree: its handles, its end, its other sides; that these are the way among the tree's entries, in whatever order. No program in this text. -/
namespace Go.Proofs.YtgfdgjkbcdmboabGreatDoor
set_option maxRecDepth 20000
open Go.RowKit

/-- The inner nodes of a key's way. -/
def Tre.hs (K : List Int) : Nat → Tre → List Nat
  | _, .emp => []
  | _, .lf _ _ => []
  | h, .nd d hl hr l r => h :: (if kb K d = 1 then r.hs K hr else l.hs K hl)
/-- With what it ends. -/
def Tre.fin (K : List Int) : Nat → Tre → Nat
  | h, .emp => h
  | h, .lf _ _ => h
  | _, .nd d hl hr l r => if kb K d = 1 then r.fin K hr else l.fin K hl
/-- The other sides. -/
def Tre.oth (K : List Int) : Tre → List Nat
  | .emp => []
  | .lf _ _ => []
  | .nd d hl hr l r => if kb K d = 1 then hl :: r.oth K else hr :: l.oth K
/-- The entry with which it ends. -/
def Tre.efin (K : List Int) : Tre → List Ent
  | .emp => []
  | .lf k b => [(k, b)]
  | .nd d _ _ l r => if kb K d = 1 then r.efin K else l.efin K

theorem Tre.hs_oth (K : List Int) : ∀ (T : Tre) (h : Nat), (T.hs K h).length = (T.oth K).length
  | .emp, _ => rfl
  | .lf _ _, _ => rfl
  | .nd d hl hr l r, h => by
    have h1 := Tre.hs_oth K l hl
    have h2 := Tre.hs_oth K r hr
    simp only [Tre.hs, Tre.oth]
    split <;> simp [h1, h2]

structure NdOk (cs : List (Nat × Ce)) (d hl hr : Nat) (L R : Tre) : Prop where
  dp : d < 256
  bL : ∀ e ∈ L.ents, kb e.1 d = 0
  bR : ∀ e ∈ R.ents, kb e.1 d = 1
  two : 2 ≤ (L.ents ++ R.ents).length
  kl : (sdC cs hl).kind = 2 → (sdC cs hl).dp = d + 1
  kr : (sdC cs hr).kind = 2 → (sdC cs hr).dp = d + 1

theorem nd_ok {cs : List (Nat × Ce)} {pend : List Nat} (w : Wf cs pend) {d hl hr h : Nat} {L R : Tre} (hT : IsT cs h (.nd d hl hr L R)) : NdOk cs d hl hr L R := by
  obtain ⟨h1, h2, h3, h4, h5, h6, h7, h8⟩ := hT
  obtain ⟨i, rfl⟩ : ∃ i, h = i + 1 := ⟨h - 1, by omega⟩
  rw [Nat.add_sub_cancel] at h2 h3 h4 h5 h6
  have okL := tree_ok w L hl h7
  have okR := tree_ok w R hr h8
  rcases w.tr i h2 with hn | hn
  · have := hn.kind; omega
  have hdp := hn.dp
  have sl := hn.sl
  have sr := hn.sr
  have hsz := hn.sz
  have htwo := hn.two
  rw [h4] at hdp sl sr
  rw [h5] at sl hsz
  rw [h6] at sr hsz
  have side : ∀ (q : Nat) (b : Int) (U : Tre), TreeOk cs q U → SideOk cs d b q → (∀ e ∈ U.ents, kb e.1 d = b) ∧ ((sdC cs q).kind = 2 → (sdC cs q).dp = d + 1) := fun q b U ok s => by
    rcases s with rfl | ⟨q1, q2, q3, q4⟩
    · refine ⟨fun e he => ?_, fun k => absurd k (by show ¬ zc.kind = 2; decide)⟩
      have := ok.sz
      rw [show (sdC cs 0).sz = 0 from rfl] at this
      rw [List.eq_nil_of_length_eq_zero this.symm] at he
      cases he
    · have es : sdC cs q = ce cs (q - 1) := if_neg (by omega)
      refine ⟨fun e he => ?_, fun k => ?_⟩
      · rw [ok.share (d + 1) (by omega) (fun k => by rcases q4 with q4 | ⟨_, q4⟩ <;> omega) e he d (by omega), es]
        exact q3
      · rw [es] at k ⊢
        rcases q4 with q4 | ⟨_, q4⟩
        · omega
        · exact q4
  obtain ⟨a1, a2⟩ := side hl 0 L okL sl
  obtain ⟨b1, b2⟩ := side hr 1 R okR sr
  exact ⟨hdp, a1, b1, by rw [List.length_append, ← okL.sz, ← okR.sz, ← hsz]; exact htwo, a2, b2⟩

theorem NdOk.side0 {cs : List (Nat × Ce)} {d hl hr : Nat} {L R : Tre} (n : NdOk cs d hl hr L R) : sideOf (L.ents ++ R.ents) d 0 = L.ents := by
  rw [sideOf_app, sideOf_all L.ents d 0 (fun e he => by rw [kbi_in _ _ n.dp]; exact n.bL e he), sideOf_none R.ents d 0 1 (fun e he => by rw [kbi_in _ _ n.dp]; exact n.bR e he) (by omega), List.append_nil]
theorem NdOk.side1 {cs : List (Nat × Ce)} {d hl hr : Nat} {L R : Tre} (n : NdOk cs d hl hr L R) : sideOf (L.ents ++ R.ents) d 1 = R.ents := by
  rw [sideOf_app, sideOf_none L.ents d 1 0 (fun e he => by rw [kbi_in _ _ n.dp]; exact n.bL e he) (by omega), sideOf_all R.ents d 1 (fun e he => by rw [kbi_in _ _ n.dp]; exact n.bR e he), List.nil_append]

theorem sds_few (n d : Nat) (l : List Ent) (K : List Int) (h : l.length ≤ 1) : sds n d l K = [] ∧ rst n d l K = l := by
  cases n with
  | zero => exact ⟨rfl, rfl⟩
  | succ n => exact ⟨by rw [sds, if_pos h], by rw [rst, if_pos h]⟩

/-- A key's way in the tree is its way among the tree's entries. -/
theorem way_tree {cs : List (Nat × Ce)} {pend : List Nat} (w : Wf cs pend) (K : List Int) : ∀ (T : Tre) (h d : Nat), IsT cs h T → ((sdC cs h).kind = 2 → (sdC cs h).dp = d) → d ≤ 256 → (T.oth K).map (sdD cs) = sds (256 - d) d T.ents K ∧ T.efin K = rst (256 - d) d T.ents K ∧ (T.oth K).length ≤ 256 - d
  | .emp, h, d, _, _, _ => by
    obtain ⟨e1, e2⟩ := sds_few (256 - d) d Tre.emp.ents K (by simp [Tre.ents])
    rw [e1, e2]
    exact ⟨rfl, rfl, Nat.zero_le _⟩
  | .lf k b, h, d, _, _, _ => by
    obtain ⟨e1, e2⟩ := sds_few (256 - d) d (Tre.lf k b).ents K (by simp [Tre.ents])
    rw [e1, e2]
    exact ⟨rfl, rfl, Nat.zero_le _⟩
  | .nd d hl hr L R, h, d', hT, hd, _ => by
    have n := nd_ok w hT
    obtain ⟨h1, h2, h3, h4, h5, h6, h7, h8⟩ := hT
    have es : sdC cs h = ce cs (h - 1) := if_neg (by omega)
    obtain rfl : d = d' := by
      rw [es] at hd
      rw [← h4]
      exact hd h3
    have okL := tree_ok w L hl h7
    have okR := tree_ok w R hr h8
    have hdp := n.dp
    obtain ⟨l1, l2, l3⟩ := way_tree w K L hl (d + 1) h7 n.kl (by omega)
    obtain ⟨r1, r2, r3⟩ := way_tree w K R hr (d + 1) h8 n.kr (by omega)
    have dl := okL.dig (d + 1) n.kl
    have dr := okR.dig (d + 1) n.kr
    obtain ⟨m, hm⟩ : ∃ m, 256 - d = m + 1 := ⟨255 - d, by omega⟩
    have hm2 : 256 - (d + 1) = m := by omega
    rw [hm2] at l1 l2 l3 r1 r2 r3 dl dr
    have htwo := n.two
    rw [hm]
    show (Tre.oth K (.nd d hl hr L R)).map (sdD cs) = sds (m + 1) d (L.ents ++ R.ents) K ∧ Tre.efin K (.nd d hl hr L R) = rst (m + 1) d (L.ents ++ R.ents) K ∧ (Tre.oth K (.nd d hl hr L R)).length ≤ m + 1
    rw [sds, rst, if_neg (by omega), if_neg (by omega)]
    rcases kb_two K d with q | q
    · rw [q, show (1 : Int) - 0 = 1 from rfl, n.side0, n.side1]
      simp only [Tre.oth, Tre.efin, q]
      refine ⟨?_, l2, ?_⟩
      · simp only [show ¬ ((0 : Int) = 1) by omega, if_false, List.map_cons]
        rw [l1, dr]
      · simp only [show ¬ ((0 : Int) = 1) by omega, if_false, List.length_cons]
        omega
    · rw [q, show (1 : Int) - 1 = 0 from rfl, n.side0, n.side1]
      simp only [Tre.oth, Tre.efin, q]
      refine ⟨?_, r2, ?_⟩
      · simp only [if_true, List.map_cons]
        rw [r1, dl]
      · simp only [if_true, List.length_cons]
        omega

/-- Ways hang on no order. -/
theorem way_perm (K : List Int) : ∀ (n d : Nat) (l m : List Ent), l.Perm m → sds n d l K = sds n d m K ∧ (rst n d l K).Perm (rst n d m K)
  | 0, _, _, _, h => ⟨rfl, h⟩
  | n + 1, d, l, m, h => by
    have hl := h.length_eq
    have hs : ∀ c, (sideOf l d c).Perm (sideOf m d c) := fun c => h.filter _
    obtain ⟨i1, i2⟩ := way_perm K n (d + 1) _ _ (hs (kb K d))
    rw [sds, sds, rst, rst]
    by_cases q : l.length ≤ 1
    · rw [if_pos q, if_pos q, if_pos (by omega), if_pos (by omega)]
      exact ⟨rfl, h⟩
    · rw [if_neg q, if_neg q, if_neg (by omega), if_neg (by omega), i1, rt_perm n (d + 1) _ _ (hs _)]
      exact ⟨rfl, i2⟩

/-- What the way ends with. -/
theorem fin_is {cs : List (Nat × Ce)} (K : List Int) : ∀ (T : Tre) (h : Nat), IsT cs h T → (T.fin K h = 0 ∧ T.efin K = []) ∨ ∃ k b, T.efin K = [(k, b)] ∧ 1 ≤ T.fin K h ∧ 0 < cc cs (T.fin K h - 1) ∧ (ce cs (T.fin K h - 1)).kind = 1 ∧ (ce cs (T.fin K h - 1)).key = k ∧ (ce cs (T.fin K h - 1)).bs = b
  | .emp, h, e => .inl ⟨e, rfl⟩
  | .lf k b, h, ⟨h1, h2, h3, h4, h5⟩ => .inr ⟨k, b, rfl, h1, h2, h3, h4, h5⟩
  | .nd d hl hr L R, h, ⟨_, _, _, _, _, _, h7, h8⟩ => by
    have a := fin_is K L hl h7
    have b := fin_is K R hr h8
    simp only [Tre.fin, Tre.efin]
    by_cases q : kb K d = 1
    · simp only [q, if_true]
      exact b
    · simp only [q, if_false]
      exact a

/-- An entry with that key is the one with which the way ends. -/
theorem efin_key {cs : List (Nat × Ce)} {pend : List Nat} (w : Wf cs pend) (K : List Int) : ∀ (T : Tre) (h : Nat), IsT cs h T → ∀ e ∈ T.ents, e.1 = K → T.efin K = [e]
  | .emp, _, _, e, he, _ => by cases he
  | .lf k b, _, _, e, he, _ => by
    obtain rfl : e = (k, b) := by simpa [Tre.ents] using he
    rfl
  | .nd d hl hr L R, h, hT, e, he, hK => by
    have n := nd_ok w hT
    obtain ⟨_, _, _, _, _, _, h7, h8⟩ := hT
    simp only [Tre.efin]
    rcases List.mem_append.1 he with he | he
    · have := n.bL e he
      rw [hK] at this
      rw [if_neg (by omega)]
      exact efin_key w K L hl h7 e he hK
    · have := n.bR e he
      rw [hK] at this
      rw [if_pos this]
      exact efin_key w K R hr h8 e he hK
theorem efin_mem (K : List Int) : ∀ (T : Tre), ∀ e ∈ T.efin K, e ∈ T.ents
  | .emp, e, he => by cases he
  | .lf k b, e, he => he
  | .nd d hl hr L R, e, he => by
    simp only [Tre.efin] at he
    split at he
    · exact List.mem_append_right _ (efin_mem K R e he)
    · exact List.mem_append_left _ (efin_mem K L e he)

end Go.Proofs.YtgfdgjkbcdmboabGreatDoor

/- list by definition: how many entries of a tree stand ahead of a key, told on the way down; that a tree's entries rise; a stack of trees. No program in this text. -/
namespace Go.Proofs.YtgfdgjkbcdmboabGreatDoor
set_option maxRecDepth 20000
open Go.RowKit

/-- How many of a tree's entries are ahead of a key, told on its way down. -/
def Tre.rk (K : List Int) : Tre → Nat
  | .emp => 0
  | .lf k _ => if cmp k K < 0 then 1 else 0
  | .nd d _ _ l r => if kb K d = 1 then l.ents.length + r.rk K else l.rk K

/-- How many entries of a list are ahead of a key. -/
def ahd (K : List Int) (l : List Ent) : Nat := (l.filter fun e => decide (cmp e.1 K < 0)).length

theorem ahd_app (K : List Int) (a b : List Ent) : ahd K (a ++ b) = ahd K a + ahd K b := by
  unfold ahd
  rw [List.filter_append, List.length_append]
theorem ahd_all (K : List Int) (l : List Ent) (h : ∀ e ∈ l, cmp e.1 K < 0) : ahd K l = l.length := by
  unfold ahd
  rw [List.filter_eq_self.2 (fun e he => by simpa using h e he)]
theorem ahd_none (K : List Int) (l : List Ent) (h : ∀ e ∈ l, ¬ cmp e.1 K < 0) : ahd K l = 0 := by
  unfold ahd
  rw [List.filter_eq_nil_iff.2 (fun e he => by simpa using h e he)]
  rfl
theorem ahd_le (K : List Int) (l : List Ent) : ahd K l ≤ l.length := List.length_filter_le _ _
theorem ahd_perm (K : List Int) {l m : List Ent} (h : l.Perm m) : ahd K l = ahd K m := (h.filter _).length_eq

theorem rk_ahd {cs : List (Nat × Ce)} {pend : List Nat} (w : Wf cs pend) (K : List Int) (hK : Key K) : ∀ (T : Tre) (h d : Nat), IsT cs h T → ((sdC cs h).kind = 2 → (sdC cs h).dp = d) → (∀ e ∈ T.ents, ∀ j, j < d → kb e.1 j = kb K j) → T.rk K = ahd K T.ents
  | .emp, _, _, _, _, _ => rfl
  | .lf k b, _, _, _, _, _ => by
    show (if cmp k K < 0 then 1 else 0) = ahd K [(k, b)]
    unfold ahd
    by_cases q : cmp k K < 0
    · simp [q]
    · simp [q]
  | .nd d hl hr L R, h, d', hT, hd, hs => by
    have n := nd_ok w hT
    have ok := tree_ok w _ h hT
    obtain ⟨h1, h2, h3, h4, h5, h6, h7, h8⟩ := hT
    have es : sdC cs h = ce cs (h - 1) := if_neg (by omega)
    obtain rfl : d = d' := by
      rw [es] at hd
      rw [← h4]
      exact hd h3
    have inL : ∀ e ∈ L.ents, e ∈ (Tre.nd d hl hr L R).ents := fun e he => List.mem_append.2 (.inl he)
    have inR : ∀ e ∈ R.ents, e ∈ (Tre.nd d hl hr L R).ents := fun e he => List.mem_append.2 (.inr he)
    have hdp := n.dp
    show (if kb K d = 1 then L.ents.length + R.rk K else L.rk K) = ahd K (L.ents ++ R.ents)
    rw [ahd_app]
    rcases kb_two K d with q | q
    · have e1 := rk_ahd w K hK L hl (d + 1) h7 n.kl (fun e he j hj => by
        rcases Nat.lt_or_ge j d with hj' | hj'
        · exact hs e (inL e he) j hj'
        · obtain rfl : j = d := by omega
          rw [n.bL e he, q])
      have e2 := ahd_none K R.ents (fun e he => by
        have ha : Ahead K e.1 := ⟨d, hdp, fun j hj => (hs e (inR e he) j hj).symm, q, n.bR e he⟩
        exact fun hc => ha.not ((cmp_lt (ok.ent e (inR e he)).1 hK).1 hc))
      rw [if_neg (by omega), e1, e2, Nat.add_zero]
    · have e1 := rk_ahd w K hK R hr (d + 1) h8 n.kr (fun e he j hj => by
        rcases Nat.lt_or_ge j d with hj' | hj'
        · exact hs e (inR e he) j hj'
        · obtain rfl : j = d := by omega
          rw [n.bR e he, q])
      have e2 := ahd_all K L.ents (fun e he => (cmp_lt (ok.ent e (inL e he)).1 hK).2 ⟨d, hdp, fun j hj => hs e (inL e he) j hj, n.bL e he, q⟩)
      rw [if_pos q, e1, e2]

/-- A root's rank. -/
theorem rk_root {cs : List (Nat × Ce)} {pend : List Nat} (w : Wf cs pend) (K : List Int) (hK : Key K) {T : Tre} {h : Nat} (hT : IsT cs h T) (hd : (sdC cs h).kind = 2 → (sdC cs h).dp = 0) : T.rk K = ahd K T.ents := rk_ahd w K hK T h 0 hT hd (fun _ _ j hj => by omega)

/-- A tree's entries rise. -/
theorem ents_rise {cs : List (Nat × Ce)} {pend : List Nat} (w : Wf cs pend) : ∀ (T : Tre) (h : Nat), IsT cs h T → T.ents.Pairwise fun a b => Ahead a.1 b.1
  | .emp, _, _ => List.Pairwise.nil
  | .lf _ _, _, _ => List.pairwise_singleton _ _
  | .nd d hl hr L R, h, hT => by
    have n := nd_ok w hT
    have ok := tree_ok w _ h hT
    obtain ⟨h1, h2, h3, h4, h5, h6, h7, h8⟩ := hT
    have hdp := n.dp
    have sh := ok.share d (by omega) (fun _ => by omega)
    refine List.pairwise_append.2 ⟨ents_rise w L hl h7, ents_rise w R hr h8, fun a ha b hb => ⟨d, hdp, fun j hj => ?_, n.bL a ha, n.bR b hb⟩⟩
    rw [sh a (List.mem_append.2 (.inl ha)) j hj, sh b (List.mem_append.2 (.inr hb)) j hj]

theorem Tre.lvs_len : ∀ (T : Tre) (h : Nat), (T.lvs h).length = T.ents.length
  | .emp, _ => rfl
  | .lf _ _, _ => rfl
  | .nd _ hl hr L R, _ => by
    show (L.lvs hl ++ R.lvs hr).length = (L.ents ++ R.ents).length
    rw [List.length_append, List.length_append, Tre.lvs_len L hl, Tre.lvs_len R hr]

/-- The leaves of a stack of trees, the first one's first. -/
def stL (ps : List (Nat × Tre)) : List Nat := ps.flatMap fun p => p.2.lvs p.1

theorem stL_cons (h : Nat) (T : Tre) (ps : List (Nat × Tre)) : stL ((h, T) :: ps) = T.lvs h ++ stL ps := rfl
theorem stL_nd (h d hl hr : Nat) (L R : Tre) (ps : List (Nat × Tre)) : stL ((h, .nd d hl hr L R) :: ps) = stL ((hl, L) :: (hr, R) :: ps) := by
  simp [stL, Tre.lvs]
/-- A tree that is left out whole. -/
theorem stL_skip (h : Nat) (T : Tre) (ps : List (Nat × Tre)) (o : Nat) (ho : T.ents.length ≤ o) : (stL ((h, T) :: ps)).drop o = (stL ps).drop (o - T.ents.length) := by
  have e := Tre.lvs_len T h
  rw [stL_cons, List.drop_append, List.drop_eq_nil_of_le (by omega), List.nil_append, e]

/-- In a list that rises those ahead of a key stand first. -/
theorem ahd_cut (K : List Int) (hK : Key K) : ∀ (l : List Ent), (∀ e ∈ l, Key e.1) → (l.Pairwise fun a b => Ahead a.1 b.1) → l.drop (ahd K l) = l.filter (fun e => !decide (cmp e.1 K < 0))
  | [], _, _ => rfl
  | e :: l, hk, hp => by
    rw [List.pairwise_cons] at hp
    have hke := hk e (by simp)
    have hkl : ∀ x ∈ l, Key x.1 := fun x hx => hk x (by simp [hx])
    by_cases q : cmp e.1 K < 0
    · have : ahd K (e :: l) = ahd K l + 1 := by simp [ahd, q]
      rw [this, List.drop_succ_cons, ahd_cut K hK l hkl hp.2]
      simp [q]
    · have hall : ∀ x ∈ l, ¬ cmp x.1 K < 0 := fun x hx hc => by
        have a1 := hp.1 x hx
        have a2 := (cmp_lt (hkl x hx) hK).1 hc
        exact q ((cmp_lt hke hK).2 (a1.trans a2))
      have : ahd K (e :: l) = 0 := ahd_none K _ (fun x hx => by
        rcases List.mem_cons.1 hx with rfl | hx
        · exact q
        · exact hall x hx)
      rw [this, List.drop_zero, List.filter_eq_self.2 (fun x hx => by
        rcases List.mem_cons.1 hx with rfl | hx
        · simpa using q
        · simpa using hall x hx)]

end Go.Proofs.YtgfdgjkbcdmboabGreatDoor
