/- How many nodes a tree has: by its entries; and that a store of which callers hold one root alone has just that root's nodes. No program in this text. -/
import Derived.Test.YtpbmpmiicdpehabDoorDk24
import Derived.Test.YtpbmpmiicdpehabDoorDk30
namespace Go.Proofs.YtpbmpmiicdpehabDoor
set_option maxRecDepth 20000
open Go.RowKit

/-- How many nodes the tree of these entries has. -/
def nN : Nat → Nat → List Ent → Nat
  | 0, _, l => l.length
  | n + 1, d, l => if l.length ≤ 1 then l.length else 1 + (nN n (d + 1) (sideOf l d 0) + nN n (d + 1) (sideOf l d 1))

theorem nN_perm : ∀ (n d : Nat) (l m : List Ent), l.Perm m → nN n d l = nN n d m
  | 0, _, _, _, h => h.length_eq
  | n + 1, d, l, m, h => by
    have hl := h.length_eq
    have hs : ∀ c, (sideOf l d c).Perm (sideOf m d c) := fun c => h.filter _
    rw [nN, nN, hl, nN_perm n (d + 1) _ _ (hs 0), nN_perm n (d + 1) _ _ (hs 1)]
theorem nN_few (n d : Nat) (l : List Ent) (h : l.length ≤ 1) : nN n d l = l.length := by
  cases n with
  | zero => rfl
  | succ n => rw [nN, if_pos h]

theorem num_is {cs : List (Nat × Ce)} {pend : List Nat} (w : Wf cs pend) : ∀ (T : Tre) (h d : Nat), IsT cs h T → ((sdC cs h).kind = 2 → (sdC cs h).dp = d) → T.num = nN (256 - d) d T.ents
  | .emp, h, d, _, _ => by rw [nN_few _ _ _ (by simp [Tre.ents])]; rfl
  | .lf k b, h, d, _, _ => by rw [nN_few _ _ _ (by simp [Tre.ents])]; rfl
  | .nd d hl hr L R, h, d', hT, hd => by
    have n := nd_ok w hT
    obtain ⟨h1, h2, h3, h4, h5, h6, h7, h8⟩ := hT
    have es : sdC cs h = ce cs (h - 1) := if_neg (by omega)
    obtain rfl : d = d' := by
      rw [es] at hd
      rw [← h4]
      exact hd h3
    have hdp := n.dp
    have a1 := num_is w L hl (d + 1) h7 n.kl
    have a2 := num_is w R hr (d + 1) h8 n.kr
    have htwo := n.two
    obtain ⟨m, hm⟩ : ∃ m, 256 - d = m + 1 := ⟨255 - d, by omega⟩
    have hm2 : 256 - (d + 1) = m := by omega
    rw [hm2] at a1 a2
    show 1 + (L.num + R.num) = nN (256 - d) d (L.ents ++ R.ents)
    rw [hm, nN, if_neg (by omega), n.side0, n.side1, a1, a2]

/-- The handles of its nodes. -/
def Tre.hds : Nat → Tre → List Nat
  | _, .emp => []
  | h, .lf _ _ => [h]
  | h, .nd _ hl hr l r => h :: (l.hds hl ++ r.hds hr)
theorem Tre.hds_len : ∀ (T : Tre) (h : Nat), (T.hds h).length = T.num
  | .emp, _ => rfl
  | .lf _ _, _ => rfl
  | .nd _ hl hr l r, _ => by
    simp only [Tre.hds, Tre.num, List.length_cons, List.length_append, Tre.hds_len l hl, Tre.hds_len r hr]
    omega
theorem hds_occ {cs : List (Nat × Ce)} : ∀ (T : Tre) (h : Nat), IsT cs h T → ∀ q ∈ T.hds h, 1 ≤ q ∧ 0 < cc cs (q - 1)
  | .emp, _, _, q, hq => by cases hq
  | .lf _ _, h, hT, q, hq => by
    obtain rfl : q = h := by simpa [Tre.hds] using hq
    exact ⟨hT.1, hT.2.1⟩
  | .nd _ hl hr L R, h, hT, q, hq => by
    obtain ⟨h1, h2, _, _, _, _, h7, h8⟩ := hT
    rcases List.mem_cons.1 hq with e | hq
    · subst e
      exact ⟨h1, h2⟩
    · rcases List.mem_append.1 hq with hq | hq
      · exact hds_occ L hl h7 q hq
      · exact hds_occ R hr h8 q hq
theorem hds_top {T : Tre} {h : Nat} {cs : List (Nat × Ce)} (hT : IsT cs h T) (h0 : h ≠ 0) : h ∈ T.hds h := by
  match T, hT with
  | .emp, e => exact absurd e h0
  | .lf _ _, _ => simp [Tre.hds]
  | .nd _ _ _ _ _, _ => simp [Tre.hds]
/-- The tree below one of them; an inner node there is no higher. -/
theorem hds_sub {cs : List (Nat × Ce)} {pend : List Nat} (w : Wf cs pend) : ∀ (T : Tre) (h : Nat), IsT cs h T → ∀ q ∈ T.hds h, ∃ U, IsT cs q U ∧ (∀ e ∈ U.ents, e ∈ T.ents) ∧ ((ce cs (q - 1)).l ≠ 0 → (ce cs (q - 1)).l ∈ T.hds h) ∧ ((ce cs (q - 1)).r ≠ 0 → (ce cs (q - 1)).r ∈ T.hds h) ∧ (q ≠ h → (ce cs (q - 1)).kind = 2 → (ce cs (h - 1)).kind = 2 ∧ (ce cs (h - 1)).dp < (ce cs (q - 1)).dp)
  | .emp, _, _, q, hq => by cases hq
  | .lf k b, h, hT, q, hq => by
    obtain rfl : q = h := by simpa [Tre.hds] using hq
    have hk := hT.2.2.1
    have hn := w.tr (q - 1) hT.2.1
    rcases hn with hn | hn
    · exact ⟨_, hT, fun e he => he, fun h => absurd hn.l h, fun h => absurd hn.r h, fun h => absurd rfl h⟩
    · have := hn.kind; omega
  | .nd d hl hr L R, h, hT, q, hq => by
    have hT0 := hT
    have n := nd_ok w hT
    obtain ⟨h1, h2, h3, h4, h5, h6, h7, h8⟩ := hT
    rcases List.mem_cons.1 hq with e | hq
    · subst e
      refine ⟨_, hT0, fun e he => he, fun h => ?_, fun h => ?_, fun h => absurd rfl h⟩
      · rw [h5] at h ⊢
        exact List.mem_cons_of_mem _ (List.mem_append_left _ (hds_top h7 h))
      · rw [h6] at h ⊢
        exact List.mem_cons_of_mem _ (List.mem_append_right _ (hds_top h8 h))
    · have deep : ∀ (x : Nat) (X : Tre), IsT cs x X → q ∈ X.hds x → ((sdC cs x).kind = 2 → (sdC cs x).dp = d + 1) → ((q ≠ x → (ce cs (q - 1)).kind = 2 → (ce cs (x - 1)).kind = 2 ∧ (ce cs (x - 1)).dp < (ce cs (q - 1)).dp)) → (ce cs (q - 1)).kind = 2 → (ce cs (h - 1)).dp < (ce cs (q - 1)).dp := fun x X hX hq hk hd k2 => by
        have hx0 : x ≠ 0 := fun e => by
          subst e
          rw [IsT.one hX (show IsT cs 0 .emp from rfl)] at hq
          cases hq
        have es : sdC cs x = ce cs (x - 1) := if_neg hx0
        rw [es] at hk
        by_cases e : q = x
        · subst e
          have := hk k2
          omega
        · obtain ⟨a, b⟩ := hd e k2
          have := hk a
          omega
      rcases List.mem_append.1 hq with hq | hq
      · obtain ⟨U, u1, u2, u3, u4, u5⟩ := hds_sub w L hl h7 q hq
        exact ⟨U, u1, fun e he => List.mem_append_left _ (u2 e he), fun h => List.mem_cons_of_mem _ (List.mem_append_left _ (u3 h)), fun h => List.mem_cons_of_mem _ (List.mem_append_left _ (u4 h)), fun _ k2 => ⟨h3, deep hl L h7 hq n.kl u5 k2⟩⟩
      · obtain ⟨U, u1, u2, u3, u4, u5⟩ := hds_sub w R hr h8 q hq
        exact ⟨U, u1, fun e he => List.mem_append_right _ (u2 e he), fun h => List.mem_cons_of_mem _ (List.mem_append_right _ (u3 h)), fun h => List.mem_cons_of_mem _ (List.mem_append_right _ (u4 h)), fun _ k2 => ⟨h3, deep hr R h8 hq n.kr u5 k2⟩⟩

theorem hds_nodup {cs : List (Nat × Ce)} {pend : List Nat} (w : Wf cs pend) : ∀ (T : Tre) (h : Nat), IsT cs h T → (T.hds h).Nodup
  | .emp, _, _ => List.nodup_nil
  | .lf _ _, h, _ => by simp [Tre.hds]
  | .nd d hl hr L R, h, hT => by
    have n := nd_ok w hT
    obtain ⟨h1, h2, h3, h4, h5, h6, h7, h8⟩ := hT
    have a1 := hds_nodup w L hl h7
    have a2 := hds_nodup w R hr h8
    have ne : ∀ (x : Nat) (X : Tre), IsT cs x X → ((sdC cs x).kind = 2 → (sdC cs x).dp = d + 1) → h ∉ X.hds x := fun x X hX hk hq => by
      obtain ⟨U, u1, _, _, _, u5⟩ := hds_sub w X x hX h hq
      have hx0 : x ≠ 0 := fun e => by
        subst e
        rw [IsT.one hX (show IsT cs 0 .emp from rfl)] at hq
        cases hq
      have es : sdC cs x = ce cs (x - 1) := if_neg hx0
      rw [es] at hk
      by_cases e : h = x
      · subst e
        have := hk h3
        omega
      · obtain ⟨a, b⟩ := u5 e h3
        have := hk a
        omega
    show (h :: (L.hds hl ++ R.hds hr)).Nodup
    rw [List.nodup_cons]
    refine ⟨fun hq => ?_, ?_⟩
    · rcases List.mem_append.1 hq with hq | hq
      · exact ne hl L h7 n.kl hq
      · exact ne hr R h8 n.kr hq
    · rw [List.nodup_append]
      refine ⟨a1, a2, fun x hx y hy e => ?_⟩
      subst e
      obtain ⟨U, u1, u2, _⟩ := hds_sub w L hl h7 x hx
      obtain ⟨V, v1, v2, _⟩ := hds_sub w R hr h8 x hy
      have := u1.one v1
      subst this
      have hx0 : x ≠ 0 := by have := (hds_occ L hl h7 x hx).1; omega
      obtain ⟨e, he⟩ := List.exists_mem_of_ne_nil _ ((tree_ok w U x u1).pos hx0)
      have b1 := n.bL e (u2 e he)
      have b2 := n.bR e (v2 e he)
      omega

theorem slots_nodup (ps : List Pl) : (slotsOf ps).Nodup := by
  unfold slotsOf slotsK
  unfold List.Nodup
  rw [List.pairwise_map]
  exact (List.nodup_range.filter _).imp (fun h e => h (by omega))

/-- Where callers hold but this root there are but its nodes. -/
theorem noc_root {cs : List (Nat × Ce)} (w : Wf cs []) {T : Tre} {h : Nat} (hT : IsT cs h T) (ho : ∀ i, own cs [] i ≠ 0 → h = i + 1) : noc cs = T.num := by
  have up : ∀ i, 0 < cc cs i → i + 1 ≠ h → ∃ j, 0 < cc cs j ∧ (ce cs j).kind = 2 ∧ ((ce cs j).l = i + 1 ∨ (ce cs j).r = i + 1) ∧ ((ce cs i).kind = 2 → (ce cs i).dp = (ce cs j).dp + 1) := fun i hi hne => by
    have h1 := w.own i
    have h0 : own cs [] i = 0 := by
      apply Classical.byContradiction
      intro q
      exact hne (ho i q).symm
    rw [List.count_nil, h0] at h1
    have h2 := w.ab i
    obtain ⟨j, hj, hs⟩ := ns_ex cs i (by omega)
    rcases w.tr j hj with hn | hn
    · have := hn.l; have := hn.r; omega
    · refine ⟨j, hj, hn.kind, hs, fun hk => ?_⟩
      rcases hs with e | e
      · rcases hn.sl with q | ⟨_, _, _, q⟩
        · omega
        · rw [e, Nat.add_sub_cancel] at q
          omega
      · rcases hn.sr with q | ⟨_, _, _, q⟩
        · omega
        · rw [e, Nat.add_sub_cancel] at q
          omega
  have side : ∀ i j, j + 1 ∈ T.hds h → ((ce cs j).l = i + 1 ∨ (ce cs j).r = i + 1) → i + 1 ∈ T.hds h := fun i j hj hs => by
    obtain ⟨_, _, _, u3, u4, _⟩ := hds_sub w T h hT (j + 1) hj
    rw [Nat.add_sub_cancel] at u3 u4
    rcases hs with e | e
    · rw [e] at u3
      exact u3 (by omega)
    · rw [e] at u4
      exact u4 (by omega)
  have in2 : ∀ d i, 0 < cc cs i → (ce cs i).kind = 2 → (ce cs i).dp = d → i + 1 ∈ T.hds h := by
    intro d
    induction d using Nat.strongRecOn with
    | _ d ih =>
      intro i hi hk hd
      by_cases e : i + 1 = h
      · rw [e]
        exact hds_top hT (by omega)
      · obtain ⟨j, hj, hjk, hs, hjd⟩ := up i hi e
        have := hjd hk
        exact side i j (ih (ce cs j).dp (by omega) j hj hjk rfl) hs
  have all : ∀ i, 0 < cc cs i → i + 1 ∈ T.hds h := fun i hi => by
    by_cases e : i + 1 = h
    · rw [e]
      exact hds_top hT (by omega)
    · obtain ⟨j, hj, hjk, hs, _⟩ := up i hi e
      exact side i j (in2 _ j hj hjk rfl) hs
  have hp : (slotsOf (cs.map pl)).Perm (T.hds h) := by
    rw [List.perm_ext_iff_of_nodup (slots_nodup _) (hds_nodup w T h hT)]
    intro q
    rw [slots_mem]
    constructor
    · rintro ⟨i, rfl, hi⟩
      rw [cnt_pl] at hi
      exact all i hi
    · intro hq
      obtain ⟨h1, h2⟩ := hds_occ T h hT q hq
      exact ⟨q - 1, by omega, by rw [cnt_pl]; exact h2⟩
  rw [noc, ← slots_length, hp.length_eq, Tre.hds_len]

end Go.Proofs.YtpbmpmiicdpehabDoor

/- A root at hand, and what Drop and Cost make of it: what the laws ask. -/
namespace Go.Proofs.YtpbmpmiicdpehabDoor
set_option maxRecDepth 20000
open Go.RowKit

/-- Is there an entry of this key? -/
def hasK (E : List Ent) (K : List Int) : Bool := E.any fun e => e.1 == K
/-- A map's entries without this key's. -/
def dlE (E : List Ent) (K : List Int) : List Ent := E.filter fun e => !(e.1 == K)

theorem hasK_perm {E F : List Ent} (h : E.Perm F) (K : List Int) : hasK E K = hasK F K := by
  unfold hasK
  rw [Bool.eq_iff_iff, List.any_eq_true, List.any_eq_true]
  constructor
  · rintro ⟨e, h1, h2⟩
    exact ⟨e, h.mem_iff.1 h1, h2⟩
  · rintro ⟨e, h1, h2⟩
    exact ⟨e, h.mem_iff.2 h1, h2⟩
theorem dlE_perm {E F : List Ent} (h : E.Perm F) (K : List Int) : (dlE E K).Perm (dlE F K) := h.filter _
theorem dE_perm {E F : List Ent} (h : E.Perm F) (K : List Int) (d : Nat) : (dE E K d).Perm (dE F K d) := h.filter _

theorem hasK_fin {cs : List (Nat × Ce)} {pend : List Nat} (w : Wf cs pend) {T : Tre} {h : Nat} (hT : IsT cs h T) (K : List Int) : (fnd (T.efin K) K).2 = hasK T.ents K := by
  rw [Bool.eq_iff_iff]
  constructor
  · intro q
    obtain ⟨b, hb⟩ := fnd_yes q
    exact List.any_eq_true.2 ⟨(K, b), efin_mem K T _ hb, by simp⟩
  · intro q
    obtain ⟨e, h1, h2⟩ := List.any_eq_true.1 q
    have hk : e.1 = K := by simpa using h2
    rw [efin_key w K T h hT e h1 hk]
    simp [fnd, hk]
theorem dl_none {E : List Ent} {K : List Int} (h : hasK E K = false) : dlE E K = E := by
  unfold dlE
  rw [List.filter_eq_self]
  intro e he
  have : ¬ (e.1 == K) = true := fun q => by
    have : hasK E K = true := List.any_eq_true.2 ⟨e, he, q⟩
    rw [h] at this
    cases this
  simpa using this

/-- How many nodes Drop makes. -/
def dcostN (cs : List (Nat × Ce)) (T : Tre) (K : List Int) : Nat := if hasK T.ents K then shN cs K T else 0

theorem dcost_le {cs : List (Nat × Ce)} {pend : List Nat} (w : Wf cs pend) {T : Tre} {h : Nat} (hT : IsT cs h T) (hd : (sdC cs h).kind = 2 → (sdC cs h).dp = 0) (K : List Int) : dcostN cs T K ≤ 256 ∧ (hasK T.ents K = false → dcostN cs T K = 0) ∧ (hasK T.ents K = true → ∀ d, d < dcostN cs T K ↔ 2 ≤ (dE T.ents K d).length ∧ d < 256) := by
  unfold dcostN
  by_cases q : hasK T.ents K = true
  · have hy := hasK_fin w hT K
    rw [q] at hy
    obtain ⟨b, hb⟩ : ∃ b, T.efin K = [(K, b)] := by
      obtain ⟨b, hb⟩ := fnd_yes hy
      exact ⟨b, efin_key w K T h hT (K, b) (efin_mem K T _ hb) rfl⟩
    have ok := des_ex w K hT hd hb
    have ok2 : DesOk cs T.ents K (shF cs K T) (shS cs K T) := ok
    rw [if_pos q]
    refine ⟨by rw [← shS_len]; exact ok2.len, fun e => (by rw [q] at e; cases e), fun _ d => by rw [← shS_len]; exact ok2.count d⟩
  · rw [if_neg q]
    exact ⟨by omega, fun _ => rfl, fun e => absurd e q⟩

/-- What Drop makes of a store. -/
structure DaIs (cs : List (Nat × Ce)) (fr : List Nat) (T : Tre) (h : Nat) (K : List Int) (top : Nat) (cs' : List (Nat × Ce)) (fr' : List Nat) (T' : Tre) : Prop where
  rt : Rt cs' top T'
  ents : T'.ents.Perm (dlE T.ents K)
  own : ∀ i, own cs' [] i + (if h = i + 1 then 1 else 0) = own cs [] i + (if top = i + 1 then 1 else 0)
  keep : ∀ x X, IsT cs x X → (x = 0 ∨ 0 < cc cs' (x - 1)) → IsT cs' x X
  noc : noc cs' ≤ noc cs + dcostN cs T K
  same : hasK T.ents K = false → top = h ∧ cs' = cs ∧ fr' = fr
  len : cs'.length ≤ cs.length + dcostN cs T K
  to : hasK T.ents K = true → DropTo cs fr h K (shF cs K T) (shS cs K T) top cs' fr'

def DaPost (w0 : World) (S : List Nat) (g gs room : Nat) (cs : List (Nat × Ce)) (fr : List Nat) (T : Tre) (h : Nat) (K : List Int) (e : Ending) (w' : World) : Prop :=
  ∃ (top : Nat) (cs' : List (Nat × Ce)) (fr' : List Nat) (T' : Tre), e = .returned (.tuple #[.int .i64 (top : Int), .bool (hasK T.ents K), .int .i64 0]) ∧ DaIs cs fr T h K top cs' fr' T' ∧ Hs w0 S w' g gs room cs' fr'

theorem Rt.ahand {cs : List (Nat × Ce)} {h : Nat} {T : Tre} (r : Rt cs h T) : vAh true (cot cs h) (cat cs h) h = 0 := by
  have := r.refuse (n := 0) (by omega)
  unfold vRf at this
  rw [if_pos rfl, if_neg (by omega)] at this
  exact this

theorem drop_any {w0 w : World} {S : List Nat} {g gs room : Nat} {cs : List (Nat × Ce)} {fr : List Nat} (H : Hs w0 S w g gs room cs fr) {h : Nat} {T : Tre} (r : Rt cs h T) {K : List Int} (hK : Key K) (hL : Kq S w0 Laid) (hb : ∀ i, own cs [] i ≤ 1000000) (hf : noc cs + 258 ≤ room) :
    Calls Tryd.prog 5 #[.pointer (some ⟨g, 0, none⟩), .int .i64 (h : Int), .agg (B K)] w (DaPost w0 S g gs room cs fr T h K) := by
  have hy := hasK_fin H.2 r.tree K
  by_cases q : hasK T.ents K = true
  · rw [q] at hy
    obtain ⟨b, hb1⟩ := fnd_yes hy
    have hb2 := efin_key H.2 K T h r.tree (K, b) (efin_mem K T _ hb1) rfl
    have h0 := efin_some r.tree hb2
    have ok : DesOk cs T.ents K (shF cs K T) (shS cs K T) := des_ex H.2 K r.tree r.dp hb2
    obtain ⟨_, hr1, hr2⟩ := H.sizes
    have hct : ∀ i, cc cs i + 258 < 1073741824 := fun i => by
      have := H.2.ccLe i 1000000 (hb i)
      omega
    refine (drop_new H h T r.tree K hK hL r.ahand r.root (r.own.resolve_left h0) (by omega) hf hy ok hct).mono ?_
    rintro e w' ⟨top, cs', fr', rfl, to, p, hh⟩
    obtain ⟨U, u1, u2⟩ := p.tree
    have hc : dcostN cs T K = (shS cs K T).length := by rw [dcostN, if_pos q, shS_len]
    refine ⟨top, cs', fr', U, by rw [q], ⟨⟨u1, p.dp, ?_⟩, u2, p.own, p.keep, by rw [hc]; exact p.noc, fun e => (by rw [q] at e; cases e), by rw [hc]; exact p.len, fun _ => to⟩, hh⟩
    by_cases t0 : top = 0
    · exact .inl t0
    · refine .inr ?_
      have h1 := p.own (top - 1)
      have := p.ne
      rw [if_pos (show top = top - 1 + 1 by omega), if_neg (by omega)] at h1
      omega
  · have q : hasK T.ents K = false := by simpa using q
    rw [q] at hy
    refine (drop_none H h T r.tree K hK r.ahand r.root hf hy).mono ?_
    rintro e w' ⟨rfl, b⟩
    exact ⟨h, cs, fr, T, by rw [q], ⟨r, by rw [dl_none q], fun _ => rfl, fun x X hX _ => hX, Nat.le_add_right _ _, fun _ => ⟨rfl, rfl, rfl⟩, Nat.le_add_right _ _, fun e => (by rw [q] at e; cases e)⟩, H.grow b⟩

theorem dcost_any {w0 w : World} {S : List Nat} {g gs room : Nat} {cs : List (Nat × Ce)} {fr : List Nat} (H : Hs w0 S w g gs room cs fr) {h : Nat} {T : Tre} (r : Rt cs h T) {K : List Int} (hK : Key K) :
    Calls Tryd.prog 8 #[.pointer (some ⟨g, 0, none⟩), .int .i64 (h : Int), .agg (B K)] w fun e w' => e = .returned (.tuple #[.int .i64 (dcostN cs T K : Int), .int .i64 0]) ∧ Below w.heap.size w w' := by
  have hy := hasK_fin H.2 r.tree K
  unfold dcostN
  by_cases q : hasK T.ents K = true
  · rw [if_pos q]
    rw [q] at hy
    exact dcost_new H h T r.tree K hK r.ahand r.root hy
  · have q2 : hasK T.ents K = false := by simpa using q
    rw [if_neg q]
    rw [q2] at hy
    exact dcost_none H h T r.tree K hK r.ahand r.root hy

theorem drop_no_room {w0 w : World} {S : List Nat} {g gs room : Nat} {cs : List (Nat × Ce)} {fr : List Nat} (H : Hs w0 S w g gs room cs fr) {h : Nat} {T : Tre} (r : Rt cs h T) (K : List Int) (hf : room < noc cs + 258) :
    Calls Tryd.prog 5 #[.pointer (some ⟨g, 0, none⟩), .int .i64 (h : Int), .agg (B K)] w fun e w' => e = .returned (.tuple #[.int .i64 0, .bool false, .int .i64 9]) ∧ Below w.heap.size w w' := drop_full H (h : Int) K r.ahand hf

/-- A root that callers hold alone: how many nodes there are. -/
theorem Rt.only {cs : List (Nat × Ce)} {h : Nat} {T : Tre} (r : Rt cs h T) (W : Wf cs []) (ho : ∀ i, Go.Proofs.YtpbmpmiicdpehabDoor.own cs [] i ≠ 0 → h = i + 1) : noc cs = nN 256 0 T.ents := by
  rw [noc_root W r.tree ho, num_is W T h 0 r.tree r.dp]

end Go.Proofs.YtpbmpmiicdpehabDoor

/- The document's examples that the laws of put ask (awake), as a contract. -/
namespace Go.Proofs.YtpbmpmiicdpehabDoor
set_option maxRecDepth 20000
open Go.RowKit

theorem built_z : Tryd.prog.built 23 [] = some (B z32) := by kernel_rfl

/-- A root with one entry is its leaf. -/
theorem Rt.one {cs : List (Nat × Ce)} {h : Nat} {T : Tre} (r : Rt cs h T) (W : Wf cs []) {e : Ent} (he : T.ents.Perm [e]) : T = .lf e.1 e.2 := by
  have hl := he.length_eq
  match T, r.tree with
  | .emp, _ => simp [Tre.ents] at hl
  | .lf k b, _ =>
    have := he.mem_iff.1 (show ((k, b) : Ent) ∈ [(k, b)] by simp)
    rw [← List.mem_singleton.1 this]
  | .nd d hl' hr L R, hT =>
    have h2 := (nd_ok W hT).two
    rw [show (Tre.nd d hl' hr L R).ents = L.ents ++ R.ents from rfl] at hl
    simp only [List.length_singleton] at hl
    omega

/-- A first entry. -/
theorem pa_first {fr fr' : List Nat} {K bs : List Int} {ss : List Nat} {top : Nat} {cs cs' : List (Nat × Ce)} {T' : Tre} (hss : BesIs K .emp 0 ss) (p : PaIs cs fr .emp 0 K bs ss top cs' fr' T') : T'.ents.Perm [(K, bs)] ∧ noc cs' = noc cs + 1 ∧ cs'.length ≤ cs.length + 1 := by
  have e : ss = [] := by
    rcases hss with ⟨_, e⟩ | ⟨b, e, _⟩ | ⟨k, b, c, e, _⟩
    · exact e
    · cases e
    · cases e
  subst e
  exact ⟨p.ents, p.just (.inl rfl), p.len⟩

/-- A second one that parts at the depth c. -/
theorem pa_second {fr fr' : List Nat} {K bs k b : List Int} {h c : Nat} {ss : List Nat} {top : Nat} {cs cs' : List (Nat × Ce)} {T' : Tre} (hc : IsCommon K k c) (hne : k ≠ K) (hss : BesIs K (.lf k b) h ss) (p : PaIs cs fr (.lf k b) h K bs ss top cs' fr' T') : T'.ents.Perm [(K, bs), (k, b)] ∧ noc cs' = noc cs + (c + 2) ∧ costN (.lf k b) K bs ss = c + 2 ∧ cs'.length ≤ cs.length + (c + 2) := by
  have e : ss = besX [] c h := by
    rcases hss with ⟨e, _⟩ | ⟨b', e, _⟩ | ⟨k', b', c', e1, _, e3, _, _, e6⟩
    · cases e
    · injection e with e _
      injection e with e _
      exact absurd e hne
    · injection e1 with e1 _
      injection e1 with e1 _
      subst e1
      rw [e6, hc.one e3]
      rfl
  have hl : ss.length = c + 1 := by rw [e, besX_len _ _ _ (by simp)]
  have hcst : costN (.lf k b) K bs ss = c + 2 := by
    have : ¬ ((Tre.lf k b).efin K = [(K, bs)]) := fun q => by
      injection q with q _
      injection q with q _
      exact hne q
    rw [costN, if_neg this, hl]
    omega
  refine ⟨?_, ?_, hcst, by rw [← hcst]; exact p.len⟩
  · have := p.ents
    unfold upE at this
    rw [show (Tre.lf k b).ents = [(k, b)] from rfl, List.filter_cons, if_pos (by simpa using hne), List.filter_nil] at this
    exact this
  · rw [← hcst]
    exact p.just (.inr (by rw [e]; simp [besX]))

/-- Behind the first Put, and behind the second. -/
def Aw (w : World) (S : List Nat) (w' : World) (g gs room r n m : Nat) (es : List Ent) : Prop := ∃ cs fr T, Hs w S w' g gs room cs fr ∧ Rt cs r T ∧ T.ents.Perm es ∧ noc cs = n ∧ (∀ i, own cs [] i ≤ m) ∧ cs.length ≤ n
theorem Aw.grow {w w' w'' : World} {S : List Nat} {g gs room r n m : Nat} {es : List Ent} (h : Aw w S w' g gs room r n m es) (hb : Below w'.heap.size w' w'') : Aw w S w'' g gs room r n m es := by
  obtain ⟨cs, fr, T, h1, h2⟩ := h
  exact ⟨cs, fr, T, h1.grow hb, h2⟩
theorem Aw.low {w w' : World} {g gs room r n m : Nat} {es : List Ent} (h : Aw w [] w' g gs room r n m es) : Below w.heap.size w w' := by
  obtain ⟨cs, fr, T, h1, h2⟩ := h
  exact h1.low
theorem Aw.size {w w' : World} {S : List Nat} {g gs room r n m : Nat} {es : List Ent} (h : Aw w S w' g gs room r n m es) : Calls Tryd.prog 27 #[.pointer (some ⟨g, 0, none⟩), .int .i64 (r : Int)] w' fun e w'' => e = .returned (.int .i64 (es.length : Int)) ∧ Below w'.heap.size w' w'' := by
  obtain ⟨cs, fr, T, h1, h2, h3, _⟩ := h
  have := size_any h1.vw (r : Int)
  rwa [cat_nat, h2.size h1.2, h3.length_eq] at this
theorem Aw.occ {w w' : World} {S : List Nat} {g gs room r n m : Nat} {es : List Ent} (h : Aw w S w' g gs room r n m es) : Calls Tryd.prog 7 #[.pointer (some ⟨g, 0, none⟩)] w' fun e w'' => e = .returned (.int .i64 (n : Int)) ∧ Below w'.heap.size w' w'' := by
  obtain ⟨cs, fr, T, h1, h2, h3, h4, _⟩ := h
  have := hs_occ h1
  rwa [h4] at this

theorem own_nil (i : Nat) : own [] [] i = 0 := by simp [own, cc]
theorem own_step {a b x y : Nat} {p q : Prop} [Decidable p] [Decidable q] (h : a + (if p then 1 else 0) = b + (if q then 1 else 0)) (hb : b ≤ x) (hy : x + 1 ≤ y) : a ≤ y := by
  split at h <;> split at h <;> omega

theorem aw_first {w w' : World} {S : List Nat} {g gs room : Nat} (hL : Kq S w Laid) (H : Hs w S w' g gs room [] []) (K : List Int) (hK : Key K) (hr : 258 ≤ room) : Calls Tryd.prog 6 #[.pointer (some ⟨g, 0, none⟩), .int .i64 0, .agg (B K), .slice none 0 0] w' fun e w'' => ∃ r : Nat, e = .returned (.tuple #[.int .i64 (r : Int), .int .i64 0]) ∧ Aw w S w'' g gs room r 1 1 [(K, [])] := by
  obtain ⟨ss, hss, _⟩ := (Rt.zero []).bes Wf.new hK
  refine (put_any H (Rt.zero []) hK (u := .slice none 0 0) (bs := []) (fun _ _ => Reads.nil _) hL (by simp) (fun i => by rw [own_nil]; omega) (by show 0 + 258 ≤ room; omega) hss).mono ?_
  rintro e w'' ⟨top, cs', fr', T', rfl, p, hh⟩
  obtain ⟨q1, q2, q3⟩ := pa_first hss p
  exact ⟨top, rfl, cs', fr', T', hh, p.rt, q1, by rw [q2]; rfl, fun i => own_step (p.own i) (x := 0) (by rw [own_nil]; omega) (by omega), q3⟩

theorem aw_second {w w' : World} {S : List Nat} {g gs room r : Nat} (hL : Kq S w Laid) {k : List Int} (H : Aw w S w' g gs room r 1 1 [(k, [])]) (K : List Int) (hK : Key K) (hne : k ≠ K) (c : Nat) (hc : IsCommon K k c) (hr : 259 ≤ room) : Calls Tryd.prog 6 #[.pointer (some ⟨g, 0, none⟩), .int .i64 (r : Int), .agg (B K), .slice none 0 0] w' fun e w'' => ∃ r' : Nat, e = .returned (.tuple #[.int .i64 (r' : Int), .int .i64 0]) ∧ Aw w S w'' g gs room r' (c + 3) 2 [(K, []), (k, [])] := by
  obtain ⟨cs, fr, T, h1, h2, h3, h4, h5, h6⟩ := H
  obtain rfl := h2.one h1.2 h3
  obtain ⟨ss, hss, _⟩ := h2.bes h1.2 hK
  refine (put_any h1 h2 hK (u := .slice none 0 0) (bs := []) (fun _ _ => Reads.nil _) hL (by simp) (fun i => Nat.le_trans (h5 i) (by omega)) (by omega) hss).mono ?_
  rintro e w'' ⟨top, cs', fr', T', rfl, p, hh⟩
  obtain ⟨q1, q2, q3, q4⟩ := pa_second hc hne hss p
  exact ⟨top, rfl, cs', fr', T', hh, p.rt, q1, by omega, fun i => own_step (p.own i) (h5 i) (by omega), by omega⟩

theorem aw_same {w w' : World} {S : List Nat} {g gs room r n m : Nat} {es : List Ent} (H : Aw w S w' g gs room r n m es) (K : List Int) (hK : Key K) (hm : (K, []) ∈ es) (hr : n + 258 ≤ room) : Calls Tryd.prog 6 #[.pointer (some ⟨g, 0, none⟩), .int .i64 (r : Int), .agg (B K), .slice none 0 0] w' fun e w'' => e = .returned (.tuple #[.int .i64 (r : Int), .int .i64 0]) ∧ Below w'.heap.size w' w'' := by
  obtain ⟨cs, fr, T, h1, h2, h3, h4, h5, h6⟩ := H
  have hsm := efin_key h1.2 K T r h2.tree (K, []) (h3.mem_iff.2 hm) rfl
  exact put_same h1 r T h2.tree K hK (.slice none 0 0) [] (Reads.nil _) (h2.refuse (by simp)) h2.root (by omega) hsm

end Go.Proofs.YtpbmpmiicdpehabDoor
