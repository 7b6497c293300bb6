/- A tree that is made from below out of entries, slot by slot: that it fits, and what stands there behind it. No program in this text but the store's own. -/
import Derived.Test.YtbkolhhgajkjjaaGreatDoorSs01
import Derived.Test.YtbkolhhgajkjjaaGreatDoorSs24
import Derived.Test.YtbkolhhgajkjjaaGreatDoorSs31
namespace Go.Proofs.YtbkolhhgajkjjaaGreatDoor
set_option maxRecDepth 20000
open Go.RowKit

structure Ext (cs cs' : List (Nat × Ce)) : Prop where
  len : cs.length ≤ cs'.length
  cc : ∀ i, i < cs.length → cc cs' i = cc cs i
  ce : ∀ i, i < cs.length → ce cs' i = ce cs i
theorem IsT.keep {cs cs' : List (Nat × Ce)} (k : ∀ i, 0 < cc cs i → 0 < cc cs' i ∧ Core (ce cs i) (ce cs' i)) : ∀ {T : Tre} {h : Nat}, IsT cs h T → IsT cs' h T
  | .emp, _, e => e
  | .lf _ _, h, ⟨h1, h2, h3, h4, h5⟩ => by
    obtain ⟨k1, k2⟩ := k _ h2
    refine ⟨h1, k1, ?_⟩
    rw [k2]
    exact ⟨h3, h4, h5⟩
  | .nd _ _ _ _ _, h, ⟨h1, h2, h3, h4, h5, h6, h7, h8⟩ => by
    obtain ⟨k1, k2⟩ := k _ h2
    refine ⟨h1, k1, ?_⟩
    rw [k2]
    exact ⟨h3, h4, h5, h6, IsT.keep k h7, IsT.keep k h8⟩
structure Bd (cs : List (Nat × Ce)) (es : List Ent) (d h : Nat) (cs' : List (Nat × Ce)) : Prop where
  ext : Ext cs cs'
  wf : Wf cs' []
  tree : ∃ T, IsT cs' h T ∧ T.ents.Perm es
  dp : (sdC cs' h).kind = 2 → (sdC cs' h).dp = d
  own : h ≠ 0 → cs.length < h ∧ h ≤ cs'.length ∧ cc cs' (h - 1) = 1 ∧ (ce cs' (h - 1)).ab = 0
  num : cs'.length ≤ cs.length + es.length * (257 - d)

end Go.Proofs.YtbkolhhgajkjjaaGreatDoor

namespace Go.Proofs.YtbkolhhgajkjjaaGreatDoor
set_option maxRecDepth 20000
open Go.RowKit

def shr (K : List Int) (d : Nat) (e : Ent) : Bool := (List.range d).all fun j => kb e.1 j == kb K j
def wE (E : List Ent) (K bs : List Int) (d : Nat) : List Ent := (K, bs) :: E.filter fun e => shr K d e && !(e.1 == K)
def bsE (E : List Ent) (K : List Int) (d : Nat) : List Ent := E.filter fun e => shr K d e && !(kb e.1 d == kb K d)

structure BesOk (cs : List (Nat × Ce)) (E : List Ent) (K : List Int) (ss : List Nat) : Prop where
  len : ss.length ≤ 256
  side : ∀ d, d < ss.length → ∃ V, IsT cs (ss.getD d 0) V ∧ V.ents = bsE E K d ∧ ((sdC cs (ss.getD d 0)).kind = 2 → (sdC cs (ss.getD d 0)).dp = d + 1)
  last : 0 < ss.length → ss.getD (ss.length - 1) 0 ≠ 0
  none : E.filter (fun e => shr K ss.length e && !(e.1 == K)) = []

def WayB (cs : List (Nat × Ce)) (E : List Ent) (K : List Int) (os : List Nat) (ef : List Ent) (d : Nat) : Prop :=
  (∀ j, j < os.length → ∃ V, IsT cs (os.getD j 0) V ∧ V.ents = bsE E K (d + j) ∧ ((sdC cs (os.getD j 0)).kind = 2 → (sdC cs (os.getD j 0)).dp = d + j + 1)) ∧ ef = E.filter (shr K (d + os.length)) ∧ d + os.length ≤ 256 ∧ (0 < os.length → os.getD (os.length - 1) 0 ≠ 0)

def besX (oth : List Nat) (c f : Nat) : List Nat := oth ++ (List.replicate (c - oth.length) 0 ++ [f])
end Go.Proofs.YtbkolhhgajkjjaaGreatDoor

namespace Go.Proofs.YtbkolhhgajkjjaaGreatDoor
set_option maxRecDepth 20000
open Go.RowKit

theorem moreC_cc {cs : List (Nat × Ce)} {i : Nat} (hi : 0 < cc cs i) (j : Nat) : cc (moreC cs i) j = cc cs j + (if i = j then 1 else 0) := by
  unfold moreC
  rw [cc_set cs i j _ (cc_lt hi)]
  by_cases e : j = i
  · rw [if_pos e, if_pos e.symm, e]
  · rw [if_neg e, if_neg (fun q => e q.symm)]; rfl
theorem moreC_len (cs : List (Nat × Ce)) (i : Nat) : (moreC cs i).length = cs.length := by simp [moreC]
def holdM : List (Nat × Ce) → List Nat → List (Nat × Ce)
  | cs, [] => cs
  | cs, h :: r => holdM (if h = 0 then cs else moreC cs (h - 1)) r

structure HmOk (cs : List (Nat × Ce)) (ss : List Nat) (cs' : List (Nat × Ce)) : Prop where
  len : cs'.length = cs.length
  ce : ∀ i, ce cs' i = ce cs i
  cc : ∀ i, cc cs' i = cc cs i + ss.count (i + 1)
  noc : noc cs' = noc cs
  wf : Wf cs' []

theorem noc_tk {cs : List (Nat × Ce)} {fr : List Nat} (h : FrOk cs fr) (p : Nat × Ce) (hp : 0 < p.1) : noc (tkC cs fr p) = noc cs + 1 := by
  rcases tk_cases cs fr with ⟨s, fr0, rfl, e1, e2⟩ | ⟨rfl, e1, e2⟩
  · obtain ⟨h1, h2, h3⟩ := h s (by simp)
    have := noc_set cs (s - 1) p (by omega)
    rw [h3, if_neg (by omega), if_pos hp] at this
    rw [e2]
    omega
  · rw [e2]
    unfold noc
    rw [List.map_append, List.map_singleton, occs_snoc]
    rw [if_pos (show 0 < (pl p).1 from hp)]

def InnR (cs : List (Nat × Ce)) (fr : List Nat) (d l r : Nat) (cs' : List (Nat × Ce)) : Prop :=
  ∃ KF, IsFill (if (sdC cs l).kind = 0 then (sdC cs r).key else (sdC cs l).key) d 0 KF ∧ cs' = upA (upA (tkC cs fr (1, inC (inD (sdD cs l) (sdD cs r)) KF ((sdC cs l).sz + (sdC cs r).sz) d l r)) l) r

theorem own_inner {cs cs' : List (Nat × Ce)} {fr : List Nat} {d l r : Nat} (W : Wf cs []) (W' : Wf cs' []) (hF : FrOk cs fr) (hml : mayP cs (l : Int)) (hmr : mayP cs (r : Int)) (h : InnR cs fr d l r cs') :
    (∀ i, own cs' [] i + (if l = i + 1 then 1 else 0) + (if r = i + 1 then 1 else 0) = own cs [] i + (if tkH cs fr = i + 1 then 1 else 0)) ∧ (∀ i, 0 < cc cs i → 0 < cc cs' i ∧ Core (ce cs i) (ce cs' i)) ∧ noc cs' = noc cs + 1 ∧ cc cs (tkH cs fr - 1) = 0 ∧ 1 ≤ tkH cs fr ∧
      (∀ L R, IsT cs l L → IsT cs r R → IsT cs' (tkH cs fr) (.nd d l r L R)) ∧ (sdC cs' (tkH cs fr)).dp = d ∧ (∀ i, cc cs' i = if i = tkH cs fr - 1 then 1 else cc cs i) ∧ cs'.length ≤ cs.length + 1 := by
  obtain ⟨KF, hKF, rfl⟩ := h
  obtain ⟨X, hX⟩ : ∃ X, X = inC (inD (sdD cs l) (sdD cs r)) KF ((sdC cs l).sz + (sdC cs r).sz) d l r := ⟨_, rfl⟩
  rw [← hX] at W' ⊢
  have xk : X.kind = 2 := by rw [hX]; rfl
  have xd : X.dp = d := by rw [hX]; rfl
  have xl : X.l = l := by rw [hX]; rfl
  have xr : X.r = r := by rw [hX]; rfl
  have xa : X.ab = 0 := by rw [hX]; rfl
  obtain ⟨t1, tk⟩ := tk_of hF (1, X)
  have u1 := upA_of (tkC cs fr (1, X)) l
  have uu := u1.trans (upA_of (upA (tkC cs fr (1, X)) l) r)
  have sl : ∀ q : Nat, mayP cs (q : Int) → (q ≠ 0 → 0 < cc cs (q - 1)) ∧ (q - 1 < (tkC cs fr (1, X)).length ∨ q = 0) := fun q m => by
    rcases m.side with e | ⟨e1, e2, _⟩
    · exact ⟨fun q0 => absurd e q0, .inr e⟩
    · have := cc_lt e2
      rw [tk.len]
      exact ⟨fun _ => e2, .inl (by omega)⟩
  obtain ⟨l1, l2⟩ := sl l hml
  obtain ⟨r1, r2⟩ := sl r hmr
  have hab : ∀ i, (ce (upA (upA (tkC cs fr (1, X)) l) r) i).ab = (ce (tkC cs fr (1, X)) i).ab + (if l = i + 1 then 1 else 0) + (if r = i + 1 then 1 else 0) := fun i => by
    rw [upA_ab _ r i (by rw [u1.len]; exact r2), upA_ab _ l i l2]
  have hcc : ∀ i, cc (upA (upA (tkC cs fr (1, X)) l) r) i = if i = tkH cs fr - 1 then 1 else cc cs i := fun i => by rw [uu.cc, tk.cc]
  have nv : ∀ q : Nat, (q ≠ 0 → 0 < cc cs (q - 1)) → q ≠ tkH cs fr := fun q h e => by
    have h1 := h (by omega)
    rw [e, tk.vac] at h1
    omega
  have kp : ∀ i, 0 < cc cs i → 0 < cc (upA (upA (tkC cs fr (1, X)) l) r) i ∧ Core (ce cs i) (ce (upA (upA (tkC cs fr (1, X)) l) r) i) := fun i hi => by
    have hne : ¬ i = tkH cs fr - 1 := fun e => by
      rw [e, tk.vac] at hi
      omega
    refine ⟨by rw [hcc, if_neg hne]; exact hi, ?_⟩
    have := uu.core i
    rwa [tk.ce, if_neg hne] at this
  have cr : Core X (ce (upA (upA (tkC cs fr (1, X)) l) r) (tkH cs fr - 1)) := by
    have := uu.core (tkH cs fr - 1)
    rwa [tk.ce, if_pos rfl] at this
  have cn : cc (upA (upA (tkC cs fr (1, X)) l) r) (tkH cs fr - 1) = 1 := by rw [hcc, if_pos rfl]
  refine ⟨fun i => ?_, kp, ?_, tk.vac, t1, fun L R hL hR => ⟨t1, by rw [cn]; omega, by rw [cr]; exact xk, by rw [cr]; exact xd, by rw [cr]; exact xl, by rw [cr]; exact xr, hL.keep kp, hR.keep kp⟩, by rw [sdC, if_neg (by omega), cr]; exact xd, hcc, by rw [uu.len, tk.len]; have := tk.le; omega⟩
  · have hle := W'.le i
    have hle0 := W.le i
    have h1 := hab i
    have h2 := hcc i
    have h3 := tk.ce i
    rw [List.count_nil] at hle hle0
    unfold own
    rw [List.count_nil]
    by_cases e : i = tkH cs fr - 1
    · have e2 : tkH cs fr = i + 1 := by omega
      have n1 : ¬ l = i + 1 := by rw [← e2]; exact nv l l1
      have n2 : ¬ r = i + 1 := by rw [← e2]; exact nv r r1
      have v := tk.vac
      rw [← e] at v
      rw [if_pos e] at h2 h3
      rw [h3] at h1
      rw [if_neg n1, if_neg n2, xa] at h1
      rw [if_neg n1, if_neg n2, if_pos e2]
      omega
    · rw [if_neg e] at h2 h3
      rw [h3] at h1
      rw [if_neg (show ¬ tkH cs fr = i + 1 by omega)]
      omega
  · rw [uu.noc, noc_tk hF (1, X) (by show 0 < 1; omega)]

structure RzI (cs0 : List (Nat × Ce)) (E : List Ent) (K bs : List Int) (ss : List Nat) (m : Nat) (cs : List (Nat × Ce)) (top : Nat) : Prop where
  wf : Wf cs []
  keep : ∀ i, 0 < cc cs0 i → 0 < cc cs i ∧ Core (ce cs0 i) (ce cs i)
  tree : ∃ U, IsT cs top U ∧ U.ents.Perm (wE E K bs m)
  dp : (sdC cs top).kind = 2 → (sdC cs top).dp = m
  own : ∀ i, own cs [] i = own cs0 [] i + (ss.take m).count (i + 1) + (if top = i + 1 then 1 else 0)
  new : 1 ≤ top ∧ cc cs0 (top - 1) = 0
  noc : noc cs + m = noc cs0 + 1 + ss.length
  cnt : ∀ i, 0 < cc cs0 i → cc cs i = cc cs0 i + ss.count (i + 1)
  len : cs.length + m ≤ cs0.length + 1 + ss.length

def tl (K : List Int) (m top s : Nat) : Nat := if kb K m = 1 then s else top
def tr (K : List Int) (m top s : Nat) : Nat := if kb K m = 1 then top else s

inductive Rz (K : List Int) : List Nat → List (Nat × Ce) → List Nat → Nat → List (Nat × Ce) → List Nat → Nat → Prop
  | done (cs : List (Nat × Ce)) (fr : List Nat) (t : Nat) : Rz K [] cs fr t cs fr t
  | step {ss : List Nat} {s : Nat} {cs cs1 cs2 : List (Nat × Ce)} {fr fr2 : List Nat} {t t2 : Nat} : InnR cs fr ss.length (tl K ss.length t s) (tr K ss.length t s) cs1 → Rz K ss cs1 fr.dropLast (tkH cs fr) cs2 fr2 t2 → Rz K (ss ++ [s]) cs fr t cs2 fr2 t2

structure PutOk (cs0 : List (Nat × Ce)) (E : List Ent) (K bs : List Int) (root top : Nat) (ss : List Nat) (cs' : List (Nat × Ce)) : Prop where
  wf : Wf cs' []
  tree : ∃ U, IsT cs' top U ∧ U.ents.Perm ((K, bs) :: E.filter fun e => !(e.1 == K))
  dp : (sdC cs' top).kind = 2 → (sdC cs' top).dp = 0
  own : ∀ i, own cs' [] i + (if root = i + 1 then 1 else 0) = own cs0 [] i + (if top = i + 1 then 1 else 0)
  new : 1 ≤ top ∧ cc cs0 (top - 1) = 0
  keep : ∀ h T, IsT cs0 h T → (h = 0 ∨ 0 < cc cs' (h - 1)) → IsT cs' h T
  noc : noc cs' ≤ noc cs0 + (1 + ss.length)
  len : cs'.length ≤ cs0.length + (1 + ss.length)
  just : root = 0 ∨ root ∈ ss → Go.Proofs.YtbkolhhgajkjjaaGreatDoor.noc cs' = Go.Proofs.YtbkolhhgajkjjaaGreatDoor.noc cs0 + (1 + ss.length)

end Go.Proofs.YtbkolhhgajkjjaaGreatDoor
