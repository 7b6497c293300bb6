/- The document's slots beside the store's cells: what is made and held, step by step. No program in this text. -/
import Derived.Test.YtbkolhhgajkjjaaGreatDoorPo32
namespace Go.Proofs.YtbkolhhgajkjjaaGreatDoor
set_option maxHeartbeats 4000000
set_option maxRecDepth 20000
open Go.RowKit
structure Sc (c : Ce) (o a : Nat) (s : Sp) : Prop where
 kind : s.kind = c.kind
 d : s.d = c.dp
 key : c.kind = 1 → s.key = c.key
 bs : s.bs = c.bs
 l : s.l = c.l
 r : s.r = c.r
 own : s.own = o
 sd : s.sd = a
theorem Rel7.at {cs : List (Nat × Ce)} {ss : List Sp} (h : Rel7 cs [] [] ss) (i : Nat) : Sc (ce cs i) (Go.Proofs.YtbkolhhgajkjjaaGreatDoor.own cs [] i) (ce cs i).ab (spAt ss i) := ⟨h.kind i, h.d i, h.key i, h.bs i, h.l i, h.r i, h.own i, by have := h.sd i; rwa [List.count_nil] at this⟩
theorem Rel7.of {cs : List (Nat × Ce)} {ss : List Sp} (hl : ss.length = cs.length) (h : ∀ i, Sc (ce cs i) (Go.Proofs.YtbkolhhgajkjjaaGreatDoor.own cs [] i) (ce cs i).ab (spAt ss i)) : Rel7 cs [] [] ss := ⟨hl, fun i => (h i).kind, fun i => (h i).d, fun i => (h i).key, fun i => (h i).bs, fun i => (h i).l, fun i => (h i).r, fun i => (h i).own, fun i => by rw [List.count_nil]; exact (h i).sd⟩
theorem Rel7.new : Rel7 [] [] [] [] := Rel7.of rfl fun i => ⟨rfl, rfl, fun e => absurd e (by show ¬ (0 : Int) = 1; omega), rfl, rfl, rfl, rfl, rfl⟩
theorem Zgj {α β : Type} {xs : List α} {ys : List β} (fr : List Nat) (h : xs.length = ys.length) : tkH xs fr = tkH ys fr := by
 unfold tkH
 rw [h]
theorem Ztw (ss : List Sp) (j : Nat) (s : Sp) : spAt (ss ++ [s]) j = if j = ss.length then s else spAt ss j := by
 unfold spAt
 by_cases e : j = ss.length
 ·subst e
  simp
 ·rw [if_neg e]
  by_cases hl : j < ss.length
  ·rw [List.getElem?_append_left hl]
  ·rw [List.getElem?_eq_none (by simp; omega), List.getElem?_eq_none (by omega)]
theorem tk7 {ss : List Sp} {fr : List Nat} (hF : ∀ s ∈ fr, 1 ≤ s ∧ s ≤ ss.length) (x : Sp) : 1 ≤ tkH ss fr ∧ (tkC ss fr x).length = max ss.length (tkH ss fr - 1 + 1) ∧ ∀ j, spAt (tkC ss fr x) j = if j = tkH ss fr - 1 then x else spAt ss j := by
 rcases Zes ss fr with ⟨s, fr0, rfl, e1, e2⟩ | ⟨rfl, e1, e2⟩
 ·obtain ⟨h1, h2⟩ := hF s (by simp)
  rw [e1, e2]
  exact ⟨h1, by simp; omega, fun j => Zdw ss _ j x (by omega)⟩
 ·rw [e1, e2]
  exact ⟨by omega, by simp, fun j => Ztw ss j x⟩
theorem Zvk (ss : List Sp) (q : Nat) (hq : q - 1 < ss.length ∨ q = 0) (j : Nat) : spAt (ov7 ss q) j = if q = j + 1 then { spAt ss j with own := (spAt ss j).own - 1, sd := (spAt ss j).sd + 1 } else spAt ss j := by
 unfold ov7
 by_cases q0 : q = 0
 ·rw [if_pos q0, if_neg (by omega)]
 ·rw [if_neg q0, Zdw ss _ j _ (by omega)]
  by_cases e : j = q - 1
  ·rw [if_pos e, if_pos (by omega), e]
  ·rw [if_neg e, if_neg (by omega)]
theorem FrOk.slots {cs : List (Nat × Ce)} {fr : List Nat} {ss : List Sp} (h : FrOk cs fr) (hl : ss.length = cs.length) : ∀ s ∈ fr, 1 ≤ s ∧ s ≤ ss.length := fun s hs => by
 obtain ⟨h1, h2, _⟩ := h s hs
 exact ⟨h1, by omega⟩
theorem Rel7.leaf {cs : List (Nat × Ce)} {fr : List Nat} {ss : List Sp} (h : Rel7 cs [] [] ss) (hF : FrOk cs fr) (D K : List Int) (v v' : Value) (bs : List Int) : Rel7 (tkC cs fr (1, lfC D K v bs)) [] [] (tkC ss fr (own1 (lf7 K v' bs))) := by
 obtain ⟨t1, tk⟩ := Zgi hF (1, lfC D K v bs)
 have he := Zgj fr h.len
 obtain ⟨_, l2, at2⟩ := tk7 (hF.slots h.len) (own1 (lf7 K v' bs))
 refine Rel7.of (by rw [l2, tk.len, h.len, he]) fun i => ?_
 have hown : Go.Proofs.YtbkolhhgajkjjaaGreatDoor.own (tkC cs fr (1, lfC D K v bs)) [] i = if i = tkH cs fr - 1 then 1 else Go.Proofs.YtbkolhhgajkjjaaGreatDoor.own cs [] i := by
  unfold Go.Proofs.YtbkolhhgajkjjaaGreatDoor.own
  rw [tk.cc, tk.ce]
  split
  ·simp [lfC]
  ·rfl
 rw [at2, tk.ce, hown, he]
 by_cases e : i = tkH cs fr - 1
 ·rw [if_pos e, if_pos e, if_pos e]
  exact ⟨rfl, rfl, fun _ => rfl, rfl, rfl, rfl, rfl, rfl⟩
 ·rw [if_neg e, if_neg e, if_neg e]
  exact h.at i
theorem Rel7.more {cs : List (Nat × Ce)} {ss : List Sp} (h : Rel7 cs [] [] ss) (W : Wf cs []) {i : Nat} (hi : 0 < cc cs i) : Rel7 (moreC cs i) [] [] (ss.set i { spAt ss i with own := (spAt ss i).own + 1 }) := by
 have hl := Zbu hi
 refine Rel7.of (by rw [List.length_set, Zin, h.len]) fun j => ?_
 have hle := W.le j
 rw [List.count_nil] at hle
 have hown : Go.Proofs.YtbkolhhgajkjjaaGreatDoor.own (moreC cs i) [] j = Go.Proofs.YtbkolhhgajkjjaaGreatDoor.own cs [] j + (if i = j then 1 else 0) := by
  unfold Go.Proofs.YtbkolhhgajkjjaaGreatDoor.own
  rw [Zfu hi, Zdz, List.count_nil]
  omega
 rw [Zdw ss i j _ (by rw [h.len]; exact hl), Zdz, hown]
 have ha := h.at j
 by_cases e : j = i
 ·subst e
  rw [if_pos rfl, if_pos rfl]
  exact ⟨ha.kind, ha.d, ha.key, ha.bs, ha.l, ha.r, by show _ + 1 = _; rw [ha.own], ha.sd⟩
 ·rw [if_neg e, if_neg (by omega)]
  exact ha
theorem mayP.inn {cs : List (Nat × Ce)} {ss : List Sp} (R : Rel7 cs [] [] ss) {q : Nat} (m : mayP cs (q : Int)) : q - 1 < ss.length ∨ q = 0 := by
 rcases m.side with e | ⟨_, e2, _⟩
 ·exact .inr e
 ·exact .inl (by rw [R.len]; exact Zbu e2)
theorem Rel7.inner {cs cs' : List (Nat × Ce)} {fr : List Nat} {ss : List Sp} {d l r : Nat} (h : Rel7 cs [] [] ss) (W : Wf cs []) (W' : Wf cs' []) (hF : FrOk cs fr) (hml : mayP cs (l : Int)) (hmr : mayP cs (r : Int)) (hI : InnR cs fr d l r cs') : Rel7 cs' [] [] (tkC (ov7 (ov7 ss l) r) fr (own1 (in7 d l r))) := by
 obtain ⟨ho, _, _, hv, h1, _, _, _, _⟩ := Zmq W W' hF hml hmr hI
 obtain ⟨KF, hKF, rfl⟩ := hI
 obtain ⟨X, hX⟩ : ∃ X, X = inC (inD (sdD cs l) (sdD cs r)) KF ((sdC cs l).sz + (sdC cs r).sz) d l r := ⟨_, rfl⟩
 rw [← hX] at W' ho ⊢
 obtain ⟨t1, tk⟩ := Zgi hF (1, X)
 have he := Zgj fr h.len
 have ln : (ov7 (ov7 ss l) r).length = ss.length := by rw [Zdq, Zdq]
 have hb := Zgj (xs := ov7 (ov7 ss l) r) (ys := ss) fr ln
 obtain ⟨_, l2, at2⟩ := tk7 (ss := ov7 (ov7 ss l) r) (fr := fr) (by rw [ln]; exact hF.slots h.len) (own1 (in7 d l r))
 have u1 := Zcw (tkC cs fr (1, X)) l
 have uu := u1.trans (Zcw (upA (tkC cs fr (1, X)) l) r)
 have sl : ∀ q : Nat, mayP cs (q : Int) → (q ≠ 0 → 0 < cc cs (q - 1)) ∧ (q - 1 < (tkC cs fr (1, X)).length ∨ q = 0) := fun q m => by
  rcases m.side with e | ⟨e1, e2, _⟩
  ·exact ⟨fun q0 => absurd e q0, .inr e⟩
  ·have := Zbu e2
   rw [tk.len]
   exact ⟨fun _ => e2, .inl (by omega)⟩
 obtain ⟨l1, l3⟩ := sl l hml
 obtain ⟨r1, r3⟩ := sl r hmr
 have hab : ∀ i, (ce (upA (upA (tkC cs fr (1, X)) l) r) i).ab = (ce (tkC cs fr (1, X)) i).ab + (if l = i + 1 then 1 else 0) + (if r = i + 1 then 1 else 0) := fun i => by
  rw [Zfa _ r i (by rw [u1.len]; exact r3), Zfa _ l i l3]
 have nv : ∀ q : Nat, (q ≠ 0 → 0 < cc cs (q - 1)) → q ≠ tkH cs fr := fun q hq e => by
  have h1 := hq (by omega)
  rw [e, tk.vac] at h1
  omega
 refine Rel7.of (by rw [l2, uu.len, tk.len, ln, h.len, hb, he]) fun i => ?_
 have hoi := ho i
 have hai := hab i
 have hci := uu.core i
 have hsi := at2 i
 rw [hb, he] at hsi
 rw [tk.ce] at hai hci
 by_cases e : i = tkH cs fr - 1
 ·have e2 : tkH cs fr = i + 1 := by omega
  have n1 : ¬ l = i + 1 := by rw [← e2]; exact nv l l1
  have n2 : ¬ r = i + 1 := by rw [← e2]; exact nv r r1
  rw [if_pos e] at hsi hai hci
  rw [if_neg n1, if_neg n2] at hai hoi
  have hv2 : Go.Proofs.YtbkolhhgajkjjaaGreatDoor.own cs [] i = 0 := by
   unfold Go.Proofs.YtbkolhhgajkjjaaGreatDoor.own
   rw [e, tk.vac]
   omega
  rw [if_pos e2, hv2] at hoi
  rw [hsi]
  have xa : X.ab = 0 := by rw [hX]; rfl
  refine ⟨?_, ?_, fun k => ?_, ?_, ?_, ?_, by show (1 : Nat) = _; omega, by show (0 : Nat) = _; rw [hai]; show 0 = X.ab + 0 + 0; omega⟩
  ·rw [hci, hX]; rfl
  ·rw [hci, hX]; rfl
  ·rw [hci, hX] at k
   exact absurd k (by show ¬ (2 : Int) = 1; omega)
  ·rw [hci, hX]; rfl
  ·rw [hci, hX]; rfl
  ·rw [hci, hX]; rfl
 ·rw [if_neg e] at hsi hai hci
  rw [if_neg (show ¬ tkH cs fr = i + 1 by omega)] at hoi
  rw [Zvk _ r (by rw [Zdq]; exact hmr.inn h), Zvk _ l (hml.inn h)] at hsi
  have ha := h.at i
  have ho1 := ha.own
  have hs1 := ha.sd
  rw [hsi]
  by_cases el : l = i + 1
  ·by_cases er : r = i + 1
   ·rw [if_pos el] at hai hoi
    rw [if_pos er] at hai hoi
    rw [if_pos er, if_pos el]
    refine ⟨?_, ?_, fun k => ?_, ?_, ?_, ?_, ?_, ?_⟩
    ·rw [hci]; exact ha.kind
    ·rw [hci]; exact ha.d
    ·rw [hci] at k ⊢; exact ha.key k
    ·rw [hci]; exact ha.bs
    ·rw [hci]; exact ha.l
    ·rw [hci]; exact ha.r
    ·show _ - 1 - 1 = _; omega
    ·show _ + 1 + 1 = _; omega
   ·rw [if_pos el] at hai hoi
    rw [if_neg er] at hai hoi
    rw [if_neg er, if_pos el]
    refine ⟨?_, ?_, fun k => ?_, ?_, ?_, ?_, ?_, ?_⟩
    ·rw [hci]; exact ha.kind
    ·rw [hci]; exact ha.d
    ·rw [hci] at k ⊢; exact ha.key k
    ·rw [hci]; exact ha.bs
    ·rw [hci]; exact ha.l
    ·rw [hci]; exact ha.r
    ·show _ - 1 = _; omega
    ·show _ + 1 = _; omega
  ·by_cases er : r = i + 1
   ·rw [if_neg el] at hai hoi
    rw [if_pos er] at hai hoi
    rw [if_pos er, if_neg el]
    refine ⟨?_, ?_, fun k => ?_, ?_, ?_, ?_, ?_, ?_⟩
    ·rw [hci]; exact ha.kind
    ·rw [hci]; exact ha.d
    ·rw [hci] at k ⊢; exact ha.key k
    ·rw [hci]; exact ha.bs
    ·rw [hci]; exact ha.l
    ·rw [hci]; exact ha.r
    ·show _ - 1 = _; omega
    ·show _ + 1 = _; omega
   ·rw [if_neg el] at hai hoi
    rw [if_neg er] at hai hoi
    rw [if_neg er, if_neg el]
    refine ⟨?_, ?_, fun k => ?_, ?_, ?_, ?_, by omega, by omega⟩
    ·rw [hci]; exact ha.kind
    ·rw [hci]; exact ha.d
    ·rw [hci] at k ⊢; exact ha.key k
    ·rw [hci]; exact ha.bs
    ·rw [hci]; exact ha.l
    ·rw [hci]; exact ha.r
theorem Yft {cs : List (Nat × Ce)} {ss : List Sp} (R : Rel7 cs [] [] ss) (W : Wf cs []) (hM : ∀ i, cc cs i ≤ 1073741824) {l : Nat} (ml : mayP cs (l : Int)) : Ov7 ss l := by
 rcases ml.side with e | ⟨_, e2, e3⟩
 ·exact .inl e
 ·have hle := W.le (l - 1)
  have h1 := R.own (l - 1)
  have h2 := R.sd (l - 1)
  have hm := hM (l - 1)
  rw [List.count_nil] at hle h2
  unfold Go.Proofs.YtbkolhhgajkjjaaGreatDoor.own at h1
  rw [List.count_nil] at h1
  exact .inr ⟨(R.inn W _).2 e2, by omega, by omega⟩
theorem Yhr {cs : List (Nat × Ce)} {ss : List Sp} (R : Rel7 cs [] [] ss) (W : Wf cs []) (hM : ∀ i, cc cs i ≤ 1073741824) {l r : Nat} (ml : mayP cs (l : Int)) (mr : mayP cs (r : Int)) (hne : l ≠ 0 → l ≠ r) : Ov7 (ov7 ss l) r := by
 rcases Yft R W hM mr with e | e
 ·exact .inl e
 ·by_cases r0 : r = 0
  ·exact .inl r0
  ·refine .inr ?_
   rw [Zvk _ l (ml.inn R), if_neg (by intro e2; exact hne (by omega) (by omega))]
   exact e
theorem Zjh (D : List Int) (h : D.length = 32) : (Tryz.prog.info? 30).map (·.size) = some (B D).size ∧ (B (List.replicate 32 0)).size = (B D).size := ⟨by rw [Zj, h]; exact Zz, by rw [Zj, Zj, h]; rfl⟩
theorem Zjw (d : Int) (a : Option Addr) (cap : Nat) (w : World) : Calls Tryz.prog 140 #[.slice a 0 cap, .int .i64 d] w fun e w' => e = .returned (.agg (B emD)) ∧ Below w.heap.size w w' := by
 obtain ⟨D, hD⟩ : ∃ D, D = emD := ⟨_, rfl⟩
 have HF := Za (Zjh D (by rw [hD]; exact Zn _))
 have HE : Hid (∀ w', Calls Tryz.prog 139 #[] w' fun e w'' => e = .returned (.agg (B D)) ∧ Below w'.heap.size w' w'') := fun w' => by rw [hD]; exact Zhc w'
 rw [← hD]
 clear hD
 go_enter Tryz.func140, Tryz.ntmps140
 go_wp2_with (first
  | ((with_reducible refine Zx 4 ?_); refine Ze _ rfl _ rfl _ Zbp ?_; intro w1 g1 hg1 hl1 B1 b1)
  | (go_at_call 139; refine (HE.out _).mono ?_; rintro e w2 ⟨rfl, b2⟩; have B2 := B1.grow b2)
  | ((with_reducible refine Zag 4 ?_); refine Zf _ rfl _ _ _ rfl g1 _ (B D) rfl rfl B2 HF.out.1 HF.out.2 (Zaw _) ?_; intro w3 B3 r3))
 exact bodyPost_ret (v := .agg (B D)) (results_cell_row rfl _ _ g1 _ _ _ _ rfl B3 Tryz.underlying30 rfl HF.out.1) rfl ⟨rfl, Zd (Zb b1 b2) r3 hg1⟩
theorem Zsh (d : Int) (g off cap : Nat) (E : Ent) (u : Value) (w : World) (hk : Key E.1) (hu : Reads w u E.2) (hl : E.2.length ≤ 1024) (hr : w.rangeAt g off (encP E.1 u)) : Calls Tryz.prog 140 #[.slice (some ⟨g, off, none⟩) 1 cap, .int .i64 d] w fun e w' => e = .returned (.agg (B (enD E))) ∧ Below w.heap.size w w' := by
 obtain ⟨D, hD⟩ : ∃ D, D = enD E := ⟨_, rfl⟩
 have HF := Za (Zjh D (by rw [hD]; exact Zn _))
 obtain ⟨A, hA⟩ : ∃ A, A = vaD E.2 := ⟨_, rfl⟩
 have HVa : Hid (∀ w', Below w.heap.size w w' → Calls Tryz.prog 141 #[u] w' fun e w'' => e = .returned (.agg (B A)) ∧ Below w'.heap.size w' w'') := fun w' hb => by rw [hA]; exact Zhb u _ w' (hu.grow hb) (by omega)
 have HE : Hid (∀ w', Calls Tryz.prog 155 #[.agg (B E.1), .agg (B A)] w' fun e w'' => e = .returned (.agg (B D)) ∧ Below w'.heap.size w' w'') := fun w' => by rw [hD, hA]; exact Zoq E.1 (vaD E.2) w' hk.1 (Zn _) hk.2 (Zaj _)
 have HR : Hid (∀ w', Below w.heap.size w w' → w'.rangeAt g off (B E.1).toList ∧ w'.cell? ⟨g, off + 32, none⟩ = some u) := fun w' hw' => ⟨Zih (Zde hr hw'), Ydc (Zde hr hw') hk.1⟩
 have HLK : Hid ((Tryz.prog.info? 31).map (·.size) = some (B E.1).toList.length) := by show _ = _; rw [Zap, List.length_map, hk.1]; exact Zff
 obtain ⟨K, hK⟩ : ∃ K, K = E.1 := ⟨_, rfl⟩
 rw [← hK] at HE HR HLK
 rw [← hD]
 obtain ⟨ua, uc, rfl, _, _, _, _⟩ := hu
 obtain ⟨L, hL⟩ : ∃ L, L = E.2.length := ⟨_, rfl⟩
 rw [← hL] at HVa HR
 clear hD hK hA hr hk hl hL
 go_enter Tryz.func140, Tryz.ntmps140
 go_wp2_with (first
  | ((with_reducible refine Zx 4 ?_); refine Ze _ rfl _ rfl _ Zbp ?_; intro w1 g1 hg1 hl1 B1 b1))
 have d0 : Below w.heap.size w w1.drew := Zb b1 (Below.refl _ _).drew
 refine wp_region_held_drew (S := fun w' => w'.rangeAt g off (B K).toList ∧ w'.cell? ⟨g, off + 32, none⟩ = some (.slice ua L uc)) (by kernel_rfl) (HR.out _ d0) (fun hHeld => ?_)
 refine tkp 0 (.slice (some ⟨g, off, none⟩) 1 cap) hHeld ?_
 simp only [zq]
 refine tkp 1 (.pointer (some ⟨g, off, none⟩)) hHeld ?_
 simp only [zq]
 refine tkp 2 (.pointer (some ⟨g, off, none⟩)) hHeld ?_
 simp only [zq]
 refine tkg 3 (.agg (B K)) rfl (yieldsIf_load_mid rfl 31 (.tmp 14) rfl g off rfl (B K).toList _ (fun w hS => hS.1) Tryz.underlying31 rfl HLK.out) hHeld ?_
 simp only [zq]
 refine tkp 4 (.slice (some ⟨g, off, none⟩) 1 cap) hHeld ?_
 simp only [zq]
 refine tkp 5 (.pointer (some ⟨g, off, none⟩)) hHeld ?_
 simp only [zq]
 refine tkp 6 (.pointer (some ⟨g, off + 32, none⟩)) hHeld ?_
 simp only [zq]
 refine tkg 7 (.slice ua L uc) rfl (Or.inl ⟨by rfl, fun w hS => by (have s1 := hS.2; go_simp)⟩) hHeld ?_
 simp only [zq]
 refine wpAnyH_ready (rs := [8]) (by kernel_rfl) (by simp) ?_
 refine AllReadyH.cons rfl (fun KQ hK => ?_) AllReadyH.nil
 go_simp
 refine (HVa.out _ d0).mono ?_
 rintro e x1 ⟨rfl, a1⟩
 have d1 := Zb d0 a1
 refine hK.out _ _ (HR.out _ d1) (fun hHeld => ?_)
 clear hK KQ
 refine wpAnyH_ready (rs := [9]) (by kernel_rfl) (by simp) ?_
 refine AllReadyH.cons rfl (fun KQ hK => ?_) AllReadyH.nil
 go_simp
 refine (HE.out _).mono ?_
 rintro e x2 ⟨rfl, a2⟩
 have d2 := Zb d1 a2
 refine hK.out _ _ (HR.out _ d2) (fun hHeld => ?_)
 clear hK KQ
 refine wpAnyH_ready (rs := [10]) (by kernel_rfl) (by simp) ?_
 refine AllReadyH.cons rfl (fun KQ hK => ?_) AllReadyH.nil
 refine Zbq _ rfl _ _ _ rfl g1 _ (B D) rfl rfl ((B1.drew.grow a1).grow a2) HF.out.1 HF.out.2 (Zaw _) ?_
 intro w4 B4 g4
 have c4 := Zd d2 g4 hg1
 refine hK.out _ _ (HR.out _ c4) (fun hHeld => ?_)
 clear hK KQ
 refine wpAnyH_done (by kernel_rfl) ?_ _
 go_wp2_with fail
 exact bodyPost_ret (v := .agg (B D)) (results_cell_row rfl _ _ g1 _ _ _ _ rfl B4 Tryz.underlying30 rfl HF.out.1) rfl ⟨rfl, c4⟩
theorem Zmj (n d : Nat) (es : List Ent) : (rt n d es).length = 32 := by
 match n, es with
 | _, [] => rw [Zmi]; exact Zn _
 | _, [x] => rw [Zpz]; exact Zn _
 | 0, _ :: _ :: _ => exact Zn _
 | n + 1, a :: b :: l => rw [Zkz n d _ (by simp)]; exact Zn _
theorem Zqa (n d : Nat) (es : List Ent) : Bytes (rt n d es) := by
 match n, es with
 | _, [] => rw [Zmi]; exact Zaj _
 | _, [x] => rw [Zpz]; exact Zaj _
 | 0, _ :: _ :: _ => exact Zaj _
 | n + 1, a :: b :: l => rw [Zkz n d _ (by simp)]; exact Zaj _
theorem Zsg (d : Nat) (a : Option Addr) (m cap : Nat) (es : List Ent) (R0 R1 : List Int) (w : World) (hd : d < 256) (hm : 2 ≤ m) (l0 : R0.length = 32) (l1 : R1.length = 32) (y0 : Bytes R0) (y1 : Bytes R1)
  (hp : ∀ w' b, Below w.heap.size w w' → Calls Tryz.prog 157 #[.slice a m cap, .int .i64 d, .int .i64 b] w' (SidePost es d b w'))
  (h0 : ∀ w' v V, PrAt w' v V (sideOf es d 0) → Calls Tryz.prog 140 #[v, .int .i64 ((d : Int) + 1)] w' fun e w'' => e = .returned (.agg (B R0)) ∧ Below w'.heap.size w' w'')
  (h1 : ∀ w' v V, PrAt w' v V (sideOf es d 1) → Calls Tryz.prog 140 #[v, .int .i64 ((d : Int) + 1)] w' fun e w'' => e = .returned (.agg (B R1)) ∧ Below w'.heap.size w' w'') :
  Calls Tryz.prog 140 #[.slice a m cap, .int .i64 d] w fun e w' => e = .returned (.agg (B (inD R0 R1))) ∧ Below w.heap.size w w' := by
 have HP := Za hp
 have H0 := Za h0
 have H1 := Za h1
 obtain ⟨D, hD⟩ : ∃ D, D = inD R0 R1 := ⟨_, rfl⟩
 have HF := Za (Zjh D (by rw [hD]; exact Zn _))
 have HI : Hid (∀ w', Calls Tryz.prog 156 #[.agg (B R0), .agg (B R1)] w' fun e w'' => e = .returned (.agg (B D)) ∧ Below w'.heap.size w' w'') := fun w' => by rw [hD]; exact Zml R0 R1 w' l0 l1 y0 y1
 have hw : IntKind.i64.wrap ((d : Int) + 1) = (d : Int) + 1 := by rw [IntKind.wrap_i64]; omega
 have e0 : ((m : Int) == 0) = false := by simp; omega
 have e1 : ((m : Int) == 1) = false := by simp; omega
 rw [← hD]
 clear hD hp h0 h1 l0 l1 y0 y1 hm hd
 go_enter Tryz.func140, Tryz.ntmps140
 go_wp2_with (first
  | ((with_reducible refine Zx 4 ?_); refine Ze _ rfl _ rfl _ Zbp ?_; intro w1 g1 hg1 hl1 B1 b1; have KB := Za B1.kp; have c := b1)
  | (go_at_call 157; have mk := mk1; refine (HP.out _ _ c).mono ?_; rintro e w4 ⟨v1, V1, rfl, p1, q4⟩; clear mk mk1; have HP1 := Za p1; clear p1; have cc := Zb c q4; clear c; have c := cc; clear cc; replace KB := Za (KB.out.step q4); have mk2 : Hid True := trivial)
  | (go_at_call 157; refine (HP.out _ _ c).mono ?_; rintro e w2 ⟨v0, V0, rfl, p0, q2⟩; have HP0 := Za p0; clear p0; have cc := Zb c q2; clear c; have c := cc; clear cc; replace KB := Za (KB.out.step q2))
  | (go_at_call 140; have mk := mk2; refine (H1.out _ _ _ HP1.out).mono ?_; rintro e w5 ⟨rfl, q5⟩; clear mk mk2; have cc := Zb c q5; clear c; have c := cc; clear cc; replace KB := Za (KB.out.step q5))
  | (go_at_call 140; refine (H0.out _ _ _ HP0.out).mono ?_; rintro e w3 ⟨rfl, q3⟩; have mk1 : Hid True := trivial; have cc := Zb c q3; clear c; have c := cc; clear cc; replace KB := Za (KB.out.step q3))
  | (go_at_call 156; refine (HI.out _).mono ?_; rintro e w6 ⟨rfl, q6⟩; have cc := Zb c q6; clear c; have c := cc; clear cc; replace KB := Za (KB.out.step q6))
  | ((with_reducible refine Zag 4 ?_); refine Zf _ rfl _ _ _ rfl g1 _ (B D) rfl rfl KB.out.now HF.out.1 HF.out.2 (Zaw _) ?_; intro w7 B7 r7))
 exact bodyPost_ret (v := .agg (B D)) (results_cell_row rfl _ _ g1 _ _ _ _ rfl B7 Tryz.underlying30 rfl HF.out.1) rfl ⟨rfl, Zd c r7 hg1⟩
def SamE (es : List Ent) (d : Nat) : Prop := ∀ a ∈ es, ∀ b ∈ es, ∀ j, j < d → kb a.1 j = kb b.1 j
theorem SamE.side {es : List Ent} {d : Nat} (hd : d < 256) (b : Int) (h : SamE es d) : SamE (sideOf es d b) (d + 1) := by
 intro x hx y hy j hj
 unfold sideOf at hx hy
 rw [List.mem_filter, beq_iff_eq, Zee _ _ hd] at hx hy
 by_cases e : j = d
 ·rw [e, hx.2, hy.2]
 ·exact h x hx.1 y hy.1 j (by omega)
theorem SamE.few {es : List Ent} (hk : ∀ e ∈ es, Key e.1) (ha : Apart1 es) (h : SamE es 256) : es.length ≤ 1 := by
 match es, hk, ha, h with
 | [], _, _, _ => simp
 | e :: r, hk, ha, h => exact Share.few (key := e.1) hk ha (fun x hx j hj => h x hx e (by simp) j hj)
theorem Zvb : ∀ (n d : Nat) (es : List Ent) (v : Value) (V : Nat → Value) (w : World), d + n = 256 → es.length ≤ 4096 → Apart1 es → SamE es d → (∀ e ∈ es, e.2.length ≤ 1024) → PrAt w v V es →
  Calls Tryz.prog 140 #[v, .int .i64 d] w fun e w' => e = .returned (.agg (B (rt n d es))) ∧ Below w.heap.size w w' := by
 have one : ∀ (n d : Nat) (E : Ent) (a : Option Addr) (cap : Nat) (V : Nat → Value) (w : World), E.2.length ≤ 1024 → PrAt w (.slice a 1 cap) V [E] → Calls Tryz.prog 140 #[.slice a 1 cap, .int .i64 d] w fun e w' => e = .returned (.agg (B (rt n d [E]))) ∧ Below w.heap.size w w' := by
  intro n d E a cap V w hl hv
  obtain ⟨a', cap', e, _, hc, hr⟩ := hv
  injection e with e1 e2 e3
  subst e1
  subst e3
  obtain ⟨g, off, rfl, hcc⟩ := hc (by simp)
  have h0 := hcc 0 (by simp)
  rw [Nat.zero_mul, Nat.add_zero] at h0
  obtain ⟨k0, r0⟩ := hr 0 (by simp)
  rw [Zpz]
  exact Zsh d g off cap E (V 0) w k0 r0 hl h0
 intro n
 induction n with
 | zero =>
  intro d es v V w hd hn ha hs hlen hv
  obtain rfl : d = 256 := by omega
  have hf := SamE.few hv.keys ha hs
  have hv' := hv
  obtain ⟨a, cap, rfl, _⟩ := hv'
  match es, hf, hv, hlen with
  | [], _, _, _ => rw [Zmi]; exact Zjw (256 : Nat) a cap w
  | [E], _, hv, hlen => exact one 0 256 E a cap V w (hlen E (by simp)) hv
 | succ n ih =>
  intro d es v V w hd hn ha hs hlen hv
  have hv' := hv
  obtain ⟨a, cap, rfl, _⟩ := hv'
  match es, hn, ha, hs, hlen, hv with
  | [], _, _, _, _, _ => rw [Zmi]; exact Zjw d a cap w
  | [E], _, _, _, hlen, hv => exact one (n + 1) d E a cap V w (hlen E (by simp)) hv
  | x :: y :: es, hn, ha, hs, hlen, hv =>
   rw [Zkz n d _ (by simp)]
   have hi : ∀ b w' v V, PrAt w' v V (sideOf (x :: y :: es) d b) → Calls Tryz.prog 140 #[v, .int .i64 ((d : Int) + 1)] w' fun e w'' => e = .returned (.agg (B (rt n (d + 1) (sideOf (x :: y :: es) d b)))) ∧ Below w'.heap.size w' w'' := by
    intro b w' v V hv
    have := ih (d + 1) (sideOf (x :: y :: es) d b) v V w' (by omega) (Nat.le_trans (List.length_filter_le _ _) hn) (ha.side d b) (hs.side (by omega) b) (fun e he => hlen e (List.mem_filter.1 he).1) hv
    rwa [show ((d + 1 : Nat) : Int) = (d : Int) + 1 by omega] at this
   exact Zsg d a _ cap (x :: y :: es) _ _ w (by omega) (by simp) (Zmj _ _ _) (Zmj _ _ _) (Zqa _ _ _) (Zqa _ _ _) (fun w' b hb => Zop _ V (x :: y :: es) d b w' (hv.grow hb) hn) (hi 0) (hi 1)
def vNd (mk : Bool) (ca : Int → Ce) (h : Int) : List Int := if (ca h).kind = 1 then nd 1 (ca h).key (vaD (ca h).bs) z32 z32 else if (ca h).kind = 2 then nd 2 z32 z32 (vDg mk ca ((ca h).l : Int)) (vDg mk ca ((ca h).r : Int)) else nd 0 z32 z32 z32 z32
theorem Ybl {w : World} {v : Value} {mk : Bool} {ct : Int → Nat} {ca : Int → Ce} (V : Vw w v mk ct ca) (h : Int) : (vNd mk ca h).length = 129 ∧ ∃ k a b c d, vNd mk ca h = nd k a b c d ∧ Nd k a b c d := by
 have z := Zcb
 have hq : ∃ k a b c d, vNd mk ca h = nd k a b c d ∧ Nd k a b c d := by
  unfold vNd
  split
  ·exact ⟨_, _, _, _, _, rfl, by omega, by omega, (V.ok h).hk.1, Zn _, rfl, rfl, (V.ok h).hk.2, Zaj _, z, z⟩
  ·split
   ·exact ⟨_, _, _, _, _, rfl, by omega, by omega, rfl, rfl, (Zdv V _).1, (Zdv V _).1, z, z, (Zdv V _).2, (Zdv V _).2⟩
   ·exact ⟨_, _, _, _, _, rfl, by omega, by omega, rfl, rfl, rfl, rfl, z, z, z, z⟩
 obtain ⟨k, a, b, c, d, e, n⟩ := hq
 exact ⟨by rw [e]; exact n.length, k, a, b, c, d, e, n⟩
theorem Zay {zs : List Int} (h : zs.length = 129) : (Tryz.prog.info? 136).map (·.size) = some (B zs).size := by rw [Zj, h]; kernel_rfl
theorem Zcu : ∀ w, (zeroValue 136).run Tryz.prog w = .ok (.agg (B (nd 0 z32 z32 z32 z32))) w := zero_of_info (n := 129) (by kernel_rfl) |>.1
theorem Ztd : Value.agg Tryz.zeroCells136 = .agg (B (nd 0 z32 z32 z32 z32)) := by kernel_rfl
theorem Zzr {w : World} {v : Value} {mk : Bool} {ct : Int → Nat} {ca : Int → Ce} (V : Vw w v mk ct ca) (h : Int) (hL : Laid w) : Calls Tryz.prog 106 #[v, .int .i64 h] w fun e w' => e = .returned (.agg (B (vNd mk ca h))) ∧ Below w.heap.size w w' := by
 have HA : Hid (∀ w', Below w.heap.size w w' → Calls Tryz.prog 75 #[v, .int .i64 h] w' fun e w'' => e = .returned (.agg (cz (ca h)).toArray) ∧ Below w'.heap.size w' w'') := fun w' hb => V.atv w' h hb
 have HVA : Hid (∀ w', Below w.heap.size w w' → Calls Tryz.prog 125 #[(ca h).val] w' fun e w'' => e = .returned (.agg (B (vaD (ca h).bs))) ∧ Below w'.heap.size w' w'') := fun w' hb => Zlv _ _ w' ((V.val h).grow hb) (hL.grow hb) (by have := V.len h; omega)
 have HDG : Hid (∀ w' q, Below w.heap.size w w' → Calls Tryz.prog 104 #[v, .int .i64 q] w' fun e w'' => e = .returned (.agg (B (vDg mk ca q))) ∧ Below w'.heap.size w' w'') := fun w' q hb => Zhm (V.grow hb) q (hL.grow hb)
 have HO := Za (V.ok h)
 have hlen := (Ybl V h).1
 have HLl := Za (Zdv V ((ca h).l : Int)).1
 have HLr := Za (Zdv V ((ca h).r : Int)).1
 have hvs := (V.ok h).vs
 have hV : vNd mk ca h = if (ca h).kind = 1 then nd 1 (ca h).key (vaD (ca h).bs) z32 z32 else if (ca h).kind = 2 then nd 2 z32 z32 (vDg mk ca ((ca h).l : Int)) (vDg mk ca ((ca h).r : Int)) else nd 0 z32 z32 z32 z32 := rfl
 generalize vNd mk ca h = N at hV hlen ⊢
 obtain ⟨c, hc⟩ : ∃ c, c = ca h := ⟨_, rfl⟩
 rw [← hc] at HA HVA HO HLl HLr hV hvs
 have HNL := Za hlen
 obtain ⟨sa, sk, hsv⟩ := hvs
 have HSV := Za hsv
 clear hc hL hlen V
 by_cases h1 : c.kind = 1
 ·rw [if_pos h1] at hV
  have HBU : Hid (Tryz.prog.built 136 [(0, .int .u8 1), (1, .agg (B c.key)), (2, .agg (B (vaD c.bs)))] = some (B N)) := by
   show _ = _
   rw [hV]
   exact Zkj c.key (vaD c.bs) HO.out.hk.1 (Zn _)
  have HVA2 : Hid (∀ w', Below w.heap.size w w' → Calls Tryz.prog 125 #[.slice sa c.bs.length sk] w' fun e w'' => e = .returned (.agg (B (vaD c.bs))) ∧ Below w'.heap.size w' w'') := by
   rw [← hsv]
   exact HVA
  have HK := Za h1
  clear hV h1 hsv HVA HDG HLl HLr
  generalize vaD c.bs = VD at HBU HVA2
  go_enter Tryz.func106, Tryz.ntmps106
  go_wp2_with (first
  | ((with_reducible refine Zx 4 ?_); refine Ze _ rfl _ rfl _ Zcu ?_; intro w1 b4 hg4 hl4 B4 b1; have HB4 := Za B4; have Hg4 := Za hg4; have Hl4 := Za hl4; clear B4 hg4 hl4)
  | (go_at_call 75; refine (HA.out _ b1).mono ?_; rintro e w2 ⟨rfl, b2⟩; have HB4a := Za (HB4.out.grow b2); have Hb2 := Za (Zb b1 b2); clear b2)
  | ((with_reducible refine Zx 5 ?_); refine Ze _ rfl _ rfl _ Zah ?_; intro w3 b5 hg5 hl5 B5 b3; have HB4b := Za (HB4a.out.grow b3); have HB5 := Za B5; have Hg5 := Za hg5; have Hb3 := Za b3; have hne : b4 ≠ b5 := (by have := HB4a.out.lt; omega); clear B5 hg5 hl5 b3)
  | ((with_reducible refine Zag 5 ?_); refine Zf _ rfl _ _ _ rfl b5 _ (cz c).toArray rfl rfl HB5.out (Zcs _ (Zal HO.out)) (Zjk _ (Zal HO.out)) (all_oneCell_toArray (Zcm HO.out)) ?_; intro w4 B6 r6; have HB4c := Za (HB4b.out.kept r6 hne); have HB6 := Za B6; have Hb4 := Za (Zd (Zb Hb2.out Hb3.out) r6 (by have := Hg5.out; have := Hb2.out.size; omega)); have c7 := B6.cell 32; simp only [List.getElem?_toArray] at c7; rw [(Zas c HO.out).1, HK.out] at c7; clear B6 r6))
  have HBd : Hid (Below w4.heap.size w4 w4.drew) := below_drewN (Below.refl _ _) 1
  have HBL : Hid (∀ w', Below w4.heap.size w4 w' → Below w.heap.size w w') := fun w' hb => Zb Hb4.out hb
  have HB4d : Hid (∀ w', Below w4.heap.size w4 w' → Blk w' b4 136 (B (nd 0 z32 z32 z32 z32))) := fun w' hb => HB4c.out.grow hb
  have HKR : Hid (∀ w', Below w4.heap.size w4 w' → w'.rangeAt b5 35 (c.key.map (Value.int .u8))) := fun w' hb => (Ybp c HO.out).range (HB6.out.grow hb)
  have HVR : Hid (∀ w', Below w4.heap.size w4 w' → w'.cell? ⟨b5, 67, none⟩ = some (.slice sa c.bs.length sk)) := fun w' hb => by
   rw [(HB6.out.grow hb).cell, ← HSV.out]
   simpa using (Zas c HO.out).2.2.2.1
  clear c7
  refine Zy (S := fun w' => Below w4.heap.size w4 w') 6 (by kernel_rfl) (HBd.out) (fun hHeld => ?_)
  refine tlp 0 (.pointer (some ⟨b5, 35, none⟩)) hHeld ?_
  simp only [zq]
  refine Zi (i := 1) (v := .agg (B c.key)) rfl (by kernel_rfl) (by kernel_rfl) (by kernel_rfl) (by kernel_rfl) (by kernel_rfl) (fun _ _ _ h => h) (yieldsIf_load_mid rfl 31 (.tmp 13) rfl b5 35 rfl (c.key.map (Value.int .u8)) _ (fun w hS => HKR.out _ hS) Tryz.underlying31 rfl (by rw [List.length_map, HO.out.hk.1]; exact Zk)) hHeld ?_
  simp only [zq]
  refine tlp 2 (.pointer (some ⟨b5, 67, none⟩)) hHeld ?_
  simp only [zq]
  refine Zi (i := 3) (v := (.slice sa c.bs.length sk)) rfl (by kernel_rfl) (by kernel_rfl) (by kernel_rfl) (by kernel_rfl) (by kernel_rfl) (fun _ _ _ h => h) (Or.inl ⟨by rfl, fun w hS => by (have q1 := HVR.out _ hS; go_simp)⟩) hHeld ?_
  simp only [zq]
  refine Zac (i := 4) rfl (by kernel_rfl) (fun KQ hK => ?_)
  go_simp
  refine (HVA2.out _ (HBL.out _ hHeld)).mono ?_
  rintro e z1 ⟨rfl, a1⟩
  refine hK.out _ _ (Zb hHeld a1) (fun hHeld => ?_)
  clear hK KQ
  refine Zi (i := 5) (v := .agg (B N)) rfl (by kernel_rfl) (by kernel_rfl) (by kernel_rfl) (by kernel_rfl) (by kernel_rfl) (fun _ _ _ h => h) (Or.inl ⟨by rfl, fun w hS => Zbv _ _ 136 _ (by rfl) _ (by rw [List.map_toArray]; exact HBU.out) w⟩) hHeld ?_
  simp only [zq]
  refine Zad rfl (by kernel_rfl) (by kernel_rfl) (fun KQ hK => ?_)
  refine Zbq _ rfl _ _ _ rfl b4 _ (B N) rfl rfl (HB4d.out _ hHeld) (Zay HNL.out) (by rw [Zj, Zj, HNL.out]; rfl) (Zaw _) ?_
  intro z4 B9 r9
  refine hK.out _ _ ?_
  clear hK KQ
  go_wp2
  exact bodyPost_ret (v := .agg (B N)) (results_cell_row rfl _ _ b4 _ _ _ _ rfl B9 Tryz.underlying136 rfl (Zay HNL.out)) rfl ⟨rfl, Zd (HBL.out _ hHeld) r9 Hg4.out⟩
 ·rw [if_neg h1] at hV
  have n1 : (c.kind == 1) = false := by simp [h1]
  by_cases h2 : c.kind = 2
  ·rw [if_pos h2] at hV
   have HBU : Hid (Tryz.prog.built 136 [(0, .int .u8 2), (3, .agg (B (vDg mk ca (c.l : Int)))), (4, .agg (B (vDg mk ca (c.r : Int))))] = some (B N)) := by
    show _ = _
    rw [hV]
    exact Zje _ _ HLl.out HLr.out
   have HDl : Hid (∀ w', Below w.heap.size w w' → Calls Tryz.prog 104 #[v, .int .i64 (c.l : Int)] w' fun e w'' => e = .returned (.agg (B (vDg mk ca (c.l : Int)))) ∧ Below w'.heap.size w' w'') := fun w' hb => HDG.out w' _ hb
   have HDr : Hid (∀ w', Below w.heap.size w w' → Calls Tryz.prog 104 #[v, .int .i64 (c.r : Int)] w' fun e w'' => e = .returned (.agg (B (vDg mk ca (c.r : Int)))) ∧ Below w'.heap.size w' w'') := fun w' hb => HDG.out w' _ hb
   have HK := Za h2
   generalize vDg mk ca (c.l : Int) = DL at HBU HDl
   generalize vDg mk ca (c.r : Int) = DR at HBU HDr
   clear hV h1 n1 h2 HVA HDG HLl HLr hsv HSV
   go_enter Tryz.func106, Tryz.ntmps106
   go_wp2_with (first
   | ((with_reducible refine Zx 4 ?_); refine Ze _ rfl _ rfl _ Zcu ?_; intro w1 b4 hg4 hl4 B4 b1; have HB4 := Za B4; have Hg4 := Za hg4; have Hl4 := Za hl4; clear B4 hg4 hl4)
   | (go_at_call 75; refine (HA.out _ b1).mono ?_; rintro e w2 ⟨rfl, b2⟩; have HB4a := Za (HB4.out.grow b2); have Hb2 := Za (Zb b1 b2); clear b2)
   | ((with_reducible refine Zx 5 ?_); refine Ze _ rfl _ rfl _ Zah ?_; intro w3 b5 hg5 hl5 B5 b3; have HB4b := Za (HB4a.out.grow b3); have HB5 := Za B5; have Hg5 := Za hg5; have Hb3 := Za b3; have hne : b4 ≠ b5 := (by have := HB4a.out.lt; omega); clear B5 hg5 hl5 b3)
   | ((with_reducible refine Zag 5 ?_); refine Zf _ rfl _ _ _ rfl b5 _ (cz c).toArray rfl rfl HB5.out (Zcs _ (Zal HO.out)) (Zjk _ (Zal HO.out)) (all_oneCell_toArray (Zcm HO.out)) ?_; intro w4 B6 r6; have HB4c := Za (HB4b.out.kept r6 hne); have HB6 := Za B6; have Hb4 := Za (Zd (Zb Hb2.out Hb3.out) r6 (by have := Hg5.out; have := Hb2.out.size; omega)); have c7 := B6.cell 32; simp only [List.getElem?_toArray] at c7; rw [(Zas c HO.out).1, HK.out] at c7; clear B6 r6))
   have HBd : Hid (Below w4.heap.size w4 w4.drew) := below_drewN (Below.refl _ _) 1
   have HBL : Hid (∀ w', Below w4.heap.size w4 w' → Below w.heap.size w w') := fun w' hb => Zb Hb4.out hb
   have HB4d : Hid (∀ w', Below w4.heap.size w4 w' → Blk w' b4 136 (B (nd 0 z32 z32 z32 z32))) := fun w' hb => HB4c.out.grow hb
   have HLR : Hid (∀ w', Below w4.heap.size w4 w' → w'.cell? ⟨b5, 69, none⟩ = some (.int .i64 (c.l : Int))) := fun w' hb => by
    rw [(HB6.out.grow hb).cell]
    simpa using (Zas c HO.out).2.2.2.2.2.1
   have HRR : Hid (∀ w', Below w4.heap.size w4 w' → w'.cell? ⟨b5, 70, none⟩ = some (.int .i64 (c.r : Int))) := fun w' hb => by
    rw [(HB6.out.grow hb).cell]
    simpa using (Zas c HO.out).2.2.2.2.2.2
   clear c7
   refine Zy (S := fun w' => Below w4.heap.size w4 w') 9 (by kernel_rfl) (HBd.out) (fun hHeld => ?_)
   refine tlp 0 v hHeld ?_
   simp only [zq]
   refine tlp 1 (.pointer (some ⟨b5, 69, none⟩)) hHeld ?_
   simp only [zq]
   refine Zi (i := 2) (v := .int .i64 (c.l : Int)) rfl (by kernel_rfl) (by kernel_rfl) (by kernel_rfl) (by kernel_rfl) (by kernel_rfl) (fun _ _ _ h => h) (Or.inl ⟨by rfl, fun w hS => by (have q1 := HLR.out _ hS; go_simp)⟩) hHeld ?_
   simp only [zq]
   refine tlp 4 v hHeld ?_
   simp only [zq]
   refine tlp 5 (.pointer (some ⟨b5, 70, none⟩)) hHeld ?_
   simp only [zq]
   refine Zi (i := 6) (v := .int .i64 (c.r : Int)) rfl (by kernel_rfl) (by kernel_rfl) (by kernel_rfl) (by kernel_rfl) (by kernel_rfl) (fun _ _ _ h => h) (Or.inl ⟨by rfl, fun w hS => by (have q1 := HRR.out _ hS; go_simp)⟩) hHeld ?_
   simp only [zq]
   refine Zac (i := 3) rfl (by kernel_rfl) (fun KQ hK => ?_)
   go_simp
   refine (HDl.out _ (HBL.out _ hHeld)).mono ?_
   rintro e z1 ⟨rfl, a1⟩
   refine hK.out _ _ (Zb hHeld a1) (fun hHeld => ?_)
   clear hK KQ
   refine Zac (i := 7) rfl (by kernel_rfl) (fun KQ hK => ?_)
   go_simp
   refine (HDr.out _ (HBL.out _ hHeld)).mono ?_
   rintro e z2 ⟨rfl, a2⟩
   refine hK.out _ _ (Zb hHeld a2) (fun hHeld => ?_)
   clear hK KQ
   refine Zi (i := 8) (v := .agg (B N)) rfl (by kernel_rfl) (by kernel_rfl) (by kernel_rfl) (by kernel_rfl) (by kernel_rfl) (fun _ _ _ h => h) (Or.inl ⟨by rfl, fun w hS => Zbv _ _ 136 _ (by rfl) _ (by rw [List.map_toArray]; exact HBU.out) w⟩) hHeld ?_
   simp only [zq]
   refine Zad rfl (by kernel_rfl) (by kernel_rfl) (fun KQ hK => ?_)
   refine Zbq _ rfl _ _ _ rfl b4 _ (B N) rfl rfl (HB4d.out _ hHeld) (Zay HNL.out) (by rw [Zj, Zj, HNL.out]; rfl) (Zaw _) ?_
   intro z4 B9 r9
   refine hK.out _ _ ?_
   clear hK KQ
   go_wp2
   exact bodyPost_ret (v := .agg (B N)) (results_cell_row rfl _ _ b4 _ _ _ _ rfl B9 Tryz.underlying136 rfl (Zay HNL.out)) rfl ⟨rfl, Zd (HBL.out _ hHeld) r9 Hg4.out⟩
  ·rw [if_neg h2] at hV
   have n2 : (c.kind == 2) = false := by simp [h2]
   have HVN := Za hV
   obtain ⟨k, hk⟩ : ∃ k, k = c.kind := ⟨_, rfl⟩
   have HK := Za hk
   rw [← hk] at n1 n2
   clear hV h1 h2 HVA HDG HLl HLr hsv HSV hk
   go_enter Tryz.func106, Tryz.ntmps106
   go_wp2_with (first
   | ((with_reducible refine Zx 4 ?_); refine Ze _ rfl _ rfl _ Zcu ?_; intro w1 b4 hg4 hl4 B4 b1; have HB4 := Za B4; have Hg4 := Za hg4; have Hl4 := Za hl4; clear B4 hg4 hl4)
   | (go_at_call 75; refine (HA.out _ b1).mono ?_; rintro e w2 ⟨rfl, b2⟩; have HB4a := Za (HB4.out.grow b2); have Hb2 := Za (Zb b1 b2); clear b2)
   | ((with_reducible refine Zx 5 ?_); refine Ze _ rfl _ rfl _ Zah ?_; intro w3 b5 hg5 hl5 B5 b3; have HB4b := Za (HB4a.out.grow b3); have HB5 := Za B5; have Hg5 := Za hg5; have Hb3 := Za b3; have hne : b4 ≠ b5 := (by have := HB4a.out.lt; omega); clear B5 hg5 hl5 b3)
   | ((with_reducible refine Zag 5 ?_); refine Zf _ rfl _ _ _ rfl b5 _ (cz c).toArray rfl rfl HB5.out (Zcs _ (Zal HO.out)) (Zjk _ (Zal HO.out)) (all_oneCell_toArray (Zcm HO.out)) ?_; intro w4 B6 r6; have HB4c := Za (HB4b.out.kept r6 hne); have HB6 := Za B6; have Hb4 := Za (Zd (Zb Hb2.out Hb3.out) r6 (by have := Hg5.out; have := Hb2.out.size; omega)); have c7 := B6.cell 32; simp only [List.getElem?_toArray] at c7; rw [(Zas c HO.out).1, ← HK.out] at c7; clear B6 r6)
   | ((with_reducible refine Zag 4 ?_); refine Zf _ rfl _ _ _ rfl b4 _ (B N) rfl (by rw [HVN.out]; exact Ztd) HB4c.out (Zay HNL.out) (by rw [Zj, Zj, HNL.out]; rfl) (Zaw _) ?_; intro z4 B9 r9))
   exact bodyPost_ret (v := .agg (B N)) (results_cell_row rfl _ _ b4 _ _ _ _ rfl B9 Tryz.underlying136 rfl (Zay HNL.out)) rfl ⟨rfl, Zd Hb4.out r9 Hg4.out⟩
end Go.Proofs.YtbkolhhgajkjjaaGreatDoor
