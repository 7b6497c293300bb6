/- The document's examples that every law asks (awake), as a contract. -/
import Derived.Test.YtbkolhhgajkjjaaGreatDoorPo44
namespace Go.Proofs.YtbkolhhgajkjjaaGreatDoor
set_option maxHeartbeats 1000000
set_option maxRecDepth 20000
open Go.RowKit
def kyB (b : Int) : List Int := b :: List.replicate 31 0
theorem Ygs (i : Nat) (p : Nat × Ce) : con i p ≤ 2 := by
 unfold con
 split
 ·split <;> split <;> omega
 ·omega
theorem Yhs (cs : List (Nat × Ce)) (i : Nat) : ns cs i ≤ 2 * cs.length := by
 induction cs with
 | nil => simp [ns]
 | cons p r ih =>
  have h := Ygs i p
  simp only [ns, List.map_cons, List.sum_cons, List.length_cons] at ih ⊢
  omega
theorem Wf.ccLe {cs : List (Nat × Ce)} (W : Wf cs []) (i b : Nat) (h : Go.Proofs.YtbkolhhgajkjjaaGreatDoor.own cs [] i ≤ b) : cc cs i ≤ 2 * cs.length + b := by
 have h1 := W.own i
 have h2 := W.ab i
 have h3 := Yhs cs i
 rw [List.count_nil] at h1
 omega
structure Rt (cs : List (Nat × Ce)) (h : Nat) (T : Tre) : Prop where
 tree : IsT cs h T
 dp : (sdC cs h).kind = 2 → (sdC cs h).dp = 0
 own : h = 0 ∨ 0 < own cs [] (h - 1)
theorem Rt.root {cs : List (Nat × Ce)} {h : Nat} {T : Tre} (r : Rt cs h T) : vRt true (cot cs h) (cat cs h) h = 0 := by
 unfold vRt
 rw [if_pos rfl]
 by_cases h0 : (h : Int) = 0
 ·rw [if_pos h0]
 ·rw [if_neg h0]
  rcases r.tree.occ with e | ⟨e1, e2⟩
  ·exact absurd (by omega) h0
  ·have hc : cot cs (h : Int) = cc cs (h - 1) := by rw [cot, if_pos (by omega), show ((h : Int) - 1).toNat = h - 1 by omega]
   rw [hc, if_neg (by omega)]
   have hd := r.dp
   rw [← Zaf] at hd
   unfold vDp
   rw [if_pos rfl]
   by_cases k : (cat cs (h : Int)).kind = 2
   ·rw [if_pos k, hd k]
    rfl
   ·rw [if_neg k]
    rfl
theorem Rt.refuse {cs : List (Nat × Ce)} {h : Nat} {T : Tre} (r : Rt cs h T) {n : Nat} (hn : n ≤ 1024) : vRf true (cot cs h) (cat cs h) h n = 0 := by
 unfold vRf
 rw [if_pos rfl, if_neg (by omega)]
 unfold vAh
 rw [if_pos r.root, if_neg]
 rintro ⟨h0, q⟩
 have h1 : h ≠ 0 := fun e => h0 (by omega)
 have ho := r.own.resolve_left h1
 have hc : cot cs (h : Int) = cc cs (h - 1) := by rw [cot, if_pos (by omega), show ((h : Int) - 1).toNat = h - 1 by omega]
 rw [hc, Zaf, sdC, if_neg h1] at q
 unfold Go.Proofs.YtbkolhhgajkjjaaGreatDoor.own at ho
 rw [List.count_nil] at ho
 omega
theorem Rt.zero (cs : List (Nat × Ce)) : Rt cs 0 .emp := ⟨rfl, fun k => absurd k (by show ¬ zc.kind = 2; decide), .inl rfl⟩
def upE (E : List Ent) (K bs : List Int) : List Ent := (K, bs) :: E.filter fun e => !(e.1 == K)
def costN (T : Tre) (K bs : List Int) (ss : List Nat) : Nat := if T.efin K = [(K, bs)] then 0 else 1 + ss.length
structure PaIs (cs : List (Nat × Ce)) (fr : List Nat) (T : Tre) (h : Nat) (K bs : List Int) (ss : List Nat) (top : Nat) (cs' : List (Nat × Ce)) (fr' : List Nat) (T' : Tre) : Prop where
 rt : Rt cs' top T'
 ents : T'.ents.Perm (upE T.ents K bs)
 pos : 1 ≤ top
 own : ∀ i, own cs' [] i + (if h = i + 1 then 1 else 0) = own cs [] i + (if top = i + 1 then 1 else 0)
 keep : ∀ x X, IsT cs x X → (x = 0 ∨ 0 < cc cs' (x - 1)) → IsT cs' x X
 noc : noc cs' ≤ noc cs + costN T K bs ss
 same : T.efin K = [(K, bs)] → top = h ∧ cs' = cs ∧ fr' = fr
 just : h = 0 ∨ h ∈ ss → Go.Proofs.YtbkolhhgajkjjaaGreatDoor.noc cs' = Go.Proofs.YtbkolhhgajkjjaaGreatDoor.noc cs + costN T K bs ss
 new : T.efin K ≠ [(K, bs)] → cc cs (top - 1) = 0
 len : cs'.length ≤ cs.length + costN T K bs ss
def PaPost (w0 : World) (S : List Nat) (g gs room : Nat) (cs : List (Nat × Ce)) (fr : List Nat) (T : Tre) (h : Nat) (K bs : List Int) (ss : List Nat) (e : Ending) (w' : World) : Prop :=
 ∃ (top : Nat) (cs' : List (Nat × Ce)) (fr' : List Nat) (T' : Tre), e = .returned (.tuple #[.int .i64 (top : Int), .int .i64 0]) ∧ PaIs cs fr T h K bs ss top cs' fr' T' ∧ Hs w0 S w' g gs room cs' fr'
theorem Yaz {w0 w : World} {S : List Nat} {g gs room : Nat} {cs : List (Nat × Ce)} {fr : List Nat} (H : Hs w0 S w g gs room cs fr) {h : Nat} {T : Tre} (r : Rt cs h T) {K : List Int} (hK : Key K) {u : Value} {bs : List Int} (hu : Reads w u bs) (hl : bs.length ≤ 1024) (hb : ∀ i, own cs [] i ≤ 1000000) {ss : List Nat} (hss : BesIs K T h ss) (h256 : ss.length ≤ 256) :
  Calls Tryz.prog 43 #[.pointer (some ⟨g, 0, none⟩), .int .i64 (h : Int), .agg (B K), u] w fun e w' => e = .returned (.tuple #[.int .i64 (costN T K bs ss : Int), .int .i64 0]) ∧ Below w.heap.size w w' := by
 by_cases hsm : T.efin K = [(K, bs)]
 ·rw [costN, if_pos hsm]
  exact Zwx H h T r.tree K hK u bs hu (r.refuse hl) r.root hsm
 ·rw [costN, if_neg hsm]
  obtain ⟨_, hr1, hr2⟩ := H.sizes
  exact Yax H h T r.tree K hK u bs hu (r.refuse hl) r.root hsm ss hss h256 (fun i => by have := H.2.ccLe i 1000000 (hb i); omega)
theorem Ygg (room : Nat) (w : World) (h1 : 1 ≤ room) (h2 : room ≤ 65536) : Calls Tryz.prog 8 #[.int .i64 (room : Int)] w fun e w' => ∃ g gs, e = .returned (.tuple #[.pointer (some ⟨g, 0, none⟩), .int .i64 0]) ∧ Hs w [] w' g gs room [] [] := by
 refine (Yds room w h1 h2).mono ?_
 rintro e w' ⟨g, gs, rfl, hg, hgs, s, b⟩
 refine ⟨g, gs, rfl, ⟨_, _, s, Mod.of_below b _, fun k hk => .inr ?_⟩, Wf.new⟩
 rcases Zco.1 hk with rfl | hk | ⟨i, hk⟩
 ·exact hg
 ·rcases Zae.1 hk with rfl | hk | hk
  ·exact hgs
  ·cases hk
  ·cases hk
 ·simp only [ce, List.getElem?_nil, Option.getD_none] at hk
  cases hk
section
variable {w0 w : World} {S0 : List Nat} {q room : Nat} {cs : List (Nat × Ce)} {fr : List Nat}
theorem Zts {T : Tre} {root : Nat} (hT : IsT cs root T) {K bs : List Int} (hs : T.efin K = [(K, bs)]) : thP (cat cs (T.fin K root : Int)) K bs = true := by
 rcases Zep K T root hT with ⟨_, f2⟩ | ⟨k, b, f1, f2, f3, f4, f5, f6⟩
 ·rw [f2] at hs; cases hs
 ·rw [f1] at hs
  injection hs with hs _
  injection hs with e1 e2
  rw [Zfc f2]
  unfold thP
  rw [f4, f5, f6, e1, e2]
  simp
theorem Ybn {T : Tre} {root : Nat} (hT : IsT cs root T) {K bs : List Int} (hs : T.efin K ≠ [(K, bs)]) : thP (cat cs (T.fin K root : Int)) K bs = false := by
 rcases Zep K T root hT with ⟨f1, _⟩ | ⟨k, b, f1, f2, f3, f4, f5, f6⟩
 ·rw [f1]
  rfl
 ·rw [Zfc f2]
  unfold thP
  rw [f4, f5, f6]
  rw [f1] at hs
  by_cases e1 : k = K
  ·by_cases e2 : b = bs
   ·exact absurd (by rw [e1, e2]) hs
   ·simp [e2]
  ·simp [e1]
theorem Zzd (V : Hr w0 S0 w q room cs fr) (h : Int) (K : List Int) (u : Value) (bs : List Int) (hu : Reads w u bs) (e0 : Int) (he : vRf true (cot cs h) (cat cs h) h bs.length = e0) (h0 : e0 ≠ 0) : Calls Tryz.prog 46 #[.pointer (some ⟨q, 0, none⟩), .int .i64 h, .agg (B K), u] w fun e w' => e = .returned (.tuple #[.int .i64 0, .int .i64 e0]) ∧ Below w.heap.size w w' := by
 obtain ⟨a, c, rfl, _⟩ := hu
 have HRF : Hid (∀ w', Below w.heap.size w w' → Calls Tryz.prog 114 #[.pointer (some ⟨q, 0, none⟩), .int .i64 h, .slice a bs.length c] w' fun e w'' => e = .returned (.int .i64 e0) ∧ Below w'.heap.size w' w'') := fun w' hb => by
  have := Zgo (V.grow hb) h a bs.length c
  rwa [he] at this
 have hb0 : (e0 != 0) = true := by simpa using h0
 generalize bs.length = n at HRF ⊢
 clear V he h0
 go_enter Tryz.func46, Tryz.ntmps46
 go_wp2_with (first
  | ((with_reducible refine Zo 6 ?_); refine Zc _ rfl _ _ rfl _ rfl ?_; intro w1 b5 hg5 hl5 B5 q5; have HQ5 := Za q5; clear hg5 hl5 B5 q5)
  | (go_at_call 114; refine (HRF.out _ HQ5.out).mono ?_; rintro e w2 ⟨rfl, b2⟩; have HQ2 := Za (Zb HQ5.out b2); clear b2))
 go_ret2
 exact ⟨rfl, HQ2.out⟩
theorem Zuv (V : Hr w0 S0 w q room cs fr) (h5 : room ≤ 5000) (h : Int) (K : List Int) (u : Value) (bs : List Int) (hu : Reads w u bs) (he : vRf true (cot cs h) (cat cs h) h bs.length = 0) (hf : room < noc cs + 258) : Calls Tryz.prog 46 #[.pointer (some ⟨q, 0, none⟩), .int .i64 h, .agg (B K), u] w fun e w' => e = .returned (.tuple #[.int .i64 0, .int .i64 9]) ∧ Below w.heap.size w w' := by
 obtain ⟨a, c, rfl, _⟩ := hu
 have HRF : Hid (∀ w', Below w.heap.size w w' → Calls Tryz.prog 114 #[.pointer (some ⟨q, 0, none⟩), .int .i64 h, .slice a bs.length c] w' fun e w'' => e = .returned (.int .i64 0) ∧ Below w'.heap.size w' w'') := fun w' hb => by
  have := Zgo (V.grow hb) h a bs.length c
  rwa [he] at this
 have HFT : Hid (∀ w', Below w.heap.size w w' → Calls Tryz.prog 61 #[.pointer (some ⟨q, 0, none⟩), .int .i64 1] w' fun e w'' => e = .returned (.bool false) ∧ Below w'.heap.size w' w'') := fun w' hb => by
  have := Zqd (V.grow hb) h5 1
  rwa [show fitsN (noc cs) room 1 = false by simp [fitsN]; omega] at this
 generalize bs.length = n at HRF ⊢
 clear V he hf
 go_enter Tryz.func46, Tryz.ntmps46
 go_wp2_with (first
  | ((with_reducible refine Zo 6 ?_); refine Zc _ rfl _ _ rfl _ rfl ?_; intro w1 b5 hg5 hl5 B5 q5; have HQ5 := Za q5; clear hg5 hl5 B5 q5)
  | (go_at_call 114; refine (HRF.out _ HQ5.out).mono ?_; rintro e w2 ⟨rfl, b2⟩; have HQ2 := Za (Zb HQ5.out b2); clear b2)
  | (go_at_call 61; refine (HFT.out _ HQ2.out).mono ?_; rintro e w3 ⟨rfl, b3⟩; have HQ3 := Za (Zb HQ2.out b3); clear b3))
 go_ret2
 exact ⟨rfl, HQ3.out⟩
theorem Zuu (V : Hr w0 S0 w q room cs fr) (h5 : room ≤ 5000) {h : Nat} {T : Tre} (r : Rt cs h T) {K : List Int} (hK : Key K) {u : Value} {bs : List Int} (hu : Reads w u bs) (hl : bs.length ≤ 1024) (hf : noc cs + 258 ≤ room) (hsm : T.efin K = [(K, bs)]) : Calls Tryz.prog 46 #[.pointer (some ⟨q, 0, none⟩), .int .i64 (h : Int), .agg (B K), u] w fun e w' => e = .returned (.tuple #[.int .i64 (h : Int), .int .i64 0]) ∧ Below w.heap.size w w' := by
 have HWY : Hid (∀ w', Below w.heap.size w w' → Calls Tryz.prog 52 #[.pointer (some ⟨q, 0, none⟩), .int .i64 (h : Int), .agg (B K)] w' fun e w'' => ∃ a c n, e = .returned (.tuple #[.slice a n c, .int .i64 (T.fin K h : Int)]) ∧ Below w'.heap.size w' w'') := fun w' hb => (Ycw (V.grow hb) h T r.tree K hK r.dp).mono fun e w'' ⟨a, c, e1, _, b⟩ => ⟨a, c, _, e1, b⟩
 have HTH : Hid (∀ w', Below w.heap.size w w' → Calls Tryz.prog 115 #[.pointer (some ⟨q, 0, none⟩), .int .i64 (T.fin K h : Int), .agg (B K), u] w' fun e w'' => e = .returned (.bool true) ∧ Below w'.heap.size w' w'') := fun w' hb => by
  have := Zoh (V.grow hb) h5 (T.fin K h : Int) K hK u bs (hu.grow hb)
  rwa [Zts r.tree hsm] at this
 obtain ⟨a, c, hue, _⟩ := hu
 subst hue
 have HRF : Hid (∀ w', Below w.heap.size w w' → Calls Tryz.prog 114 #[.pointer (some ⟨q, 0, none⟩), .int .i64 (h : Int), .slice a bs.length c] w' fun e w'' => e = .returned (.int .i64 0) ∧ Below w'.heap.size w' w'') := fun w' hb => by
  have := Zgo (V.grow hb) (h : Int) a bs.length c
  rwa [r.refuse hl] at this
 have HFT : Hid (∀ w', Below w.heap.size w w' → Calls Tryz.prog 61 #[.pointer (some ⟨q, 0, none⟩), .int .i64 1] w' fun e w'' => e = .returned (.bool true) ∧ Below w'.heap.size w' w'') := fun w' hb => by
  have := Zqd (V.grow hb) h5 1
  rwa [show fitsN (noc cs) room 1 = true by simp [fitsN]; omega] at this
 have HPS : Hid ((Tryz.prog.info? 31).map (·.size) = some (B K).size) := by show _ = _; rw [Zj, hK.1]; exact Zk
 generalize (h : Int) = hh at HWY HRF ⊢
 generalize (T.fin K h : Int) = ff at HWY HTH
 generalize bs.length = n at HRF HTH ⊢
 clear V hf hK r hsm
 go_enter Tryz.func46, Tryz.ntmps46
 go_wp2_with (first
  | ((with_reducible refine Zo 6 ?_); refine Zc _ rfl _ _ rfl _ rfl ?_; intro w1 b5 hg5 hl5 B5 q5; have HQ5 := Za q5; have HB5 := Za B5; clear hg5 hl5 B5 q5)
  | (go_at_call 114; refine (HRF.out _ HQ5.out).mono ?_; rintro e w2 ⟨rfl, b2⟩; have HQ2 := Za (Zb HQ5.out b2); have HB2 := Za (HB5.out.grow b2); clear b2)
  | (go_at_call 61; refine (HFT.out _ HQ2.out).mono ?_; rintro e w3 ⟨rfl, b3⟩; have HQ3 := Za (Zb HQ2.out b3); have HB3 := Za (HB2.out.grow b3); clear b3)
  | ((with_reducible refine Zl 32 6 ?_); refine Zh _ rfl _ _ rfl b5 _ rfl HB3.out _ _ Tryz.underlying31 HPS.out ?_)
  | (go_at_call 52; refine (HWY.out _ HQ3.out).mono ?_; rintro e w4 ⟨wa, wc, wn, rfl, b4⟩; have HQ4 := Za (Zb HQ3.out b4); have HB4 := Za (HB3.out.grow b4); clear b4)
  | ((with_reducible refine Zl 38 6 ?_); refine Zh _ rfl _ _ rfl b5 _ rfl HB4.out _ _ Tryz.underlying31 HPS.out ?_)
  | (go_at_call 115; refine (HTH.out _ HQ4.out).mono ?_; rintro e w5 ⟨rfl, b6⟩; have HQ6 := Za (Zb HQ4.out b6); clear b6))
 go_ret2
 exact ⟨rfl, HQ6.out⟩
theorem Zzc (V0 : Hr w0 S0 w q room cs fr) (h5 : room ≤ 5000) {h : Nat} {T : Tre} (r : Rt cs h T) {K : List Int} (hK : Key K) {u : Value} {bs : List Int} (hu0 : Kq S0 w0 fun w' => Reads w' u bs) (hl : bs.length ≤ 1024) (hct : ∀ i, cc cs i + 257 < 1073741824) (hf : noc cs + 258 ≤ room) (hne : T.efin K ≠ [(K, bs)]) {ss : List Nat} (hss : BesIs K T h ss) (hbo : BesOk cs T.ents K ss) {topF : Nat} {cs' : List (Nat × Ce)} {fr' : List Nat} (hp : PutTo cs fr h K bs ss topF cs' fr') : Calls Tryz.prog 46 #[.pointer (some ⟨q, 0, none⟩), .int .i64 (h : Int), .agg (B K), u] w fun e w' => e = .returned (.tuple #[.int .i64 (topF : Int), .int .i64 0]) ∧ Hr w0 S0 w' q room cs' fr' := by
 obtain ⟨S, V, hN, hkq, hS, hbk⟩ := V0.from
 have hu := hkq _ hu0
 have W := V.wf
 obtain ⟨v', cs2, fr2, ok, hz, hfin⟩ := hp
 have hlen := Tre.hs_oth K T h
 have HS : Hid (∀ b, w.heap.size ≤ b → b ∉ S) := fun b hb e => by have := hS b e; omega
 have HPS : Hid ((Tryz.prog.info? 31).map (·.size) = some (B K).size) := by show _ = _; rw [Zj, hK.1]; exact Zk
 have HWR : Hid (∀ w', Below w.heap.size w w' → Calls Tryz.prog 114 #[.pointer (some ⟨q, 0, none⟩), .int .i64 (h : Int), u] w' fun e w'' => e = .returned (.int .i64 0) ∧ Below w'.heap.size w' w'') := fun w' hb => by
  obtain ⟨a, c, hue, _⟩ := hu.now
  have := Zgo (V.grow hb) (h : Int) a bs.length c
  rw [r.refuse hl] at this
  rw [hue]
  exact this
 have HFT : Hid (∀ w', Below w.heap.size w w' → Calls Tryz.prog 61 #[.pointer (some ⟨q, 0, none⟩), .int .i64 1] w' fun e w'' => e = .returned (.bool true) ∧ Below w'.heap.size w' w'') := fun w' hb => by
  have := Zqd (V.grow hb) h5 1
  rwa [show fitsN (noc cs) room 1 = true by simp [fitsN]; omega] at this
 have HWY : Hid (∀ w', Below w.heap.size w w' → Calls Tryz.prog 52 #[.pointer (some ⟨q, 0, none⟩), .int .i64 (h : Int), .agg (B K)] w' fun e w'' => ∃ a c, e = .returned (.tuple #[.slice a (T.hs K h).length c, .int .i64 (T.fin K h : Int)]) ∧ w''.ownsRow w'.heap.size 3 1 (.slice a (T.hs K h).length c) (T.hs K h).length (nats (T.hs K h)) ∧ Below w'.heap.size w' w'') := fun w' hb => Ycw (V.grow hb) h T r.tree K hK r.dp
 have HTH : Hid (∀ w', Below w.heap.size w w' → Calls Tryz.prog 115 #[.pointer (some ⟨q, 0, none⟩), .int .i64 (T.fin K h : Int), .agg (B K), u] w' fun e w'' => e = .returned (.bool false) ∧ Below w'.heap.size w' w'') := fun w' hb => by
  have := Zoh (V.grow hb) h5 (T.fin K h : Int) K hK u bs (hu.now.grow hb)
  rwa [Ybn r.tree hne] at this
 have HLF : Hid (∀ w5, Below w.heap.size w w5 → Calls Tryz.prog 24 #[.pointer (some ⟨q, 0, none⟩), .agg (B K), u] w5 fun e w'' => ∃ t : Nat, e = .returned (.tuple #[.int .i64 (t : Int), .int .i64 0]) ∧ RW9 w5 S q room cs T.ents K bs ss cs2 fr2 topF ss.length t w'') := fun w5 hb => Zyz (V.rebase hb) h5 hbo hf hct hK (hu.now.grow hb) hl ok hz
 have HGR : Hid (∀ w5 m t w' w'', RW9 w5 S q room cs T.ents K bs ss cs2 fr2 topF m t w' → Below w'.heap.size w' w'' → RW9 w5 S q room cs T.ents K bs ss cs2 fr2 topF m t w'') := fun w5 m t w' w'' h1 h2 => h1.grow h2
 have HKP : Hid (∀ w5 m t w' (Q : World → Prop), Kq S w5 Q → RW9 w5 S q room cs T.ents K bs ss cs2 fr2 topF m t w' → Q w') := fun w5 m t w' Q k h1 => h1.kq k
 have HKM : Hid (∀ w5 m t w' (Q : World → Prop), Kq S w5 Q → RM9 w5 S q room cs T.ents K bs ss cs2 fr2 topF m t w' → Q w') := fun w5 m t w' Q k h1 => h1.kq k
 have HNO : Hid (∀ w5 m t w', ss.getD m 0 = 0 → RW9 w5 S q room cs T.ents K bs ss cs2 fr2 topF (m + 1) t w' → RM9 w5 S q room cs T.ents K bs ss cs2 fr2 topF m t w') := fun w5 m t w' h0 h1 => Zyx h1 h0
 have HHO : Hid (∀ w5 m t w', m < ss.length → ss.getD m 0 ≠ 0 → RW9 w5 S q room cs T.ents K bs ss cs2 fr2 topF (m + 1) t w' → Calls Tryz.prog 28 #[.pointer (some ⟨q, 0, none⟩), .int .i64 (ss.getD m 0 : Int)] w' fun e w'' => e = .returned (.int .i64 0) ∧ RM9 w5 S q room cs T.ents K bs ss cs2 fr2 topF m t w'') := fun w5 m t w' hm h0 h1 => Zzb hbo hct hf hm h0 h1
 have HMA : Hid (∀ w5 m (t : Nat) w', m < ss.length → RM9 w5 S q room cs T.ents K bs ss cs2 fr2 topF m t w' → Calls Tryz.prog 119 #[.pointer (some ⟨q, 0, none⟩), .agg (B K), .int .i64 (m : Int), .int .i64 (t : Int), .int .i64 (ss.getD m 0 : Int)] w' fun e w'' => ∃ t' : Nat, e = .returned (.int .i64 (t' : Int)) ∧ RW9 w5 S q room cs T.ents K bs ss cs2 fr2 topF m t' w'') := fun w5 m t w' hm h1 => Zyy hbo hf h5 hK hm h1
 have HOT : Hid (∀ w5 m t w', m < (T.hs K h).length → RW9 w5 S q room cs T.ents K bs ss cs2 fr2 topF (m + 1) t w' → Calls Tryz.prog 55 #[.pointer (some ⟨q, 0, none⟩), .agg (B K), .int .i64 (m : Int), .int .i64 ((T.hs K h).getD m 0 : Int)] w' fun e w'' => e = .returned (.int .i64 (ss.getD m 0 : Int)) ∧ RW9 w5 S q room cs T.ents K bs ss cs2 fr2 topF (m + 1) t w'') := fun w5 m t w' hm h1 => Zup W r.tree r.dp hK hss hm h1
 obtain ⟨P, hP⟩ : ∃ P : Ending → World → Prop, P = fun e w' => e = .returned (.tuple #[.int .i64 (topF : Int), .int .i64 0]) ∧ Hr w0 S0 w' q room cs' fr' := ⟨_, rfl⟩
 have HDR : Hid (0 < (h : Int) → ∀ w5 (t : Nat) w', Below w.heap.size w w5 → RW9 w5 S q room cs T.ents K bs ss cs2 fr2 topF 0 t w' → Calls Tryz.prog 32 #[.pointer (some ⟨q, 0, none⟩), .int .i64 (h : Int)] w' fun e w'' => ∃ x y : Int, e = .returned (.tuple #[.int .i64 x, .int .i64 y]) ∧ P (.returned (.tuple #[.int .i64 (t : Int), .int .i64 0])) w'') := fun h0 w5 t w' hb h1 => by
  obtain ⟨rfl, H2, I2⟩ := Zuq h1
  obtain ⟨_, n, run⟩ := hfin.resolve_left (fun q => by omega)
  have ho2 : 0 < own cs2 [] (h - 1) := by
   have := I2.own (h - 1)
   rw [List.take_zero, List.count_nil] at this
   have := r.own.resolve_left (by omega)
   omega
  have run' : Run cs2 fr2 [h - 1 + 1] cs' fr' n := by rw [show h - 1 + 1 = h by omega]; exact run
  have hd := Zwh H2 (h - 1) ho2 run'
  rw [show (((h - 1 : Nat) : Int) + 1) = (h : Int) by omega] at hd
  refine hd.mono ?_
  rintro e w'' ⟨rfl, k⟩
  rw [hP]
  exact ⟨_, _, rfl, rfl, hbk _ _ _ (Hr.back hb k)⟩
 have HND : Hid ((h : Int) ≤ 0 → ∀ w5 (t : Nat) w', Below w.heap.size w w5 → RW9 w5 S q room cs T.ents K bs ss cs2 fr2 topF 0 t w' → P (.returned (.tuple #[.int .i64 (t : Int), .int .i64 0])) w') := fun h0 w5 t w' hb h1 => by
  obtain ⟨rfl, H2, I2⟩ := Zuq h1
  obtain ⟨_, rfl, rfl⟩ := hfin.resolve_right (fun q => by have := q.1; omega)
  rw [hP]
  exact ⟨rfl, hbk _ _ _ (Hr.back hb H2)⟩
 rw [← hP]
 have hfo := Zep K T h r.tree
 have hoc : T.fin K h = 0 ∨ 0 < cc cs (T.fin K h - 1) := by
  rcases hfo with ⟨e, _⟩ | ⟨_, _, _, _, e, _⟩
  ·exact .inl e
  ·exact .inr e
 have HKD0 : Hid (∀ w5 t w', RW9 w5 S q room cs T.ents K bs ss cs2 fr2 topF ss.length t w' → Calls Tryz.prog 54 #[.pointer (some ⟨q, 0, none⟩), .int .i64 (T.fin K h : Int)] w' fun e w'' => e = .returned (.int .u8 (sdC cs (T.fin K h)).kind) ∧ RW9 w5 S q room cs T.ents K bs ss cs2 fr2 topF ss.length t w'') := fun w5 t w' h1 => Zza W hoc h1
 have HKY0 : Hid (∀ w5 t w', RW9 w5 S q room cs T.ents K bs ss cs2 fr2 topF ss.length t w' → Calls Tryz.prog 97 #[.pointer (some ⟨q, 0, none⟩), .int .i64 (T.fin K h : Int)] w' fun e w'' => e = .returned (.agg (B (sdC cs (T.fin K h)).key)) ∧ RW9 w5 S q room cs T.ents K bs ss cs2 fr2 topF ss.length t w'') := fun w5 t w' h1 => Ycx W h5 hoc h1
 rcases hfo with ⟨f1, f2⟩ | ⟨k, b, f1, f2, f3, f4, f5, f6⟩
 ·have hsl : ss = T.oth K := by
   rcases hss with ⟨_, e⟩ | ⟨b, e, _⟩ | ⟨k, b, c, e, _⟩
   ·exact e
   ·rw [f2] at e; cases e
   ·rw [f2] at e; cases e
  have hk0 : (sdC cs (T.fin K h)).kind = 0 := by rw [f1]; rfl
  rw [hk0] at HKD0
  have hsw : (T.hs K h).length = ss.length := by rw [hlen, hsl]
  exact Yda (sg := fun m => ss.getD m 0) HS HPS rfl ⟨by omega, hbo.len⟩ HWR HFT HWY HTH HLF HGR HKP HKM HNO HHO HMA HOT HDR HND HKD0 hsw
 ·have hsd : sdC cs (T.fin K h) = ce cs (T.fin K h - 1) := if_neg (by omega)
  rw [hsd, f4] at HKD0
  rw [hsd, f5] at HKY0
  rcases hss with ⟨e, _⟩ | ⟨b', e, hs⟩ | ⟨k', b', c, e, e2, e3, e4, e5, hs⟩
  ·rw [f1] at e; cases e
  ·rw [f1] at e
   injection e with e _
   injection e with e _
   subst e
   have hsw : (T.hs k h).length = ss.length := by rw [hlen, hs]
   exact Ycz (sg := fun m => ss.getD m 0) HS HPS rfl ⟨by omega, hbo.len⟩ HWR HFT HWY HTH HLF HGR HKP HKM HNO HHO HMA HOT HDR HND HKD0 HKY0 (fun w => by rw [Zdk k k hK.1 hK.1 w, decide_eq_true rfl]) hsw
  ·rw [f1] at e
   injection e with e _
   injection e with e _
   subst e
   have hky : Key k := ((Zbj W T h r.tree).ent (k, b) (Zez K T (k, b) (by rw [f1]; simp))).1
   have hsn : ss.length = c + 1 := by rw [hs, Zeb _ _ _ e4]
   have hfc : T.fin K h = ss.getD c 0 := by rw [hs, Zlq _ _ _ e4]
   have hz0 : ∀ m, (T.hs K h).length ≤ m → m < c → ss.getD m 0 = 0 := fun m h1 h2 => by rw [hs, Zrf _ _ _ _ (by rw [← hlen]; exact h1) h2]
   exact Yfj (sg := fun m => ss.getD m 0) HS HPS rfl ⟨by omega, hbo.len⟩ HWR HFT HWY HTH HLF HGR HKP HKM HNO HHO HMA HOT HDR HND HKD0 ⟨by omega, hsn, hz0⟩ (by show (T.fin K h : Int) = _; rw [hfc]) (by show ss.getD c 0 ≠ 0; omega) HKY0 (fun w' => Zgr K k c w' hK hky e3) (fun w => by rw [Zdk k K hky.1 hK.1 w, decide_eq_false e2])
end
end Go.Proofs.YtbkolhhgajkjjaaGreatDoor
