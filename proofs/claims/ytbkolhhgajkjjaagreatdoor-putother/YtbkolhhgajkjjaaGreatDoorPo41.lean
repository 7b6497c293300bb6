/- Arrays of bytes held against each other; bytes.Equal; tag.Clash, as a contract. -/
import Derived.Test.YtbkolhhgajkjjaaGreatDoorPo40
namespace Go.Proofs.YtbkolhhgajkjjaaGreatDoor
set_option maxHeartbeats 4000000
set_option maxRecDepth 20000
open Go.RowKit
theorem Znm (x y : Value) (xs ys : List Int) (w : World) (hx : Reads w x xs) (hy : Reads w y ys) :
  Calls Tryz.prog 143 #[x, y] w fun e w' => e = .returned (.bool (decide (xs = ys))) ∧ w' = w := by
 have c1 := Zbh hx
 have c2 := Zbh hy
 have HB : Hid (((strOfNums xs).toList == (strOfNums ys).toList) = decide (xs = ys)) := by
  obtain ⟨_, _, _, _, _, h1, _⟩ := hx
  obtain ⟨_, _, _, _, _, h2, _⟩ := hy
  exact Zod xs ys h1 h2
 clear hx hy
 go_enter Tryz.func143, Tryz.ntmps143
 go_wp2
 go_ret
 exact ⟨by rw [← HB.out]; rfl, rfl⟩
def BesIs (K : List Int) (T : Tre) (h : Nat) (ss : List Nat) : Prop :=
 (T.efin K = [] ∧ ss = T.oth K) ∨ (∃ b, T.efin K = [(K, b)] ∧ ss = T.oth K) ∨ (∃ k b c, T.efin K = [(k, b)] ∧ k ≠ K ∧ IsCommon K k c ∧ (T.oth K).length ≤ c ∧ c < 256 ∧ ss = besX (T.oth K) c (T.fin K h))
theorem Yce {cs : List (Nat × Ce)} {pend : List Nat} (W : Wf cs pend) (K : List Int) (hK : Key K) {T : Tre} {h : Nat} (hT : IsT cs h T) (hd : (sdC cs h).kind = 2 → (sdC cs h).dp = 0) : ∃ ss, BesIs K T h ss ∧ BesOk cs T.ents K ss := by
 rcases Zep K T h hT with ⟨f1, f2⟩ | ⟨k, b, f1, f2, f3, f4, f5, f6⟩
 ·exact ⟨_, .inl ⟨f2, rfl⟩, Zxp W K hT hd (fun e he => by rw [f2] at he; cases he)⟩
 ·by_cases q : k = K
  ·subst q
   exact ⟨_, .inr (.inl ⟨b, f1, rfl⟩), Zxp W k hT hd (fun e he => by rw [f1] at he; rw [List.mem_singleton.1 he])⟩
  ·obtain ⟨c, hc⟩ := Zno K k
   have hk : Key k := ((Zbj W T h hT).ent (k, b) (Zez K T (k, b) (by rw [f1]; simp))).1
   have hc2 : c < 256 := by
    apply Nat.lt_of_not_le
    intro h256
    have : c = 256 := by have := hc.1; omega
    subst this
    exact q (hc.whole hK hk).symm
   obtain ⟨b1, b2⟩ := Zxq W K hT hd f1 c hc hc2
   exact ⟨_, .inr (.inr ⟨k, b, c, f1, q, hc, b1, hc2, rfl⟩), b2⟩
theorem Zta {w : World} {v : Value} {cs : List (Nat × Ce)} {pend : List Nat} (V : Vw w v true (cot cs) (cat cs)) (W : Wf cs pend) (h : Nat) (T : Tre) (hT : IsT cs h T) (K : List Int) (hK : Key K) (hrd : (sdC cs h).kind = 2 → (sdC cs h).dp = 0) (a : Option Addr) (n c : Nat) (hI : Ints9 w a (T.hs K h)) (hn : n = (T.hs K h).length) (ss : List Nat) (hss : BesIs K T h ss) :
  Calls Tryz.prog 144 #[v, .agg (B K), .slice a n c, .int .i64 (T.fin K h : Int)] w (BesPost ss w) := by
 have hlen : (T.oth K).length = n := by rw [hn, Tre.hs_oth]
 have h256 : n ≤ 256 := by
  have := (Zdb W K T h 0 hT hrd (by omega)).2.2
  omega
 have hat : ∀ k, k < n → ∃ (x o : Nat) (l r q : Int), (∃ lb, a = some ⟨lb, 0, none⟩ ∧ w.cell? ⟨lb, k, none⟩ = some (.int .i64 (x : Int))) ∧ (T.oth K)[k]? = some o ∧ (∀ w', Below w.heap.size w w' → Calls Tryz.prog 98 #[v, .int .i64 (x : Int)] w' fun e w'' => e = .returned (.tuple #[.int .i64 l, .int .i64 r]) ∧ Below w'.heap.size w' w'') ∧ ∀ w', Calls Tryz.prog 146 #[.agg (B K), .int .i64 (k : Int), .int .i64 l, .int .i64 r] w' fun e w'' => e = .returned (.tuple #[.int .i64 q, .int .i64 (o : Int)]) ∧ Below w'.heap.size w' w'' := fun k hk => by
  obtain ⟨x, a1, a2, a3, a4, a5, a6, a7, a8⟩ := Yad W K T h 0 hT hrd k (by omega)
  rw [Nat.zero_add] at a5 a6 a7
  obtain ⟨lb, e1, e2⟩ := hI k (by omega)
  have hx : (T.hs K h).getD k 0 = x := by rw [List.getD_eq_getElem?_getD, a1]; rfl
  rw [hx] at e2
  have hca := Zfc (cs := cs) a2
  refine ⟨x, _, ((ce cs (x - 1)).l : Int), ((ce cs (x - 1)).r : Int), (if kb K k = 1 then ((ce cs (x - 1)).r : Int) else ((ce cs (x - 1)).l : Int)), ⟨lb, e1, e2⟩, a7, fun w' hb => ?_, fun w' => ?_⟩
  ·have := Zie (V.grow hb) (x : Int)
   rwa [hca] at this
  ·have := Zhy w' K hK k a6 ((ce cs (x - 1)).l : Int) ((ce cs (x - 1)).r : Int)
   have e : ((if kb K k = 1 then (ce cs (x - 1)).l else (ce cs (x - 1)).r : Nat) : Int) = if kb K k = 1 then ((ce cs (x - 1)).l : Int) else ((ce cs (x - 1)).r : Int) := by split <;> rfl
   rw [e]
   exact this
 rcases Zep K T h hT with ⟨f1, f2⟩ | ⟨k, b, f1, f2, f3, f4, f5, f6⟩
 ·rw [f1]
  rcases hss with ⟨_, rfl⟩ | ⟨b, e, _⟩ | ⟨k, b, c', e, _⟩
  ·exact Zpm K hK a n c _ hlen h256 hat
  ·rw [f2] at e; cases e
  ·rw [f2] at e; cases e
 ·have hca := Zfc (cs := cs) f2
  have hky : ∀ w', Below w.heap.size w w' → Calls Tryz.prog 96 #[v, .int .i64 (T.fin K h : Int)] w' fun e w'' => e = .returned (.agg (B k)) ∧ Below w'.heap.size w' w'' := fun w' hb => by
   have := Zpc (V.grow hb) (T.fin K h : Int)
   rwa [hca, f5] at this
  rcases hss with ⟨e, _⟩ | ⟨b', e, rfl⟩ | ⟨k', b', c', e, e2, e3, e4, e5, rfl⟩
  ·rw [f1] at e; cases e
  ·rw [f1] at e
   injection e with e _
   injection e with e _
   subst e
   exact Zsz k hK a n c _ hlen h256 hat _ (by omega) hky
  ·rw [f1] at e
   injection e with e _
   injection e with e _
   subst e
   have hk : Key k := ((Zbj W T h hT).ent (k, b) (Zez K T (k, b) (by rw [f1]; simp))).1
   exact Zns K hK a n c _ hlen h256 hat _ (by omega) k hk e2 hky c' e3 (by rw [← hlen]; exact e4) e5
def PlPost (ss : List Nat) (w : World) (e : Ending) (w' : World) : Prop :=
 ∃ a c, e = .returned (.tuple #[.slice a ss.length c, .bool false, .int .i64 0]) ∧ w'.ownsRow w.heap.size 3 1 (.slice a ss.length c) ss.length (nats ss) ∧ Below w.heap.size w w'
theorem Zmm {w : World} {v : Value} {cs : List (Nat × Ce)} {pend : List Nat} (V : Vw w v true (cot cs) (cat cs)) (W : Wf cs pend) (h : Nat) (T : Tre) (hT : IsT cs h T) (K : List Int) (hK : Key K) (he : vRt true (cot cs h) (cat cs h) h = 0) (u : Value) (bs : List Int) (hu : Reads w u bs) (hsm : T.efin K = [(K, bs)]) :
  Calls Tryz.prog 113 #[v, .int .i64 (h : Int), .agg (B K), u] w fun e w' => e = .returned (.tuple #[.slice none 0 0, .bool true, .int .i64 0]) ∧ Below w.heap.size w w' := by
 have HFD : Hid (∀ w', Below w.heap.size w w' → Calls Tryz.prog 142 #[v, .int .i64 (h : Int), .agg (B K)] w' fun e w'' => ∃ a n c, e = .returned (.tuple #[.slice a n c, .bool true, .int .i64 0]) ∧ Reads w'' (.slice a n c) bs ∧ Below w'.heap.size w' w'') := fun w' hb => by
  have := Zlm (V.grow hb) W h T hT K hK he
  rw [hsm] at this
  simp only [fnd, if_true] at this
  refine this.mono ?_
  rintro e w'' ⟨v', sp, rfl, o, b⟩
  obtain ⟨a, c, e1, _⟩ := o.reads
  subst e1
  exact ⟨a, _, c, rfl, o.reads, b⟩
 have HPS : Hid ((Tryz.prog.info? 31).map (·.size) = some (B K).size) := by show _ = _; rw [Zj, hK.1]; exact Zk
 have HU := Za hu
 obtain ⟨ua, uc, hue, _⟩ := hu
 subst hue
 generalize bs.length = un at HU ⊢
 have HEQ : Hid (∀ w' a n c, Reads w' (.slice a n c) bs → Reads w' (.slice ua un uc) bs → Calls Tryz.prog 143 #[.slice a n c, .slice ua un uc] w' fun e w'' => e = .returned (.bool true) ∧ w'' = w') := fun w' a n c r1 r2 => by
  have := Znm _ _ bs bs w' r1 r2
  simpa using this
 generalize (h : Int) = hh at HFD ⊢
 clear V W hT hK he hsm
 go_enter Tryz.func113, Tryz.ntmps113
 go_wp2_with (first
  | ((with_reducible refine Zo 6 ?_); refine Zc _ rfl _ _ rfl _ rfl ?_; intro w1 b5 hg5 hl5 B5 q5; have HB5 := Za B5; have HQ5 := Za q5; clear hg5 hl5 B5 q5)
  | ((with_reducible refine Zl 19 6 ?_); refine Zh _ rfl _ _ rfl b5 _ rfl HB5.out _ _ Tryz.underlying31 HPS.out ?_)
  | (go_at_call 142; refine (HFD.out _ HQ5.out).mono ?_; rintro e w2 ⟨fa, fn, fc, rfl, r2, b2⟩; have HR2 := Za r2; have HQ2 := Za (Zb HQ5.out b2); clear r2 b2)
  | (go_at_call 143; refine (HEQ.out _ _ _ _ HR2.out (HU.out.grow HQ2.out)).mono ?_; rintro e w' ⟨rfl, hx⟩; rw [hx]; clear hx w'))
 go_ret3
 exact ⟨rfl, HQ2.out⟩
theorem Zqg {w : World} {v : Value} {cs : List (Nat × Ce)} {pend : List Nat} (V : Vw w v true (cot cs) (cat cs)) (W : Wf cs pend) (h : Nat) (T : Tre) (hT : IsT cs h T) (K : List Int) (hK : Key K) (he : vRt true (cot cs h) (cat cs h) h = 0) (u : Value) (bs : List Int) (hu : Reads w u bs) (hne : T.efin K ≠ [(K, bs)]) (ss : List Nat) (hss : BesIs K T h ss) (h257 : ss.length ≤ 256) (hct : ∀ i, cc cs i < 1073741824) :
  Calls Tryz.prog 113 #[v, .int .i64 (h : Int), .agg (B K), u] w (PlPost ss w) := by
 have hrd := Zux hT he
 have HPS : Hid ((Tryz.prog.info? 31).map (·.size) = some (B K).size) := by show _ = _; rw [Zj, hK.1]; exact Zk
 have HHD : Hid (∀ w', Below w.heap.size w w' → Calls Tryz.prog 120 #[v, .int .i64 (h : Int), .agg (B K)] w' (HdPost (T.hs K h) (T.fin K h) w')) := fun w' hb => Zix (V.grow hb) W h T hT K hK he
 have HBS : Hid (∀ w' a c, Below w.heap.size w w' → Ints9 w' a (T.hs K h) → Calls Tryz.prog 144 #[v, .agg (B K), .slice a (T.hs K h).length c, .int .i64 (T.fin K h : Int)] w' (BesPost ss w')) := fun w' a c hb hi => Zta (V.grow hb) W h T hT K hK hrd a _ c hi rfl ss hss
 have hct2 : ∀ q, cot cs q < 1073741824 := fun q => by
  unfold cot
  split
  ·exact hct _
  ·omega
 have h256 : (T.hs K h).length ≤ 256 := by
  have := (Zdb W K T h 0 hT hrd (by omega)).2.2
  rw [Tre.hs_oth]
  omega
 have HCN : Hid (∀ w' a1 a2 c1 c2, Below w.heap.size w w' → Ints9 w' a1 (T.hs K h) → Ints9 w' a2 ss → Calls Tryz.prog 145 #[v, .slice a1 (T.hs K h).length c1, .slice a2 ss.length c2] w' fun e w'' => e = .returned (.bool true) ∧ Below w'.heap.size w' w'') := fun w' a1 a2 c1 c2 hb i1 i2 => Zln (V.grow hb) hct2 a1 a2 _ _ c1 c2 _ _ i1 i2 rfl rfl h256 (by omega)
 have HPost : Hid (∀ a c w', w'.ownsRow w.heap.size 3 1 (.slice a ss.length c) ss.length (nats ss) → Below w.heap.size w w' → PlPost ss w (.returned (.tuple #[.slice a ss.length c, .bool false, .int .i64 0])) w') := fun a c w' h1 h2 => ⟨a, c, rfl, h1, h2⟩
 have hfin := Zlm V W h T hT K hK he
 have HFD : Hid (∀ w', Below w.heap.size w w' → Calls Tryz.prog 142 #[v, .int .i64 (h : Int), .agg (B K)] w' fun e w'' => ∃ a n c, e = .returned (.tuple #[.slice a n c, .bool (fnd (T.efin K) K).2, .int .i64 0]) ∧ Reads w'' (.slice a n c) (fnd (T.efin K) K).1 ∧ Below w'.heap.size w' w'') := fun w' hb => by
  refine (Zlm (V.grow hb) W h T hT K hK he).mono ?_
  rintro e w'' ⟨v', sp, rfl, o, b⟩
  obtain ⟨a, c, e1, _⟩ := o.reads
  subst e1
  exact ⟨a, _, c, rfl, o.reads, b⟩
 have hfe : (fnd (T.efin K) K).2 = true → (fnd (T.efin K) K).1 ≠ bs := fun h2 e => by
  rcases Zep K T h hT with ⟨f1, f2⟩ | ⟨k, b, f1, f2, f3, f4, f5, f6⟩
  ·rw [f2] at h2
   cases h2
  ·rw [f1] at h2 e hne
   by_cases q : k = K
   ·simp only [fnd, q, if_true] at e
    exact hne (by rw [q, e])
   ·simp [fnd, q] at h2
 have HU := Za hu
 obtain ⟨ua, uc, hue, _⟩ := hu
 subst hue
 generalize bs.length = un at HU ⊢
 have HEQ : Hid ((fnd (T.efin K) K).2 = true → ∀ w' a n c, Reads w' (.slice a n c) (fnd (T.efin K) K).1 → Reads w' (.slice ua un uc) bs → Calls Tryz.prog 143 #[.slice a n c, .slice ua un uc] w' fun e w'' => e = .returned (.bool false) ∧ w'' = w') := fun h2 w' a n c r1 r2 => by
  have := Znm _ _ _ bs w' r1 r2
  simpa [hfe h2] using this
 generalize (fnd (T.efin K) K).1 = fb at HFD HEQ
 generalize (fnd (T.efin K) K).2 = fd at HFD HEQ
 generalize (h : Int) = hh at HFD HHD ⊢
 generalize (T.fin K h : Int) = fin at HHD HBS
 have HHE : Hid (∀ w', Below w.heap.size w w' → Calls Tryz.prog 120 #[v, .int .i64 hh, .agg (B K)] w' fun e w'' => ∃ a c, e = .returned (.tuple #[.slice a (T.hs K h).length c, .int .i64 fin, .int .i64 0]) ∧ Ints9 w'' a (T.hs K h) ∧ Below w'.heap.size w' w'') := fun w' hb => (HHD.out w' hb).mono fun e w'' ⟨a, c, e1, o, b⟩ => ⟨a, c, e1, Zit (Zbe o) rfl, b⟩
 have HBE : Hid (∀ w' a c, Below w.heap.size w w' → Ints9 w' a (T.hs K h) → Calls Tryz.prog 144 #[v, .agg (B K), .slice a (T.hs K h).length c, .int .i64 fin] w' fun e w'' => ∃ a c, e = .returned (.slice a ss.length c) ∧ w''.ownsRow w'.heap.size 3 1 (.slice a ss.length c) ss.length (nats ss) ∧ Below w'.heap.size w' w'') := HBS
 generalize PlPost ss w = P at HPost ⊢
 generalize T.hs K h = hs at HHE HBE HCN
 generalize hs.length = hn at HHE HBE HCN
 have HIN : Hid (∀ w' b a c, w'.ownsRow b 3 1 (.slice a ss.length c) ss.length (nats ss) → Ints9 w' a ss) := fun w' b a c o => Zit (Zbe o) rfl
 generalize ss.length = sn at HBE HCN HPost HIN
 clear V W hT hK he hne hss h257 hct hct2 hrd HHD HBS h256 hfe hfin
 cases fd with
 | true =>
  have HE := Za (HEQ.out rfl)
  clear HEQ
  go_enter Tryz.func113, Tryz.ntmps113
  go_wp2_with (first
   | ((with_reducible refine Zo 6 ?_); refine Zc _ rfl _ _ rfl _ rfl ?_; intro w1 b5 hg5 hl5 B5 q5; have HB5 := Za B5; have HQ5 := Za q5; clear hg5 hl5 B5 q5)
   | ((with_reducible refine Zl 19 6 ?_); refine Zh _ rfl _ _ rfl b5 _ rfl HB5.out _ _ Tryz.underlying31 HPS.out ?_)
   | (go_at_call 142; refine (HFD.out _ HQ5.out).mono ?_; rintro e w2 ⟨fa, fn, fc, rfl, r2, b2⟩; have HR2 := Za r2; have HQ2 := Za (Zb HQ5.out b2); have HB2 := Za (HB5.out.grow b2); clear r2 b2)
   | (go_at_call 143; refine (HE.out _ _ _ _ HR2.out (HU.out.grow HQ2.out)).mono ?_; rintro e w' ⟨rfl, hx⟩; rw [hx]; clear hx w')
   | ((with_reducible refine Zl 33 6 ?_); refine Zh _ rfl _ _ rfl b5 _ rfl HB2.out _ _ Tryz.underlying31 HPS.out ?_)
   | (go_at_call 120; refine (HHE.out _ HQ2.out).mono ?_; rintro e w3 ⟨ha, hc, rfl, i3, b3⟩; have HI3 := Za i3; have HQ3 := Za (Zb HQ2.out b3); have HB3 := Za (HB2.out.grow b3); clear i3 b3)
   | ((with_reducible refine Zl 39 6 ?_); refine Zh _ rfl _ _ rfl b5 _ rfl HB3.out _ _ Tryz.underlying31 HPS.out ?_)
   | (go_at_call 144; refine (HBE.out _ _ _ HQ3.out HI3.out).mono ?_; rintro e w4 ⟨sa, sc, rfl, o4, b4⟩; have HO4 := Za (Zax o4 HQ3.out.size); have HI4 := Za (HI3.out.grow b4); have HQ4 := Za (Zb HQ3.out b4); clear o4 b4)
   | (go_at_call 145; refine (HCN.out _ _ _ _ _ HQ4.out HI4.out (HIN.out _ _ _ _ HO4.out)).mono ?_; rintro e w5 ⟨rfl, b5⟩; have HO5 := Za (Zp HO4.out b5); have HQ5' := Za (Zb HQ4.out b5); clear b5))
  go_ret3
  exact HPost.out _ _ _ HO5.out HQ5'.out
 | false =>
  clear HEQ
  go_enter Tryz.func113, Tryz.ntmps113
  go_wp2_with (first
   | ((with_reducible refine Zo 6 ?_); refine Zc _ rfl _ _ rfl _ rfl ?_; intro w1 b5 hg5 hl5 B5 q5; have HB5 := Za B5; have HQ5 := Za q5; clear hg5 hl5 B5 q5)
   | ((with_reducible refine Zl 19 6 ?_); refine Zh _ rfl _ _ rfl b5 _ rfl HB5.out _ _ Tryz.underlying31 HPS.out ?_)
   | (go_at_call 142; refine (HFD.out _ HQ5.out).mono ?_; rintro e w2 ⟨fa, fn, fc, rfl, r2, b2⟩; have HQ2 := Za (Zb HQ5.out b2); have HB2 := Za (HB5.out.grow b2); clear r2 b2)
   | ((with_reducible refine Zl 33 6 ?_); refine Zh _ rfl _ _ rfl b5 _ rfl HB2.out _ _ Tryz.underlying31 HPS.out ?_)
   | (go_at_call 120; refine (HHE.out _ HQ2.out).mono ?_; rintro e w3 ⟨ha, hc, rfl, i3, b3⟩; have HI3 := Za i3; have HQ3 := Za (Zb HQ2.out b3); have HB3 := Za (HB2.out.grow b3); clear i3 b3)
   | ((with_reducible refine Zl 39 6 ?_); refine Zh _ rfl _ _ rfl b5 _ rfl HB3.out _ _ Tryz.underlying31 HPS.out ?_)
   | (go_at_call 144; refine (HBE.out _ _ _ HQ3.out HI3.out).mono ?_; rintro e w4 ⟨sa, sc, rfl, o4, b4⟩; have HO4 := Za (Zax o4 HQ3.out.size); have HI4 := Za (HI3.out.grow b4); have HQ4 := Za (Zb HQ3.out b4); clear o4 b4)
   | (go_at_call 145; refine (HCN.out _ _ _ _ _ HQ4.out HI4.out (HIN.out _ _ _ _ HO4.out)).mono ?_; rintro e w5 ⟨rfl, b5⟩; have HO5 := Za (Zp HO4.out b5); have HQ5' := Za (Zb HQ4.out b5); clear b5))
  go_ret3
  exact HPost.out _ _ _ HO5.out HQ5'.out
structure Lag (cs csR : List (Nat × Ce)) (L : List Nat) : Prop where
 len : csR.length = cs.length
 lce : ∀ i, ce csR i = ce cs i
 lcc : ∀ i, cc cs i = cc csR i + L.count (i + 1)
 occ : ∀ h ∈ L, h = 0 ∨ 0 < cc csR (h - 1)
section
variable {cs csR : List (Nat × Ce)} {L : List Nat} {fr : List Nat}
theorem Lag.frok (h : Lag cs csR L) (hF : FrOk cs fr) : FrOk csR fr := fun s hs => by
 obtain ⟨a, b, c⟩ := hF s hs
 have := h.lcc (s - 1)
 exact ⟨a, by rw [h.len]; exact b, by omega⟩
theorem Lag.tk (h : Lag cs csR L) (fr : List Nat) : tkH csR fr = tkH cs fr := Zgj fr h.len
theorem Lag.full (h : Lag cs csR L) (room : Nat) : Full room csR fr ↔ Full room cs fr := by
 unfold Full
 rw [h.len]
theorem Lag.sd (h : Lag cs csR L) (x : Nat) : sdC csR x = sdC cs x ∧ sdD csR x = sdD cs x := by
 unfold sdC sdD
 rw [h.lce]
 exact ⟨rfl, rfl⟩
theorem Lag.own (h : Lag cs csR L) (i : Nat) : own csR [] i = Go.Proofs.YtbkolhhgajkjjaaGreatDoor.own cs [] i - L.count (i + 1) := by
 unfold Go.Proofs.YtbkolhhgajkjjaaGreatDoor.own
 have := h.lcc i
 rw [h.lce, List.count_nil]
 omega
theorem Lag.fill (h : Lag cs csR L) {p : Nat × Ce} (hF : FrOk cs fr) (hp : 0 < p.1) : Lag (tkC cs fr p) (tkC csR fr p) L := by
 obtain ⟨t1, tk⟩ := Zgi hF p
 obtain ⟨_, tkR⟩ := Zgi (h.frok hF) p
 rw [h.tk fr] at tkR
 refine ⟨by rw [tkR.len, tk.len, h.len], fun i => by rw [tkR.ce, tk.ce, h.lce], fun i => ?_, fun x hx => ?_⟩
 ·rw [tkR.cc, tk.cc]
  have hl := h.lcc i
  by_cases e : i = tkH cs fr - 1
  ·rw [if_pos e, if_pos e]
   rw [e, tk.vac] at hl
   rw [e]
   omega
  ·rw [if_neg e, if_neg e]
   exact hl
 ·rcases h.occ x hx with e | e
  ·exact .inl e
  ·right
   rw [tkR.cc]
   split
   ·exact hp
   ·exact e
theorem Lag.start {ss : List Nat} (hm : HmOk cs ss csR) (hv : ∀ x ∈ ss, x = 0 ∨ 0 < cc cs (x - 1)) : Lag csR cs ss := ⟨hm.len.symm, fun i => (hm.ce i).symm, hm.cc, hv⟩
theorem Lag.more {s : Nat} (h : Lag cs csR (L ++ [s])) (hs : 1 ≤ s) : 0 < cc csR (s - 1) ∧ Lag cs (moreC csR (s - 1)) L := by
 have hi : 0 < cc csR (s - 1) := (h.occ s (by simp)).resolve_left (by omega)
 refine ⟨hi, by rw [Zin, h.len], fun i => by rw [Zdz, h.lce], fun i => ?_, fun x hx => ?_⟩
 ·rw [Zfu hi, h.lcc i, List.count_append, List.count_singleton]
  by_cases e : s = i + 1
  ·rw [if_pos (by simp [e]), if_pos (by omega)]
   omega
  ·rw [if_neg (by simpa using e), if_neg (by omega)]
   omega
 ·rcases h.occ x (by simp [hx]) with e | e
  ·exact .inl e
  ·right
   rw [Zfu hi]
   omega
theorem Lag.skip (h : Lag cs csR (L ++ [0])) : Lag cs csR L := ⟨h.len, h.lce, fun i => by
 have := h.lcc i
 rw [List.count_append, List.count_singleton, if_neg (by simp)] at this
 exact this, fun x hx => h.occ x (by simp [hx])⟩
theorem Lag.end (h : Lag cs csR []) : csR = cs := by
 apply List.ext_getElem?
 intro i
 by_cases hi : i < cs.length
 ·have h1 := h.lcc i
  have h2 := h.lce i
  unfold Go.Proofs.YtbkolhhgajkjjaaGreatDoor.cc at h1
  unfold Go.Proofs.YtbkolhhgajkjjaaGreatDoor.ce at h2
  rw [List.getElem?_eq_getElem hi, List.getElem?_eq_getElem (by rw [h.len]; exact hi)] at *
  simp only [Option.getD_some, List.count_nil, Nat.add_zero] at h1 h2
  exact congrArg some (Prod.ext h1.symm h2)
 ·rw [List.getElem?_eq_none (by rw [h.len]; omega), List.getElem?_eq_none (by omega)]
theorem Ygv (cs : List (Nat × Ce)) (l r i : Nat) (hl : l - 1 < cs.length ∨ l = 0) (hr : r - 1 < cs.length ∨ r = 0) : ce (upA (upA cs l) r) i = { ce cs i with ab := (ce cs i).ab + (if l = i + 1 then 1 else 0) + (if r = i + 1 then 1 else 0) } := by
 have u1 := Zcw cs l
 have uu := u1.trans (Zcw (upA cs l) r)
 have hc := uu.core i
 rw [hc, Zfa _ r i (by rw [u1.len]; exact hr), Zfa _ l i hl]
theorem Lag.inner (h : Lag cs csR L) (hF : FrOk cs fr) {cs' : List (Nat × Ce)} {d l r : Nat} (hl : l - 1 < cs.length ∨ l = 0) (hr : r - 1 < cs.length ∨ r = 0) (hI : InnR cs fr d l r cs') : ∃ csR', InnR csR fr d l r csR' ∧ Lag cs' csR' L := by
 obtain ⟨KF, hKF, rfl⟩ := hI
 obtain ⟨a1, a2⟩ := h.sd l
 obtain ⟨b1, b2⟩ := h.sd r
 refine ⟨_, ⟨KF, by rw [a1, b1]; exact hKF, rfl⟩, ?_⟩
 rw [a1, a2, b1, b2]
 have f := h.fill (p := (1, inC (inD (sdD cs l) (sdD cs r)) KF ((sdC cs l).sz + (sdC cs r).sz) d l r)) hF (by show (0 : Nat) < 1; omega)
 generalize (1, inC (inD (sdD cs l) (sdD cs r)) KF ((sdC cs l).sz + (sdC cs r).sz) d l r) = p at f
 have tk := (Zgi hF p).2
 have hL : cs.length ≤ (tkC cs fr p).length := by rw [tk.len]; omega
 have hl2 : l - 1 < (tkC cs fr p).length ∨ l = 0 := by rcases hl with e | e; exact .inl (by omega); exact .inr e
 have hr2 : r - 1 < (tkC cs fr p).length ∨ r = 0 := by rcases hr with e | e; exact .inl (by omega); exact .inr e
 have u := (Zcw (tkC cs fr p) l).trans (Zcw _ r)
 have v := (Zcw (tkC csR fr p) l).trans (Zcw _ r)
 refine ⟨by rw [u.len, v.len, f.len], fun i => ?_, fun i => by rw [u.cc, v.cc, f.lcc], fun x hx => by rw [v.cc]; exact f.occ x hx⟩
 rw [Ygv _ l r i hl2 hr2, Ygv _ l r i (by rw [f.len]; exact hl2) (by rw [f.len]; exact hr2), f.lce]
end
theorem Ycv {K : List Int} {L : List Nat} {s : Nat} {cs cs2 : List (Nat × Ce)} {fr fr2 : List Nat} {t t2 : Nat} (h : Rz K (L ++ [s]) cs fr t cs2 fr2 t2) : ∃ cs1, InnR cs fr L.length (tl K L.length t s) (tr K L.length t s) cs1 ∧ Rz K L cs1 fr.dropLast (tkH cs fr) cs2 fr2 t2 := by
 generalize hX : L ++ [s] = X at h
 cases h with
 | done => simp at hX
 | step h1 h2 =>
  obtain ⟨rfl, e⟩ := List.append_inj' hX rfl
  obtain rfl : s = _ := by simpa using e
  exact ⟨_, h1, h2⟩
theorem Yfh {K : List Int} {cs cs2 : List (Nat × Ce)} {fr fr2 : List Nat} {t t2 : Nat} (h : Rz K [] cs fr t cs2 fr2 t2) : cs2 = cs ∧ fr2 = fr ∧ t2 = t := by
 generalize hX : ([] : List Nat) = X at h
 cases h with
 | done => exact ⟨rfl, rfl, rfl⟩
 | step h1 h2 => simp at hX
structure RfI (cs0 : List (Nat × Ce)) (E : List Ent) (K bs : List Int) (ss : List Nat) (room m : Nat) (csP csR : List (Nat × Ce)) (fr : List Nat) (top : Nat) (cs2 : List (Nat × Ce)) (fr2 : List Nat) (topF : Nat) : Prop where
 rz : Rz K (ss.take m) csP fr top cs2 fr2 topF
 ri : RzI cs0 E K bs ss m csP top
 lag : Lag csP csR (ss.take m)
 inv : Inv room (csP.map pl) fr
def csH (csR : List (Nat × Ce)) (s : Nat) : List (Nat × Ce) := if s = 0 then csR else moreC csR (s - 1)
theorem Zlz {ss : List Nat} {m : Nat} (h : m < ss.length) : ss.take (m + 1) = ss.take m ++ [ss.getD m 0] := by
 rw [List.take_add_one, List.getElem?_eq_getElem h, List.getD_eq_getElem?_getD, List.getElem?_eq_getElem h]
 rfl
structure RfS (csR : List (Nat × Ce)) (fr : List Nat) (K : List Int) (m top s room : Nat) : Prop where
 occ : s ≠ 0 → 0 < cc csR (s - 1)
 ml : mayP (csH csR s) (tl K m top s : Int)
 mr : mayP (csH csR s) (tr K m top s : Int)
 fit : ∃ u, (u = true ↔ Und (sdC (csH csR s) (tl K m top s)).key (sdC (csH csR s) (tr K m top s)).key (m : Int)) ∧ fitP m (sdC (csH csR s) (tl K m top s)) (sdC (csH csR s) (tr K m top s)) u = true
 full : ¬ Full room (csH csR s) fr
theorem Zva {cs0 csP csR cs2 : List (Nat × Ce)} {E : List Ent} {K bs : List Int} {ss fr fr2 : List Nat} {room m top topF : Nat} (b : BesOk cs0 E K ss) (hm : m < ss.length) (hroom : noc cs0 + 258 ≤ room) (I : RfI cs0 E K bs ss room (m + 1) csP csR fr top cs2 fr2 topF) :
  RfS csR fr K m top (ss.getD m 0) room ∧ ∃ csP' csR', InnR (csH csR (ss.getD m 0)) fr m (tl K m top (ss.getD m 0)) (tr K m top (ss.getD m 0)) csR' ∧ RfI cs0 E K bs ss room m csP' csR' fr.dropLast (tkH (csH csR (ss.getD m 0)) fr) cs2 fr2 topF := by
 obtain ⟨hml, hmr, u, hu, hf, next⟩ := Zuo b hm I.ri
 have hF := Zdg I.inv
 have rz := I.rz
 have lag := I.lag
 rw [Zlz hm] at rz lag
 obtain ⟨csP', hI, rz'⟩ := Ycv rz
 have hlen : (ss.take m).length = m := by rw [List.length_take]; omega
 rw [hlen] at hI
 obtain ⟨s, hs⟩ : ∃ s, s = ss.getD m 0 := ⟨_, rfl⟩
 rw [← hs] at hml hmr hu hf next lag hI ⊢
 have hold : (s ≠ 0 → 0 < cc csR (s - 1)) ∧ Lag csP (csH csR s) (ss.take m) := by
  unfold csH
  by_cases e : s = 0
  ·rw [if_pos e]
   rw [e] at lag
   exact ⟨fun q => absurd e q, lag.skip⟩
  ·rw [if_neg e]
   obtain ⟨a, c⟩ := lag.more (by omega)
   exact ⟨fun _ => a, c⟩
 obtain ⟨h1, lagH⟩ := hold
 have W := I.ri.wf
 have full : ¬ Full room csP fr := fun f => by
  have h1 := I.inv.sum
  have h2 := I.ri.noc
  have h3 := b.len
  rw [f.1, List.length_map] at h1
  have := f.2
  unfold noc at h2 hroom
  simp at h1
  omega
 have ownH : ∀ i, own (csH csR s) [] i = own cs0 [] i + (if s = i + 1 then 1 else 0) + (if top = i + 1 then 1 else 0) := fun i => by
  rw [lagH.own]
  have := I.ri.own i
  rw [Zlz hm, ← hs, List.count_append, List.count_singleton] at this
  by_cases e : s = i + 1
  ·rw [if_pos (by simp [e])] at this
   rw [if_pos e]
   omega
  ·rw [if_neg (by simpa using e)] at this
   rw [if_neg e]
   omega
 have mtop : mayP (csH csR s) (top : Int) := Zlg (.inr (by
  have := ownH (top - 1)
  have ht := I.ri.new.1
  rw [if_pos (show top = top - 1 + 1 by omega)] at this
  omega))
 have ms : mayP (csH csR s) (s : Int) := Zlg (by
  by_cases e : s = 0
  ·exact .inl e
  ·right
   have := ownH (s - 1)
   rw [if_pos (show s = s - 1 + 1 by omega)] at this
   omega)
 have mlr : mayP (csH csR s) (tl K m top s : Int) ∧ mayP (csH csR s) (tr K m top s : Int) := by
  unfold tl tr
  split
  ·exact ⟨ms, mtop⟩
  ·exact ⟨mtop, ms⟩
 have hl : ∀ x : Nat, mayP csP (x : Int) → x - 1 < csP.length ∨ x = 0 := fun x hx => by
  rcases hx.side with e | ⟨_, e, _⟩
  ·exact .inr e
  ·exact .inl (Zbu e)
 obtain ⟨csR', hR, lag'⟩ := lagH.inner hF (hl _ hml) (hl _ hmr) hI
 have hfH : ∃ u, (u = true ↔ Und (sdC (csH csR s) (tl K m top s)).key (sdC (csH csR s) (tr K m top s)).key (m : Int)) ∧ fitP m (sdC (csH csR s) (tl K m top s)) (sdC (csH csR s) (tr K m top s)) u = true := by
  rw [(lagH.sd _).1, (lagH.sd _).1]
  exact ⟨u, hu, hf⟩
 refine ⟨⟨h1, mlr.1, mlr.2, hfH, fun f => full ((lagH.full room).1 f)⟩, csP', csR', hR, ?_⟩
 have W' : Wf csP' [] := Ybz W hF (by have := b.len; omega) hml hmr hu hf hI
 rw [lagH.tk]
 exact ⟨rz', next fr csP' hF hI W', lag', Znd I.inv full hI⟩
end Go.Proofs.YtbkolhhgajkjjaaGreatDoor
