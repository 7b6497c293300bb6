/- put.Put and put.Cost, as contracts. -/
import Derived.Test.YtnnmfgnommbmkaaGreatDoorLa01
import Derived.Test.YtnnmfgnommbmkaaGreatDoorLa37
import Derived.Test.YtnnmfgnommbmkaaGreatDoorLa24
namespace Go.Proofs.YtnnmfgnommbmkaaGreatDoor
set_option maxRecDepth 20000
open Go.RowKit

set_option maxHeartbeats 1000000 in
theorem put_same {w0 w : World} {S : List Nat} {g gs room : Nat} {cs : List (Nat × Ce)} {fr : List Nat} (H : Hs w0 S w g gs room cs fr) (h : Nat) (T : Tre) (hT : IsT cs h T) (K : List Int) (hK : Key K) (u : Value) (bs : List Int) (hu : Reads w u bs) (he : vRf true (cot cs h) (cat cs h) h bs.length = 0) (hr : vRt true (cot cs h) (cat cs h) h = 0) (hf : noc cs + 258 ≤ room) (hsm : T.efin K = [(K, bs)]) : Calls Tryz.prog 20 #[.pointer (some ⟨g, 0, none⟩), .int .i64 (h : Int), .agg (B K), u] w fun e w' => e = .returned (.tuple #[.int .i64 (h : Int), .int .i64 0]) ∧ Below w.heap.size w w' := by
  have HPN : Hid (∀ w', Below w.heap.size w w' → Calls Tryz.prog 40 #[.pointer (some ⟨g, 0, none⟩), .int .i64 (h : Int), .agg (B K), u] w' fun e w'' => e = .returned (.tuple #[.slice none 0 0, .bool true, .int .i64 0]) ∧ Below w'.heap.size w' w'') := fun w' hb => plan_same (H.vw.grow hb) H.2 h T hT K hK hr u bs (hu.grow hb) hsm
  obtain ⟨a, c, hue, _⟩ := hu
  subst hue
  have HRF : Hid (∀ w', Below w.heap.size w w' → Calls Tryz.prog 38 #[.pointer (some ⟨g, 0, none⟩), .int .i64 (h : Int), .slice a bs.length c] w' fun e w'' => e = .returned (.int .i64 0) ∧ Below w'.heap.size w' w'') := fun w' hb => by
    have := refusal_any (H.vw.grow hb) h a bs.length c
    rwa [he] at this
  have HFT : Hid (∀ w', Below w.heap.size w w' → Calls Tryz.prog 39 #[.pointer (some ⟨g, 0, none⟩), .int .i64 1] w' fun e w'' => e = .returned (.bool true) ∧ Below w'.heap.size w' w'') := fun w' hb => by
    have := fits9_any (H.grow hb) 1
    rwa [show fitsN (noc cs) room 1 = true by simp [fitsN]; omega] at this
  have HPS : Hid ((Tryz.prog.info? 32).map (·.size) = some (B K).size) := by show _ = _; rw [B_size, hK.1]; exact size_path
  generalize (h : Int) = hh at HPN HRF ⊢
  generalize bs.length = n at HPN HRF ⊢
  clear H he hf hT hK hr hsm
  go_enter Tryz.func20, Tryz.ntmps20
  go_wp2_with (first
    | ((with_reducible refine at_bxd 6 ?_); refine wpList_bx _ rfl _ _ rfl _ rfl ?_; intro w1 b5 hg5 hl5 B5 q5; have HB5 := hidden B5; have HQ5 := hidden q5; clear hg5 hl5 B5 q5)
    | (go_at_call 38; refine (HRF.out _ HQ5.out).mono ?_; rintro e w2 ⟨rfl, b2⟩; have HQ2 := hidden (grow_trans HQ5.out b2); have HB2 := hidden (HB5.out.grow b2); clear b2)
    | (go_at_call 39; refine (HFT.out _ HQ2.out).mono ?_; rintro e w3 ⟨rfl, b3⟩; have HQ3 := hidden (grow_trans HQ2.out b3); have HB3 := hidden (HB2.out.grow b3); clear b3)
    | ((with_reducible refine at_ldd 29 6 ?_); refine wpList_ld _ rfl _ _ rfl b5 _ rfl HB3.out _ _ Tryz.underlying32 HPS.out ?_)
    | (go_at_call 40; refine (HPN.out _ HQ3.out).mono ?_; rintro e w4 ⟨rfl, b4⟩; have HQ4 := hidden (grow_trans HQ3.out b4); clear b4))
  go_ret2
  exact ⟨rfl, HQ4.out⟩

def PutTo (cs : List (Nat × Ce)) (fr : List Nat) (root : Nat) (K bs : List Int) (ss : List Nat) (top : Nat) (cs' : List (Nat × Ce)) (fr' : List Nat) : Prop :=
  ∃ (v' : Value) (cs2 : List (Nat × Ce)) (fr2 : List Nat), CeOk (lfC (lfD K (vaD bs)) K v' bs) ∧ Rz K ss (tkC (holdM cs ss) fr (1, lfC (lfD K (vaD bs)) K v' bs)) fr.dropLast (tkH (holdM cs ss) fr) cs2 fr2 top ∧ ((root = 0 ∧ cs' = cs2 ∧ fr' = fr2) ∨ (1 ≤ root ∧ ∃ n, Run cs2 fr2 [root] cs' fr' n))

def PtPost (w0 : World) (S : List Nat) (g gs room : Nat) (cs : List (Nat × Ce)) (fr : List Nat) (E : List Ent) (root : Nat) (K bs : List Int) (ss : List Nat) (e : Ending) (w' : World) : Prop :=
  ∃ (top : Nat) (cs' : List (Nat × Ce)) (fr' : List Nat), e = .returned (.tuple #[.int .i64 (top : Int), .int .i64 0]) ∧ PutTo cs fr root K bs ss top cs' fr' ∧ PutOk cs E K bs root top ss cs' ∧ Hs w0 S w' g gs room cs' fr'

theorem bes_valid {cs : List (Nat × Ce)} {E : List Ent} {K : List Int} {ss : List Nat} (b : BesOk cs E K ss) : ∀ x ∈ ss, x = 0 ∨ 0 < cc cs (x - 1) := fun x hx => by
  obtain ⟨d, hd, e⟩ := List.getElem_of_mem hx
  obtain ⟨V, v1, _⟩ := b.side d hd
  have : ss.getD d 0 = x := by rw [List.getD_eq_getElem?_getD, List.getElem?_eq_getElem hd]; exact e
  rw [this] at v1
  rcases v1.occ with q | q
  · exact .inl q
  · exact .inr q.2

set_option maxHeartbeats 4000000 in
theorem put_new {w0 w : World} {S0 : List Nat} {g gs room : Nat} {cs : List (Nat × Ce)} {fr : List Nat} (H0 : Hs w0 S0 w g gs room cs fr) (h : Nat) (T : Tre) (hT : IsT cs h T) (K : List Int) (hK : Key K) (u : Value) (bs : List Int) (hu0 : Kq S0 w0 (fun w' => Reads w' u bs)) (hL0 : Kq S0 w0 Laid) (he : vRf true (cot cs h) (cat cs h) h bs.length = 0) (hl : bs.length ≤ 1024) (hr : vRt true (cot cs h) (cat cs h) h = 0) (ho : h = 0 ∨ 0 < own cs [] (h - 1)) (hf : noc cs + 258 ≤ room) (hne : T.efin K ≠ [(K, bs)]) (ss : List Nat) (hss : BesIs K T h ss) (hbo : BesOk cs T.ents K ss) (hct : ∀ i, cc cs i + 257 < 1073741824) :
    Calls Tryz.prog 20 #[.pointer (some ⟨g, 0, none⟩), .int .i64 (h : Int), .agg (B K), u] w (PtPost w0 S0 g gs room cs fr T.ents h K bs ss) := by
  have h256 := hbo.len
  obtain ⟨S, H, hN, hkq, hS, hbk⟩ := H0.from
  have hu := hkq _ hu0
  have hL := hkq _ hL0
  have hW := H.2
  have hmk := hm_ok hW ss.length ss rfl (bes_valid hbo)
  have HPN : Hid (∀ w', Below w.heap.size w w' → Calls Tryz.prog 40 #[.pointer (some ⟨g, 0, none⟩), .int .i64 (h : Int), .agg (B K), u] w' fun e w'' => ∃ a c, e = .returned (.tuple #[.slice a ss.length c, .bool false, .int .i64 0]) ∧ w''.ownsRow w'.heap.size 3 1 (.slice a ss.length c) ss.length (nats ss) ∧ Below w'.heap.size w' w'') := fun w' hb => plan_new (H.vw.grow hb) H.2 h T hT K hK hr u bs (hu.now.grow hb) hne ss hss h256 (fun i => by have := hct i; omega)
  have HHA : Hid (∀ w4 a c, Below w.heap.size w w4 → w4.ownsRow w.heap.size 3 1 (.slice a ss.length c) ss.length (nats ss) → Calls Tryz.prog 41 #[.pointer (some ⟨g, 0, none⟩), .slice a ss.length c] w4 fun e w5 => e = .returned (.slice none 0 0) ∧ Hs w4 S w5 g gs room (holdM cs ss) fr) := fun w4 a c hb o => holdAll_any (H.rebase hb) a _ c ss (ints9_kq o rfl (fun k hk hm => by have := (o.lt k hk).1; have := hS k hm; omega)) rfl (by omega) (bes_valid hbo) (fun _ i => by have := hct i; omega)
  have HRA : Hid (∀ w4 a c w5, Below w.heap.size w w4 → w4.ownsRow w.heap.size 3 1 (.slice a ss.length c) ss.length (nats ss) → Hs w4 S w5 g gs room (holdM cs ss) fr → Calls Tryz.prog 42 #[.pointer (some ⟨g, 0, none⟩), .agg (B K), u, .slice a ss.length c] w5 fun e w6 => ∃ top : Nat, e = .returned (.int .i64 (top : Int)) ∧ ∃ v' cs2 fr2, CeOk (lfC (lfD K (vaD bs)) K v' bs) ∧ Rz K ss (tkC (holdM cs ss) fr (1, lfC (lfD K (vaD bs)) K v' bs)) fr.dropLast (tkH (holdM cs ss) fr) cs2 fr2 top ∧ RzI cs T.ents K bs ss 0 cs2 top ∧ Hs w S w6 g gs room cs2 fr2) := fun w4 a c w5 hb o h5 => by
    have i4 : Kq S w4 (fun w' => Ints9 w' a ss) := ints9_kq o rfl (fun k hk hm => by have := (o.lt k hk).1; have := hS k hm; omega)
    obtain ⟨S5, H5, hN5, hkq5, hS5, hbk5⟩ := h5.from
    refine (raise_any H5 hS5 hW hK hbo hmk hf a _ c rfl (hkq5 _ i4) (hkq5 _ (hL.grow hb)) u (hkq5 _ (hu.grow hb)) hl).mono ?_
    rintro e w6 ⟨top, v', cs2, fr2, rfl, r1, r2, r3, r4⟩
    exact ⟨top, rfl, v', cs2, fr2, r1, r2, r3, Hs.back hb (hbk5 _ _ _ r4)⟩
  have HDR : Hid (∀ w6 (top : Nat), (∃ v' cs2 fr2, CeOk (lfC (lfD K (vaD bs)) K v' bs) ∧ Rz K ss (tkC (holdM cs ss) fr (1, lfC (lfD K (vaD bs)) K v' bs)) fr.dropLast (tkH (holdM cs ss) fr) cs2 fr2 top ∧ RzI cs T.ents K bs ss 0 cs2 top ∧ Hs w S w6 g gs room cs2 fr2) → Calls Tryz.prog 43 #[.pointer (some ⟨g, 0, none⟩), .int .i64 (h : Int)] w6 fun e w7 => ∃ x y : Int, e = .returned (.tuple #[.int .i64 x, .int .i64 y]) ∧ ∃ cs' fr', PutTo cs fr h K bs ss top cs' fr' ∧ PutOk cs T.ents K bs h top ss cs' ∧ Hs w S w7 g gs room cs' fr') := fun w6 top ⟨v', cs2, fr2, r1, r2, r3, r4⟩ => by
    by_cases h0 : h = 0
    · subst h0
      refine (hs_drop_miss r4 0 (by show (0 : Nat) ≤ _; exact Nat.zero_le _)).mono ?_
      rintro e w7 ⟨rfl, h7⟩
      exact ⟨0, 7, rfl, cs2, fr2, ⟨v', cs2, fr2, r1, r2, .inl ⟨rfl, rfl, rfl⟩⟩, put_ok0 r3, h7⟩
    · have ho1 := ho.resolve_left h0
      have ho2 : 0 < own cs2 [] (h - 1) := by
        have := r3.own (h - 1)
        rw [List.take_zero, List.count_nil] at this
        omega
      have hd := hs_drop r4 (h - 1) ho2
      rw [show h - 1 + 1 = h by omega] at hd
      refine hd.mono ?_
      rintro e w7 ⟨cs', fr', k, hrun, hst, rfl, h7⟩
      exact ⟨_, _, rfl, cs', fr', ⟨v', cs2, fr2, r1, r2, .inr ⟨by omega, k, hrun⟩⟩, put_ok1 r3 ho1 (by omega) hrun hst, h7⟩
  have HH2 : Hid (∀ w7 (top : Nat), (∃ cs' fr', PutTo cs fr h K bs ss top cs' fr' ∧ PutOk cs T.ents K bs h top ss cs' ∧ Hs w S w7 g gs room cs' fr') → Calls Tryz.prog 41 #[.pointer (some ⟨g, 0, none⟩), .slice none 0 0] w7 fun e w8 => e = .returned (.slice none 0 0) ∧ ∃ cs' fr', PutTo cs fr h K bs ss top cs' fr' ∧ PutOk cs T.ents K bs h top ss cs' ∧ Hs w S w8 g gs room cs' fr') := fun w7 top ⟨cs', fr', p1, p2, p3⟩ => by
    obtain ⟨S7, H7, hN7, hkq7, hS7, hbk7⟩ := p3.from
    refine (holdAll_any H7 none 0 0 [] (fun _ _ k hk => absurd hk (by simp)) rfl (by omega) (fun x hx => by cases hx) (fun q => by omega)).mono ?_
    rintro e w8 ⟨rfl, h8⟩
    exact ⟨rfl, cs', fr', p1, p2, hbk7 _ _ _ h8⟩
  have HRF : Hid (∀ w', Below w.heap.size w w' → Calls Tryz.prog 38 #[.pointer (some ⟨g, 0, none⟩), .int .i64 (h : Int), u] w' fun e w'' => e = .returned (.int .i64 0) ∧ Below w'.heap.size w' w'') := fun w' hb => by
    obtain ⟨a, c, hue, _⟩ := hu.now
    have := refusal_any (H.vw.grow hb) h a bs.length c
    rw [he] at this
    rw [hue]
    exact this
  have HFT : Hid (∀ w', Below w.heap.size w w' → Calls Tryz.prog 39 #[.pointer (some ⟨g, 0, none⟩), .int .i64 1] w' fun e w'' => e = .returned (.bool true) ∧ Below w'.heap.size w' w'') := fun w' hb => by
    have := fits9_any (H.grow hb) 1
    rwa [show fitsN (noc cs) room 1 = true by simp [fitsN]; omega] at this
  have HPS : Hid ((Tryz.prog.info? 32).map (·.size) = some (B K).size) := by show _ = _; rw [B_size, hK.1]; exact size_path
  have HPost : Hid (∀ w8 (top : Nat), (∃ cs' fr', PutTo cs fr h K bs ss top cs' fr' ∧ PutOk cs T.ents K bs h top ss cs' ∧ Hs w S w8 g gs room cs' fr') → PtPost w0 S0 g gs room cs fr T.ents h K bs ss (.returned (.tuple #[.int .i64 (top : Int), .int .i64 0])) w8) := fun w8 top ⟨cs', fr', p1, p2, p3⟩ => ⟨top, cs', fr', rfl, p1, p2, hbk _ _ _ p3⟩
  have HBK : Hid (∀ w4 w5 b6, Below w.heap.size w w4 → w.heap.size ≤ b6 → Blk w4 b6 32 (B K) → Hs w4 S w5 g gs room (holdM cs ss) fr → Blk w5 b6 32 (B K)) := fun w4 w5 b6 hb hg hB h5 => h5.kq (Kq.blk hB (fun e => by have := hS _ e; omega))
  obtain ⟨ua, uc, hue, _⟩ := hu.now
  clear hu hu0 hL hL0
  subst hue
  obtain ⟨R7, hR7⟩ : ∃ R7 : World → Nat → Prop, R7 = fun w7 top => ∃ cs' fr', PutTo cs fr h K bs ss top cs' fr' ∧ PutOk cs T.ents K bs h top ss cs' ∧ Hs w S w7 g gs room cs' fr' := ⟨_, rfl⟩
  obtain ⟨R6, hR6⟩ : ∃ R6 : World → Nat → Prop, R6 = fun w6 top => ∃ v' cs2 fr2, CeOk (lfC (lfD K (vaD bs)) K v' bs) ∧ Rz K ss (tkC (holdM cs ss) fr (1, lfC (lfD K (vaD bs)) K v' bs)) fr.dropLast (tkH (holdM cs ss) fr) cs2 fr2 top ∧ RzI cs T.ents K bs ss 0 cs2 top ∧ Hs w S w6 g gs room cs2 fr2 := ⟨_, rfl⟩
  obtain ⟨R5, hR5⟩ : ∃ R5 : World → World → Prop, R5 = fun w4 w5 => Hs w4 S w5 g gs room (holdM cs ss) fr := ⟨_, rfl⟩
  replace HHA : Hid (∀ w4 a c, Below w.heap.size w w4 → w4.ownsRow w.heap.size 3 1 (.slice a ss.length c) ss.length (nats ss) → Calls Tryz.prog 41 #[.pointer (some ⟨g, 0, none⟩), .slice a ss.length c] w4 fun e w5 => e = .returned (.slice none 0 0) ∧ R5 w4 w5) := by rw [hR5]; exact HHA
  replace HRA : Hid (∀ w4 a c w5, Below w.heap.size w w4 → w4.ownsRow w.heap.size 3 1 (.slice a ss.length c) ss.length (nats ss) → R5 w4 w5 → Calls Tryz.prog 42 #[.pointer (some ⟨g, 0, none⟩), .agg (B K), .slice ua bs.length uc, .slice a ss.length c] w5 fun e w6 => ∃ top : Nat, e = .returned (.int .i64 (top : Int)) ∧ R6 w6 top) := by rw [hR5, hR6]; exact HRA
  replace HDR : Hid (∀ w6 (top : Nat), R6 w6 top → Calls Tryz.prog 43 #[.pointer (some ⟨g, 0, none⟩), .int .i64 (h : Int)] w6 fun e w7 => ∃ x y : Int, e = .returned (.tuple #[.int .i64 x, .int .i64 y]) ∧ R7 w7 top) := by rw [hR6, hR7]; exact HDR
  replace HH2 : Hid (∀ w7 (top : Nat), R7 w7 top → Calls Tryz.prog 41 #[.pointer (some ⟨g, 0, none⟩), .slice none 0 0] w7 fun e w8 => e = .returned (.slice none 0 0) ∧ R7 w8 top) := by rw [hR7]; exact HH2
  replace HPost : Hid (∀ w8 (top : Nat), R7 w8 top → PtPost w0 S0 g gs room cs fr T.ents h K bs ss (.returned (.tuple #[.int .i64 (top : Int), .int .i64 0])) w8) := by rw [hR7]; exact HPost
  replace HBK : Hid (∀ w4 w5 b6, Below w.heap.size w w4 → w.heap.size ≤ b6 → Blk w4 b6 32 (B K) → R5 w4 w5 → Blk w5 b6 32 (B K)) := by rw [hR5]; exact HBK
  generalize PtPost w0 S0 g gs room cs fr T.ents h K bs ss = P at HPost ⊢
  generalize (h : Int) = hh at HPN HRF HDR ⊢
  generalize bs.length = un at HPN HRF HRA ⊢
  generalize nats ss = nss at HPN HHA HRA
  generalize ss.length = sn at HPN HHA HRA
  clear hR7 hR6 hR5 H0 H hN hkq hS hbk hW hmk hT hK he hl hr ho hf hne hss hbo hct h256
  go_enter Tryz.func20, Tryz.ntmps20
  go_wp2_with (first
    | ((with_reducible refine at_bxd 6 ?_); refine wpList_bx _ rfl _ _ rfl _ rfl ?_; intro w1 b5 hg5 hl5 B5 q5; have HB5 := hidden B5; have HQ5 := hidden q5; have HG5 := hidden hg5; clear hg5 hl5 B5 q5)
    | (go_at_call 38; refine (HRF.out _ HQ5.out).mono ?_; rintro e w2 ⟨rfl, b2⟩; have HQ2 := hidden (grow_trans HQ5.out b2); have HB2 := hidden (HB5.out.grow b2); clear b2)
    | (go_at_call 39; refine (HFT.out _ HQ2.out).mono ?_; rintro e w3 ⟨rfl, b3⟩; have HQ3 := hidden (grow_trans HQ2.out b3); have HB3 := hidden (HB2.out.grow b3); clear b3)
    | ((with_reducible refine at_ldd 29 6 ?_); refine wpList_ld _ rfl _ _ rfl b5 _ rfl HB3.out _ _ Tryz.underlying32 HPS.out ?_)
    | (go_at_call 40; refine (HPN.out _ HQ3.out).mono ?_; rintro e w4 ⟨sa, sc, rfl, o4, b4⟩; have HO4 := hidden (owR_base o4 HQ3.out.size); have HQ4 := hidden (grow_trans HQ3.out b4); have HB4 := hidden (HB3.out.grow b4); clear b4 o4)
    | (go_at_call 41; have mk := mk1; clear mk; refine (HH2.out _ _ HR7.out).mono ?_; rintro e w8 ⟨rfl, r8⟩; have HR8 := hidden r8; clear r8)
    | (go_at_call 41; refine (HHA.out _ _ _ HQ4.out HO4.out).mono ?_; rintro e w5 ⟨rfl, r5⟩; have HR5 := hidden r5; have HB6 := hidden (HBK.out _ _ _ HQ4.out HG5.out HB4.out r5); clear r5; have mk1 : Hid True := trivial)
    | ((with_reducible refine at_ldd 44 6 ?_); refine wpList_ld _ rfl _ _ rfl b5 _ rfl HB6.out _ _ Tryz.underlying32 HPS.out ?_)
    | (go_at_call 42; refine (HRA.out _ _ _ _ HQ4.out HO4.out HR5.out).mono ?_; rintro e w6 ⟨top, rfl, r6⟩; have HR6 := hidden r6; clear r6)
    | (go_at_call 43; refine (HDR.out _ _ HR6.out).mono ?_; rintro e w7 ⟨x7, y7, rfl, r7⟩; have HR7 := hidden r7; clear r7))
  exact HPost.out _ _ HR8.out

end Go.Proofs.YtnnmfgnommbmkaaGreatDoor

namespace Go.Proofs.YtnnmfgnommbmkaaGreatDoor
set_option maxRecDepth 20000
open Go.RowKit

def kyB (b : Int) : List Int := b :: List.replicate 31 0
theorem kyB_key (b : Int) (h0 : 0 ≤ b) (h1 : b ≤ 255) : Key (kyB b) := ⟨by simp [kyB], fun z hz => by
  rcases List.mem_cons.1 hz with rfl | hz
  · exact ⟨h0, h1⟩
  · rw [List.eq_of_mem_replicate hz]
    omega⟩

theorem built_ky (b : Int) : Tryz.prog.built 32 [(0, .int .u8 b)] = some (B (kyB b)) := by kernel_rfl

end Go.Proofs.YtnnmfgnommbmkaaGreatDoor

namespace Go.Proofs.YtnnmfgnommbmkaaGreatDoor
set_option maxRecDepth 20000
open Go.RowKit

theorem con_le (i : Nat) (p : Nat × Ce) : con i p ≤ 2 := by
  unfold con
  split
  · split <;> split <;> omega
  · omega
theorem ns_le (cs : List (Nat × Ce)) (i : Nat) : ns cs i ≤ 2 * cs.length := by
  induction cs with
  | nil => simp [ns]
  | cons p r ih =>
    have h := con_le i p
    simp only [ns, List.map_cons, List.sum_cons, List.length_cons] at ih ⊢
    omega
theorem Wf.ccLe {cs : List (Nat × Ce)} (W : Wf cs []) (i b : Nat) (h : Go.Proofs.YtnnmfgnommbmkaaGreatDoor.own cs [] i ≤ b) : cc cs i ≤ 2 * cs.length + b := by
  have h1 := W.own i
  have h2 := W.ab i
  have h3 := ns_le cs i
  rw [List.count_nil] at h1
  omega

structure Rt (cs : List (Nat × Ce)) (h : Nat) (T : Tre) : Prop where
  tree : IsT cs h T
  dp : (sdC cs h).kind = 2 → (sdC cs h).dp = 0
  own : h = 0 ∨ 0 < own cs [] (h - 1)

theorem Rt.root {cs : List (Nat × Ce)} {h : Nat} {T : Tre} (r : Rt cs h T) : vRt true (cot cs h) (cat cs h) h = 0 := by
  unfold vRt
  rw [if_pos rfl]
  by_cases h0 : (h : Int) = 0
  · rw [if_pos h0]
  · rw [if_neg h0]
    rcases r.tree.occ with e | ⟨e1, e2⟩
    · exact absurd (by omega) h0
    · have hc : cot cs (h : Int) = cc cs (h - 1) := by rw [cot, if_pos (by omega), show ((h : Int) - 1).toNat = h - 1 by omega]
      rw [hc, if_neg (by omega)]
      have hd := r.dp
      rw [← cat_nat] at hd
      unfold vDp
      rw [if_pos rfl]
      by_cases k : (cat cs (h : Int)).kind = 2
      · rw [if_pos k, hd k]
        rfl
      · rw [if_neg k]
        rfl
theorem Rt.refuse {cs : List (Nat × Ce)} {h : Nat} {T : Tre} (r : Rt cs h T) {n : Nat} (hn : n ≤ 1024) : vRf true (cot cs h) (cat cs h) h n = 0 := by
  unfold vRf
  rw [if_pos rfl, if_neg (by omega)]
  unfold vAh
  rw [if_pos r.root, if_neg]
  rintro ⟨h0, q⟩
  have h1 : h ≠ 0 := fun e => h0 (by omega)
  have ho := r.own.resolve_left h1
  have hc : cot cs (h : Int) = cc cs (h - 1) := by rw [cot, if_pos (by omega), show ((h : Int) - 1).toNat = h - 1 by omega]
  rw [hc, cat_nat, sdC, if_neg h1] at q
  unfold Go.Proofs.YtnnmfgnommbmkaaGreatDoor.own at ho
  rw [List.count_nil] at ho
  omega
theorem Rt.zero (cs : List (Nat × Ce)) : Rt cs 0 .emp := ⟨rfl, fun k => absurd k (by show ¬ zc.kind = 2; decide), .inl rfl⟩

def upE (E : List Ent) (K bs : List Int) : List Ent := (K, bs) :: E.filter fun e => !(e.1 == K)

theorem up_same : ∀ (l : List Ent) (K bs : List Int), (l.Pairwise fun a b => a.1 ≠ b.1) → (K, bs) ∈ l → l.Perm (upE l K bs)
  | [], _, _, _, h => by cases h
  | e :: r, K, bs, hp, hm => by
    obtain ⟨h1, h2⟩ := List.pairwise_cons.1 hp
    unfold upE
    rcases List.mem_cons.1 hm with q | q
    · subst q
      have hr : r.filter (fun e : Ent => !(e.1 == K)) = r := List.filter_eq_self.2 (fun x hx => by
        have := h1 x hx
        simp only [Bool.not_eq_true', beq_eq_false_iff_ne, ne_eq]
        exact fun e => this e.symm)
      rw [List.filter_cons, if_neg (by simp), hr]
    · have hne : e.1 ≠ K := h1 _ q
      rw [List.filter_cons, if_pos (by simpa using hne)]
      exact (List.Perm.cons e (up_same r K bs h2 q)).trans (List.Perm.swap _ _ _)

def costN (T : Tre) (K bs : List Int) (ss : List Nat) : Nat := if T.efin K = [(K, bs)] then 0 else 1 + ss.length

structure PaIs (cs : List (Nat × Ce)) (fr : List Nat) (T : Tre) (h : Nat) (K bs : List Int) (ss : List Nat) (top : Nat) (cs' : List (Nat × Ce)) (fr' : List Nat) (T' : Tre) : Prop where
  rt : Rt cs' top T'
  ents : T'.ents.Perm (upE T.ents K bs)
  pos : 1 ≤ top
  own : ∀ i, own cs' [] i + (if h = i + 1 then 1 else 0) = own cs [] i + (if top = i + 1 then 1 else 0)
  keep : ∀ x X, IsT cs x X → (x = 0 ∨ 0 < cc cs' (x - 1)) → IsT cs' x X
  noc : noc cs' ≤ noc cs + costN T K bs ss
  same : T.efin K = [(K, bs)] → top = h ∧ cs' = cs ∧ fr' = fr
  just : h = 0 ∨ h ∈ ss → Go.Proofs.YtnnmfgnommbmkaaGreatDoor.noc cs' = Go.Proofs.YtnnmfgnommbmkaaGreatDoor.noc cs + costN T K bs ss
  new : T.efin K ≠ [(K, bs)] → cc cs (top - 1) = 0
  len : cs'.length ≤ cs.length + costN T K bs ss

def PaPost (w0 : World) (S : List Nat) (g gs room : Nat) (cs : List (Nat × Ce)) (fr : List Nat) (T : Tre) (h : Nat) (K bs : List Int) (ss : List Nat) (e : Ending) (w' : World) : Prop :=
  ∃ (top : Nat) (cs' : List (Nat × Ce)) (fr' : List Nat) (T' : Tre), e = .returned (.tuple #[.int .i64 (top : Int), .int .i64 0]) ∧ PaIs cs fr T h K bs ss top cs' fr' T' ∧ Hs w0 S w' g gs room cs' fr'

theorem efin_some {cs : List (Nat × Ce)} {T : Tre} {h : Nat} (hT : IsT cs h T) {K bs : List Int} (hs : T.efin K = [(K, bs)]) : h ≠ 0 := fun e => by
  subst e
  cases T with
  | emp => simp [Tre.efin] at hs
  | lf _ _ => have := hT.1; omega
  | nd _ _ _ _ _ => have := hT.1; omega

theorem put_any {w0 w : World} {S : List Nat} {g gs room : Nat} {cs : List (Nat × Ce)} {fr : List Nat} (H : Hs w0 S w g gs room cs fr) {h : Nat} {T : Tre} (r : Rt cs h T) {K : List Int} (hK : Key K) {u : Value} {bs : List Int} (hu : Kq S w0 (fun w' => Reads w' u bs)) (hL : Kq S w0 Laid) (hl : bs.length ≤ 1024) (hb : ∀ i, own cs [] i ≤ 1000000) (hf : noc cs + 258 ≤ room) {ss : List Nat} (hss : BesIs K T h ss) :
    Calls Tryz.prog 20 #[.pointer (some ⟨g, 0, none⟩), .int .i64 (h : Int), .agg (B K), u] w (PaPost w0 S g gs room cs fr T h K bs ss) := by
  by_cases hsm : T.efin K = [(K, bs)]
  · have h0 := efin_some r.tree hsm
    refine (put_same H h T r.tree K hK u bs (H.kq hu) (r.refuse hl) r.root hf hsm).mono ?_
    rintro e w' ⟨rfl, b⟩
    have hp := up_same T.ents K bs (tree_ok H.2 T h r.tree).apart (efin_mem K T _ (by rw [hsm]; simp))
    exact ⟨h, cs, fr, T, rfl, ⟨r, hp, by omega, fun _ => rfl, fun x X hX _ => hX, Nat.le_add_right _ _, fun _ => ⟨rfl, rfl, rfl⟩, fun _ => by simp [costN, hsm], fun q => absurd hsm q, Nat.le_add_right _ _⟩, H.grow b⟩
  · have hbo : BesOk cs T.ents K ss := by
      obtain ⟨ss2, b1, b2⟩ := bes_ex H.2 K hK r.tree r.dp
      have : ss = ss2 := by
        rcases hss with ⟨e1, e2⟩ | ⟨b, e1, e2⟩ | ⟨k, b, c, e1, e2, e3, e4, e5, e6⟩ <;> rcases b1 with ⟨f1, f2⟩ | ⟨b', f1, f2⟩ | ⟨k', b', c', f1, f2, f3, f4, f5, f6⟩
        · rw [e2, f2]
        · rw [e2, f2]
        · rw [e1] at f1; cases f1
        · rw [e2, f2]
        · rw [e2, f2]
        · rw [e1] at f1
          injection f1 with f1 _
          injection f1 with f1 _
          exact absurd f1.symm f2
        · rw [e1] at f1; cases f1
        · rw [e1] at f1
          injection f1 with f1 _
          injection f1 with f1 _
          exact absurd f1 e2
        · rw [e1] at f1
          injection f1 with f1 _
          injection f1 with f1 _
          subst f1
          rw [e6, f6, e3.one f3]
      rw [this]
      exact b2
    obtain ⟨_, hr1, hr2⟩ := H.sizes
    have hct : ∀ i, cc cs i + 257 < 1073741824 := fun i => by
      have := H.2.ccLe i 1000000 (hb i)
      omega
    refine (put_new H h T r.tree K hK u bs hu hL (r.refuse hl) hl r.root r.own hf hsm ss hss hbo hct).mono ?_
    rintro e w' ⟨top, cs', fr', rfl, _, p, hh⟩
    obtain ⟨U, u1, u2⟩ := p.tree
    refine ⟨top, cs', fr', U, rfl, ⟨⟨u1, p.dp, .inr ?_⟩, u2, p.new.1, p.own, p.keep, by rw [costN, if_neg hsm]; exact p.noc, fun q => absurd q hsm, fun q => by rw [costN, if_neg hsm]; exact p.just q, fun _ => p.new.2, by rw [costN, if_neg hsm]; exact p.len⟩, hh⟩
    have h1 := p.own (top - 1)
    have h2 := p.new
    rw [if_pos (show top = top - 1 + 1 by omega)] at h1
    by_cases e : h = top - 1 + 1
    · exfalso
      have ho := r.own.resolve_left (by omega)
      rw [show h - 1 = top - 1 by omega] at ho
      unfold Go.Proofs.YtnnmfgnommbmkaaGreatDoor.own at ho
      omega
    · rw [if_neg e] at h1
      omega

theorem hs_new (room : Nat) (w : World) (h1 : 1 ≤ room) (h2 : room ≤ 65536) : Calls Tryz.prog 19 #[.int .i64 (room : Int)] w fun e w' => ∃ g gs, e = .returned (.tuple #[.pointer (some ⟨g, 0, none⟩), .int .i64 0]) ∧ Hs w [] w' g gs room [] [] := by
  refine (newS_ok room w h1 h2).mono ?_
  rintro e w' ⟨g, gs, rfl, hg, hgs, s, b⟩
  refine ⟨g, gs, rfl, ⟨_, _, s, Mod.of_below b _, fun k hk => .inr ?_⟩, Wf.new⟩
  rcases stB_mem.1 hk with rfl | hk | ⟨i, hk⟩
  · exact hg
  · rcases slB_mem.1 hk with rfl | hk | hk
    · exact hgs
    · cases hk
    · cases hk
  · simp only [ce, List.getElem?_nil, Option.getD_none] at hk
    cases hk

theorem kq_nil {w : World} {P : World → Prop} (h : ∀ w', Below w.heap.size w w' → P w') : Kq [] w P := fun w' m => h w' m.below0
theorem Hs.low {w w' : World} {g gs room : Nat} {cs : List (Nat × Ce)} {fr : List Nat} (h : Hs w [] w' g gs room cs fr) : Below w.heap.size w w' := h.mod.below0

end Go.Proofs.YtnnmfgnommbmkaaGreatDoor
