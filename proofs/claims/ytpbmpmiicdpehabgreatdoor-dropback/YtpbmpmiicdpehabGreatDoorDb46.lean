/- What DropBack's walk keeps: a store beside a digest's variable; two roots in it. -/
import Derived.Test.YtpbmpmiicdpehabGreatDoorDb45
import Derived.Test.YtpbmpmiicdpehabGreatDoorRows
import Derived.ProofKit
import Derived.OpenShut
import Derived.ShutString
import Derived.ChangeOld
import Derived.Below
import Derived.SizedLaws
namespace Go.Proofs.YtpbmpmiicdpehabGreatDoor
set_option maxRecDepth 20000
open Go.RowKit

/-- A root stays while callers hold it. -/
theorem Rt.stay {cs cs' : List (Nat × Ce)} {h : Nat} {T : Tre} (r : Rt cs h T) (keep : ∀ x X, IsT cs x X → (x = 0 ∨ 0 < cc cs' (x - 1)) → IsT cs' x X) (ho : h = 0 ∨ 0 < Go.Proofs.YtpbmpmiicdpehabGreatDoor.own cs' [] (h - 1)) : Rt cs' h T := by
  have hc : h = 0 ∨ 0 < cc cs' (h - 1) := by
    rcases ho with e | e
    · exact .inl e
    · unfold Go.Proofs.YtpbmpmiicdpehabGreatDoor.own at e
      exact .inr (by omega)
  have ht := keep h T r.tree hc
  refine ⟨ht, fun k => ?_, ho⟩
  have hd := r.dp
  have h1 := r.tree
  match T, h1, ht with
  | .emp, e, _ =>
    have e : h = 0 := e
    subst e
    exact absurd k (by show ¬ zc.kind = 2; decide)
  | .lf _ _, _, q =>
    rw [sdC, if_neg (by have := q.1; omega)] at k
    have := q.2.2.1
    omega
  | .nd d _ _ _ _, p, q =>
    have h0 : h ≠ 0 := by have := p.1; omega
    rw [sdC, if_neg h0] at hd ⊢
    have e1 := hd p.2.2.1
    have e2 := p.2.2.2.1
    have e3 := q.2.2.2.1
    omega

/-- Two roots of a store, which callers hold so often. -/
def Two (cs : List (Nat × Ce)) (root : Nat) (es : List Ent) (top : Nat) (fs : List Ent) (a b lim : Nat) : Prop :=
  ∃ T U, Rt cs root T ∧ T.ents.Perm es ∧ Rt cs top U ∧ U.ents.Perm fs ∧ (∀ i, own cs [] i = (if root = i + 1 then a else 0) + (if top = i + 1 then b else 0)) ∧ noc cs ≤ lim
def Bs (w1 w : World) (g gs bt : Nat) (D : List Int) (root : Nat) (es : List Ent) (top : Nat) (fs : List Ent) (a b lim : Nat) : Prop := ∃ cs fr, Hy w1 w g gs 10320 bt D cs fr ∧ Two cs root es top fs a b lim

section
variable {w1 w w' : World} {g gs bt : Nat} {D : List Int} {root top : Nat} {es fs : List Ent} {a b lim : Nat}
theorem Bs.grow (h : Bs w1 w g gs bt D root es top fs a b lim) (hb : Below w.heap.size w w') : Bs w1 w' g gs bt D root es top fs a b lim := by
  obtain ⟨cs, fr, h1, h2⟩ := h
  exact ⟨cs, fr, h1.grow hb, h2⟩
theorem Bs.low (h : Bs w1 w g gs bt D root es top fs a b lim) : Below w1.heap.size w1 w := by
  obtain ⟨cs, fr, h1, h2⟩ := h
  exact h1.low
theorem Bs.blk (h : Bs w1 w g gs bt D root es top fs a b lim) : Blk w bt 39 (B D) := by
  obtain ⟨cs, fr, h1, h2⟩ := h
  exact h1.blk
theorem Bs.dig1 (h : Bs w1 w g gs bt D root es top fs a b lim) (hL : Laid w) : Calls Tryz.prog 13 #[.pointer (some ⟨g, 0, none⟩), .int .i64 (root : Int)] w fun e w' => e = .returned (.agg (B (rt 256 0 es))) ∧ Below w.heap.size w w' := by
  obtain ⟨cs, fr, h1, T, U, h2, h3, _⟩ := h
  obtain ⟨S, hs, _, _⟩ := h1.hs
  have := sdig_any hs.vw (root : Int) hL
  rwa [sdD_vDg, h2.dig h1.wf, rt_perm _ _ _ _ h3] at this
theorem Bs.dig2 (h : Bs w1 w g gs bt D root es top fs a b lim) (hL : Laid w) : Calls Tryz.prog 13 #[.pointer (some ⟨g, 0, none⟩), .int .i64 (top : Int)] w fun e w' => e = .returned (.agg (B (rt 256 0 fs))) ∧ Below w.heap.size w w' := by
  obtain ⟨cs, fr, h1, T, U, _, _, h2, h3, _⟩ := h
  obtain ⟨S, hs, _, _⟩ := h1.hs
  have := sdig_any hs.vw (top : Int) hL
  rwa [sdD_vDg, h2.dig h1.wf, rt_perm _ _ _ _ h3] at this
end

/-- Behind filled, with the digest in its variable. -/
theorem bs_new {w1 w w' : World} {g gs root bt : Nat} {es : List Ent} {D : List Int} (h : Dk w1 w g gs 10320 es root) (hb : Below w.heap.size w w') (hbt : w.heap.size ≤ bt) (hB : Blk w' bt 39 (B D)) : Bs w1 w' g gs bt D root es root es 1 0 (nN 256 0 es) := by
  obtain ⟨cs, fr, T, h1, h2, h3, h4, h5⟩ := h.noc
  exact ⟨cs, fr, Hy.new h1 hb hbt hB, T, T, h2, h3, h2, h3, fun i => by rw [h4]; simp, by omega⟩

/-- The root is held once more. -/
theorem bs_hold {w1 w : World} {g gs bt : Nat} {D : List Int} {root : Nat} {es : List Ent} {lim : Nat} (h : Bs w1 w g gs bt D root es root es 1 0 lim) (h0 : 0 < root) : Calls Tryz.prog 16 #[.pointer (some ⟨g, 0, none⟩), .int .i64 (root : Int)] w fun e w' => e = .returned (.int .i64 0) ∧ Bs w1 w' g gs bt D root es root es 2 0 lim := by
  obtain ⟨cs, fr, h1, T, U, h2, h3, h4, h5, h6, h7⟩ := h
  obtain ⟨S, hs, _, hbk⟩ := h1.hs
  have hc : 0 < cc cs (root - 1) := (h2.tree.occ.resolve_left (by omega)).2
  have hm : cc cs (root - 1) < 1073741824 := by
    obtain ⟨_, q1, q2⟩ := hs.sizes
    have := hs.2.ccLe (root - 1) 2 (by rw [h6]; split <;> omega)
    omega
  have := hs_hold hs (root - 1) hc hm
  rw [show (((root - 1 : Nat) : Int) + 1) = (root : Int) by omega] at this
  refine this.mono ?_
  rintro e w' ⟨rfl, hh⟩
  have hk : ∀ i, 0 < cc cs i → 0 < cc (moreC cs (root - 1)) i ∧ Core (ce cs i) (ce (moreC cs (root - 1)) i) := fun i hi => by
    rw [moreC_cc hc, moreC_ce]
    exact ⟨by omega, Core.refl _⟩
  have ho : ∀ i, own (moreC cs (root - 1)) [] i = (if root = i + 1 then 2 else 0) + (if root = i + 1 then 0 else 0) := fun i => by
    rw [own_moreC hs.2 hc, h6]
    by_cases e : root = i + 1
    · rw [if_pos e, if_pos e, if_pos (by omega), if_pos e]
    · rw [if_neg e, if_neg e, if_neg (by omega), if_neg e]
  have hR : ∀ X, Rt cs root X → Rt (moreC cs (root - 1)) root X := fun X r => r.stay (fun x Y hY _ => hY.keep hk) (.inr (by rw [ho, if_pos (by omega)]; omega))
  exact ⟨rfl, _, _, hbk _ _ _ hh, T, U, hR T h2, h3, hR U h4, h5, ho, by rw [moreC_noc hc]; exact h7⟩

/-- A write. -/
theorem bs_put {w1 w : World} {g gs bt : Nat} {D : List Int} {root : Nat} {es : List Ent} {a lim : Nat} (h : Bs w1 w g gs bt D root es root es a 0 lim) (ha : root = 0 ∨ a = 2) (ha2 : a ≤ 2) (hlim : lim ≤ 9000) {K : List Int} (hK : Key K) {u : Value} {bs : List Int} (hu : ∀ w', Below w1.heap.size w1 w' → Reads w' u bs) (hL : ∀ w', Below w1.heap.size w1 w' → Laid w') (hl : bs.length ≤ 1024) :
    Calls Tryz.prog 17 #[.pointer (some ⟨g, 0, none⟩), .int .i64 (root : Int), .agg (B K), u] w fun e w' => ∃ top : Nat, e = .returned (.tuple #[.int .i64 (top : Int), .int .i64 0]) ∧ Bs w1 w' g gs bt D root es top (upE es K bs) 1 1 (lim + 257) := by
  obtain ⟨cs, fr, h1, T, U, h2, h3, h4, h5, h6, h7⟩ := h
  obtain ⟨S, hs, hkq, hbk⟩ := h1.hs
  obtain ⟨ss, hss, h256⟩ := h2.bes hs.2 hK
  refine (put_any hs h2 hK (hkq _ hu) (hkq _ hL) hl (fun i => by rw [h6]; split <;> omega) (by omega) hss).mono ?_
  rintro e w' ⟨top, cs', fr', T', rfl, p, hh⟩
  have hcn : costN T K bs ss ≤ 257 := by
    unfold costN
    split <;> omega
  have ho : ∀ i, own cs' [] i = (if root = i + 1 then 1 else 0) + (if top = i + 1 then 1 else 0) := fun i => by
    have q1 := p.own i
    rw [h6] at q1
    by_cases e : root = i + 1
    · rw [if_pos e, if_pos e, if_pos e] at q1
      rw [if_pos e]
      rcases ha with q | q
      · omega
      · omega
    · rw [if_neg e, if_neg e, if_neg e] at q1
      rw [if_neg e]
      omega
  refine ⟨top, rfl, cs', fr', hbk _ _ _ hh, T, T', h2.stay p.keep ?_, h3, p.rt, p.ents.trans (upE_perm h3 K bs), ho, by have := p.noc; omega⟩
  by_cases e : root = 0
  · exact .inl e
  · exact .inr (by rw [ho, if_pos (by omega)]; omega)

/-- Its key is deleted. -/
theorem bs_drop {w1 w : World} {g gs bt : Nat} {D : List Int} {root top : Nat} {es fs : List Ent} {lim : Nat} (h : Bs w1 w g gs bt D root es top fs 1 1 lim) (hlim : lim ≤ 9500) {K : List Int} (hK : Key K) (hL : ∀ w', Below w1.heap.size w1 w' → Laid w') :
    Calls Tryz.prog 11 #[.pointer (some ⟨g, 0, none⟩), .int .i64 (top : Int), .agg (B K)] w fun e w' => ∃ back : Nat, e = .returned (.tuple #[.int .i64 (back : Int), .bool (hasK fs K), .int .i64 0]) ∧ Bs w1 w' g gs bt D root es back (dlE fs K) 1 1 (lim + 256) := by
  obtain ⟨cs, fr, h1, T, U, h2, h3, h4, h5, h6, h7⟩ := h
  obtain ⟨S, hs, hkq, hbk⟩ := h1.hs
  refine (drop_any hs h4 hK (hkq _ hL) (fun i => by rw [h6]; split <;> split <;> omega) (by omega)).mono ?_
  rintro e w' ⟨back, cs', fr', T', rfl, p, hh⟩
  have hcn := (dcost_le hs.2 h4.tree h4.dp K).1
  have ho : ∀ i, own cs' [] i = (if root = i + 1 then 1 else 0) + (if back = i + 1 then 1 else 0) := fun i => by
    have q1 := p.own i
    rw [h6] at q1
    omega
  refine ⟨back, by rw [hasK_perm h5 K], cs', fr', hbk _ _ _ hh, T, T', h2.stay p.keep ?_, h3, p.rt, p.ents.trans (dlE_perm h5 K), ho, by have := p.noc; omega⟩
  by_cases e : root = 0
  · exact .inl e
  · exact .inr (by rw [ho, if_pos (by omega)]; omega)

/-- One root alone, beside the variable. -/
def Bo (w1 w : World) (g gs bt : Nat) (D : List Int) (top : Nat) (fs : List Ent) : Prop := ∃ cs fr U, Hy w1 w g gs 10320 bt D cs fr ∧ Rt cs top U ∧ U.ents.Perm fs ∧ ∀ i, own cs [] i = if top = i + 1 then 1 else 0

section
variable {w1 w w' : World} {g gs bt : Nat} {D : List Int} {top : Nat} {fs : List Ent}
theorem Bo.grow (h : Bo w1 w g gs bt D top fs) (hb : Below w.heap.size w w') : Bo w1 w' g gs bt D top fs := by
  obtain ⟨cs, fr, U, h1, h2⟩ := h
  exact ⟨cs, fr, U, h1.grow hb, h2⟩
theorem Bo.low (h : Bo w1 w g gs bt D top fs) : Below w1.heap.size w1 w := by
  obtain ⟨cs, fr, U, h1, h2⟩ := h
  exact h1.low
theorem Bo.blk (h : Bo w1 w g gs bt D top fs) : Blk w bt 39 (B D) := by
  obtain ⟨cs, fr, U, h1, h2⟩ := h
  exact h1.blk
theorem Bo.dig (h : Bo w1 w g gs bt D top fs) (hL : Laid w) : Calls Tryz.prog 13 #[.pointer (some ⟨g, 0, none⟩), .int .i64 (top : Int)] w fun e w' => e = .returned (.agg (B (rt 256 0 fs))) ∧ Below w.heap.size w w' := by
  obtain ⟨cs, fr, U, h1, h2, h3, _⟩ := h
  obtain ⟨S, hs, _, _⟩ := h1.hs
  have := sdig_any hs.vw (top : Int) hL
  rwa [sdD_vDg, h2.dig h1.wf, rt_perm _ _ _ _ h3] at this
theorem Bo.occ (h : Bo w1 w g gs bt D top fs) : Calls Tryz.prog 10 #[.pointer (some ⟨g, 0, none⟩)] w fun e w' => e = .returned (.int .i64 (nN 256 0 fs : Int)) ∧ Below w.heap.size w w' := by
  obtain ⟨cs, fr, U, h1, h2, h3, h4⟩ := h
  obtain ⟨S, hs, _, _⟩ := h1.hs
  have hn := h2.only h1.wf (fun i hi => by
    rw [h4] at hi
    apply Classical.byContradiction
    intro e
    rw [if_neg e] at hi
    exact hi rfl)
  rw [nN_perm _ _ _ _ h3] at hn
  rw [← hn]
  exact hs_occ hs
end

/-- The old root is dropped. -/
theorem bs_last {w1 w : World} {g gs bt : Nat} {D : List Int} {root top : Nat} {es fs : List Ent} {lim : Nat} (h : Bs w1 w g gs bt D root es top fs 1 1 lim) (h0 : 0 < root) : Calls Tryz.prog 18 #[.pointer (some ⟨g, 0, none⟩), .int .i64 (root : Int)] w fun e w' => ∃ x y : Int, e = .returned (.tuple #[.int .i64 x, .int .i64 y]) ∧ Bo w1 w' g gs bt D top fs := by
  obtain ⟨cs, fr, h1, T, U, h2, h3, h4, h5, h6, h7⟩ := h
  obtain ⟨S, hs, _, hbk⟩ := h1.hs
  have ho : 0 < own cs [] (root - 1) := by rw [h6, if_pos (by omega)]; omega
  have hd := hs_drop hs (root - 1) ho
  rw [show root - 1 + 1 = root by omega] at hd
  refine hd.mono ?_
  rintro e w' ⟨cs', fr', k, hrun, hst, rfl, hh⟩
  have hown : ∀ i, own cs' [] i = if top = i + 1 then 1 else 0 := fun i => by
    have q1 := own_pend (cs := cs) (i := i) (r := root) (by omega) ho
    have q2 := hst.own i
    rw [h6] at q1
    omega
  refine ⟨_, _, rfl, cs', fr', U, hbk _ _ _ hh, h4.stay (fun x X hX hx => hX.stay hst.wf hst.keep hx) ?_, h5, hown⟩
  by_cases e : top = 0
  · exact .inl e
  · exact .inr (by rw [hown, if_pos (by omega)]; omega)
theorem bs_zero {w1 w : World} {g gs bt : Nat} {D : List Int} {top : Nat} {es fs : List Ent} {lim : Nat} (h : Bs w1 w g gs bt D 0 es top fs 1 1 lim) : Bo w1 w g gs bt D top fs := by
  obtain ⟨cs, fr, h1, T, U, h2, h3, h4, h5, h6, h7⟩ := h
  exact ⟨cs, fr, U, h1, h4, h5, fun i => by rw [h6, if_neg (by omega)]; omega⟩

theorem dl_up {es : List Ent} {K bs : List Int} (h : hasK es K = false) : dlE (upE es K bs) K = es := by
  have e := dl_none h
  unfold dlE at e ⊢
  unfold upE
  rw [List.filter_cons, if_neg (by simp), List.filter_filter]
  simpa using e
theorem has_up (es : List Ent) (K bs : List Int) : hasK (upE es K bs) K = true := by simp [hasK, upE]

end Go.Proofs.YtpbmpmiicdpehabGreatDoor

/- DropBack's walk. -/
namespace Go.Proofs.YtpbmpmiicdpehabGreatDoor
set_option maxRecDepth 20000
open Go.RowKit

set_option maxHeartbeats 16000000 in
theorem dropBack_walk (v u : Value) (V : Nat → Value) (es : List Ent) (K bs : List Int) (w : World) (hL : Laid w) (hv : PrAt w v V es) (hn : es.length ≤ 140737488355328) (hK : Key K) (hu : Reads w u bs) : Calls Tryz.prog 4 #[v, .agg (B K), u] w fun e w' => e = .returned (.bool true) ∧ Below w.heap.size w w' := by
  have HAW : Hid (∀ w', Below w.heap.size w w' → Calls Tryz.prog 5 #[] w' fun e w'' => e = .returned (.bool true) ∧ Below w'.heap.size w' w'') := fun w' hb => awake10_any w' (fun w'' h => hL.grow (grow_trans hb h))
  have HUN : Hid (∀ w', Below w.heap.size w w' → Calls Tryz.prog 6 #[v] w' fun e w'' => e = .returned (.bool (unP es)) ∧ Below w'.heap.size w' w'') := fun w' hb => unlike_any (hv.grow hb) hn (hL.grow hb)
  have HPS : Hid ((Tryz.prog.info? 32).map (·.size) = some (B K).size) := by show _ = _; rw [B_size, hK.1]; exact size_path
  have HUR : Hid (∀ w', Below w.heap.size w w' → Reads w' u bs) := fun w' hb => hu.grow hb
  have HVR : Hid (∀ w', Below w.heap.size w w' → PrAt w' v V es) := fun w' hb => hv.grow hb
  have HLD : Hid (∀ w', Below w.heap.size w w' → Laid w') := fun w' h1 => hL.grow h1
  have HKK := hidden hK
  obtain ⟨va, vc, hve, _⟩ := hv
  subst hve
  obtain ⟨ua, uc, hue, _⟩ := hu
  subst hue
  obtain ⟨el, hel⟩ : ∃ el, el = es.length := ⟨_, rfl⟩
  rw [← hel] at HUN HVR ⊢
  obtain ⟨ul, hul⟩ : ∃ ul, ul = bs.length := ⟨_, rfl⟩
  rw [← hul] at HUR ⊢
  cases hun : unP es with
  | false =>
    rw [hun] at HUN
    clear HUR HVR HLD HKK HPS hL hn hel hul hun hK
    go_enter Tryz.func4, Tryz.ntmps4
    go_wp2_with (first
      | ((with_reducible refine at_bxd 4 ?_); refine wpList_bx _ rfl _ _ rfl _ rfl ?_; intro w1 b4 hg5 hl5 B5 q5; have HB4 := hidden B5; have HB0 := hidden q5; clear hg5 hl5 B5 q5)
      | (go_at_call 5; refine (HAW.out _ HB0.out).mono ?_; rintro e x1 ⟨rfl, b1⟩; have HB1 := hidden (grow_trans HB0.out b1); have HBK1 := hidden (HB4.out.grow b1); clear b1)
      | (go_at_call 6; refine (HUN.out _ HB1.out).mono ?_; rintro e w2 ⟨rfl, b2⟩; have HB2 := hidden (grow_trans HB1.out b2); have HBK2 := hidden (HBK1.out.grow b2); clear b2))
    go_ret
    exact ⟨rfl, HB2.out⟩
  | true =>
    rw [hun] at HUN
    by_cases hu1 : ul ≤ 1024
    · have hu2 : ¬ (1024 : Int) < (ul : Int) := by omega
      obtain ⟨u1, u2, u3⟩ := unP_yes hun
      have HFL : Hid (∀ w', Below w.heap.size w w' → Calls Tryz.prog 7 #[.slice va el vc] w' fun e w'' => ∃ (g gs root : Nat), e = .returned (.tuple #[.pointer (some ⟨g, 0, none⟩), .int .i64 (root : Int), .bool true]) ∧ Dk w' w'' g gs 10320 es root) := fun w' hb => by
        refine (filled_any (HVR.out w' hb) u1 u2 u3 (fun w'' h => HLD.out _ (grow_trans hb h))).mono ?_
        rintro e w'' ⟨g, gs, root, rfl, d⟩
        exact ⟨g, gs, root, rfl, d⟩
      have HWO0 : Hid (∀ w', Below w.heap.size w w' → Calls Tryz.prog 8 #[.slice va el vc, .agg (B K)] w' fun e w'' => ∃ a n c, e = .returned (.tuple #[.slice a n c, .bool (hasK es K)]) ∧ Below w'.heap.size w' w'') := fun w' hb => by
        refine (without_any (S := []) (fun k hk => by cases hk) (kq_nil fun w'' h => HVR.out w'' (grow_trans hb h)) u1 HKK.out).mono ?_
        rintro e w'' ⟨a, c, V', rfl, _, b⟩
        exact ⟨a, _, c, rfl, b⟩
      have hq := nN_le 256 0 es
      have hq2 : es.length * (256 + 1) ≤ 14 * 257 := Nat.mul_le_mul_right _ u1
      have HNE : Hid (nN 256 0 es ≤ 3598) := by show _ ≤ _; omega
      have hDl : (rt 256 0 es).length = 32 := by
        obtain ⟨hh, E0, hri⟩ := rootIs_ex es 0
        obtain ⟨e1, _⟩ := root_of (by omega) u2 u3 hri
        rw [← e1]
        exact hri.len
      have HHS : Hid ((Tryz.prog.info? 39).map (·.size) = some (B (rt 256 0 es)).size ∧ (B z32).size = (B (rt 256 0 es)).size) := ⟨by rw [B_size, hDl]; exact size_hash, by rw [B_size, B_size, hDl]; rfl⟩
      have HHL : Hid ((Tryz.prog.info? 39).map (·.size) = some (B (rt 256 0 es)).toList.length) := by show _ = _; rw [B_toList, List.length_map, hDl]; exact size_hash
      have hE := hash_eq (rt 256 0 es) (rt 256 0 es) hDl hDl
      simp only [decide_true] at hE
      have HBL : Hid (bs.length ≤ 1024) := by show _ ≤ _; omega
      clear hL hn hel hul hun u1 u2 u3 hq hq2 hDl hK hu1
      go_enter Tryz.func4, Tryz.ntmps4
      go_upto_region 7 with (first
        | ((with_reducible refine at_bxd 4 ?_); refine wpList_bx _ rfl _ _ rfl _ rfl ?_; intro w1 b4 hg5 hl5 B5 q5; have HB4 := hidden B5; have HB0 := hidden q5; clear hg5 hl5 B5 q5)
        | (go_at_call 5; refine (HAW.out _ HB0.out).mono ?_; rintro e x1 ⟨rfl, b1⟩; have HB1 := hidden (grow_trans HB0.out b1); have HBK1 := hidden (HB4.out.grow b1); clear b1)
        | (go_at_call 6; refine (HUN.out _ HB1.out).mono ?_; rintro e w2 ⟨rfl, b2⟩; have HB2 := hidden (grow_trans HB1.out b2); have HBK2 := hidden (HBK1.out.grow b2); clear b2)
        | (go_at_call 7; refine (HFL.out _ HB2.out).mono ?_; rintro e w3 ⟨g, gs, root, rfl, d0⟩; have HD := hidden d0; clear d0))
      have HL1 : Hid (∀ w', Below w2.heap.size w2 w' → Laid w') := fun w' h => HLD.out w' (grow_trans HB2.out h)
      have HU1 : Hid (∀ w', Below w2.heap.size w2 w' → Reads w' (.slice ua ul uc) bs) := fun w' h => HUR.out w' (grow_trans HB2.out h)
      have HWO : Hid (∀ w', Below w2.heap.size w2 w' → Calls Tryz.prog 8 #[.slice va el vc, .agg (B K)] w' fun e w'' => ∃ a n c, e = .returned (.tuple #[.slice a n c, .bool (hasK es K)]) ∧ Below w'.heap.size w' w'') := fun w' h => HWO0.out w' (grow_trans HB2.out h)
      have HOC : Hid (∀ w', Dk w2 w' g gs 10320 es root → Calls Tryz.prog 10 #[.pointer (some ⟨g, 0, none⟩)] w' fun e w'' => e = .returned (.int .i64 (nN 256 0 es : Int)) ∧ Below w'.heap.size w' w'') := fun w' h => h.occ
      have HDG : Hid (∀ w', Dk w2 w' g gs 10320 es root → Calls Tryz.prog 13 #[.pointer (some ⟨g, 0, none⟩), .int .i64 (root : Int)] w' fun e w'' => e = .returned (.agg (B (rt 256 0 es))) ∧ Below w'.heap.size w' w'') := fun w' h => h.dig (HL1.out _ h.low)
      have HNEW : Hid (∀ w' w'' bt, Dk w2 w' g gs 10320 es root → Below w'.heap.size w' w'' → w'.heap.size ≤ bt → Blk w'' bt 39 (B (rt 256 0 es)) → Bs w2 w'' g gs bt (rt 256 0 es) root es root es 1 0 (nN 256 0 es)) := fun w' w'' bt h1 h2 h3 h4 => bs_new h1 h2 h3 h4
      have HDR : Hid (∀ bt w' (mn : Nat) (my : Int), my = (mn : Int) → Bs w2 w' g gs bt (rt 256 0 es) root es mn (upE es K bs) 1 1 (nN 256 0 es + 257) → Calls Tryz.prog 11 #[.pointer (some ⟨g, 0, none⟩), .int .i64 my, .agg (B K)] w' fun e w'' => ∃ (ty : Int) (tn : Nat), e = .returned (.tuple #[.int .i64 ty, .bool true, .int .i64 0]) ∧ ty = (tn : Int) ∧ Bs w2 w'' g gs bt (rt 256 0 es) root es tn (dlE (upE es K bs) K) 1 1 (nN 256 0 es + 257 + 256)) := fun bt w' mn my hmy h => by
        rw [hmy]
        refine (bs_drop h (by have := HNE.out; omega) HKK.out HL1.out).mono ?_
        rintro e w'' ⟨back, rfl, q⟩
        exact ⟨_, back, by rw [has_up], rfl, q⟩
      have HG1 : Hid (∀ w' bt tn fs, Bs w2 w' g gs bt (rt 256 0 es) root es tn fs 1 1 (nN 256 0 es + 257 + 256) → Calls Tryz.prog 13 #[.pointer (some ⟨g, 0, none⟩), .int .i64 (root : Int)] w' fun e w'' => e = .returned (.agg (B (rt 256 0 es))) ∧ Below w'.heap.size w' w'') := fun w' bt tn fs h => h.dig1 (HL1.out _ h.low)
      clear HFL HUN HAW HLD HUR HVR HWO0
      by_cases r0 : root = 0
      · have HPT : Hid (∀ bt w', Bs w2 w' g gs bt (rt 256 0 es) root es root es 1 0 (nN 256 0 es) → Calls Tryz.prog 17 #[.pointer (some ⟨g, 0, none⟩), .int .i64 (root : Int), .agg (B K), .slice ua ul uc] w' fun e w'' => ∃ (ty : Int) (tn : Nat), e = .returned (.tuple #[.int .i64 ty, .int .i64 0]) ∧ ty = (tn : Int) ∧ Bs w2 w'' g gs bt (rt 256 0 es) root es tn (upE es K bs) 1 1 (nN 256 0 es + 257)) := fun bt w' h => by
          refine (bs_put h (.inl r0) (by omega) (by have := HNE.out; omega) HKK.out HU1.out HL1.out HBL.out).mono ?_
          rintro e w'' ⟨top, rfl, q⟩
          exact ⟨_, top, rfl, rfl, q⟩
        have HLA0 : Hid (∀ bt tn w', Bs w2 w' g gs bt (rt 256 0 es) root es tn es 1 1 (nN 256 0 es + 257 + 256) → Bo w2 w' g gs bt (rt 256 0 es) tn es) := fun bt tn w' h => by
          rw [r0] at h
          exact bs_zero h
        have ryz : (root : Int) = 0 := by omega
        cases hth : hasK es K with
        | true =>
          as_aux_lemma =>
            rw [hth] at HWO
            generalize rt 256 0 es = D at HHS HHL hE HDG HNEW HPT HDR HG1
            generalize (nN 256 0 es : Int) = o1 at HOC
            generalize nN 256 0 es = oN at HNEW HPT HDR HG1
            generalize dlE (upE es K bs) K = fs at HDR
            generalize upE es K bs = us at HPT HDR
            obtain ⟨ry, hry⟩ : ∃ y : Int, y = (root : Int) := ⟨_, rfl⟩
            rw [← hry] at HDG HPT HG1 ryz ⊢
            subst ryz
            clear hry HLA0 HNE HBL HKK HL1 HU1 hth r0
            go_wp2_with (first
              | ((with_reducible refine at_ldd 40 4 ?_); refine wpList_ld _ rfl _ _ rfl b4 _ rfl (HBK2.out.grow HD.out.low) _ _ Tryz.underlying32 HPS.out ?_)
              | (go_at_call 8; refine (HWO.out _ HD.out.low).mono ?_; rintro e x3 ⟨ra, rn, rc, rfl, b3⟩; replace HD := hidden (HD.out.grow b3); clear b3)
              | (go_at_call 10; refine (HOC.out _ HD.out).mono ?_; rintro e x4 ⟨rfl, b4x⟩; replace HD := hidden (HD.out.grow b4x); clear b4x)
              | (go_at_call 13; refine (HDG.out _ HD.out).mono ?_; rintro e x4b ⟨rfl, b4x⟩; replace HD := hidden (HD.out.grow b4x); clear b4x)
              | ((with_reducible refine at_ald 14 ?_); refine wpList_al _ rfl _ rfl _ zero_hash ?_; intro x4c bt hgh hlh BH q3; have HBZ := hidden BH; have HGH := hidden hgh; have HQ8 := hidden q3; clear hgh hlh BH q3)
              | ((with_reducible refine at_st 14 ?_); refine wpList_sto _ rfl _ _ _ rfl bt _ (B D) rfl rfl HBZ.out HHS.out.1 HHS.out.2 (B_one _) ?_; intro x4d BH r4; have HS := hidden (HNEW.out _ _ _ HD.out (below_row HQ8.out r4 HGH.out) HGH.out BH); clear BH r4)
              | ((with_reducible refine at_ldd 60 4 ?_); refine wpList_ld _ rfl _ _ rfl b4 _ rfl (HBK2.out.grow HS.out.low) _ _ Tryz.underlying32 HPS.out ?_)
              | (go_at_call 17; refine (HPT.out _ _ HS.out).mono ?_; rintro e x6 ⟨my, mn, rfl, hmy, d6⟩; have HMY := hidden hmy; have HS3 := hidden d6; clear d6 hmy)
              | ((with_reducible refine at_ldd 70 4 ?_); refine wpList_ld _ rfl _ _ rfl b4 _ rfl (HBK2.out.grow HS3.out.low) _ _ Tryz.underlying32 HPS.out ?_)
              | (go_at_call 11; refine (HDR.out _ _ _ _ HMY.out HS3.out).mono ?_; rintro e x8 ⟨ty, tn, rfl, hty, d8⟩; have HTY := hidden hty; have HA := hidden d8; clear d8 hty))
            refine wp_region_held_drew (S := fun w' => Below x8.heap.size x8 w') (by kernel_rfl) ((below_drewN (Below.refl _ _) 1)) (fun hHeld => ?_)
            refine wpAnyH_take (i := 0) (v := .int .i64 0) rfl (by kernel_rfl) (by kernel_rfl) (by kernel_rfl) (fun _ _ _ h => h) (Or.inl ⟨by rfl, fun w hS => by go_simp⟩) hHeld ?_
            simp only [Act.put, List.getElem_toArray, List.getElem_cons_zero, List.setIfInBounds_toArray, List.set_cons_zero, List.set_cons_succ]
            refine wpAnyH_take (i := 1) (v := .bool false) rfl (by kernel_rfl) (by kernel_rfl) (by kernel_rfl) (fun _ _ _ h => h) (Or.inl ⟨by rfl, fun w hS => by go_simp⟩) hHeld ?_
            simp only [Act.put, List.getElem_toArray, List.getElem_cons_zero, List.getElem_cons_succ, List.setIfInBounds_toArray, List.set_cons_zero, List.set_cons_succ]
            refine wpAnyH_take (i := 2) (v := .bool false) rfl (by kernel_rfl) (by kernel_rfl) (by kernel_rfl) (fun _ _ _ h => h) (Or.inl ⟨by rfl, fun w hS => by go_simp⟩) hHeld ?_
            simp only [Act.put, List.getElem_toArray, List.getElem_cons_zero, List.getElem_cons_succ, List.setIfInBounds_toArray, List.set_cons_zero, List.set_cons_succ]
            refine wpAnyH_take (i := 3) (v := .bool true) rfl (by kernel_rfl) (by kernel_rfl) (by kernel_rfl) (fun _ _ _ h => h) (Or.inl ⟨by rfl, fun w hS => by go_simp⟩) hHeld ?_
            simp only [Act.put, List.getElem_toArray, List.getElem_cons_zero, List.getElem_cons_succ, List.setIfInBounds_toArray, List.set_cons_zero, List.set_cons_succ]
            refine wpAnyH_take (i := 4) (v := .bool false) rfl (by kernel_rfl) (by kernel_rfl) (by kernel_rfl) (fun _ _ _ h => h) (Or.inl ⟨by rfl, fun w hS => by go_simp⟩) hHeld ?_
            simp only [Act.put, List.getElem_toArray, List.getElem_cons_zero, List.getElem_cons_succ, List.setIfInBounds_toArray, List.set_cons_zero, List.set_cons_succ]
            refine wpAnyH_take (i := 5) (v := .bool false) rfl (by kernel_rfl) (by kernel_rfl) (by kernel_rfl) (fun _ _ _ h => h) (Or.inl ⟨by rfl, fun w hS => by go_simp⟩) hHeld ?_
            simp only [Act.put, List.getElem_toArray, List.getElem_cons_zero, List.getElem_cons_succ, List.setIfInBounds_toArray, List.set_cons_zero, List.set_cons_succ]
            refine wpAnyH_take (i := 6) (v := .bool false) rfl (by kernel_rfl) (by kernel_rfl) (by kernel_rfl) (fun _ _ _ h => h) (Or.inl ⟨by rfl, fun w hS => by go_simp⟩) hHeld ?_
            simp only [Act.put, List.getElem_toArray, List.getElem_cons_zero, List.getElem_cons_succ, List.setIfInBounds_toArray, List.set_cons_zero, List.set_cons_succ]
            refine wpAnyH_take (i := 7) (v := .pointer (some ⟨g, 0, none⟩)) rfl (by kernel_rfl) (by kernel_rfl) (by kernel_rfl) (fun _ _ _ h => h) (Or.inl ⟨by rfl, fun w hS => by go_simp⟩) hHeld ?_
            simp only [Act.put, List.getElem_toArray, List.getElem_cons_zero, List.getElem_cons_succ, List.setIfInBounds_toArray, List.set_cons_zero, List.set_cons_succ]
            refine wpAnyH_take (i := 8) (v := .int .i64 0) rfl (by kernel_rfl) (by kernel_rfl) (by kernel_rfl) (fun _ _ _ h => h) (Or.inl ⟨by rfl, fun w hS => by go_simp⟩) hHeld ?_
            simp only [Act.put, List.getElem_toArray, List.getElem_cons_zero, List.getElem_cons_succ, List.setIfInBounds_toArray, List.set_cons_zero, List.set_cons_succ]
            refine wpAnyH_take (i := 10) (v := .agg (B D)) rfl (by kernel_rfl) (by kernel_rfl) (by kernel_rfl) (fun _ _ _ h => h) (yieldsIf_load_mid rfl 39 (.tmp 14) rfl bt 0 rfl (B D).toList _ (fun w hS => (HA.out.blk.grow hS).range) Tryz.underlying39 rfl HHL.out) hHeld ?_
            simp only [Act.put, List.getElem_toArray, List.getElem_cons_zero, List.getElem_cons_succ, List.setIfInBounds_toArray, List.set_cons_zero, List.set_cons_succ]
            refine wpAnyH_ready (rs := [9]) (by kernel_rfl) (by simp) ?_
            refine AllReadyH.cons rfl (fun KQ hK => ?_) AllReadyH.nil
            go_simp
            refine (HG1.out _ _ _ _ (HA.out.grow hHeld)).mono ?_
            rintro e y1 ⟨rfl, a1⟩
            refine hK.out _ _ (grow_trans hHeld a1) (fun hHeld => ?_)
            clear hK KQ
            refine wpAnyH_take (i := 11) (v := .bool false) rfl (by kernel_rfl) (by kernel_rfl) (by kernel_rfl) (fun _ _ _ h => h) (Or.inl ⟨by rfl, fun w hS => by go_simp⟩) hHeld ?_
            simp only [Act.put, List.getElem_toArray, List.getElem_cons_zero, List.getElem_cons_succ, List.setIfInBounds_toArray, List.set_cons_zero, List.set_cons_succ]
            refine wpAnyH_take (i := 12) (v := .bool false) rfl (by kernel_rfl) (by kernel_rfl) (by kernel_rfl) (fun _ _ _ h => h) (Or.inl ⟨by rfl, fun w hS => by go_simp⟩) hHeld ?_
            simp only [Act.put, List.getElem_toArray, List.getElem_cons_zero, List.getElem_cons_succ, List.setIfInBounds_toArray, List.set_cons_zero, List.set_cons_succ]
            refine wpAnyH_done (by kernel_rfl) ?_ _
            have HH1 := hidden hHeld
            clear hHeld
            replace HA := hidden (HA.out.grow HH1.out)
            have HE := hidden (grow_trans HB2.out HA.out.low)
            go_wp2_with fail
            go_ret
            exact ⟨rfl, HE.out⟩
        | false =>
          as_aux_lemma =>
            rw [hth] at HWO
            rw [dl_up hth] at HDR
            have HLA : Hid (∀ bt tn w', Bs w2 w' g gs bt (rt 256 0 es) root es tn es 1 1 (nN 256 0 es + 257 + 256) → Bo w2 w' g gs bt (rt 256 0 es) tn es) := HLA0.out
            have HG2 : Hid (∀ bt (tn : Nat) (ty : Int), ty = (tn : Int) → ∀ w', Bs w2 w' g gs bt (rt 256 0 es) root es tn es 1 1 (nN 256 0 es + 257 + 256) → Calls Tryz.prog 13 #[.pointer (some ⟨g, 0, none⟩), .int .i64 ty] w' fun e w'' => e = .returned (.agg (B (rt 256 0 es))) ∧ Below w'.heap.size w' w'') := fun bt tn ty hty w' h => by rw [hty]; exact h.dig2 (HL1.out _ h.low)
            have HG3 : Hid (∀ bt (tn : Nat) (ty : Int), ty = (tn : Int) → ∀ w', Bo w2 w' g gs bt (rt 256 0 es) tn es → Calls Tryz.prog 13 #[.pointer (some ⟨g, 0, none⟩), .int .i64 ty] w' fun e w'' => e = .returned (.agg (B (rt 256 0 es))) ∧ Below w'.heap.size w' w'') := fun bt tn ty hty w' h => by rw [hty]; exact h.dig (HL1.out _ h.low)
            have HOB : Hid (∀ bt (tn : Nat) w', Bo w2 w' g gs bt (rt 256 0 es) tn es → Calls Tryz.prog 10 #[.pointer (some ⟨g, 0, none⟩)] w' fun e w'' => e = .returned (.int .i64 (nN 256 0 es : Int)) ∧ Below w'.heap.size w' w'') := fun bt tn w' h => h.occ
            generalize rt 256 0 es = D at HHS HHL hE HDG HNEW HPT HDR HG1 HLA HG2 HG3 HOB
            generalize (nN 256 0 es : Int) = o1 at HOC HOB
            generalize nN 256 0 es = oN at HNEW HPT HDR HG1 HLA HG2
            generalize upE es K bs = us at HPT HDR
            obtain ⟨ry, hry⟩ : ∃ y : Int, y = (root : Int) := ⟨_, rfl⟩
            rw [← hry] at HDG HPT HG1 ryz ⊢
            subst ryz
            clear hry HLA0 HNE HBL HKK HL1 HU1 hth r0
            go_wp2_with (first
              | ((with_reducible refine at_ldd 40 4 ?_); refine wpList_ld _ rfl _ _ rfl b4 _ rfl (HBK2.out.grow HD.out.low) _ _ Tryz.underlying32 HPS.out ?_)
              | (go_at_call 8; refine (HWO.out _ HD.out.low).mono ?_; rintro e x3 ⟨ra, rn, rc, rfl, b3⟩; replace HD := hidden (HD.out.grow b3); clear b3)
              | (go_at_call 10; refine (HOC.out _ HD.out).mono ?_; rintro e x4 ⟨rfl, b4x⟩; replace HD := hidden (HD.out.grow b4x); clear b4x)
              | (go_at_call 13; refine (HDG.out _ HD.out).mono ?_; rintro e x4b ⟨rfl, b4x⟩; replace HD := hidden (HD.out.grow b4x); clear b4x)
              | ((with_reducible refine at_ald 14 ?_); refine wpList_al _ rfl _ rfl _ zero_hash ?_; intro x4c bt hgh hlh BH q3; have HBZ := hidden BH; have HGH := hidden hgh; have HQ8 := hidden q3; clear hgh hlh BH q3)
              | ((with_reducible refine at_st 14 ?_); refine wpList_sto _ rfl _ _ _ rfl bt _ (B D) rfl rfl HBZ.out HHS.out.1 HHS.out.2 (B_one _) ?_; intro x4d BH r4; have HS := hidden (HNEW.out _ _ _ HD.out (below_row HQ8.out r4 HGH.out) HGH.out BH); clear BH r4)
              | ((with_reducible refine at_ldd 60 4 ?_); refine wpList_ld _ rfl _ _ rfl b4 _ rfl (HBK2.out.grow HS.out.low) _ _ Tryz.underlying32 HPS.out ?_)
              | (go_at_call 17; refine (HPT.out _ _ HS.out).mono ?_; rintro e x6 ⟨my, mn, rfl, hmy, d6⟩; have HMY := hidden hmy; have HS3 := hidden d6; clear d6 hmy)
              | ((with_reducible refine at_ldd 70 4 ?_); refine wpList_ld _ rfl _ _ rfl b4 _ rfl (HBK2.out.grow HS3.out.low) _ _ Tryz.underlying32 HPS.out ?_)
              | (go_at_call 11; refine (HDR.out _ _ _ _ HMY.out HS3.out).mono ?_; rintro e x8 ⟨ty, tn, rfl, hty, d8⟩; have HTY := hidden hty; have HA := hidden d8; clear d8 hty))
            refine wp_region_held_drew (S := fun w' => Below x8.heap.size x8 w') (by kernel_rfl) ((below_drewN (Below.refl _ _) 1)) (fun hHeld => ?_)
            refine wpAnyH_take (i := 0) (v := .int .i64 0) rfl (by kernel_rfl) (by kernel_rfl) (by kernel_rfl) (fun _ _ _ h => h) (Or.inl ⟨by rfl, fun w hS => by go_simp⟩) hHeld ?_
            simp only [Act.put, List.getElem_toArray, List.getElem_cons_zero, List.setIfInBounds_toArray, List.set_cons_zero, List.set_cons_succ]
            refine wpAnyH_take (i := 1) (v := .bool false) rfl (by kernel_rfl) (by kernel_rfl) (by kernel_rfl) (fun _ _ _ h => h) (Or.inl ⟨by rfl, fun w hS => by go_simp⟩) hHeld ?_
            simp only [Act.put, List.getElem_toArray, List.getElem_cons_zero, List.getElem_cons_succ, List.setIfInBounds_toArray, List.set_cons_zero, List.set_cons_succ]
            refine wpAnyH_take (i := 2) (v := .bool false) rfl (by kernel_rfl) (by kernel_rfl) (by kernel_rfl) (fun _ _ _ h => h) (Or.inl ⟨by rfl, fun w hS => by go_simp⟩) hHeld ?_
            simp only [Act.put, List.getElem_toArray, List.getElem_cons_zero, List.getElem_cons_succ, List.setIfInBounds_toArray, List.set_cons_zero, List.set_cons_succ]
            refine wpAnyH_take (i := 3) (v := .bool true) rfl (by kernel_rfl) (by kernel_rfl) (by kernel_rfl) (fun _ _ _ h => h) (Or.inl ⟨by rfl, fun w hS => by go_simp⟩) hHeld ?_
            simp only [Act.put, List.getElem_toArray, List.getElem_cons_zero, List.getElem_cons_succ, List.setIfInBounds_toArray, List.set_cons_zero, List.set_cons_succ]
            refine wpAnyH_take (i := 4) (v := .bool false) rfl (by kernel_rfl) (by kernel_rfl) (by kernel_rfl) (fun _ _ _ h => h) (Or.inl ⟨by rfl, fun w hS => by go_simp⟩) hHeld ?_
            simp only [Act.put, List.getElem_toArray, List.getElem_cons_zero, List.getElem_cons_succ, List.setIfInBounds_toArray, List.set_cons_zero, List.set_cons_succ]
            refine wpAnyH_take (i := 5) (v := .bool false) rfl (by kernel_rfl) (by kernel_rfl) (by kernel_rfl) (fun _ _ _ h => h) (Or.inl ⟨by rfl, fun w hS => by go_simp⟩) hHeld ?_
            simp only [Act.put, List.getElem_toArray, List.getElem_cons_zero, List.getElem_cons_succ, List.setIfInBounds_toArray, List.set_cons_zero, List.set_cons_succ]
            refine wpAnyH_take (i := 6) (v := .bool false) rfl (by kernel_rfl) (by kernel_rfl) (by kernel_rfl) (fun _ _ _ h => h) (Or.inl ⟨by rfl, fun w hS => by go_simp⟩) hHeld ?_
            simp only [Act.put, List.getElem_toArray, List.getElem_cons_zero, List.getElem_cons_succ, List.setIfInBounds_toArray, List.set_cons_zero, List.set_cons_succ]
            refine wpAnyH_take (i := 7) (v := .pointer (some ⟨g, 0, none⟩)) rfl (by kernel_rfl) (by kernel_rfl) (by kernel_rfl) (fun _ _ _ h => h) (Or.inl ⟨by rfl, fun w hS => by go_simp⟩) hHeld ?_
            simp only [Act.put, List.getElem_toArray, List.getElem_cons_zero, List.getElem_cons_succ, List.setIfInBounds_toArray, List.set_cons_zero, List.set_cons_succ]
            refine wpAnyH_take (i := 8) (v := .int .i64 0) rfl (by kernel_rfl) (by kernel_rfl) (by kernel_rfl) (fun _ _ _ h => h) (Or.inl ⟨by rfl, fun w hS => by go_simp⟩) hHeld ?_
            simp only [Act.put, List.getElem_toArray, List.getElem_cons_zero, List.getElem_cons_succ, List.setIfInBounds_toArray, List.set_cons_zero, List.set_cons_succ]
            refine wpAnyH_take (i := 10) (v := .agg (B D)) rfl (by kernel_rfl) (by kernel_rfl) (by kernel_rfl) (fun _ _ _ h => h) (yieldsIf_load_mid rfl 39 (.tmp 14) rfl bt 0 rfl (B D).toList _ (fun w hS => (HA.out.blk.grow hS).range) Tryz.underlying39 rfl HHL.out) hHeld ?_
            simp only [Act.put, List.getElem_toArray, List.getElem_cons_zero, List.getElem_cons_succ, List.setIfInBounds_toArray, List.set_cons_zero, List.set_cons_succ]
            refine wpAnyH_ready (rs := [9]) (by kernel_rfl) (by simp) ?_
            refine AllReadyH.cons rfl (fun KQ hK => ?_) AllReadyH.nil
            go_simp
            refine (HG1.out _ _ _ _ (HA.out.grow hHeld)).mono ?_
            rintro e y1 ⟨rfl, a1⟩
            refine hK.out _ _ (grow_trans hHeld a1) (fun hHeld => ?_)
            clear hK KQ
            refine wpAnyH_take (i := 11) (v := .bool false) rfl (by kernel_rfl) (by kernel_rfl) (by kernel_rfl) (fun _ _ _ h => h) (Or.inl ⟨by rfl, fun w hS => by go_simp⟩) hHeld ?_
            simp only [Act.put, List.getElem_toArray, List.getElem_cons_zero, List.getElem_cons_succ, List.setIfInBounds_toArray, List.set_cons_zero, List.set_cons_succ]
            refine wpAnyH_take (i := 12) (v := .bool false) rfl (by kernel_rfl) (by kernel_rfl) (by kernel_rfl) (fun _ _ _ h => h) (Or.inl ⟨by rfl, fun w hS => by go_simp⟩) hHeld ?_
            simp only [Act.put, List.getElem_toArray, List.getElem_cons_zero, List.getElem_cons_succ, List.setIfInBounds_toArray, List.set_cons_zero, List.set_cons_succ]
            refine wpAnyH_done (by kernel_rfl) ?_ _
            have HH1 := hidden hHeld
            clear hHeld
            replace HA := hidden (HA.out.grow HH1.out)
            replace HG2 := hidden (HG2.out bt _ _ HTY.out)
            replace HG3 := hidden (HG3.out bt _ _ HTY.out)
            replace HOB := hidden (HOB.out bt tn)
            go_wp2_with fail
            refine wp_region_held_drew (S := fun w' => Below y1.heap.size y1 w') (by kernel_rfl) ((below_drewN (Below.refl _ _) 1)) (fun hHeld => ?_)
            refine wpAnyH_take (i := 0) (v := .pointer (some ⟨g, 0, none⟩)) rfl (by kernel_rfl) (by kernel_rfl) (by kernel_rfl) (fun _ _ _ h => h) (Or.inl ⟨by rfl, fun w hS => by go_simp⟩) hHeld ?_
            simp only [Act.put, List.getElem_toArray, List.getElem_cons_zero, List.setIfInBounds_toArray, List.set_cons_zero, List.set_cons_succ]
            refine wpAnyH_take (i := 1) (v := .int .i64 ty) rfl (by kernel_rfl) (by kernel_rfl) (by kernel_rfl) (fun _ _ _ h => h) (Or.inl ⟨by rfl, fun w hS => by go_simp⟩) hHeld ?_
            simp only [Act.put, List.getElem_toArray, List.getElem_cons_zero, List.getElem_cons_succ, List.setIfInBounds_toArray, List.set_cons_zero, List.set_cons_succ]
            refine wpAnyH_take (i := 3) (v := .agg (B D)) rfl (by kernel_rfl) (by kernel_rfl) (by kernel_rfl) (fun _ _ _ h => h) (yieldsIf_load_mid rfl 39 (.tmp 14) rfl bt 0 rfl (B D).toList _ (fun w hS => (HA.out.blk.grow hS).range) Tryz.underlying39 rfl HHL.out) hHeld ?_
            simp only [Act.put, List.getElem_toArray, List.getElem_cons_zero, List.getElem_cons_succ, List.setIfInBounds_toArray, List.set_cons_zero, List.set_cons_succ]
            refine wpAnyH_ready (rs := [2]) (by kernel_rfl) (by simp) ?_
            refine AllReadyH.cons rfl (fun KQ hK => ?_) AllReadyH.nil
            go_simp
            refine (HG2.out _ (HA.out.grow hHeld)).mono ?_
            rintro e y2 ⟨rfl, a1⟩
            refine hK.out _ _ (grow_trans hHeld a1) (fun hHeld => ?_)
            clear hK KQ
            refine wpAnyH_take (i := 4) (v := .bool false) rfl (by kernel_rfl) (by kernel_rfl) (by kernel_rfl) (fun _ _ _ h => h) (Or.inl ⟨by rfl, fun w hS => by go_simp⟩) hHeld ?_
            simp only [Act.put, List.getElem_toArray, List.getElem_cons_zero, List.getElem_cons_succ, List.setIfInBounds_toArray, List.set_cons_zero, List.set_cons_succ]
            refine wpAnyH_done (by kernel_rfl) ?_ _
            have HH2 := hidden hHeld
            clear hHeld
            replace HA := hidden (HA.out.grow HH2.out)
            have HO := hidden (HLA.out _ _ _ HA.out)
            obtain ⟨x9, hx9⟩ : ∃ x, x = y2 := ⟨_, rfl⟩
            rw [← hx9] at HO ⊢
            clear hx9
            go_wp2_with fail
            refine wp_region_held_drew (S := fun w' => Below x9.heap.size x9 w') (by kernel_rfl) ((below_drewN (Below.refl _ _) 1)) (fun hHeld => ?_)
            refine wpAnyH_take (i := 0) (v := .bool true) rfl (by kernel_rfl) (by kernel_rfl) (by kernel_rfl) (fun _ _ _ h => h) (Or.inl ⟨by rfl, fun w hS => by go_simp⟩) hHeld ?_
            simp only [Act.put, List.getElem_toArray, List.getElem_cons_zero, List.setIfInBounds_toArray, List.set_cons_zero, List.set_cons_succ]
            refine wpAnyH_take (i := 1) (v := .bool true) rfl (by kernel_rfl) (by kernel_rfl) (by kernel_rfl) (fun _ _ _ h => h) (Or.inl ⟨by rfl, fun w hS => by go_simp⟩) hHeld ?_
            simp only [Act.put, List.getElem_toArray, List.getElem_cons_zero, List.getElem_cons_succ, List.setIfInBounds_toArray, List.set_cons_zero, List.set_cons_succ]
            refine wpAnyH_take (i := 2) (v := .pointer (some ⟨g, 0, none⟩)) rfl (by kernel_rfl) (by kernel_rfl) (by kernel_rfl) (fun _ _ _ h => h) (Or.inl ⟨by rfl, fun w hS => by go_simp⟩) hHeld ?_
            simp only [Act.put, List.getElem_toArray, List.getElem_cons_zero, List.getElem_cons_succ, List.setIfInBounds_toArray, List.set_cons_zero, List.set_cons_succ]
            refine wpAnyH_take (i := 4) (v := .int .i64 o1) rfl (by kernel_rfl) (by kernel_rfl) (by kernel_rfl) (fun _ _ _ h => h) (Or.inl ⟨by rfl, fun w hS => by go_simp⟩) hHeld ?_
            simp only [Act.put, List.getElem_toArray, List.getElem_cons_zero, List.getElem_cons_succ, List.setIfInBounds_toArray, List.set_cons_zero, List.set_cons_succ]
            refine wpAnyH_ready (rs := [3]) (by kernel_rfl) (by simp) ?_
            refine AllReadyH.cons rfl (fun KQ hK => ?_) AllReadyH.nil
            go_simp
            refine (HOB.out _ (HO.out.grow hHeld)).mono ?_
            rintro e y3 ⟨rfl, a1⟩
            refine hK.out _ _ (grow_trans hHeld a1) (fun hHeld => ?_)
            clear hK KQ
            refine wpAnyH_take (i := 5) (v := .bool true) rfl (by kernel_rfl) (by kernel_rfl) (by kernel_rfl) (fun _ _ _ h => h) (Or.inl ⟨by rfl, fun w hS => by go_simp⟩) hHeld ?_
            simp only [Act.put, List.getElem_toArray, List.getElem_cons_zero, List.getElem_cons_succ, List.setIfInBounds_toArray, List.set_cons_zero, List.set_cons_succ]
            refine wpAnyH_take (i := 6) (v := .bool true) rfl (by kernel_rfl) (by kernel_rfl) (by kernel_rfl) (fun _ _ _ h => h) (Or.inl ⟨by rfl, fun w hS => by go_simp⟩) hHeld ?_
            simp only [Act.put, List.getElem_toArray, List.getElem_cons_zero, List.getElem_cons_succ, List.setIfInBounds_toArray, List.set_cons_zero, List.set_cons_succ]
            refine wpAnyH_take (i := 7) (v := .bool true) rfl (by kernel_rfl) (by kernel_rfl) (by kernel_rfl) (fun _ _ _ h => h) (Or.inl ⟨by rfl, fun w hS => by go_simp⟩) hHeld ?_
            simp only [Act.put, List.getElem_toArray, List.getElem_cons_zero, List.getElem_cons_succ, List.setIfInBounds_toArray, List.set_cons_zero, List.set_cons_succ]
            refine wpAnyH_take (i := 8) (v := .pointer (some ⟨g, 0, none⟩)) rfl (by kernel_rfl) (by kernel_rfl) (by kernel_rfl) (fun _ _ _ h => h) (Or.inl ⟨by rfl, fun w hS => by go_simp⟩) hHeld ?_
            simp only [Act.put, List.getElem_toArray, List.getElem_cons_zero, List.getElem_cons_succ, List.setIfInBounds_toArray, List.set_cons_zero, List.set_cons_succ]
            refine wpAnyH_take (i := 9) (v := .int .i64 ty) rfl (by kernel_rfl) (by kernel_rfl) (by kernel_rfl) (fun _ _ _ h => h) (Or.inl ⟨by rfl, fun w hS => by go_simp⟩) hHeld ?_
            simp only [Act.put, List.getElem_toArray, List.getElem_cons_zero, List.getElem_cons_succ, List.setIfInBounds_toArray, List.set_cons_zero, List.set_cons_succ]
            refine wpAnyH_take (i := 11) (v := .agg (B D)) rfl (by kernel_rfl) (by kernel_rfl) (by kernel_rfl) (fun _ _ _ h => h) (yieldsIf_load_mid rfl 39 (.tmp 14) rfl bt 0 rfl (B D).toList _ (fun w hS => (HO.out.blk.grow hS).range) Tryz.underlying39 rfl HHL.out) hHeld ?_
            simp only [Act.put, List.getElem_toArray, List.getElem_cons_zero, List.getElem_cons_succ, List.setIfInBounds_toArray, List.set_cons_zero, List.set_cons_succ]
            refine wpAnyH_ready (rs := [10]) (by kernel_rfl) (by simp) ?_
            refine AllReadyH.cons rfl (fun KQ hK => ?_) AllReadyH.nil
            go_simp
            refine (HG3.out _ (HO.out.grow hHeld)).mono ?_
            rintro e y4 ⟨rfl, a1⟩
            refine hK.out _ _ (grow_trans hHeld a1) (fun hHeld => ?_)
            clear hK KQ
            refine wpAnyH_take (i := 12) (v := .bool true) rfl (by kernel_rfl) (by kernel_rfl) (by kernel_rfl) (fun _ _ _ h => h) (Or.inl ⟨by rfl, fun w hS => by go_simp⟩) hHeld ?_
            simp only [Act.put, List.getElem_toArray, List.getElem_cons_zero, List.getElem_cons_succ, List.setIfInBounds_toArray, List.set_cons_zero, List.set_cons_succ]
            refine wpAnyH_take (i := 13) (v := .bool true) rfl (by kernel_rfl) (by kernel_rfl) (by kernel_rfl) (fun _ _ _ h => h) (Or.inl ⟨by rfl, fun w hS => by go_simp⟩) hHeld ?_
            simp only [Act.put, List.getElem_toArray, List.getElem_cons_zero, List.getElem_cons_succ, List.setIfInBounds_toArray, List.set_cons_zero, List.set_cons_succ]
            refine wpAnyH_take (i := 14) (v := .bool true) rfl (by kernel_rfl) (by kernel_rfl) (by kernel_rfl) (fun _ _ _ h => h) (Or.inl ⟨by rfl, fun w hS => by go_simp⟩) hHeld ?_
            simp only [Act.put, List.getElem_toArray, List.getElem_cons_zero, List.getElem_cons_succ, List.setIfInBounds_toArray, List.set_cons_zero, List.set_cons_succ]
            refine wpAnyH_done (by kernel_rfl) ?_ _
            have HE := hidden (grow_trans HB2.out (HO.out.grow hHeld).low)
            clear hHeld
            go_wp2_with fail
            go_ret
            exact ⟨rfl, HE.out⟩
      · have HPT : Hid (∀ bt w', Bs w2 w' g gs bt (rt 256 0 es) root es root es 2 0 (nN 256 0 es) → Calls Tryz.prog 17 #[.pointer (some ⟨g, 0, none⟩), .int .i64 (root : Int), .agg (B K), .slice ua ul uc] w' fun e w'' => ∃ (ty : Int) (tn : Nat), e = .returned (.tuple #[.int .i64 ty, .int .i64 0]) ∧ ty = (tn : Int) ∧ Bs w2 w'' g gs bt (rt 256 0 es) root es tn (upE es K bs) 1 1 (nN 256 0 es + 257)) := fun bt w' h => by
          refine (bs_put h (.inr rfl) (by omega) (by have := HNE.out; omega) HKK.out HU1.out HL1.out HBL.out).mono ?_
          rintro e w'' ⟨top, rfl, q⟩
          exact ⟨_, top, rfl, rfl, q⟩
        have HHO0 : Hid (∀ bt w', Bs w2 w' g gs bt (rt 256 0 es) root es root es 1 0 (nN 256 0 es) → Calls Tryz.prog 16 #[.pointer (some ⟨g, 0, none⟩), .int .i64 (root : Int)] w' fun e w'' => e = .returned (.int .i64 0) ∧ Bs w2 w'' g gs bt (rt 256 0 es) root es root es 2 0 (nN 256 0 es)) := fun bt w' h => bs_hold h (by omega)
        have HLA0 : Hid (∀ bt (tn : Nat) w', Bs w2 w' g gs bt (rt 256 0 es) root es tn es 1 1 (nN 256 0 es + 257 + 256) → Calls Tryz.prog 18 #[.pointer (some ⟨g, 0, none⟩), .int .i64 (root : Int)] w' fun e w'' => ∃ x y : Int, e = .returned (.tuple #[.int .i64 x, .int .i64 y]) ∧ Bo w2 w'' g gs bt (rt 256 0 es) tn es) := fun bt tn w' h => bs_last h (by omega)
        have HHO : Hid (∀ w' {bt}, Bs w2 w' g gs bt (rt 256 0 es) root es root es 1 0 (nN 256 0 es) → Calls Tryz.prog 16 #[.pointer (some ⟨g, 0, none⟩), .int .i64 (root : Int)] w' fun e w'' => e = .returned (.int .i64 0) ∧ Bs w2 w'' g gs bt (rt 256 0 es) root es root es 2 0 (nN 256 0 es)) := fun w' bt h => HHO0.out bt w' h
        have ryp : (0 : Int) < (root : Int) := by omega
        cases hth : hasK es K with
        | true =>
          as_aux_lemma =>
            rw [hth] at HWO
            generalize rt 256 0 es = D at HHS HHL hE HDG HNEW HPT HDR HG1 HHO
            generalize (nN 256 0 es : Int) = o1 at HOC
            generalize nN 256 0 es = oN at HNEW HPT HDR HG1 HHO
            generalize dlE (upE es K bs) K = fs at HDR
            generalize upE es K bs = us at HPT HDR
            generalize (root : Int) = ry at HDG HPT HG1 HHO ryp ⊢
            clear HLA0 HHO0 HNE HBL HKK HL1 HU1 hth r0
            go_wp2_with (first
              | ((with_reducible refine at_ldd 40 4 ?_); refine wpList_ld _ rfl _ _ rfl b4 _ rfl (HBK2.out.grow HD.out.low) _ _ Tryz.underlying32 HPS.out ?_)
              | (go_at_call 8; refine (HWO.out _ HD.out.low).mono ?_; rintro e x3 ⟨ra, rn, rc, rfl, b3⟩; replace HD := hidden (HD.out.grow b3); clear b3)
              | (go_at_call 10; refine (HOC.out _ HD.out).mono ?_; rintro e x4 ⟨rfl, b4x⟩; replace HD := hidden (HD.out.grow b4x); clear b4x)
              | (go_at_call 13; refine (HDG.out _ HD.out).mono ?_; rintro e x4b ⟨rfl, b4x⟩; replace HD := hidden (HD.out.grow b4x); clear b4x)
              | ((with_reducible refine at_ald 14 ?_); refine wpList_al _ rfl _ rfl _ zero_hash ?_; intro x4c bt hgh hlh BH q3; have HBZ := hidden BH; have HGH := hidden hgh; have HQ8 := hidden q3; clear hgh hlh BH q3)
              | ((with_reducible refine at_st 14 ?_); refine wpList_sto _ rfl _ _ _ rfl bt _ (B D) rfl rfl HBZ.out HHS.out.1 HHS.out.2 (B_one _) ?_; intro x4d BH r4; have HS := hidden (HNEW.out _ _ _ HD.out (below_row HQ8.out r4 HGH.out) HGH.out BH); clear BH r4)
              | (go_at_call 16; refine (HHO.out _ HS.out).mono ?_; rintro e x5 ⟨rfl, d5⟩; have HS2 := hidden d5; clear d5)
              | ((with_reducible refine at_ldd 60 4 ?_); refine wpList_ld _ rfl _ _ rfl b4 _ rfl (HBK2.out.grow HS2.out.low) _ _ Tryz.underlying32 HPS.out ?_)
              | (go_at_call 17; refine (HPT.out _ _ HS2.out).mono ?_; rintro e x6 ⟨my, mn, rfl, hmy, d6⟩; have HMY := hidden hmy; have HS3 := hidden d6; clear d6 hmy)
              | ((with_reducible refine at_ldd 70 4 ?_); refine wpList_ld _ rfl _ _ rfl b4 _ rfl (HBK2.out.grow HS3.out.low) _ _ Tryz.underlying32 HPS.out ?_)
              | (go_at_call 11; refine (HDR.out _ _ _ _ HMY.out HS3.out).mono ?_; rintro e x8 ⟨ty, tn, rfl, hty, d8⟩; have HTY := hidden hty; have HA := hidden d8; clear d8 hty))
            refine wp_region_held_drew (S := fun w' => Below x8.heap.size x8 w') (by kernel_rfl) ((below_drewN (Below.refl _ _) 1)) (fun hHeld => ?_)
            refine wpAnyH_take (i := 0) (v := .int .i64 0) rfl (by kernel_rfl) (by kernel_rfl) (by kernel_rfl) (fun _ _ _ h => h) (Or.inl ⟨by rfl, fun w hS => by go_simp⟩) hHeld ?_
            simp only [Act.put, List.getElem_toArray, List.getElem_cons_zero, List.setIfInBounds_toArray, List.set_cons_zero, List.set_cons_succ]
            refine wpAnyH_take (i := 1) (v := .bool false) rfl (by kernel_rfl) (by kernel_rfl) (by kernel_rfl) (fun _ _ _ h => h) (Or.inl ⟨by rfl, fun w hS => by go_simp⟩) hHeld ?_
            simp only [Act.put, List.getElem_toArray, List.getElem_cons_zero, List.getElem_cons_succ, List.setIfInBounds_toArray, List.set_cons_zero, List.set_cons_succ]
            refine wpAnyH_take (i := 2) (v := .bool false) rfl (by kernel_rfl) (by kernel_rfl) (by kernel_rfl) (fun _ _ _ h => h) (Or.inl ⟨by rfl, fun w hS => by go_simp⟩) hHeld ?_
            simp only [Act.put, List.getElem_toArray, List.getElem_cons_zero, List.getElem_cons_succ, List.setIfInBounds_toArray, List.set_cons_zero, List.set_cons_succ]
            refine wpAnyH_take (i := 3) (v := .bool true) rfl (by kernel_rfl) (by kernel_rfl) (by kernel_rfl) (fun _ _ _ h => h) (Or.inl ⟨by rfl, fun w hS => by go_simp⟩) hHeld ?_
            simp only [Act.put, List.getElem_toArray, List.getElem_cons_zero, List.getElem_cons_succ, List.setIfInBounds_toArray, List.set_cons_zero, List.set_cons_succ]
            refine wpAnyH_take (i := 4) (v := .bool false) rfl (by kernel_rfl) (by kernel_rfl) (by kernel_rfl) (fun _ _ _ h => h) (Or.inl ⟨by rfl, fun w hS => by go_simp⟩) hHeld ?_
            simp only [Act.put, List.getElem_toArray, List.getElem_cons_zero, List.getElem_cons_succ, List.setIfInBounds_toArray, List.set_cons_zero, List.set_cons_succ]
            refine wpAnyH_take (i := 5) (v := .bool false) rfl (by kernel_rfl) (by kernel_rfl) (by kernel_rfl) (fun _ _ _ h => h) (Or.inl ⟨by rfl, fun w hS => by go_simp⟩) hHeld ?_
            simp only [Act.put, List.getElem_toArray, List.getElem_cons_zero, List.getElem_cons_succ, List.setIfInBounds_toArray, List.set_cons_zero, List.set_cons_succ]
            refine wpAnyH_take (i := 6) (v := .bool false) rfl (by kernel_rfl) (by kernel_rfl) (by kernel_rfl) (fun _ _ _ h => h) (Or.inl ⟨by rfl, fun w hS => by go_simp⟩) hHeld ?_
            simp only [Act.put, List.getElem_toArray, List.getElem_cons_zero, List.getElem_cons_succ, List.setIfInBounds_toArray, List.set_cons_zero, List.set_cons_succ]
            refine wpAnyH_take (i := 7) (v := .pointer (some ⟨g, 0, none⟩)) rfl (by kernel_rfl) (by kernel_rfl) (by kernel_rfl) (fun _ _ _ h => h) (Or.inl ⟨by rfl, fun w hS => by go_simp⟩) hHeld ?_
            simp only [Act.put, List.getElem_toArray, List.getElem_cons_zero, List.getElem_cons_succ, List.setIfInBounds_toArray, List.set_cons_zero, List.set_cons_succ]
            refine wpAnyH_take (i := 8) (v := .int .i64 ry) rfl (by kernel_rfl) (by kernel_rfl) (by kernel_rfl) (fun _ _ _ h => h) (Or.inl ⟨by rfl, fun w hS => by go_simp⟩) hHeld ?_
            simp only [Act.put, List.getElem_toArray, List.getElem_cons_zero, List.getElem_cons_succ, List.setIfInBounds_toArray, List.set_cons_zero, List.set_cons_succ]
            refine wpAnyH_take (i := 10) (v := .agg (B D)) rfl (by kernel_rfl) (by kernel_rfl) (by kernel_rfl) (fun _ _ _ h => h) (yieldsIf_load_mid rfl 39 (.tmp 14) rfl bt 0 rfl (B D).toList _ (fun w hS => (HA.out.blk.grow hS).range) Tryz.underlying39 rfl HHL.out) hHeld ?_
            simp only [Act.put, List.getElem_toArray, List.getElem_cons_zero, List.getElem_cons_succ, List.setIfInBounds_toArray, List.set_cons_zero, List.set_cons_succ]
            refine wpAnyH_ready (rs := [9]) (by kernel_rfl) (by simp) ?_
            refine AllReadyH.cons rfl (fun KQ hK => ?_) AllReadyH.nil
            go_simp
            refine (HG1.out _ _ _ _ (HA.out.grow hHeld)).mono ?_
            rintro e y1 ⟨rfl, a1⟩
            refine hK.out _ _ (grow_trans hHeld a1) (fun hHeld => ?_)
            clear hK KQ
            refine wpAnyH_take (i := 11) (v := .bool false) rfl (by kernel_rfl) (by kernel_rfl) (by kernel_rfl) (fun _ _ _ h => h) (Or.inl ⟨by rfl, fun w hS => by go_simp⟩) hHeld ?_
            simp only [Act.put, List.getElem_toArray, List.getElem_cons_zero, List.getElem_cons_succ, List.setIfInBounds_toArray, List.set_cons_zero, List.set_cons_succ]
            refine wpAnyH_take (i := 12) (v := .bool false) rfl (by kernel_rfl) (by kernel_rfl) (by kernel_rfl) (fun _ _ _ h => h) (Or.inl ⟨by rfl, fun w hS => by go_simp⟩) hHeld ?_
            simp only [Act.put, List.getElem_toArray, List.getElem_cons_zero, List.getElem_cons_succ, List.setIfInBounds_toArray, List.set_cons_zero, List.set_cons_succ]
            refine wpAnyH_done (by kernel_rfl) ?_ _
            have HH1 := hidden hHeld
            clear hHeld
            replace HA := hidden (HA.out.grow HH1.out)
            have HE := hidden (grow_trans HB2.out HA.out.low)
            go_wp2_with fail
            go_ret
            exact ⟨rfl, HE.out⟩
        | false =>
          as_aux_lemma =>
            rw [hth] at HWO
            rw [dl_up hth] at HDR
            have HLA := HLA0
            have HG2 : Hid (∀ bt (tn : Nat) (ty : Int), ty = (tn : Int) → ∀ w', Bs w2 w' g gs bt (rt 256 0 es) root es tn es 1 1 (nN 256 0 es + 257 + 256) → Calls Tryz.prog 13 #[.pointer (some ⟨g, 0, none⟩), .int .i64 ty] w' fun e w'' => e = .returned (.agg (B (rt 256 0 es))) ∧ Below w'.heap.size w' w'') := fun bt tn ty hty w' h => by rw [hty]; exact h.dig2 (HL1.out _ h.low)
            have HG3 : Hid (∀ bt (tn : Nat) (ty : Int), ty = (tn : Int) → ∀ w', Bo w2 w' g gs bt (rt 256 0 es) tn es → Calls Tryz.prog 13 #[.pointer (some ⟨g, 0, none⟩), .int .i64 ty] w' fun e w'' => e = .returned (.agg (B (rt 256 0 es))) ∧ Below w'.heap.size w' w'') := fun bt tn ty hty w' h => by rw [hty]; exact h.dig (HL1.out _ h.low)
            have HOB : Hid (∀ bt (tn : Nat) w', Bo w2 w' g gs bt (rt 256 0 es) tn es → Calls Tryz.prog 10 #[.pointer (some ⟨g, 0, none⟩)] w' fun e w'' => e = .returned (.int .i64 (nN 256 0 es : Int)) ∧ Below w'.heap.size w' w'') := fun bt tn w' h => h.occ
            generalize rt 256 0 es = D at HHS HHL hE HDG HNEW HPT HDR HG1 HLA HG2 HG3 HOB HHO
            generalize (nN 256 0 es : Int) = o1 at HOC HOB
            generalize nN 256 0 es = oN at HNEW HPT HDR HG1 HLA HG2 HHO
            generalize upE es K bs = us at HPT HDR
            generalize (root : Int) = ry at HDG HPT HG1 HHO HLA ryp ⊢
            clear HLA0 HHO0 HNE HBL HKK HL1 HU1 hth r0
            go_wp2_with (first
              | ((with_reducible refine at_ldd 40 4 ?_); refine wpList_ld _ rfl _ _ rfl b4 _ rfl (HBK2.out.grow HD.out.low) _ _ Tryz.underlying32 HPS.out ?_)
              | (go_at_call 8; refine (HWO.out _ HD.out.low).mono ?_; rintro e x3 ⟨ra, rn, rc, rfl, b3⟩; replace HD := hidden (HD.out.grow b3); clear b3)
              | (go_at_call 10; refine (HOC.out _ HD.out).mono ?_; rintro e x4 ⟨rfl, b4x⟩; replace HD := hidden (HD.out.grow b4x); clear b4x)
              | (go_at_call 13; refine (HDG.out _ HD.out).mono ?_; rintro e x4b ⟨rfl, b4x⟩; replace HD := hidden (HD.out.grow b4x); clear b4x)
              | ((with_reducible refine at_ald 14 ?_); refine wpList_al _ rfl _ rfl _ zero_hash ?_; intro x4c bt hgh hlh BH q3; have HBZ := hidden BH; have HGH := hidden hgh; have HQ8 := hidden q3; clear hgh hlh BH q3)
              | ((with_reducible refine at_st 14 ?_); refine wpList_sto _ rfl _ _ _ rfl bt _ (B D) rfl rfl HBZ.out HHS.out.1 HHS.out.2 (B_one _) ?_; intro x4d BH r4; have HS := hidden (HNEW.out _ _ _ HD.out (below_row HQ8.out r4 HGH.out) HGH.out BH); clear BH r4)
              | (go_at_call 16; refine (HHO.out _ HS.out).mono ?_; rintro e x5 ⟨rfl, d5⟩; have HS2 := hidden d5; clear d5)
              | ((with_reducible refine at_ldd 60 4 ?_); refine wpList_ld _ rfl _ _ rfl b4 _ rfl (HBK2.out.grow HS2.out.low) _ _ Tryz.underlying32 HPS.out ?_)
              | (go_at_call 17; refine (HPT.out _ _ HS2.out).mono ?_; rintro e x6 ⟨my, mn, rfl, hmy, d6⟩; have HMY := hidden hmy; have HS3 := hidden d6; clear d6 hmy)
              | ((with_reducible refine at_ldd 70 4 ?_); refine wpList_ld _ rfl _ _ rfl b4 _ rfl (HBK2.out.grow HS3.out.low) _ _ Tryz.underlying32 HPS.out ?_)
              | (go_at_call 11; refine (HDR.out _ _ _ _ HMY.out HS3.out).mono ?_; rintro e x8 ⟨ty, tn, rfl, hty, d8⟩; have HTY := hidden hty; have HA := hidden d8; clear d8 hty))
            refine wp_region_held_drew (S := fun w' => Below x8.heap.size x8 w') (by kernel_rfl) ((below_drewN (Below.refl _ _) 1)) (fun hHeld => ?_)
            refine wpAnyH_take (i := 0) (v := .int .i64 0) rfl (by kernel_rfl) (by kernel_rfl) (by kernel_rfl) (fun _ _ _ h => h) (Or.inl ⟨by rfl, fun w hS => by go_simp⟩) hHeld ?_
            simp only [Act.put, List.getElem_toArray, List.getElem_cons_zero, List.setIfInBounds_toArray, List.set_cons_zero, List.set_cons_succ]
            refine wpAnyH_take (i := 1) (v := .bool false) rfl (by kernel_rfl) (by kernel_rfl) (by kernel_rfl) (fun _ _ _ h => h) (Or.inl ⟨by rfl, fun w hS => by go_simp⟩) hHeld ?_
            simp only [Act.put, List.getElem_toArray, List.getElem_cons_zero, List.getElem_cons_succ, List.setIfInBounds_toArray, List.set_cons_zero, List.set_cons_succ]
            refine wpAnyH_take (i := 2) (v := .bool false) rfl (by kernel_rfl) (by kernel_rfl) (by kernel_rfl) (fun _ _ _ h => h) (Or.inl ⟨by rfl, fun w hS => by go_simp⟩) hHeld ?_
            simp only [Act.put, List.getElem_toArray, List.getElem_cons_zero, List.getElem_cons_succ, List.setIfInBounds_toArray, List.set_cons_zero, List.set_cons_succ]
            refine wpAnyH_take (i := 3) (v := .bool true) rfl (by kernel_rfl) (by kernel_rfl) (by kernel_rfl) (fun _ _ _ h => h) (Or.inl ⟨by rfl, fun w hS => by go_simp⟩) hHeld ?_
            simp only [Act.put, List.getElem_toArray, List.getElem_cons_zero, List.getElem_cons_succ, List.setIfInBounds_toArray, List.set_cons_zero, List.set_cons_succ]
            refine wpAnyH_take (i := 4) (v := .bool false) rfl (by kernel_rfl) (by kernel_rfl) (by kernel_rfl) (fun _ _ _ h => h) (Or.inl ⟨by rfl, fun w hS => by go_simp⟩) hHeld ?_
            simp only [Act.put, List.getElem_toArray, List.getElem_cons_zero, List.getElem_cons_succ, List.setIfInBounds_toArray, List.set_cons_zero, List.set_cons_succ]
            refine wpAnyH_take (i := 5) (v := .bool false) rfl (by kernel_rfl) (by kernel_rfl) (by kernel_rfl) (fun _ _ _ h => h) (Or.inl ⟨by rfl, fun w hS => by go_simp⟩) hHeld ?_
            simp only [Act.put, List.getElem_toArray, List.getElem_cons_zero, List.getElem_cons_succ, List.setIfInBounds_toArray, List.set_cons_zero, List.set_cons_succ]
            refine wpAnyH_take (i := 6) (v := .bool false) rfl (by kernel_rfl) (by kernel_rfl) (by kernel_rfl) (fun _ _ _ h => h) (Or.inl ⟨by rfl, fun w hS => by go_simp⟩) hHeld ?_
            simp only [Act.put, List.getElem_toArray, List.getElem_cons_zero, List.getElem_cons_succ, List.setIfInBounds_toArray, List.set_cons_zero, List.set_cons_succ]
            refine wpAnyH_take (i := 7) (v := .pointer (some ⟨g, 0, none⟩)) rfl (by kernel_rfl) (by kernel_rfl) (by kernel_rfl) (fun _ _ _ h => h) (Or.inl ⟨by rfl, fun w hS => by go_simp⟩) hHeld ?_
            simp only [Act.put, List.getElem_toArray, List.getElem_cons_zero, List.getElem_cons_succ, List.setIfInBounds_toArray, List.set_cons_zero, List.set_cons_succ]
            refine wpAnyH_take (i := 8) (v := .int .i64 ry) rfl (by kernel_rfl) (by kernel_rfl) (by kernel_rfl) (fun _ _ _ h => h) (Or.inl ⟨by rfl, fun w hS => by go_simp⟩) hHeld ?_
            simp only [Act.put, List.getElem_toArray, List.getElem_cons_zero, List.getElem_cons_succ, List.setIfInBounds_toArray, List.set_cons_zero, List.set_cons_succ]
            refine wpAnyH_take (i := 10) (v := .agg (B D)) rfl (by kernel_rfl) (by kernel_rfl) (by kernel_rfl) (fun _ _ _ h => h) (yieldsIf_load_mid rfl 39 (.tmp 14) rfl bt 0 rfl (B D).toList _ (fun w hS => (HA.out.blk.grow hS).range) Tryz.underlying39 rfl HHL.out) hHeld ?_
            simp only [Act.put, List.getElem_toArray, List.getElem_cons_zero, List.getElem_cons_succ, List.setIfInBounds_toArray, List.set_cons_zero, List.set_cons_succ]
            refine wpAnyH_ready (rs := [9]) (by kernel_rfl) (by simp) ?_
            refine AllReadyH.cons rfl (fun KQ hK => ?_) AllReadyH.nil
            go_simp
            refine (HG1.out _ _ _ _ (HA.out.grow hHeld)).mono ?_
            rintro e y1 ⟨rfl, a1⟩
            refine hK.out _ _ (grow_trans hHeld a1) (fun hHeld => ?_)
            clear hK KQ
            refine wpAnyH_take (i := 11) (v := .bool false) rfl (by kernel_rfl) (by kernel_rfl) (by kernel_rfl) (fun _ _ _ h => h) (Or.inl ⟨by rfl, fun w hS => by go_simp⟩) hHeld ?_
            simp only [Act.put, List.getElem_toArray, List.getElem_cons_zero, List.getElem_cons_succ, List.setIfInBounds_toArray, List.set_cons_zero, List.set_cons_succ]
            refine wpAnyH_take (i := 12) (v := .bool false) rfl (by kernel_rfl) (by kernel_rfl) (by kernel_rfl) (fun _ _ _ h => h) (Or.inl ⟨by rfl, fun w hS => by go_simp⟩) hHeld ?_
            simp only [Act.put, List.getElem_toArray, List.getElem_cons_zero, List.getElem_cons_succ, List.setIfInBounds_toArray, List.set_cons_zero, List.set_cons_succ]
            refine wpAnyH_done (by kernel_rfl) ?_ _
            have HH1 := hidden hHeld
            clear hHeld
            replace HA := hidden (HA.out.grow HH1.out)
            replace HG2 := hidden (HG2.out bt _ _ HTY.out)
            replace HG3 := hidden (HG3.out bt _ _ HTY.out)
            replace HOB := hidden (HOB.out bt tn)
            go_wp2_with fail
            refine wp_region_held_drew (S := fun w' => Below y1.heap.size y1 w') (by kernel_rfl) ((below_drewN (Below.refl _ _) 1)) (fun hHeld => ?_)
            refine wpAnyH_take (i := 0) (v := .pointer (some ⟨g, 0, none⟩)) rfl (by kernel_rfl) (by kernel_rfl) (by kernel_rfl) (fun _ _ _ h => h) (Or.inl ⟨by rfl, fun w hS => by go_simp⟩) hHeld ?_
            simp only [Act.put, List.getElem_toArray, List.getElem_cons_zero, List.setIfInBounds_toArray, List.set_cons_zero, List.set_cons_succ]
            refine wpAnyH_take (i := 1) (v := .int .i64 ty) rfl (by kernel_rfl) (by kernel_rfl) (by kernel_rfl) (fun _ _ _ h => h) (Or.inl ⟨by rfl, fun w hS => by go_simp⟩) hHeld ?_
            simp only [Act.put, List.getElem_toArray, List.getElem_cons_zero, List.getElem_cons_succ, List.setIfInBounds_toArray, List.set_cons_zero, List.set_cons_succ]
            refine wpAnyH_take (i := 3) (v := .agg (B D)) rfl (by kernel_rfl) (by kernel_rfl) (by kernel_rfl) (fun _ _ _ h => h) (yieldsIf_load_mid rfl 39 (.tmp 14) rfl bt 0 rfl (B D).toList _ (fun w hS => (HA.out.blk.grow hS).range) Tryz.underlying39 rfl HHL.out) hHeld ?_
            simp only [Act.put, List.getElem_toArray, List.getElem_cons_zero, List.getElem_cons_succ, List.setIfInBounds_toArray, List.set_cons_zero, List.set_cons_succ]
            refine wpAnyH_ready (rs := [2]) (by kernel_rfl) (by simp) ?_
            refine AllReadyH.cons rfl (fun KQ hK => ?_) AllReadyH.nil
            go_simp
            refine (HG2.out _ (HA.out.grow hHeld)).mono ?_
            rintro e y2 ⟨rfl, a1⟩
            refine hK.out _ _ (grow_trans hHeld a1) (fun hHeld => ?_)
            clear hK KQ
            refine wpAnyH_take (i := 4) (v := .bool false) rfl (by kernel_rfl) (by kernel_rfl) (by kernel_rfl) (fun _ _ _ h => h) (Or.inl ⟨by rfl, fun w hS => by go_simp⟩) hHeld ?_
            simp only [Act.put, List.getElem_toArray, List.getElem_cons_zero, List.getElem_cons_succ, List.setIfInBounds_toArray, List.set_cons_zero, List.set_cons_succ]
            refine wpAnyH_done (by kernel_rfl) ?_ _
            have HH2 := hidden hHeld
            clear hHeld
            replace HA := hidden (HA.out.grow HH2.out)
            go_wp2_with (first
              | (go_at_call 18; refine (HLA.out _ _ _ HA.out).mono ?_; rintro e x9 ⟨q1, q2, rfl, d9⟩; have HO := hidden d9; clear d9))
            refine wp_region_held_drew (S := fun w' => Below x9.heap.size x9 w') (by kernel_rfl) ((below_drewN (Below.refl _ _) 1)) (fun hHeld => ?_)
            refine wpAnyH_take (i := 0) (v := .bool true) rfl (by kernel_rfl) (by kernel_rfl) (by kernel_rfl) (fun _ _ _ h => h) (Or.inl ⟨by rfl, fun w hS => by go_simp⟩) hHeld ?_
            simp only [Act.put, List.getElem_toArray, List.getElem_cons_zero, List.setIfInBounds_toArray, List.set_cons_zero, List.set_cons_succ]
            refine wpAnyH_take (i := 1) (v := .bool true) rfl (by kernel_rfl) (by kernel_rfl) (by kernel_rfl) (fun _ _ _ h => h) (Or.inl ⟨by rfl, fun w hS => by go_simp⟩) hHeld ?_
            simp only [Act.put, List.getElem_toArray, List.getElem_cons_zero, List.getElem_cons_succ, List.setIfInBounds_toArray, List.set_cons_zero, List.set_cons_succ]
            refine wpAnyH_take (i := 2) (v := .pointer (some ⟨g, 0, none⟩)) rfl (by kernel_rfl) (by kernel_rfl) (by kernel_rfl) (fun _ _ _ h => h) (Or.inl ⟨by rfl, fun w hS => by go_simp⟩) hHeld ?_
            simp only [Act.put, List.getElem_toArray, List.getElem_cons_zero, List.getElem_cons_succ, List.setIfInBounds_toArray, List.set_cons_zero, List.set_cons_succ]
            refine wpAnyH_take (i := 4) (v := .int .i64 o1) rfl (by kernel_rfl) (by kernel_rfl) (by kernel_rfl) (fun _ _ _ h => h) (Or.inl ⟨by rfl, fun w hS => by go_simp⟩) hHeld ?_
            simp only [Act.put, List.getElem_toArray, List.getElem_cons_zero, List.getElem_cons_succ, List.setIfInBounds_toArray, List.set_cons_zero, List.set_cons_succ]
            refine wpAnyH_ready (rs := [3]) (by kernel_rfl) (by simp) ?_
            refine AllReadyH.cons rfl (fun KQ hK => ?_) AllReadyH.nil
            go_simp
            refine (HOB.out _ (HO.out.grow hHeld)).mono ?_
            rintro e y3 ⟨rfl, a1⟩
            refine hK.out _ _ (grow_trans hHeld a1) (fun hHeld => ?_)
            clear hK KQ
            refine wpAnyH_take (i := 5) (v := .bool true) rfl (by kernel_rfl) (by kernel_rfl) (by kernel_rfl) (fun _ _ _ h => h) (Or.inl ⟨by rfl, fun w hS => by go_simp⟩) hHeld ?_
            simp only [Act.put, List.getElem_toArray, List.getElem_cons_zero, List.getElem_cons_succ, List.setIfInBounds_toArray, List.set_cons_zero, List.set_cons_succ]
            refine wpAnyH_take (i := 6) (v := .bool true) rfl (by kernel_rfl) (by kernel_rfl) (by kernel_rfl) (fun _ _ _ h => h) (Or.inl ⟨by rfl, fun w hS => by go_simp⟩) hHeld ?_
            simp only [Act.put, List.getElem_toArray, List.getElem_cons_zero, List.getElem_cons_succ, List.setIfInBounds_toArray, List.set_cons_zero, List.set_cons_succ]
            refine wpAnyH_take (i := 7) (v := .bool true) rfl (by kernel_rfl) (by kernel_rfl) (by kernel_rfl) (fun _ _ _ h => h) (Or.inl ⟨by rfl, fun w hS => by go_simp⟩) hHeld ?_
            simp only [Act.put, List.getElem_toArray, List.getElem_cons_zero, List.getElem_cons_succ, List.setIfInBounds_toArray, List.set_cons_zero, List.set_cons_succ]
            refine wpAnyH_take (i := 8) (v := .pointer (some ⟨g, 0, none⟩)) rfl (by kernel_rfl) (by kernel_rfl) (by kernel_rfl) (fun _ _ _ h => h) (Or.inl ⟨by rfl, fun w hS => by go_simp⟩) hHeld ?_
            simp only [Act.put, List.getElem_toArray, List.getElem_cons_zero, List.getElem_cons_succ, List.setIfInBounds_toArray, List.set_cons_zero, List.set_cons_succ]
            refine wpAnyH_take (i := 9) (v := .int .i64 ty) rfl (by kernel_rfl) (by kernel_rfl) (by kernel_rfl) (fun _ _ _ h => h) (Or.inl ⟨by rfl, fun w hS => by go_simp⟩) hHeld ?_
            simp only [Act.put, List.getElem_toArray, List.getElem_cons_zero, List.getElem_cons_succ, List.setIfInBounds_toArray, List.set_cons_zero, List.set_cons_succ]
            refine wpAnyH_take (i := 11) (v := .agg (B D)) rfl (by kernel_rfl) (by kernel_rfl) (by kernel_rfl) (fun _ _ _ h => h) (yieldsIf_load_mid rfl 39 (.tmp 14) rfl bt 0 rfl (B D).toList _ (fun w hS => (HO.out.blk.grow hS).range) Tryz.underlying39 rfl HHL.out) hHeld ?_
            simp only [Act.put, List.getElem_toArray, List.getElem_cons_zero, List.getElem_cons_succ, List.setIfInBounds_toArray, List.set_cons_zero, List.set_cons_succ]
            refine wpAnyH_ready (rs := [10]) (by kernel_rfl) (by simp) ?_
            refine AllReadyH.cons rfl (fun KQ hK => ?_) AllReadyH.nil
            go_simp
            refine (HG3.out _ (HO.out.grow hHeld)).mono ?_
            rintro e y4 ⟨rfl, a1⟩
            refine hK.out _ _ (grow_trans hHeld a1) (fun hHeld => ?_)
            clear hK KQ
            refine wpAnyH_take (i := 12) (v := .bool true) rfl (by kernel_rfl) (by kernel_rfl) (by kernel_rfl) (fun _ _ _ h => h) (Or.inl ⟨by rfl, fun w hS => by go_simp⟩) hHeld ?_
            simp only [Act.put, List.getElem_toArray, List.getElem_cons_zero, List.getElem_cons_succ, List.setIfInBounds_toArray, List.set_cons_zero, List.set_cons_succ]
            refine wpAnyH_take (i := 13) (v := .bool true) rfl (by kernel_rfl) (by kernel_rfl) (by kernel_rfl) (fun _ _ _ h => h) (Or.inl ⟨by rfl, fun w hS => by go_simp⟩) hHeld ?_
            simp only [Act.put, List.getElem_toArray, List.getElem_cons_zero, List.getElem_cons_succ, List.setIfInBounds_toArray, List.set_cons_zero, List.set_cons_succ]
            refine wpAnyH_take (i := 14) (v := .bool true) rfl (by kernel_rfl) (by kernel_rfl) (by kernel_rfl) (fun _ _ _ h => h) (Or.inl ⟨by rfl, fun w hS => by go_simp⟩) hHeld ?_
            simp only [Act.put, List.getElem_toArray, List.getElem_cons_zero, List.getElem_cons_succ, List.setIfInBounds_toArray, List.set_cons_zero, List.set_cons_succ]
            refine wpAnyH_done (by kernel_rfl) ?_ _
            have HE := hidden (grow_trans HB2.out (HO.out.grow hHeld).low)
            clear hHeld
            go_wp2_with fail
            go_ret
            exact ⟨rfl, HE.out⟩
    · have hu2 : (1024 : Int) < (ul : Int) := by omega
      clear HUR HVR HLD HKK HPS hL hn hel hul hun hK hu1
      go_enter Tryz.func4, Tryz.ntmps4
      go_wp2_with (first
        | ((with_reducible refine at_bxd 4 ?_); refine wpList_bx _ rfl _ _ rfl _ rfl ?_; intro w1 b4 hg5 hl5 B5 q5; have HB4 := hidden B5; have HB0 := hidden q5; clear hg5 hl5 B5 q5)
        | (go_at_call 5; refine (HAW.out _ HB0.out).mono ?_; rintro e x1 ⟨rfl, b1⟩; have HB1 := hidden (grow_trans HB0.out b1); have HBK1 := hidden (HB4.out.grow b1); clear b1)
        | (go_at_call 6; refine (HUN.out _ HB1.out).mono ?_; rintro e w2 ⟨rfl, b2⟩; have HB2 := hidden (grow_trans HB1.out b2); have HBK2 := hidden (HBK1.out.grow b2); clear b2))
      go_ret
      exact ⟨rfl, HB2.out⟩

end Go.Proofs.YtpbmpmiicdpehabGreatDoor

/- What every statement's proof asks of the program as a whole. -/
namespace Go.Proofs.YtpbmpmiicdpehabGreatDoor
set_option maxRecDepth 20000
open Go.ChangeShapes Go.WideShapes Go.ChangeAt Go.RowKit

theorem ownK : ownKnob Tryz.prog.godebug = none := by kernel_rfl
theorem laidOut : laidOutB Tryz.prog = true := by kernel_rfl

theorem okWide_st {t : TypeId} {fs : Array Field} {W : World} {base : Nat} {v : Value} (ht : Tryz.prog.underlying t = some (.struct fs)) (h : Value.okWide Tryz.prog W .any base t v) : ∃ cs, v = .agg cs := by
  unfold Value.okWide at h
  cases v <;> simp_all

end Go.Proofs.YtpbmpmiicdpehabGreatDoor
