/- The document's store: Handles, Occupied, Digest, Node. -/
import Derived.Test.YtbkolhhgajkjjaaGreatDoorPo33
namespace Go.Proofs.YtbkolhhgajkjjaaGreatDoor
set_option maxRecDepth 20000
set_option maxHeartbeats 4000000
open Go.RowKit
def HnPost (hs : List Nat) (w : World) (e : Ending) (w' : World) : Prop :=
 ∃ a c, e = .returned (.slice a hs.length c) ∧ w'.ownsRow w.heap.size 3 1 (.slice a hs.length c) hs.length (nats hs) ∧ Below w.heap.size w w'
theorem Yfp {w : World} {g : Nat} {vp vf : Value} {room : Nat} {cs : List (Nat × Ce)} {ss : List Sp} {fr : List Nat} (h : Rs w g vp vf room ss fr) (R : Rel7 cs [] [] ss) (W : Wf cs []) (h6 : cs.length ≤ 5000) : Calls Tryz.prog 40 #[.pointer (some ⟨g, 0, none⟩)] w (HnPost (slotsOf (cs.map pl)) w) := by
 have HC : Hid (∀ w', Below w.heap.size w w' → w'.cell? ⟨g, 0, none⟩ = some (.bool true) ∧ w'.cell? ⟨g, 2, none⟩ = some vp) := fun w' hb => ⟨(h.grow hb).c0, (h.grow hb).c2⟩
 obtain ⟨pa, pc, hvp⟩ := Zm h.sps
 obtain ⟨n, hn⟩ : ∃ n, n = ss.length := ⟨_, rfl⟩
 rw [← hn] at hvp
 have hn6 : n ≤ 5000 := by rw [hn, R.len]; exact h6
 rw [hvp] at HC
 have HH : Hid (∀ w' (k : Nat) (b : Bool), Below w.heap.size w w' → (b = true ↔ 0 < cnt (cs.map pl) k) → Calls Tryz.prog 71 #[.pointer (some ⟨g, 0, none⟩), .int .i64 ((k : Int) + 1)] w' fun e w'' => e = .returned (.bool b) ∧ w'' = w') := fun w' k b hb hbk => by
  have := Zbm (h.grow hb) ((k : Int) + 1)
  rw [Zei] at this
  rwa [show decide ((spAt ss k).kind ≠ 0) = b by
   have h1 := R.inn W k
   rw [Zao] at hbk
   cases b with
   | true => simp; exact h1.2 (hbk.1 rfl)
   | false =>
    simp
    apply Classical.byContradiction
    intro hne
    have := hbk.2 (h1.1 hne)
    cases this] at this
 have HPost : Hid (∀ (hs : List Nat) (a : Option Addr) (m c : Nat) w', m = hs.length → hs = slotsOf (cs.map pl) → w'.ownsRow w.heap.size 3 1 (.slice a m c) m (nats hs) → Below w.heap.size w w' → HnPost (slotsOf (cs.map pl)) w (.returned (.slice a m c)) w') := fun hs a m c w' e1 e2 o b => by
  subst e1
  subst e2
  exact ⟨a, c, rfl, o, b⟩
 generalize HnPost (slotsOf (cs.map pl)) w = PP at HPost ⊢
 have HLN : Hid (n = (cs.map pl).length) := by rw [hn, List.length_map]; exact R.len
 clear h R W h6 hvp hn
 go_enter Tryz.func40, Tryz.ntmps40
 go_wp2_with fail
 go_loopw [3, 4] (fun s i wr => ∃ (k m : Nat) (hs : List Nat) (sa : Option Addr) (sc : Nat), k ≤ n ∧ m ≤ k ∧ i = .int .i64 ((k : Int) + 1) ∧ s = .slice sa m sc ∧ Hid (m = hs.length) ∧ Hid (hs = slotsK (cs.map pl) k) ∧ Hid (wr.ownsRow w.heap.size 3 1 (.slice sa m sc) m (nats hs)) ∧ Hid (Below w.heap.size w wr)) (fun _ i _ => 5100 - (intOf i).toNat)
 case atStart => exact ⟨0, 0, [], none, 0, by omega, by omega, rfl, rfl, rfl, rfl, World.ownsRow_nil _ _ _ _, Below.refl _ _⟩
 case round =>
  obtain ⟨k, m, hs, sa, sc, hk, hmk, rfl, rfl, hm, hsl, ho, hbw⟩ := hrel
  obtain ⟨cz0, cz2⟩ := HC.out _ hbw.out
  by_cases hlt : k < n
  ·have z1 : (k : Int) + 1 ≤ (n : Int) := by omega
   have hwk : wrap64 ((k : Int) + 1 + 1) = (k : Int) + 1 + 1 := Go.IntWalk.wrap64_in _ (by omega)
   by_cases hc : 0 < cnt (cs.map pl) k
   ·have HHk := Za (HH.out wr k true hbw.out (by simp [hc]))
    have HS2 : Hid (hs ++ [k + 1] = slotsK (cs.map pl) (k + 1)) := by show _ = _; rw [Zgl _ _ hc, hsl.out]
    obtain ⟨yk, hyk⟩ : ∃ y : Int, y = (k : Int) + 1 := ⟨_, rfl⟩
    have HYK := Za hyk
    have HO1 := Za (Zp ho.out (Zg wr (.cells #[.int .i64 ((k : Int) + 1)] 3)))
    clear hc hyk
    go_wp2_with (first
     | (go_at_call 67; refine (Zaa g _ cz0).mono ?_; rintro e w' ⟨rfl, hx⟩; rw [hx]; clear hx w')
     | (go_at_call 71; refine HHk.out.mono ?_; rintro e w' ⟨rfl, hx⟩; rw [hx]; clear hx w')
     | (at_builtin; refine Zaz _ rfl _ _ _ rfl w.heap.size 3 1 8 Tryz.underlying43 Zan (by omega) _ m (nats hs) rfl HO1.out wr.heap.size [Value.int .i64 ((k : Int) + 1)] rfl (Blk.new _ _ _) rfl (by intro u hu; simp at hu; subst hu; rfl) (by simp only [maxLen]; omega) (by omega) (Nat.le_trans hbw.out.size (by simp)) ?_; intro a4 c4 w4 o4 g4; have HO4 := Za o4; have HB4 := Za (Zar (Zb hbw.out (Zg wr (.cells #[.int .i64 ((k : Int) + 1)] 3))) HO1.out (Nat.le_refl _) g4); clear o4 g4))
    have ho4 := HO4.out
    rw [show ((k : Int) + 1) = ((k + 1 : Nat) : Int) by omega, ← Zav] at ho4
    exact ⟨⟨k + 1, m + 1, hs ++ [k + 1], a4, c4, by omega, by omega, by simp, rfl, by rw [List.length_append, List.length_singleton, ← hm.out]; exact rfl, HS2, Za ho4, HB4⟩, by simp [intOf]; omega⟩
   ·have HHk := Za (HH.out wr k false hbw.out (by simp [hc]))
    have HS2 : Hid (hs = slotsK (cs.map pl) (k + 1)) := by show _ = _; rw [Zia _ _ hc, hsl.out]
    clear hc
    go_wp2_with (first
     | (go_at_call 67; refine (Zaa g _ cz0).mono ?_; rintro e w' ⟨rfl, hx⟩; rw [hx]; clear hx w')
     | (go_at_call 71; refine HHk.out.mono ?_; rintro e w' ⟨rfl, hx⟩; rw [hx]; clear hx w'))
    exact ⟨⟨k + 1, m, hs, sa, sc, by omega, by omega, by simp, rfl, hm, HS2, ho, hbw⟩, by simp [intOf]; omega⟩
  ·obtain rfl : k = n := by omega
   have z1 : ¬ (k : Int) + 1 ≤ (k : Int) := by omega
   go_wp2_with (first
    | (go_at_call 67; refine (Zaa g _ cz0).mono ?_; rintro e w' ⟨rfl, hx⟩; rw [hx]; clear hx w'))
   exact HPost.out hs sa m sc _ hm.out (by rw [hsl.out, slotsOf, ← HLN.out]) ho.out hbw.out
theorem Yfl {w : World} {g : Nat} {vp vf : Value} {room : Nat} {cs : List (Nat × Ce)} {ss : List Sp} {fr : List Nat} (h : Rs w g vp vf room ss fr) (R : Rel7 cs [] [] ss) (W : Wf cs []) (h6 : cs.length ≤ 5000) : Calls Tryz.prog 36 #[.pointer (some ⟨g, 0, none⟩)] w fun e w' => e = .returned (.int .i64 (noc cs : Int)) ∧ Below w.heap.size w w' := by
 have HH := Za (Yfp h R W h6)
 have hl : (slotsOf (cs.map pl)).length = noc cs := Zha _
 have HE : Hid (Calls Tryz.prog 40 #[.pointer (some ⟨g, 0, none⟩)] w fun e w' => ∃ a c, e = .returned (.slice a (noc cs) c) ∧ Below w.heap.size w w') := HH.out.mono fun e w' ⟨a, c, e1, _, b⟩ => ⟨a, c, by rw [← hl]; exact e1, b⟩
 generalize noc cs = n at HE ⊢
 clear h R W h6 HH hl
 go_enter Tryz.func36, Tryz.ntmps36
 go_wp2_with (go_at_call 40; refine HE.out.mono ?_; rintro e w1 ⟨a, c, rfl, b1⟩)
 go_ret
 exact ⟨rfl, b1⟩
theorem Yde {w : World} {g : Nat} {vp vf : Value} {room : Nat} {cs : List (Nat × Ce)} {ss : List Sp} {fr : List Nat} (h : Rs w g vp vf room ss fr) (R : Rel7 cs [] [] ss) (W : Wf cs []) (h6 : cs.length ≤ 60) (q : Int) : Calls Tryz.prog 105 #[.pointer (some ⟨g, 0, none⟩), .int .i64 q] w fun e w' => e = .returned (.agg (B (vDg true (cat cs) q))) ∧ Below w.heap.size w w' := by
 have HC : Hid (∀ w', Below w.heap.size w w' → w'.cell? ⟨g, 0, none⟩ = some (.bool true)) := fun w' hb => (h.grow hb).c0
 have hS := Zbt R W q
 by_cases hq0 : q = 0
 ·subst hq0
  have HD : Hid (vDg true (cat cs) 0 = dig [0]) := rfl
  rw [HD.out]
  have HE : Hid (∀ w', Calls Tryz.prog 139 #[] w' (DigPost [0] w')) := fun w' => Zhc w'
  have HSZ : Hid ((B (dig [0])).size = 32) := by rw [Zj]; exact Zn _
  generalize hDD : dig [0] = D at HSZ ⊢
  have HE' : Hid (∀ w', Calls Tryz.prog 139 #[] w' fun e w'' => e = .returned (.agg (B D)) ∧ Below w'.heap.size w' w'') := by rw [← hDD]; exact HE
  clear h R W hS HD hDD HE
  go_enter Tryz.func105, Tryz.ntmps105
  go_wp2_with (first
   | ((with_reducible refine Zx 4 ?_); refine Ze _ rfl _ rfl _ Zaq ?_; intro w1 b4 hg4 hl4 B4 b1; have HB4 := Za B4; have Hg4 := Za hg4; have Hb1 := Za b1; clear B4 hg4 hl4 b1)
   | (go_at_call 67; refine (Zaa g _ (HC.out _ Hb1.out)).mono ?_; rintro e w' ⟨rfl, hx⟩; rw [hx]; clear hx w')
   | (go_at_call 139; refine (HE'.out _).mono ?_; rintro e w2 ⟨rfl, b2⟩; have B4' := Za (HB4.out.grow b2); have Hb2 := Za b2; clear b2)
   | ((with_reducible refine Zag 4 ?_); refine Zf _ rfl _ _ _ rfl b4 _ (B D) rfl rfl B4'.out (by rw [HSZ.out]; exact Zv) (by rw [HSZ.out, Zj]; simp) (Zaw _) ?_; intro w3 B5 g3))
  exact bodyPost_ret (v := .agg (B D)) (results_cell_row rfl _ _ b4 _ _ _ _ rfl B5 Tryz.underlying62 rfl (by rw [HSZ.out]; exact Zv)) rfl ⟨rfl, Zd (Zb Hb1.out Hb2.out) g3 Hg4.out⟩
 ·have hb0 : (q == 0) = false := by simp [hq0]
  have HD : vDg true (cat cs) q = (cat cs q).dig := by simp [vDg, hq0]
  rw [HD]
  have HH : Hid (∀ w', Below w.heap.size w w' → Calls Tryz.prog 71 #[.pointer (some ⟨g, 0, none⟩), .int .i64 q] w' fun e w'' => e = .returned (.bool (decide ((sat ss q).kind ≠ 0))) ∧ w'' = w') := fun w' hb => Zbm (h.grow hb) q
  rcases Zkq W q with ⟨k0, ez⟩ | ⟨n, T, rfl, n1, n2, hT, hce, hk⟩
  ·rw [show decide ((sat ss q).kind ≠ 0) = false by rw [hS.kind, k0]; rfl] at HH
   rw [ez]
   have HBU : Hid (Tryz.prog.built 62 [] = some (B zc.dig)) := by show _ = _; kernel_rfl
   have HSZ : Hid ((B zc.dig).size = 32) := rfl
   generalize zc.dig = D at HBU HSZ ⊢
   clear h R W hS HD k0 ez hq0
   go_enter Tryz.func105, Tryz.ntmps105
   go_wp2_with (first
    | ((with_reducible refine Zx 4 ?_); refine Ze _ rfl _ rfl _ Zaq ?_; intro w1 b4 hg4 hl4 B4 b1; have HB4 := Za B4; have Hg4 := Za hg4; have Hb1 := Za b1; clear B4 hg4 hl4 b1)
    | (go_at_call 71; refine (HH.out _ Hb1.out).mono ?_; rintro e w' ⟨rfl, hx⟩; rw [hx]; clear hx w')
    | ((with_reducible refine Zxs ?_); refine Zam _ rfl _ _ rfl _ (by rw [List.map_toArray]; exact HBU.out) ?_)
    | ((with_reducible refine Zag 4 ?_); refine Zf _ rfl _ _ _ rfl b4 _ (B D) rfl rfl HB4.out (by rw [HSZ.out]; exact Zv) (by rw [HSZ.out, Zj]; simp) (Zaw _) ?_; intro w3 B5 g3))
   exact bodyPost_ret (v := .agg (B D)) (results_cell_row rfl _ _ b4 _ _ _ _ rfl B5 Tryz.underlying62 rfl (by rw [HSZ.out]; exact Zv)) rfl ⟨rfl, Zd Hb1.out g3 Hg4.out⟩
  ·rw [show decide ((sat ss (n : Int)).kind ≠ 0) = true by rw [hS.kind]; rcases hk with k | k <;> simp [k]] at HH
   have ok := Zbj W T n hT
   have hes : sdC cs n = ce cs (n - 1) := if_neg (by omega)
   have hdd : sdD cs n = (ce cs (n - 1)).dig := if_neg (by omega)
   obtain ⟨dd, hd256, hdep, hdig, hsam⟩ : ∃ dd : Nat, dd ≤ 256 ∧ max (vDp true (cat cs (n : Int))) 0 = (dd : Int) ∧ (cat cs (n : Int)).dig = rt (256 - dd) dd T.ents ∧ SamE T.ents dd := by
    rw [hce] at hk ⊢
    rcases hk with k | k
    ·refine ⟨0, by omega, ?_, ?_, fun a _ b _ j hj => by omega⟩
     ·unfold vDp
      rw [if_pos rfl, if_neg (by omega)]
      rfl
     ·rw [← hdd]
      exact ok.dig 0 (fun e => by rw [hes] at e; omega)
    ·have hdp : (ce cs (n - 1)).dp < 256 := by
      rcases W.tr (n - 1) n2 with hl | hi
      ·have := hl.kind; omega
      ·exact hi.dp
     refine ⟨(ce cs (n - 1)).dp, by omega, ?_, ?_, fun a ha b hb j hj => ?_⟩
     ·unfold vDp
      rw [if_pos rfl, if_pos k]
      omega
     ·rw [← hdd]
      exact ok.dig _ (fun _ => by rw [hes])
     ·rw [ok.share _ (by omega) (fun _ => Nat.le_refl _) a ha j hj, ok.share _ (by omega) (fun _ => Nat.le_refl _) b hb j hj]
   have hfew := Zey W hT h6
   have HE : Hid (∀ w', Below w.heap.size w w' → Calls Tryz.prog 135 #[.pointer (some ⟨g, 0, none⟩), .int .i64 (n : Int)] w' fun e w'' => ∃ a l c V, e = .returned (.slice a l c) ∧ PrAt w'' (.slice a l c) V T.ents ∧ Below w'.heap.size w' w'') := fun w' hb => by
    refine (Zcy h T n w' hb (hT.s R) (by omega)).mono ?_
    rintro e w'' ⟨v, its, e1, m1, p1, o1, b⟩
    obtain ⟨a, c, rfl⟩ := Zm (Zbe o1)
    have := Zho o1 (fun p hp => (p1 p hp).1) (fun p hp => (p1 p hp).2.grow (Zb hb b))
    rw [m1] at this
    exact ⟨a, _, c, _, e1, this, b⟩
   have hdp7 : dp7 (sat ss (n : Int)) = vDp true (cat cs (n : Int)) := by
    unfold dp7 vDp
    rw [hS.kind, hS.d, if_pos rfl]
   have HDP : Hid (∀ w', Below w.heap.size w w' → Calls Tryz.prog 89 #[.pointer (some ⟨g, 0, none⟩), .int .i64 (n : Int)] w' fun e w'' => e = .returned (.int .i64 (vDp true (cat cs (n : Int)))) ∧ Below w'.heap.size w' w'') := fun w' hb => by
    have := Zos (h.grow hb) (n : Int)
    rwa [hdp7] at this
   have HAT : Hid (∀ w' v V, PrAt w' v V T.ents → Calls Tryz.prog 140 #[v, .int .i64 (dd : Int)] w' fun e w'' => e = .returned (.agg (B (cat cs (n : Int)).dig)) ∧ Below w'.heap.size w' w'') := fun w' v V hv => by
    rw [hdig]
    exact Zvb (256 - dd) dd T.ents v V w' (by omega) (by omega) ok.apart hsam (fun e he => (ok.ent e he).2.1) hv
   have HSZ : Hid ((B (cat cs (n : Int)).dig).size = 32) := by rw [Zj]; exact (W.catOk _).ld
   generalize vDp true (cat cs (n : Int)) = vd at HDP hdep
   generalize (cat cs (n : Int)).dig = D at HAT HSZ ⊢
   generalize (n : Int) = y at HH HE HDP hb0 ⊢
   generalize (dd : Int) = dy at HAT hdep
   have hvd : (0 ≤ vd ∧ dy = vd) ∨ (vd < 0 ∧ dy = 0) := by omega
   clear h R W hS HD hk hes hdd ok hd256 hdig hsam hfew hdp7 hdep n1 n2 hce hq0
   rcases hvd with ⟨v1, rfl⟩ | ⟨v1, rfl⟩
   all_goals
    go_enter Tryz.func105, Tryz.ntmps105
    go_wp2_with (first
     | ((with_reducible refine Zx 4 ?_); refine Ze _ rfl _ rfl _ Zaq ?_; intro w1 b4 hg4 hl4 B4 b1; have HB4 := Za B4; have Hg4 := Za hg4; have Hb1 := Za b1; clear B4 hg4 hl4 b1)
     | (go_at_call 71; refine (HH.out _ Hb1.out).mono ?_; rintro e w' ⟨rfl, hx⟩; rw [hx]; clear hx w')
     | (go_at_call 135; refine (HE.out _ Hb1.out).mono ?_; rintro e w2 ⟨ea, el, ec, eV, rfl, p2, b2⟩; have P2 := Za p2; have B4a := Za (HB4.out.grow b2); have Hb2 := Za (Zb Hb1.out b2); clear b2 p2)
     | (go_at_call 89; refine (HDP.out _ Hb2.out).mono ?_; rintro e w3 ⟨rfl, b3⟩; have P3 := Za (P2.out.grow b3); have B4b := Za (B4a.out.grow b3); have Hb3 := Za (Zb Hb2.out b3); clear b3)
     | (go_at_call 140; refine (HAT.out _ _ _ P3.out).mono ?_; rintro e w4 ⟨rfl, b4'⟩; have B4c := Za (B4b.out.grow b4'); have Hb4 := Za (Zb Hb3.out b4'); clear b4')
     | ((with_reducible refine Zag 4 ?_); refine Zf _ rfl _ _ _ rfl b4 _ (B D) rfl rfl B4c.out (by rw [HSZ.out]; exact Zv) (by rw [HSZ.out, Zj]; simp) (Zaw _) ?_; intro w5 B5 g3))
    exact bodyPost_ret (v := .agg (B D)) (results_cell_row rfl _ _ b4 _ _ _ _ rfl B5 Tryz.underlying62 rfl (by rw [HSZ.out]; exact Zv)) rfl ⟨rfl, Zd Hb4.out g3 Hg4.out⟩
theorem Yfm {w : World} {g : Nat} {vp vf : Value} {room : Nat} {cs : List (Nat × Ce)} {ss : List Sp} {fr : List Nat} (h : Rs w g vp vf room ss fr) (R : Rel7 cs [] [] ss) (W : Wf cs []) (h6 : cs.length ≤ 60) (q : Int) : Calls Tryz.prog 107 #[.pointer (some ⟨g, 0, none⟩), .int .i64 q] w fun e w' => e = .returned (.agg (B (vNd true (cat cs) q))) ∧ Below w.heap.size w w' := by
 have hS := Zbt R W q
 have ho := Zcd h q
 have HA : Hid (∀ w', Below w.heap.size w w' → Calls Tryz.prog 84 #[.pointer (some ⟨g, 0, none⟩), .int .i64 q] w' fun e w'' => e = .returned (.agg (sz7 (sat ss q)).toArray) ∧ Below w'.heap.size w' w'') := fun w' hb => Zbb (h.grow hb) q
 have HL : Hid ((Tryz.prog.info? 116).map (·.size) = some (sz7 (sat ss q)).toArray.size) := by show _ = _; rw [List.size_toArray, Zw _ ho.hk.1]; exact Zbr
 have HZ := Za Zcp
 have HZL : Hid ((sz7 zs7).toArray.size = (sz7 (sat ss q)).toArray.size) := by show _ = _; rw [List.size_toArray, List.size_toArray, Zw _ ho.hk.1]; rfl
 have H1 := Za (Zcf ho)
 have hcs := Zbz (sat ss q) ho.hk.1
 have c0 := hcs.1
 have cv := hcs.2.2.1
 have cl := hcs.2.2.2.1
 have cr := hcs.2.2.2.2.1
 rw [hS.kind] at c0
 rw [hS.l] at cl
 rw [hS.r] at cr
 have hNL : (vNd true (cat cs) q).length = 129 := by
  unfold vNd
  split
  ·exact (Nd.length ⟨by omega, by omega, (W.catOk q).hk.1, Zn _, rfl, rfl, (W.catOk q).hk.2, Zaj _, Zcb, Zcb⟩ : (nd 1 (cat cs q).key (vaD (cat cs q).bs) z32 z32).length = 129)
  ·split
   ·have hd : ∀ y, (vDg true (cat cs) y).length = 32 ∧ Bytes (vDg true (cat cs) y) := fun y => by
     unfold vDg
     split
     ·exact ⟨Zn _, Zaj _⟩
     ·exact ⟨(W.catOk y).ld, (W.catOk y).bd⟩
    exact (Nd.length ⟨by omega, by omega, rfl, rfl, (hd _).1, (hd _).1, Zcb, Zcb, (hd _).2, (hd _).2⟩ : (nd 2 z32 z32 (vDg true (cat cs) ((cat cs q).l : Int)) (vDg true (cat cs) ((cat cs q).r : Int))).length = 129)
   ·rfl
 have HNL := Za hNL
 have hV : vNd true (cat cs) q = if (cat cs q).kind = 1 then nd 1 (cat cs q).key (vaD (cat cs q).bs) z32 z32 else if (cat cs q).kind = 2 then nd 2 z32 z32 (vDg true (cat cs) ((cat cs q).l : Int)) (vDg true (cat cs) ((cat cs q).r : Int)) else nd 0 z32 z32 z32 z32 := rfl
 generalize vNd true (cat cs) q = N at hV HNL ⊢
 by_cases k1 : (cat cs q).kind = 1
 ·rw [if_pos k1] at hV
  have hkey := hS.key k1
  have hrd : Reads w (sat ss q).val (cat cs q).bs := by
   rw [← hS.bs]
   have hne : (sat ss q).kind ≠ 0 := by rw [hS.kind, k1]; omega
   unfold sat at hne ⊢
   split at hne
   ·next q1 =>
    rw [if_pos q1]
    have hin := Zfg hne
    obtain ⟨sp, hown⟩ := h.vals (spAt ss (q - 1).toNat) (by
     revert hin
     generalize (q - 1).toNat = i
     intro hin
     rw [show spAt ss i = ss[i] by simp [spAt, hin]]
     exact List.getElem_mem hin)
    exact hown.reads
   ·exact absurd rfl hne
  have HVA : Hid (∀ w', Below w.heap.size w w' → Calls Tryz.prog 141 #[(sat ss q).val] w' fun e w'' => e = .returned (.agg (B (vaD (cat cs q).bs))) ∧ Below w'.heap.size w' w'') := fun w' hb => Zhb _ _ w' (hrd.grow hb) (by have := W.bsLen q; omega)
  have HBU : Hid (Tryz.prog.built 136 [(0, .int .u8 1), (1, .agg (B (cat cs q).key)), (2, .agg (B (vaD (cat cs q).bs)))] = some (B N)) := by
   show _ = _
   rw [hV]
   exact Zkj (cat cs q).key (vaD (cat cs q).bs) (W.catOk q).hk.1 (Zn _)
  have HPL : Hid ((Tryz.prog.info? 31).map (·.size) = some (B (cat cs q).key).toList.length) := by show _ = _; rw [Zap, List.length_map, (W.catOk q).hk.1]; exact Zk
  have HKS : Hid (∀ w' b, Blk w' b 116 (sz7 (sat ss q)).toArray → w'.rangeAt b 2 (B (cat cs q).key).toList) := fun w' b hB j v hv => by
   rw [hB.cell, List.getElem?_toArray]
   unfold sz7 encP
   rw [hkey, show 2 + j = (j + 1) + 1 by omega, List.getElem?_cons_succ, List.getElem?_cons_succ]
   rw [Zap] at hv
   have hj := (List.getElem?_eq_some_iff.1 hv).1
   rw [List.append_assoc, List.getElem?_append_left hj]
   exact hv
  rw [k1] at c0
  obtain ⟨va, vc, hvs⟩ := ho.vs
  rw [hvs] at cv HVA
  generalize (Value.slice va (sat ss q).bs.length vc) = u at cv HVA
  generalize vaD (cat cs q).bs = VD at HVA HBU
  generalize (cat cs q).key = K at HBU HPL HKS
  generalize sz7 zs7 = Z at HZ HZL
  generalize sz7 (sat ss q) = X at HA HL HZL H1 c0 cv HKS
  have HC0 := Za c0
  have HCV := Za cv
  clear h R W hS ho hcs c0 cv cl cr hV k1 hkey hrd hNL hvs
  go_enter Tryz.func107, Tryz.ntmps107
  go_wp2_with (first
   | ((with_reducible refine Zx 4 ?_); refine Ze _ rfl _ rfl _ Zcu ?_; intro w1 b4 hg4 hl4 B4 b1; have HB4 := Za B4; have Hg4 := Za hg4; have Hb1 := Za b1; clear B4 hg4 hl4 b1)
   | (go_at_call 84; refine (HA.out _ Hb1.out).mono ?_; rintro e w2 ⟨rfl, b2⟩; have HB4a := Za (HB4.out.grow b2); have Hb2 := Za (Zb Hb1.out b2); clear b2)
   | ((with_reducible refine Zx 5 ?_); refine Ze _ rfl _ rfl _ HZ.out ?_; intro w3 b5 hg5 hl5 B5 b3; have HB4b := Za (HB4a.out.grow b3); have HB5 := Za B5; have Hg5 := Za hg5; have Hb3 := Za b3; have hne : b4 ≠ b5 := (by have := HB4a.out.lt; omega); clear B5 hg5 hl5 b3)
   | ((with_reducible refine Zag 5 ?_); refine Zf _ rfl _ _ _ rfl b5 _ X.toArray rfl rfl HB5.out HL.out HZL.out (all_oneCell_toArray H1.out) ?_; intro w4 B6 r6; have HB4c := Za (HB4b.out.kept r6 hne); have HB6 := Za B6; have HQ4 := Za (Zd (Zb Hb2.out Hb3.out) r6 (by have := Hg5.out; have := Hb2.out.size; omega)); have c7 := B6.cell 0; rw [List.getElem?_toArray, HC0.out] at c7; clear B6 r6))
  have HB4d : Hid (∀ w', Below w4.heap.size w4 w' → Blk w' b4 136 (B (nd 0 z32 z32 z32 z32))) := fun w' hb => HB4c.out.grow hb
  have HKR : Hid (∀ w', Below w4.heap.size w4 w' → w'.rangeAt b5 2 (B K).toList) := fun w' hb => HKS.out _ _ (HB6.out.grow hb)
  have HVR : Hid (∀ w', Below w4.heap.size w4 w' → w'.cell? ⟨b5, 34, none⟩ = some u) := fun w' hb => by rw [(HB6.out.grow hb).cell, List.getElem?_toArray]; exact HCV.out
  clear c7
  refine Zy (S := fun w' => Below w4.heap.size w4 w') 8 (by kernel_rfl) ((below_drewN (Below.refl _ _) 1)) (fun hHeld => ?_)
  refine tlp 0 (.pointer (some ⟨b5, 2, none⟩)) hHeld ?_
  simp only [zq]
  refine tlp 1 (.pointer (some ⟨b5, 2, none⟩)) hHeld ?_
  simp only [zq]
  refine Zi (i := 2) (v := .agg (B K)) rfl (by kernel_rfl) (by kernel_rfl) (by kernel_rfl) (by kernel_rfl) (by kernel_rfl) (fun _ _ _ h => h) (yieldsIf_load_mid rfl 31 (.tmp 13) rfl b5 2 rfl (B K).toList _ (fun w hS => HKR.out _ hS) Tryz.underlying31 rfl HPL.out) hHeld ?_
  simp only [zq]
  refine tlp 3 (.pointer (some ⟨b5, 2, none⟩)) hHeld ?_
  simp only [zq]
  refine tlp 4 (.pointer (some ⟨b5, 34, none⟩)) hHeld ?_
  simp only [zq]
  refine Zi (i := 5) (v := u) rfl (by kernel_rfl) (by kernel_rfl) (by kernel_rfl) (by kernel_rfl) (by kernel_rfl) (fun _ _ _ h => h) (Or.inl ⟨by rfl, fun w hS => by (have q1 := HVR.out _ hS; go_simp)⟩) hHeld ?_
  simp only [zq]
  refine Zac (i := 6) rfl (by kernel_rfl) (fun KQ hK => ?_)
  go_simp
  refine (HVA.out _ (Zb HQ4.out hHeld)).mono ?_
  rintro e z1 ⟨rfl, a1⟩
  refine hK.out _ _ (Zb hHeld a1) (fun hHeld => ?_)
  clear hK KQ
  refine Zi (i := 7) (v := .agg (B N)) rfl (by kernel_rfl) (by kernel_rfl) (by kernel_rfl) (by kernel_rfl) (by kernel_rfl) (fun _ _ _ h => h) (Or.inl ⟨by rfl, fun w hS => Zbv _ _ 136 _ (by rfl) _ (by rw [List.map_toArray]; exact HBU.out) w⟩) hHeld ?_
  simp only [zq]
  refine Zad rfl (by kernel_rfl) (by kernel_rfl) (fun KQ hK => ?_)
  refine Zbq _ rfl _ _ _ rfl b4 _ (B N) rfl rfl (HB4d.out _ hHeld) (Zay HNL.out) (by rw [Zj, Zj, HNL.out]; rfl) (Zaw _) ?_
  intro z4 B9 r9
  refine hK.out _ _ ?_
  clear hK KQ
  go_wp2
  exact bodyPost_ret (v := .agg (B N)) (results_cell_row rfl _ _ b4 _ _ _ _ rfl B9 Tryz.underlying136 rfl (Zay HNL.out)) rfl ⟨rfl, Zd (Zb HQ4.out hHeld) r9 Hg4.out⟩
 ·rw [if_neg k1] at hV
  by_cases k2 : (cat cs q).kind = 2
  ·rw [if_pos k2] at hV
   have HDl : Hid (∀ w', Below w.heap.size w w' → Calls Tryz.prog 105 #[.pointer (some ⟨g, 0, none⟩), .int .i64 ((cat cs q).l : Int)] w' fun e w'' => e = .returned (.agg (B (vDg true (cat cs) ((cat cs q).l : Int)))) ∧ Below w'.heap.size w' w'') := fun w' hb => Yde (h.grow hb) R W h6 _
   have HDr : Hid (∀ w', Below w.heap.size w w' → Calls Tryz.prog 105 #[.pointer (some ⟨g, 0, none⟩), .int .i64 ((cat cs q).r : Int)] w' fun e w'' => e = .returned (.agg (B (vDg true (cat cs) ((cat cs q).r : Int)))) ∧ Below w'.heap.size w' w'') := fun w' hb => Yde (h.grow hb) R W h6 _
   have hd : ∀ y, (vDg true (cat cs) y).length = 32 := fun y => by
    unfold vDg
    split
    ·exact Zn _
    ·exact (W.catOk y).ld
   have HBU : Hid (Tryz.prog.built 136 [(0, .int .u8 2), (3, .agg (B (vDg true (cat cs) ((cat cs q).l : Int)))), (4, .agg (B (vDg true (cat cs) ((cat cs q).r : Int))))] = some (B N)) := by
    show _ = _
    rw [hV]
    exact Zje _ _ (hd _) (hd _)
   rw [k2] at c0
   generalize vDg true (cat cs) ((cat cs q).l : Int) = DL at HBU HDl
   generalize vDg true (cat cs) ((cat cs q).r : Int) = DR at HBU HDr
   generalize ((cat cs q).l : Int) = ly at HDl cl
   generalize ((cat cs q).r : Int) = ry at HDr cr
   generalize sz7 zs7 = Z at HZ HZL
   generalize sz7 (sat ss q) = X at HA HL HZL H1 c0 cl cr
   have HC0 := Za c0
   have HXl := Za cl
   have HXr := Za cr
   clear h R W hS ho hcs c0 cv cl cr hV k1 k2 hNL hd
   go_enter Tryz.func107, Tryz.ntmps107
   go_wp2_with (first
   | ((with_reducible refine Zx 4 ?_); refine Ze _ rfl _ rfl _ Zcu ?_; intro w1 b4 hg4 hl4 B4 b1; have HB4 := Za B4; have Hg4 := Za hg4; have Hb1 := Za b1; clear B4 hg4 hl4 b1)
   | (go_at_call 84; refine (HA.out _ Hb1.out).mono ?_; rintro e w2 ⟨rfl, b2⟩; have HB4a := Za (HB4.out.grow b2); have Hb2 := Za (Zb Hb1.out b2); clear b2)
   | ((with_reducible refine Zx 5 ?_); refine Ze _ rfl _ rfl _ HZ.out ?_; intro w3 b5 hg5 hl5 B5 b3; have HB4b := Za (HB4a.out.grow b3); have HB5 := Za B5; have Hg5 := Za hg5; have Hb3 := Za b3; have hne : b4 ≠ b5 := (by have := HB4a.out.lt; omega); clear B5 hg5 hl5 b3)
   | ((with_reducible refine Zag 5 ?_); refine Zf _ rfl _ _ _ rfl b5 _ X.toArray rfl rfl HB5.out HL.out HZL.out (all_oneCell_toArray H1.out) ?_; intro w4 B6 r6; have HB4c := Za (HB4b.out.kept r6 hne); have HB6 := Za B6; have HQ4 := Za (Zd (Zb Hb2.out Hb3.out) r6 (by have := Hg5.out; have := Hb2.out.size; omega)); have c7 := B6.cell 0; rw [List.getElem?_toArray, HC0.out] at c7; clear B6 r6))
   have HB4d : Hid (∀ w', Below w4.heap.size w4 w' → Blk w' b4 136 (B (nd 0 z32 z32 z32 z32))) := fun w' hb => HB4c.out.grow hb
   have HLR : Hid (∀ w', Below w4.heap.size w4 w' → w'.cell? ⟨b5, 35, none⟩ = some (.int .i64 ly)) := fun w' hb => by rw [(HB6.out.grow hb).cell, List.getElem?_toArray]; exact HXl.out
   have HRR : Hid (∀ w', Below w4.heap.size w4 w' → w'.cell? ⟨b5, 36, none⟩ = some (.int .i64 ry)) := fun w' hb => by rw [(HB6.out.grow hb).cell, List.getElem?_toArray]; exact HXr.out
   clear c7
   refine Zy (S := fun w' => Below w4.heap.size w4 w') 9 (by kernel_rfl) ((below_drewN (Below.refl _ _) 1)) (fun hHeld => ?_)
   refine tlp 0 (.pointer (some ⟨g, 0, none⟩)) hHeld ?_
   simp only [zq]
   refine tlp 1 (.pointer (some ⟨b5, 35, none⟩)) hHeld ?_
   simp only [zq]
   refine Zi (i := 2) (v := .int .i64 ly) rfl (by kernel_rfl) (by kernel_rfl) (by kernel_rfl) (by kernel_rfl) (by kernel_rfl) (fun _ _ _ h => h) (Or.inl ⟨by rfl, fun w hS => by (have q1 := HLR.out _ hS; go_simp)⟩) hHeld ?_
   simp only [zq]
   refine tlp 4 (.pointer (some ⟨g, 0, none⟩)) hHeld ?_
   simp only [zq]
   refine tlp 5 (.pointer (some ⟨b5, 36, none⟩)) hHeld ?_
   simp only [zq]
   refine Zi (i := 6) (v := .int .i64 ry) rfl (by kernel_rfl) (by kernel_rfl) (by kernel_rfl) (by kernel_rfl) (by kernel_rfl) (fun _ _ _ h => h) (Or.inl ⟨by rfl, fun w hS => by (have q1 := HRR.out _ hS; go_simp)⟩) hHeld ?_
   simp only [zq]
   refine Zac (i := 3) rfl (by kernel_rfl) (fun KQ hK => ?_)
   go_simp
   refine (HDl.out _ (Zb HQ4.out hHeld)).mono ?_
   rintro e z1 ⟨rfl, a1⟩
   refine hK.out _ _ (Zb hHeld a1) (fun hHeld => ?_)
   clear hK KQ
   refine Zac (i := 7) rfl (by kernel_rfl) (fun KQ hK => ?_)
   go_simp
   refine (HDr.out _ (Zb HQ4.out hHeld)).mono ?_
   rintro e z2 ⟨rfl, a2⟩
   refine hK.out _ _ (Zb hHeld a2) (fun hHeld => ?_)
   clear hK KQ
   refine Zi (i := 8) (v := .agg (B N)) rfl (by kernel_rfl) (by kernel_rfl) (by kernel_rfl) (by kernel_rfl) (by kernel_rfl) (fun _ _ _ h => h) (Or.inl ⟨by rfl, fun w hS => Zbv _ _ 136 _ (by rfl) _ (by rw [List.map_toArray]; exact HBU.out) w⟩) hHeld ?_
   simp only [zq]
   refine Zad rfl (by kernel_rfl) (by kernel_rfl) (fun KQ hK => ?_)
   refine Zbq _ rfl _ _ _ rfl b4 _ (B N) rfl rfl (HB4d.out _ hHeld) (Zay HNL.out) (by rw [Zj, Zj, HNL.out]; rfl) (Zaw _) ?_
   intro z4 B9 r9
   refine hK.out _ _ ?_
   clear hK KQ
   go_wp2
   exact bodyPost_ret (v := .agg (B N)) (results_cell_row rfl _ _ b4 _ _ _ _ rfl B9 Tryz.underlying136 rfl (Zay HNL.out)) rfl ⟨rfl, Zd (Zb HQ4.out hHeld) r9 Hg4.out⟩
  ·rw [if_neg k2] at hV
   obtain ⟨kk, hkk⟩ : ∃ kk, kk = (cat cs q).kind := ⟨_, rfl⟩
   rw [← hkk] at c0 k1 k2
   have n1 : (kk == 1) = false := by simp [k1]
   have n2 : (kk == 2) = false := by simp [k2]
   have HBU : Hid (Tryz.prog.built 136 [] = some (B N)) := by
    show _ = _
    rw [hV]
    exact Zpl
   have HVN := Za hV
   generalize sz7 zs7 = Z at HZ HZL
   generalize sz7 (sat ss q) = X at HA HL HZL H1 c0
   have HC0 := Za c0
   clear h R W hS ho hcs c0 cv cl cr hV k1 k2 hNL hkk
   go_enter Tryz.func107, Tryz.ntmps107
   go_wp2_with (first
   | ((with_reducible refine Zx 4 ?_); refine Ze _ rfl _ rfl _ Zcu ?_; intro w1 b4 hg4 hl4 B4 b1; have HB4 := Za B4; have Hg4 := Za hg4; have Hb1 := Za b1; clear B4 hg4 hl4 b1)
   | (go_at_call 84; refine (HA.out _ Hb1.out).mono ?_; rintro e w2 ⟨rfl, b2⟩; have HB4a := Za (HB4.out.grow b2); have Hb2 := Za (Zb Hb1.out b2); clear b2)
   | ((with_reducible refine Zx 5 ?_); refine Ze _ rfl _ rfl _ HZ.out ?_; intro w3 b5 hg5 hl5 B5 b3; have HB4b := Za (HB4a.out.grow b3); have HB5 := Za B5; have Hg5 := Za hg5; have Hb3 := Za b3; have hne : b4 ≠ b5 := (by have := HB4a.out.lt; omega); clear B5 hg5 hl5 b3)
   | ((with_reducible refine Zag 5 ?_); refine Zf _ rfl _ _ _ rfl b5 _ X.toArray rfl rfl HB5.out HL.out HZL.out (all_oneCell_toArray H1.out) ?_; intro w4 B6 r6; have HB4c := Za (HB4b.out.kept r6 hne); have HB6 := Za B6; have HQ4 := Za (Zd (Zb Hb2.out Hb3.out) r6 (by have := Hg5.out; have := Hb2.out.size; omega)); have c7 := B6.cell 0; rw [List.getElem?_toArray, HC0.out] at c7; clear B6 r6)
   | ((with_reducible refine Zxs ?_); refine Zam _ rfl _ _ rfl _ (by rw [List.map_toArray]; exact HBU.out) ?_)
   | ((with_reducible refine Zag 4 ?_); refine Zf _ rfl _ _ _ rfl b4 _ (B N) rfl rfl HB4c.out (Zay HNL.out) (by rw [Zj, Zj, HNL.out]; rfl) (Zaw _) ?_; intro z4 B9 r9))
   exact bodyPost_ret (v := .agg (B N)) (results_cell_row rfl _ _ b4 _ _ _ _ rfl B9 Tryz.underlying136 rfl (Zay HNL.out)) rfl ⟨rfl, Zd HQ4.out r9 Hg4.out⟩
theorem Zjm : Tryz.prog.underlying 30 = some (.array 32 5) := Tryz.underlying30
theorem Zhs {xs : List Int} (h : Key xs) : (Tryz.prog.info? 30).map (·.size) = some (B xs).size := by rw [Zj, h.1]; exact Zz
theorem Yct (xs : List Int) (d : Nat) (b z : Int) (hx : Key xs) (hd : d < 256) (hb : b = 0 ∨ b = 1) (hz : z = xs.getD (d / 8) 0 + (b - kb xs d) * 2 ^ (7 - d % 8)) : 0 ≤ z ∧ z ≤ 255 ∧ IsSet xs d b (xs.set (d / 8) z) := by
 obtain ⟨⟨h1, h2⟩, h3⟩ := Ygy (xs.getD (d / 8) 0) b (hx.byte _) hb (d % 8) (by omega)
 have e : xs.getD (d / 8) 0 + (b - bt (xs.getD (d / 8) 0) (d % 8)) * 2 ^ (7 - d % 8) = z := hz.symm
 rw [e] at h1 h2 h3
 refine ⟨h1, h2, hx.set _ _ ⟨h1, h2⟩, fun j hj => ?_⟩
 rw [Ygb _ _ _ _ (by rw [hx.1]; omega)]
 by_cases q : j / 8 = d / 8
 ·rw [if_pos q, h3 _ (by omega)]
  by_cases p : j % 8 = d % 8
  ·rw [if_pos p, if_pos (by omega)]
  ·rw [if_neg p, if_neg (by omega)]
   unfold kb
   rw [q]
 ·rw [if_neg q, if_neg (by omega)]
theorem Ycy (xs : List Int) (d : Nat) (b : Int) (w : World) (hx : Key xs) (hd : d < 256) (hb : b = 0 ∨ b = 1) : Calls Tryz.prog 153 #[.agg (B xs), .int .i64 d, .int .i64 b] w fun e w' => ∃ ys, IsSet xs d b ys ∧ e = .returned (.agg (B ys)) ∧ Below w.heap.size w w' := by
 have HX := Za hx
 have h2 : ((d / 8 : Nat) : Int) < 32 := by omega
 have hby := hx.byte (d / 8)
 obtain ⟨x, hxx⟩ : ∃ x, x = xs.getD (d / 8) 0 := ⟨_, rfl⟩
 rw [← hxx] at hby
 have hwx : wrap64 x = x := Go.IntWalk.wrap64_in _ (by omega)
 obtain ⟨y, hy⟩ : ∃ y, y = kb xs d := ⟨_, rfl⟩
 have hy2 : y = 0 ∨ y = 1 := by rw [hy]; exact Zfw xs d
 have cB : Hid (∀ w', Calls Tryz.prog 122 #[.agg (B xs), .int .i64 d] w' fun e w'' => e = .returned (.int .i64 y) ∧ Below w'.heap.size w' w'') := by
  intro w'
  rw [hy]
  exact Zfi xs d w' hx hd
 obtain ⟨W, hW⟩ : ∃ W : Int, W = 2 ^ (7 - d % 8) := ⟨_, rfl⟩
 obtain ⟨f, hf⟩ : ∃ f : Int, f = b - y := ⟨_, rfl⟩
 obtain ⟨m, hm⟩ : ∃ m : Int, m = f * W := ⟨_, rfl⟩
 obtain ⟨z, hz⟩ : ∃ z : Int, z = x + m := ⟨_, rfl⟩
 obtain ⟨z0, z1, hset⟩ := Yct xs d b z hx hd hb (by rw [hz, hm, hf, hxx, hy, hW])
 have HSET := Za hset
 have HW := Za hW
 have w9 : IntKind.i64.wrap (b - y) = f := by rw [IntKind.wrap_i64]; omega
 have w11 : IntKind.i64.wrap (f * W) = m := by rw [← hm, IntKind.wrap_i64]; omega
 have w12 : IntKind.i64.wrap (x + m) = z := by rw [← hz, IntKind.wrap_i64]; omega
 have w13 : z % 256 = z := by omega
 have w1 : IntKind.i64.wrap ((d : Int) / 8) = (d : Int) / 8 := by rw [IntKind.wrap_i64]; omega
 have w4 : IntKind.i64.wrap x = x := by rw [IntKind.wrap_i64]; omega
 have hbd : 0 ≤ (d : Int) / 8 ∧ (d : Int) / 8 < 32 := by omega
 have htn : ((d : Int) / 8).toNat = d / 8 := by omega
 have HXX := Za hxx
 have hs := Zhs hx
 have hs2 := Zhs hset.1
 have HZ : Hid ((B (xs.set (d / 8) z)).size = 32) := by rw [Zj]; exact hset.1.1
 have hiX : (Tryz.prog.info? 30).map (·.size) = some (B xs).toList.length := by rw [Zap, List.length_map, hx.1]; exact Zz
 clear hx hxx hW hf hm hz hset hy2 hb hy
 go_enter Tryz.func153, Tryz.ntmps153
 go_wp2_with (first | (refine Zc _ rfl _ _ rfl _ rfl ?_; intro w1 g1 hg1 hl1 B1 b1) | (refine Ze _ rfl _ rfl _ Zbp ?_; intro w2 g2 hg2 hl2 B2 b2; have B1' := B1.grow b2))
 have c2 := Zb b1 b2
 have hg3 : w.heap.size ≤ g2 := Nat.le_trans b1.size hg2
 have hne : g2 ≠ g1 := by omega
 have HB : Hid (∀ w', Below w2.heap.size w2 w' → Blk w' g1 30 (B xs) ∧ Blk w' g2 30 (B (List.replicate 32 0))) := fun w' hw' => ⟨B1'.grow hw', B2.grow hw'⟩
 have HS : Hid (∀ w', Below w2.heap.size w2 w' → w'.rangeAt g1 0 (B xs).toList ∧ w'.cell? ⟨g1, d / 8, none⟩ = some (.int .u8 x)) := fun w' hw' => ⟨(B1'.grow hw').range, by
  have := (B1'.grow hw').bcell (d / 8) (by rw [HX.out.1]; omega)
  rw [← HXX.out] at this
  exact this⟩
 clear B1 B1' B2 b1 b2 hl1 hl2 hg2
 have hm : d % 8 < 8 := Nat.mod_lt _ (by omega)
 go_loopw [7, 8] (fun s i wr => ∃ (k : Nat) (v : Int), k ≤ 7 - d % 8 ∧ s = .int .i64 v ∧ i = .int .i64 k ∧ Hid (v = 2 ^ k) ∧ 0 ≤ v ∧ v ≤ 128 ∧ wr = w2) (fun _ i _ => 8 - (intOf i).toNat)
 case atStart => exact ⟨0, 1, by omega, rfl, rfl, by show _ = _; simp, by omega, by omega, rfl⟩
 case round =>
  obtain ⟨k, v, hk, rfl, rfl, hv, hv0, hv1, hwr⟩ := hrel
  by_cases hlt : k < 7 - d % 8
  ·subst hwr
   have hlt' : (k : Int) < 7 - (d : Int) % 8 := by omega
   have hv2 : v ≤ 64 := by
    have h := (show ∀ k, k < 7 → 2 ^ k ≤ 64 from by decide +kernel) k (by omega)
    rw [hv.out]
    have e : (2 : Int) ^ k = ((2 ^ k : Nat) : Int) := by rw [Int.natCast_pow]; rfl
    rw [e]
    exact Int.ofNat_le.2 h
   go_wp2
   exact ⟨⟨k + 1, 2 * v, by omega, by go_num, by go_num, by show _ = _; rw [hv.out, Int.pow_succ, Int.mul_comm], by omega, by omega, trivial⟩, by simp [intOf]; omega⟩
  ·have hlt' : decide ((k : Int) < 7 - (d : Int) % 8) = false := decide_eq_false (by omega)
   obtain rfl : k = 7 - d % 8 := by omega
   obtain rfl : v = W := by rw [hv.out, HW.out]
   subst hwr
   obtain ⟨wz, rfl⟩ : ∃ x, x = wr := ⟨_, rfl⟩
   have d0 : Below wz.heap.size wz wz.drew := (Below.refl _ _).drew
   clear hlt hlt'
   go_wp2_with fail
   refine wp_region_held_drew (S := fun w' => w'.rangeAt g1 0 (B xs).toList ∧ w'.cell? ⟨g1, d / 8, none⟩ = some (.int .u8 x)) (by kernel_rfl) (HS.out _ d0) (fun hHeld => ?_)
   refine tkp 0 (.int .i64 (d : Int)) hHeld ?_
   simp only [zq]
   refine tkp 1 (.int .i64 ((d : Int) / 8)) hHeld ?_
   simp only [zq]
   refine tkp 2 (.pointer (some ⟨g1, d / 8, none⟩)) hHeld ?_
   simp only [zq]
   refine tkg 3 (.int .u8 x) rfl (Or.inl ⟨by rfl, fun w hS => by (have q1 := hS.2; go_simp)⟩) hHeld ?_
   simp only [zq]
   refine tkp 4 (.int .i64 x) hHeld ?_
   simp only [zq]
   refine tkp 5 (.int .i64 b) hHeld ?_
   simp only [zq]
   refine tkg 6 (.agg (B xs)) rfl (yieldsIf_load_mid rfl 30 (.tmp 3) rfl g1 0 rfl (B xs).toList _ (fun w hS => hS.1) Zjm rfl hiX) hHeld ?_
   simp only [zq]
   refine tkp 7 (.int .i64 (d : Int)) hHeld ?_
   simp only [zq]
   refine tkp 10 (.int .i64 v) hHeld ?_
   simp only [zq]
   refine wpAnyH_ready (rs := [8]) (by kernel_rfl) (by simp) ?_
   refine AllReadyH.cons rfl (fun KQ hK => ?_) AllReadyH.nil
   go_simp
   refine (cB.out _).mono ?_
   rintro e x1 ⟨rfl, a1⟩
   have d1 := Zb d0 a1
   refine hK.out _ _ (HS.out _ d1) (fun hHeld => ?_)
   clear hK KQ
   refine tkp 9 (.int .i64 f) hHeld ?_
   simp only [zq]
   refine tkp 11 (.int .i64 m) hHeld ?_
   simp only [zq]
   refine tkp 12 (.int .i64 z) hHeld ?_
   simp only [zq]
   refine wpAnyH_ready (rs := [13]) (by kernel_rfl) (by simp) ?_
   refine AllReadyH.cons rfl (fun KQ hK => ?_) AllReadyH.nil
   go_simp
   refine hK.out _ _ (HS.out _ d1) (fun hHeld => ?_)
   clear hK KQ
   refine wpAnyH_done (by kernel_rfl) ?_ _
   have B4 := (HB.out _ d1).1
   have B5 := (HB.out _ d1).2
   have c1 := (HS.out _ d1).2
   have f1 := B4.frozen (d / 8)
   have c4 : Below w.heap.size w x1 := Zb c2 d1
   clear HS HB d0 d1 a1 w9 w11 w12 w1 w4 hbd htn
   go_wp2_with (first | (refine Zh _ rfl _ _ rfl g1 _ rfl (B4.bset (d / 8) z) _ _ Zjm hs2 ?_) | (refine Zf _ rfl _ _ _ rfl g2 _ (B (xs.set (d / 8) z)) rfl rfl (B5.other (d / 8) (.int .u8 z) hne) hs2 (by rw [HZ.out, Zj]; simp) (Zaw _) ?_; intro w5 B6 g5))
   exact bodyPost_ret (v := .agg (B (xs.set (d / 8) z))) (results_cell_row rfl _ _ g2 _ _ _ _ rfl B6 Zjm rfl hs2) rfl ⟨_, HSET.out, rfl, Zd (Zt _ _ c4 hg1) g5 hg3⟩
def Cop (xs : List Int) (k : Nat) (ys : List Int) : Prop := ys.length = 32 ∧ ∀ j, j < 32 → ys.getD j 0 = if j < k then xs.getD j 0 else 0
end Go.Proofs.YtbkolhhgajkjjaaGreatDoor
