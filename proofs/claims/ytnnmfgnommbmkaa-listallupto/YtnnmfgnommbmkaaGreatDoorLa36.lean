/- A store that a walk keeps, beside blocks that it never touches: each call of it, and what stays. -/
import Derived.Test.YtnnmfgnommbmkaaGreatDoorLa01
import Derived.Test.YtnnmfgnommbmkaaGreatDoorLa35
import Derived.Test.YtnnmfgnommbmkaaGreatDoorLa31
import Derived.Test.YtnnmfgnommbmkaaGreatDoorLa32
namespace Go.Proofs.YtnnmfgnommbmkaaGreatDoor
set_option maxRecDepth 20000
open Go.RowKit

def Hs (w0 : World) (S : List Nat) (w : World) (g gs room : Nat) (cs : List (Nat × Ce)) (fr : List Nat) : Prop := STurn w0 g gs S room cs fr w ∧ Wf cs []

section
variable {w0 w : World} {S : List Nat} {g gs room : Nat} {cs : List (Nat × Ce)} {fr : List Nat}

theorem Hs.here {vp vf : Value} (s : Stm w g gs vp vf room cs fr) (W : Wf cs []) : Hs w (stB g gs vp vf cs) w g gs room cs fr := ⟨STurn.refl (Below.refl _ _) s, W⟩
theorem Hs.mod (h : Hs w0 S w g gs room cs fr) : Mod S w0 w := by obtain ⟨⟨_, _, _, m, _⟩, _⟩ := h; exact m
theorem Hs.kq {P : World → Prop} (h : Hs w0 S w g gs room cs fr) (k : Kq S w0 P) : P w := k w h.mod
theorem Hs.grow {w' : World} (h : Hs w0 S w g gs room cs fr) (hb : Below w.heap.size w w') : Hs w0 S w' g gs room cs fr := by
  obtain ⟨t, W⟩ := h
  exact ⟨t.trans fun vp vf s => STurn.refl hb (s.grow hb), W⟩
theorem Hs.vw (h : Hs w0 S w g gs room cs fr) : Vw w (.pointer (some ⟨g, 0, none⟩)) true (cot cs) (cat cs) := by
  obtain ⟨⟨vp, vf, s, _, _⟩, W⟩ := h
  exact vw_ok s W
theorem Hs.inv (h : Hs w0 S w g gs room cs fr) : Inv room (cs.map pl) fr := by
  obtain ⟨⟨vp, vf, s, _, _⟩, W⟩ := h
  exact s.sl.inv
theorem Hs.frok (h : Hs w0 S w g gs room cs fr) : FrOk cs fr := frOk_inv h.inv
theorem Hs.free (h : Hs w0 S w g gs room cs fr) (hn : noc cs < room) : ¬ Full room cs fr := fun f => by
  have := h.inv.sum
  rw [f.1, List.length_map] at this
  have := f.2
  unfold noc at hn
  simp at *
  omega
theorem Hs.from (h : Hs w0 S w g gs room cs fr) : ∃ S', Hs w S' w g gs room cs fr ∧ New S w0 S' ∧ (∀ P : World → Prop, Kq S w0 P → Kq S' w P) ∧ (∀ k ∈ S', k < w.heap.size) ∧ ∀ w' cs' fr', Hs w S' w' g gs room cs' fr' → Hs w0 S w' g gs room cs' fr' := by
  obtain ⟨⟨vp, vf, s, m, n⟩, W⟩ := h
  refine ⟨stB g gs vp vf cs, Hs.here s W, n, fun P k => k.turn m n, s.lts, fun w' cs' fr' k => ⟨?_, k.2⟩⟩
  obtain ⟨vp', vf', s', m', n'⟩ := k.1
  exact ⟨vp', vf', s', m.trans n m', n.trans m.size n'⟩

theorem hs_hold (h : Hs w0 S w g gs room cs fr) (i : Nat) (hc : 0 < cc cs i) (hm : cc cs i < 1073741824) : Calls Tryz.prog 69 #[.pointer (some ⟨g, 0, none⟩), .int .i64 ((i : Int) + 1)] w fun e w' => e = .returned (.int .i64 0) ∧ Hs w0 S w' g gs room (moreC cs i) fr := by
  obtain ⟨t, W⟩ := h
  obtain ⟨vp, vf, s, m, n⟩ := t
  refine (holdS_ok s i hc hm).mono ?_
  rintro e w' ⟨rfl, t'⟩
  obtain ⟨vp', vf', s', m', n'⟩ := t'
  exact ⟨rfl, ⟨vp', vf', s', m.trans n m', n.trans m.size n'⟩, W.more i hc⟩
theorem hs_hold_bad (h : Hs w0 S w g gs room cs fr) (q : Int) (hc : cot cs q = 0) : Calls Tryz.prog 69 #[.pointer (some ⟨g, 0, none⟩), .int .i64 q] w fun e w' => e = .returned (.int .i64 7) ∧ Hs w0 S w' g gs room cs fr := by
  have hh := h
  obtain ⟨⟨vp, vf, s, m, n⟩, W⟩ := h
  exact (holdS_bad s q hc).mono fun e w' ⟨e1, b⟩ => ⟨e1, b ▸ hh⟩
theorem hs_leaf (h : Hs w0 S w g gs room cs fr) (K : List Int) (v : Value) (bs : List Int) (hr : Reads w v bs) (hK : Key K) (hL : Laid w) (hl : bs.length ≤ 1024) (hf : ¬ Full room cs fr) : Calls Tryz.prog 70 #[.pointer (some ⟨g, 0, none⟩), .agg (B K), v] w fun e w' => ∃ v', e = .returned (.tuple #[.int .i64 (tkH cs fr : Int), .int .i64 0]) ∧ CeOk (lfC (lfD K (vaD bs)) K v' bs) ∧ Hs w0 S w' g gs room (tkC cs fr (1, lfC (lfD K (vaD bs)) K v' bs)) fr.dropLast := by
  obtain ⟨⟨vp, vf, s, m, n⟩, W⟩ := h
  have hbs : Bytes bs := by obtain ⟨_, _, _, _, _, hb, _⟩ := hr; exact hb
  refine (leafS_ok s K v bs hr hK hL hl hf).mono ?_
  rintro e w' ⟨v', rfl, ok, t⟩
  have tk := (tk_of (frOk_inv s.sl.inv) (1, lfC (lfD K (vaD bs)) K v' bs)).2
  obtain ⟨vp', vf', s', m', n'⟩ := t
  exact ⟨v', rfl, ok, ⟨vp', vf', s', m.trans n m', n.trans m.size n'⟩, W.leaf tk (leaf_ok K v' bs hbs hl) ok rfl⟩
theorem hs_inner (h : Hs w0 S w g gs room cs fr) (d l r : Nat) (hd : d < 256) (hml : mayP cs (l : Int)) (hmr : mayP cs (r : Int)) (u : Bool) (hu : u = true ↔ Und (sdC cs l).key (sdC cs r).key (d : Int)) (hf : fitP d (sdC cs l) (sdC cs r) u = true) (hL : Laid w) (hfu : ¬ Full room cs fr) : Calls Tryz.prog 72 #[.pointer (some ⟨g, 0, none⟩), .int .i64 (d : Int), .int .i64 (l : Int), .int .i64 (r : Int)] w fun e w' => ∃ cs', InnR cs fr d l r cs' ∧ e = .returned (.tuple #[.int .i64 (tkH cs fr : Int), .int .i64 0]) ∧ Hs w0 S w' g gs room cs' fr.dropLast := by
  obtain ⟨⟨vp, vf, s, m, n⟩, W⟩ := h
  refine (innerS_ok s W d l r hd hml hmr u hu hf hL hfu).mono ?_
  rintro e w' ⟨K, hK, rfl, t⟩
  have tk := (tk_of (frOk_inv s.sl.inv) (1, inC (inD (sdD cs l) (sdD cs r)) K ((sdC cs l).sz + (sdC cs r).sz) d l r)).2
  obtain ⟨vp', vf', s', m', n'⟩ := t
  exact ⟨_, ⟨K, hK, rfl⟩, rfl, ⟨vp', vf', s', m.trans n m', n.trans m.size n'⟩, W.inner tk (inn_ok W hd hml hmr hu hf hK) ⟨dig_length _, dig_bytes _, hK.1, none, 0, rfl⟩ rfl hml.own hmr.own⟩
theorem hs_drop (h : Hs w0 S w g gs room cs fr) (i : Nat) (ho : 0 < own cs [] i) : Calls Tryz.prog 43 #[.pointer (some ⟨g, 0, none⟩), .int .i64 ((i + 1 : Nat) : Int)] w fun e w' => ∃ cs' fr' n, Run cs fr [i + 1] cs' fr' n ∧ Step cs [i + 1] cs' [] n ∧ e = .returned (.tuple #[.int .i64 (n : Int), .int .i64 0]) ∧ Hs w0 S w' g gs room cs' fr' := by
  obtain ⟨⟨vp, vf, s, m, n⟩, W⟩ := h
  refine (dropS_ok s W i ho).mono ?_
  rintro e w' ⟨cs', fr', k, hr, rfl, t⟩
  have st := hr.step (W.less i ho)
  obtain ⟨vp', vf', s', m', n'⟩ := t
  exact ⟨cs', fr', k, hr, st, rfl, ⟨vp', vf', s', m.trans n m', n.trans m.size n'⟩, st.wf⟩
theorem hs_drop_miss (h : Hs w0 S w g gs room cs fr) (q : Int) (hm : cot cs q ≤ (cat cs q).ab) : Calls Tryz.prog 43 #[.pointer (some ⟨g, 0, none⟩), .int .i64 q] w fun e w' => e = .returned (.tuple #[.int .i64 0, .int .i64 7]) ∧ Hs w0 S w' g gs room cs fr := by
  have hh := h
  obtain ⟨⟨vp, vf, s, m, n⟩, W⟩ := h
  exact (dropS_miss s W q hm).mono fun e w' ⟨e1, b⟩ => ⟨e1, hh.grow b⟩
theorem hs_occ (h : Hs w0 S w g gs room cs fr) : Calls Tryz.prog 62 #[.pointer (some ⟨g, 0, none⟩)] w fun e w' => e = .returned (.int .i64 (noc cs : Int)) ∧ Below w.heap.size w w' := by
  obtain ⟨⟨vp, vf, s, m, n⟩, W⟩ := h
  exact occS_ok s
theorem hs_room (h : Hs w0 S w g gs room cs fr) : Calls Tryz.prog 63 #[.pointer (some ⟨g, 0, none⟩)] w fun e w' => e = .returned (.int .i64 (room : Int)) ∧ Below w.heap.size w w' := by
  obtain ⟨⟨vp, vf, s, m, n⟩, W⟩ := h
  exact roomS_ok s
end

end Go.Proofs.YtnnmfgnommbmkaaGreatDoor

namespace Go.Proofs.YtnnmfgnommbmkaaGreatDoor
set_option maxRecDepth 20000
open Go.RowKit

set_option maxHeartbeats 400000 in
theorem fits9_no {w : World} {v : Value} {ct : Int → Nat} {ca : Int → Ce} (V : Vw w v false ct ca) (j : Int) : Calls Tryz.prog 39 #[v, .int .i64 j] w fun e w' => e = .returned (.bool false) ∧ Below w.heap.size w w' := by
  have HR := hidden (root_any V 0)
  rw [show vRt false (ct 0) (ca 0) 0 = 1 from rfl] at HR
  clear V
  go_enter Tryz.func39, Tryz.ntmps39
  go_wp2_with (go_at_call 23; refine HR.out.mono ?_; rintro e w1 ⟨rfl, b1⟩; have HB := hidden b1; clear b1)
  go_ret
  exact ⟨rfl, HB.out⟩

theorem Hs.sizes {w0 w : World} {S : List Nat} {g gs room : Nat} {cs : List (Nat × Ce)} {fr : List Nat} (h : Hs w0 S w g gs room cs fr) : noc cs ≤ room ∧ room ≤ 65536 ∧ cs.length ≤ room := by
  have h1 := h.inv.sum
  have h2 := h.inv.len
  have h3 := h.inv.r2
  rw [List.length_map] at h1 h2
  unfold noc
  omega

def fitsN (n room : Nat) (j : Int) : Bool := decide (0 ≤ j ∧ j ≤ 64 ∧ (n : Int) + 258 * j ≤ room)

set_option maxHeartbeats 400000 in
theorem fits9_any {w0 w : World} {S : List Nat} {g gs room : Nat} {cs : List (Nat × Ce)} {fr : List Nat} (h : Hs w0 S w g gs room cs fr) (j : Int) : Calls Tryz.prog 39 #[.pointer (some ⟨g, 0, none⟩), .int .i64 j] w fun e w' => e = .returned (.bool (fitsN (noc cs) room j)) ∧ Below w.heap.size w w' := by
  have HR := hidden (root_any h.vw 0)
  rw [show vRt true (cot cs 0) (cat cs 0) 0 = 0 from rfl] at HR
  have HO : Hid (∀ w', Below w.heap.size w w' → Calls Tryz.prog 62 #[.pointer (some ⟨g, 0, none⟩)] w' fun e w'' => e = .returned (.int .i64 (noc cs : Int)) ∧ Below w'.heap.size w' w'') := fun w' hb => hs_occ (h.grow hb)
  have HM : Hid (∀ w', Below w.heap.size w w' → Calls Tryz.prog 63 #[.pointer (some ⟨g, 0, none⟩)] w' fun e w'' => e = .returned (.int .i64 (room : Int)) ∧ Below w'.heap.size w' w'') := fun w' hb => hs_room (h.grow hb)
  obtain ⟨h1, h2, _⟩ := h.sizes
  generalize noc cs = n at HO h1 ⊢
  clear h
  by_cases j0 : j < 0
  · rw [show fitsN n room j = false by simp [fitsN]; omega]
    clear h1 h2
    go_enter Tryz.func39, Tryz.ntmps39
    go_wp2_with (go_at_call 23; refine HR.out.mono ?_; rintro e w1 ⟨rfl, b1⟩; have HB := hidden b1; clear b1)
    go_ret
    exact ⟨rfl, HB.out⟩
  by_cases j1 : 64 < j
  · rw [show fitsN n room j = false by simp [fitsN]; omega]
    clear h1 h2
    go_enter Tryz.func39, Tryz.ntmps39
    go_wp2_with (go_at_call 23; refine HR.out.mono ?_; rintro e w1 ⟨rfl, b1⟩; have HB := hidden b1; clear b1)
    go_ret
    exact ⟨rfl, HB.out⟩
  obtain ⟨k, rfl⟩ : ∃ k : Nat, j = (k : Int) := ⟨j.toNat, by omega⟩
  have hk : k ≤ 64 := by omega
  have HV : Hid (fitsN n room (k : Int) = decide (((n : Int) + 258 * (k : Int)) ≤ (room : Int))) := by
    show _ = _
    unfold fitsN
    congr 1
    apply propext
    constructor
    · exact fun q => q.2.2
    · exact fun q => ⟨by omega, by omega, q⟩
  have w1 : wrap64 (258 * (k : Int)) = 258 * (k : Int) := Go.IntWalk.wrap64_in _ (by omega)
  have w2 : wrap64 ((n : Int) + 258 * (k : Int)) = (n : Int) + 258 * (k : Int) := Go.IntWalk.wrap64_in _ (by omega)
  have j2 : ¬ (64 : Int) < (k : Int) := j1
  have j3 : ¬ (k : Int) < 0 := j0
  rw [HV.out]
  clear HV j0 j1 h1 h2
  go_enter Tryz.func39, Tryz.ntmps39
  go_wp2_with (first
    | (go_at_call 23; refine HR.out.mono ?_; rintro e w1 ⟨rfl, b1⟩; have HB := hidden b1; clear b1)
    | (go_at_call 62; refine (HO.out _ HB.out).mono ?_; rintro e w2 ⟨rfl, b2⟩; replace HB := hidden (grow_trans HB.out b2); clear b2)
    | (go_at_call 63; refine (HM.out _ HB.out).mono ?_; rintro e w3 ⟨rfl, b3⟩; replace HB := hidden (grow_trans HB.out b3); clear b3))
  go_ret
  exact ⟨rfl, HB.out⟩

def vAh (mk : Bool) (q : Nat) (c : Ce) (h : Int) : Int := if vRt mk q c h = 0 then (if h ≠ 0 ∧ q - c.ab = 0 then 7 else 0) else vRt mk q c h

set_option maxHeartbeats 400000 in
theorem athand_any {w : World} {v : Value} {mk : Bool} {ct : Int → Nat} {ca : Int → Ce} (V : Vw w v mk ct ca) (h : Int) : Calls Tryz.prog 61 #[v, .int .i64 h] w fun e w' => e = .returned (.int .i64 (vAh mk (ct h) (ca h) h)) ∧ Below w.heap.size w w' := by
  have HR := hidden (root_any V h)
  have HH : Hid (∀ w', Below w.heap.size w w' → Calls Tryz.prog 73 #[v, .int .i64 h] w' fun e w'' => e = .returned (.int .i64 ((ct h - (ca h).ab : Nat) : Int)) ∧ Below w'.heap.size w' w'') := fun w' hb => held_any (V.grow hb) h
  unfold vAh
  generalize vRt mk (ct h) (ca h) h = r at HR ⊢
  generalize ct h - (ca h).ab = q at HH ⊢
  clear V
  by_cases r0 : r = 0
  · subst r0
    rw [if_pos rfl]
    by_cases h0 : h = 0
    · subst h0
      rw [if_neg (by simp)]
      go_enter Tryz.func61, Tryz.ntmps61
      go_wp2_with (go_at_call 23; refine HR.out.mono ?_; rintro e w1 ⟨rfl, b1⟩; have HB := hidden b1; clear b1)
      go_ret
      exact ⟨rfl, HB.out⟩
    · by_cases q0 : q = 0
      · subst q0
        rw [if_pos ⟨h0, rfl⟩]
        go_enter Tryz.func61, Tryz.ntmps61
        go_wp2_with (first
          | (go_at_call 23; refine HR.out.mono ?_; rintro e w1 ⟨rfl, b1⟩; have HB := hidden b1; clear b1)
          | (go_at_call 73; refine (HH.out _ HB.out).mono ?_; rintro e w2 ⟨rfl, b2⟩; replace HB := hidden (grow_trans HB.out b2); clear b2))
        go_ret
        exact ⟨rfl, HB.out⟩
      · rw [if_neg (fun e => q0 e.2)]
        have q1 : ¬ (q : Int) = 0 := by omega
        have q2 : ((q : Int) == 0) = false := by simpa using q1
        have q3 : (h != 0) = true := by simpa using h0
        go_enter Tryz.func61, Tryz.ntmps61
        go_wp2_with (first
          | (go_at_call 23; refine HR.out.mono ?_; rintro e w1 ⟨rfl, b1⟩; have HB := hidden b1; clear b1)
          | (go_at_call 73; refine (HH.out _ HB.out).mono ?_; rintro e w2 ⟨rfl, b2⟩; replace HB := hidden (grow_trans HB.out b2); clear b2))
        go_ret
        exact ⟨rfl, HB.out⟩
  · rw [if_neg r0]
    go_enter Tryz.func61, Tryz.ntmps61
    go_wp2_with (go_at_call 23; refine HR.out.mono ?_; rintro e w1 ⟨rfl, b1⟩; have HB := hidden b1; clear b1)
    go_ret
    exact ⟨rfl, HB.out⟩

def vRf (mk : Bool) (q : Nat) (c : Ce) (h : Int) (n : Nat) : Int := if mk then (if 1024 < n then 4 else vAh mk q c h) else 1

set_option maxHeartbeats 400000 in
theorem refusal_any {w : World} {v : Value} {mk : Bool} {ct : Int → Nat} {ca : Int → Ce} (V : Vw w v mk ct ca) (h : Int) (a : Option Addr) (n c : Nat) : Calls Tryz.prog 38 #[v, .int .i64 h, .slice a n c] w fun e w' => e = .returned (.int .i64 (vRf mk (ct h) (ca h) h n)) ∧ Below w.heap.size w w' := by
  have HR := hidden (root_any V 0)
  have HA : Hid (∀ w', Below w.heap.size w w' → Calls Tryz.prog 61 #[v, .int .i64 h] w' fun e w'' => e = .returned (.int .i64 (vAh mk (ct h) (ca h) h)) ∧ Below w'.heap.size w' w'') := fun w' hb => athand_any (V.grow hb) h
  unfold vRf
  generalize vAh mk (ct h) (ca h) h = r at HA ⊢
  clear V
  cases mk with
  | false =>
    rw [show vRt false (ct 0) (ca 0) 0 = 1 from rfl] at HR
    simp only [Bool.false_eq_true, if_false]
    go_enter Tryz.func38, Tryz.ntmps38
    go_wp2_with (go_at_call 23; refine HR.out.mono ?_; rintro e w1 ⟨rfl, b1⟩; have HB := hidden b1; clear b1)
    go_ret
    exact ⟨rfl, HB.out⟩
  | true =>
    rw [show vRt true (ct 0) (ca 0) 0 = 0 from rfl] at HR
    simp only [if_true]
    by_cases hn : 1024 < n
    · rw [if_pos hn]
      have hn2 : (1024 : Int) < (n : Int) := by omega
      go_enter Tryz.func38, Tryz.ntmps38
      go_wp2_with (go_at_call 23; refine HR.out.mono ?_; rintro e w1 ⟨rfl, b1⟩; have HB := hidden b1; clear b1)
      go_ret
      exact ⟨rfl, HB.out⟩
    · rw [if_neg hn]
      have hn2 : ¬ (1024 : Int) < (n : Int) := by omega
      go_enter Tryz.func38, Tryz.ntmps38
      go_wp2_with (first
        | (go_at_call 23; refine HR.out.mono ?_; rintro e w1 ⟨rfl, b1⟩; have HB := hidden b1; clear b1)
        | (go_at_call 61; refine (HA.out _ HB.out).mono ?_; rintro e w2 ⟨rfl, b2⟩; replace HB := hidden (grow_trans HB.out b2); clear b2))
      go_ret
      exact ⟨rfl, HB.out⟩

set_option maxHeartbeats 400000 in
theorem turned9_any (w : World) (K : List Int) (hK : Key K) (d : Nat) (hd : d < 256) (x y : Int) : Calls Tryz.prog 71 #[.agg (B K), .int .i64 (d : Int), .int .i64 x, .int .i64 y] w fun e w' => e = .returned (.tuple #[.int .i64 (if kb K d = 1 then y else x), .int .i64 (if kb K d = 1 then x else y)]) ∧ Below w.heap.size w w' := by
  have HBT : Hid (∀ w', Calls Tryz.prog 26 #[.agg (B K), .int .i64 (d : Int)] w' fun e w'' => e = .returned (.int .i64 (kb K d)) ∧ Below w'.heap.size w' w'') := fun w' => by
    have := bit_any K (d : Int) w' hK
    rwa [kbi_in K _ hd] at this
  have HPS : Hid ((Tryz.prog.info? 32).map (·.size) = some (B K).size) := by show _ = _; rw [B_size, hK.1]; exact size_path
  have hq := kb_two K d
  generalize kb K d = q at HBT hq ⊢
  clear hK hd
  rcases hq with rfl | rfl
  · rw [if_neg (by omega), if_neg (by omega)]
    go_enter Tryz.func71, Tryz.ntmps71
    go_wp2_with (first
      | ((with_reducible refine at_bxd 4 ?_); refine wpList_bx _ rfl _ _ rfl _ rfl ?_; intro w1 b5 hg5 hl5 B5 q5; have HB5 := hidden B5; have HQ5 := hidden q5; clear hg5 hl5 B5 q5)
      | ((with_reducible refine at_ldd 10 4 ?_); refine wpList_ld _ rfl _ _ rfl b5 _ rfl HB5.out _ _ Tryz.underlying32 HPS.out ?_)
      | (go_at_call 26; refine (HBT.out _).mono ?_; rintro e w2 ⟨rfl, b2⟩; have HQ2 := hidden (grow_trans HQ5.out b2); clear b2))
    go_ret2
    exact ⟨rfl, HQ2.out⟩
  · rw [if_pos rfl, if_pos rfl]
    go_enter Tryz.func71, Tryz.ntmps71
    go_wp2_with (first
      | ((with_reducible refine at_bxd 4 ?_); refine wpList_bx _ rfl _ _ rfl _ rfl ?_; intro w1 b5 hg5 hl5 B5 q5; have HB5 := hidden B5; have HQ5 := hidden q5; clear hg5 hl5 B5 q5)
      | ((with_reducible refine at_ldd 10 4 ?_); refine wpList_ld _ rfl _ _ rfl b5 _ rfl HB5.out _ _ Tryz.underlying32 HPS.out ?_)
      | (go_at_call 26; refine (HBT.out _).mono ?_; rintro e w2 ⟨rfl, b2⟩; have HQ2 := hidden (grow_trans HQ5.out b2); clear b2))
    go_ret2
    exact ⟨rfl, HQ2.out⟩

end Go.Proofs.YtnnmfgnommbmkaaGreatDoor

namespace Go.Proofs.YtnnmfgnommbmkaaGreatDoor
set_option maxRecDepth 20000
open Go.RowKit

def BesPost (ss : List Nat) (w : World) (e : Ending) (w' : World) : Prop :=
  ∃ a c, e = .returned (.slice a ss.length c) ∧ w'.ownsRow w.heap.size 3 1 (.slice a ss.length c) ss.length (nats ss) ∧ Below w.heap.size w w'

set_option maxHeartbeats 2000000 in
theorem beside_none {w : World} {v : Value} (K : List Int) (hK : Key K) (a : Option Addr) (m c : Nat) (os : List Nat) (hlen : os.length = m) (h256 : m ≤ 256) (hat : ∀ k, k < m → ∃ (x o : Nat) (l r q : Int), (∃ lb, a = some ⟨lb, 0, none⟩ ∧ w.cell? ⟨lb, k, none⟩ = some (.int .i64 (x : Int))) ∧ os[k]? = some o ∧ (∀ w', Below w.heap.size w w' → Calls Tryz.prog 25 #[v, .int .i64 (x : Int)] w' fun e w'' => e = .returned (.tuple #[.int .i64 l, .int .i64 r]) ∧ Below w'.heap.size w' w'') ∧ ∀ w', Calls Tryz.prog 71 #[.agg (B K), .int .i64 (k : Int), .int .i64 l, .int .i64 r] w' fun e w'' => e = .returned (.tuple #[.int .i64 q, .int .i64 (o : Int)]) ∧ Below w'.heap.size w' w'') : Calls Tryz.prog 67 #[v, .agg (B K), .slice a m c, .int .i64 0] w (BesPost os w) := by
  have HPost : Hid (∀ a c w', w'.ownsRow w.heap.size 3 1 (.slice a m c) m (nats os) → Below w.heap.size w w' → BesPost os w (.returned (.slice a m c)) w') := fun a c w' h1 h2 => ⟨a, c, by rw [hlen], by rw [hlen]; exact h1, h2⟩
  have HPS : Hid ((Tryz.prog.info? 32).map (·.size) = some (B K).size) := by show _ = _; rw [B_size, hK.1]; exact size_path
  have HPL := hidden (pth_ln K hK.1)
  have HAX : Hid (∀ k, k < m → ∃ (x o : Nat) (l r q : Int), (∃ lb, a = some ⟨lb, 0, none⟩ ∧ w.cell? ⟨lb, k, none⟩ = some (.int .i64 (x : Int))) ∧ os[k]? = some o ∧ (∀ w', Below w.heap.size w w' → Calls Tryz.prog 25 #[v, .int .i64 (x : Int)] w' fun e w'' => e = .returned (.tuple #[.int .i64 l, .int .i64 r]) ∧ Below w'.heap.size w' w'') ∧ ∀ w', Calls Tryz.prog 71 #[.agg (B K), .int .i64 (k : Int), .int .i64 l, .int .i64 r] w' fun e w'' => e = .returned (.tuple #[.int .i64 q, .int .i64 (o : Int)]) ∧ Below w'.heap.size w' w'') := hat
  have HM256 := hidden h256
  have HLEN := hidden hlen
  generalize HE : BesPost os w = P at HPost ⊢
  clear hat hlen h256 hK
  go_enter Tryz.func67, Tryz.ntmps67
  go_wp2_with (first
    | ((with_reducible refine at_bxd 5 ?_); refine wpList_bx _ rfl _ _ rfl _ rfl ?_; intro w1 b5 hg5 hl5 B5 q5; have HB5 := hidden B5; have HQ5 := hidden q5; clear hg5 hl5 B5 q5))
  go_loopw [9, 19] (fun sv iv wr => ∃ (k : Nat) (sa : Option Addr) (sc : Nat), k ≤ m ∧ sv = .slice sa k sc ∧ iv = .int .i64 (k : Int) ∧ Hid (wr.ownsRow w1.heap.size 3 1 (.slice sa k sc) k (nats (os.take k))) ∧ Hid (Below w1.heap.size w1 wr)) (fun _ iv _ => m - (intOf iv).toNat)
  case atStart => exact ⟨0, none, 0, by omega, rfl, rfl, World.ownsRow_nil _ _ _ _, Below.refl _ _⟩
  case round =>
    obtain ⟨k, sa, sc, hk, rfl, rfl, hO, hB⟩ := hrel
    by_cases hlt : k < m
    · obtain ⟨x, o, l, r, q, hcx, ho, hsd, htn⟩ := HAX.out k hlt
      obtain ⟨lb, rfl, hcl0⟩ := hcx
      have hcl := below_cell (grow_trans HQ5.out hB.out) hcl0
      have HSD := hidden hsd
      have HTN := hidden htn
      have HTK : Hid (os.take (k + 1) = os.take k ++ [o]) := by
        show _ = _
        rw [List.take_add_one, ho]
        rfl
      generalize os.take k = pre at hO HTK
      obtain ⟨oy, hoy⟩ : ∃ y : Int, y = (o : Int) := ⟨_, rfl⟩
      rw [← hoy] at HTN
      have HOY := hidden hoy
      have HK256 : Hid (k + 1 ≤ 256) := by have := HM256.out; show _ ≤ _; omega
      have k0 : (0 : Int) ≤ (k : Int) := by omega
      have k1 : (k : Int) < (m : Int) := by omega
      have hk256 : k < 256 := by have := HM256.out; omega
      have hwk : wrap64 ((k : Int) + 1) = ((k + 1 : Nat) : Int) := by rw [Go.IntWalk.wrap64_in _ (by omega)]; rfl
      generalize (x : Int) = xy at hcl HSD
      clear hsd htn hcl0 ho hoy hk HPost
      go_wp2_with (first
        | (go_at_call 25; refine (HSD.out _ (grow_trans HQ5.out hB.out)).mono ?_; rintro e w3 ⟨rfl, b3⟩; have HBW3 := hidden (grow_trans hB.out b3); have HOO3 := hidden (owR_grow hO.out b3); clear b3)
        | ((with_reducible refine at_ldd 31 5 ?_); refine wpList_ld _ rfl _ _ rfl b5 _ rfl (HB5.out.grow HBW3.out) _ _ Tryz.underlying32 HPS.out ?_)
        | (go_at_call 71; refine (HTN.out _).mono ?_; rintro e w4 ⟨rfl, b4⟩; have HBW4 := hidden (grow_trans HBW3.out b4); have HOO4 := hidden (owR_grow (owR_grow HOO3.out b4) (grow_alloc w4 (.cells #[.int .i64 oy] 3))); clear b4)
        | (at_builtin; refine wpList_appB _ rfl _ _ _ rfl w1.heap.size 3 1 8 Tryz.underlying86 info_nat (by omega) _ k (nats pre) rfl HOO4.out w4.heap.size [Value.int .i64 oy] rfl (Blk.new _ _ _) rfl (by intro u hu; simp at hu; subst hu; rfl) (by have := HK256.out; simp only [maxLen]; omega) (by have := HK256.out; omega) (Nat.le_trans HBW4.out.size (by simp)) ?_; intro a6 c6 w6 o6 g6; have HO6 := hidden o6; have HB6 := hidden (owR_below (grow_trans HBW4.out (grow_alloc w4 (.cells #[.int .i64 oy] 3))) HOO4.out (Nat.le_refl _) g6); clear o6 g6))
      have ho6 := HO6.out
      rw [HOY.out, ← nats_snoc, ← HTK.out] at ho6
      exact ⟨⟨k + 1, a6, c6, by omega, rfl, by go_num, ho6, HB6.out⟩, by simp [intOf]; exact mea_step k1⟩
    · obtain rfl : k = m := by omega
      have htk : os.take k = os := List.take_of_length_le (by rw [HLEN.out]; exact Nat.le_refl _)
      rw [htk] at hO
      have nlt : ¬ (k : Int) < (k : Int) := by omega
      clear htk hlt hk HAX
      go_wp2_with fail
      refine wp_region_held_drew (S := fun w' => Below wr.heap.size wr w') (by kernel_rfl) ((below_drewN (Below.refl _ _) 1)) (fun hHeld => ?_)
      refine tkp 0 (.int .i64 0) hHeld ?_
      simp only [Act.put, zq1, zq2, zq4, zq5, zq6]
      refine tkp 1 (.bool true) hHeld ?_
      simp only [Act.put, zq1, zq2, zq3, zq4, zq5, zq6]
      refine tkp 2 (.bool true) hHeld ?_
      simp only [Act.put, zq1, zq2, zq3, zq4, zq5, zq6]
      refine tks 3 hHeld ?_
      simp only [Act.put, zq1, zq2, zq3, zq4, zq5, zq6]
      refine tks 4 hHeld ?_
      simp only [Act.put, zq1, zq2, zq3, zq4, zq5, zq6]
      refine tks 5 hHeld ?_
      simp only [Act.put, zq1, zq2, zq3, zq4, zq5, zq6]
      refine tks 6 hHeld ?_
      simp only [Act.put, zq1, zq2, zq3, zq4, zq5, zq6]
      refine tks 7 hHeld ?_
      simp only [Act.put, zq1, zq2, zq3, zq4, zq5, zq6]
      refine tkp 8 (.bool true) hHeld ?_
      simp only [Act.put, zq1, zq2, zq3, zq4, zq5, zq6]
      refine wpAnyH_done (by kernel_rfl) ?_ _
      have HH := hidden hHeld
      clear hHeld
      go_wp2
      exact HPost.out _ _ _ (owR_grow (owR_base hO.out HQ5.out.size) HH.out) (grow_trans (grow_trans HQ5.out hB.out) HH.out)

set_option maxHeartbeats 2000000 in
theorem beside_own {w : World} {v : Value} (K : List Int) (hK : Key K) (a : Option Addr) (m c : Nat) (os : List Nat) (hlen : os.length = m) (h256 : m ≤ 256) (hat : ∀ k, k < m → ∃ (x o : Nat) (l r q : Int), (∃ lb, a = some ⟨lb, 0, none⟩ ∧ w.cell? ⟨lb, k, none⟩ = some (.int .i64 (x : Int))) ∧ os[k]? = some o ∧ (∀ w', Below w.heap.size w w' → Calls Tryz.prog 25 #[v, .int .i64 (x : Int)] w' fun e w'' => e = .returned (.tuple #[.int .i64 l, .int .i64 r]) ∧ Below w'.heap.size w' w'') ∧ ∀ w', Calls Tryz.prog 71 #[.agg (B K), .int .i64 (k : Int), .int .i64 l, .int .i64 r] w' fun e w'' => e = .returned (.tuple #[.int .i64 q, .int .i64 (o : Int)]) ∧ Below w'.heap.size w' w'') (y : Int) (hy : ¬ y = 0) (HKY0 : ∀ w', Below w.heap.size w w' → Calls Tryz.prog 29 #[v, .int .i64 y] w' fun e w'' => e = .returned (.agg (B K)) ∧ Below w'.heap.size w' w'') : Calls Tryz.prog 67 #[v, .agg (B K), .slice a m c, .int .i64 y] w (BesPost os w) := by
  have HPost : Hid (∀ a c w', w'.ownsRow w.heap.size 3 1 (.slice a m c) m (nats os) → Below w.heap.size w w' → BesPost os w (.returned (.slice a m c)) w') := fun a c w' h1 h2 => ⟨a, c, by rw [hlen], by rw [hlen]; exact h1, h2⟩
  have HKY := hidden HKY0
  have hE := path_eq K K hK.1 hK.1
  simp only [decide_true] at hE
  clear HKY0
  have HPS : Hid ((Tryz.prog.info? 32).map (·.size) = some (B K).size) := by show _ = _; rw [B_size, hK.1]; exact size_path
  have HPL := hidden (pth_ln K hK.1)
  have HAX : Hid (∀ k, k < m → ∃ (x o : Nat) (l r q : Int), (∃ lb, a = some ⟨lb, 0, none⟩ ∧ w.cell? ⟨lb, k, none⟩ = some (.int .i64 (x : Int))) ∧ os[k]? = some o ∧ (∀ w', Below w.heap.size w w' → Calls Tryz.prog 25 #[v, .int .i64 (x : Int)] w' fun e w'' => e = .returned (.tuple #[.int .i64 l, .int .i64 r]) ∧ Below w'.heap.size w' w'') ∧ ∀ w', Calls Tryz.prog 71 #[.agg (B K), .int .i64 (k : Int), .int .i64 l, .int .i64 r] w' fun e w'' => e = .returned (.tuple #[.int .i64 q, .int .i64 (o : Int)]) ∧ Below w'.heap.size w' w'') := hat
  have HM256 := hidden h256
  have HLEN := hidden hlen
  generalize HE : BesPost os w = P at HPost ⊢
  clear hat hlen h256 hK
  go_enter Tryz.func67, Tryz.ntmps67
  go_wp2_with (first
    | ((with_reducible refine at_bxd 5 ?_); refine wpList_bx _ rfl _ _ rfl _ rfl ?_; intro w1 b5 hg5 hl5 B5 q5; have HB5 := hidden B5; have HQ5 := hidden q5; clear hg5 hl5 B5 q5))
  go_loopw [9, 19] (fun sv iv wr => ∃ (k : Nat) (sa : Option Addr) (sc : Nat), k ≤ m ∧ sv = .slice sa k sc ∧ iv = .int .i64 (k : Int) ∧ Hid (wr.ownsRow w1.heap.size 3 1 (.slice sa k sc) k (nats (os.take k))) ∧ Hid (Below w1.heap.size w1 wr)) (fun _ iv _ => m - (intOf iv).toNat)
  case atStart => exact ⟨0, none, 0, by omega, rfl, rfl, World.ownsRow_nil _ _ _ _, Below.refl _ _⟩
  case round =>
    obtain ⟨k, sa, sc, hk, rfl, rfl, hO, hB⟩ := hrel
    by_cases hlt : k < m
    · obtain ⟨x, o, l, r, q, hcx, ho, hsd, htn⟩ := HAX.out k hlt
      obtain ⟨lb, rfl, hcl0⟩ := hcx
      have hcl := below_cell (grow_trans HQ5.out hB.out) hcl0
      have HSD := hidden hsd
      have HTN := hidden htn
      have HTK : Hid (os.take (k + 1) = os.take k ++ [o]) := by
        show _ = _
        rw [List.take_add_one, ho]
        rfl
      generalize os.take k = pre at hO HTK
      obtain ⟨oy, hoy⟩ : ∃ y : Int, y = (o : Int) := ⟨_, rfl⟩
      rw [← hoy] at HTN
      have HOY := hidden hoy
      have HK256 : Hid (k + 1 ≤ 256) := by have := HM256.out; show _ ≤ _; omega
      have k0 : (0 : Int) ≤ (k : Int) := by omega
      have k1 : (k : Int) < (m : Int) := by omega
      have hk256 : k < 256 := by have := HM256.out; omega
      have hwk : wrap64 ((k : Int) + 1) = ((k + 1 : Nat) : Int) := by rw [Go.IntWalk.wrap64_in _ (by omega)]; rfl
      generalize (x : Int) = xy at hcl HSD
      clear hsd htn hcl0 ho hoy hk HPost
      go_wp2_with (first
        | (go_at_call 25; refine (HSD.out _ (grow_trans HQ5.out hB.out)).mono ?_; rintro e w3 ⟨rfl, b3⟩; have HBW3 := hidden (grow_trans hB.out b3); have HOO3 := hidden (owR_grow hO.out b3); clear b3)
        | ((with_reducible refine at_ldd 31 5 ?_); refine wpList_ld _ rfl _ _ rfl b5 _ rfl (HB5.out.grow HBW3.out) _ _ Tryz.underlying32 HPS.out ?_)
        | (go_at_call 71; refine (HTN.out _).mono ?_; rintro e w4 ⟨rfl, b4⟩; have HBW4 := hidden (grow_trans HBW3.out b4); have HOO4 := hidden (owR_grow (owR_grow HOO3.out b4) (grow_alloc w4 (.cells #[.int .i64 oy] 3))); clear b4)
        | (at_builtin; refine wpList_appB _ rfl _ _ _ rfl w1.heap.size 3 1 8 Tryz.underlying86 info_nat (by omega) _ k (nats pre) rfl HOO4.out w4.heap.size [Value.int .i64 oy] rfl (Blk.new _ _ _) rfl (by intro u hu; simp at hu; subst hu; rfl) (by have := HK256.out; simp only [maxLen]; omega) (by have := HK256.out; omega) (Nat.le_trans HBW4.out.size (by simp)) ?_; intro a6 c6 w6 o6 g6; have HO6 := hidden o6; have HB6 := hidden (owR_below (grow_trans HBW4.out (grow_alloc w4 (.cells #[.int .i64 oy] 3))) HOO4.out (Nat.le_refl _) g6); clear o6 g6))
      have ho6 := HO6.out
      rw [HOY.out, ← nats_snoc, ← HTK.out] at ho6
      exact ⟨⟨k + 1, a6, c6, by omega, rfl, by go_num, ho6, HB6.out⟩, by simp [intOf]; exact mea_step k1⟩
    · obtain rfl : k = m := by omega
      have htk : os.take k = os := List.take_of_length_le (by rw [HLEN.out]; exact Nat.le_refl _)
      rw [htk] at hO
      have nlt : ¬ (k : Int) < (k : Int) := by omega
      clear htk hlt hk HAX
      go_wp2_with fail
      refine wp_region_held_drew (S := fun w' => Below wr.heap.size wr w') (by kernel_rfl) ((below_drewN (Below.refl _ _) 1)) (fun hHeld => ?_)
      refine tkp 0 (.int .i64 y) hHeld ?_
      simp only [Act.put, zq1, zq2, zq4, zq5, zq6]
      refine tkp 1 (.bool false) hHeld ?_
      simp only [Act.put, zq1, zq2, zq3, zq4, zq5, zq6]
      refine tkp 2 (.bool false) hHeld ?_
      simp only [Act.put, zq1, zq2, zq3, zq4, zq5, zq6]
      refine tkp 3 v hHeld ?_
      simp only [Act.put, zq1, zq2, zq3, zq4, zq5, zq6]
      refine tkp 4 (.int .i64 y) hHeld ?_
      simp only [Act.put, zq1, zq2, zq3, zq4, zq5, zq6]
      refine tkg 6 (.agg (B K)) rfl (yieldsIf_load_mid rfl 32 (.tmp 5) rfl b5 0 rfl (B K).toList _ (fun w hS => ((HB5.out.grow hB.out).grow hS).range) Tryz.underlying32 rfl HPL.out) hHeld ?_
      simp only [Act.put, zq1, zq2, zq3, zq4, zq5, zq6]
      refine wpAnyH_ready (rs := [5]) (by kernel_rfl) (by simp) ?_
      refine AllReadyH.cons rfl (fun KQ hK => ?_) AllReadyH.nil
      go_simp
      refine (HKY.out _ (grow_trans (grow_trans HQ5.out hB.out) hHeld)).mono ?_
      rintro e z2 ⟨rfl, a2⟩
      refine hK.out _ _ (grow_trans hHeld a2) (fun hHeld => ?_)
      clear hK KQ
      refine tkp 7 (.bool true) hHeld ?_
      simp only [Act.put, zq1, zq2, zq3, zq4, zq5, zq6]
      refine tkp 8 (.bool true) hHeld ?_
      simp only [Act.put, zq1, zq2, zq3, zq4, zq5, zq6]
      refine wpAnyH_done (by kernel_rfl) ?_ _
      have HH := hidden hHeld
      clear hHeld
      go_wp2
      exact HPost.out _ _ _ (owR_grow (owR_base hO.out HQ5.out.size) HH.out) (grow_trans (grow_trans HQ5.out hB.out) HH.out)

theorem rep_snoc (os : List Nat) (j : Nat) : (os ++ List.replicate j 0) ++ [0] = os ++ List.replicate (j + 1) 0 := by
  rw [List.append_assoc, List.replicate_succ']

set_option maxHeartbeats 4000000 in
theorem beside_other {w : World} {v : Value} (K : List Int) (hK : Key K) (a : Option Addr) (m c : Nat) (os : List Nat) (hlen : os.length = m) (h256 : m ≤ 256) (hat : ∀ k, k < m → ∃ (x o : Nat) (l r q : Int), (∃ lb, a = some ⟨lb, 0, none⟩ ∧ w.cell? ⟨lb, k, none⟩ = some (.int .i64 (x : Int))) ∧ os[k]? = some o ∧ (∀ w', Below w.heap.size w w' → Calls Tryz.prog 25 #[v, .int .i64 (x : Int)] w' fun e w'' => e = .returned (.tuple #[.int .i64 l, .int .i64 r]) ∧ Below w'.heap.size w' w'') ∧ ∀ w', Calls Tryz.prog 71 #[.agg (B K), .int .i64 (k : Int), .int .i64 l, .int .i64 r] w' fun e w'' => e = .returned (.tuple #[.int .i64 q, .int .i64 (o : Int)]) ∧ Below w'.heap.size w' w'') (y : Nat) (hy : ¬ (y : Int) = 0) (k' : List Int) (hk' : Key k') (hne : k' ≠ K) (HKY0 : ∀ w', Below w.heap.size w w' → Calls Tryz.prog 29 #[v, .int .i64 (y : Int)] w' fun e w'' => e = .returned (.agg (B k')) ∧ Below w'.heap.size w' w'') (cm : Nat) (hcm : IsCommon K k' cm) (hcm1 : m ≤ cm) (hcm2 : cm < 256) : Calls Tryz.prog 67 #[v, .agg (B K), .slice a m c, .int .i64 (y : Int)] w (BesPost (besX os cm y) w) := by
  have hbl := besX_len os cm y (by rw [hlen]; exact hcm1)
  have HPost : Hid (∀ a c w', w'.ownsRow w.heap.size 3 1 (.slice a (cm + 1) c) (cm + 1) (nats (os ++ List.replicate (cm - m) 0 ++ [y])) → Below w.heap.size w w' → BesPost (besX os cm y) w (.returned (.slice a (cm + 1) c)) w') := fun a c w' h1 h2 => ⟨a, c, by rw [hbl], by
    rw [hbl]
    rw [← hlen, List.append_assoc] at h1
    exact h1, h2⟩
  have HKY := hidden HKY0
  have HCM : Hid (∀ w', Calls Tryz.prog 86 #[.agg (B K), .agg (B k')] w' fun e w'' => e = .returned (.int .i64 (cm : Int)) ∧ Below w'.heap.size w' w'') := fun w' => common_at K k' cm w' hK hk' hcm
  have hE := path_eq k' K hk'.1 hK.1
  simp only [hne, decide_false] at hE
  obtain ⟨z, hz⟩ : ∃ z : Int, z = (y : Int) := ⟨_, rfl⟩
  rw [← hz] at hy HKY ⊢
  have HYN := hidden hz
  clear HKY0 hk' hne hcm hbl hz
  have HPS : Hid ((Tryz.prog.info? 32).map (·.size) = some (B K).size) := by show _ = _; rw [B_size, hK.1]; exact size_path
  have HPL := hidden (pth_ln K hK.1)
  have HAX : Hid (∀ k, k < m → ∃ (x o : Nat) (l r q : Int), (∃ lb, a = some ⟨lb, 0, none⟩ ∧ w.cell? ⟨lb, k, none⟩ = some (.int .i64 (x : Int))) ∧ os[k]? = some o ∧ (∀ w', Below w.heap.size w w' → Calls Tryz.prog 25 #[v, .int .i64 (x : Int)] w' fun e w'' => e = .returned (.tuple #[.int .i64 l, .int .i64 r]) ∧ Below w'.heap.size w' w'') ∧ ∀ w', Calls Tryz.prog 71 #[.agg (B K), .int .i64 (k : Int), .int .i64 l, .int .i64 r] w' fun e w'' => e = .returned (.tuple #[.int .i64 q, .int .i64 (o : Int)]) ∧ Below w'.heap.size w' w'') := hat
  have HM256 := hidden h256
  have HLEN := hidden hlen
  generalize HE : BesPost (besX os cm y) w = P at HPost ⊢
  clear hat hlen h256 hK
  go_enter Tryz.func67, Tryz.ntmps67
  go_wp2_with (first
    | ((with_reducible refine at_bxd 5 ?_); refine wpList_bx _ rfl _ _ rfl _ rfl ?_; intro w1 b5 hg5 hl5 B5 q5; have HB5 := hidden B5; have HQ5 := hidden q5; clear hg5 hl5 B5 q5))
  go_loopw [9, 19] (fun sv iv wr => ∃ (k : Nat) (sa : Option Addr) (sc : Nat), k ≤ m ∧ sv = .slice sa k sc ∧ iv = .int .i64 (k : Int) ∧ Hid (wr.ownsRow w1.heap.size 3 1 (.slice sa k sc) k (nats (os.take k))) ∧ Hid (Below w1.heap.size w1 wr)) (fun _ iv _ => m - (intOf iv).toNat)
  case atStart => exact ⟨0, none, 0, by omega, rfl, rfl, World.ownsRow_nil _ _ _ _, Below.refl _ _⟩
  case round =>
    obtain ⟨k, sa, sc, hk, rfl, rfl, hO, hB⟩ := hrel
    by_cases hlt : k < m
    · obtain ⟨x, o, l, r, q, hcx, ho, hsd, htn⟩ := HAX.out k hlt
      obtain ⟨lb, rfl, hcl0⟩ := hcx
      have hcl := below_cell (grow_trans HQ5.out hB.out) hcl0
      have HSD := hidden hsd
      have HTN := hidden htn
      have HTK : Hid (os.take (k + 1) = os.take k ++ [o]) := by
        show _ = _
        rw [List.take_add_one, ho]
        rfl
      generalize os.take k = pre at hO HTK
      obtain ⟨oy, hoy⟩ : ∃ y : Int, y = (o : Int) := ⟨_, rfl⟩
      rw [← hoy] at HTN
      have HOY := hidden hoy
      have HK256 : Hid (k + 1 ≤ 256) := by have := HM256.out; show _ ≤ _; omega
      have k0 : (0 : Int) ≤ (k : Int) := by omega
      have k1 : (k : Int) < (m : Int) := by omega
      have hk256 : k < 256 := by have := HM256.out; omega
      have hwk : wrap64 ((k : Int) + 1) = ((k + 1 : Nat) : Int) := by rw [Go.IntWalk.wrap64_in _ (by omega)]; rfl
      generalize (x : Int) = xy at hcl HSD
      clear hsd htn hcl0 ho hoy hk HPost
      go_wp2_with (first
        | (go_at_call 25; refine (HSD.out _ (grow_trans HQ5.out hB.out)).mono ?_; rintro e w3 ⟨rfl, b3⟩; have HBW3 := hidden (grow_trans hB.out b3); have HOO3 := hidden (owR_grow hO.out b3); clear b3)
        | ((with_reducible refine at_ldd 31 5 ?_); refine wpList_ld _ rfl _ _ rfl b5 _ rfl (HB5.out.grow HBW3.out) _ _ Tryz.underlying32 HPS.out ?_)
        | (go_at_call 71; refine (HTN.out _).mono ?_; rintro e w4 ⟨rfl, b4⟩; have HBW4 := hidden (grow_trans HBW3.out b4); have HOO4 := hidden (owR_grow (owR_grow HOO3.out b4) (grow_alloc w4 (.cells #[.int .i64 oy] 3))); clear b4)
        | (at_builtin; refine wpList_appB _ rfl _ _ _ rfl w1.heap.size 3 1 8 Tryz.underlying86 info_nat (by omega) _ k (nats pre) rfl HOO4.out w4.heap.size [Value.int .i64 oy] rfl (Blk.new _ _ _) rfl (by intro u hu; simp at hu; subst hu; rfl) (by have := HK256.out; simp only [maxLen]; omega) (by have := HK256.out; omega) (Nat.le_trans HBW4.out.size (by simp)) ?_; intro a6 c6 w6 o6 g6; have HO6 := hidden o6; have HB6 := hidden (owR_below (grow_trans HBW4.out (grow_alloc w4 (.cells #[.int .i64 oy] 3))) HOO4.out (Nat.le_refl _) g6); clear o6 g6))
      have ho6 := HO6.out
      rw [HOY.out, ← nats_snoc, ← HTK.out] at ho6
      exact ⟨⟨k + 1, a6, c6, by omega, rfl, by go_num, ho6, HB6.out⟩, by simp [intOf]; exact mea_step k1⟩
    · obtain rfl : k = m := by omega
      have htk : os.take k = os := List.take_of_length_le (by rw [HLEN.out]; exact Nat.le_refl _)
      rw [htk] at hO
      have nlt : ¬ (k : Int) < (k : Int) := by omega
      clear htk hlt hk HAX
      go_wp2_with fail
      refine wp_region_held_drew (S := fun w' => Below wr.heap.size wr w') (by kernel_rfl) ((below_drewN (Below.refl _ _) 1)) (fun hHeld => ?_)
      refine tkp 0 (.int .i64 z) hHeld ?_
      simp only [Act.put, zq1, zq2, zq4, zq5, zq6]
      refine tkp 1 (.bool false) hHeld ?_
      simp only [Act.put, zq1, zq2, zq3, zq4, zq5, zq6]
      refine tkp 2 (.bool false) hHeld ?_
      simp only [Act.put, zq1, zq2, zq3, zq4, zq5, zq6]
      refine tkp 3 v hHeld ?_
      simp only [Act.put, zq1, zq2, zq3, zq4, zq5, zq6]
      refine tkp 4 (.int .i64 z) hHeld ?_
      simp only [Act.put, zq1, zq2, zq3, zq4, zq5, zq6]
      refine tkg 6 (.agg (B K)) rfl (yieldsIf_load_mid rfl 32 (.tmp 5) rfl b5 0 rfl (B K).toList _ (fun w hS => ((HB5.out.grow hB.out).grow hS).range) Tryz.underlying32 rfl HPL.out) hHeld ?_
      simp only [Act.put, zq1, zq2, zq3, zq4, zq5, zq6]
      refine wpAnyH_ready (rs := [5]) (by kernel_rfl) (by simp) ?_
      refine AllReadyH.cons rfl (fun KQ hK => ?_) AllReadyH.nil
      go_simp
      refine (HKY.out _ (grow_trans (grow_trans HQ5.out hB.out) hHeld)).mono ?_
      rintro e z2 ⟨rfl, a2⟩
      refine hK.out _ _ (grow_trans hHeld a2) (fun hHeld => ?_)
      clear hK KQ
      refine tkp 7 (.bool false) hHeld ?_
      simp only [Act.put, zq1, zq2, zq3, zq4, zq5, zq6]
      refine tkp 8 (.bool false) hHeld ?_
      simp only [Act.put, zq1, zq2, zq3, zq4, zq5, zq6]
      refine wpAnyH_done (by kernel_rfl) ?_ _
      have HZ0 := hidden (grow_trans hB.out hHeld)
      have HO0 := hidden (owR_grow hO.out hHeld)
      clear hHeld hO hB
      go_wp2_with fail
      refine wp_region_held_drew (S := fun w' => Below z2.heap.size z2 w') (by kernel_rfl) ((below_drewN (Below.refl _ _) 1)) (fun hHeld => ?_)
      refine tkg 0 (.agg (B K)) rfl (yieldsIf_load_mid rfl 32 (.tmp 5) rfl b5 0 rfl (B K).toList _ (fun w hS => ((HB5.out.grow HZ0.out).grow hS).range) Tryz.underlying32 rfl HPL.out) hHeld ?_
      simp only [Act.put, zq1, zq2, zq4, zq5, zq6]
      refine tkp 1 v hHeld ?_
      simp only [Act.put, zq1, zq2, zq3, zq4, zq5, zq6]
      refine tkp 2 (.int .i64 z) hHeld ?_
      simp only [Act.put, zq1, zq2, zq3, zq4, zq5, zq6]
      refine wpAnyH_ready (rs := [3]) (by kernel_rfl) (by simp) ?_
      refine AllReadyH.cons rfl (fun KQ hK => ?_) AllReadyH.nil
      go_simp
      refine (HKY.out _ (grow_trans (grow_trans HQ5.out HZ0.out) hHeld)).mono ?_
      rintro e z4 ⟨rfl, a4⟩
      refine hK.out _ _ (grow_trans hHeld a4) (fun hHeld => ?_)
      clear hK KQ
      refine wpAnyH_ready (rs := [4]) (by kernel_rfl) (by simp) ?_
      refine AllReadyH.cons rfl (fun KQ hK => ?_) AllReadyH.nil
      go_simp
      refine (HCM.out _).mono ?_
      rintro e z5 ⟨rfl, a5⟩
      refine hK.out _ _ (grow_trans hHeld a5) (fun hHeld => ?_)
      clear hK KQ
      refine tkp 5 (.int .i64 (cm : Int)) hHeld ?_
      simp only [Act.put, zq1, zq2, zq3, zq4, zq5, zq6]
      refine wpAnyH_done (by kernel_rfl) ?_ _
      have HZ1 := hidden (grow_trans HZ0.out hHeld)
      have HO1 := hidden (owR_grow HO0.out hHeld)
      clear hHeld HZ0 HO0 HKY HCM HPL HPS
      have H1 := hidden hcm1
      have H2 := hidden hcm2
      clear hcm1 hcm2
      go_wp2_with fail
      go_loopw [9] (fun sv wr => ∃ (j : Nat) (sa : Option Addr) (sc : Nat), j ≤ 256 ∧ sv = .slice sa j sc ∧ Hid (k ≤ j ∧ j ≤ cm) ∧ Hid (wr.ownsRow w1.heap.size 3 1 (.slice sa j sc) j (nats (os ++ List.replicate (j - k) 0))) ∧ Hid (Below w1.heap.size w1 wr)) (fun sv _ => cm - sLen sv)
      case atStart => exact ⟨k, sa, sc, by have := HM256.out; exact this, rfl, ⟨Nat.le_refl _, H1.out⟩, by have := HO1.out; rw [Nat.sub_self, List.replicate_zero, List.append_nil]; exact this, HZ1.out⟩
      case round =>
        clear HO1 HZ1
        obtain ⟨j, ja, jc, hj, rfl, hJ, HOJ, HBJ⟩ := hrel
        by_cases hlt : j < cm
        · have HJ256 : Hid (j + 1 ≤ 256) := by have := H2.out; show _ ≤ _; omega
          have j1 : (j : Int) < (cm : Int) := by omega
          have HOA := hidden (owR_grow HOJ.out (grow_alloc wr (.cells #[.int .i64 0] 3)))
          go_wp2_with (first
            | (at_builtin; refine wpList_appB _ rfl _ _ _ rfl w1.heap.size 3 1 8 Tryz.underlying86 info_nat (by omega) _ j (nats (os ++ List.replicate (j - k) 0)) rfl HOA.out wr.heap.size [Value.int .i64 0] rfl (Blk.new _ _ _) rfl (by intro u hu; simp at hu; subst hu; rfl) (by have := HJ256.out; simp only [maxLen]; omega) (by have := HJ256.out; omega) (Nat.le_trans HBJ.out.size (by simp)) ?_; intro a6 c6 w6 o6 g6; have HO6 := hidden o6; have HB6 := hidden (owR_below (grow_trans HBJ.out (grow_alloc wr (.cells #[.int .i64 0] 3))) HOA.out (Nat.le_refl _) g6); clear o6 g6))
          have ho6 := HO6.out
          have e6 : nats (os ++ List.replicate (j - k) 0) ++ [Value.int .i64 0] = nats (os ++ List.replicate (j + 1 - k) 0) := by
            rw [show j + 1 - k = (j - k) + 1 by have := hJ.out.1; omega, ← rep_snoc, nats_snoc]
            rfl
          rw [e6] at ho6
          exact ⟨⟨j + 1, a6, c6, by have := HJ256.out; exact this, rfl, ⟨by have := hJ.out.1; omega, by omega⟩, ho6, HB6.out⟩, by simp only [sLen]; omega⟩
        · obtain rfl : j = cm := by have := hJ.out.2; omega
          have nlt : ¬ (j : Int) < (j : Int) := by omega
          have HJ256 : Hid (j + 1 ≤ 256) := by have := H2.out; show _ ≤ _; omega
          have HOA := hidden (owR_grow HOJ.out (grow_alloc wr (.cells #[.int .i64 z] 3)))
          go_wp2_with (first
            | (at_builtin; refine wpList_appB _ rfl _ _ _ rfl w1.heap.size 3 1 8 Tryz.underlying86 info_nat (by omega) _ j (nats (os ++ List.replicate (j - k) 0)) rfl HOA.out wr.heap.size [Value.int .i64 z] rfl (Blk.new _ _ _) rfl (by intro u hu; simp at hu; subst hu; rfl) (by have := HJ256.out; simp only [maxLen]; omega) (by have := HJ256.out; omega) (Nat.le_trans HBJ.out.size (by simp)) ?_; intro a6 c6 w6 o6 g6; have HO6 := hidden o6; have HB6 := hidden (owR_below (grow_trans HBJ.out (grow_alloc wr (.cells #[.int .i64 z] 3))) HOA.out (Nat.le_refl _) g6); clear o6 g6))
          have ho6 := HO6.out
          rw [HYN.out, ← nats_snoc] at ho6
          exact HPost.out _ _ _ (owR_base ho6 HQ5.out.size) (grow_trans HQ5.out HB6.out)

def Ints9 (w : World) (a : Option Addr) (l : List Nat) : Prop := ∀ k, k < l.length → ∃ g, a = some ⟨g, 0, none⟩ ∧ w.cell? ⟨g, k, none⟩ = some (.int .i64 (l.getD k 0 : Int))
theorem Ints9.grow {w w' : World} {a : Option Addr} {l : List Nat} (h : Ints9 w a l) (hb : Below w.heap.size w w') : Ints9 w' a l := fun k hk => by
  obtain ⟨g, h1, h2⟩ := h k hk
  exact ⟨g, h1, below_cell hb h2⟩
theorem ints9_lst {w : World} {a : Option Addr} {n c : Nat} {l : List Nat} (h : Lst w 3 1 (.slice a n c) n (nats l)) (hn : n = l.length) : Ints9 w a l := fun k hk => by
  obtain ⟨g, c', e, _⟩ := lst_pos h (by omega)
  injection e with e1 e2 e3
  subst e1
  refine ⟨g, rfl, ?_⟩
  rw [lst_cell h k (by omega), nats_get l k hk]
theorem ints9_kq {S : List Nat} {w : World} {base : Nat} {a : Option Addr} {n c : Nat} {l : List Nat} (h : w.ownsRow base 3 1 (.slice a n c) n (nats l)) (hn : n = l.length) (hS : ∀ g, (Value.slice a n c).ownBlock = some g → g ∉ S) : Kq S w (fun w' => Ints9 w' a l) := fun _ m => ints9_lst (owR_lst (owR_mod h m hS)) hn

set_option maxHeartbeats 2000000 in
theorem countable_any {w : World} {v : Value} {ct : Int → Nat} {ca : Int → Ce} (V : Vw w v true ct ca) (hct : ∀ q, ct q < 1073741824) (a1 a2 : Option Addr) (n1 n2 c1 c2 : Nat) (l1 l2 : List Nat) (h1 : Ints9 w a1 l1) (h2 : Ints9 w a2 l2) (e1 : n1 = l1.length) (e2 : n2 = l2.length) (m1 : n1 ≤ 256) (m2 : n2 ≤ 257) : Calls Tryz.prog 68 #[v, .slice a1 n1 c1, .slice a2 n2 c2] w fun e w' => e = .returned (.bool true) ∧ Below w.heap.size w w' := by
  have HCT : Hid (∀ w' (q : Int), Below w.heap.size w w' → ∃ n : Int, n < 1073741824 ∧ Calls Tryz.prog 79 #[v, .int .i64 q] w' fun e w'' => e = .returned (.int .i64 n) ∧ w'' = w') := fun w' q hb => ⟨(ct q : Int), by have := hct q; omega, V.count w' q hb⟩
  have H1 : Hid (∀ w' k, Below w.heap.size w w' → k < n1 → ∃ g, a1 = some ⟨g, 0, none⟩ ∧ ∃ x : Int, w'.cell? ⟨g, k, none⟩ = some (.int .i64 x)) := fun w' k hb hk => by
    obtain ⟨g, q1, q2⟩ := h1.grow hb k (by omega)
    exact ⟨g, q1, _, q2⟩
  have H2 : Hid (∀ w' k, Below w.heap.size w w' → k < n2 → ∃ g, a2 = some ⟨g, 0, none⟩ ∧ ∃ x : Int, w'.cell? ⟨g, k, none⟩ = some (.int .i64 x)) := fun w' k hb hk => by
    obtain ⟨g, q1, q2⟩ := h2.grow hb k (by omega)
    exact ⟨g, q1, _, q2⟩
  have HM1 := hidden m1
  have HM2 := hidden m2
  clear V hct h1 h2 e1 e2 m1 m2
  go_enter Tryz.func68, Tryz.ntmps68
  go_wp2_with fail
  go_loopw [7, 12] (fun sv iv wr => ∃ (k : Nat) (b : Bool), k ≤ n2 ∧ sv = .bool b ∧ iv = .int .i64 (k : Int) ∧ Hid (Below w.heap.size w wr)) (fun _ iv _ => n2 - (intOf iv).toNat)
  case atStart => exact ⟨0, false, by omega, rfl, rfl, Below.refl _ _⟩
  case round =>
    obtain ⟨k, b, hk, rfl, rfl, hB⟩ := hrel
    by_cases hlt : k < n2
    · obtain ⟨g2, rfl, x2, hc2⟩ := H2.out wr k hB.out hlt
      obtain ⟨y2, hy2, HC2⟩ := HCT.out wr x2 hB.out
      have HC2 := hidden HC2
      have k0 : (0 : Int) ≤ (k : Int) := by omega
      have k1 : (k : Int) < (n2 : Int) := by omega
      have hk257 : k < 257 := by have := HM2.out; omega
      have hwk : wrap64 ((k : Int) + 1) = ((k + 1 : Nat) : Int) := by rw [Go.IntWalk.wrap64_in _ (by omega)]; rfl
      have y3 : ¬ y2 = 1073741824 := by omega
      clear hy2 hk
      by_cases hl1 : k < n1
      · obtain ⟨g1, rfl, x1, hc1⟩ := H1.out wr k hB.out hl1
        obtain ⟨y1, hy1, HC1⟩ := HCT.out wr x1 hB.out
        have HC1 := hidden HC1
        have l1 : (k : Int) < (n1 : Int) := by omega
        clear hy1
        cases b with
        | true =>
          go_wp2_with (first
            | (go_at_call 79; refine HC2.out.mono ?_; rintro e w' ⟨rfl, hx⟩; rw [hx]; clear hx w'))
          exact ⟨⟨k + 1, true, by omega, rfl, by go_num, hB.out⟩, by simp [intOf]; exact mea_step k1⟩
        | false =>
          by_cases y4 : 1 < y1
          · go_wp2_with (first
              | (go_at_call 79; have mk := mk1; clear mk; refine HC2.out.mono ?_; rintro e w' ⟨rfl, hx⟩; rw [hx]; clear hx w')
              | (go_at_call 79; refine HC1.out.mono ?_; rintro e w' ⟨rfl, hx⟩; rw [hx]; clear hx w'; have mk1 : Hid True := trivial))
            exact ⟨⟨k + 1, true, by omega, rfl, by go_num, hB.out⟩, by simp [intOf]; exact mea_step k1⟩
          · go_wp2_with (first
              | (go_at_call 79; refine HC1.out.mono ?_; rintro e w' ⟨rfl, hx⟩; rw [hx]; clear hx w'))
            exact ⟨⟨k + 1, false, by omega, rfl, by go_num, hB.out⟩, by simp [intOf]; exact mea_step k1⟩
      · have l1 : ¬ (k : Int) < (n1 : Int) := by omega
        cases b with
        | true =>
          go_wp2_with (first
            | (go_at_call 79; refine HC2.out.mono ?_; rintro e w' ⟨rfl, hx⟩; rw [hx]; clear hx w'))
          exact ⟨⟨k + 1, true, by omega, rfl, by go_num, hB.out⟩, by simp [intOf]; exact mea_step k1⟩
        | false =>
          go_wp2_with fail
          exact ⟨⟨k + 1, false, by omega, rfl, by go_num, hB.out⟩, by simp [intOf]; exact mea_step k1⟩
    · obtain rfl : k = n2 := by omega
      have nlt : ¬ (k : Int) < (k : Int) := by omega
      go_wp2_with fail
      go_ret
      exact ⟨rfl, hB.out⟩

theorem holdM_take (cs : List (Nat × Ce)) (ss : List Nat) (k : Nat) (hk : k < ss.length) : holdM cs (ss.take (k + 1)) = if ss.getD k 0 = 0 then holdM cs (ss.take k) else moreC (holdM cs (ss.take k)) (ss.getD k 0 - 1) := by
  rw [List.take_add_one, List.getElem?_eq_getElem hk]
  show holdM cs (ss.take k ++ [ss[k]]) = _
  rw [holdM_snoc]
  have e : ss.getD k 0 = ss[k] := by rw [List.getD_eq_getElem?_getD, List.getElem?_eq_getElem hk]; rfl
  rw [e]

set_option maxHeartbeats 2000000 in
theorem holdAll_any {w : World} {S : List Nat} {g gs room : Nat} {cs : List (Nat × Ce)} {fr : List Nat} (h : Hs w S w g gs room cs fr) (a : Option Addr) (n c : Nat) (ss : List Nat) (hI : Kq S w (fun w' => Ints9 w' a ss)) (hn : n = ss.length) (h257 : n ≤ 257) (hv : ∀ x ∈ ss, x = 0 ∨ 0 < cc cs (x - 1)) (hc : 0 < n → ∀ i, cc cs i + n < 1073741824) : Calls Tryz.prog 41 #[.pointer (some ⟨g, 0, none⟩), .slice a n c] w fun e w' => e = .returned (.slice none 0 0) ∧ Hs w S w' g gs room (holdM cs ss) fr := by
  have HST : Hid (∀ wr k, k < n → Hs w S wr g gs room (holdM cs (ss.take k)) fr → ∃ lb x, a = some ⟨lb, 0, none⟩ ∧ wr.cell? ⟨lb, k, none⟩ = some (.int .i64 x) ∧ ∃ q : Int, ¬ q = 4 ∧ Calls Tryz.prog 69 #[.pointer (some ⟨g, 0, none⟩), .int .i64 x] wr fun e w' => e = .returned (.int .i64 q) ∧ Hs w S w' g gs room (holdM cs (ss.take (k + 1))) fr) := fun wr k hk hh => by
    obtain ⟨lb, e1, e2⟩ := hh.kq hI k (by omega)
    refine ⟨lb, _, e1, e2, ?_⟩
    rw [holdM_take cs ss k (by omega)]
    have hm := hm_ok h.2 k (ss.take k) (by rw [List.length_take]; omega) (fun x hx => hv x (List.mem_of_mem_take hx))
    have hmem : ss.getD k 0 ∈ ss := by rw [List.getD_eq_getElem?_getD, List.getElem?_eq_getElem (by omega)]; exact List.getElem_mem _
    by_cases h0 : ss.getD k 0 = 0
    · rw [if_pos h0, h0]
      exact ⟨7, by omega, hs_hold_bad hh 0 rfl⟩
    · rw [if_neg h0]
      have hcp := (hv _ hmem).resolve_left h0
      have hx := hs_hold hh (ss.getD k 0 - 1) (by rw [hm.cc]; omega) (by
        rw [hm.cc]
        have h1 := hc (by omega) (ss.getD k 0 - 1)
        have h2 := List.count_le_length (a := ss.getD k 0 - 1 + 1) (l := ss.take k)
        rw [List.length_take] at h2
        omega)
      rw [show (((ss.getD k 0 - 1 : Nat) : Int) + 1) = ((ss.getD k 0 : Nat) : Int) by omega] at hx
      exact ⟨0, by omega, hx⟩
  have HTK : Hid (ss.take n = ss) := List.take_of_length_le (by omega)
  have HH0 : Hid (Hs w S w g gs room (holdM cs (ss.take 0)) fr) := h
  have HM := hidden h257
  clear h hI hn h257 hv hc
  go_enter Tryz.func41, Tryz.ntmps41
  go_wp2_with fail
  go_loopw [4, 9] (fun lv iv wr => ∃ (k : Nat), k ≤ n ∧ lv = .slice none 0 0 ∧ iv = .int .i64 (k : Int) ∧ Hid (Hs w S wr g gs room (holdM cs (ss.take k)) fr)) (fun _ iv _ => n - (intOf iv).toNat)
  case atStart => exact ⟨0, by omega, rfl, rfl, HH0.out⟩
  case round =>
    clear HH0
    obtain ⟨k, hk, rfl, rfl, HH⟩ := hrel
    by_cases hlt : k < n
    · obtain ⟨lb, x, rfl, hcl, q, hq, hcall⟩ := HST.out wr k hlt HH.out
      have HC := hidden hcall
      have k0 : (0 : Int) ≤ (k : Int) := by omega
      have k1 : (k : Int) < (n : Int) := by omega
      have hk257 : k < 257 := by have := HM.out; omega
      have hwk : wrap64 ((k : Int) + 1) = ((k + 1 : Nat) : Int) := by rw [Go.IntWalk.wrap64_in _ (by omega)]; rfl
      clear hcall hk
      go_wp2_with (first
        | (go_at_call 69; refine HC.out.mono ?_; rintro e w2 ⟨rfl, hs2⟩; have HS2 := hidden hs2; clear hs2))
      exact ⟨⟨k + 1, by omega, rfl, by go_num, HS2.out⟩, by simp [intOf]; exact mea_step k1⟩
    · obtain rfl : k = n := by omega
      have nlt : ¬ (k : Int) < (k : Int) := by omega
      rw [HTK.out] at HH
      go_wp2_with fail
      go_ret
      exact ⟨rfl, HH.out⟩

end Go.Proofs.YtnnmfgnommbmkaaGreatDoor
