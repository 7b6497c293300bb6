/- The statements' SameInts. -/
import Derived.Test.YtbkolhhgajkjjaaGreatDoorPo45
namespace Go.Proofs.YtbkolhhgajkjjaaGreatDoor
set_option maxHeartbeats 8000000
set_option maxRecDepth 20000
open Go.RowKit
def Ns (w : World) (v : Value) (ss : List Int) : Prop := ∃ a c, v = .slice a ss.length c ∧ (0 < ss.length → ∃ g o, a = some ⟨g, o, none⟩ ∧ ∀ i, i < ss.length → w.cell? ⟨g, o + i, none⟩ = some (.int .i64 (ss[i]?.getD 0)))
theorem Yfu {w : World} {base : Nat} {v : Value} {ss : List Nat} (h : w.ownsRow base 3 1 v ss.length (nats ss)) : Ns w v (ss.map fun (s : Nat) => (s : Int)) := by
 rcases h.2 with ⟨rfl, h0⟩ | ⟨g, cap, cur, rfl, _⟩
 ·exact ⟨none, 0, by simp [h0], fun hp => by simp at hp; omega⟩
 ·refine ⟨some ⟨g, 0, none⟩, cap, by simp, fun hp => ⟨g, 0, rfl, fun i hi => ?_⟩⟩
  simp only [List.length_map] at hi
  rw [Nat.zero_add, h.cellAt i (by omega)]
  simp [nats, hi]
theorem Zmf (x y : Value) (xs ys : List Int) (w : World) (hx : Ns w x xs) (hy : Ns w y ys) (hl2 : ys.length ≤ 1048576) : Calls Tryz.prog 39 #[x, y] w fun e w' => e = .returned (.bool (decide (xs = ys))) ∧ Below w.heap.size w w' := by
 obtain ⟨xa, xc, rfl, hx⟩ := hx
 obtain ⟨ya, yc, rfl, hy⟩ := hy
 by_cases hlen : xs.length = ys.length
 ·have HX := Za hx
  have HY := Za hy
  rw [hlen]
  rw [hlen] at HX
  obtain ⟨n, hn⟩ : ∃ n, n = ys.length := ⟨_, rfl⟩
  rw [← hn] at HX HY hl2 ⊢
  have HN := Za hn
  have HNX : Hid (xs.length = n) := by show _ = _; omega
  clear hx hy hlen hn
  go_enter Tryz.func39, Tryz.ntmps39
  go_wp2_with fail
  go_loopw [5] (fun i wr => ∃ k : Nat, k ≤ n ∧ i = .int .i64 k ∧ Hid (xs.take k = ys.take k) ∧ Below w.heap.size w wr) (fun i _ => n - (intOf i).toNat)
  case atStart => exact ⟨0, by omega, rfl, by show _ = _; simp, Below.refl _ _⟩
  case round =>
   obtain ⟨k, hk, rfl, hE, hbl⟩ := hrel
   have hwk : wrap64 ((k : Int) + 1) = ((k + 1 : Nat) : Int) := by rw [Go.IntWalk.wrap64_in _ (by omega)]; rfl
   by_cases hlt : k < n
   ·have i1 : (k : Int) < (n : Int) := by omega
    have i0 : (0 : Int) ≤ (k : Int) := by omega
    obtain ⟨gx, ox, rfl, cx⟩ := HX.out (by omega)
    obtain ⟨gy, oy, rfl, cy⟩ := HY.out (by omega)
    have c1 := Zau hbl (cx k hlt)
    have c2 := Zau hbl (cy k hlt)
    obtain ⟨zx, hzx⟩ : ∃ z, z = xs[k]?.getD 0 := ⟨_, rfl⟩
    obtain ⟨zy, hzy⟩ : ∃ z, z = ys[k]?.getD 0 := ⟨_, rfl⟩
    rw [← hzx] at c1
    rw [← hzy] at c2
    have HZX := Za hzx
    have HZY := Za hzy
    clear cx cy hzx hzy
    have hxk : xs.take (k + 1) = xs.take k ++ [zx] := by rw [Zhz xs k (by have := HNX.out; omega), HZX.out]; rfl
    have hyk : ys.take (k + 1) = ys.take k ++ [zy] := by rw [Zhz ys k (by have := HN.out; omega), HZY.out]; rfl
    by_cases heq : zx = zy
    ·subst heq
     have HT : Hid (xs.take (k + 1) = ys.take (k + 1)) := by show _ = _; rw [hxk, hyk, hE.out]
     clear hxk hyk
     go_wp2_with fail
     go_quiet (fail)
     go_wp2
     exact ⟨⟨k + 1, by omega, by go_num, HT, below_drewN hbl _⟩, by simp [intOf]; omega⟩
    ·have HT : Hid (xs ≠ ys) := by
      show xs ≠ ys
      intro e
      apply heq
      rw [HZX.out, HZY.out, e]
     have hne : (zx == zy) = false := by simpa using heq
     clear hxk hyk heq
     go_wp2_with fail
     go_quiet (fail)
     go_wp2
     go_ret
     exact ⟨by rw [decide_eq_false HT.out]; rfl, below_drewN hbl _⟩
   ·obtain rfl : k = n := by omega
    have HT : Hid (xs = ys) := by
     have := hE.out
     rw [List.take_of_length_le (by have := HNX.out; omega), List.take_of_length_le (by have := HN.out; omega)] at this
     exact this
    go_wp2
    go_ret
    exact ⟨by rw [decide_eq_true HT.out]; rfl, hbl⟩
 ·have HT : Hid (xs ≠ ys) := fun e => hlen (by rw [e])
  have hne : ((xs.length : Int) == (ys.length : Int)) = false := by simp; omega
  clear hx hy
  go_enter Tryz.func39, Tryz.ntmps39
  go_wp2
  go_ret
  exact ⟨by rw [decide_eq_false HT.out]; rfl, Below.refl _ _⟩
theorem Zlf {w : World} {base n : Nat} {v : Value} {ss : List Nat} (h : w.ownsRow base 3 1 v n (nats ss)) (hn : n = ss.length) : Ns w v (ss.map fun (s : Nat) => (s : Int)) := by
 subst hn
 exact Yfu h
theorem Yhn {w : World} {g gs q : Nat} {vp vf vp2 vf2 : Value} {room : Nat} {cs : List (Nat × Ce)} {fr fr2 : List Nat} {ss : List Sp} (s : Stm w g gs vp vf room cs fr) (d : Rs w q vp2 vf2 room ss fr2) (R : Rel7 cs [] [] ss) (W : Wf cs []) (hL : Laid w) (h6 : cs.length ≤ 5000) (deep : Bool) (hd : deep = true → cs.length ≤ 60) : Calls Tryz.prog 11 #[.pointer (some ⟨g, 0, none⟩), .pointer (some ⟨q, 0, none⟩), .bool deep] w fun e w' => e = .returned (.bool true) ∧ Below w.heap.size w w' := by
 have V := Zjl s W
 obtain ⟨n, hn⟩ : ∃ n, n = (slotsOf (cs.map pl)).length := ⟨_, rfl⟩
 obtain ⟨sl, hsl⟩ : ∃ sl, sl = slotsOf (cs.map pl) := ⟨_, rfl⟩
 have HN : Hid (n = sl.length) := by rw [hn, hsl]; exact rfl
 have HA1 : Hid (∀ w', Below w.heap.size w w' → Calls Tryz.prog 34 #[.pointer (some ⟨g, 0, none⟩)] w' fun e w'' => ∃ a c, e = .returned (.slice a n c) ∧ w''.ownsRow w'.heap.size 3 1 (.slice a n c) n (nats sl) ∧ Below w'.heap.size w' w'') := fun w' hb => by
  rw [hn, hsl]
  exact Yee (s.grow hb)
 have HB1 : Hid (∀ w', Below w.heap.size w w' → Calls Tryz.prog 40 #[.pointer (some ⟨q, 0, none⟩)] w' fun e w'' => ∃ a c, e = .returned (.slice a n c) ∧ w''.ownsRow w'.heap.size 3 1 (.slice a n c) n (nats sl) ∧ Below w'.heap.size w' w'') := fun w' hb => by
  rw [hn, hsl]
  exact Yfp (d.grow hb) R W h6
 have HA2 : Hid (∀ w', Below w.heap.size w w' → Calls Tryz.prog 35 #[.pointer (some ⟨g, 0, none⟩)] w' fun e w'' => e = .returned (.int .i64 (noc cs : Int)) ∧ Below w'.heap.size w' w'') := fun w' hb => Zvn (s.grow hb)
 have HB2 : Hid (∀ w', Below w.heap.size w w' → Calls Tryz.prog 36 #[.pointer (some ⟨q, 0, none⟩)] w' fun e w'' => e = .returned (.int .i64 (noc cs : Int)) ∧ Below w'.heap.size w' w'') := fun w' hb => Yfl (d.grow hb) R W h6
 have HA3 : Hid (∀ w', Below w.heap.size w w' → Calls Tryz.prog 37 #[.pointer (some ⟨g, 0, none⟩)] w' fun e w'' => e = .returned (.int .i64 (room : Int)) ∧ Below w'.heap.size w' w'') := fun w' hb => Zqb (s.grow hb)
 have HB3 : Hid (∀ w', Below w.heap.size w w' → Calls Tryz.prog 38 #[.pointer (some ⟨q, 0, none⟩)] w' fun e w'' => e = .returned (.int .i64 (room : Int)) ∧ w'' = w') := fun w' hb => Ybs (d.grow hb)
 have HLK : Hid (∀ w' (h : Int), Below w.heap.size w w' → Calls Tryz.prog 33 #[.pointer (some ⟨g, 0, none⟩), .pointer (some ⟨q, 0, none⟩), .int .i64 h, .bool deep] w' fun e w'' => e = .returned (.bool true) ∧ Below w'.heap.size w' w'') := fun w' h hb => Yfx (V.grow hb) (d.grow hb) R W (hL.grow hb) h6 h deep hd
 have hn6 : n ≤ 5000 := by
  rw [hn, Zha]
  have := s.sl.inv.sum
  rw [List.length_map] at this
  omega
 have HSame : Hid (∀ w' x y, Ns w' x (sl.map fun (s : Nat) => (s : Int)) → Ns w' y (sl.map fun (s : Nat) => (s : Int)) → Calls Tryz.prog 39 #[x, y] w' fun e w'' => e = .returned (.bool true) ∧ Below w'.heap.size w' w'') := fun w' x y hx hy => by
  have := Zmf x y _ _ w' hx hy (by rw [List.length_map, ← HN.out]; omega)
  rwa [decide_eq_true rfl] at this
 obtain ⟨pa, pc, hvp⟩ := Zm d.sps
 obtain ⟨m, hm⟩ : ∃ m, m = ss.length := ⟨_, rfl⟩
 have hm6 : m ≤ 5000 := by rw [hm, R.len]; exact h6
 rw [← hm] at hvp
 have HC : Hid (∀ w', Below w.heap.size w w' → w'.cell? ⟨q, 2, none⟩ = some (.slice pa m pc)) := fun w' hb => by
  rw [(d.grow hb).c2, hvp]
 generalize (noc cs : Int) = oc at HA2 HB2
 generalize (room : Int) = rm at HA3 HB3
 clear V s d R W hL h6 hd hn hsl hm hvp
 have hB : Hid (Below w.heap.size w w) := Below.refl _ _
 generalize hx : Value.pointer (some ⟨g, 0, none⟩) = x at HA1 HA2 HA3 HLK ⊢
 clear hx
 go_enter Tryz.func11, Tryz.ntmps11
 go_wp2_with (first
  | (go_at_call 34; refine (HA1.out _ hB.out).mono ?_; first | (have HQ := HO1; rintro e w2 ⟨a2, c2, rfl, o2, b⟩; have HO2 := Za o2; have HOA := Za (Zp HO1.out b); have HLT := Za HO1.out.lt; have HL2 := Za o2.lt; have hC := Za (Below.refl w2.heap.size w2); replace hB := Za (Zb hB.out b); clear b o2 HQ) | (have HSZ := Za hB.out.size; rintro e w1 ⟨a1, c1, rfl, o1, b⟩; have HO1 := Za o1; replace hB := Za (Zb hB.out b); clear b o1))
  | (go_at_call 35; refine (HA2.out _ hB.out).mono ?_; rintro e w' ⟨rfl, b⟩; replace hB := Za (Zb hB.out b); replace hC := Za (Zb hC.out b); clear b)
  | (go_at_call 36; refine (HB2.out _ hB.out).mono ?_; rintro e w' ⟨rfl, b⟩; replace hB := Za (Zb hB.out b); replace hC := Za (Zb hC.out b); clear b)
  | (go_at_call 37; refine (HA3.out _ hB.out).mono ?_; rintro e w' ⟨rfl, b⟩; replace hB := Za (Zb hB.out b); replace hC := Za (Zb hC.out b); clear b)
  | (go_at_call 38; refine (HB3.out _ hB.out).mono ?_; rintro e w' ⟨rfl, hx⟩; rw [hx]; clear hx w')
  | (go_at_call 40; refine (HB1.out _ hB.out).mono ?_; rintro e w' ⟨a3, c3, rfl, o3, b⟩; have HO3 := Za (Zlf o3 HN.out); replace hB := Za (Zb hB.out b); replace hC := Za (Zb hC.out b); clear b o3)
  | (go_at_call 39; refine (HSame.out _ _ _ (Zlf (Zp HOA.out hC.out) HN.out) HO3.out).mono ?_; rintro e w' ⟨rfl, b⟩; replace hB := Za (Zb hB.out b); replace hC := Za (Zb hC.out b); clear b HO3))
 have HOl : Hid (∃ ys, World.ownsRow _ w.heap.size 3 1 (.slice a1 n c1) n ys) := ⟨_, Zp HOA.out hC.out⟩
 have HOm := Za (Zp HO2.out hC.out)
 clear HOA HO1 HO2 hC
 go_loopw [9] (fun i wr => ∃ k : Nat, k ≤ n ∧ i = .int .i64 k ∧ Hid (∃ ys, wr.ownsRow w.heap.size 3 1 (.slice a1 n c1) n ys) ∧ Hid (wr.ownsRow w1.heap.size 3 1 (.slice a2 n c2) n (nats sl)) ∧ Hid (Below w.heap.size w wr)) (fun i _ => n - (intOf i).toNat)
 case atStart => exact ⟨0, by omega, rfl, HOl, HOm, hB⟩
 case round =>
  clear HOl HOm hB
  obtain ⟨k, hk, rfl, HOl, HOm, hbl⟩ := hrel
  have hwk : wrap64 ((k : Int) + 1) = ((k + 1 : Nat) : Int) := by rw [Go.IntWalk.wrap64_in _ (by omega)]; rfl
  by_cases hlt : k < n
  ·have i1 : (k : Int) < (n : Int) := by omega
   have i0 : (0 : Int) ≤ (k : Int) := by omega
   obtain ⟨ys, ho⟩ := HOl.out
   rcases ho.2 with ⟨_, h0⟩ | ⟨gl, cap, cur, hv, _⟩
   ·omega
   ·simp only [Value.slice.injEq, true_and] at hv
    obtain ⟨rfl, rfl⟩ := hv
    obtain ⟨z, cz⟩ : ∃ z, wr.cell? ⟨gl, k, none⟩ = some z := by
     rw [ho.cellAt k (by omega), List.getElem?_eq_getElem (by rw [ho.1]; omega)]
     exact ⟨_, rfl⟩
    have fz := ho.frozenAt k
    have HO := Za ho
    clear ho
    go_wp2
    obtain ⟨g1, g2⟩ := HLT.out gl rfl
    refine ⟨⟨k + 1, by omega, by go_num, ⟨_, (HO.out.stored k (.int .i64 (-7))).1⟩, ?_, Zt k (.int .i64 (-7)) hbl.out g1⟩, by simp [intOf]; omega⟩
    refine HOm.out.kept (Zai wr gl k (.int .i64 (-7))) ?_
    cases hq : (Value.slice a2 n c2).ownBlock with
    | none => exact .inl rfl
    | some q =>
     right
     have := (HOm.out.lt q hq).1
     intro e
     injection e with e
     omega
  ·obtain rfl : k = n := by omega
   clear HOl
   go_wp2_with (first
    | (go_at_call 40; refine (HB1.out _ hbl.out).mono ?_; rintro e w' ⟨a3, c3, rfl, o3, b⟩; have HO3 := Za (Zlf o3 HN.out); replace hbl := Za (Zb hbl.out b); replace HOm := Za (Zp HOm.out b); clear b o3)
    | (go_at_call 39; refine (HSame.out _ _ _ (Zlf HOm.out HN.out) HO3.out).mono ?_; rintro e w' ⟨rfl, b⟩; replace hbl := Za (Zb hbl.out b); clear b HO3 HOm))
   go_loopw [10] (fun i wr => ∃ j : Nat, j ≤ m + 3 ∧ i = .int .i64 ((j : Int) - 1) ∧ Hid (Below w.heap.size w wr)) (fun i _ => m + 5 - (intOf i + 1).toNat)
   case atStart => exact ⟨0, by omega, rfl, hbl⟩
   case round =>
    clear hbl
    obtain ⟨j, hj, rfl, hbl⟩ := hrel
    have c2 := HC.out _ hbl.out
    by_cases hlj : j < m + 3
    ·have i2 : (j : Int) - 1 ≤ (m : Int) + 1 := by omega
     go_wp2_with (go_at_call 33; refine (HLK.out _ _ hbl.out).mono ?_; rintro e w' ⟨rfl, b⟩; replace hbl := Za (Zb hbl.out b); clear b)
     exact ⟨⟨j + 1, by omega, by go_num, hbl⟩, by simp [intOf]; omega⟩
    ·obtain rfl : j = m + 3 := by omega
     have i2 : ¬ ((m + 3 : Nat) : Int) - 1 ≤ (m : Int) + 1 := by omega
     go_wp2_with fail
     go_ret
     exact ⟨rfl, hbl.out⟩
def azL (k : Int) (K : List Int) (v : Value) (d x y : Int) : List Value := .int .i64 k :: (K.map (Value.int .u8) ++ [v, .int .i64 d, .int .i64 x, .int .i64 y])
end Go.Proofs.YtbkolhhgajkjjaaGreatDoor
