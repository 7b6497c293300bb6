/- The statements' Look: a handle of both stores. -/
import Derived.Test.YtbkolhhgajkjjaaGreatDoorPo43
namespace Go.Proofs.YtbkolhhgajkjjaaGreatDoor
set_option maxHeartbeats 8000000
set_option maxRecDepth 20000
open Go.RowKit
theorem Yid {w : World} {g : Nat} {vp vf : Value} {room : Nat} {ss : List Sp} {fr : List Nat} (h : Rs w g vp vf room ss fr) (q : Int) : Reads w (sat ss q).val (sat ss q).bs := by
 have z : Reads w zs7.val zs7.bs := (Own.nil 0 w).reads
 unfold sat
 split
 ·unfold spAt
  by_cases hi : (q - 1).toNat < ss.length
  ·rw [List.getElem?_eq_getElem hi]
   obtain ⟨sp, ho⟩ := h.vals _ (List.getElem_mem hi)
   exact ho.reads
  ·rw [List.getElem?_eq_none (by omega)]
   exact z
 ·exact z
theorem Yeg {cs : List (Nat × Ce)} {ss : List Sp} (R : Rel7 cs [] [] ss) (W : Wf cs []) (q : Int) : decide ((sat ss q).kind ≠ 0) = decide (0 < cot cs q) := by
 rw [(Zbt R W q).kind]
 by_cases hc : 0 < cot cs q
 ·obtain ⟨i, _, h1, h2, h3⟩ := Zer hc
  rw [decide_eq_true hc, h3]
  rcases W.kinds i h1 with e | e <;> rw [e] <;> rfl
 ·rw [decide_eq_false hc, W.cat0 (by omega)]
  rfl
theorem Zlw {w : World} {u v : Value} {bs sp sp2 : List Int} (h1 : Own 0 w u bs sp) (h2 : Own 0 w v bs sp2) (hn : ∀ k, u.ownBlock = some k → v.ownBlock ≠ some k) : ListsT 0 w.heap.size 0 2 (fun i => [u, v].getD i undef) (fun i => [bs, bs].getD i []) (fun i => [sp, sp2].getD i []) (w.alloc (.cells #[u, v] 32)) := by
 refine Zvr 0 w [u, v] _ _ 2 rfl ?_ ?_
 ·intro i hi
  match i, hi with
  | 0, _ => exact h1.toT
  | 1, _ => exact h2.toT
 ·intro i j hi hj hne g e1 e2
  match i, j, hi, hj with
  | 0, 0, _, _ => omega
  | 1, 1, _, _ => omega
  | 0, 1, _, _ => exact hn g e1 e2
  | 1, 0, _, _ => exact hn g e2 e1
theorem Zjg {w0 w w' : World} {v : Value} (hb : Below w0.heap.size w0 w) (hg : w.grownBy w' v.ownBlock) (h : ∀ k, v.ownBlock = some k → w0.heap.size ≤ k) : Below w0.heap.size w0 w' := by
 cases e : v.ownBlock with
 | none =>
  rw [e] at hg
  exact Zkk hb hg
 | some k =>
  rw [e] at hg
  exact Zd hb hg (h k e)
theorem Yfx {w : World} {g q : Nat} {vp vf : Value} {room : Nat} {cs : List (Nat × Ce)} {ss : List Sp} {fr : List Nat} (V : Vw w (.pointer (some ⟨g, 0, none⟩)) true (cot cs) (cat cs)) (s : Rs w q vp vf room ss fr) (R : Rel7 cs [] [] ss) (W : Wf cs []) (hL : Laid w) (h6 : cs.length ≤ 5000) (h : Int) (deep : Bool) (hd : deep = true → cs.length ≤ 60) : Calls Tryz.prog 33 #[.pointer (some ⟨g, 0, none⟩), .pointer (some ⟨q, 0, none⟩), .int .i64 h, .bool deep] w fun e w' => e = .returned (.bool true) ∧ Below w.heap.size w w' := by
 have hS := Zbt R W h
 have hle := V.le h
 have A1 : Hid (∀ w', Below w.heap.size w w' → Calls Tryz.prog 86 #[.pointer (some ⟨g, 0, none⟩), .int .i64 h] w' fun e w'' => e = .returned (.bool (decide (0 < cot cs h))) ∧ Below w'.heap.size w' w'') := fun w' hb => Zwk (V.grow hb) h
 have B1 : Hid (∀ w', Below w.heap.size w w' → Calls Tryz.prog 71 #[.pointer (some ⟨q, 0, none⟩), .int .i64 h] w' fun e w'' => e = .returned (.bool (decide (0 < cot cs h))) ∧ Below w'.heap.size w' w'') := fun w' hb => by
  rw [← Yeg R W h]
  exact (Zbm (s.grow hb) h).mono fun e w'' ⟨e1, e2⟩ => ⟨e1, by rw [e2]; exact Below.refl _ _⟩
 have A2 : Hid (∀ w', Below w.heap.size w w' → Calls Tryz.prog 87 #[.pointer (some ⟨g, 0, none⟩), .int .i64 h] w' fun e w'' => e = .returned (.int .u8 (cat cs h).kind) ∧ Below w'.heap.size w' w'') := fun w' hb => Zhq (V.grow hb) h
 have B2 : Hid (∀ w', Below w.heap.size w w' → Calls Tryz.prog 54 #[.pointer (some ⟨q, 0, none⟩), .int .i64 h] w' fun e w'' => e = .returned (.int .u8 (cat cs h).kind) ∧ Below w'.heap.size w' w'') := fun w' hb => by
  rw [← hS.kind]
  exact Ybt (s.grow hb) h
 have A3 : Hid (∀ w', Below w.heap.size w w' → Calls Tryz.prog 88 #[.pointer (some ⟨g, 0, none⟩), .int .i64 h] w' fun e w'' => e = .returned (.int .i64 (vDp true (cat cs h))) ∧ Below w'.heap.size w' w'') := fun w' hb => Zja (V.grow hb) h
 have B3 : Hid (∀ w', Below w.heap.size w w' → Calls Tryz.prog 89 #[.pointer (some ⟨q, 0, none⟩), .int .i64 h] w' fun e w'' => e = .returned (.int .i64 (vDp true (cat cs h))) ∧ Below w'.heap.size w' w'') := fun w' hb => by
  rw [show vDp true (cat cs h) = dp7 (sat ss h) by unfold vDp dp7; rw [hS.kind, hS.d]; rfl]
  exact Zos (s.grow hb) h
 have A4 : Hid (∀ w', Below w.heap.size w w' → Calls Tryz.prog 90 #[.pointer (some ⟨g, 0, none⟩), .int .i64 h] w' fun e w'' => e = .returned (.int .i64 ((cat cs h).sz : Int)) ∧ Below w'.heap.size w' w'') := fun w' hb => Zyq (V.grow hb) h
 have B4 : Hid (∀ w', Below w.heap.size w w' → Calls Tryz.prog 91 #[.pointer (some ⟨q, 0, none⟩), .int .i64 h] w' fun e w'' => e = .returned (.int .i64 ((cat cs h).sz : Int)) ∧ Below w'.heap.size w' w'') := fun w' hb => by
  exact Yfi (s.grow hb) R W h6 h
 have A5 : Hid (∀ w', Below w.heap.size w w' → Calls Tryz.prog 92 #[.pointer (some ⟨g, 0, none⟩), .int .i64 h] w' fun e w'' => e = .returned (.int .i64 (cot cs h : Int)) ∧ Below w'.heap.size w' w'') := fun w' hb => (V.count w' h hb).mono fun e w'' ⟨e1, e2⟩ => ⟨e1, by rw [e2]; exact Below.refl _ _⟩
 have B5 : Hid (∀ w', Below w.heap.size w w' → Calls Tryz.prog 72 #[.pointer (some ⟨q, 0, none⟩), .int .i64 h] w' fun e w'' => e = .returned (.int .i64 (cot cs h : Int)) ∧ Below w'.heap.size w' w'') := fun w' hb => by
  have := Zot (s.grow hb) h (by rw [hS.sum]; exact hle.2)
  rwa [hS.sum] at this
 have A6 : Hid (∀ w', Below w.heap.size w w' → Calls Tryz.prog 81 #[.pointer (some ⟨g, 0, none⟩), .int .i64 h] w' fun e w'' => e = .returned (.int .i64 ((cot cs h - (cat cs h).ab : Nat) : Int)) ∧ Below w'.heap.size w' w'') := fun w' hb => Zfz (V.grow hb) h
 have B6 : Hid (∀ w', Below w.heap.size w w' → Calls Tryz.prog 93 #[.pointer (some ⟨q, 0, none⟩), .int .i64 h] w' fun e w'' => e = .returned (.int .i64 ((cot cs h - (cat cs h).ab : Nat) : Int)) ∧ Below w'.heap.size w' w'') := fun w' hb => by
  rw [← hS.own]
  exact Ybu (s.grow hb) h
 have A7 : Hid (∀ w', Below w.heap.size w w' → Calls Tryz.prog 94 #[.pointer (some ⟨g, 0, none⟩), .int .i64 h] w' fun e w'' => e = .returned (.int .i64 (vRt true (cot cs h) (cat cs h) h)) ∧ Below w'.heap.size w' w'') := fun w' hb => Zev (V.grow hb) h
 have B7 : Hid (∀ w', Below w.heap.size w w' → Calls Tryz.prog 95 #[.pointer (some ⟨q, 0, none⟩), .int .i64 h] w' fun e w'' => e = .returned (.int .i64 (vRt true (cot cs h) (cat cs h) h)) ∧ Below w'.heap.size w' w'') := fun w' hb => by
  exact Ybr (s.grow hb) R W h
 have A8 : Hid (∀ w', Below w.heap.size w w' → Calls Tryz.prog 96 #[.pointer (some ⟨g, 0, none⟩), .int .i64 h] w' fun e w'' => e = .returned (.agg (B (cat cs h).key)) ∧ Below w'.heap.size w' w'') := fun w' hb => Zpc (V.grow hb) h
 have B8 : Hid (∀ w', Below w.heap.size w w' → Calls Tryz.prog 97 #[.pointer (some ⟨q, 0, none⟩), .int .i64 h] w' fun e w'' => e = .returned (.agg (B (cat cs h).key)) ∧ Below w'.heap.size w' w'') := fun w' hb => by
  exact Yfo (s.grow hb) R W h6 h
 have A9 : Hid (∀ w', Below w.heap.size w w' → Calls Tryz.prog 98 #[.pointer (some ⟨g, 0, none⟩), .int .i64 h] w' fun e w'' => e = .returned (.tuple #[.int .i64 ((cat cs h).l : Int), .int .i64 ((cat cs h).r : Int)]) ∧ Below w'.heap.size w' w'') := fun w' hb => Zie (V.grow hb) h
 have B9 : Hid (∀ w', Below w.heap.size w w' → Calls Tryz.prog 99 #[.pointer (some ⟨q, 0, none⟩), .int .i64 h] w' fun e w'' => e = .returned (.tuple #[.int .i64 ((cat cs h).l : Int), .int .i64 ((cat cs h).r : Int)]) ∧ Below w'.heap.size w' w'') := fun w' hb => by
  rw [← hS.l, ← hS.r]
  exact Zut (s.grow hb) h
 have AV : Hid (∀ w', Below w.heap.size w w' → Calls Tryz.prog 100 #[.pointer (some ⟨g, 0, none⟩), .int .i64 h] w' fun e w'' => ∃ v sp, e = .returned v ∧ Own w'.heap.size w'' v (cat cs h).bs sp ∧ Below w'.heap.size w' w'') := fun w' hb => Zjr (V.grow hb) h
 have BV : Hid (∀ w', Below w.heap.size w w' → Calls Tryz.prog 102 #[.pointer (some ⟨q, 0, none⟩), .int .i64 h] w' fun e w'' => e = .returned (sat ss h).val ∧ Below w'.heap.size w' w'') := fun w' hb => Zur (s.grow hb) h
 have BR : Hid (∀ w', Below w.heap.size w w' → Reads w' (sat ss h).val (cat cs h).bs) := fun w' hb => by
  rw [← hS.bs]
  exact Yid (s.grow hb) h
 have A10 : Hid (∀ w', Below w.heap.size w w' → Calls Tryz.prog 104 #[.pointer (some ⟨g, 0, none⟩), .int .i64 h] w' fun e w'' => e = .returned (.agg (B (vDg true (cat cs) h))) ∧ Below w'.heap.size w' w'') := fun w' hb => Zhm (V.grow hb) h (hL.grow hb)
 have B10 : Hid (deep = true → ∀ w', Below w.heap.size w w' → Calls Tryz.prog 105 #[.pointer (some ⟨q, 0, none⟩), .int .i64 h] w' fun e w'' => e = .returned (.agg (B (vDg true (cat cs) h))) ∧ Below w'.heap.size w' w'') := fun e w' hb => Yde (s.grow hb) R W (hd e) h
 have A11 : Hid (∀ w', Below w.heap.size w w' → Calls Tryz.prog 106 #[.pointer (some ⟨g, 0, none⟩), .int .i64 h] w' fun e w'' => e = .returned (.agg (B (vNd true (cat cs) h))) ∧ Below w'.heap.size w' w'') := fun w' hb => Zzr (V.grow hb) h (hL.grow hb)
 have B11 : Hid (deep = true → ∀ w', Below w.heap.size w w' → Calls Tryz.prog 107 #[.pointer (some ⟨q, 0, none⟩), .int .i64 h] w' fun e w'' => e = .returned (.agg (B (vNd true (cat cs) h))) ∧ Below w'.heap.size w' w'') := fun e w' hb => Yfm (s.grow hb) R W (hd e) h
 have hEK : ∀ w, (Op.equalIn 10000 31 (.agg (B (cat cs h).key)) (.agg (B (cat cs h).key))).run Tryz.prog w = .ok true w := fun w => by rw [Zdk _ _ (V.ok h).hk.1 (V.ok h).hk.1 w, decide_eq_true rfl]
 have hDl := (Zdv V h).1
 have hED : ∀ w, (Op.equalIn 10000 62 (.agg (B (vDg true (cat cs) h))) (.agg (B (vDg true (cat cs) h)))).run Tryz.prog w = .ok true w := fun w => by rw [Yef _ _ hDl hDl w, decide_eq_true rfl]
 have hEN : ∀ w, (Op.equalIn 10000 136 (.agg (B (vNd true (cat cs) h))) (.agg (B (vNd true (cat cs) h)))).run Tryz.prog w = .ok true w := fun w => by
  obtain ⟨_, k, a, b, c, d, e, hn⟩ := Ybl V h
  rw [e]
  have := Ydp hn hn w
  simpa using this
 clear V s R W hL h6 hd hS hle hDl
 generalize B (vNd true (cat cs) h) = NN at A11 B11 hEN
 generalize B (vDg true (cat cs) h) = DD at A10 B10 hED
 generalize B (cat cs h).key = KK at A8 B8 hEK
 generalize (sat ss h).val = sv at BV BR
 generalize vRt true (cot cs h) (cat cs h) h = rt at A7 B7
 generalize vDp true (cat cs h) = dp at A3 B3
 generalize ((cot cs h - (cat cs h).ab : Nat) : Int) = hel at A6 B6
 generalize decide (0 < cot cs h) = has at A1 B1
 generalize (cot cs h : Int) = cou at A5 B5
 generalize ((cat cs h).sz : Int) = sz at A4 B4
 generalize (cat cs h).kind = kd at A2 B2
 generalize ((cat cs h).l : Int) = sl at A9 B9
 generalize ((cat cs h).r : Int) = sr at A9 B9
 generalize (cat cs h).bs = bs at AV BR
 generalize hx : Value.pointer (some ⟨g, 0, none⟩) = x at A1 A2 A3 A4 A5 A6 A7 A8 A9 AV A10 A11 ⊢
 generalize hy : Value.pointer (some ⟨q, 0, none⟩) = y at B1 B2 B3 B4 B5 B6 B7 B8 B9 BV B10 B11 ⊢
 clear hx hy
 have hB : Hid (Below w.heap.size w w) := Below.refl _ _
 cases deep with
 | false =>
  clear A10 B10 A11 B11 hED hEN
  cases has <;> (
  go_enter Tryz.func33, Tryz.ntmps33
  go_wp2_with (first
   | (go_at_call 86; refine (A1.out _ hB.out).mono ?_; rintro e w' ⟨rfl, b⟩; replace hB := Za (Zb hB.out b); (try (replace hC := Za (Zb hC.out b))); clear b)
   | (go_at_call 71; refine (B1.out _ hB.out).mono ?_; rintro e w' ⟨rfl, b⟩; replace hB := Za (Zb hB.out b); (try (replace hC := Za (Zb hC.out b))); clear b)
   | (go_at_call 87; refine (A2.out _ hB.out).mono ?_; rintro e w' ⟨rfl, b⟩; replace hB := Za (Zb hB.out b); (try (replace hC := Za (Zb hC.out b))); clear b)
   | (go_at_call 54; refine (B2.out _ hB.out).mono ?_; rintro e w' ⟨rfl, b⟩; replace hB := Za (Zb hB.out b); (try (replace hC := Za (Zb hC.out b))); clear b)
   | (go_at_call 88; refine (A3.out _ hB.out).mono ?_; rintro e w' ⟨rfl, b⟩; replace hB := Za (Zb hB.out b); (try (replace hC := Za (Zb hC.out b))); clear b)
   | (go_at_call 89; refine (B3.out _ hB.out).mono ?_; rintro e w' ⟨rfl, b⟩; replace hB := Za (Zb hB.out b); (try (replace hC := Za (Zb hC.out b))); clear b)
   | (go_at_call 90; refine (A4.out _ hB.out).mono ?_; rintro e w' ⟨rfl, b⟩; replace hB := Za (Zb hB.out b); (try (replace hC := Za (Zb hC.out b))); clear b)
   | (go_at_call 91; refine (B4.out _ hB.out).mono ?_; rintro e w' ⟨rfl, b⟩; replace hB := Za (Zb hB.out b); (try (replace hC := Za (Zb hC.out b))); clear b)
   | (go_at_call 92; refine (A5.out _ hB.out).mono ?_; rintro e w' ⟨rfl, b⟩; replace hB := Za (Zb hB.out b); (try (replace hC := Za (Zb hC.out b))); clear b)
   | (go_at_call 72; refine (B5.out _ hB.out).mono ?_; rintro e w' ⟨rfl, b⟩; replace hB := Za (Zb hB.out b); (try (replace hC := Za (Zb hC.out b))); clear b)
   | (go_at_call 81; refine (A6.out _ hB.out).mono ?_; rintro e w' ⟨rfl, b⟩; replace hB := Za (Zb hB.out b); (try (replace hC := Za (Zb hC.out b))); clear b)
   | (go_at_call 93; refine (B6.out _ hB.out).mono ?_; rintro e w' ⟨rfl, b⟩; replace hB := Za (Zb hB.out b); (try (replace hC := Za (Zb hC.out b))); clear b)
   | (go_at_call 94; refine (A7.out _ hB.out).mono ?_; rintro e w' ⟨rfl, b⟩; replace hB := Za (Zb hB.out b); (try (replace hC := Za (Zb hC.out b))); clear b)
   | (go_at_call 95; refine (B7.out _ hB.out).mono ?_; rintro e w' ⟨rfl, b⟩; replace hB := Za (Zb hB.out b); (try (replace hC := Za (Zb hC.out b))); clear b)
   | (go_at_call 96; refine (A8.out _ hB.out).mono ?_; rintro e w' ⟨rfl, b⟩; replace hB := Za (Zb hB.out b); (try (replace hC := Za (Zb hC.out b))); clear b)
   | (go_at_call 97; refine (B8.out _ hB.out).mono ?_; rintro e w' ⟨rfl, b⟩; replace hB := Za (Zb hB.out b); (try (replace hC := Za (Zb hC.out b))); clear b)
   | (go_at_call 98; refine (A9.out _ hB.out).mono ?_; rintro e w' ⟨rfl, b⟩; replace hB := Za (Zb hB.out b); (try (replace hC := Za (Zb hC.out b))); clear b)
   | (go_at_call 99; refine (B9.out _ hB.out).mono ?_; rintro e w' ⟨rfl, b⟩; replace hB := Za (Zb hB.out b); (try (replace hC := Za (Zb hC.out b))); clear b)
   | (go_at_call 100; refine (AV.out _ hB.out).mono ?_; first | (have HQ := HOV; rintro e w' ⟨v3, sp3, rfl, o3, b⟩; obtain ⟨a3, c3, rfl⟩ := o3.slice; have HU3 := Za o3.reads; clear o3; replace hB := Za (Zb hB.out b); (try (replace hC := Za (Zb hC.out b))); clear b) | (have HQ := HU1; rintro e w2 ⟨v2, sp2, rfl, o2, b⟩; obtain ⟨a2, c2, rfl⟩ := o2.slice; have HU2 := Za (o2.later (Nat.zero_le _)); have HNE : Hid (∀ k, (Value.slice a1 bs.length c1).ownBlock = some k → (Value.slice a2 bs.length c2).ownBlock ≠ some k) := (fun k e1 e2 => absurd (HU1.out.lt k e1).2 (by have := (o2.lt k e2).1; omega)); have HUA := Za ((HU1.out.grow b).later (Nat.zero_le _)); have HB1 : Hid (∀ k, (Value.slice a1 bs.length c1).ownBlock = some k → w.heap.size ≤ k) := (fun k e1 => Nat.le_trans HSZ.out (HU1.out.lt k e1).1); have hC := Za (Below.refl w2.heap.size w2); replace hB := Za (Zb hB.out b); clear o2 b) | (have HSZ := Za hB.out.size; rintro e w1 ⟨v1, sp1, rfl, o1, b⟩; obtain ⟨a1, c1, rfl⟩ := o1.slice; have HU1 := Za o1; clear o1; replace hB := Za (Zb hB.out b); clear b))
   | (go_at_call 102; refine (BV.out _ hB.out).mono ?_; rintro e w' ⟨rfl, b⟩; first | (have HQ := HU3; replace HU3 := Za (HU3.out.grow b); replace hB := Za (Zb hB.out b); clear HQ b) | (replace hB := Za (Zb hB.out b); (try (replace hC := Za (Zb hC.out b))); clear b))
   | (go_at_call 101; first | (refine (Zhn _ _ bs bs _ HU3.out (BR.out _ hB.out)).mono ?_; rintro e w' ⟨rfl, hx⟩; rw [hx]; clear hx w') | (refine (Zhn _ _ bs bs _ (HUA.out.grow hC.out).reads (BR.out _ hB.out)).mono ?_; rintro e w' ⟨rfl, hx⟩; rw [hx]; clear hx w'))
   | (go_at_call 103; refine (Zjj 0 _ 0 2 2 _ _ _ _ (by omega) (Zlw (HUA.out.grow hC.out) (HU2.out.grow hC.out) HNE.out) (Nat.le_refl _)).mono ?_; rintro e w' ⟨rfl, b0⟩; have b := Zb (Zg _ _) b0; clear b0; replace hB := Za (Zb hB.out b); (try (replace hC := Za (Zb hC.out b))); clear b)
   | (go_at_call 26; refine (Zld 0 _ bs _ _ (HUA.out.grow hC.out)).mono ?_; rintro e w' ⟨rfl, -, g4, -⟩; have HOV := Za g4; replace hB := Za (Zjg hB.out g4 HB1.out); clear g4))
  go_ret
  exact ⟨rfl, hB.out⟩)
 | true =>
  have B12 := Za (B10.out rfl)
  have B13 := Za (B11.out rfl)
  clear B10 B11
  cases has <;> (
  go_enter Tryz.func33, Tryz.ntmps33
  go_wp2_with (first
   | (go_at_call 86; refine (A1.out _ hB.out).mono ?_; rintro e w' ⟨rfl, b⟩; replace hB := Za (Zb hB.out b); (try (replace hC := Za (Zb hC.out b))); clear b)
   | (go_at_call 71; refine (B1.out _ hB.out).mono ?_; rintro e w' ⟨rfl, b⟩; replace hB := Za (Zb hB.out b); (try (replace hC := Za (Zb hC.out b))); clear b)
   | (go_at_call 87; refine (A2.out _ hB.out).mono ?_; rintro e w' ⟨rfl, b⟩; replace hB := Za (Zb hB.out b); (try (replace hC := Za (Zb hC.out b))); clear b)
   | (go_at_call 54; refine (B2.out _ hB.out).mono ?_; rintro e w' ⟨rfl, b⟩; replace hB := Za (Zb hB.out b); (try (replace hC := Za (Zb hC.out b))); clear b)
   | (go_at_call 88; refine (A3.out _ hB.out).mono ?_; rintro e w' ⟨rfl, b⟩; replace hB := Za (Zb hB.out b); (try (replace hC := Za (Zb hC.out b))); clear b)
   | (go_at_call 89; refine (B3.out _ hB.out).mono ?_; rintro e w' ⟨rfl, b⟩; replace hB := Za (Zb hB.out b); (try (replace hC := Za (Zb hC.out b))); clear b)
   | (go_at_call 90; refine (A4.out _ hB.out).mono ?_; rintro e w' ⟨rfl, b⟩; replace hB := Za (Zb hB.out b); (try (replace hC := Za (Zb hC.out b))); clear b)
   | (go_at_call 91; refine (B4.out _ hB.out).mono ?_; rintro e w' ⟨rfl, b⟩; replace hB := Za (Zb hB.out b); (try (replace hC := Za (Zb hC.out b))); clear b)
   | (go_at_call 92; refine (A5.out _ hB.out).mono ?_; rintro e w' ⟨rfl, b⟩; replace hB := Za (Zb hB.out b); (try (replace hC := Za (Zb hC.out b))); clear b)
   | (go_at_call 72; refine (B5.out _ hB.out).mono ?_; rintro e w' ⟨rfl, b⟩; replace hB := Za (Zb hB.out b); (try (replace hC := Za (Zb hC.out b))); clear b)
   | (go_at_call 81; refine (A6.out _ hB.out).mono ?_; rintro e w' ⟨rfl, b⟩; replace hB := Za (Zb hB.out b); (try (replace hC := Za (Zb hC.out b))); clear b)
   | (go_at_call 93; refine (B6.out _ hB.out).mono ?_; rintro e w' ⟨rfl, b⟩; replace hB := Za (Zb hB.out b); (try (replace hC := Za (Zb hC.out b))); clear b)
   | (go_at_call 94; refine (A7.out _ hB.out).mono ?_; rintro e w' ⟨rfl, b⟩; replace hB := Za (Zb hB.out b); (try (replace hC := Za (Zb hC.out b))); clear b)
   | (go_at_call 95; refine (B7.out _ hB.out).mono ?_; rintro e w' ⟨rfl, b⟩; replace hB := Za (Zb hB.out b); (try (replace hC := Za (Zb hC.out b))); clear b)
   | (go_at_call 96; refine (A8.out _ hB.out).mono ?_; rintro e w' ⟨rfl, b⟩; replace hB := Za (Zb hB.out b); (try (replace hC := Za (Zb hC.out b))); clear b)
   | (go_at_call 97; refine (B8.out _ hB.out).mono ?_; rintro e w' ⟨rfl, b⟩; replace hB := Za (Zb hB.out b); (try (replace hC := Za (Zb hC.out b))); clear b)
   | (go_at_call 98; refine (A9.out _ hB.out).mono ?_; rintro e w' ⟨rfl, b⟩; replace hB := Za (Zb hB.out b); (try (replace hC := Za (Zb hC.out b))); clear b)
   | (go_at_call 99; refine (B9.out _ hB.out).mono ?_; rintro e w' ⟨rfl, b⟩; replace hB := Za (Zb hB.out b); (try (replace hC := Za (Zb hC.out b))); clear b)
   | (go_at_call 100; refine (AV.out _ hB.out).mono ?_; first | (have HQ := HOV; rintro e w' ⟨v3, sp3, rfl, o3, b⟩; obtain ⟨a3, c3, rfl⟩ := o3.slice; have HU3 := Za o3.reads; clear o3; replace hB := Za (Zb hB.out b); (try (replace hC := Za (Zb hC.out b))); clear b) | (have HQ := HU1; rintro e w2 ⟨v2, sp2, rfl, o2, b⟩; obtain ⟨a2, c2, rfl⟩ := o2.slice; have HU2 := Za (o2.later (Nat.zero_le _)); have HNE : Hid (∀ k, (Value.slice a1 bs.length c1).ownBlock = some k → (Value.slice a2 bs.length c2).ownBlock ≠ some k) := (fun k e1 e2 => absurd (HU1.out.lt k e1).2 (by have := (o2.lt k e2).1; omega)); have HUA := Za ((HU1.out.grow b).later (Nat.zero_le _)); have HB1 : Hid (∀ k, (Value.slice a1 bs.length c1).ownBlock = some k → w.heap.size ≤ k) := (fun k e1 => Nat.le_trans HSZ.out (HU1.out.lt k e1).1); have hC := Za (Below.refl w2.heap.size w2); replace hB := Za (Zb hB.out b); clear o2 b) | (have HSZ := Za hB.out.size; rintro e w1 ⟨v1, sp1, rfl, o1, b⟩; obtain ⟨a1, c1, rfl⟩ := o1.slice; have HU1 := Za o1; clear o1; replace hB := Za (Zb hB.out b); clear b))
   | (go_at_call 102; refine (BV.out _ hB.out).mono ?_; rintro e w' ⟨rfl, b⟩; first | (have HQ := HU3; replace HU3 := Za (HU3.out.grow b); replace hB := Za (Zb hB.out b); clear HQ b) | (replace hB := Za (Zb hB.out b); (try (replace hC := Za (Zb hC.out b))); clear b))
   | (go_at_call 101; first | (refine (Zhn _ _ bs bs _ HU3.out (BR.out _ hB.out)).mono ?_; rintro e w' ⟨rfl, hx⟩; rw [hx]; clear hx w') | (refine (Zhn _ _ bs bs _ (HUA.out.grow hC.out).reads (BR.out _ hB.out)).mono ?_; rintro e w' ⟨rfl, hx⟩; rw [hx]; clear hx w'))
   | (go_at_call 103; refine (Zjj 0 _ 0 2 2 _ _ _ _ (by omega) (Zlw (HUA.out.grow hC.out) (HU2.out.grow hC.out) HNE.out) (Nat.le_refl _)).mono ?_; rintro e w' ⟨rfl, b0⟩; have b := Zb (Zg _ _) b0; clear b0; replace hB := Za (Zb hB.out b); (try (replace hC := Za (Zb hC.out b))); clear b)
   | (go_at_call 26; refine (Zld 0 _ bs _ _ (HUA.out.grow hC.out)).mono ?_; rintro e w' ⟨rfl, -, g4, -⟩; have HOV := Za g4; replace hB := Za (Zjg hB.out g4 HB1.out); clear g4)
   | (go_at_call 104; refine (A10.out _ hB.out).mono ?_; rintro e w' ⟨rfl, b⟩; replace hB := Za (Zb hB.out b); clear b)
   | (go_at_call 105; refine (B12.out _ hB.out).mono ?_; rintro e w' ⟨rfl, b⟩; replace hB := Za (Zb hB.out b); clear b)
   | (go_at_call 106; refine (A11.out _ hB.out).mono ?_; rintro e w' ⟨rfl, b⟩; replace hB := Za (Zb hB.out b); clear b)
   | (go_at_call 107; refine (B13.out _ hB.out).mono ?_; rintro e w' ⟨rfl, b⟩; replace hB := Za (Zb hB.out b); clear b))
  go_ret
  exact ⟨rfl, hB.out⟩)
theorem Yae {w0 w : World} {S : List Nat} {q room : Nat} {cs : List (Nat × Ce)} {fr : List Nat} (h : Hr w0 S w q room cs fr) (x : Int) : ∃ v, ∀ w', Below w.heap.size w w' → Reads w' v (cat cs x).bs ∧ Calls Tryz.prog 102 #[.pointer (some ⟨q, 0, none⟩), .int .i64 x] w' fun e w'' => e = .returned v ∧ Below w'.heap.size w' w'' := by
 obtain ⟨⟨ss, ⟨vp, vf, s, m, n⟩, R⟩, W, I⟩ := h
 refine ⟨(sat ss x).val, fun w' hb => ⟨?_, Zur (s.grow hb) x⟩⟩
 have := Yid (s.grow hb) x
 rwa [(Zbt R W x).bs] at this
def thP (c : Ce) (K bs : List Int) : Bool := decide (c.kind = 1) && (decide (c.key = K) && decide (c.bs = bs))
theorem Zoh {w0 w : World} {S : List Nat} {q room : Nat} {cs : List (Nat × Ce)} {fr : List Nat} (V : Hr w0 S w q room cs fr) (h5 : room ≤ 5000) (x : Int) (K : List Int) (hK : Key K) (u : Value) (bs : List Int) (hu : Reads w u bs) : Calls Tryz.prog 115 #[.pointer (some ⟨q, 0, none⟩), .int .i64 x, .agg (B K), u] w fun e w' => e = .returned (.bool (thP (cat cs x) K bs)) ∧ Below w.heap.size w w' := by
 have HKD : Hid (∀ w', Below w.heap.size w w' → Calls Tryz.prog 54 #[.pointer (some ⟨q, 0, none⟩), .int .i64 x] w' fun e w'' => e = .returned (.int .u8 (cat cs x).kind) ∧ Below w'.heap.size w' w'') := fun w' hb => Zlk (V.grow hb) x
 have HKY : Hid (∀ w', Below w.heap.size w w' → Calls Tryz.prog 97 #[.pointer (some ⟨q, 0, none⟩), .int .i64 x] w' fun e w'' => e = .returned (.agg (B (cat cs x).key)) ∧ Below w'.heap.size w' w'') := fun w' hb => Zwf (V.grow hb) h5 x
 obtain ⟨vv, hvv⟩ := Yae V x
 have hbv : Bytes (cat cs x).bs := by obtain ⟨_, _, _, _, _, h, _⟩ := (hvv w (Below.refl _ _)).1; exact h
 have HVL : Hid (∀ w', Below w.heap.size w w' → Calls Tryz.prog 102 #[.pointer (some ⟨q, 0, none⟩), .int .i64 x] w' fun e w'' => e = .returned vv ∧ Below w'.heap.size w' w'') := fun w' hb => (hvv w' hb).2
 have HCV : Hid (∀ w', Below w.heap.size w w' → (convert 32 9 vv).run Tryz.prog w' = .ok (.string (strOfNums (cat cs x).bs)) w') := fun w' hb => Zbh (hvv w' hb).1
 have HCU : Hid (∀ w', Below w.heap.size w w' → (convert 32 9 u).run Tryz.prog w' = .ok (.string (strOfNums bs)) w') := fun w' hb => Zbh (hu.grow hb)
 have HPL : Hid ((Tryz.prog.info? 31).map (·.size) = some (B K).toList.length) := by show _ = _; rw [Array.length_toList, Zj, hK.1]; exact Zk
 have hkl : (cat cs x).key.length = 32 := (V.wf.catOk x).hk.1
 have hEK := fun w => Zdk (cat cs x).key K hkl hK.1 w
 have hu' := hu
 obtain ⟨ua, uc, rfl, _, _, hbu, _⟩ := hu
 obtain ⟨u, hue⟩ : ∃ u, u = Value.slice ua bs.length uc := ⟨_, rfl⟩
 rw [← hue] at HCU ⊢
 clear hue
 unfold thP
 generalize (cat cs x).kind = kd at HKD ⊢
 generalize (cat cs x).key = ky at HKY hEK hkl ⊢
 generalize (cat cs x).bs = vs at HCV hbv ⊢
 have HBE : Hid (((strOfNums vs).toList == (strOfNums bs).toList) = decide (vs = bs)) := Zod vs bs hbv hbu
 clear V hu' hkl hvv hbv hbu
 by_cases k1 : kd = 1
 ·subst k1
  by_cases k2 : ky = K
  ·have k3 := k2.symm
   clear k2
   subst k3
   simp only [decide_true, Bool.true_and] at hEK ⊢
   clear hK
   go_enter Tryz.func115, Tryz.ntmps115
   go_wp2_with (first
    | ((with_reducible refine Zo 6 ?_); refine Zc _ rfl _ _ rfl _ rfl ?_; intro w1 b5 hg5 hl5 B5 q5; have HB5 := Za B5; have HQ1 := Za q5; clear hg5 hl5 B5 q5))
   refine wp_region_held_drew (S := fun w' => Below w1.heap.size w1 w') (by kernel_rfl) ((below_drewN (Below.refl _ _) 1)) (fun hHeld => ?_)
   refine tkp 0 (.pointer (some ⟨q, 0, none⟩)) hHeld ?_
   simp only [zq]
   refine tkp 1 (.int .i64 x) hHeld ?_
   simp only [zq]
   refine wpAnyH_ready (rs := [2]) (by kernel_rfl) (by simp) ?_
   refine AllReadyH.cons rfl (fun KQ hK => ?_) AllReadyH.nil
   go_simp
   refine (HKD.out _ (Zb HQ1.out hHeld)).mono ?_
   rintro e z1 ⟨rfl, a1⟩
   refine hK.out _ _ (Zb hHeld a1) (fun hHeld => ?_)
   clear hK KQ
   refine tkp 3 (.bool true) hHeld ?_
   simp only [zq]
   refine tkp 4 (.bool true) hHeld ?_
   simp only [zq]
   refine tkp 5 (.pointer (some ⟨q, 0, none⟩)) hHeld ?_
   simp only [zq]
   refine tkp 6 (.int .i64 x) hHeld ?_
   simp only [zq]
   refine tkg 8 (.agg (B K)) rfl (yieldsIf_load_mid rfl 31 (.tmp 6) rfl b5 0 rfl (B K).toList _ (fun w hS => (HB5.out.grow hS).range) Tryz.underlying31 rfl HPL.out) hHeld ?_
   simp only [zq]
   refine wpAnyH_ready (rs := [7]) (by kernel_rfl) (by simp) ?_
   refine AllReadyH.cons rfl (fun KQ hK => ?_) AllReadyH.nil
   go_simp
   refine (HKY.out _ (Zb HQ1.out hHeld)).mono ?_
   rintro e z2 ⟨rfl, a2⟩
   refine hK.out _ _ (Zb hHeld a2) (fun hHeld => ?_)
   clear hK KQ
   refine tkp 9 (.bool true) hHeld ?_
   simp only [zq]
   refine tkp 10 (.bool true) hHeld ?_
   simp only [zq]
   refine tkp 11 (.bool true) hHeld ?_
   simp only [zq]
   refine tkp 12 (.pointer (some ⟨q, 0, none⟩)) hHeld ?_
   simp only [zq]
   refine tkp 13 (.int .i64 x) hHeld ?_
   simp only [zq]
   refine tkp 16 u hHeld ?_
   simp only [zq]
   refine tkg 17 (.string (strOfNums bs)) rfl (Or.inl ⟨by rfl, fun w hS => by (have cu := HCU.out _ (Zb HQ1.out hS); go_simp)⟩) hHeld ?_
   simp only [zq]
   refine wpAnyH_ready (rs := [14]) (by kernel_rfl) (by simp) ?_
   refine AllReadyH.cons rfl (fun KQ hK => ?_) AllReadyH.nil
   go_simp
   refine (HVL.out _ (Zb HQ1.out hHeld)).mono ?_
   rintro e z3 ⟨rfl, a3⟩
   refine hK.out _ _ (Zb hHeld a3) (fun hHeld => ?_)
   clear hK KQ
   refine tkg 15 (.string (strOfNums vs)) rfl (Or.inl ⟨by rfl, fun w hS => by (have cv := HCV.out _ (Zb HQ1.out hS); go_simp)⟩) hHeld ?_
   simp only [zq]
   refine tkp 18 (.bool ((strOfNums vs).toList == (strOfNums bs).toList)) hHeld ?_
   simp only [zq]
   refine tkp 19 (.bool ((strOfNums vs).toList == (strOfNums bs).toList)) hHeld ?_
   simp only [zq]
   refine tkp 20 (.bool ((strOfNums vs).toList == (strOfNums bs).toList)) hHeld ?_
   simp only [zq]
   refine wpAnyH_done (by kernel_rfl) ?_ _
   go_wp2
   go_ret
   exact ⟨by rw [← HBE.out]; rfl, Zb HQ1.out hHeld⟩
  ·have k2' : decide (ky = K) = false := by simp [k2]
   rw [k2'] at hEK ⊢
   simp only [decide_true, Bool.true_and, Bool.false_and]
   clear k2' hK
   go_enter Tryz.func115, Tryz.ntmps115
   go_wp2_with (first
    | ((with_reducible refine Zo 6 ?_); refine Zc _ rfl _ _ rfl _ rfl ?_; intro w1 b5 hg5 hl5 B5 q5; have HB5 := Za B5; have HQ1 := Za q5; clear hg5 hl5 B5 q5))
   refine wp_region_held_drew (S := fun w' => Below w1.heap.size w1 w') (by kernel_rfl) ((below_drewN (Below.refl _ _) 1)) (fun hHeld => ?_)
   refine tkp 0 (.pointer (some ⟨q, 0, none⟩)) hHeld ?_
   simp only [zq]
   refine tkp 1 (.int .i64 x) hHeld ?_
   simp only [zq]
   refine wpAnyH_ready (rs := [2]) (by kernel_rfl) (by simp) ?_
   refine AllReadyH.cons rfl (fun KQ hK => ?_) AllReadyH.nil
   go_simp
   refine (HKD.out _ (Zb HQ1.out hHeld)).mono ?_
   rintro e z1 ⟨rfl, a1⟩
   refine hK.out _ _ (Zb hHeld a1) (fun hHeld => ?_)
   clear hK KQ
   refine tkp 3 (.bool true) hHeld ?_
   simp only [zq]
   refine tkp 4 (.bool true) hHeld ?_
   simp only [zq]
   refine tkp 5 (.pointer (some ⟨q, 0, none⟩)) hHeld ?_
   simp only [zq]
   refine tkp 6 (.int .i64 x) hHeld ?_
   simp only [zq]
   refine tkg 8 (.agg (B K)) rfl (yieldsIf_load_mid rfl 31 (.tmp 6) rfl b5 0 rfl (B K).toList _ (fun w hS => (HB5.out.grow hS).range) Tryz.underlying31 rfl HPL.out) hHeld ?_
   simp only [zq]
   refine wpAnyH_ready (rs := [7]) (by kernel_rfl) (by simp) ?_
   refine AllReadyH.cons rfl (fun KQ hK => ?_) AllReadyH.nil
   go_simp
   refine (HKY.out _ (Zb HQ1.out hHeld)).mono ?_
   rintro e z2 ⟨rfl, a2⟩
   refine hK.out _ _ (Zb hHeld a2) (fun hHeld => ?_)
   clear hK KQ
   refine tkp 9 (.bool false) hHeld ?_
   simp only [zq]
   refine tkp 10 (.bool false) hHeld ?_
   simp only [zq]
   refine tkp 11 (.bool false) hHeld ?_
   simp only [zq]
   refine tks 12 hHeld ?_
   simp only [zq]
   refine tks 13 hHeld ?_
   simp only [zq]
   refine tks 14 hHeld ?_
   simp only [zq]
   refine tks 15 hHeld ?_
   simp only [zq]
   refine tks 16 hHeld ?_
   simp only [zq]
   refine tks 17 hHeld ?_
   simp only [zq]
   refine tks 18 hHeld ?_
   simp only [zq]
   refine tkp 19 (.bool false) hHeld ?_
   simp only [zq]
   refine tkp 20 (.bool false) hHeld ?_
   simp only [zq]
   refine wpAnyH_done (by kernel_rfl) ?_ _
   go_wp2
   go_ret
   exact ⟨rfl, Zb HQ1.out hHeld⟩
 ·have k1' : decide (kd = 1) = false := by simp [k1]
  rw [k1']
  simp only [Bool.false_and]
  clear k1' hEK hK
  go_enter Tryz.func115, Tryz.ntmps115
  go_wp2_with (first
   | ((with_reducible refine Zo 6 ?_); refine Zc _ rfl _ _ rfl _ rfl ?_; intro w1 b5 hg5 hl5 B5 q5; have HB5 := Za B5; have HQ1 := Za q5; clear hg5 hl5 B5 q5))
  refine wp_region_held_drew (S := fun w' => Below w1.heap.size w1 w') (by kernel_rfl) ((below_drewN (Below.refl _ _) 1)) (fun hHeld => ?_)
  refine tkp 0 (.pointer (some ⟨q, 0, none⟩)) hHeld ?_
  simp only [zq]
  refine tkp 1 (.int .i64 x) hHeld ?_
  simp only [zq]
  refine wpAnyH_ready (rs := [2]) (by kernel_rfl) (by simp) ?_
  refine AllReadyH.cons rfl (fun KQ hK => ?_) AllReadyH.nil
  go_simp
  refine (HKD.out _ (Zb HQ1.out hHeld)).mono ?_
  rintro e z1 ⟨rfl, a1⟩
  refine hK.out _ _ (Zb hHeld a1) (fun hHeld => ?_)
  clear hK KQ
  refine tkp 3 (.bool false) hHeld ?_
  simp only [zq]
  refine tkp 4 (.bool false) hHeld ?_
  simp only [zq]
  refine tks 5 hHeld ?_
  simp only [zq]
  refine tks 6 hHeld ?_
  simp only [zq]
  refine tks 7 hHeld ?_
  simp only [zq]
  refine tks 8 hHeld ?_
  simp only [zq]
  refine tks 9 hHeld ?_
  simp only [zq]
  refine tkp 10 (.bool false) hHeld ?_
  simp only [zq]
  refine tkp 11 (.bool false) hHeld ?_
  simp only [zq]
  refine tks 12 hHeld ?_
  simp only [zq]
  refine tks 13 hHeld ?_
  simp only [zq]
  refine tks 14 hHeld ?_
  simp only [zq]
  refine tks 15 hHeld ?_
  simp only [zq]
  refine tks 16 hHeld ?_
  simp only [zq]
  refine tks 17 hHeld ?_
  simp only [zq]
  refine tks 18 hHeld ?_
  simp only [zq]
  refine tkp 19 (.bool false) hHeld ?_
  simp only [zq]
  refine tkp 20 (.bool false) hHeld ?_
  simp only [zq]
  refine wpAnyH_done (by kernel_rfl) ?_ _
  go_wp2
  go_ret
  exact ⟨rfl, Zb HQ1.out hHeld⟩
theorem Yda {w : World} {S : List Nat} {q : Nat} {rt : Int} {K : List Int} {u : Value} {P : Ending → World → Prop} {RW RM : World → Nat → Nat → World → Prop} {hsl : List Nat} {wn sn : Nat} {sg : Nat → Nat} {fi : Int}
  (HS : Hid (∀ b, w.heap.size ≤ b → b ∉ S)) (HPS : Hid ((Tryz.prog.info? 31).map (·.size) = some (B K).size)) (HWN : Hid (wn = hsl.length)) (HLE : Hid (wn ≤ sn ∧ sn ≤ 256))
  (HWR : Hid (∀ w', Below w.heap.size w w' → Calls Tryz.prog 114 #[.pointer (some ⟨q, 0, none⟩), .int .i64 rt, u] w' fun e w'' => e = .returned (.int .i64 0) ∧ Below w'.heap.size w' w''))
  (HFT : Hid (∀ w', Below w.heap.size w w' → Calls Tryz.prog 61 #[.pointer (some ⟨q, 0, none⟩), .int .i64 1] w' fun e w'' => e = .returned (.bool true) ∧ Below w'.heap.size w' w''))
  (HWY : Hid (∀ w', Below w.heap.size w w' → Calls Tryz.prog 52 #[.pointer (some ⟨q, 0, none⟩), .int .i64 rt, .agg (B K)] w' fun e w'' => ∃ a c, e = .returned (.tuple #[.slice a wn c, .int .i64 fi]) ∧ w''.ownsRow w'.heap.size 3 1 (.slice a wn c) wn (nats hsl) ∧ Below w'.heap.size w' w''))
  (HTH : Hid (∀ w', Below w.heap.size w w' → Calls Tryz.prog 115 #[.pointer (some ⟨q, 0, none⟩), .int .i64 fi, .agg (B K), u] w' fun e w'' => e = .returned (.bool false) ∧ Below w'.heap.size w' w''))
  (HLF : Hid (∀ w5, Below w.heap.size w w5 → Calls Tryz.prog 24 #[.pointer (some ⟨q, 0, none⟩), .agg (B K), u] w5 fun e w'' => ∃ t : Nat, e = .returned (.tuple #[.int .i64 (t : Int), .int .i64 0]) ∧ RW w5 sn t w''))
  (HGR : Hid (∀ w5 m t w' w'', RW w5 m t w' → Below w'.heap.size w' w'' → RW w5 m t w'')) (HKP : Hid (∀ w5 m t w' (Q : World → Prop), Kq S w5 Q → RW w5 m t w' → Q w')) (HKM : Hid (∀ w5 m t w' (Q : World → Prop), Kq S w5 Q → RM w5 m t w' → Q w'))
  (HNO : Hid (∀ w5 m t w', sg m = 0 → RW w5 (m + 1) t w' → RM w5 m t w'))
  (HHO : Hid (∀ w5 m t w', m < sn → sg m ≠ 0 → RW w5 (m + 1) t w' → Calls Tryz.prog 28 #[.pointer (some ⟨q, 0, none⟩), .int .i64 (sg m : Int)] w' fun e w'' => e = .returned (.int .i64 0) ∧ RM w5 m t w''))
  (HMA : Hid (∀ w5 m (t : Nat) w', m < sn → RM w5 m t w' → Calls Tryz.prog 119 #[.pointer (some ⟨q, 0, none⟩), .agg (B K), .int .i64 (m : Int), .int .i64 (t : Int), .int .i64 (sg m : Int)] w' fun e w'' => ∃ t' : Nat, e = .returned (.int .i64 (t' : Int)) ∧ RW w5 m t' w''))
  (HOT : Hid (∀ w5 m t w', m < wn → RW w5 (m + 1) t w' → Calls Tryz.prog 55 #[.pointer (some ⟨q, 0, none⟩), .agg (B K), .int .i64 (m : Int), .int .i64 (hsl.getD m 0 : Int)] w' fun e w'' => e = .returned (.int .i64 (sg m : Int)) ∧ RW w5 (m + 1) t w''))
  (HDR : Hid (0 < rt → ∀ w5 (t : Nat) w', Below w.heap.size w w5 → RW w5 0 t w' → Calls Tryz.prog 32 #[.pointer (some ⟨q, 0, none⟩), .int .i64 rt] w' fun e w'' => ∃ x y : Int, e = .returned (.tuple #[.int .i64 x, .int .i64 y]) ∧ P (.returned (.tuple #[.int .i64 (t : Int), .int .i64 0])) w''))
  (HND : Hid (rt ≤ 0 → ∀ w5 (t : Nat) w', Below w.heap.size w w5 → RW w5 0 t w' → P (.returned (.tuple #[.int .i64 (t : Int), .int .i64 0])) w'))
  (HKD : Hid (∀ w5 t w', RW w5 sn t w' → Calls Tryz.prog 54 #[.pointer (some ⟨q, 0, none⟩), .int .i64 fi] w' fun e w'' => e = .returned (.int .u8 0) ∧ RW w5 sn t w''))  (HSW : wn = sn) : Calls Tryz.prog 46 #[.pointer (some ⟨q, 0, none⟩), .int .i64 rt, .agg (B K), u] w P := by
 have HPL : Hid ((Tryz.prog.info? 31).map (·.size) = some (B K).toList.length) := by show _ = _; rw [Array.length_toList]; exact HPS.out
 have hw256 : wn ≤ 256 := by have := HLE.out; omega
 have hww : wrap64 ((wn : Int) - 1) = (wn : Int) - 1 := Go.IntWalk.wrap64_in _ (by omega)
 have u0 := (⟨HNO, HHO, HMA, HOT, HKM⟩ : _ ∧ _ ∧ _ ∧ _ ∧ _)
 clear u0
 subst HSW
 go_enter Tryz.func46, Tryz.ntmps46
 go_wp2_with (first
  | ((with_reducible refine Zo 6 ?_); refine Zc _ rfl _ _ rfl _ rfl ?_; intro w1 b6 hg6 hl6 B6 q6; have HB1 := Za B6; have HQ1 := Za q6; have HG6 := Za hg6; clear hg6 hl6 B6 q6)
  | (go_at_call 114; refine (HWR.out _ HQ1.out).mono ?_; rintro e w2 ⟨rfl, b2⟩; have HQ2 := Za (Zb HQ1.out b2); have HB2 := Za (HB1.out.grow b2); clear b2)
  | (go_at_call 61; refine (HFT.out _ HQ2.out).mono ?_; rintro e w3 ⟨rfl, b3⟩; have HQ3 := Za (Zb HQ2.out b3); have HB3 := Za (HB2.out.grow b3); clear b3)
  | ((with_reducible refine Zl 32 6 ?_); refine Zh _ rfl _ _ rfl b6 _ rfl HB3.out _ _ Tryz.underlying31 HPS.out ?_)
  | (go_at_call 52; refine (HWY.out _ HQ3.out).mono ?_; rintro e w4 ⟨wa, wc, rfl, o4, b4⟩; have HO4 := Za (Zax o4 HQ3.out.size); have HQ4 := Za (Zb HQ3.out b4); have HB4 := Za (HB3.out.grow b4); clear b4 o4)
  | ((with_reducible refine Zl 38 6 ?_); refine Zh _ rfl _ _ rfl b6 _ rfl HB4.out _ _ Tryz.underlying31 HPS.out ?_)
  | (go_at_call 115; refine (HTH.out _ HQ4.out).mono ?_; rintro e w5 ⟨rfl, b5⟩; have HQ5 := Za (Zb HQ4.out b5); have HB5 := Za (HB4.out.grow b5); have HB6 := Za (Kq.blk HB5.out (HS.out b6 HG6.out)); have HI6 : Hid (Kq S w5 (fun w' => Ints9 w' wa hsl)) := Zfx (Zp HO4.out b5) HWN.out (fun g hg => HS.out g (HO4.out.lt g hg).1); clear b5)
  | ((with_reducible refine Zl 44 6 ?_); refine Zh _ rfl _ _ rfl b6 _ rfl HB5.out _ _ Tryz.underlying31 HPS.out ?_)
  | (go_at_call 24; refine (HLF.out _ HQ5.out).mono ?_; rintro e w6 ⟨t0, rfl, r6⟩; have HR6 := Za r6; clear r6))
 clear HWR HFT HWY HTH HLF HB1 HB2 HB3 HB4 HB5 HQ1 HQ2 HQ3 HQ4 HO4
 have hRd := HGR.out _ _ _ _ _ HR6.out (below_drewN (Below.refl w6.heap.size w6) 1)
 refine wp_region_held_drew (S := fun w' => Blk w' b6 31 (B K)) (by kernel_rfl) (HKP.out _ _ _ _ _ HB6.out hRd) (fun hHeld => ?_)
 refine tkp 0 (.pointer (some ⟨q, 0, none⟩)) hHeld ?_
 simp only [zq]
 refine tkp 1 (.int .i64 fi) hHeld ?_
 simp only [zq]
 refine wpAnyH_ready (rs := [2]) (by kernel_rfl) (by simp) ?_
 refine AllReadyH.cons rfl (fun KQ hK => ?_) AllReadyH.nil
 go_simp
 refine (HKD.out _ _ _ hRd).mono ?_
 rintro e z1 ⟨rfl, r1⟩
 refine hK.out _ _ (HKP.out _ _ _ _ _ HB6.out r1) (fun hHeld => ?_)
 clear hK KQ
 refine tkp 3 (.bool false) hHeld ?_
 simp only [zq]
 refine tkp 4 (.bool false) hHeld ?_
 simp only [zq]
 refine tks 5 hHeld ?_
 simp only [zq]
 refine tks 6 hHeld ?_
 simp only [zq]
 refine tks 7 hHeld ?_
 simp only [zq]
 refine tks 8 hHeld ?_
 simp only [zq]
 refine tks 9 hHeld ?_
 simp only [zq]
 refine tkp 10 (.bool false) hHeld ?_
 simp only [zq]
 refine wpAnyH_done (by kernel_rfl) ?_ _
 replace HR6 := Za r1
 clear hRd hHeld r1
 go_wp2_with fail
 go_loopw [13, 17] (fun nv dv wr => ∃ (j t : Nat), j ≤ wn ∧ nv = .int .i64 (t : Int) ∧ dv = .int .i64 ((j : Int) - 1) ∧ Hid (RW w5 j t wr)) (fun _ dv _ => (intOf dv + 1).toNat)
 case atStart => exact ⟨wn, t0, Nat.le_refl _, rfl, rfl, HR6⟩
 case round =>
  clear HR6
  obtain ⟨j, t, hj, rfl, rfl, hR⟩ := hrel
  by_cases hj0 : 0 < j
  ·obtain ⟨m, rfl⟩ : ∃ m, j = m + 1 := ⟨j - 1, by omega⟩
   rw [show (((m + 1 : Nat) : Int) - 1) = (m : Int) by omega]
   have i1 : (0 : Int) ≤ (m : Int) := by omega
   have i2 : (m : Int) < (wn : Int) := by omega
   have hwm : wrap64 ((m : Int) - 1) = (m : Int) - 1 := Go.IntWalk.wrap64_in _ (by omega)
   have hmw : m < wn := by omega
   have hmn : m < wn := by have := HLE.out.1; omega
   obtain ⟨lb, rfl, -⟩ := HI6.out.now m (by rw [← HWN.out]; exact hmw)
   have HO2 : Hid (∀ w5 t w', RW w5 (m + 1) t w' → Calls Tryz.prog 55 #[.pointer (some ⟨q, 0, none⟩), .agg (B K), .int .i64 (m : Int), .int .i64 (hsl.getD m 0 : Int)] w' fun e w'' => e = .returned (.int .i64 (sg m : Int)) ∧ RW w5 (m + 1) t w'') := fun w5 t w' hr => HOT.out w5 m t w' hmw hr
   have hcl : ∀ {w'}, Ints9 w' (some ⟨lb, 0, none⟩) hsl → w'.cell? ⟨lb, m, none⟩ = some (.int .i64 (hsl.getD m 0 : Int)) := fun {w'} hi => by
    obtain ⟨g', e1, e2⟩ := hi m (by rw [← HWN.out]; exact hmw)
    injection e1 with e1
    injection e1 with e1
    rw [e1]
    exact e2
   generalize (hsl.getD m 0 : Int) = xx at HO2 hcl
   have hRd := HGR.out _ _ _ _ _ hR.out (below_drewN (Below.refl wr.heap.size wr) 1)
   go_wp2_with fail
   refine wp_region_held_drew (S := fun w' => Blk w' b6 31 (B K) ∧ w'.cell? ⟨lb, m, none⟩ = some (.int .i64 xx)) (by kernel_rfl) (⟨HKP.out _ _ _ _ _ HB6.out hRd, hcl (HKP.out _ _ _ _ _ HI6.out hRd)⟩) (fun hHeld => ?_)
   refine tkp 0 (.pointer (some ⟨q, 0, none⟩)) hHeld ?_
   simp only [zq]
   refine tkg 1 (.agg (B K)) rfl (yieldsIf_load_mid rfl 31 (.tmp 6) rfl b6 0 rfl (B K).toList _ (fun w hS => hS.1.range) Tryz.underlying31 rfl HPL.out) hHeld ?_
   simp only [zq]
   refine tkp 2 (.int .i64 (m : Int)) hHeld ?_
   simp only [zq]
   refine tkp 3 (.slice (some ⟨lb, 0, none⟩) wn wc) hHeld ?_
   simp only [zq]
   refine tkp 4 (.int .i64 (m : Int)) hHeld ?_
   simp only [zq]
   refine tkp 5 (.pointer (some ⟨lb, m, none⟩)) hHeld ?_
   simp only [zq]
   refine tkg 6 (.int .i64 xx) rfl (Or.inl ⟨by rfl, fun w hS => by (have q1 := hS.2; go_simp)⟩) hHeld ?_
   simp only [zq]
   refine wpAnyH_ready (rs := [7]) (by kernel_rfl) (by simp) ?_
   refine AllReadyH.cons rfl (fun KQ hK => ?_) AllReadyH.nil
   go_simp
   refine (HO2.out _ _ _ hRd).mono ?_
   rintro e z1 ⟨rfl, r1⟩
   refine hK.out _ _ (⟨HKP.out _ _ _ _ _ HB6.out r1, hcl (HKP.out _ _ _ _ _ HI6.out r1)⟩) (fun hHeld => ?_)
   clear hK KQ
   refine tkp 8 (.int .i64 (sg m : Int)) hHeld ?_
   simp only [zq]
   refine wpAnyH_done (by kernel_rfl) ?_ _
   have HR1 := Za r1
   clear r1 hRd hHeld hcl hR
   by_cases o0 : sg m = 0
   ·have o1 : ¬ (0 : Int) < (sg m : Int) := by omega
    have HM1 := Za (HNO.out _ _ _ _ o0 HR1.out)
    clear o0
    go_wp2_with (first
     | ((with_reducible refine Zl 108 6 ?_); refine Zh _ rfl _ _ rfl b6 _ rfl (HKM.out _ _ _ _ _ HB6.out HM1.out) _ _ Tryz.underlying31 HPS.out ?_)
     | (go_at_call 119; refine (HMA.out _ _ _ _ hmn HM1.out).mono ?_; rintro e z3 ⟨t3, rfl, r3⟩; have HR3 := Za r3; clear r3))
    exact ⟨⟨m, t3, by omega, rfl, rfl, HR3⟩, by first | (simp [intOf]; done) | (simp [intOf]; omega)⟩
   ·have o1 : (0 : Int) < (sg m : Int) := by omega
    have HHM := Za (HHO.out _ _ _ _ hmn o0 HR1.out)
    clear o0
    go_wp2_with (first
     | (go_at_call 28; refine HHM.out.mono ?_; rintro e z2 ⟨rfl, m1⟩; have HM1 := Za m1; clear m1)
     | ((with_reducible refine Zl 108 6 ?_); refine Zh _ rfl _ _ rfl b6 _ rfl (HKM.out _ _ _ _ _ HB6.out HM1.out) _ _ Tryz.underlying31 HPS.out ?_)
     | (go_at_call 119; refine (HMA.out _ _ _ _ hmn HM1.out).mono ?_; rintro e z3 ⟨t3, rfl, r3⟩; have HR3 := Za r3; clear r3))
    exact ⟨⟨m, t3, by omega, rfl, rfl, HR3⟩, by first | (simp [intOf]; done) | (simp [intOf]; omega)⟩
  ·obtain rfl : j = 0 := by omega
   have i1 : ¬ (0 : Int) ≤ ((0 : Nat) : Int) - 1 := by omega
   by_cases hrt : 0 < rt
   ·have HD2 := Za (HDR.out hrt _ _ _ HQ5.out hR.out)
    go_wp2_with (first
     | (go_at_call 32; refine HD2.out.mono ?_; rintro e z4 ⟨x4, y4, rfl, p4⟩; have HP4 := Za p4; clear p4))
    exact HP4.out
   ·have HP4 := Za (HND.out (by omega) _ _ _ HQ5.out hR.out)
    go_wp2_with fail
    exact HP4.out
theorem Ycz {w : World} {S : List Nat} {q : Nat} {rt : Int} {K : List Int} {u : Value} {P : Ending → World → Prop} {RW RM : World → Nat → Nat → World → Prop} {hsl : List Nat} {wn sn : Nat} {sg : Nat → Nat} {fi : Int}
  (HS : Hid (∀ b, w.heap.size ≤ b → b ∉ S)) (HPS : Hid ((Tryz.prog.info? 31).map (·.size) = some (B K).size)) (HWN : Hid (wn = hsl.length)) (HLE : Hid (wn ≤ sn ∧ sn ≤ 256))
  (HWR : Hid (∀ w', Below w.heap.size w w' → Calls Tryz.prog 114 #[.pointer (some ⟨q, 0, none⟩), .int .i64 rt, u] w' fun e w'' => e = .returned (.int .i64 0) ∧ Below w'.heap.size w' w''))
  (HFT : Hid (∀ w', Below w.heap.size w w' → Calls Tryz.prog 61 #[.pointer (some ⟨q, 0, none⟩), .int .i64 1] w' fun e w'' => e = .returned (.bool true) ∧ Below w'.heap.size w' w''))
  (HWY : Hid (∀ w', Below w.heap.size w w' → Calls Tryz.prog 52 #[.pointer (some ⟨q, 0, none⟩), .int .i64 rt, .agg (B K)] w' fun e w'' => ∃ a c, e = .returned (.tuple #[.slice a wn c, .int .i64 fi]) ∧ w''.ownsRow w'.heap.size 3 1 (.slice a wn c) wn (nats hsl) ∧ Below w'.heap.size w' w''))
  (HTH : Hid (∀ w', Below w.heap.size w w' → Calls Tryz.prog 115 #[.pointer (some ⟨q, 0, none⟩), .int .i64 fi, .agg (B K), u] w' fun e w'' => e = .returned (.bool false) ∧ Below w'.heap.size w' w''))
  (HLF : Hid (∀ w5, Below w.heap.size w w5 → Calls Tryz.prog 24 #[.pointer (some ⟨q, 0, none⟩), .agg (B K), u] w5 fun e w'' => ∃ t : Nat, e = .returned (.tuple #[.int .i64 (t : Int), .int .i64 0]) ∧ RW w5 sn t w''))
  (HGR : Hid (∀ w5 m t w' w'', RW w5 m t w' → Below w'.heap.size w' w'' → RW w5 m t w'')) (HKP : Hid (∀ w5 m t w' (Q : World → Prop), Kq S w5 Q → RW w5 m t w' → Q w')) (HKM : Hid (∀ w5 m t w' (Q : World → Prop), Kq S w5 Q → RM w5 m t w' → Q w'))
  (HNO : Hid (∀ w5 m t w', sg m = 0 → RW w5 (m + 1) t w' → RM w5 m t w'))
  (HHO : Hid (∀ w5 m t w', m < sn → sg m ≠ 0 → RW w5 (m + 1) t w' → Calls Tryz.prog 28 #[.pointer (some ⟨q, 0, none⟩), .int .i64 (sg m : Int)] w' fun e w'' => e = .returned (.int .i64 0) ∧ RM w5 m t w''))
  (HMA : Hid (∀ w5 m (t : Nat) w', m < sn → RM w5 m t w' → Calls Tryz.prog 119 #[.pointer (some ⟨q, 0, none⟩), .agg (B K), .int .i64 (m : Int), .int .i64 (t : Int), .int .i64 (sg m : Int)] w' fun e w'' => ∃ t' : Nat, e = .returned (.int .i64 (t' : Int)) ∧ RW w5 m t' w''))
  (HOT : Hid (∀ w5 m t w', m < wn → RW w5 (m + 1) t w' → Calls Tryz.prog 55 #[.pointer (some ⟨q, 0, none⟩), .agg (B K), .int .i64 (m : Int), .int .i64 (hsl.getD m 0 : Int)] w' fun e w'' => e = .returned (.int .i64 (sg m : Int)) ∧ RW w5 (m + 1) t w''))
  (HDR : Hid (0 < rt → ∀ w5 (t : Nat) w', Below w.heap.size w w5 → RW w5 0 t w' → Calls Tryz.prog 32 #[.pointer (some ⟨q, 0, none⟩), .int .i64 rt] w' fun e w'' => ∃ x y : Int, e = .returned (.tuple #[.int .i64 x, .int .i64 y]) ∧ P (.returned (.tuple #[.int .i64 (t : Int), .int .i64 0])) w''))
  (HND : Hid (rt ≤ 0 → ∀ w5 (t : Nat) w', Below w.heap.size w w5 → RW w5 0 t w' → P (.returned (.tuple #[.int .i64 (t : Int), .int .i64 0])) w'))
  (HKD : Hid (∀ w5 t w', RW w5 sn t w' → Calls Tryz.prog 54 #[.pointer (some ⟨q, 0, none⟩), .int .i64 fi] w' fun e w'' => e = .returned (.int .u8 1) ∧ RW w5 sn t w'')) (HKY : Hid (∀ w5 t w', RW w5 sn t w' → Calls Tryz.prog 97 #[.pointer (some ⟨q, 0, none⟩), .int .i64 fi] w' fun e w'' => e = .returned (.agg (B K)) ∧ RW w5 sn t w'')) (hEK : ∀ w, (Op.equalIn 10000 31 (.agg (B K)) (.agg (B K))).run Tryz.prog w = .ok true w) (HSW : wn = sn) : Calls Tryz.prog 46 #[.pointer (some ⟨q, 0, none⟩), .int .i64 rt, .agg (B K), u] w P := by
 have HPL : Hid ((Tryz.prog.info? 31).map (·.size) = some (B K).toList.length) := by show _ = _; rw [Array.length_toList]; exact HPS.out
 have hw256 : wn ≤ 256 := by have := HLE.out; omega
 have hww : wrap64 ((wn : Int) - 1) = (wn : Int) - 1 := Go.IntWalk.wrap64_in _ (by omega)
 have u0 := (⟨HNO, HHO, HMA, HOT, HKM⟩ : _ ∧ _ ∧ _ ∧ _ ∧ _)
 clear u0
 subst HSW
 go_enter Tryz.func46, Tryz.ntmps46
 go_wp2_with (first
  | ((with_reducible refine Zo 6 ?_); refine Zc _ rfl _ _ rfl _ rfl ?_; intro w1 b6 hg6 hl6 B6 q6; have HB1 := Za B6; have HQ1 := Za q6; have HG6 := Za hg6; clear hg6 hl6 B6 q6)
  | (go_at_call 114; refine (HWR.out _ HQ1.out).mono ?_; rintro e w2 ⟨rfl, b2⟩; have HQ2 := Za (Zb HQ1.out b2); have HB2 := Za (HB1.out.grow b2); clear b2)
  | (go_at_call 61; refine (HFT.out _ HQ2.out).mono ?_; rintro e w3 ⟨rfl, b3⟩; have HQ3 := Za (Zb HQ2.out b3); have HB3 := Za (HB2.out.grow b3); clear b3)
  | ((with_reducible refine Zl 32 6 ?_); refine Zh _ rfl _ _ rfl b6 _ rfl HB3.out _ _ Tryz.underlying31 HPS.out ?_)
  | (go_at_call 52; refine (HWY.out _ HQ3.out).mono ?_; rintro e w4 ⟨wa, wc, rfl, o4, b4⟩; have HO4 := Za (Zax o4 HQ3.out.size); have HQ4 := Za (Zb HQ3.out b4); have HB4 := Za (HB3.out.grow b4); clear b4 o4)
  | ((with_reducible refine Zl 38 6 ?_); refine Zh _ rfl _ _ rfl b6 _ rfl HB4.out _ _ Tryz.underlying31 HPS.out ?_)
  | (go_at_call 115; refine (HTH.out _ HQ4.out).mono ?_; rintro e w5 ⟨rfl, b5⟩; have HQ5 := Za (Zb HQ4.out b5); have HB5 := Za (HB4.out.grow b5); have HB6 := Za (Kq.blk HB5.out (HS.out b6 HG6.out)); have HI6 : Hid (Kq S w5 (fun w' => Ints9 w' wa hsl)) := Zfx (Zp HO4.out b5) HWN.out (fun g hg => HS.out g (HO4.out.lt g hg).1); clear b5)
  | ((with_reducible refine Zl 44 6 ?_); refine Zh _ rfl _ _ rfl b6 _ rfl HB5.out _ _ Tryz.underlying31 HPS.out ?_)
  | (go_at_call 24; refine (HLF.out _ HQ5.out).mono ?_; rintro e w6 ⟨t0, rfl, r6⟩; have HR6 := Za r6; clear r6))
 clear HWR HFT HWY HTH HLF HB1 HB2 HB3 HB4 HB5 HQ1 HQ2 HQ3 HQ4 HO4
 have hRd := HGR.out _ _ _ _ _ HR6.out (below_drewN (Below.refl w6.heap.size w6) 1)
 refine wp_region_held_drew (S := fun w' => Blk w' b6 31 (B K)) (by kernel_rfl) (HKP.out _ _ _ _ _ HB6.out hRd) (fun hHeld => ?_)
 refine tkp 0 (.pointer (some ⟨q, 0, none⟩)) hHeld ?_
 simp only [zq]
 refine tkp 1 (.int .i64 fi) hHeld ?_
 simp only [zq]
 refine wpAnyH_ready (rs := [2]) (by kernel_rfl) (by simp) ?_
 refine AllReadyH.cons rfl (fun KQ hK => ?_) AllReadyH.nil
 go_simp
 refine (HKD.out _ _ _ hRd).mono ?_
 rintro e z1 ⟨rfl, r1⟩
 refine hK.out _ _ (HKP.out _ _ _ _ _ HB6.out r1) (fun hHeld => ?_)
 clear hK KQ
 refine tkp 3 (.bool true) hHeld ?_
 simp only [zq]
 refine tkp 4 (.bool true) hHeld ?_
 simp only [zq]
 refine tkp 5 (.pointer (some ⟨q, 0, none⟩)) hHeld ?_
 simp only [zq]
 refine tkp 6 (.int .i64 fi) hHeld ?_
 simp only [zq]
 refine tkg 8 (.agg (B K)) rfl (yieldsIf_load_mid rfl 31 (.tmp 6) rfl b6 0 rfl (B K).toList _ (fun w hS => hS.range) Tryz.underlying31 rfl HPL.out) hHeld ?_
 simp only [zq]
 refine wpAnyH_ready (rs := [7]) (by kernel_rfl) (by simp) ?_
 refine AllReadyH.cons rfl (fun KQ hK => ?_) AllReadyH.nil
 go_simp
 refine (HKY.out _ _ _ r1).mono ?_
 rintro e z2 ⟨rfl, r2⟩
 refine hK.out _ _ (HKP.out _ _ _ _ _ HB6.out r2) (fun hHeld => ?_)
 clear hK KQ
 refine tkp 9 (.bool false) hHeld ?_
 simp only [zq]
 refine tkp 10 (.bool false) hHeld ?_
 simp only [zq]
 refine wpAnyH_done (by kernel_rfl) ?_ _
 replace HR6 := Za r2
 clear hRd hHeld r1 r2
 go_wp2_with fail
 go_loopw [13, 17] (fun nv dv wr => ∃ (j t : Nat), j ≤ wn ∧ nv = .int .i64 (t : Int) ∧ dv = .int .i64 ((j : Int) - 1) ∧ Hid (RW w5 j t wr)) (fun _ dv _ => (intOf dv + 1).toNat)
 case atStart => exact ⟨wn, t0, Nat.le_refl _, rfl, rfl, HR6⟩
 case round =>
  clear HR6
  obtain ⟨j, t, hj, rfl, rfl, hR⟩ := hrel
  by_cases hj0 : 0 < j
  ·obtain ⟨m, rfl⟩ : ∃ m, j = m + 1 := ⟨j - 1, by omega⟩
   rw [show (((m + 1 : Nat) : Int) - 1) = (m : Int) by omega]
   have i1 : (0 : Int) ≤ (m : Int) := by omega
   have i2 : (m : Int) < (wn : Int) := by omega
   have hwm : wrap64 ((m : Int) - 1) = (m : Int) - 1 := Go.IntWalk.wrap64_in _ (by omega)
   have hmw : m < wn := by omega
   have hmn : m < wn := by have := HLE.out.1; omega
   obtain ⟨lb, rfl, -⟩ := HI6.out.now m (by rw [← HWN.out]; exact hmw)
   have HO2 : Hid (∀ w5 t w', RW w5 (m + 1) t w' → Calls Tryz.prog 55 #[.pointer (some ⟨q, 0, none⟩), .agg (B K), .int .i64 (m : Int), .int .i64 (hsl.getD m 0 : Int)] w' fun e w'' => e = .returned (.int .i64 (sg m : Int)) ∧ RW w5 (m + 1) t w'') := fun w5 t w' hr => HOT.out w5 m t w' hmw hr
   have hcl : ∀ {w'}, Ints9 w' (some ⟨lb, 0, none⟩) hsl → w'.cell? ⟨lb, m, none⟩ = some (.int .i64 (hsl.getD m 0 : Int)) := fun {w'} hi => by
    obtain ⟨g', e1, e2⟩ := hi m (by rw [← HWN.out]; exact hmw)
    injection e1 with e1
    injection e1 with e1
    rw [e1]
    exact e2
   generalize (hsl.getD m 0 : Int) = xx at HO2 hcl
   have hRd := HGR.out _ _ _ _ _ hR.out (below_drewN (Below.refl wr.heap.size wr) 1)
   go_wp2_with fail
   refine wp_region_held_drew (S := fun w' => Blk w' b6 31 (B K) ∧ w'.cell? ⟨lb, m, none⟩ = some (.int .i64 xx)) (by kernel_rfl) (⟨HKP.out _ _ _ _ _ HB6.out hRd, hcl (HKP.out _ _ _ _ _ HI6.out hRd)⟩) (fun hHeld => ?_)
   refine tkp 0 (.pointer (some ⟨q, 0, none⟩)) hHeld ?_
   simp only [zq]
   refine tkg 1 (.agg (B K)) rfl (yieldsIf_load_mid rfl 31 (.tmp 6) rfl b6 0 rfl (B K).toList _ (fun w hS => hS.1.range) Tryz.underlying31 rfl HPL.out) hHeld ?_
   simp only [zq]
   refine tkp 2 (.int .i64 (m : Int)) hHeld ?_
   simp only [zq]
   refine tkp 3 (.slice (some ⟨lb, 0, none⟩) wn wc) hHeld ?_
   simp only [zq]
   refine tkp 4 (.int .i64 (m : Int)) hHeld ?_
   simp only [zq]
   refine tkp 5 (.pointer (some ⟨lb, m, none⟩)) hHeld ?_
   simp only [zq]
   refine tkg 6 (.int .i64 xx) rfl (Or.inl ⟨by rfl, fun w hS => by (have q1 := hS.2; go_simp)⟩) hHeld ?_
   simp only [zq]
   refine wpAnyH_ready (rs := [7]) (by kernel_rfl) (by simp) ?_
   refine AllReadyH.cons rfl (fun KQ hK => ?_) AllReadyH.nil
   go_simp
   refine (HO2.out _ _ _ hRd).mono ?_
   rintro e z1 ⟨rfl, r1⟩
   refine hK.out _ _ (⟨HKP.out _ _ _ _ _ HB6.out r1, hcl (HKP.out _ _ _ _ _ HI6.out r1)⟩) (fun hHeld => ?_)
   clear hK KQ
   refine tkp 8 (.int .i64 (sg m : Int)) hHeld ?_
   simp only [zq]
   refine wpAnyH_done (by kernel_rfl) ?_ _
   have HR1 := Za r1
   clear r1 hRd hHeld hcl hR
   by_cases o0 : sg m = 0
   ·have o1 : ¬ (0 : Int) < (sg m : Int) := by omega
    have HM1 := Za (HNO.out _ _ _ _ o0 HR1.out)
    clear o0
    go_wp2_with (first
     | ((with_reducible refine Zl 108 6 ?_); refine Zh _ rfl _ _ rfl b6 _ rfl (HKM.out _ _ _ _ _ HB6.out HM1.out) _ _ Tryz.underlying31 HPS.out ?_)
     | (go_at_call 119; refine (HMA.out _ _ _ _ hmn HM1.out).mono ?_; rintro e z3 ⟨t3, rfl, r3⟩; have HR3 := Za r3; clear r3))
    exact ⟨⟨m, t3, by omega, rfl, rfl, HR3⟩, by first | (simp [intOf]; done) | (simp [intOf]; omega)⟩
   ·have o1 : (0 : Int) < (sg m : Int) := by omega
    have HHM := Za (HHO.out _ _ _ _ hmn o0 HR1.out)
    clear o0
    go_wp2_with (first
     | (go_at_call 28; refine HHM.out.mono ?_; rintro e z2 ⟨rfl, m1⟩; have HM1 := Za m1; clear m1)
     | ((with_reducible refine Zl 108 6 ?_); refine Zh _ rfl _ _ rfl b6 _ rfl (HKM.out _ _ _ _ _ HB6.out HM1.out) _ _ Tryz.underlying31 HPS.out ?_)
     | (go_at_call 119; refine (HMA.out _ _ _ _ hmn HM1.out).mono ?_; rintro e z3 ⟨t3, rfl, r3⟩; have HR3 := Za r3; clear r3))
    exact ⟨⟨m, t3, by omega, rfl, rfl, HR3⟩, by first | (simp [intOf]; done) | (simp [intOf]; omega)⟩
  ·obtain rfl : j = 0 := by omega
   have i1 : ¬ (0 : Int) ≤ ((0 : Nat) : Int) - 1 := by omega
   by_cases hrt : 0 < rt
   ·have HD2 := Za (HDR.out hrt _ _ _ HQ5.out hR.out)
    go_wp2_with (first
     | (go_at_call 32; refine HD2.out.mono ?_; rintro e z4 ⟨x4, y4, rfl, p4⟩; have HP4 := Za p4; clear p4))
    exact HP4.out
   ·have HP4 := Za (HND.out (by omega) _ _ _ HQ5.out hR.out)
    go_wp2_with fail
    exact HP4.out
theorem Yfj {w : World} {S : List Nat} {q : Nat} {rt : Int} {K : List Int} {u : Value} {P : Ending → World → Prop} {RW RM : World → Nat → Nat → World → Prop} {hsl : List Nat} {wn sn : Nat} {sg : Nat → Nat} {fi : Int}
  (HS : Hid (∀ b, w.heap.size ≤ b → b ∉ S)) (HPS : Hid ((Tryz.prog.info? 31).map (·.size) = some (B K).size)) (HWN : Hid (wn = hsl.length)) (HLE : Hid (wn ≤ sn ∧ sn ≤ 256))
  (HWR : Hid (∀ w', Below w.heap.size w w' → Calls Tryz.prog 114 #[.pointer (some ⟨q, 0, none⟩), .int .i64 rt, u] w' fun e w'' => e = .returned (.int .i64 0) ∧ Below w'.heap.size w' w''))
  (HFT : Hid (∀ w', Below w.heap.size w w' → Calls Tryz.prog 61 #[.pointer (some ⟨q, 0, none⟩), .int .i64 1] w' fun e w'' => e = .returned (.bool true) ∧ Below w'.heap.size w' w''))
  (HWY : Hid (∀ w', Below w.heap.size w w' → Calls Tryz.prog 52 #[.pointer (some ⟨q, 0, none⟩), .int .i64 rt, .agg (B K)] w' fun e w'' => ∃ a c, e = .returned (.tuple #[.slice a wn c, .int .i64 fi]) ∧ w''.ownsRow w'.heap.size 3 1 (.slice a wn c) wn (nats hsl) ∧ Below w'.heap.size w' w''))
  (HTH : Hid (∀ w', Below w.heap.size w w' → Calls Tryz.prog 115 #[.pointer (some ⟨q, 0, none⟩), .int .i64 fi, .agg (B K), u] w' fun e w'' => e = .returned (.bool false) ∧ Below w'.heap.size w' w''))
  (HLF : Hid (∀ w5, Below w.heap.size w w5 → Calls Tryz.prog 24 #[.pointer (some ⟨q, 0, none⟩), .agg (B K), u] w5 fun e w'' => ∃ t : Nat, e = .returned (.tuple #[.int .i64 (t : Int), .int .i64 0]) ∧ RW w5 sn t w''))
  (HGR : Hid (∀ w5 m t w' w'', RW w5 m t w' → Below w'.heap.size w' w'' → RW w5 m t w'')) (HKP : Hid (∀ w5 m t w' (Q : World → Prop), Kq S w5 Q → RW w5 m t w' → Q w')) (HKM : Hid (∀ w5 m t w' (Q : World → Prop), Kq S w5 Q → RM w5 m t w' → Q w'))
  (HNO : Hid (∀ w5 m t w', sg m = 0 → RW w5 (m + 1) t w' → RM w5 m t w'))
  (HHO : Hid (∀ w5 m t w', m < sn → sg m ≠ 0 → RW w5 (m + 1) t w' → Calls Tryz.prog 28 #[.pointer (some ⟨q, 0, none⟩), .int .i64 (sg m : Int)] w' fun e w'' => e = .returned (.int .i64 0) ∧ RM w5 m t w''))
  (HMA : Hid (∀ w5 m (t : Nat) w', m < sn → RM w5 m t w' → Calls Tryz.prog 119 #[.pointer (some ⟨q, 0, none⟩), .agg (B K), .int .i64 (m : Int), .int .i64 (t : Int), .int .i64 (sg m : Int)] w' fun e w'' => ∃ t' : Nat, e = .returned (.int .i64 (t' : Int)) ∧ RW w5 m t' w''))
  (HOT : Hid (∀ w5 m t w', m < wn → RW w5 (m + 1) t w' → Calls Tryz.prog 55 #[.pointer (some ⟨q, 0, none⟩), .agg (B K), .int .i64 (m : Int), .int .i64 (hsl.getD m 0 : Int)] w' fun e w'' => e = .returned (.int .i64 (sg m : Int)) ∧ RW w5 (m + 1) t w''))
  (HDR : Hid (0 < rt → ∀ w5 (t : Nat) w', Below w.heap.size w w5 → RW w5 0 t w' → Calls Tryz.prog 32 #[.pointer (some ⟨q, 0, none⟩), .int .i64 rt] w' fun e w'' => ∃ x y : Int, e = .returned (.tuple #[.int .i64 x, .int .i64 y]) ∧ P (.returned (.tuple #[.int .i64 (t : Int), .int .i64 0])) w''))
  (HND : Hid (rt ≤ 0 → ∀ w5 (t : Nat) w', Below w.heap.size w w5 → RW w5 0 t w' → P (.returned (.tuple #[.int .i64 (t : Int), .int .i64 0])) w'))
  (HKD : Hid (∀ w5 t w', RW w5 sn t w' → Calls Tryz.prog 54 #[.pointer (some ⟨q, 0, none⟩), .int .i64 fi] w' fun e w'' => e = .returned (.int .u8 1) ∧ RW w5 sn t w'')) {ky : List Int} {c : Nat} (HC : Hid (wn ≤ c ∧ sn = c + 1 ∧ ∀ m, wn ≤ m → m < c → sg m = 0)) (HFC : fi = (sg c : Int)) (HF0 : Hid (sg c ≠ 0)) (HKY : Hid (∀ w5 t w', RW w5 sn t w' → Calls Tryz.prog 97 #[.pointer (some ⟨q, 0, none⟩), .int .i64 fi] w' fun e w'' => e = .returned (.agg (B ky)) ∧ RW w5 sn t w'')) (HCM : Hid (∀ w', Calls Tryz.prog 116 #[.agg (B K), .agg (B ky)] w' fun e w'' => e = .returned (.int .i64 (c : Int)) ∧ Below w'.heap.size w' w'')) (hEK : ∀ w, (Op.equalIn 10000 31 (.agg (B ky)) (.agg (B K))).run Tryz.prog w = .ok false w) : Calls Tryz.prog 46 #[.pointer (some ⟨q, 0, none⟩), .int .i64 rt, .agg (B K), u] w P := by
 have HPL : Hid ((Tryz.prog.info? 31).map (·.size) = some (B K).toList.length) := by show _ = _; rw [Array.length_toList]; exact HPS.out
 have hw256 : wn ≤ 256 := by have := HLE.out; omega
 have hww : wrap64 ((wn : Int) - 1) = (wn : Int) - 1 := Go.IntWalk.wrap64_in _ (by omega)
 have u0 := (⟨HNO, HHO, HMA, HOT, HKM⟩ : _ ∧ _ ∧ _ ∧ _ ∧ _)
 clear u0
 subst HFC
 go_enter Tryz.func46, Tryz.ntmps46
 go_wp2_with (first
  | ((with_reducible refine Zo 6 ?_); refine Zc _ rfl _ _ rfl _ rfl ?_; intro w1 b6 hg6 hl6 B6 q6; have HB1 := Za B6; have HQ1 := Za q6; have HG6 := Za hg6; clear hg6 hl6 B6 q6)
  | (go_at_call 114; refine (HWR.out _ HQ1.out).mono ?_; rintro e w2 ⟨rfl, b2⟩; have HQ2 := Za (Zb HQ1.out b2); have HB2 := Za (HB1.out.grow b2); clear b2)
  | (go_at_call 61; refine (HFT.out _ HQ2.out).mono ?_; rintro e w3 ⟨rfl, b3⟩; have HQ3 := Za (Zb HQ2.out b3); have HB3 := Za (HB2.out.grow b3); clear b3)
  | ((with_reducible refine Zl 32 6 ?_); refine Zh _ rfl _ _ rfl b6 _ rfl HB3.out _ _ Tryz.underlying31 HPS.out ?_)
  | (go_at_call 52; refine (HWY.out _ HQ3.out).mono ?_; rintro e w4 ⟨wa, wc, rfl, o4, b4⟩; have HO4 := Za (Zax o4 HQ3.out.size); have HQ4 := Za (Zb HQ3.out b4); have HB4 := Za (HB3.out.grow b4); clear b4 o4)
  | ((with_reducible refine Zl 38 6 ?_); refine Zh _ rfl _ _ rfl b6 _ rfl HB4.out _ _ Tryz.underlying31 HPS.out ?_)
  | (go_at_call 115; refine (HTH.out _ HQ4.out).mono ?_; rintro e w5 ⟨rfl, b5⟩; have HQ5 := Za (Zb HQ4.out b5); have HB5 := Za (HB4.out.grow b5); have HB6 := Za (Kq.blk HB5.out (HS.out b6 HG6.out)); have HI6 : Hid (Kq S w5 (fun w' => Ints9 w' wa hsl)) := Zfx (Zp HO4.out b5) HWN.out (fun g hg => HS.out g (HO4.out.lt g hg).1); clear b5)
  | ((with_reducible refine Zl 44 6 ?_); refine Zh _ rfl _ _ rfl b6 _ rfl HB5.out _ _ Tryz.underlying31 HPS.out ?_)
  | (go_at_call 24; refine (HLF.out _ HQ5.out).mono ?_; rintro e w6 ⟨t0, rfl, r6⟩; have HR6 := Za r6; clear r6))
 clear HWR HFT HWY HTH HLF HB1 HB2 HB3 HB4 HB5 HQ1 HQ2 HQ3 HQ4 HO4
 have hRd := HGR.out _ _ _ _ _ HR6.out (below_drewN (Below.refl w6.heap.size w6) 1)
 refine wp_region_held_drew (S := fun w' => Blk w' b6 31 (B K)) (by kernel_rfl) (HKP.out _ _ _ _ _ HB6.out hRd) (fun hHeld => ?_)
 refine tkp 0 (.pointer (some ⟨q, 0, none⟩)) hHeld ?_
 simp only [zq]
 refine tkp 1 (.int .i64 (sg c : Int)) hHeld ?_
 simp only [zq]
 refine wpAnyH_ready (rs := [2]) (by kernel_rfl) (by simp) ?_
 refine AllReadyH.cons rfl (fun KQ hK => ?_) AllReadyH.nil
 go_simp
 refine (HKD.out _ _ _ hRd).mono ?_
 rintro e z1 ⟨rfl, r1⟩
 refine hK.out _ _ (HKP.out _ _ _ _ _ HB6.out r1) (fun hHeld => ?_)
 clear hK KQ
 refine tkp 3 (.bool true) hHeld ?_
 simp only [zq]
 refine tkp 4 (.bool true) hHeld ?_
 simp only [zq]
 refine tkp 5 (.pointer (some ⟨q, 0, none⟩)) hHeld ?_
 simp only [zq]
 refine tkp 6 (.int .i64 (sg c : Int)) hHeld ?_
 simp only [zq]
 refine tkg 8 (.agg (B K)) rfl (yieldsIf_load_mid rfl 31 (.tmp 6) rfl b6 0 rfl (B K).toList _ (fun w hS => hS.range) Tryz.underlying31 rfl HPL.out) hHeld ?_
 simp only [zq]
 refine wpAnyH_ready (rs := [7]) (by kernel_rfl) (by simp) ?_
 refine AllReadyH.cons rfl (fun KQ hK => ?_) AllReadyH.nil
 go_simp
 refine (HKY.out _ _ _ r1).mono ?_
 rintro e z2 ⟨rfl, r2⟩
 refine hK.out _ _ (HKP.out _ _ _ _ _ HB6.out r2) (fun hHeld => ?_)
 clear hK KQ
 refine tkp 9 (.bool true) hHeld ?_
 simp only [zq]
 refine tkp 10 (.bool true) hHeld ?_
 simp only [zq]
 refine wpAnyH_done (by kernel_rfl) ?_ _
 replace HR6 := Za r2
 clear hRd hHeld r1 r2
 go_wp2_with fail
 have hRd := HGR.out _ _ _ _ _ HR6.out (below_drewN (Below.refl _ _) 1)
 refine wp_region_held_drew (S := fun w' => Blk w' b6 31 (B K)) (by kernel_rfl) (HKP.out _ _ _ _ _ HB6.out hRd) (fun hHeld => ?_)
 refine tkg 0 (.agg (B K)) rfl (yieldsIf_load_mid rfl 31 (.tmp 6) rfl b6 0 rfl (B K).toList _ (fun w hS => hS.range) Tryz.underlying31 rfl HPL.out) hHeld ?_
 simp only [zq]
 refine tkp 1 (.pointer (some ⟨q, 0, none⟩)) hHeld ?_
 simp only [zq]
 refine tkp 2 (.int .i64 (sg c : Int)) hHeld ?_
 simp only [zq]
 refine wpAnyH_ready (rs := [3]) (by kernel_rfl) (by simp) ?_
 refine AllReadyH.cons rfl (fun KQ hK => ?_) AllReadyH.nil
 go_simp
 refine (HKY.out _ _ _ hRd).mono ?_
 rintro e z3 ⟨rfl, r3⟩
 refine hK.out _ _ (HKP.out _ _ _ _ _ HB6.out r3) (fun hHeld => ?_)
 clear hK KQ
 refine wpAnyH_ready (rs := [4]) (by kernel_rfl) (by simp) ?_
 refine AllReadyH.cons rfl (fun KQ hK => ?_) AllReadyH.nil
 go_simp
 refine (HCM.out _).mono ?_
 rintro e z4 ⟨rfl, b4⟩
 have r4 := HGR.out _ _ _ _ _ r3 b4
 refine hK.out _ _ (HKP.out _ _ _ _ _ HB6.out r4) (fun hHeld => ?_)
 clear hK KQ
 refine tkp 5 (.int .i64 (c : Int)) hHeld ?_
 simp only [zq]
 refine wpAnyH_done (by kernel_rfl) ?_ _
 replace HR6 := Za r4
 clear hRd hHeld r3 b4 r4
 obtain ⟨hc1, hc2, hc3⟩ := HC.out
 have hc256 : c < 256 := by have := HLE.out.2; omega
 have HHC : Hid (∀ w', RW w5 sn t0 w' → Calls Tryz.prog 28 #[.pointer (some ⟨q, 0, none⟩), .int .i64 (sg c : Int)] w' fun e w'' => e = .returned (.int .i64 0) ∧ RM w5 c t0 w'') := fun w' hr => HHO.out w5 c t0 w' (by omega) HF0.out (by rw [← hc2]; exact hr)
 have HMC : Hid (∀ w', RM w5 c t0 w' → Calls Tryz.prog 119 #[.pointer (some ⟨q, 0, none⟩), .agg (B K), .int .i64 (c : Int), .int .i64 (t0 : Int), .int .i64 (sg c : Int)] w' fun e w'' => ∃ t' : Nat, e = .returned (.int .i64 (t' : Int)) ∧ RW w5 c t' w'') := fun w' hr => HMA.out w5 c t0 w' (by omega) hr
 have HMZ : Hid (∀ m (t : Nat) w', wn ≤ m → m < c → RW w5 (m + 1) t w' → Calls Tryz.prog 119 #[.pointer (some ⟨q, 0, none⟩), .agg (B K), .int .i64 (m : Int), .int .i64 (t : Int), .int .i64 0] w' fun e w'' => ∃ t' : Nat, e = .returned (.int .i64 (t' : Int)) ∧ RW w5 m t' w'') := fun m t w' h1 h2 hr => by
  have h0 := hc3 m h1 h2
  have := HMA.out w5 m t w' (by omega) (HNO.out _ _ _ _ h0 hr)
  rw [h0] at this
  exact this
 have hwc : wrap64 ((c : Int) - 1) = (c : Int) - 1 := Go.IntWalk.wrap64_in _ (by omega)
 clear hc2 hc3
 go_wp2_with (first
  | (go_at_call 28; refine (HHC.out _ HR6.out).mono ?_; rintro e z5 ⟨rfl, m5⟩; have HM5 := Za m5; clear m5)
  | ((with_reducible refine Zl 69 6 ?_); refine Zh _ rfl _ _ rfl b6 _ rfl (HKM.out _ _ _ _ _ HB6.out HM5.out) _ _ Tryz.underlying31 HPS.out ?_)
  | (go_at_call 119; refine (HMC.out _ HM5.out).mono ?_; rintro e z6 ⟨t6, rfl, r6⟩; have HR7 := Za r6; clear r6))
 go_loopw [13, 16] (fun nv dv wr => ∃ (j t : Nat), wn ≤ j ∧ j ≤ c ∧ nv = .int .i64 (t : Int) ∧ dv = .int .i64 ((j : Int) - 1) ∧ Hid (RW w5 j t wr)) (fun _ dv _ => (intOf dv + 1).toNat)
 case atStart => exact ⟨c, t6, hc1, Nat.le_refl _, rfl, rfl, HR7⟩
 case round =>
  clear HR7 HM5 HR6
  obtain ⟨j, t, hjw, hjc, rfl, rfl, hR⟩ := hrel
  by_cases hj0 : wn < j
  ·obtain ⟨m, rfl⟩ : ∃ m, j = m + 1 := ⟨j - 1, by omega⟩
   rw [show (((m + 1 : Nat) : Int) - 1) = (m : Int) by omega]
   have i1 : (wn : Int) ≤ (m : Int) := by omega
   have hwm : wrap64 ((m : Int) - 1) = (m : Int) - 1 := Go.IntWalk.wrap64_in _ (by omega)
   have HM1 := Za (HMZ.out m t _ (by omega) (by omega) hR.out)
   go_wp2_with (first
    | ((with_reducible refine Zl 83 6 ?_); refine Zh _ rfl _ _ rfl b6 _ rfl (HKP.out _ _ _ _ _ HB6.out hR.out) _ _ Tryz.underlying31 HPS.out ?_)
    | (go_at_call 119; refine HM1.out.mono ?_; rintro e z7 ⟨t7, rfl, r7⟩; have HR8 := Za r7; clear r7))
   exact ⟨⟨m, t7, by omega, by omega, rfl, rfl, HR8⟩, by first | (simp [intOf]; done) | (simp [intOf]; omega)⟩
  ·obtain rfl : j = wn := by omega
   have i1 : ¬ (j : Int) ≤ (j : Int) - 1 := by omega
   go_wp2_with fail
   go_loopw [13, 17] (fun nv dv wr => ∃ (jj t : Nat), jj ≤ j ∧ nv = .int .i64 (t : Int) ∧ dv = .int .i64 ((jj : Int) - 1) ∧ Hid (RW w5 jj t wr)) (fun _ dv _ => (intOf dv + 1).toNat)
   case atStart => exact ⟨j, t, Nat.le_refl _, rfl, rfl, hR⟩
   case round =>
    clear hR
    obtain ⟨jj, t, hj, rfl, rfl, hR⟩ := hrel
    by_cases hj1 : 0 < jj
    ·obtain ⟨m, rfl⟩ : ∃ m, jj = m + 1 := ⟨jj - 1, by omega⟩
     rw [show (((m + 1 : Nat) : Int) - 1) = (m : Int) by omega]
     have i1 : (0 : Int) ≤ (m : Int) := by omega
     have i2 : (m : Int) < (j : Int) := by omega
     have hwm : wrap64 ((m : Int) - 1) = (m : Int) - 1 := Go.IntWalk.wrap64_in _ (by omega)
     have hmw : m < j := by omega
     have hmn : m < sn := by have := HLE.out.1; omega
     obtain ⟨lb, rfl, -⟩ := HI6.out.now m (by rw [← HWN.out]; exact hmw)
     have HO2 : Hid (∀ w5 t w', RW w5 (m + 1) t w' → Calls Tryz.prog 55 #[.pointer (some ⟨q, 0, none⟩), .agg (B K), .int .i64 (m : Int), .int .i64 (hsl.getD m 0 : Int)] w' fun e w'' => e = .returned (.int .i64 (sg m : Int)) ∧ RW w5 (m + 1) t w'') := fun w5 t w' hr => HOT.out w5 m t w' hmw hr
     have hcl : ∀ {w'}, Ints9 w' (some ⟨lb, 0, none⟩) hsl → w'.cell? ⟨lb, m, none⟩ = some (.int .i64 (hsl.getD m 0 : Int)) := fun {w'} hi => by
      obtain ⟨g', e1, e2⟩ := hi m (by rw [← HWN.out]; exact hmw)
      injection e1 with e1
      injection e1 with e1
      rw [e1]
      exact e2
     generalize (hsl.getD m 0 : Int) = xx at HO2 hcl
     have hRd := HGR.out _ _ _ _ _ hR.out (below_drewN (Below.refl wr.heap.size wr) 1)
     go_wp2_with fail
     refine wp_region_held_drew (S := fun w' => Blk w' b6 31 (B K) ∧ w'.cell? ⟨lb, m, none⟩ = some (.int .i64 xx)) (by kernel_rfl) (⟨HKP.out _ _ _ _ _ HB6.out hRd, hcl (HKP.out _ _ _ _ _ HI6.out hRd)⟩) (fun hHeld => ?_)
     refine tkp 0 (.pointer (some ⟨q, 0, none⟩)) hHeld ?_
     simp only [zq]
     refine tkg 1 (.agg (B K)) rfl (yieldsIf_load_mid rfl 31 (.tmp 6) rfl b6 0 rfl (B K).toList _ (fun w hS => hS.1.range) Tryz.underlying31 rfl HPL.out) hHeld ?_
     simp only [zq]
     refine tkp 2 (.int .i64 (m : Int)) hHeld ?_
     simp only [zq]
     refine tkp 3 (.slice (some ⟨lb, 0, none⟩) j wc) hHeld ?_
     simp only [zq]
     refine tkp 4 (.int .i64 (m : Int)) hHeld ?_
     simp only [zq]
     refine tkp 5 (.pointer (some ⟨lb, m, none⟩)) hHeld ?_
     simp only [zq]
     refine tkg 6 (.int .i64 xx) rfl (Or.inl ⟨by rfl, fun w hS => by (have q1 := hS.2; go_simp)⟩) hHeld ?_
     simp only [zq]
     refine wpAnyH_ready (rs := [7]) (by kernel_rfl) (by simp) ?_
     refine AllReadyH.cons rfl (fun KQ hK => ?_) AllReadyH.nil
     go_simp
     refine (HO2.out _ _ _ hRd).mono ?_
     rintro e z1 ⟨rfl, r1⟩
     refine hK.out _ _ (⟨HKP.out _ _ _ _ _ HB6.out r1, hcl (HKP.out _ _ _ _ _ HI6.out r1)⟩) (fun hHeld => ?_)
     clear hK KQ
     refine tkp 8 (.int .i64 (sg m : Int)) hHeld ?_
     simp only [zq]
     refine wpAnyH_done (by kernel_rfl) ?_ _
     have HR1 := Za r1
     clear r1 hRd hHeld hcl hR
     by_cases o0 : sg m = 0
     ·have o1 : ¬ (0 : Int) < (sg m : Int) := by omega
      have HM1 := Za (HNO.out _ _ _ _ o0 HR1.out)
      clear o0
      go_wp2_with (first
       | ((with_reducible refine Zl 108 6 ?_); refine Zh _ rfl _ _ rfl b6 _ rfl (HKM.out _ _ _ _ _ HB6.out HM1.out) _ _ Tryz.underlying31 HPS.out ?_)
       | (go_at_call 119; refine (HMA.out _ _ _ _ hmn HM1.out).mono ?_; rintro e z3 ⟨t3, rfl, r3⟩; have HR3 := Za r3; clear r3))
      exact ⟨⟨m, t3, by omega, rfl, rfl, HR3⟩, by first | (simp [intOf]; done) | (simp [intOf]; omega)⟩
     ·have o1 : (0 : Int) < (sg m : Int) := by omega
      have HHM := Za (HHO.out _ _ _ _ hmn o0 HR1.out)
      clear o0
      go_wp2_with (first
       | (go_at_call 28; refine HHM.out.mono ?_; rintro e z2 ⟨rfl, m1⟩; have HM1 := Za m1; clear m1)
       | ((with_reducible refine Zl 108 6 ?_); refine Zh _ rfl _ _ rfl b6 _ rfl (HKM.out _ _ _ _ _ HB6.out HM1.out) _ _ Tryz.underlying31 HPS.out ?_)
       | (go_at_call 119; refine (HMA.out _ _ _ _ hmn HM1.out).mono ?_; rintro e z3 ⟨t3, rfl, r3⟩; have HR3 := Za r3; clear r3))
      exact ⟨⟨m, t3, by omega, rfl, rfl, HR3⟩, by first | (simp [intOf]; done) | (simp [intOf]; omega)⟩
    ·obtain rfl : jj = 0 := by omega
     have i1 : ¬ (0 : Int) ≤ ((0 : Nat) : Int) - 1 := by omega
     by_cases hrt : 0 < rt
     ·have HD2 := Za (HDR.out hrt _ _ _ HQ5.out hR.out)
      go_wp2_with (first
       | (go_at_call 32; refine HD2.out.mono ?_; rintro e z4 ⟨x4, y4, rfl, p4⟩; have HP4 := Za p4; clear p4))
      exact HP4.out
     ·have HP4 := Za (HND.out (by omega) _ _ _ HQ5.out hR.out)
      go_wp2_with fail
      exact HP4.out
end Go.Proofs.YtbkolhhgajkjjaaGreatDoor
