/- A law's call of one store (do), as a contract: whatever it is, a store is left. -/
import Derived.Test.YtjikgagaalbaeaaDoorCo40
namespace Go.Proofs.YtjikgagaalbaeaaDoor
set_option maxRecDepth 20000
open Go.RowKit

/-- A store that a walk keeps, and blocks X that hold what they hold and are not its own. -/
def Hx (w0 w : World) (X : List (Nat × Obj)) (g gs room : Nat) (cs : List (Nat × Ce)) (fr : List Nat) : Prop := (∃ vp vf, Stm w g gs vp vf room cs fr ∧ (∀ k ∈ stB g gs vp vf cs, w0.heap.size ≤ k) ∧ Below w0.heap.size w0 w ∧ ∀ x ∈ X, w.heap[x.1]? = some x.2 ∧ x.1 ∉ stB g gs vp vf cs) ∧ Wf cs []
theorem Hx.hw {w0 w : World} {X : List (Nat × Obj)} {g gs room : Nat} {cs : List (Nat × Ce)} {fr : List Nat} (h : Hx w0 w X g gs room cs fr) : Hw w0 w g gs room cs fr := by
  obtain ⟨⟨vp, vf, h1, h2, h3, _⟩, h4⟩ := h
  exact ⟨⟨vp, vf, h1, h2, h3⟩, h4⟩
theorem Hx.held {w0 w : World} {X : List (Nat × Obj)} {g gs room : Nat} {cs : List (Nat × Ce)} {fr : List Nat} {b : Nat} {t : TypeId} {cells : Array Value} (h : Hx w0 w X g gs room cs fr) (hx : (b, Obj.cells cells t (0, 0)) ∈ X) : Blk w b t cells := by
  obtain ⟨⟨_, _, _, _, _, h⟩, _⟩ := h
  exact (h _ hx).1
theorem Hw.holdX {w0 w w' : World} {g gs room : Nat} {cs : List (Nat × Ce)} {fr : List Nat} {b : Nat} {o : Obj} (h : Hw w0 w g gs room cs fr) (hb : Below w.heap.size w w') (hk : w.heap.size ≤ b) (hB : w'.heap[b]? = some o) : Hx w0 w' [(b, o)] g gs room cs fr := by
  obtain ⟨⟨vp, vf, h1, h2, h3⟩, h4⟩ := h
  refine ⟨⟨vp, vf, h1.grow hb, h2, grow_trans h3 hb, fun x hx => ?_⟩, h4⟩
  obtain rfl : x = (b, o) := by simpa using hx
  exact ⟨hB, fun e => by have := h1.lts _ e; simp only at this; omega⟩
theorem Hx.turn {w0 w w' : World} {X : List (Nat × Obj)} {g gs room : Nat} {cs cs' : List (Nat × Ce)} {fr' : List Nat} {vp vf : Value} (h2 : ∀ k ∈ stB g gs vp vf cs, w0.heap.size ≤ k) (h3 : Below w0.heap.size w0 w) (hX : ∀ x ∈ X, w.heap[x.1]? = some x.2 ∧ x.1 ∉ stB g gs vp vf cs) (t : STurn w g gs (stB g gs vp vf cs) room cs' fr' w') (hw : Wf cs' []) : Hx w0 w' X g gs room cs' fr' := by
  obtain ⟨vp', vf', k1, k2, k3⟩ := t
  refine ⟨⟨vp', vf', k1, k3.base h2 h3.size, h3.trans (k2.below h2 h3.size), fun x hx => ?_⟩, hw⟩
  obtain ⟨q1, q2⟩ := hX x hx
  have hlt := (Array.getElem?_eq_some_iff.1 q1).1
  refine ⟨(k2.block x.1 hlt q2).trans q1, fun e => ?_⟩
  rcases k3 x.1 e with e | e
  · exact q2 e
  · omega

theorem hx_hold_any {w0 w : World} {X : List (Nat × Obj)} {g gs room : Nat} {cs : List (Nat × Ce)} {fr : List Nat} (h : Hx w0 w X g gs room cs fr) (q : Int) : Calls Tryd.prog 19 #[.pointer (some ⟨g, 0, none⟩), .int .i64 q] w fun e w' => ∃ a cs' fr', e = .returned (.int .i64 a) ∧ Hx w0 w' X g gs room cs' fr' := by
  have hh := h
  obtain ⟨⟨vp, vf, h1, h2, h3, hX⟩, h4⟩ := h
  by_cases hc : cot cs q = 0
  · exact (holdS_bad h1 q hc).mono fun e w' ⟨e1, b⟩ => ⟨_, _, _, e1, b ▸ hh⟩
  · obtain ⟨i, rfl, c2, c3, c4⟩ := cot_in (cs := cs) (h := q) (by omega)
    have hmo := h1.sl.inv.most i
    rw [cnt_pl] at hmo
    by_cases hl : cc cs i = 1073741824
    · exact (holdS_long h1 i hl).mono fun e w' ⟨e1, b⟩ => ⟨_, _, _, e1, b ▸ hh⟩
    · exact (holdS_ok h1 i c2 (by omega)).mono fun e w' ⟨e1, t⟩ => ⟨_, _, _, e1, Hx.turn h2 h3 hX t (h4.more i c2)⟩

set_option maxHeartbeats 4000000 in
theorem do_any {w0 w : World} {g gs room : Nat} {cs : List (Nat × Ce)} {fr : List Nat} (h : Hw w0 w g gs room cs fr) (q : Ac) (hK : Key q.K) (hr : Reads w q.v q.bs) (hm : q.bs.length ≤ 140737488355328) (hL : Laid w0) : Calls Tryd.prog 9 #[.pointer (some ⟨g, 0, none⟩), .agg (acL q).toArray] w fun e w' => e = .returned (.tuple #[]) ∧ ∃ cs' fr', Hw w0 w' g gs room cs' fr' := by
  have HKL := hidden hK.1
  have HKK := hidden hK
  have HKZ : Hid ((Tryd.prog.info? 23).map (·.size) = some (q.K.map (Value.int .u8)).length) := by show _ = _; rw [List.length_map, hK.1]; exact size_path
  have HLa := hidden hL
  have HR : Hid (∀ w', Below w.heap.size w w' → Reads w' q.v q.bs) := fun w' hb => hr.grow hb
  have HM := hidden hm
  have HH := hidden h
  obtain ⟨k, K, v, bs, d, x, y⟩ := q
  have hsh : acL ⟨k, K, v, bs, d, x, y⟩ = azL k K v d x y := rfl
  rw [hsh]
  clear hK hr hm hL h hsh
  by_cases k0 : k = 0
  · subst k0
    go_enter Tryd.func9, Tryd.ntmps9
    go_wp2_with (first
      | ((with_reducible refine at_bxd 3 ?_); refine wpList_bx _ rfl _ _ rfl _ rfl ?_; intro w1 b3 hg3 hl3 B3 q1; have HB3 := hidden B3; have HQ := hidden q1; replace HH := hidden (HH.out.grow q1); obtain ⟨f0, f33, f34, f35, f36⟩ := act_cells B3 HKL.out; clear hg3 hl3 B3 q1)
      | ((with_reducible refine at_ldd 10 9 ?_); refine wpList_load_mid rfl _ _ rfl b3 1 rfl (K.map (Value.int .u8)) _ (act_key HB3.out) Tryd.underlying23 rfl HKZ.out ?_)
      | (go_at_call 16; refine (hw_leaf_any HH.out K v bs (HR.out _ HQ.out) HKK.out (HLa.out.grow HH.out.low) HM.out).mono ?_; rintro e w2 ⟨a2, c2, cs2, fr2, rfl, h2⟩; have HH2 := hidden h2; clear h2))
    go_end0
    exact ⟨rfl, _, _, HH2.out⟩
  · have n0 : (k == 0) = false := by simp [k0]
    by_cases k1 : k = 1
    · subst k1
      clear n0 k0
      go_enter Tryd.func9, Tryd.ntmps9
      go_wp2_with (first
        | ((with_reducible refine at_bxd 3 ?_); refine wpList_bx _ rfl _ _ rfl _ rfl ?_; intro w1 b3 hg3 hl3 B3 q1; replace HH := hidden (HH.out.grow q1); obtain ⟨f0, f33, f34, f35, f36⟩ := act_cells B3 HKL.out; clear hg3 hl3 B3 q1)
        | (go_at_call 18; refine (hw_inner_any HH.out d x y (HLa.out.grow HH.out.low)).mono ?_; rintro e w2 ⟨a2, c2, cs2, fr2, rfl, h2⟩; have HH2 := hidden h2; clear h2))
      go_end0
      exact ⟨rfl, _, _, HH2.out⟩
    · have n1 : (k == 1) = false := by simp [k1]
      by_cases k2 : k = 2
      · subst k2
        clear n0 k0 n1 k1
        go_enter Tryd.func9, Tryd.ntmps9
        go_wp2_with (first
          | ((with_reducible refine at_bxd 3 ?_); refine wpList_bx _ rfl _ _ rfl _ rfl ?_; intro w1 b3 hg3 hl3 B3 q1; replace HH := hidden (HH.out.grow q1); obtain ⟨f0, f33, f34, f35, f36⟩ := act_cells B3 HKL.out; clear hg3 hl3 B3 q1)
          | (go_at_call 19; refine (hw_hold_any HH.out x).mono ?_; rintro e w2 ⟨a2, cs2, fr2, rfl, h2⟩; have HH2 := hidden h2; clear h2))
        go_end0
        exact ⟨rfl, _, _, HH2.out⟩
      · have n2 : (k == 2) = false := by simp [k2]
        by_cases k3 : k = 3
        · subst k3
          clear n0 k0 n1 k1 n2 k2
          go_enter Tryd.func9, Tryd.ntmps9
          go_wp2_with (first
            | ((with_reducible refine at_bxd 3 ?_); refine wpList_bx _ rfl _ _ rfl _ rfl ?_; intro w1 b3 hg3 hl3 B3 q1; replace HH := hidden (HH.out.grow q1); obtain ⟨f0, f33, f34, f35, f36⟩ := act_cells B3 HKL.out; clear hg3 hl3 B3 q1)
            | (go_at_call 14; refine (hw_drop_any HH.out x).mono ?_; rintro e w2 ⟨a2, c2, cs2, fr2, rfl, h2⟩; have HH2 := hidden h2; clear h2))
          go_end0
          exact ⟨rfl, _, _, HH2.out⟩
        · have n3 : (k == 3) = false := by simp [k3]
          by_cases k5 : k = 5
          · subst k5
            clear n0 k0 n1 k1 n2 k2 n3 k3
            go_enter Tryd.func9, Tryd.ntmps9
            go_wp2_with (first
              | ((with_reducible refine at_bxd 3 ?_); refine wpList_bx _ rfl _ _ rfl _ rfl ?_; intro w1 b3 hg3 hl3 B3 q1; have HX1 := hidden (HH.out.holdX q1 hg3 B3); obtain ⟨f0, f33, f34, f35, f36⟩ := act_cells B3 HKL.out; clear hg3 hl3 B3 q1)
              | (go_at_call 19; have mk := m1; clear mk; refine (hx_hold_any HX2.out y).mono ?_; rintro e w3 ⟨a3, cs3, fr3, rfl, h3⟩; have HX3 := hidden h3; obtain ⟨f0'', f33'', f34'', f35'', f36''⟩ := act_cells (h3.held (List.mem_cons_self ..)) HKL.out; clear h3)
              | (go_at_call 19; refine (hx_hold_any HX1.out x).mono ?_; rintro e w2 ⟨a2, cs2, fr2, rfl, h2⟩; have HX2 := hidden h2; obtain ⟨f0', f33', f34', f35', f36'⟩ := act_cells (h2.held (List.mem_cons_self ..)) HKL.out; have m1 : Hid True := trivial; clear h2)
              | (go_at_call 18; refine (hw_inner_any HX3.out.hw d x y (HLa.out.grow HX3.out.hw.low)).mono ?_; rintro e w4 ⟨a4, c4, cs4, fr4, rfl, h4⟩; have HH4 := hidden h4; clear h4))
            go_end0
            exact ⟨rfl, _, _, HH4.out⟩
          · have n5 : (k == 5) = false := by simp [k5]
            clear k0 k1 k2 k3 k5
            go_enter Tryd.func9, Tryd.ntmps9
            go_wp2_with (first
              | ((with_reducible refine at_bxd 3 ?_); refine wpList_bx _ rfl _ _ rfl _ rfl ?_; intro w1 b3 hg3 hl3 B3 q1; replace HH := hidden (HH.out.grow q1); obtain ⟨f0, f33, f34, f35, f36⟩ := act_cells B3 HKL.out; clear hg3 hl3 B3 q1))
            go_end0
            exact ⟨rfl, _, _, HH.out⟩

end Go.Proofs.YtjikgagaalbaeaaDoor

/- StoreCounts' walk: counts add up, and when callers drop all that they hold no slot is occupied. -/
namespace Go.Proofs.YtjikgagaalbaeaaDoor
set_option maxRecDepth 20000
open Go.RowKit

theorem wpList_mup7 {ops : Array Oper} {rest : List Oper} {o : Oper} {a : Act} {Q : Exit → Act → World → Prop} {w w' : World} (hg : o.guard = none) (m x v : Operand) (t : TypeId) (hop : o.op = Op.mapUpdate t m x v) (vm vx vv : Value)
    (hm : a.eval m = vm) (hx : a.eval x = vx) (hv : a.eval v = vv) (hrun : (Instr.mapUpdate t vm vx vv).run Tryd.prog w = .ok () w') (hK : wpList Tryd.prog ops Q rest (a.put o.dst undef) w') : wpList Tryd.prog ops Q (o :: rest) a w := by
  refine wpList_plain hg fun K' hK' => ?_
  unfold Oper.wp
  simp [execOp, hop, hm, hx, hv, hrun, Result.andThen]
  exact hK' _ _ hK

/-- The store, a list of its handles and a map beside it. -/
structure Hc7 (w0 w : World) (g gs room : Nat) (cs : List (Nat × Ce)) (fr : List Nat) (v : Value) (L : List Nat) (b n : Nat) (f : Int → Nat) : Prop where
  hw : Hw w0 w g gs room cs fr
  lst : Lst w 3 1 v L.length (nats L)
  low : ∀ k, v.ownBlock = some k → w0.heap.size ≤ k
  mp : SM w b n f
  mlow : w0.heap.size ≤ b
  apart : ∀ vp vf, Stm w g gs vp vf room cs fr → ∀ k, v.ownBlock = some k → k ∉ stB g gs vp vf cs

theorem Stm.one {w : World} {g gs : Nat} {vp vf vp' vf' : Value} {room : Nat} {cs : List (Nat × Ce)} {fr : List Nat} (h : Stm w g gs vp vf room cs fr) (k : Stm w g gs vp' vf' room cs fr) : vp' = vp ∧ vf' = vf := ⟨Option.some.inj (k.sl.c2.symm.trans h.sl.c2), Option.some.inj (k.sl.c3.symm.trans h.sl.c3)⟩

theorem Hc7.grow {w0 w w' : World} {g gs room : Nat} {cs : List (Nat × Ce)} {fr : List Nat} {v : Value} {L : List Nat} {b n : Nat} {f : Int → Nat} (h : Hc7 w0 w g gs room cs fr v L b n f) (hb : Below w.heap.size w w') : Hc7 w0 w' g gs room cs fr v L b n f := by
  refine ⟨h.hw.grow hb, lst_grow h.lst hb, h.low, h.mp.grow hb, h.mlow, fun vp vf q k hk => ?_⟩
  obtain ⟨⟨vp0, vf0, s0, _⟩, _⟩ := h.hw
  obtain ⟨e1, e2⟩ := (s0.grow hb).one q
  rw [e1, e2]
  exact h.apart vp0 vf0 s0 k hk
theorem Hc7.put {w0 w w' : World} {g gs room : Nat} {cs : List (Nat × Ce)} {fr : List Nat} {v : Value} {L : List Nat} {b n n' : Nat} {f f' : Int → Nat} (h : Hc7 w0 w g gs room cs fr v L b n f) (hg : w.grownBy w' (some b)) (hm : SM w' b n' f') : Hc7 w0 w' g gs room cs fr v L b n' f' := by
  have md : Mod [b] w w' := Mod.of_some hg (by simp)
  refine ⟨h.hw.map h.mp hg h.mlow, lst_mod h.lst md (fun k hk e => ?_), h.low, hm, h.mlow, fun vp vf q k hk => ?_⟩
  · obtain ⟨_, _, _, hB, _⟩ := lst_blk h.lst k hk
    have e' : k = b := by simpa using e
    exact h.mp.notCells hB e'.symm
  · obtain ⟨⟨vp0, vf0, s0, _⟩, _⟩ := h.hw
    have s1 : Stm w' g gs vp0 vf0 room cs fr := s0.mod md (fun k hk e => by
      obtain ⟨t, c, hB⟩ := s0.cells k hk
      have e' : k = b := by simpa using e
      exact h.mp.notCells hB e'.symm)
    obtain ⟨e1, e2⟩ := s1.one q
    rw [e1, e2]
    exact h.apart vp0 vf0 s0 k hk
theorem Hc7.cell {w0 w : World} {g gs room : Nat} {cs : List (Nat × Ce)} {fr : List Nat} {L : List Nat} {b n lb lc : Nat} {f : Int → Nat} (h : Hc7 w0 w g gs room cs fr (.slice (some ⟨lb, 0, none⟩) L.length lc) L b n f) (k : Nat) (hk : k < L.length) : w.cell? ⟨lb, k, none⟩ = some (.int .i64 (L[k] : Int)) := by
  rw [lst_cell h.lst k (by omega), nats_get L k hk]
  simp [List.getD, hk]

theorem lst_of {w : World} {base : Nat} {e : TypeId} {k : Nat} {v : Value} {n : Nat} {xs : List Value} (h : w.ownsRow base e k v n xs) : Lst w e k v n xs := ⟨h.1, h.2.imp id (fun ⟨g, cap, cur, a1, _, a3⟩ => ⟨g, cap, cur, a1, Nat.zero_le _, a3⟩)⟩

/-- Two numbers counted in the map, one behind the other. -/
theorem Hc7.two {w0 w : World} {g gs room : Nat} {cs : List (Nat × Ce)} {fr : List Nat} {v : Value} {L : List Nat} {b n : Nat} {f : Int → Nat} (h : Hc7 w0 w g gs room cs fr v L b n f) (l r : Nat) (hl : l ≤ 65536) (hr : r ≤ 65536) (hn : n ≤ 65535) (hf : ∀ x, f x ≤ 65536) : ∃ (w2 w3 : World) (q : Nat), (Instr.mapUpdate 41 (.map (some b)) (.int .i64 (l : Int)) (.int .i64 ((f l + 1 : Nat) : Int))).run Tryd.prog w = .ok () w2 ∧ (Instr.lookup 41 (.map (some b)) (.int .i64 (r : Int)) false).run Tryd.prog w2 = .ok (.int .i64 (q : Int)) w2 ∧ q ≤ 65537 ∧ (Instr.mapUpdate 41 (.map (some b)) (.int .i64 (r : Int)) (.int .i64 ((q + 1 : Nat) : Int))).run Tryd.prog w2 = .ok () w3 ∧ Hc7 w0 w3 g gs room cs fr v L b (n + 2) (fun y => f y + ((if (l : Int) = y then 1 else 0) + (if (r : Int) = y then 1 else 0))) := by
  obtain ⟨w2, e1, s2, g2⟩ := h.mp.put (l : Int) (f l + 1) (wfi_nat l (by omega)) (by have := hf l; omega) (by omega)
  have h2 := h.put g2 s2
  have e2 := s2.look (wfi_nat r (by omega))
  obtain ⟨q, hq⟩ : ∃ q, q = (if (r : Int) = (l : Int) then f l + 1 else f r) := ⟨_, rfl⟩
  have hqb : q ≤ 65537 := by
    rw [hq]
    have := hf l
    have := hf r
    split <;> omega
  rw [← hq] at e2
  obtain ⟨w3, e3, s3, g3⟩ := s2.put (r : Int) (q + 1) (wfi_nat r (by omega)) (by omega) (by omega)
  refine ⟨w2, w3, q, e1, e2, hqb, e3, ?_⟩
  have h3 := h2.put g3 s3
  have ef : (fun y => if y = (r : Int) then q + 1 else if y = (l : Int) then f l + 1 else f y) = (fun y => f y + ((if (l : Int) = y then 1 else 0) + (if (r : Int) = y then 1 else 0))) := by
    funext y
    have sw : ∀ a b : Int, (if a = b then 1 else 0 : Nat) = (if b = a then 1 else 0) := fun a b => by
      by_cases e : a = b
      · rw [if_pos e, if_pos e.symm]
      · rw [if_neg e, if_neg (fun q => e q.symm)]
    rw [hq, sw (l : Int) y, sw (r : Int) y]
    by_cases e : y = (r : Int)
    · subst e
      rw [if_pos rfl, if_pos rfl]
      by_cases e5 : (r : Int) = (l : Int)
      · rw [if_pos e5, if_pos e5, ← e5]
      · rw [if_neg e5, if_neg e5]
    · rw [if_neg e, if_neg e]
      by_cases e5 : y = (l : Int)
      · rw [if_pos e5, if_pos e5, e5]
      · rw [if_neg e5, if_neg e5]
        rfl
  rw [ef] at h3
  exact h3

set_option maxHeartbeats 16000000 in
theorem storeCounts_walk (room : Int) (v : Value) (qs : List Ac) (w : World) (hv : AcAt w v qs) (hL : Laid w) : Calls Tryd.prog 4 #[.int .i64 room, v] w fun e w' => e = .returned (.bool true) ∧ Below w.heap.size w w' := by
  have HLa := hidden hL
  have HA := hidden (awake_any w hL)
  obtain ⟨a, c, rfl, hcell, hall⟩ := hv
  have HCE := hidden hcell
  have HAL := hidden hall
  obtain ⟨N, hN⟩ : ∃ N, N = qs.length := ⟨_, rfl⟩
  rw [← hN]
  have HN := hidden hN
  clear hL hcell hall hN
  by_cases h200 : 200 < N
  · have i1 : (200 : Int) < (N : Int) := by omega
    go_enter Tryd.func4, Tryd.ntmps4
    go_wp2_with (go_at_call 7; refine HA.out.mono ?_; rintro e w1 ⟨rfl, b1⟩)
    go_ret
    exact ⟨rfl, b1⟩
  · have i1 : ¬ (200 : Int) < (N : Int) := by omega
    by_cases hr1 : room < 1
    · go_enter Tryd.func4, Tryd.ntmps4
      go_wp2_with (go_at_call 7; refine HA.out.mono ?_; rintro e w1 ⟨rfl, b1⟩)
      go_ret
      exact ⟨rfl, b1⟩
    · by_cases hr2 : 60 < room
      · go_enter Tryd.func4, Tryd.ntmps4
        go_wp2_with (go_at_call 7; refine HA.out.mono ?_; rintro e w1 ⟨rfl, b1⟩)
        go_ret
        exact ⟨rfl, b1⟩
      · obtain ⟨rm, rfl⟩ : ∃ n : Nat, room = (n : Int) := ⟨room.toNat, by omega⟩
        have HRM : Hid (1 ≤ rm ∧ rm ≤ 60) := by show 1 ≤ rm ∧ rm ≤ 60; omega
        have HNW : Hid (∀ w', Below w.heap.size w w' → Calls Tryd.prog 8 #[.int .i64 (rm : Int)] w' fun e w'' => ∃ g gs, e = .returned (.tuple #[.pointer (some ⟨g, 0, none⟩), .int .i64 0]) ∧ Hw w w'' g gs rm [] []) := fun w' hb => hw_new rm w w' hb (by omega) (by omega)
        have h200' : N ≤ 200 := by omega
        clear h200
        go_enter Tryd.func4, Tryd.ntmps4
        go_wp2_with (first
          | (go_at_call 7; refine HA.out.mono ?_; rintro e w1 ⟨rfl, b1⟩; have Hb1 := hidden b1; clear b1)
          | (go_at_call 8; refine (HNW.out _ Hb1.out).mono ?_; rintro e w2 ⟨g, gs, rfl, h2⟩; have HH2 := hidden h2; clear h2))
        clear HNW HA Hb1
        go_loopw [8] (fun iv wr => ∃ (k : Nat) (cs : List (Nat × Ce)) (fr : List Nat), k ≤ N ∧ iv = .int .i64 (k : Int) ∧ Hid (Hw w wr g gs rm cs fr)) (fun iv _ => N - (intOf iv).toNat)
        case atStart => exact ⟨0, [], [], by omega, rfl, HH2⟩
        case round =>
          clear HH2
          obtain ⟨k, cs, fr, hk, rfl, hH⟩ := hrel
          by_cases hlt : k < N
          · obtain ⟨b, off, rfl, hrg⟩ := HCE.out (by rw [← HN.out]; omega)
            have HRG : Hid (wr.rangeAt b (off + k * 37) (acL (qs.getD k default))) := fun j u hu => by
              have := hrg k (by rw [← HN.out]; exact hlt) j u hu
              exact below_cell hH.out.low this
            obtain ⟨q1, q2, q3⟩ := HAL.out k (by rw [← HN.out]; exact hlt)
            have HDO := hidden (do_any hH.out (qs.getD k default) q1 (q2.grow hH.out.low) (by omega) HLa.out)
            have HSZ : Hid ((Tryd.prog.info? 26).map (·.size) = some (acL (qs.getD k default)).length) := by
              show _ = _
              rw [acL, azL_length _ _ _ _ _ _ q1.1]
              exact size_act
            generalize acL (qs.getD k default) = A at HRG HDO HSZ
            have k0 : (0 : Int) ≤ (k : Int) := by omega
            have k1 : (k : Int) < (N : Int) := by omega
            have hwk : wrap64 ((k : Int) + 1) = ((k + 1 : Nat) : Int) := by rw [Go.IntWalk.wrap64_in _ (by omega)]; rfl
            clear hrg q1 q2 q3
            go_wp2_with (first
              | ((with_reducible refine at_ldd 49 48 ?_); refine wpList_load_mid rfl _ _ rfl b (off + k * 37) rfl A _ HRG.out Tryd.underlying26 rfl HSZ.out ?_)
              | (go_at_call 9; refine HDO.out.mono ?_; rintro e w3 ⟨rfl, cs3, fr3, h3⟩; have HH3 := hidden h3; clear h3))
            exact ⟨⟨k + 1, cs3, fr3, by omega, by go_num, HH3⟩, by simp [intOf]; omega⟩
          · obtain rfl : k = N := by omega
            have hmL : (slotsOf (cs.map pl)).length ≤ 60 := by
              rw [slots_length]
              have h1 := hH.out.inv.sum
              have h2 := hH.out.inv.len
              have := HRM.out
              omega
            have HHN := hidden (hw_hnd hH.out)
            obtain ⟨L, hLe⟩ : ∃ L, L = slotsOf (cs.map pl) := ⟨_, rfl⟩
            rw [← hLe] at HHN hmL
            have HLE := hidden hLe
            obtain ⟨m, hm⟩ : ∃ m, m = L.length := ⟨_, rfl⟩
            rw [← hm] at HHN hmL
            have HM := hidden hm
            have nlt : ¬ (k : Int) < (k : Int) := by omega
            have hmm := @run_makeMap Tryd.prog
            clear hlt hk hLe hm
            go_wp2_with (first
              | (go_at_call 10; refine HHN.out.mono ?_; rintro e w5 ⟨la, lc, rfl, o5, b5⟩; have HO5 := hidden o5; have HH5 := hidden (hH.out.grow b5); have HB5 := hidden b5; clear o5 b5))
            have HC0 : Hid (Hc7 w (w5.alloc (.map #[] 0)) g gs rm cs fr (.slice la m lc) L w5.heap.size (2 * 0) (fsum cs L 0)) := by
              have hb := grow_alloc w5 (.map #[] 0)
              have hlow : ∀ q, (Value.slice la m lc).ownBlock = some q → hH.out.low.size = hH.out.low.size → w.heap.size ≤ q := fun q hq _ => by
                have := (HO5.out.lt q hq).1
                have := hH.out.low.size
                omega
              refine ⟨HH5.out.grow hb, ?_, fun q hq => hlow q hq rfl, ?_, ?_, fun vp vf s q hq => ?_⟩
              · rw [← HM.out]
                exact lst_grow (lst_of HO5.out) hb
              · have e : fsum cs L 0 = fun _ => 0 := funext fun x => fsum_zero cs L x
                rw [e]
                exact SM.new w5
              · have h1 := HH5.out.low.size
                exact h1
              · obtain ⟨⟨vp0, vf0, s0, _⟩, _⟩ := hH.out
                obtain ⟨e1, e2⟩ := (s0.grow (grow_trans HB5.out hb)).one s
                rw [e1, e2]
                intro e
                have := s0.lts q e
                have := (HO5.out.lt q hq).1
                omega
            have HLB : Hid (∀ q, q < m → ∃ i, L[q]? = some (i + 1) ∧ 0 < cc cs i) := fun q hq => by
              have hq' : q < (slotsOf (cs.map pl)).length := by rw [← HLE.out, ← HM.out]; exact hq
              obtain ⟨i, e, h⟩ := slot_at q hq'
              refine ⟨i, ?_, h⟩
              rw [HLE.out, List.getElem?_eq_getElem hq', e]
            have HWF : Hid (Wf cs []) := hH.out.2
            have HCL : Hid (cs.length ≤ 60) := by
              have h2 := hH.out.inv.len
              rw [List.length_map] at h2
              have := HRM.out
              show cs.length ≤ 60
              omega
            clear HO5 HH5 HB5 hH HHN HRM HCE HAL
            generalize w5.alloc (.map #[] 0) = w6 at *
            generalize w5.heap.size = mb at *
            go_loopw [11] (fun iv wr => ∃ kk : Nat, kk ≤ m ∧ iv = .int .i64 (kk : Int) ∧ Hid (Hc7 w wr g gs rm cs fr (.slice la m lc) L mb (2 * kk) (fsum cs L kk))) (fun iv _ => m - (intOf iv).toNat)
            case atStart => exact ⟨0, by omega, rfl, HC0⟩
            case round =>
              clear HC0
              obtain ⟨kk, hkk, rfl, hC⟩ := hrel
              by_cases hlt : kk < m
              · obtain ⟨i, hLi, hci⟩ := HLB.out kk hlt
                have hkL : kk < L.length := by rw [← HM.out]; exact hlt
                obtain ⟨lb, lc', e, _⟩ := lst_pos hC.out.lst (by omega)
                injection e with e1 e2 e3
                subst e1
                subst e3
                clear e2
                have hcl : wr.cell? ⟨lb, kk, none⟩ = some (.int .i64 ((i + 1 : Nat) : Int)) := by
                  have h0 := hC.out.lst
                  rw [HM.out] at h0
                  rw [lst_cell h0 kk (by omega)]
                  rw [List.getElem?_eq_getElem hkL] at hLi
                  injection hLi with hLi
                  rw [nats_get L kk hkL]
                  simp [List.getD, hkL, hLi]
                have HSD := hidden (sides_any hC.out.hw.vw ((i + 1 : Nat) : Int))
                rw [cat_nat] at HSD
                have hb := (HWF.out.tr i hci).side_lt
                have hcl60 := HCL.out
                have HLL : Hid ((ce cs i).l ≤ 65536 ∧ (ce cs i).r ≤ 65536) := by show _ ∧ _; omega
                have HSU : Hid (fsum cs L (kk + 1) = fun y => fsum cs L kk y + ((if ((ce cs i).l : Int) = y then 1 else 0) + (if ((ce cs i).r : Int) = y then 1 else 0))) := by
                  funext y
                  rw [fsum_succ cs L kk hkL]
                  rw [List.getElem?_eq_getElem hkL] at hLi
                  injection hLi with hLi
                  rw [hLi, Nat.add_sub_cancel]
                have hsd : sdC cs (i + 1) = ce cs i := rfl
                rw [hsd] at HSD
                generalize (ce cs i).l = l at HSD HLL HSU
                generalize (ce cs i).r = r at HSD HLL HSU
                have HFB : Hid (∀ x, fsum cs L kk x ≤ 65536) := fun x => by
                  have := fsum_le cs L x kk
                  omega
                have HK2 : Hid (2 * kk ≤ 65535) := by show _ ≤ _; omega
                obtain ⟨hx, hhx⟩ : ∃ hx : Int, hx = ((i + 1 : Nat) : Int) := ⟨_, rfl⟩
                rw [← hhx] at hcl HSD
                have k0 : (0 : Int) ≤ (kk : Int) := by omega
                have k1 : (kk : Int) < (m : Int) := by omega
                have hwk : wrap64 ((kk : Int) + 1) = ((kk + 1 : Nat) : Int) := by rw [Go.IntWalk.wrap64_in _ (by omega)]; rfl
                clear hLi hci hb hcl60 hsd hhx hkL
                obtain ⟨F, hF⟩ : ∃ F, F = fsum cs L kk := ⟨_, rfl⟩
                rw [← hF] at hC HFB HSU
                clear hF
                go_wp2_with (first
                  | (go_at_call 11; refine HSD.out.mono ?_; rintro e x1 ⟨rfl, b1⟩; have H1 := hC.out.grow b1; obtain ⟨x2, x3, q, r1, r2, hq, r3, H3⟩ := H1.two l r HLL.out.1 HLL.out.2 HK2.out HFB.out; have hl1 := H1.mp.look (wfi_nat l (by have := HLL.out.1; omega)); have hw1 : wrap64 ((F l : Int) + 1) = ((F l + 1 : Nat) : Int) := (by have := HFB.out l; rw [Go.IntWalk.wrap64_in _ (by omega)]; rfl); have hw2 : wrap64 ((q : Int) + 1) = ((q + 1 : Nat) : Int) := (by rw [Go.IntWalk.wrap64_in _ (by omega)]; rfl); have HR1 := hidden r1; have HR3 := hidden r3; have HH3 := hidden H3; generalize F l = f1 at *; clear b1 H1 H3 r1 r3 hq)
                  | (at_mapUpdate; have mk := m9; clear mk; refine wpList_mup7 rfl _ _ _ 41 rfl (.map (some mb)) (.int .i64 (r : Int)) (.int .i64 ((q + 1 : Nat) : Int)) rfl rfl (by first | rfl | (go_simp; done)) HR3.out ?_)
                  | (at_mapUpdate; refine wpList_mup7 rfl _ _ _ 41 rfl (.map (some mb)) (.int .i64 (l : Int)) (.int .i64 ((f1 + 1 : Nat) : Int)) rfl rfl (by first | rfl | (go_simp; done)) HR1.out ?_; have m9 : Hid True := trivial))
                refine ⟨⟨kk + 1, by omega, by go_num, ?_⟩, by simp [intOf]; omega⟩
                have := HH3.out
                rw [← HSU.out] at this
                exact this
              · obtain rfl : m = kk := by omega
                have HCF : Hid (Hc7 w wr g gs rm cs fr (.slice la m lc) L mb (2 * m) (fsum cs L m)) := hC
                have HNS : Hid (∀ i : Nat, fsum cs L m ((i + 1 : Nat) : Int) = (ce cs i).ab) := fun i => by
                  rw [HM.out, HLE.out, ← HWF.out.ab i]
                  exact fsum_all cs i
                obtain ⟨F, hF⟩ : ∃ F, F = fsum cs L m := ⟨_, rfl⟩
                rw [← hF] at HCF HNS
                have nlt2 : ¬ (m : Int) < (m : Int) := by omega
                clear hF hkk hlt hC
                go_wp2_with fail
                go_loopw [14] (fun iv wr => ∃ kk : Nat, kk ≤ m ∧ iv = .int .i64 (kk : Int) ∧ Hid (Hc7 w wr g gs rm cs fr (.slice la m lc) L mb (2 * m) F)) (fun iv _ => m - (intOf iv).toNat)
                case atStart => exact ⟨0, by omega, rfl, HCF⟩
                case round =>
                  clear HCF
                  obtain ⟨kk, hkk, rfl, hC⟩ := hrel
                  by_cases hlt : kk < m
                  · obtain ⟨i, hLi, hci⟩ := HLB.out kk hlt
                    have hkL : kk < L.length := by rw [← HM.out]; exact hlt
                    obtain ⟨lb, lc', e, _⟩ := lst_pos hC.out.lst (by omega)
                    injection e with e1 e2 e3
                    subst e1
                    subst e3
                    clear e2
                    have HCL2 : Hid (∀ w', Below wr.heap.size wr w' → w'.cell? ⟨lb, kk, none⟩ = some (.int .i64 ((i + 1 : Nat) : Int))) := fun w' hb => by
                      have h0 := (hC.out.grow hb).lst
                      rw [HM.out] at h0
                      rw [lst_cell h0 kk (by omega)]
                      rw [List.getElem?_eq_getElem hkL] at hLi
                      injection hLi with hLi
                      rw [nats_get L kk hkL]
                      simp [List.getD, hkL, hLi]
                    have hot : cot cs ((i + 1 : Nat) : Int) = cc cs i := by unfold cot; rw [if_pos (by omega), show ((i + 1 : Nat) : Int) - 1 = (i : Int) by omega, Int.toNat_natCast]
                    have hat : cat cs ((i + 1 : Nat) : Int) = ce cs i := by rw [cat_nat]; rfl
                    have HCT : Hid (∀ w', Below wr.heap.size wr w' → Calls Tryd.prog 12 #[.pointer (some ⟨g, 0, none⟩), .int .i64 ((i + 1 : Nat) : Int)] w' fun e w'' => e = .returned (.int .i64 (cc cs i : Int)) ∧ w'' = w') := fun w' hb => by
                      have := (hC.out.hw.vw).count w' ((i + 1 : Nat) : Int) hb
                      rwa [hot] at this
                    have HHD : Hid (∀ w', Below wr.heap.size wr w' → Calls Tryd.prog 13 #[.pointer (some ⟨g, 0, none⟩), .int .i64 ((i + 1 : Nat) : Int)] w' fun e w'' => e = .returned (.int .i64 ((cc cs i - (ce cs i).ab : Nat) : Int)) ∧ Below w'.heap.size w' w'') := fun w' hb => by
                      have := held_any (hC.out.grow hb).hw.vw ((i + 1 : Nat) : Int)
                      rwa [hot, hat] at this
                    have HLK : Hid (∀ w', Below wr.heap.size wr w' → (Instr.lookup 41 (.map (some mb)) (.int .i64 ((i + 1 : Nat) : Int)) false).run Tryd.prog w' = .ok (.int .i64 ((ce cs i).ab : Int)) w') := fun w' hb => by
                      have hil := cc_lt hci
                      have := (hC.out.grow hb).mp.look (wfi_nat (i + 1) (by have := HCL.out; omega))
                      rwa [HNS.out i] at this
                    have hab := HWF.out.le i
                    rw [List.count_nil] at hab
                    have hmo := hC.out.hw.inv.most i
                    rw [cnt_pl] at hmo
                    obtain ⟨A, hA⟩ : ∃ A, A = (ce cs i).ab := ⟨_, rfl⟩
                    obtain ⟨Cn, hCn⟩ : ∃ C, C = cc cs i := ⟨_, rfl⟩
                    rw [← hA] at HHD HLK hab
                    rw [← hCn] at HHD HCT hab hmo hci
                    obtain ⟨H, hH⟩ : ∃ H, H = Cn - A := ⟨_, rfl⟩
                    rw [← hH] at HHD
                    have HSM : Hid (IntKind.i64.wrap ((H : Int) + (A : Int)) = (Cn : Int)) := by
                      show _ = _
                      simp only [IntKind.wrap_i64]
                      omega
                    have HCP : Hid (¬ (Cn : Int) < 1) := by show ¬ _; omega
                    obtain ⟨hx, hhx⟩ : ∃ hx : Int, hx = ((i + 1 : Nat) : Int) := ⟨_, rfl⟩
                    rw [← hhx] at HCL2 HCT HHD HLK
                    have k0 : (0 : Int) ≤ (kk : Int) := by omega
                    have k1 : (kk : Int) < (m : Int) := by omega
                    have hwk : wrap64 ((kk : Int) + 1) = ((kk + 1 : Nat) : Int) := by rw [Go.IntWalk.wrap64_in _ (by omega)]; rfl
                    have HS0 : Hid (Below wr.heap.size wr wr.drew) := below_drewN (Below.refl _ _) 1
                    have HCK := hidden hC.out
                    clear hLi hci hkL hot hat hab hmo hA hCn hH hhx hC
                    go_wp2_with fail
                    refine wp_region_held_drew (S := fun w' => Below wr.heap.size wr w') (by kernel_rfl) (HS0.out) (fun hHeld => ?_)
                    refine wpAnyH_take (i := 0) (v := .pointer (some ⟨g, 0, none⟩)) rfl (by kernel_rfl) (by kernel_rfl) (by kernel_rfl) (fun _ _ _ h => h) (Or.inl ⟨by rfl, fun w hS => by go_simp⟩) hHeld ?_
                    simp only [Act.put, List.getElem_toArray, List.getElem_cons_zero, List.setIfInBounds_toArray, List.set_cons_zero, List.set_cons_succ]
                    refine wpAnyH_take (i := 1) (v := .slice (some ⟨lb, 0, none⟩) m lc) rfl (by kernel_rfl) (by kernel_rfl) (by kernel_rfl) (fun _ _ _ h => h) (Or.inl ⟨by rfl, fun w hS => by go_simp⟩) hHeld ?_
                    simp only [Act.put, List.getElem_toArray, List.getElem_cons_zero, List.getElem_cons_succ, List.setIfInBounds_toArray, List.set_cons_zero, List.set_cons_succ]
                    refine wpAnyH_take (i := 2) (v := .int .i64 (kk : Int)) rfl (by kernel_rfl) (by kernel_rfl) (by kernel_rfl) (fun _ _ _ h => h) (Or.inl ⟨by rfl, fun w hS => by go_simp⟩) hHeld ?_
                    simp only [Act.put, List.getElem_toArray, List.getElem_cons_zero, List.getElem_cons_succ, List.setIfInBounds_toArray, List.set_cons_zero, List.set_cons_succ]
                    refine wpAnyH_take (i := 3) (v := .pointer (some ⟨lb, kk, none⟩)) rfl (by kernel_rfl) (by kernel_rfl) (by kernel_rfl) (fun _ _ _ h => h) (Or.inl ⟨by rfl, fun w hS => by go_simp⟩) hHeld ?_
                    simp only [Act.put, List.getElem_toArray, List.getElem_cons_zero, List.getElem_cons_succ, List.setIfInBounds_toArray, List.set_cons_zero, List.set_cons_succ]
                    refine wpAnyH_take (i := 4) (v := .int .i64 hx) rfl (by kernel_rfl) (by kernel_rfl) (by kernel_rfl) (fun _ _ _ h => h) (Or.inl ⟨by rfl, fun w hS => by (have q1 := HCL2.out _ hS; go_simp)⟩) hHeld ?_
                    simp only [Act.put, List.getElem_toArray, List.getElem_cons_zero, List.getElem_cons_succ, List.setIfInBounds_toArray, List.set_cons_zero, List.set_cons_succ]
                    refine wpAnyH_take (i := 6) (v := .pointer (some ⟨g, 0, none⟩)) rfl (by kernel_rfl) (by kernel_rfl) (by kernel_rfl) (fun _ _ _ h => h) (Or.inl ⟨by rfl, fun w hS => by go_simp⟩) hHeld ?_
                    simp only [Act.put, List.getElem_toArray, List.getElem_cons_zero, List.getElem_cons_succ, List.setIfInBounds_toArray, List.set_cons_zero, List.set_cons_succ]
                    refine wpAnyH_take (i := 7) (v := .slice (some ⟨lb, 0, none⟩) m lc) rfl (by kernel_rfl) (by kernel_rfl) (by kernel_rfl) (fun _ _ _ h => h) (Or.inl ⟨by rfl, fun w hS => by go_simp⟩) hHeld ?_
                    simp only [Act.put, List.getElem_toArray, List.getElem_cons_zero, List.getElem_cons_succ, List.setIfInBounds_toArray, List.set_cons_zero, List.set_cons_succ]
                    refine wpAnyH_take (i := 8) (v := .int .i64 (kk : Int)) rfl (by kernel_rfl) (by kernel_rfl) (by kernel_rfl) (fun _ _ _ h => h) (Or.inl ⟨by rfl, fun w hS => by go_simp⟩) hHeld ?_
                    simp only [Act.put, List.getElem_toArray, List.getElem_cons_zero, List.getElem_cons_succ, List.setIfInBounds_toArray, List.set_cons_zero, List.set_cons_succ]
                    refine wpAnyH_take (i := 9) (v := .pointer (some ⟨lb, kk, none⟩)) rfl (by kernel_rfl) (by kernel_rfl) (by kernel_rfl) (fun _ _ _ h => h) (Or.inl ⟨by rfl, fun w hS => by go_simp⟩) hHeld ?_
                    simp only [Act.put, List.getElem_toArray, List.getElem_cons_zero, List.getElem_cons_succ, List.setIfInBounds_toArray, List.set_cons_zero, List.set_cons_succ]
                    refine wpAnyH_take (i := 10) (v := .int .i64 hx) rfl (by kernel_rfl) (by kernel_rfl) (by kernel_rfl) (fun _ _ _ h => h) (Or.inl ⟨by rfl, fun w hS => by (have q1 := HCL2.out _ hS; go_simp)⟩) hHeld ?_
                    simp only [Act.put, List.getElem_toArray, List.getElem_cons_zero, List.getElem_cons_succ, List.setIfInBounds_toArray, List.set_cons_zero, List.set_cons_succ]
                    refine wpAnyH_take (i := 12) (v := .map (some mb)) rfl (by kernel_rfl) (by kernel_rfl) (by kernel_rfl) (fun _ _ _ h => h) (Or.inl ⟨by rfl, fun w hS => by go_simp⟩) hHeld ?_
                    simp only [Act.put, List.getElem_toArray, List.getElem_cons_zero, List.getElem_cons_succ, List.setIfInBounds_toArray, List.set_cons_zero, List.set_cons_succ]
                    refine wpAnyH_take (i := 13) (v := .slice (some ⟨lb, 0, none⟩) m lc) rfl (by kernel_rfl) (by kernel_rfl) (by kernel_rfl) (fun _ _ _ h => h) (Or.inl ⟨by rfl, fun w hS => by go_simp⟩) hHeld ?_
                    simp only [Act.put, List.getElem_toArray, List.getElem_cons_zero, List.getElem_cons_succ, List.setIfInBounds_toArray, List.set_cons_zero, List.set_cons_succ]
                    refine wpAnyH_take (i := 14) (v := .int .i64 (kk : Int)) rfl (by kernel_rfl) (by kernel_rfl) (by kernel_rfl) (fun _ _ _ h => h) (Or.inl ⟨by rfl, fun w hS => by go_simp⟩) hHeld ?_
                    simp only [Act.put, List.getElem_toArray, List.getElem_cons_zero, List.getElem_cons_succ, List.setIfInBounds_toArray, List.set_cons_zero, List.set_cons_succ]
                    refine wpAnyH_take (i := 15) (v := .pointer (some ⟨lb, kk, none⟩)) rfl (by kernel_rfl) (by kernel_rfl) (by kernel_rfl) (fun _ _ _ h => h) (Or.inl ⟨by rfl, fun w hS => by go_simp⟩) hHeld ?_
                    simp only [Act.put, List.getElem_toArray, List.getElem_cons_zero, List.getElem_cons_succ, List.setIfInBounds_toArray, List.set_cons_zero, List.set_cons_succ]
                    refine wpAnyH_take (i := 16) (v := .int .i64 hx) rfl (by kernel_rfl) (by kernel_rfl) (by kernel_rfl) (fun _ _ _ h => h) (Or.inl ⟨by rfl, fun w hS => by (have q1 := HCL2.out _ hS; go_simp)⟩) hHeld ?_
                    simp only [Act.put, List.getElem_toArray, List.getElem_cons_zero, List.getElem_cons_succ, List.setIfInBounds_toArray, List.set_cons_zero, List.set_cons_succ]
                    refine wpAnyH_take (i := 17) (v := .int .i64 (A : Int)) rfl (by kernel_rfl) (by kernel_rfl) (by kernel_rfl) (fun _ _ _ h => h) (Or.inl ⟨by rfl, fun w hS => by (have q1 := HLK.out _ hS; go_simp)⟩) hHeld ?_
                    simp only [Act.put, List.getElem_toArray, List.getElem_cons_zero, List.getElem_cons_succ, List.setIfInBounds_toArray, List.set_cons_zero, List.set_cons_succ]
                    refine wpAnyH_ready (rs := [5]) (by kernel_rfl) (by simp) ?_
                    refine AllReadyH.cons rfl (fun KQ hK => ?_) AllReadyH.nil
                    go_simp
                    refine (HCT.out _ hHeld).mono ?_
                    rintro e z1 ⟨rfl, hx1⟩
                    rw [hx1]
                    clear hx1 z1
                    refine hK.out _ _ (hHeld) (fun hHeld => ?_)
                    clear hK KQ
                    refine wpAnyH_ready (rs := [11]) (by kernel_rfl) (by simp) ?_
                    refine AllReadyH.cons rfl (fun KQ hK => ?_) AllReadyH.nil
                    go_simp
                    refine (HHD.out _ hHeld).mono ?_
                    rintro e z2 ⟨rfl, a2⟩
                    refine hK.out _ _ (grow_trans hHeld a2) (fun hHeld => ?_)
                    clear hK KQ
                    refine wpAnyH_take (i := 18) (v := .int .i64 (Cn : Int)) rfl (by kernel_rfl) (by kernel_rfl) (by kernel_rfl) (fun _ _ _ h => h) (Or.inl ⟨by rfl, fun w hS => by (go_simp; exact HSM.out)⟩) hHeld ?_
                    simp only [Act.put, List.getElem_toArray, List.getElem_cons_zero, List.getElem_cons_succ, List.setIfInBounds_toArray, List.set_cons_zero, List.set_cons_succ]
                    refine wpAnyH_take (i := 19) (v := .bool false) rfl (by kernel_rfl) (by kernel_rfl) (by kernel_rfl) (fun _ _ _ h => h) (Or.inl ⟨by rfl, fun w hS => by go_simp⟩) hHeld ?_
                    simp only [Act.put, List.getElem_toArray, List.getElem_cons_zero, List.getElem_cons_succ, List.setIfInBounds_toArray, List.set_cons_zero, List.set_cons_succ]
                    refine wpAnyH_take (i := 20) (v := .bool false) rfl (by kernel_rfl) (by kernel_rfl) (by kernel_rfl) (fun _ _ _ h => h) (Or.inl ⟨by rfl, fun w hS => by go_simp⟩) hHeld ?_
                    simp only [Act.put, List.getElem_toArray, List.getElem_cons_zero, List.getElem_cons_succ, List.setIfInBounds_toArray, List.set_cons_zero, List.set_cons_succ]
                    refine wpAnyH_take (i := 21) (v := .pointer (some ⟨g, 0, none⟩)) rfl (by kernel_rfl) (by kernel_rfl) (by kernel_rfl) (fun _ _ _ h => h) (Or.inl ⟨by rfl, fun w hS => by go_simp⟩) hHeld ?_
                    simp only [Act.put, List.getElem_toArray, List.getElem_cons_zero, List.getElem_cons_succ, List.setIfInBounds_toArray, List.set_cons_zero, List.set_cons_succ]
                    refine wpAnyH_take (i := 22) (v := .slice (some ⟨lb, 0, none⟩) m lc) rfl (by kernel_rfl) (by kernel_rfl) (by kernel_rfl) (fun _ _ _ h => h) (Or.inl ⟨by rfl, fun w hS => by go_simp⟩) hHeld ?_
                    simp only [Act.put, List.getElem_toArray, List.getElem_cons_zero, List.getElem_cons_succ, List.setIfInBounds_toArray, List.set_cons_zero, List.set_cons_succ]
                    refine wpAnyH_take (i := 23) (v := .int .i64 (kk : Int)) rfl (by kernel_rfl) (by kernel_rfl) (by kernel_rfl) (fun _ _ _ h => h) (Or.inl ⟨by rfl, fun w hS => by go_simp⟩) hHeld ?_
                    simp only [Act.put, List.getElem_toArray, List.getElem_cons_zero, List.getElem_cons_succ, List.setIfInBounds_toArray, List.set_cons_zero, List.set_cons_succ]
                    refine wpAnyH_take (i := 24) (v := .pointer (some ⟨lb, kk, none⟩)) rfl (by kernel_rfl) (by kernel_rfl) (by kernel_rfl) (fun _ _ _ h => h) (Or.inl ⟨by rfl, fun w hS => by go_simp⟩) hHeld ?_
                    simp only [Act.put, List.getElem_toArray, List.getElem_cons_zero, List.getElem_cons_succ, List.setIfInBounds_toArray, List.set_cons_zero, List.set_cons_succ]
                    refine wpAnyH_take (i := 25) (v := .int .i64 hx) rfl (by kernel_rfl) (by kernel_rfl) (by kernel_rfl) (fun _ _ _ h => h) (Or.inl ⟨by rfl, fun w hS => by (have q1 := HCL2.out _ hS; go_simp)⟩) hHeld ?_
                    simp only [Act.put, List.getElem_toArray, List.getElem_cons_zero, List.getElem_cons_succ, List.setIfInBounds_toArray, List.set_cons_zero, List.set_cons_succ]
                    refine wpAnyH_ready (rs := [26]) (by kernel_rfl) (by simp) ?_
                    refine AllReadyH.cons rfl (fun KQ hK => ?_) AllReadyH.nil
                    go_simp
                    refine (HCT.out _ hHeld).mono ?_
                    rintro e z3 ⟨rfl, hx3⟩
                    rw [hx3]
                    clear hx3 z3
                    refine hK.out _ _ (hHeld) (fun hHeld => ?_)
                    clear hK KQ
                    refine wpAnyH_take (i := 27) (v := .bool false) rfl (by kernel_rfl) (by kernel_rfl) (by kernel_rfl) (fun _ _ _ h => h) (Or.inl ⟨by rfl, fun w hS => by (go_simp; exact HCP.out)⟩) hHeld ?_
                    simp only [Act.put, List.getElem_toArray, List.getElem_cons_zero, List.getElem_cons_succ, List.setIfInBounds_toArray, List.set_cons_zero, List.set_cons_succ]
                    refine wpAnyH_take (i := 28) (v := .bool false) rfl (by kernel_rfl) (by kernel_rfl) (by kernel_rfl) (fun _ _ _ h => h) (Or.inl ⟨by rfl, fun w hS => by go_simp⟩) hHeld ?_
                    simp only [Act.put, List.getElem_toArray, List.getElem_cons_zero, List.getElem_cons_succ, List.setIfInBounds_toArray, List.set_cons_zero, List.set_cons_succ]
                    have HFIN := hidden hHeld
                    refine wpAnyH_done (by kernel_rfl) ?_ _
                    clear hHeld
                    go_wp2
                    exact ⟨⟨kk + 1, by omega, by go_num, HCK.out.grow HFIN.out⟩, by simp [intOf]; omega⟩
                  · obtain rfl : m = kk := by omega
                    obtain ⟨mea, hmea⟩ := tot_fun g gs rm
                    have HME := hidden hmea
                    have HD0 : Hid (Dl w [] g gs rm cs fr (.slice la m lc) L [] wr) := by
                      obtain ⟨⟨vp, vf, s0, hlow, hbel⟩, _⟩ := hC.out.hw
                      exact ⟨vp, vf, s0, Mod.of_below hbel _, fun k hk => .inr (hlow k hk), hC.out.lst, fun k hk => ⟨hC.out.low k hk, hC.out.apart vp vf s0 k hk⟩, fun x hx => by cases hx⟩
                    have HI0 : Hid (Wf cs [] ∧ 0 + noc cs = m ∧ (∀ j, j < 0 → ∀ i, L[j]? = some (i + 1) → own cs [] i = 0) ∧ ∀ i, 0 < cc cs i → 0 < cc cs i) := by
                      refine ⟨HWF.out, ?_, fun j hj => by omega, fun i h => h⟩
                      rw [HM.out, HLE.out, slots_length]
                      show 0 + occs (cs.map pl) = _
                      omega
                    have HALL : Hid (∀ i, 0 < cc cs i → ∃ j, j < m ∧ L[j]? = some (i + 1)) := fun i hi => by
                      obtain ⟨j, hj, e⟩ := slot_all (cs := cs) i hi
                      refine ⟨j, by rw [HM.out, HLE.out]; exact hj, ?_⟩
                      rw [HLE.out, List.getElem?_eq_getElem hj, e]
                    have nlt3 : ¬ (m : Int) < (m : Int) := by omega
                    clear hkk hlt hC hmea HNS HWF
                    go_wp2_with fail
                    go_loopw [15, 16] (fun fv iv wr => ∃ (kk n : Nat) (cs1 : List (Nat × Ce)) (fr1 : List Nat), kk ≤ m ∧ fv = .int .i64 (n : Int) ∧ iv = .int .i64 (kk : Int) ∧ Hid (Dl w [] g gs rm cs1 fr1 (.slice la m lc) L [] wr) ∧ Hid (Wf cs1 [] ∧ n + noc cs1 = m ∧ (∀ j, j < kk → ∀ i, L[j]? = some (i + 1) → own cs1 [] i = 0) ∧ ∀ i, 0 < cc cs1 i → 0 < cc cs i)) (fun _ iv _ => m - (intOf iv).toNat)
                    case atStart => exact ⟨0, 0, cs, fr, by omega, rfl, rfl, HD0, HI0⟩
                    case round =>
                      clear HD0 HI0
                      obtain ⟨kk, n, cs1, fr1, hkk, rfl, rfl, hD, hI⟩ := hrel
                      by_cases hlt : kk < m
                      · obtain ⟨i, hLi, _⟩ := HLB.out kk hlt
                        have hkL : kk < L.length := by rw [← HM.out]; exact hlt
                        have HLi := hidden hLi
                        obtain ⟨lb, lc', e, hlc⟩ : ∃ lb lc', Value.slice la m lc = .slice (some ⟨lb, 0, none⟩) L.length lc' ∧ L.length ≤ lc' := by
                          obtain ⟨_, _, _, _, _, h4, _, _⟩ := hD.out
                          exact lst_pos h4 (by omega)
                        injection e with e1 e2 e3
                        subst e1
                        subst e3
                        clear e2 hlc
                        have HCX : Hid (∀ w' cs' fr', Dl w [] g gs rm cs' fr' (.slice (some ⟨lb, 0, none⟩) m lc) L [] w' → w'.cell? ⟨lb, kk, none⟩ = some (.int .i64 ((i + 1 : Nat) : Int))) := fun w' cs' fr' d => by
                          obtain ⟨_, _, _, _, _, h0, _, _⟩ := d
                          rw [HM.out] at h0
                          rw [lst_cell h0 kk (by omega)]
                          rw [List.getElem?_eq_getElem hkL] at hLi
                          injection hLi with hLi
                          rw [nats_get L kk hkL]
                          simp [List.getD, hkL, hLi]
                        have k0 : (0 : Int) ≤ (kk : Int) := by omega
                        have k1 : (kk : Int) < (m : Int) := by omega
                        have hwk : wrap64 ((kk : Int) + 1) = ((kk + 1 : Nat) : Int) := by rw [Go.IntWalk.wrap64_in _ (by omega)]; rfl
                        obtain ⟨hx, hhx⟩ : ∃ hx : Int, hx = ((i + 1 : Nat) : Int) := ⟨_, rfl⟩
                        rw [← hhx] at HCX
                        have HHX := hidden hhx
                        have HD1 := hidden hD.out
                        have HI1 := hidden hI.out
                        clear hLi hkL hhx hD hI
                        go_wp2_with fail
                        go_loopw [15] (fun fv wr => ∃ (n : Nat) (cs1 : List (Nat × Ce)) (fr1 : List Nat), fv = .int .i64 (n : Int) ∧ Hid (Dl w [] g gs rm cs1 fr1 (.slice (some ⟨lb, 0, none⟩) m lc) L [] wr) ∧ Hid (Wf cs1 [] ∧ n + noc cs1 = m ∧ (∀ j, j < kk → ∀ i, L[j]? = some (i + 1) → own cs1 [] i = 0) ∧ ∀ i, 0 < cc cs1 i → 0 < cc cs i)) (fun _ wr => mea wr)
                        case atStart => exact ⟨n, cs1, fr1, rfl, HD1, HI1⟩
                        case round =>
                          clear HD1 HI1
                          obtain ⟨n, cs1, fr1, rfl, hD, hI⟩ := hrel
                          have hcl := HCX.out _ _ _ hD.out
                          have hot : cot cs1 ((i + 1 : Nat) : Int) = cc cs1 i := by unfold cot; rw [if_pos (by omega), show ((i + 1 : Nat) : Int) - 1 = (i : Int) by omega, Int.toNat_natCast]
                          have hat : cat cs1 ((i + 1 : Nat) : Int) = ce cs1 i := by rw [cat_nat]; rfl
                          have HHD := hidden (held_any (hD.out.vw hI.out.1) ((i + 1 : Nat) : Int))
                          rw [hot, hat] at HHD
                          have how : cc cs1 i - (ce cs1 i).ab = own cs1 [] i := by unfold own; rw [List.count_nil]; rfl
                          rw [how, ← HHX.out] at HHD
                          have HME0 : Hid (mea wr = tot cs1) := by
                            obtain ⟨vp1, vf1, q1, _⟩ := hD.out
                            exact HME.out _ _ _ _ _ q1
                          by_cases ho : own cs1 [] i = 0
                          · rw [ho] at HHD
                            have HO := hidden ho
                            clear hot hat how ho
                            go_wp2_with (go_at_call 13; refine HHD.out.mono ?_; rintro e x1 ⟨rfl, b1⟩; have HDx := hidden (hD.out.grow b1); clear b1)
                            refine ⟨⟨kk + 1, n, cs1, fr1, by omega, rfl, by go_num, HDx, hI.out.1, hI.out.2.1, fun j hj i' hi' => ?_, hI.out.2.2.2⟩, by simp [intOf]; omega⟩
                            by_cases ej : j = kk
                            · subst ej
                              rw [HLi.out] at hi'
                              injection hi' with hi'
                              have : i = i' := by omega
                              rw [← this]
                              exact HO.out
                            · exact hI.out.2.2.1 j (by omega) i' hi'
                          · have hpos : 0 < own cs1 [] i := by omega
                            obtain ⟨H, hH⟩ : ∃ H, H = own cs1 [] i := ⟨_, rfl⟩
                            rw [← hH] at HHD
                            have hHp : (0 : Int) < (H : Int) := by omega
                            have HDR : Hid (∀ w', Below wr.heap.size wr w' → Calls Tryd.prog 14 #[.pointer (some ⟨g, 0, none⟩), .int .i64 hx] w' fun e w'' => ∃ (q : Nat) (cs' : List (Nat × Ce)) (fr' : List Nat), e = .returned (.tuple #[.int .i64 (q : Int), .int .i64 0]) ∧ q ≤ 65536 ∧ Hid (Dl w [] g gs rm cs' fr' (.slice (some ⟨lb, 0, none⟩) m lc) L [] w'') ∧ Hid (Step cs1 [i + 1] cs' [] q ∧ tot cs' < tot cs1)) := fun w' hb => by
                              rw [HHX.out]
                              refine ((hD.out.grow hb).drop hI.out.1 i hpos).mono ?_
                              rintro e w'' ⟨cs', fr', q, hs, ht, rfl, hd⟩
                              refine ⟨q, cs', fr', rfl, ?_, hd, hs, ht⟩
                              have h1 := hs.noc
                              have h2 := hI.out.2.1
                              omega
                            have hnn : n ≤ 60 := by have := hI.out.2.1; omega
                            have HC2 := hcl
                            clear hot hat how ho hpos hH
                            have HCD : Hid (∀ w', Below wr.heap.size wr w' → w'.cell? ⟨lb, kk, none⟩ = some (.int .i64 hx)) := fun w' hb => HCX.out _ _ _ (hD.out.grow hb)
                            go_wp2_with (first
                              | (go_at_call 13; refine HHD.out.mono ?_; rintro e x1 ⟨rfl, b1⟩; have hcl1 := HCD.out _ b1; have HB1 := hidden b1; clear b1)
                              | (go_at_call 14; refine (HDR.out _ HB1.out).mono ?_; rintro e x2 ⟨q, cs2, fr2, rfl, hq, d2, s2⟩; have hwq : wrap64 ((n : Int) + (q : Int)) = ((n + q : Nat) : Int) := (by rw [Go.IntWalk.wrap64_in _ (by omega)]; rfl); clear hq))
                            have hmm : mea x2 = tot cs2 := by
                              obtain ⟨vp1, vf1, q1, _⟩ := d2.out
                              exact HME.out _ _ _ _ _ q1
                            obtain ⟨hst, htt⟩ := s2.out
                            refine ⟨⟨n + q, cs2, fr2, by go_num, d2, hst.wf, ?_, fun j hj i' hi' => ?_, fun i' hi' => hI.out.2.2.2 i' (hst.keep i' hi').1⟩, ?_⟩
                            · have h1 := hst.noc
                              have h2 := hI.out.2.1
                              omega
                            · rw [hst.own i']
                              have h1 := hI.out.2.2.1 j hj i' hi'
                              unfold own at h1 ⊢
                              rw [List.count_nil] at h1
                              omega
                            · rw [hmm, HME0.out]
                              exact htt
                      · obtain rfl : m = kk := by omega
                        have hz : noc cs1 = 0 := none_left hI.out.1 (fun i => by
                          by_cases hc : 0 < cc cs1 i
                          · obtain ⟨j, hj, e⟩ := HALL.out i (hI.out.2.2.2 i hc)
                            exact hI.out.2.2.1 j hj i e
                          · unfold own
                            omega)
                        have hnm : n = m := by have := hI.out.2.1; omega
                        subst hnm
                        have HOC := hidden hD.out.occ
                        rw [hz] at HOC
                        clear hI hz
                        go_wp2_with (go_at_call 15; refine HOC.out.mono ?_; rintro e x1 ⟨rfl, b1⟩; have HDx := hidden (hD.out.grow b1); clear b1)
                        go_ret
                        refine ⟨rfl, ?_⟩
                        obtain ⟨_, _, _, hmod, _⟩ := HDx.out
                        exact hmod.below0


end Go.Proofs.YtjikgagaalbaeaaDoor
