/- A law's call of one store (do), as a contract: whatever it is, a store is left. -/
import Derived.Test.YtjikgagaalbaeaaGreatDoorTr40
import Derived.Test.YtjikgagaalbaeaaGreatDoorTr11
import Derived.Deep.RegionHeld
import Derived.Deep.RegionHeld2
namespace Go.Proofs.YtjikgagaalbaeaaGreatDoor
set_option maxRecDepth 20000
open Go.RowKit

/-- A store that a walk keeps, and blocks X that hold what they hold and are not its own. -/
def Hx (w0 w : World) (X : List (Nat × Obj)) (g gs room : Nat) (cs : List (Nat × Ce)) (fr : List Nat) : Prop := (∃ vp vf, Stm w g gs vp vf room cs fr ∧ (∀ k ∈ stB g gs vp vf cs, w0.heap.size ≤ k) ∧ Below w0.heap.size w0 w ∧ ∀ x ∈ X, w.heap[x.1]? = some x.2 ∧ x.1 ∉ stB g gs vp vf cs) ∧ Wf cs []
theorem Hx.hw {w0 w : World} {X : List (Nat × Obj)} {g gs room : Nat} {cs : List (Nat × Ce)} {fr : List Nat} (h : Hx w0 w X g gs room cs fr) : Hw w0 w g gs room cs fr := by
  obtain ⟨⟨vp, vf, h1, h2, h3, _⟩, h4⟩ := h
  exact ⟨⟨vp, vf, h1, h2, h3⟩, h4⟩
theorem Hx.held {w0 w : World} {X : List (Nat × Obj)} {g gs room : Nat} {cs : List (Nat × Ce)} {fr : List Nat} {b : Nat} {t : TypeId} {cells : Array Value} (h : Hx w0 w X g gs room cs fr) (hx : (b, Obj.cells cells t (0, 0)) ∈ X) : Blk w b t cells := by
  obtain ⟨⟨_, _, _, _, _, h⟩, _⟩ := h
  exact (h _ hx).1
theorem Hw.holdX {w0 w w' : World} {g gs room : Nat} {cs : List (Nat × Ce)} {fr : List Nat} {b : Nat} {o : Obj} (h : Hw w0 w g gs room cs fr) (hb : Below w.heap.size w w') (hk : w.heap.size ≤ b) (hB : w'.heap[b]? = some o) : Hx w0 w' [(b, o)] g gs room cs fr := by
  obtain ⟨⟨vp, vf, h1, h2, h3⟩, h4⟩ := h
  refine ⟨⟨vp, vf, h1.grow hb, h2, grow_trans h3 hb, fun x hx => ?_⟩, h4⟩
  obtain rfl : x = (b, o) := by simpa using hx
  exact ⟨hB, fun e => by have := h1.lts _ e; simp only at this; omega⟩
theorem Hx.turn {w0 w w' : World} {X : List (Nat × Obj)} {g gs room : Nat} {cs cs' : List (Nat × Ce)} {fr' : List Nat} {vp vf : Value} (h2 : ∀ k ∈ stB g gs vp vf cs, w0.heap.size ≤ k) (h3 : Below w0.heap.size w0 w) (hX : ∀ x ∈ X, w.heap[x.1]? = some x.2 ∧ x.1 ∉ stB g gs vp vf cs) (t : STurn w g gs (stB g gs vp vf cs) room cs' fr' w') (hw : Wf cs' []) : Hx w0 w' X g gs room cs' fr' := by
  obtain ⟨vp', vf', k1, k2, k3⟩ := t
  refine ⟨⟨vp', vf', k1, k3.base h2 h3.size, h3.trans (k2.below h2 h3.size), fun x hx => ?_⟩, hw⟩
  obtain ⟨q1, q2⟩ := hX x hx
  have hlt := (Array.getElem?_eq_some_iff.1 q1).1
  refine ⟨(k2.block x.1 hlt q2).trans q1, fun e => ?_⟩
  rcases k3 x.1 e with e | e
  · exact q2 e
  · omega

theorem hx_hold_any {w0 w : World} {X : List (Nat × Obj)} {g gs room : Nat} {cs : List (Nat × Ce)} {fr : List Nat} (h : Hx w0 w X g gs room cs fr) (q : Int) : Calls Tryz.prog 25 #[.pointer (some ⟨g, 0, none⟩), .int .i64 q] w fun e w' => ∃ a cs' fr', e = .returned (.int .i64 a) ∧ Hx w0 w' X g gs room cs' fr' := by
  have hh := h
  obtain ⟨⟨vp, vf, h1, h2, h3, hX⟩, h4⟩ := h
  by_cases hc : cot cs q = 0
  · exact (holdS_bad h1 q hc).mono fun e w' ⟨e1, b⟩ => ⟨_, _, _, e1, b ▸ hh⟩
  · obtain ⟨i, rfl, c2, c3, c4⟩ := cot_in (cs := cs) (h := q) (by omega)
    have hmo := h1.sl.inv.most i
    rw [cnt_pl] at hmo
    by_cases hl : cc cs i = 1073741824
    · exact (holdS_long h1 i hl).mono fun e w' ⟨e1, b⟩ => ⟨_, _, _, e1, b ▸ hh⟩
    · exact (holdS_ok h1 i c2 (by omega)).mono fun e w' ⟨e1, t⟩ => ⟨_, _, _, e1, Hx.turn h2 h3 hX t (h4.more i c2)⟩

set_option maxHeartbeats 4000000 in
theorem do_any {w0 w : World} {g gs room : Nat} {cs : List (Nat × Ce)} {fr : List Nat} (h : Hw w0 w g gs room cs fr) (q : Ac) (hK : Key q.K) (hr : Reads w q.v q.bs) (hm : q.bs.length ≤ 140737488355328) (hL : Laid w0) : Calls Tryz.prog 10 #[.pointer (some ⟨g, 0, none⟩), .agg (acL q).toArray] w fun e w' => e = .returned (.tuple #[]) ∧ ∃ cs' fr', Hw w0 w' g gs room cs' fr' := by
  have HKL := hidden hK.1
  have HKK := hidden hK
  have HKZ : Hid ((Tryz.prog.info? 31).map (·.size) = some (q.K.map (Value.int .u8)).length) := by show _ = _; rw [List.length_map, hK.1]; exact size_path
  have HLa := hidden hL
  have HR : Hid (∀ w', Below w.heap.size w w' → Reads w' q.v q.bs) := fun w' hb => hr.grow hb
  have HM := hidden hm
  have HH := hidden h
  obtain ⟨k, K, v, bs, d, x, y⟩ := q
  have hsh : acL ⟨k, K, v, bs, d, x, y⟩ = azL k K v d x y := rfl
  rw [hsh]
  clear hK hr hm hL h hsh
  by_cases k0 : k = 0
  · subst k0
    go_enter Tryz.func10, Tryz.ntmps10
    go_wp2_with (first
      | ((with_reducible refine at_bxd 3 ?_); refine wpList_bx _ rfl _ _ rfl _ rfl ?_; intro w1 b3 hg3 hl3 B3 q1; have HB3 := hidden B3; have HQ := hidden q1; replace HH := hidden (HH.out.grow q1); obtain ⟨f0, f33, f34, f35, f36⟩ := act_cells B3 HKL.out; clear hg3 hl3 B3 q1)
      | ((with_reducible refine at_ldd 10 9 ?_); refine wpList_load_mid rfl _ _ rfl b3 1 rfl (K.map (Value.int .u8)) _ (act_key HB3.out) Tryz.underlying31 rfl HKZ.out ?_)
      | (go_at_call 21; refine (hw_leaf_any HH.out K v bs (HR.out _ HQ.out) HKK.out (HLa.out.grow HH.out.low) HM.out).mono ?_; rintro e w2 ⟨a2, c2, cs2, fr2, rfl, h2⟩; have HH2 := hidden h2; clear h2))
    go_end0
    exact ⟨rfl, _, _, HH2.out⟩
  · have n0 : (k == 0) = false := by simp [k0]
    by_cases k1 : k = 1
    · subst k1
      clear n0 k0
      go_enter Tryz.func10, Tryz.ntmps10
      go_wp2_with (first
        | ((with_reducible refine at_bxd 3 ?_); refine wpList_bx _ rfl _ _ rfl _ rfl ?_; intro w1 b3 hg3 hl3 B3 q1; replace HH := hidden (HH.out.grow q1); obtain ⟨f0, f33, f34, f35, f36⟩ := act_cells B3 HKL.out; clear hg3 hl3 B3 q1)
        | (go_at_call 27; refine (hw_inner_any HH.out d x y (HLa.out.grow HH.out.low)).mono ?_; rintro e w2 ⟨a2, c2, cs2, fr2, rfl, h2⟩; have HH2 := hidden h2; clear h2))
      go_end0
      exact ⟨rfl, _, _, HH2.out⟩
    · have n1 : (k == 1) = false := by simp [k1]
      by_cases k2 : k = 2
      · subst k2
        clear n0 k0 n1 k1
        go_enter Tryz.func10, Tryz.ntmps10
        go_wp2_with (first
          | ((with_reducible refine at_bxd 3 ?_); refine wpList_bx _ rfl _ _ rfl _ rfl ?_; intro w1 b3 hg3 hl3 B3 q1; replace HH := hidden (HH.out.grow q1); obtain ⟨f0, f33, f34, f35, f36⟩ := act_cells B3 HKL.out; clear hg3 hl3 B3 q1)
          | (go_at_call 25; refine (hw_hold_any HH.out x).mono ?_; rintro e w2 ⟨a2, cs2, fr2, rfl, h2⟩; have HH2 := hidden h2; clear h2))
        go_end0
        exact ⟨rfl, _, _, HH2.out⟩
      · have n2 : (k == 2) = false := by simp [k2]
        by_cases k3 : k = 3
        · subst k3
          clear n0 k0 n1 k1 n2 k2
          go_enter Tryz.func10, Tryz.ntmps10
          go_wp2_with (first
            | ((with_reducible refine at_bxd 3 ?_); refine wpList_bx _ rfl _ _ rfl _ rfl ?_; intro w1 b3 hg3 hl3 B3 q1; replace HH := hidden (HH.out.grow q1); obtain ⟨f0, f33, f34, f35, f36⟩ := act_cells B3 HKL.out; clear hg3 hl3 B3 q1)
            | (go_at_call 29; refine (hw_drop_any HH.out x).mono ?_; rintro e w2 ⟨a2, c2, cs2, fr2, rfl, h2⟩; have HH2 := hidden h2; clear h2))
          go_end0
          exact ⟨rfl, _, _, HH2.out⟩
        · have n3 : (k == 3) = false := by simp [k3]
          by_cases k5 : k = 5
          · subst k5
            clear n0 k0 n1 k1 n2 k2 n3 k3
            go_enter Tryz.func10, Tryz.ntmps10
            go_wp2_with (first
              | ((with_reducible refine at_bxd 3 ?_); refine wpList_bx _ rfl _ _ rfl _ rfl ?_; intro w1 b3 hg3 hl3 B3 q1; have HX1 := hidden (HH.out.holdX q1 hg3 B3); obtain ⟨f0, f33, f34, f35, f36⟩ := act_cells B3 HKL.out; clear hg3 hl3 B3 q1)
              | (go_at_call 25; have mk := m1; clear mk; refine (hx_hold_any HX2.out y).mono ?_; rintro e w3 ⟨a3, cs3, fr3, rfl, h3⟩; have HX3 := hidden h3; obtain ⟨f0'', f33'', f34'', f35'', f36''⟩ := act_cells (h3.held (List.mem_cons_self ..)) HKL.out; clear h3)
              | (go_at_call 25; refine (hx_hold_any HX1.out x).mono ?_; rintro e w2 ⟨a2, cs2, fr2, rfl, h2⟩; have HX2 := hidden h2; obtain ⟨f0', f33', f34', f35', f36'⟩ := act_cells (h2.held (List.mem_cons_self ..)) HKL.out; have m1 : Hid True := trivial; clear h2)
              | (go_at_call 27; refine (hw_inner_any HX3.out.hw d x y (HLa.out.grow HX3.out.hw.low)).mono ?_; rintro e w4 ⟨a4, c4, cs4, fr4, rfl, h4⟩; have HH4 := hidden h4; clear h4))
            go_end0
            exact ⟨rfl, _, _, HH4.out⟩
          · have n5 : (k == 5) = false := by simp [k5]
            clear k0 k1 k2 k3 k5
            go_enter Tryz.func10, Tryz.ntmps10
            go_wp2_with (first
              | ((with_reducible refine at_bxd 3 ?_); refine wpList_bx _ rfl _ _ rfl _ rfl ?_; intro w1 b3 hg3 hl3 B3 q1; replace HH := hidden (HH.out.grow q1); obtain ⟨f0, f33, f34, f35, f36⟩ := act_cells B3 HKL.out; clear hg3 hl3 B3 q1))
            go_end0
            exact ⟨rfl, _, _, HH.out⟩

end Go.Proofs.YtjikgagaalbaeaaGreatDoor

/- node.bare, Check, is, as contracts. -/
namespace Go.Proofs.YtjikgagaalbaeaaGreatDoor
set_option maxRecDepth 20000
open Go.RowKit

/-- A node that may be. -/
def okN (k : Int) (a b c d : List Int) : Bool := decide ((k = 0 ∧ a = z32 ∧ b = z32 ∧ c = z32 ∧ d = z32) ∨ (k = 1 ∧ c = z32 ∧ d = z32) ∨ (k = 2 ∧ a = z32 ∧ b = z32))

theorem z_nd : Nd 0 z32 z32 z32 z32 := ⟨by omega, by omega, rfl, rfl, rfl, rfl, z32_bytes, z32_bytes, z32_bytes, z32_bytes⟩

def BarePost (k : Int) (a b c d : List Int) (w : World) (e : Ending) (w' : World) : Prop :=
  ∃ k' a' b' c' d', e = .returned (.agg (B (nd k' a' b' c' d'))) ∧ Nd k' a' b' c' d' ∧ okN k a b c d = decide (nd k a b c d = nd k' a' b' c' d') ∧ Below w.heap.size w w'

def okE (k : Int) (a b c d : List Int) : Int := if okN k a b c d = true then 0 else 2

end Go.Proofs.YtjikgagaalbaeaaGreatDoor
