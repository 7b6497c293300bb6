/- Slots of a slab of things of type store.cell, as a contract. -/
import Derived.Test.YtjikgagaalbaeaaGreatDoorTr14
namespace Go.Proofs.YtjikgagaalbaeaaGreatDoor
set_option maxRecDepth 20000
open Go.RowKit

set_option maxHeartbeats 400000 in
theorem slots_noC (v : Value) (w : World) (h : NoC w v) : Calls Tryz.prog 42 #[v] w fun e w' => e = .returned (.slice none 0 0) ∧ w' = w := by
  have HN := hidden h
  clear h
  go_enter Tryz.func42, Tryz.ntmps42
  go_wp2_with (go_at_call 89; refine (made_noC v _ HN.out).mono ?_; rintro e w' ⟨rfl, rfl⟩)
  go_ret
  exact ⟨rfl, rfl⟩

set_option maxHeartbeats 2000000 in
theorem slots_okC (g : Nat) (vp vf : Value) (room : Nat) (ps : List Pl) (fr : List Nat) (w : World) (h : SlC w g vp vf room ps fr) : Calls Tryz.prog 42 #[.pointer (some ⟨g, 0, none⟩)] w fun e w' => ∃ a c, e = .returned (.slice a (slotsOf ps).length c) ∧ w'.ownsRow w.heap.size 3 1 (.slice a (slotsOf ps).length c) (slotsOf ps).length (nats (slotsOf ps)) ∧ Below w.heap.size w w' := by
  have c0 := h.c0
  have HS := hidden h
  have hl := h.inv.len
  have hr := h.inv.r2
  have hs := h.inv.sum
  have ho : occs ps ≤ 65536 := by omega
  have hp : ps.length ≤ 65536 := by omega
  clear h hl hr hs
  go_enter Tryz.func42, Tryz.ntmps42
  go_wp2_with (first
    | (go_at_call 89; refine (made_okC g _ c0).mono ?_; rintro e w' ⟨rfl, hx⟩; rw [hx]; clear hx w')
    | (go_at_call 86; refine (len_okC g vp vf room ps fr _ HS.out).mono ?_; rintro e w1 ⟨rfl, b1⟩; have HS1 := hidden (HS.out.mod (Mod.of_below b1 []) (fun _ _ h => (by cases h))); have c2 := HS1.out.c2; obtain ⟨pa, pc, rfl⟩ := lst_slice HS1.out.pls)
    | (at_make; refine wpList_mkL _ rfl _ _ _ 3 Tryz.underlying40 (.int .i64 0) 8 ⟨_, rfl, rfl, rfl, rfl⟩ rfl rfl _ _ _ _ 0 (occs ps) rfl rfl rfl rfl (by omega) (by omega) (by omega) ?_; intro w2 o2 bb2 _; have hcc := HS1.out.c2; have c2' := below_cell bb2 hcc; clear hcc))
  have hb2 : Below w.heap.size w w2 := b1.trans (bb2.mono b1.size)
  have HO : Hid (w2.ownsRow w.heap.size 3 1 (.slice (some ⟨w1.heap.size, 0, none⟩) 0 (occs ps)) (slotsK ps 0).length (nats (slotsK ps 0))) := ⟨by simp [slotsK, nats], .inr (by
    rcases o2.2 with ⟨h, _⟩ | ⟨g', cap, cur, h1, h2, h3⟩
    · cases h
    · exact ⟨g', cap, cur, h1, Nat.le_trans b1.size h2, h3⟩)⟩
  clear o2 bb2 b1 c2 HS1
  go_loopw [3, 16] (fun v i wr => ∃ (k : Nat) (a : Option Addr) (c : Nat), k ≤ ps.length ∧ i = .int .i64 k ∧ v = .slice a (slotsK ps k).length c ∧ Hid (wr.ownsRow w.heap.size 3 1 (.slice a (slotsK ps k).length c) (slotsK ps k).length (nats (slotsK ps k))) ∧ Below w.heap.size w wr) (fun _ i _ => ps.length - (intOf i).toNat)
  case atStart => exact ⟨0, _, _, by omega, rfl, rfl, HO, hb2⟩
  case round =>
    clear HO hb2
    obtain ⟨k, a, c, hk, rfl, rfl, hO, hbl⟩ := hrel
    have hle := slotsK_le ps k
    have HS1 := hidden (HS.out.mod (Mod.of_below hbl []) (fun _ _ h => by cases h))
    have c2 := HS1.out.c2
    have hwk : wrap64 ((k : Int) + 1) = ((k + 1 : Nat) : Int) := by rw [Go.IntWalk.wrap64_in _ (by omega)]; rfl
    by_cases hlt : k < ps.length
    · have i1 : (k : Int) < (ps.length : Int) := by omega
      have i0 : (0 : Int) ≤ (k : Int) := by omega
      obtain ⟨gp, pc', e, _⟩ := lst_pos HS1.out.pls (by omega)
      injection e with e1 _ e3
      subst e1
      subst e3
      have c4 := HS1.out.count k hlt
      obtain ⟨q, hq0⟩ : ∃ q, q = cnt ps k := ⟨_, rfl⟩
      rw [← hq0] at c4
      by_cases hc : 0 < cnt ps k
      · have hys := slotsK_yes ps k hc
        have HY := hidden hys
        have hq : (0 : Int) < (q : Int) := by omega
        clear hc hys hq0
        have HLE := hidden hle
        have HPP := hidden hp
        generalize hm : (slotsK ps k).length = m at *
        have HM := hidden hm
        clear hm
        go_wp2_with (at_builtin; refine wpList_appB _ rfl _ _ _ rfl w.heap.size 3 1 8 Tryz.underlying40 info_nat (by omega) _ m (nats (slotsK ps k)) rfl (hO.out.alloc _) wr.heap.size [Value.int .i64 ((k : Int) + 1)] rfl (Blk.new _ _ _) rfl (by intro u hu; simp at hu; subst hu; rfl) (by have := HLE.out; have := HPP.out; simp only [maxLen]; omega) (by have := HLE.out; have := HPP.out; omega) (by have := hbl.size; simp; omega) ?_; intro a3 c3 w3 o3 g3)
        have e3 : (slotsK ps (k + 1)).length = m + 1 := by rw [HY.out, List.length_append, HM.out]; rfl
        refine ⟨⟨k + 1, a3, c3, by omega, by go_num, by rw [e3], ?_, ?_⟩, by simp [intOf]; omega⟩
        · show World.ownsRow _ _ _ _ _ _ _
          rw [e3, HY.out, nats_snoc]
          exact o3
        · exact (hbl.trans ((grow_alloc wr _).mono hbl.size)).grown g3 (by have := hbl.size; simp; omega) (fun q hq => (hO.out.lt q hq).1)
      · have hno := slotsK_no ps k hc
        have HY := hidden hno
        have hqz : q = 0 := by omega
        subst hqz
        clear hc hno hq0
        go_wp2
        refine ⟨⟨k + 1, a, c, by omega, by go_num, by rw [HY.out], ?_, hbl⟩, by simp [intOf]; omega⟩
        rw [HY.out]
        exact hO
    · obtain rfl : k = ps.length := by omega
      have HO2 := hO
      clear hO
      generalize hm : (slotsK ps ps.length).length = m at *
      have HM := hidden hm
      clear hm
      go_wp2
      go_ret
      have e : (slotsOf ps).length = m := HM.out
      refine ⟨a, c, by rw [e]; rfl, ?_, hbl⟩
      rw [e]
      exact HO2.out

end Go.Proofs.YtjikgagaalbaeaaGreatDoor

/- A slab of things of type store.cell that a walk keeps: in whatever blocks of the walk's own it lies. -/
namespace Go.Proofs.YtjikgagaalbaeaaGreatDoor
set_option maxRecDepth 20000
open Go.RowKit

/-- The slab at g is in this state, all its blocks are new since w0, and nothing of w0 has turned. -/
def HsC (w0 w : World) (g room : Nat) (ps : List Pl) (fr : List Nat) : Prop := ∃ vp vf, SlC w g vp vf room ps fr ∧ (∀ k ∈ slB g vp vf, w0.heap.size ≤ k) ∧ Below w0.heap.size w0 w

theorem HsC.low {w0 w : World} {g room : Nat} {ps : List Pl} {fr : List Nat} (h : HsC w0 w g room ps fr) : Below w0.heap.size w0 w := by
  obtain ⟨_, _, _, _, h⟩ := h
  exact h

theorem HsC.inv {w0 w : World} {g room : Nat} {ps : List Pl} {fr : List Nat} (h : HsC w0 w g room ps fr) : Inv room ps fr := by
  obtain ⟨_, _, h, _, _⟩ := h
  exact h.inv

theorem HsC.grow {w0 w w' : World} {g room : Nat} {ps : List Pl} {fr : List Nat} (h : HsC w0 w g room ps fr) (hb : Below w.heap.size w w') : HsC w0 w' g room ps fr := by
  obtain ⟨vp, vf, h1, h2, h3⟩ := h
  exact ⟨vp, vf, h1.mod (Mod.of_below hb []) (fun _ _ h => by cases h), h2, h3.trans (hb.mono h3.size)⟩

/-- A call that turns it. -/
theorem HsC.use {w0 w : World} {g room : Nat} {ps ps' : List Pl} {fr fr' : List Nat} {f : FuncId} {args : Array Value} {E : Value} (h : HsC w0 w g room ps fr)
    (hc : ∀ vp vf, SlC w g vp vf room ps fr → Calls Tryz.prog f args w fun e w' => e = .returned E ∧ TurnC w g (slB g vp vf) room ps' fr' w') : Calls Tryz.prog f args w fun e w' => e = .returned E ∧ HsC w0 w' g room ps' fr' := by
  obtain ⟨vp, vf, h1, h2, h3⟩ := h
  refine (hc vp vf h1).mono ?_
  rintro e w' ⟨rfl, vp', vf', k1, k2, k3⟩
  exact ⟨rfl, vp', vf', k1, k3.base h2 h3.size, h3.trans (k2.below h2 h3.size)⟩

/-- A call that leaves it. -/
theorem HsC.look {w0 w : World} {g room : Nat} {ps : List Pl} {fr : List Nat} {f : FuncId} {args : Array Value} {E : Value} (h : HsC w0 w g room ps fr)
    (hc : ∀ vp vf, SlC w g vp vf room ps fr → Calls Tryz.prog f args w fun e w' => e = .returned E ∧ Below w.heap.size w w') : Calls Tryz.prog f args w fun e w' => e = .returned E ∧ HsC w0 w' g room ps fr := by
  obtain ⟨vp, vf, h1, h2, h3⟩ := h
  refine (hc vp vf h1).mono ?_
  rintro e w' ⟨rfl, hb⟩
  exact ⟨rfl, HsC.grow ⟨vp, vf, h1, h2, h3⟩ hb⟩

theorem calls_sameC {w : World} {f : FuncId} {args : Array Value} {E : Value} (hc : Calls Tryz.prog f args w fun e w' => e = .returned E ∧ w' = w) : Calls Tryz.prog f args w fun e w' => e = .returned E ∧ Below w.heap.size w w' := hc.mono (fun _ _ ⟨h1, h2⟩ => ⟨h1, h2 ▸ Below.refl _ _⟩)

end Go.Proofs.YtjikgagaalbaeaaGreatDoor
