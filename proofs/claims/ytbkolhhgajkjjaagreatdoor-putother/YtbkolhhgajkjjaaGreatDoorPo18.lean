/- What a store tells, as contracts: made, at, and the calls that tell a node's parts. -/
import Derived.Test.YtbkolhhgajkjjaaGreatDoorPo17
import Derived.KernelRfl
namespace Go.Proofs.YtbkolhhgajkjjaaGreatDoor
set_option maxHeartbeats 1000000
set_option maxRecDepth 20000
open Go.RowKit
theorem Stm.c0 {w : World} {g gs : Nat} {vp vf : Value} {room : Nat} {cs : List (Nat × Ce)} {fr : List Nat} (h : Stm w g gs vp vf room cs fr) : w.cell? ⟨g, 0, none⟩ = some (.pointer (some ⟨g, 0, none⟩)) := by rw [h.blk.cell]; rfl
theorem Stm.c1 {w : World} {g gs : Nat} {vp vf : Value} {room : Nat} {cs : List (Nat × Ce)} {fr : List Nat} (h : Stm w g gs vp vf room cs fr) : w.cell? ⟨g, 1, none⟩ = some (.pointer (some ⟨gs, 0, none⟩)) := by rw [h.blk.cell]; rfl
def NoS (w : World) (v : Value) : Prop := v = .pointer none ∨ ∃ g, v = .pointer (some ⟨g, 0, none⟩) ∧ w.cell? ⟨g, 0, none⟩ = some (.pointer none)
theorem Zzt (v : Value) (w : World) (h : NoS w v) : Calls Tryz.prog 63 #[v] w fun e w' => e = .returned (.bool false) ∧ w' = w := by
 have hq := fun a => Yat (P := Tryz.prog) w a Tryz.underlying23
 rcases h with rfl | ⟨g, rfl, hc⟩
 all_goals
  go_enter Tryz.func63, Tryz.ntmps63
  go_wp2
  go_ret
  exact ⟨rfl, rfl⟩
theorem Zbc (g : Nat) (w : World) (hc : w.cell? ⟨g, 0, none⟩ = some (.pointer (some ⟨g, 0, none⟩))) : Calls Tryz.prog 63 #[.pointer (some ⟨g, 0, none⟩)] w fun e w' => e = .returned (.bool true) ∧ w' = w := by
 obtain ⟨j, hj⟩ : ∃ j, Tryz.prog.info? 67 = some j := ⟨_, rfl⟩
 have hq := fun a => run_eql_ptr_same (P := Tryz.prog) w a Tryz.underlying23 hj
 clear hj
 go_enter Tryz.func63, Tryz.ntmps63
 go_wp2
 go_ret
 exact ⟨rfl, rfl⟩
theorem Zpf {w : World} {g gs : Nat} {vp vf : Value} {room : Nat} {cs : List (Nat × Ce)} {fr : List Nat} (s : Stm w g gs vp vf room cs fr) (hw : Wz cs) (h : Int) : Calls Tryz.prog 131 #[.pointer (some ⟨gs, 0, none⟩), .int .i64 h] w fun e w' => e = .returned (.tuple #[.agg (cz (cat cs h)).toArray, .int .i64 (if cot cs h = 0 then 7 else 0)]) ∧ Below w.heap.size w w' := by
 by_cases hc : cot cs h = 0
 ·rw [if_pos hc, hw.cat0 hc]
  exact Yaj gs vp vf room _ fr h w s.sl ((Zpj cs h).2 hc)
 ·obtain ⟨i, h1, h2, h3, h4⟩ := Zer (cs := cs) (h := h) (by omega)
  rw [if_neg hc, h4]
  exact Yeh gs vp vf room _ fr h i (cz (ce cs i)) (Zal (hw.ok i)) w s.sl h1 (by rw [Zao]; exact h2) (Ztr cs i (Zbu h2))
theorem Zwv {w : World} {g gs : Nat} {vp vf : Value} {room : Nat} {cs : List (Nat × Ce)} {fr : List Nat} (s : Stm w g gs vp vf room cs fr) (h : Int) : Calls Tryz.prog 136 #[.pointer (some ⟨gs, 0, none⟩), .int .i64 h] w fun e w' => e = .returned (.int .i64 (cot cs h : Int)) ∧ w' = w := by
 by_cases hc : cot cs h = 0
 ·rw [hc]
  exact Zsw gs vp vf room _ fr h w s.sl ((Zpj cs h).2 hc)
 ·obtain ⟨i, h1, h2, h3, h4⟩ := Zer (cs := cs) (h := h) (by omega)
  rw [h3, ← Zao]
  exact Zwu gs vp vf room _ fr h i w s.sl h1 (by rw [Zao]; exact h2)
theorem Yha {w : World} {g gs : Nat} {vp vf : Value} {room : Nat} {cs : List (Nat × Ce)} {fr pend : List Nat} (s : Stm w g gs vp vf room cs fr) (hw : Wf cs pend) (h : Int) : Calls Tryz.prog 75 #[.pointer (some ⟨g, 0, none⟩), .int .i64 h] w fun e w' => e = .returned (.agg (cz (cat cs h)).toArray) ∧ Below w.heap.size w w' := by
 have HS : Hid (∀ w', Below w.heap.size w w' → Stm w' g gs vp vf room cs fr) := fun w' hb => s.grow hb
 have HW := Za hw
 have HG : Hid (∀ w', Below w.heap.size w w' → Calls Tryz.prog 131 #[.pointer (some ⟨gs, 0, none⟩), .int .i64 h] w' fun e w'' => e = .returned (.tuple #[.agg (cz (cat cs h)).toArray, .int .i64 (if cot cs h = 0 then 7 else 0)]) ∧ Below w'.heap.size w' w'') := fun w' hb => Zpf (s.grow hb) hw.z h
 have hz := Zal (hw.catOk h)
 generalize cz (cat cs h) = z at HG hz ⊢
 generalize (if cot cs h = 0 then (7 : Int) else 0) = q at HG
 have HZ := Za hz
 clear s hw hz
 go_enter Tryz.func75, Tryz.ntmps75
 go_wp2_with (first
  | ((with_reducible refine Zx 4 ?_); refine Ze _ rfl _ rfl _ Zah ?_; intro w1 b4 hg4 hl4 B4 b1; have c0 := (HS.out _ b1).c0; have c1 := (HS.out _ b1).c1; have HB4 := Za B4; have Hg4 := Za hg4; have Hl4 := Za hl4; clear B4 hg4 hl4)
  | (go_at_call 63; refine (Zbc g _ c0).mono ?_; rintro e w' ⟨rfl, hx⟩; rw [hx]; clear hx w')
  | (go_at_call 131; refine (HG.out _ b1).mono ?_; rintro e w2 ⟨rfl, b2⟩; have B4' := Za (HB4.out.grow b2); have Hb2 := Za b2; clear b2)
  | ((with_reducible refine Zx 5 ?_); refine Ze _ rfl _ rfl _ Zah ?_; intro w3 b5 hg5 hl5 B5 b3; have B4'' := Za (B4'.out.grow b3); have Hb3 := Za b3; have HB5 := Za B5; have hne : b4 ≠ b5 := (by have := Hl4.out; have := Hb2.out.size; omega); have Hg5 := Za hg5; clear b3 B5 hg5 hl5)
  | ((with_reducible refine Zag 5 ?_); refine Zf _ rfl _ _ _ rfl b5 _ z.toArray rfl rfl HB5.out (Zcs z HZ.out) (Zjk z HZ.out) (all_oneCell_toArray HZ.out.2) ?_; intro w4 B5' g5; have HB5' := Za B5'; have B4n := Za (B4''.out.kept g5 hne); have Hg := Za g5; clear B5' g5)
  | ((with_reducible refine Zl 20 5 ?_); refine wpList_load_mid rfl _ _ rfl b5 0 rfl z _ HB5'.out.range Tryz.underlying65 rfl (Zcs z HZ.out) ?_)
  | ((with_reducible refine Zag 4 ?_); refine Zf _ rfl _ _ _ rfl b4 _ z.toArray rfl rfl B4n.out (Zcs z HZ.out) (Zjk z HZ.out) (all_oneCell_toArray HZ.out.2) ?_; intro w5 B6 g6))
 have hbel := Zd (Zd (Zb (Zb b1 Hb2.out) Hb3.out) Hg.out (by have := Hg5.out; have := Hb2.out.size; have := b1.size; omega)) g6 Hg4.out
 exact bodyPost_ret (v := .agg z.toArray) (results_cell_row rfl _ _ b4 _ _ _ _ rfl B6 Tryz.underlying65 rfl (Zcs z HZ.out)) rfl ⟨rfl, hbel⟩
def NoState (r : Value) (w : World) : Prop := Calls Tryz.prog 166 #[r] w fun e w' => e = .returned (.bool false) ∧ w' = w
end Go.Proofs.YtbkolhhgajkjjaaGreatDoor
