/- list.over, From, All, Nth, Some, Between, as contracts. -/
import Derived.Test.YtnnmfgnommbmkaaGreatDoorLa01
import Derived.Test.YtnnmfgnommbmkaaGreatDoorLa31
import Derived.Test.YtnnmfgnommbmkaaGreatDoorLa32
import Derived.Test.YtnnmfgnommbmkaaGreatDoorLa29
namespace Go.Proofs.YtnnmfgnommbmkaaGreatDoor
set_option maxRecDepth 20000
open Go.RowKit

structure LiR (w : World) (pt : Option Addr) (cs : List (Nat × Ce)) (h : Nat) (T : Tre) : Prop where
  vw : Vw w (.pointer pt) true (cot cs) (cat cs)
  wf : ∃ pend, Wf cs pend
  tre : IsT cs h T
  rt : vRt true (cot cs h) (cat cs h) h = 0
  num : T.num ≤ 400000
  few : T.ents.length ≤ 4096
theorem LiR.grow {w w' : World} {pt : Option Addr} {cs : List (Nat × Ce)} {h : Nat} {T : Tre} (r : LiR w pt cs h T) (hb : Below w.heap.size w w') : LiR w' pt cs h T := ⟨r.vw.grow hb, r.wf, r.tre, r.rt, r.num, r.few⟩

section
variable {w : World} {pt : Option Addr} {cs : List (Nat × Ce)} {h : Nat} {T : Tre}
theorem LiR.rank (r : LiR w pt cs h T) (K : List Int) (hK : Key K) : Calls Tryz.prog 10 #[.pointer pt, .int .i64 (h : Int), .agg (B K)] w fun e w' => e = .returned (.tuple #[.int .i64 (T.rk K : Int), .int .i64 0]) ∧ Below w.heap.size w w' := by
  obtain ⟨_, W⟩ := r.wf
  exact rank_any r.vw W h T r.tre K hK r.rt (by have := r.few; omega)
theorem LiR.size (r : LiR w pt cs h T) : Calls Tryz.prog 28 #[.pointer pt, .int .i64 (h : Int)] w fun e w' => e = .returned (.int .i64 (T.ents.length : Int)) ∧ Below w.heap.size w w' := by
  obtain ⟨_, W⟩ := r.wf
  have := size_any r.vw (h : Int)
  rwa [cat_nat, (tree_ok W T h r.tre).sz] at this
theorem LiR.root (r : LiR w pt cs h T) : Calls Tryz.prog 23 #[.pointer pt, .int .i64 (h : Int)] w fun e w' => e = .returned (.int .i64 0) ∧ Below w.heap.size w w' := by
  have := root_any r.vw (h : Int)
  rwa [r.rt] at this
theorem LiR.entries (r : LiR w pt cs h T) (ahead most : Nat) (hah : ahead < 9223372036854775808) : Calls Tryz.prog 30 #[.pointer pt, .int .i64 (h : Int), .int .i64 (ahead : Int), .int .i64 (most : Int)] w (EnPost w ((T.ents.drop ahead).take most)) := by
  obtain ⟨_, W⟩ := r.wf
  exact entries13_any r.vw W h ahead most T r.tre r.num r.few hah
theorem LiR.rkd (r : LiR w pt cs h T) (K : List Int) (hK : Key K) : T.rk K = ahd K T.ents := by
  obtain ⟨_, W⟩ := r.wf
  exact rk_root W K hK r.tre (root_dp r.tre r.rt)
theorem LiR.count (r : LiR w pt cs h T) : Calls Tryz.prog 16 #[.pointer pt, .int .i64 (h : Int)] w fun e w' => e = .returned (.tuple #[.int .i64 (T.ents.length : Int), .int .i64 0]) ∧ Below w.heap.size w w' := by
  obtain ⟨_, W⟩ := r.wf
  have := count13_any r.vw (h : Int) r.rt
  rwa [cat_nat, (tree_ok W T h r.tre).sz] at this
end

def OvAt (w : World) (b : Nat) (es : List Ent) : Prop := ∃ a c V, Blk w b 22 #[.slice a es.length c] ∧ PrAt w (.slice a es.length c) V es
theorem OvAt.grow {w w' : World} {b : Nat} {es : List Ent} (h : OvAt w b es) (hb : Below w.heap.size w w') : OvAt w' b es := by
  obtain ⟨a, c, V, h1, h2⟩ := h
  exact ⟨a, c, V, h1.grow hb, h2.grow hb⟩
def OvPost (w : World) (es : List Ent) (e : Ending) (w' : World) : Prop := ∃ b, e = .returned (.func (.func 76) #[] #[.pointer (some ⟨b, 0, none⟩)]) ∧ w.heap.size ≤ b ∧ OvAt w' b es ∧ Below w.heap.size w w'

set_option maxHeartbeats 1000000 in
theorem over13_any (a : Option Addr) (n c : Nat) (w : World) : Calls Tryz.prog 44 #[.slice a n c] w fun e w' => e = .returned (.func (.func 76) #[] #[.pointer (some ⟨w.heap.size, 0, none⟩)]) ∧ Blk w' w.heap.size 22 #[.slice a n c] ∧ Below w.heap.size w w' := by
  go_enter Tryz.func44, Tryz.ntmps44
  go_wp2
  go_ret
  exact ⟨rfl, Blk.new _ _ _, grow_alloc _ _⟩

theorem enPost_ov {w w' : World} {es : List Ent} {lv : Value} (h : EnPost w es (.returned lv) w') : ∃ a c V, lv = .slice a es.length c ∧ PrAt w' (.slice a es.length c) V es ∧ Below w.heap.size w w' := by
  obtain ⟨lv', its, e, h1, h2, h3, _, h5⟩ := h
  injection e with e
  subst e
  obtain ⟨a, c, hv⟩ := lst_slice (lst_of7 h2)
  have hl : its.length = es.length := by rw [← h1, List.length_map]
  rw [hl] at hv
  have hp := prAt_own h2 (fun p hp => (h3 p hp).1) (fun p hp => by obtain ⟨_, sp, ho⟩ := h3 p hp; exact ho.reads)
  rw [h1, hv] at hp
  exact ⟨a, c, _, hv, hp, h5⟩

theorem keyB_size {K : List Int} (hK : Key K) : (Tryz.prog.info? 32).map (·.size) = some (B K).size := by rw [B_size, hK.1]; exact size_path

set_option maxHeartbeats 1000000 in
theorem from_any {w : World} {pt : Option Addr} {cs : List (Nat × Ce)} {h : Nat} {T : Tre} (r : LiR w pt cs h T) (K : List Int) (hK : Key K) : Calls Tryz.prog 21 #[.pointer pt, .int .i64 (h : Int), .agg (B K)] w (OvPost w (T.ents.drop (T.rk K))) := by
  have HRK : Hid (∀ w', Below w.heap.size w w' → Calls Tryz.prog 10 #[.pointer pt, .int .i64 (h : Int), .agg (B K)] w' fun e w'' => e = .returned (.tuple #[.int .i64 (T.rk K : Int), .int .i64 0]) ∧ Below w'.heap.size w' w'') := fun w' hb => (r.grow hb).rank K hK
  have HSZ : Hid (∀ w', Below w.heap.size w w' → Calls Tryz.prog 28 #[.pointer pt, .int .i64 (h : Int)] w' fun e w'' => e = .returned (.int .i64 (T.ents.length : Int)) ∧ Below w'.heap.size w' w'') := fun w' hb => (r.grow hb).size
  have HEN : Hid (∀ w', Below w.heap.size w w' → Calls Tryz.prog 30 #[.pointer pt, .int .i64 (h : Int), .int .i64 (T.rk K : Int), .int .i64 (T.ents.length : Int)] w' (EnPost w' (T.ents.drop (T.rk K)))) := fun w' hb => by
    have h1 := r.rkd K hK
    have h2 := ahd_le K T.ents
    have h3 := r.few
    have := (r.grow hb).entries (T.rk K) T.ents.length (by omega)
    rwa [List.take_of_length_le (by rw [List.length_drop]; omega)] at this
  have HPS := hidden (keyB_size hK)
  clear r hK
  generalize T.ents.drop (T.rk K) = es at *
  generalize (T.rk K : Int) = rk at *
  generalize (T.ents.length : Int) = sz at *
  go_enter Tryz.func21, Tryz.ntmps21
  go_wp2_with (first
    | ((with_reducible refine at_bxd 5 ?_); refine wpList_bx _ rfl _ _ rfl _ rfl ?_; intro w1 b5 hg5 hl5 B5 q5; have HB5 := hidden B5; have HQ5 := hidden q5; clear hg5 hl5 B5 q5)
    | ((with_reducible refine at_ldd 12 5 ?_); refine wpList_ld _ rfl _ _ rfl b5 _ rfl HB5.out _ _ Tryz.underlying32 HPS.out ?_)
    | (go_at_call 10; refine (HRK.out _ HQ5.out).mono ?_; rintro e w2 ⟨rfl, b2⟩; have HQ2 := hidden (grow_trans HQ5.out b2); clear b2)
    | (go_at_call 28; refine (HSZ.out _ HQ2.out).mono ?_; rintro e w3 ⟨rfl, b3⟩; have HQ3 := hidden (grow_trans HQ2.out b3); clear b3)
    | (go_at_call 30; refine (HEN.out _ HQ3.out).mono ?_; rintro e w4 hp; obtain ⟨lv, its, rfl, hp'⟩ := id hp; clear hp'; obtain ⟨la, lc, V, rfl, hpr, b4⟩ := enPost_ov hp; have HPR := hidden hpr; have HQ4 := hidden (grow_trans HQ3.out b4); clear hp hpr b4)
    | (go_at_call 44; refine (over13_any _ _ _ _).mono ?_; rintro e w5 ⟨rfl, B6, b6⟩; have HF := hidden (show OvAt w5 w4.heap.size es ∧ Below w.heap.size w w5 ∧ w.heap.size ≤ w4.heap.size from ⟨⟨_, _, V, B6, HPR.out.grow b6⟩, grow_trans HQ4.out b6, HQ4.out.size⟩); clear B6 b6))
  go_ret
  exact ⟨_, rfl, HF.out.2.2, HF.out.1, HF.out.2.1⟩

theorem built_k0 : Tryz.prog.built 32 [] = some (B z32) := by kernel_rfl
theorem key_z32 : Key z32 := key_zero

theorem all_of {w : World} {v : Value} {h : Int} {es : List Ent} (H : ∀ w', Below w.heap.size w w' → Calls Tryz.prog 21 #[v, .int .i64 h, .agg (B z32)] w' (OvPost w' es)) : Calls Tryz.prog 7 #[v, .int .i64 h] w (OvPost w es) := by
  have HH := hidden H
  have HB := hidden built_k0
  clear H
  go_enter Tryz.func7, Tryz.ntmps7
  go_wp2_with (first
    | ((with_reducible refine at_bd ?_); refine wpList_bld _ rfl _ _ rfl _ (by rw [List.map_toArray]; exact HB.out) ?_)
    | (go_at_call 21; refine (HH.out _ (Below.refl _ _)).mono ?_; rintro e w2 ⟨b, rfl, h1, h2, h3⟩))
  go_ret
  exact ⟨_, rfl, h1, h2, h3⟩

theorem ahd_z32 (l : List Ent) (h : ∀ e ∈ l, Key e.1) : ahd z32 l = 0 := ahd_none z32 l (fun e he hc => by
  obtain ⟨c, hc1, _, _, hc4⟩ := (cmp_lt (h e he) key_z32).1 hc
  have : kb z32 c = 0 := by
    unfold kb z32
    have : (List.replicate 32 (0 : Int)).getD (c / 8) 0 = 0 := by
      rw [List.getD_eq_getElem?_getD, List.getElem?_replicate]
      split <;> rfl
    rw [this]
    simp [bt]
  omega)
theorem all_any {w : World} {pt : Option Addr} {cs : List (Nat × Ce)} {h : Nat} {T : Tre} (r : LiR w pt cs h T) : Calls Tryz.prog 7 #[.pointer pt, .int .i64 (h : Int)] w (OvPost w T.ents) := all_of fun _ hb => by
  have := from_any (r.grow hb) z32 key_z32
  obtain ⟨_, W⟩ := r.wf
  rwa [r.rkd z32 key_z32, ahd_z32 _ (fun e he => ((tree_ok W T h r.tre).ent e he).1), List.drop_zero] at this
end Go.Proofs.YtnnmfgnommbmkaaGreatDoor

namespace Go.Proofs.YtnnmfgnommbmkaaGreatDoor
set_option maxRecDepth 20000
open Go.RowKit

def OvN (wb w : World) (b : Nat) (es : List Ent) : Prop := ∃ a c its, Blk w b 22 #[.slice a es.length c] ∧ w.ownsRow wb.heap.size 42 33 (.slice a es.length c) its.length (flatP its) ∧ its.map (·.1) = es ∧ ∀ p ∈ its, Key p.1.1 ∧ ∃ sp, Own wb.heap.size w p.2 p.1.2 sp
def OvPostN (w : World) (es : List Ent) (e : Ending) (w' : World) : Prop := ∃ b, e = .returned (.func (.func 76) #[] #[.pointer (some ⟨b, 0, none⟩)]) ∧ w.heap.size ≤ b ∧ OvN w w' b es ∧ Below w.heap.size w w'

theorem enPost_ovN {w0 w w' : World} (h0 : Below w0.heap.size w0 w) {es : List Ent} {lv : Value} (h : EnPost w es (.returned lv) w') : ∃ a c its, lv = .slice a es.length c ∧ w'.ownsRow w0.heap.size 42 33 (.slice a es.length c) its.length (flatP its) ∧ its.map (·.1) = es ∧ (∀ p ∈ its, Key p.1.1 ∧ ∃ sp, Own w0.heap.size w' p.2 p.1.2 sp) ∧ Below w.heap.size w w' := by
  obtain ⟨lv', its, e, h1, h2, h3, _, h5⟩ := h
  injection e with e
  subst e
  obtain ⟨a, c, hv⟩ := lst_slice (lst_of7 h2)
  have hl : its.length = es.length := by rw [← h1, List.length_map]
  rw [hl] at hv
  subst hv
  exact ⟨a, c, its, rfl, owR_base h2 h0.size, h1, fun p hp => ⟨(h3 p hp).1, by obtain ⟨_, sp, ho⟩ := h3 p hp; exact ⟨sp, ho.mono h0.size⟩⟩, h5⟩

set_option maxHeartbeats 1000000 in
theorem from_anyN {w : World} {pt : Option Addr} {cs : List (Nat × Ce)} {h : Nat} {T : Tre} (r : LiR w pt cs h T) (K : List Int) (hK : Key K) : Calls Tryz.prog 21 #[.pointer pt, .int .i64 (h : Int), .agg (B K)] w (OvPostN w (T.ents.drop (T.rk K))) := by
  have HRK : Hid (∀ w', Below w.heap.size w w' → Calls Tryz.prog 10 #[.pointer pt, .int .i64 (h : Int), .agg (B K)] w' fun e w'' => e = .returned (.tuple #[.int .i64 (T.rk K : Int), .int .i64 0]) ∧ Below w'.heap.size w' w'') := fun w' hb => (r.grow hb).rank K hK
  have HSZ : Hid (∀ w', Below w.heap.size w w' → Calls Tryz.prog 28 #[.pointer pt, .int .i64 (h : Int)] w' fun e w'' => e = .returned (.int .i64 (T.ents.length : Int)) ∧ Below w'.heap.size w' w'') := fun w' hb => (r.grow hb).size
  have HEN : Hid (∀ w', Below w.heap.size w w' → Calls Tryz.prog 30 #[.pointer pt, .int .i64 (h : Int), .int .i64 (T.rk K : Int), .int .i64 (T.ents.length : Int)] w' (EnPost w' (T.ents.drop (T.rk K)))) := fun w' hb => by
    have h1 := r.rkd K hK
    have h2 := ahd_le K T.ents
    have h3 := r.few
    have := (r.grow hb).entries (T.rk K) T.ents.length (by omega)
    rwa [List.take_of_length_le (by rw [List.length_drop]; omega)] at this
  have HPS := hidden (keyB_size hK)
  clear r hK
  generalize T.ents.drop (T.rk K) = es at *
  generalize (T.rk K : Int) = rk at *
  generalize (T.ents.length : Int) = sz at *
  go_enter Tryz.func21, Tryz.ntmps21
  go_wp2_with (first
    | ((with_reducible refine at_bxd 5 ?_); refine wpList_bx _ rfl _ _ rfl _ rfl ?_; intro w1 b5 hg5 hl5 B5 q5; have HB5 := hidden B5; have HQ5 := hidden q5; clear hg5 hl5 B5 q5)
    | ((with_reducible refine at_ldd 12 5 ?_); refine wpList_ld _ rfl _ _ rfl b5 _ rfl HB5.out _ _ Tryz.underlying32 HPS.out ?_)
    | (go_at_call 10; refine (HRK.out _ HQ5.out).mono ?_; rintro e w2 ⟨rfl, b2⟩; have HQ2 := hidden (grow_trans HQ5.out b2); clear b2)
    | (go_at_call 28; refine (HSZ.out _ HQ2.out).mono ?_; rintro e w3 ⟨rfl, b3⟩; have HQ3 := hidden (grow_trans HQ2.out b3); clear b3)
    | (go_at_call 30; refine (HEN.out _ HQ3.out).mono ?_; rintro e w4 hp; obtain ⟨lv, its0, rfl, hp'⟩ := id hp; clear hp'; obtain ⟨la, lc, its, rfl, hrow, hme, hown, b4⟩ := enPost_ovN HQ3.out hp; have HPR := hidden (And.intro hrow (And.intro hme hown)); have HQ4 := hidden (grow_trans HQ3.out b4); clear hp hrow hme hown b4)
    | (go_at_call 44; refine (over13_any _ _ _ _).mono ?_; rintro e w5 ⟨rfl, B6, b6⟩; have HF := hidden (show OvN w w5 w4.heap.size es ∧ Below w.heap.size w w5 ∧ w.heap.size ≤ w4.heap.size from ⟨⟨_, _, its, B6, owR_grow HPR.out.1 b6, HPR.out.2.1, fun p hp => ⟨(HPR.out.2.2 p hp).1, (by obtain ⟨_, sp, ho⟩ := HPR.out.2.2 p hp; exact ⟨sp, ho.grow b6⟩)⟩⟩, grow_trans HQ4.out b6, HQ4.out.size⟩); clear B6 b6))
  go_ret
  exact ⟨_, rfl, HF.out.2.2, HF.out.1, HF.out.2.1⟩

theorem all_ofN {w : World} {v : Value} {h : Int} {es : List Ent} (H : Calls Tryz.prog 21 #[v, .int .i64 h, .agg (B z32)] w (OvPostN w es)) : Calls Tryz.prog 7 #[v, .int .i64 h] w (OvPostN w es) := by
  have HH := hidden H
  have HB := hidden built_k0
  clear H
  go_enter Tryz.func7, Tryz.ntmps7
  go_wp2_with (first
    | ((with_reducible refine at_bd ?_); refine wpList_bld _ rfl _ _ rfl _ (by rw [List.map_toArray]; exact HB.out) ?_)
    | (go_at_call 21; refine HH.out.mono ?_; rintro e w2 ⟨b, rfl, h1, h2, h3⟩))
  go_ret
  exact ⟨_, rfl, h1, h2, h3⟩
theorem all_anyN {w : World} {pt : Option Addr} {cs : List (Nat × Ce)} {h : Nat} {T : Tre} (r : LiR w pt cs h T) : Calls Tryz.prog 7 #[.pointer pt, .int .i64 (h : Int)] w (OvPostN w T.ents) := all_ofN (by
  have := from_anyN r z32 key_z32
  obtain ⟨_, W⟩ := r.wf
  rwa [r.rkd z32 key_z32, ahd_z32 _ (fun e he => ((tree_ok W T h r.tre).ent e he).1), List.drop_zero] at this)

end Go.Proofs.YtnnmfgnommbmkaaGreatDoor

namespace Go.Proofs.YtnnmfgnommbmkaaGreatDoor
set_option maxRecDepth 20000
open Go.RowKit


def SeqY {α : Type} (F : Fence) (n : Nat) (P : Program) (g : Nat) (lb : Array Value) (encs : α → Array Value) (X : List α → α → World → Prop) (n₀ : Nat) (S Sp : List α → Prop) (N : Nat) (w : World) : Prop :=
  ∀ (l : Nat) (J Jx : List α → World → Prop) (W : World), Below w.heap.size w W →
    (∀ s A B, J s A → Below A.heap.size A B → J s B) →
    (∀ pre x A, J pre A → X pre x A → pre.length < N → YieldAt F (n - 1) P l (encs x) A fun e B =>
      (e = .returned (.bool true) ∧ J (pre ++ [x]) B ∧ Below n₀ A B) ∨ (e = .returned (.bool false) ∧ Jx (pre ++ [x]) B)) →
    J [] W →
    CallsIn F n P g (#[.func (.yield l) #[] #[]] ++ lb) W fun e B => (∃ v, e = .returned v) ∧ ((∃ xs, S xs ∧ J xs B) ∨ (∃ pre, Sp pre ∧ Jx pre B))

def outY {α : Type} (b n₀ : Nat) (I : List α → World → Prop) (Ix : Code → List α → World → Prop) (xs : List α) (A : World) : Exit → Act → World → Prop
  | .normal, _, B => KeepsFrom b A B ∧ Below n₀ A B ∧ I xs B
  | .ret, _, B => KeepsFrom b A B ∧ Ix .ret xs B
  | .exit i, _, B => KeepsFrom b A B ∧ Ix (.exit i) xs B
  | .goto t, _, B => KeepsFrom b A B ∧ Ix (.goto t) xs B
  | .panic _, _, _ => False
  | .outgrown, _, _ => False

set_option maxHeartbeats 2000000 in
theorem wpIn_rangeY {F : Fence} {n : Nat} {P : Program} {α : Type} {g : Operand} {ps : Array Tmp} {assign body : Code} {Q : Exit → Act → World → Prop} {a : Act} {w : World}
    (hro : F.round = none) (h1 : 1 ≤ n) {gf : Nat} {lb : Array Value} (hg : a.eval g = .func (.func gf) #[] lb) (hFg : F.fn gf) (eg : ∀ args w, (callFunc gf args).run P w = .ok (.enter gf args) w)
    {encs : α → Array Value} {X : List α → α → World → Prop} {n₀ : Nat} {S Sp : List α → Prop} {N : Nat} {w0 : World} (hseq : SeqY F (n - 1) P gf lb encs X n₀ S Sp N w0) (hn₀ : n₀ ≤ w.heap.size) (hb0 : Below w0.heap.size w0 w) (hps : ∀ x, (encs x).size = ps.size)
    (I : List α → World → Prop) (Ix : Code → List α → World → Prop) (Bx : List α → α → Act → World → Prop) (hIg : ∀ s A B, I s A → Below A.heap.size A B → I s B) (hI : OwnFrom w.heap.size I) (hIx : ∀ c, OwnFrom w.heap.size (Ix c)) (hBx : ∀ pre x a', OwnFrom w.heap.size (fun (_ : Unit) W => Bx pre x a' W)) (h0 : I [] w)
    (hassign : ∀ (l : Nat) (pre : List α) (x : α) (A : World), I pre A → X pre x A → pre.length < N →
      assign.wpIn (F.inRound l) (n - 1 - 1) P (Exit.then (fun a' A' => KeepsFrom w.heap.size A A' ∧ Below n₀ A A' ∧ Bx pre x a' A') (fun _ _ _ => False)) { tmps := (ps.zip (encs x)).foldl (fun t (p, v) => t.setIfInBounds p v) a.tmps, defers := [] } A)
    (hbody : ∀ (l : Nat) (pre : List α) (x : α) (a' : Act) (A : World), Bx pre x a' A → body.wpIn (F.inRound l) (n - 1 - 1) P (outY w.heap.size n₀ I Ix (pre ++ [x]) A) a' A)
    (hdone : ∀ (D : Nat) (xs : List α) (W : World), w.heap.size ≤ D → S xs → I xs W → W.heap[D]? = some (.deferred (some [])) → Q .normal { a with defers := { target := .collected D, args := #[] } :: a.defers } W)
    (hstop : ∀ (D : Nat) (c : Code) (pre : List α) (W : World), w.heap.size ≤ D → Sp pre → Ix c pre W → W.heap[D]? = some (.deferred (some [])) → c.wpIn F n P Q { a with defers := { target := .collected D, args := #[] } :: a.defers } W) :
    (Code.rangeFunc g ps assign body).wpIn F n P Q a w := by
  refine wpIn_rangeFunc fun fn hfn => ?_
  rw [hro]
  obtain ⟨R, hR⟩ : ∃ R : LoopState → Option Code → Loop, R = fun st pe => { state := st, pending := pe, fn, tmps := a.tmps, params := ps, assign, body, defers := w.heap.size } := ⟨_, rfl⟩
  obtain ⟨V, hV⟩ : ∃ V, V = (w.alloc (.deferred (some []))).alloc (.loop (R .ready none)) := ⟨_, rfl⟩
  have bV : Below w.heap.size w V := by rw [hV]; exact grow_trans (grow_alloc _ _) (grow_alloc _ _)
  have LV : V.heap[w.heap.size + 1]? = some (.loop (R .ready none)) := by
    have := World.alloc_heap_new (w.alloc (.deferred (some []))) (.loop (R .ready none))
    rw [World.size_alloc] at this
    rw [hV]
    exact this
  have DV : V.heap[w.heap.size]? = some (.deferred (some [])) := by
    rw [hV]
    exact (Below.heap_alloc _ _ _ (by simp)).trans (World.alloc_heap_new w _)
  have IV : I [] V := by
    rw [hV]
    exact hI.alloc _ (hI.alloc _ h0)
  refine ⟨w.heap.size + 1, [{ target := .collected w.heap.size, args := #[] }], V, { target := .fn (.func gf) lb, args := #[.func (.yield (w.heap.size + 1)) #[] #[]] }, V, gf, #[.func (.yield (w.heap.size + 1)) #[] #[]] ++ lb, V, ?_, ?_, ?_, ?_, fun _ => h1, ?_⟩
  · rw [hV, hR]
    exact run_enterLoop_outer _ _ _ _ _
  · simp only [resolve, hg]
    simp [go_sem]
  · intro f' hf'
    simp [Target.leads] at hf'
    subst hf'
    exact hFg
  · simp [invoke, go_sem, eg]
  refine (hseq (w.heap.size + 1) (fun s A => I s A ∧ A.heap[w.heap.size + 1]? = some (.loop (R .ready none)) ∧ A.heap[w.heap.size]? = some (.deferred (some []))) (fun s A => ∃ c, Ix c s A ∧ A.heap[w.heap.size + 1]? = some (.loop (R .done (some c))) ∧ A.heap[w.heap.size]? = some (.deferred (some []))) V (hb0.trans (bV.mono hb0.size)) ?_ ?_ ⟨IV, LV, DV⟩).mono ?_
  · rintro s A B ⟨q1, q2, q3⟩ hb
    exact ⟨hIg s A B q1 hb, (hb.block _ (Array.getElem?_eq_some_iff.1 q2).1).trans q2, (hb.block _ (Array.getElem?_eq_some_iff.1 q3).1).trans q3⟩
  · rintro pre x A ⟨q1, q2, q3⟩ hx hlen
    have hy := run_yield (P := P) (args := encs x) q2 (by rw [hR]; exact hps x)
    rw [hR] at hy
    refine ⟨fn, _, assign, body, hy, roundIn_of_wpIn hfn (wpIn_mono (hassign _ pre x A q1 hx hlen) ?_)⟩
    intro e a' A1 hp
    cases e with
    | normal =>
      obtain ⟨k1, k2, k3⟩ := hp
      have L1 := k1.same _ _ (by omega) q2 rfl
      have D1 := k1.same _ _ (Nat.le_refl _) q3 rfl
      refine ⟨_, run_beginRound L1 (by rw [hR]), ?_⟩
      have hlt : w.heap.size + 1 < A1.heap.size := (Array.getElem?_eq_some_iff.1 L1).1
      obtain ⟨A', hA'⟩ : ∃ A', A' = A1.putObj (w.heap.size + 1) (.loop { R .ready none with state := .busy }) := ⟨_, rfl⟩
      have L2 : A'.heap[w.heap.size + 1]? = some (.loop { R .ready none with state := .busy }) := by rw [hA']; exact World.putObj_heap_same hlt
      have D2 : A'.heap[w.heap.size]? = some (.deferred (some [])) := by rw [hA']; exact (World.putObj_heap_other (by omega)).trans D1
      have X2 : Bx pre x a' A' := by rw [hA']; exact (hBx pre x a').putObj (s := ()) _ k3 (by omega) L1 rfl
      have B2 : Below n₀ A A' := by rw [hA']; exact k2.trans (belowK_b (w := w) hn₀ A1 _ _ _ (by omega) L1 rfl rfl)
      rw [← hA']
      refine wpIn_mono (hbody _ pre x a' A' X2) ?_
      have fin : ∀ (j : Option Code) (C : World), KeepsFrom w.heap.size A' C →
          (Instr.endRound (w.heap.size + 1) j).run P C = .ok (.bool j.isNone) (C.putObj (w.heap.size + 1) (.loop (R (if j.isNone then .ready else .done) j))) ∧ C.heap[w.heap.size + 1]? = some (.loop { R .ready none with state := .busy }) ∧
          (C.putObj (w.heap.size + 1) (.loop (R (if j.isNone then .ready else .done) j))).heap[w.heap.size + 1]? = some (.loop (R (if j.isNone then .ready else .done) j)) ∧
          (C.putObj (w.heap.size + 1) (.loop (R (if j.isNone then .ready else .done) j))).heap[w.heap.size]? = some (.deferred (some [])) := fun j C hk => by
        have L3 := hk.same _ _ (by omega) L2 rfl
        have e := run_endRound (P := P) j L3
        rw [hR] at e ⊢
        exact ⟨e, by rw [hR] at L3; exact L3, World.putObj_heap_same (Array.getElem?_eq_some_iff.1 L3).1, (World.putObj_heap_other (by omega)).trans (hk.same _ _ (Nat.le_refl _) D2 rfl)⟩
      intro e a3 C hp
      cases e with
      | normal =>
        obtain ⟨k1, k3, k4⟩ := hp
        obtain ⟨r, l3, l4, d4⟩ := fin none C k1
        exact ⟨_, _, r, .inl ⟨rfl, ⟨hI.putObj _ k4 (by omega) l3 rfl, l4, d4⟩, (B2.trans k3).trans (belowK_b (w := w) hn₀ C _ _ _ (by omega) l3 rfl rfl)⟩⟩
      | ret =>
        obtain ⟨k1, k2⟩ := hp
        obtain ⟨r, l3, l4, d4⟩ := fin (some .ret) C k1
        exact ⟨_, _, r, .inr ⟨rfl, .ret, (hIx _).putObj _ k2 (by omega) l3 rfl, l4, d4⟩⟩
      | exit i =>
        obtain ⟨k1, k2⟩ := hp
        obtain ⟨r, l3, l4, d4⟩ := fin (some (.exit i)) C k1
        exact ⟨_, _, r, .inr ⟨rfl, .exit i, (hIx _).putObj _ k2 (by omega) l3 rfl, l4, d4⟩⟩
      | goto t =>
        obtain ⟨k1, k2⟩ := hp
        obtain ⟨r, l3, l4, d4⟩ := fin (some (.goto t)) C k1
        exact ⟨_, _, r, .inr ⟨rfl, .goto t, (hIx _).putObj _ k2 (by omega) l3 rfl, l4, d4⟩⟩
      | panic _ => exact hp.elim
      | outgrown => exact hp.elim
    | _ => exact hp.elim
  · rintro e C ⟨⟨v, rfl⟩, ⟨xs, hS, q1, q2, q3⟩ | ⟨pre, hSp, c, q1, q2, q3⟩⟩
    · exact ⟨none, _, by have := run_endLoop (P := P) q2 (by rw [hR]; simp); rw [hR] at this; exact this, hdone _ xs _ (Nat.le_refl _) hS (hI.putObj _ q1 (by omega) q2 rfl) ((World.putObj_heap_other (by omega)).trans q3)⟩
    · exact ⟨some c, _, by have := run_endLoop (P := P) q2 (by rw [hR]; simp); rw [hR] at this; exact this, hstop _ c pre _ (Nat.le_refl _) hSp ((hIx c).putObj _ q1 (by omega) q2 rfl) ((World.putObj_heap_other (by omega)).trans q3)⟩

end Go.Proofs.YtnnmfgnommbmkaaGreatDoor
