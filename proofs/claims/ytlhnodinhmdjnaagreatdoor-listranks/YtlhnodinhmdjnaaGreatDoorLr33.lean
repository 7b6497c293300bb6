/- list.over, From, All, Nth, Some, Between, as contracts. -/
import Derived.Test.YtlhnodinhmdjnaaGreatDoorLr01
import Derived.Test.YtlhnodinhmdjnaaGreatDoorLr31
import Derived.Test.YtlhnodinhmdjnaaGreatDoorLr32
import Derived.Test.YtlhnodinhmdjnaaGreatDoorLr24
import Derived.Test.YtlhnodinhmdjnaaGreatDoorLr09
namespace Go.Proofs.YtlhnodinhmdjnaaGreatDoor
set_option maxRecDepth 20000
open Go.RowKit

structure LiR (w : World) (pt : Option Addr) (cs : List (Nat × Ce)) (h : Nat) (T : Tre) : Prop where
  vw : Vw w (.pointer pt) true (cot cs) (cat cs)
  wf : ∃ pend, Wf cs pend
  tre : IsT cs h T
  rt : vRt true (cot cs h) (cat cs h) h = 0
  num : T.num ≤ 400000
  few : T.ents.length ≤ 4096
theorem LiR.grow {w w' : World} {pt : Option Addr} {cs : List (Nat × Ce)} {h : Nat} {T : Tre} (r : LiR w pt cs h T) (hb : Below w.heap.size w w') : LiR w' pt cs h T := ⟨r.vw.grow hb, r.wf, r.tre, r.rt, r.num, r.few⟩

section
variable {w : World} {pt : Option Addr} {cs : List (Nat × Ce)} {h : Nat} {T : Tre}
theorem LiR.rank (r : LiR w pt cs h T) (K : List Int) (hK : Key K) : Calls Tryz.prog 10 #[.pointer pt, .int .i64 (h : Int), .agg (B K)] w fun e w' => e = .returned (.tuple #[.int .i64 (T.rk K : Int), .int .i64 0]) ∧ Below w.heap.size w w' := by
  obtain ⟨_, W⟩ := r.wf
  exact rank_any r.vw W h T r.tre K hK r.rt (by have := r.few; omega)
theorem LiR.size (r : LiR w pt cs h T) : Calls Tryz.prog 41 #[.pointer pt, .int .i64 (h : Int)] w fun e w' => e = .returned (.int .i64 (T.ents.length : Int)) ∧ Below w.heap.size w w' := by
  obtain ⟨_, W⟩ := r.wf
  have := size_any r.vw (h : Int)
  rwa [cat_nat, (tree_ok W T h r.tre).sz] at this
theorem LiR.root (r : LiR w pt cs h T) : Calls Tryz.prog 40 #[.pointer pt, .int .i64 (h : Int)] w fun e w' => e = .returned (.int .i64 0) ∧ Below w.heap.size w w' := by
  have := root_any r.vw (h : Int)
  rwa [r.rt] at this
theorem LiR.entries (r : LiR w pt cs h T) (ahead most : Nat) (hah : ahead < 9223372036854775808) : Calls Tryz.prog 47 #[.pointer pt, .int .i64 (h : Int), .int .i64 (ahead : Int), .int .i64 (most : Int)] w (EnPost w ((T.ents.drop ahead).take most)) := by
  obtain ⟨_, W⟩ := r.wf
  exact entries13_any r.vw W h ahead most T r.tre r.num r.few hah
theorem LiR.rkd (r : LiR w pt cs h T) (K : List Int) (hK : Key K) : T.rk K = ahd K T.ents := by
  obtain ⟨_, W⟩ := r.wf
  exact rk_root W K hK r.tre (root_dp r.tre r.rt)
theorem LiR.count (r : LiR w pt cs h T) : Calls Tryz.prog 9 #[.pointer pt, .int .i64 (h : Int)] w fun e w' => e = .returned (.tuple #[.int .i64 (T.ents.length : Int), .int .i64 0]) ∧ Below w.heap.size w w' := by
  obtain ⟨_, W⟩ := r.wf
  have := count13_any r.vw (h : Int) r.rt
  rwa [cat_nat, (tree_ok W T h r.tre).sz] at this
end

def OvAt (w : World) (b : Nat) (es : List Ent) : Prop := ∃ a c V, Blk w b 41 #[.slice a es.length c] ∧ PrAt w (.slice a es.length c) V es
theorem OvAt.grow {w w' : World} {b : Nat} {es : List Ent} (h : OvAt w b es) (hb : Below w.heap.size w w') : OvAt w' b es := by
  obtain ⟨a, c, V, h1, h2⟩ := h
  exact ⟨a, c, V, h1.grow hb, h2.grow hb⟩
def OvPost (w : World) (es : List Ent) (e : Ending) (w' : World) : Prop := ∃ b, e = .returned (.func (.func 82) #[] #[.pointer (some ⟨b, 0, none⟩)]) ∧ w.heap.size ≤ b ∧ OvAt w' b es ∧ Below w.heap.size w w'

set_option maxHeartbeats 1000000 in
theorem over13_any (a : Option Addr) (n c : Nat) (w : World) : Calls Tryz.prog 51 #[.slice a n c] w fun e w' => e = .returned (.func (.func 82) #[] #[.pointer (some ⟨w.heap.size, 0, none⟩)]) ∧ Blk w' w.heap.size 41 #[.slice a n c] ∧ Below w.heap.size w w' := by
  go_enter Tryz.func51, Tryz.ntmps51
  go_wp2
  go_ret
  exact ⟨rfl, Blk.new _ _ _, grow_alloc _ _⟩

theorem enPost_ov {w w' : World} {es : List Ent} {lv : Value} (h : EnPost w es (.returned lv) w') : ∃ a c V, lv = .slice a es.length c ∧ PrAt w' (.slice a es.length c) V es ∧ Below w.heap.size w w' := by
  obtain ⟨lv', its, e, h1, h2, h3, _, h5⟩ := h
  injection e with e
  subst e
  obtain ⟨a, c, hv⟩ := lst_slice (lst_of7 h2)
  have hl : its.length = es.length := by rw [← h1, List.length_map]
  rw [hl] at hv
  have hp := prAt_own h2 (fun p hp => (h3 p hp).1) (fun p hp => by obtain ⟨_, sp, ho⟩ := h3 p hp; exact ho.reads)
  rw [h1, hv] at hp
  exact ⟨a, c, _, hv, hp, h5⟩

theorem keyB_size {K : List Int} (hK : Key K) : (Tryz.prog.info? 23).map (·.size) = some (B K).size := by rw [B_size, hK.1]; exact size_path

set_option maxHeartbeats 1000000 in
theorem from_any {w : World} {pt : Option Addr} {cs : List (Nat × Ce)} {h : Nat} {T : Tre} (r : LiR w pt cs h T) (K : List Int) (hK : Key K) : Calls Tryz.prog 16 #[.pointer pt, .int .i64 (h : Int), .agg (B K)] w (OvPost w (T.ents.drop (T.rk K))) := by
  have HRK : Hid (∀ w', Below w.heap.size w w' → Calls Tryz.prog 10 #[.pointer pt, .int .i64 (h : Int), .agg (B K)] w' fun e w'' => e = .returned (.tuple #[.int .i64 (T.rk K : Int), .int .i64 0]) ∧ Below w'.heap.size w' w'') := fun w' hb => (r.grow hb).rank K hK
  have HSZ : Hid (∀ w', Below w.heap.size w w' → Calls Tryz.prog 41 #[.pointer pt, .int .i64 (h : Int)] w' fun e w'' => e = .returned (.int .i64 (T.ents.length : Int)) ∧ Below w'.heap.size w' w'') := fun w' hb => (r.grow hb).size
  have HEN : Hid (∀ w', Below w.heap.size w w' → Calls Tryz.prog 47 #[.pointer pt, .int .i64 (h : Int), .int .i64 (T.rk K : Int), .int .i64 (T.ents.length : Int)] w' (EnPost w' (T.ents.drop (T.rk K)))) := fun w' hb => by
    have h1 := r.rkd K hK
    have h2 := ahd_le K T.ents
    have h3 := r.few
    have := (r.grow hb).entries (T.rk K) T.ents.length (by omega)
    rwa [List.take_of_length_le (by rw [List.length_drop]; omega)] at this
  have HPS := hidden (keyB_size hK)
  clear r hK
  generalize T.ents.drop (T.rk K) = es at *
  generalize (T.rk K : Int) = rk at *
  generalize (T.ents.length : Int) = sz at *
  go_enter Tryz.func16, Tryz.ntmps16
  go_wp2_with (first
    | ((with_reducible refine at_bxd 5 ?_); refine wpList_bx _ rfl _ _ rfl _ rfl ?_; intro w1 b5 hg5 hl5 B5 q5; have HB5 := hidden B5; have HQ5 := hidden q5; clear hg5 hl5 B5 q5)
    | ((with_reducible refine at_ldd 12 5 ?_); refine wpList_ld _ rfl _ _ rfl b5 _ rfl HB5.out _ _ Tryz.underlying23 HPS.out ?_)
    | (go_at_call 10; refine (HRK.out _ HQ5.out).mono ?_; rintro e w2 ⟨rfl, b2⟩; have HQ2 := hidden (grow_trans HQ5.out b2); clear b2)
    | (go_at_call 41; refine (HSZ.out _ HQ2.out).mono ?_; rintro e w3 ⟨rfl, b3⟩; have HQ3 := hidden (grow_trans HQ2.out b3); clear b3)
    | (go_at_call 47; refine (HEN.out _ HQ3.out).mono ?_; rintro e w4 hp; obtain ⟨lv, its, rfl, hp'⟩ := id hp; clear hp'; obtain ⟨la, lc, V, rfl, hpr, b4⟩ := enPost_ov hp; have HPR := hidden hpr; have HQ4 := hidden (grow_trans HQ3.out b4); clear hp hpr b4)
    | (go_at_call 51; refine (over13_any _ _ _ _).mono ?_; rintro e w5 ⟨rfl, B6, b6⟩; have HF := hidden (show OvAt w5 w4.heap.size es ∧ Below w.heap.size w w5 ∧ w.heap.size ≤ w4.heap.size from ⟨⟨_, _, V, B6, HPR.out.grow b6⟩, grow_trans HQ4.out b6, HQ4.out.size⟩); clear B6 b6))
  go_ret
  exact ⟨_, rfl, HF.out.2.2, HF.out.1, HF.out.2.1⟩

theorem built_k0 : Tryz.prog.built 23 [] = some (B z32) := by kernel_rfl
theorem key_z32 : Key z32 := key_zero

theorem all_of {w : World} {v : Value} {h : Int} {es : List Ent} (H : ∀ w', Below w.heap.size w w' → Calls Tryz.prog 16 #[v, .int .i64 h, .agg (B z32)] w' (OvPost w' es)) : Calls Tryz.prog 15 #[v, .int .i64 h] w (OvPost w es) := by
  have HH := hidden H
  have HB := hidden built_k0
  clear H
  go_enter Tryz.func15, Tryz.ntmps15
  go_wp2_with (first
    | ((with_reducible refine at_bd ?_); refine wpList_bld _ rfl _ _ rfl _ (by rw [List.map_toArray]; exact HB.out) ?_)
    | (go_at_call 16; refine (HH.out _ (Below.refl _ _)).mono ?_; rintro e w2 ⟨b, rfl, h1, h2, h3⟩))
  go_ret
  exact ⟨_, rfl, h1, h2, h3⟩

theorem ahd_z32 (l : List Ent) (h : ∀ e ∈ l, Key e.1) : ahd z32 l = 0 := ahd_none z32 l (fun e he hc => by
  obtain ⟨c, hc1, _, _, hc4⟩ := (cmp_lt (h e he) key_z32).1 hc
  have : kb z32 c = 0 := by
    unfold kb z32
    have : (List.replicate 32 (0 : Int)).getD (c / 8) 0 = 0 := by
      rw [List.getD_eq_getElem?_getD, List.getElem?_replicate]
      split <;> rfl
    rw [this]
    simp [bt]
  omega)
theorem all_any {w : World} {pt : Option Addr} {cs : List (Nat × Ce)} {h : Nat} {T : Tre} (r : LiR w pt cs h T) : Calls Tryz.prog 15 #[.pointer pt, .int .i64 (h : Int)] w (OvPost w T.ents) := all_of fun _ hb => by
  have := from_any (r.grow hb) z32 key_z32
  obtain ⟨_, W⟩ := r.wf
  rwa [r.rkd z32 key_z32, ahd_z32 _ (fun e he => ((tree_ok W T h r.tre).ent e he).1), List.drop_zero] at this
end Go.Proofs.YtlhnodinhmdjnaaGreatDoor

namespace Go.Proofs.YtlhnodinhmdjnaaGreatDoor
set_option maxRecDepth 20000
open Go.RowKit

structure Ext (cs cs' : List (Nat × Ce)) : Prop where
  len : cs.length ≤ cs'.length
  cc : ∀ i, i < cs.length → cc cs' i = cc cs i
  ce : ∀ i, i < cs.length → ce cs' i = ce cs i
theorem IsT.keep {cs cs' : List (Nat × Ce)} (k : ∀ i, 0 < cc cs i → 0 < cc cs' i ∧ Core (ce cs i) (ce cs' i)) : ∀ {T : Tre} {h : Nat}, IsT cs h T → IsT cs' h T
  | .emp, _, e => e
  | .lf _ _, h, ⟨h1, h2, h3, h4, h5⟩ => by
    obtain ⟨k1, k2⟩ := k _ h2
    refine ⟨h1, k1, ?_⟩
    rw [k2]
    exact ⟨h3, h4, h5⟩
  | .nd _ _ _ _ _, h, ⟨h1, h2, h3, h4, h5, h6, h7, h8⟩ => by
    obtain ⟨k1, k2⟩ := k _ h2
    refine ⟨h1, k1, ?_⟩
    rw [k2]
    exact ⟨h3, h4, h5, h6, IsT.keep k h7, IsT.keep k h8⟩
structure Bd (cs : List (Nat × Ce)) (es : List Ent) (d h : Nat) (cs' : List (Nat × Ce)) : Prop where
  ext : Ext cs cs'
  wf : Wf cs' []
  tree : ∃ T, IsT cs' h T ∧ T.ents.Perm es
  dp : (sdC cs' h).kind = 2 → (sdC cs' h).dp = d
  own : h ≠ 0 → cs.length < h ∧ h ≤ cs'.length ∧ cc cs' (h - 1) = 1 ∧ (ce cs' (h - 1)).ab = 0
  num : cs'.length ≤ cs.length + es.length * (257 - d)

end Go.Proofs.YtlhnodinhmdjnaaGreatDoor

namespace Go.Proofs.YtlhnodinhmdjnaaGreatDoor
set_option maxRecDepth 20000
open Go.RowKit

def shr (K : List Int) (d : Nat) (e : Ent) : Bool := (List.range d).all fun j => kb e.1 j == kb K j
theorem shr_iff {K : List Int} {d : Nat} {e : Ent} : shr K d e = true ↔ ∀ j, j < d → kb e.1 j = kb K j := by simp [shr]
theorem shr_succ (K : List Int) (d : Nat) (e : Ent) : shr K (d + 1) e = (shr K d e && (kb e.1 d == kb K d)) := by
  simp [shr, List.range_succ, List.all_append]
theorem shr_le {K : List Int} {d c : Nat} (h : d ≤ c) {e : Ent} (hs : shr K c e = true) : shr K d e = true := shr_iff.2 fun j hj => shr_iff.1 hs j (by omega)

def wE (E : List Ent) (K bs : List Int) (d : Nat) : List Ent := (K, bs) :: E.filter fun e => shr K d e && !(e.1 == K)
def bsE (E : List Ent) (K : List Int) (d : Nat) : List Ent := E.filter fun e => shr K d e && !(kb e.1 d == kb K d)

theorem filter_sub {α : Type} (E : List α) (p q : α → Bool) (h : ∀ e, q e = true → p e = true) : E.filter q = (E.filter p).filter q := by
  rw [List.filter_filter]
  congr 1
  funext e
  cases hq : q e with
  | false => simp
  | true => simp [h e hq]

theorem wE_step (E : List Ent) (K bs : List Int) (d : Nat) : (wE E K bs (d + 1) ++ bsE E K d).Perm (wE E K bs d) := by
  unfold wE
  rw [List.cons_append]
  refine List.Perm.cons _ ?_
  have h := List.filter_append_perm (fun e : Ent => kb e.1 d == kb K d) (E.filter fun e => shr K d e && !(e.1 == K))
  have e1 : (E.filter fun e => shr K d e && !(e.1 == K)).filter (fun e : Ent => kb e.1 d == kb K d) = E.filter fun e => shr K (d + 1) e && !(e.1 == K) := by
    rw [List.filter_filter]
    congr 1
    funext e
    rw [shr_succ]
    cases shr K d e <;> cases (e.1 == K) <;> cases (kb e.1 d == kb K d) <;> rfl
  have e2 : (E.filter fun e => shr K d e && !(e.1 == K)).filter (fun e : Ent => !(kb e.1 d == kb K d)) = bsE E K d := by
    rw [List.filter_filter]
    unfold bsE
    congr 1
    funext e
    by_cases hk : e.1 = K
    · simp [hk]
    · have : (e.1 == K) = false := by simpa using hk
      rw [this]
      cases shr K d e <;> cases (kb e.1 d == kb K d) <;> rfl
  rw [e1, e2] at h
  exact h

theorem wE_zero (E : List Ent) (K bs : List Int) : wE E K bs 0 = (K, bs) :: E.filter fun e => !(e.1 == K) := by simp [wE, shr]

structure BesOk (cs : List (Nat × Ce)) (E : List Ent) (K : List Int) (ss : List Nat) : Prop where
  len : ss.length ≤ 256
  side : ∀ d, d < ss.length → ∃ V, IsT cs (ss.getD d 0) V ∧ V.ents = bsE E K d ∧ ((sdC cs (ss.getD d 0)).kind = 2 → (sdC cs (ss.getD d 0)).dp = d + 1)
  last : 0 < ss.length → ss.getD (ss.length - 1) 0 ≠ 0
  none : E.filter (fun e => shr K ss.length e && !(e.1 == K)) = []

def WayB (cs : List (Nat × Ce)) (E : List Ent) (K : List Int) (os : List Nat) (ef : List Ent) (d : Nat) : Prop :=
  (∀ j, j < os.length → ∃ V, IsT cs (os.getD j 0) V ∧ V.ents = bsE E K (d + j) ∧ ((sdC cs (os.getD j 0)).kind = 2 → (sdC cs (os.getD j 0)).dp = d + j + 1)) ∧ ef = E.filter (shr K (d + os.length)) ∧ d + os.length ≤ 256 ∧ (0 < os.length → os.getD (os.length - 1) 0 ≠ 0)

theorem WayB.none {cs : List (Nat × Ce)} {E : List Ent} {K : List Int} {ef : List Ent} {d : Nat} (hd : d ≤ 256) (he : ef = E.filter (shr K d)) : WayB cs E K [] ef d :=
  ⟨fun j hj => absurd hj (by simp), by simpa using he, by simpa using hd, fun h => absurd h (by simp)⟩

theorem WayB.more {cs : List (Nat × Ce)} {pend : List Nat} (w : Wf cs pend) {E : List Ent} {K : List Int} {os : List Nat} {ef : List Ent} {d v : Nat} {V : Tre} (i : WayB cs E K os ef (d + 1)) (tV : IsT cs v V) (kV : (sdC cs v).kind = 2 → (sdC cs v).dp = d + 1) (eV : V.ents = bsE E K d) (two : os.length = 0 → V.ents.length ≠ 0) : WayB cs E K (v :: os) ef d := by
  obtain ⟨i1, i2, i3, i4⟩ := i
  refine ⟨fun j hj => ?_, by rw [i2, List.length_cons]; congr 2; omega, by rw [List.length_cons]; omega, fun _ => ?_⟩
  · cases j with
    | zero => exact ⟨V, tV, eV, kV⟩
    | succ j =>
      rw [List.length_cons] at hj
      obtain ⟨W, j1, j2, j3⟩ := i1 j (by omega)
      refine ⟨W, by simpa using j1, by rw [j2]; congr 1; omega, fun k => ?_⟩
      have := j3 (by simpa using k)
      rw [List.getD_cons_succ, this]
      omega
  · rw [List.length_cons, Nat.add_sub_cancel]
    by_cases hz : 0 < os.length
    · obtain ⟨q, hq⟩ : ∃ q, os.length = q + 1 := ⟨os.length - 1, by omega⟩
      have := i4 hz
      rw [hq, Nat.add_sub_cancel] at this
      rw [hq, List.getD_cons_succ]
      exact this
    · have hz0 : os.length = 0 := by omega
      rw [hz0, List.getD_cons_zero]
      intro hv
      subst hv
      have := (tree_ok w V 0 tV).sz
      rw [show (sdC cs 0).sz = 0 from rfl] at this
      exact two hz0 this.symm

theorem oth_few (K : List Int) : ∀ (M : Tre), (M.oth K).length = 0 → M.ents.length ≤ 1
  | .emp, _ => by simp [Tre.ents]
  | .lf _ _, _ => by simp [Tre.ents]
  | .nd _ _ _ _ _, h => by
    simp only [Tre.oth] at h
    split at h <;> simp at h

theorem way_bes {cs : List (Nat × Ce)} {pend : List Nat} (w : Wf cs pend) (E : List Ent) (K : List Int) : ∀ (U : Tre) (x d : Nat), IsT cs x U → ((sdC cs x).kind = 2 → (sdC cs x).dp = d) → d ≤ 256 → U.ents = E.filter (shr K d) → WayB cs E K (U.oth K) (U.efin K) d
  | .emp, x, d, _, _, hd, he => WayB.none hd he
  | .lf k b, x, d, _, _, hd, he => WayB.none hd he
  | .nd d hl hr L R, x, d', hT, hk, hd, he => by
    have n := nd_ok w hT
    obtain ⟨h1, h2, h3, h4, h5, h6, h7, h8⟩ := hT
    have es : sdC cs x = ce cs (x - 1) := if_neg (by omega)
    obtain rfl : d = d' := by
      rw [es] at hk
      rw [← h4]
      exact hk h3
    have hdp := n.dp
    have ihL := way_bes w E K L hl (d + 1) h7 n.kl (by omega)
    have ihR := way_bes w E K R hr (d + 1) h8 n.kr (by omega)
    have he2 : L.ents ++ R.ents = E.filter (shr K d) := he
    have f0 : (L.ents ++ R.ents).filter (fun e : Ent => kb e.1 d == 0) = L.ents := by
      have e1 : L.ents.filter (fun e : Ent => kb e.1 d == 0) = L.ents := List.filter_eq_self.2 (fun e h => by simp [n.bL e h])
      have e2 : R.ents.filter (fun e : Ent => kb e.1 d == 0) = [] := List.filter_eq_nil_iff.2 (fun e h => by simp [n.bR e h])
      rw [List.filter_append, e1, e2, List.append_nil]
    have f1 : (L.ents ++ R.ents).filter (fun e : Ent => kb e.1 d == 1) = R.ents := by
      have e1 : L.ents.filter (fun e : Ent => kb e.1 d == 1) = [] := List.filter_eq_nil_iff.2 (fun e h => by simp [n.bL e h])
      have e2 : R.ents.filter (fun e : Ent => kb e.1 d == 1) = R.ents := List.filter_eq_self.2 (fun e h => by simp [n.bR e h])
      rw [List.filter_append, e1, e2, List.nil_append]
    have hmine : ∀ b : Int, kb K d = b → (E.filter (shr K d)).filter (fun e : Ent => kb e.1 d == b) = E.filter (shr K (d + 1)) := fun b hb => by
      rw [List.filter_filter]
      congr 1
      funext e
      rw [shr_succ, hb]
      cases shr K d e <;> cases (kb e.1 d == b) <;> rfl
    have hoth : ∀ b : Int, kb K d = 1 - b → (b = 0 ∨ b = 1) → (E.filter (shr K d)).filter (fun e : Ent => kb e.1 d == b) = bsE E K d := fun b hb h01 => by
      rw [List.filter_filter]
      unfold bsE
      congr 1
      funext e
      have e3 : (kb e.1 d == b) = !(kb e.1 d == kb K d) := by
        rw [hb]
        rcases h01 with q | q <;> rcases kb_two e.1 d with q2 | q2 <;> rw [q, q2] <;> rfl
      rw [e3]
      cases shr K d e <;> cases (kb e.1 d == kb K d) <;> rfl
    have htwo := n.two
    rw [List.length_append] at htwo
    rcases kb_two K d with q | q
    · have a1 : L.ents = E.filter (shr K (d + 1)) := by rw [← hmine 0 q, ← he2, f0]
      have a2 : R.ents = bsE E K d := by rw [← hoth 1 (by omega) (.inr rfl), ← he2, f1]
      have := WayB.more w (ihL a1) h8 n.kr a2 (fun z => by have := oth_few K L z; omega)
      simpa [Tre.oth, Tre.efin, q] using this
    · have a1 : R.ents = E.filter (shr K (d + 1)) := by rw [← hmine 1 q, ← he2, f1]
      have a2 : L.ents = bsE E K d := by rw [← hoth 0 (by omega) (.inl rfl), ← he2, f0]
      have := WayB.more w (ihR a1) h7 n.kl a2 (fun z => by have := oth_few K R z; omega)
      simpa [Tre.oth, Tre.efin, q] using this

theorem bes_own {cs : List (Nat × Ce)} {pend : List Nat} (w : Wf cs pend) (K : List Int) {T : Tre} {h : Nat} (hT : IsT cs h T) (hd : (sdC cs h).kind = 2 → (sdC cs h).dp = 0) (hf : ∀ e ∈ T.efin K, e.1 = K) : BesOk cs T.ents K (T.oth K) := by
  obtain ⟨h1, h2, h3, h4⟩ := way_bes w T.ents K T h 0 hT hd (by omega) (by rw [List.filter_eq_self.2]; intro e _; simp [shr])
  refine ⟨by omega, fun d hd => ?_, h4, ?_⟩
  · obtain ⟨V, v1, v2, v3⟩ := h1 d hd
    rw [Nat.zero_add] at v2 v3
    exact ⟨V, v1, v2, v3⟩
  · rw [Nat.zero_add] at h2
    rw [filter_sub T.ents (shr K (T.oth K).length) _ (fun e he => by simp only [Bool.and_eq_true] at he; exact he.1), ← h2, List.filter_eq_nil_iff]
    intro e he
    simp [hf e he]

def besX (oth : List Nat) (c f : Nat) : List Nat := oth ++ (List.replicate (c - oth.length) 0 ++ [f])
theorem besX_len (oth : List Nat) (c f : Nat) (h : oth.length ≤ c) : (besX oth c f).length = c + 1 := by simp [besX]; omega
theorem besX_low (oth : List Nat) (c f d : Nat) (h : d < oth.length) : (besX oth c f).getD d 0 = oth.getD d 0 := by
  simp only [besX, List.getD_eq_getElem?_getD]
  rw [List.getElem?_append_left h]
theorem besX_mid (oth : List Nat) (c f d : Nat) (h : oth.length ≤ d) (hc : d < c) : (besX oth c f).getD d 0 = 0 := by
  simp only [besX, List.getD_eq_getElem?_getD]
  rw [List.getElem?_append_right h, List.getElem?_append_left (by simp; omega), List.getElem?_replicate, if_pos (by omega)]
  rfl
theorem besX_top (oth : List Nat) (c f : Nat) (h : oth.length ≤ c) : (besX oth c f).getD c 0 = f := by
  simp only [besX, List.getD_eq_getElem?_getD]
  rw [List.getElem?_append_right h, List.getElem?_append_right (by simp), List.length_replicate, Nat.sub_self]
  rfl

theorem bes_other {cs : List (Nat × Ce)} {pend : List Nat} (w : Wf cs pend) (K : List Int) {T : Tre} {h : Nat} (hT : IsT cs h T) (hd : (sdC cs h).kind = 2 → (sdC cs h).dp = 0) {k b : List Int} (hf : T.efin K = [(k, b)]) (c : Nat) (hc : IsCommon K k c) (hc2 : c < 256) : (T.oth K).length ≤ c ∧ BesOk cs T.ents K (besX (T.oth K) c (T.fin K h)) := by
  obtain ⟨h1, h2, h3, h4⟩ := way_bes w T.ents K T h 0 hT hd (by omega) (by rw [List.filter_eq_self.2]; intro e _; simp [shr])
  rw [Nat.zero_add] at h2 h3
  rw [hf] at h2
  have hkb : ∀ j, j < (T.oth K).length → kb k j = kb K j := by
    have hm : ((k, b) : Ent) ∈ T.ents.filter (shr K (T.oth K).length) := by rw [← h2]; simp
    exact shr_iff.1 (List.mem_filter.1 hm).2
  have hle : (T.oth K).length ≤ c := by
    apply Nat.le_of_not_lt
    intro hlt
    exact hc.2.2 hc2 (hkb c hlt).symm
  have hsk : ∀ d, d ≤ c → shr K d ((k, b) : Ent) = true := fun d hd => shr_iff.2 fun j hj => (hc.2.1 j (by omega)).symm
  have hdeep : ∀ (d : Nat) (q : Ent → Bool), (T.oth K).length ≤ d → T.ents.filter (fun e => shr K d e && q e) = [((k, b) : Ent)].filter (fun e => shr K d e && q e) := fun d q hq => by
    rw [h2]
    exact filter_sub T.ents _ _ (fun e he => by simp only [Bool.and_eq_true] at he; exact shr_le hq he.1)
  have hne : ¬ kb k c = kb K c := fun e => hc.2.2 hc2 e.symm
  obtain ⟨f1, f2⟩ | ⟨k', b', f1, f2, f3, f4, f5, f6⟩ := fin_is K T h hT
  · rw [hf] at f2
    cases f2
  rw [hf] at f1
  injection f1 with f1 _
  injection f1 with e1 e2
  subst e1 e2
  have fT : IsT cs (T.fin K h) (.lf k b) := ⟨f2, f3, f4, f5, f6⟩
  refine ⟨hle, by rw [besX_len _ _ _ hle]; omega, fun d hd2 => ?_, fun _ => ?_, ?_⟩
  · rw [besX_len _ _ _ hle] at hd2
    by_cases a1 : d < (T.oth K).length
    · obtain ⟨V, v1, v2, v3⟩ := h1 d a1
      rw [Nat.zero_add] at v2 v3
      rw [besX_low _ _ _ _ a1]
      exact ⟨V, v1, v2, v3⟩
    · by_cases a2 : d < c
      · rw [besX_mid _ _ _ _ (by omega) a2]
        refine ⟨.emp, rfl, ?_, fun q => absurd q (by show ¬ zc.kind = 2; decide)⟩
        unfold bsE
        rw [hdeep d _ (by omega)]
        have : kb k d = kb K d := (hc.2.1 d a2).symm
        simp [Tre.ents, this]
      · obtain rfl : d = c := by omega
        rw [besX_top _ _ _ hle]
        refine ⟨.lf k b, fT, ?_, fun q => ?_⟩
        · unfold bsE
          rw [hdeep d _ hle]
          simp [Tre.ents, hsk d (Nat.le_refl _), hne]
        · rw [sdC, if_neg (by omega)] at q
          omega
  · rw [besX_len _ _ _ hle, Nat.add_sub_cancel, besX_top _ _ _ hle]
    omega
  · rw [besX_len _ _ _ hle, hdeep (c + 1) _ (by omega)]
    simp [shr_succ, hne]

end Go.Proofs.YtlhnodinhmdjnaaGreatDoor
