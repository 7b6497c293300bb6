/- node.RootAt and node.Root at any entries, as contracts. -/
import Derived.Test.YtlhnodinhmdjnaaGreatDoorLr01
import Derived.Test.YtlhnodinhmdjnaaGreatDoorLr42
import Derived.Test.YtlhnodinhmdjnaaGreatDoorLr39
namespace Go.Proofs.YtlhnodinhmdjnaaGreatDoor
set_option maxRecDepth 20000
open Go.RowKit

def RootPost (es : List Ent) (d : Int) (w : World) (e : Ending) (w' : World) : Prop := ∃ h E, e = .returned (.tuple #[.agg (B h), .int .i64 E]) ∧ RootIs es d h E ∧ Below w.heap.size w w'

theorem errB_long {es : List Ent} (h : 4096 < es.length) : errB es = 4 := by rw [errB, if_pos h]

theorem RootAt_any (v : Value) (V : Nat → Value) (es : List Ent) (d : Int) (w : World) (hv : PrAt w v V es) (hn : es.length ≤ 140737488355328) (hL : Laid w) : Calls Tryz.prog 53 #[v, .int .i64 d] w (RootPost es d w) := by
  by_cases hd : d < 0 ∨ 256 < d
  · exact (RootAt_out v V es d w hv hd).mono fun e w' ⟨h1, h2⟩ => ⟨_, _, h1, .out hd, h2⟩
  · obtain ⟨m, rfl⟩ : ∃ m : Nat, d = (m : Int) := ⟨d.toNat, by omega⟩
    by_cases hE : errB es = 0
    · have hl : es.length ≤ 4096 := by
        by_cases h : 4096 < es.length
        · rw [errB_long h] at hE
          omega
        · omega
      by_cases hs : SameE es m
      · exact (RootAt_in v V es m true w hv hl hL (by omega) hE ⟨fun _ => hs, fun _ => rfl⟩).mono fun e w' ⟨h1, h2⟩ => ⟨_, _, h1, .good (by omega) (by omega) hE (by simpa using hs), h2⟩
      · exact (RootAt_in v V es m false w hv hl hL (by omega) hE ⟨fun h => (by cases h), fun h => absurd h hs⟩).mono fun e w' ⟨h1, h2⟩ => ⟨_, _, h1, .part (by omega) (by omega) hE (by simpa using hs), h2⟩
    · exact (RootAt_bad v V es m w hv hn (by omega) hE).mono fun e w' ⟨h1, h2⟩ => ⟨_, _, h1, .bad _ (by omega) (by omega) rfl hE, h2⟩

set_option maxHeartbeats 2000000 in
theorem Root_any (v : Value) (V : Nat → Value) (es : List Ent) (w : World) (hv : PrAt w v V es) (hn : es.length ≤ 140737488355328) (hL : Laid w) : Calls Tryz.prog 18 #[v] w (RootPost es 0 w) := by
  have HR : Hid (∀ w', Below w.heap.size w w' → Calls Tryz.prog 53 #[v, .int .i64 0] w' (RootPost es 0 w')) := fun w' hb => RootAt_any v V es 0 w' (hv.grow hb) hn (hL.grow hb)
  obtain ⟨a, cap, rfl, _, _, _⟩ := hv
  clear hL
  go_enter Tryz.func18, Tryz.ntmps18
  go_wp2_with (first
    | ((with_reducible refine at_ald 2 ?_); refine wpList_al _ rfl _ rfl _ zero_hash ?_; intro w1 g1 hg1 hl1 B1 b1)
    | (go_at_call 53; refine (HR.out _ b1).mono ?_; rintro e w2 ⟨h, E, rfl, hi, b2⟩; have HI := hidden hi; have HF := hidden (hash_facts h hi.len); clear hi; have B2 := B1.grow b2)
    | ((with_reducible refine at_st 2 ?_); refine wpList_sto _ rfl _ _ _ rfl g1 _ (B h) rfl rfl B2 HF.out.1 HF.out.2 (B_one _) ?_; intro w3 B3 r3))
  exact bodyPost_ret (v := .tuple #[.agg (B h), .int .i64 E]) (results_row_tmp rfl _ _ g1 _ _ _ _ rfl rfl B3 Tryz.underlying51 HF.out.1) rfl ⟨h, E, rfl, HI.out, below_row (grow_trans b1 b2) r3 hg1⟩

end Go.Proofs.YtlhnodinhmdjnaaGreatDoor

namespace Go.Proofs.YtlhnodinhmdjnaaGreatDoor
set_option maxRecDepth 20000
open Go.RowKit Go.Shelf

attribute [local go_sem] Oper.semAt_some

theorem rootIs_ex13 (es : List Ent) : ∃ h E, RootIs es 0 h E := by
  by_cases hE : errB es = 0
  · by_cases hs : SameE es (0 : Int).toNat
    · exact ⟨_, _, .good (by omega) (by omega) hE hs⟩
    · exact ⟨_, _, .part (by omega) (by omega) hE hs⟩
  · exact ⟨_, _, .bad _ (by omega) (by omega) rfl hE⟩
theorem root_at13 {es : List Ent} {d : Int} {h : List Int} {E : Int} (hi : RootIs es d h E) {f : Nat} {args : Array Value} {w : World} (hc : Calls Tryz.prog f args w (RootPost es d w)) :
    Calls Tryz.prog f args w fun e w' => e = .returned (.tuple #[.agg (B h), .int .i64 E]) ∧ Below w.heap.size w w' :=
  hc.mono fun e w' ⟨h', E', h1, h2, h3⟩ => by
    obtain ⟨e1, e2⟩ := h2.one hi
    rw [e1, e2] at h1
    exact ⟨h1, h3⟩
theorem root_good13 {es : List Ent} {h : List Int} (hi : RootIs es 0 h 0) (h16 : es.length ≤ 16) : (∀ e ∈ es, e.2.length ≤ 1024) ∧ Apart1 es := by
  have h0 : errB es = 0 := by
    generalize hE : (0 : Int) = E at hi
    cases hi <;> first | assumption | omega
  rw [errB, if_neg (by omega)] at h0
  exact ⟨(lsE_ok _ _ h0).1, (lsE_ok _ _ h0).2.1⟩

theorem cnt_le (p q : Ent → Bool) : ∀ (l : List Ent), (∀ e ∈ l, p e = true → q e = true) → (l.filter p).length ≤ (l.filter q).length
  | [], _ => Nat.le_refl _
  | e :: l, h => by
    have ih := cnt_le p q l (fun e he => h e (List.mem_cons_of_mem _ he))
    have h0 := h e List.mem_cons_self
    rw [List.filter_cons, List.filter_cons]
    split
    · rename_i hp
      rw [if_pos (h0 hp)]
      simpa using ih
    · split
      · simp; omega
      · exact ih

structure RkF (a b : List Int) (c : Int) (n : Nat) (w : World) (g root x y nb z : Nat) (fs : List Ent) : Prop where
  ex : ∃ cs T, LiR w (some ⟨g, 0, none⟩) cs root T ∧ T.ents.length = n ∧ (∀ e ∈ T.ents, Key e.1 ∧ e.2.length ≤ 1024) ∧ x = ahd a T.ents ∧ y = ahd b T.ents ∧ nb = btw a b T.ents ∧ z = upt b T.ents ∧ fs = T.ents.drop x
  ka : Key a
  kb : Key b
  hc : cmp a b = c
  n16 : n ≤ 16
section
variable {a b : List Int} {c : Int} {n : Nat} {w : World} {g root x y nb z : Nat} {fs : List Ent}
theorem RkF.grow {w' : World} (r : RkF a b c n w g root x y nb z fs) (hb : Below w.heap.size w w') : RkF a b c n w' g root x y nb z fs := by
  obtain ⟨⟨cs, T, h, r1⟩, r2, r3, r4, r5⟩ := r
  exact ⟨⟨cs, T, h.grow hb, r1⟩, r2, r3, r4, r5⟩
theorem RkF.rka (r : RkF a b c n w g root x y nb z fs) : Calls Tryz.prog 10 #[.pointer (some ⟨g, 0, none⟩), .int .i64 (root : Int), .agg (B a)] w fun e w'' => e = .returned (.tuple #[.int .i64 (x : Int), .int .i64 0]) ∧ Below w.heap.size w w'' := by
  obtain ⟨cs, T, h, _, _, e1, _⟩ := r.ex
  have := h.rank a r.ka
  rwa [h.rkd a r.ka, ← e1] at this
theorem RkF.rkb (r : RkF a b c n w g root x y nb z fs) : Calls Tryz.prog 10 #[.pointer (some ⟨g, 0, none⟩), .int .i64 (root : Int), .agg (B b)] w fun e w'' => e = .returned (.tuple #[.int .i64 (y : Int), .int .i64 0]) ∧ Below w.heap.size w w'' := by
  obtain ⟨cs, T, h, _, _, _, e1, _⟩ := r.ex
  have := h.rank b r.kb
  rwa [h.rkd b r.kb, ← e1] at this
theorem RkF.bt (r : RkF a b c n w g root x y nb z fs) : Calls Tryz.prog 12 #[.pointer (some ⟨g, 0, none⟩), .int .i64 (root : Int), .agg (B a), .agg (B b)] w fun e w'' => e = .returned (.tuple #[.int .i64 (nb : Int), .int .i64 0]) ∧ Below w.heap.size w w'' := by
  obtain ⟨cs, T, h, _, _, _, _, e1, _⟩ := r.ex
  rw [e1]
  exact between_any h a b r.ka r.kb
theorem RkF.cn (r : RkF a b c n w g root x y nb z fs) : Calls Tryz.prog 9 #[.pointer (some ⟨g, 0, none⟩), .int .i64 (root : Int)] w fun e w'' => e = .returned (.tuple #[.int .i64 (n : Int), .int .i64 0]) ∧ Below w.heap.size w w'' := by
  obtain ⟨cs, T, h, e1, _⟩ := r.ex
  rw [← e1]
  exact h.count
theorem RkF.rkz (r : RkF a b c n w g root x y nb z fs) (ys : List Int) (hN : IsNext b ys) : Calls Tryz.prog 10 #[.pointer (some ⟨g, 0, none⟩), .int .i64 (root : Int), .agg (B ys)] w fun e w'' => e = .returned (.tuple #[.int .i64 (z : Int), .int .i64 0]) ∧ Below w.heap.size w w'' := by
  obtain ⟨cs, T, h, _, hk, _, _, _, e1, _⟩ := r.ex
  have := h.rank ys hN.1
  rwa [h.rkd ys hN.1, upt_next r.kb hN _ (fun e he => (hk e he).1), ← e1] at this
theorem RkF.fr (r : RkF a b c n w g root x y nb z fs) : Calls Tryz.prog 16 #[.pointer (some ⟨g, 0, none⟩), .int .i64 (root : Int), .agg (B a)] w (OvPost w fs) := by
  obtain ⟨cs, T, h, _, hk, e1, _, _, _, e2⟩ := r.ex
  have := from_any h a r.ka
  rwa [h.rkd a r.ka, ← e1, ← e2] at this
theorem RkF.lt (r : RkF a b c n w g root x y nb z fs) (h : c = -1) : x ≤ y := by
  obtain ⟨cs, T, _, _, hk, e1, e2, _⟩ := r.ex
  have h1 := r.hc
  rw [h] at h1
  have hab : Ahead a b := (cmp_lt r.ka r.kb).1 (by omega)
  rw [e1, e2]
  exact cnt_le _ _ _ (fun e he hp => by
    rw [decide_eq_true_iff, cmp_lt (hk e he).1 r.ka] at hp
    rw [decide_eq_true_iff, cmp_lt (hk e he).1 r.kb]
    exact hp.trans hab)
theorem RkF.gt (r : RkF a b c n w g root x y nb z fs) (h : c = 1) : y ≤ x ∧ nb = 0 := by
  obtain ⟨cs, T, _, _, hk, e1, e2, e3, _⟩ := r.ex
  have h1 := r.hc
  rw [h] at h1
  have hba : Ahead b a := by
    rcases cmp_key r.ka r.kb with q | q | q
    · omega
    · omega
    · exact q.2
  have h2 : upt b T.ents ≤ ahd a T.ents := cnt_le _ _ _ (fun e he hp => by
    rw [decide_eq_true_iff] at hp
    rw [decide_eq_true_iff, cmp_lt (hk e he).1 r.ka]
    rcases cmp_key (hk e he).1 r.kb with q | q | q
    · rw [q.2]; exact hba
    · exact q.2.trans hba
    · omega)
  have h3 : ahd b T.ents ≤ upt b T.ents := cnt_le _ _ _ (fun e he hp => by
    rw [decide_eq_true_iff] at hp ⊢
    omega)
  rw [e1, e2, e3, btw]
  omega
theorem RkF.df (r : RkF a b c n w g root x y nb z fs) (h : c ≤ 0) : wrap64 ((z : Int) - (x : Int)) = (nb : Int) := by
  obtain ⟨cs, T, _, en, hk, e1, _, e3, e4, _⟩ := r.ex
  have h1 := r.hc
  have h2 : ahd a T.ents ≤ upt b T.ents := cnt_le _ _ _ (fun e he hp => by
    rw [decide_eq_true_iff, cmp_lt (hk e he).1 r.ka] at hp
    rw [decide_eq_true_iff]
    rcases cmp_key r.ka r.kb with q | q | q
    · rw [← q.2]
      have := (cmp_lt (hk e he).1 r.ka).2 hp
      omega
    · have := (cmp_lt (hk e he).1 r.kb).2 (hp.trans q.2)
      omega
    · omega)
  have h4 : upt b T.ents ≤ T.ents.length := List.length_filter_le _ _
  have h5 := r.n16
  rw [Go.IntWalk.wrap64_in _ (by omega), e3, e1, e4, btw]
  omega
theorem RkF.ln (r : RkF a b c n w g root x y nb z fs) : wrap64 ((n : Int) - (x : Int)) = (fs.length : Int) := by
  obtain ⟨cs, T, _, en, hk, e1, _, _, _, e2⟩ := r.ex
  have h2 := ahd_le a T.ents
  have h5 := r.n16
  rw [Go.IntWalk.wrap64_in _ (by omega), e2, List.length_drop, en, e1]
  omega
theorem RkF.sm (r : RkF a b c n w g root x y nb z fs) : fs.length ≤ 16 ∧ ∀ e ∈ fs, e.2.length ≤ 65536 := by
  obtain ⟨cs, T, _, en, hk, e1, _, _, _, e2⟩ := r.ex
  have h5 := r.n16
  refine ⟨by rw [e2, List.length_drop]; omega, fun e he => ?_⟩
  have := (hk e (List.mem_of_mem_drop (by rw [e2] at he; exact he))).2
  omega
end

theorem act_named13 {c : Code} {P : Program} {Q : Exit → Act → World → Prop} {a : Act} {w : World} (h : ∀ a0, a0 = a → c.wp P Q a0 w) : c.wp P Q a w := h a rfl

def CnI (wF : World) (kb n : Nat) (W : World) : Prop := Below wF.heap.size wF W ∧ Blk W kb 3 #[.int .i64 (n : Int)]

theorem cn_step {wF A : World} {b n : Nat} (h : CnI wF wF.heap.size n A) : KeepsFrom b A (A.setCell ⟨wF.heap.size, 0, none⟩ (.int .i64 ((n : Int) + 1))) ∧ Below wF.heap.size A (A.setCell ⟨wF.heap.size, 0, none⟩ (.int .i64 ((n : Int) + 1))) ∧ CnI wF wF.heap.size (n + 1) (A.setCell ⟨wF.heap.size, 0, none⟩ (.int .i64 ((n : Int) + 1))) := by
  have m6 : Mod [wF.heap.size] A (A.setCell ⟨wF.heap.size, 0, none⟩ (.int .i64 ((n : Int) + 1))) := Mod.setCell _ _ _ _ (by simp)
  have hb := m6.below (fun x hx => by rw [List.mem_singleton.1 hx]; exact Nat.le_refl _) h.1.size
  refine ⟨⟨m6.size, fun x o _ hx ho => ?_⟩, hb, h.1.trans hb, h.2.set 0 _⟩
  rw [m6.block x (Array.getElem?_eq_some_iff.1 hx).1 (fun e => by
    rw [List.mem_singleton.1 e] at hx
    have hb := h.2
    unfold Blk at hb
    rw [hx] at hb
    injection hb with hb
    rw [hb] at ho
    cases ho)]
  exact hx

set_option maxHeartbeats 1000000 in
theorem range_count13 {Q : Exit → Act → World → Prop} {a0 : Act} {wF wA : World} {bo : Nat} {fs : List Ent} {s p1 p2 : Nat} {body : Code} (hg : a0.eval (.tmp s) = .func (.func 82) #[] #[.pointer (some ⟨bo, 0, none⟩)]) (hO : OvAt wF bo fs) (h16 : fs.length ≤ 16) (hbs : ∀ e ∈ fs, e.2.length ≤ 65536)
    (hbk : Blk wA wF.heap.size 3 #[.int .i64 0]) (hlA : Below wF.heap.size wF wA) (hsA : wF.heap.size < wA.heap.size)
    (hbody : ∀ (l n : Nat) (v1 v2 : Value) (A : World), n < 16 → CnI wF wF.heap.size n A → body.wpIn (Fence.wide.inRound l) 2 Tryz.prog (fun e _ B => e = .normal ∧ KeepsFrom wA.heap.size A B ∧ Below wF.heap.size A B ∧ CnI wF wF.heap.size (n + 1) B) { tmps := (#[p1, p2].zip #[v1, v2]).foldl (fun t (p, v) => t.setIfInBounds p v) a0.tmps, defers := [] } A)
    (hdone : ∀ (D : Nat) (W : World), wA.heap.size ≤ D → CnI wF wF.heap.size fs.length W → W.heap[D]? = some (.deferred (some [])) → Q .normal { a0 with defers := { target := .collected D, args := #[] } :: a0.defers } W) :
    (Code.rangeFunc (.tmp s) #[p1, p2] .skip body).wp Tryz.prog Q a0 wA := by
  have HSQ : ∀ (n : Nat), 1 ≤ n → SeqY Fence.wide n Tryz.prog 82 #[.pointer (some ⟨bo, 0, none⟩)] (fun x : Ent × Value => #[Value.agg (B x.1.1), x.2]) (NextE wF.heap.size fs) wF.heap.size (fun xs => xs.map (·.1) = fs) (fun pre => pre.map (·.1) <+: fs) fs.length wA := fun n hn l J Jx W hW hJ hY h0 => ov1_in hO (by omega) hbs n hn l J Jx W (grow_trans hlA hW) hJ hY h0
  refine (wpIn_wide (n := 4)).1 (wpIn_rangeY rfl (by omega) (gf := 82) (lb := #[.pointer (some ⟨bo, 0, none⟩)]) hg trivial (enters_of Tryz.func82 (by kernel_rfl) rfl)
    (HSQ (4 - 1) (by omega)) (Nat.le_of_lt hsA) (Below.refl _ _) (fun _ => rfl)
    (fun pre W => CnI wF wF.heap.size pre.length W) (fun _ _ _ => False)
    (fun pre x a' W => a' = { tmps := (#[p1, p2].zip #[Value.agg (B x.1.1), x.2]).foldl (fun t (p, v) => t.setIfInBounds p v) a0.tmps, defers := [] } ∧ CnI wF wF.heap.size pre.length W ∧ pre.length < fs.length)
    (fun s A A' h hb => ⟨grow_trans h.1 hb, h.2.grow hb⟩)
    (fun s A A' row h hg hr => ⟨ownFrom_below (β := Unit) (Nat.le_refl _) (Nat.le_of_lt hsA) () A A' row h.1 hg hr, h.2.of_block (blk_own h.2 hg (fun r e => (hr r e).2))⟩)
    (fun cc s A A' row h hg hr => h.elim)
    (fun pre x a' s A A' row h hg hr => ⟨h.1, ⟨ownFrom_below (β := Unit) (Nat.le_refl _) (Nat.le_of_lt hsA) () A A' row h.2.1.1 hg hr, h.2.1.2.of_block (blk_own h.2.1.2 hg (fun r e => (hr r e).2))⟩, h.2.2⟩)
    ⟨hlA, hbk⟩ ?assign ?body ?done ?stop)
  case assign =>
    intro l pre x A hI _ hlt
    gi_wp2
    first | exact ⟨KeepsFrom.refl _ _, Below.refl _ _⟩ | exact ⟨KeepsFrom.refl _ _, Below.refl _ _, hI, hlt⟩ | exact ⟨KeepsFrom.refl _ _, Below.refl _ _, rfl, hI, hlt⟩
  case body =>
    rintro l pre x a' A ⟨rfl, hI, hlt⟩
    refine wpIn_mono (hbody l pre.length _ _ A (by omega) hI) ?_
    rintro e a2 B' ⟨rfl, h1, h2, h3⟩
    exact ⟨h1, h2, by show CnI _ _ (pre ++ [x]).length _; rw [List.length_append, List.length_singleton]; exact h3⟩
  case done =>
    intro D xs W hD hS hI hK
    have hl : xs.length = fs.length := by rw [← hS, List.length_map]
    rw [hl] at hI
    exact hdone D W hD hI hK
  case stop =>
    intro D c pre W _ _ h
    exact h.elim

theorem rk_filled {w : World} {av : Option Addr} {cap : Nat} {V : Nat → Value} {es : List Ent} {a b h : List Int} {c : Int} (hv : PrAt w (.slice av es.length cap) V es) (h16 : es.length ≤ 16) (hi : RootIs es 0 h 0) (hA : Key a) (hB : Key b) (hc : cmp a b = c) (hL : Laid w) :
    Calls Tryz.prog 19 #[.slice av es.length cap] w fun e w2 => ∃ g root x y nb z fs, e = .returned (.tuple #[.pointer (some ⟨g, 0, none⟩), .int .i64 ((root : Nat) : Int), .bool true]) ∧ RkF a b c es.length w2 g root x y nb z fs ∧ Below w.heap.size w w2 := by
  obtain ⟨h1, h2⟩ := root_good13 hi h16
  refine (filled_any hv h16 h2 h1 hL).mono ?_
  rintro e w' ⟨g, gs, cs, fr, root, T, rfl, hH, hF⟩
  refine ⟨g, root, _, _, _, _, _, rfl, ⟨⟨cs, T, hF.lir hH (by omega), hF.ents.length_eq, fun e he => ?_, rfl, rfl, rfl, rfl, rfl⟩, hA, hB, hc, h16⟩, hH.low⟩
  have he' := hF.ents.mem_iff.1 he
  refine ⟨?_, h1 e he'⟩
  obtain ⟨a', c', _, _, _, h3⟩ := hv
  obtain ⟨i, hi', rfl⟩ := List.getElem_of_mem he'
  have := (h3 i hi').1
  rwa [List.getD_eq_getElem?_getD, List.getElem?_eq_getElem hi', Option.getD_some] at this

end Go.Proofs.YtlhnodinhmdjnaaGreatDoor

namespace Go.Proofs.YtlhnodinhmdjnaaGreatDoor
set_option maxRecDepth 20000
open Go.RowKit Go.Shelf

attribute [local go_sem] Oper.semAt_some

set_option maxRecDepth 100000 in
set_option maxHeartbeats 8000000 in
theorem lrk_ltM {av : Option Addr} {cap : Nat} {V : Nat → Value} {es : List Ent} {a b h : List Int} (w : World) (hL : Laid w) (hv : PrAt w (.slice av es.length cap) V es) (h16 : es.length ≤ 16) (hi : RootIs es 0 h 0) (hA : Key a) (hB : Key b) (hc : cmp a b = -1) (hNL : ¬ IsLast b) :
    Calls Tryz.prog 4 #[.slice av es.length cap, .agg (B a), .agg (B b)] w fun e w' => e = .returned (.bool true) ∧ Below w.heap.size w w' := by
  have HAW : Hid (∀ w', Below w.heap.size w w' → Calls Tryz.prog 17 #[] w' fun e w'' => e = .returned (.bool true) ∧ Below w'.heap.size w' w'') := fun w' hb => awake13_any w' (hL.grow hb)
  have HRT : Hid (∀ w', Below w.heap.size w w' → Calls Tryz.prog 18 #[.slice av es.length cap] w' fun e w'' => e = .returned (.tuple #[.agg (B h), .int .i64 0]) ∧ Below w'.heap.size w' w'') := fun w' hb => root_at13 hi (Root_any _ V es w' (hv.grow hb) (by omega) (hL.grow hb))
  have HF := hidden (hash_facts h hi.len)
  have HFL : Hid (∀ w', Below w.heap.size w w' → Calls Tryz.prog 19 #[.slice av es.length cap] w' fun e w2 => ∃ g root x y nb z fs, e = .returned (.tuple #[.pointer (some ⟨g, 0, none⟩), .int .i64 ((root : Nat) : Int), .bool true]) ∧ RkF a b (-1) es.length w2 g root x y nb z fs ∧ Below w'.heap.size w' w2) := fun w' hb => rk_filled (hv.grow hb) h16 hi hA hB hc (hL.grow hb)
  have HCM : Hid (∀ w', Calls Tryz.prog 20 #[.agg (B a), .agg (B b)] w' fun e w'' => e = .returned (.int .i64 (-1)) ∧ Below w'.heap.size w' w'') := fun w' => by have := pcompare_any a b w' hA hB; rw [hc] at this; exact this
  have HNX : Hid (∀ w', Calls Tryz.prog 21 #[.agg (B b)] w' (NextPost b w')) := fun w' => next_any b w' hB
  have HNL := hidden hNL
  have HPA := hidden (keyB_size hA)
  have HLA := hidden (pth_ln a hA.1)
  have HPB := hidden (keyB_size hB)
  have HLB := hidden (pth_ln b hB.1)
  have hn16 : ¬ (16 : Int) < (es.length : Int) := by omega
  have hn16' : ¬ 16 < es.length := by omega
  generalize es.length = n at *
  clear hL hv hi hA hB hc hNL h16
  refine (callsIn_wide (n := 4)).1 ?_
  refine callsIn_of_wp_marks Tryz.func4 rfl trivial ?_ rfl
  simp only [Tryz.ntmps4, List.size_toArray, List.length_cons, List.length_nil, Nat.reduceAdd, Nat.reduceSub, Array.replicate_succ, Array.replicate_zero, List.push_toArray, List.append_toArray, List.nil_append, List.cons_append]
  refine wpIn_wide.2 ?_
  have hfn := eql13_fn
  go_wp2_with (first
    | ((with_reducible refine at_bxd 4 ?_); refine wpList_bx _ rfl _ _ rfl _ rfl ?_; intro w0 b4 hg hl B4 q4; have HB4 := hidden B4; have HQ0 := hidden q4; clear hg hl B4 q4)
    | ((with_reducible refine at_bxd 5 ?_); refine wpList_bx _ rfl _ _ rfl _ rfl ?_; intro w1 b5 hg hl B5 q5; have HA : Hid (∀ w', Below w1.heap.size w1 w' → Blk w' b4 23 (B a)) := (fun w' hb => (HB4.out.grow q5).grow hb); have HB : Hid (∀ w', Below w1.heap.size w1 w' → Blk w' b5 23 (B b)) := (fun w' hb => B5.grow hb); replace HQ0 := hidden (grow_trans HQ0.out q5); have HQ := hidden (Below.refl w1.heap.size w1); clear hg hl B5 q5 HB4)
    | (go_at_call 17; refine (HAW.out _ (grow_trans HQ0.out HQ.out)).mono ?_; rintro e x ⟨rfl, bx⟩; replace HQ := hidden (grow_trans HQ.out bx); (try replace HR := hidden (grow_trans HR.out bx)); (try replace HBN := hidden (HBN.out.grow bx)); clear bx)
    | (go_at_call 18; refine (HRT.out _ (grow_trans HQ0.out HQ.out)).mono ?_; rintro e x ⟨rfl, bx⟩; replace HQ := hidden (grow_trans HQ.out bx); (try replace HR := hidden (grow_trans HR.out bx)); (try replace HBN := hidden (HBN.out.grow bx)); clear bx)
    | ((with_reducible refine at_ald 8 ?_); refine wpList_al _ rfl _ rfl _ zero_hash ?_; intro x g8 hg hl B8 bx; have HG8 : Hid (w1.heap.size ≤ g8) := Nat.le_trans HQ.out.size hg; have HB8 := hidden B8; clear hg hl B8; replace HQ := hidden (grow_trans HQ.out bx); (try replace HR := hidden (grow_trans HR.out bx)); (try replace HBN := hidden (HBN.out.grow bx)); clear bx)
    | ((with_reducible refine at_st 8 ?_); refine wpList_sto _ rfl _ _ _ rfl g8 _ (B h) rfl rfl HB8.out HF.out.1 HF.out.2 (B_one _) ?_; intro x B9 r9; replace HQ := hidden (below_row HQ.out r9 HG8.out); clear B9 r9 HB8)
    | (go_at_call 19; refine (HFL.out _ (grow_trans HQ0.out HQ.out)).mono ?_; rintro e w2 ⟨g, root, xa, y, nb, z, fs, rfl, hR, b2⟩; have R := hidden hR; replace HQ := hidden (grow_trans HQ.out b2); have HR := hidden (Below.refl w2.heap.size w2); clear hR b2; have HRA : Hid (∀ w', Below w2.heap.size w2 w' → Calls Tryz.prog 10 #[.pointer (some ⟨g, 0, none⟩), .int .i64 (root : Int), .agg (B a)] w' fun e w'' => e = .returned (.tuple #[.int .i64 (xa : Int), .int .i64 0]) ∧ Below w'.heap.size w' w'') := (fun w' hb => (R.out.grow hb).rka); have HRB : Hid (∀ w', Below w2.heap.size w2 w' → Calls Tryz.prog 10 #[.pointer (some ⟨g, 0, none⟩), .int .i64 (root : Int), .agg (B b)] w' fun e w'' => e = .returned (.tuple #[.int .i64 (y : Int), .int .i64 0]) ∧ Below w'.heap.size w' w'') := (fun w' hb => (R.out.grow hb).rkb); have HBT : Hid (∀ w', Below w2.heap.size w2 w' → Calls Tryz.prog 12 #[.pointer (some ⟨g, 0, none⟩), .int .i64 (root : Int), .agg (B a), .agg (B b)] w' fun e w'' => e = .returned (.tuple #[.int .i64 (nb : Int), .int .i64 0]) ∧ Below w'.heap.size w' w'') := (fun w' hb => (R.out.grow hb).bt); have HCN : Hid (∀ w', Below w2.heap.size w2 w' → Calls Tryz.prog 9 #[.pointer (some ⟨g, 0, none⟩), .int .i64 (root : Int)] w' fun e w'' => e = .returned (.tuple #[.int .i64 (n : Int), .int .i64 0]) ∧ Below w'.heap.size w' w'') := (fun w' hb => (R.out.grow hb).cn); have HZ : Hid (∀ ys, IsNext b ys → ∀ w', Below w2.heap.size w2 w' → Calls Tryz.prog 10 #[.pointer (some ⟨g, 0, none⟩), .int .i64 (root : Int), .agg (B ys)] w' fun e w'' => e = .returned (.tuple #[.int .i64 (z : Int), .int .i64 0]) ∧ Below w'.heap.size w' w'') := (fun ys hN w' hb => (R.out.grow hb).rkz ys hN); have HFR : Hid (∀ w', Below w2.heap.size w2 w' → Calls Tryz.prog 16 #[.pointer (some ⟨g, 0, none⟩), .int .i64 (root : Int), .agg (B a)] w' (OvPost w' fs)) := (fun w' hb => (R.out.grow hb).fr); have hxy : ¬ ((y : Int) < (xa : Int)) := (by have := R.out.lt rfl; omega); have hxy2 : ¬ (y < xa) := (by omega); have hzx : wrap64 ((z : Int) - (xa : Int)) = (nb : Int) := R.out.df (by omega); have hnx : wrap64 ((n : Int) - (xa : Int)) = (fs.length : Int) := R.out.ln; clear HFL)
    | (go_at_call 10; refine (HRA.out _ HR.out).mono ?_; rintro e x ⟨rfl, bx⟩; clear HRA; replace HQ := hidden (grow_trans HQ.out bx); (try replace HR := hidden (grow_trans HR.out bx)); (try replace HBN := hidden (HBN.out.grow bx)); clear bx)
    | (go_at_call 10; refine (HRB.out _ HR.out).mono ?_; rintro e x ⟨rfl, bx⟩; clear HRB; replace HQ := hidden (grow_trans HQ.out bx); (try replace HR := hidden (grow_trans HR.out bx)); (try replace HBN := hidden (HBN.out.grow bx)); clear bx)
    | (go_at_call 12; refine (HBT.out _ HR.out).mono ?_; rintro e x ⟨rfl, bx⟩; clear HBT; replace HQ := hidden (grow_trans HQ.out bx); (try replace HR := hidden (grow_trans HR.out bx)); (try replace HBN := hidden (HBN.out.grow bx)); clear bx)
    | (go_at_call 9; refine (HCN.out _ HR.out).mono ?_; rintro e x ⟨rfl, bx⟩; clear HCN; replace HQ := hidden (grow_trans HQ.out bx); (try replace HR := hidden (grow_trans HR.out bx)); (try replace HBN := hidden (HBN.out.grow bx)); clear bx)
    | ((with_reducible refine at_ldd 51 4 ?_); refine wpList_ld _ rfl _ _ rfl b4 _ rfl (HA.out _ HQ.out) _ _ Tryz.underlying23 HPA.out ?_)
    | ((with_reducible refine at_ldd 65 4 ?_); refine wpList_ld _ rfl _ _ rfl b4 _ rfl (HA.out _ HQ.out) _ _ Tryz.underlying23 HPA.out ?_)
    | ((with_reducible refine at_ldd 100 4 ?_); refine wpList_ld _ rfl _ _ rfl b4 _ rfl (HA.out _ HQ.out) _ _ Tryz.underlying23 HPA.out ?_)
    | ((with_reducible refine at_ldd 162 4 ?_); refine wpList_ld _ rfl _ _ rfl b4 _ rfl (HA.out _ HQ.out) _ _ Tryz.underlying23 HPA.out ?_)
    | ((with_reducible refine at_ldd 58 5 ?_); refine wpList_ld _ rfl _ _ rfl b5 _ rfl (HB.out _ HQ.out) _ _ Tryz.underlying23 HPB.out ?_)
    | ((with_reducible refine at_ldd 66 5 ?_); refine wpList_ld _ rfl _ _ rfl b5 _ rfl (HB.out _ HQ.out) _ _ Tryz.underlying23 HPB.out ?_)
    | ((with_reducible refine at_ldd 101 5 ?_); refine wpList_ld _ rfl _ _ rfl b5 _ rfl (HB.out _ HQ.out) _ _ Tryz.underlying23 HPB.out ?_)
    | ((with_reducible refine at_ldd 133 5 ?_); refine wpList_ld _ rfl _ _ rfl b5 _ rfl (HB.out _ HQ.out) _ _ Tryz.underlying23 HPB.out ?_)
    | (go_at_call 20; refine (HCM.out _).mono ?_; rintro e x ⟨rfl, bx⟩; replace HQ := hidden (grow_trans HQ.out bx); (try replace HR := hidden (grow_trans HR.out bx)); (try replace HBN := hidden (HBN.out.grow bx)); clear bx)
    | (go_at_call 21; refine (HNX.out _).mono ?_; rintro e x9 ⟨ys, bb, hor, rfl, bx⟩; obtain ⟨rfl, hN⟩ : bb = true ∧ IsNext b ys := (hor.resolve_right (fun h => HNL.out h.2.1)); have HNY := hidden hN; have HYK : Hid (Key ys) := hN.1; have HYS : Hid ((Tryz.prog.info? 23).map (·.size) = some (B ys).size ∧ (B (List.replicate 32 0)).size = (B ys).size) := ⟨keyB_size HYK.out, by rw [B_size, B_size, HYK.out.1]; rfl⟩; clear hor hN; replace HQ := hidden (grow_trans HQ.out bx); (try replace HR := hidden (grow_trans HR.out bx)); (try replace HBN := hidden (HBN.out.grow bx)); clear bx)
    | ((with_reducible refine at_ald 22 ?_); refine wpList_al _ rfl _ rfl _ zero_path ?_; intro x9 g22 hg hl B22 bx; have HG22 : Hid (w2.heap.size ≤ g22 ∧ w1.heap.size ≤ g22) := ⟨Nat.le_trans HR.out.size hg, Nat.le_trans HQ.out.size hg⟩; have HB22 := hidden B22; clear hg hl B22; replace HQ := hidden (grow_trans HQ.out bx); (try replace HR := hidden (grow_trans HR.out bx)); (try replace HBN := hidden (HBN.out.grow bx)); clear bx)
    | ((with_reducible refine at_st 22 ?_); refine wpList_sto _ rfl _ _ _ rfl g22 _ (B ys) rfl rfl HB22.out HYS.out.1 HYS.out.2 (B_one _) ?_; intro x9 B9 r9; replace HQ := hidden (below_row HQ.out r9 HG22.out.2); replace HR := hidden (below_row HR.out r9 HG22.out.1); have HBN := hidden B9; clear B9 r9)
    | ((with_reducible refine at_ldd 139 4 ?_); refine wpList_ldw13 _ rfl _ _ rfl b4 0 rfl (B a).toList (HA.out _ HQ.out).range _ Tryz.underlying23 rfl HLA.out ?_)
    | ((with_reducible refine at_ldd 140 5 ?_); refine wpList_ldw13 _ rfl _ _ rfl b5 0 rfl (B b).toList (HB.out _ HQ.out).range _ Tryz.underlying23 rfl HLB.out ?_)
    | ((with_reducible refine at_ldd 147 22 ?_); refine wpList_ld _ rfl _ _ rfl g22 _ rfl HBN.out _ _ Tryz.underlying23 HYS.out.1 ?_)
    | (go_at_call 10; refine (HZ.out ys HNY.out _ HR.out).mono ?_; rintro e x ⟨rfl, bx⟩; clear HZ; replace HQ := hidden (grow_trans HQ.out bx); (try replace HR := hidden (grow_trans HR.out bx)); (try replace HBN := hidden (HBN.out.grow bx)); clear bx)
    | (go_at_call 16; refine (HFR.out _ HR.out).mono ?_; rintro e wF ⟨bo, rfl, _, hO, bx⟩; have HO := hidden hO; clear hO; replace HQ := hidden (grow_trans HQ.out bx); (try replace HR := hidden (grow_trans HR.out bx)); (try replace HBN := hidden (HBN.out.grow bx)); clear bx))
  rename_i K hK
  have hsm := R.out.sm
  obtain ⟨wA, hwA⟩ : ∃ x, x = wF.alloc (.cells #[Value.int .i64 0] 3) := ⟨_, rfl⟩
  have hbk : Blk wA wF.heap.size 3 #[.int .i64 0] := by rw [hwA]; exact Blk.new wF 3 #[.int .i64 0]
  have hlA : Below wF.heap.size wF wA := by rw [hwA]; exact grow_alloc _ _
  have hsA : wF.heap.size < wA.heap.size := by rw [hwA]; simp
  rw [← hwA]
  have HBW : Hid (Below w.heap.size w wF) := grow_trans HQ0.out HQ.out
  refine act_named13 ?_
  intro a0 ha0
  refine range_count13 (by rw [ha0]; rfl) HO.out hsm.1 hsm.2 hbk hlA hsA ?body ?done
  case body =>
    intro l k v1 v2 A hk hC
    have c1 : A.cell? ⟨wF.heap.size, 0, none⟩ = some (.int .i64 (k : Int)) := by rw [hC.2.cell]; rfl
    have z1 : A.frozen? ⟨wF.heap.size, 0, none⟩ = false := hC.2.frozen 0
    have hwk : wrap64 ((k : Int) + 1) = (k : Int) + 1 := Go.IntWalk.wrap64_in _ (by omega)
    have HC := hidden hC
    have hS := cn_step (b := wA.heap.size) hC
    rw [ha0]
    clear hC hbk hlA hsm ha0 hwA
    simp only [List.zipWith_toArray, Array.zip, List.foldl_toArray', List.size_toArray]
    gi_wp2
    all_goals exact ⟨rfl, hS⟩
  case done =>
    intro D W hD hC hKd
    have c1 : W.cell? ⟨wF.heap.size, 0, none⟩ = some (.int .i64 (fs.length : Int)) := by rw [hC.2.cell]; rfl
    have HC := hidden hC
    rw [ha0]
    clear hC hbk hlA hsm ha0 hwA
    refine hK _ _ ?_
    go_wp2
    refine ⟨by simp, .inl ⟨_, _, rfl, run_takeDeferred hKd, ?_⟩⟩
    refine ⟨.bool true, ?_, rfl, (HBW.out.trans (HC.out.1.mono HBW.out.size)).trans (belowK_b (w := w) (Nat.le_refl _) W D _ _ (by have := HBW.out.size; omega) hKd rfl rfl)⟩
    simp [results, Tryz.f4, go_sem]

end Go.Proofs.YtlhnodinhmdjnaaGreatDoor
