/- A range over a function whose iterator tells what it hands out, and whose loop variable may lie in a block of its own: the law for the statement. -/
import Derived.Test.YtlhnodinhmdjnaaGreatDoorLr01
import Derived.Test.YtlhnodinhmdjnaaGreatDoorLr29
import Derived.Test.YtlhnodinhmdjnaaGreatDoorLr33
import Derived.Test.YtlhnodinhmdjnaaGreatDoorLr15
namespace Go.Proofs.YtlhnodinhmdjnaaGreatDoor
set_option maxRecDepth 20000
open Go.RowKit


def SeqY {α : Type} (F : Fence) (n : Nat) (P : Program) (g : Nat) (lb : Array Value) (encs : α → Array Value) (X : List α → α → World → Prop) (n₀ : Nat) (S Sp : List α → Prop) (N : Nat) (w : World) : Prop :=
  ∀ (l : Nat) (J Jx : List α → World → Prop) (W : World), Below w.heap.size w W →
    (∀ s A B, J s A → Below A.heap.size A B → J s B) →
    (∀ pre x A, J pre A → X pre x A → pre.length < N → YieldAt F (n - 1) P l (encs x) A fun e B =>
      (e = .returned (.bool true) ∧ J (pre ++ [x]) B ∧ Below n₀ A B) ∨ (e = .returned (.bool false) ∧ Jx (pre ++ [x]) B)) →
    J [] W →
    CallsIn F n P g (#[.func (.yield l) #[] #[]] ++ lb) W fun e B => (∃ v, e = .returned v) ∧ ((∃ xs, S xs ∧ J xs B) ∨ (∃ pre, Sp pre ∧ Jx pre B))

def outY {α : Type} (b n₀ : Nat) (I : List α → World → Prop) (Ix : Code → List α → World → Prop) (xs : List α) (A : World) : Exit → Act → World → Prop
  | .normal, _, B => KeepsFrom b A B ∧ Below n₀ A B ∧ I xs B
  | .ret, _, B => KeepsFrom b A B ∧ Ix .ret xs B
  | .exit i, _, B => KeepsFrom b A B ∧ Ix (.exit i) xs B
  | .goto t, _, B => KeepsFrom b A B ∧ Ix (.goto t) xs B
  | .panic _, _, _ => False
  | .outgrown, _, _ => False

set_option maxHeartbeats 2000000 in
theorem wpIn_rangeY {F : Fence} {n : Nat} {P : Program} {α : Type} {g : Operand} {ps : Array Tmp} {assign body : Code} {Q : Exit → Act → World → Prop} {a : Act} {w : World}
    (hro : F.round = none) (h1 : 1 ≤ n) {gf : Nat} {lb : Array Value} (hg : a.eval g = .func (.func gf) #[] lb) (hFg : F.fn gf) (eg : ∀ args w, (callFunc gf args).run P w = .ok (.enter gf args) w)
    {encs : α → Array Value} {X : List α → α → World → Prop} {n₀ : Nat} {S Sp : List α → Prop} {N : Nat} {w0 : World} (hseq : SeqY F (n - 1) P gf lb encs X n₀ S Sp N w0) (hn₀ : n₀ ≤ w.heap.size) (hb0 : Below w0.heap.size w0 w) (hps : ∀ x, (encs x).size = ps.size)
    (I : List α → World → Prop) (Ix : Code → List α → World → Prop) (Bx : List α → α → Act → World → Prop) (hIg : ∀ s A B, I s A → Below A.heap.size A B → I s B) (hI : OwnFrom w.heap.size I) (hIx : ∀ c, OwnFrom w.heap.size (Ix c)) (hBx : ∀ pre x a', OwnFrom w.heap.size (fun (_ : Unit) W => Bx pre x a' W)) (h0 : I [] w)
    (hassign : ∀ (l : Nat) (pre : List α) (x : α) (A : World), I pre A → X pre x A → pre.length < N →
      assign.wpIn (F.inRound l) (n - 1 - 1) P (Exit.then (fun a' A' => KeepsFrom w.heap.size A A' ∧ Below n₀ A A' ∧ Bx pre x a' A') (fun _ _ _ => False)) { tmps := (ps.zip (encs x)).foldl (fun t (p, v) => t.setIfInBounds p v) a.tmps, defers := [] } A)
    (hbody : ∀ (l : Nat) (pre : List α) (x : α) (a' : Act) (A : World), Bx pre x a' A → body.wpIn (F.inRound l) (n - 1 - 1) P (outY w.heap.size n₀ I Ix (pre ++ [x]) A) a' A)
    (hdone : ∀ (D : Nat) (xs : List α) (W : World), w.heap.size ≤ D → S xs → I xs W → W.heap[D]? = some (.deferred (some [])) → Q .normal { a with defers := { target := .collected D, args := #[] } :: a.defers } W)
    (hstop : ∀ (D : Nat) (c : Code) (pre : List α) (W : World), w.heap.size ≤ D → Sp pre → Ix c pre W → W.heap[D]? = some (.deferred (some [])) → c.wpIn F n P Q { a with defers := { target := .collected D, args := #[] } :: a.defers } W) :
    (Code.rangeFunc g ps assign body).wpIn F n P Q a w := by
  refine wpIn_rangeFunc fun fn hfn => ?_
  rw [hro]
  obtain ⟨R, hR⟩ : ∃ R : LoopState → Option Code → Loop, R = fun st pe => { state := st, pending := pe, fn, tmps := a.tmps, params := ps, assign, body, defers := w.heap.size } := ⟨_, rfl⟩
  obtain ⟨V, hV⟩ : ∃ V, V = (w.alloc (.deferred (some []))).alloc (.loop (R .ready none)) := ⟨_, rfl⟩
  have bV : Below w.heap.size w V := by rw [hV]; exact grow_trans (grow_alloc _ _) (grow_alloc _ _)
  have LV : V.heap[w.heap.size + 1]? = some (.loop (R .ready none)) := by
    have := World.alloc_heap_new (w.alloc (.deferred (some []))) (.loop (R .ready none))
    rw [World.size_alloc] at this
    rw [hV]
    exact this
  have DV : V.heap[w.heap.size]? = some (.deferred (some [])) := by
    rw [hV]
    exact (Below.heap_alloc _ _ _ (by simp)).trans (World.alloc_heap_new w _)
  have IV : I [] V := by
    rw [hV]
    exact hI.alloc _ (hI.alloc _ h0)
  refine ⟨w.heap.size + 1, [{ target := .collected w.heap.size, args := #[] }], V, { target := .fn (.func gf) lb, args := #[.func (.yield (w.heap.size + 1)) #[] #[]] }, V, gf, #[.func (.yield (w.heap.size + 1)) #[] #[]] ++ lb, V, ?_, ?_, ?_, ?_, fun _ => h1, ?_⟩
  · rw [hV, hR]
    exact run_enterLoop_outer _ _ _ _ _
  · simp only [resolve, hg]
    simp [go_sem]
  · intro f' hf'
    simp [Target.leads] at hf'
    subst hf'
    exact hFg
  · simp [invoke, go_sem, eg]
  refine (hseq (w.heap.size + 1) (fun s A => I s A ∧ A.heap[w.heap.size + 1]? = some (.loop (R .ready none)) ∧ A.heap[w.heap.size]? = some (.deferred (some []))) (fun s A => ∃ c, Ix c s A ∧ A.heap[w.heap.size + 1]? = some (.loop (R .done (some c))) ∧ A.heap[w.heap.size]? = some (.deferred (some []))) V (hb0.trans (bV.mono hb0.size)) ?_ ?_ ⟨IV, LV, DV⟩).mono ?_
  · rintro s A B ⟨q1, q2, q3⟩ hb
    exact ⟨hIg s A B q1 hb, (hb.block _ (Array.getElem?_eq_some_iff.1 q2).1).trans q2, (hb.block _ (Array.getElem?_eq_some_iff.1 q3).1).trans q3⟩
  · rintro pre x A ⟨q1, q2, q3⟩ hx hlen
    have hy := run_yield (P := P) (args := encs x) q2 (by rw [hR]; exact hps x)
    rw [hR] at hy
    refine ⟨fn, _, assign, body, hy, roundIn_of_wpIn hfn (wpIn_mono (hassign _ pre x A q1 hx hlen) ?_)⟩
    intro e a' A1 hp
    cases e with
    | normal =>
      obtain ⟨k1, k2, k3⟩ := hp
      have L1 := k1.same _ _ (by omega) q2 rfl
      have D1 := k1.same _ _ (Nat.le_refl _) q3 rfl
      refine ⟨_, run_beginRound L1 (by rw [hR]), ?_⟩
      have hlt : w.heap.size + 1 < A1.heap.size := (Array.getElem?_eq_some_iff.1 L1).1
      obtain ⟨A', hA'⟩ : ∃ A', A' = A1.putObj (w.heap.size + 1) (.loop { R .ready none with state := .busy }) := ⟨_, rfl⟩
      have L2 : A'.heap[w.heap.size + 1]? = some (.loop { R .ready none with state := .busy }) := by rw [hA']; exact World.putObj_heap_same hlt
      have D2 : A'.heap[w.heap.size]? = some (.deferred (some [])) := by rw [hA']; exact (World.putObj_heap_other (by omega)).trans D1
      have X2 : Bx pre x a' A' := by rw [hA']; exact (hBx pre x a').putObj (s := ()) _ k3 (by omega) L1 rfl
      have B2 : Below n₀ A A' := by rw [hA']; exact k2.trans (belowK_b (w := w) hn₀ A1 _ _ _ (by omega) L1 rfl rfl)
      rw [← hA']
      refine wpIn_mono (hbody _ pre x a' A' X2) ?_
      have fin : ∀ (j : Option Code) (C : World), KeepsFrom w.heap.size A' C →
          (Instr.endRound (w.heap.size + 1) j).run P C = .ok (.bool j.isNone) (C.putObj (w.heap.size + 1) (.loop (R (if j.isNone then .ready else .done) j))) ∧ C.heap[w.heap.size + 1]? = some (.loop { R .ready none with state := .busy }) ∧
          (C.putObj (w.heap.size + 1) (.loop (R (if j.isNone then .ready else .done) j))).heap[w.heap.size + 1]? = some (.loop (R (if j.isNone then .ready else .done) j)) ∧
          (C.putObj (w.heap.size + 1) (.loop (R (if j.isNone then .ready else .done) j))).heap[w.heap.size]? = some (.deferred (some [])) := fun j C hk => by
        have L3 := hk.same _ _ (by omega) L2 rfl
        have e := run_endRound (P := P) j L3
        rw [hR] at e ⊢
        exact ⟨e, by rw [hR] at L3; exact L3, World.putObj_heap_same (Array.getElem?_eq_some_iff.1 L3).1, (World.putObj_heap_other (by omega)).trans (hk.same _ _ (Nat.le_refl _) D2 rfl)⟩
      intro e a3 C hp
      cases e with
      | normal =>
        obtain ⟨k1, k3, k4⟩ := hp
        obtain ⟨r, l3, l4, d4⟩ := fin none C k1
        exact ⟨_, _, r, .inl ⟨rfl, ⟨hI.putObj _ k4 (by omega) l3 rfl, l4, d4⟩, (B2.trans k3).trans (belowK_b (w := w) hn₀ C _ _ _ (by omega) l3 rfl rfl)⟩⟩
      | ret =>
        obtain ⟨k1, k2⟩ := hp
        obtain ⟨r, l3, l4, d4⟩ := fin (some .ret) C k1
        exact ⟨_, _, r, .inr ⟨rfl, .ret, (hIx _).putObj _ k2 (by omega) l3 rfl, l4, d4⟩⟩
      | exit i =>
        obtain ⟨k1, k2⟩ := hp
        obtain ⟨r, l3, l4, d4⟩ := fin (some (.exit i)) C k1
        exact ⟨_, _, r, .inr ⟨rfl, .exit i, (hIx _).putObj _ k2 (by omega) l3 rfl, l4, d4⟩⟩
      | goto t =>
        obtain ⟨k1, k2⟩ := hp
        obtain ⟨r, l3, l4, d4⟩ := fin (some (.goto t)) C k1
        exact ⟨_, _, r, .inr ⟨rfl, .goto t, (hIx _).putObj _ k2 (by omega) l3 rfl, l4, d4⟩⟩
      | panic _ => exact hp.elim
      | outgrown => exact hp.elim
    | _ => exact hp.elim
  · rintro e C ⟨⟨v, rfl⟩, ⟨xs, hS, q1, q2, q3⟩ | ⟨pre, hSp, c, q1, q2, q3⟩⟩
    · exact ⟨none, _, by have := run_endLoop (P := P) q2 (by rw [hR]; simp); rw [hR] at this; exact this, hdone _ xs _ (Nat.le_refl _) hS (hI.putObj _ q1 (by omega) q2 rfl) ((World.putObj_heap_other (by omega)).trans q3)⟩
    · exact ⟨some c, _, by have := run_endLoop (P := P) q2 (by rw [hR]; simp); rw [hR] at this; exact this, hstop _ c pre _ (Nat.le_refl _) hSp ((hIx c).putObj _ q1 (by omega) q2 rfl) ((World.putObj_heap_other (by omega)).trans q3)⟩

end Go.Proofs.YtlhnodinhmdjnaaGreatDoor

namespace Go.Proofs.YtlhnodinhmdjnaaGreatDoor
set_option maxRecDepth 20000
open Go.RowKit Go.Shelf

attribute [local go_sem] Oper.semAt_some

def NextE (b : Nat) (es : List Ent) (pre : List (Ent × Value)) (x : Ent × Value) (A : World) : Prop := es[pre.length]? = some x.1 ∧ ∃ sp, Own b A x.2 x.1.2 sp

theorem reads_sl {w : World} {v : Value} {bs : List Int} (h : Reads w v bs) : ∃ a c, v = .slice a bs.length c := by
  obtain ⟨a, c, e, _⟩ := h
  exact ⟨a, c, e⟩

set_option maxRecDepth 100000 in
set_option maxHeartbeats 4000000 in
theorem ov1_in {wb : World} {b : Nat} {es : List Ent} (hO : OvAt wb b es) (h6 : es.length ≤ 4096) (hbs : ∀ e ∈ es, e.2.length ≤ 65536) (n : Nat) (hn : 1 ≤ n) (l : Nat) (J Jx : List (Ent × Value) → World → Prop) (W : World) (hb : Below wb.heap.size wb W)
    (hJ : ∀ s A B, J s A → Below A.heap.size A B → J s B)
    (hY : ∀ pre x A, J pre A → NextE wb.heap.size es pre x A → pre.length < es.length → YieldAt Fence.wide (n - 1) Tryz.prog l #[.agg (B x.1.1), x.2] A fun e B =>
      (e = .returned (.bool true) ∧ J (pre ++ [x]) B ∧ Below wb.heap.size A B) ∨ (e = .returned (.bool false) ∧ Jx (pre ++ [x]) B))
    (h0 : J [] W) :
    CallsIn Fence.wide n Tryz.prog 82 #[.func (.yield l) #[] #[], .pointer (some ⟨b, 0, none⟩)] W fun e B => (∃ v, e = .returned v) ∧ ((∃ xs, xs.map (·.1) = es ∧ J xs B) ∨ (∃ pre, pre.map (·.1) <+: es ∧ Jx pre B)) := by
  obtain ⟨a, c, V, hB, hP⟩ := hO
  obtain ⟨m, hm⟩ : ∃ m, m = es.length := ⟨_, rfl⟩
  rw [← hm] at hB
  have HGet : Hid (∀ k, k < m → ∃ g off ua uc K bs, a = some ⟨g, off, none⟩ ∧ es[k]? = some (K, bs) ∧ wb.rangeAt g (off + k * 33) (encP K (.slice ua bs.length uc)) ∧ Key K ∧ Reads wb (.slice ua bs.length uc) bs) := fun k hk => by
    rw [hm] at hk
    obtain ⟨a', c', e, _, h2, h3⟩ := hP
    injection e with e1 _ _
    subst e1
    obtain ⟨g, off, ea, hr⟩ := h2 (by omega)
    have h4 := hr k hk
    obtain ⟨hk1, hk2⟩ := h3 k hk
    rw [List.getD_eq_getElem?_getD, List.getElem?_eq_getElem hk, Option.getD_some] at h4 hk1 hk2
    obtain ⟨ua, uc, eV⟩ := reads_sl hk2
    rw [eV] at h4 hk2
    exact ⟨g, off, ua, uc, es[k].1, es[k].2, ea, by rw [List.getElem?_eq_getElem hk], h4, hk1, hk2⟩
  have c1 : W.cell? ⟨b, 0, none⟩ = some (.slice a m c) := by rw [(hB.grow hb).cell]; rfl
  have HJ := hidden hJ
  have HY := hidden hY
  have HM := hidden hm
  have HBS := hidden hbs
  have H6 : Hid (m ≤ 4096) := by rw [hm]; exact h6
  have HB := hidden hb
  have H0 := hidden h0
  obtain ⟨fs, hfs⟩ := u_pair
  have HUP := hidden hfs
  have f1 : Fence.wide.fn 83 := trivial
  clear hP hB hJ hY hm hbs h6 hb h0 hfs
  refine callsIn_of_wp Tryz.func82 rfl trivial ?_ rfl
  simp only [Tryz.ntmps82, List.size_toArray, List.length_cons, List.length_nil, Nat.reduceAdd, Nat.reduceSub, Array.replicate_succ, Array.replicate_zero, List.push_toArray, List.append_toArray, List.nil_append, List.cons_append]
  gi_wp2
  gi_loopw [7] (fun i wr => ∃ (k : Nat) (pre : List (Ent × Value)), k ≤ m ∧ i = .int .i64 k ∧ pre.length = k ∧ Hid (pre.map (·.1) = es.take k) ∧ Hid (J pre wr) ∧ Hid (Below wb.heap.size wb wr)) (fun i _ => m - (intOf i).toNat)
  case atStart => exact ⟨0, [], Nat.zero_le _, rfl, rfl, rfl, H0, HB⟩
  case round =>
    clear c1 H0 HB
    obtain ⟨k, pre, hk, rfl, hpl, hpm, hJs, hBw⟩ := hrel
    have hm6 := H6.out
    have hwk : wrap64 ((k : Int) + 1) = ((k + 1 : Nat) : Int) := by rw [Go.IntWalk.wrap64_in _ (by omega)]; rfl
    by_cases hlt : k < m
    · obtain ⟨g, off, ua, uc, K, bs, rfl, hek, hrg, hK, hrd⟩ := HGet.out k hlt
      have HEKk := hidden hek
      have HEK : Hid (es[pre.length]? = some (K, bs)) := by rw [hpl]; exact hek
      have HLN : Hid (pre.length < es.length) := by have := HM.out; show _ < _; omega
      have HPX : Hid (es.take k ++ [(((K, bs), undef) : Ent × Value)].map (·.1) <+: es) := by
        show _ <+: _
        have : es.take k ++ [(K, bs)] = es.take (k + 1) := by rw [List.take_add_one, hek]; rfl
        rw [List.map_cons, List.map_nil, this]
        exact List.take_prefix _ _
      have HRG := hidden (rng_grow hrg hBw.out)
      have HKL := hidden (pth_ln K hK.1)
      have HK32 := hidden hK.1
      have HSZ : Hid ((Tryz.prog.info? 37).map (·.size) = some (encP K (.slice ua bs.length uc)).length) := by
        show _ = _
        rw [encP_length K _ hK.1]
        exact size_pair
      have HS2 : Hid ((encP z32 (.slice none 0 0)).toArray.size = (encP K (.slice ua bs.length uc)).toArray.size) := by
        show _ = _
        rw [List.size_toArray, List.size_toArray, encP_length K _ hK.1, encP_length z32 _ z32_length]
      have HCL : Hid (∀ w', Below wr.heap.size wr w' → Calls Tryz.prog 83 #[.slice ua bs.length uc] w' fun e w'' => ∃ v' sp, e = .returned v' ∧ Own w'.heap.size w'' v' bs sp ∧ Below w'.heap.size w' w'') := fun w' hb => clone_any _ bs w' ((hrd.grow hBw.out).grow hb) (by
        have := HBS.out (K, bs) (List.mem_of_getElem? HEKk.out)
        simp only at this
        omega)
      have i1 : (k : Int) < (m : Int) := by omega
      have i0 : (0 : Int) ≤ (k : Int) := by omega
      clear hrg hK hrd hek
      gi_wp2_with (first
        | (refine inList (.inl rfl) (fun c e => by cases e) (wpList_load_mid rfl 37 (.tmp 9) rfl g (off + k * 33) rfl (encP K (.slice ua bs.length uc)) _ HRG.out HUP.out rfl HSZ.out ⟨rfl, ?_⟩))
        | (refine inList (.inl rfl) (fun c e => by cases e) (wpList_al _ rfl _ rfl _ zero_pair (fun w2 g4 hg4 hl4 B4 b2 => ⟨rfl, ?_⟩)); have HG4 := hidden hg4; have HB4 := hidden B4; have HQ2 := hidden b2; clear hg4 hl4 B4 b2)
        | (refine inList (.inl rfl) (fun c e => by cases e) (wpList_sto _ rfl _ _ _ rfl g4 _ (encP K (.slice ua bs.length uc)).toArray rfl rfl HB4.out (by rw [List.size_toArray]; exact HSZ.out) HS2.out (encP_one _ _ _ _) (fun w4 B9 r9 => ⟨rfl, ?_⟩)); have HB9 := hidden B9; have HQ4 := hidden (below_row HQ2.out r9 HG4.out); clear B9 r9))
      have HR4 : Hid (∀ w', Below w4.drew.heap.size w4.drew w' → w'.rangeAt g4 0 (B K).toList) := fun w' hb j u hu => by
        rw [Nat.zero_add, ((HB9.out.grow (below_drewN (Below.refl _ _) 1)).grow hb).cell]
        rw [B_toList] at hu
        have hj : j < K.length := by
          have := (List.getElem?_eq_some_iff.1 hu).1
          simpa using this
        rw [List.getElem?_toArray, encP, List.getElem?_append_left (by simpa using hj)]
        exact hu
      have HC33 : Hid (∀ w', Below w4.drew.heap.size w4.drew w' → w'.cell? ⟨g4, 32, none⟩ = some (.slice ua bs.length uc)) := fun w' hb => by
        rw [((HB9.out.grow (below_drewN (Below.refl _ _) 1)).grow hb).cell, List.getElem?_toArray, encP, List.getElem?_append_right (by simp [HK32.out])]
        simp [HK32.out]
      have d4 : Below wr.heap.size wr w4.drew := grow_trans HQ4.out (below_drewN (Below.refl _ _) 1)
      have HWZ : Hid (wb.heap.size ≤ w4.drew.heap.size) := (grow_trans hBw.out d4).size
      have HBz : Hid (∀ z, Below wr.heap.size wr z → Below wb.heap.size wb z) := fun z hz => grow_trans hBw.out hz
      refine wpIn_region_any (by kernel_rfl) ?_
      refine wpAnyIn_take (i := 0) (v := .func (.yield l) #[] #[]) rfl rfl (by kernel_rfl) (by kernel_rfl) (by kernel_rfl) (fun _ _ _ h => h) ⟨Or.inl ⟨by rfl, fun w => by go_simp⟩, fun _ => rfl⟩ ?_
      simp only [Act.put, zq1, zq2, zq4, zq5, zq6]
      refine wpAnyIn_take (i := 1) (v := .pointer (some ⟨g4, 0, none⟩)) rfl rfl (by kernel_rfl) (by kernel_rfl) (by kernel_rfl) (fun _ _ _ h => h) ⟨Or.inl ⟨by rfl, fun w => by go_simp⟩, fun _ => rfl⟩ ?_
      simp only [Act.put, zq1, zq2, zq3, zq4, zq5, zq6]
      refine wpAnyIn_take (i := 3) (v := .pointer (some ⟨g4, 32, none⟩)) rfl rfl (by kernel_rfl) (by kernel_rfl) (by kernel_rfl) (fun _ _ _ h => h) ⟨Or.inl ⟨by rfl, fun w => by go_simp⟩, fun _ => rfl⟩ ?_
      simp only [Act.put, zq1, zq2, zq3, zq4, zq5, zq6]
      refine wpAnyIn_ready (rs := [2, 4]) (by kernel_rfl) (by simp) ?_
      refine readyIn (.inl rfl) rfl (fun c e => by cases e) (fun KQ hK => ?_) (readyIn (.inl rfl) rfl (fun c e => by cases e) (fun KQ hK => ?_) AllReadyIn.nil)
      · refine step_ldm _ rfl 23 (.tmp 12) rfl g4 0 rfl (B K).toList (HR4.out _ (Below.refl _ _)) _ Tryz.underlying23 rfl HKL.out ?_
        refine hK _ _ ?_
        clear hK KQ
        rw [show (B K).toList.toArray = B K from Array.toArray_toList]
        try simp only [Act.put, zq1, zq2, zq3, zq4, zq5, zq6]
        refine wpAnyIn_ready (rs := [4]) (by kernel_rfl) (by simp) ?_
        refine readyIn (.inl rfl) rfl (fun c e => by cases e) (fun KQ hK => ?_) AllReadyIn.nil
        have c33 := HC33.out _ (Below.refl _ _)
        go_simp
        refine hK _ _ ?_
        clear hK KQ c33
        try simp only [Act.put, zq1, zq2, zq3, zq4, zq5, zq6]
        refine wpAnyIn_ready (rs := [5]) (by kernel_rfl) (by simp) ?_
        refine readyIn (.inl rfl) rfl (fun c e => by cases e) (fun KQ hK => ?_) AllReadyIn.nil
        go_simp
        refine (HCL.out _ d4).mono ?_
        rintro e z ⟨u, sp, rfl, ow, az⟩
        have d5 := grow_trans d4 az
        refine hK _ _ ?_
        clear hK KQ
        try simp only [Act.put, zq1, zq2, zq3, zq4, zq5, zq6]
        obtain ⟨fn, tmps, assign, body, hy, hR⟩ := HY.out pre ((K, bs), u) z (HJ.out _ _ _ hJs.out d5) ⟨HEK.out, sp, ow.mono HWZ.out⟩ HLN.out
        dsimp only at hy
        refine wpAnyIn_ready (rs := [6]) (by kernel_rfl) (by simp) ?_
        refine AllReadyIn.cons rfl (fun KQ hK => ?_) AllReadyIn.nil
        go_simp
        refine hR.mono ?_
        rintro e W3 (⟨rfl, hJ3, hb3⟩ | ⟨rfl, hJx3⟩)
        · refine hK _ _ ?_
          clear hK KQ
          have HX3 := hidden (show J (pre ++ [((K, bs), u)]) W3 ∧ Below wb.heap.size wb W3 from ⟨hJ3, (HBz.out _ d5).trans hb3⟩)
          clear hJ3 hb3 hR hy
          refine wpAnyIn_take (i := 7) (v := .bool false) rfl rfl (by kernel_rfl) (by kernel_rfl) (by kernel_rfl) (fun _ _ _ h => h) ⟨Or.inl ⟨by rfl, fun w => by go_simp⟩, fun _ => rfl⟩ ?_
          simp only [Act.put, zq1, zq2, zq3, zq4, zq5, zq6]
          refine wpAnyIn_done (by kernel_rfl) ?_ _
          gi_wp2
          go_roundw
          case rel => exact ⟨k + 1, pre ++ [((K, bs), u)], by omega, by first | rfl | go_num, by rw [List.length_append, List.length_singleton, hpl], by show _ = _; rw [List.map_append, hpm.out, List.take_add_one, HEKk.out]; rfl, HX3.out.1, HX3.out.2⟩
          case measure => simp [intOf]; omega
        · refine hK _ _ ?_
          clear hK KQ hR hy
          refine wpAnyIn_take (i := 7) (v := .bool true) rfl rfl (by kernel_rfl) (by kernel_rfl) (by kernel_rfl) (fun _ _ _ h => h) ⟨Or.inl ⟨by rfl, fun w => by go_simp⟩, fun _ => rfl⟩ ?_
          simp only [Act.put, zq1, zq2, zq3, zq4, zq5, zq6]
          refine wpAnyIn_done (by kernel_rfl) ?_ _
          gi_wp2
          refine bodyPost_ret (results_none rfl _ _ _) rfl ?_
          refine ⟨⟨_, rfl⟩, .inr ⟨_, ?_, hJx3⟩⟩
          rw [List.map_append, hpm.out]
          exact HPX.out
      · have c33 := HC33.out _ (Below.refl _ _)
        go_simp
        refine hK _ _ ?_
        clear hK KQ c33
        try simp only [Act.put, zq1, zq2, zq3, zq4, zq5, zq6]
        refine wpAnyIn_ready (rs := [2, 5]) (by kernel_rfl) (by simp) ?_
        refine readyIn (.inl rfl) rfl (fun c e => by cases e) (fun KQ hK => ?_) (readyIn (.inl rfl) rfl (fun c e => by cases e) (fun KQ hK => ?_) AllReadyIn.nil)
        · refine step_ldm _ rfl 23 (.tmp 12) rfl g4 0 rfl (B K).toList (HR4.out _ (Below.refl _ _)) _ Tryz.underlying23 rfl HKL.out ?_
          refine hK _ _ ?_
          clear hK KQ
          rw [show (B K).toList.toArray = B K from Array.toArray_toList]
          try simp only [Act.put, zq1, zq2, zq3, zq4, zq5, zq6]
          refine wpAnyIn_ready (rs := [5]) (by kernel_rfl) (by simp) ?_
          refine readyIn (.inl rfl) rfl (fun c e => by cases e) (fun KQ hK => ?_) AllReadyIn.nil
          go_simp
          refine (HCL.out _ d4).mono ?_
          rintro e z ⟨u, sp, rfl, ow, az⟩
          have d5 := grow_trans d4 az
          refine hK _ _ ?_
          clear hK KQ
          try simp only [Act.put, zq1, zq2, zq3, zq4, zq5, zq6]
          obtain ⟨fn, tmps, assign, body, hy, hR⟩ := HY.out pre ((K, bs), u) z (HJ.out _ _ _ hJs.out d5) ⟨HEK.out, sp, ow.mono HWZ.out⟩ HLN.out
          dsimp only at hy
          refine wpAnyIn_ready (rs := [6]) (by kernel_rfl) (by simp) ?_
          refine AllReadyIn.cons rfl (fun KQ hK => ?_) AllReadyIn.nil
          go_simp
          refine hR.mono ?_
          rintro e W3 (⟨rfl, hJ3, hb3⟩ | ⟨rfl, hJx3⟩)
          · refine hK _ _ ?_
            clear hK KQ
            have HX3 := hidden (show J (pre ++ [((K, bs), u)]) W3 ∧ Below wb.heap.size wb W3 from ⟨hJ3, (HBz.out _ d5).trans hb3⟩)
            clear hJ3 hb3 hR hy
            refine wpAnyIn_take (i := 7) (v := .bool false) rfl rfl (by kernel_rfl) (by kernel_rfl) (by kernel_rfl) (fun _ _ _ h => h) ⟨Or.inl ⟨by rfl, fun w => by go_simp⟩, fun _ => rfl⟩ ?_
            simp only [Act.put, zq1, zq2, zq3, zq4, zq5, zq6]
            refine wpAnyIn_done (by kernel_rfl) ?_ _
            gi_wp2
            go_roundw
            case rel => exact ⟨k + 1, pre ++ [((K, bs), u)], by omega, by first | rfl | go_num, by rw [List.length_append, List.length_singleton, hpl], by show _ = _; rw [List.map_append, hpm.out, List.take_add_one, HEKk.out]; rfl, HX3.out.1, HX3.out.2⟩
            case measure => simp [intOf]; omega
          · refine hK _ _ ?_
            clear hK KQ hR hy
            refine wpAnyIn_take (i := 7) (v := .bool true) rfl rfl (by kernel_rfl) (by kernel_rfl) (by kernel_rfl) (fun _ _ _ h => h) ⟨Or.inl ⟨by rfl, fun w => by go_simp⟩, fun _ => rfl⟩ ?_
            simp only [Act.put, zq1, zq2, zq3, zq4, zq5, zq6]
            refine wpAnyIn_done (by kernel_rfl) ?_ _
            gi_wp2
            refine bodyPost_ret (results_none rfl _ _ _) rfl ?_
            refine ⟨⟨_, rfl⟩, .inr ⟨_, ?_, hJx3⟩⟩
            rw [List.map_append, hpm.out]
            exact HPX.out
        · go_simp
          refine (HCL.out _ d4).mono ?_
          rintro e z ⟨u, sp, rfl, ow, az⟩
          have d5 := grow_trans d4 az
          refine hK _ _ ?_
          clear hK KQ
          try simp only [Act.put, zq1, zq2, zq3, zq4, zq5, zq6]
          refine wpAnyIn_ready (rs := [2]) (by kernel_rfl) (by simp) ?_
          refine readyIn (.inl rfl) rfl (fun c e => by cases e) (fun KQ hK => ?_) AllReadyIn.nil
          refine step_ldm _ rfl 23 (.tmp 12) rfl g4 0 rfl (B K).toList (HR4.out _ (az)) _ Tryz.underlying23 rfl HKL.out ?_
          refine hK _ _ ?_
          clear hK KQ
          rw [show (B K).toList.toArray = B K from Array.toArray_toList]
          try simp only [Act.put, zq1, zq2, zq3, zq4, zq5, zq6]
          obtain ⟨fn, tmps, assign, body, hy, hR⟩ := HY.out pre ((K, bs), u) z (HJ.out _ _ _ hJs.out d5) ⟨HEK.out, sp, ow.mono HWZ.out⟩ HLN.out
          dsimp only at hy
          refine wpAnyIn_ready (rs := [6]) (by kernel_rfl) (by simp) ?_
          refine AllReadyIn.cons rfl (fun KQ hK => ?_) AllReadyIn.nil
          go_simp
          refine hR.mono ?_
          rintro e W3 (⟨rfl, hJ3, hb3⟩ | ⟨rfl, hJx3⟩)
          · refine hK _ _ ?_
            clear hK KQ
            have HX3 := hidden (show J (pre ++ [((K, bs), u)]) W3 ∧ Below wb.heap.size wb W3 from ⟨hJ3, (HBz.out _ d5).trans hb3⟩)
            clear hJ3 hb3 hR hy
            refine wpAnyIn_take (i := 7) (v := .bool false) rfl rfl (by kernel_rfl) (by kernel_rfl) (by kernel_rfl) (fun _ _ _ h => h) ⟨Or.inl ⟨by rfl, fun w => by go_simp⟩, fun _ => rfl⟩ ?_
            simp only [Act.put, zq1, zq2, zq3, zq4, zq5, zq6]
            refine wpAnyIn_done (by kernel_rfl) ?_ _
            gi_wp2
            go_roundw
            case rel => exact ⟨k + 1, pre ++ [((K, bs), u)], by omega, by first | rfl | go_num, by rw [List.length_append, List.length_singleton, hpl], by show _ = _; rw [List.map_append, hpm.out, List.take_add_one, HEKk.out]; rfl, HX3.out.1, HX3.out.2⟩
            case measure => simp [intOf]; omega
          · refine hK _ _ ?_
            clear hK KQ hR hy
            refine wpAnyIn_take (i := 7) (v := .bool true) rfl rfl (by kernel_rfl) (by kernel_rfl) (by kernel_rfl) (fun _ _ _ h => h) ⟨Or.inl ⟨by rfl, fun w => by go_simp⟩, fun _ => rfl⟩ ?_
            simp only [Act.put, zq1, zq2, zq3, zq4, zq5, zq6]
            refine wpAnyIn_done (by kernel_rfl) ?_ _
            gi_wp2
            refine bodyPost_ret (results_none rfl _ _ _) rfl ?_
            refine ⟨⟨_, rfl⟩, .inr ⟨_, ?_, hJx3⟩⟩
            rw [List.map_append, hpm.out]
            exact HPX.out
    · obtain rfl : k = m := by omega
      have HP : Hid (pre.map (·.1) = es) := by
        have := hpm.out
        rw [List.take_of_length_le (by rw [← HM.out]; omega)] at this
        exact this
      gi_wp2
      go_end0
      exact ⟨⟨_, rfl⟩, .inl ⟨_, HP.out, hJs.out⟩⟩

end Go.Proofs.YtlhnodinhmdjnaaGreatDoor

namespace Go.Proofs.YtlhnodinhmdjnaaGreatDoor
set_option maxRecDepth 20000
open Go.RowKit Go.Shelf

attribute [local go_sem] Oper.semAt_some

theorem region_heldIn {F : Fence} (hF : Wide F) {n : Nat} {P : Program} {id : Nat} {ops : Array Oper} {Q : Exit → Act → World → Prop} {S : World → Prop} {a : Act} {w : World} (hm : P.follows .mixedOrders = true) (hd : (ops.all fun o => match o.op with | .defer _ => false | _ => true) = true) (hS : S w.drew)
    (h : S w.drew → wpAnyH P .any ops (fun e a' w' => e = .normal ∧ Q .normal a' w') S ops.size (Array.replicate ops.size false) a w.drew) : (Code.region id ops true).wpIn F n P Q a w :=
  drawIn hF hm hd (wpAny_of_held _ _ _ _ (h hS))

theorem eql13_fn (w : World) (fn : Fn) (x y : Array Value) : (binOp .eql 46 (.func fn x y) .nilFunc).run Tryz.prog w = .ok (.bool false) w := by
  have h : ∀ d : Nat, (Op.equalIn (d + 1) 46 (.func fn x y) .nilFunc).run Tryz.prog w = .ok false w := fun d => by
    simp [Op.equalIn, run_underlying Tryz.underlying46]
  simp only [binOp]
  simp [Op.equal, Op.maxDepth, h 9999]

theorem blk_own {A B' : World} {row : Option Nat} {k : Nat} {t : TypeId} {c : Array Value} (h : Blk A k t c) (hg : A.grownBy B' row) (hr : ∀ r, row = some r → ∃ o : Obj, A.heap[r]? = some o ∧ o.isCells = false) : B'.heap[k]? = A.heap[k]? := hg.block k h.lt (fun e => by
  obtain ⟨o, ho, hc⟩ := hr k e.symm
  unfold Blk at h
  rw [ho] at h
  injection h with h
  rw [h] at hc
  cases hc)

structure GoI (w : World) (want : Value) (stop : Int) (k : Nat) (W : World) : Prop where
  low : Below w.heap.size w W
  bw : Blk W w.heap.size 41 #[want]
  bs : Blk W (w.heap.size + 1) 3 #[.int .i64 stop]
  br : Blk W (w.heap.size + 1 + 1) 4 #[.bool false]
  bn : Blk W (w.heap.size + 1 + 1 + 1) 3 #[.int .i64 (k : Int)]
theorem GoI.grow {w : World} {want : Value} {stop : Int} {k : Nat} {A A' : World} (h : GoI w want stop k A) (hb : Below A.heap.size A A') : GoI w want stop k A' := ⟨grow_trans h.low hb, h.bw.grow hb, h.bs.grow hb, h.br.grow hb, h.bn.grow hb⟩
theorem GoI.own {w : World} {want : Value} {stop : Int} {k B0 : Nat} (hB : w.heap.size ≤ B0) {A A' : World} {row : Option Nat} (h : GoI w want stop k A) (hg : A.grownBy A' row) (hr : ∀ r, row = some r → B0 ≤ r ∧ ∃ o : Obj, A.heap[r]? = some o ∧ o.isCells = false) : GoI w want stop k A' :=
  ⟨ownFrom_below (β := Unit) (Nat.le_refl _) hB () A A' row h.low hg hr, h.bw.of_block (blk_own h.bw hg (fun r e => (hr r e).2)), h.bs.of_block (blk_own h.bs hg (fun r e => (hr r e).2)), h.br.of_block (blk_own h.br hg (fun r e => (hr r e).2)), h.bn.of_block (blk_own h.bn hg (fun r e => (hr r e).2))⟩

def goFr (w : World) (fv want : Value) (stop : Int) (bk : Nat) (K : List Int) (u : Value) : Act := { tmps := #[fv, want, Value.int IntKind.i64 stop, undef, Value.pointer (some { block := w.heap.size, off := 0 }), Value.pointer (some { block := w.heap.size + 1, off := 0 }), Value.pointer (some { block := w.heap.size + 1 + 1, off := 0 }), Value.pointer (some { block := w.heap.size + 1 + 1 + 1, off := 0 }), Value.pointer (some { block := bk, off := 0 }), u, fv, Value.bool false, fv, Value.agg (B K), u, undef, undef, undef, undef, undef, undef, undef, undef, undef, undef, undef, undef, undef, undef, undef, undef, undef, undef, undef, undef, undef, undef, undef, undef, undef, undef, undef, undef, undef, undef, undef, undef, undef, undef], defers := [] }

set_option maxRecDepth 100000 in
set_option maxHeartbeats 8000000 in
theorem gone13_any {w : World} {b : Nat} {es : List Ent} (hO : OvAt w b es) (h6 : es.length ≤ 4096) (hbs : ∀ e ∈ es, e.2.length ≤ 65536) (a : Option Addr) (c : Nat) (V : Nat → Value) (hw : PrAt w (.slice a es.length c) V es) (stop : Int) :
    Calls Tryz.prog 14 #[.func (.func 82) #[] #[.pointer (some ⟨b, 0, none⟩)], .slice a es.length c, .int .i64 stop] w fun e w' => e = .returned (.bool true) ∧ Below w.heap.size w w' := by
  refine (callsIn_wide (n := 4)).1 ?_
  have HSQ : Hid (∀ (n : Nat), 1 ≤ n → ∀ w2, Below w.heap.size w w2 → SeqY Fence.wide n Tryz.prog 82 #[.pointer (some ⟨b, 0, none⟩)] (fun x : Ent × Value => #[Value.agg (B x.1.1), x.2]) (NextE w.heap.size es) w.heap.size (fun xs => xs.map (·.1) = es) (fun pre => pre.map (·.1) <+: es) es.length w2) := fun n hn w2 hb l J Jx W hW hJ hY h0 => ov1_in hO h6 hbs n hn l J Jx W (grow_trans hb hW) hJ hY h0
  obtain ⟨m, hm⟩ : ∃ m, m = es.length := ⟨_, rfl⟩
  have HM := hidden hm
  rw [← hm] at hw
  rw [← hm]
  have HW : Hid (∀ k, k < m → ∃ g off va vc K bs, a = some ⟨g, off, none⟩ ∧ es[k]? = some (K, bs) ∧ w.rangeAt g (off + k * 33) (encP K (.slice va bs.length vc)) ∧ Key K ∧ Reads w (.slice va bs.length vc) bs) := fun k hk => by
    rw [hm] at hk
    obtain ⟨a', c', e, _, h2, h3⟩ := hw
    injection e with e1 _ _
    subst e1
    obtain ⟨g, off, ea, hr⟩ := h2 (by omega)
    have h4 := hr k hk
    obtain ⟨hk1, hk2⟩ := h3 k hk
    rw [List.getD_eq_getElem?_getD, List.getElem?_eq_getElem hk, Option.getD_some] at h4 hk1 hk2
    obtain ⟨ua, uc, eV⟩ := reads_sl hk2
    rw [eV] at h4 hk2
    exact ⟨g, off, ua, uc, es[k].1, es[k].2, ea, by rw [List.getElem?_eq_getElem hk], h4, hk1, hk2⟩
  have H6 : Hid (m ≤ 4096) := by rw [hm]; exact h6
  clear hO h6 hbs hw hm
  refine callsIn_of_wp_marks Tryz.func14 rfl trivial ?_ rfl
  simp only [Tryz.ntmps14, List.size_toArray, List.length_cons, List.length_nil, Nat.reduceAdd, Nat.reduceSub, Array.replicate_succ, Array.replicate_zero, List.push_toArray, List.append_toArray, List.nil_append, List.cons_append]
  have hfn := eql13_fn
  gi_wp2
  obtain ⟨wA, hwA⟩ : ∃ x, x = (((w.alloc (.cells #[Value.slice a m c] 41)).alloc (.cells #[Value.int .i64 stop] 3)).alloc (.cells #[Value.bool false] 4)).alloc (.cells #[Value.int .i64 0] 3) := ⟨_, rfl⟩
  have hA0 : GoI w (.slice a m c) stop 0 wA ∧ wA.heap.size = w.heap.size + 4 := by
    have k1 := (((Blk.new w 41 #[Value.slice a m c]).grow (grow_alloc _ (.cells #[Value.int .i64 stop] 3))).grow (grow_alloc _ (.cells #[Value.bool false] 4))).grow (grow_alloc _ (.cells #[Value.int .i64 0] 3))
    have k2 := ((Blk.new (w.alloc (.cells #[Value.slice a m c] 41)) 3 #[Value.int .i64 stop]).grow (grow_alloc _ (.cells #[Value.bool false] 4))).grow (grow_alloc _ (.cells #[Value.int .i64 0] 3))
    have k3 := (Blk.new ((w.alloc (.cells #[Value.slice a m c] 41)).alloc (.cells #[Value.int .i64 stop] 3)) 4 #[Value.bool false]).grow (grow_alloc _ (.cells #[Value.int .i64 0] 3))
    have k4 := Blk.new (((w.alloc (.cells #[Value.slice a m c] 41)).alloc (.cells #[Value.int .i64 stop] 3)).alloc (.cells #[Value.bool false] 4)) 3 #[Value.int .i64 0]
    simp only [World.size_alloc] at k2 k3 k4
    rw [← hwA] at k1 k2 k3 k4
    refine ⟨⟨?_, k1, k2, k3, k4⟩, by rw [hwA]; simp⟩
    rw [hwA]
    exact grow_trans (grow_trans (grow_trans (grow_alloc _ _) (grow_alloc _ _)) (grow_alloc _ _)) (grow_alloc _ _)
  have hsA := hA0.2
  have hlA := hA0.1.low
  rw [← hwA]
  refine wpIn_rangeY rfl (by omega) (gf := 82) (lb := #[.pointer (some ⟨b, 0, none⟩)]) rfl trivial (enters_of Tryz.func82 (by kernel_rfl) rfl) (HSQ.out (4 - 1) (by omega) wA hlA) (by omega) (Below.refl _ _) (fun _ => rfl)
    (fun pre W => GoI w (.slice a m c) stop pre.length W ∧ pre.length ≤ m)
    (fun cc _ W => cc = .ret ∧ Blk W (w.heap.size + 1 + 1) 4 #[.bool true] ∧ Below w.heap.size w W)
    (fun pre x a' W => ∃ bk, a' = goFr w (.func (.func 82) #[] #[.pointer (some ⟨b, 0, none⟩)]) (.slice a m c) stop bk x.1.1 x.2 ∧ GoI w (.slice a m c) stop pre.length W ∧ Blk W bk 23 (B x.1.1) ∧ NextE w.heap.size es pre x W ∧ pre.length < m)
    (fun s A A' h hb => ⟨h.1.grow hb, h.2⟩) (fun s A A' row h hg hr => ⟨h.1.own (by omega) hg hr, h.2⟩)
    (fun cc s A A' row h hg hr => ⟨h.1, h.2.1.of_block (blk_own h.2.1 hg (fun r e => (hr r e).2)), ownFrom_below (β := Unit) (Nat.le_refl _) (show w.heap.size ≤ wA.heap.size by omega) () A A' row h.2.2 hg hr⟩)
    (fun pre x a' s A A' row h hg hr => by
      obtain ⟨bk, q1, q2, q3, ⟨q4, sp, q5⟩, q6⟩ := h
      refine ⟨bk, q1, q2.own (by omega) hg hr, q3.of_block (blk_own q3 hg (fun r e => (hr r e).2)), ⟨q4, sp, q5.of_block (fun k hk => ?_)⟩, q6⟩
      obtain ⟨cs, hb⟩ := q5.blk k hk
      exact blk_own hb hg (fun r e => (hr r e).2))
    ⟨hA0.1, Nat.zero_le _⟩ ?assign ?body ?done ?stop
  case assign =>
    clear hsA hA0 hlA
    rintro l pre x A ⟨hG, _⟩ hx hlt
    have HKL : Hid (Key x.1.1) := by
      obtain ⟨g, off, va, vc, K, bs, _, e, _, hK, _⟩ := HW.out pre.length (by rw [HM.out]; exact hlt)
      rw [hx.1] at e
      injection e with e
      rw [e]
      exact hK
    have HPS := hidden (keyB_size HKL.out)
    have HS2 : Hid ((B (List.replicate 32 0)).size = (B x.1.1).size) := by
      show _ = _
      rw [B_size, B_size, HKL.out.1]
      rfl
    have HG := hidden hG
    have HX := hidden hx
    have HLT : Hid (pre.length < m) := by rw [HM.out]; exact hlt
    clear hG hx hlt
    simp only [List.zipWith_toArray, Array.zip, List.foldl_toArray', List.size_toArray]
    gi_wp2_with (first
      | (refine inList (.inr ⟨l, rfl⟩) (fun c e => by cases e) (wpList_al _ rfl _ rfl _ zero_path (fun w2 g8 hg8 hl8 B8 b2 => ⟨rfl, ?_⟩)); have HG8 := hidden hg8; have HB8 := hidden B8; have HQ2 := hidden b2; clear hg8 hl8 B8 b2)
      | (refine inList (.inr ⟨l, rfl⟩) (fun c e => by cases e) (wpList_sto _ rfl _ _ _ rfl g8 _ (B x.1.1) rfl rfl HB8.out HPS.out HS2.out (B_one _) (fun w4 B9 r9 => ⟨rfl, ?_⟩)); have HB9 := hidden B9; have HQ4 := hidden (below_row HQ2.out r9 HG8.out); clear B9 r9))
    refine ⟨⟨HQ4.out.size, fun k o _ hk _ => (HQ4.out.block k (Array.getElem?_eq_some_iff.1 hk).1).trans hk⟩, HQ4.out.mono HG.out.low.size, g8, rfl, HG.out.grow HQ4.out, HB9.out, ⟨HX.out.1, ?_⟩, HLT.out⟩
    obtain ⟨sp, ho⟩ := HX.out.2
    exact ⟨sp, ho.grow HQ4.out⟩
  case body =>
    clear hsA hA0 hlA
    rintro l pre ⟨⟨K, bs⟩, u⟩ a' A ⟨bk, rfl, hG, hKB, ⟨hex, sp, ho⟩, hlt⟩
    dsimp only at hKB hex ho
    obtain ⟨g, off, va, vc, K', bs', rfl, hek, hrg, hK, hrd⟩ := HW.out pre.length hlt
    rw [hex] at hek
    injection hek with hek
    injection hek with e1 e2
    subst e1
    subst e2
    obtain ⟨ua, uc, rfl⟩ := ho.slice
    obtain ⟨k, hk⟩ : ∃ k, k = pre.length := ⟨_, rfl⟩
    rw [← hk] at hG hrg hlt
    have HKE := hidden hk
    have HG := hidden hG
    have HKL := hidden (pth_ln K hK.1)
    have HKB := hidden hKB
    have HC : Hid (∀ w', Below A.heap.size A w' → w'.cell? ⟨w.heap.size, 0, none⟩ = some (.slice (some ⟨g, off, none⟩) m c) ∧ w'.cell? ⟨w.heap.size + 1, 0, none⟩ = some (.int .i64 stop) ∧ w'.cell? ⟨w.heap.size + 1 + 1, 0, none⟩ = some (.bool false) ∧ w'.cell? ⟨w.heap.size + 1 + 1 + 1, 0, none⟩ = some (.int .i64 (k : Int)) ∧ True) := fun w' hb => by
      have h := HG.out.grow hb
      exact ⟨by rw [h.bw.cell]; rfl, by rw [h.bs.cell]; rfl, by rw [h.br.cell]; rfl, by rw [h.bn.cell]; rfl, trivial⟩
    have hrA := rng_grow hrg hG.low
    have HR1 : Hid (∀ w', Below A.heap.size A w' → w'.rangeAt g (off + k * 33) (B K).toList) := fun w' hb j v hv => rng_grow hrA hb j v (by
      rw [B_toList] at hv
      have hj : j < K.length := by
        have := (List.getElem?_eq_some_iff.1 hv).1
        simpa using this
      rw [encP, List.getElem?_append_left (by simpa using hj)]
      exact hv)
    have HR2 : Hid (∀ w', Below A.heap.size A w' → w'.cell? ⟨g, off + k * 33 + 32, none⟩ = some (.slice va bs.length vc)) := fun w' hb => rng_grow hrA hb 32 _ (by
      rw [encP, List.getElem?_append_right (by simp [hK.1])]
      simp [hK.1])
    have HSM : Hid (∀ w', Below A.heap.size A w' → Calls Tryz.prog 49 #[.slice ua bs.length uc, .slice va bs.length vc] w' fun e w'' => e = .returned (.bool true) ∧ w'' = w') := fun w' hb => by
      have := same_any (.slice ua bs.length uc) (.slice va bs.length vc) bs bs w' (ho.reads.grow hb) ((hrd.grow hG.low).grow hb)
      simpa using this
    have HOV : Hid (∀ w', Below A.heap.size A w' → Calls Tryz.prog 50 #[.slice ua bs.length uc] w' fun e w'' => e = .returned (.tuple #[]) ∧ w'.grownBy w'' (Value.slice ua bs.length uc).ownBlock) := fun w' hb => (over_own w.heap.size _ bs sp w' (ho.grow hb)).mono (fun e w'' h => ⟨h.1, h.2.2.1⟩)
    have HUB : Hid (∀ x t cs, Blk A x t cs → (5 : Nat) ≠ t → x ∉ (Value.slice ua bs.length uc).ownBlock.toList) := fun x t cs hb ht hx => by
      obtain ⟨cs', hb'⟩ := ho.blk x (by simpa using hx)
      exact hb'.ne hb ht rfl
    have HUY : Hid (∀ x ∈ (Value.slice ua bs.length uc).ownBlock.toList, ∃ t cs, Blk A x t cs) := fun x hx => by
      obtain ⟨cs', hb'⟩ := ho.blk x (by simpa using hx)
      exact ⟨_, _, hb'⟩
    have HUG : Hid (∀ x ∈ (Value.slice ua bs.length uc).ownBlock.toList, w.heap.size ≤ x) := fun x hx => (ho.lt x (by simpa using hx)).1
    have hE := path_eq K K hK.1 hK.1
    simp only [decide_true] at hE
    have i1 : (k : Int) < (m : Int) := by omega
    have i0 : (0 : Int) ≤ (k : Int) := by omega
    have hmk : decide (m ≤ k) = false := by simpa using hlt
    have hmk2 : ¬ m ≤ k := by omega
    have hwk : wrap64 ((k : Int) + 1) = (k : Int) + 1 := Go.IntWalk.wrap64_in _ (by have := H6.out; omega)
    have HLM := hidden hlt
    clear hex hG hKB ho hrg hrd hrA hK hlt hk
    unfold goFr
    gi_wp2
    refine region_heldIn (.inr ⟨l, rfl⟩) (S := fun w' => Below A.heap.size A w') (by kernel_rfl) (by kernel_rfl) (below_drewN (Below.refl _ _) 1) (fun hHeld => ?_)
    refine wpAnyH_take (i := 0) (v := .int .i64 (k : Int)) rfl (by kernel_rfl) (by kernel_rfl) (by kernel_rfl) (fun _ _ _ h => absurd h.1 (by simp)) (Or.inl ⟨by rfl, fun w hS => by (have q1 := (HC.out _ hS).2.2.2.1; go_simp)⟩) hHeld ?_
    simp only [Act.put, zq1, zq2, zq4, zq5, zq6]
    refine wpAnyH_take (i := 1) (v := .slice (some ⟨g, off, none⟩) m c) rfl (by kernel_rfl) (by kernel_rfl) (by kernel_rfl) (fun _ _ _ h => absurd h.1 (by simp)) (Or.inl ⟨by rfl, fun w hS => by (have q1 := (HC.out _ hS).1; go_simp)⟩) hHeld ?_
    simp only [Act.put, zq1, zq2, zq3, zq4, zq5, zq6]
    refine wpAnyH_take (i := 2) (v := .int .i64 (m : Int)) rfl (by kernel_rfl) (by kernel_rfl) (by kernel_rfl) (fun _ _ _ h => absurd h.1 (by simp)) (Or.inl ⟨by rfl, fun w hS => by go_simp⟩) hHeld ?_
    simp only [Act.put, zq1, zq2, zq3, zq4, zq5, zq6]
    refine wpAnyH_take (i := 3) (v := .bool false) rfl (by kernel_rfl) (by kernel_rfl) (by kernel_rfl) (fun _ _ _ h => absurd h.1 (by simp)) (Or.inl ⟨by rfl, fun w hS => by go_simp⟩) hHeld ?_
    simp only [Act.put, zq1, zq2, zq3, zq4, zq5, zq6]
    refine wpAnyH_take (i := 4) (v := .bool false) rfl (by kernel_rfl) (by kernel_rfl) (by kernel_rfl) (fun _ _ _ h => absurd h.1 (by simp)) (Or.inl ⟨by rfl, fun w hS => by go_simp⟩) hHeld ?_
    simp only [Act.put, zq1, zq2, zq3, zq4, zq5, zq6]
    refine wpAnyH_take (i := 5) (v := .agg (B K)) rfl (by kernel_rfl) (by kernel_rfl) (by kernel_rfl) (fun _ _ _ h => absurd h.1 (by simp)) (yieldsIf_load_mid rfl 23 (.tmp 8) rfl bk 0 rfl (B K).toList _ (fun w hS => (HKB.out.grow hS).range) Tryz.underlying23 rfl HKL.out) hHeld ?_
    simp only [Act.put, zq1, zq2, zq3, zq4, zq5, zq6]
    refine wpAnyH_take (i := 6) (v := .slice (some ⟨g, off, none⟩) m c) rfl (by kernel_rfl) (by kernel_rfl) (by kernel_rfl) (fun _ _ _ h => absurd h.1 (by simp)) (Or.inl ⟨by rfl, fun w hS => by (have q1 := (HC.out _ hS).1; go_simp)⟩) hHeld ?_
    simp only [Act.put, zq1, zq2, zq3, zq4, zq5, zq6]
    refine wpAnyH_take (i := 7) (v := .int .i64 (k : Int)) rfl (by kernel_rfl) (by kernel_rfl) (by kernel_rfl) (fun _ _ _ h => absurd h.1 (by simp)) (Or.inl ⟨by rfl, fun w hS => by (have q1 := (HC.out _ hS).2.2.2.1; go_simp)⟩) hHeld ?_
    simp only [Act.put, zq1, zq2, zq3, zq4, zq5, zq6]
    refine wpAnyH_take (i := 8) (v := .pointer (some ⟨g, off + k * 33, none⟩)) rfl (by kernel_rfl) (by kernel_rfl) (by kernel_rfl) (fun _ _ _ h => absurd h.1 (by simp)) (Or.inl ⟨by rfl, fun w hS => by go_simp⟩) hHeld ?_
    simp only [Act.put, zq1, zq2, zq3, zq4, zq5, zq6]
    refine wpAnyH_take (i := 9) (v := .pointer (some ⟨g, off + k * 33, none⟩)) rfl (by kernel_rfl) (by kernel_rfl) (by kernel_rfl) (fun _ _ _ h => absurd h.1 (by simp)) (Or.inl ⟨by rfl, fun w hS => by go_simp⟩) hHeld ?_
    simp only [Act.put, zq1, zq2, zq3, zq4, zq5, zq6]
    refine wpAnyH_take (i := 10) (v := .agg (B K)) rfl (by kernel_rfl) (by kernel_rfl) (by kernel_rfl) (fun _ _ _ h => absurd h.1 (by simp)) (yieldsIf_load_mid rfl 23 (.tmp 24) rfl g (off + k * 33) rfl (B K).toList _ (fun w hS => HR1.out _ hS) Tryz.underlying23 rfl HKL.out) hHeld ?_
    simp only [Act.put, zq1, zq2, zq3, zq4, zq5, zq6]
    refine wpAnyH_take (i := 11) (v := .bool false) rfl (by kernel_rfl) (by kernel_rfl) (by kernel_rfl) (fun _ _ _ h => absurd h.1 (by simp)) (Or.inl ⟨by rfl, fun w hS => by go_simp⟩) hHeld ?_
    simp only [Act.put, zq1, zq2, zq3, zq4, zq5, zq6]
    refine wpAnyH_take (i := 12) (v := .bool false) rfl (by kernel_rfl) (by kernel_rfl) (by kernel_rfl) (fun _ _ _ h => absurd h.1 (by simp)) (Or.inl ⟨by rfl, fun w hS => by go_simp⟩) hHeld ?_
    simp only [Act.put, zq1, zq2, zq3, zq4, zq5, zq6]
    refine wpAnyH_take (i := 13) (v := .bool false) rfl (by kernel_rfl) (by kernel_rfl) (by kernel_rfl) (fun _ _ _ h => absurd h.1 (by simp)) (Or.inl ⟨by rfl, fun w hS => by go_simp⟩) hHeld ?_
    simp only [Act.put, zq1, zq2, zq3, zq4, zq5, zq6]
    refine wpAnyH_take (i := 14) (v := .slice ua bs.length uc) rfl (by kernel_rfl) (by kernel_rfl) (by kernel_rfl) (fun _ _ _ h => absurd h.1 (by simp)) (Or.inl ⟨by rfl, fun w hS => by go_simp⟩) hHeld ?_
    simp only [Act.put, zq1, zq2, zq3, zq4, zq5, zq6]
    refine wpAnyH_take (i := 15) (v := .slice (some ⟨g, off, none⟩) m c) rfl (by kernel_rfl) (by kernel_rfl) (by kernel_rfl) (fun _ _ _ h => absurd h.1 (by simp)) (Or.inl ⟨by rfl, fun w hS => by (have q1 := (HC.out _ hS).1; go_simp)⟩) hHeld ?_
    simp only [Act.put, zq1, zq2, zq3, zq4, zq5, zq6]
    refine wpAnyH_take (i := 16) (v := .int .i64 (k : Int)) rfl (by kernel_rfl) (by kernel_rfl) (by kernel_rfl) (fun _ _ _ h => absurd h.1 (by simp)) (Or.inl ⟨by rfl, fun w hS => by (have q1 := (HC.out _ hS).2.2.2.1; go_simp)⟩) hHeld ?_
    simp only [Act.put, zq1, zq2, zq3, zq4, zq5, zq6]
    refine wpAnyH_take (i := 17) (v := .pointer (some ⟨g, off + k * 33, none⟩)) rfl (by kernel_rfl) (by kernel_rfl) (by kernel_rfl) (fun _ _ _ h => absurd h.1 (by simp)) (Or.inl ⟨by rfl, fun w hS => by go_simp⟩) hHeld ?_
    simp only [Act.put, zq1, zq2, zq3, zq4, zq5, zq6]
    refine wpAnyH_take (i := 18) (v := .pointer (some ⟨g, off + k * 33 + 32, none⟩)) rfl (by kernel_rfl) (by kernel_rfl) (by kernel_rfl) (fun _ _ _ h => absurd h.1 (by simp)) (Or.inl ⟨by rfl, fun w hS => by go_simp⟩) hHeld ?_
    simp only [Act.put, zq1, zq2, zq3, zq4, zq5, zq6]
    refine wpAnyH_take (i := 19) (v := .slice va bs.length vc) rfl (by kernel_rfl) (by kernel_rfl) (by kernel_rfl) (fun _ _ _ h => absurd h.1 (by simp)) (Or.inl ⟨by rfl, fun w hS => by (have q1 := HR2.out _ hS; go_simp)⟩) hHeld ?_
    simp only [Act.put, zq1, zq2, zq3, zq4, zq5, zq6]
    refine wpAnyH_ready (rs := [20]) (by kernel_rfl) (by simp) ?_
    refine AllReadyH.cons rfl (fun KQ hK => ?_) AllReadyH.nil
    go_simp
    refine (HSM.out _ hHeld).mono ?_
    rintro e z ⟨rfl, rfl⟩
    refine hK.out _ _ (hHeld) (fun hHeld => ?_)
    clear hK KQ
    refine wpAnyH_take (i := 21) (v := .bool false) rfl (by kernel_rfl) (by kernel_rfl) (by kernel_rfl) (fun _ _ _ h => absurd h.1 (by simp)) (Or.inl ⟨by rfl, fun w hS => by go_simp⟩) hHeld ?_
    simp only [Act.put, zq1, zq2, zq3, zq4, zq5, zq6]
    refine wpAnyH_take (i := 22) (v := .bool false) rfl (by kernel_rfl) (by kernel_rfl) (by kernel_rfl) (fun _ _ _ h => absurd h.1 (by simp)) (Or.inl ⟨by rfl, fun w hS => by go_simp⟩) hHeld ?_
    simp only [Act.put, zq1, zq2, zq3, zq4, zq5, zq6]
    refine wpAnyH_done (by kernel_rfl) ?_ _
    refine ⟨rfl, ?_⟩
    have HH := hidden hHeld
    clear hHeld hmk hmk2 i1 i0 hE
    have f50 : Fence.wide.fn 50 := trivial
    have HFin : Hid (∀ w5, A.drew.grownBy w5 (Value.slice ua bs.length uc).ownBlock → Mod (Value.slice ua bs.length uc).ownBlock.toList A w5 ∧ GoI w (.slice (some ⟨g, off, none⟩) m c) stop k w5) := fun w5 hg5 => by
      have m5 : Mod (Value.slice ua bs.length uc).ownBlock.toList A w5 := (Mod.drew _ A).trans' (Mod.of_grown hg5 (fun x hx => by simp [hx]))
      refine ⟨m5, HG.out.low.trans (m5.below HUG.out HG.out.low.size), HG.out.bw.mod m5 (HUB.out _ _ _ HG.out.bw (by decide)), HG.out.bs.mod m5 (HUB.out _ _ _ HG.out.bs (by decide)), HG.out.br.mod m5 (HUB.out _ _ _ HG.out.br (by decide)), HG.out.bn.mod m5 (HUB.out _ _ _ HG.out.bn (by decide))⟩
    have HKP : Hid (∀ w6 S, Mod S A w6 → (∀ x ∈ S, ∃ t cs, Blk A x t cs) → KeepsFrom wA.heap.size A w6) := fun w6 S mS hS => ⟨mS.size, fun x o _ hx ho => by
      rw [mS.block x (Array.getElem?_eq_some_iff.1 hx).1 (fun e => by
        obtain ⟨t, cs, hb⟩ := hS x e
        unfold Blk at hb
        rw [hx] at hb
        injection hb with hb
        rw [hb] at ho
        cases ho)]
      exact hx⟩
    have HUX : Hid (∀ x ∈ (Value.slice ua bs.length uc).ownBlock.toList, ∃ t cs, Blk A x t cs) := fun x hx => HUY.out x hx
    have HG6 : Hid (∀ w5, Mod (Value.slice ua bs.length uc).ownBlock.toList A w5 → GoI w (.slice (some ⟨g, off, none⟩) m c) stop k w5 → Mod ((Value.slice ua bs.length uc).ownBlock.toList ++ [w.heap.size + 1 + 1 + 1]) A (w5.setCell ⟨w.heap.size + 1 + 1 + 1, 0, none⟩ (.int .i64 ((k : Int) + 1))) ∧ GoI w (.slice (some ⟨g, off, none⟩) m c) stop (k + 1) (w5.setCell ⟨w.heap.size + 1 + 1 + 1, 0, none⟩ (.int .i64 ((k : Int) + 1)))) := fun w5 m5 h5 => by
      have m6 : Mod [w.heap.size + 1 + 1 + 1] w5 (w5.setCell ⟨w.heap.size + 1 + 1 + 1, 0, none⟩ (.int .i64 ((k : Int) + 1))) := Mod.setCell _ _ _ _ (by simp)
      refine ⟨(m5.mono (fun x hx => List.mem_append_left _ hx)).trans' (m6.mono (fun x hx => List.mem_append_right _ hx)), h5.low.trans (m6.below (fun x hx => by rw [List.mem_singleton.1 hx]; omega) h5.low.size), h5.bw.mod m6 (by simp; omega), h5.bs.mod m6 (by simp), h5.br.mod m6 (by simp), h5.bn.set 0 _⟩
    have HBX : Hid (∀ x ∈ (Value.slice ua bs.length uc).ownBlock.toList ++ [w.heap.size + 1 + 1 + 1], (∃ t cs, Blk A x t cs) ∧ w.heap.size ≤ x) := fun x hx => by
      rcases List.mem_append.1 hx with hx | hx
      · exact ⟨HUX.out x hx, HUG.out x hx⟩
      · rw [List.mem_singleton.1 hx]
        exact ⟨⟨_, _, HG.out.bn⟩, by omega⟩
    by_cases hst : (k : Int) + 1 = stop
    · subst hst
      gi_wp2_with (first
        | (gi_at_call 50; refine (CallsIn.inRound l (callsIn_wide.2 (HOV.out _ HH.out))).mono ?_; rintro e w5 ⟨rfl, hg5⟩; obtain ⟨m5, hG5⟩ := HFin.out _ hg5; have HM5 := hidden m5; have HG5 := hidden hG5; have c1 : w5.cell? ⟨w.heap.size + 1 + 1 + 1, 0, none⟩ = some (.int .i64 (k : Int)) := (by rw [hG5.bn.cell]; rfl); have c2 : (w5.setCell ⟨w.heap.size + 1 + 1 + 1, 0, none⟩ (.int .i64 ((k : Int) + 1))).cell? ⟨w.heap.size + 1, 0, none⟩ = some (.int .i64 ((k : Int) + 1)) := (by rw [cell_set_ne _ _ _ _ _ _ (by omega), hG5.bs.cell]; rfl); have c3 : (w5.setCell ⟨w.heap.size + 1 + 1 + 1, 0, none⟩ (.int .i64 ((k : Int) + 1))).cell? ⟨w.heap.size + 1 + 1 + 1, 0, none⟩ = some (.int .i64 ((k : Int) + 1)) := World.cell?_setCell_same' _ _ _ (by rw [c1]; rfl); have c4 : (w5.setCell ⟨w.heap.size + 1 + 1 + 1, 0, none⟩ (.int .i64 ((k : Int) + 1))).cell? ⟨w.heap.size + 1 + 1, 0, none⟩ = some (.bool false) := (by rw [cell_set_ne _ _ _ _ _ _ (by omega), hG5.br.cell]; rfl); have z1 : w5.frozen? ⟨w.heap.size + 1 + 1 + 1, 0, none⟩ = false := hG5.bn.frozen 0; have z2 : (w5.setCell ⟨w.heap.size + 1 + 1 + 1, 0, none⟩ (.int .i64 ((k : Int) + 1))).frozen? ⟨w.heap.size + 1 + 1, 0, none⟩ = false := (by rw [World.frozen?_setCell]; exact hG5.br.frozen 0); clear m5 hG5 hg5))
      obtain ⟨m6, h6⟩ := HG6.out w5 HM5.out HG5.out
      generalize w5.setCell ⟨w.heap.size + 1 + 1 + 1, 0, none⟩ (.int .i64 ((k : Int) + 1)) = w6 at m6 h6 ⊢
      have m7 : Mod [w.heap.size + 1 + 1] w6 (w6.setCell ⟨w.heap.size + 1 + 1, 0, none⟩ (.bool true)) := Mod.setCell _ _ _ _ (by simp)
      refine ⟨HKP.out _ ((Value.slice ua bs.length uc).ownBlock.toList ++ [w.heap.size + 1 + 1 + 1] ++ [w.heap.size + 1 + 1]) ((m6.mono (fun x hx => List.mem_append_left _ hx)).trans' (m7.mono (fun x hx => List.mem_append_right _ hx))) (fun x hx => ?_), rfl, h6.br.set 0 _, h6.low.trans (m7.below (fun x hx => by rw [List.mem_singleton.1 hx]; omega) h6.low.size)⟩
      rcases List.mem_append.1 hx with hx | hx
      · exact (HBX.out x hx).1
      · rw [List.mem_singleton.1 hx]
        exact ⟨_, _, HG.out.br⟩
    · have hst' : ((k : Int) + 1 == stop) = false := by simpa using hst
      clear hst
      gi_wp2_with (first
        | (gi_at_call 50; refine (CallsIn.inRound l (callsIn_wide.2 (HOV.out _ HH.out))).mono ?_; rintro e w5 ⟨rfl, hg5⟩; obtain ⟨m5, hG5⟩ := HFin.out _ hg5; have HM5 := hidden m5; have HG5 := hidden hG5; have c1 : w5.cell? ⟨w.heap.size + 1 + 1 + 1, 0, none⟩ = some (.int .i64 (k : Int)) := (by rw [hG5.bn.cell]; rfl); have c2 : (w5.setCell ⟨w.heap.size + 1 + 1 + 1, 0, none⟩ (.int .i64 ((k : Int) + 1))).cell? ⟨w.heap.size + 1, 0, none⟩ = some (.int .i64 stop) := (by rw [cell_set_ne _ _ _ _ _ _ (by omega), hG5.bs.cell]; rfl); have c3 : (w5.setCell ⟨w.heap.size + 1 + 1 + 1, 0, none⟩ (.int .i64 ((k : Int) + 1))).cell? ⟨w.heap.size + 1 + 1 + 1, 0, none⟩ = some (.int .i64 ((k : Int) + 1)) := World.cell?_setCell_same' _ _ _ (by rw [c1]; rfl); have c4 : (w5.setCell ⟨w.heap.size + 1 + 1 + 1, 0, none⟩ (.int .i64 ((k : Int) + 1))).cell? ⟨w.heap.size + 1 + 1, 0, none⟩ = some (.bool false) := (by rw [cell_set_ne _ _ _ _ _ _ (by omega), hG5.br.cell]; rfl); have z1 : w5.frozen? ⟨w.heap.size + 1 + 1 + 1, 0, none⟩ = false := hG5.bn.frozen 0; have z2 : (w5.setCell ⟨w.heap.size + 1 + 1 + 1, 0, none⟩ (.int .i64 ((k : Int) + 1))).frozen? ⟨w.heap.size + 1 + 1, 0, none⟩ = false := (by rw [World.frozen?_setCell]; exact hG5.br.frozen 0); clear m5 hG5 hg5))
      obtain ⟨m6, h6⟩ := HG6.out w5 HM5.out HG5.out
      generalize w5.setCell ⟨w.heap.size + 1 + 1 + 1, 0, none⟩ (.int .i64 ((k : Int) + 1)) = w6 at m6 h6 ⊢
      refine ⟨HKP.out _ _ m6 (fun x hx => (HBX.out x hx).1), m6.below (fun x hx => (HBX.out x hx).2) HG.out.low.size, ?_, ?_⟩
      · rw [List.length_append, List.length_singleton, ← HKE.out]
        exact h6
      · rw [List.length_append, List.length_singleton, ← HKE.out]
        exact HLM.out
  case done =>
    clear hsA hA0
    rintro D xs W hD hxs ⟨hG, _⟩ hK
    have hl : xs.length = m := by rw [HM.out, ← hxs, List.length_map]
    rw [hl] at hG
    have c1 : W.cell? ⟨w.heap.size + 1 + 1 + 1, 0, none⟩ = some (.int .i64 (m : Int)) := by rw [hG.bn.cell]; rfl
    have c2 : W.cell? ⟨w.heap.size, 0, none⟩ = some (.slice a m c) := by rw [hG.bw.cell]; rfl
    have c3 : W.cell? ⟨w.heap.size + 1 + 1, 0, none⟩ = some (.bool false) := by rw [hG.br.cell]; rfl
    have z3 : W.frozen? ⟨w.heap.size + 1 + 1, 0, none⟩ = false := hG.br.frozen 0
    have hB := hG.low
    have hszA := hlA.size
    clear hl hxs hG
    gi_wp2
    have hK' := (KeepsOthers.setCell W ⟨w.heap.size + 1 + 1, 0, none⟩ (.bool true)).same D _ hK rfl
    refine ⟨by simp, .inl ⟨_, _, rfl, run_takeDeferred hK', ?_⟩⟩
    have hc5 := cell_kept (World.cell?_setCell_same' W ⟨w.heap.size + 1 + 1, 0, none⟩ (.bool true) (by rw [c3]; rfl)) (grownBy_putObj' _ D (.deferred none)) (fun r e => by cases e; exact ⟨_, hK', rfl⟩)
    refine ⟨.bool true, ?_, rfl, (setCell_below (w := W) (g := w.heap.size + 1 + 1) 0 (.bool true) hB (by omega)).trans (belowK_b (w := w) (Nat.le_refl _) _ D _ _ (by omega) hK' rfl rfl)⟩
    simp [results, Tryz.f14, go_sem, hc5]
  case stop =>
    clear hsA hA0
    rintro D cc pre W hD _ ⟨rfl, hbr, hB⟩ hK
    have hx : W.cell? ⟨w.heap.size + 1 + 1, 0, none⟩ = some (.bool true) := by rw [hbr.cell]; rfl
    have hszA := hlA.size
    clear hbr
    gi_wp2
    refine ⟨by simp, .inl ⟨_, _, rfl, run_takeDeferred hK, ?_⟩⟩
    have hc5 := cell_kept hx (grownBy_putObj' _ D (.deferred none)) (fun r e => by cases e; exact ⟨_, hK, rfl⟩)
    refine ⟨.bool true, ?_, rfl, hB.trans (belowK_b (w := w) (Nat.le_refl _) W D _ _ (by omega) hK rfl rfl)⟩
    simp [results, Tryz.f14, go_sem, hc5]

end Go.Proofs.YtlhnodinhmdjnaaGreatDoor
