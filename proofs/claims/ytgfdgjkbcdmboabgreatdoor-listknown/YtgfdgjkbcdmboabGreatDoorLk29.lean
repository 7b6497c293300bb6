/- A range over a function whose iterator keeps and writes cells of its own (a stack) between two rounds: what each side leaves alone, and the law for the statement. -/
import Derived.Test.YtgfdgjkbcdmboabGreatDoorLk01
import Derived.RangeFuncNested
import Derived.RangeFuncBound
import Derived.RangeFuncCalls
import Derived.RangeFuncLeaves
import Derived.Shelf.Abstract
import Derived.OwnWalkIn
import Derived.TacticsInMore
import Derived.LoopNIn
import Derived.LoopIn
import Derived.OrdersIn
import Derived.Test.YtgfdgjkbcdmboabGreatDoorLk09
import Derived.Test.YtgfdgjkbcdmboabGreatDoorLk28
namespace Go.Proofs.YtgfdgjkbcdmboabGreatDoor
set_option maxRecDepth 20000
open Go.RowKit

/-- An iterator with blocks Z of its own (Z₀, of before, among them): between two rounds it turns none but these, and new ones; a round leaves these as they are, and all that lay below n₀. -/
def SeqZ {α : Type} (F : Fence) (n : Nat) (P : Program) (g : Nat) (lb : Array Value) (encs : α → Array Value) (Z₀ : List Nat) (n₀ : Nat) (S Sp : List α → Prop) (N : Nat) (w : World) : Prop :=
  ∀ (l : Nat) (J : List α → List Nat → World → Prop) (Jx : List α → World → Prop) (W : World), Below w.heap.size w W →
    (∀ s Z Z' A B, J s Z A → (∀ z ∈ Z, z ∈ Z₀ ∨ W.heap.size ≤ z) → Mod Z A B → New Z A Z' → J s Z' B) →
    (∀ pre Z x A, J pre Z A → pre.length < N → (∀ z ∈ Z, (z ∈ Z₀ ∨ W.heap.size ≤ z) ∧ z < A.heap.size) → YieldAt F (n - 1) P l (encs x) A fun e B =>
      (e = .returned (.bool true) ∧ J (pre ++ [x]) Z B ∧ (∀ z ∈ Z, B.heap[z]? = A.heap[z]?) ∧ Below n₀ A B) ∨ (e = .returned (.bool false) ∧ Jx (pre ++ [x]) B)) →
    J [] Z₀ W →
    CallsIn F n P g (#[.func (.yield l) #[] #[]] ++ lb) W fun e B => (∃ v, e = .returned v) ∧ ((∃ xs Z, S xs ∧ J xs Z B) ∨ (∃ pre, Sp pre ∧ Jx pre B))

/-- How a round may be left. -/
def outZ {α : Type} (b n₀ : Nat) (Z : List Nat) (I : List α → List Nat → World → Prop) (Ix : Code → List α → World → Prop) (xs : List α) (A : World) : Exit → Act → World → Prop
  | .normal, _, B => KeepsFrom b A B ∧ (∀ z ∈ Z, B.heap[z]? = A.heap[z]?) ∧ Below n₀ A B ∧ I xs Z B
  | .ret, _, B => KeepsFrom b A B ∧ Ix .ret xs B
  | .exit i, _, B => KeepsFrom b A B ∧ Ix (.exit i) xs B
  | .goto t, _, B => KeepsFrom b A B ∧ Ix (.goto t) xs B
  | .panic _, _, _ => False
  | .outgrown, _, _ => False

theorem zput_same {W : World} {l : Nat} {o : Obj} {Z : List Nat} (h : ∀ z ∈ Z, z ≠ l) : ∀ z ∈ Z, (W.putObj l o).heap[z]? = W.heap[z]? := fun z hz => World.putObj_heap_other (by have := h z hz; omega)

set_option maxHeartbeats 2000000 in
/-- The statement. -/
theorem wpIn_rangeZ {F : Fence} {n : Nat} {P : Program} {α : Type} {g : Operand} {ps : Array Tmp} {assign body : Code} {Q : Exit → Act → World → Prop} {a : Act} {w : World}
    (hro : F.round = none) (h1 : 1 ≤ n) {gf : Nat} {lb : Array Value} (hg : a.eval g = .func (.func gf) #[] lb) (hFg : F.fn gf) (eg : ∀ args w, (callFunc gf args).run P w = .ok (.enter gf args) w)
    {encs : α → Array Value} {Z₀ : List Nat} {n₀ : Nat} {S Sp : List α → Prop} {N : Nat} {w0 : World} (hseq : SeqZ F (n - 1) P gf lb encs Z₀ n₀ S Sp N w0) (hZ₀ : ∀ z ∈ Z₀, z < w.heap.size) (hn₀ : n₀ ≤ w.heap.size) (hb0 : Below w0.heap.size w0 w) (hps : ∀ x, (encs x).size = ps.size)
    (I : List α → List Nat → World → Prop) (Ix : Code → List α → World → Prop) (hIm : ∀ s Z Z' A B, I s Z A → (∀ z ∈ Z, z ∈ Z₀ ∨ w.heap.size ≤ z) → Mod Z A B → New Z A Z' → I s Z' B) (hI : ∀ Z, OwnFrom w.heap.size (fun s => I s Z)) (hIx : ∀ c, OwnFrom w.heap.size (Ix c)) (h0 : I [] Z₀ w) (a₁ : α → Act)
    (hassign : ∀ (l : Nat) (x : α) (W : World) (K : Act → World → Prop), K (a₁ x) W →
      assign.wpIn (F.inRound l) (n - 1 - 1) P (Exit.then K (fun _ _ _ => False)) { tmps := (ps.zip (encs x)).foldl (fun t (p, v) => t.setIfInBounds p v) a.tmps, defers := [] } W)
    (hbody : ∀ (l : Nat) (pre : List α) (Z : List Nat) (x : α) (W : World), I pre Z W → pre.length < N → (∀ z ∈ Z, (z ∈ Z₀ ∨ w.heap.size ≤ z) ∧ z < W.heap.size) → body.wpIn (F.inRound l) (n - 1 - 1) P (outZ w.heap.size n₀ Z I Ix (pre ++ [x]) W) (a₁ x) W)
    (hdone : ∀ (D : Nat) (xs : List α) (Z : List Nat) (W : World), w.heap.size ≤ D → S xs → I xs Z W → W.heap[D]? = some (.deferred (some [])) → Q .normal { a with defers := { target := .collected D, args := #[] } :: a.defers } W)
    (hstop : ∀ (D : Nat) (c : Code) (pre : List α) (W : World), w.heap.size ≤ D → Sp pre → Ix c pre W → W.heap[D]? = some (.deferred (some [])) → c.wpIn F n P Q { a with defers := { target := .collected D, args := #[] } :: a.defers } W) :
    (Code.rangeFunc g ps assign body).wpIn F n P Q a w := by
  refine wpIn_rangeFunc fun fn hfn => ?_
  rw [hro]
  obtain ⟨R, hR⟩ : ∃ R : LoopState → Option Code → Loop, R = fun st pe => { state := st, pending := pe, fn, tmps := a.tmps, params := ps, assign, body, defers := w.heap.size } := ⟨_, rfl⟩
  obtain ⟨V, hV⟩ : ∃ V, V = (w.alloc (.deferred (some []))).alloc (.loop (R .ready none)) := ⟨_, rfl⟩
  have sV : V.heap.size = w.heap.size + 1 + 1 := by rw [hV]; simp
  have bV : Below w.heap.size w V := by rw [hV]; exact grow_trans (grow_alloc _ _) (grow_alloc _ _)
  have LV : V.heap[w.heap.size + 1]? = some (.loop (R .ready none)) := by
    have := World.alloc_heap_new (w.alloc (.deferred (some []))) (.loop (R .ready none))
    rw [World.size_alloc] at this
    rw [hV]
    exact this
  have DV : V.heap[w.heap.size]? = some (.deferred (some [])) := by
    rw [hV]
    exact (Below.heap_alloc _ _ _ (by simp)).trans (World.alloc_heap_new w _)
  have IV : I [] Z₀ V := by
    rw [hV]
    exact (hI Z₀).alloc _ ((hI Z₀).alloc _ h0)
  refine ⟨w.heap.size + 1, [{ target := .collected w.heap.size, args := #[] }], V, { target := .fn (.func gf) lb, args := #[.func (.yield (w.heap.size + 1)) #[] #[]] }, V, gf, #[.func (.yield (w.heap.size + 1)) #[] #[]] ++ lb, V, ?_, ?_, ?_, ?_, fun _ => h1, ?_⟩
  · rw [hV, hR]
    exact run_enterLoop_outer _ _ _ _ _
  · simp only [resolve, hg]
    simp [go_sem]
  · intro f' hf'
    simp [Target.leads] at hf'
    subst hf'
    exact hFg
  · simp [invoke, go_sem, eg]
  refine (hseq (w.heap.size + 1) (fun s Z A => I s Z A ∧ A.heap[w.heap.size + 1]? = some (.loop (R .ready none)) ∧ A.heap[w.heap.size]? = some (.deferred (some []))) (fun s A => ∃ c, Ix c s A ∧ A.heap[w.heap.size + 1]? = some (.loop (R .done (some c))) ∧ A.heap[w.heap.size]? = some (.deferred (some []))) V (hb0.trans (bV.mono hb0.size)) ?_ ?_ ⟨IV, LV, DV⟩).mono ?_
  · rintro s Z Z' A B ⟨q1, q2, q3⟩ hz m hn
    have hz2 : ∀ z ∈ Z, z ≠ w.heap.size + 1 ∧ z ≠ w.heap.size := fun z h => by
      rcases hz z h with e | e
      · have := hZ₀ z e
        omega
      · omega
    exact ⟨hIm s Z Z' A B q1 (fun z h => (hz z h).imp id (fun e => by omega)) m hn, (m.block _ (Array.getElem?_eq_some_iff.1 q2).1 (fun h => (hz2 _ h).1 rfl)).trans q2, (m.block _ (Array.getElem?_eq_some_iff.1 q3).1 (fun h => (hz2 _ h).2 rfl)).trans q3⟩
  · rintro pre Z x A ⟨q1, q2, q3⟩ hlen hz
    have hz2 : ∀ z ∈ Z, z ≠ w.heap.size + 1 := fun z h => by
      rcases (hz z h).1 with e | e
      · have := hZ₀ z e
        omega
      · omega
    have hlt : w.heap.size + 1 < A.heap.size := (Array.getElem?_eq_some_iff.1 q2).1
    have hy := run_yield (P := P) (args := encs x) q2 (by rw [hR]; exact hps x)
    rw [hR] at hy
    refine ⟨fn, _, assign, body, hy, roundIn_of_wpIn hfn (hassign _ x A _ ⟨_, run_beginRound q2 (by rw [hR]), ?_⟩)⟩
    obtain ⟨A', hA'⟩ : ∃ A', A' = A.putObj (w.heap.size + 1) (.loop { R .ready none with state := .busy }) := ⟨_, rfl⟩
    have sA : A'.heap.size = A.heap.size := by rw [hA']; simp [World.putObj]
    have L2 : A'.heap[w.heap.size + 1]? = some (.loop { R .ready none with state := .busy }) := by rw [hA']; exact World.putObj_heap_same hlt
    have D2 : A'.heap[w.heap.size]? = some (.deferred (some [])) := by rw [hA']; exact (World.putObj_heap_other (by omega)).trans q3
    have I2 : I pre Z A' := by rw [hA']; exact (hI Z).putObj _ q1 (by omega) q2 rfl
    have Z2 : ∀ z ∈ Z, A'.heap[z]? = A.heap[z]? := by rw [hA']; exact zput_same hz2
    have B2 : Below n₀ A A' := by rw [hA']; exact belowK_b (w := w) hn₀ A _ _ _ (by omega) q2 rfl rfl
    rw [← hA']
    refine wpIn_mono (hbody _ pre Z x A' I2 hlen (fun z h => ⟨(hz z h).1.imp id (fun e => by omega), by rw [sA]; exact (hz z h).2⟩)) ?_
    have fin : ∀ (j : Option Code) (C : World), KeepsFrom w.heap.size A' C →
        (Instr.endRound (w.heap.size + 1) j).run P C = .ok (.bool j.isNone) (C.putObj (w.heap.size + 1) (.loop (R (if j.isNone then .ready else .done) j))) ∧ C.heap[w.heap.size + 1]? = some (.loop { R .ready none with state := .busy }) ∧
        (C.putObj (w.heap.size + 1) (.loop (R (if j.isNone then .ready else .done) j))).heap[w.heap.size + 1]? = some (.loop (R (if j.isNone then .ready else .done) j)) ∧
        (C.putObj (w.heap.size + 1) (.loop (R (if j.isNone then .ready else .done) j))).heap[w.heap.size]? = some (.deferred (some [])) := fun j C hk => by
      have L3 := hk.same _ _ (by omega) L2 rfl
      have e := run_endRound (P := P) j L3
      rw [hR] at e ⊢
      exact ⟨e, by rw [hR] at L3; exact L3, World.putObj_heap_same (Array.getElem?_eq_some_iff.1 L3).1, (World.putObj_heap_other (by omega)).trans (hk.same _ _ (Nat.le_refl _) D2 rfl)⟩
    intro e a3 C hp
    cases e with
    | normal =>
      obtain ⟨k1, k2, k3, k4⟩ := hp
      obtain ⟨r, l3, l4, d4⟩ := fin none C k1
      refine ⟨_, _, r, .inl ⟨rfl, ⟨(hI Z).putObj _ k4 (by omega) l3 rfl, l4, d4⟩, fun z h => ?_, (B2.trans k3).trans (belowK_b (w := w) hn₀ C _ _ _ (by omega) l3 rfl rfl)⟩⟩
      rw [zput_same hz2 z h, k2 z h, Z2 z h]
    | ret =>
      obtain ⟨k1, k2⟩ := hp
      obtain ⟨r, l3, l4, d4⟩ := fin (some .ret) C k1
      exact ⟨_, _, r, .inr ⟨rfl, .ret, (hIx _).putObj _ k2 (by omega) l3 rfl, l4, d4⟩⟩
    | exit i =>
      obtain ⟨k1, k2⟩ := hp
      obtain ⟨r, l3, l4, d4⟩ := fin (some (.exit i)) C k1
      exact ⟨_, _, r, .inr ⟨rfl, .exit i, (hIx _).putObj _ k2 (by omega) l3 rfl, l4, d4⟩⟩
    | goto t =>
      obtain ⟨k1, k2⟩ := hp
      obtain ⟨r, l3, l4, d4⟩ := fin (some (.goto t)) C k1
      exact ⟨_, _, r, .inr ⟨rfl, .goto t, (hIx _).putObj _ k2 (by omega) l3 rfl, l4, d4⟩⟩
    | panic _ => exact hp.elim
    | outgrown => exact hp.elim
  · rintro e C ⟨⟨v, rfl⟩, ⟨xs, Z, hS, q1, q2, q3⟩ | ⟨pre, hSp, c, q1, q2, q3⟩⟩
    · exact ⟨none, _, by have := run_endLoop (P := P) q2 (by rw [hR]; simp); rw [hR] at this; exact this, hdone _ xs Z _ (Nat.le_refl _) hS ((hI Z).putObj _ q1 (by omega) q2 rfl) ((World.putObj_heap_other (by omega)).trans q3)⟩
    · exact ⟨some c, _, by have := run_endLoop (P := P) q2 (by rw [hR]; simp); rw [hR] at this; exact this, hstop _ c pre _ (Nat.le_refl _) hSp ((hIx c).putObj _ q1 (by omega) q2 rfl) ((World.putObj_heap_other (by omega)).trans q3)⟩

end Go.Proofs.YtgfdgjkbcdmboabGreatDoor

/- A law of the plain walk, used in a fenced one: one operation at a time, where the fence bars nothing. -/
namespace Go.Proofs.YtgfdgjkbcdmboabGreatDoor
set_option maxRecDepth 20000
open Go.RowKit

/-- A fence that bars nothing, within a round or not. -/
def Wide (F : Fence) : Prop := F = Fence.wide ∨ ∃ l, F = Fence.wide.inRound l

theorem Wide.calls {F : Fence} (hF : Wide F) {n : Nat} {P : Program} {f : FuncId} {args : Array Value} {w : World} {R : Ending → World → Prop} (h : Calls P f args w R) : CallsIn F n P f args w R := by
  rcases hF with rfl | ⟨l, rfl⟩
  · exact callsIn_wide.2 h
  · exact CallsIn.inRound l (callsIn_wide.2 h)
theorem Wide.rows {F : Fence} (hF : Wide F) {n : Nat} {P : Program} {row : String} {args : Array Value} {w : World} {R : Value → World → Prop} (h : Rows P row args w R) : RowsIn F n P row args w R := by
  have h1 : RowsIn Fence.wide n P row args w R := fun c cs _ => let ⟨v, w', r, s⟩ := h c cs; ⟨v, w', r, stepsIn_wide.2 s⟩
  rcases hF with rfl | ⟨l, rfl⟩
  · exact h1
  · exact h1
theorem Wide.fn {F : Fence} (hF : Wide F) (f : FuncId) : F.fn f := by
  rcases hF with rfl | ⟨l, rfl⟩ <;> trivial
theorem Wide.depth {F : Fence} (hF : Wide F) : F.depth = none := by
  rcases hF with rfl | ⟨l, rfl⟩ <;> rfl

theorem oper_in {F : Fence} (hF : Wide F) {n : Nat} {P : Program} {o : Oper} {a : Act} {w : World} {K : Act → World → Prop} {Q : Exit → Act → World → Prop} (hd : ∀ c, o.op ≠ .defer c) (h : o.wp P a w K Q) : o.wpIn F n P a w K Q := by
  unfold Oper.wpIn
  refine ⟨fun f _ => hF.fn f, ?_⟩
  rw [Oper.semAt_plain F _ _ hd]
  unfold Oper.wp at h
  generalize (execOp a.eval o).run P w = r at h
  cases r with
  | ok v w' =>
    cases v with
    | value v => exact h
    | skip => exact h
    | defer d => exact h
    | enter f args => exact ⟨fun e => (by rw [hF.depth] at e; cases e), hF.calls h⟩
    | row row args => exact ⟨fun e => (by rw [hF.depth] at e; cases e), hF.rows h⟩
    | _ => exact h.elim
  | halt c w' =>
    cases c with
    | panic v => exact h
    | _ => exact h.elim

/-- One operation of a fenced walk by a law of the plain one. -/
theorem inList {F : Fence} (hF : Wide F) {n : Nat} {P : Program} {ops : Array Oper} {rest : List Oper} {o : Oper} {a : Act} {w : World} {Q : Exit → Act → World → Prop} (hd : ∀ c, o.op ≠ .defer c)
    (h : wpList P ops (fun e a' w' => e = .normal ∧ wpListIn F n P ops Q rest a' w') [o] a w) : wpListIn F n P ops Q (o :: rest) a w := by
  simp only [wpList] at h
  simp only [wpListIn]
  split at h
  · rename_i hw
    rw [if_pos hw]
    rcases h with h | ⟨_, a₀, w₀, h, _⟩
    · have := oper_in (n := n) hF hd h
      unfold Oper.wpIn at this ⊢
      refine ⟨this.1, ?_⟩
      have h2 := this.2
      generalize (o.semAt F.round a.eval).run P w = r at h2 ⊢
      cases r with
      | ok v w' =>
        cases v with
        | value v => exact h2.2
        | skip => exact h2.2
        | defer d => exact h2.2
        | enter f args =>
          refine ⟨h2.1, h2.2.mono (fun e w'' q => ?_)⟩
          cases e with
          | returned v => exact q.2
          | panicked c => cases q.1
          | outgrown =>
            obtain ⟨_, _, q, _⟩ := q
            cases q
        | row row args => exact ⟨h2.1, h2.2.mono (fun _ _ q => q.2)⟩
        | round l f tmps assign body =>
          refine ⟨h2.1, h2.2.mono (fun e w'' q => ?_)⟩
          cases e with
          | returned v => exact q.2
          | panicked c => cases q.1
          | outgrown =>
            obtain ⟨_, _, q, _⟩ := q
            cases q
        | _ => exact h2.elim
      | halt c w' =>
        cases c with
        | panic v => cases h2.1
        | _ => exact h2.elim
    · cases h
  · rename_i hw
    rw [if_neg hw]
    exact ⟨fun f _ => hF.fn f, h.2⟩

/-- A region that draws its order, in a fenced walk, by laws of the plain one. -/
theorem opIn {F : Fence} (hF : Wide F) {n : Nat} {P : Program} {ops : Array Oper} {Q : Exit → Act → World → Prop} (hd : ∀ (i : Nat) o c, ops[i]? = some o → o.op ≠ .defer c) {i : Nat} {K K' : Act → World → Prop} (hK : ∀ a w, K a w → K' a w) {a : Act} {w : World}
    (h : wpOp P ops (fun e a' w' => e = .normal ∧ Q .normal a' w') i K a w) : wpOpIn F n P ops Q i K' a w := by
  unfold wpOp at h
  unfold wpOpIn
  cases ho : ops[i]? with
  | none =>
    rw [ho] at h
    exact hK _ _ h
  | some o =>
    rw [ho] at h
    simp only at h ⊢
    by_cases hw : Region.wanted o (yielded ops a.tmps) = true
    · rw [if_pos hw] at h ⊢
      rcases h with h | ⟨_, a₀, w₀, h, _⟩
      · have := oper_in (n := n) hF (fun c => hd i o c ho) h
        unfold Oper.wpIn at this ⊢
        refine ⟨this.1, ?_⟩
        have h2 := this.2
        generalize (o.semAt F.round a.eval).run P w = r at h2 ⊢
        cases r with
        | ok v w' =>
          cases v with
          | value v => exact hK _ _ h2
          | skip => exact hK _ _ h2
          | defer d => exact hK _ _ h2
          | enter f args =>
            refine ⟨h2.1, h2.2.mono (fun e w'' q => ?_)⟩
            cases e with
            | returned v => exact hK _ _ q
            | panicked c => cases q.1
            | outgrown =>
              obtain ⟨_, _, q, _⟩ := q
              cases q
          | row row args => exact ⟨h2.1, h2.2.mono (fun _ _ q => hK _ _ q)⟩
          | round l f tmps assign body =>
            refine ⟨h2.1, h2.2.mono (fun e w'' q => ?_)⟩
            cases e with
            | returned v => exact hK _ _ q
            | panicked c => cases q.1
            | outgrown =>
              obtain ⟨_, _, q, _⟩ := q
              cases q
          | _ => exact h2.elim
        | halt c w' =>
          cases c with
          | panic v => cases h2.1
          | _ => exact h2.elim
      · cases h
    · rw [if_neg hw] at h ⊢
      exact ⟨fun f _ => hF.fn f, hK _ _ h⟩

theorem anyIn {F : Fence} (hF : Wide F) {n : Nat} {P : Program} {md : Region.Mode} {ops : Array Oper} {Q : Exit → Act → World → Prop} (hd : ∀ (i : Nat) o c, ops[i]? = some o → o.op ≠ .defer c) : ∀ (fuel : Nat) (listed : Array Bool) (a : Act) (w : World), wpAny P md ops (fun e a' w' => e = .normal ∧ Q .normal a' w') fuel listed a w → wpAnyIn F n P md ops Q fuel listed a w
  | 0, _, _, _, h => ⟨h.1, h.2.2⟩
  | fuel + 1, _, _, _, h => ⟨fun e => (h.1 e).2, fun i hi => opIn hF hd (fun a w q => anyIn hF hd fuel _ a w q) (h.2 i hi)⟩

theorem drawIn {F : Fence} (hF : Wide F) {n : Nat} {P : Program} {id : Nat} {ops : Array Oper} {Q : Exit → Act → World → Prop} {a : Act} {w : World} (hm : P.follows .mixedOrders = true) (hd : (ops.all fun o => match o.op with | .defer _ => false | _ => true) = true)
    (h : wpAny P .any ops (fun e a' w' => e = .normal ∧ Q .normal a' w') ops.size (Array.replicate ops.size false) a w.drew) : (Code.region id ops true).wpIn F n P Q a w :=
  wpIn_region_any hm (anyIn hF (fun i o c ho e => by
    rw [Array.all_eq_true_iff_forall_mem] at hd
    have := hd o (Array.mem_of_getElem? ho)
    rw [e] at this
    cases this) _ _ _ _ h)

/-- One operation that may come up, in a fenced walk, by a law of the plain one. -/
theorem readyIn {F : Fence} (hF : Wide F) {n : Nat} {P : Program} {md : Region.Mode} {ops : Array Oper} {Q : Exit → Act → World → Prop} {fuel : Nat} {listed : Array Bool} {a : Act} {w : World} {i : Nat} {o : Oper} {rs : List Nat} (ho : ops[i]? = some o) (hd : ∀ c, o.op ≠ .defer c)
    (h : ∀ K' : Act → World → Prop, (∀ a w, wpAnyIn F n P md ops Q fuel (listed.setIfInBounds i true) a w → K' a w) → if Region.wanted o (yielded ops a.tmps) = true then Oper.wp P o a w K' (fun _ _ _ => False) else K' (a.put o.dst undef) w)
    (hs : AllReadyIn F n P md ops Q fuel listed a w rs) : AllReadyIn F n P md ops Q fuel listed a w (i :: rs) := by
  refine AllReadyIn.cons ho (fun K' hK => ?_) hs
  have h1 := h K' hK
  by_cases hw : Region.wanted o (yielded ops a.tmps) = true
  · rw [if_pos hw] at h1 ⊢
    have := oper_in (n := n) hF hd h1
    unfold Oper.wpIn at this ⊢
    refine ⟨this.1, ?_⟩
    have h2 := this.2
    generalize (o.semAt F.round a.eval).run P w = r at h2 ⊢
    cases r with
    | ok v w' =>
      cases v with
      | enter f args =>
        refine ⟨h2.1, h2.2.mono (fun e w'' q => ?_)⟩
        cases e with
        | returned v => exact q
        | panicked c => exact q.elim
        | outgrown =>
          obtain ⟨_, _, q⟩ := q
          exact q.elim
      | round l f tmps assign body =>
        refine ⟨h2.1, h2.2.mono (fun e w'' q => ?_)⟩
        cases e with
        | returned v => exact q
        | panicked c => exact q.elim
        | outgrown =>
          obtain ⟨_, _, q⟩ := q
          exact q.elim
      | _ => exact h2
    | halt c w' =>
      cases c with
      | panic v => exact h2.elim
      | _ => exact h2.elim
  · rw [if_neg hw] at h1 ⊢
    exact ⟨fun f _ => hF.fn f, h1⟩

end Go.Proofs.YtgfdgjkbcdmboabGreatDoor

/- list.leaves and the function that it hands back, as contracts: the leaves of a tree by rising key, so many of them left out ahead of the first. -/
namespace Go.Proofs.YtgfdgjkbcdmboabGreatDoor
set_option maxRecDepth 20000
open Go.RowKit Go.Shelf

attribute [local go_sem] Oper.semAt_some

/-- What the function of leaves has caught. -/
def LvAt (w : World) (b3 b4 b5 : Nat) (v : Value) (root ahead : Int) : Prop := Blk w b3 37 #[v] ∧ Blk w b4 3 #[.int .i64 root] ∧ Blk w b5 3 #[.int .i64 ahead]

theorem LvAt.same {w w' : World} {b3 b4 b5 : Nat} {v : Value} {root ahead : Int} (h : LvAt w b3 b4 b5 v root ahead) (hs : ∀ z ∈ [b3, b4, b5], w'.heap[z]? = w.heap[z]?) : LvAt w' b3 b4 b5 v root ahead :=
  ⟨h.1.of_block (hs _ (by simp)), h.2.1.of_block (hs _ (by simp)), h.2.2.of_block (hs _ (by simp))⟩
theorem LvAt.grow {w w' : World} {b3 b4 b5 : Nat} {v : Value} {root ahead : Int} (h : LvAt w b3 b4 b5 v root ahead) (hb : Below w.heap.size w w') : LvAt w' b3 b4 b5 v root ahead :=
  ⟨h.1.grow hb, h.2.1.grow hb, h.2.2.grow hb⟩

set_option maxHeartbeats 1000000 in
theorem leaves13_any (pt : Option Addr) (root ahead : Int) (w : World) : Calls Tryz.prog 84 #[.pointer pt, .int .i64 root, .int .i64 ahead] w fun e w' => e = .returned (.func (.func 114) #[] #[.pointer (some ⟨w.heap.size + 1 + 1, 0, none⟩), .pointer (some ⟨w.heap.size + 1, 0, none⟩), .pointer (some ⟨w.heap.size, 0, none⟩)]) ∧ LvAt w' w.heap.size (w.heap.size + 1) (w.heap.size + 1 + 1) (.pointer pt) root ahead ∧ Below w.heap.size w w' := by
  have HF : Hid (LvAt (((w.alloc (.cells #[.pointer pt] 37)).alloc (.cells #[.int .i64 root] 3)).alloc (.cells #[.int .i64 ahead] 3)) w.heap.size (w.heap.size + 1) (w.heap.size + 1 + 1) (.pointer pt) root ahead ∧ Below w.heap.size w (((w.alloc (.cells #[.pointer pt] 37)).alloc (.cells #[.int .i64 root] 3)).alloc (.cells #[.int .i64 ahead] 3))) := by
    have k1 := ((Blk.new w 37 #[.pointer pt]).grow (grow_alloc _ (.cells #[Value.int .i64 root] 3))).grow (grow_alloc _ (.cells #[Value.int .i64 ahead] 3))
    have k2 := (Blk.new (w.alloc (.cells #[.pointer pt] 37)) 3 #[Value.int .i64 root]).grow (grow_alloc _ (.cells #[Value.int .i64 ahead] 3))
    have k3 := Blk.new ((w.alloc (.cells #[.pointer pt] 37)).alloc (.cells #[.int .i64 root] 3)) 3 #[Value.int .i64 ahead]
    simp only [World.size_alloc] at k2 k3
    exact ⟨⟨k1, k2, k3⟩, grow_trans (grow_trans (grow_alloc _ _) (grow_alloc _ _)) (grow_alloc _ _)⟩
  go_enter Tryz.func84, Tryz.ntmps84
  go_wp2
  go_ret
  exact ⟨rfl, HF.out⟩

/-- How far the function of leaves is. -/
structure LvI (cs : List (Nat × Ce)) (E : List Nat) (W0 : Nat) (pre : List Nat) (ps : List (Nat × Tre)) (o : Nat) (sv : Value) (wr : World) : Prop where
  lst : Lst wr 3 1 sv ps.length (nats (ps.map (·.1)).reverse)
  own : ∀ k, sv.ownBlock = some k → W0 ≤ k
  tre : ∀ p ∈ ps, IsT cs p.1 p.2
  all : pre ++ (stL ps).drop o = E
  tw : tw ps ≤ 1000000

theorem LvI.last {cs : List (Nat × Ce)} {E : List Nat} {W0 : Nat} {pre : List Nat} {p : Nat × Tre} {ps : List (Nat × Tre)} {o : Nat} {sv : Value} {wr : World} (h : LvI cs E W0 pre (p :: ps) o sv wr) : ∃ b c, sv = .slice (some ⟨b, 0, none⟩) (ps.length + 1) c ∧ ps.length + 1 ≤ c ∧ W0 ≤ b ∧ wr.cell? ⟨b, ps.length, none⟩ = some (.int .i64 (p.1 : Int)) ∧ Lst wr 3 1 (.slice (some ⟨b, 0, none⟩) ps.length c) ps.length (nats (ps.map (·.1)).reverse) := by
  have h4 := h.lst
  rw [List.length_cons, List.map_cons, List.reverse_cons] at h4
  obtain ⟨b, c, rfl, hc⟩ := lst_pos h4 (by omega)
  have e : ps.length = (nats (ps.map (·.1)).reverse).length := by rw [nats_length, List.length_reverse, List.length_map]
  refine ⟨b, c, rfl, hc, h.own b rfl, ?_, ?_⟩
  · rw [lst_cell h4 _ (by omega), nats_snoc, List.getElem?_append_right (by omega), ← e, Nat.sub_self]
    rfl
  · have := lst_cut (m := ps.length) h4 (by omega)
    rw [Nat.mul_one, nats_snoc, List.take_left' e.symm] at this
    exact this

set_option maxRecDepth 100000 in
set_option maxHeartbeats 4000000 in
theorem lv1_in {wb : World} {v : Value} {cs : List (Nat × Ce)} {pend : List Nat} (hV : Vw wb v true (cot cs) (cat cs)) (hWf : Wf cs pend) (root ahead : Nat) (T : Tre) (hT : IsT cs root T) (hn6 : T.num ≤ 400000) (hah : ahead < 9223372036854775808) (n : Nat) (hn : 1 ≤ n) (b3 b4 b5 l : Nat) (J : List Nat → List Nat → World → Prop) (Jx : List Nat → World → Prop) (W : World) (hb : Below wb.heap.size wb W) (hA : LvAt W b3 b4 b5 v (root : Int) (ahead : Int))
    (hJ : ∀ s Z Z' A B, J s Z A → (∀ z ∈ Z, z ∈ [b3, b4, b5] ∨ W.heap.size ≤ z) → Mod Z A B → New Z A Z' → J s Z' B)
    (hY : ∀ pre Z x A, J pre Z A → pre.length < T.ents.length → (∀ z ∈ Z, (z ∈ [b3, b4, b5] ∨ W.heap.size ≤ z) ∧ z < A.heap.size) → YieldAt Fence.wide (n - 1) Tryz.prog l #[.int .i64 ((x : Nat) : Int)] A fun e B =>
      (e = .returned (.bool true) ∧ J (pre ++ [x]) Z B ∧ (∀ z ∈ Z, B.heap[z]? = A.heap[z]?) ∧ Below wb.heap.size A B) ∨ (e = .returned (.bool false) ∧ Jx (pre ++ [x]) B))
    (h0 : J [] [b3, b4, b5] W) :
    CallsIn Fence.wide n Tryz.prog 114 #[.func (.yield l) #[] #[], .pointer (some ⟨b5, 0, none⟩), .pointer (some ⟨b4, 0, none⟩), .pointer (some ⟨b3, 0, none⟩)] W fun e B => (∃ v, e = .returned v) ∧ ((∃ xs Z, xs = (T.lvs root).drop ahead ∧ J xs Z B) ∨ (∃ pre, pre <+: (T.lvs root).drop ahead ∧ Jx pre B)) := by
  have HV := hidden hV
  have HWf := hidden hWf
  have HJ := hidden hJ
  have HY := hidden hY
  have HE0 : Hid (((T.lvs root).drop ahead).length ≤ T.ents.length) := by
    show _ ≤ _
    rw [List.length_drop, Tre.lvs_len]
    omega
  obtain ⟨E, hE⟩ : ∃ E, E = (T.lvs root).drop ahead := ⟨_, rfl⟩
  rw [← hE] at HE0
  rw [← hE]
  have HE := hidden hE
  obtain ⟨mea, hmea⟩ := tw_fun cs
  have HME := hidden hmea
  have c5 : W.cell? ⟨b5, 0, none⟩ = some (.int .i64 (ahead : Int)) := by rw [hA.2.2.cell]; rfl
  have c4 : W.cell? ⟨b4, 0, none⟩ = some (.int .i64 (root : Int)) := by rw [hA.2.1.cell]; rfl
  have HBL : Hid (∀ z ∈ [b3, b4, b5], z < W.heap.size) := fun z hz => by
    simp only [List.mem_cons, List.not_mem_nil, or_false] at hz
    rcases hz with rfl | rfl | rfl
    · exact hA.1.lt
    · exact hA.2.1.lt
    · exact hA.2.2.lt
  have HWB := hidden hb.size
  have f1 : Fence.wide.fn 49 := trivial
  have f2 : Fence.wide.fn 57 := trivial
  have f3 : Fence.wide.fn 58 := trivial
  have HT := hidden hT
  have H6 := hidden hn6
  have HA := hidden hA
  have HB := hidden hb
  have H0 := hidden h0
  obtain ⟨y0, hy0⟩ : ∃ y : Int, y = (root : Int) := ⟨_, rfl⟩
  rw [← hy0] at c4
  have HY0 := hidden hy0
  obtain ⟨z0, hz0⟩ : ∃ y : Int, y = (ahead : Int) := ⟨_, rfl⟩
  rw [← hz0] at c5
  have HZ0 := hidden hz0
  have HAH := hidden hah
  clear hV hWf hJ hY hE hmea hA hT hn6 hb h0 hy0 hz0 hah
  refine callsIn_of_wp Tryz.func114 rfl trivial ?_ rfl
  simp only [Tryz.ntmps114, List.size_toArray, List.length_cons, List.length_nil, Nat.reduceAdd, Nat.reduceSub, Array.replicate_succ, Array.replicate_zero, List.push_toArray, List.append_toArray, List.nil_append, List.cons_append]
  gi_wp2
  have HI0 : Hid (LvI cs E W.heap.size [] [(root, T)] ahead (.slice (some ⟨W.heap.size, 0, none⟩) 1 1) (W.alloc (.cells #[.int .i64 y0] 3)) ∧ J [] ([b3, b4, b5] ++ [W.heap.size]) (W.alloc (.cells #[.int .i64 y0] 3)) ∧ LvAt (W.alloc (.cells #[.int .i64 y0] 3)) b3 b4 b5 v (root : Int) (ahead : Int) ∧ Below wb.heap.size wb (W.alloc (.cells #[.int .i64 y0] 3))) := by
    have g := grow_alloc W (.cells #[.int .i64 y0] 3)
    refine ⟨⟨lst_one _ _ root (by rw [← HY0.out]; exact Blk.new _ _ _), fun k hk => ?_, fun p hp => ?_, ?_, ?_⟩, HJ.out _ _ _ _ _ H0.out (fun z hz => .inl hz) (Mod.of_below g _) (fun k hk => ?_), HA.out.grow g, grow_trans HB.out g⟩
    · simp only [Value.ownBlock, Option.some.injEq] at hk
      omega
    · obtain rfl : p = (root, T) := by simpa using hp
      exact HT.out
    · rw [HE.out]
      simp [stL]
    · have := H6.out
      simp [Go.Proofs.YtgfdgjkbcdmboabGreatDoor.tw]
      omega
    · rcases List.mem_append.1 hk with hk | hk
      · exact .inl hk
      · obtain rfl : k = W.heap.size := by simpa using hk
        exact .inr (Nat.le_refl _)
  generalize W.alloc (.cells #[.int .i64 y0] 3) = w1 at *
  gi_loopw [5, 6] (fun ov sv wr => ∃ (pre : List Nat) (ps : List (Nat × Tre)) (o : Nat) (ta : Option Addr) (m tc : Nat), ov = .int .i64 (o : Int) ∧ sv = .slice ta m tc ∧ Hid (m = ps.length) ∧ Hid (o ≤ ahead) ∧ Hid (LvI cs E W.heap.size pre ps o sv wr) ∧ Hid (J pre ([b3, b4, b5] ++ sv.ownBlock.toList) wr) ∧ Hid (LvAt wr b3 b4 b5 v (root : Int) (ahead : Int)) ∧ Hid (Below wb.heap.size wb wr)) (fun _ sv wr => mea sv wr)
  case atStart => exact ⟨[], [(root, T)], ahead, _, 1, 1, by rw [HZ0.out], rfl, rfl, Nat.le_refl _, HI0.out.1, HI0.out.2.1, HI0.out.2.2.1, HI0.out.2.2.2⟩
  case round =>
    clear HI0 HT HY0 HZ0 c4 c5 H0 HA HB H6
    obtain ⟨pre, ps, o, ta, m, tc, rfl, rfl, hm, ho, hI, hJs, hA, hB⟩ := hrel
    cases ps with
    | nil =>
      have hl : m = 0 := hm.out
      subst hl
      have HP : Hid (pre = E) := by
        have := hI.out.all
        show pre = E
        simpa [stL] using this
      clear hI hm ho
      gi_wp2
      go_end0
      exact ⟨⟨_, rfl⟩, .inl ⟨pre, _, HP.out, hJs.out⟩⟩
    | cons p ps =>
      obtain ⟨h, t⟩ := p
      obtain ⟨b, c', hv, hcap, hWb, hcell, hLp⟩ := hI.out.last
      injection hv with e1 e2 e3
      subst e1
      subst e3
      have HM0 : Hid (mea (.slice (some ⟨b, 0, none⟩) m tc) wr = (1 + 2 * t.num) + tw ps) := by
        have := HME.out _ _ _ ((h, t) :: ps) hI.out.lst hI.out.tre
        show _ = _
        rw [this]
        simp [Go.Proofs.YtgfdgjkbcdmboabGreatDoor.tw]
      have HIt := hidden (hI.out.tre (h, t) (by simp))
      have HIp : Hid (∀ p ∈ ps, IsT cs p.1 p.2) := fun p hp => hI.out.tre p (List.mem_cons_of_mem _ hp)
      have HEN := hidden hI.out.all
      have HTT : Hid ((1 + 2 * t.num) + tw ps ≤ 1000000) := by
        have := hI.out.tw
        simp only [Go.Proofs.YtgfdgjkbcdmboabGreatDoor.tw, List.map_cons, List.sum_cons] at this
        exact this
      have HPL : Hid (ps.length ≤ 1000000) := by
        have h1 := tw_len ps
        have h2 := HTT.out
        show _ ≤ _
        omega
      have HLP := hidden hLp
      have HWb := hidden hWb
      have HSZ : Hid (∀ w', Below wb.heap.size wb w' → Calls Tryz.prog 49 #[v, .int .i64 (h : Int)] w' fun e w'' => e = .returned (.int .i64 (t.ents.length : Int)) ∧ Below w'.heap.size w' w'') := fun w' hb => by
        have := size_any (HV.out.grow hb) (h : Int)
        rwa [cat_nat, (tree_ok HWf.out t h HIt.out).sz] at this
      have HKD : Hid (∀ w', Below wb.heap.size wb w' → Calls Tryz.prog 57 #[v, .int .i64 (h : Int)] w' fun e w'' => e = .returned (.int .u8 (sdC cs h).kind) ∧ Below w'.heap.size w' w'') := fun w' hb => by
        have := kind_any (HV.out.grow hb) (h : Int)
        rwa [cat_nat] at this
      have hml : m = ps.length + 1 := e2
      subst hml
      obtain ⟨q, hq⟩ : ∃ q, q = ps.length := ⟨_, rfl⟩
      rw [← hq] at hcap hcell HLP HM0 HPL
      rw [← hq]
      have HQ := hidden hq
      have hqb := HPL.out
      obtain ⟨y, hy⟩ : ∃ y : Int, y = (h : Int) := ⟨_, rfl⟩
      rw [← hy] at hcell HKD HSZ
      have HY1 := hidden hy
      have hoa : o < 9223372036854775808 := by have := ho.out; have := HAH.out; omega
      have i0 : (0 : Int) ≤ (q : Int) := by omega
      have i1 : (q : Int) < (q : Int) + 1 := by omega
      have i1' : (q : Int) < ((q + 1 : Nat) : Int) := by omega
      have i2 : (q : Int) ≤ (tc : Int) := by omega
      have i3 : (0 : Int) < ((q + 1 : Nat) : Int) := by omega
      have hwm : wrap64 (q : Int) = (q : Int) := Go.IntWalk.wrap64_in _ (by omega)
      have cS : wr.cell? ⟨b3, 0, none⟩ = some v := by rw [hA.out.1.cell]; rfl
      have HJS : Hid (J pre ([b3, b4, b5] ++ [b]) wr) := hJs.out
      have HZW : Hid (∀ z ∈ [b3, b4, b5] ++ [b], z ∈ [b3, b4, b5] ∨ W.heap.size ≤ z) := fun z hz => by
        rcases List.mem_append.1 hz with hz | hz
        · exact .inl hz
        · obtain rfl : z = b := by simpa using hz
          exact .inr HWb.out
      have HST : Hid (∀ w', Below wr.heap.size wr w' → Lst w' 3 1 (.slice (some ⟨b, 0, none⟩) q tc) q (nats (ps.map (·.1)).reverse) ∧ J pre ([b3, b4, b5] ++ [b]) w' ∧ LvAt w' b3 b4 b5 v (root : Int) (ahead : Int) ∧ Below wb.heap.size wb w') := fun w' hb => ⟨lst_grow HLP.out hb, HJ.out _ _ _ _ _ HJS.out HZW.out (Mod.of_below hb _) (New.refl _ _), hA.out.grow hb, grow_trans hB.out hb⟩
      have HQE : Hid (ps.length = q) := hq.symm
      clear hI hm e2 hq hy hqb hLp hJs hWb HPL
      by_cases hsk : t.ents.length ≤ o
      · have hs1 : (t.ents.length : Int) ≤ (o : Int) := by omega
        have hws : wrap64 ((o : Int) - (t.ents.length : Int)) = ((o - t.ents.length : Nat) : Int) := by rw [Go.IntWalk.wrap64_in _ (by omega)]; omega
        have HSK : Hid (pre ++ (stL ps).drop (o - t.ents.length) = E) := by
          have := HEN.out
          rw [stL_skip h t ps o hsk] at this
          exact this
        have HO2 : Hid (o - t.ents.length ≤ ahead) := by have := ho.out; show _ ≤ _; omega
        clear hsk
        gi_wp2_with (first
          | (gi_at_call 49; refine (callsIn_wide.2 (HSZ.out _ hB.out)).mono ?_; rintro e w2 ⟨rfl, b2⟩; have HS2 := hidden (HST.out _ b2); clear b2))
        go_roundw
        case rel => exact ⟨pre, ps, o - t.ents.length, some ⟨b, 0, none⟩, q, tc, by first | rfl | go_num, rfl, HQ.out, HO2, ⟨by rw [HQE.out]; exact HS2.out.1, fun k hk => (by simp only [Value.ownBlock, Option.some.injEq] at hk; rw [← hk]; exact HWb.out), HIp.out, HSK.out, by have := HTT.out; omega⟩, HS2.out.2.1, HS2.out.2.2.1, HS2.out.2.2.2⟩
        case measure =>
          have hm : mea (.slice (some ⟨b, 0, none⟩) q tc) w2 = tw ps := HME.out _ _ _ ps HS2.out.1 HIp.out
          rw [hm, HM0.out]
          omega
      · have hs0 : ¬ (t.ents.length : Int) ≤ (o : Int) := by omega
        have HSK := hidden hsk
        clear hsk
        cases t with
        | emp =>
          have := HSK.out
          simp [Tre.ents] at this
        | lf K bs =>
          obtain ⟨h1, h2, h3, h4, h5⟩ := HIt.out
          have hsd : sdC cs h = ce cs (h - 1) := if_neg (by omega)
          rw [hsd, h3] at HKD
          have ho0 : o = 0 := by
            have := HSK.out
            simp only [Tre.ents, List.length_cons, List.length_nil] at this
            omega
          subst ho0
          have HEN1 : Hid (pre ++ [h] ++ (stL ps).drop 0 = E) := by
            have := HEN.out
            show _ = _
            rw [← this]
            simp [stL, Tre.lvs]
          have HLN : Hid (pre.length < T.ents.length) := by
            have h7 := HE0.out
            have h8 := congrArg List.length HEN1.out
            simp only [List.length_append, List.length_cons, List.length_nil] at h8
            show _ < _
            omega
          have HZL : Hid (∀ w', Below wr.heap.size wr w' → ∀ z ∈ [b3, b4, b5] ++ [b], (z ∈ [b3, b4, b5] ∨ W.heap.size ≤ z) ∧ z < w'.heap.size) := fun w' hb z hz => ⟨HZW.out z hz, by
            have hsz := hb.size
            have hlb : b < wr.heap.size := (HLP.out.lt b rfl).2
            rcases List.mem_append.1 hz with hz | hz
            · simp only [List.mem_cons, List.not_mem_nil, or_false] at hz
              rcases hz with rfl | rfl | rfl
              · exact Nat.lt_of_lt_of_le hA.out.1.lt hsz
              · exact Nat.lt_of_lt_of_le hA.out.2.1.lt hsz
              · exact Nat.lt_of_lt_of_le hA.out.2.2.lt hsz
            · obtain rfl : z = b := by simpa using hz
              omega⟩
          clear h1 h2 h3 h4 h5 hsd
          gi_wp2_with (first
            | (gi_at_call 49; refine (callsIn_wide.2 (HSZ.out _ hB.out)).mono ?_; rintro e w2 ⟨rfl, b2⟩; have HB2 := hidden b2; have cS2 : w2.cell? ⟨b3, 0, none⟩ = some v := below_cell b2 cS; have HW2 := hidden (grow_trans hB.out b2); clear b2)
            | (gi_at_call 57; refine (callsIn_wide.2 (HKD.out _ HW2.out)).mono ?_; rintro e w3 ⟨rfl, b3'⟩; have HB3 := hidden (grow_trans HB2.out b3'); clear b3'; have HS3 := hidden (HST.out _ HB3.out); obtain ⟨fn, tmps, assign, body, hy, hR⟩ := HY.out pre ([b3, b4, b5] ++ [b]) h w3 HS3.out.2.1 HLN.out (HZL.out _ HB3.out); rw [← HY1.out] at hy))
          refine hR.mono ?_
          rintro e W3 (⟨rfl, hJ3, hk3, hb3⟩ | ⟨rfl, hJx3⟩)
          · have hA3 : LvAt W3 b3 b4 b5 v (root : Int) (ahead : Int) := HS3.out.2.2.1.same (fun z hz => hk3 z (List.mem_append_left _ hz))
            have hL3 : Lst W3 3 1 (.slice (some ⟨b, 0, none⟩) q tc) q (nats (ps.map (·.1)).reverse) := by
              refine ⟨HS3.out.1.1, ?_⟩
              rcases HS3.out.1.2 with hh | ⟨g, cap, cur, e, hb, hgg, rest⟩
              · exact .inl hh
              · injection e with e1 _ e3
                injection e1 with e1
                injection e1 with e1
                subst e1
                subst e3
                exact .inr ⟨b, tc, cur, rfl, hb, (hk3 b (by simp)).trans hgg, rest⟩
            have HX3 := hidden (show Lst W3 3 1 (.slice (some ⟨b, 0, none⟩) q tc) q (nats (ps.map (·.1)).reverse) ∧ J (pre ++ [h]) ([b3, b4, b5] ++ [b]) W3 ∧ LvAt W3 b3 b4 b5 v (root : Int) (ahead : Int) ∧ Below wb.heap.size wb W3 from ⟨hL3, hJ3, hA3, HS3.out.2.2.2.trans hb3⟩)
            clear hJ3 hk3 hb3 hA3 hL3 hR hy
            gi_wp2
            go_roundw
            case rel => exact ⟨pre ++ [h], ps, 0, some ⟨b, 0, none⟩, q, tc, rfl, rfl, HQ.out, Nat.zero_le _, ⟨by rw [HQE.out]; exact HX3.out.1, fun k hk => (by simp only [Value.ownBlock, Option.some.injEq] at hk; rw [← hk]; exact HWb.out), HIp.out, HEN1.out, by have := HTT.out; omega⟩, HX3.out.2.1, HX3.out.2.2.1, HX3.out.2.2.2⟩
            case measure =>
              have hm : mea (.slice (some ⟨b, 0, none⟩) q tc) W3 = tw ps := HME.out _ _ _ ps HX3.out.1 HIp.out
              rw [hm, HM0.out]
              omega
          · clear hR hy
            gi_wp2
            refine bodyPost_ret (results_none rfl _ _ _) rfl ?_
            exact ⟨⟨_, rfl⟩, .inr ⟨_, ⟨_, HEN1.out⟩, hJx3⟩⟩
        | nd d hl hr L R =>
          obtain ⟨h1, h2, h3, h4, h5, h6, h7, h8⟩ := HIt.out
          have hsd : sdC cs h = ce cs (h - 1) := if_neg (by omega)
          rw [hsd, h3] at HKD
          have HSD : Hid (∀ w', Below wb.heap.size wb w' → Calls Tryz.prog 58 #[v, .int .i64 y] w' fun e w'' => e = .returned (.tuple #[.int .i64 (hl : Int), .int .i64 (hr : Int)]) ∧ Below w'.heap.size w' w'') := fun w' hb => by
            have := sides_any (HV.out.grow hb) (h : Int)
            rw [cat_nat, hsd, h5, h6, ← HY1.out] at this
            exact this
          have HI2 : Hid (∀ p ∈ (hl, L) :: (hr, R) :: ps, IsT cs p.1 p.2) := fun p hp => by
            rcases List.mem_cons.1 hp with rfl | hp
            · exact h7
            · rcases List.mem_cons.1 hp with rfl | hp
              · exact h8
              · exact HIp.out p hp
          have HEN1 : Hid (pre ++ (stL ((hl, L) :: (hr, R) :: ps)).drop o = E) := by
            have := HEN.out
            rw [stL_nd] at this
            exact this
          have HQB : Hid (q ≤ 1000000) := by
            have h1 := tw_len ps
            have h2 := HTT.out
            have h3 := HQ.out
            show _ ≤ _
            omega
          clear h1 h2 h3 h4 h5 h6 h7 h8 hsd
          gi_wp2_with (first
            | (gi_at_call 49; refine (callsIn_wide.2 (HSZ.out _ hB.out)).mono ?_; rintro e w2 ⟨rfl, b2⟩; have HB2 := hidden b2; have cS2 : w2.cell? ⟨b3, 0, none⟩ = some v := below_cell b2 cS; have HW2 := hidden (grow_trans hB.out b2); clear b2)
            | (gi_at_call 57; refine (callsIn_wide.2 (HKD.out _ HW2.out)).mono ?_; rintro e w3 ⟨rfl, b3'⟩; have HB3 := hidden (grow_trans HB2.out b3'); have cS3 : w3.cell? ⟨b3, 0, none⟩ = some v := below_cell b3' cS2; have HW3 := hidden (grow_trans HW2.out b3'); clear b3')
            | (gi_at_call 58; refine (callsIn_wide.2 (HSD.out _ HW3.out)).mono ?_; rintro e w4 ⟨rfl, b4'⟩; have HB4 := hidden (grow_trans (grow_trans HB3.out b4') (grow_alloc w4 (.cells #[.int .i64 (hr : Int), .int .i64 (hl : Int)] 3))); clear b4')
            | (gi_at_builtin; refine inList (.inl rfl) (fun c e => by cases e) (wpList_appL2 _ rfl _ _ _ rfl 3 1 8 Tryz.underlying39 info_nat (by omega) (.slice (some ⟨b, 0, none⟩) q tc) q (nats (ps.map (·.1)).reverse) rfl (HST.out _ HB4.out).1 w4.heap.size [Value.int .i64 (hr : Int), Value.int .i64 (hl : Int)] rfl (Blk.new _ _ _) rfl (by intro u hu; simp at hu; rcases hu with rfl | rfl <;> rfl) (by have := HQB.out; simp only [maxLen]; omega) (by have := HQB.out; omega) (fun v' w5 h5 g5 wh => ⟨rfl, ?_⟩)); obtain ⟨a5, c5, rfl⟩ := lst_slice h5))
          have HS4 := HST.out _ HB4.out
          have m5 : Mod [b] _ w5 := Mod.of_grown g5 (fun k hk => by
            simp only [Value.ownBlock, Option.some.injEq] at hk
            rw [← hk]
            simp)
          have hA5 : LvAt w5 b3 b4 b5 v (root : Int) (ahead : Int) := HS4.2.2.1.same (fun z hz => m5.block z (by
            simp only [List.mem_cons, List.not_mem_nil, or_false] at hz
            rcases hz with rfl | rfl | rfl
            · exact HS4.2.2.1.1.lt
            · exact HS4.2.2.1.2.1.lt
            · exact HS4.2.2.1.2.2.lt) (fun e => by
            have h1 := HBL.out z hz
            have h2 := HWb.out
            rw [List.mem_singleton.1 e] at h1
            omega))
          have hJ5 : J pre ([b3, b4, b5] ++ (Value.slice a5 (q + 2) c5).ownBlock.toList) w5 := HJ.out _ _ _ _ _ HS4.2.1 HZW.out (m5.mono (fun k hk => by rw [List.mem_singleton.1 hk]; simp)) (fun k hk => by
            rcases List.mem_append.1 hk with hk | hk
            · exact .inl (List.mem_append_left _ hk)
            · rcases wh with e | ⟨k', e, hk'⟩
              · rw [e] at hk
                exact .inl (List.mem_append_right _ (by simpa [Value.ownBlock] using hk))
              · rw [e] at hk
                obtain rfl : k = k' := by simpa using hk
                exact .inr hk')
          have hL5 : Lst w5 3 1 (.slice a5 (q + 2) c5) ((hl, L) :: (hr, R) :: ps).length (nats (((hl, L) :: (hr, R) :: ps).map (·.1)).reverse) := by
            rw [show (((hl, L) :: (hr, R) :: ps).map (·.1)).reverse = (ps.map (·.1)).reverse ++ [hr, hl] by simp, show nats ((ps.map (·.1)).reverse ++ [hr, hl]) = nats (ps.map (·.1)).reverse ++ [Value.int .i64 (hr : Int), Value.int .i64 (hl : Int)] by simp [nats], List.length_cons, List.length_cons, HQE.out]
            exact h5
          have hO5 : ∀ k, (Value.slice a5 (q + 2) c5).ownBlock = some k → W.heap.size ≤ k := fun k hk => by
            rcases wh with e | ⟨k', e, hk'⟩
            · rw [e] at hk
              simp only [Value.ownBlock, Option.some.injEq] at hk
              rw [← hk]
              exact HWb.out
            · rw [e] at hk
              injection hk with hk
              rw [← hk]
              have := HB4.out.size
              have := hB.out.size
              have h9 := (HLP.out.lt b rfl).2
              have := HWb.out
              omega
          have hB5 : Below wb.heap.size wb w5 := HS4.2.2.2.trans (m5.below (fun k hk => by
            rw [List.mem_singleton.1 hk]
            have := HWb.out
            have := HWB.out
            omega) HS4.2.2.2.size)
          have HX5 := hidden (show Lst w5 3 1 (.slice a5 (q + 2) c5) ((hl, L) :: (hr, R) :: ps).length (nats (((hl, L) :: (hr, R) :: ps).map (·.1)).reverse) ∧ J pre ([b3, b4, b5] ++ (Value.slice a5 (q + 2) c5).ownBlock.toList) w5 ∧ LvAt w5 b3 b4 b5 v (root : Int) (ahead : Int) ∧ Below wb.heap.size wb w5 ∧ (∀ k, (Value.slice a5 (q + 2) c5).ownBlock = some k → W.heap.size ≤ k) from ⟨hL5, hJ5, hA5, hB5, hO5⟩)
          have htw : tw ((hl, L) :: (hr, R) :: ps) = (1 + 2 * L.num) + ((1 + 2 * R.num) + tw ps) := by simp [Go.Proofs.YtgfdgjkbcdmboabGreatDoor.tw]
          have hnn : (Tre.nd d hl hr L R).num = 1 + (L.num + R.num) := rfl
          rw [hnn] at HM0 HTT
          have HTW := hidden htw
          clear HS4 m5 hA5 hJ5 hL5 hO5 hB5 h5 g5 wh htw hnn
          gi_wp2
          go_roundw
          case rel => exact ⟨pre, (hl, L) :: (hr, R) :: ps, o, a5, q + 2, c5, rfl, rfl, by show _ = _; simp [HQE.out], ho, ⟨HX5.out.1, HX5.out.2.2.2.2, HI2.out, HEN1.out, by have := HTT.out; rw [HTW.out]; omega⟩, HX5.out.2.1, HX5.out.2.2.1, HX5.out.2.2.2.1⟩
          case measure =>
            have hm : mea (.slice a5 (q + 2) c5) w5 = tw ((hl, L) :: (hr, R) :: ps) := HME.out _ _ _ _ HX5.out.1 HI2.out
            rw [hm, HM0.out, HTW.out]
            omega

end Go.Proofs.YtgfdgjkbcdmboabGreatDoor
