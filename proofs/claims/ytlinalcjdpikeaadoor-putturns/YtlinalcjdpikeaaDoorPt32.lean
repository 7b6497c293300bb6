/- Entries appended to entries, all at once. -/
import Derived.Test.YtlinalcjdpikeaaDoorPt31
import Derived.Test.YtlinalcjdpikeaaDoorPt01
import Derived.Test.YtlinalcjdpikeaaDoorRows
import Derived.ProofKit
import Derived.OpenShut
import Derived.ShutString
import Derived.ChangeOld
import Derived.Below
import Derived.SizedLaws
namespace Go.Proofs.YtlinalcjdpikeaaDoor
set_option maxRecDepth 20000
open Go.RowKit

theorem run_appPs9 (ty : TypeId) (w : World) (base base2 : Nat) (v1 v2 : Value) (n1 n2 : Nat) (xs1 xs2 : List Value) (h1 : w.ownsRow base 45 33 v1 n1 xs1) (h2 : w.ownsRow base2 45 33 v2 n2 xs2) (hc : ∀ u ∈ xs2, u.oneCell' = true) (hn : n1 + n2 ≤ 65536) (hbase : base ≤ w.heap.size) :
    ∃ v' w', (Builtin.append_ #[39, 39] ty #[v1, v2]).run Tryd.prog w = .ok v' w' ∧ w'.ownsRow base 45 33 v' (n1 + n2) (xs1 ++ xs2) ∧ w.grownBy w' v1.ownBlock := by
  obtain ⟨i, z, hi, hz, hsz, hby, hzs⟩ := info_pair
  rcases h2.2 with ⟨rfl, rfl⟩ | ⟨g2, cap2, cur2, rfl, hb2, hg2, hnc2, hcm2, hcs2, ht2⟩
  · have e : xs2 = [] := by have := h2.1; simpa using this
    subst e
    refine ⟨v1, w, ?_, by simpa using h1, World.grownBy.refl _ _⟩
    have ht : Tryd.prog.underlying 39 = some (.slice 45) := Tryd.underlying39
    rcases h1.2 with ⟨rfl, rfl⟩ | ⟨g, cap, cur, rfl, hb, hg, hnc, hcm, hcs, htk⟩
    · simp [Builtin.append_, run_underlying ht, sizeOf, typeInfo, hi, Builtin.lenOf, Builtin.firstCells]
    · simp [Builtin.append_, run_underlying ht, sizeOf, typeInfo, hi, Builtin.lenOf, Builtin.firstCells, hnc, storeCells]
  · obtain ⟨v', w', hr, q1, q2, _⟩ := run_append_own (P := Tryd.prog) w base 39 ty 45 i z 33 56 Tryd.underlying39 hi hz hsz hby hzs (by omega) v1 n1 xs1 h1 ⟨g2, 0, none⟩ n2 cap2 xs2 (by rw [h2.1]) (fun j u hu => h2.cells (g := g2) rfl j u hu) hc (by simp only [maxLen]; omega) (by omega) hbase
    exact ⟨v', w', hr, q1, q2⟩

/-- []api.Pair{}: a new list of no entries. -/
theorem wpList_bs09 {ops : Array Oper} {rest : List Oper} {op : Oper} {a : Act} {Q : Exit → Act → World → Prop} (w : World) (hgd : op.guard = none) (ho : op.op = .buildSlice 39 0 #[])
    (hk : ∀ w' g, w.heap.size ≤ g → w'.ownsRow w.heap.size 45 33 (.slice (some ⟨g, 0, none⟩) 0 0) 0 [] → Below w.heap.size w w' → wpList Tryd.prog ops Q rest (a.put op.dst (.slice (some ⟨g, 0, none⟩) 0 0)) w') : wpList Tryd.prog ops Q (op :: rest) a w := by
  refine wpList_plain hgd fun K hK => ?_
  obtain ⟨i, z, hi, hz, hs, _, hzs⟩ := info_pair
  have ht : Tryd.prog.underlying 39 = some (.slice 45) := Tryd.underlying39
  have hrun : (Instr.buildSlice 39 0 #[]).run Tryd.prog w = .ok (.slice (some ⟨w.heap.size, 0, none⟩) 0 0) (w.alloc (.cells #[] 45)) := by
    have he : ∀ f : Nat → Value, Array.map f (Array.range 0) = #[] := fun f => Array.eq_empty_of_size_eq_zero (by simp)
    simp [Instr.buildSlice, run_underlying ht, sizeOf, typeInfo, hi, Instr.fill, newRow, he]
  unfold Oper.wp execOp
  simp only [ho, List.map_toArray, List.map_nil, Sem.run_bind, hrun, Result.andThen_ok, Sem.run_pure]
  refine hK _ _ (hk _ w.heap.size (Nat.le_refl _) ⟨rfl, .inr ⟨w.heap.size, 0, #[], rfl, Nat.le_refl _, Blk.new _ _ _, Nat.le_refl _, by simp only [maxLen]; omega, rfl, rfl⟩⟩ (grow_alloc w _))

/-- append of entries to entries. -/
theorem wpList_appPs9 {ops : Array Oper} {rest : List Oper} {o : Oper} {a : Act} {Q : Exit → Act → World → Prop} (w : World) (hgd : o.guard = none) (s x : Operand)
    (hop : o.op = .call { callee := .builtin .append, args := #[s, x], argTypes := #[39, 39] })
    (base base2 : Nat) (v1 v2 : Value) (n1 n2 : Nat) (xs1 xs2 : List Value) (hs : a.eval s = v1) (hx : a.eval x = v2) (h1 : w.ownsRow base 45 33 v1 n1 xs1) (h2 : w.ownsRow base2 45 33 v2 n2 xs2) (hc : ∀ u ∈ xs2, u.oneCell' = true) (hn : n1 + n2 ≤ 65536) (hbase : base ≤ w.heap.size)
    (hk : ∀ v' w', w'.ownsRow base 45 33 v' (n1 + n2) (xs1 ++ xs2) → w.grownBy w' v1.ownBlock → wpList Tryd.prog ops Q rest (a.put o.dst v') w') : wpList Tryd.prog ops Q (o :: rest) a w := by
  refine wpList_plain hgd fun K hK => ?_
  obtain ⟨v', w', hr, q1, q2⟩ := run_appPs9 o.type w base base2 v1 v2 n1 n2 xs1 xs2 h1 h2 hc hn hbase
  unfold Oper.wp execOp
  simp only [hop, resolve, invoke, builtin, Sem.run_bind, Sem.run_pure, Result.andThen_ok, List.map_toArray, List.map_cons, List.map_nil, hs, hx, hr]
  exact hK _ _ (hk v' w' q1 q2)

end Go.Proofs.YtlinalcjdpikeaaDoor

/- What PutTurns' walk keeps: two roots in one store. -/
namespace Go.Proofs.YtlinalcjdpikeaaDoor
set_option maxRecDepth 20000
open Go.RowKit

theorem upE_new {l : List Ent} {K bs : List Int} (h : ∀ e ∈ l, e.1 ≠ K) : (upE l K bs).Perm (l ++ [(K, bs)]) := by
  have hf : l.filter (fun a : Ent => !(a.1 == K)) = l := List.filter_eq_self.2 (fun y hy => by
    have := h y hy
    simpa using this)
  unfold upE
  rw [hf]
  exact List.perm_append_comm (l₁ := [(K, bs)])

theorem rt_stay {cs cs' : List (Nat × Ce)} {x : Nat} {X : Tre} (r : Rt cs x X) (hkeep : ∀ x X, IsT cs x X → (x = 0 ∨ 0 < cc cs' (x - 1)) → IsT cs' x X) (hc : x = 0 ∨ 0 < own cs' [] (x - 1)) : Rt cs' x X := by
  by_cases h0 : x = 0
  · subst h0
    match X, r.tree with
    | .emp, _ => exact Rt.zero cs'
    | .lf _ _, h => have := h.1; omega
    | .nd _ _ _ _ _, h => have := h.1; omega
  · have ho := hc.resolve_left h0
    have h8 : 0 < cc cs' (x - 1) := by
      unfold own at ho
      omega
    have h9 := hkeep x X r.tree (.inr h8)
    refine ⟨h9, fun q => ?_, .inr ho⟩
    match X, r.tree, h9 with
    | .emp, e, _ => exact absurd e h0
    | .lf _ _, _, e => rw [sdC, if_neg h0] at q; have := e.2.2.1; omega
    | .nd d _ _ _ _, e0, e =>
      have hk : (sdC cs x).kind = 2 := by rw [sdC, if_neg h0]; exact e0.2.2.1
      have := r.dp hk
      rw [sdC, if_neg h0] at this ⊢
      rw [e.2.2.2.1, ← e0.2.2.2.1]
      exact this

/-- Behind k writes of the first list, and behind k of the second. -/
def Tn1 (w1 w : World) (g gs : Nat) (L : List Ent) (k one : Nat) : Prop := ∃ cs fr T, Hs w1 [] w g gs 10320 cs fr ∧ Rt cs one T ∧ T.ents.Perm (L.take k) ∧ (∀ i, own cs [] i ≤ k) ∧ noc cs ≤ 257 * k
def Tn2 (w1 w : World) (g gs : Nat) (L M : List Ent) (m k one two : Nat) : Prop := ∃ cs fr T U, Hs w1 [] w g gs 10320 cs fr ∧ Rt cs one T ∧ T.ents.Perm L ∧ Rt cs two U ∧ U.ents.Perm (M.take k) ∧ (∀ i, own cs [] i ≤ m + k) ∧ noc cs ≤ 257 * (m + k) ∧ (one = 0 ∨ 1 + (if two = one then 1 else 0) ≤ own cs [] (one - 1))

theorem Tn1.low {w1 w : World} {g gs : Nat} {L : List Ent} {k one : Nat} (h : Tn1 w1 w g gs L k one) : Below w1.heap.size w1 w := by
  obtain ⟨cs, fr, T, h, _⟩ := h
  exact h.low
theorem Tn2.low {w1 w : World} {g gs : Nat} {L M : List Ent} {m k one two : Nat} (h : Tn2 w1 w g gs L M m k one two) : Below w1.heap.size w1 w := by
  obtain ⟨cs, fr, T, U, h, _⟩ := h
  exact h.low
theorem Tn2.grow {w1 w w' : World} {g gs : Nat} {L M : List Ent} {m k one two : Nat} (h : Tn2 w1 w g gs L M m k one two) (hb : Below w.heap.size w w') : Tn2 w1 w' g gs L M m k one two := by
  obtain ⟨cs, fr, T, U, h, q⟩ := h
  exact ⟨cs, fr, T, U, h.grow hb, q⟩
theorem Tn1.grow {w1 w w' : World} {g gs : Nat} {L : List Ent} {k one : Nat} (h : Tn1 w1 w g gs L k one) (hb : Below w.heap.size w w') : Tn1 w1 w' g gs L k one := by
  obtain ⟨cs, fr, T, h, q⟩ := h
  exact ⟨cs, fr, T, h.grow hb, q⟩

theorem take_new {L : List Ent} (ha : L.Pairwise fun a b => a.1 ≠ b.1) {k : Nat} {e : Ent} (he : L[k]? = some e) : (∀ x ∈ L.take k, x.1 ≠ e.1) ∧ L.take (k + 1) = L.take k ++ [e] := by
  obtain ⟨hk, hl⟩ := List.getElem?_eq_some_iff.1 he
  refine ⟨fun x hx => ?_, by rw [List.take_add_one, he]; rfl⟩
  obtain ⟨j, hj, rfl⟩ := List.mem_take_iff_getElem.1 hx
  rw [← hl]
  exact List.pairwise_iff_getElem.1 ha j k (by omega) hk (by omega)

section
variable {w1 w : World} {g gs : Nat} {L M : List Ent} {m k one two : Nat} {K bs : List Int} {u : Value}
theorem tn_put1 (h : Tn1 w1 w g gs L k one) (ha : L.Pairwise fun a b => a.1 ≠ b.1) (hk : k < 16) (he : L[k]? = some (K, bs)) (hK : Key K) (hu : ∀ w', Below w1.heap.size w1 w' → Reads w' u bs) (hL : ∀ w', Below w1.heap.size w1 w' → Laid w') (hl : bs.length ≤ 1024) :
    Calls Tryd.prog 5 #[.pointer (some ⟨g, 0, none⟩), .int .i64 (one : Int), .agg (B K), u] w fun e w' => ∃ (ty : Int) (tn : Nat), e = .returned (.tuple #[.int .i64 ty, .int .i64 0]) ∧ ty = (tn : Int) ∧ Tn1 w1 w' g gs L (k + 1) tn := by
  obtain ⟨cs, fr, T, H, r, hp, ho, hn⟩ := h
  obtain ⟨ss, hss, h256⟩ := r.bes H.2 hK
  obtain ⟨t1, t2⟩ := take_new ha he
  refine (put_any H r hK (kq_nil hu) (kq_nil hL) hl (fun i => by have := ho i; omega) (by omega) hss).mono ?_
  rintro e w' ⟨top, cs', fr', T', rfl, p, h'⟩
  have hcn : costN T K bs ss ≤ 257 := by
    unfold costN
    split <;> omega
  refine ⟨_, top, rfl, rfl, cs', fr', T', h', p.rt, ?_, fun i => own_step (p.own i) (ho i) (by omega), by have := p.noc; omega⟩
  rw [t2]
  exact (p.ents.trans (upE_perm hp K bs)).trans (upE_new t1)

theorem tn_put2 (h : Tn2 w1 w g gs L M m k one two) (ha : M.Pairwise fun a b => a.1 ≠ b.1) (hm : m ≤ 16) (hk : k < 16) (he : M[k]? = some (K, bs)) (hK : Key K) (hu : ∀ w', Below w1.heap.size w1 w' → Reads w' u bs) (hL : ∀ w', Below w1.heap.size w1 w' → Laid w') (hl : bs.length ≤ 1024) :
    Calls Tryd.prog 5 #[.pointer (some ⟨g, 0, none⟩), .int .i64 (two : Int), .agg (B K), u] w fun e w' => ∃ (ty : Int) (tn : Nat), e = .returned (.tuple #[.int .i64 ty, .int .i64 0]) ∧ ty = (tn : Int) ∧ Tn2 w1 w' g gs L M m (k + 1) one tn := by
  obtain ⟨cs, fr, T, U, H, r, hp, r2, hp2, ho, hn, hh⟩ := h
  obtain ⟨ss, hss, h256⟩ := r2.bes H.2 hK
  obtain ⟨t1, t2⟩ := take_new ha he
  refine (put_any H r2 hK (kq_nil hu) (kq_nil hL) hl (fun i => by have := ho i; omega) (by omega) hss).mono ?_
  rintro e w' ⟨top, cs', fr', T', rfl, p, h'⟩
  have hcn : costN U K bs ss ≤ 257 := by
    unfold costN
    split <;> omega
  have hh' : one = 0 ∨ 1 + (if top = one then 1 else 0) ≤ own cs' [] (one - 1) := by
    rcases hh with e | e
    · exact .inl e
    · by_cases h0 : one = 0
      · exact .inl h0
      · refine .inr ?_
        have := p.own (one - 1)
        rw [show one - 1 + 1 = one by omega] at this
        omega
  refine ⟨_, top, rfl, rfl, cs', fr', T, T', h', rt_stay r p.keep (hh'.imp id (fun q => by omega)), hp, p.rt, ?_, fun i => own_step (p.own i) (ho i) (by omega), by have := p.noc; omega, hh'⟩
  rw [t2]
  exact (p.ents.trans (upE_perm hp2 K bs)).trans (upE_new t1)

theorem tn_same (h : Tn2 w1 w g gs L M m k one two) (hm : m + k ≤ 32) (he : (K, bs) ∈ L) (hK : Key K) (hu : Reads w u bs) (hl : bs.length ≤ 1024) :
    Calls Tryd.prog 5 #[.pointer (some ⟨g, 0, none⟩), .int .i64 (one : Int), .agg (B K), u] w fun e w' => e = .returned (.tuple #[.int .i64 (one : Int), .int .i64 0]) ∧ Below w.heap.size w w' := by
  obtain ⟨cs, fr, T, U, H, r, hp, r2, hp2, ho, hn, hh⟩ := h
  have hsm := efin_key H.2 K T one r.tree (K, bs) (hp.mem_iff.2 he) rfl
  exact put_same H one T r.tree K hK u bs hu (r.refuse hl) r.root (by omega) hsm

theorem tn_end (h : Tn2 w1 w g gs L M m k one two) (hM : (M.take k).Perm L) : ∃ (D : List Int) (o : Nat), D.length = 32 ∧ (∀ w', Below w.heap.size w w' → Laid w' → Calls Tryd.prog 15 #[.pointer (some ⟨g, 0, none⟩), .int .i64 (one : Int)] w' fun e w'' => e = .returned (.agg (B D)) ∧ Below w'.heap.size w' w'') ∧ (∀ w', Below w.heap.size w w' → Laid w' → Calls Tryd.prog 15 #[.pointer (some ⟨g, 0, none⟩), .int .i64 (two : Int)] w' fun e w'' => e = .returned (.agg (B D)) ∧ Below w'.heap.size w' w'') ∧ ∀ w', Below w.heap.size w w' → Calls Tryd.prog 14 #[.pointer (some ⟨g, 0, none⟩)] w' fun e w'' => e = .returned (.int .i64 (o : Int)) ∧ Below w'.heap.size w' w'' := by
  obtain ⟨cs, fr, T, U, H, r, hp, r2, hp2, ho, hn, hh⟩ := h
  have hd : ∀ x X, Rt cs x X → vDg true (cat cs) (x : Int) = rt 256 0 X.ents := fun x X rx => by
    have e1 : vDg true (cat cs) (x : Int) = sdD cs x := by
      unfold vDg sdD
      by_cases h0 : x = 0
      · subst h0
        rfl
      · rw [if_neg (by omega), if_neg h0, cat_nat, sdC, if_neg h0]
    rw [e1, rx.dig H.2]
  have e12 : rt 256 0 U.ents = rt 256 0 T.ents := rt_perm _ _ _ _ ((hp2.trans hM).trans hp.symm)
  refine ⟨rt 256 0 T.ents, noc cs, ?_, fun w' hb hl => ?_, fun w' hb hl => ?_, fun w' hb => hs_occ (H.grow hb)⟩
  · rw [← hd one T r]
    exact (vDg_len H.vw _).1
  · have := sdig_any (H.grow hb).vw (one : Int) hl
    rwa [hd one T r] at this
  · have := sdig_any (H.grow hb).vw (two : Int) hl
    rwa [hd two U r2, e12] at this
end

end Go.Proofs.YtlinalcjdpikeaaDoor

/- What every statement's proof asks of the program as a whole. -/
namespace Go.Proofs.YtlinalcjdpikeaaDoor
set_option maxRecDepth 20000
open Go.ChangeShapes Go.WideShapes Go.ChangeAt Go.RowKit

theorem ownK : ownKnob Tryd.prog.godebug = none := by kernel_rfl
theorem laidOut : laidOutB Tryd.prog = true := by kernel_rfl

theorem okWide_st {t : TypeId} {fs : Array Field} {W : World} {base : Nat} {v : Value} (ht : Tryd.prog.underlying t = some (.struct fs)) (h : Value.okWide Tryd.prog W .any base t v) : ∃ cs, v = .agg cs := by
  unfold Value.okWide at h
  cases v <;> simp_all

end Go.Proofs.YtlinalcjdpikeaaDoor
