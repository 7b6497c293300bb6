/- Two maps of a walk's own beside a slab: how often each occupied slot is held, and what each occupied slot holds. -/
import Derived.Test.YtodigmmpodbpiaaSlabEA
import Derived.Maps.OwnSet
import Derived.Maps.RangeWalk
import Derived.Maps.OwnOps
import Derived.Maps.Views
namespace Go.Proofs.Ytodigmmpodbpiaa
set_option maxRecDepth 20000
open Go.RowKit

abbrev kl (x : Int) : Lit := .int .i64 x
theorem kl_key (x : Int) : WideAt.IsKeyLit (kl x) := trivial
theorem kl_ne {x y : Int} (h : x ≠ y) : kl x ≠ kl y := fun e => h (by injection e)
abbrev Wf (x : Int) : Prop := (Lit.int .i64 x).wf = true
theorem wf_nat (n : Nat) (h : n ≤ 2147483648) : Wf (n : Int) := by
  have := wrap64_wf (n : Int)
  rw [Go.IntWalk.wrap64_in _ (by omega)] at this
  exact this

theorem lit_inj {H : Type} {x y : Int} (h : (DataW.lit (.int .i64 x) : DataW H) = .lit (.int .i64 y)) : x = y := by
  simp only [DataW.lit.injEq, Lit.int.injEq, true_and] at h
  exact h

/-- How often a slot is held. -/
def cntS (qs : List Pl) (x : Int) : Nat := if 1 ≤ x then cnt qs (x - 1).toNat else 0
theorem cntS_at (qs : List Pl) (i : Nat) : cntS qs ((i : Int) + 1) = cnt qs i := by
  unfold cntS
  rw [if_pos (by omega), show ((i : Int) + 1 - 1).toNat = i by omega]
theorem cntS_vac {qs : List Pl} {x : Int} (h : Vac qs x) : cntS qs x = 0 := by
  unfold cntS
  split
  · exact h (x - 1).toNat (by omega)
  · rfl

theorem iK : Maps.Keyed Try.prog 3 := Maps.int_keyed Try.underlying3
theorem iKey {x : Int} (h : Wf x) : keyOf Try.prog 3 (.int .i64 x) = some (kl x) := Maps.keyOf_int_mk Try.underlying3 h

/-- The counts. -/
def CM (w : World) (b : Nat) (qs : List Pl) : Prop := ∃ (n : Nat) (D : DataW Unit), n ≤ 65536 ∧ w.ownsMap Try.prog 3 (plainElem Try.prog 3) b n D ∧ (∀ i, 0 < cnt qs i → ∀ z, D.atKey (kl ((i : Int) + 1)) z = .lit (.int .i64 (cnt qs i : Int))) ∧ (∀ x, Vac qs x → Maps.has D (kl x) = false) ∧ Maps.size D = occs qs

theorem owns_size {H : Type} {P : Program} {k : TypeId} {R : Value → Option (DataW H × List MemPlace)} {w : World} {b n m : Nat} {D : DataW H} (h : w.ownsMap P k R b n D) (hm : Maps.size D ≤ m) : w.ownsMap P k R b m D := by
  obtain ⟨es, clock, h1, h2, h3, rfl⟩ := h
  refine ⟨es, clock, h1, h2, ?_, rfl⟩
  simpa [Maps.size, length_sorted] using hm

theorem CM.lt {w : World} {b : Nat} {qs : List Pl} (h : CM w b qs) : b < w.heap.size := by
  obtain ⟨n, D, _, h, _⟩ := h
  exact h.lt
theorem CM.kept {w w' : World} {b : Nat} {qs : List Pl} {row : Option Nat} (h : CM w b qs) (hg : w.grownBy w' row) (hne : some b ≠ row) : CM w' b qs := by
  obtain ⟨n, D, h1, h2, h3⟩ := h
  exact ⟨n, D, h1, h2.kept hg hne, h3⟩
theorem CM.mod {w w' : World} {b : Nat} {qs : List Pl} {S : List Nat} (h : CM w b qs) (m : Mod S w w') (hn : b ∉ S) : CM w' b qs := by
  obtain ⟨n, D, h1, h2, h3⟩ := h
  obtain ⟨es, clock, k1, k2⟩ := h2
  exact ⟨n, D, h1, ⟨es, clock, (m.block b (Array.getElem?_eq_some_iff.1 k1).1 hn).trans k1, k2⟩, h3⟩
theorem CM.notCells {w : World} {b g : Nat} {qs : List Pl} {t : TypeId} {cs : Array Value} (h : CM w b qs) (hb : Blk w g t cs) : b ≠ g := by
  rintro rfl
  obtain ⟨n, D, _, ⟨es, clock, k1, _⟩, _⟩ := h
  unfold Blk at hb
  rw [k1] at hb
  cases hb
theorem CM.new (w : World) : CM (w.alloc (.map #[] 0)) w.heap.size [] := ⟨0, .map [], by omega, World.ownsMap_made w _ _ _, fun i hi => by simp [cnt] at hi, fun x _ => rfl, rfl⟩

theorem CM.look {w : World} {b : Nat} {qs : List Pl} (h : CM w b qs) {x : Int} (hx : Wf x) : (Instr.lookup 47 (.map (some b)) (.int .i64 x) false).run Try.prog w = .ok (.int .i64 (cntS qs x : Int)) w := by
  obtain ⟨n, D, _, h1, h2, h3, _⟩ := h
  obtain ⟨c, hrun, hat, _⟩ := h1.lookup_int iK Try.underlying47 Try.underlying3 (Try.zeroValue3 w) (iKey hx)
  rw [hrun]
  have e : c = (cntS qs x : Int) := by
    by_cases hv : Vac qs x
    · rw [Maps.atKey_of_not_has (h3 x hv)] at hat
      rw [cntS_vac hv]
      exact (lit_inj hat).symm
    · obtain ⟨i, hi, hc⟩ : ∃ i : Nat, x = (i : Int) + 1 ∧ 0 < cnt qs i := by
        apply Classical.byContradiction
        intro hn
        exact hv (fun i hi => Nat.eq_zero_of_not_pos (fun hp => hn ⟨i, hi, hp⟩))
      subst hi
      have h2i := h2 i hc (.lit (.int .i64 0))
      rw [cntS_at]
      rw [h2i] at hat
      exact (lit_inj hat).symm
  rw [e]
theorem CM.len {w : World} {b : Nat} {qs : List Pl} (h : CM w b qs) (ty : TypeId) : (Builtin.len_ #[47] ty #[.map (some b)]).run Try.prog w = .ok (.int .i64 (occs qs : Int)) w := by
  obtain ⟨n, D, _, h1, _, _, h4⟩ := h
  rw [h1.len Try.underlying47 ty, h4]

/-- A slot's count written. -/
theorem CM.put {w : World} {b : Nat} {qs qs' : List Pl} (h : CM w b qs) (i c : Nat) (hc : 0 < c) (hcm : c ≤ 2147483648) (him : i + 1 ≤ 2147483648) (hq : ∀ j, cnt qs' j = if j = i then c else cnt qs j) (ho : occs qs' = if 0 < cnt qs i then occs qs else occs qs + 1) (hl : occs qs' ≤ 65536) :
    ∃ w', (Instr.mapUpdate 47 (.map (some b)) (.int .i64 ((i : Int) + 1)) (.int .i64 (c : Int))).run Try.prog w = .ok () w' ∧ CM w' b qs' ∧ w.grownBy w' (some b) := by
  obtain ⟨n, D, h0, h1, h2, h3, h4⟩ := h
  have hwf : Wf ((i : Int) + 1) := wf_nat (i + 1) him
  obtain ⟨w', hrun, hown, hg⟩ := h1.update iK Try.underlying47 (by simp only [maxLen]; omega) (iKey hwf) (plainElem_int (H := Unit) Try.underlying3 (wf_nat c hcm))
  refine ⟨w', hrun, ?_, hg⟩
  have hsz : Maps.size (D.put (kl ((i : Int) + 1)) (.lit (.int .i64 (c : Int)))) = occs qs' := by
    rw [Maps.size_put (h1.tidy iK), h4, ho]
    by_cases hp : 0 < cnt qs i
    · have : Maps.has D (kl ((i : Int) + 1)) = true := Maps.has_true_of_atKey (fun z => h2 i hp z)
      rw [this, if_pos hp]
      simp
    · have : Maps.has D (kl ((i : Int) + 1)) = false := h3 _ (fun j hj => by obtain rfl : j = i := (by omega); omega)
      rw [this, if_neg hp]
      simp
  refine ⟨65536, _, Nat.le_refl _, owns_size hown (by rw [hsz]; exact hl), fun j hj z => ?_, fun x hx => ?_, hsz⟩
  · rw [hq] at hj ⊢
    split
    · next e =>
      subst e
      exact Maps.atKey_put_same h1.isMap (kl_key _) _ _
    · next e =>
      rw [if_neg e] at hj
      rw [Maps.atKey_put_other (kl_ne (by omega))]
      exact h2 j hj z
  · have hne : x ≠ (i : Int) + 1 := fun e => by
      have := hx i e
      rw [hq, if_pos rfl] at this
      omega
    rw [Maps.has_put_other (kl_ne hne)]
    refine h3 x (fun j hj => ?_)
    have := hx j hj
    rw [hq] at this
    split at this
    · omega
    · exact this

/-- A slot's count struck out. -/
theorem CM.del {w : World} {b : Nat} {qs qs' : List Pl} (h : CM w b qs) (x : Int) (hx : Wf x) (hq : ∀ j : Nat, cnt qs' j = if (j : Int) + 1 = x then 0 else cnt qs j) (ho : occs qs' + (if 0 < cntS qs x then 1 else 0) = occs qs) (ty : TypeId) :
    ∃ w', (Builtin.delete_ #[47, 3] ty #[.map (some b), .int .i64 x]).run Try.prog w = .ok (.tuple #[]) w' ∧ CM w' b qs' ∧ w.grownBy w' (some b) := by
  obtain ⟨n, D, h0, h1, h2, h3, h4⟩ := h
  obtain ⟨w', hrun, hown, hg⟩ := h1.drop iK Try.underlying47 (iKey hx) ty
  refine ⟨w', hrun, ⟨n, _, h0, hown, fun j hj z => ?_, fun y hy => ?_, ?_⟩, hg.grown⟩
  · rw [hq] at hj ⊢
    split at hj
    · omega
    · next e =>
      rw [if_neg e, Maps.atKey_del_other (kl_ne e)]
      exact h2 j hj z
  · by_cases e : y = x
    · subst e
      exact Maps.has_del_same
    · rw [Maps.has_del_other (kl_ne e)]
      refine h3 y (fun j hj => ?_)
      have := hy j hj
      rw [hq, if_neg (by omega)] at this
      exact this
  · have hsd := Maps.size_del (k := kl x) (h1.tidy iK)
    have hhas : Maps.has D (kl x) = decide (0 < cntS qs x) := by
      by_cases hv : Vac qs x
      · rw [h3 x hv, cntS_vac hv]
        rfl
      · obtain ⟨i, hi, hc⟩ : ∃ i : Nat, x = (i : Int) + 1 ∧ 0 < cnt qs i := by
          apply Classical.byContradiction
          intro hn
          exact hv (fun i hi => Nat.eq_zero_of_not_pos (fun hp => hn ⟨i, hi, hp⟩))
        subst hi
        rw [cntS_at, Maps.has_true_of_atKey (fun z => h2 i hc z)]
        simp [hc]
    rw [hhas] at hsd
    simp only [decide_eq_true_eq] at hsd
    omega

/-- The things: any value reads as itself. -/
def RV (v : Value) : Option (DataW Value × List MemPlace) := some (.held v, [])
def TM (w : World) (b m : Nat) (qs : List Pl) : Prop := ∃ (n : Nat) (D : DataW Value), n ≤ m ∧ w.ownsMap Try.prog 3 RV b n D ∧ (∀ i, 0 < cnt qs i → ∀ z, D.atKey (kl ((i : Int) + 1)) z = .held (.agg (thg qs i).toArray))

theorem TM.lt {w : World} {b m : Nat} {qs : List Pl} (h : TM w b m qs) : b < w.heap.size := by
  obtain ⟨n, D, _, h, _⟩ := h
  exact h.lt
theorem TM.kept {w w' : World} {b m : Nat} {qs : List Pl} {row : Option Nat} (h : TM w b m qs) (hg : w.grownBy w' row) (hne : some b ≠ row) : TM w' b m qs := by
  obtain ⟨n, D, h1, h2, h3⟩ := h
  exact ⟨n, D, h1, h2.kept hg hne, h3⟩
theorem TM.mod {w w' : World} {b m : Nat} {qs : List Pl} {S : List Nat} (h : TM w b m qs) (mm : Mod S w w') (hn : b ∉ S) : TM w' b m qs := by
  obtain ⟨n, D, h1, h2, h3⟩ := h
  obtain ⟨es, clock, k1, k2⟩ := h2
  exact ⟨n, D, h1, ⟨es, clock, (mm.block b (Array.getElem?_eq_some_iff.1 k1).1 hn).trans k1, k2⟩, h3⟩
theorem TM.notCells {w : World} {b g m : Nat} {qs : List Pl} {t : TypeId} {cs : Array Value} (h : TM w b m qs) (hb : Blk w g t cs) : b ≠ g := by
  rintro rfl
  obtain ⟨n, D, _, ⟨es, clock, k1, _⟩, _⟩ := h
  unfold Blk at hb
  rw [k1] at hb
  cases hb
theorem TM.new (w : World) : TM (w.alloc (.map #[] 0)) w.heap.size 0 [] := ⟨0, .map [], by omega, World.ownsMap_made w _ _ _, fun i hi => by simp [cnt] at hi⟩
theorem TM.same {w : World} {b m m' : Nat} {qs qs' : List Pl} (h : TM w b m qs) (hm : m ≤ m') (hq : ∀ i, 0 < cnt qs' i → 0 < cnt qs i ∧ thg qs' i = thg qs i) : TM w b m' qs' := by
  obtain ⟨n, D, h1, h2, h3⟩ := h
  refine ⟨n, D, by omega, h2, fun i hi z => ?_⟩
  obtain ⟨k1, k2⟩ := hq i hi
  rw [k2]
  exact h3 i k1 z
theorem TM.look {w : World} {b m : Nat} {qs : List Pl} (h : TM w b m qs) (i : Nat) (hi : 0 < cnt qs i) (him : i + 1 ≤ 2147483648) : (Instr.lookup 46 (.map (some b)) (.int .i64 ((i : Int) + 1)) false).run Try.prog w = .ok (.agg (thg qs i).toArray) w := by
  obtain ⟨n, D, _, h1, h2⟩ := h
  obtain ⟨v, ps, hrun, hR⟩ := h1.lookup iK Try.underlying46 (zero_thA w) (zd := .held (.agg #[.int .i64 0, .int .i64 0, .int .i64 0])) (zp := []) rfl (iKey (show Wf ((i : Int) + 1) from wf_nat (i + 1) him))
  rw [hrun]
  rw [h2 i hi] at hR
  unfold RV at hR
  injection hR with hR
  injection hR with hR _
  injection hR with hR
  rw [hR]
theorem TM.put {w : World} {b m : Nat} {qs qs' : List Pl} (h : TM w b m qs) (hm : m ≤ 65536) (i : Nat) (xs : List Value) (him : i + 1 ≤ 2147483648) (hq : ∀ j, 0 < cnt qs' j → (j = i ∧ thg qs' j = xs) ∨ (j ≠ i ∧ 0 < cnt qs j ∧ thg qs' j = thg qs j)) :
    ∃ w', (Instr.mapUpdate 46 (.map (some b)) (.int .i64 ((i : Int) + 1)) (.agg xs.toArray)).run Try.prog w = .ok () w' ∧ TM w' b (m + 1) qs' ∧ w.grownBy w' (some b) := by
  obtain ⟨n, D, h0, h1, h2⟩ := h
  obtain ⟨w', hrun, hown, hg⟩ := h1.update iK Try.underlying46 (by simp only [maxLen]; omega) (iKey (show Wf ((i : Int) + 1) from wf_nat (i + 1) him)) (val := .agg xs.toArray) (d := .held (.agg xs.toArray)) (ps := []) rfl
  refine ⟨w', hrun, ⟨n + 1, _, by omega, hown, fun j hj z => ?_⟩, hg⟩
  rcases hq j hj with ⟨rfl, e⟩ | ⟨e, k1, k2⟩
  · rw [e]
    exact Maps.atKey_put_same h1.isMap (kl_key _) _ _
  · rw [k2, Maps.atKey_put_other (kl_ne (by omega))]
    exact h2 j k1 z

end Go.Proofs.Ytodigmmpodbpiaa
