/- What an argument is in memory that is a call of a store's, or a list of them. -/
import Derived.Test.YtjikgagaalbaeaaGreatDoorTr36
import Derived.Test.YtjikgagaalbaeaaGreatDoorTr38
import Derived.Test.YtjikgagaalbaeaaGreatDoorTr39
import Derived.Test.YtjikgagaalbaeaaGreatDoorTr37
import Derived.ChangeSame
import Derived.Deep.Slices
import Derived.Maps.OwnSet
import Derived.Maps.RangeWalk
import Derived.Maps.OwnOps
import Derived.Maps.Views
namespace Go.Proofs.YtjikgagaalbaeaaGreatDoor
set_option maxRecDepth 20000
open Go.ChangeShapes Go.WideShapes Go.ChangeAt Go.RowKit

/-- A call: what is asked, its key, its value's slice and bytes, its depth and handles. -/
structure Ac where
  k : Int
  K : List Int
  v : Value
  bs : List Int
  d : Int
  x : Int
  y : Int
def acL (q : Ac) : List Value := azL q.k q.K q.v q.d q.x q.y
instance : Inhabited Ac := ⟨⟨0, z32, .slice none 0 0, [], 0, 0, 0⟩⟩

theorem cells_act7 : Tryz.prog.cellsOf 34 = 37 := by kernel_rfl

theorem cells_intS : Tryz.prog.cellsOf 3 = 1 := by kernel_rfl

theorem cells_slS : Tryz.prog.cellsOf 32 = 1 := by kernel_rfl

theorem bytesOf_act7 : Tryz.prog.bytesOf 34 = 88 := by kernel_rfl

theorem weights_allS {H : Type} {P : Program} {e : TypeId} {d : DataW H} {n : Nat} (hn : n ∈ d.weights P e) : ∀ l : List (DataW H), d ∈ l → n ∈ DataW.weightsAll P e l
  | [], h => by simp at h
  | x :: r, h => by
    simp only [DataW.weightsAll, List.mem_append]
    rcases List.mem_cons.1 h with rfl | h
    · exact .inl hn
    · exact .inr (weights_allS hn r h)

theorem one_of (cs : List Value) (i : Nat) (h : i < cs.length) : ∃ u, (cs.drop i).take 1 = [u] ∧ cs[i]? = some u := by
  refine ⟨cs[i], ?_, List.getElem?_eq_getElem h⟩
  rw [List.drop_eq_getElem_cons h]
  rfl

/-- The cells of a call that came in. -/
theorem trod_act7 {H : Type} {enc : TypeId × Value → H} {W : World} {fuel : Nat} {cs : List Value} {z : DataW H × List MemPlace} (h : DataW.trod enc Tryz.prog W 0 (fun _ => true) true fuel 34 cs = some z) (hw : ∀ m ∈ z.1.weights Tryz.prog 34, m ≤ reachBytes) :
    ∃ q : Ac, cs = acL q ∧ Key q.K ∧ Reads W q.v q.bs ∧ q.bs.length ≤ 140737488355328 - 4096 := by
  have hF : ∃ f0 f1 f2 f3 f4 f5 : Field, Tryz.prog.underlying 34 = some (.struct #[f0, f1, f2, f3, f4, f5]) ∧ (f0.type = 3 ∧ f0.offset = 0) ∧ (f1.type = 31 ∧ f1.offset = 1) ∧ (f2.type = 32 ∧ f2.offset = 33) ∧ (f3.type = 3 ∧ f3.offset = 34) ∧ (f4.type = 3 ∧ f4.offset = 35) ∧ (f5.type = 3 ∧ f5.offset = 36) := ⟨_, _, _, _, _, _, Tryz.underlying34, ⟨rfl, rfl⟩, ⟨rfl, rfl⟩, ⟨rfl, rfl⟩, ⟨rfl, rfl⟩, ⟨rfl, rfl⟩, ⟨rfl, rfl⟩⟩
  obtain ⟨f0, f1, f2, f3, f4, f5, hu, ⟨t0, o0⟩, ⟨t1, o1⟩, ⟨t2, o2⟩, ⟨t3, o3⟩, ⟨t4, o4⟩, ⟨t5, o5⟩⟩ := hF
  obtain ⟨xs, n, hk, hxy, hl, hxl, hf⟩ := DataW.trod_struct hu h
  rw [cells_act7] at hl
  match xs, hxl with
  | [y0, y1, y2, y3, y4, y5], _ =>
    have g0 : DataW.trod enc Tryz.prog W 0 (fun _ => true) true n f0.type ((cs.drop f0.offset).take (Tryz.prog.cellsOf f0.type)) = some y0 := hf 0 f0 rfl
    have g1 : DataW.trod enc Tryz.prog W 0 (fun _ => true) true n f1.type ((cs.drop f1.offset).take (Tryz.prog.cellsOf f1.type)) = some y1 := hf 1 f1 rfl
    have g2 : DataW.trod enc Tryz.prog W 0 (fun _ => true) true n f2.type ((cs.drop f2.offset).take (Tryz.prog.cellsOf f2.type)) = some y2 := hf 2 f2 rfl
    have g3 : DataW.trod enc Tryz.prog W 0 (fun _ => true) true n f3.type ((cs.drop f3.offset).take (Tryz.prog.cellsOf f3.type)) = some y3 := hf 3 f3 rfl
    have g4 : DataW.trod enc Tryz.prog W 0 (fun _ => true) true n f4.type ((cs.drop f4.offset).take (Tryz.prog.cellsOf f4.type)) = some y4 := hf 4 f4 rfl
    have g5 : DataW.trod enc Tryz.prog W 0 (fun _ => true) true n f5.type ((cs.drop f5.offset).take (Tryz.prog.cellsOf f5.type)) = some y5 := hf 5 f5 rfl
    rw [t0, o0, cells_intS] at g0
    rw [t1, o1, cells_path] at g1
    rw [t2, o2, cells_slS] at g2
    rw [t3, o3, cells_intS] at g3
    rw [t4, o4, cells_intS] at g4
    rw [t5, o5, cells_intS] at g5
    obtain ⟨u0, a0, b0⟩ := one_of cs 0 (by omega)
    obtain ⟨u2, a2, b2⟩ := one_of cs 33 (by omega)
    obtain ⟨u3, a3, b3⟩ := one_of cs 34 (by omega)
    obtain ⟨u4, a4, b4⟩ := one_of cs 35 (by omega)
    obtain ⟨u5, a5, b5⟩ := one_of cs 36 (by omega)
    rw [a0] at g0
    rw [a2] at g2
    rw [a3] at g3
    rw [a4] at g4
    rw [a5] at g5
    obtain ⟨k0, e0, _, _⟩ := DataW.trod_int Tryz.underlying3 g0
    obtain ⟨k3, e3, _, _⟩ := DataW.trod_int Tryz.underlying3 g3
    obtain ⟨k4, e4, _, _⟩ := DataW.trod_int Tryz.underlying3 g4
    obtain ⟨k5, e5, _, _⟩ := DataW.trod_int Tryz.underlying3 g5
    obtain ⟨K, lk, ek, bk⟩ := trod_u8s Tryz.underlying31 cells_path g1
    simp only [List.cons.injEq, and_true] at e0 e3 e4 e5
    subst e0 e3 e4 e5
    have hsz2 : (DataW.weightsEach Tryz.prog [3, 31, 32, 3, 3, 3] [y0.1, y1.1, y2.1, y3.1, y4.1, y5.1]).all (· ≤ reachBytes) = true := by
      rw [List.all_eq_true]
      intro m hm
      rw [decide_eq_true_iff]
      refine hw m ?_
      rw [hxy]
      simp only [DataW.weights, hu]
      rw [show (#[f0, f1, f2, f3, f4, f5] : Array Field).toList.map (·.type) = [3, 31, 32, 3, 3, 3] by simp [t0, t1, t2, t3, t4, t5]]
      exact hm
    obtain ⟨zs, r1, l1⟩ := trod_sized (d := y2.1) (p := y2.2) g2 hsz2 2 rfl rfl
    refine ⟨⟨k0, K, u2, zs, k3, k4, k5⟩, ?_, ⟨lk, bk⟩, r1, l1⟩
    have at_ : ∀ i, (hi : i < cs.length) → cs.drop i = cs[i] :: cs.drop (i + 1) := fun i hi => List.drop_eq_getElem_cons hi
    have g : ∀ i u, cs[i]? = some u → cs.drop i = u :: cs.drop (i + 1) := fun i u hu => by
      obtain ⟨h1, h2⟩ := List.getElem?_eq_some_iff.1 hu
      rw [at_ i h1, h2]
    have d0 := g 0 _ b0
    have d2 := g 33 _ b2
    have d3 := g 34 _ b3
    have d4 := g 35 _ b4
    have d5 := g 36 _ b5
    have d6 : cs.drop 37 = [] := List.drop_eq_nil_of_le (by omega)
    have d1 : cs.drop 1 = K.map (Value.int .u8) ++ cs.drop 33 := by
      have := (List.take_append_drop 32 (cs.drop 1)).symm
      rw [ek, List.drop_drop] at this
      exact this
    show cs = azL k0 K u2 k3 k4 k5
    rw [List.drop_zero] at d0
    rw [d0, d1, d2, d3, d4, d5, d6]
    rfl

/-- A call that came in. -/
theorem arg_act7 {H : Type} {enc : TypeId × Value → H} {W : World} {base : Nat} {v : Value} {d : DataW H} {p : List MemPlace} (hv : Value.okWide Tryz.prog W .any base 34 v) (h : DataW.Trod enc Tryz.prog W 0 (fun _ => true) true 34 v d p)
    {ts : List TypeId} {ds : List (DataW H)} (hsz : (DataW.weightsEach Tryz.prog ts ds).all (· ≤ reachBytes) = true) (j : Nat) (ht : ts[j]? = some 34) (hd : ds[j]? = some d) : ∃ q : Ac, v = .agg (acL q).toArray ∧ Key q.K ∧ Reads W q.v q.bs ∧ q.bs.length ≤ 140737488355328 - 4096 := by
  obtain ⟨cs, rfl⟩ := okWide_str Tryz.underlying34 hv
  obtain ⟨fuel, hf⟩ := h
  obtain ⟨l⟩ := cs
  obtain ⟨q, e, h1, h2, h3⟩ := trod_act7 hf (fun m hm => by
    have h1 := List.all_eq_true.1 hsz m (DataW.weights_mem_each ht hd m hm)
    simpa using h1)
  have e' : l = acL q := e
  exact ⟨q, by rw [e'], h1, h2, h3⟩

/-- Calls in memory. -/
def AcAt (W : World) (v : Value) (qs : List Ac) : Prop :=
  ∃ a c, v = .slice a qs.length c ∧ (0 < qs.length → ∃ b off, a = some ⟨b, off, none⟩ ∧ ∀ i, i < qs.length → W.rangeAt b (off + i * 37) (acL (qs.getD i default))) ∧ ∀ i, i < qs.length → Key (qs.getD i default).K ∧ Reads W (qs.getD i default).v (qs.getD i default).bs ∧ (qs.getD i default).bs.length ≤ 140737488355328 - 4096

theorem arg_acts7 {H : Type} {enc : TypeId × Value → H} {W : World} {base : Nat} {v : Value} {d : DataW H} {p : List MemPlace} (hv : Value.okWide Tryz.prog W .any base 22 v)
    (h : DataW.Trod enc Tryz.prog W 0 (fun _ => true) true 22 v d p) {ts : List TypeId} {ds : List (DataW H)} (hsz : (DataW.weightsEach Tryz.prog ts ds).all (· ≤ reachBytes) = true) (j : Nat) (ht : ts[j]? = some 22) (hd : ds[j]? = some d) :
    ∃ qs, AcAt W v qs := by
  obtain ⟨a, len, cap, rfl⟩ := okWide_slice Tryz.underlying22 hv
  obtain ⟨fuel, hf⟩ := h
  rcases Go.Deep.open_slice Tryz.underlying22 hf with ⟨hcs, hx⟩ | ⟨x, l, c, m, n, D, Pl, hcs, _, hl, hm, hmm, hx, hcell⟩
  · simp [Value.cells] at hcs
    obtain ⟨rfl, rfl, rfl⟩ := hcs
    exact ⟨[], none, 0, rfl, fun h => by simp at h, fun i hi => by simp at hi⟩
  · simp [Value.cells] at hcs
    obtain ⟨rfl, rfl, rfl⟩ := hcs
    simp at hmm
    simp only [Prod.mk.injEq] at hx
    have hwt : ∀ i, i < len → ∀ q ∈ (D i).weights Tryz.prog 34, q ≤ reachBytes := by
      intro i hi q hq
      have h1 := List.all_eq_true.1 hsz q (DataW.weights_mem_each ht hd q (by
        rw [hx.1]
        simp only [DataW.weights, Tryz.underlying22, List.mem_cons, List.mem_append]
        exact .inr (.inl (weights_allS hq _ (List.mem_map.2 ⟨i, List.mem_range.2 hi, rfl⟩)))))
      simpa using h1
    have each : ∀ i, i < len → ∃ q : Ac, (∀ k u, (acL q)[k]? = some u → W.cell? (x.add (i * 37 + k)) = some u) ∧ Key q.K ∧ Reads W q.v q.bs ∧ q.bs.length ≤ 140737488355328 - 4096 := by
      intro i hi
      obtain ⟨cs', h1, h2⟩ := hcell i (by omega)
      rw [cells_act7] at h1
      obtain ⟨_, hlen, hc⟩ := World.cells?_some h1
      obtain ⟨q, rfl, hk, hr, hl2⟩ := trod_act7 h2 (hwt i hi)
      refine ⟨q, fun k w hw => ?_, hk, hr, hl2⟩
      have hk2 := (List.getElem?_eq_some_iff.1 hw).1
      have hk3 : k < 37 := by rw [← hlen]; exact hk2
      have h3 := hc k hk3
      rw [Go.Deep.add_add] at h3
      rw [h3]
      exact hw
    obtain ⟨q, hq⟩ := Go.Deep.choose_lt each
    have hget : ∀ i, i < len → ((List.range len).map q).getD i default = q i := fun i hi => by simp [List.getD, hi]
    refine ⟨(List.range len).map q, some x, cap, by simp, fun hp => ?_, fun i hi => ?_⟩
    · simp only [List.length_map, List.length_range] at hp
      obtain ⟨b, off, spot⟩ := x
      have hspot : spot = none := by
        have hlen := azL_length (q 0).k (q 0).K (q 0).v (q 0).d (q 0).x (q 0).y (hq 0 hp).2.1.1
        have := World.cell?_spot ((hq 0 hp).1 0 _ (List.getElem?_eq_getElem (by unfold acL; omega)))
        simpa [Addr.add] using this
      subst hspot
      refine ⟨b, off, rfl, fun i hi k u hu => ?_⟩
      simp only [List.length_map, List.length_range] at hi
      rw [hget i hi] at hu
      have := (hq i hi).1 k u hu
      rw [Addr.add_lit] at this
      rw [Nat.add_assoc]
      exact this
    · simp only [List.length_map, List.length_range] at hi
      rw [hget i hi]
      exact (hq i hi).2

end Go.Proofs.YtjikgagaalbaeaaGreatDoor

/- For StoreCounts: what follows of counts, with no word of the program; a map from numbers to numbers of the walk's own; Drop beside a list. -/
namespace Go.Proofs.YtjikgagaalbaeaaGreatDoor
set_option maxRecDepth 20000
open Go.RowKit

/-! ### Counts -/
theorem noc_zero {cs : List (Nat × Ce)} (h : ∀ i, cc cs i = 0) : noc cs = 0 := by
  unfold noc occs
  rw [List.countP_eq_zero]
  intro p hp
  obtain ⟨i, hi, rfl⟩ := List.getElem_of_mem hp
  have hi' : i < cs.length := by simpa using hi
  have := h i
  simpa [cc, hi', pl] using this

/-- When callers hold nothing nothing is there. -/
theorem none_left {cs : List (Nat × Ce)} (w : Wf cs []) (h : ∀ i, own cs [] i = 0) : noc cs = 0 := by
  have up : ∀ i, 0 < cc cs i → ∃ j, 0 < cc cs j ∧ (ce cs j).kind = 2 ∧ ((ce cs i).kind = 2 → (ce cs i).dp = (ce cs j).dp + 1) := fun i hi => by
    have h1 := w.own i
    rw [List.count_nil, h i] at h1
    have h2 := w.ab i
    obtain ⟨j, hj, hs⟩ := ns_ex cs i (by omega)
    rcases w.tr j hj with hn | hn
    · have := hn.l; have := hn.r; omega
    · refine ⟨j, hj, hn.kind, fun hk => ?_⟩
      rcases hs with e | e
      · rcases hn.sl with q | ⟨_, _, _, q⟩
        · omega
        · rw [e, Nat.add_sub_cancel] at q
          omega
      · rcases hn.sr with q | ⟨_, _, _, q⟩
        · omega
        · rw [e, Nat.add_sub_cancel] at q
          omega
  have no2 : ∀ d i, 0 < cc cs i → (ce cs i).kind = 2 → (ce cs i).dp = d → False := by
    intro d
    induction d using Nat.strongRecOn with
    | _ d ih =>
      intro i hi hk hd
      obtain ⟨j, hj, hjk, hjd⟩ := up i hi
      have := hjd hk
      exact ih (ce cs j).dp (by omega) j hj hjk rfl
  refine noc_zero fun i => ?_
  apply Nat.eq_zero_of_not_pos
  intro hi
  obtain ⟨j, hj, hjk, _⟩ := up i hi
  exact no2 _ j hj hjk rfl

/-- How many sides of the first k of these nodes a handle is. -/
def fsum (cs : List (Nat × Ce)) (L : List Nat) (k : Nat) (x : Int) : Nat := ((L.take k).map fun h => (if ((ce cs (h - 1)).l : Int) = x then 1 else 0) + (if ((ce cs (h - 1)).r : Int) = x then 1 else 0)).sum
theorem fsum_zero (cs : List (Nat × Ce)) (L : List Nat) (x : Int) : fsum cs L 0 x = 0 := rfl
theorem fsum_succ (cs : List (Nat × Ce)) (L : List Nat) (k : Nat) (hk : k < L.length) (x : Int) : fsum cs L (k + 1) x = fsum cs L k x + ((if ((ce cs (L[k] - 1)).l : Int) = x then 1 else 0) + (if ((ce cs (L[k] - 1)).r : Int) = x then 1 else 0)) := by
  unfold fsum
  rw [List.take_succ_eq_append_getElem hk, List.map_append, List.sum_append]
  simp
theorem fsum_le (cs : List (Nat × Ce)) (L : List Nat) (x : Int) : ∀ k, fsum cs L k x ≤ 2 * k
  | 0 => by simp [fsum_zero]
  | k + 1 => by
    have ih := fsum_le cs L x k
    by_cases hk : k < L.length
    · rw [fsum_succ cs L k hk]
      split <;> split <;> omega
    · unfold fsum at *
      rw [List.take_of_length_le (by omega)]
      rw [List.take_of_length_le (by omega)] at ih
      omega

theorem slots_sum (cs : List (Nat × Ce)) (i : Nat) : ∀ k, k ≤ cs.length → ((slotsK (cs.map pl) k).map fun h => (if ((ce cs (h - 1)).l : Int) = (i : Int) + 1 then 1 else 0) + (if ((ce cs (h - 1)).r : Int) = (i : Int) + 1 then 1 else 0)).sum = ((cs.take k).map (con i)).sum
  | 0, _ => by simp [slotsK]
  | k + 1, hk => by
    have ih := slots_sum cs i k (by omega)
    have e : (cs.take (k + 1)).map (con i) = (cs.take k).map (con i) ++ [con i (cc cs k, ce cs k)] := by
      rw [List.take_succ_eq_append_getElem (by omega), List.map_append]
      have : cs[k] = (cc cs k, ce cs k) := by simp [cc, ce, show k < cs.length by omega]
      rw [this]
      rfl
    rw [e, List.sum_append]
    by_cases hc : 0 < cnt (cs.map pl) k
    · rw [slotsK_yes _ k hc, List.map_append, List.sum_append, ih]
      rw [cnt_pl] at hc
      simp only [List.map_cons, List.map_nil, List.sum_cons, List.sum_nil, Nat.add_zero, Nat.add_sub_cancel, con, if_pos hc]
      congr 2
      · congr 1
        simp only [eq_iff_iff]
        omega
      · congr 1
        simp only [eq_iff_iff]
        omega
    · rw [slotsK_no _ k hc, ih]
      rw [cnt_pl] at hc
      simp [con, hc]
theorem fsum_all (cs : List (Nat × Ce)) (i : Nat) : fsum cs (slotsOf (cs.map pl)) (slotsOf (cs.map pl)).length ((i : Int) + 1) = ns cs i := by
  unfold fsum ns
  rw [List.take_length]
  have := slots_sum cs i cs.length (Nat.le_refl _)
  rw [List.take_length] at this
  unfold slotsOf
  rw [List.length_map]
  exact this

theorem slot_at {cs : List (Nat × Ce)} (k : Nat) (hk : k < (slotsOf (cs.map pl)).length) : ∃ i, (slotsOf (cs.map pl))[k] = i + 1 ∧ 0 < cc cs i := by
  obtain ⟨i, e, h⟩ := (slots_mem (cs.map pl) _).1 (List.getElem_mem hk)
  rw [cnt_pl] at h
  exact ⟨i, e, h⟩
theorem slot_all {cs : List (Nat × Ce)} (i : Nat) (hi : 0 < cc cs i) : ∃ k, ∃ hk : k < (slotsOf (cs.map pl)).length, (slotsOf (cs.map pl))[k] = i + 1 := by
  have : i + 1 ∈ slotsOf (cs.map pl) := (slots_mem _ _).2 ⟨i, rfl, by rw [cnt_pl]; exact hi⟩
  obtain ⟨k, hk, e⟩ := List.getElem_of_mem this
  exact ⟨k, hk, e⟩

/-! ### A map -/
abbrev kl7 (x : Int) : Lit := .int .i64 x
theorem kl7_key (x : Int) : WideAt.IsKeyLit (kl7 x) := trivial
theorem kl7_ne {x y : Int} (h : x ≠ y) : kl7 x ≠ kl7 y := fun e => h (by injection e)
abbrev Wfi (x : Int) : Prop := (Lit.int .i64 x).wf = true
theorem wfi_nat (n : Nat) (h : n ≤ 2147483648) : Wfi (n : Int) := by
  have := wrap64_wf (n : Int)
  rw [Go.IntWalk.wrap64_in _ (by omega)] at this
  exact this
theorem lit7_inj {H : Type} {x y : Int} (h : (DataW.lit (.int .i64 x) : DataW H) = .lit (.int .i64 y)) : x = y := by
  simp only [DataW.lit.injEq, Lit.int.injEq, true_and] at h
  exact h
theorem iK7 : Maps.Keyed Tryz.prog 3 := Maps.int_keyed Tryz.underlying3

theorem iKey7 {x : Int} (h : Wfi x) : keyOf Tryz.prog 3 (.int .i64 x) = some (kl7 x) := Maps.keyOf_int_mk Tryz.underlying3 h

/-- A map that tells f of every number; n: how many entries at most. -/
def SM (w : World) (b n : Nat) (f : Int → Nat) : Prop := ∃ D : DataW Unit, w.ownsMap Tryz.prog 3 (plainElem Tryz.prog 3) b n D ∧ ∀ x, D.atKey (kl7 x) (.lit (.int .i64 0)) = .lit (.int .i64 (f x : Int))

theorem SM.lt {w : World} {b n : Nat} {f : Int → Nat} (h : SM w b n f) : b < w.heap.size := by
  obtain ⟨D, h, _⟩ := h
  exact h.lt
theorem SM.grow {w w' : World} {b n : Nat} {f : Int → Nat} (h : SM w b n f) (hb : Below w.heap.size w w') : SM w' b n f := by
  obtain ⟨D, ⟨es, clock, k1, k2⟩, h3⟩ := h
  exact ⟨D, ⟨es, clock, (hb.block b (Array.getElem?_eq_some_iff.1 k1).1).trans k1, k2⟩, h3⟩
theorem SM.notCells {w : World} {b n g : Nat} {f : Int → Nat} {t : TypeId} {cs : Array Value} (h : SM w b n f) (hb : Blk w g t cs) : b ≠ g := by
  rintro rfl
  obtain ⟨D, ⟨es, clock, k1, _⟩, _⟩ := h
  unfold Blk at hb
  rw [k1] at hb
  cases hb
theorem SM.new (w : World) : SM (w.alloc (.map #[] 0)) w.heap.size 0 (fun _ => 0) := ⟨.map [], World.ownsMap_made w _ _ _, fun _ => rfl⟩

/-- Every block of a store is one of cells. -/
theorem Stm.cells {w : World} {g gs : Nat} {vp vf : Value} {room : Nat} {cs : List (Nat × Ce)} {fr : List Nat} (h : Stm w g gs vp vf room cs fr) : ∀ k ∈ stB g gs vp vf cs, ∃ t c, Blk w k t c := fun k hk => by
  rcases stB_mem.1 hk with rfl | hk | ⟨i, hk⟩
  · exact ⟨_, _, h.blk⟩
  · rcases slB_mem.1 hk with rfl | hk | hk
    · exact ⟨_, _, h.sl.blk⟩
    · obtain ⟨_, _, _, b, _⟩ := lst_blk h.sl.pls k hk
      exact ⟨_, _, b⟩
    · obtain ⟨_, _, _, b, _⟩ := lst_blk h.sl.frs k hk
      exact ⟨_, _, b⟩
  · obtain ⟨sp, ho⟩ := h.vals i
    obtain ⟨c, hb⟩ := ho.blk k hk
    exact ⟨_, _, hb⟩

/-- A map's writing leaves a store. -/
theorem Hw.map {w0 w w' : World} {g gs room : Nat} {cs : List (Nat × Ce)} {fr : List Nat} {b n : Nat} {f : Int → Nat} (h : Hw w0 w g gs room cs fr) (m : SM w b n f) (hg : w.grownBy w' (some b)) (hb : w0.heap.size ≤ b) : Hw w0 w' g gs room cs fr := by
  obtain ⟨⟨vp, vf, h1, h2, h3⟩, h4⟩ := h
  have md : Mod [b] w w' := Mod.of_some hg (by simp)
  refine ⟨⟨vp, vf, h1.mod md (fun k hk e => ?_), h2, h3.trans (md.below (fun k hk => by simp at hk; omega) h3.size)⟩, h4⟩
  obtain ⟨t, c, hB⟩ := h1.cells k hk
  have e' : k = b := by simpa using e
  exact m.notCells hB e'.symm

/-! ### A list beside a store -/
theorem Run.tot_le {cs : List (Nat × Ce)} {fr st : List Nat} {cs' : List (Nat × Ce)} {fr' : List Nat} {n : Nat} (h : Run cs fr st cs' fr' n) : tot cs' + min st.length 1 ≤ tot cs := by
  induction h with
  | done cs fr => simp
  | keep hc _ ih =>
    have := tot_less _ _ (Nat.lt_trans Nat.zero_lt_one hc)
    simp only [List.length_cons]
    omega
  | free hc _ ih =>
    have := tot_free _ _ hc
    simp only [List.length_cons]
    omega

theorem Dl.drop {w : World} {S : List Nat} {g gs room : Nat} {cs : List (Nat × Ce)} {fr : List Nat} {v : Value} {xs : List Nat} {X : List (Nat × Obj)} {wr : World} (h : Dl w S g gs room cs fr v xs X wr) (hw : Wf cs []) (i : Nat) (ho : 0 < own cs [] i) : Calls Tryz.prog 29 #[.pointer (some ⟨g, 0, none⟩), .int .i64 ((i + 1 : Nat) : Int)] wr fun e w' => ∃ cs' fr' n, Step cs [i + 1] cs' [] n ∧ tot cs' < tot cs ∧ e = .returned (.tuple #[.int .i64 (n : Int), .int .i64 0]) ∧ Dl w S g gs room cs' fr' v xs X w' := by
  obtain ⟨vp, vf, h1, h2, h3, h4, h5, h6⟩ := h
  refine (dropS_ok h1 hw i ho).mono ?_
  rintro e w' ⟨cs', fr', n, hr, rfl, vp', vf', k1, k2, k3⟩
  have htl := hr.tot_le
  simp only [List.length_singleton] at htl
  refine ⟨cs', fr', n, hr.step (hw.less i ho), by omega, rfl, vp', vf', k1, h2.trans h3 k2, h3.trans h2.size k3, lst_mod h4 k2 (fun k hk => (h5 k hk).2), fun k hk => ⟨(h5 k hk).1, fun e => ?_⟩, fun x hx => ?_⟩
  · rcases k3 k e with e | e
    · exact (h5 k hk).2 e
    · have := lst_lt h4 k hk
      omega
  · obtain ⟨q1, q2, q3⟩ := h6 x hx
    have hlt := (Array.getElem?_eq_some_iff.1 q1).1
    refine ⟨(k2.block x.1 hlt q2).trans q1, fun e => ?_, q3⟩
    rcases k3 x.1 e with e | e
    · exact q2 e
    · omega

theorem Dl.vw {w : World} {S : List Nat} {g gs room : Nat} {cs : List (Nat × Ce)} {fr : List Nat} {v : Value} {xs : List Nat} {X : List (Nat × Obj)} {wr : World} (h : Dl w S g gs room cs fr v xs X wr) (hw : Wf cs []) : Vw wr (.pointer (some ⟨g, 0, none⟩)) true (cot cs) (cat cs) := by
  obtain ⟨vp, vf, h1, _⟩ := h
  exact vw_ok h1 hw
theorem Dl.occ {w : World} {S : List Nat} {g gs room : Nat} {cs : List (Nat × Ce)} {fr : List Nat} {v : Value} {xs : List Nat} {X : List (Nat × Obj)} {wr : World} (h : Dl w S g gs room cs fr v xs X wr) : Calls Tryz.prog 32 #[.pointer (some ⟨g, 0, none⟩)] wr fun e w' => e = .returned (.int .i64 (noc cs : Int)) ∧ Below wr.heap.size wr w' := by
  obtain ⟨vp, vf, h1, _⟩ := h
  exact occS_ok h1

/-! ### Any call, whatever it answers -/
theorem hw_leaf_any {w0 w : World} {g gs room : Nat} {cs : List (Nat × Ce)} {fr : List Nat} (h : Hw w0 w g gs room cs fr) (K : List Int) (v : Value) (bs : List Int) (hr : Reads w v bs) (hK : Key K) (hL : Laid w) (hm : bs.length ≤ 140737488355328) : Calls Tryz.prog 21 #[.pointer (some ⟨g, 0, none⟩), .agg (B K), v] w fun e w' => ∃ a b cs' fr', e = .returned (.tuple #[.int .i64 a, .int .i64 b]) ∧ Hw w0 w' g gs room cs' fr' := by
  by_cases hl : bs.length ≤ 1024
  · by_cases hf : Full room cs fr
    · exact (hw_leaf_full h K v bs hr hK hL hl hf).mono fun e w' ⟨e1, q⟩ => ⟨_, _, _, _, e1, q⟩
    · exact (hw_leaf h K v bs hr hK hL hl hf).mono fun e w' ⟨v', e1, q⟩ => ⟨_, _, _, _, e1, q⟩
  · exact (hw_leaf_long h K v bs hr hK (by omega) hm).mono fun e w' ⟨e1, q⟩ => ⟨_, _, _, _, e1, q⟩

theorem hw_inner_any {w0 w : World} {g gs room : Nat} {cs : List (Nat × Ce)} {fr : List Nat} (h : Hw w0 w g gs room cs fr) (d l r : Int) (hL : Laid w) : Calls Tryz.prog 27 #[.pointer (some ⟨g, 0, none⟩), .int .i64 d, .int .i64 l, .int .i64 r] w fun e w' => ∃ a b cs' fr', e = .returned (.tuple #[.int .i64 a, .int .i64 b]) ∧ Hw w0 w' g gs room cs' fr' := by
  by_cases hd : d < 0 ∨ 256 ≤ d
  · exact (hw_inner_arg h d l r hd).mono fun e w' ⟨e1, q⟩ => ⟨_, _, _, _, e1, q⟩
  · obtain ⟨dn, rfl⟩ : ∃ n : Nat, d = (n : Int) := ⟨d.toNat, by omega⟩
    have hdn : dn < 256 := by omega
    by_cases hm : mayP cs l ∧ mayP cs r
    · obtain ⟨hl, hr⟩ := hm
      obtain ⟨ln, rfl⟩ := hl.nat
      obtain ⟨rn, rfl⟩ := hr.nat
      obtain ⟨u, hu⟩ : ∃ u : Bool, u = true ↔ Und (sdC cs ln).key (sdC cs rn).key (dn : Int) := by
        by_cases q : Und (sdC cs ln).key (sdC cs rn).key (dn : Int)
        · exact ⟨true, by simp [q]⟩
        · exact ⟨false, by simp [q]⟩
      cases hf : fitP dn (sdC cs ln) (sdC cs rn) u with
      | false => exact (hw_inner_unfit h dn ln rn hdn hl hr u hu hf).mono fun e w' ⟨e1, q⟩ => ⟨_, _, _, _, e1, q⟩
      | true =>
        by_cases hfu : Full room cs fr
        · exact (hw_inner_full h dn ln rn hdn hl hr u hu hf hL hfu).mono fun e w' ⟨e1, q⟩ => ⟨_, _, _, _, e1, q⟩
        · exact (hw_inner h dn ln rn hdn hl hr u hu hf hL hfu).mono fun e w' ⟨K, _, e1, q⟩ => ⟨_, _, _, _, e1, q⟩
    · exact (hw_inner_miss h dn l r hdn hm).mono fun e w' ⟨e1, q⟩ => ⟨_, _, _, _, e1, q⟩

theorem hw_hold_any {w0 w : World} {g gs room : Nat} {cs : List (Nat × Ce)} {fr : List Nat} (h : Hw w0 w g gs room cs fr) (q : Int) : Calls Tryz.prog 25 #[.pointer (some ⟨g, 0, none⟩), .int .i64 q] w fun e w' => ∃ a cs' fr', e = .returned (.int .i64 a) ∧ Hw w0 w' g gs room cs' fr' := by
  by_cases hc : cot cs q = 0
  · exact (hw_hold_bad h q hc).mono fun e w' ⟨e1, q⟩ => ⟨_, _, _, e1, q⟩
  · obtain ⟨i, rfl, h2, h3, h4⟩ := cot_in (cs := cs) (h := q) (by omega)
    have hmo := h.inv.most i
    rw [cnt_pl] at hmo
    by_cases hl : cc cs i = 1073741824
    · exact (hw_hold_long h i hl).mono fun e w' ⟨e1, q⟩ => ⟨_, _, _, e1, q⟩
    · exact (hw_hold h i h2 (by omega)).mono fun e w' ⟨e1, q⟩ => ⟨_, _, _, e1, q⟩

theorem hw_drop_any {w0 w : World} {g gs room : Nat} {cs : List (Nat × Ce)} {fr : List Nat} (h : Hw w0 w g gs room cs fr) (q : Int) : Calls Tryz.prog 29 #[.pointer (some ⟨g, 0, none⟩), .int .i64 q] w fun e w' => ∃ a b cs' fr', e = .returned (.tuple #[.int .i64 a, .int .i64 b]) ∧ Hw w0 w' g gs room cs' fr' := by
  by_cases hm : cot cs q ≤ (cat cs q).ab
  · exact (hw_drop_miss h q hm).mono fun e w' ⟨e1, q⟩ => ⟨_, _, _, _, e1, q⟩
  · obtain ⟨i, rfl, h2, h3, h4⟩ := cot_in (cs := cs) (h := q) (by omega)
    rw [h3, h4] at hm
    have ho : 0 < own cs [] i := by
      unfold own
      rw [List.count_nil]
      omega
    exact (hw_drop h i ho).mono fun e w' ⟨cs', fr', n, _, _, e1, q⟩ => ⟨_, _, _, _, e1, q⟩

end Go.Proofs.YtjikgagaalbaeaaGreatDoor
