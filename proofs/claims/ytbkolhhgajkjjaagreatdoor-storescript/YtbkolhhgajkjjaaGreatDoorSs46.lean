/- What an argument is in memory that is a node. -/
import Derived.Test.YtbkolhhgajkjjaaGreatDoorSs01
import Derived.Test.YtbkolhhgajkjjaaGreatDoorSs45
import Derived.Test.YtbkolhhgajkjjaaGreatDoorSs08
import Derived.ChangeSame
import Derived.Test.YtbkolhhgajkjjaaGreatDoorSs44
import Derived.Deep.Slices
import Derived.Maps.OwnSet
import Derived.Maps.RangeWalk
import Derived.Maps.OwnOps
import Derived.Maps.Views
namespace Go.Proofs.YtbkolhhgajkjjaaGreatDoor
set_option maxRecDepth 20000
open Go.ChangeShapes Go.WideShapes Go.ChangeAt Go.RowKit

theorem trod_u8s {H : Type} {enc : TypeId × Value → H} {W : World} {fuel : Nat} {t : TypeId} {n : Nat} {cs : List Value} {x : DataW H × List MemPlace} (ht : Tryz.prog.underlying t = some (.array n 5)) (hct : Tryz.prog.cellsOf t = n)
    (h : DataW.trod enc Tryz.prog W 0 (fun _ => true) true fuel t cs = some x) : ∃ zs : List Int, zs.length = n ∧ cs = zs.map (Value.int .u8) ∧ Bytes zs := by
  obtain ⟨xs, m, rfl, hx, hl, hn, hel⟩ := DataW.trod_array ht h
  rw [hct] at hl
  have each : ∀ i, i < n → ∃ z, cs[i]? = some (.int .u8 z) ∧ (Lit.int .u8 z).wf = true := by
    intro i hi
    have h1 := hel i hi
    rw [cells_byte] at h1
    obtain ⟨y, hyi⟩ : ∃ y, xs[i]? = some y := ⟨xs[i]'(by omega), List.getElem?_eq_getElem (by omega)⟩
    rw [hyi] at h1
    obtain ⟨z, e1, _, w1⟩ := DataW.trod_int u_byte h1
    refine ⟨z, ?_, w1⟩
    have := congrArg (·[0]?) e1
    simpa [List.getElem?_take, List.getElem?_drop] using this
  obtain ⟨f, hf2⟩ := Go.Deep.choose_lt each
  refine ⟨(List.range n).map f, by simp, ?_, ?_⟩
  · apply List.ext_getElem?
    intro i
    by_cases hi : i < n
    · have := (hf2 i hi).1
      simp [hi]
      simpa using this
    · rw [List.getElem?_eq_none (by omega), List.getElem?_eq_none (by simp; omega)]
  · intro z hz
    obtain ⟨i, hi, rfl⟩ := List.mem_map.1 hz
    have := bounds_u8 (hf2 i (by simpa using hi)).2
    omega

end Go.Proofs.YtbkolhhgajkjjaaGreatDoor

namespace Go.Proofs.YtbkolhhgajkjjaaGreatDoor
set_option maxRecDepth 20000
open Go.ChangeShapes Go.WideShapes Go.ChangeAt Go.RowKit

structure Ac where
  k : Int
  K : List Int
  v : Value
  bs : List Int
  d : Int
  x : Int
  y : Int
def acL (q : Ac) : List Value := azL q.k q.K q.v q.d q.x q.y
instance : Inhabited Ac := ⟨⟨0, z32, .slice none 0 0, [], 0, 0, 0⟩⟩

theorem cells_act7 : Tryz.prog.cellsOf 34 = 37 := by kernel_rfl

theorem cells_intS : Tryz.prog.cellsOf 3 = 1 := by kernel_rfl

theorem cells_slS : Tryz.prog.cellsOf 32 = 1 := by kernel_rfl

theorem weights_allS {H : Type} {P : Program} {e : TypeId} {d : DataW H} {n : Nat} (hn : n ∈ d.weights P e) : ∀ l : List (DataW H), d ∈ l → n ∈ DataW.weightsAll P e l
  | [], h => by simp at h
  | x :: r, h => by
    simp only [DataW.weightsAll, List.mem_append]
    rcases List.mem_cons.1 h with rfl | h
    · exact .inl hn
    · exact .inr (weights_allS hn r h)

theorem one_of (cs : List Value) (i : Nat) (h : i < cs.length) : ∃ u, (cs.drop i).take 1 = [u] ∧ cs[i]? = some u := by
  refine ⟨cs[i], ?_, List.getElem?_eq_getElem h⟩
  rw [List.drop_eq_getElem_cons h]
  rfl

theorem trod_act7 {H : Type} {enc : TypeId × Value → H} {W : World} {fuel : Nat} {cs : List Value} {z : DataW H × List MemPlace} (h : DataW.trod enc Tryz.prog W 0 (fun _ => true) true fuel 34 cs = some z) (hw : ∀ m ∈ z.1.weights Tryz.prog 34, m ≤ reachBytes) :
    ∃ q : Ac, cs = acL q ∧ Key q.K ∧ Reads W q.v q.bs ∧ q.bs.length ≤ 140737488355328 - 4096 := by
  have hF : ∃ f0 f1 f2 f3 f4 f5 : Field, Tryz.prog.underlying 34 = some (.struct #[f0, f1, f2, f3, f4, f5]) ∧ (f0.type = 3 ∧ f0.offset = 0) ∧ (f1.type = 31 ∧ f1.offset = 1) ∧ (f2.type = 32 ∧ f2.offset = 33) ∧ (f3.type = 3 ∧ f3.offset = 34) ∧ (f4.type = 3 ∧ f4.offset = 35) ∧ (f5.type = 3 ∧ f5.offset = 36) := ⟨_, _, _, _, _, _, Tryz.underlying34, ⟨rfl, rfl⟩, ⟨rfl, rfl⟩, ⟨rfl, rfl⟩, ⟨rfl, rfl⟩, ⟨rfl, rfl⟩, ⟨rfl, rfl⟩⟩
  obtain ⟨f0, f1, f2, f3, f4, f5, hu, ⟨t0, o0⟩, ⟨t1, o1⟩, ⟨t2, o2⟩, ⟨t3, o3⟩, ⟨t4, o4⟩, ⟨t5, o5⟩⟩ := hF
  obtain ⟨xs, n, hk, hxy, hl, hxl, hf⟩ := DataW.trod_struct hu h
  rw [cells_act7] at hl
  match xs, hxl with
  | [y0, y1, y2, y3, y4, y5], _ =>
    have g0 : DataW.trod enc Tryz.prog W 0 (fun _ => true) true n f0.type ((cs.drop f0.offset).take (Tryz.prog.cellsOf f0.type)) = some y0 := hf 0 f0 rfl
    have g1 : DataW.trod enc Tryz.prog W 0 (fun _ => true) true n f1.type ((cs.drop f1.offset).take (Tryz.prog.cellsOf f1.type)) = some y1 := hf 1 f1 rfl
    have g2 : DataW.trod enc Tryz.prog W 0 (fun _ => true) true n f2.type ((cs.drop f2.offset).take (Tryz.prog.cellsOf f2.type)) = some y2 := hf 2 f2 rfl
    have g3 : DataW.trod enc Tryz.prog W 0 (fun _ => true) true n f3.type ((cs.drop f3.offset).take (Tryz.prog.cellsOf f3.type)) = some y3 := hf 3 f3 rfl
    have g4 : DataW.trod enc Tryz.prog W 0 (fun _ => true) true n f4.type ((cs.drop f4.offset).take (Tryz.prog.cellsOf f4.type)) = some y4 := hf 4 f4 rfl
    have g5 : DataW.trod enc Tryz.prog W 0 (fun _ => true) true n f5.type ((cs.drop f5.offset).take (Tryz.prog.cellsOf f5.type)) = some y5 := hf 5 f5 rfl
    rw [t0, o0, cells_intS] at g0
    rw [t1, o1, cells_path] at g1
    rw [t2, o2, cells_slS] at g2
    rw [t3, o3, cells_intS] at g3
    rw [t4, o4, cells_intS] at g4
    rw [t5, o5, cells_intS] at g5
    obtain ⟨u0, a0, b0⟩ := one_of cs 0 (by omega)
    obtain ⟨u2, a2, b2⟩ := one_of cs 33 (by omega)
    obtain ⟨u3, a3, b3⟩ := one_of cs 34 (by omega)
    obtain ⟨u4, a4, b4⟩ := one_of cs 35 (by omega)
    obtain ⟨u5, a5, b5⟩ := one_of cs 36 (by omega)
    rw [a0] at g0
    rw [a2] at g2
    rw [a3] at g3
    rw [a4] at g4
    rw [a5] at g5
    obtain ⟨k0, e0, _, _⟩ := DataW.trod_int Tryz.underlying3 g0
    obtain ⟨k3, e3, _, _⟩ := DataW.trod_int Tryz.underlying3 g3
    obtain ⟨k4, e4, _, _⟩ := DataW.trod_int Tryz.underlying3 g4
    obtain ⟨k5, e5, _, _⟩ := DataW.trod_int Tryz.underlying3 g5
    obtain ⟨K, lk, ek, bk⟩ := trod_u8s Tryz.underlying31 cells_path g1
    simp only [List.cons.injEq, and_true] at e0 e3 e4 e5
    subst e0 e3 e4 e5
    have hsz2 : (DataW.weightsEach Tryz.prog [3, 31, 32, 3, 3, 3] [y0.1, y1.1, y2.1, y3.1, y4.1, y5.1]).all (· ≤ reachBytes) = true := by
      rw [List.all_eq_true]
      intro m hm
      rw [decide_eq_true_iff]
      refine hw m ?_
      rw [hxy]
      simp only [DataW.weights, hu]
      rw [show (#[f0, f1, f2, f3, f4, f5] : Array Field).toList.map (·.type) = [3, 31, 32, 3, 3, 3] by simp [t0, t1, t2, t3, t4, t5]]
      exact hm
    obtain ⟨zs, r1, l1⟩ := trod_sized (d := y2.1) (p := y2.2) g2 hsz2 2 rfl rfl
    refine ⟨⟨k0, K, u2, zs, k3, k4, k5⟩, ?_, ⟨lk, bk⟩, r1, l1⟩
    have at_ : ∀ i, (hi : i < cs.length) → cs.drop i = cs[i] :: cs.drop (i + 1) := fun i hi => List.drop_eq_getElem_cons hi
    have g : ∀ i u, cs[i]? = some u → cs.drop i = u :: cs.drop (i + 1) := fun i u hu => by
      obtain ⟨h1, h2⟩ := List.getElem?_eq_some_iff.1 hu
      rw [at_ i h1, h2]
    have d0 := g 0 _ b0
    have d2 := g 33 _ b2
    have d3 := g 34 _ b3
    have d4 := g 35 _ b4
    have d5 := g 36 _ b5
    have d6 : cs.drop 37 = [] := List.drop_eq_nil_of_le (by omega)
    have d1 : cs.drop 1 = K.map (Value.int .u8) ++ cs.drop 33 := by
      have := (List.take_append_drop 32 (cs.drop 1)).symm
      rw [ek, List.drop_drop] at this
      exact this
    show cs = azL k0 K u2 k3 k4 k5
    rw [List.drop_zero] at d0
    rw [d0, d1, d2, d3, d4, d5, d6]
    rfl

def AcAt (W : World) (v : Value) (qs : List Ac) : Prop :=
  ∃ a c, v = .slice a qs.length c ∧ (0 < qs.length → ∃ b off, a = some ⟨b, off, none⟩ ∧ ∀ i, i < qs.length → W.rangeAt b (off + i * 37) (acL (qs.getD i default))) ∧ ∀ i, i < qs.length → Key (qs.getD i default).K ∧ Reads W (qs.getD i default).v (qs.getD i default).bs ∧ (qs.getD i default).bs.length ≤ 140737488355328 - 4096

theorem arg_acts7 {H : Type} {enc : TypeId × Value → H} {W : World} {base : Nat} {v : Value} {d : DataW H} {p : List MemPlace} (hv : Value.okWide Tryz.prog W .any base 22 v)
    (h : DataW.Trod enc Tryz.prog W 0 (fun _ => true) true 22 v d p) {ts : List TypeId} {ds : List (DataW H)} (hsz : (DataW.weightsEach Tryz.prog ts ds).all (· ≤ reachBytes) = true) (j : Nat) (ht : ts[j]? = some 22) (hd : ds[j]? = some d) :
    ∃ qs, AcAt W v qs := by
  obtain ⟨a, len, cap, rfl⟩ := okWide_slice Tryz.underlying22 hv
  obtain ⟨fuel, hf⟩ := h
  rcases Go.Deep.open_slice Tryz.underlying22 hf with ⟨hcs, hx⟩ | ⟨x, l, c, m, n, D, Pl, hcs, _, hl, hm, hmm, hx, hcell⟩
  · simp [Value.cells] at hcs
    obtain ⟨rfl, rfl, rfl⟩ := hcs
    exact ⟨[], none, 0, rfl, fun h => by simp at h, fun i hi => by simp at hi⟩
  · simp [Value.cells] at hcs
    obtain ⟨rfl, rfl, rfl⟩ := hcs
    simp at hmm
    simp only [Prod.mk.injEq] at hx
    have hwt : ∀ i, i < len → ∀ q ∈ (D i).weights Tryz.prog 34, q ≤ reachBytes := by
      intro i hi q hq
      have h1 := List.all_eq_true.1 hsz q (DataW.weights_mem_each ht hd q (by
        rw [hx.1]
        simp only [DataW.weights, Tryz.underlying22, List.mem_cons, List.mem_append]
        exact .inr (.inl (weights_allS hq _ (List.mem_map.2 ⟨i, List.mem_range.2 hi, rfl⟩)))))
      simpa using h1
    have each : ∀ i, i < len → ∃ q : Ac, (∀ k u, (acL q)[k]? = some u → W.cell? (x.add (i * 37 + k)) = some u) ∧ Key q.K ∧ Reads W q.v q.bs ∧ q.bs.length ≤ 140737488355328 - 4096 := by
      intro i hi
      obtain ⟨cs', h1, h2⟩ := hcell i (by omega)
      rw [cells_act7] at h1
      obtain ⟨_, hlen, hc⟩ := World.cells?_some h1
      obtain ⟨q, rfl, hk, hr, hl2⟩ := trod_act7 h2 (hwt i hi)
      refine ⟨q, fun k w hw => ?_, hk, hr, hl2⟩
      have hk2 := (List.getElem?_eq_some_iff.1 hw).1
      have hk3 : k < 37 := by rw [← hlen]; exact hk2
      have h3 := hc k hk3
      rw [Go.Deep.add_add] at h3
      rw [h3]
      exact hw
    obtain ⟨q, hq⟩ := Go.Deep.choose_lt each
    have hget : ∀ i, i < len → ((List.range len).map q).getD i default = q i := fun i hi => by simp [List.getD, hi]
    refine ⟨(List.range len).map q, some x, cap, by simp, fun hp => ?_, fun i hi => ?_⟩
    · simp only [List.length_map, List.length_range] at hp
      obtain ⟨b, off, spot⟩ := x
      have hspot : spot = none := by
        have hlen := azL_length (q 0).k (q 0).K (q 0).v (q 0).d (q 0).x (q 0).y (hq 0 hp).2.1.1
        have := World.cell?_spot ((hq 0 hp).1 0 _ (List.getElem?_eq_getElem (by unfold acL; omega)))
        simpa [Addr.add] using this
      subst hspot
      refine ⟨b, off, rfl, fun i hi k u hu => ?_⟩
      simp only [List.length_map, List.length_range] at hi
      rw [hget i hi] at hu
      have := (hq i hi).1 k u hu
      rw [Addr.add_lit] at this
      rw [Nat.add_assoc]
      exact this
    · simp only [List.length_map, List.length_range] at hi
      rw [hget i hi]
      exact (hq i hi).2

end Go.Proofs.YtbkolhhgajkjjaaGreatDoor

namespace Go.Proofs.YtbkolhhgajkjjaaGreatDoor
set_option maxRecDepth 20000
open Go.RowKit

def fsum (cs : List (Nat × Ce)) (L : List Nat) (k : Nat) (x : Int) : Nat := ((L.take k).map fun h => (if ((ce cs (h - 1)).l : Int) = x then 1 else 0) + (if ((ce cs (h - 1)).r : Int) = x then 1 else 0)).sum
abbrev kl7 (x : Int) : Lit := .int .i64 x
abbrev Wfi (x : Int) : Prop := (Lit.int .i64 x).wf = true
def SM (w : World) (b n : Nat) (f : Int → Nat) : Prop := ∃ D : DataW Unit, w.ownsMap Tryz.prog 3 (plainElem Tryz.prog 3) b n D ∧ ∀ x, D.atKey (kl7 x) (.lit (.int .i64 0)) = .lit (.int .i64 (f x : Int))

end Go.Proofs.YtbkolhhgajkjjaaGreatDoor
