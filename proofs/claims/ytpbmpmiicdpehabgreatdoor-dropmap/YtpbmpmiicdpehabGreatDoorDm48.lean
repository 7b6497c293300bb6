/- What an argument is in memory that is a pair of texts (a Clash). -/
import Derived.Test.YtpbmpmiicdpehabGreatDoorDm46
import Derived.ChangeSame
import Derived.Deep.Slices
import Derived.Test.YtpbmpmiicdpehabGreatDoorDm47
import Derived.Test.YtpbmpmiicdpehabGreatDoorDm32
import Derived.Test.YtpbmpmiicdpehabGreatDoorDm45
namespace Go.Proofs.YtpbmpmiicdpehabGreatDoor
set_option maxRecDepth 20000
open Go.ChangeShapes Go.WideShapes Go.ChangeAt Go.RowKit

/-- A slice of bytes in the midst of what came in. -/
theorem trod_sized {H : Type} {enc : TypeId × Value → H} {W : World} {fuel : Nat} {v : Value} {d : DataW H} {p : List MemPlace} (hf : DataW.trod enc Tryz.prog W 0 (fun _ => true) true fuel 46 [v] = some (d, p))
    {ts : List TypeId} {ds : List (DataW H)} (hsz : (DataW.weightsEach Tryz.prog ts ds).all (· ≤ reachBytes) = true) (j : Nat) (ht : ts[j]? = some 46) (hd : ds[j]? = some d) :
    ∃ zs, Reads W v zs ∧ zs.length ≤ 140737488355328 - 4096 := by
  rcases open_ints u_bytes u_byte cells_byte hf with ⟨hcs, hx⟩ | ⟨x, l, c, zs, hcs, _, hl, hm, hz, hx, hcell, hwz⟩
  · simp only [List.cons.injEq, and_true] at hcs
    subst hcs
    exact ⟨[], Reads.nil _, by simp⟩
  · simp only [List.cons.injEq, and_true] at hcs
    subst hcs
    simp at hz
    simp only [Prod.mk.injEq] at hx
    have hlen : (zs.take l).length = l := by simp; omega
    have hs := sized_slice hsz ht (by rw [hd, hx.1]) u_bytes
    rw [bytesOf_byte] at hs
    simp only [lits, List.length_map, List.length_take, List.length_drop, reachBytes] at hs
    refine ⟨zs.take l, ⟨some x, c, by rw [hlen], by omega, fun h => by simp at h, ?_, ?_⟩, by omega⟩
    · intro z hz'
      have := bounds_u8 (hwz z (List.mem_of_mem_take hz'))
      omega
    · intro hp
      rw [hlen] at hp
      obtain ⟨b, off, spot⟩ := x
      have hspot : spot = none := by
        have := World.cell?_spot (hcell 0 (by omega))
        simpa [Addr.add] using this
      subst hspot
      refine ⟨b, off, rfl, fun i hi => ?_⟩
      rw [hlen] at hi
      have := hcell i (by omega)
      rw [Addr.add_lit] at this
      rw [this]
      simp [List.getD, hi]

end Go.Proofs.YtpbmpmiicdpehabGreatDoor

/- What an argument is in memory that is a list of entries, with the reach's bound. -/
namespace Go.Proofs.YtpbmpmiicdpehabGreatDoor
set_option maxRecDepth 20000
open Go.ChangeShapes Go.WideShapes Go.ChangeAt Go.RowKit

theorem weights_all {H : Type} {P : Program} {e : TypeId} {d : DataW H} {n : Nat} (hn : n ∈ d.weights P e) : ∀ l : List (DataW H), d ∈ l → n ∈ DataW.weightsAll P e l
  | [], h => by simp at h
  | x :: r, h => by
    simp only [DataW.weightsAll, List.mem_append]
    rcases List.mem_cons.1 h with rfl | h
    · exact .inl hn
    · exact .inr (weights_all hn r h)

theorem cells_pair : Tryz.prog.cellsOf 52 = 33 := by kernel_rfl

theorem cells_slc : Tryz.prog.cellsOf 46 = 1 := by kernel_rfl

theorem bytesOf_pair : Tryz.prog.bytesOf 52 = 56 := by kernel_rfl

/-- The cells of an entry that came in. -/
theorem trod_pair {H : Type} {enc : TypeId × Value → H} {W : World} {fuel : Nat} {cs : List Value} {x : DataW H × List MemPlace} (h : DataW.trod enc Tryz.prog W 0 (fun _ => true) true fuel 52 cs = some x)
    (hw : ∀ m ∈ x.1.weights Tryz.prog 52, m ≤ reachBytes) :
    ∃ (e : Ent) (u : Value), cs = encP e.1 u ∧ Key e.1 ∧ Reads W u e.2 ∧ e.2.length ≤ 140737488355328 - 4096 := by
  have hF : ∃ f0 f1 : Field, Tryz.prog.underlying 52 = some (.struct #[f0, f1]) ∧ (f0.type = 32 ∧ f0.offset = 0) ∧ (f1.type = 46 ∧ f1.offset = 32) := ⟨_, _, Tryz.underlying52, ⟨rfl, rfl⟩, ⟨rfl, rfl⟩⟩
  obtain ⟨f0, f1, hu, ⟨t0, o0⟩, ⟨t1, o1⟩⟩ := hF
  obtain ⟨y0, y1, n, hx, hl, e0, e1⟩ := trod_struct2 hu h
  rw [t0, o0, cells_path] at e0
  rw [t1, o1, cells_slc] at e1
  rw [cells_pair] at hl
  obtain ⟨K, lk, ek, bk⟩ := trod_u8s Tryz.underlying32 cells_path e0
  obtain ⟨u, hu1⟩ : ∃ u, (cs.drop 32).take 1 = [u] := by
    match hd : cs.drop 32, (show (cs.drop 32).length = 1 by simp [hl]) with
    | [u], _ => exact ⟨u, rfl⟩
  rw [hu1] at e1
  have hsz2 : (DataW.weightsEach Tryz.prog [32, 46] [y0.1, y1.1]).all (· ≤ reachBytes) = true := by
    rw [List.all_eq_true]
    intro m hm
    rw [decide_eq_true_iff]
    refine hw m ?_
    rw [hx]
    simp only [DataW.weights, hu]
    rw [show (#[f0, f1] : Array Field).toList.map (·.type) = [32, 46] by simp [t0, t1]]
    exact hm
  obtain ⟨zs, r1, l1⟩ := trod_sized (d := y1.1) (p := y1.2) e1 hsz2 1 rfl rfl
  refine ⟨(K, zs), u, ?_, ⟨lk, bk⟩, r1, l1⟩
  have s1 : (cs.drop 32).take 1 = cs.drop 32 := List.take_of_length_le (by simp [hl])
  have s0 : cs = cs.take 32 ++ cs.drop 32 := (List.take_append_drop 32 cs).symm
  have e2 : cs.take 32 = K.map (Value.int .u8) := by simpa using ek
  rw [s0, ← s1, hu1, e2]
  rfl

theorem arg_pairs {H : Type} {enc : TypeId × Value → H} {W : World} {base : Nat} {v : Value} {d : DataW H} {p : List MemPlace} (hv : Value.okWide Tryz.prog W .any base 22 v)
    (h : DataW.Trod enc Tryz.prog W 0 (fun _ => true) true 22 v d p) {ts : List TypeId} {ds : List (DataW H)} (hsz : (DataW.weightsEach Tryz.prog ts ds).all (· ≤ reachBytes) = true) (j : Nat) (ht : ts[j]? = some 22) (hd : ds[j]? = some d) :
    ∃ V es, PrAt W v V es ∧ es.length * 56 ≤ 140737488355328 - 4096 ∧ ∀ i, i < es.length → (es.getD i e00).2.length ≤ 140737488355328 - 4096 := by
  obtain ⟨a, len, cap, rfl⟩ := okWide_slice Tryz.underlying22 hv
  obtain ⟨fuel, hf⟩ := h
  rcases Go.Deep.open_slice Tryz.underlying22 hf with ⟨hcs, hx⟩ | ⟨x, l, c, m, n, D, Pl, hcs, _, hl, hm, hmm, hx, hcell⟩
  · simp [Value.cells] at hcs
    obtain ⟨rfl, rfl, rfl⟩ := hcs
    exact ⟨fun _ => undef, [], ⟨none, 0, rfl, by simp, fun h => by simp at h, fun i hi => by simp at hi⟩, by simp, fun i hi => by simp at hi⟩
  · simp [Value.cells] at hcs
    obtain ⟨rfl, rfl, rfl⟩ := hcs
    simp at hmm
    simp only [Prod.mk.injEq] at hx
    have hs := sized_slice hsz ht (by rw [hd, hx.1]) Tryz.underlying22
    rw [bytesOf_pair] at hs
    simp only [List.length_map, List.length_range, reachBytes] at hs
    have hwt : ∀ i, i < len → ∀ q ∈ (D i).weights Tryz.prog 52, q ≤ reachBytes := by
      intro i hi q hq
      have h1 := List.all_eq_true.1 hsz q (DataW.weights_mem_each ht hd q (by
        rw [hx.1]
        simp only [DataW.weights, Tryz.underlying22, List.mem_cons, List.mem_append]
        exact .inr (.inl (weights_all hq _ (List.mem_map.2 ⟨i, List.mem_range.2 hi, rfl⟩)))))
      simpa using h1
    have each : ∀ i, i < len → ∃ q : Ent × Value, (∀ k u, (encP q.1.1 q.2)[k]? = some u → W.cell? (x.add (i * 33 + k)) = some u) ∧ Key q.1.1 ∧ Reads W q.2 q.1.2 ∧ q.1.2.length ≤ 140737488355328 - 4096 := by
      intro i hi
      obtain ⟨cs', h1, h2⟩ := hcell i (by omega)
      rw [cells_pair] at h1
      obtain ⟨_, hlen, hc⟩ := World.cells?_some h1
      obtain ⟨e, u, rfl, hk, hr, hl2⟩ := trod_pair h2 (hwt i hi)
      refine ⟨(e, u), fun k w hw => ?_, hk, hr, hl2⟩
      have hk2 := (List.getElem?_eq_some_iff.1 hw).1
      have hk3 : k < 33 := by rw [← hlen]; exact hk2
      have h3 := hc k hk3
      rw [Go.Deep.add_add] at h3
      rw [h3]
      exact hw
    obtain ⟨q, hq⟩ := Go.Deep.choose_lt each
    have hget : ∀ i, i < len → ((List.range len).map fun i => (q i).1).getD i e00 = (q i).1 := fun i hi => by simp [List.getD, hi]
    refine ⟨fun i => (q i).2, (List.range len).map fun i => (q i).1, ⟨some x, cap, by simp, by simp; omega, fun hp => ?_, fun i hi => ?_⟩, by simp; omega, fun i hi => ?_⟩
    · simp only [List.length_map, List.length_range] at hp
      obtain ⟨b, off, spot⟩ := x
      have hspot : spot = none := by
        have hlen := encP_length (q 0).1.1 (q 0).2 (hq 0 hp).2.1.1
        have := World.cell?_spot ((hq 0 hp).1 0 _ (List.getElem?_eq_getElem (by omega)))
        simpa [Addr.add] using this
      subst hspot
      refine ⟨b, off, rfl, fun i hi k u hu => ?_⟩
      simp only [List.length_map, List.length_range] at hi
      rw [hget i hi] at hu
      have := (hq i hi).1 k u hu
      rw [Addr.add_lit] at this
      rw [Nat.add_assoc]
      exact this
    · simp only [List.length_map, List.length_range] at hi
      rw [hget i hi]
      exact ⟨(hq i hi).2.1, (hq i hi).2.2.1⟩
    · simp only [List.length_map, List.length_range] at hi
      rw [hget i hi]
      exact (hq i hi).2.2.2

end Go.Proofs.YtpbmpmiicdpehabGreatDoor

/- A slice of keys that came in. -/
namespace Go.Proofs.YtpbmpmiicdpehabGreatDoor
set_option maxRecDepth 20000
open Go.ChangeShapes Go.WideShapes Go.ChangeAt Go.RowKit

theorem arg_paths {H : Type} {enc : TypeId × Value → H} {W : World} {base : Nat} {v : Value} {d : DataW H} {p : List MemPlace} (hv : Value.okWide Tryz.prog W .any base 23 v) (h : DataW.Trod enc Tryz.prog W 0 (fun _ => true) true 23 v d p) : ∃ ks, PsAt W v ks := by
  obtain ⟨a, len, cap, rfl⟩ := okWide_slice Tryz.underlying23 hv
  obtain ⟨fuel, hf⟩ := h
  rcases Go.Deep.open_slice Tryz.underlying23 hf with ⟨hcs, hx⟩ | ⟨x, l, c, m, n, D, Pl, hcs, _, hl, hm, hmm, hx, hcell⟩
  · simp [Value.cells] at hcs
    obtain ⟨rfl, rfl, rfl⟩ := hcs
    exact ⟨[], none, 0, rfl, by simp, fun h => absurd h (by simp), fun i h => absurd h (by simp)⟩
  · simp [Value.cells] at hcs
    obtain ⟨rfl, rfl, rfl⟩ := hcs
    simp at hmm
    have each : ∀ i, i < len → ∃ q : List Int, (∀ k u, (q.map (Value.int .u8))[k]? = some u → W.cell? (x.add (i * 32 + k)) = some u) ∧ q.length = 32 ∧ Bytes q := by
      intro i hi
      obtain ⟨cs', h1, h2⟩ := hcell i (by omega)
      rw [cells_path] at h1
      obtain ⟨_, hlen, hc⟩ := World.cells?_some h1
      obtain ⟨q, lq, rfl, bq⟩ := trod_u8s Tryz.underlying32 cells_path h2
      refine ⟨q, fun k w hw => ?_, lq, bq⟩
      have hk2 := (List.getElem?_eq_some_iff.1 hw).1
      have hk3 : k < 32 := by rw [← hlen]; exact hk2
      have h3 := hc k hk3
      rw [Go.Deep.add_add] at h3
      rw [h3]
      exact hw
    obtain ⟨q, hq⟩ := Go.Deep.choose_lt each
    have hget : ∀ i, i < len → ((List.range len).map q).getD i [] = q i := fun i hi => by simp [List.getD, hi]
    refine ⟨(List.range len).map q, some x, cap, by simp, by simp; omega, fun hp => ?_, fun i hi => ?_⟩
    · simp only [List.length_map, List.length_range] at hp
      obtain ⟨b, off, spot⟩ := x
      have hspot : spot = none := by
        have hlen : ((q 0).map (Value.int .u8)).length = 32 := by rw [List.length_map]; exact (hq 0 hp).2.1
        have := World.cell?_spot ((hq 0 hp).1 0 _ (List.getElem?_eq_getElem (by omega)))
        simpa [Addr.add] using this
      subst hspot
      refine ⟨b, off, rfl, fun i hi k u hu => ?_⟩
      simp only [List.length_map, List.length_range] at hi
      rw [hget i hi, B_toList] at hu
      have := (hq i hi).1 k u hu
      rw [Addr.add_lit] at this
      rw [Nat.add_assoc]
      exact this
    · simp only [List.length_map, List.length_range] at hi
      rw [hget i hi]
      exact (hq i hi).2

end Go.Proofs.YtpbmpmiicdpehabGreatDoor
