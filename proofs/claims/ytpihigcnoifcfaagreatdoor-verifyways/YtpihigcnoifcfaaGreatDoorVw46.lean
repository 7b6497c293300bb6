/- VerifyWays holds, and its card: of any entries and any key the bytes of its way are accepted under their root, say what is there, and are accepted under no other root; two values of one digest that both are said to be there are told as a clash. (The law itself looks at the first 40 entries.) No condition beside memory's own bound, but that sha's two tables begin as the program's text lays them, which the card ties. -/
import Derived.Test.YtpihigcnoifcfaaGreatDoorVw45
import Derived.Test.YtpihigcnoifcfaaGreatDoorVw20
import Derived.Test.YtpihigcnoifcfaaGreatDoorRows
import Derived.Test.YtpihigcnoifcfaaGreatDoorVw08
import Derived.ProofKit
import Derived.LaidMore
import Derived.OpenShut
import Derived.Stop.Joined
import Derived.Lib.LaidTab
import Derived.Test.YtpihigcnoifcfaaGreatDoorVw43
import Derived.Test.YtpihigcnoifcfaaGreatDoorVw44
import Derived.Test.YtpihigcnoifcfaaGreatDoorCards
import Derived.Test.YtpihigcnoifcfaaGreatDoorTie
import Derived.ChangeOld
import Derived.Below
import Derived.SevenTiedAt
namespace Go.Proofs.YtpihigcnoifcfaaGreatDoor
set_option maxRecDepth 20000
open Go.ChangeShapes Go.WideShapes Go.ChangeAt Go.RowKit

theorem weights_all {H : Type} {P : Program} {e : TypeId} {d : DataW H} {n : Nat} (hn : n ∈ d.weights P e) : ∀ l : List (DataW H), d ∈ l → n ∈ DataW.weightsAll P e l
  | [], h => by simp at h
  | x :: r, h => by
    simp only [DataW.weightsAll, List.mem_append]
    rcases List.mem_cons.1 h with rfl | h
    · exact .inl hn
    · exact .inr (weights_all hn r h)

theorem cells_pair : Tryz.prog.cellsOf 45 = 33 := by kernel_rfl

theorem cells_slc : Tryz.prog.cellsOf 26 = 1 := by kernel_rfl

theorem bytesOf_pair : Tryz.prog.bytesOf 45 = 56 := by kernel_rfl

/-- The cells of an entry that came in. -/
theorem trod_pair {H : Type} {enc : TypeId × Value → H} {W : World} {fuel : Nat} {cs : List Value} {x : DataW H × List MemPlace} (h : DataW.trod enc Tryz.prog W 0 (fun _ => true) true fuel 45 cs = some x)
    (hw : ∀ m ∈ x.1.weights Tryz.prog 45, m ≤ reachBytes) :
    ∃ (e : Ent) (u : Value), cs = encP e.1 u ∧ Key e.1 ∧ Reads W u e.2 ∧ e.2.length ≤ 140737488355328 - 4096 := by
  have hF : ∃ f0 f1 : Field, Tryz.prog.underlying 45 = some (.struct #[f0, f1]) ∧ (f0.type = 24 ∧ f0.offset = 0) ∧ (f1.type = 26 ∧ f1.offset = 32) := ⟨_, _, Tryz.underlying45, ⟨rfl, rfl⟩, ⟨rfl, rfl⟩⟩
  obtain ⟨f0, f1, hu, ⟨t0, o0⟩, ⟨t1, o1⟩⟩ := hF
  obtain ⟨y0, y1, n, hx, hl, e0, e1⟩ := trod_struct2 hu h
  rw [t0, o0, cells_path] at e0
  rw [t1, o1, cells_slc] at e1
  rw [cells_pair] at hl
  obtain ⟨K, lk, ek, bk⟩ := trod_u8s Tryz.underlying24 cells_path e0
  obtain ⟨u, hu1⟩ : ∃ u, (cs.drop 32).take 1 = [u] := by
    match hd : cs.drop 32, (show (cs.drop 32).length = 1 by simp [hl]) with
    | [u], _ => exact ⟨u, rfl⟩
  rw [hu1] at e1
  have hsz2 : (DataW.weightsEach Tryz.prog [24, 26] [y0.1, y1.1]).all (· ≤ reachBytes) = true := by
    rw [List.all_eq_true]
    intro m hm
    rw [decide_eq_true_iff]
    refine hw m ?_
    rw [hx]
    simp only [DataW.weights, hu]
    rw [show (#[f0, f1] : Array Field).toList.map (·.type) = [24, 26] by simp [t0, t1]]
    exact hm
  obtain ⟨zs, r1, l1⟩ := trod_sized (d := y1.1) (p := y1.2) e1 hsz2 1 rfl rfl
  refine ⟨(K, zs), u, ?_, ⟨lk, bk⟩, r1, l1⟩
  have s1 : (cs.drop 32).take 1 = cs.drop 32 := List.take_of_length_le (by simp [hl])
  have s0 : cs = cs.take 32 ++ cs.drop 32 := (List.take_append_drop 32 cs).symm
  have e2 : cs.take 32 = K.map (Value.int .u8) := by simpa using ek
  rw [s0, ← s1, hu1, e2]
  rfl

theorem arg_pairs {H : Type} {enc : TypeId × Value → H} {W : World} {base : Nat} {v : Value} {d : DataW H} {p : List MemPlace} (hv : Value.okWide Tryz.prog W .any base 22 v)
    (h : DataW.Trod enc Tryz.prog W 0 (fun _ => true) true 22 v d p) {ts : List TypeId} {ds : List (DataW H)} (hsz : (DataW.weightsEach Tryz.prog ts ds).all (· ≤ reachBytes) = true) (j : Nat) (ht : ts[j]? = some 22) (hd : ds[j]? = some d) :
    ∃ V es, PrAt W v V es ∧ es.length * 56 ≤ 140737488355328 - 4096 ∧ ∀ i, i < es.length → (es.getD i e00).2.length ≤ 140737488355328 - 4096 := by
  obtain ⟨a, len, cap, rfl⟩ := okWide_slice Tryz.underlying22 hv
  obtain ⟨fuel, hf⟩ := h
  rcases Go.Deep.open_slice Tryz.underlying22 hf with ⟨hcs, hx⟩ | ⟨x, l, c, m, n, D, Pl, hcs, _, hl, hm, hmm, hx, hcell⟩
  · simp [Value.cells] at hcs
    obtain ⟨rfl, rfl, rfl⟩ := hcs
    exact ⟨fun _ => undef, [], ⟨none, 0, rfl, by simp, fun h => by simp at h, fun i hi => by simp at hi⟩, by simp, fun i hi => by simp at hi⟩
  · simp [Value.cells] at hcs
    obtain ⟨rfl, rfl, rfl⟩ := hcs
    simp at hmm
    simp only [Prod.mk.injEq] at hx
    have hs := sized_slice hsz ht (by rw [hd, hx.1]) Tryz.underlying22
    rw [bytesOf_pair] at hs
    simp only [List.length_map, List.length_range, reachBytes] at hs
    have hwt : ∀ i, i < len → ∀ q ∈ (D i).weights Tryz.prog 45, q ≤ reachBytes := by
      intro i hi q hq
      have h1 := List.all_eq_true.1 hsz q (DataW.weights_mem_each ht hd q (by
        rw [hx.1]
        simp only [DataW.weights, Tryz.underlying22, List.mem_cons, List.mem_append]
        exact .inr (.inl (weights_all hq _ (List.mem_map.2 ⟨i, List.mem_range.2 hi, rfl⟩)))))
      simpa using h1
    have each : ∀ i, i < len → ∃ q : Ent × Value, (∀ k u, (encP q.1.1 q.2)[k]? = some u → W.cell? (x.add (i * 33 + k)) = some u) ∧ Key q.1.1 ∧ Reads W q.2 q.1.2 ∧ q.1.2.length ≤ 140737488355328 - 4096 := by
      intro i hi
      obtain ⟨cs', h1, h2⟩ := hcell i (by omega)
      rw [cells_pair] at h1
      obtain ⟨_, hlen, hc⟩ := World.cells?_some h1
      obtain ⟨e, u, rfl, hk, hr, hl2⟩ := trod_pair h2 (hwt i hi)
      refine ⟨(e, u), fun k w hw => ?_, hk, hr, hl2⟩
      have hk2 := (List.getElem?_eq_some_iff.1 hw).1
      have hk3 : k < 33 := by rw [← hlen]; exact hk2
      have h3 := hc k hk3
      rw [Go.Deep.add_add] at h3
      rw [h3]
      exact hw
    obtain ⟨q, hq⟩ := Go.Deep.choose_lt each
    have hget : ∀ i, i < len → ((List.range len).map fun i => (q i).1).getD i e00 = (q i).1 := fun i hi => by simp [List.getD, hi]
    refine ⟨fun i => (q i).2, (List.range len).map fun i => (q i).1, ⟨some x, cap, by simp, by simp; omega, fun hp => ?_, fun i hi => ?_⟩, by simp; omega, fun i hi => ?_⟩
    · simp only [List.length_map, List.length_range] at hp
      obtain ⟨b, off, spot⟩ := x
      have hspot : spot = none := by
        have hlen := encP_length (q 0).1.1 (q 0).2 (hq 0 hp).2.1.1
        have := World.cell?_spot ((hq 0 hp).1 0 _ (List.getElem?_eq_getElem (by omega)))
        simpa [Addr.add] using this
      subst hspot
      refine ⟨b, off, rfl, fun i hi k u hu => ?_⟩
      simp only [List.length_map, List.length_range] at hi
      rw [hget i hi] at hu
      have := (hq i hi).1 k u hu
      rw [Addr.add_lit] at this
      rw [Nat.add_assoc]
      exact this
    · simp only [List.length_map, List.length_range] at hi
      rw [hget i hi]
      exact ⟨(hq i hi).2.1, (hq i hi).2.2.1⟩
    · simp only [List.length_map, List.length_range] at hi
      rw [hget i hi]
      exact (hq i hi).2.2.2

end Go.Proofs.YtpihigcnoifcfaaGreatDoor

/- What the two tables of sha hold when a statement's call begins, as the rows list it; and the start that the program's own text lays. -/
namespace Go.Proofs.YtpihigcnoifcfaaGreatDoor
set_option maxRecDepth 20000
open Go.ChangeShapes Go.WideShapes Go.ChangeAt Go.WideMaps Go.WideElems Go.RowKit

abbrev laid2 : List (String × DataW Unit) := Rows.verifyWaysRow.laid
abbrev nameOf (i : Nat) : String := (laid2.map (·.1)).getD i Rows.verifyWaysRow.func

theorem gFirst : Tryz.prog.globalNamed (nameOf 0) = some 0 := by kernel_rfl
theorem gRounds : Tryz.prog.globalNamed (nameOf 1) = some 2 := by kernel_rfl
theorem tFirst : (Tryz.prog.globals[0]?).map (·.type) = some 120 := by kernel_rfl
theorem tRounds : (Tryz.prog.globals[2]?).map (·.type) = some 140 := by kernel_rfl

/-- The door's own heap meets the condition. -/
theorem door_met (os : Os) (args : Array Value) : laidMetH Tryz.prog laid2 ((World.doorLaid Tryz.prog 400 os).forCall (fun _ _ => 0) ⟨#[], args, []⟩).memory :=
  laidMetH_of_parts3 (fuel := 8) (laidMet_of_run' 8 (by kernel_rfl) (by kernel_rfl)) (by kernel_rfl) (by kernel_rfl)

theorem tab_first : (Rows.laid_rootcellar_sha_first : DataW Unit) = Lib.tabData .u32 hs := rfl
theorem tab_rounds : (Rows.laid_rootcellar_sha_rounds : DataW Unit) = Lib.tabData .u32 ks := rfl
theorem cells_w8 : Tryz.prog.cellsOf 120 = 8 := by kernel_rfl
theorem cells_w64 : Tryz.prog.cellsOf 140 = 64 := by kernel_rfl
theorem cells_w : Tryz.prog.cellsOf 119 = 1 := by kernel_rfl

/-- What the condition gives the walks. -/
theorem of_laid {W : World} (h : laidMetH Tryz.prog laid2 W) : Laid W := by
  rw [MakeChecks.laidMetH_plain _ _ _ (by kernel_rfl)] at h
  obtain ⟨ps, ⟨g0, t0, cs0, f0, p0, q0, hg0, ht0, hv0, hd0, ⟨g1, t1, cs1, f1, p1, q1, hg1, ht1, hv1, hd1, _, _⟩, _⟩, _, _⟩ := h
  obtain rfl := Option.some.inj (gFirst.symm.trans hg0)
  obtain rfl := Option.some.inj (gRounds.symm.trans hg1)
  obtain rfl := Option.some.inj (tFirst.symm.trans ht0)
  obtain rfl := Option.some.inj (tRounds.symm.trans ht1)
  rw [tab_first] at hd0
  rw [tab_rounds] at hd1
  have e0 := Lib.cells_of_tab Tryz.underlying120 Tryz.underlying119 cells_w cells_w8 hd0
  have e1 := Lib.cells_of_tab Tryz.underlying140 Tryz.underlying119 cells_w cells_w64 hd1
  have c1 : ∀ i, i < 64 → W.cell? ⟨2, i, none⟩ = some (.int .u32 (ks.getD i 0)) := by
    intro i hi
    rw [World.var?_cell hg1 hv1 i, ← Array.getElem?_toList, e1, List.getElem?_map, List.getElem?_eq_getElem (show i < ks.length from hi)]
    simp [List.getD, show i < ks.length from hi]
  have c0 : ∀ i, i < 8 → W.cell? ⟨0, i, none⟩ = some (.int .u32 (hs.getD i 0)) := by
    intro i hi
    rw [World.var?_cell hg0 hv0 i, ← Array.getElem?_toList, e0, List.getElem?_map, List.getElem?_eq_getElem (show i < hs.length from hi)]
    simp [List.getD, show i < hs.length from hi]
  exact ⟨block_lt_of_cell (c1 0 (by omega)), c1, c0⟩

end Go.Proofs.YtpihigcnoifcfaaGreatDoor

/- VerifyWays holds, and its card: of any entries and any key the bytes of its way are accepted under their root, say what is there, and are accepted under no other root; two values of one digest that both are said to be there are told as a clash. (The law itself looks at the first 40 entries.) No condition beside memory's own bound, but that sha's two tables begin as the program's text lays them, which the card ties. -/
namespace Go.Proofs.YtpihigcnoifcfaaGreatDoor
set_option maxRecDepth 20000
open Go.ChangeShapes Go.WideShapes Go.ChangeAt Go.RowKit

namespace verifyWays
set_option maxRecDepth 100000 in
theorem lifted (os : Os) (started : os.Started) (H : Type) (enc : TypeId × Value → H) :
    ReturnsInHanded {} Tryz.checked os 3 .any (fun w args => (Rows.verifyWaysSpec.pre enc Tryz.prog Tryz.f3 [] false w args ∧ laidMetH Tryz.prog laid2 w) ∧ sizedMet enc Tryz.prog Tryz.f3 (OpenSpec.ofChange Rows.verifyWaysSpec) false w args)
      (Rows.verifyWaysSpec.post enc Tryz.prog Tryz.f3 false true false false) := by
  refine returnsInHanded_of_change_and (C := Tryz.checked) (X := fun w _ => laidMetH Tryz.prog laid2 w) (fun _ _ _ hh h => h.of_heap hh) ownK started (by kernel_rfl) Tryz.func3
    (ChangeSpec.witness_shaped (enc := enc) (C := Tryz.checked) (os := os) (X := fun w _ => laidMetH Tryz.prog laid2 w) false (World.doorLaid Tryz.prog 400 os) #[.slice none 0 0, .agg (B (List.replicate 32 0)), .agg (B (List.replicate 32 0)), .slice none 0 0] 8 rfl (World.shaped_of_RefB (by kernel_rfl) (by kernel_rfl)) (by kernel_rfl) (by kernel_rfl) (by kernel_rfl) (door_met os _)) ?_
  intro W base args ds gs before hval0 hW hcnd hsz0 hL _
  have hval : ∀ (j : Nat) t v, Tryz.f3.params[j]? = some t → args[j]? = some v → Value.okWide Tryz.prog W .any base t v := hval0
  have hW' := hW
  obtain ⟨p, q, hA0, hV, rfl, hfz, hnd⟩ := hW
  have hA : DataW.TrodAll enc Tryz.prog W 0 (fun _ => true) true Tryz.f3.params.toList args.toList ds p := hA0
  have hsz : (DataW.weightsEach Tryz.prog (Tryz.f3.params.toList ++ Rows.verifyWaysSpec.plain.varTypes Tryz.prog) (ds ++ gs)).all (· ≤ reachBytes) = true := hsz0
  rw [Tryz.params3] at hA hval hsz
  obtain ⟨v0, vs0, d0, ds0, p0, q0, hargs, rfl, rfl, h0, r0⟩ := trodAll_cons hA
  obtain ⟨v1, vs1, d1, ds1, p1, q1, rfl, rfl, rfl, h1, r1⟩ := trodAll_cons r0
  obtain ⟨v2, vs2, d2, ds2, p2, q2, rfl, rfl, rfl, h2, r2⟩ := trodAll_cons r1
  obtain ⟨v3, vs3, d3, ds3, p3, q3, rfl, rfl, rfl, h3, r3⟩ := trodAll_cons r2
  obtain ⟨rfl, rfl, rfl⟩ := trodAll_nil r3
  obtain rfl : args = #[v0, v1, v2, v3] := by cases args; simp_all
  obtain ⟨rfl, rfl⟩ := trodVars_none hV
  have lt0 : ∀ x ∈ p0, x.block < W.heap.size := by obtain ⟨m, hm⟩ := h0; exact DataW.trod_lt m _ _ _ hm
  have lt1 : ∀ x ∈ p1, x.block < W.heap.size := by obtain ⟨m, hm⟩ := h1; exact DataW.trod_lt m _ _ _ hm
  have lt2 : ∀ x ∈ p2, x.block < W.heap.size := by obtain ⟨m, hm⟩ := h2; exact DataW.trod_lt m _ _ _ hm
  have lt3 : ∀ x ∈ p3, x.block < W.heap.size := by obtain ⟨m, hm⟩ := h3; exact DataW.trod_lt m _ _ _ hm
  obtain ⟨V, es, hpr, hn, _⟩ := arg_pairs (hval 0 22 v0 rfl rfl) h0 hsz 0 rfl rfl
  obtain ⟨key, hkl, rfl, hkb⟩ := arg_path (hval 1 24 v1 rfl rfl) h1
  obtain ⟨other, hol, rfl, hob⟩ := arg_hash (hval 2 25 v2 rfl rfl) h2
  obtain ⟨ys, hry, hly, _⟩ := arg_bytes (hval 3 26 v3 rfl rfl) h3 hsz 3 rfl rfl
  clear hA0 hval0
  refine (verifyWays_walk v0 V es key other v3 ys W hpr (by omega) ⟨hkl, hkb⟩ ⟨hol, hob⟩ hry (by omega) (of_laid hL)).mono fun e W' ⟨he, bel⟩ => ?_
  subst he
  have t0 := Below.trod laidOut (by kernel_rfl) (of_decide_eq_true (by kernel_rfl)) h0 bel lt0
  have t1 := Below.trod laidOut (by kernel_rfl) (of_decide_eq_true (by kernel_rfl)) h1 bel lt1
  have t2 := Below.trod laidOut (by kernel_rfl) (of_decide_eq_true (by kernel_rfl)) h2 bel lt2
  have t3 := Below.trod laidOut (by kernel_rfl) (of_decide_eq_true (by kernel_rfl)) h3 bel lt3
  exact ⟨_, rfl, _, _, _, [], _, [], hW', trodAll_mk1 (shut_bool Tryz.underlying4 _), (trodAll_cons_mk t0 (trodAll_cons_mk t1 (trodAll_cons_mk t2 (trodAll_cons_mk t3 trodAll_mk0)))), rfl, bel.frame _, fun h => by cases h⟩

theorem over : Rows.VerifyWaysSaid :=
  OpenClaim.holds_of_wide 3 Tryz.f3 rfl rfl rfl rfl rfl rfl rfl ⟨rfl, rfl, rfl, rfl, rfl⟩ rfl rfl rfl rfl rfl (by kernel_rfl) Tryz.func3 (by kernel_rfl)
    (of_decide_eq_true (by kernel_rfl)) (by (unfold Func.isWrapper; first | (rw [if_pos (by decide +kernel)]; kernel_rfl) | (rw [if_neg (by decide +kernel)]; exact ⟨rfl, rfl⟩)))
    (fun os started H enc _ => lifted os started H enc)
end verifyWays

theorem verifyWays_holds : Rows.VerifyWaysCardSaid :=
  Claim7.holds_tied_plain_at .later [] [.data, .data] true (true, "bcf6bc9bbe48774144501d02a4dce0d6419f447419a964546930b3d15dfe6f61") false
    verifyWays.over (fun _ h => by cases h) (by kernel_rfl) (fun _ h => by cases h) verifyWays_row_tie rfl ⟨rfl, rfl⟩ (by kernel_rfl) rfl
    (fun f fn hf hfn => by
      obtain rfl : f = 3 := Option.some.inj ((show Tryz.prog.funcNamed Rows.verifyWaysRow.func = some 3 by kernel_rfl).symm.trans hf) |>.symm
      obtain rfl : fn = Tryz.f3 := (Option.some.inj (Tryz.func3.symm.trans hfn)).symm
      exact ⟨by kernel_rfl, fun j t ht => by
        rw [Tryz.params3] at ht
        have hm : t ∈ [22, 24, 25, 26] := by simpa using Array.mem_of_getElem? ht
        have hall : ([22, 24, 25, 26].all fun u => !Tryz.prog.wantsStandIn u) = true := by kernel_rfl
        exact (show Tryz.prog.wantsStandIn t = false by simpa using List.all_eq_true.1 hall t hm)⟩)
    (by kernel_rfl)
end Go.Proofs.YtpihigcnoifcfaaGreatDoor
#print axioms Go.Proofs.YtpihigcnoifcfaaGreatDoor.verifyWays_holds
