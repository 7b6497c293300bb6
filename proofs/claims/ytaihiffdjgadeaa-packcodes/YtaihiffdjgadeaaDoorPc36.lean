/- PackCodes holds, and its card: any proof's bytes, their number, or the error are what the document tells; of any bytes the proof that is read, or the error; what is handed in stays, and what is told is new memory (a proof of more than 300 sides the law itself passes by). No condition beside memory's own bound, but that sha's two tables begin as the program's text lays them, which the card ties. -/
import Derived.Test.YtaihiffdjgadeaaDoorPc35
import Derived.Test.YtaihiffdjgadeaaDoorPc22
import Derived.Test.YtaihiffdjgadeaaDoorPc33
import Derived.Test.YtaihiffdjgadeaaDoorPc34
import Derived.Test.YtaihiffdjgadeaaDoorCards
import Derived.Test.YtaihiffdjgadeaaDoorTie
import Derived.ChangeOld
import Derived.Below
import Derived.SevenTiedAt
namespace Go.Proofs.YtaihiffdjgadeaaDoor
set_option maxRecDepth 20000
open Go.ChangeShapes Go.WideShapes Go.ChangeAt Go.RowKit

theorem cells_hs : Tryd.prog.cellsOf 22 = 1 := by kernel_rfl

theorem cells_proof : Tryd.prog.cellsOf 30 = 130 := by kernel_rfl

/-- A list of digests that came in. -/
theorem trod_hashes {H : Type} {enc : TypeId × Value → H} {W : World} {fuel : Nat} {v : Value} {y : DataW H × List MemPlace} (hf : DataW.trod enc Tryd.prog W 0 (fun _ => true) true fuel 22 [v] = some y) : ∃ hs, HsAt W v hs ∧ Plc v := by
  rcases Go.Deep.open_slice Tryd.underlying22 hf with ⟨hcs, hx⟩ | ⟨x, l, c, m, n, D, Pl, hcs, _, hl, hm, hmm, hx, hcell⟩
  · simp only [List.cons.injEq, and_true] at hcs
    subst hcs
    exact ⟨[], HsAt.nil W, .inl rfl⟩
  · simp only [List.cons.injEq, and_true] at hcs
    subst hcs
    simp at hmm
    have each : ∀ i, i < l → ∃ q : List Int, (∀ k u, (q.map (Value.int .u8))[k]? = some u → W.cell? (x.add (i * 32 + k)) = some u) ∧ q.length = 32 ∧ Bytes q := by
      intro i hi
      obtain ⟨cs', h1, h2⟩ := hcell i (by omega)
      rw [cells_hash] at h1
      obtain ⟨_, hlen, hc⟩ := World.cells?_some h1
      obtain ⟨q, lq, rfl, bq⟩ := trod_u8s Tryd.underlying26 cells_hash h2
      refine ⟨q, fun k w hw => ?_, lq, bq⟩
      have hk2 := (List.getElem?_eq_some_iff.1 hw).1
      have hk3 : k < 32 := by rw [← hlen]; exact hk2
      have h3 := hc k hk3
      rw [Go.Deep.add_add] at h3
      rw [h3]
      exact hw
    obtain ⟨q, hq⟩ := Go.Deep.choose_lt each
    have hget : ∀ i, i < l → ((List.range l).map q).getD i [] = q i := fun i hi => by simp [List.getD, hi]
    refine ⟨(List.range l).map q, ⟨some x, c, by simp, by simp; omega, fun hp => ?_, fun i hi => ?_⟩, .inr ⟨x, l, c, rfl⟩⟩
    · simp only [List.length_map, List.length_range] at hp
      obtain ⟨b, off, spot⟩ := x
      have hspot : spot = none := by
        have hlen : ((q 0).map (Value.int .u8)).length = 32 := by rw [List.length_map]; exact (hq 0 hp).2.1
        have := World.cell?_spot ((hq 0 hp).1 0 _ (List.getElem?_eq_getElem (by omega)))
        simpa [Addr.add] using this
      subst hspot
      refine ⟨b, off, rfl, fun i hi k u hu => ?_⟩
      simp only [List.length_map, List.length_range] at hi
      rw [hget i hi, B_toList] at hu
      have := (hq i hi).1 k u hu
      rw [Addr.add_lit] at this
      rw [Nat.add_assoc]
      exact this
    · simp only [List.length_map, List.length_range] at hi
      rw [hget i hi]
      exact (hq i hi).2

theorem arg_proof {H : Type} {enc : TypeId × Value → H} {W : World} {base : Nat} {v : Value} {d : DataW H} {p : List MemPlace} (hv : Value.okWide Tryd.prog W .any base 30 v) (h : DataW.Trod enc Tryd.prog W 0 (fun _ => true) true 30 v d p) :
    ∃ s hs k a b c e, v = .agg (encR s (nd k a b c e)).toArray ∧ HsAt W s hs ∧ Plc s ∧ Nd k a b c e := by
  obtain ⟨fs, hu⟩ := u_proof
  obtain ⟨cs, rfl⟩ := okWide_str hu hv
  obtain ⟨fuel, hf⟩ := h
  have hF : ∃ f0 f1 : Field, Tryd.prog.underlying 30 = some (.struct #[f0, f1]) ∧ (f0.type = 22 ∧ f0.offset = 0) ∧ (f1.type = 28 ∧ f1.offset = 1) := ⟨_, _, Tryd.underlying30, ⟨rfl, rfl⟩, ⟨rfl, rfl⟩⟩
  obtain ⟨f0, f1, hu2, ⟨t0, o0⟩, ⟨t1, o1⟩⟩ := hF
  obtain ⟨y0, y1, n, hx, hl, e0, e1⟩ := trod_struct2 hu2 hf
  simp only [Value.cells] at hl e0 e1
  rw [t0, o0, cells_hs] at e0
  rw [t1, o1, cells_node] at e1
  rw [cells_proof] at hl
  obtain ⟨cl⟩ := cs
  match cl, hl with
  | s :: r, hl =>
    have e0' : DataW.trod enc Tryd.prog W 0 (fun _ => true) true n 22 [s] = some y0 := by simpa using e0
    have hr : r.length = 129 := by simpa using hl
    have e1' : DataW.trod enc Tryd.prog W 0 (fun _ => true) true n 28 r = some y1 := by
      have : r.take 129 = r := List.take_of_length_le (by omega)
      simpa [this] using e1
    obtain ⟨hs, h1, h2⟩ := trod_hashes e0'
    obtain ⟨k, a, b, c, e, h3, h4⟩ := trod_node e1'
    exact ⟨s, hs, k, a, b, c, e, by rw [h3]; rfl, h1, h2, h4⟩

end Go.Proofs.YtaihiffdjgadeaaDoor

/- PackCodes holds, and its card: any proof's bytes, their number, or the error are what the document tells; of any bytes the proof that is read, or the error; what is handed in stays, and what is told is new memory (a proof of more than 300 sides the law itself passes by). No condition beside memory's own bound, but that sha's two tables begin as the program's text lays them, which the card ties. -/
namespace Go.Proofs.YtaihiffdjgadeaaDoor
set_option maxRecDepth 20000
open Go.ChangeShapes Go.WideShapes Go.ChangeAt Go.RowKit

namespace packCodes
set_option maxRecDepth 100000 in
theorem lifted (os : Os) (started : os.Started) (H : Type) (enc : TypeId × Value → H) :
    ReturnsInHanded {} Tryd.checked os 3 .any (fun w args => (Rows.packCodesSpec.pre enc Tryd.prog Tryd.f3 [] false w args ∧ laidMetH Tryd.prog laid2 w) ∧ sizedMet enc Tryd.prog Tryd.f3 (OpenSpec.ofChange Rows.packCodesSpec) false w args)
      (Rows.packCodesSpec.post enc Tryd.prog Tryd.f3 false true false false) := by
  refine returnsInHanded_of_change_and (C := Tryd.checked) (X := fun w _ => laidMetH Tryd.prog laid2 w) (fun _ _ _ hh h => h.of_heap hh) ownK started (by kernel_rfl) Tryd.func3
    (ChangeSpec.witness_shaped (enc := enc) (C := Tryd.checked) (os := os) (X := fun w _ => laidMetH Tryd.prog laid2 w) false (World.doorLaid Tryd.prog 400 os) #[.agg (encR (.slice none 0 0) (List.replicate 129 0)).toArray, .slice none 0 0] 8 rfl (World.shaped_of_RefB (by kernel_rfl) (by kernel_rfl)) (by kernel_rfl) (by kernel_rfl) (by kernel_rfl) (door_met os _)) ?_
  intro W base args ds gs before hval0 hW hcnd hsz0 hL _
  have hval : ∀ (j : Nat) t v, Tryd.f3.params[j]? = some t → args[j]? = some v → Value.okWide Tryd.prog W .any base t v := hval0
  have hW' := hW
  obtain ⟨p, q, hA0, hV, rfl, hfz, hnd⟩ := hW
  have hA : DataW.TrodAll enc Tryd.prog W 0 (fun _ => true) true Tryd.f3.params.toList args.toList ds p := hA0
  have hsz : (DataW.weightsEach Tryd.prog (Tryd.f3.params.toList ++ Rows.packCodesSpec.plain.varTypes Tryd.prog) (ds ++ gs)).all (· ≤ reachBytes) = true := hsz0
  rw [Tryd.params3] at hA hval hsz
  obtain ⟨v0, vs0, d0, ds0, p0, q0, hargs, rfl, rfl, h0, r0⟩ := trodAll_cons hA
  obtain ⟨v1, vs1, d1, ds1, p1, q1, rfl, rfl, rfl, h1, r1⟩ := trodAll_cons r0
  obtain ⟨rfl, rfl, rfl⟩ := trodAll_nil r1
  obtain rfl : args = #[v0, v1] := by cases args; simp_all
  obtain ⟨rfl, rfl⟩ := trodVars_none hV
  have lt0 : ∀ x ∈ p0, x.block < W.heap.size := by obtain ⟨m, hm⟩ := h0; exact DataW.trod_lt m _ _ _ hm
  have lt1 : ∀ x ∈ p1, x.block < W.heap.size := by obtain ⟨m, hm⟩ := h1; exact DataW.trod_lt m _ _ _ hm
  obtain ⟨sd, hs, k, a, b, c, d, rfl, hh, hp, hN⟩ := arg_proof (hval 0 30 v0 rfl rfl) h0
  obtain ⟨zs, hr, hl, _⟩ := arg_bytes (hval 1 31 v1 rfl rfl) h1 hsz 1 rfl rfl
  clear hA0 hval0
  refine (packCodes_walk sd hs k a b c d v1 zs W hh hp hN hr (by omega) (of_laid hL)).mono fun e W' ⟨he, bel⟩ => ?_
  subst he
  have t0 := Below.trod laidOut (by kernel_rfl) (of_decide_eq_true (by kernel_rfl)) h0 bel lt0
  have t1 := Below.trod laidOut (by kernel_rfl) (of_decide_eq_true (by kernel_rfl)) h1 bel lt1
  exact ⟨_, rfl, _, _, _, [], _, [], hW', trodAll_mk1 (shut_bool Tryd.underlying4 _), (trodAll_cons_mk t0 (trodAll_cons_mk t1 trodAll_mk0)), rfl, bel.frame _, fun h => by cases h⟩

theorem over : Rows.PackCodesSaid :=
  OpenClaim.holds_of_wide 3 Tryd.f3 rfl rfl rfl rfl rfl rfl rfl ⟨rfl, rfl, rfl, rfl, rfl⟩ rfl rfl rfl rfl rfl (by kernel_rfl) Tryd.func3 (by kernel_rfl)
    (of_decide_eq_true (by kernel_rfl)) (by (unfold Func.isWrapper; first | (rw [if_pos (by decide +kernel)]; kernel_rfl) | (rw [if_neg (by decide +kernel)]; exact ⟨rfl, rfl⟩)))
    (fun os started H enc _ => lifted os started H enc)
end packCodes

theorem packCodes_holds : Rows.PackCodesCardSaid :=
  Claim7.holds_tied_plain_at .later [] [.data, .data] true (true, "aa912045f936fca93380867caa68631f75b9f1ce6092a643c926f0dcbde32caf") false
    packCodes.over (fun _ h => by cases h) (by kernel_rfl) (fun _ h => by cases h) packCodes_row_tie rfl ⟨rfl, rfl⟩ (by kernel_rfl) rfl
    (fun f fn hf hfn => by
      obtain rfl : f = 3 := Option.some.inj ((show Tryd.prog.funcNamed Rows.packCodesRow.func = some 3 by kernel_rfl).symm.trans hf) |>.symm
      obtain rfl : fn = Tryd.f3 := (Option.some.inj (Tryd.func3.symm.trans hfn)).symm
      exact ⟨by kernel_rfl, fun j t ht => by
        rw [Tryd.params3] at ht
        have hm : t ∈ [30, 31] := by simpa using Array.mem_of_getElem? ht
        have hall : ([30, 31].all fun u => !Tryd.prog.wantsStandIn u) = true := by kernel_rfl
        exact (show Tryd.prog.wantsStandIn t = false by simpa using List.all_eq_true.1 hall t hm)⟩)
    (by kernel_rfl)
end Go.Proofs.YtaihiffdjgadeaaDoor
#print axioms Go.Proofs.YtaihiffdjgadeaaDoor.packCodes_holds
