/- rootcellarkit.CopyProof, as a contract. -/
import Derived.Test.YtaihiffdjgadeaaDoorPc22
import Derived.Test.YtaihiffdjgadeaaDoorPc15
import Derived.Test.YtaihiffdjgadeaaDoorPc20
namespace Go.Proofs.YtaihiffdjgadeaaDoor
set_option maxRecDepth 20000
open Go.RowKit

theorem exec_bld (o : Oper) (a : Act) (ty : TypeId) (parts : Array (Nat × Operand)) (ho : o.op = .build ty parts) (cs : Array Value) (h : Tryd.prog.built ty (parts.map fun (i, x) => (i, a.eval x)).toList = some cs) (w : World) : (execOp a.eval o).run Tryd.prog w = .ok (.value (.agg cs)) w := by
  unfold execOp
  simp only [ho, Sem.run_bind, run_build w ty _ cs h, Result.andThen_ok, Sem.run_pure]

set_option maxHeartbeats 4000000 in
theorem copyProof_any (y : Value) (hs : List (List Int)) (N : List Int) (w : World) (hp : Plc y) (hh : HsAt w y hs) (hn : hs.length ≤ 4096) (hN : N.length = 129) :
    Calls Tryd.prog 5 #[.agg (encR y N).toArray] w fun e w' => ∃ sa sc, e = .returned (.agg (encR (.slice sa hs.length sc) N).toArray) ∧ w'.ownsRow w.heap.size 26 32 (.slice sa hs.length sc) hs.length (flatH hs) ∧ Below w.heap.size w w' := by
  have HCp : Hid (∀ w', Below w.heap.size w w' → Calls Tryd.prog 20 #[y] w' fun e w'' => ∃ sa sc, e = .returned (.slice sa hs.length sc) ∧ w''.ownsRow w'.heap.size 26 32 (.slice sa hs.length sc) hs.length (flatH hs) ∧ Below w'.heap.size w' w'') := fun w' q => copyHashes_any y hs w' hp (hh.grow q) hn
  obtain ⟨ya, yc, rfl, _⟩ := hh
  obtain ⟨fs, hu⟩ := u_node
  have HU := hidden hu
  have HNL : Hid ((Tryd.prog.info? 28).map (·.size) = some (B N).toList.length) := by show _ = _; rw [B_toList, List.length_map, hN]; exact size_node
  obtain ⟨n, hnn⟩ : ∃ n, n = hs.length := ⟨_, rfl⟩
  rw [← hnn] at HCp ⊢
  have HBu : Hid (∀ sa sc, Tryd.prog.built 30 [(0, .slice sa n sc), (1, .agg (B N))] = some (encR (.slice sa n sc) N).toArray) := fun sa sc => built_proof sa n sc N hN
  have HSz : Hid (∀ sa sc, (Tryd.prog.info? 30).map (·.size) = some (encR (.slice sa n sc) N).toArray.size ∧ (encR (.slice none 0 0) (List.replicate 129 0)).toArray.size = (encR (.slice sa n sc) N).toArray.size) := fun sa sc => ⟨encR_sz _ N hN, by simp [encR, hN]⟩
  obtain ⟨fp, hup⟩ := u_proof
  have HUP := hidden hup
  clear hnn hn hp hu hN hup
  go_enter Tryd.func5, Tryd.ntmps5
  go_wp2_with (first
    | ((with_reducible refine at_bxd 1 ?_); refine wpList_bx _ rfl _ _ rfl _ rfl ?_; intro w1 g1 hg1 hl1 B1 b1)
    | ((with_reducible refine at_ald 2 ?_); refine wpList_al _ rfl _ rfl _ zero_proof ?_; intro w2 g2 hg2 hl2 D2 b2; have c2 := grow_trans b1 b2; have D1 := B1.grow b2))
  have d0 : Below w2.heap.size w2 w2.drew := (Below.refl _ _).drew
  have HS : Hid (∀ w', Below w2.heap.size w2 w' → w'.cell? ⟨g1, 0, none⟩ = some (.slice ya n yc) ∧ w'.rangeAt g1 1 (B N).toList) := fun w' q => ⟨proof_side (D1.grow q), by rw [B_toList]; exact proof_end (D1.grow q)⟩
  refine wp_region_last (S := fun w' => w'.cell? ⟨g1, 0, none⟩ = some (.slice ya n yc) ∧ w'.rangeAt g1 1 (B N).toList) 6 (by kernel_rfl) (HS.out _ d0) (fun hHeld => ?_)
  refine wpAnyL_take (i := 0) (v := .pointer (some ⟨g1, 0, none⟩)) rfl (by kernel_rfl) (by kernel_rfl) (by kernel_rfl) (by kernel_rfl) (by kernel_rfl) (fun _ _ _ h => h) (Or.inl ⟨by rfl, fun w hS => by go_simp⟩) hHeld ?_
  simp only [Act.put, List.getElem_toArray, List.getElem_cons_zero, List.setIfInBounds_toArray, List.set_cons_zero, List.set_cons_succ]
  refine wpAnyL_take (i := 1) (v := .slice ya n yc) rfl (by kernel_rfl) (by kernel_rfl) (by kernel_rfl) (by kernel_rfl) (by kernel_rfl) (fun _ _ _ h => h) (Or.inl ⟨by rfl, fun w hS => by (have s1 := hS.1; go_simp)⟩) hHeld ?_
  simp only [Act.put, List.getElem_toArray, List.getElem_cons_zero, List.getElem_cons_succ, List.setIfInBounds_toArray, List.set_cons_zero, List.set_cons_succ]
  refine wpAnyL_take (i := 3) (v := .pointer (some ⟨g1, 1, none⟩)) rfl (by kernel_rfl) (by kernel_rfl) (by kernel_rfl) (by kernel_rfl) (by kernel_rfl) (fun _ _ _ h => h) (Or.inl ⟨by rfl, fun w hS => by go_simp⟩) hHeld ?_
  simp only [Act.put, List.getElem_toArray, List.getElem_cons_zero, List.getElem_cons_succ, List.setIfInBounds_toArray, List.set_cons_zero, List.set_cons_succ]
  refine wpAnyL_take (i := 4) (v := .agg (B N)) rfl (by kernel_rfl) (by kernel_rfl) (by kernel_rfl) (by kernel_rfl) (by kernel_rfl) (fun _ _ _ h => h) (yieldsIf_load_mid rfl 28 (.tmp 6) rfl g1 (1) rfl (B N).toList _ (fun w hS => hS.2) HU.out rfl HNL.out) hHeld ?_
  simp only [Act.put, List.getElem_toArray, List.getElem_cons_zero, List.getElem_cons_succ, List.setIfInBounds_toArray, List.set_cons_zero, List.set_cons_succ]
  refine wpAnyL_one (i := 2) rfl (by kernel_rfl) (fun KQ hK => ?_)
  go_simp
  refine (HCp.out _ (grow_trans c2 (grow_trans (Below.refl _ _).drew (Below.refl _ _)))).mono ?_
  rintro e x1 ⟨sa, sc, rfl, ho, a1⟩
  have d1 := grow_trans d0 a1
  refine hK.out _ _ (HS.out _ d1) (fun hHeld => ?_)
  clear hK KQ
  refine wpAnyL_take (i := 5) (v := .agg (encR (.slice sa n sc) N).toArray) rfl (by kernel_rfl) (by kernel_rfl) (by kernel_rfl) (by kernel_rfl) (by kernel_rfl) (fun _ _ _ h => h) (Or.inl ⟨by rfl, fun w hS => exec_bld _ _ 30 _ (by rfl) _ (by rw [List.map_toArray]; exact HBu.out sa sc) w⟩) hHeld ?_
  simp only [Act.put, List.getElem_toArray, List.getElem_cons_zero, List.getElem_cons_succ, List.setIfInBounds_toArray, List.set_cons_zero, List.set_cons_succ]
  refine wpAnyL_last rfl (by kernel_rfl) (by kernel_rfl) (fun KQ hK => ?_)
  refine step_sto _ rfl _ _ _ rfl g2 _ (encR (.slice sa n sc) N).toArray rfl rfl (D2.grow d1) (HSz.out sa sc).1 (HSz.out sa sc).2 (encR_one _ _ _ _) ?_
  intro x3 B3 r3
  refine hK.out _ _ ?_
  clear hK KQ
  have c3 : Below w.heap.size w x3 := below_row (grow_trans c2 d1) r3 (Nat.le_trans b1.size hg2)
  have hne : (Value.slice sa n sc).ownBlock ≠ some g2 := fun e => by
    have h1 := (ho.lt g2 e).1
    have h2 : w2.heap.size ≤ g2 := h1
    omega
  have ho3 := ho.kept r3 (.inr hne)
  have hle : w.heap.size ≤ w2.drew.heap.size := c2.size
  go_wp2_with fail
  refine bodyPost_ret (v := .agg (encR (.slice sa n sc) N).toArray) (results_cell_row rfl _ _ g2 _ _ _ _ rfl B3 HUP.out rfl (HSz.out sa sc).1) rfl ⟨sa, sc, rfl, ?_, c3⟩
  refine ⟨ho3.1, ho3.2.imp id ?_⟩
  rintro ⟨g, cap, cur, e1, e2, e3⟩
  exact ⟨g, cap, cur, e1, Nat.le_trans hle e2, e3⟩

end Go.Proofs.YtaihiffdjgadeaaDoor

/- The document's Bit, Set, Common, Compare (rootcellarref04), as contracts. -/
namespace Go.Proofs.YtaihiffdjgadeaaDoor
set_option maxRecDepth 20000
open Go.RowKit

theorem half_step (x : Int) (k : Nat) : x / 2 ^ k / 2 = x / 2 ^ (k + 1) := by
  rw [Int.pow_succ, Int.ediv_ediv_of_nonneg (Int.pow_nonneg (by omega))]

end Go.Proofs.YtaihiffdjgadeaaDoor

/- The document's side of entries, as a contract; entries appended one by one. -/
namespace Go.Proofs.YtaihiffdjgadeaaDoor
set_option maxRecDepth 20000
open Go.RowKit

theorem side_step (es : List Ent) (k d : Nat) (b : Int) (hk : k < es.length) : sideOf (es.take (k + 1)) d b = sideOf (es.take k) d b ++ (if (kbi (es.getD k e00).1 d == b) = true then [es.getD k e00] else []) := by
  unfold sideOf
  rw [List.take_add_one, List.filter_append]
  congr 1
  simp [List.getD, hk, List.filter_cons]

def SidePost (es : List Ent) (d : Nat) (b : Int) (w : World) (e : Ending) (w' : World) : Prop := ∃ v V, e = .returned v ∧ PrAt w' v V (sideOf es d b) ∧ Below w.heap.size w w'

end Go.Proofs.YtaihiffdjgadeaaDoor
