/- Cells of a block that is known whole are there. -/
import Derived.Test.YtpihigcnoifcfaaGreatDoorVw03
import Derived.Test.YtpihigcnoifcfaaGreatDoorVw05
import Derived.Test.YtpihigcnoifcfaaGreatDoorVw11
import Derived.Laws.Cover3
namespace Go.Proofs.YtpihigcnoifcfaaGreatDoor
set_option maxRecDepth 20000
open Go.RowKit

theorem Blk.there {w : World} {g : Nat} {t : TypeId} {cs : Array Value} (h : Blk w g t cs) (o n : Nat) (hn : o + n ≤ cs.size) : w.there g o n := fun j hj => ⟨by rw [h.cell, Array.getElem?_eq_getElem (by omega)]; rfl, h.frozen _⟩

end Go.Proofs.YtpihigcnoifcfaaGreatDoor

/- Cells written over in new memory; a struct stored in the midst of a block; a literal in a region that draws its order. -/
namespace Go.Proofs.YtpihigcnoifcfaaGreatDoor
set_option maxRecDepth 20000
open Go.RowKit

theorem there_grow {w w' : World} {g o n : Nat} (h : w.there g o n) (hb : Below w.heap.size w w') : w'.there g o n := fun j hj => by
  obtain ⟨h1, h2⟩ := h j hj
  obtain ⟨v, hv⟩ := Option.isSome_iff_exists.1 h1
  have hl : g < w.heap.size := block_lt_of_cell (a := ⟨g, o + j, none⟩) hv
  exact ⟨by rw [(hb.cell (p := ⟨g, o + j, none⟩) hl)]; exact h1, by rw [World.frozen?_of_block (hb.block g hl)]; exact h2⟩

theorem setCells_below {w0 : World} {g : Nat} (hg : w0.heap.size ≤ g) : ∀ (vs : List Value) (o : Nat) (w : World), Below w0.heap.size w0 w → Below w0.heap.size w0 (w.setCells g o vs)
  | [], _, _, h => h
  | v :: r, o, _, h => setCells_below hg r (o + 1) _ (setCell_below o v h hg)

/-- store of a leaf into a row of nodes, in a region that draws its order. -/
theorem step_stL {ops : Array Oper} {o : Oper} {a : Act} {K : Act → World → Prop} {Q : Exit → Act → World → Prop} {E : Prop} (w : World) (hgd : o.guard = none) (x y : Operand) (ty : TypeId) (ho : o.op = .store ty x y)
    (g f : Nat) (cs : Array Value) (hx : a.eval x = .pointer (some ⟨g, f, none⟩)) (hy : a.eval y = .agg cs) (h : w.there g f cs.size) (hi : (Tryz.prog.info? ty).map (·.size) = some cs.size) (h1 : cs.all (·.oneCell') = true)
    (hk : K (a.put o.dst undef) (w.setCells g f cs.toList)) : if Region.wanted o (yielded ops a.tmps) = true then Oper.wp Tryz.prog o a w K Q else E := by
  have hw : Region.wanted o (yielded ops a.tmps) = true := by simp [Region.wanted, hgd]
  rw [if_pos hw]
  exact wp_store_mid ty x y ho g f cs hx hy h hi h1 hk

theorem exec_bd (o : Oper) (a : Act) (ty : TypeId) (parts : Array (Nat × Operand)) (ho : o.op = .build ty parts) (cs : Array Value) (h : Tryz.prog.built ty (parts.map fun (i, x) => (i, a.eval x)).toList = some cs) (w : World) : (execOp a.eval o).run Tryz.prog w = .ok (.value (.agg cs)) w := by
  unfold execOp
  simp only [ho, Sem.run_bind, run_build w ty _ cs h, Result.andThen_ok, Sem.run_pure]

theorem built_path : Tryz.prog.built 24 [] = some (B z32) := by kernel_rfl

end Go.Proofs.YtpihigcnoifcfaaGreatDoor

/- node.is, node.Decode, as contracts. -/
namespace Go.Proofs.YtpihigcnoifcfaaGreatDoor
set_option maxRecDepth 20000
open Go.RowKit

/-- What Decode reads: the node, and whether the bytes are a node's. -/
def dcA (zs : List Int) : List Int := (zs.drop 1).take 32
def dcB (zs : List Int) : List Int := zs.drop 33
def dcN (zs : List Int) : List Int := if zs.length = 65 ∧ zs.getD 0 0 = 1 then nd 1 (dcA zs) (dcB zs) z32 z32 else if zs.length = 65 ∧ zs.getD 0 0 = 2 then nd 2 z32 z32 (dcA zs) (dcB zs) else nd 0 z32 z32 z32 z32
def dcE (zs : List Int) : Int := if zs.length = 65 ∧ zs.getD 0 0 = 1 then 0 else if zs.length = 65 ∧ zs.getD 0 0 = 2 then 0 else if zs.length = 1 ∧ zs.getD 0 0 = 0 then 0 else 10

def DecPost (zs : List Int) (w : World) (e : Ending) (w' : World) : Prop := e = .returned (.tuple #[.agg (B (dcN zs)), .int .i64 (dcE zs)]) ∧ Below w.heap.size w w'

set_option maxHeartbeats 1000000 in
theorem is_any (v : Value) (zs : List Int) (k : Int) (n : Nat) (r : Bool) (w : World) (h : Reads w v zs) (hn : 0 < n) (hm : n < 1000) (hr : r = true ↔ zs.length = n ∧ zs.getD 0 0 = k) : Calls Tryz.prog 66 #[v, .int .u8 k, .int .i64 n] w fun e w' => e = .returned (.bool r) ∧ w' = w := by
  obtain ⟨a, c, rfl, h1, _, _, h4⟩ := h
  by_cases hl : zs.length = n
  · obtain ⟨b, off, rfl, hc⟩ := h4 (by omega)
    have hc0 := hc 0 (by omega)
    obtain ⟨z, hz⟩ : ∃ z, z = zs.getD 0 0 := ⟨_, rfl⟩
    rw [← hz] at hc0 hr
    have hr' : r = (z == k) := by
      rw [Bool.eq_iff_iff, hr]
      simp [hl]
    subst hr'
    rw [hl]
    have hn0 : (0 : Int) < (n : Int) := by omega
    clear hr hc h4 hz hl h1
    rw [Nat.add_zero] at hc0
    go_enter Tryz.func66, Tryz.ntmps66
    go_wp2_with fail
    go_ret
    exact ⟨rfl, rfl⟩
  · have hr' : r = false := by
      cases r
      · rfl
      · exact absurd (hr.1 rfl).1 hl
    subst hr'
    have hne : ((zs.length : Int) == (n : Int)) = false := by simp; omega
    clear hr hl h4 h1
    go_enter Tryz.func66, Tryz.ntmps66
    go_wp2_with fail
    go_ret
    exact ⟨rfl, rfl⟩

/-- A composite literal, in a region that draws its order. -/
def isB (zs : List Int) (k n : Int) : Bool := decide ((zs.length : Int) = n ∧ zs.getD 0 0 = k)

theorem is_at (v : Value) (zs : List Int) (k n : Int) (w : World) (h : Reads w v zs) (hn : 0 < n) (hm : n < 1000) : Calls Tryz.prog 66 #[v, .int .u8 k, .int .i64 n] w fun e w' => e = .returned (.bool (isB zs k n)) ∧ w' = w := by
  obtain ⟨m, rfl⟩ : ∃ m : Nat, n = (m : Int) := ⟨n.toNat, by omega⟩
  exact is_any v zs k m _ w h (by omega) (by omega) (by simp only [isB, decide_eq_true_iff, Int.ofNat_inj])

theorem range_seg {w : World} {b off : Nat} {zs : List Int} (hc : ∀ i, i < zs.length → w.cell? ⟨b, off + i, none⟩ = some (.int .u8 (zs.getD i 0))) (o : Nat) (xs : List Int) (hs : Seg zs o xs) : w.rangeAt b (off + o) (B xs).toList := by
  intro j v hv
  rw [B_toList] at hv
  have hj : j < xs.length := by have := (List.getElem?_eq_some_iff.1 hv).1; simpa using this
  have h1 := hs j xs[j] (by simp)
  obtain ⟨h2, h3⟩ := List.getElem?_eq_some_iff.1 h1
  rw [Nat.add_assoc, hc (o + j) h2]
  simp only [List.getElem?_map, List.getElem?_eq_getElem hj, Option.map_some, Option.some.injEq] at hv
  rw [← hv]
  simp [List.getD, h2, h3]

theorem dc_segA (zs : List Int) : Seg zs 1 (dcA zs) := fun j v hj => by
  unfold dcA at hj
  rw [List.getElem?_take] at hj
  split at hj
  · rwa [List.getElem?_drop] at hj
  · cases hj
theorem dc_segB (zs : List Int) : Seg zs 33 (dcB zs) := fun j v hj => by
  unfold dcB at hj
  rwa [List.getElem?_drop] at hj
theorem dcA_length (zs : List Int) (h : zs.length = 65) : (dcA zs).length = 32 := by simp [dcA, h]
theorem dcB_length (zs : List Int) (h : zs.length = 65) : (dcB zs).length = 32 := by simp [dcB, h]
theorem dcA_bytes (zs : List Int) (h : Bytes zs) : Bytes (dcA zs) := fun z hz => h z (List.mem_of_mem_drop (List.mem_of_mem_take hz))
theorem dcB_bytes (zs : List Int) (h : Bytes zs) : Bytes (dcB zs) := fun z hz => h z (List.mem_of_mem_drop hz)
theorem dc_nd (zs : List Int) (h : Bytes zs) : ∃ k a b c d, dcN zs = nd k a b c d ∧ Nd k a b c d := by
  unfold dcN
  split
  · rename_i q
    exact ⟨_, _, _, _, _, rfl, by omega, by omega, dcA_length zs q.1, dcB_length zs q.1, rfl, rfl, dcA_bytes zs h, dcB_bytes zs h, z32_bytes, z32_bytes⟩
  · split
    · rename_i q
      exact ⟨_, _, _, _, _, rfl, by omega, by omega, rfl, rfl, dcA_length zs q.1, dcB_length zs q.1, z32_bytes, z32_bytes, dcA_bytes zs h, dcB_bytes zs h⟩
    · exact ⟨_, _, _, _, _, rfl, z_nd⟩

set_option maxHeartbeats 2000000 in
theorem decode_leaf (v : Value) (zs : List Int) (w : World) (h : Reads w v zs) (hl : zs.length = 65) (h0 : zs.getD 0 0 = 1) : Calls Tryz.prog 43 #[v] w (DecPost zs w) := by
  obtain ⟨fs, hu⟩ := u_node
  have HU := hidden hu
  have HI : Hid (∀ w', Below w.heap.size w w' → ∀ k n, 0 < n → n < 1000 → Calls Tryz.prog 66 #[v, .int .u8 k, .int .i64 n] w' fun e w'' => e = .returned (.bool (isB zs k n)) ∧ w'' = w') := fun w' hb k n q1 q2 => is_at v zs k n w' (h.grow hb) q1 q2
  have r0 : isB zs 0 1 = false := by simp [isB, hl]
  have r1 : isB zs 1 65 = true := by simp only [isB, hl, h0]; decide
  have r2 : isB zs 2 65 = false := by simp only [isB, hl, h0]; decide
  obtain ⟨a, c, rfl, h1, _, hby, h4⟩ := h
  obtain ⟨b, off, rfl, hc⟩ := h4 (by omega)
  obtain ⟨A, hAd⟩ : ∃ A, A = dcA zs := ⟨_, rfl⟩
  obtain ⟨V, hVd⟩ : ∃ V, V = dcB zs := ⟨_, rfl⟩
  have hA : A.length = 32 := by rw [hAd]; exact dcA_length zs hl
  have hV : V.length = 32 := by rw [hVd]; exact dcB_length zs hl
  have HRA : Hid (∀ w', Below w.heap.size w w' → w'.rangeAt b (off + 1) (B A).toList ∧ w'.rangeAt b (off + 33) (B V).toList) := fun w' hw' => by
    have hc' : ∀ i, i < zs.length → w'.cell? ⟨b, off + i, none⟩ = some (.int .u8 (zs.getD i 0)) := fun i hi => (hw'.cell (p := ⟨b, off + i, none⟩) (block_lt_of_cell (hc i hi))).trans (hc i hi)
    exact ⟨range_seg hc' 1 A (by rw [hAd]; exact dc_segA zs), range_seg hc' 33 V (by rw [hVd]; exact dc_segB zs)⟩
  have HLA : Hid ((Tryz.prog.info? 24).map (·.size) = some (B A).toList.length) := by show _ = _; rw [B_toList, List.length_map, hA]; exact sz_path
  have HLV : Hid ((Tryz.prog.info? 25).map (·.size) = some (B V).toList.length) := by show _ = _; rw [B_toList, List.length_map, hV]; exact sz_hash
  have HB : Hid (Tryz.prog.built 33 [(0, .int .u8 1), (1, .agg (B A)), (2, .agg (B V))] = some (B (nd 1 A V z32 z32))) := built_leaf A V hA hV
  have HN : Hid (Nd 1 A V z32 z32) := by
    have q1 : Bytes A := by rw [hAd]; exact dcA_bytes zs hby
    have q2 : Bytes V := by rw [hVd]; exact dcB_bytes zs hby
    exact ⟨by omega, by omega, hA, hV, rfl, rfl, q1, q2, z32_bytes, z32_bytes⟩
  have HX : Hid (∀ w', Below w.heap.size w w' → DecPost zs w (.returned (.tuple #[.agg (B (nd 1 A V z32 z32)), .int .i64 0])) w') := fun w' hb => ⟨by
    have e1 : dcN zs = nd 1 A V z32 z32 := by rw [dcN, if_pos ⟨hl, h0⟩, hAd, hVd]
    have e2 : dcE zs = 0 := by rw [dcE, if_pos ⟨hl, h0⟩]
    rw [e1, e2], hb⟩
  obtain ⟨R, hR⟩ : ∃ R, R = nd 1 A V z32 z32 := ⟨_, rfl⟩
  have HRS : Hid ((B R).size = 129) := by show _ = _; rw [hR]; exact HN.out.size
  rw [← hR] at HB HX
  have hat1 : ∀ w c, (Instr.arrayAt 24 (.slice (some ⟨b, off + 1, none⟩) 32 c)).run Tryz.prog w = .ok (.pointer (some ⟨b, off + 1, none⟩)) w := fun w c => run_arrayAt w 24 _ 32 _ 32 c Tryz.underlying24 (by omega)
  have hat2 : ∀ w c, (Instr.arrayAt 25 (.slice (some ⟨b, off + 33, none⟩) 32 c)).run Tryz.prog w = .ok (.pointer (some ⟨b, off + 33, none⟩)) w := fun w c => run_arrayAt w 25 _ 32 _ 32 c Tryz.underlying25 (by omega)
  rw [hl] at h1 HI ⊢
  have hc1 : (33 : Int) ≤ (c : Int) := by omega
  clear h4 hc hAd hVd hA hV hu hR h0 hby
  go_enter Tryz.func43, Tryz.ntmps43
  go_wp2_with (first
    | ((with_reducible refine at_al ?_); refine wpList_al _ rfl _ rfl _ zero_node ?_; intro w1 g1 hg1 hl1 B1 b1)
    | (go_at_call 66; refine (HI.out _ b1 _ _ (by decide) (by decide)).mono ?_; rintro e w2 ⟨rfl, rfl⟩))
  refine wp_region_held_drew (S := fun w' => w'.rangeAt b (off + 1) (B A).toList ∧ w'.rangeAt b (off + 33) (B V).toList) (by kernel_rfl) (HRA.out _ (grow_trans b1 (Below.refl _ _).drew)) (fun hHeld => ?_)
  refine wpAnyH_take (i := 0) (v := .slice (some ⟨b, off, none⟩) 65 c) rfl (by kernel_rfl) (by kernel_rfl) (by kernel_rfl) (fun _ _ _ h => h) (Or.inl ⟨by rfl, fun w hS => by go_simp⟩) hHeld ?_
  simp only [Act.put, List.getElem_toArray, List.getElem_cons_zero, List.setIfInBounds_toArray, List.set_cons_zero, List.set_cons_succ]
  refine wpAnyH_take (i := 1) (v := .slice (some ⟨b, off + 1, none⟩) 32 (c - 1)) rfl (by kernel_rfl) (by kernel_rfl) (by kernel_rfl) (fun _ _ _ h => h) (Or.inl ⟨by rfl, fun w hS => by (go_simp; omega)⟩) hHeld ?_
  simp only [Act.put, List.getElem_toArray, List.getElem_cons_zero, List.getElem_cons_succ, List.setIfInBounds_toArray, List.set_cons_zero, List.set_cons_succ]
  refine wpAnyH_take (i := 2) (v := .pointer (some ⟨b, off + 1, none⟩)) rfl (by kernel_rfl) (by kernel_rfl) (by kernel_rfl) (fun _ _ _ h => h) (Or.inl ⟨by rfl, fun w hS => by (go_simp; skip)⟩) hHeld ?_
  simp only [Act.put, List.getElem_toArray, List.getElem_cons_zero, List.getElem_cons_succ, List.setIfInBounds_toArray, List.set_cons_zero, List.set_cons_succ]
  refine wpAnyH_take (i := 3) (v := .agg (B A)) rfl (by kernel_rfl) (by kernel_rfl) (by kernel_rfl) (fun _ _ _ h => h) (yieldsIf_load_mid rfl 24 (.tmp 13) rfl b (off + 1) rfl (B A).toList _ (fun w hS => hS.1) Tryz.underlying24 rfl HLA.out) hHeld ?_
  simp only [Act.put, List.getElem_toArray, List.getElem_cons_zero, List.getElem_cons_succ, List.setIfInBounds_toArray, List.set_cons_zero, List.set_cons_succ]
  refine wpAnyH_take (i := 4) (v := .slice (some ⟨b, off, none⟩) 65 c) rfl (by kernel_rfl) (by kernel_rfl) (by kernel_rfl) (fun _ _ _ h => h) (Or.inl ⟨by rfl, fun w hS => by go_simp⟩) hHeld ?_
  simp only [Act.put, List.getElem_toArray, List.getElem_cons_zero, List.getElem_cons_succ, List.setIfInBounds_toArray, List.set_cons_zero, List.set_cons_succ]
  refine wpAnyH_take (i := 5) (v := .slice (some ⟨b, off + 33, none⟩) 32 (c - 33)) rfl (by kernel_rfl) (by kernel_rfl) (by kernel_rfl) (fun _ _ _ h => h) (Or.inl ⟨by rfl, fun w hS => by (go_simp; omega)⟩) hHeld ?_
  simp only [Act.put, List.getElem_toArray, List.getElem_cons_zero, List.getElem_cons_succ, List.setIfInBounds_toArray, List.set_cons_zero, List.set_cons_succ]
  refine wpAnyH_take (i := 6) (v := .pointer (some ⟨b, off + 33, none⟩)) rfl (by kernel_rfl) (by kernel_rfl) (by kernel_rfl) (fun _ _ _ h => h) (Or.inl ⟨by rfl, fun w hS => by (go_simp; skip)⟩) hHeld ?_
  simp only [Act.put, List.getElem_toArray, List.getElem_cons_zero, List.getElem_cons_succ, List.setIfInBounds_toArray, List.set_cons_zero, List.set_cons_succ]
  refine wpAnyH_take (i := 7) (v := .agg (B V)) rfl (by kernel_rfl) (by kernel_rfl) (by kernel_rfl) (fun _ _ _ h => h) (yieldsIf_load_mid rfl 25 (.tmp 17) rfl b (off + 33) rfl (B V).toList _ (fun w hS => hS.2) Tryz.underlying25 rfl HLV.out) hHeld ?_
  simp only [Act.put, List.getElem_toArray, List.getElem_cons_zero, List.getElem_cons_succ, List.setIfInBounds_toArray, List.set_cons_zero, List.set_cons_succ]
  refine wpAnyH_take (i := 8) (v := .agg (B R)) rfl (by kernel_rfl) (by kernel_rfl) (by kernel_rfl) (fun _ _ _ h => h) (Or.inl ⟨by rfl, fun w hS => exec_bd _ _ 33 _ (by rfl) (B R) (by rw [List.map_toArray]; exact HB.out) w⟩) hHeld ?_
  simp only [Act.put, List.getElem_toArray, List.getElem_cons_zero, List.getElem_cons_succ, List.setIfInBounds_toArray, List.set_cons_zero, List.set_cons_succ]
  refine wpAnyH_ready (rs := [9]) (by kernel_rfl) (by simp) ?_
  refine AllReadyH.cons rfl (fun KQ hK => ?_) AllReadyH.nil
  refine step_sto _ rfl _ _ _ rfl g1 _ (B R) rfl rfl B1.drew (by rw [HRS.out]; exact size_node) (by rw [HRS.out]; rfl) (B_one _) ?_
  intro w4 B4 g4
  have c4 := below_row (grow_trans b1 (Below.refl _ _).drew) g4 hg1
  refine hK.out _ _ (HRA.out _ c4) (fun hHeld => ?_)
  clear hK KQ
  refine wpAnyH_take (i := 10) (v := .int .i64 0) rfl (by kernel_rfl) (by kernel_rfl) (by kernel_rfl) (fun _ _ _ h => h) (Or.inl ⟨by rfl, fun w hS => by go_simp⟩) hHeld ?_
  simp only [Act.put, List.getElem_toArray, List.getElem_cons_zero, List.getElem_cons_succ, List.setIfInBounds_toArray, List.set_cons_zero, List.set_cons_succ]
  refine wpAnyH_done (by kernel_rfl) ?_ _
  go_wp2_with fail
  exact bodyPost_ret (v := .tuple #[.agg (B R), .int .i64 0]) (results_agg_tmp rfl _ _ g1 _ _ rfl rfl B4 HU.out (by rw [HRS.out]; exact size_node)) rfl (HX.out _ c4)

set_option maxHeartbeats 2000000 in
theorem decode_inner (v : Value) (zs : List Int) (w : World) (h : Reads w v zs) (hl : zs.length = 65) (h0 : zs.getD 0 0 = 2) : Calls Tryz.prog 43 #[v] w (DecPost zs w) := by
  obtain ⟨fs, hu⟩ := u_node
  have HU := hidden hu
  have HI : Hid (∀ w', Below w.heap.size w w' → ∀ k n, 0 < n → n < 1000 → Calls Tryz.prog 66 #[v, .int .u8 k, .int .i64 n] w' fun e w'' => e = .returned (.bool (isB zs k n)) ∧ w'' = w') := fun w' hb k n q1 q2 => is_at v zs k n w' (h.grow hb) q1 q2
  have r0 : isB zs 0 1 = false := by simp [isB, hl]
  have r1 : isB zs 1 65 = false := by simp only [isB, hl, h0]; decide
  have r2 : isB zs 2 65 = true := by simp only [isB, hl, h0]; decide
  obtain ⟨a, c, rfl, h1, _, hby, h4⟩ := h
  obtain ⟨b, off, rfl, hc⟩ := h4 (by omega)
  obtain ⟨A, hAd⟩ : ∃ A, A = dcA zs := ⟨_, rfl⟩
  obtain ⟨V, hVd⟩ : ∃ V, V = dcB zs := ⟨_, rfl⟩
  have hA : A.length = 32 := by rw [hAd]; exact dcA_length zs hl
  have hV : V.length = 32 := by rw [hVd]; exact dcB_length zs hl
  have HRA : Hid (∀ w', Below w.heap.size w w' → w'.rangeAt b (off + 1) (B A).toList ∧ w'.rangeAt b (off + 33) (B V).toList) := fun w' hw' => by
    have hc' : ∀ i, i < zs.length → w'.cell? ⟨b, off + i, none⟩ = some (.int .u8 (zs.getD i 0)) := fun i hi => (hw'.cell (p := ⟨b, off + i, none⟩) (block_lt_of_cell (hc i hi))).trans (hc i hi)
    exact ⟨range_seg hc' 1 A (by rw [hAd]; exact dc_segA zs), range_seg hc' 33 V (by rw [hVd]; exact dc_segB zs)⟩
  have HLA : Hid ((Tryz.prog.info? 25).map (·.size) = some (B A).toList.length) := by show _ = _; rw [B_toList, List.length_map, hA]; exact sz_hash
  have HLV : Hid ((Tryz.prog.info? 25).map (·.size) = some (B V).toList.length) := by show _ = _; rw [B_toList, List.length_map, hV]; exact sz_hash
  have HB : Hid (Tryz.prog.built 33 [(0, .int .u8 2), (3, .agg (B A)), (4, .agg (B V))] = some (B (nd 2 z32 z32 A V))) := built_inner A V hA hV
  have HN : Hid (Nd 2 z32 z32 A V) := by
    have q1 : Bytes A := by rw [hAd]; exact dcA_bytes zs hby
    have q2 : Bytes V := by rw [hVd]; exact dcB_bytes zs hby
    exact ⟨by omega, by omega, rfl, rfl, hA, hV, z32_bytes, z32_bytes, q1, q2⟩
  have HX : Hid (∀ w', Below w.heap.size w w' → DecPost zs w (.returned (.tuple #[.agg (B (nd 2 z32 z32 A V)), .int .i64 0])) w') := fun w' hb => ⟨by
    have e1 : dcN zs = nd 2 z32 z32 A V := by rw [dcN, if_neg (by omega), if_pos ⟨hl, h0⟩, hAd, hVd]
    have e2 : dcE zs = 0 := by rw [dcE, if_neg (by omega), if_pos ⟨hl, h0⟩]
    rw [e1, e2], hb⟩
  obtain ⟨R, hR⟩ : ∃ R, R = nd 2 z32 z32 A V := ⟨_, rfl⟩
  have HRS : Hid ((B R).size = 129) := by show _ = _; rw [hR]; exact HN.out.size
  rw [← hR] at HB HX
  have hat1 : ∀ w c, (Instr.arrayAt 25 (.slice (some ⟨b, off + 1, none⟩) 32 c)).run Tryz.prog w = .ok (.pointer (some ⟨b, off + 1, none⟩)) w := fun w c => run_arrayAt w 25 _ 32 _ 32 c Tryz.underlying25 (by omega)
  have hat2 : ∀ w c, (Instr.arrayAt 25 (.slice (some ⟨b, off + 33, none⟩) 32 c)).run Tryz.prog w = .ok (.pointer (some ⟨b, off + 33, none⟩)) w := fun w c => run_arrayAt w 25 _ 32 _ 32 c Tryz.underlying25 (by omega)
  rw [hl] at h1 HI ⊢
  have hc1 : (33 : Int) ≤ (c : Int) := by omega
  clear h4 hc hAd hVd hA hV hu hR h0 hby
  go_enter Tryz.func43, Tryz.ntmps43
  go_wp2_with (first
    | ((with_reducible refine at_al ?_); refine wpList_al _ rfl _ rfl _ zero_node ?_; intro w1 g1 hg1 hl1 B1 b1)
    | (go_at_call 66; refine (HI.out _ b1 _ _ (by decide) (by decide)).mono ?_; rintro e w2 ⟨rfl, rfl⟩))
  refine wp_region_held_drew (S := fun w' => w'.rangeAt b (off + 1) (B A).toList ∧ w'.rangeAt b (off + 33) (B V).toList) (by kernel_rfl) (HRA.out _ (grow_trans b1 (Below.refl _ _).drew)) (fun hHeld => ?_)
  refine wpAnyH_take (i := 0) (v := .slice (some ⟨b, off, none⟩) 65 c) rfl (by kernel_rfl) (by kernel_rfl) (by kernel_rfl) (fun _ _ _ h => h) (Or.inl ⟨by rfl, fun w hS => by go_simp⟩) hHeld ?_
  simp only [Act.put, List.getElem_toArray, List.getElem_cons_zero, List.setIfInBounds_toArray, List.set_cons_zero, List.set_cons_succ]
  refine wpAnyH_take (i := 1) (v := .slice (some ⟨b, off + 1, none⟩) 32 (c - 1)) rfl (by kernel_rfl) (by kernel_rfl) (by kernel_rfl) (fun _ _ _ h => h) (Or.inl ⟨by rfl, fun w hS => by (go_simp; omega)⟩) hHeld ?_
  simp only [Act.put, List.getElem_toArray, List.getElem_cons_zero, List.getElem_cons_succ, List.setIfInBounds_toArray, List.set_cons_zero, List.set_cons_succ]
  refine wpAnyH_take (i := 2) (v := .pointer (some ⟨b, off + 1, none⟩)) rfl (by kernel_rfl) (by kernel_rfl) (by kernel_rfl) (fun _ _ _ h => h) (Or.inl ⟨by rfl, fun w hS => by (go_simp; skip)⟩) hHeld ?_
  simp only [Act.put, List.getElem_toArray, List.getElem_cons_zero, List.getElem_cons_succ, List.setIfInBounds_toArray, List.set_cons_zero, List.set_cons_succ]
  refine wpAnyH_take (i := 3) (v := .agg (B A)) rfl (by kernel_rfl) (by kernel_rfl) (by kernel_rfl) (fun _ _ _ h => h) (yieldsIf_load_mid rfl 25 (.tmp 25) rfl b (off + 1) rfl (B A).toList _ (fun w hS => hS.1) Tryz.underlying25 rfl HLA.out) hHeld ?_
  simp only [Act.put, List.getElem_toArray, List.getElem_cons_zero, List.getElem_cons_succ, List.setIfInBounds_toArray, List.set_cons_zero, List.set_cons_succ]
  refine wpAnyH_take (i := 4) (v := .slice (some ⟨b, off, none⟩) 65 c) rfl (by kernel_rfl) (by kernel_rfl) (by kernel_rfl) (fun _ _ _ h => h) (Or.inl ⟨by rfl, fun w hS => by go_simp⟩) hHeld ?_
  simp only [Act.put, List.getElem_toArray, List.getElem_cons_zero, List.getElem_cons_succ, List.setIfInBounds_toArray, List.set_cons_zero, List.set_cons_succ]
  refine wpAnyH_take (i := 5) (v := .slice (some ⟨b, off + 33, none⟩) 32 (c - 33)) rfl (by kernel_rfl) (by kernel_rfl) (by kernel_rfl) (fun _ _ _ h => h) (Or.inl ⟨by rfl, fun w hS => by (go_simp; omega)⟩) hHeld ?_
  simp only [Act.put, List.getElem_toArray, List.getElem_cons_zero, List.getElem_cons_succ, List.setIfInBounds_toArray, List.set_cons_zero, List.set_cons_succ]
  refine wpAnyH_take (i := 6) (v := .pointer (some ⟨b, off + 33, none⟩)) rfl (by kernel_rfl) (by kernel_rfl) (by kernel_rfl) (fun _ _ _ h => h) (Or.inl ⟨by rfl, fun w hS => by (go_simp; skip)⟩) hHeld ?_
  simp only [Act.put, List.getElem_toArray, List.getElem_cons_zero, List.getElem_cons_succ, List.setIfInBounds_toArray, List.set_cons_zero, List.set_cons_succ]
  refine wpAnyH_take (i := 7) (v := .agg (B V)) rfl (by kernel_rfl) (by kernel_rfl) (by kernel_rfl) (fun _ _ _ h => h) (yieldsIf_load_mid rfl 25 (.tmp 29) rfl b (off + 33) rfl (B V).toList _ (fun w hS => hS.2) Tryz.underlying25 rfl HLV.out) hHeld ?_
  simp only [Act.put, List.getElem_toArray, List.getElem_cons_zero, List.getElem_cons_succ, List.setIfInBounds_toArray, List.set_cons_zero, List.set_cons_succ]
  refine wpAnyH_take (i := 8) (v := .agg (B R)) rfl (by kernel_rfl) (by kernel_rfl) (by kernel_rfl) (fun _ _ _ h => h) (Or.inl ⟨by rfl, fun w hS => exec_bd _ _ 33 _ (by rfl) (B R) (by rw [List.map_toArray]; exact HB.out) w⟩) hHeld ?_
  simp only [Act.put, List.getElem_toArray, List.getElem_cons_zero, List.getElem_cons_succ, List.setIfInBounds_toArray, List.set_cons_zero, List.set_cons_succ]
  refine wpAnyH_ready (rs := [9]) (by kernel_rfl) (by simp) ?_
  refine AllReadyH.cons rfl (fun KQ hK => ?_) AllReadyH.nil
  refine step_sto _ rfl _ _ _ rfl g1 _ (B R) rfl rfl B1.drew (by rw [HRS.out]; exact size_node) (by rw [HRS.out]; rfl) (B_one _) ?_
  intro w4 B4 g4
  have c4 := below_row (grow_trans b1 (Below.refl _ _).drew) g4 hg1
  refine hK.out _ _ (HRA.out _ c4) (fun hHeld => ?_)
  clear hK KQ
  refine wpAnyH_take (i := 10) (v := .int .i64 0) rfl (by kernel_rfl) (by kernel_rfl) (by kernel_rfl) (fun _ _ _ h => h) (Or.inl ⟨by rfl, fun w hS => by go_simp⟩) hHeld ?_
  simp only [Act.put, List.getElem_toArray, List.getElem_cons_zero, List.getElem_cons_succ, List.setIfInBounds_toArray, List.set_cons_zero, List.set_cons_succ]
  refine wpAnyH_done (by kernel_rfl) ?_ _
  go_wp2_with fail
  exact bodyPost_ret (v := .tuple #[.agg (B R), .int .i64 0]) (results_agg_tmp rfl _ _ g1 _ _ rfl rfl B4 HU.out (by rw [HRS.out]; exact size_node)) rfl (HX.out _ c4)

set_option maxHeartbeats 2000000 in
theorem decode_rest (v : Value) (zs : List Int) (r : Bool) (w : World) (h : Reads w v zs) (h0 : ¬ (zs.length = 65 ∧ zs.getD 0 0 = 1)) (h2 : ¬ (zs.length = 65 ∧ zs.getD 0 0 = 2)) (hr : r = decide (zs.length = 1 ∧ zs.getD 0 0 = 0)) : Calls Tryz.prog 43 #[v] w (DecPost zs w) := by
  obtain ⟨fs, hu⟩ := u_node
  have HU := hidden hu
  have HI : Hid (∀ w', Below w.heap.size w w' → ∀ k n, 0 < n → n < 1000 → Calls Tryz.prog 66 #[v, .int .u8 k, .int .i64 n] w' fun e w'' => e = .returned (.bool (isB zs k n)) ∧ w'' = w') := fun w' hb k n q1 q2 => is_at v zs k n w' (h.grow hb) q1 q2
  have r0 : isB zs 0 1 = r := by rw [hr]; unfold isB; congr 1; rw [eq_iff_iff]; omega
  have r1 : isB zs 1 65 = false := by unfold isB; rw [decide_eq_false_iff_not]; omega
  have r2 : isB zs 2 65 = false := by unfold isB; rw [decide_eq_false_iff_not]; omega
  have HX : Hid (∀ w' x, x = (if r = true then (0 : Int) else 10) → Below w.heap.size w w' → DecPost zs w (.returned (.tuple #[.agg (B (nd 0 z32 z32 z32 z32)), .int .i64 x])) w') := fun w' x hx hb => ⟨by
    have e1 : dcN zs = nd 0 z32 z32 z32 z32 := by rw [dcN, if_neg h0, if_neg h2]
    have e2 : dcE zs = x := by rw [dcE, if_neg h0, if_neg h2, hx, hr]; simp only [decide_eq_true_iff]
    rw [e1, e2], hb⟩
  obtain ⟨R, hR⟩ : ∃ R, R = nd 0 z32 z32 z32 z32 := ⟨_, rfl⟩
  have HRS : Hid ((B R).size = 129) := by show _ = _; rw [hR]; exact z_nd.size
  have HB : Hid (Tryz.prog.built 33 [] = some (B R)) := by rw [hR]; exact built_empty
  rw [← hR] at HX
  obtain ⟨a, c, rfl, _, _, _, _⟩ := h
  clear hr hR h0 h2 hu
  cases r with
  | true =>
    go_enter Tryz.func43, Tryz.ntmps43
    go_wp2_with (first
      | ((with_reducible refine at_al ?_); refine wpList_al _ rfl _ rfl _ zero_node ?_; intro w1 g1 hg1 hl1 B1 b1)
      | (go_at_call 66; refine (HI.out _ b1 _ _ (by decide) (by decide)).mono ?_; rintro e w2 ⟨rfl, rfl⟩)
      | ((with_reducible refine at_bd ?_); refine wpList_bld _ rfl _ _ rfl _ (by rw [List.map_toArray]; exact HB.out) ?_)
      | ((with_reducible refine at_st 2 ?_); refine wpList_sto _ rfl _ _ _ rfl g1 _ (B R) rfl rfl B1 (by rw [HRS.out]; exact size_node) (by rw [HRS.out]; rfl) (B_one _) ?_; intro w4 B4 g4))
    exact bodyPost_ret (v := .tuple #[.agg (B R), .int .i64 0]) (results_agg_tmp rfl _ _ g1 _ _ rfl rfl B4 HU.out (by rw [HRS.out]; exact size_node)) rfl (HX.out _ _ rfl (below_row b1 g4 hg1))
  | false =>
    go_enter Tryz.func43, Tryz.ntmps43
    go_wp2_with (first
      | ((with_reducible refine at_al ?_); refine wpList_al _ rfl _ rfl _ zero_node ?_; intro w1 g1 hg1 hl1 B1 b1)
      | (go_at_call 66; refine (HI.out _ b1 _ _ (by decide) (by decide)).mono ?_; rintro e w2 ⟨rfl, rfl⟩)
      | ((with_reducible refine at_bd ?_); refine wpList_bld _ rfl _ _ rfl _ (by rw [List.map_toArray]; exact HB.out) ?_)
      | ((with_reducible refine at_st 2 ?_); refine wpList_sto _ rfl _ _ _ rfl g1 _ (B R) rfl rfl B1 (by rw [HRS.out]; exact size_node) (by rw [HRS.out]; rfl) (B_one _) ?_; intro w4 B4 g4))
    exact bodyPost_ret (v := .tuple #[.agg (B R), .int .i64 10]) (results_agg_tmp rfl _ _ g1 _ _ rfl rfl B4 HU.out (by rw [HRS.out]; exact size_node)) rfl (HX.out _ _ rfl (below_row b1 g4 hg1))

theorem decode_any (v : Value) (zs : List Int) (w : World) (h : Reads w v zs) : Calls Tryz.prog 43 #[v] w (DecPost zs w) := by
  by_cases h1 : zs.length = 65 ∧ zs.getD 0 0 = 1
  · exact decode_leaf v zs w h h1.1 h1.2
  · by_cases h2 : zs.length = 65 ∧ zs.getD 0 0 = 2
    · exact decode_inner v zs w h h2.1 h2.2
    · exact decode_rest v zs _ w h h1 h2 rfl

end Go.Proofs.YtpihigcnoifcfaaGreatDoor
