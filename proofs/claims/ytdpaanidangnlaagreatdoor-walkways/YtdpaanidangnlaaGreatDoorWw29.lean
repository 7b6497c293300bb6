/- The document's Check, Encode, Digest of nodes, as contracts. -/
import Derived.Test.YtdpaanidangnlaaGreatDoorWw26
import Derived.Test.YtdpaanidangnlaaGreatDoorWw20
import Derived.Test.YtdpaanidangnlaaGreatDoorWw19
import Derived.Test.YtdpaanidangnlaaGreatDoorWw21
namespace Go.Proofs.YtdpaanidangnlaaGreatDoor
set_option maxRecDepth 20000
open Go.RowKit

theorem wpList_ldmg {ops : Array Oper} {rest : List Oper} {op : Oper} {a : Act} {Q : Exit → Act → World → Prop} (w : World) (hgd : Region.wanted op (yielded ops a.tmps) = true) (x : Operand) (ty : TypeId) (ho : op.op = .load ty x)
    (g o : Nat) (t : TypeId) (zs xs : List Int) (hx : a.eval x = .pointer (some ⟨g, o, none⟩)) (h : Blk w g t (B zs)) (hs : Seg zs o xs) (n : Nat) (e : TypeId) (hu : Tryz.prog.underlying ty = some (.array n e)) (hi : (Tryz.prog.info? ty).map (·.size) = some xs.length)
    (hk : wpList Tryz.prog ops Q rest (a.put op.dst (.agg (B xs))) w) : wpList Tryz.prog ops Q (op :: rest) a w :=
  BigFrame.wpList_want hgd fun _ hK => wp_load_mid ty x ho g o hx (xs.map (Value.int .u8)) _ (hs.range h) hu rfl (by rw [hi]; simp) (hK _ _ hk)

theorem wpList_bldg {ops : Array Oper} {rest : List Oper} {op : Oper} {a : Act} {Q : Exit → Act → World → Prop} (w : World) (hgd : Region.wanted op (yielded ops a.tmps) = true) (ty : TypeId) (parts : Array (Nat × Operand)) (ho : op.op = .build ty parts)
    (cs : Array Value) (h : Tryz.prog.built ty (parts.map fun (i, x) => (i, a.eval x)).toList = some cs)
    (hk : wpList Tryz.prog ops Q rest (a.put op.dst (.agg cs)) w) : wpList Tryz.prog ops Q (op :: rest) a w := by
  refine BigFrame.wpList_want hgd fun K hK => ?_
  unfold Oper.wp execOp
  simp only [ho, Sem.run_bind, run_build w ty _ cs h, Result.andThen_ok, Sem.run_pure]
  exact hK _ _ hk

theorem built_path : Tryz.prog.built 31 [] = some (B z32) := by kernel_rfl

end Go.Proofs.YtdpaanidangnlaaGreatDoor

/- Lists of digests and proofs in memory; rootcellarkit.SameHashes and SameProof, as contracts. -/
namespace Go.Proofs.YtdpaanidangnlaaGreatDoor
set_option maxRecDepth 20000
open Go.RowKit

/-- A slice of digests. -/
def HsAt (w : World) (v : Value) (hs : List (List Int)) : Prop :=
  ∃ a cap, v = .slice a hs.length cap ∧ hs.length ≤ cap ∧ (0 < hs.length → ∃ g off, a = some ⟨g, off, none⟩ ∧ ∀ i, i < hs.length → w.rangeAt g (off + i * 32) (B (hs.getD i [])).toList) ∧
    ∀ i, i < hs.length → (hs.getD i []).length = 32 ∧ Bytes (hs.getD i [])
theorem HsAt.grow {w w' : World} {v : Value} {hs : List (List Int)} (h : HsAt w v hs) (hb : Below w.heap.size w w') : HsAt w' v hs := by
  obtain ⟨a, cap, e, h1, h2, h3⟩ := h
  refine ⟨a, cap, e, h1, fun hp => ?_, h3⟩
  obtain ⟨g, off, ea, hr⟩ := h2 hp
  exact ⟨g, off, ea, fun i hi => rng_grow (hr i hi) hb⟩
theorem HsAt.kp {w : World} {v : Value} {hs : List (List Int)} (h : HsAt w v hs) : Kp w (fun w' => HsAt w' v hs) := fun _ q => h.grow q
theorem HsAt.nil (w : World) : HsAt w (.slice none 0 0) [] := ⟨none, 0, rfl, by simp, fun h => by simp at h, fun i hi => by simp at hi⟩

/-- A proof's cells: its sides, its end. -/
def encR (s : Value) (z : List Int) : List Value := s :: z.map (Value.int .u8)
theorem encR_length (s : Value) (z : List Int) (h : z.length = 129) : (encR s z).length = 130 := by simp [encR, h]
theorem size_proof : (Tryz.prog.info? 50).map (·.size) = some 130 := by kernel_rfl

theorem u_proof : ∃ fs, Tryz.prog.underlying 50 = some (.struct fs) := ⟨_, Tryz.underlying50⟩

theorem proof_side {w : World} {g : Nat} {t : TypeId} {s : Value} {z : List Int} (h : Blk w g t (encR s z).toArray) : w.cell? ⟨g, 0, none⟩ = some s := by
  rw [h.cell]
  simp [encR]
theorem proof_end {w : World} {g : Nat} {t : TypeId} {s : Value} {z : List Int} (h : Blk w g t (encR s z).toArray) : w.rangeAt g 1 (z.map (Value.int .u8)) := by
  intro j v hv
  rw [h.cell]
  simp only [encR, List.getElem?_toArray]
  rw [Nat.add_comm, List.getElem?_cons_succ]
  exact hv

/-- load of a proof's end. -/
theorem wpList_lde {ops : Array Oper} {rest : List Oper} {op : Oper} {a : Act} {Q : Exit → Act → World → Prop} (w : World) (hgd : op.guard = none) (x : Operand) (ho : op.op = .load 48 x)
    (g : Nat) (t : TypeId) (s : Value) (z : List Int) (hx : a.eval x = .pointer (some ⟨g, 1, none⟩)) (h : Blk w g t (encR s z).toArray) (hl : z.length = 129)
    (hk : wpList Tryz.prog ops Q rest (a.put op.dst (.agg (B z))) w) : wpList Tryz.prog ops Q (op :: rest) a w := by
  obtain ⟨fs, hu⟩ := u_node
  exact wpList_load_mid hgd 48 x ho g 1 hx (z.map (Value.int .u8)) _ (proof_end h) hu rfl (by rw [List.length_map, hl]; exact size_node) hk

set_option maxRecDepth 100000 in
set_option maxHeartbeats 4000000 in
theorem sameHashes_any (x y : Value) (xs ys : List (List Int)) (w : World) (hx : HsAt w x xs) (hy : HsAt w y ys) (hn : xs.length ≤ 140737488355328) :
    Calls Tryz.prog 54 #[x, y] w fun e w' => e = .returned (.bool (decide (xs = ys))) ∧ Below w.heap.size w w' := by
  obtain ⟨xa, xc, rfl, _, hxc, hxl⟩ := hx
  obtain ⟨ya, yc, rfl, _, hyc, hyl⟩ := hy
  by_cases hlen : xs.length = ys.length
  · have HX := hidden hxc
    have HY := hidden hyc
    have HXL := hidden hxl
    have HYL := hidden hyl
    have HLE := hidden hlen
    obtain ⟨n, hnn⟩ : ∃ n, n = xs.length := ⟨_, rfl⟩
    have HN := hidden hnn
    rw [← hlen, ← hnn]
    rw [← hnn] at hn
    obtain ⟨r, hr⟩ : ∃ r, r = decide (xs = ys) := ⟨_, rfl⟩
    have HR := hidden hr
    rw [← hr]
    have hne : ((n : Int) != (n : Int)) = false := by simp
    clear hxc hyc hxl hyl hlen hnn hr
    go_enter Tryz.func54, Tryz.ntmps54
    go_wp2_with fail
    go_loopw [5] (fun i wr => ∃ k : Nat, k ≤ n ∧ i = .int .i64 k ∧ Hid (∀ q, q < k → xs.getD q [] = ys.getD q []) ∧ Below w.heap.size w wr) (fun i _ => n - (intOf i).toNat)
    case atStart => exact ⟨0, by omega, rfl, fun q hq => by omega, Below.refl _ _⟩
    case round =>
      obtain ⟨k, hk, rfl, hsm, hbw⟩ := hrel
      by_cases hlt : k < n
      · have hlx : k < xs.length := by rw [← HN.out]; exact hlt
        have hly : k < ys.length := by rw [← HLE.out]; exact hlx
        obtain ⟨gx, ox, rfl, hcx⟩ := HX.out (by omega)
        obtain ⟨gy, oy, rfl, hcy⟩ := HY.out (by omega)
        have z1 : (k : Int) < (n : Int) := by omega
        have z0 : (0 : Int) ≤ (k : Int) := by omega
        obtain ⟨J, hJ⟩ : ∃ J, J = xs.getD k [] := ⟨_, rfl⟩
        obtain ⟨K, hK⟩ : ∃ K, K = ys.getD k [] := ⟨_, rfl⟩
        have HJL : Hid (J.length = 32) := by show _ = _; rw [hJ]; exact (HXL.out k hlx).1
        have HKL : Hid (K.length = 32) := by show _ = _; rw [hK]; exact (HYL.out k hly).1
        have hEq : ∀ w, (Op.equalIn 10000 43 (.agg (B J)) (.agg (B K))).run Tryz.prog w = .ok (decide (J = K)) w := fun w => hash_eq J K HJL.out HKL.out w
        have HS : Hid (∀ w', Below w.heap.size w w' → w'.rangeAt gx (ox + k * 32) (B J).toList ∧ w'.rangeAt gy (oy + k * 32) (B K).toList) := fun w' hw' => by
          rw [hJ, hK]
          exact ⟨rng_grow (hcx k hlx) hw', rng_grow (hcy k hly) hw'⟩
        have HLJ : Hid ((Tryz.prog.info? 43).map (·.size) = some (B J).toList.length) := by show _ = _; rw [B_toList, List.length_map, HJL.out]; exact sz_hash
        have HLK : Hid ((Tryz.prog.info? 43).map (·.size) = some (B K).toList.length) := by show _ = _; rw [B_toList, List.length_map, HKL.out]; exact sz_hash
        have HJ := hidden hJ
        have HK := hidden hK
        clear hcx hcy hlx hly hJ hK
        by_cases hJK : J = K
        · have HSM : Hid (∀ q, q < k + 1 → xs.getD q [] = ys.getD q []) := by
            intro q hq
            by_cases e : q = k
            · rw [e, ← HJ.out, ← HK.out, hJK]
            · exact hsm.out q (by omega)
          rw [decide_eq_true hJK] at hEq
          have HJK := hidden hJK
          clear hJK
          go_wp2_with fail
          have d0 : Below w.heap.size w wr.drew := grow_trans hbw (Below.refl _ _).drew
          refine wp_region_held_drew (S := fun w' => w'.rangeAt gx (ox + k * 32) (B J).toList ∧ w'.rangeAt gy (oy + k * 32) (B K).toList) (by kernel_rfl) (HS.out _ d0) (fun hHeld => ?_)
          refine wpAnyH_take (i := 0) (v := .slice (some ⟨gx, ox, none⟩) n xc) rfl (by kernel_rfl) (by kernel_rfl) (by kernel_rfl) (fun _ _ _ h => h) (Or.inl ⟨by rfl, fun w hS => by go_simp⟩) hHeld ?_
          simp only [Act.put, List.getElem_toArray, List.getElem_cons_zero, List.setIfInBounds_toArray, List.set_cons_zero, List.set_cons_succ]
          refine wpAnyH_take (i := 1) (v := .int .i64 k) rfl (by kernel_rfl) (by kernel_rfl) (by kernel_rfl) (fun _ _ _ h => h) (Or.inl ⟨by rfl, fun w hS => by go_simp⟩) hHeld ?_
          simp only [Act.put, List.getElem_toArray, List.getElem_cons_zero, List.getElem_cons_succ, List.setIfInBounds_toArray, List.set_cons_zero, List.set_cons_succ]
          refine wpAnyH_take (i := 2) (v := .pointer (some ⟨gx, ox + k * 32, none⟩)) rfl (by kernel_rfl) (by kernel_rfl) (by kernel_rfl) (fun _ _ _ h => h) (Or.inl ⟨by rfl, fun w hS => by go_simp⟩) hHeld ?_
          simp only [Act.put, List.getElem_toArray, List.getElem_cons_zero, List.getElem_cons_succ, List.setIfInBounds_toArray, List.set_cons_zero, List.set_cons_succ]
          refine wpAnyH_take (i := 3) (v := .agg (B J)) rfl (by kernel_rfl) (by kernel_rfl) (by kernel_rfl) (fun _ _ _ h => h) (yieldsIf_load_mid rfl 43 (.tmp 19) rfl gx (ox + k * 32) rfl (B J).toList _ (fun w hS => hS.1) Tryz.underlying43 rfl HLJ.out) hHeld ?_
          simp only [Act.put, List.getElem_toArray, List.getElem_cons_zero, List.getElem_cons_succ, List.setIfInBounds_toArray, List.set_cons_zero, List.set_cons_succ]
          refine wpAnyH_take (i := 4) (v := .slice (some ⟨gy, oy, none⟩) n yc) rfl (by kernel_rfl) (by kernel_rfl) (by kernel_rfl) (fun _ _ _ h => h) (Or.inl ⟨by rfl, fun w hS => by go_simp⟩) hHeld ?_
          simp only [Act.put, List.getElem_toArray, List.getElem_cons_zero, List.getElem_cons_succ, List.setIfInBounds_toArray, List.set_cons_zero, List.set_cons_succ]
          refine wpAnyH_take (i := 5) (v := .int .i64 k) rfl (by kernel_rfl) (by kernel_rfl) (by kernel_rfl) (fun _ _ _ h => h) (Or.inl ⟨by rfl, fun w hS => by go_simp⟩) hHeld ?_
          simp only [Act.put, List.getElem_toArray, List.getElem_cons_zero, List.getElem_cons_succ, List.setIfInBounds_toArray, List.set_cons_zero, List.set_cons_succ]
          refine wpAnyH_take (i := 6) (v := .pointer (some ⟨gy, oy + k * 32, none⟩)) rfl (by kernel_rfl) (by kernel_rfl) (by kernel_rfl) (fun _ _ _ h => h) (Or.inl ⟨by rfl, fun w hS => by go_simp⟩) hHeld ?_
          simp only [Act.put, List.getElem_toArray, List.getElem_cons_zero, List.getElem_cons_succ, List.setIfInBounds_toArray, List.set_cons_zero, List.set_cons_succ]
          refine wpAnyH_take (i := 7) (v := .agg (B K)) rfl (by kernel_rfl) (by kernel_rfl) (by kernel_rfl) (fun _ _ _ h => h) (yieldsIf_load_mid rfl 43 (.tmp 23) rfl gy (oy + k * 32) rfl (B K).toList _ (fun w hS => hS.2) Tryz.underlying43 rfl HLK.out) hHeld ?_
          simp only [Act.put, List.getElem_toArray, List.getElem_cons_zero, List.getElem_cons_succ, List.setIfInBounds_toArray, List.set_cons_zero, List.set_cons_succ]
          refine wpAnyH_take (i := 8) (v := .bool false) rfl (by kernel_rfl) (by kernel_rfl) (by kernel_rfl) (fun _ _ _ h => h) (Or.inl ⟨by rfl, fun w hS => by go_simp⟩) hHeld ?_
          simp only [Act.put, List.getElem_toArray, List.getElem_cons_zero, List.getElem_cons_succ, List.setIfInBounds_toArray, List.set_cons_zero, List.set_cons_succ]
          refine wpAnyH_done (by kernel_rfl) ?_ _
          go_wp2_with fail
          exact ⟨⟨k + 1, by omega, by go_num, HSM, d0⟩, by simp [intOf]; omega⟩
        · have HF : Hid (r = false) := by
            show _ = _
            rw [HR.out, decide_eq_false]
            intro e
            apply hJK
            rw [HJ.out, HK.out, e]
          rw [decide_eq_false hJK] at hEq
          clear hJK
          go_wp2_with fail
          have d0 : Below w.heap.size w wr.drew := grow_trans hbw (Below.refl _ _).drew
          refine wp_region_held_drew (S := fun w' => w'.rangeAt gx (ox + k * 32) (B J).toList ∧ w'.rangeAt gy (oy + k * 32) (B K).toList) (by kernel_rfl) (HS.out _ d0) (fun hHeld => ?_)
          refine wpAnyH_take (i := 0) (v := .slice (some ⟨gx, ox, none⟩) n xc) rfl (by kernel_rfl) (by kernel_rfl) (by kernel_rfl) (fun _ _ _ h => h) (Or.inl ⟨by rfl, fun w hS => by go_simp⟩) hHeld ?_
          simp only [Act.put, List.getElem_toArray, List.getElem_cons_zero, List.setIfInBounds_toArray, List.set_cons_zero, List.set_cons_succ]
          refine wpAnyH_take (i := 1) (v := .int .i64 k) rfl (by kernel_rfl) (by kernel_rfl) (by kernel_rfl) (fun _ _ _ h => h) (Or.inl ⟨by rfl, fun w hS => by go_simp⟩) hHeld ?_
          simp only [Act.put, List.getElem_toArray, List.getElem_cons_zero, List.getElem_cons_succ, List.setIfInBounds_toArray, List.set_cons_zero, List.set_cons_succ]
          refine wpAnyH_take (i := 2) (v := .pointer (some ⟨gx, ox + k * 32, none⟩)) rfl (by kernel_rfl) (by kernel_rfl) (by kernel_rfl) (fun _ _ _ h => h) (Or.inl ⟨by rfl, fun w hS => by go_simp⟩) hHeld ?_
          simp only [Act.put, List.getElem_toArray, List.getElem_cons_zero, List.getElem_cons_succ, List.setIfInBounds_toArray, List.set_cons_zero, List.set_cons_succ]
          refine wpAnyH_take (i := 3) (v := .agg (B J)) rfl (by kernel_rfl) (by kernel_rfl) (by kernel_rfl) (fun _ _ _ h => h) (yieldsIf_load_mid rfl 43 (.tmp 19) rfl gx (ox + k * 32) rfl (B J).toList _ (fun w hS => hS.1) Tryz.underlying43 rfl HLJ.out) hHeld ?_
          simp only [Act.put, List.getElem_toArray, List.getElem_cons_zero, List.getElem_cons_succ, List.setIfInBounds_toArray, List.set_cons_zero, List.set_cons_succ]
          refine wpAnyH_take (i := 4) (v := .slice (some ⟨gy, oy, none⟩) n yc) rfl (by kernel_rfl) (by kernel_rfl) (by kernel_rfl) (fun _ _ _ h => h) (Or.inl ⟨by rfl, fun w hS => by go_simp⟩) hHeld ?_
          simp only [Act.put, List.getElem_toArray, List.getElem_cons_zero, List.getElem_cons_succ, List.setIfInBounds_toArray, List.set_cons_zero, List.set_cons_succ]
          refine wpAnyH_take (i := 5) (v := .int .i64 k) rfl (by kernel_rfl) (by kernel_rfl) (by kernel_rfl) (fun _ _ _ h => h) (Or.inl ⟨by rfl, fun w hS => by go_simp⟩) hHeld ?_
          simp only [Act.put, List.getElem_toArray, List.getElem_cons_zero, List.getElem_cons_succ, List.setIfInBounds_toArray, List.set_cons_zero, List.set_cons_succ]
          refine wpAnyH_take (i := 6) (v := .pointer (some ⟨gy, oy + k * 32, none⟩)) rfl (by kernel_rfl) (by kernel_rfl) (by kernel_rfl) (fun _ _ _ h => h) (Or.inl ⟨by rfl, fun w hS => by go_simp⟩) hHeld ?_
          simp only [Act.put, List.getElem_toArray, List.getElem_cons_zero, List.getElem_cons_succ, List.setIfInBounds_toArray, List.set_cons_zero, List.set_cons_succ]
          refine wpAnyH_take (i := 7) (v := .agg (B K)) rfl (by kernel_rfl) (by kernel_rfl) (by kernel_rfl) (fun _ _ _ h => h) (yieldsIf_load_mid rfl 43 (.tmp 23) rfl gy (oy + k * 32) rfl (B K).toList _ (fun w hS => hS.2) Tryz.underlying43 rfl HLK.out) hHeld ?_
          simp only [Act.put, List.getElem_toArray, List.getElem_cons_zero, List.getElem_cons_succ, List.setIfInBounds_toArray, List.set_cons_zero, List.set_cons_succ]
          refine wpAnyH_take (i := 8) (v := .bool true) rfl (by kernel_rfl) (by kernel_rfl) (by kernel_rfl) (fun _ _ _ h => h) (Or.inl ⟨by rfl, fun w hS => by go_simp⟩) hHeld ?_
          simp only [Act.put, List.getElem_toArray, List.getElem_cons_zero, List.getElem_cons_succ, List.setIfInBounds_toArray, List.set_cons_zero, List.set_cons_succ]
          refine wpAnyH_done (by kernel_rfl) ?_ _
          go_wp2_with fail
          go_ret
          exact ⟨by rw [HF.out]; rfl, d0⟩
      · have HT : Hid (r = true) := by
          show _ = _
          rw [HR.out, decide_eq_true]
          apply List.ext_getElem HLE.out
          intro i h1 h2
          have h3 := hsm.out i (by have := HN.out; omega)
          simpa [List.getD, h1, h2] using h3
        have z1 : ¬ (k : Int) < (n : Int) := by omega
        clear hsm
        go_wp2
        go_ret
        exact ⟨by rw [HT.out]; rfl, hbw⟩
  · have hd : decide (xs = ys) = false := decide_eq_false (fun e => hlen (by rw [e]))
    rw [hd]
    have h1 : ((xs.length : Int) != (ys.length : Int)) = true := by simp; omega
    have h2 : ((xs.length : Int) == (ys.length : Int)) = false := by simp; omega
    clear hxc hyc hxl hyl hlen hd
    go_enter Tryz.func54, Tryz.ntmps54
    go_wp2
    go_ret
    exact ⟨rfl, Below.refl _ _⟩

set_option maxHeartbeats 4000000 in
theorem sameProof_any (x y : Value) (xs ys : List (List Int)) (k k' : Int) (a b c d a' b' c' d' : List Int) (w : World) (hx : HsAt w x xs) (hy : HsAt w y ys) (hn : xs.length ≤ 140737488355328) (h : Nd k a b c d) (h' : Nd k' a' b' c' d') :
    Calls Tryz.prog 17 #[.agg (encR x (nd k a b c d)).toArray, .agg (encR y (nd k' a' b' c' d')).toArray] w fun e w' => e = .returned (.bool (decide (nd k a b c d = nd k' a' b' c' d') && decide (xs = ys))) ∧ Below w.heap.size w w' := by
  have HSm : Hid (∀ w', Below w.heap.size w w' → Calls Tryz.prog 54 #[x, y] w' fun e w'' => e = .returned (.bool (decide (xs = ys))) ∧ Below w'.heap.size w' w'') := fun w' hb => sameHashes_any x y xs ys w' (hx.grow hb) (hy.grow hb) hn
  have hEq := fun w => node_eq h h' w
  have HL1 := hidden h.length
  have HL2 := hidden h'.length
  obtain ⟨N, hN⟩ : ∃ N, N = nd k a b c d := ⟨_, rfl⟩
  obtain ⟨M, hM⟩ : ∃ M, M = nd k' a' b' c' d' := ⟨_, rfl⟩
  rw [← hN] at HL1 hEq ⊢
  rw [← hM] at HL2 hEq ⊢
  obtain ⟨p, hp⟩ : ∃ p, p = decide (N = M) := ⟨_, rfl⟩
  obtain ⟨q, hq⟩ : ∃ q, q = decide (xs = ys) := ⟨_, rfl⟩
  rw [← hp] at hEq ⊢
  rw [← hq] at HSm ⊢
  obtain ⟨xa, xc, rfl, _⟩ := hx
  obtain ⟨ya, yc, rfl, _⟩ := hy
  clear h h' hN hM hp hq hn
  cases p with
  | true =>
    go_enter Tryz.func17, Tryz.ntmps17
    go_wp2_with (first
      | ((with_reducible refine at_bxd 2 ?_); refine wpList_bx _ rfl _ _ rfl _ rfl ?_; intro w1 g1 hg1 hl1 B1 b1; have cx := proof_side B1)
      | ((with_reducible refine at_bxd 3 ?_); refine wpList_bx _ rfl _ _ rfl _ rfl ?_; intro w2 g2 hg2 hl2 B2 b2; have B1' := B1.grow b2; have c2 := grow_trans b1 b2; have cx2 := proof_side B1'; have cy := proof_side B2)
      | ((with_reducible refine at_ldd 6 5 ?_); refine wpList_lde _ rfl _ rfl g1 _ _ N rfl B1' HL1.out ?_)
      | ((with_reducible refine at_ldd 8 7 ?_); refine wpList_lde _ rfl _ rfl g2 _ _ M rfl B2 HL2.out ?_)
      | (go_at_call 54; refine (HSm.out _ c2).mono ?_; rintro e w3 ⟨rfl, b3⟩))
    go_ret
    exact ⟨by simp, grow_trans c2 b3⟩
  | false =>
    go_enter Tryz.func17, Tryz.ntmps17
    go_wp2_with (first
      | ((with_reducible refine at_bxd 2 ?_); refine wpList_bx _ rfl _ _ rfl _ rfl ?_; intro w1 g1 hg1 hl1 B1 b1; have cx := proof_side B1)
      | ((with_reducible refine at_bxd 3 ?_); refine wpList_bx _ rfl _ _ rfl _ rfl ?_; intro w2 g2 hg2 hl2 B2 b2; have B1' := B1.grow b2; have c2 := grow_trans b1 b2; have cx2 := proof_side B1'; have cy := proof_side B2)
      | ((with_reducible refine at_ldd 6 5 ?_); refine wpList_lde _ rfl _ rfl g1 _ _ N rfl B1' HL1.out ?_)
      | ((with_reducible refine at_ldd 8 7 ?_); refine wpList_lde _ rfl _ rfl g2 _ _ M rfl B2 HL2.out ?_))
    go_ret
    exact ⟨by simp, c2⟩

end Go.Proofs.YtdpaanidangnlaaGreatDoor

/- Proofs in memory: laws for their loads, stores and literals; node.join, as a contract. -/
namespace Go.Proofs.YtdpaanidangnlaaGreatDoor
set_option maxRecDepth 20000
open Go.RowKit

theorem hash_sz (D : List Int) (h : D.length = 32) : (Tryz.prog.info? 43).map (·.size) = some (B D).size ∧ (B (List.replicate 32 0)).size = (B D).size := ⟨by rw [B_size, h]; exact sz_hash, by rw [B_size, B_size, h]; rfl⟩
theorem hash_ln (D : List Int) (h : D.length = 32) : (Tryz.prog.info? 43).map (·.size) = some (B D).toList.length := by rw [B_toList, List.length_map, h]; exact sz_hash
theorem path_ln (D : List Int) (h : D.length = 32) : (Tryz.prog.info? 31).map (·.size) = some (B D).toList.length := by rw [B_toList, List.length_map, h]; exact sz_path

theorem zero_proof : ∀ w, (zeroValue 50).run Tryz.prog w = .ok (.agg (encR (.slice none 0 0) (List.replicate 129 0)).toArray) w := zero_of_info (n := 130) (by kernel_rfl) |>.1

theorem built_proof0 : Tryz.prog.built 50 [] = some (encR (.slice none 0 0) (nd 0 z32 z32 z32 z32)).toArray := by kernel_rfl

def pfPlaces : Nat → Option (Nat × Nat) := fun i => (#[(0, 1), (1, 129)] : Array (Nat × Nat))[i]?

theorem built_pfEq (ps : List (Nat × Value)) : Tryz.prog.built 50 ps = Instr.fill pfPlaces (encR (.slice none 0 0) (List.replicate 129 0)).toArray ps := by kernel_rfl

theorem built_proof (a : Option Addr) (n c : Nat) (z : List Int) (hz : z.length = 129) : Tryz.prog.built 50 [(0, .slice a n c), (1, .agg (B z))] = some (encR (.slice a n c) z).toArray := by
  rw [built_pfEq]
  rw [fill_one pfPlaces 0 0 1 (.slice a n c) [.slice a n c] (encR (.slice none 0 0) (List.replicate 129 0)) _ rfl rfl rfl (by simp [encR])]
  rw [fill_one pfPlaces 1 1 129 (.agg (B z)) (z.map (Value.int .u8)) _ _ rfl (cells_b z) (by simp [hz]) (by simp [encR])]
  simp [encR, Instr.fill]

theorem encR_one (a : Option Addr) (n c : Nat) (z : List Int) : (encR (.slice a n c) z).toArray.all (·.oneCell') = true := Array.all_eq_true_iff_forall_mem.2 (fun v hv => by
  simp only [encR, List.mem_toArray, List.mem_cons, List.mem_map] at hv
  rcases hv with rfl | ⟨z, _, rfl⟩ <;> rfl)

theorem encR_sz (s : Value) (z : List Int) (hz : z.length = 129) : (Tryz.prog.info? 50).map (·.size) = some (encR s z).toArray.size := by rw [List.size_toArray, encR_length s z hz]; exact size_proof

/-- Another list of sides. -/
theorem blk_side {w : World} {g : Nat} {t : TypeId} {s : Value} {z : List Int} (h : Blk w g t (encR s z).toArray) (s' : Value) : Blk (w.setCell ⟨g, 0, none⟩ s') g t (encR s' z).toArray := by
  have := h.set 0 s'
  simpa [encR] using this
/-- Another end. -/
theorem blk_end {w : World} {g : Nat} {t : TypeId} {s : Value} {z : List Int} (h : Blk w g t (encR s z).toArray) (z' : List Int) (hz : z.length = 129) (hz' : z'.length = 129) : Blk (w.setCells g 1 (z'.map (Value.int .u8))) g t (encR s z').toArray := by
  have h1 := Blk.cells (z'.map (Value.int .u8)) 1 h (by simp [encR, hz, hz'])
  have e : ((encR s z).toArray.toList.take 1 ++ (z'.map (Value.int .u8) ++ (encR s z).toArray.toList.drop (1 + (z'.map (Value.int .u8)).length))).toArray = (encR s z').toArray := by
    simp [encR, hz, hz']
  rw [e] at h1
  exact h1
theorem proof_kind {w : World} {g : Nat} {t : TypeId} {s : Value} {k : Int} {a b c d : List Int} (h : Blk w g t (encR s (nd k a b c d)).toArray) : w.cell? ⟨g, 1, none⟩ = some (.int .u8 k) := by
  rw [h.cell]
  simp [encR, nd]

/-- The digest of an inner node, mine on the side of bit. -/
def jnD (bit : Int) (x y : List Int) : List Int := if bit = 1 then inD y x else inD x y
theorem jnD_length (bit : Int) (x y : List Int) : (jnD bit x y).length = 32 := by unfold jnD; split <;> exact dig_length _
theorem jnD_bytes (bit : Int) (x y : List Int) : Bytes (jnD bit x y) := by unfold jnD; split <;> exact dig_bytes _

set_option maxHeartbeats 2000000 in
theorem njoin_any (bit : Int) (x y : List Int) (w : World) (hx : x.length = 32) (hy : y.length = 32) (bx : Bytes x) (by' : Bytes y) (hL : Laid w) :
    Calls Tryz.prog 52 #[.int .i64 bit, .agg (B x), .agg (B y)] w fun e w' => e = .returned (.agg (B (jnD bit x y))) ∧ Below w.heap.size w w' := by
  have HL := hidden hL
  have HI1 : Hid (∀ w', Laid w' → Calls Tryz.prog 110 #[.agg (B y), .agg (B x)] w' fun e w'' => e = .returned (.agg (B (inD y x))) ∧ Below w'.heap.size w' w'') := fun w' hl => inner_any y x w' hy hx by' bx hl
  have HI0 : Hid (∀ w', Laid w' → Calls Tryz.prog 110 #[.agg (B x), .agg (B y)] w' fun e w'' => e = .returned (.agg (B (inD x y))) ∧ Below w'.heap.size w' w'') := fun w' hl => inner_any x y w' hx hy bx by' hl
  have HX := hidden (hash_sz x hx)
  have HY := hidden (hash_sz y hy)
  have HF := hidden (hash_sz (jnD bit x y) (jnD_length _ _ _))
  by_cases hb : bit = 1
  · have hj : inD y x = jnD bit x y := by rw [jnD, if_pos hb]
    rw [hj] at HI1
    have q1 : (bit == 1) = true := by simp [hb]
    obtain ⟨D, hD⟩ : ∃ D, D = jnD bit x y := ⟨_, rfl⟩
    rw [← hD] at HI1 HF ⊢
    clear hL hb hj hD HI0
    go_enter Tryz.func52, Tryz.ntmps52
    go_wp2_with (first
      | ((with_reducible refine at_bxd 4 ?_); refine wpList_bx _ rfl _ _ rfl _ rfl ?_; intro w1 g4 hg4 hl4 B4 b1)
      | ((with_reducible refine at_bxd 5 ?_); refine wpList_bx _ rfl _ _ rfl _ rfl ?_; intro w2 g5 hg5 hl5 B5 b2; have c2 := grow_trans b1 b2; have D4 := B4.grow b2)
      | ((with_reducible refine at_ald 6 ?_); refine wpList_al _ rfl _ rfl _ zero_hash ?_; intro w3 g6 hg6 hl6 B6 b3; have c3 := grow_trans c2 b3; have E4 := D4.grow b3; have E5 := B5.grow b3)
      | ((with_reducible refine at_ldd 9 5 ?_); refine wpList_ld _ rfl _ _ rfl g5 _ rfl E5 _ _ Tryz.underlying43 HY.out.1 ?_)
      | ((with_reducible refine at_ldd 10 4 ?_); refine wpList_ld _ rfl _ _ rfl g4 _ rfl E4 _ _ Tryz.underlying43 HX.out.1 ?_)
      | (go_at_call 110; refine (HI1.out _ (HL.out.grow c3)).mono ?_; rintro e w4 ⟨rfl, b4⟩; have F6 := B6.grow b4; have c4 := grow_trans c3 b4)
      | ((with_reducible refine at_st 6 ?_); refine wpList_sto _ rfl _ _ _ rfl g6 _ (B D) rfl rfl F6 HF.out.1 HF.out.2 (B_one _) ?_; intro w5 B7 r5))
    exact bodyPost_ret (v := .agg (B D)) (results_cell_row rfl _ _ g6 _ _ _ _ rfl B7 Tryz.underlying43 rfl HF.out.1) rfl ⟨rfl, below_row c4 r5 (Nat.le_trans c2.size hg6)⟩
  · have hj : inD x y = jnD bit x y := by rw [jnD, if_neg hb]
    rw [hj] at HI0
    have q1 : (bit == 1) = false := by simp [hb]
    obtain ⟨D, hD⟩ : ∃ D, D = jnD bit x y := ⟨_, rfl⟩
    rw [← hD] at HI0 HF ⊢
    clear hL hb hj hD HI1
    go_enter Tryz.func52, Tryz.ntmps52
    go_wp2_with (first
      | ((with_reducible refine at_bxd 4 ?_); refine wpList_bx _ rfl _ _ rfl _ rfl ?_; intro w1 g4 hg4 hl4 B4 b1)
      | ((with_reducible refine at_bxd 5 ?_); refine wpList_bx _ rfl _ _ rfl _ rfl ?_; intro w2 g5 hg5 hl5 B5 b2; have c2 := grow_trans b1 b2; have D4 := B4.grow b2)
      | ((with_reducible refine at_ald 6 ?_); refine wpList_al _ rfl _ rfl _ zero_hash ?_; intro w3 g6 hg6 hl6 B6 b3; have c3 := grow_trans c2 b3; have E4 := D4.grow b3; have E5 := B5.grow b3)
      | ((with_reducible refine at_ldd 13 5 ?_); refine wpList_ld _ rfl _ _ rfl g5 _ rfl E5 _ _ Tryz.underlying43 HY.out.1 ?_)
      | ((with_reducible refine at_ldd 12 4 ?_); refine wpList_ld _ rfl _ _ rfl g4 _ rfl E4 _ _ Tryz.underlying43 HX.out.1 ?_)
      | (go_at_call 110; refine (HI0.out _ (HL.out.grow c3)).mono ?_; rintro e w4 ⟨rfl, b4⟩; have F6 := B6.grow b4; have c4 := grow_trans c3 b4)
      | ((with_reducible refine at_st 6 ?_); refine wpList_sto _ rfl _ _ _ rfl g6 _ (B D) rfl rfl F6 HF.out.1 HF.out.2 (B_one _) ?_; intro w5 B7 r5))
    exact bodyPost_ret (v := .agg (B D)) (results_cell_row rfl _ _ g6 _ _ _ _ rfl B7 Tryz.underlying43 rfl HF.out.1) rfl ⟨rfl, below_row c4 r5 (Nat.le_trans c2.size hg6)⟩

end Go.Proofs.YtdpaanidangnlaaGreatDoor
