/- Lists of digests and proofs in memory; rootcellarkit.SameHashes and SameProof, as contracts. -/
import Derived.Test.YtaihiffdjgadeaaDoorPc19
import Derived.Test.YtaihiffdjgadeaaDoorPc20
import Derived.Deep.RegionHeld
import Derived.Test.YtaihiffdjgadeaaDoorPc01
namespace Go.Proofs.YtaihiffdjgadeaaDoor
set_option maxRecDepth 20000
open Go.RowKit

/-- A slice of digests. -/
def HsAt (w : World) (v : Value) (hs : List (List Int)) : Prop :=
  ∃ a cap, v = .slice a hs.length cap ∧ hs.length ≤ cap ∧ (0 < hs.length → ∃ g off, a = some ⟨g, off, none⟩ ∧ ∀ i, i < hs.length → w.rangeAt g (off + i * 32) (B (hs.getD i [])).toList) ∧
    ∀ i, i < hs.length → (hs.getD i []).length = 32 ∧ Bytes (hs.getD i [])
theorem HsAt.grow {w w' : World} {v : Value} {hs : List (List Int)} (h : HsAt w v hs) (hb : Below w.heap.size w w') : HsAt w' v hs := by
  obtain ⟨a, cap, e, h1, h2, h3⟩ := h
  refine ⟨a, cap, e, h1, fun hp => ?_, h3⟩
  obtain ⟨g, off, ea, hr⟩ := h2 hp
  exact ⟨g, off, ea, fun i hi => rng_grow (hr i hi) hb⟩
theorem HsAt.kp {w : World} {v : Value} {hs : List (List Int)} (h : HsAt w v hs) : Kp w (fun w' => HsAt w' v hs) := fun _ q => h.grow q
theorem HsAt.nil (w : World) : HsAt w (.slice none 0 0) [] := ⟨none, 0, rfl, by simp, fun h => by simp at h, fun i hi => by simp at hi⟩

/-- A proof's cells: its sides, its end. -/
def encR (s : Value) (z : List Int) : List Value := s :: z.map (Value.int .u8)
theorem encR_length (s : Value) (z : List Int) (h : z.length = 129) : (encR s z).length = 130 := by simp [encR, h]
theorem size_proof : (Tryd.prog.info? 30).map (·.size) = some 130 := by kernel_rfl

theorem u_proof : ∃ fs, Tryd.prog.underlying 30 = some (.struct fs) := ⟨_, Tryd.underlying30⟩

theorem proof_side {w : World} {g : Nat} {t : TypeId} {s : Value} {z : List Int} (h : Blk w g t (encR s z).toArray) : w.cell? ⟨g, 0, none⟩ = some s := by
  rw [h.cell]
  simp [encR]
theorem proof_end {w : World} {g : Nat} {t : TypeId} {s : Value} {z : List Int} (h : Blk w g t (encR s z).toArray) : w.rangeAt g 1 (z.map (Value.int .u8)) := by
  intro j v hv
  rw [h.cell]
  simp only [encR, List.getElem?_toArray]
  rw [Nat.add_comm, List.getElem?_cons_succ]
  exact hv

/-- load of a proof's end. -/
theorem wpList_lde {ops : Array Oper} {rest : List Oper} {op : Oper} {a : Act} {Q : Exit → Act → World → Prop} (w : World) (hgd : op.guard = none) (x : Operand) (ho : op.op = .load 28 x)
    (g : Nat) (t : TypeId) (s : Value) (z : List Int) (hx : a.eval x = .pointer (some ⟨g, 1, none⟩)) (h : Blk w g t (encR s z).toArray) (hl : z.length = 129)
    (hk : wpList Tryd.prog ops Q rest (a.put op.dst (.agg (B z))) w) : wpList Tryd.prog ops Q (op :: rest) a w := by
  obtain ⟨fs, hu⟩ := u_node
  exact wpList_load_mid hgd 28 x ho g 1 hx (z.map (Value.int .u8)) _ (proof_end h) hu rfl (by rw [List.length_map, hl]; exact size_node) hk

set_option maxRecDepth 100000 in
set_option maxHeartbeats 4000000 in
theorem sameHashes_any (x y : Value) (xs ys : List (List Int)) (w : World) (hx : HsAt w x xs) (hy : HsAt w y ys) (hn : xs.length ≤ 140737488355328) :
    Calls Tryd.prog 34 #[x, y] w fun e w' => e = .returned (.bool (decide (xs = ys))) ∧ Below w.heap.size w w' := by
  obtain ⟨xa, xc, rfl, _, hxc, hxl⟩ := hx
  obtain ⟨ya, yc, rfl, _, hyc, hyl⟩ := hy
  by_cases hlen : xs.length = ys.length
  · have HX := hidden hxc
    have HY := hidden hyc
    have HXL := hidden hxl
    have HYL := hidden hyl
    have HLE := hidden hlen
    obtain ⟨n, hnn⟩ : ∃ n, n = xs.length := ⟨_, rfl⟩
    have HN := hidden hnn
    rw [← hlen, ← hnn]
    rw [← hnn] at hn
    obtain ⟨r, hr⟩ : ∃ r, r = decide (xs = ys) := ⟨_, rfl⟩
    have HR := hidden hr
    rw [← hr]
    have hne : ((n : Int) != (n : Int)) = false := by simp
    clear hxc hyc hxl hyl hlen hnn hr
    go_enter Tryd.func34, Tryd.ntmps34
    go_wp2_with fail
    go_loopw [5] (fun i wr => ∃ k : Nat, k ≤ n ∧ i = .int .i64 k ∧ Hid (∀ q, q < k → xs.getD q [] = ys.getD q []) ∧ Below w.heap.size w wr) (fun i _ => n - (intOf i).toNat)
    case atStart => exact ⟨0, by omega, rfl, fun q hq => by omega, Below.refl _ _⟩
    case round =>
      obtain ⟨k, hk, rfl, hsm, hbw⟩ := hrel
      by_cases hlt : k < n
      · have hlx : k < xs.length := by rw [← HN.out]; exact hlt
        have hly : k < ys.length := by rw [← HLE.out]; exact hlx
        obtain ⟨gx, ox, rfl, hcx⟩ := HX.out (by omega)
        obtain ⟨gy, oy, rfl, hcy⟩ := HY.out (by omega)
        have z1 : (k : Int) < (n : Int) := by omega
        have z0 : (0 : Int) ≤ (k : Int) := by omega
        obtain ⟨J, hJ⟩ : ∃ J, J = xs.getD k [] := ⟨_, rfl⟩
        obtain ⟨K, hK⟩ : ∃ K, K = ys.getD k [] := ⟨_, rfl⟩
        have HJL : Hid (J.length = 32) := by show _ = _; rw [hJ]; exact (HXL.out k hlx).1
        have HKL : Hid (K.length = 32) := by show _ = _; rw [hK]; exact (HYL.out k hly).1
        have hEq : ∀ w, (Op.equalIn 10000 26 (.agg (B J)) (.agg (B K))).run Tryd.prog w = .ok (decide (J = K)) w := fun w => hash_eq J K HJL.out HKL.out w
        have HS : Hid (∀ w', Below w.heap.size w w' → w'.rangeAt gx (ox + k * 32) (B J).toList ∧ w'.rangeAt gy (oy + k * 32) (B K).toList) := fun w' hw' => by
          rw [hJ, hK]
          exact ⟨rng_grow (hcx k hlx) hw', rng_grow (hcy k hly) hw'⟩
        have HLJ : Hid ((Tryd.prog.info? 26).map (·.size) = some (B J).toList.length) := by show _ = _; rw [B_toList, List.length_map, HJL.out]; exact sz_hash
        have HLK : Hid ((Tryd.prog.info? 26).map (·.size) = some (B K).toList.length) := by show _ = _; rw [B_toList, List.length_map, HKL.out]; exact sz_hash
        have HJ := hidden hJ
        have HK := hidden hK
        clear hcx hcy hlx hly hJ hK
        by_cases hJK : J = K
        · have HSM : Hid (∀ q, q < k + 1 → xs.getD q [] = ys.getD q []) := by
            intro q hq
            by_cases e : q = k
            · rw [e, ← HJ.out, ← HK.out, hJK]
            · exact hsm.out q (by omega)
          rw [decide_eq_true hJK] at hEq
          have HJK := hidden hJK
          clear hJK
          go_wp2_with fail
          have d0 : Below w.heap.size w wr.drew := grow_trans hbw (Below.refl _ _).drew
          refine wp_region_held_drew (S := fun w' => w'.rangeAt gx (ox + k * 32) (B J).toList ∧ w'.rangeAt gy (oy + k * 32) (B K).toList) (by kernel_rfl) (HS.out _ d0) (fun hHeld => ?_)
          refine wpAnyH_take (i := 0) (v := .slice (some ⟨gx, ox, none⟩) n xc) rfl (by kernel_rfl) (by kernel_rfl) (by kernel_rfl) (fun _ _ _ h => h) (Or.inl ⟨by rfl, fun w hS => by go_simp⟩) hHeld ?_
          simp only [Act.put, List.getElem_toArray, List.getElem_cons_zero, List.setIfInBounds_toArray, List.set_cons_zero, List.set_cons_succ]
          refine wpAnyH_take (i := 1) (v := .int .i64 k) rfl (by kernel_rfl) (by kernel_rfl) (by kernel_rfl) (fun _ _ _ h => h) (Or.inl ⟨by rfl, fun w hS => by go_simp⟩) hHeld ?_
          simp only [Act.put, List.getElem_toArray, List.getElem_cons_zero, List.getElem_cons_succ, List.setIfInBounds_toArray, List.set_cons_zero, List.set_cons_succ]
          refine wpAnyH_take (i := 2) (v := .pointer (some ⟨gx, ox + k * 32, none⟩)) rfl (by kernel_rfl) (by kernel_rfl) (by kernel_rfl) (fun _ _ _ h => h) (Or.inl ⟨by rfl, fun w hS => by go_simp⟩) hHeld ?_
          simp only [Act.put, List.getElem_toArray, List.getElem_cons_zero, List.getElem_cons_succ, List.setIfInBounds_toArray, List.set_cons_zero, List.set_cons_succ]
          refine wpAnyH_take (i := 3) (v := .agg (B J)) rfl (by kernel_rfl) (by kernel_rfl) (by kernel_rfl) (fun _ _ _ h => h) (yieldsIf_load_mid rfl 26 (.tmp 19) rfl gx (ox + k * 32) rfl (B J).toList _ (fun w hS => hS.1) Tryd.underlying26 rfl HLJ.out) hHeld ?_
          simp only [Act.put, List.getElem_toArray, List.getElem_cons_zero, List.getElem_cons_succ, List.setIfInBounds_toArray, List.set_cons_zero, List.set_cons_succ]
          refine wpAnyH_take (i := 4) (v := .slice (some ⟨gy, oy, none⟩) n yc) rfl (by kernel_rfl) (by kernel_rfl) (by kernel_rfl) (fun _ _ _ h => h) (Or.inl ⟨by rfl, fun w hS => by go_simp⟩) hHeld ?_
          simp only [Act.put, List.getElem_toArray, List.getElem_cons_zero, List.getElem_cons_succ, List.setIfInBounds_toArray, List.set_cons_zero, List.set_cons_succ]
          refine wpAnyH_take (i := 5) (v := .int .i64 k) rfl (by kernel_rfl) (by kernel_rfl) (by kernel_rfl) (fun _ _ _ h => h) (Or.inl ⟨by rfl, fun w hS => by go_simp⟩) hHeld ?_
          simp only [Act.put, List.getElem_toArray, List.getElem_cons_zero, List.getElem_cons_succ, List.setIfInBounds_toArray, List.set_cons_zero, List.set_cons_succ]
          refine wpAnyH_take (i := 6) (v := .pointer (some ⟨gy, oy + k * 32, none⟩)) rfl (by kernel_rfl) (by kernel_rfl) (by kernel_rfl) (fun _ _ _ h => h) (Or.inl ⟨by rfl, fun w hS => by go_simp⟩) hHeld ?_
          simp only [Act.put, List.getElem_toArray, List.getElem_cons_zero, List.getElem_cons_succ, List.setIfInBounds_toArray, List.set_cons_zero, List.set_cons_succ]
          refine wpAnyH_take (i := 7) (v := .agg (B K)) rfl (by kernel_rfl) (by kernel_rfl) (by kernel_rfl) (fun _ _ _ h => h) (yieldsIf_load_mid rfl 26 (.tmp 23) rfl gy (oy + k * 32) rfl (B K).toList _ (fun w hS => hS.2) Tryd.underlying26 rfl HLK.out) hHeld ?_
          simp only [Act.put, List.getElem_toArray, List.getElem_cons_zero, List.getElem_cons_succ, List.setIfInBounds_toArray, List.set_cons_zero, List.set_cons_succ]
          refine wpAnyH_take (i := 8) (v := .bool false) rfl (by kernel_rfl) (by kernel_rfl) (by kernel_rfl) (fun _ _ _ h => h) (Or.inl ⟨by rfl, fun w hS => by go_simp⟩) hHeld ?_
          simp only [Act.put, List.getElem_toArray, List.getElem_cons_zero, List.getElem_cons_succ, List.setIfInBounds_toArray, List.set_cons_zero, List.set_cons_succ]
          refine wpAnyH_done (by kernel_rfl) ?_ _
          go_wp2_with fail
          exact ⟨⟨k + 1, by omega, by go_num, HSM, d0⟩, by simp [intOf]; omega⟩
        · have HF : Hid (r = false) := by
            show _ = _
            rw [HR.out, decide_eq_false]
            intro e
            apply hJK
            rw [HJ.out, HK.out, e]
          rw [decide_eq_false hJK] at hEq
          clear hJK
          go_wp2_with fail
          have d0 : Below w.heap.size w wr.drew := grow_trans hbw (Below.refl _ _).drew
          refine wp_region_held_drew (S := fun w' => w'.rangeAt gx (ox + k * 32) (B J).toList ∧ w'.rangeAt gy (oy + k * 32) (B K).toList) (by kernel_rfl) (HS.out _ d0) (fun hHeld => ?_)
          refine wpAnyH_take (i := 0) (v := .slice (some ⟨gx, ox, none⟩) n xc) rfl (by kernel_rfl) (by kernel_rfl) (by kernel_rfl) (fun _ _ _ h => h) (Or.inl ⟨by rfl, fun w hS => by go_simp⟩) hHeld ?_
          simp only [Act.put, List.getElem_toArray, List.getElem_cons_zero, List.setIfInBounds_toArray, List.set_cons_zero, List.set_cons_succ]
          refine wpAnyH_take (i := 1) (v := .int .i64 k) rfl (by kernel_rfl) (by kernel_rfl) (by kernel_rfl) (fun _ _ _ h => h) (Or.inl ⟨by rfl, fun w hS => by go_simp⟩) hHeld ?_
          simp only [Act.put, List.getElem_toArray, List.getElem_cons_zero, List.getElem_cons_succ, List.setIfInBounds_toArray, List.set_cons_zero, List.set_cons_succ]
          refine wpAnyH_take (i := 2) (v := .pointer (some ⟨gx, ox + k * 32, none⟩)) rfl (by kernel_rfl) (by kernel_rfl) (by kernel_rfl) (fun _ _ _ h => h) (Or.inl ⟨by rfl, fun w hS => by go_simp⟩) hHeld ?_
          simp only [Act.put, List.getElem_toArray, List.getElem_cons_zero, List.getElem_cons_succ, List.setIfInBounds_toArray, List.set_cons_zero, List.set_cons_succ]
          refine wpAnyH_take (i := 3) (v := .agg (B J)) rfl (by kernel_rfl) (by kernel_rfl) (by kernel_rfl) (fun _ _ _ h => h) (yieldsIf_load_mid rfl 26 (.tmp 19) rfl gx (ox + k * 32) rfl (B J).toList _ (fun w hS => hS.1) Tryd.underlying26 rfl HLJ.out) hHeld ?_
          simp only [Act.put, List.getElem_toArray, List.getElem_cons_zero, List.getElem_cons_succ, List.setIfInBounds_toArray, List.set_cons_zero, List.set_cons_succ]
          refine wpAnyH_take (i := 4) (v := .slice (some ⟨gy, oy, none⟩) n yc) rfl (by kernel_rfl) (by kernel_rfl) (by kernel_rfl) (fun _ _ _ h => h) (Or.inl ⟨by rfl, fun w hS => by go_simp⟩) hHeld ?_
          simp only [Act.put, List.getElem_toArray, List.getElem_cons_zero, List.getElem_cons_succ, List.setIfInBounds_toArray, List.set_cons_zero, List.set_cons_succ]
          refine wpAnyH_take (i := 5) (v := .int .i64 k) rfl (by kernel_rfl) (by kernel_rfl) (by kernel_rfl) (fun _ _ _ h => h) (Or.inl ⟨by rfl, fun w hS => by go_simp⟩) hHeld ?_
          simp only [Act.put, List.getElem_toArray, List.getElem_cons_zero, List.getElem_cons_succ, List.setIfInBounds_toArray, List.set_cons_zero, List.set_cons_succ]
          refine wpAnyH_take (i := 6) (v := .pointer (some ⟨gy, oy + k * 32, none⟩)) rfl (by kernel_rfl) (by kernel_rfl) (by kernel_rfl) (fun _ _ _ h => h) (Or.inl ⟨by rfl, fun w hS => by go_simp⟩) hHeld ?_
          simp only [Act.put, List.getElem_toArray, List.getElem_cons_zero, List.getElem_cons_succ, List.setIfInBounds_toArray, List.set_cons_zero, List.set_cons_succ]
          refine wpAnyH_take (i := 7) (v := .agg (B K)) rfl (by kernel_rfl) (by kernel_rfl) (by kernel_rfl) (fun _ _ _ h => h) (yieldsIf_load_mid rfl 26 (.tmp 23) rfl gy (oy + k * 32) rfl (B K).toList _ (fun w hS => hS.2) Tryd.underlying26 rfl HLK.out) hHeld ?_
          simp only [Act.put, List.getElem_toArray, List.getElem_cons_zero, List.getElem_cons_succ, List.setIfInBounds_toArray, List.set_cons_zero, List.set_cons_succ]
          refine wpAnyH_take (i := 8) (v := .bool true) rfl (by kernel_rfl) (by kernel_rfl) (by kernel_rfl) (fun _ _ _ h => h) (Or.inl ⟨by rfl, fun w hS => by go_simp⟩) hHeld ?_
          simp only [Act.put, List.getElem_toArray, List.getElem_cons_zero, List.getElem_cons_succ, List.setIfInBounds_toArray, List.set_cons_zero, List.set_cons_succ]
          refine wpAnyH_done (by kernel_rfl) ?_ _
          go_wp2_with fail
          go_ret
          exact ⟨by rw [HF.out]; rfl, d0⟩
      · have HT : Hid (r = true) := by
          show _ = _
          rw [HR.out, decide_eq_true]
          apply List.ext_getElem HLE.out
          intro i h1 h2
          have h3 := hsm.out i (by have := HN.out; omega)
          simpa [List.getD, h1, h2] using h3
        have z1 : ¬ (k : Int) < (n : Int) := by omega
        clear hsm
        go_wp2
        go_ret
        exact ⟨by rw [HT.out]; rfl, hbw⟩
  · have hd : decide (xs = ys) = false := decide_eq_false (fun e => hlen (by rw [e]))
    rw [hd]
    have h1 : ((xs.length : Int) != (ys.length : Int)) = true := by simp; omega
    have h2 : ((xs.length : Int) == (ys.length : Int)) = false := by simp; omega
    clear hxc hyc hxl hyl hlen hd
    go_enter Tryd.func34, Tryd.ntmps34
    go_wp2
    go_ret
    exact ⟨rfl, Below.refl _ _⟩

set_option maxHeartbeats 4000000 in
theorem sameProof_any (x y : Value) (xs ys : List (List Int)) (k k' : Int) (a b c d a' b' c' d' : List Int) (w : World) (hx : HsAt w x xs) (hy : HsAt w y ys) (hn : xs.length ≤ 140737488355328) (h : Nd k a b c d) (h' : Nd k' a' b' c' d') :
    Calls Tryd.prog 15 #[.agg (encR x (nd k a b c d)).toArray, .agg (encR y (nd k' a' b' c' d')).toArray] w fun e w' => e = .returned (.bool (decide (nd k a b c d = nd k' a' b' c' d') && decide (xs = ys))) ∧ Below w.heap.size w w' := by
  have HSm : Hid (∀ w', Below w.heap.size w w' → Calls Tryd.prog 34 #[x, y] w' fun e w'' => e = .returned (.bool (decide (xs = ys))) ∧ Below w'.heap.size w' w'') := fun w' hb => sameHashes_any x y xs ys w' (hx.grow hb) (hy.grow hb) hn
  have hEq := fun w => node_eq h h' w
  have HL1 := hidden h.length
  have HL2 := hidden h'.length
  obtain ⟨N, hN⟩ : ∃ N, N = nd k a b c d := ⟨_, rfl⟩
  obtain ⟨M, hM⟩ : ∃ M, M = nd k' a' b' c' d' := ⟨_, rfl⟩
  rw [← hN] at HL1 hEq ⊢
  rw [← hM] at HL2 hEq ⊢
  obtain ⟨p, hp⟩ : ∃ p, p = decide (N = M) := ⟨_, rfl⟩
  obtain ⟨q, hq⟩ : ∃ q, q = decide (xs = ys) := ⟨_, rfl⟩
  rw [← hp] at hEq ⊢
  rw [← hq] at HSm ⊢
  obtain ⟨xa, xc, rfl, _⟩ := hx
  obtain ⟨ya, yc, rfl, _⟩ := hy
  clear h h' hN hM hp hq hn
  cases p with
  | true =>
    go_enter Tryd.func15, Tryd.ntmps15
    go_wp2_with (first
      | ((with_reducible refine at_bxd 2 ?_); refine wpList_bx _ rfl _ _ rfl _ rfl ?_; intro w1 g1 hg1 hl1 B1 b1; have cx := proof_side B1)
      | ((with_reducible refine at_bxd 3 ?_); refine wpList_bx _ rfl _ _ rfl _ rfl ?_; intro w2 g2 hg2 hl2 B2 b2; have B1' := B1.grow b2; have c2 := grow_trans b1 b2; have cx2 := proof_side B1'; have cy := proof_side B2)
      | ((with_reducible refine at_ldd 6 5 ?_); refine wpList_lde _ rfl _ rfl g1 _ _ N rfl B1' HL1.out ?_)
      | ((with_reducible refine at_ldd 8 7 ?_); refine wpList_lde _ rfl _ rfl g2 _ _ M rfl B2 HL2.out ?_)
      | (go_at_call 34; refine (HSm.out _ c2).mono ?_; rintro e w3 ⟨rfl, b3⟩))
    go_ret
    exact ⟨by simp, grow_trans c2 b3⟩
  | false =>
    go_enter Tryd.func15, Tryd.ntmps15
    go_wp2_with (first
      | ((with_reducible refine at_bxd 2 ?_); refine wpList_bx _ rfl _ _ rfl _ rfl ?_; intro w1 g1 hg1 hl1 B1 b1; have cx := proof_side B1)
      | ((with_reducible refine at_bxd 3 ?_); refine wpList_bx _ rfl _ _ rfl _ rfl ?_; intro w2 g2 hg2 hl2 B2 b2; have B1' := B1.grow b2; have c2 := grow_trans b1 b2; have cx2 := proof_side B1'; have cy := proof_side B2)
      | ((with_reducible refine at_ldd 6 5 ?_); refine wpList_lde _ rfl _ rfl g1 _ _ N rfl B1' HL1.out ?_)
      | ((with_reducible refine at_ldd 8 7 ?_); refine wpList_lde _ rfl _ rfl g2 _ _ M rfl B2 HL2.out ?_))
    go_ret
    exact ⟨by simp, c2⟩

end Go.Proofs.YtaihiffdjgadeaaDoor

/- A region that draws its order, whose last operation (number L, for which all others are waited) may write what the loads ahead of it read: what is held (S) is asked for behind every operation but that one. -/
namespace Go.Proofs.YtaihiffdjgadeaaDoor
set_option maxRecDepth 20000
open Go Go.RowKit

section
variable {P : Program} {ops : Array Oper} {Q : Exit → Act → World → Prop} {md : Region.Mode} {S : World → Prop} {L : Nat}

/-- Whatever has come up, what it waits for has come up too. -/
def shutB (md : Region.Mode) (ops : Array Oper) (listed : Array Bool) : Bool :=
  (List.range ops.size).all fun c => !listed.getD c false || match ops[c]? with
    | none => true
    | some o => o.after.all fun e => !Region.binds md e || listed.getD e.on false
def ShutL (md : Region.Mode) (ops : Array Oper) (listed : Array Bool) : Prop := ∀ c o, ops[c]? = some o → listed.getD c false = true → ∀ e ∈ o.after, Region.binds md e = true → listed.getD e.on false = true
theorem shutL_of {listed : Array Bool} (h : shutB md ops listed = true) : ShutL md ops listed := by
  intro c o ho hl e he hb
  unfold shutB at h
  rw [List.all_eq_true] at h
  have h1 := h c (List.mem_range.2 (Array.getElem?_eq_some_iff.1 ho).1)
  simp only [hl, ho, Bool.not_true, Bool.false_or, Array.all_eq_true_iff_forall_mem] at h1
  have h2 := h1 e he
  simpa [hb] using h2
theorem ShutL.step {listed : Array Bool} {j : Nat} (h : ShutL md ops listed) (hj : j ∈ Region.ready md ops listed) : ShutL md ops (listed.setIfInBounds j true) := by
  intro c o ho hl e he hb
  by_cases hcj : j = c
  · subst hcj
    obtain ⟨_, o', ho', hall⟩ := mem_ready.1 hj
    rw [ho] at ho'
    obtain rfl := Option.some.inj ho'
    exact getD_set_true (hall e he hb)
  · rw [getD_set_ne false hcj] at hl
    exact getD_set_true (h c o ho hl e he hb)

/-- c waits for i, itself or by others. -/
def leads (md : Region.Mode) (ops : Array Oper) (i : Nat) : Nat → Nat → Bool
  | 0, _ => false
  | n + 1, c => match ops[c]? with
    | none => false
    | some o => o.after.any fun e => Region.binds md e && (e.on == i || leads md ops i n e.on)
theorem leads_on {listed : Array Bool} {i : Nat} (hs : ShutL md ops listed) (hi : listed.getD i false = false) : ∀ (n c : Nat), leads md ops i n c = true → ∀ o, ops[c]? = some o → (∀ e ∈ o.after, Region.binds md e = true → listed.getD e.on false = true) → False
  | 0, _, h, _, _, _ => by simp [leads] at h
  | n + 1, c, h, o, ho, hall => by
    unfold leads at h
    rw [ho] at h
    obtain ⟨e, he, hb⟩ := Array.any_eq_true'.1 h
    simp only [Bool.and_eq_true, Bool.or_eq_true, beq_iff_eq] at hb
    have h1 := hall e he hb.1
    rcases hb.2 with q | q
    · rw [q, hi] at h1
      cases h1
    · cases ho2 : ops[e.on]? with
      | none =>
        cases n with
        | zero => simp [leads] at q
        | succ n => unfold leads at q; rw [ho2] at q; cases q
      | some o2 => exact leads_on hs hi n e.on q o2 ho2 (hs e.on o2 ho2 h1)

/-- Whatever order is picked from here on, and S holds behind every operation but the last. -/
def wpAnyL (P : Program) (md : Region.Mode) (ops : Array Oper) (Q : Exit → Act → World → Prop) (S : World → Prop) (L : Nat) : Nat → Array Bool → Act → World → Prop
  | 0, listed, a, w => Region.ready md ops listed = [] ∧ Q .normal a w
  | fuel + 1, listed, a, w =>
    (Region.ready md ops listed = [] → Q .normal a w) ∧
    ∀ i ∈ Region.ready md ops listed, wpOp P ops Q i (fun a' w' => (i = L ∨ S w') ∧ wpAnyL P md ops Q S L fuel (listed.setIfInBounds i true) a' w') a w

theorem wpAny_of_last : ∀ (fuel : Nat) (listed : Array Bool) (a : Act) (w : World), wpAnyL P md ops Q S L fuel listed a w → wpAny P md ops Q fuel listed a w
  | 0, _, _, _, h => h
  | fuel + 1, _, _, _, h => ⟨h.1, fun i hi => wpOp_mono (fun a' w' h' => wpAny_of_last fuel _ a' w' h'.2) (h.2 i hi)⟩

theorem wpAnyL_first {i n : Nat} {oi : Oper} {v : Value} (hi : ops[i]? = some oi) (hsel : ∀ (j : Nat) (o : Oper) cs b, ops[j]? = some o → o.op ≠ .select cs b)
    (hQ : ∀ c a w, Q (.panic c) (a.put oi.dst v) w → Q (.panic c) a w) (hld : leads md ops i n L = true) :
    ∀ (fuel : Nat) (listed : Array Bool) (a : Act) (w : World), ShutL md ops listed →
      (∀ j oj, ops[j]? = some oj → j ≠ i → listed.getD j true = false → (∀ e ∈ oj.after, Region.binds md e = true → e.on ≠ i) → oi.apart ops oj = true) →
      i ∈ Region.ready md ops listed → YieldsIf P ops S oi v a → S w →
      wpAnyL P md ops Q S L fuel (listed.setIfInBounds i true) (a.put oi.dst v) w → wpAnyL P md ops Q S L (fuel + 1) listed a w := by
  intro fuel
  induction fuel with
  | zero =>
    intro listed a w _ _ hr hy hS H
    refine ⟨fun h => (by rw [h] at hr; cases hr), fun j hj => ?_⟩
    by_cases hji : j = i
    · subst hji; exact hy.wpOp hi hS ⟨.inr hS, H⟩
    · have := ready_mono hj hji
      rw [H.1] at this
      cases this
  | succ fuel ih =>
    intro listed a w hsh hfree hr hy hS H
    refine ⟨fun h => (by rw [h] at hr; cases hr), fun j hj => ?_⟩
    by_cases hji : j = i
    · subst hji; exact hy.wpOp hi hS ⟨.inr hS, H⟩
    · have h1 := H.2 j (ready_mono hj hji)
      obtain ⟨hjun, oj, hoj, hall⟩ := mem_ready.1 hj
      have hi0 : listed.getD i false = false := by
        have h0 := (mem_ready.1 hr).1
        rcases Nat.lt_or_ge i listed.size with h' | h'
        · simpa [h'] using h0
        · simp [Array.getElem?_eq_none h']
      have hjL : j ≠ L := fun e => by
        subst e
        exact leads_on hsh hi0 n j hld oj hoj hall
      have hnot : ∀ e ∈ oj.after, Region.binds md e = true → e.on ≠ i := fun e he hb heq => by
        have h1 := hall e he hb
        rw [heq, hi0] at h1
        cases h1
      have h2 := wpOp_putIf hoj (hfree j oj hoj hji hjun hnot) (fun cs b => hsel i oi cs b hi) (fun cs b => hsel j oj cs b hoj) hQ hy h1
      have hfree' : ∀ k ok, ops[k]? = some ok → k ≠ i → (listed.setIfInBounds j true).getD k true = false →
          (∀ e ∈ ok.after, Region.binds md e = true → e.on ≠ i) → oi.apart ops ok = true := fun k ok hk hki hun hno => by
        refine hfree k ok hk hki ?_ hno
        by_cases hjk : j = k
        · subst hjk; exact hjun
        · rw [getD_set_ne true hjk] at hun; exact hun
      refine wpOp_mono (fun a' w' h3 => ⟨h3.2.1, ih (listed.setIfInBounds j true) a' w' (hsh.step hj) hfree' (ready_mono hr (Ne.symm hji)) h3.1 (h3.2.1.resolve_left hjL) ?_⟩) h2
      rw [Array.setIfInBounds_comm _ _ hji]
      exact h3.2.2

theorem wpAnyL_take {i : Nat} {oi : Oper} {v : Value} {fuel : Nat} {listed : Array Bool} {a : Act} {w : World} (hi : ops[i]? = some oi)
    (hs : Region.noSelect ops = true) (hf : Region.free md ops listed i = true) (hr : (Region.ready md ops listed).contains i = true) (hld : leads md ops i 40 L = true) (hsh : shutB md ops listed = true)
    (hQ : ∀ c a w, Q (.panic c) (a.put oi.dst v) w → Q (.panic c) a w) (hy : YieldsIf P ops S oi v a) (hS : S w)
    (h : wpAnyL P md ops Q S L fuel (listed.setIfInBounds i true) (a.put oi.dst v) w) : wpAnyL P md ops Q S L (fuel + 1) listed a w :=
  wpAnyL_first hi (Region.noSelect_spec hs) hQ hld fuel listed a w (shutL_of hsh) (Region.free_spec hi hf) (by simpa using hr) hy hS h

/-- A pure operation is taken (short words). -/
theorem tlp (i : Nat) (v : Value) {oi : Oper} {fuel : Nat} {listed : Array Bool} {a : Act} {w : World} (hS : S w) (h : wpAnyL P md ops Q S L fuel (listed.setIfInBounds i true) (a.put oi.dst v) w)
    (hi : ops[i]? = some oi := by rfl) (hs : Region.noSelect ops = true := by kernel_rfl) (hf : Region.free md ops listed i = true := by kernel_rfl) (hr : (Region.ready md ops listed).contains i = true := by kernel_rfl) (hld : leads md ops i 40 L = true := by kernel_rfl) (hsh : shutB md ops listed = true := by kernel_rfl)
    (hQ : ∀ c a w, Q (.panic c) (a.put oi.dst v) w → Q (.panic c) a w := by exact fun _ _ _ h => h) (hy : YieldsIf P ops S oi v a := by exact Or.inl ⟨by rfl, fun w hS => by go_simp⟩) : wpAnyL P md ops Q S L (fuel + 1) listed a w := wpAnyL_take hi hs hf hr hld hsh hQ hy hS h
/-- Any other is taken (short words). -/
theorem tlg (i : Nat) (v : Value) {oi : Oper} {fuel : Nat} {listed : Array Bool} {a : Act} {w : World} (hi : ops[i]? = some oi) (hy : YieldsIf P ops S oi v a) (hS : S w) (h : wpAnyL P md ops Q S L fuel (listed.setIfInBounds i true) (a.put oi.dst v) w)
    (hs : Region.noSelect ops = true := by kernel_rfl) (hf : Region.free md ops listed i = true := by kernel_rfl) (hr : (Region.ready md ops listed).contains i = true := by kernel_rfl) (hld : leads md ops i 40 L = true := by kernel_rfl) (hsh : shutB md ops listed = true := by kernel_rfl)
    (hQ : ∀ c a w, Q (.panic c) (a.put oi.dst v) w → Q (.panic c) a w := by exact fun _ _ _ h => h) : wpAnyL P md ops Q S L (fuel + 1) listed a w := wpAnyL_take hi hs hf hr hld hsh hQ hy hS h

def AllReadyL (P : Program) (md : Region.Mode) (ops : Array Oper) (Q : Exit → Act → World → Prop) (S : World → Prop) (L : Nat) (fuel : Nat) (listed : Array Bool) (a : Act) (w : World) (rs : List Nat) : Prop :=
  ∀ i ∈ rs, wpOp P ops Q i (fun a' w' => (i = L ∨ S w') ∧ wpAnyL P md ops Q S L fuel (listed.setIfInBounds i true) a' w') a w
theorem AllReadyL.nil {fuel : Nat} {listed : Array Bool} {a : Act} {w : World} : AllReadyL P md ops Q S L fuel listed a w [] := fun _ h => by cases h
theorem AllReadyL.cons {fuel : Nat} {listed : Array Bool} {a : Act} {w : World} {i : Nat} {o : Oper} {rs : List Nat} (ho : ops[i]? = some o)
    (h : ∀ K' : Act → World → Prop, Shut (∀ a w, (i = L ∨ S w) → (S w → wpAnyL P md ops Q S L fuel (listed.setIfInBounds i true) a w) → (i = L → wpAnyL P md ops Q S L fuel (listed.setIfInBounds i true) a w) → K' a w) → if Region.wanted o (yielded ops a.tmps) = true then Oper.wp P o a w K' Q else K' (a.put o.dst undef) w)
    (hs : AllReadyL P md ops Q S L fuel listed a w rs) : AllReadyL P md ops Q S L fuel listed a w (i :: rs) := fun j hj => by
  rcases List.mem_cons.1 hj with rfl | hj
  · exact wpOp_step ho (fun K' hK => h K' (fun a w hS hW hL => hK a w ⟨hS, hS.elim hL hW⟩))
  · exact hs j hj

theorem wpAnyL_ready {rs : List Nat} {fuel : Nat} {listed : Array Bool} {a : Act} {w : World} (hr : Region.ready md ops listed = rs) (hne : rs ≠ [])
    (h : AllReadyL P md ops Q S L fuel listed a w rs) : wpAnyL P md ops Q S L (fuel + 1) listed a w := ⟨fun h0 => absurd (hr ▸ h0) hne, hr ▸ h⟩

/-- One that is not the last: S is shown behind it. -/
theorem wpAnyL_one {fuel : Nat} {listed : Array Bool} {a : Act} {w : World} {i : Nat} {o : Oper} (ho : ops[i]? = some o) (hr : Region.ready md ops listed = [i])
    (h : ∀ K' : Act → World → Prop, Shut (∀ a w, S w → (S w → wpAnyL P md ops Q S L fuel (listed.setIfInBounds i true) a w) → K' a w) → if Region.wanted o (yielded ops a.tmps) = true then Oper.wp P o a w K' Q else K' (a.put o.dst undef) w) :
    wpAnyL P md ops Q S L (fuel + 1) listed a w :=
  wpAnyL_ready hr (by simp) (AllReadyL.cons ho (fun K' hK => h K' (fun a w hS hW => hK.out a w (.inr hS) hW (fun _ => hW hS))) AllReadyL.nil)

/-- The last one. -/
theorem wpAnyL_last {fuel : Nat} {listed : Array Bool} {a : Act} {w : World} {o : Oper} (ho : ops[L]? = some o) (hr : Region.ready md ops listed = [L]) (he : Region.ready md ops (listed.setIfInBounds L true) = [])
    (h : ∀ K' : Act → World → Prop, Shut (∀ a w, Q .normal a w → K' a w) → if Region.wanted o (yielded ops a.tmps) = true then Oper.wp P o a w K' Q else K' (a.put o.dst undef) w) :
    wpAnyL P md ops Q S L (fuel + 1) listed a w :=
  wpAnyL_ready hr (by simp) (AllReadyL.cons ho (fun K' hK => h K' (fun a w hQ => by
    have hd : wpAnyL P md ops Q S L fuel (listed.setIfInBounds L true) a w := by
      cases fuel with
      | zero => exact ⟨he, hQ⟩
      | succ n => exact ⟨fun _ => hQ, by rw [he]; simp⟩
    exact hK.out a w (.inl rfl) (fun _ => hd) (fun _ => hd))) AllReadyL.nil)

theorem wp_region_last {id : Nat} {a : Act} {w : World} (L : Nat) (hm : P.follows .mixedOrders = true) (hS : S w.drew)
    (h : S w.drew → wpAnyL P .any ops Q S L ops.size (Array.replicate ops.size false) a w.drew) : (Code.region id ops true).wp P Q a w :=
  wp_region_any hm (wpAny_of_last _ _ _ _ (h hS))

end
end Go.Proofs.YtaihiffdjgadeaaDoor

/- Proofs in memory: laws for their loads, stores and literals; node.join, as a contract. -/
namespace Go.Proofs.YtaihiffdjgadeaaDoor
set_option maxRecDepth 20000
open Go.RowKit

theorem hash_sz (D : List Int) (h : D.length = 32) : (Tryd.prog.info? 26).map (·.size) = some (B D).size ∧ (B (List.replicate 32 0)).size = (B D).size := ⟨by rw [B_size, h]; exact sz_hash, by rw [B_size, B_size, h]; rfl⟩
theorem hash_ln (D : List Int) (h : D.length = 32) : (Tryd.prog.info? 26).map (·.size) = some (B D).toList.length := by rw [B_toList, List.length_map, h]; exact sz_hash
theorem path_ln (D : List Int) (h : D.length = 32) : (Tryd.prog.info? 25).map (·.size) = some (B D).toList.length := by rw [B_toList, List.length_map, h]; exact sz_path

theorem zero_proof : ∀ w, (zeroValue 30).run Tryd.prog w = .ok (.agg (encR (.slice none 0 0) (List.replicate 129 0)).toArray) w := zero_of_info (n := 130) (by kernel_rfl) |>.1

theorem built_proof0 : Tryd.prog.built 30 [] = some (encR (.slice none 0 0) (nd 0 z32 z32 z32 z32)).toArray := by kernel_rfl

def pfPlaces : Nat → Option (Nat × Nat) := fun i => (#[(0, 1), (1, 129)] : Array (Nat × Nat))[i]?

theorem built_pfEq (ps : List (Nat × Value)) : Tryd.prog.built 30 ps = Instr.fill pfPlaces (encR (.slice none 0 0) (List.replicate 129 0)).toArray ps := by kernel_rfl

theorem built_proof (a : Option Addr) (n c : Nat) (z : List Int) (hz : z.length = 129) : Tryd.prog.built 30 [(0, .slice a n c), (1, .agg (B z))] = some (encR (.slice a n c) z).toArray := by
  rw [built_pfEq]
  rw [fill_one pfPlaces 0 0 1 (.slice a n c) [.slice a n c] (encR (.slice none 0 0) (List.replicate 129 0)) _ rfl rfl rfl (by simp [encR])]
  rw [fill_one pfPlaces 1 1 129 (.agg (B z)) (z.map (Value.int .u8)) _ _ rfl (cells_b z) (by simp [hz]) (by simp [encR])]
  simp [encR, Instr.fill]

theorem encR_one (a : Option Addr) (n c : Nat) (z : List Int) : (encR (.slice a n c) z).toArray.all (·.oneCell') = true := Array.all_eq_true_iff_forall_mem.2 (fun v hv => by
  simp only [encR, List.mem_toArray, List.mem_cons, List.mem_map] at hv
  rcases hv with rfl | ⟨z, _, rfl⟩ <;> rfl)

theorem encR_sz (s : Value) (z : List Int) (hz : z.length = 129) : (Tryd.prog.info? 30).map (·.size) = some (encR s z).toArray.size := by rw [List.size_toArray, encR_length s z hz]; exact size_proof

/-- Another list of sides. -/
theorem blk_side {w : World} {g : Nat} {t : TypeId} {s : Value} {z : List Int} (h : Blk w g t (encR s z).toArray) (s' : Value) : Blk (w.setCell ⟨g, 0, none⟩ s') g t (encR s' z).toArray := by
  have := h.set 0 s'
  simpa [encR] using this
/-- Another end. -/
theorem blk_end {w : World} {g : Nat} {t : TypeId} {s : Value} {z : List Int} (h : Blk w g t (encR s z).toArray) (z' : List Int) (hz : z.length = 129) (hz' : z'.length = 129) : Blk (w.setCells g 1 (z'.map (Value.int .u8))) g t (encR s z').toArray := by
  have h1 := Blk.cells (z'.map (Value.int .u8)) 1 h (by simp [encR, hz, hz'])
  have e : ((encR s z).toArray.toList.take 1 ++ (z'.map (Value.int .u8) ++ (encR s z).toArray.toList.drop (1 + (z'.map (Value.int .u8)).length))).toArray = (encR s z').toArray := by
    simp [encR, hz, hz']
  rw [e] at h1
  exact h1
theorem proof_kind {w : World} {g : Nat} {t : TypeId} {s : Value} {k : Int} {a b c d : List Int} (h : Blk w g t (encR s (nd k a b c d)).toArray) : w.cell? ⟨g, 1, none⟩ = some (.int .u8 k) := by
  rw [h.cell]
  simp [encR, nd]

/-- The digest of an inner node, mine on the side of bit. -/
def jnD (bit : Int) (x y : List Int) : List Int := if bit = 1 then inD y x else inD x y
theorem jnD_length (bit : Int) (x y : List Int) : (jnD bit x y).length = 32 := by unfold jnD; split <;> exact dig_length _
theorem jnD_bytes (bit : Int) (x y : List Int) : Bytes (jnD bit x y) := by unfold jnD; split <;> exact dig_bytes _

end Go.Proofs.YtaihiffdjgadeaaDoor
