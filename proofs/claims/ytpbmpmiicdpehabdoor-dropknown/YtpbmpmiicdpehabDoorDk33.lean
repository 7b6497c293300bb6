/- The law's filled, as a contract; slices of entries without values, as literals. -/
import Derived.Test.YtpbmpmiicdpehabDoorDk32
import Derived.Deep.CutRange
namespace Go.Proofs.YtpbmpmiicdpehabDoor
set_option maxRecDepth 20000
open Go.RowKit

/-- The number of nodes is at most 257 for each entry. -/
theorem nN_le : ∀ (n d : Nat) (l : List Ent), nN n d l ≤ l.length * (n + 1)
  | 0, _, l => by simp [nN]
  | n + 1, d, l => by
    rw [nN]
    split
    · have : l.length * 1 ≤ l.length * (n + 1 + 1) := Nat.mul_le_mul_left _ (by omega)
      omega
    · next h =>
      have a := nN_le n (d + 1) (sideOf l d 0)
      have b := nN_le n (d + 1) (sideOf l d 1)
      have c : (sideOf l d 0).length + (sideOf l d 1).length ≤ l.length := by
        unfold sideOf
        clear a b h
        induction l with
        | nil => simp
        | cons e r ih =>
          simp only [List.filter_cons, beq_iff_eq, List.length_cons]
          by_cases h0 : kbi e.1 d = 0
          · rw [if_pos h0, if_neg (by omega)]
            simp only [List.length_cons]
            omega
          · rw [if_neg h0]
            split
            · simp only [List.length_cons]
              omega
            · omega
      have d1 : (sideOf l d 0).length * (n + 1) + (sideOf l d 1).length * (n + 1) ≤ l.length * (n + 1) := by
        rw [← Nat.add_mul]
        exact Nat.mul_le_mul_right _ c
      have d2 : l.length * (n + 1 + 1) = l.length * (n + 1) + l.length := by rw [Nat.mul_add, Nat.mul_one]
      omega

theorem up_snoc {es : List Ent} (hap : es.Pairwise fun a b => a.1 ≠ b.1) {k : Nat} (hk : k < es.length) : (upE (es.take k) (es.getD k e00).1 (es.getD k e00).2).Perm (es.take (k + 1)) := by
  have hg : es.getD k e00 = es[k] := by simp [List.getD, hk]
  rw [hg, List.take_succ_eq_append_getElem hk]
  unfold upE
  have : (es.take k).filter (fun e : Ent => !(e.1 == es[k].1)) = es.take k := List.filter_eq_self.2 (fun e he => by
    obtain ⟨j, hj, rfl⟩ := List.getElem_of_mem he
    have hj2 : j < k := by rw [List.length_take] at hj; omega
    have := List.pairwise_iff_getElem.1 hap j k (by omega) hk hj2
    rw [List.getElem_take]
    simpa using this)
  rw [this]
  exact (List.perm_append_comm (l₁ := es.take k) (l₂ := [es[k]])).symm

/-- What filled answers. -/
def FlPost (es : List Ent) (w : World) (e : Ending) (w' : World) : Prop :=
  ∃ (g gs root : Nat), e = .returned (.tuple #[.pointer (some ⟨g, 0, none⟩), .int .i64 (root : Int), .bool true]) ∧ Dk w w' g gs 10320 es root

set_option maxHeartbeats 4000000 in
theorem filled_any {w : World} {v : Value} {V : Nat → Value} {es : List Ent} (hv : PrAt w v V es) (hn : es.length ≤ 14) (hl : ∀ e ∈ es, e.2.length ≤ 1024) (hap : es.Pairwise fun a b => a.1 ≠ b.1) (hL : ∀ w', Below w.heap.size w w' → Laid w') : Calls Tryd.prog 9 #[v] w (FlPost es w) := by
  have HVG : Hid (∀ w', Below w.heap.size w w' → PrAt w' v V es) := fun w' hb => hv.grow hb
  obtain ⟨a, cap, rfl, hcap, hc, hr⟩ := hv
  have HNW := hidden (dk_new 10320 w (by omega) (by omega))
  have HIT : Hid (∀ k, k < es.length → ∃ pb off K bs ua ul uc, a = some ⟨pb, off, none⟩ ∧ es.getD k e00 = (K, bs) ∧ Key K ∧ bs.length ≤ 1024 ∧ (∀ w', Below w.heap.size w w' → w'.rangeAt pb (off + k * 33) (encP K (.slice ua ul uc))) ∧ ∀ w', Below w.heap.size w w' → Reads w' (.slice ua ul uc) bs) := fun k hk => by
    obtain ⟨g, off, e1, h1⟩ := hc (by omega)
    obtain ⟨k1, k2⟩ := hr k hk
    have hk2 := k2
    obtain ⟨va, vc, e2, _⟩ := hk2
    have hm : es.getD k e00 ∈ es := by
      have : es.getD k e00 = es[k] := by simp [List.getD, hk]
      rw [this]
      exact List.getElem_mem hk
    have h3 := h1 k hk
    rw [e2] at h3 k2
    exact ⟨g, off, _, _, va, _, vc, e1, rfl, k1, hl _ hm, fun w' hb => rng_grow h3 hb, fun w' hb => k2.grow hb⟩
  have HPT : Hid (∀ w' g gs k (root : Nat) K bs u, k < es.length → Dk w w' g gs 10320 (es.take k) root → es.getD k e00 = (K, bs) → Key K → bs.length ≤ 1024 → (∀ w', Below w.heap.size w w' → Reads w' u bs) → Calls Tryd.prog 6 #[.pointer (some ⟨g, 0, none⟩), .int .i64 (root : Int), .agg (B K), u] w' fun e w'' => ∃ (ty : Int) (tn : Nat), e = .returned (.tuple #[.int .i64 ty, .int .i64 0]) ∧ ty = (tn : Int) ∧ Dk w w'' g gs 10320 (es.take (k + 1)) tn) := fun w' g gs k root K bs u hk hd he hK hb hu => by
    have hq := nN_le 256 0 (es.take k)
    have hq2 : (es.take k).length * (256 + 1) ≤ 14 * 257 := Nat.mul_le_mul_right _ (by rw [List.length_take]; omega)
    refine (dk_put hd hK hu hL hb (by omega)).mono ?_
    rintro e w'' ⟨top, rfl, hd2, _⟩
    have hp := up_snoc hap hk
    rw [he] at hp
    exact ⟨_, top, rfl, rfl, hd2.perm hp⟩
  have HPost : Hid (∀ w' (g gs root : Nat), Dk w w' g gs 10320 (es.take es.length) root → FlPost es w (.returned (.tuple #[.pointer (some ⟨g, 0, none⟩), .int .i64 (root : Int), .bool true])) w') := fun w' g gs root h => by
    rw [List.take_length] at h
    exact ⟨g, gs, root, rfl, h⟩
  generalize FlPost es w = P at HPost ⊢
  generalize es.length = n at hn HIT HPT HPost ⊢
  clear hl hap hc hr hcap hL HVG
  go_enter Tryd.func9, Tryd.ntmps9
  go_wp2_with (first
    | (go_at_call 4; refine HNW.out.mono ?_; rintro e w1 ⟨g, gs, rfl, h1⟩; have HT0 : Hid (Dk w w1 g gs 10320 (es.take 0) 0) := h1; clear h1))
  clear HNW
  go_loopw [6, 7, 8] (fun ev rv iv wr => ∃ (k root : Nat), k ≤ n ∧ ev = .int .i64 0 ∧ rv = .int .i64 (root : Int) ∧ iv = .int .i64 (k : Int) ∧ Hid (Dk w wr g gs 10320 (es.take k) root)) (fun _ _ iv _ => n - (intOf iv).toNat)
  case atStart => exact ⟨0, 0, by omega, rfl, rfl, rfl, HT0.out⟩
  case round =>
    clear HT0
    obtain ⟨k, root, hk, rfl, rfl, rfl, HT⟩ := hrel
    by_cases hlt : k < n
    · obtain ⟨pb, off, K, bs, ua, ul, uc, rfl, hit, hKey, hlen, hrg, hrd⟩ := HIT.out k hlt
      have HKL := hidden hKey.1
      have HPL := hidden (pth_ln K hKey.1)
      have HRG := hidden hrg
      have k0 : (0 : Int) ≤ (k : Int) := by omega
      have k1 : (k : Int) < (n : Int) := by omega
      have hk16 : k < 16 := by omega
      have hwk : wrap64 ((k : Int) + 1) = ((k + 1 : Nat) : Int) := by rw [Go.IntWalk.wrap64_in _ (by omega)]; rfl
      replace HPT : Hid (∀ w', Dk w w' g gs 10320 (es.take k) root → Calls Tryd.prog 6 #[.pointer (some ⟨g, 0, none⟩), .int .i64 (root : Int), .agg (B K), .slice ua ul uc] w' fun e w'' => ∃ (ty : Int) (tn : Nat), e = .returned (.tuple #[.int .i64 ty, .int .i64 0]) ∧ ty = (tn : Int) ∧ Dk w w'' g gs 10320 (es.take (k + 1)) tn) := fun w' h => HPT.out w' g gs k root K bs _ hlt h hit hKey hlen hrd
      generalize (root : Int) = ry at HPT ⊢
      clear hit hKey hlen hrg hrd hk HIT
      go_wp2_with fail
      refine wp_region_held_drew (S := fun w' => w'.rangeAt pb (off + k * 33) (encP K (.slice ua ul uc))) (by kernel_rfl) (HRG.out _ (grow_trans HT.out.low (below_drewN (Below.refl _ _) 1))) (fun hHeld => ?_)
      refine wpAnyH_take (i := 0) (v := .pointer (some ⟨g, 0, none⟩)) rfl (by kernel_rfl) (by kernel_rfl) (by kernel_rfl) (fun _ _ _ h => h) (Or.inl ⟨by rfl, fun w hS => by go_simp⟩) hHeld ?_
      simp only [Act.put, List.getElem_toArray, List.getElem_cons_zero, List.setIfInBounds_toArray, List.set_cons_zero, List.set_cons_succ]
      refine wpAnyH_take (i := 1) (v := .int .i64 ry) rfl (by kernel_rfl) (by kernel_rfl) (by kernel_rfl) (fun _ _ _ h => h) (Or.inl ⟨by rfl, fun w hS => by go_simp⟩) hHeld ?_
      simp only [Act.put, List.getElem_toArray, List.getElem_cons_zero, List.getElem_cons_succ, List.setIfInBounds_toArray, List.set_cons_zero, List.set_cons_succ]
      refine wpAnyH_take (i := 2) (v := .slice (some ⟨pb, off, none⟩) n cap) rfl (by kernel_rfl) (by kernel_rfl) (by kernel_rfl) (fun _ _ _ h => h) (Or.inl ⟨by rfl, fun w hS => by go_simp⟩) hHeld ?_
      simp only [Act.put, List.getElem_toArray, List.getElem_cons_zero, List.getElem_cons_succ, List.setIfInBounds_toArray, List.set_cons_zero, List.set_cons_succ]
      refine wpAnyH_take (i := 3) (v := .int .i64 (k : Int)) rfl (by kernel_rfl) (by kernel_rfl) (by kernel_rfl) (fun _ _ _ h => h) (Or.inl ⟨by rfl, fun w hS => by go_simp⟩) hHeld ?_
      simp only [Act.put, List.getElem_toArray, List.getElem_cons_zero, List.getElem_cons_succ, List.setIfInBounds_toArray, List.set_cons_zero, List.set_cons_succ]
      refine wpAnyH_take (i := 4) (v := .pointer (some ⟨pb, off + k * 33, none⟩)) rfl (by kernel_rfl) (by kernel_rfl) (by kernel_rfl) (fun _ _ _ h => h) (Or.inl ⟨by rfl, fun w hS => by go_simp⟩) hHeld ?_
      simp only [Act.put, List.getElem_toArray, List.getElem_cons_zero, List.getElem_cons_succ, List.setIfInBounds_toArray, List.set_cons_zero, List.set_cons_succ]
      refine wpAnyH_take (i := 5) (v := .pointer (some ⟨pb, off + k * 33, none⟩)) rfl (by kernel_rfl) (by kernel_rfl) (by kernel_rfl) (fun _ _ _ h => h) (Or.inl ⟨by rfl, fun w hS => by go_simp⟩) hHeld ?_
      simp only [Act.put, List.getElem_toArray, List.getElem_cons_zero, List.getElem_cons_succ, List.setIfInBounds_toArray, List.set_cons_zero, List.set_cons_succ]
      refine wpAnyH_take (i := 6) (v := .agg (B K)) rfl (by kernel_rfl) (by kernel_rfl) (by kernel_rfl) (fun _ _ _ h => h) (yieldsIf_load_mid rfl 23 (.tmp 29) rfl pb (off + k * 33) rfl (B K).toList _ (fun w hS => rng_key hS) Tryd.underlying23 rfl HPL.out) hHeld ?_
      simp only [Act.put, List.getElem_toArray, List.getElem_cons_zero, List.getElem_cons_succ, List.setIfInBounds_toArray, List.set_cons_zero, List.set_cons_succ]
      refine wpAnyH_take (i := 7) (v := .slice (some ⟨pb, off, none⟩) n cap) rfl (by kernel_rfl) (by kernel_rfl) (by kernel_rfl) (fun _ _ _ h => h) (Or.inl ⟨by rfl, fun w hS => by go_simp⟩) hHeld ?_
      simp only [Act.put, List.getElem_toArray, List.getElem_cons_zero, List.getElem_cons_succ, List.setIfInBounds_toArray, List.set_cons_zero, List.set_cons_succ]
      refine wpAnyH_take (i := 8) (v := .int .i64 (k : Int)) rfl (by kernel_rfl) (by kernel_rfl) (by kernel_rfl) (fun _ _ _ h => h) (Or.inl ⟨by rfl, fun w hS => by go_simp⟩) hHeld ?_
      simp only [Act.put, List.getElem_toArray, List.getElem_cons_zero, List.getElem_cons_succ, List.setIfInBounds_toArray, List.set_cons_zero, List.set_cons_succ]
      refine wpAnyH_take (i := 9) (v := .pointer (some ⟨pb, off + k * 33, none⟩)) rfl (by kernel_rfl) (by kernel_rfl) (by kernel_rfl) (fun _ _ _ h => h) (Or.inl ⟨by rfl, fun w hS => by go_simp⟩) hHeld ?_
      simp only [Act.put, List.getElem_toArray, List.getElem_cons_zero, List.getElem_cons_succ, List.setIfInBounds_toArray, List.set_cons_zero, List.set_cons_succ]
      refine wpAnyH_take (i := 10) (v := .pointer (some ⟨pb, off + k * 33 + 32, none⟩)) rfl (by kernel_rfl) (by kernel_rfl) (by kernel_rfl) (fun _ _ _ h => h) (Or.inl ⟨by rfl, fun w hS => by go_simp⟩) hHeld ?_
      simp only [Act.put, List.getElem_toArray, List.getElem_cons_zero, List.getElem_cons_succ, List.setIfInBounds_toArray, List.set_cons_zero, List.set_cons_succ]
      refine wpAnyH_take (i := 11) (v := .slice ua ul uc) rfl (by kernel_rfl) (by kernel_rfl) (by kernel_rfl) (fun _ _ _ h => h) (Or.inl ⟨by rfl, fun w hS => by (have q1 := rng_val hS HKL.out; go_simp)⟩) hHeld ?_
      simp only [Act.put, List.getElem_toArray, List.getElem_cons_zero, List.getElem_cons_succ, List.setIfInBounds_toArray, List.set_cons_zero, List.set_cons_succ]
      refine wpAnyH_ready (rs := [12]) (by kernel_rfl) (by simp) ?_
      refine AllReadyH.cons rfl (fun KQ hK => ?_) AllReadyH.nil
      go_simp
      refine (HPT.out _ (HT.out.grow (below_drewN (Below.refl _ _) 1))).mono ?_
      rintro e z1 ⟨ty, tn, rfl, hty, hA⟩
      have HTY := hidden hty
      have HA := hidden hA
      clear hty hA
      refine hK.out _ _ (HRG.out _ HA.out.low) (fun hHeld => ?_)
      clear hK KQ
      refine wpAnyH_take (i := 13) (v := .tuple #[.int .i64 ty, .int .i64 0]) rfl (by kernel_rfl) (by kernel_rfl) (by kernel_rfl) (fun _ _ _ h => h) (Or.inl ⟨by rfl, fun w hS => by go_simp⟩) hHeld ?_
      simp only [Act.put, List.getElem_toArray, List.getElem_cons_zero, List.getElem_cons_succ, List.setIfInBounds_toArray, List.set_cons_zero, List.set_cons_succ]
      refine wpAnyH_take (i := 14) (v := .int .i64 ty) rfl (by kernel_rfl) (by kernel_rfl) (by kernel_rfl) (fun _ _ _ h => h) (Or.inl ⟨by rfl, fun w hS => by go_simp⟩) hHeld ?_
      simp only [Act.put, List.getElem_toArray, List.getElem_cons_zero, List.getElem_cons_succ, List.setIfInBounds_toArray, List.set_cons_zero, List.set_cons_succ]
      refine wpAnyH_take (i := 15) (v := .int .i64 0) rfl (by kernel_rfl) (by kernel_rfl) (by kernel_rfl) (fun _ _ _ h => h) (Or.inl ⟨by rfl, fun w hS => by go_simp⟩) hHeld ?_
      simp only [Act.put, List.getElem_toArray, List.getElem_cons_zero, List.getElem_cons_succ, List.setIfInBounds_toArray, List.set_cons_zero, List.set_cons_succ]
      refine wpAnyH_take (i := 16) (v := .int .i64 ty) rfl (by kernel_rfl) (by kernel_rfl) (by kernel_rfl) (fun _ _ _ h => h) (Or.inl ⟨by rfl, fun w hS => by go_simp⟩) hHeld ?_
      simp only [Act.put, List.getElem_toArray, List.getElem_cons_zero, List.getElem_cons_succ, List.setIfInBounds_toArray, List.set_cons_zero, List.set_cons_succ]
      refine wpAnyH_take (i := 17) (v := .int .i64 0) rfl (by kernel_rfl) (by kernel_rfl) (by kernel_rfl) (fun _ _ _ h => h) (Or.inl ⟨by rfl, fun w hS => by go_simp⟩) hHeld ?_
      simp only [Act.put, List.getElem_toArray, List.getElem_cons_zero, List.getElem_cons_succ, List.setIfInBounds_toArray, List.set_cons_zero, List.set_cons_succ]
      refine wpAnyH_done (by kernel_rfl) ?_ _
      clear hHeld
      go_wp2_with fail
      exact ⟨⟨k + 1, tn, by omega, rfl, by rw [HTY.out], by go_num, HA.out⟩, by simp [intOf]; exact mea_step k1⟩
    · obtain rfl : k = n := by omega
      have nlt : ¬ (k : Int) < (k : Int) := by omega
      have HP := hidden (HPost.out _ _ _ _ HT.out)
      clear HT HIT HPT HPost
      go_wp2_with fail
      first | exact HP.out | (go_ret3; exact HP.out)

/-! ### Literals -/
def p10Places : Nat → Option (Nat × Nat) := fun i => (#[(0, 32), (32, 1)] : Array (Nat × Nat))[i]?

theorem built_p10Eq (ps : List (Nat × Value)) : Tryd.prog.built 38 ps = Instr.fill p10Places (encP z32 (.slice none 0 0)).toArray ps := by kernel_rfl

theorem built_p10 (K : List Int) (hk : K.length = 32) : Tryd.prog.built 38 [(0, .agg (B K))] = some (encP K (.slice none 0 0)).toArray := by
  rw [built_p10Eq]
  rw [fill_one p10Places 0 0 32 (.agg (B K)) (K.map (Value.int .u8)) (encP z32 (.slice none 0 0)) _ rfl (cells_b K) (by simp [hk]) (by simp [encP, z32_length])]
  simp [encP, Instr.fill, z32]

/-- Entries without values. -/
def keyI (ks : List (List Int)) : List (Ent × Value) := ks.map fun k => ((k, []), .slice none 0 0)
def keyE (ks : List (List Int)) : List Ent := ks.map fun k => (k, [])
theorem keyI_ents (ks : List (List Int)) : (keyI ks).map (·.1) = keyE ks := by simp [keyI, keyE]

theorem prAt_lit (w : World) (ks : List (List Int)) (hk : ∀ k ∈ ks, Key k) (h0 : 0 < ks.length) (h9 : ks.length ≤ 9) : PrAt (w.alloc (.cells (flatP (keyI ks)).toArray 38)) (.slice (some ⟨w.heap.size, 0, none⟩) ks.length ks.length) (fun i => ((keyI ks).getD i (e00, undef)).2) (keyE ks) := by
  have hl : (flatP (keyI ks)).length = ks.length * 33 := by
    have : ∀ l : List (List Int), (∀ k ∈ l, Key k) → (flatP (keyI l)).length = l.length * 33 := by
      intro l
      induction l with
      | nil => intro _; rfl
      | cons k r ih =>
        intro h
        have := ih (fun q hq => h q (by simp [hq]))
        have e : flatP (keyI (k :: r)) = encP k (.slice none 0 0) ++ flatP (keyI r) := rfl
        rw [e, List.length_append, encP_length _ _ (h k (by simp)).1, this, List.length_cons]
        omega
    exact this ks hk
  have hkl : (keyI ks).length = ks.length := by simp [keyI]
  rw [← keyI_ents, ← hkl]
  refine prAt_own (base := 0) ⟨by rw [hl, hkl], .inr ⟨w.heap.size, (keyI ks).length, _, rfl, Nat.zero_le _, Blk.new _ _ _, Nat.le_refl _, by rw [hkl]; simp only [maxLen]; omega, by simp [hl, hkl], by rw [hkl, ← hl]; simp⟩⟩ (fun p hp => ?_) (fun p hp => ?_)
  · obtain ⟨k, hk2, rfl⟩ := List.mem_map.1 hp
    exact hk k hk2
  · obtain ⟨k, hk2, rfl⟩ := List.mem_map.1 hp
    exact Reads.nil _

theorem fill_at (i : Nat) (p q r xs : List Value) (rest : List (Nat × Value)) (hp : p.length = i * 33) (hq : q.length = 33) (hx : xs.length = 33) : Instr.fill (fun i => some (i * 33, 33)) (p ++ (q ++ r)).toArray ((i, .agg xs.toArray) :: rest) = Instr.fill (fun i => some (i * 33, 33)) (p ++ (xs ++ r)).toArray rest := by
  rw [fill_one (fun i => some (i * 33, 33)) i (i * 33) 33 (.agg xs.toArray) xs (p ++ (q ++ r)) rest rfl rfl hx (by simp [hp, hq])]
  have e1 : (p ++ (q ++ r)).take (i * 33) = p := by rw [← hp, List.take_left]
  have e2 : (p ++ (q ++ r)).drop (i * 33 + 33) = r := by rw [← hp, ← hq, ← List.append_assoc, ← List.length_append, List.drop_left]
  rw [e1, e2]
  simp only [List.append_assoc]
theorem cut33 (n : Nat) (zs : List Value) (h : zs.length = (n + 1) * 33) : ∃ q r, zs = q ++ r ∧ q.length = 33 ∧ r.length = n * 33 := ⟨zs.take 33, zs.drop 33, (List.take_append_drop 33 zs).symm, by rw [List.length_take]; omega, by rw [List.length_drop]; omega⟩

theorem at_bsl {P : Program} {ops : Array Oper} {Q : Exit → Act → World → Prop} {rest : List Oper} {a : Act} {w : World} {ty t : TypeId} {p : String} {f : Array Edge} {g : Option (Nat × Bool)} {n : Nat} {x : Array (Nat × Operand)} (k : Nat)
    (h : wpList P ops Q (Oper.mk (some k) (.buildSlice ty n x) t p f g :: rest) a w) : wpList P ops Q (Oper.mk (some k) (.buildSlice ty n x) t p f g :: rest) a w := h

theorem wpList_lit2 {ops : Array Oper} {rest : List Oper} {op : Oper} {a : Act} {Q : Exit → Act → World → Prop} (w : World) (hgd : op.guard = none) (x0 x1 : Operand) (ho : op.op = .buildSlice 39 2 #[(0, x0), (1, x1)])
    (k0 k1 : List Int) (hx0 : a.eval x0 = .agg (encP k0 (.slice none 0 0)).toArray) (hx1 : a.eval x1 = .agg (encP k1 (.slice none 0 0)).toArray) (hl0 : k0.length = 32) (hl1 : k1.length = 32)
    (hk : wpList Tryd.prog ops Q rest (a.put op.dst (.slice (some ⟨w.heap.size, 0, none⟩) 2 2)) (w.alloc (.cells (flatP (keyI [k0, k1])).toArray 38))) : wpList Tryd.prog ops Q (op :: rest) a w := by
  refine wpList_plain hgd fun K hK => ?_
  obtain ⟨i, z, hi, hz, hs, _, hzs⟩ := info_pair
  have hrun := run_buildSlice (P := Tryd.prog) w 39 38 2 #[(0, .agg (encP k0 (.slice none 0 0)).toArray), (1, .agg (encP k1 (.slice none 0 0)).toArray)] (flatP (keyI [k0, k1])).toArray i z Tryd.underlying39 hi hz (by rw [hs]; omega) (by rw [hs]; omega) (by
    rw [hs]
    obtain ⟨zs, hzz, hzl⟩ : ∃ zs : List Value, (Array.range (2 * 33)).map (z.cells[· % z.cells.size]!) = zs.toArray ∧ zs.length = 2 * 33 := ⟨_, (Array.toArray_toList).symm, by simp⟩
    rw [hzz, show (#[(0, Value.agg (encP k0 (.slice none 0 0)).toArray), (1, Value.agg (encP k1 (.slice none 0 0)).toArray)] : Array (Nat × Value)).toList = [(0, Value.agg (encP k0 (.slice none 0 0)).toArray), (1, Value.agg (encP k1 (.slice none 0 0)).toArray)] from rfl]
    have e0 : (encP k0 (.slice none 0 0)).length = 33 := encP_length _ _ hl0
    have e1 : (encP k1 (.slice none 0 0)).length = 33 := encP_length _ _ hl1
    obtain ⟨q0, r0, rfl, l0, m0⟩ := cut33 1 zs hzl
    obtain ⟨q1, r1, rfl, l1, m1⟩ := cut33 0 r0 m0
    obtain rfl : r1 = [] := List.eq_nil_of_length_eq_zero (by simpa using m1)
    have f0 := fill_at 0 [] q0 (q1 ++ []) (encP k0 (.slice none 0 0)) [(1, .agg (encP k1 (.slice none 0 0)).toArray)] rfl l0 e0
    rw [List.nil_append, List.nil_append] at f0
    rw [f0]
    have f1 := fill_at 1 (encP k0 (.slice none 0 0)) q1 ([]) (encP k1 (.slice none 0 0)) [] (by simp [e0]) l1 e1
    rw [f1]
    rw [Instr.fill]
    simp [flatP, keyI])
  unfold Oper.wp execOp
  simp only [ho, List.map_toArray, List.map_cons, List.map_nil, hx0, hx1, Sem.run_bind, hrun, Result.andThen_ok, Sem.run_pure]
  exact hK _ _ hk

theorem wpList_lit3 {ops : Array Oper} {rest : List Oper} {op : Oper} {a : Act} {Q : Exit → Act → World → Prop} (w : World) (hgd : op.guard = none) (x0 x1 x2 : Operand) (ho : op.op = .buildSlice 39 3 #[(0, x0), (1, x1), (2, x2)])
    (k0 k1 k2 : List Int) (hx0 : a.eval x0 = .agg (encP k0 (.slice none 0 0)).toArray) (hx1 : a.eval x1 = .agg (encP k1 (.slice none 0 0)).toArray) (hx2 : a.eval x2 = .agg (encP k2 (.slice none 0 0)).toArray) (hl0 : k0.length = 32) (hl1 : k1.length = 32) (hl2 : k2.length = 32)
    (hk : wpList Tryd.prog ops Q rest (a.put op.dst (.slice (some ⟨w.heap.size, 0, none⟩) 3 3)) (w.alloc (.cells (flatP (keyI [k0, k1, k2])).toArray 38))) : wpList Tryd.prog ops Q (op :: rest) a w := by
  refine wpList_plain hgd fun K hK => ?_
  obtain ⟨i, z, hi, hz, hs, _, hzs⟩ := info_pair
  have hrun := run_buildSlice (P := Tryd.prog) w 39 38 3 #[(0, .agg (encP k0 (.slice none 0 0)).toArray), (1, .agg (encP k1 (.slice none 0 0)).toArray), (2, .agg (encP k2 (.slice none 0 0)).toArray)] (flatP (keyI [k0, k1, k2])).toArray i z Tryd.underlying39 hi hz (by rw [hs]; omega) (by rw [hs]; omega) (by
    rw [hs]
    obtain ⟨zs, hzz, hzl⟩ : ∃ zs : List Value, (Array.range (3 * 33)).map (z.cells[· % z.cells.size]!) = zs.toArray ∧ zs.length = 3 * 33 := ⟨_, (Array.toArray_toList).symm, by simp⟩
    rw [hzz, show (#[(0, Value.agg (encP k0 (.slice none 0 0)).toArray), (1, Value.agg (encP k1 (.slice none 0 0)).toArray), (2, Value.agg (encP k2 (.slice none 0 0)).toArray)] : Array (Nat × Value)).toList = [(0, Value.agg (encP k0 (.slice none 0 0)).toArray), (1, Value.agg (encP k1 (.slice none 0 0)).toArray), (2, Value.agg (encP k2 (.slice none 0 0)).toArray)] from rfl]
    have e0 : (encP k0 (.slice none 0 0)).length = 33 := encP_length _ _ hl0
    have e1 : (encP k1 (.slice none 0 0)).length = 33 := encP_length _ _ hl1
    have e2 : (encP k2 (.slice none 0 0)).length = 33 := encP_length _ _ hl2
    obtain ⟨q0, r0, rfl, l0, m0⟩ := cut33 2 zs hzl
    obtain ⟨q1, r1, rfl, l1, m1⟩ := cut33 1 r0 m0
    obtain ⟨q2, r2, rfl, l2, m2⟩ := cut33 0 r1 m1
    obtain rfl : r2 = [] := List.eq_nil_of_length_eq_zero (by simpa using m2)
    have f0 := fill_at 0 [] q0 (q1 ++ (q2 ++ [])) (encP k0 (.slice none 0 0)) [(1, .agg (encP k1 (.slice none 0 0)).toArray), (2, .agg (encP k2 (.slice none 0 0)).toArray)] rfl l0 e0
    rw [List.nil_append, List.nil_append] at f0
    rw [f0]
    have f1 := fill_at 1 (encP k0 (.slice none 0 0)) q1 (q2 ++ []) (encP k1 (.slice none 0 0)) [(2, .agg (encP k2 (.slice none 0 0)).toArray)] (by simp [e0]) l1 e1
    rw [f1]
    have f2 := fill_at 2 (encP k0 (.slice none 0 0) ++ encP k1 (.slice none 0 0)) q2 ([]) (encP k2 (.slice none 0 0)) [] (by simp [e0, e1]) l2 e2
    simp only [List.append_assoc] at f2
    rw [f2]
    rw [Instr.fill]
    simp [flatP, keyI])
  unfold Oper.wp execOp
  simp only [ho, List.map_toArray, List.map_cons, List.map_nil, hx0, hx1, hx2, Sem.run_bind, hrun, Result.andThen_ok, Sem.run_pure]
  exact hK _ _ hk

end Go.Proofs.YtpbmpmiicdpehabDoor

/- What the laws of drop ask of the document's examples (awake), as a contract. -/
namespace Go.Proofs.YtpbmpmiicdpehabDoor
set_option maxRecDepth 20000
open Go.RowKit

theorem key_z : Key z32 := ⟨rfl, z32_bytes⟩

set_option maxHeartbeats 2000000 in
theorem awake10_any (w : World) (hL : ∀ w', Below w.heap.size w w' → Laid w') : Calls Tryd.prog 10 #[] w fun e w' => e = .returned (.bool true) ∧ Below w.heap.size w w' := by
  have kz := key_z
  have k1 := kyB_key 128 (by omega) (by omega)
  have hne : z32 ≠ kyB 128 := by decide
  have n1 : nN 256 0 [(z32, [])] = 1 := rfl
  have n2 : nN 256 0 (keyE [z32, kyB 128]) ≤ 2 * 257 := nN_le 256 0 _
  have hh1 : hasK (keyE [z32, kyB 128]) (kyB 128) = true := by decide
  have hh2 : hasK [(z32, [])] (kyB 128) = false := by decide
  have hd1 : dlE (keyE [z32, kyB 128]) (kyB 128) = [(z32, [])] := by decide
  have hap : (keyE [z32, kyB 128]).Pairwise fun a b => a.1 ≠ b.1 := by simpa [keyE] using hne
  have HB0 := hidden built_z
  have HB1 := hidden (built_ky 128)
  have HP0 := hidden (built_p10 z32 kz.1)
  have HP1 := hidden (built_p10 (kyB 128) k1.1)
  have HLZ := hidden kz.1
  have HLY := hidden k1.1
  have HFL : Hid (Calls Tryd.prog 9 #[.slice (some ⟨w.heap.size, 0, none⟩) 2 2] (w.alloc (.cells (flatP (keyI [z32, kyB 128])).toArray 38)) fun e w' => ∃ (g gs root : Nat), e = .returned (.tuple #[.pointer (some ⟨g, 0, none⟩), .int .i64 (root : Int), .bool true]) ∧ Dk (w.alloc (.cells (flatP (keyI [z32, kyB 128])).toArray 38)) w' g gs 10320 (keyE [z32, kyB 128]) root) := by
    have hb := grow_alloc w (.cells (flatP (keyI [z32, kyB 128])).toArray 38)
    have hv := prAt_lit w [z32, kyB 128] (fun k hk => by rcases List.mem_cons.1 hk with e | e; exact e ▸ kz; rw [List.mem_singleton.1 e]; exact k1) (by simp) (by simp)
    exact filled_any hv (by simp [keyE]) (fun e he => by simp [keyE] at he; rcases he with rfl | rfl <;> simp) hap (fun w' h => hL w' (grow_trans hb h))
  have HLW : Hid (∀ w1 w', Below w.heap.size w w1 → Below w1.heap.size w1 w' → Laid w') := fun w1 w' h1 h2 => hL w' (grow_trans h1 h2)
  have HG0 := hidden (grow_alloc w (.cells (flatP (keyI [z32, kyB 128])).toArray 38))
  have HD1 : Hid (∀ w1 w' g gs (r : Nat), Below w.heap.size w w1 → Dk w1 w' g gs 10320 (keyE [z32, kyB 128]) r → Calls Tryd.prog 5 #[.pointer (some ⟨g, 0, none⟩), .int .i64 (r : Int), .agg (B (kyB 128))] w' fun e w'' => ∃ top : Nat, e = .returned (.tuple #[.int .i64 (top : Int), .bool true, .int .i64 0]) ∧ Dk w1 w'' g gs 10320 [(z32, [])] top) := fun w1 w' g gs r hb h => by
    refine (dk_drop h k1 (fun w'' h2 => HLW.out w1 w'' hb h2) (by omega)).mono ?_
    rintro e w'' ⟨top, rfl, q1, _⟩
    rw [hd1] at q1
    exact ⟨top, by rw [hh1], q1⟩
  have HD2 : Hid (∀ w1 w' g gs (r : Nat), Below w.heap.size w w1 → Dk w1 w' g gs 10320 [(z32, [])] r → Calls Tryd.prog 5 #[.pointer (some ⟨g, 0, none⟩), .int .i64 (r : Int), .agg (B (kyB 128))] w' fun e w'' => e = .returned (.tuple #[.int .i64 (r : Int), .bool false, .int .i64 0]) ∧ Dk w1 w'' g gs 10320 [(z32, [])] r) := fun w1 w' g gs r hb h => by
    refine (dk_drop h k1 (fun w'' h2 => HLW.out w1 w'' hb h2) (by rw [n1]; omega)).mono ?_
    rintro e w'' ⟨top, rfl, q1, q2⟩
    obtain rfl := q2 hh2
    rw [dl_none hh2] at q1
    exact ⟨by rw [hh2], q1⟩
  have HSZ : Hid (∀ w1 w' g gs (r : Nat), Dk w1 w' g gs 10320 [(z32, [])] r → Calls Tryd.prog 27 #[.pointer (some ⟨g, 0, none⟩), .int .i64 (r : Int)] w' fun e w'' => e = .returned (.int .i64 1) ∧ Below w'.heap.size w' w'') := fun w1 w' g gs r h => h.size
  have HOC : Hid (∀ w1 w' g gs (r : Nat), Dk w1 w' g gs 10320 [(z32, [])] r → Calls Tryd.prog 7 #[.pointer (some ⟨g, 0, none⟩)] w' fun e w'' => e = .returned (.int .i64 1) ∧ Below w'.heap.size w' w'') := fun w1 w' g gs r h => h.occ
  have HKD : Hid (∀ w1 w' g gs (r : Nat), Dk w1 w' g gs 10320 [(z32, [])] r → Calls Tryd.prog 28 #[.pointer (some ⟨g, 0, none⟩), .int .i64 (r : Int)] w' fun e w'' => e = .returned (.int .u8 1) ∧ Below w'.heap.size w' w'') := fun w1 w' g gs r h => h.leaf rfl
  generalize [(z32, ([] : List Int))] = E1 at HD1 HD2 HSZ HOC HKD
  generalize keyE [z32, kyB 128] = E2 at HD1 HFL
  generalize z32 = Z at HB0 HP0 HLZ HFL HG0
  generalize kyB 128 = Y at HB1 HP1 HLY HFL HD1 HD2 HG0
  clear hL kz k1 hne n1 n2 hh1 hh2 hd1 hap HLW
  go_enter Tryd.func10, Tryd.ntmps10
  go_wp2_with (first
    | ((with_reducible refine at_bdd 11 ?_); refine wpList_bld _ rfl _ _ rfl _ (by rw [List.map_toArray]; exact HB0.out) ?_)
    | ((with_reducible refine at_bdd 12 ?_); refine wpList_bld _ rfl _ _ rfl _ (by rw [List.map_toArray]; exact HP0.out) ?_)
    | ((with_reducible refine at_bdd 13 ?_); refine wpList_bld _ rfl _ _ rfl _ (by rw [List.map_toArray]; exact HB1.out) ?_)
    | ((with_reducible refine at_bdd 14 ?_); refine wpList_bld _ rfl _ _ rfl _ (by rw [List.map_toArray]; exact HP1.out) ?_)
    | ((with_reducible refine at_bdd 23 ?_); refine wpList_bld _ rfl _ _ rfl _ (by rw [List.map_toArray]; exact HB1.out) ?_)
    | ((with_reducible refine at_bdd 31 ?_); refine wpList_bld _ rfl _ _ rfl _ (by rw [List.map_toArray]; exact HB1.out) ?_)
    | ((with_reducible refine at_bsl 15 ?_); refine wpList_lit2 _ rfl _ _ rfl Z Y rfl rfl HLZ.out HLY.out ?_)
    | (go_at_call 9; refine HFL.out.mono ?_; rintro e w2 ⟨g, gs, r, rfl, d2⟩; have HK2 := hidden d2; clear d2)
    | (go_at_call 5; have mk := mk1; clear mk; refine (HD2.out _ _ _ _ _ HG0.out HK3.out).mono ?_; rintro e w4 ⟨rfl, d4⟩; replace HK3 := hidden d4; clear d4)
    | (go_at_call 5; refine (HD1.out _ _ _ _ _ HG0.out HK2.out).mono ?_; rintro e w3 ⟨x, rfl, d3⟩; have HK3 := hidden d3; clear d3; have mk1 : Hid True := trivial)
    | (go_at_call 27; refine (HSZ.out _ _ _ _ _ HK3.out).mono ?_; rintro e w5 ⟨rfl, b5⟩; replace HK3 := hidden (HK3.out.grow b5); clear b5)
    | (go_at_call 7; refine (HOC.out _ _ _ _ _ HK3.out).mono ?_; rintro e w5 ⟨rfl, b5⟩; replace HK3 := hidden (HK3.out.grow b5); clear b5)
    | (go_at_call 28; refine (HKD.out _ _ _ _ _ HK3.out).mono ?_; rintro e w5 ⟨rfl, b5⟩; replace HK3 := hidden (HK3.out.grow b5); clear b5))
  go_ret
  exact ⟨rfl, grow_trans HG0.out HK3.out.low⟩

end Go.Proofs.YtpbmpmiicdpehabDoor

/- DropKnown's walk: the document's examples. -/
namespace Go.Proofs.YtpbmpmiicdpehabDoor
set_option maxRecDepth 20000
open Go.RowKit

/-- The key whose last byte is 1, all others 0. -/
def kyE : List Int := List.replicate 31 0 ++ [1]
theorem kyE_key : Key kyE := ⟨by simp [kyE], fun z hz => by
  rcases List.mem_append.1 hz with hz | hz
  · rw [List.eq_of_mem_replicate hz]
    omega
  · rw [List.mem_singleton.1 hz]
    omega⟩
theorem kyE_set : (B z32).setIfInBounds 31 (.int .u8 1) = B kyE := by rfl
theorem deep_num : nN 256 0 [(kyE, []), (z32, [])] = 258 := by decide +kernel

/-- A write in a new store, and a handle beyond what it took. -/
theorem kn_one {w w' : World} {g gs : Nat} (H : Hs w [] w' g gs 258 [] []) (hL : ∀ w', Below w.heap.size w w' → Laid w') : Calls Tryd.prog 6 #[.pointer (some ⟨g, 0, none⟩), .int .i64 0, .agg (B z32), .slice none 0 0] w' fun e w2 => ∃ r : Nat, e = .returned (.tuple #[.int .i64 (r : Int), .int .i64 0]) ∧ Below w.heap.size w w2 ∧ (∀ w3, Below w2.heap.size w2 w3 → Calls Tryd.prog 5 #[.pointer (some ⟨g, 0, none⟩), .int .i64 (r : Int), .agg (B z32)] w3 fun e w4 => e = .returned (.tuple #[.int .i64 0, .bool false, .int .i64 9]) ∧ Below w3.heap.size w3 w4) ∧ ∀ w3, Below w2.heap.size w2 w3 → Calls Tryd.prog 5 #[.pointer (some ⟨g, 0, none⟩), .int .i64 9, .agg (B z32)] w3 fun e w4 => e = .returned (.tuple #[.int .i64 0, .bool false, .int .i64 7]) ∧ Below w3.heap.size w3 w4 := by
  have kz := key_z
  obtain ⟨ss, hss, _⟩ := (Rt.zero []).bes H.2 kz
  refine (put_any H (Rt.zero []) kz (kq_nil fun _ _ => Reads.nil _) (kq_nil hL) (by simp) (fun i => by rw [own_nil]; omega) (by show 0 + 258 ≤ 258; omega) hss).mono ?_
  rintro e w2 ⟨top, cs', fr', T', rfl, p, hh⟩
  obtain ⟨q1, q2, q3⟩ := pa_first hss p
  refine ⟨top, rfl, hh.low, fun w3 hb => drop_no_room (hh.grow hb) p.rt z32 (by rw [q2]; show 258 < 0 + 1 + 258; omega), fun w3 hb => drop_bad (hh.grow hb).vw 9 z32 7 ?_ (by omega)⟩
  have hc : cot cs' 9 = 0 := by
    unfold cot
    rw [if_pos (by omega)]
    exact cc_out cs' _ (Nat.le_trans q3 (by show 0 + 1 ≤ ((9 : Int) - 1).toNat; decide))
  unfold vAh
  have hr : vRt true (cot cs' 9) (cat cs' 9) 9 = 7 := by
    unfold vRt
    rw [if_pos rfl, if_neg (by omega), if_pos hc]
  rw [if_neg (by rw [hr]; omega), hr]

set_option maxHeartbeats 16000000 in
theorem dropKnown_walk (w : World) (hL : Laid w) : Calls Tryd.prog 3 #[] w fun e w' => e = .returned (.bool true) ∧ Below w.heap.size w w' := by
  have HL : Hid (∀ w', Below w.heap.size w w' → Laid w') := fun w' hb => hL.grow hb
  have HAW : Hid (∀ w', Below w.heap.size w w' → Calls Tryd.prog 10 #[] w' fun e w'' => e = .returned (.bool true) ∧ Below w'.heap.size w' w'') := fun w' hb => awake10_any w' (fun w'' h => hL.grow (grow_trans hb h))
  have HN1 : Hid (∀ w', Calls Tryd.prog 4 #[.int .i64 600] w' fun e w'' => ∃ g gs, e = .returned (.tuple #[.pointer (some ⟨g, 0, none⟩), .int .i64 0]) ∧ Dk w' w'' g gs 600 [] 0) := fun w' => dk_new 600 w' (by omega) (by omega)
  have HN2 : Hid (∀ w', Calls Tryd.prog 4 #[.int .i64 258] w' fun e w'' => ∃ g gs, e = .returned (.tuple #[.pointer (some ⟨g, 0, none⟩), .int .i64 0]) ∧ Hs w' [] w'' g gs 258 [] []) := fun w' => hs_new 258 w' (by omega) (by omega)
  have kz := key_z
  have ky := kyB_key 128 (by omega) (by omega)
  have ko := kyE_key
  have HB0 := hidden built_z
  have HB1 := hidden (built_ky 128)
  have HSET := hidden kyE_set
  have HZ31 : Hid ((B z32)[31]? = some (.int .u8 0)) := by show _ = _; rfl
  have HZS : Hid ((B z32).size = 32) := by show _ = _; rfl
  have HPS : Hid ((Tryd.prog.info? 23).map (·.size) = some (B kyE).size) := by show _ = _; rw [B_size, ko.1]; exact size_path
  have HZP : Hid (∀ w, (zeroValue 23).run Tryd.prog w = .ok (.agg (B z32)) w) := fun w => zero_path w
  have HP0 := hidden (built_p10 z32 kz.1)
  have HP1 := hidden (built_p10 (kyB 128) ky.1)
  have HP2 := hidden (built_p10 kyE ko.1)
  have HLZ := hidden kz.1
  have HLY := hidden ky.1
  have HLO := hidden ko.1
  have HD0 : Hid (∀ w1 w' g gs, Below w.heap.size w w1 → Dk w1 w' g gs 600 [] 0 → Calls Tryd.prog 5 #[.pointer (some ⟨g, 0, none⟩), .int .i64 0, .agg (B z32)] w' fun e w'' => e = .returned (.tuple #[.int .i64 0, .bool false, .int .i64 0]) ∧ Dk w1 w'' g gs 600 [] 0) := fun w1 w' g gs hb h => by
    refine (dk_drop h kz (fun w'' h2 => HL.out w'' (grow_trans hb h2)) (by show 0 + 258 ≤ 600; omega)).mono ?_
    rintro e w'' ⟨top, rfl, q1, q2⟩
    obtain rfl := q2 rfl
    exact ⟨rfl, q1⟩
  have HU1 : Hid (∀ w1 w' g gs, Below w.heap.size w w1 → Dk w1 w' g gs 600 [] 0 → Calls Tryd.prog 6 #[.pointer (some ⟨g, 0, none⟩), .int .i64 0, .agg (B z32), .slice none 0 0] w' fun e w'' => ∃ t : Nat, e = .returned (.tuple #[.int .i64 (t : Int), .int .i64 0]) ∧ Dk w1 w'' g gs 600 [(z32, [])] t) := fun w1 w' g gs hb h => by
    refine (dk_put h kz (u := .slice none 0 0) (bs := []) (fun _ _ => Reads.nil _) (fun w'' h2 => HL.out w'' (grow_trans hb h2)) (by simp) (by show 0 + 258 ≤ 600; omega)).mono ?_
    rintro e w'' ⟨top, rfl, q1, q2⟩
    exact ⟨top, rfl, q1⟩
  have HD1 : Hid (∀ w1 w' g gs (r : Nat), Below w.heap.size w w1 → Dk w1 w' g gs 600 [(z32, [])] r → Calls Tryd.prog 5 #[.pointer (some ⟨g, 0, none⟩), .int .i64 (r : Int), .agg (B z32)] w' fun e w'' => e = .returned (.tuple #[.int .i64 0, .bool true, .int .i64 0]) ∧ Dk w1 w'' g gs 600 [] 0) := fun w1 w' g gs r hb h => by
    refine (dk_drop h kz (fun w'' h2 => HL.out w'' (grow_trans hb h2)) (by show 1 + 258 ≤ 600; omega)).mono ?_
    rintro e w'' ⟨top, rfl, q1, q2⟩
    have e1 : dlE [(z32, [])] z32 = [] := by decide
    have e2 : hasK [(z32, [])] z32 = true := by decide
    rw [e1] at q1
    obtain rfl := q1.none0
    exact ⟨by rw [e2]; rfl, q1⟩
  have HO0 : Hid (∀ w1 w' g gs, Dk w1 w' g gs 600 [] 0 → Calls Tryd.prog 7 #[.pointer (some ⟨g, 0, none⟩)] w' fun e w'' => e = .returned (.int .i64 0) ∧ Below w'.heap.size w' w'') := fun w1 w' g gs h => h.occ
  have HU2 : Hid (∀ w1 w' g gs (r : Nat), Below w.heap.size w w1 → Dk w1 w' g gs 600 [(z32, [])] r → Calls Tryd.prog 6 #[.pointer (some ⟨g, 0, none⟩), .int .i64 (r : Int), .agg (B kyE), .slice none 0 0] w' fun e w'' => ∃ t : Nat, e = .returned (.tuple #[.int .i64 (t : Int), .int .i64 0]) ∧ Dk w1 w'' g gs 600 [(kyE, []), (z32, [])] t) := fun w1 w' g gs r hb h => by
    refine (dk_put h ko (u := .slice none 0 0) (bs := []) (fun _ _ => Reads.nil _) (fun w'' h2 => HL.out w'' (grow_trans hb h2)) (by simp) (by show 1 + 258 ≤ 600; omega)).mono ?_
    rintro e w'' ⟨top, rfl, q1, q2⟩
    have e1 : upE [(z32, [])] kyE [] = [(kyE, []), (z32, [])] := by decide
    rw [e1] at q1
    exact ⟨top, rfl, q1⟩
  have HC2 : Hid (∀ w1 w' g gs (r : Nat), Dk w1 w' g gs 600 [(kyE, []), (z32, [])] r → Calls Tryd.prog 8 #[.pointer (some ⟨g, 0, none⟩), .int .i64 (r : Int), .agg (B kyE)] w' fun e w'' => e = .returned (.tuple #[.int .i64 0, .int .i64 0]) ∧ Below w'.heap.size w' w'') := fun w1 w' g gs r h => by
    obtain ⟨n, _, _, c3, c4⟩ := dk_cost h ko
    have h1 := (c3 (by decide) 0).1
    have h2 : ¬ 2 ≤ (dE [(kyE, []), (z32, [])] kyE 0).length := by decide
    have : n = 0 := by
      apply Nat.eq_zero_of_not_pos
      intro q
      exact h2 (h1 q).1
    subst this
    exact c4
  have HD2 : Hid (∀ w1 w' g gs (r : Nat), Below w.heap.size w w1 → Dk w1 w' g gs 600 [(kyE, []), (z32, [])] r → Calls Tryd.prog 5 #[.pointer (some ⟨g, 0, none⟩), .int .i64 (r : Int), .agg (B kyE)] w' fun e w'' => ∃ t : Nat, e = .returned (.tuple #[.int .i64 (t : Int), .bool true, .int .i64 0]) ∧ Dk w1 w'' g gs 600 [(z32, [])] t) := fun w1 w' g gs r hb h => by
    refine (dk_drop h ko (fun w'' h2 => HL.out w'' (grow_trans hb h2)) (by rw [deep_num]; omega)).mono ?_
    rintro e w'' ⟨top, rfl, q1, q2⟩
    have e1 : dlE [(kyE, []), (z32, [])] kyE = [(z32, [])] := by decide
    have e2 : hasK [(kyE, []), (z32, [])] kyE = true := by decide
    rw [e1] at q1
    exact ⟨top, by rw [e2], q1⟩
  have HO1 : Hid (∀ w1 w' g gs (r : Nat), Dk w1 w' g gs 600 [(z32, [])] r → Calls Tryd.prog 7 #[.pointer (some ⟨g, 0, none⟩)] w' fun e w'' => e = .returned (.int .i64 1) ∧ Below w'.heap.size w' w'') := fun w1 w' g gs r h => h.occ
  have HFL : Hid (∀ z, Below w.heap.size w z → Calls Tryd.prog 9 #[.slice (some ⟨z.heap.size, 0, none⟩) 3 3] (z.alloc (.cells (flatP (keyI [z32, kyB 128, kyE])).toArray 38)) fun e w' => ∃ (g gs root : Nat), e = .returned (.tuple #[.pointer (some ⟨g, 0, none⟩), .int .i64 (root : Int), .bool true]) ∧ Dk (z.alloc (.cells (flatP (keyI [z32, kyB 128, kyE])).toArray 38)) w' g gs 10320 (keyE [z32, kyB 128, kyE]) root) := fun z hz => by
    have hb := grow_alloc z (.cells (flatP (keyI [z32, kyB 128, kyE])).toArray 38)
    have hv := prAt_lit z [z32, kyB 128, kyE] (fun k hk => by
      rcases List.mem_cons.1 hk with e | hk
      · exact e ▸ kz
      · rcases List.mem_cons.1 hk with e | hk
        · exact e ▸ ky
        · rw [List.mem_singleton.1 hk]
          exact ko) (by simp) (by simp)
    exact filled_any hv (by simp [keyE]) (fun e he => by simp [keyE] at he; rcases he with rfl | rfl | rfl <;> simp) (by decide) (fun w' h => HL.out w' (grow_trans (grow_trans hz hb) h))
  have HC3 : Hid (∀ w1 w' g gs (r : Nat), Dk w1 w' g gs 10320 (keyE [z32, kyB 128, kyE]) r → Calls Tryd.prog 8 #[.pointer (some ⟨g, 0, none⟩), .int .i64 (r : Int), .agg (B (kyB 128))] w' fun e w'' => e = .returned (.tuple #[.int .i64 1, .int .i64 0]) ∧ Below w'.heap.size w' w'') := fun w1 w' g gs r h => by
    obtain ⟨n, _, _, c3, c4⟩ := dk_cost h ky
    have h1 := (c3 (by decide) 1).1
    have h2 := (c3 (by decide) 0).2 (by decide)
    have h3 : ¬ 2 ≤ (dE (keyE [z32, kyB 128, kyE]) (kyB 128) 1).length := by decide
    have : n = 1 := by
      apply Nat.le_antisymm _ h2
      apply Nat.le_of_not_lt
      intro q
      exact h3 (h1 q).1
    subst this
    exact c4
  have HD3 : Hid (∀ w1 w' g gs (r : Nat), Below w.heap.size w w1 → Dk w1 w' g gs 10320 (keyE [z32, kyB 128, kyE]) r → Calls Tryd.prog 5 #[.pointer (some ⟨g, 0, none⟩), .int .i64 (r : Int), .agg (B (kyB 128))] w' fun e w'' => ∃ t : Nat, e = .returned (.tuple #[.int .i64 (t : Int), .bool true, .int .i64 0]) ∧ Dk w1 w'' g gs 10320 [(kyE, []), (z32, [])] t) := fun w1 w' g gs r hb h => by
    refine (dk_drop h ky (fun w'' h2 => HL.out w'' (grow_trans hb h2)) (by
      have : nN 256 0 (keyE [z32, kyB 128, kyE]) ≤ 3 * 257 := nN_le 256 0 _
      omega)).mono ?_
    rintro e w'' ⟨top, rfl, q1, q2⟩
    have e1 : dlE (keyE [z32, kyB 128, kyE]) (kyB 128) = [(z32, []), (kyE, [])] := by decide
    have e2 : hasK (keyE [z32, kyB 128, kyE]) (kyB 128) = true := by decide
    rw [e1] at q1
    exact ⟨top, by rw [e2], q1.perm (List.Perm.swap _ _ _)⟩
  have HO3 : Hid (∀ w1 w' g gs (r : Nat), Dk w1 w' g gs 10320 [(kyE, []), (z32, [])] r → Calls Tryd.prog 7 #[.pointer (some ⟨g, 0, none⟩)] w' fun e w'' => e = .returned (.int .i64 258) ∧ Below w'.heap.size w' w'') := fun w1 w' g gs r h => by
    have := h.occ
    rwa [deep_num] at this
  have HON : Hid (∀ w1 w' g gs, Below w.heap.size w w1 → Hs w1 [] w' g gs 258 [] [] → Calls Tryd.prog 6 #[.pointer (some ⟨g, 0, none⟩), .int .i64 0, .agg (B z32), .slice none 0 0] w' fun e w2 => ∃ r : Nat, e = .returned (.tuple #[.int .i64 (r : Int), .int .i64 0]) ∧ Below w1.heap.size w1 w2 ∧ (∀ w3, Below w2.heap.size w2 w3 → Calls Tryd.prog 5 #[.pointer (some ⟨g, 0, none⟩), .int .i64 (r : Int), .agg (B z32)] w3 fun e w4 => e = .returned (.tuple #[.int .i64 0, .bool false, .int .i64 9]) ∧ Below w3.heap.size w3 w4) ∧ ∀ w3, Below w2.heap.size w2 w3 → Calls Tryd.prog 5 #[.pointer (some ⟨g, 0, none⟩), .int .i64 9, .agg (B z32)] w3 fun e w4 => e = .returned (.tuple #[.int .i64 0, .bool false, .int .i64 7]) ∧ Below w3.heap.size w3 w4) := fun w1 w' g gs hb h => kn_one h (fun w'' h2 => HL.out w'' (grow_trans hb h2))
  have HG3 : Hid (∀ z : World, Below z.heap.size z (z.alloc (.cells (flatP (keyI [z32, kyB 128, kyE])).toArray 38))) := fun z => grow_alloc _ _
  generalize [(kyE, ([] : List Int)), (z32, [])] = E2 at HU2 HC2 HD2 HD3 HO3
  generalize [(z32, ([] : List Int))] = E1 at HU1 HD1 HU2 HD2 HO1
  generalize keyE [z32, kyB 128, kyE] = E3 at HFL HC3 HD3
  generalize z32 = Z at HB0 HSET HZ31 HZS HZP HP0 HLZ HD0 HU1 HD1 HFL HON HG3
  generalize kyE = O at HSET HPS HP2 HLO HU2 HC2 HD2 HFL HG3
  generalize kyB 128 = Y at HB1 HP1 HLY HFL HC3 HD3 HG3
  clear hL kz ky ko HL
  go_enter Tryd.func3, Tryd.ntmps3
  go_upto_region 4 with (first
    | ((with_reducible refine at_bdd 32 ?_); refine wpList_bld _ rfl _ _ rfl _ (by rw [List.map_toArray]; exact HB0.out) ?_)
    | ((with_reducible refine at_ald 1 ?_); refine wpList_al _ rfl _ rfl _ HZP.out ?_; intro w2 b1 hg3 hl3 B3 q3; have HB3 := hidden B3; have HG1 := hidden hg3; have HQ3 := hidden q3; clear hg3 hl3 B3 q3)
    | ((with_reducible refine at_st 1 ?_); refine wpList_sto _ rfl _ _ _ rfl b1 _ (B Z) rfl rfl HB3.out (by rw [HZS.out]; exact size_path) rfl (B_one _) ?_; intro w3 B3' r3; have HB33 := hidden B3'; have HQ33 := hidden (below_row HQ3.out r3 HG1.out); have hc31 : w3.cell? ⟨b1, 31, none⟩ = some (.int .u8 0) := (by rw [B3'.cell]; exact HZ31.out); have hf31 : w3.frozen? ⟨b1, 31, none⟩ = false := B3'.frozen 31; clear B3' r3)
    | (go_at_call 4; have HB4 : Hid (Blk (w3.setCell ⟨b1, 31, none⟩ (.int .u8 1)) b1 23 (B O)) := (by have := HB33.out.set 31 (.int .u8 1); rw [HSET.out] at this; exact this); have HQ4 : Hid (Below w.heap.size w (w3.setCell ⟨b1, 31, none⟩ (.int .u8 1))) := HQ33.out.trans ((Mod.setCell w3 b1 31 (.int .u8 1) (S := [b1]) (by simp)).below (fun k hk => by rw [List.mem_singleton.1 hk]; exact HG1.out) HQ33.out.size); clear hc31 hf31; generalize w3.setCell ⟨b1, 31, none⟩ (.int .u8 1) = w4 at *; have HBK : Hid (∀ w', Below w4.heap.size w4 w' → Blk w' b1 23 (B O)) := (fun w' hb => HB4.out.grow hb); refine (HN1.out _).mono ?_; rintro e w5 ⟨g, gs, rfl, h1⟩; have HK := hidden h1; clear h1))
  clear HB3 HG1 HQ3 HB33 HQ33 HB4 HN1 HZP HZS HZ31 HSET
  go_upto_region 8 with (first
    | ((with_reducible refine at_bdd 40 ?_); refine wpList_bld _ rfl _ _ rfl _ (by rw [List.map_toArray]; exact HB0.out) ?_)
    | ((with_reducible refine at_bdd 47 ?_); refine wpList_bld _ rfl _ _ rfl _ (by rw [List.map_toArray]; exact HB0.out) ?_)
    | ((with_reducible refine at_bdd 54 ?_); refine wpList_bld _ rfl _ _ rfl _ (by rw [List.map_toArray]; exact HB0.out) ?_)
    | (go_at_call 6; refine (HU1.out _ _ _ _ HQ4.out HK1.out).mono ?_; rintro e x2 ⟨r2, rfl, d2⟩; have HK2 := hidden d2; clear d2)
    | (go_at_call 5; have mk := md1; clear mk; refine (HD1.out _ _ _ _ _ HQ4.out HK2.out).mono ?_; rintro e x3 ⟨rfl, d3⟩; have HK3 := hidden d3; clear d3)
    | (go_at_call 5; refine (HD0.out _ _ _ _ HQ4.out HK.out).mono ?_; rintro e x1 ⟨rfl, d1⟩; have HK1 := hidden d1; clear d1; have md1 : Hid True := trivial)
    | (go_at_call 7; refine (HO0.out _ _ _ _ HK3.out).mono ?_; rintro e xo ⟨rfl, bo⟩; replace HK3 := hidden (HK3.out.grow bo); clear bo))
  clear HK HK1 HK2 HD0 HD1 HO0 md1
  go_upto_region 13 with (first
    | ((with_reducible refine at_bdd 87 ?_); refine wpList_bld _ rfl _ _ rfl _ (by rw [List.map_toArray]; exact HB0.out) ?_)
    | ((with_reducible refine at_ldd 94 1 ?_); refine wpList_ld _ rfl _ _ rfl b1 _ rfl (HBK.out _ HK4.out.low) _ _ Tryd.underlying23 HPS.out ?_)
    | ((with_reducible refine at_ldd 101 1 ?_); refine wpList_ld _ rfl _ _ rfl b1 _ rfl (HBK.out _ HK5.out.low) _ _ Tryd.underlying23 HPS.out ?_)
    | ((with_reducible refine at_ldd 108 1 ?_); refine wpList_ld _ rfl _ _ rfl b1 _ rfl (HBK.out _ HK5.out.low) _ _ Tryd.underlying23 HPS.out ?_)
    | (go_at_call 6; have mk := mp1; clear mk; refine (HU2.out _ _ _ _ _ HQ4.out HK4.out).mono ?_; rintro e x5 ⟨r5, rfl, d5⟩; have HK5 := hidden d5; clear d5)
    | (go_at_call 6; refine (HU1.out _ _ _ _ HQ4.out HK3.out).mono ?_; rintro e x4 ⟨r4, rfl, d4⟩; have HK4 := hidden d4; clear d4; have mp1 : Hid True := trivial)
    | (go_at_call 5; refine (HD2.out _ _ _ _ _ HQ4.out HK5.out).mono ?_; rintro e x6 ⟨r6, rfl, d6⟩; have HK6 := hidden d6; clear d6)
    | (go_at_call 8; refine (HC2.out _ _ _ _ _ HK5.out).mono ?_; rintro e xe ⟨rfl, be⟩; replace HK5 := hidden (HK5.out.grow be); clear be)
    | (go_at_call 7; refine (HO1.out _ _ _ _ _ HK6.out).mono ?_; rintro e xo ⟨rfl, bo⟩; replace HK6 := hidden (HK6.out.grow bo); clear bo))
  clear HK3 HK4 HK5 HU1 HU2 HD2 HC2 HO1 mp1
  go_upto_region 17 with (first
    | ((with_reducible refine at_bdd 132 ?_); refine wpList_bld _ rfl _ _ rfl _ (by rw [List.map_toArray]; exact HB0.out) ?_)
    | ((with_reducible refine at_bdd 134 ?_); refine wpList_bld _ rfl _ _ rfl _ (by rw [List.map_toArray]; exact HB1.out) ?_)
    | ((with_reducible refine at_bdd 146 ?_); refine wpList_bld _ rfl _ _ rfl _ (by rw [List.map_toArray]; exact HB1.out) ?_)
    | ((with_reducible refine at_bdd 153 ?_); refine wpList_bld _ rfl _ _ rfl _ (by rw [List.map_toArray]; exact HB1.out) ?_)
    | ((with_reducible refine at_bdd 133 ?_); refine wpList_bld _ rfl _ _ rfl _ (by rw [List.map_toArray]; exact HP0.out) ?_)
    | ((with_reducible refine at_bdd 135 ?_); refine wpList_bld _ rfl _ _ rfl _ (by rw [List.map_toArray]; exact HP1.out) ?_)
    | ((with_reducible refine at_bdd 137 ?_); refine wpList_bld _ rfl _ _ rfl _ (by rw [List.map_toArray]; exact HP2.out) ?_)
    | ((with_reducible refine at_ldd 136 1 ?_); refine wpList_ld _ rfl _ _ rfl b1 _ rfl (HBK.out _ HK6.out.low) _ _ Tryd.underlying23 HPS.out ?_)
    | ((with_reducible refine at_bsl 138 ?_); refine wpList_lit3 _ rfl _ _ _ rfl Z Y O (by go_simp) (by go_simp) (by go_simp) HLZ.out HLY.out HLO.out ?_)
    | (go_at_call 9; refine (HFL.out _ (grow_trans HQ4.out HK6.out.low)).mono ?_; rintro e x9 ⟨g3, gs3, r9, rfl, d9⟩; have HK7 := hidden d9; have HQ7 := hidden (grow_trans (grow_trans HQ4.out HK6.out.low) (HG3.out _)); clear d9)
    | (go_at_call 5; refine (HD3.out _ _ _ _ _ HQ7.out HK7.out).mono ?_; rintro e xb ⟨rb, rfl, db⟩; have HK8 := hidden db; clear db)
    | (go_at_call 8; refine (HC3.out _ _ _ _ _ HK7.out).mono ?_; rintro e xe ⟨rfl, be⟩; replace HK7 := hidden (HK7.out.grow be); clear be)
    | (go_at_call 7; refine (HO3.out _ _ _ _ _ HK8.out).mono ?_; rintro e xo ⟨rfl, bo⟩; replace HK8 := hidden (HK8.out.grow bo); clear bo))
  clear HK6 HK7 HFL HC3 HD3 HO3 HP0 HP1 HP2 HB1 HBK
  go_wp2_with (first
    | ((with_reducible refine at_bdd 185 ?_); refine wpList_bld _ rfl _ _ rfl _ (by rw [List.map_toArray]; exact HB0.out) ?_)
    | ((with_reducible refine at_bdd 192 ?_); refine wpList_bld _ rfl _ _ rfl _ (by rw [List.map_toArray]; exact HB0.out) ?_)
    | ((with_reducible refine at_bdd 199 ?_); refine wpList_bld _ rfl _ _ rfl _ (by rw [List.map_toArray]; exact HB0.out) ?_)
    | (go_at_call 4; refine (HN2.out _).mono ?_; rintro e ws ⟨g2, gs2, rfl, h2⟩; have HJ := hidden h2; clear h2)
    | (go_at_call 6; refine (HON.out _ _ _ _ (grow_trans HQ7.out HK8.out.low) HJ.out).mono ?_; rintro e xa ⟨ra, rfl, ba, fa, ga⟩; have HFA := hidden fa; have HGA := hidden ga; have HQA := hidden (grow_trans (grow_trans HQ7.out HK8.out.low) ba); clear ba fa ga)
    | (go_at_call 5; have mk := md5; clear mk; refine (HGA.out _ HQC.out).mono ?_; rintro e xd ⟨rfl, bd⟩; have HQD := hidden (grow_trans HQA.out (grow_trans HQC.out bd)); clear bd)
    | (go_at_call 5; refine (HFA.out _ (Below.refl _ _)).mono ?_; rintro e xc ⟨rfl, bc⟩; have HQC := hidden bc; clear bc; have md5 : Hid True := trivial)
    | (go_at_call 10; refine (HAW.out _ HQD.out).mono ?_; rintro e xz ⟨rfl, bz⟩; have HE := hidden (grow_trans HQD.out bz); clear bz))
  go_ret
  exact ⟨rfl, HE.out⟩

end Go.Proofs.YtpbmpmiicdpehabDoor
