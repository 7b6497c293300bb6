/- The law's filled, as a contract; slices of entries without values, as literals. -/
import Derived.Test.YtpbmpmiicdpehabGreatDoorDb32
import Derived.Test.YtpbmpmiicdpehabGreatDoorDb05
import Derived.Test.YtpbmpmiicdpehabGreatDoorDb04
import Derived.Test.YtpbmpmiicdpehabGreatDoorDb07
import Derived.Carry
namespace Go.Proofs.YtpbmpmiicdpehabGreatDoor
set_option maxRecDepth 20000
open Go.RowKit

/-- The number of nodes is at most 257 for each entry. -/
theorem nN_le : ∀ (n d : Nat) (l : List Ent), nN n d l ≤ l.length * (n + 1)
  | 0, _, l => by simp [nN]
  | n + 1, d, l => by
    rw [nN]
    split
    · have : l.length * 1 ≤ l.length * (n + 1 + 1) := Nat.mul_le_mul_left _ (by omega)
      omega
    · next h =>
      have a := nN_le n (d + 1) (sideOf l d 0)
      have b := nN_le n (d + 1) (sideOf l d 1)
      have c : (sideOf l d 0).length + (sideOf l d 1).length ≤ l.length := by
        unfold sideOf
        clear a b h
        induction l with
        | nil => simp
        | cons e r ih =>
          simp only [List.filter_cons, beq_iff_eq, List.length_cons]
          by_cases h0 : kbi e.1 d = 0
          · rw [if_pos h0, if_neg (by omega)]
            simp only [List.length_cons]
            omega
          · rw [if_neg h0]
            split
            · simp only [List.length_cons]
              omega
            · omega
      have d1 : (sideOf l d 0).length * (n + 1) + (sideOf l d 1).length * (n + 1) ≤ l.length * (n + 1) := by
        rw [← Nat.add_mul]
        exact Nat.mul_le_mul_right _ c
      have d2 : l.length * (n + 1 + 1) = l.length * (n + 1) + l.length := by rw [Nat.mul_add, Nat.mul_one]
      omega

theorem up_snoc {es : List Ent} (hap : es.Pairwise fun a b => a.1 ≠ b.1) {k : Nat} (hk : k < es.length) : (upE (es.take k) (es.getD k e00).1 (es.getD k e00).2).Perm (es.take (k + 1)) := by
  have hg : es.getD k e00 = es[k] := by simp [List.getD, hk]
  rw [hg, List.take_succ_eq_append_getElem hk]
  unfold upE
  have : (es.take k).filter (fun e : Ent => !(e.1 == es[k].1)) = es.take k := List.filter_eq_self.2 (fun e he => by
    obtain ⟨j, hj, rfl⟩ := List.getElem_of_mem he
    have hj2 : j < k := by rw [List.length_take] at hj; omega
    have := List.pairwise_iff_getElem.1 hap j k (by omega) hk hj2
    rw [List.getElem_take]
    simpa using this)
  rw [this]
  exact (List.perm_append_comm (l₁ := es.take k) (l₂ := [es[k]])).symm

/-- What filled answers. -/
def FlPost (es : List Ent) (w : World) (e : Ending) (w' : World) : Prop :=
  ∃ (g gs root : Nat), e = .returned (.tuple #[.pointer (some ⟨g, 0, none⟩), .int .i64 (root : Int), .bool true]) ∧ Dk w w' g gs 10320 es root

set_option maxHeartbeats 4000000 in
theorem filled_any {w : World} {v : Value} {V : Nat → Value} {es : List Ent} (hv : PrAt w v V es) (hn : es.length ≤ 14) (hl : ∀ e ∈ es, e.2.length ≤ 1024) (hap : es.Pairwise fun a b => a.1 ≠ b.1) (hL : ∀ w', Below w.heap.size w w' → Laid w') : Calls Tryz.prog 7 #[v] w (FlPost es w) := by
  have HVG : Hid (∀ w', Below w.heap.size w w' → PrAt w' v V es) := fun w' hb => hv.grow hb
  obtain ⟨a, cap, rfl, hcap, hc, hr⟩ := hv
  have HNW := hidden (dk_new 10320 w (by omega) (by omega))
  have HIT : Hid (∀ k, k < es.length → ∃ pb off K bs ua ul uc, a = some ⟨pb, off, none⟩ ∧ es.getD k e00 = (K, bs) ∧ Key K ∧ bs.length ≤ 1024 ∧ (∀ w', Below w.heap.size w w' → w'.rangeAt pb (off + k * 33) (encP K (.slice ua ul uc))) ∧ ∀ w', Below w.heap.size w w' → Reads w' (.slice ua ul uc) bs) := fun k hk => by
    obtain ⟨g, off, e1, h1⟩ := hc (by omega)
    obtain ⟨k1, k2⟩ := hr k hk
    have hk2 := k2
    obtain ⟨va, vc, e2, _⟩ := hk2
    have hm : es.getD k e00 ∈ es := by
      have : es.getD k e00 = es[k] := by simp [List.getD, hk]
      rw [this]
      exact List.getElem_mem hk
    have h3 := h1 k hk
    rw [e2] at h3 k2
    exact ⟨g, off, _, _, va, _, vc, e1, rfl, k1, hl _ hm, fun w' hb => rng_grow h3 hb, fun w' hb => k2.grow hb⟩
  have HPT : Hid (∀ w' g gs k (root : Nat) K bs u, k < es.length → Dk w w' g gs 10320 (es.take k) root → es.getD k e00 = (K, bs) → Key K → bs.length ≤ 1024 → (∀ w', Below w.heap.size w w' → Reads w' u bs) → Calls Tryz.prog 17 #[.pointer (some ⟨g, 0, none⟩), .int .i64 (root : Int), .agg (B K), u] w' fun e w'' => ∃ (ty : Int) (tn : Nat), e = .returned (.tuple #[.int .i64 ty, .int .i64 0]) ∧ ty = (tn : Int) ∧ Dk w w'' g gs 10320 (es.take (k + 1)) tn) := fun w' g gs k root K bs u hk hd he hK hb hu => by
    have hq := nN_le 256 0 (es.take k)
    have hq2 : (es.take k).length * (256 + 1) ≤ 14 * 257 := Nat.mul_le_mul_right _ (by rw [List.length_take]; omega)
    refine (dk_put hd hK hu hL hb (by omega)).mono ?_
    rintro e w'' ⟨top, rfl, hd2, _⟩
    have hp := up_snoc hap hk
    rw [he] at hp
    exact ⟨_, top, rfl, rfl, hd2.perm hp⟩
  have HPost : Hid (∀ w' (g gs root : Nat), Dk w w' g gs 10320 (es.take es.length) root → FlPost es w (.returned (.tuple #[.pointer (some ⟨g, 0, none⟩), .int .i64 (root : Int), .bool true])) w') := fun w' g gs root h => by
    rw [List.take_length] at h
    exact ⟨g, gs, root, rfl, h⟩
  generalize FlPost es w = P at HPost ⊢
  generalize es.length = n at hn HIT HPT HPost ⊢
  clear hl hap hc hr hcap hL HVG
  go_enter Tryz.func7, Tryz.ntmps7
  go_wp2_with (first
    | (go_at_call 20; refine HNW.out.mono ?_; rintro e w1 ⟨g, gs, rfl, h1⟩; have HT0 : Hid (Dk w w1 g gs 10320 (es.take 0) 0) := h1; clear h1))
  clear HNW
  go_loopw [6, 7, 8] (fun ev rv iv wr => ∃ (k root : Nat), k ≤ n ∧ ev = .int .i64 0 ∧ rv = .int .i64 (root : Int) ∧ iv = .int .i64 (k : Int) ∧ Hid (Dk w wr g gs 10320 (es.take k) root)) (fun _ _ iv _ => n - (intOf iv).toNat)
  case atStart => exact ⟨0, 0, by omega, rfl, rfl, rfl, HT0.out⟩
  case round =>
    clear HT0
    obtain ⟨k, root, hk, rfl, rfl, rfl, HT⟩ := hrel
    by_cases hlt : k < n
    · obtain ⟨pb, off, K, bs, ua, ul, uc, rfl, hit, hKey, hlen, hrg, hrd⟩ := HIT.out k hlt
      have HKL := hidden hKey.1
      have HPL := hidden (pth_ln K hKey.1)
      have HRG := hidden hrg
      have k0 : (0 : Int) ≤ (k : Int) := by omega
      have k1 : (k : Int) < (n : Int) := by omega
      have hk16 : k < 16 := by omega
      have hwk : wrap64 ((k : Int) + 1) = ((k + 1 : Nat) : Int) := by rw [Go.IntWalk.wrap64_in _ (by omega)]; rfl
      replace HPT : Hid (∀ w', Dk w w' g gs 10320 (es.take k) root → Calls Tryz.prog 17 #[.pointer (some ⟨g, 0, none⟩), .int .i64 (root : Int), .agg (B K), .slice ua ul uc] w' fun e w'' => ∃ (ty : Int) (tn : Nat), e = .returned (.tuple #[.int .i64 ty, .int .i64 0]) ∧ ty = (tn : Int) ∧ Dk w w'' g gs 10320 (es.take (k + 1)) tn) := fun w' h => HPT.out w' g gs k root K bs _ hlt h hit hKey hlen hrd
      generalize (root : Int) = ry at HPT ⊢
      clear hit hKey hlen hrg hrd hk HIT
      go_wp2_with fail
      refine wp_region_held_drew (S := fun w' => w'.rangeAt pb (off + k * 33) (encP K (.slice ua ul uc))) (by kernel_rfl) (HRG.out _ (grow_trans HT.out.low (below_drewN (Below.refl _ _) 1))) (fun hHeld => ?_)
      refine wpAnyH_take (i := 0) (v := .pointer (some ⟨g, 0, none⟩)) rfl (by kernel_rfl) (by kernel_rfl) (by kernel_rfl) (fun _ _ _ h => h) (Or.inl ⟨by rfl, fun w hS => by go_simp⟩) hHeld ?_
      simp only [Act.put, List.getElem_toArray, List.getElem_cons_zero, List.setIfInBounds_toArray, List.set_cons_zero, List.set_cons_succ]
      refine wpAnyH_take (i := 1) (v := .int .i64 ry) rfl (by kernel_rfl) (by kernel_rfl) (by kernel_rfl) (fun _ _ _ h => h) (Or.inl ⟨by rfl, fun w hS => by go_simp⟩) hHeld ?_
      simp only [Act.put, List.getElem_toArray, List.getElem_cons_zero, List.getElem_cons_succ, List.setIfInBounds_toArray, List.set_cons_zero, List.set_cons_succ]
      refine wpAnyH_take (i := 2) (v := .slice (some ⟨pb, off, none⟩) n cap) rfl (by kernel_rfl) (by kernel_rfl) (by kernel_rfl) (fun _ _ _ h => h) (Or.inl ⟨by rfl, fun w hS => by go_simp⟩) hHeld ?_
      simp only [Act.put, List.getElem_toArray, List.getElem_cons_zero, List.getElem_cons_succ, List.setIfInBounds_toArray, List.set_cons_zero, List.set_cons_succ]
      refine wpAnyH_take (i := 3) (v := .int .i64 (k : Int)) rfl (by kernel_rfl) (by kernel_rfl) (by kernel_rfl) (fun _ _ _ h => h) (Or.inl ⟨by rfl, fun w hS => by go_simp⟩) hHeld ?_
      simp only [Act.put, List.getElem_toArray, List.getElem_cons_zero, List.getElem_cons_succ, List.setIfInBounds_toArray, List.set_cons_zero, List.set_cons_succ]
      refine wpAnyH_take (i := 4) (v := .pointer (some ⟨pb, off + k * 33, none⟩)) rfl (by kernel_rfl) (by kernel_rfl) (by kernel_rfl) (fun _ _ _ h => h) (Or.inl ⟨by rfl, fun w hS => by go_simp⟩) hHeld ?_
      simp only [Act.put, List.getElem_toArray, List.getElem_cons_zero, List.getElem_cons_succ, List.setIfInBounds_toArray, List.set_cons_zero, List.set_cons_succ]
      refine wpAnyH_take (i := 5) (v := .pointer (some ⟨pb, off + k * 33, none⟩)) rfl (by kernel_rfl) (by kernel_rfl) (by kernel_rfl) (fun _ _ _ h => h) (Or.inl ⟨by rfl, fun w hS => by go_simp⟩) hHeld ?_
      simp only [Act.put, List.getElem_toArray, List.getElem_cons_zero, List.getElem_cons_succ, List.setIfInBounds_toArray, List.set_cons_zero, List.set_cons_succ]
      refine wpAnyH_take (i := 6) (v := .agg (B K)) rfl (by kernel_rfl) (by kernel_rfl) (by kernel_rfl) (fun _ _ _ h => h) (yieldsIf_load_mid rfl 32 (.tmp 29) rfl pb (off + k * 33) rfl (B K).toList _ (fun w hS => rng_key hS) Tryz.underlying32 rfl HPL.out) hHeld ?_
      simp only [Act.put, List.getElem_toArray, List.getElem_cons_zero, List.getElem_cons_succ, List.setIfInBounds_toArray, List.set_cons_zero, List.set_cons_succ]
      refine wpAnyH_take (i := 7) (v := .slice (some ⟨pb, off, none⟩) n cap) rfl (by kernel_rfl) (by kernel_rfl) (by kernel_rfl) (fun _ _ _ h => h) (Or.inl ⟨by rfl, fun w hS => by go_simp⟩) hHeld ?_
      simp only [Act.put, List.getElem_toArray, List.getElem_cons_zero, List.getElem_cons_succ, List.setIfInBounds_toArray, List.set_cons_zero, List.set_cons_succ]
      refine wpAnyH_take (i := 8) (v := .int .i64 (k : Int)) rfl (by kernel_rfl) (by kernel_rfl) (by kernel_rfl) (fun _ _ _ h => h) (Or.inl ⟨by rfl, fun w hS => by go_simp⟩) hHeld ?_
      simp only [Act.put, List.getElem_toArray, List.getElem_cons_zero, List.getElem_cons_succ, List.setIfInBounds_toArray, List.set_cons_zero, List.set_cons_succ]
      refine wpAnyH_take (i := 9) (v := .pointer (some ⟨pb, off + k * 33, none⟩)) rfl (by kernel_rfl) (by kernel_rfl) (by kernel_rfl) (fun _ _ _ h => h) (Or.inl ⟨by rfl, fun w hS => by go_simp⟩) hHeld ?_
      simp only [Act.put, List.getElem_toArray, List.getElem_cons_zero, List.getElem_cons_succ, List.setIfInBounds_toArray, List.set_cons_zero, List.set_cons_succ]
      refine wpAnyH_take (i := 10) (v := .pointer (some ⟨pb, off + k * 33 + 32, none⟩)) rfl (by kernel_rfl) (by kernel_rfl) (by kernel_rfl) (fun _ _ _ h => h) (Or.inl ⟨by rfl, fun w hS => by go_simp⟩) hHeld ?_
      simp only [Act.put, List.getElem_toArray, List.getElem_cons_zero, List.getElem_cons_succ, List.setIfInBounds_toArray, List.set_cons_zero, List.set_cons_succ]
      refine wpAnyH_take (i := 11) (v := .slice ua ul uc) rfl (by kernel_rfl) (by kernel_rfl) (by kernel_rfl) (fun _ _ _ h => h) (Or.inl ⟨by rfl, fun w hS => by (have q1 := rng_val hS HKL.out; go_simp)⟩) hHeld ?_
      simp only [Act.put, List.getElem_toArray, List.getElem_cons_zero, List.getElem_cons_succ, List.setIfInBounds_toArray, List.set_cons_zero, List.set_cons_succ]
      refine wpAnyH_ready (rs := [12]) (by kernel_rfl) (by simp) ?_
      refine AllReadyH.cons rfl (fun KQ hK => ?_) AllReadyH.nil
      go_simp
      refine (HPT.out _ (HT.out.grow (below_drewN (Below.refl _ _) 1))).mono ?_
      rintro e z1 ⟨ty, tn, rfl, hty, hA⟩
      have HTY := hidden hty
      have HA := hidden hA
      clear hty hA
      refine hK.out _ _ (HRG.out _ HA.out.low) (fun hHeld => ?_)
      clear hK KQ
      refine wpAnyH_take (i := 13) (v := .tuple #[.int .i64 ty, .int .i64 0]) rfl (by kernel_rfl) (by kernel_rfl) (by kernel_rfl) (fun _ _ _ h => h) (Or.inl ⟨by rfl, fun w hS => by go_simp⟩) hHeld ?_
      simp only [Act.put, List.getElem_toArray, List.getElem_cons_zero, List.getElem_cons_succ, List.setIfInBounds_toArray, List.set_cons_zero, List.set_cons_succ]
      refine wpAnyH_take (i := 14) (v := .int .i64 ty) rfl (by kernel_rfl) (by kernel_rfl) (by kernel_rfl) (fun _ _ _ h => h) (Or.inl ⟨by rfl, fun w hS => by go_simp⟩) hHeld ?_
      simp only [Act.put, List.getElem_toArray, List.getElem_cons_zero, List.getElem_cons_succ, List.setIfInBounds_toArray, List.set_cons_zero, List.set_cons_succ]
      refine wpAnyH_take (i := 15) (v := .int .i64 0) rfl (by kernel_rfl) (by kernel_rfl) (by kernel_rfl) (fun _ _ _ h => h) (Or.inl ⟨by rfl, fun w hS => by go_simp⟩) hHeld ?_
      simp only [Act.put, List.getElem_toArray, List.getElem_cons_zero, List.getElem_cons_succ, List.setIfInBounds_toArray, List.set_cons_zero, List.set_cons_succ]
      refine wpAnyH_take (i := 16) (v := .int .i64 ty) rfl (by kernel_rfl) (by kernel_rfl) (by kernel_rfl) (fun _ _ _ h => h) (Or.inl ⟨by rfl, fun w hS => by go_simp⟩) hHeld ?_
      simp only [Act.put, List.getElem_toArray, List.getElem_cons_zero, List.getElem_cons_succ, List.setIfInBounds_toArray, List.set_cons_zero, List.set_cons_succ]
      refine wpAnyH_take (i := 17) (v := .int .i64 0) rfl (by kernel_rfl) (by kernel_rfl) (by kernel_rfl) (fun _ _ _ h => h) (Or.inl ⟨by rfl, fun w hS => by go_simp⟩) hHeld ?_
      simp only [Act.put, List.getElem_toArray, List.getElem_cons_zero, List.getElem_cons_succ, List.setIfInBounds_toArray, List.set_cons_zero, List.set_cons_succ]
      refine wpAnyH_done (by kernel_rfl) ?_ _
      clear hHeld
      go_wp2_with fail
      exact ⟨⟨k + 1, tn, by omega, rfl, by rw [HTY.out], by go_num, HA.out⟩, by simp [intOf]; exact mea_step k1⟩
    · obtain rfl : k = n := by omega
      have nlt : ¬ (k : Int) < (k : Int) := by omega
      have HP := hidden (HPost.out _ _ _ _ HT.out)
      clear HT HIT HPT HPost
      go_wp2_with fail
      first | exact HP.out | (go_ret3; exact HP.out)

/-! ### Literals -/
def p10Places : Nat → Option (Nat × Nat) := fun i => (#[(0, 32), (32, 1)] : Array (Nat × Nat))[i]?

theorem built_p10Eq (ps : List (Nat × Value)) : Tryz.prog.built 52 ps = Instr.fill p10Places (encP z32 (.slice none 0 0)).toArray ps := by kernel_rfl

theorem built_p10 (K : List Int) (hk : K.length = 32) : Tryz.prog.built 52 [(0, .agg (B K))] = some (encP K (.slice none 0 0)).toArray := by
  rw [built_p10Eq]
  rw [fill_one p10Places 0 0 32 (.agg (B K)) (K.map (Value.int .u8)) (encP z32 (.slice none 0 0)) _ rfl (cells_b K) (by simp [hk]) (by simp [encP, z32_length])]
  simp [encP, Instr.fill, z32]

/-- Entries without values. -/
def keyI (ks : List (List Int)) : List (Ent × Value) := ks.map fun k => ((k, []), .slice none 0 0)
def keyE (ks : List (List Int)) : List Ent := ks.map fun k => (k, [])
theorem keyI_ents (ks : List (List Int)) : (keyI ks).map (·.1) = keyE ks := by simp [keyI, keyE]

theorem prAt_lit (w : World) (ks : List (List Int)) (hk : ∀ k ∈ ks, Key k) (h0 : 0 < ks.length) (h9 : ks.length ≤ 9) : PrAt (w.alloc (.cells (flatP (keyI ks)).toArray 52)) (.slice (some ⟨w.heap.size, 0, none⟩) ks.length ks.length) (fun i => ((keyI ks).getD i (e00, undef)).2) (keyE ks) := by
  have hl : (flatP (keyI ks)).length = ks.length * 33 := by
    have : ∀ l : List (List Int), (∀ k ∈ l, Key k) → (flatP (keyI l)).length = l.length * 33 := by
      intro l
      induction l with
      | nil => intro _; rfl
      | cons k r ih =>
        intro h
        have := ih (fun q hq => h q (by simp [hq]))
        have e : flatP (keyI (k :: r)) = encP k (.slice none 0 0) ++ flatP (keyI r) := rfl
        rw [e, List.length_append, encP_length _ _ (h k (by simp)).1, this, List.length_cons]
        omega
    exact this ks hk
  have hkl : (keyI ks).length = ks.length := by simp [keyI]
  rw [← keyI_ents, ← hkl]
  refine prAt_own (base := 0) ⟨by rw [hl, hkl], .inr ⟨w.heap.size, (keyI ks).length, _, rfl, Nat.zero_le _, Blk.new _ _ _, Nat.le_refl _, by rw [hkl]; simp only [maxLen]; omega, by simp [hl, hkl], by rw [hkl, ← hl]; simp⟩⟩ (fun p hp => ?_) (fun p hp => ?_)
  · obtain ⟨k, hk2, rfl⟩ := List.mem_map.1 hp
    exact hk k hk2
  · obtain ⟨k, hk2, rfl⟩ := List.mem_map.1 hp
    exact Reads.nil _

theorem fill_at (i : Nat) (p q r xs : List Value) (rest : List (Nat × Value)) (hp : p.length = i * 33) (hq : q.length = 33) (hx : xs.length = 33) : Instr.fill (fun i => some (i * 33, 33)) (p ++ (q ++ r)).toArray ((i, .agg xs.toArray) :: rest) = Instr.fill (fun i => some (i * 33, 33)) (p ++ (xs ++ r)).toArray rest := by
  rw [fill_one (fun i => some (i * 33, 33)) i (i * 33) 33 (.agg xs.toArray) xs (p ++ (q ++ r)) rest rfl rfl hx (by simp [hp, hq])]
  have e1 : (p ++ (q ++ r)).take (i * 33) = p := by rw [← hp, List.take_left]
  have e2 : (p ++ (q ++ r)).drop (i * 33 + 33) = r := by rw [← hp, ← hq, ← List.append_assoc, ← List.length_append, List.drop_left]
  rw [e1, e2]
  simp only [List.append_assoc]
theorem cut33 (n : Nat) (zs : List Value) (h : zs.length = (n + 1) * 33) : ∃ q r, zs = q ++ r ∧ q.length = 33 ∧ r.length = n * 33 := ⟨zs.take 33, zs.drop 33, (List.take_append_drop 33 zs).symm, by rw [List.length_take]; omega, by rw [List.length_drop]; omega⟩

theorem at_bsl {P : Program} {ops : Array Oper} {Q : Exit → Act → World → Prop} {rest : List Oper} {a : Act} {w : World} {ty t : TypeId} {p : String} {f : Array Edge} {g : Option (Nat × Bool)} {n : Nat} {x : Array (Nat × Operand)} (k : Nat)
    (h : wpList P ops Q (Oper.mk (some k) (.buildSlice ty n x) t p f g :: rest) a w) : wpList P ops Q (Oper.mk (some k) (.buildSlice ty n x) t p f g :: rest) a w := h

theorem wpList_lit2 {ops : Array Oper} {rest : List Oper} {op : Oper} {a : Act} {Q : Exit → Act → World → Prop} (w : World) (hgd : op.guard = none) (x0 x1 : Operand) (ho : op.op = .buildSlice 22 2 #[(0, x0), (1, x1)])
    (k0 k1 : List Int) (hx0 : a.eval x0 = .agg (encP k0 (.slice none 0 0)).toArray) (hx1 : a.eval x1 = .agg (encP k1 (.slice none 0 0)).toArray) (hl0 : k0.length = 32) (hl1 : k1.length = 32)
    (hk : wpList Tryz.prog ops Q rest (a.put op.dst (.slice (some ⟨w.heap.size, 0, none⟩) 2 2)) (w.alloc (.cells (flatP (keyI [k0, k1])).toArray 52))) : wpList Tryz.prog ops Q (op :: rest) a w := by
  refine wpList_plain hgd fun K hK => ?_
  obtain ⟨i, z, hi, hz, hs, _, hzs⟩ := info_pair
  have hrun := run_buildSlice (P := Tryz.prog) w 22 52 2 #[(0, .agg (encP k0 (.slice none 0 0)).toArray), (1, .agg (encP k1 (.slice none 0 0)).toArray)] (flatP (keyI [k0, k1])).toArray i z Tryz.underlying22 hi hz (by rw [hs]; omega) (by rw [hs]; omega) (by
    rw [hs]
    obtain ⟨zs, hzz, hzl⟩ : ∃ zs : List Value, (Array.range (2 * 33)).map (z.cells[· % z.cells.size]!) = zs.toArray ∧ zs.length = 2 * 33 := ⟨_, (Array.toArray_toList).symm, by simp⟩
    rw [hzz, show (#[(0, Value.agg (encP k0 (.slice none 0 0)).toArray), (1, Value.agg (encP k1 (.slice none 0 0)).toArray)] : Array (Nat × Value)).toList = [(0, Value.agg (encP k0 (.slice none 0 0)).toArray), (1, Value.agg (encP k1 (.slice none 0 0)).toArray)] from rfl]
    have e0 : (encP k0 (.slice none 0 0)).length = 33 := encP_length _ _ hl0
    have e1 : (encP k1 (.slice none 0 0)).length = 33 := encP_length _ _ hl1
    obtain ⟨q0, r0, rfl, l0, m0⟩ := cut33 1 zs hzl
    obtain ⟨q1, r1, rfl, l1, m1⟩ := cut33 0 r0 m0
    obtain rfl : r1 = [] := List.eq_nil_of_length_eq_zero (by simpa using m1)
    have f0 := fill_at 0 [] q0 (q1 ++ []) (encP k0 (.slice none 0 0)) [(1, .agg (encP k1 (.slice none 0 0)).toArray)] rfl l0 e0
    rw [List.nil_append, List.nil_append] at f0
    rw [f0]
    have f1 := fill_at 1 (encP k0 (.slice none 0 0)) q1 ([]) (encP k1 (.slice none 0 0)) [] (by simp [e0]) l1 e1
    rw [f1]
    rw [Instr.fill]
    simp [flatP, keyI])
  unfold Oper.wp execOp
  simp only [ho, List.map_toArray, List.map_cons, List.map_nil, hx0, hx1, Sem.run_bind, hrun, Result.andThen_ok, Sem.run_pure]
  exact hK _ _ hk

theorem wpList_lit3 {ops : Array Oper} {rest : List Oper} {op : Oper} {a : Act} {Q : Exit → Act → World → Prop} (w : World) (hgd : op.guard = none) (x0 x1 x2 : Operand) (ho : op.op = .buildSlice 22 3 #[(0, x0), (1, x1), (2, x2)])
    (k0 k1 k2 : List Int) (hx0 : a.eval x0 = .agg (encP k0 (.slice none 0 0)).toArray) (hx1 : a.eval x1 = .agg (encP k1 (.slice none 0 0)).toArray) (hx2 : a.eval x2 = .agg (encP k2 (.slice none 0 0)).toArray) (hl0 : k0.length = 32) (hl1 : k1.length = 32) (hl2 : k2.length = 32)
    (hk : wpList Tryz.prog ops Q rest (a.put op.dst (.slice (some ⟨w.heap.size, 0, none⟩) 3 3)) (w.alloc (.cells (flatP (keyI [k0, k1, k2])).toArray 52))) : wpList Tryz.prog ops Q (op :: rest) a w := by
  refine wpList_plain hgd fun K hK => ?_
  obtain ⟨i, z, hi, hz, hs, _, hzs⟩ := info_pair
  have hrun := run_buildSlice (P := Tryz.prog) w 22 52 3 #[(0, .agg (encP k0 (.slice none 0 0)).toArray), (1, .agg (encP k1 (.slice none 0 0)).toArray), (2, .agg (encP k2 (.slice none 0 0)).toArray)] (flatP (keyI [k0, k1, k2])).toArray i z Tryz.underlying22 hi hz (by rw [hs]; omega) (by rw [hs]; omega) (by
    rw [hs]
    obtain ⟨zs, hzz, hzl⟩ : ∃ zs : List Value, (Array.range (3 * 33)).map (z.cells[· % z.cells.size]!) = zs.toArray ∧ zs.length = 3 * 33 := ⟨_, (Array.toArray_toList).symm, by simp⟩
    rw [hzz, show (#[(0, Value.agg (encP k0 (.slice none 0 0)).toArray), (1, Value.agg (encP k1 (.slice none 0 0)).toArray), (2, Value.agg (encP k2 (.slice none 0 0)).toArray)] : Array (Nat × Value)).toList = [(0, Value.agg (encP k0 (.slice none 0 0)).toArray), (1, Value.agg (encP k1 (.slice none 0 0)).toArray), (2, Value.agg (encP k2 (.slice none 0 0)).toArray)] from rfl]
    have e0 : (encP k0 (.slice none 0 0)).length = 33 := encP_length _ _ hl0
    have e1 : (encP k1 (.slice none 0 0)).length = 33 := encP_length _ _ hl1
    have e2 : (encP k2 (.slice none 0 0)).length = 33 := encP_length _ _ hl2
    obtain ⟨q0, r0, rfl, l0, m0⟩ := cut33 2 zs hzl
    obtain ⟨q1, r1, rfl, l1, m1⟩ := cut33 1 r0 m0
    obtain ⟨q2, r2, rfl, l2, m2⟩ := cut33 0 r1 m1
    obtain rfl : r2 = [] := List.eq_nil_of_length_eq_zero (by simpa using m2)
    have f0 := fill_at 0 [] q0 (q1 ++ (q2 ++ [])) (encP k0 (.slice none 0 0)) [(1, .agg (encP k1 (.slice none 0 0)).toArray), (2, .agg (encP k2 (.slice none 0 0)).toArray)] rfl l0 e0
    rw [List.nil_append, List.nil_append] at f0
    rw [f0]
    have f1 := fill_at 1 (encP k0 (.slice none 0 0)) q1 (q2 ++ []) (encP k1 (.slice none 0 0)) [(2, .agg (encP k2 (.slice none 0 0)).toArray)] (by simp [e0]) l1 e1
    rw [f1]
    have f2 := fill_at 2 (encP k0 (.slice none 0 0) ++ encP k1 (.slice none 0 0)) q2 ([]) (encP k2 (.slice none 0 0)) [] (by simp [e0, e1]) l2 e2
    simp only [List.append_assoc] at f2
    rw [f2]
    rw [Instr.fill]
    simp [flatP, keyI])
  unfold Oper.wp execOp
  simp only [ho, List.map_toArray, List.map_cons, List.map_nil, hx0, hx1, hx2, Sem.run_bind, hrun, Result.andThen_ok, Sem.run_pure]
  exact hK _ _ hk

end Go.Proofs.YtpbmpmiicdpehabGreatDoor

/- What the laws of drop ask of the document's examples (awake), as a contract. -/
namespace Go.Proofs.YtpbmpmiicdpehabGreatDoor
set_option maxRecDepth 20000
open Go.RowKit

theorem key_z : Key z32 := ⟨rfl, z32_bytes⟩

set_option maxHeartbeats 2000000 in
theorem awake10_any (w : World) (hL : ∀ w', Below w.heap.size w w' → Laid w') : Calls Tryz.prog 5 #[] w fun e w' => e = .returned (.bool true) ∧ Below w.heap.size w w' := by
  have kz := key_z
  have k1 := kyB_key 128 (by omega) (by omega)
  have hne : z32 ≠ kyB 128 := by decide
  have n1 : nN 256 0 [(z32, [])] = 1 := rfl
  have n2 : nN 256 0 (keyE [z32, kyB 128]) ≤ 2 * 257 := nN_le 256 0 _
  have hh1 : hasK (keyE [z32, kyB 128]) (kyB 128) = true := by decide
  have hh2 : hasK [(z32, [])] (kyB 128) = false := by decide
  have hd1 : dlE (keyE [z32, kyB 128]) (kyB 128) = [(z32, [])] := by decide
  have hap : (keyE [z32, kyB 128]).Pairwise fun a b => a.1 ≠ b.1 := by simpa [keyE] using hne
  have HB0 := hidden built_z
  have HB1 := hidden (built_ky 128)
  have HP0 := hidden (built_p10 z32 kz.1)
  have HP1 := hidden (built_p10 (kyB 128) k1.1)
  have HLZ := hidden kz.1
  have HLY := hidden k1.1
  have HFL : Hid (Calls Tryz.prog 7 #[.slice (some ⟨w.heap.size, 0, none⟩) 2 2] (w.alloc (.cells (flatP (keyI [z32, kyB 128])).toArray 52)) fun e w' => ∃ (g gs root : Nat), e = .returned (.tuple #[.pointer (some ⟨g, 0, none⟩), .int .i64 (root : Int), .bool true]) ∧ Dk (w.alloc (.cells (flatP (keyI [z32, kyB 128])).toArray 52)) w' g gs 10320 (keyE [z32, kyB 128]) root) := by
    have hb := grow_alloc w (.cells (flatP (keyI [z32, kyB 128])).toArray 52)
    have hv := prAt_lit w [z32, kyB 128] (fun k hk => by rcases List.mem_cons.1 hk with e | e; exact e ▸ kz; rw [List.mem_singleton.1 e]; exact k1) (by simp) (by simp)
    exact filled_any hv (by simp [keyE]) (fun e he => by simp [keyE] at he; rcases he with rfl | rfl <;> simp) hap (fun w' h => hL w' (grow_trans hb h))
  have HLW : Hid (∀ w1 w', Below w.heap.size w w1 → Below w1.heap.size w1 w' → Laid w') := fun w1 w' h1 h2 => hL w' (grow_trans h1 h2)
  have HG0 := hidden (grow_alloc w (.cells (flatP (keyI [z32, kyB 128])).toArray 52))
  have HD1 : Hid (∀ w1 w' g gs (r : Nat), Below w.heap.size w w1 → Dk w1 w' g gs 10320 (keyE [z32, kyB 128]) r → Calls Tryz.prog 11 #[.pointer (some ⟨g, 0, none⟩), .int .i64 (r : Int), .agg (B (kyB 128))] w' fun e w'' => ∃ top : Nat, e = .returned (.tuple #[.int .i64 (top : Int), .bool true, .int .i64 0]) ∧ Dk w1 w'' g gs 10320 [(z32, [])] top) := fun w1 w' g gs r hb h => by
    refine (dk_drop h k1 (fun w'' h2 => HLW.out w1 w'' hb h2) (by omega)).mono ?_
    rintro e w'' ⟨top, rfl, q1, _⟩
    rw [hd1] at q1
    exact ⟨top, by rw [hh1], q1⟩
  have HD2 : Hid (∀ w1 w' g gs (r : Nat), Below w.heap.size w w1 → Dk w1 w' g gs 10320 [(z32, [])] r → Calls Tryz.prog 11 #[.pointer (some ⟨g, 0, none⟩), .int .i64 (r : Int), .agg (B (kyB 128))] w' fun e w'' => e = .returned (.tuple #[.int .i64 (r : Int), .bool false, .int .i64 0]) ∧ Dk w1 w'' g gs 10320 [(z32, [])] r) := fun w1 w' g gs r hb h => by
    refine (dk_drop h k1 (fun w'' h2 => HLW.out w1 w'' hb h2) (by rw [n1]; omega)).mono ?_
    rintro e w'' ⟨top, rfl, q1, q2⟩
    obtain rfl := q2 hh2
    rw [dl_none hh2] at q1
    exact ⟨by rw [hh2], q1⟩
  have HSZ : Hid (∀ w1 w' g gs (r : Nat), Dk w1 w' g gs 10320 [(z32, [])] r → Calls Tryz.prog 14 #[.pointer (some ⟨g, 0, none⟩), .int .i64 (r : Int)] w' fun e w'' => e = .returned (.int .i64 1) ∧ Below w'.heap.size w' w'') := fun w1 w' g gs r h => h.size
  have HOC : Hid (∀ w1 w' g gs (r : Nat), Dk w1 w' g gs 10320 [(z32, [])] r → Calls Tryz.prog 10 #[.pointer (some ⟨g, 0, none⟩)] w' fun e w'' => e = .returned (.int .i64 1) ∧ Below w'.heap.size w' w'') := fun w1 w' g gs r h => h.occ
  have HKD : Hid (∀ w1 w' g gs (r : Nat), Dk w1 w' g gs 10320 [(z32, [])] r → Calls Tryz.prog 19 #[.pointer (some ⟨g, 0, none⟩), .int .i64 (r : Int)] w' fun e w'' => e = .returned (.int .u8 1) ∧ Below w'.heap.size w' w'') := fun w1 w' g gs r h => h.leaf rfl
  generalize [(z32, ([] : List Int))] = E1 at HD1 HD2 HSZ HOC HKD
  generalize keyE [z32, kyB 128] = E2 at HD1 HFL
  generalize z32 = Z at HB0 HP0 HLZ HFL HG0
  generalize kyB 128 = Y at HB1 HP1 HLY HFL HD1 HD2 HG0
  clear hL kz k1 hne n1 n2 hh1 hh2 hd1 hap HLW
  go_enter Tryz.func5, Tryz.ntmps5
  go_wp2_with (first
    | ((with_reducible refine at_bdd 11 ?_); refine wpList_bld _ rfl _ _ rfl _ (by rw [List.map_toArray]; exact HB0.out) ?_)
    | ((with_reducible refine at_bdd 12 ?_); refine wpList_bld _ rfl _ _ rfl _ (by rw [List.map_toArray]; exact HP0.out) ?_)
    | ((with_reducible refine at_bdd 13 ?_); refine wpList_bld _ rfl _ _ rfl _ (by rw [List.map_toArray]; exact HB1.out) ?_)
    | ((with_reducible refine at_bdd 14 ?_); refine wpList_bld _ rfl _ _ rfl _ (by rw [List.map_toArray]; exact HP1.out) ?_)
    | ((with_reducible refine at_bdd 23 ?_); refine wpList_bld _ rfl _ _ rfl _ (by rw [List.map_toArray]; exact HB1.out) ?_)
    | ((with_reducible refine at_bdd 31 ?_); refine wpList_bld _ rfl _ _ rfl _ (by rw [List.map_toArray]; exact HB1.out) ?_)
    | ((with_reducible refine at_bsl 15 ?_); refine wpList_lit2 _ rfl _ _ rfl Z Y rfl rfl HLZ.out HLY.out ?_)
    | (go_at_call 7; refine HFL.out.mono ?_; rintro e w2 ⟨g, gs, r, rfl, d2⟩; have HK2 := hidden d2; clear d2)
    | (go_at_call 11; have mk := mk1; clear mk; refine (HD2.out _ _ _ _ _ HG0.out HK3.out).mono ?_; rintro e w4 ⟨rfl, d4⟩; replace HK3 := hidden d4; clear d4)
    | (go_at_call 11; refine (HD1.out _ _ _ _ _ HG0.out HK2.out).mono ?_; rintro e w3 ⟨x, rfl, d3⟩; have HK3 := hidden d3; clear d3; have mk1 : Hid True := trivial)
    | (go_at_call 14; refine (HSZ.out _ _ _ _ _ HK3.out).mono ?_; rintro e w5 ⟨rfl, b5⟩; replace HK3 := hidden (HK3.out.grow b5); clear b5)
    | (go_at_call 10; refine (HOC.out _ _ _ _ _ HK3.out).mono ?_; rintro e w5 ⟨rfl, b5⟩; replace HK3 := hidden (HK3.out.grow b5); clear b5)
    | (go_at_call 19; refine (HKD.out _ _ _ _ _ HK3.out).mono ?_; rintro e w5 ⟨rfl, b5⟩; replace HK3 := hidden (HK3.out.grow b5); clear b5))
  go_ret
  exact ⟨rfl, grow_trans HG0.out HK3.out.low⟩

end Go.Proofs.YtpbmpmiicdpehabGreatDoor

/- A set of keys, a map of the call's own: looked up, and one key more. -/
namespace Go.Proofs.YtpbmpmiicdpehabGreatDoor
set_option maxRecDepth 20000
open Go.RowKit

theorem part_byte (xs : List Int) (i : Nat) (hi : i < xs.length) (w : World) : (part 5 (B xs) i).run Tryz.prog w = .ok (.int .u8 (xs.getD i 0)) w := by
  have hagg : (isAgg 5).run Tryz.prog w = .ok false w := Tryz.isAgg5 w
  have h1 := B_get xs i hi
  unfold part
  rw [Sem.run_bind, hagg]
  simp only [Result.andThen_ok, Bool.false_eq_true, if_false, h1, Sem.run_pure]

theorem check_path (xs : List Int) (em : Bool) (hx : xs.length = 32) (w : World) : (Instr.checkKey em 10000 32 (.agg (B xs))).run Tryz.prog w = .ok () w := by
  obtain ⟨i, hi⟩ : ∃ i, Tryz.prog.info? 5 = some i := ⟨_, rfl⟩
  have hsz : i.size = 1 := by
    have := cellsOf_byte
    simpa [Program.cellsOf, hi] using this
  have hs : ∀ w, (Go.sizeOf 5).run Tryz.prog w = .ok 1 w := fun w => by simp [Go.sizeOf, typeInfo, hi, hsz]
  have hb : ∀ z w, (Instr.checkKey em 9999 5 (.int .u8 z)).run Tryz.prog w = .ok () w := fun z w => by
    rw [show (9999 : Nat) = 9998 + 1 from rfl, Instr.checkKey]
    simp [Sem.run_bind, run_underlying u_byte]
  rw [show (10000 : Nat) = 9999 + 1 from rfl, Instr.checkKey]
  simp only [Sem.run_bind, run_underlying u_path, Result.andThen_ok]
  simp only [Std.Legacy.Range.forIn_eq_forIn_range', Std.Legacy.Range.size, Nat.sub_zero, Nat.add_one_sub_one, Nat.div_one]
  have each : ∀ j ∈ List.range' 0 32, j < 32 := fun j hj => by simp at hj; omega
  generalize List.range' 0 32 = js at each
  induction js with
  | nil => simp
  | cons j js ih =>
    have hj := each j (by simp)
    simp only [List.forIn_cons, Sem.run_bind, hs, Result.andThen_ok, Nat.mul_one, part_byte xs j (by omega), hb, Sem.run_pure]
    exact ih (fun y hy => each y (by simp [hy]))

/-- Block b is a map whose keys are these, each with the value of no field. -/
def KeysAt (w : World) (b : Nat) (ks : List (List Int)) : Prop :=
  ∃ es clock, w.heap[b]? = some (.map es clock) ∧ es.toList.map (fun e => (e.key, e.val)) = ks.map (fun k => (Value.agg (B k), Value.agg #[]))

theorem KeysAt.lt {w : World} {b : Nat} {ks : List (List Int)} (h : KeysAt w b ks) : b < w.heap.size := by
  obtain ⟨es, c, h1, _⟩ := h
  exact (Array.getElem?_eq_some_iff.1 h1).1
theorem KeysAt.grow {w w' : World} {b : Nat} {ks : List (List Int)} (h : KeysAt w b ks) (hb : Below w.heap.size w w') : KeysAt w' b ks := by
  have hl := h.lt
  obtain ⟨es, c, h1, h2⟩ := h
  exact ⟨es, c, (hb.block b hl).trans h1, h2⟩
theorem KeysAt.new (w : World) : KeysAt (w.alloc (.map #[] 0)) w.heap.size [] := ⟨#[], 0, heap_alloc_new w _, rfl⟩

theorem equal_key (xs ys : List Int) (hx : xs.length = 32) (hy : ys.length = 32) (w : World) : (Op.equal 32 (.agg (B xs)) (.agg (B ys))).run Tryz.prog w = .ok (decide (xs = ys)) w := path_eq xs ys hx hy w

theorem find_asking (xs : List Int) (hx : xs.length = 32) (w : World) : ∀ (es : List MapEntry) (ks : List (List Int)) (i : Nat), (∀ k ∈ ks, k.length = 32) → es.map (fun e => (e.key, e.val)) = ks.map (fun k => (Value.agg (B k), Value.agg #[])) →
    ∃ r, (Instr.findAsking 32 (.agg (B xs)) es i).run Tryz.prog w = .ok r w ∧ (xs ∈ ks → ∃ j, r = some (j, .agg #[])) ∧ (xs ∉ ks → r = none)
  | [], ks, i, _, h => by
    have : ks = [] := by simpa using h.symm
    subst this
    exact ⟨none, by simp [Instr.findAsking], fun h => by simp at h, fun _ => rfl⟩
  | e :: es, [], i, _, h => by simp at h
  | e :: es, k :: ks, i, hl, h => by
    simp only [List.map_cons, List.cons.injEq, Prod.mk.injEq] at h
    obtain ⟨⟨h1, h2⟩, h3⟩ := h
    have he := equal_key xs k hx (hl k (by simp)) w
    by_cases hk : xs = k
    · refine ⟨some (i, e.val), ?_, fun _ => ⟨i, by rw [h2]⟩, fun hn => absurd (by simp [hk]) hn⟩
      rw [Instr.findAsking, Sem.run_bind, h1, he]
      simp [hk]
    · obtain ⟨r, r1, r2, r3⟩ := find_asking xs hx w es ks (i + 1) (fun q hq => hl q (by simp [hq])) h3
      refine ⟨r, ?_, fun hm => r2 ((List.mem_cons.1 hm).resolve_left hk), fun hn => r3 (fun hm => hn (by simp [hm]))⟩
      rw [Instr.findAsking, Sem.run_bind, h1, he]
      simp only [Result.andThen_ok, decide_eq_false hk, Bool.false_eq_true, if_false]
      exact r1

theorem find_key (xs : List Int) (hx : xs.length = 32) (w : World) (es : List MapEntry) (ks : List (List Int)) (hl : ∀ k ∈ ks, k.length = 32) (h : es.map (fun e => (e.key, e.val)) = ks.map (fun k => (Value.agg (B k), Value.agg #[]))) :
    ∃ r, (Instr.findKey 32 (.agg (B xs)) es).run Tryz.prog w = .ok r w ∧ (xs ∈ ks → ∃ j, r = some (j, .agg #[])) ∧ (xs ∉ ks → r = none) := by
  match es, ks, h with
  | [], ks, h =>
    have : ks = [] := by simpa using h.symm
    subst this
    refine ⟨none, ?_, fun h => by simp at h, fun _ => rfl⟩
    unfold Instr.findKey
    rw [Sem.run_bind, run_underlying u_path]
    simp [Instr.findNow]
  | e :: es, ks, h =>
    obtain ⟨r, r1, r2, r3⟩ := find_asking xs hx w (e :: es) ks 0 hl h
    refine ⟨r, ?_, r2, r3⟩
    unfold Instr.findKey
    rw [Sem.run_bind, run_underlying u_path]
    simp only [Result.andThen_ok, Instr.findNow, Instr.sameNow]
    exact r1

theorem u_keymap : Tryz.prog.underlying 144 = some (.map 32 145) := Tryz.underlying144

theorem zero_unit : ∀ w, (zeroValue 145).run Tryz.prog w = .ok (.agg #[]) w := Tryz.zeroValue145

/-- Is a key among them? -/
theorem wpList_look {ops : Array Oper} {rest : List Oper} {op : Oper} {a : Act} {Q : Exit → Act → World → Prop} (w : World) (hgd : op.guard = none) (m x : Operand) (ho : op.op = .lookup 144 m x true)
    (b : Nat) (ks : List (List Int)) (xs : List Int) (hm : a.eval m = .map (some b)) (hx : a.eval x = .agg (B xs)) (hl : xs.length = 32) (hk : ∀ k ∈ ks, k.length = 32) (h : KeysAt w b ks)
    (hK : wpList Tryz.prog ops Q rest (a.put op.dst (.tuple #[.agg #[], .bool (decide (xs ∈ ks))])) w) : wpList Tryz.prog ops Q (op :: rest) a w := by
  refine wpList_plain hgd fun K hK' => ?_
  obtain ⟨es, c, h1, h2⟩ := h
  obtain ⟨r, r1, r2, r3⟩ := find_key xs hl w es.toList ks hk h2
  have hrun : (Instr.lookup 144 (.map (some b)) (.agg (B xs)) true).run Tryz.prog w = .ok (.tuple #[.agg #[], .bool (decide (xs ∈ ks))]) w := by
    have go : (getObj b).run Tryz.prog w = .ok (.map es c) w := by simp [getObj, Sem.run, h1]
    unfold Instr.lookup
    by_cases hmem : xs ∈ ks
    · obtain ⟨j, rfl⟩ := r2 hmem
      simp [run_underlying u_keymap, go, check_path xs _ hl, r1, hmem, Result.andThen]
    · rw [r3 hmem] at r1
      simp [run_underlying u_keymap, go, check_path xs _ hl, r1, hmem, Result.andThen]
  unfold Oper.wp execOp
  simp only [ho, hm, hx, Sem.run_bind, hrun, Result.andThen_ok, Sem.run_pure]
  exact hK' _ _ hK

/-- One key more, that was not among them. -/
theorem wpList_keyPut {ops : Array Oper} {rest : List Oper} {op : Oper} {a : Act} {Q : Exit → Act → World → Prop} (w : World) (hgd : op.guard = none) (m x v : Operand) (ho : op.op = .mapUpdate 144 m x v)
    (b : Nat) (ks : List (List Int)) (xs : List Int) (hm : a.eval m = .map (some b)) (hx : a.eval x = .agg (B xs)) (hv : a.eval v = .agg #[]) (hl : xs.length = 32) (hk : ∀ k ∈ ks, k.length = 32) (hn : xs ∉ ks) (h : KeysAt w b ks)
    (hK : ∀ w', KeysAt w' b (ks ++ [xs]) → w.grownBy w' (some b) → wpList Tryz.prog ops Q rest (a.put op.dst undef) w') : wpList Tryz.prog ops Q (op :: rest) a w := by
  refine wpList_plain hgd fun K hK' => ?_
  have hb := h.lt
  obtain ⟨es, c, h1, h2⟩ := h
  obtain ⟨r, r1, _, r3⟩ := find_key xs hl w es.toList ks hk h2
  rw [r3 hn] at r1
  have hrun : (Instr.mapUpdate 144 (.map (some b)) (.agg (B xs)) (.agg #[])).run Tryz.prog w = .ok () { w with heap := w.heap.setIfInBounds b (.map (es.push { key := .agg (B xs), val := .agg #[], born := c }) (c + 1)) } := by
    unfold Instr.mapUpdate
    have go : (getObj b).run Tryz.prog w = .ok (.map es c) w := by simp [getObj, Sem.run, h1]
    have so : ∀ o, (setObj b o).run Tryz.prog w = .ok () { w with heap := w.heap.setIfInBounds b o } := fun o => by simp [setObj, Sem.run, h1]
    simp [run_underlying u_keymap, go, so, check_path xs _ hl, r1, Result.andThen]
  unfold Oper.wp execOp
  simp only [ho, hm, hx, hv, Sem.run_bind, hrun, Result.andThen_ok, Sem.run_pure]
  refine hK' _ _ (hK _ ⟨es.push { key := .agg (B xs), val := .agg #[], born := c }, c + 1, by simp [hb], by simp [h2]⟩ ⟨rfl, rfl, rfl, by simp, fun k _ hne => ?_⟩)
  have : b ≠ k := fun e => hne (by rw [e])
  simp [this]

end Go.Proofs.YtpbmpmiicdpehabGreatDoor
