/- A region that draws its order, whose last operation (number L, for which all others are waited) may write what the loads ahead of it read: what is held (S) is asked for behind every operation but that one. -/
import Derived.Deep.RegionHeld
import Derived.Test.YtnnmfgnommbmkaaGreatDoorLa01
import Derived.Test.YtnnmfgnommbmkaaGreatDoorLa21
import Derived.Test.YtnnmfgnommbmkaaGreatDoorLa02
import Derived.Test.YtnnmfgnommbmkaaGreatDoorLa13
namespace Go.Proofs.YtnnmfgnommbmkaaGreatDoor
set_option maxRecDepth 20000
open Go Go.RowKit

section
variable {P : Program} {ops : Array Oper} {Q : Exit → Act → World → Prop} {md : Region.Mode} {S : World → Prop} {L : Nat}

def shutB (md : Region.Mode) (ops : Array Oper) (listed : Array Bool) : Bool :=
  (List.range ops.size).all fun c => !listed.getD c false || match ops[c]? with
    | none => true
    | some o => o.after.all fun e => !Region.binds md e || listed.getD e.on false
def ShutL (md : Region.Mode) (ops : Array Oper) (listed : Array Bool) : Prop := ∀ c o, ops[c]? = some o → listed.getD c false = true → ∀ e ∈ o.after, Region.binds md e = true → listed.getD e.on false = true
theorem shutL_of {listed : Array Bool} (h : shutB md ops listed = true) : ShutL md ops listed := by
  intro c o ho hl e he hb
  unfold shutB at h
  rw [List.all_eq_true] at h
  have h1 := h c (List.mem_range.2 (Array.getElem?_eq_some_iff.1 ho).1)
  simp only [hl, ho, Bool.not_true, Bool.false_or, Array.all_eq_true_iff_forall_mem] at h1
  have h2 := h1 e he
  simpa [hb] using h2
theorem ShutL.step {listed : Array Bool} {j : Nat} (h : ShutL md ops listed) (hj : j ∈ Region.ready md ops listed) : ShutL md ops (listed.setIfInBounds j true) := by
  intro c o ho hl e he hb
  by_cases hcj : j = c
  · subst hcj
    obtain ⟨_, o', ho', hall⟩ := mem_ready.1 hj
    rw [ho] at ho'
    obtain rfl := Option.some.inj ho'
    exact getD_set_true (hall e he hb)
  · rw [getD_set_ne false hcj] at hl
    exact getD_set_true (h c o ho hl e he hb)

def leads (md : Region.Mode) (ops : Array Oper) (i : Nat) : Nat → Nat → Bool
  | 0, _ => false
  | n + 1, c => match ops[c]? with
    | none => false
    | some o => o.after.any fun e => Region.binds md e && (e.on == i || leads md ops i n e.on)
theorem leads_on {listed : Array Bool} {i : Nat} (hs : ShutL md ops listed) (hi : listed.getD i false = false) : ∀ (n c : Nat), leads md ops i n c = true → ∀ o, ops[c]? = some o → (∀ e ∈ o.after, Region.binds md e = true → listed.getD e.on false = true) → False
  | 0, _, h, _, _, _ => by simp [leads] at h
  | n + 1, c, h, o, ho, hall => by
    unfold leads at h
    rw [ho] at h
    obtain ⟨e, he, hb⟩ := Array.any_eq_true'.1 h
    simp only [Bool.and_eq_true, Bool.or_eq_true, beq_iff_eq] at hb
    have h1 := hall e he hb.1
    rcases hb.2 with q | q
    · rw [q, hi] at h1
      cases h1
    · cases ho2 : ops[e.on]? with
      | none =>
        cases n with
        | zero => simp [leads] at q
        | succ n => unfold leads at q; rw [ho2] at q; cases q
      | some o2 => exact leads_on hs hi n e.on q o2 ho2 (hs e.on o2 ho2 h1)

def wpAnyL (P : Program) (md : Region.Mode) (ops : Array Oper) (Q : Exit → Act → World → Prop) (S : World → Prop) (L : Nat) : Nat → Array Bool → Act → World → Prop
  | 0, listed, a, w => Region.ready md ops listed = [] ∧ Q .normal a w
  | fuel + 1, listed, a, w =>
    (Region.ready md ops listed = [] → Q .normal a w) ∧
    ∀ i ∈ Region.ready md ops listed, wpOp P ops Q i (fun a' w' => (i = L ∨ S w') ∧ wpAnyL P md ops Q S L fuel (listed.setIfInBounds i true) a' w') a w

theorem wpAny_of_last : ∀ (fuel : Nat) (listed : Array Bool) (a : Act) (w : World), wpAnyL P md ops Q S L fuel listed a w → wpAny P md ops Q fuel listed a w
  | 0, _, _, _, h => h
  | fuel + 1, _, _, _, h => ⟨h.1, fun i hi => wpOp_mono (fun a' w' h' => wpAny_of_last fuel _ a' w' h'.2) (h.2 i hi)⟩

theorem wpAnyL_first {i n : Nat} {oi : Oper} {v : Value} (hi : ops[i]? = some oi) (hsel : ∀ (j : Nat) (o : Oper) cs b, ops[j]? = some o → o.op ≠ .select cs b)
    (hQ : ∀ c a w, Q (.panic c) (a.put oi.dst v) w → Q (.panic c) a w) (hld : leads md ops i n L = true) :
    ∀ (fuel : Nat) (listed : Array Bool) (a : Act) (w : World), ShutL md ops listed →
      (∀ j oj, ops[j]? = some oj → j ≠ i → listed.getD j true = false → (∀ e ∈ oj.after, Region.binds md e = true → e.on ≠ i) → oi.apart ops oj = true) →
      i ∈ Region.ready md ops listed → YieldsIf P ops S oi v a → S w →
      wpAnyL P md ops Q S L fuel (listed.setIfInBounds i true) (a.put oi.dst v) w → wpAnyL P md ops Q S L (fuel + 1) listed a w := by
  intro fuel
  induction fuel with
  | zero =>
    intro listed a w _ _ hr hy hS H
    refine ⟨fun h => (by rw [h] at hr; cases hr), fun j hj => ?_⟩
    by_cases hji : j = i
    · subst hji; exact hy.wpOp hi hS ⟨.inr hS, H⟩
    · have := ready_mono hj hji
      rw [H.1] at this
      cases this
  | succ fuel ih =>
    intro listed a w hsh hfree hr hy hS H
    refine ⟨fun h => (by rw [h] at hr; cases hr), fun j hj => ?_⟩
    by_cases hji : j = i
    · subst hji; exact hy.wpOp hi hS ⟨.inr hS, H⟩
    · have h1 := H.2 j (ready_mono hj hji)
      obtain ⟨hjun, oj, hoj, hall⟩ := mem_ready.1 hj
      have hi0 : listed.getD i false = false := by
        have h0 := (mem_ready.1 hr).1
        rcases Nat.lt_or_ge i listed.size with h' | h'
        · simpa [h'] using h0
        · simp [Array.getElem?_eq_none h']
      have hjL : j ≠ L := fun e => by
        subst e
        exact leads_on hsh hi0 n j hld oj hoj hall
      have hnot : ∀ e ∈ oj.after, Region.binds md e = true → e.on ≠ i := fun e he hb heq => by
        have h1 := hall e he hb
        rw [heq, hi0] at h1
        cases h1
      have h2 := wpOp_putIf hoj (hfree j oj hoj hji hjun hnot) (fun cs b => hsel i oi cs b hi) (fun cs b => hsel j oj cs b hoj) hQ hy h1
      have hfree' : ∀ k ok, ops[k]? = some ok → k ≠ i → (listed.setIfInBounds j true).getD k true = false →
          (∀ e ∈ ok.after, Region.binds md e = true → e.on ≠ i) → oi.apart ops ok = true := fun k ok hk hki hun hno => by
        refine hfree k ok hk hki ?_ hno
        by_cases hjk : j = k
        · subst hjk; exact hjun
        · rw [getD_set_ne true hjk] at hun; exact hun
      refine wpOp_mono (fun a' w' h3 => ⟨h3.2.1, ih (listed.setIfInBounds j true) a' w' (hsh.step hj) hfree' (ready_mono hr (Ne.symm hji)) h3.1 (h3.2.1.resolve_left hjL) ?_⟩) h2
      rw [Array.setIfInBounds_comm _ _ hji]
      exact h3.2.2

theorem wpAnyL_take {i : Nat} {oi : Oper} {v : Value} {fuel : Nat} {listed : Array Bool} {a : Act} {w : World} (hi : ops[i]? = some oi)
    (hs : Region.noSelect ops = true) (hf : Region.free md ops listed i = true) (hr : (Region.ready md ops listed).contains i = true) (hld : leads md ops i 40 L = true) (hsh : shutB md ops listed = true)
    (hQ : ∀ c a w, Q (.panic c) (a.put oi.dst v) w → Q (.panic c) a w) (hy : YieldsIf P ops S oi v a) (hS : S w)
    (h : wpAnyL P md ops Q S L fuel (listed.setIfInBounds i true) (a.put oi.dst v) w) : wpAnyL P md ops Q S L (fuel + 1) listed a w :=
  wpAnyL_first hi (Region.noSelect_spec hs) hQ hld fuel listed a w (shutL_of hsh) (Region.free_spec hi hf) (by simpa using hr) hy hS h

theorem tlp (i : Nat) (v : Value) {oi : Oper} {fuel : Nat} {listed : Array Bool} {a : Act} {w : World} (hS : S w) (h : wpAnyL P md ops Q S L fuel (listed.setIfInBounds i true) (a.put oi.dst v) w)
    (hi : ops[i]? = some oi := by rfl) (hs : Region.noSelect ops = true := by kernel_rfl) (hf : Region.free md ops listed i = true := by kernel_rfl) (hr : (Region.ready md ops listed).contains i = true := by kernel_rfl) (hld : leads md ops i 40 L = true := by kernel_rfl) (hsh : shutB md ops listed = true := by kernel_rfl)
    (hQ : ∀ c a w, Q (.panic c) (a.put oi.dst v) w → Q (.panic c) a w := by exact fun _ _ _ h => h) (hy : YieldsIf P ops S oi v a := by exact Or.inl ⟨by rfl, fun w hS => by go_simp⟩) : wpAnyL P md ops Q S L (fuel + 1) listed a w := wpAnyL_take hi hs hf hr hld hsh hQ hy hS h
theorem tlg (i : Nat) (v : Value) {oi : Oper} {fuel : Nat} {listed : Array Bool} {a : Act} {w : World} (hi : ops[i]? = some oi) (hy : YieldsIf P ops S oi v a) (hS : S w) (h : wpAnyL P md ops Q S L fuel (listed.setIfInBounds i true) (a.put oi.dst v) w)
    (hs : Region.noSelect ops = true := by kernel_rfl) (hf : Region.free md ops listed i = true := by kernel_rfl) (hr : (Region.ready md ops listed).contains i = true := by kernel_rfl) (hld : leads md ops i 40 L = true := by kernel_rfl) (hsh : shutB md ops listed = true := by kernel_rfl)
    (hQ : ∀ c a w, Q (.panic c) (a.put oi.dst v) w → Q (.panic c) a w := by exact fun _ _ _ h => h) : wpAnyL P md ops Q S L (fuel + 1) listed a w := wpAnyL_take hi hs hf hr hld hsh hQ hy hS h

def AllReadyL (P : Program) (md : Region.Mode) (ops : Array Oper) (Q : Exit → Act → World → Prop) (S : World → Prop) (L : Nat) (fuel : Nat) (listed : Array Bool) (a : Act) (w : World) (rs : List Nat) : Prop :=
  ∀ i ∈ rs, wpOp P ops Q i (fun a' w' => (i = L ∨ S w') ∧ wpAnyL P md ops Q S L fuel (listed.setIfInBounds i true) a' w') a w
theorem AllReadyL.nil {fuel : Nat} {listed : Array Bool} {a : Act} {w : World} : AllReadyL P md ops Q S L fuel listed a w [] := fun _ h => by cases h
theorem AllReadyL.cons {fuel : Nat} {listed : Array Bool} {a : Act} {w : World} {i : Nat} {o : Oper} {rs : List Nat} (ho : ops[i]? = some o)
    (h : ∀ K' : Act → World → Prop, Shut (∀ a w, (i = L ∨ S w) → (S w → wpAnyL P md ops Q S L fuel (listed.setIfInBounds i true) a w) → (i = L → wpAnyL P md ops Q S L fuel (listed.setIfInBounds i true) a w) → K' a w) → if Region.wanted o (yielded ops a.tmps) = true then Oper.wp P o a w K' Q else K' (a.put o.dst undef) w)
    (hs : AllReadyL P md ops Q S L fuel listed a w rs) : AllReadyL P md ops Q S L fuel listed a w (i :: rs) := fun j hj => by
  rcases List.mem_cons.1 hj with rfl | hj
  · exact wpOp_step ho (fun K' hK => h K' (fun a w hS hW hL => hK a w ⟨hS, hS.elim hL hW⟩))
  · exact hs j hj

theorem wpAnyL_ready {rs : List Nat} {fuel : Nat} {listed : Array Bool} {a : Act} {w : World} (hr : Region.ready md ops listed = rs) (hne : rs ≠ [])
    (h : AllReadyL P md ops Q S L fuel listed a w rs) : wpAnyL P md ops Q S L (fuel + 1) listed a w := ⟨fun h0 => absurd (hr ▸ h0) hne, hr ▸ h⟩

theorem wpAnyL_one {fuel : Nat} {listed : Array Bool} {a : Act} {w : World} {i : Nat} {o : Oper} (ho : ops[i]? = some o) (hr : Region.ready md ops listed = [i])
    (h : ∀ K' : Act → World → Prop, Shut (∀ a w, S w → (S w → wpAnyL P md ops Q S L fuel (listed.setIfInBounds i true) a w) → K' a w) → if Region.wanted o (yielded ops a.tmps) = true then Oper.wp P o a w K' Q else K' (a.put o.dst undef) w) :
    wpAnyL P md ops Q S L (fuel + 1) listed a w :=
  wpAnyL_ready hr (by simp) (AllReadyL.cons ho (fun K' hK => h K' (fun a w hS hW => hK.out a w (.inr hS) hW (fun _ => hW hS))) AllReadyL.nil)

theorem wpAnyL_last {fuel : Nat} {listed : Array Bool} {a : Act} {w : World} {o : Oper} (ho : ops[L]? = some o) (hr : Region.ready md ops listed = [L]) (he : Region.ready md ops (listed.setIfInBounds L true) = [])
    (h : ∀ K' : Act → World → Prop, Shut (∀ a w, Q .normal a w → K' a w) → if Region.wanted o (yielded ops a.tmps) = true then Oper.wp P o a w K' Q else K' (a.put o.dst undef) w) :
    wpAnyL P md ops Q S L (fuel + 1) listed a w :=
  wpAnyL_ready hr (by simp) (AllReadyL.cons ho (fun K' hK => h K' (fun a w hQ => by
    have hd : wpAnyL P md ops Q S L fuel (listed.setIfInBounds L true) a w := by
      cases fuel with
      | zero => exact ⟨he, hQ⟩
      | succ n => exact ⟨fun _ => hQ, by rw [he]; simp⟩
    exact hK.out a w (.inl rfl) (fun _ => hd) (fun _ => hd))) AllReadyL.nil)

theorem wp_region_last {id : Nat} {a : Act} {w : World} (L : Nat) (hm : P.follows .mixedOrders = true) (hS : S w.drew)
    (h : S w.drew → wpAnyL P .any ops Q S L ops.size (Array.replicate ops.size false) a w.drew) : (Code.region id ops true).wp P Q a w :=
  wp_region_any hm (wpAny_of_last _ _ _ _ (h hS))

end
end Go.Proofs.YtnnmfgnommbmkaaGreatDoor

namespace Go.Proofs.YtnnmfgnommbmkaaGreatDoor
set_option maxRecDepth 20000
open Go.RowKit

def fitP (d : Nat) (L R : Ce) (u : Bool) : Bool := decide (2 ≤ L.sz + R.sz) && (fsP L d 0 && (fsP R d 1 && (decide (L.kind = 0) || (decide (R.kind = 0) || u))))

set_option maxHeartbeats 2000000 in
theorem fit_any (d : Nat) (L R : Ce) (u : Bool) (w : World) (hL : CeOk L) (hR : CeOk R) (hd : d < 256) (sL : L.sz ≤ 65536) (sR : R.sz ≤ 65536) (hu : u = true ↔ Und L.key R.key (d : Int)) : Calls Tryz.prog 96 #[.int .i64 (d : Int), .agg (cz L).toArray, .agg (cz R).toArray] w fun e w' => e = .returned (.bool (fitP d L R u)) ∧ Below w.heap.size w w' := by
  have HOL := hidden hL
  have HOR := hidden hR
  have HFL : Hid (∀ w', Calls Tryz.prog 117 #[.agg (cz L).toArray, .int .i64 (d : Int), .int .i64 0] w' fun e w'' => e = .returned (.bool (fsP L d 0)) ∧ Below w'.heap.size w' w'') := fun w' => fits_any L d 0 w' hL hd
  have HFR : Hid (∀ w', Calls Tryz.prog 117 #[.agg (cz R).toArray, .int .i64 (d : Int), .int .i64 1] w' fun e w'' => e = .returned (.bool (fsP R d 1)) ∧ Below w'.heap.size w' w'') := fun w' => fits_any R d 1 w' hR hd
  have HU : Hid (∀ w', Calls Tryz.prog 56 #[.agg (B L.key), .agg (B R.key), .int .i64 (d : Int)] w' fun e w'' => e = .returned (.bool u) ∧ Below w'.heap.size w' w'') := fun w' => under_at L.key R.key d u w' hL.hk hR.hk hu
  have hws : wrap64 ((L.sz : Int) + (R.sz : Int)) = (L.sz : Int) + (R.sz : Int) := Go.IntWalk.wrap64_in _ (by omega)
  have hV : fitP d L R u = (decide (2 ≤ L.sz + R.sz) && (fsP L d 0 && (fsP R d 1 && (decide (L.kind = 0) || (decide (R.kind = 0) || u))))) := rfl
  obtain ⟨kL, hkL⟩ : ∃ k, k = L.kind := ⟨_, rfl⟩
  obtain ⟨kR, hkR⟩ : ∃ k, k = R.kind := ⟨_, rfl⟩
  obtain ⟨zL, hzL⟩ : ∃ k, k = L.sz := ⟨_, rfl⟩
  obtain ⟨zR, hzR⟩ : ∃ k, k = R.sz := ⟨_, rfl⟩
  rw [← hkL, ← hkR, ← hzL, ← hzR] at hV
  rw [← hzL, ← hzR] at hws
  have HkL := hidden hkL
  have HkR := hidden hkR
  have HzL := hidden hzL
  have HzR := hidden hzR
  clear hkL hkR hzL hzR hu sL sR hL hR hd
  by_cases h2 : 2 ≤ zL + zR
  · have i2 : ¬ (zL : Int) + (zR : Int) < 2 := by omega
    cases hfL : fsP L d 0 with
    | false =>
      rw [show fitP d L R u = false by rw [hV, hfL]; simp]
      clear hV h2
      go_enter Tryz.func96, Tryz.ntmps96
      go_wp2_with (first
        | ((with_reducible refine at_bxd 4 ?_); refine wpList_bx _ rfl _ _ rfl _ rfl ?_; intro w1 b4 hg4 hl4 B4 b1; have HB4 := hidden B4; have Hl4 := hidden hl4; clear hg4 hl4 B4)
        | ((with_reducible refine at_bxd 5 ?_); refine wpList_bx _ rfl _ _ rfl _ rfl ?_; intro w2 b5 hg5 hl5 B5 b2; have HB5 := hidden B5; have HB4' := hidden (HB4.out.grow b2); have e4 := HB4'.out.cell 34; have e5 := HB5.out.cell 34; simp only [List.getElem?_toArray] at e4 e5; rw [(cz_at L HOL.out).2.2.1, ← HzL.out] at e4; rw [(cz_at R HOR.out).2.2.1, ← HzR.out] at e5; have Hb2 := hidden (grow_trans b1 b2); clear hg5 hl5 B5 b2 b1)
        | ((with_reducible refine at_ldd 13 4 ?_); refine wpList_load_mid rfl _ _ rfl b4 0 rfl (cz L) _ HB4'.out.range Tryz.underlying81 rfl (xszC _ (cz_th HOL.out)) ?_)
        | (go_at_call 117; refine (HFL.out _).mono ?_; rw [hfL]; rintro e w3 ⟨rfl, b3⟩; have HB4m := hidden (HB4'.out.grow b3); have HB5m := hidden (HB5.out.grow b3); have Hb3 := hidden b3; have m1 : Hid True := trivial; clear b3))
      go_ret
      exact ⟨rfl, grow_trans Hb2.out Hb3.out⟩
    | true =>
      cases hfR : fsP R d 1 with
      | false =>
        rw [show fitP d L R u = false by rw [hV, hfL, hfR]; simp]
        clear hV h2
        go_enter Tryz.func96, Tryz.ntmps96
        go_wp2_with (first
          | ((with_reducible refine at_bxd 4 ?_); refine wpList_bx _ rfl _ _ rfl _ rfl ?_; intro w1 b4 hg4 hl4 B4 b1; have HB4 := hidden B4; have Hl4 := hidden hl4; clear hg4 hl4 B4)
          | ((with_reducible refine at_bxd 5 ?_); refine wpList_bx _ rfl _ _ rfl _ rfl ?_; intro w2 b5 hg5 hl5 B5 b2; have HB5 := hidden B5; have HB4' := hidden (HB4.out.grow b2); have e4 := HB4'.out.cell 34; have e5 := HB5.out.cell 34; simp only [List.getElem?_toArray] at e4 e5; rw [(cz_at L HOL.out).2.2.1, ← HzL.out] at e4; rw [(cz_at R HOR.out).2.2.1, ← HzR.out] at e5; have Hb2 := hidden (grow_trans b1 b2); clear hg5 hl5 B5 b2 b1)
          | ((with_reducible refine at_ldd 13 4 ?_); refine wpList_load_mid rfl _ _ rfl b4 0 rfl (cz L) _ HB4'.out.range Tryz.underlying81 rfl (xszC _ (cz_th HOL.out)) ?_)
          | (go_at_call 117; have mk := m1; clear mk; refine (HFR.out _).mono ?_; rw [hfR]; rintro e w4 ⟨rfl, b4'⟩; have HB4n := hidden (HB4m.out.grow b4'); have HB5n := hidden (HB5m.out.grow b4'); have Hb4' := hidden b4'; have k4 := HB4n.out.cell 32; have k5 := HB5n.out.cell 32; simp only [List.getElem?_toArray] at k4 k5; rw [(cz_at L HOL.out).1, ← HkL.out] at k4; rw [(cz_at R HOR.out).1, ← HkR.out] at k5; clear b4')
          | (go_at_call 117; refine (HFL.out _).mono ?_; rw [hfL]; rintro e w3 ⟨rfl, b3⟩; have HB4m := hidden (HB4'.out.grow b3); have HB5m := hidden (HB5.out.grow b3); have Hb3 := hidden b3; have m1 : Hid True := trivial; clear b3)
          | ((with_reducible refine at_ldd 18 5 ?_); refine wpList_ldw _ rfl _ _ rfl b5 0 rfl (cz R) _ HB5m.out.range Tryz.underlying81 rfl (xszC _ (cz_th HOR.out)) ?_))
        go_ret
        exact ⟨rfl, grow_trans (grow_trans Hb2.out Hb3.out) Hb4'.out⟩
      | true =>
        by_cases k0 : kL = 0
        · rw [show fitP d L R u = true by rw [hV, hfL, hfR]; simp [h2, k0]]
          clear hV h2
          subst k0
          go_enter Tryz.func96, Tryz.ntmps96
          go_wp2_with (first
            | ((with_reducible refine at_bxd 4 ?_); refine wpList_bx _ rfl _ _ rfl _ rfl ?_; intro w1 b4 hg4 hl4 B4 b1; have HB4 := hidden B4; have Hl4 := hidden hl4; clear hg4 hl4 B4)
            | ((with_reducible refine at_bxd 5 ?_); refine wpList_bx _ rfl _ _ rfl _ rfl ?_; intro w2 b5 hg5 hl5 B5 b2; have HB5 := hidden B5; have HB4' := hidden (HB4.out.grow b2); have e4 := HB4'.out.cell 34; have e5 := HB5.out.cell 34; simp only [List.getElem?_toArray] at e4 e5; rw [(cz_at L HOL.out).2.2.1, ← HzL.out] at e4; rw [(cz_at R HOR.out).2.2.1, ← HzR.out] at e5; have Hb2 := hidden (grow_trans b1 b2); clear hg5 hl5 B5 b2 b1)
            | ((with_reducible refine at_ldd 13 4 ?_); refine wpList_load_mid rfl _ _ rfl b4 0 rfl (cz L) _ HB4'.out.range Tryz.underlying81 rfl (xszC _ (cz_th HOL.out)) ?_)
            | (go_at_call 117; have mk := m1; clear mk; refine (HFR.out _).mono ?_; rw [hfR]; rintro e w4 ⟨rfl, b4'⟩; have HB4n := hidden (HB4m.out.grow b4'); have HB5n := hidden (HB5m.out.grow b4'); have Hb4' := hidden b4'; have k4 := HB4n.out.cell 32; have k5 := HB5n.out.cell 32; simp only [List.getElem?_toArray] at k4 k5; rw [(cz_at L HOL.out).1, ← HkL.out] at k4; rw [(cz_at R HOR.out).1, ← HkR.out] at k5; clear b4')
            | (go_at_call 117; refine (HFL.out _).mono ?_; rw [hfL]; rintro e w3 ⟨rfl, b3⟩; have HB4m := hidden (HB4'.out.grow b3); have HB5m := hidden (HB5.out.grow b3); have Hb3 := hidden b3; have m1 : Hid True := trivial; clear b3)
            | ((with_reducible refine at_ldd 18 5 ?_); refine wpList_ldw _ rfl _ _ rfl b5 0 rfl (cz R) _ HB5m.out.range Tryz.underlying81 rfl (xszC _ (cz_th HOR.out)) ?_))
          go_ret
          exact ⟨rfl, grow_trans (grow_trans Hb2.out Hb3.out) Hb4'.out⟩
        · have k0b : (kL == 0) = false := by simp [k0]
          by_cases k1 : kR = 0
          · rw [show fitP d L R u = true by rw [hV, hfL, hfR]; simp [h2, k1]]
            clear hV h2 k0
            subst k1
            go_enter Tryz.func96, Tryz.ntmps96
            go_wp2_with (first
              | ((with_reducible refine at_bxd 4 ?_); refine wpList_bx _ rfl _ _ rfl _ rfl ?_; intro w1 b4 hg4 hl4 B4 b1; have HB4 := hidden B4; have Hl4 := hidden hl4; clear hg4 hl4 B4)
              | ((with_reducible refine at_bxd 5 ?_); refine wpList_bx _ rfl _ _ rfl _ rfl ?_; intro w2 b5 hg5 hl5 B5 b2; have HB5 := hidden B5; have HB4' := hidden (HB4.out.grow b2); have e4 := HB4'.out.cell 34; have e5 := HB5.out.cell 34; simp only [List.getElem?_toArray] at e4 e5; rw [(cz_at L HOL.out).2.2.1, ← HzL.out] at e4; rw [(cz_at R HOR.out).2.2.1, ← HzR.out] at e5; have Hb2 := hidden (grow_trans b1 b2); clear hg5 hl5 B5 b2 b1)
              | ((with_reducible refine at_ldd 13 4 ?_); refine wpList_load_mid rfl _ _ rfl b4 0 rfl (cz L) _ HB4'.out.range Tryz.underlying81 rfl (xszC _ (cz_th HOL.out)) ?_)
              | (go_at_call 117; have mk := m1; clear mk; refine (HFR.out _).mono ?_; rw [hfR]; rintro e w4 ⟨rfl, b4'⟩; have HB4n := hidden (HB4m.out.grow b4'); have HB5n := hidden (HB5m.out.grow b4'); have Hb4' := hidden b4'; have k4 := HB4n.out.cell 32; have k5 := HB5n.out.cell 32; simp only [List.getElem?_toArray] at k4 k5; rw [(cz_at L HOL.out).1, ← HkL.out] at k4; rw [(cz_at R HOR.out).1, ← HkR.out] at k5; clear b4')
              | (go_at_call 117; refine (HFL.out _).mono ?_; rw [hfL]; rintro e w3 ⟨rfl, b3⟩; have HB4m := hidden (HB4'.out.grow b3); have HB5m := hidden (HB5.out.grow b3); have Hb3 := hidden b3; have m1 : Hid True := trivial; clear b3)
              | ((with_reducible refine at_ldd 18 5 ?_); refine wpList_ldw _ rfl _ _ rfl b5 0 rfl (cz R) _ HB5m.out.range Tryz.underlying81 rfl (xszC _ (cz_th HOR.out)) ?_))
            go_ret
            exact ⟨rfl, grow_trans (grow_trans Hb2.out Hb3.out) Hb4'.out⟩
          · have k1b : (kR == 0) = false := by simp [k1]
            rw [show fitP d L R u = u by rw [hV, hfL, hfR]; simp [h2, k0, k1]]
            clear hV h2 k0 k1
            go_enter Tryz.func96, Tryz.ntmps96
            go_wp2_with (first
              | ((with_reducible refine at_bxd 4 ?_); refine wpList_bx _ rfl _ _ rfl _ rfl ?_; intro w1 b4 hg4 hl4 B4 b1; have HB4 := hidden B4; have Hl4 := hidden hl4; clear hg4 hl4 B4)
              | ((with_reducible refine at_bxd 5 ?_); refine wpList_bx _ rfl _ _ rfl _ rfl ?_; intro w2 b5 hg5 hl5 B5 b2; have HB5 := hidden B5; have HB4' := hidden (HB4.out.grow b2); have e4 := HB4'.out.cell 34; have e5 := HB5.out.cell 34; simp only [List.getElem?_toArray] at e4 e5; rw [(cz_at L HOL.out).2.2.1, ← HzL.out] at e4; rw [(cz_at R HOR.out).2.2.1, ← HzR.out] at e5; have Hb2 := hidden (grow_trans b1 b2); clear hg5 hl5 B5 b2 b1)
              | ((with_reducible refine at_ldd 13 4 ?_); refine wpList_load_mid rfl _ _ rfl b4 0 rfl (cz L) _ HB4'.out.range Tryz.underlying81 rfl (xszC _ (cz_th HOL.out)) ?_)
              | (go_at_call 117; have mk := m1; clear mk; refine (HFR.out _).mono ?_; rw [hfR]; rintro e w4 ⟨rfl, b4'⟩; have HB4n := hidden (HB4m.out.grow b4'); have HB5n := hidden (HB5m.out.grow b4'); have Hb4' := hidden b4'; have k4 := HB4n.out.cell 32; have k5 := HB5n.out.cell 32; simp only [List.getElem?_toArray] at k4 k5; rw [(cz_at L HOL.out).1, ← HkL.out] at k4; rw [(cz_at R HOR.out).1, ← HkR.out] at k5; clear b4')
              | (go_at_call 117; refine (HFL.out _).mono ?_; rw [hfL]; rintro e w3 ⟨rfl, b3⟩; have HB4m := hidden (HB4'.out.grow b3); have HB5m := hidden (HB5.out.grow b3); have Hb3 := hidden b3; have m1 : Hid True := trivial; clear b3)
              | ((with_reducible refine at_ldd 18 5 ?_); refine wpList_ldw _ rfl _ _ rfl b5 0 rfl (cz R) _ HB5m.out.range Tryz.underlying81 rfl (xszC _ (cz_th HOR.out)) ?_)
              | ((with_reducible refine at_ldd 33 32 ?_); refine wpList_ldw _ rfl _ _ rfl b4 35 rfl (L.key.map (Value.int .u8)) _ ((segK L HOL.out).range HB4n.out) Tryz.underlying32 rfl (key_sz HOL.out) ?_)
              | ((with_reducible refine at_ldd 35 34 ?_); refine wpList_ldw _ rfl _ _ rfl b5 35 rfl (R.key.map (Value.int .u8)) _ ((segK R HOR.out).range HB5n.out) Tryz.underlying32 rfl (key_sz HOR.out) ?_)
              | (go_at_call 56; refine (HU.out _).mono ?_; rintro e w5 ⟨rfl, b5'⟩))
            go_ret
            exact ⟨rfl, grow_trans (grow_trans (grow_trans Hb2.out Hb3.out) Hb4'.out) b5'⟩
  · have i2 : (zL : Int) + (zR : Int) < 2 := by omega
    rw [show fitP d L R u = false by rw [hV]; simp [h2]]
    clear hV h2
    go_enter Tryz.func96, Tryz.ntmps96
    go_wp2_with (first
      | ((with_reducible refine at_bxd 4 ?_); refine wpList_bx _ rfl _ _ rfl _ rfl ?_; intro w1 b4 hg4 hl4 B4 b1; have HB4 := hidden B4; have Hl4 := hidden hl4; clear hg4 hl4 B4)
      | ((with_reducible refine at_bxd 5 ?_); refine wpList_bx _ rfl _ _ rfl _ rfl ?_; intro w2 b5 hg5 hl5 B5 b2; have HB5 := hidden B5; have HB4' := hidden (HB4.out.grow b2); have e4 := HB4'.out.cell 34; have e5 := HB5.out.cell 34; simp only [List.getElem?_toArray] at e4 e5; rw [(cz_at L HOL.out).2.2.1, ← HzL.out] at e4; rw [(cz_at R HOR.out).2.2.1, ← HzR.out] at e5; have Hb2 := hidden (grow_trans b1 b2); clear hg5 hl5 B5 b2 b1))
    go_ret
    exact ⟨rfl, Hb2.out⟩

theorem cz_setAb (c : Ce) (h : c.dig.length = 32) (n : Nat) : (cz c).set 33 (.int .i64 (n : Int)) = cz (reAb c n) := by
  have h1 : (c.dig.map (Value.int .u8)).length = 32 := by simp [h]
  unfold cz reAb
  rw [List.set_append_right _ _ (by omega), h1]
  rfl

theorem reAb_ok {c : Ce} (h : CeOk c) (n : Nat) : CeOk (reAb c n) := ⟨h.ld, h.bd, h.hk, h.vs⟩

set_option maxHeartbeats 1000000 in
theorem above_out {w : World} {g gs : Nat} {vp vf : Value} {room : Nat} {cs : List (Nat × Ce)} {fr : List Nat} (s : Stm w g gs vp vf room cs fr) (hw : Wz cs) (h m : Int) (hc : cot cs h = 0) : Calls Tryz.prog 98 #[.pointer (some ⟨g, 0, none⟩), .int .i64 h, .int .i64 m] w fun e w' => e = .returned (.tuple #[]) ∧ Below w.heap.size w w' := by
  have c1 := s.c1
  have HG := hidden (get_any s hw h)
  rw [if_pos hc] at HG
  have hz := cz_th (hw.catOk h)
  generalize cz (cat cs h) = z at HG hz
  have HZ := hidden hz
  clear s hw hz hc
  go_enter Tryz.func98, Tryz.ntmps98
  go_wp2_with (first
    | (go_at_call 80; refine HG.out.mono ?_; rintro e w2 ⟨rfl, b2⟩; have Hb2 := hidden b2; clear b2)
    | ((with_reducible refine at_ald 6 ?_); refine wpList_al _ rfl _ rfl _ zero_thC ?_; intro w3 b6 hg6 hl6 B6 b3; have Hb3 := hidden b3; have HB6 := hidden B6; have Hg6 := hidden hg6; clear b3 B6 hg6 hl6)
    | ((with_reducible refine at_st 6 ?_); refine wpList_sto _ rfl _ _ _ rfl b6 _ z.toArray rfl rfl HB6.out (xszC z HZ.out) (xzsC z HZ.out) (all_oneCell_toArray HZ.out.2) ?_; intro w4 B7 g7))
  refine bodyPost_ret (results_none rfl _ _ _) rfl ?_
  exact ⟨rfl, below_row (grow_trans Hb2.out Hb3.out) g7 (by have := Hg6.out; have := Hb2.out.size; omega)⟩

set_option maxHeartbeats 2000000 in
theorem above_in {w : World} {g gs : Nat} {vp vf : Value} {room : Nat} {cs : List (Nat × Ce)} {fr : List Nat} (s : Stm w g gs vp vf room cs fr) (hw : Wz cs) (i n : Nat) (m : Int) (hc : 0 < cc cs i) (hn : ((ce cs i).ab : Int) + m = (n : Int)) (hn2 : n ≤ 2147483648) : Calls Tryz.prog 98 #[.pointer (some ⟨g, 0, none⟩), .int .i64 ((i : Int) + 1), .int .i64 m] w fun e w' => e = .returned (.tuple #[]) ∧ STurn w g gs (stB g gs vp vf cs) room (setA cs (i + 1) n) fr w' := by
  have HS : Hid (∀ w', Below w.heap.size w w' → Stm w' g gs vp vf room cs fr) := fun w' hb => s.grow hb
  have c1 := s.c1
  have HG := hidden (get_any s hw ((i : Int) + 1))
  have hot : cot cs ((i : Int) + 1) = cc cs i := by unfold cot; rw [if_pos (by omega), show ((i : Int) + 1 - 1).toNat = i by omega]
  have hat : cat cs ((i : Int) + 1) = ce cs i := by unfold cat; rw [if_pos (by omega), show ((i : Int) + 1 - 1).toNat = i by omega]
  rw [hot, if_neg (by omega), hat] at HG
  have HSet : Hid (∀ w', Below w.heap.size w w' → Calls Tryz.prog 120 #[.pointer (some ⟨gs, 0, none⟩), .int .i64 ((i : Int) + 1), .agg (cz (reAb (ce cs i) n)).toArray] w' fun e w'' => e = .returned (.int .i64 0) ∧ STurn w g gs (stB g gs vp vf cs) room (setA cs (i + 1) n) fr w'') := by
    intro w' hb
    refine (set_okC gs vp vf room _ fr _ i (cz (reAb (ce cs i) n)) (cz_th (reAb_ok (hw.ok i) n)) w' (s.grow hb).sl rfl (by rw [cnt_pl]; exact hc)).mono ?_
    rintro e w'' ⟨rfl, t⟩
    rw [cnt_pl, map_set] at t
    refine ⟨rfl, (s.grow hb).turn' hb t (fun j => .inr ⟨j, ?_⟩)⟩
    have hcore : Core (ce cs j) (ce (setA cs (i + 1) n) j) := setA_core cs (i + 1) n j
    rw [hcore]
    exact ⟨rfl, rfl⟩
  have HO := hidden (hw.ok i)
  obtain ⟨c, hcc⟩ : ∃ c, c = ce cs i := ⟨_, rfl⟩
  rw [← hcc] at HG HSet HO hn
  have hwn : wrap64 ((c.ab : Int) + m) = (n : Int) := by rw [hn]; exact Go.IntWalk.wrap64_in _ (by omega)
  have HZA := hidden (cz_setAb c HO.out.ld n)
  clear s hw hc hn hn2 hot hat hcc
  go_enter Tryz.func98, Tryz.ntmps98
  go_wp2_with (first
    | (go_at_call 80; refine HG.out.mono ?_; rintro e w2 ⟨rfl, b2⟩; have Hb2 := hidden b2; clear b2)
    | ((with_reducible refine at_ald 6 ?_); refine wpList_al _ rfl _ rfl _ zero_thC ?_; intro w3 b6 hg6 hl6 B6 b3; have Hb3 := hidden b3; have HB6 := hidden B6; have Hg6 := hidden hg6; clear b3 B6 hg6 hl6)
    | ((with_reducible refine at_st 6 ?_); refine wpList_sto _ rfl _ _ _ rfl b6 _ (cz c).toArray rfl rfl HB6.out (xszC _ (cz_th HO.out)) (xzsC _ (cz_th HO.out)) (all_oneCell_toArray (cz_one HO.out)) ?_; intro w4 B7 g7; have c7 := B7.cell 33; have f7 := B7.frozen 33; simp only [List.getElem?_toArray] at c7; rw [(cz_at c HO.out).2.1] at c7; have HB7 := hidden B7; have Hb7 := hidden (below_row (grow_trans Hb2.out Hb3.out) g7 (by have := Hg6.out; have := Hb2.out.size; omega)); clear B7 g7))
  have hb8 : w.heap.size ≤ b6 := by have := Hg6.out; have := Hb2.out.size; omega
  have HB8 : Hid (Blk (w4.setCell ⟨b6, 33, none⟩ (.int .i64 (n : Int))) b6 81 (cz (reAb c n)).toArray) := by
    have := HB7.out.set 33 (.int .i64 (n : Int))
    rw [List.setIfInBounds_toArray, HZA.out] at this
    exact this
  have Hb8 := hidden (setCell_below 33 (.int .i64 (n : Int)) Hb7.out hb8)
  generalize w4.setCell ⟨b6, 33, none⟩ (.int .i64 (n : Int)) = w5 at *
  have HB9 : Hid (Below w.heap.size w w5.drew) := below_drewN Hb8.out 1
  have HS0 : Hid (w5.drew.cell? ⟨g, 1, none⟩ = some (.pointer (some ⟨gs, 0, none⟩)) ∧ w5.drew.rangeAt b6 0 (cz (reAb c n))) := ⟨(HS.out _ HB9.out).c1, HB8.out.drew.range⟩
  refine wp_region_last (S := fun w' => w'.cell? ⟨g, 1, none⟩ = some (.pointer (some ⟨gs, 0, none⟩)) ∧ w'.rangeAt b6 0 (cz (reAb c n))) 6 (by kernel_rfl) (HS0.out) (fun hHeld => ?_)
  refine tlp 0 (.pointer (some ⟨g, 0, none⟩)) hHeld ?_
  simp only [Act.put, zq1, zq2, zq4, zq5, zq6]
  refine tlp 1 (.pointer (some ⟨g, 0, none⟩)) hHeld ?_
  simp only [Act.put, zq1, zq2, zq3, zq4, zq5, zq6]
  refine tlp 2 (.pointer (some ⟨g, 1, none⟩)) hHeld ?_
  simp only [Act.put, zq1, zq2, zq3, zq4, zq5, zq6]
  refine tlg 3 (.pointer (some ⟨gs, 0, none⟩)) rfl (Or.inl ⟨by rfl, fun w hS => by (have q1 := hS.1; go_simp)⟩) hHeld ?_
  simp only [Act.put, zq1, zq2, zq3, zq4, zq5, zq6]
  refine tlp 4 (.int .i64 ((i : Int) + 1)) hHeld ?_
  simp only [Act.put, zq1, zq2, zq3, zq4, zq5, zq6]
  refine tlg 5 (.agg (cz (reAb c n)).toArray) rfl (yieldsIf_load_mid rfl 81 (.tmp 6) rfl b6 0 rfl (cz (reAb c n)) _ (fun w hS => hS.2) Tryz.underlying81 rfl (xszC _ (cz_th (reAb_ok HO.out n)))) hHeld ?_
  simp only [Act.put, zq1, zq2, zq3, zq4, zq5, zq6]
  refine wpAnyL_last rfl (by kernel_rfl) (by kernel_rfl) (fun KQ hK => ?_)
  go_simp
  refine (HSet.out _ HB9.out).mono ?_
  rintro e w9 ⟨rfl, ht⟩
  have HT := hidden ht
  clear ht
  refine hK.out _ _ ?_
  clear hK KQ
  go_wp2
  go_end0
  exact ⟨rfl, HT.out⟩

end Go.Proofs.YtnnmfgnommbmkaaGreatDoor

namespace Go.Proofs.YtnnmfgnommbmkaaGreatDoor
set_option maxRecDepth 20000
open Go.RowKit

def Kp (w : World) (P : World → Prop) : Prop := ∀ w', Below w.heap.size w w' → P w'
theorem Kp.now {w : World} {P : World → Prop} (h : Kp w P) : P w := h w (Below.refl _ _)
theorem Kp.step {w w1 : World} {P : World → Prop} (h : Kp w P) (q : Below w.heap.size w w1) : Kp w1 P := fun w' h' => h w' (grow_trans q h')
theorem Blk.kp {w : World} {g : Nat} {t : TypeId} {cs : Array Value} (h : Blk w g t cs) : Kp w (fun w' => Blk w' g t cs) := fun _ q => h.grow q
theorem below_kp (w : World) : Kp w (fun w' => Below w.heap.size w w') := fun _ q => q
end Go.Proofs.YtnnmfgnommbmkaaGreatDoor
