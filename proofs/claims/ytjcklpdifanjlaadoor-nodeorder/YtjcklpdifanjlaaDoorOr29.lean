/- node.part and node.rootAt, as contracts. -/
import Derived.Test.YtjcklpdifanjlaaDoorOr12
import Derived.Test.YtjcklpdifanjlaaDoorOr28
import Derived.Test.YtjcklpdifanjlaaDoorOr21
import Derived.Lib.SlicesSearch
namespace Go.Proofs.YtjcklpdifanjlaaDoor
set_option maxRecDepth 20000
open Go.RowKit

/-- A slice of leaves. -/
def LvAt (w : World) (v : Value) (ls : List Lf) : Prop :=
  ∃ a cap, v = .slice a ls.length cap ∧ ls.length ≤ cap ∧ (0 < ls.length → ∃ g off, a = some ⟨g, off, none⟩ ∧ ∀ i, i < ls.length → w.rangeAt g (off + i * 129) (encLf ls[i]!))

theorem range_grow {w w' : World} {g o : Nat} {cs : List Value} (h : w.rangeAt g o cs) (hb : Below w.heap.size w w') : w'.rangeAt g o cs := fun j v hv => (hb.cell (p := ⟨g, o + j, none⟩) (block_lt_of_cell (h j v hv))).trans (h j v hv)

theorem LvAt.grow {w w' : World} {v : Value} {ls : List Lf} (h : LvAt w v ls) (hb : Below w.heap.size w w') : LvAt w' v ls := by
  obtain ⟨a, cap, e, h1, h2⟩ := h
  refine ⟨a, cap, e, h1, fun hp => ?_⟩
  obtain ⟨g, off, ea, hr⟩ := h2 hp
  exact ⟨g, off, ea, fun i hi => range_grow (hr i hi) hb⟩
theorem LvAt.kp {w : World} {v : Value} {ls : List Lf} (h : LvAt w v ls) : Kp w (fun w' => LvAt w' v ls) := fun _ q => h.grow q

/-- The key, and the value's digest, in a leaf's cells. -/
theorem lf_key {w : World} {g o : Nat} {x : Lf} (h : w.rangeAt g o (encLf x)) : w.rangeAt g (o + 1) (B x.key).toList := by
  intro j v hv
  rw [B_toList, List.getElem?_map, Option.map_eq_some_iff] at hv
  obtain ⟨z, hz, rfl⟩ := hv
  rw [Nat.add_assoc]
  refine h (1 + j) _ ?_
  unfold encLf Lf.ints
  rw [List.getElem?_map, x.nd.segA j z hz]
  rfl
theorem lf_val {w : World} {g o : Nat} {x : Lf} (h : w.rangeAt g o (encLf x)) : w.rangeAt g (o + 33) (B x.val).toList := by
  intro j v hv
  rw [B_toList, List.getElem?_map, Option.map_eq_some_iff] at hv
  obtain ⟨z, hz, rfl⟩ := hv
  rw [Nat.add_assoc]
  refine h (33 + j) _ ?_
  unfold encLf Lf.ints
  rw [List.getElem?_map, x.nd.segB j z hz]
  rfl

set_option maxHeartbeats 2000000 in
/-- The function that is searched by. -/
theorem closure_bit (g off cap n i d g1 g2 : Nat) (x : Lf) (W : World) (hi : i < n) (hd : d < 256) (h1 : W.cell? ⟨g1, 0, none⟩ = some (.slice (some ⟨g, off, none⟩) n cap)) (h2 : W.cell? ⟨g2, 0, none⟩ = some (.int .i64 d)) (hr : W.rangeAt g (off + i * 129) (encLf x)) :
    Calls Tryd.prog 82 #[.int .i64 i, .pointer (some ⟨g1, 0, none⟩), .pointer (some ⟨g2, 0, none⟩)] W fun e w' => e = .returned (.bool (kb x.key d == 1)) ∧ Grew W w' := by
  have HB : Hid (∀ w', Calls Tryd.prog 37 #[.agg (B x.key), .int .i64 d] w' fun e w'' => e = .returned (.int .i64 (kb x.key d)) ∧ Grew w' w'') := fun w' => bit_grew x.key d w' x.hk hd
  have HL : Hid ((Tryd.prog.info? 24).map (·.size) = some (B x.key).toList.length) := by show _ = _; rw [B_toList, List.length_map, x.hk.1]; exact sz_path
  have HS : Hid (∀ w', Below W.heap.size W w' → w'.cell? ⟨g1, 0, none⟩ = some (.slice (some ⟨g, off, none⟩) n cap) ∧ w'.cell? ⟨g2, 0, none⟩ = some (.int .i64 d) ∧ w'.rangeAt g (off + i * 129 + 1) (B x.key).toList) := fun w' hw' => ⟨(hw'.cell (block_lt_of_cell h1)).trans h1, (hw'.cell (block_lt_of_cell h2)).trans h2, range_grow (lf_key hr) hw'⟩
  obtain ⟨K, hK⟩ : ∃ K, K = x.key := ⟨_, rfl⟩
  rw [← hK] at HB HL HS ⊢
  obtain ⟨z, hz⟩ : ∃ z, z = kb K d := ⟨_, rfl⟩
  rw [← hz] at HB ⊢
  have hi1 : (i : Int) < (n : Int) := by omega
  have hi0 : (0 : Int) ≤ (i : Int) := by omega
  clear hr h1 h2 hK hz hi
  go_enter Tryd.func82, Tryd.ntmps82
  go_wp2_with fail
  have d0 : Below W.heap.size W W.drew := (Below.refl _ _).drew
  refine wp_region_held_drew (S := fun w' => w'.cell? ⟨g1, 0, none⟩ = some (.slice (some ⟨g, off, none⟩) n cap) ∧ w'.cell? ⟨g2, 0, none⟩ = some (.int .i64 d) ∧ w'.rangeAt g (off + i * 129 + 1) (B K).toList) (by kernel_rfl) (HS.out _ d0) (fun hHeld => ?_)
  refine wpAnyH_take (i := 0) (v := .slice (some ⟨g, off, none⟩) n cap) rfl (by kernel_rfl) (by kernel_rfl) (by kernel_rfl) (fun _ _ _ h => h) (Or.inl ⟨by rfl, fun w hS => by (have s1 := hS.1; go_simp)⟩) hHeld ?_
  simp only [Act.put, List.getElem_toArray, List.getElem_cons_zero, List.setIfInBounds_toArray, List.set_cons_zero, List.set_cons_succ]
  refine wpAnyH_take (i := 1) (v := .int .i64 i) rfl (by kernel_rfl) (by kernel_rfl) (by kernel_rfl) (fun _ _ _ h => h) (Or.inl ⟨by rfl, fun w hS => by go_simp⟩) hHeld ?_
  simp only [Act.put, List.getElem_toArray, List.getElem_cons_zero, List.getElem_cons_succ, List.setIfInBounds_toArray, List.set_cons_zero, List.set_cons_succ]
  refine wpAnyH_take (i := 2) (v := .pointer (some ⟨g, off + i * 129, none⟩)) rfl (by kernel_rfl) (by kernel_rfl) (by kernel_rfl) (fun _ _ _ h => h) (Or.inl ⟨by rfl, fun w hS => by go_simp⟩) hHeld ?_
  simp only [Act.put, List.getElem_toArray, List.getElem_cons_zero, List.getElem_cons_succ, List.setIfInBounds_toArray, List.set_cons_zero, List.set_cons_succ]
  refine wpAnyH_take (i := 3) (v := .pointer (some ⟨g, off + i * 129 + 1, none⟩)) rfl (by kernel_rfl) (by kernel_rfl) (by kernel_rfl) (fun _ _ _ h => h) (Or.inl ⟨by rfl, fun w hS => by go_simp⟩) hHeld ?_
  simp only [Act.put, List.getElem_toArray, List.getElem_cons_zero, List.getElem_cons_succ, List.setIfInBounds_toArray, List.set_cons_zero, List.set_cons_succ]
  refine wpAnyH_take (i := 4) (v := .agg (B K)) rfl (by kernel_rfl) (by kernel_rfl) (by kernel_rfl) (fun _ _ _ h => h) (yieldsIf_load_mid rfl 24 (.tmp 8) rfl g (off + i * 129 + 1) rfl (B K).toList _ (fun w hS => hS.2.2) Tryd.underlying24 rfl HL.out) hHeld ?_
  simp only [Act.put, List.getElem_toArray, List.getElem_cons_zero, List.getElem_cons_succ, List.setIfInBounds_toArray, List.set_cons_zero, List.set_cons_succ]
  refine wpAnyH_take (i := 5) (v := .int .i64 d) rfl (by kernel_rfl) (by kernel_rfl) (by kernel_rfl) (fun _ _ _ h => h) (Or.inl ⟨by rfl, fun w hS => by (have s1 := hS.2.1; go_simp)⟩) hHeld ?_
  simp only [Act.put, List.getElem_toArray, List.getElem_cons_zero, List.getElem_cons_succ, List.setIfInBounds_toArray, List.set_cons_zero, List.set_cons_succ]
  refine wpAnyH_ready (rs := [6]) (by kernel_rfl) (by simp) ?_
  refine AllReadyH.cons rfl (fun KQ hK => ?_) AllReadyH.nil
  go_simp
  refine (HB.out _).mono ?_
  rintro e x1 ⟨rfl, a1⟩
  have d1 := grow_trans d0 a1.below
  refine hK.out _ _ (HS.out _ d1) (fun hHeld => ?_)
  clear hK KQ
  refine wpAnyH_take (i := 7) (v := .bool (z == 1)) rfl (by kernel_rfl) (by kernel_rfl) (by kernel_rfl) (fun _ _ _ h => h) (Or.inl ⟨by rfl, fun w hS => by go_simp⟩) hHeld ?_
  simp only [Act.put, List.getElem_toArray, List.getElem_cons_zero, List.getElem_cons_succ, List.setIfInBounds_toArray, List.set_cons_zero, List.set_cons_succ]
  refine wpAnyH_take (i := 8) (v := .bool (z == 1)) rfl (by kernel_rfl) (by kernel_rfl) (by kernel_rfl) (fun _ _ _ h => h) (Or.inl ⟨by rfl, fun w hS => by go_simp⟩) hHeld ?_
  simp only [Act.put, List.getElem_toArray, List.getElem_cons_zero, List.getElem_cons_succ, List.setIfInBounds_toArray, List.set_cons_zero, List.set_cons_succ]
  refine wpAnyH_done (by kernel_rfl) ?_ _
  go_wp2_with fail
  go_ret
  exact ⟨rfl, (Grew.drew W).trans a1⟩

theorem countP_rng (q : Lf → Bool) : ∀ l : List Lf, (List.range l.length).countP (fun i => q l[i]!) = l.countP q := by
  intro l
  have e : (List.range l.length).map (fun i => l[i]!) = l := by
    apply List.ext_getElem (by simp)
    intro i h1 h2
    simp [h2]
  have h := List.countP_map (p := q) (f := fun i => l[i]!) (l := List.range l.length)
  rw [e] at h
  exact h.symm

theorem LvAt.cut {w : World} {g off cap : Nat} {ls : List Lf} (h : ∀ i, i < ls.length → w.rangeAt g (off + i * 129) (encLf ls[i]!)) (hc : ls.length ≤ cap) (c : Nat) (hcn : c ≤ ls.length) :
    LvAt w (.slice (some ⟨g, off, none⟩) c cap) (ls.take c) ∧ LvAt w (.slice (if cap = c then some ⟨g, off, none⟩ else some ⟨g, off + c * 129, none⟩) (ls.length - c) (cap - c)) (ls.drop c) := by
  constructor
  · have hl : (ls.take c).length = c := by simp; omega
    refine ⟨_, _, by rw [hl], by omega, fun _ => ⟨g, off, rfl, fun i hi => ?_⟩⟩
    rw [hl] at hi
    have e : (ls.take c)[i]! = ls[i]! := by
      rw [getElem!_pos _ i (by omega), getElem!_pos _ i (by omega)]
      simp
    rw [e]
    exact h i (by omega)
  · have hl : (ls.drop c).length = ls.length - c := by simp
    refine ⟨_, _, by rw [hl], by omega, fun hp => ?_⟩
    rw [hl] at hp
    rw [if_neg (by omega)]
    refine ⟨g, off + c * 129, rfl, fun i hi => ?_⟩
    rw [hl] at hi
    have e : (ls.drop c)[i]! = ls[c + i]! := by
      rw [getElem!_pos _ i (by omega), getElem!_pos _ (c + i) (by omega)]
      simp
    rw [e, Nat.add_assoc, ← Nat.add_mul]
    exact h (c + i) (by omega)

theorem sub_add_cap (a b : Nat) (h : b ≤ a) : ((a : Int) - (b : Int)).toNat = a - b := by omega

set_option maxHeartbeats 4000000 in
theorem part_any (g off cap d : Nat) (ls : List Lf) (w : World) (hd : d < 256) (hn : ls.length ≤ 4096) (hcap : ls.length ≤ cap) (hr : Rise ls) (hs : Same ls d) (hv : ∀ i, i < ls.length → w.rangeAt g (off + i * 129) (encLf ls[i]!)) :
    Calls Tryd.prog 56 #[.slice (some ⟨g, off, none⟩) ls.length cap, .int .i64 d] w fun e w' => ∃ v0 v1, e = .returned (.tuple #[v0, v1]) ∧ LvAt w' v0 (sdL ls d 0) ∧ LvAt w' v1 (sdL ls d 1) ∧ Below w.heap.size w w' := by
  obtain ⟨c, hc⟩ : ∃ c, c = ls.countP fun x => !(kb x.key d == 1) := ⟨_, rfl⟩
  have hcn : c ≤ ls.length := by rw [hc]; exact List.countP_le_length
  obtain ⟨p0, p1⟩ := part_at ls d hd hr hs
  rw [← hc] at p0 p1
  have eg : ∀ args w, (callFunc 82 args).run Tryd.prog w = .ok (.enter 82 args) w := enters_of Tryd.func82 (by kernel_rfl) rfl
  have HSE : Hid (∀ w' g1 g2, Below w.heap.size w w' → w'.cell? ⟨g1, 0, none⟩ = some (.slice (some ⟨g, off, none⟩) ls.length cap) → w'.cell? ⟨g2, 0, none⟩ = some (.int .i64 d) →
      Calls Tryd.prog 81 #[.int .i64 ls.length, .func (.func 82) #[] #[.pointer (some ⟨g1, 0, none⟩), .pointer (some ⟨g2, 0, none⟩)]] w' fun e w'' => e = .returned (.int .i64 c) ∧ Grew w' w'') := by
    intro w' g1 g2 hb h1 h2
    have h := Any.sort_Search searchL 82 #[.pointer (some ⟨g1, 0, none⟩), .pointer (some ⟨g2, 0, none⟩)] ls.length (fun i => kb ls[i]!.key d == 1) w' eg (by omega) (fun m os i hi => by
      have q : Grew w' (Go.Sort.grow (w'.drewN m) os) := ⟨m, os, rfl⟩
      have := closure_bit g off cap ls.length i d g1 g2 ls[i]! _ hi hd ((q.below.cell (block_lt_of_cell h1)).trans h1) ((q.below.cell (block_lt_of_cell h2)).trans h2) (range_grow (hv i hi) (grow_trans hb q.below))
      exact this.mono fun e w'' ⟨e1, e2⟩ => ⟨e1, e2⟩) (part_mono ls d hd hr hs)
    rw [countP_rng (fun x => !(kb x.key d == 1)) ls, ← hc] at h
    exact h
  have HV : Hid (∀ w', Below w.heap.size w w' → LvAt w' (.slice (some ⟨g, off, none⟩) c cap) (sdL ls d 0) ∧ LvAt w' (.slice (if cap = c then some ⟨g, off, none⟩ else some ⟨g, off + c * 129, none⟩) (ls.length - c) (cap - c)) (sdL ls d 1)) := by
    intro w' hb
    have := LvAt.cut (fun i hi => range_grow (hv i hi) hb) hcap c hcn
    rwa [p0, p1] at this
  obtain ⟨n, hnn⟩ : ∃ n, n = ls.length := ⟨_, rfl⟩
  rw [← hnn] at HSE HV hcn hcap hn ⊢
  have i1 : (c : Int) ≤ (n : Int) := by omega
  have i2 : (0 : Int) ≤ (c : Int) := by omega
  have i3 : (n : Int) ≤ (cap : Int) := by omega
  have i4 : (c : Int) ≤ (cap : Int) := by omega
  clear hr hs hv hc p0 p1 eg hnn
  go_enter Tryd.func56, Tryd.ntmps56
  go_wp2_with (go_at_call 81; refine (HSE.out _ _ _ (grow_trans (grow_alloc _ _) (grow_alloc _ _)) (by simp) (by simp)).mono ?_; rintro e x1 ⟨rfl, a1⟩)
  have hx : Below w.heap.size w x1 := grow_trans (grow_trans (grow_alloc _ _) (grow_alloc _ _)) a1.below
  have HS : Hid (∀ w', Below x1.heap.size x1 w' → w'.cell? ⟨w.heap.size, 0, none⟩ = some (.slice (some ⟨g, off, none⟩) n cap)) := by
    intro w' hw'
    have q0 : ((w.alloc (.cells #[.slice (some ⟨g, off, none⟩) n cap] 94)).alloc (.cells #[.int .i64 d] 3)).cell? ⟨w.heap.size, 0, none⟩ = some (.slice (some ⟨g, off, none⟩) n cap) := by simp
    have q1 := (a1.below.cell (block_lt_of_cell q0)).trans q0
    exact (hw'.cell (block_lt_of_cell q1)).trans q1
  have d0 : Below x1.heap.size x1 x1.drew := (Below.refl _ _).drew
  refine wp_region_held_drew (S := fun w' => w'.cell? ⟨w.heap.size, 0, none⟩ = some (.slice (some ⟨g, off, none⟩) n cap)) (by kernel_rfl) (HS.out _ d0) (fun hHeld => ?_)
  refine wpAnyH_take (i := 0) (v := .slice (some ⟨g, off, none⟩) n cap) rfl (by kernel_rfl) (by kernel_rfl) (by kernel_rfl) (fun _ _ _ h => h) (Or.inl ⟨by rfl, fun w hS => by (have s1 := hS; go_simp)⟩) hHeld ?_
  simp only [Act.put, List.getElem_toArray, List.getElem_cons_zero, List.setIfInBounds_toArray, List.set_cons_zero, List.set_cons_succ]
  refine wpAnyH_take (i := 1) (v := .int .i64 c) rfl (by kernel_rfl) (by kernel_rfl) (by kernel_rfl) (fun _ _ _ h => h) (Or.inl ⟨by rfl, fun w hS => by go_simp⟩) hHeld ?_
  simp only [Act.put, List.getElem_toArray, List.getElem_cons_zero, List.getElem_cons_succ, List.setIfInBounds_toArray, List.set_cons_zero, List.set_cons_succ]
  refine wpAnyH_take (i := 2) (v := .slice (some ⟨g, off, none⟩) c cap) rfl (by kernel_rfl) (by kernel_rfl) (by kernel_rfl) (fun _ _ _ h => h) (Or.inl ⟨by rfl, fun w hS => by go_simp⟩) hHeld ?_
  simp only [Act.put, List.getElem_toArray, List.getElem_cons_zero, List.getElem_cons_succ, List.setIfInBounds_toArray, List.set_cons_zero, List.set_cons_succ]
  refine wpAnyH_take (i := 3) (v := .slice (some ⟨g, off, none⟩) n cap) rfl (by kernel_rfl) (by kernel_rfl) (by kernel_rfl) (fun _ _ _ h => h) (Or.inl ⟨by rfl, fun w hS => by (have s1 := hS; go_simp)⟩) hHeld ?_
  simp only [Act.put, List.getElem_toArray, List.getElem_cons_zero, List.getElem_cons_succ, List.setIfInBounds_toArray, List.set_cons_zero, List.set_cons_succ]
  refine wpAnyH_take (i := 4) (v := .int .i64 c) rfl (by kernel_rfl) (by kernel_rfl) (by kernel_rfl) (fun _ _ _ h => h) (Or.inl ⟨by rfl, fun w hS => by go_simp⟩) hHeld ?_
  simp only [Act.put, List.getElem_toArray, List.getElem_cons_zero, List.getElem_cons_succ, List.setIfInBounds_toArray, List.set_cons_zero, List.set_cons_succ]
  refine wpAnyH_take (i := 5) (v := .slice (if cap = c then some ⟨g, off, none⟩ else some ⟨g, off + c * 129, none⟩) (n - c) (cap - c)) rfl (by kernel_rfl) (by kernel_rfl) (by kernel_rfl) (fun _ _ _ h => h) (Or.inl ⟨by rfl, fun w hS => by (go_simp; skip)⟩) hHeld ?_
  simp only [Act.put, List.getElem_toArray, List.getElem_cons_zero, List.getElem_cons_succ, List.setIfInBounds_toArray, List.set_cons_zero, List.set_cons_succ]
  refine wpAnyH_take (i := 6) (v := .slice (some ⟨g, off, none⟩) c cap) rfl (by kernel_rfl) (by kernel_rfl) (by kernel_rfl) (fun _ _ _ h => h) (Or.inl ⟨by rfl, fun w hS => by go_simp⟩) hHeld ?_
  simp only [Act.put, List.getElem_toArray, List.getElem_cons_zero, List.getElem_cons_succ, List.setIfInBounds_toArray, List.set_cons_zero, List.set_cons_succ]
  refine wpAnyH_take (i := 7) (v := .slice (if cap = c then some ⟨g, off, none⟩ else some ⟨g, off + c * 129, none⟩) (n - c) (cap - c)) rfl (by kernel_rfl) (by kernel_rfl) (by kernel_rfl) (fun _ _ _ h => h) (Or.inl ⟨by rfl, fun w hS => by go_simp⟩) hHeld ?_
  simp only [Act.put, List.getElem_toArray, List.getElem_cons_zero, List.getElem_cons_succ, List.setIfInBounds_toArray, List.set_cons_zero, List.set_cons_succ]
  refine wpAnyH_done (by kernel_rfl) ?_ _
  generalize (if cap = c then (some ⟨g, off, none⟩ : Option Addr) else some ⟨g, off + c * 129, none⟩) = A1 at HV ⊢
  go_wp2_with fail
  go_ret2
  exact ⟨_, _, rfl, (HV.out _ (grow_trans hx d0)).1, (HV.out _ (grow_trans hx d0)).2, grow_trans hx d0⟩

end Go.Proofs.YtjcklpdifanjlaaDoor

/- node.rootAt, as a contract. -/
namespace Go.Proofs.YtjcklpdifanjlaaDoor
set_option maxRecDepth 20000
open Go.RowKit

theorem hash_facts (D : List Int) (h : D.length = 32) : (Tryd.prog.info? 25).map (·.size) = some (B D).size ∧ (B (List.replicate 32 0)).size = (B D).size := ⟨by rw [B_size, h]; exact sz_hash, by rw [B_size, B_size, h]; rfl⟩

set_option maxHeartbeats 2000000 in
theorem rootAt_none (d : Nat) (a : Option Addr) (cap : Nat) (w : World) (hL : Laid w) : Calls Tryd.prog 54 #[.slice a 0 cap, .int .i64 d] w fun e w' => e = .returned (.agg (B emD)) ∧ Below w.heap.size w w' := by
  have HL := hidden hL
  obtain ⟨D, hD⟩ : ∃ D, D = emD := ⟨_, rfl⟩
  have HF := hidden (hash_facts D (by rw [hD]; exact dig_length _))
  have HE : Hid (∀ w', Laid w' → Calls Tryd.prog 34 #[] w' fun e w'' => e = .returned (.agg (B D)) ∧ Below w'.heap.size w' w'') := fun w' hl => by rw [hD]; exact empty_any w' hl
  rw [← hD]
  clear hL hD
  go_enter Tryd.func54, Tryd.ntmps54
  go_wp2_with (first
    | ((with_reducible refine at_ald 4 ?_); refine wpList_al _ rfl _ rfl _ zero_hash ?_; intro w1 g1 hg1 hl1 B1 b1)
    | (go_at_call 34; refine (HE.out _ (HL.out.grow b1)).mono ?_; rintro e w2 ⟨rfl, b2⟩; have B2 := B1.grow b2)
    | ((with_reducible refine at_st 4 ?_); refine wpList_sto _ rfl _ _ _ rfl g1 _ (B D) rfl rfl B2 HF.out.1 HF.out.2 (B_one _) ?_; intro w3 B3 r3))
  exact bodyPost_ret (v := .agg (B D)) (results_cell_row rfl _ _ g1 _ _ _ _ rfl B3 Tryd.underlying25 rfl HF.out.1) rfl ⟨rfl, below_row (grow_trans b1 b2) r3 hg1⟩

set_option maxHeartbeats 2000000 in
theorem rootAt_leaf (d g off cap : Nat) (x : Lf) (w : World) (hr : w.rangeAt g off (encLf x)) (hL : Laid w) : Calls Tryd.prog 54 #[.slice (some ⟨g, off, none⟩) 1 cap, .int .i64 d] w fun e w' => e = .returned (.agg (B (lfD x.key x.val))) ∧ Below w.heap.size w w' := by
  have HL := hidden hL
  obtain ⟨D, hD⟩ : ∃ D, D = lfD x.key x.val := ⟨_, rfl⟩
  have HF := hidden (hash_facts D (by rw [hD]; exact dig_length _))
  have HE : Hid (∀ w', Laid w' → Calls Tryd.prog 39 #[.agg (B x.key), .agg (B x.val)] w' fun e w'' => e = .returned (.agg (B D)) ∧ Below w'.heap.size w' w'') := fun w' hl => by rw [hD]; exact leaf_any x.key x.val w' x.hk.1 x.hl x.hk.2 x.hb hl
  have HR : Hid (∀ w', Below w.heap.size w w' → w'.rangeAt g (off + 1) (B x.key).toList ∧ w'.rangeAt g (off + 33) (B x.val).toList) := fun w' hw' => ⟨range_grow (lf_key hr) hw', range_grow (lf_val hr) hw'⟩
  have HLK : Hid ((Tryd.prog.info? 24).map (·.size) = some (B x.key).toList.length) := by show _ = _; rw [B_toList, List.length_map, x.hk.1]; exact sz_path
  have HLV : Hid ((Tryd.prog.info? 25).map (·.size) = some (B x.val).toList.length) := by show _ = _; rw [B_toList, List.length_map, x.hl]; exact sz_hash
  obtain ⟨K, hK⟩ : ∃ K, K = x.key := ⟨_, rfl⟩
  obtain ⟨V, hV⟩ : ∃ V, V = x.val := ⟨_, rfl⟩
  rw [← hK] at HE HR HLK
  rw [← hV] at HE HR HLV
  rw [← hD]
  clear hL hD hK hV hr
  go_enter Tryd.func54, Tryd.ntmps54
  go_wp2_with (first
    | ((with_reducible refine at_ald 4 ?_); refine wpList_al _ rfl _ rfl _ zero_hash ?_; intro w1 g1 hg1 hl1 B1 b1))
  have d0 : Below w.heap.size w w1.drew := grow_trans b1 (Below.refl _ _).drew
  refine wp_region_held_drew (S := fun w' => w'.rangeAt g (off + 1) (B K).toList ∧ w'.rangeAt g (off + 33) (B V).toList) (by kernel_rfl) (HR.out _ d0) (fun hHeld => ?_)
  refine wpAnyH_take (i := 0) (v := .slice (some ⟨g, off, none⟩) 1 cap) rfl (by kernel_rfl) (by kernel_rfl) (by kernel_rfl) (fun _ _ _ h => h) (Or.inl ⟨by rfl, fun w hS => by go_simp⟩) hHeld ?_
  simp only [Act.put, List.getElem_toArray, List.getElem_cons_zero, List.setIfInBounds_toArray, List.set_cons_zero, List.set_cons_succ]
  refine wpAnyH_take (i := 1) (v := .pointer (some ⟨g, off, none⟩)) rfl (by kernel_rfl) (by kernel_rfl) (by kernel_rfl) (fun _ _ _ h => h) (Or.inl ⟨by rfl, fun w hS => by go_simp⟩) hHeld ?_
  simp only [Act.put, List.getElem_toArray, List.getElem_cons_zero, List.getElem_cons_succ, List.setIfInBounds_toArray, List.set_cons_zero, List.set_cons_succ]
  refine wpAnyH_take (i := 2) (v := .pointer (some ⟨g, off + 1, none⟩)) rfl (by kernel_rfl) (by kernel_rfl) (by kernel_rfl) (fun _ _ _ h => h) (Or.inl ⟨by rfl, fun w hS => by go_simp⟩) hHeld ?_
  simp only [Act.put, List.getElem_toArray, List.getElem_cons_zero, List.getElem_cons_succ, List.setIfInBounds_toArray, List.set_cons_zero, List.set_cons_succ]
  refine wpAnyH_take (i := 3) (v := .agg (B K)) rfl (by kernel_rfl) (by kernel_rfl) (by kernel_rfl) (fun _ _ _ h => h) (yieldsIf_load_mid rfl 24 (.tmp 16) rfl g (off + 1) rfl (B K).toList _ (fun w hS => hS.1) Tryd.underlying24 rfl HLK.out) hHeld ?_
  simp only [Act.put, List.getElem_toArray, List.getElem_cons_zero, List.getElem_cons_succ, List.setIfInBounds_toArray, List.set_cons_zero, List.set_cons_succ]
  refine wpAnyH_take (i := 4) (v := .slice (some ⟨g, off, none⟩) 1 cap) rfl (by kernel_rfl) (by kernel_rfl) (by kernel_rfl) (fun _ _ _ h => h) (Or.inl ⟨by rfl, fun w hS => by go_simp⟩) hHeld ?_
  simp only [Act.put, List.getElem_toArray, List.getElem_cons_zero, List.getElem_cons_succ, List.setIfInBounds_toArray, List.set_cons_zero, List.set_cons_succ]
  refine wpAnyH_take (i := 5) (v := .pointer (some ⟨g, off, none⟩)) rfl (by kernel_rfl) (by kernel_rfl) (by kernel_rfl) (fun _ _ _ h => h) (Or.inl ⟨by rfl, fun w hS => by go_simp⟩) hHeld ?_
  simp only [Act.put, List.getElem_toArray, List.getElem_cons_zero, List.getElem_cons_succ, List.setIfInBounds_toArray, List.set_cons_zero, List.set_cons_succ]
  refine wpAnyH_take (i := 6) (v := .pointer (some ⟨g, off + 33, none⟩)) rfl (by kernel_rfl) (by kernel_rfl) (by kernel_rfl) (fun _ _ _ h => h) (Or.inl ⟨by rfl, fun w hS => by go_simp⟩) hHeld ?_
  simp only [Act.put, List.getElem_toArray, List.getElem_cons_zero, List.getElem_cons_succ, List.setIfInBounds_toArray, List.set_cons_zero, List.set_cons_succ]
  refine wpAnyH_take (i := 7) (v := .agg (B V)) rfl (by kernel_rfl) (by kernel_rfl) (by kernel_rfl) (fun _ _ _ h => h) (yieldsIf_load_mid rfl 25 (.tmp 20) rfl g (off + 33) rfl (B V).toList _ (fun w hS => hS.2) Tryd.underlying25 rfl HLV.out) hHeld ?_
  simp only [Act.put, List.getElem_toArray, List.getElem_cons_zero, List.getElem_cons_succ, List.setIfInBounds_toArray, List.set_cons_zero, List.set_cons_succ]
  refine wpAnyH_ready (rs := [8]) (by kernel_rfl) (by simp) ?_
  refine AllReadyH.cons rfl (fun KQ hK => ?_) AllReadyH.nil
  go_simp
  refine (HE.out _ (HL.out.grow d0)).mono ?_
  rintro e x1 ⟨rfl, a1⟩
  have d1 := grow_trans d0 a1
  refine hK.out _ _ (HR.out _ d1) (fun hHeld => ?_)
  clear hK KQ
  refine wpAnyH_ready (rs := [9]) (by kernel_rfl) (by simp) ?_
  refine AllReadyH.cons rfl (fun KQ hK => ?_) AllReadyH.nil
  refine step_sto _ rfl _ _ _ rfl g1 _ (B D) rfl rfl (B1.drew.grow a1) HF.out.1 HF.out.2 (B_one _) ?_
  intro w4 B4 g4
  have c4 := below_row d1 g4 hg1
  refine hK.out _ _ (HR.out _ c4) (fun hHeld => ?_)
  clear hK KQ
  refine wpAnyH_done (by kernel_rfl) ?_ _
  go_wp2_with fail
  exact bodyPost_ret (v := .agg (B D)) (results_cell_row rfl _ _ g1 _ _ _ _ rfl B4 Tryd.underlying25 rfl HF.out.1) rfl ⟨rfl, c4⟩

theorem rtL_length (n d : Nat) (ls : List Lf) : (rtL n d ls).length = 32 := by
  match n, ls with
  | _, [] => rw [rtL_nil]; exact dig_length _
  | _, [x] => rw [rtL_one]; exact dig_length _
  | 0, _ :: _ :: _ => exact dig_length _
  | n + 1, a :: b :: l => rw [rtL_more n d _ (by simp)]; exact dig_length _
theorem rtL_bytes (n d : Nat) (ls : List Lf) : Bytes (rtL n d ls) := by
  match n, ls with
  | _, [] => rw [rtL_nil]; exact dig_bytes _
  | _, [x] => rw [rtL_one]; exact dig_bytes _
  | 0, _ :: _ :: _ => exact dig_bytes _
  | n + 1, a :: b :: l => rw [rtL_more n d _ (by simp)]; exact dig_bytes _

set_option maxHeartbeats 4000000 in
theorem rootAt_more (d : Nat) (a : Option Addr) (m cap : Nat) (R0 R1 : List Int) (P0 P1 : World → Value → Prop) (w : World) (hd : d < 256) (hm : 2 ≤ m) (l0 : R0.length = 32) (l1 : R1.length = 32) (y0 : Bytes R0) (y1 : Bytes R1) (hL : Laid w)
    (hg : ∀ w w' v, Below w.heap.size w w' → P1 w v → P1 w' v)
    (hp : ∀ w', Below w.heap.size w w' → Calls Tryd.prog 56 #[.slice a m cap, .int .i64 d] w' fun e w'' => ∃ v0 v1, e = .returned (.tuple #[v0, v1]) ∧ P0 w'' v0 ∧ P1 w'' v1 ∧ Below w'.heap.size w' w'')
    (h0 : ∀ w' v, P0 w' v → Laid w' → Calls Tryd.prog 54 #[v, .int .i64 ((d : Int) + 1)] w' fun e w'' => e = .returned (.agg (B R0)) ∧ Below w'.heap.size w' w'')
    (h1 : ∀ w' v, P1 w' v → Laid w' → Calls Tryd.prog 54 #[v, .int .i64 ((d : Int) + 1)] w' fun e w'' => e = .returned (.agg (B R1)) ∧ Below w'.heap.size w' w'') :
    Calls Tryd.prog 54 #[.slice a m cap, .int .i64 d] w fun e w' => e = .returned (.agg (B (inD R0 R1))) ∧ Below w.heap.size w w' := by
  have HL := hidden hL
  have HP := hidden hp
  have H0 := hidden h0
  have H1 := hidden h1
  have HG := hidden hg
  obtain ⟨D, hD⟩ : ∃ D, D = inD R0 R1 := ⟨_, rfl⟩
  have HF := hidden (hash_facts D (by rw [hD]; exact dig_length _))
  have HI : Hid (∀ w', Laid w' → Calls Tryd.prog 38 #[.agg (B R0), .agg (B R1)] w' fun e w'' => e = .returned (.agg (B D)) ∧ Below w'.heap.size w' w'') := fun w' hl => by rw [hD]; exact inner_any R0 R1 w' l0 l1 y0 y1 hl
  have hw : IntKind.i64.wrap ((d : Int) + 1) = (d : Int) + 1 := by rw [IntKind.wrap_i64]; omega
  have e0 : ((m : Int) == 0) = false := by simp; omega
  have e1 : ((m : Int) == 1) = false := by simp; omega
  rw [← hD]
  clear hL hD hp h0 h1 hg l0 l1 y0 y1 hm hd
  go_enter Tryd.func54, Tryd.ntmps54
  go_wp2_with (first
    | ((with_reducible refine at_ald 4 ?_); refine wpList_al _ rfl _ rfl _ zero_hash ?_; intro w1 g1 hg1 hl1 B1 b1; have KB := hidden B1.kp)
    | (go_at_call 56; refine (HP.out _ b1).mono ?_; rintro e w2 ⟨v0, v1, rfl, p0, p1, q2⟩; have HP0 := hidden p0; have HP1 := hidden p1; clear p0 p1; have c := grow_trans b1 q2; replace KB := hidden (KB.out.step q2))
    | (go_at_call 54; have mk := mk1; refine (H1.out _ _ HP1.out (HL.out.grow c)).mono ?_; rintro e w4 ⟨rfl, q4⟩; clear mk mk1; have cc := grow_trans c q4; clear c; have c := cc; clear cc; replace KB := hidden (KB.out.step q4))
    | (go_at_call 54; refine (H0.out _ _ HP0.out (HL.out.grow c)).mono ?_; rintro e w3 ⟨rfl, q3⟩; have mk1 : Hid True := trivial; have cc := grow_trans c q3; clear c; have c := cc; clear cc; replace KB := hidden (KB.out.step q3); replace HP1 := hidden (HG.out _ _ _ q3 HP1.out))
    | (go_at_call 38; refine (HI.out _ (HL.out.grow c)).mono ?_; rintro e w5 ⟨rfl, q5⟩; have cc := grow_trans c q5; clear c; have c := cc; clear cc; replace KB := hidden (KB.out.step q5))
    | ((with_reducible refine at_st 4 ?_); refine wpList_sto _ rfl _ _ _ rfl g1 _ (B D) rfl rfl KB.out.now HF.out.1 HF.out.2 (B_one _) ?_; intro w6 B6 r6))
  exact bodyPost_ret (v := .agg (B D)) (results_cell_row rfl _ _ g1 _ _ _ _ rfl B6 Tryd.underlying25 rfl HF.out.1) rfl ⟨rfl, below_row c r6 hg1⟩

theorem rootAt_any : ∀ (n d : Nat) (ls : List Lf) (v : Value) (w : World), d + n = 256 → ls.length ≤ 4096 → Rise ls → Same ls d → LvAt w v ls → Laid w →
    Calls Tryd.prog 54 #[v, .int .i64 d] w fun e w' => e = .returned (.agg (B (rtL n d ls))) ∧ Below w.heap.size w w' := by
  intro n
  induction n with
  | zero =>
    intro d ls v w hd hn hr hs hv hL
    obtain rfl : d = 256 := by omega
    have hf := hr.few hs
    obtain ⟨a, cap, rfl, hc, h⟩ := hv
    match ls, hf, h with
    | [], _, _ => rw [rtL_nil]; exact rootAt_none 256 a cap w hL
    | [x], _, h =>
      obtain ⟨g, off, rfl, hrr⟩ := h (by simp)
      have h0 := hrr 0 (by simp)
      rw [rtL_one]
      exact rootAt_leaf 256 g off cap x w (by simpa using h0) hL
  | succ n ih =>
    intro d ls v w hd hn hr hs hv hL
    obtain ⟨a, cap, rfl, hc, h⟩ := hv
    match ls, hn, hr, hs, hc, h with
    | [], _, _, _, _, _ => rw [rtL_nil]; exact rootAt_none d a cap w hL
    | [x], _, _, _, _, h =>
      obtain ⟨g, off, rfl, hrr⟩ := h (by simp)
      have h0 := hrr 0 (by simp)
      rw [rtL_one]
      exact rootAt_leaf d g off cap x w (by simpa using h0) hL
    | x :: y :: ls, hn, hr, hs, hc, h =>
      obtain ⟨g, off, rfl, hrr⟩ := h (by simp)
      rw [rtL_more n d _ (by simp)]
      have hle : ∀ b, (sdL (x :: y :: ls) d b).length ≤ 4096 := fun b => Nat.le_trans (List.length_filter_le _ _) hn
      have hi : ∀ b w' v, LvAt w' v (sdL (x :: y :: ls) d b) → Laid w' → Calls Tryd.prog 54 #[v, .int .i64 ((d : Int) + 1)] w' fun e w'' => e = .returned (.agg (B (rtL n (d + 1) (sdL (x :: y :: ls) d b)))) ∧ Below w'.heap.size w' w'' := by
        intro b w' v hv hl
        have := ih (d + 1) _ v w' (by omega) (hle b) (hr.side d b) (hs.side b) hv hl
        simpa using this
      exact rootAt_more d _ _ cap _ _ (fun w v => LvAt w v (sdL (x :: y :: ls) d 0)) (fun w v => LvAt w v (sdL (x :: y :: ls) d 1)) w (by omega) (by simp) (rtL_length _ _ _) (rtL_length _ _ _) (rtL_bytes _ _ _) (rtL_bytes _ _ _) hL
        (fun w w' v hb hv => hv.grow hb)
        (fun w' hb => part_any g off cap d (x :: y :: ls) w' (by omega) hn hc hr hs (fun i hi => range_grow (hrr i hi) hb))
        (hi 0) (hi 1)

end Go.Proofs.YtjcklpdifanjlaaDoor
