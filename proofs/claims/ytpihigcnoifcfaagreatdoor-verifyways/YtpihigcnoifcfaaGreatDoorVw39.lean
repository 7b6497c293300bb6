/- slices.SortFunc at nodes, and sort.Search: the contracts that the library bears, laid at this program (written by wip/lays.sh for one seat). -/
import Derived.Shelf.SlSortCmp.WholeK
import Derived.Shelf.SlSorted.Search
import Derived.Test.YtpihigcnoifcfaaGreatDoorProg
import Derived.Test.YtpihigcnoifcfaaGreatDoorVw19
import Derived.Test.YtpihigcnoifcfaaGreatDoorVw38
import Derived.Test.YtpihigcnoifcfaaGreatDoorVw16
import Derived.Lib.SlicesSearch
import Derived.Test.YtpihigcnoifcfaaGreatDoorVw12
namespace Go.Proofs.YtpihigcnoifcfaaGreatDoor
set_option maxRecDepth 20000
open Go.Shelf
def sortNode_ren : Go.Shelf.Ren := ⟨fun | 6 => 32 | 15 => 61 | 14 => 60 | 28 => 88 | 29 => 89 | 20 => 80 | 21 => 81 | 22 => 82 | 23 => 83 | 24 => 84 | 25 => 85 | 26 => 86 | 27 => 87 | 46 => 95 | 47 => 96 | 48 => 97 | 49 => 98 | 50 => 99 | 57 => 109 | n => n, fun | 22 => 55 | 24 => 33 | 25 => 78 | 3 => 3 | 39 => 95 | 0 => 0 | 53 => 119 | 55 => 136 | 4 => 4 | 46 => 128 | 45 => 127 | 50 => 132 | 5 => 5 | 9 => 9 | 66 => 142 | 70 => 146 | 76 => 151 | 77 => 152 | n => n, fun | n => n⟩
theorem sortNode : Go.Proofs.SlLaysF0.n6 Tryz.prog sortNode_ren := {
  mixed := by kernel_rfl
  f6 := ⟨Tryz.f32.name, by decide, Tryz.func32.trans (congrArg some (by kernel_rfl))⟩
  f14 := ⟨Tryz.f60.name, by decide, Tryz.func60.trans (congrArg some (by kernel_rfl))⟩
  f15 := Tryz.func61.trans (congrArg some (by kernel_rfl))
  f20 := ⟨Tryz.f80.name, by decide, Tryz.func80.trans (congrArg some (by kernel_rfl))⟩
  f21 := ⟨Tryz.f81.name, by decide, Tryz.func81.trans (congrArg some (by kernel_rfl))⟩
  f22 := ⟨Tryz.f82.name, by decide, Tryz.func82.trans (congrArg some (by kernel_rfl))⟩
  f23 := ⟨Tryz.f83.name, by decide, Tryz.func83.trans (congrArg some (by kernel_rfl))⟩
  f24 := ⟨Tryz.f84.name, by decide, Tryz.func84.trans (congrArg some (by kernel_rfl))⟩
  f25 := ⟨Tryz.f85.name, by decide, Tryz.func85.trans (congrArg some (by kernel_rfl))⟩
  f26 := ⟨Tryz.f86.name, by decide, Tryz.func86.trans (congrArg some (by kernel_rfl))⟩
  f27 := ⟨Tryz.f87.name, by decide, Tryz.func87.trans (congrArg some (by kernel_rfl))⟩
  f28 := Tryz.func88.trans (congrArg some (by kernel_rfl))
  f29 := Tryz.func89.trans (congrArg some (by kernel_rfl))
  f46 := ⟨Tryz.f95.name, by decide, Tryz.func95.trans (congrArg some (by kernel_rfl))⟩
  f47 := Tryz.func96.trans (congrArg some (by kernel_rfl))
  f48 := Tryz.func97.trans (congrArg some (by kernel_rfl))
  f49 := ⟨Tryz.f98.name, by decide, Tryz.func98.trans (congrArg some (by kernel_rfl))⟩
  f50 := ⟨Tryz.f99.name, by decide, Tryz.func99.trans (congrArg some (by kernel_rfl))⟩
  f57 := ⟨Tryz.f109.name, by decide, Tryz.func109.trans (congrArg some (by kernel_rfl))⟩
  t0 := Tryz.underlying0
  a0 := Tryz.isAgg0
  z0 := Tryz.sizeOf0
  v0 := Tryz.zeroValue0
  t3 := Tryz.underlying3
  a3 := Tryz.isAgg3
  z3 := Tryz.sizeOf3
  v3 := Tryz.zeroValue3
  t4 := Tryz.underlying4
  a4 := Tryz.isAgg4
  z4 := Tryz.sizeOf4
  v4 := Tryz.zeroValue4
  t5 := Tryz.underlying5
  a5 := Tryz.isAgg5
  z5 := Tryz.sizeOf5
  v5 := Tryz.zeroValue5
  t9 := Tryz.underlying9
  a9 := Tryz.isAgg9
  z9 := Tryz.sizeOf9
  v9 := Tryz.zeroValue9
  t22 := Tryz.underlying55
  a22 := Tryz.isAgg55
  z22 := Tryz.sizeOf55
  v22 := Tryz.zeroValue55
  t25 := Tryz.underlying78
  a25 := Tryz.isAgg78
  z25 := Tryz.sizeOf78
  v25 := Tryz.zeroValue78
  t39 := Tryz.underlying95
  a39 := Tryz.isAgg95
  z39 := Tryz.sizeOf95
  v39 := Tryz.zeroValue95
  t45 := Tryz.underlying127
  a45 := Tryz.isAgg127
  z45 := Tryz.sizeOf127
  v45 := Tryz.zeroValue127
  t46 := Tryz.underlying128
  a46 := Tryz.isAgg128
  z46 := Tryz.sizeOf128
  v46 := Tryz.zeroValue128
  t50 := Tryz.underlying132
  a50 := Tryz.isAgg132
  z50 := Tryz.sizeOf132
  v50 := Tryz.zeroValue132
  t53 := Tryz.underlying119
  a53 := Tryz.isAgg119
  z53 := Tryz.sizeOf119
  v53 := Tryz.zeroValue119
  t55 := Tryz.underlying136
  a55 := Tryz.isAgg136
  z55 := Tryz.sizeOf136
  v55 := Tryz.zeroValue136
  t66 := Tryz.underlying142
  a66 := Tryz.isAgg142
  z66 := Tryz.sizeOf142
  v66 := Tryz.zeroValue142
  t70 := Tryz.underlying146
  a70 := Tryz.isAgg146
  z70 := Tryz.sizeOf146
  v70 := Tryz.zeroValue146
  t76 := Tryz.underlying151
  a76 := Tryz.isAgg151
  z76 := Tryz.sizeOf151
  v76 := Tryz.zeroValue151
  t77 := Tryz.underlying152
  a77 := Tryz.isAgg152
  z77 := Tryz.sizeOf152
  v77 := Tryz.zeroValue152 }
def searchL_ren : Go.Shelf.Ren := ⟨fun | 16 => 35 | n => n, fun | 3 => 3 | 35 => 80 | 4 => 4 | 38 => 95 | n => n, fun | n => n⟩
theorem searchL : Go.Proofs.SlLaysO.n16 Tryz.prog searchL_ren := {
  mixed := by kernel_rfl
  f16 := Tryz.func35.trans (congrArg some (by kernel_rfl))
  t3 := Tryz.underlying3
  a3 := Tryz.isAgg3
  z3 := Tryz.sizeOf3
  v3 := Tryz.zeroValue3
  t4 := Tryz.underlying4
  a4 := Tryz.isAgg4
  z4 := Tryz.sizeOf4
  v4 := Tryz.zeroValue4
  t35 := Tryz.underlying80
  a35 := Tryz.isAgg80
  z35 := Tryz.sizeOf80
  v35 := Tryz.zeroValue80
  t38 := Tryz.underlying95
  a38 := Tryz.isAgg95
  z38 := Tryz.sizeOf95
  v38 := Tryz.zeroValue95 }

end Go.Proofs.YtpihigcnoifcfaaGreatDoor

/- node.part and node.rootAt, as contracts. -/
namespace Go.Proofs.YtpihigcnoifcfaaGreatDoor
set_option maxRecDepth 20000
open Go.RowKit

/-- A slice of leaves. -/
def LvAt (w : World) (v : Value) (ls : List Lf) : Prop :=
  ∃ a cap, v = .slice a ls.length cap ∧ ls.length ≤ cap ∧ (0 < ls.length → ∃ g off, a = some ⟨g, off, none⟩ ∧ ∀ i, i < ls.length → w.rangeAt g (off + i * 129) (encLf ls[i]!))

theorem range_grow {w w' : World} {g o : Nat} {cs : List Value} (h : w.rangeAt g o cs) (hb : Below w.heap.size w w') : w'.rangeAt g o cs := fun j v hv => (hb.cell (p := ⟨g, o + j, none⟩) (block_lt_of_cell (h j v hv))).trans (h j v hv)

theorem LvAt.grow {w w' : World} {v : Value} {ls : List Lf} (h : LvAt w v ls) (hb : Below w.heap.size w w') : LvAt w' v ls := by
  obtain ⟨a, cap, e, h1, h2⟩ := h
  refine ⟨a, cap, e, h1, fun hp => ?_⟩
  obtain ⟨g, off, ea, hr⟩ := h2 hp
  exact ⟨g, off, ea, fun i hi => range_grow (hr i hi) hb⟩
theorem LvAt.kp {w : World} {v : Value} {ls : List Lf} (h : LvAt w v ls) : Kp w (fun w' => LvAt w' v ls) := fun _ q => h.grow q

/-- The key, and the value's digest, in a leaf's cells. -/
theorem lf_key {w : World} {g o : Nat} {x : Lf} (h : w.rangeAt g o (encLf x)) : w.rangeAt g (o + 1) (B x.key).toList := by
  intro j v hv
  rw [B_toList, List.getElem?_map, Option.map_eq_some_iff] at hv
  obtain ⟨z, hz, rfl⟩ := hv
  rw [Nat.add_assoc]
  refine h (1 + j) _ ?_
  unfold encLf Lf.ints
  rw [List.getElem?_map, x.nd.segA j z hz]
  rfl
theorem lf_val {w : World} {g o : Nat} {x : Lf} (h : w.rangeAt g o (encLf x)) : w.rangeAt g (o + 33) (B x.val).toList := by
  intro j v hv
  rw [B_toList, List.getElem?_map, Option.map_eq_some_iff] at hv
  obtain ⟨z, hz, rfl⟩ := hv
  rw [Nat.add_assoc]
  refine h (33 + j) _ ?_
  unfold encLf Lf.ints
  rw [List.getElem?_map, x.nd.segB j z hz]
  rfl

set_option maxHeartbeats 2000000 in
/-- The function that is searched by. -/
theorem closure_bit (g off cap n i d g1 g2 : Nat) (x : Lf) (W : World) (hi : i < n) (hd : d < 256) (h1 : W.cell? ⟨g1, 0, none⟩ = some (.slice (some ⟨g, off, none⟩) n cap)) (h2 : W.cell? ⟨g2, 0, none⟩ = some (.int .i64 d)) (hr : W.rangeAt g (off + i * 129) (encLf x)) :
    Calls Tryz.prog 36 #[.int .i64 i, .pointer (some ⟨g1, 0, none⟩), .pointer (some ⟨g2, 0, none⟩)] W fun e w' => e = .returned (.bool (kb x.key d == 1)) ∧ Grew W w' := by
  have HB : Hid (∀ w', Calls Tryz.prog 16 #[.agg (B x.key), .int .i64 d] w' fun e w'' => e = .returned (.int .i64 (kb x.key d)) ∧ Grew w' w'') := fun w' => bit_grew x.key d w' x.hk hd
  have HL : Hid ((Tryz.prog.info? 24).map (·.size) = some (B x.key).toList.length) := by show _ = _; rw [B_toList, List.length_map, x.hk.1]; exact sz_path
  have HS : Hid (∀ w', Below W.heap.size W w' → w'.cell? ⟨g1, 0, none⟩ = some (.slice (some ⟨g, off, none⟩) n cap) ∧ w'.cell? ⟨g2, 0, none⟩ = some (.int .i64 d) ∧ w'.rangeAt g (off + i * 129 + 1) (B x.key).toList) := fun w' hw' => ⟨(hw'.cell (block_lt_of_cell h1)).trans h1, (hw'.cell (block_lt_of_cell h2)).trans h2, range_grow (lf_key hr) hw'⟩
  obtain ⟨K, hK⟩ : ∃ K, K = x.key := ⟨_, rfl⟩
  rw [← hK] at HB HL HS ⊢
  obtain ⟨z, hz⟩ : ∃ z, z = kb K d := ⟨_, rfl⟩
  rw [← hz] at HB ⊢
  have hi1 : (i : Int) < (n : Int) := by omega
  have hi0 : (0 : Int) ≤ (i : Int) := by omega
  clear hr h1 h2 hK hz hi
  go_enter Tryz.func36, Tryz.ntmps36
  go_wp2_with fail
  have d0 : Below W.heap.size W W.drew := (Below.refl _ _).drew
  refine wp_region_held_drew (S := fun w' => w'.cell? ⟨g1, 0, none⟩ = some (.slice (some ⟨g, off, none⟩) n cap) ∧ w'.cell? ⟨g2, 0, none⟩ = some (.int .i64 d) ∧ w'.rangeAt g (off + i * 129 + 1) (B K).toList) (by kernel_rfl) (HS.out _ d0) (fun hHeld => ?_)
  refine wpAnyH_take (i := 0) (v := .slice (some ⟨g, off, none⟩) n cap) rfl (by kernel_rfl) (by kernel_rfl) (by kernel_rfl) (fun _ _ _ h => h) (Or.inl ⟨by rfl, fun w hS => by (have s1 := hS.1; go_simp)⟩) hHeld ?_
  simp only [Act.put, List.getElem_toArray, List.getElem_cons_zero, List.setIfInBounds_toArray, List.set_cons_zero, List.set_cons_succ]
  refine wpAnyH_take (i := 1) (v := .int .i64 i) rfl (by kernel_rfl) (by kernel_rfl) (by kernel_rfl) (fun _ _ _ h => h) (Or.inl ⟨by rfl, fun w hS => by go_simp⟩) hHeld ?_
  simp only [Act.put, List.getElem_toArray, List.getElem_cons_zero, List.getElem_cons_succ, List.setIfInBounds_toArray, List.set_cons_zero, List.set_cons_succ]
  refine wpAnyH_take (i := 2) (v := .pointer (some ⟨g, off + i * 129, none⟩)) rfl (by kernel_rfl) (by kernel_rfl) (by kernel_rfl) (fun _ _ _ h => h) (Or.inl ⟨by rfl, fun w hS => by go_simp⟩) hHeld ?_
  simp only [Act.put, List.getElem_toArray, List.getElem_cons_zero, List.getElem_cons_succ, List.setIfInBounds_toArray, List.set_cons_zero, List.set_cons_succ]
  refine wpAnyH_take (i := 3) (v := .pointer (some ⟨g, off + i * 129 + 1, none⟩)) rfl (by kernel_rfl) (by kernel_rfl) (by kernel_rfl) (fun _ _ _ h => h) (Or.inl ⟨by rfl, fun w hS => by go_simp⟩) hHeld ?_
  simp only [Act.put, List.getElem_toArray, List.getElem_cons_zero, List.getElem_cons_succ, List.setIfInBounds_toArray, List.set_cons_zero, List.set_cons_succ]
  refine wpAnyH_take (i := 4) (v := .agg (B K)) rfl (by kernel_rfl) (by kernel_rfl) (by kernel_rfl) (fun _ _ _ h => h) (yieldsIf_load_mid rfl 24 (.tmp 8) rfl g (off + i * 129 + 1) rfl (B K).toList _ (fun w hS => hS.2.2) Tryz.underlying24 rfl HL.out) hHeld ?_
  simp only [Act.put, List.getElem_toArray, List.getElem_cons_zero, List.getElem_cons_succ, List.setIfInBounds_toArray, List.set_cons_zero, List.set_cons_succ]
  refine wpAnyH_take (i := 5) (v := .int .i64 d) rfl (by kernel_rfl) (by kernel_rfl) (by kernel_rfl) (fun _ _ _ h => h) (Or.inl ⟨by rfl, fun w hS => by (have s1 := hS.2.1; go_simp)⟩) hHeld ?_
  simp only [Act.put, List.getElem_toArray, List.getElem_cons_zero, List.getElem_cons_succ, List.setIfInBounds_toArray, List.set_cons_zero, List.set_cons_succ]
  refine wpAnyH_ready (rs := [6]) (by kernel_rfl) (by simp) ?_
  refine AllReadyH.cons rfl (fun KQ hK => ?_) AllReadyH.nil
  go_simp
  refine (HB.out _).mono ?_
  rintro e x1 ⟨rfl, a1⟩
  have d1 := grow_trans d0 a1.below
  refine hK.out _ _ (HS.out _ d1) (fun hHeld => ?_)
  clear hK KQ
  refine wpAnyH_take (i := 7) (v := .bool (z == 1)) rfl (by kernel_rfl) (by kernel_rfl) (by kernel_rfl) (fun _ _ _ h => h) (Or.inl ⟨by rfl, fun w hS => by go_simp⟩) hHeld ?_
  simp only [Act.put, List.getElem_toArray, List.getElem_cons_zero, List.getElem_cons_succ, List.setIfInBounds_toArray, List.set_cons_zero, List.set_cons_succ]
  refine wpAnyH_take (i := 8) (v := .bool (z == 1)) rfl (by kernel_rfl) (by kernel_rfl) (by kernel_rfl) (fun _ _ _ h => h) (Or.inl ⟨by rfl, fun w hS => by go_simp⟩) hHeld ?_
  simp only [Act.put, List.getElem_toArray, List.getElem_cons_zero, List.getElem_cons_succ, List.setIfInBounds_toArray, List.set_cons_zero, List.set_cons_succ]
  refine wpAnyH_done (by kernel_rfl) ?_ _
  go_wp2_with fail
  go_ret
  exact ⟨rfl, (Grew.drew W).trans a1⟩

theorem countP_rng (q : Lf → Bool) : ∀ l : List Lf, (List.range l.length).countP (fun i => q l[i]!) = l.countP q := by
  intro l
  have e : (List.range l.length).map (fun i => l[i]!) = l := by
    apply List.ext_getElem (by simp)
    intro i h1 h2
    simp [h2]
  have h := List.countP_map (p := q) (f := fun i => l[i]!) (l := List.range l.length)
  rw [e] at h
  exact h.symm

theorem LvAt.cut {w : World} {g off cap : Nat} {ls : List Lf} (h : ∀ i, i < ls.length → w.rangeAt g (off + i * 129) (encLf ls[i]!)) (hc : ls.length ≤ cap) (c : Nat) (hcn : c ≤ ls.length) :
    LvAt w (.slice (some ⟨g, off, none⟩) c cap) (ls.take c) ∧ LvAt w (.slice (if cap = c then some ⟨g, off, none⟩ else some ⟨g, off + c * 129, none⟩) (ls.length - c) (cap - c)) (ls.drop c) := by
  constructor
  · have hl : (ls.take c).length = c := by simp; omega
    refine ⟨_, _, by rw [hl], by omega, fun _ => ⟨g, off, rfl, fun i hi => ?_⟩⟩
    rw [hl] at hi
    have e : (ls.take c)[i]! = ls[i]! := by
      rw [getElem!_pos _ i (by omega), getElem!_pos _ i (by omega)]
      simp
    rw [e]
    exact h i (by omega)
  · have hl : (ls.drop c).length = ls.length - c := by simp
    refine ⟨_, _, by rw [hl], by omega, fun hp => ?_⟩
    rw [hl] at hp
    rw [if_neg (by omega)]
    refine ⟨g, off + c * 129, rfl, fun i hi => ?_⟩
    rw [hl] at hi
    have e : (ls.drop c)[i]! = ls[c + i]! := by
      rw [getElem!_pos _ i (by omega), getElem!_pos _ (c + i) (by omega)]
      simp
    rw [e, Nat.add_assoc, ← Nat.add_mul]
    exact h (c + i) (by omega)

theorem sub_add_cap (a b : Nat) (h : b ≤ a) : ((a : Int) - (b : Int)).toNat = a - b := by omega

set_option maxHeartbeats 4000000 in
theorem part_any (g off cap d : Nat) (ls : List Lf) (w : World) (hd : d < 256) (hn : ls.length ≤ 4096) (hcap : ls.length ≤ cap) (hr : Rise ls) (hs : Same ls d) (hv : ∀ i, i < ls.length → w.rangeAt g (off + i * 129) (encLf ls[i]!)) :
    Calls Tryz.prog 15 #[.slice (some ⟨g, off, none⟩) ls.length cap, .int .i64 d] w fun e w' => ∃ v0 v1, e = .returned (.tuple #[v0, v1]) ∧ LvAt w' v0 (sdL ls d 0) ∧ LvAt w' v1 (sdL ls d 1) ∧ Below w.heap.size w w' := by
  obtain ⟨c, hc⟩ : ∃ c, c = ls.countP fun x => !(kb x.key d == 1) := ⟨_, rfl⟩
  have hcn : c ≤ ls.length := by rw [hc]; exact List.countP_le_length
  obtain ⟨p0, p1⟩ := part_at ls d hd hr hs
  rw [← hc] at p0 p1
  have eg : ∀ args w, (callFunc 36 args).run Tryz.prog w = .ok (.enter 36 args) w := enters_of Tryz.func36 (by kernel_rfl) rfl
  have HSE : Hid (∀ w' g1 g2, Below w.heap.size w w' → w'.cell? ⟨g1, 0, none⟩ = some (.slice (some ⟨g, off, none⟩) ls.length cap) → w'.cell? ⟨g2, 0, none⟩ = some (.int .i64 d) →
      Calls Tryz.prog 35 #[.int .i64 ls.length, .func (.func 36) #[] #[.pointer (some ⟨g1, 0, none⟩), .pointer (some ⟨g2, 0, none⟩)]] w' fun e w'' => e = .returned (.int .i64 c) ∧ Grew w' w'') := by
    intro w' g1 g2 hb h1 h2
    have h := Any.sort_Search searchL 36 #[.pointer (some ⟨g1, 0, none⟩), .pointer (some ⟨g2, 0, none⟩)] ls.length (fun i => kb ls[i]!.key d == 1) w' eg (by omega) (fun m os i hi => by
      have q : Grew w' (Go.Sort.grow (w'.drewN m) os) := ⟨m, os, rfl⟩
      have := closure_bit g off cap ls.length i d g1 g2 ls[i]! _ hi hd ((q.below.cell (block_lt_of_cell h1)).trans h1) ((q.below.cell (block_lt_of_cell h2)).trans h2) (range_grow (hv i hi) (grow_trans hb q.below))
      exact this.mono fun e w'' ⟨e1, e2⟩ => ⟨e1, e2⟩) (part_mono ls d hd hr hs)
    rw [countP_rng (fun x => !(kb x.key d == 1)) ls, ← hc] at h
    exact h
  have HV : Hid (∀ w', Below w.heap.size w w' → LvAt w' (.slice (some ⟨g, off, none⟩) c cap) (sdL ls d 0) ∧ LvAt w' (.slice (if cap = c then some ⟨g, off, none⟩ else some ⟨g, off + c * 129, none⟩) (ls.length - c) (cap - c)) (sdL ls d 1)) := by
    intro w' hb
    have := LvAt.cut (fun i hi => range_grow (hv i hi) hb) hcap c hcn
    rwa [p0, p1] at this
  obtain ⟨n, hnn⟩ : ∃ n, n = ls.length := ⟨_, rfl⟩
  rw [← hnn] at HSE HV hcn hcap hn ⊢
  have i1 : (c : Int) ≤ (n : Int) := by omega
  have i2 : (0 : Int) ≤ (c : Int) := by omega
  have i3 : (n : Int) ≤ (cap : Int) := by omega
  have i4 : (c : Int) ≤ (cap : Int) := by omega
  clear hr hs hv hc p0 p1 eg hnn
  go_enter Tryz.func15, Tryz.ntmps15
  go_wp2_with (go_at_call 35; refine (HSE.out _ _ _ (grow_trans (grow_alloc _ _) (grow_alloc _ _)) (by simp) (by simp)).mono ?_; rintro e x1 ⟨rfl, a1⟩)
  have hx : Below w.heap.size w x1 := grow_trans (grow_trans (grow_alloc _ _) (grow_alloc _ _)) a1.below
  have HS : Hid (∀ w', Below x1.heap.size x1 w' → w'.cell? ⟨w.heap.size, 0, none⟩ = some (.slice (some ⟨g, off, none⟩) n cap)) := by
    intro w' hw'
    have q0 : ((w.alloc (.cells #[.slice (some ⟨g, off, none⟩) n cap] 55)).alloc (.cells #[.int .i64 d] 3)).cell? ⟨w.heap.size, 0, none⟩ = some (.slice (some ⟨g, off, none⟩) n cap) := by simp
    have q1 := (a1.below.cell (block_lt_of_cell q0)).trans q0
    exact (hw'.cell (block_lt_of_cell q1)).trans q1
  have d0 : Below x1.heap.size x1 x1.drew := (Below.refl _ _).drew
  refine wp_region_held_drew (S := fun w' => w'.cell? ⟨w.heap.size, 0, none⟩ = some (.slice (some ⟨g, off, none⟩) n cap)) (by kernel_rfl) (HS.out _ d0) (fun hHeld => ?_)
  refine wpAnyH_take (i := 0) (v := .slice (some ⟨g, off, none⟩) n cap) rfl (by kernel_rfl) (by kernel_rfl) (by kernel_rfl) (fun _ _ _ h => h) (Or.inl ⟨by rfl, fun w hS => by (have s1 := hS; go_simp)⟩) hHeld ?_
  simp only [Act.put, List.getElem_toArray, List.getElem_cons_zero, List.setIfInBounds_toArray, List.set_cons_zero, List.set_cons_succ]
  refine wpAnyH_take (i := 1) (v := .int .i64 c) rfl (by kernel_rfl) (by kernel_rfl) (by kernel_rfl) (fun _ _ _ h => h) (Or.inl ⟨by rfl, fun w hS => by go_simp⟩) hHeld ?_
  simp only [Act.put, List.getElem_toArray, List.getElem_cons_zero, List.getElem_cons_succ, List.setIfInBounds_toArray, List.set_cons_zero, List.set_cons_succ]
  refine wpAnyH_take (i := 2) (v := .slice (some ⟨g, off, none⟩) c cap) rfl (by kernel_rfl) (by kernel_rfl) (by kernel_rfl) (fun _ _ _ h => h) (Or.inl ⟨by rfl, fun w hS => by go_simp⟩) hHeld ?_
  simp only [Act.put, List.getElem_toArray, List.getElem_cons_zero, List.getElem_cons_succ, List.setIfInBounds_toArray, List.set_cons_zero, List.set_cons_succ]
  refine wpAnyH_take (i := 3) (v := .slice (some ⟨g, off, none⟩) n cap) rfl (by kernel_rfl) (by kernel_rfl) (by kernel_rfl) (fun _ _ _ h => h) (Or.inl ⟨by rfl, fun w hS => by (have s1 := hS; go_simp)⟩) hHeld ?_
  simp only [Act.put, List.getElem_toArray, List.getElem_cons_zero, List.getElem_cons_succ, List.setIfInBounds_toArray, List.set_cons_zero, List.set_cons_succ]
  refine wpAnyH_take (i := 4) (v := .int .i64 c) rfl (by kernel_rfl) (by kernel_rfl) (by kernel_rfl) (fun _ _ _ h => h) (Or.inl ⟨by rfl, fun w hS => by go_simp⟩) hHeld ?_
  simp only [Act.put, List.getElem_toArray, List.getElem_cons_zero, List.getElem_cons_succ, List.setIfInBounds_toArray, List.set_cons_zero, List.set_cons_succ]
  refine wpAnyH_take (i := 5) (v := .slice (if cap = c then some ⟨g, off, none⟩ else some ⟨g, off + c * 129, none⟩) (n - c) (cap - c)) rfl (by kernel_rfl) (by kernel_rfl) (by kernel_rfl) (fun _ _ _ h => h) (Or.inl ⟨by rfl, fun w hS => by (go_simp; skip)⟩) hHeld ?_
  simp only [Act.put, List.getElem_toArray, List.getElem_cons_zero, List.getElem_cons_succ, List.setIfInBounds_toArray, List.set_cons_zero, List.set_cons_succ]
  refine wpAnyH_take (i := 6) (v := .slice (some ⟨g, off, none⟩) c cap) rfl (by kernel_rfl) (by kernel_rfl) (by kernel_rfl) (fun _ _ _ h => h) (Or.inl ⟨by rfl, fun w hS => by go_simp⟩) hHeld ?_
  simp only [Act.put, List.getElem_toArray, List.getElem_cons_zero, List.getElem_cons_succ, List.setIfInBounds_toArray, List.set_cons_zero, List.set_cons_succ]
  refine wpAnyH_take (i := 7) (v := .slice (if cap = c then some ⟨g, off, none⟩ else some ⟨g, off + c * 129, none⟩) (n - c) (cap - c)) rfl (by kernel_rfl) (by kernel_rfl) (by kernel_rfl) (fun _ _ _ h => h) (Or.inl ⟨by rfl, fun w hS => by go_simp⟩) hHeld ?_
  simp only [Act.put, List.getElem_toArray, List.getElem_cons_zero, List.getElem_cons_succ, List.setIfInBounds_toArray, List.set_cons_zero, List.set_cons_succ]
  refine wpAnyH_done (by kernel_rfl) ?_ _
  generalize (if cap = c then (some ⟨g, off, none⟩ : Option Addr) else some ⟨g, off + c * 129, none⟩) = A1 at HV ⊢
  go_wp2_with fail
  go_ret2
  exact ⟨_, _, rfl, (HV.out _ (grow_trans hx d0)).1, (HV.out _ (grow_trans hx d0)).2, grow_trans hx d0⟩

end Go.Proofs.YtpihigcnoifcfaaGreatDoor

/- node.leavesOf, as a contract: leaves in a row of the call's own, sorted by slices.SortFunc. -/
namespace Go.Proofs.YtpihigcnoifcfaaGreatDoor
set_option maxRecDepth 20000
open Go.RowKit Go.Shelf
open Go.Sort (HoldsK putRowK size_flatK get_flatK)


/-- make([]api.Node, n). -/
theorem wpList_mkn {ops : Array Oper} {rest : List Oper} {o : Oper} {a : Act} {Q : Exit → Act → World → Prop} (w : World) (hgd : o.guard = none) (x y : Operand)
    (hop : o.op = Op.makeSlice 55 x y) (n : Nat) (hx : a.eval x = .int .i64 n) (hy : a.eval y = .int .i64 n) (hn : n ≤ 4096)
    (h : ∀ w' g cs, w.heap.size ≤ g → Blk w' g 33 cs → cs.size = n * 129 → Below w.heap.size w w' → wpList Tryz.prog ops Q rest (a.put o.dst (.slice (some ⟨g, 0, none⟩) n n)) w') :
    wpList Tryz.prog ops Q (o :: rest) a w := by
  refine wpList_plain hgd fun K hK => ?_
  obtain ⟨i, z, hi, hz, hs, hby⟩ : ∃ i z, Tryz.prog.info? 33 = some i ∧ i.zero = some z ∧ i.size = 129 ∧ i.bytes = 129 := ⟨_, _, rfl, rfl, rfl, rfl⟩
  have hr := run_make (P := Tryz.prog) w 55 33 i z Tryz.underlying55 hi hz .i64 .i64 n n (by omega) (by omega) (by rw [hby]; omega) (by omega)
  rw [hs] at hr
  simp only [Int.toNat_natCast] at hr
  unfold Oper.wp
  simp [execOp, hop, hx, hy, hr, Result.andThen]
  exact hK _ _ (h _ _ _ (Nat.le_refl _) (heap_alloc_new w _) (size_madeCells _ _) (grow_alloc w _))

/-- n leaves of the list in a row, and room for m. -/
def Rows (w : World) (g m : Nat) (ls : List Lf) : Prop := (∀ i, i < ls.length → w.rangeAt g (i * 129) (encLf ls[i]!)) ∧ ∀ i, i < m → w.there g (i * 129) 129
theorem Rows.grow {w w' : World} {g m : Nat} {ls : List Lf} (h : Rows w g m ls) (hb : Below w.heap.size w w') : Rows w' g m ls := ⟨fun i hi => range_grow (h.1 i hi) hb, fun i hi => there_grow (h.2 i hi) hb⟩
theorem Rows.put {w : World} {g m : Nat} {ls : List Lf} (h : Rows w g m ls) (x : Lf) (hm : ls.length < m) : Rows (w.setCells g (ls.length * 129) (encLf x)) g m (ls ++ [x]) := by
  constructor
  · intro i hi
    rw [List.length_append, List.length_singleton] at hi
    by_cases e : i = ls.length
    · subst e
      have : (ls ++ [x])[ls.length]! = x := by rw [getElem!_pos _ _ (by simp)]; simp
      rw [this]
      exact World.rangeAt_setCells_same _ _ _ _ (by rw [encLf_length]; exact h.2 _ hm)
    · have hlt : i < ls.length := by omega
      have e2 : (ls ++ [x])[i]! = ls[i]! := by
        rw [getElem!_pos _ i (by simp; omega), getElem!_pos _ i hlt]
        exact List.getElem_append_left hlt
      rw [e2]
      refine World.rangeAt_setCells_apart (h.1 i hlt) _ _ _ (.inr (.inl ?_))
      rw [encLf_length]
      omega
  · intro i hi
    exact World.there_setCells (h.2 i hi) _ _ _

theorem Rows.holds {w : World} {g : Nat} {ls : List Lf} (h : Rows w g ls.length ls) : HoldsK encLf 129 w g 0 ls.toArray := by
  intro j hj
  rw [size_flatK, List.size_toArray] at hj
  have h1 : j / 129 < ls.length := by omega
  have h2 : j % 129 < 129 := by omega
  have hc := h.1 (j / 129) h1 (j % 129) (encLf ls[j / 129]!)[j % 129]! (by
    have hlt : j % 129 < (encLf ls[j / 129]!).length := by rw [encLf_length]; exact h2
    rw [getElem!_pos (encLf ls[j / 129]!) _ hlt, List.getElem?_eq_getElem hlt])
  have hf := (h.2 (j / 129) h1 (j % 129) h2).2
  have e : j / 129 * 129 + j % 129 = j := by omega
  rw [e] at hc hf
  rw [get_flatK _ _ _ _ (by rw [List.size_toArray]; exact hj), Nat.zero_add, show ls.toArray[j / 129]! = ls[j / 129]! by simp]
  exact ⟨hc, hf⟩

theorem rows_of_holds {w : World} {g n cap : Nat} {d : Array Lf} (h : HoldsK encLf 129 w g 0 d) (hn : d.size = n) (hc : n ≤ cap) : LvAt w (.slice (some ⟨g, 0, none⟩) n cap) d.toList := by
  subst hn
  refine ⟨_, _, by rw [Array.length_toList], by rw [Array.length_toList]; exact hc, fun _ => ⟨g, 0, rfl, fun i hi j v hv => ?_⟩⟩
  rw [Array.length_toList] at hi
  have hj : j < 129 := by have := (List.getElem?_eq_some_iff.1 hv).1; rwa [encLf_length] at this
  have := (h.cell hi hj).1
  have e : d.toList[i]! = d[i]! := by
    rw [getElem!_pos d.toList i (by simpa using hi), getElem!_pos d i hi]
    simp
  rw [e] at hv
  rw [this]
  rw [getElem!_pos _ _ (by rw [encLf_length]; exact hj)]
  rw [List.getElem?_eq_getElem (by rw [encLf_length]; exact hj)] at hv
  exact hv

theorem cmpLays_lf (blk off size : Nat) (w : World) : CmpLays Tryz.prog 33 #[] encLf 129 cfLf blk off size w := fun m os dk _ x y => by
  have := closure_cmp 1 1 x.key x.val z32 z32 y.key y.val z32 z32 (sortWorldK encLf 129 w blk off m dk os) x.nd y.nd
  exact this.mono fun e w' ⟨h1, h2⟩ => ⟨h1, h2⟩

theorem sortWorld_below {w0 w : World} {g n : Nat} {d : Array Lf} {os : Array Obj} (hb : Below w0.heap.size w0 w) (hg : w0.heap.size ≤ g) : Below w0.heap.size w0 (sortWorldK encLf 129 w g 0 n d os) := by
  refine hb.trans ⟨rfl, rfl, rfl, size_sortWorldK_c encLf 129 w g 0 n d os, fun k hk => ?_⟩
  have hk' : k < w.heap.size := Nat.lt_of_lt_of_le hk hb.size
  unfold sortWorldK putRowK Go.Sort.putRow Go.Sort.mapBlock
  rw [Go.Sort.heap_grow_old _ _ (by simp [Go.Sort.ahead]; exact hk')]
  simp [Go.Sort.ahead, Array.getElem?_modify]
  intro e
  omega

/-- The leaves sorted. -/
theorem sort_any (g : Nat) (ls : List Lf) (w0 w : World) (h : Rows w g ls.length ls) (hl : g < w.heap.size) (hb : Below w0.heap.size w0 w) (hg : w0.heap.size ≤ g) (hn : ls.length ≤ 4096) (hne : ls.Pairwise fun a b => a.key ≠ b.key) :
    Calls Tryz.prog 32 #[.slice (some ⟨g, 0, none⟩) ls.length ls.length, .func (.func 33) #[] #[]] w fun e w' => e = .returned (.tuple #[]) ∧ (∃ l', LvAt w' (.slice (some ⟨g, 0, none⟩) ls.length ls.length) l' ∧ l'.Perm ls ∧ Rise l') ∧ Below w0.heap.size w0 w' := by
  have eg : ∀ args w, (callFunc 33 args).run Tryz.prog w = .ok (.enter 33 args) w := enters_of Tryz.func33 (by kernel_rfl) rfl
  have hcon := AnyQ.slices_SortFunc sortNode 129 Tryz.isAgg33 Tryz.sizeOf33 encLf encLf_length encLf_one cfLf swoLf 33 #[] g 0 ls.length ls.toArray w eg (cmpLays_lf g 0 _ w) h.holds hl (by rw [List.size_toArray]; omega)
  rw [List.size_toArray] at hcon
  refine Calls.mono hcon ?_
  rintro e w' ⟨rfl, d', n, os, hp, hs, rfl⟩
  refine ⟨rfl, ⟨d'.toList, ?_, ?_, ?_⟩, sortWorld_below hb hg⟩
  · exact rows_of_holds (holdsK_sortWorldK_c encLf 129 w g 0 ls.toArray d' n os h.holds hl hp.1) (by rw [hp.1]; simp) (Nat.le_refl _)
  · have h3 := hp.2.2
    have e1 : d'.extract 0 ls.length = d' := by
      have : d'.size = ls.length := by rw [hp.1]; simp
      rw [← this]
      simp
    have e2 : ls.toArray.extract 0 ls.length = ls.toArray := by simp
    rw [e1, e2] at h3
    simpa using h3
  · have h3 := hp.2.2
    have hsz : d'.size = ls.length := by rw [hp.1]; simp
    have e1 : d'.extract 0 ls.length = d' := by
      rw [← hsz]
      simp
    have e2 : ls.toArray.extract 0 ls.length = ls.toArray := by simp
    rw [e1, e2] at h3
    have hne' : d'.toList.Pairwise fun a b => a.key ≠ b.key := h3.symm.pairwise (by simpa using hne) (fun h => Ne.symm h)
    refine List.pairwise_iff_getElem.2 fun i j hi hj hij => ?_
    have hi' : i < d'.size := by simpa using hi
    have hj' : j < d'.size := by simpa using hj
    have h4 := hs i j (Nat.zero_le _) hij (by omega)
    rw [getElem!_pos d' i hi', getElem!_pos d' j hj'] at h4
    have h5 : ¬ Ahead d'[j].key d'[i].key := by
      intro ha
      have := (cfLf_lt d'[j] d'[i]).2 ha
      have h6 : decide (cfLf d'[j] d'[i] < 0) = false := h4
      rw [h6] at this
      cases this
    rcases ahead_total d'[j].hk d'[i].hk h5 with e | e
    · exact absurd e.symm (List.pairwise_iff_getElem.1 hne' i j hi hj hij)
    · exact e

end Go.Proofs.YtpihigcnoifcfaaGreatDoor
