/- slices.SortFunc at nodes, and sort.Search: the contracts that the library bears, laid at this program (written by wip/lays.sh for one seat). -/
import Derived.Shelf.SlSortCmp.WholeK
import Derived.Shelf.SlSorted.Search
import Derived.Test.YtjikgagaalbaeaaGreatDoorProg
import Derived.Test.YtjikgagaalbaeaaGreatDoorTr11
import Derived.Test.YtjikgagaalbaeaaGreatDoorTr47
import Derived.Test.YtjikgagaalbaeaaGreatDoorTr43
import Derived.Lib.SlicesSearch
namespace Go.Proofs.YtjikgagaalbaeaaGreatDoor
set_option maxRecDepth 20000
open Go.Shelf
def sortNode_ren : Go.Shelf.Ren := ⟨fun | 6 => 92 | 15 => 116 | 14 => 115 | 28 => 142 | 29 => 143 | 20 => 134 | 21 => 135 | 22 => 136 | 23 => 137 | 24 => 138 | 25 => 139 | 26 => 140 | 27 => 141 | 46 => 153 | 47 => 154 | 48 => 155 | 49 => 156 | 50 => 157 | 57 => 168 | n => n, fun | 22 => 80 | 24 => 108 | 25 => 116 | 3 => 3 | 39 => 147 | 0 => 0 | 53 => 151 | 55 => 172 | 4 => 4 | 46 => 165 | 45 => 164 | 50 => 127 | 5 => 5 | 9 => 9 | 66 => 179 | 70 => 183 | 76 => 189 | 77 => 78 | n => n, fun | n => n⟩
theorem sortNode : Go.Proofs.SlLaysF0.n6 Tryz.prog sortNode_ren := {
  mixed := by kernel_rfl
  f6 := ⟨Tryz.f92.name, by decide, Tryz.func92.trans (congrArg some (by kernel_rfl))⟩
  f14 := ⟨Tryz.f115.name, by decide, Tryz.func115.trans (congrArg some (by kernel_rfl))⟩
  f15 := Tryz.func116.trans (congrArg some (by kernel_rfl))
  f20 := ⟨Tryz.f134.name, by decide, Tryz.func134.trans (congrArg some (by kernel_rfl))⟩
  f21 := ⟨Tryz.f135.name, by decide, Tryz.func135.trans (congrArg some (by kernel_rfl))⟩
  f22 := ⟨Tryz.f136.name, by decide, Tryz.func136.trans (congrArg some (by kernel_rfl))⟩
  f23 := ⟨Tryz.f137.name, by decide, Tryz.func137.trans (congrArg some (by kernel_rfl))⟩
  f24 := ⟨Tryz.f138.name, by decide, Tryz.func138.trans (congrArg some (by kernel_rfl))⟩
  f25 := ⟨Tryz.f139.name, by decide, Tryz.func139.trans (congrArg some (by kernel_rfl))⟩
  f26 := ⟨Tryz.f140.name, by decide, Tryz.func140.trans (congrArg some (by kernel_rfl))⟩
  f27 := ⟨Tryz.f141.name, by decide, Tryz.func141.trans (congrArg some (by kernel_rfl))⟩
  f28 := Tryz.func142.trans (congrArg some (by kernel_rfl))
  f29 := Tryz.func143.trans (congrArg some (by kernel_rfl))
  f46 := ⟨Tryz.f153.name, by decide, Tryz.func153.trans (congrArg some (by kernel_rfl))⟩
  f47 := Tryz.func154.trans (congrArg some (by kernel_rfl))
  f48 := Tryz.func155.trans (congrArg some (by kernel_rfl))
  f49 := ⟨Tryz.f156.name, by decide, Tryz.func156.trans (congrArg some (by kernel_rfl))⟩
  f50 := ⟨Tryz.f157.name, by decide, Tryz.func157.trans (congrArg some (by kernel_rfl))⟩
  f57 := ⟨Tryz.f168.name, by decide, Tryz.func168.trans (congrArg some (by kernel_rfl))⟩
  t0 := Tryz.underlying0
  a0 := Tryz.isAgg0
  z0 := Tryz.sizeOf0
  v0 := Tryz.zeroValue0
  t3 := Tryz.underlying3
  a3 := Tryz.isAgg3
  z3 := Tryz.sizeOf3
  v3 := Tryz.zeroValue3
  t4 := Tryz.underlying4
  a4 := Tryz.isAgg4
  z4 := Tryz.sizeOf4
  v4 := Tryz.zeroValue4
  t5 := Tryz.underlying5
  a5 := Tryz.isAgg5
  z5 := Tryz.sizeOf5
  v5 := Tryz.zeroValue5
  t9 := Tryz.underlying9
  a9 := Tryz.isAgg9
  z9 := Tryz.sizeOf9
  v9 := Tryz.zeroValue9
  t22 := Tryz.underlying80
  a22 := Tryz.isAgg80
  z22 := Tryz.sizeOf80
  v22 := Tryz.zeroValue80
  t25 := Tryz.underlying116
  a25 := Tryz.isAgg116
  z25 := Tryz.sizeOf116
  v25 := Tryz.zeroValue116
  t39 := Tryz.underlying147
  a39 := Tryz.isAgg147
  z39 := Tryz.sizeOf147
  v39 := Tryz.zeroValue147
  t45 := Tryz.underlying164
  a45 := Tryz.isAgg164
  z45 := Tryz.sizeOf164
  v45 := Tryz.zeroValue164
  t46 := Tryz.underlying165
  a46 := Tryz.isAgg165
  z46 := Tryz.sizeOf165
  v46 := Tryz.zeroValue165
  t50 := Tryz.underlying127
  a50 := Tryz.isAgg127
  z50 := Tryz.sizeOf127
  v50 := Tryz.zeroValue127
  t53 := Tryz.underlying151
  a53 := Tryz.isAgg151
  z53 := Tryz.sizeOf151
  v53 := Tryz.zeroValue151
  t55 := Tryz.underlying172
  a55 := Tryz.isAgg172
  z55 := Tryz.sizeOf172
  v55 := Tryz.zeroValue172
  t66 := Tryz.underlying179
  a66 := Tryz.isAgg179
  z66 := Tryz.sizeOf179
  v66 := Tryz.zeroValue179
  t70 := Tryz.underlying183
  a70 := Tryz.isAgg183
  z70 := Tryz.sizeOf183
  v70 := Tryz.zeroValue183
  t76 := Tryz.underlying189
  a76 := Tryz.isAgg189
  z76 := Tryz.sizeOf189
  v76 := Tryz.zeroValue189
  t77 := Tryz.underlying78
  a77 := Tryz.isAgg78
  z77 := Tryz.sizeOf78
  v77 := Tryz.zeroValue78 }
def searchL_ren : Go.Shelf.Ren := ⟨fun | 16 => 120 | n => n, fun | 3 => 3 | 35 => 95 | 4 => 4 | 38 => 147 | n => n, fun | n => n⟩
theorem searchL : Go.Proofs.SlLaysO.n16 Tryz.prog searchL_ren := {
  mixed := by kernel_rfl
  f16 := Tryz.func120.trans (congrArg some (by kernel_rfl))
  t3 := Tryz.underlying3
  a3 := Tryz.isAgg3
  z3 := Tryz.sizeOf3
  v3 := Tryz.zeroValue3
  t4 := Tryz.underlying4
  a4 := Tryz.isAgg4
  z4 := Tryz.sizeOf4
  v4 := Tryz.zeroValue4
  t35 := Tryz.underlying95
  a35 := Tryz.isAgg95
  z35 := Tryz.sizeOf95
  v35 := Tryz.zeroValue95
  t38 := Tryz.underlying147
  a38 := Tryz.isAgg147
  z38 := Tryz.sizeOf147
  v38 := Tryz.zeroValue147 }

end Go.Proofs.YtjikgagaalbaeaaGreatDoor

/- node.part and node.rootAt, as contracts. -/
namespace Go.Proofs.YtjikgagaalbaeaaGreatDoor
set_option maxRecDepth 20000
open Go.RowKit

/-- A slice of leaves. -/
def LvAt (w : World) (v : Value) (ls : List Lf) : Prop :=
  ∃ a cap, v = .slice a ls.length cap ∧ ls.length ≤ cap ∧ (0 < ls.length → ∃ g off, a = some ⟨g, off, none⟩ ∧ ∀ i, i < ls.length → w.rangeAt g (off + i * 129) (encLf ls[i]!))

theorem range_grow {w w' : World} {g o : Nat} {cs : List Value} (h : w.rangeAt g o cs) (hb : Below w.heap.size w w') : w'.rangeAt g o cs := fun j v hv => (hb.cell (p := ⟨g, o + j, none⟩) (block_lt_of_cell (h j v hv))).trans (h j v hv)

theorem LvAt.grow {w w' : World} {v : Value} {ls : List Lf} (h : LvAt w v ls) (hb : Below w.heap.size w w') : LvAt w' v ls := by
  obtain ⟨a, cap, e, h1, h2⟩ := h
  refine ⟨a, cap, e, h1, fun hp => ?_⟩
  obtain ⟨g, off, ea, hr⟩ := h2 hp
  exact ⟨g, off, ea, fun i hi => range_grow (hr i hi) hb⟩
theorem LvAt.kp {w : World} {v : Value} {ls : List Lf} (h : LvAt w v ls) : Kp w (fun w' => LvAt w' v ls) := fun _ q => h.grow q

/-- The key, and the value's digest, in a leaf's cells. -/
theorem lf_key {w : World} {g o : Nat} {x : Lf} (h : w.rangeAt g o (encLf x)) : w.rangeAt g (o + 1) (B x.key).toList := by
  intro j v hv
  rw [B_toList, List.getElem?_map, Option.map_eq_some_iff] at hv
  obtain ⟨z, hz, rfl⟩ := hv
  rw [Nat.add_assoc]
  refine h (1 + j) _ ?_
  unfold encLf Lf.ints
  rw [List.getElem?_map, x.nd.segA j z hz]
  rfl
theorem lf_val {w : World} {g o : Nat} {x : Lf} (h : w.rangeAt g o (encLf x)) : w.rangeAt g (o + 33) (B x.val).toList := by
  intro j v hv
  rw [B_toList, List.getElem?_map, Option.map_eq_some_iff] at hv
  obtain ⟨z, hz, rfl⟩ := hv
  rw [Nat.add_assoc]
  refine h (33 + j) _ ?_
  unfold encLf Lf.ints
  rw [List.getElem?_map, x.nd.segB j z hz]
  rfl

set_option maxHeartbeats 2000000 in
/-- The function that is searched by. -/
theorem closure_bit (g off cap n i d g1 g2 : Nat) (x : Lf) (W : World) (hi : i < n) (hd : d < 256) (h1 : W.cell? ⟨g1, 0, none⟩ = some (.slice (some ⟨g, off, none⟩) n cap)) (h2 : W.cell? ⟨g2, 0, none⟩ = some (.int .i64 d)) (hr : W.rangeAt g (off + i * 129) (encLf x)) :
    Calls Tryz.prog 121 #[.int .i64 i, .pointer (some ⟨g1, 0, none⟩), .pointer (some ⟨g2, 0, none⟩)] W fun e w' => e = .returned (.bool (kb x.key d == 1)) ∧ Grew W w' := by
  have HB : Hid (∀ w', Calls Tryz.prog 122 #[.agg (B x.key), .int .i64 d] w' fun e w'' => e = .returned (.int .i64 (kb x.key d)) ∧ Grew w' w'') := fun w' => bit_grew x.key d w' x.hk hd
  have HL : Hid ((Tryz.prog.info? 31).map (·.size) = some (B x.key).toList.length) := by show _ = _; rw [B_toList, List.length_map, x.hk.1]; exact sz_path
  have HS : Hid (∀ w', Below W.heap.size W w' → w'.cell? ⟨g1, 0, none⟩ = some (.slice (some ⟨g, off, none⟩) n cap) ∧ w'.cell? ⟨g2, 0, none⟩ = some (.int .i64 d) ∧ w'.rangeAt g (off + i * 129 + 1) (B x.key).toList) := fun w' hw' => ⟨(hw'.cell (block_lt_of_cell h1)).trans h1, (hw'.cell (block_lt_of_cell h2)).trans h2, range_grow (lf_key hr) hw'⟩
  obtain ⟨K, hK⟩ : ∃ K, K = x.key := ⟨_, rfl⟩
  rw [← hK] at HB HL HS ⊢
  obtain ⟨z, hz⟩ : ∃ z, z = kb K d := ⟨_, rfl⟩
  rw [← hz] at HB ⊢
  have hi1 : (i : Int) < (n : Int) := by omega
  have hi0 : (0 : Int) ≤ (i : Int) := by omega
  clear hr h1 h2 hK hz hi
  go_enter Tryz.func121, Tryz.ntmps121
  go_wp2_with fail
  have d0 : Below W.heap.size W W.drew := (Below.refl _ _).drew
  refine wp_region_held_drew (S := fun w' => w'.cell? ⟨g1, 0, none⟩ = some (.slice (some ⟨g, off, none⟩) n cap) ∧ w'.cell? ⟨g2, 0, none⟩ = some (.int .i64 d) ∧ w'.rangeAt g (off + i * 129 + 1) (B K).toList) (by kernel_rfl) (HS.out _ d0) (fun hHeld => ?_)
  refine wpAnyH_take (i := 0) (v := .slice (some ⟨g, off, none⟩) n cap) rfl (by kernel_rfl) (by kernel_rfl) (by kernel_rfl) (fun _ _ _ h => h) (Or.inl ⟨by rfl, fun w hS => by (have s1 := hS.1; go_simp)⟩) hHeld ?_
  simp only [Act.put, List.getElem_toArray, List.getElem_cons_zero, List.setIfInBounds_toArray, List.set_cons_zero, List.set_cons_succ]
  refine wpAnyH_take (i := 1) (v := .int .i64 i) rfl (by kernel_rfl) (by kernel_rfl) (by kernel_rfl) (fun _ _ _ h => h) (Or.inl ⟨by rfl, fun w hS => by go_simp⟩) hHeld ?_
  simp only [Act.put, List.getElem_toArray, List.getElem_cons_zero, List.getElem_cons_succ, List.setIfInBounds_toArray, List.set_cons_zero, List.set_cons_succ]
  refine wpAnyH_take (i := 2) (v := .pointer (some ⟨g, off + i * 129, none⟩)) rfl (by kernel_rfl) (by kernel_rfl) (by kernel_rfl) (fun _ _ _ h => h) (Or.inl ⟨by rfl, fun w hS => by go_simp⟩) hHeld ?_
  simp only [Act.put, List.getElem_toArray, List.getElem_cons_zero, List.getElem_cons_succ, List.setIfInBounds_toArray, List.set_cons_zero, List.set_cons_succ]
  refine wpAnyH_take (i := 3) (v := .pointer (some ⟨g, off + i * 129 + 1, none⟩)) rfl (by kernel_rfl) (by kernel_rfl) (by kernel_rfl) (fun _ _ _ h => h) (Or.inl ⟨by rfl, fun w hS => by go_simp⟩) hHeld ?_
  simp only [Act.put, List.getElem_toArray, List.getElem_cons_zero, List.getElem_cons_succ, List.setIfInBounds_toArray, List.set_cons_zero, List.set_cons_succ]
  refine wpAnyH_take (i := 4) (v := .agg (B K)) rfl (by kernel_rfl) (by kernel_rfl) (by kernel_rfl) (fun _ _ _ h => h) (yieldsIf_load_mid rfl 31 (.tmp 8) rfl g (off + i * 129 + 1) rfl (B K).toList _ (fun w hS => hS.2.2) Tryz.underlying31 rfl HL.out) hHeld ?_
  simp only [Act.put, List.getElem_toArray, List.getElem_cons_zero, List.getElem_cons_succ, List.setIfInBounds_toArray, List.set_cons_zero, List.set_cons_succ]
  refine wpAnyH_take (i := 5) (v := .int .i64 d) rfl (by kernel_rfl) (by kernel_rfl) (by kernel_rfl) (fun _ _ _ h => h) (Or.inl ⟨by rfl, fun w hS => by (have s1 := hS.2.1; go_simp)⟩) hHeld ?_
  simp only [Act.put, List.getElem_toArray, List.getElem_cons_zero, List.getElem_cons_succ, List.setIfInBounds_toArray, List.set_cons_zero, List.set_cons_succ]
  refine wpAnyH_ready (rs := [6]) (by kernel_rfl) (by simp) ?_
  refine AllReadyH.cons rfl (fun KQ hK => ?_) AllReadyH.nil
  go_simp
  refine (HB.out _).mono ?_
  rintro e x1 ⟨rfl, a1⟩
  have d1 := grow_trans d0 a1.below
  refine hK.out _ _ (HS.out _ d1) (fun hHeld => ?_)
  clear hK KQ
  refine wpAnyH_take (i := 7) (v := .bool (z == 1)) rfl (by kernel_rfl) (by kernel_rfl) (by kernel_rfl) (fun _ _ _ h => h) (Or.inl ⟨by rfl, fun w hS => by go_simp⟩) hHeld ?_
  simp only [Act.put, List.getElem_toArray, List.getElem_cons_zero, List.getElem_cons_succ, List.setIfInBounds_toArray, List.set_cons_zero, List.set_cons_succ]
  refine wpAnyH_take (i := 8) (v := .bool (z == 1)) rfl (by kernel_rfl) (by kernel_rfl) (by kernel_rfl) (fun _ _ _ h => h) (Or.inl ⟨by rfl, fun w hS => by go_simp⟩) hHeld ?_
  simp only [Act.put, List.getElem_toArray, List.getElem_cons_zero, List.getElem_cons_succ, List.setIfInBounds_toArray, List.set_cons_zero, List.set_cons_succ]
  refine wpAnyH_done (by kernel_rfl) ?_ _
  go_wp2_with fail
  go_ret
  exact ⟨rfl, (Grew.drew W).trans a1⟩

theorem countP_rng (q : Lf → Bool) : ∀ l : List Lf, (List.range l.length).countP (fun i => q l[i]!) = l.countP q := by
  intro l
  have e : (List.range l.length).map (fun i => l[i]!) = l := by
    apply List.ext_getElem (by simp)
    intro i h1 h2
    simp [h2]
  have h := List.countP_map (p := q) (f := fun i => l[i]!) (l := List.range l.length)
  rw [e] at h
  exact h.symm

theorem LvAt.cut {w : World} {g off cap : Nat} {ls : List Lf} (h : ∀ i, i < ls.length → w.rangeAt g (off + i * 129) (encLf ls[i]!)) (hc : ls.length ≤ cap) (c : Nat) (hcn : c ≤ ls.length) :
    LvAt w (.slice (some ⟨g, off, none⟩) c cap) (ls.take c) ∧ LvAt w (.slice (if cap = c then some ⟨g, off, none⟩ else some ⟨g, off + c * 129, none⟩) (ls.length - c) (cap - c)) (ls.drop c) := by
  constructor
  · have hl : (ls.take c).length = c := by simp; omega
    refine ⟨_, _, by rw [hl], by omega, fun _ => ⟨g, off, rfl, fun i hi => ?_⟩⟩
    rw [hl] at hi
    have e : (ls.take c)[i]! = ls[i]! := by
      rw [getElem!_pos _ i (by omega), getElem!_pos _ i (by omega)]
      simp
    rw [e]
    exact h i (by omega)
  · have hl : (ls.drop c).length = ls.length - c := by simp
    refine ⟨_, _, by rw [hl], by omega, fun hp => ?_⟩
    rw [hl] at hp
    rw [if_neg (by omega)]
    refine ⟨g, off + c * 129, rfl, fun i hi => ?_⟩
    rw [hl] at hi
    have e : (ls.drop c)[i]! = ls[c + i]! := by
      rw [getElem!_pos _ i (by omega), getElem!_pos _ (c + i) (by omega)]
      simp
    rw [e, Nat.add_assoc, ← Nat.add_mul]
    exact h (c + i) (by omega)

theorem sub_add_cap (a b : Nat) (h : b ≤ a) : ((a : Int) - (b : Int)).toNat = a - b := by omega

set_option maxHeartbeats 4000000 in
theorem part_any (g off cap d : Nat) (ls : List Lf) (w : World) (hd : d < 256) (hn : ls.length ≤ 4096) (hcap : ls.length ≤ cap) (hr : Rise ls) (hs : Same ls d) (hv : ∀ i, i < ls.length → w.rangeAt g (off + i * 129) (encLf ls[i]!)) :
    Calls Tryz.prog 97 #[.slice (some ⟨g, off, none⟩) ls.length cap, .int .i64 d] w fun e w' => ∃ v0 v1, e = .returned (.tuple #[v0, v1]) ∧ LvAt w' v0 (sdL ls d 0) ∧ LvAt w' v1 (sdL ls d 1) ∧ Below w.heap.size w w' := by
  obtain ⟨c, hc⟩ : ∃ c, c = ls.countP fun x => !(kb x.key d == 1) := ⟨_, rfl⟩
  have hcn : c ≤ ls.length := by rw [hc]; exact List.countP_le_length
  obtain ⟨p0, p1⟩ := part_at ls d hd hr hs
  rw [← hc] at p0 p1
  have eg : ∀ args w, (callFunc 121 args).run Tryz.prog w = .ok (.enter 121 args) w := enters_of Tryz.func121 (by kernel_rfl) rfl
  have HSE : Hid (∀ w' g1 g2, Below w.heap.size w w' → w'.cell? ⟨g1, 0, none⟩ = some (.slice (some ⟨g, off, none⟩) ls.length cap) → w'.cell? ⟨g2, 0, none⟩ = some (.int .i64 d) →
      Calls Tryz.prog 120 #[.int .i64 ls.length, .func (.func 121) #[] #[.pointer (some ⟨g1, 0, none⟩), .pointer (some ⟨g2, 0, none⟩)]] w' fun e w'' => e = .returned (.int .i64 c) ∧ Grew w' w'') := by
    intro w' g1 g2 hb h1 h2
    have h := Any.sort_Search searchL 121 #[.pointer (some ⟨g1, 0, none⟩), .pointer (some ⟨g2, 0, none⟩)] ls.length (fun i => kb ls[i]!.key d == 1) w' eg (by omega) (fun m os i hi => by
      have q : Grew w' (Go.Sort.grow (w'.drewN m) os) := ⟨m, os, rfl⟩
      have := closure_bit g off cap ls.length i d g1 g2 ls[i]! _ hi hd ((q.below.cell (block_lt_of_cell h1)).trans h1) ((q.below.cell (block_lt_of_cell h2)).trans h2) (range_grow (hv i hi) (grow_trans hb q.below))
      exact this.mono fun e w'' ⟨e1, e2⟩ => ⟨e1, e2⟩) (part_mono ls d hd hr hs)
    rw [countP_rng (fun x => !(kb x.key d == 1)) ls, ← hc] at h
    exact h
  have HV : Hid (∀ w', Below w.heap.size w w' → LvAt w' (.slice (some ⟨g, off, none⟩) c cap) (sdL ls d 0) ∧ LvAt w' (.slice (if cap = c then some ⟨g, off, none⟩ else some ⟨g, off + c * 129, none⟩) (ls.length - c) (cap - c)) (sdL ls d 1)) := by
    intro w' hb
    have := LvAt.cut (fun i hi => range_grow (hv i hi) hb) hcap c hcn
    rwa [p0, p1] at this
  obtain ⟨n, hnn⟩ : ∃ n, n = ls.length := ⟨_, rfl⟩
  rw [← hnn] at HSE HV hcn hcap hn ⊢
  have i1 : (c : Int) ≤ (n : Int) := by omega
  have i2 : (0 : Int) ≤ (c : Int) := by omega
  have i3 : (n : Int) ≤ (cap : Int) := by omega
  have i4 : (c : Int) ≤ (cap : Int) := by omega
  clear hr hs hv hc p0 p1 eg hnn
  go_enter Tryz.func97, Tryz.ntmps97
  go_wp2_with (go_at_call 120; refine (HSE.out _ _ _ (grow_trans (grow_alloc _ _) (grow_alloc _ _)) (by simp) (by simp)).mono ?_; rintro e x1 ⟨rfl, a1⟩)
  have hx : Below w.heap.size w x1 := grow_trans (grow_trans (grow_alloc _ _) (grow_alloc _ _)) a1.below
  have HS : Hid (∀ w', Below x1.heap.size x1 w' → w'.cell? ⟨w.heap.size, 0, none⟩ = some (.slice (some ⟨g, off, none⟩) n cap)) := by
    intro w' hw'
    have q0 : ((w.alloc (.cells #[.slice (some ⟨g, off, none⟩) n cap] 80)).alloc (.cells #[.int .i64 d] 3)).cell? ⟨w.heap.size, 0, none⟩ = some (.slice (some ⟨g, off, none⟩) n cap) := by simp
    have q1 := (a1.below.cell (block_lt_of_cell q0)).trans q0
    exact (hw'.cell (block_lt_of_cell q1)).trans q1
  have d0 : Below x1.heap.size x1 x1.drew := (Below.refl _ _).drew
  refine wp_region_held_drew (S := fun w' => w'.cell? ⟨w.heap.size, 0, none⟩ = some (.slice (some ⟨g, off, none⟩) n cap)) (by kernel_rfl) (HS.out _ d0) (fun hHeld => ?_)
  refine wpAnyH_take (i := 0) (v := .slice (some ⟨g, off, none⟩) n cap) rfl (by kernel_rfl) (by kernel_rfl) (by kernel_rfl) (fun _ _ _ h => h) (Or.inl ⟨by rfl, fun w hS => by (have s1 := hS; go_simp)⟩) hHeld ?_
  simp only [Act.put, List.getElem_toArray, List.getElem_cons_zero, List.setIfInBounds_toArray, List.set_cons_zero, List.set_cons_succ]
  refine wpAnyH_take (i := 1) (v := .int .i64 c) rfl (by kernel_rfl) (by kernel_rfl) (by kernel_rfl) (fun _ _ _ h => h) (Or.inl ⟨by rfl, fun w hS => by go_simp⟩) hHeld ?_
  simp only [Act.put, List.getElem_toArray, List.getElem_cons_zero, List.getElem_cons_succ, List.setIfInBounds_toArray, List.set_cons_zero, List.set_cons_succ]
  refine wpAnyH_take (i := 2) (v := .slice (some ⟨g, off, none⟩) c cap) rfl (by kernel_rfl) (by kernel_rfl) (by kernel_rfl) (fun _ _ _ h => h) (Or.inl ⟨by rfl, fun w hS => by go_simp⟩) hHeld ?_
  simp only [Act.put, List.getElem_toArray, List.getElem_cons_zero, List.getElem_cons_succ, List.setIfInBounds_toArray, List.set_cons_zero, List.set_cons_succ]
  refine wpAnyH_take (i := 3) (v := .slice (some ⟨g, off, none⟩) n cap) rfl (by kernel_rfl) (by kernel_rfl) (by kernel_rfl) (fun _ _ _ h => h) (Or.inl ⟨by rfl, fun w hS => by (have s1 := hS; go_simp)⟩) hHeld ?_
  simp only [Act.put, List.getElem_toArray, List.getElem_cons_zero, List.getElem_cons_succ, List.setIfInBounds_toArray, List.set_cons_zero, List.set_cons_succ]
  refine wpAnyH_take (i := 4) (v := .int .i64 c) rfl (by kernel_rfl) (by kernel_rfl) (by kernel_rfl) (fun _ _ _ h => h) (Or.inl ⟨by rfl, fun w hS => by go_simp⟩) hHeld ?_
  simp only [Act.put, List.getElem_toArray, List.getElem_cons_zero, List.getElem_cons_succ, List.setIfInBounds_toArray, List.set_cons_zero, List.set_cons_succ]
  refine wpAnyH_take (i := 5) (v := .slice (if cap = c then some ⟨g, off, none⟩ else some ⟨g, off + c * 129, none⟩) (n - c) (cap - c)) rfl (by kernel_rfl) (by kernel_rfl) (by kernel_rfl) (fun _ _ _ h => h) (Or.inl ⟨by rfl, fun w hS => by (go_simp; skip)⟩) hHeld ?_
  simp only [Act.put, List.getElem_toArray, List.getElem_cons_zero, List.getElem_cons_succ, List.setIfInBounds_toArray, List.set_cons_zero, List.set_cons_succ]
  refine wpAnyH_take (i := 6) (v := .slice (some ⟨g, off, none⟩) c cap) rfl (by kernel_rfl) (by kernel_rfl) (by kernel_rfl) (fun _ _ _ h => h) (Or.inl ⟨by rfl, fun w hS => by go_simp⟩) hHeld ?_
  simp only [Act.put, List.getElem_toArray, List.getElem_cons_zero, List.getElem_cons_succ, List.setIfInBounds_toArray, List.set_cons_zero, List.set_cons_succ]
  refine wpAnyH_take (i := 7) (v := .slice (if cap = c then some ⟨g, off, none⟩ else some ⟨g, off + c * 129, none⟩) (n - c) (cap - c)) rfl (by kernel_rfl) (by kernel_rfl) (by kernel_rfl) (fun _ _ _ h => h) (Or.inl ⟨by rfl, fun w hS => by go_simp⟩) hHeld ?_
  simp only [Act.put, List.getElem_toArray, List.getElem_cons_zero, List.getElem_cons_succ, List.setIfInBounds_toArray, List.set_cons_zero, List.set_cons_succ]
  refine wpAnyH_done (by kernel_rfl) ?_ _
  generalize (if cap = c then (some ⟨g, off, none⟩ : Option Addr) else some ⟨g, off + c * 129, none⟩) = A1 at HV ⊢
  go_wp2_with fail
  go_ret2
  exact ⟨_, _, rfl, (HV.out _ (grow_trans hx d0)).1, (HV.out _ (grow_trans hx d0)).2, grow_trans hx d0⟩

end Go.Proofs.YtjikgagaalbaeaaGreatDoor
