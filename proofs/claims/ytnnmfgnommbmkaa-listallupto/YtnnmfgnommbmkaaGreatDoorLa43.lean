/- slices.SortFunc at nodes, and sort.Search: the contracts that the library bears, laid at this program (written by wip/lays.sh for one seat). -/
import Derived.Test.YtnnmfgnommbmkaaGreatDoorLa01
import Derived.Shelf.SlSortCmp.WholeK
import Derived.Shelf.SlSorted.Search
import Derived.Test.YtnnmfgnommbmkaaGreatDoorProg
import Derived.Test.YtnnmfgnommbmkaaGreatDoorLa08
import Derived.Test.YtnnmfgnommbmkaaGreatDoorLa42
import Derived.Test.YtnnmfgnommbmkaaGreatDoorLa27
import Derived.Lib.SlicesSearch
import Derived.Test.YtnnmfgnommbmkaaGreatDoorLa26
namespace Go.Proofs.YtnnmfgnommbmkaaGreatDoor
set_option maxRecDepth 20000
open Go.Shelf
def sortNode_ren : Go.Shelf.Ren := ⟨fun | 6 => 54 | 15 => 84 | 14 => 83 | 28 => 112 | 29 => 113 | 20 => 104 | 21 => 105 | 22 => 106 | 23 => 107 | 24 => 108 | 25 => 109 | 26 => 110 | 27 => 111 | 46 => 126 | 47 => 127 | 48 => 128 | 49 => 129 | 50 => 130 | 57 => 135 | n => n, fun | 22 => 72 | 24 => 102 | 25 => 104 | 3 => 3 | 39 => 139 | 0 => 0 | 53 => 161 | 55 => 163 | 4 => 4 | 46 => 154 | 45 => 153 | 50 => 158 | 5 => 5 | 9 => 9 | 66 => 177 | 70 => 181 | 76 => 187 | 77 => 61 | n => n, fun | n => n⟩
theorem sortNode : Go.Proofs.SlLaysF0.n6 Tryz.prog sortNode_ren := {
  mixed := by kernel_rfl
  f6 := ⟨Tryz.f54.name, by decide, Tryz.func54.trans (congrArg some (by kernel_rfl))⟩
  f14 := ⟨Tryz.f83.name, by decide, Tryz.func83.trans (congrArg some (by kernel_rfl))⟩
  f15 := Tryz.func84.trans (congrArg some (by kernel_rfl))
  f20 := ⟨Tryz.f104.name, by decide, Tryz.func104.trans (congrArg some (by kernel_rfl))⟩
  f21 := ⟨Tryz.f105.name, by decide, Tryz.func105.trans (congrArg some (by kernel_rfl))⟩
  f22 := ⟨Tryz.f106.name, by decide, Tryz.func106.trans (congrArg some (by kernel_rfl))⟩
  f23 := ⟨Tryz.f107.name, by decide, Tryz.func107.trans (congrArg some (by kernel_rfl))⟩
  f24 := ⟨Tryz.f108.name, by decide, Tryz.func108.trans (congrArg some (by kernel_rfl))⟩
  f25 := ⟨Tryz.f109.name, by decide, Tryz.func109.trans (congrArg some (by kernel_rfl))⟩
  f26 := ⟨Tryz.f110.name, by decide, Tryz.func110.trans (congrArg some (by kernel_rfl))⟩
  f27 := ⟨Tryz.f111.name, by decide, Tryz.func111.trans (congrArg some (by kernel_rfl))⟩
  f28 := Tryz.func112.trans (congrArg some (by kernel_rfl))
  f29 := Tryz.func113.trans (congrArg some (by kernel_rfl))
  f46 := ⟨Tryz.f126.name, by decide, Tryz.func126.trans (congrArg some (by kernel_rfl))⟩
  f47 := Tryz.func127.trans (congrArg some (by kernel_rfl))
  f48 := Tryz.func128.trans (congrArg some (by kernel_rfl))
  f49 := ⟨Tryz.f129.name, by decide, Tryz.func129.trans (congrArg some (by kernel_rfl))⟩
  f50 := ⟨Tryz.f130.name, by decide, Tryz.func130.trans (congrArg some (by kernel_rfl))⟩
  f57 := ⟨Tryz.f135.name, by decide, Tryz.func135.trans (congrArg some (by kernel_rfl))⟩
  t0 := Tryz.underlying0
  a0 := Tryz.isAgg0
  z0 := Tryz.sizeOf0
  v0 := Tryz.zeroValue0
  t3 := Tryz.underlying3
  a3 := Tryz.isAgg3
  z3 := Tryz.sizeOf3
  v3 := Tryz.zeroValue3
  t4 := Tryz.underlying4
  a4 := Tryz.isAgg4
  z4 := Tryz.sizeOf4
  v4 := Tryz.zeroValue4
  t5 := Tryz.underlying5
  a5 := Tryz.isAgg5
  z5 := Tryz.sizeOf5
  v5 := Tryz.zeroValue5
  t9 := Tryz.underlying9
  a9 := Tryz.isAgg9
  z9 := Tryz.sizeOf9
  v9 := Tryz.zeroValue9
  t22 := Tryz.underlying72
  a22 := Tryz.isAgg72
  z22 := Tryz.sizeOf72
  v22 := Tryz.zeroValue72
  t25 := Tryz.underlying104
  a25 := Tryz.isAgg104
  z25 := Tryz.sizeOf104
  v25 := Tryz.zeroValue104
  t39 := Tryz.underlying139
  a39 := Tryz.isAgg139
  z39 := Tryz.sizeOf139
  v39 := Tryz.zeroValue139
  t45 := Tryz.underlying153
  a45 := Tryz.isAgg153
  z45 := Tryz.sizeOf153
  v45 := Tryz.zeroValue153
  t46 := Tryz.underlying154
  a46 := Tryz.isAgg154
  z46 := Tryz.sizeOf154
  v46 := Tryz.zeroValue154
  t50 := Tryz.underlying158
  a50 := Tryz.isAgg158
  z50 := Tryz.sizeOf158
  v50 := Tryz.zeroValue158
  t53 := Tryz.underlying161
  a53 := Tryz.isAgg161
  z53 := Tryz.sizeOf161
  v53 := Tryz.zeroValue161
  t55 := Tryz.underlying163
  a55 := Tryz.isAgg163
  z55 := Tryz.sizeOf163
  v55 := Tryz.zeroValue163
  t66 := Tryz.underlying177
  a66 := Tryz.isAgg177
  z66 := Tryz.sizeOf177
  v66 := Tryz.zeroValue177
  t70 := Tryz.underlying181
  a70 := Tryz.isAgg181
  z70 := Tryz.sizeOf181
  v70 := Tryz.zeroValue181
  t76 := Tryz.underlying187
  a76 := Tryz.isAgg187
  z76 := Tryz.sizeOf187
  v76 := Tryz.zeroValue187
  t77 := Tryz.underlying61
  a77 := Tryz.isAgg61
  z77 := Tryz.sizeOf61
  v77 := Tryz.zeroValue61 }
def searchL_ren : Go.Shelf.Ren := ⟨fun | 16 => 87 | n => n, fun | 3 => 3 | 35 => 93 | 4 => 4 | 38 => 139 | n => n, fun | n => n⟩
theorem searchL : Go.Proofs.SlLaysO.n16 Tryz.prog searchL_ren := {
  mixed := by kernel_rfl
  f16 := Tryz.func87.trans (congrArg some (by kernel_rfl))
  t3 := Tryz.underlying3
  a3 := Tryz.isAgg3
  z3 := Tryz.sizeOf3
  v3 := Tryz.zeroValue3
  t4 := Tryz.underlying4
  a4 := Tryz.isAgg4
  z4 := Tryz.sizeOf4
  v4 := Tryz.zeroValue4
  t35 := Tryz.underlying93
  a35 := Tryz.isAgg93
  z35 := Tryz.sizeOf93
  v35 := Tryz.zeroValue93
  t38 := Tryz.underlying139
  a38 := Tryz.isAgg139
  z38 := Tryz.sizeOf139
  v38 := Tryz.zeroValue139 }

end Go.Proofs.YtnnmfgnommbmkaaGreatDoor

namespace Go.Proofs.YtnnmfgnommbmkaaGreatDoor
set_option maxRecDepth 20000
open Go.RowKit

def LvAt (w : World) (v : Value) (ls : List Lf) : Prop :=
  ∃ a cap, v = .slice a ls.length cap ∧ ls.length ≤ cap ∧ (0 < ls.length → ∃ g off, a = some ⟨g, off, none⟩ ∧ ∀ i, i < ls.length → w.rangeAt g (off + i * 129) (encLf ls[i]!))

theorem range_grow {w w' : World} {g o : Nat} {cs : List Value} (h : w.rangeAt g o cs) (hb : Below w.heap.size w w') : w'.rangeAt g o cs := fun j v hv => (hb.cell (p := ⟨g, o + j, none⟩) (block_lt_of_cell (h j v hv))).trans (h j v hv)

theorem LvAt.grow {w w' : World} {v : Value} {ls : List Lf} (h : LvAt w v ls) (hb : Below w.heap.size w w') : LvAt w' v ls := by
  obtain ⟨a, cap, e, h1, h2⟩ := h
  refine ⟨a, cap, e, h1, fun hp => ?_⟩
  obtain ⟨g, off, ea, hr⟩ := h2 hp
  exact ⟨g, off, ea, fun i hi => range_grow (hr i hi) hb⟩
theorem lf_key {w : World} {g o : Nat} {x : Lf} (h : w.rangeAt g o (encLf x)) : w.rangeAt g (o + 1) (B x.key).toList := by
  intro j v hv
  rw [B_toList, List.getElem?_map, Option.map_eq_some_iff] at hv
  obtain ⟨z, hz, rfl⟩ := hv
  rw [Nat.add_assoc]
  refine h (1 + j) _ ?_
  unfold encLf Lf.ints
  rw [List.getElem?_map, x.nd.segA j z hz]
  rfl
theorem lf_val {w : World} {g o : Nat} {x : Lf} (h : w.rangeAt g o (encLf x)) : w.rangeAt g (o + 33) (B x.val).toList := by
  intro j v hv
  rw [B_toList, List.getElem?_map, Option.map_eq_some_iff] at hv
  obtain ⟨z, hz, rfl⟩ := hv
  rw [Nat.add_assoc]
  refine h (33 + j) _ ?_
  unfold encLf Lf.ints
  rw [List.getElem?_map, x.nd.segB j z hz]
  rfl

set_option maxHeartbeats 2000000 in
theorem closure_bit (g off cap n i d g1 g2 : Nat) (x : Lf) (W : World) (hi : i < n) (hd : d < 256) (h1 : W.cell? ⟨g1, 0, none⟩ = some (.slice (some ⟨g, off, none⟩) n cap)) (h2 : W.cell? ⟨g2, 0, none⟩ = some (.int .i64 d)) (hr : W.rangeAt g (off + i * 129) (encLf x)) :
    Calls Tryz.prog 88 #[.int .i64 i, .pointer (some ⟨g1, 0, none⟩), .pointer (some ⟨g2, 0, none⟩)] W fun e w' => e = .returned (.bool (kb x.key d == 1)) ∧ Grew W w' := by
  have HB : Hid (∀ w', Calls Tryz.prog 26 #[.agg (B x.key), .int .i64 d] w' fun e w'' => e = .returned (.int .i64 (kb x.key d)) ∧ Grew w' w'') := fun w' => bit_grew x.key d w' x.hk hd
  have HL : Hid ((Tryz.prog.info? 32).map (·.size) = some (B x.key).toList.length) := by show _ = _; rw [B_toList, List.length_map, x.hk.1]; exact sz_path
  have HS : Hid (∀ w', Below W.heap.size W w' → w'.cell? ⟨g1, 0, none⟩ = some (.slice (some ⟨g, off, none⟩) n cap) ∧ w'.cell? ⟨g2, 0, none⟩ = some (.int .i64 d) ∧ w'.rangeAt g (off + i * 129 + 1) (B x.key).toList) := fun w' hw' => ⟨(hw'.cell (block_lt_of_cell h1)).trans h1, (hw'.cell (block_lt_of_cell h2)).trans h2, range_grow (lf_key hr) hw'⟩
  obtain ⟨K, hK⟩ : ∃ K, K = x.key := ⟨_, rfl⟩
  rw [← hK] at HB HL HS ⊢
  obtain ⟨z, hz⟩ : ∃ z, z = kb K d := ⟨_, rfl⟩
  rw [← hz] at HB ⊢
  have hi1 : (i : Int) < (n : Int) := by omega
  have hi0 : (0 : Int) ≤ (i : Int) := by omega
  clear hr h1 h2 hK hz hi
  go_enter Tryz.func88, Tryz.ntmps88
  go_wp2_with fail
  have d0 : Below W.heap.size W W.drew := (Below.refl _ _).drew
  refine wp_region_held_drew (S := fun w' => w'.cell? ⟨g1, 0, none⟩ = some (.slice (some ⟨g, off, none⟩) n cap) ∧ w'.cell? ⟨g2, 0, none⟩ = some (.int .i64 d) ∧ w'.rangeAt g (off + i * 129 + 1) (B K).toList) (by kernel_rfl) (HS.out _ d0) (fun hHeld => ?_)
  refine tkg 0 (.slice (some ⟨g, off, none⟩) n cap) rfl (Or.inl ⟨by rfl, fun w hS => by (have s1 := hS.1; go_simp)⟩) hHeld ?_
  simp only [Act.put, zq1, zq2, zq4, zq5, zq6]
  refine tkp 1 (.int .i64 i) hHeld ?_
  simp only [Act.put, zq1, zq2, zq3, zq4, zq5, zq6]
  refine tkp 2 (.pointer (some ⟨g, off + i * 129, none⟩)) hHeld ?_
  simp only [Act.put, zq1, zq2, zq3, zq4, zq5, zq6]
  refine tkp 3 (.pointer (some ⟨g, off + i * 129 + 1, none⟩)) hHeld ?_
  simp only [Act.put, zq1, zq2, zq3, zq4, zq5, zq6]
  refine tkg 4 (.agg (B K)) rfl (yieldsIf_load_mid rfl 32 (.tmp 8) rfl g (off + i * 129 + 1) rfl (B K).toList _ (fun w hS => hS.2.2) Tryz.underlying32 rfl HL.out) hHeld ?_
  simp only [Act.put, zq1, zq2, zq3, zq4, zq5, zq6]
  refine tkg 5 (.int .i64 d) rfl (Or.inl ⟨by rfl, fun w hS => by (have s1 := hS.2.1; go_simp)⟩) hHeld ?_
  simp only [Act.put, zq1, zq2, zq3, zq4, zq5, zq6]
  refine wpAnyH_ready (rs := [6]) (by kernel_rfl) (by simp) ?_
  refine AllReadyH.cons rfl (fun KQ hK => ?_) AllReadyH.nil
  go_simp
  refine (HB.out _).mono ?_
  rintro e x1 ⟨rfl, a1⟩
  have d1 := grow_trans d0 a1.below
  refine hK.out _ _ (HS.out _ d1) (fun hHeld => ?_)
  clear hK KQ
  refine tkp 7 (.bool (z == 1)) hHeld ?_
  simp only [Act.put, zq1, zq2, zq3, zq4, zq5, zq6]
  refine tkp 8 (.bool (z == 1)) hHeld ?_
  simp only [Act.put, zq1, zq2, zq3, zq4, zq5, zq6]
  refine wpAnyH_done (by kernel_rfl) ?_ _
  go_wp2_with fail
  go_ret
  exact ⟨rfl, (Grew.drew W).trans a1⟩

theorem countP_rng (q : Lf → Bool) : ∀ l : List Lf, (List.range l.length).countP (fun i => q l[i]!) = l.countP q := by
  intro l
  have e : (List.range l.length).map (fun i => l[i]!) = l := by
    apply List.ext_getElem (by simp)
    intro i h1 h2
    simp [h2]
  have h := List.countP_map (p := q) (f := fun i => l[i]!) (l := List.range l.length)
  rw [e] at h
  exact h.symm

theorem LvAt.cut {w : World} {g off cap : Nat} {ls : List Lf} (h : ∀ i, i < ls.length → w.rangeAt g (off + i * 129) (encLf ls[i]!)) (hc : ls.length ≤ cap) (c : Nat) (hcn : c ≤ ls.length) :
    LvAt w (.slice (some ⟨g, off, none⟩) c cap) (ls.take c) ∧ LvAt w (.slice (if cap = c then some ⟨g, off, none⟩ else some ⟨g, off + c * 129, none⟩) (ls.length - c) (cap - c)) (ls.drop c) := by
  constructor
  · have hl : (ls.take c).length = c := by simp; omega
    refine ⟨_, _, by rw [hl], by omega, fun _ => ⟨g, off, rfl, fun i hi => ?_⟩⟩
    rw [hl] at hi
    have e : (ls.take c)[i]! = ls[i]! := by
      rw [getElem!_pos _ i (by omega), getElem!_pos _ i (by omega)]
      simp
    rw [e]
    exact h i (by omega)
  · have hl : (ls.drop c).length = ls.length - c := by simp
    refine ⟨_, _, by rw [hl], by omega, fun hp => ?_⟩
    rw [hl] at hp
    rw [if_neg (by omega)]
    refine ⟨g, off + c * 129, rfl, fun i hi => ?_⟩
    rw [hl] at hi
    have e : (ls.drop c)[i]! = ls[c + i]! := by
      rw [getElem!_pos _ i (by omega), getElem!_pos _ (c + i) (by omega)]
      simp
    rw [e, Nat.add_assoc, ← Nat.add_mul]
    exact h (c + i) (by omega)

set_option maxHeartbeats 4000000 in
theorem part_any (g off cap d : Nat) (ls : List Lf) (w : World) (hd : d < 256) (hn : ls.length ≤ 4096) (hcap : ls.length ≤ cap) (hr : Rise ls) (hs : Same ls d) (hv : ∀ i, i < ls.length → w.rangeAt g (off + i * 129) (encLf ls[i]!)) :
    Calls Tryz.prog 59 #[.slice (some ⟨g, off, none⟩) ls.length cap, .int .i64 d] w fun e w' => ∃ v0 v1, e = .returned (.tuple #[v0, v1]) ∧ LvAt w' v0 (sdL ls d 0) ∧ LvAt w' v1 (sdL ls d 1) ∧ Below w.heap.size w w' := by
  obtain ⟨c, hc⟩ : ∃ c, c = ls.countP fun x => !(kb x.key d == 1) := ⟨_, rfl⟩
  have hcn : c ≤ ls.length := by rw [hc]; exact List.countP_le_length
  obtain ⟨p0, p1⟩ := part_at ls d hd hr hs
  rw [← hc] at p0 p1
  have eg : ∀ args w, (callFunc 88 args).run Tryz.prog w = .ok (.enter 88 args) w := enters_of Tryz.func88 (by kernel_rfl) rfl
  have HSE : Hid (∀ w' g1 g2, Below w.heap.size w w' → w'.cell? ⟨g1, 0, none⟩ = some (.slice (some ⟨g, off, none⟩) ls.length cap) → w'.cell? ⟨g2, 0, none⟩ = some (.int .i64 d) →
      Calls Tryz.prog 87 #[.int .i64 ls.length, .func (.func 88) #[] #[.pointer (some ⟨g1, 0, none⟩), .pointer (some ⟨g2, 0, none⟩)]] w' fun e w'' => e = .returned (.int .i64 c) ∧ Grew w' w'') := by
    intro w' g1 g2 hb h1 h2
    have h := Any.sort_Search searchL 88 #[.pointer (some ⟨g1, 0, none⟩), .pointer (some ⟨g2, 0, none⟩)] ls.length (fun i => kb ls[i]!.key d == 1) w' eg (by omega) (fun m os i hi => by
      have q : Grew w' (Go.Sort.grow (w'.drewN m) os) := ⟨m, os, rfl⟩
      have := closure_bit g off cap ls.length i d g1 g2 ls[i]! _ hi hd ((q.below.cell (block_lt_of_cell h1)).trans h1) ((q.below.cell (block_lt_of_cell h2)).trans h2) (range_grow (hv i hi) (grow_trans hb q.below))
      exact this.mono fun e w'' ⟨e1, e2⟩ => ⟨e1, e2⟩) (part_mono ls d hd hr hs)
    rw [countP_rng (fun x => !(kb x.key d == 1)) ls, ← hc] at h
    exact h
  have HV : Hid (∀ w', Below w.heap.size w w' → LvAt w' (.slice (some ⟨g, off, none⟩) c cap) (sdL ls d 0) ∧ LvAt w' (.slice (if cap = c then some ⟨g, off, none⟩ else some ⟨g, off + c * 129, none⟩) (ls.length - c) (cap - c)) (sdL ls d 1)) := by
    intro w' hb
    have := LvAt.cut (fun i hi => range_grow (hv i hi) hb) hcap c hcn
    rwa [p0, p1] at this
  obtain ⟨n, hnn⟩ : ∃ n, n = ls.length := ⟨_, rfl⟩
  rw [← hnn] at HSE HV hcn hcap hn ⊢
  have i1 : (c : Int) ≤ (n : Int) := by omega
  have i2 : (0 : Int) ≤ (c : Int) := by omega
  have i3 : (n : Int) ≤ (cap : Int) := by omega
  have i4 : (c : Int) ≤ (cap : Int) := by omega
  clear hr hs hv hc p0 p1 eg hnn
  go_enter Tryz.func59, Tryz.ntmps59
  go_wp2_with (go_at_call 87; refine (HSE.out _ _ _ (grow_trans (grow_alloc _ _) (grow_alloc _ _)) (by simp) (by simp)).mono ?_; rintro e x1 ⟨rfl, a1⟩)
  have hx : Below w.heap.size w x1 := grow_trans (grow_trans (grow_alloc _ _) (grow_alloc _ _)) a1.below
  have HS : Hid (∀ w', Below x1.heap.size x1 w' → w'.cell? ⟨w.heap.size, 0, none⟩ = some (.slice (some ⟨g, off, none⟩) n cap)) := by
    intro w' hw'
    have q0 : ((w.alloc (.cells #[.slice (some ⟨g, off, none⟩) n cap] 72)).alloc (.cells #[.int .i64 d] 3)).cell? ⟨w.heap.size, 0, none⟩ = some (.slice (some ⟨g, off, none⟩) n cap) := by simp
    have q1 := (a1.below.cell (block_lt_of_cell q0)).trans q0
    exact (hw'.cell (block_lt_of_cell q1)).trans q1
  have d0 : Below x1.heap.size x1 x1.drew := (Below.refl _ _).drew
  refine wp_region_held_drew (S := fun w' => w'.cell? ⟨w.heap.size, 0, none⟩ = some (.slice (some ⟨g, off, none⟩) n cap)) (by kernel_rfl) (HS.out _ d0) (fun hHeld => ?_)
  refine tkg 0 (.slice (some ⟨g, off, none⟩) n cap) rfl (Or.inl ⟨by rfl, fun w hS => by (have s1 := hS; go_simp)⟩) hHeld ?_
  simp only [Act.put, zq1, zq2, zq4, zq5, zq6]
  refine tkp 1 (.int .i64 c) hHeld ?_
  simp only [Act.put, zq1, zq2, zq3, zq4, zq5, zq6]
  refine tkp 2 (.slice (some ⟨g, off, none⟩) c cap) hHeld ?_
  simp only [Act.put, zq1, zq2, zq3, zq4, zq5, zq6]
  refine tkg 3 (.slice (some ⟨g, off, none⟩) n cap) rfl (Or.inl ⟨by rfl, fun w hS => by (have s1 := hS; go_simp)⟩) hHeld ?_
  simp only [Act.put, zq1, zq2, zq3, zq4, zq5, zq6]
  refine tkp 4 (.int .i64 c) hHeld ?_
  simp only [Act.put, zq1, zq2, zq3, zq4, zq5, zq6]
  refine tkg 5 (.slice (if cap = c then some ⟨g, off, none⟩ else some ⟨g, off + c * 129, none⟩) (n - c) (cap - c)) rfl (Or.inl ⟨by rfl, fun w hS => by (go_simp; skip)⟩) hHeld ?_
  simp only [Act.put, zq1, zq2, zq3, zq4, zq5, zq6]
  refine tkp 6 (.slice (some ⟨g, off, none⟩) c cap) hHeld ?_
  simp only [Act.put, zq1, zq2, zq3, zq4, zq5, zq6]
  refine tkp 7 (.slice (if cap = c then some ⟨g, off, none⟩ else some ⟨g, off + c * 129, none⟩) (n - c) (cap - c)) hHeld ?_
  simp only [Act.put, zq1, zq2, zq3, zq4, zq5, zq6]
  refine wpAnyH_done (by kernel_rfl) ?_ _
  generalize (if cap = c then (some ⟨g, off, none⟩ : Option Addr) else some ⟨g, off + c * 129, none⟩) = A1 at HV ⊢
  go_wp2_with fail
  go_ret2
  exact ⟨_, _, rfl, (HV.out _ (grow_trans hx d0)).1, (HV.out _ (grow_trans hx d0)).2, grow_trans hx d0⟩

end Go.Proofs.YtnnmfgnommbmkaaGreatDoor

namespace Go.Proofs.YtnnmfgnommbmkaaGreatDoor
set_option maxRecDepth 20000
open Go.RowKit Go.Shelf
open Go.Sort (HoldsK putRowK size_flatK get_flatK)

theorem wpList_mkn {ops : Array Oper} {rest : List Oper} {o : Oper} {a : Act} {Q : Exit → Act → World → Prop} (w : World) (hgd : o.guard = none) (x y : Operand)
    (hop : o.op = Op.makeSlice 72 x y) (n : Nat) (hx : a.eval x = .int .i64 n) (hy : a.eval y = .int .i64 n) (hn : n ≤ 4096)
    (h : ∀ w' g cs, w.heap.size ≤ g → Blk w' g 102 cs → cs.size = n * 129 → Below w.heap.size w w' → wpList Tryz.prog ops Q rest (a.put o.dst (.slice (some ⟨g, 0, none⟩) n n)) w') :
    wpList Tryz.prog ops Q (o :: rest) a w := by
  refine wpList_plain hgd fun K hK => ?_
  obtain ⟨i, z, hi, hz, hs, hby⟩ : ∃ i z, Tryz.prog.info? 102 = some i ∧ i.zero = some z ∧ i.size = 129 ∧ i.bytes = 129 := ⟨_, _, rfl, rfl, rfl, rfl⟩
  have hr := run_make (P := Tryz.prog) w 72 102 i z Tryz.underlying72 hi hz .i64 .i64 n n (by omega) (by omega) (by rw [hby]; omega) (by omega)
  rw [hs] at hr
  simp only [Int.toNat_natCast] at hr
  unfold Oper.wp
  simp [execOp, hop, hx, hy, hr, Result.andThen]
  exact hK _ _ (h _ _ _ (Nat.le_refl _) (heap_alloc_new w _) (size_madeCells _ _) (grow_alloc w _))

def Rows (w : World) (g m : Nat) (ls : List Lf) : Prop := (∀ i, i < ls.length → w.rangeAt g (i * 129) (encLf ls[i]!)) ∧ ∀ i, i < m → w.there g (i * 129) 129
theorem Rows.grow {w w' : World} {g m : Nat} {ls : List Lf} (h : Rows w g m ls) (hb : Below w.heap.size w w') : Rows w' g m ls := ⟨fun i hi => range_grow (h.1 i hi) hb, fun i hi => there_grow (h.2 i hi) hb⟩
theorem Rows.put {w : World} {g m : Nat} {ls : List Lf} (h : Rows w g m ls) (x : Lf) (hm : ls.length < m) : Rows (w.setCells g (ls.length * 129) (encLf x)) g m (ls ++ [x]) := by
  constructor
  · intro i hi
    rw [List.length_append, List.length_singleton] at hi
    by_cases e : i = ls.length
    · subst e
      have : (ls ++ [x])[ls.length]! = x := by rw [getElem!_pos _ _ (by simp)]; simp
      rw [this]
      exact World.rangeAt_setCells_same _ _ _ _ (by rw [encLf_length]; exact h.2 _ hm)
    · have hlt : i < ls.length := by omega
      have e2 : (ls ++ [x])[i]! = ls[i]! := by
        rw [getElem!_pos _ i (by simp; omega), getElem!_pos _ i hlt]
        exact List.getElem_append_left hlt
      rw [e2]
      refine World.rangeAt_setCells_apart (h.1 i hlt) _ _ _ (.inr (.inl ?_))
      rw [encLf_length]
      omega
  · intro i hi
    exact World.there_setCells (h.2 i hi) _ _ _

theorem Rows.holds {w : World} {g : Nat} {ls : List Lf} (h : Rows w g ls.length ls) : HoldsK encLf 129 w g 0 ls.toArray := by
  intro j hj
  rw [size_flatK, List.size_toArray] at hj
  have h1 : j / 129 < ls.length := by omega
  have h2 : j % 129 < 129 := by omega
  have hc := h.1 (j / 129) h1 (j % 129) (encLf ls[j / 129]!)[j % 129]! (by
    have hlt : j % 129 < (encLf ls[j / 129]!).length := by rw [encLf_length]; exact h2
    rw [getElem!_pos (encLf ls[j / 129]!) _ hlt, List.getElem?_eq_getElem hlt])
  have hf := (h.2 (j / 129) h1 (j % 129) h2).2
  have e : j / 129 * 129 + j % 129 = j := by omega
  rw [e] at hc hf
  rw [get_flatK _ _ _ _ (by rw [List.size_toArray]; exact hj), Nat.zero_add, show ls.toArray[j / 129]! = ls[j / 129]! by simp]
  exact ⟨hc, hf⟩

theorem rows_of_holds {w : World} {g n cap : Nat} {d : Array Lf} (h : HoldsK encLf 129 w g 0 d) (hn : d.size = n) (hc : n ≤ cap) : LvAt w (.slice (some ⟨g, 0, none⟩) n cap) d.toList := by
  subst hn
  refine ⟨_, _, by rw [Array.length_toList], by rw [Array.length_toList]; exact hc, fun _ => ⟨g, 0, rfl, fun i hi j v hv => ?_⟩⟩
  rw [Array.length_toList] at hi
  have hj : j < 129 := by have := (List.getElem?_eq_some_iff.1 hv).1; rwa [encLf_length] at this
  have := (h.cell hi hj).1
  have e : d.toList[i]! = d[i]! := by
    rw [getElem!_pos d.toList i (by simpa using hi), getElem!_pos d i hi]
    simp
  rw [e] at hv
  rw [this]
  rw [getElem!_pos _ _ (by rw [encLf_length]; exact hj)]
  rw [List.getElem?_eq_getElem (by rw [encLf_length]; exact hj)] at hv
  exact hv

theorem cmpLays_lf (blk off size : Nat) (w : World) : CmpLays Tryz.prog 55 #[] encLf 129 cfLf blk off size w := fun m os dk _ x y => by
  have := closure_cmp 1 1 x.key x.val z32 z32 y.key y.val z32 z32 (sortWorldK encLf 129 w blk off m dk os) x.nd y.nd
  exact this.mono fun e w' ⟨h1, h2⟩ => ⟨h1, h2⟩

theorem sortWorld_below {w0 w : World} {g n : Nat} {d : Array Lf} {os : Array Obj} (hb : Below w0.heap.size w0 w) (hg : w0.heap.size ≤ g) : Below w0.heap.size w0 (sortWorldK encLf 129 w g 0 n d os) := by
  refine hb.trans ⟨rfl, rfl, rfl, size_sortWorldK_c encLf 129 w g 0 n d os, fun k hk => ?_⟩
  have hk' : k < w.heap.size := Nat.lt_of_lt_of_le hk hb.size
  unfold sortWorldK putRowK Go.Sort.putRow Go.Sort.mapBlock
  rw [Go.Sort.heap_grow_old _ _ (by simp [Go.Sort.ahead]; exact hk')]
  simp [Go.Sort.ahead, Array.getElem?_modify]
  intro e
  omega

theorem sort_any (g : Nat) (ls : List Lf) (w0 w : World) (h : Rows w g ls.length ls) (hl : g < w.heap.size) (hb : Below w0.heap.size w0 w) (hg : w0.heap.size ≤ g) (hn : ls.length ≤ 4096) (hne : ls.Pairwise fun a b => a.key ≠ b.key) :
    Calls Tryz.prog 54 #[.slice (some ⟨g, 0, none⟩) ls.length ls.length, .func (.func 55) #[] #[]] w fun e w' => e = .returned (.tuple #[]) ∧ (∃ l', LvAt w' (.slice (some ⟨g, 0, none⟩) ls.length ls.length) l' ∧ l'.Perm ls ∧ Rise l') ∧ Below w0.heap.size w0 w' := by
  have eg : ∀ args w, (callFunc 55 args).run Tryz.prog w = .ok (.enter 55 args) w := enters_of Tryz.func55 (by kernel_rfl) rfl
  have hcon := AnyQ.slices_SortFunc sortNode 129 Tryz.isAgg102 Tryz.sizeOf102 encLf encLf_length encLf_one cfLf swoLf 55 #[] g 0 ls.length ls.toArray w eg (cmpLays_lf g 0 _ w) h.holds hl (by rw [List.size_toArray]; omega)
  rw [List.size_toArray] at hcon
  refine Calls.mono hcon ?_
  rintro e w' ⟨rfl, d', n, os, hp, hs, rfl⟩
  refine ⟨rfl, ⟨d'.toList, ?_, ?_, ?_⟩, sortWorld_below hb hg⟩
  · exact rows_of_holds (holdsK_sortWorldK_c encLf 129 w g 0 ls.toArray d' n os h.holds hl hp.1) (by rw [hp.1]; simp) (Nat.le_refl _)
  · have h3 := hp.2.2
    have e1 : d'.extract 0 ls.length = d' := by
      have : d'.size = ls.length := by rw [hp.1]; simp
      rw [← this]
      simp
    have e2 : ls.toArray.extract 0 ls.length = ls.toArray := by simp
    rw [e1, e2] at h3
    simpa using h3
  · have h3 := hp.2.2
    have hsz : d'.size = ls.length := by rw [hp.1]; simp
    have e1 : d'.extract 0 ls.length = d' := by
      rw [← hsz]
      simp
    have e2 : ls.toArray.extract 0 ls.length = ls.toArray := by simp
    rw [e1, e2] at h3
    have hne' : d'.toList.Pairwise fun a b => a.key ≠ b.key := h3.symm.pairwise (by simpa using hne) (fun h => Ne.symm h)
    refine List.pairwise_iff_getElem.2 fun i j hi hj hij => ?_
    have hi' : i < d'.size := by simpa using hi
    have hj' : j < d'.size := by simpa using hj
    have h4 := hs i j (Nat.zero_le _) hij (by omega)
    rw [getElem!_pos d' i hi', getElem!_pos d' j hj'] at h4
    have h5 : ¬ Ahead d'[j].key d'[i].key := by
      intro ha
      have := (cfLf_lt d'[j] d'[i]).2 ha
      have h6 : decide (cfLf d'[j] d'[i] < 0) = false := h4
      rw [h6] at this
      cases this
    rcases ahead_total d'[j].hk d'[i].hk h5 with e | e
    · exact absurd e.symm (List.pairwise_iff_getElem.1 hne' i j hi hj hij)
    · exact e

end Go.Proofs.YtnnmfgnommbmkaaGreatDoor
