/- versions' New, Add, Drop, of versions that New answered, as contracts. -/
import Derived.Test.YtlhnodinhmdjnaaGreatDoorVt32
import Derived.Test.YtlhnodinhmdjnaaGreatDoorVt29
import Derived.Test.YtlhnodinhmdjnaaGreatDoorVt26
import Derived.Test.YtlhnodinhmdjnaaGreatDoorRows
import Derived.ProofKit
import Derived.OpenShut
import Derived.ShutString
import Derived.ChangeOld
import Derived.Below
import Derived.SizedLaws
namespace Go.Proofs.YtlhnodinhmdjnaaGreatDoor
set_option maxRecDepth 20000
open Go.RowKit

theorem built_ve (g b : Nat) : Tryz.prog.built 70 [(1, .pointer (some ⟨g, 0, none⟩)), (2, .map (some b))] = some #[.pointer none, .pointer (some ⟨g, 0, none⟩), .map (some b)] := by rfl

section
variable {w1 w : World} {X : List Nat} {gv b g gs R : Nat} {ms : Nms} {cs : List (Nat × Ce)} {fr : List Nat}

set_option maxHeartbeats 1000000 in
theorem vnew_ok (h : Hz w1 w X g gs R cs fr) : Calls Tryz.prog 22 #[.pointer (some ⟨g, 0, none⟩)] w fun e w' => ∃ gv b, e = .returned (.tuple #[.pointer (some ⟨gv, 0, none⟩), .int .i64 0]) ∧ Hv w1 w' (gv :: b :: X) gv b g gs R [] cs fr ∧ Below w.heap.size w w' := by
  have HR := hidden (root_any h.vw 0)
  have hz : vRt true (cot cs 0) (cat cs 0) 0 = 0 := rfl
  rw [hz] at HR
  have HH := hidden h
  clear h hz
  go_enter Tryz.func22, Tryz.ntmps22
  have hmm := @run_makeMap Tryz.prog
  go_wp2_with (first
    | (go_at_call 40; refine HR.out.mono ?_; rintro e w2 ⟨rfl, b2⟩)
    | ((with_reducible refine at_bxd 14 ?_); refine wpList_bx _ rfl _ _ rfl _ rfl ?_; intro w3 g3 hg3 hl3 B3 b3; have HB3 := hidden B3; have HG3 := hidden hg3; have HL3 := hidden hl3; have HQ3 := hidden b3; have c0 : w3.cell? ⟨g3, 0, none⟩ = some (.pointer none) := (by rw [B3.cell]; rfl); have z0 : w3.frozen? ⟨g3, 0, none⟩ = false := B3.frozen 0; clear B3 hg3 hl3 b3))
  go_ret2
  have z1 := HH.out.grow b2
  have z2 := z1.add (x := w2.heap.size) (grow_alloc w2 (.map #[] 0)) (Nat.le_refl _) (by simp)
  have z3 := z2.add HQ3.out HG3.out HL3.out
  have m6 : Mod [g3] w3 (w3.setCell ⟨g3, 0, none⟩ (.pointer (some ⟨g3, 0, none⟩))) := Mod.setCell _ _ _ _ (by simp)
  obtain ⟨z4, k4⟩ := z3.turn (x := g3) (w' := w3.setCell ⟨g3, 0, none⟩ (.pointer (some ⟨g3, 0, none⟩))) (by simp) (grownBy_setCell0_a w3 g3 _)
  have hv := (VM.new w2).grow HQ3.out
  have hn := hv.notCells HB3.out
  have hlow : Below w.heap.size w w3 := grow_trans (grow_trans b2 (grow_alloc _ _)) HQ3.out
  have hg : w.heap.size ≤ g3 := by
    have := HG3.out
    have := b2.size
    simp at *
    omega
  exact ⟨g3, w2.heap.size, rfl, ⟨z4, by simp, by simp, HB3.out.set 0 _, vm_at hv (k4 _ (by simp) hn)⟩, hlow.trans (m6.below (fun x hx => by rw [List.mem_singleton.1 hx]; exact hg) hlow.size)⟩


set_option maxHeartbeats 1000000 in
theorem vadd_name (h : Hv w1 w X gv b g gs R ms cs fr) {s : ByteArray} (hs : s.size ≤ maxLen) (hn : nmOk s = false) (q : Int) : Calls Tryz.prog 27 #[.pointer (some ⟨gv, 0, none⟩), .string s, .int .i64 q] w fun e w' => e = .returned (.int .i64 5) ∧ Below w.heap.size w w' := by
  have HM : Hid (∀ w', Below w.heap.size w w' → Calls Tryz.prog 64 #[.pointer (some ⟨gv, 0, none⟩)] w' fun e w'' => e = .returned (.bool true) ∧ w'' = w') := fun w' hb => vmade_ok gv w' (h.grow hb).c0
  have HS := hidden (vstore_ok h)
  have HR := hidden (root_any h.hz.vw q)
  have HN : Hid (∀ w' : World, Calls Tryz.prog 28 #[.string s] w' fun e w'' => e = .returned (.bool (nmOk s)) ∧ w'' = w') := fun w' => name_any s w' hs
  obtain ⟨z, hz⟩ : ∃ z, z = vRt true (cot cs q) (cat cs q) q := ⟨_, rfl⟩
  rw [← hz] at HR
  clear hz
  rw [hn] at HN
  clear h hn
  go_enter Tryz.func27, Tryz.ntmps27
  go_wp2_with (first
    | (go_at_call 56; refine HS.out.mono ?_; rintro e w' ⟨rfl, hx⟩; rw [hx]; clear hx w')
    | (go_at_call 40; refine HR.out.mono ?_; rintro e w1 ⟨rfl, b1⟩)
    | (go_at_call 64; refine (HM.out _ b1).mono ?_; rintro e w' ⟨rfl, hx⟩; rw [hx]; clear hx w')
    | (go_at_call 28; refine (HN.out _).mono ?_; rintro e w' ⟨rfl, hx⟩; rw [hx]; clear hx w'))
  go_ret
  exact ⟨rfl, b1⟩

set_option maxHeartbeats 1000000 in
theorem vadd_root (h : Hv w1 w X gv b g gs R ms cs fr) {s : ByteArray} (hs : s.size ≤ maxLen) (hn : nmOk s = true) (q : Int) (z : Int) (hr : vRt true (cot cs q) (cat cs q) q = z) (hz : (z == 0) = false) : Calls Tryz.prog 27 #[.pointer (some ⟨gv, 0, none⟩), .string s, .int .i64 q] w fun e w' => e = .returned (.int .i64 z) ∧ Below w.heap.size w w' := by
  have HM : Hid (∀ w', Below w.heap.size w w' → Calls Tryz.prog 64 #[.pointer (some ⟨gv, 0, none⟩)] w' fun e w'' => e = .returned (.bool true) ∧ w'' = w') := fun w' hb => vmade_ok gv w' (h.grow hb).c0
  have HS := hidden (vstore_ok h)
  have HR := hidden (root_any h.hz.vw q)
  have HN : Hid (∀ w' : World, Calls Tryz.prog 28 #[.string s] w' fun e w'' => e = .returned (.bool (nmOk s)) ∧ w'' = w') := fun w' => name_any s w' hs
  rw [hr] at HR
  rw [hn] at HN
  clear h hn hr
  go_enter Tryz.func27, Tryz.ntmps27
  go_wp2_with (first
    | (go_at_call 56; refine HS.out.mono ?_; rintro e w' ⟨rfl, hx⟩; rw [hx]; clear hx w')
    | (go_at_call 40; refine HR.out.mono ?_; rintro e w1 ⟨rfl, b1⟩)
    | (go_at_call 64; refine (HM.out _ b1).mono ?_; rintro e w' ⟨rfl, hx⟩; rw [hx]; clear hx w')
    | (go_at_call 28; refine (HN.out _).mono ?_; rintro e w' ⟨rfl, hx⟩; rw [hx]; clear hx w'))
  go_ret
  exact ⟨rfl, b1⟩

set_option maxHeartbeats 1000000 in
theorem vadd_there (h : Hv w1 w X gv b g gs R ms cs fr) {s : ByteArray} (hs : s.size ≤ maxLen) (hn : nmOk s = true) (q : Int) (hr : vRt true (cot cs q) (cat cs q) q = 0) (ht : nmHas ms s.data.toList = true) : Calls Tryz.prog 27 #[.pointer (some ⟨gv, 0, none⟩), .string s, .int .i64 q] w fun e w' => e = .returned (.int .i64 6) ∧ Below w.heap.size w w' := by
  have HM : Hid (∀ w', Below w.heap.size w w' → Calls Tryz.prog 64 #[.pointer (some ⟨gv, 0, none⟩)] w' fun e w'' => e = .returned (.bool true) ∧ w'' = w') := fun w' hb => vmade_ok gv w' (h.grow hb).c0
  have HS := hidden (vstore_ok h)
  have HR := hidden (root_any h.hz.vw q)
  have HN : Hid (∀ w' : World, Calls Tryz.prog 28 #[.string s] w' fun e w'' => e = .returned (.bool (nmOk s)) ∧ w'' = w') := fun w' => name_any s w' hs
  rw [hr] at HR
  rw [hn] at HN
  have HA : Hid (∀ w', Below w.heap.size w w' → Calls Tryz.prog 65 #[.pointer (some ⟨gv, 0, none⟩), .string s] w' fun e w'' => e = .returned (.bool (nmHas ms s.data.toList)) ∧ w'' = w') := fun w' hb => vhas_ok (h.grow hb) hs
  rw [ht] at HA
  clear h hn hr ht
  go_enter Tryz.func27, Tryz.ntmps27
  go_wp2_with (first
    | (go_at_call 56; refine HS.out.mono ?_; rintro e w' ⟨rfl, hx⟩; rw [hx]; clear hx w')
    | (go_at_call 40; refine HR.out.mono ?_; rintro e w1 ⟨rfl, b1⟩)
    | (go_at_call 64; refine (HM.out _ b1).mono ?_; rintro e w' ⟨rfl, hx⟩; rw [hx]; clear hx w')
    | (go_at_call 28; refine (HN.out _).mono ?_; rintro e w' ⟨rfl, hx⟩; rw [hx]; clear hx w')
    | (go_at_call 65; refine (HA.out _ b1).mono ?_; rintro e w' ⟨rfl, hx⟩; rw [hx]; clear hx w'))
  go_ret
  exact ⟨rfl, b1⟩

set_option maxHeartbeats 1000000 in
theorem vadd_many (h : Hv w1 w X gv b g gs R ms cs fr) {s : ByteArray} (hs : s.size ≤ maxLen) (hn : nmOk s = true) (q : Int) (hr : vRt true (cot cs q) (cat cs q) q = 0) (ht : nmHas ms s.data.toList = false) (hl : 16 ≤ ms.length) : Calls Tryz.prog 27 #[.pointer (some ⟨gv, 0, none⟩), .string s, .int .i64 q] w fun e w' => e = .returned (.int .i64 8) ∧ Below w.heap.size w w' := by
  have HM : Hid (∀ w', Below w.heap.size w w' → Calls Tryz.prog 64 #[.pointer (some ⟨gv, 0, none⟩)] w' fun e w'' => e = .returned (.bool true) ∧ w'' = w') := fun w' hb => vmade_ok gv w' (h.grow hb).c0
  have HS := hidden (vstore_ok h)
  have HR := hidden (root_any h.hz.vw q)
  have HN : Hid (∀ w' : World, Calls Tryz.prog 28 #[.string s] w' fun e w'' => e = .returned (.bool (nmOk s)) ∧ w'' = w') := fun w' => name_any s w' hs
  rw [hr] at HR
  rw [hn] at HN
  have HA : Hid (∀ w', Below w.heap.size w w' → Calls Tryz.prog 65 #[.pointer (some ⟨gv, 0, none⟩), .string s] w' fun e w'' => e = .returned (.bool (nmHas ms s.data.toList)) ∧ w'' = w') := fun w' hb => vhas_ok (h.grow hb) hs
  rw [ht] at HA
  have HL : Hid (∀ w', Below w.heap.size w w' → Calls Tryz.prog 35 #[.pointer (some ⟨gv, 0, none⟩)] w' fun e w'' => e = .returned (.int .i64 (ms.length : Int)) ∧ w'' = w') := fun w' hb => vlen_ok (h.grow hb)
  obtain ⟨n, e⟩ : ∃ n, n = ms.length := ⟨_, rfl⟩
  rw [← e] at HL hl
  have i1 : (16 : Int) ≤ (n : Int) := by omega
  clear h hn hr ht e
  go_enter Tryz.func27, Tryz.ntmps27
  go_wp2_with (first
    | (go_at_call 56; refine HS.out.mono ?_; rintro e w' ⟨rfl, hx⟩; rw [hx]; clear hx w')
    | (go_at_call 40; refine HR.out.mono ?_; rintro e w1 ⟨rfl, b1⟩)
    | (go_at_call 64; refine (HM.out _ b1).mono ?_; rintro e w' ⟨rfl, hx⟩; rw [hx]; clear hx w')
    | (go_at_call 28; refine (HN.out _).mono ?_; rintro e w' ⟨rfl, hx⟩; rw [hx]; clear hx w')
    | (go_at_call 65; refine (HA.out _ b1).mono ?_; rintro e w' ⟨rfl, hx⟩; rw [hx]; clear hx w')
    | (go_at_call 35; refine (HL.out _ b1).mono ?_; rintro e w' ⟨rfl, hx⟩; rw [hx]; clear hx w'))
  go_ret
  exact ⟨rfl, b1⟩


set_option maxHeartbeats 1000000 in
theorem vadd_set (h : Hv w1 w X gv b g gs R ms cs fr) {s : ByteArray} (hs : s.size ≤ maxLen) (hn : nmOk s = true) (q : Int) (hr : vRt true (cot cs q) (cat cs q) q = 0) (ht : nmHas ms s.data.toList = false) (hl : ms.length < 16) {P : Ending → World → Prop} (hp : ∀ w', Below w.heap.size w w' → Calls Tryz.prog 66 #[.pointer (some ⟨gv, 0, none⟩), .string s, .int .i64 q] w' fun e w'' => e = .returned (.int .i64 0) ∧ P (.returned (.int .i64 0)) w'') : Calls Tryz.prog 27 #[.pointer (some ⟨gv, 0, none⟩), .string s, .int .i64 q] w P := by
  have HM : Hid (∀ w', Below w.heap.size w w' → Calls Tryz.prog 64 #[.pointer (some ⟨gv, 0, none⟩)] w' fun e w'' => e = .returned (.bool true) ∧ w'' = w') := fun w' hb => vmade_ok gv w' (h.grow hb).c0
  have HS := hidden (vstore_ok h)
  have HR := hidden (root_any h.hz.vw q)
  have HN : Hid (∀ w' : World, Calls Tryz.prog 28 #[.string s] w' fun e w'' => e = .returned (.bool (nmOk s)) ∧ w'' = w') := fun w' => name_any s w' hs
  rw [hr] at HR
  rw [hn] at HN
  have HA : Hid (∀ w', Below w.heap.size w w' → Calls Tryz.prog 65 #[.pointer (some ⟨gv, 0, none⟩), .string s] w' fun e w'' => e = .returned (.bool (nmHas ms s.data.toList)) ∧ w'' = w') := fun w' hb => vhas_ok (h.grow hb) hs
  rw [ht] at HA
  have HL : Hid (∀ w', Below w.heap.size w w' → Calls Tryz.prog 35 #[.pointer (some ⟨gv, 0, none⟩)] w' fun e w'' => e = .returned (.int .i64 (ms.length : Int)) ∧ w'' = w') := fun w' hb => vlen_ok (h.grow hb)
  obtain ⟨n, e⟩ : ∃ n, n = ms.length := ⟨_, rfl⟩
  rw [← e] at HL hl
  have i1 : ¬ ((16 : Int) ≤ (n : Int)) := by omega
  have HP := hidden hp
  clear h hn hr ht e hp
  go_enter Tryz.func27, Tryz.ntmps27
  go_wp2_with (first
    | (go_at_call 56; refine HS.out.mono ?_; rintro e w' ⟨rfl, hx⟩; rw [hx]; clear hx w')
    | (go_at_call 40; refine HR.out.mono ?_; rintro e w1 ⟨rfl, b1⟩)
    | (go_at_call 64; refine (HM.out _ b1).mono ?_; rintro e w' ⟨rfl, hx⟩; rw [hx]; clear hx w')
    | (go_at_call 28; refine (HN.out _).mono ?_; rintro e w' ⟨rfl, hx⟩; rw [hx]; clear hx w')
    | (go_at_call 65; refine (HA.out _ b1).mono ?_; rintro e w' ⟨rfl, hx⟩; rw [hx]; clear hx w')
    | (go_at_call 35; refine (HL.out _ b1).mono ?_; rintro e w' ⟨rfl, hx⟩; rw [hx]; clear hx w')
    | (go_at_call 66; refine (HP.out _ b1).mono ?_; rintro e w3 ⟨rfl, h3⟩))
  exact h3

theorem nmOk_le {s : ByteArray} (h : nmOk s = true) : s.size ≤ 20 := by
  unfold nmOk at h
  simp only [Bool.and_eq_true, decide_eq_true_eq] at h
  exact h.1.1.2

theorem vadd_zero (h : Hv w1 w X gv b g gs R ms cs fr) {s : ByteArray} (hn : nmOk s = true) (ht : nmHas ms s.data.toList = false) (hl : ms.length < 16) : Calls Tryz.prog 27 #[.pointer (some ⟨gv, 0, none⟩), .string s, .int .i64 0] w fun e w' => e = .returned (.int .i64 0) ∧ Hv w1 w' X gv b g gs R (nmPut ms s.data.toList 0) cs fr ∧ Kx X b w w' :=
  vadd_set h (by have := nmOk_le hn; unfold maxLen; omega) hn 0 rfl ht hl fun w' hb => by
    refine (vset_zero (h.grow hb) (nmOk_le hn) (by omega)).mono ?_
    rintro e w'' ⟨rfl, k1, k2⟩
    exact ⟨rfl, rfl, k1, (h.kx hb b).trans k2⟩
theorem vadd_ok (h : Hv w1 w X gv b g gs R ms cs fr) {s : ByteArray} (hn : nmOk s = true) (i : Nat) (hr : vRt true (cot cs ((i : Int) + 1)) (cat cs ((i : Int) + 1)) ((i : Int) + 1) = 0) (hc : 0 < cc cs i) (hm : cc cs i < 1073741824) (ht : nmHas ms s.data.toList = false) (hl : ms.length < 16) : Calls Tryz.prog 27 #[.pointer (some ⟨gv, 0, none⟩), .string s, .int .i64 ((i : Int) + 1)] w fun e w' => e = .returned (.int .i64 0) ∧ Hv w1 w' X gv b g gs R (nmPut ms s.data.toList (i + 1)) (moreC cs i) fr ∧ Kx X b w w' :=
  vadd_set h (by have := nmOk_le hn; unfold maxLen; omega) hn _ hr ht hl fun w' hb => by
    refine (vset_hold (h.grow hb) (nmOk_le hn) (by omega) i hc hm).mono ?_
    rintro e w'' ⟨rfl, k1, k2⟩
    exact ⟨rfl, rfl, k1, (h.kx hb b).trans k2⟩

set_option maxHeartbeats 400000 in
theorem vdrop_miss (h : Hv w1 w X gv b g gs R ms cs fr) {s : ByteArray} (hs : s.size ≤ maxLen) (hn : nmHas ms s.data.toList = false) : Calls Tryz.prog 33 #[.pointer (some ⟨gv, 0, none⟩), .string s] w fun e w' => e = .returned (.tuple #[.int .i64 0, .int .i64 7]) ∧ w' = w := by
  have HM := hidden (vroot_miss h hs hn)
  clear h hn
  go_enter Tryz.func33, Tryz.ntmps33
  go_wp2_with (go_at_call 31; refine HM.out.mono ?_; rintro e w' ⟨rfl, hx⟩; rw [hx]; clear hx w')
  go_ret2
  exact ⟨rfl, rfl⟩

set_option maxHeartbeats 1000000 in
theorem vdrop_go (h : Hv w1 w X gv b g gs R ms cs fr) {s : ByteArray} (hs : s.size ≤ maxLen) {v : Nat} (hv : (s.data.toList, v) ∈ ms) {Q : Int → World → Prop} (hp : ∀ w', Hv w1 w' X gv b g gs R (nmDel ms s.data.toList) cs fr → Kx X b w w' → Calls Tryz.prog 76 #[.pointer (some ⟨gv, 0, none⟩), .int .i64 (v : Int)] w' fun e w'' => ∃ n : Int, e = .returned (.int .i64 n) ∧ Q n w'') : Calls Tryz.prog 33 #[.pointer (some ⟨gv, 0, none⟩), .string s] w fun e w' => ∃ n : Int, e = .returned (.tuple #[.int .i64 n, .int .i64 0]) ∧ Q n w' := by
  have HM := hidden (vroot_ok h hs hv)
  have c2 := h.c2
  obtain ⟨w2, hd, hm, hg⟩ := h.vm.drop (s := s) hs 0
  obtain ⟨h2, k2⟩ := h.turn hm hg
  have HP := hidden (hp w2 h2 k2)
  clear h hv hp hm hg h2 k2
  go_enter Tryz.func33, Tryz.ntmps33
  go_wp2_with (first
    | (go_at_call 31; refine HM.out.mono ?_; rintro e w' ⟨rfl, hx⟩; rw [hx]; clear hx w')
    | (go_at_call 76; refine HP.out.mono ?_; rintro e w3 ⟨n, rfl, h3⟩))
  go_ret2
  exact ⟨n, rfl, h3⟩
end

end Go.Proofs.YtlhnodinhmdjnaaGreatDoor

/- StoreNone's walk: what is no store answers as no store, whatever is asked. -/
namespace Go.Proofs.YtlhnodinhmdjnaaGreatDoor
set_option maxRecDepth 20000
open Go.RowKit

/-- A call's cells: its kind, key, value, depth and two handles. -/
def azL (k : Int) (K : List Int) (v : Value) (d x y : Int) : List Value := .int .i64 k :: (K.map (Value.int .u8) ++ [v, .int .i64 d, .int .i64 x, .int .i64 y])
theorem azL_length (k : Int) (K : List Int) (v : Value) (d x y : Int) (h : K.length = 32) : (azL k K v d x y).length = 37 := by simp [azL, h]

theorem act_cells {w : World} {b : Nat} {t : TypeId} {k : Int} {K : List Int} {v : Value} {d x y : Int} (h : Blk w b t (azL k K v d x y).toArray) (hK : K.length = 32) : w.cell? ⟨b, 0, none⟩ = some (.int .i64 k) ∧ w.cell? ⟨b, 33, none⟩ = some v ∧ w.cell? ⟨b, 34, none⟩ = some (.int .i64 d) ∧ w.cell? ⟨b, 35, none⟩ = some (.int .i64 x) ∧ w.cell? ⟨b, 36, none⟩ = some (.int .i64 y) := by
  have h1 : (K.map (Value.int .u8)).length = 32 := by simp [hK]
  refine ⟨?_, ?_, ?_, ?_, ?_⟩
  · rw [h.cell]; rfl
  · rw [h.cell, List.getElem?_toArray]
    show (K.map (Value.int .u8) ++ _)[32]? = _
    rw [List.getElem?_append_right (by omega), h1]; rfl
  · rw [h.cell, List.getElem?_toArray]
    show (K.map (Value.int .u8) ++ _)[33]? = _
    rw [List.getElem?_append_right (by omega), h1]; rfl
  · rw [h.cell, List.getElem?_toArray]
    show (K.map (Value.int .u8) ++ _)[34]? = _
    rw [List.getElem?_append_right (by omega), h1]; rfl
  · rw [h.cell, List.getElem?_toArray]
    show (K.map (Value.int .u8) ++ _)[35]? = _
    rw [List.getElem?_append_right (by omega), h1]; rfl
theorem act_key {w : World} {b : Nat} {t : TypeId} {k : Int} {K : List Int} {v : Value} {d x y : Int} (h : Blk w b t (azL k K v d x y).toArray) : w.rangeAt b 1 (K.map (Value.int .u8)) := fun j u hu => by
  rw [h.cell, List.getElem?_toArray, Nat.add_comm]
  show (K.map (Value.int .u8) ++ _)[j]? = _
  rw [List.getElem?_append_left (List.getElem?_eq_some_iff.1 hu).1]
  exact hu

/-- A guarded composite literal. -/
theorem wpList_bldw {ops : Array Oper} {rest : List Oper} {op : Oper} {a : Act} {Q : Exit → Act → World → Prop} (w : World) (hgd : Region.wanted op (yielded ops a.tmps) = true) (ty : TypeId) (parts : Array (Nat × Operand)) (ho : op.op = .build ty parts)
    (cs : Array Value) (h : Tryz.prog.built ty (parts.map fun (i, x) => (i, a.eval x)).toList = some cs)
    (hk : wpList Tryz.prog ops Q rest (a.put op.dst (.agg cs)) w) : wpList Tryz.prog ops Q (op :: rest) a w := by
  refine BigFrame.wpList_want hgd fun K hK => ?_
  unfold Oper.wp
  rw [exec_blc op a ty parts ho cs h w]
  exact hK _ _ hk

end Go.Proofs.YtlhnodinhmdjnaaGreatDoor

/- What every statement's proof asks of the program as a whole. -/
namespace Go.Proofs.YtlhnodinhmdjnaaGreatDoor
set_option maxRecDepth 20000
open Go.ChangeShapes Go.WideShapes Go.ChangeAt Go.RowKit

theorem ownK : ownKnob Tryz.prog.godebug = none := by kernel_rfl
theorem laidOut : laidOutB Tryz.prog = true := by kernel_rfl

theorem okWide_st {t : TypeId} {fs : Array Field} {W : World} {base : Nat} {v : Value} (ht : Tryz.prog.underlying t = some (.struct fs)) (h : Value.okWide Tryz.prog W .any base t v) : ∃ cs, v = .agg cs := by
  unfold Value.okWide at h
  cases v <;> simp_all

end Go.Proofs.YtlhnodinhmdjnaaGreatDoor
