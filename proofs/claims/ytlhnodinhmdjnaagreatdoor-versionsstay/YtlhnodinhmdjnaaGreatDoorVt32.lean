/- strings.Clone, as a contract: the same text. -/
import Derived.Test.YtlhnodinhmdjnaaGreatDoorVt02
import Derived.Lib.Strings
import Derived.Lib.Walk
import Derived.Lib.BufferWrite
import Derived.Lib.UnsafeStr
import Derived.Lib.Hide
import Derived.Laws.MakeOwn
import Derived.WalkKit
import Derived.Test.YtlhnodinhmdjnaaGreatDoorVt19
import Derived.Test.YtlhnodinhmdjnaaGreatDoorVt07
import Derived.Test.YtlhnodinhmdjnaaGreatDoorVt31
import Derived.Test.YtlhnodinhmdjnaaGreatDoorVt21
namespace Go.Proofs.YtlhnodinhmdjnaaGreatDoor
set_option maxRecDepth 20000
open Go.RowKit

set_option maxHeartbeats 4000000 in
set_option maxRecDepth 100000 in
theorem lite_any (s : ByteArray) (w : World) (hlim : s.size ≤ 65536) : Calls Tryz.prog 129 #[.string s] w fun e w' => e = .returned (.string s) ∧ Below w.heap.size w w' := by
  by_cases h0 : s.size = 0
  · have hs : s = ⟨#[]⟩ := by
      apply ByteArray.ext
      exact Array.eq_empty_of_size_eq_zero h0
    subst hs
    go_enter Tryz.func129, Tryz.ntmps129
    go_wp2
    go_ret
    exact ⟨rfl, Below.refl _ _⟩
  · obtain ⟨i0, hi, hz0, hz1, hz2⟩ := info_parts info_byte
    have hinfo : (Tryz.prog.info? 5).map (·.size) = some 1 := by rw [hi]; simp [hz1]
    have hco : Tryz.prog.cellsOf 5 = 1 := by simp [Program.cellsOf, hi, hz1]
    obtain ⟨M, hM⟩ : ∃ M, M = madeCells (Value.int .u8 0).cells (((s.size : Nat) : Int).toNat * i0.size) := ⟨_, rfl⟩
    have hMs : M.size = s.size := by rw [hM, size_madeCells, hz1]; simp
    have hmk : ∀ W : World, (Instr.makeSlice 35 (.int .i64 (s.size : Int)) (.int .i64 (s.size : Int))).run Tryz.prog W = .ok (.slice (some ⟨W.heap.size, 0, none⟩) s.size s.size) (W.alloc (.cells M 5)) := fun W => by
      have h := run_make (P := Tryz.prog) W 35 5 i0 (.int .u8 0) Tryz.underlying35 hi hz0 .i64 .i64 (s.size : Int) (s.size : Int) (by omega) (by omega) (by rw [hz2]; omega) (by omega)
      rw [← hM] at h
      simpa using h
    clear hM
    have hcp := Lib.run_copy_row_string (P := Tryz.prog) (w.alloc (.cells M 5)) 35 9 3 5 w.heap.size 0 s.size s.size s M 5 Tryz.underlying35 hinfo (heap_alloc_new w _) (Nat.le_refl _) (by omega)
    obtain ⟨Y, hY⟩ : ∃ Y, Y = (M.toList.take 0 ++ Lib.byteCells s.data.toList ++ M.toList.drop (0 + s.size)).toArray := ⟨_, rfl⟩
    rw [← hY] at hcp
    have hYl : Y.toList = Lib.byteCells s.data.toList := by
      rw [hY, List.toList_toArray, List.take_zero, List.nil_append, List.drop_of_length_le (by rw [Array.length_toList]; omega), List.append_nil]
    have hYs : Y.size = s.size := by rw [← Array.length_toList, hYl, Lib.byteCells_length, ← Lib.size_eq]
    have hgY : ((w.alloc (.cells M 5)).setRow w.heap.size Y).heap[w.heap.size]? = some (.cells Y 5 (0, 0)) := setRow_heap _ _ M _ 5 (0, 0) (heap_alloc_new w _)
    have hne : s.data.toList ≠ [] := fun e => h0 (by rw [Lib.size_eq, e]; rfl)
    have hUS := Lib.run_unsafeString_row (P := Tryz.prog) ((w.alloc (.cells M 5)).setRow w.heap.size Y) 202 3 9 5 Tryz.underlying202 hco w.heap.size Y.size (by unfold World.shape?; rw [hgY]) s.data.toList hne (by rw [← Lib.size_eq]; omega) (by rw [← Lib.size_eq]; omega)
      (fun j x hx => Lib.cells_of_row hgY Y.size j _ (by rw [List.take_of_length_le (by rw [Array.length_toList]; exact Nat.le_refl _), hYl]; simp [Lib.byteCells, hx]))
    rw [← Lib.size_eq] at hUS
    clear hY
    go_enter Tryz.func129, Tryz.ntmps129
    go_wp2
    go_ret
    have hb1 : Below w.heap.size w (w.alloc (.cells M 5)) := (Below.refl _ w).alloc (Nat.le_refl _) _
    have hb2 : Below w.heap.size (w.alloc (.cells M 5)) ((w.alloc (.cells M 5)).setRow w.heap.size Y) := ⟨rfl, rfl, rfl, by simp, fun k hk => setRow_other _ _ _ _ (by omega)⟩
    exact ⟨rfl, Lib.below_freeze (hb1.trans hb2) (p := ⟨w.heap.size, 0, none⟩) (Nat.le_refl _) _⟩

set_option maxHeartbeats 1000000 in
theorem clone14_any (s : ByteArray) (w : World) (hlim : s.size ≤ 65536) : Calls Tryz.prog 100 #[.string s] w fun e w' => e = .returned (.string s) ∧ Below w.heap.size w w' := by
  have H := hidden (lite_any s w hlim)
  go_enter Tryz.func100, Tryz.ntmps100
  go_wp2_with (go_at_call 129; refine H.out.mono ?_; rintro e w' ⟨rfl, hb⟩)
  go_ret
  exact ⟨rfl, hb⟩

end Go.Proofs.YtlhnodinhmdjnaaGreatDoor

/- versions.Name, as a contract: 1 to 20 small letters, digits and -, the first a letter. -/
namespace Go.Proofs.YtlhnodinhmdjnaaGreatDoor
set_option maxRecDepth 20000
open Go.RowKit

def ltr (c : Int) : Bool := decide (97 ≤ c ∧ c ≤ 122)
def dgt (c : Int) : Bool := decide (48 ≤ c ∧ c ≤ 57)
/-- A sign that a name may hold. -/
def sgn (c : Int) : Bool := ltr c || dgt c || decide (c = 45)
/-- A text that is a name. -/
def nmOk (s : ByteArray) : Bool := decide (1 ≤ s.size ∧ s.size ≤ 20) && ltr ((nums s).getD 0 0) && (nums s).all sgn

set_option maxHeartbeats 400000 in
theorem letter_any (c : Int) (w : World) : Calls Tryz.prog 67 #[.int .u8 c] w fun e w' => e = .returned (.bool (ltr c)) ∧ w' = w := by
  by_cases h1 : 97 ≤ c
  · by_cases h2 : c ≤ 122
    · have e : ltr c = true := by simp [ltr, h1, h2]
      rw [e]
      go_enter Tryz.func67, Tryz.ntmps67
      go_wp2
      go_ret
      exact ⟨rfl, rfl⟩
    · have e : ltr c = false := by simp [ltr, h2]
      rw [e]
      go_enter Tryz.func67, Tryz.ntmps67
      go_wp2
      go_ret
      exact ⟨rfl, rfl⟩
  · have e : ltr c = false := by simp [ltr, h1]
    rw [e]
    go_enter Tryz.func67, Tryz.ntmps67
    go_wp2
    go_ret
    exact ⟨rfl, rfl⟩

set_option maxHeartbeats 400000 in
theorem digit14_any (c : Int) (w : World) : Calls Tryz.prog 68 #[.int .u8 c] w fun e w' => e = .returned (.bool (dgt c)) ∧ w' = w := by
  by_cases h1 : 48 ≤ c
  · by_cases h2 : c ≤ 57
    · have e : dgt c = true := by simp [dgt, h1, h2]
      rw [e]
      go_enter Tryz.func68, Tryz.ntmps68
      go_wp2
      go_ret
      exact ⟨rfl, rfl⟩
    · have e : dgt c = false := by simp [dgt, h2]
      rw [e]
      go_enter Tryz.func68, Tryz.ntmps68
      go_wp2
      go_ret
      exact ⟨rfl, rfl⟩
  · have e : dgt c = false := by simp [dgt, h1]
    rw [e]
    go_enter Tryz.func68, Tryz.ntmps68
    go_wp2
    go_ret
    exact ⟨rfl, rfl⟩

theorem tx_empty (s : ByteArray) : (s.toList == []) = decide (s.size = 0) := by
  rw [Bool.eq_iff_iff, beq_iff_eq, decide_eq_true_eq, ByteArray.toList_eq]
  constructor
  · intro h
    show s.data.size = 0
    rw [← Array.length_toList, h]
    rfl
  · intro h
    have : s.data.size = 0 := h
    rw [← Array.length_toList] at this
    exact List.eq_nil_of_length_eq_zero this

theorem all_take_snoc {l : List Int} {f : Int → Bool} {k : Nat} (h : k < l.length) : (l.take (k + 1)).all f = ((l.take k).all f && f (l.getD k 0)) := by
  rw [List.take_add_one, List.getElem?_eq_getElem h, List.all_append, List.getD_eq_getElem?_getD, List.getElem?_eq_getElem h]
  simp

set_option maxHeartbeats 2000000 in
theorem name_any (s : ByteArray) (w : World) (hs : s.size ≤ maxLen) : Calls Tryz.prog 28 #[.string s] w fun e w' => e = .returned (.bool (nmOk s)) ∧ w' = w := by
  unfold maxLen at hs
  have hem := tx_empty s
  have hnl := nums_length s
  by_cases h0 : s.size = 0
  · have e : nmOk s = false := by simp [nmOk, h0]
    rw [e]
    rw [decide_eq_true h0] at hem
    clear hnl
    go_enter Tryz.func28, Tryz.ntmps28
    go_wp2
    go_ret
    exact ⟨rfl, rfl⟩
  · rw [decide_eq_false h0] at hem
    by_cases h20 : 20 < s.size
    · have e : nmOk s = false := by
        have : ¬ (s.size ≤ 20) := by omega
        simp [nmOk, this]
      rw [e]
      have i1 : (20 : Int) < (s.size : Int) := by omega
      clear hnl
      go_enter Tryz.func28, Tryz.ntmps28
      go_wp2
      go_ret
      exact ⟨rfl, rfl⟩
    · have i1 : ¬ (20 : Int) < (s.size : Int) := by omega
      have i0 : (0 : Nat) < s.size := by omega
      have g0 := nums_get s 0 i0
      have HLT : Hid (∀ c w, Calls Tryz.prog 67 #[.int .u8 c] w fun e w' => e = .returned (.bool (ltr c)) ∧ w' = w) := letter_any
      have HDG : Hid (∀ c w, Calls Tryz.prog 68 #[.int .u8 c] w fun e w' => e = .returned (.bool (dgt c)) ∧ w' = w) := digit14_any
      cases hf : ltr ((nums s).getD 0 0)
      · have e : nmOk s = false := by unfold nmOk; rw [hf]; simp
        rw [e]
        rw [g0] at hf
        clear hnl g0
        go_enter Tryz.func28, Tryz.ntmps28
        go_wp2_with (go_at_call 67; refine (HLT.out _ _).mono ?_; rw [hf]; rintro e w' ⟨rfl, hx⟩; rw [hx]; clear hx w')
        go_ret
        exact ⟨rfl, rfl⟩
      · have HE : Hid (nmOk s = (nums s).all sgn) := by
          show _ = _
          unfold nmOk
          rw [hf, decide_eq_true (by omega)]
          simp
        rw [g0] at hf
        obtain ⟨r, hr⟩ : ∃ r, r = nmOk s := ⟨_, rfl⟩
        rw [← hr] at HE
        rw [← hr]
        have HNL := hidden hnl
        clear g0 hr hnl
        go_enter Tryz.func28, Tryz.ntmps28
        go_wp2_with (go_at_call 67; refine (HLT.out _ _).mono ?_; rw [hf]; rintro e w' ⟨rfl, hx⟩; rw [hx]; clear hx w')
        clear hf
        go_loopw [20] (fun i wr => ∃ k : Nat, k ≤ s.size ∧ i = .int .i64 (k : Int) ∧ Hid (((nums s).take k).all sgn = true) ∧ Hid (wr = w)) (fun i _ => s.size - (intOf i).toNat)
        case atStart => exact ⟨0, Nat.zero_le _, rfl, by show _ = _; simp, rfl⟩
        case round =>
          obtain ⟨k, hk, rfl, hA, hw⟩ := hrel
          have hwk : wrap64 ((k : Int) + 1) = ((k + 1 : Nat) : Int) := by rw [Go.IntWalk.wrap64_in _ (by omega)]; rfl
          by_cases hlt : k < s.size
          · have j1 : (k : Int) < (s.size : Int) := by omega
            have j0 : (0 : Int) ≤ (k : Int) := by omega
            have gk := nums_get s k hlt
            have hst := all_take_snoc (l := nums s) (f := sgn) (k := k) (by rw [HNL.out]; exact hlt)
            rw [hA.out, gk, Bool.true_and] at hst
            have HG : Hid (sgn (s[k].toNat : Int) = true → ((nums s).take (k + 1)).all sgn = true) := fun q => by rw [hst, q]
            have HB : Hid (sgn (s[k].toNat : Int) = false → r = false) := fun q => by
              rw [HE.out]
              rw [Bool.eq_false_iff]
              intro h
              have h2 : ((nums s).take (k + 1)).all sgn = true := List.all_eq_true.2 fun x hx => List.all_eq_true.1 h x (List.mem_of_mem_take hx)
              rw [hst, q] at h2
              cases h2
            clear hst gk
            have hgc : ∀ c : Int, sgn c = (ltr c || dgt c || decide (c = 45)) := fun _ => rfl
            cases h1 : ltr (s[k].toNat : Int)
            · cases h2 : dgt (s[k].toNat : Int)
              · by_cases h3 : (s[k].toNat : Int) = 45
                · have HT : Hid (((nums s).take (k + 1)).all sgn = true) := HG.out (by rw [hgc, h3]; rfl)
                  have h4 : ((s[k].toNat : Int) == 45) = true := by simpa using h3
                  clear HG HB hgc h3
                  go_wp2_with (first
                    | (go_at_call 67; refine (HLT.out _ _).mono ?_; rw [h1]; rintro e w' ⟨rfl, hx⟩; rw [hx]; clear hx w')
                    | (go_at_call 68; refine (HDG.out _ _).mono ?_; rw [h2]; rintro e w' ⟨rfl, hx⟩; rw [hx]; clear hx w'))
                  exact ⟨⟨k + 1, by omega, by go_num, HT, hw⟩, by simp [intOf]; omega⟩
                · have HT : Hid (r = false) := HB.out (by rw [hgc, h1, h2, decide_eq_false h3]; rfl)
                  have h4 : ((s[k].toNat : Int) == 45) = false := by simpa using h3
                  clear HG HB hgc h3
                  go_wp2_with (first
                    | (go_at_call 67; refine (HLT.out _ _).mono ?_; rw [h1]; rintro e w' ⟨rfl, hx⟩; rw [hx]; clear hx w')
                    | (go_at_call 68; refine (HDG.out _ _).mono ?_; rw [h2]; rintro e w' ⟨rfl, hx⟩; rw [hx]; clear hx w'))
                  go_ret
                  exact ⟨by rw [HT.out]; rfl, hw.out⟩
              · have HT : Hid (((nums s).take (k + 1)).all sgn = true) := HG.out (by rw [hgc, h1, h2]; rfl)
                clear HG HB hgc
                go_wp2_with (first
                  | (go_at_call 67; refine (HLT.out _ _).mono ?_; rw [h1]; rintro e w' ⟨rfl, hx⟩; rw [hx]; clear hx w')
                  | (go_at_call 68; refine (HDG.out _ _).mono ?_; rw [h2]; rintro e w' ⟨rfl, hx⟩; rw [hx]; clear hx w'))
                exact ⟨⟨k + 1, by omega, by go_num, HT, hw⟩, by simp [intOf]; omega⟩
            · have HT : Hid (((nums s).take (k + 1)).all sgn = true) := HG.out (by rw [hgc, h1]; rfl)
              clear HG HB hgc
              go_wp2_with (go_at_call 67; refine (HLT.out _ _).mono ?_; rw [h1]; rintro e w' ⟨rfl, hx⟩; rw [hx]; clear hx w')
              exact ⟨⟨k + 1, by omega, by go_num, HT, hw⟩, by simp [intOf]; omega⟩
          · obtain rfl : k = s.size := by omega
            have HT : Hid (r = true) := by
              show _ = _
              rw [HE.out, ← hA.out, List.take_of_length_le (by rw [HNL.out]; exact Nat.le_refl _)]
            go_wp2
            go_ret
            exact ⟨by rw [HT.out]; rfl, hw.out⟩

end Go.Proofs.YtlhnodinhmdjnaaGreatDoor

/- versions' has, Len, Store, Root, Names, set, letGo of versions that New answered, as contracts. -/
namespace Go.Proofs.YtlhnodinhmdjnaaGreatDoor
set_option maxRecDepth 20000
open Go.RowKit

/-- A store into a map, in a region that draws its order. -/
theorem step_mup14 {ops : Array Oper} {op : Oper} {a : Act} {K : Act → World → Prop} {Q : Exit → Act → World → Prop} {E : Prop} (w w' : World) (hgd : op.guard = none) (t : TypeId) (m x v : Operand) (ho : op.op = .mapUpdate t m x v) (vm vx vv : Value)
    (hm : a.eval m = vm) (hx : a.eval x = vx) (hv : a.eval v = vv) (hrun : (Instr.mapUpdate t vm vx vv).run Tryz.prog w = .ok () w')
    (hk : K (a.put op.dst undef) w') : if Region.wanted op (yielded ops a.tmps) = true then Oper.wp Tryz.prog op a w K Q else E := by
  have hw : Region.wanted op (yielded ops a.tmps) = true := by simp [Region.wanted, hgd]
  rw [if_pos hw]
  unfold Oper.wp execOp
  simp [ho, hm, hx, hv, hrun, Result.andThen]
  exact hk

section
variable {w1 w : World} {X : List Nat} {gv b g gs R : Nat} {ms : Nms} {cs : List (Nat × Ce)} {fr : List Nat}
set_option maxHeartbeats 400000 in
theorem vstore_ok (h : Hv w1 w X gv b g gs R ms cs fr) : Calls Tryz.prog 56 #[.pointer (some ⟨gv, 0, none⟩)] w fun e w' => e = .returned (.pointer (some ⟨g, 0, none⟩)) ∧ w' = w := by
  have HM : Hid (∀ w', Below w.heap.size w w' → Calls Tryz.prog 64 #[.pointer (some ⟨gv, 0, none⟩)] w' fun e w'' => e = .returned (.bool true) ∧ w'' = w') := fun w' hb => vmade_ok gv w' (h.grow hb).c0
  have c1 := h.c1
  clear h
  go_enter Tryz.func56, Tryz.ntmps56
  go_wp2_with (go_at_call 64; refine (HM.out _ (Below.refl _ _)).mono ?_; rintro e w' ⟨rfl, hx⟩; rw [hx]; clear hx w')
  go_ret
  exact ⟨rfl, rfl⟩

set_option maxHeartbeats 400000 in
theorem vlen_ok (h : Hv w1 w X gv b g gs R ms cs fr) : Calls Tryz.prog 35 #[.pointer (some ⟨gv, 0, none⟩)] w fun e w' => e = .returned (.int .i64 (ms.length : Int)) ∧ w' = w := by
  have HM : Hid (∀ w', Below w.heap.size w w' → Calls Tryz.prog 64 #[.pointer (some ⟨gv, 0, none⟩)] w' fun e w'' => e = .returned (.bool true) ∧ w'' = w') := fun w' hb => vmade_ok gv w' (h.grow hb).c0
  have c2 := h.c2
  have hl := fun ty => h.vm.len ty
  clear h
  go_enter Tryz.func35, Tryz.ntmps35
  go_wp2_with (go_at_call 64; refine (HM.out _ (Below.refl _ _)).mono ?_; rintro e w' ⟨rfl, hx⟩; rw [hx]; clear hx w')
  go_ret
  exact ⟨rfl, rfl⟩

set_option maxHeartbeats 400000 in
theorem vhas_ok (h : Hv w1 w X gv b g gs R ms cs fr) {s : ByteArray} (hs : s.size ≤ maxLen) : Calls Tryz.prog 65 #[.pointer (some ⟨gv, 0, none⟩), .string s] w fun e w' => e = .returned (.bool (nmHas ms s.data.toList)) ∧ w' = w := by
  have c2 := h.c2
  obtain ⟨x, hx⟩ := h.vm.ok hs
  generalize nmHas ms s.data.toList = q at hx ⊢
  clear h hs
  go_enter Tryz.func65, Tryz.ntmps65
  go_wp2
  go_ret
  exact ⟨rfl, rfl⟩

set_option maxHeartbeats 400000 in
theorem vroot_miss (h : Hv w1 w X gv b g gs R ms cs fr) {s : ByteArray} (hs : s.size ≤ maxLen) (hn : nmHas ms s.data.toList = false) : Calls Tryz.prog 31 #[.pointer (some ⟨gv, 0, none⟩), .string s] w fun e w' => e = .returned (.tuple #[.int .i64 0, .int .i64 7]) ∧ w' = w := by
  have HM : Hid (∀ w', Below w.heap.size w w' → Calls Tryz.prog 64 #[.pointer (some ⟨gv, 0, none⟩)] w' fun e w'' => e = .returned (.bool true) ∧ w'' = w') := fun w' hb => vmade_ok gv w' (h.grow hb).c0
  have HH := hidden (vhas_ok h hs)
  rw [hn] at HH
  clear h hn
  go_enter Tryz.func31, Tryz.ntmps31
  go_wp2_with (first
    | (go_at_call 64; refine (HM.out _ (Below.refl _ _)).mono ?_; rintro e w' ⟨rfl, hx⟩; rw [hx]; clear hx w')
    | (go_at_call 65; refine HH.out.mono ?_; rintro e w' ⟨rfl, hx⟩; rw [hx]; clear hx w'))
  go_ret2
  exact ⟨rfl, rfl⟩

set_option maxHeartbeats 400000 in
theorem vroot_ok (h : Hv w1 w X gv b g gs R ms cs fr) {s : ByteArray} (hs : s.size ≤ maxLen) {v : Nat} (hv : (s.data.toList, v) ∈ ms) : Calls Tryz.prog 31 #[.pointer (some ⟨gv, 0, none⟩), .string s] w fun e w' => e = .returned (.tuple #[.int .i64 (v : Int), .int .i64 0]) ∧ w' = w := by
  have HM : Hid (∀ w', Below w.heap.size w w' → Calls Tryz.prog 64 #[.pointer (some ⟨gv, 0, none⟩)] w' fun e w'' => e = .returned (.bool true) ∧ w'' = w') := fun w' hb => vmade_ok gv w' (h.grow hb).c0
  have HH := hidden (vhas_ok h hs)
  rw [nmHas_iff.2 (List.mem_map_of_mem (f := (·.1)) hv)] at HH
  have c2 := h.c2
  have hl := h.vm.look hs hv
  clear h hv
  go_enter Tryz.func31, Tryz.ntmps31
  go_wp2_with (first
    | (go_at_call 64; refine (HM.out _ (Below.refl _ _)).mono ?_; rintro e w' ⟨rfl, hx⟩; rw [hx]; clear hx w')
    | (go_at_call 65; refine HH.out.mono ?_; rintro e w' ⟨rfl, hx⟩; rw [hx]; clear hx w'))
  go_ret2
  exact ⟨rfl, rfl⟩

/-- The names, rising, in a new list. -/
def NmPost (w : World) (ms : Nms) (e : Ending) (w' : World) : Prop := ∃ v, e = .returned v ∧ w'.ownsRow w.heap.size 9 1 v (nmSort ms).length ((nmSort ms).map encStr) ∧ Below w.heap.size w w'

set_option maxHeartbeats 1000000 in
theorem vnames_ok (h : Hv w1 w X gv b g gs R ms cs fr) (hl : ms.length ≤ 1000) : Calls Tryz.prog 30 #[.pointer (some ⟨gv, 0, none⟩)] w (NmPost w ms) := by
  have HM : Hid (∀ w', Below w.heap.size w w' → Calls Tryz.prog 64 #[.pointer (some ⟨gv, 0, none⟩)] w' fun e w'' => e = .returned (.bool true) ∧ w'' = w') := fun w' hb => vmade_ok gv w' (h.grow hb).c0
  have c2 := h.c2
  obtain ⟨D, hown, hv, hk⟩ := h.vm.keys
  have hm : Maps.size D ≤ maxLen := by rw [hv.sz]; unfold maxLen; omega
  have hy : Maps.size D * 16 ≤ 140737488355328 := by rw [hv.sz]; omega
  have HSO := hidden (sorted14_any b ms.length D _ w hown hm hy)
  have HKS : Hid (∀ (mb : Option Nat) (W : World), _) := keys14_any
  have HKK := hidden hk
  have HSZ := hidden hv.sz
  clear h hown hm hy hk hv
  refine (callsIn_wide (n := 6)).1 ?_
  have hfM : Fence.wide.fn 64 := trivial
  have hfK : Fence.wide.fn 73 := trivial
  have hfS : Fence.wide.fn 72 := trivial
  refine callsIn_of_wp Tryz.func30 rfl trivial ?_ rfl
  simp only [Tryz.ntmps30, List.size_toArray, List.length_cons, List.length_nil, Nat.reduceAdd, Nat.reduceSub, Array.replicate_succ, Array.replicate_zero, List.push_toArray, List.append_toArray, List.nil_append, List.cons_append]
  gi_wp2_with (first
    | (gi_at_call 64; refine (callsIn_wide.2 (HM.out _ (Below.refl _ _))).mono ?_; rintro e w' ⟨rfl, hx⟩; rw [hx]; clear hx w')
    | (gi_at_call 73; refine (HKS.out _ _).mono ?_; rintro e w' ⟨rfl, rfl⟩)
    | (gi_at_call 72; refine HSO.out.mono ?_; rintro e w' ⟨v, ss, rfl, hS, hrow, hnil, hb⟩))
  go_ret
  have hp := HKK.out ss hS
  rw [hp] at hrow
  have hlen : ss.length = (nmSort ms).length := by rw [← hp, List.length_mergeSort]
  rw [hlen] at hrow
  exact ⟨v, rfl, ownsRow_base_a hrow (by simp), ((Below.refl _ w).alloc (Nat.le_refl _) _).trans (hb.mono (by simp))⟩

/-- set's end: the name is put into the map. -/
theorem vset_end {wk : World} (h : Hv w1 wk X gv b g gs R ms cs fr) {s : ByteArray} (hs : s.size ≤ 20) (v : Nat) (hv : v ≤ 2147483648) (hl : ms.length ≤ 1000) : ∀ w', Below wk.heap.size wk w' → ∃ w'', (Instr.mapUpdate 68 (.map (some b)) (.string s) (.int .i64 (v : Int))).run Tryz.prog w' = .ok () w'' ∧ Hv w1 w'' X gv b g gs R (nmPut ms s.data.toList v) cs fr ∧ Kx X b wk w'' := fun w' hb => by
  have h' := h.grow hb
  obtain ⟨w'', r, m, q⟩ := h'.vm.put (s := s) (by unfold maxLen; omega) v hv (by omega)
  obtain ⟨k1, k2⟩ := h'.turn m q
  exact ⟨w'', r, k1, (h.kx hb b).trans k2⟩

set_option maxHeartbeats 2000000 in
theorem vset_zero (h : Hv w1 w X gv b g gs R ms cs fr) {s : ByteArray} (hs : s.size ≤ 20) (hl : ms.length ≤ 1000) : Calls Tryz.prog 66 #[.pointer (some ⟨gv, 0, none⟩), .string s, .int .i64 0] w fun e w' => e = .returned (.int .i64 0) ∧ Hv w1 w' X gv b g gs R (nmPut ms s.data.toList 0) cs fr ∧ Kx X b w w' := by
  have HC2 : Hid (∀ w', Below w.heap.size w w' → w'.cell? ⟨gv, 2, none⟩ = some (.map (some b))) := fun w' hb => (h.grow hb).c2
  have HPU : Hid (∀ w', Below w.heap.size w w' → ∃ w'', (Instr.mapUpdate 68 (.map (some b)) (.string s) (.int .i64 0)).run Tryz.prog w' = .ok () w'' ∧ Hv w1 w'' X gv b g gs R (nmPut ms s.data.toList 0) cs fr ∧ Kx X b w w'') := vset_end h hs 0 (by omega) hl
  have HCL : Hid (∀ w', Calls Tryz.prog 100 #[.string s] w' fun e w'' => e = .returned (.string s) ∧ Below w'.heap.size w' w'') := fun w' => clone14_any s w' (by omega)
  clear h
  go_enter Tryz.func66, Tryz.ntmps66
  go_wp2_with fail
  obtain ⟨wk, hwk⟩ : ∃ x, x = w := ⟨_, rfl⟩
  subst hwk
  have HD0 : Hid (Below wk.heap.size wk (wk.drewN 1)) := below_drewN (Below.refl _ _) 1
  refine wp_region_last (S := fun w' => Below wk.heap.size wk w') 7 (by kernel_rfl) (HD0.out) (fun hHeld => ?_)
  refine wpAnyL_take (i := 0) (v := .pointer (some ⟨gv, 0, none⟩)) rfl (by kernel_rfl) (by kernel_rfl) (by kernel_rfl) (by kernel_rfl) (by kernel_rfl) (fun _ _ _ h => h) (Or.inl ⟨by rfl, fun w hS => by go_simp⟩) hHeld ?_
  simp only [Act.put, List.getElem_toArray, List.getElem_cons_zero, List.setIfInBounds_toArray, List.set_cons_zero, List.set_cons_succ]
  refine wpAnyL_take (i := 1) (v := .pointer (some ⟨gv, 0, none⟩)) rfl (by kernel_rfl) (by kernel_rfl) (by kernel_rfl) (by kernel_rfl) (by kernel_rfl) (fun _ _ _ h => h) (Or.inl ⟨by rfl, fun w hS => by go_simp⟩) hHeld ?_
  simp only [Act.put, List.getElem_toArray, List.getElem_cons_zero, List.getElem_cons_succ, List.setIfInBounds_toArray, List.set_cons_zero, List.set_cons_succ]
  refine wpAnyL_take (i := 2) (v := .pointer (some ⟨gv, 2, none⟩)) rfl (by kernel_rfl) (by kernel_rfl) (by kernel_rfl) (by kernel_rfl) (by kernel_rfl) (fun _ _ _ h => h) (Or.inl ⟨by rfl, fun w hS => by go_simp⟩) hHeld ?_
  simp only [Act.put, List.getElem_toArray, List.getElem_cons_zero, List.getElem_cons_succ, List.setIfInBounds_toArray, List.set_cons_zero, List.set_cons_succ]
  refine wpAnyL_take (i := 3) (v := .map (some b)) rfl (by kernel_rfl) (by kernel_rfl) (by kernel_rfl) (by kernel_rfl) (by kernel_rfl) (fun _ _ _ h => h) (Or.inl ⟨by rfl, fun w hS => by (have c2 := HC2.out _ hS; go_simp)⟩) hHeld ?_
  simp only [Act.put, List.getElem_toArray, List.getElem_cons_zero, List.getElem_cons_succ, List.setIfInBounds_toArray, List.set_cons_zero, List.set_cons_succ]
  refine wpAnyL_take (i := 4) (v := .string s) rfl (by kernel_rfl) (by kernel_rfl) (by kernel_rfl) (by kernel_rfl) (by kernel_rfl) (fun _ _ _ h => h) (Or.inl ⟨by rfl, fun w hS => by go_simp⟩) hHeld ?_
  simp only [Act.put, List.getElem_toArray, List.getElem_cons_zero, List.getElem_cons_succ, List.setIfInBounds_toArray, List.set_cons_zero, List.set_cons_succ]
  refine wpAnyL_take (i := 6) (v := .int .i64 0) rfl (by kernel_rfl) (by kernel_rfl) (by kernel_rfl) (by kernel_rfl) (by kernel_rfl) (fun _ _ _ h => h) (Or.inl ⟨by rfl, fun w hS => by go_simp⟩) hHeld ?_
  simp only [Act.put, List.getElem_toArray, List.getElem_cons_zero, List.getElem_cons_succ, List.setIfInBounds_toArray, List.set_cons_zero, List.set_cons_succ]
  refine wpAnyL_one (i := 5) rfl (by kernel_rfl) (fun KQ hK => ?_)
  go_simp
  refine (HCL.out _).mono ?_
  rintro e x1 ⟨rfl, a1⟩
  have d1 := grow_trans HD0.out a1
  obtain ⟨x2, r2, v2, g2⟩ := HPU.out _ d1
  refine hK.out _ _ (d1) (fun hHeld => ?_)
  clear hK KQ
  refine wpAnyL_last rfl (by kernel_rfl) (by kernel_rfl) (fun KQ hK => ?_)
  refine step_mup14 _ x2 rfl 68 _ _ _ rfl (.map (some b)) (.string s) (.int .i64 0) rfl rfl rfl r2 ?_
  refine hK.out _ _ ?_
  clear hK KQ
  go_wp2
  go_ret
  exact ⟨rfl, v2, g2⟩

set_option maxHeartbeats 2000000 in
theorem vset_hold (h : Hv w1 w X gv b g gs R ms cs fr) {s : ByteArray} (hs : s.size ≤ 20) (hl : ms.length ≤ 1000) (i : Nat) (hc : 0 < cc cs i) (hm : cc cs i < 1073741824) : Calls Tryz.prog 66 #[.pointer (some ⟨gv, 0, none⟩), .string s, .int .i64 ((i : Int) + 1)] w fun e w' => e = .returned (.int .i64 0) ∧ Hv w1 w' X gv b g gs R (nmPut ms s.data.toList (i + 1)) (moreC cs i) fr ∧ Kx X b w w' := by
  have hi : i < 65536 := by
    have h1 := cc_lt hc
    obtain ⟨S, hS, _⟩ := h.hs
    have h2 := hS.inv.len
    have h3 := hS.inv.r2
    rw [List.length_map] at h2
    omega
  have c1 := h.c1
  have HHO : Hid (Calls Tryz.prog 96 #[.pointer (some ⟨g, 0, none⟩), .int .i64 ((i : Int) + 1)] w fun e w' => e = .returned (.int .i64 0) ∧ Hv w1 w' X gv b g gs R ms (moreC cs i) fr ∧ Kx X b w w') := by
    obtain ⟨S, hS, _, hk⟩ := h.hs
    refine (hs_hold hS i hc hm).mono ?_
    rintro e w' ⟨rfl, h'⟩
    obtain ⟨k1, k2⟩ := hk _ _ _ h'
    exact ⟨rfl, k1, k2 b⟩
  have HCL : Hid (∀ w', Calls Tryz.prog 100 #[.string s] w' fun e w'' => e = .returned (.string s) ∧ Below w'.heap.size w' w'') := fun w' => clone14_any s w' (by omega)
  have HPX : Hid (∀ wk, Hv w1 wk X gv b g gs R ms (moreC cs i) fr → ∀ w', Below wk.heap.size wk w' → ∃ w'', (Instr.mapUpdate 68 (.map (some b)) (.string s) (.int .i64 ((i : Int) + 1))).run Tryz.prog w' = .ok () w'' ∧ Hv w1 w'' X gv b g gs R (nmPut ms s.data.toList (i + 1)) (moreC cs i) fr ∧ Kx X b wk w'') := fun wk hk => vset_end hk hs (i + 1) (by omega) hl
  clear h hc hm
  obtain ⟨q, hq⟩ : ∃ q : Int, q = (i : Int) + 1 := ⟨_, rfl⟩
  have hq0 : (q == 0) = false := by simp; omega
  rw [← hq] at HHO HPX
  rw [← hq]
  clear hq hi
  go_enter Tryz.func66, Tryz.ntmps66
  go_wp2_with (go_at_call 96; refine HHO.out.mono ?_; rintro e wk ⟨rfl, hk, kk⟩; have HK := hidden hk; have HKK := hidden kk; clear hk kk HHO)
  have HC2 : Hid (∀ w', Below wk.heap.size wk w' → w'.cell? ⟨gv, 2, none⟩ = some (.map (some b))) := fun w' hb => (HK.out.grow hb).c2
  have HPU := hidden (HPX.out wk HK.out)
  have HD0 : Hid (Below wk.heap.size wk (wk.drewN 1)) := below_drewN (Below.refl _ _) 1
  refine wp_region_last (S := fun w' => Below wk.heap.size wk w') 7 (by kernel_rfl) (HD0.out) (fun hHeld => ?_)
  refine wpAnyL_take (i := 0) (v := .pointer (some ⟨gv, 0, none⟩)) rfl (by kernel_rfl) (by kernel_rfl) (by kernel_rfl) (by kernel_rfl) (by kernel_rfl) (fun _ _ _ h => h) (Or.inl ⟨by rfl, fun w hS => by go_simp⟩) hHeld ?_
  simp only [Act.put, List.getElem_toArray, List.getElem_cons_zero, List.setIfInBounds_toArray, List.set_cons_zero, List.set_cons_succ]
  refine wpAnyL_take (i := 1) (v := .pointer (some ⟨gv, 0, none⟩)) rfl (by kernel_rfl) (by kernel_rfl) (by kernel_rfl) (by kernel_rfl) (by kernel_rfl) (fun _ _ _ h => h) (Or.inl ⟨by rfl, fun w hS => by go_simp⟩) hHeld ?_
  simp only [Act.put, List.getElem_toArray, List.getElem_cons_zero, List.getElem_cons_succ, List.setIfInBounds_toArray, List.set_cons_zero, List.set_cons_succ]
  refine wpAnyL_take (i := 2) (v := .pointer (some ⟨gv, 2, none⟩)) rfl (by kernel_rfl) (by kernel_rfl) (by kernel_rfl) (by kernel_rfl) (by kernel_rfl) (fun _ _ _ h => h) (Or.inl ⟨by rfl, fun w hS => by go_simp⟩) hHeld ?_
  simp only [Act.put, List.getElem_toArray, List.getElem_cons_zero, List.getElem_cons_succ, List.setIfInBounds_toArray, List.set_cons_zero, List.set_cons_succ]
  refine wpAnyL_take (i := 3) (v := .map (some b)) rfl (by kernel_rfl) (by kernel_rfl) (by kernel_rfl) (by kernel_rfl) (by kernel_rfl) (fun _ _ _ h => h) (Or.inl ⟨by rfl, fun w hS => by (have c2 := HC2.out _ hS; go_simp)⟩) hHeld ?_
  simp only [Act.put, List.getElem_toArray, List.getElem_cons_zero, List.getElem_cons_succ, List.setIfInBounds_toArray, List.set_cons_zero, List.set_cons_succ]
  refine wpAnyL_take (i := 4) (v := .string s) rfl (by kernel_rfl) (by kernel_rfl) (by kernel_rfl) (by kernel_rfl) (by kernel_rfl) (fun _ _ _ h => h) (Or.inl ⟨by rfl, fun w hS => by go_simp⟩) hHeld ?_
  simp only [Act.put, List.getElem_toArray, List.getElem_cons_zero, List.getElem_cons_succ, List.setIfInBounds_toArray, List.set_cons_zero, List.set_cons_succ]
  refine wpAnyL_take (i := 6) (v := .int .i64 q) rfl (by kernel_rfl) (by kernel_rfl) (by kernel_rfl) (by kernel_rfl) (by kernel_rfl) (fun _ _ _ h => h) (Or.inl ⟨by rfl, fun w hS => by go_simp⟩) hHeld ?_
  simp only [Act.put, List.getElem_toArray, List.getElem_cons_zero, List.getElem_cons_succ, List.setIfInBounds_toArray, List.set_cons_zero, List.set_cons_succ]
  refine wpAnyL_one (i := 5) rfl (by kernel_rfl) (fun KQ hK => ?_)
  go_simp
  refine (HCL.out _).mono ?_
  rintro e x1 ⟨rfl, a1⟩
  have d1 := grow_trans HD0.out a1
  obtain ⟨x2, r2, v2, g2⟩ := HPU.out _ d1
  refine hK.out _ _ (d1) (fun hHeld => ?_)
  clear hK KQ
  refine wpAnyL_last rfl (by kernel_rfl) (by kernel_rfl) (fun KQ hK => ?_)
  refine step_mup14 _ x2 rfl 68 _ _ _ rfl (.map (some b)) (.string s) (.int .i64 q) rfl rfl rfl r2 ?_
  refine hK.out _ _ ?_
  clear hK KQ
  go_wp2
  go_ret
  exact ⟨rfl, v2, HKK.out.trans g2⟩

set_option maxHeartbeats 400000 in
theorem vgo_zero (h : Hv w1 w X gv b g gs R ms cs fr) : Calls Tryz.prog 76 #[.pointer (some ⟨gv, 0, none⟩), .int .i64 0] w fun e w' => e = .returned (.int .i64 0) ∧ Hv w1 w' X gv b g gs R ms cs fr ∧ Kx X b w w' := by
  have c1 := h.c1
  have HD : Hid (Calls Tryz.prog 32 #[.pointer (some ⟨g, 0, none⟩), .int .i64 0] w fun e w' => e = .returned (.tuple #[.int .i64 0, .int .i64 7]) ∧ Hv w1 w' X gv b g gs R ms cs fr ∧ Kx X b w w') := by
    obtain ⟨S, hS, _, hk⟩ := h.hs
    refine (hs_drop_miss hS 0 (by simp [cot])).mono ?_
    rintro e w' ⟨rfl, h'⟩
    obtain ⟨k1, k2⟩ := hk _ _ _ h'
    exact ⟨rfl, k1, k2 b⟩
  clear h
  go_enter Tryz.func76, Tryz.ntmps76
  go_wp2_with (go_at_call 32; refine HD.out.mono ?_; rintro e w2 ⟨rfl, h2, k2⟩)
  go_ret
  exact ⟨rfl, h2, k2⟩

set_option maxHeartbeats 400000 in
theorem vgo_ok (h : Hv w1 w X gv b g gs R ms cs fr) (i : Nat) (ho : 0 < own cs [] i) : Calls Tryz.prog 76 #[.pointer (some ⟨gv, 0, none⟩), .int .i64 ((i + 1 : Nat) : Int)] w fun e w' => ∃ cs' fr' n, Run cs fr [i + 1] cs' fr' n ∧ Step cs [i + 1] cs' [] n ∧ e = .returned (.int .i64 (n : Int)) ∧ Hv w1 w' X gv b g gs R ms cs' fr' ∧ Kx X b w w' := by
  have c1 := h.c1
  have HD : Hid (Calls Tryz.prog 32 #[.pointer (some ⟨g, 0, none⟩), .int .i64 ((i + 1 : Nat) : Int)] w fun e w' => ∃ cs' fr' n, Run cs fr [i + 1] cs' fr' n ∧ Step cs [i + 1] cs' [] n ∧ e = .returned (.tuple #[.int .i64 (n : Int), .int .i64 0]) ∧ Hv w1 w' X gv b g gs R ms cs' fr' ∧ Kx X b w w') := by
    obtain ⟨S, hS, _, hk⟩ := h.hs
    refine (hs_drop hS i ho).mono ?_
    rintro e w' ⟨cs', fr', n, r, st, rfl, h'⟩
    obtain ⟨k1, k2⟩ := hk _ _ _ h'
    exact ⟨cs', fr', n, r, st, rfl, k1, k2 b⟩
  clear h
  generalize ((i + 1 : Nat) : Int) = q at HD ⊢
  go_enter Tryz.func76, Tryz.ntmps76
  go_wp2_with (go_at_call 32; refine HD.out.mono ?_; rintro e w2 ⟨cs', fr', n, r, st, rfl, h2, k2⟩)
  go_ret
  exact ⟨cs', fr', n, r, st, rfl, h2, k2⟩
end

end Go.Proofs.YtlhnodinhmdjnaaGreatDoor
