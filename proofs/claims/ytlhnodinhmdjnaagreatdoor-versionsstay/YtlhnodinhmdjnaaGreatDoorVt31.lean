/- slices.Sorted(maps.Keys(m)) at a map from texts to numbers, as a contract. -/
import Derived.Test.YtlhnodinhmdjnaaGreatDoorVt30
import Derived.Test.YtlhnodinhmdjnaaGreatDoorVt18
import Derived.Test.YtlhnodinhmdjnaaGreatDoorVt01
import Derived.Test.YtlhnodinhmdjnaaGreatDoorVt02
import Derived.Test.YtlhnodinhmdjnaaGreatDoorVt07
import Derived.Sort.EncStr
namespace Go.Proofs.YtlhnodinhmdjnaaGreatDoor
set_option maxRecDepth 20000
open Go.RowKit Go.Maps Go.Sort Go.Shelf

theorem sorts14 (m : Nat) : AnyZ.SortsIn Tryz.prog sortedL_ren Fence.wide m :=
  ⟨fun blk off cap ss W hH hblk hsz => callsIn_wide.2 (AnyM.slices_Sort_string sortL blk off cap ss W hH hblk hsz),
   fun p cap W => callsIn_wide.2 (AnyM.slices_Sort_string_none sortL p cap W)⟩

theorem keys14_any (mb : Option Nat) (W : World) : CallsIn Fence.wide 5 Tryz.prog 73 #[.map mb] W fun e w' => e = .returned (.func (.func 105) #[] #[.pointer (some ⟨W.heap.size, 0, none⟩)]) ∧ w' = W.alloc (.cells #[.map mb] 68) :=
  AnyZ.keys_in keysL Fence.wide 5 trivial rfl mb W

set_option maxHeartbeats 1000000 in
theorem sorted14_any {H : Type} (b nn : Nat) (D0 : DataW H) (R : Value → Option (DataW H × List MemPlace)) (w : World) (hown : w.ownsMap Tryz.prog 9 R b nn D0) (hmax : Maps.size D0 ≤ maxLen) (hbytes : Maps.size D0 * 16 ≤ 140737488355328) :
    CallsIn Fence.wide 5 Tryz.prog 72 #[.func (.func 105) #[] #[.pointer (some ⟨w.heap.size, 0, none⟩)]] (w.alloc (.cells #[.map (some b)] 68)) fun e w' => ∃ (v : Value) (ss : List (List UInt8)), e = .returned v ∧ ss.Perm (strKeys D0) ∧
      w'.ownsRow (w.alloc (.cells #[.map (some b)] 68)).heap.size 9 1 v ss.length ((ss.mergeSort (fun x y => decide (x ≤ y))).map encStr) ∧ (v = .slice none 0 0 ↔ ss = []) ∧ Below (w.alloc (.cells #[.map (some b)] 68)).heap.size (w.alloc (.cells #[.map (some b)] 68)) w' := by
  have hbl := hown.lt
  have hseq : SeqGives Fence.wide 2 Tryz.prog 105 #[.pointer (some ⟨w.heap.size, 0, none⟩)] encStr (fun ss => ss.Perm (strKeys D0)) (Maps.size D0) (w.alloc (.cells #[.map (some b)] 68)) :=
    AnyZ.keys_gives (ρ := keysL_ren) { keysL with } Fence.wide _ trivial rfl (by omega) w.heap.size b nn D0 _ (by simp) (by simp) (by
      obtain ⟨es, clock, hb, Ft, hs, hD⟩ := hown
      exact ⟨es, clock, (Below.heap_alloc _ _ b hbl).trans hb, Ft, hs, hD⟩)
  exact AnyZ.sorted_in sortedL Fence.wide 5 trivial trivial trivial trivial rfl (by omega) (sorts14 _) (enters_of Tryz.func104 (by kernel_rfl) rfl) 105 #[.pointer (some ⟨w.heap.size, 0, none⟩)] trivial (enters_of Tryz.func105 (by kernel_rfl) rfl) _ _ hmax hbytes _ hseq

end Go.Proofs.YtlhnodinhmdjnaaGreatDoor

/- The statements' SameTexts. -/
namespace Go.Proofs.YtlhnodinhmdjnaaGreatDoor
set_option maxRecDepth 20000
open Go.RowKit

/-- A text of no bytes. -/
def tx0 : ByteArray := ⟨#[]⟩
/-- v reads as these texts. -/
def Tx (w : World) (v : Value) (ss : List ByteArray) : Prop := ∃ a c, v = .slice a ss.length c ∧ (0 < ss.length → ∃ g o, a = some ⟨g, o, none⟩ ∧ ∀ i, i < ss.length → w.cell? ⟨g, o + i, none⟩ = some (.string (ss[i]?.getD tx0)))
theorem Tx.grow {w w' : World} {v : Value} {ss : List ByteArray} (h : Tx w v ss) (hb : Below w.heap.size w w') : Tx w' v ss := by
  obtain ⟨a, c, e, h⟩ := h
  refine ⟨a, c, e, fun hp => ?_⟩
  obtain ⟨g, o, e1, h1⟩ := h hp
  exact ⟨g, o, e1, fun i hi => below_cell hb (h1 i hi)⟩
theorem tx_own {w : World} {base : Nat} {v : Value} {ss : List (List UInt8)} (h : w.ownsRow base 9 1 v ss.length (ss.map encStr)) : Tx w v (ss.map fun s => ⟨s.toArray⟩) := by
  rcases h.2 with ⟨rfl, h0⟩ | ⟨g, cap, cur, rfl, _⟩
  · exact ⟨none, 0, by simp [h0], fun hp => by simp at hp; omega⟩
  · refine ⟨some ⟨g, 0, none⟩, cap, by simp, fun hp => ⟨g, 0, rfl, fun i hi => ?_⟩⟩
    simp only [List.length_map] at hi
    rw [Nat.zero_add, h.cellAt i (by omega)]
    simp [hi]
theorem take_snocT (l : List ByteArray) (k : Nat) (h : k < l.length) : l.take (k + 1) = l.take k ++ [l[k]?.getD tx0] := by
  rw [List.take_add_one, List.getElem?_eq_getElem h]
  rfl
theorem tx_beq {x y : ByteArray} (h : x ≠ y) : (x.toList == y.toList) = false := by
  rw [beq_eq_false_iff_ne]
  intro e
  rw [ByteArray.toList_eq, ByteArray.toList_eq] at e
  exact h (ByteArray.ext (Array.toList_inj.1 e))

set_option maxHeartbeats 1000000 in
theorem sameTexts_any (x y : Value) (xs ys : List ByteArray) (w : World) (hx : Tx w x xs) (hy : Tx w y ys) (hl2 : ys.length ≤ 1048576) : Calls Tryz.prog 37 #[x, y] w fun e w' => e = .returned (.bool (decide (xs = ys))) ∧ Below w.heap.size w w' := by
  obtain ⟨xa, xc, rfl, hx⟩ := hx
  obtain ⟨ya, yc, rfl, hy⟩ := hy
  by_cases hlen : xs.length = ys.length
  · have HX := hidden hx
    have HY := hidden hy
    rw [hlen]
    rw [hlen] at HX
    obtain ⟨n, hn⟩ : ∃ n, n = ys.length := ⟨_, rfl⟩
    rw [← hn] at HX HY hl2 ⊢
    have HN := hidden hn
    have HNX : Hid (xs.length = n) := by show _ = _; omega
    clear hx hy hlen hn
    go_enter Tryz.func37, Tryz.ntmps37
    go_wp2_with fail
    go_loopw [5] (fun i wr => ∃ k : Nat, k ≤ n ∧ i = .int .i64 k ∧ Hid (xs.take k = ys.take k) ∧ Below w.heap.size w wr) (fun i _ => n - (intOf i).toNat)
    case atStart => exact ⟨0, by omega, rfl, by show _ = _; simp, Below.refl _ _⟩
    case round =>
      obtain ⟨k, hk, rfl, hE, hbl⟩ := hrel
      have hwk : wrap64 ((k : Int) + 1) = ((k + 1 : Nat) : Int) := by rw [Go.IntWalk.wrap64_in _ (by omega)]; rfl
      by_cases hlt : k < n
      · have i1 : (k : Int) < (n : Int) := by omega
        have i0 : (0 : Int) ≤ (k : Int) := by omega
        obtain ⟨gx, ox, rfl, cx⟩ := HX.out (by omega)
        obtain ⟨gy, oy, rfl, cy⟩ := HY.out (by omega)
        have c1 := below_cell hbl (cx k hlt)
        have c2 := below_cell hbl (cy k hlt)
        obtain ⟨zx, hzx⟩ : ∃ z, z = xs[k]?.getD tx0 := ⟨_, rfl⟩
        obtain ⟨zy, hzy⟩ : ∃ z, z = ys[k]?.getD tx0 := ⟨_, rfl⟩
        rw [← hzx] at c1
        rw [← hzy] at c2
        have HZX := hidden hzx
        have HZY := hidden hzy
        clear cx cy hzx hzy
        have hxk : xs.take (k + 1) = xs.take k ++ [zx] := by rw [take_snocT xs k (by have := HNX.out; omega), HZX.out]
        have hyk : ys.take (k + 1) = ys.take k ++ [zy] := by rw [take_snocT ys k (by have := HN.out; omega), HZY.out]
        by_cases heq : zx = zy
        · subst heq
          have HT : Hid (xs.take (k + 1) = ys.take (k + 1)) := by show _ = _; rw [hxk, hyk, hE.out]
          clear hxk hyk
          go_wp2_with fail
          go_quiet (fail)
          go_wp2
          exact ⟨⟨k + 1, by omega, by go_num, HT, below_drewN hbl _⟩, by simp [intOf]; omega⟩
        · have HT : Hid (xs ≠ ys) := by
            show xs ≠ ys
            intro e
            apply heq
            rw [HZX.out, HZY.out, e]
          have hne : (zx.toList == zy.toList) = false := tx_beq heq
          clear hxk hyk heq
          go_wp2_with fail
          go_quiet (fail)
          go_wp2
          go_ret
          exact ⟨by rw [decide_eq_false HT.out]; rfl, below_drewN hbl _⟩
      · obtain rfl : k = n := by omega
        have HT : Hid (xs = ys) := by
          have := hE.out
          rw [List.take_of_length_le (by have := HNX.out; omega), List.take_of_length_le (by have := HN.out; omega)] at this
          exact this
        go_wp2
        go_ret
        exact ⟨by rw [decide_eq_true HT.out]; rfl, hbl⟩
  · have HT : Hid (xs ≠ ys) := fun e => hlen (by rw [e])
    have hne : ((xs.length : Int) == (ys.length : Int)) = false := by simp; omega
    clear hx hy
    go_enter Tryz.func37, Tryz.ntmps37
    go_wp2
    go_ret
    exact ⟨by rw [decide_eq_false HT.out]; rfl, Below.refl _ _⟩

end Go.Proofs.YtlhnodinhmdjnaaGreatDoor

/- versions' made, Store, has, Len, Root, Names, New, as contracts. -/
namespace Go.Proofs.YtlhnodinhmdjnaaGreatDoor
set_option maxRecDepth 20000
open Go.RowKit

set_option maxHeartbeats 400000 in
theorem vmade_no (v : Value) (w : World) (h : NoS w v) : Calls Tryz.prog 64 #[v] w fun e w' => e = .returned (.bool false) ∧ w' = w := by
  have hq := fun a => eql_none (P := Tryz.prog) w a Tryz.underlying64
  rcases h with rfl | ⟨g, rfl, hc⟩
  all_goals
    go_enter Tryz.func64, Tryz.ntmps64
    go_wp2
    go_ret
    exact ⟨rfl, rfl⟩

set_option maxHeartbeats 400000 in
theorem vmade_ok (g : Nat) (w : World) (hc : w.cell? ⟨g, 0, none⟩ = some (.pointer (some ⟨g, 0, none⟩))) : Calls Tryz.prog 64 #[.pointer (some ⟨g, 0, none⟩)] w fun e w' => e = .returned (.bool true) ∧ w' = w := by
  obtain ⟨j, hj⟩ : ∃ j, Tryz.prog.info? 70 = some j := ⟨_, rfl⟩
  have hq := fun a => run_eql_ptr_same (P := Tryz.prog) w a Tryz.underlying64 hj
  clear hj
  go_enter Tryz.func64, Tryz.ntmps64
  go_wp2
  go_ret
  exact ⟨rfl, rfl⟩

set_option maxHeartbeats 400000 in
theorem vstore_no (v : Value) (w : World) (h : NoS w v) : Calls Tryz.prog 56 #[v] w fun e w' => e = .returned (.pointer none) ∧ w' = w := by
  have HM := hidden (vmade_no v w h)
  clear h
  go_enter Tryz.func56, Tryz.ntmps56
  go_wp2_with (go_at_call 64; refine HM.out.mono ?_; rintro e w' ⟨rfl, hx⟩; rw [hx]; clear hx w')
  go_ret
  exact ⟨rfl, rfl⟩

set_option maxHeartbeats 400000 in
theorem vlen_no (v : Value) (w : World) (h : NoS w v) : Calls Tryz.prog 35 #[v] w fun e w' => e = .returned (.int .i64 0) ∧ w' = w := by
  have HM := hidden (vmade_no v w h)
  clear h
  go_enter Tryz.func35, Tryz.ntmps35
  go_wp2_with (go_at_call 64; refine HM.out.mono ?_; rintro e w' ⟨rfl, hx⟩; rw [hx]; clear hx w')
  go_ret
  exact ⟨rfl, rfl⟩

set_option maxHeartbeats 400000 in
theorem vroot_no (v : Value) (s : ByteArray) (w : World) (h : NoS w v) : Calls Tryz.prog 31 #[v, .string s] w fun e w' => e = .returned (.tuple #[.int .i64 0, .int .i64 1]) ∧ w' = w := by
  have HM := hidden (vmade_no v w h)
  clear h
  go_enter Tryz.func31, Tryz.ntmps31
  go_wp2_with (go_at_call 64; refine HM.out.mono ?_; rintro e w' ⟨rfl, hx⟩; rw [hx]; clear hx w')
  go_ret2
  exact ⟨rfl, rfl⟩

set_option maxHeartbeats 400000 in
theorem vnames_no (v : Value) (w : World) (h : NoS w v) : Calls Tryz.prog 30 #[v] w fun e w' => e = .returned (.slice none 0 0) ∧ w' = w := by
  have HM := hidden (vmade_no v w h)
  clear h
  go_enter Tryz.func30, Tryz.ntmps30
  go_wp2_with (go_at_call 64; refine HM.out.mono ?_; rintro e w' ⟨rfl, hx⟩; rw [hx]; clear hx w')
  go_ret
  exact ⟨rfl, rfl⟩

set_option maxHeartbeats 400000 in
theorem vroots_no (v : Value) (w : World) (h : NoS w v) : Calls Tryz.prog 39 #[v] w fun e w' => e = .returned (.slice none 0 0) ∧ w' = w := by
  have HM := hidden (vnames_no v w h)
  clear h
  go_enter Tryz.func39, Tryz.ntmps39
  go_wp2_with (go_at_call 30; refine HM.out.mono ?_; rintro e w' ⟨rfl, hx⟩; rw [hx]; clear hx w')
  go_loopw [3, 9] (fun l i wr => l = .slice none 0 0 ∧ i = .int .i64 0 ∧ wr = w) (fun _ _ _ => 0)
  case atStart => exact ⟨rfl, rfl, rfl⟩
  case round =>
    obtain ⟨rfl, rfl, rfl⟩ := hrel
    go_wp2
    go_ret
    exact ⟨rfl, rfl⟩

set_option maxHeartbeats 400000 in
theorem vdrop_no (v : Value) (s : ByteArray) (w : World) (h : NoS w v) : Calls Tryz.prog 33 #[v, .string s] w fun e w' => e = .returned (.tuple #[.int .i64 0, .int .i64 1]) ∧ w' = w := by
  have HM := hidden (vroot_no v s w h)
  clear h
  go_enter Tryz.func33, Tryz.ntmps33
  go_wp2_with (go_at_call 31; refine HM.out.mono ?_; rintro e w' ⟨rfl, hx⟩; rw [hx]; clear hx w')
  go_ret2
  exact ⟨rfl, rfl⟩

set_option maxHeartbeats 1000000 in
theorem vadd_no (v : Value) (s : ByteArray) (q : Int) (w : World) (h : NoS w v) : Calls Tryz.prog 27 #[v, .string s, .int .i64 q] w fun e w' => e = .returned (.int .i64 1) ∧ Below w.heap.size w w' := by
  have HM : Hid (∀ w', Below w.heap.size w w' → Calls Tryz.prog 64 #[v] w' fun e w'' => e = .returned (.bool false) ∧ w'' = w') := fun w' hb => vmade_no v w' (h.grow hb)
  have HS := hidden (vstore_no v w h)
  have HR := hidden (root_any (vw_no (w := w) (.inl rfl)) q)
  obtain ⟨z, hz⟩ : ∃ z, z = vRt false 0 zc q := ⟨_, rfl⟩
  rw [← hz] at HR
  clear h hz
  go_enter Tryz.func27, Tryz.ntmps27
  go_wp2_with (first
    | (go_at_call 56; refine HS.out.mono ?_; rintro e w' ⟨rfl, hx⟩; rw [hx]; clear hx w')
    | (go_at_call 40; refine HR.out.mono ?_; rintro e w1 ⟨rfl, b1⟩)
    | (go_at_call 64; refine (HM.out _ b1).mono ?_; rintro e w' ⟨rfl, hx⟩; rw [hx]; clear hx w'))
  go_ret
  exact ⟨rfl, b1⟩

set_option maxHeartbeats 1000000 in
theorem vmove_no (v : Value) (s : ByteArray) (q : Int) (w : World) (h : NoS w v) : Calls Tryz.prog 55 #[v, .string s, .int .i64 q] w fun e w' => e = .returned (.tuple #[.int .i64 0, .int .i64 1]) ∧ Below w.heap.size w w' := by
  have HM := hidden (vroot_no v s w h)
  have HS := hidden (vstore_no v w h)
  have HR := hidden (root_any (vw_no (w := w) (.inl rfl)) q)
  obtain ⟨z, hz⟩ : ∃ z, z = vRt false 0 zc q := ⟨_, rfl⟩
  rw [← hz] at HR
  clear h hz
  go_enter Tryz.func55, Tryz.ntmps55
  go_wp2_with (first
    | (go_at_call 31; refine HM.out.mono ?_; rintro e w' ⟨rfl, hx⟩; rw [hx]; clear hx w')
    | (go_at_call 56; refine HS.out.mono ?_; rintro e w' ⟨rfl, hx⟩; rw [hx]; clear hx w')
    | (go_at_call 40; refine HR.out.mono ?_; rintro e w1 ⟨rfl, b1⟩))
  go_ret2
  exact ⟨rfl, b1⟩

end Go.Proofs.YtlhnodinhmdjnaaGreatDoor
