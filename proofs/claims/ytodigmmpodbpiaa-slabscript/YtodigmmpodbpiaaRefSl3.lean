/- The rest of the document's slab, as contracts: New, Slots, Len; and the statements' SameInts. -/
import Derived.Test.YtodigmmpodbpiaaRefSl2
namespace Go.Proofs.Ytodigmmpodbpiaa
set_option maxRecDepth 20000
open Go.RowKit

set_option maxHeartbeats 400000 in
theorem rnew_bad (room : Int) (w : World) (h : ¬ (1 ≤ room ∧ room ≤ 65536)) : Calls Try.prog 8 #[.int .i64 room] w fun e w' => e = .returned (.tuple #[.pointer none, .int .i64 2]) ∧ w' = w := by
  by_cases h1 : room < 1
  · go_enter Try.func8, Try.ntmps8
    go_wp2
    go_ret2
    exact ⟨rfl, rfl⟩
  · have h2 : 65536 < room := by omega
    clear h
    go_enter Try.func8, Try.ntmps8
    go_wp2
    go_ret2
    exact ⟨rfl, rfl⟩

set_option maxHeartbeats 400000 in
theorem rnew_ok (room : Nat) (w : World) (h1 : 1 ≤ room) (h2 : room ≤ 65536) : Calls Try.prog 8 #[.int .i64 (room : Int)] w fun e w' => ∃ g, e = .returned (.tuple #[.pointer (some ⟨g, 0, none⟩), .int .i64 0]) ∧ w.heap.size ≤ g ∧ Rf w' g (.slice none 0 0) (.slice none 0 0) (.slice none 0 0) room [] [] [] ∧ Below w.heap.size w w' := by
  have i1 : ¬ (room : Int) < 1 := by omega
  have i2 : ¬ 65536 < (room : Int) := by omega
  go_enter Try.func8, Try.ntmps8
  go_wp2
  go_ret2
  exact ⟨w.heap.size, rfl, Nat.le_refl _, ⟨⟨Blk.new _ _ _, World.ownsRow_nil _ _ _ _, World.ownsRow_nil _ _ _ _, World.ownsRow_nil _ _ _ _, fun k hk => (by cases hk), fun k hk => (by cases hk), fun k hk => (by cases hk)⟩, rfl, by simp⟩, grow_alloc _ _⟩

/-- The slots with a count among the first k. -/
def cnK (cs : List Nat) (k : Nat) : List Nat := ((List.range k).filter fun i => decide (0 < cn cs i)).map (· + 1)
theorem cnK_yes (cs : List Nat) (k : Nat) (h : 0 < cn cs k) : cnK cs (k + 1) = cnK cs k ++ [k + 1] := by simp [cnK, List.range_succ, List.filter_append, h]
theorem cnK_no (cs : List Nat) (k : Nat) (h : ¬ 0 < cn cs k) : cnK cs (k + 1) = cnK cs k := by simp [cnK, List.range_succ, List.filter_append, h]
theorem cnK_le (cs : List Nat) (k : Nat) : (cnK cs k).length ≤ k := by
  have := List.length_filter_le (fun i => decide (0 < cn cs i)) (List.range k)
  simpa [cnK] using this
theorem cnK_map (ps : List Pl) : cnK (ps.map (·.1)) (ps.map (·.1)).length = slotsOf ps := by
  unfold cnK slotsOf slotsK
  rw [List.length_map]
  congr 1
  apply List.filter_congr
  intro i _
  rw [cn_map]

set_option maxHeartbeats 2000000 in
theorem rslots_ok (g : Nat) (vt vc vf : Value) (room : Nat) (ts : List Int) (cs fr : List Nat) (w : World) (h : Rf w g vt vc vf room ts cs fr) : Calls Try.prog 38 #[.pointer (some ⟨g, 0, none⟩)] w fun e w' => ∃ a c, e = .returned (.slice a (cnK cs cs.length).length c) ∧ w'.ownsRow w.heap.size 3 1 (.slice a (cnK cs cs.length).length c) (cnK cs cs.length).length (nats (cnK cs cs.length)) ∧ Below w.heap.size w w' := by
  have HS := hidden h
  have hp := h.few
  clear h
  go_enter Try.func38, Try.ntmps38
  go_wp2_with fail
  go_loopw [3, 4] (fun v i wr => ∃ (k : Nat) (a : Option Addr) (c : Nat), k ≤ cs.length ∧ i = .int .i64 k ∧ v = .slice a (cnK cs k).length c ∧ Hid (wr.ownsRow w.heap.size 3 1 (.slice a (cnK cs k).length c) (cnK cs k).length (nats (cnK cs k))) ∧ Below w.heap.size w wr) (fun _ i _ => cs.length - (intOf i).toNat)
  case atStart => exact ⟨0, none, 0, by omega, rfl, rfl, World.ownsRow_nil _ _ _ _, Below.refl _ _⟩
  case round =>
    obtain ⟨k, a, c, hk, rfl, rfl, hO, hbl⟩ := hrel
    have hle := cnK_le cs k
    have HS1 := hidden (HS.out.mod (Mod.of_below hbl []) (fun _ _ h => by cases h))
    have c0 := HS1.out.c0
    have c3 := HS1.out.c3
    obtain ⟨pa, pc, rfl⟩ := lst_slice HS1.out.cts
    have hwk : wrap64 ((k : Int) + 1) = ((k + 1 : Nat) : Int) := by rw [Go.IntWalk.wrap64_in _ (by omega)]; rfl
    by_cases hlt : k < cs.length
    · have i1 : (k : Int) < (cs.length : Int) := by omega
      have i0 : (0 : Int) ≤ (k : Int) := by omega
      obtain ⟨gt, ct, gc, cc, rfl, e2, k1, k2, k3, k4, _, _, _⟩ := HS1.out.at k hlt
      simp only [Value.slice.injEq, true_and] at e2
      obtain ⟨rfl, rfl⟩ := e2
      clear k1 k3 k4
      obtain ⟨q, hq0⟩ : ∃ q, q = cn cs k := ⟨_, rfl⟩
      rw [← hq0] at k2
      by_cases hc : 0 < cn cs k
      · have HY := hidden (cnK_yes cs k hc)
        have hq : (0 : Int) < (q : Int) := by omega
        clear hc hq0
        have HLE := hidden hle
        have HPP := hidden hp
        generalize hm : (cnK cs k).length = m at *
        have HM := hidden hm
        clear hm
        go_wp2_with (first
          | (go_at_call 54; refine (rnone_ok g _ c0).mono ?_; rintro e w' ⟨rfl, hx⟩; rw [hx]; clear hx w')
          | (at_builtin; refine wpList_appB _ rfl _ _ _ rfl w.heap.size 3 1 8 Try.underlying39 info_nat (by omega) _ m (nats (cnK cs k)) rfl (hO.out.alloc _) wr.heap.size [Value.int .i64 ((k : Int) + 1)] rfl (Blk.new _ _ _) rfl (by intro u hu; simp at hu; subst hu; rfl) (by have := HLE.out; have := HPP.out; simp only [maxLen]; omega) (by have := HLE.out; have := HPP.out; omega) (by have := hbl.size; simp; omega) ?_; intro a3 c3 w3 o3 g3))
        have e3 : (cnK cs (k + 1)).length = m + 1 := by rw [HY.out, List.length_append, HM.out]; rfl
        refine ⟨⟨k + 1, a3, c3, by omega, by go_num, by rw [e3], ?_, ?_⟩, by simp [intOf]; omega⟩
        · show World.ownsRow _ _ _ _ _ _ _
          rw [e3, HY.out, nats_snoc]
          exact o3
        · exact (hbl.trans ((grow_alloc wr _).mono hbl.size)).grown g3 (by have := hbl.size; simp; omega) (fun q hq => (hO.out.lt q hq).1)
      · have HY := hidden (cnK_no cs k hc)
        have hqz : q = 0 := by omega
        subst hqz
        clear hc hq0
        go_wp2_with (go_at_call 54; refine (rnone_ok g _ c0).mono ?_; rintro e w' ⟨rfl, hx⟩; rw [hx]; clear hx w')
        refine ⟨⟨k + 1, a, c, by omega, by go_num, by rw [HY.out], ?_, hbl⟩, by simp [intOf]; omega⟩
        rw [HY.out]
        exact hO
    · obtain rfl : k = cs.length := by omega
      have HO2 := hO
      clear hO
      generalize hm : (cnK cs cs.length).length = m at *
      have HM := hidden hm
      clear hm
      go_wp2_with (go_at_call 54; refine (rnone_ok g _ c0).mono ?_; rintro e w' ⟨rfl, hx⟩; rw [hx]; clear hx w')
      go_ret
      refine ⟨a, c, by rw [HM.out]; rfl, ?_, hbl⟩
      rw [HM.out]
      exact HO2.out

set_option maxHeartbeats 400000 in
theorem rlen_ok (g : Nat) (vt vc vf : Value) (room : Nat) (ts : List Int) (cs fr : List Nat) (w : World) (h : Rf w g vt vc vf room ts cs fr) : Calls Try.prog 40 #[.pointer (some ⟨g, 0, none⟩)] w fun e w' => e = .returned (.int .i64 ((cnK cs cs.length).length : Int)) ∧ Below w.heap.size w w' := by
  have HS := hidden h
  clear h
  go_enter Try.func40, Try.ntmps40
  go_wp2_with (go_at_call 38; refine (rslots_ok g vt vc vf room ts cs fr _ HS.out).mono ?_; rintro e w' ⟨a, c, rfl, o1, b1⟩)
  go_ret
  exact ⟨rfl, b1⟩

/-- v reads as these numbers. -/
def Ns (w : World) (v : Value) (ss : List Int) : Prop := ∃ a c, v = .slice a ss.length c ∧ (0 < ss.length → ∃ g o, a = some ⟨g, o, none⟩ ∧ ∀ i, i < ss.length → w.cell? ⟨g, o + i, none⟩ = some (.int .i64 (ss[i]?.getD 0)))
theorem Ns.grow {w w' : World} {v : Value} {ss : List Int} (h : Ns w v ss) (hb : Below w.heap.size w w') : Ns w' v ss := by
  obtain ⟨a, c, e, h⟩ := h
  refine ⟨a, c, e, fun hp => ?_⟩
  obtain ⟨g, o, e1, h1⟩ := h hp
  exact ⟨g, o, e1, fun i hi => below_cell hb (h1 i hi)⟩
theorem ns_own {w : World} {base : Nat} {v : Value} {ss : List Nat} (h : w.ownsRow base 3 1 v ss.length (nats ss)) : Ns w v (ss.map fun (s : Nat) => (s : Int)) := by
  rcases h.2 with ⟨rfl, h0⟩ | ⟨g, cap, cur, rfl, _⟩
  · exact ⟨none, 0, by simp [h0], fun hp => by simp at hp; omega⟩
  · refine ⟨some ⟨g, 0, none⟩, cap, by simp, fun hp => ⟨g, 0, rfl, fun i hi => ?_⟩⟩
    simp only [List.length_map] at hi
    rw [Nat.zero_add, h.cellAt i (by omega)]
    simp [nats, hi]

set_option maxHeartbeats 1000000 in
theorem sameInts_any (x y : Value) (xs ys : List Int) (w : World) (hx : Ns w x xs) (hy : Ns w y ys) (hl2 : ys.length ≤ 1048576) : Calls Try.prog 37 #[x, y] w fun e w' => e = .returned (.bool (decide (xs = ys))) ∧ Below w.heap.size w w' := by
  obtain ⟨xa, xc, rfl, hx⟩ := hx
  obtain ⟨ya, yc, rfl, hy⟩ := hy
  by_cases hlen : xs.length = ys.length
  · have HX := hidden hx
    have HY := hidden hy
    rw [hlen]
    rw [hlen] at HX
    obtain ⟨n, hn⟩ : ∃ n, n = ys.length := ⟨_, rfl⟩
    rw [← hn] at HX HY hl2 ⊢
    have HN := hidden hn
    have HNX : Hid (xs.length = n) := by show _ = _; omega
    clear hx hy hlen hn
    go_enter Try.func37, Try.ntmps37
    go_wp2_with fail
    go_loopw [5] (fun i wr => ∃ k : Nat, k ≤ n ∧ i = .int .i64 k ∧ Hid (xs.take k = ys.take k) ∧ Below w.heap.size w wr) (fun i _ => n - (intOf i).toNat)
    case atStart => exact ⟨0, by omega, rfl, by show _ = _; simp, Below.refl _ _⟩
    case round =>
      obtain ⟨k, hk, rfl, hE, hbl⟩ := hrel
      have hwk : wrap64 ((k : Int) + 1) = ((k + 1 : Nat) : Int) := by rw [Go.IntWalk.wrap64_in _ (by omega)]; rfl
      by_cases hlt : k < n
      · have i1 : (k : Int) < (n : Int) := by omega
        have i0 : (0 : Int) ≤ (k : Int) := by omega
        obtain ⟨gx, ox, rfl, cx⟩ := HX.out (by omega)
        obtain ⟨gy, oy, rfl, cy⟩ := HY.out (by omega)
        have c1 := below_cell hbl (cx k hlt)
        have c2 := below_cell hbl (cy k hlt)
        obtain ⟨zx, hzx⟩ : ∃ z, z = xs[k]?.getD 0 := ⟨_, rfl⟩
        obtain ⟨zy, hzy⟩ : ∃ z, z = ys[k]?.getD 0 := ⟨_, rfl⟩
        rw [← hzx] at c1
        rw [← hzy] at c2
        have HZX := hidden hzx
        have HZY := hidden hzy
        clear cx cy hzx hzy
        have hxk : xs.take (k + 1) = xs.take k ++ [zx] := by rw [take_snoc xs k (by have := HNX.out; omega), HZX.out]; rfl
        have hyk : ys.take (k + 1) = ys.take k ++ [zy] := by rw [take_snoc ys k (by have := HN.out; omega), HZY.out]; rfl
        by_cases heq : zx = zy
        · subst heq
          have HT : Hid (xs.take (k + 1) = ys.take (k + 1)) := by show _ = _; rw [hxk, hyk, hE.out]
          clear hxk hyk
          go_wp2_with fail
          go_quiet (fail)
          go_wp2
          exact ⟨⟨k + 1, by omega, by go_num, HT, below_drewN hbl _⟩, by simp [intOf]; omega⟩
        · have HT : Hid (xs ≠ ys) := by
            show xs ≠ ys
            intro e
            apply heq
            rw [HZX.out, HZY.out, e]
          have hne : (zx == zy) = false := by simpa using heq
          clear hxk hyk heq
          go_wp2_with fail
          go_quiet (fail)
          go_wp2
          go_ret
          exact ⟨by rw [decide_eq_false HT.out]; rfl, below_drewN hbl _⟩
      · obtain rfl : k = n := by omega
        have HT : Hid (xs = ys) := by
          have := hE.out
          rw [List.take_of_length_le (by have := HNX.out; omega), List.take_of_length_le (by have := HN.out; omega)] at this
          exact this
        go_wp2
        go_ret
        exact ⟨by rw [decide_eq_true HT.out]; rfl, hbl⟩
  · have HT : Hid (xs ≠ ys) := fun e => hlen (by rw [e])
    have hne : ((xs.length : Int) == (ys.length : Int)) = false := by simp; omega
    clear hx hy
    go_enter Try.func37, Try.ntmps37
    go_wp2
    go_ret
    exact ⟨by rw [decide_eq_false HT.out]; rfl, Below.refl _ _⟩

end Go.Proofs.Ytodigmmpodbpiaa
