/- list.leaves and the function that it hands back, as contracts: the leaves of a tree by rising key, so many of them left out ahead of the first. -/
import Derived.Test.YtnnmfgnommbmkaaGreatDoorLa01
import Derived.Test.YtnnmfgnommbmkaaGreatDoorLa10
import Derived.Test.YtnnmfgnommbmkaaGreatDoorLa29
import Derived.Test.YtnnmfgnommbmkaaGreatDoorLa28
import Derived.Test.YtnnmfgnommbmkaaGreatDoorLa21
namespace Go.Proofs.YtnnmfgnommbmkaaGreatDoor
set_option maxRecDepth 20000
open Go.RowKit Go.Shelf

attribute [local go_sem] Oper.semAt_some

def LvAz (w : World) (b3 b4 b5 : Nat) (v : Value) (root ahead : Int) : Prop := Blk w b3 29 #[v] ∧ Blk w b4 3 #[.int .i64 root] ∧ Blk w b5 3 #[.int .i64 ahead]

theorem LvAz.same {w w' : World} {b3 b4 b5 : Nat} {v : Value} {root ahead : Int} (h : LvAz w b3 b4 b5 v root ahead) (hs : ∀ z ∈ [b3, b4, b5], w'.heap[z]? = w.heap[z]?) : LvAz w' b3 b4 b5 v root ahead :=
  ⟨h.1.of_block (hs _ (by simp)), h.2.1.of_block (hs _ (by simp)), h.2.2.of_block (hs _ (by simp))⟩
theorem LvAz.grow {w w' : World} {b3 b4 b5 : Nat} {v : Value} {root ahead : Int} (h : LvAz w b3 b4 b5 v root ahead) (hb : Below w.heap.size w w') : LvAz w' b3 b4 b5 v root ahead :=
  ⟨h.1.grow hb, h.2.1.grow hb, h.2.2.grow hb⟩

set_option maxHeartbeats 1000000 in
theorem leaves13_any (pt : Option Addr) (root ahead : Int) (w : World) : Calls Tryz.prog 50 #[.pointer pt, .int .i64 root, .int .i64 ahead] w fun e w' => e = .returned (.func (.func 81) #[] #[.pointer (some ⟨w.heap.size + 1 + 1, 0, none⟩), .pointer (some ⟨w.heap.size + 1, 0, none⟩), .pointer (some ⟨w.heap.size, 0, none⟩)]) ∧ LvAz w' w.heap.size (w.heap.size + 1) (w.heap.size + 1 + 1) (.pointer pt) root ahead ∧ Below w.heap.size w w' := by
  have HF : Hid (LvAz (((w.alloc (.cells #[.pointer pt] 29)).alloc (.cells #[.int .i64 root] 3)).alloc (.cells #[.int .i64 ahead] 3)) w.heap.size (w.heap.size + 1) (w.heap.size + 1 + 1) (.pointer pt) root ahead ∧ Below w.heap.size w (((w.alloc (.cells #[.pointer pt] 29)).alloc (.cells #[.int .i64 root] 3)).alloc (.cells #[.int .i64 ahead] 3))) := by
    have k1 := ((Blk.new w 29 #[.pointer pt]).grow (grow_alloc _ (.cells #[Value.int .i64 root] 3))).grow (grow_alloc _ (.cells #[Value.int .i64 ahead] 3))
    have k2 := (Blk.new (w.alloc (.cells #[.pointer pt] 29)) 3 #[Value.int .i64 root]).grow (grow_alloc _ (.cells #[Value.int .i64 ahead] 3))
    have k3 := Blk.new ((w.alloc (.cells #[.pointer pt] 29)).alloc (.cells #[.int .i64 root] 3)) 3 #[Value.int .i64 ahead]
    simp only [World.size_alloc] at k2 k3
    exact ⟨⟨k1, k2, k3⟩, grow_trans (grow_trans (grow_alloc _ _) (grow_alloc _ _)) (grow_alloc _ _)⟩
  go_enter Tryz.func50, Tryz.ntmps50
  go_wp2
  go_ret
  exact ⟨rfl, HF.out⟩

structure LvI (cs : List (Nat × Ce)) (E : List Nat) (W0 : Nat) (pre : List Nat) (ps : List (Nat × Tre)) (o : Nat) (sv : Value) (wr : World) : Prop where
  lst : Lst wr 3 1 sv ps.length (nats (ps.map (·.1)).reverse)
  own : ∀ k, sv.ownBlock = some k → W0 ≤ k
  tre : ∀ p ∈ ps, IsT cs p.1 p.2
  all : pre ++ (stL ps).drop o = E
  tw : tw ps ≤ 1000000

theorem LvI.last {cs : List (Nat × Ce)} {E : List Nat} {W0 : Nat} {pre : List Nat} {p : Nat × Tre} {ps : List (Nat × Tre)} {o : Nat} {sv : Value} {wr : World} (h : LvI cs E W0 pre (p :: ps) o sv wr) : ∃ b c, sv = .slice (some ⟨b, 0, none⟩) (ps.length + 1) c ∧ ps.length + 1 ≤ c ∧ W0 ≤ b ∧ wr.cell? ⟨b, ps.length, none⟩ = some (.int .i64 (p.1 : Int)) ∧ Lst wr 3 1 (.slice (some ⟨b, 0, none⟩) ps.length c) ps.length (nats (ps.map (·.1)).reverse) := by
  have h4 := h.lst
  rw [List.length_cons, List.map_cons, List.reverse_cons] at h4
  obtain ⟨b, c, rfl, hc⟩ := lst_pos h4 (by omega)
  have e : ps.length = (nats (ps.map (·.1)).reverse).length := by rw [nats_length, List.length_reverse, List.length_map]
  refine ⟨b, c, rfl, hc, h.own b rfl, ?_, ?_⟩
  · rw [lst_cell h4 _ (by omega), nats_snoc, List.getElem?_append_right (by omega), ← e, Nat.sub_self]
    rfl
  · have := lst_cut (m := ps.length) h4 (by omega)
    rw [Nat.mul_one, nats_snoc, List.take_left' e.symm] at this
    exact this

set_option maxRecDepth 100000 in
set_option maxHeartbeats 4000000 in
theorem lv1_in {wb : World} {v : Value} {cs : List (Nat × Ce)} {pend : List Nat} (hV : Vw wb v true (cot cs) (cat cs)) (hWf : Wf cs pend) (root ahead : Nat) (T : Tre) (hT : IsT cs root T) (hn6 : T.num ≤ 400000) (hah : ahead < 9223372036854775808) (n : Nat) (hn : 1 ≤ n) (b3 b4 b5 l : Nat) (J : List Nat → List Nat → World → Prop) (Jx : List Nat → World → Prop) (W : World) (hb : Below wb.heap.size wb W) (hA : LvAz W b3 b4 b5 v (root : Int) (ahead : Int))
    (hJ : ∀ s Z Z' A B, J s Z A → (∀ z ∈ Z, z ∈ [b3, b4, b5] ∨ W.heap.size ≤ z) → Mod Z A B → New Z A Z' → J s Z' B)
    (hY : ∀ pre Z x A, J pre Z A → pre.length < T.ents.length → (∀ z ∈ Z, (z ∈ [b3, b4, b5] ∨ W.heap.size ≤ z) ∧ z < A.heap.size) → YieldAt Fence.wide (n - 1) Tryz.prog l #[.int .i64 ((x : Nat) : Int)] A fun e B =>
      (e = .returned (.bool true) ∧ J (pre ++ [x]) Z B ∧ (∀ z ∈ Z, B.heap[z]? = A.heap[z]?) ∧ Below wb.heap.size A B) ∨ (e = .returned (.bool false) ∧ Jx (pre ++ [x]) B))
    (h0 : J [] [b3, b4, b5] W) :
    CallsIn Fence.wide n Tryz.prog 81 #[.func (.yield l) #[] #[], .pointer (some ⟨b5, 0, none⟩), .pointer (some ⟨b4, 0, none⟩), .pointer (some ⟨b3, 0, none⟩)] W fun e B => (∃ v, e = .returned v) ∧ ((∃ xs Z, xs = (T.lvs root).drop ahead ∧ J xs Z B) ∨ (∃ pre, pre <+: (T.lvs root).drop ahead ∧ Jx pre B)) := by
  have HV := hidden hV
  have HWf := hidden hWf
  have HJ := hidden hJ
  have HY := hidden hY
  have HE0 : Hid (((T.lvs root).drop ahead).length ≤ T.ents.length) := by
    show _ ≤ _
    rw [List.length_drop, Tre.lvs_len]
    omega
  obtain ⟨E, hE⟩ : ∃ E, E = (T.lvs root).drop ahead := ⟨_, rfl⟩
  rw [← hE] at HE0
  rw [← hE]
  have HE := hidden hE
  obtain ⟨mea, hmea⟩ := tw_fun cs
  have HME := hidden hmea
  have c5 : W.cell? ⟨b5, 0, none⟩ = some (.int .i64 (ahead : Int)) := by rw [hA.2.2.cell]; rfl
  have c4 : W.cell? ⟨b4, 0, none⟩ = some (.int .i64 (root : Int)) := by rw [hA.2.1.cell]; rfl
  have HBL : Hid (∀ z ∈ [b3, b4, b5], z < W.heap.size) := fun z hz => by
    simp only [List.mem_cons, List.not_mem_nil, or_false] at hz
    rcases hz with rfl | rfl | rfl
    · exact hA.1.lt
    · exact hA.2.1.lt
    · exact hA.2.2.lt
  have HWB := hidden hb.size
  have f1 : Fence.wide.fn 28 := trivial
  have f2 : Fence.wide.fn 24 := trivial
  have f3 : Fence.wide.fn 25 := trivial
  have HT := hidden hT
  have H6 := hidden hn6
  have HA := hidden hA
  have HB := hidden hb
  have H0 := hidden h0
  obtain ⟨y0, hy0⟩ : ∃ y : Int, y = (root : Int) := ⟨_, rfl⟩
  rw [← hy0] at c4
  have HY0 := hidden hy0
  obtain ⟨z0, hz0⟩ : ∃ y : Int, y = (ahead : Int) := ⟨_, rfl⟩
  rw [← hz0] at c5
  have HZ0 := hidden hz0
  have HAH := hidden hah
  clear hV hWf hJ hY hE hmea hA hT hn6 hb h0 hy0 hz0 hah
  refine callsIn_of_wp Tryz.func81 rfl trivial ?_ rfl
  simp only [Tryz.ntmps81, List.size_toArray, List.length_cons, List.length_nil, Nat.reduceAdd, Nat.reduceSub, Array.replicate_succ, Array.replicate_zero, List.push_toArray, List.append_toArray, List.nil_append, List.cons_append]
  gi_wp2
  have HI0 : Hid (LvI cs E W.heap.size [] [(root, T)] ahead (.slice (some ⟨W.heap.size, 0, none⟩) 1 1) (W.alloc (.cells #[.int .i64 y0] 3)) ∧ J [] ([b3, b4, b5] ++ [W.heap.size]) (W.alloc (.cells #[.int .i64 y0] 3)) ∧ LvAz (W.alloc (.cells #[.int .i64 y0] 3)) b3 b4 b5 v (root : Int) (ahead : Int) ∧ Below wb.heap.size wb (W.alloc (.cells #[.int .i64 y0] 3))) := by
    have g := grow_alloc W (.cells #[.int .i64 y0] 3)
    refine ⟨⟨lst_one _ _ root (by rw [← HY0.out]; exact Blk.new _ _ _), fun k hk => ?_, fun p hp => ?_, ?_, ?_⟩, HJ.out _ _ _ _ _ H0.out (fun z hz => .inl hz) (Mod.of_below g _) (fun k hk => ?_), HA.out.grow g, grow_trans HB.out g⟩
    · simp only [Value.ownBlock, Option.some.injEq] at hk
      omega
    · obtain rfl : p = (root, T) := by simpa using hp
      exact HT.out
    · rw [HE.out]
      simp [stL]
    · have := H6.out
      simp [Go.Proofs.YtnnmfgnommbmkaaGreatDoor.tw]
      omega
    · rcases List.mem_append.1 hk with hk | hk
      · exact .inl hk
      · obtain rfl : k = W.heap.size := by simpa using hk
        exact .inr (Nat.le_refl _)
  generalize W.alloc (.cells #[.int .i64 y0] 3) = w1 at *
  gi_loopw [5, 6] (fun ov sv wr => ∃ (pre : List Nat) (ps : List (Nat × Tre)) (o : Nat) (ta : Option Addr) (m tc : Nat), ov = .int .i64 (o : Int) ∧ sv = .slice ta m tc ∧ Hid (m = ps.length) ∧ Hid (o ≤ ahead) ∧ Hid (LvI cs E W.heap.size pre ps o sv wr) ∧ Hid (J pre ([b3, b4, b5] ++ sv.ownBlock.toList) wr) ∧ Hid (LvAz wr b3 b4 b5 v (root : Int) (ahead : Int)) ∧ Hid (Below wb.heap.size wb wr)) (fun _ sv wr => mea sv wr)
  case atStart => exact ⟨[], [(root, T)], ahead, _, 1, 1, by rw [HZ0.out], rfl, rfl, Nat.le_refl _, HI0.out.1, HI0.out.2.1, HI0.out.2.2.1, HI0.out.2.2.2⟩
  case round =>
    clear HI0 HT HY0 HZ0 c4 c5 H0 HA HB H6
    obtain ⟨pre, ps, o, ta, m, tc, rfl, rfl, hm, ho, hI, hJs, hA, hB⟩ := hrel
    cases ps with
    | nil =>
      have hl : m = 0 := hm.out
      subst hl
      have HP : Hid (pre = E) := by
        have := hI.out.all
        show pre = E
        simpa [stL] using this
      clear hI hm ho
      gi_wp2
      go_end0
      exact ⟨⟨_, rfl⟩, .inl ⟨pre, _, HP.out, hJs.out⟩⟩
    | cons p ps =>
      obtain ⟨h, t⟩ := p
      obtain ⟨b, c', hv, hcap, hWb, hcell, hLp⟩ := hI.out.last
      injection hv with e1 e2 e3
      subst e1
      subst e3
      have HM0 : Hid (mea (.slice (some ⟨b, 0, none⟩) m tc) wr = (1 + 2 * t.num) + tw ps) := by
        have := HME.out _ _ _ ((h, t) :: ps) hI.out.lst hI.out.tre
        show _ = _
        rw [this]
        simp [Go.Proofs.YtnnmfgnommbmkaaGreatDoor.tw]
      have HIt := hidden (hI.out.tre (h, t) (by simp))
      have HIp : Hid (∀ p ∈ ps, IsT cs p.1 p.2) := fun p hp => hI.out.tre p (List.mem_cons_of_mem _ hp)
      have HEN := hidden hI.out.all
      have HTT : Hid ((1 + 2 * t.num) + tw ps ≤ 1000000) := by
        have := hI.out.tw
        simp only [Go.Proofs.YtnnmfgnommbmkaaGreatDoor.tw, List.map_cons, List.sum_cons] at this
        exact this
      have HPL : Hid (ps.length ≤ 1000000) := by
        have h1 := tw_len ps
        have h2 := HTT.out
        show _ ≤ _
        omega
      have HLP := hidden hLp
      have HWb := hidden hWb
      have HSZ : Hid (∀ w', Below wb.heap.size wb w' → Calls Tryz.prog 28 #[v, .int .i64 (h : Int)] w' fun e w'' => e = .returned (.int .i64 (t.ents.length : Int)) ∧ Below w'.heap.size w' w'') := fun w' hb => by
        have := size_any (HV.out.grow hb) (h : Int)
        rwa [cat_nat, (tree_ok HWf.out t h HIt.out).sz] at this
      have HKD : Hid (∀ w', Below wb.heap.size wb w' → Calls Tryz.prog 24 #[v, .int .i64 (h : Int)] w' fun e w'' => e = .returned (.int .u8 (sdC cs h).kind) ∧ Below w'.heap.size w' w'') := fun w' hb => by
        have := kind_any (HV.out.grow hb) (h : Int)
        rwa [cat_nat] at this
      have hml : m = ps.length + 1 := e2
      subst hml
      obtain ⟨q, hq⟩ : ∃ q, q = ps.length := ⟨_, rfl⟩
      rw [← hq] at hcap hcell HLP HM0 HPL
      rw [← hq]
      have HQ := hidden hq
      have hqb := HPL.out
      obtain ⟨y, hy⟩ : ∃ y : Int, y = (h : Int) := ⟨_, rfl⟩
      rw [← hy] at hcell HKD HSZ
      have HY1 := hidden hy
      have hoa : o < 9223372036854775808 := by have := ho.out; have := HAH.out; omega
      have i0 : (0 : Int) ≤ (q : Int) := by omega
      have i1 : (q : Int) < (q : Int) + 1 := by omega
      have i1' : (q : Int) < ((q + 1 : Nat) : Int) := by omega
      have i2 : (q : Int) ≤ (tc : Int) := by omega
      have i3 : (0 : Int) < ((q + 1 : Nat) : Int) := by omega
      have hwm : wrap64 (q : Int) = (q : Int) := Go.IntWalk.wrap64_in _ (by omega)
      have cS : wr.cell? ⟨b3, 0, none⟩ = some v := by rw [hA.out.1.cell]; rfl
      have HJS : Hid (J pre ([b3, b4, b5] ++ [b]) wr) := hJs.out
      have HZW : Hid (∀ z ∈ [b3, b4, b5] ++ [b], z ∈ [b3, b4, b5] ∨ W.heap.size ≤ z) := fun z hz => by
        rcases List.mem_append.1 hz with hz | hz
        · exact .inl hz
        · obtain rfl : z = b := by simpa using hz
          exact .inr HWb.out
      have HST : Hid (∀ w', Below wr.heap.size wr w' → Lst w' 3 1 (.slice (some ⟨b, 0, none⟩) q tc) q (nats (ps.map (·.1)).reverse) ∧ J pre ([b3, b4, b5] ++ [b]) w' ∧ LvAz w' b3 b4 b5 v (root : Int) (ahead : Int) ∧ Below wb.heap.size wb w') := fun w' hb => ⟨lst_grow HLP.out hb, HJ.out _ _ _ _ _ HJS.out HZW.out (Mod.of_below hb _) (New.refl _ _), hA.out.grow hb, grow_trans hB.out hb⟩
      have HQE : Hid (ps.length = q) := hq.symm
      clear hI hm e2 hq hy hqb hLp hJs hWb HPL
      by_cases hsk : t.ents.length ≤ o
      · have hs1 : (t.ents.length : Int) ≤ (o : Int) := by omega
        have hws : wrap64 ((o : Int) - (t.ents.length : Int)) = ((o - t.ents.length : Nat) : Int) := by rw [Go.IntWalk.wrap64_in _ (by omega)]; omega
        have HSK : Hid (pre ++ (stL ps).drop (o - t.ents.length) = E) := by
          have := HEN.out
          rw [stL_skip h t ps o hsk] at this
          exact this
        have HO2 : Hid (o - t.ents.length ≤ ahead) := by have := ho.out; show _ ≤ _; omega
        clear hsk
        gi_wp2_with (first
          | (gi_at_call 28; refine (callsIn_wide.2 (HSZ.out _ hB.out)).mono ?_; rintro e w2 ⟨rfl, b2⟩; have HS2 := hidden (HST.out _ b2); clear b2))
        go_roundw
        case rel => exact ⟨pre, ps, o - t.ents.length, some ⟨b, 0, none⟩, q, tc, by first | rfl | go_num, rfl, HQ.out, HO2, ⟨by rw [HQE.out]; exact HS2.out.1, fun k hk => (by simp only [Value.ownBlock, Option.some.injEq] at hk; rw [← hk]; exact HWb.out), HIp.out, HSK.out, by have := HTT.out; omega⟩, HS2.out.2.1, HS2.out.2.2.1, HS2.out.2.2.2⟩
        case measure =>
          have hm : mea (.slice (some ⟨b, 0, none⟩) q tc) w2 = tw ps := HME.out _ _ _ ps HS2.out.1 HIp.out
          rw [hm, HM0.out]
          omega
      · have hs0 : ¬ (t.ents.length : Int) ≤ (o : Int) := by omega
        have HSK := hidden hsk
        clear hsk
        cases t with
        | emp =>
          have := HSK.out
          simp [Tre.ents] at this
        | lf K bs =>
          obtain ⟨h1, h2, h3, h4, h5⟩ := HIt.out
          have hsd : sdC cs h = ce cs (h - 1) := if_neg (by omega)
          rw [hsd, h3] at HKD
          have ho0 : o = 0 := by
            have := HSK.out
            simp only [Tre.ents, List.length_cons, List.length_nil] at this
            omega
          subst ho0
          have HEN1 : Hid (pre ++ [h] ++ (stL ps).drop 0 = E) := by
            have := HEN.out
            show _ = _
            rw [← this]
            simp [stL, Tre.lvs]
          have HLN : Hid (pre.length < T.ents.length) := by
            have h7 := HE0.out
            have h8 := congrArg List.length HEN1.out
            simp only [List.length_append, List.length_cons, List.length_nil] at h8
            show _ < _
            omega
          have HZL : Hid (∀ w', Below wr.heap.size wr w' → ∀ z ∈ [b3, b4, b5] ++ [b], (z ∈ [b3, b4, b5] ∨ W.heap.size ≤ z) ∧ z < w'.heap.size) := fun w' hb z hz => ⟨HZW.out z hz, by
            have hsz := hb.size
            have hlb : b < wr.heap.size := (HLP.out.lt b rfl).2
            rcases List.mem_append.1 hz with hz | hz
            · simp only [List.mem_cons, List.not_mem_nil, or_false] at hz
              rcases hz with rfl | rfl | rfl
              · exact Nat.lt_of_lt_of_le hA.out.1.lt hsz
              · exact Nat.lt_of_lt_of_le hA.out.2.1.lt hsz
              · exact Nat.lt_of_lt_of_le hA.out.2.2.lt hsz
            · obtain rfl : z = b := by simpa using hz
              omega⟩
          clear h1 h2 h3 h4 h5 hsd
          gi_wp2_with (first
            | (gi_at_call 28; refine (callsIn_wide.2 (HSZ.out _ hB.out)).mono ?_; rintro e w2 ⟨rfl, b2⟩; have HB2 := hidden b2; have cS2 : w2.cell? ⟨b3, 0, none⟩ = some v := below_cell b2 cS; have HW2 := hidden (grow_trans hB.out b2); clear b2)
            | (gi_at_call 24; refine (callsIn_wide.2 (HKD.out _ HW2.out)).mono ?_; rintro e w3 ⟨rfl, b3'⟩; have HB3 := hidden (grow_trans HB2.out b3'); clear b3'; have HS3 := hidden (HST.out _ HB3.out); obtain ⟨fn, tmps, assign, body, hy, hR⟩ := HY.out pre ([b3, b4, b5] ++ [b]) h w3 HS3.out.2.1 HLN.out (HZL.out _ HB3.out); rw [← HY1.out] at hy))
          refine hR.mono ?_
          rintro e W3 (⟨rfl, hJ3, hk3, hb3⟩ | ⟨rfl, hJx3⟩)
          · have hA3 : LvAz W3 b3 b4 b5 v (root : Int) (ahead : Int) := HS3.out.2.2.1.same (fun z hz => hk3 z (List.mem_append_left _ hz))
            have hL3 : Lst W3 3 1 (.slice (some ⟨b, 0, none⟩) q tc) q (nats (ps.map (·.1)).reverse) := by
              refine ⟨HS3.out.1.1, ?_⟩
              rcases HS3.out.1.2 with hh | ⟨g, cap, cur, e, hb, hgg, rest⟩
              · exact .inl hh
              · injection e with e1 _ e3
                injection e1 with e1
                injection e1 with e1
                subst e1
                subst e3
                exact .inr ⟨b, tc, cur, rfl, hb, (hk3 b (by simp)).trans hgg, rest⟩
            have HX3 := hidden (show Lst W3 3 1 (.slice (some ⟨b, 0, none⟩) q tc) q (nats (ps.map (·.1)).reverse) ∧ J (pre ++ [h]) ([b3, b4, b5] ++ [b]) W3 ∧ LvAz W3 b3 b4 b5 v (root : Int) (ahead : Int) ∧ Below wb.heap.size wb W3 from ⟨hL3, hJ3, hA3, HS3.out.2.2.2.trans hb3⟩)
            clear hJ3 hk3 hb3 hA3 hL3 hR hy
            gi_wp2
            go_roundw
            case rel => exact ⟨pre ++ [h], ps, 0, some ⟨b, 0, none⟩, q, tc, rfl, rfl, HQ.out, Nat.zero_le _, ⟨by rw [HQE.out]; exact HX3.out.1, fun k hk => (by simp only [Value.ownBlock, Option.some.injEq] at hk; rw [← hk]; exact HWb.out), HIp.out, HEN1.out, by have := HTT.out; omega⟩, HX3.out.2.1, HX3.out.2.2.1, HX3.out.2.2.2⟩
            case measure =>
              have hm : mea (.slice (some ⟨b, 0, none⟩) q tc) W3 = tw ps := HME.out _ _ _ ps HX3.out.1 HIp.out
              rw [hm, HM0.out]
              omega
          · clear hR hy
            gi_wp2
            refine bodyPost_ret (results_none rfl _ _ _) rfl ?_
            exact ⟨⟨_, rfl⟩, .inr ⟨_, ⟨_, HEN1.out⟩, hJx3⟩⟩
        | nd d hl hr L R =>
          obtain ⟨h1, h2, h3, h4, h5, h6, h7, h8⟩ := HIt.out
          have hsd : sdC cs h = ce cs (h - 1) := if_neg (by omega)
          rw [hsd, h3] at HKD
          have HSD : Hid (∀ w', Below wb.heap.size wb w' → Calls Tryz.prog 25 #[v, .int .i64 y] w' fun e w'' => e = .returned (.tuple #[.int .i64 (hl : Int), .int .i64 (hr : Int)]) ∧ Below w'.heap.size w' w'') := fun w' hb => by
            have := sides_any (HV.out.grow hb) (h : Int)
            rw [cat_nat, hsd, h5, h6, ← HY1.out] at this
            exact this
          have HI2 : Hid (∀ p ∈ (hl, L) :: (hr, R) :: ps, IsT cs p.1 p.2) := fun p hp => by
            rcases List.mem_cons.1 hp with rfl | hp
            · exact h7
            · rcases List.mem_cons.1 hp with rfl | hp
              · exact h8
              · exact HIp.out p hp
          have HEN1 : Hid (pre ++ (stL ((hl, L) :: (hr, R) :: ps)).drop o = E) := by
            have := HEN.out
            rw [stL_nd] at this
            exact this
          have HQB : Hid (q ≤ 1000000) := by
            have h1 := tw_len ps
            have h2 := HTT.out
            have h3 := HQ.out
            show _ ≤ _
            omega
          clear h1 h2 h3 h4 h5 h6 h7 h8 hsd
          gi_wp2_with (first
            | (gi_at_call 28; refine (callsIn_wide.2 (HSZ.out _ hB.out)).mono ?_; rintro e w2 ⟨rfl, b2⟩; have HB2 := hidden b2; have cS2 : w2.cell? ⟨b3, 0, none⟩ = some v := below_cell b2 cS; have HW2 := hidden (grow_trans hB.out b2); clear b2)
            | (gi_at_call 24; refine (callsIn_wide.2 (HKD.out _ HW2.out)).mono ?_; rintro e w3 ⟨rfl, b3'⟩; have HB3 := hidden (grow_trans HB2.out b3'); have cS3 : w3.cell? ⟨b3, 0, none⟩ = some v := below_cell b3' cS2; have HW3 := hidden (grow_trans HW2.out b3'); clear b3')
            | (gi_at_call 25; refine (callsIn_wide.2 (HSD.out _ HW3.out)).mono ?_; rintro e w4 ⟨rfl, b4'⟩; have HB4 := hidden (grow_trans (grow_trans HB3.out b4') (grow_alloc w4 (.cells #[.int .i64 (hr : Int), .int .i64 (hl : Int)] 3))); clear b4')
            | (gi_at_builtin; refine inList (.inl rfl) (fun c e => by cases e) (wpList_appL2 _ rfl _ _ _ rfl 3 1 8 Tryz.underlying86 info_nat (by omega) (.slice (some ⟨b, 0, none⟩) q tc) q (nats (ps.map (·.1)).reverse) rfl (HST.out _ HB4.out).1 w4.heap.size [Value.int .i64 (hr : Int), Value.int .i64 (hl : Int)] rfl (Blk.new _ _ _) rfl (by intro u hu; simp at hu; rcases hu with rfl | rfl <;> rfl) (by have := HQB.out; simp only [maxLen]; omega) (by have := HQB.out; omega) (fun v' w5 h5 g5 wh => ⟨rfl, ?_⟩)); obtain ⟨a5, c5, rfl⟩ := lst_slice h5))
          have HS4 := HST.out _ HB4.out
          have m5 : Mod [b] _ w5 := Mod.of_grown g5 (fun k hk => by
            simp only [Value.ownBlock, Option.some.injEq] at hk
            rw [← hk]
            simp)
          have hA5 : LvAz w5 b3 b4 b5 v (root : Int) (ahead : Int) := HS4.2.2.1.same (fun z hz => m5.block z (by
            simp only [List.mem_cons, List.not_mem_nil, or_false] at hz
            rcases hz with rfl | rfl | rfl
            · exact HS4.2.2.1.1.lt
            · exact HS4.2.2.1.2.1.lt
            · exact HS4.2.2.1.2.2.lt) (fun e => by
            have h1 := HBL.out z hz
            have h2 := HWb.out
            rw [List.mem_singleton.1 e] at h1
            omega))
          have hJ5 : J pre ([b3, b4, b5] ++ (Value.slice a5 (q + 2) c5).ownBlock.toList) w5 := HJ.out _ _ _ _ _ HS4.2.1 HZW.out (m5.mono (fun k hk => by rw [List.mem_singleton.1 hk]; simp)) (fun k hk => by
            rcases List.mem_append.1 hk with hk | hk
            · exact .inl (List.mem_append_left _ hk)
            · rcases wh with e | ⟨k', e, hk'⟩
              · rw [e] at hk
                exact .inl (List.mem_append_right _ (by simpa [Value.ownBlock] using hk))
              · rw [e] at hk
                obtain rfl : k = k' := by simpa using hk
                exact .inr hk')
          have hL5 : Lst w5 3 1 (.slice a5 (q + 2) c5) ((hl, L) :: (hr, R) :: ps).length (nats (((hl, L) :: (hr, R) :: ps).map (·.1)).reverse) := by
            rw [show (((hl, L) :: (hr, R) :: ps).map (·.1)).reverse = (ps.map (·.1)).reverse ++ [hr, hl] by simp, show nats ((ps.map (·.1)).reverse ++ [hr, hl]) = nats (ps.map (·.1)).reverse ++ [Value.int .i64 (hr : Int), Value.int .i64 (hl : Int)] by simp [nats], List.length_cons, List.length_cons, HQE.out]
            exact h5
          have hO5 : ∀ k, (Value.slice a5 (q + 2) c5).ownBlock = some k → W.heap.size ≤ k := fun k hk => by
            rcases wh with e | ⟨k', e, hk'⟩
            · rw [e] at hk
              simp only [Value.ownBlock, Option.some.injEq] at hk
              rw [← hk]
              exact HWb.out
            · rw [e] at hk
              injection hk with hk
              rw [← hk]
              have := HB4.out.size
              have := hB.out.size
              have h9 := (HLP.out.lt b rfl).2
              have := HWb.out
              omega
          have hB5 : Below wb.heap.size wb w5 := HS4.2.2.2.trans (m5.below (fun k hk => by
            rw [List.mem_singleton.1 hk]
            have := HWb.out
            have := HWB.out
            omega) HS4.2.2.2.size)
          have HX5 := hidden (show Lst w5 3 1 (.slice a5 (q + 2) c5) ((hl, L) :: (hr, R) :: ps).length (nats (((hl, L) :: (hr, R) :: ps).map (·.1)).reverse) ∧ J pre ([b3, b4, b5] ++ (Value.slice a5 (q + 2) c5).ownBlock.toList) w5 ∧ LvAz w5 b3 b4 b5 v (root : Int) (ahead : Int) ∧ Below wb.heap.size wb w5 ∧ (∀ k, (Value.slice a5 (q + 2) c5).ownBlock = some k → W.heap.size ≤ k) from ⟨hL5, hJ5, hA5, hB5, hO5⟩)
          have htw : tw ((hl, L) :: (hr, R) :: ps) = (1 + 2 * L.num) + ((1 + 2 * R.num) + tw ps) := by simp [Go.Proofs.YtnnmfgnommbmkaaGreatDoor.tw]
          have hnn : (Tre.nd d hl hr L R).num = 1 + (L.num + R.num) := rfl
          rw [hnn] at HM0 HTT
          have HTW := hidden htw
          clear HS4 m5 hA5 hJ5 hL5 hO5 hB5 h5 g5 wh htw hnn
          gi_wp2
          go_roundw
          case rel => exact ⟨pre, (hl, L) :: (hr, R) :: ps, o, a5, q + 2, c5, rfl, rfl, by show _ = _; simp [HQE.out], ho, ⟨HX5.out.1, HX5.out.2.2.2.2, HI2.out, HEN1.out, by have := HTT.out; rw [HTW.out]; omega⟩, HX5.out.2.1, HX5.out.2.2.1, HX5.out.2.2.2.1⟩
          case measure =>
            have hm : mea (.slice a5 (q + 2) c5) w5 = tw ((hl, L) :: (hr, R) :: ps) := HME.out _ _ _ _ HX5.out.1 HI2.out
            rw [hm, HM0.out, HTW.out]
            omega

end Go.Proofs.YtnnmfgnommbmkaaGreatDoor

namespace Go.Proofs.YtnnmfgnommbmkaaGreatDoor
set_option maxRecDepth 20000
open Go.RowKit

def SamE (es : List Ent) (d : Nat) : Prop := ∀ a ∈ es, ∀ b ∈ es, ∀ j, j < d → kb a.1 j = kb b.1 j
end Go.Proofs.YtnnmfgnommbmkaaGreatDoor

namespace Go.Proofs.YtnnmfgnommbmkaaGreatDoor
set_option maxRecDepth 20000
open Go.RowKit

def Where (w : World) (v v' : Value) : Prop := v'.ownBlock = v.ownBlock ∨ ∃ k, v'.ownBlock = some k ∧ w.heap.size ≤ k

theorem run_appP (ty : TypeId) (w : World) (base : Nat) (v : Value) (n : Nat) (xs : List Value) (hown : w.ownsRow base 42 33 v n xs) (g : Nat) (k : List Int) (u : Value)
    (hb : Blk w g 42 (encP k u).toArray) (hl : k.length = 32) (h1 : u.oneCell' = true) (hn : n ≤ 4096) (hbase : base ≤ w.heap.size) :
    ∃ v' w', (Builtin.append_ #[22, 22] ty #[v, .slice (some ⟨g, 0, none⟩) 1 1]).run Tryz.prog w = .ok v' w' ∧ w'.ownsRow base 42 33 v' (n + 1) (xs ++ encP k u) ∧ w.grownBy w' v.ownBlock ∧ Where w v v' := by
  obtain ⟨i, z, hi, hz, hsz, hby, hzs⟩ := info_pair
  have hlen : (encP k u).length = 1 * 33 := by rw [encP_length k u hl]
  have hnews : ∀ j q, (encP k u)[j]? = some q → w.cell? ((⟨g, 0, none⟩ : Addr).add j) = some q := by
    intro j q hq
    rw [Addr.add_lit, Nat.zero_add, hb.cell]
    simpa using hq
  have hone : ∀ q ∈ encP k u, q.oneCell' = true := by
    intro q hq
    unfold encP at hq
    rcases List.mem_append.1 hq with hq | hq
    · obtain ⟨z, _, rfl⟩ := List.mem_map.1 hq
      rfl
    · obtain rfl : q = u := by simpa using hq
      exact h1
  obtain ⟨v', w', hr, h2, h3, _⟩ := run_append_own (P := Tryz.prog) w base 22 ty 42 i z 33 56 Tryz.underlying22 hi hz hsz hby hzs (by omega) v n xs hown ⟨g, 0, none⟩ 1 1 (encP k u) hlen hnews hone (by simp only [maxLen]; omega) (by omega) hbase
  refine ⟨v', w', hr, h2, h3, ?_⟩
  rcases hown.2 with ⟨rfl, rfl⟩ | ⟨g0, cap, cur, rfl, hbg, hg, hnc, hcm, hcs, htake⟩
  · right
    obtain ⟨v2, w2, hr2, h4, _⟩ := run_append_own (P := Tryz.prog) w w.heap.size 22 ty 42 i z 33 56 Tryz.underlying22 hi hz hsz hby hzs (by omega) (.slice none 0 0) 0 [] (World.ownsRow_nil _ _ _ _) ⟨g, 0, none⟩ 1 1 (encP k u) hlen hnews hone (by simp only [maxLen]; omega) (by omega) (Nat.le_refl _)
    rw [hr] at hr2
    injection hr2 with e1 e2
    subst e1
    subst e2
    rcases h4.2 with ⟨e, e2⟩ | ⟨g', cap', cur', e, hb', _⟩
    · omega
    · exact ⟨g', by rw [e]; rfl, hb'⟩
  · by_cases hroom : n + 1 ≤ cap
    · left
      have hr2 := run_append_room (P := Tryz.prog) w 22 ty 42 i Tryz.underlying22 hi g0 n cap cur hg ⟨g, 0, none⟩ 1 1 (encP k u) (by rw [hsz]; exact hlen) hnews hone hroom (by rw [hsz, hlen, hcs]; omega)
      rw [hr] at hr2
      injection hr2 with e1 e2
      rw [e1]
      rfl
    · right
      have holds : ∀ j q, xs[j]? = some q → w.cell? ((⟨g0, 0, none⟩ : Addr).add j) = some q := hown.cells (g := g0) rfl
      have hr2 := run_append_grow (P := Tryz.prog) w 22 ty 42 i z Tryz.underlying22 hi hz ⟨g0, 0, none⟩ n cap xs (by rw [hsz]; exact hown.1) holds ⟨g, 0, none⟩ 1 1 (encP k u) (by rw [hsz]; exact hlen) hnews (by omega) (by omega) (growslice_fits (by omega) (by rw [hby]; omega))
      rw [hr] at hr2
      injection hr2 with e1 e2
      exact ⟨w.heap.size, by rw [e1]; rfl, Nat.le_refl _⟩

theorem step_bsp {ops : Array Oper} {op : Oper} {a : Act} {K : Act → World → Prop} {Q : Exit → Act → World → Prop} {E : Prop} (w : World) (hgd : op.guard = none) (x : Operand) (ho : op.op = .buildSlice 22 1 #[(0, x)])
    (k : List Int) (v : Value) (hx : a.eval x = .agg (encP k v).toArray) (hl : k.length = 32)
    (hk : K (a.put op.dst (.slice (some ⟨w.heap.size, 0, none⟩) 1 1)) (w.alloc (.cells (encP k v).toArray 42))) : if Region.wanted op (yielded ops a.tmps) = true then Oper.wp Tryz.prog op a w K Q else E := by
  have hw : Region.wanted op (yielded ops a.tmps) = true := by simp [Region.wanted, hgd]
  rw [if_pos hw]
  obtain ⟨i, z, hi, hz, hs, _, hzs⟩ := info_pair
  have hrun := run_buildSlice (P := Tryz.prog) w 22 42 1 #[(0, .agg (encP k v).toArray)] (encP k v).toArray i z Tryz.underlying22 hi hz (by rw [hs]; omega) (by rw [hs]; omega) (by
    rw [hs]
    obtain ⟨zs, hzz, hzl⟩ : ∃ zs : List Value, (Array.range (1 * 33)).map (z.cells[· % z.cells.size]!) = zs.toArray ∧ zs.length = 33 := ⟨_, (Array.toArray_toList).symm, by simp⟩
    rw [hzz]
    have := fill_one (fun i => some (i * 33, 33)) 0 0 33 (.agg (encP k v).toArray) (encP k v) zs [] rfl rfl (encP_length k v hl) (by omega)
    rw [show (#[(0, Value.agg (encP k v).toArray)] : Array (Nat × Value)).toList = [(0, Value.agg (encP k v).toArray)] from rfl, this, Instr.fill]
    simp [hzl])
  unfold Oper.wp execOp
  simp only [ho, List.map_toArray, List.map_cons, List.map_nil, hx, Sem.run_bind, hrun, Result.andThen_ok, Sem.run_pure]
  exact hk

theorem step_appP {ops : Array Oper} {o : Oper} {a : Act} {K : Act → World → Prop} {Q : Exit → Act → World → Prop} {E : Prop} (w : World) (hgd : o.guard = none) (s x : Operand)
    (hop : o.op = .call { callee := .builtin .append, args := #[s, x], argTypes := #[22, 22] })
    (base : Nat) (v : Value) (n : Nat) (xs : List Value) (hown : w.ownsRow base 42 33 v n xs) (hs : a.eval s = v) (g : Nat) (k : List Int) (u : Value) (hx : a.eval x = .slice (some ⟨g, 0, none⟩) 1 1)
    (hb : Blk w g 42 (encP k u).toArray) (hl : k.length = 32) (h1 : u.oneCell' = true) (hn : n ≤ 4096) (hbase : base ≤ w.heap.size)
    (hk : ∀ v' w', w'.ownsRow base 42 33 v' (n + 1) (xs ++ encP k u) → w.grownBy w' v.ownBlock → Where w v v' → K (a.put o.dst v') w') : if Region.wanted o (yielded ops a.tmps) = true then Oper.wp Tryz.prog o a w K Q else E := by
  have hw : Region.wanted o (yielded ops a.tmps) = true := by simp [Region.wanted, hgd]
  rw [if_pos hw]
  obtain ⟨v', w', hr, h2, h3, h4⟩ := run_appP o.type w base v n xs hown g k u hb hl h1 hn hbase
  unfold Oper.wp execOp
  simp only [hop, resolve, invoke, builtin, Sem.run_bind, Sem.run_pure, Result.andThen_ok, List.map_toArray, List.map_cons, List.map_nil, hs, hx, hr]
  exact hk v' w' h2 h3 h4

end Go.Proofs.YtnnmfgnommbmkaaGreatDoor
