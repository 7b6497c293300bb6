/- Calls of a store, as contracts: New, Hold, Occupied, Room, Handles; whether sides fit; how many sides a node is. -/
import Derived.Test.YtkhinjkcfjncgaaGreatDoorKn21
import Derived.Test.YtkhinjkcfjncgaaGreatDoorKn06
import Derived.Test.YtkhinjkcfjncgaaGreatDoorKn22
import Derived.Test.YtkhinjkcfjncgaaGreatDoorKn01
import Derived.Test.YtkhinjkcfjncgaaGreatDoorKn02
import Derived.Test.YtkhinjkcfjncgaaGreatDoorKn12
namespace Go.Proofs.YtkhinjkcfjncgaaGreatDoor
set_option maxRecDepth 20000
open Go.RowKit

set_option maxHeartbeats 400000 in
theorem newS_bad (room : Int) (w : World) (h : ¬ (1 ≤ room ∧ room ≤ 65536)) : Calls Tryz.prog 46 #[.int .i64 room] w fun e w' => e = .returned (.tuple #[.pointer none, .int .i64 2]) ∧ w' = w := by
  have HN := hidden (new_badC room w h)
  clear h
  go_enter Tryz.func46, Tryz.ntmps46
  go_wp2_with (go_at_call 99; refine HN.out.mono ?_; rintro e w' ⟨rfl, hx⟩; rw [hx]; clear hx w')
  go_ret2
  exact ⟨rfl, rfl⟩

set_option maxHeartbeats 400000 in
theorem newS_ok (room : Nat) (w : World) (h1 : 1 ≤ room) (h2 : room ≤ 65536) : Calls Tryz.prog 46 #[.int .i64 (room : Int)] w fun e w' => ∃ g gs, e = .returned (.tuple #[.pointer (some ⟨g, 0, none⟩), .int .i64 0]) ∧ w.heap.size ≤ g ∧ w.heap.size ≤ gs ∧ Stm w' g gs (.slice none 0 0) (.slice none 0 0) room [] [] ∧ Below w.heap.size w w' := by
  have HN := hidden (new_okC room w h1 h2)
  clear h1 h2
  go_enter Tryz.func46, Tryz.ntmps46
  go_wp2_with (go_at_call 99; refine HN.out.mono ?_; rintro e w1 ⟨gs, rfl, hg, S1, b1⟩; have HS1 := hidden S1; have Hb1 := hidden b1; have Hg := hidden hg; clear S1 b1 hg)
  go_ret2
  exact ⟨w1.heap.size, gs, rfl, Hb1.out.size, Hg.out, ⟨Blk.new _ _ _, HS1.out.mod (Mod.alloc _ _ []) (fun _ _ h => by cases h), fun i => by simp only [ce, List.getElem?_nil, Option.getD_none]; exact ⟨[], Own.nil _ _⟩⟩, Hb1.out.trans ((grow_alloc w1 _).mono Hb1.out.size)⟩

set_option maxHeartbeats 400000 in
theorem holdS_no (v : Value) (h : Int) (w : World) (hn : NoS w v) : Calls Tryz.prog 60 #[v, .int .i64 h] w fun e w' => e = .returned (.int .i64 1) ∧ w' = w := by
  have HN := hidden hn
  clear hn
  go_enter Tryz.func60, Tryz.ntmps60
  go_wp2_with (go_at_call 56; refine (madeS_no v _ HN.out).mono ?_; rintro e w' ⟨rfl, hx⟩; rw [hx]; clear hx w')
  go_ret
  exact ⟨rfl, rfl⟩

theorem calls_eq {f : FuncId} {args : Array Value} {w : World} {x y : Ending} {P : World → Prop} (hc : Calls Tryz.prog f args w fun e w' => e = x ∧ P w') (h : x = y) : Calls Tryz.prog f args w fun e w' => e = y ∧ P w' := h ▸ hc

set_option maxHeartbeats 400000 in
/-- Hold hands on what the slab's answers. -/
theorem holdS_via {w : World} {g gs : Nat} {vp vf : Value} {room : Nat} {cs : List (Nat × Ce)} {fr : List Nat} (s : Stm w g gs vp vf room cs fr) (h q : Int) (P : World → Prop) (hc : Calls Tryz.prog 118 #[.pointer (some ⟨gs, 0, none⟩), .int .i64 h] w fun e w' => e = .returned (.int .i64 q) ∧ P w') : Calls Tryz.prog 60 #[.pointer (some ⟨g, 0, none⟩), .int .i64 h] w fun e w' => e = .returned (.int .i64 q) ∧ P w' := by
  have c0 := s.c0
  have c1 := s.c1
  have HC := hidden hc
  clear s hc
  go_enter Tryz.func60, Tryz.ntmps60
  go_wp2_with (first
    | (go_at_call 56; refine (madeS_ok g _ c0).mono ?_; rintro e w' ⟨rfl, hx⟩; rw [hx]; clear hx w')
    | (go_at_call 118; refine HC.out.mono ?_; rintro e w2 ⟨rfl, hp⟩; have HP := hidden hp; clear hp))
  go_ret
  exact ⟨rfl, HP.out⟩

/-- Slot i is held once more. -/
def moreC (cs : List (Nat × Ce)) (i : Nat) : List (Nat × Ce) := cs.set i (cc cs i + 1, ce cs i)
theorem moreC_ce (cs : List (Nat × Ce)) (i j : Nat) : ce (moreC cs i) j = ce cs j := by
  unfold moreC
  by_cases hi : i < cs.length
  · rw [ce_set cs i j _ hi]
    split
    · next e => rw [e]
    · rfl
  · rw [List.set_eq_of_length_le (by omega)]

theorem holdS_bad {w : World} {g gs : Nat} {vp vf : Value} {room : Nat} {cs : List (Nat × Ce)} {fr : List Nat} (s : Stm w g gs vp vf room cs fr) (h : Int) (hc : cot cs h = 0) : Calls Tryz.prog 60 #[.pointer (some ⟨g, 0, none⟩), .int .i64 h] w fun e w' => e = .returned (.int .i64 7) ∧ w' = w :=
  holdS_via s h 7 _ (hold_badC gs vp vf room _ fr h w s.sl ((cot_out cs h).2 hc))
theorem holdS_long {w : World} {g gs : Nat} {vp vf : Value} {room : Nat} {cs : List (Nat × Ce)} {fr : List Nat} (s : Stm w g gs vp vf room cs fr) (i : Nat) (hc : cc cs i = 1073741824) : Calls Tryz.prog 60 #[.pointer (some ⟨g, 0, none⟩), .int .i64 ((i : Int) + 1)] w fun e w' => e = .returned (.int .i64 4) ∧ w' = w :=
  holdS_via s _ 4 _ (hold_longC gs vp vf room _ fr _ i w s.sl rfl (by rw [cnt_pl]; omega) (by rw [cnt_pl]; exact hc))
theorem holdS_ok {w : World} {g gs : Nat} {vp vf : Value} {room : Nat} {cs : List (Nat × Ce)} {fr : List Nat} (s : Stm w g gs vp vf room cs fr) (i : Nat) (h0 : 0 < cc cs i) (h1 : cc cs i < 1073741824) : Calls Tryz.prog 60 #[.pointer (some ⟨g, 0, none⟩), .int .i64 ((i : Int) + 1)] w fun e w' => e = .returned (.int .i64 0) ∧ STurn w g gs (stB g gs vp vf cs) room (moreC cs i) fr w' := by
  refine holdS_via s _ 0 _ ((hold_okC gs vp vf room _ fr _ i w s.sl rfl (by rw [cnt_pl]; exact h0) (by rw [cnt_pl]; exact h1)).mono ?_)
  rintro e w' ⟨rfl, t⟩
  rw [cnt_pl, thg_pl cs i (cc_lt h0), map_set] at t
  exact ⟨rfl, s.turn' (Below.refl _ _) t (fun j => .inr ⟨j, by show (ce (moreC cs i) j).val = _; rw [moreC_ce], by show (ce (moreC cs i) j).bs = _; rw [moreC_ce]⟩)⟩

set_option maxHeartbeats 400000 in
theorem occS_ok {w : World} {g gs : Nat} {vp vf : Value} {room : Nat} {cs : List (Nat × Ce)} {fr : List Nat} (s : Stm w g gs vp vf room cs fr) : Calls Tryz.prog 26 #[.pointer (some ⟨g, 0, none⟩)] w fun e w' => e = .returned (.int .i64 (noc cs : Int)) ∧ Below w.heap.size w w' := by
  have c0 := s.c0
  have c1 := s.c1
  have HC := hidden (len_okC gs vp vf room _ fr w s.sl)
  clear s
  go_enter Tryz.func26, Tryz.ntmps26
  go_wp2_with (first
    | (go_at_call 56; refine (madeS_ok g _ c0).mono ?_; rintro e w' ⟨rfl, hx⟩; rw [hx]; clear hx w')
    | (go_at_call 57; refine HC.out.mono ?_; rintro e w1 ⟨rfl, b1⟩))
  go_ret
  exact ⟨rfl, b1⟩

set_option maxHeartbeats 400000 in
theorem occS_no (v : Value) (w : World) (hn : NoS w v) : Calls Tryz.prog 26 #[v] w fun e w' => e = .returned (.int .i64 0) ∧ w' = w := by
  have HN := hidden hn
  clear hn
  go_enter Tryz.func26, Tryz.ntmps26
  go_wp2_with (go_at_call 56; refine (madeS_no v _ HN.out).mono ?_; rintro e w' ⟨rfl, hx⟩; rw [hx]; clear hx w')
  go_ret
  exact ⟨rfl, rfl⟩

set_option maxHeartbeats 400000 in
theorem roomS_ok {w : World} {g gs : Nat} {vp vf : Value} {room : Nat} {cs : List (Nat × Ce)} {fr : List Nat} (s : Stm w g gs vp vf room cs fr) : Calls Tryz.prog 43 #[.pointer (some ⟨g, 0, none⟩)] w fun e w' => e = .returned (.int .i64 (room : Int)) ∧ Below w.heap.size w w' := by
  have c0 := s.c0
  have c1 := s.c1
  have HC := hidden (room_okC gs vp vf room _ fr w s.sl)
  clear s
  go_enter Tryz.func43, Tryz.ntmps43
  go_wp2_with (first
    | (go_at_call 56; refine (madeS_ok g _ c0).mono ?_; rintro e w' ⟨rfl, hx⟩; rw [hx]; clear hx w')
    | (go_at_call 80; refine HC.out.mono ?_; rintro e w' ⟨rfl, hx⟩; rw [hx]; clear hx w'))
  go_ret
  exact ⟨rfl, Below.refl _ _⟩

set_option maxHeartbeats 400000 in
theorem roomS_no (v : Value) (w : World) (hn : NoS w v) : Calls Tryz.prog 43 #[v] w fun e w' => e = .returned (.int .i64 0) ∧ w' = w := by
  have HN := hidden hn
  clear hn
  go_enter Tryz.func43, Tryz.ntmps43
  go_wp2_with (go_at_call 56; refine (madeS_no v _ HN.out).mono ?_; rintro e w' ⟨rfl, hx⟩; rw [hx]; clear hx w')
  go_ret
  exact ⟨rfl, rfl⟩

set_option maxHeartbeats 400000 in
theorem hndS_ok {w : World} {g gs : Nat} {vp vf : Value} {room : Nat} {cs : List (Nat × Ce)} {fr : List Nat} (s : Stm w g gs vp vf room cs fr) : Calls Tryz.prog 33 #[.pointer (some ⟨g, 0, none⟩)] w fun e w' => ∃ a c, e = .returned (.slice a (slotsOf (cs.map pl)).length c) ∧ w'.ownsRow w.heap.size 3 1 (.slice a (slotsOf (cs.map pl)).length c) (slotsOf (cs.map pl)).length (nats (slotsOf (cs.map pl))) ∧ Below w.heap.size w w' := by
  have c0 := s.c0
  have c1 := s.c1
  have HC := hidden (slots_okC gs vp vf room _ fr w s.sl)
  clear s
  go_enter Tryz.func33, Tryz.ntmps33
  go_wp2_with (first
    | (go_at_call 56; refine (madeS_ok g _ c0).mono ?_; rintro e w' ⟨rfl, hx⟩; rw [hx]; clear hx w')
    | (go_at_call 72; refine HC.out.mono ?_; rintro e w1 ⟨a, c, rfl, o1, b1⟩))
  go_ret
  exact ⟨a, c, rfl, o1, b1⟩

set_option maxHeartbeats 400000 in
theorem hndS_no (v : Value) (w : World) (hn : NoS w v) : Calls Tryz.prog 33 #[v] w fun e w' => e = .returned (.slice none 0 0) ∧ w' = w := by
  have HN := hidden hn
  clear hn
  go_enter Tryz.func33, Tryz.ntmps33
  go_wp2_with (go_at_call 56; refine (madeS_no v _ HN.out).mono ?_; rintro e w' ⟨rfl, hx⟩; rw [hx]; clear hx w')
  go_ret
  exact ⟨rfl, rfl⟩

set_option maxHeartbeats 400000 in
theorem may_any {w : World} {v : Value} {mk : Bool} {ct : Int → Nat} {ca : Int → Ce} (V : Vw w v mk ct ca) (h : Int) : Calls Tryz.prog 144 #[v, .int .i64 h] w fun e w' => e = .returned (.bool (decide (h = 0 ∨ (ca h).ab < ct h))) ∧ Below w.heap.size w w' := by
  have HH := hidden (held_any V h)
  by_cases h0 : h = 0
  · subst h0
    have e0 : decide ((0 : Int) = 0 ∨ (ca 0).ab < ct 0) = true := by simp
    rw [e0]
    clear V e0
    go_enter Tryz.func144, Tryz.ntmps144
    go_wp2
    go_ret
    exact ⟨rfl, Below.refl _ _⟩
  · have hb0 : (h == 0) = false := by simp [h0]
    have e0 : decide (h = 0 ∨ (ca h).ab < ct h) = decide (0 < ct h - (ca h).ab) := by
      have : (h = 0 ∨ (ca h).ab < ct h) ↔ (0 < ct h - (ca h).ab) := by omega
      simp [this]
    rw [e0]
    obtain ⟨q, hq⟩ : ∃ q, q = ct h - (ca h).ab := ⟨_, rfl⟩
    rw [← hq] at HH
    rw [← hq]
    have e1 : decide ((0 : Int) < (q : Int)) = decide (0 < q) := by simp
    clear V e0 h0 hq
    go_enter Tryz.func144, Tryz.ntmps144
    go_wp2_with (go_at_call 87; refine HH.out.mono ?_; rintro e w1 ⟨rfl, b1⟩)
    go_ret
    exact ⟨rfl, b1⟩

/-- A guarded load of a row within a block. -/
theorem wpList_ldw {ops : Array Oper} {rest : List Oper} {op : Oper} {a : Act} {Q : Exit → Act → World → Prop} (w : World) (hgd : Region.wanted op (yielded ops a.tmps) = true) (ty : TypeId) (x : Operand) (ho : op.op = .load ty x)
    (b o : Nat) (hx : a.eval x = .pointer (some ⟨b, o, none⟩)) (cs : List Value) (d : TypeDesc) (hc : w.rangeAt b o cs) (hu : Tryz.prog.underlying ty = some d) (hd : d.isRow = true) (hi : (Tryz.prog.info? ty).map (·.size) = some cs.length)
    (h : wpList Tryz.prog ops Q rest (a.put op.dst (.agg cs.toArray)) w) : wpList Tryz.prog ops Q (op :: rest) a w :=
  BigFrame.wpList_want hgd fun _ hK => wp_load_mid ty x ho b o hx cs d hc hu hd hi (hK _ _ h)

/-- Whether a node may stand below one of depth d, on the side of a bit. -/
def fsP (c : Ce) (d : Nat) (b : Int) : Bool := if c.kind = 1 then decide (kb c.key d = b) else if c.kind = 2 then decide (c.dp = d + 1) && decide (kb c.key d = b) else true

theorem key_sz {c : Ce} (h : CeOk c) : (Tryz.prog.info? 72).map (·.size) = some (c.key.map (Value.int .u8)).length := by rw [List.length_map, h.hk.1]; exact size_path

set_option maxHeartbeats 1000000 in
theorem fits_any (c : Ce) (d : Nat) (b : Int) (w : World) (hc : CeOk c) (hd : d < 256) : Calls Tryz.prog 181 #[.agg (cz c).toArray, .int .i64 (d : Int), .int .i64 b] w fun e w' => e = .returned (.bool (fsP c d b)) ∧ Below w.heap.size w w' := by
  have HO := hidden hc
  have HB : Hid (∀ w', Calls Tryz.prog 201 #[.agg (B c.key), .int .i64 (d : Int)] w' fun e w'' => e = .returned (.int .i64 (kb c.key d)) ∧ Below w'.heap.size w' w'') := fun w' => bit_in c.key d w' hc.hk hd
  obtain ⟨x, hx⟩ : ∃ x, x = kb c.key d := ⟨_, rfl⟩
  rw [← hx] at HB
  have hw1 : wrap64 ((d : Int) + 1) = (d : Int) + 1 := Go.IntWalk.wrap64_in _ (by omega)
  by_cases h1 : c.kind = 1
  · have HV : Hid (fsP c d b = (x == b)) := by
      show _ = _
      rw [fsP, if_pos h1, ← hx]
      by_cases e : x = b <;> simp [e]
    rw [HV.out]
    have HK := hidden h1
    clear HV h1 hc hx hd hw1
    go_enter Tryz.func181, Tryz.ntmps181
    go_wp2_with (first
      | ((with_reducible refine at_bxd 3 ?_); refine wpList_bx _ rfl _ _ rfl _ rfl ?_; intro w1 b3 hg3 hl3 B3 b1; have HB3 := hidden B3; have c7 := B3.cell 32; simp only [List.getElem?_toArray] at c7; rw [(cz_at c HO.out).1, HK.out] at c7; clear hg3 hl3 B3)
      | ((with_reducible refine at_ldd 12 11 ?_); refine wpList_load_mid rfl _ _ rfl b3 35 rfl (c.key.map (Value.int .u8)) _ ((segK c HO.out).range HB3.out) Tryz.underlying72 rfl (key_sz HO.out) ?_)
      | (go_at_call 201; refine (HB.out _).mono ?_; rintro e w2 ⟨rfl, b2⟩))
    go_ret
    exact ⟨rfl, grow_trans b1 b2⟩
  · have n1 : (c.kind == 1) = false := by simp [h1]
    by_cases h2 : c.kind = 2
    · by_cases h3 : c.dp = d + 1
      · have HV : Hid (fsP c d b = (x == b)) := by
          show _ = _
          rw [fsP, if_neg h1, if_pos h2, ← hx]
          by_cases e : x = b <;> simp [e, h3]
        rw [HV.out]
        have HK := hidden h2
        have HD : Hid ((c.dp : Int) = (d : Int) + 1) := by show (c.dp : Int) = _; omega
        clear HV h1 n1 h2 h3 hc hx hd
        go_enter Tryz.func181, Tryz.ntmps181
        go_wp2_with (first
          | ((with_reducible refine at_bxd 3 ?_); refine wpList_bx _ rfl _ _ rfl _ rfl ?_; intro w1 b3 hg3 hl3 B3 b1; have HB3 := hidden B3; have c7 := B3.cell 32; have c8 := B3.cell 68; simp only [List.getElem?_toArray] at c7 c8; rw [(cz_at c HO.out).1, HK.out] at c7; rw [(cz_at c HO.out).2.2.2.2.1, HD.out] at c8; clear hg3 hl3 B3)
          | ((with_reducible refine at_ldd 26 25 ?_); refine wpList_ldw _ rfl _ _ rfl b3 35 rfl (c.key.map (Value.int .u8)) _ ((segK c HO.out).range HB3.out) Tryz.underlying72 rfl (key_sz HO.out) ?_)
          | (go_at_call 201; refine (HB.out _).mono ?_; rintro e w2 ⟨rfl, b2⟩))
        go_ret
        exact ⟨rfl, grow_trans b1 b2⟩
      · have HV : Hid (fsP c d b = false) := by
          show _ = _
          rw [fsP, if_neg h1, if_pos h2]
          simp [h3]
        rw [HV.out]
        have HK := hidden h2
        have hd1 : ((c.dp : Int) == (d : Int) + 1) = false := by simp; omega
        clear HV h1 n1 h2 h3 hc hx hd HB
        go_enter Tryz.func181, Tryz.ntmps181
        go_wp2_with (first
          | ((with_reducible refine at_bxd 3 ?_); refine wpList_bx _ rfl _ _ rfl _ rfl ?_; intro w1 b3 hg3 hl3 B3 b1; have c7 := B3.cell 32; have c8 := B3.cell 68; simp only [List.getElem?_toArray] at c7 c8; rw [(cz_at c HO.out).1, HK.out] at c7; rw [(cz_at c HO.out).2.2.2.2.1] at c8; clear hg3 hl3 B3))
        go_ret
        exact ⟨rfl, b1⟩
    · have n2 : (c.kind == 2) = false := by simp [h2]
      have HV : Hid (fsP c d b = true) := by
        show _ = _
        rw [fsP, if_neg h1, if_neg h2]
      rw [HV.out]
      obtain ⟨k, hk⟩ : ∃ k, k = c.kind := ⟨_, rfl⟩
      have HK := hidden hk
      rw [← hk] at n1 n2
      clear HV h1 h2 hc hx hd HB hk
      go_enter Tryz.func181, Tryz.ntmps181
      go_wp2_with (first
        | ((with_reducible refine at_bxd 3 ?_); refine wpList_bx _ rfl _ _ rfl _ rfl ?_; intro w1 b3 hg3 hl3 B3 b1; have c7 := B3.cell 32; simp only [List.getElem?_toArray] at c7; rw [(cz_at c HO.out).1, ← HK.out] at c7; clear hg3 hl3 B3))
      go_ret
      exact ⟨rfl, b1⟩

end Go.Proofs.YtkhinjkcfjncgaaGreatDoor

/- Calls of a store, as contracts: whether sides fit a depth; a node that is a side once more, or once less. -/
namespace Go.Proofs.YtkhinjkcfjncgaaGreatDoor
set_option maxRecDepth 20000
open Go.RowKit

/-- Whether sides fit a depth; u: whether their keys have the same first bits. -/
def fitP (d : Nat) (L R : Ce) (u : Bool) : Bool := decide (2 ≤ L.sz + R.sz) && (fsP L d 0 && (fsP R d 1 && (decide (L.kind = 0) || (decide (R.kind = 0) || u))))

set_option maxHeartbeats 2000000 in
theorem fit_any (d : Nat) (L R : Ce) (u : Bool) (w : World) (hL : CeOk L) (hR : CeOk R) (hd : d < 256) (sL : L.sz ≤ 65536) (sR : R.sz ≤ 65536) (hu : u = true ↔ Und L.key R.key (d : Int)) : Calls Tryz.prog 145 #[.int .i64 (d : Int), .agg (cz L).toArray, .agg (cz R).toArray] w fun e w' => e = .returned (.bool (fitP d L R u)) ∧ Below w.heap.size w w' := by
  have HOL := hidden hL
  have HOR := hidden hR
  have HFL : Hid (∀ w', Calls Tryz.prog 181 #[.agg (cz L).toArray, .int .i64 (d : Int), .int .i64 0] w' fun e w'' => e = .returned (.bool (fsP L d 0)) ∧ Below w'.heap.size w' w'') := fun w' => fits_any L d 0 w' hL hd
  have HFR : Hid (∀ w', Calls Tryz.prog 181 #[.agg (cz R).toArray, .int .i64 (d : Int), .int .i64 1] w' fun e w'' => e = .returned (.bool (fsP R d 1)) ∧ Below w'.heap.size w' w'') := fun w' => fits_any R d 1 w' hR hd
  have HU : Hid (∀ w', Calls Tryz.prog 182 #[.agg (B L.key), .agg (B R.key), .int .i64 (d : Int)] w' fun e w'' => e = .returned (.bool u) ∧ Below w'.heap.size w' w'') := fun w' => under_at L.key R.key d u w' hL.hk hR.hk hu
  have hws : wrap64 ((L.sz : Int) + (R.sz : Int)) = (L.sz : Int) + (R.sz : Int) := Go.IntWalk.wrap64_in _ (by omega)
  have hV : fitP d L R u = (decide (2 ≤ L.sz + R.sz) && (fsP L d 0 && (fsP R d 1 && (decide (L.kind = 0) || (decide (R.kind = 0) || u))))) := rfl
  obtain ⟨kL, hkL⟩ : ∃ k, k = L.kind := ⟨_, rfl⟩
  obtain ⟨kR, hkR⟩ : ∃ k, k = R.kind := ⟨_, rfl⟩
  obtain ⟨zL, hzL⟩ : ∃ k, k = L.sz := ⟨_, rfl⟩
  obtain ⟨zR, hzR⟩ : ∃ k, k = R.sz := ⟨_, rfl⟩
  rw [← hkL, ← hkR, ← hzL, ← hzR] at hV
  rw [← hzL, ← hzR] at hws
  have HkL := hidden hkL
  have HkR := hidden hkR
  have HzL := hidden hzL
  have HzR := hidden hzR
  clear hkL hkR hzL hzR hu sL sR hL hR hd
  by_cases h2 : 2 ≤ zL + zR
  · have i2 : ¬ (zL : Int) + (zR : Int) < 2 := by omega
    cases hfL : fsP L d 0 with
    | false =>
      rw [show fitP d L R u = false by rw [hV, hfL]; simp]
      clear hV h2
      go_enter Tryz.func145, Tryz.ntmps145
      go_wp2_with (first
        | ((with_reducible refine at_bxd 4 ?_); refine wpList_bx _ rfl _ _ rfl _ rfl ?_; intro w1 b4 hg4 hl4 B4 b1; have HB4 := hidden B4; have Hl4 := hidden hl4; clear hg4 hl4 B4)
        | ((with_reducible refine at_bxd 5 ?_); refine wpList_bx _ rfl _ _ rfl _ rfl ?_; intro w2 b5 hg5 hl5 B5 b2; have HB5 := hidden B5; have HB4' := hidden (HB4.out.grow b2); have e4 := HB4'.out.cell 34; have e5 := HB5.out.cell 34; simp only [List.getElem?_toArray] at e4 e5; rw [(cz_at L HOL.out).2.2.1, ← HzL.out] at e4; rw [(cz_at R HOR.out).2.2.1, ← HzR.out] at e5; have Hb2 := hidden (grow_trans b1 b2); clear hg5 hl5 B5 b2 b1)
        | ((with_reducible refine at_ldd 13 4 ?_); refine wpList_load_mid rfl _ _ rfl b4 0 rfl (cz L) _ HB4'.out.range Tryz.underlying114 rfl (xszC _ (cz_th HOL.out)) ?_)
        | (go_at_call 181; refine (HFL.out _).mono ?_; rw [hfL]; rintro e w3 ⟨rfl, b3⟩; have HB4m := hidden (HB4'.out.grow b3); have HB5m := hidden (HB5.out.grow b3); have Hb3 := hidden b3; have m1 : Hid True := trivial; clear b3))
      go_ret
      exact ⟨rfl, grow_trans Hb2.out Hb3.out⟩
    | true =>
      cases hfR : fsP R d 1 with
      | false =>
        rw [show fitP d L R u = false by rw [hV, hfL, hfR]; simp]
        clear hV h2
        go_enter Tryz.func145, Tryz.ntmps145
        go_wp2_with (first
          | ((with_reducible refine at_bxd 4 ?_); refine wpList_bx _ rfl _ _ rfl _ rfl ?_; intro w1 b4 hg4 hl4 B4 b1; have HB4 := hidden B4; have Hl4 := hidden hl4; clear hg4 hl4 B4)
          | ((with_reducible refine at_bxd 5 ?_); refine wpList_bx _ rfl _ _ rfl _ rfl ?_; intro w2 b5 hg5 hl5 B5 b2; have HB5 := hidden B5; have HB4' := hidden (HB4.out.grow b2); have e4 := HB4'.out.cell 34; have e5 := HB5.out.cell 34; simp only [List.getElem?_toArray] at e4 e5; rw [(cz_at L HOL.out).2.2.1, ← HzL.out] at e4; rw [(cz_at R HOR.out).2.2.1, ← HzR.out] at e5; have Hb2 := hidden (grow_trans b1 b2); clear hg5 hl5 B5 b2 b1)
          | ((with_reducible refine at_ldd 13 4 ?_); refine wpList_load_mid rfl _ _ rfl b4 0 rfl (cz L) _ HB4'.out.range Tryz.underlying114 rfl (xszC _ (cz_th HOL.out)) ?_)
          | (go_at_call 181; have mk := m1; clear mk; refine (HFR.out _).mono ?_; rw [hfR]; rintro e w4 ⟨rfl, b4'⟩; have HB4n := hidden (HB4m.out.grow b4'); have HB5n := hidden (HB5m.out.grow b4'); have Hb4' := hidden b4'; have k4 := HB4n.out.cell 32; have k5 := HB5n.out.cell 32; simp only [List.getElem?_toArray] at k4 k5; rw [(cz_at L HOL.out).1, ← HkL.out] at k4; rw [(cz_at R HOR.out).1, ← HkR.out] at k5; clear b4')
          | (go_at_call 181; refine (HFL.out _).mono ?_; rw [hfL]; rintro e w3 ⟨rfl, b3⟩; have HB4m := hidden (HB4'.out.grow b3); have HB5m := hidden (HB5.out.grow b3); have Hb3 := hidden b3; have m1 : Hid True := trivial; clear b3)
          | ((with_reducible refine at_ldd 18 5 ?_); refine wpList_ldw _ rfl _ _ rfl b5 0 rfl (cz R) _ HB5m.out.range Tryz.underlying114 rfl (xszC _ (cz_th HOR.out)) ?_))
        go_ret
        exact ⟨rfl, grow_trans (grow_trans Hb2.out Hb3.out) Hb4'.out⟩
      | true =>
        by_cases k0 : kL = 0
        · rw [show fitP d L R u = true by rw [hV, hfL, hfR]; simp [h2, k0]]
          clear hV h2
          subst k0
          go_enter Tryz.func145, Tryz.ntmps145
          go_wp2_with (first
            | ((with_reducible refine at_bxd 4 ?_); refine wpList_bx _ rfl _ _ rfl _ rfl ?_; intro w1 b4 hg4 hl4 B4 b1; have HB4 := hidden B4; have Hl4 := hidden hl4; clear hg4 hl4 B4)
            | ((with_reducible refine at_bxd 5 ?_); refine wpList_bx _ rfl _ _ rfl _ rfl ?_; intro w2 b5 hg5 hl5 B5 b2; have HB5 := hidden B5; have HB4' := hidden (HB4.out.grow b2); have e4 := HB4'.out.cell 34; have e5 := HB5.out.cell 34; simp only [List.getElem?_toArray] at e4 e5; rw [(cz_at L HOL.out).2.2.1, ← HzL.out] at e4; rw [(cz_at R HOR.out).2.2.1, ← HzR.out] at e5; have Hb2 := hidden (grow_trans b1 b2); clear hg5 hl5 B5 b2 b1)
            | ((with_reducible refine at_ldd 13 4 ?_); refine wpList_load_mid rfl _ _ rfl b4 0 rfl (cz L) _ HB4'.out.range Tryz.underlying114 rfl (xszC _ (cz_th HOL.out)) ?_)
            | (go_at_call 181; have mk := m1; clear mk; refine (HFR.out _).mono ?_; rw [hfR]; rintro e w4 ⟨rfl, b4'⟩; have HB4n := hidden (HB4m.out.grow b4'); have HB5n := hidden (HB5m.out.grow b4'); have Hb4' := hidden b4'; have k4 := HB4n.out.cell 32; have k5 := HB5n.out.cell 32; simp only [List.getElem?_toArray] at k4 k5; rw [(cz_at L HOL.out).1, ← HkL.out] at k4; rw [(cz_at R HOR.out).1, ← HkR.out] at k5; clear b4')
            | (go_at_call 181; refine (HFL.out _).mono ?_; rw [hfL]; rintro e w3 ⟨rfl, b3⟩; have HB4m := hidden (HB4'.out.grow b3); have HB5m := hidden (HB5.out.grow b3); have Hb3 := hidden b3; have m1 : Hid True := trivial; clear b3)
            | ((with_reducible refine at_ldd 18 5 ?_); refine wpList_ldw _ rfl _ _ rfl b5 0 rfl (cz R) _ HB5m.out.range Tryz.underlying114 rfl (xszC _ (cz_th HOR.out)) ?_))
          go_ret
          exact ⟨rfl, grow_trans (grow_trans Hb2.out Hb3.out) Hb4'.out⟩
        · have k0b : (kL == 0) = false := by simp [k0]
          by_cases k1 : kR = 0
          · rw [show fitP d L R u = true by rw [hV, hfL, hfR]; simp [h2, k1]]
            clear hV h2 k0
            subst k1
            go_enter Tryz.func145, Tryz.ntmps145
            go_wp2_with (first
              | ((with_reducible refine at_bxd 4 ?_); refine wpList_bx _ rfl _ _ rfl _ rfl ?_; intro w1 b4 hg4 hl4 B4 b1; have HB4 := hidden B4; have Hl4 := hidden hl4; clear hg4 hl4 B4)
              | ((with_reducible refine at_bxd 5 ?_); refine wpList_bx _ rfl _ _ rfl _ rfl ?_; intro w2 b5 hg5 hl5 B5 b2; have HB5 := hidden B5; have HB4' := hidden (HB4.out.grow b2); have e4 := HB4'.out.cell 34; have e5 := HB5.out.cell 34; simp only [List.getElem?_toArray] at e4 e5; rw [(cz_at L HOL.out).2.2.1, ← HzL.out] at e4; rw [(cz_at R HOR.out).2.2.1, ← HzR.out] at e5; have Hb2 := hidden (grow_trans b1 b2); clear hg5 hl5 B5 b2 b1)
              | ((with_reducible refine at_ldd 13 4 ?_); refine wpList_load_mid rfl _ _ rfl b4 0 rfl (cz L) _ HB4'.out.range Tryz.underlying114 rfl (xszC _ (cz_th HOL.out)) ?_)
              | (go_at_call 181; have mk := m1; clear mk; refine (HFR.out _).mono ?_; rw [hfR]; rintro e w4 ⟨rfl, b4'⟩; have HB4n := hidden (HB4m.out.grow b4'); have HB5n := hidden (HB5m.out.grow b4'); have Hb4' := hidden b4'; have k4 := HB4n.out.cell 32; have k5 := HB5n.out.cell 32; simp only [List.getElem?_toArray] at k4 k5; rw [(cz_at L HOL.out).1, ← HkL.out] at k4; rw [(cz_at R HOR.out).1, ← HkR.out] at k5; clear b4')
              | (go_at_call 181; refine (HFL.out _).mono ?_; rw [hfL]; rintro e w3 ⟨rfl, b3⟩; have HB4m := hidden (HB4'.out.grow b3); have HB5m := hidden (HB5.out.grow b3); have Hb3 := hidden b3; have m1 : Hid True := trivial; clear b3)
              | ((with_reducible refine at_ldd 18 5 ?_); refine wpList_ldw _ rfl _ _ rfl b5 0 rfl (cz R) _ HB5m.out.range Tryz.underlying114 rfl (xszC _ (cz_th HOR.out)) ?_))
            go_ret
            exact ⟨rfl, grow_trans (grow_trans Hb2.out Hb3.out) Hb4'.out⟩
          · have k1b : (kR == 0) = false := by simp [k1]
            rw [show fitP d L R u = u by rw [hV, hfL, hfR]; simp [h2, k0, k1]]
            clear hV h2 k0 k1
            go_enter Tryz.func145, Tryz.ntmps145
            go_wp2_with (first
              | ((with_reducible refine at_bxd 4 ?_); refine wpList_bx _ rfl _ _ rfl _ rfl ?_; intro w1 b4 hg4 hl4 B4 b1; have HB4 := hidden B4; have Hl4 := hidden hl4; clear hg4 hl4 B4)
              | ((with_reducible refine at_bxd 5 ?_); refine wpList_bx _ rfl _ _ rfl _ rfl ?_; intro w2 b5 hg5 hl5 B5 b2; have HB5 := hidden B5; have HB4' := hidden (HB4.out.grow b2); have e4 := HB4'.out.cell 34; have e5 := HB5.out.cell 34; simp only [List.getElem?_toArray] at e4 e5; rw [(cz_at L HOL.out).2.2.1, ← HzL.out] at e4; rw [(cz_at R HOR.out).2.2.1, ← HzR.out] at e5; have Hb2 := hidden (grow_trans b1 b2); clear hg5 hl5 B5 b2 b1)
              | ((with_reducible refine at_ldd 13 4 ?_); refine wpList_load_mid rfl _ _ rfl b4 0 rfl (cz L) _ HB4'.out.range Tryz.underlying114 rfl (xszC _ (cz_th HOL.out)) ?_)
              | (go_at_call 181; have mk := m1; clear mk; refine (HFR.out _).mono ?_; rw [hfR]; rintro e w4 ⟨rfl, b4'⟩; have HB4n := hidden (HB4m.out.grow b4'); have HB5n := hidden (HB5m.out.grow b4'); have Hb4' := hidden b4'; have k4 := HB4n.out.cell 32; have k5 := HB5n.out.cell 32; simp only [List.getElem?_toArray] at k4 k5; rw [(cz_at L HOL.out).1, ← HkL.out] at k4; rw [(cz_at R HOR.out).1, ← HkR.out] at k5; clear b4')
              | (go_at_call 181; refine (HFL.out _).mono ?_; rw [hfL]; rintro e w3 ⟨rfl, b3⟩; have HB4m := hidden (HB4'.out.grow b3); have HB5m := hidden (HB5.out.grow b3); have Hb3 := hidden b3; have m1 : Hid True := trivial; clear b3)
              | ((with_reducible refine at_ldd 18 5 ?_); refine wpList_ldw _ rfl _ _ rfl b5 0 rfl (cz R) _ HB5m.out.range Tryz.underlying114 rfl (xszC _ (cz_th HOR.out)) ?_)
              | ((with_reducible refine at_ldd 33 32 ?_); refine wpList_ldw _ rfl _ _ rfl b4 35 rfl (L.key.map (Value.int .u8)) _ ((segK L HOL.out).range HB4n.out) Tryz.underlying72 rfl (key_sz HOL.out) ?_)
              | ((with_reducible refine at_ldd 35 34 ?_); refine wpList_ldw _ rfl _ _ rfl b5 35 rfl (R.key.map (Value.int .u8)) _ ((segK R HOR.out).range HB5n.out) Tryz.underlying72 rfl (key_sz HOR.out) ?_)
              | (go_at_call 182; refine (HU.out _).mono ?_; rintro e w5 ⟨rfl, b5'⟩))
            go_ret
            exact ⟨rfl, grow_trans (grow_trans (grow_trans Hb2.out Hb3.out) Hb4'.out) b5'⟩
  · have i2 : (zL : Int) + (zR : Int) < 2 := by omega
    rw [show fitP d L R u = false by rw [hV]; simp [h2]]
    clear hV h2
    go_enter Tryz.func145, Tryz.ntmps145
    go_wp2_with (first
      | ((with_reducible refine at_bxd 4 ?_); refine wpList_bx _ rfl _ _ rfl _ rfl ?_; intro w1 b4 hg4 hl4 B4 b1; have HB4 := hidden B4; have Hl4 := hidden hl4; clear hg4 hl4 B4)
      | ((with_reducible refine at_bxd 5 ?_); refine wpList_bx _ rfl _ _ rfl _ rfl ?_; intro w2 b5 hg5 hl5 B5 b2; have HB5 := hidden B5; have HB4' := hidden (HB4.out.grow b2); have e4 := HB4'.out.cell 34; have e5 := HB5.out.cell 34; simp only [List.getElem?_toArray] at e4 e5; rw [(cz_at L HOL.out).2.2.1, ← HzL.out] at e4; rw [(cz_at R HOR.out).2.2.1, ← HzR.out] at e5; have Hb2 := hidden (grow_trans b1 b2); clear hg5 hl5 B5 b2 b1))
    go_ret
    exact ⟨rfl, Hb2.out⟩

theorem cz_setAb (c : Ce) (h : c.dig.length = 32) (n : Nat) : (cz c).set 33 (.int .i64 (n : Int)) = cz (reAb c n) := by
  have h1 : (c.dig.map (Value.int .u8)).length = 32 := by simp [h]
  unfold cz reAb
  rw [List.set_append_right _ _ (by omega), h1]
  rfl

theorem reAb_ok {c : Ce} (h : CeOk c) (n : Nat) : CeOk (reAb c n) := ⟨h.ld, h.bd, h.hk, h.vs⟩

set_option maxHeartbeats 1000000 in
theorem above_out {w : World} {g gs : Nat} {vp vf : Value} {room : Nat} {cs : List (Nat × Ce)} {fr : List Nat} (s : Stm w g gs vp vf room cs fr) (hw : Wz cs) (h m : Int) (hc : cot cs h = 0) : Calls Tryz.prog 147 #[.pointer (some ⟨g, 0, none⟩), .int .i64 h, .int .i64 m] w fun e w' => e = .returned (.tuple #[]) ∧ Below w.heap.size w w' := by
  have c1 := s.c1
  have HG := hidden (get_any s hw h)
  rw [if_pos hc] at HG
  have hz := cz_th (hw.catOk h)
  generalize cz (cat cs h) = z at HG hz
  have HZ := hidden hz
  clear s hw hz hc
  go_enter Tryz.func147, Tryz.ntmps147
  go_wp2_with (first
    | (go_at_call 155; refine HG.out.mono ?_; rintro e w2 ⟨rfl, b2⟩; have Hb2 := hidden b2; clear b2)
    | ((with_reducible refine at_ald 6 ?_); refine wpList_al _ rfl _ rfl _ zero_thC ?_; intro w3 b6 hg6 hl6 B6 b3; have Hb3 := hidden b3; have HB6 := hidden B6; have Hg6 := hidden hg6; clear b3 B6 hg6 hl6)
    | ((with_reducible refine at_st 6 ?_); refine wpList_sto _ rfl _ _ _ rfl b6 _ z.toArray rfl rfl HB6.out (xszC z HZ.out) (xzsC z HZ.out) (all_oneCell_toArray HZ.out.2) ?_; intro w4 B7 g7))
  refine bodyPost_ret (results_none rfl _ _ _) rfl ?_
  exact ⟨rfl, below_row (grow_trans Hb2.out Hb3.out) g7 (by have := Hg6.out; have := Hb2.out.size; omega)⟩

set_option maxHeartbeats 2000000 in
theorem above_in {w : World} {g gs : Nat} {vp vf : Value} {room : Nat} {cs : List (Nat × Ce)} {fr : List Nat} (s : Stm w g gs vp vf room cs fr) (hw : Wz cs) (i n : Nat) (m : Int) (hc : 0 < cc cs i) (hn : ((ce cs i).ab : Int) + m = (n : Int)) (hn2 : n ≤ 2147483648) : Calls Tryz.prog 147 #[.pointer (some ⟨g, 0, none⟩), .int .i64 ((i : Int) + 1), .int .i64 m] w fun e w' => e = .returned (.tuple #[]) ∧ STurn w g gs (stB g gs vp vf cs) room (setA cs (i + 1) n) fr w' := by
  have HS : Hid (∀ w', Below w.heap.size w w' → Stm w' g gs vp vf room cs fr) := fun w' hb => s.grow hb
  have c1 := s.c1
  have HG := hidden (get_any s hw ((i : Int) + 1))
  have hot : cot cs ((i : Int) + 1) = cc cs i := by unfold cot; rw [if_pos (by omega), show ((i : Int) + 1 - 1).toNat = i by omega]
  have hat : cat cs ((i : Int) + 1) = ce cs i := by unfold cat; rw [if_pos (by omega), show ((i : Int) + 1 - 1).toNat = i by omega]
  rw [hot, if_neg (by omega), hat] at HG
  have HSet : Hid (∀ w', Below w.heap.size w w' → Calls Tryz.prog 185 #[.pointer (some ⟨gs, 0, none⟩), .int .i64 ((i : Int) + 1), .agg (cz (reAb (ce cs i) n)).toArray] w' fun e w'' => e = .returned (.int .i64 0) ∧ STurn w g gs (stB g gs vp vf cs) room (setA cs (i + 1) n) fr w'') := by
    intro w' hb
    refine (set_okC gs vp vf room _ fr _ i (cz (reAb (ce cs i) n)) (cz_th (reAb_ok (hw.ok i) n)) w' (s.grow hb).sl rfl (by rw [cnt_pl]; exact hc)).mono ?_
    rintro e w'' ⟨rfl, t⟩
    rw [cnt_pl, map_set] at t
    refine ⟨rfl, (s.grow hb).turn' hb t (fun j => .inr ⟨j, ?_⟩)⟩
    have hcore : Core (ce cs j) (ce (setA cs (i + 1) n) j) := setA_core cs (i + 1) n j
    rw [hcore]
    exact ⟨rfl, rfl⟩
  have HO := hidden (hw.ok i)
  obtain ⟨c, hcc⟩ : ∃ c, c = ce cs i := ⟨_, rfl⟩
  rw [← hcc] at HG HSet HO hn
  have hwn : wrap64 ((c.ab : Int) + m) = (n : Int) := by rw [hn]; exact Go.IntWalk.wrap64_in _ (by omega)
  have HZA := hidden (cz_setAb c HO.out.ld n)
  clear s hw hc hn hn2 hot hat hcc
  go_enter Tryz.func147, Tryz.ntmps147
  go_wp2_with (first
    | (go_at_call 155; refine HG.out.mono ?_; rintro e w2 ⟨rfl, b2⟩; have Hb2 := hidden b2; clear b2)
    | ((with_reducible refine at_ald 6 ?_); refine wpList_al _ rfl _ rfl _ zero_thC ?_; intro w3 b6 hg6 hl6 B6 b3; have Hb3 := hidden b3; have HB6 := hidden B6; have Hg6 := hidden hg6; clear b3 B6 hg6 hl6)
    | ((with_reducible refine at_st 6 ?_); refine wpList_sto _ rfl _ _ _ rfl b6 _ (cz c).toArray rfl rfl HB6.out (xszC _ (cz_th HO.out)) (xzsC _ (cz_th HO.out)) (all_oneCell_toArray (cz_one HO.out)) ?_; intro w4 B7 g7; have c7 := B7.cell 33; have f7 := B7.frozen 33; simp only [List.getElem?_toArray] at c7; rw [(cz_at c HO.out).2.1] at c7; have HB7 := hidden B7; have Hb7 := hidden (below_row (grow_trans Hb2.out Hb3.out) g7 (by have := Hg6.out; have := Hb2.out.size; omega)); clear B7 g7))
  have hb8 : w.heap.size ≤ b6 := by have := Hg6.out; have := Hb2.out.size; omega
  have HB8 : Hid (Blk (w4.setCell ⟨b6, 33, none⟩ (.int .i64 (n : Int))) b6 114 (cz (reAb c n)).toArray) := by
    have := HB7.out.set 33 (.int .i64 (n : Int))
    rw [List.setIfInBounds_toArray, HZA.out] at this
    exact this
  have Hb8 := hidden (setCell_below 33 (.int .i64 (n : Int)) Hb7.out hb8)
  generalize w4.setCell ⟨b6, 33, none⟩ (.int .i64 (n : Int)) = w5 at *
  have HB9 : Hid (Below w.heap.size w w5.drew) := below_drewN Hb8.out 1
  have HS0 : Hid (w5.drew.cell? ⟨g, 1, none⟩ = some (.pointer (some ⟨gs, 0, none⟩)) ∧ w5.drew.rangeAt b6 0 (cz (reAb c n))) := ⟨(HS.out _ HB9.out).c1, HB8.out.drew.range⟩
  refine wp_region_last (S := fun w' => w'.cell? ⟨g, 1, none⟩ = some (.pointer (some ⟨gs, 0, none⟩)) ∧ w'.rangeAt b6 0 (cz (reAb c n))) 6 (by kernel_rfl) (HS0.out) (fun hHeld => ?_)
  refine wpAnyL_take (i := 0) (v := .pointer (some ⟨g, 0, none⟩)) rfl (by kernel_rfl) (by kernel_rfl) (by kernel_rfl) (by kernel_rfl) (by kernel_rfl) (fun _ _ _ h => h) (Or.inl ⟨by rfl, fun w hS => by go_simp⟩) hHeld ?_
  simp only [Act.put, List.getElem_toArray, List.getElem_cons_zero, List.setIfInBounds_toArray, List.set_cons_zero, List.set_cons_succ]
  refine wpAnyL_take (i := 1) (v := .pointer (some ⟨g, 0, none⟩)) rfl (by kernel_rfl) (by kernel_rfl) (by kernel_rfl) (by kernel_rfl) (by kernel_rfl) (fun _ _ _ h => h) (Or.inl ⟨by rfl, fun w hS => by go_simp⟩) hHeld ?_
  simp only [Act.put, List.getElem_toArray, List.getElem_cons_zero, List.getElem_cons_succ, List.setIfInBounds_toArray, List.set_cons_zero, List.set_cons_succ]
  refine wpAnyL_take (i := 2) (v := .pointer (some ⟨g, 1, none⟩)) rfl (by kernel_rfl) (by kernel_rfl) (by kernel_rfl) (by kernel_rfl) (by kernel_rfl) (fun _ _ _ h => h) (Or.inl ⟨by rfl, fun w hS => by go_simp⟩) hHeld ?_
  simp only [Act.put, List.getElem_toArray, List.getElem_cons_zero, List.getElem_cons_succ, List.setIfInBounds_toArray, List.set_cons_zero, List.set_cons_succ]
  refine wpAnyL_take (i := 3) (v := .pointer (some ⟨gs, 0, none⟩)) rfl (by kernel_rfl) (by kernel_rfl) (by kernel_rfl) (by kernel_rfl) (by kernel_rfl) (fun _ _ _ h => h) (Or.inl ⟨by rfl, fun w hS => by (have q1 := hS.1; go_simp)⟩) hHeld ?_
  simp only [Act.put, List.getElem_toArray, List.getElem_cons_zero, List.getElem_cons_succ, List.setIfInBounds_toArray, List.set_cons_zero, List.set_cons_succ]
  refine wpAnyL_take (i := 4) (v := .int .i64 ((i : Int) + 1)) rfl (by kernel_rfl) (by kernel_rfl) (by kernel_rfl) (by kernel_rfl) (by kernel_rfl) (fun _ _ _ h => h) (Or.inl ⟨by rfl, fun w hS => by go_simp⟩) hHeld ?_
  simp only [Act.put, List.getElem_toArray, List.getElem_cons_zero, List.getElem_cons_succ, List.setIfInBounds_toArray, List.set_cons_zero, List.set_cons_succ]
  refine wpAnyL_take (i := 5) (v := .agg (cz (reAb c n)).toArray) rfl (by kernel_rfl) (by kernel_rfl) (by kernel_rfl) (by kernel_rfl) (by kernel_rfl) (fun _ _ _ h => h) (yieldsIf_load_mid rfl 114 (.tmp 6) rfl b6 0 rfl (cz (reAb c n)) _ (fun w hS => hS.2) Tryz.underlying114 rfl (xszC _ (cz_th (reAb_ok HO.out n)))) hHeld ?_
  simp only [Act.put, List.getElem_toArray, List.getElem_cons_zero, List.getElem_cons_succ, List.setIfInBounds_toArray, List.set_cons_zero, List.set_cons_succ]
  refine wpAnyL_last rfl (by kernel_rfl) (by kernel_rfl) (fun KQ hK => ?_)
  go_simp
  refine (HSet.out _ HB9.out).mono ?_
  rintro e w9 ⟨rfl, ht⟩
  have HT := hidden ht
  clear ht
  refine hK.out _ _ ?_
  clear hK KQ
  go_wp2
  go_end0
  exact ⟨rfl, HT.out⟩

end Go.Proofs.YtkhinjkcfjncgaaGreatDoor

/- What stands in every later world: facts that a walk carries on from call to call. -/
namespace Go.Proofs.YtkhinjkcfjncgaaGreatDoor
set_option maxRecDepth 20000
open Go.RowKit

def Kp (w : World) (P : World → Prop) : Prop := ∀ w', Below w.heap.size w w' → P w'
theorem Kp.now {w : World} {P : World → Prop} (h : Kp w P) : P w := h w (Below.refl _ _)
theorem Kp.step {w w1 : World} {P : World → Prop} (h : Kp w P) (q : Below w.heap.size w w1) : Kp w1 P := fun w' h' => h w' (grow_trans q h')
theorem Kp.mono {w : World} {P Q : World → Prop} (h : Kp w P) (q : ∀ w', P w' → Q w') : Kp w Q := fun w' h' => q w' (h w' h')
theorem Blk.kp {w : World} {g : Nat} {t : TypeId} {cs : Array Value} (h : Blk w g t cs) : Kp w (fun w' => Blk w' g t cs) := fun _ q => h.grow q
theorem Reads.kp {w : World} {v : Value} {zs : List Int} (h : Reads w v zs) : Kp w (fun w' => Reads w' v zs) := fun _ q => h.grow q
theorem Own.kp {b : Nat} {w : World} {v : Value} {zs sp : List Int} (h : Own b w v zs sp) : Kp w (fun w' => Own b w' v zs sp) := fun _ q => h.grow q
theorem Laid.kp {w : World} (h : Laid w) : Kp w Laid := fun _ q => h.grow q
theorem below_kp (w : World) : Kp w (fun w' => Below w.heap.size w w') := fun _ q => q
theorem row_kp {w : World} {g : Nat} {zs : List Int} (h : Row w g zs) : Kp w (fun w' => Row w' g zs) := fun _ q => h.of_block (q.block g h.lt)

end Go.Proofs.YtkhinjkcfjncgaaGreatDoor
