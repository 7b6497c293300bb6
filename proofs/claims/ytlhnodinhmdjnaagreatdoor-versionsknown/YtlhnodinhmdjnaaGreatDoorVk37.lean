/- The literal []byte("x"): a new row of one byte, marked as a text's. -/
import Derived.Test.YtlhnodinhmdjnaaGreatDoorVk01
import Derived.Test.YtlhnodinhmdjnaaGreatDoorVk02
import Derived.Test.YtlhnodinhmdjnaaGreatDoorVk36
import Derived.Test.YtlhnodinhmdjnaaGreatDoorVk07
namespace Go.Proofs.YtlhnodinhmdjnaaGreatDoor
set_option maxRecDepth 20000
open Go.RowKit


/-- A list of one byte, made of a text. -/
def fz14 (w : World) (z : Int) : World := (w.alloc (.cells #[.int .u8 z] 5)).freeze ⟨w.heap.size, 1, none⟩ 1
theorem fz_heap14 (w : World) (z : Int) : (fz14 w z).heap = w.heap.push (.cells #[.int .u8 z] 5 (1, 2)) := by
  unfold fz14 World.freeze
  rw [if_neg (by decide)]
  apply Array.ext
  · simp
  · intro i h1 h2
    simp only [World.alloc, Array.getElem_modify, Array.getElem_push]
    by_cases h : w.heap.size = i
    · subst h
      simp
    · have hi : i < w.heap.size := by
        simp at h1
        omega
      simp [h, hi]
theorem fz_low14 (w : World) (z : Int) : Below w.heap.size w (fz14 w z) := by
  have h := fz_heap14 w z
  refine ⟨?_, ?_, ?_, ?_, fun k hk => ?_⟩
  · unfold fz14 World.freeze
    rw [if_neg (by decide)]
    rfl
  · unfold fz14 World.freeze
    rw [if_neg (by decide)]
    rfl
  · unfold fz14 World.freeze
    rw [if_neg (by decide)]
    rfl
  · rw [h]
    simp
  · rw [h, Array.getElem?_push_lt hk, Array.getElem?_eq_getElem hk]
theorem fz_reads14 (w : World) (z : Int) (hz : 0 ≤ z ∧ z ≤ 255) : Reads (fz14 w z) (.slice (some ⟨w.heap.size, 0, none⟩) 1 1) [z] := by
  refine ⟨some ⟨w.heap.size, 0, none⟩, 1, rfl, Nat.le_refl _, (fun e => by cases e), (fun x hx => ?_), fun _ => ⟨w.heap.size, 0, rfl, fun i hi => ?_⟩⟩
  · obtain rfl : x = z := by simpa using hx
    exact hz
  · obtain rfl : i = 0 := by
      have : i < 1 := hi
      omega
    unfold World.cell?
    rw [fz_heap14]
    simp
theorem conv_mark14 (w : World) (z : Int) : (convert 35 35 (.slice (some ⟨w.heap.size, 0, none⟩) 1 1)).run Tryz.prog (w.alloc (.cells #[.int .u8 z] 5)) = .ok (.slice (some ⟨w.heap.size, 0, none⟩) 1 1) (fz14 w z) := by
  have hsh : (w.alloc (.cells #[Value.int .u8 z] 5)).shape? w.heap.size = some (5, 1) := by
    have : (w.alloc (.cells #[Value.int .u8 z] 5)).heap[w.heap.size]? = some (.cells #[Value.int .u8 z] 5) := Blk.new w _ _
    unfold World.shape?
    rw [this]
    rfl
  simp [convert, run_underlying Tryz.underlying35, run_underlying Tryz.underlying5, markStringish, hsh]
  rfl


end Go.Proofs.YtlhnodinhmdjnaaGreatDoor

/- The law's one and awake, as contracts. -/
namespace Go.Proofs.YtlhnodinhmdjnaaGreatDoor
set_option maxRecDepth 20000
open Go.RowKit

/-- The tree of the one entry. -/
abbrev T1 : Tre := .lf z32 [118]
/-- Behind one: names ms, the one leaf. -/
def On (w w' : World) (X : List Nat) (gv b g gs : Nat) (ms : Nms) (G : List UInt8 → Tre) (hd n l : Nat) (T : Tre) : Prop := ∃ cs fr, Sv w w' X gv b g gs 600 ms G hd T cs fr ∧ noc cs = n ∧ cs.length ≤ l
theorem On.grow {w w' w'' : World} {X : List Nat} {gv b g gs : Nat} {ms : Nms} {G : List UInt8 → Tre} {hd n l : Nat} {T : Tre} (h : On w w' X gv b g gs ms G hd n l T) (hb : Below w'.heap.size w' w'') : On w w'' X gv b g gs ms G hd n l T := by
  obtain ⟨cs, fr, h, h1, h2⟩ := h
  exact ⟨cs, fr, h.grow hb, h1, h2⟩
theorem On.low {w w' : World} {X : List Nat} {gv b g gs : Nat} {ms : Nms} {G : List UInt8 → Tre} {hd n l : Nat} {T : Tre} (h : On w w' X gv b g gs ms G hd n l T) : Below w.heap.size w w' := by
  obtain ⟨cs, fr, h, h1, h2⟩ := h
  exact h.low

theorem row_reads {w : World} {x : Nat} {z : Int} {q : Nat × Nat} (h : w.heap[x]? = some (.cells #[.int .u8 z] 5 q)) (hz : 0 ≤ z ∧ z ≤ 255) : Reads w (.slice (some ⟨x, 0, none⟩) 1 1) [z] := by
  refine ⟨some ⟨x, 0, none⟩, 1, rfl, Nat.le_refl _, (fun e => by cases e), (fun y hy => ?_), fun _ => ⟨x, 0, rfl, fun i hi => ?_⟩⟩
  · obtain rfl : y = z := by simpa using hy
    exact hz
  · obtain rfl : i = 0 := by
      have : i < 1 := hi
      omega
    unfold World.cell?
    rw [h]
    simp

/-- The first Put. -/
theorem on_put {w w' : World} {g gs : Nat} (hL : ∀ w', Below w.heap.size w w' → Laid w') (H : Hs w [] w' g gs 600 [] []) : Calls Tryz.prog 26 #[.pointer (some ⟨g, 0, none⟩), .int .i64 0, .agg (B z32), .slice (some ⟨w'.heap.size, 0, none⟩) 1 1] (fz14 w' 118) fun e w'' => ∃ hd : Nat, e = .returned (.tuple #[.int .i64 (hd : Int), .int .i64 0]) ∧ 0 < hd ∧ ∃ cs fr, Hz w w'' [w'.heap.size] g gs 600 cs fr ∧ (∀ j, own cs [] j = if hd = j + 1 then 1 else 0) ∧ Rt cs hd T1 ∧ noc cs = 1 ∧ cs.length ≤ 1 := by
  obtain ⟨ss, hss, _⟩ := (Rt.zero []).bes Wf.new key_zero
  have hsz : w'.heap.size < (fz14 w' 118).heap.size := by rw [fz_heap14]; simp
  have z2 := (Hz.new H).add (x := w'.heap.size) (fz_low14 w' 118) (Nat.le_refl _) hsz
  have hx : (fz14 w' 118).heap[w'.heap.size]? = some (.cells #[.int .u8 118] 5 (1, 2)) := by rw [fz_heap14]; simp
  generalize fz14 w' 118 = w2 at *
  generalize w'.heap.size = x at *
  obtain ⟨S, hs, hk, hX, ht⟩ := z2.off
  have hu : Kq S w2 (fun w3 => Reads w3 (.slice (some ⟨x, 0, none⟩) 1 1) [118]) := by
    obtain ⟨x1, x2⟩ := hX x (by simp)
    exact fun w3 m => row_reads ((m.block x x2 x1).trans hx) (by omega)
  refine (put_any hs (Rt.zero []) key_zero (u := .slice (some ⟨x, 0, none⟩) 1 1) (bs := [118]) hu (hk _ hL) (by simp) (fun i => by rw [own_nil]; omega) (by show 0 + 258 ≤ 600; omega) hss).mono ?_
  rintro e w'' ⟨top, cs', fr', T', rfl, p, hh⟩
  obtain ⟨q1, q2, q3⟩ := pa_first hss p
  have hT := p.rt.one hh.2 q1
  subst hT
  refine ⟨top, rfl, p.pos, cs', fr', ht _ _ _ hh, fun j => ?_, p.rt, by rw [q2]; rfl, q3⟩
  have := p.own j
  rw [own_nil, if_neg (by omega)] at this
  omega

/-- Behind one. -/
def OnePost (w : World) (e : Ending) (w' : World) : Prop := ∃ (X : List Nat) (gv b g gs hd : Nat), e = .returned (.tuple #[.pointer (some ⟨g, 0, none⟩), .int .i64 (hd : Int), .pointer (some ⟨gv, 0, none⟩)]) ∧ 0 < hd ∧ On w w' X gv b g gs [] (fun _ => .emp) hd 1 1 T1

set_option maxHeartbeats 2000000 in
theorem one_any (w : World) (hL : Laid w) : Calls Tryz.prog 36 #[] w (OnePost w) := by
  have HN := hidden (hs_new 600 w (by omega) (by omega))
  have HB0 := hidden built_z
  have HP : Hid (∀ w' g gs, Hs w [] w' g gs 600 [] [] → _) := fun w' g gs H => on_put (fun w' hb => hL.grow hb) H
  have hcv := conv_mark14
  generalize z32 = Z at HB0 HP
  clear hL
  go_enter Tryz.func36, Tryz.ntmps36
  go_wp2_with (first
    | (go_at_call 25; refine HN.out.mono ?_; rintro e w1 ⟨g, gs, rfl, h1⟩; have H1 := hidden h1; clear h1 HN)
    | ((with_reducible refine at_bdd 15 ?_); refine wpList_bld _ rfl _ _ rfl _ (by rw [List.map_toArray]; exact HB0.out) ?_)
    | (go_at_call 26; refine (HP.out _ _ _ H1.out).mono ?_; rintro e w2 ⟨hd, rfl, h0, cs, fr, z2, o2, r2, n2, l2⟩; have H0 := hidden h0; have HZ := hidden z2; have HO := hidden o2; have HR := hidden r2; have HC := hidden n2; have HLn := hidden l2; clear h0 z2 o2 r2 n2 l2 HP H1)
    | (go_at_call 22; refine (vnew_ok HZ.out).mono ?_; rintro e w3 ⟨gv, b, rfl, v3, b3⟩))
  go_ret3
  exact ⟨_, gv, b, g, gs, hd, rfl, H0.out, cs, fr, ⟨v3, fun j => by rw [HO.out]; simp [nct], HR.out, (fun _ h => nomatch h), Nat.zero_le _⟩, HC.out, HLn.out⟩

section
variable {w w' : World} {X : List Nat} {gv b g gs : Nat} {ms : Nms} {G : List UInt8 → Tre} {hd n l : Nat} {T : Tre}
theorem on_add {s : ByteArray} (h : On w w' X gv b g gs ms G hd n l T) (hn : nmOk s = true) (ht : nmHas ms s.data.toList = false) (hl : ms.length < 16) : Calls Tryz.prog 27 #[.pointer (some ⟨gv, 0, none⟩), .string s, .int .i64 (hd : Int)] w' fun e w'' => e = .returned (.int .i64 0) ∧ On w w'' X gv b g gs (nmPut ms s.data.toList hd) (upG G s.data.toList T) hd n l T := by
  obtain ⟨cs, fr, h, h1, h2⟩ := h
  refine (sv_add h hn ht hl).mono ?_
  rintro e w'' ⟨cs', rfl, k1, k2, k3, k4⟩
  exact ⟨rfl, cs', fr, k1, by omega, by omega⟩
theorem on_there {s : ByteArray} (h : On w w' X gv b g gs ms G hd n l T) (hn : nmOk s = true) (ht : nmHas ms s.data.toList = true) : Calls Tryz.prog 27 #[.pointer (some ⟨gv, 0, none⟩), .string s, .int .i64 (hd : Int)] w' fun e w'' => e = .returned (.int .i64 6) ∧ Below w'.heap.size w' w'' := by
  obtain ⟨cs, fr, h, h1, h2⟩ := h
  exact sv_there h hn ht
theorem on_held (h : On w w' X gv b g gs ms G hd n l T) (h0 : 0 < hd) : Calls Tryz.prog 57 #[.pointer (some ⟨g, 0, none⟩), .int .i64 (hd : Int)] w' fun e w'' => e = .returned (.int .i64 ((nct ms (hd - 1) + 1 : Nat) : Int)) ∧ Below w'.heap.size w' w'' := by
  obtain ⟨cs, fr, h, h1, h2⟩ := h
  refine (held_any h.hv.hz.vw (hd : Int)).mono ?_
  rintro e w'' ⟨rfl, hb⟩
  have ho := h.own (hd - 1)
  rw [if_pos (by omega)] at ho
  have hw := h.wf.le (hd - 1)
  have e1 : cot cs (hd : Int) = cc cs (hd - 1) := by
    rw [cot, if_pos (by omega)]
    congr 1
    omega
  have e2 : cat cs (hd : Int) = ce cs (hd - 1) := by
    rw [cat_nat, sdC, if_neg (by omega)]
  refine ⟨?_, hb⟩
  rw [e1, e2, ← ho]
  rfl
theorem on_let (h : On w w' X gv b g gs ms G hd n l T) (h0 : 0 < hd) : Calls Tryz.prog 32 #[.pointer (some ⟨g, 0, none⟩), .int .i64 (hd : Int)] w' fun e w'' => ∃ m k : Nat, e = .returned (.tuple #[.int .i64 (m : Int), .int .i64 0]) ∧ On w w'' X gv b g gs ms G 0 k l .emp ∧ k + m = n := by
  obtain ⟨cs, fr, h, h1, h2⟩ := h
  refine (sv_let h h0).mono ?_
  rintro e w'' ⟨cs', fr', m, rfl, k1, k2, k3, k4⟩
  exact ⟨m, noc cs', rfl, ⟨cs', fr', k1, rfl, by omega⟩, by omega⟩
theorem on_root {s : ByteArray} (h : On w w' X gv b g gs ms G hd n l T) (hs : s.size ≤ maxLen) {v : Nat} (hv : (s.data.toList, v) ∈ ms) : Calls Tryz.prog 31 #[.pointer (some ⟨gv, 0, none⟩), .string s] w' fun e w'' => e = .returned (.tuple #[.int .i64 (v : Int), .int .i64 0]) ∧ w'' = w' := by
  obtain ⟨cs, fr, h, h1, h2⟩ := h
  exact vroot_ok h.hv hs hv
theorem on_names (h : On w w' X gv b g gs ms G hd n l T) : Calls Tryz.prog 30 #[.pointer (some ⟨gv, 0, none⟩)] w' (NmPost w' ms) := by
  obtain ⟨cs, fr, h, h1, h2⟩ := h
  exact vnames_ok h.hv (by have := h.few; omega)
end

theorem tx_one (w : World) (s : ByteArray) : Tx (w.alloc (.cells #[.string s] 9)) (.slice (some ⟨w.heap.size, 0, none⟩) 1 1) [s] := ⟨_, _, rfl, fun _ => ⟨w.heap.size, 0, rfl, fun i hi => by
  obtain rfl : i = 0 := by
    have : i < 1 := hi
    omega
  rw [(Blk.new w 9 #[.string s]).cell]
  rfl⟩⟩

/-- The text a. -/
abbrev sA : ByteArray := { data := #[97] }
theorem sA_ok : nmOk sA = true := by decide
theorem sA_sort (v : Nat) : (nmSort (nmPut [] sA.data.toList v)).map (fun s => (⟨s.toArray⟩ : ByteArray)) = [sA] := by
  have : nmSort (nmPut [] sA.data.toList v) = [[97]] := by
    show List.mergeSort [[97]] _ = _
    simp
  rw [this]
  rfl

set_option maxHeartbeats 4000000 in
theorem awake14_any (w : World) (hL : Laid w) : Calls Tryz.prog 24 #[] w fun e w' => e = .returned (.bool true) ∧ Below w.heap.size w w' := by
  have HO := hidden (one_any w hL)
  clear hL
  have HSA : Hid (∀ v y w', Tx w' v ((nmSort (nmPut [] sA.data.toList y)).map (fun s => (⟨s.toArray⟩ : ByteArray))) → ∀ u, Tx w' u [sA] → Calls Tryz.prog 37 #[v, u] w' fun e w'' => e = .returned (.bool true) ∧ Below w'.heap.size w' w'') := fun v y w' hx u hu => by
    have := sameTexts_any v u _ _ w' hx hu (by simp)
    rw [sA_sort, decide_eq_true rfl] at this
    exact this
  go_enter Tryz.func24, Tryz.ntmps24
  go_wp2_with (first
    | (go_at_call 36; refine HO.out.mono ?_; rintro e w1 ⟨X, gv, b, g, gs, hd, rfl, h0, h1⟩; have H0 := hidden h0; have H1 := hidden h1; have HQ := hidden h1.low; clear h1 h0 HO; have hqq : (((hd : Int)) == (hd : Int)) = true := beq_self_eq_true _)
    | (go_at_call 27; refine (on_add (s := sA) H1.out sA_ok rfl (by decide)).mono ?_; rintro e w2 ⟨rfl, h2⟩; have H2 := hidden h2; clear h2 H1 HQ)
    | (go_at_call 27; refine (on_there (s := sA) H2.out sA_ok (nmHas_iff.2 (List.mem_map.2 ⟨_, List.mem_cons_self, rfl⟩))).mono ?_; rintro e w3 ⟨rfl, b3⟩; have H3 := hidden (H2.out.grow b3); clear b3 H2)
    | (go_at_call 57; refine (on_held H3.out H0.out).mono ?_; rw [show nct (nmPut [] sA.data.toList hd) (hd - 1) = 1 from (by rw [nct_put rfl, if_pos (by have := H0.out; omega)]; rfl)]; rintro e w4 ⟨rfl, b4⟩; have H4 := hidden (H3.out.grow b4); clear b4 H3)
    | (go_at_call 32; refine (on_let H4.out H0.out).mono ?_; rintro e w5 ⟨m5, k5, rfl, h5, _⟩; have H5 := hidden h5; clear h5 H4)
    | (go_at_call 31; refine (on_root (s := sA) (v := hd) H5.out (by decide) List.mem_cons_self).mono ?_; rintro e w' ⟨rfl, hx⟩; rw [hx]; clear hx w')
    | (go_at_call 30; refine (on_names H5.out).mono ?_; rintro e w6 ⟨v6, rfl, r6, b6⟩; have HV6 := hidden (tx_own r6); have HB6 := hidden b6; clear r6 b6)
    | (go_at_call 37; refine (HSA.out _ hd _ (HV6.out.grow (grow_alloc _ _)) _ (tx_one _ _)).mono ?_; rintro e w7 ⟨rfl, b7⟩))
  go_ret
  exact ⟨rfl, grow_trans (grow_trans (grow_trans H5.out.low HB6.out) (grow_alloc _ _)) b7⟩

end Go.Proofs.YtlhnodinhmdjnaaGreatDoor

/- The statements' SameInts. -/
namespace Go.Proofs.YtlhnodinhmdjnaaGreatDoor
set_option maxRecDepth 20000
open Go.RowKit

/-- v reads as these numbers. -/
def Ns (w : World) (v : Value) (ss : List Int) : Prop := ∃ a c, v = .slice a ss.length c ∧ (0 < ss.length → ∃ g o, a = some ⟨g, o, none⟩ ∧ ∀ i, i < ss.length → w.cell? ⟨g, o + i, none⟩ = some (.int .i64 (ss[i]?.getD 0)))
theorem Ns.grow {w w' : World} {v : Value} {ss : List Int} (h : Ns w v ss) (hb : Below w.heap.size w w') : Ns w' v ss := by
  obtain ⟨a, c, e, h⟩ := h
  refine ⟨a, c, e, fun hp => ?_⟩
  obtain ⟨g, o, e1, h1⟩ := h hp
  exact ⟨g, o, e1, fun i hi => below_cell hb (h1 i hi)⟩
theorem ns_own {w : World} {base : Nat} {v : Value} {ss : List Nat} (h : w.ownsRow base 3 1 v ss.length (nats ss)) : Ns w v (ss.map fun (s : Nat) => (s : Int)) := by
  rcases h.2 with ⟨rfl, h0⟩ | ⟨g, cap, cur, rfl, _⟩
  · exact ⟨none, 0, by simp [h0], fun hp => by simp at hp; omega⟩
  · refine ⟨some ⟨g, 0, none⟩, cap, by simp, fun hp => ⟨g, 0, rfl, fun i hi => ?_⟩⟩
    simp only [List.length_map] at hi
    rw [Nat.zero_add, h.cellAt i (by omega)]
    simp [nats, hi]

set_option maxHeartbeats 1000000 in
theorem sameInts_any (x y : Value) (xs ys : List Int) (w : World) (hx : Ns w x xs) (hy : Ns w y ys) (hl2 : ys.length ≤ 1048576) : Calls Tryz.prog 38 #[x, y] w fun e w' => e = .returned (.bool (decide (xs = ys))) ∧ Below w.heap.size w w' := by
  obtain ⟨xa, xc, rfl, hx⟩ := hx
  obtain ⟨ya, yc, rfl, hy⟩ := hy
  by_cases hlen : xs.length = ys.length
  · have HX := hidden hx
    have HY := hidden hy
    rw [hlen]
    rw [hlen] at HX
    obtain ⟨n, hn⟩ : ∃ n, n = ys.length := ⟨_, rfl⟩
    rw [← hn] at HX HY hl2 ⊢
    have HN := hidden hn
    have HNX : Hid (xs.length = n) := by show _ = _; omega
    clear hx hy hlen hn
    go_enter Tryz.func38, Tryz.ntmps38
    go_wp2_with fail
    go_loopw [5] (fun i wr => ∃ k : Nat, k ≤ n ∧ i = .int .i64 k ∧ Hid (xs.take k = ys.take k) ∧ Below w.heap.size w wr) (fun i _ => n - (intOf i).toNat)
    case atStart => exact ⟨0, by omega, rfl, by show _ = _; simp, Below.refl _ _⟩
    case round =>
      obtain ⟨k, hk, rfl, hE, hbl⟩ := hrel
      have hwk : wrap64 ((k : Int) + 1) = ((k + 1 : Nat) : Int) := by rw [Go.IntWalk.wrap64_in _ (by omega)]; rfl
      by_cases hlt : k < n
      · have i1 : (k : Int) < (n : Int) := by omega
        have i0 : (0 : Int) ≤ (k : Int) := by omega
        obtain ⟨gx, ox, rfl, cx⟩ := HX.out (by omega)
        obtain ⟨gy, oy, rfl, cy⟩ := HY.out (by omega)
        have c1 := below_cell hbl (cx k hlt)
        have c2 := below_cell hbl (cy k hlt)
        obtain ⟨zx, hzx⟩ : ∃ z, z = xs[k]?.getD 0 := ⟨_, rfl⟩
        obtain ⟨zy, hzy⟩ : ∃ z, z = ys[k]?.getD 0 := ⟨_, rfl⟩
        rw [← hzx] at c1
        rw [← hzy] at c2
        have HZX := hidden hzx
        have HZY := hidden hzy
        clear cx cy hzx hzy
        have hxk : xs.take (k + 1) = xs.take k ++ [zx] := by rw [take_snoc xs k (by have := HNX.out; omega), HZX.out]; rfl
        have hyk : ys.take (k + 1) = ys.take k ++ [zy] := by rw [take_snoc ys k (by have := HN.out; omega), HZY.out]; rfl
        by_cases heq : zx = zy
        · subst heq
          have HT : Hid (xs.take (k + 1) = ys.take (k + 1)) := by show _ = _; rw [hxk, hyk, hE.out]
          clear hxk hyk
          go_wp2_with fail
          go_quiet (fail)
          go_wp2
          exact ⟨⟨k + 1, by omega, by go_num, HT, below_drewN hbl _⟩, by simp [intOf]; omega⟩
        · have HT : Hid (xs ≠ ys) := by
            show xs ≠ ys
            intro e
            apply heq
            rw [HZX.out, HZY.out, e]
          have hne : (zx == zy) = false := by simpa using heq
          clear hxk hyk heq
          go_wp2_with fail
          go_quiet (fail)
          go_wp2
          go_ret
          exact ⟨by rw [decide_eq_false HT.out]; rfl, below_drewN hbl _⟩
      · obtain rfl : k = n := by omega
        have HT : Hid (xs = ys) := by
          have := hE.out
          rw [List.take_of_length_le (by have := HNX.out; omega), List.take_of_length_le (by have := HN.out; omega)] at this
          exact this
        go_wp2
        go_ret
        exact ⟨by rw [decide_eq_true HT.out]; rfl, hbl⟩
  · have HT : Hid (xs ≠ ys) := fun e => hlen (by rw [e])
    have hne : ((xs.length : Int) == (ys.length : Int)) = false := by simp; omega
    clear hx hy
    go_enter Tryz.func38, Tryz.ntmps38
    go_wp2
    go_ret
    exact ⟨by rw [decide_eq_false HT.out]; rfl, Below.refl _ _⟩

end Go.Proofs.YtlhnodinhmdjnaaGreatDoor
