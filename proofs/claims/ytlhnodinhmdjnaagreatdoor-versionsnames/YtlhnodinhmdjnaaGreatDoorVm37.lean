/- The literal []byte("x"): a new row of one byte, marked as a text's. -/
import Derived.Test.YtlhnodinhmdjnaaGreatDoorVm01
import Derived.Test.YtlhnodinhmdjnaaGreatDoorVm02
import Derived.Test.YtlhnodinhmdjnaaGreatDoorVm36
namespace Go.Proofs.YtlhnodinhmdjnaaGreatDoor
set_option maxRecDepth 20000
open Go.RowKit


/-- A list of one byte, made of a text. -/
def fz14 (w : World) (z : Int) : World := (w.alloc (.cells #[.int .u8 z] 5)).freeze ⟨w.heap.size, 1, none⟩ 1
theorem fz_heap14 (w : World) (z : Int) : (fz14 w z).heap = w.heap.push (.cells #[.int .u8 z] 5 (1, 2)) := by
  unfold fz14 World.freeze
  rw [if_neg (by decide)]
  apply Array.ext
  · simp
  · intro i h1 h2
    simp only [World.alloc, Array.getElem_modify, Array.getElem_push]
    by_cases h : w.heap.size = i
    · subst h
      simp
    · have hi : i < w.heap.size := by
        simp at h1
        omega
      simp [h, hi]
theorem fz_low14 (w : World) (z : Int) : Below w.heap.size w (fz14 w z) := by
  have h := fz_heap14 w z
  refine ⟨?_, ?_, ?_, ?_, fun k hk => ?_⟩
  · unfold fz14 World.freeze
    rw [if_neg (by decide)]
    rfl
  · unfold fz14 World.freeze
    rw [if_neg (by decide)]
    rfl
  · unfold fz14 World.freeze
    rw [if_neg (by decide)]
    rfl
  · rw [h]
    simp
  · rw [h, Array.getElem?_push_lt hk, Array.getElem?_eq_getElem hk]
theorem fz_reads14 (w : World) (z : Int) (hz : 0 ≤ z ∧ z ≤ 255) : Reads (fz14 w z) (.slice (some ⟨w.heap.size, 0, none⟩) 1 1) [z] := by
  refine ⟨some ⟨w.heap.size, 0, none⟩, 1, rfl, Nat.le_refl _, (fun e => by cases e), (fun x hx => ?_), fun _ => ⟨w.heap.size, 0, rfl, fun i hi => ?_⟩⟩
  · obtain rfl : x = z := by simpa using hx
    exact hz
  · obtain rfl : i = 0 := by
      have : i < 1 := hi
      omega
    unfold World.cell?
    rw [fz_heap14]
    simp
theorem conv_mark14 (w : World) (z : Int) : (convert 35 35 (.slice (some ⟨w.heap.size, 0, none⟩) 1 1)).run Tryz.prog (w.alloc (.cells #[.int .u8 z] 5)) = .ok (.slice (some ⟨w.heap.size, 0, none⟩) 1 1) (fz14 w z) := by
  have hsh : (w.alloc (.cells #[Value.int .u8 z] 5)).shape? w.heap.size = some (5, 1) := by
    have : (w.alloc (.cells #[Value.int .u8 z] 5)).heap[w.heap.size]? = some (.cells #[Value.int .u8 z] 5) := Blk.new w _ _
    unfold World.shape?
    rw [this]
    rfl
  simp [convert, run_underlying Tryz.underlying35, run_underlying Tryz.underlying5, markStringish, hsh]
  rfl


end Go.Proofs.YtlhnodinhmdjnaaGreatDoor

/- The law's one and awake, as contracts. -/
namespace Go.Proofs.YtlhnodinhmdjnaaGreatDoor
set_option maxRecDepth 20000
open Go.RowKit

/-- The tree of the one entry. -/
abbrev T1 : Tre := .lf z32 [118]
/-- Behind one: names ms, the one leaf. -/
def On (w w' : World) (X : List Nat) (gv b g gs : Nat) (ms : Nms) (G : List UInt8 → Tre) (hd n l : Nat) (T : Tre) : Prop := ∃ cs fr, Sv w w' X gv b g gs 600 ms G hd T cs fr ∧ noc cs = n ∧ cs.length ≤ l
theorem On.grow {w w' w'' : World} {X : List Nat} {gv b g gs : Nat} {ms : Nms} {G : List UInt8 → Tre} {hd n l : Nat} {T : Tre} (h : On w w' X gv b g gs ms G hd n l T) (hb : Below w'.heap.size w' w'') : On w w'' X gv b g gs ms G hd n l T := by
  obtain ⟨cs, fr, h, h1, h2⟩ := h
  exact ⟨cs, fr, h.grow hb, h1, h2⟩
theorem On.low {w w' : World} {X : List Nat} {gv b g gs : Nat} {ms : Nms} {G : List UInt8 → Tre} {hd n l : Nat} {T : Tre} (h : On w w' X gv b g gs ms G hd n l T) : Below w.heap.size w w' := by
  obtain ⟨cs, fr, h, h1, h2⟩ := h
  exact h.low

theorem row_reads {w : World} {x : Nat} {z : Int} {q : Nat × Nat} (h : w.heap[x]? = some (.cells #[.int .u8 z] 5 q)) (hz : 0 ≤ z ∧ z ≤ 255) : Reads w (.slice (some ⟨x, 0, none⟩) 1 1) [z] := by
  refine ⟨some ⟨x, 0, none⟩, 1, rfl, Nat.le_refl _, (fun e => by cases e), (fun y hy => ?_), fun _ => ⟨x, 0, rfl, fun i hi => ?_⟩⟩
  · obtain rfl : y = z := by simpa using hy
    exact hz
  · obtain rfl : i = 0 := by
      have : i < 1 := hi
      omega
    unfold World.cell?
    rw [h]
    simp

/-- The first Put. -/
theorem on_put {w w' : World} {g gs : Nat} (hL : ∀ w', Below w.heap.size w w' → Laid w') (H : Hs w [] w' g gs 600 [] []) : Calls Tryz.prog 26 #[.pointer (some ⟨g, 0, none⟩), .int .i64 0, .agg (B z32), .slice (some ⟨w'.heap.size, 0, none⟩) 1 1] (fz14 w' 118) fun e w'' => ∃ hd : Nat, e = .returned (.tuple #[.int .i64 (hd : Int), .int .i64 0]) ∧ 0 < hd ∧ ∃ cs fr, Hz w w'' [w'.heap.size] g gs 600 cs fr ∧ (∀ j, own cs [] j = if hd = j + 1 then 1 else 0) ∧ Rt cs hd T1 ∧ noc cs = 1 ∧ cs.length ≤ 1 := by
  obtain ⟨ss, hss, _⟩ := (Rt.zero []).bes Wf.new key_zero
  have hsz : w'.heap.size < (fz14 w' 118).heap.size := by rw [fz_heap14]; simp
  have z2 := (Hz.new H).add (x := w'.heap.size) (fz_low14 w' 118) (Nat.le_refl _) hsz
  have hx : (fz14 w' 118).heap[w'.heap.size]? = some (.cells #[.int .u8 118] 5 (1, 2)) := by rw [fz_heap14]; simp
  generalize fz14 w' 118 = w2 at *
  generalize w'.heap.size = x at *
  obtain ⟨S, hs, hk, hX, ht⟩ := z2.off
  have hu : Kq S w2 (fun w3 => Reads w3 (.slice (some ⟨x, 0, none⟩) 1 1) [118]) := by
    obtain ⟨x1, x2⟩ := hX x (by simp)
    exact fun w3 m => row_reads ((m.block x x2 x1).trans hx) (by omega)
  refine (put_any hs (Rt.zero []) key_zero (u := .slice (some ⟨x, 0, none⟩) 1 1) (bs := [118]) hu (hk _ hL) (by simp) (fun i => by rw [own_nil]; omega) (by show 0 + 258 ≤ 600; omega) hss).mono ?_
  rintro e w'' ⟨top, cs', fr', T', rfl, p, hh⟩
  obtain ⟨q1, q2, q3⟩ := pa_first hss p
  have hT := p.rt.one hh.2 q1
  subst hT
  refine ⟨top, rfl, p.pos, cs', fr', ht _ _ _ hh, fun j => ?_, p.rt, by rw [q2]; rfl, q3⟩
  have := p.own j
  rw [own_nil, if_neg (by omega)] at this
  omega

/-- Behind one. -/
def OnePost (w : World) (e : Ending) (w' : World) : Prop := ∃ (X : List Nat) (gv b g gs hd : Nat), e = .returned (.tuple #[.pointer (some ⟨g, 0, none⟩), .int .i64 (hd : Int), .pointer (some ⟨gv, 0, none⟩)]) ∧ 0 < hd ∧ On w w' X gv b g gs [] (fun _ => .emp) hd 1 1 T1

set_option maxHeartbeats 2000000 in
theorem one_any (w : World) (hL : Laid w) : Calls Tryz.prog 36 #[] w (OnePost w) := by
  have HN := hidden (hs_new 600 w (by omega) (by omega))
  have HB0 := hidden built_z
  have HP : Hid (∀ w' g gs, Hs w [] w' g gs 600 [] [] → _) := fun w' g gs H => on_put (fun w' hb => hL.grow hb) H
  have hcv := conv_mark14
  generalize z32 = Z at HB0 HP
  clear hL
  go_enter Tryz.func36, Tryz.ntmps36
  go_wp2_with (first
    | (go_at_call 25; refine HN.out.mono ?_; rintro e w1 ⟨g, gs, rfl, h1⟩; have H1 := hidden h1; clear h1 HN)
    | ((with_reducible refine at_bdd 15 ?_); refine wpList_bld _ rfl _ _ rfl _ (by rw [List.map_toArray]; exact HB0.out) ?_)
    | (go_at_call 26; refine (HP.out _ _ _ H1.out).mono ?_; rintro e w2 ⟨hd, rfl, h0, cs, fr, z2, o2, r2, n2, l2⟩; have H0 := hidden h0; have HZ := hidden z2; have HO := hidden o2; have HR := hidden r2; have HC := hidden n2; have HLn := hidden l2; clear h0 z2 o2 r2 n2 l2 HP H1)
    | (go_at_call 22; refine (vnew_ok HZ.out).mono ?_; rintro e w3 ⟨gv, b, rfl, v3, b3⟩))
  go_ret3
  exact ⟨_, gv, b, g, gs, hd, rfl, H0.out, cs, fr, ⟨v3, fun j => by rw [HO.out]; simp [nct], HR.out, (fun _ h => nomatch h), Nat.zero_le _⟩, HC.out, HLn.out⟩

section
variable {w w' : World} {X : List Nat} {gv b g gs : Nat} {ms : Nms} {G : List UInt8 → Tre} {hd n l : Nat} {T : Tre}
theorem on_add {s : ByteArray} (h : On w w' X gv b g gs ms G hd n l T) (hn : nmOk s = true) (ht : nmHas ms s.data.toList = false) (hl : ms.length < 16) : Calls Tryz.prog 27 #[.pointer (some ⟨gv, 0, none⟩), .string s, .int .i64 (hd : Int)] w' fun e w'' => e = .returned (.int .i64 0) ∧ On w w'' X gv b g gs (nmPut ms s.data.toList hd) (upG G s.data.toList T) hd n l T := by
  obtain ⟨cs, fr, h, h1, h2⟩ := h
  refine (sv_add h hn ht hl).mono ?_
  rintro e w'' ⟨cs', rfl, k1, k2, k3, k4⟩
  exact ⟨rfl, cs', fr, k1, by omega, by omega⟩
theorem on_there {s : ByteArray} (h : On w w' X gv b g gs ms G hd n l T) (hn : nmOk s = true) (ht : nmHas ms s.data.toList = true) : Calls Tryz.prog 27 #[.pointer (some ⟨gv, 0, none⟩), .string s, .int .i64 (hd : Int)] w' fun e w'' => e = .returned (.int .i64 6) ∧ Below w'.heap.size w' w'' := by
  obtain ⟨cs, fr, h, h1, h2⟩ := h
  exact sv_there h hn ht
theorem on_held (h : On w w' X gv b g gs ms G hd n l T) (h0 : 0 < hd) : Calls Tryz.prog 57 #[.pointer (some ⟨g, 0, none⟩), .int .i64 (hd : Int)] w' fun e w'' => e = .returned (.int .i64 ((nct ms (hd - 1) + 1 : Nat) : Int)) ∧ Below w'.heap.size w' w'' := by
  obtain ⟨cs, fr, h, h1, h2⟩ := h
  refine (held_any h.hv.hz.vw (hd : Int)).mono ?_
  rintro e w'' ⟨rfl, hb⟩
  have ho := h.own (hd - 1)
  rw [if_pos (by omega)] at ho
  have hw := h.wf.le (hd - 1)
  have e1 : cot cs (hd : Int) = cc cs (hd - 1) := by
    rw [cot, if_pos (by omega)]
    congr 1
    omega
  have e2 : cat cs (hd : Int) = ce cs (hd - 1) := by
    rw [cat_nat, sdC, if_neg (by omega)]
  refine ⟨?_, hb⟩
  rw [e1, e2, ← ho]
  rfl
theorem on_let (h : On w w' X gv b g gs ms G hd n l T) (h0 : 0 < hd) : Calls Tryz.prog 32 #[.pointer (some ⟨g, 0, none⟩), .int .i64 (hd : Int)] w' fun e w'' => ∃ m k : Nat, e = .returned (.tuple #[.int .i64 (m : Int), .int .i64 0]) ∧ On w w'' X gv b g gs ms G 0 k l .emp ∧ k + m = n := by
  obtain ⟨cs, fr, h, h1, h2⟩ := h
  refine (sv_let h h0).mono ?_
  rintro e w'' ⟨cs', fr', m, rfl, k1, k2, k3, k4⟩
  exact ⟨m, noc cs', rfl, ⟨cs', fr', k1, rfl, by omega⟩, by omega⟩
theorem on_root {s : ByteArray} (h : On w w' X gv b g gs ms G hd n l T) (hs : s.size ≤ maxLen) {v : Nat} (hv : (s.data.toList, v) ∈ ms) : Calls Tryz.prog 31 #[.pointer (some ⟨gv, 0, none⟩), .string s] w' fun e w'' => e = .returned (.tuple #[.int .i64 (v : Int), .int .i64 0]) ∧ w'' = w' := by
  obtain ⟨cs, fr, h, h1, h2⟩ := h
  exact vroot_ok h.hv hs hv
theorem on_names (h : On w w' X gv b g gs ms G hd n l T) : Calls Tryz.prog 30 #[.pointer (some ⟨gv, 0, none⟩)] w' (NmPost w' ms) := by
  obtain ⟨cs, fr, h, h1, h2⟩ := h
  exact vnames_ok h.hv (by have := h.few; omega)
end

theorem tx_one (w : World) (s : ByteArray) : Tx (w.alloc (.cells #[.string s] 9)) (.slice (some ⟨w.heap.size, 0, none⟩) 1 1) [s] := ⟨_, _, rfl, fun _ => ⟨w.heap.size, 0, rfl, fun i hi => by
  obtain rfl : i = 0 := by
    have : i < 1 := hi
    omega
  rw [(Blk.new w 9 #[.string s]).cell]
  rfl⟩⟩

/-- The text a. -/
abbrev sA : ByteArray := { data := #[97] }
theorem sA_ok : nmOk sA = true := by decide
theorem sA_sort (v : Nat) : (nmSort (nmPut [] sA.data.toList v)).map (fun s => (⟨s.toArray⟩ : ByteArray)) = [sA] := by
  have : nmSort (nmPut [] sA.data.toList v) = [[97]] := by
    show List.mergeSort [[97]] _ = _
    simp
  rw [this]
  rfl

set_option maxHeartbeats 4000000 in
theorem awake14_any (w : World) (hL : Laid w) : Calls Tryz.prog 24 #[] w fun e w' => e = .returned (.bool true) ∧ Below w.heap.size w w' := by
  have HO := hidden (one_any w hL)
  clear hL
  have HSA : Hid (∀ v y w', Tx w' v ((nmSort (nmPut [] sA.data.toList y)).map (fun s => (⟨s.toArray⟩ : ByteArray))) → ∀ u, Tx w' u [sA] → Calls Tryz.prog 37 #[v, u] w' fun e w'' => e = .returned (.bool true) ∧ Below w'.heap.size w' w'') := fun v y w' hx u hu => by
    have := sameTexts_any v u _ _ w' hx hu (by simp)
    rw [sA_sort, decide_eq_true rfl] at this
    exact this
  go_enter Tryz.func24, Tryz.ntmps24
  go_wp2_with (first
    | (go_at_call 36; refine HO.out.mono ?_; rintro e w1 ⟨X, gv, b, g, gs, hd, rfl, h0, h1⟩; have H0 := hidden h0; have H1 := hidden h1; have HQ := hidden h1.low; clear h1 h0 HO; have hqq : (((hd : Int)) == (hd : Int)) = true := beq_self_eq_true _)
    | (go_at_call 27; refine (on_add (s := sA) H1.out sA_ok rfl (by decide)).mono ?_; rintro e w2 ⟨rfl, h2⟩; have H2 := hidden h2; clear h2 H1 HQ)
    | (go_at_call 27; refine (on_there (s := sA) H2.out sA_ok (nmHas_iff.2 (List.mem_map.2 ⟨_, List.mem_cons_self, rfl⟩))).mono ?_; rintro e w3 ⟨rfl, b3⟩; have H3 := hidden (H2.out.grow b3); clear b3 H2)
    | (go_at_call 57; refine (on_held H3.out H0.out).mono ?_; rw [show nct (nmPut [] sA.data.toList hd) (hd - 1) = 1 from (by rw [nct_put rfl, if_pos (by have := H0.out; omega)]; rfl)]; rintro e w4 ⟨rfl, b4⟩; have H4 := hidden (H3.out.grow b4); clear b4 H3)
    | (go_at_call 32; refine (on_let H4.out H0.out).mono ?_; rintro e w5 ⟨m5, k5, rfl, h5, _⟩; have H5 := hidden h5; clear h5 H4)
    | (go_at_call 31; refine (on_root (s := sA) (v := hd) H5.out (by decide) List.mem_cons_self).mono ?_; rintro e w' ⟨rfl, hx⟩; rw [hx]; clear hx w')
    | (go_at_call 30; refine (on_names H5.out).mono ?_; rintro e w6 ⟨v6, rfl, r6, b6⟩; have HV6 := hidden (tx_own r6); have HB6 := hidden b6; clear r6 b6)
    | (go_at_call 37; refine (HSA.out _ hd _ (HV6.out.grow (grow_alloc _ _)) _ (tx_one _ _)).mono ?_; rintro e w7 ⟨rfl, b7⟩))
  go_ret
  exact ⟨rfl, grow_trans (grow_trans (grow_trans H5.out.low HB6.out) (grow_alloc _ _)) b7⟩

end Go.Proofs.YtlhnodinhmdjnaaGreatDoor

/- VersionsNames' walk: just the document's names are names, and are taken. -/
namespace Go.Proofs.YtlhnodinhmdjnaaGreatDoor
set_option maxRecDepth 20000
open Go.RowKit

/-- What the law knows behind its first k signs. -/
def pfx (s : ByteArray) (k : Nat) : Bool := decide (1 ≤ s.size ∧ s.size ≤ 20) && (decide (k = 0) || ltr ((nums s).getD 0 0)) && ((nums s).take k).all sgn
theorem sgn_ltr {c : Int} (h : ltr c = true) : sgn c = true := by unfold sgn; rw [h]; rfl
theorem pfx_end {s : ByteArray} : pfx s s.size = nmOk s := by
  unfold pfx nmOk
  rw [List.take_of_length_le (by rw [nums_length]; exact Nat.le_refl _)]
  by_cases h : 1 ≤ s.size ∧ s.size ≤ 20
  · rw [decide_eq_true h, decide_eq_false (by omega)]
    simp
  · rw [decide_eq_false h]
    simp
theorem pfx_not {s : ByteArray} {k : Nat} (h : pfx s k = false) : nmOk s = false := by
  rw [Bool.eq_false_iff] at h ⊢
  intro q
  apply h
  unfold nmOk at q
  unfold pfx
  simp only [Bool.and_eq_true] at q ⊢
  obtain ⟨⟨q1, q2⟩, q3⟩ := q
  refine ⟨⟨q1, by rw [q2]; simp⟩, List.all_eq_true.2 fun x hx => List.all_eq_true.1 q3 x (List.mem_of_mem_take hx)⟩
theorem pfx_zero (s : ByteArray) : pfx s 0 = decide (1 ≤ s.size ∧ s.size ≤ 20) := by simp [pfx]
theorem pfx_step {s : ByteArray} {k : Nat} (hk : k < s.size) (h : pfx s k = true) : pfx s (k + 1) = if k = 0 then ltr (s[k].toNat : Int) else sgn (s[k].toNat : Int) := by
  have g := nums_get s k hk
  unfold pfx at h ⊢
  rw [all_take_snoc (by rw [nums_length]; exact hk), g]
  simp only [Bool.and_eq_true] at h
  obtain ⟨⟨q1, q2⟩, q3⟩ := h
  rw [q1, q3]
  by_cases e : k = 0
  · subst e
    rw [if_pos rfl, g]
    cases hl : ltr (s[0].toNat : Int)
    · simp
    · rw [sgn_ltr hl]
      simp
  · rw [if_neg e]
    rw [decide_eq_false e] at q2
    simp only [Bool.false_or] at q2
    rw [q2]
    simp

set_option maxHeartbeats 4000000 in
theorem versionsNames_walk {w : World} (hL : Laid w) {s : ByteArray} (hs : s.size ≤ maxLen) : Calls Tryz.prog 7 #[.string s] w fun e w' => e = .returned (.bool true) ∧ Below w.heap.size w w' := by
  have HO := hidden (one_any w hL)
  have HW : Hid (∀ w', Below w.heap.size w w' → Calls Tryz.prog 24 #[] w' fun e w'' => e = .returned (.bool true) ∧ Below w'.heap.size w' w'') := fun w' hb => awake14_any w' (hL.grow hb)
  have HN : Hid (∀ w', Calls Tryz.prog 28 #[.string s] w' fun e w'' => e = .returned (.bool (nmOk s)) ∧ w'' = w') := fun w' => name_any s w' hs
  have HAd : Hid (∀ (w' : World) (X : List Nat) (gv b g gs hd : Nat), On w w' X gv b g gs [] (fun _ => .emp) hd 1 1 T1 → Calls Tryz.prog 27 #[.pointer (some ⟨gv, 0, none⟩), .string s, .int .i64 (hd : Int)] w' fun e w'' => e = .returned (.int .i64 (if nmOk s = true then 0 else 5)) ∧ Below w.heap.size w w'') := fun w' X gv b g gs hd h => by
    cases hn : nmOk s
    · obtain ⟨cs, fr, h, _⟩ := h
      refine (vadd_name h.hv hs hn _).mono ?_
      rintro e w'' ⟨rfl, b⟩
      exact ⟨rfl, grow_trans h.low b⟩
    · refine (on_add h hn rfl (by decide)).mono ?_
      rintro e w'' ⟨rfl, k⟩
      exact ⟨rfl, k.low⟩
  have HE := hidden (@pfx_end s)
  have HX : Hid (∀ k, pfx s k = false → nmOk s = false) := fun k h => pfx_not h
  have HZ : Hid (pfx s 0 = decide (1 ≤ s.size ∧ s.size ≤ 20)) := pfx_zero s
  have HP : Hid (∀ k, (hk : k < s.size) → pfx s k = true → pfx s (k + 1) = if k = 0 then ltr (s[k].toNat : Int) else sgn (s[k].toNat : Int)) := fun k hk h => pfx_step hk h
  obtain ⟨f, hf⟩ : ∃ f, f = pfx s := ⟨_, rfl⟩
  rw [← hf] at HE HX HZ HP
  obtain ⟨r, hr⟩ : ∃ r, r = nmOk s := ⟨_, rfl⟩
  rw [← hr] at HE HX HN HAd
  unfold maxLen at hs
  have hcase : (¬ (1 : Int) ≤ (s.size : Int) ∧ Hid (f 0 = false)) ∨ ((1 : Int) ≤ (s.size : Int) ∧ ¬ (s.size : Int) ≤ 20 ∧ Hid (f 0 = false)) ∨ ((1 : Int) ≤ (s.size : Int) ∧ (s.size : Int) ≤ 20 ∧ Hid (f 0 = true)) := by
    by_cases h1 : 1 ≤ s.size
    · by_cases h2 : s.size ≤ 20
      · exact .inr (.inr ⟨by omega, by omega, by show _ = _; rw [HZ.out]; simp [h1, h2]⟩)
      · exact .inr (.inl ⟨by omega, by omega, by show _ = _; rw [HZ.out]; simp [h2]⟩)
    · exact .inl ⟨by omega, by show _ = _; rw [HZ.out]; simp [h1]⟩
  clear hL hf hr HZ
  rcases hcase with ⟨i1, HF⟩ | ⟨i1, i2, HF⟩ | ⟨i1, i2, HF⟩
  all_goals
    go_enter Tryz.func7, Tryz.ntmps7
    go_wp2_with fail
    clear i1
    try clear i2
    go_loopw [3, 4] (fun rv iv wr => ∃ (k : Nat) (q : Bool), k ≤ s.size ∧ iv = .int .i64 (k : Int) ∧ rv = .bool q ∧ Hid (f k = q) ∧ Hid (wr = w)) (fun _ iv _ => s.size - (intOf iv).toNat)
    case atStart => exact ⟨0, _, Nat.zero_le _, rfl, rfl, HF, rfl⟩
    case round =>
      clear HF
      obtain ⟨k, q, hk, rfl, rfl, hq, hw⟩ := hrel
      have hw' := hw.out
      subst hw'
      clear hw
      by_cases hlt : k < s.size
      · have hwk : wrap64 ((k : Int) + 1) = ((k + 1 : Nat) : Int) := by rw [Go.IntWalk.wrap64_in _ (by omega)]; rfl
        have j1 : (k : Int) < (s.size : Int) := by omega
        have j0 : (0 : Int) ≤ (k : Int) := by omega
        cases q
        · have HR : Hid (r = false) := HX.out k hq.out
          have hr := HR.out
          subst hr
          clear HR HX HP HE hwk
          simp only [Bool.false_eq_true, if_false] at HAd
          go_wp2_with (first
            | (go_at_call 36; refine HO.out.mono ?_; rintro e w1 ⟨X, gv, b, g, gs, hd, rfl, _, h1⟩; have H1 := hidden h1; clear h1 HO)
            | (go_at_call 27; refine (HAd.out _ _ _ _ _ _ _ H1.out).mono ?_; rintro e w2 ⟨rfl, b2⟩; have HQ := hidden b2; clear b2 HAd)
            | (go_at_call 24; refine (HW.out _ HQ.out).mono ?_; rintro e w3 ⟨rfl, b3⟩; replace HQ := hidden (grow_trans HQ.out b3); clear b3 HW)
            | (go_at_call 28; refine (HN.out _).mono ?_; rintro e w' ⟨rfl, hx⟩; rw [hx]; clear hx w'))
          go_ret
          exact ⟨rfl, HQ.out⟩
        · have HT := hidden (HP.out k hlt hq.out)
          clear HP HX HE hq
          by_cases e97 : 97 ≤ (s[k].toNat : Int)
          · by_cases e122 : (s[k].toNat : Int) ≤ 122
            · have hl : ltr (s[k].toNat : Int) = true := decide_eq_true (by omega)
              have HV : Hid (f (k + 1) = true) := by show _ = _; rw [HT.out]; split; exact hl; exact sgn_ltr hl
              clear HT
              go_wp2
              all_goals exact ⟨⟨k + 1, _, by omega, by go_num, rfl, HV, (by first | rfl | trivial)⟩, by simp [intOf]; omega⟩
            · have hl : ltr (s[k].toNat : Int) = false := decide_eq_false (by omega)
              by_cases e0 : k = 0
              · have z1 : ¬ (0 : Int) < (k : Int) := by omega
                have HV : Hid (f (k + 1) = false) := by show _ = _; rw [HT.out]; rw [if_pos e0]; exact hl
                clear e0 hl
                clear HT
                go_wp2
                all_goals exact ⟨⟨k + 1, _, by omega, by go_num, rfl, HV, (by first | rfl | trivial)⟩, by simp [intOf]; omega⟩
              · have z1 : (0 : Int) < (k : Int) := by omega
                by_cases e45 : (s[k].toNat : Int) = 45
                · have z2 : ((s[k].toNat : Int) == 45) = true := by simpa using e45
                  have HV : Hid (f (k + 1) = true) := by show _ = _; rw [HT.out]; rw [if_neg e0, sgn, hl, decide_eq_true e45] <;> simp
                  clear HT
                  go_wp2
                  all_goals exact ⟨⟨k + 1, _, by omega, by go_num, rfl, HV, (by first | rfl | trivial)⟩, by simp [intOf]; omega⟩
                · have z2 : ((s[k].toNat : Int) == 45) = false := by simpa using e45
                  by_cases e48 : 48 ≤ (s[k].toNat : Int)
                  · by_cases e57 : (s[k].toNat : Int) ≤ 57
                    · have hd : dgt (s[k].toNat : Int) = true := decide_eq_true (by omega)
                      have HV : Hid (f (k + 1) = true) := by show _ = _; rw [HT.out]; rw [if_neg e0, sgn, hl, hd] <;> rfl
                      clear HT
                      go_wp2
                      all_goals exact ⟨⟨k + 1, _, by omega, by go_num, rfl, HV, (by first | rfl | trivial)⟩, by simp [intOf]; omega⟩
                    · have hd : dgt (s[k].toNat : Int) = false := decide_eq_false (by omega)
                      have HV : Hid (f (k + 1) = false) := by show _ = _; rw [HT.out]; rw [if_neg e0, sgn, hl, hd, decide_eq_false e45] <;> rfl
                      clear HT
                      go_wp2
                      all_goals exact ⟨⟨k + 1, _, by omega, by go_num, rfl, HV, (by first | rfl | trivial)⟩, by simp [intOf]; omega⟩
                  · have hd : dgt (s[k].toNat : Int) = false := decide_eq_false (by omega)
                    have HV : Hid (f (k + 1) = false) := by show _ = _; rw [HT.out]; rw [if_neg e0, sgn, hl, hd, decide_eq_false e45] <;> rfl
                    clear HT
                    go_wp2
                    all_goals exact ⟨⟨k + 1, _, by omega, by go_num, rfl, HV, (by first | rfl | trivial)⟩, by simp [intOf]; omega⟩
          · have hl : ltr (s[k].toNat : Int) = false := decide_eq_false (by omega)
            by_cases e0 : k = 0
            · have z1 : ¬ (0 : Int) < (k : Int) := by omega
              have HV : Hid (f (k + 1) = false) := by show _ = _; rw [HT.out]; rw [if_pos e0]; exact hl
              clear e0 hl
              clear HT
              go_wp2
              all_goals exact ⟨⟨k + 1, _, by omega, by go_num, rfl, HV, (by first | rfl | trivial)⟩, by simp [intOf]; omega⟩
            · have z1 : (0 : Int) < (k : Int) := by omega
              by_cases e45 : (s[k].toNat : Int) = 45
              · have z2 : ((s[k].toNat : Int) == 45) = true := by simpa using e45
                have HV : Hid (f (k + 1) = true) := by show _ = _; rw [HT.out]; rw [if_neg e0, sgn, hl, decide_eq_true e45] <;> simp
                clear HT
                go_wp2
                all_goals exact ⟨⟨k + 1, _, by omega, by go_num, rfl, HV, (by first | rfl | trivial)⟩, by simp [intOf]; omega⟩
              · have z2 : ((s[k].toNat : Int) == 45) = false := by simpa using e45
                by_cases e48 : 48 ≤ (s[k].toNat : Int)
                · by_cases e57 : (s[k].toNat : Int) ≤ 57
                  · have hd : dgt (s[k].toNat : Int) = true := decide_eq_true (by omega)
                    have HV : Hid (f (k + 1) = true) := by show _ = _; rw [HT.out]; rw [if_neg e0, sgn, hl, hd] <;> rfl
                    clear HT
                    go_wp2
                    all_goals exact ⟨⟨k + 1, _, by omega, by go_num, rfl, HV, (by first | rfl | trivial)⟩, by simp [intOf]; omega⟩
                  · have hd : dgt (s[k].toNat : Int) = false := decide_eq_false (by omega)
                    have HV : Hid (f (k + 1) = false) := by show _ = _; rw [HT.out]; rw [if_neg e0, sgn, hl, hd, decide_eq_false e45] <;> rfl
                    clear HT
                    go_wp2
                    all_goals exact ⟨⟨k + 1, _, by omega, by go_num, rfl, HV, (by first | rfl | trivial)⟩, by simp [intOf]; omega⟩
                · have hd : dgt (s[k].toNat : Int) = false := decide_eq_false (by omega)
                  have HV : Hid (f (k + 1) = false) := by show _ = _; rw [HT.out]; rw [if_neg e0, sgn, hl, hd, decide_eq_false e45] <;> rfl
                  clear HT
                  go_wp2
                  all_goals exact ⟨⟨k + 1, _, by omega, by go_num, rfl, HV, (by first | rfl | trivial)⟩, by simp [intOf]; omega⟩
      · have j1 : ¬ (k : Int) < (s.size : Int) := by omega
        obtain rfl : k = s.size := by omega
        have HR : Hid (q = r) := by rw [← hq.out, HE.out]; rfl
        have hr := HR.out
        subst hr
        clear HR HX HP HE hq hlt
        cases q
        · simp only [Bool.false_eq_true, if_false] at HAd
          go_wp2_with (first
            | (go_at_call 36; refine HO.out.mono ?_; rintro e w1 ⟨X, gv, b, g, gs, hd, rfl, _, h1⟩; have H1 := hidden h1; clear h1 HO)
            | (go_at_call 27; refine (HAd.out _ _ _ _ _ _ _ H1.out).mono ?_; rintro e w2 ⟨rfl, b2⟩; have HQ := hidden b2; clear b2 HAd)
            | (go_at_call 24; refine (HW.out _ HQ.out).mono ?_; rintro e w3 ⟨rfl, b3⟩; replace HQ := hidden (grow_trans HQ.out b3); clear b3 HW)
            | (go_at_call 28; refine (HN.out _).mono ?_; rintro e w' ⟨rfl, hx⟩; rw [hx]; clear hx w'))
          go_ret
          exact ⟨rfl, HQ.out⟩
        · simp only [if_true] at HAd
          go_wp2_with (first
            | (go_at_call 36; refine HO.out.mono ?_; rintro e w1 ⟨X, gv, b, g, gs, hd, rfl, _, h1⟩; have H1 := hidden h1; clear h1 HO)
            | (go_at_call 27; refine (HAd.out _ _ _ _ _ _ _ H1.out).mono ?_; rintro e w2 ⟨rfl, b2⟩; have HQ := hidden b2; clear b2 HAd)
            | (go_at_call 24; refine (HW.out _ HQ.out).mono ?_; rintro e w3 ⟨rfl, b3⟩; replace HQ := hidden (grow_trans HQ.out b3); clear b3 HW)
            | (go_at_call 28; refine (HN.out _).mono ?_; rintro e w' ⟨rfl, hx⟩; rw [hx]; clear hx w'))
          go_ret
          exact ⟨rfl, HQ.out⟩
end Go.Proofs.YtlhnodinhmdjnaaGreatDoor
