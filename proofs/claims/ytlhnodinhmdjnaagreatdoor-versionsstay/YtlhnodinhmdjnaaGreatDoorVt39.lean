/- The literal []byte("x"): a new row of one byte, marked as a text's. -/
import Derived.Test.YtlhnodinhmdjnaaGreatDoorVt01
import Derived.Test.YtlhnodinhmdjnaaGreatDoorVt02
import Derived.Test.YtlhnodinhmdjnaaGreatDoorVt36
import Derived.Test.YtlhnodinhmdjnaaGreatDoorVt38
import Derived.Test.YtlhnodinhmdjnaaGreatDoorVt21
namespace Go.Proofs.YtlhnodinhmdjnaaGreatDoor
set_option maxRecDepth 20000
open Go.RowKit


/-- A list of one byte, made of a text. -/
def fz14 (w : World) (z : Int) : World := (w.alloc (.cells #[.int .u8 z] 5)).freeze ⟨w.heap.size, 1, none⟩ 1
theorem fz_heap14 (w : World) (z : Int) : (fz14 w z).heap = w.heap.push (.cells #[.int .u8 z] 5 (1, 2)) := by
  unfold fz14 World.freeze
  rw [if_neg (by decide)]
  apply Array.ext
  · simp
  · intro i h1 h2
    simp only [World.alloc, Array.getElem_modify, Array.getElem_push]
    by_cases h : w.heap.size = i
    · subst h
      simp
    · have hi : i < w.heap.size := by
        simp at h1
        omega
      simp [h, hi]
theorem fz_low14 (w : World) (z : Int) : Below w.heap.size w (fz14 w z) := by
  have h := fz_heap14 w z
  refine ⟨?_, ?_, ?_, ?_, fun k hk => ?_⟩
  · unfold fz14 World.freeze
    rw [if_neg (by decide)]
    rfl
  · unfold fz14 World.freeze
    rw [if_neg (by decide)]
    rfl
  · unfold fz14 World.freeze
    rw [if_neg (by decide)]
    rfl
  · rw [h]
    simp
  · rw [h, Array.getElem?_push_lt hk, Array.getElem?_eq_getElem hk]
theorem fz_reads14 (w : World) (z : Int) (hz : 0 ≤ z ∧ z ≤ 255) : Reads (fz14 w z) (.slice (some ⟨w.heap.size, 0, none⟩) 1 1) [z] := by
  refine ⟨some ⟨w.heap.size, 0, none⟩, 1, rfl, Nat.le_refl _, (fun e => by cases e), (fun x hx => ?_), fun _ => ⟨w.heap.size, 0, rfl, fun i hi => ?_⟩⟩
  · obtain rfl : x = z := by simpa using hx
    exact hz
  · obtain rfl : i = 0 := by
      have : i < 1 := hi
      omega
    unfold World.cell?
    rw [fz_heap14]
    simp
theorem conv_mark14 (w : World) (z : Int) : (convert 35 35 (.slice (some ⟨w.heap.size, 0, none⟩) 1 1)).run Tryz.prog (w.alloc (.cells #[.int .u8 z] 5)) = .ok (.slice (some ⟨w.heap.size, 0, none⟩) 1 1) (fz14 w z) := by
  have hsh : (w.alloc (.cells #[Value.int .u8 z] 5)).shape? w.heap.size = some (5, 1) := by
    have : (w.alloc (.cells #[Value.int .u8 z] 5)).heap[w.heap.size]? = some (.cells #[Value.int .u8 z] 5) := Blk.new w _ _
    unfold World.shape?
    rw [this]
    rfl
  simp [convert, run_underlying Tryz.underlying35, run_underlying Tryz.underlying5, markStringish, hsh]
  rfl


end Go.Proofs.YtlhnodinhmdjnaaGreatDoor

/- The law's one and awake, as contracts. -/
namespace Go.Proofs.YtlhnodinhmdjnaaGreatDoor
set_option maxRecDepth 20000
open Go.RowKit

/-- The tree of the one entry. -/
abbrev T1 : Tre := .lf z32 [118]
/-- Behind one: names ms, the one leaf. -/
def On (w w' : World) (X : List Nat) (gv b g gs : Nat) (ms : Nms) (G : List UInt8 → Tre) (hd n l : Nat) (T : Tre) : Prop := ∃ cs fr, Sv w w' X gv b g gs 600 ms G hd T cs fr ∧ noc cs = n ∧ cs.length ≤ l
theorem On.grow {w w' w'' : World} {X : List Nat} {gv b g gs : Nat} {ms : Nms} {G : List UInt8 → Tre} {hd n l : Nat} {T : Tre} (h : On w w' X gv b g gs ms G hd n l T) (hb : Below w'.heap.size w' w'') : On w w'' X gv b g gs ms G hd n l T := by
  obtain ⟨cs, fr, h, h1, h2⟩ := h
  exact ⟨cs, fr, h.grow hb, h1, h2⟩
theorem On.low {w w' : World} {X : List Nat} {gv b g gs : Nat} {ms : Nms} {G : List UInt8 → Tre} {hd n l : Nat} {T : Tre} (h : On w w' X gv b g gs ms G hd n l T) : Below w.heap.size w w' := by
  obtain ⟨cs, fr, h, h1, h2⟩ := h
  exact h.low

theorem row_reads {w : World} {x : Nat} {z : Int} {q : Nat × Nat} (h : w.heap[x]? = some (.cells #[.int .u8 z] 5 q)) (hz : 0 ≤ z ∧ z ≤ 255) : Reads w (.slice (some ⟨x, 0, none⟩) 1 1) [z] := by
  refine ⟨some ⟨x, 0, none⟩, 1, rfl, Nat.le_refl _, (fun e => by cases e), (fun y hy => ?_), fun _ => ⟨x, 0, rfl, fun i hi => ?_⟩⟩
  · obtain rfl : y = z := by simpa using hy
    exact hz
  · obtain rfl : i = 0 := by
      have : i < 1 := hi
      omega
    unfold World.cell?
    rw [h]
    simp

/-- The first Put. -/
theorem on_put {w w' : World} {g gs : Nat} (hL : ∀ w', Below w.heap.size w w' → Laid w') (H : Hs w [] w' g gs 600 [] []) : Calls Tryz.prog 26 #[.pointer (some ⟨g, 0, none⟩), .int .i64 0, .agg (B z32), .slice (some ⟨w'.heap.size, 0, none⟩) 1 1] (fz14 w' 118) fun e w'' => ∃ hd : Nat, e = .returned (.tuple #[.int .i64 (hd : Int), .int .i64 0]) ∧ 0 < hd ∧ ∃ cs fr, Hz w w'' [w'.heap.size] g gs 600 cs fr ∧ (∀ j, own cs [] j = if hd = j + 1 then 1 else 0) ∧ Rt cs hd T1 ∧ noc cs = 1 ∧ cs.length ≤ 1 := by
  obtain ⟨ss, hss, _⟩ := (Rt.zero []).bes Wf.new key_zero
  have hsz : w'.heap.size < (fz14 w' 118).heap.size := by rw [fz_heap14]; simp
  have z2 := (Hz.new H).add (x := w'.heap.size) (fz_low14 w' 118) (Nat.le_refl _) hsz
  have hx : (fz14 w' 118).heap[w'.heap.size]? = some (.cells #[.int .u8 118] 5 (1, 2)) := by rw [fz_heap14]; simp
  generalize fz14 w' 118 = w2 at *
  generalize w'.heap.size = x at *
  obtain ⟨S, hs, hk, hX, ht⟩ := z2.off
  have hu : Kq S w2 (fun w3 => Reads w3 (.slice (some ⟨x, 0, none⟩) 1 1) [118]) := by
    obtain ⟨x1, x2⟩ := hX x (by simp)
    exact fun w3 m => row_reads ((m.block x x2 x1).trans hx) (by omega)
  refine (put_any hs (Rt.zero []) key_zero (u := .slice (some ⟨x, 0, none⟩) 1 1) (bs := [118]) hu (hk _ hL) (by simp) (fun i => by rw [own_nil]; omega) (by show 0 + 258 ≤ 600; omega) hss).mono ?_
  rintro e w'' ⟨top, cs', fr', T', rfl, p, hh⟩
  obtain ⟨q1, q2, q3⟩ := pa_first hss p
  have hT := p.rt.one hh.2 q1
  subst hT
  refine ⟨top, rfl, p.pos, cs', fr', ht _ _ _ hh, fun j => ?_, p.rt, by rw [q2]; rfl, q3⟩
  have := p.own j
  rw [own_nil, if_neg (by omega)] at this
  omega

/-- Behind one. -/
def OnePost (w : World) (e : Ending) (w' : World) : Prop := ∃ (X : List Nat) (gv b g gs hd : Nat), e = .returned (.tuple #[.pointer (some ⟨g, 0, none⟩), .int .i64 (hd : Int), .pointer (some ⟨gv, 0, none⟩)]) ∧ 0 < hd ∧ On w w' X gv b g gs [] (fun _ => .emp) hd 1 1 T1

set_option maxHeartbeats 2000000 in
theorem one_any (w : World) (hL : Laid w) : Calls Tryz.prog 36 #[] w (OnePost w) := by
  have HN := hidden (hs_new 600 w (by omega) (by omega))
  have HB0 := hidden built_z
  have HP : Hid (∀ w' g gs, Hs w [] w' g gs 600 [] [] → _) := fun w' g gs H => on_put (fun w' hb => hL.grow hb) H
  have hcv := conv_mark14
  generalize z32 = Z at HB0 HP
  clear hL
  go_enter Tryz.func36, Tryz.ntmps36
  go_wp2_with (first
    | (go_at_call 25; refine HN.out.mono ?_; rintro e w1 ⟨g, gs, rfl, h1⟩; have H1 := hidden h1; clear h1 HN)
    | ((with_reducible refine at_bdd 15 ?_); refine wpList_bld _ rfl _ _ rfl _ (by rw [List.map_toArray]; exact HB0.out) ?_)
    | (go_at_call 26; refine (HP.out _ _ _ H1.out).mono ?_; rintro e w2 ⟨hd, rfl, h0, cs, fr, z2, o2, r2, n2, l2⟩; have H0 := hidden h0; have HZ := hidden z2; have HO := hidden o2; have HR := hidden r2; have HC := hidden n2; have HLn := hidden l2; clear h0 z2 o2 r2 n2 l2 HP H1)
    | (go_at_call 22; refine (vnew_ok HZ.out).mono ?_; rintro e w3 ⟨gv, b, rfl, v3, b3⟩))
  go_ret3
  exact ⟨_, gv, b, g, gs, hd, rfl, H0.out, cs, fr, ⟨v3, fun j => by rw [HO.out]; simp [nct], HR.out, (fun _ h => nomatch h), Nat.zero_le _⟩, HC.out, HLn.out⟩

section
variable {w w' : World} {X : List Nat} {gv b g gs : Nat} {ms : Nms} {G : List UInt8 → Tre} {hd n l : Nat} {T : Tre}
theorem on_add {s : ByteArray} (h : On w w' X gv b g gs ms G hd n l T) (hn : nmOk s = true) (ht : nmHas ms s.data.toList = false) (hl : ms.length < 16) : Calls Tryz.prog 27 #[.pointer (some ⟨gv, 0, none⟩), .string s, .int .i64 (hd : Int)] w' fun e w'' => e = .returned (.int .i64 0) ∧ On w w'' X gv b g gs (nmPut ms s.data.toList hd) (upG G s.data.toList T) hd n l T := by
  obtain ⟨cs, fr, h, h1, h2⟩ := h
  refine (sv_add h hn ht hl).mono ?_
  rintro e w'' ⟨cs', rfl, k1, k2, k3, k4⟩
  exact ⟨rfl, cs', fr, k1, by omega, by omega⟩
theorem on_there {s : ByteArray} (h : On w w' X gv b g gs ms G hd n l T) (hn : nmOk s = true) (ht : nmHas ms s.data.toList = true) : Calls Tryz.prog 27 #[.pointer (some ⟨gv, 0, none⟩), .string s, .int .i64 (hd : Int)] w' fun e w'' => e = .returned (.int .i64 6) ∧ Below w'.heap.size w' w'' := by
  obtain ⟨cs, fr, h, h1, h2⟩ := h
  exact sv_there h hn ht
theorem on_held (h : On w w' X gv b g gs ms G hd n l T) (h0 : 0 < hd) : Calls Tryz.prog 57 #[.pointer (some ⟨g, 0, none⟩), .int .i64 (hd : Int)] w' fun e w'' => e = .returned (.int .i64 ((nct ms (hd - 1) + 1 : Nat) : Int)) ∧ Below w'.heap.size w' w'' := by
  obtain ⟨cs, fr, h, h1, h2⟩ := h
  refine (held_any h.hv.hz.vw (hd : Int)).mono ?_
  rintro e w'' ⟨rfl, hb⟩
  have ho := h.own (hd - 1)
  rw [if_pos (by omega)] at ho
  have hw := h.wf.le (hd - 1)
  have e1 : cot cs (hd : Int) = cc cs (hd - 1) := by
    rw [cot, if_pos (by omega)]
    congr 1
    omega
  have e2 : cat cs (hd : Int) = ce cs (hd - 1) := by
    rw [cat_nat, sdC, if_neg (by omega)]
  refine ⟨?_, hb⟩
  rw [e1, e2, ← ho]
  rfl
theorem on_let (h : On w w' X gv b g gs ms G hd n l T) (h0 : 0 < hd) : Calls Tryz.prog 32 #[.pointer (some ⟨g, 0, none⟩), .int .i64 (hd : Int)] w' fun e w'' => ∃ m k : Nat, e = .returned (.tuple #[.int .i64 (m : Int), .int .i64 0]) ∧ On w w'' X gv b g gs ms G 0 k l .emp ∧ k + m = n := by
  obtain ⟨cs, fr, h, h1, h2⟩ := h
  refine (sv_let h h0).mono ?_
  rintro e w'' ⟨cs', fr', m, rfl, k1, k2, k3, k4⟩
  exact ⟨m, noc cs', rfl, ⟨cs', fr', k1, rfl, by omega⟩, by omega⟩
theorem on_root {s : ByteArray} (h : On w w' X gv b g gs ms G hd n l T) (hs : s.size ≤ maxLen) {v : Nat} (hv : (s.data.toList, v) ∈ ms) : Calls Tryz.prog 31 #[.pointer (some ⟨gv, 0, none⟩), .string s] w' fun e w'' => e = .returned (.tuple #[.int .i64 (v : Int), .int .i64 0]) ∧ w'' = w' := by
  obtain ⟨cs, fr, h, h1, h2⟩ := h
  exact vroot_ok h.hv hs hv
theorem on_names (h : On w w' X gv b g gs ms G hd n l T) : Calls Tryz.prog 30 #[.pointer (some ⟨gv, 0, none⟩)] w' (NmPost w' ms) := by
  obtain ⟨cs, fr, h, h1, h2⟩ := h
  exact vnames_ok h.hv (by have := h.few; omega)
end

theorem tx_one (w : World) (s : ByteArray) : Tx (w.alloc (.cells #[.string s] 9)) (.slice (some ⟨w.heap.size, 0, none⟩) 1 1) [s] := ⟨_, _, rfl, fun _ => ⟨w.heap.size, 0, rfl, fun i hi => by
  obtain rfl : i = 0 := by
    have : i < 1 := hi
    omega
  rw [(Blk.new w 9 #[.string s]).cell]
  rfl⟩⟩

/-- The text a. -/
abbrev sA : ByteArray := { data := #[97] }
theorem sA_ok : nmOk sA = true := by decide
theorem sA_sort (v : Nat) : (nmSort (nmPut [] sA.data.toList v)).map (fun s => (⟨s.toArray⟩ : ByteArray)) = [sA] := by
  have : nmSort (nmPut [] sA.data.toList v) = [[97]] := by
    show List.mergeSort [[97]] _ = _
    simp
  rw [this]
  rfl

set_option maxHeartbeats 4000000 in
theorem awake14_any (w : World) (hL : Laid w) : Calls Tryz.prog 24 #[] w fun e w' => e = .returned (.bool true) ∧ Below w.heap.size w w' := by
  have HO := hidden (one_any w hL)
  clear hL
  have HSA : Hid (∀ v y w', Tx w' v ((nmSort (nmPut [] sA.data.toList y)).map (fun s => (⟨s.toArray⟩ : ByteArray))) → ∀ u, Tx w' u [sA] → Calls Tryz.prog 37 #[v, u] w' fun e w'' => e = .returned (.bool true) ∧ Below w'.heap.size w' w'') := fun v y w' hx u hu => by
    have := sameTexts_any v u _ _ w' hx hu (by simp)
    rw [sA_sort, decide_eq_true rfl] at this
    exact this
  go_enter Tryz.func24, Tryz.ntmps24
  go_wp2_with (first
    | (go_at_call 36; refine HO.out.mono ?_; rintro e w1 ⟨X, gv, b, g, gs, hd, rfl, h0, h1⟩; have H0 := hidden h0; have H1 := hidden h1; have HQ := hidden h1.low; clear h1 h0 HO; have hqq : (((hd : Int)) == (hd : Int)) = true := beq_self_eq_true _)
    | (go_at_call 27; refine (on_add (s := sA) H1.out sA_ok rfl (by decide)).mono ?_; rintro e w2 ⟨rfl, h2⟩; have H2 := hidden h2; clear h2 H1 HQ)
    | (go_at_call 27; refine (on_there (s := sA) H2.out sA_ok (nmHas_iff.2 (List.mem_map.2 ⟨_, List.mem_cons_self, rfl⟩))).mono ?_; rintro e w3 ⟨rfl, b3⟩; have H3 := hidden (H2.out.grow b3); clear b3 H2)
    | (go_at_call 57; refine (on_held H3.out H0.out).mono ?_; rw [show nct (nmPut [] sA.data.toList hd) (hd - 1) = 1 from (by rw [nct_put rfl, if_pos (by have := H0.out; omega)]; rfl)]; rintro e w4 ⟨rfl, b4⟩; have H4 := hidden (H3.out.grow b4); clear b4 H3)
    | (go_at_call 32; refine (on_let H4.out H0.out).mono ?_; rintro e w5 ⟨m5, k5, rfl, h5, _⟩; have H5 := hidden h5; clear h5 H4)
    | (go_at_call 31; refine (on_root (s := sA) (v := hd) H5.out (by decide) List.mem_cons_self).mono ?_; rintro e w' ⟨rfl, hx⟩; rw [hx]; clear hx w')
    | (go_at_call 30; refine (on_names H5.out).mono ?_; rintro e w6 ⟨v6, rfl, r6, b6⟩; have HV6 := hidden (tx_own r6); have HB6 := hidden b6; clear r6 b6)
    | (go_at_call 37; refine (HSA.out _ hd _ (HV6.out.grow (grow_alloc _ _)) _ (tx_one _ _)).mono ?_; rintro e w7 ⟨rfl, b7⟩))
  go_ret
  exact ⟨rfl, grow_trans (grow_trans (grow_trans H5.out.low HB6.out) (grow_alloc _ _)) b7⟩

end Go.Proofs.YtlhnodinhmdjnaaGreatDoor

/- A region that draws its order, some of whose operations (the writers, Ws) write what others ahead of them read: what is held (S) is asked for as long as no writer has come up. -/
namespace Go.Proofs.YtlhnodinhmdjnaaGreatDoor
set_option maxRecDepth 20000
open Go Go.RowKit

section
variable {P : Program} {ops : Array Oper} {Q : Exit → Act → World → Prop} {md : Region.Mode} {S : World → Prop} {Ws : List Nat}

/-- A writer has come up. -/
def wrote (Ws : List Nat) (listed : Array Bool) : Bool := Ws.any fun L => listed.getD L false
theorem wrote_set {listed : Array Bool} {i : Nat} (h : Ws.contains i = false) : wrote Ws (listed.setIfInBounds i true) = wrote Ws listed := by
  unfold wrote
  apply Bool.eq_iff_iff.2
  simp only [List.any_eq_true]
  have hne : ∀ L ∈ Ws, i ≠ L := fun L hL e => by
    subst e
    simp at h
    exact h hL
  constructor
  · rintro ⟨L, h1, h2⟩
    exact ⟨L, h1, by rwa [getD_set_ne false (hne L h1)] at h2⟩
  · rintro ⟨L, h1, h2⟩
    exact ⟨L, h1, by rwa [getD_set_ne false (hne L h1)]⟩
theorem wrote_not {listed : Array Bool} {i n : Nat} (hs : ShutL md ops listed) (hi : listed.getD i false = false) (hld : (Ws.all fun L => leads md ops i n L) = true) : wrote Ws listed = false := by
  unfold wrote
  rw [Bool.eq_false_iff]
  intro h
  obtain ⟨L, h1, h2⟩ := List.any_eq_true.1 h
  have h3 := List.all_eq_true.1 hld L h1
  cases ho : ops[L]? with
  | none =>
    cases n with
    | zero => simp [leads] at h3
    | succ n => unfold leads at h3; rw [ho] at h3; cases h3
  | some o => exact leads_on hs hi n L h3 o ho (hs L o ho h2)

def wpAnyW (P : Program) (md : Region.Mode) (ops : Array Oper) (Q : Exit → Act → World → Prop) (S : World → Prop) (Ws : List Nat) : Nat → Array Bool → Act → World → Prop
  | 0, listed, a, w => Region.ready md ops listed = [] ∧ Q .normal a w
  | fuel + 1, listed, a, w =>
    (Region.ready md ops listed = [] → Q .normal a w) ∧
    ∀ i ∈ Region.ready md ops listed, wpOp P ops Q i (fun a' w' => (wrote Ws (listed.setIfInBounds i true) = true ∨ S w') ∧ wpAnyW P md ops Q S Ws fuel (listed.setIfInBounds i true) a' w') a w

theorem wpAny_of_wrote : ∀ (fuel : Nat) (listed : Array Bool) (a : Act) (w : World), wpAnyW P md ops Q S Ws fuel listed a w → wpAny P md ops Q fuel listed a w
  | 0, _, _, _, h => h
  | fuel + 1, _, _, _, h => ⟨h.1, fun i hi => wpOp_mono (fun a' w' h' => wpAny_of_wrote fuel _ a' w' h'.2) (h.2 i hi)⟩

theorem unlisted {listed : Array Bool} {i : Nat} (hr : i ∈ Region.ready md ops listed) : listed.getD i false = false := by
  have h0 := (mem_ready.1 hr).1
  rcases Nat.lt_or_ge i listed.size with h' | h'
  · simpa [h'] using h0
  · simp [Array.getElem?_eq_none h']

/-- One that reads what is held. -/
theorem wpAnyW_first {i n : Nat} {oi : Oper} {v : Value} (hi : ops[i]? = some oi) (hsel : ∀ (j : Nat) (o : Oper) cs b, ops[j]? = some o → o.op ≠ .select cs b)
    (hQ : ∀ c a w, Q (.panic c) (a.put oi.dst v) w → Q (.panic c) a w) (hld : (Ws.all fun L => leads md ops i n L) = true) (hiw : Ws.contains i = false) :
    ∀ (fuel : Nat) (listed : Array Bool) (a : Act) (w : World), ShutL md ops listed →
      (∀ j oj, ops[j]? = some oj → j ≠ i → listed.getD j true = false → (∀ e ∈ oj.after, Region.binds md e = true → e.on ≠ i) → oi.apart ops oj = true) →
      i ∈ Region.ready md ops listed → YieldsIf P ops S oi v a → S w →
      wpAnyW P md ops Q S Ws fuel (listed.setIfInBounds i true) (a.put oi.dst v) w → wpAnyW P md ops Q S Ws (fuel + 1) listed a w := by
  intro fuel
  induction fuel with
  | zero =>
    intro listed a w _ _ hr hy hS H
    refine ⟨fun h => (by rw [h] at hr; cases hr), fun j hj => ?_⟩
    by_cases hji : j = i
    · subst hji; exact hy.wpOp hi hS ⟨.inr hS, H⟩
    · have := ready_mono hj hji
      rw [H.1] at this
      cases this
  | succ fuel ih =>
    intro listed a w hsh hfree hr hy hS H
    refine ⟨fun h => (by rw [h] at hr; cases hr), fun j hj => ?_⟩
    by_cases hji : j = i
    · subst hji; exact hy.wpOp hi hS ⟨.inr hS, H⟩
    · have h1 := H.2 j (ready_mono hj hji)
      obtain ⟨hjun, oj, hoj, hall⟩ := mem_ready.1 hj
      have hi0 := unlisted hr
      have hnw : wrote Ws ((listed.setIfInBounds i true).setIfInBounds j true) = false := by
        rw [Array.setIfInBounds_comm _ _ (Ne.symm hji), wrote_set hiw]
        refine wrote_not (hsh.step hj) ?_ hld
        rw [getD_set_ne false hji]
        exact hi0
      have hnot : ∀ e ∈ oj.after, Region.binds md e = true → e.on ≠ i := fun e he hb heq => by
        have h1 := hall e he hb
        rw [heq, hi0] at h1
        cases h1
      have h2 := wpOp_putIf hoj (hfree j oj hoj hji hjun hnot) (fun cs b => hsel i oi cs b hi) (fun cs b => hsel j oj cs b hoj) hQ hy h1
      have hfree' : ∀ k ok, ops[k]? = some ok → k ≠ i → (listed.setIfInBounds j true).getD k true = false →
          (∀ e ∈ ok.after, Region.binds md e = true → e.on ≠ i) → oi.apart ops ok = true := fun k ok hk hki hun hno => by
        refine hfree k ok hk hki ?_ hno
        by_cases hjk : j = k
        · subst hjk; exact hjun
        · rw [getD_set_ne true hjk] at hun; exact hun
      refine wpOp_mono (fun a' w' h3 => ?_) h2
      have hS' : S w' := h3.2.1.resolve_left (by rw [hnw]; simp)
      refine ⟨.inr hS', ih (listed.setIfInBounds j true) a' w' (hsh.step hj) hfree' (ready_mono hr (Ne.symm hji)) h3.1 hS' ?_⟩
      rw [Array.setIfInBounds_comm _ _ hji]
      exact h3.2.2

/-- One that yields its value in whatever world. -/
theorem wpAnyW_pure {i : Nat} {oi : Oper} {v : Value} (hi : ops[i]? = some oi) (hsel : ∀ (j : Nat) (o : Oper) cs b, ops[j]? = some o → o.op ≠ .select cs b)
    (hQ : ∀ c a w, Q (.panic c) (a.put oi.dst v) w → Q (.panic c) a w) (hiw : Ws.contains i = false) :
    ∀ (fuel : Nat) (listed : Array Bool) (a : Act) (w : World),
      (∀ j oj, ops[j]? = some oj → j ≠ i → listed.getD j true = false → (∀ e ∈ oj.after, Region.binds md e = true → e.on ≠ i) → oi.apart ops oj = true) →
      i ∈ Region.ready md ops listed → YieldsIf P ops (fun _ => True) oi v a → (wrote Ws listed = true ∨ S w) →
      wpAnyW P md ops Q S Ws fuel (listed.setIfInBounds i true) (a.put oi.dst v) w → wpAnyW P md ops Q S Ws (fuel + 1) listed a w := by
  intro fuel
  induction fuel with
  | zero =>
    intro listed a w _ hr hy hS H
    refine ⟨fun h => (by rw [h] at hr; cases hr), fun j hj => ?_⟩
    by_cases hji : j = i
    · subst hji; exact hy.wpOp hi trivial ⟨by rw [wrote_set hiw]; exact hS, H⟩
    · have := ready_mono hj hji
      rw [H.1] at this
      cases this
  | succ fuel ih =>
    intro listed a w hfree hr hy hS H
    refine ⟨fun h => (by rw [h] at hr; cases hr), fun j hj => ?_⟩
    by_cases hji : j = i
    · subst hji; exact hy.wpOp hi trivial ⟨by rw [wrote_set hiw]; exact hS, H⟩
    · have h1 := H.2 j (ready_mono hj hji)
      obtain ⟨hjun, oj, hoj, hall⟩ := mem_ready.1 hj
      have hi0 := unlisted hr
      have hnot : ∀ e ∈ oj.after, Region.binds md e = true → e.on ≠ i := fun e he hb heq => by
        have h1 := hall e he hb
        rw [heq, hi0] at h1
        cases h1
      have h2 := wpOp_putIf hoj (hfree j oj hoj hji hjun hnot) (fun cs b => hsel i oi cs b hi) (fun cs b => hsel j oj cs b hoj) hQ hy h1
      have hfree' : ∀ k ok, ops[k]? = some ok → k ≠ i → (listed.setIfInBounds j true).getD k true = false →
          (∀ e ∈ ok.after, Region.binds md e = true → e.on ≠ i) → oi.apart ops ok = true := fun k ok hk hki hun hno => by
        refine hfree k ok hk hki ?_ hno
        by_cases hjk : j = k
        · subst hjk; exact hjun
        · rw [getD_set_ne true hjk] at hun; exact hun
      refine wpOp_mono (fun a' w' h3 => ?_) h2
      have hS' : wrote Ws (listed.setIfInBounds j true) = true ∨ S w' := by
        have := h3.2.1
        rwa [Array.setIfInBounds_comm _ _ (Ne.symm hji), wrote_set hiw] at this
      refine ⟨hS', ih (listed.setIfInBounds j true) a' w' hfree' (ready_mono hr (Ne.symm hji)) h3.1 hS' ?_⟩
      rw [Array.setIfInBounds_comm _ _ hji]
      exact h3.2.2

theorem wpAnyW_take {i : Nat} {oi : Oper} {v : Value} {fuel : Nat} {listed : Array Bool} {a : Act} {w : World} (hi : ops[i]? = some oi)
    (hs : Region.noSelect ops = true) (hf : Region.free md ops listed i = true) (hr : (Region.ready md ops listed).contains i = true) (hld : (Ws.all fun L => leads md ops i 40 L) = true) (hiw : Ws.contains i = false) (hsh : shutB md ops listed = true)
    (hQ : ∀ c a w, Q (.panic c) (a.put oi.dst v) w → Q (.panic c) a w) (hy : YieldsIf P ops S oi v a) (hS : S w)
    (h : wpAnyW P md ops Q S Ws fuel (listed.setIfInBounds i true) (a.put oi.dst v) w) : wpAnyW P md ops Q S Ws (fuel + 1) listed a w :=
  wpAnyW_first hi (Region.noSelect_spec hs) hQ hld hiw fuel listed a w (shutL_of hsh) (Region.free_spec hi hf) (by simpa using hr) hy hS h
theorem wpAnyW_take0 {i : Nat} {oi : Oper} {v : Value} {fuel : Nat} {listed : Array Bool} {a : Act} {w : World} (hi : ops[i]? = some oi)
    (hs : Region.noSelect ops = true) (hf : Region.free md ops listed i = true) (hr : (Region.ready md ops listed).contains i = true) (hiw : Ws.contains i = false)
    (hQ : ∀ c a w, Q (.panic c) (a.put oi.dst v) w → Q (.panic c) a w) (hy : YieldsIf P ops (fun _ => True) oi v a) (hS : wrote Ws listed = true ∨ S w)
    (h : wpAnyW P md ops Q S Ws fuel (listed.setIfInBounds i true) (a.put oi.dst v) w) : wpAnyW P md ops Q S Ws (fuel + 1) listed a w :=
  wpAnyW_pure hi (Region.noSelect_spec hs) hQ hiw fuel listed a w (Region.free_spec hi hf) (by simpa using hr) hy hS h

/-- A writer, or one that comes up behind a writer: nothing of S is shown. -/
theorem wpAnyW_one {fuel : Nat} {listed : Array Bool} {a : Act} {w : World} {i : Nat} {o : Oper} (ho : ops[i]? = some o) (hr : Region.ready md ops listed = [i]) (hw : wrote Ws (listed.setIfInBounds i true) = true)
    (h : ∀ K' : Act → World → Prop, Shut (∀ a w, wpAnyW P md ops Q S Ws fuel (listed.setIfInBounds i true) a w → K' a w) → if Region.wanted o (yielded ops a.tmps) = true then Oper.wp P o a w K' Q else K' (a.put o.dst undef) w) :
    wpAnyW P md ops Q S Ws (fuel + 1) listed a w := by
  refine ⟨fun h0 => ?_, fun j hj => ?_⟩
  · rw [hr] at h0
    cases h0
  · rw [hr] at hj
    obtain rfl : j = i := by simpa using hj
    exact wpOp_step ho (fun K' hK => h K' (fun a w hW => hK a w ⟨.inl hw, hW⟩))

theorem wpAnyW_done {fuel : Nat} {listed : Array Bool} {a : Act} {w : World} (he : Region.ready md ops listed = []) (h : Q .normal a w) : wpAnyW P md ops Q S Ws fuel listed a w := by
  cases fuel with
  | zero => exact ⟨he, h⟩
  | succ n => exact ⟨fun _ => h, by rw [he]; simp⟩

theorem wp_region_wrote {id : Nat} {a : Act} {w : World} (Ws : List Nat) (hm : P.follows .mixedOrders = true) (hS : S w.drew)
    (h : S w.drew → wpAnyW P .any ops Q S Ws ops.size (Array.replicate ops.size false) a w.drew) : (Code.region id ops true).wp P Q a w :=
  wp_region_any hm (wpAny_of_wrote _ _ _ _ (h hS))

end
end Go.Proofs.YtlhnodinhmdjnaaGreatDoor
