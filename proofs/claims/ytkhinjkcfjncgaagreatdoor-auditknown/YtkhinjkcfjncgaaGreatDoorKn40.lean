/- AuditKnown's walk: the document's examples. -/
import Derived.Test.YtkhinjkcfjncgaaGreatDoorKn32
import Derived.Test.YtkhinjkcfjncgaaGreatDoorKn33
import Derived.Test.YtkhinjkcfjncgaaGreatDoorKn39
import Derived.Test.YtkhinjkcfjncgaaGreatDoorRows
import Derived.ProofKit
import Derived.OpenShut
import Derived.ShutString
import Derived.ChangeOld
import Derived.Below
import Derived.SizedLaws
import Derived.Test.YtkhinjkcfjncgaaGreatDoorKn12
import Derived.LaidMore
import Derived.Stop.Joined
import Derived.Lib.LaidTab
namespace Go.Proofs.YtkhinjkcfjncgaaGreatDoor
set_option maxRecDepth 20000
open Go.RowKit

abbrev E12 : List Ent := [(kyB 128, []), (z32, [])]
/-- What is known of the store of two leaves. -/
structure Kn12 (cs : List (Nat × Ce)) (r : Nat) : Prop where
  wf : Wf cs []
  root : vRt true (cot cs r) (cat cs r) r = 0
  lv : r ≠ 0 ∧ 0 < cc cs (r - 1)
  top : ns cs (r - 1) = 0
  one : ∀ i, 0 < cc cs i → cc cs i = 1
  three : noc cs = 3
  own : ∀ i, own cs [] i = if r = i + 1 then 1 else 0
  len : cs.length ≤ 3
theorem ax_kn {w w' : World} {S : List Nat} {g gs room r : Nat} (h : Ax w S w' g gs room r 3 E12) : ∃ cs, Au w' (.pointer (some ⟨g, 0, none⟩)) cs ∧ Kn12 cs r := by
  obtain ⟨cs, fr, T, h1, h2, h3, h4, h5, h6⟩ := h
  obtain ⟨r1, r2, r3, r4, r5⟩ := two_counts h1.2 h2.tree h2.dp h3 (by decide) (by decide) h6 h5
  exact ⟨cs, h1.au, h1.2, h2.root, ⟨by omega, r2⟩, r3, r4, r5, h5, h6⟩
theorem Kn12.all {cs : List (Nat × Ce)} {r : Nat} (k : Kn12 cs r) {R P : List Nat} (h : RdA cs R P) (hr : r ∈ R) : ∀ i, 0 < cc cs i → i + 1 ∈ rch P := reach_all k.wf h (fun i hi => by
  rw [k.own i] at hi
  by_cases e : r = i + 1
  · rw [← e]
    exact hr
  · rw [if_neg e] at hi
    omega)
theorem Kn12.cw {cs : List (Nat × Ce)} {r : Nat} (k : Kn12 cs r) (i : Nat) : cc cs i = ns cs i + (if r = i + 1 then 1 else 0) := by
  have c1 := k.wf.own i
  have c2 := k.wf.ab i
  rw [List.count_nil, k.own i] at c1
  omega
/-- Roots that are this one, or 0. -/
theorem Kn12.rts {cs : List (Nat × Ce)} {r : Nat} (k : Kn12 cs r) (R : List Nat) (hR : ∀ x ∈ R, x = r ∨ x = 0) (hl : R.length ≤ 64) : Rts cs R := by
  refine ⟨?_, fun x hx h0 => ?_⟩
  · rw [auE, if_neg (by rw [zN_length]; omega)]
    clear hl
    induction R with
    | nil => rfl
    | cons a R ih =>
      show (if vRt true (cot cs a) (cat cs a) a = 0 then _ else _) = 0
      have ha : vRt true (cot cs (a : Int)) (cat cs (a : Int)) (a : Int) = 0 := by
        rcases hR a (by simp) with e | e
        · rw [e]; exact k.root
        · rw [e]; rfl
      rw [if_pos ha]
      exact ih (fun x hx => hR x (by simp [hx]))
  · rcases hR x hx with e | e
    · rw [e]; exact k.lv.2
    · exact absurd e h0
theorem Kn12.lvs {cs : List (Nat × Ce)} {r : Nat} (k : Kn12 cs r) {R : List Nat} (hR : ∀ x ∈ R, x = r ∨ x = 0) : ∀ x ∈ R, x ≠ 0 → 0 < cc cs (x - 1) := fun x hx h0 => by
  rcases hR x hx with e | e
  · rw [e]; exact k.lv.2
  · exact absurd e h0
theorem Kn12.wa {cs : List (Nat × Ce)} {r : Nat} (k : Kn12 cs r) {R P : List Nat} (h : RdA cs R P) (hr : r ∈ R) (hR : ∀ x ∈ R, x = r ∨ x = 0) (i : Nat) : wnt P ((i + 1 : Nat) : Int) = R.count (i + 1) + ns cs i := want_all k.wf h (k.lvs hR) (k.all h hr) i
theorem Kn12.pm {cs : List (Nat × Ce)} {r : Nat} (k : Kn12 cs r) {R P : List Nat} (h : RdA cs R P) (hr : r ∈ R) (hR : ∀ x ∈ R, x = r ∨ x = 0) : (rch P).Perm (slotsOf (cs.map pl)) := (List.perm_ext_iff_of_nodup (rch_nodup P) (slots_nd _)).2 (fun x => by
  rw [slot_iff]
  constructor
  · intro q
    exact ((h.mem x).1 q).live k.wf (k.lvs hR)
  · rintro ⟨x0, hx⟩
    have := k.all h hr (x - 1) hx
    rwa [show x - 1 + 1 = x by omega] at this)
theorem Kn12.three' {cs : List (Nat × Ce)} {r : Nat} (k : Kn12 cs r) {R P : List Nat} (h : RdA cs R P) (hr : r ∈ R) (hR : ∀ x ∈ R, x = r ∨ x = 0) : (rch P).length = 3 := by
  rw [(k.pm h hr hR).length_eq, slots_length]
  exact k.three
theorem Kn12.lost {cs : List (Nat × Ce)} {r : Nat} (k : Kn12 cs r) {R P : List Nat} (h : RdA cs R P) (hr : r ∈ R) (hR : ∀ x ∈ R, x = r ∨ x = 0) : lsA P (slotsOf (cs.map pl)) = [] := by
  unfold lsA
  rw [List.filter_eq_nil_iff]
  intro x hx
  have h1 := (k.pm h hr hR).mem_iff.2 hx
  have h0 := ((slot_iff cs x).1 hx).1
  simp only [decide_eq_true_eq]
  intro e
  exact (wnt_pos P x h0).1 e h1
theorem Kn12.clean {cs : List (Nat × Ce)} {r : Nat} (k : Kn12 cs r) {P : List Nat} (h : RdA cs [r, 0, 0] P) : fnA cs P (slotsOf (cs.map pl)) = [] := by
  unfold fnA
  rw [List.filter_eq_nil_iff]
  intro x hx
  obtain ⟨x0, hxc⟩ := (slot_iff cs x).1 hx
  obtain ⟨i, rfl⟩ : ∃ i, x = i + 1 := ⟨x - 1, by omega⟩
  have e1 := k.wa h (by simp) (by simp) i
  have e2 := k.cw i
  rw [Nat.add_sub_cancel] at hxc ⊢
  rw [e1]
  have e3 : [r, 0, 0].count (i + 1) = if r = i + 1 then 1 else 0 := by
    simp only [List.count_cons, List.count_nil, beq_iff_eq]
    simp
  simp only [decide_eq_true_eq, ne_eq, Classical.not_not]
  omega
theorem Kn12.shared {cs : List (Nat × Ce)} {r : Nat} (k : Kn12 cs r) {P : List Nat} (h : RdA cs [r, r] P) : shA P (rch P) = 1 := by
  have nd : ((rch P).filter fun (x : Nat) => decide (1 < wnt P (x : Int))).Nodup := (rch_nodup P).filter _
  have pm : ((rch P).filter fun (x : Nat) => decide (1 < wnt P (x : Int))).Perm [r] := (List.perm_ext_iff_of_nodup nd (by simp)).2 (fun x => by
    rw [List.mem_filter, (k.pm h (by simp) (by simp)).mem_iff, slot_iff, List.mem_singleton]
    have e3 : ∀ i, [r, r].count (i + 1) = if r = i + 1 then 2 else 0 := fun i => by
      simp only [List.count_cons, List.count_nil, beq_iff_eq]
      split <;> rfl
    constructor
    · rintro ⟨⟨x0, hxc⟩, hd⟩
      obtain ⟨i, rfl⟩ : ∃ i, x = i + 1 := ⟨x - 1, by omega⟩
      have e1 := k.wa h (by simp) (by simp) i
      have e2 := k.cw i
      rw [Nat.add_sub_cancel] at hxc
      have e4 := k.one i hxc
      rw [e1, e3 i] at hd
      simp only [decide_eq_true_eq] at hd
      apply Classical.byContradiction
      intro q
      rw [if_neg (fun z => q z.symm)] at hd e2
      omega
    · rintro rfl
      refine ⟨k.lv, ?_⟩
      obtain ⟨i, hi⟩ : ∃ i, x = i + 1 := ⟨x - 1, by have := k.lv.1; omega⟩
      have e1 := k.wa h (by simp) (by simp) i
      rw [e3 i, if_pos hi, ← hi] at e1
      simp only [decide_eq_true_eq]
      omega)
  have := pm.length_eq
  exact this

theorem missing12 {cs : List (Nat × Ce)} (h : cs.length ≤ 3) : auE (cot cs) (cat cs) [599] = 7 := by
  have : cot cs 599 = 0 := by
    unfold cot
    rw [if_pos (by omega)]
    exact cc_out cs _ (by show _ ≤ (599 - 1 : Int).toNat; omega)
  show (if vRt true (cot cs 599) (cat cs 599) 599 = 0 then _ else vRt true (cot cs 599) (cat cs 599) 599) = 7
  rw [this]
  rfl

set_option maxHeartbeats 8000000 in
theorem auditKnown_walk (w : World) (hL : Laid w) : Calls Tryz.prog 8 #[] w fun e w' => e = .returned (.bool true) ∧ Below w.heap.size w w' := by
  have HT : Hid (Calls Tryz.prog 29 #[] w fun e w' => ∃ g gs r : Nat, e = .returned (.tuple #[.pointer (some ⟨g, 0, none⟩), .int .i64 (r : Int)]) ∧ Ax w [] w' g gs 600 r 3 E12) := two_any w hL
  have HAW : Hid (∀ w', Below w.heap.size w w' → Calls Tryz.prog 25 #[] w' fun e w'' => e = .returned (.bool true) ∧ Below w'.heap.size w' w'') := fun w' hb => awake12_any w' (hL.grow hb)
  have HRE : Hid (∀ w' b g gs r, Ax w [] w' g gs 600 r 3 E12 → Blk w' b 3 #[.int .i64 (r : Int)] → Calls Tryz.prog 14 #[.pointer (some ⟨g, 0, none⟩), .slice (some ⟨b, 0, none⟩) 1 1] w' fun e w'' => ∃ a c, e = .returned (.tuple #[.slice a 3 c, .int .i64 0]) ∧ Below w'.heap.size w' w'') := fun w' b g gs r h hB => by
    obtain ⟨cs, A, k⟩ := ax_kn h
    refine (rea_any A (k.rts [r] (by simp) (by simp)) (zs_blk (R := [r]) 1 hB rfl 1)).mono ?_
    rintro e w'' ⟨P, a, c, rfl, q1, q2, q3⟩
    rw [k.three' q1 (by simp) (by simp)]
    exact ⟨a, c, rfl, q3⟩
  have HLO : Hid (∀ w' b g gs r, Ax w [] w' g gs 600 r 3 E12 → Blk w' b 3 #[.int .i64 (r : Int)] → Calls Tryz.prog 16 #[.pointer (some ⟨g, 0, none⟩), .slice (some ⟨b, 0, none⟩) 1 1] w' fun e w'' => ∃ a c, e = .returned (.tuple #[.slice a 0 c, .int .i64 0]) ∧ Below w'.heap.size w' w'') := fun w' b g gs r h hB => by
    obtain ⟨cs, A, k⟩ := ax_kn h
    refine (lost_any A (k.rts [r] (by simp) (by simp)) (zs_blk (R := [r]) 1 hB rfl 1)).mono ?_
    rintro e w'' ⟨P, a, c, rfl, q1, q2, q3⟩
    rw [k.lost q1 (by simp) (by simp)]
    exact ⟨a, c, rfl, q3⟩
  have HSH : Hid (∀ w' b g gs r, Ax w [] w' g gs 600 r 3 E12 → Blk w' b 3 #[.int .i64 (r : Int), .int .i64 (r : Int)] → Calls Tryz.prog 18 #[.pointer (some ⟨g, 0, none⟩), .slice (some ⟨b, 0, none⟩) 2 2] w' fun e w'' => e = .returned (.tuple #[.int .i64 1, .int .i64 0]) ∧ Below w'.heap.size w' w'') := fun w' b g gs r h hB => by
    obtain ⟨cs, A, k⟩ := ax_kn h
    refine (shd_any A (k.rts [r, r] (by simp) (by simp)) (zs_blk (R := [r, r]) 2 hB rfl 2)).mono ?_
    rintro e w'' ⟨P, rfl, q1, q3⟩
    rw [k.shared q1]
    exact ⟨rfl, q3⟩
  have HC1 : Hid (∀ w' b g gs r, Ax w [] w' g gs 600 r 3 E12 → Lst w' 3 1 (.slice (some ⟨b, 0, none⟩) 65 65) 65 (nats (List.replicate 65 0)) → Calls Tryz.prog 11 #[.pointer (some ⟨g, 0, none⟩), .slice (some ⟨b, 0, none⟩) 65 65] w' fun e w'' => e = .returned (.tuple #[.slice none 0 0, .int .i64 4]) ∧ Below w'.heap.size w' w'') := fun w' b g gs r h hB => by
    obtain ⟨cs, A, k⟩ := ax_kn h
    have hz : Zs w' (.slice (some ⟨b, 0, none⟩) 65 65) (zN (List.replicate 65 0)) := ⟨_, _, by rw [zN_length, List.length_replicate], fun q hq => ⟨b, 0, rfl, by
      rw [zN_length] at hq
      have hq' : q < 65 := by simpa using hq
      rw [Nat.zero_add, lst_cell hB q (by omega), nats_get _ q (by simpa using hq'), zN_get _ q hq]
      simp [List.getD, hq']⟩⟩
    have e4 : auE (cot cs) (cat cs) (zN (List.replicate 65 0)) = 4 := by rw [auE, if_pos (by rw [zN_length, List.length_replicate]; omega)]
    have := chk_bad (lkBad_any A.vw hz (by rw [e4]; decide)) (by rw [e4]; decide)
    rwa [e4] at this
  have HC2 : Hid (∀ w' b g gs r, Ax w [] w' g gs 600 r 3 E12 → Blk w' b 3 #[.int .i64 599] → Calls Tryz.prog 11 #[.pointer (some ⟨g, 0, none⟩), .slice (some ⟨b, 0, none⟩) 1 1] w' fun e w'' => e = .returned (.tuple #[.slice none 0 0, .int .i64 7]) ∧ Below w'.heap.size w' w'') := fun w' b g gs r h hB => by
    obtain ⟨cs, A, k⟩ := ax_kn h
    have e7 := missing12 k.len
    have := chk_bad (lkBad_any A.vw (zs_blk (R := [599]) 1 hB rfl 1) (by rw [show zN [599] = [599] from rfl, e7]; decide)) (by rw [show zN [599] = [599] from rfl, e7]; decide)
    rwa [show zN [599] = [599] from rfl, e7] at this
  have HC3 : Hid (∀ w' b g gs r, Ax w [] w' g gs 600 r 3 E12 → Blk w' b 3 #[.int .i64 (r : Int), .int .i64 0, .int .i64 0] → Calls Tryz.prog 11 #[.pointer (some ⟨g, 0, none⟩), .slice (some ⟨b, 0, none⟩) 3 3] w' fun e w'' => ∃ a c, e = .returned (.tuple #[.slice a 0 c, .int .i64 0]) ∧ Below w'.heap.size w' w'') := fun w' b g gs r h hB => by
    obtain ⟨cs, A, k⟩ := ax_kn h
    refine (chk_any A (k.rts [r, 0, 0] (by simp) (by simp)) (zs_blk (R := [r, 0, 0]) 3 hB rfl 3)).mono ?_
    rintro e w'' ⟨P, a, c, rfl, q1, q2, q3⟩
    rw [k.clean q1]
    exact ⟨a, c, rfl, q3⟩
  have HSN : Hid (∀ w' g gs r, Ax w [] w' g gs 600 r 3 E12 → Calls Tryz.prog 23 #[.pointer (some ⟨g, 0, none⟩), .int .i64 0] w' fun e w'' => e = .returned (.tuple #[.bool true, .int .i64 0]) ∧ Below w'.heap.size w' w'') := fun w' g gs r h => by
    obtain ⟨cs, A, k⟩ := ax_kn h
    exact snd_zero A (hL.grow h.low)
  clear hL
  generalize E12 = es at HT HRE HLO HSH HC1 HC2 HC3 HSN
  go_enter Tryz.func8, Tryz.ntmps8
  go_wp2_with (first
    | (go_at_call 29; refine HT.out.mono ?_; rintro e w1 ⟨g, gs, r, rfl, h1⟩; have HA1 := hidden (h1.grow (grow_alloc w1 (.cells #[.int .i64 (r : Int)] 3))); clear h1)
    | (go_at_call 14; refine (HRE.out _ _ _ _ _ HA1.out (Blk.new _ _ _)).mono ?_; rintro e w2 ⟨a1, c1, rfl, b2⟩; have HA2 := hidden ((HA1.out.grow b2).grow (grow_alloc w2 (.cells #[.int .i64 (r : Int)] 3))); clear b2)
    | (go_at_call 16; refine (HLO.out _ _ _ _ _ HA2.out (Blk.new _ _ _)).mono ?_; rintro e w3 ⟨a2, c2, rfl, b3⟩; have HA3 := hidden ((HA2.out.grow b3).grow (grow_alloc w3 (.cells #[.int .i64 (r : Int), .int .i64 (r : Int)] 3))); clear b3)
    | (go_at_call 18; refine (HSH.out _ _ _ _ _ HA3.out (Blk.new _ _ _)).mono ?_; rintro e w4 ⟨rfl, b4⟩; have HA4 := hidden (HA3.out.grow b4); clear b4)
    | (at_make; refine wpList_mkL _ rfl _ _ _ 3 Tryz.underlying23 (.int .i64 0) 8 ⟨_, rfl, rfl, rfl, rfl⟩ rfl rfl .i64 .i64 65 65 65 65 rfl rfl rfl rfl (by omega) (by omega) (by omega) ?_; intro w5 o5 b5 s5; have HO5 := hidden o5; have HA5 := hidden (HA4.out.grow b5); clear o5 b5 s5)
    | (go_at_call 11; have mk := mk2; clear mk; refine (HC3.out _ _ _ _ _ HA7.out (Blk.new _ _ _)).mono ?_; rintro e w8 ⟨a3, c3, rfl, b8⟩; have HA8 := hidden (HA7.out.grow b8); clear b8)
    | (go_at_call 11; have mk := mk1; clear mk; refine (HC2.out _ _ _ _ _ HA6.out (Blk.new _ _ _)).mono ?_; rintro e w7 ⟨rfl, b7⟩; have HA7 := hidden ((HA6.out.grow b7).grow (grow_alloc w7 (.cells #[.int .i64 (r : Int), .int .i64 0, .int .i64 0] 3))); have mk2 : Hid True := trivial; clear b7)
    | (go_at_call 11; refine (HC1.out _ _ _ _ _ HA5.out (owR_lst HO5.out)).mono ?_; rintro e w6 ⟨rfl, b6⟩; have HA6 := hidden ((HA5.out.grow b6).grow (grow_alloc w6 (.cells #[.int .i64 599] 3))); have mk1 : Hid True := trivial; clear b6)
    | (go_at_call 23; refine (HSN.out _ _ _ _ HA8.out).mono ?_; rintro e w9 ⟨rfl, b9⟩; have HA9 := hidden (HA8.out.grow b9); clear b9)
    | (go_at_call 25; refine (HAW.out _ HA9.out.low).mono ?_; rintro e w10 ⟨rfl, b10⟩; have HB10 := hidden (grow_trans HA9.out.low b10); clear b10))
  go_ret
  exact ⟨rfl, HB10.out⟩

end Go.Proofs.YtkhinjkcfjncgaaGreatDoor

/- What every statement's proof asks of the program as a whole. -/
namespace Go.Proofs.YtkhinjkcfjncgaaGreatDoor
set_option maxRecDepth 20000
open Go.ChangeShapes Go.WideShapes Go.ChangeAt Go.RowKit

theorem ownK : ownKnob Tryz.prog.godebug = none := by kernel_rfl
theorem laidOut : laidOutB Tryz.prog = true := by kernel_rfl

theorem okWide_st {t : TypeId} {fs : Array Field} {W : World} {base : Nat} {v : Value} (ht : Tryz.prog.underlying t = some (.struct fs)) (h : Value.okWide Tryz.prog W .any base t v) : ∃ cs, v = .agg cs := by
  unfold Value.okWide at h
  cases v <;> simp_all

end Go.Proofs.YtkhinjkcfjncgaaGreatDoor

/- What the two tables of sha hold when a statement's call begins, as the rows list it; and the start that the program's own text lays. -/
namespace Go.Proofs.YtkhinjkcfjncgaaGreatDoor
set_option maxRecDepth 20000
open Go.ChangeShapes Go.WideShapes Go.ChangeAt Go.WideMaps Go.WideElems Go.RowKit

abbrev laid2 : List (String × DataW Unit) := Rows.auditCallsRow.laid
abbrev nameOf (i : Nat) : String := (laid2.map (·.1)).getD i Rows.auditCallsRow.func

theorem gFirst : Tryz.prog.globalNamed (nameOf 0) = some 0 := by kernel_rfl
theorem gRounds : Tryz.prog.globalNamed (nameOf 1) = some 1 := by kernel_rfl
theorem tFirst : (Tryz.prog.globals[0]?).map (·.type) = some 257 := by kernel_rfl
theorem tRounds : (Tryz.prog.globals[1]?).map (·.type) = some 271 := by kernel_rfl

/-- The door's own heap meets the condition. -/
theorem door_met (os : Os) (args : Array Value) : laidMetH Tryz.prog laid2 ((World.doorLaid Tryz.prog 400 os).forCall (fun _ _ => 0) ⟨#[], args, []⟩).memory :=
  laidMetH_of_parts3 (fuel := 8) (laidMet_of_run' 8 (by kernel_rfl) (by kernel_rfl)) (by kernel_rfl) (by kernel_rfl)

theorem tab_first : (Rows.laid_rootcellar_sha_first : DataW Unit) = Lib.tabData .u32 hs := rfl
theorem tab_rounds : (Rows.laid_rootcellar_sha_rounds : DataW Unit) = Lib.tabData .u32 ks := rfl
theorem cells_w8 : Tryz.prog.cellsOf 257 = 8 := by kernel_rfl
theorem cells_w64 : Tryz.prog.cellsOf 271 = 64 := by kernel_rfl
theorem cells_w : Tryz.prog.cellsOf 179 = 1 := by kernel_rfl

/-- What the condition gives the walks. -/
theorem of_laid {W : World} (h : laidMetH Tryz.prog laid2 W) : Laid W := by
  rw [MakeChecks.laidMetH_plain _ _ _ (by kernel_rfl)] at h
  obtain ⟨ps, ⟨g0, t0, cs0, f0, p0, q0, hg0, ht0, hv0, hd0, ⟨g1, t1, cs1, f1, p1, q1, hg1, ht1, hv1, hd1, _, _⟩, _⟩, _, _⟩ := h
  obtain rfl := Option.some.inj (gFirst.symm.trans hg0)
  obtain rfl := Option.some.inj (gRounds.symm.trans hg1)
  obtain rfl := Option.some.inj (tFirst.symm.trans ht0)
  obtain rfl := Option.some.inj (tRounds.symm.trans ht1)
  rw [tab_first] at hd0
  rw [tab_rounds] at hd1
  have e0 := Lib.cells_of_tab Tryz.underlying257 Tryz.underlying179 cells_w cells_w8 hd0
  have e1 := Lib.cells_of_tab Tryz.underlying271 Tryz.underlying179 cells_w cells_w64 hd1
  have c1 : ∀ i, i < 64 → W.cell? ⟨1, i, none⟩ = some (.int .u32 (ks.getD i 0)) := by
    intro i hi
    rw [World.var?_cell hg1 hv1 i, ← Array.getElem?_toList, e1, List.getElem?_map, List.getElem?_eq_getElem (show i < ks.length from hi)]
    simp [List.getD, show i < ks.length from hi]
  have c0 : ∀ i, i < 8 → W.cell? ⟨0, i, none⟩ = some (.int .u32 (hs.getD i 0)) := by
    intro i hi
    rw [World.var?_cell hg0 hv0 i, ← Array.getElem?_toList, e0, List.getElem?_map, List.getElem?_eq_getElem (show i < hs.length from hi)]
    simp [List.getD, show i < hs.length from hi]
  exact ⟨block_lt_of_cell (c1 0 (by omega)), c1, c0⟩

end Go.Proofs.YtkhinjkcfjncgaaGreatDoor
