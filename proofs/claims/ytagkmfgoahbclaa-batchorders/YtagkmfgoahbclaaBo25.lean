/- slices.Clone of writes, batch.latest and batch.Keys, as contracts. -/
import Derived.Test.YtagkmfgoahbclaaBo24
import Derived.Test.YtagkmfgoahbclaaBo22
namespace Go.Proofs.Ytagkmfgoahbclaa
set_option maxRecDepth 20000
open Go.RowKit

/-- The same writes in a new list. -/
def ClnPost (ls : List Wt) (w : World) (e : Ending) (w' : World) : Prop := ∃ v', e = .returned v' ∧ Lst w' 37 34 v' ls.length (flatE encW ls) ∧ (∀ g, v'.ownBlock = some g → w.heap.size ≤ g) ∧ Below w.heap.size w w'

theorem eql_wr_nil (w : World) (a : Option Addr) (l c : Nat) : (binOp .eql 23 (.slice a l c) (.slice none 0 0)).run Try.prog w = .ok (.bool a.isNone) w :=
  Lib.run_eql_slice_nil w _ _ a l c 0 0 Try.underlying23

theorem wclone_any (v : Value) (ls : List Wt) (w : World) (h : WrAt w v ls) (hn : ls.length ≤ 65536) : Calls Try.prog 26 #[v] w (ClnPost ls w) := by
  have HW := hidden h
  obtain ⟨a, cap, rfl, h1, h2, h3, h4⟩ := id h
  cases a with
  | none =>
    have hl : ls.length = 0 := by have := h2 rfl; omega
    have HP : Hid (ClnPost ls w (.returned (.slice none 0 0)) w) := ⟨_, rfl, ⟨by rw [flatE_len ls (K := 34) (fun x hx => (h4.1 x hx).len)], .inl ⟨rfl, hl⟩⟩, fun g hg => by simp [Value.ownBlock] at hg, Below.refl _ _⟩
    have e1 := eql_wr_nil w none ls.length cap
    simp only [Option.isNone_none] at e1
    clear h h1 h2 h3 h4 HW hl
    go_enter Try.func26, Try.ntmps26
    go_wp2
    go_ret
    exact HP.out
  | some ad =>
    have e1 := eql_wr_nil w (some ad) ls.length cap
    simp only [Option.isNone_some] at e1
    have HN := hidden hn
    have HPost : Hid (∀ v' w1 w' g, w.heap.size ≤ g → Below w.heap.size w w1 → Lst w' 37 34 v' (0 + ls.length) ([] ++ flatE encW ls) → w1.grownBy w' (some g) → WhereL w1 (.slice (some ⟨g, 0, none⟩) 0 0) v' → ClnPost ls w (.returned v') w') := fun v' w1 w' g k1 k2 k3 k4 k5 => by
      refine ⟨v', rfl, by simpa using k3, fun q hq => ?_, below_row k2 k4 k1⟩
      rcases k5 with k5 | ⟨q', k6, k7⟩
      · rw [hq] at k5
        simp only [Value.ownBlock, Option.some.injEq] at k5
        omega
      · rw [hq] at k6
        injection k6 with k6
        have := k2.size
        omega
    clear h h1 h2 h3 h4 hn
    go_enter Try.func26, Try.ntmps26
    go_wp2_with (first
      | (refine wpList_bs0w _ rfl rfl ?_; intro w1 g hg hown b1)
      | (refine wpList_appWs _ rfl _ _ rfl _ _ 0 [] ls rfl rfl hown (HW.out.grow b1) (by have := HN.out; omega) ?_; intro v' w' k3 k4 k5))
    go_ret
    exact HPost.out v' w1 w' g hg b1 k3 k4 k5

theorem ins_zero (v f : Value) (w : World) : Calls Try.prog 31 #[v, .int .i64 0, .int .i64 0, f] w fun e w' => e = .returned (.tuple #[]) ∧ w' = w := by
  go_enter Try.func31, Try.ntmps31
  go_wp2_with fail
  go_loopw [8] (fun iv wr => iv = .int .i64 1 ∧ wr = w) (fun _ _ => 0)
  case atStart => exact ⟨rfl, rfl⟩
  case round =>
    obtain ⟨rfl, rfl⟩ := hrel
    go_wp2
    go_end0
    exact ⟨rfl, rfl⟩

theorem stb_zero (v f : Value) (w : World) : Calls Try.prog 29 #[v, .int .i64 0, f] w fun e w' => e = .returned (.tuple #[]) ∧ w' = w := by
  have HC : Hid (∀ w, Calls Try.prog 31 #[v, .int .i64 0, .int .i64 0, f] w fun e w' => e = .returned (.tuple #[]) ∧ w' = w) := fun w => ins_zero v f w
  go_enter Try.func29, Try.ntmps29
  go_wp2_with fail
  go_loopw [7, 8] (fun av bv wr => av = .int .i64 0 ∧ bv = .int .i64 20 ∧ wr = w) (fun _ _ _ => 0)
  case atStart => exact ⟨rfl, rfl, rfl⟩
  case round =>
    obtain ⟨rfl, rfl, rfl⟩ := hrel
    go_wp2_with (go_at_call 31; refine (HC.out _).mono ?_; rintro e w' ⟨rfl, hx⟩; rw [hx]; clear hx w')
    go_loopw [6, 7, 8, 9] (fun kv _ _ _ w2 => kv = .int .i64 20 ∧ w2 = wr) (fun _ _ _ _ _ => 0)
    case atStart => exact ⟨rfl, rfl⟩
    case round =>
      obtain ⟨rfl, rfl⟩ := hrel
      go_wp2
      go_end0
      exact ⟨rfl, rfl⟩

theorem srt_zero (f : Value) (w : World) : Calls Try.prog 27 #[.slice none 0 0, f] w fun e w' => e = .returned (.tuple #[]) ∧ w' = w := by
  have HC : Hid (∀ w, Calls Try.prog 29 #[.slice none 0 0, .int .i64 0, f] w fun e w' => e = .returned (.tuple #[]) ∧ w' = w) := fun w => stb_zero _ f w
  go_enter Try.func27, Try.ntmps27
  go_wp2_with (go_at_call 29; refine (HC.out _).mono ?_; rintro e w' ⟨rfl, hx⟩; rw [hx]; clear hx w')
  go_end0
  exact ⟨rfl, rfl⟩

/-- The writes sorted: since w0 only new blocks turned. -/
def SrtPost (w0 : World) (v : Value) (ls : List Wt) (e : Ending) (w' : World) : Prop := e = .returned (.tuple #[]) ∧ ∃ ys, ys.length = ls.length ∧ Lst w' 37 34 v ls.length (flatE encW ys) ∧ (∀ x ∈ ys, WtOk x) ∧ Stab ls ys ∧ Srt 0 ys.length ys ∧ Below w0.heap.size w0 w'
theorem sorted_any (w0 : World) (v : Value) (ls : List Wt) (w : World) (h : Lst w 37 34 v ls.length (flatE encW ls)) (hg : ∀ g, v.ownBlock = some g → w0.heap.size ≤ g) (hok : ∀ x ∈ ls, WtOk x) (hb : Below w0.heap.size w0 w) (hn : ls.length ≤ 65536) : Calls Try.prog 27 #[v, .func (.func 24) #[] #[]] w (SrtPost w0 v ls) := by
  rcases h.2 with ⟨rfl, hz⟩ | ⟨g, cap, cur, rfl, _⟩
  · refine (srt_zero _ w).mono ?_
    rintro e w' ⟨rfl, rfl⟩
    exact ⟨rfl, ls, rfl, h, hok, Stab.refl _, Srt.none (by omega), hb⟩
  · refine (srt_any w g ls.length cap ls w ⟨rfl, h, Mod.refl _ _, hok⟩ hn).mono ?_
    rintro e w' ⟨rfl, ys, sw, st, so⟩
    have e1 := sw.len
    refine ⟨rfl, ys, e1, sw.own, sw.ok, st.stab, by rw [e1]; exact so, hb.trans ?_⟩
    exact sw.mod.below (fun k hk => by obtain rfl : k = g := by simpa using hk
                                       exact hg k rfl) hb.size

def LatPost (ls : List Wt) (w : World) (e : Ending) (w' : World) : Prop := ∃ v ks, e = .returned v ∧ Lat ls ks ∧ Lst w' 37 34 v ks.length (flatE encW ks) ∧ (∀ g, v.ownBlock = some g → w.heap.size ≤ g) ∧ ks.length ≤ ls.length ∧ Below w.heap.size w w'

/-- The state of the list of those that are kept. -/
structure Kpt (w0 : World) (gs : Value) (ys : List Wt) (i : Nat) (w : World) (kv : Value) (ks : List Wt) : Prop where
  srt : Lst w 37 34 gs ys.length (flatE encW ys)
  own : Lst w 37 34 kv ks.length (flatE encW ks)
  new : ∀ g, kv.ownBlock = some g → w0.heap.size ≤ g
  ne : ∀ g, kv.ownBlock = some g → gs.ownBlock ≠ some g
  kp : KpI ys i ks
  few : ks.length ≤ i
  ok : ∀ x ∈ ks, WtOk x
  bel : Below w0.heap.size w0 w
theorem Kpt.grow {w0 w w' : World} {gs kv : Value} {ys ks : List Wt} {i : Nat} (h : Kpt w0 gs ys i w kv ks) (hb : Below w.heap.size w w') : Kpt w0 gs ys i w' kv ks := ⟨lst_grow h.srt hb, lst_grow h.own hb, h.new, h.ne, h.kp, h.few, h.ok, grow_trans h.bel hb⟩
theorem Kpt.skip {w0 w : World} {gs kv : Value} {ys ks : List Wt} {i : Nat} (h : Kpt w0 gs ys i w kv ks) (hn : ¬ Ltr ys i) : Kpt w0 gs ys (i + 1) w kv ks := ⟨h.srt, h.own, h.new, h.ne, h.kp.skip hn, Nat.le_succ_of_le h.few, h.ok, h.bel⟩
theorem Kpt.take {w0 w w' : World} {gs kv kv' : Value} {ys ks : List Wt} {i : Nat} {x : Wt} (h : Kpt w0 gs ys i w kv ks) (hk : Kys ys) (hs : Srt 0 ys.length ys) (hx : ys[i]? = some x) (hxo : WtOk x) (hn : Ltr ys i) (q1 : Lst w' 37 34 kv' (ks.length + 1) (flatE encW ks ++ encW x)) (q2 : w.grownBy w' kv.ownBlock) (q3 : WhereL w kv kv') : Kpt w0 gs ys (i + 1) w' kv' (ks ++ [x]) := by
  have hm : Mod (match kv.ownBlock with | some g => [g] | none => []) w w' := Mod.of_grown q2 (fun k hk => by rw [hk]; simp)
  have hnew : ∀ g, kv'.ownBlock = some g → (kv.ownBlock = some g) ∨ w.heap.size ≤ g := fun g hg => by
    rcases q3 with q3 | ⟨k, k1, k2⟩
    · exact .inl (by rw [← q3]; exact hg)
    · rw [hg] at k1
      injection k1 with k1
      exact .inr (by omega)
  refine ⟨lst_mod h.srt hm fun g hg hin => ?_, by rw [List.length_append, flatE_snoc]; exact q1, fun g hg => ?_, fun g hg e => ?_, h.kp.take hk hs hx hn, by rw [List.length_append]; have := h.few; simp; omega, fun y hy => ?_, ?_⟩
  · cases hb : kv.ownBlock with
    | none => rw [hb] at hin; cases hin
    | some q =>
      rw [hb] at hin
      obtain rfl : g = q := by simpa using hin
      exact h.ne g hb hg
  · rcases hnew g hg with e | e
    · exact h.new g e
    · have := h.bel.size
      omega
  · rcases hnew g hg with e1 | e1
    · exact h.ne g e1 e
    · have := lst_lt h.srt g e
      omega
  · rcases List.mem_append.1 hy with hy | hy
    · exact h.ok y hy
    · obtain rfl : y = x := by simpa using hy
      exact hxo
  · refine h.bel.trans (hm.below (fun k hk => ?_) h.bel.size)
    cases hb : kv.ownBlock with
    | none => rw [hb] at hk; cases hk
    | some q =>
      rw [hb] at hk
      obtain rfl : k = q := by simpa using hk
      exact h.new k hb

set_option maxRecDepth 100000 in
set_option maxHeartbeats 8000000 in
theorem latest_any (v : Value) (ls : List Wt) (w : World) (h : WrAt w v ls) (hn : ls.length ≤ 65536) : Calls Try.prog 18 #[v] w (LatPost ls w) := by
  obtain ⟨fs, hu⟩ := u_write
  have HUW := hidden hu
  have HOK := hidden h.ok
  have HC := hidden (wclone_any v ls w h hn)
  have HSO : Hid (∀ v' w', Lst w' 37 34 v' ls.length (flatE encW ls) → (∀ g, v'.ownBlock = some g → w.heap.size ≤ g) → Below w.heap.size w w' → Calls Try.prog 27 #[v', .func (.func 24) #[] #[]] w' (SrtPost w v' ls)) := fun v' w' h1 h2 h3 => sorted_any w v' ls w' h1 h2 HOK.out h3 hn
  have HPost : Hid (∀ kv ks ys gs w', Kpt w gs ys ys.length w' kv ks → Kys ys → Srt 0 ys.length ys → Stab ls ys → LatPost ls w (.returned kv) w') := fun kv ks ys gs w' k1 k2 k3 k4 => ⟨kv, ks, rfl, k1.kp.done k2 k3 k4, k1.own, k1.new, by have := k1.few; have := k4.1.length_eq; omega, k1.bel⟩
  have HNL := hidden hn
  clear h hu hn
  go_enter Try.func18, Try.ntmps18
  go_wp2_with (first
    | (go_at_call 26; refine HC.out.mono ?_; rintro e w1 ⟨v1, rfl, c1, c2, c3⟩; have C1 := hidden c1; have C2 := hidden c2; have C3 := hidden c3; clear c1 c2 c3; obtain ⟨va, vc, rfl⟩ := lst_slice C1.out)
    | (go_at_call 27; refine (HSO.out _ _ C1.out C2.out C3.out).mono ?_; rintro e w2 ⟨rfl, ys, s1, s2, s3, s4, s5, s6⟩; have S1 := hidden s1; have S2 := hidden s2; have S3 := hidden s3; have S4 := hidden s4; have S5 := hidden s5; have S6 := hidden s6; clear s1 s2 s3 s4 s5 s6))
  obtain ⟨n, hn0⟩ : ∃ n, n = ls.length := ⟨_, rfl⟩
  have HN : Hid (n = ls.length ∧ ys.length = n ∧ n ≤ 65536) := ⟨hn0, by rw [hn0]; exact S1.out, by rw [hn0]; exact HNL.out⟩
  rw [← hn0]
  have HSL : Hid (Lst w2 37 34 (.slice va n vc) ys.length (flatE encW ys)) := by show Lst _ _ _ _ _ _; rw [HN.out.2.1]; have := S2.out; rw [← hn0] at this; exact this
  have HK0 : Hid (Kpt w (.slice va n vc) ys 0 w2 (.slice none 0 0) []) := ⟨HSL.out, ⟨rfl, .inl ⟨rfl, rfl⟩⟩, fun g hg => by simp [Value.ownBlock] at hg, fun g hg => by simp [Value.ownBlock] at hg, KpI.nil ys, by simp, fun x hx => (by cases hx), S6.out⟩
  have HKY : Hid (Kys ys) := fun x hx => (S3.out x hx).hk
  clear C1 C2 C3 HC HSO hn0 S1 S2 S6 HSL HNL
  go_loopw [5, 6, 7, 15] (fun kv _ _ iv wr => ∃ (i : Nat) (ks : List Wt), iv = .int .i64 (i : Int) ∧ i ≤ n ∧ (∃ a m c, kv = .slice a m c) ∧ Hid (Kpt w (.slice va n vc) ys i wr kv ks)) (fun _ _ _ iv _ => n - (intOf iv).toNat)
  case atStart => exact ⟨0, [], rfl, by omega, ⟨_, _, _, rfl⟩, HK0⟩
  case round =>
    clear HK0
    obtain ⟨i, ks, rfl, hin, ⟨ka, km, kc, rfl⟩, hkp⟩ := hrel
    by_cases hlt : i < n
    · as_aux_lemma =>
        have z1 : (i : Int) < (n : Int) := by omega
        have z2 : (0 : Int) ≤ (i : Int) := by omega
        obtain ⟨g, cc, hva, _⟩ := lst_pos hkp.out.srt (by have := HN.out; omega)
        injection hva with hva hnn hvc
        subst hva
        clear hnn
        have hi : i < ys.length := by have := HN.out; omega
        obtain ⟨X, hX⟩ : ∃ X, X = ys[i]! := ⟨_, rfl⟩
        have hXg : ys[i]? = some X := by rw [hX, getElem!_pos ys i hi]; exact List.getElem?_eq_getElem hi
        have hXo : WtOk X := S3.out X (List.mem_of_getElem? hXg)
        have HR : Hid (∀ w', Below wr.heap.size wr w' → w'.rangeAt g (i * 34) (encW X)) := fun w' hb => by
          have h1 := (lstE_range (by have := (lst_grow hkp.out.srt hb); rw [HN.out.2.1] at this; exact this) HN.out.2.1 (fun x hx => (S3.out x hx).len) i hi).1
          rw [hX, getElem!_pos ys i hi]
          exact h1
        have HSX : Hid ((Try.prog.info? 37).map (·.size) = some (encW X).length) := by show _ = _; rw [hXo.len]; exact size_write
        have HSA : Hid ((Try.prog.info? 37).map (·.size) = some (encW X).toArray.size) := by show _ = _; rw [List.size_toArray, hXo.len]; exact size_write
        have HSZ : Hid ((encW zW).toArray.size = (encW X).toArray.size) := by show _ = _; rw [List.size_toArray, List.size_toArray, hXo.len, zW_ok.len]
        have HON := hidden hXo.all
        have HXO := hidden hXo
        have HXG := hidden hXg
        obtain ⟨j, hj⟩ : ∃ j, j = i + 1 := ⟨_, rfl⟩
        have HJ := hidden hj
        have hi2 : i ≤ 200000 := by have := HN.out; omega
        have hwi := w64_succ hi2 hj
        have hwi2 := wi_succ hi2 hj
        have HX0 := hidden hX
        clear hX hXg hXo hi hvc hj hi2
        go_wp2_with (first
          | ((with_reducible refine at_ldd 19 18 ?_); refine wpList_load_mid rfl 37 _ rfl g (i * 34) rfl (encW X) _ (HR.out _ (Below.refl _ _)) HUW.out rfl HSX.out ?_)
          | ((with_reducible refine at_ald 7 ?_); refine wpList_al _ rfl _ rfl _ zero_write ?_; intro w3 gq hg3 hl3 bq3 q3)
          | ((with_reducible refine at_st 7 ?_); refine wpList_sto _ rfl _ _ _ rfl gq _ (encW X).toArray rfl rfl bq3 HSA.out HSZ.out HON.out ?_; intro w4 bq4 r4))
        have d4 : Below wr.heap.size wr w4 := below_row q3 r4 hg3
        have d4' : Below wr.heap.size wr w4.drew := grow_trans d4 (Below.refl _ _).drew
        have BX := hidden (bq4 : Blk w4 gq 37 (encW X).toArray)
        clear bq3 bq4 q3 r4 hg3 hl3
        by_cases hlast : j = n
        · have y1 : (j : Int) = (n : Int) := by rw [hlast]
          have HLT : Hid (Ltr ys i) := .inl (by have := HJ.out; have := HN.out; omega)
          have HKP2 := hidden (hkp.out.grow d4')
          refine wp_region_held_drew (S := fun _ => True) (by kernel_rfl) (trivial) (fun hHeld => ?_)
          refine wpAnyH_take (i := 0) (v := .int .i64 (i : Int)) rfl (by kernel_rfl) (by kernel_rfl) (by kernel_rfl) (fun _ _ _ h => h) (Or.inl ⟨by rfl, fun w hS => by go_simp⟩) hHeld ?_
          simp only [Act.put, List.getElem_toArray, List.getElem_cons_zero, List.setIfInBounds_toArray, List.set_cons_zero, List.set_cons_succ]
          refine wpAnyH_take (i := 1) (v := .int .i64 (j : Int)) rfl (by kernel_rfl) (by kernel_rfl) (by kernel_rfl) (fun _ _ _ h => h) (Or.inl ⟨by rfl, fun w hS => by go_simp⟩) hHeld ?_
          simp only [Act.put, List.getElem_toArray, List.getElem_cons_zero, List.getElem_cons_succ, List.setIfInBounds_toArray, List.set_cons_zero, List.set_cons_succ]
          refine wpAnyH_take (i := 2) (v := .slice (some ⟨g, 0, none⟩) n vc) rfl (by kernel_rfl) (by kernel_rfl) (by kernel_rfl) (fun _ _ _ h => h) (Or.inl ⟨by rfl, fun w hS => by go_simp⟩) hHeld ?_
          simp only [Act.put, List.getElem_toArray, List.getElem_cons_zero, List.getElem_cons_succ, List.setIfInBounds_toArray, List.set_cons_zero, List.set_cons_succ]
          refine wpAnyH_take (i := 3) (v := .int .i64 (n : Int)) rfl (by kernel_rfl) (by kernel_rfl) (by kernel_rfl) (fun _ _ _ h => h) (Or.inl ⟨by rfl, fun w hS => by go_simp⟩) hHeld ?_
          simp only [Act.put, List.getElem_toArray, List.getElem_cons_zero, List.getElem_cons_succ, List.setIfInBounds_toArray, List.set_cons_zero, List.set_cons_succ]
          refine wpAnyH_take (i := 4) (v := .bool true) rfl (by kernel_rfl) (by kernel_rfl) (by kernel_rfl) (fun _ _ _ h => h) (Or.inl ⟨by rfl, fun w hS => by go_simp⟩) hHeld ?_
          simp only [Act.put, List.getElem_toArray, List.getElem_cons_zero, List.getElem_cons_succ, List.setIfInBounds_toArray, List.set_cons_zero, List.set_cons_succ]
          refine wpAnyH_take (i := 5) (v := .bool true) rfl (by kernel_rfl) (by kernel_rfl) (by kernel_rfl) (fun _ _ _ h => h) (Or.inl ⟨by rfl, fun w hS => by go_simp⟩) hHeld ?_
          simp only [Act.put, List.getElem_toArray, List.getElem_cons_zero, List.getElem_cons_succ, List.setIfInBounds_toArray, List.set_cons_zero, List.set_cons_succ]
          refine wpAnyH_take (i := 6) (v := undef) rfl (by kernel_rfl) (by kernel_rfl) (by kernel_rfl) (fun _ _ _ h => h) (Or.inr ⟨by rfl, rfl⟩) hHeld ?_
          simp only [Act.put, List.getElem_toArray, List.getElem_cons_zero, List.getElem_cons_succ, List.setIfInBounds_toArray, List.set_cons_zero, List.set_cons_succ]
          refine wpAnyH_take (i := 7) (v := undef) rfl (by kernel_rfl) (by kernel_rfl) (by kernel_rfl) (fun _ _ _ h => h) (Or.inr ⟨by rfl, rfl⟩) hHeld ?_
          simp only [Act.put, List.getElem_toArray, List.getElem_cons_zero, List.getElem_cons_succ, List.setIfInBounds_toArray, List.set_cons_zero, List.set_cons_succ]
          refine wpAnyH_take (i := 8) (v := undef) rfl (by kernel_rfl) (by kernel_rfl) (by kernel_rfl) (fun _ _ _ h => h) (Or.inr ⟨by rfl, rfl⟩) hHeld ?_
          simp only [Act.put, List.getElem_toArray, List.getElem_cons_zero, List.getElem_cons_succ, List.setIfInBounds_toArray, List.set_cons_zero, List.set_cons_succ]
          refine wpAnyH_take (i := 9) (v := undef) rfl (by kernel_rfl) (by kernel_rfl) (by kernel_rfl) (fun _ _ _ h => h) (Or.inr ⟨by rfl, rfl⟩) hHeld ?_
          simp only [Act.put, List.getElem_toArray, List.getElem_cons_zero, List.getElem_cons_succ, List.setIfInBounds_toArray, List.set_cons_zero, List.set_cons_succ]
          refine wpAnyH_take (i := 10) (v := undef) rfl (by kernel_rfl) (by kernel_rfl) (by kernel_rfl) (fun _ _ _ h => h) (Or.inr ⟨by rfl, rfl⟩) hHeld ?_
          simp only [Act.put, List.getElem_toArray, List.getElem_cons_zero, List.getElem_cons_succ, List.setIfInBounds_toArray, List.set_cons_zero, List.set_cons_succ]
          refine wpAnyH_take (i := 11) (v := undef) rfl (by kernel_rfl) (by kernel_rfl) (by kernel_rfl) (fun _ _ _ h => h) (Or.inr ⟨by rfl, rfl⟩) hHeld ?_
          simp only [Act.put, List.getElem_toArray, List.getElem_cons_zero, List.getElem_cons_succ, List.setIfInBounds_toArray, List.set_cons_zero, List.set_cons_succ]
          refine wpAnyH_take (i := 12) (v := undef) rfl (by kernel_rfl) (by kernel_rfl) (by kernel_rfl) (fun _ _ _ h => h) (Or.inr ⟨by rfl, rfl⟩) hHeld ?_
          simp only [Act.put, List.getElem_toArray, List.getElem_cons_zero, List.getElem_cons_succ, List.setIfInBounds_toArray, List.set_cons_zero, List.set_cons_succ]
          refine wpAnyH_take (i := 13) (v := undef) rfl (by kernel_rfl) (by kernel_rfl) (by kernel_rfl) (fun _ _ _ h => h) (Or.inr ⟨by rfl, rfl⟩) hHeld ?_
          simp only [Act.put, List.getElem_toArray, List.getElem_cons_zero, List.getElem_cons_succ, List.setIfInBounds_toArray, List.set_cons_zero, List.set_cons_succ]
          refine wpAnyH_take (i := 14) (v := undef) rfl (by kernel_rfl) (by kernel_rfl) (by kernel_rfl) (fun _ _ _ h => h) (Or.inr ⟨by rfl, rfl⟩) hHeld ?_
          simp only [Act.put, List.getElem_toArray, List.getElem_cons_zero, List.getElem_cons_succ, List.setIfInBounds_toArray, List.set_cons_zero, List.set_cons_succ]
          refine wpAnyH_take (i := 15) (v := .bool true) rfl (by kernel_rfl) (by kernel_rfl) (by kernel_rfl) (fun _ _ _ h => h) (Or.inl ⟨by rfl, fun w hS => by go_simp⟩) hHeld ?_
          simp only [Act.put, List.getElem_toArray, List.getElem_cons_zero, List.getElem_cons_succ, List.setIfInBounds_toArray, List.set_cons_zero, List.set_cons_succ]
          refine wpAnyH_done (by kernel_rfl) ?_ _
          clear d4
          have BX2 := hidden (BX.out.grow (Below.refl _ _).drew)
          clear BX
          have BX := BX2
          clear BX2
          have HEQX : Hid True := trivial
          clear HEQX
          have HKM : Hid (km = ks.length) := by
            obtain ⟨a', c', e⟩ := lst_slice HKP2.out.own
            injection e
          have HSZ9 : Hid (km ≤ 65536) := by show km ≤ 65536; rw [HKM.out]; have := HKP2.out.few; have := HN.out; clear hwi hwi2; omega
          have HTK : Hid (∀ w6 w' kv', Below w4.drew.heap.size w4.drew w6 → Lst w' 37 34 kv' (km + 1) (flatE encW ks ++ encW X) → w6.grownBy w' (Value.slice ka km kc).ownBlock → WhereL w6 (.slice ka km kc) kv' → Kpt w (.slice (some ⟨g, 0, none⟩) n vc) ys j w' kv' (ks ++ [X])) := fun w6 w' kv' k0 k1 k2 k3 => by
            rw [HJ.out]
            rw [HKM.out] at k1
            exact (HKP2.out.grow k0).take HKY.out S5.out HXG.out HXO.out HLT.out k1 k2 k3
          have HLS : Hid (∀ w6, Below w4.drew.heap.size w4.drew w6 → Lst w6 37 34 (.slice ka km kc) km (flatE encW ks)) := fun w6 k0 => by have := lst_grow HKP2.out.own k0; rw [← HKM.out] at this; exact this
          have HIN := hidden info_write
          have HJN : Hid (j ≤ n) := by show j ≤ n; have := HJ.out; clear hwi hwi2; omega
          clear hkp
          go_wp2_with (first
            | ((with_reducible refine at_ldd 37 7 ?_); refine wpList_lds _ rfl _ _ rfl gq _ _ rfl BX.out HUW.out HSA.out ?_)
            | (refine wpList_bsw _ rfl _ rfl X rfl HXO.out.len ?_; intro w6 g6 hg6 B6 b6)
            | (refine wpList_appL _ rfl _ _ _ rfl 37 34 64 Try.underlying23 HIN.out (by omega) _ km (flatE encW ks) rfl (HLS.out _ b6) g6 (encW X) rfl B6 HXO.out.len HXO.out.one (by have := HSZ9.out; simp only [maxLen]; clear hwi hwi2; omega) (by have := HSZ9.out; clear hwi hwi2; omega) ?_; intro kv' w7 k1 k2 k3; have HK3 := hidden (HTK.out w6 w7 kv' b6 k1 k2 k3); clear k2 k3; obtain ⟨ka', kc', rfl⟩ := lst_slice k1; clear k1))
          clear hwi hwi2
          exact ⟨⟨j, ks ++ [X], by first | rfl | rw [hlast], HJN.out, ⟨_, _, _, rfl⟩, HK3⟩, by have := HJ.out; simp [intOf]; omega⟩
        · have y1 : ¬ (j : Int) = (n : Int) := by clear hwi hwi2; omega
          have y1' : ((j : Int) == (n : Int)) = false := by simp; clear hwi hwi2; omega
          have hjn : j < n := by have := HJ.out; clear hwi hwi2; omega
          have y2 : (0 : Int) ≤ (j : Int) := by clear hwi hwi2; omega
          have y3 : (j : Int) < (n : Int) := by clear hwi hwi2; omega
          have hjl : j < ys.length := by have := HN.out; clear hwi hwi2; omega
          obtain ⟨Y, hY⟩ : ∃ Y, Y = ys[j]! := ⟨_, rfl⟩
          have hYo : WtOk Y := by rw [hY, getElem!_pos ys j hjl]; exact S3.out _ (List.getElem_mem hjl)
          have HRY : Hid (∀ w', Below wr.heap.size wr w' → w'.rangeAt g (j * 34) (encW Y)) := fun w' hb => by
            have h1 := (lstE_range (by have := (lst_grow hkp.out.srt hb); rw [HN.out.2.1] at this; exact this) HN.out.2.1 (fun x hx => (S3.out x hx).len) j hjl).1
            rw [hY, getElem!_pos ys j hjl]
            exact h1
          have HSY : Hid ((Try.prog.info? 37).map (·.size) = some (encW Y).length) := by show _ = _; rw [hYo.len]; exact size_write
          have HCB : Hid (∀ w', Calls Try.prog 24 #[.agg (encW X).toArray, .agg (encW Y).toArray] w' fun e w'' => e = .returned (.int .i64 (cmp X.k Y.k)) ∧ Below w'.heap.size w' w'') := fun w' => byKey_any X Y w' HXO.out hYo
          have HEQ : Hid (cmp X.k Y.k = 0 ↔ ¬ Ltr ys i) := by
            show _ ↔ _
            have e1 : ky ys i = X.k := ky_get HXG.out
            have e2 : ky ys (i + 1) = Y.k := by rw [← HJ.out]; unfold ky; rw [← hY]
            have e3 : ¬ i + 1 = ys.length := by have := HJ.out; have := HN.out; clear hwi hwi2; omega
            unfold Ltr
            rw [e1, e2]
            rcases cmp_key HXO.out.hk hYo.hk with ⟨q, e⟩ | ⟨q, e⟩ | ⟨q, e⟩
            · exact ⟨fun _ h => h.elim e3 (fun h => h e), fun _ => q⟩
            · exact ⟨fun h => by clear hwi hwi2; omega, fun h => absurd (.inr (fun e4 => by rw [e4] at e; exact al_irr _ e)) h⟩
            · exact ⟨fun h => by clear hwi hwi2; omega, fun h => absurd (.inr (fun e4 => by rw [e4] at e; exact al_irr _ e)) h⟩
          obtain ⟨r, hr⟩ : ∃ r, r = cmp X.k Y.k := ⟨_, rfl⟩
          rw [← hr] at HCB HEQ
          obtain ⟨d, hd⟩ : ∃ d : Bool, d = !decide (r = 0) := ⟨_, rfl⟩
          have HD := hidden hd
          have HRS : Hid (∀ w', Below w4.heap.size w4 w' → w'.rangeAt gq 0 (encW X) ∧ w'.rangeAt g (j * 34) (encW Y)) := fun w' hb => ⟨(BX.out.grow hb).rngW, HRY.out _ (grow_trans d4 hb)⟩
          have d0 : Below w4.heap.size w4 w4.drew := (Below.refl _ _).drew
          clear hr hd hY hYo hjl hjn
          refine wp_region_held_drew (S := fun w' => w'.rangeAt gq 0 (encW X) ∧ w'.rangeAt g (j * 34) (encW Y)) (by kernel_rfl) (HRS.out _ d0) (fun hHeld => ?_)
          refine wpAnyH_take (i := 0) (v := .int .i64 (i : Int)) rfl (by kernel_rfl) (by kernel_rfl) (by kernel_rfl) (fun _ _ _ h => h) (Or.inl ⟨by rfl, fun w hS => by go_simp⟩) hHeld ?_
          simp only [Act.put, List.getElem_toArray, List.getElem_cons_zero, List.setIfInBounds_toArray, List.set_cons_zero, List.set_cons_succ]
          refine wpAnyH_take (i := 1) (v := .int .i64 (j : Int)) rfl (by kernel_rfl) (by kernel_rfl) (by kernel_rfl) (fun _ _ _ h => h) (Or.inl ⟨by rfl, fun w hS => by go_simp⟩) hHeld ?_
          simp only [Act.put, List.getElem_toArray, List.getElem_cons_zero, List.getElem_cons_succ, List.setIfInBounds_toArray, List.set_cons_zero, List.set_cons_succ]
          refine wpAnyH_take (i := 2) (v := .slice (some ⟨g, 0, none⟩) n vc) rfl (by kernel_rfl) (by kernel_rfl) (by kernel_rfl) (fun _ _ _ h => h) (Or.inl ⟨by rfl, fun w hS => by go_simp⟩) hHeld ?_
          simp only [Act.put, List.getElem_toArray, List.getElem_cons_zero, List.getElem_cons_succ, List.setIfInBounds_toArray, List.set_cons_zero, List.set_cons_succ]
          refine wpAnyH_take (i := 3) (v := .int .i64 (n : Int)) rfl (by kernel_rfl) (by kernel_rfl) (by kernel_rfl) (fun _ _ _ h => h) (Or.inl ⟨by rfl, fun w hS => by go_simp⟩) hHeld ?_
          simp only [Act.put, List.getElem_toArray, List.getElem_cons_zero, List.getElem_cons_succ, List.setIfInBounds_toArray, List.set_cons_zero, List.set_cons_succ]
          refine wpAnyH_take (i := 4) (v := .bool false) rfl (by kernel_rfl) (by kernel_rfl) (by kernel_rfl) (fun _ _ _ h => h) (Or.inl ⟨by rfl, fun w hS => by go_simp⟩) hHeld ?_
          simp only [Act.put, List.getElem_toArray, List.getElem_cons_zero, List.getElem_cons_succ, List.setIfInBounds_toArray, List.set_cons_zero, List.set_cons_succ]
          refine wpAnyH_take (i := 5) (v := .bool false) rfl (by kernel_rfl) (by kernel_rfl) (by kernel_rfl) (fun _ _ _ h => h) (Or.inl ⟨by rfl, fun w hS => by go_simp⟩) hHeld ?_
          simp only [Act.put, List.getElem_toArray, List.getElem_cons_zero, List.getElem_cons_succ, List.setIfInBounds_toArray, List.set_cons_zero, List.set_cons_succ]
          refine wpAnyH_take (i := 6) (v := .func (.func 24) #[] #[]) rfl (by kernel_rfl) (by kernel_rfl) (by kernel_rfl) (fun _ _ _ h => h) (Or.inl ⟨by rfl, fun w hS => by go_simp⟩) hHeld ?_
          simp only [Act.put, List.getElem_toArray, List.getElem_cons_zero, List.getElem_cons_succ, List.setIfInBounds_toArray, List.set_cons_zero, List.set_cons_succ]
          refine wpAnyH_take (i := 7) (v := .agg (encW X).toArray) rfl (by kernel_rfl) (by kernel_rfl) (by kernel_rfl) (fun _ _ _ h => h) (yieldsIf_load_mid rfl 37 (.tmp 7) rfl gq 0 rfl (encW X) _ (fun w hS => hS.1) HUW.out rfl HSX.out) hHeld ?_
          simp only [Act.put, List.getElem_toArray, List.getElem_cons_zero, List.getElem_cons_succ, List.setIfInBounds_toArray, List.set_cons_zero, List.set_cons_succ]
          refine wpAnyH_take (i := 8) (v := .slice (some ⟨g, 0, none⟩) n vc) rfl (by kernel_rfl) (by kernel_rfl) (by kernel_rfl) (fun _ _ _ h => h) (Or.inl ⟨by rfl, fun w hS => by go_simp⟩) hHeld ?_
          simp only [Act.put, List.getElem_toArray, List.getElem_cons_zero, List.getElem_cons_succ, List.setIfInBounds_toArray, List.set_cons_zero, List.set_cons_succ]
          refine wpAnyH_take (i := 9) (v := .int .i64 (i : Int)) rfl (by kernel_rfl) (by kernel_rfl) (by kernel_rfl) (fun _ _ _ h => h) (Or.inl ⟨by rfl, fun w hS => by go_simp⟩) hHeld ?_
          simp only [Act.put, List.getElem_toArray, List.getElem_cons_zero, List.getElem_cons_succ, List.setIfInBounds_toArray, List.set_cons_zero, List.set_cons_succ]
          refine wpAnyH_take (i := 10) (v := .int .i64 (j : Int)) rfl (by kernel_rfl) (by kernel_rfl) (by kernel_rfl) (fun _ _ _ h => h) (Or.inl ⟨by rfl, fun w hS => by go_simp⟩) hHeld ?_
          simp only [Act.put, List.getElem_toArray, List.getElem_cons_zero, List.getElem_cons_succ, List.setIfInBounds_toArray, List.set_cons_zero, List.set_cons_succ]
          refine wpAnyH_take (i := 11) (v := .pointer (some ⟨g, j * 34, none⟩)) rfl (by kernel_rfl) (by kernel_rfl) (by kernel_rfl) (fun _ _ _ h => h) (Or.inl ⟨by rfl, fun w hS => by go_simp⟩) hHeld ?_
          simp only [Act.put, List.getElem_toArray, List.getElem_cons_zero, List.getElem_cons_succ, List.setIfInBounds_toArray, List.set_cons_zero, List.set_cons_succ]
          refine wpAnyH_take (i := 12) (v := .agg (encW Y).toArray) rfl (by kernel_rfl) (by kernel_rfl) (by kernel_rfl) (fun _ _ _ h => h) (yieldsIf_load_mid rfl 37 (.tmp 31) rfl g (j * 34) rfl (encW Y) _ (fun w hS => hS.2) HUW.out rfl HSY.out) hHeld ?_
          simp only [Act.put, List.getElem_toArray, List.getElem_cons_zero, List.getElem_cons_succ, List.setIfInBounds_toArray, List.set_cons_zero, List.set_cons_succ]
          refine wpAnyH_ready (rs := [13]) (by kernel_rfl) (by simp) ?_
          refine AllReadyH.cons rfl (fun KQ hK => ?_) AllReadyH.nil
          go_simp
          refine (HCB.out _).mono ?_
          rintro e wx ⟨rfl, bx⟩
          have d1 := grow_trans d0 bx
          refine hK.out _ _ (HRS.out _ d1) (fun hHeld => ?_)
          clear hK KQ
          refine wpAnyH_take (i := 14) (v := .bool d) rfl (by kernel_rfl) (by kernel_rfl) (by kernel_rfl) (fun _ _ _ h => h) (Or.inl ⟨by rfl, fun w hS => by (go_simp; first | rfl | (rw [HD.out]; rfl) | (rw [HD.out]; simp))⟩) hHeld ?_
          simp only [Act.put, List.getElem_toArray, List.getElem_cons_zero, List.getElem_cons_succ, List.setIfInBounds_toArray, List.set_cons_zero, List.set_cons_succ]
          refine wpAnyH_take (i := 15) (v := .bool d) rfl (by kernel_rfl) (by kernel_rfl) (by kernel_rfl) (fun _ _ _ h => h) (Or.inl ⟨by rfl, fun w hS => by go_simp⟩) hHeld ?_
          simp only [Act.put, List.getElem_toArray, List.getElem_cons_zero, List.getElem_cons_succ, List.setIfInBounds_toArray, List.set_cons_zero, List.set_cons_succ]
          refine wpAnyH_done (by kernel_rfl) ?_ _
          clear HRS HCB HSY HRY
          by_cases hr0 : r = 0
          · obtain rfl : d = false := by rw [HD.out]; simp [hr0]
            have HK2 : Hid (Kpt w (.slice (some ⟨g, 0, none⟩) n vc) ys j wx (.slice ka km kc) ks) := by show Kpt _ _ _ _ _ _ _; rw [HJ.out]; exact (hkp.out.grow (grow_trans d4 d1)).skip (HEQ.out.1 hr0)
            have HJN : Hid (j ≤ n) := by show j ≤ n; have := HJ.out; clear hwi hwi2; omega
            clear HEQ HD hkp
            go_wp2_with fail
            clear hwi hwi2
            exact ⟨⟨j, ks, rfl, HJN.out, ⟨_, _, _, rfl⟩, HK2⟩, by have := HJ.out; simp [intOf]; omega⟩
          · obtain rfl : d = true := by rw [HD.out]; simp [hr0]
            have HLT : Hid (Ltr ys i) := Classical.byContradiction fun q => hr0 (HEQ.out.2 q)
            have HKP2 := hidden (hkp.out.grow (grow_trans d4 d1))
            have BX2 := hidden (BX.out.grow d1)
            clear BX
            have BX := BX2
            clear BX2
            have HEQX : Hid True := trivial
            clear HEQ HD
            clear HEQX
            have HKM : Hid (km = ks.length) := by
              obtain ⟨a', c', e⟩ := lst_slice HKP2.out.own
              injection e
            have HSZ9 : Hid (km ≤ 65536) := by show km ≤ 65536; rw [HKM.out]; have := HKP2.out.few; have := HN.out; clear hwi hwi2; omega
            have HTK : Hid (∀ w6 w' kv', Below wx.heap.size wx w6 → Lst w' 37 34 kv' (km + 1) (flatE encW ks ++ encW X) → w6.grownBy w' (Value.slice ka km kc).ownBlock → WhereL w6 (.slice ka km kc) kv' → Kpt w (.slice (some ⟨g, 0, none⟩) n vc) ys j w' kv' (ks ++ [X])) := fun w6 w' kv' k0 k1 k2 k3 => by
              rw [HJ.out]
              rw [HKM.out] at k1
              exact (HKP2.out.grow k0).take HKY.out S5.out HXG.out HXO.out HLT.out k1 k2 k3
            have HLS : Hid (∀ w6, Below wx.heap.size wx w6 → Lst w6 37 34 (.slice ka km kc) km (flatE encW ks)) := fun w6 k0 => by have := lst_grow HKP2.out.own k0; rw [← HKM.out] at this; exact this
            have HIN := hidden info_write
            have HJN : Hid (j ≤ n) := by show j ≤ n; have := HJ.out; clear hwi hwi2; omega
            clear hkp
            go_wp2_with (first
              | ((with_reducible refine at_ldd 37 7 ?_); refine wpList_lds _ rfl _ _ rfl gq _ _ rfl BX.out HUW.out HSA.out ?_)
              | (refine wpList_bsw _ rfl _ rfl X rfl HXO.out.len ?_; intro w6 g6 hg6 B6 b6)
              | (refine wpList_appL _ rfl _ _ _ rfl 37 34 64 Try.underlying23 HIN.out (by omega) _ km (flatE encW ks) rfl (HLS.out _ b6) g6 (encW X) rfl B6 HXO.out.len HXO.out.one (by have := HSZ9.out; simp only [maxLen]; clear hwi hwi2; omega) (by have := HSZ9.out; clear hwi hwi2; omega) ?_; intro kv' w7 k1 k2 k3; have HK3 := hidden (HTK.out w6 w7 kv' b6 k1 k2 k3); clear k2 k3; obtain ⟨ka', kc', rfl⟩ := lst_slice k1; clear k1))
            clear hwi hwi2
            exact ⟨⟨j, ks ++ [X], by first | rfl | rw [hlast], HJN.out, ⟨_, _, _, rfl⟩, HK3⟩, by have := HJ.out; simp [intOf]; omega⟩
    · have z1 : ¬ (i : Int) < (n : Int) := by omega
      have HP : Hid (LatPost ls w (.returned (.slice ka km kc)) wr) := HPost.out _ ks ys _ _ (by rw [show ys.length = i by have := HN.out; omega]; exact hkp.out) HKY.out S5.out S4.out
      clear hkp
      go_wp2
      go_ret
      exact HP.out

/-- How many unlike keys. -/
theorem keys_any (v : Value) (ls : List Wt) (w : World) (h : WrAt w v ls) (hn : ls.length ≤ 65536) : Calls Try.prog 11 #[v] w fun e w' => ∃ ks, Lat ls ks ∧ ks.length ≤ ls.length ∧ e = .returned (.int .i64 (ks.length : Int)) ∧ Below w.heap.size w w' := by
  have HC := hidden (latest_any v ls w h hn)
  clear h hn
  go_enter Try.func11, Try.ntmps11
  go_wp2_with (go_at_call 18; refine HC.out.mono ?_; rintro e w1 ⟨v1, ks, rfl, c1, c2, c3, c4, c5⟩; have C1 := hidden c1; have C4 := hidden c4; have C5 := hidden c5; obtain ⟨va, vc, rfl⟩ := lst_slice c2; clear c1 c2 c3 c4 c5)
  go_ret
  exact ⟨ks, C1.out, C4.out, rfl, C5.out⟩

end Go.Proofs.Ytagkmfgoahbclaa

/- batch.Order, as a contract: each key's last write, its value copied. -/
namespace Go.Proofs.Ytagkmfgoahbclaa
set_option maxRecDepth 20000
open Go.RowKit

theorem run_nilb (a : Option Addr) (n c : Nat) (w : World) : (binOp .eql 35 (.slice a n c) (.slice none 0 0)).run Try.prog w = .ok (.bool a.isNone) w := eql_bytes_nil w a n c

set_option maxHeartbeats 400000 in
/-- bytes.Clone: a list of the call's own. -/
theorem bclone_any (v : Value) (zs : List Int) (w : World) (hr : Reads w v zs) (hl : zs.length ≤ 140737488355328) : Calls Try.prog 19 #[v] w fun e w' => ∃ v' sp, e = .returned v' ∧ Own w.heap.size w' v' zs sp ∧ Below w.heap.size w w' := by
  have HR := hidden hr
  have HL := hidden hl
  obtain ⟨a, cap, rfl, hc, hz, _, _⟩ := hr
  cases a with
  | none =>
    have h0 := hz rfl
    subst h0
    have hn : zs = [] := List.eq_nil_of_length_eq_zero (by omega)
    subst hn
    have hq := run_nilb none 0 0 w
    clear hc hz hl HR HL
    go_enter Try.func19, Try.ntmps19
    go_wp2
    go_ret
    exact ⟨_, [], rfl, Own.nil _ _, Below.refl _ _⟩
  | some x =>
    have HO := hidden (Own.empty w.heap.size w (Nat.le_refl _))
    have HR2 := hidden (HR.out.grow (grow_alloc w (.cells #[] 5)))
    have hq := run_nilb (some x) zs.length cap w
    clear hz hl hc HR
    go_enter Try.func19, Try.ntmps19
    go_wp2_with (at_builtin; refine wpList_app _ rfl _ _ rfl w.heap.size _ _ [] [] zs HO.out HR2.out rfl rfl (by simpa using HL.out) (by simp) ?_; intro v' w' sp' o' g' _ _)
    go_ret
    exact ⟨_, sp', rfl, o', below_row (grow_alloc w _) (by simpa [Value.ownBlock] using g') (Nat.le_refl _)⟩

/-- store of one cell. -/
theorem wpList_stc {ops : Array Oper} {rest : List Oper} {op : Oper} {a : Act} {Q : Exit → Act → World → Prop} (w : World) (hgd : op.guard = none) (x y : Operand) (ty : TypeId) (ho : op.op = .store ty x y)
    (g o : Nat) (u u0 : Value) (hx : a.eval x = .pointer (some ⟨g, o, none⟩)) (hy : a.eval y = u) (hu : u.cells = #[u]) (hu1 : u.oneCell' = true) (hc : w.cell? ⟨g, o, none⟩ = some u0) (hf : w.frozen? ⟨g, o, none⟩ = false) (hi : (Try.prog.info? ty).map (·.size) = some 1)
    (hk : wpList Try.prog ops Q rest (a.put op.dst undef) (w.setCell ⟨g, o, none⟩ u)) : wpList Try.prog ops Q (op :: rest) a w := by
  have ht : w.there g o 1 := fun j hj => by
    obtain rfl : j = 0 := by omega
    exact ⟨by rw [Nat.add_zero, hc]; rfl, hf⟩
  have hr := run_storeVar_mid (P := Try.prog) w g o ty #[u] (by simpa using ht) (by simpa using hi) (by simpa using hu1)
  have hr2 : (storeVar ty ⟨g, o, none⟩ u).run Try.prog w = .ok () (w.setCell ⟨g, o, none⟩ u) := by
    have e : storeVar ty ⟨g, o, none⟩ u = storeVar ty ⟨g, o, none⟩ (.agg #[u]) := by
      unfold storeVar
      rw [hu]
      rfl
    rw [e, hr]
    rfl
  refine wpList_plain hgd fun K hK => ?_
  unfold Oper.wp execOp
  simp only [ho, hx, hy, Instr.storeAt, Instr.sureAddr, Sem.run_bind, Sem.run_pure, Result.andThen_ok, hr2]
  exact hK _ _ hk

theorem flatE_cell {α : Type} {enc : α → List Value} {K : Nat} (xs : List α) (hl : ∀ x ∈ xs, (enc x).length = K) (i j : Nat) (hi : i < xs.length) (hj : j < K) (u : Value) (p : α) (hp : enc p = (enc xs[i]).set j u) : (flatE enc xs).set (i * K + j) u = flatE enc (xs.set i p) := by
  have e : xs = xs.take i ++ (xs[i] :: xs.drop (i + 1)) := by simp
  have e2 : xs.set i p = xs.take i ++ (p :: xs.drop (i + 1)) := by rw [List.set_eq_take_append_cons_drop, if_pos hi]
  have l1 : (flatE enc (xs.take i)).length = i * K := by rw [flatE_len _ (fun x hx => hl x (List.mem_of_mem_take hx)), List.length_take, Nat.min_eq_left (by omega)]
  rw [e2]
  conv => lhs; rw [e]
  rw [flatE_app, flatE_app, ← l1]
  show (_ ++ (enc xs[i] ++ flatE enc (xs.drop (i + 1)))).set _ _ = _ ++ (enc p ++ flatE enc (xs.drop (i + 1)))
  rw [List.set_append_right _ _ (by omega), Nat.add_sub_cancel_left, List.set_append_left _ _ (by rw [hl _ (List.getElem_mem hi)]; exact hj), hp]
theorem encW_setv (x : Wt) (v : Value) (b : List Int) (h : x.k.length = 32) : encW ⟨x.k, x.g, b, v⟩ = (encW x).set 33 v := by
  unfold encW
  rw [List.set_append_right _ _ (by simp [h])]
  simp [h]

/-- Values that are copied, the first i so far. -/
structure OrS (w0 : World) (ks : List Wt) (g c i : Nat) (w : World) (rs : List Wt) : Prop where
  len : rs.length = ks.length
  own : Lst w 37 34 (.slice (some ⟨g, 0, none⟩) ks.length c) ks.length (flatE encW rs)
  hi : ∀ q, i ≤ q → q < ks.length → rs[q]! = ks[q]!
  lo : ∀ q, q < i → q < ks.length → nrm rs[q]! = nrm ks[q]! ∧ WtOk rs[q]! ∧ (rs[q]!.g = true → rs[q]!.b = []) ∧ ∃ sp, Own w0.heap.size w rs[q]!.v rs[q]!.b sp
  ap : ∀ p q, p < i → q < i → p < ks.length → q < ks.length → p ≠ q → ∀ h, rs[p]!.v.ownBlock = some h → rs[q]!.v.ownBlock ≠ some h
  bel : Below w0.heap.size w0 w
  new : w0.heap.size ≤ g
  ok : ∀ x ∈ ks, WtOk x
theorem get_set_ne {xs : List Wt} {i q : Nat} {p : Wt} (h : q ≠ i) : (xs.set i p)[q]! = xs[q]! := by
  rw [List.getElem!_eq_getElem?_getD, List.getElem!_eq_getElem?_getD, List.getElem?_set_ne (Ne.symm h)]
theorem get_set_eq {xs : List Wt} {i : Nat} {p : Wt} (h : i < xs.length) : (xs.set i p)[i]! = p := by
  rw [getElem!_pos _ _ (by simpa using h)]
  simp
theorem OrS.oks {w0 w : World} {ks rs : List Wt} {g c i : Nat} (h : OrS w0 ks g c i w rs) : ∀ x ∈ rs, WtOk x := fun x hx => by
  obtain ⟨q, hq, rfl⟩ := List.mem_iff_getElem.1 hx
  have e : rs[q] = rs[q]! := (getElem!_pos rs q hq).symm
  rw [e]
  have hql : q < ks.length := by rw [← h.len]; exact hq
  by_cases hi : q < i
  · exact (h.lo q hi hql).2.1
  · rw [h.hi q (by omega) hql, getElem!_pos ks q hql]
    exact h.ok _ (List.getElem_mem hql)
theorem OrS.at {w0 w : World} {ks rs : List Wt} {g c i : Nat} (h : OrS w0 ks g c i w rs) (hi : i < ks.length) : w.rangeAt g (i * 34) (encW ks[i]!) ∧ w.cell? ⟨g, i * 34 + 33, none⟩ = some ks[i]!.v ∧ w.frozen? ⟨g, i * 34 + 33, none⟩ = false := by
  have hir : i < rs.length := by rw [h.len]; exact hi
  have h1 := (lstE_range h.own h.len (fun x hx => (h.oks x hx).len) i hir).1
  have e : rs[i] = ks[i]! := by rw [← h.hi i (Nat.le_refl _) hi, getElem!_pos rs i hir]
  rw [e] at h1
  exact ⟨h1, encW_val h1 (by rw [getElem!_pos ks i hi]; exact (h.ok _ (List.getElem_mem hi)).hk.1), h.own.frozenAt _⟩
theorem OrS.grow {w0 w w' : World} {ks rs : List Wt} {g c i : Nat} (h : OrS w0 ks g c i w rs) (hb : Below w.heap.size w w') : OrS w0 ks g c i w' rs := ⟨h.len, lst_grow h.own hb, h.hi, fun q q1 q2 => by
  obtain ⟨a1, a2, a3, sp, a4⟩ := h.lo q q1 q2
  exact ⟨a1, a2, a3, sp, a4.grow hb⟩, h.ap, grow_trans h.bel hb, h.new, h.ok⟩
/-- One more. -/
theorem OrS.step {w0 w : World} {ks rs : List Wt} {g c i : Nat} (h : OrS w0 ks g c i w rs) (hi : i < ks.length) (w1 w2 : World) (v : Value) (b sp : List Int)
    (hw1 : w1 = w.setCell ⟨g, i * 34 + 33, none⟩ (.slice none 0 0) ∨ w1 = w) (hb2 : Below w1.heap.size w1 w2) (hO : Own w1.heap.size w2 v b sp) (hb : b = if ks[i]!.g then [] else ks[i]!.b) :
    OrS w0 ks g c (i + 1) (w2.setCell ⟨g, i * 34 + 33, none⟩ v) (rs.set i ⟨ks[i]!.k, ks[i]!.g, b, v⟩) := by
  obtain ⟨va, vc, hvs⟩ := hO.slice
  have hir : i < rs.length := by rw [h.len]; exact hi
  have okx : WtOk ks[i]! := by rw [getElem!_pos ks i hi]; exact h.ok _ (List.getElem_mem hi)
  have e0 : rs[i] = ks[i]! := by rw [← h.hi i (Nat.le_refl _) hi, getElem!_pos rs i hir]
  have gl : ∃ cur, Blk w g 37 cur := by
    obtain ⟨cap, cur, hv, hb, _⟩ := lst_blk h.own g rfl
    exact ⟨cur, hb⟩
  obtain ⟨cur, hB⟩ := gl
  have s1 : w1.heap.size = w.heap.size := by rcases hw1 with e | e <;> rw [e]; simp
  have hgl : g < w.heap.size := hB.lt
  -- the list itself
  have o1 : ∃ us, us.length = rs.length ∧ (∀ x ∈ us, WtOk x) ∧ (∀ q, q ≠ i → us[q]! = rs[q]!) ∧ us[i]!.k = ks[i]!.k ∧ us[i]!.g = ks[i]!.g ∧ Lst w1 37 34 (.slice (some ⟨g, 0, none⟩) ks.length c) ks.length (flatE encW us) := by
    rcases hw1 with e | e
    · refine ⟨rs.set i ⟨ks[i]!.k, ks[i]!.g, [], .slice none 0 0⟩, by simp, fun x hx => ?_, fun q hq => get_set_ne hq, by rw [get_set_eq hir], by rw [get_set_eq hir], ?_⟩
      · rcases List.mem_or_eq_of_mem_set hx with hx | rfl
        · exact h.oks x hx
        · exact ⟨okx.hk, Bytes.nil, none, 0, rfl⟩
      · rw [← flatE_cell rs (fun x hx => (h.oks x hx).len) i 33 hir (by omega) (.slice none 0 0) _ (by rw [e0]; exact encW_setv _ _ _ okx.hk.1), e]
        exact lst_set h.own _ _
    · rw [e]
      exact ⟨rs, rfl, h.oks, fun _ _ => rfl, by rw [h.hi i (Nat.le_refl _) hi], by rw [h.hi i (Nat.le_refl _) hi], h.own⟩
  obtain ⟨us, u1, u2, u3, u4, u5, u6⟩ := o1
  have hiu : i < us.length := by rw [u1]; exact hir
  have o2 : Lst (w2.setCell ⟨g, i * 34 + 33, none⟩ v) 37 34 (.slice (some ⟨g, 0, none⟩) ks.length c) ks.length (flatE encW (rs.set i ⟨ks[i]!.k, ks[i]!.g, b, v⟩)) := by
    have e1 : rs.set i ⟨ks[i]!.k, ks[i]!.g, b, v⟩ = us.set i ⟨us[i].k, us[i].g, b, v⟩ := by
      apply List.ext_getElem
      · simp [u1]
      · intro q h1 h2
        by_cases e : q = i
        · subst e
          simp only [List.getElem_set_self]
          rw [← getElem!_pos us q hiu, u4, u5]
        · rw [List.getElem_set_ne (Ne.symm e), List.getElem_set_ne (Ne.symm e)]
          have := u3 q e
          rw [getElem!_pos us q (by simpa using h2), getElem!_pos rs q (by simpa using h1)] at this
          exact this.symm
    rw [e1, ← flatE_cell us (fun x hx => (u2 x hx).len) i 33 hiu (by omega) v _ (encW_setv _ _ _ (u2 _ (List.getElem_mem hiu)).hk.1)]
    exact lst_set (lst_grow u6 hb2) _ _
  -- old values stay
  have keepb : ∀ k, k < w.heap.size → k ≠ g → (w2.setCell ⟨g, i * 34 + 33, none⟩ v).heap[k]? = w.heap[k]? := fun k hk hne => by
    rw [heap_setCell_other w2 ⟨g, i * 34 + 33, none⟩ k v (fun e => hne e), hb2.block k (by omega)]
    rcases hw1 with e | e
    · rw [e, heap_setCell_other w ⟨g, i * 34 + 33, none⟩ k _ (fun e => hne e)]
    · rw [e]
  have keepo : ∀ v' zs sp', Own w0.heap.size w v' zs sp' → Own w0.heap.size (w2.setCell ⟨g, i * 34 + 33, none⟩ v) v' zs sp' := fun v' zs sp' ho => ho.of_block fun k hk => keepb k (ho.lt k hk).2 (fun e => by
    obtain ⟨_, _, _, h4⟩ := ho
    rcases h4 with ⟨rfl, _⟩ | ⟨g2, rest, _, rfl, hrow⟩
    · simp [Value.ownBlock] at hk
    · simp only [Value.ownBlock, Option.some.injEq] at hk
      subst hk
      subst e
      unfold Blk at hB
      unfold Row at hrow
      rw [hB] at hrow
      injection hrow with hrow
      injection hrow with _ hrow
      exact absurd hrow (by decide))
  have newo : Own w0.heap.size (w2.setCell ⟨g, i * 34 + 33, none⟩ v) v b sp := by
    have h1 := (hO.mono (b' := w0.heap.size) (by rw [s1]; exact h.bel.size))
    refine h1.of_block fun k hk => heap_setCell_other w2 ⟨g, i * 34 + 33, none⟩ k v (fun e => ?_)
    have := (hO.lt k hk).1
    have e' : k = g := e
    omega
  have bel1 : Below w0.heap.size w0 w1 := by
    rcases hw1 with e | e
    · rw [e]; exact setCell_below _ _ h.bel h.new
    · rw [e]; exact h.bel
  have hbo : Bytes b := hO.1
  refine ⟨by rw [List.length_set, h.len], o2, fun q h1 h2 => ?_, fun q h1 h2 => ?_, fun p q p1 q1 p2 q2 hpq hh e1 e2 => ?_, setCell_below _ _ (grow_trans bel1 hb2) h.new, h.new, h.ok⟩
  · rw [get_set_ne (by omega)]
    exact h.hi q (by omega) h2
  · by_cases e : q = i
    · subst e
      rw [get_set_eq hir]
      refine ⟨?_, ⟨okx.hk, hbo, va, vc, hvs⟩, fun hg => ?_, sp, newo⟩
      · unfold nrm
        simp only [hb]
        split <;> simp_all
      · simp only at hg ⊢
        rw [hb, if_pos hg]
    · rw [get_set_ne e]
      obtain ⟨a1, a2, a3, sp', a4⟩ := h.lo q (by omega) h2
      exact ⟨a1, a2, a3, sp', keepo _ _ _ a4⟩
  · have old : ∀ q, q < i → q < ks.length → ∀ hh, rs[q]!.v.ownBlock = some hh → hh < w.heap.size := fun q q1 q2 hh hq => by
      obtain ⟨_, _, _, sp', a4⟩ := h.lo q q1 q2
      exact (a4.lt hh hq).2
    have nw : ∀ hh, v.ownBlock = some hh → w.heap.size ≤ hh := fun hh hq => by
      have := (hO.lt hh hq).1
      omega
    by_cases ep : p = i
    · subst ep
      rw [get_set_eq hir] at e1
      rw [get_set_ne (Ne.symm hpq)] at e2
      have := old q (by omega) q2 hh e2
      have := nw hh e1
      omega
    · rw [get_set_ne ep] at e1
      by_cases eq : q = i
      · subst eq
        rw [get_set_eq hir] at e2
        have := old p (by omega) p2 hh e1
        have := nw hh e2
        omega
      · rw [get_set_ne eq] at e2
        exact h.ap p q (by omega) (by omega) p2 q2 hpq hh e1 e2

/-- What Order answers. -/
structure OrdOk (ls : List Wt) (w : World) (v : Value) (rs : List Wt) (w' : World) : Prop where
  lat : Lat (ls.map nrm) (rs.map nrm)
  own : Lst w' 37 34 v rs.length (flatE encW rs)
  new : ∀ g, v.ownBlock = some g → w.heap.size ≤ g
  ok : ∀ x ∈ rs, WtOk x ∧ (x.g = true → x.b = []) ∧ ∃ sp, Own w.heap.size w' x.v x.b sp
  ap : ∀ p q, p < rs.length → q < rs.length → p ≠ q → ∀ h, rs[p]!.v.ownBlock = some h → rs[q]!.v.ownBlock ≠ some h
  few : rs.length ≤ ls.length
  bel : Below w.heap.size w w'
def OrdPost (ls : List Wt) (w : World) (e : Ending) (w' : World) : Prop := ∃ v rs, e = .returned v ∧ OrdOk ls w v rs w'
theorem OrS.done {w0 w : World} {ls ks rs : List Wt} {g c : Nat} (h : OrS w0 ks g c ks.length w rs) (hl : Lat ls ks) (hf : ks.length ≤ ls.length) : OrdOk ls w0 (.slice (some ⟨g, 0, none⟩) ks.length c) rs w := by
  have hm : rs.map nrm = ks.map nrm := by
    apply List.ext_getElem (by simp [h.len])
    intro q h1 h2
    rw [List.length_map] at h1 h2
    have := (h.lo q h2 h2).1
    rw [getElem!_pos rs q h1, getElem!_pos ks q h2] at this
    simpa using this
  refine ⟨by rw [hm]; exact hl.nm, by rw [h.len]; exact h.own, fun q hq => ?_, fun x hx => ?_, fun p q p1 q1 => h.ap p q (by rw [← h.len]; exact p1) (by rw [← h.len]; exact q1) (by rw [← h.len]; exact p1) (by rw [← h.len]; exact q1), by rw [h.len]; exact hf, h.bel⟩
  · simp only [Value.ownBlock, Option.some.injEq] at hq
    rw [← hq]
    exact h.new
  · obtain ⟨q, hq, rfl⟩ := List.mem_iff_getElem.1 hx
    have hql : q < ks.length := by rw [← h.len]; exact hq
    obtain ⟨_, a2, a3, a4⟩ := h.lo q hql hql
    rw [getElem!_pos rs q hq] at a2 a3 a4
    exact ⟨a2, a3, a4⟩

set_option maxRecDepth 100000 in
set_option maxHeartbeats 8000000 in
theorem order_any (v : Value) (ls : List Wt) (w : World) (h : WrAt w v ls) (hn : ls.length ≤ 65536) (hlen : ∀ x ∈ ls, x.b.length ≤ 140737488355328) : Calls Try.prog 6 #[v] w (OrdPost ls w) := by
  obtain ⟨fs, hu⟩ := u_write
  have HUW := hidden hu
  have HC := hidden (latest_any v ls w h hn)
  have HWR := hidden h
  have HLE := hidden hlen
  have HLN := hidden hn
  clear h hn hu hlen
  go_enter Try.func6, Try.ntmps6
  go_wp2_with (go_at_call 18; refine HC.out.mono ?_; rintro e w1 ⟨v1, ks, rfl, c1, c2, c3, c4, c5⟩; have C1 := hidden c1; have C2 := hidden c2; have C3 := hidden c3; have C4 := hidden c4; have C5 := hidden c5; clear c1 c2 c3 c4 c5; obtain ⟨va, vc, rfl⟩ := lst_slice C2.out)
  clear HC
  obtain ⟨n, hn0⟩ : ∃ n, n = ks.length := ⟨_, rfl⟩
  have HN := hidden hn0
  rw [← hn0]
  have hn6 : n ≤ n := Nat.le_refl _
  by_cases hz : n = 0
  · have HP : Hid (OrdPost ls w (.returned (.slice va n vc)) w1) := ⟨_, [], rfl, by have h1 := C1.out; rw [List.eq_nil_of_length_eq_zero (show ks.length = 0 by omega)] at h1; exact h1.nm, by have := C2.out; rw [List.eq_nil_of_length_eq_zero (show ks.length = 0 by omega)] at this; rw [hz]; exact this, fun g hg => C3.out g (by rw [← hn0]; exact hg), fun x hx => (by cases hx), fun p q hp => (by simp at hp), by simp, C5.out⟩
    have z1 : ¬ (0 : Int) < (n : Int) := by omega
    clear hn0
    subst hz
    clear hn6
    go_loopw [4, 5, 10] (fun _ _ iv wr => iv = .int .i64 0 ∧ wr = w1) (fun _ _ _ _ => 0)
    case atStart => exact ⟨rfl, rfl⟩
    case round =>
      obtain ⟨rfl, rfl⟩ := hrel
      go_wp2
      go_ret
      exact HP.out
  · obtain ⟨g, cc, hva, _⟩ := lst_pos C2.out (by omega)
    injection hva with hva hnn hvc
    subst hva
    clear hnn hvc
    have HOK : Hid (∀ x ∈ ks, WtOk x ∧ Reads w x.v x.b ∧ x.b.length ≤ 140737488355328) := fun x hx => ⟨HWR.out.ok x (C1.out.sub x hx), HWR.out.reads x (C1.out.sub x hx), HLE.out x (C1.out.sub x hx)⟩
    have HS0 : Hid (OrS w ks g vc 0 w1 ks) := ⟨rfl, C2.out, fun _ _ _ => rfl, fun q hq => by omega, fun p q hp => by omega, C5.out, C3.out g rfl, fun x hx => (HOK.out x hx).1⟩
    have HDN : Hid (∀ w' rs, OrS w ks g vc ks.length w' rs → OrdPost ls w (.returned (.slice (some ⟨g, 0, none⟩) n vc)) w') := fun w' rs h1 => ⟨_, rs, rfl, by rw [HN.out]; exact h1.done C1.out C4.out⟩
    have HNB : Hid (n ≤ 65536) := by show n ≤ 65536; have := C4.out; have := HLN.out; omega
    clear C1 C2 C3 C4 C5 HWR HLE hn0 hz hn6
    go_loopw [4, 5, 10] (fun _ _ iv wr => ∃ (i : Nat) (rs : List Wt), iv = .int .i64 (i : Int) ∧ i ≤ n ∧ Hid (OrS w ks g vc i wr rs)) (fun _ _ iv _ => n - (intOf iv).toNat)
    case atStart => exact ⟨0, ks, rfl, by omega, HS0⟩
    case round =>
      clear HS0
      obtain ⟨i, rs, rfl, hin, hos⟩ := hrel
      by_cases hlt : i < n
      · as_aux_lemma =>
          have z1 : (i : Int) < (n : Int) := by omega
          have z2 : (0 : Int) ≤ (i : Int) := by omega
          have hik : i < ks.length := by have := HN.out; omega
          obtain ⟨X, hX⟩ : ∃ X, X = ks[i]! := ⟨_, rfl⟩
          have hXm : X ∈ ks := by rw [hX, getElem!_pos ks i hik]; exact List.getElem_mem hik
          obtain ⟨hXo, hXr, hXl⟩ := HOK.out X hXm
          have HAT : Hid (∀ w', Below wr.heap.size wr w' → w'.rangeAt g (i * 34) (encW X) ∧ w'.cell? ⟨g, i * 34 + 33, none⟩ = some X.v ∧ w'.frozen? ⟨g, i * 34 + 33, none⟩ = false) := fun w' hb => by rw [hX]; exact (hos.out.grow hb).at hik
          have HSX : Hid ((Try.prog.info? 37).map (·.size) = some (encW X).length) := by show _ = _; rw [hXo.len]; exact size_write
          have HSA : Hid ((Try.prog.info? 37).map (·.size) = some (encW X).toArray.size) := by show _ = _; rw [List.size_toArray, hXo.len]; exact size_write
          have HSZ : Hid ((encW zW).toArray.size = (encW X).toArray.size) := by show _ = _; rw [List.size_toArray, List.size_toArray, hXo.len, zW_ok.len]
          have HON := hidden hXo.all
          have HGN : Hid (∀ w' q, Blk w' q 37 (encW X).toArray → w'.cell? ⟨q, 32, none⟩ = some (.bool X.g) ∧ w'.cell? ⟨q, 33, none⟩ = some X.v) := fun w' q hb => by
            have h1 := encW_gone hb.rngW hXo.hk.1
            have h2 := encW_val hb.rngW hXo.hk.1
            rw [Nat.zero_add] at h1 h2
            exact ⟨h1, h2⟩
          have HNE : Hid (∀ w' q cs, Below wr.heap.size wr w' → wr.heap.size ≤ q → Blk w' q 37 cs → q ≠ g) := fun w' q cs hb hq hB e => by
            have h1 := lst_lt hos.out.own g rfl
            omega
          have HCL : Hid (∀ w', Below w.heap.size w w' → Calls Try.prog 19 #[X.v] w' fun e w'' => ∃ v' sp, e = .returned v' ∧ Own w'.heap.size w'' v' X.b sp ∧ Below w'.heap.size w' w'') := fun w' hb => bclone_any X.v X.b w' (hXr.grow hb) hXl
          have HBW := hidden hos.out.bel
          have HNG := hidden hos.out.new
          have HSG : Hid (∀ w4, Below wr.heap.size wr w4 → X.g = true → OrS w ks g vc (i + 1) (w4.setCell ⟨g, i * 34 + 33, none⟩ (.slice none 0 0)) (rs.set i ⟨ks[i]!.k, ks[i]!.g, [], .slice none 0 0⟩)) := fun w4 h1 h2 => (hos.out.grow h1).step hik w4 w4 _ [] [] (.inr rfl) (Below.refl _ _) (Own.nil _ _) (by rw [← hX, if_pos h2])
          have HSN : Hid (∀ w4 w6 v' sp, Below wr.heap.size wr w4 → X.g = false → Below (w4.setCell ⟨g, i * 34 + 33, none⟩ (.slice none 0 0)).heap.size (w4.setCell ⟨g, i * 34 + 33, none⟩ (.slice none 0 0)) w6 → Own (w4.setCell ⟨g, i * 34 + 33, none⟩ (.slice none 0 0)).heap.size w6 v' X.b sp → OrS w ks g vc (i + 1) (w6.setCell ⟨g, i * 34 + 33, none⟩ v') (rs.set i ⟨ks[i]!.k, ks[i]!.g, X.b, v'⟩)) := fun w4 w6 v' sp h1 h2 h3 h4 => (hos.out.grow h1).step hik _ w6 v' X.b sp (.inl rfl) h3 h4 (by rw [← hX, if_neg (by rw [h2]; decide)])
          have HST : Hid (∀ w4 w6, Below wr.heap.size wr w4 → Below (w4.setCell ⟨g, i * 34 + 33, none⟩ (.slice none 0 0)).heap.size (w4.setCell ⟨g, i * 34 + 33, none⟩ (.slice none 0 0)) w6 → w6.cell? ⟨g, i * 34 + 33, none⟩ = some (.slice none 0 0) ∧ w6.frozen? ⟨g, i * 34 + 33, none⟩ = false) := fun w4 w6 h1 h2 => by
            obtain ⟨cap, cur, _, hB, _, _, hcs, _⟩ := lst_blk (hos.out.grow h1).own g rfl
            have hB2 := (hB.set (i * 34 + 33) (.slice none 0 0)).grow h2
            have hl := hos.out.own.1
            refine ⟨?_, hB2.frozen _⟩
            rw [hB2.cell, Array.getElem?_setIfInBounds_self_of_lt]
            obtain ⟨hc1, _⟩ := lst_blk (hos.out.grow h1).own g rfl
            have h5 := (hos.out.grow h1).at hik
            have h6 := h5.2.1
            rw [hB.cell] at h6
            exact (Array.getElem?_eq_some_iff.1 h6).1
          obtain ⟨j, hj⟩ : ∃ j, j = i + 1 := ⟨_, rfl⟩
          have HJ := hidden hj
          have hi2 : i ≤ 200000 := by have := HNB.out; omega
          have hwi := w64_succ hi2 hj
          rw [← hj] at HSG HSN
          have HSB : Hid ((Try.prog.info? 35).map (·.size) = some 1) := by show _ = _; kernel_rfl
          obtain ⟨xa, xc, hxv⟩ := hXo.hv
          obtain ⟨xl, hxl⟩ : ∃ xl, xl = X.b.length := ⟨_, rfl⟩
          rw [← hxl] at hxv
          rw [hxv] at HAT HGN HCL
          obtain ⟨xg, hxg⟩ : ∃ xg, xg = X.g := ⟨_, rfl⟩
          rw [← hxg] at HGN HSG HSN
          obtain ⟨R1, hR1⟩ : ∃ R1, R1 = rs.set i ⟨ks[i]!.k, ks[i]!.g, [], .slice none 0 0⟩ := ⟨_, rfl⟩
          rw [← hR1] at HSG
          have HIK := hidden hik
          clear hX hXm hXo hXr hXl hxv hxl hxg hj hi2 hos hik hR1
          cases xg with
          | true =>
            go_wp2_with (first
              | ((with_reducible refine at_ldd 14 13 ?_); refine wpList_load_mid rfl 37 _ rfl g (i * 34) rfl (encW X) _ (HAT.out _ (Below.refl _ _)).1 HUW.out rfl HSX.out ?_)
              | ((with_reducible refine at_ald 5 ?_); refine wpList_al _ rfl _ rfl _ zero_write ?_; intro w3 gq hg3 hl3 bq3 q3)
              | ((with_reducible refine at_st 5 ?_); refine wpList_sto _ rfl _ _ _ rfl gq _ (encW X).toArray rfl rfl bq3 HSA.out HSZ.out HON.out ?_; intro w4 bq4 r4; have d4 := below_row q3 r4 hg3; have HQG := hidden (HNE.out _ _ _ d4 hg3 bq4); clear bq3 q3 r4 hl3 hg3)
              | ((with_reducible refine at_st 18 ?_); refine wpList_stc _ rfl _ _ _ rfl g (i * 34 + 33) (.slice none 0 0) _ rfl rfl rfl rfl (HAT.out _ d4).2.1 (HAT.out _ d4).2.2 HSB.out ?_; have bq5 := bq4.other (i * 34 + 33) (.slice none 0 0) HQG.out; have HB5 : Hid (Below w.heap.size w (w4.setCell ⟨g, i * 34 + 33, none⟩ (.slice none 0 0))) := setCell_below _ _ (grow_trans HBW.out d4) HNG.out; obtain ⟨w5, hw5⟩ : ∃ w5, w5 = w4.setCell ⟨g, i * 34 + 33, none⟩ (.slice none 0 0) := ⟨_, rfl⟩; rw [← hw5] at bq5 HB5 ⊢; have HW5 := hidden hw5; obtain ⟨c5, c6⟩ := HGN.out _ _ bq5; clear hw5 bq4))
            have HS := hidden (HSG.out w4 d4 rfl)
            rw [← HW5.out] at HS
            have HJN : Hid (j ≤ n) := by show j ≤ n; have := HJ.out; clear hwi; omega
            rw [hwi]
            clear hwi
            exact ⟨⟨j, R1, rfl, HJN.out, HS⟩, by have := HJ.out; simp [intOf]; omega⟩
          | false =>
            go_wp2_with (first
              | ((with_reducible refine at_ldd 14 13 ?_); refine wpList_load_mid rfl 37 _ rfl g (i * 34) rfl (encW X) _ (HAT.out _ (Below.refl _ _)).1 HUW.out rfl HSX.out ?_)
              | ((with_reducible refine at_ald 5 ?_); refine wpList_al _ rfl _ rfl _ zero_write ?_; intro w3 gq hg3 hl3 bq3 q3)
              | ((with_reducible refine at_st 5 ?_); refine wpList_sto _ rfl _ _ _ rfl gq _ (encW X).toArray rfl rfl bq3 HSA.out HSZ.out HON.out ?_; intro w4 bq4 r4; have d4 := below_row q3 r4 hg3; have HQG := hidden (HNE.out _ _ _ d4 hg3 bq4); clear bq3 q3 r4 hl3 hg3)
              | ((with_reducible refine at_st 18 ?_); refine wpList_stc _ rfl _ _ _ rfl g (i * 34 + 33) (.slice none 0 0) _ rfl rfl rfl rfl (HAT.out _ d4).2.1 (HAT.out _ d4).2.2 HSB.out ?_; have bq5 := bq4.other (i * 34 + 33) (.slice none 0 0) HQG.out; have HB5 : Hid (Below w.heap.size w (w4.setCell ⟨g, i * 34 + 33, none⟩ (.slice none 0 0))) := setCell_below _ _ (grow_trans HBW.out d4) HNG.out; obtain ⟨w5, hw5⟩ : ∃ w5, w5 = w4.setCell ⟨g, i * 34 + 33, none⟩ (.slice none 0 0) := ⟨_, rfl⟩; rw [← hw5] at bq5 HB5 ⊢; have HW5 := hidden hw5; obtain ⟨c5, c6⟩ := HGN.out _ _ bq5; clear hw5 bq4)
              | (go_at_call 19; refine (HCL.out _ HB5.out).mono ?_; rintro e w6 ⟨v', sp, rfl, o6, b6⟩; obtain ⟨ua, uc, rfl⟩ := o6.slice; have HS := hidden (HSN.out w4 w6 _ sp d4 rfl (by rw [← HW5.out]; exact b6) (by rw [← HW5.out]; exact o6)); have HA6 : Hid (w6.cell? ⟨g, i * 34 + 33, none⟩ = some (.slice none 0 0) ∧ w6.frozen? ⟨g, i * 34 + 33, none⟩ = false) := HST.out w4 w6 d4 (by rw [← HW5.out]; exact b6))
              | ((with_reducible refine at_st 28 ?_); refine wpList_stc _ rfl _ _ _ rfl g (i * 34 + 33) (.slice ua X.b.length uc) _ rfl rfl rfl rfl HA6.out.1 HA6.out.2 HSB.out ?_; obtain ⟨w7, hw7⟩ : ∃ w7, w7 = w6.setCell ⟨g, i * 34 + 33, none⟩ (.slice ua X.b.length uc) := ⟨_, rfl⟩; rw [← hw7] at HS ⊢; clear hw7))
            have HJN : Hid (j ≤ n) := by show j ≤ n; have := HJ.out; clear hwi; omega
            rw [hwi]
            clear hwi
            exact ⟨⟨j, _, rfl, HJN.out, HS⟩, by have := HJ.out; simp [intOf]; omega⟩
      · have z1 : ¬ (i : Int) < (n : Int) := by omega
        have HP := hidden (HDN.out wr rs (by rw [show ks.length = i by have := HN.out; omega]; exact hos.out))
        clear hos
        go_wp2
        go_ret
        exact HP.out

end Go.Proofs.Ytagkmfgoahbclaa
