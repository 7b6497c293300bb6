/- NodeOrder's walk: the law returns true at all entries, turns and keys, and nothing that was in memory turns. -/
import Derived.Test.YtjcklpdifanjlaaDoorOr44
import Derived.Deep.CutBlock
import Derived.Test.YtjcklpdifanjlaaDoorOr03
import Derived.Test.YtjcklpdifanjlaaDoorRows
import Derived.ProofKit
import Derived.OpenShut
import Derived.ShutString
import Derived.ChangeOld
import Derived.Below
import Derived.SizedLaws
namespace Go.Proofs.YtjcklpdifanjlaaDoor
set_option maxRecDepth 20000
open Go.RowKit

/-- A list of numbers. -/
def TsAt (w : World) (v : Value) (ts : List Int) : Prop :=
  ∃ a cap, v = .slice a ts.length cap ∧ (0 < ts.length → ∃ g off, a = some ⟨g, off, none⟩ ∧ ∀ i, i < ts.length → w.cell? ⟨g, off + i, none⟩ = some (.int .i64 (ts.getD i 0)))
theorem TsAt.grow {w w' : World} {v : Value} {ts : List Int} (h : TsAt w v ts) (hb : Below w.heap.size w w') : TsAt w' v ts := by
  obtain ⟨a, cap, e, h1⟩ := h
  refine ⟨a, cap, e, fun hp => ?_⟩
  obtain ⟨g, off, ea, hc⟩ := h1 hp
  exact ⟨g, off, ea, fun i hi => (hb.cell (block_lt_of_cell (hc i hi))).trans (hc i hi)⟩
theorem TsAt.kp {w : World} {v : Value} {ts : List Int} (h : TsAt w v ts) : Kp w (fun w' => TsAt w' v ts) := fun _ q => h.grow q

theorem prAt_take {w : World} {a : Option Addr} {n cap : Nat} {V : Nat → Value} {es : List Ent} (h : PrAt w (.slice a es.length cap) V es) (hn : n ≤ es.length) : PrAt w (.slice a n cap) V (es.take n) := by
  obtain ⟨a', cap', e, h1, h2, h3⟩ := h
  injection e with e1 _ e3
  subst e1
  subst e3
  have hl : (es.take n).length = n := by simp; omega
  have hg : ∀ i, i < n → (es.take n).getD i e00 = es.getD i e00 := fun i hi => by simp [List.getD, hi]
  refine ⟨a, cap, by rw [hl], by omega, fun hp => ?_, fun i hi => ?_⟩
  · rw [hl] at hp
    obtain ⟨g, off, ea, hc⟩ := h2 (by omega)
    refine ⟨g, off, ea, fun i hi => ?_⟩
    rw [hl] at hi
    rw [hg i hi]
    exact hc i (by omega)
  · rw [hl] at hi
    rw [hg i hi]
    exact h3 i (by omega)

theorem encP_all (k : List Int) (v : Value) (h : v.oneCell' = true) : (encP k v).toArray.all (·.oneCell') = true := all_oneCell_toArray (fun u hu => by
  unfold encP at hu
  rcases List.mem_append.1 hu with hu | hu
  · obtain ⟨z, _, rfl⟩ := List.mem_map.1 hu
    rfl
  · obtain rfl : u = v := by simpa using hu
    exact h)

theorem sides_zero : ∀ w, (zeroValue 76).run Tryd.prog w = .ok (.agg #[.slice none 0 0, .slice none 0 0]) w := zero_of_info (n := 2) (by kernel_rfl) |>.1

theorem sd0 {w : World} {g : Nat} {t : TypeId} {x y : Value} (h : Blk w g t #[x, y]) : w.cell? ⟨g, 0, none⟩ = some x := by rw [h.cell]; rfl
theorem sd1 {w : World} {g : Nat} {t : TypeId} {x y : Value} (h : Blk w g t #[x, y]) : w.cell? ⟨g, 1, none⟩ = some y := by rw [h.cell]; rfl
theorem sd0_set {w : World} {g : Nat} {t : TypeId} {x y : Value} (h : Blk w g t #[x, y]) (x' : Value) : Blk (w.setCell ⟨g, 0, none⟩ x') g t #[x', y] := h.set 0 x'
theorem sd1_set {w : World} {g : Nat} {t : TypeId} {x y : Value} (h : Blk w g t #[x, y]) (y' : Value) : Blk (w.setCell ⟨g, 1, none⟩ y') g t #[x, y'] := h.set 1 y'
theorem ownS_ne {w : World} {base n : Nat} {v : Value} {xs : List Value} {g : Nat} {cs : Array Value} (h : w.ownsRow base 75 33 v n xs) (hb : Blk w g 76 cs) : v.ownBlock ≠ some g := by
  rcases h.2 with ⟨rfl, _⟩ | ⟨g', cap, cur, rfl, _, hg, _⟩
  · simp [Value.ownBlock]
  · intro e
    obtain rfl : g' = g := by simpa [Value.ownBlock] using e
    have hb' : w.heap[g']? = some (.cells cs 76 (0, 0)) := hb
    rw [hb'] at hg
    injection hg with hg
    injection hg with _ ht
    exact absurd ht (by decide)
/-- Two lists lie in blocks of their own. -/
def Aprt (u v : Value) : Prop := ∀ q, u.ownBlock = some q → v.ownBlock ≠ some q
theorem Aprt.symm {u v : Value} (h : Aprt u v) : Aprt v u := fun q hv hu => h q hu hv
theorem Aprt.step {w : World} {base m : Nat} {u u' v : Value} {xs : List Value} (h : Aprt u v) (hv : w.ownsRow base 75 33 v m xs) (hw : Where w u u') : Aprt u' v := by
  intro q hq
  rcases hw with e | ⟨k, e, hk⟩
  · exact h q (by rw [← e]; exact hq)
  · intro e2
    rw [e] at hq
    injection hq with hq
    have := (hv.lt q e2).2
    omega
theorem Aprt.ne {u v : Value} (h : Aprt u v) : v.ownBlock = none ∨ v.ownBlock ≠ u.ownBlock := by
  cases hv : v.ownBlock with
  | none => exact .inl rfl
  | some q => exact .inr fun e => h q e.symm hv

theorem end_key {w : World} {g : Nat} {t : TypeId} {s : Value} {k : Int} {a b c d : List Int} (h : Blk w g t (encR s (nd k a b c d)).toArray) (hn : Nd k a b c d) : w.rangeAt g 2 (B a).toList := by
  intro j v hv
  rw [B_toList, List.getElem?_map, Option.map_eq_some_iff] at hv
  obtain ⟨z, hz, rfl⟩ := hv
  have h1 := hn.segA j z hz
  have h2 := proof_end h (1 + j) (.int .u8 z) (by rw [List.getElem?_map, h1]; rfl)
  rw [show 2 + j = 1 + (1 + j) by omega]
  exact h2

/-- load of an array in the midst of a block, where its guard says yes. -/
theorem wpList_lmg {ops : Array Oper} {rest : List Oper} {op : Oper} {a : Act} {Q : Exit → Act → World → Prop} (w : World) (hgd : Region.wanted op (yielded ops a.tmps) = true) (ty : TypeId) (x : Operand) (ho : op.op = .load ty x)
    (b o : Nat) (hx : a.eval x = .pointer (some ⟨b, o, none⟩)) (cs : List Value) (d : TypeDesc) (hc : w.rangeAt b o cs) (hu : Tryd.prog.underlying ty = some d) (hd : d.isRow = true) (hi : (Tryd.prog.info? ty).map (·.size) = some cs.length)
    (hk : wpList Tryd.prog ops Q rest (a.put op.dst (.agg cs.toArray)) w) : wpList Tryd.prog ops Q (op :: rest) a w :=
  BigFrame.wpList_want hgd fun _ hK => wp_load_mid ty x ho b o hx cs d hc hu hd hi (hK _ _ hk)

set_option maxRecDepth 100000 in
set_option maxHeartbeats 400000000 in
theorem nodeOrder_walk (v : Value) (V : Nat → Value) (es0 : List Ent) (tv : Value) (ts : List Int) (key : List Int) (w : World) (hv0 : PrAt w v V es0) (hl0 : ∀ i, i < es0.length → (es0.getD i e00).2.length ≤ 140737488355328 - 4096)
    (ht : TsAt w tv ts) (hkey : Key key) (hL : Laid w) :
    Calls Tryd.prog 7 #[v, tv, .agg (B key)] w fun e w' => e = .returned (.bool true) ∧ Below w.heap.size w w' := by
  obtain ⟨n0, hn0⟩ : ∃ n0, n0 = es0.length := ⟨_, rfl⟩
  obtain ⟨va, vc, hve⟩ : ∃ va vc, v = .slice va es0.length vc := by
    obtain ⟨a, cap, e, _⟩ := hv0
    exact ⟨a, cap, e⟩
  subst hve
  have hcap0 : n0 ≤ vc := by
    obtain ⟨a, cap, e, h1, _⟩ := hv0
    injection e with _ _ e3
    omega
  obtain ⟨n, hn⟩ : ∃ n, n = min 40 n0 := ⟨_, rfl⟩
  obtain ⟨es, hes⟩ : ∃ es, es = es0.take n := ⟨_, rfl⟩
  have hv : PrAt w (.slice va n vc) V es := by rw [hes]; exact prAt_take hv0 (by omega)
  have hlen : es.length = n := by rw [hes]; simp; omega
  have hvl : ∀ i, i < es.length → (es.getD i e00).2.length ≤ 140737488355328 := fun i hi => by
    have h1 := hl0 i (by omega)
    have h2 : es.getD i e00 = es0.getD i e00 := by
      rw [hes]
      simp [List.getD, show i < n by omega]
    rw [h2]
    omega
  have hkeys := hv.keys
  have KV := hidden hv.kp
  have KW := hidden (below_kp w)
  have KL := hidden hL.kp
  have KT := hidden ht.kp
  have HLEN := hidden hlen
  have HKEYS := hidden hkeys
  have HKEY := hidden hkey
  have HKZ : Hid ((Tryd.prog.info? 24).map (·.size) = some (B key).size) := by show _ = _; rw [B_size, hkey.1]; exact sz_path
  have HRt : Hid (∀ w' v V fs, PrAt w' v V fs → fs.length ≤ 4096 → Laid w' → Calls Tryd.prog 22 #[v] w' fun e w'' => e = .returned (.tuple #[.agg (B (rtH fs)), .int .i64 (errB fs)]) ∧ Below w'.heap.size w' w'') := fun w' v V fs h hl' hl2 => (Root_any v V fs w' h (by omega) hl2).mono fun e w'' ⟨h', E', q1, q2, q3⟩ => by
    obtain ⟨e1, e2⟩ := rootIs_zero q2
    rw [e1, e2] at q1
    exact ⟨q1, q3⟩
  obtain ⟨r0, hr0⟩ : ∃ r0, r0 = rtH es := ⟨_, rfl⟩
  obtain ⟨E0, hE0⟩ : ∃ E0, E0 = errB es := ⟨_, rfl⟩
  have HR0 := hidden hr0
  have HE0 := hidden hE0
  have hn40 : n ≤ 40 := by omega
  have HRl : Hid (∀ w', PrAt w' (.slice va n vc) V es → Laid w' → Calls Tryd.prog 22 #[.slice va n vc] w' fun e w'' => e = .returned (.tuple #[.agg (B r0), .int .i64 E0]) ∧ Below w'.heap.size w' w'') := fun w' h hl2 => by rw [hr0, hE0]; exact HRt.out w' _ V es h (by omega) hl2
  have HF0 := hidden (hash_sz r0 (by rw [hr0]; exact (rtH_len es).1))
  have HCp : Hid (∀ w', PrAt w' (.slice va n vc) V es → Calls Tryd.prog 35 #[.slice va n vc] w' fun e w'' => ∃ la lc its, e = .returned (.slice la n lc) ∧ its.length = n ∧ its.map (·.1) = es ∧ (∀ p ∈ its, Key p.1.1 ∧ ∃ sp, Own w'.heap.size w'' p.2 p.1.2 sp) ∧ w''.ownsRow w'.heap.size 75 33 (.slice la n lc) n (flatP its) ∧ Below w'.heap.size w' w'') := fun w' h => (copyPairs_any _ V es w' h (by omega) hvl).mono fun e w'' ⟨v', its, q1, q2, q3, q4, q5⟩ => by
    have hil : its.length = n := by rw [← hlen, ← q2, List.length_map]
    rw [hil] at q4
    obtain ⟨la, lc, e'⟩ : ∃ la lc, v' = .slice la n lc := by
      rcases q4.2 with ⟨e1, e2⟩ | ⟨g', cap', cur, e1, _⟩
      · exact ⟨none, 0, by rw [e1, e2]⟩
      · exact ⟨_, _, e1⟩
    subst e'
    exact ⟨la, lc, its, q1, hil, q2, q3, q4, q5⟩
  obtain ⟨nt, hnt⟩ : ∃ nt, nt = ts.length := ⟨_, rfl⟩
  have HNT := hidden hnt
  obtain ⟨ta, tc, hte⟩ : ∃ ta tc, tv = .slice ta nt tc := by
    obtain ⟨a, cap, e, _⟩ := ht
    exact ⟨a, cap, by rw [hnt]; exact e⟩
  subst hte
  rw [← hn0] at *
  obtain ⟨fpa, hupa⟩ := u_pair
  have HUPa := hidden hupa
  have HPSZ : Hid (∀ K u, K.length = 32 → (Tryd.prog.info? 75).map (·.size) = some (encP K u).length ∧ (Tryd.prog.info? 75).map (·.size) = some (encP K u).toArray.size) := fun K u hk => by rw [List.size_toArray, encP_length K u hk]; exact ⟨size_pair, size_pair⟩
  clear hn0 hes hv hlen hvl hkeys hkey hL ht hv0 hl0 hr0 hE0 hnt hupa
  go_enter Tryd.func7, Tryd.ntmps7
  go_upto_if 29 with (first
    | ((with_reducible refine at_bxd 5 ?_); refine wpList_bx _ rfl _ _ rfl _ rfl ?_; intro w1 g5 hg5 hl5 B5 b1; replace KV := hidden (KV.out.step b1); replace KW := hidden (KW.out.step b1); replace KL := hidden (KL.out.step b1); replace KT := hidden (KT.out.step b1); have K5 := hidden B5.kp; clear hg5 hl5 B5 b1))
  go_cut [0] from 27 (fun l wx => l = .slice va n vc ∧ wx = w1)
  case first =>
    by_cases hbig : 40 < n0
    · have z1 : (40 : Int) < (n0 : Int) := by omega
      have hn4 : n = 40 := by omega
      have z2 : (40 : Int) ≤ (vc : Int) := by omega
      have HN4 := hidden hn4
      clear hn4 hn
      go_wp2
      go_meet
      case rel => exact ⟨by rw [HN4.out], rfl⟩
    · have z1 : ¬ (40 : Int) < (n0 : Int) := by omega
      have hn4 : n = n0 := by omega
      have HN4 := hidden hn4
      clear hn4 hn
      go_wp2
      go_meet
      case rel => exact ⟨by rw [HN4.out], rfl⟩
  case rest =>
    obtain ⟨rfl, rfl⟩ := hcut
    clear hn hcap0
    go_upto_block 0 with (first
      | ((with_reducible refine at_ald 7 ?_); refine wpList_al _ rfl _ rfl _ zero_hash ?_; intro x2 g7 hg7 hl2 bq2 q2; clear hl2)
      | ((with_reducible refine at_st 7 ?_); refine wpList_sto _ rfl _ _ _ rfl g7 _ (B r0) rfl rfl bq2 HF0.out.1 HF0.out.2 (B_one _) ?_; intro x3 by3 r3; have q3 := below_row q2 r3 hg7; replace KV := hidden (KV.out.step q3); replace KW := hidden (KW.out.step q3); replace KL := hidden (KL.out.step q3); replace KT := hidden (KT.out.step q3); replace K5 := hidden (K5.out.step q3); have K7 := hidden by3.kp; clear q3 q2 r3 by3 bq2 hg7)
      | (go_at_call 35; refine (HCp.out _ KV.out.now).mono ?_; rintro e x9 ⟨la, lc, its0, rfl, i1, i2, i3, i4, q9⟩; have I1 := hidden i1; have I2 := hidden i2; have I3 := hidden i3; have I4 := hidden i4; have I5 := hidden q9; clear i1 i2 i3 i4 q9)
      | (go_at_call 22; refine (HRl.out _ KV.out.now KL.out.now).mono ?_; rintro e x1 ⟨rfl, q1⟩; replace KV := hidden (KV.out.step q1); replace KW := hidden (KW.out.step q1); replace KL := hidden (KL.out.step q1); replace KT := hidden (KT.out.step q1); replace K5 := hidden (K5.out.step q1); have mk_fnodeRoot_1 : Hid True := trivial; clear q1))
    go_cut [10, 11, 12] from 27 (fun _ _ _ wx => ∃ its : List (Ent × Value), Hid (its.length = n) ∧ Hid ((its.map (·.1)).Perm es) ∧ Hid (∀ p ∈ its, Key p.1.1 ∧ ∃ sp, Own x3.heap.size wx p.2 p.1.2 sp) ∧ Hid (wx.ownsRow x3.heap.size 75 33 (.slice la n lc) n (flatP its)) ∧ Hid (Below x3.heap.size x3 wx))
    case first =>
      go_wp2_with fail
      go_loopw [10] (fun i wr => ∃ (k : Nat) (its : List (Ent × Value)), k ≤ 100 ∧ k ≤ nt ∧ i = .int .i64 k ∧ Hid (its.length = n) ∧ Hid ((its.map (·.1)).Perm es) ∧ Hid (∀ p ∈ its, Key p.1.1 ∧ ∃ sp, Own x3.heap.size wr p.2 p.1.2 sp) ∧ Hid (wr.ownsRow x3.heap.size 75 33 (.slice la n lc) n (flatP its)) ∧ Hid (Below x3.heap.size x3 wr)) (fun i _ => nt - (intOf i).toNat)
      case atStart => exact ⟨0, its0, by omega, by omega, rfl, I1, by rw [I2.out]; exact List.Perm.refl _, I3, I4, I5⟩
      case round =>
        obtain ⟨k, its, hk1, hk2, rfl, hil, hip, hiv, hio, hbw⟩ := hrel
        by_cases h1 : k < nt
        · have z1 : (k : Int) < (nt : Int) := by omega
          by_cases h2 : k < 100
          · have z2 : (k : Int) < 100 := by omega
            by_cases h3 : 0 < n
            · as_aux_lemma =>
                have z3 : (0 : Int) < (n : Int) := by omega
                obtain ⟨gt, ot, hta, hcc⟩ : ∃ g off, ta = some ⟨g, off, none⟩ ∧ x3.cell? ⟨g, off + k, none⟩ = some (.int .i64 (ts.getD k 0)) := by
                  obtain ⟨a', c', e, h⟩ := KT.out.now
                  injection e with e1 e2
                  subst e1
                  obtain ⟨g, off, e3, h4⟩ := h (by omega)
                  exact ⟨g, off, e3, h4 k (by omega)⟩
                subst hta
                obtain ⟨τ, hτ⟩ : ∃ τ, τ = ts.getD k 0 := ⟨_, rfl⟩
                rw [← hτ] at hcc
                obtain ⟨x, hx⟩ : ∃ x, x = k % n := ⟨_, rfl⟩
                have hxn : x < n := by rw [hx]; exact Nat.mod_lt _ h3
                have hrem : (k : Int).tmod (n : Int) = (x : Int) := by rw [hx]; exact (Int.ofNat_tmod k n).symm
                obtain ⟨gl, hgl⟩ : ∃ gl, la = some ⟨gl, 0, none⟩ := by
                  rcases hio.out.2 with ⟨e, e2⟩ | ⟨g', cap', cur, e, _⟩
                  · omega
                  · injection e with e1
                    exact ⟨g', e1⟩
                subst hgl
                have HPk : Hid (∀ w', Calls Tryd.prog 36 #[.int .i64 τ, .int .i64 n] w' fun e w'' => (∃ p : Nat, p < n ∧ e = .returned (.int .i64 p)) ∧ w'' = w') := fun w' => pick_any τ n w' h3 (by omega)
                have hnz : ¬ (n : Int) = 0 := by omega
                have hnz2 : ¬ n = 0 := by omega
                have HX := hidden hxn
                have HCC := hidden hcc
                have z4 : (0 : Int) ≤ (k : Int) := by omega
                clear hcc hτ hx hxn h1 h2
                go_wp2_with fail
                have d0 : Below wr.heap.size wr wr.drew := (Below.refl _ _).drew
                have HS : Hid (∀ w', Below wr.heap.size wr w' → w'.cell? ⟨gt, ot + k, none⟩ = some (.int .i64 τ)) := fun w' q => by
                  have h1 := (hbw.out.cell (p := ⟨gt, ot + k, none⟩) (block_lt_of_cell HCC.out)).trans HCC.out
                  exact (q.cell (block_lt_of_cell h1)).trans h1
                refine wp_region_last (S := fun w' => w'.cell? ⟨gt, ot + k, none⟩ = some (.int .i64 τ)) 12 (by kernel_rfl) (HS.out _ d0) (fun hHeld => ?_)
                refine wpAnyL_take (i := 0) (v := .int .i64 k) rfl (by kernel_rfl) (by kernel_rfl) (by kernel_rfl) (by kernel_rfl) (by kernel_rfl) (fun _ _ _ h => h) (Or.inl ⟨by rfl, fun w hS => by go_simp⟩) hHeld ?_
                simp only [Act.put, List.getElem_toArray, List.getElem_cons_zero, List.setIfInBounds_toArray, List.set_cons_zero, List.set_cons_succ]
                refine wpAnyL_take (i := 1) (v := .slice (some ⟨gl, 0, none⟩) n lc) rfl (by kernel_rfl) (by kernel_rfl) (by kernel_rfl) (by kernel_rfl) (by kernel_rfl) (fun _ _ _ h => h) (Or.inl ⟨by rfl, fun w hS => by go_simp⟩) hHeld ?_
                simp only [Act.put, List.getElem_toArray, List.getElem_cons_zero, List.getElem_cons_succ, List.setIfInBounds_toArray, List.set_cons_zero, List.set_cons_succ]
                refine wpAnyL_take (i := 2) (v := .int .i64 n) rfl (by kernel_rfl) (by kernel_rfl) (by kernel_rfl) (by kernel_rfl) (by kernel_rfl) (fun _ _ _ h => h) (Or.inl ⟨by rfl, fun w hS => by go_simp⟩) hHeld ?_
                simp only [Act.put, List.getElem_toArray, List.getElem_cons_zero, List.getElem_cons_succ, List.setIfInBounds_toArray, List.set_cons_zero, List.set_cons_succ]
                refine wpAnyL_take (i := 3) (v := .int .i64 x) rfl (by kernel_rfl) (by kernel_rfl) (by kernel_rfl) (by kernel_rfl) (by kernel_rfl) (fun _ _ _ h => h) (Or.inl ⟨by rfl, fun w hS => by go_simp⟩) hHeld ?_
                simp only [Act.put, List.getElem_toArray, List.getElem_cons_zero, List.getElem_cons_succ, List.setIfInBounds_toArray, List.set_cons_zero, List.set_cons_succ]
                refine wpAnyL_take (i := 4) (v := .slice (some ⟨gt, ot, none⟩) nt tc) rfl (by kernel_rfl) (by kernel_rfl) (by kernel_rfl) (by kernel_rfl) (by kernel_rfl) (fun _ _ _ h => h) (Or.inl ⟨by rfl, fun w hS => by go_simp⟩) hHeld ?_
                simp only [Act.put, List.getElem_toArray, List.getElem_cons_zero, List.getElem_cons_succ, List.setIfInBounds_toArray, List.set_cons_zero, List.set_cons_succ]
                refine wpAnyL_take (i := 5) (v := .int .i64 k) rfl (by kernel_rfl) (by kernel_rfl) (by kernel_rfl) (by kernel_rfl) (by kernel_rfl) (fun _ _ _ h => h) (Or.inl ⟨by rfl, fun w hS => by go_simp⟩) hHeld ?_
                simp only [Act.put, List.getElem_toArray, List.getElem_cons_zero, List.getElem_cons_succ, List.setIfInBounds_toArray, List.set_cons_zero, List.set_cons_succ]
                refine wpAnyL_take (i := 6) (v := .pointer (some ⟨gt, ot + k, none⟩)) rfl (by kernel_rfl) (by kernel_rfl) (by kernel_rfl) (by kernel_rfl) (by kernel_rfl) (fun _ _ _ h => h) (Or.inl ⟨by rfl, fun w hS => by go_simp⟩) hHeld ?_
                simp only [Act.put, List.getElem_toArray, List.getElem_cons_zero, List.getElem_cons_succ, List.setIfInBounds_toArray, List.set_cons_zero, List.set_cons_succ]
                refine wpAnyL_take (i := 7) (v := .int .i64 τ) rfl (by kernel_rfl) (by kernel_rfl) (by kernel_rfl) (by kernel_rfl) (by kernel_rfl) (fun _ _ _ h => h) (Or.inl ⟨by rfl, fun w hS => by (have s1 := hS; go_simp)⟩) hHeld ?_
                simp only [Act.put, List.getElem_toArray, List.getElem_cons_zero, List.getElem_cons_succ, List.setIfInBounds_toArray, List.set_cons_zero, List.set_cons_succ]
                refine wpAnyL_take (i := 8) (v := .slice (some ⟨gl, 0, none⟩) n lc) rfl (by kernel_rfl) (by kernel_rfl) (by kernel_rfl) (by kernel_rfl) (by kernel_rfl) (fun _ _ _ h => h) (Or.inl ⟨by rfl, fun w hS => by go_simp⟩) hHeld ?_
                simp only [Act.put, List.getElem_toArray, List.getElem_cons_zero, List.getElem_cons_succ, List.setIfInBounds_toArray, List.set_cons_zero, List.set_cons_succ]
                refine wpAnyL_take (i := 9) (v := .int .i64 n) rfl (by kernel_rfl) (by kernel_rfl) (by kernel_rfl) (by kernel_rfl) (by kernel_rfl) (fun _ _ _ h => h) (Or.inl ⟨by rfl, fun w hS => by go_simp⟩) hHeld ?_
                simp only [Act.put, List.getElem_toArray, List.getElem_cons_zero, List.getElem_cons_succ, List.setIfInBounds_toArray, List.set_cons_zero, List.set_cons_succ]
                refine wpAnyL_one (i := 10) rfl (by kernel_rfl) (fun KQ hK => ?_)
                go_simp
                refine (HPk.out _).mono ?_
                rintro e x1 ⟨⟨y, hyn, rfl⟩, rfl⟩
                have HY := hidden hyn
                clear hyn
                refine hK.out _ _ (HS.out _ d0) (fun hHeld => ?_)
                clear hK KQ
                refine wpAnyL_take (i := 11) (v := .int .i64 x) rfl (by kernel_rfl) (by kernel_rfl) (by kernel_rfl) (by kernel_rfl) (by kernel_rfl) (fun _ _ _ h => h) (Or.inl ⟨by rfl, fun w hS => by go_simp⟩) hHeld ?_
                simp only [Act.put, List.getElem_toArray, List.getElem_cons_zero, List.getElem_cons_succ, List.setIfInBounds_toArray, List.set_cons_zero, List.set_cons_succ]
                refine wpAnyL_last rfl (by kernel_rfl) (by kernel_rfl) (fun KQ hK => ?_)
                go_simp
              
                refine hK.out _ _ ?_
                clear hK KQ
                as_aux_lemma =>
                  have hy2 : (y : Int) < (n : Int) := by have := HY.out; omega
                  have hy0 : (0 : Int) ≤ (y : Int) := by omega
                  have hx2 : (x : Int) < (n : Int) := by have := HX.out; omega
                  have hx0 : (0 : Int) ≤ (x : Int) := by omega
                  have hyl : y < its.length := by rw [hil.out]; exact HY.out
                  have hxl : x < its.length := by rw [hil.out]; exact HX.out
                  have hk32 : ∀ q ∈ its, q.1.1.length = 32 := fun q hq => (hiv.out q hq).1.1
                  obtain ⟨Px, hPx⟩ : ∃ Px, Px = its.getD x (e00, undef) := ⟨_, rfl⟩
                  obtain ⟨Py, hPy⟩ : ∃ Py, Py = its.getD y (e00, undef) := ⟨_, rfl⟩
                  have ePx : Px = its[x] := by rw [hPx]; simp [List.getD, hxl]
                  have ePy : Py = its[y] := by rw [hPy]; simp [List.getD, hyl]
                  have hmx : Px ∈ its := by rw [ePx]; exact List.getElem_mem hxl
                  have hmy : Py ∈ its := by rw [ePy]; exact List.getElem_mem hyl
                  have vx1 : Px.2.oneCell' = true := reads_one (hiv.out Px hmx).2.choose_spec.reads
                  have vy1 : Py.2.oneCell' = true := reads_one (hiv.out Py hmy).2.choose_spec.reads
                  have kx := hk32 Px hmx
                  have ky := hk32 Py hmy
                  have hrx := own_range hio.out hil.out hk32 HX.out
                  have hry := own_range hio.out hil.out hk32 HY.out
                  rw [← hPx] at hrx
                  rw [← hPy] at hry
                  have d1 : Below wr.heap.size wr wr.drew.drew := (Below.refl _ _).drew.drew
                  have o1 := ownsP_below hio.out d1
                  have o2 := own_set o1 hil.out hk32 HX.out Py ky
                  have hk32b : ∀ q ∈ its.set x Py, q.1.1.length = 32 := fun q hq => by
                    rcases List.mem_or_eq_of_mem_set hq with hq | rfl
                    · exact hk32 q hq
                    · exact ky
                  have hil2 : (its.set x Py).length = n := by rw [List.length_set]; exact hil.out
                  have o3 := own_set o2 hil2 hk32b HY.out Px kx
                  have ht2 := (own_range o2 hil2 hk32b HY.out).2
                  have hperm : ((its.set x Py).set y Px).Perm its := by rw [ePx, ePy]; exact swap_perm its x y hxl hyl
                  have HPM : Hid ((((its.set x Py).set y Px).map (·.1)).Perm es) := (hperm.map _).trans hip.out
                  have hg2 := grown_setCells gl (encP Py.1.1 Py.2) (x * 33) wr.drew.drew
                  have hg3 := grown_trans hg2 (grown_setCells gl (encP Px.1.1 Px.2) (y * 33) (wr.drew.drew.setCells gl (x * 33) (encP Py.1.1 Py.2)))
                  have hvals : ∀ p ∈ (its.set x Py).set y Px, Key p.1.1 ∧ ∃ sp, Own x3.heap.size ((wr.drew.drew.setCells gl (x * 33) (encP Py.1.1 Py.2)).setCells gl (y * 33) (encP Px.1.1 Px.2)) p.2 p.1.2 sp := by
                    intro p hp
                    obtain ⟨q1, sp, q2⟩ := hiv.out p (hperm.mem_iff.1 hp)
                    have q3 := q2.grow d1
                    exact ⟨q1, sp, q3.of_block fun q hq => hg3.block q (q3.lt q hq).2 (ownV_ne q3 o1 q hq)⟩
                  have hbe : Below x3.heap.size x3 ((wr.drew.drew.setCells gl (x * 33) (encP Py.1.1 Py.2)).setCells gl (y * 33) (encP Px.1.1 Px.2)) := below_row (grow_trans hbw.out d1) hg3 (hio.out.lt gl rfl).1
                  have HEND := hidden (And.intro hvals (And.intro o3 hbe))
                  have HTX : Hid (wr.drew.drew.there gl (x * 33) (encP Py.1.1 Py.2).toArray.size) := by show World.there _ _ _ _; rw [List.size_toArray, encP_length _ _ ky]; exact hrx.2
                  have HTY : Hid ((wr.drew.drew.setCells gl (x * 33) (encP Py.1.1 Py.2)).there gl (y * 33) (encP Px.1.1 Px.2).toArray.size) := by show World.there _ _ _ _; rw [List.size_toArray, encP_length _ _ kx]; exact ht2
                  have HSX := hidden (HPSZ.out Px.1.1 Px.2 kx)
                  have HSY := hidden (HPSZ.out Py.1.1 Py.2 ky)
                  have HOX := hidden (encP_all Px.1.1 Px.2 vx1)
                  have HOY := hidden (encP_all Py.1.1 Py.2 vy1)
                  have HRG : Hid (wr.drew.drew.rangeAt gl (y * 33) (encP Py.1.1 Py.2) ∧ wr.drew.drew.rangeAt gl (x * 33) (encP Px.1.1 Px.2)) := ⟨rng_grow hry.1 d1, rng_grow hrx.1 d1⟩
                  have HIL2 : Hid (((its.set x Py).set y Px).length = n) := by show _ = _; rw [List.length_set]; exact hil2
                  clear hPx hPy ePx ePy hmx hmy vx1 vy1 kx ky hrx hry d1 o1 o2 o3 ht2 hperm hg2 hg3 hvals hbe hk32 hk32b hil2 hyl hxl HS d0 hil hip hiv hio hbw hHeld
                  obtain ⟨Kx, hKx⟩ : ∃ K, K = Px.1.1 := ⟨_, rfl⟩
                  obtain ⟨Ky, hKy⟩ : ∃ K, K = Py.1.1 := ⟨_, rfl⟩
                  obtain ⟨Vx, hVx⟩ : ∃ K, K = Px.2 := ⟨_, rfl⟩
                  obtain ⟨Vy, hVy⟩ : ∃ K, K = Py.2 := ⟨_, rfl⟩
                  obtain ⟨itz, hitz⟩ : ∃ i, i = (its.set x Py).set y Px := ⟨_, rfl⟩
                  rw [← hKx, ← hKy, ← hVx, ← hVy, ← hitz] at HEND
                  rw [← hitz] at HPM HIL2
                  rw [← hKy, ← hVy] at HTX HSY HOY HRG
                  rw [← hKx, ← hVx] at HSX HOX HRG
                  rw [← hKy, ← hVy, ← hKx, ← hVx] at HTY
                  clear hKx hKy hVx hVy hitz
                  go_wp2_with fail
                  refine wp_region_wrote (S := fun w' => w'.rangeAt gl (y * 33) (encP Ky Vy) ∧ w'.rangeAt gl (x * 33) (encP Kx Vx)) [13, 15] (by kernel_rfl) (HRG.out) (fun hHeld => ?_)
                  refine wpAnyW_take0 (i := 0) (v := .slice (some ⟨gl, 0, none⟩) n lc) rfl (by kernel_rfl) (by kernel_rfl) (by kernel_rfl) (by kernel_rfl) (fun _ _ _ h => h) (Or.inl ⟨by rfl, fun w hS => by go_simp⟩) (.inr hHeld) ?_
                  simp only [Act.put, List.getElem_toArray, List.getElem_cons_zero, List.setIfInBounds_toArray, List.set_cons_zero, List.set_cons_succ]
                  refine wpAnyW_take0 (i := 1) (v := .int .i64 x) rfl (by kernel_rfl) (by kernel_rfl) (by kernel_rfl) (by kernel_rfl) (fun _ _ _ h => h) (Or.inl ⟨by rfl, fun w hS => by go_simp⟩) (.inr hHeld) ?_
                  simp only [Act.put, List.getElem_toArray, List.getElem_cons_zero, List.getElem_cons_succ, List.setIfInBounds_toArray, List.set_cons_zero, List.set_cons_succ]
                  refine wpAnyW_take0 (i := 2) (v := .slice (some ⟨gl, 0, none⟩) n lc) rfl (by kernel_rfl) (by kernel_rfl) (by kernel_rfl) (by kernel_rfl) (fun _ _ _ h => h) (Or.inl ⟨by rfl, fun w hS => by go_simp⟩) (.inr hHeld) ?_
                  simp only [Act.put, List.getElem_toArray, List.getElem_cons_zero, List.getElem_cons_succ, List.setIfInBounds_toArray, List.set_cons_zero, List.set_cons_succ]
                  refine wpAnyW_take0 (i := 3) (v := .int .i64 y) rfl (by kernel_rfl) (by kernel_rfl) (by kernel_rfl) (by kernel_rfl) (fun _ _ _ h => h) (Or.inl ⟨by rfl, fun w hS => by go_simp⟩) (.inr hHeld) ?_
                  simp only [Act.put, List.getElem_toArray, List.getElem_cons_zero, List.getElem_cons_succ, List.setIfInBounds_toArray, List.set_cons_zero, List.set_cons_succ]
                  refine wpAnyW_take0 (i := 4) (v := .slice (some ⟨gl, 0, none⟩) n lc) rfl (by kernel_rfl) (by kernel_rfl) (by kernel_rfl) (by kernel_rfl) (fun _ _ _ h => h) (Or.inl ⟨by rfl, fun w hS => by go_simp⟩) (.inr hHeld) ?_
                  simp only [Act.put, List.getElem_toArray, List.getElem_cons_zero, List.getElem_cons_succ, List.setIfInBounds_toArray, List.set_cons_zero, List.set_cons_succ]
                  refine wpAnyW_take0 (i := 5) (v := .int .i64 y) rfl (by kernel_rfl) (by kernel_rfl) (by kernel_rfl) (by kernel_rfl) (fun _ _ _ h => h) (Or.inl ⟨by rfl, fun w hS => by go_simp⟩) (.inr hHeld) ?_
                  simp only [Act.put, List.getElem_toArray, List.getElem_cons_zero, List.getElem_cons_succ, List.setIfInBounds_toArray, List.set_cons_zero, List.set_cons_succ]
                  refine wpAnyW_take0 (i := 6) (v := .pointer (some ⟨gl, y * 33, none⟩)) rfl (by kernel_rfl) (by kernel_rfl) (by kernel_rfl) (by kernel_rfl) (fun _ _ _ h => h) (Or.inl ⟨by rfl, fun w hS => by go_simp⟩) (.inr hHeld) ?_
                  simp only [Act.put, List.getElem_toArray, List.getElem_cons_zero, List.getElem_cons_succ, List.setIfInBounds_toArray, List.set_cons_zero, List.set_cons_succ]
                  refine wpAnyW_take (i := 7) (v := .agg (encP Ky Vy).toArray) rfl (by kernel_rfl) (by kernel_rfl) (by kernel_rfl) (by kernel_rfl) (by kernel_rfl) (by kernel_rfl) (fun _ _ _ h => h) (yieldsIf_load_mid rfl 75 (.tmp 71) rfl gl (y * 33) rfl (encP Ky Vy) _ (fun w hS => hS.1) HUPa.out rfl HSY.out.1) hHeld ?_
                  simp only [Act.put, List.getElem_toArray, List.getElem_cons_zero, List.getElem_cons_succ, List.setIfInBounds_toArray, List.set_cons_zero, List.set_cons_succ]
                  refine wpAnyW_take0 (i := 8) (v := .slice (some ⟨gl, 0, none⟩) n lc) rfl (by kernel_rfl) (by kernel_rfl) (by kernel_rfl) (by kernel_rfl) (fun _ _ _ h => h) (Or.inl ⟨by rfl, fun w hS => by go_simp⟩) (.inr hHeld) ?_
                  simp only [Act.put, List.getElem_toArray, List.getElem_cons_zero, List.getElem_cons_succ, List.setIfInBounds_toArray, List.set_cons_zero, List.set_cons_succ]
                  refine wpAnyW_take0 (i := 9) (v := .int .i64 x) rfl (by kernel_rfl) (by kernel_rfl) (by kernel_rfl) (by kernel_rfl) (fun _ _ _ h => h) (Or.inl ⟨by rfl, fun w hS => by go_simp⟩) (.inr hHeld) ?_
                  simp only [Act.put, List.getElem_toArray, List.getElem_cons_zero, List.getElem_cons_succ, List.setIfInBounds_toArray, List.set_cons_zero, List.set_cons_succ]
                  refine wpAnyW_take0 (i := 10) (v := .pointer (some ⟨gl, x * 33, none⟩)) rfl (by kernel_rfl) (by kernel_rfl) (by kernel_rfl) (by kernel_rfl) (fun _ _ _ h => h) (Or.inl ⟨by rfl, fun w hS => by go_simp⟩) (.inr hHeld) ?_
                  simp only [Act.put, List.getElem_toArray, List.getElem_cons_zero, List.getElem_cons_succ, List.setIfInBounds_toArray, List.set_cons_zero, List.set_cons_succ]
                  refine wpAnyW_take (i := 11) (v := .agg (encP Kx Vx).toArray) rfl (by kernel_rfl) (by kernel_rfl) (by kernel_rfl) (by kernel_rfl) (by kernel_rfl) (by kernel_rfl) (fun _ _ _ h => h) (yieldsIf_load_mid rfl 75 (.tmp 75) rfl gl (x * 33) rfl (encP Kx Vx) _ (fun w hS => hS.2) HUPa.out rfl HSX.out.1) hHeld ?_
                  simp only [Act.put, List.getElem_toArray, List.getElem_cons_zero, List.getElem_cons_succ, List.setIfInBounds_toArray, List.set_cons_zero, List.set_cons_succ]
                  refine wpAnyW_take0 (i := 12) (v := .pointer (some ⟨gl, x * 33, none⟩)) rfl (by kernel_rfl) (by kernel_rfl) (by kernel_rfl) (by kernel_rfl) (fun _ _ _ h => h) (Or.inl ⟨by rfl, fun w hS => by go_simp⟩) (.inr hHeld) ?_
                  simp only [Act.put, List.getElem_toArray, List.getElem_cons_zero, List.getElem_cons_succ, List.setIfInBounds_toArray, List.set_cons_zero, List.set_cons_succ]
                  refine wpAnyW_one (i := 13) rfl (by kernel_rfl) (by kernel_rfl) (fun KQ hK => ?_)
                  refine step_stm _ rfl _ _ _ rfl gl (x * 33) (encP Ky Vy).toArray rfl rfl HTX.out HSY.out.2 HOY.out ?_
                  refine hK.out _ _ ?_
                  clear hK KQ
                  refine wpAnyW_take0 (i := 14) (v := .pointer (some ⟨gl, y * 33, none⟩)) rfl (by kernel_rfl) (by kernel_rfl) (by kernel_rfl) (by kernel_rfl) (fun _ _ _ h => h) (Or.inl ⟨by rfl, fun w hS => by go_simp⟩) (.inl (by kernel_rfl)) ?_
                  simp only [Act.put, List.getElem_toArray, List.getElem_cons_zero, List.getElem_cons_succ, List.setIfInBounds_toArray, List.set_cons_zero, List.set_cons_succ]
                  refine wpAnyW_one (i := 15) rfl (by kernel_rfl) (by kernel_rfl) (fun KQ hK => ?_)
                  refine step_stm _ rfl _ _ _ rfl gl (y * 33) (encP Kx Vx).toArray rfl rfl HTY.out HSX.out.2 HOX.out ?_
                  refine hK.out _ _ ?_
                  clear hK KQ
                  refine wpAnyW_done (by kernel_rfl) ?_
                  generalize (wr.drew.drew.setCells gl (x * 33) (encP Ky Vy)).setCells gl (y * 33) (encP Kx Vx) = x9' at *
                  clear HTX HTY HSX HSY HOX HOY HRG hHeld
                  go_wp2_with fail
                  exact ⟨⟨k + 1, itz, by omega, by omega, by go_num, HIL2, HPM, HEND.out.1, HEND.out.2.1, HEND.out.2.2⟩, by simp [intOf]; omega⟩
            · have z3 : ¬ (0 : Int) < (n : Int) := by omega
              clear h3
              go_wp2
              go_meet
              case rel => exact ⟨its, hil, hip, hiv, hio, hbw⟩
          · have z2 : ¬ (k : Int) < 100 := by omega
            clear h2
            go_wp2
            go_meet
            case rel => exact ⟨its, hil, hip, hiv, hio, hbw⟩
        · have z1 : ¬ (k : Int) < (nt : Int) := by omega
          clear h1
          go_wp2
          go_meet
          case rel => exact ⟨its, hil, hip, hiv, hio, hbw⟩
    case rest =>
      obtain ⟨its, J1, J2, J3, J4, J5⟩ := hcut
      have hpr : PrAt wc (.slice la n lc) (fun i => (its.getD i (e00, undef)).2) (its.map (·.1)) := prAt_own (by rw [J1.out]; exact J4.out) (fun p hp => (J3.out p hp).1) (fun p hp => (J3.out p hp).2.choose_spec.reads)
      replace KV := hidden (KV.out.step J5.out)
      replace KW := hidden (KW.out.step J5.out)
      replace KL := hidden (KL.out.step J5.out)
      replace K5 := hidden (K5.out.step J5.out)
      replace K7 := hidden (K7.out.step J5.out)
      have hpl : (its.map (·.1)).length ≤ 4096 := by rw [List.length_map, J1.out]; omega
      obtain ⟨E1, hE1⟩ : ∃ E1, E1 = errB (its.map (·.1)) := ⟨_, rfl⟩
      have hr1 : rtH (its.map (·.1)) = r0 := by rw [HR0.out]; exact rtH_perm J2.out hpl
      have hee : E1 = 0 ↔ E0 = 0 := by rw [hE1, HE0.out]; exact errB_perm J2.out hpl
      have HRo : Hid (Calls Tryd.prog 22 #[.slice la n lc] wc fun e w'' => e = .returned (.tuple #[.agg (B r0), .int .i64 E1]) ∧ Below wc.heap.size wc w'') := by
        have := HRt.out wc _ _ _ hpr hpl KL.out.now
        rwa [hr1, ← hE1] at this
      have hq0 : ∀ w, (Op.equalIn 10000 25 (.agg (B r0)) (.agg (B r0))).run Tryd.prog w = .ok true w := fun w => by have := hash_eq r0 r0 (by rw [HR0.out]; exact (rtH_len es).1) (by rw [HR0.out]; exact (rtH_len es).1) w; simpa using this
      have HRB : Hid (r0.length = 32 ∧ Bytes r0) := by rw [HR0.out]; exact rtH_len es
      clear hpr hpl hr1 hE1 J1 J2 J3 J4 J5 HRl HCp HRt
      by_cases hE : E0 = 0
      · have hE1 : E1 = 0 := hee.2 hE
        subst hE1
        have HEB : Hid (errB es = 0) := by rw [← HE0.out]; exact hE
        have HRR : Hid (r0 = rt 256 0 es) := by show _ = _; rw [HR0.out, rtH, if_pos HEB.out]
        clear hee
        subst hE
        go_wp2_with (first
          | ((with_reducible refine at_ald 13 ?_); refine wpList_al _ rfl _ rfl _ zero_hash ?_; intro x102 g13 hg13 hl102 bq102 q102; clear hl102)
          | ((with_reducible refine at_st 13 ?_); refine wpList_sto _ rfl _ _ _ rfl g13 _ (B r0) rfl rfl bq102 HF0.out.1 HF0.out.2 (B_one _) ?_; intro x103 by103 r103; have q103 := below_row q102 r103 hg13; replace KV := hidden (KV.out.step q103); replace KW := hidden (KW.out.step q103); replace KL := hidden (KL.out.step q103); replace K5 := hidden (K5.out.step q103); replace K7 := hidden (K7.out.step q103); have K13 := hidden by103.kp; clear q103 q102 r103 by103 bq102 hg13)
          | ((with_reducible refine at_ldd 90 7 ?_); refine wpList_ldg _ rfl _ _ rfl g7 _ rfl K7.out.now _ _ Tryd.underlying25 HF0.out.1 ?_)
          | ((with_reducible refine at_ldd 91 13 ?_); refine wpList_ldg _ rfl _ _ rfl g13 _ rfl K13.out.now _ _ Tryd.underlying25 HF0.out.1 ?_)
          | ((with_reducible refine at_ald 15 ?_); refine wpList_al _ rfl _ rfl _ sides_zero ?_; intro x200 g15 hg15 hl15 B15 b15; have HG15 := hidden hg15; have HB15 := hidden B15; have HBL15 := hidden b15; clear hg15 hl15 B15 b15)
          | (go_at_call 22; refine HRo.out.mono ?_; rintro e x101 ⟨rfl, q101⟩; replace KV := hidden (KV.out.step q101); replace KW := hidden (KW.out.step q101); replace KL := hidden (KL.out.step q101); replace K5 := hidden (K5.out.step q101); replace K7 := hidden (K7.out.step q101); clear q101))
        go_loopw [16, 17] (fun t i wr => ∃ (θ : Bool) (k m0 m1 : Nat) (it0 it1 : List (Ent × Value)) (a0 a1 : Option Addr) (c0 c1 : Nat), k ≤ n ∧ m0 ≤ 40 ∧ m1 ≤ 40 ∧ t = .bool θ ∧ i = .int .i64 k ∧ Hid (θ = thr es key k) ∧ Hid (it0.length = m0 ∧ it1.length = m1) ∧ Hid (it0.map (·.1) = sideOf (es.take k) 0 0 ∧ it1.map (·.1) = sideOf (es.take k) 0 1) ∧ Hid (∀ p, p ∈ it0 ∨ p ∈ it1 → Key p.1.1 ∧ Reads x103 p.2 p.1.2) ∧ Hid (wr.ownsRow x103.heap.size 75 33 (.slice a0 m0 c0) m0 (flatP it0)) ∧ Hid (wr.ownsRow x103.heap.size 75 33 (.slice a1 m1 c1) m1 (flatP it1)) ∧ Hid (Aprt (.slice a0 m0 c0) (.slice a1 m1 c1)) ∧ Hid (Blk wr g15 76 #[.slice a0 m0 c0, .slice a1 m1 c1]) ∧ Hid (Below x103.heap.size x103 wr)) (fun _ i _ => n - (intOf i).toNat)
        case atStart => exact ⟨false, 0, 0, 0, [], [], none, none, 0, 0, by omega, by omega, by omega, rfl, rfl, by show _ = _; simp [thr], ⟨rfl, rfl⟩, ⟨rfl, rfl⟩, fun p hp => by simp at hp, World.ownsRow_nil _ _ _ _, World.ownsRow_nil _ _ _ _, fun q hq => by simp [Value.ownBlock] at hq, HB15, HBL15⟩
        case round =>
          obtain ⟨θ, k, m0, m1, it0, it1, a0, a1, c0, c1, hk, hm0, hm1, rfl, rfl, hθ, hlen2, hmaps, hvals, ho0, ho1, hap, hblk, hbw⟩ := hrel
          by_cases hlt : k < n
          · have hlt' : k < es.length := by rw [HLEN.out]; exact hlt
            have z1 : (k : Int) < (n : Int) := by omega
            have z0 : (0 : Int) ≤ (k : Int) := by omega
            obtain ⟨g, off, hva, hcc, hkey1, hrd1⟩ : ∃ g off, va = some ⟨g, off, none⟩ ∧ x103.rangeAt g (off + k * 33) (encP (es.getD k e00).1 (V k)) ∧ Key (es.getD k e00).1 ∧ Reads x103 (V k) (es.getD k e00).2 := by
              obtain ⟨a', c', e, _, h2, h3⟩ := KV.out.now
              injection e with e1
              subst e1
              obtain ⟨g, off, e5, h6⟩ := h2 (by omega)
              exact ⟨g, off, e5, h6 k hlt', (h3 k hlt').1, (h3 k hlt').2⟩
            subst hva
            have hst0 := side_step es k 0 0 hlt'
            have hst1 := side_step es k 0 1 hlt'
            have hth := thr_step es key k hlt'
            obtain ⟨E, hE⟩ : ∃ E, E = es.getD k e00 := ⟨_, rfl⟩
            rw [← hE] at hcc hkey1 hrd1 hst0 hst1 hth
            have hkbi : kbi E.1 (0 : Nat) = kb E.1 0 := kbi_in _ _ (by omega)
            have hb2 := kb_two E.1 0
            have HBit : Hid (∀ w', Calls Tryd.prog 37 #[.agg (B E.1), .int .i64 0] w' fun e w'' => e = .returned (.int .i64 (kb E.1 0)) ∧ Below w'.heap.size w' w'') := fun w' => by
              have := bit_any E.1 0 w' hkey1
              have e0 : kbi E.1 0 = kb E.1 0 := hkbi
              rwa [e0] at this
            obtain ⟨β, hβ⟩ : ∃ β, β = kb E.1 0 := ⟨_, rfl⟩
            rw [hkbi, ← hβ] at hst0 hst1
            rw [← hβ] at HBit hb2
            obtain ⟨δ, hδ⟩ : ∃ δ, δ = decide (E.1 = key) := ⟨_, rfl⟩
            rw [← hδ] at hth
            have hqk : ∀ w, (Op.equalIn 10000 24 (.agg (B E.1)) (.agg (B key))).run Tryd.prog w = .ok δ w := fun w => by rw [hδ]; exact path_eq E.1 key hkey1.1 HKEY.out.1 w
            have HLK := hidden (path_ln E.1 hkey1.1)
            have HKL := hidden (path_ln key HKEY.out.1)
            have HU1 := hidden (reads_one hrd1)
            have HK1 := hidden hkey1
            have HSZ := hidden (HPSZ.out E.1 (V k) hkey1.1)
            obtain ⟨u, hu⟩ : ∃ u, u = V k := ⟨_, rfl⟩
            have hrd2 := hrd1
            rw [← hu] at HU1 HSZ hcc hrd2
            have HRD := hidden hrd2
            have HCC : Hid (∀ w', Below x103.heap.size x103 w' → w'.rangeAt g (off + k * 33) (encP E.1 u)) := fun w' q => rng_grow hcc q
            have HK5 : Hid (∀ w', Below x103.heap.size x103 w' → Blk w' g5 24 (B key)) := fun w' q => K5.out w' q
            have HTH := hidden hth
            obtain ⟨K, hK⟩ : ∃ K, K = E.1 := ⟨_, rfl⟩
            have HEK := hidden hK
            rw [← hK] at HBit hqk HLK HSZ HCC HK1
            clear hkbi hβ hδ hkey1 hrd1 hrd2 hu hcc hth hE hlt' hK
            rcases hb2 with hb2 | hb2
            · as_aux_lemma =>
                subst hb2
                have e1 : ((0 : Int) == 0) = true := by simp
                have e2 : ((0 : Int) == 1) = false := by simp
                rw [e1, if_pos rfl] at hst0
                rw [e2, if_neg (by simp), List.append_nil] at hst1
                have HMP : Hid ((it0 ++ [(E, u)]).map (·.1) = sideOf (es.take (k + 1)) 0 0 ∧ (it1).map (·.1) = sideOf (es.take (k + 1)) 0 1) := ⟨by rw [List.map_append, hmaps.out.1, hst0]; rfl, by rw [hmaps.out.2, hst1]⟩
                have HLN : Hid ((it0 ++ [(E, u)]).length = m0 + 1 ∧ (it1).length = m1) := ⟨by rw [List.length_append, hlen2.out.1]; rfl, hlen2.out.2⟩
                have HLE : Hid (m0 + 1 ≤ 40) := by
                  show _ ≤ _
                  have h1 := congrArg List.length HMP.out.1
                  rw [List.length_map, HLN.out.1] at h1
                  rw [h1]
                  exact Nat.le_trans (List.length_filter_le _ _) (by rw [List.length_take]; omega)
                have HVL : Hid (∀ p, p ∈ it0 ++ [(E, u)] ∨ p ∈ it1 → Key p.1.1 ∧ Reads x103 p.2 p.1.2) := by
                  intro p hp
                  have hx : p ∈ it0 ∨ p ∈ it1 ∨ p = (E, u) := by
                    rcases hp with hp | hp
                    · rcases List.mem_append.1 hp with hp | hp; exact .inl hp; exact .inr (.inr (by simpa using hp))
                    · exact .inr (.inl hp)
                  rcases hx with hx | hx | rfl
                  · exact hvals.out p (.inl hx)
                  · exact hvals.out p (.inr hx)
                  · exact ⟨by rw [← HEK.out]; exact HK1.out, HRD.out⟩
                have hand : bits .and .i64 0 1 = 0 := by rfl
                clear e1 e2 hst0 hst1
                go_wp2_with (first
                  | ((with_reducible refine at_ldd 109 108 ?_); refine wpList_ldk _ rfl _ rfl g (off + k * 33) K rfl (rng_key (HCC.out _ hbw.out)) HK1.out.1 ?_)
                  | (go_at_call 37; refine (HBit.out _).mono ?_; rintro e x1 ⟨rfl, q1⟩))
                have d0 : Below wr.heap.size wr x1.drew := grow_trans q1 (Below.refl _ _).drew
                have HS : Hid (∀ w', Below wr.heap.size wr w' → Blk w' g15 76 #[.slice a0 m0 c0, .slice a1 m1 c1] ∧ w'.rangeAt g (off + k * 33) (encP K u)) := fun w' q => ⟨hblk.out.grow q, HCC.out _ (grow_trans hbw.out q)⟩
                refine wp_region_last (S := fun w' => Blk w' g15 76 #[.slice a0 m0 c0, .slice a1 m1 c1] ∧ w'.rangeAt g (off + k * 33) (encP K u)) 11 (by kernel_rfl) (HS.out _ d0) (fun hHeld => ?_)
                refine wpAnyL_take (i := 0) (v := .int .i64 0) rfl (by kernel_rfl) (by kernel_rfl) (by kernel_rfl) (by kernel_rfl) (by kernel_rfl) (fun _ _ _ h => h) (Or.inl ⟨by rfl, fun w hS => by go_simp⟩) hHeld ?_
                simp only [Act.put, List.getElem_toArray, List.getElem_cons_zero, List.setIfInBounds_toArray, List.set_cons_zero, List.set_cons_succ]
                refine wpAnyL_take (i := 1) (v := .int .i64 0) rfl (by kernel_rfl) (by kernel_rfl) (by kernel_rfl) (by kernel_rfl) (by kernel_rfl) (fun _ _ _ h => h) (Or.inl ⟨by rfl, fun w hS => by go_simp⟩) hHeld ?_
                simp only [Act.put, List.getElem_toArray, List.getElem_cons_zero, List.getElem_cons_succ, List.setIfInBounds_toArray, List.set_cons_zero, List.set_cons_succ]
                refine wpAnyL_take (i := 2) (v := .pointer (some ⟨g15, 0, none⟩)) rfl (by kernel_rfl) (by kernel_rfl) (by kernel_rfl) (by kernel_rfl) (by kernel_rfl) (fun _ _ _ h => h) (Or.inl ⟨by rfl, fun w hS => by go_simp⟩) hHeld ?_
                simp only [Act.put, List.getElem_toArray, List.getElem_cons_zero, List.getElem_cons_succ, List.setIfInBounds_toArray, List.set_cons_zero, List.set_cons_succ]
                refine wpAnyL_take (i := 3) (v := .slice a0 m0 c0) rfl (by kernel_rfl) (by kernel_rfl) (by kernel_rfl) (by kernel_rfl) (by kernel_rfl) (fun _ _ _ h => h) (Or.inl ⟨by rfl, fun w hS => by (have s1 := sd0 hS.1; go_simp)⟩) hHeld ?_
                simp only [Act.put, List.getElem_toArray, List.getElem_cons_zero, List.getElem_cons_succ, List.setIfInBounds_toArray, List.set_cons_zero, List.set_cons_succ]
                refine wpAnyL_take (i := 4) (v := .slice (some ⟨g, off, none⟩) n vc) rfl (by kernel_rfl) (by kernel_rfl) (by kernel_rfl) (by kernel_rfl) (by kernel_rfl) (fun _ _ _ h => h) (Or.inl ⟨by rfl, fun w hS => by go_simp⟩) hHeld ?_
                simp only [Act.put, List.getElem_toArray, List.getElem_cons_zero, List.getElem_cons_succ, List.setIfInBounds_toArray, List.set_cons_zero, List.set_cons_succ]
                refine wpAnyL_take (i := 5) (v := .int .i64 k) rfl (by kernel_rfl) (by kernel_rfl) (by kernel_rfl) (by kernel_rfl) (by kernel_rfl) (fun _ _ _ h => h) (Or.inl ⟨by rfl, fun w hS => by go_simp⟩) hHeld ?_
                simp only [Act.put, List.getElem_toArray, List.getElem_cons_zero, List.getElem_cons_succ, List.setIfInBounds_toArray, List.set_cons_zero, List.set_cons_succ]
                refine wpAnyL_take (i := 6) (v := .pointer (some ⟨g, off + k * 33, none⟩)) rfl (by kernel_rfl) (by kernel_rfl) (by kernel_rfl) (by kernel_rfl) (by kernel_rfl) (fun _ _ _ h => h) (Or.inl ⟨by rfl, fun w hS => by go_simp⟩) hHeld ?_
                simp only [Act.put, List.getElem_toArray, List.getElem_cons_zero, List.getElem_cons_succ, List.setIfInBounds_toArray, List.set_cons_zero, List.set_cons_succ]
                refine wpAnyL_take (i := 7) (v := .agg (encP K u).toArray) rfl (by kernel_rfl) (by kernel_rfl) (by kernel_rfl) (by kernel_rfl) (by kernel_rfl) (fun _ _ _ h => h) (yieldsIf_load_mid rfl 75 (.tmp 118) rfl g (off + k * 33) rfl (encP K u) _ (fun w hS => hS.2) HUPa.out rfl HSZ.out.1) hHeld ?_
                simp only [Act.put, List.getElem_toArray, List.getElem_cons_zero, List.getElem_cons_succ, List.setIfInBounds_toArray, List.set_cons_zero, List.set_cons_succ]
                refine wpAnyL_one (i := 8) rfl (by kernel_rfl) (fun KQ hK => ?_)
                have oA := (ownsP_below ho0.out d0).alloc (.cells (encP K u).toArray 75)
                have pA := (ownsP_below ho1.out d0).alloc (.cells (encP K u).toArray 75)
                have dA := grow_trans d0 (grow_alloc x1.drew (.cells (encP K u).toArray 75))
                refine step_bsp _ rfl _ rfl K u rfl HK1.out.1 ?_
                refine hK.out _ _ (HS.out _ dA) (fun hHeld => ?_)
                clear hK KQ
                refine wpAnyL_one (i := 9) rfl (by kernel_rfl) (fun KQ hK => ?_)
                refine step_appP _ rfl _ _ rfl x103.heap.size _ m0 (flatP it0) oA rfl x1.drew.heap.size K u rfl (Blk.new _ _ _) HK1.out.1 HU1.out (by omega) (Nat.le_trans (grow_trans hbw.out dA).size (Nat.le_refl _)) ?_
                intro v5 x5 ho5 hg5 hwh5
                have hb5 := below_own (grow_trans hbw.out dA) oA (Nat.le_refl _) hg5
                have hS5 := (HS.out _ dA).1.keptO hg5 (Ne.symm (ownS_ne oA (HS.out _ dA).1))
                refine hK.out _ _ (⟨hS5, HCC.out _ hb5⟩) (fun hHeld => ?_)
                clear hK KQ
                refine wpAnyL_take (i := 10) (v := .pointer (some ⟨g15, 0, none⟩)) rfl (by kernel_rfl) (by kernel_rfl) (by kernel_rfl) (by kernel_rfl) (by kernel_rfl) (fun _ _ _ h => h) (Or.inl ⟨by rfl, fun w hS => by go_simp⟩) hHeld ?_
                simp only [Act.put, List.getElem_toArray, List.getElem_cons_zero, List.getElem_cons_succ, List.setIfInBounds_toArray, List.set_cons_zero, List.set_cons_succ]
                have hcell := sd0 hS5
                have hfr := hS5.frozen 0
                obtain ⟨a5, c5, rfl⟩ : ∃ a5 c5, v5 = .slice a5 (m0 + 1) c5 := by
                  rcases ho5.2 with ⟨e, e2⟩ | ⟨g', cap', cur, e, _⟩
                  · omega
                  · exact ⟨_, _, e⟩
                refine wpAnyL_last rfl (by kernel_rfl) (by kernel_rfl) (fun KQ hK => ?_)
                go_simp
              
                refine hK.out _ _ ?_
                clear hK KQ
                have hap5 : Aprt (.slice a5 (m0 + 1) c5) (.slice a1 m1 c1) := Aprt.step hap.out pA hwh5
                have po5 := pA.kept hg5 (Aprt.ne hap.out)
                have gr6 := grown_setCell x5 g15 0 (.slice a5 (m0 + 1) c5)
                have hS6 := sd0_set hS5 (.slice a5 (m0 + 1) c5)
                have ho6 := ho5.kept gr6 (.inr (ownS_ne ho5 hS5))
                have po6 := po5.kept gr6 (.inr (ownS_ne po5 hS5))
                have hb6 := below_row hb5 gr6 HG15.out
                have eEK : encP K u = encP ((E, u) : Ent × Value).1.1 ((E, u) : Ent × Value).2 := by rw [HEK.out]
                rw [eEK, ← flatP_snoc it0 (E, u)] at ho6
                have hap6 := hap5
                have HF6 := hidden (And.intro ho6 (And.intro po6 (And.intro (hap6) (And.intro hS6 hb6))))
                generalize x5.setCell ⟨g15, 0, none⟩ (.slice a5 (m0 + 1) c5) = x6 at *
                clear hap5 po5 gr6 hS6 ho6 po6 hb6 hS5 hb5 ho5 hg5 hwh5 oA pA dA hHeld HS hcell hfr hap6 eEK
                cases θ with
                | true =>
                  as_aux_lemma =>
                    go_wp2_with fail
                    have e0 : Below x6.heap.size x6 x6.drew := (Below.refl _ _).drew
                    have HS2 : Hid (∀ w', Below x6.heap.size x6 w' → w'.rangeAt g (off + k * 33) (B K).toList ∧ w'.rangeAt g5 0 (B key).toList) := fun w' q => ⟨rng_key (HCC.out _ (grow_trans HF6.out.2.2.2.2 q)), (HK5.out _ (grow_trans HF6.out.2.2.2.2 q)).range⟩
                    refine wp_region_last (S := fun w' => w'.rangeAt g (off + k * 33) (B K).toList ∧ w'.rangeAt g5 0 (B key).toList) 10 (by kernel_rfl) (HS2.out _ e0) (fun hHeld => ?_)
                    refine wpAnyL_take (i := 0) (v := .bool true) rfl (by kernel_rfl) (by kernel_rfl) (by kernel_rfl) (by kernel_rfl) (by kernel_rfl) (fun _ _ _ h => h) (Or.inl ⟨by rfl, fun w hS => by go_simp⟩) hHeld ?_
                    simp only [Act.put, List.getElem_toArray, List.getElem_cons_zero, List.setIfInBounds_toArray, List.set_cons_zero, List.set_cons_succ]
                    refine wpAnyL_take (i := 1) (v := .bool true) rfl (by kernel_rfl) (by kernel_rfl) (by kernel_rfl) (by kernel_rfl) (by kernel_rfl) (fun _ _ _ h => h) (Or.inl ⟨by rfl, fun w hS => by go_simp⟩) hHeld ?_
                    simp only [Act.put, List.getElem_toArray, List.getElem_cons_zero, List.getElem_cons_succ, List.setIfInBounds_toArray, List.set_cons_zero, List.set_cons_succ]
                    refine wpAnyL_take (i := 2) (v := undef) rfl (by kernel_rfl) (by kernel_rfl) (by kernel_rfl) (by kernel_rfl) (by kernel_rfl) (fun _ _ _ h => h) (Or.inr ⟨by rfl, rfl⟩) hHeld ?_
                    simp only [Act.put, List.getElem_toArray, List.getElem_cons_zero, List.getElem_cons_succ, List.setIfInBounds_toArray, List.set_cons_zero, List.set_cons_succ]
                    refine wpAnyL_take (i := 3) (v := undef) rfl (by kernel_rfl) (by kernel_rfl) (by kernel_rfl) (by kernel_rfl) (by kernel_rfl) (fun _ _ _ h => h) (Or.inr ⟨by rfl, rfl⟩) hHeld ?_
                    simp only [Act.put, List.getElem_toArray, List.getElem_cons_zero, List.getElem_cons_succ, List.setIfInBounds_toArray, List.set_cons_zero, List.set_cons_succ]
                    refine wpAnyL_take (i := 4) (v := undef) rfl (by kernel_rfl) (by kernel_rfl) (by kernel_rfl) (by kernel_rfl) (by kernel_rfl) (fun _ _ _ h => h) (Or.inr ⟨by rfl, rfl⟩) hHeld ?_
                    simp only [Act.put, List.getElem_toArray, List.getElem_cons_zero, List.getElem_cons_succ, List.setIfInBounds_toArray, List.set_cons_zero, List.set_cons_succ]
                    refine wpAnyL_take (i := 5) (v := undef) rfl (by kernel_rfl) (by kernel_rfl) (by kernel_rfl) (by kernel_rfl) (by kernel_rfl) (fun _ _ _ h => h) (Or.inr ⟨by rfl, rfl⟩) hHeld ?_
                    simp only [Act.put, List.getElem_toArray, List.getElem_cons_zero, List.getElem_cons_succ, List.setIfInBounds_toArray, List.set_cons_zero, List.set_cons_succ]
                    refine wpAnyL_take (i := 6) (v := undef) rfl (by kernel_rfl) (by kernel_rfl) (by kernel_rfl) (by kernel_rfl) (by kernel_rfl) (fun _ _ _ h => h) (Or.inr ⟨by rfl, rfl⟩) hHeld ?_
                    simp only [Act.put, List.getElem_toArray, List.getElem_cons_zero, List.getElem_cons_succ, List.setIfInBounds_toArray, List.set_cons_zero, List.set_cons_succ]
                    refine wpAnyL_take (i := 7) (v := undef) rfl (by kernel_rfl) (by kernel_rfl) (by kernel_rfl) (by kernel_rfl) (by kernel_rfl) (fun _ _ _ h => h) (Or.inr ⟨by rfl, rfl⟩) hHeld ?_
                    simp only [Act.put, List.getElem_toArray, List.getElem_cons_zero, List.getElem_cons_succ, List.setIfInBounds_toArray, List.set_cons_zero, List.set_cons_succ]
                    refine wpAnyL_take (i := 8) (v := undef) rfl (by kernel_rfl) (by kernel_rfl) (by kernel_rfl) (by kernel_rfl) (by kernel_rfl) (fun _ _ _ h => h) (Or.inr ⟨by rfl, rfl⟩) hHeld ?_
                    simp only [Act.put, List.getElem_toArray, List.getElem_cons_zero, List.getElem_cons_succ, List.setIfInBounds_toArray, List.set_cons_zero, List.set_cons_succ]
                    refine wpAnyL_take (i := 9) (v := .bool true) rfl (by kernel_rfl) (by kernel_rfl) (by kernel_rfl) (by kernel_rfl) (by kernel_rfl) (fun _ _ _ h => h) (Or.inl ⟨by rfl, fun w hS => by go_simp⟩) hHeld ?_
                    simp only [Act.put, List.getElem_toArray, List.getElem_cons_zero, List.getElem_cons_succ, List.setIfInBounds_toArray, List.set_cons_zero, List.set_cons_succ]
                    refine wpAnyL_last rfl (by kernel_rfl) (by kernel_rfl) (fun KQ hK => ?_)
                    go_simp
                
                    refine hK.out _ _ ?_
                    clear hK KQ
                    go_wp2_with fail
                    exact ⟨⟨true, k + 1, m0 + 1, m1, it0 ++ [(E, u)], it1, a5, a1, c5, c1, by omega, by have := HLE.out; omega, by have := HLE.out; omega, rfl, by go_num, by show _ = _; rw [HTH.out, ← hθ.out]; rfl, HLN.out, HMP.out, HVL.out, ownsP_below HF6.out.1 e0, ownsP_below HF6.out.2.1 e0, HF6.out.2.2.1, HF6.out.2.2.2.1.grow e0, grow_trans HF6.out.2.2.2.2 e0⟩, by simp [intOf]; omega⟩
                | false =>
                  as_aux_lemma =>
                    go_wp2_with fail
                    have e0 : Below x6.heap.size x6 x6.drew := (Below.refl _ _).drew
                    have HS2 : Hid (∀ w', Below x6.heap.size x6 w' → w'.rangeAt g (off + k * 33) (B K).toList ∧ w'.rangeAt g5 0 (B key).toList) := fun w' q => ⟨rng_key (HCC.out _ (grow_trans HF6.out.2.2.2.2 q)), (HK5.out _ (grow_trans HF6.out.2.2.2.2 q)).range⟩
                    refine wp_region_last (S := fun w' => w'.rangeAt g (off + k * 33) (B K).toList ∧ w'.rangeAt g5 0 (B key).toList) 10 (by kernel_rfl) (HS2.out _ e0) (fun hHeld => ?_)
                    refine wpAnyL_take (i := 0) (v := .bool false) rfl (by kernel_rfl) (by kernel_rfl) (by kernel_rfl) (by kernel_rfl) (by kernel_rfl) (fun _ _ _ h => h) (Or.inl ⟨by rfl, fun w hS => by go_simp⟩) hHeld ?_
                    simp only [Act.put, List.getElem_toArray, List.getElem_cons_zero, List.setIfInBounds_toArray, List.set_cons_zero, List.set_cons_succ]
                    refine wpAnyL_take (i := 1) (v := .bool false) rfl (by kernel_rfl) (by kernel_rfl) (by kernel_rfl) (by kernel_rfl) (by kernel_rfl) (fun _ _ _ h => h) (Or.inl ⟨by rfl, fun w hS => by go_simp⟩) hHeld ?_
                    simp only [Act.put, List.getElem_toArray, List.getElem_cons_zero, List.getElem_cons_succ, List.setIfInBounds_toArray, List.set_cons_zero, List.set_cons_succ]
                    refine wpAnyL_take (i := 2) (v := .slice (some ⟨g, off, none⟩) n vc) rfl (by kernel_rfl) (by kernel_rfl) (by kernel_rfl) (by kernel_rfl) (by kernel_rfl) (fun _ _ _ h => h) (Or.inl ⟨by rfl, fun w hS => by go_simp⟩) hHeld ?_
                    simp only [Act.put, List.getElem_toArray, List.getElem_cons_zero, List.getElem_cons_succ, List.setIfInBounds_toArray, List.set_cons_zero, List.set_cons_succ]
                    refine wpAnyL_take (i := 3) (v := .int .i64 k) rfl (by kernel_rfl) (by kernel_rfl) (by kernel_rfl) (by kernel_rfl) (by kernel_rfl) (fun _ _ _ h => h) (Or.inl ⟨by rfl, fun w hS => by go_simp⟩) hHeld ?_
                    simp only [Act.put, List.getElem_toArray, List.getElem_cons_zero, List.getElem_cons_succ, List.setIfInBounds_toArray, List.set_cons_zero, List.set_cons_succ]
                    refine wpAnyL_take (i := 4) (v := .pointer (some ⟨g, off + k * 33, none⟩)) rfl (by kernel_rfl) (by kernel_rfl) (by kernel_rfl) (by kernel_rfl) (by kernel_rfl) (fun _ _ _ h => h) (Or.inl ⟨by rfl, fun w hS => by go_simp⟩) hHeld ?_
                    simp only [Act.put, List.getElem_toArray, List.getElem_cons_zero, List.getElem_cons_succ, List.setIfInBounds_toArray, List.set_cons_zero, List.set_cons_succ]
                    refine wpAnyL_take (i := 5) (v := .pointer (some ⟨g, off + k * 33, none⟩)) rfl (by kernel_rfl) (by kernel_rfl) (by kernel_rfl) (by kernel_rfl) (by kernel_rfl) (fun _ _ _ h => h) (Or.inl ⟨by rfl, fun w hS => by go_simp⟩) hHeld ?_
                    simp only [Act.put, List.getElem_toArray, List.getElem_cons_zero, List.getElem_cons_succ, List.setIfInBounds_toArray, List.set_cons_zero, List.set_cons_succ]
                    refine wpAnyL_take (i := 6) (v := .agg (B K)) rfl (by kernel_rfl) (by kernel_rfl) (by kernel_rfl) (by kernel_rfl) (by kernel_rfl) (fun _ _ _ h => h) (yieldsIf_load_mid rfl 24 (.tmp 128) rfl g (off + k * 33) rfl (B K).toList _ (fun w hS => hS.1) Tryd.underlying24 rfl HLK.out) hHeld ?_
                    simp only [Act.put, List.getElem_toArray, List.getElem_cons_zero, List.getElem_cons_succ, List.setIfInBounds_toArray, List.set_cons_zero, List.set_cons_succ]
                    refine wpAnyL_take (i := 7) (v := .agg (B key)) rfl (by kernel_rfl) (by kernel_rfl) (by kernel_rfl) (by kernel_rfl) (by kernel_rfl) (fun _ _ _ h => h) (yieldsIf_load_mid rfl 24 (.tmp 5) rfl g5 (0) rfl (B key).toList _ (fun w hS => hS.2) Tryd.underlying24 rfl HKL.out) hHeld ?_
                    simp only [Act.put, List.getElem_toArray, List.getElem_cons_zero, List.getElem_cons_succ, List.setIfInBounds_toArray, List.set_cons_zero, List.set_cons_succ]
                    refine wpAnyL_take (i := 8) (v := .bool δ) rfl (by kernel_rfl) (by kernel_rfl) (by kernel_rfl) (by kernel_rfl) (by kernel_rfl) (fun _ _ _ h => h) (Or.inl ⟨by rfl, fun w hS => by go_simp⟩) hHeld ?_
                    simp only [Act.put, List.getElem_toArray, List.getElem_cons_zero, List.getElem_cons_succ, List.setIfInBounds_toArray, List.set_cons_zero, List.set_cons_succ]
                    refine wpAnyL_take (i := 9) (v := .bool δ) rfl (by kernel_rfl) (by kernel_rfl) (by kernel_rfl) (by kernel_rfl) (by kernel_rfl) (fun _ _ _ h => h) (Or.inl ⟨by rfl, fun w hS => by go_simp⟩) hHeld ?_
                    simp only [Act.put, List.getElem_toArray, List.getElem_cons_zero, List.getElem_cons_succ, List.setIfInBounds_toArray, List.set_cons_zero, List.set_cons_succ]
                    refine wpAnyL_last rfl (by kernel_rfl) (by kernel_rfl) (fun KQ hK => ?_)
                    go_simp
                
                    refine hK.out _ _ ?_
                    clear hK KQ
                    go_wp2_with fail
                    exact ⟨⟨δ, k + 1, m0 + 1, m1, it0 ++ [(E, u)], it1, a5, a1, c5, c1, by omega, by have := HLE.out; omega, by have := HLE.out; omega, rfl, by go_num, by show _ = _; rw [HTH.out, ← hθ.out]; rfl, HLN.out, HMP.out, HVL.out, ownsP_below HF6.out.1 e0, ownsP_below HF6.out.2.1 e0, HF6.out.2.2.1, HF6.out.2.2.2.1.grow e0, grow_trans HF6.out.2.2.2.2 e0⟩, by simp [intOf]; omega⟩
            · as_aux_lemma =>
                subst hb2
                have e1 : ((1 : Int) == 1) = true := by simp
                have e2 : ((1 : Int) == 0) = false := by simp
                rw [e1, if_pos rfl] at hst1
                rw [e2, if_neg (by simp), List.append_nil] at hst0
                have HMP : Hid ((it0).map (·.1) = sideOf (es.take (k + 1)) 0 0 ∧ (it1 ++ [(E, u)]).map (·.1) = sideOf (es.take (k + 1)) 0 1) := ⟨by rw [hmaps.out.1, hst0], by rw [List.map_append, hmaps.out.2, hst1]; rfl⟩
                have HLN : Hid ((it0).length = m0 ∧ (it1 ++ [(E, u)]).length = m1 + 1) := ⟨hlen2.out.1, by rw [List.length_append, hlen2.out.2]; rfl⟩
                have HLE : Hid (m1 + 1 ≤ 40) := by
                  show _ ≤ _
                  have h1 := congrArg List.length HMP.out.2
                  rw [List.length_map, HLN.out.2] at h1
                  rw [h1]
                  exact Nat.le_trans (List.length_filter_le _ _) (by rw [List.length_take]; omega)
                have HVL : Hid (∀ p, p ∈ it0 ∨ p ∈ it1 ++ [(E, u)] → Key p.1.1 ∧ Reads x103 p.2 p.1.2) := by
                  intro p hp
                  have hx : p ∈ it0 ∨ p ∈ it1 ∨ p = (E, u) := by
                    rcases hp with hp | hp
                    · exact .inl hp
                    · rcases List.mem_append.1 hp with hp | hp; exact .inr (.inl hp); exact .inr (.inr (by simpa using hp))
                  rcases hx with hx | hx | rfl
                  · exact hvals.out p (.inl hx)
                  · exact hvals.out p (.inr hx)
                  · exact ⟨by rw [← HEK.out]; exact HK1.out, HRD.out⟩
                have hand : bits .and .i64 1 1 = 1 := by rfl
                clear e1 e2 hst1 hst0
                go_wp2_with (first
                  | ((with_reducible refine at_ldd 109 108 ?_); refine wpList_ldk _ rfl _ rfl g (off + k * 33) K rfl (rng_key (HCC.out _ hbw.out)) HK1.out.1 ?_)
                  | (go_at_call 37; refine (HBit.out _).mono ?_; rintro e x1 ⟨rfl, q1⟩))
                have d0 : Below wr.heap.size wr x1.drew := grow_trans q1 (Below.refl _ _).drew
                have HS : Hid (∀ w', Below wr.heap.size wr w' → Blk w' g15 76 #[.slice a0 m0 c0, .slice a1 m1 c1] ∧ w'.rangeAt g (off + k * 33) (encP K u)) := fun w' q => ⟨hblk.out.grow q, HCC.out _ (grow_trans hbw.out q)⟩
                refine wp_region_last (S := fun w' => Blk w' g15 76 #[.slice a0 m0 c0, .slice a1 m1 c1] ∧ w'.rangeAt g (off + k * 33) (encP K u)) 11 (by kernel_rfl) (HS.out _ d0) (fun hHeld => ?_)
                refine wpAnyL_take (i := 0) (v := .int .i64 1) rfl (by kernel_rfl) (by kernel_rfl) (by kernel_rfl) (by kernel_rfl) (by kernel_rfl) (fun _ _ _ h => h) (Or.inl ⟨by rfl, fun w hS => by go_simp⟩) hHeld ?_
                simp only [Act.put, List.getElem_toArray, List.getElem_cons_zero, List.setIfInBounds_toArray, List.set_cons_zero, List.set_cons_succ]
                refine wpAnyL_take (i := 1) (v := .int .i64 1) rfl (by kernel_rfl) (by kernel_rfl) (by kernel_rfl) (by kernel_rfl) (by kernel_rfl) (fun _ _ _ h => h) (Or.inl ⟨by rfl, fun w hS => by go_simp⟩) hHeld ?_
                simp only [Act.put, List.getElem_toArray, List.getElem_cons_zero, List.getElem_cons_succ, List.setIfInBounds_toArray, List.set_cons_zero, List.set_cons_succ]
                refine wpAnyL_take (i := 2) (v := .pointer (some ⟨g15, 1, none⟩)) rfl (by kernel_rfl) (by kernel_rfl) (by kernel_rfl) (by kernel_rfl) (by kernel_rfl) (fun _ _ _ h => h) (Or.inl ⟨by rfl, fun w hS => by go_simp⟩) hHeld ?_
                simp only [Act.put, List.getElem_toArray, List.getElem_cons_zero, List.getElem_cons_succ, List.setIfInBounds_toArray, List.set_cons_zero, List.set_cons_succ]
                refine wpAnyL_take (i := 3) (v := .slice a1 m1 c1) rfl (by kernel_rfl) (by kernel_rfl) (by kernel_rfl) (by kernel_rfl) (by kernel_rfl) (fun _ _ _ h => h) (Or.inl ⟨by rfl, fun w hS => by (have s1 := sd1 hS.1; go_simp)⟩) hHeld ?_
                simp only [Act.put, List.getElem_toArray, List.getElem_cons_zero, List.getElem_cons_succ, List.setIfInBounds_toArray, List.set_cons_zero, List.set_cons_succ]
                refine wpAnyL_take (i := 4) (v := .slice (some ⟨g, off, none⟩) n vc) rfl (by kernel_rfl) (by kernel_rfl) (by kernel_rfl) (by kernel_rfl) (by kernel_rfl) (fun _ _ _ h => h) (Or.inl ⟨by rfl, fun w hS => by go_simp⟩) hHeld ?_
                simp only [Act.put, List.getElem_toArray, List.getElem_cons_zero, List.getElem_cons_succ, List.setIfInBounds_toArray, List.set_cons_zero, List.set_cons_succ]
                refine wpAnyL_take (i := 5) (v := .int .i64 k) rfl (by kernel_rfl) (by kernel_rfl) (by kernel_rfl) (by kernel_rfl) (by kernel_rfl) (fun _ _ _ h => h) (Or.inl ⟨by rfl, fun w hS => by go_simp⟩) hHeld ?_
                simp only [Act.put, List.getElem_toArray, List.getElem_cons_zero, List.getElem_cons_succ, List.setIfInBounds_toArray, List.set_cons_zero, List.set_cons_succ]
                refine wpAnyL_take (i := 6) (v := .pointer (some ⟨g, off + k * 33, none⟩)) rfl (by kernel_rfl) (by kernel_rfl) (by kernel_rfl) (by kernel_rfl) (by kernel_rfl) (fun _ _ _ h => h) (Or.inl ⟨by rfl, fun w hS => by go_simp⟩) hHeld ?_
                simp only [Act.put, List.getElem_toArray, List.getElem_cons_zero, List.getElem_cons_succ, List.setIfInBounds_toArray, List.set_cons_zero, List.set_cons_succ]
                refine wpAnyL_take (i := 7) (v := .agg (encP K u).toArray) rfl (by kernel_rfl) (by kernel_rfl) (by kernel_rfl) (by kernel_rfl) (by kernel_rfl) (fun _ _ _ h => h) (yieldsIf_load_mid rfl 75 (.tmp 118) rfl g (off + k * 33) rfl (encP K u) _ (fun w hS => hS.2) HUPa.out rfl HSZ.out.1) hHeld ?_
                simp only [Act.put, List.getElem_toArray, List.getElem_cons_zero, List.getElem_cons_succ, List.setIfInBounds_toArray, List.set_cons_zero, List.set_cons_succ]
                refine wpAnyL_one (i := 8) rfl (by kernel_rfl) (fun KQ hK => ?_)
                have oA := (ownsP_below ho1.out d0).alloc (.cells (encP K u).toArray 75)
                have pA := (ownsP_below ho0.out d0).alloc (.cells (encP K u).toArray 75)
                have dA := grow_trans d0 (grow_alloc x1.drew (.cells (encP K u).toArray 75))
                refine step_bsp _ rfl _ rfl K u rfl HK1.out.1 ?_
                refine hK.out _ _ (HS.out _ dA) (fun hHeld => ?_)
                clear hK KQ
                refine wpAnyL_one (i := 9) rfl (by kernel_rfl) (fun KQ hK => ?_)
                refine step_appP _ rfl _ _ rfl x103.heap.size _ m1 (flatP it1) oA rfl x1.drew.heap.size K u rfl (Blk.new _ _ _) HK1.out.1 HU1.out (by omega) (Nat.le_trans (grow_trans hbw.out dA).size (Nat.le_refl _)) ?_
                intro v5 x5 ho5 hg5 hwh5
                have hb5 := below_own (grow_trans hbw.out dA) oA (Nat.le_refl _) hg5
                have hS5 := (HS.out _ dA).1.keptO hg5 (Ne.symm (ownS_ne oA (HS.out _ dA).1))
                refine hK.out _ _ (⟨hS5, HCC.out _ hb5⟩) (fun hHeld => ?_)
                clear hK KQ
                refine wpAnyL_take (i := 10) (v := .pointer (some ⟨g15, 1, none⟩)) rfl (by kernel_rfl) (by kernel_rfl) (by kernel_rfl) (by kernel_rfl) (by kernel_rfl) (fun _ _ _ h => h) (Or.inl ⟨by rfl, fun w hS => by go_simp⟩) hHeld ?_
                simp only [Act.put, List.getElem_toArray, List.getElem_cons_zero, List.getElem_cons_succ, List.setIfInBounds_toArray, List.set_cons_zero, List.set_cons_succ]
                have hcell := sd1 hS5
                have hfr := hS5.frozen 1
                obtain ⟨a5, c5, rfl⟩ : ∃ a5 c5, v5 = .slice a5 (m1 + 1) c5 := by
                  rcases ho5.2 with ⟨e, e2⟩ | ⟨g', cap', cur, e, _⟩
                  · omega
                  · exact ⟨_, _, e⟩
                refine wpAnyL_last rfl (by kernel_rfl) (by kernel_rfl) (fun KQ hK => ?_)
                go_simp
              
                refine hK.out _ _ ?_
                clear hK KQ
                have hap5 : Aprt (.slice a5 (m1 + 1) c5) (.slice a0 m0 c0) := Aprt.step hap.out.symm pA hwh5
                have po5 := pA.kept hg5 (Aprt.ne hap.out.symm)
                have gr6 := grown_setCell x5 g15 1 (.slice a5 (m1 + 1) c5)
                have hS6 := sd1_set hS5 (.slice a5 (m1 + 1) c5)
                have ho6 := ho5.kept gr6 (.inr (ownS_ne ho5 hS5))
                have po6 := po5.kept gr6 (.inr (ownS_ne po5 hS5))
                have hb6 := below_row hb5 gr6 HG15.out
                have eEK : encP K u = encP ((E, u) : Ent × Value).1.1 ((E, u) : Ent × Value).2 := by rw [HEK.out]
                rw [eEK, ← flatP_snoc it1 (E, u)] at ho6
                have hap6 := hap5
                have HF6 := hidden (And.intro po6 (And.intro ho6 (And.intro (hap6.symm) (And.intro hS6 hb6))))
                generalize x5.setCell ⟨g15, 1, none⟩ (.slice a5 (m1 + 1) c5) = x6 at *
                clear hap5 po5 gr6 hS6 ho6 po6 hb6 hS5 hb5 ho5 hg5 hwh5 oA pA dA hHeld HS hcell hfr hap6 eEK
                cases θ with
                | true =>
                  as_aux_lemma =>
                    go_wp2_with fail
                    have e0 : Below x6.heap.size x6 x6.drew := (Below.refl _ _).drew
                    have HS2 : Hid (∀ w', Below x6.heap.size x6 w' → w'.rangeAt g (off + k * 33) (B K).toList ∧ w'.rangeAt g5 0 (B key).toList) := fun w' q => ⟨rng_key (HCC.out _ (grow_trans HF6.out.2.2.2.2 q)), (HK5.out _ (grow_trans HF6.out.2.2.2.2 q)).range⟩
                    refine wp_region_last (S := fun w' => w'.rangeAt g (off + k * 33) (B K).toList ∧ w'.rangeAt g5 0 (B key).toList) 10 (by kernel_rfl) (HS2.out _ e0) (fun hHeld => ?_)
                    refine wpAnyL_take (i := 0) (v := .bool true) rfl (by kernel_rfl) (by kernel_rfl) (by kernel_rfl) (by kernel_rfl) (by kernel_rfl) (fun _ _ _ h => h) (Or.inl ⟨by rfl, fun w hS => by go_simp⟩) hHeld ?_
                    simp only [Act.put, List.getElem_toArray, List.getElem_cons_zero, List.setIfInBounds_toArray, List.set_cons_zero, List.set_cons_succ]
                    refine wpAnyL_take (i := 1) (v := .bool true) rfl (by kernel_rfl) (by kernel_rfl) (by kernel_rfl) (by kernel_rfl) (by kernel_rfl) (fun _ _ _ h => h) (Or.inl ⟨by rfl, fun w hS => by go_simp⟩) hHeld ?_
                    simp only [Act.put, List.getElem_toArray, List.getElem_cons_zero, List.getElem_cons_succ, List.setIfInBounds_toArray, List.set_cons_zero, List.set_cons_succ]
                    refine wpAnyL_take (i := 2) (v := undef) rfl (by kernel_rfl) (by kernel_rfl) (by kernel_rfl) (by kernel_rfl) (by kernel_rfl) (fun _ _ _ h => h) (Or.inr ⟨by rfl, rfl⟩) hHeld ?_
                    simp only [Act.put, List.getElem_toArray, List.getElem_cons_zero, List.getElem_cons_succ, List.setIfInBounds_toArray, List.set_cons_zero, List.set_cons_succ]
                    refine wpAnyL_take (i := 3) (v := undef) rfl (by kernel_rfl) (by kernel_rfl) (by kernel_rfl) (by kernel_rfl) (by kernel_rfl) (fun _ _ _ h => h) (Or.inr ⟨by rfl, rfl⟩) hHeld ?_
                    simp only [Act.put, List.getElem_toArray, List.getElem_cons_zero, List.getElem_cons_succ, List.setIfInBounds_toArray, List.set_cons_zero, List.set_cons_succ]
                    refine wpAnyL_take (i := 4) (v := undef) rfl (by kernel_rfl) (by kernel_rfl) (by kernel_rfl) (by kernel_rfl) (by kernel_rfl) (fun _ _ _ h => h) (Or.inr ⟨by rfl, rfl⟩) hHeld ?_
                    simp only [Act.put, List.getElem_toArray, List.getElem_cons_zero, List.getElem_cons_succ, List.setIfInBounds_toArray, List.set_cons_zero, List.set_cons_succ]
                    refine wpAnyL_take (i := 5) (v := undef) rfl (by kernel_rfl) (by kernel_rfl) (by kernel_rfl) (by kernel_rfl) (by kernel_rfl) (fun _ _ _ h => h) (Or.inr ⟨by rfl, rfl⟩) hHeld ?_
                    simp only [Act.put, List.getElem_toArray, List.getElem_cons_zero, List.getElem_cons_succ, List.setIfInBounds_toArray, List.set_cons_zero, List.set_cons_succ]
                    refine wpAnyL_take (i := 6) (v := undef) rfl (by kernel_rfl) (by kernel_rfl) (by kernel_rfl) (by kernel_rfl) (by kernel_rfl) (fun _ _ _ h => h) (Or.inr ⟨by rfl, rfl⟩) hHeld ?_
                    simp only [Act.put, List.getElem_toArray, List.getElem_cons_zero, List.getElem_cons_succ, List.setIfInBounds_toArray, List.set_cons_zero, List.set_cons_succ]
                    refine wpAnyL_take (i := 7) (v := undef) rfl (by kernel_rfl) (by kernel_rfl) (by kernel_rfl) (by kernel_rfl) (by kernel_rfl) (fun _ _ _ h => h) (Or.inr ⟨by rfl, rfl⟩) hHeld ?_
                    simp only [Act.put, List.getElem_toArray, List.getElem_cons_zero, List.getElem_cons_succ, List.setIfInBounds_toArray, List.set_cons_zero, List.set_cons_succ]
                    refine wpAnyL_take (i := 8) (v := undef) rfl (by kernel_rfl) (by kernel_rfl) (by kernel_rfl) (by kernel_rfl) (by kernel_rfl) (fun _ _ _ h => h) (Or.inr ⟨by rfl, rfl⟩) hHeld ?_
                    simp only [Act.put, List.getElem_toArray, List.getElem_cons_zero, List.getElem_cons_succ, List.setIfInBounds_toArray, List.set_cons_zero, List.set_cons_succ]
                    refine wpAnyL_take (i := 9) (v := .bool true) rfl (by kernel_rfl) (by kernel_rfl) (by kernel_rfl) (by kernel_rfl) (by kernel_rfl) (fun _ _ _ h => h) (Or.inl ⟨by rfl, fun w hS => by go_simp⟩) hHeld ?_
                    simp only [Act.put, List.getElem_toArray, List.getElem_cons_zero, List.getElem_cons_succ, List.setIfInBounds_toArray, List.set_cons_zero, List.set_cons_succ]
                    refine wpAnyL_last rfl (by kernel_rfl) (by kernel_rfl) (fun KQ hK => ?_)
                    go_simp
                
                    refine hK.out _ _ ?_
                    clear hK KQ
                    go_wp2_with fail
                    exact ⟨⟨true, k + 1, m0, m1 + 1, it0, it1 ++ [(E, u)], a0, a5, c0, c5, by omega, by have := HLE.out; omega, by have := HLE.out; omega, rfl, by go_num, by show _ = _; rw [HTH.out, ← hθ.out]; rfl, HLN.out, HMP.out, HVL.out, ownsP_below HF6.out.1 e0, ownsP_below HF6.out.2.1 e0, HF6.out.2.2.1, HF6.out.2.2.2.1.grow e0, grow_trans HF6.out.2.2.2.2 e0⟩, by simp [intOf]; omega⟩
                | false =>
                  as_aux_lemma =>
                    go_wp2_with fail
                    have e0 : Below x6.heap.size x6 x6.drew := (Below.refl _ _).drew
                    have HS2 : Hid (∀ w', Below x6.heap.size x6 w' → w'.rangeAt g (off + k * 33) (B K).toList ∧ w'.rangeAt g5 0 (B key).toList) := fun w' q => ⟨rng_key (HCC.out _ (grow_trans HF6.out.2.2.2.2 q)), (HK5.out _ (grow_trans HF6.out.2.2.2.2 q)).range⟩
                    refine wp_region_last (S := fun w' => w'.rangeAt g (off + k * 33) (B K).toList ∧ w'.rangeAt g5 0 (B key).toList) 10 (by kernel_rfl) (HS2.out _ e0) (fun hHeld => ?_)
                    refine wpAnyL_take (i := 0) (v := .bool false) rfl (by kernel_rfl) (by kernel_rfl) (by kernel_rfl) (by kernel_rfl) (by kernel_rfl) (fun _ _ _ h => h) (Or.inl ⟨by rfl, fun w hS => by go_simp⟩) hHeld ?_
                    simp only [Act.put, List.getElem_toArray, List.getElem_cons_zero, List.setIfInBounds_toArray, List.set_cons_zero, List.set_cons_succ]
                    refine wpAnyL_take (i := 1) (v := .bool false) rfl (by kernel_rfl) (by kernel_rfl) (by kernel_rfl) (by kernel_rfl) (by kernel_rfl) (fun _ _ _ h => h) (Or.inl ⟨by rfl, fun w hS => by go_simp⟩) hHeld ?_
                    simp only [Act.put, List.getElem_toArray, List.getElem_cons_zero, List.getElem_cons_succ, List.setIfInBounds_toArray, List.set_cons_zero, List.set_cons_succ]
                    refine wpAnyL_take (i := 2) (v := .slice (some ⟨g, off, none⟩) n vc) rfl (by kernel_rfl) (by kernel_rfl) (by kernel_rfl) (by kernel_rfl) (by kernel_rfl) (fun _ _ _ h => h) (Or.inl ⟨by rfl, fun w hS => by go_simp⟩) hHeld ?_
                    simp only [Act.put, List.getElem_toArray, List.getElem_cons_zero, List.getElem_cons_succ, List.setIfInBounds_toArray, List.set_cons_zero, List.set_cons_succ]
                    refine wpAnyL_take (i := 3) (v := .int .i64 k) rfl (by kernel_rfl) (by kernel_rfl) (by kernel_rfl) (by kernel_rfl) (by kernel_rfl) (fun _ _ _ h => h) (Or.inl ⟨by rfl, fun w hS => by go_simp⟩) hHeld ?_
                    simp only [Act.put, List.getElem_toArray, List.getElem_cons_zero, List.getElem_cons_succ, List.setIfInBounds_toArray, List.set_cons_zero, List.set_cons_succ]
                    refine wpAnyL_take (i := 4) (v := .pointer (some ⟨g, off + k * 33, none⟩)) rfl (by kernel_rfl) (by kernel_rfl) (by kernel_rfl) (by kernel_rfl) (by kernel_rfl) (fun _ _ _ h => h) (Or.inl ⟨by rfl, fun w hS => by go_simp⟩) hHeld ?_
                    simp only [Act.put, List.getElem_toArray, List.getElem_cons_zero, List.getElem_cons_succ, List.setIfInBounds_toArray, List.set_cons_zero, List.set_cons_succ]
                    refine wpAnyL_take (i := 5) (v := .pointer (some ⟨g, off + k * 33, none⟩)) rfl (by kernel_rfl) (by kernel_rfl) (by kernel_rfl) (by kernel_rfl) (by kernel_rfl) (fun _ _ _ h => h) (Or.inl ⟨by rfl, fun w hS => by go_simp⟩) hHeld ?_
                    simp only [Act.put, List.getElem_toArray, List.getElem_cons_zero, List.getElem_cons_succ, List.setIfInBounds_toArray, List.set_cons_zero, List.set_cons_succ]
                    refine wpAnyL_take (i := 6) (v := .agg (B K)) rfl (by kernel_rfl) (by kernel_rfl) (by kernel_rfl) (by kernel_rfl) (by kernel_rfl) (fun _ _ _ h => h) (yieldsIf_load_mid rfl 24 (.tmp 128) rfl g (off + k * 33) rfl (B K).toList _ (fun w hS => hS.1) Tryd.underlying24 rfl HLK.out) hHeld ?_
                    simp only [Act.put, List.getElem_toArray, List.getElem_cons_zero, List.getElem_cons_succ, List.setIfInBounds_toArray, List.set_cons_zero, List.set_cons_succ]
                    refine wpAnyL_take (i := 7) (v := .agg (B key)) rfl (by kernel_rfl) (by kernel_rfl) (by kernel_rfl) (by kernel_rfl) (by kernel_rfl) (fun _ _ _ h => h) (yieldsIf_load_mid rfl 24 (.tmp 5) rfl g5 (0) rfl (B key).toList _ (fun w hS => hS.2) Tryd.underlying24 rfl HKL.out) hHeld ?_
                    simp only [Act.put, List.getElem_toArray, List.getElem_cons_zero, List.getElem_cons_succ, List.setIfInBounds_toArray, List.set_cons_zero, List.set_cons_succ]
                    refine wpAnyL_take (i := 8) (v := .bool δ) rfl (by kernel_rfl) (by kernel_rfl) (by kernel_rfl) (by kernel_rfl) (by kernel_rfl) (fun _ _ _ h => h) (Or.inl ⟨by rfl, fun w hS => by go_simp⟩) hHeld ?_
                    simp only [Act.put, List.getElem_toArray, List.getElem_cons_zero, List.getElem_cons_succ, List.setIfInBounds_toArray, List.set_cons_zero, List.set_cons_succ]
                    refine wpAnyL_take (i := 9) (v := .bool δ) rfl (by kernel_rfl) (by kernel_rfl) (by kernel_rfl) (by kernel_rfl) (by kernel_rfl) (fun _ _ _ h => h) (Or.inl ⟨by rfl, fun w hS => by go_simp⟩) hHeld ?_
                    simp only [Act.put, List.getElem_toArray, List.getElem_cons_zero, List.getElem_cons_succ, List.setIfInBounds_toArray, List.set_cons_zero, List.set_cons_succ]
                    refine wpAnyL_last rfl (by kernel_rfl) (by kernel_rfl) (fun KQ hK => ?_)
                    go_simp
                
                    refine hK.out _ _ ?_
                    clear hK KQ
                    go_wp2_with fail
                    exact ⟨⟨δ, k + 1, m0, m1 + 1, it0, it1 ++ [(E, u)], a0, a5, c0, c5, by omega, by have := HLE.out; omega, by have := HLE.out; omega, rfl, by go_num, by show _ = _; rw [HTH.out, ← hθ.out]; rfl, HLN.out, HMP.out, HVL.out, ownsP_below HF6.out.1 e0, ownsP_below HF6.out.2.1 e0, HF6.out.2.2.1, HF6.out.2.2.2.1.grow e0, grow_trans HF6.out.2.2.2.2 e0⟩, by simp [intOf]; omega⟩
          · as_aux_lemma =>
              have hkn : k = n := by omega
              have hT : es.take n = es := List.take_of_length_le (by rw [HLEN.out]; exact Nat.le_refl _)
              have z1 : ¬ (k : Int) < (n : Int) := by omega
              have HTH : Hid (θ = decide (key ∈ es.map (·.1))) := by
                show _ = _
                rw [hθ.out, thr, hkn, hT]
              have hm0' := hmaps.out.1
              have hm1' := hmaps.out.2
              rw [hkn, hT] at hm0' hm1'
              have hp0 := ((PrO.own (by rw [hlen2.out.1]; exact ho0.out) (fun p hp => hvals.out p (.inl hp))).at hbw.out).1
              have hp1 := ((PrO.own (by rw [hlen2.out.2]; exact ho1.out) (fun p hp => hvals.out p (.inr hp))).at hbw.out).1
              rw [hm0'] at hp0
              rw [hm1'] at hp1
              replace KV := hidden (KV.out.step hbw.out)
              replace KW := hidden (KW.out.step hbw.out)
              replace KL := hidden (KL.out.step hbw.out)
              replace K5 := hidden (K5.out.step hbw.out)
              replace K7 := hidden (K7.out.step hbw.out)
              have KP0 := hidden hp0.kp
              have KP1 := hidden hp1.kp
              have K15 := hidden hblk.out.kp
              have s15 := sd0 hblk.out
              obtain ⟨q0, hq0'⟩ : ∃ q0, q0 = rt 255 1 (sideOf es 0 0) := ⟨_, rfl⟩
              obtain ⟨q1, hq1'⟩ : ∃ q1, q1 = rt 255 1 (sideOf es 0 1) := ⟨_, rfl⟩
              have HRA : ∀ w' v V (b : Int), PrAt w' v V (sideOf es 0 b) → Laid w' → Calls Tryd.prog 24 #[v, .int .i64 1] w' fun e w'' => e = .returned (.tuple #[.agg (B (rt 255 1 (sideOf es 0 b))), .int .i64 0]) ∧ Below w'.heap.size w' w'' := fun w' v V b h hl2 => (RootAt_any v V _ 1 w' h (Nat.le_trans (List.length_filter_le _ _) (by rw [HLEN.out]; omega)) hl2).mono fun e w'' ⟨h', E', p1, p2, p3⟩ => by
                obtain ⟨e1, e2⟩ := rootIs_side HEB.out (by rw [HLEN.out]; omega) p2
                rw [e1, e2] at p1
                exact ⟨p1, p3⟩
              have HRA0 : Hid (∀ w' v V, PrAt w' v V (sideOf es 0 0) → Laid w' → Calls Tryd.prog 24 #[v, .int .i64 1] w' fun e w'' => e = .returned (.tuple #[.agg (B q0), .int .i64 0]) ∧ Below w'.heap.size w' w'') := fun w' v V h hl2 => by rw [hq0']; exact HRA w' v V 0 h hl2
              have HRA1 : Hid (∀ w' v V, PrAt w' v V (sideOf es 0 1) → Laid w' → Calls Tryd.prog 24 #[v, .int .i64 1] w' fun e w'' => e = .returned (.tuple #[.agg (B q1), .int .i64 0]) ∧ Below w'.heap.size w' w'') := fun w' v V h hl2 => by rw [hq1']; exact HRA w' v V 1 h hl2
              have HQ0 : Hid (q0.length = 32 ∧ Bytes q0) := by rw [hq0']; exact rt_len _ _ _
              have HQ1 : Hid (q1.length = 32 ∧ Bytes q1) := by rw [hq1']; exact rt_len _ _ _
              have HFq0 := hidden (hash_sz q0 HQ0.out.1)
              have HFq1 := hidden (hash_sz q1 HQ1.out.1)
              have HMORE : Hid (1 < n → inD q0 q1 = r0) := fun h => by
                rw [HRR.out, hq0', hq1']
                exact (rt_more 255 0 es (by rw [HLEN.out]; omega)).symm
              have HNONE : Hid (n = 0 → emD = r0) := fun h => by
                rw [HRR.out]
                have : es = [] := List.eq_nil_of_length_eq_zero (by rw [HLEN.out]; exact h)
                rw [this, rt_nil]
              clear HRA hT hm0' hm1' hp0 hp1 hq0' hq1' hkn hθ hlen2 hmaps hvals ho0 ho1 hap hblk hbw hlt
              go_upto_region 25 with (first
                | ((with_reducible refine at_ald 19 ?_); refine wpList_al _ rfl _ rfl _ zero_hash ?_; intro x302 g19 hg19 hl302 bq302 q302; clear hl302)
                | ((with_reducible refine at_st 19 ?_); refine wpList_sto _ rfl _ _ _ rfl g19 _ (B q0) rfl rfl bq302 HFq0.out.1 HFq0.out.2 (B_one _) ?_; intro x303 by303 r303; have q303 := below_row q302 r303 hg19; replace KV := hidden (KV.out.step q303); replace KW := hidden (KW.out.step q303); replace KL := hidden (KL.out.step q303); replace K5 := hidden (K5.out.step q303); replace K7 := hidden (K7.out.step q303); replace KP0 := hidden (KP0.out.step q303); replace KP1 := hidden (KP1.out.step q303); replace K15 := hidden (K15.out.step q303); have K19 := hidden by303.kp; clear q303 q302 r303 by303 bq302 hg19; have s15b := sd1 K15.out.now)
                | ((with_reducible refine at_ald 21 ?_); refine wpList_al _ rfl _ rfl _ zero_hash ?_; intro x305 g21 hg21 hl305 bq305 q305; clear hl305)
                | ((with_reducible refine at_st 21 ?_); refine wpList_sto _ rfl _ _ _ rfl g21 _ (B q1) rfl rfl bq305 HFq1.out.1 HFq1.out.2 (B_one _) ?_; intro x306 by306 r306; have q306 := below_row q305 r306 hg21; replace KV := hidden (KV.out.step q306); replace KW := hidden (KW.out.step q306); replace KL := hidden (KL.out.step q306); replace K5 := hidden (K5.out.step q306); replace K7 := hidden (K7.out.step q306); replace KP0 := hidden (KP0.out.step q306); replace KP1 := hidden (KP1.out.step q306); replace K15 := hidden (K15.out.step q306); replace K19 := hidden (K19.out.step q306); have K21 := hidden by306.kp; clear q306 q305 r306 by306 bq305 hg21)
                | (go_at_call 24; have mk := mk_fnodeRootAt_1; clear mk; refine (HRA1.out _ _ _ KP1.out.now KL.out.now).mono ?_; rintro e x304 ⟨rfl, q304⟩; replace KV := hidden (KV.out.step q304); replace KW := hidden (KW.out.step q304); replace KL := hidden (KL.out.step q304); replace K5 := hidden (K5.out.step q304); replace K7 := hidden (K7.out.step q304); replace KP0 := hidden (KP0.out.step q304); replace KP1 := hidden (KP1.out.step q304); replace K15 := hidden (K15.out.step q304); replace K19 := hidden (K19.out.step q304); have mk_fnodeRootAt_2 : Hid True := trivial; clear q304)
                | (go_at_call 24; refine (HRA0.out _ _ _ KP0.out.now KL.out.now).mono ?_; rintro e x301 ⟨rfl, q301⟩; replace KV := hidden (KV.out.step q301); replace KW := hidden (KW.out.step q301); replace KL := hidden (KL.out.step q301); replace K5 := hidden (K5.out.step q301); replace K7 := hidden (K7.out.step q301); replace KP0 := hidden (KP0.out.step q301); replace KP1 := hidden (KP1.out.step q301); replace K15 := hidden (K15.out.step q301); have mk_fnodeRootAt_1 : Hid True := trivial; clear q301))
              have HLR := hidden (hash_ln r0 HRB.out.1)
              have HLQ0 := hidden (hash_ln q0 HQ0.out.1)
              have HLQ1 := hidden (hash_ln q1 HQ1.out.1)
              go_cut [172] from 145 (fun c wx => c = .bool false ∧ Hid (Below x306.heap.size x306 wx))
              case first =>
                have d0 : Below x306.heap.size x306 x306.drew := (Below.refl _ _).drew
                have HS : Hid (∀ w', Below x306.heap.size x306 w' → w'.rangeAt g7 0 (B r0).toList ∧ w'.rangeAt g19 0 (B q0).toList ∧ w'.rangeAt g21 0 (B q1).toList) := fun w' q => ⟨(K7.out w' q).range, (K19.out w' q).range, (K21.out w' q).range⟩
                have HLd : Hid (∀ w', Below x306.heap.size x306 w' → Laid w') := fun w' q => KL.out w' q
                by_cases hn1 : 1 < n
                · as_aux_lemma =>
                    have y1 : (1 : Int) < (n : Int) := by omega
                    have y2 : ((n : Int) == 0) = false := by simp; omega
                    have y3 : ¬ (n : Int) = 0 := by omega
                    have HIn : Hid (∀ w', Laid w' → Calls Tryd.prog 38 #[.agg (B q0), .agg (B q1)] w' fun e w'' => e = .returned (.agg (B r0)) ∧ Below w'.heap.size w' w'') := fun w' hl => by rw [← HMORE.out hn1]; exact inner_any q0 q1 w' HQ0.out.1 HQ1.out.1 HQ0.out.2 HQ1.out.2 hl
                    go_wp2_with fail
                    refine wp_region_held_drew (S := fun w' => w'.rangeAt g7 0 (B r0).toList ∧ w'.rangeAt g19 0 (B q0).toList ∧ w'.rangeAt g21 0 (B q1).toList) (by kernel_rfl) (HS.out _ d0) (fun hHeld => ?_)
                    refine wpAnyH_take (i := 0) (v := .int .i64 0) rfl (by kernel_rfl) (by kernel_rfl) (by kernel_rfl) (fun _ _ _ h => h) (Or.inl ⟨by rfl, fun w hS => by go_simp⟩) hHeld ?_
                    simp only [Act.put, List.getElem_toArray, List.getElem_cons_zero, List.setIfInBounds_toArray, List.set_cons_zero, List.set_cons_succ]
                    refine wpAnyH_take (i := 1) (v := .bool false) rfl (by kernel_rfl) (by kernel_rfl) (by kernel_rfl) (fun _ _ _ h => h) (Or.inl ⟨by rfl, fun w hS => by go_simp⟩) hHeld ?_
                    simp only [Act.put, List.getElem_toArray, List.getElem_cons_zero, List.getElem_cons_succ, List.setIfInBounds_toArray, List.set_cons_zero, List.set_cons_succ]
                    refine wpAnyH_take (i := 2) (v := .bool false) rfl (by kernel_rfl) (by kernel_rfl) (by kernel_rfl) (fun _ _ _ h => h) (Or.inl ⟨by rfl, fun w hS => by go_simp⟩) hHeld ?_
                    simp only [Act.put, List.getElem_toArray, List.getElem_cons_zero, List.getElem_cons_succ, List.setIfInBounds_toArray, List.set_cons_zero, List.set_cons_succ]
                    refine wpAnyH_take (i := 3) (v := .int .i64 0) rfl (by kernel_rfl) (by kernel_rfl) (by kernel_rfl) (fun _ _ _ h => h) (Or.inl ⟨by rfl, fun w hS => by go_simp⟩) hHeld ?_
                    simp only [Act.put, List.getElem_toArray, List.getElem_cons_zero, List.getElem_cons_succ, List.setIfInBounds_toArray, List.set_cons_zero, List.set_cons_succ]
                    refine wpAnyH_take (i := 4) (v := .bool false) rfl (by kernel_rfl) (by kernel_rfl) (by kernel_rfl) (fun _ _ _ h => h) (Or.inl ⟨by rfl, fun w hS => by go_simp⟩) hHeld ?_
                    simp only [Act.put, List.getElem_toArray, List.getElem_cons_zero, List.getElem_cons_succ, List.setIfInBounds_toArray, List.set_cons_zero, List.set_cons_succ]
                    refine wpAnyH_take (i := 5) (v := .bool false) rfl (by kernel_rfl) (by kernel_rfl) (by kernel_rfl) (fun _ _ _ h => h) (Or.inl ⟨by rfl, fun w hS => by go_simp⟩) hHeld ?_
                    simp only [Act.put, List.getElem_toArray, List.getElem_cons_zero, List.getElem_cons_succ, List.setIfInBounds_toArray, List.set_cons_zero, List.set_cons_succ]
                    refine wpAnyH_take (i := 6) (v := .bool false) rfl (by kernel_rfl) (by kernel_rfl) (by kernel_rfl) (fun _ _ _ h => h) (Or.inl ⟨by rfl, fun w hS => by go_simp⟩) hHeld ?_
                    simp only [Act.put, List.getElem_toArray, List.getElem_cons_zero, List.getElem_cons_succ, List.setIfInBounds_toArray, List.set_cons_zero, List.set_cons_succ]
                    refine wpAnyH_take (i := 7) (v := .slice va n vc) rfl (by kernel_rfl) (by kernel_rfl) (by kernel_rfl) (fun _ _ _ h => h) (Or.inl ⟨by rfl, fun w hS => by go_simp⟩) hHeld ?_
                    simp only [Act.put, List.getElem_toArray, List.getElem_cons_zero, List.getElem_cons_succ, List.setIfInBounds_toArray, List.set_cons_zero, List.set_cons_succ]
                    refine wpAnyH_take (i := 8) (v := .int .i64 n) rfl (by kernel_rfl) (by kernel_rfl) (by kernel_rfl) (fun _ _ _ h => h) (Or.inl ⟨by rfl, fun w hS => by go_simp⟩) hHeld ?_
                    simp only [Act.put, List.getElem_toArray, List.getElem_cons_zero, List.getElem_cons_succ, List.setIfInBounds_toArray, List.set_cons_zero, List.set_cons_succ]
                    refine wpAnyH_take (i := 9) (v := .bool true) rfl (by kernel_rfl) (by kernel_rfl) (by kernel_rfl) (fun _ _ _ h => h) (Or.inl ⟨by rfl, fun w hS => by go_simp⟩) hHeld ?_
                    simp only [Act.put, List.getElem_toArray, List.getElem_cons_zero, List.getElem_cons_succ, List.setIfInBounds_toArray, List.set_cons_zero, List.set_cons_succ]
                    refine wpAnyH_take (i := 10) (v := .bool true) rfl (by kernel_rfl) (by kernel_rfl) (by kernel_rfl) (fun _ _ _ h => h) (Or.inl ⟨by rfl, fun w hS => by go_simp⟩) hHeld ?_
                    simp only [Act.put, List.getElem_toArray, List.getElem_cons_zero, List.getElem_cons_succ, List.setIfInBounds_toArray, List.set_cons_zero, List.set_cons_succ]
                    refine wpAnyH_take (i := 11) (v := .agg (B r0)) rfl (by kernel_rfl) (by kernel_rfl) (by kernel_rfl) (fun _ _ _ h => h) (yieldsIf_load_mid rfl 25 (.tmp 7) rfl g7 0 rfl (B r0).toList _ (fun w hS => hS.1) Tryd.underlying25 rfl HLR.out) hHeld ?_
                    simp only [Act.put, List.getElem_toArray, List.getElem_cons_zero, List.getElem_cons_succ, List.setIfInBounds_toArray, List.set_cons_zero, List.set_cons_succ]
                    refine wpAnyH_take (i := 12) (v := .agg (B q0)) rfl (by kernel_rfl) (by kernel_rfl) (by kernel_rfl) (fun _ _ _ h => h) (yieldsIf_load_mid rfl 25 (.tmp 19) rfl g19 0 rfl (B q0).toList _ (fun w hS => hS.2.1) Tryd.underlying25 rfl HLQ0.out) hHeld ?_
                    simp only [Act.put, List.getElem_toArray, List.getElem_cons_zero, List.getElem_cons_succ, List.setIfInBounds_toArray, List.set_cons_zero, List.set_cons_succ]
                    refine wpAnyH_take (i := 13) (v := .agg (B q1)) rfl (by kernel_rfl) (by kernel_rfl) (by kernel_rfl) (fun _ _ _ h => h) (yieldsIf_load_mid rfl 25 (.tmp 21) rfl g21 0 rfl (B q1).toList _ (fun w hS => hS.2.2) Tryd.underlying25 rfl HLQ1.out) hHeld ?_
                    simp only [Act.put, List.getElem_toArray, List.getElem_cons_zero, List.getElem_cons_succ, List.setIfInBounds_toArray, List.set_cons_zero, List.set_cons_succ]
                    refine wpAnyH_ready (rs := [14]) (by kernel_rfl) (by simp) ?_
                    refine AllReadyH.cons rfl (fun KQ hK => ?_) AllReadyH.nil
                    go_simp
                    refine (HIn.out _ (HLd.out _ d0)).mono ?_
                    rintro e y1 ⟨rfl, a1⟩
                    have d1 := grow_trans d0 a1
                    refine hK.out _ _ (HS.out _ d1) (fun hHeld => ?_)
                    clear hK KQ
                    refine wpAnyH_take (i := 15) (v := .bool false) rfl (by kernel_rfl) (by kernel_rfl) (by kernel_rfl) (fun _ _ _ h => h) (Or.inl ⟨by rfl, fun w hS => by go_simp⟩) hHeld ?_
                    simp only [Act.put, List.getElem_toArray, List.getElem_cons_zero, List.getElem_cons_succ, List.setIfInBounds_toArray, List.set_cons_zero, List.set_cons_succ]
                    refine wpAnyH_take (i := 16) (v := .bool false) rfl (by kernel_rfl) (by kernel_rfl) (by kernel_rfl) (fun _ _ _ h => h) (Or.inl ⟨by rfl, fun w hS => by go_simp⟩) hHeld ?_
                    simp only [Act.put, List.getElem_toArray, List.getElem_cons_zero, List.getElem_cons_succ, List.setIfInBounds_toArray, List.set_cons_zero, List.set_cons_succ]
                    refine wpAnyH_take (i := 17) (v := .bool false) rfl (by kernel_rfl) (by kernel_rfl) (by kernel_rfl) (fun _ _ _ h => h) (Or.inl ⟨by rfl, fun w hS => by go_simp⟩) hHeld ?_
                    simp only [Act.put, List.getElem_toArray, List.getElem_cons_zero, List.getElem_cons_succ, List.setIfInBounds_toArray, List.set_cons_zero, List.set_cons_succ]
                    refine wpAnyH_take (i := 18) (v := .bool false) rfl (by kernel_rfl) (by kernel_rfl) (by kernel_rfl) (fun _ _ _ h => h) (Or.inl ⟨by rfl, fun w hS => by go_simp⟩) hHeld ?_
                    simp only [Act.put, List.getElem_toArray, List.getElem_cons_zero, List.getElem_cons_succ, List.setIfInBounds_toArray, List.set_cons_zero, List.set_cons_succ]
                    refine wpAnyH_take (i := 19) (v := .slice va n vc) rfl (by kernel_rfl) (by kernel_rfl) (by kernel_rfl) (fun _ _ _ h => h) (Or.inl ⟨by rfl, fun w hS => by go_simp⟩) hHeld ?_
                    simp only [Act.put, List.getElem_toArray, List.getElem_cons_zero, List.getElem_cons_succ, List.setIfInBounds_toArray, List.set_cons_zero, List.set_cons_succ]
                    refine wpAnyH_take (i := 20) (v := .int .i64 n) rfl (by kernel_rfl) (by kernel_rfl) (by kernel_rfl) (fun _ _ _ h => h) (Or.inl ⟨by rfl, fun w hS => by go_simp⟩) hHeld ?_
                    simp only [Act.put, List.getElem_toArray, List.getElem_cons_zero, List.getElem_cons_succ, List.setIfInBounds_toArray, List.set_cons_zero, List.set_cons_succ]
                    refine wpAnyH_take (i := 21) (v := .bool false) rfl (by kernel_rfl) (by kernel_rfl) (by kernel_rfl) (fun _ _ _ h => h) (Or.inl ⟨by rfl, fun w hS => by go_simp⟩) hHeld ?_
                    simp only [Act.put, List.getElem_toArray, List.getElem_cons_zero, List.getElem_cons_succ, List.setIfInBounds_toArray, List.set_cons_zero, List.set_cons_succ]
                    refine wpAnyH_take (i := 22) (v := .bool false) rfl (by kernel_rfl) (by kernel_rfl) (by kernel_rfl) (fun _ _ _ h => h) (Or.inl ⟨by rfl, fun w hS => by go_simp⟩) hHeld ?_
                    simp only [Act.put, List.getElem_toArray, List.getElem_cons_zero, List.getElem_cons_succ, List.setIfInBounds_toArray, List.set_cons_zero, List.set_cons_succ]
                    refine wpAnyH_take (i := 23) (v := undef) rfl (by kernel_rfl) (by kernel_rfl) (by kernel_rfl) (fun _ _ _ h => h) (Or.inr ⟨by rfl, rfl⟩) hHeld ?_
                    simp only [Act.put, List.getElem_toArray, List.getElem_cons_zero, List.getElem_cons_succ, List.setIfInBounds_toArray, List.set_cons_zero, List.set_cons_succ]
                    refine wpAnyH_take (i := 24) (v := undef) rfl (by kernel_rfl) (by kernel_rfl) (by kernel_rfl) (fun _ _ _ h => h) (Or.inr ⟨by rfl, rfl⟩) hHeld ?_
                    simp only [Act.put, List.getElem_toArray, List.getElem_cons_zero, List.getElem_cons_succ, List.setIfInBounds_toArray, List.set_cons_zero, List.set_cons_succ]
                    refine wpAnyH_take (i := 25) (v := undef) rfl (by kernel_rfl) (by kernel_rfl) (by kernel_rfl) (fun _ _ _ h => h) (Or.inr ⟨by rfl, rfl⟩) hHeld ?_
                    simp only [Act.put, List.getElem_toArray, List.getElem_cons_zero, List.getElem_cons_succ, List.setIfInBounds_toArray, List.set_cons_zero, List.set_cons_succ]
                    refine wpAnyH_take (i := 26) (v := .bool false) rfl (by kernel_rfl) (by kernel_rfl) (by kernel_rfl) (fun _ _ _ h => h) (Or.inl ⟨by rfl, fun w hS => by go_simp⟩) hHeld ?_
                    simp only [Act.put, List.getElem_toArray, List.getElem_cons_zero, List.getElem_cons_succ, List.setIfInBounds_toArray, List.set_cons_zero, List.set_cons_succ]
                    refine wpAnyH_take (i := 27) (v := .bool false) rfl (by kernel_rfl) (by kernel_rfl) (by kernel_rfl) (fun _ _ _ h => h) (Or.inl ⟨by rfl, fun w hS => by go_simp⟩) hHeld ?_
                    simp only [Act.put, List.getElem_toArray, List.getElem_cons_zero, List.getElem_cons_succ, List.setIfInBounds_toArray, List.set_cons_zero, List.set_cons_succ]
                    refine wpAnyH_done (by kernel_rfl) ?_ _
                    go_wp2_with fail
                    go_meet
                    case rel => exact ⟨rfl, d1⟩
                · by_cases hn2 : n = 0
                  · as_aux_lemma =>
                      have HEm : Hid (∀ w', Laid w' → Calls Tryd.prog 34 #[] w' fun e w'' => e = .returned (.agg (B r0)) ∧ Below w'.heap.size w' w'') := fun w' hl => by rw [← HNONE.out hn2]; exact empty_any w' hl
                      have y1 : ¬ (1 : Int) < (n : Int) := by omega
                      have y2 : ((n : Int) == 0) = true := by simp; omega
                      clear hn2 hn1
                      go_wp2_with fail
                      refine wp_region_held_drew (S := fun w' => w'.rangeAt g7 0 (B r0).toList ∧ w'.rangeAt g19 0 (B q0).toList ∧ w'.rangeAt g21 0 (B q1).toList) (by kernel_rfl) (HS.out _ d0) (fun hHeld => ?_)
                      refine wpAnyH_take (i := 0) (v := .int .i64 0) rfl (by kernel_rfl) (by kernel_rfl) (by kernel_rfl) (fun _ _ _ h => h) (Or.inl ⟨by rfl, fun w hS => by go_simp⟩) hHeld ?_
                      simp only [Act.put, List.getElem_toArray, List.getElem_cons_zero, List.setIfInBounds_toArray, List.set_cons_zero, List.set_cons_succ]
                      refine wpAnyH_take (i := 1) (v := .bool false) rfl (by kernel_rfl) (by kernel_rfl) (by kernel_rfl) (fun _ _ _ h => h) (Or.inl ⟨by rfl, fun w hS => by go_simp⟩) hHeld ?_
                      simp only [Act.put, List.getElem_toArray, List.getElem_cons_zero, List.getElem_cons_succ, List.setIfInBounds_toArray, List.set_cons_zero, List.set_cons_succ]
                      refine wpAnyH_take (i := 2) (v := .bool false) rfl (by kernel_rfl) (by kernel_rfl) (by kernel_rfl) (fun _ _ _ h => h) (Or.inl ⟨by rfl, fun w hS => by go_simp⟩) hHeld ?_
                      simp only [Act.put, List.getElem_toArray, List.getElem_cons_zero, List.getElem_cons_succ, List.setIfInBounds_toArray, List.set_cons_zero, List.set_cons_succ]
                      refine wpAnyH_take (i := 3) (v := .int .i64 0) rfl (by kernel_rfl) (by kernel_rfl) (by kernel_rfl) (fun _ _ _ h => h) (Or.inl ⟨by rfl, fun w hS => by go_simp⟩) hHeld ?_
                      simp only [Act.put, List.getElem_toArray, List.getElem_cons_zero, List.getElem_cons_succ, List.setIfInBounds_toArray, List.set_cons_zero, List.set_cons_succ]
                      refine wpAnyH_take (i := 4) (v := .bool false) rfl (by kernel_rfl) (by kernel_rfl) (by kernel_rfl) (fun _ _ _ h => h) (Or.inl ⟨by rfl, fun w hS => by go_simp⟩) hHeld ?_
                      simp only [Act.put, List.getElem_toArray, List.getElem_cons_zero, List.getElem_cons_succ, List.setIfInBounds_toArray, List.set_cons_zero, List.set_cons_succ]
                      refine wpAnyH_take (i := 5) (v := .bool false) rfl (by kernel_rfl) (by kernel_rfl) (by kernel_rfl) (fun _ _ _ h => h) (Or.inl ⟨by rfl, fun w hS => by go_simp⟩) hHeld ?_
                      simp only [Act.put, List.getElem_toArray, List.getElem_cons_zero, List.getElem_cons_succ, List.setIfInBounds_toArray, List.set_cons_zero, List.set_cons_succ]
                      refine wpAnyH_take (i := 6) (v := .bool false) rfl (by kernel_rfl) (by kernel_rfl) (by kernel_rfl) (fun _ _ _ h => h) (Or.inl ⟨by rfl, fun w hS => by go_simp⟩) hHeld ?_
                      simp only [Act.put, List.getElem_toArray, List.getElem_cons_zero, List.getElem_cons_succ, List.setIfInBounds_toArray, List.set_cons_zero, List.set_cons_succ]
                      refine wpAnyH_take (i := 7) (v := .slice va n vc) rfl (by kernel_rfl) (by kernel_rfl) (by kernel_rfl) (fun _ _ _ h => h) (Or.inl ⟨by rfl, fun w hS => by go_simp⟩) hHeld ?_
                      simp only [Act.put, List.getElem_toArray, List.getElem_cons_zero, List.getElem_cons_succ, List.setIfInBounds_toArray, List.set_cons_zero, List.set_cons_succ]
                      refine wpAnyH_take (i := 8) (v := .int .i64 n) rfl (by kernel_rfl) (by kernel_rfl) (by kernel_rfl) (fun _ _ _ h => h) (Or.inl ⟨by rfl, fun w hS => by go_simp⟩) hHeld ?_
                      simp only [Act.put, List.getElem_toArray, List.getElem_cons_zero, List.getElem_cons_succ, List.setIfInBounds_toArray, List.set_cons_zero, List.set_cons_succ]
                      refine wpAnyH_take (i := 9) (v := .bool false) rfl (by kernel_rfl) (by kernel_rfl) (by kernel_rfl) (fun _ _ _ h => h) (Or.inl ⟨by rfl, fun w hS => by go_simp⟩) hHeld ?_
                      simp only [Act.put, List.getElem_toArray, List.getElem_cons_zero, List.getElem_cons_succ, List.setIfInBounds_toArray, List.set_cons_zero, List.set_cons_succ]
                      refine wpAnyH_take (i := 10) (v := .bool false) rfl (by kernel_rfl) (by kernel_rfl) (by kernel_rfl) (fun _ _ _ h => h) (Or.inl ⟨by rfl, fun w hS => by go_simp⟩) hHeld ?_
                      simp only [Act.put, List.getElem_toArray, List.getElem_cons_zero, List.getElem_cons_succ, List.setIfInBounds_toArray, List.set_cons_zero, List.set_cons_succ]
                      refine wpAnyH_take (i := 11) (v := undef) rfl (by kernel_rfl) (by kernel_rfl) (by kernel_rfl) (fun _ _ _ h => h) (Or.inr ⟨by rfl, rfl⟩) hHeld ?_
                      simp only [Act.put, List.getElem_toArray, List.getElem_cons_zero, List.getElem_cons_succ, List.setIfInBounds_toArray, List.set_cons_zero, List.set_cons_succ]
                      refine wpAnyH_take (i := 12) (v := undef) rfl (by kernel_rfl) (by kernel_rfl) (by kernel_rfl) (fun _ _ _ h => h) (Or.inr ⟨by rfl, rfl⟩) hHeld ?_
                      simp only [Act.put, List.getElem_toArray, List.getElem_cons_zero, List.getElem_cons_succ, List.setIfInBounds_toArray, List.set_cons_zero, List.set_cons_succ]
                      refine wpAnyH_take (i := 13) (v := undef) rfl (by kernel_rfl) (by kernel_rfl) (by kernel_rfl) (fun _ _ _ h => h) (Or.inr ⟨by rfl, rfl⟩) hHeld ?_
                      simp only [Act.put, List.getElem_toArray, List.getElem_cons_zero, List.getElem_cons_succ, List.setIfInBounds_toArray, List.set_cons_zero, List.set_cons_succ]
                      refine wpAnyH_take (i := 14) (v := undef) rfl (by kernel_rfl) (by kernel_rfl) (by kernel_rfl) (fun _ _ _ h => h) (Or.inr ⟨by rfl, rfl⟩) hHeld ?_
                      simp only [Act.put, List.getElem_toArray, List.getElem_cons_zero, List.getElem_cons_succ, List.setIfInBounds_toArray, List.set_cons_zero, List.set_cons_succ]
                      refine wpAnyH_take (i := 15) (v := undef) rfl (by kernel_rfl) (by kernel_rfl) (by kernel_rfl) (fun _ _ _ h => h) (Or.inr ⟨by rfl, rfl⟩) hHeld ?_
                      simp only [Act.put, List.getElem_toArray, List.getElem_cons_zero, List.getElem_cons_succ, List.setIfInBounds_toArray, List.set_cons_zero, List.set_cons_succ]
                      refine wpAnyH_take (i := 16) (v := .bool false) rfl (by kernel_rfl) (by kernel_rfl) (by kernel_rfl) (fun _ _ _ h => h) (Or.inl ⟨by rfl, fun w hS => by go_simp⟩) hHeld ?_
                      simp only [Act.put, List.getElem_toArray, List.getElem_cons_zero, List.getElem_cons_succ, List.setIfInBounds_toArray, List.set_cons_zero, List.set_cons_succ]
                      refine wpAnyH_take (i := 17) (v := .bool false) rfl (by kernel_rfl) (by kernel_rfl) (by kernel_rfl) (fun _ _ _ h => h) (Or.inl ⟨by rfl, fun w hS => by go_simp⟩) hHeld ?_
                      simp only [Act.put, List.getElem_toArray, List.getElem_cons_zero, List.getElem_cons_succ, List.setIfInBounds_toArray, List.set_cons_zero, List.set_cons_succ]
                      refine wpAnyH_take (i := 18) (v := .bool false) rfl (by kernel_rfl) (by kernel_rfl) (by kernel_rfl) (fun _ _ _ h => h) (Or.inl ⟨by rfl, fun w hS => by go_simp⟩) hHeld ?_
                      simp only [Act.put, List.getElem_toArray, List.getElem_cons_zero, List.getElem_cons_succ, List.setIfInBounds_toArray, List.set_cons_zero, List.set_cons_succ]
                      refine wpAnyH_take (i := 19) (v := .slice va n vc) rfl (by kernel_rfl) (by kernel_rfl) (by kernel_rfl) (fun _ _ _ h => h) (Or.inl ⟨by rfl, fun w hS => by go_simp⟩) hHeld ?_
                      simp only [Act.put, List.getElem_toArray, List.getElem_cons_zero, List.getElem_cons_succ, List.setIfInBounds_toArray, List.set_cons_zero, List.set_cons_succ]
                      refine wpAnyH_take (i := 20) (v := .int .i64 n) rfl (by kernel_rfl) (by kernel_rfl) (by kernel_rfl) (fun _ _ _ h => h) (Or.inl ⟨by rfl, fun w hS => by go_simp⟩) hHeld ?_
                      simp only [Act.put, List.getElem_toArray, List.getElem_cons_zero, List.getElem_cons_succ, List.setIfInBounds_toArray, List.set_cons_zero, List.set_cons_succ]
                      refine wpAnyH_take (i := 21) (v := .bool true) rfl (by kernel_rfl) (by kernel_rfl) (by kernel_rfl) (fun _ _ _ h => h) (Or.inl ⟨by rfl, fun w hS => by go_simp⟩) hHeld ?_
                      simp only [Act.put, List.getElem_toArray, List.getElem_cons_zero, List.getElem_cons_succ, List.setIfInBounds_toArray, List.set_cons_zero, List.set_cons_succ]
                      refine wpAnyH_take (i := 22) (v := .bool true) rfl (by kernel_rfl) (by kernel_rfl) (by kernel_rfl) (fun _ _ _ h => h) (Or.inl ⟨by rfl, fun w hS => by go_simp⟩) hHeld ?_
                      simp only [Act.put, List.getElem_toArray, List.getElem_cons_zero, List.getElem_cons_succ, List.setIfInBounds_toArray, List.set_cons_zero, List.set_cons_succ]
                      refine wpAnyH_take (i := 23) (v := .agg (B r0)) rfl (by kernel_rfl) (by kernel_rfl) (by kernel_rfl) (fun _ _ _ h => h) (yieldsIf_load_mid rfl 25 (.tmp 7) rfl g7 0 rfl (B r0).toList _ (fun w hS => hS.1) Tryd.underlying25 rfl HLR.out) hHeld ?_
                      simp only [Act.put, List.getElem_toArray, List.getElem_cons_zero, List.getElem_cons_succ, List.setIfInBounds_toArray, List.set_cons_zero, List.set_cons_succ]
                      refine wpAnyH_ready (rs := [24]) (by kernel_rfl) (by simp) ?_
                      refine AllReadyH.cons rfl (fun KQ hK => ?_) AllReadyH.nil
                      go_simp
                      refine (HEm.out _ (HLd.out _ d0)).mono ?_
                      rintro e y1 ⟨rfl, a1⟩
                      have d1 := grow_trans d0 a1
                      refine hK.out _ _ (HS.out _ d1) (fun hHeld => ?_)
                      clear hK KQ
                      refine wpAnyH_take (i := 25) (v := .bool false) rfl (by kernel_rfl) (by kernel_rfl) (by kernel_rfl) (fun _ _ _ h => h) (Or.inl ⟨by rfl, fun w hS => by go_simp⟩) hHeld ?_
                      simp only [Act.put, List.getElem_toArray, List.getElem_cons_zero, List.getElem_cons_succ, List.setIfInBounds_toArray, List.set_cons_zero, List.set_cons_succ]
                      refine wpAnyH_take (i := 26) (v := .bool false) rfl (by kernel_rfl) (by kernel_rfl) (by kernel_rfl) (fun _ _ _ h => h) (Or.inl ⟨by rfl, fun w hS => by go_simp⟩) hHeld ?_
                      simp only [Act.put, List.getElem_toArray, List.getElem_cons_zero, List.getElem_cons_succ, List.setIfInBounds_toArray, List.set_cons_zero, List.set_cons_succ]
                      refine wpAnyH_take (i := 27) (v := .bool false) rfl (by kernel_rfl) (by kernel_rfl) (by kernel_rfl) (fun _ _ _ h => h) (Or.inl ⟨by rfl, fun w hS => by go_simp⟩) hHeld ?_
                      simp only [Act.put, List.getElem_toArray, List.getElem_cons_zero, List.getElem_cons_succ, List.setIfInBounds_toArray, List.set_cons_zero, List.set_cons_succ]
                      refine wpAnyH_done (by kernel_rfl) ?_ _
                      go_wp2_with fail
                      go_meet
                      case rel => exact ⟨rfl, d1⟩
                  · as_aux_lemma =>
                      have y1 : ¬ (1 : Int) < (n : Int) := by omega
                      have y2 : ((n : Int) == 0) = false := by simp; omega
                      have y3 : ¬ (n : Int) = 0 := by omega
                      go_wp2_with fail
                      refine wp_region_held_drew (S := fun w' => w'.rangeAt g7 0 (B r0).toList ∧ w'.rangeAt g19 0 (B q0).toList ∧ w'.rangeAt g21 0 (B q1).toList) (by kernel_rfl) (HS.out _ d0) (fun hHeld => ?_)
                      refine wpAnyH_take (i := 0) (v := .int .i64 0) rfl (by kernel_rfl) (by kernel_rfl) (by kernel_rfl) (fun _ _ _ h => h) (Or.inl ⟨by rfl, fun w hS => by go_simp⟩) hHeld ?_
                      simp only [Act.put, List.getElem_toArray, List.getElem_cons_zero, List.setIfInBounds_toArray, List.set_cons_zero, List.set_cons_succ]
                      refine wpAnyH_take (i := 1) (v := .bool false) rfl (by kernel_rfl) (by kernel_rfl) (by kernel_rfl) (fun _ _ _ h => h) (Or.inl ⟨by rfl, fun w hS => by go_simp⟩) hHeld ?_
                      simp only [Act.put, List.getElem_toArray, List.getElem_cons_zero, List.getElem_cons_succ, List.setIfInBounds_toArray, List.set_cons_zero, List.set_cons_succ]
                      refine wpAnyH_take (i := 2) (v := .bool false) rfl (by kernel_rfl) (by kernel_rfl) (by kernel_rfl) (fun _ _ _ h => h) (Or.inl ⟨by rfl, fun w hS => by go_simp⟩) hHeld ?_
                      simp only [Act.put, List.getElem_toArray, List.getElem_cons_zero, List.getElem_cons_succ, List.setIfInBounds_toArray, List.set_cons_zero, List.set_cons_succ]
                      refine wpAnyH_take (i := 3) (v := .int .i64 0) rfl (by kernel_rfl) (by kernel_rfl) (by kernel_rfl) (fun _ _ _ h => h) (Or.inl ⟨by rfl, fun w hS => by go_simp⟩) hHeld ?_
                      simp only [Act.put, List.getElem_toArray, List.getElem_cons_zero, List.getElem_cons_succ, List.setIfInBounds_toArray, List.set_cons_zero, List.set_cons_succ]
                      refine wpAnyH_take (i := 4) (v := .bool false) rfl (by kernel_rfl) (by kernel_rfl) (by kernel_rfl) (fun _ _ _ h => h) (Or.inl ⟨by rfl, fun w hS => by go_simp⟩) hHeld ?_
                      simp only [Act.put, List.getElem_toArray, List.getElem_cons_zero, List.getElem_cons_succ, List.setIfInBounds_toArray, List.set_cons_zero, List.set_cons_succ]
                      refine wpAnyH_take (i := 5) (v := .bool false) rfl (by kernel_rfl) (by kernel_rfl) (by kernel_rfl) (fun _ _ _ h => h) (Or.inl ⟨by rfl, fun w hS => by go_simp⟩) hHeld ?_
                      simp only [Act.put, List.getElem_toArray, List.getElem_cons_zero, List.getElem_cons_succ, List.setIfInBounds_toArray, List.set_cons_zero, List.set_cons_succ]
                      refine wpAnyH_take (i := 6) (v := .bool false) rfl (by kernel_rfl) (by kernel_rfl) (by kernel_rfl) (fun _ _ _ h => h) (Or.inl ⟨by rfl, fun w hS => by go_simp⟩) hHeld ?_
                      simp only [Act.put, List.getElem_toArray, List.getElem_cons_zero, List.getElem_cons_succ, List.setIfInBounds_toArray, List.set_cons_zero, List.set_cons_succ]
                      refine wpAnyH_take (i := 7) (v := .slice va n vc) rfl (by kernel_rfl) (by kernel_rfl) (by kernel_rfl) (fun _ _ _ h => h) (Or.inl ⟨by rfl, fun w hS => by go_simp⟩) hHeld ?_
                      simp only [Act.put, List.getElem_toArray, List.getElem_cons_zero, List.getElem_cons_succ, List.setIfInBounds_toArray, List.set_cons_zero, List.set_cons_succ]
                      refine wpAnyH_take (i := 8) (v := .int .i64 n) rfl (by kernel_rfl) (by kernel_rfl) (by kernel_rfl) (fun _ _ _ h => h) (Or.inl ⟨by rfl, fun w hS => by go_simp⟩) hHeld ?_
                      simp only [Act.put, List.getElem_toArray, List.getElem_cons_zero, List.getElem_cons_succ, List.setIfInBounds_toArray, List.set_cons_zero, List.set_cons_succ]
                      refine wpAnyH_take (i := 9) (v := .bool false) rfl (by kernel_rfl) (by kernel_rfl) (by kernel_rfl) (fun _ _ _ h => h) (Or.inl ⟨by rfl, fun w hS => by go_simp⟩) hHeld ?_
                      simp only [Act.put, List.getElem_toArray, List.getElem_cons_zero, List.getElem_cons_succ, List.setIfInBounds_toArray, List.set_cons_zero, List.set_cons_succ]
                      refine wpAnyH_take (i := 10) (v := .bool false) rfl (by kernel_rfl) (by kernel_rfl) (by kernel_rfl) (fun _ _ _ h => h) (Or.inl ⟨by rfl, fun w hS => by go_simp⟩) hHeld ?_
                      simp only [Act.put, List.getElem_toArray, List.getElem_cons_zero, List.getElem_cons_succ, List.setIfInBounds_toArray, List.set_cons_zero, List.set_cons_succ]
                      refine wpAnyH_take (i := 11) (v := undef) rfl (by kernel_rfl) (by kernel_rfl) (by kernel_rfl) (fun _ _ _ h => h) (Or.inr ⟨by rfl, rfl⟩) hHeld ?_
                      simp only [Act.put, List.getElem_toArray, List.getElem_cons_zero, List.getElem_cons_succ, List.setIfInBounds_toArray, List.set_cons_zero, List.set_cons_succ]
                      refine wpAnyH_take (i := 12) (v := undef) rfl (by kernel_rfl) (by kernel_rfl) (by kernel_rfl) (fun _ _ _ h => h) (Or.inr ⟨by rfl, rfl⟩) hHeld ?_
                      simp only [Act.put, List.getElem_toArray, List.getElem_cons_zero, List.getElem_cons_succ, List.setIfInBounds_toArray, List.set_cons_zero, List.set_cons_succ]
                      refine wpAnyH_take (i := 13) (v := undef) rfl (by kernel_rfl) (by kernel_rfl) (by kernel_rfl) (fun _ _ _ h => h) (Or.inr ⟨by rfl, rfl⟩) hHeld ?_
                      simp only [Act.put, List.getElem_toArray, List.getElem_cons_zero, List.getElem_cons_succ, List.setIfInBounds_toArray, List.set_cons_zero, List.set_cons_succ]
                      refine wpAnyH_take (i := 14) (v := undef) rfl (by kernel_rfl) (by kernel_rfl) (by kernel_rfl) (fun _ _ _ h => h) (Or.inr ⟨by rfl, rfl⟩) hHeld ?_
                      simp only [Act.put, List.getElem_toArray, List.getElem_cons_zero, List.getElem_cons_succ, List.setIfInBounds_toArray, List.set_cons_zero, List.set_cons_succ]
                      refine wpAnyH_take (i := 15) (v := undef) rfl (by kernel_rfl) (by kernel_rfl) (by kernel_rfl) (fun _ _ _ h => h) (Or.inr ⟨by rfl, rfl⟩) hHeld ?_
                      simp only [Act.put, List.getElem_toArray, List.getElem_cons_zero, List.getElem_cons_succ, List.setIfInBounds_toArray, List.set_cons_zero, List.set_cons_succ]
                      refine wpAnyH_take (i := 16) (v := .bool false) rfl (by kernel_rfl) (by kernel_rfl) (by kernel_rfl) (fun _ _ _ h => h) (Or.inl ⟨by rfl, fun w hS => by go_simp⟩) hHeld ?_
                      simp only [Act.put, List.getElem_toArray, List.getElem_cons_zero, List.getElem_cons_succ, List.setIfInBounds_toArray, List.set_cons_zero, List.set_cons_succ]
                      refine wpAnyH_take (i := 17) (v := .bool false) rfl (by kernel_rfl) (by kernel_rfl) (by kernel_rfl) (fun _ _ _ h => h) (Or.inl ⟨by rfl, fun w hS => by go_simp⟩) hHeld ?_
                      simp only [Act.put, List.getElem_toArray, List.getElem_cons_zero, List.getElem_cons_succ, List.setIfInBounds_toArray, List.set_cons_zero, List.set_cons_succ]
                      refine wpAnyH_take (i := 18) (v := .bool false) rfl (by kernel_rfl) (by kernel_rfl) (by kernel_rfl) (fun _ _ _ h => h) (Or.inl ⟨by rfl, fun w hS => by go_simp⟩) hHeld ?_
                      simp only [Act.put, List.getElem_toArray, List.getElem_cons_zero, List.getElem_cons_succ, List.setIfInBounds_toArray, List.set_cons_zero, List.set_cons_succ]
                      refine wpAnyH_take (i := 19) (v := .slice va n vc) rfl (by kernel_rfl) (by kernel_rfl) (by kernel_rfl) (fun _ _ _ h => h) (Or.inl ⟨by rfl, fun w hS => by go_simp⟩) hHeld ?_
                      simp only [Act.put, List.getElem_toArray, List.getElem_cons_zero, List.getElem_cons_succ, List.setIfInBounds_toArray, List.set_cons_zero, List.set_cons_succ]
                      refine wpAnyH_take (i := 20) (v := .int .i64 n) rfl (by kernel_rfl) (by kernel_rfl) (by kernel_rfl) (fun _ _ _ h => h) (Or.inl ⟨by rfl, fun w hS => by go_simp⟩) hHeld ?_
                      simp only [Act.put, List.getElem_toArray, List.getElem_cons_zero, List.getElem_cons_succ, List.setIfInBounds_toArray, List.set_cons_zero, List.set_cons_succ]
                      refine wpAnyH_take (i := 21) (v := .bool false) rfl (by kernel_rfl) (by kernel_rfl) (by kernel_rfl) (fun _ _ _ h => h) (Or.inl ⟨by rfl, fun w hS => by go_simp⟩) hHeld ?_
                      simp only [Act.put, List.getElem_toArray, List.getElem_cons_zero, List.getElem_cons_succ, List.setIfInBounds_toArray, List.set_cons_zero, List.set_cons_succ]
                      refine wpAnyH_take (i := 22) (v := .bool false) rfl (by kernel_rfl) (by kernel_rfl) (by kernel_rfl) (fun _ _ _ h => h) (Or.inl ⟨by rfl, fun w hS => by go_simp⟩) hHeld ?_
                      simp only [Act.put, List.getElem_toArray, List.getElem_cons_zero, List.getElem_cons_succ, List.setIfInBounds_toArray, List.set_cons_zero, List.set_cons_succ]
                      refine wpAnyH_take (i := 23) (v := undef) rfl (by kernel_rfl) (by kernel_rfl) (by kernel_rfl) (fun _ _ _ h => h) (Or.inr ⟨by rfl, rfl⟩) hHeld ?_
                      simp only [Act.put, List.getElem_toArray, List.getElem_cons_zero, List.getElem_cons_succ, List.setIfInBounds_toArray, List.set_cons_zero, List.set_cons_succ]
                      refine wpAnyH_take (i := 24) (v := undef) rfl (by kernel_rfl) (by kernel_rfl) (by kernel_rfl) (fun _ _ _ h => h) (Or.inr ⟨by rfl, rfl⟩) hHeld ?_
                      simp only [Act.put, List.getElem_toArray, List.getElem_cons_zero, List.getElem_cons_succ, List.setIfInBounds_toArray, List.set_cons_zero, List.set_cons_succ]
                      refine wpAnyH_take (i := 25) (v := undef) rfl (by kernel_rfl) (by kernel_rfl) (by kernel_rfl) (fun _ _ _ h => h) (Or.inr ⟨by rfl, rfl⟩) hHeld ?_
                      simp only [Act.put, List.getElem_toArray, List.getElem_cons_zero, List.getElem_cons_succ, List.setIfInBounds_toArray, List.set_cons_zero, List.set_cons_succ]
                      refine wpAnyH_take (i := 26) (v := .bool false) rfl (by kernel_rfl) (by kernel_rfl) (by kernel_rfl) (fun _ _ _ h => h) (Or.inl ⟨by rfl, fun w hS => by go_simp⟩) hHeld ?_
                      simp only [Act.put, List.getElem_toArray, List.getElem_cons_zero, List.getElem_cons_succ, List.setIfInBounds_toArray, List.set_cons_zero, List.set_cons_succ]
                      refine wpAnyH_take (i := 27) (v := .bool false) rfl (by kernel_rfl) (by kernel_rfl) (by kernel_rfl) (fun _ _ _ h => h) (Or.inl ⟨by rfl, fun w hS => by go_simp⟩) hHeld ?_
                      simp only [Act.put, List.getElem_toArray, List.getElem_cons_zero, List.getElem_cons_succ, List.setIfInBounds_toArray, List.set_cons_zero, List.set_cons_succ]
                      refine wpAnyH_done (by kernel_rfl) ?_ _
                      go_wp2_with fail
                      go_meet
                      case rel => exact ⟨rfl, d0⟩
              case rest =>
                obtain ⟨rfl, hB⟩ := hcut
                replace KV := hidden (KV.out.step hB.out)
                replace KW := hidden (KW.out.step hB.out)
                replace KL := hidden (KL.out.step hB.out)
                replace K5 := hidden (K5.out.step hB.out)
                replace K7 := hidden (K7.out.step hB.out)
                clear hB HRA0 HRA1 KP0 KP1 K15 K19 K21 HMORE HNONE HFq0 HFq1 HQ0 HQ1 HLQ0 HLQ1 s15 s15b
                obtain ⟨k', a', b', c', d', hwn, hND, hup, hue, hthr⟩ := order_up (es := es) (key := key) HEB.out (by rw [HLEN.out]; omega) HKEYS.out
                have HDg := wyH_dgs es key
                obtain ⟨Hw, hHw⟩ : ∃ Hw, Hw = wyH es key := ⟨_, rfl⟩
                obtain ⟨nw, hnw⟩ : ∃ nw, nw = Hw.length := ⟨_, rfl⟩
                rw [← hHw] at hup hue HDg
                have HWy : Hid (∀ w', PrAt w' (.slice va n vc) V es → Laid w' → Calls Tryd.prog 27 #[.slice va n vc, .agg (B key)] w' fun e w'' => ∃ s1 s2, e = .returned (.tuple #[.agg (encR (.slice s1 nw s2) (nd k' a' b' c' d')).toArray, .int .i64 0]) ∧ HsAt w'' (.slice s1 nw s2) Hw ∧ Below w'.heap.size w' w'') := fun w' h hl2 => (way_any _ V es key w' h (by rw [HLEN.out]; omega) HKEY.out hl2).mono fun e w'' ⟨s1, s2, p1, p2, p3⟩ => by
                  rw [hwn, HEB.out, ← hHw, ← hnw] at p1
                  rw [← hHw] at p2
                  have p4 := hsAt_own p2 HDg
                  rw [← hnw] at p4
                  exact ⟨s1, s2, p1, p4, p3⟩
                have HUp : Hid (∀ w' s1 s2, HsAt w' (.slice s1 nw s2) Hw → Laid w' → Calls Tryd.prog 31 #[.agg (B key), .agg (encR (.slice s1 nw s2) (nd k' a' b' c' d')).toArray] w' fun e w'' => e = .returned (.tuple #[.agg (B r0), .int .i64 0]) ∧ Below w'.heap.size w' w'') := fun w' s1 s2 h hl2 => (up_any key _ Hw k' a' b' c' d' w' HKEY.out h hND hl2).mono fun e w'' q => by
                  obtain ⟨p1, p2⟩ := q
                  rw [hup, hue, ← HRR.out] at p1
                  exact ⟨p1, p2⟩
                obtain ⟨fp, hupr⟩ := u_proof
                have HUP := hidden hupr
                have HN129 := hND.length
                have HKN : Hid (∀ w' g t s, Blk w' g t (encR s (nd k' a' b' c' d')).toArray → w'.cell? ⟨g, 1, none⟩ = some (.int .u8 k') ∧ w'.rangeAt g 2 (B a').toList) := fun w' g t s q => ⟨proof_kind q, end_key q hND⟩
                have HLA := hidden (path_ln a' hND.la)
                have hqa : ∀ w, (Op.equalIn 10000 24 (.agg (B a')) (.agg (B key))).run Tryd.prog w = .ok (decide (a' = key)) w := fun w => path_eq a' key hND.la HKEY.out.1 w
                have HMEM := hidden hthr
                obtain ⟨Nw, hNw⟩ : ∃ Nw, Nw = nd k' a' b' c' d' := ⟨_, rfl⟩
                rw [← hNw] at HWy HUp HKN HN129
                have HSz : Hid (∀ sx sy, (Tryd.prog.info? 60).map (·.size) = some (encR (.slice sx nw sy) Nw).toArray.size ∧ (encR (.slice none 0 0) (List.replicate 129 0)).toArray.size = (encR (.slice sx nw sy) Nw).toArray.size) := fun sx sy => ⟨encR_sz _ Nw HN129, by simp [encR, HN129]⟩
                clear hwn hND hup hue hthr HDg hHw hnw hupr HN129 hNw
                by_cases hk1 : k' = 1
                · as_aux_lemma =>
                    have e1 : (k' == 1) = true := by simp [hk1]
                    have hθδ : decide (a' = key) = θ := by
                      rw [HTH.out]
                      apply decide_eq_decide.2
                      rw [← HMEM.out]
                      exact ⟨fun h => ⟨hk1, h⟩, fun h => h.2⟩
                    rw [hθδ] at hqa
                    clear hθδ hk1
                    cases θ
                    all_goals (
                    go_wp2_with (first
                      | ((with_reducible refine at_ldd 175 5 ?_); refine wpList_ld _ rfl _ _ rfl g5 _ rfl K5.out.now _ _ Tryd.underlying24 HKZ.out ?_)
                      | ((with_reducible refine at_ald 23 ?_); refine wpList_al _ rfl _ rfl _ zero_proof ?_; intro x402 g23 hg23 hl402 bq402 q402; clear hl402)
                      | ((with_reducible refine at_st 23 ?_); refine wpList_sto _ rfl _ _ _ rfl g23 _ ((encR (.slice s1 nw s2) Nw).toArray) rfl rfl bq402 (HSz.out s1 s2).1 (HSz.out s1 s2).2 (encR_one _ _ _ _) ?_; intro x403 by403 r403; have q403 := below_row q402 r403 hg23; replace KV := hidden (KV.out.step q403); replace KW := hidden (KW.out.step q403); replace KL := hidden (KL.out.step q403); replace K5 := hidden (K5.out.step q403); replace K7 := hidden (K7.out.step q403); replace KH := hidden (KH.out.step q403); have K23 := hidden by403.kp; clear q403 q402 r403 by403 bq402 hg23)
                      | ((with_reducible refine at_ldd 180 5 ?_); refine wpList_ld _ rfl _ _ rfl g5 _ rfl K5.out.now _ _ Tryd.underlying24 HKZ.out ?_)
                      | ((with_reducible refine at_ldd 181 23 ?_); refine wpList_lds _ rfl _ _ rfl g23 _ _ rfl K23.out.now HUP.out (HSz.out _ _).1 ?_)
                      | ((with_reducible refine at_ald 25 ?_); refine wpList_al _ rfl _ rfl _ zero_hash ?_; intro x405 g25 hg25 hl405 bq405 q405; clear hl405)
                      | ((with_reducible refine at_st 25 ?_); refine wpList_sto _ rfl _ _ _ rfl g25 _ (B r0) rfl rfl bq405 HF0.out.1 HF0.out.2 (B_one _) ?_; intro x406 by406 r406; have q406 := below_row q405 r406 hg25; replace KV := hidden (KV.out.step q406); replace KW := hidden (KW.out.step q406); replace KL := hidden (KL.out.step q406); replace K5 := hidden (K5.out.step q406); replace K7 := hidden (K7.out.step q406); replace KH := hidden (KH.out.step q406); replace K23 := hidden (K23.out.step q406); have K25 := hidden by406.kp; clear q406 q405 r406 by406 bq405 hg25; have k23 := (HKN.out _ _ _ _ K23.out.now).1)
                      | ((with_reducible refine at_ldd 192 25 ?_); refine wpList_ldg _ rfl _ _ rfl g25 _ rfl K25.out.now _ _ Tryd.underlying25 HF0.out.1 ?_)
                      | ((with_reducible refine at_ldd 193 7 ?_); refine wpList_ldg _ rfl _ _ rfl g7 _ rfl K7.out.now _ _ Tryd.underlying25 HF0.out.1 ?_)
                      | ((with_reducible refine at_ldd 205 204 ?_); refine wpList_lmg _ rfl 24 _ rfl g23 2 rfl (B a').toList _ (HKN.out _ _ _ _ K23.out.now).2 Tryd.underlying24 rfl HLA.out ?_)
                      | ((with_reducible refine at_ldd 206 5 ?_); refine wpList_ldg _ rfl _ _ rfl g5 _ rfl K5.out.now _ _ Tryd.underlying24 HKZ.out ?_)
                      | (go_at_call 31; refine (HUp.out _ _ _ KH.out.now KL.out.now).mono ?_; rintro e x404 ⟨rfl, q404⟩; replace KV := hidden (KV.out.step q404); replace KW := hidden (KW.out.step q404); replace KL := hidden (KL.out.step q404); replace K5 := hidden (K5.out.step q404); replace K7 := hidden (K7.out.step q404); replace KH := hidden (KH.out.step q404); replace K23 := hidden (K23.out.step q404); have mk_fnodeUp_1 : Hid True := trivial; clear q404)
                      | (go_at_call 27; refine (HWy.out _ KV.out.now KL.out.now).mono ?_; rintro e x401 ⟨s1, s2, rfl, hs1, q401⟩; replace KV := hidden (KV.out.step q401); replace KW := hidden (KW.out.step q401); replace KL := hidden (KL.out.step q401); replace K5 := hidden (K5.out.step q401); replace K7 := hidden (K7.out.step q401); have KH := hidden hs1.kp; clear hs1; have mk_fnodeWay_1 : Hid True := trivial; clear q401))
                    go_ret
                    exact ⟨rfl, KW.out.now⟩)
                · as_aux_lemma =>
                    have e1 : (k' == 1) = false := by simp [hk1]
                    have hθf : θ = false := by
                      rw [HTH.out]
                      apply decide_eq_false
                      rw [← HMEM.out]
                      exact fun h => hk1 h.1
                    subst hθf
                    clear hk1
                    go_wp2_with (first
                      | ((with_reducible refine at_ldd 175 5 ?_); refine wpList_ld _ rfl _ _ rfl g5 _ rfl K5.out.now _ _ Tryd.underlying24 HKZ.out ?_)
                      | ((with_reducible refine at_ald 23 ?_); refine wpList_al _ rfl _ rfl _ zero_proof ?_; intro x402 g23 hg23 hl402 bq402 q402; clear hl402)
                      | ((with_reducible refine at_st 23 ?_); refine wpList_sto _ rfl _ _ _ rfl g23 _ ((encR (.slice s1 nw s2) Nw).toArray) rfl rfl bq402 (HSz.out s1 s2).1 (HSz.out s1 s2).2 (encR_one _ _ _ _) ?_; intro x403 by403 r403; have q403 := below_row q402 r403 hg23; replace KV := hidden (KV.out.step q403); replace KW := hidden (KW.out.step q403); replace KL := hidden (KL.out.step q403); replace K5 := hidden (K5.out.step q403); replace K7 := hidden (K7.out.step q403); replace KH := hidden (KH.out.step q403); have K23 := hidden by403.kp; clear q403 q402 r403 by403 bq402 hg23)
                      | ((with_reducible refine at_ldd 180 5 ?_); refine wpList_ld _ rfl _ _ rfl g5 _ rfl K5.out.now _ _ Tryd.underlying24 HKZ.out ?_)
                      | ((with_reducible refine at_ldd 181 23 ?_); refine wpList_lds _ rfl _ _ rfl g23 _ _ rfl K23.out.now HUP.out (HSz.out _ _).1 ?_)
                      | ((with_reducible refine at_ald 25 ?_); refine wpList_al _ rfl _ rfl _ zero_hash ?_; intro x405 g25 hg25 hl405 bq405 q405; clear hl405)
                      | ((with_reducible refine at_st 25 ?_); refine wpList_sto _ rfl _ _ _ rfl g25 _ (B r0) rfl rfl bq405 HF0.out.1 HF0.out.2 (B_one _) ?_; intro x406 by406 r406; have q406 := below_row q405 r406 hg25; replace KV := hidden (KV.out.step q406); replace KW := hidden (KW.out.step q406); replace KL := hidden (KL.out.step q406); replace K5 := hidden (K5.out.step q406); replace K7 := hidden (K7.out.step q406); replace KH := hidden (KH.out.step q406); replace K23 := hidden (K23.out.step q406); have K25 := hidden by406.kp; clear q406 q405 r406 by406 bq405 hg25; have k23 := (HKN.out _ _ _ _ K23.out.now).1)
                      | ((with_reducible refine at_ldd 192 25 ?_); refine wpList_ldg _ rfl _ _ rfl g25 _ rfl K25.out.now _ _ Tryd.underlying25 HF0.out.1 ?_)
                      | ((with_reducible refine at_ldd 193 7 ?_); refine wpList_ldg _ rfl _ _ rfl g7 _ rfl K7.out.now _ _ Tryd.underlying25 HF0.out.1 ?_)
                      | (go_at_call 31; refine (HUp.out _ _ _ KH.out.now KL.out.now).mono ?_; rintro e x404 ⟨rfl, q404⟩; replace KV := hidden (KV.out.step q404); replace KW := hidden (KW.out.step q404); replace KL := hidden (KL.out.step q404); replace K5 := hidden (K5.out.step q404); replace K7 := hidden (K7.out.step q404); replace KH := hidden (KH.out.step q404); replace K23 := hidden (K23.out.step q404); have mk_fnodeUp_1 : Hid True := trivial; clear q404)
                      | (go_at_call 27; refine (HWy.out _ KV.out.now KL.out.now).mono ?_; rintro e x401 ⟨s1, s2, rfl, hs1, q401⟩; replace KV := hidden (KV.out.step q401); replace KW := hidden (KW.out.step q401); replace KL := hidden (KL.out.step q401); replace K5 := hidden (K5.out.step q401); replace K7 := hidden (K7.out.step q401); have KH := hidden hs1.kp; clear hs1; have mk_fnodeWay_1 : Hid True := trivial; clear q401))
                    go_ret
                    exact ⟨rfl, KW.out.now⟩
      · as_aux_lemma =>
          have hE1 : ¬ E1 = 0 := fun e => hE (hee.1 e)
          have h01 : (E0 == 0) = false := by simp [hE]
          have h02 : (E0 != 0) = true := by simp [hE]
          have h11 : (E1 == 0) = false := by simp [hE1]
          have HEm : Hid (∀ w', Laid w' → Calls Tryd.prog 34 #[] w' fun e w'' => e = .returned (.agg (B emD)) ∧ Below w'.heap.size w' w'') := fun w' hl => empty_any w' hl
          obtain ⟨D, hD⟩ : ∃ D, D = emD := ⟨_, rfl⟩
          rw [← hD] at HEm
          have hqe : ∀ w, (Op.equalIn 10000 25 (.agg (B D)) (.agg (B z32))).run Tryd.prog w = .ok false w := fun w => by
            have := hash_eq D z32 (by rw [hD]; exact dig_length _) rfl w
            rwa [decide_eq_false (by rw [hD]; exact emz_ne)] at this
          have HB : Hid (Tryd.prog.built 25 [] = some (B z32)) := built_hash
          clear hee hE hE1 hD
          go_wp2_with (first
            | ((with_reducible refine at_ald 13 ?_); refine wpList_al _ rfl _ rfl _ zero_hash ?_; intro x102 g13 hg13 hl102 bq102 q102; clear hl102)
            | ((with_reducible refine at_st 13 ?_); refine wpList_sto _ rfl _ _ _ rfl g13 _ (B r0) rfl rfl bq102 HF0.out.1 HF0.out.2 (B_one _) ?_; intro x103 by103 r103; have q103 := below_row q102 r103 hg13; replace KV := hidden (KV.out.step q103); replace KW := hidden (KW.out.step q103); replace KL := hidden (KL.out.step q103); replace K5 := hidden (K5.out.step q103); replace K7 := hidden (K7.out.step q103); have K13 := hidden by103.kp; clear q103 q102 r103 by103 bq102 hg13)
            | ((with_reducible refine at_ldd 90 7 ?_); refine wpList_ldg _ rfl _ _ rfl g7 _ rfl K7.out.now _ _ Tryd.underlying25 HF0.out.1 ?_)
            | ((with_reducible refine at_ldd 91 13 ?_); refine wpList_ldg _ rfl _ _ rfl g13 _ rfl K13.out.now _ _ Tryd.underlying25 HF0.out.1 ?_)
            | ((with_reducible refine at_bdd 97 ?_); refine wpList_bld _ rfl _ _ rfl _ (by rw [List.map_toArray]; exact HB.out) ?_)
            | (go_at_call 34; refine (HEm.out _ KL.out.now).mono ?_; rintro e x104 ⟨rfl, q104⟩; replace KV := hidden (KV.out.step q104); replace KW := hidden (KW.out.step q104); replace KL := hidden (KL.out.step q104); replace K5 := hidden (K5.out.step q104); replace K7 := hidden (K7.out.step q104); replace K13 := hidden (K13.out.step q104); have mk_ftagEmpty_1 : Hid True := trivial; clear q104)
            | (go_at_call 22; refine HRo.out.mono ?_; rintro e x101 ⟨rfl, q101⟩; replace KV := hidden (KV.out.step q101); replace KW := hidden (KW.out.step q101); replace KL := hidden (KL.out.step q101); replace K5 := hidden (K5.out.step q101); replace K7 := hidden (K7.out.step q101); clear q101))
          go_ret
          exact ⟨rfl, KW.out.now⟩

end Go.Proofs.YtjcklpdifanjlaaDoor

/- What a statement's arguments are in memory: of an argument that is a slice of bytes: it reads as bytes, and is no longer than memory. -/
namespace Go.Proofs.YtjcklpdifanjlaaDoor
set_option maxRecDepth 20000
open Go.ChangeShapes Go.WideShapes Go.ChangeAt Go.RowKit

theorem ownK : ownKnob Tryd.prog.godebug = none := by kernel_rfl
theorem laidOut : laidOutB Tryd.prog = true := by kernel_rfl
theorem cells_byte : Tryd.prog.cellsOf 5 = 1 := by kernel_rfl
theorem bytesOf_byte : Tryd.prog.bytesOf 5 = 1 := by kernel_rfl

/-- A slice of bytes that came in. -/
theorem arg_bytes {H : Type} {enc : TypeId × Value → H} {W : World} {base : Nat} {v : Value} {d : DataW H} {p : List MemPlace} (hv : Value.okWide Tryd.prog W .any base 28 v)
    (h : DataW.Trod enc Tryd.prog W 0 (fun _ => true) true 28 v d p) {ts : List TypeId} {ds : List (DataW H)} (hsz : (DataW.weightsEach Tryd.prog ts ds).all (· ≤ reachBytes) = true) (j : Nat) (ht : ts[j]? = some 28) (hd : ds[j]? = some d) :
    ∃ zs, Reads W v zs ∧ zs.length ≤ 140737488355328 - 4096 ∧ ((d = .nil ∧ zs = []) ∨ ∃ el sp, d = .slice el sp ∧ el.length = zs.length) := by
  obtain ⟨a, len, cap, rfl⟩ := okWide_slice u_bytes hv
  obtain ⟨fuel, hf⟩ := h
  rcases open_ints u_bytes u_byte cells_byte hf with ⟨hcs, hx⟩ | ⟨x, l, c, zs, hcs, _, hl, hm, hz, hx, hcell, hwz⟩
  · simp [Value.cells] at hcs
    obtain ⟨rfl, rfl, rfl⟩ := hcs
    simp only [Prod.mk.injEq] at hx
    exact ⟨[], Reads.nil _, by simp, .inl ⟨hx.1, rfl⟩⟩
  · simp [Value.cells] at hcs
    obtain ⟨rfl, rfl, rfl⟩ := hcs
    simp at hz
    simp only [Prod.mk.injEq] at hx
    have hlen : (zs.take len).length = len := by simp; omega
    have hs := sized_slice hsz ht (by rw [hd, hx.1]) u_bytes
    rw [bytesOf_byte] at hs
    simp only [lits, List.length_map, List.length_take, List.length_drop, reachBytes] at hs
    refine ⟨zs.take len, ⟨some x, cap, by rw [hlen], by omega, fun h => by simp at h, ?_, ?_⟩, by omega, .inr ⟨_, _, hx.1, by simp [lits]⟩⟩
    · intro z hz'
      have := bounds_u8 (hwz z (List.mem_of_mem_take hz'))
      omega
    · intro hp
      rw [hlen] at hp
      obtain ⟨b, off, spot⟩ := x
      have hspot : spot = none := by
        have := World.cell?_spot (hcell 0 (by omega))
        simpa [Addr.add] using this
      subst hspot
      refine ⟨b, off, rfl, fun i hi => ?_⟩
      rw [hlen] at hi
      have := hcell i (by omega)
      rw [Addr.add_lit] at this
      rw [this]
      simp [List.getD, hi]

end Go.Proofs.YtjcklpdifanjlaaDoor
