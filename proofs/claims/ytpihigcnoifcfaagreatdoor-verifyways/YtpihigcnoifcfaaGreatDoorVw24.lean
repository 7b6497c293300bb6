/- octet's Reader, its exported calls: each of Byte, U16, U32, Take, Left, Bad, Done as a contract over a reader of New's, over the zero Reader and over nil. -/
import Derived.Test.YtpihigcnoifcfaaGreatDoorVw23
import Derived.Test.YtpihigcnoifcfaaGreatDoorVw12
namespace Go.Proofs.YtpihigcnoifcfaaGreatDoor
set_option maxRecDepth 20000
open Go.RowKit

set_option maxHeartbeats 400000 in
theorem u16_of (r : Value) (x : Int) (w : World) (R : World → Prop) (h : Calls Tryz.prog 91 #[r, .int .i64 2] w fun e w' => e = .returned (.int .i64 x) ∧ R w') :
    Calls Tryz.prog 64 #[r] w fun e w' => e = .returned (.int .i64 x) ∧ R w' := by
  have HH : Hid (Calls Tryz.prog 91 #[r, .int .i64 2] w fun e w' => e = .returned (.int .i64 x) ∧ R w') := h
  clear h
  go_enter Tryz.func64, Tryz.ntmps64
  go_wp2_with (go_at_call 91; refine HH.out.mono ?_; rintro e w1 ⟨rfl, hR⟩)
  go_ret
  exact ⟨rfl, hR⟩

set_option maxHeartbeats 400000 in
theorem take_of (r : Value) (n : Int) (zs : List Int) (w : World) (R : World → Prop) (hl : zs.length ≤ 140737488355328)
    (h : Calls Tryz.prog 67 #[r, .int .i64 n] w fun e w' => ∃ v, e = .returned v ∧ Reads w' v zs ∧ R w') :
    Calls Tryz.prog 44 #[r, .int .i64 n] w fun e w' => ∃ w1 a c sp, e = .returned (.slice a zs.length c) ∧ R w1 ∧ Own w1.heap.size w' (.slice a zs.length c) zs sp ∧ Below w1.heap.size w1 w' := by
  have HH : Hid (Calls Tryz.prog 67 #[r, .int .i64 n] w fun e w' => ∃ v, e = .returned v ∧ Reads w' v zs ∧ R w') := h
  clear h
  go_enter Tryz.func44, Tryz.ntmps44
  go_wp2_with (first | (go_at_call 67; refine HH.out.mono ?_; rintro e w1 ⟨v, rfl, hv, hR⟩) | (go_at_call 63; refine (oclone_any _ zs _ hv hl).mono ?_; rintro e w2 ⟨a, c, sp, rfl, h5, h6⟩))
  go_ret
  exact ⟨w1, a, c, sp, rfl, hR, h5, h6⟩

set_option maxHeartbeats 400000 in
theorem otake_none (r : Value) (n : Int) (w : World) (R : World → Prop)
    (h : Calls Tryz.prog 67 #[r, .int .i64 n] w fun e w' => e = .returned (.slice none 0 0) ∧ R w') :
    Calls Tryz.prog 44 #[r, .int .i64 n] w fun e w' => e = .returned (.slice none 0 0) ∧ R w' := by
  have HH : Hid (Calls Tryz.prog 67 #[r, .int .i64 n] w fun e w' => e = .returned (.slice none 0 0) ∧ R w') := h
  clear h
  go_enter Tryz.func44, Tryz.ntmps44
  go_wp2_with (first | (go_at_call 67; refine HH.out.mono ?_; rintro e w1 ⟨rfl, hR⟩) | (go_at_call 63; refine (clone_nil _).mono ?_; rintro e w2 ⟨rfl, rfl⟩))
  go_ret
  exact ⟨rfl, hR⟩

/-! ### Left, Bad, Done -/

theorem left_nil (w : World) : Calls Tryz.prog 45 #[.pointer none] w fun e w' => e = .returned (.int .i64 0) ∧ w' = w := by
  go_enter Tryz.func45, Tryz.ntmps45
  go_wp2_with (go_at_call 68; refine (rgood_nil _).mono ?_; rintro e w' ⟨rfl, rfl⟩)
  go_ret
  exact ⟨rfl, rfl⟩

theorem bad_nil (w : World) : Calls Tryz.prog 65 #[.pointer none] w fun e w' => e = .returned (.bool false) ∧ w' = w := by
  go_enter Tryz.func65, Tryz.ntmps65
  go_wp2
  go_ret
  exact ⟨rfl, rfl⟩

set_option maxHeartbeats 400000 in
theorem left_not (b o : Nat) (m d : Bool) (w : World) (hm : w.cell? ⟨b, o + 1, none⟩ = some (.bool m)) (hd : w.cell? ⟨b, o + 2, none⟩ = some (.bool d)) (hn : (m && !d) = false) :
    Calls Tryz.prog 45 #[.pointer (some ⟨b, o, none⟩)] w fun e w' => e = .returned (.int .i64 0) ∧ w' = w := by
  go_enter Tryz.func45, Tryz.ntmps45
  go_wp2_with (go_at_call 68; refine (rgood_at _ _ _ _ _ hm hd).mono ?_; rintro e w' ⟨rfl, rfl⟩)
  go_ret
  exact ⟨rfl, rfl⟩

set_option maxHeartbeats 400000 in
theorem left_ok (b o : Nat) (a : Option Addr) (l c : Nat) (w : World) (hr : w.cell? ⟨b, o, none⟩ = some (.slice a l c)) (hm : w.cell? ⟨b, o + 1, none⟩ = some (.bool true)) (hd : w.cell? ⟨b, o + 2, none⟩ = some (.bool false)) :
    Calls Tryz.prog 45 #[.pointer (some ⟨b, o, none⟩)] w fun e w' => e = .returned (.int .i64 l) ∧ w' = w := by
  go_enter Tryz.func45, Tryz.ntmps45
  go_wp2_with (go_at_call 68; refine (rgood_at _ _ _ _ _ hm hd).mono ?_; rintro e w' ⟨rfl, rfl⟩)
  go_ret
  exact ⟨rfl, rfl⟩

set_option maxHeartbeats 400000 in
theorem bad_at (b o : Nat) (d : Bool) (w : World) (hd : w.cell? ⟨b, o + 2, none⟩ = some (.bool d)) :
    Calls Tryz.prog 65 #[.pointer (some ⟨b, o, none⟩)] w fun e w' => e = .returned (.bool d) ∧ w' = w := by
  go_enter Tryz.func65, Tryz.ntmps65
  go_wp2
  go_ret
  exact ⟨rfl, rfl⟩

theorem rd_left (b : Nat) (zs : List Int) (bad : Bool) (w : World) (o : Option Nat) (h : Rd w b o zs bad) :
    Calls Tryz.prog 45 #[.pointer (some ⟨b, 0, none⟩)] w fun e w' => e = .returned (.int .i64 (if bad then 0 else zs.length : Nat)) ∧ w' = w := by
  obtain ⟨a, c, h1, h2, c0, c1, c2, hf, hlc, hl, hx, rfl⟩ := h.cells
  cases bad
  · exact left_ok b 0 a _ c w c0 c1 c2
  · exact left_not b 0 true true w c1 c2 rfl

theorem rd_bad (b : Nat) (zs : List Int) (bad : Bool) (w : World) (o : Option Nat) (h : Rd w b o zs bad) :
    Calls Tryz.prog 65 #[.pointer (some ⟨b, 0, none⟩)] w fun e w' => e = .returned (.bool bad) ∧ w' = w := by
  obtain ⟨a, c, h1, h2, c0, c1, c2, hf, hlc, hl, hx, rfl⟩ := h.cells
  exact bad_at b 0 bad w c2

end Go.Proofs.YtpihigcnoifcfaaGreatDoor

/- octet's Reader, a call of Take and of U16 in one law each, good reader or bad. -/
namespace Go.Proofs.YtpihigcnoifcfaaGreatDoor
set_option maxRecDepth 20000
open Go.RowKit

/-- What Take tells, what is left, whether the reader is bad now. -/
def tk (bad : Bool) (zs : List Int) (n : Nat) : List Int × List Int × Bool := if bad = false ∧ n ≤ zs.length then (zs.take n, zs.drop n, false) else ([], zs, true)
theorem tk_ok {zs : List Int} {n : Nat} (h : n ≤ zs.length) : tk false zs n = (zs.take n, zs.drop n, false) := if_pos ⟨rfl, h⟩
theorem tk_few {bad : Bool} {zs : List Int} {n : Nat} (h : zs.length < n) : tk bad zs n = ([], zs, true) := if_neg fun q => by omega
theorem tk_bad (zs : List Int) (n : Nat) : tk true zs n = ([], zs, true) := if_neg fun q => by simp at q

theorem rd_take (b n : Nat) (zs : List Int) (bad : Bool) (o : Option Nat) (w : World) (h : Rd w b o zs bad) :
    Calls Tryz.prog 44 #[.pointer (some ⟨b, 0, none⟩), .int .i64 (n : Int)] w fun e w' => ∃ a c sp, e = .returned (.slice a (tk bad zs n).1.length c) ∧ Own w.heap.size w' (.slice a (tk bad zs n).1.length c) (tk bad zs n).1 sp ∧ Rd w' b o (tk bad zs n).2.1 (tk bad zs n).2.2 ∧ w.grownBy w' (some b) := by
  cases bad with
  | true =>
    rw [tk_bad]
    refine (otake_none _ _ w (fun w' => w' = w) (rd_cut_not b zs n w o h)).mono ?_
    rintro e w' ⟨rfl, rfl⟩
    exact ⟨none, 0, [], rfl, Own.nil _ _, h, World.grownBy.refl _ _⟩
  | false =>
    by_cases hn : n ≤ zs.length
    · rw [tk_ok hn]
      have hl : (zs.take n).length = n := by rw [List.length_take]; omega
      have hz : zs.length ≤ 140737488355328 := by obtain ⟨_, _, _, hz, _⟩ := h; exact hz
      refine (take_of _ _ (zs.take n) w (fun w' => Rd w' b o (zs.drop n) false ∧ w.grownBy w' (some b) ∧ w'.heap.size = w.heap.size) (by rw [hl]; omega) ((rd_cut_ok b zs n w o h hn).mono ?_)).mono ?_
      · rintro e w' ⟨a, c, h1, h2, h3, h4, h5⟩
        exact ⟨_, h1, h2, h3, h4, h5⟩
      · rintro e w' ⟨w1, a, c, sp, h1, ⟨h2, h3, h4⟩, h5, h6⟩
        exact ⟨a, c, sp, h1, by rw [← h4]; exact h5, h2.grow h6, grown_trans h3 (below_grown h6 _)⟩
    · rw [tk_few (by omega)]
      refine (otake_none _ _ w (fun w' => w' = w.setCell ⟨b, 0 + 2, none⟩ (.bool true)) (rd_cut_bad b zs n w o h (.inr (by omega)))).mono ?_
      rintro e w' ⟨rfl, rfl⟩
      exact ⟨none, 0, [], rfl, Own.nil _ _, h.bad, grown_setCell _ _ _ _⟩

theorem rd_u16 (b : Nat) (zs : List Int) (o : Option Nat) (w : World) (h : Rd w b o zs false) :
    Calls Tryz.prog 64 #[.pointer (some ⟨b, 0, none⟩)] w fun e w' => e = .returned (.int .i64 (if 2 ≤ zs.length then numOf (zs.take 2) else 0)) ∧ Rd w' b o (tk false zs 2).2.1 (tk false zs 2).2.2 ∧ w.grownBy w' (some b) := by
  by_cases hn : 2 ≤ zs.length
  · rw [tk_ok hn, if_pos hn]
    exact (u16_of _ _ w (fun w' => Rd w' b o (zs.drop 2) false ∧ w.grownBy w' (some b)) ((rd_number_ok b zs 2 w o h hn (by omega) (by omega)).mono fun e w' ⟨h1, h2, h3, _⟩ => ⟨h1, h2, h3⟩))
  · rw [tk_few (by omega), if_neg hn]
    refine (u16_of _ _ w (fun w' => w' = w.setCell ⟨b, 0 + 2, none⟩ (.bool true)) (rd_number_bad b zs 2 w o h (by omega))).mono ?_
    rintro e w' ⟨rfl, rfl⟩
    exact ⟨rfl, h.bad, grown_setCell _ _ _ _⟩

end Go.Proofs.YtpihigcnoifcfaaGreatDoor

/- Sides read one by one into a slice that was made for all of them. -/
namespace Go.Proofs.YtpihigcnoifcfaaGreatDoor
set_option maxRecDepth 20000
open Go.RowKit

/-- The sides so far, zeros behind them. -/
def psL (S : List (List Int)) (n : Nat) : List Int := S.flatten ++ List.replicate ((n - S.length) * 32) 0
theorem flat_len : ∀ {S : List (List Int)}, Dg S → S.flatten.length = S.length * 32
  | [], _ => rfl
  | x :: S, h => by
    have i := flat_len (S := S) fun y hy => h y (List.mem_cons_of_mem _ hy)
    have e := (h x (by simp)).1
    rw [List.flatten_cons, List.length_append, i, e, List.length_cons]
    omega
theorem psL_length {S : List (List Int)} {n : Nat} (h : Dg S) (hn : S.length ≤ n) : (psL S n).length = n * 32 := by
  rw [psL, List.length_append, flat_len h, List.length_replicate, ← Nat.add_mul]
  congr 1
  omega
theorem psL_nil (n : Nat) : psL [] n = List.replicate (n * 32) 0 := by simp [psL]
theorem psL_all {S : List (List Int)} {n : Nat} (hn : S.length = n) : psL S n = S.flatten := by simp [psL, hn]
theorem psL_snoc {S : List (List Int)} {n : Nat} (x : List Int) : psL (S ++ [x]) n = S.flatten ++ (x ++ List.replicate ((n - (S.length + 1)) * 32) 0) := by
  rw [psL, List.length_append, List.flatten_append]
  simp
theorem psL_zero {S : List (List Int)} {n : Nat} (hn : S.length < n) : psL (S ++ [z32]) n = psL S n := by
  rw [psL_snoc, psL, z32, List.replicate_append_replicate]
  congr 2
  have : n - S.length = n - (S.length + 1) + 1 := by omega
  rw [this, Nat.add_mul]
  omega
theorem psL_put {S : List (List Int)} {n k : Nat} (h : Dg S) (hk : S.length = k) (hn : k < n) (x : List Int) : ((B (psL S n)).toList.take (k * 32) ++ (x.map (Value.int .u8) ++ (B (psL S n)).toList.drop (k * 32 + 32))).toArray = B (psL (S ++ [x]) n) := by
  have hf := flat_len h
  rw [hk] at hf
  have e : n - k = 1 + (n - (k + 1)) := by omega
  have e2 : psL S n = S.flatten ++ (List.replicate 32 0 ++ List.replicate ((n - (k + 1)) * 32) 0) := by
    rw [psL, hk, List.replicate_append_replicate]
    congr 2
    rw [e, Nat.add_mul]
  apply Array.ext'
  rw [psL_snoc, hk, B_toList, B_toList, e2]
  simp only [List.map_append]
  have hl : (S.flatten.map (Value.int .u8)).length = k * 32 := by rw [List.length_map, hf]
  rw [← hl, List.take_left, ← List.drop_drop, List.drop_left]
  congr 2

theorem flat_map {S : List (List Int)} : flatH S = (S.flatten).map (Value.int .u8) := by
  induction S with
  | nil => rfl
  | cons x S ih =>
    rw [List.flatten_cons, List.map_append, ← ih]
    rfl
theorem psL_own {w : World} {g n base : Nat} {S : List (List Int)} (hb : Blk w g 25 (B (psL S n))) (hS : S.length = n) (hd : Dg S) (hbase : base ≤ g) (hn : n ≤ 4096) : w.ownsRow base 25 32 (.slice (some ⟨g, 0, none⟩) n n) n (flatH S) := by
  have hl := flat_len hd
  rw [hS] at hl
  refine ⟨by rw [flat_map, List.length_map, hl], .inr ⟨g, n, B (psL S n), rfl, hbase, hb, Nat.le_refl _, by simp only [maxLen]; omega, ?_, ?_⟩⟩
  · rw [B_size, psL_all hS, hl]
  · rw [psL_all hS, B_toList, flat_map, List.take_of_length_le (by rw [List.length_map, hl]; omega)]

theorem made_hash (n : Nat) : madeCells (B (List.replicate 32 0)) n = B (List.replicate n 0) := by
  apply Array.ext
  · rw [size_madeCells, B_size, List.length_replicate]
  · intro i h1 h2
    have h3 : i < n := by rw [size_madeCells] at h1; exact h1
    have hm : i % 32 < 32 := Nat.mod_lt _ (by omega)
    have hsz : (B (List.replicate 32 0)).size = 32 := rfl
    simp only [madeCells, Array.getElem_map, Array.getElem_range, hsz]
    rw [getElem!_pos _ _ (by rw [hsz]; exact hm)]
    have hall : ∀ (m : Nat) v, v ∈ B (List.replicate m 0) → v = Value.int .u8 0 := fun m v hv => by
      simp only [B, List.mem_toArray, List.mem_map] at hv
      obtain ⟨z, hz, rfl⟩ := hv
      rw [List.eq_of_mem_replicate hz]
    rw [hall 32 _ (Array.getElem_mem _), hall n _ (Array.getElem_mem h2)]

/-- make([]api.Hash, n) in a region that draws its order. -/
theorem step_mkh {ops : Array Oper} {o : Oper} {a : Act} {K : Act → World → Prop} {Q : Exit → Act → World → Prop} {E : Prop} (w : World) (hgd : o.guard = none) (x y : Operand)
    (hop : o.op = Op.makeSlice 30 x y) (n : Nat) (hx : a.eval x = .int .i64 (n : Int)) (hy : a.eval y = .int .i64 (n : Int)) (hn : n ≤ 4096)
    (h : ∀ w', Blk w' w.heap.size 25 (B (List.replicate (n * 32) 0)) → Below w.heap.size w w' → K (a.put o.dst (.slice (some ⟨w.heap.size, 0, none⟩) n n)) w') : if Region.wanted o (yielded ops a.tmps) = true then Oper.wp Tryz.prog o a w K Q else E := by
  have hw : Region.wanted o (yielded ops a.tmps) = true := by simp [Region.wanted, hgd]
  rw [if_pos hw]
  obtain ⟨i, z, hi, hz, hs, hby, hzc⟩ : ∃ i z, Tryz.prog.info? 25 = some i ∧ i.zero = some z ∧ i.size = 32 ∧ i.bytes = 32 ∧ z.cells = B (List.replicate 32 0) := ⟨_, _, rfl, rfl, rfl, rfl, rfl⟩
  have hr := run_make (P := Tryz.prog) w 30 25 i z Tryz.underlying30 hi hz .i64 .i64 n n (by omega) (by omega) (by rw [hby]; omega) (by omega)
  rw [hs, hzc] at hr
  simp only [Int.toNat_natCast] at hr
  rw [made_hash] at hr
  unfold Oper.wp
  simp [execOp, hop, hx, hy, hr, Result.andThen]
  exact h _ (heap_alloc_new w _) (grow_alloc w _)

/-- copy of nothing in a region that draws its order. -/
theorem step_cp0 {ops : Array Oper} {o : Oper} {a : Act} {K : Act → World → Prop} {Q : Exit → Act → World → Prop} {E : Prop} (w : World) (hgd : o.guard = none) (d s : Operand)
    (hop : o.op = .call { callee := .builtin .copy, args := #[d, s], argTypes := #[26, 26] })
    (dp sp : Option Addr) (dLen dCap sCap : Nat) (hd : a.eval d = .slice dp dLen dCap) (hs : a.eval s = .slice sp 0 sCap)
    (h : K (a.put o.dst (goInt 0)) w) : if Region.wanted o (yielded ops a.tmps) = true then Oper.wp Tryz.prog o a w K Q else E := by
  have hw : Region.wanted o (yielded ops a.tmps) = true := by simp [Region.wanted, hgd]
  rw [if_pos hw]
  have hrun := run_copy_none (P := Tryz.prog) w 26 26 o.type 5 dp sp dLen dCap 0 sCap u_bytes size_byte (Nat.zero_min _)
  unfold Oper.wp
  simp [execOp, hop, resolve, invoke, builtin, hd, hs, hrun, Result.andThen]
  exact h

theorem step_alv {ops : Array Oper} {op : Oper} {a : Act} {K : Act → World → Prop} {Q : Exit → Act → World → Prop} {E : Prop} (w : World) (hgd : op.guard = none) (ty : TypeId) (ho : op.op = .alloc ty) (cs : Array Value)
    (hz : ∀ w, (zeroValue ty).run Tryz.prog w = .ok (.agg cs) w)
    (hk : ∀ w', Blk w' w.heap.size ty cs → Below w.heap.size w w' → K (a.put op.dst (.pointer (some ⟨w.heap.size, 0, none⟩))) w') : if Region.wanted op (yielded ops a.tmps) = true then Oper.wp Tryz.prog op a w K Q else E := by
  have hw : Region.wanted op (yielded ops a.tmps) = true := by simp [Region.wanted, hgd]
  rw [if_pos hw]
  unfold Oper.wp execOp
  simp [ho, hz, Instr.alloc, newVar, Value.cells, newRow]
  exact hk _ (Blk.new w ty cs) (grow_alloc w _)

end Go.Proofs.YtpihigcnoifcfaaGreatDoor
