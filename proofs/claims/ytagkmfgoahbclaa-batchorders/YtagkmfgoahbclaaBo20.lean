/- Cells of a block that is known whole are there. -/
import Derived.Test.YtagkmfgoahbclaaBo04
import Derived.Test.YtagkmfgoahbclaaBo19
import Derived.Test.YtagkmfgoahbclaaBo10
namespace Go.Proofs.Ytagkmfgoahbclaa
set_option maxRecDepth 20000
open Go.RowKit

theorem Blk.there {w : World} {g : Nat} {t : TypeId} {cs : Array Value} (h : Blk w g t cs) (o n : Nat) (hn : o + n ≤ cs.size) : w.there g o n := fun j hj => ⟨by rw [h.cell, Array.getElem?_eq_getElem (by omega)]; rfl, h.frozen _⟩

end Go.Proofs.Ytagkmfgoahbclaa

/- slices.insertionSortCmpFunc at writes, and the function that they are sorted by, as contracts. -/
namespace Go.Proofs.Ytagkmfgoahbclaa
set_option maxRecDepth 20000
open Go.RowKit

theorem sz_path0 : (Try.prog.info? 34).map (·.size) = some 32 := by kernel_rfl

/-- load of a key. -/
theorem wpList_ldk0 {ops : Array Oper} {rest : List Oper} {op : Oper} {a : Act} {Q : Exit → Act → World → Prop} (w : World) (hgd : op.guard = none) (x : Operand) (ho : op.op = .load 34 x)
    (g o : Nat) (k : List Int) (hx : a.eval x = .pointer (some ⟨g, o, none⟩)) (h : w.rangeAt g o (B k).toList) (hl : k.length = 32)
    (hk : wpList Try.prog ops Q rest (a.put op.dst (.agg (B k))) w) : wpList Try.prog ops Q (op :: rest) a w :=
  wpList_load_mid hgd 34 x ho g o hx (B k).toList _ h Try.underlying34 rfl (by rw [B_toList, List.length_map, hl]; exact sz_path0) (by simpa using hk)

theorem Blk.rngW {w : World} {g : Nat} {t : TypeId} {x : Wt} (h : Blk w g t (encW x).toArray) : w.rangeAt g 0 (encW x) := fun j v hv => by
  rw [Nat.zero_add, h.cell]
  simpa using hv

/-- The function that writes are sorted by. -/
theorem byKey_any (X Y : Wt) (w : World) (hX : WtOk X) (hY : WtOk Y) : Calls Try.prog 24 #[.agg (encW X).toArray, .agg (encW Y).toArray] w fun e w' => e = .returned (.int .i64 (cmp X.k Y.k)) ∧ Below w.heap.size w w' := by
  have HC : Hid (∀ w', Calls Try.prog 25 #[.agg (B X.k), .agg (B Y.k)] w' fun e w'' => e = .returned (.int .i64 (cmp X.k Y.k)) ∧ Below w'.heap.size w' w'') := fun w' => pcompare_any X.k Y.k w' hX.hk hY.hk
  have L1 : Hid (X.k.length = 32) := hX.hk.1
  have L2 : Hid (Y.k.length = 32) := hY.hk.1
  obtain ⟨r, hr⟩ : ∃ r, r = cmp X.k Y.k := ⟨_, rfl⟩
  rw [← hr] at HC ⊢
  clear hX hY hr
  go_enter Try.func24, Try.ntmps24
  go_wp2_with (first
    | ((with_reducible refine at_bxd 2 ?_); refine wpList_bx _ rfl _ _ rfl _ rfl ?_; intro w1 g1 hg1 hl1 B1 b1)
    | ((with_reducible refine at_bxd 3 ?_); refine wpList_bx _ rfl _ _ rfl _ rfl ?_; intro w2 g2 hg2 hl2 B2 b2; have B1' := B1.grow b2)
    | ((with_reducible refine at_ldd 6 5 ?_); refine wpList_ldk0 _ rfl _ rfl g1 0 _ rfl (encW_key B1'.rngW) L1.out ?_)
    | ((with_reducible refine at_ldd 8 7 ?_); refine wpList_ldk0 _ rfl _ rfl g2 0 _ rfl (encW_key B2.rngW) L2.out ?_)
    | (go_at_call 25; refine (HC.out _).mono ?_; rintro e w3 ⟨rfl, b3⟩))
  go_ret
  exact ⟨rfl, grow_trans (grow_trans b1 b2) b3⟩

/-- A list of n writes that is being sorted: since w0 only its block turned. -/
structure Sw (w0 : World) (g n c : Nat) (w : World) (xs : List Wt) : Prop where
  len : xs.length = n
  own : Lst w 37 34 (.slice (some ⟨g, 0, none⟩) n c) n (flatE encW xs)
  mod : Mod [g] w0 w
  ok : ∀ x ∈ xs, WtOk x

theorem Sw.grow {w0 w w' : World} {g n c : Nat} {xs : List Wt} (h : Sw w0 g n c w xs) (hb : Below w.heap.size w w') : Sw w0 g n c w' xs := ⟨h.len, lst_grow h.own hb, h.mod.trans' (Mod.of_below hb _), h.ok⟩
theorem Sw.kys {w0 w : World} {g n c : Nat} {xs : List Wt} (h : Sw w0 g n c w xs) : Kys xs := fun x hx => (h.ok x hx).hk
theorem Sw.at {w0 w : World} {g n c : Nat} {xs : List Wt} (h : Sw w0 g n c w xs) (i : Nat) (hi : i < n) : w.rangeAt g (i * 34) (encW xs[i]!) ∧ w.there g (i * 34) 34 ∧ WtOk xs[i]! ∧ ky xs i = xs[i]!.k := by
  have hi' : i < xs.length := by rw [h.len]; exact hi
  have h1 := lstE_range h.own h.len (fun x hx => (h.ok x hx).len) i hi'
  rw [getElem!_pos xs i hi']
  refine ⟨h1.1, h1.2, h.ok _ (List.getElem_mem hi'), ?_⟩
  unfold ky
  rw [getElem!_pos xs i hi']
theorem Sw.swap {w0 w : World} {g n c : Nat} {xs : List Wt} (h : Sw w0 g n c w xs) (i j : Nat) (hi : i < n) (hj : j < n) : Sw w0 g n c ((w.setCells g (i * 34) (encW xs[j]!)).setCells g (j * 34) (encW xs[i]!)) (swp xs i j) := by
  obtain ⟨rfl, h2, h3, h4⟩ := h
  rw [getElem!_pos xs i hi, getElem!_pos xs j hj]
  have h5 := lsW_swp h2 h4 hi hj
  rw [swp_len] at h5
  refine ⟨swp_len _ _ _, h5, h3.trans' ((mod_setCells g (by simp) _ _ _).trans' (mod_setCells g (by simp) _ _ _)), fun x hx => h4 x ?_⟩
  obtain ⟨q, hq, rfl⟩ := List.mem_iff_getElem.1 hx
  have h6 := swp_get xs i j q hi hj
  rw [List.getElem?_eq_getElem hq] at h6
  exact List.mem_of_getElem? h6.symm

/-- store of a write in the midst of a block, in a region that draws its order. -/
theorem step_stw {ops : Array Oper} {o : Oper} {a : Act} {K : Act → World → Prop} {Q : Exit → Act → World → Prop} {E : Prop} (w : World) (hgd : o.guard = none) (ty : TypeId) (x y : Operand) (ho : o.op = .store ty x y)
    (b off : Nat) (cells : Array Value) (hx : a.eval x = .pointer (some ⟨b, off, none⟩)) (hy : a.eval y = .agg cells) (ht : w.there b off cells.size) (hi : (Try.prog.info? ty).map (·.size) = some cells.size) (h1 : cells.all (·.oneCell') = true)
    (h : K (a.put o.dst undef) (w.setCells b off cells.toList)) : if Region.wanted o (yielded ops a.tmps) = true then Oper.wp Try.prog o a w K Q else E := by
  have hw : Region.wanted o (yielded ops a.tmps) = true := by simp [Region.wanted, hgd]
  rw [if_pos hw]
  exact wp_store_mid ty x y ho b off cells hx hy ht hi h1 h

/-- TwoW writes of the list that is being sorted: all that a walk asks of them. -/
structure TwoW (w0 : World) (g n c : Nat) (w : World) (xs : List Wt) (i j : Nat) (X Y : Wt) : Prop where
  sw : Sw w0 g n c w xs
  rg : w.rangeAt g (i * 34) (encW X) ∧ w.rangeAt g (j * 34) (encW Y)
  sx : (Try.prog.info? 37).map (·.size) = some (encW X).length
  sy : (Try.prog.info? 37).map (·.size) = some (encW Y).length
  ax : (Try.prog.info? 37).map (·.size) = some (encW X).toArray.size
  ay : (Try.prog.info? 37).map (·.size) = some (encW Y).toArray.size
  ox : (encW X).toArray.all (·.oneCell') = true
  oy : (encW Y).toArray.all (·.oneCell') = true
  tx : w.there g (i * 34) (encW Y).toArray.size
  ty : (w.setCells g (i * 34) (encW Y)).there g (j * 34) (encW X).toArray.size
  swap : Sw w0 g n c ((w.setCells g (i * 34) (encW Y)).setCells g (j * 34) (encW X)) (swp xs i j)
  call : ∀ w', Calls Try.prog 24 #[.agg (encW X).toArray, .agg (encW Y).toArray] w' fun e w'' => e = .returned (.int .i64 (cmp X.k Y.k)) ∧ Below w'.heap.size w' w''
  lt : cmp X.k Y.k < 0 ↔ Ahead (ky xs i) (ky xs j)
  eq : cmp X.k Y.k = 0 ↔ ky xs i = ky xs j

theorem Sw.two {w0 w : World} {g n c : Nat} {xs : List Wt} (h : Sw w0 g n c w xs) (i j : Nat) (hi : i < n) (hj : j < n) : TwoW w0 g n c w xs i j xs[i]! xs[j]! := by
  obtain ⟨x1, x2, x3, x4⟩ := h.at i hi
  obtain ⟨y1, y2, y3, y4⟩ := h.at j hj
  have sx : (Try.prog.info? 37).map (·.size) = some (encW xs[i]!).length := by rw [x3.len]; exact size_write
  have sy : (Try.prog.info? 37).map (·.size) = some (encW xs[j]!).length := by rw [y3.len]; exact size_write
  refine ⟨h, ⟨x1, y1⟩, sx, sy, by rw [List.size_toArray]; exact sx, by rw [List.size_toArray]; exact sy, x3.all, y3.all, by rw [List.size_toArray, y3.len]; exact x2, by rw [List.size_toArray, x3.len]; exact there_sets y2 _ _ _, h.swap i j hi hj, fun w' => byKey_any _ _ w' x3 y3, ?_, ?_⟩
  · rw [x4, y4]
    exact al_cmp x3.hk y3.hk
  · rw [x4, y4]
    rcases cmp_key x3.hk y3.hk with ⟨q, e⟩ | ⟨q, e⟩ | ⟨q, e⟩
    · exact ⟨fun _ => e, fun _ => q⟩
    · exact ⟨fun h => by omega, fun h => absurd e (by rw [h]; exact al_irr _)⟩
    · exact ⟨fun h => by omega, fun h => absurd e (by rw [h]; exact al_irr _)⟩
theorem TwoW.grow {w0 w w' : World} {g n c : Nat} {xs : List Wt} {i j : Nat} {X Y : Wt} (h : TwoW w0 g n c w xs i j X Y) (hX : X = xs[i]!) (hY : Y = xs[j]!) (hi : i < n) (hj : j < n) (hb : Below w.heap.size w w') : TwoW w0 g n c w' xs i j X Y := by
  subst hX hY
  exact (h.sw.grow hb).two i j hi hj
theorem Sw.twos {w0 w : World} {g n c : Nat} {xs : List Wt} (h : Sw w0 g n c w xs) (i j : Nat) (hi : i < n) (hj : j < n) : ∃ X Y, (∀ w', Below w.heap.size w w' → TwoW w0 g n c w' xs i j X Y) := ⟨_, _, fun _ hb => (h.grow hb).two i j hi hj⟩

set_option maxRecDepth 100000 in
set_option maxHeartbeats 8000000 in
theorem ins_any (w0 : World) (g n c a b : Nat) (xs : List Wt) (w : World) (h : Sw w0 g n c w xs) (hab : a ≤ b) (hb : b ≤ n) (hn : n ≤ 65536) :
    Calls Try.prog 31 #[.slice (some ⟨g, 0, none⟩) n c, .int .i64 (a : Int), .int .i64 (b : Int), .func (.func 24) #[] #[]] w fun e w' => e = .returned (.tuple #[]) ∧ ∃ ys, Sw w0 g n c w' ys ∧ StR a b xs ys ∧ Srt a b ys := by
  obtain ⟨fs, hu⟩ := u_write
  have HUW := hidden hu
  have HSW := hidden h
  have hwa : wrap64 ((a : Int) + 1) = ((a + 1 : Nat) : Int) := by rw [Go.IntWalk.wrap64_in _ (by omega)]; rfl
  have HS0 : Hid (StR a b xs xs ∧ Srt a (a + 1) xs) := ⟨StR.refl hab (by rw [h.len]; exact hb), Srt.one a xs⟩
  have HL : Hid (∀ ys, StR a b xs ys → ys.length = n) := fun ys k => k.len.trans h.len
  clear h hu
  go_enter Try.func31, Try.ntmps31
  go_wp2_with fail
  clear hwa
  go_loopw [8] (fun iv wr => ∃ (k : Nat) (ys : List Wt), a < k ∧ k ≤ n + 1 ∧ iv = .int .i64 (k : Int) ∧ Hid (Sw w0 g n c wr ys) ∧ Hid (StR a b xs ys) ∧ Hid (Srt a k ys)) (fun iv _ => n + 1 - (intOf iv).toNat)
  case atStart => exact ⟨a + 1, xs, by omega, by omega, by rfl, HSW, HS0.out.1, HS0.out.2⟩
  case round =>
    clear HSW HS0
    obtain ⟨k, ys, hak, hkn, rfl, hsw, hst, hso⟩ := hrel
    by_cases hlt : k < b
    · as_aux_lemma =>
        have z1 : (k : Int) < (b : Int) := by omega
        have hwk : wrap64 ((k : Int) + 1) = ((k + 1 : Nat) : Int) := by rw [Go.IntWalk.wrap64_in _ (by omega)]; rfl
        have HB0 : Hid (But a k k ys) := But.of hso.out
        clear hso
        go_wp2_with fail
        go_loopw [9] (fun jv wr => ∃ (j : Nat) (ys : List Wt), a ≤ j ∧ j ≤ k ∧ jv = .int .i64 (j : Int) ∧ Hid (Sw w0 g n c wr ys) ∧ Hid (StR a b xs ys) ∧ Hid (But a k j ys)) (fun jv _ => (intOf jv).toNat)
        case atStart => exact ⟨k, ys, by omega, by omega, rfl, hsw, hst, HB0⟩
        case round =>
          clear HB0 hsw hst ys
          obtain ⟨j, ys, haj, hjk, rfl, hsw, hst, hbut⟩ := hrel
          have z1 : (k : Int) < (b : Int) := by omega
          have hwk : wrap64 ((k : Int) + 1) = ((k + 1 : Nat) : Int) := by rw [Go.IntWalk.wrap64_in _ (by omega)]; rfl
          by_cases hja : a < j
          · obtain ⟨j1, hj⟩ : ∃ j1, j = j1 + 1 := ⟨j - 1, by omega⟩
            have HJ := hidden hj
            have z2 : (a : Int) < (j : Int) := by omega
            have z3 : (0 : Int) ≤ (j : Int) := by omega
            have z4 : (j : Int) < (n : Int) := by omega
            have z5 : (0 : Int) ≤ (j1 : Int) := by omega
            have z6 : (j1 : Int) < (n : Int) := by omega
            have z7 : (j : Int) - 1 = (j1 : Int) := by omega
            have z8 : wrap64 (j1 : Int) = (j1 : Int) := Go.IntWalk.wrap64_in _ (by omega)
            have z9 : IntKind.i64.wrap (j1 : Int) = (j1 : Int) := by rw [IntKind.wrap_i64]; omega
            obtain ⟨X, Y, htwo⟩ := hsw.out.twos j j1 (by omega) (by omega)
            have HT := hidden htwo
            have HT0 := hidden (htwo wr (Below.refl _ _))
            have HCM : Hid (cmp X.k Y.k < 0 ↔ Ahead (ky ys j) (ky ys (j - 1))) := by show _ ↔ _; rw [show j - 1 = j1 by omega]; exact HT0.out.lt
            have HC := hidden HT0.out.call
            obtain ⟨r, hr⟩ : ∃ r, r = cmp X.k Y.k := ⟨_, rfl⟩
            rw [← hr] at HC HCM
            clear htwo hr hj
            go_wp2_with fail
            have d0 : Below wr.heap.size wr wr.drew := (Below.refl _ _).drew
            refine wp_region_held_drew (S := fun w' => w'.rangeAt g (j * 34) (encW X) ∧ w'.rangeAt g (j1 * 34) (encW Y)) (by kernel_rfl) ((HT.out _ d0).rg) (fun hHeld => ?_)
            refine wpAnyH_take (i := 0) (v := .int .i64 (j : Int)) rfl (by kernel_rfl) (by kernel_rfl) (by kernel_rfl) (fun _ _ _ h => h) (Or.inl ⟨by rfl, fun w hS => by go_simp⟩) hHeld ?_
            simp only [Act.put, List.getElem_toArray, List.getElem_cons_zero, List.setIfInBounds_toArray, List.set_cons_zero, List.set_cons_succ]
            refine wpAnyH_take (i := 1) (v := .int .i64 (a : Int)) rfl (by kernel_rfl) (by kernel_rfl) (by kernel_rfl) (fun _ _ _ h => h) (Or.inl ⟨by rfl, fun w hS => by go_simp⟩) hHeld ?_
            simp only [Act.put, List.getElem_toArray, List.getElem_cons_zero, List.getElem_cons_succ, List.setIfInBounds_toArray, List.set_cons_zero, List.set_cons_succ]
            refine wpAnyH_take (i := 2) (v := .bool true) rfl (by kernel_rfl) (by kernel_rfl) (by kernel_rfl) (fun _ _ _ h => h) (Or.inl ⟨by rfl, fun w hS => by go_simp⟩) hHeld ?_
            simp only [Act.put, List.getElem_toArray, List.getElem_cons_zero, List.getElem_cons_succ, List.setIfInBounds_toArray, List.set_cons_zero, List.set_cons_succ]
            refine wpAnyH_take (i := 3) (v := .bool true) rfl (by kernel_rfl) (by kernel_rfl) (by kernel_rfl) (fun _ _ _ h => h) (Or.inl ⟨by rfl, fun w hS => by go_simp⟩) hHeld ?_
            simp only [Act.put, List.getElem_toArray, List.getElem_cons_zero, List.getElem_cons_succ, List.setIfInBounds_toArray, List.set_cons_zero, List.set_cons_succ]
            refine wpAnyH_take (i := 4) (v := .func (.func 24) #[] #[]) rfl (by kernel_rfl) (by kernel_rfl) (by kernel_rfl) (fun _ _ _ h => h) (Or.inl ⟨by rfl, fun w hS => by go_simp⟩) hHeld ?_
            simp only [Act.put, List.getElem_toArray, List.getElem_cons_zero, List.getElem_cons_succ, List.setIfInBounds_toArray, List.set_cons_zero, List.set_cons_succ]
            refine wpAnyH_take (i := 5) (v := .slice (some ⟨g, 0, none⟩) n c) rfl (by kernel_rfl) (by kernel_rfl) (by kernel_rfl) (fun _ _ _ h => h) (Or.inl ⟨by rfl, fun w hS => by go_simp⟩) hHeld ?_
            simp only [Act.put, List.getElem_toArray, List.getElem_cons_zero, List.getElem_cons_succ, List.setIfInBounds_toArray, List.set_cons_zero, List.set_cons_succ]
            refine wpAnyH_take (i := 6) (v := .int .i64 (j : Int)) rfl (by kernel_rfl) (by kernel_rfl) (by kernel_rfl) (fun _ _ _ h => h) (Or.inl ⟨by rfl, fun w hS => by go_simp⟩) hHeld ?_
            simp only [Act.put, List.getElem_toArray, List.getElem_cons_zero, List.getElem_cons_succ, List.setIfInBounds_toArray, List.set_cons_zero, List.set_cons_succ]
            refine wpAnyH_take (i := 7) (v := .pointer (some ⟨g, j * 34, none⟩)) rfl (by kernel_rfl) (by kernel_rfl) (by kernel_rfl) (fun _ _ _ h => h) (Or.inl ⟨by rfl, fun w hS => by go_simp⟩) hHeld ?_
            simp only [Act.put, List.getElem_toArray, List.getElem_cons_zero, List.getElem_cons_succ, List.setIfInBounds_toArray, List.set_cons_zero, List.set_cons_succ]
            refine wpAnyH_take (i := 8) (v := .agg (encW X).toArray) rfl (by kernel_rfl) (by kernel_rfl) (by kernel_rfl) (fun _ _ _ h => h) (yieldsIf_load_mid rfl 37 (.tmp 25) rfl g (j * 34) rfl (encW X) _ (fun w hS => hS.1) HUW.out rfl HT0.out.sx) hHeld ?_
            simp only [Act.put, List.getElem_toArray, List.getElem_cons_zero, List.getElem_cons_succ, List.setIfInBounds_toArray, List.set_cons_zero, List.set_cons_succ]
            refine wpAnyH_take (i := 9) (v := .slice (some ⟨g, 0, none⟩) n c) rfl (by kernel_rfl) (by kernel_rfl) (by kernel_rfl) (fun _ _ _ h => h) (Or.inl ⟨by rfl, fun w hS => by go_simp⟩) hHeld ?_
            simp only [Act.put, List.getElem_toArray, List.getElem_cons_zero, List.getElem_cons_succ, List.setIfInBounds_toArray, List.set_cons_zero, List.set_cons_succ]
            refine wpAnyH_take (i := 10) (v := .int .i64 (j : Int)) rfl (by kernel_rfl) (by kernel_rfl) (by kernel_rfl) (fun _ _ _ h => h) (Or.inl ⟨by rfl, fun w hS => by go_simp⟩) hHeld ?_
            simp only [Act.put, List.getElem_toArray, List.getElem_cons_zero, List.getElem_cons_succ, List.setIfInBounds_toArray, List.set_cons_zero, List.set_cons_succ]
            refine wpAnyH_take (i := 11) (v := .int .i64 (j1 : Int)) rfl (by kernel_rfl) (by kernel_rfl) (by kernel_rfl) (fun _ _ _ h => h) (Or.inl ⟨by rfl, fun w hS => by go_simp⟩) hHeld ?_
            simp only [Act.put, List.getElem_toArray, List.getElem_cons_zero, List.getElem_cons_succ, List.setIfInBounds_toArray, List.set_cons_zero, List.set_cons_succ]
            refine wpAnyH_take (i := 12) (v := .pointer (some ⟨g, j1 * 34, none⟩)) rfl (by kernel_rfl) (by kernel_rfl) (by kernel_rfl) (fun _ _ _ h => h) (Or.inl ⟨by rfl, fun w hS => by go_simp⟩) hHeld ?_
            simp only [Act.put, List.getElem_toArray, List.getElem_cons_zero, List.getElem_cons_succ, List.setIfInBounds_toArray, List.set_cons_zero, List.set_cons_succ]
            refine wpAnyH_take (i := 13) (v := .agg (encW Y).toArray) rfl (by kernel_rfl) (by kernel_rfl) (by kernel_rfl) (fun _ _ _ h => h) (yieldsIf_load_mid rfl 37 (.tmp 30) rfl g (j1 * 34) rfl (encW Y) _ (fun w hS => hS.2) HUW.out rfl HT0.out.sy) hHeld ?_
            simp only [Act.put, List.getElem_toArray, List.getElem_cons_zero, List.getElem_cons_succ, List.setIfInBounds_toArray, List.set_cons_zero, List.set_cons_succ]
            refine wpAnyH_ready (rs := [14]) (by kernel_rfl) (by simp) ?_
            refine AllReadyH.cons rfl (fun KQ hK => ?_) AllReadyH.nil
            go_simp
            refine (HC.out _).mono ?_
            rintro e wx ⟨rfl, bx⟩
            have d1 := grow_trans d0 bx
            refine hK.out _ _ ((HT.out _ d1).rg) (fun hHeld => ?_)
            clear hK KQ
            refine wpAnyH_take (i := 15) (v := .bool (decide (r < 0))) rfl (by kernel_rfl) (by kernel_rfl) (by kernel_rfl) (fun _ _ _ h => h) (Or.inl ⟨by rfl, fun w hS => by go_simp⟩) hHeld ?_
            simp only [Act.put, List.getElem_toArray, List.getElem_cons_zero, List.getElem_cons_succ, List.setIfInBounds_toArray, List.set_cons_zero, List.set_cons_succ]
            refine wpAnyH_take (i := 16) (v := .bool (decide (r < 0))) rfl (by kernel_rfl) (by kernel_rfl) (by kernel_rfl) (fun _ _ _ h => h) (Or.inl ⟨by rfl, fun w hS => by go_simp⟩) hHeld ?_
            simp only [Act.put, List.getElem_toArray, List.getElem_cons_zero, List.getElem_cons_succ, List.setIfInBounds_toArray, List.set_cons_zero, List.set_cons_succ]
            refine wpAnyH_done (by kernel_rfl) ?_ _
            clear HC HT0
            by_cases hr0 : r < 0
            · as_aux_lemma =>
                have HAL := hidden (HCM.out.1 hr0)
                clear HCM
                go_wp2_with fail
                have d2 := grow_trans d1 (Below.refl _ _).drew
                have HT2 := hidden (HT.out _ d2)
                refine wp_region_wrote (S := fun w' => w'.rangeAt g (j * 34) (encW X) ∧ w'.rangeAt g (j1 * 34) (encW Y)) [15, 17] (by kernel_rfl) (HT2.out.rg) (fun hHeld => ?_)
                refine wpAnyW_take0 (i := 0) (v := .slice (some ⟨g, 0, none⟩) n c) rfl (by kernel_rfl) (by kernel_rfl) (by kernel_rfl) (by kernel_rfl) (fun _ _ _ h => h) (Or.inl ⟨by rfl, fun w hS => by go_simp⟩) (.inr hHeld) ?_
                simp only [Act.put, List.getElem_toArray, List.getElem_cons_zero, List.setIfInBounds_toArray, List.set_cons_zero, List.set_cons_succ]
                refine wpAnyW_take0 (i := 1) (v := .int .i64 (j : Int)) rfl (by kernel_rfl) (by kernel_rfl) (by kernel_rfl) (by kernel_rfl) (fun _ _ _ h => h) (Or.inl ⟨by rfl, fun w hS => by go_simp⟩) (.inr hHeld) ?_
                simp only [Act.put, List.getElem_toArray, List.getElem_cons_zero, List.getElem_cons_succ, List.setIfInBounds_toArray, List.set_cons_zero, List.set_cons_succ]
                refine wpAnyW_take0 (i := 2) (v := .slice (some ⟨g, 0, none⟩) n c) rfl (by kernel_rfl) (by kernel_rfl) (by kernel_rfl) (by kernel_rfl) (fun _ _ _ h => h) (Or.inl ⟨by rfl, fun w hS => by go_simp⟩) (.inr hHeld) ?_
                simp only [Act.put, List.getElem_toArray, List.getElem_cons_zero, List.getElem_cons_succ, List.setIfInBounds_toArray, List.set_cons_zero, List.set_cons_succ]
                refine wpAnyW_take0 (i := 3) (v := .int .i64 (j : Int)) rfl (by kernel_rfl) (by kernel_rfl) (by kernel_rfl) (by kernel_rfl) (fun _ _ _ h => h) (Or.inl ⟨by rfl, fun w hS => by go_simp⟩) (.inr hHeld) ?_
                simp only [Act.put, List.getElem_toArray, List.getElem_cons_zero, List.getElem_cons_succ, List.setIfInBounds_toArray, List.set_cons_zero, List.set_cons_succ]
                refine wpAnyW_take0 (i := 4) (v := .int .i64 (j1 : Int)) rfl (by kernel_rfl) (by kernel_rfl) (by kernel_rfl) (by kernel_rfl) (fun _ _ _ h => h) (Or.inl ⟨by rfl, fun w hS => by go_simp⟩) (.inr hHeld) ?_
                simp only [Act.put, List.getElem_toArray, List.getElem_cons_zero, List.getElem_cons_succ, List.setIfInBounds_toArray, List.set_cons_zero, List.set_cons_succ]
                refine wpAnyW_take0 (i := 5) (v := .slice (some ⟨g, 0, none⟩) n c) rfl (by kernel_rfl) (by kernel_rfl) (by kernel_rfl) (by kernel_rfl) (fun _ _ _ h => h) (Or.inl ⟨by rfl, fun w hS => by go_simp⟩) (.inr hHeld) ?_
                simp only [Act.put, List.getElem_toArray, List.getElem_cons_zero, List.getElem_cons_succ, List.setIfInBounds_toArray, List.set_cons_zero, List.set_cons_succ]
                refine wpAnyW_take0 (i := 6) (v := .int .i64 (j : Int)) rfl (by kernel_rfl) (by kernel_rfl) (by kernel_rfl) (by kernel_rfl) (fun _ _ _ h => h) (Or.inl ⟨by rfl, fun w hS => by go_simp⟩) (.inr hHeld) ?_
                simp only [Act.put, List.getElem_toArray, List.getElem_cons_zero, List.getElem_cons_succ, List.setIfInBounds_toArray, List.set_cons_zero, List.set_cons_succ]
                refine wpAnyW_take0 (i := 7) (v := .int .i64 (j1 : Int)) rfl (by kernel_rfl) (by kernel_rfl) (by kernel_rfl) (by kernel_rfl) (fun _ _ _ h => h) (Or.inl ⟨by rfl, fun w hS => by go_simp⟩) (.inr hHeld) ?_
                simp only [Act.put, List.getElem_toArray, List.getElem_cons_zero, List.getElem_cons_succ, List.setIfInBounds_toArray, List.set_cons_zero, List.set_cons_succ]
                refine wpAnyW_take0 (i := 8) (v := .pointer (some ⟨g, j1 * 34, none⟩)) rfl (by kernel_rfl) (by kernel_rfl) (by kernel_rfl) (by kernel_rfl) (fun _ _ _ h => h) (Or.inl ⟨by rfl, fun w hS => by go_simp⟩) (.inr hHeld) ?_
                simp only [Act.put, List.getElem_toArray, List.getElem_cons_zero, List.getElem_cons_succ, List.setIfInBounds_toArray, List.set_cons_zero, List.set_cons_succ]
                refine wpAnyW_take (i := 9) (v := .agg (encW Y).toArray) rfl (by kernel_rfl) (by kernel_rfl) (by kernel_rfl) (by kernel_rfl) (by kernel_rfl) (by kernel_rfl) (fun _ _ _ h => h) (yieldsIf_load_mid rfl 37 (.tmp 45) rfl g (j1 * 34) rfl (encW Y) _ (fun w hS => hS.2) HUW.out rfl HT2.out.sy) hHeld ?_
                simp only [Act.put, List.getElem_toArray, List.getElem_cons_zero, List.getElem_cons_succ, List.setIfInBounds_toArray, List.set_cons_zero, List.set_cons_succ]
                refine wpAnyW_take0 (i := 10) (v := .slice (some ⟨g, 0, none⟩) n c) rfl (by kernel_rfl) (by kernel_rfl) (by kernel_rfl) (by kernel_rfl) (fun _ _ _ h => h) (Or.inl ⟨by rfl, fun w hS => by go_simp⟩) (.inr hHeld) ?_
                simp only [Act.put, List.getElem_toArray, List.getElem_cons_zero, List.getElem_cons_succ, List.setIfInBounds_toArray, List.set_cons_zero, List.set_cons_succ]
                refine wpAnyW_take0 (i := 11) (v := .int .i64 (j : Int)) rfl (by kernel_rfl) (by kernel_rfl) (by kernel_rfl) (by kernel_rfl) (fun _ _ _ h => h) (Or.inl ⟨by rfl, fun w hS => by go_simp⟩) (.inr hHeld) ?_
                simp only [Act.put, List.getElem_toArray, List.getElem_cons_zero, List.getElem_cons_succ, List.setIfInBounds_toArray, List.set_cons_zero, List.set_cons_succ]
                refine wpAnyW_take0 (i := 12) (v := .pointer (some ⟨g, j * 34, none⟩)) rfl (by kernel_rfl) (by kernel_rfl) (by kernel_rfl) (by kernel_rfl) (fun _ _ _ h => h) (Or.inl ⟨by rfl, fun w hS => by go_simp⟩) (.inr hHeld) ?_
                simp only [Act.put, List.getElem_toArray, List.getElem_cons_zero, List.getElem_cons_succ, List.setIfInBounds_toArray, List.set_cons_zero, List.set_cons_succ]
                refine wpAnyW_take (i := 13) (v := .agg (encW X).toArray) rfl (by kernel_rfl) (by kernel_rfl) (by kernel_rfl) (by kernel_rfl) (by kernel_rfl) (by kernel_rfl) (fun _ _ _ h => h) (yieldsIf_load_mid rfl 37 (.tmp 49) rfl g (j * 34) rfl (encW X) _ (fun w hS => hS.1) HUW.out rfl HT2.out.sx) hHeld ?_
                simp only [Act.put, List.getElem_toArray, List.getElem_cons_zero, List.getElem_cons_succ, List.setIfInBounds_toArray, List.set_cons_zero, List.set_cons_succ]
                refine wpAnyW_take0 (i := 14) (v := .pointer (some ⟨g, j * 34, none⟩)) rfl (by kernel_rfl) (by kernel_rfl) (by kernel_rfl) (by kernel_rfl) (fun _ _ _ h => h) (Or.inl ⟨by rfl, fun w hS => by go_simp⟩) (.inr hHeld) ?_
                simp only [Act.put, List.getElem_toArray, List.getElem_cons_zero, List.getElem_cons_succ, List.setIfInBounds_toArray, List.set_cons_zero, List.set_cons_succ]
                refine wpAnyW_one (i := 15) rfl (by kernel_rfl) (by kernel_rfl) (fun KQ hK => ?_)
                refine step_stw _ rfl _ _ _ rfl g (j * 34) (encW Y).toArray rfl rfl HT2.out.tx HT2.out.ay HT2.out.oy ?_
                refine hK.out _ _ ?_
                clear hK KQ
                refine wpAnyW_take0 (i := 16) (v := .pointer (some ⟨g, j1 * 34, none⟩)) rfl (by kernel_rfl) (by kernel_rfl) (by kernel_rfl) (by kernel_rfl) (fun _ _ _ h => h) (Or.inl ⟨by rfl, fun w hS => by go_simp⟩) (.inl (by kernel_rfl)) ?_
                simp only [Act.put, List.getElem_toArray, List.getElem_cons_zero, List.getElem_cons_succ, List.setIfInBounds_toArray, List.set_cons_zero, List.set_cons_succ]
                refine wpAnyW_one (i := 17) rfl (by kernel_rfl) (by kernel_rfl) (fun KQ hK => ?_)
                refine step_stw _ rfl _ _ _ rfl g (j1 * 34) (encW X).toArray rfl rfl HT2.out.ty HT2.out.ax HT2.out.ox ?_
                refine hK.out _ _ ?_
                clear hK KQ
                refine wpAnyW_done (by kernel_rfl) ?_
                have HSW2 := hidden HT2.out.swap
                have HBU : Hid (But a k j1 (swp ys j j1)) := by
                  show But _ _ _ _
                  have h1 := HL.out _ hst.out
                  rw [swp_comm ys j j1 (by omega) (by omega), show j1 = j - 1 by have := HJ.out; omega]
                  exact hbut.out.swap (by omega) (by omega) (by omega) HAL.out
                have HST : Hid (StR a b xs (swp ys j j1)) := by
                  show StR _ _ _ _
                  have h1 := HL.out _ hst.out
                  have h0 := HAL.out
                  rw [show j - 1 = j1 by have := HJ.out; omega] at h0
                  have h2 := swp_st ys j1 (by have := HJ.out; omega) (fun e => by rw [show j1 + 1 = j by have := HJ.out; omega] at e; rw [e] at h0; exact al_irr _ h0)
                  rw [show j1 + 1 = j by have := HJ.out; omega] at h2
                  rw [swp_comm ys j j1 (by omega) (by omega)]
                  exact hst.out.trans (h2.wide (by have := HJ.out; omega) (by have := HJ.out; omega) (by omega))
                have hjj := HJ.out
                clear HT HT2 d2 d1 bx hsw hst hbut HAL
                generalize (wx.drew.setCells g (j * 34) (encW Y)).setCells g (j1 * 34) (encW X) = wz at HSW2 ⊢
                generalize swp ys j j1 = zs at HSW2 HBU HST
                go_wp2_with fail
                exact ⟨⟨j1, zs, by omega, by omega, rfl, HSW2, HST, HBU⟩, by simp [intOf]; omega⟩
            · as_aux_lemma =>
                have HSO : Hid (Srt a (k + 1) ys) := hbut.out.done (HT.out _ d1).sw.kys (by have := HL.out _ hst.out; omega) hja hjk (fun q => hr0 (HCM.out.2 q))
                have HSW2 := hidden (HT.out _ d1).sw
                clear HCM HT
                go_wp2_with fail
                exact ⟨⟨k + 1, ys, by omega, by omega, rfl, HSW2, hst, HSO⟩, by simp [intOf]; omega⟩
          · as_aux_lemma =>
              have z2 : ¬ (a : Int) < (j : Int) := by omega
              obtain rfl : j = a := by omega
              have HSO := hidden hbut.out.low
              clear hbut haj
              go_wp2_with fail
              refine wp_region_held_drew (S := fun _ => True) (by kernel_rfl) (trivial) (fun hHeld => ?_)
              refine wpAnyH_take (i := 0) (v := .int .i64 (j : Int)) rfl (by kernel_rfl) (by kernel_rfl) (by kernel_rfl) (fun _ _ _ h => h) (Or.inl ⟨by rfl, fun w hS => by go_simp⟩) hHeld ?_
              simp only [Act.put, List.getElem_toArray, List.getElem_cons_zero, List.setIfInBounds_toArray, List.set_cons_zero, List.set_cons_succ]
              refine wpAnyH_take (i := 1) (v := .int .i64 (j : Int)) rfl (by kernel_rfl) (by kernel_rfl) (by kernel_rfl) (fun _ _ _ h => h) (Or.inl ⟨by rfl, fun w hS => by go_simp⟩) hHeld ?_
              simp only [Act.put, List.getElem_toArray, List.getElem_cons_zero, List.getElem_cons_succ, List.setIfInBounds_toArray, List.set_cons_zero, List.set_cons_succ]
              refine wpAnyH_take (i := 2) (v := .bool false) rfl (by kernel_rfl) (by kernel_rfl) (by kernel_rfl) (fun _ _ _ h => h) (Or.inl ⟨by rfl, fun w hS => by go_simp⟩) hHeld ?_
              simp only [Act.put, List.getElem_toArray, List.getElem_cons_zero, List.getElem_cons_succ, List.setIfInBounds_toArray, List.set_cons_zero, List.set_cons_succ]
              refine wpAnyH_take (i := 3) (v := .bool false) rfl (by kernel_rfl) (by kernel_rfl) (by kernel_rfl) (fun _ _ _ h => h) (Or.inl ⟨by rfl, fun w hS => by go_simp⟩) hHeld ?_
              simp only [Act.put, List.getElem_toArray, List.getElem_cons_zero, List.getElem_cons_succ, List.setIfInBounds_toArray, List.set_cons_zero, List.set_cons_succ]
              refine wpAnyH_take (i := 4) (v := undef) rfl (by kernel_rfl) (by kernel_rfl) (by kernel_rfl) (fun _ _ _ h => h) (Or.inr ⟨by rfl, rfl⟩) hHeld ?_
              simp only [Act.put, List.getElem_toArray, List.getElem_cons_zero, List.getElem_cons_succ, List.setIfInBounds_toArray, List.set_cons_zero, List.set_cons_succ]
              refine wpAnyH_take (i := 5) (v := undef) rfl (by kernel_rfl) (by kernel_rfl) (by kernel_rfl) (fun _ _ _ h => h) (Or.inr ⟨by rfl, rfl⟩) hHeld ?_
              simp only [Act.put, List.getElem_toArray, List.getElem_cons_zero, List.getElem_cons_succ, List.setIfInBounds_toArray, List.set_cons_zero, List.set_cons_succ]
              refine wpAnyH_take (i := 6) (v := undef) rfl (by kernel_rfl) (by kernel_rfl) (by kernel_rfl) (fun _ _ _ h => h) (Or.inr ⟨by rfl, rfl⟩) hHeld ?_
              simp only [Act.put, List.getElem_toArray, List.getElem_cons_zero, List.getElem_cons_succ, List.setIfInBounds_toArray, List.set_cons_zero, List.set_cons_succ]
              refine wpAnyH_take (i := 7) (v := undef) rfl (by kernel_rfl) (by kernel_rfl) (by kernel_rfl) (fun _ _ _ h => h) (Or.inr ⟨by rfl, rfl⟩) hHeld ?_
              simp only [Act.put, List.getElem_toArray, List.getElem_cons_zero, List.getElem_cons_succ, List.setIfInBounds_toArray, List.set_cons_zero, List.set_cons_succ]
              refine wpAnyH_take (i := 8) (v := undef) rfl (by kernel_rfl) (by kernel_rfl) (by kernel_rfl) (fun _ _ _ h => h) (Or.inr ⟨by rfl, rfl⟩) hHeld ?_
              simp only [Act.put, List.getElem_toArray, List.getElem_cons_zero, List.getElem_cons_succ, List.setIfInBounds_toArray, List.set_cons_zero, List.set_cons_succ]
              refine wpAnyH_take (i := 9) (v := undef) rfl (by kernel_rfl) (by kernel_rfl) (by kernel_rfl) (fun _ _ _ h => h) (Or.inr ⟨by rfl, rfl⟩) hHeld ?_
              simp only [Act.put, List.getElem_toArray, List.getElem_cons_zero, List.getElem_cons_succ, List.setIfInBounds_toArray, List.set_cons_zero, List.set_cons_succ]
              refine wpAnyH_take (i := 10) (v := undef) rfl (by kernel_rfl) (by kernel_rfl) (by kernel_rfl) (fun _ _ _ h => h) (Or.inr ⟨by rfl, rfl⟩) hHeld ?_
              simp only [Act.put, List.getElem_toArray, List.getElem_cons_zero, List.getElem_cons_succ, List.setIfInBounds_toArray, List.set_cons_zero, List.set_cons_succ]
              refine wpAnyH_take (i := 11) (v := undef) rfl (by kernel_rfl) (by kernel_rfl) (by kernel_rfl) (fun _ _ _ h => h) (Or.inr ⟨by rfl, rfl⟩) hHeld ?_
              simp only [Act.put, List.getElem_toArray, List.getElem_cons_zero, List.getElem_cons_succ, List.setIfInBounds_toArray, List.set_cons_zero, List.set_cons_succ]
              refine wpAnyH_take (i := 12) (v := undef) rfl (by kernel_rfl) (by kernel_rfl) (by kernel_rfl) (fun _ _ _ h => h) (Or.inr ⟨by rfl, rfl⟩) hHeld ?_
              simp only [Act.put, List.getElem_toArray, List.getElem_cons_zero, List.getElem_cons_succ, List.setIfInBounds_toArray, List.set_cons_zero, List.set_cons_succ]
              refine wpAnyH_take (i := 13) (v := undef) rfl (by kernel_rfl) (by kernel_rfl) (by kernel_rfl) (fun _ _ _ h => h) (Or.inr ⟨by rfl, rfl⟩) hHeld ?_
              simp only [Act.put, List.getElem_toArray, List.getElem_cons_zero, List.getElem_cons_succ, List.setIfInBounds_toArray, List.set_cons_zero, List.set_cons_succ]
              refine wpAnyH_take (i := 14) (v := undef) rfl (by kernel_rfl) (by kernel_rfl) (by kernel_rfl) (fun _ _ _ h => h) (Or.inr ⟨by rfl, rfl⟩) hHeld ?_
              simp only [Act.put, List.getElem_toArray, List.getElem_cons_zero, List.getElem_cons_succ, List.setIfInBounds_toArray, List.set_cons_zero, List.set_cons_succ]
              refine wpAnyH_take (i := 15) (v := undef) rfl (by kernel_rfl) (by kernel_rfl) (by kernel_rfl) (fun _ _ _ h => h) (Or.inr ⟨by rfl, rfl⟩) hHeld ?_
              simp only [Act.put, List.getElem_toArray, List.getElem_cons_zero, List.getElem_cons_succ, List.setIfInBounds_toArray, List.set_cons_zero, List.set_cons_succ]
              refine wpAnyH_take (i := 16) (v := .bool false) rfl (by kernel_rfl) (by kernel_rfl) (by kernel_rfl) (fun _ _ _ h => h) (Or.inl ⟨by rfl, fun w hS => by go_simp⟩) hHeld ?_
              simp only [Act.put, List.getElem_toArray, List.getElem_cons_zero, List.getElem_cons_succ, List.setIfInBounds_toArray, List.set_cons_zero, List.set_cons_succ]
              refine wpAnyH_done (by kernel_rfl) ?_ _
              have HSW2 := hidden (hsw.out.grow (Below.refl _ _).drew)
              clear hsw
              go_wp2_with fail
              exact ⟨⟨k + 1, ys, by omega, by omega, rfl, HSW2, hst, HSO⟩, by simp [intOf]; omega⟩
    · as_aux_lemma =>
        have z1 : ¬ (k : Int) < (b : Int) := by omega
        have HP : Hid (∃ ys, Sw w0 g n c wr ys ∧ StR a b xs ys ∧ Srt a b ys) := ⟨ys, hsw.out, hst.out, hso.out.sub (Nat.le_refl _) (by omega)⟩
        clear hsw hst hso
        go_wp2
        go_end0
        exact ⟨rfl, HP.out⟩

end Go.Proofs.Ytagkmfgoahbclaa
