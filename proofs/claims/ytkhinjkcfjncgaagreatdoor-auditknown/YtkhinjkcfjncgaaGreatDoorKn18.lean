/- A map from numbers to numbers of the walk's own. -/
import Derived.Test.YtkhinjkcfjncgaaGreatDoorKn17
import Derived.Maps.OwnSet
import Derived.Maps.RangeWalk
import Derived.Maps.OwnOps
import Derived.Maps.Views
import Derived.Test.YtkhinjkcfjncgaaGreatDoorKn01
import Derived.Test.YtkhinjkcfjncgaaGreatDoorKn09
namespace Go.Proofs.YtkhinjkcfjncgaaGreatDoor
set_option maxRecDepth 20000
open Go.RowKit

/-! ### A map -/
abbrev kl7 (x : Int) : Lit := .int .i64 x
theorem kl7_key (x : Int) : WideAt.IsKeyLit (kl7 x) := trivial
theorem kl7_ne {x y : Int} (h : x ≠ y) : kl7 x ≠ kl7 y := fun e => h (by injection e)
abbrev Wfi (x : Int) : Prop := (Lit.int .i64 x).wf = true
theorem wfi_nat (n : Nat) (h : n ≤ 2147483648) : Wfi (n : Int) := by
  have := wrap64_wf (n : Int)
  rw [Go.IntWalk.wrap64_in _ (by omega)] at this
  exact this
theorem lit7_inj {H : Type} {x y : Int} (h : (DataW.lit (.int .i64 x) : DataW H) = .lit (.int .i64 y)) : x = y := by
  simp only [DataW.lit.injEq, Lit.int.injEq, true_and] at h
  exact h
theorem iK7 : Maps.Keyed Tryz.prog 3 := Maps.int_keyed Tryz.underlying3

theorem iKey7 {x : Int} (h : Wfi x) : keyOf Tryz.prog 3 (.int .i64 x) = some (kl7 x) := Maps.keyOf_int_mk Tryz.underlying3 h

/-- A map that tells f of every number; n: how many entries at most. -/
def SM (w : World) (b n : Nat) (f : Int → Nat) : Prop := ∃ D : DataW Unit, w.ownsMap Tryz.prog 3 (plainElem Tryz.prog 3) b n D ∧ ∀ x, D.atKey (kl7 x) (.lit (.int .i64 0)) = .lit (.int .i64 (f x : Int))

theorem SM.lt {w : World} {b n : Nat} {f : Int → Nat} (h : SM w b n f) : b < w.heap.size := by
  obtain ⟨D, h, _⟩ := h
  exact h.lt
theorem SM.grow {w w' : World} {b n : Nat} {f : Int → Nat} (h : SM w b n f) (hb : Below w.heap.size w w') : SM w' b n f := by
  obtain ⟨D, ⟨es, clock, k1, k2⟩, h3⟩ := h
  exact ⟨D, ⟨es, clock, (hb.block b (Array.getElem?_eq_some_iff.1 k1).1).trans k1, k2⟩, h3⟩
theorem SM.notCells {w : World} {b n g : Nat} {f : Int → Nat} {t : TypeId} {cs : Array Value} (h : SM w b n f) (hb : Blk w g t cs) : b ≠ g := by
  rintro rfl
  obtain ⟨D, ⟨es, clock, k1, _⟩, _⟩ := h
  unfold Blk at hb
  rw [k1] at hb
  cases hb
theorem SM.new (w : World) : SM (w.alloc (.map #[] 0)) w.heap.size 0 (fun _ => 0) := ⟨.map [], World.ownsMap_made w _ _ _, fun _ => rfl⟩

theorem SM.look {w : World} {b n : Nat} {f : Int → Nat} (h : SM w b n f) {x : Int} (hx : Wfi x) : (Instr.lookup 78 (.map (some b)) (.int .i64 x) false).run Tryz.prog w = .ok (.int .i64 (f x : Int)) w := by
  obtain ⟨D, h1, h2⟩ := h
  obtain ⟨c, hrun, hat, _⟩ := h1.lookup_int iK7 Tryz.underlying78 Tryz.underlying3 (Tryz.zeroValue3 w) (iKey7 hx)
  rw [hrun]
  rw [h2 x] at hat
  rw [lit7_inj hat]

theorem SM.put {w : World} {b n : Nat} {f : Int → Nat} (h : SM w b n f) (x : Int) (c : Nat) (hx : Wfi x) (hc : c ≤ 2147483648) (hn : n ≤ 1073741824) : ∃ w', (Instr.mapUpdate 78 (.map (some b)) (.int .i64 x) (.int .i64 (c : Int))).run Tryz.prog w = .ok () w' ∧ SM w' b (n + 1) (fun y => if y = x then c else f y) ∧ w.grownBy w' (some b) := by
  obtain ⟨D, h1, h2⟩ := h
  obtain ⟨w', hrun, hown, hg⟩ := h1.update iK7 Tryz.underlying78 (by simp only [maxLen]; omega) (iKey7 hx) (plainElem_int (H := Unit) Tryz.underlying3 (wfi_nat c hc))
  refine ⟨w', hrun, ⟨_, hown, fun y => ?_⟩, hg⟩
  show _ = DataW.lit (Lit.int .i64 ((if y = x then c else f y : Nat) : Int))
  by_cases e : y = x
  · subst e
    rw [if_pos rfl]
    exact Maps.atKey_put_same h1.isMap (kl7_key _) _ _
  · rw [if_neg e, Maps.atKey_put_other (kl7_ne e)]
    exact h2 y

theorem wpList_mup7 {ops : Array Oper} {rest : List Oper} {o : Oper} {a : Act} {Q : Exit → Act → World → Prop} {w w' : World} (hg : o.guard = none) (m x v : Operand) (t : TypeId) (hop : o.op = Op.mapUpdate t m x v) (vm vx vv : Value)
    (hm : a.eval m = vm) (hx : a.eval x = vx) (hv : a.eval v = vv) (hrun : (Instr.mapUpdate t vm vx vv).run Tryz.prog w = .ok () w') (hK : wpList Tryz.prog ops Q rest (a.put o.dst undef) w') : wpList Tryz.prog ops Q (o :: rest) a w := by
  refine wpList_plain hg fun K' hK' => ?_
  unfold Oper.wp
  simp [execOp, hop, hm, hx, hv, hrun, Result.andThen]
  exact hK' _ _ hK

end Go.Proofs.YtkhinjkcfjncgaaGreatDoor

/- What stands in every world that differs in some blocks alone; rows of any kind that are the call's own. -/
namespace Go.Proofs.YtkhinjkcfjncgaaGreatDoor
set_option maxRecDepth 20000
open Go.RowKit

/-- P stands in every world that differs from w in the blocks S alone. -/
def Kq (S : List Nat) (w : World) (P : World → Prop) : Prop := ∀ w', Mod S w w' → P w'
theorem Kq.now {S : List Nat} {w : World} {P : World → Prop} (h : Kq S w P) : P w := h w (Mod.refl _ _)
theorem Kq.turn {S S1 : List Nat} {w w1 : World} {P : World → Prop} (h : Kq S w P) (m : Mod S w w1) (n : New S w S1) : Kq S1 w1 P := fun w' m' => h w' (m.trans n m')
theorem Kq.step {S : List Nat} {w w1 : World} {P : World → Prop} (h : Kq S w P) (m : Mod S w w1) : Kq S w1 P := h.turn m (New.refl _ _)
theorem Kq.grow {S : List Nat} {w w1 : World} {P : World → Prop} (h : Kq S w P) (b : Below w.heap.size w w1) : Kq S w1 P := h.step (Mod.of_below b S)
theorem Kq.imp {S : List Nat} {w : World} {P Q : World → Prop} (h : Kq S w P) (q : ∀ w', Mod S w w' → P w' → Q w') : Kq S w Q := fun w' m => q w' m (h w' m)
theorem Kq.blk {S : List Nat} {w : World} {g : Nat} {t : TypeId} {cs : Array Value} (h : Blk w g t cs) (hn : g ∉ S) : Kq S w (fun w' => Blk w' g t cs) := fun _ m => h.mod m hn
/-- What stands in all worlds that have but grown since b stands where only blocks from b on turn. -/
theorem Kq.of_low {S : List Nat} {w0 w : World} {P : World → Prop} (h : ∀ w', Below w0.heap.size w0 w' → P w') (hb : Below w0.heap.size w0 w) (hS : ∀ k ∈ S, w0.heap.size ≤ k) : Kq S w P := fun w' m => h w' (hb.trans (m.below hS hb.size))

theorem owR_mod {w w' : World} {base : Nat} {e : TypeId} {k : Nat} {v : Value} {n : Nat} {xs : List Value} {S : List Nat} (h : w.ownsRow base e k v n xs) (m : Mod S w w') (hn : ∀ g, v.ownBlock = some g → g ∉ S) : w'.ownsRow base e k v n xs := by
  refine ⟨h.1, ?_⟩
  rcases h.2 with hh | ⟨g, cap, cur, rfl, hb, hgg, rest⟩
  · exact .inl hh
  · exact .inr ⟨g, cap, cur, rfl, hb, (m.block g (Array.getElem?_eq_some_iff.1 hgg).1 (hn g rfl)).trans hgg, rest⟩
theorem owR_grow {w w' : World} {base : Nat} {e : TypeId} {k : Nat} {v : Value} {n : Nat} {xs : List Value} (h : w.ownsRow base e k v n xs) (hb : Below w.heap.size w w') : w'.ownsRow base e k v n xs := owR_mod h (Mod.of_below hb []) (fun _ _ h => by cases h)
theorem owR_base {w : World} {base base' : Nat} {e : TypeId} {k : Nat} {v : Value} {n : Nat} {xs : List Value} (h : w.ownsRow base e k v n xs) (hb : base' ≤ base) : w.ownsRow base' e k v n xs := by
  refine ⟨h.1, h.2.imp id ?_⟩
  rintro ⟨g, cap, cur, e1, e2, e3⟩
  exact ⟨g, cap, cur, e1, Nat.le_trans hb e2, e3⟩
theorem owR_lst {w : World} {base : Nat} {e : TypeId} {k : Nat} {v : Value} {n : Nat} {xs : List Value} (h : w.ownsRow base e k v n xs) : Lst w e k v n xs := ⟨h.1, h.2.imp id (fun ⟨g, cap, cur, a1, _, a3⟩ => ⟨g, cap, cur, a1, Nat.zero_le _, a3⟩)⟩
/-- A list of the call's own that grew leaves all below as it was. -/
theorem owR_below {w0 w w' : World} {base : Nat} {e : TypeId} {k : Nat} {v : Value} {n : Nat} {xs : List Value} (hb : Below w0.heap.size w0 w) (h : w.ownsRow base e k v n xs) (hl : w0.heap.size ≤ base) (hg : w.grownBy w' v.ownBlock) : Below w0.heap.size w0 w' := by
  have m : Mod v.ownBlock.toList w w' := Mod.of_grown hg (fun k hk => by simp [hk])
  refine hb.trans (m.below (fun k hk => ?_) hb.size)
  have := (h.lt k (by simpa using hk)).1
  omega

end Go.Proofs.YtkhinjkcfjncgaaGreatDoor

/- A survey in memory: the handles that are reached, how often each is wanted; one more asked for. -/
namespace Go.Proofs.YtkhinjkcfjncgaaGreatDoor
set_option maxRecDepth 20000
open Go.RowKit

/-- A survey of what was asked for; all of it from m on. -/
structure Sv (m : Nat) (w : World) (bv : Nat) (P : List Nat) (slv : Value) (bm n : Nat) : Prop where
  blk : Blk w bv 80 #[slv, .map (some bm)]
  lst : w.ownsRow m 3 1 slv (rch P).length (nats (rch P))
  mp : SM w bm n (wnt P)
  le : n ≤ P.length
  lv : m ≤ bv
  lm : m ≤ bm

theorem Sv.grow {m : Nat} {w w' : World} {bv : Nat} {P : List Nat} {slv : Value} {bm n : Nat} (h : Sv m w bv P slv bm n) (hb : Below w.heap.size w w') : Sv m w' bv P slv bm n :=
  ⟨h.blk.grow hb, owR_grow h.lst hb, h.mp.grow hb, h.le, h.lv, h.lm⟩
theorem Sv.cells {m : Nat} {w : World} {bv : Nat} {P : List Nat} {slv : Value} {bm n : Nat} (h : Sv m w bv P slv bm n) : w.cell? ⟨bv, 0, none⟩ = some slv ∧ w.cell? ⟨bv, 1, none⟩ = some (.map (some bm)) := by
  rw [h.blk.cell, h.blk.cell]
  exact ⟨rfl, rfl⟩
theorem Sv.mne {m : Nat} {w : World} {bv : Nat} {P : List Nat} {slv : Value} {bm n : Nat} (h : Sv m w bv P slv bm n) : bm ≠ bv := h.mp.notCells h.blk
theorem Sv.lne {m : Nat} {w : World} {bv : Nat} {P : List Nat} {slv : Value} {bm n : Nat} (h : Sv m w bv P slv bm n) : slv.ownBlock ≠ some bv := lst_blk_ne (owR_lst h.lst) h.blk (by decide)
theorem SM.mod {w w' : World} {b n : Nat} {f : Int → Nat} {S : List Nat} (h : SM w b n f) (md : Mod S w w') (hn : b ∉ S) : SM w' b n f := by
  obtain ⟨D, ⟨es, clock, k1, k2⟩, h3⟩ := h
  exact ⟨D, ⟨es, clock, (md.block b (Array.getElem?_eq_some_iff.1 k1).1 hn).trans k1, k2⟩, h3⟩
/-- A longer list, written into the survey. -/
theorem Sv.snoc {m : Nat} {w w1 w4 : World} {bv : Nat} {P : List Nat} {slv slv' : Value} {bm n : Nat} (h : Sv m w bv P slv bm n) (hb : Below w.heap.size w w1) (hg : w1.grownBy w4 slv.ownBlock) (x : Nat) (h0 : x ≠ 0) (hx : x ∉ rch P) (ho : w4.ownsRow m 3 1 slv' ((rch P).length + 1) (nats (rch P) ++ [Value.int .i64 (x : Int)])) : Blk (w4.setCell ⟨bv, 0, none⟩ slv') bv 80 #[slv', .map (some bm)] ∧ (w4.setCell ⟨bv, 0, none⟩ slv').ownsRow m 3 1 slv' (rch (P ++ [x])).length (nats (rch (P ++ [x]))) ∧ SM (w4.setCell ⟨bv, 0, none⟩ slv') bm n (wnt P) ∧ Below m w (w4.setCell ⟨bv, 0, none⟩ slv') ∧ w4.cell? ⟨bv, 0, none⟩ = some slv ∧ w4.frozen? ⟨bv, 0, none⟩ = false := by
  have h1 := h.grow hb
  have md : Mod slv.ownBlock.toList w1 w4 := Mod.of_grown hg (fun k hk => by simp [hk])
  have hn : bv ∉ slv.ownBlock.toList := fun q => h.lne (by simpa using q)
  have B4 : Blk w4 bv 80 #[slv, .map (some bm)] := h1.blk.mod md hn
  have hmm : bm ∉ slv.ownBlock.toList := fun q => by
    obtain ⟨_, _, _, b, _⟩ := lst_blk (owR_lst h1.lst) bm (by simpa using q)
    exact h1.mp.notCells b rfl
  have M4 := h1.mp.mod md hmm
  have m5 : Mod [bv] w4 (w4.setCell ⟨bv, 0, none⟩ slv') := Mod.setCell _ _ _ _ (by simp)
  have er : rch (P ++ [x]) = rch P ++ [x] := by rw [rch_snoc, if_neg (fun q => q.elim h0 hx)]
  have ln := lst_blk_ne (owR_lst ho) B4 (by decide)
  refine ⟨?_, ?_, M4.mod m5 (by simpa using h.mne), ?_, by rw [B4.cell]; rfl, B4.frozen 0⟩
  · have := B4.set 0 slv'
    simpa using this
  · rw [er, List.length_append, List.length_singleton, nats, List.map_append]
    exact owR_mod ho m5 (fun g hg e => ln (by have e' : g = bv := (by simpa using e); rw [← e']; exact hg))
  · have hm : m ≤ w.heap.size := Nat.le_of_lt (Nat.lt_of_le_of_lt h.lv h.blk.lt)
    have b1 : Below m w w1 := hb.mono hm
    have b2 : Below m w1 w4 := md.below (fun k hk => by
      have := (h1.lst.lt k (by simpa using hk)).1
      exact this) (Nat.le_trans hm hb.size)
    have b3 : Below m w4 (w4.setCell ⟨bv, 0, none⟩ slv') := m5.below (fun k hk => by simp at hk; rw [hk]; exact h.lv) (Nat.le_trans hm (Nat.le_trans hb.size hg.size))
    exact (b1.trans b2).trans b3

set_option maxHeartbeats 2000000 in
theorem want_any {m : Nat} {w : World} {bv : Nat} {P : List Nat} {slv : Value} {bm n : Nat} (h : Sv m w bv P slv bm n) (x : Nat) (hx : x ≤ 1073741824) (hP : P.length ≤ 1073741000) : Calls Tryz.prog 70 #[.pointer (some ⟨bv, 0, none⟩), .int .i64 (x : Int)] w fun e w' => e = .returned (.tuple #[]) ∧ (∃ slv' n', Sv m w' bv (P ++ [x]) slv' bm n') ∧ Below m w w' := by
  have hm : m ≤ w.heap.size := Nat.le_of_lt (Nat.lt_of_le_of_lt h.lv h.blk.lt)
  by_cases h0 : x = 0
  · have HF : Hid (∃ slv' n', Sv m w bv (P ++ [x]) slv' bm n') := by
      rw [h0]
      exact ⟨slv, n, h.blk, by rw [rch_snoc0]; exact h.lst, by rw [wnt_snoc0]; exact h.mp, by rw [List.length_append]; have := h.le; omega, h.lv, h.lm⟩
    have x0 : (x : Int) = 0 := by omega
    generalize (x : Int) = y at x0 ⊢
    clear h
    subst x0
    go_enter Tryz.func70, Tryz.ntmps70
    go_wp2_with fail
    refine bodyPost_ret (results_none rfl _ _ _) rfl ?_
    exact ⟨rfl, HF.out, Below.refl _ _⟩
  · have hwl := wnt_le P (x : Int)
    have hn : n ≤ 1073741824 := by have := h.le; omega
    have H := hidden h
    have HP := hidden hP
    have hl := h.mp.look (wfi_nat x (by omega))
    obtain ⟨c0, c1⟩ := h.cells
    have x0 : ¬ (x : Int) = 0 := by omega
    have hlen : (rch P).length ≤ P.length := by
      have e : ∀ (P l : List Nat), (P.foldl stp12 l).length ≤ l.length + P.length := fun P => by
        induction P with
        | nil => intro l; simp
        | cons a P ih =>
          intro l
          have := ih (stp12 l a)
          have q : (stp12 l a).length ≤ l.length + 1 := by
            unfold stp12
            split
            · omega
            · simp
          simp only [List.foldl_cons, List.length_cons]
          omega
      have := e P []
      simpa [rch] using this
    by_cases hw : wnt P (x : Int) = 0
    · have hnx := (wnt_pos P x h0).1 hw
      have HO := hidden (owR_grow h.lst (grow_alloc w (.cells #[.int .i64 (x : Int)] 3)))
      have HS : Hid (∀ v4 w4, w4.ownsRow m 3 1 v4 ((rch P).length + 1) (nats (rch P) ++ [Value.int .i64 (x : Int)]) → (w.alloc (.cells #[.int .i64 (x : Int)] 3)).grownBy w4 slv.ownBlock → ∃ w6, (Instr.mapUpdate 78 (.map (some bm)) (.int .i64 (x : Int)) (.int .i64 (1 : Int))).run Tryz.prog (w4.setCell ⟨bv, 0, none⟩ v4) = .ok () w6 ∧ (∃ slv' n', Sv m w6 bv (P ++ [x]) slv' bm n') ∧ Below m w w6 ∧ w4.cell? ⟨bv, 0, none⟩ = some slv ∧ w4.frozen? ⟨bv, 0, none⟩ = false ∧ (w4.setCell ⟨bv, 0, none⟩ v4).cell? ⟨bv, 1, none⟩ = some (.map (some bm)) ∧ (Instr.lookup 78 (.map (some bm)) (.int .i64 (x : Int)) false).run Tryz.prog (w4.setCell ⟨bv, 0, none⟩ v4) = .ok (.int .i64 (0 : Int)) (w4.setCell ⟨bv, 0, none⟩ v4)) := fun v4 w4 o4 g4 => by
        obtain ⟨B, O, M, Q, f1, f2⟩ := H.out.snoc (grow_alloc w _) g4 x h0 hnx o4
        obtain ⟨w6, r6, m6, g6⟩ := M.put (x : Int) 1 (wfi_nat x (by omega)) (by omega) hn
        have ef : (fun y => if y = (x : Int) then 1 else wnt P y) = wnt (P ++ [x]) := by
          have := wnt_snoc P x h0
          rw [hw] at this
          exact this
        rw [ef] at m6
        have md : Mod [bm] (w4.setCell ⟨bv, 0, none⟩ v4) w6 := Mod.of_some g6 (by simp)
        have l6 := M.look (wfi_nat x (by omega))
        rw [hw] at l6
        refine ⟨w6, r6, ⟨v4, n + 1, B.mod md (by simpa using fun e => H.out.mne e.symm), owR_mod O md (fun g hg e => ?_), m6, by rw [List.length_append]; have := H.out.le; simp; omega, H.out.lv, H.out.lm⟩, Q.trans (md.below (fun k hk => by simp at hk; rw [hk]; exact H.out.lm) (Nat.le_trans hm Q.size)), f1, f2, ?_, l6⟩
        · obtain ⟨_, _, _, b, _⟩ := lst_blk (owR_lst O) g hg
          have e' : g = bm := by simpa using e
          exact M.notCells b e'.symm
        · rw [B.cell]
          rfl
      rw [hw] at hl
      have HL : Hid ((rch P).length ≤ 1073741000) := Nat.le_trans hlen hP
      have HM := hidden hm
      generalize hyy : (x : Int) = y at *
      generalize (rch P).length = q at *
      clear hx hP h hwl hn hw hlen hnx h0 H HP hm
      go_enter Tryz.func70, Tryz.ntmps70
      go_wp2_with (first
        | (at_builtin; refine wpList_appB _ rfl _ _ _ rfl m 3 1 8 Tryz.underlying23 info_nat (by omega) _ q (nats (rch P)) rfl HO.out w.heap.size [Value.int .i64 y] rfl (Blk.new _ _ _) rfl (by intro u hu; simp at hu; subst hu; rfl) (by have := HL.out; simp only [maxLen]; omega) (by have := HL.out; omega) (Nat.le_trans HM.out (by simp)) ?_; intro a4 c4 w4 o4 g4; obtain ⟨w6, r6, s6, q6, f1, f2, f3, f4⟩ := HS.out _ _ o4 g4; have HR6 := hidden r6; have HS6 := hidden s6; have HQ6 := hidden q6; clear o4 g4 r6 s6 q6)
        | (at_mapUpdate; refine wpList_mup7 rfl _ _ _ 78 rfl (.map (some bm)) (.int .i64 y) (.int .i64 1) rfl rfl (by first | rfl | (go_simp; done)) HR6.out ?_))
      go_end0
      exact ⟨rfl, HS6.out, HQ6.out⟩
    · obtain ⟨w6, r6, m6, g6⟩ := h.mp.put (x : Int) (wnt P (x : Int) + 1) (wfi_nat x (by omega)) (by omega) hn
      have hmem : x ∈ rch P := Classical.byContradiction fun q => hw ((wnt_pos P x h0).2 q)
      have HS : Hid ((∃ slv' n', Sv m w6 bv (P ++ [x]) slv' bm n') ∧ Below m w w6) := by
        rw [wnt_snoc P x h0] at m6
        have md : Mod [bm] w w6 := Mod.of_some g6 (by simp)
        have er : rch (P ++ [x]) = rch P := by rw [rch_snoc, if_pos (.inr hmem)]
        refine ⟨⟨slv, n + 1, h.blk.mod md (by simpa using fun e => h.mne e.symm), ?_, m6, by rw [List.length_append]; have := h.le; simp; omega, h.lv, h.lm⟩, md.below (fun k hk => by simp at hk; rw [hk]; exact h.lm) hm⟩
        rw [er]
        refine owR_mod h.lst md (fun g hg e => ?_)
        obtain ⟨_, _, _, b, _⟩ := lst_blk (owR_lst h.lst) g hg
        have e' : g = bm := by simpa using e
        exact h.mp.notCells b e'.symm
      have HR6 := hidden r6
      have hw1 : wrap64 ((wnt P (x : Int) : Int) + 1) = ((wnt P (x : Int) + 1 : Nat) : Int) := by rw [Go.IntWalk.wrap64_in _ (by omega)]; rfl
      have hw0 : ¬ ((wnt P (x : Int) : Nat) : Int) = 0 := by omega
      generalize wnt P (x : Int) = f1 at *
      generalize hyy : (x : Int) = y at *
      clear hx hP h hwl hn hw hlen h0 H HP hm m6 g6 r6 hmem
      go_enter Tryz.func70, Tryz.ntmps70
      go_wp2_with (at_mapUpdate; refine wpList_mup7 rfl _ _ _ 78 rfl (.map (some bm)) (.int .i64 y) (.int .i64 ((f1 + 1 : Nat) : Int)) rfl rfl (by first | rfl | (go_simp; done)) HR6.out ?_)
      go_end0
      exact ⟨rfl, HS.out⟩

end Go.Proofs.YtkhinjkcfjncgaaGreatDoor
