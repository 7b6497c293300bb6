/- The document's Override, as a contract. -/
import Derived.Test.YtagkmfgoahbclaaBo34
import Derived.Test.YtagkmfgoahbclaaBo30
import Derived.Test.YtagkmfgoahbclaaBo17
namespace Go.Proofs.Ytagkmfgoahbclaa
set_option maxRecDepth 20000
open Go.RowKit

/-- []api.Write{x} in a region that draws its order. -/
theorem step_bsw {ops : Array Oper} {o : Oper} {a : Act} {K : Act → World → Prop} {Q : Exit → Act → World → Prop} {E : Prop} (w : World) (hgd : o.guard = none) (x : Operand) (ho : o.op = .buildSlice 23 1 #[(0, x)])
    (X : Wt) (hx : a.eval x = .agg (encW X).toArray) (hl : (encW X).length = 34)
    (hk : ∀ w' g, w.heap.size ≤ g → Blk w' g 37 (encW X).toArray → Below w.heap.size w w' → K (a.put o.dst (.slice (some ⟨g, 0, none⟩) 1 1)) w') : if Region.wanted o (yielded ops a.tmps) = true then Oper.wp Try.prog o a w K Q else E := by
  have hw : Region.wanted o (yielded ops a.tmps) = true := by simp [Region.wanted, hgd]
  rw [if_pos hw]
  obtain ⟨i, z, hi, hz, hs, _, hzs⟩ := info_write
  have hrun := run_buildSlice (P := Try.prog) w 23 37 1 #[(0, .agg (encW X).toArray)] (encW X).toArray i z Try.underlying23 hi hz (by rw [hs]; omega) (by rw [hs]; omega) (by
    rw [hs]
    obtain ⟨zs, hzz, hzl⟩ : ∃ zs : List Value, (Array.range (1 * 34)).map (z.cells[· % z.cells.size]!) = zs.toArray ∧ zs.length = 34 := ⟨_, (Array.toArray_toList).symm, by simp⟩
    rw [hzz]
    have := fill_one (fun i => some (i * 34, 34)) 0 0 34 (.agg (encW X).toArray) (encW X) zs [] rfl rfl hl (by omega)
    rw [show (#[(0, Value.agg (encW X).toArray)] : Array (Nat × Value)).toList = [(0, Value.agg (encW X).toArray)] from rfl, this, Instr.fill]
    simp [hzl])
  unfold Oper.wp execOp
  simp only [ho, List.map_toArray, List.map_cons, List.map_nil, hx, Sem.run_bind, hrun, Result.andThen_ok, Sem.run_pure]
  exact hk _ w.heap.size (Nat.le_refl _) (Blk.new w _ _) (grow_alloc w _)

/-- []api.Pair{x} in a region that draws its order. -/
theorem step_bspw {ops : Array Oper} {o : Oper} {a : Act} {K : Act → World → Prop} {Q : Exit → Act → World → Prop} {E : Prop} (w : World) (hgd : o.guard = none) (x : Operand) (ho : o.op = .buildSlice 22 1 #[(0, x)])
    (k : List Int) (v : Value) (hx : a.eval x = .agg (encP k v).toArray) (hl : k.length = 32)
    (hk : ∀ w' g, w.heap.size ≤ g → Blk w' g 41 (encP k v).toArray → Below w.heap.size w w' → K (a.put o.dst (.slice (some ⟨g, 0, none⟩) 1 1)) w') : if Region.wanted o (yielded ops a.tmps) = true then Oper.wp Try.prog o a w K Q else E := by
  have hw : Region.wanted o (yielded ops a.tmps) = true := by simp [Region.wanted, hgd]
  rw [if_pos hw]
  obtain ⟨i, z, hi, hz, hs, _, hzs⟩ := info_pair
  have hrun := run_buildSlice (P := Try.prog) w 22 41 1 #[(0, .agg (encP k v).toArray)] (encP k v).toArray i z Try.underlying22 hi hz (by rw [hs]; omega) (by rw [hs]; omega) (by
    rw [hs]
    obtain ⟨zs, hzz, hzl⟩ : ∃ zs : List Value, (Array.range (1 * 33)).map (z.cells[· % z.cells.size]!) = zs.toArray ∧ zs.length = 33 := ⟨_, (Array.toArray_toList).symm, by simp⟩
    rw [hzz]
    have := fill_one (fun i => some (i * 33, 33)) 0 0 33 (.agg (encP k v).toArray) (encP k v) zs [] rfl rfl (encP_length k v hl) (by omega)
    rw [show (#[(0, Value.agg (encP k v).toArray)] : Array (Nat × Value)).toList = [(0, Value.agg (encP k v).toArray)] from rfl, this, Instr.fill]
    simp [hzl])
  unfold Oper.wp execOp
  simp only [ho, List.map_toArray, List.map_cons, List.map_nil, hx, Sem.run_bind, hrun, Result.andThen_ok, Sem.run_pure]
  exact hk _ w.heap.size (Nat.le_refl _) (Blk.new w _ _) (grow_alloc w _)

theorem step_appLw {P : Program} {ops : Array Oper} {o : Oper} {a : Act} {K : Act → World → Prop} {Q : Exit → Act → World → Prop} {E : Prop} (w : World) (hgd : o.guard = none) (s x : Operand) (t : TypeId)
    (ho : o.op = .call { callee := .builtin .append, args := #[s, x], argTypes := #[t, t] })
    (e : TypeId) (size bytes : Nat) (ht : P.underlying t = some (.slice e)) (hin : ∃ i z, P.info? e = some i ∧ i.zero = some z ∧ i.size = size ∧ i.bytes = bytes ∧ z.cells.size = size) (hsz : 0 < size)
    (v : Value) (n : Nat) (xs : List Value) (hs : a.eval s = v) (hown : Lst w e size v n xs)
    (g : Nat) (news : List Value) (hx : a.eval x = .slice (some ⟨g, 0, none⟩) 1 1) (hb : Blk w g e news.toArray) (hl : news.length = size) (h1 : ∀ u ∈ news, u.oneCell' = true)
    (h63 : n + 1 ≤ maxLen) (hbytes : (n + 1) * bytes ≤ 140737488355328)
    (hk : ∀ v' w', Lst w' e size v' (n + 1) (xs ++ news) → w.grownBy w' v.ownBlock → WhereL w v v' → K (a.put o.dst v') w') : if Region.wanted o (yielded ops a.tmps) = true then Oper.wp P o a w K Q else E := by
  have hw : Region.wanted o (yielded ops a.tmps) = true := by simp [Region.wanted, hgd]
  rw [if_pos hw]
  obtain ⟨i, z, hi, hz, hsize, hby, hzs⟩ := hin
  obtain ⟨v', w', hr, h2, h3, h4⟩ := run_appL (P := P) w t o.type e i z size bytes ht hi hz hsize hby hzs hsz v n xs hown ⟨g, 0, none⟩ 1 1 news (by omega) (by
    intro j q hq
    rw [Addr.add_lit, Nat.zero_add, hb.cell]
    simpa using hq) h1 (by omega) h63 hbytes
  unfold Oper.wp execOp
  simp only [ho, resolve, invoke, builtin, Sem.run_bind, Sem.run_pure, Result.andThen_ok, List.map_toArray, List.map_cons, List.map_nil, hs, hx, hr]
  exact hk v' w' h2 h3 h4
/-- A list of entries of the program's own that lies in new memory. -/
theorem AccP.appL {wb w w' : World} {v v' : Value} {n n' : Nat} {xs xs' : List Value} (h : AccP wb w v n xs) (k1 : Lst w' 41 33 v' n' xs') (k2 : w.grownBy w' v.ownBlock) (k3 : WhereL w v v') : AccP wb w' v' n' xs' := by
  refine h.app ⟨k1.1, ?_⟩ k2
  rcases k1.2 with hh | ⟨g', cap, cur, e, hb', rest⟩
  · exact .inl hh
  · refine .inr ⟨g', cap, cur, e, ?_, rest⟩
    rcases k3 with k3 | ⟨k, e2, k4⟩
    · exact (h.own.lt g' (by rw [← k3, e]; rfl)).1
    · rw [e] at e2
      simp only [Value.ownBlock, Option.some.injEq] at e2
      have := h.bel.size
      omega
theorem AccP.lst {wb w : World} {v : Value} {n : Nat} {xs : List Value} (h : AccP wb w v n xs) : Lst w 41 33 v n xs := by
  refine ⟨h.own.1, ?_⟩
  rcases h.own.2 with hh | ⟨g', cap, cur, e, hb', rest⟩
  · exact .inl hh
  · exact .inr ⟨g', cap, cur, e, Nat.zero_le _, rest⟩

def RvPost (es : List Ent) (ls : List Wt) (w : World) (e : Ending) (w' : World) : Prop := ∃ v rs, e = .returned v ∧ Lat ((wes es ++ ls).map nrm) (rs.map nrm) ∧ w'.ownsRow w.heap.size 41 33 v (itsOf rs).length (flatP (itsOf rs)) ∧ (∀ x ∈ rs, WtOk x ∧ Reads w' x.v x.b) ∧ rs.length ≤ es.length + ls.length ∧ Below w.heap.size w w'

set_option maxRecDepth 100000 in
set_option maxHeartbeats 8000000 in
theorem roverride_any (pv lv : Value) (V : Nat → Value) (es : List Ent) (ls : List Wt) (w : World) (hp : PrAt w pv V es) (hl : WrAt w lv ls) (hn : es.length + ls.length ≤ 4096) (hlp : ∀ i, i < es.length → (es.getD i e00).2.length ≤ 140737488355328) (hll : ∀ x ∈ ls, x.b.length ≤ 140737488355328) : Calls Try.prog 9 #[pv, lv] w (RvPost es ls w) := by
  obtain ⟨fs, hu⟩ := u_write
  have HUW := hidden hu
  obtain ⟨fsp, hup⟩ := u_pair
  have HUP := hidden hup
  obtain ⟨pa, pc, rfl, p1, p2, p3⟩ := id hp
  have HPR := hidden p2
  have HPK := hidden p3
  have HLV := hidden hl
  have HLL := hidden (And.intro hlp hll)
  obtain ⟨n, hn0⟩ : ∃ n, n = es.length := ⟨_, rfl⟩
  have HN : Hid (n = es.length ∧ n + ls.length ≤ 4096) := ⟨hn0, by rw [hn0]; exact hn⟩
  obtain ⟨la, lc, hlv⟩ : ∃ la lc, lv = .slice la ls.length lc := by obtain ⟨a, c, e, _⟩ := hl; exact ⟨a, c, e⟩
  obtain ⟨lm, hlm⟩ : ∃ lm, lm = ls.length := ⟨_, rfl⟩
  rw [← hlm] at hlv
  subst hlv
  rw [← hn0]
  clear hp hl hn hlp hll hu hup p1 p2 p3 hn0 hlm
  go_enter Try.func9, Try.ntmps9
  go_wp2_with fail
  go_loopw [5, 6] (fun av iv wr => ∃ (k : Nat), iv = .int .i64 (k : Int) ∧ k ≤ n ∧ (∃ a m c, av = .slice a m c) ∧ Hid (AccW w wr av k (flatE encW (wesV V es k)))) (fun _ iv _ => n - (intOf iv).toNat)
  case atStart => exact ⟨0, rfl, by omega, ⟨_, _, _, rfl⟩, AccW.nil w⟩
  case round =>
    obtain ⟨k, rfl, hkn, ⟨aa, am, ac, rfl⟩, hacc⟩ := hrel
    by_cases hlt : k < n
    · as_aux_lemma =>
        have z1 : (k : Int) < (n : Int) := by omega
        have z0 : (0 : Int) ≤ (k : Int) := by omega
        have hkl : k < es.length := by have := HN.out; omega
        obtain ⟨g, off, rfl, hrg⟩ := HPR.out (by omega)
        obtain ⟨hkey, hrd⟩ := HPK.out k hkl
        have HRG : Hid (∀ w', Below w.heap.size w w' → w'.rangeAt g (off + k * 33) (encP (es.getD k e00).1 (V k))) := fun w' hb => rng_grow (hrg k hkl) hb
        have HWO : Hid (WtOk (asW (es.getD k e00) (V k))) := asW_ok hkey hrd
        obtain ⟨va, vc, hV⟩ : ∃ va vc, V k = .slice va (es.getD k e00).2.length vc := by obtain ⟨a, c, e, _⟩ := hrd; exact ⟨a, c, e⟩
        obtain ⟨K, hK⟩ : ∃ K, K = (es.getD k e00).1 := ⟨_, rfl⟩
        obtain ⟨b, hb⟩ : ∃ b, b = (es.getD k e00).2 := ⟨_, rfl⟩
        obtain ⟨vl, hvl⟩ : ∃ vl, vl = (es.getD k e00).2.length := ⟨_, rfl⟩
        have HKL : Hid (K.length = 32) := by rw [hK]; exact hkey.1
        rw [← hvl] at hV
        rw [hV, ← hK] at HRG
        have HAW : Hid (asW (es.getD k e00) (V k) = ⟨K, false, b, .slice va vl vc⟩) := by show _ = _; unfold asW; rw [hV, hK, hb]
        rw [HAW.out] at HWO
        have HBL := hidden (built_wkv K b va vl vc HKL.out)
        have HLK : Hid ((Try.prog.info? 34).map (·.size) = some (B K).toList.length) := by show _ = _; rw [B_toList, List.length_map, HKL.out]; exact sz_path0
        obtain ⟨j, hj⟩ : ∃ j, j = k + 1 := ⟨_, rfl⟩
        have HJ := hidden hj
        have hk2 : k ≤ 200000 := by have := HN.out; omega
        have hwi := w64_succ hk2 hj
        have HAM : Hid (am = k) := by
          obtain ⟨_, _, e⟩ := lst_slice hacc.out.own
          injection e
        have HK6 : Hid (k + 1 ≤ 65536) := by show k + 1 ≤ 65536; have := HN.out; clear hwi; omega
        have HNX : Hid (flatE encW (wesV V es k) ++ encW ⟨K, false, b, .slice va vl vc⟩ = flatE encW (wesV V es j)) := by show _ = _; rw [hj, wesV_succ, HAW.out, flatE_snoc]
        have HIN := hidden info_write
        have HJN : Hid (j ≤ n) := by show j ≤ n; clear hwi; omega
        have hamk := HAM.out
        subst hamk
        clear hkl hrg hkey hrd hV hK hb hvl hj hk2 HPR HAM
        go_wp2_with fail
        have d0 : Below w.heap.size w wr.drew := grow_trans hacc.out.bel (Below.refl _ _).drew
        refine wp_region_held_drew (S := fun w' => w'.rangeAt g (off + am * 33) (encP K (.slice va vl vc))) (by kernel_rfl) (HRG.out _ d0) (fun hHeld => ?_)
        refine wpAnyH_take (i := 0) (v := .slice aa am ac) rfl (by kernel_rfl) (by kernel_rfl) (by kernel_rfl) (fun _ _ _ h => h) (Or.inl ⟨by rfl, fun w hS => by go_simp⟩) hHeld ?_
        simp only [Act.put, List.getElem_toArray, List.getElem_cons_zero, List.setIfInBounds_toArray, List.set_cons_zero, List.set_cons_succ]
        refine wpAnyH_take (i := 1) (v := .slice (some ⟨g, off, none⟩) n pc) rfl (by kernel_rfl) (by kernel_rfl) (by kernel_rfl) (fun _ _ _ h => h) (Or.inl ⟨by rfl, fun w hS => by go_simp⟩) hHeld ?_
        simp only [Act.put, List.getElem_toArray, List.getElem_cons_zero, List.getElem_cons_succ, List.setIfInBounds_toArray, List.set_cons_zero, List.set_cons_succ]
        refine wpAnyH_take (i := 2) (v := .int .i64 (am : Int)) rfl (by kernel_rfl) (by kernel_rfl) (by kernel_rfl) (fun _ _ _ h => h) (Or.inl ⟨by rfl, fun w hS => by go_simp⟩) hHeld ?_
        simp only [Act.put, List.getElem_toArray, List.getElem_cons_zero, List.getElem_cons_succ, List.setIfInBounds_toArray, List.set_cons_zero, List.set_cons_succ]
        refine wpAnyH_take (i := 3) (v := .pointer (some ⟨g, off + am * 33, none⟩)) rfl (by kernel_rfl) (by kernel_rfl) (by kernel_rfl) (fun _ _ _ h => h) (Or.inl ⟨by rfl, fun w hS => by go_simp⟩) hHeld ?_
        simp only [Act.put, List.getElem_toArray, List.getElem_cons_zero, List.getElem_cons_succ, List.setIfInBounds_toArray, List.set_cons_zero, List.set_cons_succ]
        refine wpAnyH_take (i := 4) (v := .pointer (some ⟨g, off + am * 33, none⟩)) rfl (by kernel_rfl) (by kernel_rfl) (by kernel_rfl) (fun _ _ _ h => h) (Or.inl ⟨by rfl, fun w hS => by go_simp⟩) hHeld ?_
        simp only [Act.put, List.getElem_toArray, List.getElem_cons_zero, List.getElem_cons_succ, List.setIfInBounds_toArray, List.set_cons_zero, List.set_cons_succ]
        refine wpAnyH_take (i := 5) (v := .agg (B K)) rfl (by kernel_rfl) (by kernel_rfl) (by kernel_rfl) (fun _ _ _ h => h) (yieldsIf_load_mid rfl 34 (.tmp 19) rfl g (off + am * 33) rfl (B K).toList _ (fun w hS => rng_key hS) Try.underlying34 rfl HLK.out) hHeld ?_
        simp only [Act.put, List.getElem_toArray, List.getElem_cons_zero, List.getElem_cons_succ, List.setIfInBounds_toArray, List.set_cons_zero, List.set_cons_succ]
        refine wpAnyH_take (i := 6) (v := .slice (some ⟨g, off, none⟩) n pc) rfl (by kernel_rfl) (by kernel_rfl) (by kernel_rfl) (fun _ _ _ h => h) (Or.inl ⟨by rfl, fun w hS => by go_simp⟩) hHeld ?_
        simp only [Act.put, List.getElem_toArray, List.getElem_cons_zero, List.getElem_cons_succ, List.setIfInBounds_toArray, List.set_cons_zero, List.set_cons_succ]
        refine wpAnyH_take (i := 7) (v := .int .i64 (am : Int)) rfl (by kernel_rfl) (by kernel_rfl) (by kernel_rfl) (fun _ _ _ h => h) (Or.inl ⟨by rfl, fun w hS => by go_simp⟩) hHeld ?_
        simp only [Act.put, List.getElem_toArray, List.getElem_cons_zero, List.getElem_cons_succ, List.setIfInBounds_toArray, List.set_cons_zero, List.set_cons_succ]
        refine wpAnyH_take (i := 8) (v := .pointer (some ⟨g, off + am * 33, none⟩)) rfl (by kernel_rfl) (by kernel_rfl) (by kernel_rfl) (fun _ _ _ h => h) (Or.inl ⟨by rfl, fun w hS => by go_simp⟩) hHeld ?_
        simp only [Act.put, List.getElem_toArray, List.getElem_cons_zero, List.getElem_cons_succ, List.setIfInBounds_toArray, List.set_cons_zero, List.set_cons_succ]
        refine wpAnyH_take (i := 9) (v := .pointer (some ⟨g, off + am * 33 + 32, none⟩)) rfl (by kernel_rfl) (by kernel_rfl) (by kernel_rfl) (fun _ _ _ h => h) (Or.inl ⟨by rfl, fun w hS => by go_simp⟩) hHeld ?_
        simp only [Act.put, List.getElem_toArray, List.getElem_cons_zero, List.getElem_cons_succ, List.setIfInBounds_toArray, List.set_cons_zero, List.set_cons_succ]
        refine wpAnyH_take (i := 10) (v := .slice va vl vc) rfl (by kernel_rfl) (by kernel_rfl) (by kernel_rfl) (fun _ _ _ h => h) (Or.inl ⟨by rfl, fun w hS => by (have q1 := rng_val hS HKL.out; go_simp)⟩) hHeld ?_
        simp only [Act.put, List.getElem_toArray, List.getElem_cons_zero, List.getElem_cons_succ, List.setIfInBounds_toArray, List.set_cons_zero, List.set_cons_succ]
        refine wpAnyH_take (i := 11) (v := .agg (encW ⟨K, false, b, .slice va vl vc⟩).toArray) rfl (by kernel_rfl) (by kernel_rfl) (by kernel_rfl) (fun _ _ _ h => h) (Or.inl ⟨by rfl, fun w hS => exec_bdw _ _ 37 _ (by rfl) _ (by rw [List.map_toArray]; exact HBL.out) w⟩) hHeld ?_
        simp only [Act.put, List.getElem_toArray, List.getElem_cons_zero, List.getElem_cons_succ, List.setIfInBounds_toArray, List.set_cons_zero, List.set_cons_succ]
        refine wpAnyH_ready (rs := [12]) (by kernel_rfl) (by simp) ?_
        refine AllReadyH.cons rfl (fun KQ hK => ?_) AllReadyH.nil
        refine step_bsw _ rfl _ rfl ⟨K, false, b, .slice va vl vc⟩ rfl HWO.out.len ?_
        intro w6 g6 hg6 B6 b6
        have HA3 := hidden ((hacc.out.grow (Below.refl _ _).drew).grow b6)
        refine hK.out _ _ (HRG.out _ HA3.out.bel) (fun hHeld => ?_)
        clear hK KQ
        refine wpAnyH_ready (rs := [13]) (by kernel_rfl) (by simp) ?_
        refine AllReadyH.cons rfl (fun KQ hK => ?_) AllReadyH.nil
        refine step_appLw _ rfl _ _ _ rfl 37 34 64 Try.underlying23 HIN.out (by omega) (.slice aa am ac) am _ rfl HA3.out.own g6 (encW ⟨K, false, b, .slice va vl vc⟩) rfl B6 HWO.out.len HWO.out.one (by have := HK6.out; simp only [maxLen]; clear hwi; omega) (by have := HK6.out; clear hwi; omega) ?_
        intro u2 w7 k1 k2 k3
        rw [HNX.out] at k1
        have HA4 := hidden (HA3.out.app k1 k2 k3)
        clear HA3 k2 k3
        obtain ⟨ua2, uc2, rfl⟩ := lst_slice k1
        clear k1 B6
        refine hK.out _ _ (HRG.out _ HA4.out.bel) (fun hHeld => ?_)
        clear hK KQ
        refine wpAnyH_take (i := 14) (v := .slice ua2 (am + 1) uc2) rfl (by kernel_rfl) (by kernel_rfl) (by kernel_rfl) (fun _ _ _ h => h) (Or.inl ⟨by rfl, fun w hS => by go_simp⟩) hHeld ?_
        simp only [Act.put, List.getElem_toArray, List.getElem_cons_zero, List.getElem_cons_succ, List.setIfInBounds_toArray, List.set_cons_zero, List.set_cons_succ]
        refine wpAnyH_done (by kernel_rfl) ?_ _
        go_wp2_with fail
        rw [hwi]
        clear hwi
        exact ⟨⟨j, rfl, HJN.out, ⟨_, _, _, rfl⟩, by rw [HJ.out]; rw [HJ.out] at HA4; exact HA4⟩, by have := HJ.out; simp [intOf]; omega⟩
    · have z1 : ¬ (k : Int) < (n : Int) := by omega
      obtain rfl : k = n := by omega
      have HAM : Hid (am = k) := by
        obtain ⟨_, _, e⟩ := lst_slice hacc.out.own
        injection e
      have hamk := HAM.out
      subst hamk
      clear HAM hlt z1 hkn
      obtain ⟨al, hal⟩ : ∃ al, al = wesV V es am ++ ls := ⟨_, rfl⟩
      have HAL : Hid (flatE encW (wesV V es am) ++ flatE encW ls = flatE encW al ∧ al.length = am + ls.length ∧ al.map nrm = (wes es ++ ls).map nrm) := by
        refine ⟨by rw [hal, flatE_app], by rw [hal, List.length_append, wesV_len], ?_⟩
        rw [hal, List.map_append, List.map_append, HN.out.1, wesV_nrm]
      have HALO : Hid (∀ w', Below w.heap.size w w' → ∀ x ∈ al, WtOk x ∧ Reads w' x.v x.b ∧ x.b.length ≤ 140737488355328) := fun w' hb x hx => by
        rw [hal] at hx
        rcases List.mem_append.1 hx with hx | hx
        · unfold wesV at hx
          obtain ⟨i, hi, rfl⟩ := List.mem_map.1 hx
          have hi2 : i < es.length := by have := List.mem_range.1 hi; have := HN.out; omega
          obtain ⟨h1, h2⟩ := HPK.out i hi2
          exact ⟨asW_ok h1 h2, h2.grow hb, HLL.out.1 i hi2⟩
        · exact ⟨HLV.out.ok x hx, (HLV.out.reads x hx).grow hb, HLL.out.2 x hx⟩
      have HLM : Hid (lm = ls.length) := by
        obtain ⟨_, _, e, _⟩ := HLV.out
        injection e
      have HSM : Hid (am + ls.length ≤ 65536) := Nat.le_trans HN.out.2 (by decide)
      have HSM4 : Hid (am + ls.length ≤ 4096) := HN.out.2
      have HORD : Hid (∀ v' w', Below w.heap.size w w' → Lst w' 37 34 v' (am + ls.length) (flatE encW al) → Calls Try.prog 7 #[v'] w' (RoPost al w')) := fun v' w' hb h1 => rorder_any v' al w' (wrAt_own (by rw [HAL.out.2.1]; exact h1) (fun x hx => (HALO.out w' hb x hx).1) (fun x hx => (HALO.out w' hb x hx).2.1)) (by rw [HAL.out.2.1]; exact HSM.out) (fun x hx => (HALO.out w' hb x hx).2.2)
      have HZ : Hid ((0 : Int) = 0) := rfl
      clear hal HPR HPK
      go_wp2_with (first
        | (at_builtin; refine wpList_appWs _ rfl _ _ rfl _ _ am _ ls rfl rfl hacc.out.own (HLV.out.grow hacc.out.bel) HSM.out ?_; intro u1 w5 k1 k2 k3; rw [HAL.out.1] at k1; have HA5 := hidden (hacc.out.app k1 k2 k3); clear k2 k3; obtain ⟨ua1, uc1, rfl⟩ := lst_slice k1; clear k1)
        | (go_at_call 7; refine (HORD.out _ _ HA5.out.bel HA5.out.own).mono ?_; rintro e w6 ⟨v2, rs, rfl, ho1, ho2, ho3, ho4, ho5⟩; have HOR := hidden ho1; have HOL := hidden ho2; have HOO := hidden ho3; have HOF := hidden ho4; have HOB := hidden ho5; clear ho1 ho2 ho3 ho4 ho5; obtain ⟨ra, rc, rfl⟩ := lst_slice HOR.out))
      obtain ⟨m, hm0⟩ : ∃ m, m = rs.length := ⟨_, rfl⟩
      have HM := hidden hm0
      rw [← hm0]
      have HROW : Hid (∀ w', Below w6.heap.size w6 w' → Lst w' 37 34 (.slice ra m rc) m (flatE encW rs)) := fun w' hb => by have := lst_grow HOR.out hb; rw [← hm0] at this; exact this
      have HM6 : Hid (m ≤ 4096) := by show m ≤ 4096; have h1 := HOF.out; have := HAL.out.2.1; have := HSM4.out; omega
      have HB06 : Hid (Below w.heap.size w w6) := grow_trans HA5.out.bel HOB.out
      have HPost : Hid (∀ w' nv, AccP w6 w' nv (itsOf rs).length (flatP (itsOf rs)) → RvPost es ls w (.returned nv) w') := fun w' nv h1 => by
        refine ⟨nv, rs, rfl, by rw [← HAL.out.2.2]; exact HOL.out, ?_, fun x hx => ⟨(HOO.out x hx).1, (HOO.out x hx).2.1.grow h1.bel⟩, by have := HOF.out; have := HAL.out.2.1; have := HN.out.1; omega, grow_trans HB06.out h1.bel⟩
        refine ⟨h1.own.1, ?_⟩
        rcases h1.own.2 with hh | ⟨g', cap, cur, e, hb', rest⟩
        · exact .inl hh
        · exact .inr ⟨g', cap, cur, e, Nat.le_trans HB06.out.size hb', rest⟩
      have HOKS : Hid (∀ x ∈ rs, WtOk x) := fun x hx => (HOO.out x hx).1
      clear hm0 HOR HOL HOO HOF HOB HA5 HAL HALO HORD hacc HSM HLV HLL HB06
      go_loopw [7, 8] (fun nv iv wr => ∃ (i : Nat), iv = .int .i64 (i : Int) ∧ i ≤ m ∧ (∃ a c, nv = .slice a (itsOf (rs.take i)).length c) ∧ Hid (AccP w6 wr nv (itsOf (rs.take i)).length (flatP (itsOf (rs.take i))))) (fun _ iv _ => m - (intOf iv).toNat)
      case atStart => exact ⟨0, rfl, by omega, ⟨_, _, rfl⟩, AccP.nil w6⟩
      case round =>
        obtain ⟨i, rfl, him, ⟨na, nc, rfl⟩, hacc⟩ := hrel
        obtain ⟨nl, hnl⟩ : ∃ nl, nl = (itsOf (rs.take i)).length := ⟨_, rfl⟩
        rw [← hnl] at hacc ⊢
        have HNL := hidden hnl
        clear hnl
        by_cases hlt : i < m
        · as_aux_lemma =>
            have z1 : (i : Int) < (m : Int) := by omega
            have z0 : (0 : Int) ≤ (i : Int) := by omega
            have hir : i < rs.length := by have := HM.out; omega
            obtain ⟨g, rc', hra, _⟩ := lst_pos (HROW.out w6 (Below.refl _ _)) (by omega)
            injection hra with hra hnn hrc
            subst hra
            clear hnn hrc
            obtain ⟨X, hX⟩ : ∃ X, X = rs[i]! := ⟨_, rfl⟩
            have hXo : WtOk X := by rw [hX, getElem!_pos rs i hir]; exact HOKS.out _ (List.getElem_mem hir)
            have HRX : Hid (∀ w', Below w6.heap.size w6 w' → w'.rangeAt g (i * 34) (encW X)) := fun w' hb => by
              rw [hX, getElem!_pos rs i hir]
              exact (lstE_range (HROW.out w' hb) HM.out.symm (fun x hx => (HOKS.out x hx).len) i hir).1
            have HKL := hidden hXo.hk.1
            obtain ⟨xa, xc, hxv⟩ := hXo.hv
            obtain ⟨xl, hxl⟩ : ∃ xl, xl = X.b.length := ⟨_, rfl⟩
            rw [← hxl] at hxv
            obtain ⟨xg, hxg⟩ : ∃ xg, xg = X.g := ⟨_, rfl⟩
            have HGN : Hid (∀ w', Below w6.heap.size w6 w' → w'.cell? ⟨g, i * 34 + 32, none⟩ = some (.bool xg) ∧ w'.cell? ⟨g, i * 34 + 33, none⟩ = some (.slice xa xl xc) ∧ w'.rangeAt g (i * 34) (B X.k).toList) := fun w' hb => by
              have h1 := encW_gone (HRX.out w' hb) hXo.hk.1
              have h2 := encW_val (HRX.out w' hb) hXo.hk.1
              rw [hxg, ← hxv]
              exact ⟨h1, h2, encW_key (HRX.out w' hb)⟩
            have HLK : Hid ((Try.prog.info? 34).map (·.size) = some (B X.k).toList.length) := by show _ = _; rw [B_toList, List.length_map, hXo.hk.1]; exact sz_path0
            obtain ⟨c4, _, _⟩ := HGN.out wr hacc.out.bel
            have HBL := hidden (built_pr X.k xa xl xc hXo.hk.1)
            obtain ⟨j, hj⟩ : ∃ j, j = i + 1 := ⟨_, rfl⟩
            have HJ := hidden hj
            have HTK : Hid (itsOf (rs.take j) = itsOf (rs.take i) ++ (if xg then [] else [((X.k, X.b), .slice xa xl xc)])) := by show _ = _; rw [hj, itsOf_take rs i hir, ← hX, hxg, hxv]
            have hi2 : i ≤ 200000 := by have := HM6.out; omega
            have HN4 : Hid (nl ≤ 4096) := by show nl ≤ 4096; rw [HNL.out]; have := itsOf_few (rs.take i); rw [List.length_take] at this; have := HM6.out; omega
            have hwi := w64_succ hi2 hj
            have HJN : Hid (j ≤ m) := by show j ≤ m; clear hwi; omega
            clear hX hXo hxv hxl hxg hj hi2 hir
            cases xg with
            | true =>
              have HE : Hid (itsOf (rs.take j) = itsOf (rs.take i)) := by show _ = _; rw [HTK.out]; simp
              go_wp2_with fail
              rw [hwi]
              clear hwi
              exact ⟨⟨j, rfl, HJN.out, ⟨_, _, by rw [HE.out, HNL.out]⟩, by rw [HE.out, ← HNL.out]; exact hacc⟩, by have := HJ.out; simp [intOf]; omega⟩
            | false =>
              have HE : Hid (itsOf (rs.take j) = itsOf (rs.take i) ++ [((X.k, X.b), .slice xa xl xc)]) := by show _ = _; rw [HTK.out]; simp
              have HE1 : Hid ((itsOf (rs.take j)).length = nl + 1) := by show _ = _; rw [HE.out, List.length_append, HNL.out]; rfl
              have HE2 : Hid (flatP (itsOf (rs.take i)) ++ encP X.k (.slice xa xl xc) = flatP (itsOf (rs.take j))) := by show _ = _; rw [HE.out, flatP_snoc]
              have HIP := hidden info_pair
              have HEO : Hid (∀ u ∈ encP X.k (.slice xa xl xc), u.oneCell' = true) := fun u hu => by
                unfold encP at hu
                rcases List.mem_append.1 hu with hu | hu
                · obtain ⟨z, _, rfl⟩ := List.mem_map.1 hu
                  rfl
                · obtain rfl : u = .slice xa xl xc := by simpa using hu
                  rfl
              go_wp2_with fail
              have d0 : Below w6.heap.size w6 wr.drew := grow_trans hacc.out.bel (Below.refl _ _).drew
              refine wp_region_held_drew (S := fun w' => w'.cell? ⟨g, i * 34 + 33, none⟩ = some (.slice xa xl xc) ∧ w'.rangeAt g (i * 34) (B X.k).toList) (by kernel_rfl) ((HGN.out _ d0).2) (fun hHeld => ?_)
              refine wpAnyH_take (i := 0) (v := .slice na nl nc) rfl (by kernel_rfl) (by kernel_rfl) (by kernel_rfl) (fun _ _ _ h => h) (Or.inl ⟨by rfl, fun w hS => by go_simp⟩) hHeld ?_
              simp only [Act.put, List.getElem_toArray, List.getElem_cons_zero, List.setIfInBounds_toArray, List.set_cons_zero, List.set_cons_succ]
              refine wpAnyH_take (i := 1) (v := .slice (some ⟨g, 0, none⟩) m rc) rfl (by kernel_rfl) (by kernel_rfl) (by kernel_rfl) (fun _ _ _ h => h) (Or.inl ⟨by rfl, fun w hS => by go_simp⟩) hHeld ?_
              simp only [Act.put, List.getElem_toArray, List.getElem_cons_zero, List.getElem_cons_succ, List.setIfInBounds_toArray, List.set_cons_zero, List.set_cons_succ]
              refine wpAnyH_take (i := 2) (v := .int .i64 (i : Int)) rfl (by kernel_rfl) (by kernel_rfl) (by kernel_rfl) (fun _ _ _ h => h) (Or.inl ⟨by rfl, fun w hS => by go_simp⟩) hHeld ?_
              simp only [Act.put, List.getElem_toArray, List.getElem_cons_zero, List.getElem_cons_succ, List.setIfInBounds_toArray, List.set_cons_zero, List.set_cons_succ]
              refine wpAnyH_take (i := 3) (v := .pointer (some ⟨g, i * 34, none⟩)) rfl (by kernel_rfl) (by kernel_rfl) (by kernel_rfl) (fun _ _ _ h => h) (Or.inl ⟨by rfl, fun w hS => by go_simp⟩) hHeld ?_
              simp only [Act.put, List.getElem_toArray, List.getElem_cons_zero, List.getElem_cons_succ, List.setIfInBounds_toArray, List.set_cons_zero, List.set_cons_succ]
              refine wpAnyH_take (i := 4) (v := .pointer (some ⟨g, i * 34, none⟩)) rfl (by kernel_rfl) (by kernel_rfl) (by kernel_rfl) (fun _ _ _ h => h) (Or.inl ⟨by rfl, fun w hS => by go_simp⟩) hHeld ?_
              simp only [Act.put, List.getElem_toArray, List.getElem_cons_zero, List.getElem_cons_succ, List.setIfInBounds_toArray, List.set_cons_zero, List.set_cons_succ]
              refine wpAnyH_take (i := 5) (v := .agg (B X.k)) rfl (by kernel_rfl) (by kernel_rfl) (by kernel_rfl) (fun _ _ _ h => h) (yieldsIf_load_mid rfl 34 (.tmp 50) rfl g (i * 34) rfl (B X.k).toList _ (fun w hS => hS.2) Try.underlying34 rfl HLK.out) hHeld ?_
              simp only [Act.put, List.getElem_toArray, List.getElem_cons_zero, List.getElem_cons_succ, List.setIfInBounds_toArray, List.set_cons_zero, List.set_cons_succ]
              refine wpAnyH_take (i := 6) (v := .slice (some ⟨g, 0, none⟩) m rc) rfl (by kernel_rfl) (by kernel_rfl) (by kernel_rfl) (fun _ _ _ h => h) (Or.inl ⟨by rfl, fun w hS => by go_simp⟩) hHeld ?_
              simp only [Act.put, List.getElem_toArray, List.getElem_cons_zero, List.getElem_cons_succ, List.setIfInBounds_toArray, List.set_cons_zero, List.set_cons_succ]
              refine wpAnyH_take (i := 7) (v := .int .i64 (i : Int)) rfl (by kernel_rfl) (by kernel_rfl) (by kernel_rfl) (fun _ _ _ h => h) (Or.inl ⟨by rfl, fun w hS => by go_simp⟩) hHeld ?_
              simp only [Act.put, List.getElem_toArray, List.getElem_cons_zero, List.getElem_cons_succ, List.setIfInBounds_toArray, List.set_cons_zero, List.set_cons_succ]
              refine wpAnyH_take (i := 8) (v := .pointer (some ⟨g, i * 34, none⟩)) rfl (by kernel_rfl) (by kernel_rfl) (by kernel_rfl) (fun _ _ _ h => h) (Or.inl ⟨by rfl, fun w hS => by go_simp⟩) hHeld ?_
              simp only [Act.put, List.getElem_toArray, List.getElem_cons_zero, List.getElem_cons_succ, List.setIfInBounds_toArray, List.set_cons_zero, List.set_cons_succ]
              refine wpAnyH_take (i := 9) (v := .pointer (some ⟨g, i * 34 + 33, none⟩)) rfl (by kernel_rfl) (by kernel_rfl) (by kernel_rfl) (fun _ _ _ h => h) (Or.inl ⟨by rfl, fun w hS => by go_simp⟩) hHeld ?_
              simp only [Act.put, List.getElem_toArray, List.getElem_cons_zero, List.getElem_cons_succ, List.setIfInBounds_toArray, List.set_cons_zero, List.set_cons_succ]
              refine wpAnyH_take (i := 10) (v := .slice xa xl xc) rfl (by kernel_rfl) (by kernel_rfl) (by kernel_rfl) (fun _ _ _ h => h) (Or.inl ⟨by rfl, fun w hS => by (have q1 := hS.1; go_simp)⟩) hHeld ?_
              simp only [Act.put, List.getElem_toArray, List.getElem_cons_zero, List.getElem_cons_succ, List.setIfInBounds_toArray, List.set_cons_zero, List.set_cons_succ]
              refine wpAnyH_take (i := 11) (v := .agg (encP X.k (.slice xa xl xc)).toArray) rfl (by kernel_rfl) (by kernel_rfl) (by kernel_rfl) (fun _ _ _ h => h) (Or.inl ⟨by rfl, fun w hS => exec_bdw _ _ 41 _ (by rfl) _ (by rw [List.map_toArray]; exact HBL.out) w⟩) hHeld ?_
              simp only [Act.put, List.getElem_toArray, List.getElem_cons_zero, List.getElem_cons_succ, List.setIfInBounds_toArray, List.set_cons_zero, List.set_cons_succ]
              refine wpAnyH_ready (rs := [12]) (by kernel_rfl) (by simp) ?_
              refine AllReadyH.cons rfl (fun KQ hK => ?_) AllReadyH.nil
              refine step_bspw _ rfl _ rfl X.k (.slice xa xl xc) rfl HKL.out ?_
              intro w9 g6 hg6 B6 b6
              have HA3 := hidden ((hacc.out.grow (Below.refl _ _).drew).grow b6)
              refine hK.out _ _ (HGN.out _ HA3.out.bel).2 (fun hHeld => ?_)
              clear hK KQ
              refine wpAnyH_ready (rs := [13]) (by kernel_rfl) (by simp) ?_
              refine AllReadyH.cons rfl (fun KQ hK => ?_) AllReadyH.nil
              refine step_appLw _ rfl _ _ _ rfl 41 33 56 Try.underlying22 HIP.out (by omega) (.slice na nl nc) nl _ rfl HA3.out.lst g6 (encP X.k (.slice xa xl xc)) rfl B6 (encP_length _ _ HKL.out) HEO.out (by have := HN4.out; simp only [maxLen]; clear hwi; omega) (by have := HN4.out; clear hwi; omega) ?_
              intro u2 w10 k1 k2 k3
              rw [HE2.out] at k1
              have HA4 := hidden (HA3.out.appL k1 k2 k3)
              clear HA3 k2 k3
              obtain ⟨ua2, uc2, rfl⟩ := lst_slice k1
              clear k1 B6
              refine hK.out _ _ (HGN.out _ HA4.out.bel).2 (fun hHeld => ?_)
              clear hK KQ
              refine wpAnyH_take (i := 14) (v := .slice ua2 (nl + 1) uc2) rfl (by kernel_rfl) (by kernel_rfl) (by kernel_rfl) (fun _ _ _ h => h) (Or.inl ⟨by rfl, fun w hS => by go_simp⟩) hHeld ?_
              simp only [Act.put, List.getElem_toArray, List.getElem_cons_zero, List.getElem_cons_succ, List.setIfInBounds_toArray, List.set_cons_zero, List.set_cons_succ]
              refine wpAnyH_done (by kernel_rfl) ?_ _
              go_wp2_with fail
              rw [hwi]
              clear hwi
              exact ⟨⟨j, rfl, HJN.out, ⟨_, _, by rw [HE1.out]⟩, by rw [HE1.out]; exact HA4⟩, by have := HJ.out; simp [intOf]; omega⟩
        · have z1 : ¬ (i : Int) < (m : Int) := by omega
          have HP := hidden (HPost.out wr (.slice na nl nc) (by have h1 := hacc.out; rw [HNL.out, List.take_of_length_le (show rs.length ≤ i by have := HM.out; omega)] at h1; rw [HNL.out, List.take_of_length_le (show rs.length ≤ i by have := HM.out; omega)]; exact h1))
          clear hacc
          go_wp2
          go_ret
          exact HP.out

end Go.Proofs.Ytagkmfgoahbclaa

/- rootcellarkit.LentPairs, with where its values lie. -/
namespace Go.Proofs.Ytagkmfgoahbclaa
set_option maxRecDepth 20000
open Go.RowKit

def LentPost2 (es : List Ent) (w : World) (e : Ending) (w' : World) : Prop := ∃ g G, e = .returned (.slice (some ⟨g, 0, none⟩) es.length (es.length + 2)) ∧ w.heap.size ≤ g ∧ (∀ i, i < es.length → w.heap.size ≤ G i) ∧ (∀ i j, i < es.length → j < es.length → i ≠ j → G i ≠ G j) ∧ LentP w' g es.length G es ∧ Below w.heap.size w w'

set_option maxRecDepth 100000 in
set_option maxHeartbeats 8000000 in
theorem lentPairs2_any (v : Value) (V : Nat → Value) (es : List Ent) (w : World) (hv : PrAt w v V es) (hn : es.length * 56 ≤ 140737488355328 - 4096) (hl : ∀ i, i < es.length → (es.getD i e00).2.length ≤ 140737488355328 - 4096) :
    Calls Try.prog 4 #[v] w (LentPost2 es w) := by
  obtain ⟨a, cap, rfl, hcap, hc, hr⟩ := hv
  have HC := hidden hc
  have HR := hidden hr
  have HLE := hidden hl
  obtain ⟨n, hnn⟩ : ∃ n, n = es.length := ⟨_, rfl⟩
  have HN := hidden hnn
  have HPost : Hid (∀ w' g G, w.heap.size ≤ g → (∀ i, i < n → w.heap.size ≤ G i) → (∀ i j, i < n → j < n → i ≠ j → G i ≠ G j) → LentP w' g n G es → Below w.heap.size w w' → LentPost2 es w (.returned (.slice (some ⟨g, 0, none⟩) n (n + 2))) w') := fun w' g G h1 h4 h5 h2 h3 => ⟨g, G, by rw [hnn], h1, by rw [← hnn]; exact h4, by rw [← hnn]; exact h5, by rw [← hnn]; exact h2, h3⟩
  rw [← hnn] at hn ⊢
  have hw2 : IntKind.i64.wrap ((n : Int) + 2) = (n : Int) + 2 := by rw [IntKind.wrap_i64]; omega
  have hn2 : (n + 2) * 56 ≤ 281474976710656 := by omega
  clear hc hr hcap hnn hl
  go_enter Try.func4, Try.ntmps4
  go_wp2_with (first
    | (refine wpList_mkp _ rfl _ _ rfl n rfl rfl hn2 ?_; intro w1 g hg hgl hz b1))
  have HG := hidden hg
  have HL0 : Hid (LentP w1 g 0 (fun _ => 0) es) := ⟨fun i hi => by omega, fun i hi => by omega, fun j hj => by rw [← HN.out]; exact (hz (n + j) (by omega)).1⟩
  have HT0 : Hid (∀ i, i < n → w1.there g (i * 33) 33) := fun i hi => (hz i (by omega)).2
  have HGL := hidden hgl
  clear hz hg hgl
  go_loopw [4] (fun i wr => ∃ (k : Nat) (G : Nat → Nat), k ≤ n ∧ i = .int .i64 k ∧ Hid (LentP wr g k G es) ∧ Hid (∀ i, i < n → wr.there g (i * 33) 33) ∧ Hid (g < wr.heap.size) ∧ Hid (∀ i, i < k → G i ≠ g ∧ w.heap.size ≤ G i ∧ G i < wr.heap.size) ∧ Hid (∀ i j, i < k → j < k → i ≠ j → G i ≠ G j) ∧ Below w.heap.size w wr) (fun i _ => n - (intOf i).toNat)
  case atStart => exact ⟨0, _, by omega, rfl, HL0, HT0, HGL, fun i hi => by omega, fun i j hi => by omega, b1⟩
  case round =>
    obtain ⟨k, G, hk, rfl, hlp, hth, hgl, hne, hap, hbw⟩ := hrel
    by_cases hlt : k < n
    · have hlt' : k < es.length := by rw [← HN.out]; exact hlt
      obtain ⟨ga, off, rfl, hcc⟩ := HC.out (by omega)
      have z1 : (k : Int) < (n : Int) := by omega
      have z0 : (0 : Int) ≤ (k : Int) := by omega
      obtain ⟨hkey, hrd⟩ := HR.out k hlt'
      have HLT : Hid (∀ w', Below w.heap.size w w' → Calls Try.prog 17 #[V k] w' fun e w'' => ∃ q, e = .returned (.slice (some ⟨q, 0, none⟩) (es.getD k e00).2.length ((es.getD k e00).2.length + 5)) ∧ w'.heap.size ≤ q ∧ Row w'' q ((es.getD k e00).2 ++ marks (es.getD k e00).2.length) ∧ Below w'.heap.size w' w'') := fun w' hb =>
        (lent_any (V k) _ w' (hrd.grow hb) (by have := HLE.out k hlt'; omega)).mono fun _ _ ⟨h1, h2, h3, _⟩ => ⟨_, h1, Nat.le_refl _, h2, h3⟩
      have HS : Hid (∀ w', Below w.heap.size w w' → w'.rangeAt ga (off + k * 33) (B (es.getD k e00).1).toList ∧ w'.cell? ⟨ga, off + k * 33 + 32, none⟩ = some (V k)) := fun w' hw' => ⟨rng_key (rng_grow (hcc k hlt') hw'), rng_val (rng_grow (hcc k hlt') hw') hkey.1⟩
      have HKY := hidden hkey
      obtain ⟨va, vc, hV, _, _, _, _⟩ := hrd
      obtain ⟨K, hK⟩ : ∃ K, K = (es.getD k e00).1 := ⟨_, rfl⟩
      obtain ⟨L, hL⟩ : ∃ L, L = (es.getD k e00).2.length := ⟨_, rfl⟩
      rw [hV] at HLT HS
      rw [← hL] at HLT HS
      rw [← hK] at HS HKY
      have HLK : Hid ((Try.prog.info? 34).map (·.size) = some (B K).toList.length) := by show _ = _; rw [B_toList, List.length_map, HKY.out.1]; exact sz_path
      have HBP : Hid (∀ q, Try.prog.built 41 [(0, .agg (B K)), (1, .slice (some ⟨q, 0, none⟩) L (L + 5))] = some (encP K (.slice (some ⟨q, 0, none⟩) L (L + 5))).toArray) := fun q => built_pair K _ _ _ HKY.out.1
      have HKE := hidden hK
      have HLL := hidden hL
      clear hcc hkey hK hL hV hlt'
      go_wp2_with fail
      have d0 : Below w.heap.size w wr.drew := grow_trans hbw (Below.refl _ _).drew
      refine wp_region_held_drew (S := fun w' => w'.rangeAt ga (off + k * 33) (B K).toList ∧ w'.cell? ⟨ga, off + k * 33 + 32, none⟩ = some (.slice va L vc)) (by kernel_rfl) (HS.out _ d0) (fun hHeld => ?_)
      refine wpAnyH_take (i := 0) (v := .slice (some ⟨g, 0, none⟩) n (n + 2)) rfl (by kernel_rfl) (by kernel_rfl) (by kernel_rfl) (fun _ _ _ h => h) (Or.inl ⟨by rfl, fun w hS => by go_simp⟩) hHeld ?_
      simp only [Act.put, List.getElem_toArray, List.getElem_cons_zero, List.setIfInBounds_toArray, List.set_cons_zero, List.set_cons_succ]
      refine wpAnyH_take (i := 1) (v := .int .i64 k) rfl (by kernel_rfl) (by kernel_rfl) (by kernel_rfl) (fun _ _ _ h => h) (Or.inl ⟨by rfl, fun w hS => by go_simp⟩) hHeld ?_
      simp only [Act.put, List.getElem_toArray, List.getElem_cons_zero, List.getElem_cons_succ, List.setIfInBounds_toArray, List.set_cons_zero, List.set_cons_succ]
      refine wpAnyH_take (i := 2) (v := .slice (some ⟨ga, off, none⟩) n cap) rfl (by kernel_rfl) (by kernel_rfl) (by kernel_rfl) (fun _ _ _ h => h) (Or.inl ⟨by rfl, fun w hS => by go_simp⟩) hHeld ?_
      simp only [Act.put, List.getElem_toArray, List.getElem_cons_zero, List.getElem_cons_succ, List.setIfInBounds_toArray, List.set_cons_zero, List.set_cons_succ]
      refine wpAnyH_take (i := 3) (v := .int .i64 k) rfl (by kernel_rfl) (by kernel_rfl) (by kernel_rfl) (fun _ _ _ h => h) (Or.inl ⟨by rfl, fun w hS => by go_simp⟩) hHeld ?_
      simp only [Act.put, List.getElem_toArray, List.getElem_cons_zero, List.getElem_cons_succ, List.setIfInBounds_toArray, List.set_cons_zero, List.set_cons_succ]
      refine wpAnyH_take (i := 4) (v := .pointer (some ⟨ga, off + k * 33, none⟩)) rfl (by kernel_rfl) (by kernel_rfl) (by kernel_rfl) (fun _ _ _ h => h) (Or.inl ⟨by rfl, fun w hS => by go_simp⟩) hHeld ?_
      simp only [Act.put, List.getElem_toArray, List.getElem_cons_zero, List.getElem_cons_succ, List.setIfInBounds_toArray, List.set_cons_zero, List.set_cons_succ]
      refine wpAnyH_take (i := 5) (v := .pointer (some ⟨ga, off + k * 33, none⟩)) rfl (by kernel_rfl) (by kernel_rfl) (by kernel_rfl) (fun _ _ _ h => h) (Or.inl ⟨by rfl, fun w hS => by go_simp⟩) hHeld ?_
      simp only [Act.put, List.getElem_toArray, List.getElem_cons_zero, List.getElem_cons_succ, List.setIfInBounds_toArray, List.set_cons_zero, List.set_cons_succ]
      refine wpAnyH_take (i := 6) (v := .agg (B K)) rfl (by kernel_rfl) (by kernel_rfl) (by kernel_rfl) (fun _ _ _ h => h) (yieldsIf_load_mid rfl 34 (.tmp 22) rfl ga (off + k * 33) rfl (B K).toList _ (fun w hS => hS.1) Try.underlying34 rfl HLK.out) hHeld ?_
      simp only [Act.put, List.getElem_toArray, List.getElem_cons_zero, List.getElem_cons_succ, List.setIfInBounds_toArray, List.set_cons_zero, List.set_cons_succ]
      refine wpAnyH_take (i := 7) (v := .slice (some ⟨ga, off, none⟩) n cap) rfl (by kernel_rfl) (by kernel_rfl) (by kernel_rfl) (fun _ _ _ h => h) (Or.inl ⟨by rfl, fun w hS => by go_simp⟩) hHeld ?_
      simp only [Act.put, List.getElem_toArray, List.getElem_cons_zero, List.getElem_cons_succ, List.setIfInBounds_toArray, List.set_cons_zero, List.set_cons_succ]
      refine wpAnyH_take (i := 8) (v := .int .i64 k) rfl (by kernel_rfl) (by kernel_rfl) (by kernel_rfl) (fun _ _ _ h => h) (Or.inl ⟨by rfl, fun w hS => by go_simp⟩) hHeld ?_
      simp only [Act.put, List.getElem_toArray, List.getElem_cons_zero, List.getElem_cons_succ, List.setIfInBounds_toArray, List.set_cons_zero, List.set_cons_succ]
      refine wpAnyH_take (i := 9) (v := .pointer (some ⟨ga, off + k * 33, none⟩)) rfl (by kernel_rfl) (by kernel_rfl) (by kernel_rfl) (fun _ _ _ h => h) (Or.inl ⟨by rfl, fun w hS => by go_simp⟩) hHeld ?_
      simp only [Act.put, List.getElem_toArray, List.getElem_cons_zero, List.getElem_cons_succ, List.setIfInBounds_toArray, List.set_cons_zero, List.set_cons_succ]
      refine wpAnyH_take (i := 10) (v := .pointer (some ⟨ga, off + k * 33 + 32, none⟩)) rfl (by kernel_rfl) (by kernel_rfl) (by kernel_rfl) (fun _ _ _ h => h) (Or.inl ⟨by rfl, fun w hS => by go_simp⟩) hHeld ?_
      simp only [Act.put, List.getElem_toArray, List.getElem_cons_zero, List.getElem_cons_succ, List.setIfInBounds_toArray, List.set_cons_zero, List.set_cons_succ]
      refine wpAnyH_take (i := 11) (v := .slice va L vc) rfl (by kernel_rfl) (by kernel_rfl) (by kernel_rfl) (fun _ _ _ h => h) (Or.inl ⟨by rfl, fun w hS => by (have s1 := hS.2; go_simp)⟩) hHeld ?_
      simp only [Act.put, List.getElem_toArray, List.getElem_cons_zero, List.getElem_cons_succ, List.setIfInBounds_toArray, List.set_cons_zero, List.set_cons_succ]
      refine wpAnyH_ready (rs := [12]) (by kernel_rfl) (by simp) ?_
      refine AllReadyH.cons rfl (fun KQ hK => ?_) AllReadyH.nil
      go_simp
      refine (HLT.out _ d0).mono ?_
      rintro e x1 ⟨q, rfl, hq, hrow, a1⟩
      have d1 := grow_trans d0 a1
      refine hK.out _ _ (HS.out _ d1) (fun hHeld => ?_)
      clear hK KQ
      refine wpAnyH_take (i := 13) (v := .agg (encP K (.slice (some ⟨q, 0, none⟩) L (L + 5))).toArray) rfl (by kernel_rfl) (by kernel_rfl) (by kernel_rfl) (fun _ _ _ h => h) (Or.inl ⟨by rfl, fun w hS => exec_bd _ _ 41 _ (by rfl) _ (by rw [List.map_toArray]; exact HBP.out q) w⟩) hHeld ?_
      simp only [Act.put, List.getElem_toArray, List.getElem_cons_zero, List.getElem_cons_succ, List.setIfInBounds_toArray, List.set_cons_zero, List.set_cons_succ]
      refine wpAnyH_take (i := 14) (v := .pointer (some ⟨g, k * 33, none⟩)) rfl (by kernel_rfl) (by kernel_rfl) (by kernel_rfl) (fun _ _ _ h => h) (Or.inl ⟨by rfl, fun w hS => by go_simp⟩) hHeld ?_
      simp only [Act.put, List.getElem_toArray, List.getElem_cons_zero, List.getElem_cons_succ, List.setIfInBounds_toArray, List.set_cons_zero, List.set_cons_succ]
      refine wpAnyH_ready (rs := [15]) (by kernel_rfl) (by simp) ?_
      refine AllReadyH.cons rfl (fun KQ hK => ?_) AllReadyH.nil
      have hgx : Below wr.heap.size wr x1 := grow_trans (Below.refl _ _).drew a1
      have hlp1 := hlp.out.grow hgx
      have hsz9 : (encP K (.slice (some ⟨q, 0, none⟩) L (L + 5))).toArray.size = 33 := by rw [List.size_toArray]; exact encP_length _ _ HKY.out.1
      refine step_stL _ rfl _ _ _ rfl g (k * 33) (encP K (.slice (some ⟨q, 0, none⟩) L (L + 5))).toArray rfl rfl (by rw [hsz9]; exact there_grow (hth.out k hlt) hgx) (by rw [hsz9]; exact size_pair) (encP_one _ _ _ _) ?_
      have c4 : Below w.heap.size w (x1.setCells g (k * 33) (encP K (.slice (some ⟨q, 0, none⟩) L (L + 5)))) := setCells_below HG.out _ _ _ d1
      have hqg : q ≠ g := by
        have h1 := hgl.out
        have h2 : wr.drew.heap.size = wr.heap.size := rfl
        intro e
        subst e
        omega
      have hths : ∀ i, i < n → (x1.setCells g (k * 33) (encP K (.slice (some ⟨q, 0, none⟩) L (L + 5)))).there g (i * 33) 33 := fun i hi => World.there_setCells (there_grow (hth.out i hi) hgx) _ _ _
      have hlen9 : (encP K (.slice (some ⟨q, 0, none⟩) L (L + 5))).length = 33 := encP_length _ _ HKY.out.1
      have hlp2 : LentP (x1.setCells g (k * 33) (encP K (.slice (some ⟨q, 0, none⟩) L (L + 5)))) g (k + 1) (fun i => if i = k then q else G i) es := by
        refine ⟨fun i hi => ?_, fun i hi => ?_, fun j hj => ?_⟩
        · by_cases e : i = k
          · subst e
            have e2 : lvP es (fun j => if j = i then q else G j) i = .slice (some ⟨q, 0, none⟩) L (L + 5) := by simp [lvP, HLL.out]
            rw [e2, ← HKE.out]
            exact World.rangeAt_setCells_same _ _ _ _ (by rw [hlen9]; exact there_grow (hth.out i hlt) hgx)
          · have e2 : lvP es (fun j => if j = k then q else G j) i = lvP es G i := by simp [lvP, e]
            rw [e2]
            refine World.rangeAt_setCells_apart (hlp1.pair i (by omega)) _ _ _ (.inr (.inl ?_))
            rw [encP_length _ _ (HR.out i (by rw [← HN.out]; omega)).1.1]
            omega
        · by_cases e : i = k
          · subst e
            simp only [if_true]
            have hrow' : Row x1 q ((es.getD i e00).2 ++ marks (es.getD i e00).2.length) := by rw [← HLL.out]; exact hrow
            exact hrow'.of_block (setCells_other hqg _ _ _)
          · simp only [if_neg e]
            exact (hlp1.row i (by omega)).of_block (setCells_other (hne.out i (by omega)).1 _ _ _)
        · refine World.rangeAt_setCells_apart (hlp1.spare j hj) _ _ _ (.inr (.inr ?_))
          rw [hlen9]
          have := HN.out
          omega
      have hqr : wr.heap.size ≤ q := hq
      have hql : q < x1.heap.size := hrow.lt
      have hne2 : ∀ i, i < k + 1 → (fun i => if i = k then q else G i) i ≠ g ∧ w.heap.size ≤ (fun i => if i = k then q else G i) i ∧ (fun i => if i = k then q else G i) i < (x1.setCells g (k * 33) (encP K (.slice (some ⟨q, 0, none⟩) L (L + 5)))).heap.size := by
        intro i hi
        rw [sz_setCells]
        by_cases e : i = k
        · simp only [if_pos e]
          exact ⟨hqg, by have := hbw.size; omega, hql⟩
        · simp only [if_neg e]
          obtain ⟨h1, h2, h3⟩ := hne.out i (by omega)
          exact ⟨h1, h2, by have := hgx.size; omega⟩
      have hap2 : ∀ i j, i < k + 1 → j < k + 1 → i ≠ j → (fun i => if i = k then q else G i) i ≠ (fun i => if i = k then q else G i) j := by
        intro i j hi hj hij
        by_cases e : i = k
        · have e2 : j ≠ k := fun h => hij (by omega)
          simp only [if_pos e, if_neg e2]
          have := (hne.out j (by omega)).2.2
          omega
        · simp only [if_neg e]
          by_cases e2 : j = k
          · simp only [if_pos e2]
            have := (hne.out i (by omega)).2.2
            omega
          · simp only [if_neg e2]
            exact hap.out i j (by omega) (by omega) hij
      have HAP2 := hidden hap2
      clear hap2
      have HLP2 := hidden hlp2
      have HTH2 := hidden hths
      have HNE2 := hidden hne2
      clear hlp2 hths hne2 hlp1
      generalize hxx : x1.setCells g (k * 33) (encP K (.slice (some ⟨q, 0, none⟩) L (L + 5))) = x2 at c4 HLP2 HTH2 HNE2 ⊢
      clear hxx
      refine hK.out _ _ (HS.out _ c4) (fun hHeld => ?_)
      clear hK KQ
      refine wpAnyH_done (by kernel_rfl) ?_ _
      have hg2 : Hid (g < x2.heap.size) := by
        obtain ⟨h1, _⟩ := HTH2.out k hlt 0 (by omega)
        obtain ⟨u, hu⟩ := Option.isSome_iff_exists.1 h1
        exact block_lt_of_cell hu
      go_wp2_with fail
      exact ⟨⟨k + 1, _, by omega, by go_num, HLP2, HTH2, hg2, HNE2, HAP2, c4⟩, by simp [intOf]; omega⟩
    · have hkn : k = n := by omega
      subst hkn
      have z1 : ¬ (k : Int) < (k : Int) := by omega
      go_wp2
      go_ret
      exact HPost.out _ _ _ HG.out (fun i hi => (hne.out i hi).2.1) hap.out hlp.out hbw

end Go.Proofs.Ytagkmfgoahbclaa
