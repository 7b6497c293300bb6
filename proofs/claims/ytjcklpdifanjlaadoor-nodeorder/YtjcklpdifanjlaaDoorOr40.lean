/- rootcellarkit.CopyBytes, CopyPairs and Pick, as contracts; entries appended, with where they lie. -/
import Derived.Test.YtjcklpdifanjlaaDoorOr36
import Derived.Test.YtjcklpdifanjlaaDoorOr23
import Derived.Test.YtjcklpdifanjlaaDoorOr27
import Derived.Test.YtjcklpdifanjlaaDoorOr34
import Derived.Test.YtjcklpdifanjlaaDoorOr29
namespace Go.Proofs.YtjcklpdifanjlaaDoor
set_option maxRecDepth 20000
open Go.RowKit

set_option maxHeartbeats 2000000 in
theorem copyBytes_any (v : Value) (zs : List Int) (w : World) (h : Reads w v zs) (hl : zs.length ≤ 140737488355328) :
    Calls Tryd.prog 68 #[v] w fun e w' => ∃ v' sp, e = .returned v' ∧ Own w.heap.size w' v' zs sp ∧ Below w.heap.size w w' := by
  have HR := hidden h
  have HL : Hid (([] : List Int).length + zs.length ≤ 140737488355328) := by show _ ≤ _; simpa using hl
  obtain ⟨a, c, rfl, _⟩ := h
  have HO := hidden (Own.empty w.heap.size w (Nat.le_refl _))
  clear hl
  go_enter Tryd.func68, Tryd.ntmps68
  go_wp2_with (at_builtin; refine wpList_app _ rfl _ _ rfl w.heap.size _ _ [] [] zs HO.out (HR.out.grow (grow_alloc _ _)) rfl rfl HL.out (by simp) ?_; intro v' w3 sp' ho3 hg3 _ _)
  have c3 : Below w.heap.size w w3 := (grow_alloc w _).trans ⟨hg3.os, hg3.tape, hg3.output, hg3.size, fun k hk => hg3.block k (Nat.lt_of_lt_of_le hk (by simp)) (fun e => by
    have h1 : w.heap.size = k := by simpa [Value.ownBlock] using e.symm
    omega)⟩
  obtain ⟨a', c', rfl⟩ := ho3.slice
  go_wp2
  go_ret
  exact ⟨_, _, rfl, by simpa using ho3, c3⟩

/-- A list's block behind an append. -/
def Where (w : World) (v v' : Value) : Prop := v'.ownBlock = v.ownBlock ∨ ∃ k, v'.ownBlock = some k ∧ w.heap.size ≤ k

theorem run_appP (ty : TypeId) (w : World) (base : Nat) (v : Value) (n : Nat) (xs : List Value) (hown : w.ownsRow base 75 33 v n xs) (g : Nat) (k : List Int) (u : Value)
    (hb : Blk w g 75 (encP k u).toArray) (hl : k.length = 32) (h1 : u.oneCell' = true) (hn : n ≤ 4096) (hbase : base ≤ w.heap.size) :
    ∃ v' w', (Builtin.append_ #[49, 49] ty #[v, .slice (some ⟨g, 0, none⟩) 1 1]).run Tryd.prog w = .ok v' w' ∧ w'.ownsRow base 75 33 v' (n + 1) (xs ++ encP k u) ∧ w.grownBy w' v.ownBlock ∧ Where w v v' := by
  obtain ⟨i, z, hi, hz, hsz, hby, hzs⟩ := info_pair
  have hlen : (encP k u).length = 1 * 33 := by rw [encP_length k u hl]
  have hnews : ∀ j q, (encP k u)[j]? = some q → w.cell? ((⟨g, 0, none⟩ : Addr).add j) = some q := by
    intro j q hq
    rw [Addr.add_lit, Nat.zero_add, hb.cell]
    simpa using hq
  have hone : ∀ q ∈ encP k u, q.oneCell' = true := by
    intro q hq
    unfold encP at hq
    rcases List.mem_append.1 hq with hq | hq
    · obtain ⟨z, _, rfl⟩ := List.mem_map.1 hq
      rfl
    · obtain rfl : q = u := by simpa using hq
      exact h1
  obtain ⟨v', w', hr, h2, h3, _⟩ := run_append_own (P := Tryd.prog) w base 49 ty 75 i z 33 56 Tryd.underlying49 hi hz hsz hby hzs (by omega) v n xs hown ⟨g, 0, none⟩ 1 1 (encP k u) hlen hnews hone (by simp only [maxLen]; omega) (by omega) hbase
  refine ⟨v', w', hr, h2, h3, ?_⟩
  rcases hown.2 with ⟨rfl, rfl⟩ | ⟨g0, cap, cur, rfl, hbg, hg, hnc, hcm, hcs, htake⟩
  · right
    obtain ⟨v2, w2, hr2, h4, _⟩ := run_append_own (P := Tryd.prog) w w.heap.size 49 ty 75 i z 33 56 Tryd.underlying49 hi hz hsz hby hzs (by omega) (.slice none 0 0) 0 [] (World.ownsRow_nil _ _ _ _) ⟨g, 0, none⟩ 1 1 (encP k u) hlen hnews hone (by simp only [maxLen]; omega) (by omega) (Nat.le_refl _)
    rw [hr] at hr2
    injection hr2 with e1 e2
    subst e1
    subst e2
    rcases h4.2 with ⟨e, e2⟩ | ⟨g', cap', cur', e, hb', _⟩
    · omega
    · exact ⟨g', by rw [e]; rfl, hb'⟩
  · by_cases hroom : n + 1 ≤ cap
    · left
      have hr2 := run_append_room (P := Tryd.prog) w 49 ty 75 i Tryd.underlying49 hi g0 n cap cur hg ⟨g, 0, none⟩ 1 1 (encP k u) (by rw [hsz]; exact hlen) hnews hone hroom (by rw [hsz, hlen, hcs]; omega)
      rw [hr] at hr2
      injection hr2 with e1 e2
      rw [e1]
      rfl
    · right
      have holds : ∀ j q, xs[j]? = some q → w.cell? ((⟨g0, 0, none⟩ : Addr).add j) = some q := hown.cells (g := g0) rfl
      have hr2 := run_append_grow (P := Tryd.prog) w 49 ty 75 i z Tryd.underlying49 hi hz ⟨g0, 0, none⟩ n cap xs (by rw [hsz]; exact hown.1) holds ⟨g, 0, none⟩ 1 1 (encP k u) (by rw [hsz]; exact hlen) hnews (by omega) (by omega) (growslice_fits (by omega) (by rw [hby]; omega))
      rw [hr] at hr2
      injection hr2 with e1 e2
      exact ⟨w.heap.size, by rw [e1]; rfl, Nat.le_refl _⟩

/-- []api.Pair{x}, in a region that draws its order. -/
theorem step_bsp {ops : Array Oper} {op : Oper} {a : Act} {K : Act → World → Prop} {Q : Exit → Act → World → Prop} {E : Prop} (w : World) (hgd : op.guard = none) (x : Operand) (ho : op.op = .buildSlice 49 1 #[(0, x)])
    (k : List Int) (v : Value) (hx : a.eval x = .agg (encP k v).toArray) (hl : k.length = 32)
    (hk : K (a.put op.dst (.slice (some ⟨w.heap.size, 0, none⟩) 1 1)) (w.alloc (.cells (encP k v).toArray 75))) : if Region.wanted op (yielded ops a.tmps) = true then Oper.wp Tryd.prog op a w K Q else E := by
  have hw : Region.wanted op (yielded ops a.tmps) = true := by simp [Region.wanted, hgd]
  rw [if_pos hw]
  obtain ⟨i, z, hi, hz, hs, _, hzs⟩ := info_pair
  have hrun := run_buildSlice (P := Tryd.prog) w 49 75 1 #[(0, .agg (encP k v).toArray)] (encP k v).toArray i z Tryd.underlying49 hi hz (by rw [hs]; omega) (by rw [hs]; omega) (by
    rw [hs]
    obtain ⟨zs, hzz, hzl⟩ : ∃ zs : List Value, (Array.range (1 * 33)).map (z.cells[· % z.cells.size]!) = zs.toArray ∧ zs.length = 33 := ⟨_, (Array.toArray_toList).symm, by simp⟩
    rw [hzz]
    have := fill_one (fun i => some (i * 33, 33)) 0 0 33 (.agg (encP k v).toArray) (encP k v) zs [] rfl rfl (encP_length k v hl) (by omega)
    rw [show (#[(0, Value.agg (encP k v).toArray)] : Array (Nat × Value)).toList = [(0, Value.agg (encP k v).toArray)] from rfl, this, Instr.fill]
    simp [hzl])
  unfold Oper.wp execOp
  simp only [ho, List.map_toArray, List.map_cons, List.map_nil, hx, Sem.run_bind, hrun, Result.andThen_ok, Sem.run_pure]
  exact hk

/-- append of one entry, in a region that draws its order. -/
theorem step_appP {ops : Array Oper} {o : Oper} {a : Act} {K : Act → World → Prop} {Q : Exit → Act → World → Prop} {E : Prop} (w : World) (hgd : o.guard = none) (s x : Operand)
    (hop : o.op = .call { callee := .builtin .append, args := #[s, x], argTypes := #[49, 49] })
    (base : Nat) (v : Value) (n : Nat) (xs : List Value) (hown : w.ownsRow base 75 33 v n xs) (hs : a.eval s = v) (g : Nat) (k : List Int) (u : Value) (hx : a.eval x = .slice (some ⟨g, 0, none⟩) 1 1)
    (hb : Blk w g 75 (encP k u).toArray) (hl : k.length = 32) (h1 : u.oneCell' = true) (hn : n ≤ 4096) (hbase : base ≤ w.heap.size)
    (hk : ∀ v' w', w'.ownsRow base 75 33 v' (n + 1) (xs ++ encP k u) → w.grownBy w' v.ownBlock → Where w v v' → K (a.put o.dst v') w') : if Region.wanted o (yielded ops a.tmps) = true then Oper.wp Tryd.prog o a w K Q else E := by
  have hw : Region.wanted o (yielded ops a.tmps) = true := by simp [Region.wanted, hgd]
  rw [if_pos hw]
  obtain ⟨v', w', hr, h2, h3, h4⟩ := run_appP o.type w base v n xs hown g k u hb hl h1 hn hbase
  unfold Oper.wp execOp
  simp only [hop, resolve, invoke, builtin, Sem.run_bind, Sem.run_pure, Result.andThen_ok, List.map_toArray, List.map_cons, List.map_nil, hs, hx, hr]
  exact hk v' w' h2 h3 h4

def paPlaces : Nat → Option (Nat × Nat) := fun i => (#[(0, 32), (32, 1)] : Array (Nat × Nat))[i]?

theorem built_paEq (ps : List (Nat × Value)) : Tryd.prog.built 75 ps = Instr.fill paPlaces (encP z32 (.slice none 0 0)).toArray ps := by kernel_rfl

theorem built_pair2 (K : List Int) (a : Option Addr) (n c : Nat) (hk : K.length = 32) : Tryd.prog.built 75 [(0, .agg (B K)), (1, .slice a n c)] = some (encP K (.slice a n c)).toArray := by
  rw [built_paEq]
  rw [fill_one paPlaces 0 0 32 (.agg (B K)) (K.map (Value.int .u8)) (encP z32 (.slice none 0 0)) _ rfl (cells_b K) (by simp [hk]) (by simp [encP, z32_length])]
  have e1 : (encP z32 (.slice none 0 0)).take 0 ++ (K.map (Value.int .u8) ++ (encP z32 (.slice none 0 0)).drop (0 + 32)) = K.map (Value.int .u8) ++ [.slice none 0 0] := by simp [encP, z32]
  first
    | rw [e1]
    | skip
  rw [fill_one paPlaces 1 32 1 (.slice a n c) [.slice a n c] _ _ rfl rfl rfl (by simp [hk, encP, z32_length])]
  simp [encP, Instr.fill, hk, z32]

/-- A value's block is no list's. -/
theorem ownV_ne {w : World} {b base n : Nat} {u v : Value} {zs sp : List Int} {xs : List Value} (h : Own b w u zs sp) (ho : w.ownsRow base 75 33 v n xs) : ∀ k, u.ownBlock = some k → some k ≠ v.ownBlock := by
  intro k hk
  rcases h.2.2.2 with ⟨rfl, _⟩ | ⟨g, rest, _, rfl, hrow⟩
  · simp [Value.ownBlock] at hk
  · obtain rfl : g = k := by simpa [Value.ownBlock] using hk
    rcases ho.2 with ⟨rfl, _⟩ | ⟨g', cap, cur, rfl, _, hg, _⟩
    · simp [Value.ownBlock]
    · intro e
      obtain rfl : g = g' := by simpa [Value.ownBlock] using e
      have hrow' : w.heap[g]? = some (.cells (B (zs ++ sp ++ rest)) 5 (0, 0)) := hrow
      rw [hrow'] at hg
      injection hg with hg
      injection hg with _ ht
      exact absurd ht (by decide)

def CopyPost (es : List Ent) (w : World) (e : Ending) (w' : World) : Prop :=
  ∃ v its, e = .returned v ∧ its.map (·.1) = es ∧ (∀ p ∈ its, Key p.1.1 ∧ ∃ sp, Own w.heap.size w' p.2 p.1.2 sp) ∧ w'.ownsRow w.heap.size 75 33 v its.length (flatP its) ∧ Below w.heap.size w w'

set_option maxRecDepth 100000 in
set_option maxHeartbeats 8000000 in
theorem copyPairs_any (v : Value) (V : Nat → Value) (es : List Ent) (w : World) (hv : PrAt w v V es) (hn : es.length ≤ 4096) (hl : ∀ i, i < es.length → (es.getD i e00).2.length ≤ 140737488355328) :
    Calls Tryd.prog 35 #[v] w (CopyPost es w) := by
  obtain ⟨a, cap, rfl, hcap, hc, hr⟩ := hv
  have HC := hidden hc
  have HR := hidden hr
  have HVL := hidden hl
  obtain ⟨n, hnn⟩ : ∃ n, n = es.length := ⟨_, rfl⟩
  have HN := hidden hnn
  have HPost : Hid (∀ w' s its, its.map (·.1) = es → (∀ p ∈ its, Key p.1.1 ∧ ∃ sp, Own w.heap.size w' p.2 p.1.2 sp) → w'.ownsRow w.heap.size 75 33 s its.length (flatP its) → Below w.heap.size w w' → CopyPost es w (.returned s) w') := fun w' s its h1 h2 h3 h4 => ⟨s, its, rfl, h1, h2, h3, h4⟩
  rw [← hnn] at hn ⊢
  clear hc hr hcap hnn hl
  go_enter Tryd.func35, Tryd.ntmps35
  go_wp2_with fail
  go_loopw [3, 4] (fun s i wr => ∃ (k : Nat) (its : List (Ent × Value)) (sa : Option Addr) (sc : Nat), k ≤ n ∧ i = .int .i64 k ∧ s = .slice sa k sc ∧ Hid (its.length = k) ∧ Hid (its.map (·.1) = es.take k) ∧ Hid (∀ p ∈ its, Key p.1.1 ∧ ∃ sp, Own w.heap.size wr p.2 p.1.2 sp) ∧ Hid (wr.ownsRow w.heap.size 75 33 (.slice sa k sc) k (flatP its)) ∧ Below w.heap.size w wr) (fun _ i _ => n - (intOf i).toNat)
  case atStart => exact ⟨0, [], none, 0, by omega, rfl, rfl, rfl, rfl, fun p hp => by simp at hp, World.ownsRow_nil _ _ _ _, Below.refl _ _⟩
  case round =>
    obtain ⟨k, its, sa, sc, hk, rfl, rfl, hml, him, hia, hio, hbw⟩ := hrel
    by_cases hlt : k < n
    · have hlt' : k < es.length := by rw [← HN.out]; exact hlt
      obtain ⟨g, off, rfl, hcc⟩ := HC.out (by omega)
      have z1 : (k : Int) < (n : Int) := by omega
      have z0 : (0 : Int) ≤ (k : Int) := by omega
      obtain ⟨hkey, hrd⟩ := HR.out k hlt'
      have hvl := HVL.out k hlt'
      have hst : es.take (k + 1) = es.take k ++ [es.getD k e00] := by
        rw [List.take_add_one]
        simp [List.getD, hlt']
      obtain ⟨E, hE⟩ : ∃ E, E = es.getD k e00 := ⟨_, rfl⟩
      have hcx := hcc k hlt'
      rw [← hE] at hst hkey hrd hvl hcx
      have HCb : Hid (∀ w', Below w.heap.size w w' → Calls Tryd.prog 68 #[V k] w' fun e w'' => ∃ v' sp, e = .returned v' ∧ Own w'.heap.size w'' v' E.2 sp ∧ Below w'.heap.size w' w'') := fun w' q => copyBytes_any (V k) E.2 w' (hrd.grow q) hvl
      have HLK := hidden (path_ln E.1 hkey.1)
      have HKY := hidden hkey
      obtain ⟨ua, uc, hu1, _⟩ := hrd
      obtain ⟨L, hL⟩ : ∃ L, L = E.2.length := ⟨_, rfl⟩
      have HUL := hidden hL.symm
      rw [← hL] at hu1
      rw [hu1] at HCb hcx
      have HBu : Hid (∀ ua uc, Tryd.prog.built 75 [(0, .agg (B E.1)), (1, .slice ua L uc)] = some (encP E.1 (.slice ua L uc)).toArray) := fun ua uc => built_pair2 E.1 ua L uc hkey.1
      have HS2 : Hid (∀ w', Below w.heap.size w w' → w'.rangeAt g (off + k * 33) (B E.1).toList ∧ w'.cell? ⟨g, off + k * 33 + 32, none⟩ = some (.slice ua L uc)) := fun w' hw' => ⟨rng_key (rng_grow hcx hw'), rng_val (rng_grow hcx hw') hkey.1⟩
      have HS : Hid (∀ w', Below wr.heap.size wr w' → w'.rangeAt g (off + k * 33) (B E.1).toList ∧ w'.cell? ⟨g, off + k * 33 + 32, none⟩ = some (.slice ua L uc)) := fun w' hw' => HS2.out w' (grow_trans hbw hw')
      have HIM := hidden hst
      clear hcc hkey hlt' hE hcx hL hu1 hvl hst
      go_wp2_with fail
      have d0 : Below wr.heap.size wr wr.drew := (Below.refl _ _).drew
      refine wp_region_last (S := fun w' => w'.rangeAt g (off + k * 33) (B E.1).toList ∧ w'.cell? ⟨g, off + k * 33 + 32, none⟩ = some (.slice ua L uc)) 15 (by kernel_rfl) (HS.out _ d0) (fun hHeld => ?_)
      refine wpAnyL_take (i := 0) (v := .slice sa k sc) rfl (by kernel_rfl) (by kernel_rfl) (by kernel_rfl) (by kernel_rfl) (by kernel_rfl) (fun _ _ _ h => h) (Or.inl ⟨by rfl, fun w hS => by go_simp⟩) hHeld ?_
      simp only [Act.put, List.getElem_toArray, List.getElem_cons_zero, List.setIfInBounds_toArray, List.set_cons_zero, List.set_cons_succ]
      refine wpAnyL_take (i := 1) (v := .slice (some ⟨g, off, none⟩) n cap) rfl (by kernel_rfl) (by kernel_rfl) (by kernel_rfl) (by kernel_rfl) (by kernel_rfl) (fun _ _ _ h => h) (Or.inl ⟨by rfl, fun w hS => by go_simp⟩) hHeld ?_
      simp only [Act.put, List.getElem_toArray, List.getElem_cons_zero, List.getElem_cons_succ, List.setIfInBounds_toArray, List.set_cons_zero, List.set_cons_succ]
      refine wpAnyL_take (i := 2) (v := .int .i64 k) rfl (by kernel_rfl) (by kernel_rfl) (by kernel_rfl) (by kernel_rfl) (by kernel_rfl) (fun _ _ _ h => h) (Or.inl ⟨by rfl, fun w hS => by go_simp⟩) hHeld ?_
      simp only [Act.put, List.getElem_toArray, List.getElem_cons_zero, List.getElem_cons_succ, List.setIfInBounds_toArray, List.set_cons_zero, List.set_cons_succ]
      refine wpAnyL_take (i := 3) (v := .pointer (some ⟨g, off + k * 33, none⟩)) rfl (by kernel_rfl) (by kernel_rfl) (by kernel_rfl) (by kernel_rfl) (by kernel_rfl) (fun _ _ _ h => h) (Or.inl ⟨by rfl, fun w hS => by go_simp⟩) hHeld ?_
      simp only [Act.put, List.getElem_toArray, List.getElem_cons_zero, List.getElem_cons_succ, List.setIfInBounds_toArray, List.set_cons_zero, List.set_cons_succ]
      refine wpAnyL_take (i := 4) (v := .pointer (some ⟨g, off + k * 33, none⟩)) rfl (by kernel_rfl) (by kernel_rfl) (by kernel_rfl) (by kernel_rfl) (by kernel_rfl) (fun _ _ _ h => h) (Or.inl ⟨by rfl, fun w hS => by go_simp⟩) hHeld ?_
      simp only [Act.put, List.getElem_toArray, List.getElem_cons_zero, List.getElem_cons_succ, List.setIfInBounds_toArray, List.set_cons_zero, List.set_cons_succ]
      refine wpAnyL_take (i := 5) (v := .agg (B E.1)) rfl (by kernel_rfl) (by kernel_rfl) (by kernel_rfl) (by kernel_rfl) (by kernel_rfl) (fun _ _ _ h => h) (yieldsIf_load_mid rfl 24 (.tmp 15) rfl g (off + k * 33) rfl (B E.1).toList _ (fun w hS => hS.1) Tryd.underlying24 rfl HLK.out) hHeld ?_
      simp only [Act.put, List.getElem_toArray, List.getElem_cons_zero, List.getElem_cons_succ, List.setIfInBounds_toArray, List.set_cons_zero, List.set_cons_succ]
      refine wpAnyL_take (i := 6) (v := .slice (some ⟨g, off, none⟩) n cap) rfl (by kernel_rfl) (by kernel_rfl) (by kernel_rfl) (by kernel_rfl) (by kernel_rfl) (fun _ _ _ h => h) (Or.inl ⟨by rfl, fun w hS => by go_simp⟩) hHeld ?_
      simp only [Act.put, List.getElem_toArray, List.getElem_cons_zero, List.getElem_cons_succ, List.setIfInBounds_toArray, List.set_cons_zero, List.set_cons_succ]
      refine wpAnyL_take (i := 7) (v := .int .i64 k) rfl (by kernel_rfl) (by kernel_rfl) (by kernel_rfl) (by kernel_rfl) (by kernel_rfl) (fun _ _ _ h => h) (Or.inl ⟨by rfl, fun w hS => by go_simp⟩) hHeld ?_
      simp only [Act.put, List.getElem_toArray, List.getElem_cons_zero, List.getElem_cons_succ, List.setIfInBounds_toArray, List.set_cons_zero, List.set_cons_succ]
      refine wpAnyL_take (i := 8) (v := .pointer (some ⟨g, off + k * 33, none⟩)) rfl (by kernel_rfl) (by kernel_rfl) (by kernel_rfl) (by kernel_rfl) (by kernel_rfl) (fun _ _ _ h => h) (Or.inl ⟨by rfl, fun w hS => by go_simp⟩) hHeld ?_
      simp only [Act.put, List.getElem_toArray, List.getElem_cons_zero, List.getElem_cons_succ, List.setIfInBounds_toArray, List.set_cons_zero, List.set_cons_succ]
      refine wpAnyL_take (i := 9) (v := .pointer (some ⟨g, off + k * 33 + 32, none⟩)) rfl (by kernel_rfl) (by kernel_rfl) (by kernel_rfl) (by kernel_rfl) (by kernel_rfl) (fun _ _ _ h => h) (Or.inl ⟨by rfl, fun w hS => by go_simp⟩) hHeld ?_
      simp only [Act.put, List.getElem_toArray, List.getElem_cons_zero, List.getElem_cons_succ, List.setIfInBounds_toArray, List.set_cons_zero, List.set_cons_succ]
      refine wpAnyL_take (i := 10) (v := .slice ua L uc) rfl (by kernel_rfl) (by kernel_rfl) (by kernel_rfl) (by kernel_rfl) (by kernel_rfl) (fun _ _ _ h => h) (Or.inl ⟨by rfl, fun w hS => by (have s1 := hS.2; go_simp)⟩) hHeld ?_
      simp only [Act.put, List.getElem_toArray, List.getElem_cons_zero, List.getElem_cons_succ, List.setIfInBounds_toArray, List.set_cons_zero, List.set_cons_succ]
      refine wpAnyL_one (i := 11) rfl (by kernel_rfl) (fun KQ hK => ?_)
      go_simp
      refine (HCb.out _ (grow_trans hbw d0)).mono ?_
      rintro e x1 ⟨u1, sp1, rfl, ow1, a1⟩
      have d1 := grow_trans d0 a1
      obtain ⟨ua1, uc1, e1⟩ := ow1.slice
      rw [HUL.out] at e1
      subst e1
      have o1 := ownsP_below hio.out d1
      have HBP := hidden (HBu.out ua1 uc1)
      refine hK.out _ _ (HS.out _ d1) (fun hHeld => ?_)
      clear hK KQ
      refine wpAnyL_take (i := 12) (v := .agg (encP E.1 (.slice ua1 L uc1)).toArray) rfl (by kernel_rfl) (by kernel_rfl) (by kernel_rfl) (by kernel_rfl) (by kernel_rfl) (fun _ _ _ h => h) (Or.inl ⟨by rfl, fun w hS => exec_bld _ _ 75 _ (by rfl) _ (by rw [List.map_toArray]; exact HBP.out) w⟩) hHeld ?_
      simp only [Act.put, List.getElem_toArray, List.getElem_cons_zero, List.getElem_cons_succ, List.setIfInBounds_toArray, List.set_cons_zero, List.set_cons_succ]
      refine wpAnyL_one (i := 13) rfl (by kernel_rfl) (fun KQ hK => ?_)
      have oA := o1.alloc (.cells (encP E.1 (.slice ua1 L uc1)).toArray 75)
      have dA := grow_trans d1 (grow_alloc x1 (.cells (encP E.1 (.slice ua1 L uc1)).toArray 75))
      refine step_bsp _ rfl _ rfl E.1 (.slice ua1 L uc1) rfl HKY.out.1 ?_
      refine hK.out _ _ (HS.out _ dA) (fun hHeld => ?_)
      clear hK KQ
      refine wpAnyL_one (i := 14) rfl (by kernel_rfl) (fun KQ hK => ?_)
      refine step_appP _ rfl _ _ rfl w.heap.size _ k (flatP its) oA rfl x1.heap.size E.1 (.slice ua1 L uc1) rfl (Blk.new _ _ _) HKY.out.1 rfl (by omega) (Nat.le_trans (grow_trans hbw dA).size (Nat.le_refl _)) ?_
      intro v5 x5 ho5 hg5 hwh5
      have hb5 := below_own (grow_trans hbw dA) oA (Nat.le_refl _) hg5
      refine hK.out _ _ (HS2.out _ hb5) (fun hHeld => ?_)
      clear hK KQ
      obtain ⟨sa5, sc5, rfl⟩ : ∃ sa5 sc5, v5 = .slice sa5 (k + 1) sc5 := by
        rcases ho5.2 with ⟨e, e2⟩ | ⟨g', cap', cur, e, _⟩
        · omega
        · exact ⟨_, _, e⟩
      refine wpAnyL_last rfl (by kernel_rfl) (by kernel_rfl) (fun KQ hK => ?_)
      go_simp
      
      refine hK.out _ _ ?_
      clear hK KQ
      have hvals : ∀ p ∈ its ++ [(E, .slice ua1 L uc1)], Key p.1.1 ∧ ∃ sp, Own w.heap.size x5 p.2 p.1.2 sp := by
        intro p hp
        rcases List.mem_append.1 hp with hp | hp
        · obtain ⟨h1, sp, h2⟩ := hia.out p hp
          have h3 := h2.grow dA
          exact ⟨h1, sp, h3.of_block fun q hq => hg5.block q (h3.lt q hq).2 (ownV_ne h3 oA q hq)⟩
        · obtain rfl : p = (E, .slice ua1 L uc1) := by simpa using hp
          have h3 := (ow1.grow (grow_alloc x1 (.cells (encP E.1 (.slice ua1 L uc1)).toArray 75))).mono (grow_trans hbw d0).size
          exact ⟨HKY.out, sp1, h3.of_block fun q hq => hg5.block q (h3.lt q hq).2 (ownV_ne h3 oA q hq)⟩
      rw [← flatP_snoc its (E, .slice ua1 L uc1)] at ho5
      have HF := hidden (And.intro hvals (And.intro ho5 hb5))
      clear hvals ho5 hb5 hg5 hwh5 oA dA o1 ow1 hHeld HS HS2
      go_wp2_with fail
      exact ⟨⟨k + 1, its ++ [((E, Value.slice ua1 L uc1) : Ent × Value)], sa5, sc5, by omega, by go_num, rfl, by show _ = _; rw [List.length_append, hml.out]; rfl, by show _ = _; rw [List.map_append, him.out, HIM.out]; rfl, HF.out.1, HF.out.2.1, HF.out.2.2⟩, by simp [intOf]; omega⟩
    · have hkn : k = es.length := by rw [← HN.out]; omega
      have z1 : ¬ (k : Int) < (n : Int) := by omega
      have HIM : Hid (its.map (·.1) = es) := by
        have := him.out
        rwa [hkn, List.take_length] at this
      clear hkn him
      go_wp2
      go_ret
      exact HPost.out _ _ _ HIM.out hia.out (by rw [hml.out]; exact hio.out) hbw

set_option maxHeartbeats 1000000 in
theorem pick_any (z : Int) (n : Nat) (w : World) (hn : 0 < n) (hn2 : n ≤ 4096) :
    Calls Tryd.prog 36 #[.int .i64 z, .int .i64 n] w fun e w' => (∃ p : Nat, p < n ∧ e = .returned (.int .i64 p)) ∧ w' = w := by
  have hn1 : (0 : Int) < (n : Int) := by omega
  have hn0 : ¬ (n : Int) = 0 := by omega
  have hn3 : ¬ n = 0 := by omega
  have hb1 := Int.lt_tmod_of_pos z hn1
  have hb2 := Int.tmod_lt_of_pos z hn1
  obtain ⟨r, hr⟩ : ∃ r, z.tmod n = r := ⟨_, rfl⟩
  rw [hr] at hb1 hb2
  by_cases q : r < 0
  · have hw : IntKind.i64.wrap (r + n) = r + n := by rw [IntKind.wrap_i64]; omega
    have HP : Hid (∃ p : Nat, p < n ∧ r + n = p) := ⟨(r + n).toNat, by omega, by omega⟩
    clear hb1 hb2 hn hn2
    go_enter Tryd.func36, Tryd.ntmps36
    go_wp2
    go_ret
    obtain ⟨p, hp, e⟩ := HP.out
    exact ⟨⟨p, hp, by rw [← e]; rfl⟩, rfl⟩
  · have HP : Hid (∃ p : Nat, p < n ∧ r = p) := ⟨r.toNat, by omega, by omega⟩
    have q' : 0 ≤ r := by omega
    clear hb1 hb2 hn hn2
    go_enter Tryd.func36, Tryd.ntmps36
    go_wp2
    go_ret
    obtain ⟨p, hp, e⟩ := HP.out
    exact ⟨⟨p, hp, by rw [← e]; rfl⟩, rfl⟩

end Go.Proofs.YtjcklpdifanjlaaDoor

/- node.parted, node.RootAt, node.Root, as contracts. -/
namespace Go.Proofs.YtjcklpdifanjlaaDoor
set_option maxRecDepth 20000
open Go.RowKit

/-- Between two keys with the same first d bits all keys have these. -/
theorem between {a b c : List Int} {d : Nat} (h1 : Ahead a b) (h2 : Ahead b c) (hs : ∀ j, j < d → kb a j = kb c j) : ∀ j, j < d → kb a j = kb b j := by
  obtain ⟨i, hi, e1, e2, e3⟩ := h1
  by_cases hid : i < d
  · have h3 : Ahead c b := ⟨i, hi, fun j hj => by rw [← hs j (by omega)]; exact e1 j hj, by rw [← hs i hid]; exact e2, e3⟩
    exact absurd (h2.trans h3) (Ahead.irrefl _)
  · intro j hj
    exact e1 j (by omega)

theorem same_ends {ls : List Lf} (hr : Rise ls) (hl : 2 ≤ ls.length) (d : Nat) : Same ls d ↔ ∀ j, j < d → kb ls[0]!.key j = kb ls[ls.length - 1]!.key j := by
  rw [getElem!_pos ls 0 (by omega), getElem!_pos ls (ls.length - 1) (by omega)]
  constructor
  · intro h j hj
    exact h _ (List.getElem_mem _) _ (List.getElem_mem _) j hj
  · intro h
    have hall : ∀ x ∈ ls, ∀ j, j < d → kb ls[0].key j = kb x.key j := by
      intro x hx j hj
      obtain ⟨i, hi, rfl⟩ := List.mem_iff_getElem.1 hx
      by_cases h0 : i = 0
      · subst h0
        rfl
      · by_cases h1 : i = ls.length - 1
        · subst h1
          exact h j hj
        · exact between (List.pairwise_iff_getElem.1 hr 0 i (by omega) hi (by omega)) (List.pairwise_iff_getElem.1 hr i (ls.length - 1) hi (by omega) (by omega)) h j hj
    intro x hx y hy j hj
    rw [← hall x hx j hj, hall y hy j hj]

theorem same_few {ls : List Lf} (h : ls.length ≤ 1) (d : Nat) : Same ls d := by
  match ls, h with
  | [], _ => intro a ha; simp at ha
  | [x], _ =>
    intro a ha b hb j _
    have h1 : a = x := by simpa using ha
    have h2 : b = x := by simpa using hb
    rw [h1, h2]

set_option maxHeartbeats 2000000 in
theorem parted_few (a : Option Addr) (m cap : Nat) (d : Int) (w : World) (hm : m ≤ 1) : Calls Tryd.prog 53 #[.slice a m cap, .int .i64 d] w fun e w' => e = .returned (.bool false) ∧ Below w.heap.size w w' := by
  have h1 : ¬ (1 : Int) < (m : Int) := by omega
  have h2 : decide ((1 : Int) < (m : Int)) = false := decide_eq_false h1
  go_enter Tryd.func53, Tryd.ntmps53
  go_wp2_with fail
  have d0 : Below w.heap.size w w.drew := (Below.refl _ _).drew
  refine wp_region_held_drew (S := fun _ => True) (by kernel_rfl) (trivial) (fun hHeld => ?_)
  refine wpAnyH_take (i := 0) (v := .slice a m cap) rfl (by kernel_rfl) (by kernel_rfl) (by kernel_rfl) (fun _ _ _ h => h) (Or.inl ⟨by rfl, fun w hS => by go_simp⟩) hHeld ?_
  simp only [Act.put, List.getElem_toArray, List.getElem_cons_zero, List.setIfInBounds_toArray, List.set_cons_zero, List.set_cons_succ]
  refine wpAnyH_take (i := 1) (v := .int .i64 m) rfl (by kernel_rfl) (by kernel_rfl) (by kernel_rfl) (fun _ _ _ h => h) (Or.inl ⟨by rfl, fun w hS => by go_simp⟩) hHeld ?_
  simp only [Act.put, List.getElem_toArray, List.getElem_cons_zero, List.getElem_cons_succ, List.setIfInBounds_toArray, List.set_cons_zero, List.set_cons_succ]
  refine wpAnyH_take (i := 2) (v := .bool false) rfl (by kernel_rfl) (by kernel_rfl) (by kernel_rfl) (fun _ _ _ h => h) (Or.inl ⟨by rfl, fun w hS => by go_simp⟩) hHeld ?_
  simp only [Act.put, List.getElem_toArray, List.getElem_cons_zero, List.getElem_cons_succ, List.setIfInBounds_toArray, List.set_cons_zero, List.set_cons_succ]
  refine wpAnyH_take (i := 3) (v := .bool false) rfl (by kernel_rfl) (by kernel_rfl) (by kernel_rfl) (fun _ _ _ h => h) (Or.inl ⟨by rfl, fun w hS => by go_simp⟩) hHeld ?_
  simp only [Act.put, List.getElem_toArray, List.getElem_cons_zero, List.getElem_cons_succ, List.setIfInBounds_toArray, List.set_cons_zero, List.set_cons_succ]
  refine wpAnyH_take (i := 4) (v := undef) rfl (by kernel_rfl) (by kernel_rfl) (by kernel_rfl) (fun _ _ _ h => h) (Or.inr ⟨by rfl, rfl⟩) hHeld ?_
  simp only [Act.put, List.getElem_toArray, List.getElem_cons_zero, List.getElem_cons_succ, List.setIfInBounds_toArray, List.set_cons_zero, List.set_cons_succ]
  refine wpAnyH_take (i := 5) (v := undef) rfl (by kernel_rfl) (by kernel_rfl) (by kernel_rfl) (fun _ _ _ h => h) (Or.inr ⟨by rfl, rfl⟩) hHeld ?_
  simp only [Act.put, List.getElem_toArray, List.getElem_cons_zero, List.getElem_cons_succ, List.setIfInBounds_toArray, List.set_cons_zero, List.set_cons_succ]
  refine wpAnyH_take (i := 6) (v := undef) rfl (by kernel_rfl) (by kernel_rfl) (by kernel_rfl) (fun _ _ _ h => h) (Or.inr ⟨by rfl, rfl⟩) hHeld ?_
  simp only [Act.put, List.getElem_toArray, List.getElem_cons_zero, List.getElem_cons_succ, List.setIfInBounds_toArray, List.set_cons_zero, List.set_cons_succ]
  refine wpAnyH_take (i := 7) (v := undef) rfl (by kernel_rfl) (by kernel_rfl) (by kernel_rfl) (fun _ _ _ h => h) (Or.inr ⟨by rfl, rfl⟩) hHeld ?_
  simp only [Act.put, List.getElem_toArray, List.getElem_cons_zero, List.getElem_cons_succ, List.setIfInBounds_toArray, List.set_cons_zero, List.set_cons_succ]
  refine wpAnyH_take (i := 8) (v := undef) rfl (by kernel_rfl) (by kernel_rfl) (by kernel_rfl) (fun _ _ _ h => h) (Or.inr ⟨by rfl, rfl⟩) hHeld ?_
  simp only [Act.put, List.getElem_toArray, List.getElem_cons_zero, List.getElem_cons_succ, List.setIfInBounds_toArray, List.set_cons_zero, List.set_cons_succ]
  refine wpAnyH_take (i := 9) (v := undef) rfl (by kernel_rfl) (by kernel_rfl) (by kernel_rfl) (fun _ _ _ h => h) (Or.inr ⟨by rfl, rfl⟩) hHeld ?_
  simp only [Act.put, List.getElem_toArray, List.getElem_cons_zero, List.getElem_cons_succ, List.setIfInBounds_toArray, List.set_cons_zero, List.set_cons_succ]
  refine wpAnyH_take (i := 10) (v := undef) rfl (by kernel_rfl) (by kernel_rfl) (by kernel_rfl) (fun _ _ _ h => h) (Or.inr ⟨by rfl, rfl⟩) hHeld ?_
  simp only [Act.put, List.getElem_toArray, List.getElem_cons_zero, List.getElem_cons_succ, List.setIfInBounds_toArray, List.set_cons_zero, List.set_cons_succ]
  refine wpAnyH_take (i := 11) (v := undef) rfl (by kernel_rfl) (by kernel_rfl) (by kernel_rfl) (fun _ _ _ h => h) (Or.inr ⟨by rfl, rfl⟩) hHeld ?_
  simp only [Act.put, List.getElem_toArray, List.getElem_cons_zero, List.getElem_cons_succ, List.setIfInBounds_toArray, List.set_cons_zero, List.set_cons_succ]
  refine wpAnyH_take (i := 12) (v := undef) rfl (by kernel_rfl) (by kernel_rfl) (by kernel_rfl) (fun _ _ _ h => h) (Or.inr ⟨by rfl, rfl⟩) hHeld ?_
  simp only [Act.put, List.getElem_toArray, List.getElem_cons_zero, List.getElem_cons_succ, List.setIfInBounds_toArray, List.set_cons_zero, List.set_cons_succ]
  refine wpAnyH_take (i := 13) (v := undef) rfl (by kernel_rfl) (by kernel_rfl) (by kernel_rfl) (fun _ _ _ h => h) (Or.inr ⟨by rfl, rfl⟩) hHeld ?_
  simp only [Act.put, List.getElem_toArray, List.getElem_cons_zero, List.getElem_cons_succ, List.setIfInBounds_toArray, List.set_cons_zero, List.set_cons_succ]
  refine wpAnyH_take (i := 14) (v := undef) rfl (by kernel_rfl) (by kernel_rfl) (by kernel_rfl) (fun _ _ _ h => h) (Or.inr ⟨by rfl, rfl⟩) hHeld ?_
  simp only [Act.put, List.getElem_toArray, List.getElem_cons_zero, List.getElem_cons_succ, List.setIfInBounds_toArray, List.set_cons_zero, List.set_cons_succ]
  refine wpAnyH_take (i := 15) (v := undef) rfl (by kernel_rfl) (by kernel_rfl) (by kernel_rfl) (fun _ _ _ h => h) (Or.inr ⟨by rfl, rfl⟩) hHeld ?_
  simp only [Act.put, List.getElem_toArray, List.getElem_cons_zero, List.getElem_cons_succ, List.setIfInBounds_toArray, List.set_cons_zero, List.set_cons_succ]
  refine wpAnyH_take (i := 16) (v := undef) rfl (by kernel_rfl) (by kernel_rfl) (by kernel_rfl) (fun _ _ _ h => h) (Or.inr ⟨by rfl, rfl⟩) hHeld ?_
  simp only [Act.put, List.getElem_toArray, List.getElem_cons_zero, List.getElem_cons_succ, List.setIfInBounds_toArray, List.set_cons_zero, List.set_cons_succ]
  refine wpAnyH_take (i := 17) (v := undef) rfl (by kernel_rfl) (by kernel_rfl) (by kernel_rfl) (fun _ _ _ h => h) (Or.inr ⟨by rfl, rfl⟩) hHeld ?_
  simp only [Act.put, List.getElem_toArray, List.getElem_cons_zero, List.getElem_cons_succ, List.setIfInBounds_toArray, List.set_cons_zero, List.set_cons_succ]
  refine wpAnyH_take (i := 18) (v := .bool false) rfl (by kernel_rfl) (by kernel_rfl) (by kernel_rfl) (fun _ _ _ h => h) (Or.inl ⟨by rfl, fun w hS => by go_simp⟩) hHeld ?_
  simp only [Act.put, List.getElem_toArray, List.getElem_cons_zero, List.getElem_cons_succ, List.setIfInBounds_toArray, List.set_cons_zero, List.set_cons_succ]
  refine wpAnyH_take (i := 19) (v := .bool false) rfl (by kernel_rfl) (by kernel_rfl) (by kernel_rfl) (fun _ _ _ h => h) (Or.inl ⟨by rfl, fun w hS => by go_simp⟩) hHeld ?_
  simp only [Act.put, List.getElem_toArray, List.getElem_cons_zero, List.getElem_cons_succ, List.setIfInBounds_toArray, List.set_cons_zero, List.set_cons_succ]
  refine wpAnyH_done (by kernel_rfl) ?_ _
  go_wp2_with fail
  go_ret
  exact ⟨rfl, d0⟩

set_option maxHeartbeats 4000000 in
theorem parted_more (g off m cap : Nat) (x y : Lf) (d : Int) (b : Bool) (w : World) (hm : 2 ≤ m) (hm2 : m ≤ 4096) (h0 : w.rangeAt g off (encLf x)) (h1 : w.rangeAt g (off + (m - 1) * 129) (encLf y)) (hb : b = true ↔ Und x.key y.key d) :
    Calls Tryd.prog 53 #[.slice (some ⟨g, off, none⟩) m cap, .int .i64 d] w fun e w' => e = .returned (.bool (!b)) ∧ Below w.heap.size w w' := by
  have HU : Hid (∀ w', Calls Tryd.prog 80 #[.agg (B x.key), .agg (B y.key), .int .i64 d] w' fun e w'' => e = .returned (.bool b) ∧ Below w'.heap.size w' w'') := fun w' => under_at x.key y.key d b w' x.hk y.hk hb
  have HS : Hid (∀ w', Below w.heap.size w w' → w'.rangeAt g (off + 1) (B x.key).toList ∧ w'.rangeAt g (off + (m - 1) * 129 + 1) (B y.key).toList) := fun w' hw' => ⟨range_grow (lf_key h0) hw', range_grow (lf_key h1) hw'⟩
  have HLX : Hid ((Tryd.prog.info? 24).map (·.size) = some (B x.key).toList.length) := by show _ = _; rw [B_toList, List.length_map, x.hk.1]; exact sz_path
  have HLY : Hid ((Tryd.prog.info? 24).map (·.size) = some (B y.key).toList.length) := by show _ = _; rw [B_toList, List.length_map, y.hk.1]; exact sz_path
  obtain ⟨K, hK⟩ : ∃ K, K = x.key := ⟨_, rfl⟩
  obtain ⟨J, hJ⟩ : ∃ J, J = y.key := ⟨_, rfl⟩
  rw [← hK] at HU HS HLX
  rw [← hJ] at HU HS HLY
  obtain ⟨q, rfl⟩ : ∃ q, m = q + 1 := ⟨m - 1, by omega⟩
  rw [show q + 1 - 1 = q by omega] at HS
  have g1 : (1 : Int) < ((q + 1 : Nat) : Int) := by omega
  have g2 : decide ((1 : Int) < ((q + 1 : Nat) : Int)) = true := decide_eq_true g1
  have i0 : (0 : Int) < ((q + 1 : Nat) : Int) := by omega
  have i1 : IntKind.i64.wrap (((q + 1 : Nat) : Int) - 1) = (q : Int) := by rw [IntKind.wrap_i64]; omega
  have i2 : (q : Int) < ((q + 1 : Nat) : Int) := by omega
  have i3 : (0 : Int) ≤ (q : Int) := by omega
  have d0 : Below w.heap.size w w.drew := (Below.refl _ _).drew
  obtain ⟨m, hmm⟩ : ∃ m, m = q + 1 := ⟨_, rfl⟩
  have hm0 : ¬ m = 0 := by omega
  rw [← hmm] at g1 g2 i0 i1 i2 ⊢
  clear h0 h1 hb hK hJ hm hm2 hmm
  go_enter Tryd.func53, Tryd.ntmps53
  go_wp2_with fail
  refine wp_region_held_drew (S := fun w' => w'.rangeAt g (off + 1) (B K).toList ∧ w'.rangeAt g (off + q * 129 + 1) (B J).toList) (by kernel_rfl) (HS.out _ d0) (fun hHeld => ?_)
  refine wpAnyH_take (i := 0) (v := .slice (some ⟨g, off, none⟩) m cap) rfl (by kernel_rfl) (by kernel_rfl) (by kernel_rfl) (fun _ _ _ h => h) (Or.inl ⟨by rfl, fun w hS => by go_simp⟩) hHeld ?_
  simp only [Act.put, List.getElem_toArray, List.getElem_cons_zero, List.setIfInBounds_toArray, List.set_cons_zero, List.set_cons_succ]
  refine wpAnyH_take (i := 1) (v := .int .i64 m) rfl (by kernel_rfl) (by kernel_rfl) (by kernel_rfl) (fun _ _ _ h => h) (Or.inl ⟨by rfl, fun w hS => by go_simp⟩) hHeld ?_
  simp only [Act.put, List.getElem_toArray, List.getElem_cons_zero, List.getElem_cons_succ, List.setIfInBounds_toArray, List.set_cons_zero, List.set_cons_succ]
  refine wpAnyH_take (i := 2) (v := .bool true) rfl (by kernel_rfl) (by kernel_rfl) (by kernel_rfl) (fun _ _ _ h => h) (Or.inl ⟨by rfl, fun w hS => by go_simp⟩) hHeld ?_
  simp only [Act.put, List.getElem_toArray, List.getElem_cons_zero, List.getElem_cons_succ, List.setIfInBounds_toArray, List.set_cons_zero, List.set_cons_succ]
  refine wpAnyH_take (i := 3) (v := .bool true) rfl (by kernel_rfl) (by kernel_rfl) (by kernel_rfl) (fun _ _ _ h => h) (Or.inl ⟨by rfl, fun w hS => by go_simp⟩) hHeld ?_
  simp only [Act.put, List.getElem_toArray, List.getElem_cons_zero, List.getElem_cons_succ, List.setIfInBounds_toArray, List.set_cons_zero, List.set_cons_succ]
  refine wpAnyH_take (i := 4) (v := .slice (some ⟨g, off, none⟩) m cap) rfl (by kernel_rfl) (by kernel_rfl) (by kernel_rfl) (fun _ _ _ h => h) (Or.inl ⟨by rfl, fun w hS => by go_simp⟩) hHeld ?_
  simp only [Act.put, List.getElem_toArray, List.getElem_cons_zero, List.getElem_cons_succ, List.setIfInBounds_toArray, List.set_cons_zero, List.set_cons_succ]
  refine wpAnyH_take (i := 5) (v := .pointer (some ⟨g, off, none⟩)) rfl (by kernel_rfl) (by kernel_rfl) (by kernel_rfl) (fun _ _ _ h => h) (Or.inl ⟨by rfl, fun w hS => by go_simp⟩) hHeld ?_
  simp only [Act.put, List.getElem_toArray, List.getElem_cons_zero, List.getElem_cons_succ, List.setIfInBounds_toArray, List.set_cons_zero, List.set_cons_succ]
  refine wpAnyH_take (i := 6) (v := .pointer (some ⟨g, off + 1, none⟩)) rfl (by kernel_rfl) (by kernel_rfl) (by kernel_rfl) (fun _ _ _ h => h) (Or.inl ⟨by rfl, fun w hS => by go_simp⟩) hHeld ?_
  simp only [Act.put, List.getElem_toArray, List.getElem_cons_zero, List.getElem_cons_succ, List.setIfInBounds_toArray, List.set_cons_zero, List.set_cons_succ]
  refine wpAnyH_take (i := 7) (v := .agg (B K)) rfl (by kernel_rfl) (by kernel_rfl) (by kernel_rfl) (fun _ _ _ h => h) (yieldsIf_load_mid rfl 24 (.tmp 11) rfl g (off + 1) rfl (B K).toList _ (fun w hS => hS.1) Tryd.underlying24 rfl HLX.out) hHeld ?_
  simp only [Act.put, List.getElem_toArray, List.getElem_cons_zero, List.getElem_cons_succ, List.setIfInBounds_toArray, List.set_cons_zero, List.set_cons_succ]
  refine wpAnyH_take (i := 8) (v := .slice (some ⟨g, off, none⟩) m cap) rfl (by kernel_rfl) (by kernel_rfl) (by kernel_rfl) (fun _ _ _ h => h) (Or.inl ⟨by rfl, fun w hS => by go_simp⟩) hHeld ?_
  simp only [Act.put, List.getElem_toArray, List.getElem_cons_zero, List.getElem_cons_succ, List.setIfInBounds_toArray, List.set_cons_zero, List.set_cons_succ]
  refine wpAnyH_take (i := 9) (v := .slice (some ⟨g, off, none⟩) m cap) rfl (by kernel_rfl) (by kernel_rfl) (by kernel_rfl) (fun _ _ _ h => h) (Or.inl ⟨by rfl, fun w hS => by go_simp⟩) hHeld ?_
  simp only [Act.put, List.getElem_toArray, List.getElem_cons_zero, List.getElem_cons_succ, List.setIfInBounds_toArray, List.set_cons_zero, List.set_cons_succ]
  refine wpAnyH_take (i := 10) (v := .int .i64 m) rfl (by kernel_rfl) (by kernel_rfl) (by kernel_rfl) (fun _ _ _ h => h) (Or.inl ⟨by rfl, fun w hS => by go_simp⟩) hHeld ?_
  simp only [Act.put, List.getElem_toArray, List.getElem_cons_zero, List.getElem_cons_succ, List.setIfInBounds_toArray, List.set_cons_zero, List.set_cons_succ]
  refine wpAnyH_take (i := 11) (v := .int .i64 q) rfl (by kernel_rfl) (by kernel_rfl) (by kernel_rfl) (fun _ _ _ h => h) (Or.inl ⟨by rfl, fun w hS => by go_simp⟩) hHeld ?_
  simp only [Act.put, List.getElem_toArray, List.getElem_cons_zero, List.getElem_cons_succ, List.setIfInBounds_toArray, List.set_cons_zero, List.set_cons_succ]
  refine wpAnyH_take (i := 12) (v := .pointer (some ⟨g, off + q * 129, none⟩)) rfl (by kernel_rfl) (by kernel_rfl) (by kernel_rfl) (fun _ _ _ h => h) (Or.inl ⟨by rfl, fun w hS => by go_simp⟩) hHeld ?_
  simp only [Act.put, List.getElem_toArray, List.getElem_cons_zero, List.getElem_cons_succ, List.setIfInBounds_toArray, List.set_cons_zero, List.set_cons_succ]
  refine wpAnyH_take (i := 13) (v := .pointer (some ⟨g, off + q * 129 + 1, none⟩)) rfl (by kernel_rfl) (by kernel_rfl) (by kernel_rfl) (fun _ _ _ h => h) (Or.inl ⟨by rfl, fun w hS => by go_simp⟩) hHeld ?_
  simp only [Act.put, List.getElem_toArray, List.getElem_cons_zero, List.getElem_cons_succ, List.setIfInBounds_toArray, List.set_cons_zero, List.set_cons_succ]
  refine wpAnyH_take (i := 14) (v := .agg (B J)) rfl (by kernel_rfl) (by kernel_rfl) (by kernel_rfl) (fun _ _ _ h => h) (yieldsIf_load_mid rfl 24 (.tmp 18) rfl g (off + q * 129 + 1) rfl (B J).toList _ (fun w hS => hS.2) Tryd.underlying24 rfl HLY.out) hHeld ?_
  simp only [Act.put, List.getElem_toArray, List.getElem_cons_zero, List.getElem_cons_succ, List.setIfInBounds_toArray, List.set_cons_zero, List.set_cons_succ]
  refine wpAnyH_take (i := 15) (v := .int .i64 d) rfl (by kernel_rfl) (by kernel_rfl) (by kernel_rfl) (fun _ _ _ h => h) (Or.inl ⟨by rfl, fun w hS => by go_simp⟩) hHeld ?_
  simp only [Act.put, List.getElem_toArray, List.getElem_cons_zero, List.getElem_cons_succ, List.setIfInBounds_toArray, List.set_cons_zero, List.set_cons_succ]
  refine wpAnyH_ready (rs := [16]) (by kernel_rfl) (by simp) ?_
  refine AllReadyH.cons rfl (fun KQ hK => ?_) AllReadyH.nil
  go_simp
  refine (HU.out _).mono ?_
  rintro e x1 ⟨rfl, a1⟩
  have d1 := grow_trans d0 a1
  refine hK.out _ _ (HS.out _ d1) (fun hHeld => ?_)
  clear hK KQ
  refine wpAnyH_take (i := 17) (v := .bool (!b)) rfl (by kernel_rfl) (by kernel_rfl) (by kernel_rfl) (fun _ _ _ h => h) (Or.inl ⟨by rfl, fun w hS => by go_simp⟩) hHeld ?_
  simp only [Act.put, List.getElem_toArray, List.getElem_cons_zero, List.getElem_cons_succ, List.setIfInBounds_toArray, List.set_cons_zero, List.set_cons_succ]
  refine wpAnyH_take (i := 18) (v := .bool (!b)) rfl (by kernel_rfl) (by kernel_rfl) (by kernel_rfl) (fun _ _ _ h => h) (Or.inl ⟨by rfl, fun w hS => by go_simp⟩) hHeld ?_
  simp only [Act.put, List.getElem_toArray, List.getElem_cons_zero, List.getElem_cons_succ, List.setIfInBounds_toArray, List.set_cons_zero, List.set_cons_succ]
  refine wpAnyH_take (i := 19) (v := .bool (!b)) rfl (by kernel_rfl) (by kernel_rfl) (by kernel_rfl) (fun _ _ _ h => h) (Or.inl ⟨by rfl, fun w hS => by go_simp⟩) hHeld ?_
  simp only [Act.put, List.getElem_toArray, List.getElem_cons_zero, List.getElem_cons_succ, List.setIfInBounds_toArray, List.set_cons_zero, List.set_cons_succ]
  refine wpAnyH_done (by kernel_rfl) ?_ _
  go_wp2_with fail
  go_ret
  exact ⟨rfl, d1⟩

theorem parted_any (v : Value) (ls : List Lf) (d : Nat) (b : Bool) (w : World) (hv : LvAt w v ls) (hr : Rise ls) (hn : ls.length ≤ 4096) (hd : d ≤ 256) (hb : b = true ↔ Same ls d) :
    Calls Tryd.prog 53 #[v, .int .i64 d] w fun e w' => e = .returned (.bool (!b)) ∧ Below w.heap.size w w' := by
  obtain ⟨a, cap, rfl, hc, h⟩ := hv
  by_cases hl : ls.length ≤ 1
  · have : b = true := hb.2 (same_few hl d)
    subst this
    exact parted_few a ls.length cap d w hl
  · obtain ⟨g, off, rfl, hrr⟩ := h (by omega)
    have h0 := hrr 0 (by omega)
    rw [Nat.zero_mul, Nat.add_zero] at h0
    refine parted_more g off ls.length cap ls[0]! ls[ls.length - 1]! d b w (by omega) hn h0 (hrr (ls.length - 1) (by omega)) ?_
    rw [hb, same_ends hr (by omega) d]
    exact ⟨fun h => ⟨by omega, by omega, fun j hj => h j (by omega)⟩, fun h j hj => h.2.2 j (by omega)⟩

/-- All keys have the same first d bits. -/
def SameE (es : List Ent) (d : Nat) : Prop := ∀ a ∈ es, ∀ b ∈ es, ∀ j, j < d → kb a.1 j = kb b.1 j
theorem same_map {es : List Ent} {ls : List Lf} {d : Nat} (hk : ∀ e ∈ es, Key e.1) (hp : ls.Perm (es.map mkLf)) : Same ls d ↔ SameE es d := by
  constructor
  · intro h a ha b hb j hj
    have h1 := h (mkLf a) (hp.mem_iff.2 (List.mem_map_of_mem ha)) (mkLf b) (hp.mem_iff.2 (List.mem_map_of_mem hb)) j hj
    rwa [mkLf_key (hk a ha), mkLf_key (hk b hb)] at h1
  · intro h x hx y hy j hj
    obtain ⟨a, ha, rfl⟩ := List.mem_map.1 (hp.mem_iff.1 hx)
    obtain ⟨b, hb, rfl⟩ := List.mem_map.1 (hp.mem_iff.1 hy)
    rw [mkLf_key (hk a ha), mkLf_key (hk b hb)]
    exact h a ha b hb j hj

/-- What RootAt tells. -/
inductive RootIs (es : List Ent) (d : Int) : List Int → Int → Prop
  | out : (d < 0 ∨ 256 < d) → RootIs es d z32 2
  | bad (E : Int) : 0 ≤ d → d ≤ 256 → errB es = E → E ≠ 0 → RootIs es d z32 E
  | part : 0 ≤ d → d ≤ 256 → errB es = 0 → ¬ SameE es d.toNat → RootIs es d z32 2
  | good : 0 ≤ d → d ≤ 256 → errB es = 0 → SameE es d.toNat → RootIs es d (rt (256 - d.toNat) d.toNat es) 0

theorem RootIs.one {es : List Ent} {d : Int} {h h' : List Int} {e e' : Int} (p : RootIs es d h e) (q : RootIs es d h' e') : h = h' ∧ e = e' := by
  cases p <;> cases q <;> first | exact ⟨rfl, rfl⟩ | (exfalso; omega) | (exfalso; contradiction) | (refine ⟨rfl, ?_⟩; omega) | skip

theorem RootIs.len {es : List Ent} {d : Int} {h : List Int} {e : Int} (p : RootIs es d h e) : h.length = 32 := by
  cases p with
  | out _ => rfl
  | bad _ _ _ _ _ => rfl
  | part _ _ _ _ => rfl
  | good _ _ _ _ =>
    match hn : 256 - d.toNat, es with
    | _, [] => rw [rt_nil]; exact dig_length _
    | _, [x] => rw [rt_one]; exact dig_length _
    | 0, _ :: _ :: _ => exact dig_length _
    | n + 1, a :: b :: l => rw [rt_more n _ _ (by simp)]; exact dig_length _

set_option maxHeartbeats 2000000 in
theorem RootAt_out (v : Value) (V : Nat → Value) (es : List Ent) (d : Int) (w : World) (hv : PrAt w v V es) (hd : d < 0 ∨ 256 < d) :
    Calls Tryd.prog 24 #[v, .int .i64 d] w fun e w' => e = .returned (.tuple #[.agg (B z32), .int .i64 2]) ∧ Below w.heap.size w w' := by
  obtain ⟨a, cap, rfl, _, _, _⟩ := hv
  have HB : Hid (Tryd.prog.built 25 [] = some (B z32)) := built_hash
  by_cases h0 : d < 0
  · have t0 : decide (d < 0) = true := decide_eq_true h0
    clear hd
    go_enter Tryd.func24, Tryd.ntmps24
    go_wp2_with (first
      | ((with_reducible refine at_ald 4 ?_); refine wpList_al _ rfl _ rfl _ zero_hash ?_; intro w1 g1 hg1 hl1 B1 b1)
      | ((with_reducible refine at_bd ?_); refine wpList_bld _ rfl _ _ rfl _ (by rw [List.map_toArray]; exact HB.out) ?_)
      | ((with_reducible refine at_st 4 ?_); refine wpList_sto _ rfl _ _ _ rfl g1 _ (B z32) rfl rfl B1 (by kernel_rfl) rfl (B_one _) ?_; intro w3 B3 r3))
    exact bodyPost_ret (v := .tuple #[.agg (B z32), .int .i64 2]) (results_row_tmp rfl _ _ g1 _ _ _ _ rfl rfl B3 Tryd.underlying25 (by kernel_rfl)) rfl ⟨rfl, below_row b1 r3 hg1⟩
  · have h1 : 256 < d := by omega
    have t0 : decide (d < 0) = false := decide_eq_false h0
    have t1 : decide (256 < d) = true := decide_eq_true h1
    clear hd
    go_enter Tryd.func24, Tryd.ntmps24
    go_wp2_with (first
      | ((with_reducible refine at_ald 4 ?_); refine wpList_al _ rfl _ rfl _ zero_hash ?_; intro w1 g1 hg1 hl1 B1 b1)
      | ((with_reducible refine at_bd ?_); refine wpList_bld _ rfl _ _ rfl _ (by rw [List.map_toArray]; exact HB.out) ?_)
      | ((with_reducible refine at_st 4 ?_); refine wpList_sto _ rfl _ _ _ rfl g1 _ (B z32) rfl rfl B1 (by kernel_rfl) rfl (B_one _) ?_; intro w3 B3 r3))
    exact bodyPost_ret (v := .tuple #[.agg (B z32), .int .i64 2]) (results_row_tmp rfl _ _ g1 _ _ _ _ rfl rfl B3 Tryd.underlying25 (by kernel_rfl)) rfl ⟨rfl, below_row b1 r3 hg1⟩

set_option maxHeartbeats 2000000 in
theorem RootAt_bad (v : Value) (V : Nat → Value) (es : List Ent) (d : Nat) (w : World) (hv : PrAt w v V es) (hn : es.length ≤ 140737488355328) (hd : d ≤ 256) (hE : errB es ≠ 0) :
    Calls Tryd.prog 24 #[v, .int .i64 d] w fun e w' => e = .returned (.tuple #[.agg (B z32), .int .i64 (errB es)]) ∧ Below w.heap.size w w' := by
  have HLv : Hid (∀ w', Below w.heap.size w w' → Calls Tryd.prog 52 #[v] w' fun e w'' => e = .returned (.tuple #[.slice none 0 0, .int .i64 (errB es)]) ∧ Below w'.heap.size w' w'') := fun w' hb => leavesOf_bad v V es w' (hv.grow hb) hn hE
  obtain ⟨a, cap, rfl, _, _, _⟩ := hv
  have HB : Hid (Tryd.prog.built 25 [] = some (B z32)) := built_hash
  obtain ⟨E, hEE⟩ : ∃ E, E = errB es := ⟨_, rfl⟩
  rw [← hEE] at HLv hE ⊢
  have h1 : (E != 0) = true := by simp [hE]
  have h2 : (E == 0) = false := by simp [hE]
  have t0 : decide ((d : Int) < 0) = false := decide_eq_false (by omega)
  have t1 : decide ((256 : Int) < (d : Int)) = false := decide_eq_false (by omega)
  have u0 : ¬ (d : Int) < 0 := by omega
  have u1 : ¬ (256 : Int) < (d : Int) := by omega
  clear hEE hE hd
  go_enter Tryd.func24, Tryd.ntmps24
  go_wp2_with (first
    | ((with_reducible refine at_ald 4 ?_); refine wpList_al _ rfl _ rfl _ zero_hash ?_; intro w1 g1 hg1 hl1 B1 b1)
    | (go_at_call 52; refine (HLv.out _ b1).mono ?_; rintro e w2 ⟨rfl, b2⟩; have B2 := B1.grow b2)
    | ((with_reducible refine at_bd ?_); refine wpList_bld _ rfl _ _ rfl _ (by rw [List.map_toArray]; exact HB.out) ?_)
    | ((with_reducible refine at_st 4 ?_); refine wpList_sto _ rfl _ _ _ rfl g1 _ (B z32) rfl rfl B2 (by kernel_rfl) rfl (B_one _) ?_; intro w3 B3 r3))
  exact bodyPost_ret (v := .tuple #[.agg (B z32), .int .i64 E]) (results_row_tmp rfl _ _ g1 _ _ _ _ rfl rfl B3 Tryd.underlying25 (by kernel_rfl)) rfl ⟨rfl, below_row (grow_trans b1 b2) r3 hg1⟩

set_option maxHeartbeats 4000000 in
theorem RootAt_in (v : Value) (V : Nat → Value) (es : List Ent) (d : Nat) (b : Bool) (w : World) (hv : PrAt w v V es) (hn : es.length ≤ 4096) (hL : Laid w) (hd : d ≤ 256) (hE : errB es = 0) (hb : b = true ↔ SameE es d) :
    Calls Tryd.prog 24 #[v, .int .i64 d] w fun e w' => e = .returned (.tuple #[.agg (B (if b = true then rt (256 - d) d es else z32)), .int .i64 (if b = true then 0 else 2)]) ∧ Below w.heap.size w w' := by
  have hkeys := hv.keys
  have HL := hidden hL
  have HLv : Hid (∀ w', Below w.heap.size w w' → Calls Tryd.prog 52 #[v] w' (LvPost es w')) := fun w' hbb => leavesOf_ok v V es w' (hv.grow hbb) hn (hL.grow hbb) hE
  have HPa : Hid (∀ w' x ls, LvAt w' x ls → ls.Perm (es.map mkLf) → Rise ls → Calls Tryd.prog 53 #[x, .int .i64 d] w' fun e w'' => e = .returned (.bool (!b)) ∧ Below w'.heap.size w' w'') := fun w' x ls h1 h2 h3 => parted_any x ls d b w' h1 h3 (by rw [h2.length_eq, List.length_map]; exact hn) hd (by rw [hb, same_map hkeys h2])
  have HRt : Hid (b = true → ∀ w' x ls, LvAt w' x ls → ls.Perm (es.map mkLf) → Rise ls → Laid w' → Calls Tryd.prog 54 #[x, .int .i64 d] w' fun e w'' => e = .returned (.agg (B (rt (256 - d) d es))) ∧ Below w'.heap.size w' w'') := by
    intro hbt w' x ls h1 h2 h3 hl
    have h4 := rootAt_any (256 - d) d ls x w' (by omega) (by rw [h2.length_eq, List.length_map]; exact hn) h3 ((same_map hkeys h2).2 (hb.1 hbt)) h1 hl
    rwa [rtL_perm _ _ _ _ h2, rt_map _ _ _ (by omega) hkeys] at h4
  obtain ⟨a, cap, rfl, _, _, _⟩ := hv
  have HB : Hid (Tryd.prog.built 25 [] = some (B z32)) := built_hash
  have t0 : decide ((d : Int) < 0) = false := decide_eq_false (by omega)
  have t1 : decide ((256 : Int) < (d : Int)) = false := decide_eq_false (by omega)
  have u0 : ¬ (d : Int) < 0 := by omega
  have u1 : ¬ (256 : Int) < (d : Int) := by omega
  obtain ⟨D, hD⟩ : ∃ D, D = rt (256 - d) d es := ⟨_, rfl⟩
  have HF : Hid (b = true → (Tryd.prog.info? 25).map (·.size) = some (B D).size ∧ (B (List.replicate 32 0)).size = (B D).size) := fun hbt => hash_facts D (by
    rw [hD]
    exact (RootIs.good (es := es) (d := (d : Int)) (by omega) (by omega) hE (by simpa using hb.1 hbt)).len)
  rw [← hD] at HRt ⊢
  clear hb hE hd hD hkeys hL
  cases b with
  | false =>
    go_enter Tryd.func24, Tryd.ntmps24
    go_wp2_with (first
      | ((with_reducible refine at_ald 4 ?_); refine wpList_al _ rfl _ rfl _ zero_hash ?_; intro w1 g1 hg1 hl1 B1 b1)
      | (go_at_call 52; refine (HLv.out _ b1).mono ?_; rintro e w2 ⟨x, ls, rfl, p1, p2, p3, b2⟩; have B2 := B1.grow b2; have P1 := hidden p1; have P2 := hidden p2; have P3 := hidden p3; clear p1 p2 p3)
      | (go_at_call 53; refine (HPa.out _ _ _ P1.out P2.out P3.out).mono ?_; rintro e w3 ⟨rfl, b3⟩; have B3 := B2.grow b3)
      | ((with_reducible refine at_bd ?_); refine wpList_bld _ rfl _ _ rfl _ (by rw [List.map_toArray]; exact HB.out) ?_)
      | ((with_reducible refine at_st 4 ?_); refine wpList_sto _ rfl _ _ _ rfl g1 _ (B z32) rfl rfl B3 (by kernel_rfl) rfl (B_one _) ?_; intro w4 B4 r4))
    exact bodyPost_ret (v := .tuple #[.agg (B z32), .int .i64 2]) (results_row_tmp rfl _ _ g1 _ _ _ _ rfl rfl B4 Tryd.underlying25 (by kernel_rfl)) rfl ⟨rfl, below_row (grow_trans (grow_trans b1 b2) b3) r4 hg1⟩
  | true =>
    have HF1 := hidden (HF.out rfl)
    have HR1 := hidden (HRt.out rfl)
    clear HF HRt
    go_enter Tryd.func24, Tryd.ntmps24
    go_wp2_with (first
      | ((with_reducible refine at_ald 4 ?_); refine wpList_al _ rfl _ rfl _ zero_hash ?_; intro w1 g1 hg1 hl1 B1 b1)
      | (go_at_call 52; refine (HLv.out _ b1).mono ?_; rintro e w2 ⟨x, ls, rfl, p1, p2, p3, b2⟩; have B2 := B1.grow b2; have P1 := hidden p1; have P2 := hidden p2; have P3 := hidden p3; clear p1 p2 p3)
      | (go_at_call 53; refine (HPa.out _ _ _ P1.out P2.out P3.out).mono ?_; rintro e w3 ⟨rfl, b3⟩; have B3 := B2.grow b3; have c3 := grow_trans (grow_trans b1 b2) b3)
      | (go_at_call 54; refine (HR1.out _ _ _ (P1.out.grow b3) P2.out P3.out (HL.out.grow c3)).mono ?_; rintro e w5 ⟨rfl, b5⟩; have B5 := B3.grow b5)
      | ((with_reducible refine at_st 4 ?_); refine wpList_sto _ rfl _ _ _ rfl g1 _ (B D) rfl rfl B5 HF1.out.1 HF1.out.2 (B_one _) ?_; intro w4 B4 r4))
    exact bodyPost_ret (v := .tuple #[.agg (B D), .int .i64 0]) (results_row_tmp rfl _ _ g1 _ _ _ _ rfl rfl B4 Tryd.underlying25 HF1.out.1) rfl ⟨rfl, below_row (grow_trans c3 b5) r4 hg1⟩

end Go.Proofs.YtjcklpdifanjlaaDoor
