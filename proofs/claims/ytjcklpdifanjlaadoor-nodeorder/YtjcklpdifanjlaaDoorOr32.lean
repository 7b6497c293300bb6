/- Digests appended one by one; rootcellarkit.CopyHashes and CopyProof, as contracts. -/
import Derived.Test.YtjcklpdifanjlaaDoorOr31
import Derived.Great.BuildSlice
import Derived.Laws.AppendOwn
import Derived.Laws.OwnMore
import Derived.Test.YtjcklpdifanjlaaDoorOr07
import Derived.Test.YtjcklpdifanjlaaDoorOr11
import Derived.Carry
namespace Go.Proofs.YtjcklpdifanjlaaDoor
set_option maxRecDepth 20000
open Go.RowKit

/-- Digests, one behind the other. -/
def flatH (hs : List (List Int)) : List Value := hs.flatMap fun h => h.map (Value.int .u8)
theorem flatH_snoc (hs : List (List Int)) (h : List Int) : flatH (hs ++ [h]) = flatH hs ++ (B h).toList := by simp [flatH, B_toList]
theorem flatH_length : ∀ (hs : List (List Int)), (∀ h ∈ hs, h.length = 32) → (flatH hs).length = hs.length * 32
  | [], _ => rfl
  | h :: r, hl => by
    have ih := flatH_length r (fun q hq => hl q (by simp [hq]))
    have h1 := hl h (by simp)
    simp only [flatH, List.flatMap_cons, List.length_append, List.length_map, List.length_cons] at ih ⊢
    omega
theorem flatH_at : ∀ (hs : List (List Int)), (∀ h ∈ hs, h.length = 32) → ∀ (i : Nat), i < hs.length → ∀ (j : Nat) (v : Value), ((hs.getD i []).map (Value.int .u8))[j]? = some v → (flatH hs)[i * 32 + j]? = some v
  | [], _, i, hi, _, _, _ => by simp at hi
  | p :: r, hl, 0, _, j, v, h => by
    have h : (p.map (Value.int .u8))[j]? = some v := by simpa using h
    have hj := (List.getElem?_eq_some_iff.1 h).1
    simp only [flatH, List.flatMap_cons, Nat.zero_mul, Nat.zero_add]
    rw [List.getElem?_append_left hj]
    exact h
  | p :: r, hl, i + 1, hi, j, v, h => by
    have ih := flatH_at r (fun q hq => hl q (by simp [hq])) i (by simpa using hi) j v (by simpa using h)
    have e1 : (p.map (Value.int .u8)).length = 32 := by rw [List.length_map]; exact hl p (by simp)
    simp only [flatH, List.flatMap_cons]
    rw [List.getElem?_append_right (by omega), show (i + 1) * 32 + j - (p.map (Value.int .u8)).length = i * 32 + j by omega]
    exact ih
theorem flatH_pos (hs : List (List Int)) (hl : ∀ h ∈ hs, h.length = 32) (q : Nat) (v : Value) (hv : (flatH hs)[q]? = some v) : q / 32 < hs.length ∧ ((hs.getD (q / 32) []).map (Value.int .u8))[q % 32]? = some v := by
  have hq := (List.getElem?_eq_some_iff.1 hv).1
  rw [flatH_length hs hl] at hq
  have hi : q / 32 < hs.length := by omega
  have hlen : ((hs.getD (q / 32) []).map (Value.int .u8)).length = 32 := by
    rw [List.length_map]
    have : hs.getD (q / 32) [] = hs[q / 32] := by simp [List.getD, hi]
    rw [this]
    exact hl _ (List.getElem_mem hi)
  have h1 : q % 32 < ((hs.getD (q / 32) []).map (Value.int .u8)).length := by rw [hlen]; omega
  have h2 := flatH_at hs hl (q / 32) hi (q % 32) _ (List.getElem?_eq_getElem h1)
  rw [show q / 32 * 32 + q % 32 = q by omega, hv] at h2
  refine ⟨hi, ?_⟩
  rw [List.getElem?_eq_getElem h1, ← h2]

/-- Digests, each 32 bytes. -/
def Dgs (hs : List (List Int)) : Prop := ∀ h ∈ hs, h.length = 32 ∧ Bytes h
theorem Dgs.snoc {hs : List (List Int)} {h : List Int} (a : Dgs hs) (b : h.length = 32) (c : Bytes h) : Dgs (hs ++ [h]) := fun x hx => by
  rcases List.mem_append.1 hx with hx | hx
  · exact a x hx
  · obtain rfl : x = h := by simpa using hx
    exact ⟨b, c⟩
theorem Dgs.len {hs : List (List Int)} (a : Dgs hs) : ∀ h ∈ hs, h.length = 32 := fun h hh => (a h hh).1
theorem HsAt.dgs {w : World} {v : Value} {hs : List (List Int)} (h : HsAt w v hs) : Dgs hs := by
  intro x hx
  obtain ⟨_, _, _, _, _, h3⟩ := h
  obtain ⟨i, hi, rfl⟩ := List.mem_iff_getElem.1 hx
  have := h3 i hi
  simpa [List.getD, hi] using this

/-- What was appended reads as digests. -/
theorem hsAt_own {w : World} {base : Nat} {v : Value} {hs : List (List Int)} (h : w.ownsRow base 25 32 v hs.length (flatH hs)) (hd : Dgs hs) : HsAt w v hs := by
  have hlast : ∀ i, i < hs.length → (hs.getD i []).length = 32 ∧ Bytes (hs.getD i []) := fun i hi => by
    have : hs.getD i [] = hs[i] := by simp [List.getD, hi]
    rw [this]
    exact hd _ (List.getElem_mem hi)
  rcases h.2 with ⟨rfl, hn⟩ | ⟨g, cap, cur, rfl, _, hg, hcap, _, hsz, htake⟩
  · exact ⟨none, 0, by rw [hn], by omega, fun hp => by omega, hlast⟩
  · refine ⟨_, cap, rfl, hcap, fun _ => ⟨g, 0, rfl, fun i hi j u hu => ?_⟩, hlast⟩
    rw [B_toList] at hu
    have h1 := flatH_at hs hd.len i hi j u hu
    rw [← htake] at h1
    have h2 : (cur.toList)[i * 32 + j]? = some u := by
      rw [List.getElem?_take] at h1
      split at h1
      · exact h1
      · cases h1
    rw [cell_of_row w g _ cur _ _ hg, Nat.zero_add]
    simpa using h2

theorem info_hash : ∃ i z, Tryd.prog.info? 25 = some i ∧ i.zero = some z ∧ i.size = 32 ∧ i.bytes = 32 ∧ z.cells.size = 32 := ⟨_, _, rfl, rfl, rfl, rfl, rfl⟩

/-- []api.Hash{x}, in a region that draws its order. -/
theorem step_bsh {ops : Array Oper} {op : Oper} {a : Act} {K : Act → World → Prop} {Q : Exit → Act → World → Prop} {E : Prop} (w : World) (hgd : op.guard = none) (x : Operand) (ho : op.op = .buildSlice 58 1 #[(0, x)])
    (h : List Int) (hx : a.eval x = .agg (B h)) (hl : h.length = 32)
    (hk : K (a.put op.dst (.slice (some ⟨w.heap.size, 0, none⟩) 1 1)) (w.alloc (.cells (B h) 25))) : if Region.wanted op (yielded ops a.tmps) = true then Oper.wp Tryd.prog op a w K Q else E := by
  have hw : Region.wanted op (yielded ops a.tmps) = true := by simp [Region.wanted, hgd]
  rw [if_pos hw]
  obtain ⟨i, z, hi, hz, hs, _, hzs⟩ := info_hash
  have hrun := run_buildSlice (P := Tryd.prog) w 58 25 1 #[(0, .agg (B h))] (B h) i z Tryd.underlying58 hi hz (by rw [hs]; omega) (by rw [hs]; omega) (by
    rw [hs]
    obtain ⟨zs, hzz, hzl⟩ : ∃ zs : List Value, (Array.range (1 * 32)).map (z.cells[· % z.cells.size]!) = zs.toArray ∧ zs.length = 32 := ⟨_, (Array.toArray_toList).symm, by simp⟩
    rw [hzz]
    have := fill_one (fun i => some (i * 32, 32)) 0 0 32 (.agg (B h)) (h.map (Value.int .u8)) zs [] rfl rfl (by simp [hl]) (by omega)
    rw [show (#[(0, Value.agg (B h))] : Array (Nat × Value)).toList = [(0, Value.agg (B h))] from rfl, this, Instr.fill]
    simp [hzl, B])
  unfold Oper.wp execOp
  simp only [ho, List.map_toArray, List.map_cons, List.map_nil, hx, Sem.run_bind, hrun, Result.andThen_ok, Sem.run_pure]
  exact hk

/-- append of one digest, in a region that draws its order. -/
theorem step_appH {ops : Array Oper} {o : Oper} {a : Act} {K : Act → World → Prop} {Q : Exit → Act → World → Prop} {E : Prop} (w : World) (hgd : o.guard = none) (s x : Operand)
    (hop : o.op = .call { callee := .builtin .append, args := #[s, x], argTypes := #[58, 58] })
    (base : Nat) (v : Value) (n : Nat) (xs : List Value) (hown : w.ownsRow base 25 32 v n xs) (hs : a.eval s = v) (g : Nat) (h : List Int) (hx : a.eval x = .slice (some ⟨g, 0, none⟩) 1 1)
    (hb : Blk w g 25 (B h)) (hl : h.length = 32) (hn : n ≤ 4096) (hbase : base ≤ w.heap.size)
    (hk : ∀ v' w', w'.ownsRow base 25 32 v' (n + 1) (xs ++ (B h).toList) → w.grownBy w' v.ownBlock → K (a.put o.dst v') w') : if Region.wanted o (yielded ops a.tmps) = true then Oper.wp Tryd.prog o a w K Q else E := by
  have hw : Region.wanted o (yielded ops a.tmps) = true := by simp [Region.wanted, hgd]
  rw [if_pos hw]
  obtain ⟨i, z, hi, hz, hsz, hby, hzs⟩ := info_hash
  refine wp_append_own w s x _ hop base _ i z 32 32 Tryd.underlying58 hi hz hsz hby hzs (by omega) v n xs hs hown ⟨g, 0, none⟩ 1 1 (B h).toList hx (by rw [B_toList, List.length_map, hl]) ?_ ?_ (by simp only [maxLen]; omega) (by omega) hbase (fun v' w' h1 h2 _ => hk v' w' h1 h2)
  · intro j q hq
    rw [Addr.add_lit, Nat.zero_add, hb.cell]
    simpa using hq
  · intro q hq
    rw [B_toList] at hq
    obtain ⟨z, _, rfl⟩ := List.mem_map.1 hq
    rfl

theorem ownsH_below {w w' : World} {base : Nat} {v : Value} {n : Nat} {xs : List Value} (h : w.ownsRow base 25 32 v n xs) (hb : Below w.heap.size w w') : w'.ownsRow base 25 32 v n xs := by
  refine ⟨h.1, ?_⟩
  rcases h.2 with hn | ⟨g, cap, cur, rfl, hb2, hgg, rest⟩
  · exact .inl hn
  · exact .inr ⟨g, cap, cur, rfl, hb2, (hb.block g (Array.getElem?_eq_some_iff.1 hgg).1).trans hgg, rest⟩
theorem below_ownH {w0 w w' : World} {base n : Nat} {v : Value} {xs : List Value} (hb : Below w0.heap.size w0 w) (ho : w.ownsRow base 25 32 v n xs) (hbase : w0.heap.size ≤ base) (hg : w.grownBy w' v.ownBlock) : Below w0.heap.size w0 w' :=
  hb.trans ⟨hg.os, hg.tape, hg.output, hg.size, fun k hk => hg.block k (Nat.lt_of_lt_of_le hk hb.size) (fun e => by have := (ho.lt k e.symm).1; omega)⟩

/-- A slice is none or lies somewhere. -/
def Plc (v : Value) : Prop := v = .slice none 0 0 ∨ ∃ x n c, v = .slice (some x) n c

/-- All digests of a slice appended to one of the call's own. -/
theorem wpList_appA {ops : Array Oper} {rest : List Oper} {o : Oper} {a : Act} {Q : Exit → Act → World → Prop} (w : World) (hgd : o.guard = none) (s x : Operand)
    (hop : o.op = .call { callee := .builtin .append, args := #[s, x], argTypes := #[58, 58] })
    (base : Nat) (v : Value) (hown : w.ownsRow base 25 32 v 0 []) (hs : a.eval s = v) (y : Value) (hs' : List (List Int)) (hx : a.eval x = y) (hp : Plc y) (hh : HsAt w y hs') (hn : hs'.length ≤ 4096) (hbase : base ≤ w.heap.size)
    (hk : ∀ v' w', w'.ownsRow base 25 32 v' hs'.length (flatH hs') → w.grownBy w' v.ownBlock → wpList Tryd.prog ops Q rest (a.put o.dst v') w') : wpList Tryd.prog ops Q (o :: rest) a w := by
  obtain ⟨i, z, hi, hz, hsz, hby, hzs⟩ := info_hash
  have hd := hh.dgs
  obtain ⟨ya, yc, hy, hyc, hyr, hyl⟩ := hh
  rcases hp with hp | ⟨x0, n, c, hp⟩
  · have hn0 : hs'.length = 0 := by rw [hy] at hp; injection hp
    have hnil : hs' = [] := List.eq_nil_of_length_eq_zero hn0
    subst hnil
    refine wpList_plain hgd fun K hK => ?_
    have hrun := run_append_owned_none (P := Tryd.prog) (w := w) base 58 o.type 25 i 32 Tryd.underlying58 hi v 0 [] hown
    unfold Oper.wp
    simp [execOp, hop, resolve, invoke, builtin, hs, hx, hp, hrun, Result.andThen]
    exact hK _ _ (hk v w hown (below_grown (Below.refl _ _) _))
  · rw [hp] at hy
    injection hy with h1 h2 h3
    subst h2
    subst h1
    have hl2 : (flatH hs').length = hs'.length * 32 := flatH_length hs' hd.len
    refine wpList_append_own w hgd s x _ hop base _ i z 32 32 Tryd.underlying58 hi hz hsz hby hzs (by omega) v 0 [] hs hown x0 hs'.length c (flatH hs') (by rw [hx, hp]) hl2 ?_ ?_ (by simp only [maxLen]; omega) (by omega) hbase (fun v' w' h1 h2 _ => hk v' w' (by simpa using h1) h2)
    · intro j q hq
      obtain ⟨p1, p2⟩ := flatH_pos hs' hd.len j q hq
      obtain ⟨g, off, e, hr⟩ := hyr (by omega)
      obtain rfl : x0 = ⟨g, off, none⟩ := by injection e
      have := hr (j / 32) p1 (j % 32) q (by rw [B_toList]; exact p2)
      rw [Addr.add_lit]
      rw [show off + j / 32 * 32 + j % 32 = off + j by omega] at this
      exact this
    · intro q hq
      simp only [flatH, List.mem_flatMap, List.mem_map] at hq
      obtain ⟨_, _, _, _, rfl⟩ := hq
      rfl

set_option maxHeartbeats 2000000 in
theorem copyHashes_any (y : Value) (hs : List (List Int)) (w : World) (hp : Plc y) (hh : HsAt w y hs) (hn : hs.length ≤ 4096) :
    Calls Tryd.prog 61 #[y] w fun e w' => ∃ sa sc, e = .returned (.slice sa hs.length sc) ∧ w'.ownsRow w.heap.size 25 32 (.slice sa hs.length sc) hs.length (flatH hs) ∧ Below w.heap.size w w' := by
  have HH := hidden hh
  have HP := hidden hp
  obtain ⟨ya, yc, rfl, _⟩ := hh
  have HO : Hid ((w.alloc (.cells #[] 25)).ownsRow w.heap.size 25 32 (.slice (some ⟨w.heap.size, 0, none⟩) 0 0) 0 []) := World.ownsRow_made w #[] 0 (Nat.le_refl _) (by simp) rfl
  have HN := hidden hn
  clear hp hn
  go_enter Tryd.func61, Tryd.ntmps61
  go_wp2_with (first
    | (at_builtin; refine wpList_appA _ rfl _ _ rfl w.heap.size _ HO.out rfl _ hs rfl HP.out (HH.out.grow (grow_alloc _ _)) HN.out (by simp) ?_; intro v' w3 ho3 hg3))
  have c3 := below_ownH (grow_alloc w _) HO.out (Nat.le_refl _) hg3
  obtain ⟨sa', sc', rfl⟩ : ∃ sa' sc', v' = .slice sa' hs.length sc' := by
    rcases ho3.2 with ⟨e, e2⟩ | ⟨g', cap', cur, e, _⟩
    · exact ⟨none, 0, by rw [e, e2]⟩
    · exact ⟨_, _, e⟩
  go_wp2
  go_ret
  exact ⟨_, _, rfl, ho3, c3⟩

end Go.Proofs.YtjcklpdifanjlaaDoor

/- A set of keys, a map of the call's own: looked up, and one key more. -/
namespace Go.Proofs.YtjcklpdifanjlaaDoor
set_option maxRecDepth 20000
open Go.RowKit

theorem part_byte (xs : List Int) (i : Nat) (hi : i < xs.length) (w : World) : (part 5 (B xs) i).run Tryd.prog w = .ok (.int .u8 (xs.getD i 0)) w := by
  have hagg : (isAgg 5).run Tryd.prog w = .ok false w := Tryd.isAgg5 w
  have h1 := B_get xs i hi
  unfold part
  rw [Sem.run_bind, hagg]
  simp only [Result.andThen_ok, Bool.false_eq_true, if_false, h1, Sem.run_pure]

theorem check_path (xs : List Int) (em : Bool) (hx : xs.length = 32) (w : World) : (Instr.checkKey em 10000 24 (.agg (B xs))).run Tryd.prog w = .ok () w := by
  obtain ⟨i, hi⟩ : ∃ i, Tryd.prog.info? 5 = some i := ⟨_, rfl⟩
  have hsz : i.size = 1 := by
    have := cellsOf_byte
    simpa [Program.cellsOf, hi] using this
  have hs : ∀ w, (Go.sizeOf 5).run Tryd.prog w = .ok 1 w := fun w => by simp [Go.sizeOf, typeInfo, hi, hsz]
  have hb : ∀ z w, (Instr.checkKey em 9999 5 (.int .u8 z)).run Tryd.prog w = .ok () w := fun z w => by
    rw [show (9999 : Nat) = 9998 + 1 from rfl, Instr.checkKey]
    simp [Sem.run_bind, run_underlying u_byte]
  rw [show (10000 : Nat) = 9999 + 1 from rfl, Instr.checkKey]
  simp only [Sem.run_bind, run_underlying u_path, Result.andThen_ok]
  simp only [Std.Legacy.Range.forIn_eq_forIn_range', Std.Legacy.Range.size, Nat.sub_zero, Nat.add_one_sub_one, Nat.div_one]
  have each : ∀ j ∈ List.range' 0 32, j < 32 := fun j hj => by simp at hj; omega
  generalize List.range' 0 32 = js at each
  induction js with
  | nil => simp
  | cons j js ih =>
    have hj := each j (by simp)
    simp only [List.forIn_cons, Sem.run_bind, hs, Result.andThen_ok, Nat.mul_one, part_byte xs j (by omega), hb, Sem.run_pure]
    exact ih (fun y hy => each y (by simp [hy]))

/-- Block b is a map whose keys are these, each with the value of no field. -/
def KeysAt (w : World) (b : Nat) (ks : List (List Int)) : Prop :=
  ∃ es clock, w.heap[b]? = some (.map es clock) ∧ es.toList.map (fun e => (e.key, e.val)) = ks.map (fun k => (Value.agg (B k), Value.agg #[]))

theorem KeysAt.lt {w : World} {b : Nat} {ks : List (List Int)} (h : KeysAt w b ks) : b < w.heap.size := by
  obtain ⟨es, c, h1, _⟩ := h
  exact (Array.getElem?_eq_some_iff.1 h1).1
theorem KeysAt.grow {w w' : World} {b : Nat} {ks : List (List Int)} (h : KeysAt w b ks) (hb : Below w.heap.size w w') : KeysAt w' b ks := by
  have hl := h.lt
  obtain ⟨es, c, h1, h2⟩ := h
  exact ⟨es, c, (hb.block b hl).trans h1, h2⟩
theorem KeysAt.new (w : World) : KeysAt (w.alloc (.map #[] 0)) w.heap.size [] := ⟨#[], 0, heap_alloc_new w _, rfl⟩

theorem equal_key (xs ys : List Int) (hx : xs.length = 32) (hy : ys.length = 32) (w : World) : (Op.equal 24 (.agg (B xs)) (.agg (B ys))).run Tryd.prog w = .ok (decide (xs = ys)) w := path_eq xs ys hx hy w

theorem find_asking (xs : List Int) (hx : xs.length = 32) (w : World) : ∀ (es : List MapEntry) (ks : List (List Int)) (i : Nat), (∀ k ∈ ks, k.length = 32) → es.map (fun e => (e.key, e.val)) = ks.map (fun k => (Value.agg (B k), Value.agg #[])) →
    ∃ r, (Instr.findAsking 24 (.agg (B xs)) es i).run Tryd.prog w = .ok r w ∧ (xs ∈ ks → ∃ j, r = some (j, .agg #[])) ∧ (xs ∉ ks → r = none)
  | [], ks, i, _, h => by
    have : ks = [] := by simpa using h.symm
    subst this
    exact ⟨none, by simp [Instr.findAsking], fun h => by simp at h, fun _ => rfl⟩
  | e :: es, [], i, _, h => by simp at h
  | e :: es, k :: ks, i, hl, h => by
    simp only [List.map_cons, List.cons.injEq, Prod.mk.injEq] at h
    obtain ⟨⟨h1, h2⟩, h3⟩ := h
    have he := equal_key xs k hx (hl k (by simp)) w
    by_cases hk : xs = k
    · refine ⟨some (i, e.val), ?_, fun _ => ⟨i, by rw [h2]⟩, fun hn => absurd (by simp [hk]) hn⟩
      rw [Instr.findAsking, Sem.run_bind, h1, he]
      simp [hk]
    · obtain ⟨r, r1, r2, r3⟩ := find_asking xs hx w es ks (i + 1) (fun q hq => hl q (by simp [hq])) h3
      refine ⟨r, ?_, fun hm => r2 ((List.mem_cons.1 hm).resolve_left hk), fun hn => r3 (fun hm => hn (by simp [hm]))⟩
      rw [Instr.findAsking, Sem.run_bind, h1, he]
      simp only [Result.andThen_ok, decide_eq_false hk, Bool.false_eq_true, if_false]
      exact r1

theorem find_key (xs : List Int) (hx : xs.length = 32) (w : World) (es : List MapEntry) (ks : List (List Int)) (hl : ∀ k ∈ ks, k.length = 32) (h : es.map (fun e => (e.key, e.val)) = ks.map (fun k => (Value.agg (B k), Value.agg #[]))) :
    ∃ r, (Instr.findKey 24 (.agg (B xs)) es).run Tryd.prog w = .ok r w ∧ (xs ∈ ks → ∃ j, r = some (j, .agg #[])) ∧ (xs ∉ ks → r = none) := by
  match es, ks, h with
  | [], ks, h =>
    have : ks = [] := by simpa using h.symm
    subst this
    refine ⟨none, ?_, fun h => by simp at h, fun _ => rfl⟩
    unfold Instr.findKey
    rw [Sem.run_bind, run_underlying u_path]
    simp [Instr.findNow]
  | e :: es, ks, h =>
    obtain ⟨r, r1, r2, r3⟩ := find_asking xs hx w (e :: es) ks 0 hl h
    refine ⟨r, ?_, r2, r3⟩
    unfold Instr.findKey
    rw [Sem.run_bind, run_underlying u_path]
    simp only [Result.andThen_ok, Instr.findNow, Instr.sameNow]
    exact r1

theorem u_keymap : Tryd.prog.underlying 139 = some (.map 24 140) := Tryd.underlying139

theorem zero_unit : ∀ w, (zeroValue 140).run Tryd.prog w = .ok (.agg #[]) w := Tryd.zeroValue140

/-- Is a key among them? -/
theorem wpList_look {ops : Array Oper} {rest : List Oper} {op : Oper} {a : Act} {Q : Exit → Act → World → Prop} (w : World) (hgd : op.guard = none) (m x : Operand) (ho : op.op = .lookup 139 m x true)
    (b : Nat) (ks : List (List Int)) (xs : List Int) (hm : a.eval m = .map (some b)) (hx : a.eval x = .agg (B xs)) (hl : xs.length = 32) (hk : ∀ k ∈ ks, k.length = 32) (h : KeysAt w b ks)
    (hK : wpList Tryd.prog ops Q rest (a.put op.dst (.tuple #[.agg #[], .bool (decide (xs ∈ ks))])) w) : wpList Tryd.prog ops Q (op :: rest) a w := by
  refine wpList_plain hgd fun K hK' => ?_
  obtain ⟨es, c, h1, h2⟩ := h
  obtain ⟨r, r1, r2, r3⟩ := find_key xs hl w es.toList ks hk h2
  have hrun : (Instr.lookup 139 (.map (some b)) (.agg (B xs)) true).run Tryd.prog w = .ok (.tuple #[.agg #[], .bool (decide (xs ∈ ks))]) w := by
    have go : (getObj b).run Tryd.prog w = .ok (.map es c) w := by simp [getObj, Sem.run, h1]
    unfold Instr.lookup
    by_cases hmem : xs ∈ ks
    · obtain ⟨j, rfl⟩ := r2 hmem
      simp [run_underlying u_keymap, go, check_path xs _ hl, r1, hmem, Result.andThen]
    · rw [r3 hmem] at r1
      simp [run_underlying u_keymap, go, check_path xs _ hl, r1, hmem, Result.andThen]
  unfold Oper.wp execOp
  simp only [ho, hm, hx, Sem.run_bind, hrun, Result.andThen_ok, Sem.run_pure]
  exact hK' _ _ hK

/-- One key more, that was not among them. -/
theorem wpList_keyPut {ops : Array Oper} {rest : List Oper} {op : Oper} {a : Act} {Q : Exit → Act → World → Prop} (w : World) (hgd : op.guard = none) (m x v : Operand) (ho : op.op = .mapUpdate 139 m x v)
    (b : Nat) (ks : List (List Int)) (xs : List Int) (hm : a.eval m = .map (some b)) (hx : a.eval x = .agg (B xs)) (hv : a.eval v = .agg #[]) (hl : xs.length = 32) (hk : ∀ k ∈ ks, k.length = 32) (hn : xs ∉ ks) (h : KeysAt w b ks)
    (hK : ∀ w', KeysAt w' b (ks ++ [xs]) → w.grownBy w' (some b) → wpList Tryd.prog ops Q rest (a.put op.dst undef) w') : wpList Tryd.prog ops Q (op :: rest) a w := by
  refine wpList_plain hgd fun K hK' => ?_
  have hb := h.lt
  obtain ⟨es, c, h1, h2⟩ := h
  obtain ⟨r, r1, _, r3⟩ := find_key xs hl w es.toList ks hk h2
  rw [r3 hn] at r1
  have hrun : (Instr.mapUpdate 139 (.map (some b)) (.agg (B xs)) (.agg #[])).run Tryd.prog w = .ok () { w with heap := w.heap.setIfInBounds b (.map (es.push { key := .agg (B xs), val := .agg #[], born := c }) (c + 1)) } := by
    unfold Instr.mapUpdate
    have go : (getObj b).run Tryd.prog w = .ok (.map es c) w := by simp [getObj, Sem.run, h1]
    have so : ∀ o, (setObj b o).run Tryd.prog w = .ok () { w with heap := w.heap.setIfInBounds b o } := fun o => by simp [setObj, Sem.run, h1]
    simp [run_underlying u_keymap, go, so, check_path xs _ hl, r1, Result.andThen]
  unfold Oper.wp execOp
  simp only [ho, hm, hx, hv, Sem.run_bind, hrun, Result.andThen_ok, Sem.run_pure]
  refine hK' _ _ (hK _ ⟨es.push { key := .agg (B xs), val := .agg #[], born := c }, c + 1, by simp [hb], by simp [h2]⟩ ⟨rfl, rfl, rfl, by simp, fun k _ hne => ?_⟩)
  have : b ≠ k := fun e => hne (by rw [e])
  simp [this]

end Go.Proofs.YtjcklpdifanjlaaDoor
