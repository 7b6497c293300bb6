/- The document's Bit, Set, Common, Compare (rootcellarref04), as contracts. -/
import Derived.Test.YtdpaanidangnlaaGreatDoorWw06
import Derived.Test.YtdpaanidangnlaaGreatDoorWw26
import Derived.Great.BuildSlice
import Derived.Laws.AppendOwn
import Derived.Test.YtdpaanidangnlaaGreatDoorWw01
namespace Go.Proofs.YtdpaanidangnlaaGreatDoor
set_option maxRecDepth 20000
open Go.RowKit

theorem half_step (x : Int) (k : Nat) : x / 2 ^ k / 2 = x / 2 ^ (k + 1) := by
  rw [Int.pow_succ, Int.ediv_ediv_of_nonneg (Int.pow_nonneg (by omega))]

set_option maxHeartbeats 2000000 in
theorem rbit_in (xs : List Int) (d : Nat) (w : World) (hx : Key xs) (hd : d < 256) : Calls Tryz.prog 120 #[.agg (B xs), .int .i64 d] w fun e w' => e = .returned (.int .i64 (kb xs d)) ∧ Below w.heap.size w w' := by
  have HX := hidden hx
  have h2 : ((d / 8 : Nat) : Int) < 32 := by omega
  have hb := hx.byte (d / 8)
  have t0 : decide ((d : Int) < 0) = false := decide_eq_false (by omega)
  have t1 : decide ((256 : Int) ≤ (d : Int)) = false := decide_eq_false (by omega)
  obtain ⟨x, hxx⟩ : ∃ x, x = xs.getD (d / 8) 0 := ⟨_, rfl⟩
  have HK : Hid (kb xs d = x / 2 ^ (7 - d % 8) % 2) := by rw [hxx]; rfl
  rw [← hxx] at hb
  have hwx : wrap64 x = x := Go.IntWalk.wrap64_in _ (by omega)
  have HXX := hidden hxx
  clear hx hxx
  go_enter Tryz.func120, Tryz.ntmps120
  go_wp2_with (refine wpList_bx _ rfl _ _ rfl _ rfl ?_; intro w1 g1 hg1 hl1 B1 b1; have c1 := B1.bcell (d / 8) (by rw [HX.out.1]; omega); rw [← HXX.out] at c1)
  clear c1 B1
  have hm : d % 8 < 8 := Nat.mod_lt _ (by omega)
  go_loopw [5, 6] (fun s i wr => ∃ (k : Nat) (v : Int), k ≤ 7 - d % 8 ∧ s = .int .i64 v ∧ i = .int .i64 k ∧ Hid (v = x / 2 ^ k) ∧ 0 ≤ v ∧ v ≤ 255 ∧ wr = w1) (fun _ i _ => 8 - (intOf i).toNat)
  case atStart => exact ⟨0, x, by omega, rfl, rfl, by show _ = _; simp, hb.1, hb.2, rfl⟩
  case round =>
    obtain ⟨k, v, hk, rfl, rfl, hv, hv0, hv1, hwr⟩ := hrel
    subst hwr
    by_cases hlt : k < 7 - d % 8
    · have hlt' : (k : Int) < 7 - (d : Int) % 8 := by omega
      go_wp2
      exact ⟨⟨k + 1, v / 2, by omega, by go_num, by go_num, by show _ = _; rw [hv.out, half_step], by omega, by omega, trivial⟩, by simp [intOf]; omega⟩
    · have hlt' : decide ((k : Int) < 7 - (d : Int) % 8) = false := decide_eq_false (by omega)
      obtain rfl : k = 7 - d % 8 := by omega
      go_wp2
      go_ret
      exact ⟨by rw [HK.out, ← hv.out]; rfl, b1⟩

set_option maxHeartbeats 1000000 in
theorem rbit_out (xs : List Int) (d : Int) (w : World) (hd : ¬ (0 ≤ d ∧ d < 256)) : Calls Tryz.prog 120 #[.agg (B xs), .int .i64 d] w fun e w' => e = .returned (.int .i64 (-1)) ∧ Below w.heap.size w w' := by
  by_cases h0 : d < 0
  · have t0 : decide (d < 0) = true := decide_eq_true h0
    clear hd h0
    go_enter Tryz.func120, Tryz.ntmps120
    go_wp2_with (refine wpList_bx _ rfl _ _ rfl _ rfl ?_; intro w1 g1 hg1 hl1 B1 b1)
    go_ret
    exact ⟨rfl, b1⟩
  · have t0 : decide (d < 0) = false := decide_eq_false h0
    have t1 : decide (256 ≤ d) = true := decide_eq_true (by omega)
    clear hd h0
    go_enter Tryz.func120, Tryz.ntmps120
    go_wp2_with (refine wpList_bx _ rfl _ _ rfl _ rfl ?_; intro w1 g1 hg1 hl1 B1 b1)
    go_ret
    exact ⟨rfl, b1⟩

theorem rbit_any (xs : List Int) (d : Int) (w : World) (hx : Key xs) : Calls Tryz.prog 120 #[.agg (B xs), .int .i64 d] w fun e w' => e = .returned (.int .i64 (kbi xs d)) ∧ Below w.heap.size w w' := by
  unfold kbi
  by_cases h : 0 ≤ d ∧ d < 256
  · rw [if_pos h]
    have e : d = ((d.toNat : Nat) : Int) := by omega
    have := rbit_in xs d.toNat w hx (by omega)
    rw [← e] at this
    exact this
  · rw [if_neg h]
    exact rbit_out xs d w h

end Go.Proofs.YtdpaanidangnlaaGreatDoor

/- The document's side of entries, as a contract; entries appended one by one. -/
namespace Go.Proofs.YtdpaanidangnlaaGreatDoor
set_option maxRecDepth 20000
open Go.RowKit

/-- Entries with their values' slices, one behind the other. -/
def flatP (its : List (Ent × Value)) : List Value := its.flatMap fun p => encP p.1.1 p.2
theorem flatP_snoc (its : List (Ent × Value)) (p : Ent × Value) : flatP (its ++ [p]) = flatP its ++ encP p.1.1 p.2 := by simp [flatP]
theorem flatP_at : ∀ (its : List (Ent × Value)), (∀ p ∈ its, p.1.1.length = 32) → ∀ (i : Nat) (hi : i < its.length) (j : Nat) (v : Value), (encP its[i].1.1 its[i].2)[j]? = some v → (flatP its)[i * 33 + j]? = some v
  | [], _, i, hi, _, _, _ => by simp at hi
  | p :: r, hl, 0, _, j, v, h => by
    have h : (encP p.1.1 p.2)[j]? = some v := h
    have hj := (List.getElem?_eq_some_iff.1 h).1
    simp only [flatP, List.flatMap_cons, Nat.zero_mul, Nat.zero_add]
    rw [List.getElem?_append_left hj]
    exact h
  | p :: r, hl, i + 1, hi, j, v, h => by
    have ih := flatP_at r (fun q hq => hl q (by simp [hq])) i (by simpa using hi) j v (by simpa using h)
    have e1 : (encP p.1.1 p.2).length = 33 := encP_length _ _ (hl p (by simp))
    simp only [flatP, List.flatMap_cons]
    rw [List.getElem?_append_right (by omega), show (i + 1) * 33 + j - (encP p.1.1 p.2).length = i * 33 + j by omega]
    exact ih

theorem info_pair : ∃ i z, Tryz.prog.info? 62 = some i ∧ i.zero = some z ∧ i.size = 33 ∧ i.bytes = 56 ∧ z.cells.size = 33 := ⟨_, _, rfl, rfl, rfl, rfl, rfl⟩

/-- []api.Pair{x}. -/
theorem wpList_bsp {ops : Array Oper} {rest : List Oper} {op : Oper} {a : Act} {Q : Exit → Act → World → Prop} (w : World) (hgd : op.guard = none) (x : Operand) (ho : op.op = .buildSlice 38 1 #[(0, x)])
    (k : List Int) (v : Value) (hx : a.eval x = .agg (encP k v).toArray) (hl : k.length = 32)
    (hk : wpList Tryz.prog ops Q rest (a.put op.dst (.slice (some ⟨w.heap.size, 0, none⟩) 1 1)) (w.alloc (.cells (encP k v).toArray 62))) : wpList Tryz.prog ops Q (op :: rest) a w := by
  refine wpList_plain hgd fun K hK => ?_
  obtain ⟨i, z, hi, hz, hs, _, hzs⟩ := info_pair
  have hrun := run_buildSlice (P := Tryz.prog) w 38 62 1 #[(0, .agg (encP k v).toArray)] (encP k v).toArray i z Tryz.underlying38 hi hz (by rw [hs]; omega) (by rw [hs]; omega) (by
    rw [hs]
    obtain ⟨zs, hzz, hzl⟩ : ∃ zs : List Value, (Array.range (1 * 33)).map (z.cells[· % z.cells.size]!) = zs.toArray ∧ zs.length = 33 := ⟨_, (Array.toArray_toList).symm, by simp⟩
    rw [hzz]
    have := fill_one (fun i => some (i * 33, 33)) 0 0 33 (.agg (encP k v).toArray) (encP k v) zs [] rfl rfl (encP_length k v hl) (by omega)
    rw [show (#[(0, Value.agg (encP k v).toArray)] : Array (Nat × Value)).toList = [(0, Value.agg (encP k v).toArray)] from rfl, this, Instr.fill]
    simp [hzl])
  unfold Oper.wp execOp
  simp only [ho, List.map_toArray, List.map_cons, List.map_nil, hx, Sem.run_bind, hrun, Result.andThen_ok, Sem.run_pure]
  exact hK _ _ hk

/-- append of one entry. -/
theorem wpList_appP {ops : Array Oper} {rest : List Oper} {o : Oper} {a : Act} {Q : Exit → Act → World → Prop} (w : World) (hgd : o.guard = none) (s x : Operand)
    (hop : o.op = .call { callee := .builtin .append, args := #[s, x], argTypes := #[38, 38] })
    (base : Nat) (v : Value) (n : Nat) (xs : List Value) (hown : w.ownsRow base 62 33 v n xs) (hs : a.eval s = v) (g : Nat) (k : List Int) (u : Value) (hx : a.eval x = .slice (some ⟨g, 0, none⟩) 1 1)
    (hb : Blk w g 62 (encP k u).toArray) (hl : k.length = 32) (h1 : u.oneCell' = true) (hn : n ≤ 4096) (hbase : base ≤ w.heap.size)
    (h : ∀ v' w', w'.ownsRow base 62 33 v' (n + 1) (xs ++ encP k u) → w.grownBy w' v.ownBlock → wpList Tryz.prog ops Q rest (a.put o.dst v') w') :
    wpList Tryz.prog ops Q (o :: rest) a w := by
  obtain ⟨i, z, hi, hz, hsz, hby, hzs⟩ := info_pair
  refine wpList_append_own w hgd s x _ hop base _ i z 33 56 Tryz.underlying38 hi hz hsz hby hzs (by omega) v n xs hs hown ⟨g, 0, none⟩ 1 1 (encP k u) hx (by rw [encP_length k u hl]) ?_ ?_ (by simp only [maxLen]; omega) (by omega) hbase (fun v' w' h1 h2 _ => h v' w' h1 h2)
  · intro j q hq
    rw [Addr.add_lit, Nat.zero_add, hb.cell]
    simpa using hq
  · intro q hq
    unfold encP at hq
    rcases List.mem_append.1 hq with hq | hq
    · obtain ⟨z, _, rfl⟩ := List.mem_map.1 hq
      rfl
    · obtain rfl : q = u := by simpa using hq
      exact h1

theorem ownsP_below {w w' : World} {base : Nat} {v : Value} {n : Nat} {xs : List Value} (h : w.ownsRow base 62 33 v n xs) (hb : Below w.heap.size w w') : w'.ownsRow base 62 33 v n xs := by
  refine ⟨h.1, ?_⟩
  rcases h.2 with hn | ⟨g, cap, cur, rfl, hb2, hgg, rest⟩
  · exact .inl hn
  · exact .inr ⟨g, cap, cur, rfl, hb2, (hb.block g (Array.getElem?_eq_some_iff.1 hgg).1).trans hgg, rest⟩

/-- What was appended reads as entries. -/
theorem prAt_own {w : World} {base : Nat} {v : Value} {its : List (Ent × Value)} (h : w.ownsRow base 62 33 v its.length (flatP its)) (hk : ∀ p ∈ its, Key p.1.1) (hr : ∀ p ∈ its, Reads w p.2 p.1.2) :
    PrAt w v (fun i => (its.getD i (e00, undef)).2) (its.map (·.1)) := by
  have hget : ∀ i (hi : i < its.length), (its.map (·.1)).getD i e00 = its[i].1 ∧ its.getD i (e00, undef) = its[i] := fun i hi => ⟨by simp [List.getD, hi], by simp [List.getD, hi]⟩
  have hlast : ∀ i, i < (its.map (·.1)).length → Key ((its.map (·.1)).getD i e00).1 ∧ Reads w (its.getD i (e00, undef)).2 ((its.map (·.1)).getD i e00).2 := by
    intro i hi
    rw [List.length_map] at hi
    obtain ⟨e1, e2⟩ := hget i hi
    rw [e1, e2]
    exact ⟨hk _ (List.getElem_mem hi), hr _ (List.getElem_mem hi)⟩
  rcases h.2 with ⟨rfl, hn⟩ | ⟨g, cap, cur, rfl, _, hg, hcap, _, hsz, htake⟩
  · exact ⟨none, 0, by rw [List.length_map, hn], by rw [List.length_map]; omega, fun hp => by rw [List.length_map] at hp; omega, hlast⟩
  · refine ⟨_, cap, by rw [List.length_map], by rw [List.length_map]; exact hcap, fun _ => ⟨g, 0, rfl, fun i hi j u hu => ?_⟩, hlast⟩
    rw [List.length_map] at hi
    obtain ⟨e1, e2⟩ := hget i hi
    rw [e1] at hu
    simp only [e2] at hu
    have h1 := flatP_at its (fun p hp => (hk p hp).1) i hi j u hu
    rw [← htake] at h1
    have h2 : (cur.toList)[i * 33 + j]? = some u := by
      rw [List.getElem?_take] at h1
      split at h1
      · exact h1
      · cases h1
    rw [cell_of_row w g _ cur _ _ hg, Nat.zero_add]
    simpa using h2

theorem side_step (es : List Ent) (k d : Nat) (b : Int) (hk : k < es.length) : sideOf (es.take (k + 1)) d b = sideOf (es.take k) d b ++ (if (kbi (es.getD k e00).1 d == b) = true then [es.getD k e00] else []) := by
  unfold sideOf
  rw [List.take_add_one, List.filter_append]
  congr 1
  simp [List.getD, hk, List.filter_cons]

def SidePost (es : List Ent) (d : Nat) (b : Int) (w : World) (e : Ending) (w' : World) : Prop := ∃ v V, e = .returned v ∧ PrAt w' v V (sideOf es d b) ∧ Below w.heap.size w w'

theorem reads_one {w : World} {v : Value} {zs : List Int} (h : Reads w v zs) : v.oneCell' = true := by
  obtain ⟨a, c, rfl, _⟩ := h
  rfl

theorem below_own {w0 w w' : World} {base n : Nat} {v : Value} {xs : List Value} (hb : Below w0.heap.size w0 w) (ho : w.ownsRow base 62 33 v n xs) (hbase : w0.heap.size ≤ base) (hg : w.grownBy w' v.ownBlock) : Below w0.heap.size w0 w' :=
  hb.trans ⟨hg.os, hg.tape, hg.output, hg.size, fun k hk => hg.block k (Nat.lt_of_lt_of_le hk hb.size) (fun e => by have := (ho.lt k e.symm).1; omega)⟩

set_option maxRecDepth 100000 in
set_option maxHeartbeats 8000000 in
theorem refSide_any (v : Value) (V : Nat → Value) (es : List Ent) (d : Nat) (b : Int) (w : World) (hv : PrAt w v V es) (hn : es.length ≤ 4096) :
    Calls Tryz.prog 141 #[v, .int .i64 d, .int .i64 b] w (SidePost es d b w) := by
  have hkeys := hv.keys
  obtain ⟨a, cap, rfl, hcap, hc, hr⟩ := hv
  have HC := hidden hc
  have HR := hidden hr
  obtain ⟨n, hnn⟩ : ∃ n, n = es.length := ⟨_, rfl⟩
  have HN := hidden hnn
  have HPost : Hid (∀ w' s its, its.map (·.1) = sideOf es d b → (∀ p ∈ its, Key p.1.1 ∧ Reads w p.2 p.1.2) → w'.ownsRow w.heap.size 62 33 s its.length (flatP its) → Below w.heap.size w w' → SidePost es d b w (.returned s) w') := fun w' s its h1 h2 h3 h4 => ⟨s, _, rfl, by
    have := prAt_own h3 (fun p hp => (h2 p hp).1) (fun p hp => (h2 p hp).2.grow h4)
    rwa [h1] at this, h4⟩
  rw [← hnn] at hn ⊢
  clear hc hr hcap hnn hkeys
  go_enter Tryz.func141, Tryz.ntmps141
  go_wp2_with fail
  go_loopw [7, 8] (fun s i wr => ∃ (k m : Nat) (its : List (Ent × Value)) (sa : Option Addr) (sc : Nat), k ≤ n ∧ i = .int .i64 k ∧ s = .slice sa m sc ∧ Hid (its.length = m) ∧ Hid (its.map (·.1) = sideOf (es.take k) d b) ∧ Hid (∀ p ∈ its, Key p.1.1 ∧ Reads w p.2 p.1.2) ∧ Hid (wr.ownsRow w.heap.size 62 33 (.slice sa m sc) m (flatP its)) ∧ Below w.heap.size w wr) (fun _ i _ => n - (intOf i).toNat)
  case atStart => exact ⟨0, 0, [], none, 0, by omega, rfl, rfl, rfl, rfl, fun p hp => by simp at hp, World.ownsRow_nil _ _ _ _, Below.refl _ _⟩
  case round =>
    obtain ⟨k, m, its, sa, sc, hk, rfl, rfl, hml, him, hia, hio, hbw⟩ := hrel
    by_cases hlt : k < n
    · have hlt' : k < es.length := by rw [← HN.out]; exact hlt
      obtain ⟨g, off, rfl, hcc⟩ := HC.out (by omega)
      have z1 : (k : Int) < (n : Int) := by omega
      have z0 : (0 : Int) ≤ (k : Int) := by omega
      obtain ⟨hkey, hrd⟩ := HR.out k hlt'
      have hst := side_step es k d b hlt'
      have hil : m ≤ 4096 := by
        have := congrArg List.length him.out
        rw [List.length_map, hml.out] at this
        rw [this]
        exact Nat.le_trans (List.length_filter_le _ _) (by simp; omega)
      have HCC : Hid (∀ w', Below w.heap.size w w' → w'.rangeAt g (off + k * 33) (encP (es.getD k e00).1 (V k))) := fun w' hw' => rng_grow (hcc k hlt') hw'
      have HBit : Hid (∀ w', Calls Tryz.prog 120 #[.agg (B (es.getD k e00).1), .int .i64 d] w' fun e w'' => e = .returned (.int .i64 (kbi (es.getD k e00).1 d)) ∧ Below w'.heap.size w' w'') := fun w' => rbit_any _ d w' hkey
      have HV1 := hidden (reads_one hrd)
      have HKY := hidden hkey
      have HRD := hidden hrd
      obtain ⟨E, hE⟩ : ∃ E, E = es.getD k e00 := ⟨_, rfl⟩
      obtain ⟨β, hβ⟩ : ∃ β, β = kbi E.1 d := ⟨_, rfl⟩
      rw [← hE] at hst HCC HBit HKY HRD
      rw [← hβ] at hst HBit
      clear hcc hkey hrd hlt' hE hβ
      by_cases hbb : β = b
      · have hb2 : (β == b) = true := by simp [hbb]
        rw [hb2, if_pos rfl] at hst
        have HIM : Hid ((its ++ [(E, V k)]).map (·.1) = sideOf (es.take (k + 1)) d b) := by
          show _ = _
          rw [hst, List.map_append, him.out]
          rfl
        have HIA : Hid (∀ p ∈ its ++ [(E, V k)], Key p.1.1 ∧ Reads w p.2 p.1.2) := by
          intro p hp
          rcases List.mem_append.1 hp with hp | hp
          · exact hia.out p hp
          · obtain rfl : p = (E, V k) := by simpa using hp
            exact ⟨HKY.out, HRD.out⟩
        clear hst hbb
        go_wp2_with (first
          | ((with_reducible refine at_ldd 19 18 ?_); refine wpList_ldk _ rfl _ rfl g (off + k * 33) E.1 rfl (rng_key (HCC.out _ hbw)) HKY.out.1 ?_)
          | (go_at_call 120; refine (HBit.out _).mono ?_; rintro e w2 ⟨rfl, q2⟩; have c2 := grow_trans hbw q2; have HIO := hidden (ownsP_below hio.out q2))
          | ((with_reducible refine at_ldd 28 27 ?_); refine wpList_ldp _ rfl _ rfl g (off + k * 33) E.1 (V k) rfl (HCC.out _ c2) HKY.out.1 ?_)
          | (refine wpList_bsp _ rfl _ rfl E.1 (V k) rfl HKY.out.1 ?_)
          | (at_builtin; refine wpList_appP _ rfl _ _ rfl w.heap.size _ m (flatP its) (HIO.out.alloc _) rfl w2.heap.size E.1 (V k) rfl (Blk.new _ _ _) HKY.out.1 HV1.out hil (Nat.le_trans c2.size (by simp)) ?_; intro v' w3 ho3 hg3))
        have c3 := below_own (grow_trans c2 (grow_alloc _ _)) (HIO.out.alloc _) (Nat.le_refl _) hg3
        rw [← flatP_snoc its (E, V k)] at ho3
        obtain ⟨sa', sc', rfl⟩ : ∃ sa' sc', v' = .slice sa' (m + 1) sc' := by
          rcases ho3.2 with ⟨e, e2⟩ | ⟨g', cap', cur, e, _⟩
          · omega
          · exact ⟨_, _, e⟩
        exact ⟨⟨k + 1, m + 1, its ++ [(E, V k)], sa', sc', by omega, by go_num, rfl, by show _ = _; rw [List.length_append, hml.out]; rfl, HIM, HIA, ho3, c3⟩, by simp [intOf]; omega⟩
      · have hb2 : (β == b) = false := by simp [hbb]
        rw [hb2, if_neg (by simp), List.append_nil] at hst
        have HIM : Hid (its.map (·.1) = sideOf (es.take (k + 1)) d b) := by
          show _ = _
          rw [hst, him.out]
        clear hst hbb
        go_wp2_with (first
          | ((with_reducible refine at_ldd 19 18 ?_); refine wpList_ldk _ rfl _ rfl g (off + k * 33) E.1 rfl (rng_key (HCC.out _ hbw)) HKY.out.1 ?_)
          | (go_at_call 120; refine (HBit.out _).mono ?_; rintro e w2 ⟨rfl, q2⟩; have c2 := grow_trans hbw q2; have HIO := hidden (ownsP_below hio.out q2)))
        exact ⟨⟨k + 1, m, its, sa, sc, by omega, by go_num, rfl, hml, HIM, hia, HIO, c2⟩, by simp [intOf]; omega⟩
    · have hkn : k = es.length := by rw [← HN.out]; omega
      have z1 : ¬ (k : Int) < (n : Int) := by omega
      rw [hkn, List.take_length] at him
      clear hkn
      go_wp2
      go_ret
      exact HPost.out _ _ _ him.out hia.out (by rw [hml.out]; exact hio.out) hbw

end Go.Proofs.YtdpaanidangnlaaGreatDoor

/- What stands in every world that differs in some blocks alone; rows of any kind that are the call's own. -/
namespace Go.Proofs.YtdpaanidangnlaaGreatDoor
set_option maxRecDepth 20000
open Go.RowKit

/-- P stands in every world that differs from w in the blocks S alone. -/
def Kq (S : List Nat) (w : World) (P : World → Prop) : Prop := ∀ w', Mod S w w' → P w'
theorem Kq.now {S : List Nat} {w : World} {P : World → Prop} (h : Kq S w P) : P w := h w (Mod.refl _ _)
theorem Kq.turn {S S1 : List Nat} {w w1 : World} {P : World → Prop} (h : Kq S w P) (m : Mod S w w1) (n : New S w S1) : Kq S1 w1 P := fun w' m' => h w' (m.trans n m')
theorem Kq.step {S : List Nat} {w w1 : World} {P : World → Prop} (h : Kq S w P) (m : Mod S w w1) : Kq S w1 P := h.turn m (New.refl _ _)
theorem Kq.grow {S : List Nat} {w w1 : World} {P : World → Prop} (h : Kq S w P) (b : Below w.heap.size w w1) : Kq S w1 P := h.step (Mod.of_below b S)
theorem Kq.imp {S : List Nat} {w : World} {P Q : World → Prop} (h : Kq S w P) (q : ∀ w', Mod S w w' → P w' → Q w') : Kq S w Q := fun w' m => q w' m (h w' m)
theorem Kq.blk {S : List Nat} {w : World} {g : Nat} {t : TypeId} {cs : Array Value} (h : Blk w g t cs) (hn : g ∉ S) : Kq S w (fun w' => Blk w' g t cs) := fun _ m => h.mod m hn
/-- What stands in all worlds that have but grown since b stands where only blocks from b on turn. -/
theorem Kq.of_low {S : List Nat} {w0 w : World} {P : World → Prop} (h : ∀ w', Below w0.heap.size w0 w' → P w') (hb : Below w0.heap.size w0 w) (hS : ∀ k ∈ S, w0.heap.size ≤ k) : Kq S w P := fun w' m => h w' (hb.trans (m.below hS hb.size))

theorem owR_mod {w w' : World} {base : Nat} {e : TypeId} {k : Nat} {v : Value} {n : Nat} {xs : List Value} {S : List Nat} (h : w.ownsRow base e k v n xs) (m : Mod S w w') (hn : ∀ g, v.ownBlock = some g → g ∉ S) : w'.ownsRow base e k v n xs := by
  refine ⟨h.1, ?_⟩
  rcases h.2 with hh | ⟨g, cap, cur, rfl, hb, hgg, rest⟩
  · exact .inl hh
  · exact .inr ⟨g, cap, cur, rfl, hb, (m.block g (Array.getElem?_eq_some_iff.1 hgg).1 (hn g rfl)).trans hgg, rest⟩
theorem owR_grow {w w' : World} {base : Nat} {e : TypeId} {k : Nat} {v : Value} {n : Nat} {xs : List Value} (h : w.ownsRow base e k v n xs) (hb : Below w.heap.size w w') : w'.ownsRow base e k v n xs := owR_mod h (Mod.of_below hb []) (fun _ _ h => by cases h)
theorem owR_base {w : World} {base base' : Nat} {e : TypeId} {k : Nat} {v : Value} {n : Nat} {xs : List Value} (h : w.ownsRow base e k v n xs) (hb : base' ≤ base) : w.ownsRow base' e k v n xs := by
  refine ⟨h.1, h.2.imp id ?_⟩
  rintro ⟨g, cap, cur, e1, e2, e3⟩
  exact ⟨g, cap, cur, e1, Nat.le_trans hb e2, e3⟩
theorem owR_lst {w : World} {base : Nat} {e : TypeId} {k : Nat} {v : Value} {n : Nat} {xs : List Value} (h : w.ownsRow base e k v n xs) : Lst w e k v n xs := ⟨h.1, h.2.imp id (fun ⟨g, cap, cur, a1, _, a3⟩ => ⟨g, cap, cur, a1, Nat.zero_le _, a3⟩)⟩
/-- A list of the call's own that grew leaves all below as it was. -/
theorem owR_below {w0 w w' : World} {base : Nat} {e : TypeId} {k : Nat} {v : Value} {n : Nat} {xs : List Value} (hb : Below w0.heap.size w0 w) (h : w.ownsRow base e k v n xs) (hl : w0.heap.size ≤ base) (hg : w.grownBy w' v.ownBlock) : Below w0.heap.size w0 w' := by
  have m : Mod v.ownBlock.toList w w' := Mod.of_grown hg (fun k hk => by simp [hk])
  refine hb.trans (m.below (fun k hk => ?_) hb.size)
  have := (h.lt k (by simpa using hk)).1
  omega

end Go.Proofs.YtdpaanidangnlaaGreatDoor
