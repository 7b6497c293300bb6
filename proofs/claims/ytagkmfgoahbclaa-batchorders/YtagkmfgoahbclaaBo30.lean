/- rootcellarkit.LentPairs and KeptPairs, as contracts. -/
import Derived.Test.YtagkmfgoahbclaaBo28
import Derived.Test.YtagkmfgoahbclaaBo29
namespace Go.Proofs.Ytagkmfgoahbclaa
set_option maxRecDepth 20000
open Go.RowKit

theorem setCells_other {g k : Nat} (hne : k ≠ g) : ∀ (vs : List Value) (o : Nat) (w : World), (w.setCells g o vs).heap[k]? = w.heap[k]?
  | [], _, _ => rfl
  | v :: r, o, w => by
    rw [World.setCells, setCells_other hne r (o + 1), heap_setCell_other w ⟨g, o, none⟩ k v (fun e => hne e)]

/-- A value that was lent. -/
def lvP (es : List Ent) (G : Nat → Nat) (i : Nat) : Value := .slice (some ⟨G i, 0, none⟩) (es.getD i e00).2.length ((es.getD i e00).2.length + 5)

/-- k of the entries lent, in a row with room for two more, which are nought. -/
structure LentP (w : World) (g k : Nat) (G : Nat → Nat) (es : List Ent) : Prop where
  pair : ∀ i, i < k → w.rangeAt g (i * 33) (encP (es.getD i e00).1 (lvP es G i))
  row : ∀ i, i < k → Row w (G i) ((es.getD i e00).2 ++ marks (es.getD i e00).2.length)
  spare : ∀ j, j < 2 → w.rangeAt g ((es.length + j) * 33) (encP z32 (.slice none 0 0))

theorem LentP.grow {w w' : World} {g k : Nat} {G : Nat → Nat} {es : List Ent} (h : LentP w g k G es) (hb : Below w.heap.size w w') : LentP w' g k G es :=
  ⟨fun i hi => rng_grow (h.pair i hi) hb, fun i hi => (h.row i hi).of_block (hb.block _ (h.row i hi).lt), fun j hj => rng_grow (h.spare j hj) hb⟩
theorem LentP.kp {w : World} {g k : Nat} {G : Nat → Nat} {es : List Ent} (h : LentP w g k G es) : Kp w (fun w' => LentP w' g k G es) := fun _ q => h.grow q

theorem lent_reads {w : World} {g : Nat} {zs : List Int} (h : Row w g (zs ++ marks zs.length)) (hb : Bytes zs) : Reads w (.slice (some ⟨g, 0, none⟩) zs.length (zs.length + 5)) zs := by
  refine ⟨_, _, rfl, by omega, (fun e => by cases e), hb, fun _ => ⟨g, 0, rfl, fun i hi => ?_⟩⟩
  rw [Nat.zero_add, h.cell i (by simp; omega)]
  simp [List.getD, hi, List.getElem?_append_left hi]

theorem LentP.prAt {w : World} {g : Nat} {G : Nat → Nat} {es : List Ent} (h : LentP w g es.length G es) (hk : ∀ i, i < es.length → Key (es.getD i e00).1) (hb : ∀ i, i < es.length → Bytes (es.getD i e00).2) : PrAt w (.slice (some ⟨g, 0, none⟩) es.length (es.length + 2)) (lvP es G) es := by
  refine ⟨_, _, rfl, by omega, fun _ => ⟨g, 0, rfl, fun i hi => by rw [Nat.zero_add]; exact h.pair i hi⟩, fun i hi => ⟨hk i hi, ?_⟩⟩
  exact lent_reads (h.row i hi) (hb i hi)

def prPlaces : Nat → Option (Nat × Nat) := fun i => (#[(0, 32), (32, 1)] : Array (Nat × Nat))[i]?

theorem builtP_eq (ps : List (Nat × Value)) : Try.prog.built 41 ps = Instr.fill prPlaces (encP z32 (.slice none 0 0)).toArray ps := by kernel_rfl

theorem built_pair (k : List Int) (a : Option Addr) (l c : Nat) (hk : k.length = 32) : Try.prog.built 41 [(0, .agg (B k)), (1, .slice a l c)] = some (encP k (.slice a l c)).toArray := by
  rw [builtP_eq, fill_one prPlaces 0 0 32 _ (k.map (Value.int .u8)) _ _ rfl (cells_b k) (by simp [hk]) (by simp [encP, z32]), fill_one prPlaces 1 32 1 _ [.slice a l c] _ _ rfl rfl rfl (by simp [encP, z32, hk]), Instr.fill]
  congr 2
  simp [encP, z32, hk]

/-- make([]api.Pair, n, n + 2). -/
theorem wpList_mkp {ops : Array Oper} {rest : List Oper} {o : Oper} {a : Act} {Q : Exit → Act → World → Prop} (w : World) (hgd : o.guard = none) (x y : Operand)
    (hop : o.op = Op.makeSlice 22 x y) (n : Nat) (hx : a.eval x = .int .i64 n) (hy : a.eval y = .int .i64 ((n : Int) + 2)) (hn : (n + 2) * 56 ≤ 281474976710656)
    (h : ∀ w' g, w.heap.size ≤ g → g < w'.heap.size → (∀ i, i < n + 2 → w'.rangeAt g (i * 33) (encP z32 (.slice none 0 0)) ∧ w'.there g (i * 33) 33) → Below w.heap.size w w' → wpList Try.prog ops Q rest (a.put o.dst (.slice (some ⟨g, 0, none⟩) n (n + 2))) w') :
    wpList Try.prog ops Q (o :: rest) a w := by
  refine wpList_plain hgd fun K hK => ?_
  obtain ⟨i, z, hi, hz, hzc, hs, hby⟩ : ∃ i z, Try.prog.info? 41 = some i ∧ i.zero = some z ∧ z.cells = (encP z32 (.slice none 0 0)).toArray ∧ i.size = 33 ∧ i.bytes = 56 := ⟨_, _, rfl, rfl, rfl, rfl, rfl⟩
  have hr := run_make (P := Try.prog) w 22 41 i z Try.underlying22 hi hz .i64 .i64 n ((n : Int) + 2) (by omega) (by omega) (by rw [hby]; omega) (by omega)
  rw [hs, hzc] at hr
  have e1 : ((n : Int) + 2).toNat = n + 2 := by omega
  simp only [Int.toNat_natCast, e1] at hr
  have hsz := size_madeCells (encP z32 (.slice none 0 0)).toArray ((n + 2) * 33)
  have hB : Blk (w.alloc (.cells (madeCells (encP z32 (.slice none 0 0)).toArray ((n + 2) * 33)) 41)) w.heap.size 41 _ := Blk.new w _ _
  unfold Oper.wp
  simp [execOp, hop, hx, hy, hr, Result.andThen]
  refine hK _ _ (h _ w.heap.size (Nat.le_refl _) (by simp) (fun j hj => ⟨fun q v hv => ?_, hB.there _ _ (by rw [hsz]; omega)⟩) (grow_alloc w _))
  have hq : q < 33 := by have := (List.getElem?_eq_some_iff.1 hv).1; rwa [encP_length _ _ rfl] at this
  rw [hB.cell]
  have e2 : (encP z32 (.slice none 0 0)).toArray.size = 33 := by rw [List.size_toArray]; exact encP_length _ _ rfl
  unfold madeCells
  rw [Array.getElem?_map, Array.getElem?_range, if_pos (by omega), e2]
  simp only [Option.map_some]
  rw [show (j * 33 + q) % 33 = q by omega]
  rw [getElem!_pos _ q (by rw [e2]; exact hq)]
  obtain ⟨h1, h2⟩ := List.getElem?_eq_some_iff.1 hv
  rw [← h2]
  simp

def LentPost (es : List Ent) (w : World) (e : Ending) (w' : World) : Prop := ∃ g G, e = .returned (.slice (some ⟨g, 0, none⟩) es.length (es.length + 2)) ∧ w.heap.size ≤ g ∧ LentP w' g es.length G es ∧ Below w.heap.size w w'

set_option maxRecDepth 100000 in
set_option maxHeartbeats 8000000 in
theorem lentPairs_any (v : Value) (V : Nat → Value) (es : List Ent) (w : World) (hv : PrAt w v V es) (hn : es.length * 56 ≤ 140737488355328 - 4096) (hl : ∀ i, i < es.length → (es.getD i e00).2.length ≤ 140737488355328 - 4096) :
    Calls Try.prog 4 #[v] w (LentPost es w) := by
  obtain ⟨a, cap, rfl, hcap, hc, hr⟩ := hv
  have HC := hidden hc
  have HR := hidden hr
  have HLE := hidden hl
  obtain ⟨n, hnn⟩ : ∃ n, n = es.length := ⟨_, rfl⟩
  have HN := hidden hnn
  have HPost : Hid (∀ w' g G, w.heap.size ≤ g → LentP w' g n G es → Below w.heap.size w w' → LentPost es w (.returned (.slice (some ⟨g, 0, none⟩) n (n + 2))) w') := fun w' g G h1 h2 h3 => ⟨g, G, by rw [hnn], h1, by rw [← hnn]; exact h2, h3⟩
  rw [← hnn] at hn ⊢
  have hw2 : IntKind.i64.wrap ((n : Int) + 2) = (n : Int) + 2 := by rw [IntKind.wrap_i64]; omega
  have hn2 : (n + 2) * 56 ≤ 281474976710656 := by omega
  clear hc hr hcap hnn hl
  go_enter Try.func4, Try.ntmps4
  go_wp2_with (first
    | (refine wpList_mkp _ rfl _ _ rfl n rfl rfl hn2 ?_; intro w1 g hg hgl hz b1))
  have HG := hidden hg
  have HL0 : Hid (LentP w1 g 0 (fun _ => 0) es) := ⟨fun i hi => by omega, fun i hi => by omega, fun j hj => by rw [← HN.out]; exact (hz (n + j) (by omega)).1⟩
  have HT0 : Hid (∀ i, i < n → w1.there g (i * 33) 33) := fun i hi => (hz i (by omega)).2
  have HGL := hidden hgl
  clear hz hg hgl
  go_loopw [4] (fun i wr => ∃ (k : Nat) (G : Nat → Nat), k ≤ n ∧ i = .int .i64 k ∧ Hid (LentP wr g k G es) ∧ Hid (∀ i, i < n → wr.there g (i * 33) 33) ∧ Hid (g < wr.heap.size) ∧ Hid (∀ i, i < k → G i ≠ g) ∧ Below w.heap.size w wr) (fun i _ => n - (intOf i).toNat)
  case atStart => exact ⟨0, _, by omega, rfl, HL0, HT0, HGL, fun i hi => by omega, b1⟩
  case round =>
    obtain ⟨k, G, hk, rfl, hlp, hth, hgl, hne, hbw⟩ := hrel
    by_cases hlt : k < n
    · have hlt' : k < es.length := by rw [← HN.out]; exact hlt
      obtain ⟨ga, off, rfl, hcc⟩ := HC.out (by omega)
      have z1 : (k : Int) < (n : Int) := by omega
      have z0 : (0 : Int) ≤ (k : Int) := by omega
      obtain ⟨hkey, hrd⟩ := HR.out k hlt'
      have HLT : Hid (∀ w', Below w.heap.size w w' → Calls Try.prog 17 #[V k] w' fun e w'' => ∃ q, e = .returned (.slice (some ⟨q, 0, none⟩) (es.getD k e00).2.length ((es.getD k e00).2.length + 5)) ∧ w'.heap.size ≤ q ∧ Row w'' q ((es.getD k e00).2 ++ marks (es.getD k e00).2.length) ∧ Below w'.heap.size w' w'') := fun w' hb =>
        (lent_any (V k) _ w' (hrd.grow hb) (by have := HLE.out k hlt'; omega)).mono fun _ _ ⟨h1, h2, h3, _⟩ => ⟨_, h1, Nat.le_refl _, h2, h3⟩
      have HS : Hid (∀ w', Below w.heap.size w w' → w'.rangeAt ga (off + k * 33) (B (es.getD k e00).1).toList ∧ w'.cell? ⟨ga, off + k * 33 + 32, none⟩ = some (V k)) := fun w' hw' => ⟨rng_key (rng_grow (hcc k hlt') hw'), rng_val (rng_grow (hcc k hlt') hw') hkey.1⟩
      have HKY := hidden hkey
      obtain ⟨va, vc, hV, _, _, _, _⟩ := hrd
      obtain ⟨K, hK⟩ : ∃ K, K = (es.getD k e00).1 := ⟨_, rfl⟩
      obtain ⟨L, hL⟩ : ∃ L, L = (es.getD k e00).2.length := ⟨_, rfl⟩
      rw [hV] at HLT HS
      rw [← hL] at HLT HS
      rw [← hK] at HS HKY
      have HLK : Hid ((Try.prog.info? 34).map (·.size) = some (B K).toList.length) := by show _ = _; rw [B_toList, List.length_map, HKY.out.1]; exact sz_path
      have HBP : Hid (∀ q, Try.prog.built 41 [(0, .agg (B K)), (1, .slice (some ⟨q, 0, none⟩) L (L + 5))] = some (encP K (.slice (some ⟨q, 0, none⟩) L (L + 5))).toArray) := fun q => built_pair K _ _ _ HKY.out.1
      have HKE := hidden hK
      have HLL := hidden hL
      clear hcc hkey hK hL hV hlt'
      go_wp2_with fail
      have d0 : Below w.heap.size w wr.drew := grow_trans hbw (Below.refl _ _).drew
      refine wp_region_held_drew (S := fun w' => w'.rangeAt ga (off + k * 33) (B K).toList ∧ w'.cell? ⟨ga, off + k * 33 + 32, none⟩ = some (.slice va L vc)) (by kernel_rfl) (HS.out _ d0) (fun hHeld => ?_)
      refine wpAnyH_take (i := 0) (v := .slice (some ⟨g, 0, none⟩) n (n + 2)) rfl (by kernel_rfl) (by kernel_rfl) (by kernel_rfl) (fun _ _ _ h => h) (Or.inl ⟨by rfl, fun w hS => by go_simp⟩) hHeld ?_
      simp only [Act.put, List.getElem_toArray, List.getElem_cons_zero, List.setIfInBounds_toArray, List.set_cons_zero, List.set_cons_succ]
      refine wpAnyH_take (i := 1) (v := .int .i64 k) rfl (by kernel_rfl) (by kernel_rfl) (by kernel_rfl) (fun _ _ _ h => h) (Or.inl ⟨by rfl, fun w hS => by go_simp⟩) hHeld ?_
      simp only [Act.put, List.getElem_toArray, List.getElem_cons_zero, List.getElem_cons_succ, List.setIfInBounds_toArray, List.set_cons_zero, List.set_cons_succ]
      refine wpAnyH_take (i := 2) (v := .slice (some ⟨ga, off, none⟩) n cap) rfl (by kernel_rfl) (by kernel_rfl) (by kernel_rfl) (fun _ _ _ h => h) (Or.inl ⟨by rfl, fun w hS => by go_simp⟩) hHeld ?_
      simp only [Act.put, List.getElem_toArray, List.getElem_cons_zero, List.getElem_cons_succ, List.setIfInBounds_toArray, List.set_cons_zero, List.set_cons_succ]
      refine wpAnyH_take (i := 3) (v := .int .i64 k) rfl (by kernel_rfl) (by kernel_rfl) (by kernel_rfl) (fun _ _ _ h => h) (Or.inl ⟨by rfl, fun w hS => by go_simp⟩) hHeld ?_
      simp only [Act.put, List.getElem_toArray, List.getElem_cons_zero, List.getElem_cons_succ, List.setIfInBounds_toArray, List.set_cons_zero, List.set_cons_succ]
      refine wpAnyH_take (i := 4) (v := .pointer (some ⟨ga, off + k * 33, none⟩)) rfl (by kernel_rfl) (by kernel_rfl) (by kernel_rfl) (fun _ _ _ h => h) (Or.inl ⟨by rfl, fun w hS => by go_simp⟩) hHeld ?_
      simp only [Act.put, List.getElem_toArray, List.getElem_cons_zero, List.getElem_cons_succ, List.setIfInBounds_toArray, List.set_cons_zero, List.set_cons_succ]
      refine wpAnyH_take (i := 5) (v := .pointer (some ⟨ga, off + k * 33, none⟩)) rfl (by kernel_rfl) (by kernel_rfl) (by kernel_rfl) (fun _ _ _ h => h) (Or.inl ⟨by rfl, fun w hS => by go_simp⟩) hHeld ?_
      simp only [Act.put, List.getElem_toArray, List.getElem_cons_zero, List.getElem_cons_succ, List.setIfInBounds_toArray, List.set_cons_zero, List.set_cons_succ]
      refine wpAnyH_take (i := 6) (v := .agg (B K)) rfl (by kernel_rfl) (by kernel_rfl) (by kernel_rfl) (fun _ _ _ h => h) (yieldsIf_load_mid rfl 34 (.tmp 22) rfl ga (off + k * 33) rfl (B K).toList _ (fun w hS => hS.1) Try.underlying34 rfl HLK.out) hHeld ?_
      simp only [Act.put, List.getElem_toArray, List.getElem_cons_zero, List.getElem_cons_succ, List.setIfInBounds_toArray, List.set_cons_zero, List.set_cons_succ]
      refine wpAnyH_take (i := 7) (v := .slice (some ⟨ga, off, none⟩) n cap) rfl (by kernel_rfl) (by kernel_rfl) (by kernel_rfl) (fun _ _ _ h => h) (Or.inl ⟨by rfl, fun w hS => by go_simp⟩) hHeld ?_
      simp only [Act.put, List.getElem_toArray, List.getElem_cons_zero, List.getElem_cons_succ, List.setIfInBounds_toArray, List.set_cons_zero, List.set_cons_succ]
      refine wpAnyH_take (i := 8) (v := .int .i64 k) rfl (by kernel_rfl) (by kernel_rfl) (by kernel_rfl) (fun _ _ _ h => h) (Or.inl ⟨by rfl, fun w hS => by go_simp⟩) hHeld ?_
      simp only [Act.put, List.getElem_toArray, List.getElem_cons_zero, List.getElem_cons_succ, List.setIfInBounds_toArray, List.set_cons_zero, List.set_cons_succ]
      refine wpAnyH_take (i := 9) (v := .pointer (some ⟨ga, off + k * 33, none⟩)) rfl (by kernel_rfl) (by kernel_rfl) (by kernel_rfl) (fun _ _ _ h => h) (Or.inl ⟨by rfl, fun w hS => by go_simp⟩) hHeld ?_
      simp only [Act.put, List.getElem_toArray, List.getElem_cons_zero, List.getElem_cons_succ, List.setIfInBounds_toArray, List.set_cons_zero, List.set_cons_succ]
      refine wpAnyH_take (i := 10) (v := .pointer (some ⟨ga, off + k * 33 + 32, none⟩)) rfl (by kernel_rfl) (by kernel_rfl) (by kernel_rfl) (fun _ _ _ h => h) (Or.inl ⟨by rfl, fun w hS => by go_simp⟩) hHeld ?_
      simp only [Act.put, List.getElem_toArray, List.getElem_cons_zero, List.getElem_cons_succ, List.setIfInBounds_toArray, List.set_cons_zero, List.set_cons_succ]
      refine wpAnyH_take (i := 11) (v := .slice va L vc) rfl (by kernel_rfl) (by kernel_rfl) (by kernel_rfl) (fun _ _ _ h => h) (Or.inl ⟨by rfl, fun w hS => by (have s1 := hS.2; go_simp)⟩) hHeld ?_
      simp only [Act.put, List.getElem_toArray, List.getElem_cons_zero, List.getElem_cons_succ, List.setIfInBounds_toArray, List.set_cons_zero, List.set_cons_succ]
      refine wpAnyH_ready (rs := [12]) (by kernel_rfl) (by simp) ?_
      refine AllReadyH.cons rfl (fun KQ hK => ?_) AllReadyH.nil
      go_simp
      refine (HLT.out _ d0).mono ?_
      rintro e x1 ⟨q, rfl, hq, hrow, a1⟩
      have d1 := grow_trans d0 a1
      refine hK.out _ _ (HS.out _ d1) (fun hHeld => ?_)
      clear hK KQ
      refine wpAnyH_take (i := 13) (v := .agg (encP K (.slice (some ⟨q, 0, none⟩) L (L + 5))).toArray) rfl (by kernel_rfl) (by kernel_rfl) (by kernel_rfl) (fun _ _ _ h => h) (Or.inl ⟨by rfl, fun w hS => exec_bd _ _ 41 _ (by rfl) _ (by rw [List.map_toArray]; exact HBP.out q) w⟩) hHeld ?_
      simp only [Act.put, List.getElem_toArray, List.getElem_cons_zero, List.getElem_cons_succ, List.setIfInBounds_toArray, List.set_cons_zero, List.set_cons_succ]
      refine wpAnyH_take (i := 14) (v := .pointer (some ⟨g, k * 33, none⟩)) rfl (by kernel_rfl) (by kernel_rfl) (by kernel_rfl) (fun _ _ _ h => h) (Or.inl ⟨by rfl, fun w hS => by go_simp⟩) hHeld ?_
      simp only [Act.put, List.getElem_toArray, List.getElem_cons_zero, List.getElem_cons_succ, List.setIfInBounds_toArray, List.set_cons_zero, List.set_cons_succ]
      refine wpAnyH_ready (rs := [15]) (by kernel_rfl) (by simp) ?_
      refine AllReadyH.cons rfl (fun KQ hK => ?_) AllReadyH.nil
      have hgx : Below wr.heap.size wr x1 := grow_trans (Below.refl _ _).drew a1
      have hlp1 := hlp.out.grow hgx
      have hsz9 : (encP K (.slice (some ⟨q, 0, none⟩) L (L + 5))).toArray.size = 33 := by rw [List.size_toArray]; exact encP_length _ _ HKY.out.1
      refine step_stL _ rfl _ _ _ rfl g (k * 33) (encP K (.slice (some ⟨q, 0, none⟩) L (L + 5))).toArray rfl rfl (by rw [hsz9]; exact there_grow (hth.out k hlt) hgx) (by rw [hsz9]; exact size_pair) (encP_one _ _ _ _) ?_
      have c4 : Below w.heap.size w (x1.setCells g (k * 33) (encP K (.slice (some ⟨q, 0, none⟩) L (L + 5)))) := setCells_below HG.out _ _ _ d1
      have hqg : q ≠ g := by
        have h1 := hgl.out
        have h2 : wr.drew.heap.size = wr.heap.size := rfl
        intro e
        subst e
        omega
      have hths : ∀ i, i < n → (x1.setCells g (k * 33) (encP K (.slice (some ⟨q, 0, none⟩) L (L + 5)))).there g (i * 33) 33 := fun i hi => World.there_setCells (there_grow (hth.out i hi) hgx) _ _ _
      have hlen9 : (encP K (.slice (some ⟨q, 0, none⟩) L (L + 5))).length = 33 := encP_length _ _ HKY.out.1
      have hlp2 : LentP (x1.setCells g (k * 33) (encP K (.slice (some ⟨q, 0, none⟩) L (L + 5)))) g (k + 1) (fun i => if i = k then q else G i) es := by
        refine ⟨fun i hi => ?_, fun i hi => ?_, fun j hj => ?_⟩
        · by_cases e : i = k
          · subst e
            have e2 : lvP es (fun j => if j = i then q else G j) i = .slice (some ⟨q, 0, none⟩) L (L + 5) := by simp [lvP, HLL.out]
            rw [e2, ← HKE.out]
            exact World.rangeAt_setCells_same _ _ _ _ (by rw [hlen9]; exact there_grow (hth.out i hlt) hgx)
          · have e2 : lvP es (fun j => if j = k then q else G j) i = lvP es G i := by simp [lvP, e]
            rw [e2]
            refine World.rangeAt_setCells_apart (hlp1.pair i (by omega)) _ _ _ (.inr (.inl ?_))
            rw [encP_length _ _ (HR.out i (by rw [← HN.out]; omega)).1.1]
            omega
        · by_cases e : i = k
          · subst e
            simp only [if_true]
            have hrow' : Row x1 q ((es.getD i e00).2 ++ marks (es.getD i e00).2.length) := by rw [← HLL.out]; exact hrow
            exact hrow'.of_block (setCells_other hqg _ _ _)
          · simp only [if_neg e]
            exact (hlp1.row i (by omega)).of_block (setCells_other (hne.out i (by omega)) _ _ _)
        · refine World.rangeAt_setCells_apart (hlp1.spare j hj) _ _ _ (.inr (.inr ?_))
          rw [hlen9]
          have := HN.out
          omega
      have hne2 : ∀ i, i < k + 1 → (fun i => if i = k then q else G i) i ≠ g := by
        intro i hi
        by_cases e : i = k
        · simp only [if_pos e]
          exact hqg
        · simp only [if_neg e]
          exact hne.out i (by omega)
      have HLP2 := hidden hlp2
      have HTH2 := hidden hths
      have HNE2 := hidden hne2
      clear hlp2 hths hne2 hlp1
      generalize hxx : x1.setCells g (k * 33) (encP K (.slice (some ⟨q, 0, none⟩) L (L + 5))) = x2 at c4 HLP2 HTH2 ⊢
      clear hxx
      refine hK.out _ _ (HS.out _ c4) (fun hHeld => ?_)
      clear hK KQ
      refine wpAnyH_done (by kernel_rfl) ?_ _
      have hg2 : Hid (g < x2.heap.size) := by
        obtain ⟨h1, _⟩ := HTH2.out k hlt 0 (by omega)
        obtain ⟨u, hu⟩ := Option.isSome_iff_exists.1 h1
        exact block_lt_of_cell hu
      go_wp2_with fail
      exact ⟨⟨k + 1, _, by omega, by go_num, HLP2, HTH2, hg2, HNE2, c4⟩, by simp [intOf]; omega⟩
    · have hkn : k = n := by omega
      subst hkn
      have z1 : ¬ (k : Int) < (k : Int) := by omega
      go_wp2
      go_ret
      exact HPost.out _ _ _ HG.out hlp.out hbw

end Go.Proofs.Ytagkmfgoahbclaa

/- rootcellarkit.LentWrites, as a contract. -/
namespace Go.Proofs.Ytagkmfgoahbclaa
set_option maxRecDepth 20000
open Go.RowKit

theorem built_wkgv (K b : List Int) (g : Bool) (a : Option Addr) (l c : Nat) (hk : K.length = 32) : Try.prog.built 37 [(0, .agg (B K)), (1, .bool g), (2, .slice a l c)] = some (encW ⟨K, g, b, .slice a l c⟩).toArray := by
  obtain ⟨e1, e2, e3, e4⟩ := enc_part K (.bool false) (.slice none 0 0) hk
  obtain ⟨f1, f2, f3, f4⟩ := enc_part K (.bool g) (.slice none 0 0) hk
  rw [builtW_eq, fillW_key K _ hk, fill_one wrPlaces 1 32 1 _ [.bool g] _ _ rfl rfl rfl (by simp [hk]), show 32 + 1 = 33 from rfl, e1, e4]
  rw [show K.map (Value.int .u8) ++ [Value.bool g] ++ [Value.slice none 0 0] = K.map (Value.int .u8) ++ [Value.bool g, Value.slice none 0 0] by simp]
  rw [fill_one wrPlaces 2 33 1 _ [.slice a l c] _ _ rfl rfl rfl (by simp [hk]), Instr.fill, show 33 + 1 = 34 from rfl, f2, f3]
  simp [encW]

/-- A write that is lent. -/
def lwW (ls : List Wt) (G : Nat → Nat) (i : Nat) : Wt := ⟨ls[i]!.k, ls[i]!.g, ls[i]!.b, .slice (some ⟨G i, 0, none⟩) ls[i]!.b.length (ls[i]!.b.length + 5)⟩
structure LentWr (w : World) (g k : Nat) (G : Nat → Nat) (ls : List Wt) : Prop where
  pair : ∀ i, i < k → w.rangeAt g (i * 34) (encW (lwW ls G i))
  row : ∀ i, i < k → Row w (G i) (ls[i]!.b ++ marks ls[i]!.b.length)
theorem LentWr.grow {w w' : World} {g k : Nat} {G : Nat → Nat} {ls : List Wt} (h : LentWr w g k G ls) (hb : Below w.heap.size w w') : LentWr w' g k G ls :=
  ⟨fun i hi => rngW_grow (h.pair i hi) hb, fun i hi => (h.row i hi).of_block (hb.block _ (h.row i hi).lt)⟩
def lwL (ls : List Wt) (G : Nat → Nat) : List Wt := (List.range ls.length).map (lwW ls G)
theorem lwL_len (ls : List Wt) (G : Nat → Nat) : (lwL ls G).length = ls.length := by simp [lwL]
theorem lwL_get (ls : List Wt) (G : Nat → Nat) (i : Nat) (h : i < ls.length) : (lwL ls G)[i]! = lwW ls G i := by
  rw [getElem!_pos _ i (by rw [lwL_len]; exact h)]
  simp [lwL]
theorem lwL_nrm (ls : List Wt) (G : Nat → Nat) : (lwL ls G).map nrm = ls.map nrm := by
  apply List.ext_getElem (by simp [lwL])
  intro i h1 h2
  simp [lwL] at h1
  simp [lwL, lwW, nrm, h1]
theorem LentWr.wrAt {w : World} {g : Nat} {G : Nat → Nat} {ls : List Wt} (h : LentWr w g ls.length G ls) (hok : ∀ x ∈ ls, WtOk x) : WrAt w (.slice (some ⟨g, 0, none⟩) ls.length (ls.length + 2)) (lwL ls G) := by
  have hx : ∀ x ∈ lwL ls G, WtOk x ∧ Reads w x.v x.b := fun x hx => by
    unfold lwL at hx
    obtain ⟨i, hi, rfl⟩ := List.mem_map.1 hx
    have hi := List.mem_range.1 hi
    have ok : WtOk ls[i]! := by rw [getElem!_pos ls i hi]; exact hok _ (List.getElem_mem hi)
    exact ⟨⟨ok.hk, ok.hb, _, _, rfl⟩, lent_reads (h.row i hi) ok.hb⟩
  refine ⟨_, _, by rw [lwL_len], by rw [lwL_len]; omega, fun e => (by cases e), fun _ => ⟨g, 0, rfl, fun i hi => ?_⟩, fun x hm => (hx x hm).1, fun x hm => (hx x hm).2⟩
  rw [lwL_len] at hi
  rw [Nat.zero_add, lwL_get ls G i hi]
  exact h.pair i hi

/-- make([]api.Write, n, n + 2). -/
theorem wpList_mkw {ops : Array Oper} {rest : List Oper} {o : Oper} {a : Act} {Q : Exit → Act → World → Prop} (w : World) (hgd : o.guard = none) (x y : Operand)
    (hop : o.op = Op.makeSlice 23 x y) (n : Nat) (hx : a.eval x = .int .i64 n) (hy : a.eval y = .int .i64 ((n : Int) + 2)) (hn : n ≤ 65536)
    (h : ∀ w' g, w.heap.size ≤ g → g < w'.heap.size → (∀ i, i < n + 2 → w'.there g (i * 34) 34) → Below w.heap.size w w' → wpList Try.prog ops Q rest (a.put o.dst (.slice (some ⟨g, 0, none⟩) n (n + 2))) w') :
    wpList Try.prog ops Q (o :: rest) a w := by
  refine wpList_plain hgd fun K hK => ?_
  obtain ⟨i, z, hi, hz, hs, hby⟩ : ∃ i z, Try.prog.info? 37 = some i ∧ i.zero = some z ∧ i.size = 34 ∧ i.bytes = 64 := ⟨_, _, rfl, rfl, rfl, rfl⟩
  have hr := run_make (P := Try.prog) w 23 37 i z Try.underlying23 hi hz .i64 .i64 n ((n : Int) + 2) (by omega) (by omega) (by rw [hby]; omega) (by omega)
  rw [hs] at hr
  have e1 : ((n : Int) + 2).toNat = n + 2 := by omega
  simp only [Int.toNat_natCast, e1] at hr
  have hB : Blk (w.alloc (.cells (madeCells z.cells ((n + 2) * 34)) 37)) w.heap.size 37 _ := Blk.new w _ _
  unfold Oper.wp
  simp [execOp, hop, hx, hy, hr, Result.andThen]
  exact hK _ _ (h _ w.heap.size (Nat.le_refl _) (by simp) (fun j hj => hB.there _ _ (by rw [size_madeCells]; omega)) (grow_alloc w _))

def LentWPost (ls : List Wt) (w : World) (e : Ending) (w' : World) : Prop := ∃ g G, e = .returned (.slice (some ⟨g, 0, none⟩) ls.length (ls.length + 2)) ∧ w.heap.size ≤ g ∧ (∀ i, i < ls.length → w.heap.size ≤ G i) ∧ (∀ i j, i < ls.length → j < ls.length → i ≠ j → G i ≠ G j) ∧ LentWr w' g ls.length G ls ∧ Below w.heap.size w w'

set_option maxRecDepth 100000 in
set_option maxHeartbeats 8000000 in
theorem lentWrites_any (v : Value) (ls : List Wt) (w : World) (h : WrAt w v ls) (hn : ls.length ≤ 65536) (hl : ∀ x ∈ ls, x.b.length ≤ 140737488355328 - 4096) :
    Calls Try.prog 5 #[v] w (LentWPost ls w) := by
  have HWR := hidden h
  obtain ⟨a, cap, rfl, hcap, hnone, hc, hok, hrd⟩ := id h
  have HC := hidden hc
  have HLE := hidden hl
  obtain ⟨n, hnn⟩ : ∃ n, n = ls.length := ⟨_, rfl⟩
  have HN := hidden hnn
  have HPost : Hid (∀ w' g G, w.heap.size ≤ g → (∀ i, i < n → w.heap.size ≤ G i) → (∀ i j, i < n → j < n → i ≠ j → G i ≠ G j) → LentWr w' g n G ls → Below w.heap.size w w' → LentWPost ls w (.returned (.slice (some ⟨g, 0, none⟩) n (n + 2))) w') := fun w' g G h1 h2 h4 h5 h3 => ⟨g, G, by rw [hnn], h1, by rw [← hnn]; exact h2, by rw [← hnn]; exact h4, by rw [← hnn]; exact h5, h3⟩
  rw [← hnn] at hn ⊢
  have hw2 : IntKind.i64.wrap ((n : Int) + 2) = (n : Int) + 2 := by rw [IntKind.wrap_i64]; omega
  have HN6 := hidden hn
  clear hc hcap hnn hl h hok hrd hnone hn
  go_enter Try.func5, Try.ntmps5
  go_wp2_with (first
    | (refine wpList_mkw _ rfl _ _ rfl n rfl rfl HN6.out ?_; intro w1 g hg hgl hz b1))
  have HG := hidden hg
  have HT0 : Hid (∀ i, i < n → w1.there g (i * 34) 34) := fun i hi => hz i (by omega)
  have HGL := hidden hgl
  have HL0 : Hid (LentWr w1 g 0 (fun _ => 0) ls) := ⟨fun i hi => by omega, fun i hi => by omega⟩
  clear hz hg hgl hw2
  go_loopw [4] (fun i wr => ∃ (k : Nat) (G : Nat → Nat), k ≤ n ∧ i = .int .i64 k ∧ Hid (LentWr wr g k G ls) ∧ Hid (∀ i, i < n → wr.there g (i * 34) 34) ∧ Hid (g < wr.heap.size) ∧ Hid (∀ i, i < k → G i ≠ g ∧ w.heap.size ≤ G i ∧ G i < wr.heap.size) ∧ Hid (∀ i j, i < k → j < k → i ≠ j → G i ≠ G j) ∧ Below w.heap.size w wr) (fun i _ => n - (intOf i).toNat)
  case atStart => exact ⟨0, _, by omega, rfl, HL0, HT0, HGL, fun i hi => by omega, fun i j hi => by omega, b1⟩
  case round =>
    obtain ⟨k, G, hk, rfl, hlp, hth, hgl, hne, hap, hbw⟩ := hrel
    by_cases hlt : k < n
    · as_aux_lemma =>
        have hlt' : k < ls.length := by rw [← HN.out]; exact hlt
        obtain ⟨ga, off, rfl, hcc⟩ := HC.out (by omega)
        have z1 : (k : Int) < (n : Int) := by omega
        have z0 : (0 : Int) ≤ (k : Int) := by omega
        obtain ⟨X, hX⟩ : ∃ X, X = ls[k]! := ⟨_, rfl⟩
        have hXm : X ∈ ls := by rw [hX, getElem!_pos ls k hlt']; exact List.getElem_mem hlt'
        have hXo := HWR.out.ok X hXm
        have hXr := HWR.out.reads X hXm
        have hXl := HLE.out X hXm
        obtain ⟨xa, xc, hxv⟩ := hXo.hv
        obtain ⟨xl, hxl⟩ : ∃ xl, xl = X.b.length := ⟨_, rfl⟩
        rw [← hxl] at hxv
        obtain ⟨xg, hxg⟩ : ∃ xg, xg = X.g := ⟨_, rfl⟩
        have HXE : Hid (X.v = .slice xa xl xc ∧ xg = X.g ∧ xl = X.b.length) := ⟨hxv, hxg, hxl⟩
        have HLT : Hid (∀ w', Below w.heap.size w w' → Calls Try.prog 17 #[.slice xa xl xc] w' fun e w'' => ∃ q, e = .returned (.slice (some ⟨q, 0, none⟩) xl (xl + 5)) ∧ w'.heap.size ≤ q ∧ Row w'' q (X.b ++ marks xl) ∧ Below w'.heap.size w' w'') := fun w' hb => by
          rw [← hxv, hxl]
          exact (lent_any X.v _ w' (hXr.grow hb) (by omega)).mono fun _ _ ⟨h1, h2, h3, _⟩ => ⟨_, h1, Nat.le_refl _, h2, h3⟩
        have HS : Hid (∀ w', Below w.heap.size w w' → w'.rangeAt ga (off + k * 34) (encW X)) := fun w' hw' => by rw [hX]; exact rngW_grow (hcc k hlt') hw'
        have HKL := hidden hXo.hk.1
        have HXO := hidden hXo
        have HXK := hidden hX
        have HLK : Hid ((Try.prog.info? 34).map (·.size) = some (B X.k).toList.length) := by show _ = _; rw [B_toList, List.length_map, HKL.out]; exact sz_path0
        have HBP : Hid (∀ q, Try.prog.built 37 [(0, .agg (B X.k)), (1, .bool xg), (2, .slice (some ⟨q, 0, none⟩) xl (xl + 5))] = some (encW ⟨X.k, xg, X.b, .slice (some ⟨q, 0, none⟩) xl (xl + 5)⟩).toArray) := fun q => built_wkgv X.k X.b xg _ _ _ HKL.out
        obtain ⟨j, hj⟩ : ∃ j, j = k + 1 := ⟨_, rfl⟩
        have HJ := hidden hj
        have hwi := w64_succ (k := k) (by have := HN6.out; omega) hj
        clear hcc hX hXm hXo hXr hXl hxv hxl hxg hlt' hj
        go_wp2_with fail
        have d0 : Below w.heap.size w wr.drew := grow_trans hbw (Below.refl _ _).drew
        refine wp_region_held_drew (S := fun w' => w'.rangeAt ga (off + k * 34) (encW X)) (by kernel_rfl) (HS.out _ d0) (fun hHeld => ?_)
        refine wpAnyH_take (i := 0) (v := .slice (some ⟨g, 0, none⟩) n (n + 2)) rfl (by kernel_rfl) (by kernel_rfl) (by kernel_rfl) (fun _ _ _ h => h) (Or.inl ⟨by rfl, fun w hS => by go_simp⟩) hHeld ?_
        simp only [Act.put, List.getElem_toArray, List.getElem_cons_zero, List.setIfInBounds_toArray, List.set_cons_zero, List.set_cons_succ]
        refine wpAnyH_take (i := 1) (v := .int .i64 (k : Int)) rfl (by kernel_rfl) (by kernel_rfl) (by kernel_rfl) (fun _ _ _ h => h) (Or.inl ⟨by rfl, fun w hS => by go_simp⟩) hHeld ?_
        simp only [Act.put, List.getElem_toArray, List.getElem_cons_zero, List.getElem_cons_succ, List.setIfInBounds_toArray, List.set_cons_zero, List.set_cons_succ]
        refine wpAnyH_take (i := 2) (v := .slice (some ⟨ga, off, none⟩) n cap) rfl (by kernel_rfl) (by kernel_rfl) (by kernel_rfl) (fun _ _ _ h => h) (Or.inl ⟨by rfl, fun w hS => by go_simp⟩) hHeld ?_
        simp only [Act.put, List.getElem_toArray, List.getElem_cons_zero, List.getElem_cons_succ, List.setIfInBounds_toArray, List.set_cons_zero, List.set_cons_succ]
        refine wpAnyH_take (i := 3) (v := .int .i64 (k : Int)) rfl (by kernel_rfl) (by kernel_rfl) (by kernel_rfl) (fun _ _ _ h => h) (Or.inl ⟨by rfl, fun w hS => by go_simp⟩) hHeld ?_
        simp only [Act.put, List.getElem_toArray, List.getElem_cons_zero, List.getElem_cons_succ, List.setIfInBounds_toArray, List.set_cons_zero, List.set_cons_succ]
        refine wpAnyH_take (i := 4) (v := .pointer (some ⟨ga, off + k * 34, none⟩)) rfl (by kernel_rfl) (by kernel_rfl) (by kernel_rfl) (fun _ _ _ h => h) (Or.inl ⟨by rfl, fun w hS => by go_simp⟩) hHeld ?_
        simp only [Act.put, List.getElem_toArray, List.getElem_cons_zero, List.getElem_cons_succ, List.setIfInBounds_toArray, List.set_cons_zero, List.set_cons_succ]
        refine wpAnyH_take (i := 5) (v := .pointer (some ⟨ga, off + k * 34, none⟩)) rfl (by kernel_rfl) (by kernel_rfl) (by kernel_rfl) (fun _ _ _ h => h) (Or.inl ⟨by rfl, fun w hS => by go_simp⟩) hHeld ?_
        simp only [Act.put, List.getElem_toArray, List.getElem_cons_zero, List.getElem_cons_succ, List.setIfInBounds_toArray, List.set_cons_zero, List.set_cons_succ]
        refine wpAnyH_take (i := 6) (v := .agg (B X.k)) rfl (by kernel_rfl) (by kernel_rfl) (by kernel_rfl) (fun _ _ _ h => h) (yieldsIf_load_mid rfl 34 (.tmp 22) rfl ga (off + k * 34) rfl (B X.k).toList _ (fun w hS => encW_key hS) Try.underlying34 rfl HLK.out) hHeld ?_
        simp only [Act.put, List.getElem_toArray, List.getElem_cons_zero, List.getElem_cons_succ, List.setIfInBounds_toArray, List.set_cons_zero, List.set_cons_succ]
        refine wpAnyH_take (i := 7) (v := .slice (some ⟨ga, off, none⟩) n cap) rfl (by kernel_rfl) (by kernel_rfl) (by kernel_rfl) (fun _ _ _ h => h) (Or.inl ⟨by rfl, fun w hS => by go_simp⟩) hHeld ?_
        simp only [Act.put, List.getElem_toArray, List.getElem_cons_zero, List.getElem_cons_succ, List.setIfInBounds_toArray, List.set_cons_zero, List.set_cons_succ]
        refine wpAnyH_take (i := 8) (v := .int .i64 (k : Int)) rfl (by kernel_rfl) (by kernel_rfl) (by kernel_rfl) (fun _ _ _ h => h) (Or.inl ⟨by rfl, fun w hS => by go_simp⟩) hHeld ?_
        simp only [Act.put, List.getElem_toArray, List.getElem_cons_zero, List.getElem_cons_succ, List.setIfInBounds_toArray, List.set_cons_zero, List.set_cons_succ]
        refine wpAnyH_take (i := 9) (v := .pointer (some ⟨ga, off + k * 34, none⟩)) rfl (by kernel_rfl) (by kernel_rfl) (by kernel_rfl) (fun _ _ _ h => h) (Or.inl ⟨by rfl, fun w hS => by go_simp⟩) hHeld ?_
        simp only [Act.put, List.getElem_toArray, List.getElem_cons_zero, List.getElem_cons_succ, List.setIfInBounds_toArray, List.set_cons_zero, List.set_cons_succ]
        refine wpAnyH_take (i := 10) (v := .pointer (some ⟨ga, off + k * 34 + 32, none⟩)) rfl (by kernel_rfl) (by kernel_rfl) (by kernel_rfl) (fun _ _ _ h => h) (Or.inl ⟨by rfl, fun w hS => by go_simp⟩) hHeld ?_
        simp only [Act.put, List.getElem_toArray, List.getElem_cons_zero, List.getElem_cons_succ, List.setIfInBounds_toArray, List.set_cons_zero, List.set_cons_succ]
        refine wpAnyH_take (i := 11) (v := .bool xg) rfl (by kernel_rfl) (by kernel_rfl) (by kernel_rfl) (fun _ _ _ h => h) (Or.inl ⟨by rfl, fun w hS => by (have q1 := encW_gone hS HKL.out; have q2 := HXE.out.2; go_simp)⟩) hHeld ?_
        simp only [Act.put, List.getElem_toArray, List.getElem_cons_zero, List.getElem_cons_succ, List.setIfInBounds_toArray, List.set_cons_zero, List.set_cons_succ]
        refine wpAnyH_take (i := 12) (v := .slice (some ⟨ga, off, none⟩) n cap) rfl (by kernel_rfl) (by kernel_rfl) (by kernel_rfl) (fun _ _ _ h => h) (Or.inl ⟨by rfl, fun w hS => by go_simp⟩) hHeld ?_
        simp only [Act.put, List.getElem_toArray, List.getElem_cons_zero, List.getElem_cons_succ, List.setIfInBounds_toArray, List.set_cons_zero, List.set_cons_succ]
        refine wpAnyH_take (i := 13) (v := .int .i64 (k : Int)) rfl (by kernel_rfl) (by kernel_rfl) (by kernel_rfl) (fun _ _ _ h => h) (Or.inl ⟨by rfl, fun w hS => by go_simp⟩) hHeld ?_
        simp only [Act.put, List.getElem_toArray, List.getElem_cons_zero, List.getElem_cons_succ, List.setIfInBounds_toArray, List.set_cons_zero, List.set_cons_succ]
        refine wpAnyH_take (i := 14) (v := .pointer (some ⟨ga, off + k * 34, none⟩)) rfl (by kernel_rfl) (by kernel_rfl) (by kernel_rfl) (fun _ _ _ h => h) (Or.inl ⟨by rfl, fun w hS => by go_simp⟩) hHeld ?_
        simp only [Act.put, List.getElem_toArray, List.getElem_cons_zero, List.getElem_cons_succ, List.setIfInBounds_toArray, List.set_cons_zero, List.set_cons_succ]
        refine wpAnyH_take (i := 15) (v := .pointer (some ⟨ga, off + k * 34 + 33, none⟩)) rfl (by kernel_rfl) (by kernel_rfl) (by kernel_rfl) (fun _ _ _ h => h) (Or.inl ⟨by rfl, fun w hS => by go_simp⟩) hHeld ?_
        simp only [Act.put, List.getElem_toArray, List.getElem_cons_zero, List.getElem_cons_succ, List.setIfInBounds_toArray, List.set_cons_zero, List.set_cons_succ]
        refine wpAnyH_take (i := 16) (v := .slice xa xl xc) rfl (by kernel_rfl) (by kernel_rfl) (by kernel_rfl) (fun _ _ _ h => h) (Or.inl ⟨by rfl, fun w hS => by (have q1 := encW_val hS HKL.out; have q2 := HXE.out.1; go_simp)⟩) hHeld ?_
        simp only [Act.put, List.getElem_toArray, List.getElem_cons_zero, List.getElem_cons_succ, List.setIfInBounds_toArray, List.set_cons_zero, List.set_cons_succ]
        refine wpAnyH_ready (rs := [17]) (by kernel_rfl) (by simp) ?_
        refine AllReadyH.cons rfl (fun KQ hK => ?_) AllReadyH.nil
        go_simp
        refine (HLT.out _ d0).mono ?_
        rintro e x1 ⟨q, rfl, hq, hrow, a1⟩
        have d1 := grow_trans d0 a1
        refine hK.out _ _ (HS.out _ d1) (fun hHeld => ?_)
        clear hK KQ
        refine wpAnyH_take (i := 18) (v := .agg (encW ⟨X.k, xg, X.b, .slice (some ⟨q, 0, none⟩) xl (xl + 5)⟩).toArray) rfl (by kernel_rfl) (by kernel_rfl) (by kernel_rfl) (fun _ _ _ h => h) (Or.inl ⟨by rfl, fun w hS => exec_bdw _ _ 37 _ (by rfl) _ (by rw [List.map_toArray]; exact HBP.out q) w⟩) hHeld ?_
        simp only [Act.put, List.getElem_toArray, List.getElem_cons_zero, List.getElem_cons_succ, List.setIfInBounds_toArray, List.set_cons_zero, List.set_cons_succ]
        refine wpAnyH_take (i := 19) (v := .pointer (some ⟨g, k * 34, none⟩)) rfl (by kernel_rfl) (by kernel_rfl) (by kernel_rfl) (fun _ _ _ h => h) (Or.inl ⟨by rfl, fun w hS => by go_simp⟩) hHeld ?_
        simp only [Act.put, List.getElem_toArray, List.getElem_cons_zero, List.getElem_cons_succ, List.setIfInBounds_toArray, List.set_cons_zero, List.set_cons_succ]
        refine wpAnyH_ready (rs := [20]) (by kernel_rfl) (by simp) ?_
        refine AllReadyH.cons rfl (fun KQ hK => ?_) AllReadyH.nil
        have hgx : Below wr.heap.size wr x1 := grow_trans (Below.refl _ _).drew a1
        have hlp1 := hlp.out.grow hgx
        have hWq : WtOk ⟨X.k, xg, X.b, .slice (some ⟨q, 0, none⟩) xl (xl + 5)⟩ := ⟨HXO.out.hk, HXO.out.hb, _, _, by rw [HXE.out.2.2]⟩
        have hlen9 := hWq.len
        refine step_stL _ rfl _ _ _ rfl g (k * 34) (encW ⟨X.k, xg, X.b, .slice (some ⟨q, 0, none⟩) xl (xl + 5)⟩).toArray rfl rfl (by rw [List.size_toArray, hlen9]; exact there_grow (hth.out k hlt) hgx) (by rw [List.size_toArray, hlen9]; exact size_write) hWq.all ?_
        have c4 : Below w.heap.size w (x1.setCells g (k * 34) (encW ⟨X.k, xg, X.b, .slice (some ⟨q, 0, none⟩) xl (xl + 5)⟩)) := setCells_below HG.out _ _ _ d1
        have hqr : wr.heap.size ≤ q := hq
        have hqg : q ≠ g := by
          have h1 := hgl.out
          intro e
          subst e
          omega
        have hths : ∀ i, i < n → (x1.setCells g (k * 34) (encW ⟨X.k, xg, X.b, .slice (some ⟨q, 0, none⟩) xl (xl + 5)⟩)).there g (i * 34) 34 := fun i hi => World.there_setCells (there_grow (hth.out i hi) hgx) _ _ _
        have hql : q < x1.heap.size := hrow.lt
        have eX : lwW ls (fun i => if i = k then q else G i) k = ⟨X.k, xg, X.b, .slice (some ⟨q, 0, none⟩) xl (xl + 5)⟩ := by simp [lwW, ← HXK.out, HXE.out.2.1, HXE.out.2.2]
        have hlp2 : LentWr (x1.setCells g (k * 34) (encW ⟨X.k, xg, X.b, .slice (some ⟨q, 0, none⟩) xl (xl + 5)⟩)) g (k + 1) (fun i => if i = k then q else G i) ls := by
          refine ⟨fun i hi => ?_, fun i hi => ?_⟩
          · by_cases e : i = k
            · subst e
              rw [eX]
              exact World.rangeAt_setCells_same _ _ _ _ (by rw [hlen9]; exact there_grow (hth.out i hlt) hgx)
            · have e2 : lwW ls (fun j => if j = k then q else G j) i = lwW ls G i := by simp [lwW, e]
              rw [e2]
              refine World.rangeAt_setCells_apart (hlp1.pair i (by omega)) _ _ _ (.inr (.inl ?_))
              have hi2 : i < ls.length := by have := HN.out; omega
              have hl2 : (encW (lwW ls G i)).length = 34 := by
                have ok : WtOk ls[i]! := by rw [getElem!_pos ls i hi2]; exact HWR.out.ok _ (List.getElem_mem hi2)
                exact (show WtOk (lwW ls G i) from ⟨ok.hk, ok.hb, _, _, rfl⟩).len
              rw [hl2]
              omega
          · by_cases e : i = k
            · subst e
              simp only [if_true]
              have hrow' : Row x1 q (ls[i]!.b ++ marks ls[i]!.b.length) := by rw [← HXK.out, ← HXE.out.2.2]; exact hrow
              exact hrow'.of_block (setCells_other hqg _ _ _)
            · simp only [if_neg e]
              exact (hlp1.row i (by omega)).of_block (setCells_other (hne.out i (by omega)).1 _ _ _)
        have hne2 : ∀ i, i < k + 1 → (fun i => if i = k then q else G i) i ≠ g ∧ w.heap.size ≤ (fun i => if i = k then q else G i) i ∧ (fun i => if i = k then q else G i) i < (x1.setCells g (k * 34) (encW ⟨X.k, xg, X.b, .slice (some ⟨q, 0, none⟩) xl (xl + 5)⟩)).heap.size := by
          intro i hi
          rw [sz_setCells]
          by_cases e : i = k
          · simp only [if_pos e]
            exact ⟨hqg, by have := hbw.size; omega, hql⟩
          · simp only [if_neg e]
            obtain ⟨h1, h2, h3⟩ := hne.out i (by omega)
            exact ⟨h1, h2, by have := hgx.size; omega⟩
        have hap2 : ∀ i j, i < k + 1 → j < k + 1 → i ≠ j → (fun i => if i = k then q else G i) i ≠ (fun i => if i = k then q else G i) j := by
          intro i j hi hj hij
          by_cases e : i = k
          · have e2 : j ≠ k := fun h => hij (by omega)
            simp only [if_pos e, if_neg e2]
            have := (hne.out j (by omega)).2.2
            omega
          · simp only [if_neg e]
            by_cases e2 : j = k
            · simp only [if_pos e2]
              have := (hne.out i (by omega)).2.2
              omega
            · simp only [if_neg e2]
              exact hap.out i j (by omega) (by omega) hij
        have HLP2 := hidden hlp2
        have HTH2 := hidden hths
        have HNE2 := hidden hne2
        have HAP2 := hidden hap2
        clear hlp2 hths hne2 hlp1 hap2 eX hWq hlen9
        generalize hxx : x1.setCells g (k * 34) (encW ⟨X.k, xg, X.b, .slice (some ⟨q, 0, none⟩) xl (xl + 5)⟩) = x2 at c4 HLP2 HTH2 HNE2 ⊢
        clear hxx
        refine hK.out _ _ (HS.out _ c4) (fun hHeld => ?_)
        clear hK KQ
        refine wpAnyH_done (by kernel_rfl) ?_ _
        have hg2 : Hid (g < x2.heap.size) := by
          obtain ⟨h1, _⟩ := HTH2.out k hlt 0 (by omega)
          obtain ⟨u, hu⟩ := Option.isSome_iff_exists.1 h1
          exact block_lt_of_cell hu
        go_wp2_with fail
        rw [hwi]
        clear hwi
        exact ⟨⟨j, (fun i => if i = k then q else G i), by have := HJ.out; omega, rfl, by rw [HJ.out]; exact HLP2, HTH2, hg2, by rw [HJ.out]; exact HNE2, by rw [HJ.out]; exact HAP2, c4⟩, by have := HJ.out; simp [intOf]; omega⟩
    · have hkn : k = n := by omega
      subst hkn
      have z1 : ¬ (k : Int) < (k : Int) := by omega
      go_wp2
      go_ret
      exact HPost.out _ _ _ HG.out (fun i hi => (hne.out i hi).2.1) hap.out hlp.out hbw

end Go.Proofs.Ytagkmfgoahbclaa
