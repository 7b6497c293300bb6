/- rootcellarkit.LentPairs and KeptPairs, as contracts. -/
import Derived.Test.YtjcklpdifanjlaaDoorRt22
import Derived.Test.YtjcklpdifanjlaaDoorRt25
import Derived.Test.YtjcklpdifanjlaaDoorRt13
import Derived.Test.YtjcklpdifanjlaaDoorRt19
import Derived.Test.YtjcklpdifanjlaaDoorRt07
import Derived.ChangeKeysEq
import Derived.Laws.StructEq
namespace Go.Proofs.YtjcklpdifanjlaaDoor
set_option maxRecDepth 20000
open Go.RowKit

theorem setCells_other {g k : Nat} (hne : k ≠ g) : ∀ (vs : List Value) (o : Nat) (w : World), (w.setCells g o vs).heap[k]? = w.heap[k]?
  | [], _, _ => rfl
  | v :: r, o, w => by
    rw [World.setCells, setCells_other hne r (o + 1), heap_setCell_other w ⟨g, o, none⟩ k v (fun e => hne e)]

/-- A value that was lent. -/
def lvP (es : List Ent) (G : Nat → Nat) (i : Nat) : Value := .slice (some ⟨G i, 0, none⟩) (es.getD i e00).2.length ((es.getD i e00).2.length + 5)

/-- k of the entries lent, in a row with room for two more, which are nought. -/
structure LentP (w : World) (g k : Nat) (G : Nat → Nat) (es : List Ent) : Prop where
  pair : ∀ i, i < k → w.rangeAt g (i * 33) (encP (es.getD i e00).1 (lvP es G i))
  row : ∀ i, i < k → Row w (G i) ((es.getD i e00).2 ++ marks (es.getD i e00).2.length)
  spare : ∀ j, j < 2 → w.rangeAt g ((es.length + j) * 33) (encP z32 (.slice none 0 0))

theorem LentP.grow {w w' : World} {g k : Nat} {G : Nat → Nat} {es : List Ent} (h : LentP w g k G es) (hb : Below w.heap.size w w') : LentP w' g k G es :=
  ⟨fun i hi => rng_grow (h.pair i hi) hb, fun i hi => (h.row i hi).of_block (hb.block _ (h.row i hi).lt), fun j hj => rng_grow (h.spare j hj) hb⟩
theorem LentP.kp {w : World} {g k : Nat} {G : Nat → Nat} {es : List Ent} (h : LentP w g k G es) : Kp w (fun w' => LentP w' g k G es) := fun _ q => h.grow q

theorem lent_reads {w : World} {g : Nat} {zs : List Int} (h : Row w g (zs ++ marks zs.length)) (hb : Bytes zs) : Reads w (.slice (some ⟨g, 0, none⟩) zs.length (zs.length + 5)) zs := by
  refine ⟨_, _, rfl, by omega, (fun e => by cases e), hb, fun _ => ⟨g, 0, rfl, fun i hi => ?_⟩⟩
  rw [Nat.zero_add, h.cell i (by simp; omega)]
  simp [List.getD, hi, List.getElem?_append_left hi]

theorem LentP.prAt {w : World} {g : Nat} {G : Nat → Nat} {es : List Ent} (h : LentP w g es.length G es) (hk : ∀ i, i < es.length → Key (es.getD i e00).1) (hb : ∀ i, i < es.length → Bytes (es.getD i e00).2) : PrAt w (.slice (some ⟨g, 0, none⟩) es.length (es.length + 2)) (lvP es G) es := by
  refine ⟨_, _, rfl, by omega, fun _ => ⟨g, 0, rfl, fun i hi => by rw [Nat.zero_add]; exact h.pair i hi⟩, fun i hi => ⟨hk i hi, ?_⟩⟩
  exact lent_reads (h.row i hi) (hb i hi)

def prPlaces : Nat → Option (Nat × Nat) := fun i => (#[(0, 32), (32, 1)] : Array (Nat × Nat))[i]?

theorem builtP_eq (ps : List (Nat × Value)) : Tryd.prog.built 75 ps = Instr.fill prPlaces (encP z32 (.slice none 0 0)).toArray ps := by kernel_rfl

theorem built_pair (k : List Int) (a : Option Addr) (l c : Nat) (hk : k.length = 32) : Tryd.prog.built 75 [(0, .agg (B k)), (1, .slice a l c)] = some (encP k (.slice a l c)).toArray := by
  rw [builtP_eq, fill_one prPlaces 0 0 32 _ (k.map (Value.int .u8)) _ _ rfl (cells_b k) (by simp [hk]) (by simp [encP, z32]), fill_one prPlaces 1 32 1 _ [.slice a l c] _ _ rfl rfl rfl (by simp [encP, z32, hk]), Instr.fill]
  congr 2
  simp [encP, z32, hk]

/-- make([]api.Pair, n, n + 2). -/
theorem wpList_mkp {ops : Array Oper} {rest : List Oper} {o : Oper} {a : Act} {Q : Exit → Act → World → Prop} (w : World) (hgd : o.guard = none) (x y : Operand)
    (hop : o.op = Op.makeSlice 49 x y) (n : Nat) (hx : a.eval x = .int .i64 n) (hy : a.eval y = .int .i64 ((n : Int) + 2)) (hn : (n + 2) * 56 ≤ 281474976710656)
    (h : ∀ w' g, w.heap.size ≤ g → g < w'.heap.size → (∀ i, i < n + 2 → w'.rangeAt g (i * 33) (encP z32 (.slice none 0 0)) ∧ w'.there g (i * 33) 33) → Below w.heap.size w w' → wpList Tryd.prog ops Q rest (a.put o.dst (.slice (some ⟨g, 0, none⟩) n (n + 2))) w') :
    wpList Tryd.prog ops Q (o :: rest) a w := by
  refine wpList_plain hgd fun K hK => ?_
  obtain ⟨i, z, hi, hz, hzc, hs, hby⟩ : ∃ i z, Tryd.prog.info? 75 = some i ∧ i.zero = some z ∧ z.cells = (encP z32 (.slice none 0 0)).toArray ∧ i.size = 33 ∧ i.bytes = 56 := ⟨_, _, rfl, rfl, rfl, rfl, rfl⟩
  have hr := run_make (P := Tryd.prog) w 49 75 i z Tryd.underlying49 hi hz .i64 .i64 n ((n : Int) + 2) (by omega) (by omega) (by rw [hby]; omega) (by omega)
  rw [hs, hzc] at hr
  have e1 : ((n : Int) + 2).toNat = n + 2 := by omega
  simp only [Int.toNat_natCast, e1] at hr
  have hsz := size_madeCells (encP z32 (.slice none 0 0)).toArray ((n + 2) * 33)
  have hB : Blk (w.alloc (.cells (madeCells (encP z32 (.slice none 0 0)).toArray ((n + 2) * 33)) 75)) w.heap.size 75 _ := Blk.new w _ _
  unfold Oper.wp
  simp [execOp, hop, hx, hy, hr, Result.andThen]
  refine hK _ _ (h _ w.heap.size (Nat.le_refl _) (by simp) (fun j hj => ⟨fun q v hv => ?_, hB.there _ _ (by rw [hsz]; omega)⟩) (grow_alloc w _))
  have hq : q < 33 := by have := (List.getElem?_eq_some_iff.1 hv).1; rwa [encP_length _ _ rfl] at this
  rw [hB.cell]
  have e2 : (encP z32 (.slice none 0 0)).toArray.size = 33 := by rw [List.size_toArray]; exact encP_length _ _ rfl
  unfold madeCells
  rw [Array.getElem?_map, Array.getElem?_range, if_pos (by omega), e2]
  simp only [Option.map_some]
  rw [show (j * 33 + q) % 33 = q by omega]
  rw [getElem!_pos _ q (by rw [e2]; exact hq)]
  obtain ⟨h1, h2⟩ := List.getElem?_eq_some_iff.1 hv
  rw [← h2]
  simp

def LentPost (es : List Ent) (w : World) (e : Ending) (w' : World) : Prop := ∃ g G, e = .returned (.slice (some ⟨g, 0, none⟩) es.length (es.length + 2)) ∧ w.heap.size ≤ g ∧ LentP w' g es.length G es ∧ Below w.heap.size w w'

set_option maxRecDepth 100000 in
set_option maxHeartbeats 8000000 in
theorem lentPairs_any (v : Value) (V : Nat → Value) (es : List Ent) (w : World) (hv : PrAt w v V es) (hn : es.length * 56 ≤ 140737488355328 - 4096) (hl : ∀ i, i < es.length → (es.getD i e00).2.length ≤ 140737488355328 - 4096) :
    Calls Tryd.prog 21 #[v] w (LentPost es w) := by
  obtain ⟨a, cap, rfl, hcap, hc, hr⟩ := hv
  have HC := hidden hc
  have HR := hidden hr
  have HLE := hidden hl
  obtain ⟨n, hnn⟩ : ∃ n, n = es.length := ⟨_, rfl⟩
  have HN := hidden hnn
  have HPost : Hid (∀ w' g G, w.heap.size ≤ g → LentP w' g n G es → Below w.heap.size w w' → LentPost es w (.returned (.slice (some ⟨g, 0, none⟩) n (n + 2))) w') := fun w' g G h1 h2 h3 => ⟨g, G, by rw [hnn], h1, by rw [← hnn]; exact h2, h3⟩
  rw [← hnn] at hn ⊢
  have hw2 : IntKind.i64.wrap ((n : Int) + 2) = (n : Int) + 2 := by rw [IntKind.wrap_i64]; omega
  have hn2 : (n + 2) * 56 ≤ 281474976710656 := by omega
  clear hc hr hcap hnn hl
  go_enter Tryd.func21, Tryd.ntmps21
  go_wp2_with (first
    | (refine wpList_mkp _ rfl _ _ rfl n rfl rfl hn2 ?_; intro w1 g hg hgl hz b1))
  have HG := hidden hg
  have HL0 : Hid (LentP w1 g 0 (fun _ => 0) es) := ⟨fun i hi => by omega, fun i hi => by omega, fun j hj => by rw [← HN.out]; exact (hz (n + j) (by omega)).1⟩
  have HT0 : Hid (∀ i, i < n → w1.there g (i * 33) 33) := fun i hi => (hz i (by omega)).2
  have HGL := hidden hgl
  clear hz hg hgl
  go_loopw [4] (fun i wr => ∃ (k : Nat) (G : Nat → Nat), k ≤ n ∧ i = .int .i64 k ∧ Hid (LentP wr g k G es) ∧ Hid (∀ i, i < n → wr.there g (i * 33) 33) ∧ Hid (g < wr.heap.size) ∧ Hid (∀ i, i < k → G i ≠ g) ∧ Below w.heap.size w wr) (fun i _ => n - (intOf i).toNat)
  case atStart => exact ⟨0, _, by omega, rfl, HL0, HT0, HGL, fun i hi => by omega, b1⟩
  case round =>
    obtain ⟨k, G, hk, rfl, hlp, hth, hgl, hne, hbw⟩ := hrel
    by_cases hlt : k < n
    · have hlt' : k < es.length := by rw [← HN.out]; exact hlt
      obtain ⟨ga, off, rfl, hcc⟩ := HC.out (by omega)
      have z1 : (k : Int) < (n : Int) := by omega
      have z0 : (0 : Int) ≤ (k : Int) := by omega
      obtain ⟨hkey, hrd⟩ := HR.out k hlt'
      have HLT : Hid (∀ w', Below w.heap.size w w' → Calls Tryd.prog 8 #[V k] w' fun e w'' => ∃ q, e = .returned (.slice (some ⟨q, 0, none⟩) (es.getD k e00).2.length ((es.getD k e00).2.length + 5)) ∧ w'.heap.size ≤ q ∧ Row w'' q ((es.getD k e00).2 ++ marks (es.getD k e00).2.length) ∧ Below w'.heap.size w' w'') := fun w' hb =>
        (lent_any (V k) _ w' (hrd.grow hb) (by have := HLE.out k hlt'; omega)).mono fun _ _ ⟨h1, h2, h3, _⟩ => ⟨_, h1, Nat.le_refl _, h2, h3⟩
      have HS : Hid (∀ w', Below w.heap.size w w' → w'.rangeAt ga (off + k * 33) (B (es.getD k e00).1).toList ∧ w'.cell? ⟨ga, off + k * 33 + 32, none⟩ = some (V k)) := fun w' hw' => ⟨rng_key (rng_grow (hcc k hlt') hw'), rng_val (rng_grow (hcc k hlt') hw') hkey.1⟩
      have HKY := hidden hkey
      obtain ⟨va, vc, hV, _, _, _, _⟩ := hrd
      obtain ⟨K, hK⟩ : ∃ K, K = (es.getD k e00).1 := ⟨_, rfl⟩
      obtain ⟨L, hL⟩ : ∃ L, L = (es.getD k e00).2.length := ⟨_, rfl⟩
      rw [hV] at HLT HS
      rw [← hL] at HLT HS
      rw [← hK] at HS HKY
      have HLK : Hid ((Tryd.prog.info? 24).map (·.size) = some (B K).toList.length) := by show _ = _; rw [B_toList, List.length_map, HKY.out.1]; exact sz_path
      have HBP : Hid (∀ q, Tryd.prog.built 75 [(0, .agg (B K)), (1, .slice (some ⟨q, 0, none⟩) L (L + 5))] = some (encP K (.slice (some ⟨q, 0, none⟩) L (L + 5))).toArray) := fun q => built_pair K _ _ _ HKY.out.1
      have HKE := hidden hK
      have HLL := hidden hL
      clear hcc hkey hK hL hV hlt'
      go_wp2_with fail
      have d0 : Below w.heap.size w wr.drew := grow_trans hbw (Below.refl _ _).drew
      refine wp_region_held_drew (S := fun w' => w'.rangeAt ga (off + k * 33) (B K).toList ∧ w'.cell? ⟨ga, off + k * 33 + 32, none⟩ = some (.slice va L vc)) (by kernel_rfl) (HS.out _ d0) (fun hHeld => ?_)
      refine wpAnyH_take (i := 0) (v := .slice (some ⟨g, 0, none⟩) n (n + 2)) rfl (by kernel_rfl) (by kernel_rfl) (by kernel_rfl) (fun _ _ _ h => h) (Or.inl ⟨by rfl, fun w hS => by go_simp⟩) hHeld ?_
      simp only [Act.put, List.getElem_toArray, List.getElem_cons_zero, List.setIfInBounds_toArray, List.set_cons_zero, List.set_cons_succ]
      refine wpAnyH_take (i := 1) (v := .int .i64 k) rfl (by kernel_rfl) (by kernel_rfl) (by kernel_rfl) (fun _ _ _ h => h) (Or.inl ⟨by rfl, fun w hS => by go_simp⟩) hHeld ?_
      simp only [Act.put, List.getElem_toArray, List.getElem_cons_zero, List.getElem_cons_succ, List.setIfInBounds_toArray, List.set_cons_zero, List.set_cons_succ]
      refine wpAnyH_take (i := 2) (v := .slice (some ⟨ga, off, none⟩) n cap) rfl (by kernel_rfl) (by kernel_rfl) (by kernel_rfl) (fun _ _ _ h => h) (Or.inl ⟨by rfl, fun w hS => by go_simp⟩) hHeld ?_
      simp only [Act.put, List.getElem_toArray, List.getElem_cons_zero, List.getElem_cons_succ, List.setIfInBounds_toArray, List.set_cons_zero, List.set_cons_succ]
      refine wpAnyH_take (i := 3) (v := .int .i64 k) rfl (by kernel_rfl) (by kernel_rfl) (by kernel_rfl) (fun _ _ _ h => h) (Or.inl ⟨by rfl, fun w hS => by go_simp⟩) hHeld ?_
      simp only [Act.put, List.getElem_toArray, List.getElem_cons_zero, List.getElem_cons_succ, List.setIfInBounds_toArray, List.set_cons_zero, List.set_cons_succ]
      refine wpAnyH_take (i := 4) (v := .pointer (some ⟨ga, off + k * 33, none⟩)) rfl (by kernel_rfl) (by kernel_rfl) (by kernel_rfl) (fun _ _ _ h => h) (Or.inl ⟨by rfl, fun w hS => by go_simp⟩) hHeld ?_
      simp only [Act.put, List.getElem_toArray, List.getElem_cons_zero, List.getElem_cons_succ, List.setIfInBounds_toArray, List.set_cons_zero, List.set_cons_succ]
      refine wpAnyH_take (i := 5) (v := .pointer (some ⟨ga, off + k * 33, none⟩)) rfl (by kernel_rfl) (by kernel_rfl) (by kernel_rfl) (fun _ _ _ h => h) (Or.inl ⟨by rfl, fun w hS => by go_simp⟩) hHeld ?_
      simp only [Act.put, List.getElem_toArray, List.getElem_cons_zero, List.getElem_cons_succ, List.setIfInBounds_toArray, List.set_cons_zero, List.set_cons_succ]
      refine wpAnyH_take (i := 6) (v := .agg (B K)) rfl (by kernel_rfl) (by kernel_rfl) (by kernel_rfl) (fun _ _ _ h => h) (yieldsIf_load_mid rfl 24 (.tmp 22) rfl ga (off + k * 33) rfl (B K).toList _ (fun w hS => hS.1) Tryd.underlying24 rfl HLK.out) hHeld ?_
      simp only [Act.put, List.getElem_toArray, List.getElem_cons_zero, List.getElem_cons_succ, List.setIfInBounds_toArray, List.set_cons_zero, List.set_cons_succ]
      refine wpAnyH_take (i := 7) (v := .slice (some ⟨ga, off, none⟩) n cap) rfl (by kernel_rfl) (by kernel_rfl) (by kernel_rfl) (fun _ _ _ h => h) (Or.inl ⟨by rfl, fun w hS => by go_simp⟩) hHeld ?_
      simp only [Act.put, List.getElem_toArray, List.getElem_cons_zero, List.getElem_cons_succ, List.setIfInBounds_toArray, List.set_cons_zero, List.set_cons_succ]
      refine wpAnyH_take (i := 8) (v := .int .i64 k) rfl (by kernel_rfl) (by kernel_rfl) (by kernel_rfl) (fun _ _ _ h => h) (Or.inl ⟨by rfl, fun w hS => by go_simp⟩) hHeld ?_
      simp only [Act.put, List.getElem_toArray, List.getElem_cons_zero, List.getElem_cons_succ, List.setIfInBounds_toArray, List.set_cons_zero, List.set_cons_succ]
      refine wpAnyH_take (i := 9) (v := .pointer (some ⟨ga, off + k * 33, none⟩)) rfl (by kernel_rfl) (by kernel_rfl) (by kernel_rfl) (fun _ _ _ h => h) (Or.inl ⟨by rfl, fun w hS => by go_simp⟩) hHeld ?_
      simp only [Act.put, List.getElem_toArray, List.getElem_cons_zero, List.getElem_cons_succ, List.setIfInBounds_toArray, List.set_cons_zero, List.set_cons_succ]
      refine wpAnyH_take (i := 10) (v := .pointer (some ⟨ga, off + k * 33 + 32, none⟩)) rfl (by kernel_rfl) (by kernel_rfl) (by kernel_rfl) (fun _ _ _ h => h) (Or.inl ⟨by rfl, fun w hS => by go_simp⟩) hHeld ?_
      simp only [Act.put, List.getElem_toArray, List.getElem_cons_zero, List.getElem_cons_succ, List.setIfInBounds_toArray, List.set_cons_zero, List.set_cons_succ]
      refine wpAnyH_take (i := 11) (v := .slice va L vc) rfl (by kernel_rfl) (by kernel_rfl) (by kernel_rfl) (fun _ _ _ h => h) (Or.inl ⟨by rfl, fun w hS => by (have s1 := hS.2; go_simp)⟩) hHeld ?_
      simp only [Act.put, List.getElem_toArray, List.getElem_cons_zero, List.getElem_cons_succ, List.setIfInBounds_toArray, List.set_cons_zero, List.set_cons_succ]
      refine wpAnyH_ready (rs := [12]) (by kernel_rfl) (by simp) ?_
      refine AllReadyH.cons rfl (fun KQ hK => ?_) AllReadyH.nil
      go_simp
      refine (HLT.out _ d0).mono ?_
      rintro e x1 ⟨q, rfl, hq, hrow, a1⟩
      have d1 := grow_trans d0 a1
      refine hK.out _ _ (HS.out _ d1) (fun hHeld => ?_)
      clear hK KQ
      refine wpAnyH_take (i := 13) (v := .agg (encP K (.slice (some ⟨q, 0, none⟩) L (L + 5))).toArray) rfl (by kernel_rfl) (by kernel_rfl) (by kernel_rfl) (fun _ _ _ h => h) (Or.inl ⟨by rfl, fun w hS => exec_bd _ _ 75 _ (by rfl) _ (by rw [List.map_toArray]; exact HBP.out q) w⟩) hHeld ?_
      simp only [Act.put, List.getElem_toArray, List.getElem_cons_zero, List.getElem_cons_succ, List.setIfInBounds_toArray, List.set_cons_zero, List.set_cons_succ]
      refine wpAnyH_take (i := 14) (v := .pointer (some ⟨g, k * 33, none⟩)) rfl (by kernel_rfl) (by kernel_rfl) (by kernel_rfl) (fun _ _ _ h => h) (Or.inl ⟨by rfl, fun w hS => by go_simp⟩) hHeld ?_
      simp only [Act.put, List.getElem_toArray, List.getElem_cons_zero, List.getElem_cons_succ, List.setIfInBounds_toArray, List.set_cons_zero, List.set_cons_succ]
      refine wpAnyH_ready (rs := [15]) (by kernel_rfl) (by simp) ?_
      refine AllReadyH.cons rfl (fun KQ hK => ?_) AllReadyH.nil
      have hgx : Below wr.heap.size wr x1 := grow_trans (Below.refl _ _).drew a1
      have hlp1 := hlp.out.grow hgx
      have hsz9 : (encP K (.slice (some ⟨q, 0, none⟩) L (L + 5))).toArray.size = 33 := by rw [List.size_toArray]; exact encP_length _ _ HKY.out.1
      refine step_stL _ rfl _ _ _ rfl g (k * 33) (encP K (.slice (some ⟨q, 0, none⟩) L (L + 5))).toArray rfl rfl (by rw [hsz9]; exact there_grow (hth.out k hlt) hgx) (by rw [hsz9]; exact size_pair) (encP_one _ _ _ _) ?_
      have c4 : Below w.heap.size w (x1.setCells g (k * 33) (encP K (.slice (some ⟨q, 0, none⟩) L (L + 5)))) := setCells_below HG.out _ _ _ d1
      have hqg : q ≠ g := by
        have h1 := hgl.out
        have h2 : wr.drew.heap.size = wr.heap.size := rfl
        intro e
        subst e
        omega
      have hths : ∀ i, i < n → (x1.setCells g (k * 33) (encP K (.slice (some ⟨q, 0, none⟩) L (L + 5)))).there g (i * 33) 33 := fun i hi => World.there_setCells (there_grow (hth.out i hi) hgx) _ _ _
      have hlen9 : (encP K (.slice (some ⟨q, 0, none⟩) L (L + 5))).length = 33 := encP_length _ _ HKY.out.1
      have hlp2 : LentP (x1.setCells g (k * 33) (encP K (.slice (some ⟨q, 0, none⟩) L (L + 5)))) g (k + 1) (fun i => if i = k then q else G i) es := by
        refine ⟨fun i hi => ?_, fun i hi => ?_, fun j hj => ?_⟩
        · by_cases e : i = k
          · subst e
            have e2 : lvP es (fun j => if j = i then q else G j) i = .slice (some ⟨q, 0, none⟩) L (L + 5) := by simp [lvP, HLL.out]
            rw [e2, ← HKE.out]
            exact World.rangeAt_setCells_same _ _ _ _ (by rw [hlen9]; exact there_grow (hth.out i hlt) hgx)
          · have e2 : lvP es (fun j => if j = k then q else G j) i = lvP es G i := by simp [lvP, e]
            rw [e2]
            refine World.rangeAt_setCells_apart (hlp1.pair i (by omega)) _ _ _ (.inr (.inl ?_))
            rw [encP_length _ _ (HR.out i (by rw [← HN.out]; omega)).1.1]
            omega
        · by_cases e : i = k
          · subst e
            simp only [if_true]
            have hrow' : Row x1 q ((es.getD i e00).2 ++ marks (es.getD i e00).2.length) := by rw [← HLL.out]; exact hrow
            exact hrow'.of_block (setCells_other hqg _ _ _)
          · simp only [if_neg e]
            exact (hlp1.row i (by omega)).of_block (setCells_other (hne.out i (by omega)) _ _ _)
        · refine World.rangeAt_setCells_apart (hlp1.spare j hj) _ _ _ (.inr (.inr ?_))
          rw [hlen9]
          have := HN.out
          omega
      have hne2 : ∀ i, i < k + 1 → (fun i => if i = k then q else G i) i ≠ g := by
        intro i hi
        by_cases e : i = k
        · simp only [if_pos e]
          exact hqg
        · simp only [if_neg e]
          exact hne.out i (by omega)
      have HLP2 := hidden hlp2
      have HTH2 := hidden hths
      have HNE2 := hidden hne2
      clear hlp2 hths hne2 hlp1
      generalize hxx : x1.setCells g (k * 33) (encP K (.slice (some ⟨q, 0, none⟩) L (L + 5))) = x2 at c4 HLP2 HTH2 ⊢
      clear hxx
      refine hK.out _ _ (HS.out _ c4) (fun hHeld => ?_)
      clear hK KQ
      refine wpAnyH_done (by kernel_rfl) ?_ _
      have hg2 : Hid (g < x2.heap.size) := by
        obtain ⟨h1, _⟩ := HTH2.out k hlt 0 (by omega)
        obtain ⟨u, hu⟩ := Option.isSome_iff_exists.1 h1
        exact block_lt_of_cell hu
      go_wp2_with fail
      exact ⟨⟨k + 1, _, by omega, by go_num, HLP2, HTH2, hg2, HNE2, c4⟩, by simp [intOf]; omega⟩
    · have hkn : k = n := by omega
      subst hkn
      have z1 : ¬ (k : Int) < (k : Int) := by omega
      go_wp2
      go_ret
      exact HPost.out _ _ _ HG.out hlp.out hbw

end Go.Proofs.YtjcklpdifanjlaaDoor

/- That an array is like itself; what calls of a State that is none tell. -/
namespace Go.Proofs.YtjcklpdifanjlaaDoor
set_option maxRecDepth 20000
open Go.RowKit

theorem cellsOf_word : Tryd.prog.cellsOf 114 = 1 := by kernel_rfl

theorem items_same {e : TypeId} {k : IntKind} (he : Tryd.prog.underlying e = some (.int k)) (hagg : ∀ w, (isAgg e).run Tryd.prog w = .ok false w) (d : Nat) (zs : List Int) (xs : Array Value) (hx : ∀ i, i < zs.length → xs[i]? = some (.int k (zs.getD i 0))) (w : World) :
    ∀ is : List Nat, (∀ i ∈ is, i < zs.length) → (Op.eqItems (d + 1) e 1 xs xs is).run Tryd.prog w = .ok true w
  | [], _ => by simp [Op.eqItems]
  | i :: is, h => by
    have h1 := hx i (h i (by simp))
    have hp : (part e xs (i * 1)).run Tryd.prog w = .ok (.int k (zs.getD i 0)) w := by
      rw [Nat.mul_one]
      unfold part
      rw [Sem.run_bind, hagg w]
      simp only [Result.andThen_ok, Bool.false_eq_true, if_false, h1, Sem.run_pure]
    have he2 := run_equalIn_int (P := Tryd.prog) (w := w) d e k k (zs.getD i 0) (zs.getD i 0) he
    have ih := items_same he hagg d zs xs hx w is (fun j hj => h j (by simp [hj]))
    simp only [Op.eqItems, Sem.run_bind, hp, Result.andThen_ok, he2, beq_self_eq_true, Bool.not_true, Bool.false_eq_true, if_false, ih]

theorem hash_same (zs : List Int) (hl : zs.length = 32) (w : World) : (Op.equalIn 10000 25 (.agg (B zs)) (.agg (B zs))).run Tryd.prog w = .ok true w := by
  obtain ⟨i, hi⟩ : ∃ i, Tryd.prog.info? 5 = some i := ⟨_, rfl⟩
  rw [show (10000 : Nat) = 9998 + 1 + 1 from rfl, run_equalIn_array (P := Tryd.prog) w (9998 + 1) (B zs) (B zs) Tryd.underlying25 hi, cellsOf_byte]
  exact items_same u_byte Tryd.isAgg5 9998 zs (B zs) (fun i hi => B_get zs i hi) w _ (fun i hi => by rw [hl]; simpa using hi)

theorem words_same (zs : List Int) (hl : zs.length = 8) (w : World) : (Op.equalIn 10000 115 (.agg (U zs)) (.agg (U zs))).run Tryd.prog w = .ok true w := by
  obtain ⟨i, hi⟩ : ∃ i, Tryd.prog.info? 114 = some i := ⟨_, rfl⟩
  rw [show (10000 : Nat) = 9998 + 1 + 1 from rfl, run_equalIn_array (P := Tryd.prog) w (9998 + 1) (U zs) (U zs) Tryd.underlying115 hi, cellsOf_word]
  exact items_same Tryd.underlying114 Tryd.isAgg114 9998 zs (U zs) (fun i hi => U_get zs i hi) w _ (fun i hi => by rw [hl]; simpa using hi)

/-- What good tells of a State that is none. -/
def NoState (r : Value) (w : World) : Prop := Calls Tryd.prog 84 #[r] w fun e w' => e = .returned (.bool false) ∧ w' = w

set_option maxHeartbeats 400000 in
theorem write_none (r v : Value) (w : World) (h : NoState r w) : Calls Tryd.prog 65 #[r, v] w fun e w' => e = .returned (.int .i64 0) ∧ w' = w := by
  have H := hidden h
  clear h
  go_enter Tryd.func65, Tryd.ntmps65
  go_wp2_with (go_at_call 84; refine H.out.mono ?_; rintro e w' ⟨rfl, rfl⟩)
  go_ret
  exact ⟨rfl, rfl⟩

set_option maxHeartbeats 400000 in
theorem sum_none (r : Value) (w : World) (h : ∀ w', Below w.heap.size w w' → NoState r w') : Calls Tryd.prog 66 #[r] w fun e w' => e = .returned (.agg (B (List.replicate 32 0))) ∧ Below w.heap.size w w' := by
  have H := hidden h
  clear h
  go_enter Tryd.func66, Tryd.ntmps66
  go_wp2_with (first | (refine wpList_al _ rfl _ rfl _ zero_hash ?_; intro w1 g1 hg1 hl1 B1 b1) | (go_at_call 84; refine (H.out _ b1).mono ?_; rintro e w' ⟨rfl, hw'⟩; rw [hw']; clear hw') | (refine wpList_bld _ rfl _ _ rfl (B (List.replicate 32 0)) (by kernel_rfl) ?_) | (refine wpList_sto _ rfl _ _ _ rfl g1 _ _ rfl rfl B1 (by rw [B_size]; exact size_hash) rfl (B_one _) ?_; intro w2 B2 g2))
  exact bodyPost_ret (v := .agg (B (List.replicate 32 0))) (results_cell_row rfl _ _ g1 _ _ _ _ rfl B2 Tryd.underlying25 rfl (by rw [B_size]; exact size_hash)) rfl ⟨rfl, below_row b1 g2 hg1⟩

end Go.Proofs.YtjcklpdifanjlaaDoor
