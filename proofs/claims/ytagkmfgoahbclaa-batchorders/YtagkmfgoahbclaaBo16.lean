/- Entries in memory: a slice of pairs, each a key and a value. -/
import Derived.Test.YtagkmfgoahbclaaBo13
import Derived.Test.YtagkmfgoahbclaaBo15
import Derived.Test.YtagkmfgoahbclaaBo07
import Derived.Test.YtagkmfgoahbclaaBo08
namespace Go.Proofs.Ytagkmfgoahbclaa
set_option maxRecDepth 20000
open Go.RowKit

def e00 : Ent := ([], [])
def encP (k : List Int) (v : Value) : List Value := k.map (Value.int .u8) ++ [v]
theorem encP_length (k : List Int) (v : Value) (h : k.length = 32) : (encP k v).length = 33 := by simp [encP, h]

/-- A slice of entries; V i is the value of the entry i. -/
def PrAt (w : World) (v : Value) (V : Nat → Value) (es : List Ent) : Prop :=
  ∃ a cap, v = .slice a es.length cap ∧ es.length ≤ cap ∧ (0 < es.length → ∃ g off, a = some ⟨g, off, none⟩ ∧ ∀ i, i < es.length → w.rangeAt g (off + i * 33) (encP (es.getD i e00).1 (V i))) ∧
    ∀ i, i < es.length → Key (es.getD i e00).1 ∧ Reads w (V i) (es.getD i e00).2

theorem rng_grow {w w' : World} {g o : Nat} {cs : List Value} (h : w.rangeAt g o cs) (hb : Below w.heap.size w w') : w'.rangeAt g o cs := fun j v hv => (hb.cell (p := ⟨g, o + j, none⟩) (block_lt_of_cell (h j v hv))).trans (h j v hv)

theorem PrAt.grow {w w' : World} {v : Value} {V : Nat → Value} {es : List Ent} (h : PrAt w v V es) (hb : Below w.heap.size w w') : PrAt w' v V es := by
  obtain ⟨a, cap, e, h1, h2, h3⟩ := h
  refine ⟨a, cap, e, h1, fun hp => ?_, fun i hi => ⟨(h3 i hi).1, (h3 i hi).2.grow hb⟩⟩
  obtain ⟨g, off, ea, hr⟩ := h2 hp
  exact ⟨g, off, ea, fun i hi => rng_grow (hr i hi) hb⟩
theorem PrAt.kp {w : World} {v : Value} {V : Nat → Value} {es : List Ent} (h : PrAt w v V es) : Kp w (fun w' => PrAt w' v V es) := fun _ q => h.grow q
theorem PrAt.keys {w : World} {v : Value} {V : Nat → Value} {es : List Ent} (h : PrAt w v V es) : ∀ e ∈ es, Key e.1 := by
  intro e he
  obtain ⟨_, _, _, _, _, h3⟩ := h
  obtain ⟨i, hi, rfl⟩ := List.mem_iff_getElem.1 he
  have := (h3 i hi).1
  simpa [List.getD, hi] using this

/-- May entries be: the ones ahead have the keys ks. -/
def lsE : List (List Int) → List Ent → Int
  | _, [] => 0
  | ks, e :: r => if 1024 < e.2.length then 4 else if e.1 ∈ ks then 6 else lsE (ks ++ [e.1]) r
def errB (es : List Ent) : Int := if 4096 < es.length then 4 else lsE [] es
theorem lsE_step (ks : List (List Int)) (es : List Ent) (k : Nat) (hk : k < es.length) : lsE ks (es.drop k) = if 1024 < (es.getD k e00).2.length then 4 else if (es.getD k e00).1 ∈ ks then 6 else lsE (ks ++ [(es.getD k e00).1]) (es.drop (k + 1)) := by
  rw [List.drop_eq_getElem_cons hk, lsE]
  simp [List.getD, hk]
theorem keys_take (es : List Ent) (k : Nat) (hk : k < es.length) : (es.take (k + 1)).map (·.1) = (es.take k).map (·.1) ++ [(es.getD k e00).1] := by
  rw [List.take_add_one, List.map_append]
  simp [List.getD, hk]

theorem lsE_ok : ∀ (ks : List (List Int)) (es : List Ent), lsE ks es = 0 → (∀ e ∈ es, e.2.length ≤ 1024) ∧ Apart1 es ∧ ∀ e ∈ es, e.1 ∉ ks
  | ks, [], _ => ⟨by simp, List.Pairwise.nil, by simp⟩
  | ks, e :: r, h => by
    rw [lsE] at h
    split at h
    · omega
    · rename_i h1
      split at h
      · omega
      · rename_i h2
        obtain ⟨a, b, c⟩ := lsE_ok _ r h
        refine ⟨fun x hx => ?_, List.pairwise_cons.2 ⟨fun x hx e1 => ?_, b⟩, fun x hx => ?_⟩
        · rcases List.mem_cons.1 hx with rfl | hx
          · omega
          · exact a x hx
        · exact c x hx (by simp [e1])
        · rcases List.mem_cons.1 hx with rfl | hx
          · exact h2
          · exact fun hm => c x hx (by simp [hm])
theorem lsE_of : ∀ (ks : List (List Int)) (es : List Ent), (∀ e ∈ es, e.2.length ≤ 1024) → Apart1 es → (∀ e ∈ es, e.1 ∉ ks) → lsE ks es = 0
  | ks, [], _, _, _ => rfl
  | ks, e :: r, h1, h2, h3 => by
    have a := h1 e (by simp)
    rw [lsE, if_neg (by omega), if_neg (h3 e (by simp))]
    refine lsE_of _ r (fun x hx => h1 x (by simp [hx])) (List.pairwise_cons.1 h2).2 (fun x hx hm => ?_)
    rcases List.mem_append.1 hm with hm | hm
    · exact h3 x (by simp [hx]) hm
    · have : x.1 = e.1 := by simpa using hm
      exact (List.pairwise_cons.1 h2).1 x hx this.symm
theorem lsE_cases : ∀ (ks : List (List Int)) (es : List Ent), lsE ks es = 0 ∨ lsE ks es = 4 ∨ lsE ks es = 6
  | _, [] => .inl rfl
  | ks, e :: r => by
    rw [lsE]
    split
    · exact .inr (.inl rfl)
    · split
      · exact .inr (.inr rfl)
      · exact lsE_cases _ r

theorem size_pair : (Try.prog.info? 41).map (·.size) = some 33 := by kernel_rfl

theorem u_pair : ∃ fs, Try.prog.underlying 41 = some (.struct fs) := ⟨_, Try.underlying41⟩

theorem zero_pair : ∀ w, (zeroValue 41).run Try.prog w = .ok (.agg (encP z32 (.slice none 0 0)).toArray) w := zero_of_info (n := 33) (by kernel_rfl) |>.1

theorem encP_one (k : List Int) (a : Option Addr) (l c : Nat) : (encP k (.slice a l c)).toArray.all (·.oneCell') = true := all_oneCell_toArray (fun v hv => by
  unfold encP at hv
  rcases List.mem_append.1 hv with hv | hv
  · obtain ⟨z, _, rfl⟩ := List.mem_map.1 hv
    rfl
  · obtain rfl : v = .slice a l c := by simpa using hv
    rfl)

/-- A pair in a block of its own: its key, its value. -/
theorem pair_key {w : World} {g : Nat} {t : TypeId} {k : List Int} {v : Value} (h : Blk w g t (encP k v).toArray) : w.rangeAt g 0 (B k).toList := by
  intro j u hu
  rw [B_toList] at hu
  have hj : j < (k.map (Value.int .u8)).length := (List.getElem?_eq_some_iff.1 hu).1
  rw [Nat.zero_add, h.cell]
  simp only [encP, List.getElem?_toArray]
  rw [List.getElem?_append_left hj]
  exact hu
theorem pair_val {w : World} {g : Nat} {t : TypeId} {k : List Int} {v : Value} (h : Blk w g t (encP k v).toArray) (hk : k.length = 32) : w.cell? ⟨g, 32, none⟩ = some v := by
  rw [h.cell]
  simp only [encP, List.getElem?_toArray]
  rw [List.getElem?_append_right (by simp [hk])]
  simp [hk]

/-- load of a pair out of a slice. -/
theorem wpList_ldp {ops : Array Oper} {rest : List Oper} {op : Oper} {a : Act} {Q : Exit → Act → World → Prop} (w : World) (hgd : op.guard = none) (x : Operand) (ho : op.op = .load 41 x)
    (g o : Nat) (k : List Int) (v : Value) (hx : a.eval x = .pointer (some ⟨g, o, none⟩)) (h : w.rangeAt g o (encP k v)) (hl : k.length = 32)
    (hk : wpList Try.prog ops Q rest (a.put op.dst (.agg (encP k v).toArray)) w) : wpList Try.prog ops Q (op :: rest) a w := by
  obtain ⟨fs, hu⟩ := u_pair
  exact wpList_load_mid hgd 41 x ho g o hx (encP k v) _ h hu rfl (by rw [encP_length k v hl]; exact size_pair) hk

/-- load of a key at the front of a block. -/
theorem wpList_ldk {ops : Array Oper} {rest : List Oper} {op : Oper} {a : Act} {Q : Exit → Act → World → Prop} (w : World) (hgd : op.guard = none) (x : Operand) (ho : op.op = .load 34 x)
    (g o : Nat) (k : List Int) (hx : a.eval x = .pointer (some ⟨g, o, none⟩)) (h : w.rangeAt g o (B k).toList) (hl : k.length = 32)
    (hk : wpList Try.prog ops Q rest (a.put op.dst (.agg (B k))) w) : wpList Try.prog ops Q (op :: rest) a w :=
  wpList_load_mid hgd 34 x ho g o hx (B k).toList _ h Try.underlying34 rfl (by rw [B_toList, List.length_map, hl]; exact sz_path) (by simpa using hk)

end Go.Proofs.Ytagkmfgoahbclaa

/- What an argument is in memory that is a list of entries, with the reach's bound. -/
namespace Go.Proofs.Ytagkmfgoahbclaa
set_option maxRecDepth 20000
open Go.ChangeShapes Go.WideShapes Go.ChangeAt Go.RowKit

theorem weights_all {H : Type} {P : Program} {e : TypeId} {d : DataW H} {n : Nat} (hn : n ∈ d.weights P e) : ∀ l : List (DataW H), d ∈ l → n ∈ DataW.weightsAll P e l
  | [], h => by simp at h
  | x :: r, h => by
    simp only [DataW.weightsAll, List.mem_append]
    rcases List.mem_cons.1 h with rfl | h
    · exact .inl hn
    · exact .inr (weights_all hn r h)

theorem cells_pair : Try.prog.cellsOf 41 = 33 := by kernel_rfl

theorem cells_slc : Try.prog.cellsOf 35 = 1 := by kernel_rfl

theorem bytesOf_pair : Try.prog.bytesOf 41 = 56 := by kernel_rfl

/-- The cells of an entry that came in. -/
theorem trod_pair {H : Type} {enc : TypeId × Value → H} {W : World} {fuel : Nat} {cs : List Value} {x : DataW H × List MemPlace} (h : DataW.trod enc Try.prog W 0 (fun _ => true) true fuel 41 cs = some x)
    (hw : ∀ m ∈ x.1.weights Try.prog 41, m ≤ reachBytes) :
    ∃ (e : Ent) (u : Value), cs = encP e.1 u ∧ Key e.1 ∧ Reads W u e.2 ∧ e.2.length ≤ 140737488355328 - 4096 := by
  have hF : ∃ f0 f1 : Field, Try.prog.underlying 41 = some (.struct #[f0, f1]) ∧ (f0.type = 34 ∧ f0.offset = 0) ∧ (f1.type = 35 ∧ f1.offset = 32) := ⟨_, _, Try.underlying41, ⟨rfl, rfl⟩, ⟨rfl, rfl⟩⟩
  obtain ⟨f0, f1, hu, ⟨t0, o0⟩, ⟨t1, o1⟩⟩ := hF
  obtain ⟨y0, y1, n, hx, hl, e0, e1⟩ := trod_struct2 hu h
  rw [t0, o0, cells_path] at e0
  rw [t1, o1, cells_slc] at e1
  rw [cells_pair] at hl
  obtain ⟨K, lk, ek, bk⟩ := trod_u8s Try.underlying34 cells_path e0
  obtain ⟨u, hu1⟩ : ∃ u, (cs.drop 32).take 1 = [u] := by
    match hd : cs.drop 32, (show (cs.drop 32).length = 1 by simp [hl]) with
    | [u], _ => exact ⟨u, rfl⟩
  rw [hu1] at e1
  have hsz2 : (DataW.weightsEach Try.prog [34, 35] [y0.1, y1.1]).all (· ≤ reachBytes) = true := by
    rw [List.all_eq_true]
    intro m hm
    rw [decide_eq_true_iff]
    refine hw m ?_
    rw [hx]
    simp only [DataW.weights, hu]
    rw [show (#[f0, f1] : Array Field).toList.map (·.type) = [34, 35] by simp [t0, t1]]
    exact hm
  obtain ⟨zs, r1, l1⟩ := trod_sized (d := y1.1) (p := y1.2) e1 hsz2 1 rfl rfl
  refine ⟨(K, zs), u, ?_, ⟨lk, bk⟩, r1, l1⟩
  have s1 : (cs.drop 32).take 1 = cs.drop 32 := List.take_of_length_le (by simp [hl])
  have s0 : cs = cs.take 32 ++ cs.drop 32 := (List.take_append_drop 32 cs).symm
  have e2 : cs.take 32 = K.map (Value.int .u8) := by simpa using ek
  rw [s0, ← s1, hu1, e2]
  rfl

theorem arg_pairs {H : Type} {enc : TypeId × Value → H} {W : World} {base : Nat} {v : Value} {d : DataW H} {p : List MemPlace} (hv : Value.okWide Try.prog W .any base 22 v)
    (h : DataW.Trod enc Try.prog W 0 (fun _ => true) true 22 v d p) {ts : List TypeId} {ds : List (DataW H)} (hsz : (DataW.weightsEach Try.prog ts ds).all (· ≤ reachBytes) = true) (j : Nat) (ht : ts[j]? = some 22) (hd : ds[j]? = some d) :
    ∃ V es, PrAt W v V es ∧ es.length * 56 ≤ 140737488355328 - 4096 ∧ ∀ i, i < es.length → (es.getD i e00).2.length ≤ 140737488355328 - 4096 := by
  obtain ⟨a, len, cap, rfl⟩ := okWide_slice Try.underlying22 hv
  obtain ⟨fuel, hf⟩ := h
  rcases Go.Deep.open_slice Try.underlying22 hf with ⟨hcs, hx⟩ | ⟨x, l, c, m, n, D, Pl, hcs, _, hl, hm, hmm, hx, hcell⟩
  · simp [Value.cells] at hcs
    obtain ⟨rfl, rfl, rfl⟩ := hcs
    exact ⟨fun _ => undef, [], ⟨none, 0, rfl, by simp, fun h => by simp at h, fun i hi => by simp at hi⟩, by simp, fun i hi => by simp at hi⟩
  · simp [Value.cells] at hcs
    obtain ⟨rfl, rfl, rfl⟩ := hcs
    simp at hmm
    simp only [Prod.mk.injEq] at hx
    have hs := sized_slice hsz ht (by rw [hd, hx.1]) Try.underlying22
    rw [bytesOf_pair] at hs
    simp only [List.length_map, List.length_range, reachBytes] at hs
    have hwt : ∀ i, i < len → ∀ q ∈ (D i).weights Try.prog 41, q ≤ reachBytes := by
      intro i hi q hq
      have h1 := List.all_eq_true.1 hsz q (DataW.weights_mem_each ht hd q (by
        rw [hx.1]
        simp only [DataW.weights, Try.underlying22, List.mem_cons, List.mem_append]
        exact .inr (.inl (weights_all hq _ (List.mem_map.2 ⟨i, List.mem_range.2 hi, rfl⟩)))))
      simpa using h1
    have each : ∀ i, i < len → ∃ q : Ent × Value, (∀ k u, (encP q.1.1 q.2)[k]? = some u → W.cell? (x.add (i * 33 + k)) = some u) ∧ Key q.1.1 ∧ Reads W q.2 q.1.2 ∧ q.1.2.length ≤ 140737488355328 - 4096 := by
      intro i hi
      obtain ⟨cs', h1, h2⟩ := hcell i (by omega)
      rw [cells_pair] at h1
      obtain ⟨_, hlen, hc⟩ := World.cells?_some h1
      obtain ⟨e, u, rfl, hk, hr, hl2⟩ := trod_pair h2 (hwt i hi)
      refine ⟨(e, u), fun k w hw => ?_, hk, hr, hl2⟩
      have hk2 := (List.getElem?_eq_some_iff.1 hw).1
      have hk3 : k < 33 := by rw [← hlen]; exact hk2
      have h3 := hc k hk3
      rw [Go.Deep.add_add] at h3
      rw [h3]
      exact hw
    obtain ⟨q, hq⟩ := Go.Deep.choose_lt each
    have hget : ∀ i, i < len → ((List.range len).map fun i => (q i).1).getD i e00 = (q i).1 := fun i hi => by simp [List.getD, hi]
    refine ⟨fun i => (q i).2, (List.range len).map fun i => (q i).1, ⟨some x, cap, by simp, by simp; omega, fun hp => ?_, fun i hi => ?_⟩, by simp; omega, fun i hi => ?_⟩
    · simp only [List.length_map, List.length_range] at hp
      obtain ⟨b, off, spot⟩ := x
      have hspot : spot = none := by
        have hlen := encP_length (q 0).1.1 (q 0).2 (hq 0 hp).2.1.1
        have := World.cell?_spot ((hq 0 hp).1 0 _ (List.getElem?_eq_getElem (by omega)))
        simpa [Addr.add] using this
      subst hspot
      refine ⟨b, off, rfl, fun i hi k u hu => ?_⟩
      simp only [List.length_map, List.length_range] at hi
      rw [hget i hi] at hu
      have := (hq i hi).1 k u hu
      rw [Addr.add_lit] at this
      rw [Nat.add_assoc]
      exact this
    · simp only [List.length_map, List.length_range] at hi
      rw [hget i hi]
      exact ⟨(hq i hi).2.1, (hq i hi).2.2.1⟩
    · simp only [List.length_map, List.length_range] at hi
      rw [hget i hi]
      exact (hq i hi).2.2.2

end Go.Proofs.Ytagkmfgoahbclaa
