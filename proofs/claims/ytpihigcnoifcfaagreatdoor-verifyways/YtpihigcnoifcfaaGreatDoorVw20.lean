/- Entries in memory: a slice of pairs, each a key and a value. -/
import Derived.Test.YtpihigcnoifcfaaGreatDoorVw19
import Derived.Test.YtpihigcnoifcfaaGreatDoorVw16
import Derived.Great.BuildSlice
import Derived.Laws.AppendOwn
namespace Go.Proofs.YtpihigcnoifcfaaGreatDoor
set_option maxRecDepth 20000
open Go.RowKit

def e00 : Ent := ([], [])
def encP (k : List Int) (v : Value) : List Value := k.map (Value.int .u8) ++ [v]
theorem encP_length (k : List Int) (v : Value) (h : k.length = 32) : (encP k v).length = 33 := by simp [encP, h]

/-- A slice of entries; V i is the value of the entry i. -/
def PrAt (w : World) (v : Value) (V : Nat → Value) (es : List Ent) : Prop :=
  ∃ a cap, v = .slice a es.length cap ∧ es.length ≤ cap ∧ (0 < es.length → ∃ g off, a = some ⟨g, off, none⟩ ∧ ∀ i, i < es.length → w.rangeAt g (off + i * 33) (encP (es.getD i e00).1 (V i))) ∧
    ∀ i, i < es.length → Key (es.getD i e00).1 ∧ Reads w (V i) (es.getD i e00).2

theorem rng_grow {w w' : World} {g o : Nat} {cs : List Value} (h : w.rangeAt g o cs) (hb : Below w.heap.size w w') : w'.rangeAt g o cs := fun j v hv => (hb.cell (p := ⟨g, o + j, none⟩) (block_lt_of_cell (h j v hv))).trans (h j v hv)

theorem PrAt.grow {w w' : World} {v : Value} {V : Nat → Value} {es : List Ent} (h : PrAt w v V es) (hb : Below w.heap.size w w') : PrAt w' v V es := by
  obtain ⟨a, cap, e, h1, h2, h3⟩ := h
  refine ⟨a, cap, e, h1, fun hp => ?_, fun i hi => ⟨(h3 i hi).1, (h3 i hi).2.grow hb⟩⟩
  obtain ⟨g, off, ea, hr⟩ := h2 hp
  exact ⟨g, off, ea, fun i hi => rng_grow (hr i hi) hb⟩
theorem PrAt.kp {w : World} {v : Value} {V : Nat → Value} {es : List Ent} (h : PrAt w v V es) : Kp w (fun w' => PrAt w' v V es) := fun _ q => h.grow q
theorem PrAt.keys {w : World} {v : Value} {V : Nat → Value} {es : List Ent} (h : PrAt w v V es) : ∀ e ∈ es, Key e.1 := by
  intro e he
  obtain ⟨_, _, _, _, _, h3⟩ := h
  obtain ⟨i, hi, rfl⟩ := List.mem_iff_getElem.1 he
  have := (h3 i hi).1
  simpa [List.getD, hi] using this

/-- May entries be: the ones ahead have the keys ks. -/
def lsE : List (List Int) → List Ent → Int
  | _, [] => 0
  | ks, e :: r => if 1024 < e.2.length then 4 else if e.1 ∈ ks then 6 else lsE (ks ++ [e.1]) r
def errB (es : List Ent) : Int := if 4096 < es.length then 4 else lsE [] es
theorem lsE_step (ks : List (List Int)) (es : List Ent) (k : Nat) (hk : k < es.length) : lsE ks (es.drop k) = if 1024 < (es.getD k e00).2.length then 4 else if (es.getD k e00).1 ∈ ks then 6 else lsE (ks ++ [(es.getD k e00).1]) (es.drop (k + 1)) := by
  rw [List.drop_eq_getElem_cons hk, lsE]
  simp [List.getD, hk]
theorem keys_take (es : List Ent) (k : Nat) (hk : k < es.length) : (es.take (k + 1)).map (·.1) = (es.take k).map (·.1) ++ [(es.getD k e00).1] := by
  rw [List.take_add_one, List.map_append]
  simp [List.getD, hk]

theorem lsE_ok : ∀ (ks : List (List Int)) (es : List Ent), lsE ks es = 0 → (∀ e ∈ es, e.2.length ≤ 1024) ∧ Apart1 es ∧ ∀ e ∈ es, e.1 ∉ ks
  | ks, [], _ => ⟨by simp, List.Pairwise.nil, by simp⟩
  | ks, e :: r, h => by
    rw [lsE] at h
    split at h
    · omega
    · rename_i h1
      split at h
      · omega
      · rename_i h2
        obtain ⟨a, b, c⟩ := lsE_ok _ r h
        refine ⟨fun x hx => ?_, List.pairwise_cons.2 ⟨fun x hx e1 => ?_, b⟩, fun x hx => ?_⟩
        · rcases List.mem_cons.1 hx with rfl | hx
          · omega
          · exact a x hx
        · exact c x hx (by simp [e1])
        · rcases List.mem_cons.1 hx with rfl | hx
          · exact h2
          · exact fun hm => c x hx (by simp [hm])
theorem lsE_of : ∀ (ks : List (List Int)) (es : List Ent), (∀ e ∈ es, e.2.length ≤ 1024) → Apart1 es → (∀ e ∈ es, e.1 ∉ ks) → lsE ks es = 0
  | ks, [], _, _, _ => rfl
  | ks, e :: r, h1, h2, h3 => by
    have a := h1 e (by simp)
    rw [lsE, if_neg (by omega), if_neg (h3 e (by simp))]
    refine lsE_of _ r (fun x hx => h1 x (by simp [hx])) (List.pairwise_cons.1 h2).2 (fun x hx hm => ?_)
    rcases List.mem_append.1 hm with hm | hm
    · exact h3 x (by simp [hx]) hm
    · have : x.1 = e.1 := by simpa using hm
      exact (List.pairwise_cons.1 h2).1 x hx this.symm
theorem lsE_cases : ∀ (ks : List (List Int)) (es : List Ent), lsE ks es = 0 ∨ lsE ks es = 4 ∨ lsE ks es = 6
  | _, [] => .inl rfl
  | ks, e :: r => by
    rw [lsE]
    split
    · exact .inr (.inl rfl)
    · split
      · exact .inr (.inr rfl)
      · exact lsE_cases _ r

theorem size_pair : (Tryz.prog.info? 45).map (·.size) = some 33 := by kernel_rfl

theorem u_pair : ∃ fs, Tryz.prog.underlying 45 = some (.struct fs) := ⟨_, Tryz.underlying45⟩

theorem zero_pair : ∀ w, (zeroValue 45).run Tryz.prog w = .ok (.agg (encP z32 (.slice none 0 0)).toArray) w := zero_of_info (n := 33) (by kernel_rfl) |>.1

theorem encP_one (k : List Int) (a : Option Addr) (l c : Nat) : (encP k (.slice a l c)).toArray.all (·.oneCell') = true := all_oneCell_toArray (fun v hv => by
  unfold encP at hv
  rcases List.mem_append.1 hv with hv | hv
  · obtain ⟨z, _, rfl⟩ := List.mem_map.1 hv
    rfl
  · obtain rfl : v = .slice a l c := by simpa using hv
    rfl)

/-- A pair in a block of its own: its key, its value. -/
theorem pair_key {w : World} {g : Nat} {t : TypeId} {k : List Int} {v : Value} (h : Blk w g t (encP k v).toArray) : w.rangeAt g 0 (B k).toList := by
  intro j u hu
  rw [B_toList] at hu
  have hj : j < (k.map (Value.int .u8)).length := (List.getElem?_eq_some_iff.1 hu).1
  rw [Nat.zero_add, h.cell]
  simp only [encP, List.getElem?_toArray]
  rw [List.getElem?_append_left hj]
  exact hu
theorem pair_val {w : World} {g : Nat} {t : TypeId} {k : List Int} {v : Value} (h : Blk w g t (encP k v).toArray) (hk : k.length = 32) : w.cell? ⟨g, 32, none⟩ = some v := by
  rw [h.cell]
  simp only [encP, List.getElem?_toArray]
  rw [List.getElem?_append_right (by simp [hk])]
  simp [hk]

/-- load of a pair out of a slice. -/
theorem wpList_ldp {ops : Array Oper} {rest : List Oper} {op : Oper} {a : Act} {Q : Exit → Act → World → Prop} (w : World) (hgd : op.guard = none) (x : Operand) (ho : op.op = .load 45 x)
    (g o : Nat) (k : List Int) (v : Value) (hx : a.eval x = .pointer (some ⟨g, o, none⟩)) (h : w.rangeAt g o (encP k v)) (hl : k.length = 32)
    (hk : wpList Tryz.prog ops Q rest (a.put op.dst (.agg (encP k v).toArray)) w) : wpList Tryz.prog ops Q (op :: rest) a w := by
  obtain ⟨fs, hu⟩ := u_pair
  exact wpList_load_mid hgd 45 x ho g o hx (encP k v) _ h hu rfl (by rw [encP_length k v hl]; exact size_pair) hk

/-- load of a key at the front of a block. -/
theorem wpList_ldk {ops : Array Oper} {rest : List Oper} {op : Oper} {a : Act} {Q : Exit → Act → World → Prop} (w : World) (hgd : op.guard = none) (x : Operand) (ho : op.op = .load 24 x)
    (g o : Nat) (k : List Int) (hx : a.eval x = .pointer (some ⟨g, o, none⟩)) (h : w.rangeAt g o (B k).toList) (hl : k.length = 32)
    (hk : wpList Tryz.prog ops Q rest (a.put op.dst (.agg (B k))) w) : wpList Tryz.prog ops Q (op :: rest) a w :=
  wpList_load_mid hgd 24 x ho g o hx (B k).toList _ h Tryz.underlying24 rfl (by rw [B_toList, List.length_map, hl]; exact sz_path) (by simpa using hk)

end Go.Proofs.YtpihigcnoifcfaaGreatDoor

/- Entries in lists of the call's own, appended one by one; parts of an entry in memory. -/
namespace Go.Proofs.YtpihigcnoifcfaaGreatDoor
set_option maxRecDepth 20000
open Go.RowKit

theorem rng_key {w : World} {g o : Nat} {k : List Int} {v : Value} (h : w.rangeAt g o (encP k v)) : w.rangeAt g o (B k).toList := by
  intro j u hu
  rw [B_toList] at hu
  have hj : j < (k.map (Value.int .u8)).length := (List.getElem?_eq_some_iff.1 hu).1
  refine h j u ?_
  unfold encP
  rw [List.getElem?_append_left hj]
  exact hu
theorem rng_val {w : World} {g o : Nat} {k : List Int} {v : Value} (h : w.rangeAt g o (encP k v)) (hk : k.length = 32) : w.cell? ⟨g, o + 32, none⟩ = some v := by
  refine h 32 v ?_
  unfold encP
  rw [List.getElem?_append_right (by simp [hk])]
  simp [hk]

/-- Entries with their values' slices, one behind the other. -/
def flatP (its : List (Ent × Value)) : List Value := its.flatMap fun p => encP p.1.1 p.2
theorem flatP_snoc (its : List (Ent × Value)) (p : Ent × Value) : flatP (its ++ [p]) = flatP its ++ encP p.1.1 p.2 := by simp [flatP]
theorem flatP_at : ∀ (its : List (Ent × Value)), (∀ p ∈ its, p.1.1.length = 32) → ∀ (i : Nat) (hi : i < its.length) (j : Nat) (v : Value), (encP its[i].1.1 its[i].2)[j]? = some v → (flatP its)[i * 33 + j]? = some v
  | [], _, i, hi, _, _, _ => by simp at hi
  | p :: r, hl, 0, _, j, v, h => by
    have h : (encP p.1.1 p.2)[j]? = some v := h
    have hj := (List.getElem?_eq_some_iff.1 h).1
    simp only [flatP, List.flatMap_cons, Nat.zero_mul, Nat.zero_add]
    rw [List.getElem?_append_left hj]
    exact h
  | p :: r, hl, i + 1, hi, j, v, h => by
    have ih := flatP_at r (fun q hq => hl q (by simp [hq])) i (by simpa using hi) j v (by simpa using h)
    have e1 : (encP p.1.1 p.2).length = 33 := encP_length _ _ (hl p (by simp))
    simp only [flatP, List.flatMap_cons]
    rw [List.getElem?_append_right (by omega), show (i + 1) * 33 + j - (encP p.1.1 p.2).length = i * 33 + j by omega]
    exact ih

theorem info_pair : ∃ i z, Tryz.prog.info? 45 = some i ∧ i.zero = some z ∧ i.size = 33 ∧ i.bytes = 56 ∧ z.cells.size = 33 := ⟨_, _, rfl, rfl, rfl, rfl, rfl⟩

/-- []api.Pair{x}. -/
theorem wpList_bsp {ops : Array Oper} {rest : List Oper} {op : Oper} {a : Act} {Q : Exit → Act → World → Prop} (w : World) (hgd : op.guard = none) (x : Operand) (ho : op.op = .buildSlice 22 1 #[(0, x)])
    (k : List Int) (v : Value) (hx : a.eval x = .agg (encP k v).toArray) (hl : k.length = 32)
    (hk : wpList Tryz.prog ops Q rest (a.put op.dst (.slice (some ⟨w.heap.size, 0, none⟩) 1 1)) (w.alloc (.cells (encP k v).toArray 45))) : wpList Tryz.prog ops Q (op :: rest) a w := by
  refine wpList_plain hgd fun K hK => ?_
  obtain ⟨i, z, hi, hz, hs, _, hzs⟩ := info_pair
  have hrun := run_buildSlice (P := Tryz.prog) w 22 45 1 #[(0, .agg (encP k v).toArray)] (encP k v).toArray i z Tryz.underlying22 hi hz (by rw [hs]; omega) (by rw [hs]; omega) (by
    rw [hs]
    obtain ⟨zs, hzz, hzl⟩ : ∃ zs : List Value, (Array.range (1 * 33)).map (z.cells[· % z.cells.size]!) = zs.toArray ∧ zs.length = 33 := ⟨_, (Array.toArray_toList).symm, by simp⟩
    rw [hzz]
    have := fill_one (fun i => some (i * 33, 33)) 0 0 33 (.agg (encP k v).toArray) (encP k v) zs [] rfl rfl (encP_length k v hl) (by omega)
    rw [show (#[(0, Value.agg (encP k v).toArray)] : Array (Nat × Value)).toList = [(0, Value.agg (encP k v).toArray)] from rfl, this, Instr.fill]
    simp [hzl])
  unfold Oper.wp execOp
  simp only [ho, List.map_toArray, List.map_cons, List.map_nil, hx, Sem.run_bind, hrun, Result.andThen_ok, Sem.run_pure]
  exact hK _ _ hk

/-- append of one entry. -/
theorem wpList_appP {ops : Array Oper} {rest : List Oper} {o : Oper} {a : Act} {Q : Exit → Act → World → Prop} (w : World) (hgd : o.guard = none) (s x : Operand)
    (hop : o.op = .call { callee := .builtin .append, args := #[s, x], argTypes := #[22, 22] })
    (base : Nat) (v : Value) (n : Nat) (xs : List Value) (hown : w.ownsRow base 45 33 v n xs) (hs : a.eval s = v) (g : Nat) (k : List Int) (u : Value) (hx : a.eval x = .slice (some ⟨g, 0, none⟩) 1 1)
    (hb : Blk w g 45 (encP k u).toArray) (hl : k.length = 32) (h1 : u.oneCell' = true) (hn : n ≤ 4096) (hbase : base ≤ w.heap.size)
    (h : ∀ v' w', w'.ownsRow base 45 33 v' (n + 1) (xs ++ encP k u) → w.grownBy w' v.ownBlock → wpList Tryz.prog ops Q rest (a.put o.dst v') w') :
    wpList Tryz.prog ops Q (o :: rest) a w := by
  obtain ⟨i, z, hi, hz, hsz, hby, hzs⟩ := info_pair
  refine wpList_append_own w hgd s x _ hop base _ i z 33 56 Tryz.underlying22 hi hz hsz hby hzs (by omega) v n xs hs hown ⟨g, 0, none⟩ 1 1 (encP k u) hx (by rw [encP_length k u hl]) ?_ ?_ (by simp only [maxLen]; omega) (by omega) hbase (fun v' w' h1 h2 _ => h v' w' h1 h2)
  · intro j q hq
    rw [Addr.add_lit, Nat.zero_add, hb.cell]
    simpa using hq
  · intro q hq
    unfold encP at hq
    rcases List.mem_append.1 hq with hq | hq
    · obtain ⟨z, _, rfl⟩ := List.mem_map.1 hq
      rfl
    · obtain rfl : q = u := by simpa using hq
      exact h1

theorem ownsP_below {w w' : World} {base : Nat} {v : Value} {n : Nat} {xs : List Value} (h : w.ownsRow base 45 33 v n xs) (hb : Below w.heap.size w w') : w'.ownsRow base 45 33 v n xs := by
  refine ⟨h.1, ?_⟩
  rcases h.2 with hn | ⟨g, cap, cur, rfl, hb2, hgg, rest⟩
  · exact .inl hn
  · exact .inr ⟨g, cap, cur, rfl, hb2, (hb.block g (Array.getElem?_eq_some_iff.1 hgg).1).trans hgg, rest⟩

/-- What was appended reads as entries. -/
theorem prAt_own {w : World} {base : Nat} {v : Value} {its : List (Ent × Value)} (h : w.ownsRow base 45 33 v its.length (flatP its)) (hk : ∀ p ∈ its, Key p.1.1) (hr : ∀ p ∈ its, Reads w p.2 p.1.2) :
    PrAt w v (fun i => (its.getD i (e00, undef)).2) (its.map (·.1)) := by
  have hget : ∀ i (hi : i < its.length), (its.map (·.1)).getD i e00 = its[i].1 ∧ its.getD i (e00, undef) = its[i] := fun i hi => ⟨by simp [List.getD, hi], by simp [List.getD, hi]⟩
  have hlast : ∀ i, i < (its.map (·.1)).length → Key ((its.map (·.1)).getD i e00).1 ∧ Reads w (its.getD i (e00, undef)).2 ((its.map (·.1)).getD i e00).2 := by
    intro i hi
    rw [List.length_map] at hi
    obtain ⟨e1, e2⟩ := hget i hi
    rw [e1, e2]
    exact ⟨hk _ (List.getElem_mem hi), hr _ (List.getElem_mem hi)⟩
  rcases h.2 with ⟨rfl, hn⟩ | ⟨g, cap, cur, rfl, _, hg, hcap, _, hsz, htake⟩
  · exact ⟨none, 0, by rw [List.length_map, hn], by rw [List.length_map]; omega, fun hp => by rw [List.length_map] at hp; omega, hlast⟩
  · refine ⟨_, cap, by rw [List.length_map], by rw [List.length_map]; exact hcap, fun _ => ⟨g, 0, rfl, fun i hi j u hu => ?_⟩, hlast⟩
    rw [List.length_map] at hi
    obtain ⟨e1, e2⟩ := hget i hi
    rw [e1] at hu
    simp only [e2] at hu
    have h1 := flatP_at its (fun p hp => (hk p hp).1) i hi j u hu
    rw [← htake] at h1
    have h2 : (cur.toList)[i * 33 + j]? = some u := by
      rw [List.getElem?_take] at h1
      split at h1
      · exact h1
      · cases h1
    rw [cell_of_row w g _ cur _ _ hg, Nat.zero_add]
    simpa using h2

theorem reads_one {w : World} {v : Value} {zs : List Int} (h : Reads w v zs) : v.oneCell' = true := by
  obtain ⟨a, c, rfl, _⟩ := h
  rfl

end Go.Proofs.YtpihigcnoifcfaaGreatDoor

/- The document's List of entries, as a contract. -/
namespace Go.Proofs.YtpihigcnoifcfaaGreatDoor
set_option maxRecDepth 20000
open Go.RowKit

end Go.Proofs.YtpihigcnoifcfaaGreatDoor
