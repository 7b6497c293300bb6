/- A store that a walk keeps, in whatever blocks of the walk's own it lies, and each call of it. -/
import Derived.Test.YtbkolhhgajkjjaaGreatDoorPo23
namespace Go.Proofs.YtbkolhhgajkjjaaGreatDoor
set_option maxRecDepth 20000
open Go.RowKit
def Hw (w0 w : World) (g gs room : Nat) (cs : List (Nat × Ce)) (fr : List Nat) : Prop := (∃ vp vf, Stm w g gs vp vf room cs fr ∧ (∀ k ∈ stB g gs vp vf cs, w0.heap.size ≤ k) ∧ Below w0.heap.size w0 w) ∧ Wf cs []
theorem Zpa (K : List Int) (v : Value) (bs : List Int) (hb : Bytes bs) (hl : bs.length ≤ 1024) : LeafOk (lfC (lfD K (vaD bs)) K v bs) := ⟨rfl, rfl, rfl, rfl, rfl, rfl, hl, hb⟩
theorem Wf.kinds {cs : List (Nat × Ce)} {pend : List Nat} (w : Wf cs pend) (i : Nat) (hi : 0 < cc cs i) : (ce cs i).kind = 1 ∨ (ce cs i).kind = 2 := by
 rcases w.tr i hi with h | h
 ·exact .inl h.kind
 ·exact .inr h.kind
theorem Zpv {cs : List (Nat × Ce)} {pend : List Nat} (w : Wf cs pend) {h d : Nat} {b : Int} (m : mayP cs (h : Int)) (hf : fsP (sdC cs h) d b = true) : SideOk cs d b h := by
 rcases m.side with e | ⟨h1, h2, h3⟩
 ·exact .inl e
 ·refine .inr ⟨h1, h2, ?_⟩
  unfold sdC at hf
  rw [if_neg (by omega)] at hf
  unfold fsP at hf
  rcases w.kinds _ h2 with k | k
  ·rw [if_pos k] at hf
   exact ⟨by simpa using hf, .inl k⟩
  ·rw [if_neg (by omega), if_pos k] at hf
   simp only [Bool.and_eq_true, decide_eq_true_eq] at hf
   exact ⟨hf.2, .inr ⟨k, hf.1⟩⟩
theorem Zzz {cs : List (Nat × Ce)} {pend : List Nat} (w : Wf cs pend) {h : Nat} (m : mayP cs (h : Int)) : (sdC cs h).kind = 0 ↔ h = 0 := by
 constructor
 ·intro e
  rcases m.side with e2 | ⟨h1, h2, h3⟩
  ·exact e2
  ·unfold sdC at e
   rw [if_neg (by omega)] at e
   rcases w.kinds _ h2 with k | k <;> omega
 ·rintro rfl
  rfl
theorem Zwa {cs : List (Nat × Ce)} {pend : List Nat} (w : Wf cs pend) {d l r : Nat} {K : List Int} {u : Bool} (hd : d < 256) (ml : mayP cs (l : Int)) (mr : mayP cs (r : Int)) (hu : u = true ↔ Und (sdC cs l).key (sdC cs r).key (d : Int)) (hf : fitP d (sdC cs l) (sdC cs r) u = true) (hK : IsFill (if (sdC cs l).kind = 0 then (sdC cs r).key else (sdC cs l).key) d 0 K) : InnOk cs (inC (inD (sdD cs l) (sdD cs r)) K ((sdC cs l).sz + (sdC cs r).sz) d l r) := by
 unfold fitP at hf
 simp only [Bool.and_eq_true, Bool.or_eq_true, decide_eq_true_eq] at hf
 obtain ⟨h1, h2, h3, h4⟩ := hf
 refine ⟨rfl, hd, rfl, rfl, Zpv w ml h2, Zpv w mr h3, rfl, h1, fun hl hr => ?_, ?_, rfl⟩
 ·rcases h4 with h4 | h4 | h4
  ·exact absurd ((Zzz w ml).1 h4) hl
  ·exact absurd ((Zzz w mr).1 h4) hr
  ·exact hu.1 h4
 ·by_cases e : l = 0
  ·have := (Zzz w ml).2 e
   rw [if_pos this] at hK
   show IsFill (if l = 0 then _ else _) d 0 K
   rw [if_pos e]
   exact hK
  ·have : ¬ (sdC cs l).kind = 0 := fun q => e ((Zzz w ml).1 q)
   rw [if_neg this] at hK
   show IsFill (if l = 0 then _ else _) d 0 K
   rw [if_neg e]
   exact hK
theorem mayP.own {cs : List (Nat × Ce)} {h : Nat} (m : mayP cs (h : Int)) (h0 : h ≠ 0) : 0 < Go.Proofs.YtbkolhhgajkjjaaGreatDoor.own cs [] (h - 1) := by
 rcases m.side with e | ⟨_, _, e⟩
 ·exact absurd e h0
 ·unfold Go.Proofs.YtbkolhhgajkjjaaGreatDoor.own
  rw [List.count_nil]
  omega
def e00 : Ent := ([], [])
def encP (k : List Int) (v : Value) : List Value := k.map (Value.int .u8) ++ [v]
theorem Zab (k : List Int) (v : Value) (h : k.length = 32) : (encP k v).length = 33 := by simp [encP, h]
def PrAt (w : World) (v : Value) (V : Nat → Value) (es : List Ent) : Prop :=
 ∃ a cap, v = .slice a es.length cap ∧ es.length ≤ cap ∧ (0 < es.length → ∃ g off, a = some ⟨g, off, none⟩ ∧ ∀ i, i < es.length → w.rangeAt g (off + i * 33) (encP (es.getD i e00).1 (V i))) ∧
  ∀ i, i < es.length → Key (es.getD i e00).1 ∧ Reads w (V i) (es.getD i e00).2
theorem Zde {w w' : World} {g o : Nat} {cs : List Value} (h : w.rangeAt g o cs) (hb : Below w.heap.size w w') : w'.rangeAt g o cs := fun j v hv => (hb.cell (p := ⟨g, o + j, none⟩) (block_lt_of_cell (h j v hv))).trans (h j v hv)
theorem PrAt.grow {w w' : World} {v : Value} {V : Nat → Value} {es : List Ent} (h : PrAt w v V es) (hb : Below w.heap.size w w') : PrAt w' v V es := by
 obtain ⟨a, cap, e, h1, h2, h3⟩ := h
 refine ⟨a, cap, e, h1, fun hp => ?_, fun i hi => ⟨(h3 i hi).1, (h3 i hi).2.grow hb⟩⟩
 obtain ⟨g, off, ea, hr⟩ := h2 hp
 exact ⟨g, off, ea, fun i hi => Zde (hr i hi) hb⟩
theorem PrAt.keys {w : World} {v : Value} {V : Nat → Value} {es : List Ent} (h : PrAt w v V es) : ∀ e ∈ es, Key e.1 := by
 intro e he
 obtain ⟨_, _, _, _, _, h3⟩ := h
 obtain ⟨i, hi, rfl⟩ := List.mem_iff_getElem.1 he
 have := (h3 i hi).1
 simpa [List.getD, hi] using this
def lsE : List (List Int) → List Ent → Int
 | _, [] => 0
 | ks, e :: r => if 1024 < e.2.length then 4 else if e.1 ∈ ks then 6 else lsE (ks ++ [e.1]) r
def errB (es : List Ent) : Int := if 4096 < es.length then 4 else lsE [] es
theorem Zic : (Tryz.prog.info? 114).map (·.size) = some 33 := by kernel_rfl
theorem Ybm : ∃ fs, Tryz.prog.underlying 114 = some (.struct fs) := ⟨_, Tryz.underlying114⟩
theorem Zrn {ops : Array Oper} {rest : List Oper} {op : Oper} {a : Act} {Q : Exit → Act → World → Prop} (w : World) (hgd : op.guard = none) (x : Operand) (ho : op.op = .load 114 x)
  (g o : Nat) (k : List Int) (v : Value) (hx : a.eval x = .pointer (some ⟨g, o, none⟩)) (h : w.rangeAt g o (encP k v)) (hl : k.length = 32)
  (hk : wpList Tryz.prog ops Q rest (a.put op.dst (.agg (encP k v).toArray)) w) : wpList Tryz.prog ops Q (op :: rest) a w := by
 obtain ⟨fs, hu⟩ := Ybm
 exact wpList_load_mid hgd 114 x ho g o hx (encP k v) _ h hu rfl (by rw [Zab k v hl]; exact Zic) hk
theorem Zgh {ops : Array Oper} {rest : List Oper} {op : Oper} {a : Act} {Q : Exit → Act → World → Prop} (w : World) (hgd : op.guard = none) (x : Operand) (ho : op.op = .load 31 x)
  (g o : Nat) (k : List Int) (hx : a.eval x = .pointer (some ⟨g, o, none⟩)) (h : w.rangeAt g o (B k).toList) (hl : k.length = 32)
  (hk : wpList Tryz.prog ops Q rest (a.put op.dst (.agg (B k))) w) : wpList Tryz.prog ops Q (op :: rest) a w :=
 wpList_load_mid hgd 31 x ho g o hx (B k).toList _ h Tryz.underlying31 rfl (by rw [Zap, List.length_map, hl]; exact Zff) (by simpa using hk)
theorem Zih {w : World} {g o : Nat} {k : List Int} {v : Value} (h : w.rangeAt g o (encP k v)) : w.rangeAt g o (B k).toList := by
 intro j u hu
 rw [Zap] at hu
 have hj : j < (k.map (Value.int .u8)).length := (List.getElem?_eq_some_iff.1 hu).1
 refine h j u ?_
 unfold encP
 rw [List.getElem?_append_left hj]
 exact hu
theorem Ydc {w : World} {g o : Nat} {k : List Int} {v : Value} (h : w.rangeAt g o (encP k v)) (hk : k.length = 32) : w.cell? ⟨g, o + 32, none⟩ = some v := by
 refine h 32 v ?_
 unfold encP
 rw [List.getElem?_append_right (by simp [hk])]
 simp [hk]
def flatP (its : List (Ent × Value)) : List Value := its.flatMap fun p => encP p.1.1 p.2
theorem Zsr (its : List (Ent × Value)) (p : Ent × Value) : flatP (its ++ [p]) = flatP its ++ encP p.1.1 p.2 := by simp [flatP]
theorem Zqx : ∀ (its : List (Ent × Value)), (∀ p ∈ its, p.1.1.length = 32) → ∀ (i : Nat) (hi : i < its.length) (j : Nat) (v : Value), (encP its[i].1.1 its[i].2)[j]? = some v → (flatP its)[i * 33 + j]? = some v
 | [], _, i, hi, _, _, _ => by simp at hi
 | p :: r, hl, 0, _, j, v, h => by
  have h : (encP p.1.1 p.2)[j]? = some v := h
  have hj := (List.getElem?_eq_some_iff.1 h).1
  simp only [flatP, List.flatMap_cons, Nat.zero_mul, Nat.zero_add]
  rw [List.getElem?_append_left hj]
  exact h
 | p :: r, hl, i + 1, hi, j, v, h => by
  have ih := Zqx r (fun q hq => hl q (by simp [hq])) i (by simpa using hi) j v (by simpa using h)
  have e1 : (encP p.1.1 p.2).length = 33 := Zab _ _ (hl p (by simp))
  simp only [flatP, List.flatMap_cons]
  rw [List.getElem?_append_right (by omega), show (i + 1) * 33 + j - (encP p.1.1 p.2).length = i * 33 + j by omega]
  exact ih
theorem Zfy : ∃ i z, Tryz.prog.info? 114 = some i ∧ i.zero = some z ∧ i.size = 33 ∧ i.bytes = 56 ∧ z.cells.size = 33 := ⟨_, _, rfl, rfl, rfl, rfl, rfl⟩
theorem Zjp {ops : Array Oper} {rest : List Oper} {op : Oper} {a : Act} {Q : Exit → Act → World → Prop} (w : World) (hgd : op.guard = none) (x : Operand) (ho : op.op = .buildSlice 166 1 #[(0, x)])
  (k : List Int) (v : Value) (hx : a.eval x = .agg (encP k v).toArray) (hl : k.length = 32)
  (hk : wpList Tryz.prog ops Q rest (a.put op.dst (.slice (some ⟨w.heap.size, 0, none⟩) 1 1)) (w.alloc (.cells (encP k v).toArray 114))) : wpList Tryz.prog ops Q (op :: rest) a w := by
 refine wpList_plain hgd fun K hK => ?_
 obtain ⟨i, z, hi, hz, hs, _, hzs⟩ := Zfy
 have hrun := run_buildSlice (P := Tryz.prog) w 166 114 1 #[(0, .agg (encP k v).toArray)] (encP k v).toArray i z Tryz.underlying166 hi hz (by rw [hs]; omega) (by rw [hs]; omega) (by
  rw [hs]
  obtain ⟨zs, hzz, hzl⟩ : ∃ zs : List Value, (Array.range (1 * 33)).map (z.cells[· % z.cells.size]!) = zs.toArray ∧ zs.length = 33 := ⟨_, (Array.toArray_toList).symm, by simp⟩
  rw [hzz]
  have := Zbk (fun i => some (i * 33, 33)) 0 0 33 (.agg (encP k v).toArray) (encP k v) zs [] rfl rfl (Zab k v hl) (by omega)
  rw [show (#[(0, Value.agg (encP k v).toArray)] : Array (Nat × Value)).toList = [(0, Value.agg (encP k v).toArray)] from rfl, this, Instr.fill]
  simp [hzl])
 unfold Oper.wp execOp
 simp only [ho, List.map_toArray, List.map_cons, List.map_nil, hx, Sem.run_bind, hrun, Result.andThen_ok, Sem.run_pure]
 exact hK _ _ hk
theorem Znx {ops : Array Oper} {rest : List Oper} {o : Oper} {a : Act} {Q : Exit → Act → World → Prop} (w : World) (hgd : o.guard = none) (s x : Operand)
  (hop : o.op = .call { callee := .builtin .append, args := #[s, x], argTypes := #[166, 166] })
  (base : Nat) (v : Value) (n : Nat) (xs : List Value) (hown : w.ownsRow base 114 33 v n xs) (hs : a.eval s = v) (g : Nat) (k : List Int) (u : Value) (hx : a.eval x = .slice (some ⟨g, 0, none⟩) 1 1)
  (hb : Blk w g 114 (encP k u).toArray) (hl : k.length = 32) (h1 : u.oneCell' = true) (hn : n ≤ 4096) (hbase : base ≤ w.heap.size)
  (h : ∀ v' w', w'.ownsRow base 114 33 v' (n + 1) (xs ++ encP k u) → w.grownBy w' v.ownBlock → wpList Tryz.prog ops Q rest (a.put o.dst v') w') :
  wpList Tryz.prog ops Q (o :: rest) a w := by
 obtain ⟨i, z, hi, hz, hsz, hby, hzs⟩ := Zfy
 refine wpList_append_own w hgd s x _ hop base _ i z 33 56 Tryz.underlying166 hi hz hsz hby hzs (by omega) v n xs hs hown ⟨g, 0, none⟩ 1 1 (encP k u) hx (by rw [Zab k u hl]) ?_ ?_ (by simp only [maxLen]; omega) (by omega) hbase (fun v' w' h1 h2 _ => h v' w' h1 h2)
 ·intro j q hq
  rw [Addr.add_lit, Nat.zero_add, hb.cell]
  simpa using hq
 ·intro q hq
  unfold encP at hq
  rcases List.mem_append.1 hq with hq | hq
  ·obtain ⟨z, _, rfl⟩ := List.mem_map.1 hq
   rfl
  ·obtain rfl : q = u := by simpa using hq
   exact h1
theorem Zij {w w' : World} {base : Nat} {v : Value} {n : Nat} {xs : List Value} (h : w.ownsRow base 114 33 v n xs) (hb : Below w.heap.size w w') : w'.ownsRow base 114 33 v n xs := by
 refine ⟨h.1, ?_⟩
 rcases h.2 with hn | ⟨g, cap, cur, rfl, hb2, hgg, rest⟩
 ·exact .inl hn
 ·exact .inr ⟨g, cap, cur, rfl, hb2, (hb.block g (Array.getElem?_eq_some_iff.1 hgg).1).trans hgg, rest⟩
theorem Zho {w : World} {base : Nat} {v : Value} {its : List (Ent × Value)} (h : w.ownsRow base 114 33 v its.length (flatP its)) (hk : ∀ p ∈ its, Key p.1.1) (hr : ∀ p ∈ its, Reads w p.2 p.1.2) :
  PrAt w v (fun i => (its.getD i (e00, undef)).2) (its.map (·.1)) := by
 have hget : ∀ i (hi : i < its.length), (its.map (·.1)).getD i e00 = its[i].1 ∧ its.getD i (e00, undef) = its[i] := fun i hi => ⟨by simp [List.getD, hi], by simp [List.getD, hi]⟩
 have hlast : ∀ i, i < (its.map (·.1)).length → Key ((its.map (·.1)).getD i e00).1 ∧ Reads w (its.getD i (e00, undef)).2 ((its.map (·.1)).getD i e00).2 := by
  intro i hi
  rw [List.length_map] at hi
  obtain ⟨e1, e2⟩ := hget i hi
  rw [e1, e2]
  exact ⟨hk _ (List.getElem_mem hi), hr _ (List.getElem_mem hi)⟩
 rcases h.2 with ⟨rfl, hn⟩ | ⟨g, cap, cur, rfl, _, hg, hcap, _, hsz, htake⟩
 ·exact ⟨none, 0, by rw [List.length_map, hn], by rw [List.length_map]; omega, fun hp => by rw [List.length_map] at hp; omega, hlast⟩
 ·refine ⟨_, cap, by rw [List.length_map], by rw [List.length_map]; exact hcap, fun _ => ⟨g, 0, rfl, fun i hi j u hu => ?_⟩, hlast⟩
  rw [List.length_map] at hi
  obtain ⟨e1, e2⟩ := hget i hi
  rw [e1] at hu
  simp only [e2] at hu
  have h1 := Zqx its (fun p hp => (hk p hp).1) i hi j u hu
  rw [← htake] at h1
  have h2 : (cur.toList)[i * 33 + j]? = some u := by
   rw [List.getElem?_take] at h1
   split at h1
   ·exact h1
   ·cases h1
  rw [cell_of_row w g _ cur _ _ hg, Nat.zero_add]
  simpa using h2
theorem Zvc {w : World} {v : Value} {zs : List Int} (h : Reads w v zs) : v.oneCell' = true := by
 obtain ⟨a, c, rfl, _⟩ := h
 rfl
end Go.Proofs.YtbkolhhgajkjjaaGreatDoor
