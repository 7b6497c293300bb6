/- Digests appended one by one; rootcellarkit.CopyHashes and CopyProof, as contracts. -/
import Derived.Test.YtdpaanidangnlaaGreatDoorWw29
import Derived.Great.BuildSlice
import Derived.Laws.AppendOwn
import Derived.Laws.OwnMore
import Derived.Test.YtdpaanidangnlaaGreatDoorWw01
import Derived.Test.YtdpaanidangnlaaGreatDoorWw08
import Derived.Test.YtdpaanidangnlaaGreatDoorWw26
namespace Go.Proofs.YtdpaanidangnlaaGreatDoor
set_option maxRecDepth 20000
open Go.RowKit

/-- Digests, one behind the other. -/
def flatH (hs : List (List Int)) : List Value := hs.flatMap fun h => h.map (Value.int .u8)
theorem flatH_snoc (hs : List (List Int)) (h : List Int) : flatH (hs ++ [h]) = flatH hs ++ (B h).toList := by simp [flatH, B_toList]
theorem flatH_length : ∀ (hs : List (List Int)), (∀ h ∈ hs, h.length = 32) → (flatH hs).length = hs.length * 32
  | [], _ => rfl
  | h :: r, hl => by
    have ih := flatH_length r (fun q hq => hl q (by simp [hq]))
    have h1 := hl h (by simp)
    simp only [flatH, List.flatMap_cons, List.length_append, List.length_map, List.length_cons] at ih ⊢
    omega
theorem flatH_at : ∀ (hs : List (List Int)), (∀ h ∈ hs, h.length = 32) → ∀ (i : Nat), i < hs.length → ∀ (j : Nat) (v : Value), ((hs.getD i []).map (Value.int .u8))[j]? = some v → (flatH hs)[i * 32 + j]? = some v
  | [], _, i, hi, _, _, _ => by simp at hi
  | p :: r, hl, 0, _, j, v, h => by
    have h : (p.map (Value.int .u8))[j]? = some v := by simpa using h
    have hj := (List.getElem?_eq_some_iff.1 h).1
    simp only [flatH, List.flatMap_cons, Nat.zero_mul, Nat.zero_add]
    rw [List.getElem?_append_left hj]
    exact h
  | p :: r, hl, i + 1, hi, j, v, h => by
    have ih := flatH_at r (fun q hq => hl q (by simp [hq])) i (by simpa using hi) j v (by simpa using h)
    have e1 : (p.map (Value.int .u8)).length = 32 := by rw [List.length_map]; exact hl p (by simp)
    simp only [flatH, List.flatMap_cons]
    rw [List.getElem?_append_right (by omega), show (i + 1) * 32 + j - (p.map (Value.int .u8)).length = i * 32 + j by omega]
    exact ih
theorem flatH_pos (hs : List (List Int)) (hl : ∀ h ∈ hs, h.length = 32) (q : Nat) (v : Value) (hv : (flatH hs)[q]? = some v) : q / 32 < hs.length ∧ ((hs.getD (q / 32) []).map (Value.int .u8))[q % 32]? = some v := by
  have hq := (List.getElem?_eq_some_iff.1 hv).1
  rw [flatH_length hs hl] at hq
  have hi : q / 32 < hs.length := by omega
  have hlen : ((hs.getD (q / 32) []).map (Value.int .u8)).length = 32 := by
    rw [List.length_map]
    have : hs.getD (q / 32) [] = hs[q / 32] := by simp [List.getD, hi]
    rw [this]
    exact hl _ (List.getElem_mem hi)
  have h1 : q % 32 < ((hs.getD (q / 32) []).map (Value.int .u8)).length := by rw [hlen]; omega
  have h2 := flatH_at hs hl (q / 32) hi (q % 32) _ (List.getElem?_eq_getElem h1)
  rw [show q / 32 * 32 + q % 32 = q by omega, hv] at h2
  refine ⟨hi, ?_⟩
  rw [List.getElem?_eq_getElem h1, ← h2]

/-- Digests, each 32 bytes. -/
def Dgs (hs : List (List Int)) : Prop := ∀ h ∈ hs, h.length = 32 ∧ Bytes h
theorem Dgs.snoc {hs : List (List Int)} {h : List Int} (a : Dgs hs) (b : h.length = 32) (c : Bytes h) : Dgs (hs ++ [h]) := fun x hx => by
  rcases List.mem_append.1 hx with hx | hx
  · exact a x hx
  · obtain rfl : x = h := by simpa using hx
    exact ⟨b, c⟩
theorem Dgs.len {hs : List (List Int)} (a : Dgs hs) : ∀ h ∈ hs, h.length = 32 := fun h hh => (a h hh).1
theorem HsAt.dgs {w : World} {v : Value} {hs : List (List Int)} (h : HsAt w v hs) : Dgs hs := by
  intro x hx
  obtain ⟨_, _, _, _, _, h3⟩ := h
  obtain ⟨i, hi, rfl⟩ := List.mem_iff_getElem.1 hx
  have := h3 i hi
  simpa [List.getD, hi] using this

/-- What was appended reads as digests. -/
theorem hsAt_own {w : World} {base : Nat} {v : Value} {hs : List (List Int)} (h : w.ownsRow base 43 32 v hs.length (flatH hs)) (hd : Dgs hs) : HsAt w v hs := by
  have hlast : ∀ i, i < hs.length → (hs.getD i []).length = 32 ∧ Bytes (hs.getD i []) := fun i hi => by
    have : hs.getD i [] = hs[i] := by simp [List.getD, hi]
    rw [this]
    exact hd _ (List.getElem_mem hi)
  rcases h.2 with ⟨rfl, hn⟩ | ⟨g, cap, cur, rfl, _, hg, hcap, _, hsz, htake⟩
  · exact ⟨none, 0, by rw [hn], by omega, fun hp => by omega, hlast⟩
  · refine ⟨_, cap, rfl, hcap, fun _ => ⟨g, 0, rfl, fun i hi j u hu => ?_⟩, hlast⟩
    rw [B_toList] at hu
    have h1 := flatH_at hs hd.len i hi j u hu
    rw [← htake] at h1
    have h2 : (cur.toList)[i * 32 + j]? = some u := by
      rw [List.getElem?_take] at h1
      split at h1
      · exact h1
      · cases h1
    rw [cell_of_row w g _ cur _ _ hg, Nat.zero_add]
    simpa using h2

theorem info_hash : ∃ i z, Tryz.prog.info? 43 = some i ∧ i.zero = some z ∧ i.size = 32 ∧ i.bytes = 32 ∧ z.cells.size = 32 := ⟨_, _, rfl, rfl, rfl, rfl, rfl⟩

/-- []api.Hash{x}, in a region that draws its order. -/
theorem step_bsh {ops : Array Oper} {op : Oper} {a : Act} {K : Act → World → Prop} {Q : Exit → Act → World → Prop} {E : Prop} (w : World) (hgd : op.guard = none) (x : Operand) (ho : op.op = .buildSlice 45 1 #[(0, x)])
    (h : List Int) (hx : a.eval x = .agg (B h)) (hl : h.length = 32)
    (hk : K (a.put op.dst (.slice (some ⟨w.heap.size, 0, none⟩) 1 1)) (w.alloc (.cells (B h) 43))) : if Region.wanted op (yielded ops a.tmps) = true then Oper.wp Tryz.prog op a w K Q else E := by
  have hw : Region.wanted op (yielded ops a.tmps) = true := by simp [Region.wanted, hgd]
  rw [if_pos hw]
  obtain ⟨i, z, hi, hz, hs, _, hzs⟩ := info_hash
  have hrun := run_buildSlice (P := Tryz.prog) w 45 43 1 #[(0, .agg (B h))] (B h) i z Tryz.underlying45 hi hz (by rw [hs]; omega) (by rw [hs]; omega) (by
    rw [hs]
    obtain ⟨zs, hzz, hzl⟩ : ∃ zs : List Value, (Array.range (1 * 32)).map (z.cells[· % z.cells.size]!) = zs.toArray ∧ zs.length = 32 := ⟨_, (Array.toArray_toList).symm, by simp⟩
    rw [hzz]
    have := fill_one (fun i => some (i * 32, 32)) 0 0 32 (.agg (B h)) (h.map (Value.int .u8)) zs [] rfl rfl (by simp [hl]) (by omega)
    rw [show (#[(0, Value.agg (B h))] : Array (Nat × Value)).toList = [(0, Value.agg (B h))] from rfl, this, Instr.fill]
    simp [hzl, B])
  unfold Oper.wp execOp
  simp only [ho, List.map_toArray, List.map_cons, List.map_nil, hx, Sem.run_bind, hrun, Result.andThen_ok, Sem.run_pure]
  exact hk

/-- append of one digest, in a region that draws its order. -/
theorem step_appH {ops : Array Oper} {o : Oper} {a : Act} {K : Act → World → Prop} {Q : Exit → Act → World → Prop} {E : Prop} (w : World) (hgd : o.guard = none) (s x : Operand)
    (hop : o.op = .call { callee := .builtin .append, args := #[s, x], argTypes := #[45, 45] })
    (base : Nat) (v : Value) (n : Nat) (xs : List Value) (hown : w.ownsRow base 43 32 v n xs) (hs : a.eval s = v) (g : Nat) (h : List Int) (hx : a.eval x = .slice (some ⟨g, 0, none⟩) 1 1)
    (hb : Blk w g 43 (B h)) (hl : h.length = 32) (hn : n ≤ 4096) (hbase : base ≤ w.heap.size)
    (hk : ∀ v' w', w'.ownsRow base 43 32 v' (n + 1) (xs ++ (B h).toList) → w.grownBy w' v.ownBlock → K (a.put o.dst v') w') : if Region.wanted o (yielded ops a.tmps) = true then Oper.wp Tryz.prog o a w K Q else E := by
  have hw : Region.wanted o (yielded ops a.tmps) = true := by simp [Region.wanted, hgd]
  rw [if_pos hw]
  obtain ⟨i, z, hi, hz, hsz, hby, hzs⟩ := info_hash
  refine wp_append_own w s x _ hop base _ i z 32 32 Tryz.underlying45 hi hz hsz hby hzs (by omega) v n xs hs hown ⟨g, 0, none⟩ 1 1 (B h).toList hx (by rw [B_toList, List.length_map, hl]) ?_ ?_ (by simp only [maxLen]; omega) (by omega) hbase (fun v' w' h1 h2 _ => hk v' w' h1 h2)
  · intro j q hq
    rw [Addr.add_lit, Nat.zero_add, hb.cell]
    simpa using hq
  · intro q hq
    rw [B_toList] at hq
    obtain ⟨z, _, rfl⟩ := List.mem_map.1 hq
    rfl

theorem ownsH_below {w w' : World} {base : Nat} {v : Value} {n : Nat} {xs : List Value} (h : w.ownsRow base 43 32 v n xs) (hb : Below w.heap.size w w') : w'.ownsRow base 43 32 v n xs := by
  refine ⟨h.1, ?_⟩
  rcases h.2 with hn | ⟨g, cap, cur, rfl, hb2, hgg, rest⟩
  · exact .inl hn
  · exact .inr ⟨g, cap, cur, rfl, hb2, (hb.block g (Array.getElem?_eq_some_iff.1 hgg).1).trans hgg, rest⟩
theorem below_ownH {w0 w w' : World} {base n : Nat} {v : Value} {xs : List Value} (hb : Below w0.heap.size w0 w) (ho : w.ownsRow base 43 32 v n xs) (hbase : w0.heap.size ≤ base) (hg : w.grownBy w' v.ownBlock) : Below w0.heap.size w0 w' :=
  hb.trans ⟨hg.os, hg.tape, hg.output, hg.size, fun k hk => hg.block k (Nat.lt_of_lt_of_le hk hb.size) (fun e => by have := (ho.lt k e.symm).1; omega)⟩

/-- A slice is none or lies somewhere. -/
def Plc (v : Value) : Prop := v = .slice none 0 0 ∨ ∃ x n c, v = .slice (some x) n c

/-- All digests of a slice appended to one of the call's own. -/
theorem wpList_appA {ops : Array Oper} {rest : List Oper} {o : Oper} {a : Act} {Q : Exit → Act → World → Prop} (w : World) (hgd : o.guard = none) (s x : Operand)
    (hop : o.op = .call { callee := .builtin .append, args := #[s, x], argTypes := #[45, 45] })
    (base : Nat) (v : Value) (hown : w.ownsRow base 43 32 v 0 []) (hs : a.eval s = v) (y : Value) (hs' : List (List Int)) (hx : a.eval x = y) (hp : Plc y) (hh : HsAt w y hs') (hn : hs'.length ≤ 4096) (hbase : base ≤ w.heap.size)
    (hk : ∀ v' w', w'.ownsRow base 43 32 v' hs'.length (flatH hs') → w.grownBy w' v.ownBlock → wpList Tryz.prog ops Q rest (a.put o.dst v') w') : wpList Tryz.prog ops Q (o :: rest) a w := by
  obtain ⟨i, z, hi, hz, hsz, hby, hzs⟩ := info_hash
  have hd := hh.dgs
  obtain ⟨ya, yc, hy, hyc, hyr, hyl⟩ := hh
  rcases hp with hp | ⟨x0, n, c, hp⟩
  · have hn0 : hs'.length = 0 := by rw [hy] at hp; injection hp
    have hnil : hs' = [] := List.eq_nil_of_length_eq_zero hn0
    subst hnil
    refine wpList_plain hgd fun K hK => ?_
    have hrun := run_append_owned_none (P := Tryz.prog) (w := w) base 45 o.type 43 i 32 Tryz.underlying45 hi v 0 [] hown
    unfold Oper.wp
    simp [execOp, hop, resolve, invoke, builtin, hs, hx, hp, hrun, Result.andThen]
    exact hK _ _ (hk v w hown (below_grown (Below.refl _ _) _))
  · rw [hp] at hy
    injection hy with h1 h2 h3
    subst h2
    subst h1
    have hl2 : (flatH hs').length = hs'.length * 32 := flatH_length hs' hd.len
    refine wpList_append_own w hgd s x _ hop base _ i z 32 32 Tryz.underlying45 hi hz hsz hby hzs (by omega) v 0 [] hs hown x0 hs'.length c (flatH hs') (by rw [hx, hp]) hl2 ?_ ?_ (by simp only [maxLen]; omega) (by omega) hbase (fun v' w' h1 h2 _ => hk v' w' (by simpa using h1) h2)
    · intro j q hq
      obtain ⟨p1, p2⟩ := flatH_pos hs' hd.len j q hq
      obtain ⟨g, off, e, hr⟩ := hyr (by omega)
      obtain rfl : x0 = ⟨g, off, none⟩ := by injection e
      have := hr (j / 32) p1 (j % 32) q (by rw [B_toList]; exact p2)
      rw [Addr.add_lit]
      rw [show off + j / 32 * 32 + j % 32 = off + j by omega] at this
      exact this
    · intro q hq
      simp only [flatH, List.mem_flatMap, List.mem_map] at hq
      obtain ⟨_, _, _, _, rfl⟩ := hq
      rfl

end Go.Proofs.YtdpaanidangnlaaGreatDoor

/- Cells of a block that is known whole are there. -/
namespace Go.Proofs.YtdpaanidangnlaaGreatDoor
set_option maxRecDepth 20000
open Go.RowKit

theorem Blk.there {w : World} {g : Nat} {t : TypeId} {cs : Array Value} (h : Blk w g t cs) (o n : Nat) (hn : o + n ≤ cs.size) : w.there g o n := fun j hj => ⟨by rw [h.cell, Array.getElem?_eq_getElem (by omega)]; rfl, h.frozen _⟩

end Go.Proofs.YtdpaanidangnlaaGreatDoor

/- The way down, step by step, and what a way tells; laws for a proof in a block. -/
namespace Go.Proofs.YtdpaanidangnlaaGreatDoor
set_option maxRecDepth 20000
open Go.RowKit

/-- The end of a way. -/
def endN : List Ent → List Int
  | [e] => nd 1 e.1 (vaD e.2) z32 z32
  | _ => nd 0 z32 z32 z32 z32

/-- On the way down: the entries that are left, the sides so far. -/
structure WaySt (es : List Ent) (key : List Int) (d : Nat) (ed : List Ent) (hs : List (List Int)) : Prop where
  hd : d ≤ 256
  keys : ∀ e ∈ ed, Key e.1
  sides : hs ++ sds (256 - d) d ed key = sds 256 0 es key
  rest : rst (256 - d) d ed key = rst 256 0 es key
  len : hs.length = d
  dgs : Dgs hs
  sub : ∀ e ∈ ed, e ∈ es

theorem rt_len (n d : Nat) (es : List Ent) : (rt n d es).length = 32 ∧ Bytes (rt n d es) := by
  match n, es with
  | _, [] => rw [rt_nil]; exact ⟨dig_length _, dig_bytes _⟩
  | _, [x] => rw [rt_one]; exact ⟨dig_length _, dig_bytes _⟩
  | 0, _ :: _ :: _ => exact ⟨dig_length _, dig_bytes _⟩
  | n + 1, a :: b :: l => rw [rt_more n d _ (by simp)]; exact ⟨dig_length _, dig_bytes _⟩

theorem WaySt.start {es : List Ent} (key : List Int) (h : ∀ e ∈ es, Key e.1) : WaySt es key 0 es [] := ⟨by omega, h, rfl, rfl, rfl, fun x hx => by simp at hx, fun _ h => h⟩
theorem WaySt.step {es ed : List Ent} {key : List Int} {d : Nat} {hs : List (List Int)} (h : WaySt es key d ed hs) (hl : 1 < ed.length) (hd : d < 256) :
    WaySt es key (d + 1) (sideOf ed d (kb key d)) (hs ++ [rt (255 - d) (d + 1) (sideOf ed d (1 - kb key d))]) := by
  have e : 256 - d = (255 - d) + 1 := by omega
  have e2 : 256 - (d + 1) = 255 - d := by omega
  have h1 := h.sides
  have h2 := h.rest
  rw [e, sds, if_neg (by omega)] at h1
  rw [e, rst, if_neg (by omega)] at h2
  refine ⟨by omega, fun x hx => h.keys x (List.mem_filter.1 hx).1, ?_, ?_, by rw [List.length_append, h.len]; rfl, h.dgs.snoc (rt_len _ _ _).1 (rt_len _ _ _).2, fun x hx => h.sub x (List.mem_filter.1 hx).1⟩
  · rw [e2, List.append_assoc]
    exact h1
  · rw [e2]
    exact h2
theorem WaySt.done {es ed : List Ent} {key : List Int} {d : Nat} {hs : List (List Int)} (h : WaySt es key d ed hs) (hl : ed.length ≤ 1) : hs = sds 256 0 es key ∧ rst 256 0 es key = ed := by
  have h1 := h.sides
  have h2 := h.rest
  match hn : 256 - d with
  | 0 =>
    have e1 : sds 0 d ed key = [] := by simp [sds]
    have e2 : rst 0 d ed key = ed := by simp [rst]
    rw [hn, e1, List.append_nil] at h1
    rw [hn, e2] at h2
    exact ⟨h1, h2.symm⟩
  | k + 1 =>
    rw [hn, sds, if_pos hl, List.append_nil] at h1
    rw [hn, rst, if_pos hl] at h2
    exact ⟨h1, h2.symm⟩

theorem sdL_perm {ls : List Lf} {ed : List Ent} {d : Nat} (hd : d < 256) (hk : ∀ e ∈ ed, Key e.1) (h : ls.Perm (ed.map mkLf)) (c : Int) : (sdL ls d c).Perm ((sideOf ed d c).map mkLf) := by
  rw [← side_map ed d c hd hk]
  exact h.filter _

theorem sds_dgs : ∀ (n d : Nat) (l : List Ent) (key : List Int), Dgs (sds n d l key)
  | 0, _, _, _ => fun x hx => by simp [sds] at hx
  | n + 1, d, l, key => by
    intro x hx
    unfold sds at hx
    split at hx
    · simp at hx
    · rcases List.mem_cons.1 hx with rfl | hx
      · exact rt_len _ _ _
      · exact sds_dgs n (d + 1) _ key x hx

theorem Blk.keptO {w w' : World} {g : Nat} {t : TypeId} {cs : Array Value} {row : Option Nat} (h : Blk w g t cs) (hg : w.grownBy w' row) (hne : some g ≠ row) : Blk w' g t cs := h.of_block (hg.block g h.lt hne)
theorem own_ne {w : World} {base : Nat} {v : Value} {n : Nat} {xs : List Value} {g : Nat} {cs : Array Value} (h : w.ownsRow base 43 32 v n xs) (hb : Blk w g 50 cs) : some g ≠ v.ownBlock := by
  rcases h.2 with ⟨rfl, _⟩ | ⟨g', cap, cur, rfl, _, hg, _⟩
  · simp [Value.ownBlock]
  · intro e
    obtain rfl : g = g' := by simpa [Value.ownBlock] using e
    have hb' : w.heap[g]? = some (.cells cs 50 (0, 0)) := hb
    rw [hb'] at hg
    injection hg with hg
    injection hg with _ ht
    exact absurd ht (by decide)
theorem own_base {w : World} {base base' : Nat} {v : Value} {n : Nat} {xs : List Value} (h : w.ownsRow base 43 32 v n xs) (hb : base' ≤ base) : w.ownsRow base' 43 32 v n xs := by
  refine ⟨h.1, h.2.imp id ?_⟩
  rintro ⟨g, cap, cur, e1, e2, e3⟩
  exact ⟨g, cap, cur, e1, Nat.le_trans hb e2, e3⟩
theorem own_slice {w : World} {base : Nat} {v : Value} {n : Nat} {xs : List Value} (h : w.ownsRow base 43 32 v n xs) : ∃ a c, v = .slice a n c := by
  rcases h.2 with ⟨e, e2⟩ | ⟨g', cap', cur, e, _⟩
  · exact ⟨none, 0, by rw [e, e2]⟩
  · exact ⟨_, _, e⟩

theorem rep_nd : List.replicate 129 (0 : Int) = nd 0 z32 z32 z32 z32 := by rfl

/-- store of a part of a block. -/
theorem wpList_stm {ops : Array Oper} {rest : List Oper} {op : Oper} {a : Act} {Q : Exit → Act → World → Prop} (w : World) (hgd : op.guard = none) (ty : TypeId) (x y : Operand) (ho : op.op = .store ty x y)
    (b off : Nat) (cells : Array Value) (hx : a.eval x = .pointer (some ⟨b, off, none⟩)) (hy : a.eval y = .agg cells) (ht : w.there b off cells.size) (hi : (Tryz.prog.info? ty).map (·.size) = some cells.size) (h1 : cells.all (·.oneCell') = true)
    (h : wpList Tryz.prog ops Q rest (a.put op.dst undef) (w.setCells b off cells.toList)) : wpList Tryz.prog ops Q (op :: rest) a w :=
  wpList_plain hgd fun _ hK => wp_store_mid ty x y ho b off cells hx hy ht hi h1 (hK _ _ h)

/-- What Way tells. -/
def wyH (es : List Ent) (key : List Int) : List (List Int) := if errB es = 0 then sds 256 0 es key else []
def wyN (es : List Ent) (key : List Int) : List Int := if errB es = 0 then endN (rst 256 0 es key) else nd 0 z32 z32 z32 z32
def WayPost (es : List Ent) (key : List Int) (w : World) (e : Ending) (w' : World) : Prop :=
  ∃ sa sc, e = .returned (.tuple #[.agg (encR (.slice sa (wyH es key).length sc) (wyN es key)).toArray, .int .i64 (errB es)]) ∧ w'.ownsRow w.heap.size 43 32 (.slice sa (wyH es key).length sc) (wyH es key).length (flatH (wyH es key)) ∧ Below w.heap.size w w'

end Go.Proofs.YtdpaanidangnlaaGreatDoor
