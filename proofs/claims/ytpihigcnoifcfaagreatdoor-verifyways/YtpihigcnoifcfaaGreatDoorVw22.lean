/- Digests appended one by one; rootcellarkit.CopyHashes and CopyProof, as contracts. -/
import Derived.Test.YtpihigcnoifcfaaGreatDoorVw21
import Derived.Great.BuildSlice
import Derived.Laws.AppendOwn
import Derived.Laws.OwnMore
import Derived.Test.YtpihigcnoifcfaaGreatDoorVw03
namespace Go.Proofs.YtpihigcnoifcfaaGreatDoor
set_option maxRecDepth 20000
open Go.RowKit

/-- Digests, one behind the other. -/
def flatH (hs : List (List Int)) : List Value := hs.flatMap fun h => h.map (Value.int .u8)
theorem flatH_snoc (hs : List (List Int)) (h : List Int) : flatH (hs ++ [h]) = flatH hs ++ (B h).toList := by simp [flatH, B_toList]
theorem flatH_length : ∀ (hs : List (List Int)), (∀ h ∈ hs, h.length = 32) → (flatH hs).length = hs.length * 32
  | [], _ => rfl
  | h :: r, hl => by
    have ih := flatH_length r (fun q hq => hl q (by simp [hq]))
    have h1 := hl h (by simp)
    simp only [flatH, List.flatMap_cons, List.length_append, List.length_map, List.length_cons] at ih ⊢
    omega
theorem flatH_at : ∀ (hs : List (List Int)), (∀ h ∈ hs, h.length = 32) → ∀ (i : Nat), i < hs.length → ∀ (j : Nat) (v : Value), ((hs.getD i []).map (Value.int .u8))[j]? = some v → (flatH hs)[i * 32 + j]? = some v
  | [], _, i, hi, _, _, _ => by simp at hi
  | p :: r, hl, 0, _, j, v, h => by
    have h : (p.map (Value.int .u8))[j]? = some v := by simpa using h
    have hj := (List.getElem?_eq_some_iff.1 h).1
    simp only [flatH, List.flatMap_cons, Nat.zero_mul, Nat.zero_add]
    rw [List.getElem?_append_left hj]
    exact h
  | p :: r, hl, i + 1, hi, j, v, h => by
    have ih := flatH_at r (fun q hq => hl q (by simp [hq])) i (by simpa using hi) j v (by simpa using h)
    have e1 : (p.map (Value.int .u8)).length = 32 := by rw [List.length_map]; exact hl p (by simp)
    simp only [flatH, List.flatMap_cons]
    rw [List.getElem?_append_right (by omega), show (i + 1) * 32 + j - (p.map (Value.int .u8)).length = i * 32 + j by omega]
    exact ih
theorem flatH_pos (hs : List (List Int)) (hl : ∀ h ∈ hs, h.length = 32) (q : Nat) (v : Value) (hv : (flatH hs)[q]? = some v) : q / 32 < hs.length ∧ ((hs.getD (q / 32) []).map (Value.int .u8))[q % 32]? = some v := by
  have hq := (List.getElem?_eq_some_iff.1 hv).1
  rw [flatH_length hs hl] at hq
  have hi : q / 32 < hs.length := by omega
  have hlen : ((hs.getD (q / 32) []).map (Value.int .u8)).length = 32 := by
    rw [List.length_map]
    have : hs.getD (q / 32) [] = hs[q / 32] := by simp [List.getD, hi]
    rw [this]
    exact hl _ (List.getElem_mem hi)
  have h1 : q % 32 < ((hs.getD (q / 32) []).map (Value.int .u8)).length := by rw [hlen]; omega
  have h2 := flatH_at hs hl (q / 32) hi (q % 32) _ (List.getElem?_eq_getElem h1)
  rw [show q / 32 * 32 + q % 32 = q by omega, hv] at h2
  refine ⟨hi, ?_⟩
  rw [List.getElem?_eq_getElem h1, ← h2]

/-- Digests, each 32 bytes. -/
def Dgs (hs : List (List Int)) : Prop := ∀ h ∈ hs, h.length = 32 ∧ Bytes h
theorem Dgs.snoc {hs : List (List Int)} {h : List Int} (a : Dgs hs) (b : h.length = 32) (c : Bytes h) : Dgs (hs ++ [h]) := fun x hx => by
  rcases List.mem_append.1 hx with hx | hx
  · exact a x hx
  · obtain rfl : x = h := by simpa using hx
    exact ⟨b, c⟩
theorem Dgs.len {hs : List (List Int)} (a : Dgs hs) : ∀ h ∈ hs, h.length = 32 := fun h hh => (a h hh).1
theorem HsAt.dgs {w : World} {v : Value} {hs : List (List Int)} (h : HsAt w v hs) : Dgs hs := by
  intro x hx
  obtain ⟨_, _, _, _, _, h3⟩ := h
  obtain ⟨i, hi, rfl⟩ := List.mem_iff_getElem.1 hx
  have := h3 i hi
  simpa [List.getD, hi] using this

/-- What was appended reads as digests. -/
theorem hsAt_own {w : World} {base : Nat} {v : Value} {hs : List (List Int)} (h : w.ownsRow base 25 32 v hs.length (flatH hs)) (hd : Dgs hs) : HsAt w v hs := by
  have hlast : ∀ i, i < hs.length → (hs.getD i []).length = 32 ∧ Bytes (hs.getD i []) := fun i hi => by
    have : hs.getD i [] = hs[i] := by simp [List.getD, hi]
    rw [this]
    exact hd _ (List.getElem_mem hi)
  rcases h.2 with ⟨rfl, hn⟩ | ⟨g, cap, cur, rfl, _, hg, hcap, _, hsz, htake⟩
  · exact ⟨none, 0, by rw [hn], by omega, fun hp => by omega, hlast⟩
  · refine ⟨_, cap, rfl, hcap, fun _ => ⟨g, 0, rfl, fun i hi j u hu => ?_⟩, hlast⟩
    rw [B_toList] at hu
    have h1 := flatH_at hs hd.len i hi j u hu
    rw [← htake] at h1
    have h2 : (cur.toList)[i * 32 + j]? = some u := by
      rw [List.getElem?_take] at h1
      split at h1
      · exact h1
      · cases h1
    rw [cell_of_row w g _ cur _ _ hg, Nat.zero_add]
    simpa using h2

theorem info_hash : ∃ i z, Tryz.prog.info? 25 = some i ∧ i.zero = some z ∧ i.size = 32 ∧ i.bytes = 32 ∧ z.cells.size = 32 := ⟨_, _, rfl, rfl, rfl, rfl, rfl⟩

/-- []api.Hash{x}, in a region that draws its order. -/
theorem step_bsh {ops : Array Oper} {op : Oper} {a : Act} {K : Act → World → Prop} {Q : Exit → Act → World → Prop} {E : Prop} (w : World) (hgd : op.guard = none) (x : Operand) (ho : op.op = .buildSlice 30 1 #[(0, x)])
    (h : List Int) (hx : a.eval x = .agg (B h)) (hl : h.length = 32)
    (hk : K (a.put op.dst (.slice (some ⟨w.heap.size, 0, none⟩) 1 1)) (w.alloc (.cells (B h) 25))) : if Region.wanted op (yielded ops a.tmps) = true then Oper.wp Tryz.prog op a w K Q else E := by
  have hw : Region.wanted op (yielded ops a.tmps) = true := by simp [Region.wanted, hgd]
  rw [if_pos hw]
  obtain ⟨i, z, hi, hz, hs, _, hzs⟩ := info_hash
  have hrun := run_buildSlice (P := Tryz.prog) w 30 25 1 #[(0, .agg (B h))] (B h) i z Tryz.underlying30 hi hz (by rw [hs]; omega) (by rw [hs]; omega) (by
    rw [hs]
    obtain ⟨zs, hzz, hzl⟩ : ∃ zs : List Value, (Array.range (1 * 32)).map (z.cells[· % z.cells.size]!) = zs.toArray ∧ zs.length = 32 := ⟨_, (Array.toArray_toList).symm, by simp⟩
    rw [hzz]
    have := fill_one (fun i => some (i * 32, 32)) 0 0 32 (.agg (B h)) (h.map (Value.int .u8)) zs [] rfl rfl (by simp [hl]) (by omega)
    rw [show (#[(0, Value.agg (B h))] : Array (Nat × Value)).toList = [(0, Value.agg (B h))] from rfl, this, Instr.fill]
    simp [hzl, B])
  unfold Oper.wp execOp
  simp only [ho, List.map_toArray, List.map_cons, List.map_nil, hx, Sem.run_bind, hrun, Result.andThen_ok, Sem.run_pure]
  exact hk

/-- append of one digest, in a region that draws its order. -/
theorem step_appH {ops : Array Oper} {o : Oper} {a : Act} {K : Act → World → Prop} {Q : Exit → Act → World → Prop} {E : Prop} (w : World) (hgd : o.guard = none) (s x : Operand)
    (hop : o.op = .call { callee := .builtin .append, args := #[s, x], argTypes := #[30, 30] })
    (base : Nat) (v : Value) (n : Nat) (xs : List Value) (hown : w.ownsRow base 25 32 v n xs) (hs : a.eval s = v) (g : Nat) (h : List Int) (hx : a.eval x = .slice (some ⟨g, 0, none⟩) 1 1)
    (hb : Blk w g 25 (B h)) (hl : h.length = 32) (hn : n ≤ 4096) (hbase : base ≤ w.heap.size)
    (hk : ∀ v' w', w'.ownsRow base 25 32 v' (n + 1) (xs ++ (B h).toList) → w.grownBy w' v.ownBlock → K (a.put o.dst v') w') : if Region.wanted o (yielded ops a.tmps) = true then Oper.wp Tryz.prog o a w K Q else E := by
  have hw : Region.wanted o (yielded ops a.tmps) = true := by simp [Region.wanted, hgd]
  rw [if_pos hw]
  obtain ⟨i, z, hi, hz, hsz, hby, hzs⟩ := info_hash
  refine wp_append_own w s x _ hop base _ i z 32 32 Tryz.underlying30 hi hz hsz hby hzs (by omega) v n xs hs hown ⟨g, 0, none⟩ 1 1 (B h).toList hx (by rw [B_toList, List.length_map, hl]) ?_ ?_ (by simp only [maxLen]; omega) (by omega) hbase (fun v' w' h1 h2 _ => hk v' w' h1 h2)
  · intro j q hq
    rw [Addr.add_lit, Nat.zero_add, hb.cell]
    simpa using hq
  · intro q hq
    rw [B_toList] at hq
    obtain ⟨z, _, rfl⟩ := List.mem_map.1 hq
    rfl

theorem ownsH_below {w w' : World} {base : Nat} {v : Value} {n : Nat} {xs : List Value} (h : w.ownsRow base 25 32 v n xs) (hb : Below w.heap.size w w') : w'.ownsRow base 25 32 v n xs := by
  refine ⟨h.1, ?_⟩
  rcases h.2 with hn | ⟨g, cap, cur, rfl, hb2, hgg, rest⟩
  · exact .inl hn
  · exact .inr ⟨g, cap, cur, rfl, hb2, (hb.block g (Array.getElem?_eq_some_iff.1 hgg).1).trans hgg, rest⟩
theorem below_ownH {w0 w w' : World} {base n : Nat} {v : Value} {xs : List Value} (hb : Below w0.heap.size w0 w) (ho : w.ownsRow base 25 32 v n xs) (hbase : w0.heap.size ≤ base) (hg : w.grownBy w' v.ownBlock) : Below w0.heap.size w0 w' :=
  hb.trans ⟨hg.os, hg.tape, hg.output, hg.size, fun k hk => hg.block k (Nat.lt_of_lt_of_le hk hb.size) (fun e => by have := (ho.lt k e.symm).1; omega)⟩

/-- A slice is none or lies somewhere. -/
def Plc (v : Value) : Prop := v = .slice none 0 0 ∨ ∃ x n c, v = .slice (some x) n c

/-- All digests of a slice appended to one of the call's own. -/
theorem wpList_appA {ops : Array Oper} {rest : List Oper} {o : Oper} {a : Act} {Q : Exit → Act → World → Prop} (w : World) (hgd : o.guard = none) (s x : Operand)
    (hop : o.op = .call { callee := .builtin .append, args := #[s, x], argTypes := #[30, 30] })
    (base : Nat) (v : Value) (hown : w.ownsRow base 25 32 v 0 []) (hs : a.eval s = v) (y : Value) (hs' : List (List Int)) (hx : a.eval x = y) (hp : Plc y) (hh : HsAt w y hs') (hn : hs'.length ≤ 4096) (hbase : base ≤ w.heap.size)
    (hk : ∀ v' w', w'.ownsRow base 25 32 v' hs'.length (flatH hs') → w.grownBy w' v.ownBlock → wpList Tryz.prog ops Q rest (a.put o.dst v') w') : wpList Tryz.prog ops Q (o :: rest) a w := by
  obtain ⟨i, z, hi, hz, hsz, hby, hzs⟩ := info_hash
  have hd := hh.dgs
  obtain ⟨ya, yc, hy, hyc, hyr, hyl⟩ := hh
  rcases hp with hp | ⟨x0, n, c, hp⟩
  · have hn0 : hs'.length = 0 := by rw [hy] at hp; injection hp
    have hnil : hs' = [] := List.eq_nil_of_length_eq_zero hn0
    subst hnil
    refine wpList_plain hgd fun K hK => ?_
    have hrun := run_append_owned_none (P := Tryz.prog) (w := w) base 30 o.type 25 i 32 Tryz.underlying30 hi v 0 [] hown
    unfold Oper.wp
    simp [execOp, hop, resolve, invoke, builtin, hs, hx, hp, hrun, Result.andThen]
    exact hK _ _ (hk v w hown (below_grown (Below.refl _ _) _))
  · rw [hp] at hy
    injection hy with h1 h2 h3
    subst h2
    subst h1
    have hl2 : (flatH hs').length = hs'.length * 32 := flatH_length hs' hd.len
    refine wpList_append_own w hgd s x _ hop base _ i z 32 32 Tryz.underlying30 hi hz hsz hby hzs (by omega) v 0 [] hs hown x0 hs'.length c (flatH hs') (by rw [hx, hp]) hl2 ?_ ?_ (by simp only [maxLen]; omega) (by omega) hbase (fun v' w' h1 h2 _ => hk v' w' (by simpa using h1) h2)
    · intro j q hq
      obtain ⟨p1, p2⟩ := flatH_pos hs' hd.len j q hq
      obtain ⟨g, off, e, hr⟩ := hyr (by omega)
      obtain rfl : x0 = ⟨g, off, none⟩ := by injection e
      have := hr (j / 32) p1 (j % 32) q (by rw [B_toList]; exact p2)
      rw [Addr.add_lit]
      rw [show off + j / 32 * 32 + j % 32 = off + j by omega] at this
      exact this
    · intro q hq
      simp only [flatH, List.mem_flatMap, List.mem_map] at hq
      obtain ⟨_, _, _, _, rfl⟩ := hq
      rfl

end Go.Proofs.YtpihigcnoifcfaaGreatDoor

/- A block stays as it is behind a list's growth (moved out of WaySp). -/
namespace Go.Proofs.YtpihigcnoifcfaaGreatDoor
set_option maxRecDepth 20000
open Go.RowKit

theorem Blk.keptO {w w' : World} {g : Nat} {t : TypeId} {cs : Array Value} {row : Option Nat} (h : Blk w g t cs) (hg : w.grownBy w' row) (hne : some g ≠ row) : Blk w' g t cs := h.of_block (hg.block g h.lt hne)

end Go.Proofs.YtpihigcnoifcfaaGreatDoor

/- A region that draws its order, some of whose operations (the writers, Ws) write what others ahead of them read: what is held (S) is asked for as long as no writer has come up. -/
namespace Go.Proofs.YtpihigcnoifcfaaGreatDoor
set_option maxRecDepth 20000
open Go Go.RowKit

section
variable {P : Program} {ops : Array Oper} {Q : Exit → Act → World → Prop} {md : Region.Mode} {S : World → Prop} {Ws : List Nat}

/-- A writer has come up. -/
def wrote (Ws : List Nat) (listed : Array Bool) : Bool := Ws.any fun L => listed.getD L false
theorem wrote_set {listed : Array Bool} {i : Nat} (h : Ws.contains i = false) : wrote Ws (listed.setIfInBounds i true) = wrote Ws listed := by
  unfold wrote
  apply Bool.eq_iff_iff.2
  simp only [List.any_eq_true]
  have hne : ∀ L ∈ Ws, i ≠ L := fun L hL e => by
    subst e
    simp at h
    exact h hL
  constructor
  · rintro ⟨L, h1, h2⟩
    exact ⟨L, h1, by rwa [getD_set_ne false (hne L h1)] at h2⟩
  · rintro ⟨L, h1, h2⟩
    exact ⟨L, h1, by rwa [getD_set_ne false (hne L h1)]⟩
theorem wrote_not {listed : Array Bool} {i n : Nat} (hs : ShutL md ops listed) (hi : listed.getD i false = false) (hld : (Ws.all fun L => leads md ops i n L) = true) : wrote Ws listed = false := by
  unfold wrote
  rw [Bool.eq_false_iff]
  intro h
  obtain ⟨L, h1, h2⟩ := List.any_eq_true.1 h
  have h3 := List.all_eq_true.1 hld L h1
  cases ho : ops[L]? with
  | none =>
    cases n with
    | zero => simp [leads] at h3
    | succ n => unfold leads at h3; rw [ho] at h3; cases h3
  | some o => exact leads_on hs hi n L h3 o ho (hs L o ho h2)

def wpAnyW (P : Program) (md : Region.Mode) (ops : Array Oper) (Q : Exit → Act → World → Prop) (S : World → Prop) (Ws : List Nat) : Nat → Array Bool → Act → World → Prop
  | 0, listed, a, w => Region.ready md ops listed = [] ∧ Q .normal a w
  | fuel + 1, listed, a, w =>
    (Region.ready md ops listed = [] → Q .normal a w) ∧
    ∀ i ∈ Region.ready md ops listed, wpOp P ops Q i (fun a' w' => (wrote Ws (listed.setIfInBounds i true) = true ∨ S w') ∧ wpAnyW P md ops Q S Ws fuel (listed.setIfInBounds i true) a' w') a w

theorem wpAny_of_wrote : ∀ (fuel : Nat) (listed : Array Bool) (a : Act) (w : World), wpAnyW P md ops Q S Ws fuel listed a w → wpAny P md ops Q fuel listed a w
  | 0, _, _, _, h => h
  | fuel + 1, _, _, _, h => ⟨h.1, fun i hi => wpOp_mono (fun a' w' h' => wpAny_of_wrote fuel _ a' w' h'.2) (h.2 i hi)⟩

theorem unlisted {listed : Array Bool} {i : Nat} (hr : i ∈ Region.ready md ops listed) : listed.getD i false = false := by
  have h0 := (mem_ready.1 hr).1
  rcases Nat.lt_or_ge i listed.size with h' | h'
  · simpa [h'] using h0
  · simp [Array.getElem?_eq_none h']

/-- One that reads what is held. -/
theorem wpAnyW_first {i n : Nat} {oi : Oper} {v : Value} (hi : ops[i]? = some oi) (hsel : ∀ (j : Nat) (o : Oper) cs b, ops[j]? = some o → o.op ≠ .select cs b)
    (hQ : ∀ c a w, Q (.panic c) (a.put oi.dst v) w → Q (.panic c) a w) (hld : (Ws.all fun L => leads md ops i n L) = true) (hiw : Ws.contains i = false) :
    ∀ (fuel : Nat) (listed : Array Bool) (a : Act) (w : World), ShutL md ops listed →
      (∀ j oj, ops[j]? = some oj → j ≠ i → listed.getD j true = false → (∀ e ∈ oj.after, Region.binds md e = true → e.on ≠ i) → oi.apart ops oj = true) →
      i ∈ Region.ready md ops listed → YieldsIf P ops S oi v a → S w →
      wpAnyW P md ops Q S Ws fuel (listed.setIfInBounds i true) (a.put oi.dst v) w → wpAnyW P md ops Q S Ws (fuel + 1) listed a w := by
  intro fuel
  induction fuel with
  | zero =>
    intro listed a w _ _ hr hy hS H
    refine ⟨fun h => (by rw [h] at hr; cases hr), fun j hj => ?_⟩
    by_cases hji : j = i
    · subst hji; exact hy.wpOp hi hS ⟨.inr hS, H⟩
    · have := ready_mono hj hji
      rw [H.1] at this
      cases this
  | succ fuel ih =>
    intro listed a w hsh hfree hr hy hS H
    refine ⟨fun h => (by rw [h] at hr; cases hr), fun j hj => ?_⟩
    by_cases hji : j = i
    · subst hji; exact hy.wpOp hi hS ⟨.inr hS, H⟩
    · have h1 := H.2 j (ready_mono hj hji)
      obtain ⟨hjun, oj, hoj, hall⟩ := mem_ready.1 hj
      have hi0 := unlisted hr
      have hnw : wrote Ws ((listed.setIfInBounds i true).setIfInBounds j true) = false := by
        rw [Array.setIfInBounds_comm _ _ (Ne.symm hji), wrote_set hiw]
        refine wrote_not (hsh.step hj) ?_ hld
        rw [getD_set_ne false hji]
        exact hi0
      have hnot : ∀ e ∈ oj.after, Region.binds md e = true → e.on ≠ i := fun e he hb heq => by
        have h1 := hall e he hb
        rw [heq, hi0] at h1
        cases h1
      have h2 := wpOp_putIf hoj (hfree j oj hoj hji hjun hnot) (fun cs b => hsel i oi cs b hi) (fun cs b => hsel j oj cs b hoj) hQ hy h1
      have hfree' : ∀ k ok, ops[k]? = some ok → k ≠ i → (listed.setIfInBounds j true).getD k true = false →
          (∀ e ∈ ok.after, Region.binds md e = true → e.on ≠ i) → oi.apart ops ok = true := fun k ok hk hki hun hno => by
        refine hfree k ok hk hki ?_ hno
        by_cases hjk : j = k
        · subst hjk; exact hjun
        · rw [getD_set_ne true hjk] at hun; exact hun
      refine wpOp_mono (fun a' w' h3 => ?_) h2
      have hS' : S w' := h3.2.1.resolve_left (by rw [hnw]; simp)
      refine ⟨.inr hS', ih (listed.setIfInBounds j true) a' w' (hsh.step hj) hfree' (ready_mono hr (Ne.symm hji)) h3.1 hS' ?_⟩
      rw [Array.setIfInBounds_comm _ _ hji]
      exact h3.2.2

/-- One that yields its value in whatever world. -/
theorem wpAnyW_pure {i : Nat} {oi : Oper} {v : Value} (hi : ops[i]? = some oi) (hsel : ∀ (j : Nat) (o : Oper) cs b, ops[j]? = some o → o.op ≠ .select cs b)
    (hQ : ∀ c a w, Q (.panic c) (a.put oi.dst v) w → Q (.panic c) a w) (hiw : Ws.contains i = false) :
    ∀ (fuel : Nat) (listed : Array Bool) (a : Act) (w : World),
      (∀ j oj, ops[j]? = some oj → j ≠ i → listed.getD j true = false → (∀ e ∈ oj.after, Region.binds md e = true → e.on ≠ i) → oi.apart ops oj = true) →
      i ∈ Region.ready md ops listed → YieldsIf P ops (fun _ => True) oi v a → (wrote Ws listed = true ∨ S w) →
      wpAnyW P md ops Q S Ws fuel (listed.setIfInBounds i true) (a.put oi.dst v) w → wpAnyW P md ops Q S Ws (fuel + 1) listed a w := by
  intro fuel
  induction fuel with
  | zero =>
    intro listed a w _ hr hy hS H
    refine ⟨fun h => (by rw [h] at hr; cases hr), fun j hj => ?_⟩
    by_cases hji : j = i
    · subst hji; exact hy.wpOp hi trivial ⟨by rw [wrote_set hiw]; exact hS, H⟩
    · have := ready_mono hj hji
      rw [H.1] at this
      cases this
  | succ fuel ih =>
    intro listed a w hfree hr hy hS H
    refine ⟨fun h => (by rw [h] at hr; cases hr), fun j hj => ?_⟩
    by_cases hji : j = i
    · subst hji; exact hy.wpOp hi trivial ⟨by rw [wrote_set hiw]; exact hS, H⟩
    · have h1 := H.2 j (ready_mono hj hji)
      obtain ⟨hjun, oj, hoj, hall⟩ := mem_ready.1 hj
      have hi0 := unlisted hr
      have hnot : ∀ e ∈ oj.after, Region.binds md e = true → e.on ≠ i := fun e he hb heq => by
        have h1 := hall e he hb
        rw [heq, hi0] at h1
        cases h1
      have h2 := wpOp_putIf hoj (hfree j oj hoj hji hjun hnot) (fun cs b => hsel i oi cs b hi) (fun cs b => hsel j oj cs b hoj) hQ hy h1
      have hfree' : ∀ k ok, ops[k]? = some ok → k ≠ i → (listed.setIfInBounds j true).getD k true = false →
          (∀ e ∈ ok.after, Region.binds md e = true → e.on ≠ i) → oi.apart ops ok = true := fun k ok hk hki hun hno => by
        refine hfree k ok hk hki ?_ hno
        by_cases hjk : j = k
        · subst hjk; exact hjun
        · rw [getD_set_ne true hjk] at hun; exact hun
      refine wpOp_mono (fun a' w' h3 => ?_) h2
      have hS' : wrote Ws (listed.setIfInBounds j true) = true ∨ S w' := by
        have := h3.2.1
        rwa [Array.setIfInBounds_comm _ _ (Ne.symm hji), wrote_set hiw] at this
      refine ⟨hS', ih (listed.setIfInBounds j true) a' w' hfree' (ready_mono hr (Ne.symm hji)) h3.1 hS' ?_⟩
      rw [Array.setIfInBounds_comm _ _ hji]
      exact h3.2.2

theorem wpAnyW_take {i : Nat} {oi : Oper} {v : Value} {fuel : Nat} {listed : Array Bool} {a : Act} {w : World} (hi : ops[i]? = some oi)
    (hs : Region.noSelect ops = true) (hf : Region.free md ops listed i = true) (hr : (Region.ready md ops listed).contains i = true) (hld : (Ws.all fun L => leads md ops i 40 L) = true) (hiw : Ws.contains i = false) (hsh : shutB md ops listed = true)
    (hQ : ∀ c a w, Q (.panic c) (a.put oi.dst v) w → Q (.panic c) a w) (hy : YieldsIf P ops S oi v a) (hS : S w)
    (h : wpAnyW P md ops Q S Ws fuel (listed.setIfInBounds i true) (a.put oi.dst v) w) : wpAnyW P md ops Q S Ws (fuel + 1) listed a w :=
  wpAnyW_first hi (Region.noSelect_spec hs) hQ hld hiw fuel listed a w (shutL_of hsh) (Region.free_spec hi hf) (by simpa using hr) hy hS h
theorem wpAnyW_take0 {i : Nat} {oi : Oper} {v : Value} {fuel : Nat} {listed : Array Bool} {a : Act} {w : World} (hi : ops[i]? = some oi)
    (hs : Region.noSelect ops = true) (hf : Region.free md ops listed i = true) (hr : (Region.ready md ops listed).contains i = true) (hiw : Ws.contains i = false)
    (hQ : ∀ c a w, Q (.panic c) (a.put oi.dst v) w → Q (.panic c) a w) (hy : YieldsIf P ops (fun _ => True) oi v a) (hS : wrote Ws listed = true ∨ S w)
    (h : wpAnyW P md ops Q S Ws fuel (listed.setIfInBounds i true) (a.put oi.dst v) w) : wpAnyW P md ops Q S Ws (fuel + 1) listed a w :=
  wpAnyW_pure hi (Region.noSelect_spec hs) hQ hiw fuel listed a w (Region.free_spec hi hf) (by simpa using hr) hy hS h

/-- A writer, or one that comes up behind a writer: nothing of S is shown. -/
theorem wpAnyW_one {fuel : Nat} {listed : Array Bool} {a : Act} {w : World} {i : Nat} {o : Oper} (ho : ops[i]? = some o) (hr : Region.ready md ops listed = [i]) (hw : wrote Ws (listed.setIfInBounds i true) = true)
    (h : ∀ K' : Act → World → Prop, Shut (∀ a w, wpAnyW P md ops Q S Ws fuel (listed.setIfInBounds i true) a w → K' a w) → if Region.wanted o (yielded ops a.tmps) = true then Oper.wp P o a w K' Q else K' (a.put o.dst undef) w) :
    wpAnyW P md ops Q S Ws (fuel + 1) listed a w := by
  refine ⟨fun h0 => ?_, fun j hj => ?_⟩
  · rw [hr] at h0
    cases h0
  · rw [hr] at hj
    obtain rfl : j = i := by simpa using hj
    exact wpOp_step ho (fun K' hK => h K' (fun a w hW => hK a w ⟨.inl hw, hW⟩))

theorem wpAnyW_done {fuel : Nat} {listed : Array Bool} {a : Act} {w : World} (he : Region.ready md ops listed = []) (h : Q .normal a w) : wpAnyW P md ops Q S Ws fuel listed a w := by
  cases fuel with
  | zero => exact ⟨he, h⟩
  | succ n => exact ⟨fun _ => h, by rw [he]; simp⟩

theorem wp_region_wrote {id : Nat} {a : Act} {w : World} (Ws : List Nat) (hm : P.follows .mixedOrders = true) (hS : S w.drew)
    (h : S w.drew → wpAnyW P .any ops Q S Ws ops.size (Array.replicate ops.size false) a w.drew) : (Code.region id ops true).wp P Q a w :=
  wp_region_any hm (wpAny_of_wrote _ _ _ _ (h hS))

end
end Go.Proofs.YtpihigcnoifcfaaGreatDoor
