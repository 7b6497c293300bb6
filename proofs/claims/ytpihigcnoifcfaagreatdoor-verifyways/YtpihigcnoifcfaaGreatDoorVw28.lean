/- The document's root at a depth, as a contract. -/
import Derived.Test.YtpihigcnoifcfaaGreatDoorVw27
import Derived.Test.YtpihigcnoifcfaaGreatDoorVw19
namespace Go.Proofs.YtpihigcnoifcfaaGreatDoor
set_option maxRecDepth 20000
open Go.RowKit

theorem b32_facts (D : List Int) (h : D.length = 32) : (Tryz.prog.info? 23).map (·.size) = some (B D).size ∧ (B (List.replicate 32 0)).size = (B D).size := ⟨by rw [B_size, h]; exact size_b32, by rw [B_size, B_size, h]; rfl⟩

theorem rt_length (n d : Nat) (es : List Ent) : (rt n d es).length = 32 := by
  match n, es with
  | _, [] => rw [rt_nil]; exact dig_length _
  | _, [x] => rw [rt_one]; exact dig_length _
  | 0, _ :: _ :: _ => exact dig_length _
  | n + 1, a :: b :: l => rw [rt_more n d _ (by simp)]; exact dig_length _
theorem rt_bytes (n d : Nat) (es : List Ent) : Bytes (rt n d es) := by
  match n, es with
  | _, [] => rw [rt_nil]; exact dig_bytes _
  | _, [x] => rw [rt_one]; exact dig_bytes _
  | 0, _ :: _ :: _ => exact dig_bytes _
  | n + 1, a :: b :: l => rw [rt_more n d _ (by simp)]; exact dig_bytes _

/-- All keys have the same first d bits. -/
def SamE (es : List Ent) (d : Nat) : Prop := ∀ a ∈ es, ∀ b ∈ es, ∀ j, j < d → kb a.1 j = kb b.1 j
theorem SamE.side {es : List Ent} {d : Nat} (hd : d < 256) (b : Int) (h : SamE es d) : SamE (sideOf es d b) (d + 1) := by
  intro x hx y hy j hj
  unfold sideOf at hx hy
  rw [List.mem_filter, beq_iff_eq, kbi_in _ _ hd] at hx hy
  by_cases e : j = d
  · rw [e, hx.2, hy.2]
  · exact h x hx.1 y hy.1 j (by omega)
theorem SamE.few {es : List Ent} (hk : ∀ e ∈ es, Key e.1) (ha : Apart1 es) (h : SamE es 256) : es.length ≤ 1 := by
  match es, hk, ha, h with
  | [], _, _, _ => simp
  | e :: r, hk, ha, h => exact Share.few (key := e.1) hk ha (fun x hx j hj => h x hx e (by simp) j hj)

end Go.Proofs.YtpihigcnoifcfaaGreatDoor

/- Entries appended one by one, with where they lie (moved out of Cpb5). -/
namespace Go.Proofs.YtpihigcnoifcfaaGreatDoor
set_option maxRecDepth 20000
open Go.RowKit

/-- A list's block behind an append. -/
def Where (w : World) (v v' : Value) : Prop := v'.ownBlock = v.ownBlock ∨ ∃ k, v'.ownBlock = some k ∧ w.heap.size ≤ k

theorem run_appP (ty : TypeId) (w : World) (base : Nat) (v : Value) (n : Nat) (xs : List Value) (hown : w.ownsRow base 45 33 v n xs) (g : Nat) (k : List Int) (u : Value)
    (hb : Blk w g 45 (encP k u).toArray) (hl : k.length = 32) (h1 : u.oneCell' = true) (hn : n ≤ 4096) (hbase : base ≤ w.heap.size) :
    ∃ v' w', (Builtin.append_ #[22, 22] ty #[v, .slice (some ⟨g, 0, none⟩) 1 1]).run Tryz.prog w = .ok v' w' ∧ w'.ownsRow base 45 33 v' (n + 1) (xs ++ encP k u) ∧ w.grownBy w' v.ownBlock ∧ Where w v v' := by
  obtain ⟨i, z, hi, hz, hsz, hby, hzs⟩ := info_pair
  have hlen : (encP k u).length = 1 * 33 := by rw [encP_length k u hl]
  have hnews : ∀ j q, (encP k u)[j]? = some q → w.cell? ((⟨g, 0, none⟩ : Addr).add j) = some q := by
    intro j q hq
    rw [Addr.add_lit, Nat.zero_add, hb.cell]
    simpa using hq
  have hone : ∀ q ∈ encP k u, q.oneCell' = true := by
    intro q hq
    unfold encP at hq
    rcases List.mem_append.1 hq with hq | hq
    · obtain ⟨z, _, rfl⟩ := List.mem_map.1 hq
      rfl
    · obtain rfl : q = u := by simpa using hq
      exact h1
  obtain ⟨v', w', hr, h2, h3, _⟩ := run_append_own (P := Tryz.prog) w base 22 ty 45 i z 33 56 Tryz.underlying22 hi hz hsz hby hzs (by omega) v n xs hown ⟨g, 0, none⟩ 1 1 (encP k u) hlen hnews hone (by simp only [maxLen]; omega) (by omega) hbase
  refine ⟨v', w', hr, h2, h3, ?_⟩
  rcases hown.2 with ⟨rfl, rfl⟩ | ⟨g0, cap, cur, rfl, hbg, hg, hnc, hcm, hcs, htake⟩
  · right
    obtain ⟨v2, w2, hr2, h4, _⟩ := run_append_own (P := Tryz.prog) w w.heap.size 22 ty 45 i z 33 56 Tryz.underlying22 hi hz hsz hby hzs (by omega) (.slice none 0 0) 0 [] (World.ownsRow_nil _ _ _ _) ⟨g, 0, none⟩ 1 1 (encP k u) hlen hnews hone (by simp only [maxLen]; omega) (by omega) (Nat.le_refl _)
    rw [hr] at hr2
    injection hr2 with e1 e2
    subst e1
    subst e2
    rcases h4.2 with ⟨e, e2⟩ | ⟨g', cap', cur', e, hb', _⟩
    · omega
    · exact ⟨g', by rw [e]; rfl, hb'⟩
  · by_cases hroom : n + 1 ≤ cap
    · left
      have hr2 := run_append_room (P := Tryz.prog) w 22 ty 45 i Tryz.underlying22 hi g0 n cap cur hg ⟨g, 0, none⟩ 1 1 (encP k u) (by rw [hsz]; exact hlen) hnews hone hroom (by rw [hsz, hlen, hcs]; omega)
      rw [hr] at hr2
      injection hr2 with e1 e2
      rw [e1]
      rfl
    · right
      have holds : ∀ j q, xs[j]? = some q → w.cell? ((⟨g0, 0, none⟩ : Addr).add j) = some q := hown.cells (g := g0) rfl
      have hr2 := run_append_grow (P := Tryz.prog) w 22 ty 45 i z Tryz.underlying22 hi hz ⟨g0, 0, none⟩ n cap xs (by rw [hsz]; exact hown.1) holds ⟨g, 0, none⟩ 1 1 (encP k u) (by rw [hsz]; exact hlen) hnews (by omega) (by omega) (growslice_fits (by omega) (by rw [hby]; omega))
      rw [hr] at hr2
      injection hr2 with e1 e2
      exact ⟨w.heap.size, by rw [e1]; rfl, Nat.le_refl _⟩

/-- []api.Pair{x}, in a region that draws its order. -/
theorem step_bsp {ops : Array Oper} {op : Oper} {a : Act} {K : Act → World → Prop} {Q : Exit → Act → World → Prop} {E : Prop} (w : World) (hgd : op.guard = none) (x : Operand) (ho : op.op = .buildSlice 22 1 #[(0, x)])
    (k : List Int) (v : Value) (hx : a.eval x = .agg (encP k v).toArray) (hl : k.length = 32)
    (hk : K (a.put op.dst (.slice (some ⟨w.heap.size, 0, none⟩) 1 1)) (w.alloc (.cells (encP k v).toArray 45))) : if Region.wanted op (yielded ops a.tmps) = true then Oper.wp Tryz.prog op a w K Q else E := by
  have hw : Region.wanted op (yielded ops a.tmps) = true := by simp [Region.wanted, hgd]
  rw [if_pos hw]
  obtain ⟨i, z, hi, hz, hs, _, hzs⟩ := info_pair
  have hrun := run_buildSlice (P := Tryz.prog) w 22 45 1 #[(0, .agg (encP k v).toArray)] (encP k v).toArray i z Tryz.underlying22 hi hz (by rw [hs]; omega) (by rw [hs]; omega) (by
    rw [hs]
    obtain ⟨zs, hzz, hzl⟩ : ∃ zs : List Value, (Array.range (1 * 33)).map (z.cells[· % z.cells.size]!) = zs.toArray ∧ zs.length = 33 := ⟨_, (Array.toArray_toList).symm, by simp⟩
    rw [hzz]
    have := fill_one (fun i => some (i * 33, 33)) 0 0 33 (.agg (encP k v).toArray) (encP k v) zs [] rfl rfl (encP_length k v hl) (by omega)
    rw [show (#[(0, Value.agg (encP k v).toArray)] : Array (Nat × Value)).toList = [(0, Value.agg (encP k v).toArray)] from rfl, this, Instr.fill]
    simp [hzl])
  unfold Oper.wp execOp
  simp only [ho, List.map_toArray, List.map_cons, List.map_nil, hx, Sem.run_bind, hrun, Result.andThen_ok, Sem.run_pure]
  exact hk

/-- append of one entry, in a region that draws its order. -/
theorem step_appP {ops : Array Oper} {o : Oper} {a : Act} {K : Act → World → Prop} {Q : Exit → Act → World → Prop} {E : Prop} (w : World) (hgd : o.guard = none) (s x : Operand)
    (hop : o.op = .call { callee := .builtin .append, args := #[s, x], argTypes := #[22, 22] })
    (base : Nat) (v : Value) (n : Nat) (xs : List Value) (hown : w.ownsRow base 45 33 v n xs) (hs : a.eval s = v) (g : Nat) (k : List Int) (u : Value) (hx : a.eval x = .slice (some ⟨g, 0, none⟩) 1 1)
    (hb : Blk w g 45 (encP k u).toArray) (hl : k.length = 32) (h1 : u.oneCell' = true) (hn : n ≤ 4096) (hbase : base ≤ w.heap.size)
    (hk : ∀ v' w', w'.ownsRow base 45 33 v' (n + 1) (xs ++ encP k u) → w.grownBy w' v.ownBlock → Where w v v' → K (a.put o.dst v') w') : if Region.wanted o (yielded ops a.tmps) = true then Oper.wp Tryz.prog o a w K Q else E := by
  have hw : Region.wanted o (yielded ops a.tmps) = true := by simp [Region.wanted, hgd]
  rw [if_pos hw]
  obtain ⟨v', w', hr, h2, h3, h4⟩ := run_appP o.type w base v n xs hown g k u hb hl h1 hn hbase
  unfold Oper.wp execOp
  simp only [hop, resolve, invoke, builtin, Sem.run_bind, Sem.run_pure, Result.andThen_ok, List.map_toArray, List.map_cons, List.map_nil, hs, hx, hr]
  exact hk v' w' h2 h3 h4

end Go.Proofs.YtpihigcnoifcfaaGreatDoor

/- rootcellarkit.CopyBytes, CopyPairs and Pick, as contracts; entries appended, with where they lie. -/
namespace Go.Proofs.YtpihigcnoifcfaaGreatDoor
set_option maxRecDepth 20000
open Go.RowKit

def paPlaces : Nat → Option (Nat × Nat) := fun i => (#[(0, 32), (32, 1)] : Array (Nat × Nat))[i]?

theorem built_paEq (ps : List (Nat × Value)) : Tryz.prog.built 45 ps = Instr.fill paPlaces (encP z32 (.slice none 0 0)).toArray ps := by kernel_rfl

theorem built_pair2 (K : List Int) (a : Option Addr) (n c : Nat) (hk : K.length = 32) : Tryz.prog.built 45 [(0, .agg (B K)), (1, .slice a n c)] = some (encP K (.slice a n c)).toArray := by
  rw [built_paEq]
  rw [fill_one paPlaces 0 0 32 (.agg (B K)) (K.map (Value.int .u8)) (encP z32 (.slice none 0 0)) _ rfl (cells_b K) (by simp [hk]) (by simp [encP, z32_length])]
  have e1 : (encP z32 (.slice none 0 0)).take 0 ++ (K.map (Value.int .u8) ++ (encP z32 (.slice none 0 0)).drop (0 + 32)) = K.map (Value.int .u8) ++ [.slice none 0 0] := by simp [encP, z32]
  first
    | rw [e1]
    | skip
  rw [fill_one paPlaces 1 32 1 (.slice a n c) [.slice a n c] _ _ rfl rfl rfl (by simp [hk, encP, z32_length])]
  simp [encP, Instr.fill, hk, z32]

/-- A value's block is no list's. -/
theorem ownV_ne {w : World} {b base n : Nat} {u v : Value} {zs sp : List Int} {xs : List Value} (h : Own b w u zs sp) (ho : w.ownsRow base 45 33 v n xs) : ∀ k, u.ownBlock = some k → some k ≠ v.ownBlock := by
  intro k hk
  rcases h.2.2.2 with ⟨rfl, _⟩ | ⟨g, rest, _, rfl, hrow⟩
  · simp [Value.ownBlock] at hk
  · obtain rfl : g = k := by simpa [Value.ownBlock] using hk
    rcases ho.2 with ⟨rfl, _⟩ | ⟨g', cap, cur, rfl, _, hg, _⟩
    · simp [Value.ownBlock]
    · intro e
      obtain rfl : g = g' := by simpa [Value.ownBlock] using e
      have hrow' : w.heap[g]? = some (.cells (B (zs ++ sp ++ rest)) 5 (0, 0)) := hrow
      rw [hrow'] at hg
      injection hg with hg
      injection hg with _ ht
      exact absurd ht (by decide)

def CopyPost (es : List Ent) (w : World) (e : Ending) (w' : World) : Prop :=
  ∃ v its, e = .returned v ∧ its.map (·.1) = es ∧ (∀ p ∈ its, Key p.1.1 ∧ ∃ sp, Own w.heap.size w' p.2 p.1.2 sp) ∧ w'.ownsRow w.heap.size 45 33 v its.length (flatP its) ∧ Below w.heap.size w w'

end Go.Proofs.YtpihigcnoifcfaaGreatDoor
