/- OctetNumbers, walked: first the lists are lent. -/
import Derived.Test.YthbdnhfppjhppaaNumWalk
import Derived.Deep.RegionHeld2
namespace Go.Proofs.Ythbdnhfppjhppaa
open Go.RowKit

theorem ownsRow_below {w w' : World} {base : Nat} {v : Value} {n : Nat} {xs : List Value} (h : w.ownsRow base 22 1 v n xs) (hb : Below w.heap.size w w') : w'.ownsRow base 22 1 v n xs := by
  refine h.kept (below_grown hb none) ?_
  cases hv : v.ownBlock with
  | none => exact .inl rfl
  | some k => exact .inr (by simp)

theorem ownsRow_slice {w : World} {base : Nat} {v : Value} {n : Nat} {xs : List Value} (h : w.ownsRow base 22 1 v n xs) : ∃ a c, v = .slice a n c ∧ (a = none → n = 0) := by
  obtain ⟨_, h2⟩ := h
  rcases h2 with ⟨rfl, rfl⟩ | ⟨g, cap, cur, rfl, _⟩
  · exact ⟨_, _, rfl, fun _ => rfl⟩
  · exact ⟨_, _, rfl, fun h => by simp at h⟩

/-- append on a slice of slices of the call's own. -/
theorem wpList_appS {ops : Array Oper} {rest : List Oper} {o : Oper} {a : Act} {Q : Exit → Act → World → Prop} (w : World) (hgd : o.guard = none) (s x : Operand)
    (hop : o.op = .call { callee := .builtin .append, args := #[s, x], argTypes := #[33, 33] })
    (base : Nat) (v : Value) (n : Nat) (xs : List Value) (hown : w.ownsRow base 22 1 v n xs) (hs : a.eval s = v) (ad : Addr) (m c : Nat) (news : List Value) (hl : news.length = m) (hx : a.eval x = .slice (some ad) m c)
    (hnews : ∀ j u, news[j]? = some u → w.cell? (ad.add j) = some u) (h1 : ∀ u ∈ news, u.oneCell' = true) (hb : n + m ≤ 1000000000) (hbase : base ≤ w.heap.size)
    (h : ∀ v' w', w'.ownsRow base 22 1 v' (n + m) (xs ++ news) → w.grownBy w' v.ownBlock → wpList Try.prog ops Q rest (a.put o.dst v') w') :
    wpList Try.prog ops Q (o :: rest) a w := by
  obtain ⟨i, hi, hz, hsz, hby⟩ := info_parts info_slice
  exact wpList_append_own w hgd s x _ hop base _ i _ 1 24 u_lists hi hz hsz hby rfl (by omega) v n xs hs hown ad m c news hx (by omega) hnews h1 (by simp only [maxLen]; omega) (by omega) hbase (fun v' w' h1 h2 _ => h v' w' h1 h2)

theorem one_new (w : World) (x : Value) (t : TypeId) : ∀ j u, [x][j]? = some u → (w.alloc (.cells #[x] t)).cell? ((⟨w.heap.size, 0, none⟩ : Addr).add j) = some u := by
  intro j u hu
  have hr : (w.alloc (.cells #[x] t)).heap[w.heap.size]? = some (.cells #[x] t (0, 0)) := heap_alloc_new w _
  rw [Addr.add_lit, Nat.zero_add, cell_of_row _ _ _ _ _ _ hr]
  match j, hu with
  | 0, hu => simpa using hu

theorem three_new (w : World) (x y z : Value) (t : TypeId) : ∀ j u, [x, y, z][j]? = some u → (w.alloc (.cells #[x, y, z] t)).cell? ((⟨w.heap.size, 0, none⟩ : Addr).add j) = some u := by
  intro j u hu
  have hr : (w.alloc (.cells #[x, y, z] t)).heap[w.heap.size]? = some (.cells #[x, y, z] t (0, 0)) := heap_alloc_new w _
  rw [Addr.add_lit, Nat.zero_add, cell_of_row _ _ _ _ _ _ hr]
  match j, hu with
  | 0, hu => simpa using hu
  | 1, hu => simpa using hu
  | 2, hu => simpa using hu

theorem Parts.grow {w w' : World} {v : Value} {ps : List (List Int)} (h : Parts w v ps) (hb : Below w.heap.size w w') : Parts w' v ps := by
  obtain ⟨a, cap, V, e, h1, h2, h3, h4⟩ := h
  refine ⟨a, cap, V, e, h1, h2, fun hp => ?_, fun i hi => (h4 i hi).grow hb⟩
  obtain ⟨b, off, ea, hc⟩ := h3 hp
  exact ⟨b, off, ea, fun i hi => (hb.cell (p := ⟨b, off + i, none⟩) (block_lt_of_cell (hc i hi))).trans (hc i hi)⟩

theorem Row.pre {w : World} {g : Nat} {zs ms : List Int} (h : Row w g (zs ++ ms)) (hz : Bytes zs) (c : Nat) (hc : zs.length ≤ c) : Reads w (.slice (some ⟨g, 0, none⟩) zs.length c) zs := by
  refine ⟨_, _, rfl, hc, fun h => by simp at h, hz, fun _ => ⟨g, 0, rfl, fun i hi => ?_⟩⟩
  rw [Nat.zero_add, h.cell i (by simp; omega)]
  simp only [List.getD]
  rw [List.getElem?_append_left hi]

/-- What was lent reads as the parts. -/
theorem lent_parts {ps : List (List Int)} {base : Nat} {gs : List Nat} {w : World} {ta : Option Addr} {tc : Nat} (hb : ∀ j, Bytes (ps.getD j [])) (hn : ps.length ≤ 1048576) (hg : gs.length = ps.length) (hL : Lent ps base gs w) (hO : w.ownsRow base 22 1 (.slice ta ps.length tc) ps.length (vals ps gs)) : Parts w (.slice ta ps.length tc) ps := by
  have hO' := hO
  obtain ⟨_, h2⟩ := hO'
  have hcap : ps.length ≤ tc := by
    rcases h2 with ⟨e, e2⟩ | ⟨g, cap, cur, e, _, _, h3, _⟩
    · injection e with e1 e3 e4
      omega
    · injection e with e1 e3 e4
      omega
  refine ⟨ta, tc, fun i => lentV ps i (gs.getD i 0), rfl, hcap, by omega, fun hp => ?_, fun i hi => ?_⟩
  · rcases h2 with ⟨e, e2⟩ | ⟨g, cap, cur, e, _⟩
    · omega
    · injection e with e1 e3 e4
      subst e1
      refine ⟨g, 0, rfl, fun i hi => ?_⟩
      have := hO.cells (g := g) rfl i _ (vals_get ps gs i (by omega))
      rw [Addr.add_lit] at this
      exact this
  · exact (hL.row i (by omega)).pre (hb i) _ (by omega)

theorem Own.row {b : Nat} {w : World} {v : Value} {zs sp : List Int} (h : Own b w v zs sp) {k : Nat} (hk : v.ownBlock = some k) : ∃ rs, Row w k rs := by
  obtain ⟨_, _, _, h4⟩ := h
  rcases h4 with ⟨rfl, _⟩ | ⟨g, rest, _, rfl, h5⟩
  · simp [Value.ownBlock] at hk
  · simp only [Value.ownBlock, Option.some.injEq] at hk
    subst hk
    exact ⟨_, h5⟩

theorem lent_own {ps : List (List Int)} {base : Nat} {gs : List Nat} {w : World} (hb : ∀ j, Bytes (ps.getD j [])) (hl : ∀ j, (ps.getD j []).length ≤ 1048576) (hL : Lent ps base gs w) (j : Nat) (hj : j < gs.length) : Own base w (lentV ps j (gs.getD j 0)) (ps.getD j []) (marks (ps.getD j []).length) := by
  have := Own.mk (base := base) (hb j) (marks_bytes (ps.getD j []).length) (by rw [marks_length]; have := hl j; simp only [maxLen]; omega) (hL.ge j hj) (hL.row j hj)
  rw [marks_length] at this
  exact this

/-- Lists of the law's own, the lent ones first, then three more. -/
def pick3 {α : Type} (n : Nat) (f : Nat → α) (x y z : α) (i : Nat) : α := if i < n then f i else if i = n then x else if i = n + 1 then y else z

theorem lists_all {ps : List (List Int)} {base B1 B2 B3 : Nat} {gs : List Nat} {w : World} {x y z : Value} {zx sx zy sy zz sz : List Int} {gl : Nat} {cs : Array Value} (hn : gs.length = ps.length)
    (hb : ∀ j, Bytes (ps.getD j [])) (hl : ∀ j, (ps.getD j []).length ≤ 1048576) (hL : Lent ps base gs w) (hlt : ∀ j, j < gs.length → gs.getD j 0 < B1)
    (ox : Own B1 w x zx sx) (lx : ∀ k, x.ownBlock = some k → k < B2) (oy : Own B2 w y zy sy) (ly : ∀ k, y.ownBlock = some k → k < B3) (oz : Own B3 w z zz sz) (h12 : base ≤ B1) (h23 : B1 ≤ B2) (h34 : B2 ≤ B3)
    (hgl : w.heap[gl]? = some (.cells cs 22 (0, 0))) (hcell : ∀ i, i < ps.length + 3 → w.cell? ⟨gl, 0 + i, none⟩ = some (pick3 ps.length (fun i => lentV ps i (gs.getD i 0)) x y z i)) :
    Lists base gl 0 (ps.length + 3) (pick3 ps.length (fun i => lentV ps i (gs.getD i 0)) x y z) (pick3 ps.length (fun i => ps.getD i []) zx zy zz) (pick3 ps.length (fun i => marks (ps.getD i []).length) sx sy sz) w := by
  have own : ∀ i, i < ps.length + 3 → Own base w (pick3 ps.length (fun i => lentV ps i (gs.getD i 0)) x y z i) (pick3 ps.length (fun i => ps.getD i []) zx zy zz i) (pick3 ps.length (fun i => marks (ps.getD i []).length) sx sy sz i) := by
    intro i hi
    unfold pick3
    by_cases h1 : i < ps.length
    · simp only [h1, if_true]
      exact lent_own hb hl hL i (by omega)
    · simp only [h1, if_false]
      by_cases h2 : i = ps.length
      · simp only [h2, if_true]
        exact ox.mono h12
      · simp only [h2, if_false]
        by_cases h3 : i = ps.length + 1
        · simp only [h3, if_true]
          exact oy.mono (by omega)
        · simp only [h3, if_false]
          exact oz.mono (by omega)
  have place : ∀ i, i < ps.length + 3 → ∀ g, (pick3 ps.length (fun i => lentV ps i (gs.getD i 0)) x y z i).ownBlock = some g → (i < ps.length ∧ g = gs.getD i 0 ∧ g < B1) ∨ (i = ps.length ∧ B1 ≤ g ∧ g < B2) ∨ (i = ps.length + 1 ∧ B2 ≤ g ∧ g < B3) ∨ (i = ps.length + 2 ∧ B3 ≤ g) := by
    intro i hi g hg
    unfold pick3 at hg
    by_cases h1 : i < ps.length
    · simp only [h1, if_true, lentV, Value.ownBlock, Option.some.injEq] at hg
      have := hlt i (by omega)
      exact .inl ⟨h1, hg.symm, by omega⟩
    · simp only [h1, if_false] at hg
      by_cases h2 : i = ps.length
      · simp only [h2, if_true] at hg
        exact .inr (.inl ⟨h2, (ox.lt g hg).1, lx g hg⟩)
      · simp only [h2, if_false] at hg
        by_cases h3 : i = ps.length + 1
        · simp only [h3, if_true] at hg
          exact .inr (.inr (.inl ⟨h3, (oy.lt g hg).1, ly g hg⟩))
        · simp only [h3, if_false] at hg
          exact .inr (.inr (.inr ⟨by omega, (oz.lt g hg).1⟩))
  refine ⟨hcell, own, ?_, ?_⟩
  · intro i k hi hk hik g hg hg'
    have p1 := place i hi g hg
    have p2 := place k hk g hg'
    rcases p1 with ⟨a1, a2, a3⟩ | ⟨a1, a2, a3⟩ | ⟨a1, a2, a3⟩ | ⟨a1, a2⟩ <;> rcases p2 with ⟨b1, b2, b3⟩ | ⟨b1, b2, b3⟩ | ⟨b1, b2, b3⟩ | ⟨b1, b2⟩ <;> try omega
    exact hL.ne i k (by omega) (by omega) hik (by rw [← a2, ← b2])
  · intro i hi e
    obtain ⟨rs, hrs⟩ := (own i hi).row e
    exact hrs.not_slices hgl

set_option maxRecDepth 100000 in
set_option maxHeartbeats 4000000 in
theorem numbers_walk (v : Value) (ps : List (List Int)) (n m : Int) (w : World) (h : Parts w v ps) (hn : ps.length ≤ 1048576) (hl : ps.flatten.length ≤ 1048576) :
    Calls Try.prog 4 #[v, .int .i64 n, .int .i64 m] w fun e w' => e = .returned (.bool true) ∧ Below w.heap.size w w' := by
  have hp := h
  obtain ⟨a, cap, V, rfl, hcap, _, hcell, hr⟩ := hp
  have HP := hidden h
  have HC := hidden hcell
  have HR := hidden hr
  have HO : Hid (w.ownsRow w.heap.size 22 1 (.slice none 0 0) 0 (vals ps [])) := World.ownsRow_nil _ _ _ _
  have HL : Hid (Lent ps w.heap.size [] w) := ⟨fun j hj => by simp at hj, fun j hj => by simp at hj, fun i j hi => by simp at hi⟩
  clear h hcell hr
  go_enter Try.func4, Try.ntmps4
  go_wp2_with fail
  go_loopw [7, 8] (fun t i wr => ∃ (k : Nat) (gs : List Nat) (ta : Option Addr) (tc : Nat), k ≤ ps.length ∧ i = .int .i64 k ∧ t = .slice ta k tc ∧ Hid (gs.length = k) ∧ Hid (wr.ownsRow w.heap.size 22 1 t k (vals ps gs)) ∧ Hid (Lent ps w.heap.size gs wr) ∧ Below w.heap.size w wr) (fun _ i _ => ps.length - (intOf i).toNat)
  case atStart => exact ⟨0, [], none, 0, by omega, rfl, rfl, rfl, HO, HL, Below.refl _ _⟩
  case round =>
    obtain ⟨k, gs, ta, tc, hk, rfl, rfl, hgk, hO, hLt, hb⟩ := hrel
    by_cases hlt : k < ps.length
    · obtain ⟨b, off, rfl, hcc⟩ := HC.out (by omega)
      have hx := hcc k hlt
      have hx1 := (hb.cell (p := ⟨b, off + k, none⟩) (block_lt_of_cell hx)).trans hx
      have HRK := hidden ((HR.out k hlt).grow hb)
      have hle : (ps.getD k []).length ≤ 140737488355328 := by
        have h1 := lens_succ ps k hlt
        have h2 := lens_le ps (k + 1)
        omega
      clear hx hcc
      generalize hzk : ps.getD k [] = zk at *
      have HZK := hidden hzk
      clear hzk
      go_wp2_with fail
      refine (lent_any _ zk _ HRK.out hle).mono ?_
      rintro e w1 ⟨rfl, hr1, hb1, hs1⟩
      have HS1 := hidden hs1
      have HR1 := hidden hr1
      clear hs1 hr1
      go_wp2_with (at_builtin; refine wpList_appS _ rfl _ _ rfl w.heap.size (.slice ta k tc) k (vals ps gs) (ownsRow_below hO.out (grow_trans hb1 (grow_alloc _ _))) rfl _ 1 1 [_] rfl rfl (one_new _ _ _) (by simp [Value.oneCell']) (by omega) (by have h1 := hb.size; have h2 := hb1.size; simp; omega) ?_; intro v' w' h1 h2)
      have hLt1 : Lent ps w.heap.size (gs ++ [wr.heap.size]) w1 := by
        have hg := hgk.out
        refine hLt.out.snoc hb1 ?_ hb.size
        rw [hg, HZK.out]
        exact HR1.out
      have hO' : w'.ownsRow w.heap.size 22 1 v' (k + 1) (vals ps (gs ++ [wr.heap.size])) := by
        rw [vals_snoc]
        have hg := hgk.out
        unfold lentV
        rw [hg, HZK.out]
        exact h1
      have hLt' : Lent ps w.heap.size (gs ++ [wr.heap.size]) w' := by
        refine (hLt1.grow (grow_alloc w1 _)).step h2 ?_
        intro j hj
        exact owns_block (ownsRow_below hO.out (grow_trans hb1 (grow_alloc _ _))) hj
      have hb' : Below w.heap.size w w' := by
        refine ((grow_trans (grow_trans hb hb1) (grow_alloc w1 _))).grown h2 (by have h1 := hb.size; have h2 := hb1.size; simp; omega) ?_
        intro j hj
        obtain ⟨_, h3⟩ := hO.out
        rcases h3 with ⟨e, _⟩ | ⟨g, _, _, e, hge, _⟩
        · rw [e] at hj; simp [Value.ownBlock] at hj
        · rw [e] at hj; simp only [Value.ownBlock, Option.some.injEq] at hj; omega
      obtain ⟨ta', tc', hv', _⟩ := ownsRow_slice hO'
      exact ⟨⟨k + 1, gs ++ [wr.heap.size], ta', tc', by omega, by go_num, hv', by show _ = _; have := hgk.out; simp [this], hO', hLt', hb'⟩, by simp [intOf]; omega⟩
    · have hke : k = ps.length := by omega
      subst hke
      have hbys : ∀ j, Bytes (ps.getD j []) := by
        intro j
        by_cases hj : j < ps.length
        · obtain ⟨_, _, _, _, _, hb, _⟩ := HR.out j hj
          exact hb
        · simp only [List.getD, List.getElem?_eq_none (Nat.le_of_not_lt hj), Option.getD_none]
          exact Bytes.nil
      have HPL := hidden (lent_parts hbys hn hgk.out hLt.out hO.out)
      have HBY := hidden hbys
      clear hbys
      go_wp2_with fail
      obtain ⟨F, hF⟩ : ∃ F, F = ps.flatten := ⟨_, rfl⟩
      have HJ := hidden (join_any _ ps wr HPL.out (by omega))
      have HJ2 : Hid (∀ w', Below w.heap.size w w' → Calls Try.prog 22 #[.slice a ps.length cap] w' (JoinPost ps.flatten w')) := fun w' hw' => rjoin_any _ ps w' (HP.out.grow hw') (by omega)
      rw [← hF] at HJ HJ2
      have HP16 := hidden (put16_any n)
      have HR16 := hidden (rput2_any n)
      have HP32 := hidden (put32_any m)
      have HR32 := hidden (rput4_any m)
      generalize (p16 n).1 = e16 at HP16 HR16
      generalize (p16 n).2 = z16 at HP16 HR16
      generalize (p32 m).1 = e32 at HP32 HR32
      generalize (p32 m).2 = z32 at HP32 HR32
      have HF := hidden hF
      clear hF
      refine HJ.out.mono ?_
      rintro e w2 ⟨u2, sp2, rfl, ho2, hb2⟩
      obtain ⟨a2, c2, rfl⟩ := ho2.slice
      have HO2 := hidden ho2
      clear ho2
      go_wp2_with fail
      refine (HP16.out w2).mono ?_
      rintro e w3 ⟨u3, sp3, rfl, ho3, hb3⟩
      obtain ⟨a3, c3, rfl⟩ := ho3.slice
      have HO3 := hidden ho3
      clear ho3
      go_wp2_with fail
      refine (HP32.out w3).mono ?_
      rintro e w4 ⟨u4, sp4, rfl, ho4, hb4⟩
      obtain ⟨a4, c4, rfl⟩ := ho4.slice
      have HO4 := hidden ho4
      clear ho4
      go_wp2_with fail
      refine (HR16.out w4).mono ?_
      rintro e w5 ⟨u5, sp5, rfl, ho5, hb5⟩
      have HO5 := hidden ho5
      clear ho5
      go_wp2_with fail
      refine (HR32.out w5).mono ?_
      rintro e w6 ⟨u6, sp6, rfl, ho6, hb6⟩
      have HO6 := hidden ho6
      clear ho6
      have hbw6 : Below w.heap.size w w6 := grow_trans (grow_trans (grow_trans (grow_trans (grow_trans hb hb2) hb3) hb4) hb5) hb6
      go_wp2_with fail
      refine (HJ2.out w6 hbw6).mono ?_
      rintro e w7 ⟨u7, sp7, rfl, ho7, hb7⟩
      have g27 := grow_trans (grow_trans (grow_trans (grow_trans hb3 hb4) hb5) hb6) hb7
      have g37 := grow_trans (grow_trans (grow_trans hb4 hb5) hb6) hb7
      have g47 := grow_trans (grow_trans hb5 hb6) hb7
      have g57 := grow_trans hb6 hb7
      have HO7 := hidden ho7
      clear ho7
      go_wp2_with fail
      refine (same_any _ _ F F w7 (HO2.out.reads.grow g27) HO7.out.reads).mono ?_
      rintro e w8 ⟨rfl, rfl⟩
      rw [show decide (F = F) = true by simp]
      go_wp2_with fail
      refine (same_any _ _ z16 z16 w8 (HO3.out.reads.grow g37) (HO5.out.reads.grow g57)).mono ?_
      rintro e w9 ⟨rfl, rfl⟩
      rw [show decide (z16 = z16) = true by simp]
      go_wp2_with fail
      refine (same_any _ _ z32 z32 w9 (HO4.out.reads.grow g47) (HO6.out.reads.grow hb7)).mono ?_
      rintro e w10 ⟨rfl, rfl⟩
      rw [show decide (z32 = z32) = true by simp]
      have hz10 : Below wr.heap.size wr w10 := grow_trans hb2 g27
      have hbw10 : Below w.heap.size w w10 := grow_trans hb hz10
      have hls : ∀ j, (ps.getD j []).length ≤ 1048576 := by
        intro j
        by_cases hj : j < ps.length
        · have h1 := lens_succ ps j hj
          have h2 := lens_le ps (j + 1)
          omega
        · simp only [List.getD, List.getElem?_eq_none (Nat.le_of_not_lt hj), Option.getD_none, List.length_nil]
          omega
      have HLS := hidden hls
      have HL10 := hidden (hLt.out.grow hz10)
      have HW10 := hidden (ownsRow_below hO.out hz10)
      have HGL : Hid (∀ j, j < gs.length → gs.getD j 0 < wr.heap.size) := fun j hj => (hLt.out.row j hj).lt
      have HO2' := hidden (HO2.out.grow g27)
      have HO3' := hidden (HO3.out.grow g37)
      have HO4' := hidden (HO4.out.grow g47)
      have HB2 : Hid (∀ k, (Value.slice a2 F.length c2).ownBlock = some k → k < w2.heap.size) := fun k hk => (HO2.out.lt k hk).2
      have HB3 : Hid (∀ k, (Value.slice a3 z16.length c3).ownBlock = some k → k < w3.heap.size) := fun k hk => (HO3.out.lt k hk).2
      have hq1 := hb2.size
      have hq2 := hb3.size
      have hq3 := hb.size
      obtain ⟨wz, rfl⟩ : ∃ x, x = wr := ⟨_, rfl⟩
      clear hls HO2 HO3 HO4 HO5 HO6 HO7 g27 g37 g47 g57 hb2 hb3 hb4 hb5 hb6 hb7 hz10 hbw6 HJ HJ2 HP16 HP32 HR16 HR32 hO hLt HPL
      go_wp2_with fail
      go_loopw [19] (fun i wl => ∃ (j : Nat), j ≤ ps.length ∧ i = .int .i64 j ∧ Below w10.heap.size w10 wl) (fun i _ => ps.length - (intOf i).toNat)
      case atStart => exact ⟨0, by omega, rfl, Below.refl _ _⟩
      case round =>
        obtain ⟨j, hj, rfl, hbl⟩ := hrel
        by_cases hlt2 : j < ps.length
        · obtain ⟨b, off, rfl, hcc⟩ := HC.out (by omega)
          obtain ⟨gt, hgt⟩ : ∃ gt, ta = some ⟨gt, 0, none⟩ := by
            obtain ⟨_, h2⟩ := HW10.out
            rcases h2 with ⟨e, e2⟩ | ⟨g, _, _, e, _⟩
            · omega
            · injection e with e1
              exact ⟨g, e1⟩
          subst hgt
          have hc1 : w10.cell? ⟨gt, 0 + j, none⟩ = some (lentV ps j (gs.getD j 0)) := by
            have := HW10.out.cells (g := gt) rfl j _ (vals_get ps gs j (by have := hgk.out; omega))
            rw [Addr.add_lit] at this
            exact this
          rw [Nat.zero_add] at hc1
          have hc2 := hcc j hlt2
          have HS : Hid (∀ w', Below w10.heap.size w10 w' → w'.cell? ⟨gt, j, none⟩ = some (lentV ps j (gs.getD j 0)) ∧ w'.cell? ⟨b, off + j, none⟩ = some (V j)) := by
            intro w' hw'
            have hbx := grow_trans hbw10 hw'
            exact ⟨(hw'.cell (p := ⟨gt, j, none⟩) (block_lt_of_cell hc1)).trans hc1, (hbx.cell (p := ⟨b, off + j, none⟩) (block_lt_of_cell hc2)).trans hc2⟩
          have hb1 := grow_trans hbw10 hbl
          have HK : Hid (Calls Try.prog 16 #[lentV ps j (gs.getD j 0), V j] wr.drew fun e w' => e = .returned (.bool true) ∧ Below w10.heap.size w10 w') := by
            have hrow := ((HL10.out.grow hbl).row j (by have := hgk.out; omega))
            have hrd := (HR.out j hlt2).grow hb1
            refine (kept_true (gs.getD j 0) (V j) (ps.getD j []) wr.drew hrow.drew (by exact hrd) (by have := HLS.out j; omega)).mono ?_
            rintro e w' ⟨rfl, h2⟩
            exact ⟨rfl, grow_trans hbl (undrew h2)⟩
          have j1 : (j : Int) < (ps.length : Int) := by omega
          have j0 : (0 : Int) ≤ (j : Int) := by omega
          have hbd := hbl.drew
          generalize lentV ps j (gs.getD j 0) = lv at *
          generalize V j = vj at *
          clear hcc hc1 hc2
          go_wp2_with fail
          go_region_held2 (fun w' => w'.cell? ⟨gt, j, none⟩ = some lv ∧ w'.cell? ⟨b, off + j, none⟩ = some vj)
            (first | exact HS.out _ (by assumption))
            (first | (go_at_call 16; refine HK.out.mono ?_; rintro e w11 ⟨rfl, hb11⟩))
          go_wp2
          exact ⟨⟨j + 1, by omega, by go_num, by assumption⟩, by simp [intOf]; omega⟩
        · have hbw := grow_trans hbw10 hbl
          have HWl := hidden (ownsRow_below HW10.out hbl)
          have HLl := hidden (HL10.out.grow hbl)
          go_wp2_with (at_builtin; refine wpList_appS _ rfl _ _ rfl w.heap.size (.slice ta ps.length tc) ps.length (vals ps gs) (ownsRow_below HWl.out (grow_alloc _ _)) rfl _ 3 3 [_, _, _] rfl rfl (three_new _ _ _ _ _) (by simp [Value.oneCell']) (by omega) (by have h1 := hbw.size; simp; omega) ?_; intro v' w' h1 h2; obtain ⟨ta', tc', rfl, hta⟩ := ownsRow_slice h1)
          have hro : ∀ k, (Value.slice ta ps.length tc).ownBlock = some k → ∃ cs, (wr.alloc (.cells #[.slice a2 F.length c2, .slice a3 z16.length c3, .slice a4 z32.length c4] 22)).heap[k]? = some (.cells cs 22 (0, 0)) := fun k hk => owns_block (ownsRow_below HWl.out (grow_alloc _ _)) hk
          have keep : ∀ {base : Nat} {v : Value} {zs sp : List Int}, Own base wr v zs sp → Own base w' v zs sp := by
            intro base v zs sp ho
            have ho' := ho.grow (grow_alloc wr (.cells #[.slice a2 F.length c2, .slice a3 z16.length c3, .slice a4 z32.length c4] 22))
            refine ho'.of_block (fun k hk => h2.block k (ho'.lt k hk).2 (fun e => ?_))
            obtain ⟨cs, hcs⟩ := hro k e.symm
            obtain ⟨rs, hrs⟩ := ho'.row hk
            exact hrs.not_slices hcs
          have hLw : Lent ps w.heap.size gs w' := (HLl.out.grow (grow_alloc wr _)).step h2 hro
          obtain ⟨gl, cs, hgl1, hgl2⟩ : ∃ gl cs, ta' = some ⟨gl, 0, none⟩ ∧ w'.heap[gl]? = some (.cells cs 22 (0, 0)) := by
            obtain ⟨_, h3⟩ := h1
            rcases h3 with ⟨e, e2⟩ | ⟨g, _, cur, e, _, hh, _⟩
            · omega
            · injection e with e1
              exact ⟨g, cur, e1, hh⟩
          subst hgl1
          have hcap3 : ps.length + 3 ≤ tc' := by
            obtain ⟨_, h3⟩ := h1
            rcases h3 with ⟨e, e2⟩ | ⟨g, cc, cur, e, _, _, h4, _⟩
            · omega
            · injection e with e1 e3 e4
              omega
          have hcells : ∀ i, i < ps.length + 3 → w'.cell? ⟨gl, 0 + i, none⟩ = some (pick3 ps.length (fun i => lentV ps i (gs.getD i 0)) (.slice a2 F.length c2) (.slice a3 z16.length c3) (.slice a4 z32.length c4) i) := by
            intro i hi
            have hg := hgk.out
            have hget : (vals ps gs ++ [.slice a2 F.length c2, .slice a3 z16.length c3, .slice a4 z32.length c4])[i]? = some (pick3 ps.length (fun i => lentV ps i (gs.getD i 0)) (.slice a2 F.length c2) (.slice a3 z16.length c3) (.slice a4 z32.length c4) i) := by
              unfold pick3
              by_cases q1 : i < ps.length
              · simp only [q1, if_true]
                rw [List.getElem?_append_left (by rw [vals_length]; omega), vals_get ps gs i (by omega)]
              · rw [List.getElem?_append_right (by rw [vals_length]; omega), vals_length, hg]
                simp only [q1, if_false]
                rcases (show i = ps.length ∨ i = ps.length + 1 ∨ i = ps.length + 2 by omega) with q | q | q
                · simp [q]
                · simp [q]
                · rw [q, show ps.length + 2 - ps.length = 2 by omega]
                  simp
            have := h1.cells (g := gl) rfl i _ hget
            rw [Addr.add_lit] at this
            exact this
          have HLISTS := hidden (lists_all hgk.out HBY.out HLS.out hLw HGL.out (keep (HO2'.out.grow hbl)) HB2.out (keep (HO3'.out.grow hbl)) HB3.out (keep (HO4'.out.grow hbl)) hq3 hq1 hq2 hgl2 hcells)
          have hbfin : Below w.heap.size w w' := (grow_trans hbw (grow_alloc wr _)).grown h2 (by have h1 := hbw.size; simp; omega) (fun k hk => by
            obtain ⟨_, h3⟩ := HWl.out
            rcases h3 with ⟨e, _⟩ | ⟨g, _, _, e, hge, _⟩
            · rw [e] at hk; simp [Value.ownBlock] at hk
            · rw [e] at hk; simp only [Value.ownBlock, Option.some.injEq] at hk; omega)
          refine (apart_walk w.heap.size gl 0 (ps.length + 3) tc' _ _ _ w' (by omega) HLISTS.out hcap3).mono ?_
          rintro e w12 ⟨rfl, hb12⟩
          go_wp2_with fail
          go_ret
          exact ⟨rfl, grow_trans hbfin hb12⟩

end Go.Proofs.Ythbdnhfppjhppaa
