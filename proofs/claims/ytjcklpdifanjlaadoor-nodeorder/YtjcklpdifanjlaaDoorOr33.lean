/- node.mayBe, as a contract. -/
import Derived.Test.YtjcklpdifanjlaaDoorOr22
import Derived.Test.YtjcklpdifanjlaaDoorOr32
import Derived.Test.YtjcklpdifanjlaaDoorOr29
namespace Go.Proofs.YtjcklpdifanjlaaDoor
set_option maxRecDepth 20000
open Go.RowKit

theorem size_unit : (Tryd.prog.info? 140).map (·.size) = some (#[] : Array Value).size := by kernel_rfl

theorem built_unit : Tryd.prog.built 140 [] = some #[] := by kernel_rfl

theorem wpList_mkmap {ops : Array Oper} {rest : List Oper} {op : Oper} {a : Act} {Q : Exit → Act → World → Prop} (w : World) (hgd : op.guard = none) (x : Operand) (ho : op.op = .makeMap 139 (some x))
    (n : Int) (hx : a.eval x = .int .i64 n)
    (hk : ∀ w' g, w.heap.size ≤ g → KeysAt w' g [] → Below w.heap.size w w' → wpList Tryd.prog ops Q rest (a.put op.dst (.map (some g))) w') : wpList Tryd.prog ops Q (op :: rest) a w := by
  refine wpList_plain hgd fun K hK => ?_
  unfold Oper.wp execOp
  simp only [ho]
  simp [Instr.makeMap, hx, run_underlying u_keymap, asInt]
  exact hK _ _ (hk _ w.heap.size (Nat.le_refl _) (KeysAt.new w) (grow_alloc w _))

theorem KeysAt.kept {w w' : World} {b g : Nat} {ks : List (List Int)} (h : KeysAt w b ks) (hg : w.grownBy w' (some g)) (hne : b ≠ g) : KeysAt w' b ks := by
  have hl := h.lt
  obtain ⟨es, c, h1, h2⟩ := h
  exact ⟨es, c, (hg.block b hl (fun e => hne (by injection e))).trans h1, h2⟩

set_option maxRecDepth 100000 in
set_option maxHeartbeats 8000000 in
theorem mayBe_any (v : Value) (V : Nat → Value) (es : List Ent) (w : World) (hv : PrAt w v V es) (hn : es.length ≤ 140737488355328) :
    Calls Tryd.prog 75 #[v] w fun e w' => e = .returned (.int .i64 (errB es)) ∧ Below w.heap.size w w' := by
  obtain ⟨a, cap, rfl, hcap, hc, hr⟩ := hv
  by_cases hbig : 4096 < es.length
  · have hE : errB es = 4 := by rw [errB, if_pos hbig]
    rw [hE]
    have hb : (4096 : Int) < (es.length : Int) := by omega
    clear hc hr hcap hbig hE
    go_enter Tryd.func75, Tryd.ntmps75
    go_wp2
    go_ret
    exact ⟨rfl, Below.refl _ _⟩
  · have HE : Hid (errB es = lsE [] es) := by show _ = _; rw [errB, if_neg hbig]
    have HC := hidden hc
    have HR := hidden hr
    have hb : ¬ (4096 : Int) < (es.length : Int) := by omega
    obtain ⟨n, hnn⟩ : ∃ n, n = es.length := ⟨_, rfl⟩
    have HN := hidden hnn
    obtain ⟨E, hE⟩ : ∃ E, E = errB es := ⟨_, rfl⟩
    rw [← hE] at HE ⊢
    rw [← hnn] at hb hn ⊢
    clear hc hr hcap hbig hnn hE
    go_enter Tryd.func75, Tryd.ntmps75
    go_wp2_with (first
      | (refine wpList_mkmap _ rfl _ rfl _ rfl ?_; intro w1 gm hgm hk0 b1))
    have HGM := hidden hgm
    have HK0 := hidden hk0
    clear hgm hk0
    go_loopw [16] (fun i wr => ∃ k : Nat, k ≤ n ∧ i = .int .i64 k ∧ Hid (KeysAt wr gm ((es.take k).map (·.1))) ∧ Hid (E = lsE ((es.take k).map (·.1)) (es.drop k)) ∧ Below w.heap.size w wr) (fun i _ => n - (intOf i).toNat)
    case atStart => exact ⟨0, by omega, rfl, HK0, HE, b1⟩
    case round =>
      obtain ⟨k, hk, rfl, hks, hls, hbw⟩ := hrel
      by_cases hlt : k < n
      · have hlt' : k < es.length := by rw [← HN.out]; exact hlt
        obtain ⟨g, off, rfl, hcc⟩ := HC.out (by omega)
        have z1 : (k : Int) < (n : Int) := by omega
        have z0 : (0 : Int) ≤ (k : Int) := by omega
        obtain ⟨hkey, hrd⟩ := HR.out k hlt'
        have HRG : Hid (wr.rangeAt g (off + k * 33) (encP (es.getD k e00).1 (V k))) := rng_grow (hcc k hlt') hbw
        have hst := lsE_step ((es.take k).map (·.1)) es k hlt'
        rw [← hls.out] at hst
        have HKT := hidden (keys_take es k hlt')
        have HKL : Hid (∀ q ∈ (es.take k).map (·.1), q.length = 32) := by
          intro q hq
          obtain ⟨x, hx, rfl⟩ := List.mem_map.1 hq
          obtain ⟨j, hj, rfl⟩ := List.mem_iff_getElem.1 (List.mem_of_mem_take hx)
          have := (HR.out j hj).1.1
          simpa [List.getD, hj] using this
        obtain ⟨va, vc, hV, _, _, _, _⟩ := hrd
        obtain ⟨K, hK⟩ : ∃ K, K = (es.getD k e00).1 := ⟨_, rfl⟩
        obtain ⟨L, hL⟩ : ∃ L, L = (es.getD k e00).2.length := ⟨_, rfl⟩
        rw [← hK, ← hL] at hst
        rw [← hK] at HKT HRG hkey
        rw [← hL] at hV
        rw [hV] at HRG
        have HKY := hidden hkey
        obtain ⟨ks, hksd⟩ : ∃ ks, ks = (es.take k).map (·.1) := ⟨_, rfl⟩
        rw [← hksd] at hst hks HKL HKT
        have hsz : (Tryd.prog.info? 75).map (·.size) = some (encP K (.slice va L vc)).toArray.size := by rw [List.size_toArray, encP_length K _ HKY.out.1]; exact size_pair
        have hsz2 : (encP z32 (.slice none 0 0)).toArray.size = (encP K (.slice va L vc)).toArray.size := by rw [List.size_toArray, List.size_toArray, encP_length K _ HKY.out.1]; rfl
        have HSZ := hidden hsz
        have HSZ2 := hidden hsz2
        clear hcc hls hK hL hV hkey hksd hsz hsz2 hlt'
        by_cases hlong : 1024 < L
        · rw [if_pos hlong] at hst
          have hl2 : (1024 : Int) < (L : Int) := by omega
          have HSTT := hidden hst
          clear hst hlong
          go_wp2_with (first
            | ((with_reducible refine at_ldd 19 18 ?_); refine wpList_ldp _ rfl _ rfl g (off + k * 33) K _ rfl HRG.out HKY.out.1 ?_)
            | ((with_reducible refine at_ald 5 ?_); refine wpList_al _ rfl _ rfl _ zero_pair ?_; intro w2 g5 hg5 hl5 B5 q5)
            | ((with_reducible refine at_st 5 ?_); refine wpList_sto _ rfl _ _ _ rfl g5 _ _ rfl rfl B5 HSZ.out HSZ2.out (encP_one _ _ _ _) ?_; intro w3 B6 r6; have q6 := below_row q5 r6 hg5; have ckv := pair_val B6 HKY.out.1))
          go_ret
          exact ⟨by rw [HSTT.out]; rfl, grow_trans hbw q6⟩
        · rw [if_neg hlong] at hst
          have hl2 : ¬ (1024 : Int) < (L : Int) := by omega
          by_cases hmem : K ∈ ks
          · rw [if_pos hmem] at hst
            have hdd : decide (K ∈ ks) = true := decide_eq_true hmem
            have HSTT := hidden hst
            clear hst hlong hmem
            go_wp2_with (first
              | ((with_reducible refine at_ldd 19 18 ?_); refine wpList_ldp _ rfl _ rfl g (off + k * 33) K _ rfl HRG.out HKY.out.1 ?_)
              | ((with_reducible refine at_ald 5 ?_); refine wpList_al _ rfl _ rfl _ zero_pair ?_; intro w2 g5 hg5 hl5 B5 q5)
              | ((with_reducible refine at_st 5 ?_); refine wpList_sto _ rfl _ _ _ rfl g5 _ _ rfl rfl B5 HSZ.out HSZ2.out (encP_one _ _ _ _) ?_; intro w3 B6 r6; have q6 := below_row q5 r6 hg5; have ckv := pair_val B6 HKY.out.1)
              | ((with_reducible refine at_ldd 27 26 ?_); refine wpList_ldk _ rfl _ rfl g5 0 K rfl (pair_key B6) HKY.out.1 ?_)
              | (refine wpList_look _ rfl _ _ rfl gm ks K rfl rfl HKY.out.1 HKL.out (hks.out.grow q6) ?_)
              | ((with_reducible refine at_ald 6 ?_); refine wpList_al _ rfl _ rfl _ zero_unit ?_; intro w4 g6 hg6 hl6 B7 q7))
            go_ret
            exact ⟨by rw [HSTT.out]; rfl, grow_trans (grow_trans hbw q6) q7⟩
          · rw [if_neg hmem] at hst
            have hdd : decide (K ∈ ks) = false := decide_eq_false hmem
            have HSTT := hidden hst
            have HMEM := hidden hmem
            clear hst hlong hmem
            go_wp2_with (first
              | ((with_reducible refine at_ldd 19 18 ?_); refine wpList_ldp _ rfl _ rfl g (off + k * 33) K _ rfl HRG.out HKY.out.1 ?_)
              | ((with_reducible refine at_ald 5 ?_); refine wpList_al _ rfl _ rfl _ zero_pair ?_; intro w2 g5 hg5 hl5 B5 q5)
              | ((with_reducible refine at_st 5 ?_); refine wpList_sto _ rfl _ _ _ rfl g5 _ _ rfl rfl B5 HSZ.out HSZ2.out (encP_one _ _ _ _) ?_; intro w3 B6 r6; have q6 := below_row q5 r6 hg5; have ckv := pair_val B6 HKY.out.1)
              | ((with_reducible refine at_ldd 27 26 ?_); refine wpList_ldk _ rfl _ rfl g5 0 K rfl (pair_key B6) HKY.out.1 ?_)
              | (refine wpList_look _ rfl _ _ rfl gm ks K rfl rfl HKY.out.1 HKL.out (hks.out.grow q6) ?_)
              | ((with_reducible refine at_ald 6 ?_); refine wpList_al _ rfl _ rfl _ zero_unit ?_; intro w4 g6 hg6 hl6 B7 q7)
              | ((with_reducible refine at_ldd 34 33 ?_); refine wpList_ldk _ rfl _ rfl g5 0 K rfl (pair_key (B6.grow q7)) HKY.out.1 ?_)
              | ((with_reducible refine at_bdd 35 ?_); refine wpList_bld _ rfl _ _ rfl _ (by rw [List.map_toArray]; exact built_unit) ?_)
              | (refine wpList_keyPut _ rfl _ _ _ rfl gm ks K rfl rfl rfl HKY.out.1 HKL.out HMEM.out ((hks.out.grow q6).grow q7) ?_; intro w6 K6 r9))
            have hbel : Below w.heap.size w w6 := below_row (grow_trans (grow_trans hbw q6) q7) r9 HGM.out
            exact ⟨⟨k + 1, by omega, by go_num, by rw [HKT.out]; exact K6, by rw [HKT.out]; exact HSTT.out, hbel⟩, by simp [intOf]; omega⟩
      · have hkn : k = es.length := by rw [← HN.out]; omega
        have HZ : Hid (E = 0) := by
          show _ = _
          rw [hls.out, hkn, List.drop_of_length_le (Nat.le_refl _)]
          rfl
        have z1 : ¬ (k : Int) < (n : Int) := by omega
        clear hls hks
        go_wp2
        go_ret
        exact ⟨by rw [HZ.out]; rfl, hbw⟩

end Go.Proofs.YtjcklpdifanjlaaDoor

/- node.leavesOf, as a contract: leaves in a row of the call's own, sorted by slices.SortFunc. -/
namespace Go.Proofs.YtjcklpdifanjlaaDoor
set_option maxRecDepth 20000
open Go.RowKit Go.Shelf
open Go.Sort (HoldsK putRowK size_flatK get_flatK)

theorem Blk.there {w : World} {g : Nat} {t : TypeId} {cs : Array Value} (h : Blk w g t cs) (o n : Nat) (hn : o + n ≤ cs.size) : w.there g o n := fun j hj => ⟨by rw [h.cell, Array.getElem?_eq_getElem (by omega)]; rfl, h.frozen _⟩

theorem there_grow {w w' : World} {g o n : Nat} (h : w.there g o n) (hb : Below w.heap.size w w') : w'.there g o n := fun j hj => by
  obtain ⟨h1, h2⟩ := h j hj
  obtain ⟨v, hv⟩ := Option.isSome_iff_exists.1 h1
  have hl : g < w.heap.size := block_lt_of_cell (a := ⟨g, o + j, none⟩) hv
  exact ⟨by rw [(hb.cell (p := ⟨g, o + j, none⟩) hl)]; exact h1, by rw [World.frozen?_of_block (hb.block g hl)]; exact h2⟩

theorem setCells_below {w0 : World} {g : Nat} (hg : w0.heap.size ≤ g) : ∀ (vs : List Value) (o : Nat) (w : World), Below w0.heap.size w0 w → Below w0.heap.size w0 (w.setCells g o vs)
  | [], _, _, h => h
  | v :: r, o, _, h => setCells_below hg r (o + 1) _ (setCell_below o v h hg)

/-- make([]api.Node, n). -/
theorem wpList_mkn {ops : Array Oper} {rest : List Oper} {o : Oper} {a : Act} {Q : Exit → Act → World → Prop} (w : World) (hgd : o.guard = none) (x y : Operand)
    (hop : o.op = Op.makeSlice 94 x y) (n : Nat) (hx : a.eval x = .int .i64 n) (hy : a.eval y = .int .i64 n) (hn : n ≤ 4096)
    (h : ∀ w' g cs, w.heap.size ≤ g → Blk w' g 27 cs → cs.size = n * 129 → Below w.heap.size w w' → wpList Tryd.prog ops Q rest (a.put o.dst (.slice (some ⟨g, 0, none⟩) n n)) w') :
    wpList Tryd.prog ops Q (o :: rest) a w := by
  refine wpList_plain hgd fun K hK => ?_
  obtain ⟨i, z, hi, hz, hs, hby⟩ : ∃ i z, Tryd.prog.info? 27 = some i ∧ i.zero = some z ∧ i.size = 129 ∧ i.bytes = 129 := ⟨_, _, rfl, rfl, rfl, rfl⟩
  have hr := run_make (P := Tryd.prog) w 94 27 i z Tryd.underlying94 hi hz .i64 .i64 n n (by omega) (by omega) (by rw [hby]; omega) (by omega)
  rw [hs] at hr
  simp only [Int.toNat_natCast] at hr
  unfold Oper.wp
  simp [execOp, hop, hx, hy, hr, Result.andThen]
  exact hK _ _ (h _ _ _ (Nat.le_refl _) (heap_alloc_new w _) (size_madeCells _ _) (grow_alloc w _))

/-- store of a leaf into a row of nodes, in a region that draws its order. -/
theorem step_stL {ops : Array Oper} {o : Oper} {a : Act} {K : Act → World → Prop} {Q : Exit → Act → World → Prop} {E : Prop} (w : World) (hgd : o.guard = none) (x y : Operand) (ty : TypeId) (ho : o.op = .store ty x y)
    (g f : Nat) (cs : Array Value) (hx : a.eval x = .pointer (some ⟨g, f, none⟩)) (hy : a.eval y = .agg cs) (h : w.there g f cs.size) (hi : (Tryd.prog.info? ty).map (·.size) = some cs.size) (h1 : cs.all (·.oneCell') = true)
    (hk : K (a.put o.dst undef) (w.setCells g f cs.toList)) : if Region.wanted o (yielded ops a.tmps) = true then Oper.wp Tryd.prog o a w K Q else E := by
  have hw : Region.wanted o (yielded ops a.tmps) = true := by simp [Region.wanted, hgd]
  rw [if_pos hw]
  exact wp_store_mid ty x y ho g f cs hx hy h hi h1 hk

/-- n leaves of the list in a row, and room for m. -/
def Rows (w : World) (g m : Nat) (ls : List Lf) : Prop := (∀ i, i < ls.length → w.rangeAt g (i * 129) (encLf ls[i]!)) ∧ ∀ i, i < m → w.there g (i * 129) 129
theorem Rows.grow {w w' : World} {g m : Nat} {ls : List Lf} (h : Rows w g m ls) (hb : Below w.heap.size w w') : Rows w' g m ls := ⟨fun i hi => range_grow (h.1 i hi) hb, fun i hi => there_grow (h.2 i hi) hb⟩
theorem Rows.put {w : World} {g m : Nat} {ls : List Lf} (h : Rows w g m ls) (x : Lf) (hm : ls.length < m) : Rows (w.setCells g (ls.length * 129) (encLf x)) g m (ls ++ [x]) := by
  constructor
  · intro i hi
    rw [List.length_append, List.length_singleton] at hi
    by_cases e : i = ls.length
    · subst e
      have : (ls ++ [x])[ls.length]! = x := by rw [getElem!_pos _ _ (by simp)]; simp
      rw [this]
      exact World.rangeAt_setCells_same _ _ _ _ (by rw [encLf_length]; exact h.2 _ hm)
    · have hlt : i < ls.length := by omega
      have e2 : (ls ++ [x])[i]! = ls[i]! := by
        rw [getElem!_pos _ i (by simp; omega), getElem!_pos _ i hlt]
        exact List.getElem_append_left hlt
      rw [e2]
      refine World.rangeAt_setCells_apart (h.1 i hlt) _ _ _ (.inr (.inl ?_))
      rw [encLf_length]
      omega
  · intro i hi
    exact World.there_setCells (h.2 i hi) _ _ _

theorem Rows.holds {w : World} {g : Nat} {ls : List Lf} (h : Rows w g ls.length ls) : HoldsK encLf 129 w g 0 ls.toArray := by
  intro j hj
  rw [size_flatK, List.size_toArray] at hj
  have h1 : j / 129 < ls.length := by omega
  have h2 : j % 129 < 129 := by omega
  have hc := h.1 (j / 129) h1 (j % 129) (encLf ls[j / 129]!)[j % 129]! (by
    have hlt : j % 129 < (encLf ls[j / 129]!).length := by rw [encLf_length]; exact h2
    rw [getElem!_pos (encLf ls[j / 129]!) _ hlt, List.getElem?_eq_getElem hlt])
  have hf := (h.2 (j / 129) h1 (j % 129) h2).2
  have e : j / 129 * 129 + j % 129 = j := by omega
  rw [e] at hc hf
  rw [get_flatK _ _ _ _ (by rw [List.size_toArray]; exact hj), Nat.zero_add, show ls.toArray[j / 129]! = ls[j / 129]! by simp]
  exact ⟨hc, hf⟩

theorem rows_of_holds {w : World} {g n cap : Nat} {d : Array Lf} (h : HoldsK encLf 129 w g 0 d) (hn : d.size = n) (hc : n ≤ cap) : LvAt w (.slice (some ⟨g, 0, none⟩) n cap) d.toList := by
  subst hn
  refine ⟨_, _, by rw [Array.length_toList], by rw [Array.length_toList]; exact hc, fun _ => ⟨g, 0, rfl, fun i hi j v hv => ?_⟩⟩
  rw [Array.length_toList] at hi
  have hj : j < 129 := by have := (List.getElem?_eq_some_iff.1 hv).1; rwa [encLf_length] at this
  have := (h.cell hi hj).1
  have e : d.toList[i]! = d[i]! := by
    rw [getElem!_pos d.toList i (by simpa using hi), getElem!_pos d i hi]
    simp
  rw [e] at hv
  rw [this]
  rw [getElem!_pos _ _ (by rw [encLf_length]; exact hj)]
  rw [List.getElem?_eq_getElem (by rw [encLf_length]; exact hj)] at hv
  exact hv

theorem cmpLays_lf (blk off size : Nat) (w : World) : CmpLays Tryd.prog 78 #[] encLf 129 cfLf blk off size w := fun m os dk _ x y => by
  have := closure_cmp 1 1 x.key x.val z32 z32 y.key y.val z32 z32 (sortWorldK encLf 129 w blk off m dk os) x.nd y.nd
  exact this.mono fun e w' ⟨h1, h2⟩ => ⟨h1, h2⟩

theorem sortWorld_below {w0 w : World} {g n : Nat} {d : Array Lf} {os : Array Obj} (hb : Below w0.heap.size w0 w) (hg : w0.heap.size ≤ g) : Below w0.heap.size w0 (sortWorldK encLf 129 w g 0 n d os) := by
  refine hb.trans ⟨rfl, rfl, rfl, size_sortWorldK_c encLf 129 w g 0 n d os, fun k hk => ?_⟩
  have hk' : k < w.heap.size := Nat.lt_of_lt_of_le hk hb.size
  unfold sortWorldK putRowK Go.Sort.putRow Go.Sort.mapBlock
  rw [Go.Sort.heap_grow_old _ _ (by simp [Go.Sort.ahead]; exact hk')]
  simp [Go.Sort.ahead, Array.getElem?_modify]
  intro e
  omega

/-- The leaves sorted. -/
theorem sort_any (g : Nat) (ls : List Lf) (w0 w : World) (h : Rows w g ls.length ls) (hl : g < w.heap.size) (hb : Below w0.heap.size w0 w) (hg : w0.heap.size ≤ g) (hn : ls.length ≤ 4096) (hne : ls.Pairwise fun a b => a.key ≠ b.key) :
    Calls Tryd.prog 77 #[.slice (some ⟨g, 0, none⟩) ls.length ls.length, .func (.func 78) #[] #[]] w fun e w' => e = .returned (.tuple #[]) ∧ (∃ l', LvAt w' (.slice (some ⟨g, 0, none⟩) ls.length ls.length) l' ∧ l'.Perm ls ∧ Rise l') ∧ Below w0.heap.size w0 w' := by
  have eg : ∀ args w, (callFunc 78 args).run Tryd.prog w = .ok (.enter 78 args) w := enters_of Tryd.func78 (by kernel_rfl) rfl
  have hcon := AnyQ.slices_SortFunc sortNode 129 Tryd.isAgg27 Tryd.sizeOf27 encLf encLf_length encLf_one cfLf swoLf 78 #[] g 0 ls.length ls.toArray w eg (cmpLays_lf g 0 _ w) h.holds hl (by rw [List.size_toArray]; omega)
  rw [List.size_toArray] at hcon
  refine Calls.mono hcon ?_
  rintro e w' ⟨rfl, d', n, os, hp, hs, rfl⟩
  refine ⟨rfl, ⟨d'.toList, ?_, ?_, ?_⟩, sortWorld_below hb hg⟩
  · exact rows_of_holds (holdsK_sortWorldK_c encLf 129 w g 0 ls.toArray d' n os h.holds hl hp.1) (by rw [hp.1]; simp) (Nat.le_refl _)
  · have h3 := hp.2.2
    have e1 : d'.extract 0 ls.length = d' := by
      have : d'.size = ls.length := by rw [hp.1]; simp
      rw [← this]
      simp
    have e2 : ls.toArray.extract 0 ls.length = ls.toArray := by simp
    rw [e1, e2] at h3
    simpa using h3
  · have h3 := hp.2.2
    have hsz : d'.size = ls.length := by rw [hp.1]; simp
    have e1 : d'.extract 0 ls.length = d' := by
      rw [← hsz]
      simp
    have e2 : ls.toArray.extract 0 ls.length = ls.toArray := by simp
    rw [e1, e2] at h3
    have hne' : d'.toList.Pairwise fun a b => a.key ≠ b.key := h3.symm.pairwise (by simpa using hne) (fun h => Ne.symm h)
    refine List.pairwise_iff_getElem.2 fun i j hi hj hij => ?_
    have hi' : i < d'.size := by simpa using hi
    have hj' : j < d'.size := by simpa using hj
    have h4 := hs i j (Nat.zero_le _) hij (by omega)
    rw [getElem!_pos d' i hi', getElem!_pos d' j hj'] at h4
    have h5 : ¬ Ahead d'[j].key d'[i].key := by
      intro ha
      have := (cfLf_lt d'[j] d'[i]).2 ha
      have h6 : decide (cfLf d'[j] d'[i] < 0) = false := h4
      rw [h6] at this
      cases this
    rcases ahead_total d'[j].hk d'[i].hk h5 with e | e
    · exact absurd e.symm (List.pairwise_iff_getElem.1 hne' i j hi hj hij)
    · exact e

end Go.Proofs.YtjcklpdifanjlaaDoor
