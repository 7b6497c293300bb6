/- node.leavesOf, as a contract: leaves in a row of the call's own, sorted by slices.SortFunc. -/
import Derived.Test.YtkhinjkcfjncgaaGreatDoorKn36
import Derived.Test.YtkhinjkcfjncgaaGreatDoorKn35
import Derived.Test.YtkhinjkcfjncgaaGreatDoorKn37
namespace Go.Proofs.YtkhinjkcfjncgaaGreatDoor
set_option maxRecDepth 20000
open Go.RowKit Go.Shelf
open Go.Sort (HoldsK putRowK size_flatK get_flatK)


/-- make([]api.Node, n). -/
theorem wpList_mkn {ops : Array Oper} {rest : List Oper} {o : Oper} {a : Act} {Q : Exit → Act → World → Prop} (w : World) (hgd : o.guard = none) (x y : Operand)
    (hop : o.op = Op.makeSlice 194 x y) (n : Nat) (hx : a.eval x = .int .i64 n) (hy : a.eval y = .int .i64 n) (hn : n ≤ 4096)
    (h : ∀ w' g cs, w.heap.size ≤ g → Blk w' g 143 cs → cs.size = n * 129 → Below w.heap.size w w' → wpList Tryz.prog ops Q rest (a.put o.dst (.slice (some ⟨g, 0, none⟩) n n)) w') :
    wpList Tryz.prog ops Q (o :: rest) a w := by
  refine wpList_plain hgd fun K hK => ?_
  obtain ⟨i, z, hi, hz, hs, hby⟩ : ∃ i z, Tryz.prog.info? 143 = some i ∧ i.zero = some z ∧ i.size = 129 ∧ i.bytes = 129 := ⟨_, _, rfl, rfl, rfl, rfl⟩
  have hr := run_make (P := Tryz.prog) w 194 143 i z Tryz.underlying194 hi hz .i64 .i64 n n (by omega) (by omega) (by rw [hby]; omega) (by omega)
  rw [hs] at hr
  simp only [Int.toNat_natCast] at hr
  unfold Oper.wp
  simp [execOp, hop, hx, hy, hr, Result.andThen]
  exact hK _ _ (h _ _ _ (Nat.le_refl _) (heap_alloc_new w _) (size_madeCells _ _) (grow_alloc w _))

/-- n leaves of the list in a row, and room for m. -/
def Rows (w : World) (g m : Nat) (ls : List Lf) : Prop := (∀ i, i < ls.length → w.rangeAt g (i * 129) (encLf ls[i]!)) ∧ ∀ i, i < m → w.there g (i * 129) 129
theorem Rows.grow {w w' : World} {g m : Nat} {ls : List Lf} (h : Rows w g m ls) (hb : Below w.heap.size w w') : Rows w' g m ls := ⟨fun i hi => range_grow (h.1 i hi) hb, fun i hi => there_grow (h.2 i hi) hb⟩
theorem Rows.put {w : World} {g m : Nat} {ls : List Lf} (h : Rows w g m ls) (x : Lf) (hm : ls.length < m) : Rows (w.setCells g (ls.length * 129) (encLf x)) g m (ls ++ [x]) := by
  constructor
  · intro i hi
    rw [List.length_append, List.length_singleton] at hi
    by_cases e : i = ls.length
    · subst e
      have : (ls ++ [x])[ls.length]! = x := by rw [getElem!_pos _ _ (by simp)]; simp
      rw [this]
      exact World.rangeAt_setCells_same _ _ _ _ (by rw [encLf_length]; exact h.2 _ hm)
    · have hlt : i < ls.length := by omega
      have e2 : (ls ++ [x])[i]! = ls[i]! := by
        rw [getElem!_pos _ i (by simp; omega), getElem!_pos _ i hlt]
        exact List.getElem_append_left hlt
      rw [e2]
      refine World.rangeAt_setCells_apart (h.1 i hlt) _ _ _ (.inr (.inl ?_))
      rw [encLf_length]
      omega
  · intro i hi
    exact World.there_setCells (h.2 i hi) _ _ _

theorem Rows.holds {w : World} {g : Nat} {ls : List Lf} (h : Rows w g ls.length ls) : HoldsK encLf 129 w g 0 ls.toArray := by
  intro j hj
  rw [size_flatK, List.size_toArray] at hj
  have h1 : j / 129 < ls.length := by omega
  have h2 : j % 129 < 129 := by omega
  have hc := h.1 (j / 129) h1 (j % 129) (encLf ls[j / 129]!)[j % 129]! (by
    have hlt : j % 129 < (encLf ls[j / 129]!).length := by rw [encLf_length]; exact h2
    rw [getElem!_pos (encLf ls[j / 129]!) _ hlt, List.getElem?_eq_getElem hlt])
  have hf := (h.2 (j / 129) h1 (j % 129) h2).2
  have e : j / 129 * 129 + j % 129 = j := by omega
  rw [e] at hc hf
  rw [get_flatK _ _ _ _ (by rw [List.size_toArray]; exact hj), Nat.zero_add, show ls.toArray[j / 129]! = ls[j / 129]! by simp]
  exact ⟨hc, hf⟩

theorem rows_of_holds {w : World} {g n cap : Nat} {d : Array Lf} (h : HoldsK encLf 129 w g 0 d) (hn : d.size = n) (hc : n ≤ cap) : LvAt w (.slice (some ⟨g, 0, none⟩) n cap) d.toList := by
  subst hn
  refine ⟨_, _, by rw [Array.length_toList], by rw [Array.length_toList]; exact hc, fun _ => ⟨g, 0, rfl, fun i hi j v hv => ?_⟩⟩
  rw [Array.length_toList] at hi
  have hj : j < 129 := by have := (List.getElem?_eq_some_iff.1 hv).1; rwa [encLf_length] at this
  have := (h.cell hi hj).1
  have e : d.toList[i]! = d[i]! := by
    rw [getElem!_pos d.toList i (by simpa using hi), getElem!_pos d i hi]
    simp
  rw [e] at hv
  rw [this]
  rw [getElem!_pos _ _ (by rw [encLf_length]; exact hj)]
  rw [List.getElem?_eq_getElem (by rw [encLf_length]; exact hj)] at hv
  exact hv

theorem cmpLays_lf (blk off size : Nat) (w : World) : CmpLays Tryz.prog 189 #[] encLf 129 cfLf blk off size w := fun m os dk _ x y => by
  have := closure_cmp 1 1 x.key x.val z32 z32 y.key y.val z32 z32 (sortWorldK encLf 129 w blk off m dk os) x.nd y.nd
  exact this.mono fun e w' ⟨h1, h2⟩ => ⟨h1, h2⟩

theorem sortWorld_below {w0 w : World} {g n : Nat} {d : Array Lf} {os : Array Obj} (hb : Below w0.heap.size w0 w) (hg : w0.heap.size ≤ g) : Below w0.heap.size w0 (sortWorldK encLf 129 w g 0 n d os) := by
  refine hb.trans ⟨rfl, rfl, rfl, size_sortWorldK_c encLf 129 w g 0 n d os, fun k hk => ?_⟩
  have hk' : k < w.heap.size := Nat.lt_of_lt_of_le hk hb.size
  unfold sortWorldK putRowK Go.Sort.putRow Go.Sort.mapBlock
  rw [Go.Sort.heap_grow_old _ _ (by simp [Go.Sort.ahead]; exact hk')]
  simp [Go.Sort.ahead, Array.getElem?_modify]
  intro e
  omega

/-- The leaves sorted. -/
theorem sort_any (g : Nat) (ls : List Lf) (w0 w : World) (h : Rows w g ls.length ls) (hl : g < w.heap.size) (hb : Below w0.heap.size w0 w) (hg : w0.heap.size ≤ g) (hn : ls.length ≤ 4096) (hne : ls.Pairwise fun a b => a.key ≠ b.key) :
    Calls Tryz.prog 188 #[.slice (some ⟨g, 0, none⟩) ls.length ls.length, .func (.func 189) #[] #[]] w fun e w' => e = .returned (.tuple #[]) ∧ (∃ l', LvAt w' (.slice (some ⟨g, 0, none⟩) ls.length ls.length) l' ∧ l'.Perm ls ∧ Rise l') ∧ Below w0.heap.size w0 w' := by
  have eg : ∀ args w, (callFunc 189 args).run Tryz.prog w = .ok (.enter 189 args) w := enters_of Tryz.func189 (by kernel_rfl) rfl
  have hcon := AnyQ.slices_SortFunc sortNode 129 Tryz.isAgg143 Tryz.sizeOf143 encLf encLf_length encLf_one cfLf swoLf 189 #[] g 0 ls.length ls.toArray w eg (cmpLays_lf g 0 _ w) h.holds hl (by rw [List.size_toArray]; omega)
  rw [List.size_toArray] at hcon
  refine Calls.mono hcon ?_
  rintro e w' ⟨rfl, d', n, os, hp, hs, rfl⟩
  refine ⟨rfl, ⟨d'.toList, ?_, ?_, ?_⟩, sortWorld_below hb hg⟩
  · exact rows_of_holds (holdsK_sortWorldK_c encLf 129 w g 0 ls.toArray d' n os h.holds hl hp.1) (by rw [hp.1]; simp) (Nat.le_refl _)
  · have h3 := hp.2.2
    have e1 : d'.extract 0 ls.length = d' := by
      have : d'.size = ls.length := by rw [hp.1]; simp
      rw [← this]
      simp
    have e2 : ls.toArray.extract 0 ls.length = ls.toArray := by simp
    rw [e1, e2] at h3
    simpa using h3
  · have h3 := hp.2.2
    have hsz : d'.size = ls.length := by rw [hp.1]; simp
    have e1 : d'.extract 0 ls.length = d' := by
      rw [← hsz]
      simp
    have e2 : ls.toArray.extract 0 ls.length = ls.toArray := by simp
    rw [e1, e2] at h3
    have hne' : d'.toList.Pairwise fun a b => a.key ≠ b.key := h3.symm.pairwise (by simpa using hne) (fun h => Ne.symm h)
    refine List.pairwise_iff_getElem.2 fun i j hi hj hij => ?_
    have hi' : i < d'.size := by simpa using hi
    have hj' : j < d'.size := by simpa using hj
    have h4 := hs i j (Nat.zero_le _) hij (by omega)
    rw [getElem!_pos d' i hi', getElem!_pos d' j hj'] at h4
    have h5 : ¬ Ahead d'[j].key d'[i].key := by
      intro ha
      have := (cfLf_lt d'[j] d'[i]).2 ha
      have h6 : decide (cfLf d'[j] d'[i] < 0) = false := h4
      rw [h6] at this
      cases this
    rcases ahead_total d'[j].hk d'[i].hk h5 with e | e
    · exact absurd e.symm (List.pairwise_iff_getElem.1 hne' i j hi hj hij)
    · exact e

end Go.Proofs.YtkhinjkcfjncgaaGreatDoor

/- node.leavesOf, as a contract. -/
namespace Go.Proofs.YtkhinjkcfjncgaaGreatDoor
set_option maxRecDepth 20000
open Go.RowKit

/-- What leavesOf tells of entries that may be. -/
def LvPost (es : List Ent) (w : World) (e : Ending) (w' : World) : Prop :=
  ∃ v ls, e = .returned (.tuple #[v, .int .i64 0]) ∧ LvAt w' v ls ∧ ls.Perm (es.map mkLf) ∧ Rise ls ∧ Below w.heap.size w w'

set_option maxHeartbeats 1000000 in
theorem leavesOf_bad (v : Value) (V : Nat → Value) (es : List Ent) (w : World) (hv : PrAt w v V es) (hn : es.length ≤ 140737488355328) (hE : errB es ≠ 0) :
    Calls Tryz.prog 151 #[v] w fun e w' => e = .returned (.tuple #[.slice none 0 0, .int .i64 (errB es)]) ∧ Below w.heap.size w w' := by
  have HM := hidden (mayBe_any v V es w hv hn)
  obtain ⟨a, cap, rfl, _, _, _⟩ := hv
  obtain ⟨E, hEE⟩ : ∃ E, E = errB es := ⟨_, rfl⟩
  rw [← hEE] at HM hE ⊢
  have h1 : (E != 0) = true := by simp [hE]
  have h2 : (E == 0) = false := by simp [hE]
  clear hEE hE
  go_enter Tryz.func151, Tryz.ntmps151
  go_wp2_with (go_at_call 187; refine HM.out.mono ?_; rintro e w1 ⟨rfl, b1⟩)
  go_ret2
  exact ⟨rfl, b1⟩

set_option maxRecDepth 100000 in
set_option maxHeartbeats 8000000 in
theorem leavesOf_ok (v : Value) (V : Nat → Value) (es : List Ent) (w : World) (hv : PrAt w v V es) (hn : es.length ≤ 4096) (hL : Laid w) (hE : errB es = 0) :
    Calls Tryz.prog 151 #[v] w (LvPost es w) := by
  have HM := hidden (mayBe_any v V es w hv (by omega))
  rw [hE] at HM
  have hls : lsE [] es = 0 := by rw [errB, if_neg (by omega)] at hE; exact hE
  obtain ⟨hlen, hap, _⟩ := lsE_ok [] es hls
  have hkeys := hv.keys
  have HPost : Hid (∀ w' v' ls, LvAt w' v' ls → ls.Perm (es.map mkLf) → Rise ls → Below w.heap.size w w' → LvPost es w (.returned (.tuple #[v', .int .i64 0])) w') := fun w' v' ls h1 h2 h3 h4 => ⟨v', ls, rfl, h1, h2, h3, h4⟩
  have HNE : Hid ((es.map mkLf).Pairwise fun a b => a.key ≠ b.key) := by
    show List.Pairwise _ _
    rw [List.pairwise_map]
    refine List.Pairwise.imp_of_mem ?_ hap
    intro a b ha hb hab
    rw [mkLf_key (hkeys a ha), mkLf_key (hkeys b hb)]
    exact hab
  have HLN : Hid (∀ k, k < es.length → (es.getD k e00).2.length ≤ 1024) := by
    intro k hk
    have := hlen es[k] (List.getElem_mem hk)
    simpa [List.getD, hk] using this
  have HL := hidden hL
  obtain ⟨a, cap, rfl, hcap, hc, hr⟩ := hv
  have HC := hidden hc
  have HR := hidden hr
  obtain ⟨n, hnn⟩ : ∃ n, n = es.length := ⟨_, rfl⟩
  have HN := hidden hnn
  rw [← hnn] at HM hn ⊢
  clear hc hr hcap hnn hE hls hlen hap hkeys hL
  go_enter Tryz.func151, Tryz.ntmps151
  go_wp2_with (first
    | (go_at_call 187; refine HM.out.mono ?_; rintro e w1 ⟨rfl, b1⟩)
    | (refine wpList_mkn _ rfl _ _ rfl n rfl rfl hn ?_; intro w2 g cs hg2 Bg hcs b2))
  have HG : Hid (w.heap.size ≤ g) := Nat.le_trans b1.size hg2
  have HR0 : Hid (Rows w2 g n []) := ⟨fun i hi => by simp at hi, fun i hi => Bg.there _ _ (by rw [hcs]; omega)⟩
  have HGL : Hid (g < w2.heap.size) := Bg.lt
  have c2 := grow_trans b1 b2
  clear Bg hcs hg2 b1 b2 cs HM
  go_loopw [18] (fun i wr => ∃ k : Nat, k ≤ n ∧ i = .int .i64 k ∧ Hid (Rows wr g n ((es.take k).map mkLf)) ∧ Hid (g < wr.heap.size) ∧ Below w.heap.size w wr) (fun i _ => n - (intOf i).toNat)
  case atStart => exact ⟨0, by omega, rfl, HR0, HGL, c2⟩
  case round =>
    obtain ⟨k, hk, rfl, hrows, hgl, hbw⟩ := hrel
    by_cases hlt : k < n
    · have hlt' : k < es.length := by rw [← HN.out]; exact hlt
      obtain ⟨ga, off, rfl, hcc⟩ := HC.out (by omega)
      have z1 : (k : Int) < (n : Int) := by omega
      have z0 : (0 : Int) ≤ (k : Int) := by omega
      obtain ⟨hkey, hrd⟩ := HR.out k hlt'
      have HRG : Hid (wr.rangeAt ga (off + k * 33) (encP (es.getD k e00).1 (V k))) := rng_grow (hcc k hlt') hbw
      have hlv := HLN.out k hlt'
      have HV : Hid (∀ w', Below w.heap.size w w' → Laid w' → Calls Tryz.prog 138 #[V k] w' fun e w'' => e = .returned (.agg (B (vaD (es.getD k e00).2))) ∧ Below w'.heap.size w' w'') := fun w' hb hl => value_any (V k) _ w' (hrd.grow hb) hl (by omega)
      have HX : Hid (encLf (mkLf (es.getD k e00)) = (B (nd 1 (es.getD k e00).1 (vaD (es.getD k e00).2) z32 z32)).toList) := by
        show _ = _
        rw [B_toList, encLf, Lf.ints, mkLf_key hkey, mkLf_val hkey]
      have HBL : Hid (Tryz.prog.built 143 [(0, .int .u8 1), (1, .agg (B (es.getD k e00).1)), (2, .agg (B (vaD (es.getD k e00).2)))] = some (B (nd 1 (es.getD k e00).1 (vaD (es.getD k e00).2) z32 z32))) := built_leaf _ _ hkey.1 (dig_length _)
      have HT : Hid ((es.take (k + 1)).map mkLf = (es.take k).map mkLf ++ [mkLf (es.getD k e00)]) := by
        show _ = _
        rw [List.take_add_one, List.map_append]
        simp [List.getD, hlt']
      have HTL : Hid (((es.take k).map mkLf).length = k) := by show _ = _; simp; omega
      have HNS : Hid ((B (nd 1 (es.getD k e00).1 (vaD (es.getD k e00).2) z32 z32)).size = 129) := by
        have : Nd 1 (es.getD k e00).1 (vaD (es.getD k e00).2) z32 z32 := ⟨by omega, by omega, hkey.1, dig_length _, rfl, rfl, hkey.2, dig_bytes _, z32_bytes, z32_bytes⟩
        exact this.size
      obtain ⟨va, vc, hV, _, _, _, _⟩ := hrd
      obtain ⟨K, hK⟩ : ∃ K, K = (es.getD k e00).1 := ⟨_, rfl⟩
      obtain ⟨Z, hZ⟩ : ∃ Z, Z = (es.getD k e00).2 := ⟨_, rfl⟩
      obtain ⟨x, hx⟩ : ∃ x, x = mkLf (es.getD k e00) := ⟨_, rfl⟩
      obtain ⟨ls, hlsd⟩ : ∃ ls, ls = (es.take k).map mkLf := ⟨_, rfl⟩
      rw [← hx] at HX HT
      rw [← hlsd] at HT HTL hrows
      rw [← hK] at HRG hkey HX HBL HNS
      rw [← hZ] at HV HX hV HBL HNS
      obtain ⟨A, hA⟩ : ∃ A, A = vaD Z := ⟨_, rfl⟩
      rw [← hA] at HV HX HBL HNS
      obtain ⟨N, hNd⟩ : ∃ N, N = nd 1 K A z32 z32 := ⟨_, rfl⟩
      rw [← hNd] at HX HBL HNS
      rw [hV] at HRG HV
      obtain ⟨L, hLL⟩ : ∃ L, L = Z.length := ⟨_, rfl⟩
      rw [← hLL] at HRG HV
      have HKY := hidden hkey
      have hsz : (Tryz.prog.info? 128).map (·.size) = some (encP K (.slice va L vc)).toArray.size := by rw [List.size_toArray, encP_length K _ HKY.out.1]; exact size_pair
      have hsz2 : (encP z32 (.slice none 0 0)).toArray.size = (encP K (.slice va L vc)).toArray.size := by rw [List.size_toArray, List.size_toArray, encP_length K _ HKY.out.1]; rfl
      have HSZ := hidden hsz
      have HSZ2 := hidden hsz2
      have HLK : Hid ((Tryz.prog.info? 72).map (·.size) = some (B K).toList.length) := by show _ = _; rw [B_toList, List.length_map, HKY.out.1]; exact sz_path
      clear hcc hK hZ hV hkey hx hlsd hsz hsz2 hlt' hA hNd hLL hlv
      go_wp2_with (first
        | ((with_reducible refine at_ldd 22 21 ?_); refine wpList_ldp _ rfl _ rfl ga (off + k * 33) K _ rfl HRG.out HKY.out.1 ?_)
        | ((with_reducible refine at_ald 7 ?_); refine wpList_al _ rfl _ rfl _ zero_pair ?_; intro w2 g7 hg7 hl7 B7 q7)
        | ((with_reducible refine at_st 7 ?_); refine wpList_sto _ rfl _ _ _ rfl g7 _ _ rfl rfl B7 HSZ.out HSZ2.out (encP_one _ _ _ _) ?_; intro w3 B8 r8; have q8 := below_row q7 r8 hg7))
      have HS : Hid (∀ w', Below w3.heap.size w3 w' → w'.rangeAt g7 0 (B K).toList ∧ w'.cell? ⟨g7, 32, none⟩ = some (.slice va L vc)) := fun w' hw' => ⟨pair_key (B8.grow hw'), pair_val (B8.grow hw') HKY.out.1⟩
      have d0 : Below w3.heap.size w3 w3.drew := (Below.refl _ _).drew
      have hb3 := grow_trans hbw q8
      have HROW : Hid (Rows w3 g n ls) := hrows.out.grow q8
      have HG3 : Hid (g ≠ g7) := by
        have h1 := hgl.out
        intro e
        subst e
        omega
      clear hrows B7 q7 r8 hg7 hl7 B8 HRG
      refine wp_region_held_drew (S := fun w' => w'.rangeAt g7 0 (B K).toList ∧ w'.cell? ⟨g7, 32, none⟩ = some (.slice va L vc)) (by kernel_rfl) (HS.out _ d0) (fun hHeld => ?_)
      refine wpAnyH_take (i := 0) (v := .slice (some ⟨g, 0, none⟩) n n) rfl (by kernel_rfl) (by kernel_rfl) (by kernel_rfl) (fun _ _ _ h => h) (Or.inl ⟨by rfl, fun w hS => by go_simp⟩) hHeld ?_
      simp only [Act.put, List.getElem_toArray, List.getElem_cons_zero, List.setIfInBounds_toArray, List.set_cons_zero, List.set_cons_succ]
      refine wpAnyH_take (i := 1) (v := .int .i64 k) rfl (by kernel_rfl) (by kernel_rfl) (by kernel_rfl) (fun _ _ _ h => h) (Or.inl ⟨by rfl, fun w hS => by go_simp⟩) hHeld ?_
      simp only [Act.put, List.getElem_toArray, List.getElem_cons_zero, List.getElem_cons_succ, List.setIfInBounds_toArray, List.set_cons_zero, List.set_cons_succ]
      refine wpAnyH_take (i := 2) (v := .pointer (some ⟨g7, 0, none⟩)) rfl (by kernel_rfl) (by kernel_rfl) (by kernel_rfl) (fun _ _ _ h => h) (Or.inl ⟨by rfl, fun w hS => by go_simp⟩) hHeld ?_
      simp only [Act.put, List.getElem_toArray, List.getElem_cons_zero, List.getElem_cons_succ, List.setIfInBounds_toArray, List.set_cons_zero, List.set_cons_succ]
      refine wpAnyH_take (i := 3) (v := .agg (B K)) rfl (by kernel_rfl) (by kernel_rfl) (by kernel_rfl) (fun _ _ _ h => h) (yieldsIf_load_mid rfl 72 (.tmp 25) rfl g7 0 rfl (B K).toList _ (fun w hS => hS.1) Tryz.underlying72 rfl HLK.out) hHeld ?_
      simp only [Act.put, List.getElem_toArray, List.getElem_cons_zero, List.getElem_cons_succ, List.setIfInBounds_toArray, List.set_cons_zero, List.set_cons_succ]
      refine wpAnyH_take (i := 4) (v := .pointer (some ⟨g7, 32, none⟩)) rfl (by kernel_rfl) (by kernel_rfl) (by kernel_rfl) (fun _ _ _ h => h) (Or.inl ⟨by rfl, fun w hS => by go_simp⟩) hHeld ?_
      simp only [Act.put, List.getElem_toArray, List.getElem_cons_zero, List.getElem_cons_succ, List.setIfInBounds_toArray, List.set_cons_zero, List.set_cons_succ]
      refine wpAnyH_take (i := 5) (v := .slice va L vc) rfl (by kernel_rfl) (by kernel_rfl) (by kernel_rfl) (fun _ _ _ h => h) (Or.inl ⟨by rfl, fun w hS => by (have s1 := hS.2; go_simp)⟩) hHeld ?_
      simp only [Act.put, List.getElem_toArray, List.getElem_cons_zero, List.getElem_cons_succ, List.setIfInBounds_toArray, List.set_cons_zero, List.set_cons_succ]
      refine wpAnyH_ready (rs := [6]) (by kernel_rfl) (by simp) ?_
      refine AllReadyH.cons rfl (fun KQ hK => ?_) AllReadyH.nil
      go_simp
      refine (HV.out _ (grow_trans hb3 d0) (HL.out.grow (grow_trans hb3 d0))).mono ?_
      rintro e x1 ⟨rfl, a1⟩
      have d1 := grow_trans d0 a1
      refine hK.out _ _ (HS.out _ d1) (fun hHeld => ?_)
      clear hK KQ
      refine wpAnyH_take (i := 7) (v := .agg (B N)) rfl (by kernel_rfl) (by kernel_rfl) (by kernel_rfl) (fun _ _ _ h => h) (Or.inl ⟨by rfl, fun w hS => exec_bd _ _ 143 _ (by rfl) (B N) (by rw [List.map_toArray]; exact HBL.out) w⟩) hHeld ?_
      simp only [Act.put, List.getElem_toArray, List.getElem_cons_zero, List.getElem_cons_succ, List.setIfInBounds_toArray, List.set_cons_zero, List.set_cons_succ]
      refine wpAnyH_take (i := 8) (v := .pointer (some ⟨g, k * 129, none⟩)) rfl (by kernel_rfl) (by kernel_rfl) (by kernel_rfl) (fun _ _ _ h => h) (Or.inl ⟨by rfl, fun w hS => by go_simp⟩) hHeld ?_
      simp only [Act.put, List.getElem_toArray, List.getElem_cons_zero, List.getElem_cons_succ, List.setIfInBounds_toArray, List.set_cons_zero, List.set_cons_succ]
      refine wpAnyH_ready (rs := [9]) (by kernel_rfl) (by simp) ?_
      refine AllReadyH.cons rfl (fun KQ hK => ?_) AllReadyH.nil
      have HRW := HROW.out.grow d1
      refine step_stL _ rfl _ _ _ rfl g (k * 129) (B N) rfl rfl (by rw [HNS.out]; exact HRW.2 k hlt) (by rw [HNS.out]; exact size_node) (B_one _) ?_
      have c4 : Below w.heap.size w (x1.setCells g (k * 129) (B N).toList) := setCells_below HG.out _ _ _ (grow_trans hb3 d1)
      have hput := HRW.put x (by rw [HTL.out]; exact hlt)
      rw [HTL.out, HX.out, ← HT.out] at hput
      have HPT := hidden hput
      have hS9 : (x1.setCells g (k * 129) (B N).toList).rangeAt g7 0 (B K).toList ∧ (x1.setCells g (k * 129) (B N).toList).cell? ⟨g7, 32, none⟩ = some (.slice va L vc) := by
        have h1 := HS.out _ d1
        have h2 : x1.rangeAt g7 32 [.slice va L vc] := fun j v hv => by
          obtain ⟨h3, h4⟩ := List.getElem?_eq_some_iff.1 hv
          have : j = 0 := by simpa using h3
          subst this
          have : Value.slice va L vc = v := by simpa using h4
          rw [← this]
          exact h1.2
        refine ⟨World.rangeAt_setCells_apart h1.1 _ _ _ (.inl (Ne.symm HG3.out)), ?_⟩
        have h5 := World.rangeAt_setCells_apart h2 g (k * 129) (B N).toList (.inl (Ne.symm HG3.out))
        exact h5 0 _ rfl
      refine hK.out _ _ hS9 (fun hHeld => ?_)
      clear hK KQ hput hS9 HRW
      refine wpAnyH_done (by kernel_rfl) ?_ _
      generalize x1.setCells g (k * 129) (B N).toList = x2 at c4 HPT ⊢
      have hg2 : Hid (g < x2.heap.size) := by
        obtain ⟨h1, _⟩ := HPT.out.2 k hlt 0 (by omega)
        obtain ⟨u, hu⟩ := Option.isSome_iff_exists.1 h1
        exact block_lt_of_cell hu
      go_wp2_with fail
      exact ⟨⟨k + 1, by omega, by go_num, HPT, hg2, c4⟩, by simp [intOf]; omega⟩
    · have hkn : k = es.length := by rw [← HN.out]; omega
      have z1 : ¬ (k : Int) < (n : Int) := by omega
      have HTK : Hid ((es.take k).map mkLf = es.map mkLf) := by show _ = _; rw [hkn, List.take_length]
      rw [HTK.out] at hrows
      have HSO : Hid (Calls Tryz.prog 188 #[.slice (some ⟨g, 0, none⟩) n n, .func (.func 189) #[] #[]] wr fun e w' => e = .returned (.tuple #[]) ∧ (∃ l', LvAt w' (.slice (some ⟨g, 0, none⟩) n n) l' ∧ l'.Perm (es.map mkLf) ∧ Rise l') ∧ Below w.heap.size w w') := by
        have hl : (es.map mkLf).length = n := by rw [List.length_map, HN.out]
        have := sort_any g (es.map mkLf) w wr (by rw [hl]; exact hrows.out) hgl.out hbw HG.out (by rw [hl]; exact hn) HNE.out
        rwa [hl] at this
      clear hrows hkn
      go_wp2_with (go_at_call 188; refine HSO.out.mono ?_; rintro e w5 ⟨rfl, ⟨l', p1, p2, p3⟩, b5⟩)
      go_ret2
      exact HPost.out _ _ _ p1 p2 p3 b5

end Go.Proofs.YtkhinjkcfjncgaaGreatDoor

/- node.rootAt, as a contract. -/
namespace Go.Proofs.YtkhinjkcfjncgaaGreatDoor
set_option maxRecDepth 20000
open Go.RowKit

theorem hash_facts (D : List Int) (h : D.length = 32) : (Tryz.prog.info? 103).map (·.size) = some (B D).size ∧ (B (List.replicate 32 0)).size = (B D).size := ⟨by rw [B_size, h]; exact sz_hash, by rw [B_size, B_size, h]; rfl⟩

set_option maxHeartbeats 2000000 in
theorem rootAt_none (d : Nat) (a : Option Addr) (cap : Nat) (w : World) (hL : Laid w) : Calls Tryz.prog 153 #[.slice a 0 cap, .int .i64 d] w fun e w' => e = .returned (.agg (B emD)) ∧ Below w.heap.size w w' := by
  have HL := hidden hL
  obtain ⟨D, hD⟩ : ∃ D, D = emD := ⟨_, rfl⟩
  have HF := hidden (hash_facts D (by rw [hD]; exact dig_length _))
  have HE : Hid (∀ w', Laid w' → Calls Tryz.prog 107 #[] w' fun e w'' => e = .returned (.agg (B D)) ∧ Below w'.heap.size w' w'') := fun w' hl => by rw [hD]; exact empty_any w' hl
  rw [← hD]
  clear hL hD
  go_enter Tryz.func153, Tryz.ntmps153
  go_wp2_with (first
    | ((with_reducible refine at_ald 4 ?_); refine wpList_al _ rfl _ rfl _ zero_hash ?_; intro w1 g1 hg1 hl1 B1 b1)
    | (go_at_call 107; refine (HE.out _ (HL.out.grow b1)).mono ?_; rintro e w2 ⟨rfl, b2⟩; have B2 := B1.grow b2)
    | ((with_reducible refine at_st 4 ?_); refine wpList_sto _ rfl _ _ _ rfl g1 _ (B D) rfl rfl B2 HF.out.1 HF.out.2 (B_one _) ?_; intro w3 B3 r3))
  exact bodyPost_ret (v := .agg (B D)) (results_cell_row rfl _ _ g1 _ _ _ _ rfl B3 Tryz.underlying103 rfl HF.out.1) rfl ⟨rfl, below_row (grow_trans b1 b2) r3 hg1⟩

set_option maxHeartbeats 2000000 in
theorem rootAt_leaf (d g off cap : Nat) (x : Lf) (w : World) (hr : w.rangeAt g off (encLf x)) (hL : Laid w) : Calls Tryz.prog 153 #[.slice (some ⟨g, off, none⟩) 1 cap, .int .i64 d] w fun e w' => e = .returned (.agg (B (lfD x.key x.val))) ∧ Below w.heap.size w w' := by
  have HL := hidden hL
  obtain ⟨D, hD⟩ : ∃ D, D = lfD x.key x.val := ⟨_, rfl⟩
  have HF := hidden (hash_facts D (by rw [hD]; exact dig_length _))
  have HE : Hid (∀ w', Laid w' → Calls Tryz.prog 179 #[.agg (B x.key), .agg (B x.val)] w' fun e w'' => e = .returned (.agg (B D)) ∧ Below w'.heap.size w' w'') := fun w' hl => by rw [hD]; exact leaf_any x.key x.val w' x.hk.1 x.hl x.hk.2 x.hb hl
  have HR : Hid (∀ w', Below w.heap.size w w' → w'.rangeAt g (off + 1) (B x.key).toList ∧ w'.rangeAt g (off + 33) (B x.val).toList) := fun w' hw' => ⟨range_grow (lf_key hr) hw', range_grow (lf_val hr) hw'⟩
  have HLK : Hid ((Tryz.prog.info? 72).map (·.size) = some (B x.key).toList.length) := by show _ = _; rw [B_toList, List.length_map, x.hk.1]; exact sz_path
  have HLV : Hid ((Tryz.prog.info? 103).map (·.size) = some (B x.val).toList.length) := by show _ = _; rw [B_toList, List.length_map, x.hl]; exact sz_hash
  obtain ⟨K, hK⟩ : ∃ K, K = x.key := ⟨_, rfl⟩
  obtain ⟨V, hV⟩ : ∃ V, V = x.val := ⟨_, rfl⟩
  rw [← hK] at HE HR HLK
  rw [← hV] at HE HR HLV
  rw [← hD]
  clear hL hD hK hV hr
  go_enter Tryz.func153, Tryz.ntmps153
  go_wp2_with (first
    | ((with_reducible refine at_ald 4 ?_); refine wpList_al _ rfl _ rfl _ zero_hash ?_; intro w1 g1 hg1 hl1 B1 b1))
  have d0 : Below w.heap.size w w1.drew := grow_trans b1 (Below.refl _ _).drew
  refine wp_region_held_drew (S := fun w' => w'.rangeAt g (off + 1) (B K).toList ∧ w'.rangeAt g (off + 33) (B V).toList) (by kernel_rfl) (HR.out _ d0) (fun hHeld => ?_)
  refine wpAnyH_take (i := 0) (v := .slice (some ⟨g, off, none⟩) 1 cap) rfl (by kernel_rfl) (by kernel_rfl) (by kernel_rfl) (fun _ _ _ h => h) (Or.inl ⟨by rfl, fun w hS => by go_simp⟩) hHeld ?_
  simp only [Act.put, List.getElem_toArray, List.getElem_cons_zero, List.setIfInBounds_toArray, List.set_cons_zero, List.set_cons_succ]
  refine wpAnyH_take (i := 1) (v := .pointer (some ⟨g, off, none⟩)) rfl (by kernel_rfl) (by kernel_rfl) (by kernel_rfl) (fun _ _ _ h => h) (Or.inl ⟨by rfl, fun w hS => by go_simp⟩) hHeld ?_
  simp only [Act.put, List.getElem_toArray, List.getElem_cons_zero, List.getElem_cons_succ, List.setIfInBounds_toArray, List.set_cons_zero, List.set_cons_succ]
  refine wpAnyH_take (i := 2) (v := .pointer (some ⟨g, off + 1, none⟩)) rfl (by kernel_rfl) (by kernel_rfl) (by kernel_rfl) (fun _ _ _ h => h) (Or.inl ⟨by rfl, fun w hS => by go_simp⟩) hHeld ?_
  simp only [Act.put, List.getElem_toArray, List.getElem_cons_zero, List.getElem_cons_succ, List.setIfInBounds_toArray, List.set_cons_zero, List.set_cons_succ]
  refine wpAnyH_take (i := 3) (v := .agg (B K)) rfl (by kernel_rfl) (by kernel_rfl) (by kernel_rfl) (fun _ _ _ h => h) (yieldsIf_load_mid rfl 72 (.tmp 16) rfl g (off + 1) rfl (B K).toList _ (fun w hS => hS.1) Tryz.underlying72 rfl HLK.out) hHeld ?_
  simp only [Act.put, List.getElem_toArray, List.getElem_cons_zero, List.getElem_cons_succ, List.setIfInBounds_toArray, List.set_cons_zero, List.set_cons_succ]
  refine wpAnyH_take (i := 4) (v := .slice (some ⟨g, off, none⟩) 1 cap) rfl (by kernel_rfl) (by kernel_rfl) (by kernel_rfl) (fun _ _ _ h => h) (Or.inl ⟨by rfl, fun w hS => by go_simp⟩) hHeld ?_
  simp only [Act.put, List.getElem_toArray, List.getElem_cons_zero, List.getElem_cons_succ, List.setIfInBounds_toArray, List.set_cons_zero, List.set_cons_succ]
  refine wpAnyH_take (i := 5) (v := .pointer (some ⟨g, off, none⟩)) rfl (by kernel_rfl) (by kernel_rfl) (by kernel_rfl) (fun _ _ _ h => h) (Or.inl ⟨by rfl, fun w hS => by go_simp⟩) hHeld ?_
  simp only [Act.put, List.getElem_toArray, List.getElem_cons_zero, List.getElem_cons_succ, List.setIfInBounds_toArray, List.set_cons_zero, List.set_cons_succ]
  refine wpAnyH_take (i := 6) (v := .pointer (some ⟨g, off + 33, none⟩)) rfl (by kernel_rfl) (by kernel_rfl) (by kernel_rfl) (fun _ _ _ h => h) (Or.inl ⟨by rfl, fun w hS => by go_simp⟩) hHeld ?_
  simp only [Act.put, List.getElem_toArray, List.getElem_cons_zero, List.getElem_cons_succ, List.setIfInBounds_toArray, List.set_cons_zero, List.set_cons_succ]
  refine wpAnyH_take (i := 7) (v := .agg (B V)) rfl (by kernel_rfl) (by kernel_rfl) (by kernel_rfl) (fun _ _ _ h => h) (yieldsIf_load_mid rfl 103 (.tmp 20) rfl g (off + 33) rfl (B V).toList _ (fun w hS => hS.2) Tryz.underlying103 rfl HLV.out) hHeld ?_
  simp only [Act.put, List.getElem_toArray, List.getElem_cons_zero, List.getElem_cons_succ, List.setIfInBounds_toArray, List.set_cons_zero, List.set_cons_succ]
  refine wpAnyH_ready (rs := [8]) (by kernel_rfl) (by simp) ?_
  refine AllReadyH.cons rfl (fun KQ hK => ?_) AllReadyH.nil
  go_simp
  refine (HE.out _ (HL.out.grow d0)).mono ?_
  rintro e x1 ⟨rfl, a1⟩
  have d1 := grow_trans d0 a1
  refine hK.out _ _ (HR.out _ d1) (fun hHeld => ?_)
  clear hK KQ
  refine wpAnyH_ready (rs := [9]) (by kernel_rfl) (by simp) ?_
  refine AllReadyH.cons rfl (fun KQ hK => ?_) AllReadyH.nil
  refine step_sto _ rfl _ _ _ rfl g1 _ (B D) rfl rfl (B1.drew.grow a1) HF.out.1 HF.out.2 (B_one _) ?_
  intro w4 B4 g4
  have c4 := below_row d1 g4 hg1
  refine hK.out _ _ (HR.out _ c4) (fun hHeld => ?_)
  clear hK KQ
  refine wpAnyH_done (by kernel_rfl) ?_ _
  go_wp2_with fail
  exact bodyPost_ret (v := .agg (B D)) (results_cell_row rfl _ _ g1 _ _ _ _ rfl B4 Tryz.underlying103 rfl HF.out.1) rfl ⟨rfl, c4⟩

theorem rtL_length (n d : Nat) (ls : List Lf) : (rtL n d ls).length = 32 := by
  match n, ls with
  | _, [] => rw [rtL_nil]; exact dig_length _
  | _, [x] => rw [rtL_one]; exact dig_length _
  | 0, _ :: _ :: _ => exact dig_length _
  | n + 1, a :: b :: l => rw [rtL_more n d _ (by simp)]; exact dig_length _
theorem rtL_bytes (n d : Nat) (ls : List Lf) : Bytes (rtL n d ls) := by
  match n, ls with
  | _, [] => rw [rtL_nil]; exact dig_bytes _
  | _, [x] => rw [rtL_one]; exact dig_bytes _
  | 0, _ :: _ :: _ => exact dig_bytes _
  | n + 1, a :: b :: l => rw [rtL_more n d _ (by simp)]; exact dig_bytes _

set_option maxHeartbeats 4000000 in
theorem rootAt_more (d : Nat) (a : Option Addr) (m cap : Nat) (R0 R1 : List Int) (P0 P1 : World → Value → Prop) (w : World) (hd : d < 256) (hm : 2 ≤ m) (l0 : R0.length = 32) (l1 : R1.length = 32) (y0 : Bytes R0) (y1 : Bytes R1) (hL : Laid w)
    (hg : ∀ w w' v, Below w.heap.size w w' → P1 w v → P1 w' v)
    (hp : ∀ w', Below w.heap.size w w' → Calls Tryz.prog 191 #[.slice a m cap, .int .i64 d] w' fun e w'' => ∃ v0 v1, e = .returned (.tuple #[v0, v1]) ∧ P0 w'' v0 ∧ P1 w'' v1 ∧ Below w'.heap.size w' w'')
    (h0 : ∀ w' v, P0 w' v → Laid w' → Calls Tryz.prog 153 #[v, .int .i64 ((d : Int) + 1)] w' fun e w'' => e = .returned (.agg (B R0)) ∧ Below w'.heap.size w' w'')
    (h1 : ∀ w' v, P1 w' v → Laid w' → Calls Tryz.prog 153 #[v, .int .i64 ((d : Int) + 1)] w' fun e w'' => e = .returned (.agg (B R1)) ∧ Below w'.heap.size w' w'') :
    Calls Tryz.prog 153 #[.slice a m cap, .int .i64 d] w fun e w' => e = .returned (.agg (B (inD R0 R1))) ∧ Below w.heap.size w w' := by
  have HL := hidden hL
  have HP := hidden hp
  have H0 := hidden h0
  have H1 := hidden h1
  have HG := hidden hg
  obtain ⟨D, hD⟩ : ∃ D, D = inD R0 R1 := ⟨_, rfl⟩
  have HF := hidden (hash_facts D (by rw [hD]; exact dig_length _))
  have HI : Hid (∀ w', Laid w' → Calls Tryz.prog 184 #[.agg (B R0), .agg (B R1)] w' fun e w'' => e = .returned (.agg (B D)) ∧ Below w'.heap.size w' w'') := fun w' hl => by rw [hD]; exact inner_any R0 R1 w' l0 l1 y0 y1 hl
  have hw : IntKind.i64.wrap ((d : Int) + 1) = (d : Int) + 1 := by rw [IntKind.wrap_i64]; omega
  have e0 : ((m : Int) == 0) = false := by simp; omega
  have e1 : ((m : Int) == 1) = false := by simp; omega
  rw [← hD]
  clear hL hD hp h0 h1 hg l0 l1 y0 y1 hm hd
  go_enter Tryz.func153, Tryz.ntmps153
  go_wp2_with (first
    | ((with_reducible refine at_ald 4 ?_); refine wpList_al _ rfl _ rfl _ zero_hash ?_; intro w1 g1 hg1 hl1 B1 b1; have KB := hidden B1.kp)
    | (go_at_call 191; refine (HP.out _ b1).mono ?_; rintro e w2 ⟨v0, v1, rfl, p0, p1, q2⟩; have HP0 := hidden p0; have HP1 := hidden p1; clear p0 p1; have c := grow_trans b1 q2; replace KB := hidden (KB.out.step q2))
    | (go_at_call 153; have mk := mk1; refine (H1.out _ _ HP1.out (HL.out.grow c)).mono ?_; rintro e w4 ⟨rfl, q4⟩; clear mk mk1; have cc := grow_trans c q4; clear c; have c := cc; clear cc; replace KB := hidden (KB.out.step q4))
    | (go_at_call 153; refine (H0.out _ _ HP0.out (HL.out.grow c)).mono ?_; rintro e w3 ⟨rfl, q3⟩; have mk1 : Hid True := trivial; have cc := grow_trans c q3; clear c; have c := cc; clear cc; replace KB := hidden (KB.out.step q3); replace HP1 := hidden (HG.out _ _ _ q3 HP1.out))
    | (go_at_call 184; refine (HI.out _ (HL.out.grow c)).mono ?_; rintro e w5 ⟨rfl, q5⟩; have cc := grow_trans c q5; clear c; have c := cc; clear cc; replace KB := hidden (KB.out.step q5))
    | ((with_reducible refine at_st 4 ?_); refine wpList_sto _ rfl _ _ _ rfl g1 _ (B D) rfl rfl KB.out.now HF.out.1 HF.out.2 (B_one _) ?_; intro w6 B6 r6))
  exact bodyPost_ret (v := .agg (B D)) (results_cell_row rfl _ _ g1 _ _ _ _ rfl B6 Tryz.underlying103 rfl HF.out.1) rfl ⟨rfl, below_row c r6 hg1⟩

theorem rootAt_any : ∀ (n d : Nat) (ls : List Lf) (v : Value) (w : World), d + n = 256 → ls.length ≤ 4096 → Rise ls → Same ls d → LvAt w v ls → Laid w →
    Calls Tryz.prog 153 #[v, .int .i64 d] w fun e w' => e = .returned (.agg (B (rtL n d ls))) ∧ Below w.heap.size w w' := by
  intro n
  induction n with
  | zero =>
    intro d ls v w hd hn hr hs hv hL
    obtain rfl : d = 256 := by omega
    have hf := hr.few hs
    obtain ⟨a, cap, rfl, hc, h⟩ := hv
    match ls, hf, h with
    | [], _, _ => rw [rtL_nil]; exact rootAt_none 256 a cap w hL
    | [x], _, h =>
      obtain ⟨g, off, rfl, hrr⟩ := h (by simp)
      have h0 := hrr 0 (by simp)
      rw [rtL_one]
      exact rootAt_leaf 256 g off cap x w (by simpa using h0) hL
  | succ n ih =>
    intro d ls v w hd hn hr hs hv hL
    obtain ⟨a, cap, rfl, hc, h⟩ := hv
    match ls, hn, hr, hs, hc, h with
    | [], _, _, _, _, _ => rw [rtL_nil]; exact rootAt_none d a cap w hL
    | [x], _, _, _, _, h =>
      obtain ⟨g, off, rfl, hrr⟩ := h (by simp)
      have h0 := hrr 0 (by simp)
      rw [rtL_one]
      exact rootAt_leaf d g off cap x w (by simpa using h0) hL
    | x :: y :: ls, hn, hr, hs, hc, h =>
      obtain ⟨g, off, rfl, hrr⟩ := h (by simp)
      rw [rtL_more n d _ (by simp)]
      have hle : ∀ b, (sdL (x :: y :: ls) d b).length ≤ 4096 := fun b => Nat.le_trans (List.length_filter_le _ _) hn
      have hi : ∀ b w' v, LvAt w' v (sdL (x :: y :: ls) d b) → Laid w' → Calls Tryz.prog 153 #[v, .int .i64 ((d : Int) + 1)] w' fun e w'' => e = .returned (.agg (B (rtL n (d + 1) (sdL (x :: y :: ls) d b)))) ∧ Below w'.heap.size w' w'' := by
        intro b w' v hv hl
        have := ih (d + 1) _ v w' (by omega) (hle b) (hr.side d b) (hs.side b) hv hl
        simpa using this
      exact rootAt_more d _ _ cap _ _ (fun w v => LvAt w v (sdL (x :: y :: ls) d 0)) (fun w v => LvAt w v (sdL (x :: y :: ls) d 1)) w (by omega) (by simp) (rtL_length _ _ _) (rtL_length _ _ _) (rtL_bytes _ _ _) (rtL_bytes _ _ _) hL
        (fun w w' v hb hv => hv.grow hb)
        (fun w' hb => part_any g off cap d (x :: y :: ls) w' (by omega) hn hc hr hs (fun i hi => range_grow (hrr i hi) hb))
        (hi 0) (hi 1)

end Go.Proofs.YtkhinjkcfjncgaaGreatDoor
